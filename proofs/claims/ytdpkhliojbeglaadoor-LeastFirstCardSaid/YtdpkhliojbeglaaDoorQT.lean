/- Texts put together: Od. -/
import Derived.Test.YtdpkhliojbeglaaDoorQP
import Derived.Test.YtdpkhliojbeglaaDoorQE
/- The developers' terms: learn. Stage 10. -/
namespace Go.Proofs.YtdpkhliojbeglaaDoor
open Go.RowKit BS

/-- Where nodes begin, and which groups are in them, in blocks. -/
def TmS (n L G : Nat) (V : Nat → Nat) (M : Nat → Nat → Bool) (W : World) : Prop := ∃ vs gs : Array Value, vs.size = n ∧ (∀ x, x < n → vs[x]? = some (.int .i64 (V x : Nat))) ∧ Blk W L vs 3 ∧ gs.size = n * 10 ∧ (∀ x m, x < n → m < 10 → gs[x * 10 + m]? = some (.bool (M x m))) ∧ Blk W G gs 152
theorem TmS.kp {n L G : Nat} {V : Nat → Nat} {M : Nat → Nat → Bool} {W W' : World} {A : Nat → Prop} (h : TmS n L G V M W) (k : KpA A W W') (h1 : ¬ A L) (h2 : ¬ A G) : TmS n L G V M W' := by
  obtain ⟨vs, gs, a, b, c, d, e, f⟩ := h
  exact ⟨vs, gs, a, b, c.kpA k h1, d, e, f.kpA k h2⟩
theorem TmS.below {n L G : Nat} {V : Nat → Nat} {M : Nat → Nat → Bool} {W W' : World} (h : TmS n L G V M W) (k : Below W.heap.size W W') : TmS n L G V M W' :=
  h.kp ((KpA.refl (fun _ => False) W).below k) id id
theorem TmS.drew {n L G : Nat} {V : Nat → Nat} {M : Nat → Nat → Bool} {W : World} (h : TmS n L G V M W) : TmS n L G V M W.drew := h
theorem TmS.drewN {n L G : Nat} {V : Nat → Nat} {M : Nat → Nat → Bool} {W : World} (h : TmS n L G V M W) (k : Nat) : TmS n L G V M (W.drewN k) := by
  obtain ⟨vs, gs, a, b, c, d, e, f⟩ := h
  exact ⟨vs, gs, a, b, c.drewN k, d, e, f.drewN k⟩
theorem TmS.low {n L G : Nat} {V : Nat → Nat} {M : Nat → Nat → Bool} {W : World} (h : TmS n L G V M W) (x : Nat) (hx : x < n) : W.cell? ⟨L, x, none⟩ = some (.int .i64 (V x : Nat)) ∧ W.frozen? ⟨L, x, none⟩ = false := by
  obtain ⟨vs, gs, a, b, c, d, e, f⟩ := h
  exact ⟨(c.cell x).trans (b x hx), c.frozen x⟩
theorem TmS.mark {n L G : Nat} {V : Nat → Nat} {M : Nat → Nat → Bool} {W : World} (h : TmS n L G V M W) (x m : Nat) (hx : x < n) (hm : m < 10) : W.cell? ⟨G, x * 10 + m, none⟩ = some (.bool (M x m)) ∧ W.frozen? ⟨G, x * 10 + m, none⟩ = false := by
  obtain ⟨vs, gs, a, b, c, d, e, f⟩ := h
  exact ⟨(f.cell _).trans (e x m hx hm), f.frozen _⟩
theorem TmS.row {n L G : Nat} {V : Nat → Nat} {M : Nat → Nat → Bool} {W : World} (h : TmS n L G V M W) (x : Nat) (hx : x < n) : W.rangeAt G (x * 10) (mkV (M x)).toList := fun j v hv => by
  have hj : j < 10 := (List.getElem?_eq_some_iff.1 hv).1
  rw [(h.mark x j hx hj).1]
  rw [Array.getElem?_toList, mkV_get (M x) j hj] at hv
  exact hv
theorem TmS.there {n L G : Nat} {V : Nat → Nat} {M : Nat → Nat → Bool} {W : World} (h : TmS n L G V M W) (x : Nat) (hx : x < n) : W.there G (x * 10) 10 := by
  obtain ⟨vs, gs, a, b, c, d, e, f⟩ := h
  exact f.there _ _ (by omega)
def upV (V : Nat → Nat) (i v : Nat) (x : Nat) : Nat := if x = i then v else V x
def upM (M : Nat → Nat → Bool) (i : Nat) (f : Nat → Bool) (x : Nat) : Nat → Bool := if x = i then f else M x
theorem TmS.setLow {n L G : Nat} {V : Nat → Nat} {M : Nat → Nat → Bool} {W : World} (h : TmS n L G V M W) (hLG : L ≠ G) (i : Nat) (hi : i < n) (v : Nat) : TmS n L G (upV V i v) M (W.setCell ⟨L, i, none⟩ (.int .i64 (v : Nat))) := by
  obtain ⟨vs, gs, a, b, c, d, e, f⟩ := h
  refine ⟨vs.setIfInBounds i (.int .i64 (v : Nat)), gs, by simp [a], fun x hx => ?_, c.set i _, d, e, f.other (Ne.symm hLG) i _⟩
  unfold upV
  by_cases hxi : x = i
  · subst hxi; rw [if_pos rfl]; simp [a, hx]
  · rw [if_neg hxi, Array.getElem?_setIfInBounds_ne (Ne.symm hxi)]; exact b x hx
theorem TmS.setRow {n L G : Nat} {V : Nat → Nat} {M : Nat → Nat → Bool} {W : World} (h : TmS n L G V M W) (hLG : L ≠ G) (i : Nat) (hi : i < n) (g : Nat → Bool) : TmS n L G V (upM M i g) (W.setCells G (i * 10) (mkV g).toList) := by
  obtain ⟨vs, gs, a, b, c, d, e, f⟩ := h
  refine ⟨vs, setL gs (i * 10) (mkV g).toList, a, b, c.otherCells hLG _ _, by rw [setL_size, d], fun x m hx hm => ?_, f.setCells _ _⟩
  rw [setL_get _ _ _ _ (by show i * 10 + 10 ≤ gs.size; omega)]
  unfold upM
  by_cases hxi : x = i
  · subst hxi
    rw [if_pos (by refine ⟨by omega, ?_⟩; show x * 10 + m < x * 10 + 10; omega), if_pos rfl, show x * 10 + m - x * 10 = m by omega, Array.getElem?_toList]
    exact mkV_get g m hm
  · rw [if_neg (by rintro ⟨h1, h2⟩; change x * 10 + m < i * 10 + 10 at h2; omega), if_neg hxi]
    exact e x m hx hm
theorem TmS.setMark {n L G : Nat} {V : Nat → Nat} {M : Nat → Nat → Bool} {W : World} (h : TmS n L G V M W) (hLG : L ≠ G) (i : Nat) (hi : i < n) (k : Nat) (hk : k < 10) (b : Bool) : TmS n L G V (upM M i fun m => if m = k then b else M i m) (W.setCell ⟨G, i * 10 + k, none⟩ (.bool b)) := by
  obtain ⟨vs, gs, a, b', c, d, e, f⟩ := h
  refine ⟨vs, gs.setIfInBounds (i * 10 + k) (.bool b), a, b', c.other hLG _ _, by simp [d], fun x m hx hm => ?_, f.set _ _⟩
  unfold upM
  by_cases hxi : x = i
  · subst hxi
    rw [if_pos rfl]
    by_cases hmk : m = k
    · subst hmk; rw [if_pos rfl, Array.getElem?_setIfInBounds_self_of_lt (by omega)]
    · rw [if_neg hmk, Array.getElem?_setIfInBounds_ne (by omega)]; exact e x m hx hm
  · rw [if_neg hxi, Array.getElem?_setIfInBounds_ne (by omega)]; exact e x m hx hm
theorem TmS.congr {n L G : Nat} {V V' : Nat → Nat} {M M' : Nat → Nat → Bool} {W : World} (h : TmS n L G V M W) (hV : ∀ x, x < n → V x = V' x) (hM : ∀ x m, x < n → m < 10 → M x m = M' x m) : TmS n L G V' M' W := by
  obtain ⟨vs, gs, a, b, c, d, e, f⟩ := h
  exact ⟨vs, gs, a, fun x hx => by rw [← hV x hx]; exact b x hx, c, d, fun x m hx hm => by rw [← hM x m hx hm]; exact e x m hx hm, f⟩
/-- What a node begins at, and what is in it, by its first parts. -/
def loF (V : Nat → Nat) (i : Nat) (ps : List Nat) : Nat := ps.foldl (fun a p => min a (V p)) i
def mkF (M : Nat → Nat → Bool) (ps : List Nat) (m : Nat) : Bool := ps.any fun p => M p m
theorem loF_le (V : Nat → Nat) (i : Nat) : ∀ ps : List Nat, loF V i ps ≤ i := by
  have h : ∀ (ps : List Nat) (a : Nat), ps.foldl (fun a p => min a (V p)) a ≤ a := fun ps => by
    induction ps with
    | nil => intro a; exact Nat.le_refl _
    | cons p ps ih => intro a; exact Nat.le_trans (ih _) (Nat.min_le_left _ _)
  exact fun ps => h ps i
theorem loF_snoc (V : Nat → Nat) (i : Nat) (ps : List Nat) (p : Nat) : loF V i (ps ++ [p]) = min (loF V i ps) (V p) := by simp [loF]
theorem mkF_snoc (M : Nat → Nat → Bool) (ps : List Nat) (p : Nat) (m : Nat) : mkF M (ps ++ [p]) m = (mkF M ps m || M p m) := by simp [mkF]
/-- Whether a node's number is new; what is in it. -/
def lnB (k : Int) (f : Nat → Bool) (K : Nat) : Bool := if k = 7 then !f K else true
def lnM (k : Int) (f : Nat → Bool) (K n : Nat) : Bool := if k = 7 ∧ n = K then true else f n
/-! ### By walks -/
theorem minI (x y : Nat) : (if y < x then (y : Int) else (x : Int)) = ((min x y : Nat) : Int) := by
  by_cases h : y < x
  · rw [if_pos h, Nat.min_eq_right (by omega)]
  · rw [if_neg h, Nat.min_eq_left (by omega)]
set_option maxRecDepth 100000 in
set_option maxHeartbeats 32000000 in
theorem learn_calls (l : List NdN) (hl : l.length ≤ 1000) (i : Nat) (hi : i < l.length) (a : Option Addr) (cap L G : Nat) (hLG : L ≠ G) (V : Nat → Nat) (M : Nat → Nat → Bool) (hM0 : ∀ m, m < 10 → M i m = false) (ps : List Nat) (hps : pK l[i].kids l[i].n 2 = ps.map fun p : Nat => (p : Int)) (hpi : ∀ p ∈ ps, p < i)
    (K : Nat) (hK : K < 10) (hm : l[i].kind = 7 → l[i].m = K) (w : World) (h : NodesAt l a w) (hL : L < w.heap.size) (hG : G < w.heap.size) (hS : TmS l.length L G V M w) :
    Calls Tryd.prog 82 #[.agg (tmC a l.length cap (some ⟨L, 0, none⟩) (some ⟨G, 0, none⟩)), .int .i64 i] w fun e w' => e = .returned (.bool (lnB l[i].kind (mkF M ps) K)) ∧
      TmS l.length L G (upV V i (loF V i ps)) (upM M i (lnM l[i].kind (mkF M ps) K)) w' ∧ KpA (fun k => k = L ∨ k = G) w w' := by
  have HM0 := Lib.hid hM0
  clear hM0
  have hne : l ≠ [] := by rintro rfl; simp at hi
  obtain ⟨g, off, rfl, hg, hc⟩ := h hne
  have hB0 : Below w.heap.size w (w.alloc (.cells (tmC (some ⟨g, off, none⟩) l.length cap (some ⟨L, 0, none⟩) (some ⟨G, 0, none⟩)) 120)) := by go_grown
  have hT := Blk.new w (tmC (some ⟨g, off, none⟩) l.length cap (some ⟨L, 0, none⟩) (some ⟨G, 0, none⟩)) 120
  have hz : (w.alloc (.cells (tmC (some ⟨g, off, none⟩) l.length cap (some ⟨L, 0, none⟩) (some ⟨G, 0, none⟩)) 120)).heap.size = w.heap.size + 1 := World.size_alloc ..
  have hcell := fun (j : Nat) (hj : j < 8) => (hB0.cell (p := ⟨g, off + i * 8 + j, none⟩) hg).trans (hc i hi j hj)
  have d0 := hcell 0 (by decide); have d1 := hcell 1 (by decide); have d2 := hcell 2 (by decide); have d3 := hcell 3 (by decide); have d4 := hcell 4 (by decide); have d5 := hcell 5 (by decide); have d6 := hcell 6 (by decide); have d7 := hcell 7 (by decide)
  simp only [ndA, List.getElem?_toArray, List.getElem?_cons_zero, List.getElem?_cons_succ, Nat.add_zero] at d0 d1 d2 d3 d4 d5 d6 d7
  generalize l[i] = x at *
  obtain ⟨k, kc, kn, km, t⟩ := x
  simp only at d0 d1 d2 d3 d4 d5 d6 d7 hps hm
  show Calls _ _ _ _ fun e w' => e = .returned (.bool (lnB k (mkF M ps) K)) ∧ TmS l.length L G (upV V i (loF V i ps)) (upM M i (lnM k (mkF M ps) K)) w' ∧ KpA (fun k => k = L ∨ k = G) w w'
  have hii : (i : Int) < (l.length : Int) := by omega
  have hd : decide (i < l.length) = true := by rw [decide_eq_true_iff]; omega
  have HKP := Lib.hid ((KpA.refl (fun k => k = L ∨ k = G) w).below hB0)
  have HTS := Lib.hid (hS.below hB0)
  clear hcell hc hne h hB0 hS
  go_enter Tryd.func82, Tryd.ntmps82
  go_upto_region 1 with fail
  generalize w.alloc (.cells (tmC (some ⟨g, off, none⟩) l.length cap (some ⟨L, 0, none⟩) (some ⟨G, 0, none⟩)) 120) = w1 at *
  have t0 := hT.cell 0; have t1 := hT.cell 1
  simp only [List.getElem?_toArray, List.getElem?_cons_zero, List.getElem?_cons_succ] at t0 t1
  have hN := Blk.new w1 (ndI k kc kn km t) 60
  rw [hz] at hN
  have hT2 := hT.alloc (.cells (ndI k kc kn km t) 60)
  have HKP2 := Lib.hid (HKP.out.alloc (.cells (ndI k kc kn km t) 60))
  have HTS2 := Lib.hid (HTS.out.below ((Below.refl w1.heap.size w1).alloc (Nat.le_refl _) (.cells (ndI k kc kn km t) 60)))
  have hz2 : (w1.alloc (.cells (ndI k kc kn km t) 60)).heap.size = w.heap.size + 2 := by rw [World.size_alloc, hz]
  go_upto_region 2 with fail
  clear d0 d1 d2 d3 d4 d5 d6 d7 hT t0 t1 HKP HTS hz
  generalize w1.alloc (.cells (ndI k kc kn km t) 60) = w2 at *
  have t1 := hT2.cell 1
  simp only [List.getElem?_toArray, List.getElem?_cons_zero, List.getElem?_cons_succ] at t1
  obtain ⟨cl, fl⟩ := HTS2.out.low i hi
  go_upto_region 3 with fail
  clear cl fl t1
  have hN3 := hN.other (show w.heap.size + 1 ≠ L by omega) i (.int .i64 (i : Nat))
  have hT3 := hT2.other (show w.heap.size ≠ L by omega) i (.int .i64 (i : Nat))
  have HKP3 := Lib.hid (HKP2.out.set (g := L) (.inl (.inl rfl)) i (.int .i64 (i : Nat)))
  have HTS3 := Lib.hid (HTS2.out.setLow hLG i hi i)
  have hz3 : (w2.setCell ⟨L, i, none⟩ (.int .i64 (i : Nat))).heap.size = w.heap.size + 2 := by simpa using hz2
  clear hN hT2 HKP2 HTS2 hz2
  generalize w2.setCell ⟨L, i, none⟩ (.int .i64 (i : Nat)) = w3 at *
  have n0 := hN3.cell 0; have n1 := hN3.cell 1; have n2 := hN3.cell 2; have n3 := hN3.cell 3; have n4 := hN3.cell 4; have n5 := hN3.cell 5; have n6 := hN3.cell 6; have n7 := hN3.cell 7
  simp only [List.getElem?_toArray, List.getElem?_cons_zero, List.getElem?_cons_succ] at n0 n1 n2 n3 n4 n5 n6 n7
  go_wp2_with fail
  clear n0 n1 n2 n3 n4 n5 n6 n7
  refine (parts_calls k kc kn km t _).mono ?_
  rintro e w4 ⟨b, q, rfl, hib, hb⟩
  rw [hps] at hib ⊢
  rw [List.length_map]
  have HIB := Lib.hid hib
  have hN4 := hN3.below hb (by omega)
  have hT4 := hT3.below hb (by omega)
  have HKP4 := Lib.hid (HKP3.out.below hb)
  have HTS4 := Lib.hid (HTS3.out.below hb)
  have hz4 : w.heap.size + 2 ≤ w4.heap.size := by have := hb.size; omega
  have HPL2 := Lib.hid (show ps.length ≤ 2 from by have := pK_len kc kn 2; rw [hps, List.length_map] at this; exact this)
  clear hib hb hN3 hT3 HKP3 HTS3 hps
  have HCT := Lib.hid (show ∀ W, KpA (fun k => k = L ∨ k = G) w4 W → W.cell? ⟨w.heap.size, 1, none⟩ = some (.slice (some ⟨L, 0, none⟩) l.length l.length) ∧ W.cell? ⟨w.heap.size, 2, none⟩ = some (.slice (some ⟨G, 0, none⟩) l.length l.length) from fun W hW => by
    have e := hT4.kpA hW (by rintro (h | h) <;> omega)
    exact ⟨e.cell 1, e.cell 2⟩)
  have HCN := Lib.hid (show ∀ W, KpA (fun k => k = L ∨ k = G) w4 W → Blk W (w.heap.size + 1) (ndI k kc kn km t) 60 from fun W hW => hN4.kpA hW (by rintro (h | h) <;> omega))
  have hpl2 : ps.length ≤ 2 := HPL2.out
  have HCP := Lib.hid (show ∀ W, KpA (fun k => k = L ∨ k = G) w4 W → ∀ j (hj : j < ps.length), ∃ gp op, b = some ⟨gp, op, none⟩ ∧ W.cell? ⟨gp, op + j, none⟩ = some (.int .i64 (ps[j] : Nat)) from fun W hW j hj => by
    obtain ⟨gp, op, e, h0, h1, h2⟩ := HIB.out (by intro h0; have := congrArg List.length h0; simp at this; rw [this] at hj; simp at hj)
    refine ⟨gp, op, e, (hW.cell h1 (by rintro (h | h) <;> omega) _).trans ?_⟩
    have := h2 j (by simpa using hj)
    simpa using this)
  clear HIB hT4 hN4
  go_upto_region 4 with fail
  go_loopw [22] (fun vi wr => ∃ j : Nat, j ≤ ps.length ∧ vi = .int .i64 j ∧ TmS l.length L G (upV V i (loF V i (ps.take j))) (upM M i (mkF M (ps.take j))) wr ∧ KpA (fun k => k = L ∨ k = G) w4 wr) (fun vi _ => ps.length - (intOf vi).toNat)
  case atStart => exact ⟨0, Nat.zero_le _, rfl, HTS4.out.congr (fun _ _ => rfl) (fun x m hx hm => by unfold upM; split <;> first | (rename_i hx2; rw [hx2]; exact HM0.out m hm) | rfl), KpA.refl _ _⟩
  case round =>
    clear HTS4
    obtain ⟨j, hj, rfl, hS, hKp⟩ := hrel
    by_cases hjl : j < ps.length
    · have hjd : decide ((j : Int) < (ps.length : Int)) = true := by rw [decide_eq_true_iff]; omega
      have hjd2 : decide (j < ps.length) = true := decide_eq_true hjl
      have hjI : (j : Int) < (ps.length : Int) := by omega
      have xj : IntKind.i64.wrap ((j : Int) + 1) = (j : Int) + 1 := IntWalk.i64_in _ (by omega)
      obtain ⟨gp, op, rfl, cp⟩ := HCP.out _ hKp j hjl
      have hpp := hpi _ (List.getElem_mem hjl)
      have HTK := Lib.hid (List.take_succ_eq_append_getElem hjl)
      generalize ps[j] = p at *
      have hpl : p < l.length := by omega
      have hpI : (p : Int) < (l.length : Int) := by omega
      have hpd : decide (p < l.length) = true := decide_eq_true hpl
      obtain ⟨ci, fi⟩ := hS.low i hi
      obtain ⟨cv, fv⟩ := hS.low p hpl
      rw [upV, if_pos rfl] at ci
      rw [upV, if_neg (by omega)] at cv
      have t1 := (HCT.out _ hKp).1
      have hmin := minI (loF V i (ps.take j)) (V p)
      rw [← loF_snoc, ← HTK.out] at hmin
      have hmk : (fun n => mkF M (ps.take j) n || M p n) = mkF M (ps.take (j + 1)) := by funext n; rw [HTK.out, mkF_snoc]
      have HS := Lib.hid hS
      have HKp := Lib.hid hKp
      have hM1 : upM M i (mkF M (ps.take j)) i = mkF M (ps.take j) := if_pos rfl
      have hM2 : upM M i (mkF M (ps.take j)) p = M p := if_neg (by omega)
      have HU : ∀ v, upV (upV V i (loF V i (ps.take j))) i v = upV V i v := fun v => by funext x; unfold upV; split <;> rfl
      have HUM : ∀ f, upM (upM M i (mkF M (ps.take j))) i f = upM M i f := fun f => by funext x; unfold upM; split <;> rfl
      clear hS hKp
      obtain ⟨lo2, hlo2⟩ : ∃ v, loF V i (ps.take (j + 1)) = v := ⟨_, rfl⟩
      obtain ⟨f3, hf3⟩ : ∃ v, mkF M (ps.take (j + 1)) = v := ⟨_, rfl⟩
      rw [hlo2] at hmin
      rw [hf3] at hmk
      have HLO2 := Lib.hid hlo2
      have HF3 := Lib.hid hf3
      clear hlo2 hf3
      generalize loF V i (ps.take j) = lo at *
      generalize V p = vp at *
      generalize mkF M (ps.take j) = f1 at *
      generalize M p = f2 at *
      go_upto_region 6 with fail
      refine region_stepsM (S := fun w' => w' = wr.drew) (m := 15) rfl (by kernel_rfl) rfl ?_
      simp only [List.size_toArray, List.length_cons, List.length_nil, Nat.reduceAdd, Array.replicate_succ, Array.replicate_zero, List.push_toArray, List.nil_append, List.cons_append]
      refine AnyM.next (m := 15) (i := 0) (d := some 26) (v := .pointer (some ⟨w.heap.size, 1, none⟩)) rfl rfl (by kernel_rfl) (by kernel_rfl) (by kernel_rfl) (by kernel_rfl) (StepsIf.yield (by kernel_rfl) (fun w' hS => by rw [hS]; clear hS; go_simp)) ?_
      intro a' ha'
      simp only [Act.put, List.setIfInBounds_toArray, List.set_cons_zero, List.set_cons_succ] at ha'
      subst ha'
      refine AnyM.next (m := 15) (i := 1) (d := some 27) (v := .slice (some ⟨L, 0, none⟩) l.length l.length) rfl rfl (by kernel_rfl) (by kernel_rfl) (by kernel_rfl) (by kernel_rfl) (StepsIf.yield (by kernel_rfl) (fun w' hS => by rw [hS]; clear hS; go_simp)) ?_
      intro a' ha'
      simp only [Act.put, List.setIfInBounds_toArray, List.set_cons_zero, List.set_cons_succ] at ha'
      subst ha'
      refine AnyM.next (m := 15) (i := 2) (d := some 28) (v := .int .i64 (i : Nat)) rfl rfl (by kernel_rfl) (by kernel_rfl) (by kernel_rfl) (by kernel_rfl) (StepsIf.yield (by kernel_rfl) (fun w' hS => by rw [hS]; clear hS; go_simp)) ?_
      intro a' ha'
      simp only [Act.put, List.setIfInBounds_toArray, List.set_cons_zero, List.set_cons_succ] at ha'
      subst ha'
      refine AnyM.next (m := 15) (i := 3) (d := some 29) (v := .pointer (some ⟨w.heap.size, 1, none⟩)) rfl rfl (by kernel_rfl) (by kernel_rfl) (by kernel_rfl) (by kernel_rfl) (StepsIf.yield (by kernel_rfl) (fun w' hS => by rw [hS]; clear hS; go_simp)) ?_
      intro a' ha'
      simp only [Act.put, List.setIfInBounds_toArray, List.set_cons_zero, List.set_cons_succ] at ha'
      subst ha'
      refine AnyM.next (m := 15) (i := 4) (d := some 30) (v := .slice (some ⟨L, 0, none⟩) l.length l.length) rfl rfl (by kernel_rfl) (by kernel_rfl) (by kernel_rfl) (by kernel_rfl) (StepsIf.yield (by kernel_rfl) (fun w' hS => by rw [hS]; clear hS; go_simp)) ?_
      intro a' ha'
      simp only [Act.put, List.setIfInBounds_toArray, List.set_cons_zero, List.set_cons_succ] at ha'
      subst ha'
      refine AnyM.next (m := 15) (i := 5) (d := some 31) (v := .int .i64 (i : Nat)) rfl rfl (by kernel_rfl) (by kernel_rfl) (by kernel_rfl) (by kernel_rfl) (StepsIf.yield (by kernel_rfl) (fun w' hS => by rw [hS]; clear hS; go_simp)) ?_
      intro a' ha'
      simp only [Act.put, List.setIfInBounds_toArray, List.set_cons_zero, List.set_cons_succ] at ha'
      subst ha'
      refine AnyM.next (m := 15) (i := 6) (d := some 32) (v := .pointer (some ⟨L, i, none⟩)) rfl rfl (by kernel_rfl) (by kernel_rfl) (by kernel_rfl) (by kernel_rfl) (StepsIf.yield (by kernel_rfl) (fun w' hS => by rw [hS]; clear hS; go_simp)) ?_
      intro a' ha'
      simp only [Act.put, List.setIfInBounds_toArray, List.set_cons_zero, List.set_cons_succ] at ha'
      subst ha'
      refine AnyM.next (m := 15) (i := 7) (d := some 33) (v := .int .i64 (lo : Nat)) rfl rfl (by kernel_rfl) (by kernel_rfl) (by kernel_rfl) (by kernel_rfl) (StepsIf.yield (by kernel_rfl) (fun w' hS => by rw [hS]; clear hS; go_simp)) ?_
      intro a' ha'
      simp only [Act.put, List.setIfInBounds_toArray, List.set_cons_zero, List.set_cons_succ] at ha'
      subst ha'
      refine AnyM.next (m := 15) (i := 8) (d := some 34) (v := .pointer (some ⟨w.heap.size, 1, none⟩)) rfl rfl (by kernel_rfl) (by kernel_rfl) (by kernel_rfl) (by kernel_rfl) (StepsIf.yield (by kernel_rfl) (fun w' hS => by rw [hS]; clear hS; go_simp)) ?_
      intro a' ha'
      simp only [Act.put, List.setIfInBounds_toArray, List.set_cons_zero, List.set_cons_succ] at ha'
      subst ha'
      refine AnyM.next (m := 15) (i := 9) (d := some 35) (v := .slice (some ⟨L, 0, none⟩) l.length l.length) rfl rfl (by kernel_rfl) (by kernel_rfl) (by kernel_rfl) (by kernel_rfl) (StepsIf.yield (by kernel_rfl) (fun w' hS => by rw [hS]; clear hS; go_simp)) ?_
      intro a' ha'
      simp only [Act.put, List.setIfInBounds_toArray, List.set_cons_zero, List.set_cons_succ] at ha'
      subst ha'
      refine AnyM.next (m := 15) (i := 10) (d := some 36) (v := .int .i64 (p : Nat)) rfl rfl (by kernel_rfl) (by kernel_rfl) (by kernel_rfl) (by kernel_rfl) (StepsIf.yield (by kernel_rfl) (fun w' hS => by rw [hS]; clear hS; go_simp)) ?_
      intro a' ha'
      simp only [Act.put, List.setIfInBounds_toArray, List.set_cons_zero, List.set_cons_succ] at ha'
      subst ha'
      refine AnyM.next (m := 15) (i := 11) (d := some 37) (v := .pointer (some ⟨L, p, none⟩)) rfl rfl (by kernel_rfl) (by kernel_rfl) (by kernel_rfl) (by kernel_rfl) (StepsIf.yield (by kernel_rfl) (fun w' hS => by rw [hS]; clear hS; go_simp)) ?_
      intro a' ha'
      simp only [Act.put, List.setIfInBounds_toArray, List.set_cons_zero, List.set_cons_succ] at ha'
      subst ha'
      refine AnyM.next (m := 15) (i := 12) (d := some 38) (v := .int .i64 (vp : Nat)) rfl rfl (by kernel_rfl) (by kernel_rfl) (by kernel_rfl) (by kernel_rfl) (StepsIf.yield (by kernel_rfl) (fun w' hS => by rw [hS]; clear hS; go_simp)) ?_
      intro a' ha'
      simp only [Act.put, List.setIfInBounds_toArray, List.set_cons_zero, List.set_cons_succ] at ha'
      subst ha'
      refine AnyM.next (m := 15) (i := 13) (d := some 39) (v := .int .i64 (lo2 : Nat)) rfl rfl (by kernel_rfl) (by kernel_rfl) (by kernel_rfl) (by kernel_rfl) (StepsIf.yield (by kernel_rfl) (fun w' hS => by rw [hS]; clear hS; go_simp)) ?_
      intro a' ha'
      simp only [Act.put, List.setIfInBounds_toArray, List.set_cons_zero, List.set_cons_succ] at ha'
      subst ha'
      refine AnyM.next (m := 15) (i := 14) (d := some 40) (v := .pointer (some ⟨L, i, none⟩)) rfl rfl (by kernel_rfl) (by kernel_rfl) (by kernel_rfl) (by kernel_rfl) (StepsIf.yield (by kernel_rfl) (fun w' hS => by rw [hS]; clear hS; go_simp)) ?_
      intro a' ha'
      simp only [Act.put, List.setIfInBounds_toArray, List.set_cons_zero, List.set_cons_succ] at ha'
      subst ha'
      refine AnyM.last rfl (by kernel_rfl) (by kernel_rfl) (by kernel_rfl) (fun w5 hS K hK => ?_)
      subst hS
      go_simp
      refine hK _ _ ?_
      clear hK K
      skip
      have HS5 := Lib.hid ((HS.out.setLow hLG i hi lo2).drew)
      have HKp5 := Lib.hid ((HKp.out.set (g := L) (.inl (.inl rfl)) i (.int .i64 (lo2 : Nat))).drew)
      rw [HU] at HS5
      clear HS HKp t1 ci fi cv fv cp
      generalize (wr.setCell ⟨L, i, none⟩ (.int .i64 (lo2 : Nat))).drew = w5 at *
      have hrow1 : ∀ W, TmS l.length L G (upV V i lo2) (upM M i f1) W → W.rangeAt G (i * 10) (mkV f1).toList := fun W hW => by
        have := hW.row i hi
        rw [hM1] at this
        exact this
      have hrow2 : ∀ W, TmS l.length L G (upV V i lo2) (upM M i f1) W → W.rangeAt G (p * 10) (mkV f2).toList := fun W hW => by
        have := hW.row p hpl
        rw [hM2] at this
        exact this
      go_upto_region 7 with fail
      refine region_stepsM (S := fun w' => KpA (fun k => k = L ∨ k = G) w4 w' ∧ TmS l.length L G (upV V i lo2) (upM M i f1) w') (m := 15) rfl (by kernel_rfl) ⟨HKp5.out.drew, HS5.out.drew⟩ ?_
      simp only [List.size_toArray, List.length_cons, List.length_nil, Nat.reduceAdd, Array.replicate_succ, Array.replicate_zero, List.push_toArray, List.nil_append, List.cons_append]
      refine AnyM.next (m := 15) (i := 0) (d := some 41) (v := .pointer (some ⟨w.heap.size, 2, none⟩)) rfl rfl (by kernel_rfl) (by kernel_rfl) (by kernel_rfl) (by kernel_rfl) (StepsIf.yield (by kernel_rfl) (fun w' hS => by have t2 := (HCT.out _ hS.1).2; clear hS; go_simp)) ?_
      intro a' ha'
      simp only [Act.put, List.setIfInBounds_toArray, List.set_cons_zero, List.set_cons_succ] at ha'
      subst ha'
      refine AnyM.next (m := 15) (i := 1) (d := some 42) (v := .slice (some ⟨G, 0, none⟩) l.length l.length) rfl rfl (by kernel_rfl) (by kernel_rfl) (by kernel_rfl) (by kernel_rfl) (StepsIf.yield (by kernel_rfl) (fun w' hS => by have t2 := (HCT.out _ hS.1).2; clear hS; go_simp)) ?_
      intro a' ha'
      simp only [Act.put, List.setIfInBounds_toArray, List.set_cons_zero, List.set_cons_succ] at ha'
      subst ha'
      refine AnyM.next (m := 15) (i := 2) (d := some 43) (v := .int .i64 (i : Nat)) rfl rfl (by kernel_rfl) (by kernel_rfl) (by kernel_rfl) (by kernel_rfl) (StepsIf.yield (by kernel_rfl) (fun w' hS => by have t2 := (HCT.out _ hS.1).2; clear hS; go_simp)) ?_
      intro a' ha'
      simp only [Act.put, List.setIfInBounds_toArray, List.set_cons_zero, List.set_cons_succ] at ha'
      subst ha'
      refine AnyM.next (m := 15) (i := 3) (d := some 44) (v := .pointer (some ⟨w.heap.size, 2, none⟩)) rfl rfl (by kernel_rfl) (by kernel_rfl) (by kernel_rfl) (by kernel_rfl) (StepsIf.yield (by kernel_rfl) (fun w' hS => by have t2 := (HCT.out _ hS.1).2; clear hS; go_simp)) ?_
      intro a' ha'
      simp only [Act.put, List.setIfInBounds_toArray, List.set_cons_zero, List.set_cons_succ] at ha'
      subst ha'
      refine AnyM.next (m := 15) (i := 4) (d := some 45) (v := .slice (some ⟨G, 0, none⟩) l.length l.length) rfl rfl (by kernel_rfl) (by kernel_rfl) (by kernel_rfl) (by kernel_rfl) (StepsIf.yield (by kernel_rfl) (fun w' hS => by have t2 := (HCT.out _ hS.1).2; clear hS; go_simp)) ?_
      intro a' ha'
      simp only [Act.put, List.setIfInBounds_toArray, List.set_cons_zero, List.set_cons_succ] at ha'
      subst ha'
      refine AnyM.next (m := 15) (i := 5) (d := some 46) (v := .int .i64 (i : Nat)) rfl rfl (by kernel_rfl) (by kernel_rfl) (by kernel_rfl) (by kernel_rfl) (StepsIf.yield (by kernel_rfl) (fun w' hS => by have t2 := (HCT.out _ hS.1).2; clear hS; go_simp)) ?_
      intro a' ha'
      simp only [Act.put, List.setIfInBounds_toArray, List.set_cons_zero, List.set_cons_succ] at ha'
      subst ha'
      refine AnyM.next (m := 15) (i := 6) (d := some 47) (v := .pointer (some ⟨G, i * 10, none⟩)) rfl rfl (by kernel_rfl) (by kernel_rfl) (by kernel_rfl) (by kernel_rfl) (StepsIf.yield (by kernel_rfl) (fun w' hS => by have t2 := (HCT.out _ hS.1).2; clear hS; go_simp)) ?_
      intro a' ha'
      simp only [Act.put, List.setIfInBounds_toArray, List.set_cons_zero, List.set_cons_succ] at ha'
      subst ha'
      refine AnyM.next (m := 15) (i := 7) (d := some 48) (v := .agg (mkV f1)) rfl rfl (by kernel_rfl) (by kernel_rfl) (by kernel_rfl) (by kernel_rfl) (StepsIf.load_mid (by kernel_rfl) 152 _ rfl G (i * 10) rfl (mkV f1).toList _ rfl _ (fun w' hS => hrow1 _ hS.2) Tryd.underlying152 rfl infoMk) ?_
      intro a' ha'
      simp only [Act.put, List.setIfInBounds_toArray, List.set_cons_zero, List.set_cons_succ] at ha'
      subst ha'
      refine AnyM.next (m := 15) (i := 8) (d := some 49) (v := .pointer (some ⟨w.heap.size, 2, none⟩)) rfl rfl (by kernel_rfl) (by kernel_rfl) (by kernel_rfl) (by kernel_rfl) (StepsIf.yield (by kernel_rfl) (fun w' hS => by have t2 := (HCT.out _ hS.1).2; clear hS; go_simp)) ?_
      intro a' ha'
      simp only [Act.put, List.setIfInBounds_toArray, List.set_cons_zero, List.set_cons_succ] at ha'
      subst ha'
      refine AnyM.next (m := 15) (i := 9) (d := some 50) (v := .slice (some ⟨G, 0, none⟩) l.length l.length) rfl rfl (by kernel_rfl) (by kernel_rfl) (by kernel_rfl) (by kernel_rfl) (StepsIf.yield (by kernel_rfl) (fun w' hS => by have t2 := (HCT.out _ hS.1).2; clear hS; go_simp)) ?_
      intro a' ha'
      simp only [Act.put, List.setIfInBounds_toArray, List.set_cons_zero, List.set_cons_succ] at ha'
      subst ha'
      refine AnyM.next (m := 15) (i := 10) (d := some 51) (v := .int .i64 (p : Nat)) rfl rfl (by kernel_rfl) (by kernel_rfl) (by kernel_rfl) (by kernel_rfl) (StepsIf.yield (by kernel_rfl) (fun w' hS => by have t2 := (HCT.out _ hS.1).2; clear hS; go_simp)) ?_
      intro a' ha'
      simp only [Act.put, List.setIfInBounds_toArray, List.set_cons_zero, List.set_cons_succ] at ha'
      subst ha'
      refine AnyM.next (m := 15) (i := 11) (d := some 52) (v := .pointer (some ⟨G, p * 10, none⟩)) rfl rfl (by kernel_rfl) (by kernel_rfl) (by kernel_rfl) (by kernel_rfl) (StepsIf.yield (by kernel_rfl) (fun w' hS => by have t2 := (HCT.out _ hS.1).2; clear hS; go_simp)) ?_
      intro a' ha'
      simp only [Act.put, List.setIfInBounds_toArray, List.set_cons_zero, List.set_cons_succ] at ha'
      subst ha'
      refine AnyM.next (m := 15) (i := 12) (d := some 53) (v := .agg (mkV f2)) rfl rfl (by kernel_rfl) (by kernel_rfl) (by kernel_rfl) (by kernel_rfl) (StepsIf.load_mid (by kernel_rfl) 152 _ rfl G (p * 10) rfl (mkV f2).toList _ rfl _ (fun w' hS => hrow2 _ hS.2) Tryd.underlying152 rfl infoMk) ?_
      intro a' ha'
      simp only [Act.put, List.setIfInBounds_toArray, List.set_cons_zero, List.set_cons_succ] at ha'
      subst ha'
      refine AnyM.next (m := 15) (i := 13) (d := some 54) (v := .agg (mkV f3)) rfl rfl (by kernel_rfl) (by kernel_rfl) (by kernel_rfl) (by kernel_rfl) (StepsIf.call (by kernel_rfl) (fun w' hS => by clear hS; go_simp) (fun w' hS => (with_core f1 f2 f3 hmk w').mono fun e w'' h => ⟨h.1, hS.1.below h.2, hS.2.below h.2⟩)) ?_
      intro a' ha'
      simp only [Act.put, List.setIfInBounds_toArray, List.set_cons_zero, List.set_cons_succ] at ha'
      subst ha'
      refine AnyM.next (m := 15) (i := 14) (d := some 55) (v := .pointer (some ⟨G, i * 10, none⟩)) rfl rfl (by kernel_rfl) (by kernel_rfl) (by kernel_rfl) (by kernel_rfl) (StepsIf.yield (by kernel_rfl) (fun w' hS => by have t2 := (HCT.out _ hS.1).2; clear hS; go_simp)) ?_
      intro a' ha'
      simp only [Act.put, List.setIfInBounds_toArray, List.set_cons_zero, List.set_cons_succ] at ha'
      subst ha'
      refine AnyM.last rfl (by kernel_rfl) (by kernel_rfl) (by kernel_rfl) (fun w6 hS K hK => ?_)
      refine wp_store_mid 152 _ _ rfl G (i * 10) (mkV f3) rfl rfl (hS.2.there i hi) infoMk (mkV_one _) ?_
      refine hK _ _ ?_
      have HS7 := Lib.hid (hS.2.setRow hLG i hi f3)
      have HKp7 := Lib.hid (hS.1.setCells (g := G) (.inl (.inr rfl)) (i * 10) (mkV f3).toList)
      rw [HUM] at HS7
      clear hK K hS HS5 HKp5 hrow1 hrow2
      generalize w6.setCells G (i * 10) (mkV f3).toList = w7 at *
      go_wp2_with fail
      go_roundw
      case rel => exact ⟨j + 1, by omega, by simp, by rw [HLO2.out, HF3.out]; exact HS7.out, HKp7.out⟩
      case measure => simp [intOf]; omega
    · obtain rfl : j = ps.length := by omega
      have hjd : decide ((ps.length : Int) < (ps.length : Int)) = false := by simp
      rw [List.take_of_length_le (Nat.le_refl _)] at hS
      have HKw := Lib.hid (HKP4.out.trans hKp)
      have hb3 := HCN.out _ hKp
      have n0 := hb3.cell 0; have n3 := hb3.cell 3
      simp only [List.getElem?_toArray, List.getElem?_cons_zero, List.getElem?_cons_succ] at n0 n3
      have t2 := (HCT.out _ hKp).2
      by_cases h7 : k = 7
      · have hm7 := hm h7
        subst h7 hm7
        obtain ⟨cm, fm⟩ := hS.mark i K hi hK
        rw [upM, if_pos rfl] at cm
        have HS := Lib.hid hS
        have HKp := Lib.hid hKp
        have hKI : (K : Int) < 10 := by omega
        have hKd : decide (K < 10) = true := decide_eq_true hK
        clear hS hKp hb3
        go_upto_region 11 with fail
        go_quiet (fail)
        have HS2 := Lib.hid (HS.out.drewN nq)
        have HKp2 := Lib.hid (HKp.out.drewN nq)
        have hb5 := HCN.out _ HKp2.out
        have n3 := hb5.cell 3
        simp only [List.getElem?_toArray, List.getElem?_cons_zero, List.getElem?_cons_succ] at n3
        obtain ⟨cm, fm⟩ := HS2.out.mark i K hi hK
        have t2 := (HCT.out _ HKp2.out).2
        have HKw2 := Lib.hid (HKw.out.drewN nq)
        clear HS HKp hb5 HKw
        generalize wr.drewN nq = w5 at *
        go_upto_region 12 with fail
        go_region
        have HS3 := Lib.hid ((HS2.out.setMark hLG i hi K hK true).drew)
        have HKw3 := Lib.hid ((HKw2.out.set (g := G) (.inl (.inr rfl)) (i * 10 + K) (.bool true)).drew)
        have HS4 := Lib.hid (HS3.out.congr (V' := upV V i (loF V i ps)) (M' := upM M i (lnM 7 (mkF M ps) K)) (fun _ _ => rfl) (fun x m _ _ => by
          unfold upM lnM
          by_cases hx : x = i
          · rw [if_pos hx, if_pos hx]
            by_cases hmk : m = K
            · rw [if_pos hmk, if_pos ⟨rfl, hmk⟩]
            · rw [if_neg hmk, if_pos rfl, if_neg (fun h => hmk h.2)]
          · rw [if_neg hx, if_neg hx, if_neg hx]))
        clear HS2 HS3 HKw2 cm fm n3 t2
        generalize (w5.setCell ⟨G, i * 10 + K, none⟩ (.bool true)).drew = w8 at *
        have H7 := Lib.hid (show lnB 7 (mkF M ps) K = !mkF M ps K from if_pos rfl)
        go_wp2_with fail
        go_ret
        exact ⟨by rw [H7.out] <;> rfl, HS4.out, HKw3.out⟩
      · have q7 : (k == 7) = false := by rw [beq_eq_false_iff_ne]; exact h7
        have q7n : (k != 7) = true := by rw [bne, q7]; rfl
        have HS := Lib.hid (hS.congr (V' := upV V i (loF V i ps)) (M' := upM M i (lnM k (mkF M ps) K)) (fun _ _ => rfl) (fun x m _ _ => by
          unfold upM
          by_cases hx : x = i
          · rw [if_pos hx, if_pos hx]; exact (if_neg (fun h => h7 h.1)).symm
          · rw [if_neg hx, if_neg hx]))
        have H7 := Lib.hid (show lnB k (mkF M ps) K = true from if_neg h7)
        clear hS hKp hb3 h7
        go_wp2_with fail
        go_ret
        exact ⟨by rw [H7.out] <;> rfl, HS.out, HKw.out⟩
end Go.Proofs.YtdpkhliojbeglaaDoor

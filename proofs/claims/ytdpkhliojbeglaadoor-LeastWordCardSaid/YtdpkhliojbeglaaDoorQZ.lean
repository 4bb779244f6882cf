/- Texts put together: Xq. -/
import Derived.Test.YtdpkhliojbeglaaDoorQS
import Derived.Test.YtdpkhliojbeglaaDoorQU
import Derived.Test.YtdpkhliojbeglaaDoorQAa
import Derived.Test.YtdpkhliojbeglaaDoorQC
import Derived.BigQuiet
import Derived.Deep.QuietTactic
/- The developers' best and Word. Stage 12. -/
namespace Go.Proofs.YtdpkhliojbeglaaDoor
open Go.RowKit BS

theorem infoRwF : (Tryd.prog.info? 95).map (fun i => (i.zero, i.size, i.bytes)) = some (some (.agg (rwC none 0 0 false)), 2, 32) := by kernel_rfl
def rwZ (n : Nat) : Array Value := madeCells (rwC none 0 0 false) (n * 2)
theorem rwZ_size (n : Nat) : (rwZ n).size = n * 2 := size_madeCells _ _
theorem rwZ_get (n k : Nat) (h : k < n) : (rwZ n)[k * 2]? = some (.slice none 0 0) ∧ (rwZ n)[k * 2 + 1]? = some (.bool false) := by
  unfold rwZ madeCells
  rw [Array.getElem?_map, Array.getElem?_range, if_pos (by omega), Array.getElem?_map, Array.getElem?_range, if_pos (by omega)]
  have e1 : (k * 2) % 2 = 0 := by omega
  have e2 : (k * 2 + 1) % 2 = 1 := by omega
  constructor
  · show some ((rwC none 0 0 false)[(k * 2) % 2]!) = _
    rw [e1]; rfl
  · show some ((rwC none 0 0 false)[(k * 2 + 1) % 2]!) = _
    rw [e2]; rfl
theorem makeRw (n : Nat) (hn : n ≤ 1000) (W : World) : (Instr.makeSlice 93 (.int .i64 (n : Int)) (.int .i64 (n : Int))).run Tryd.prog W = .ok (.slice (some ⟨W.heap.size, 0, none⟩) n n) (W.alloc (.cells (rwZ n) 95)) := by
  obtain ⟨i, hi, hzz⟩ := Option.map_eq_some_iff.1 infoRwF
  simp only [Prod.mk.injEq] at hzz
  obtain ⟨hz, hs, hb⟩ := hzz
  have := run_make (P := Tryd.prog) W 93 95 i _ Tryd.underlying93 hi hz .i64 .i64 n n (by omega) (by omega) (by rw [hb]; omega) (by omega)
  rw [hs, Int.toNat_natCast] at this
  exact this
theorem row_setRow {L : List Nat} {v : Value} {W : World} (h : RowV L v W) {T : Nat} {vs : Array Value} {t : TypeId} (hT : Blk W T vs t) (hv : ∀ x n : Nat, vs[x]? ≠ some (.int .u8 n)) (cs : Array Value) : RowV L v (W.setRow T cs) := by
  rcases h with h | ⟨g, o, c, e, hg, hc⟩
  · exact .inl h
  · have hs : (W.setRow T cs).heap.size = W.heap.size := Array.size_modify ..
    refine .inr ⟨g, o, c, e, by rw [hs]; exact hg, fun j hj => ?_⟩
    have hne : g ≠ T := fun e' => by
      subst e'
      have := hc j hj
      rw [hT.cell] at this
      exact hv _ _ this
    refine Eq.trans ?_ (hc j hj)
    unfold World.cell?
    rw [row_kept7 W T cs g hne]
/-- The rows of n nodes. -/
structure RwS (n R : Nat) (fL : Nat → List Nat) (fI : Nat → Bool) (W : World) : Prop where
  row : ∃ vs : Array Value, vs.size = n * 2 ∧ (∀ x, x < n → ∃ v, vs[x * 2]? = some v ∧ RowV (fL x) v W ∧ vs[x * 2 + 1]? = some (.bool (fI x))) ∧ Blk W R vs 95
variable {n R : Nat} {fL : Nat → List Nat} {fI : Nat → Bool} {W W' : World}
theorem RwS.lt (h : RwS n R fL fI W) : R < W.heap.size := by
  obtain ⟨vs, _, _, h3⟩ := h.row
  exact h3.lt
theorem RwS.below (h : RwS n R fL fI W) (hb : Below W.heap.size W W') : RwS n R fL fI W' := by
  obtain ⟨vs, h1, h2, h3⟩ := h.row
  exact ⟨vs, h1, fun x hx => by obtain ⟨v, e, r, e2⟩ := h2 x hx; exact ⟨v, e, r.below hb, e2⟩, h3.below hb h3.lt⟩
theorem RwS.drew (h : RwS n R fL fI W) : RwS n R fL fI W.drew := h.below (Below.refl _ _).drew
theorem RwS.cell (h : RwS n R fL fI W) (x : Nat) (hx : x < n) : ∃ a c, W.cell? ⟨R, x * 2, none⟩ = some (.slice a (fL x).length c) ∧ RowV (fL x) (.slice a (fL x).length c) W ∧ W.cell? ⟨R, x * 2 + 1, none⟩ = some (.bool (fI x)) := by
  obtain ⟨vs, h1, h2, h3⟩ := h.row
  obtain ⟨v, e, r, e2⟩ := h2 x hx
  obtain ⟨a, c, rfl⟩ := r.form
  exact ⟨a, c, (h3.cell _).trans e, r, (h3.cell _).trans e2⟩
theorem RwS.fr (h : RwS n R fL fI W) (x : Nat) : W.frozen? ⟨R, x, none⟩ = false := by
  obtain ⟨vs, _, _, h3⟩ := h.row
  exact h3.frozen x
theorem RwS.set (h : RwS n R fL fI W) (i : Nat) {a : Option Addr} {c : Nat} {L : List Nat} (hv : RowV L (.slice a L.length c) W) (b : Bool) :
    RwS n R (fun x => if x = i then L else fL x) (fun x => if x = i then b else fI x) ((W.setCell ⟨R, i * 2, none⟩ (.slice a L.length c)).setCell ⟨R, i * 2 + 1, none⟩ (.bool b)) := by
  obtain ⟨vs, h1, h2, h3⟩ := h.row
  have hu : ∀ y m : Nat, vs[y]? ≠ some (.int .u8 m) := fun y m e' => by
    have hy : y < n * 2 := by
      have := (Array.getElem?_eq_some_iff.1 e').1
      omega
    obtain ⟨v', e, r, e2⟩ := h2 (y / 2) (by omega)
    rcases Nat.mod_two_eq_zero_or_one y with hm | hm
    · rw [show y / 2 * 2 = y by omega] at e
      rw [e] at e'
      exact r.not_u8 m (Option.some.inj e')
    · rw [show y / 2 * 2 + 1 = y by omega] at e2
      rw [e2] at e'
      cases e'
  have hu2 : ∀ y m : Nat, (vs.setIfInBounds (i * 2) (.slice a L.length c))[y]? ≠ some (.int .u8 m) := fun y m e' => by
    rw [Array.getElem?_setIfInBounds] at e'
    split at e'
    · split at e' <;> simp at e'
    · exact hu y m e'
  refine ⟨⟨(vs.setIfInBounds (i * 2) (.slice a L.length c)).setIfInBounds (i * 2 + 1) (.bool b), by simp [h1], fun x hx => ?_, (h3.set _ _).set _ _⟩⟩
  show ∃ v, _ = some v ∧ RowV (if x = i then L else fL x) v _ ∧ _ = some (Value.bool (if x = i then b else fI x))
  by_cases hxi : x = i
  · subst hxi
    rw [if_pos rfl, if_pos rfl]
    refine ⟨.slice a L.length c, ?_, (hv.set h3 hu _ _).set (h3.set _ _) hu2 _ _, ?_⟩
    · rw [Array.getElem?_setIfInBounds_ne (by omega), Array.getElem?_setIfInBounds_self_of_lt (by omega)]
    · rw [Array.getElem?_setIfInBounds_self_of_lt (by rw [Array.size_setIfInBounds]; omega)]
  · rw [if_neg hxi, if_neg hxi]
    obtain ⟨v', e, r, e2⟩ := h2 x hx
    refine ⟨v', ?_, (r.set h3 hu _ _).set (h3.set _ _) hu2 _ _, ?_⟩
    · rw [Array.getElem?_setIfInBounds_ne (by omega), Array.getElem?_setIfInBounds_ne (by omega)]; exact e
    · rw [Array.getElem?_setIfInBounds_ne (by omega), Array.getElem?_setIfInBounds_ne (by omega)]; exact e2
theorem RwS.congr {fL' : Nat → List Nat} {fI' : Nat → Bool} (h : RwS n R fL fI W) (e1 : ∀ x, x < n → fL x = fL' x) (e2 : ∀ x, x < n → fI x = fI' x) : RwS n R fL' fI' W := by
  obtain ⟨vs, h1, h2, h3⟩ := h.row
  exact ⟨vs, h1, fun x hx => by rw [← e1 x hx, ← e2 x hx]; exact h2 x hx, h3⟩
theorem rw_step {l : List NdN} {i : Nat} {a : Option Addr} {c : Nat} (h : RwS n R (pL l i) (pI l i) W) (hv : RowV (wdL l i) (.slice a (wdL l i).length c) W) : RwS n R (pL l (i + 1)) (pI l (i + 1)) ((W.setCell ⟨R, i * 2, none⟩ (.slice a (wdL l i).length c)).setCell ⟨R, i * 2 + 1, none⟩ (.bool (wdI l i))) :=
  (h.set i hv (wdI l i)).congr (fun x _ => by
    by_cases hx : x = i
    · rw [if_pos hx, hx, (p_at l i).1]
    · rw [if_neg hx]; exact (p_ne l i x hx).1) (fun x _ => by
    by_cases hx : x = i
    · rw [if_pos hx, hx, (p_at l i).2]
    · rw [if_neg hx]; exact (p_ne l i x hx).2)
set_option maxRecDepth 100000 in
set_option maxHeartbeats 16000000 in
theorem best_calls (l : List NdN) (hr : rightT l = true) (hl : l.length ≤ 1000) (i : Nat) (hi : i < l.length) (R : Nat) (w : World) (hT : Tab w) (hw : 0 < w.heap.size) (h : RwS l.length R (pL l i) (pI l i) w) :
    Calls Tryd.prog 47 #[.agg (ndA l[i]), .slice (some ⟨R, 0, none⟩) l.length l.length] w fun e w' => ∃ a c, e = .returned (.agg (rwC a (wdL l i).length c (wdI l i))) ∧ RowV (wdL l i) (.slice a (wdL l i).length c) w' ∧ Below w.heap.size w w' := by
  have hnk := nodek_parts l hr i hi
  obtain ⟨hk1, hk8⟩ := kind_range l hr i hi
  have hw1 := wd_nil l hr i hi
  have hw2 := wd_leaf l hr i hi
  have hw3 := wd_cat l hr i hi
  have hw4 := wd_alt l hr i hi
  have hw7 := wd_same l hr i hi
  have HWL := Lib.hid (wdL_len l hr)
  have HWN := Lib.hid (wd_none l)
  obtain ⟨L, hL⟩ : ∃ L, wdL l i = L := ⟨_, rfl⟩
  obtain ⟨I, hI⟩ : ∃ I, wdI l i = I := ⟨_, rfl⟩
  rw [hL, hI] at hw1 hw2 hw3 hw4 hw7 ⊢
  clear hL hI
  unfold ndA
  generalize l[i] = x at *
  obtain ⟨k, kc, kn, km, t⟩ := x
  simp only at hnk hk1 hk8 hw1 hw2 hw3 hw4 hw7 ⊢
  have H1 := Lib.hid hw1
  have H2 := Lib.hid hw2
  have H3 := Lib.hid hw3
  have H4 := Lib.hid hw4
  have H7 := Lib.hid hw7
  have x0 := (Blk.new w (ndI k kc kn km t) 60).alloc (.cells (rwC none 0 0 false) 95)
  have z0 := Blk.new (w.alloc (.cells (ndI k kc kn km t) 60)) (rwC none 0 0 false) 95
  rw [World.size_alloc] at z0
  have hB0 : Below w.heap.size w ((w.alloc (.cells (ndI k kc kn km t) 60)).alloc (.cells (rwC none 0 0 false) 95)) := ((Below.refl _ _).alloc (Nat.le_refl _) _).alloc (by simp) _
  have hz : ((w.alloc (.cells (ndI k kc kn km t) 60)).alloc (.cells (rwC none 0 0 false) 95)).heap.size = w.heap.size + 2 := by rw [World.size_alloc, World.size_alloc]
  have HS := Lib.hid (h.below hB0)
  have HT := Lib.hid (hT.keep hB0 hw)
  clear h hT hw1 hw2 hw3 hw4 hw7
  go_enter Tryd.func47, Tryd.ntmps47
  go_upto_region 1 with fail
  generalize (w.alloc (.cells (ndI k kc kn km t) 60)).alloc (.cells (rwC none 0 0 false) 95) = w1 at *
  have c0 := x0.cell 0; have c1 := x0.cell 1; have c2 := x0.cell 2; have c3 := x0.cell 3; have c4 := x0.cell 4; have c5 := x0.cell 5; have c6 := x0.cell 6; have c7 := x0.cell 7
  have e0 := z0.cell 0; have e1 := z0.cell 1
  have f0 := z0.frozen 0; have f1 := z0.frozen 1
  simp only [List.getElem?_toArray, List.getElem?_cons_zero, List.getElem?_cons_succ] at c0 c1 c2 c3 c4 c5 c6 c7 e0 e1
  have HB0 := Lib.hid hB0
  have HZ := Lib.hid z0
  have HPUT := Lib.hid (show ∀ (W : World), Blk W (w.heap.size + 1) (rwC none 0 0 false) 95 → ∀ (M : List Nat) (v u : Value), RowV M v W → RowV M v ((W.setCell ⟨w.heap.size + 1, 0, none⟩ v).setCell ⟨w.heap.size + 1, 1, none⟩ u) from fun W hZ M v u h => by
    obtain ⟨a', c', e⟩ := h.form
    refine (h.set hZ (fun x m => ?_) 0 v).set (hZ.set 0 v) (fun x m => ?_) 1 u
    · intro e
      rcases x with _ | _ | x <;> simp at e
    · intro e'
      rw [e] at e'
      rcases x with _ | _ | x <;> simp at e')
  clear hB0 z0
  rcases hnk with ⟨h0, _⟩ | ⟨p, h0, rfl, _, hp3, _⟩ | ⟨p, q, h0, rfl, rfl, hp3, hp4, _, hp6⟩
  · rcases pc_zero h0 hk1 hk8 with rfl | rfl
    · obtain ⟨rfl, rfl⟩ := H1.out (.inl rfl)
      clear h0 hk1 hk8
      have HR3 := Lib.hid ((HZ.out.set 0 (.slice none 0 0)).set 1 (.bool true))
      have HB3 := Lib.hid (below_set (below_set HB0.out (Nat.le_add_right w.heap.size 1) 0 (.slice none 0 0)) (Nat.le_add_right w.heap.size 1) 1 (.bool true))
      clear x0
      go_wp2_with fail
      exact bodyPost_ret (v := .agg (rwC none 0 0 true)) (results_cell_row rfl _ _ (w.heap.size + 1) 95 (rwC none 0 0 true) (0, 0) _ rfl HR3.out Tryd.underlying95 rfl infoRw) rfl ⟨_, _, rfl, RowV.nil _, HB3.out⟩
    · clear h0 hk1 hk8
      have HON := Lib.hid (one_calls t w1 HT.out (by omega) L I (H2.out rfl))
      go_wp2_with fail
      refine HON.out.mono ?_
      rintro e w2 ⟨a2, k2, rfl, hrv, hb2⟩
      have z2 := HZ.out.below hb2 HZ.out.lt
      have z20 := z2.cell 0; have z21 := z2.cell 1
      have f20 := z2.frozen 0; have f21 := z2.frozen 1
      simp only [List.getElem?_toArray, List.getElem?_cons_zero, List.getElem?_cons_succ] at z20 z21
      have HR3 := Lib.hid ((z2.set 0 (.slice a2 L.length k2)).set 1 (.bool I))
      have HB3 := Lib.hid (below_set (below_set (HB0.out.trans (hb2.mono HB0.out.size)) (Nat.le_add_right w.heap.size 1) 0 (.slice a2 L.length k2)) (Nat.le_add_right w.heap.size 1) 1 (.bool I))
      have HRV := Lib.hid (HPUT.out w2 z2 L _ (.bool I) hrv)
      clear HON hb2 z2 x0 c0 c1 c2 c3 c4 c5 c6 c7 e0 e1 f0 f1 hrv
      go_wp2_with fail
      exact bodyPost_ret (v := .agg (rwC a2 L.length k2 I)) (results_cell_row rfl _ _ (w.heap.size + 1) 95 (rwC a2 L.length k2 I) (0, 0) _ rfl HR3.out Tryd.underlying95 rfl infoRw) rfl ⟨_, _, rfl, HRV.out, HB3.out⟩
  · rcases pc_one h0 with rfl | rfl | rfl | rfl
    · obtain ⟨rfl, rfl⟩ := H1.out (by omega)
      clear h0 hk1 hk8
      have HR3 := Lib.hid ((HZ.out.set 0 (.slice none 0 0)).set 1 (.bool true))
      have HB3 := Lib.hid (below_set (below_set HB0.out (Nat.le_add_right w.heap.size 1) 0 (.slice none 0 0)) (Nat.le_add_right w.heap.size 1) 1 (.bool true))
      clear x0
      go_wp2_with fail
      exact bodyPost_ret (v := .agg (rwC none 0 0 true)) (results_cell_row rfl _ _ (w.heap.size + 1) 95 (rwC none 0 0 true) (0, 0) _ rfl HR3.out Tryd.underlying95 rfl infoRw) rfl ⟨_, _, rfl, RowV.nil _, HB3.out⟩
    · obtain ⟨rfl, rfl⟩ := H1.out (by omega)
      clear h0 hk1 hk8
      have HR3 := Lib.hid ((HZ.out.set 0 (.slice none 0 0)).set 1 (.bool true))
      have HB3 := Lib.hid (below_set (below_set HB0.out (Nat.le_add_right w.heap.size 1) 0 (.slice none 0 0)) (Nat.le_add_right w.heap.size 1) 1 (.bool true))
      clear x0
      go_wp2_with fail
      exact bodyPost_ret (v := .agg (rwC none 0 0 true)) (results_cell_row rfl _ _ (w.heap.size + 1) 95 (rwC none 0 0 true) (0, 0) _ rfl HR3.out Tryd.underlying95 rfl infoRw) rfl ⟨_, _, rfl, RowV.nil _, HB3.out⟩
    all_goals
      obtain ⟨hLp, hIp⟩ := H7.out (by omega) p rfl
      clear h0 hk1 hk8
      obtain ⟨a2, k2, cp, rv, ip⟩ := HS.out.cell p (by omega)
      rw [pL, if_pos (by omega), ← hLp] at cp rv
      rw [pI, if_pos (by omega), ← hIp] at ip
      have hpI : (p : Int) < (l.length : Int) := by omega
      have hpd : decide (p < l.length) = true := by rw [decide_eq_true_iff]; omega
      have HR3 := Lib.hid ((HZ.out.set 0 (.slice a2 L.length k2)).set 1 (.bool I))
      have HB3 := Lib.hid (below_set (below_set HB0.out (Nat.le_add_right w.heap.size 1) 0 (.slice a2 L.length k2)) (Nat.le_add_right w.heap.size 1) 1 (.bool I))
      have HRV := Lib.hid (HPUT.out w1 HZ.out L _ (.bool I) rv)
      clear x0 rv hLp hIp
      go_wp2_with fail
      exact bodyPost_ret (v := .agg (rwC a2 L.length k2 I)) (results_cell_row rfl _ _ (w.heap.size + 1) 95 (rwC a2 L.length k2 I) (0, 0) _ rfl HR3.out Tryd.underlying95 rfl infoRw) rfl ⟨_, _, rfl, HRV.out, HB3.out⟩
  · have hpI : (p : Int) < (l.length : Int) := by omega
    have hpd : decide (p < l.length) = true := by rw [decide_eq_true_iff]; omega
    have hqI : (q : Int) < (l.length : Int) := by omega
    have hqd : decide (q < l.length) = true := by rw [decide_eq_true_iff]; omega
    obtain ⟨a2, k2, cp, rv, ip⟩ := HS.out.cell p (by omega)
    obtain ⟨b2, m2, cq, ru, iq⟩ := HS.out.cell q (by omega)
    rw [pL, if_pos (by omega)] at cp rv cq ru
    rw [pI, if_pos (by omega)] at ip iq
    have hlp := HWL.out p (by omega)
    have hlq := HWL.out q (by omega)
    have hnp := HWN.out p
    have hnq := HWN.out q
    have hw3 := fun h => H3.out h p q rfl rfl
    have hw4 := fun h => H4.out h p q rfl rfl
    have HRV := Lib.hid rv
    have HRU := Lib.hid ru
    clear rv ru x0 H1 H2 H3 H4 H7
    generalize wdL l p = P at *
    generalize wdL l q = Q at *
    generalize wdI l p = bp at *
    generalize wdI l q = bq at *
    rcases pc_two h0 with rfl | rfl
    · obtain ⟨hI, hL⟩ := hw3 rfl
      have HCL := Lib.hid (show ∀ W, W = w1.drew → Calls Tryd.prog 70 #[.agg (rwC a2 P.length k2 bp), .agg (rwC b2 Q.length m2 bq)] W fun e w' => ∃ v, e = .returned v ∧ ∃ a c, v = .agg (rwC a L.length c I) ∧ RowV L (.slice a L.length c) w' ∧ Below W.heap.size W w' from fun W hW => by
        rw [hW]
        refine (andX_calls P Q bp bq (by omega) (by omega) a2 b2 k2 m2 w1.drew (HRV.out.below (Below.refl _ _).drew) (HRU.out.below (Below.refl _ _).drew) L I hI hL).mono ?_
        rintro e w' ⟨a, c, rfl, h1, h2⟩
        exact ⟨_, rfl, a, c, rfl, h1, h2⟩)
      clear h0 hk1 hk8 hI hL hw3 hw4 hnp hnq HRV HRU
      go_upto_region 8 with fail
      refine region_stepsT (S := fun W => W = w1.drew) (m := 10) (n := 10) (k := 1) rfl (by kernel_rfl) rfl ?_
      simp only [List.size_toArray, List.length_cons, List.length_nil, Nat.reduceAdd, Array.replicate_succ, Array.replicate_zero, List.push_toArray, List.nil_append, List.cons_append]
      refine AnyT.nextC (m := 10) (i := 0) (d := some 22) (v := .slice (some ⟨R, 0, none⟩) l.length l.length) [4, 3, 0] rfl rfl (by kernel_rfl) (by kernel_rfl) (by kernel_rfl) (by kernel_rfl) (StepsIf.yield (by kernel_rfl) (fun w' hS => by clear hS; go_simp)) ?_
      intro a' ha'
      simp only [Act.put, List.setIfInBounds_toArray, List.set_cons_zero, List.set_cons_succ] at ha'
      subst ha'
      refine AnyT.nextC (m := 10) (i := 1) (d := some 23) (v := .pointer (some ⟨w.heap.size, 1, none⟩)) [4, 3, 2, 1] rfl rfl (by kernel_rfl) (by kernel_rfl) (by kernel_rfl) (by kernel_rfl) (StepsIf.yield (by kernel_rfl) (fun w' hS => by clear hS; go_simp)) ?_
      intro a' ha'
      simp only [Act.put, List.setIfInBounds_toArray, List.set_cons_zero, List.set_cons_succ] at ha'
      subst ha'
      refine AnyT.nextC (m := 10) (i := 2) (d := some 24) (v := .int .i64 (p : Nat)) [4, 3, 2] rfl rfl (by kernel_rfl) (by kernel_rfl) (by kernel_rfl) (by kernel_rfl) (StepsIf.yield (by kernel_rfl) (fun w' hS => by rw [hS]; clear hS; go_simp)) ?_
      intro a' ha'
      simp only [Act.put, List.setIfInBounds_toArray, List.set_cons_zero, List.set_cons_succ] at ha'
      subst ha'
      refine AnyT.nextC (m := 10) (i := 3) (d := some 25) (v := .pointer (some ⟨R, p * 2, none⟩)) [4, 3] rfl rfl (by kernel_rfl) (by kernel_rfl) (by kernel_rfl) (by kernel_rfl) (StepsIf.yield (by kernel_rfl) (fun w' hS => by clear hS; go_simp)) ?_
      intro a' ha'
      simp only [Act.put, List.setIfInBounds_toArray, List.set_cons_zero, List.set_cons_succ] at ha'
      subst ha'
      refine AnyT.nextC (m := 10) (i := 4) (d := some 26) (v := .agg #[.slice a2 P.length k2, .bool bp]) [4] rfl rfl (by kernel_rfl) (by kernel_rfl) (by kernel_rfl) (by kernel_rfl) (StepsIf.yield (by kernel_rfl) (fun w' hS => by rw [hS]; clear hS; go_simp)) ?_
      intro a' ha'
      simp only [Act.put, List.setIfInBounds_toArray, List.set_cons_zero, List.set_cons_succ] at ha'
      subst ha'
      refine AnyT.nextC (m := 10) (i := 5) (d := some 27) (v := .slice (some ⟨R, 0, none⟩) l.length l.length) [9, 8, 5] rfl rfl (by kernel_rfl) (by kernel_rfl) (by kernel_rfl) (by kernel_rfl) (StepsIf.yield (by kernel_rfl) (fun w' hS => by clear hS; go_simp)) ?_
      intro a' ha'
      simp only [Act.put, List.setIfInBounds_toArray, List.set_cons_zero, List.set_cons_succ] at ha'
      subst ha'
      refine AnyT.nextC (m := 10) (i := 6) (d := some 28) (v := .pointer (some ⟨w.heap.size, 2, none⟩)) [9, 8, 7, 6] rfl rfl (by kernel_rfl) (by kernel_rfl) (by kernel_rfl) (by kernel_rfl) (StepsIf.yield (by kernel_rfl) (fun w' hS => by clear hS; go_simp)) ?_
      intro a' ha'
      simp only [Act.put, List.setIfInBounds_toArray, List.set_cons_zero, List.set_cons_succ] at ha'
      subst ha'
      refine AnyT.nextC (m := 10) (i := 7) (d := some 29) (v := .int .i64 (q : Nat)) [9, 8, 7] rfl rfl (by kernel_rfl) (by kernel_rfl) (by kernel_rfl) (by kernel_rfl) (StepsIf.yield (by kernel_rfl) (fun w' hS => by rw [hS]; clear hS; go_simp)) ?_
      intro a' ha'
      simp only [Act.put, List.setIfInBounds_toArray, List.set_cons_zero, List.set_cons_succ] at ha'
      subst ha'
      refine AnyT.nextC (m := 10) (i := 8) (d := some 30) (v := .pointer (some ⟨R, q * 2, none⟩)) [9, 8] rfl rfl (by kernel_rfl) (by kernel_rfl) (by kernel_rfl) (by kernel_rfl) (StepsIf.yield (by kernel_rfl) (fun w' hS => by clear hS; go_simp)) ?_
      intro a' ha'
      simp only [Act.put, List.setIfInBounds_toArray, List.set_cons_zero, List.set_cons_succ] at ha'
      subst ha'
      refine AnyT.nextC (m := 10) (i := 9) (d := some 31) (v := .agg #[.slice b2 Q.length m2, .bool bq]) [9] rfl rfl (by kernel_rfl) (by kernel_rfl) (by kernel_rfl) (by kernel_rfl) (StepsIf.yield (by kernel_rfl) (fun w' hS => by rw [hS]; clear hS; go_simp)) ?_
      intro a' ha'
      simp only [Act.put, List.setIfInBounds_toArray, List.set_cons_zero, List.set_cons_succ] at ha'
      subst ha'
      refine AnyT.endC (by kernel_rfl) (fun w' hS => ?_)
      subst hS
      clear c0 c1 c2 c3 c4 c5 c6 c7 e0 e1 f0 f1 cp ip cq iq
      refine wpAny_one (i := 10) (o := ⟨some 32, _, _, _, _, _⟩) (by kernel_rfl) rfl (by kernel_rfl) ?_
      refine wp_callV (o := ⟨some 32, _, _, _, _, _⟩) (by go_simp) (HCL.out _ rfl) ?_
      rintro v w2 ⟨a3, k3, rfl, hrv, hb2⟩
      have z2 := HZ.out.drew.below hb2 HZ.out.lt
      have hB3 := HB0.out.drew.trans (hb2.mono HB0.out.size)
      have HR3 := Lib.hid (Blk.setRow (cs := rwC a3 L.length k3 I) z2)
      have HB3 := Lib.hid (below_row hB3 (Nat.le_add_right w.heap.size 1) (rwC a3 L.length k3 I))
      have HRV := Lib.hid (show RowV L (.slice a3 L.length k3) (w2.setRow (w.heap.size + 1) (rwC a3 L.length k3 I)) from row_setRow hrv z2 (fun x m => by
        intro e
        rcases x with _ | _ | x <;> simp at e) _)
      refine wpAny_one (i := 11) (o := ⟨none, .store 95 (.tmp 4) (.tmp 32), _, _, _, _⟩) (by kernel_rfl) rfl (by kernel_rfl) ?_
      refine wp_store_row 95 _ _ rfl (w.heap.size + 1) rfl rfl (run_storeAt_row w2 (w.heap.size + 1) 95 95 (rwC none 0 0 false) (rwC a3 L.length k3 I) z2 infoRw rfl (by simp [Value.oneCell'])) ?_
      clear hrv hb2 z2 hB3 HCL
      generalize w2.setRow (w.heap.size + 1) (rwC a3 L.length k3 I) = w9 at *
      refine wpAny_none (P := Tryd.prog) (by kernel_rfl) ?_
      simp only [Act.put, List.setIfInBounds_toArray, List.set_cons_zero, List.set_cons_succ]
      go_wp2_with fail
      exact bodyPost_ret (v := .agg (rwC a3 L.length k3 I)) (results_cell_row rfl _ _ (w.heap.size + 1) 95 (rwC a3 L.length k3 I) (0, 0) _ rfl HR3.out Tryd.underlying95 rfl infoRw) rfl ⟨_, _, rfl, HRV.out, HB3.out⟩
    · obtain ⟨hI, hL⟩ := hw4 rfl
      have HCL := Lib.hid (show ∀ W, W = w1.drew → Calls Tryd.prog 71 #[.agg (rwC a2 P.length k2 bp), .agg (rwC b2 Q.length m2 bq)] W fun e w' => ∃ v, e = .returned v ∧ ∃ a c, v = .agg (rwC a L.length c I) ∧ RowV L (.slice a L.length c) w' ∧ Below W.heap.size W w' from fun W hW => by
        rw [hW]
        refine (orX_calls P Q bp bq (by omega) (by omega) a2 b2 k2 m2 w1.drew (HRV.out.below (Below.refl _ _).drew) (HRU.out.below (Below.refl _ _).drew) L I hI hL hnp hnq).mono ?_
        rintro e w' ⟨a, c, rfl, h1, h2⟩
        exact ⟨_, rfl, a, c, rfl, h1, h2⟩)
      clear h0 hk1 hk8 hI hL hw3 hw4 hnp hnq HRV HRU
      go_upto_region 10 with fail
      refine region_stepsT (S := fun W => W = w1.drew) (m := 10) (n := 10) (k := 1) rfl (by kernel_rfl) rfl ?_
      simp only [List.size_toArray, List.length_cons, List.length_nil, Nat.reduceAdd, Array.replicate_succ, Array.replicate_zero, List.push_toArray, List.nil_append, List.cons_append]
      refine AnyT.nextC (m := 10) (i := 0) (d := some 35) (v := .slice (some ⟨R, 0, none⟩) l.length l.length) [4, 3, 0] rfl rfl (by kernel_rfl) (by kernel_rfl) (by kernel_rfl) (by kernel_rfl) (StepsIf.yield (by kernel_rfl) (fun w' hS => by clear hS; go_simp)) ?_
      intro a' ha'
      simp only [Act.put, List.setIfInBounds_toArray, List.set_cons_zero, List.set_cons_succ] at ha'
      subst ha'
      refine AnyT.nextC (m := 10) (i := 1) (d := some 36) (v := .pointer (some ⟨w.heap.size, 1, none⟩)) [4, 3, 2, 1] rfl rfl (by kernel_rfl) (by kernel_rfl) (by kernel_rfl) (by kernel_rfl) (StepsIf.yield (by kernel_rfl) (fun w' hS => by clear hS; go_simp)) ?_
      intro a' ha'
      simp only [Act.put, List.setIfInBounds_toArray, List.set_cons_zero, List.set_cons_succ] at ha'
      subst ha'
      refine AnyT.nextC (m := 10) (i := 2) (d := some 37) (v := .int .i64 (p : Nat)) [4, 3, 2] rfl rfl (by kernel_rfl) (by kernel_rfl) (by kernel_rfl) (by kernel_rfl) (StepsIf.yield (by kernel_rfl) (fun w' hS => by rw [hS]; clear hS; go_simp)) ?_
      intro a' ha'
      simp only [Act.put, List.setIfInBounds_toArray, List.set_cons_zero, List.set_cons_succ] at ha'
      subst ha'
      refine AnyT.nextC (m := 10) (i := 3) (d := some 38) (v := .pointer (some ⟨R, p * 2, none⟩)) [4, 3] rfl rfl (by kernel_rfl) (by kernel_rfl) (by kernel_rfl) (by kernel_rfl) (StepsIf.yield (by kernel_rfl) (fun w' hS => by clear hS; go_simp)) ?_
      intro a' ha'
      simp only [Act.put, List.setIfInBounds_toArray, List.set_cons_zero, List.set_cons_succ] at ha'
      subst ha'
      refine AnyT.nextC (m := 10) (i := 4) (d := some 39) (v := .agg #[.slice a2 P.length k2, .bool bp]) [4] rfl rfl (by kernel_rfl) (by kernel_rfl) (by kernel_rfl) (by kernel_rfl) (StepsIf.yield (by kernel_rfl) (fun w' hS => by rw [hS]; clear hS; go_simp)) ?_
      intro a' ha'
      simp only [Act.put, List.setIfInBounds_toArray, List.set_cons_zero, List.set_cons_succ] at ha'
      subst ha'
      refine AnyT.nextC (m := 10) (i := 5) (d := some 40) (v := .slice (some ⟨R, 0, none⟩) l.length l.length) [9, 8, 5] rfl rfl (by kernel_rfl) (by kernel_rfl) (by kernel_rfl) (by kernel_rfl) (StepsIf.yield (by kernel_rfl) (fun w' hS => by clear hS; go_simp)) ?_
      intro a' ha'
      simp only [Act.put, List.setIfInBounds_toArray, List.set_cons_zero, List.set_cons_succ] at ha'
      subst ha'
      refine AnyT.nextC (m := 10) (i := 6) (d := some 41) (v := .pointer (some ⟨w.heap.size, 2, none⟩)) [9, 8, 7, 6] rfl rfl (by kernel_rfl) (by kernel_rfl) (by kernel_rfl) (by kernel_rfl) (StepsIf.yield (by kernel_rfl) (fun w' hS => by clear hS; go_simp)) ?_
      intro a' ha'
      simp only [Act.put, List.setIfInBounds_toArray, List.set_cons_zero, List.set_cons_succ] at ha'
      subst ha'
      refine AnyT.nextC (m := 10) (i := 7) (d := some 42) (v := .int .i64 (q : Nat)) [9, 8, 7] rfl rfl (by kernel_rfl) (by kernel_rfl) (by kernel_rfl) (by kernel_rfl) (StepsIf.yield (by kernel_rfl) (fun w' hS => by rw [hS]; clear hS; go_simp)) ?_
      intro a' ha'
      simp only [Act.put, List.setIfInBounds_toArray, List.set_cons_zero, List.set_cons_succ] at ha'
      subst ha'
      refine AnyT.nextC (m := 10) (i := 8) (d := some 43) (v := .pointer (some ⟨R, q * 2, none⟩)) [9, 8] rfl rfl (by kernel_rfl) (by kernel_rfl) (by kernel_rfl) (by kernel_rfl) (StepsIf.yield (by kernel_rfl) (fun w' hS => by clear hS; go_simp)) ?_
      intro a' ha'
      simp only [Act.put, List.setIfInBounds_toArray, List.set_cons_zero, List.set_cons_succ] at ha'
      subst ha'
      refine AnyT.nextC (m := 10) (i := 9) (d := some 44) (v := .agg #[.slice b2 Q.length m2, .bool bq]) [9] rfl rfl (by kernel_rfl) (by kernel_rfl) (by kernel_rfl) (by kernel_rfl) (StepsIf.yield (by kernel_rfl) (fun w' hS => by rw [hS]; clear hS; go_simp)) ?_
      intro a' ha'
      simp only [Act.put, List.setIfInBounds_toArray, List.set_cons_zero, List.set_cons_succ] at ha'
      subst ha'
      refine AnyT.endC (by kernel_rfl) (fun w' hS => ?_)
      subst hS
      clear c0 c1 c2 c3 c4 c5 c6 c7 e0 e1 f0 f1 cp ip cq iq
      refine wpAny_one (i := 10) (o := ⟨some 45, _, _, _, _, _⟩) (by kernel_rfl) rfl (by kernel_rfl) ?_
      refine wp_callV (o := ⟨some 45, _, _, _, _, _⟩) (by go_simp) (HCL.out _ rfl) ?_
      rintro v w2 ⟨a3, k3, rfl, hrv, hb2⟩
      have z2 := HZ.out.drew.below hb2 HZ.out.lt
      have hB3 := HB0.out.drew.trans (hb2.mono HB0.out.size)
      have HR3 := Lib.hid (Blk.setRow (cs := rwC a3 L.length k3 I) z2)
      have HB3 := Lib.hid (below_row hB3 (Nat.le_add_right w.heap.size 1) (rwC a3 L.length k3 I))
      have HRV := Lib.hid (show RowV L (.slice a3 L.length k3) (w2.setRow (w.heap.size + 1) (rwC a3 L.length k3 I)) from row_setRow hrv z2 (fun x m => by
        intro e
        rcases x with _ | _ | x <;> simp at e) _)
      refine wpAny_one (i := 11) (o := ⟨none, .store 95 (.tmp 4) (.tmp 45), _, _, _, _⟩) (by kernel_rfl) rfl (by kernel_rfl) ?_
      refine wp_store_row 95 _ _ rfl (w.heap.size + 1) rfl rfl (run_storeAt_row w2 (w.heap.size + 1) 95 95 (rwC none 0 0 false) (rwC a3 L.length k3 I) z2 infoRw rfl (by simp [Value.oneCell'])) ?_
      clear hrv hb2 z2 hB3 HCL
      generalize w2.setRow (w.heap.size + 1) (rwC a3 L.length k3 I) = w9 at *
      refine wpAny_none (P := Tryd.prog) (by kernel_rfl) ?_
      simp only [Act.put, List.setIfInBounds_toArray, List.set_cons_zero, List.set_cons_succ]
      go_wp2_with fail
      exact bodyPost_ret (v := .agg (rwC a3 L.length k3 I)) (results_cell_row rfl _ _ (w.heap.size + 1) 95 (rwC a3 L.length k3 I) (0, 0) _ rfl HR3.out Tryd.underlying95 rfl infoRw) rfl ⟨_, _, rfl, HRV.out, HB3.out⟩
set_option maxRecDepth 100000 in
set_option maxHeartbeats 16000000 in
theorem dword_calls (l : List NdN) (hl : l.length ≤ 1000) (a : Option Addr) (cap : Nat) (w : World) (hT : Tab w) (hw : 0 < w.heap.size) (h : NodesAt l a w) :
    Calls Tryd.prog 25 #[.slice a l.length cap] w fun e w' => ∃ v, e = .returned (.tuple #[v, .bool (wordI l)]) ∧ RowV (wordL l) v w' ∧ Below w.heap.size w w' := by
  have HR := Lib.hid (tmright_calls l hl a cap w h)
  have HN := Lib.hid h
  clear h
  cases hr : rightT l with
  | false =>
    rw [hr] at HR
    obtain ⟨e1, e2⟩ := word_not l hr
    have HU := Lib.hid (And.intro e1 e2)
    clear hr e1 e2
    go_enter Tryd.func25, Tryd.ntmps25
    go_wp2_with fail
    refine HR.out.mono ?_
    rintro e w1 ⟨rfl, hb⟩
    clear HR
    go_wp2_with fail
    exact bodyPost_ret (v := .tuple #[.slice none 0 0, .bool false]) (by simp [results, Tryd.results25, go_sem]) rfl (by rw [HU.out.1, HU.out.2]; exact ⟨_, rfl, RowV.nil _, hb⟩)
  | true =>
  rw [hr] at HR
  obtain ⟨e1, e2⟩ := word_is l hr
  have hpos := right_pos l hr
  have HU := Lib.hid (And.intro e1 e2)
  have hmk := fun W => makeRw l.length hl W
  have hmz := rwZ_size l.length
  have HMZ := Lib.hid (rwZ_get l.length)
  generalize rwZ l.length = vs0 at *
  have HBE := Lib.hid (fun i hi R W hT hw h => best_calls l hr hl i hi R W hT hw h)
  clear hr e1 e2
  go_enter Tryd.func25, Tryd.ntmps25
  go_wp2_with fail
  refine HR.out.mono ?_
  rintro e w1 ⟨rfl, hb⟩
  have HN1 := Lib.hid (HN.out.below hb)
  have HBW := Lib.hid hb
  have HT1 := Lib.hid (hT.keep hb hw)
  have hw1 : 0 < w1.heap.size := by have := hb.size; omega
  have HS0 := Lib.hid (show RwS l.length w1.heap.size (pL l 0) (pI l 0) (w1.alloc (.cells vs0 95)) from ⟨vs0, hmz, fun x hx => ⟨_, (HMZ.out x hx).1, by rw [pL, if_neg (by omega)]; exact RowV.nil _, by rw [(HMZ.out x hx).2, pI, if_neg (by omega)]⟩, Blk.new w1 vs0 95⟩)
  have HB0 := Lib.hid ((Below.refl w1.heap.size w1).alloc (Nat.le_refl _) (.cells vs0 95))
  clear HR hb HN hT hmz HMZ
  go_upto_region 5 with fail
  generalize w1.alloc (.cells vs0 95) = w2 at *
  clear hmk
  go_loopw [16] (fun vi wr => ∃ i : Nat, i ≤ l.length ∧ vi = .int .i64 i ∧ RwS l.length w1.heap.size (pL l i) (pI l i) wr ∧ Below w1.heap.size w1 wr) (fun vi _ => l.length - (intOf vi).toNat)
  case atStart => exact ⟨0, Nat.zero_le _, rfl, HS0.out, HB0.out⟩
  case round =>
    clear HS0 HB0
    obtain ⟨i, hi, rfl, hS, hB⟩ := hrel
    by_cases hlt : i < l.length
    · have hii : (i : Int) < (l.length : Int) := by omega
      have hd : decide (i < l.length) = true := by rw [decide_eq_true_iff]; omega
      have hdI : decide ((i : Int) < (l.length : Int)) = true := by rw [decide_eq_true_iff]; omega
      have xi : IntKind.i64.wrap ((i : Int) + 1) = (i : Int) + 1 := IntWalk.i64_in _ (by omega)
      obtain ⟨g, off, rfl, hg, hc⟩ := (HN1.out.below hB) (by rintro rfl; simp at hlt)
      have d0 := hc i hlt 0 (by decide); have d1 := hc i hlt 1 (by decide); have d2 := hc i hlt 2 (by decide); have d3 := hc i hlt 3 (by decide); have d4 := hc i hlt 4 (by decide); have d5 := hc i hlt 5 (by decide); have d6 := hc i hlt 6 (by decide); have d7 := hc i hlt 7 (by decide)
      simp only [ndA, List.getElem?_toArray, List.getElem?_cons_zero, List.getElem?_cons_succ, Nat.add_zero] at d0 d1 d2 d3 d4 d5 d6 d7
      have HBI := Lib.hid (fun R W hT hw h => HBE.out i hlt R W hT hw h)
      unfold ndA at HBI
      generalize l[i] = x at *
      obtain ⟨k, kc, kn, km, t⟩ := x
      simp only at d0 d1 d2 d3 d4 d5 d6 d7 HBI
      have hX := Blk.new wr (ndI k kc kn km t) 60
      have hb2 := (Below.refl wr.heap.size wr).alloc (Nat.le_refl _) (.cells (ndI k kc kn km t) 60)
      have HS2 := Lib.hid (hS.below hb2)
      have HB2 := Lib.hid (hB.trans (hb2.mono hB.size))
      clear hS hB hc hb2
      go_upto_region 7 with fail
      clear d0 d1 d2 d3 d4 d5 d6 d7 hg
      generalize wr.alloc (.cells (ndI k kc kn km t) 60) = wa at *
      generalize wr.heap.size = X at *
      have c0 := hX.cell 0; have c1 := hX.cell 1; have c2 := hX.cell 2; have c3 := hX.cell 3; have c4 := hX.cell 4; have c5 := hX.cell 5; have c6 := hX.cell 6; have c7 := hX.cell 7
      simp only [List.getElem?_toArray, List.getElem?_cons_zero, List.getElem?_cons_succ] at c0 c1 c2 c3 c4 c5 c6 c7
      have HBC := Lib.hid (HBI.out w1.heap.size wa (HT1.out.keep HB2.out hw1) (by have := HB2.out.size; omega) HS2.out)
      clear hX HBI
      go_wp2_with fail
      refine HBC.out.mono ?_
      rintro e w3 ⟨a3, k3, rfl, hrv, hb3⟩
      have hS3 := HS2.out.below hb3
      have hB3 := HB2.out.trans (hb3.mono HB2.out.size)
      have HF := Lib.hid (rw_step hS3 hrv)
      have HBF := Lib.hid (below_set (below_set hB3 (Nat.le_refl _) (i * 2) (.slice a3 (wdL l i).length k3)) (Nat.le_refl _) (i * 2 + 1) (.bool (wdI l i)))
      obtain ⟨a4, k4, e4, _, e5⟩ := hS3.cell i hlt
      have f4 := hS3.fr (i * 2)
      have f5 := hS3.fr (i * 2 + 1)
      generalize wdI l i = I at *
      generalize (wdL l i).length = N at *
      generalize (pL l i i).length = N4 at *
      clear HBC hb3 hS3 hB3 hrv c0 c1 c2 c3 c4 c5 c6 c7
      go_wp2_with fail
      go_roundw
      case rel => exact ⟨i + 1, by omega, by simp, HF.out, HBF.out⟩
      case measure => simp [intOf]; omega
    · obtain rfl : i = l.length := by omega
      have hn1 : IntKind.i64.wrap ((l.length : Int) - 1) = ((l.length - 1 : Nat) : Int) := by rw [IntWalk.i64_in _ (by omega)]; omega
      obtain ⟨a2, k2, cv, rv, iv⟩ := hS.cell (l.length - 1) (by omega)
      rw [pL, if_pos (by omega), ← HU.out.1] at rv cv
      rw [pI, if_pos (by omega), ← HU.out.2] at iv
      have hmI : ((l.length - 1 : Nat) : Int) < (l.length : Int) := by omega
      have hmd : decide (l.length - 1 < l.length) = true := decide_eq_true (by omega)
      generalize l.length - 1 = m at *
      obtain ⟨L, hL⟩ : ∃ L, wordL l = L := ⟨_, rfl⟩
      obtain ⟨I, hI⟩ : ∃ I, wordI l = I := ⟨_, rfl⟩
      have HLL := Lib.hid hL
      have HII := Lib.hid hI
      rw [hL] at cv rv
      rw [hI] at iv
      clear hL hI
      have hb2 := (Below.refl wr.heap.size wr).alloc (Nat.le_refl _) (.cells (rwC a2 L.length k2 I) 95)
      have hX := Blk.new wr (rwC a2 L.length k2 I) 95
      have HRV := Lib.hid (rv.below hb2)
      have HBZ := Lib.hid (HBW.out.trans ((hB.trans (hb2.mono hB.size)).mono HBW.out.size))
      clear hB hb2 rv hS
      go_upto_region 10 with fail
      clear cv iv
      generalize wr.alloc (.cells (rwC a2 L.length k2 I) 95) = wz at *
      have x0 := hX.cell 0; have x1 := hX.cell 1
      simp only [List.getElem?_toArray, List.getElem?_cons_zero, List.getElem?_cons_succ] at x0 x1
      clear hX
      go_quiet (fail)
      go_wp2_with fail
      exact bodyPost_ret (v := .tuple #[.slice a2 L.length k2, .bool I]) (by simp [results, Tryd.results25, go_sem]) rfl ⟨_, by rw [HII.out], by rw [HLL.out]; exact HRV.out.below (below_drN (Below.refl _ _) _), below_drN HBZ.out _⟩
end Go.Proofs.YtdpkhliojbeglaaDoor

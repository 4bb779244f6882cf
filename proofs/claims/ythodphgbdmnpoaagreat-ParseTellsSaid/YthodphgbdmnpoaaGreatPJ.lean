/- Texts put together: Hj Hk Ja Jb Jc Jd Je Dp. -/
import Derived.Test.YthodphgbdmnpoaaGreatPI
import Derived.Test.YthodphgbdmnpoaaGreatPG
import Derived.Test.YthodphgbdmnpoaaGreatPD
import Derived.Lib.Hide
import Derived.RegionTactic
import Derived.BigRegion
import Derived.BigQuiet
import Derived.Outline
import Derived.Deep.QuietTactic
import Derived.Deep.DeepCutAuto
import Derived.Deep.RegionHeld3
import Derived.Deep.RegionLaw
import Derived.Deep.RegionWith
import Derived.Test.YthodphgbdmnpoaaGreatPB
/- The document's parse: first. Stage 7. -/
namespace Go.Proofs.YthodphgbdmnpoaaGreat
open Go.RowKit BS

def pS (st : List (Nat × Nat)) : List Nat := (st.map Prod.fst).reverse
def rS (st : List (Nat × Nat)) : List Nat := (st.map Prod.snd).reverse
theorem pS_cons (n r : Nat) (st : List (Nat × Nat)) : pS ((n, r) :: st) = pS st ++ [n] := by simp [pS]
theorem rS_cons (n r : Nat) (st : List (Nat × Nat)) : rS ((n, r) :: st) = rS st ++ [r] := by simp [rS]
theorem pS_len (st : List (Nat × Nat)) : (pS st).length = st.length := by simp [pS]
theorem rS_len (st : List (Nat × Nat)) : (rS st).length = st.length := by simp [rS]
set_option maxRecDepth 100000 in
set_option maxHeartbeats 8000000 in
theorem rfirst_calls {base N : Nat} {A : Nat → Prop} {l : List NdN} {st : List (Nat × Nat)} {n r gr : Nat} {vN vP vR : Value} (b : Nat) (w : World) (h : SV base N A l (pS ((n, r) :: st)) (rS ((n, r) :: st)) vN vP vR w) (hst : st.length ≤ 2000000) :
    Calls Tryz.prog 20 #[.agg (stW vN vP vR gr), .int .u8 b] w fun e w' => e = .returned (.int .i64 (firstP ⟨l, (n, r) :: st, gr⟩ b)) ∧ Below w.heap.size w w' := by
  have h2 := h.alloc (.cells (stW vN vP vR gr) 48)
  have hB := Blk.new w (stW vN vP vR gr) 48
  have HB : Hid (Below w.heap.size w (w.alloc (.cells (stW vN vP vR gr) 48))) := Lib.hid (by go_grown)
  rw [pS_cons] at h2
  obtain ⟨gP, cP, rfl, lP, kP, tP, yP⟩ := h2.topPK (pS_len st)
  clear h h2 yP lP
  have c1 := hB.cell 1
  have c3 := hB.cell 3
  simp only [List.getElem?_toArray, List.getElem?_cons_zero, List.getElem?_cons_succ] at c1 c3
  clear hB
  have q0 : (0 : Int) ≤ (st.length : Int) := by omega
  have q1 : (st.length : Int) < ((st.length + 1 : Nat) : Int) := by omega
  by_cases b42 : b = 42
  · subst b42
    clear c3
    by_cases h0 : n = 0
    · subst h0
      have hF : firstP ⟨l, (0, r) :: st, gr⟩ 42 = 7 := by rfl
      rw [hF]
      clear hF
      go_enter Tryz.func20, Tryz.ntmps20
      go_wp2_with fail
      go_ret
      exact ⟨rfl, HB.out⟩
    · have qn : ((n : Int) == 0) = false := by rw [beq_eq_false_iff_ne]; omega
      have hF : firstP ⟨l, (n, r) :: st, gr⟩ 42 = 0 := by unfold firstP; simp [h0]
      rw [hF]
      clear hF
      go_enter Tryz.func20, Tryz.ntmps20
      go_wp2_with fail
      go_ret
      exact ⟨rfl, HB.out⟩
  have q42 : ((b : Int) == 42) = false := by rw [beq_eq_false_iff_ne]; omega
  by_cases b43 : b = 43
  · subst b43
    clear c3
    by_cases h0 : n = 0
    · subst h0
      have hF : firstP ⟨l, (0, r) :: st, gr⟩ 43 = 7 := by rfl
      rw [hF]
      clear hF
      go_enter Tryz.func20, Tryz.ntmps20
      go_wp2_with fail
      go_ret
      exact ⟨rfl, HB.out⟩
    · have qn : ((n : Int) == 0) = false := by rw [beq_eq_false_iff_ne]; omega
      have hF : firstP ⟨l, (n, r) :: st, gr⟩ 43 = 0 := by unfold firstP; simp [h0]
      rw [hF]
      clear hF
      go_enter Tryz.func20, Tryz.ntmps20
      go_wp2_with fail
      go_ret
      exact ⟨rfl, HB.out⟩
  have q43 : ((b : Int) == 43) = false := by rw [beq_eq_false_iff_ne]; omega
  by_cases b63 : b = 63
  · subst b63
    clear c3
    by_cases h0 : n = 0
    · subst h0
      have hF : firstP ⟨l, (0, r) :: st, gr⟩ 63 = 7 := by rfl
      rw [hF]
      clear hF
      go_enter Tryz.func20, Tryz.ntmps20
      go_wp2_with fail
      go_ret
      exact ⟨rfl, HB.out⟩
    · have qn : ((n : Int) == 0) = false := by rw [beq_eq_false_iff_ne]; omega
      have hF : firstP ⟨l, (n, r) :: st, gr⟩ 63 = 0 := by unfold firstP; simp [h0]
      rw [hF]
      clear hF
      go_enter Tryz.func20, Tryz.ntmps20
      go_wp2_with fail
      go_ret
      exact ⟨rfl, HB.out⟩
  have q63 : ((b : Int) == 63) = false := by rw [beq_eq_false_iff_ne]; omega
  by_cases b123 : b = 123
  · subst b123
    clear c3
    by_cases h0 : n = 0
    · subst h0
      have hF : firstP ⟨l, (0, r) :: st, gr⟩ 123 = 7 := by rfl
      rw [hF]
      clear hF
      go_enter Tryz.func20, Tryz.ntmps20
      go_wp2_with fail
      go_ret
      exact ⟨rfl, HB.out⟩
    · have qn : ((n : Int) == 0) = false := by rw [beq_eq_false_iff_ne]; omega
      have hF : firstP ⟨l, (n, r) :: st, gr⟩ 123 = 0 := by unfold firstP; simp [h0]
      rw [hF]
      clear hF
      go_enter Tryz.func20, Tryz.ntmps20
      go_wp2_with fail
      go_ret
      exact ⟨rfl, HB.out⟩
  have q123 : ((b : Int) == 123) = false := by rw [beq_eq_false_iff_ne]; omega
  by_cases b41 : b = 41
  · subst b41
    clear c3 tP
    by_cases h0 : st = []
    · subst h0
      have hF : firstP ⟨l, [(n, r)], gr⟩ 41 = 8 := by rfl
      rw [hF]
      clear hF
      go_enter Tryz.func20, Tryz.ntmps20
      go_wp2_with fail
      go_ret
      exact ⟨rfl, HB.out⟩
    · have hl : 0 < st.length := List.length_pos_iff.2 h0
      have qn : ((st.length : Int) == 0) = false := by rw [beq_eq_false_iff_ne]; omega
      have hF : firstP ⟨l, (n, r) :: st, gr⟩ 41 = 0 := by unfold firstP; simp [h0]
      rw [hF]
      clear hF
      go_enter Tryz.func20, Tryz.ntmps20
      go_wp2_with fail
      go_ret
      exact ⟨rfl, HB.out⟩
  have q41 : ((b : Int) == 41) = false := by rw [beq_eq_false_iff_ne]; omega
  by_cases b40 : b = 40
  · subst b40
    clear tP
    by_cases h0 : gr = 9
    · subst h0
      have hF : firstP ⟨l, (n, r) :: st, 9⟩ 40 = 9 := by rfl
      rw [hF]
      clear hF
      go_enter Tryz.func20, Tryz.ntmps20
      go_wp2_with fail
      go_ret
      exact ⟨rfl, HB.out⟩
    · have qn : ((gr : Int) == 9) = false := by rw [beq_eq_false_iff_ne]; omega
      have hF : firstP ⟨l, (n, r) :: st, gr⟩ 40 = 0 := by unfold firstP; simp [h0]
      rw [hF]
      clear hF
      go_enter Tryz.func20, Tryz.ntmps20
      go_wp2_with fail
      go_ret
      exact ⟨rfl, HB.out⟩
  have q40 : ((b : Int) == 40) = false := by rw [beq_eq_false_iff_ne]; omega
  have hF : firstP ⟨l, (n, r) :: st, gr⟩ b = 0 := by unfold firstP; simp [b42, b43, b63, b123, b41, b40]
  rw [hF]
  clear hF
  clear b42 b43 b63 b123 b41 b40 c3 tP
  go_enter Tryz.func20, Tryz.ntmps20
  go_wp2_with fail
  go_ret
  exact ⟨rfl, HB.out⟩
end Go.Proofs.YthodphgbdmnpoaaGreat

/- The document's parse: take. Stage 7. -/
namespace Go.Proofs.YthodphgbdmnpoaaGreat
open Go.RowKit BS

/-- Three blocks made: the state, the word, the result's place. -/
theorem bx_new3 {base N : Nat} {A : Nat → Prop} {l : List NdN} {ps rs : List Nat} {vN vP vR : Value} {w : World} (g : Int) (cs : Array Value) (h : SV base N A l ps rs vN vP vR w) :
    BxV base (w.heap.size + 3) w.heap.size (w.heap.size + 2) (fun k => A k ∧ k ≠ w.heap.size ∧ k ≠ w.heap.size + 1 ∧ k ≠ w.heap.size + 2) l ps rs g vN vP vR w (((w.alloc (.cells (stW vN vP vR g) 48)).alloc (.cells cs 57)).alloc (.cells stO 48)) := by
  have h2 := ((h.alloc (.cells (stW vN vP vR g) 48)).alloc (.cells cs 57)).alloc (.cells stO 48)
  have hr := Blk.new ((w.alloc (.cells (stW vN vP vR g) 48)).alloc (.cells cs 57)) stO 48
  rw [World.size_alloc, World.size_alloc] at hr
  have hk : ∀ {v : Value} {e : TypeId} {size n : Nat} {xs : List Value}, w.ownsRow base e size v n xs → ∀ k, v.ownBlock = some k → k ≠ w.heap.size ∧ k ≠ w.heap.size + 1 ∧ k ≠ w.heap.size + 2 := fun ho k e => by have := own_lt ho e; omega
  refine ⟨⟨h2.nodes, h2.pieces, h2.rows, fun k e => ⟨h.aN k e, hk h.nodes k e⟩, fun k e => ⟨h.aP k e, hk h.pieces k e⟩, fun k e => ⟨h.aR k e, hk h.rows k e⟩, fun k hk => ⟨h.up k (Nat.le_trans h.sz (by omega)), by omega, by omega, by omega⟩, by simp, Nat.le_trans h.bs (Nat.le_trans h.sz (by omega)), h.nP, h.nR, h.pR⟩,
    ((Blk.new w _ _).alloc _).alloc _, hr, fun h => h.2.1 rfl, fun h => h.2.2.2 rfl, (((KpA.refl _ _).alloc _).alloc _).alloc _, by omega⟩
theorem bx_end3 {base N : Nat} {A : Nat → Prop} {l : List NdN} {ps rs : List Nat} {vN vP vR : Value} {w W : World} {g : Int} (hN : N ≤ w.heap.size) (hup : ∀ k, N ≤ k → A k) (hbs : base ≤ N) (h : BxV base (w.heap.size + 3) w.heap.size (w.heap.size + 2) (fun k => A k ∧ k ≠ w.heap.size ∧ k ≠ w.heap.size + 1 ∧ k ≠ w.heap.size + 2) l ps rs g vN vP vR w W) (cs : Array Value) :
    SV base N A l ps rs vN vP vR (W.setRow (w.heap.size + 2) cs) ∧ KpA A w (W.setRow (w.heap.size + 2) cs) := by
  refine ⟨(h.sv.row h.nB2 cs).mono hbs (Nat.le_trans hN (by have := h.kp.size; simpa [World.setRow] using this)) (fun k hk _ => hk.1) hup, (h.kp.row (.inr (by omega)) cs).mono fun k hk => ?_⟩
  rcases hk with hk | hk
  · exact hk.1
  · exact hup k (by omega)
theorem SV.piecesK {base N K : Nat} {A : Nat → Prop} {l : List NdN} {ps rs : List Nat} {n : Nat} {vN vP vR : Value} {w : World} (hK : ps.length = K) (h : SV base N A l (ps ++ [n]) rs vN vP vR w) : w.ownsRow base 3 1 vP (K + 1) (inC (ps ++ [n])) := by
  have := h.pieces
  rwa [List.length_append, List.length_singleton, hK] at this
theorem SV.rowsK {base N K : Nat} {A : Nat → Prop} {l : List NdN} {ps rs : List Nat} {n : Nat} {vN vP vR : Value} {w : World} (hK : rs.length = K) (h : SV base N A l ps (rs ++ [n]) vN vP vR w) : w.ownsRow base 3 1 vR (K + 1) (inC (rs ++ [n])) := by
  have := h.rows
  rwa [List.length_append, List.length_singleton, hK] at this
theorem len_snoc {ps : List Nat} {n K : Nat} (h : ps.length = K) : (ps ++ [n]).length = K + 1 := by rw [List.length_append, h]; rfl
theorem infoInt7 : (Tryz.prog.info? 3).map (fun i => (i.zero, i.size, i.bytes)) = some (some (.int .i64 0), 1, 8) := by kernel_rfl
set_option maxRecDepth 100000 in
set_option maxHeartbeats 16000000 in
theorem rtake1 {base N K : Nat} {A : Nat → Prop} {l : List NdN} {ps rs : List Nat} {n r gr : Nat} {vN vP vR : Value} (p f : Int) (t : BitVec 256) (n' m' : Int) (w : World) (h : SV base N A l (ps ++ [n]) (rs ++ [r]) vN vP vR w) (hp : ps.length = K) (hq : rs.length = K) (hl : l.length ≤ 3999990) (hn : n ≤ 2000000) (hp' : K ≤ 2000000) :
    Calls Tryz.prog 22 #[.agg (stW vN vP vR gr), .agg (woI 1 p f t n' m')] w fun e w' => ∃ vN' vP' vR', e = .returned (.agg (stW vN' vP' vR' gr)) ∧ SV base N A (l ++ [⟨2, 0, 0, 0, t⟩]) (ps ++ [n + 1]) (rs ++ [r]) vN' vP' vR' w' ∧ KpA A w w' := by
  obtain ⟨i0, hi0, hz0, hz1, hz2⟩ := info_parts info8n
  obtain ⟨aN, cN, rfl⟩ := h.formN
  obtain ⟨gP, cP, rfl, _⟩ := h.topPK hp
  obtain ⟨gR, cR, rfl, _⟩ := h.topRK hq
  have hx := bx_new3 (gr : Int) (woI 1 p f t n' m') h
  have hW : Blk (((w.alloc (.cells (stW (.slice aN l.length cN) (.slice (some ⟨gP, 0, none⟩) (K + 1 : Nat) cP) (.slice (some ⟨gR, 0, none⟩) (K + 1 : Nat) cR) gr) 48)).alloc (.cells (woI 1 p f t n' m') 57)).alloc (.cells stO 48)) (w.heap.size + 1) (woI 1 p f t n' m') 57 := by
    have := (Blk.new (w.alloc (.cells (stW (.slice aN l.length cN) (.slice (some ⟨gP, 0, none⟩) (K + 1 : Nat) cP) (.slice (some ⟨gR, 0, none⟩) (K + 1 : Nat) cR) gr) 48)) (woI 1 p f t n' m') 57).alloc (.cells stO 48)
    rwa [World.size_alloc] at this
  have HU := Lib.hid (And.intro h.sz (And.intro h.up h.bs))
  have HPQ := Lib.hid (And.intro hp hq)
  clear h hp hq
  go_enter Tryz.func22, Tryz.ntmps22
  go_upto_region 1 with fail
  have e0 : ((w.alloc (.cells #[.slice aN l.length cN, .slice (some ⟨gP, 0, none⟩) (K + 1 : Nat) cP, .slice (some ⟨gR, 0, none⟩) (K + 1 : Nat) cR, .int .i64 gr] 48)).alloc (.cells (woI 1 p f t n' m') 57)).alloc (.cells #[.slice none 0 0, .slice none 0 0, .slice none 0 0, .int .i64 0] 48) = ((w.alloc (.cells (stW (.slice aN l.length cN) (.slice (some ⟨gP, 0, none⟩) (K + 1 : Nat) cP) (.slice (some ⟨gR, 0, none⟩) (K + 1 : Nat) cR) gr) 48)).alloc (.cells (woI 1 p f t n' m') 57)).alloc (.cells stO 48) := rfl
  try rw [e0]
  clear e0
  generalize ((w.alloc (.cells (stW (.slice aN l.length cN) (.slice (some ⟨gP, 0, none⟩) (K + 1 : Nat) cP) (.slice (some ⟨gR, 0, none⟩) (K + 1 : Nat) cR) gr) 48)).alloc (.cells (woI 1 p f t n' m') 57)).alloc (.cells stO 48) = w1 at *
  have d0 := hW.cell 0; have d3 := hW.cell 3; have d4 := hW.cell 4; have d5 := hW.cell 5; have d6 := hW.cell 6; have d7 := hW.cell 7; have d8 := hW.cell 8
  simp only [List.getElem?_toArray, List.getElem?_cons_zero, List.getElem?_cons_succ] at d0 d3 d4 d5 d6 d7 d8
  clear hW
  obtain ⟨c0, c1, c2, c3⟩ := hx.c
  obtain ⟨f0, f1, f2, f3⟩ := hx.f
  obtain ⟨_, _, e, lP, kP, tP, yP⟩ := hx.sv.topPK HPQ.out.1
  cases e
  obtain ⟨_, _, e, lR, kR, tR, yR⟩ := hx.sv.topRK HPQ.out.2
  cases e
  have HX := Lib.hid hx
  clear hx
  have q0 : (0 : Int) ≤ (K : Int) := by omega
  have q1 : (K : Int) < ((K + 1 : Nat) : Int) := by omega
  go_upto_region 5 with (at_builtin; go_loud (refine wpList_append_lies _ rfl _ _ 23 rfl base 36 i0 (.agg #[.int .i64 0, .int .i64 0, .int .i64 0, .int .i64 0, .int .u64 0, .int .u64 0, .int .u64 0, .int .u64 0]) 8 64 Tryz.underlying23 hi0 hz0 hz1 hz2 rfl (by decide) (.slice aN l.length cN) l.length (ndCells l) rfl (HX.out.alloc _).sv.nodes ⟨w1.heap.size, 0, none⟩ 1 1 [.int .i64 2, .int .i64 0, .int .i64 0, .int .i64 0, .int .u64 (wd t 0), .int .u64 (wd t 1), .int .u64 (wd t 2), .int .u64 (wd t 3)] rfl rfl (World.news_of_block (cs := [.int .i64 2, .int .i64 0, .int .i64 0, .int .i64 0, .int .u64 (wd t 0), .int .u64 (wd t 1), .int .u64 (wd t 2), .int .u64 (wd t 3)].toArray) (t := 36) (fr := (0, 0)) (heap_alloc_new w1 _)) (by simp [Value.oneCell']) (by omega) (by simp only [maxLen]; omega) (by omega) (by have := HX.out.sv.sz; have := HX.out.sv.bs; simp; omega) (w1.heap.size + 1) (by simp) ?_); intro g' cap' w2 hown hgrow hat hlt; have hb2 := (HX.out.alloc _).blk.kept hgrow (fun e => (HX.out.nB (HX.out.sv.aN _ e.symm))); have j0 := hb2.cell 0; have y0 := hb2.frozen 0; simp only [List.getElem?_toArray, List.getElem?_cons_zero] at j0)
  have h2 := (HX.out.alloc _).pushN (nd := ⟨2, 0, 0, 0, t⟩) (by first | exact hown | (rw [nd_zero7]; exact hown)) hgrow (hat.imp id fun e => by rw [e]; simp)
  clear HX hown hgrow hat hlt hb2 j0 y0
  clear c0 c1 c2 c3 f0 f1 f2 f3 lP kP tP yP lR kR tR yR
  generalize w2.setCell ⟨w.heap.size, 0, none⟩ (.slice (some ⟨g', 0, none⟩) (l.length + 1 : Nat) cap') = w4 at *
  clear d0 d3 d4 d5 d6 d7 d8
  obtain ⟨c0, c1, c2, c3⟩ := h2.c
  obtain ⟨f0, f1, f2, f3⟩ := h2.f
  obtain ⟨_, _, e, lP, kP, tP, yP⟩ := h2.sv.topPK HPQ.out.1
  cases e
  obtain ⟨_, _, e, lR, kR, tR, yR⟩ := h2.sv.topRK HPQ.out.2
  cases e
  have HX := Lib.hid h2
  clear h2
  go_upto_region 18 with fail
  have h3 := HX.out.setPK HPQ.out.1 (n + 1) (v := (n : Int) + 1) rfl
  clear HX
  clear c0 c1 c2 c3 f0 f1 f2 f3 lP kP tP yP lR kR tR yR
  generalize w4.setCell ⟨gP, K, none⟩ (.int .i64 ((n : Int) + 1)) = w5 at *
  obtain ⟨c0, c1, c2, c3⟩ := h3.c
  obtain ⟨f0, f1, f2, f3⟩ := h3.f
  obtain ⟨_, _, e, lP, kP, tP, yP⟩ := h3.sv.topPK HPQ.out.1
  cases e
  obtain ⟨_, _, e, lR, kR, tR, yR⟩ := h3.sv.topRK HPQ.out.2
  cases e
  have HX := Lib.hid h3
  clear h3
  go_wp2_with ((with_reducible refine wpList_store_st (o := ⟨none, .store 48 _ _, _, _, _, _⟩) rfl 48 _ _ rfl (w.heap.size + 2) rfl rfl (run_storeAt_row _ (w.heap.size + 2) 48 48 stO (stW (.slice (some ⟨g', 0, none⟩) (l.length + 1 : Nat) cap') (.slice (some ⟨gP, 0, none⟩) (K + 1 : Nat) cP) (.slice (some ⟨gR, 0, none⟩) (K + 1 : Nat) cR) (gr : Int)) ?_ ?_ ?_ ?_) ?_); exact HX.out.res; exact infoSt7; rfl; exact st_one7 _ _ _ _ _ _ _ _ _ _)
  have hE := bx_end3 HU.out.1 HU.out.2.1 HU.out.2.2 HX.out (stW (.slice (some ⟨g', 0, none⟩) (l.length + 1 : Nat) cap') (.slice (some ⟨gP, 0, none⟩) (K + 1 : Nat) cP) (.slice (some ⟨gR, 0, none⟩) (K + 1 : Nat) cR) (gr : Int))
  exact bodyPost_ret (v := .agg (stW (.slice (some ⟨g', 0, none⟩) (l.length + 1 : Nat) cap') (.slice (some ⟨gP, 0, none⟩) (K + 1 : Nat) cP) (.slice (some ⟨gR, 0, none⟩) (K + 1 : Nat) cR) (gr : Int))) (results_cell_row rfl _ _ (w.heap.size + 2) 48 (stW (.slice (some ⟨g', 0, none⟩) (l.length + 1 : Nat) cap') (.slice (some ⟨gP, 0, none⟩) (K + 1 : Nat) cP) (.slice (some ⟨gR, 0, none⟩) (K + 1 : Nat) cR) (gr : Int)) (0, 0) _ rfl (Blk.setRow HX.out.res) Tryz.underlying48 rfl infoSt7) rfl ⟨_, _, _, rfl, hE.1, hE.2⟩
set_option maxRecDepth 100000 in
set_option maxHeartbeats 16000000 in
theorem rtake5 {base N K : Nat} {A : Nat → Prop} {l : List NdN} {ps rs : List Nat} {n r gr : Nat} {vN vP vR : Value} (p f : Int) (t : BitVec 256) (n' m' : Int) (w : World) (h : SV base N A l (ps ++ [n]) (rs ++ [r]) vN vP vR w) (hp : ps.length = K) (hq : rs.length = K) (hl : l.length ≤ 3999990) (hp' : K ≤ 2000000) :
    Calls Tryz.prog 22 #[.agg (stW vN vP vR gr), .agg (woI 5 p f t n' m')] w fun e w' => ∃ vN' vP' vR', e = .returned (.agg (stW vN' vP' vR' gr)) ∧ SV base N A (l ++ [⟨4, 1, n', m', 0⟩]) (ps ++ [n]) (rs ++ [r]) vN' vP' vR' w' ∧ KpA A w w' := by
  obtain ⟨i0, hi0, hz0, hz1, hz2⟩ := info_parts info8n
  obtain ⟨aN, cN, rfl⟩ := h.formN
  obtain ⟨gP, cP, rfl, _⟩ := h.topPK hp
  obtain ⟨gR, cR, rfl, _⟩ := h.topRK hq
  have hx := bx_new3 (gr : Int) (woI 5 p f t n' m') h
  have hW : Blk (((w.alloc (.cells (stW (.slice aN l.length cN) (.slice (some ⟨gP, 0, none⟩) (K + 1 : Nat) cP) (.slice (some ⟨gR, 0, none⟩) (K + 1 : Nat) cR) gr) 48)).alloc (.cells (woI 5 p f t n' m') 57)).alloc (.cells stO 48)) (w.heap.size + 1) (woI 5 p f t n' m') 57 := by
    have := (Blk.new (w.alloc (.cells (stW (.slice aN l.length cN) (.slice (some ⟨gP, 0, none⟩) (K + 1 : Nat) cP) (.slice (some ⟨gR, 0, none⟩) (K + 1 : Nat) cR) gr) 48)) (woI 5 p f t n' m') 57).alloc (.cells stO 48)
    rwa [World.size_alloc] at this
  have HU := Lib.hid (And.intro h.sz (And.intro h.up h.bs))
  have HPQ := Lib.hid (And.intro hp hq)
  clear h hp hq
  go_enter Tryz.func22, Tryz.ntmps22
  go_upto_region 1 with fail
  have e0 : ((w.alloc (.cells #[.slice aN l.length cN, .slice (some ⟨gP, 0, none⟩) (K + 1 : Nat) cP, .slice (some ⟨gR, 0, none⟩) (K + 1 : Nat) cR, .int .i64 gr] 48)).alloc (.cells (woI 5 p f t n' m') 57)).alloc (.cells #[.slice none 0 0, .slice none 0 0, .slice none 0 0, .int .i64 0] 48) = ((w.alloc (.cells (stW (.slice aN l.length cN) (.slice (some ⟨gP, 0, none⟩) (K + 1 : Nat) cP) (.slice (some ⟨gR, 0, none⟩) (K + 1 : Nat) cR) gr) 48)).alloc (.cells (woI 5 p f t n' m') 57)).alloc (.cells stO 48) := rfl
  try rw [e0]
  clear e0
  generalize ((w.alloc (.cells (stW (.slice aN l.length cN) (.slice (some ⟨gP, 0, none⟩) (K + 1 : Nat) cP) (.slice (some ⟨gR, 0, none⟩) (K + 1 : Nat) cR) gr) 48)).alloc (.cells (woI 5 p f t n' m') 57)).alloc (.cells stO 48) = w1 at *
  have d0 := hW.cell 0; have d3 := hW.cell 3; have d4 := hW.cell 4; have d5 := hW.cell 5; have d6 := hW.cell 6; have d7 := hW.cell 7; have d8 := hW.cell 8
  simp only [List.getElem?_toArray, List.getElem?_cons_zero, List.getElem?_cons_succ] at d0 d3 d4 d5 d6 d7 d8
  clear hW
  obtain ⟨c0, c1, c2, c3⟩ := hx.c
  obtain ⟨f0, f1, f2, f3⟩ := hx.f
  obtain ⟨_, _, e, lP, kP, tP, yP⟩ := hx.sv.topPK HPQ.out.1
  cases e
  obtain ⟨_, _, e, lR, kR, tR, yR⟩ := hx.sv.topRK HPQ.out.2
  cases e
  have HX := Lib.hid hx
  clear hx
  have q0 : (0 : Int) ≤ (K : Int) := by omega
  have q1 : (K : Int) < ((K + 1 : Nat) : Int) := by omega
  go_upto_region 18 with (at_builtin; go_loud (refine wpList_append_lies _ rfl _ _ 23 rfl base 36 i0 (.agg #[.int .i64 0, .int .i64 0, .int .i64 0, .int .i64 0, .int .u64 0, .int .u64 0, .int .u64 0, .int .u64 0]) 8 64 Tryz.underlying23 hi0 hz0 hz1 hz2 rfl (by decide) (.slice aN l.length cN) l.length (ndCells l) rfl (HX.out.alloc _).sv.nodes ⟨w1.heap.size, 0, none⟩ 1 1 [.int .i64 4, .int .i64 1, .int .i64 n', .int .i64 m', .int .u64 0, .int .u64 0, .int .u64 0, .int .u64 0] rfl rfl (World.news_of_block (cs := [.int .i64 4, .int .i64 1, .int .i64 n', .int .i64 m', .int .u64 0, .int .u64 0, .int .u64 0, .int .u64 0].toArray) (t := 36) (fr := (0, 0)) (heap_alloc_new w1 _)) (by simp [Value.oneCell']) (by omega) (by simp only [maxLen]; omega) (by omega) (by have := HX.out.sv.sz; have := HX.out.sv.bs; simp; omega) (w1.heap.size + 1) (by simp) ?_); intro g' cap' w2 hown hgrow hat hlt; have hb2 := (HX.out.alloc _).blk.kept hgrow (fun e => (HX.out.nB (HX.out.sv.aN _ e.symm))); have j0 := hb2.cell 0; have y0 := hb2.frozen 0; simp only [List.getElem?_toArray, List.getElem?_cons_zero] at j0)
  have h2 := (HX.out.alloc _).pushN (nd := ⟨4, 1, n', m', 0⟩) (by first | exact hown | (rw [nd_zero7]; exact hown)) hgrow (hat.imp id fun e => by rw [e]; simp)
  clear HX hown hgrow hat hlt hb2 j0 y0
  clear c0 c1 c2 c3 f0 f1 f2 f3 lP kP tP yP lR kR tR yR
  generalize w2.setCell ⟨w.heap.size, 0, none⟩ (.slice (some ⟨g', 0, none⟩) (l.length + 1 : Nat) cap') = w4 at *
  clear d0 d3 d4 d5 d6 d7 d8
  obtain ⟨c0, c1, c2, c3⟩ := h2.c
  obtain ⟨f0, f1, f2, f3⟩ := h2.f
  obtain ⟨_, _, e, lP, kP, tP, yP⟩ := h2.sv.topPK HPQ.out.1
  cases e
  obtain ⟨_, _, e, lR, kR, tR, yR⟩ := h2.sv.topRK HPQ.out.2
  cases e
  have HX := Lib.hid h2
  clear h2
  go_wp2_with ((with_reducible refine wpList_store_st (o := ⟨none, .store 48 _ _, _, _, _, _⟩) rfl 48 _ _ rfl (w.heap.size + 2) rfl rfl (run_storeAt_row _ (w.heap.size + 2) 48 48 stO (stW (.slice (some ⟨g', 0, none⟩) (l.length + 1 : Nat) cap') (.slice (some ⟨gP, 0, none⟩) (K + 1 : Nat) cP) (.slice (some ⟨gR, 0, none⟩) (K + 1 : Nat) cR) (gr : Int)) ?_ ?_ ?_ ?_) ?_); exact HX.out.res; exact infoSt7; rfl; exact st_one7 _ _ _ _ _ _ _ _ _ _)
  have hE := bx_end3 HU.out.1 HU.out.2.1 HU.out.2.2 HX.out (stW (.slice (some ⟨g', 0, none⟩) (l.length + 1 : Nat) cap') (.slice (some ⟨gP, 0, none⟩) (K + 1 : Nat) cP) (.slice (some ⟨gR, 0, none⟩) (K + 1 : Nat) cR) (gr : Int))
  exact bodyPost_ret (v := .agg (stW (.slice (some ⟨g', 0, none⟩) (l.length + 1 : Nat) cap') (.slice (some ⟨gP, 0, none⟩) (K + 1 : Nat) cP) (.slice (some ⟨gR, 0, none⟩) (K + 1 : Nat) cR) (gr : Int))) (results_cell_row rfl _ _ (w.heap.size + 2) 48 (stW (.slice (some ⟨g', 0, none⟩) (l.length + 1 : Nat) cap') (.slice (some ⟨gP, 0, none⟩) (K + 1 : Nat) cP) (.slice (some ⟨gR, 0, none⟩) (K + 1 : Nat) cR) (gr : Int)) (0, 0) _ rfl (Blk.setRow HX.out.res) Tryz.underlying48 rfl infoSt7) rfl ⟨_, _, _, rfl, hE.1, hE.2⟩
set_option maxRecDepth 100000 in
set_option maxHeartbeats 16000000 in
theorem rtake4 {base N K : Nat} {A : Nat → Prop} {l : List NdN} {ps rs : List Nat} {n r gr : Nat} {vN vP vR : Value} (p f : Int) (t : BitVec 256) (n' m' : Int) (w : World) (h : SV base N A l (ps ++ [n]) (rs ++ [r]) vN vP vR w) (hp : ps.length = K) (hq : rs.length = K) (hl : l.length ≤ 3999990) (hn : n ≤ 2000000) (hr' : r ≤ 2000000) (hp' : K ≤ 2000000) :
    Calls Tryz.prog 22 #[.agg (stW vN vP vR gr), .agg (woI 4 p f t n' m')] w fun e w' => ∃ vN' vP' vR', e = .returned (.agg (stW vN' vP' vR' gr)) ∧ SV base N A (l ++ rowT n) (ps ++ [0]) (rs ++ [r + 1]) vN' vP' vR' w' ∧ KpA A w w' := by
  obtain ⟨i0, hi0, hz0, hz1, hz2⟩ := info_parts info8n
  have HRW := Lib.hid (fun vN vP vR W (h : SV base (w.heap.size + 3) (fun k => A k ∧ k ≠ w.heap.size ∧ k ≠ w.heap.size + 1 ∧ k ≠ w.heap.size + 2) l (ps ++ [n]) (rs ++ [r]) vN vP vR W) => rrow_calls (gr := gr) W h hp hq (by omega) hn hr' hp')
  obtain ⟨aN, cN, rfl⟩ := h.formN
  obtain ⟨gP, cP, rfl, _⟩ := h.topPK hp
  obtain ⟨gR, cR, rfl, _⟩ := h.topRK hq
  have hx := bx_new3 (gr : Int) (woI 4 p f t n' m') h
  have hW : Blk (((w.alloc (.cells (stW (.slice aN l.length cN) (.slice (some ⟨gP, 0, none⟩) (K + 1 : Nat) cP) (.slice (some ⟨gR, 0, none⟩) (K + 1 : Nat) cR) gr) 48)).alloc (.cells (woI 4 p f t n' m') 57)).alloc (.cells stO 48)) (w.heap.size + 1) (woI 4 p f t n' m') 57 := by
    have := (Blk.new (w.alloc (.cells (stW (.slice aN l.length cN) (.slice (some ⟨gP, 0, none⟩) (K + 1 : Nat) cP) (.slice (some ⟨gR, 0, none⟩) (K + 1 : Nat) cR) gr) 48)) (woI 4 p f t n' m') 57).alloc (.cells stO 48)
    rwa [World.size_alloc] at this
  have HU := Lib.hid (And.intro h.sz (And.intro h.up h.bs))
  have HPQ := Lib.hid (And.intro hp hq)
  clear h hp hq
  go_enter Tryz.func22, Tryz.ntmps22
  go_upto_region 1 with fail
  have e0 : ((w.alloc (.cells #[.slice aN l.length cN, .slice (some ⟨gP, 0, none⟩) (K + 1 : Nat) cP, .slice (some ⟨gR, 0, none⟩) (K + 1 : Nat) cR, .int .i64 gr] 48)).alloc (.cells (woI 4 p f t n' m') 57)).alloc (.cells #[.slice none 0 0, .slice none 0 0, .slice none 0 0, .int .i64 0] 48) = ((w.alloc (.cells (stW (.slice aN l.length cN) (.slice (some ⟨gP, 0, none⟩) (K + 1 : Nat) cP) (.slice (some ⟨gR, 0, none⟩) (K + 1 : Nat) cR) gr) 48)).alloc (.cells (woI 4 p f t n' m') 57)).alloc (.cells stO 48) := rfl
  try rw [e0]
  clear e0
  generalize ((w.alloc (.cells (stW (.slice aN l.length cN) (.slice (some ⟨gP, 0, none⟩) (K + 1 : Nat) cP) (.slice (some ⟨gR, 0, none⟩) (K + 1 : Nat) cR) gr) 48)).alloc (.cells (woI 4 p f t n' m') 57)).alloc (.cells stO 48) = w1 at *
  have d0 := hW.cell 0; have d3 := hW.cell 3; have d4 := hW.cell 4; have d5 := hW.cell 5; have d6 := hW.cell 6; have d7 := hW.cell 7; have d8 := hW.cell 8
  simp only [List.getElem?_toArray, List.getElem?_cons_zero, List.getElem?_cons_succ] at d0 d3 d4 d5 d6 d7 d8
  clear hW
  obtain ⟨c0, c1, c2, c3⟩ := hx.c
  obtain ⟨f0, f1, f2, f3⟩ := hx.f
  obtain ⟨_, _, e, lP, kP, tP, yP⟩ := hx.sv.topPK HPQ.out.1
  cases e
  obtain ⟨_, _, e, lR, kR, tR, yR⟩ := hx.sv.topRK HPQ.out.2
  cases e
  have HX := Lib.hid hx
  clear hx
  have q0 : (0 : Int) ≤ (K : Int) := by omega
  have q1 : (K : Int) < ((K + 1 : Nat) : Int) := by omega
  go_wp2_with fail
  refine (HRW.out _ _ _ _ HX.out.sv).mono ?_
  rintro e w2 ⟨vN', rfl, hs, hk⟩
  clear d0 d3 d4 d5 d6 d7 d8
  generalize hll : l ++ rowT n = l2 at *
  have HLL := Lib.hid hll
  clear hll
  obtain ⟨aM, cM, rfl⟩ := hs.formN
  have hb2 := HX.out.blk.kpA hk HX.out.nB
  have h2 := HX.out.call (g2 := (gr : Int)) hs hk
  clear HRW HX hs hk c0 c1 c2 c3 f0 f1 f2 f3 lP kP tP yP lR kR tR yR
  go_upto_region 18 with ((with_reducible refine wpList_store_st (o := ⟨none, .store 48 _ _, _, _, _, _⟩) rfl 48 _ _ rfl w.heap.size rfl rfl (run_storeAt_row _ w.heap.size 48 48 (stW (.slice aN l.length cN) (.slice (some ⟨gP, 0, none⟩) (K + 1 : Nat) cP) (.slice (some ⟨gR, 0, none⟩) (K + 1 : Nat) cR) (gr : Int)) (stW (.slice aM l2.length cM) (.slice (some ⟨gP, 0, none⟩) (K + 1 : Nat) cP) (.slice (some ⟨gR, 0, none⟩) (K + 1 : Nat) cR) (gr : Int)) ?_ ?_ ?_ ?_) ?_); exact hb2; exact infoSt7; rfl; exact st_one7 _ _ _ _ _ _ _ _ _ _)
  clear hb2
  generalize w2.setRow w.heap.size (stW (.slice aM l2.length cM) (.slice (some ⟨gP, 0, none⟩) (K + 1 : Nat) cP) (.slice (some ⟨gR, 0, none⟩) (K + 1 : Nat) cR) (gr : Int)) = w3 at *
  obtain ⟨c0, c1, c2, c3⟩ := h2.c
  obtain ⟨f0, f1, f2, f3⟩ := h2.f
  obtain ⟨_, _, e, lP, kP, tP, yP⟩ := h2.sv.topPK HPQ.out.1
  cases e
  obtain ⟨_, _, e, lR, kR, tR, yR⟩ := h2.sv.topRK HPQ.out.2
  cases e
  have HX := Lib.hid h2
  clear h2
  go_wp2_with ((with_reducible refine wpList_store_st (o := ⟨none, .store 48 _ _, _, _, _, _⟩) rfl 48 _ _ rfl (w.heap.size + 2) rfl rfl (run_storeAt_row _ (w.heap.size + 2) 48 48 stO (stW (.slice aM l2.length cM) (.slice (some ⟨gP, 0, none⟩) (K + 1 : Nat) cP) (.slice (some ⟨gR, 0, none⟩) (K + 1 : Nat) cR) (gr : Int)) ?_ ?_ ?_ ?_) ?_); exact HX.out.res; exact infoSt7; rfl; exact st_one7 _ _ _ _ _ _ _ _ _ _)
  have hE := bx_end3 HU.out.1 HU.out.2.1 HU.out.2.2 HX.out (stW (.slice aM l2.length cM) (.slice (some ⟨gP, 0, none⟩) (K + 1 : Nat) cP) (.slice (some ⟨gR, 0, none⟩) (K + 1 : Nat) cR) (gr : Int))
  exact bodyPost_ret (v := .agg (stW (.slice aM l2.length cM) (.slice (some ⟨gP, 0, none⟩) (K + 1 : Nat) cP) (.slice (some ⟨gR, 0, none⟩) (K + 1 : Nat) cR) (gr : Int))) (results_cell_row rfl _ _ (w.heap.size + 2) 48 (stW (.slice aM l2.length cM) (.slice (some ⟨gP, 0, none⟩) (K + 1 : Nat) cP) (.slice (some ⟨gR, 0, none⟩) (K + 1 : Nat) cR) (gr : Int)) (0, 0) _ rfl (Blk.setRow HX.out.res) Tryz.underlying48 rfl infoSt7) rfl ⟨_, _, _, rfl, by rw [HLL.out]; exact hE.1, hE.2⟩
set_option maxRecDepth 100000 in
set_option maxHeartbeats 16000000 in
theorem rtake2 {base N K : Nat} {A : Nat → Prop} {l : List NdN} {ps rs : List Nat} {n r gr : Nat} {vN vP vR : Value} (p f : Int) (t : BitVec 256) (n' m' : Int) (w : World) (h : SV base N A l (ps ++ [n]) (rs ++ [r]) vN vP vR w) (hp : ps.length = K) (hq : rs.length = K) (hg : gr < 9) (hp' : K ≤ 2000000) :
    Calls Tryz.prog 22 #[.agg (stW vN vP vR gr), .agg (woI 2 p f t n' m')] w fun e w' => ∃ vN' vP' vR', e = .returned (.agg (stW vN' vP' vR' ((gr : Int) + 1))) ∧ SV base N A l (ps ++ [n] ++ [0]) (rs ++ [r] ++ [0]) vN' vP' vR' w' ∧ KpA A w w' := by
  obtain ⟨i1, hj0, hj1, hj2, hj3⟩ := info_parts infoInt7
  obtain ⟨aN, cN, rfl⟩ := h.formN
  obtain ⟨gP, cP, rfl, _⟩ := h.topPK hp
  obtain ⟨gR, cR, rfl, _⟩ := h.topRK hq
  have hx := bx_new3 (gr : Int) (woI 2 p f t n' m') h
  have hW : Blk (((w.alloc (.cells (stW (.slice aN l.length cN) (.slice (some ⟨gP, 0, none⟩) (K + 1 : Nat) cP) (.slice (some ⟨gR, 0, none⟩) (K + 1 : Nat) cR) gr) 48)).alloc (.cells (woI 2 p f t n' m') 57)).alloc (.cells stO 48)) (w.heap.size + 1) (woI 2 p f t n' m') 57 := by
    have := (Blk.new (w.alloc (.cells (stW (.slice aN l.length cN) (.slice (some ⟨gP, 0, none⟩) (K + 1 : Nat) cP) (.slice (some ⟨gR, 0, none⟩) (K + 1 : Nat) cR) gr) 48)) (woI 2 p f t n' m') 57).alloc (.cells stO 48)
    rwa [World.size_alloc] at this
  have HU := Lib.hid (And.intro h.sz (And.intro h.up h.bs))
  have HPQ := Lib.hid (And.intro hp hq)
  clear h hp hq
  go_enter Tryz.func22, Tryz.ntmps22
  go_upto_region 1 with fail
  have e0 : ((w.alloc (.cells #[.slice aN l.length cN, .slice (some ⟨gP, 0, none⟩) (K + 1 : Nat) cP, .slice (some ⟨gR, 0, none⟩) (K + 1 : Nat) cR, .int .i64 gr] 48)).alloc (.cells (woI 2 p f t n' m') 57)).alloc (.cells #[.slice none 0 0, .slice none 0 0, .slice none 0 0, .int .i64 0] 48) = ((w.alloc (.cells (stW (.slice aN l.length cN) (.slice (some ⟨gP, 0, none⟩) (K + 1 : Nat) cP) (.slice (some ⟨gR, 0, none⟩) (K + 1 : Nat) cR) gr) 48)).alloc (.cells (woI 2 p f t n' m') 57)).alloc (.cells stO 48) := rfl
  try rw [e0]
  clear e0
  generalize ((w.alloc (.cells (stW (.slice aN l.length cN) (.slice (some ⟨gP, 0, none⟩) (K + 1 : Nat) cP) (.slice (some ⟨gR, 0, none⟩) (K + 1 : Nat) cR) gr) 48)).alloc (.cells (woI 2 p f t n' m') 57)).alloc (.cells stO 48) = w1 at *
  have d0 := hW.cell 0; have d3 := hW.cell 3; have d4 := hW.cell 4; have d5 := hW.cell 5; have d6 := hW.cell 6; have d7 := hW.cell 7; have d8 := hW.cell 8
  simp only [List.getElem?_toArray, List.getElem?_cons_zero, List.getElem?_cons_succ] at d0 d3 d4 d5 d6 d7 d8
  clear hW
  obtain ⟨c0, c1, c2, c3⟩ := hx.c
  obtain ⟨f0, f1, f2, f3⟩ := hx.f
  obtain ⟨_, _, e, lP, kP, tP, yP⟩ := hx.sv.topPK HPQ.out.1
  cases e
  obtain ⟨_, _, e, lR, kR, tR, yR⟩ := hx.sv.topRK HPQ.out.2
  cases e
  have HX := Lib.hid hx
  clear hx
  have q0 : (0 : Int) ≤ (K : Int) := by omega
  have q1 : (K : Int) < ((K + 1 : Nat) : Int) := by omega
  clear lP kP tP yP lR kR tR yR
  go_upto_region 8 with (at_builtin; go_loud (refine wpList_append_lies _ rfl _ _ 46 rfl base 3 i1 (.int .i64 0) 1 8 Tryz.underlying46 hj0 hj1 hj2 hj3 rfl (by decide) (.slice (some ⟨gP, 0, none⟩) (K + 1 : Nat) cP) (K + 1) (inC (ps ++ [n])) rfl ((HX.out.alloc _).sv.piecesK HPQ.out.1) ⟨w1.heap.size, 0, none⟩ 1 1 [.int .i64 0] rfl rfl (World.news_of_block (cs := #[.int .i64 0]) (t := 3) (fr := (0, 0)) (heap_alloc_new w1 _)) (by simp [Value.oneCell']) (by omega) (by simp only [maxLen]; omega) (by omega) (by have := HX.out.sv.sz; have := HX.out.sv.bs; simp; omega) (w1.heap.size + 1) (by simp) ?_); intro g1 cap1 w2 hown hgrow hat hlt; have hb2 := (HX.out.alloc _).blk.kept hgrow (fun e => (HX.out.nB (HX.out.sv.aP _ e.symm))); have j0 := hb2.cell 1; have y0 := hb2.frozen 1; simp only [List.getElem?_toArray, List.getElem?_cons_zero, List.getElem?_cons_succ] at j0)
  have h2 := (HX.out.alloc _).pushPK (n := 0) (len_snoc HPQ.out.1) hown hgrow (hat.imp id fun e => by rw [e]; simp)
  clear HX hown hgrow hat hlt hb2 j0 y0
  clear c0 c1 c2 c3 f0 f1 f2 f3
  generalize w2.setCell ⟨w.heap.size, 1, none⟩ (.slice (some ⟨g1, 0, none⟩) (K + 1 + 1 : Nat) cap1) = w4 at *
  obtain ⟨c0, c1, c2, c3⟩ := h2.c
  obtain ⟨f0, f1, f2, f3⟩ := h2.f
  have HX := Lib.hid h2
  clear h2
  go_upto_region 9 with (at_builtin; go_loud (refine wpList_append_lies _ rfl _ _ 46 rfl base 3 i1 (.int .i64 0) 1 8 Tryz.underlying46 hj0 hj1 hj2 hj3 rfl (by decide) (.slice (some ⟨gR, 0, none⟩) (K + 1 : Nat) cR) (K + 1) (inC (rs ++ [r])) rfl ((HX.out.alloc _).sv.rowsK HPQ.out.2) ⟨w4.heap.size, 0, none⟩ 1 1 [.int .i64 0] rfl rfl (World.news_of_block (cs := #[.int .i64 0]) (t := 3) (fr := (0, 0)) (heap_alloc_new w4 _)) (by simp [Value.oneCell']) (by omega) (by simp only [maxLen]; omega) (by omega) (by have := HX.out.sv.sz; have := HX.out.sv.bs; simp; omega) (w4.heap.size + 1) (by simp) ?_); intro g2 cap2 w2 hown hgrow hat hlt; have hb2 := (HX.out.alloc _).blk.kept hgrow (fun e => (HX.out.nB (HX.out.sv.aR _ e.symm))); have j0 := hb2.cell 2; have y0 := hb2.frozen 2; simp only [List.getElem?_toArray, List.getElem?_cons_zero, List.getElem?_cons_succ] at j0)
  have h2 := (HX.out.alloc _).pushRK (n := 0) (len_snoc HPQ.out.2) hown hgrow (hat.imp id fun e => by rw [e]; simp)
  clear HX hown hgrow hat hlt hb2 j0 y0
  clear c0 c1 c2 c3 f0 f1 f2 f3
  generalize w2.setCell ⟨w.heap.size, 2, none⟩ (.slice (some ⟨g2, 0, none⟩) (K + 1 + 1 : Nat) cap2) = w5 at *
  obtain ⟨c0, c1, c2, c3⟩ := h2.c
  obtain ⟨f0, f1, f2, f3⟩ := h2.f
  have HX := Lib.hid h2
  clear h2
  go_upto_region 18 with fail
  have h2 := HX.out.setG ((gr : Int) + 1)
  clear HX
  clear c0 c1 c2 c3 f0 f1 f2 f3
  generalize w5.setCell ⟨w.heap.size, 3, none⟩ (.int .i64 ((gr : Int) + 1)) = w6 at *
  obtain ⟨c0, c1, c2, c3⟩ := h2.c
  obtain ⟨f0, f1, f2, f3⟩ := h2.f
  have HX := Lib.hid h2
  clear h2
  clear d0 d3 d4 d5 d6 d7 d8
  go_wp2_with ((with_reducible refine wpList_store_st (o := ⟨none, .store 48 _ _, _, _, _, _⟩) rfl 48 _ _ rfl (w.heap.size + 2) rfl rfl (run_storeAt_row _ (w.heap.size + 2) 48 48 stO (stW (.slice aN l.length cN) (.slice (some ⟨g1, 0, none⟩) (K + 1 + 1 : Nat) cap1) (.slice (some ⟨g2, 0, none⟩) (K + 1 + 1 : Nat) cap2) ((gr : Int) + 1)) ?_ ?_ ?_ ?_) ?_); exact HX.out.res; exact infoSt7; rfl; exact st_one7 _ _ _ _ _ _ _ _ _ _)
  have hE := bx_end3 HU.out.1 HU.out.2.1 HU.out.2.2 HX.out (stW (.slice aN l.length cN) (.slice (some ⟨g1, 0, none⟩) (K + 1 + 1 : Nat) cap1) (.slice (some ⟨g2, 0, none⟩) (K + 1 + 1 : Nat) cap2) ((gr : Int) + 1))
  exact bodyPost_ret (v := .agg (stW (.slice aN l.length cN) (.slice (some ⟨g1, 0, none⟩) (K + 1 + 1 : Nat) cap1) (.slice (some ⟨g2, 0, none⟩) (K + 1 + 1 : Nat) cap2) ((gr : Int) + 1))) (results_cell_row rfl _ _ (w.heap.size + 2) 48 (stW (.slice aN l.length cN) (.slice (some ⟨g1, 0, none⟩) (K + 1 + 1 : Nat) cap1) (.slice (some ⟨g2, 0, none⟩) (K + 1 + 1 : Nat) cap2) ((gr : Int) + 1)) (0, 0) _ rfl (Blk.setRow HX.out.res) Tryz.underlying48 rfl infoSt7) rfl ⟨_, _, _, rfl, hE.1, hE.2⟩
set_option maxRecDepth 100000 in
set_option maxHeartbeats 16000000 in
theorem rtake3 {base N K : Nat} {A : Nat → Prop} {l : List NdN} {ps rs : List Nat} {n r gr : Nat} {vN vP vR : Value} (p f : Int) (t : BitVec 256) (n' m' : Int) (w : World) {n2 r2 K2 : Nat} (h : SV base N A l (ps ++ [n2] ++ [n]) (rs ++ [r2] ++ [r]) vN vP vR w) (hp : (ps ++ [n2]).length = K) (hq : (rs ++ [r2]).length = K) (hp2 : ps.length = K2) (hq2 : rs.length = K2) (hK : K = K2 + 1) (hl : l.length ≤ 3999990) (hn : n ≤ 2000000) (hn2 : n2 ≤ 2000000) (hr' : r ≤ 2000000) (hp' : K ≤ 2000000) :
    Calls Tryz.prog 22 #[.agg (stW vN vP vR gr), .agg (woI 3 p f t n' m')] w fun e w' => ∃ vN' vP' vR', e = .returned (.agg (stW vN' vP' vR' gr)) ∧ SV base N A (l ++ rowT n ++ rowsT (r + 1) ++ [ndG]) (ps ++ [n2 + 1]) (rs ++ [r2]) vN' vP' vR' w' ∧ KpA A w w' := by
  obtain ⟨i0, hi0, hz0, hz1, hz2⟩ := info_parts info8n
  have HRW := Lib.hid (fun vN vP vR W (h : SV base (w.heap.size + 3) (fun k => A k ∧ k ≠ w.heap.size ∧ k ≠ w.heap.size + 1 ∧ k ≠ w.heap.size + 2) l (ps ++ [n2] ++ [n]) (rs ++ [r2] ++ [r]) vN vP vR W) => rrows_calls (gr := gr) W h hp hq hl hn hr' hp')
  have HP2 := Lib.hid (And.intro hp2 hq2)
  have HK := Lib.hid hK
  have hl2' : (l ++ rowT n ++ rowsT (r + 1)).length ≤ 4000000 := by
    rw [List.length_append, List.length_append]
    have h1 : (rowT n).length ≤ 1 := by
      unfold rowT
      by_cases h0 : n = 0
      · rw [if_pos h0]; exact Nat.le_refl _
      · rw [if_neg h0]
        by_cases h1 : n = 1
        · rw [if_pos h1]; exact Nat.zero_le _
        · rw [if_neg h1]; exact Nat.le_refl _
    have h2 : (rowsT (r + 1)).length ≤ 1 := by
      unfold rowsT
      by_cases h0 : 1 < r + 1
      · rw [if_pos h0]; exact Nat.le_refl _
      · rw [if_neg h0]; exact Nat.zero_le _
    omega
  have x58 : IntKind.i64.wrap ((K : Int) - 1) = K2 := by rw [IntWalk.i64_in _ (by omega)]; omega
  have kb2 : K2 ≤ 2000000 := by omega
  clear hp2 hq2 hK
  obtain ⟨aN, cN, rfl⟩ := h.formN
  obtain ⟨gP, cP, rfl, _⟩ := h.topPK hp
  obtain ⟨gR, cR, rfl, _⟩ := h.topRK hq
  have hx := bx_new3 (gr : Int) (woI 3 p f t n' m') h
  have hW : Blk (((w.alloc (.cells (stW (.slice aN l.length cN) (.slice (some ⟨gP, 0, none⟩) (K + 1 : Nat) cP) (.slice (some ⟨gR, 0, none⟩) (K + 1 : Nat) cR) gr) 48)).alloc (.cells (woI 3 p f t n' m') 57)).alloc (.cells stO 48)) (w.heap.size + 1) (woI 3 p f t n' m') 57 := by
    have := (Blk.new (w.alloc (.cells (stW (.slice aN l.length cN) (.slice (some ⟨gP, 0, none⟩) (K + 1 : Nat) cP) (.slice (some ⟨gR, 0, none⟩) (K + 1 : Nat) cR) gr) 48)) (woI 3 p f t n' m') 57).alloc (.cells stO 48)
    rwa [World.size_alloc] at this
  have HU := Lib.hid (And.intro h.sz (And.intro h.up h.bs))
  have HPQ := Lib.hid (And.intro hp hq)
  clear h hp hq
  go_enter Tryz.func22, Tryz.ntmps22
  go_upto_region 1 with fail
  have e0 : ((w.alloc (.cells #[.slice aN l.length cN, .slice (some ⟨gP, 0, none⟩) (K + 1 : Nat) cP, .slice (some ⟨gR, 0, none⟩) (K + 1 : Nat) cR, .int .i64 gr] 48)).alloc (.cells (woI 3 p f t n' m') 57)).alloc (.cells #[.slice none 0 0, .slice none 0 0, .slice none 0 0, .int .i64 0] 48) = ((w.alloc (.cells (stW (.slice aN l.length cN) (.slice (some ⟨gP, 0, none⟩) (K + 1 : Nat) cP) (.slice (some ⟨gR, 0, none⟩) (K + 1 : Nat) cR) gr) 48)).alloc (.cells (woI 3 p f t n' m') 57)).alloc (.cells stO 48) := rfl
  try rw [e0]
  clear e0
  generalize ((w.alloc (.cells (stW (.slice aN l.length cN) (.slice (some ⟨gP, 0, none⟩) (K + 1 : Nat) cP) (.slice (some ⟨gR, 0, none⟩) (K + 1 : Nat) cR) gr) 48)).alloc (.cells (woI 3 p f t n' m') 57)).alloc (.cells stO 48) = w1 at *
  have d0 := hW.cell 0; have d3 := hW.cell 3; have d4 := hW.cell 4; have d5 := hW.cell 5; have d6 := hW.cell 6; have d7 := hW.cell 7; have d8 := hW.cell 8
  simp only [List.getElem?_toArray, List.getElem?_cons_zero, List.getElem?_cons_succ] at d0 d3 d4 d5 d6 d7 d8
  clear hW
  obtain ⟨c0, c1, c2, c3⟩ := hx.c
  obtain ⟨f0, f1, f2, f3⟩ := hx.f
  obtain ⟨_, _, e, lP, kP, tP, yP⟩ := hx.sv.topPK HPQ.out.1
  cases e
  obtain ⟨_, _, e, lR, kR, tR, yR⟩ := hx.sv.topRK HPQ.out.2
  cases e
  have HX := Lib.hid hx
  clear hx
  have q0 : (0 : Int) ≤ (K : Int) := by omega
  have q1 : (K : Int) < ((K + 1 : Nat) : Int) := by omega
  go_wp2_with fail
  refine (HRW.out _ _ _ _ HX.out.sv).mono ?_
  rintro e w2 ⟨vN', vP', vR', rfl, hs, hk⟩
  clear d0 d3 d4 d5 d6 d7 d8
  generalize hll : l ++ rowT n ++ rowsT (r + 1) = l2 at *
  have HLL := Lib.hid hll
  clear hll
  obtain ⟨aM, cM, rfl⟩ := hs.formN
  obtain ⟨gP2, cP2, rfl, _⟩ := hs.topPK HP2.out.1
  obtain ⟨gR2, cR2, rfl, _⟩ := hs.topRK HP2.out.2
  have hb2 := HX.out.blk.kpA hk HX.out.nB
  have h2 := HX.out.call (g2 := (gr : Int)) hs hk
  clear HRW HX hs hk c0 c1 c2 c3 f0 f1 f2 f3 lP kP tP yP lR kR tR yR
  clear q0 q1
  go_upto_region 12 with ((with_reducible refine wpList_store_st (o := ⟨none, .store 48 _ _, _, _, _, _⟩) rfl 48 _ _ rfl w.heap.size rfl rfl (run_storeAt_row _ w.heap.size 48 48 (stW (.slice aN l.length cN) (.slice (some ⟨gP, 0, none⟩) (K + 1 : Nat) cP) (.slice (some ⟨gR, 0, none⟩) (K + 1 : Nat) cR) (gr : Int)) (stW (.slice aM l2.length cM) (.slice (some ⟨gP2, 0, none⟩) (K2 + 1 : Nat) cP2) (.slice (some ⟨gR2, 0, none⟩) (K2 + 1 : Nat) cR2) (gr : Int)) ?_ ?_ ?_ ?_) ?_); exact hb2; exact infoSt7; rfl; exact st_one7 _ _ _ _ _ _ _ _ _ _)
  clear hb2
  generalize w2.setRow w.heap.size (stW (.slice aM l2.length cM) (.slice (some ⟨gP2, 0, none⟩) (K2 + 1 : Nat) cP2) (.slice (some ⟨gR2, 0, none⟩) (K2 + 1 : Nat) cR2) (gr : Int)) = w3 at *
  obtain ⟨c0, c1, c2, c3⟩ := h2.c
  obtain ⟨f0, f1, f2, f3⟩ := h2.f
  obtain ⟨_, _, e, lP, kP, tP, yP⟩ := h2.sv.topPK HP2.out.1
  cases e
  obtain ⟨_, _, e, lR, kR, tR, yR⟩ := h2.sv.topRK HP2.out.2
  cases e
  have HX := Lib.hid h2
  clear h2
  go_upto_region 13 with (at_builtin; go_loud (refine wpList_append_lies _ rfl _ _ 23 rfl base 36 i0 (.agg #[.int .i64 0, .int .i64 0, .int .i64 0, .int .i64 0, .int .u64 0, .int .u64 0, .int .u64 0, .int .u64 0]) 8 64 Tryz.underlying23 hi0 hz0 hz1 hz2 rfl (by decide) (.slice aM l2.length cM) l2.length (ndCells l2) rfl (HX.out.alloc _).sv.nodes ⟨w3.heap.size, 0, none⟩ 1 1 [.int .i64 3, .int .i64 1, .int .i64 0, .int .i64 0, .int .u64 0, .int .u64 0, .int .u64 0, .int .u64 0] rfl rfl (World.news_of_block (cs := [.int .i64 3, .int .i64 1, .int .i64 0, .int .i64 0, .int .u64 0, .int .u64 0, .int .u64 0, .int .u64 0].toArray) (t := 36) (fr := (0, 0)) (heap_alloc_new w3 _)) (by simp [Value.oneCell']) (by omega) (by simp only [maxLen]; omega) (by omega) (by have := HX.out.sv.sz; have := HX.out.sv.bs; simp; omega) (w3.heap.size + 1) (by simp) ?_); intro g' cap' w2 hown hgrow hat hlt; have hb2 := (HX.out.alloc _).blk.kept hgrow (fun e => (HX.out.nB (HX.out.sv.aN _ e.symm))); have j0 := hb2.cell 0; have y0 := hb2.frozen 0; simp only [List.getElem?_toArray, List.getElem?_cons_zero] at j0)
  have h2 := (HX.out.alloc _).pushN (nd := ⟨3, 1, 0, 0, 0⟩) (by first | exact hown | (rw [nd_zero7]; exact hown)) hgrow (hat.imp id fun e => by rw [e]; simp)
  clear HX hown hgrow hat hlt hb2 j0 y0
  clear c0 c1 c2 c3 f0 f1 f2 f3 lP kP tP yP lR kR tR yR
  generalize w2.setCell ⟨w.heap.size, 0, none⟩ (.slice (some ⟨g', 0, none⟩) (l2.length + 1 : Nat) cap') = w4 at *
  obtain ⟨c0, c1, c2, c3⟩ := h2.c
  obtain ⟨f0, f1, f2, f3⟩ := h2.f
  obtain ⟨_, _, e, lP, kP, tP, yP⟩ := h2.sv.topPK HP2.out.1
  cases e
  obtain ⟨_, _, e, lR, kR, tR, yR⟩ := h2.sv.topRK HP2.out.2
  cases e
  have HX := Lib.hid h2
  clear h2
  have q0 : (0 : Int) ≤ (K2 : Int) := by omega
  have q1 : (K2 : Int) < ((K2 + 1 : Nat) : Int) := by omega
  go_upto_region 18 with fail
  have h3 := HX.out.setPK HP2.out.1 (n2 + 1) (v := (n2 : Int) + 1) rfl
  clear HX
  clear c0 c1 c2 c3 f0 f1 f2 f3 lP kP tP yP lR kR tR yR
  generalize w4.setCell ⟨gP2, K2, none⟩ (.int .i64 ((n2 : Int) + 1)) = w5 at *
  obtain ⟨c0, c1, c2, c3⟩ := h3.c
  obtain ⟨f0, f1, f2, f3⟩ := h3.f
  obtain ⟨_, _, e, lP, kP, tP, yP⟩ := h3.sv.topPK HP2.out.1
  cases e
  obtain ⟨_, _, e, lR, kR, tR, yR⟩ := h3.sv.topRK HP2.out.2
  cases e
  have HX := Lib.hid h3
  clear h3
  go_wp2_with ((with_reducible refine wpList_store_st (o := ⟨none, .store 48 _ _, _, _, _, _⟩) rfl 48 _ _ rfl (w.heap.size + 2) rfl rfl (run_storeAt_row _ (w.heap.size + 2) 48 48 stO (stW (.slice (some ⟨g', 0, none⟩) (l2.length + 1 : Nat) cap') (.slice (some ⟨gP2, 0, none⟩) (K2 + 1 : Nat) cP2) (.slice (some ⟨gR2, 0, none⟩) (K2 + 1 : Nat) cR2) (gr : Int)) ?_ ?_ ?_ ?_) ?_); exact HX.out.res; exact infoSt7; rfl; exact st_one7 _ _ _ _ _ _ _ _ _ _)
  have hE := bx_end3 HU.out.1 HU.out.2.1 HU.out.2.2 HX.out (stW (.slice (some ⟨g', 0, none⟩) (l2.length + 1 : Nat) cap') (.slice (some ⟨gP2, 0, none⟩) (K2 + 1 : Nat) cP2) (.slice (some ⟨gR2, 0, none⟩) (K2 + 1 : Nat) cR2) (gr : Int))
  exact bodyPost_ret (v := .agg (stW (.slice (some ⟨g', 0, none⟩) (l2.length + 1 : Nat) cap') (.slice (some ⟨gP2, 0, none⟩) (K2 + 1 : Nat) cP2) (.slice (some ⟨gR2, 0, none⟩) (K2 + 1 : Nat) cR2) (gr : Int))) (results_cell_row rfl _ _ (w.heap.size + 2) 48 (stW (.slice (some ⟨g', 0, none⟩) (l2.length + 1 : Nat) cap') (.slice (some ⟨gP2, 0, none⟩) (K2 + 1 : Nat) cP2) (.slice (some ⟨gR2, 0, none⟩) (K2 + 1 : Nat) cR2) (gr : Int)) (0, 0) _ rfl (Blk.setRow HX.out.res) Tryz.underlying48 rfl infoSt7) rfl ⟨_, _, _, rfl, by rw [HLL.out]; exact hE.1, hE.2⟩
end Go.Proofs.YthodphgbdmnpoaaGreat

/- The developers' reading of a pattern: what of it lies in memory. Stage 7. -/
namespace Go.Proofs.YthodphgbdmnpoaaGreat
open Go.RowKit BS

@[reducible] def preA (s : ByteArray) (a : Int) (vN vL : Value) (g : Int) : Array Value := #[.string s, .int .i64 a, vN, vL, .int .i64 g]
def lvCells (st : List (Nat × Nat)) : List Value := st.flatMap fun x => [.int .i64 x.2, .int .i64 x.1]
theorem lvCells_app (l m : List (Nat × Nat)) : lvCells (l ++ m) = lvCells l ++ lvCells m := by simp [lvCells]
theorem lvCells_len (l : List (Nat × Nat)) : (lvCells l).length = l.length * 2 := by
  induction l with
  | nil => rfl
  | cons x l ih =>
    have e : lvCells (x :: l) = [.int .i64 x.2, .int .i64 x.1] ++ lvCells l := by simp [lvCells]
    rw [e, List.length_append, ih, List.length_cons]
    simp; omega
theorem lvCells_last (l : List (Nat × Nat)) (x : Nat × Nat) : (lvCells (l ++ [x]))[l.length * 2]? = some (.int .i64 x.2) ∧ (lvCells (l ++ [x]))[l.length * 2 + 1]? = some (.int .i64 x.1) := by
  rw [lvCells_app]
  constructor
  · rw [List.getElem?_append_right (by rw [lvCells_len]; omega), lvCells_len, Nat.sub_self]; rfl
  · rw [List.getElem?_append_right (by rw [lvCells_len]; omega), lvCells_len, show l.length * 2 + 1 - l.length * 2 = 1 by omega]; rfl
theorem lvCells_set0 (l : List (Nat × Nat)) (n r r' : Nat) : (lvCells (l ++ [(n, r)])).set (l.length * 2) (.int .i64 r') = lvCells (l ++ [(n, r')]) := by
  rw [lvCells_app, lvCells_app, List.set_append_right _ _ (by rw [lvCells_len]; omega), lvCells_len, Nat.sub_self]
  rfl
theorem lvCells_set1 (l : List (Nat × Nat)) (n n' r : Nat) : (lvCells (l ++ [(n, r)])).set (l.length * 2 + 1) (.int .i64 n') = lvCells (l ++ [(n', r)]) := by
  rw [lvCells_app, lvCells_app, List.set_append_right _ _ (by rw [lvCells_len]; omega), lvCells_len, show l.length * 2 + 1 - l.length * 2 = 1 by omega]
  rfl
theorem lvCells_take (l : List (Nat × Nat)) (x : Nat × Nat) : (lvCells (l ++ [x])).take (l.length * 2) = lvCells l := by
  rw [lvCells_app, ← lvCells_len l, List.take_left]

/-- What was read so far lies at R: the nodes and the levels in rows of the call's own. -/
structure RdV (base R : Nat) (s : ByteArray) (a : Nat) (x : PS) (vN vL : Value) (w0 w : World) : Prop where
  blk : Blk w R (preA s a vN vL x.groups) 45
  nodes : w.ownsRow base 36 8 vN x.l.length (ndCells x.l)
  levels : w.ownsRow base 52 2 vL x.st.length (lvCells x.st.reverse)
  nR : vN.ownBlock ≠ some R
  lR : vL.ownBlock ≠ some R
  nl : vN.ownBlock = none ∨ vN.ownBlock ≠ vL.ownBlock
  bR : base ≤ R
  bel : Below base w0 w
theorem owns_lt {w : World} {base : Nat} {e : TypeId} {size : Nat} {v : Value} {n : Nat} {xs : List Value} (h : w.ownsRow base e size v n xs) {g : Nat} (hg : v.ownBlock = some g) : g < w.heap.size := (h.lt g hg).2
theorem owns_below {W W' : World} {base : Nat} {e : TypeId} {size : Nat} {v : Value} {n : Nat} {xs : List Value} (h : W.ownsRow base e size v n xs) (hb : Below W.heap.size W W') : W'.ownsRow base e size v n xs :=
  owns_keep h fun _ hg => hb.block _ (owns_lt h hg)
section
variable {base R : Nat} {s : ByteArray} {a : Nat} {x : PS} {vN vL : Value} {w0 w : World}
theorem RdV.below (h : RdV base R s a x vN vL w0 w) {w' : World} (hb : Below w.heap.size w w') : RdV base R s a x vN vL w0 w' :=
  ⟨h.blk.below hb h.blk.lt, owns_below h.nodes hb, owns_below h.levels hb, h.nR, h.lR, h.nl, h.bR, h.bel.trans (hb.mono (Nat.le_trans h.bR (Nat.le_of_lt h.blk.lt)))⟩
theorem RdV.size (h : RdV base R s a x vN vL w0 w) : base ≤ w.heap.size := Nat.le_trans h.bR (Nat.le_of_lt h.blk.lt)
theorem RdV.alloc (h : RdV base R s a x vN vL w0 w) (o : Obj) : RdV base R s a x vN vL w0 (w.alloc o) := h.below ((Below.refl _ _).alloc (Nat.le_refl _) o)
theorem RdV.drew (h : RdV base R s a x vN vL w0 w) : RdV base R s a x vN vL w0 w.drew := ⟨h.blk, h.nodes, h.levels, h.nR, h.lR, h.nl, h.bR, h.bel.drew⟩
theorem RdV.c (h : RdV base R s a x vN vL w0 w) : w.cell? ⟨R, 0, none⟩ = some (.string s) ∧ w.cell? ⟨R, 1, none⟩ = some (.int .i64 a) ∧ w.cell? ⟨R, 2, none⟩ = some vN ∧ w.cell? ⟨R, 3, none⟩ = some vL ∧ w.cell? ⟨R, 4, none⟩ = some (.int .i64 x.groups) :=
  ⟨h.blk.cell 0, h.blk.cell 1, h.blk.cell 2, h.blk.cell 3, h.blk.cell 4⟩
/-- The levels: where they lie, and what the innermost one is. -/
theorem RdV.top {n r : Nat} {st : List (Nat × Nat)} (h : RdV base R s a x vN vL w0 w) (hx : x.st = (n, r) :: st) : ∃ g cap, vL = .slice (some ⟨g, 0, none⟩) ((st.length + 1 : Nat) : Nat) cap ∧ base ≤ g ∧ g < w.heap.size ∧ g ≠ R ∧ st.length + 1 ≤ cap ∧
    w.cell? ⟨g, st.length * 2, none⟩ = some (.int .i64 r) ∧ w.cell? ⟨g, st.length * 2 + 1, none⟩ = some (.int .i64 n) ∧ w.frozen? ⟨g, st.length * 2, none⟩ = false ∧ w.frozen? ⟨g, st.length * 2 + 1, none⟩ = false ∧ w.frozen? ⟨R, 1, none⟩ = false := by
  have hl := h.levels
  rw [hx, List.length_cons, List.reverse_cons] at hl
  obtain ⟨g, cap, rfl, hb, hlt⟩ := hl.form (by omega)
  have hcap : st.length + 1 ≤ cap := by
    rcases hl.2 with ⟨hv, _⟩ | ⟨g', cap', cur, hv, _, _, hc, _⟩
    · cases hv
    · cases hv; exact hc
  refine ⟨g, cap, rfl, hb, hlt, fun e => h.lR (by rw [← e]; rfl), hcap, ?_, ?_, hl.frozenAt _, hl.frozenAt _, h.blk.frozen 1⟩
  · rw [hl.cellAt _ (by omega)]
    have := (lvCells_last st.reverse (n, r)).1
    rwa [List.length_reverse] at this
  · rw [hl.cellAt _ (by omega)]
    have := (lvCells_last st.reverse (n, r)).2
    rwa [List.length_reverse] at this
/-- The innermost level, written anew. -/
theorem RdV.put {n r : Nat} {st : List (Nat × Nat)} {g cap : Nat} (h : RdV base R s a x vN (.slice (some ⟨g, 0, none⟩) (st.length + 1 : Nat) cap) w0 w) (hx : x.st = (n, r) :: st) (n' : Nat) :
    RdV base R s a ⟨x.l, (n', r) :: st, x.groups⟩ vN (.slice (some ⟨g, 0, none⟩) (st.length + 1 : Nat) cap) w0 (w.setCell ⟨g, st.length * 2 + 1, none⟩ (.int .i64 n')) := by
  have hl := h.levels
  rw [hx, List.length_cons, List.reverse_cons] at hl
  have hbg := (hl.lt g rfl)
  have hgR : R ≠ g := fun e => h.lR (by rw [e]; rfl)
  refine ⟨h.blk.other hgR _ _, ?_, ?_, h.nR, h.lR, h.nl, h.bR, below_set h.bel hbg.1 _ _⟩
  · refine owns_keep h.nodes fun k hk => Below.heap_setCell _ _ _ _ ?_
    show k ≠ g
    rintro rfl
    rcases h.nl with h1 | h1
    · rw [h1] at hk; cases hk
    · exact h1 hk
  · have := hl.stored (st.length * 2 + 1) (.int .i64 n')
    show World.ownsRow _ base _ 2 _ (st.length + 1) (lvCells (((n', r) :: st).reverse))
    rw [List.reverse_cons, ← lvCells_set1 st.reverse n n' r, List.length_reverse]
    exact this.1
theorem RdV.put0 {n r : Nat} {st : List (Nat × Nat)} {g cap : Nat} (h : RdV base R s a x vN (.slice (some ⟨g, 0, none⟩) (st.length + 1 : Nat) cap) w0 w) (hx : x.st = (n, r) :: st) (r' : Nat) :
    RdV base R s a ⟨x.l, (n, r') :: st, x.groups⟩ vN (.slice (some ⟨g, 0, none⟩) (st.length + 1 : Nat) cap) w0 (w.setCell ⟨g, st.length * 2, none⟩ (.int .i64 r')) := by
  have hl := h.levels
  rw [hx, List.length_cons, List.reverse_cons] at hl
  have hbg := (hl.lt g rfl)
  have hgR : R ≠ g := fun e => h.lR (by rw [e]; rfl)
  refine ⟨h.blk.other hgR _ _, ?_, ?_, h.nR, h.lR, h.nl, h.bR, below_set h.bel hbg.1 _ _⟩
  · refine owns_keep h.nodes fun k hk => Below.heap_setCell _ _ _ _ ?_
    show k ≠ g
    rintro rfl
    rcases h.nl with h1 | h1
    · rw [h1] at hk; cases hk
    · exact h1 hk
  · have := hl.stored (st.length * 2) (.int .i64 r')
    show World.ownsRow _ base _ 2 _ (st.length + 1) (lvCells (((n, r') :: st).reverse))
    rw [List.reverse_cons, ← lvCells_set0 st.reverse n r r', List.length_reverse]
    exact this.1
/-- A cell of the struct itself, written anew. -/
theorem RdV.setAt (h : RdV base R s a x vN vL w0 w) (a' : Nat) : RdV base R s a' x vN vL w0 (w.setCell ⟨R, 1, none⟩ (.int .i64 a')) :=
  ⟨by have := h.blk.set 1 (.int .i64 a'); simpa using this, owns_keep h.nodes fun k hk => Below.heap_setCell _ _ _ _ (fun e => h.nR (by rw [hk, e])), owns_keep h.levels fun k hk => Below.heap_setCell _ _ _ _ (fun e => h.lR (by rw [hk, e])), h.nR, h.lR, h.nl, h.bR, below_set h.bel h.bR _ _⟩
theorem RdV.setGroups (h : RdV base R s a x vN vL w0 w) (g : Nat) : RdV base R s a ⟨x.l, x.st, g⟩ vN vL w0 (w.setCell ⟨R, 4, none⟩ (.int .i64 g)) :=
  ⟨by have := h.blk.set 4 (.int .i64 g); simpa using this, owns_keep h.nodes fun k hk => Below.heap_setCell _ _ _ _ (fun e => h.nR (by rw [hk, e])), owns_keep h.levels fun k hk => Below.heap_setCell _ _ _ _ (fun e => h.lR (by rw [hk, e])), h.nR, h.lR, h.nl, h.bR, below_set h.bel h.bR _ _⟩
/-- Nodes more: behind an append. -/
theorem RdV.pushN (h : RdV base R s a x vN vL w0 w) {w1 : World} {nd : NdN} {g cap : Nat} (hown : w1.ownsRow base 36 8 (.slice (some ⟨g, 0, none⟩) (x.l.length + 1 : Nat) cap) (x.l.length + 1) (ndCells x.l ++ (ndA nd).toList)) (hg : w.grownBy w1 vN.ownBlock) (hat : vN.ownBlock = some g ∨ w.heap.size ≤ g) :
    RdV base R s a ⟨x.l ++ [nd], x.st, x.groups⟩ (.slice (some ⟨g, 0, none⟩) (x.l.length + 1 : Nat) cap) vL w0 (w1.setCell ⟨R, 2, none⟩ (.slice (some ⟨g, 0, none⟩) (x.l.length + 1 : Nat) cap)) := by
  have hRg : g ≠ R := by
    rintro rfl
    rcases hat with h1 | h1
    · exact h.nR h1
    · have := h.blk.lt; omega
  have hb : Below base w0 w1 := h.bel.grown hg h.size fun k hk => (h.nodes.lt k hk).1
  refine ⟨?_, ?_, ?_, ?_, h.lR, ?_, h.bR, below_set hb h.bR _ _⟩
  · have := (h.blk.kept hg (fun e => h.nR e.symm)).set 2 (.slice (some ⟨g, 0, none⟩) (x.l.length + 1 : Nat) cap)
    simpa using this
  · show World.ownsRow _ base _ 8 _ (x.l ++ [nd]).length (ndCells (x.l ++ [nd]))
    rw [List.length_append, ndCells_app, show ndCells [nd] = (ndA nd).toList by simp [ndCells]]
    exact owns_keep hown fun k hk => Below.heap_setCell _ _ _ _ (fun e => hRg (by cases hk; exact e))
  · refine owns_keep (h.levels.kept hg ?_) fun k hk => Below.heap_setCell _ _ _ _ (fun e => h.lR (by rw [hk, e]))
    rcases h.nl with h1 | h1
    · rw [h1]
      cases hv : vL.ownBlock with
      | none => exact .inl rfl
      | some k => exact .inr (by simp)
    · exact .inr (Ne.symm h1)
  · intro e; cases e; exact hRg rfl
  · right
    intro e
    have e' : vL.ownBlock = some g := e.symm
    rcases hat with h1 | h1
    · rcases h.nl with h2 | h2
      · rw [h2] at h1; cases h1
      · exact h2 (h1.trans e'.symm)
    · have := owns_lt h.levels e'; omega
/-- A level more: behind an append. -/
theorem RdV.pushL (h : RdV base R s a x vN vL w0 w) {w1 : World} {g cap : Nat} (hown : w1.ownsRow base 52 2 (.slice (some ⟨g, 0, none⟩) (x.st.length + 1 : Nat) cap) (x.st.length + 1) (lvCells x.st.reverse ++ [.int .i64 0, .int .i64 0])) (hg : w.grownBy w1 vL.ownBlock) (hat : vL.ownBlock = some g ∨ w.heap.size ≤ g) :
    RdV base R s a ⟨x.l, (0, 0) :: x.st, x.groups⟩ vN (.slice (some ⟨g, 0, none⟩) (x.st.length + 1 : Nat) cap) w0 (w1.setCell ⟨R, 3, none⟩ (.slice (some ⟨g, 0, none⟩) (x.st.length + 1 : Nat) cap)) := by
  have hRg : g ≠ R := by
    rintro rfl
    rcases hat with h1 | h1
    · exact h.lR h1
    · have := h.blk.lt; omega
  have hb : Below base w0 w1 := h.bel.grown hg h.size fun k hk => (h.levels.lt k hk).1
  refine ⟨?_, ?_, ?_, h.nR, ?_, ?_, h.bR, below_set hb h.bR _ _⟩
  · have := (h.blk.kept hg (fun e => h.lR e.symm)).set 3 (.slice (some ⟨g, 0, none⟩) (x.st.length + 1 : Nat) cap)
    simpa using this
  · refine owns_keep (h.nodes.kept hg ?_) fun k hk => Below.heap_setCell _ _ _ _ (fun e => h.nR (by rw [hk, e]))
    rcases h.nl with h1 | h1
    · exact .inl h1
    · exact .inr h1
  · show World.ownsRow _ base _ 2 _ ((0, 0) :: x.st).length (lvCells ((0, 0) :: x.st).reverse)
    rw [List.length_cons, List.reverse_cons, lvCells_app]
    exact owns_keep hown fun k hk => Below.heap_setCell _ _ _ _ (fun e => hRg (by cases hk; exact e))
  · intro e; cases e; exact hRg rfl
  · rcases h.nl with h1 | h1
    · exact .inl h1
    · right
      intro e
      have e' : vN.ownBlock = some g := e
      rcases hat with h2 | h2
      · exact h1 (e'.trans h2.symm)
      · have := owns_lt h.nodes e'; omega
/-- A level less: by slicing. -/
theorem RdV.popL {p : Nat × Nat} {st : List (Nat × Nat)} {g cap : Nat} (h : RdV base R s a x vN (.slice (some ⟨g, 0, none⟩) (st.length + 1 : Nat) cap) w0 w) (hx : x.st = p :: st) :
    RdV base R s a ⟨x.l, st, x.groups⟩ vN (.slice (some ⟨g, 0, none⟩) (st.length : Nat) cap) w0 (w.setCell ⟨R, 3, none⟩ (.slice (some ⟨g, 0, none⟩) (st.length : Nat) cap)) := by
  have hl := h.levels
  rw [hx, List.length_cons, List.reverse_cons] at hl
  refine ⟨by have := h.blk.set 3 (.slice (some ⟨g, 0, none⟩) (st.length : Nat) cap); simpa using this, owns_keep h.nodes fun k hk => Below.heap_setCell _ _ _ _ (fun e => h.nR (by rw [hk, e])), ?_, h.nR, h.lR, h.nl, h.bR, below_set h.bel h.bR _ _⟩
  refine owns_keep (W := w) ⟨by rw [lvCells_len, List.length_reverse], ?_⟩ fun k hk => Below.heap_setCell _ _ _ _ (fun e => h.lR (by cases hk; exact congrArg some e))
  rcases hl.2 with ⟨hv, _⟩ | ⟨g', cap', cur, hv, h1, h2, h3, h4, h5, h6⟩
  · cases hv
  · cases hv
    refine .inr ⟨g, cap, cur, rfl, h1, h2, (by show st.length ≤ cap; omega), h4, h5, ?_⟩
    have := congrArg (List.take (st.length * 2)) h6
    rw [List.take_take, show min (st.length * 2) ((st.length + 1) * 2) = st.length * 2 by omega] at this
    have e := lvCells_take st.reverse p
    rw [List.length_reverse] at e
    rw [e] at this
    exact this
end
end Go.Proofs.YthodphgbdmnpoaaGreat

/- The developers' reading: open, level, add, addPiece, endRow, endRows. Stage 7. -/
namespace Go.Proofs.YthodphgbdmnpoaaGreat
open Go.RowKit BS

set_option maxRecDepth 100000 in
set_option maxHeartbeats 1000000 in
theorem popen_calls (R k : Nat) (ad : Option Addr) (cap : Nat) (w : World) (h3 : w.cell? ⟨R, 3, none⟩ = some (.slice ad (k + 1 : Nat) cap)) (hk : k ≤ 2000000) :
    Calls Tryz.prog 11 #[.pointer (some ⟨R, 0, none⟩)] w fun e w' => e = .returned (.int .i64 k) ∧ w = w' := by
  go_enter Tryz.func11, Tryz.ntmps11
  go_wp2_with fail
  go_ret
  exact ⟨rfl, rfl⟩
set_option maxRecDepth 100000 in
set_option maxHeartbeats 1000000 in
theorem plevel_calls (R g k cap : Nat) (w : World) (h3 : w.cell? ⟨R, 3, none⟩ = some (.slice (some ⟨g, 0, none⟩) (k + 1 : Nat) cap)) (hk : k ≤ 2000000) :
    Calls Tryz.prog 15 #[.pointer (some ⟨R, 0, none⟩)] w fun e w' => e = .returned (.pointer (some ⟨g, k * 2, none⟩)) ∧ Below w.heap.size w w' := by
  have q0 : (0 : Int) ≤ (k : Int) := by omega
  have q1 : (k : Int) < ((k + 1 : Nat) : Int) := by omega
  go_enter Tryz.func15, Tryz.ntmps15
  go_wp2_with fail
  go_quiet (fail)
  go_wp2_with fail
  go_ret
  exact ⟨rfl, below_drN (Below.refl _ _) _⟩

set_option maxRecDepth 100000 in
set_option maxHeartbeats 8000000 in
theorem padd_calls {base R : Nat} {s : ByteArray} {a : Nat} {x : PS} {vN vL : Value} {w0 : World} (nd : NdN) (w : World) (h : RdV base R s a x vN vL w0 w) (hl : x.l.length ≤ 4000000) :
    Calls Tryz.prog 19 #[.pointer (some ⟨R, 0, none⟩), .agg (ndA nd)] w fun e w' => e = .returned (.tuple #[]) ∧ ∃ vN', RdV base R s a ⟨x.l ++ [nd], x.st, x.groups⟩ vN' vL w0 w' := by
  obtain ⟨i0, hi0, hz0, hz1, hz2⟩ := info_parts info8n
  obtain ⟨k, c, n, m, t⟩ := nd
  have hB := Blk.new w (ndI k c n m t) 36
  have hr := h.alloc (.cells (ndI k c n m t) 36)
  have hne : vN.ownBlock ≠ some w.heap.size := fun e => by have := owns_lt h.nodes e; omega
  have hRlt := h.blk.lt
  clear h
  show Calls Tryz.prog 19 #[.pointer (some ⟨R, 0, none⟩), .agg (ndI k c n m t)] w fun e w' => e = .returned (.tuple #[]) ∧ ∃ vN', RdV base R s a ⟨x.l ++ [⟨k, c, n, m, t⟩], x.st, x.groups⟩ vN' vL w0 w'
  go_enter Tryz.func19, Tryz.ntmps19
  go_upto_region 1 with fail
  generalize w.alloc (.cells (ndI k c n m t) 36) = w1 at *
  generalize w.heap.size = B1 at *
  have cR := hr.c.2.2.1
  have c0 := hB.cell 0; have c1 := hB.cell 1; have c2 := hB.cell 2; have c3 := hB.cell 3; have c4 := hB.cell 4; have c5 := hB.cell 5; have c6 := hB.cell 6; have c7 := hB.cell 7
  simp only [List.getElem?_toArray, List.getElem?_cons_zero, List.getElem?_cons_succ] at c0 c1 c2 c3 c4 c5 c6 c7
  have hBlt := hB.lt
  have hRlt1 := hr.blk.lt
  have nR := hr.nR
  have hsz := hr.size
  have HR := Lib.hid hr
  have ffR := hr.blk.frozen 2
  clear hr hB
  go_region_law
    ((refine step_append_lies _ (by rfl) _ _ _ (by rfl) base 36 i0 _ 8 64 Tryz.underlying23 hi0 hz0 hz1 hz2 rfl (by omega) vN x.l.length (ndCells x.l) (by rfl) ((HR.out.alloc _).drew).nodes
        ⟨w1.heap.size, 0, none⟩ 1 1 (ndI k c n m t).toList (by rfl) (by rfl) (World.news_of_block (cs := ndI k c n m t) (t := 36) (fr := (0, 0)) (heap_alloc_new w1 _)) (by simp [Value.oneCell'])
        (by omega) (by simp only [maxLen]; omega) (by omega) (by simp; omega) (w1.heap.size + 1) (by simp) ?_; intro g cap w2 hown hgrow hat hlt; have ff2 : w2.frozen? ⟨R, 2, none⟩ = false := (((HR.out.alloc _).drew).blk.kept hgrow (Ne.symm nR)).frozen 2; have cc2 : w2.cell? ⟨R, 2, none⟩ = some vN := (((HR.out.alloc _).drew).blk.kept hgrow (Ne.symm nR)).cell 2))
  all_goals
    go_wp2_with fail
    go_end0
    exact ⟨rfl, _, ((HR.out.alloc _).drew).pushN hown hgrow (hat.imp id fun e => by rw [e]; simp)⟩
set_option maxRecDepth 100000 in
set_option maxHeartbeats 4000000 in
theorem paddPiece_calls {base R : Nat} {s : ByteArray} {a n r : Nat} {l : List NdN} {st : List (Nat × Nat)} {gr : Nat} {vN vL : Value} {w0 : World} (nd : NdN) (w : World) (h : RdV base R s a ⟨l, (n, r) :: st, gr⟩ vN vL w0 w) (hl : l.length ≤ 4000000) (hst : st.length ≤ 2000000) (hn : n ≤ 2000000) :
    Calls Tryz.prog 26 #[.pointer (some ⟨R, 0, none⟩), .agg (ndA nd)] w fun e w' => e = .returned (.tuple #[]) ∧ ∃ vN', RdV base R s a ⟨l ++ [nd], (n + 1, r) :: st, gr⟩ vN' vL w0 w' := by
  have HA := Lib.hid (fun W vN x (h : RdV base R s a x vN vL w0 W) => padd_calls nd W h)
  obtain ⟨k, c, n', m, t⟩ := nd
  have hB := Blk.new w (ndI k c n' m t) 36
  have hr := h.alloc (.cells (ndI k c n' m t) 36)
  clear h
  show Calls Tryz.prog 26 #[.pointer (some ⟨R, 0, none⟩), .agg (ndI k c n' m t)] w fun e w' => e = .returned (.tuple #[]) ∧ ∃ vN', RdV base R s a ⟨l ++ [⟨k, c, n', m, t⟩], (n + 1, r) :: st, gr⟩ vN' vL w0 w'
  go_enter Tryz.func26, Tryz.ntmps26
  go_upto_region 1 with fail
  generalize w.alloc (.cells (ndI k c n' m t) 36) = w1 at *
  generalize w.heap.size = B1 at *
  have c0 := hB.cell 0; have c1 := hB.cell 1; have c2 := hB.cell 2; have c3 := hB.cell 3; have c4 := hB.cell 4; have c5 := hB.cell 5; have c6 := hB.cell 6; have c7 := hB.cell 7
  simp only [List.getElem?_toArray, List.getElem?_cons_zero, List.getElem?_cons_succ] at c0 c1 c2 c3 c4 c5 c6 c7
  have HR := Lib.hid hr
  clear hr hB
  go_wp2_with fail
  refine (HA.out _ _ _ HR.out hl).mono ?_
  rintro e w2 ⟨rfl, vN', hr⟩
  clear HA HR c0 c1 c2 c3 c4 c5 c6 c7
  obtain ⟨g, cap, rfl, hbg, hgl, hgR, hcap, t0, t1, f0, f1, _⟩ := hr.top rfl
  have HL := Lib.hid (plevel_calls R g st.length cap w2 hr.c.2.2.2.1 hst)
  have HR := Lib.hid hr
  clear t0 t1 f0 f1 hr hgl
  go_wp2_with fail
  refine HL.out.mono ?_
  rintro e w3 ⟨rfl, hb⟩
  clear HL
  have hr := HR.out.below hb
  obtain ⟨_, _, e, _, _, _, _, t0, t1, f0, f1, _⟩ := hr.top rfl
  cases e
  clear HR hb
  have HR := Lib.hid hr
  clear hr
  go_wp2_with fail
  go_end0
  exact ⟨rfl, _, HR.out.put rfl (n + 1)⟩
end Go.Proofs.YthodphgbdmnpoaaGreat

/- The developers' reading: endRow, endRows, openGroup, shutGroup. Stage 7. -/
namespace Go.Proofs.YthodphgbdmnpoaaGreat
open Go.RowKit BS

theorem nd_zero (k c n m : Int) : ndA ⟨k, c, n, m, 0⟩ = #[.int .i64 k, .int .i64 c, .int .i64 n, .int .i64 m, .int .u64 0, .int .u64 0, .int .u64 0, .int .u64 0] := by
  have z0 : wd (0 : BitVec 256) 0 = 0 := by decide
  have z1 : wd (0 : BitVec 256) 1 = 0 := by decide
  have z2 : wd (0 : BitVec 256) 2 = 0 := by decide
  have z3 : wd (0 : BitVec 256) 3 = 0 := by decide
  show ndI k c n m 0 = _
  unfold ndI
  rw [z0, z1, z2, z3]
  rfl
set_option maxRecDepth 100000 in
set_option maxHeartbeats 4000000 in
theorem pendRow_calls {base R : Nat} {s : ByteArray} {a n r : Nat} {l : List NdN} {st : List (Nat × Nat)} {gr : Nat} {vN vL : Value} {w0 : World} (w : World) (h : RdV base R s a ⟨l, (n, r) :: st, gr⟩ vN vL w0 w) (hl : l.length ≤ 4000000) (hst : st.length ≤ 2000000) (hn : n ≤ 2000000) (hr' : r ≤ 2000000) :
    Calls Tryz.prog 18 #[.pointer (some ⟨R, 0, none⟩)] w fun e w' => e = .returned (.tuple #[]) ∧ ∃ vN', RdV base R s a ⟨l ++ rowT n, (0, r + 1) :: st, gr⟩ vN' vL w0 w' := by
  have hA := fun (nd : NdN) W vN x (h : RdV base R s a x vN vL w0 W) => padd_calls nd W h
  obtain ⟨g, cap, rfl, hbg, hgl, hgR, hcap, t0, t1, f0, f1, _⟩ := h.top rfl
  have HL := Lib.hid (plevel_calls R g st.length cap w h.c.2.2.2.1 hst)
  have HR := Lib.hid h
  clear t0 t1 f0 f1 h hgl
  by_cases h0 : n = 0
  · subst h0
    have hA1 := hA nd1
    rw [show nd1 = ⟨1, 0, 0, 0, 0⟩ from rfl, nd_zero] at hA1
    have HA := Lib.hid hA1
    clear hA1 hA
    go_enter Tryz.func18, Tryz.ntmps18
    go_wp2_with fail
    refine HL.out.mono ?_
    rintro e w3 ⟨rfl, hb⟩
    clear HL
    have hr := HR.out.below hb
    obtain ⟨_, _, e, _, _, _, _, t0, t1, f0, f1, _⟩ := hr.top rfl
    cases e
    clear HR hb
    have HR := Lib.hid hr
    clear hr
    go_wp2_with fail
    refine (HA.out _ _ _ HR.out hl).mono ?_
    rintro e w4 ⟨rfl, vN', hr⟩
    clear HA HR t0 t1 f0 f1
    obtain ⟨_, _, e, _, _, _, _, t0, t1, f0, f1, _⟩ := hr.top rfl
    cases e
    have HR := Lib.hid hr
    clear hr
    go_wp2_with fail
    go_end0
    exact ⟨rfl, _, (HR.out.put0 rfl (r + 1)).put rfl 0⟩
  by_cases h1 : n = 1
  · subst h1
    clear hA
    go_enter Tryz.func18, Tryz.ntmps18
    go_wp2_with fail
    refine HL.out.mono ?_
    rintro e w3 ⟨rfl, hb⟩
    clear HL
    have hr := HR.out.below hb
    obtain ⟨_, _, e, _, _, _, _, t0, t1, f0, f1, _⟩ := hr.top rfl
    cases e
    clear HR hb
    have HR := Lib.hid hr
    clear hr
    go_wp2_with fail
    go_end0
    refine ⟨rfl, vN, ?_⟩
    rw [show l ++ rowT 1 = l from List.append_nil l]
    exact (HR.out.put0 rfl (r + 1)).put rfl 0
  · have hA1 := hA (nd5 n)
    rw [show nd5 n = ⟨5, n, 0, 0, 0⟩ from rfl, nd_zero] at hA1
    have HA := Lib.hid hA1
    clear hA1 hA
    have q0 : ((n : Int) == 0) = false := by rw [beq_eq_false_iff_ne]; omega
    have q1 : ((n : Int) == 1) = false := by rw [beq_eq_false_iff_ne]; omega
    have hT : rowT n = [⟨5, n, 0, 0, 0⟩] := by unfold rowT; rw [if_neg h0, if_neg h1]; rfl
    have HT := Lib.hid hT
    clear hT
    go_enter Tryz.func18, Tryz.ntmps18
    go_wp2_with fail
    refine HL.out.mono ?_
    rintro e w3 ⟨rfl, hb⟩
    clear HL
    have hr := HR.out.below hb
    obtain ⟨_, _, e, _, _, _, _, t0, t1, f0, f1, _⟩ := hr.top rfl
    cases e
    clear HR hb
    have HR := Lib.hid hr
    clear hr
    go_wp2_with fail
    refine (HA.out _ _ _ HR.out hl).mono ?_
    rintro e w4 ⟨rfl, vN', hr⟩
    clear HA HR t0 t1 f0 f1
    obtain ⟨_, _, e, _, _, _, _, t0, t1, f0, f1, _⟩ := hr.top rfl
    cases e
    have HR := Lib.hid hr
    clear hr
    go_wp2_with fail
    go_end0
    rw [HT.out]
    exact ⟨rfl, _, (HR.out.put0 rfl (r + 1)).put rfl 0⟩
theorem rowT_len (n : Nat) : (rowT n).length ≤ 1 := by
  unfold rowT
  by_cases h0 : n = 0
  · rw [if_pos h0]; exact Nat.le_refl _
  · rw [if_neg h0]
    by_cases h1 : n = 1
    · rw [if_pos h1]; exact Nat.zero_le _
    · rw [if_neg h1]; exact Nat.le_refl _
theorem rowsT_len (n : Nat) : (rowsT n).length ≤ 1 := by
  unfold rowsT
  by_cases h0 : 1 < n
  · rw [if_pos h0]; exact Nat.le_refl _
  · rw [if_neg h0]; exact Nat.zero_le _
set_option maxRecDepth 100000 in
set_option maxHeartbeats 4000000 in
theorem pendRows_calls {base R : Nat} {s : ByteArray} {a n r : Nat} {l : List NdN} {st : List (Nat × Nat)} {gr : Nat} {vN vL : Value} {w0 : World} (w : World) (h : RdV base R s a ⟨l, (n, r) :: st, gr⟩ vN vL w0 w) (hl : l.length ≤ 3999999) (hst : st.length ≤ 2000000) (hn : n ≤ 2000000) (hr' : r ≤ 2000000) :
    Calls Tryz.prog 12 #[.pointer (some ⟨R, 0, none⟩)] w fun e w' => e = .returned (.tuple #[]) ∧ ∃ vN', RdV base R s a ⟨l ++ rowT n ++ rowsT (r + 1), (0, r + 1) :: st, gr⟩ vN' vL w0 w' := by
  have HE := Lib.hid (pendRow_calls w h (by omega) hst hn hr')
  have hl2 : (l ++ rowT n).length ≤ 4000000 := by
    rw [List.length_append]
    have := rowT_len n
    omega
  have hA := fun (nd : NdN) W vN x (h : RdV base R s a x vN vL w0 W) => padd_calls nd W h
  obtain ⟨g, cap, rfl, hbg, hgl, hgR, hcap, t0, t1, f0, f1, _⟩ := h.top rfl
  have HL := Lib.hid (fun W (h3 : W.cell? ⟨R, 3, none⟩ = some (.slice (some ⟨g, 0, none⟩) (st.length + 1 : Nat) cap)) => plevel_calls R g st.length cap W h3 hst)
  clear t0 t1 f0 f1 h hgl
  generalize l ++ rowT n = l2 at *
  by_cases h1 : 1 < r + 1
  · have hA1 := hA (nd6 (r + 1))
    rw [show nd6 (r + 1) = ⟨6, (r : Int) + 1, 0, 0, 0⟩ from rfl, nd_zero] at hA1
    have HA := Lib.hid hA1
    have hT : rowsT (r + 1) = [⟨6, (r : Int) + 1, 0, 0, 0⟩] := by unfold rowsT; rw [if_pos h1]; rfl
    have HT := Lib.hid hT
    have q : decide ((1 : Int) < (r : Int) + 1) = true := by rw [decide_eq_true_iff]; omega
    clear hT hA hA1
    go_enter Tryz.func12, Tryz.ntmps12
    go_wp2_with fail
    refine HE.out.mono ?_
    rintro e w2 ⟨rfl, vN', hr⟩
    clear HE
    have c3 := hr.c.2.2.2.1
    have HR := Lib.hid hr
    clear hr
    go_wp2_with fail
    refine (HL.out _ c3).mono ?_
    rintro e w3 ⟨rfl, hb⟩
    clear HL
    have hr := HR.out.below hb
    obtain ⟨_, _, e, _, _, _, _, t0, t1, f0, f1, _⟩ := hr.top rfl
    cases e
    clear HR hb c3
    have HR := Lib.hid hr
    clear hr
    go_wp2_with fail
    refine (HA.out _ _ _ HR.out hl2).mono ?_
    rintro e w4 ⟨rfl, vN2, hr⟩
    clear HA HR t0 t1 f0 f1
    have HR := Lib.hid hr
    clear hr
    go_wp2_with fail
    go_end0
    rw [HT.out]
    exact ⟨rfl, _, HR.out⟩
  · have hT : rowsT (r + 1) = [] := by unfold rowsT; rw [if_neg h1]
    have HT := Lib.hid hT
    have q : decide ((1 : Int) < (r : Int) + 1) = false := by rw [decide_eq_false_iff_not]; omega
    clear hT hA
    go_enter Tryz.func12, Tryz.ntmps12
    go_wp2_with fail
    refine HE.out.mono ?_
    rintro e w2 ⟨rfl, vN', hr⟩
    clear HE
    have c3 := hr.c.2.2.2.1
    have HR := Lib.hid hr
    clear hr
    go_wp2_with fail
    refine (HL.out _ c3).mono ?_
    rintro e w3 ⟨rfl, hb⟩
    clear HL
    have hr := HR.out.below hb
    obtain ⟨_, _, e, _, _, _, _, t0, t1, f0, f1, _⟩ := hr.top rfl
    cases e
    clear HR hb c3
    have HR := Lib.hid hr
    clear hr
    go_wp2_with fail
    go_end0
    rw [HT.out, List.append_nil]
    exact ⟨rfl, _, HR.out⟩

/-! ### A group's begin -/
theorem info2r : (Tryz.prog.info? 52).map (fun i => (i.zero, i.size, i.bytes)) = some (some (.agg #[.int .i64 0, .int .i64 0]), 2, 16) := by kernel_rfl
set_option maxRecDepth 100000 in
set_option maxHeartbeats 4000000 in
theorem popenGroup9_calls {R : Nat} (w : World) (c4 : w.cell? ⟨R, 4, none⟩ = some (.int .i64 9)) :
    Calls Tryz.prog 27 #[.pointer (some ⟨R, 0, none⟩)] w fun e w' => e = .returned (.int .i64 9) ∧ w = w' := by
  go_enter Tryz.func27, Tryz.ntmps27
  go_wp2_with fail
  go_ret
  exact ⟨rfl, rfl⟩
set_option maxRecDepth 100000 in
set_option maxHeartbeats 4000000 in
theorem popenGroup_calls {base R : Nat} {s : ByteArray} {a : Nat} {l : List NdN} {st : List (Nat × Nat)} {gr : Nat} {vN vL : Value} {w0 : World} (w : World) (h : RdV base R s a ⟨l, st, gr⟩ vN vL w0 w) (hst : st.length ≤ 2000000) (hg : gr < 9) :
    Calls Tryz.prog 27 #[.pointer (some ⟨R, 0, none⟩)] w fun e w' => e = .returned (.int .i64 0) ∧ ∃ vL', RdV base R s a ⟨l, (0, 0) :: st, gr + 1⟩ vN vL' w0 w' := by
  obtain ⟨i0, hi0, hz0, hz1, hz2⟩ := info_parts info2r
  have c4 : w.cell? ⟨R, 4, none⟩ = some (.int .i64 gr) := h.c.2.2.2.2
  have q : ((gr : Int) == 9) = false := by rw [beq_eq_false_iff_ne]; omega
  have f4 := h.blk.frozen 4
  have HR : Hid (RdV base R s a ⟨l, st, gr + 1⟩ vN vL w0 (w.setCell ⟨R, 4, none⟩ (.int .i64 ((gr + 1 : Nat) : Int)))) := Lib.hid (h.setGroups (gr + 1))
  clear h
  go_enter Tryz.func27, Tryz.ntmps27
  go_upto_region 4 with fail
  rw [show ((gr : Int) + 1) = ((gr + 1 : Nat) : Int) from rfl] at *
  generalize w.setCell ⟨R, 4, none⟩ (.int .i64 ((gr + 1 : Nat) : Int)) = w1 at *
  clear c4 f4
  have hr := HR.out
  have c3 := hr.c.2.2.2.1
  have lR := hr.lR
  have hsz := hr.size
  have hRlt := hr.blk.lt
  clear hr
  go_wp2_with (at_builtin
               go_loud (refine wpList_append_lies _ rfl _ _ 43 rfl base 52 i0 (.agg #[.int .i64 0, .int .i64 0]) 2 16 Tryz.underlying43 hi0 hz0 hz1 hz2 rfl (by decide) vL st.length (lvCells st.reverse) rfl (HR.out.alloc _).levels ⟨w1.heap.size, 0, none⟩ 1 1 [.int .i64 0, .int .i64 0] rfl rfl (World.news_of_block (cs := #[.int .i64 0, .int .i64 0]) (t := 52) (fr := (0, 0)) (heap_alloc_new w1 _)) (by simp [Value.oneCell']) (by omega) (by simp only [maxLen]; omega) (by omega) (by simp; omega) (w1.heap.size + 1) (by simp) ?_)
               intro g cap w2 hown hgrow hat hlt
               have ff2 := ((HR.out.alloc _).blk.kept hgrow (Ne.symm lR)).frozen 3
               have cc2 : w2.cell? ⟨R, 3, none⟩ = some vL := ((HR.out.alloc _).blk.kept hgrow (Ne.symm lR)).cell 3)
  go_ret
  exact ⟨rfl, _, (HR.out.alloc _).pushL hown hgrow (hat.imp id fun e => by rw [e]; simp)⟩
end Go.Proofs.YthodphgbdmnpoaaGreat

/- The developers' reading: shutGroup, take. Stage 7. -/
namespace Go.Proofs.YthodphgbdmnpoaaGreat
open Go.RowKit BS

set_option maxRecDepth 100000 in
set_option maxHeartbeats 4000000 in
theorem pshutGroup8_calls {R : Nat} (ad : Option Addr) (cap : Nat) (w : World) (c3 : w.cell? ⟨R, 3, none⟩ = some (.slice ad 1 cap)) :
    Calls Tryz.prog 28 #[.pointer (some ⟨R, 0, none⟩)] w fun e w' => e = .returned (.int .i64 8) ∧ w = w' := by
  have HO := Lib.hid (popen_calls R 0 ad cap w c3 (by omega))
  go_enter Tryz.func28, Tryz.ntmps28
  go_wp2_with fail
  refine HO.out.mono ?_
  rintro e w2 ⟨rfl, rfl⟩
  go_wp2_with fail
  go_ret
  exact ⟨rfl, rfl⟩
set_option maxRecDepth 100000 in
set_option maxHeartbeats 8000000 in
theorem pshutGroup_calls {base R : Nat} {s : ByteArray} {a n r n2 r2 : Nat} {l : List NdN} {st : List (Nat × Nat)} {gr : Nat} {vN vL : Value} {w0 : World} (w : World) (h : RdV base R s a ⟨l, (n, r) :: (n2, r2) :: st, gr⟩ vN vL w0 w) (hl : l.length ≤ 3999990) (hst : st.length ≤ 1999990) (hn : n ≤ 2000000) (hr' : r ≤ 2000000) (hn2 : n2 ≤ 2000000) :
    Calls Tryz.prog 28 #[.pointer (some ⟨R, 0, none⟩)] w fun e w' => e = .returned (.int .i64 0) ∧ ∃ vN' vL', RdV base R s a ⟨l ++ rowT n ++ rowsT (r + 1) ++ [ndG], (n2 + 1, r2) :: st, gr⟩ vN' vL' w0 w' := by
  have HE := Lib.hid (pendRows_calls w h (by omega) (by simp only [List.length_cons]; omega) hn hr')
  have hl2 : (l ++ rowT n ++ rowsT (r + 1)).length ≤ 4000000 := by
    rw [List.length_append, List.length_append]
    have h1 := rowT_len n
    have h2 := rowsT_len (r + 1)
    omega
  obtain ⟨g, cap, rfl, hbg, hgl, hgR, hcap, t0, t1, f0, f1, _⟩ := h.top rfl
  have c3 := h.c.2.2.2.1
  simp only [List.length_cons] at hcap
  rw [show ((n2, r2) :: st).length = st.length + 1 from rfl] at *
  clear t0 t1 f0 f1 h hgl
  have HO := Lib.hid (fun W (h3 : W.cell? ⟨R, 3, none⟩ = some (.slice (some ⟨g, 0, none⟩) (st.length + 1 + 1 : Nat) cap)) => popen_calls R (st.length + 1) (some ⟨g, 0, none⟩) cap W h3 (by omega))
  have HP := Lib.hid (fun W vN vL (h : RdV base R s a ⟨l ++ rowT n ++ rowsT (r + 1), (n2, r2) :: st, gr⟩ vN vL w0 W) => paddPiece_calls ndG W h hl2 (by omega) hn2)
  rw [show ndG = ⟨3, 1, 0, 0, 0⟩ from rfl, nd_zero] at HP
  generalize l ++ rowT n ++ rowsT (r + 1) = l2 at *
  have q : ((st.length : Int) + 1 == 0) = false := by rw [beq_eq_false_iff_ne]; omega
  go_enter Tryz.func28, Tryz.ntmps28
  go_wp2_with fail
  refine (HO.out _ c3).mono ?_
  rintro e w2 ⟨rfl, rfl⟩
  go_wp2_with fail
  refine HE.out.mono ?_
  rintro e w2 ⟨rfl, vN', hr⟩
  clear HE c3
  have c3 : w2.cell? ⟨R, 3, none⟩ = some (.slice (some ⟨g, 0, none⟩) (st.length + 1 + 1 : Nat) cap) := hr.c.2.2.2.1
  have f3 := hr.blk.frozen 3
  have HR := Lib.hid hr
  have q0 : (0 : Int) ≤ (st.length : Int) + 1 := by omega
  have q1 : (st.length : Int) + 1 ≤ (cap : Int) := by omega
  clear hr
  go_wp2_with fail
  go_region_with (go_at_call 11; refine (HO.out w2.drew c3).mono ?_; rintro e w3 ⟨rfl, rfl⟩)
  all_goals
    have hr : RdV base R s a ⟨l2, (n2, r2) :: st, gr⟩ vN' (.slice (some ⟨g, 0, none⟩) (st.length + 1 : Nat) cap) w0 (w2.drew.setCell ⟨R, 3, none⟩ (.slice (some ⟨g, 0, none⟩) (st.length + 1 : Nat) cap)) := RdV.popL (p := (0, r + 1)) (st := (n2, r2) :: st) HR.out.drew rfl
    go_wp2_with fail
    refine (HP.out _ _ _ hr).mono ?_
    rintro e w4 ⟨rfl, vN2, hr2⟩
    go_wp2_with fail
    go_ret
    exact ⟨rfl, _, _, hr2⟩
end Go.Proofs.YthodphgbdmnpoaaGreat

/- The developers' reading: take. Stage 7. -/
namespace Go.Proofs.YthodphgbdmnpoaaGreat
open Go.RowKit BS

set_option maxRecDepth 100000 in
set_option maxHeartbeats 4000000 in
theorem ptake1 {base R : Nat} {s : ByteArray} {a n r : Nat} {l : List NdN} {st : List (Nat × Nat)} {gr : Nat} {vN vL : Value} {w0 : World} (p f : Int) (t : BitVec 256) (n' m' : Int) (w : World) (h : RdV base R s a ⟨l, (n, r) :: st, gr⟩ vN vL w0 w) (hl : l.length ≤ 3999990) (hst : st.length ≤ 1999990) (hn : n ≤ 2000000) :
    Calls Tryz.prog 17 #[.pointer (some ⟨R, 0, none⟩), .agg (woI 1 p f t n' m')] w fun e w' => e = .returned (.int .i64 0) ∧ ∃ vN', RdV base R s a ⟨l ++ [⟨2, 0, 0, 0, t⟩], (n + 1, r) :: st, gr⟩ vN' vL w0 w' := by
  have hB := Blk.new w (woI 1 p f t n' m') 57
  have hr := h.alloc (.cells (woI 1 p f t n' m') 57)
  have hb0 : Below w.heap.size w (w.alloc (.cells (woI 1 p f t n' m') 57)) := by go_grown
  clear h
  go_enter Tryz.func17, Tryz.ntmps17
  go_upto_region 1 with fail
  generalize w.alloc (.cells (woI 1 p f t n' m') 57) = w1 at *
  have HB0 := Lib.hid hb0
  clear hb0
  have HW := Lib.hid (Eq.refl w.heap.size)
  clear HW
  have c0 := hB.cell 0; have c3 := hB.cell 3; have c4 := hB.cell 4; have c5 := hB.cell 5; have c6 := hB.cell 6; have c7 := hB.cell 7; have c8 := hB.cell 8
  simp only [List.getElem?_toArray, List.getElem?_cons_zero, List.getElem?_cons_succ] at c0 c3 c4 c5 c6 c7 c8
  have HR := Lib.hid hr
  clear hr hB
  go_wp2_with fail
  refine (paddPiece_calls ⟨2, 0, 0, 0, t⟩ _ HR.out (by omega) (by omega) hn).mono ?_
  rintro e w2 ⟨rfl, vN', hr2⟩
  go_wp2_with fail
  go_ret
  exact ⟨rfl, _, hr2⟩
set_option maxRecDepth 100000 in
set_option maxHeartbeats 4000000 in
theorem ptake2_9 {base R : Nat} {s : ByteArray} {a n r : Nat} {l : List NdN} {st : List (Nat × Nat)} {vN vL : Value} {w0 : World} (p f : Int) (t : BitVec 256) (n' m' : Int) (w : World) (h : RdV base R s a ⟨l, (n, r) :: st, 9⟩ vN vL w0 w) :
    Calls Tryz.prog 17 #[.pointer (some ⟨R, 0, none⟩), .agg (woI 2 p f t n' m')] w fun e w' => e = .returned (.int .i64 9) ∧ Below w.heap.size w w' := by
  have hB := Blk.new w (woI 2 p f t n' m') 57
  have hr := h.alloc (.cells (woI 2 p f t n' m') 57)
  have hb0 : Below w.heap.size w (w.alloc (.cells (woI 2 p f t n' m') 57)) := by go_grown
  clear h
  go_enter Tryz.func17, Tryz.ntmps17
  go_upto_region 1 with fail
  generalize w.alloc (.cells (woI 2 p f t n' m') 57) = w1 at *
  have HB0 := Lib.hid hb0
  clear hb0
  have HW := Lib.hid (Eq.refl w.heap.size)
  clear HW
  have c0 := hB.cell 0; have c3 := hB.cell 3; have c4 := hB.cell 4; have c5 := hB.cell 5; have c6 := hB.cell 6; have c7 := hB.cell 7; have c8 := hB.cell 8
  simp only [List.getElem?_toArray, List.getElem?_cons_zero, List.getElem?_cons_succ] at c0 c3 c4 c5 c6 c7 c8
  have HR := Lib.hid hr
  have cg := hr.c.2.2.2.2
  clear hr hB
  go_wp2_with fail
  refine (popenGroup9_calls _ cg).mono ?_
  rintro e w2 ⟨rfl, rfl⟩
  go_wp2_with fail
  go_ret
  exact ⟨rfl, HB0.out⟩
set_option maxRecDepth 100000 in
set_option maxHeartbeats 4000000 in
theorem ptake2 {base R : Nat} {s : ByteArray} {a n r : Nat} {l : List NdN} {st : List (Nat × Nat)} {gr : Nat} {vN vL : Value} {w0 : World} (p f : Int) (t : BitVec 256) (n' m' : Int) (w : World) (h : RdV base R s a ⟨l, (n, r) :: st, gr⟩ vN vL w0 w) (hst : st.length ≤ 1999990) (hg : gr < 9) :
    Calls Tryz.prog 17 #[.pointer (some ⟨R, 0, none⟩), .agg (woI 2 p f t n' m')] w fun e w' => e = .returned (.int .i64 0) ∧ ∃ vL', RdV base R s a ⟨l, (0, 0) :: (n, r) :: st, gr + 1⟩ vN vL' w0 w' := by
  have hB := Blk.new w (woI 2 p f t n' m') 57
  have hr := h.alloc (.cells (woI 2 p f t n' m') 57)
  have hb0 : Below w.heap.size w (w.alloc (.cells (woI 2 p f t n' m') 57)) := by go_grown
  clear h
  go_enter Tryz.func17, Tryz.ntmps17
  go_upto_region 1 with fail
  generalize w.alloc (.cells (woI 2 p f t n' m') 57) = w1 at *
  have HB0 := Lib.hid hb0
  clear hb0
  have HW := Lib.hid (Eq.refl w.heap.size)
  clear HW
  have c0 := hB.cell 0; have c3 := hB.cell 3; have c4 := hB.cell 4; have c5 := hB.cell 5; have c6 := hB.cell 6; have c7 := hB.cell 7; have c8 := hB.cell 8
  simp only [List.getElem?_toArray, List.getElem?_cons_zero, List.getElem?_cons_succ] at c0 c3 c4 c5 c6 c7 c8
  have HR := Lib.hid hr
  clear hr hB
  go_wp2_with fail
  refine (popenGroup_calls _ HR.out (by simp only [List.length_cons]; omega) hg).mono ?_
  rintro e w2 ⟨rfl, vL', hr2⟩
  go_wp2_with fail
  go_ret
  exact ⟨rfl, _, hr2⟩
set_option maxRecDepth 100000 in
set_option maxHeartbeats 4000000 in
theorem ptake3_8 {base R : Nat} {s : ByteArray} {a n r : Nat} {l : List NdN} {gr : Nat} {vN vL : Value} {w0 : World} (p f : Int) (t : BitVec 256) (n' m' : Int) (w : World) (h : RdV base R s a ⟨l, [(n, r)], gr⟩ vN vL w0 w) :
    Calls Tryz.prog 17 #[.pointer (some ⟨R, 0, none⟩), .agg (woI 3 p f t n' m')] w fun e w' => e = .returned (.int .i64 8) ∧ Below w.heap.size w w' := by
  have hB := Blk.new w (woI 3 p f t n' m') 57
  have hr := h.alloc (.cells (woI 3 p f t n' m') 57)
  have hb0 : Below w.heap.size w (w.alloc (.cells (woI 3 p f t n' m') 57)) := by go_grown
  clear h
  go_enter Tryz.func17, Tryz.ntmps17
  go_upto_region 1 with fail
  generalize w.alloc (.cells (woI 3 p f t n' m') 57) = w1 at *
  have HB0 := Lib.hid hb0
  clear hb0
  have HW := Lib.hid (Eq.refl w.heap.size)
  clear HW
  have c0 := hB.cell 0; have c3 := hB.cell 3; have c4 := hB.cell 4; have c5 := hB.cell 5; have c6 := hB.cell 6; have c7 := hB.cell 7; have c8 := hB.cell 8
  simp only [List.getElem?_toArray, List.getElem?_cons_zero, List.getElem?_cons_succ] at c0 c3 c4 c5 c6 c7 c8
  have HR := Lib.hid hr
  obtain ⟨g, cap, rfl, _⟩ := hr.top rfl
  have cl := hr.c.2.2.2.1
  clear hr hB
  go_wp2_with fail
  refine (pshutGroup8_calls _ cap _ cl).mono ?_
  rintro e w2 ⟨rfl, rfl⟩
  go_wp2_with fail
  go_ret
  exact ⟨rfl, HB0.out⟩
set_option maxRecDepth 100000 in
set_option maxHeartbeats 4000000 in
theorem ptake3 {base R : Nat} {s : ByteArray} {a n r : Nat} {l : List NdN} {st : List (Nat × Nat)} {gr : Nat} {vN vL : Value} {w0 : World} (p f : Int) (t : BitVec 256) (n' m' : Int) (w : World) {n2 r2 : Nat} (h : RdV base R s a ⟨l, (n, r) :: (n2, r2) :: st, gr⟩ vN vL w0 w) (hl : l.length ≤ 3999990) (hst : st.length ≤ 1999990) (hn : n ≤ 2000000) (hr' : r ≤ 2000000) (hn2 : n2 ≤ 2000000) :
    Calls Tryz.prog 17 #[.pointer (some ⟨R, 0, none⟩), .agg (woI 3 p f t n' m')] w fun e w' => e = .returned (.int .i64 0) ∧ ∃ vN' vL', RdV base R s a ⟨l ++ rowT n ++ rowsT (r + 1) ++ [ndG], (n2 + 1, r2) :: st, gr⟩ vN' vL' w0 w' := by
  have hB := Blk.new w (woI 3 p f t n' m') 57
  have hr := h.alloc (.cells (woI 3 p f t n' m') 57)
  have hb0 : Below w.heap.size w (w.alloc (.cells (woI 3 p f t n' m') 57)) := by go_grown
  clear h
  go_enter Tryz.func17, Tryz.ntmps17
  go_upto_region 1 with fail
  generalize w.alloc (.cells (woI 3 p f t n' m') 57) = w1 at *
  have HB0 := Lib.hid hb0
  clear hb0
  have HW := Lib.hid (Eq.refl w.heap.size)
  clear HW
  have c0 := hB.cell 0; have c3 := hB.cell 3; have c4 := hB.cell 4; have c5 := hB.cell 5; have c6 := hB.cell 6; have c7 := hB.cell 7; have c8 := hB.cell 8
  simp only [List.getElem?_toArray, List.getElem?_cons_zero, List.getElem?_cons_succ] at c0 c3 c4 c5 c6 c7 c8
  have HR := Lib.hid hr
  clear hr hB
  go_wp2_with fail
  refine (pshutGroup_calls _ HR.out hl hst hn hr' hn2).mono ?_
  rintro e w2 ⟨rfl, vN', vL', hr2⟩
  go_wp2_with fail
  go_ret
  exact ⟨rfl, _, _, hr2⟩
set_option maxRecDepth 100000 in
set_option maxHeartbeats 4000000 in
theorem ptake4 {base R : Nat} {s : ByteArray} {a n r : Nat} {l : List NdN} {st : List (Nat × Nat)} {gr : Nat} {vN vL : Value} {w0 : World} (p f : Int) (t : BitVec 256) (n' m' : Int) (w : World) (h : RdV base R s a ⟨l, (n, r) :: st, gr⟩ vN vL w0 w) (hl : l.length ≤ 3999990) (hst : st.length ≤ 1999990) (hn : n ≤ 2000000) (hr' : r ≤ 2000000) :
    Calls Tryz.prog 17 #[.pointer (some ⟨R, 0, none⟩), .agg (woI 4 p f t n' m')] w fun e w' => e = .returned (.int .i64 0) ∧ ∃ vN', RdV base R s a ⟨l ++ rowT n, (0, r + 1) :: st, gr⟩ vN' vL w0 w' := by
  have hB := Blk.new w (woI 4 p f t n' m') 57
  have hr := h.alloc (.cells (woI 4 p f t n' m') 57)
  have hb0 : Below w.heap.size w (w.alloc (.cells (woI 4 p f t n' m') 57)) := by go_grown
  clear h
  go_enter Tryz.func17, Tryz.ntmps17
  go_upto_region 1 with fail
  generalize w.alloc (.cells (woI 4 p f t n' m') 57) = w1 at *
  have HB0 := Lib.hid hb0
  clear hb0
  have HW := Lib.hid (Eq.refl w.heap.size)
  clear HW
  have c0 := hB.cell 0; have c3 := hB.cell 3; have c4 := hB.cell 4; have c5 := hB.cell 5; have c6 := hB.cell 6; have c7 := hB.cell 7; have c8 := hB.cell 8
  simp only [List.getElem?_toArray, List.getElem?_cons_zero, List.getElem?_cons_succ] at c0 c3 c4 c5 c6 c7 c8
  have HR := Lib.hid hr
  clear hr hB
  go_wp2_with fail
  refine (pendRow_calls _ HR.out (by omega) (by omega) hn hr').mono ?_
  rintro e w2 ⟨rfl, vN', hr2⟩
  go_wp2_with fail
  go_ret
  exact ⟨rfl, _, hr2⟩
set_option maxRecDepth 100000 in
set_option maxHeartbeats 4000000 in
theorem ptake5 {base R : Nat} {s : ByteArray} {a n r : Nat} {l : List NdN} {st : List (Nat × Nat)} {gr : Nat} {vN vL : Value} {w0 : World} (p f : Int) (t : BitVec 256) (n' m' : Int) (w : World) (h : RdV base R s a ⟨l, (n, r) :: st, gr⟩ vN vL w0 w) (hl : l.length ≤ 3999990) :
    Calls Tryz.prog 17 #[.pointer (some ⟨R, 0, none⟩), .agg (woI 5 p f t n' m')] w fun e w' => e = .returned (.int .i64 0) ∧ ∃ vN', RdV base R s a ⟨l ++ [⟨4, 1, n', m', 0⟩], (n, r) :: st, gr⟩ vN' vL w0 w' := by
  have hB := Blk.new w (woI 5 p f t n' m') 57
  have hr := h.alloc (.cells (woI 5 p f t n' m') 57)
  have hb0 : Below w.heap.size w (w.alloc (.cells (woI 5 p f t n' m') 57)) := by go_grown
  clear h
  have hA := fun W (h : RdV base R s a ⟨l, (n, r) :: st, gr⟩ vN vL w0 W) => padd_calls ⟨4, 1, n', m', 0⟩ W h (by simp only; omega)
  rw [nd_zero] at hA
  have HA := Lib.hid hA
  clear hA
  go_enter Tryz.func17, Tryz.ntmps17
  go_upto_region 1 with fail
  generalize w.alloc (.cells (woI 5 p f t n' m') 57) = w1 at *
  have HB0 := Lib.hid hb0
  clear hb0
  have HW := Lib.hid (Eq.refl w.heap.size)
  clear HW
  have c0 := hB.cell 0; have c3 := hB.cell 3; have c4 := hB.cell 4; have c5 := hB.cell 5; have c6 := hB.cell 6; have c7 := hB.cell 7; have c8 := hB.cell 8
  simp only [List.getElem?_toArray, List.getElem?_cons_zero, List.getElem?_cons_succ] at c0 c3 c4 c5 c6 c7 c8
  have HR := Lib.hid hr
  clear hr hB
  go_wp2_with fail
  refine (HA.out _ HR.out).mono ?_
  rintro e w2 ⟨rfl, vN', hr2⟩
  go_wp2_with fail
  go_ret
  exact ⟨rfl, _, hr2⟩
end Go.Proofs.YthodphgbdmnpoaaGreat

/- Brackets, plainly: how the developers' package reads them. -/
namespace Go.Proofs.YthodphgbdmnpoaaGreat
open Go.RowKit BS

/-- What was read. -/
structure DP where
  set : BitVec 256
  fin : Nat
  err : Nat
  lack : ByteArray

/-- Does one of the bytes L stand at i? -/
def isN (s : ByteArray) (i : Nat) (L : List Nat) : Bool := decide (i < s.size) && L.contains (bt s i)
def shortD (s l : ByteArray) : DP := ⟨0, s.size, 2, l⟩
def badD (e p : Nat) : DP := ⟨0, p, e, eT⟩
def okD (t : BitVec 256) (p : Nat) : DP := ⟨t, p, 0, eT⟩

def betweenD (s : ByteArray) (i : Nat) : DP :=
  if bt s (i + 2) < bt s i then badD 4 (i + 3)
  else if bt s (i + 2) = 91 ∧ isN s (i + 3) [58, 46, 61] = true then badD 3 (i + 4)
  else okD (range (bt s i) (bt s (i + 2))) (i + 3)

/-- How far a name goes. -/
def nmEnd (s : ByteArray) (a : Nat) : Nat → Nat → Nat
  | 0, e => e
  | n + 1, e => if begB (s.extract a (e + 1)) = true then nmEnd s a n (e + 1) else e
/-- How the first name that begins so goes on. -/
def restD (l : ByteArray) : ByteArray := ((tabL.find? fun e => pfx e.1 l).map (fun e => e.1.extract l.size e.1.size)).getD eT
def colT : ByteArray := ofT [58, 93, 93]
def twoT : ByteArray := ofT [93, 93]
def oneT : ByteArray := ofT [93]

def behindD (s : ByteArray) (a e : Nat) : DP :=
  if e = s.size then shortD s (restD (s.extract a s.size) ++ colT)
  else if ofB (s.extract a e).toList = false ∨ bt s e ≠ 58 then badD 5 (e + 1)
  else if e + 1 = s.size then shortD s twoT
  else if bt s (e + 1) ≠ 93 then badD 3 (e + 2)
  else okD (ofS (s.extract a e).toList) (e + 2)
def namedD (s : ByteArray) (a : Nat) : DP := behindD s a (nmEnd s a (s.size - a) a)

def thingD (s : ByteArray) (i : Nat) : DP :=
  if bt s i = 91 ∧ isN s (i + 1) [58] = true then namedD s (i + 2)
  else if bt s i = 91 ∧ isN s (i + 1) [46, 61] = true then badD 3 (i + 2)
  else if (isN s (i + 1) [45] = true ∧ i + 2 < s.size) ∧ bt s (i + 2) ≠ 93 then betweenD s i
  else okD (range (bt s i) (bt s i)) (i + 1)

def loopD (s : ByteArray) (first : Nat) : Nat → BitVec 256 → Nat → DP
  | 0, t, i => okD t i
  | n + 1, t, i =>
    if i = s.size ∧ i = first then shortD s twoT
    else if i = s.size then shortD s oneT
    else if bt s i = 93 ∧ first < i then okD t (i + 1)
    else if (thingD s i).err ≠ 0 then thingD s i
    else loopD s first n (t ||| (thingD s i).set) (thingD s i).fin
def thingsD (s : ByteArray) (first : Nat) : DP := loopD s first (s.size + 1 - first) 0 first

def negD (p : DP) : DP := ⟨~~~p.set, p.fin, p.err, p.lack⟩
def wholeD (s : ByteArray) (at' : Int) : DP :=
  if at' < 0 then badD 1 0
  else if isN s at'.toNat [91] = false then badD 1 0
  else if isN s (at'.toNat + 1) [94] = false then thingsD s (at'.toNat + 1)
  else negD (thingsD s (at'.toNat + 2))
def readD (s : ByteArray) (at' : Int) : BitVec 256 × Nat × Nat × Nat :=
  if (wholeD s at').err ≠ 0 then (0, 0, (wholeD s at').err, (wholeD s at').fin) else ((wholeD s at').set, (wholeD s at').fin, 0, 0)

/-! ### It reads as the document does -/
theorem isN_lt {s : ByteArray} {i : Nat} {L : List Nat} (h : isN s i L = true) : i < s.size := by
  unfold isN at h; simp at h; exact h.1
theorem isN_one (s : ByteArray) (i b : Nat) : isN s i [b] = true ↔ i < s.size ∧ bt s i = b := by
  unfold isN; simp
theorem isN_two (s : ByteArray) (i b c : Nat) : isN s i [b, c] = true ↔ i < s.size ∧ (bt s i = b ∨ bt s i = c) := by
  unfold isN; simp
theorem isN_three (s : ByteArray) (i b c d : Nat) : isN s i [b, c, d] = true ↔ i < s.size ∧ (bt s i = b ∨ bt s i = c ∨ bt s i = d) := by
  unfold isN; simp
theorem spec3_iff (b : Nat) : spec3 b = true ↔ b = 58 ∨ b = 46 ∨ b = 61 := by
  unfold spec3; simp [or_assoc]

/-- What reading ends in, for a bracket with ^ or without. -/
def finD (neg : Bool) (p : DP) : BitVec 256 × Nat × Nat × Nat := if p.err ≠ 0 then (0, 0, p.err, p.fin) else (if neg = true then ~~~p.set else p.set, p.fin, 0, 0)

/-- No name has a : in it. -/
theorem no_colon : ∀ k, k < 12 → ∀ j, j < 16 → bt (tE k).1 j ≠ 58 := by decide +kernel
theorem name_len : ∀ k, k < 12 → (tE k).1.size ≤ 16 ∧ 0 < (tE k).1.size := by decide +kernel
theorem pfx_bt {nm l : ByteArray} (h : pfx nm l = true) : l.size ≤ nm.size ∧ ∀ i, i < l.size → bt l i = bt nm i := by
  unfold pfx at h
  rw [Bool.and_eq_true, decide_eq_true_eq, beq_iff_eq] at h
  obtain ⟨h1, h2⟩ := h
  refine ⟨h1, fun i hi => ?_⟩
  have e : bt (nm.extract 0 l.size) i = bt nm (0 + i) := bt_extract nm 0 l.size i h1 (by omega)
  rw [Nat.zero_add] at e
  rw [← e]
  have e2 : nm.extract 0 l.size = l := by
    apply ByteArray.ext
    apply Array.toList_inj.1
    have := h2
    rw [ByteArray.toList_eq, ByteArray.toList_eq] at this
    exact this
  rw [e2]
theorem begB_iff (l : ByteArray) : begB l = true ↔ ∃ k, k < 12 ∧ pfx (tE k).1 l = true := by
  constructor
  · intro h
    refine Decidable.byContradiction fun hc => ?_
    rw [begB_not l (fun j hj => ?_)] at h
    · exact absurd h (by decide)
    · cases hp : pfx (tE j).1 l with
      | false => rfl
      | true => exact absurd ⟨j, hj, hp⟩ hc
  · rintro ⟨k, hk, h⟩
    exact begB_at l k hk h
theorem beg_colon (s : ByteArray) (a e : Nat) (ha : a ≤ e) (he : e < s.size) (h : bt s e = 58) : begB (s.extract a (e + 1)) = false := by
  cases hb : begB (s.extract a (e + 1)) with
  | false => rfl
  | true =>
    obtain ⟨k, hk, hp⟩ := (begB_iff _).1 hb
    obtain ⟨h1, h2⟩ := pfx_bt hp
    have hs : (s.extract a (e + 1)).size = e + 1 - a := by rw [ByteArray.size_extract]; omega
    have h3 := h2 (e - a) (by omega)
    rw [bt_extract s a (e + 1) (e - a) (by omega) (by omega), show a + (e - a) = e by omega, h] at h3
    have := (name_len k hk).1
    exact absurd h3.symm (no_colon k hk (e - a) (by omega))
end Go.Proofs.YthodphgbdmnpoaaGreat

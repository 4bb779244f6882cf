/- Texts put together: Trq. -/
import Derived.Test.YtooolhekihijlaaQG
import Derived.Test.YtooolhekihijlaaQJ
import Derived.Laws.Slices
/- Which of two lists is ahead: the developers'. Stage 14. -/
namespace Go.Proofs.Ytooolhekihijlaa
open Go.RowKit BS

set_option maxRecDepth 100000 in
theorem nanE_int (x : Int) (w : World) : Calls Try.prog 60 #[.int .i64 x] w fun e w' => e = .returned (.bool false) ∧ w = w' := by
  go_enter Try.func60, Try.ntmps60
  go_wp2_with fail
  go_ret
  exact ⟨by simp, rfl⟩
set_option maxRecDepth 100000 in
set_option maxHeartbeats 4000000 in
theorem compareE_calls (x y : Int) (w : World) : Calls Try.prog 50 #[.int .i64 x, .int .i64 y] w fun e w' => e = .returned (.int .i64 (sgT x y)) ∧ w = w' := by
  have H1 := Lib.hid (fun x W => nanE_int x W)
  unfold sgT
  by_cases h1 : x < y
  · have q1 : decide (x < y) = true := decide_eq_true h1
    rw [if_pos h1]
    clear h1
    go_enter Try.func50, Try.ntmps50
    go_wp2_with fail
    refine (H1.out _ _).mono ?_
    rintro e w1 ⟨rfl, rfl⟩
    go_wp2_with fail
    refine (H1.out _ _).mono ?_
    rintro e w1 ⟨rfl, rfl⟩
    go_wp2_with fail
    go_ret
    exact ⟨rfl, rfl⟩
  · have q1 : decide (x < y) = false := decide_eq_false h1
    rw [if_neg h1]
    by_cases h2 : y < x
    · have q2 : decide (y < x) = true := decide_eq_true h2
      rw [if_pos h2]
      clear h1 h2
      go_enter Try.func50, Try.ntmps50
      go_wp2_with fail
      refine (H1.out _ _).mono ?_
      rintro e w1 ⟨rfl, rfl⟩
      go_wp2_with fail
      refine (H1.out _ _).mono ?_
      rintro e w1 ⟨rfl, rfl⟩
      go_wp2_with fail
      go_ret
      exact ⟨rfl, rfl⟩
    · have q2 : decide (y < x) = false := decide_eq_false h2
      rw [if_neg h2]
      clear h1 h2
      go_enter Try.func50, Try.ntmps50
      go_wp2_with fail
      refine (H1.out _ _).mono ?_
      rintro e w1 ⟨rfl, rfl⟩
      go_wp2_with fail
      refine (H1.out _ _).mono ?_
      rintro e w1 ⟨rfl, rfl⟩
      go_wp2_with fail
      go_ret
      exact ⟨rfl, rfl⟩
/-- The first of two numbers that is not 0. -/
def orT (x y : Int) : Int := if x = 0 then y else x
theorem orT_zero (y : Int) : orT 0 y = y := rfl
theorem orT_ne {x : Int} (y : Int) (h : x ≠ 0) : orT x y = x := if_neg h
theorem sgT_self (x : Int) : sgT x x = 0 := by unfold sgT; rw [if_neg (Int.lt_irrefl x), if_neg (Int.lt_irrefl x)]
theorem or_cmp (xd xn xf xt yd yn yf yt : Int) : orT (orT (orT (orT 0 (sgT yd xd)) (sgT xn yn)) (sgT xf yf)) (sgT yt xt) = cmpE ⟨xd, xn, xf, xt⟩ ⟨yd, yn, yf, yt⟩ := by
  rw [orT_zero]
  by_cases hd : xd = yd
  · subst hd
    rw [sgT_self, orT_zero]
    by_cases hn : xn = yn
    · subst hn
      rw [sgT_self, orT_zero]
      by_cases hf : xf = yf
      · subst hf
        rw [sgT_self, orT_zero]
        by_cases ht : xt = yt
        · subst ht
          rw [sgT_self]
          exact ((cmpE_zero _ _).2 rfl).symm
        · exact (cmp_t ht).1.symm
      · have h := @cmp_f xd xn xf xt yf yt hf
        rw [← h.1]
        exact orT_ne _ h.2
    · have h := @cmp_n xd xn xf xt yn yf yt hn
      rw [← h.1, orT_ne _ h.2]
      exact orT_ne _ h.2
  · have h := @cmp_d xd xn xf xt yd yn yf yt hd
    rw [← h.1, orT_ne _ h.2, orT_ne _ h.2]
    exact orT_ne _ h.2
set_option maxRecDepth 100000 in
set_option maxHeartbeats 4000000 in
theorem orE_calls (x y : Int) (B : Nat) (w : World) (c0 : w.cell? ⟨B, 0, none⟩ = some (.int .i64 x)) (c1 : w.cell? ⟨B, 1, none⟩ = some (.int .i64 y)) :
    Calls Try.prog 40 #[.slice (some ⟨B, 0, none⟩) 2 2] w fun e w' => e = .returned (.int .i64 (if x = 0 then y else x)) ∧ w = w' := by
  go_enter Try.func40, Try.ntmps40
  go_upto_region 3 with fail
  go_loopw [8] (fun v wr => w = wr ∧ (v = .int .i64 0 ∨ (v = .int .i64 1 ∧ x = 0) ∨ (v = .int .i64 2 ∧ x = 0 ∧ y = 0))) (fun v _ => 3 - (intOf v).toNat)
  case atStart => exact ⟨rfl, .inl rfl⟩
  case round =>
    obtain ⟨rfl, hv⟩ := hrel
    rcases hv with rfl | ⟨rfl, rfl⟩ | ⟨rfl, rfl, rfl⟩
    · by_cases hx : x = 0
      · subst hx
        go_wp2_with fail
        go_roundw
        case rel => simp
        case measure => decide
      · have q : (x != 0) = true := by simpa using hx
        have HX := Lib.hid hx
        clear hx
        go_wp2_with fail
        go_ret
        exact ⟨rfl, rfl⟩
    · by_cases hy : y = 0
      · subst hy
        go_wp2_with fail
        go_roundw
        case rel => simp
        case measure => decide
      · have q : (y != 0) = true := by simpa using hy
        clear hy
        go_wp2_with fail
        go_ret
        exact ⟨rfl, rfl⟩
    · go_wp2_with fail
      go_ret
      exact ⟨rfl, rfl⟩
set_option maxRecDepth 100000 in
set_option maxHeartbeats 8000000 in
theorem byDepth_calls (xd xn xf xt yd yn yf yt : Int) (w : World) : Calls Try.prog 36 #[.agg (enI xd xn xf xt), .agg (enI yd yn yf yt)] w fun e w' => e = .returned (.int .i64 (sgT yd xd)) ∧ Below w.heap.size w w' := by
  have bX := (Blk.new w (enI xd xn xf xt) 51).alloc (.cells (enI yd yn yf yt) 51)
  have bY := Blk.new (w.alloc (.cells (enI xd xn xf xt) 51)) (enI yd yn yf yt) 51
  rw [World.size_alloc] at bY
  have HB := Lib.hid (((Below.refl w.heap.size w).alloc (Nat.le_refl _) (.cells (enI xd xn xf xt) 51)).alloc (by rw [World.size_alloc]; omega) (.cells (enI yd yn yf yt) 51))
  have r0 := bX.cell 0
  have t0 := bY.cell 0
  simp only [List.getElem?_toArray, List.getElem?_cons_zero] at r0 t0
  clear bX bY
  go_enter Try.func36, Try.ntmps36
  go_upto_region 1 with fail
  generalize (w.alloc (.cells (enI xd xn xf xt) 51)).alloc (.cells (enI yd yn yf yt) 51) = w1 at *
  go_wp2_with fail
  refine (compareE_calls yd xd _).mono ?_
  rintro e w4 ⟨rfl, rfl⟩
  go_wp2_with fail
  go_ret
  exact ⟨rfl, HB.out⟩
set_option maxRecDepth 100000 in
set_option maxHeartbeats 8000000 in
theorem byNode_calls (xd xn xf xt yd yn yf yt : Int) (w : World) : Calls Try.prog 37 #[.agg (enI xd xn xf xt), .agg (enI yd yn yf yt)] w fun e w' => e = .returned (.int .i64 (sgT xn yn)) ∧ Below w.heap.size w w' := by
  have bX := (Blk.new w (enI xd xn xf xt) 51).alloc (.cells (enI yd yn yf yt) 51)
  have bY := Blk.new (w.alloc (.cells (enI xd xn xf xt) 51)) (enI yd yn yf yt) 51
  rw [World.size_alloc] at bY
  have HB := Lib.hid (((Below.refl w.heap.size w).alloc (Nat.le_refl _) (.cells (enI xd xn xf xt) 51)).alloc (by rw [World.size_alloc]; omega) (.cells (enI yd yn yf yt) 51))
  have r0 := bX.cell 1
  have t0 := bY.cell 1
  simp only [List.getElem?_toArray, List.getElem?_cons_zero, List.getElem?_cons_succ] at r0 t0
  clear bX bY
  go_enter Try.func37, Try.ntmps37
  go_upto_region 1 with fail
  generalize (w.alloc (.cells (enI xd xn xf xt) 51)).alloc (.cells (enI yd yn yf yt) 51) = w1 at *
  go_wp2_with fail
  refine (compareE_calls xn yn _).mono ?_
  rintro e w4 ⟨rfl, rfl⟩
  go_wp2_with fail
  go_ret
  exact ⟨rfl, HB.out⟩
set_option maxRecDepth 100000 in
set_option maxHeartbeats 8000000 in
theorem byFrom_calls (xd xn xf xt yd yn yf yt : Int) (w : World) : Calls Try.prog 38 #[.agg (enI xd xn xf xt), .agg (enI yd yn yf yt)] w fun e w' => e = .returned (.int .i64 (sgT xf yf)) ∧ Below w.heap.size w w' := by
  have bX := (Blk.new w (enI xd xn xf xt) 51).alloc (.cells (enI yd yn yf yt) 51)
  have bY := Blk.new (w.alloc (.cells (enI xd xn xf xt) 51)) (enI yd yn yf yt) 51
  rw [World.size_alloc] at bY
  have HB := Lib.hid (((Below.refl w.heap.size w).alloc (Nat.le_refl _) (.cells (enI xd xn xf xt) 51)).alloc (by rw [World.size_alloc]; omega) (.cells (enI yd yn yf yt) 51))
  have r0 := bX.cell 2
  have t0 := bY.cell 2
  simp only [List.getElem?_toArray, List.getElem?_cons_zero, List.getElem?_cons_succ] at r0 t0
  clear bX bY
  go_enter Try.func38, Try.ntmps38
  go_upto_region 1 with fail
  generalize (w.alloc (.cells (enI xd xn xf xt) 51)).alloc (.cells (enI yd yn yf yt) 51) = w1 at *
  go_wp2_with fail
  refine (compareE_calls xf yf _).mono ?_
  rintro e w4 ⟨rfl, rfl⟩
  go_wp2_with fail
  go_ret
  exact ⟨rfl, HB.out⟩
set_option maxRecDepth 100000 in
set_option maxHeartbeats 8000000 in
theorem byTo_calls (xd xn xf xt yd yn yf yt : Int) (w : World) : Calls Try.prog 39 #[.agg (enI xd xn xf xt), .agg (enI yd yn yf yt)] w fun e w' => e = .returned (.int .i64 (sgT yt xt)) ∧ Below w.heap.size w w' := by
  have bX := (Blk.new w (enI xd xn xf xt) 51).alloc (.cells (enI yd yn yf yt) 51)
  have bY := Blk.new (w.alloc (.cells (enI xd xn xf xt) 51)) (enI yd yn yf yt) 51
  rw [World.size_alloc] at bY
  have HB := Lib.hid (((Below.refl w.heap.size w).alloc (Nat.le_refl _) (.cells (enI xd xn xf xt) 51)).alloc (by rw [World.size_alloc]; omega) (.cells (enI yd yn yf yt) 51))
  have r0 := bX.cell 3
  have t0 := bY.cell 3
  simp only [List.getElem?_toArray, List.getElem?_cons_zero, List.getElem?_cons_succ] at r0 t0
  clear bX bY
  go_enter Try.func39, Try.ntmps39
  go_upto_region 1 with fail
  generalize (w.alloc (.cells (enI xd xn xf xt) 51)).alloc (.cells (enI yd yn yf yt) 51) = w1 at *
  go_wp2_with fail
  refine (compareE_calls yt xt _).mono ?_
  rintro e w4 ⟨rfl, rfl⟩
  go_wp2_with fail
  go_ret
  exact ⟨rfl, HB.out⟩
theorem infoEt : (Try.prog.info? 51).map (·.size) = some 4 := by kernel_rfl
set_option maxRecDepth 100000 in
set_option maxHeartbeats 8000000 in
theorem atD_calls (l : List EnN) (hl : l.length ≤ 1000000) (i : Nat) (_hi : i ≤ 1000000) (a : Option Addr) (cap : Nat) (w : World) (h : EntsAt l a w) :
    Calls Try.prog 21 #[.slice a l.length cap, .int .i64 (i : Int)] w fun e w' => e = .returned (.agg (enA (atE l i))) ∧ Below w.heap.size w w' := by
  have hR := Blk.new w (enI 0 0 0 0) 51
  have hB0 : Below w.heap.size w (w.alloc (.cells (enI 0 0 0 0) 51)) := (Below.refl _ _).alloc (Nat.le_refl _) _
  by_cases hlt : i < l.length
  · obtain ⟨g, off, rfl, hg, hc⟩ := h (by rintro rfl; simp at hlt)
    have hd : decide ((l.length : Int) ≤ (i : Int)) = false := by rw [decide_eq_false_iff_not]; omega
    have hd2 : decide (l.length ≤ i) = false := by rw [decide_eq_false_iff_not]; omega
    have hii : (i : Int) < (l.length : Int) := by omega
    rw [atE_lt l i hlt]
    have d := fun (j : Nat) (hj : j < 4) => (hB0.cell (p := ⟨g, off + i * 4 + j, none⟩) hg).trans (hc i hlt j hj)
    have d0 := d 0 (by decide); have d1 := d 1 (by decide); have d2 := d 2 (by decide); have d3 := d 3 (by decide)
    simp only [enA, List.getElem?_toArray, List.getElem?_cons_zero, List.getElem?_cons_succ, Nat.add_zero] at d0 d1 d2 d3
    generalize l[i] = x at *
    obtain ⟨xd, xn, xf, xt⟩ := x
    simp only at d0 d1 d2 d3
    have HR3 := Lib.hid ((((hR.set 0 (.int .i64 xd)).set 1 (.int .i64 xn)).set 2 (.int .i64 xf)).set 3 (.int .i64 xt))
    have HB3 := Lib.hid (below_set (below_set (below_set (below_set hB0 (Nat.le_refl _) 0 (.int .i64 xd)) (Nat.le_refl _) 1 (.int .i64 xn)) (Nat.le_refl _) 2 (.int .i64 xf)) (Nat.le_refl _) 3 (.int .i64 xt))
    have r0 := hR.cell 0; have r1 := hR.cell 1; have r2 := hR.cell 2; have r3 := hR.cell 3
    have s0 := hR.frozen 0; have s1 := hR.frozen 1; have s2 := hR.frozen 2; have s3 := hR.frozen 3
    simp only [List.getElem?_toArray, List.getElem?_cons_zero, List.getElem?_cons_succ] at r0 r1 r2 r3
    clear d hc h hR hB0 hg
    go_enter Try.func21, Try.ntmps21
    go_upto_region 1 with fail
    generalize w.alloc (.cells (enI 0 0 0 0) 51) = w1 at *
    go_wp2_with fail
    exact bodyPost_ret (v := .agg (enI xd xn xf xt)) (results_cell_row rfl _ _ w.heap.size 51 (enI xd xn xf xt) (0, 0) _ rfl HR3.out Try.underlying51 rfl infoEt) rfl ⟨rfl, HB3.out⟩
  · have hd : decide ((l.length : Int) ≤ (i : Int)) = true := by rw [decide_eq_true_iff]; omega
    have hd2 : decide (l.length ≤ i) = true := by rw [decide_eq_true_iff]; omega
    rw [atE_ge l i (by omega)]
    have HR3 := Lib.hid ((((hR.set 0 (.int .i64 0)).set 1 (.int .i64 0)).set 2 (.int .i64 0)).set 3 (.int .i64 0))
    have HB3 := Lib.hid (below_set (below_set (below_set (below_set hB0 (Nat.le_refl _) 0 (.int .i64 0)) (Nat.le_refl _) 1 (.int .i64 0)) (Nat.le_refl _) 2 (.int .i64 0)) (Nat.le_refl _) 3 (.int .i64 0))
    have r0 := hR.cell 0; have r1 := hR.cell 1; have r2 := hR.cell 2; have r3 := hR.cell 3
    have s0 := hR.frozen 0; have s1 := hR.frozen 1; have s2 := hR.frozen 2; have s3 := hR.frozen 3
    simp only [List.getElem?_toArray, List.getElem?_cons_zero, List.getElem?_cons_succ] at r0 r1 r2 r3
    clear h hR hB0
    go_enter Try.func21, Try.ntmps21
    go_upto_region 1 with fail
    generalize w.alloc (.cells (enI 0 0 0 0) 51) = w1 at *
    go_wp2_with fail
    exact bodyPost_ret (v := .agg (enI 0 0 0 0)) (results_cell_row rfl _ _ w.heap.size 51 (enI 0 0 0 0) (0, 0) _ rfl HR3.out Try.underlying51 rfl infoEt) rfl ⟨rfl, HB3.out⟩
theorem ixR_0 (w : World) : (Instr.index 72 (.agg #[.func (.func 36) #[] #[], .func (.func 37) #[] #[], .func (.func 38) #[] #[], .func (.func 39) #[] #[]]) (.int .i64 0)).run Try.prog w = .ok (.func (.func 36) #[] #[]) w := by kernel_rfl
theorem ixR_1 (w : World) : (Instr.index 72 (.agg #[.func (.func 36) #[] #[], .func (.func 37) #[] #[], .func (.func 38) #[] #[], .func (.func 39) #[] #[]]) (.int .i64 1)).run Try.prog w = .ok (.func (.func 37) #[] #[]) w := by kernel_rfl
theorem ixR_2 (w : World) : (Instr.index 72 (.agg #[.func (.func 36) #[] #[], .func (.func 37) #[] #[], .func (.func 38) #[] #[], .func (.func 39) #[] #[]]) (.int .i64 2)).run Try.prog w = .ok (.func (.func 38) #[] #[]) w := by kernel_rfl
theorem ixR_3 (w : World) : (Instr.index 72 (.agg #[.func (.func 36) #[] #[], .func (.func 37) #[] #[], .func (.func 38) #[] #[], .func (.func 39) #[] #[]]) (.int .i64 3)).run Try.prog w = .ok (.func (.func 39) #[] #[]) w := by kernel_rfl
set_option maxRecDepth 100000 in
set_option maxHeartbeats 16000000 in
theorem against_calls (xd xn xf xt yd yn yf yt : Int) (w : World) : Calls Try.prog 22 #[.agg (enI xd xn xf xt), .agg (enI yd yn yf yt)] w fun e w' => e = .returned (.int .i64 (cmpE ⟨xd, xn, xf, xt⟩ ⟨yd, yn, yf, yt⟩)) ∧ Below w.heap.size w w' := by
  have HOC := Lib.hid (or_cmp xd xn xf xt yd yn yf yt)
  have bX := (Blk.new w (enI xd xn xf xt) 51).alloc (.cells (enI yd yn yf yt) 51)
  have bY := Blk.new (w.alloc (.cells (enI xd xn xf xt) 51)) (enI yd yn yf yt) 51
  rw [World.size_alloc] at bY
  have HB := Lib.hid (((Below.refl w.heap.size w).alloc (Nat.le_refl _) (.cells (enI xd xn xf xt) 51)).alloc (by rw [World.size_alloc]; omega) (.cells (enI yd yn yf yt) 51))
  have hz : ((w.alloc (.cells (enI xd xn xf xt) 51)).alloc (.cells (enI yd yn yf yt) 51)).heap.size = w.heap.size + 2 := by rw [World.size_alloc, World.size_alloc]
  have HX := Lib.hid bX
  have HY := Lib.hid bY
  clear bX bY
  obtain ⟨R1, hR1⟩ : ∃ R, R = orT 0 (sgT yd xd) := ⟨_, rfl⟩
  obtain ⟨R2, hR2⟩ : ∃ R, R = orT R1 (sgT xn yn) := ⟨_, rfl⟩
  obtain ⟨R3, hR3⟩ : ∃ R, R = orT R2 (sgT xf yf) := ⟨_, rfl⟩
  obtain ⟨R4, hR4⟩ : ∃ R, R = orT R3 (sgT yt xt) := ⟨_, rfl⟩
  rw [← hR1, ← hR2, ← hR3, ← hR4] at HOC
  rw [← HOC.out]
  clear HOC
  have HR1 := Lib.hid hR1; have HR2 := Lib.hid hR2; have HR3 := Lib.hid hR3; have HR4 := Lib.hid hR4
  clear hR1 hR2 hR3 hR4
  go_enter Try.func22, Try.ntmps22
  go_upto_region 1 with fail
  generalize (w.alloc (.cells (enI xd xn xf xt) 51)).alloc (.cells (enI yd yn yf yt) 51) = w0 at *
  go_wp2_with fail
  go_loopw [5, 9] (fun v vi wr => Below w0.heap.size w0 wr ∧ ((vi = .int .i64 0 ∧ v = .int .i64 0) ∨ (vi = .int .i64 1 ∧ v = .int .i64 R1) ∨ (vi = .int .i64 2 ∧ v = .int .i64 R2) ∨ (vi = .int .i64 3 ∧ v = .int .i64 R3) ∨ (vi = .int .i64 4 ∧ v = .int .i64 R4))) (fun _ vi _ => 5 - (intOf vi).toNat)
  case atStart => exact ⟨Below.refl _ _, .inl ⟨rfl, rfl⟩⟩
  case round =>
    obtain ⟨hb, hv⟩ := hrel
    have hX2 := HX.out.below hb (by have := HX.out.lt; omega)
    have hY2 := HY.out.below hb (by have := HY.out.lt; omega)
    have r0 := hX2.cell 0; have r1 := hX2.cell 1; have r2 := hX2.cell 2; have r3 := hX2.cell 3
    have t0 := hY2.cell 0; have t1 := hY2.cell 1; have t2 := hY2.cell 2; have t3 := hY2.cell 3
    simp only [List.getElem?_toArray, List.getElem?_cons_zero, List.getElem?_cons_succ] at r0 r1 r2 r3 t0 t1 t2 t3
    have HBR := Lib.hid hb
    clear hb hX2 hY2 HX HY
    rcases hv with ⟨rfl, rfl⟩ | ⟨rfl, rfl⟩ | ⟨rfl, rfl⟩ | ⟨rfl, rfl⟩ | ⟨rfl, rfl⟩
    · have hix := ixR_0
      go_wp2_with fail
      refine (byDepth_calls xd xn xf xt yd yn yf yt _).mono ?_
      rintro e w2 ⟨rfl, hb2⟩
      have HB2 := Lib.hid (HBR.out.trans (hb2.mono HBR.out.size))
      have HBA := Lib.hid (HB2.out.alloc HB2.out.size (.cells #[.int .i64 0, .int .i64 (sgT yd xd)] 3))
      have nB := Blk.new w2 #[.int .i64 0, .int .i64 (sgT yd xd)] 3
      have n0 := nB.cell 0; have n1 := nB.cell 1
      simp only [List.getElem?_toArray, List.getElem?_cons_zero, List.getElem?_cons_succ] at n0 n1
      clear hb2 nB
      go_wp2_with fail
      refine (orE_calls 0 (sgT yd xd) _ _ n0 n1).mono ?_
      rintro e w3 ⟨rfl, rfl⟩
      go_wp2_with fail
      go_roundw
      case rel => exact ⟨HBA.out, by first | exact .inr (.inl ⟨rfl, by rw [HR1.out]; rfl⟩) | exact .inr (.inr (.inl ⟨rfl, by rw [HR2.out]; rfl⟩)) | exact .inr (.inr (.inr (.inl ⟨rfl, by rw [HR3.out]; rfl⟩))) | exact .inr (.inr (.inr (.inr ⟨rfl, by rw [HR4.out]; rfl⟩)))⟩
      case measure => decide
    · have hix := ixR_1
      go_wp2_with fail
      refine (byNode_calls xd xn xf xt yd yn yf yt _).mono ?_
      rintro e w2 ⟨rfl, hb2⟩
      have HB2 := Lib.hid (HBR.out.trans (hb2.mono HBR.out.size))
      have HBA := Lib.hid (HB2.out.alloc HB2.out.size (.cells #[.int .i64 R1, .int .i64 (sgT xn yn)] 3))
      have nB := Blk.new w2 #[.int .i64 R1, .int .i64 (sgT xn yn)] 3
      have n0 := nB.cell 0; have n1 := nB.cell 1
      simp only [List.getElem?_toArray, List.getElem?_cons_zero, List.getElem?_cons_succ] at n0 n1
      clear hb2 nB
      go_wp2_with fail
      refine (orE_calls R1 (sgT xn yn) _ _ n0 n1).mono ?_
      rintro e w3 ⟨rfl, rfl⟩
      go_wp2_with fail
      go_roundw
      case rel => exact ⟨HBA.out, by first | exact .inr (.inl ⟨rfl, by rw [HR1.out]; rfl⟩) | exact .inr (.inr (.inl ⟨rfl, by rw [HR2.out]; rfl⟩)) | exact .inr (.inr (.inr (.inl ⟨rfl, by rw [HR3.out]; rfl⟩))) | exact .inr (.inr (.inr (.inr ⟨rfl, by rw [HR4.out]; rfl⟩)))⟩
      case measure => decide
    · have hix := ixR_2
      go_wp2_with fail
      refine (byFrom_calls xd xn xf xt yd yn yf yt _).mono ?_
      rintro e w2 ⟨rfl, hb2⟩
      have HB2 := Lib.hid (HBR.out.trans (hb2.mono HBR.out.size))
      have HBA := Lib.hid (HB2.out.alloc HB2.out.size (.cells #[.int .i64 R2, .int .i64 (sgT xf yf)] 3))
      have nB := Blk.new w2 #[.int .i64 R2, .int .i64 (sgT xf yf)] 3
      have n0 := nB.cell 0; have n1 := nB.cell 1
      simp only [List.getElem?_toArray, List.getElem?_cons_zero, List.getElem?_cons_succ] at n0 n1
      clear hb2 nB
      go_wp2_with fail
      refine (orE_calls R2 (sgT xf yf) _ _ n0 n1).mono ?_
      rintro e w3 ⟨rfl, rfl⟩
      go_wp2_with fail
      go_roundw
      case rel => exact ⟨HBA.out, by first | exact .inr (.inl ⟨rfl, by rw [HR1.out]; rfl⟩) | exact .inr (.inr (.inl ⟨rfl, by rw [HR2.out]; rfl⟩)) | exact .inr (.inr (.inr (.inl ⟨rfl, by rw [HR3.out]; rfl⟩))) | exact .inr (.inr (.inr (.inr ⟨rfl, by rw [HR4.out]; rfl⟩)))⟩
      case measure => decide
    · have hix := ixR_3
      go_wp2_with fail
      refine (byTo_calls xd xn xf xt yd yn yf yt _).mono ?_
      rintro e w2 ⟨rfl, hb2⟩
      have HB2 := Lib.hid (HBR.out.trans (hb2.mono HBR.out.size))
      have HBA := Lib.hid (HB2.out.alloc HB2.out.size (.cells #[.int .i64 R3, .int .i64 (sgT yt xt)] 3))
      have nB := Blk.new w2 #[.int .i64 R3, .int .i64 (sgT yt xt)] 3
      have n0 := nB.cell 0; have n1 := nB.cell 1
      simp only [List.getElem?_toArray, List.getElem?_cons_zero, List.getElem?_cons_succ] at n0 n1
      clear hb2 nB
      go_wp2_with fail
      refine (orE_calls R3 (sgT yt xt) _ _ n0 n1).mono ?_
      rintro e w3 ⟨rfl, rfl⟩
      go_wp2_with fail
      go_roundw
      case rel => exact ⟨HBA.out, by first | exact .inr (.inl ⟨rfl, by rw [HR1.out]; rfl⟩) | exact .inr (.inr (.inl ⟨rfl, by rw [HR2.out]; rfl⟩)) | exact .inr (.inr (.inr (.inl ⟨rfl, by rw [HR3.out]; rfl⟩))) | exact .inr (.inr (.inr (.inr ⟨rfl, by rw [HR4.out]; rfl⟩)))⟩
      case measure => decide
    · go_wp2_with fail
      go_ret
      exact ⟨rfl, HB.out.trans (HBR.out.mono (by omega))⟩
set_option maxRecDepth 100000 in
set_option maxHeartbeats 2000000 in
theorem neE (xd xn xf xt yd yn yf yt : Int) (w : World) :
    (Op.equalIn 10000 51 (.agg (enI xd xn xf xt)) (.agg (enI yd yn yf yt))).run Try.prog w = .ok (decide (xd = yd ∧ xn = yn ∧ xf = yf ∧ xt = yt)) w := by
  go_simp
  by_cases h1 : xd = yd <;> by_cases h2 : xn = yn <;> by_cases h3 : xf = yf <;> by_cases h4 : xt = yt <;> simp [h1, h2, h3, h4]
set_option maxRecDepth 100000 in
set_option maxHeartbeats 16000000 in
theorem aheadD_calls (a b : List EnN) (ha : a.length ≤ 100000) (hb : b.length ≤ 100000) (ad bd : Option Addr) (ca cb : Nat) (w : World) (h : EntsAt a ad w) (k : EntsAt b bd w) :
    Calls Try.prog 8 #[.slice ad a.length ca, .slice bd b.length cb] w fun e w' => e = .returned (.int .i64 (aheadT a b)) ∧ Below w.heap.size w w' := by
  have HA := Lib.hid (fun (i : Nat) (hi : i ≤ 1000000) W (hW : Below w.heap.size w W) => atD_calls a (by omega) i hi ad ca W (h.below hW))
  have HBB := Lib.hid (fun (i : Nat) (hi : i ≤ 1000000) W (hW : Below w.heap.size w W) => atD_calls b (by omega) i hi bd cb W (k.below hW))
  obtain ⟨N, hN⟩ : ∃ N, N = max a.length b.length := ⟨_, rfl⟩
  have HR := Lib.hid (show lexU (atE a) (atE b) (N - 0) 0 = aheadT a b by rw [hN]; rfl)
  have HST := Lib.hid (lex_step (atE a) (atE b))
  have hN1 : N ≤ 100000 := by omega
  have hm1 : max (a.length : Int) (b.length : Int) = (N : Int) := by omega
  have HZ : ∃ LU, LU = lexU (atE a) (atE b) ∧ ∀ i, LU 0 i = 0 := ⟨_, rfl, fun _ => rfl⟩
  obtain ⟨LU, hLU, hz⟩ := HZ
  rw [← hLU] at HR HST
  have HZ := Lib.hid hz
  clear hz
  clear h k hLU
  generalize aheadT a b = R at *
  generalize atE a = fa at *
  generalize atE b = fb at *
  go_enter Try.func8, Try.ntmps8
  go_upto_region 1 with fail
  go_cut [12, 13] from 8 to 13 (fun v u wx => v = .int .i64 N ∧ u = .int .i64 0 ∧ w = wx)
  case first =>
    go_wp2_with fail
    all_goals
      go_meet
      exact ⟨by congr 1; omega, rfl, rfl⟩
  case rest =>
  obtain ⟨rfl, rfl, rfl⟩ := hcut
  clear hN hm1
  go_wp2_with fail
  go_loopw [13] (fun vi wr => ∃ i : Nat, i ≤ N ∧ vi = .int .i64 i ∧ LU (N - i) i = R ∧ Below w.heap.size w wr) (fun vi _ => N - (intOf vi).toNat)
  case atStart => exact ⟨0, Nat.zero_le _, rfl, HR.out, Below.refl _ _⟩
  case round =>
    clear HR
    obtain ⟨i, hi, rfl, hres, hB⟩ := hrel
    by_cases hlt : i < N
    · have xi : IntKind.i64.wrap ((i : Int) + 1) = (i : Int) + 1 := IntWalk.i64_in _ (by omega)
      have p1 : decide ((i : Int) < (N : Int)) = true := by rw [decide_eq_true_iff]; omega
      have p2 : decide (i < N) = true := decide_eq_true hlt
      have hst := HST.out (N - i - 1) i
      rw [show N - i - 1 + 1 = N - i by omega, hres, show N - i - 1 = N - (i + 1) by omega] at hst
      have HST1 := Lib.hid hst
      have HB := Lib.hid hB
      clear hst hres hB
      have hx := HA.out i (by omega)
      have hy := HBB.out i (by omega)
      generalize fa i = x at *
      generalize fb i = y at *
      obtain ⟨xd, xn, xf, xt⟩ := x
      obtain ⟨yd, yn, yf, yt⟩ := y
      simp only [enA] at hx hy
      have HX := Lib.hid hx
      have HY := Lib.hid hy
      clear hx hy
      go_wp2_with fail
      refine (HX.out _ HB.out).mono ?_
      rintro e w1 ⟨rfl, hb1⟩
      have HB1 := Lib.hid (HB.out.trans (hb1.mono HB.out.size))
      clear hb1
      go_wp2_with fail
      refine (HY.out _ HB1.out).mono ?_
      rintro e w2 ⟨rfl, hb2⟩
      have HB2 := Lib.hid (HB1.out.trans (hb2.mono HB1.out.size))
      clear hb2
      have bX := (Blk.new w2 (enI xd xn xf xt) 51).alloc (.cells (enI yd yn yf yt) 51)
      have bY := Blk.new (w2.alloc (.cells (enI xd xn xf xt) 51)) (enI yd yn yf yt) 51
      rw [World.size_alloc] at bY
      have HB3 := Lib.hid ((HB2.out.alloc HB2.out.size (.cells (enI xd xn xf xt) 51)).alloc (by rw [World.size_alloc]; have := HB2.out.size; omega) (.cells (enI yd yn yf yt) 51))
      have r0 := bX.cell 0; have r1 := bX.cell 1; have r2 := bX.cell 2; have r3 := bX.cell 3
      have t0 := bY.cell 0; have t1 := bY.cell 1; have t2 := bY.cell 2; have t3 := bY.cell 3
      simp only [List.getElem?_toArray, List.getElem?_cons_zero, List.getElem?_cons_succ] at r0 r1 r2 r3 t0 t1 t2 t3
      clear bX bY
      go_upto_region 5 with fail
      generalize (w2.alloc (.cells (enI xd xn xf xt) 51)).alloc (.cells (enI yd yn yf yt) 51) = w3 at *
      clear HX HY HB HB1 HB2
      have heq := neE xd xn xf xt yd yn yf yt
      by_cases hne : xd = yd ∧ xn = yn ∧ xf = yf ∧ xt = yt
      · rw [decide_eq_true hne] at heq
        have HRR := Lib.hid (show LU (N - (i + 1)) (i + 1) = R from by have h9 := HST1.out; rw [if_pos ((cmpE_zero _ _).2 (by rw [hne.1, hne.2.1, hne.2.2.1, hne.2.2.2]))] at h9; exact h9.symm)
        clear HST1 hne
        go_wp2_with fail
        go_roundw
        case rel => exact ⟨i + 1, by omega, by simp, HRR.out, HB3.out⟩
        case measure => simp [intOf]; omega
      · rw [decide_eq_false hne] at heq
        have HRR := Lib.hid (show R = cmpE ⟨xd, xn, xf, xt⟩ ⟨yd, yn, yf, yt⟩ from by have h9 := HST1.out; rw [if_neg (fun h8 => hne (by have := (cmpE_zero _ _).1 h8; simp only [EnN.mk.injEq] at this; exact this))] at h9; exact h9)
        clear HST1 hne
        go_wp2_with fail
        refine (against_calls xd xn xf xt yd yn yf yt _).mono ?_
        rintro e w4 ⟨rfl, hb4⟩
        have HB4 := Lib.hid (HB3.out.trans (hb4.mono HB3.out.size))
        clear hb4
        go_wp2_with fail
        go_ret
        exact ⟨by rw [HRR.out] <;> rfl, HB4.out⟩
    · obtain rfl : i = N := by omega
      rw [Nat.sub_self, HZ.out] at hres
      have HRES := Lib.hid hres
      have HB := Lib.hid hB
      clear hres hB
      go_wp2_with fail
      go_ret
      exact ⟨by rw [← HRES.out] <;> rfl, HB.out⟩
end Go.Proofs.Ytooolhekihijlaa

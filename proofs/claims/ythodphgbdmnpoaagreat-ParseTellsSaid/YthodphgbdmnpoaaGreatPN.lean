/- Texts put together: Me Mi Wq. -/
import Derived.Test.YthodphgbdmnpoaaGreatPM
import Derived.Test.YthodphgbdmnpoaaGreatPC
import Derived.Test.YthodphgbdmnpoaaGreatPK
/- The developers' counts: read. -/
namespace Go.Proofs.YthodphgbdmnpoaaGreat
open Go.RowKit

def SRe (w : World) (B : Nat) (c n m : Int) (W : World) : Prop := (Blk W w.heap.size (rdI 0 0 0 eT 0) 133 ∧ Blk W B #[.int .u8 c, .int .i64 n, .int .i64 m] 137 ∧ w.heap.size + 1 ≤ B) ∧ Below w.heap.size w W
theorem SRe.drewS {w W : World} {B : Nat} {c n m : Int} (h : SRe w B c n m W) : SRe w B c n m W.drew := ⟨⟨h.1.1, h.1.2.1, h.1.2.2⟩, h.2.drew⟩

set_option maxRecDepth 100000 in
set_option maxHeartbeats 16000000 in
theorem readD4_calls (s : ByteArray) (hs : s.size ≤ 1000000) (at' : Int) (w : World) :
    Calls Tryz.prog 91 #[.string s, .int .i64 at'] w fun en w' => en = .returned (.agg (rdA (readD4 s at'))) ∧ Below w.heap.size w w' := by
  have HR := Lib.hid (Blk.new w (rdI 0 0 0 eT 0) 133)
  have HB : Hid (Below w.heap.size w (w.alloc (.cells (rdI 0 0 0 eT 0) 133))) := Lib.hid (by go_grown)
  have hz : w.heap.size + 1 ≤ (w.alloc (.cells (rdI 0 0 0 eT 0) 133)).heap.size := by simp
  have HFA := Lib.hid (faultD_calls 1 0)
  have HSG := Lib.hid signs_calls
  have hg : readD4 s at' = readD4 s at' := rfl
  conv at hg => rhs; unfold readD4
  by_cases hat : at' < 0 ∨ (s.size : Int) ≤ at'
  · rw [if_pos hat] at hg
    generalize readD4 s at' = Y at *
    have HRES := Lib.hid hg
    clear hg
    by_cases h0 : at' < 0
    · have q0 : decide (at' < 0) = true := by simpa using h0
      clear hat h0
      go_enter Tryz.func91, Tryz.ntmps91
      go_upto_region 1 with fail
      have e0 : w.alloc (.cells #[.int .i64 0, .int .i64 0, .int .i64 0, .string ⟨#[]⟩, .int .i64 0] 133) = w.alloc (.cells (rdI 0 0 0 eT 0) 133) := rfl
      try rw [e0]
      clear e0
      generalize w.alloc (.cells (rdI 0 0 0 eT 0) 133) = w1 at *
      go_wp2_with fail
      refine (HFA.out _).mono ?_
      rintro en w4 ⟨rfl, hb⟩
      have HR2 := Lib.hid (HR.out.below hb (Blk.lt HR.out))
      have HB2 := Lib.hid (HB.out.trans (hb.mono (by omega)))
      have hz2 := Nat.le_trans hz hb.size
      clear HR HB hz hb
      have HR := HR2
      have HB := HB2
      have hz := hz2
      clear HR2 HB2 hz2
      go_wp2_with ((with_reducible refine wpList_store_st (o := ⟨none, .store 133 _ _, _, _, _, _⟩) rfl 133 _ _ rfl w.heap.size rfl rfl (run_storeAt_row _ w.heap.size 133 133 (rdI 0 0 0 eT 0) (rdI 0 0 0 eT 1) ?_ ?_ ?_ ?_) ?_); exact HR.out; exact infoRd; rfl; exact rdC_one _ _ _ _ _)
      exact bodyPost_ret (v := .agg (rdI 0 0 0 eT 1)) (results_cell_row rfl _ _ w.heap.size 133 (rdI 0 0 0 eT 1) (0, 0) _ rfl (Blk.setRow HR.out) Tryz.underlying133 rfl infoRd) rfl ⟨by rw [HRES.out] <;> rfl, below_row HB.out (by omega) _⟩
    · have q0 : decide (at' < 0) = false := by simpa using h0
      have q1 : decide ((s.size : Int) ≤ at') = true := by rw [decide_eq_true_iff]; omega
      clear hat
      go_enter Tryz.func91, Tryz.ntmps91
      go_upto_region 1 with fail
      have e0 : w.alloc (.cells #[.int .i64 0, .int .i64 0, .int .i64 0, .string ⟨#[]⟩, .int .i64 0] 133) = w.alloc (.cells (rdI 0 0 0 eT 0) 133) := rfl
      try rw [e0]
      clear e0
      generalize w.alloc (.cells (rdI 0 0 0 eT 0) 133) = w1 at *
      go_wp2_with fail
      refine (HFA.out _).mono ?_
      rintro en w4 ⟨rfl, hb⟩
      have HR2 := Lib.hid (HR.out.below hb (Blk.lt HR.out))
      have HB2 := Lib.hid (HB.out.trans (hb.mono (by omega)))
      have hz2 := Nat.le_trans hz hb.size
      clear HR HB hz hb
      have HR := HR2
      have HB := HB2
      have hz := hz2
      clear HR2 HB2 hz2
      go_wp2_with ((with_reducible refine wpList_store_st (o := ⟨none, .store 133 _ _, _, _, _, _⟩) rfl 133 _ _ rfl w.heap.size rfl rfl (run_storeAt_row _ w.heap.size 133 133 (rdI 0 0 0 eT 0) (rdI 0 0 0 eT 1) ?_ ?_ ?_ ?_) ?_); exact HR.out; exact infoRd; rfl; exact rdC_one _ _ _ _ _)
      exact bodyPost_ret (v := .agg (rdI 0 0 0 eT 1)) (results_cell_row rfl _ _ w.heap.size 133 (rdI 0 0 0 eT 1) (0, 0) _ rfl (Blk.setRow HR.out) Tryz.underlying133 rfl infoRd) rfl ⟨by rw [HRES.out] <;> rfl, below_row HB.out (by omega) _⟩
  rw [if_neg hat] at hg
  obtain ⟨a, rfl⟩ : ∃ a : Nat, at' = a := ⟨at'.toNat, by omega⟩
  rw [show (a : Int).toNat = a from rfl] at hg
  have hlt : a < s.size := by omega
  clear hat
  have b0 : s[a].toNat = bt s a := (bt_eq s a hlt).symm
  by_cases h123 : bt s a = 123
  · rw [if_pos h123] at hg
    generalize readD4 s a = Y at *
    rw [h123] at b0
    have hC := bracesD_calls s hs (a + 1) (by omega)
    generalize bracesD s (a + 1) = Z at *
    obtain ⟨zn, zm, zp, zl, ze⟩ := Z
    have HRES := Lib.hid hg
    clear hg HFA h123
    have HFA : Hid (∀ w, Calls Tryz.prog 93 #[.string s, .int .i64 ((a : Int) + 1)] w fun en w' => en = .returned (.agg (rdI zn zm zp (ofT zl) ze)) ∧ Below w.heap.size w w') := Lib.hid hC
    clear hC
    go_enter Tryz.func91, Tryz.ntmps91
    go_upto_region 1 with fail
    have e0 : w.alloc (.cells #[.int .i64 0, .int .i64 0, .int .i64 0, .string ⟨#[]⟩, .int .i64 0] 133) = w.alloc (.cells (rdI 0 0 0 eT 0) 133) := rfl
    try rw [e0]
    clear e0
    generalize w.alloc (.cells (rdI 0 0 0 eT 0) 133) = w1 at *
    go_wp2_with fail
    refine (HFA.out _).mono ?_
    rintro en w4 ⟨rfl, hb⟩
    have HR2 := Lib.hid (HR.out.below hb (Blk.lt HR.out))
    have HB2 := Lib.hid (HB.out.trans (hb.mono (by omega)))
    have hz2 := Nat.le_trans hz hb.size
    clear HR HB hz hb
    have HR := HR2
    have HB := HB2
    have hz := hz2
    clear HR2 HB2 hz2
    go_wp2_with ((with_reducible refine wpList_store_st (o := ⟨none, .store 133 _ _, _, _, _, _⟩) rfl 133 _ _ rfl w.heap.size rfl rfl (run_storeAt_row _ w.heap.size 133 133 (rdI 0 0 0 eT 0) (rdI zn zm zp (ofT zl) ze) ?_ ?_ ?_ ?_) ?_); exact HR.out; exact infoRd; rfl; exact rdC_one _ _ _ _ _)
    exact bodyPost_ret (v := .agg (rdI zn zm zp (ofT zl) ze)) (results_cell_row rfl _ _ w.heap.size 133 (rdI zn zm zp (ofT zl) ze) (0, 0) _ rfl (Blk.setRow HR.out) Tryz.underlying133 rfl infoRd) rfl ⟨by rw [HRES.out] <;> rfl, below_row HB.out (by omega) _⟩
  rw [if_neg h123] at hg
  have hb256 := bt_lt s a
  generalize bt s a = b at *
  have q123 : ((b : Int) == 123) = false := by rw [beq_eq_false_iff_ne]; omega
  generalize readD4 s a = Y at *
  have HG := Lib.hid hg
  clear hg h123
  go_enter Tryz.func91, Tryz.ntmps91
  go_upto_region 1 with fail
  have e0 : w.alloc (.cells #[.int .i64 0, .int .i64 0, .int .i64 0, .string ⟨#[]⟩, .int .i64 0] 133) = w.alloc (.cells (rdI 0 0 0 eT 0) 133) := rfl
  try rw [e0]
  clear e0
  generalize w.alloc (.cells (rdI 0 0 0 eT 0) 133) = w1 at *
  go_wp2_with fail
  refine (HSG.out _).mono ?_
  rintro en w4 ⟨rfl, hb⟩
  have HR2 := Lib.hid (HR.out.below hb (Blk.lt HR.out))
  have HB2 := Lib.hid (HB.out.trans (hb.mono (by omega)))
  have hz2 := Nat.le_trans hz hb.size
  clear HR HB hz hb
  have HR := HR2
  have HB := HB2
  have hz := hz2
  clear HR2 HB2 hz2
  clear HSG q123
  go_wp2_with fail
  go_loopw [25] (fun x wr => ∃ k : Nat, k ≤ 3 ∧ x = .int .i64 k ∧ (1 ≤ k → b ≠ 42) ∧ (2 ≤ k → b ≠ 43) ∧ (3 ≤ k → b ≠ 63) ∧ Blk wr w.heap.size (rdI 0 0 0 eT 0) 133 ∧ Below w.heap.size w wr ∧ w.heap.size + 1 ≤ wr.heap.size) (fun x _ => 3 - (intOf x).toNat)
  case atStart => exact ⟨0, by omega, rfl, fun h => by omega, fun h => by omega, fun h => by omega, HR.out, HB.out, hz⟩
  case round =>
    clear HR HB hz
    obtain ⟨k, hk, rfl, k1, k2, k3, hR, hB, hz⟩ := hrel
    have HR := Lib.hid hR
    have HB := Lib.hid hB
    clear hR hB
    rcases (by omega : k = 0 ∨ k = 1 ∨ k = 2 ∨ k = 3) with rfl | rfl | rfl | rfl
    · have h0 : SRe w wr.heap.size 42 0 (-1) (wr.alloc (.cells #[.int .u8 42, .int .i64 0, .int .i64 (-1)] 137)) := ⟨⟨HR.out.alloc _, Blk.new wr _ _, hz⟩, HB.out.alloc (by omega) _⟩
      have hz2 : w.heap.size + 1 ≤ (wr.alloc (.cells #[.int .u8 42, .int .i64 0, .int .i64 (-1)] 137)).heap.size := by simp; omega
      clear HR HB
      have hix : ∀ w', (Instr.index 138 (.agg sgI) (.int .i64 0)).run Tryz.prog w' = .ok (.agg #[.int .u8 42, .int .i64 0, .int .i64 (-1)]) w' := fun w' => by kernel_rfl
      go_wp2_with fail
      clear hix
      generalize wr.alloc (.cells #[.int .u8 42, .int .i64 0, .int .i64 (-1)] 137) = w5 at *
      generalize wr.heap.size = B at *
      refine region_steps (S := SRe w B 42 0 (-1)) (by kernel_rfl) h0.drewS ?_
      clear h0 hz2
      simp only [List.size_toArray, List.length_cons, List.length_nil, Nat.reduceAdd, Array.replicate_succ, Array.replicate_zero, List.push_toArray, List.nil_append, List.cons_append]
      refine AnyS.next (i := 0) (d := some 28) (v := .pointer (some ⟨B, 0, none⟩)) rfl rfl (by kernel_rfl) (by kernel_rfl) (by kernel_rfl) (StepsIf.yield (by kernel_rfl) (fun w' hS => by clear hS; go_simp)) ?_
      intro a' ha'
      simp only [Act.put, List.setIfInBounds_toArray, List.set_cons_zero, List.set_cons_succ] at ha'
      subst ha'
      refine AnyS.next (i := 1) (d := some 29) (v := .int .u8 42) rfl rfl (by kernel_rfl) (by kernel_rfl) (by kernel_rfl) (StepsIf.yield (by kernel_rfl) (fun w' hS => by have c0 := hS.1.2.1.cell 0; simp only [List.getElem?_toArray, List.getElem?_cons_zero] at c0; clear hS; go_simp)) ?_
      intro a' ha'
      simp only [Act.put, List.setIfInBounds_toArray, List.set_cons_zero, List.set_cons_succ] at ha'
      subst ha'
      refine AnyS.next (i := 2) (d := some 30) (v := .string s) rfl rfl (by kernel_rfl) (by kernel_rfl) (by kernel_rfl) (StepsIf.yield (by kernel_rfl) (fun w' hS => by clear hS; go_simp)) ?_
      intro a' ha'
      simp only [Act.put, List.setIfInBounds_toArray, List.set_cons_zero, List.set_cons_succ] at ha'
      subst ha'
      refine AnyS.next (i := 3) (d := some 31) (v := .int .i64 a) rfl rfl (by kernel_rfl) (by kernel_rfl) (by kernel_rfl) (StepsIf.yield (by kernel_rfl) (fun w' hS => by clear hS; go_simp)) ?_
      intro a' ha'
      simp only [Act.put, List.setIfInBounds_toArray, List.set_cons_zero, List.set_cons_succ] at ha'
      subst ha'
      refine AnyS.next (i := 4) (d := some 32) (v := .int .u8 b) rfl rfl (by kernel_rfl) (by kernel_rfl) (by kernel_rfl) (StepsIf.yield (by kernel_rfl) (fun w' hS => by clear hS; go_simp)) ?_
      intro a' ha'
      simp only [Act.put, List.setIfInBounds_toArray, List.set_cons_zero, List.set_cons_succ] at ha'
      subst ha'
      refine AnyS.next (i := 5) (d := some 33) (v := .bool ((42 : Int) == (b : Int))) rfl rfl (by kernel_rfl) (by kernel_rfl) (by kernel_rfl) (StepsIf.yield (by kernel_rfl) (fun w' hS => by clear hS; go_simp)) ?_
      intro a' ha'
      simp only [Act.put, List.setIfInBounds_toArray, List.set_cons_zero, List.set_cons_succ] at ha'
      subst ha'
      refine AnyS.done (by kernel_rfl) (fun w6 hS => ?_) _
      have c1 := hS.1.2.1.cell 1; have c2 := hS.1.2.1.cell 2
      simp only [List.getElem?_toArray, List.getElem?_cons_zero, List.getElem?_cons_succ] at c1 c2
      have HR := Lib.hid hS.1.1
      have HB := Lib.hid hS.2
      have hz2 : w.heap.size + 1 ≤ w6.heap.size := by have := hS.1.2.1.lt; have := hS.1.2.2; omega
      clear hS
      by_cases hbb : b = 42
      · subst hbb
        have HRES := Lib.hid (show Y = okR 0 (-1) (a + 1) by rw [HG.out]; rfl)
        clear HG k1 k2 k3 hz
        go_wp2_with ((with_reducible refine wpList_store_st (o := ⟨none, .store 133 _ _, _, _, _, _⟩) rfl 133 _ _ rfl w.heap.size rfl rfl (run_storeAt_row _ w.heap.size 133 133 (rdI 0 0 0 eT 0) (rdI 0 (-1) ((a : Int) + 1) eT 0) ?_ ?_ ?_ ?_) ?_); exact HR.out; exact infoRd; rfl; exact rdC_one _ _ _ _ _)
        exact bodyPost_ret (v := .agg (rdI 0 (-1) ((a : Int) + 1) eT 0)) (results_cell_row rfl _ _ w.heap.size 133 (rdI 0 (-1) ((a : Int) + 1) eT 0) (0, 0) _ rfl (Blk.setRow HR.out) Tryz.underlying133 rfl infoRd) rfl ⟨by rw [HRES.out] <;> rfl, below_row HB.out (by omega) _⟩
      · have qb : ((42 : Int) == (b : Int)) = false := by rw [beq_eq_false_iff_ne]; omega
        clear c1 c2
        go_wp2_with fail
        go_roundw
        case rel => exact ⟨1, by omega, rfl, fun _ => by first | exact hbb | exact k1 (by omega), fun h => by first | omega | exact hbb | exact k2 (by omega), fun h => by first | omega | exact hbb, HR.out, HB.out, hz2⟩
        case measure => simp [intOf]
    · have h0 : SRe w wr.heap.size 43 1 (-1) (wr.alloc (.cells #[.int .u8 43, .int .i64 1, .int .i64 (-1)] 137)) := ⟨⟨HR.out.alloc _, Blk.new wr _ _, hz⟩, HB.out.alloc (by omega) _⟩
      have hz2 : w.heap.size + 1 ≤ (wr.alloc (.cells #[.int .u8 43, .int .i64 1, .int .i64 (-1)] 137)).heap.size := by simp; omega
      clear HR HB
      have hix : ∀ w', (Instr.index 138 (.agg sgI) (.int .i64 1)).run Tryz.prog w' = .ok (.agg #[.int .u8 43, .int .i64 1, .int .i64 (-1)]) w' := fun w' => by kernel_rfl
      go_wp2_with fail
      clear hix
      generalize wr.alloc (.cells #[.int .u8 43, .int .i64 1, .int .i64 (-1)] 137) = w5 at *
      generalize wr.heap.size = B at *
      refine region_steps (S := SRe w B 43 1 (-1)) (by kernel_rfl) h0.drewS ?_
      clear h0 hz2
      simp only [List.size_toArray, List.length_cons, List.length_nil, Nat.reduceAdd, Array.replicate_succ, Array.replicate_zero, List.push_toArray, List.nil_append, List.cons_append]
      refine AnyS.next (i := 0) (d := some 28) (v := .pointer (some ⟨B, 0, none⟩)) rfl rfl (by kernel_rfl) (by kernel_rfl) (by kernel_rfl) (StepsIf.yield (by kernel_rfl) (fun w' hS => by clear hS; go_simp)) ?_
      intro a' ha'
      simp only [Act.put, List.setIfInBounds_toArray, List.set_cons_zero, List.set_cons_succ] at ha'
      subst ha'
      refine AnyS.next (i := 1) (d := some 29) (v := .int .u8 43) rfl rfl (by kernel_rfl) (by kernel_rfl) (by kernel_rfl) (StepsIf.yield (by kernel_rfl) (fun w' hS => by have c0 := hS.1.2.1.cell 0; simp only [List.getElem?_toArray, List.getElem?_cons_zero] at c0; clear hS; go_simp)) ?_
      intro a' ha'
      simp only [Act.put, List.setIfInBounds_toArray, List.set_cons_zero, List.set_cons_succ] at ha'
      subst ha'
      refine AnyS.next (i := 2) (d := some 30) (v := .string s) rfl rfl (by kernel_rfl) (by kernel_rfl) (by kernel_rfl) (StepsIf.yield (by kernel_rfl) (fun w' hS => by clear hS; go_simp)) ?_
      intro a' ha'
      simp only [Act.put, List.setIfInBounds_toArray, List.set_cons_zero, List.set_cons_succ] at ha'
      subst ha'
      refine AnyS.next (i := 3) (d := some 31) (v := .int .i64 a) rfl rfl (by kernel_rfl) (by kernel_rfl) (by kernel_rfl) (StepsIf.yield (by kernel_rfl) (fun w' hS => by clear hS; go_simp)) ?_
      intro a' ha'
      simp only [Act.put, List.setIfInBounds_toArray, List.set_cons_zero, List.set_cons_succ] at ha'
      subst ha'
      refine AnyS.next (i := 4) (d := some 32) (v := .int .u8 b) rfl rfl (by kernel_rfl) (by kernel_rfl) (by kernel_rfl) (StepsIf.yield (by kernel_rfl) (fun w' hS => by clear hS; go_simp)) ?_
      intro a' ha'
      simp only [Act.put, List.setIfInBounds_toArray, List.set_cons_zero, List.set_cons_succ] at ha'
      subst ha'
      refine AnyS.next (i := 5) (d := some 33) (v := .bool ((43 : Int) == (b : Int))) rfl rfl (by kernel_rfl) (by kernel_rfl) (by kernel_rfl) (StepsIf.yield (by kernel_rfl) (fun w' hS => by clear hS; go_simp)) ?_
      intro a' ha'
      simp only [Act.put, List.setIfInBounds_toArray, List.set_cons_zero, List.set_cons_succ] at ha'
      subst ha'
      refine AnyS.done (by kernel_rfl) (fun w6 hS => ?_) _
      have c1 := hS.1.2.1.cell 1; have c2 := hS.1.2.1.cell 2
      simp only [List.getElem?_toArray, List.getElem?_cons_zero, List.getElem?_cons_succ] at c1 c2
      have HR := Lib.hid hS.1.1
      have HB := Lib.hid hS.2
      have hz2 : w.heap.size + 1 ≤ w6.heap.size := by have := hS.1.2.1.lt; have := hS.1.2.2; omega
      clear hS
      by_cases hbb : b = 43
      · subst hbb
        have HRES := Lib.hid (show Y = okR 1 (-1) (a + 1) by rw [HG.out]; rfl)
        clear HG k1 k2 k3 hz
        go_wp2_with ((with_reducible refine wpList_store_st (o := ⟨none, .store 133 _ _, _, _, _, _⟩) rfl 133 _ _ rfl w.heap.size rfl rfl (run_storeAt_row _ w.heap.size 133 133 (rdI 0 0 0 eT 0) (rdI 1 (-1) ((a : Int) + 1) eT 0) ?_ ?_ ?_ ?_) ?_); exact HR.out; exact infoRd; rfl; exact rdC_one _ _ _ _ _)
        exact bodyPost_ret (v := .agg (rdI 1 (-1) ((a : Int) + 1) eT 0)) (results_cell_row rfl _ _ w.heap.size 133 (rdI 1 (-1) ((a : Int) + 1) eT 0) (0, 0) _ rfl (Blk.setRow HR.out) Tryz.underlying133 rfl infoRd) rfl ⟨by rw [HRES.out] <;> rfl, below_row HB.out (by omega) _⟩
      · have qb : ((43 : Int) == (b : Int)) = false := by rw [beq_eq_false_iff_ne]; omega
        clear c1 c2
        go_wp2_with fail
        go_roundw
        case rel => exact ⟨2, by omega, rfl, fun _ => by first | exact hbb | exact k1 (by omega), fun h => by first | omega | exact hbb | exact k2 (by omega), fun h => by first | omega | exact hbb, HR.out, HB.out, hz2⟩
        case measure => simp [intOf]
    · have h0 : SRe w wr.heap.size 63 0 (1) (wr.alloc (.cells #[.int .u8 63, .int .i64 0, .int .i64 (1)] 137)) := ⟨⟨HR.out.alloc _, Blk.new wr _ _, hz⟩, HB.out.alloc (by omega) _⟩
      have hz2 : w.heap.size + 1 ≤ (wr.alloc (.cells #[.int .u8 63, .int .i64 0, .int .i64 (1)] 137)).heap.size := by simp; omega
      clear HR HB
      have hix : ∀ w', (Instr.index 138 (.agg sgI) (.int .i64 2)).run Tryz.prog w' = .ok (.agg #[.int .u8 63, .int .i64 0, .int .i64 (1)]) w' := fun w' => by kernel_rfl
      go_wp2_with fail
      clear hix
      generalize wr.alloc (.cells #[.int .u8 63, .int .i64 0, .int .i64 (1)] 137) = w5 at *
      generalize wr.heap.size = B at *
      refine region_steps (S := SRe w B 63 0 (1)) (by kernel_rfl) h0.drewS ?_
      clear h0 hz2
      simp only [List.size_toArray, List.length_cons, List.length_nil, Nat.reduceAdd, Array.replicate_succ, Array.replicate_zero, List.push_toArray, List.nil_append, List.cons_append]
      refine AnyS.next (i := 0) (d := some 28) (v := .pointer (some ⟨B, 0, none⟩)) rfl rfl (by kernel_rfl) (by kernel_rfl) (by kernel_rfl) (StepsIf.yield (by kernel_rfl) (fun w' hS => by clear hS; go_simp)) ?_
      intro a' ha'
      simp only [Act.put, List.setIfInBounds_toArray, List.set_cons_zero, List.set_cons_succ] at ha'
      subst ha'
      refine AnyS.next (i := 1) (d := some 29) (v := .int .u8 63) rfl rfl (by kernel_rfl) (by kernel_rfl) (by kernel_rfl) (StepsIf.yield (by kernel_rfl) (fun w' hS => by have c0 := hS.1.2.1.cell 0; simp only [List.getElem?_toArray, List.getElem?_cons_zero] at c0; clear hS; go_simp)) ?_
      intro a' ha'
      simp only [Act.put, List.setIfInBounds_toArray, List.set_cons_zero, List.set_cons_succ] at ha'
      subst ha'
      refine AnyS.next (i := 2) (d := some 30) (v := .string s) rfl rfl (by kernel_rfl) (by kernel_rfl) (by kernel_rfl) (StepsIf.yield (by kernel_rfl) (fun w' hS => by clear hS; go_simp)) ?_
      intro a' ha'
      simp only [Act.put, List.setIfInBounds_toArray, List.set_cons_zero, List.set_cons_succ] at ha'
      subst ha'
      refine AnyS.next (i := 3) (d := some 31) (v := .int .i64 a) rfl rfl (by kernel_rfl) (by kernel_rfl) (by kernel_rfl) (StepsIf.yield (by kernel_rfl) (fun w' hS => by clear hS; go_simp)) ?_
      intro a' ha'
      simp only [Act.put, List.setIfInBounds_toArray, List.set_cons_zero, List.set_cons_succ] at ha'
      subst ha'
      refine AnyS.next (i := 4) (d := some 32) (v := .int .u8 b) rfl rfl (by kernel_rfl) (by kernel_rfl) (by kernel_rfl) (StepsIf.yield (by kernel_rfl) (fun w' hS => by clear hS; go_simp)) ?_
      intro a' ha'
      simp only [Act.put, List.setIfInBounds_toArray, List.set_cons_zero, List.set_cons_succ] at ha'
      subst ha'
      refine AnyS.next (i := 5) (d := some 33) (v := .bool ((63 : Int) == (b : Int))) rfl rfl (by kernel_rfl) (by kernel_rfl) (by kernel_rfl) (StepsIf.yield (by kernel_rfl) (fun w' hS => by clear hS; go_simp)) ?_
      intro a' ha'
      simp only [Act.put, List.setIfInBounds_toArray, List.set_cons_zero, List.set_cons_succ] at ha'
      subst ha'
      refine AnyS.done (by kernel_rfl) (fun w6 hS => ?_) _
      have c1 := hS.1.2.1.cell 1; have c2 := hS.1.2.1.cell 2
      simp only [List.getElem?_toArray, List.getElem?_cons_zero, List.getElem?_cons_succ] at c1 c2
      have HR := Lib.hid hS.1.1
      have HB := Lib.hid hS.2
      have hz2 : w.heap.size + 1 ≤ w6.heap.size := by have := hS.1.2.1.lt; have := hS.1.2.2; omega
      clear hS
      by_cases hbb : b = 63
      · subst hbb
        have HRES := Lib.hid (show Y = okR 0 (1) (a + 1) by rw [HG.out]; rfl)
        clear HG k1 k2 k3 hz
        go_wp2_with ((with_reducible refine wpList_store_st (o := ⟨none, .store 133 _ _, _, _, _, _⟩) rfl 133 _ _ rfl w.heap.size rfl rfl (run_storeAt_row _ w.heap.size 133 133 (rdI 0 0 0 eT 0) (rdI 0 (1) ((a : Int) + 1) eT 0) ?_ ?_ ?_ ?_) ?_); exact HR.out; exact infoRd; rfl; exact rdC_one _ _ _ _ _)
        exact bodyPost_ret (v := .agg (rdI 0 (1) ((a : Int) + 1) eT 0)) (results_cell_row rfl _ _ w.heap.size 133 (rdI 0 (1) ((a : Int) + 1) eT 0) (0, 0) _ rfl (Blk.setRow HR.out) Tryz.underlying133 rfl infoRd) rfl ⟨by rw [HRES.out] <;> rfl, below_row HB.out (by omega) _⟩
      · have qb : ((63 : Int) == (b : Int)) = false := by rw [beq_eq_false_iff_ne]; omega
        clear c1 c2
        go_wp2_with fail
        go_roundw
        case rel => exact ⟨3, by omega, rfl, fun _ => by first | exact hbb | exact k1 (by omega), fun h => by first | omega | exact hbb | exact k2 (by omega), fun h => by first | omega | exact hbb, HR.out, HB.out, hz2⟩
        case measure => simp [intOf]
    · have HRES := Lib.hid (show Y = badC 1 0 by rw [HG.out, if_neg (k1 (by omega)), if_neg (k2 (by omega)), if_neg (k3 (by omega))])
      clear HG k1 k2 k3
      go_wp2_with fail
      refine (HFA.out _).mono ?_
      rintro en w4 ⟨rfl, hb⟩
      have HR2 := Lib.hid (HR.out.below hb (Blk.lt HR.out))
      have HB2 := Lib.hid (HB.out.trans (hb.mono (by omega)))
      have hz2 := Nat.le_trans hz hb.size
      clear HR HB hz hb
      have HR := HR2
      have HB := HB2
      have hz := hz2
      clear HR2 HB2 hz2
      go_wp2_with ((with_reducible refine wpList_store_st (o := ⟨none, .store 133 _ _, _, _, _, _⟩) rfl 133 _ _ rfl w.heap.size rfl rfl (run_storeAt_row _ w.heap.size 133 133 (rdI 0 0 0 eT 0) (rdI 0 0 0 eT 1) ?_ ?_ ?_ ?_) ?_); exact HR.out; exact infoRd; rfl; exact rdC_one _ _ _ _ _)
      exact bodyPost_ret (v := .agg (rdI 0 0 0 eT 1)) (results_cell_row rfl _ _ w.heap.size 133 (rdI 0 0 0 eT 1) (0, 0) _ rfl (Blk.setRow HR.out) Tryz.underlying133 rfl infoRd) rfl ⟨by rw [HRES.out] <;> rfl, below_row HB.out (by omega) _⟩
end Go.Proofs.YthodphgbdmnpoaaGreat

/- The developers' counts: Read, Lack. -/
namespace Go.Proofs.YthodphgbdmnpoaaGreat
open Go.RowKit

@[reducible] def spI (n m : Int) : Array Value := #[.int .i64 n, .int .i64 m]
theorem infoSp : (Tryz.prog.info? 128).map (·.size) = some 2 := by kernel_rfl
def SRf (w : World) (B : Nat) (d c : Array Value) (W : World) : Prop := (Blk W w.heap.size d 128 ∧ Blk W B c 133 ∧ w.heap.size + 1 ≤ B) ∧ Below w.heap.size w W
theorem SRf.drewS {w W : World} {B : Nat} {d c : Array Value} (h : SRf w B d c W) : SRf w B d c W.drew := ⟨⟨h.1.1, h.1.2.1, h.1.2.2⟩, h.2.drew⟩
theorem SRf.store {w W : World} {B : Nat} {c : Array Value} (h : SRf w B (spI 0 0) c W) (n m : Int) :
    SRf w B (spI n m) c ((W.setCell ⟨w.heap.size, 0, none⟩ (.int .i64 n)).setCell ⟨w.heap.size, 1, none⟩ (.int .i64 m)) := by
  have hnB : B ≠ w.heap.size := by have := h.1.2.2; omega
  exact ⟨⟨(h.1.1.set 0 (.int .i64 n)).set 1 (.int .i64 m), (h.1.2.1.other hnB 0 _).other hnB 1 _, h.1.2.2⟩,
    below_set (below_set h.2 (Nat.le_refl _) 0 _) (Nat.le_refl _) 1 _⟩

set_option maxRecDepth 100000 in
set_option maxHeartbeats 8000000 in
theorem bRead_calls (s : ByteArray) (hs : s.size ≤ 1000000) (at' : Int) (w : World) : Calls Tryz.prog 89 #[.string s, .int .i64 at'] w fun e w' => e = .returned (.tuple #[.agg #[.int .i64 (readN s at').1, .int .i64 (readN s at').2.1], .int .i64 (readN s at').2.2.1, .int .i64 (readN s at').2.2.2.1, .int .i64 (readN s at').2.2.2.2]) ∧ Below w.heap.size w w' := by
  have HR := Lib.hid (Blk.new w (spI 0 0) 128)
  have HB : Hid (Below w.heap.size w (w.alloc (.cells (spI 0 0) 128))) := Lib.hid (by go_grown)
  have hz : w.heap.size + 1 ≤ (w.alloc (.cells (spI 0 0) 128)).heap.size := by simp
  have hg := toN_read s at'
  have hW := readD4_calls s hs at'
  generalize readD4 s at' = X at *
  generalize readN s at' = Y at *
  obtain ⟨n, m, p, l, e⟩ := X
  have HW : Hid (∀ w, Calls Tryz.prog 91 #[.string s, .int .i64 at'] w fun en w' => en = .returned (.agg (rdI n m p (ofT l) e)) ∧ Below w.heap.size w w') := Lib.hid hW
  clear hW
  generalize ofT l = l' at HW
  have HG := Lib.hid hg
  clear hg
  go_enter Tryz.func89, Tryz.ntmps89
  go_upto_region 1 with fail
  have e0 : w.alloc (.cells #[.int .i64 0, .int .i64 0] 128) = w.alloc (.cells (spI 0 0) 128) := rfl
  try rw [e0]
  clear e0
  generalize w.alloc (.cells (spI 0 0) 128) = w1 at *
  go_wp2_with fail
  refine (HW.out _).mono ?_
  rintro en w2 ⟨rfl, hb⟩
  have HR2 := Lib.hid (HR.out.below hb (Blk.lt HR.out))
  have HB2 := Lib.hid (HB.out.trans (hb.mono (by omega)))
  have hz2 := Nat.le_trans hz hb.size
  clear HR HB hz hb
  have HR := HR2
  have HB := HB2
  have hz := hz2
  clear HR2 HB2 hz2
  clear HW
  go_upto_region 2 with fail
  have HP := Lib.hid (Blk.new w2 (rdI n m p l' e) 133)
  replace HR := Lib.hid (HR.out.alloc (.cells (rdI n m p l' e) 133))
  replace HB := Lib.hid (HB.out.alloc (by omega) (.cells (rdI n m p l' e) 133))
  generalize w2.alloc (.cells (rdI n m p l' e) 133) = w3 at *
  generalize w2.heap.size = B at *
  have c4 := HP.out.cell 4
  simp only [List.getElem?_toArray, List.getElem?_cons_zero, List.getElem?_cons_succ] at c4
  have h0 : SRf w B (spI 0 0) (rdI n m p l' e) w3 := ⟨⟨HR.out, HP.out, hz⟩, HB.out⟩
  by_cases he : e = 0
  · subst he
    have hY : Y = (n, m, p, 0, 0) := by rw [← HG.out]; rfl
    subst hY
    clear HG HR HB HP
    have H0 := Lib.hid h0
    clear h0
    go_wp2_with fail
    refine region_stepsL (S0 := SRf w B (spI 0 0) (rdI n m p l' (0 : Nat))) (S1 := SRf w B (spI n m) (rdI n m p l' (0 : Nat))) (m := 4) (by kernel_rfl) (by kernel_rfl) (SRf.drewS H0.out) ?_
    clear H0 hz c4
    simp only [List.size_toArray, List.length_cons, List.length_nil, Nat.reduceAdd, Array.replicate_succ, Array.replicate_zero, List.push_toArray, List.nil_append, List.cons_append]
    refine AnyL.next (m := 4) (i := 0) (d := some 15) (v := .pointer (some ⟨B, 0, none⟩)) rfl rfl (by kernel_rfl) (by kernel_rfl) (by kernel_rfl) (by kernel_rfl) (StepsIf.yield (by kernel_rfl) (fun w' hS => by clear hS; go_simp)) ?_
    intro a' ha'
    simp only [Act.put, List.setIfInBounds_toArray, List.set_cons_zero, List.set_cons_succ] at ha'
    subst ha'
    refine AnyL.next (m := 4) (i := 1) (d := some 16) (v := .agg (spI n m)) rfl rfl (by kernel_rfl) (by kernel_rfl) (by kernel_rfl) (by kernel_rfl) (StepsIf.yield (by kernel_rfl) (fun w' hS => by have c0 := hS.1.2.1.cell 0; have c1 := hS.1.2.1.cell 1; simp only [List.getElem?_toArray, List.getElem?_cons_zero, List.getElem?_cons_succ] at c0 c1; clear hS; go_simp)) ?_
    intro a' ha'
    simp only [Act.put, List.setIfInBounds_toArray, List.set_cons_zero, List.set_cons_succ] at ha'
    subst ha'
    refine AnyL.both (m := 4) (i := 2) (d := some 17) (v := .pointer (some ⟨B, 2, none⟩)) rfl rfl (by kernel_rfl) (by kernel_rfl) (by kernel_rfl) (by kernel_rfl) (StepsIf.yield (by kernel_rfl) (fun w' hS => by clear hS; go_simp)) (StepsIf.yield (by kernel_rfl) (fun w' hS => by clear hS; go_simp)) ?_
    intro a' ha'
    simp only [Act.put, List.setIfInBounds_toArray, List.set_cons_zero, List.set_cons_succ] at ha'
    subst ha'
    refine AnyL.both (m := 4) (i := 3) (d := some 18) (v := .int .i64 p) rfl rfl (by kernel_rfl) (by kernel_rfl) (by kernel_rfl) (by kernel_rfl) (StepsIf.yield (by kernel_rfl) (fun w' hS => by have c2 := hS.1.2.1.cell 2; simp only [List.getElem?_toArray, List.getElem?_cons_zero, List.getElem?_cons_succ] at c2; clear hS; go_simp)) (StepsIf.yield (by kernel_rfl) (fun w' hS => by have c2 := hS.1.2.1.cell 2; simp only [List.getElem?_toArray, List.getElem?_cons_zero, List.getElem?_cons_succ] at c2; clear hS; go_simp)) ?_
    intro a' ha'
    simp only [Act.put, List.setIfInBounds_toArray, List.set_cons_zero, List.set_cons_succ] at ha'
    subst ha'
    refine AnyL.store (m := 4) (d := none) (v := undef) rfl rfl (by kernel_rfl) (by kernel_rfl) (by kernel_rfl) (fun w' hS K Q hK => by have c0 := hS.1.1.cell 0; have c1 := hS.1.1.cell 1; have f0 := hS.1.1.frozen 0; have f1 := hS.1.1.frozen 1; simp only [List.getElem?_toArray, List.getElem?_cons_zero, List.getElem?_cons_succ] at c0 c1; have HSS := Lib.hid hS; clear hS; go_simp; exact hK _ (SRf.store HSS.out n m)) ?_
    intro a' ha'
    simp only [Act.put] at ha'
    subst ha'
    refine AnyL.after (m := 4) (i := 5) (d := some 5) (v := .int .i64 p) rfl rfl (by kernel_rfl) (by kernel_rfl) (by kernel_rfl) (by kernel_rfl) (StepsIf.yield (by kernel_rfl) (fun w' hS => by clear hS; go_simp)) ?_
    intro a' ha'
    simp only [Act.put, List.setIfInBounds_toArray, List.set_cons_zero, List.set_cons_succ] at ha'
    subst ha'
    refine AnyL.after (m := 4) (i := 6) (d := some 6) (v := .int .i64 0) rfl rfl (by kernel_rfl) (by kernel_rfl) (by kernel_rfl) (by kernel_rfl) (StepsIf.yield (by kernel_rfl) (fun w' hS => by clear hS; go_simp)) ?_
    intro a' ha'
    simp only [Act.put, List.setIfInBounds_toArray, List.set_cons_zero, List.set_cons_succ] at ha'
    subst ha'
    refine AnyL.after (m := 4) (i := 7) (d := some 7) (v := .int .i64 0) rfl rfl (by kernel_rfl) (by kernel_rfl) (by kernel_rfl) (by kernel_rfl) (StepsIf.yield (by kernel_rfl) (fun w' hS => by clear hS; go_simp)) ?_
    intro a' ha'
    simp only [Act.put, List.setIfInBounds_toArray, List.set_cons_zero, List.set_cons_succ] at ha'
    subst ha'
    refine AnyL.done (by kernel_rfl) (by kernel_rfl) (fun w' hS => ?_) _
    have e0 := hS.1.1.cell 0; have e1 := hS.1.1.cell 1
    simp only [List.getElem?_toArray, List.getElem?_cons_zero, List.getElem?_cons_succ] at e0 e1
    have hB := hS.2
    clear hS
    go_wp2_with fail
    exact bodyPost_ret (v := .tuple #[.agg #[.int .i64 n, .int .i64 m], .int .i64 p, .int .i64 0, .int .i64 0]) (by simp [results, Tryz.results89, go_sem, e0, e1]) rfl ⟨rfl, hB⟩
  · have q3 : ((e : Int) == 0) = false := by rw [beq_eq_false_iff_ne]; omega
    have hY : Y = (0, 0, 0, e, p) := by rw [← HG.out]; unfold toN; rw [if_neg he]
    subst hY
    clear HG HR HB HP he
    have H0 := Lib.hid h0
    clear h0
    go_wp2_with fail
    refine region_stepsL (S0 := SRf w B (spI 0 0) (rdI n m p l' e)) (S1 := SRf w B (spI 0 0) (rdI n m p l' e)) (m := 5) (by kernel_rfl) (by kernel_rfl) (SRf.drewS H0.out) ?_
    clear H0 hz c4
    simp only [List.size_toArray, List.length_cons, List.length_nil, Nat.reduceAdd, Array.replicate_succ, Array.replicate_zero, List.push_toArray, List.nil_append, List.cons_append]
    refine AnyL.next (m := 5) (i := 0) (d := some 19) (v := .agg (spI 0 0)) rfl rfl (by kernel_rfl) (by kernel_rfl) (by kernel_rfl) (by kernel_rfl) (StepsIf.yield (by kernel_rfl) (fun w' hS => by clear hS; go_simp)) ?_
    intro a' ha'
    simp only [Act.put, List.setIfInBounds_toArray, List.set_cons_zero, List.set_cons_succ] at ha'
    subst ha'
    refine AnyL.both (m := 5) (i := 1) (d := some 20) (v := .pointer (some ⟨B, 4, none⟩)) rfl rfl (by kernel_rfl) (by kernel_rfl) (by kernel_rfl) (by kernel_rfl) (StepsIf.yield (by kernel_rfl) (fun w' hS => by clear hS; go_simp)) (StepsIf.yield (by kernel_rfl) (fun w' hS => by clear hS; go_simp)) ?_
    intro a' ha'
    simp only [Act.put, List.setIfInBounds_toArray, List.set_cons_zero, List.set_cons_succ] at ha'
    subst ha'
    refine AnyL.both (m := 5) (i := 2) (d := some 21) (v := .int .i64 e) rfl rfl (by kernel_rfl) (by kernel_rfl) (by kernel_rfl) (by kernel_rfl) (StepsIf.yield (by kernel_rfl) (fun w' hS => by have c4 := hS.1.2.1.cell 4; simp only [List.getElem?_toArray, List.getElem?_cons_zero, List.getElem?_cons_succ] at c4; clear hS; go_simp)) (StepsIf.yield (by kernel_rfl) (fun w' hS => by have c4 := hS.1.2.1.cell 4; simp only [List.getElem?_toArray, List.getElem?_cons_zero, List.getElem?_cons_succ] at c4; clear hS; go_simp)) ?_
    intro a' ha'
    simp only [Act.put, List.setIfInBounds_toArray, List.set_cons_zero, List.set_cons_succ] at ha'
    subst ha'
    refine AnyL.both (m := 5) (i := 3) (d := some 22) (v := .pointer (some ⟨B, 2, none⟩)) rfl rfl (by kernel_rfl) (by kernel_rfl) (by kernel_rfl) (by kernel_rfl) (StepsIf.yield (by kernel_rfl) (fun w' hS => by clear hS; go_simp)) (StepsIf.yield (by kernel_rfl) (fun w' hS => by clear hS; go_simp)) ?_
    intro a' ha'
    simp only [Act.put, List.setIfInBounds_toArray, List.set_cons_zero, List.set_cons_succ] at ha'
    subst ha'
    refine AnyL.both (m := 5) (i := 4) (d := some 23) (v := .int .i64 p) rfl rfl (by kernel_rfl) (by kernel_rfl) (by kernel_rfl) (by kernel_rfl) (StepsIf.yield (by kernel_rfl) (fun w' hS => by have c2 := hS.1.2.1.cell 2; simp only [List.getElem?_toArray, List.getElem?_cons_zero, List.getElem?_cons_succ] at c2; clear hS; go_simp)) (StepsIf.yield (by kernel_rfl) (fun w' hS => by have c2 := hS.1.2.1.cell 2; simp only [List.getElem?_toArray, List.getElem?_cons_zero, List.getElem?_cons_succ] at c2; clear hS; go_simp)) ?_
    intro a' ha'
    simp only [Act.put, List.setIfInBounds_toArray, List.set_cons_zero, List.set_cons_succ] at ha'
    subst ha'
    refine AnyL.store (m := 5) (d := none) (v := undef) rfl rfl (by kernel_rfl) (by kernel_rfl) (by kernel_rfl) (fun w' hS K Q hK => by have c0 := hS.1.1.cell 0; have c1 := hS.1.1.cell 1; have f0 := hS.1.1.frozen 0; have f1 := hS.1.1.frozen 1; simp only [List.getElem?_toArray, List.getElem?_cons_zero, List.getElem?_cons_succ] at c0 c1; have HSS := Lib.hid hS; clear hS; go_simp; exact hK _ (SRf.store HSS.out 0 0)) ?_
    intro a' ha'
    simp only [Act.put] at ha'
    subst ha'
    refine AnyL.after (m := 5) (i := 6) (d := some 5) (v := .int .i64 0) rfl rfl (by kernel_rfl) (by kernel_rfl) (by kernel_rfl) (by kernel_rfl) (StepsIf.yield (by kernel_rfl) (fun w' hS => by clear hS; go_simp)) ?_
    intro a' ha'
    simp only [Act.put, List.setIfInBounds_toArray, List.set_cons_zero, List.set_cons_succ] at ha'
    subst ha'
    refine AnyL.after (m := 5) (i := 7) (d := some 6) (v := .int .i64 e) rfl rfl (by kernel_rfl) (by kernel_rfl) (by kernel_rfl) (by kernel_rfl) (StepsIf.yield (by kernel_rfl) (fun w' hS => by clear hS; go_simp)) ?_
    intro a' ha'
    simp only [Act.put, List.setIfInBounds_toArray, List.set_cons_zero, List.set_cons_succ] at ha'
    subst ha'
    refine AnyL.after (m := 5) (i := 8) (d := some 7) (v := .int .i64 p) rfl rfl (by kernel_rfl) (by kernel_rfl) (by kernel_rfl) (by kernel_rfl) (StepsIf.yield (by kernel_rfl) (fun w' hS => by clear hS; go_simp)) ?_
    intro a' ha'
    simp only [Act.put, List.setIfInBounds_toArray, List.set_cons_zero, List.set_cons_succ] at ha'
    subst ha'
    refine AnyL.done (by kernel_rfl) (by kernel_rfl) (fun w' hS => ?_) _
    have e0 := hS.1.1.cell 0; have e1 := hS.1.1.cell 1
    simp only [List.getElem?_toArray, List.getElem?_cons_zero, List.getElem?_cons_succ] at e0 e1
    have hB := hS.2
    clear hS
    go_wp2_with fail
    exact bodyPost_ret (v := .tuple #[.agg #[.int .i64 0, .int .i64 0], .int .i64 0, .int .i64 e, .int .i64 p]) (by simp [results, Tryz.results89, go_sem, e0, e1]) rfl ⟨rfl, hB⟩

set_option maxHeartbeats 1000000 in
theorem lackD4_calls (s : ByteArray) (hs : s.size ≤ 1000000) (at' : Int) (w : World) : Calls Tryz.prog 90 #[.string s, .int .i64 at'] w fun e w' => e = .returned (.string (ofT (readD4 s at').lack)) ∧ Below w.heap.size w w' := by
  have hW := readD4_calls s hs at'
  generalize readD4 s at' = X at *
  obtain ⟨n, m, p, l, e⟩ := X
  have HW : Hid (∀ w, Calls Tryz.prog 91 #[.string s, .int .i64 at'] w fun en w' => en = .returned (.agg (rdI n m p (ofT l) e)) ∧ Below w.heap.size w w') := Lib.hid hW
  clear hW
  show Calls Tryz.prog 90 #[.string s, .int .i64 at'] w fun e w' => e = .returned (.string (ofT l)) ∧ Below w.heap.size w w'
  generalize ofT l = l' at *
  have hfi : ∀ w', (Instr.field 133 (.agg (rdI n m p l' e)) 2).run Tryz.prog w' = .ok (.string l') w' := fun w' => by kernel_rfl
  go_enter Tryz.func90, Tryz.ntmps90
  go_wp2_with fail
  refine (HW.out _).mono ?_
  rintro en w2 ⟨rfl, hb⟩
  go_wp2_with fail
  go_ret
  exact ⟨rfl, hb⟩
end Go.Proofs.YthodphgbdmnpoaaGreat

/- The developers' words: what each kind reads, what it begins with. -/
namespace Go.Proofs.YthodphgbdmnpoaaGreat
open Go.RowKit Go.Shelf BS

/-- A reading of a word, or an error and its place, and what lacks. -/
@[reducible] def rgA (X : WN × Nat × Nat) (l : ByteArray) : Array Value := rgI X.1.kind X.1.pos X.1.fin X.1.set X.1.n X.1.m X.2.1 X.2.2 l
theorem rgA_one (t : BitVec 256) (a : Nat) (l : ByteArray) : rgA (oneW t a (a + 1), 0, 0) l = rgI 1 a ((a : Int) + 1) t 0 0 0 0 l := by
  have e : ((a + 1 : Nat) : Int) = (a : Int) + 1 := by omega
  show rgI 1 a ((a + 1 : Nat) : Int) t 0 0 0 0 l = _
  rw [e]
theorem rgA_two (t : BitVec 256) (a : Nat) (l : ByteArray) : rgA (oneW t a (a + 2), 0, 0) l = rgI 1 a ((a : Int) + 2) t 0 0 0 0 l := by
  have e : ((a + 2 : Nat) : Int) = (a : Int) + 2 := by omega
  show rgI 1 a ((a + 2 : Nat) : Int) t 0 0 0 0 l = _
  rw [e]
set_option maxRecDepth 100000 in
set_option maxHeartbeats 8000000 in
theorem inB5_calls (s : ByteArray) (hs : s.size ≤ 1000000) (a : Nat) (w : World) : Calls Tryz.prog 104 #[.string s, .int .i64 a] w fun en w' => en = .returned (.agg (rgA (brkW s a) (wholeD s a).lack)) ∧ Below w.heap.size w w' := by
  obtain ⟨t, p, e, k, hR⟩ : ∃ t p e k, readR s a = (t, p, e, k) := ⟨_, _, _, _, rfl⟩
  have hL := lackE s a t p e k _ hR rfl
  have HRD := Lib.hid (fun w => dRead s hs a t p e k hR w)
  have HLK := Lib.hid (fun w => lackD_calls s hs a w)
  have hY : brkW s a = if e ≠ 0 then (zWN, e, k) else (oneW t a p, 0, 0) := by unfold brkW; rw [hR]
  generalize (wholeD s a).lack = l at *
  generalize brkW s a = Y at *
  clear hR
  have HL := Lib.hid hL
  have HY := Lib.hid hY
  clear hL hY
  have HR := Lib.hid (Blk.new w (rgZ 0 0 0 0 0 0 0 eT) 79)
  have HB : Hid (Below w.heap.size w (w.alloc (.cells (rgZ 0 0 0 0 0 0 0 eT) 79))) := Lib.hid (by go_grown)
  have hz : w.heap.size + 1 ≤ (w.alloc (.cells (rgZ 0 0 0 0 0 0 0 eT) 79)).heap.size := by simp
  go_enter Tryz.func104, Tryz.ntmps104
  go_upto_region 1 with fail
  have e0 : w.alloc (.cells #[.int .i64 0, .int .i64 0, .int .i64 0, .int .u64 0, .int .u64 0, .int .u64 0, .int .u64 0, .int .i64 0, .int .i64 0, .int .i64 0, .int .i64 0, .string ⟨#[]⟩] 79) = w.alloc (.cells (rgZ 0 0 0 0 0 0 0 eT) 79) := rfl
  try rw [e0]
  clear e0
  generalize w.alloc (.cells (rgZ 0 0 0 0 0 0 0 eT) 79) = w1 at *
  go_wp2_with fail
  refine (HRD.out _).mono ?_
  rintro en w2 ⟨rfl, hb⟩
  replace HR := Lib.hid (HR.out.below hb (Blk.lt HR.out))
  replace HB := Lib.hid (HB.out.trans (hb.mono (by omega)))
  replace hz := Nat.le_trans hz hb.size
  clear hb HRD
  go_upto_region 2 with fail
  have HC := Lib.hid (Blk.new w2 (setA t) 34)
  have hwB : w.heap.size < w2.heap.size := by omega
  replace HR := Lib.hid (HR.out.alloc (.cells (setA t) 34))
  replace HB := Lib.hid (HB.out.alloc (by omega) (.cells (setA t) 34))
  have e0 : w2.alloc (.cells #[.int .u64 (wd t 0), .int .u64 (wd t 1), .int .u64 (wd t 2), .int .u64 (wd t 3)] 34) = w2.alloc (.cells (setA t) 34) := rfl
  try rw [e0]
  clear e0
  have hz3 : w.heap.size + 1 ≤ (w2.alloc (.cells (setA t) 34)).heap.size := by simp; omega
  generalize w2.alloc (.cells (setA t) 34) = w3 at *
  generalize w2.heap.size = B at *
  by_cases he : e = 0
  · subst he
    have hl : l = eT := by
      rcases HL.out with h | h
      · exact h.2
      · exact absurd h.1 (by decide)
    have hY : Y = (oneW t a p, 0, 0) := by rw [HY.out, if_neg (by decide)]
    subst hl hY
    have HO := Lib.hid (fun w => oneOf5_calls t a p w)
    obtain ⟨⟨c0, c1, c2, c3⟩, _⟩ := HC.out.cells4
    clear HL HY HLK hz
    go_wp2_with fail
    refine (HO.out _).mono ?_
    rintro en w4 ⟨rfl, hb⟩
    replace HR := Lib.hid (HR.out.below hb (Blk.lt HR.out))
    replace HB := Lib.hid (HB.out.trans (hb.mono (by omega)))
    clear hb HO c0 c1 c2 c3 HC
    go_wp2_with ((with_reducible refine wpList_store_st (o := ⟨none, .store 79 _ _, _, _, _, _⟩) rfl 79 _ _ rfl w.heap.size rfl rfl (run_storeAt_row _ w.heap.size 79 79 (rgZ 0 0 0 0 0 0 0 eT) (rgI 1 a p t 0 0 0 0 eT) ?_ ?_ ?_ ?_) ?_); exact HR.out; exact infoRg; rfl; exact rg_one _ _ _ _ _ _ _ _ _)
    exact bodyPost_ret (v := .agg (rgI 1 a p t 0 0 0 0 eT)) (results_cell_row rfl _ _ w.heap.size 79 (rgI 1 a p t 0 0 0 0 eT) (0, 0) _ rfl (Blk.setRow HR.out) Tryz.underlying79 rfl infoRg) rfl ⟨rfl, below_row HB.out (Nat.le_refl _) _⟩
  · have q : ((e : Int) != 0) = true := by rw [bne_iff_ne]; omega
    have hY : Y = (zWN, e, k) := by rw [HY.out, if_pos he]
    subst hY
    clear HL HY HC hz he
    go_wp2_with fail
    refine (HLK.out _).mono ?_
    rintro en w4 ⟨rfl, hb⟩
    replace HR := Lib.hid (HR.out.below hb (Blk.lt HR.out))
    replace HB := Lib.hid (HB.out.trans (hb.mono (by omega)))
    clear hb HLK
    go_wp2_with ((with_reducible refine wpList_store_st (o := ⟨none, .store 79 _ _, _, _, _, _⟩) rfl 79 _ _ rfl w.heap.size rfl rfl (run_storeAt_row _ w.heap.size 79 79 (rgZ 0 0 0 0 0 0 0 eT) (rgZ 0 0 0 0 0 e k l) ?_ ?_ ?_ ?_) ?_); exact HR.out; exact infoRg; rfl; exact rg_one _ _ _ 0 _ _ _ _ _)
    exact bodyPost_ret (v := .agg (rgZ 0 0 0 0 0 e k l)) (results_cell_row rfl _ _ w.heap.size 79 (rgZ 0 0 0 0 0 e k l) (0, 0) _ rfl (Blk.setRow HR.out) Tryz.underlying79 rfl infoRg) rfl ⟨by rw [rgZ_eq]; rfl, below_row HB.out (Nat.le_refl _) _⟩

/-- What lacks to a backslash. -/
def lackS (s : ByteArray) (a : Nat) : ByteArray := if s.size ≤ a + 1 then ofT [46] else eT
set_option maxRecDepth 100000 in
set_option maxHeartbeats 8000000 in
theorem esc5_calls (s : ByteArray) (hs : s.size ≤ 1000000) (a : Nat) (ha : a < s.size) (w : World) : Calls Tryz.prog 105 #[.string s, .int .i64 a] w fun en w' => en = .returned (.agg (rgA (slashW s a) (lackS s a))) ∧ Below w.heap.size w w' := by
  have x2 : IntKind.i64.wrap ((a : Int) + 2) = (a : Int) + 2 := IntWalk.i64_in _ (by omega)
  have x1 : IntKind.i64.wrap ((a : Int) + 1) = (a : Int) + 1 := IntWalk.i64_in _ (by omega)
  have xs : IntKind.i64.wrap (s.size : Int) = s.size := IntWalk.i64_in _ (by omega)
  have HY := Lib.hid (show slashW s a = if s.size ≤ a + 1 then (zWN, 2, s.size) else if four14 (bt s (a + 1)) = false then (zWN, 3, a + 2) else (oneW (range (bt s (a + 1)) (bt s (a + 1))) a (a + 2), 0, 0) from rfl)
  have HL := Lib.hid (show lackS s a = if s.size ≤ a + 1 then ofT [46] else eT from rfl)
  generalize slashW s a = Y at *
  generalize lackS s a = l at *
  have HR := Lib.hid (Blk.new w (rgZ 0 0 0 0 0 0 0 eT) 79)
  have HB : Hid (Below w.heap.size w (w.alloc (.cells (rgZ 0 0 0 0 0 0 0 eT) 79))) := Lib.hid (by go_grown)
  have hz : w.heap.size + 1 ≤ (w.alloc (.cells (rgZ 0 0 0 0 0 0 0 eT) 79)).heap.size := by simp
  go_enter Tryz.func105, Tryz.ntmps105
  go_upto_region 1 with fail
  have e0 : w.alloc (.cells #[.int .i64 0, .int .i64 0, .int .i64 0, .int .u64 0, .int .u64 0, .int .u64 0, .int .u64 0, .int .i64 0, .int .i64 0, .int .i64 0, .int .i64 0, .string ⟨#[]⟩] 79) = w.alloc (.cells (rgZ 0 0 0 0 0 0 0 eT) 79) := rfl
  try rw [e0]
  clear e0
  generalize w.alloc (.cells (rgZ 0 0 0 0 0 0 0 eT) 79) = w1 at *
  by_cases hs1 : s.size ≤ a + 1
  · have q : decide ((s.size : Int) < (a : Int) + 2) = true := by rw [decide_eq_true_iff]; omega
    have hY : Y = (zWN, 2, s.size) := by rw [HY.out, if_pos hs1]
    have hl : l = ofT [46] := by rw [HL.out, if_pos hs1]
    subst hY hl
    clear HY HL hs1
    have hsl : ∀ w', (Instr.slice 9 (.string ⟨#[46, 91, 93, 92, 40, 41, 42, 43, 63, 123, 125, 124, 94, 36]⟩) none (some (.int .i64 1)) none).run Tryz.prog w' = .ok (.string (ofT [46])) w' := fun w' => by kernel_rfl
    go_wp2_with ((with_reducible refine wpList_store_st (o := ⟨none, .store 79 _ _, _, _, _, _⟩) rfl 79 _ _ rfl w.heap.size rfl rfl (run_storeAt_row _ w.heap.size 79 79 (rgZ 0 0 0 0 0 0 0 eT) (rgZ 0 0 0 0 0 2 s.size (ofT [46])) ?_ ?_ ?_ ?_) ?_); exact HR.out; exact infoRg; rfl; exact rg_one _ _ _ 0 _ _ _ _ _)
    exact bodyPost_ret (v := .agg (rgZ 0 0 0 0 0 2 s.size (ofT [46]))) (results_cell_row rfl _ _ w.heap.size 79 (rgZ 0 0 0 0 0 2 s.size (ofT [46])) (0, 0) _ rfl (Blk.setRow HR.out) Tryz.underlying79 rfl infoRg) rfl ⟨by rw [rgZ_eq]; rfl, below_row HB.out (Nat.le_refl _) _⟩
  have q : decide ((s.size : Int) < (a : Int) + 2) = false := by rw [decide_eq_false_iff_not]; omega
  have hl : l = eT := by rw [HL.out, if_neg hs1]
  subst hl
  clear HL
  have hlt : a + 1 < s.size := by omega
  have h0 : s[a + 1].toNat = bt s (a + 1) := (bt_eq s (a + 1) hlt).symm
  have hl0 := bt_lt s (a + 1)
  have HSG := Lib.hid (isSign_calls (bt s (a + 1)) hl0)
  generalize bt s (a + 1) = b at *
  cases hf : four14 b with
  | false =>
    have hY : Y = (zWN, 3, a + 2) := by rw [HY.out, if_neg hs1, if_pos hf]
    subst hY
    rw [hf] at HSG
    have HF := Lib.hid (fun w => fault5_calls 3 ((a : Int) + 2) w)
    clear HY hs1 hf
    go_wp2_with fail
    refine (HSG.out _).mono ?_
    rintro en w2 ⟨rfl, rfl⟩
    go_wp2_with fail
    refine (HF.out _).mono ?_
    rintro en w4 ⟨rfl, hb⟩
    replace HR := Lib.hid (HR.out.below hb (Blk.lt HR.out))
    replace HB := Lib.hid (HB.out.trans (hb.mono (by omega)))
    replace hz := Nat.le_trans hz hb.size
    clear hb HF
    go_wp2_with ((with_reducible refine wpList_store_st (o := ⟨none, .store 79 _ _, _, _, _, _⟩) rfl 79 _ _ rfl w.heap.size rfl rfl (run_storeAt_row _ w.heap.size 79 79 (rgZ 0 0 0 0 0 0 0 eT) (rgZ 0 0 0 0 0 3 ((a : Int) + 2) eT) ?_ ?_ ?_ ?_) ?_); exact HR.out; exact infoRg; rfl; exact rg_one _ _ _ 0 _ _ _ _ _)
    exact bodyPost_ret (v := .agg (rgZ 0 0 0 0 0 3 ((a : Int) + 2) eT)) (results_cell_row rfl _ _ w.heap.size 79 (rgZ 0 0 0 0 0 3 ((a : Int) + 2) eT) (0, 0) _ rfl (Blk.setRow HR.out) Tryz.underlying79 rfl infoRg) rfl ⟨by rw [rgZ_eq]; rfl, below_row HB.out (Nat.le_refl _) _⟩
  | true =>
    have hY : Y = (oneW (range b b) a (a + 2), 0, 0) := by rw [HY.out, if_neg hs1, if_neg (by rw [hf]; decide)]
    subst hY
    rw [hf] at HSG
    have HWT := Lib.hid (fun W t => dWith_calls W t b hl0)
    generalize hT : range b b = t at *
    have HTT := Lib.hid hT
    clear hT
    have HO := Lib.hid (fun w => oneOf5_calls t a ((a : Int) + 2) w)
    clear HY hs1 hf
    go_wp2_with fail
    refine (HSG.out _).mono ?_
    rintro en w2 ⟨rfl, rfl⟩
    clear HSG
    go_wp2_with fail
    replace HR := Lib.hid (HR.out.alloc (.cells #[.int .u8 b] 5))
    replace HB := Lib.hid (HB.out.alloc (by omega) (.cells #[.int .u8 b] 5))
    have hz3 : w.heap.size + 1 ≤ (w1.alloc (.cells #[.int .u8 b] 5)).heap.size := by simp; omega
    clear hz
    have hz := hz3
    clear hz3
    refine Calls.mono (HWT.out w1 _) ?_
    rintro en w4 ⟨rfl, hb⟩
    replace HR := Lib.hid (HR.out.below hb (Blk.lt HR.out))
    replace HB := Lib.hid (HB.out.trans (hb.mono (by omega)))
    replace hz := Nat.le_trans hz hb.size
    clear hb HWT
    go_wp2_with fail
    refine (HO.out _).mono ?_
    rintro en w5 ⟨rfl, hb⟩
    replace HR := Lib.hid (HR.out.below hb (Blk.lt HR.out))
    replace HB := Lib.hid (HB.out.trans (hb.mono (by omega)))
    replace hz := Nat.le_trans hz hb.size
    clear hb HO
    go_wp2_with ((with_reducible refine wpList_store_st (o := ⟨none, .store 79 _ _, _, _, _, _⟩) rfl 79 _ _ rfl w.heap.size rfl rfl (run_storeAt_row _ w.heap.size 79 79 (rgZ 0 0 0 0 0 0 0 eT) (rgI 1 a ((a : Int) + 2) t 0 0 0 0 eT) ?_ ?_ ?_ ?_) ?_); exact HR.out; exact infoRg; rfl; exact rg_one _ _ _ _ _ _ _ _ _)
    exact bodyPost_ret (v := .agg (rgI 1 a ((a : Int) + 2) t 0 0 0 0 eT)) (results_cell_row rfl _ _ w.heap.size 79 (rgI 1 a ((a : Int) + 2) t 0 0 0 0 eT) (0, 0) _ rfl (Blk.setRow HR.out) Tryz.underlying79 rfl infoRg) rfl ⟨by rw [rgA_two, HTT.out], below_row HB.out (Nat.le_refl _) _⟩
set_option maxRecDepth 100000 in
set_option maxHeartbeats 8000000 in
theorem openBegins_calls (b : Nat) (w : World) : Calls Tryz.prog 71 #[.agg #[], .int .u8 b] w fun en w' => en = .returned (.bool (b == 40)) ∧ Below w.heap.size w w' := by
  have q : ((b : Int) == 40) = (b == 40) := by rw [Bool.eq_iff_iff, beq_iff_eq, beq_iff_eq]; omega
  go_enter Tryz.func71, Tryz.ntmps71
  go_wp2_with fail
  go_ret
  exact ⟨rfl, by go_grown⟩
set_option maxRecDepth 100000 in
set_option maxHeartbeats 8000000 in
theorem openRead_calls (s : ByteArray) (hs : s.size ≤ 1000000) (a : Nat) (ha : a < s.size) (w : World) : Calls Tryz.prog 74 #[.agg #[], .string s, .int .i64 a] w fun en w' => en = .returned (.agg (rgA ((⟨2, a, a + 1, 0, 0, 0⟩, 0, 0)) eT)) ∧ Below w.heap.size w w' := by
  have HS := Lib.hid (fun w => sign5_calls 2 a (by omega) w)
  have HR := Lib.hid (Blk.new (w.alloc (.cells #[] 97)) (rgZ 0 0 0 0 0 0 0 eT) 79)
  rw [World.size_alloc] at HR
  have HB : Hid (Below w.heap.size w ((w.alloc (.cells #[] 97)).alloc (.cells (rgZ 0 0 0 0 0 0 0 eT) 79))) := Lib.hid (by go_grown)
  have hz : w.heap.size + 2 ≤ ((w.alloc (.cells #[] 97)).alloc (.cells (rgZ 0 0 0 0 0 0 0 eT) 79)).heap.size := by simp
  go_enter Tryz.func74, Tryz.ntmps74
  go_upto_region 1 with fail
  have e0 : (w.alloc (.cells #[] 97)).alloc (.cells #[.int .i64 0, .int .i64 0, .int .i64 0, .int .u64 0, .int .u64 0, .int .u64 0, .int .u64 0, .int .i64 0, .int .i64 0, .int .i64 0, .int .i64 0, .string ⟨#[]⟩] 79) = (w.alloc (.cells #[] 97)).alloc (.cells (rgZ 0 0 0 0 0 0 0 eT) 79) := rfl
  try rw [e0]
  clear e0
  generalize (w.alloc (.cells #[] 97)).alloc (.cells (rgZ 0 0 0 0 0 0 0 eT) 79) = w1 at *
  generalize hBB : w.heap.size + 1 = BB at HR
  have hBB2 : w.heap.size ≤ BB := by omega
  go_wp2_with fail
  refine (HS.out _).mono ?_
  rintro en w2 ⟨rfl, hb⟩
  replace HR := Lib.hid (HR.out.below hb (Blk.lt HR.out))
  replace HB := Lib.hid (HB.out.trans (hb.mono (by omega)))
  replace hz := Nat.le_trans hz hb.size
  clear hb HS
  go_wp2_with ((with_reducible refine wpList_store_st (o := ⟨none, .store 79 _ _, _, _, _, _⟩) rfl 79 _ _ rfl BB rfl rfl (run_storeAt_row _ BB 79 79 (rgZ 0 0 0 0 0 0 0 eT) (rgZ 2 a ((a : Int) + 1) 0 0 0 0 eT) ?_ ?_ ?_ ?_) ?_); exact HR.out; exact infoRg; rfl; exact rg_one _ _ _ 0 _ _ _ _ _)
  exact bodyPost_ret (v := .agg (rgZ 2 a ((a : Int) + 1) 0 0 0 0 eT)) (results_cell_row rfl _ _ BB 79 (rgZ 2 a ((a : Int) + 1) 0 0 0 0 eT) (0, 0) _ rfl (Blk.setRow HR.out) Tryz.underlying79 rfl infoRg) rfl ⟨by rw [rgZ_eq]; rfl, below_row HB.out hBB2 _⟩
set_option maxRecDepth 100000 in
set_option maxHeartbeats 8000000 in
theorem shutBegins_calls (b : Nat) (w : World) : Calls Tryz.prog 76 #[.agg #[], .int .u8 b] w fun en w' => en = .returned (.bool (b == 41)) ∧ Below w.heap.size w w' := by
  have q : ((b : Int) == 41) = (b == 41) := by rw [Bool.eq_iff_iff, beq_iff_eq, beq_iff_eq]; omega
  go_enter Tryz.func76, Tryz.ntmps76
  go_wp2_with fail
  go_ret
  exact ⟨rfl, by go_grown⟩
set_option maxRecDepth 100000 in
set_option maxHeartbeats 8000000 in
theorem shutRead_calls (s : ByteArray) (hs : s.size ≤ 1000000) (a : Nat) (ha : a < s.size) (w : World) : Calls Tryz.prog 79 #[.agg #[], .string s, .int .i64 a] w fun en w' => en = .returned (.agg (rgA ((⟨3, a, a + 1, 0, 0, 0⟩, 0, 0)) eT)) ∧ Below w.heap.size w w' := by
  have HS := Lib.hid (fun w => sign5_calls 3 a (by omega) w)
  have HR := Lib.hid (Blk.new (w.alloc (.cells #[] 98)) (rgZ 0 0 0 0 0 0 0 eT) 79)
  rw [World.size_alloc] at HR
  have HB : Hid (Below w.heap.size w ((w.alloc (.cells #[] 98)).alloc (.cells (rgZ 0 0 0 0 0 0 0 eT) 79))) := Lib.hid (by go_grown)
  have hz : w.heap.size + 2 ≤ ((w.alloc (.cells #[] 98)).alloc (.cells (rgZ 0 0 0 0 0 0 0 eT) 79)).heap.size := by simp
  go_enter Tryz.func79, Tryz.ntmps79
  go_upto_region 1 with fail
  have e0 : (w.alloc (.cells #[] 98)).alloc (.cells #[.int .i64 0, .int .i64 0, .int .i64 0, .int .u64 0, .int .u64 0, .int .u64 0, .int .u64 0, .int .i64 0, .int .i64 0, .int .i64 0, .int .i64 0, .string ⟨#[]⟩] 79) = (w.alloc (.cells #[] 98)).alloc (.cells (rgZ 0 0 0 0 0 0 0 eT) 79) := rfl
  try rw [e0]
  clear e0
  generalize (w.alloc (.cells #[] 98)).alloc (.cells (rgZ 0 0 0 0 0 0 0 eT) 79) = w1 at *
  generalize hBB : w.heap.size + 1 = BB at HR
  have hBB2 : w.heap.size ≤ BB := by omega
  go_wp2_with fail
  refine (HS.out _).mono ?_
  rintro en w2 ⟨rfl, hb⟩
  replace HR := Lib.hid (HR.out.below hb (Blk.lt HR.out))
  replace HB := Lib.hid (HB.out.trans (hb.mono (by omega)))
  replace hz := Nat.le_trans hz hb.size
  clear hb HS
  go_wp2_with ((with_reducible refine wpList_store_st (o := ⟨none, .store 79 _ _, _, _, _, _⟩) rfl 79 _ _ rfl BB rfl rfl (run_storeAt_row _ BB 79 79 (rgZ 0 0 0 0 0 0 0 eT) (rgZ 3 a ((a : Int) + 1) 0 0 0 0 eT) ?_ ?_ ?_ ?_) ?_); exact HR.out; exact infoRg; rfl; exact rg_one _ _ _ 0 _ _ _ _ _)
  exact bodyPost_ret (v := .agg (rgZ 3 a ((a : Int) + 1) 0 0 0 0 eT)) (results_cell_row rfl _ _ BB 79 (rgZ 3 a ((a : Int) + 1) 0 0 0 0 eT) (0, 0) _ rfl (Blk.setRow HR.out) Tryz.underlying79 rfl infoRg) rfl ⟨by rw [rgZ_eq]; rfl, below_row HB.out hBB2 _⟩
set_option maxRecDepth 100000 in
set_option maxHeartbeats 8000000 in
theorem barBegins_calls (b : Nat) (w : World) : Calls Tryz.prog 80 #[.agg #[], .int .u8 b] w fun en w' => en = .returned (.bool (b == 124)) ∧ Below w.heap.size w w' := by
  have q : ((b : Int) == 124) = (b == 124) := by rw [Bool.eq_iff_iff, beq_iff_eq, beq_iff_eq]; omega
  go_enter Tryz.func80, Tryz.ntmps80
  go_wp2_with fail
  go_ret
  exact ⟨rfl, by go_grown⟩
set_option maxRecDepth 100000 in
set_option maxHeartbeats 8000000 in
theorem barRead_calls (s : ByteArray) (hs : s.size ≤ 1000000) (a : Nat) (ha : a < s.size) (w : World) : Calls Tryz.prog 83 #[.agg #[], .string s, .int .i64 a] w fun en w' => en = .returned (.agg (rgA ((⟨4, a, a + 1, 0, 0, 0⟩, 0, 0)) eT)) ∧ Below w.heap.size w w' := by
  have HS := Lib.hid (fun w => sign5_calls 4 a (by omega) w)
  have HR := Lib.hid (Blk.new (w.alloc (.cells #[] 99)) (rgZ 0 0 0 0 0 0 0 eT) 79)
  rw [World.size_alloc] at HR
  have HB : Hid (Below w.heap.size w ((w.alloc (.cells #[] 99)).alloc (.cells (rgZ 0 0 0 0 0 0 0 eT) 79))) := Lib.hid (by go_grown)
  have hz : w.heap.size + 2 ≤ ((w.alloc (.cells #[] 99)).alloc (.cells (rgZ 0 0 0 0 0 0 0 eT) 79)).heap.size := by simp
  go_enter Tryz.func83, Tryz.ntmps83
  go_upto_region 1 with fail
  have e0 : (w.alloc (.cells #[] 99)).alloc (.cells #[.int .i64 0, .int .i64 0, .int .i64 0, .int .u64 0, .int .u64 0, .int .u64 0, .int .u64 0, .int .i64 0, .int .i64 0, .int .i64 0, .int .i64 0, .string ⟨#[]⟩] 79) = (w.alloc (.cells #[] 99)).alloc (.cells (rgZ 0 0 0 0 0 0 0 eT) 79) := rfl
  try rw [e0]
  clear e0
  generalize (w.alloc (.cells #[] 99)).alloc (.cells (rgZ 0 0 0 0 0 0 0 eT) 79) = w1 at *
  generalize hBB : w.heap.size + 1 = BB at HR
  have hBB2 : w.heap.size ≤ BB := by omega
  go_wp2_with fail
  refine (HS.out _).mono ?_
  rintro en w2 ⟨rfl, hb⟩
  replace HR := Lib.hid (HR.out.below hb (Blk.lt HR.out))
  replace HB := Lib.hid (HB.out.trans (hb.mono (by omega)))
  replace hz := Nat.le_trans hz hb.size
  clear hb HS
  go_wp2_with ((with_reducible refine wpList_store_st (o := ⟨none, .store 79 _ _, _, _, _, _⟩) rfl 79 _ _ rfl BB rfl rfl (run_storeAt_row _ BB 79 79 (rgZ 0 0 0 0 0 0 0 eT) (rgZ 4 a ((a : Int) + 1) 0 0 0 0 eT) ?_ ?_ ?_ ?_) ?_); exact HR.out; exact infoRg; rfl; exact rg_one _ _ _ 0 _ _ _ _ _)
  exact bodyPost_ret (v := .agg (rgZ 4 a ((a : Int) + 1) 0 0 0 0 eT)) (results_cell_row rfl _ _ BB 79 (rgZ 4 a ((a : Int) + 1) 0 0 0 0 eT) (0, 0) _ rfl (Blk.setRow HR.out) Tryz.underlying79 rfl infoRg) rfl ⟨by rw [rgZ_eq]; rfl, below_row HB.out hBB2 _⟩
set_option maxRecDepth 100000 in
set_option maxHeartbeats 8000000 in
theorem repBegins_calls (b : Nat) (hb : b < 256) (w : World) : Calls Tryz.prog 84 #[.agg #[], .int .u8 b] w fun en w' => en = .returned (.bool ([42, 43, 63, 123].contains b)) ∧ Below w.heap.size w w' := by
  have HS := Lib.hid (isRep_calls b hb)
  generalize ([42, 43, 63, 123].contains b) = x at *
  go_enter Tryz.func84, Tryz.ntmps84
  go_wp2_with fail
  refine (HS.out _).mono ?_
  rintro en w2 ⟨rfl, rfl⟩
  clear HS
  go_wp2_with fail
  go_ret
  exact ⟨rfl, by go_grown⟩
set_option maxRecDepth 100000 in
set_option maxHeartbeats 8000000 in
theorem oneBegins_calls (b : Nat) (w : World) : Calls Tryz.prog 100 #[.agg #[], .int .u8 b] w fun en w' => en = .returned (.bool (b != 94 && b != 36)) ∧ Below w.heap.size w w' := by
  have q : ((b : Int) != 94) = (b != 94) := by rw [Bool.eq_iff_iff, bne_iff_ne, bne_iff_ne]; omega
  have q2 : ((b : Int) != 36) = (b != 36) := by rw [Bool.eq_iff_iff, bne_iff_ne, bne_iff_ne]; omega
  cases h : (b != 94) with
  | false =>
    rw [h] at q
    clear h
    go_enter Tryz.func100, Tryz.ntmps100
    go_wp2_with fail
    go_ret
    exact ⟨rfl, by go_grown⟩
  | true =>
    rw [h] at q
    clear h
    go_enter Tryz.func100, Tryz.ntmps100
    go_wp2_with fail
    go_ret
    exact ⟨rfl, by go_grown⟩
set_option maxRecDepth 100000 in
set_option maxHeartbeats 8000000 in
theorem repRead_calls (s : ByteArray) (hs : s.size ≤ 1000000) (a : Nat) (w : World) : Calls Tryz.prog 87 #[.agg #[], .string s, .int .i64 a] w fun en w' => en = .returned (.agg (rgA (cntW s a) (ofT (readD4 s a).lack))) ∧ Below w.heap.size w w' := by
  have h1 := bRead_calls s hs a
  have hL := (lackN_read s a).1
  have HLK := Lib.hid (fun w => lackD4_calls s hs a w)
  have hY : cntW s a = if (readN s a).2.2.2.1 ≠ 0 then (zWN, (readN s a).2.2.2.1, (readN s a).2.2.2.2) else (⟨5, a, (readN s a).2.2.1, 0, (readN s a).1, (readN s a).2.1⟩, 0, 0) := rfl
  generalize readN s a = R at *
  obtain ⟨n, m, p, e, k⟩ := R
  have HRD : Hid (∀ w, Calls Tryz.prog 89 #[.string s, .int .i64 a] w fun e' w' => e' = .returned (.tuple #[.agg #[.int .i64 n, .int .i64 m], .int .i64 p, .int .i64 e, .int .i64 k]) ∧ Below w.heap.size w w') := Lib.hid h1
  clear h1
  have HY : Hid (cntW s a = if e ≠ 0 then (zWN, e, k) else (⟨5, a, p, 0, n, m⟩, 0, 0)) := Lib.hid hY
  have HL : Hid (e ≠ 2 → ofT (readD4 s a).lack = eT) := Lib.hid hL
  clear hL hY
  generalize ofT (readD4 s a).lack = l at *
  generalize cntW s a = Y at *
  have HR := Lib.hid (Blk.new (w.alloc (.cells #[] 100)) (rgZ 0 0 0 0 0 0 0 eT) 79)
  rw [World.size_alloc] at HR
  have HB : Hid (Below w.heap.size w ((w.alloc (.cells #[] 100)).alloc (.cells (rgZ 0 0 0 0 0 0 0 eT) 79))) := Lib.hid (by go_grown)
  have hz : w.heap.size + 2 ≤ ((w.alloc (.cells #[] 100)).alloc (.cells (rgZ 0 0 0 0 0 0 0 eT) 79)).heap.size := by simp
  go_enter Tryz.func87, Tryz.ntmps87
  go_upto_region 1 with fail
  have e0 : (w.alloc (.cells #[] 100)).alloc (.cells #[.int .i64 0, .int .i64 0, .int .i64 0, .int .u64 0, .int .u64 0, .int .u64 0, .int .u64 0, .int .i64 0, .int .i64 0, .int .i64 0, .int .i64 0, .string ⟨#[]⟩] 79) = (w.alloc (.cells #[] 100)).alloc (.cells (rgZ 0 0 0 0 0 0 0 eT) 79) := rfl
  try rw [e0]
  clear e0
  generalize (w.alloc (.cells #[] 100)).alloc (.cells (rgZ 0 0 0 0 0 0 0 eT) 79) = w1 at *
  generalize hBB : w.heap.size + 1 = BB at HR
  have hBB2 : w.heap.size ≤ BB := by omega
  go_wp2_with fail
  refine (HRD.out _).mono ?_
  rintro en w2 ⟨rfl, hb⟩
  replace HR := Lib.hid (HR.out.below hb (Blk.lt HR.out))
  replace HB := Lib.hid (HB.out.trans (hb.mono (by omega)))
  replace hz := Nat.le_trans hz hb.size
  clear hb HRD
  go_upto_region 2 with fail
  have HC := Lib.hid (Blk.new w2 (spI n m) 128)
  replace HR := Lib.hid (HR.out.alloc (.cells (spI n m) 128))
  replace HB := Lib.hid (HB.out.alloc (by omega) (.cells (spI n m) 128))
  have hz3 : w.heap.size + 1 ≤ (w2.alloc (.cells (spI n m) 128)).heap.size := by simp; omega
  generalize w2.alloc (.cells (spI n m) 128) = w3 at *
  generalize w2.heap.size = B at *
  by_cases he : e = 0
  · subst he
    have hl : l = eT := HL.out (by decide)
    have hY : Y = (⟨5, a, p, 0, n, m⟩, 0, 0) := by rw [HY.out, if_neg (by decide)]
    subst hl hY
    have c0 := HC.out.cell 0
    have c1 := HC.out.cell 1
    simp only [List.getElem?_toArray, List.getElem?_cons_zero, List.getElem?_cons_succ] at c0 c1
    clear HL HY HLK hz HC
    go_wp2_with ((with_reducible refine wpList_store_st (o := ⟨none, .store 79 _ _, _, _, _, _⟩) rfl 79 _ _ rfl BB rfl rfl (run_storeAt_row _ BB 79 79 (rgZ 0 0 0 0 0 0 0 eT) (rgZ 5 a p n m 0 0 eT) ?_ ?_ ?_ ?_) ?_); exact HR.out; exact infoRg; rfl; exact rg_one _ _ _ 0 _ _ _ _ _)
    exact bodyPost_ret (v := .agg (rgZ 5 a p n m 0 0 eT)) (results_cell_row rfl _ _ BB 79 (rgZ 5 a p n m 0 0 eT) (0, 0) _ rfl (Blk.setRow HR.out) Tryz.underlying79 rfl infoRg) rfl ⟨by rw [rgZ_eq]; rfl, below_row HB.out hBB2 _⟩
  · have q : ((e : Int) != 0) = true := by rw [bne_iff_ne]; omega
    have hY : Y = (zWN, e, k) := by rw [HY.out, if_pos he]
    subst hY
    clear HL HY HC hz he
    go_wp2_with fail
    refine (HLK.out _).mono ?_
    rintro en w4 ⟨rfl, hb⟩
    replace HR := Lib.hid (HR.out.below hb (Blk.lt HR.out))
    replace HB := Lib.hid (HB.out.trans (hb.mono (by omega)))
    clear hb HLK
    go_wp2_with ((with_reducible refine wpList_store_st (o := ⟨none, .store 79 _ _, _, _, _, _⟩) rfl 79 _ _ rfl BB rfl rfl (run_storeAt_row _ BB 79 79 (rgZ 0 0 0 0 0 0 0 eT) (rgZ 0 0 0 0 0 e k l) ?_ ?_ ?_ ?_) ?_); exact HR.out; exact infoRg; rfl; exact rg_one _ _ _ 0 _ _ _ _ _)
    exact bodyPost_ret (v := .agg (rgZ 0 0 0 0 0 e k l)) (results_cell_row rfl _ _ BB 79 (rgZ 0 0 0 0 0 e k l) (0, 0) _ rfl (Blk.setRow HR.out) Tryz.underlying79 rfl infoRg) rfl ⟨by rw [rgZ_eq]; rfl, below_row HB.out hBB2 _⟩

/-- What One reads at a byte that begins no other kind, and what lacks there. -/
def oneR (s : ByteArray) (a : Nat) : WN × Nat × Nat :=
  if bt s a = 91 then brkW s a else if bt s a = 92 then slashW s a else if bt s a = 46 then (oneW (range 0 255) a (a + 1), 0, 0) else (oneW (range (bt s a) (bt s a)) a (a + 1), 0, 0)
def oneL (s : ByteArray) (a : Nat) : ByteArray := if bt s a = 91 then (wholeD s a).lack else if bt s a = 92 then lackS s a else eT
theorem anyS : (~~~(0 : BitVec 256)) = range 0 255 := by decide +kernel
set_option maxRecDepth 100000 in
set_option maxHeartbeats 8000000 in
theorem oneRead_calls (s : ByteArray) (hs : s.size ≤ 1000000) (a : Nat) (ha : a < s.size) (w : World) : Calls Tryz.prog 103 #[.agg #[], .string s, .int .i64 a] w fun en w' => en = .returned (.agg (rgA (oneR s a) (oneL s a))) ∧ Below w.heap.size w w' := by
  have x1 : IntKind.i64.wrap ((a : Int) + 1) = (a : Int) + 1 := IntWalk.i64_in _ (by omega)
  have h0 : s[a].toNat = bt s a := (bt_eq s a ha).symm
  have hl0 := bt_lt s a
  have HB1 := Lib.hid (fun w => inB5_calls s hs a w)
  have HE1 := Lib.hid (fun w => esc5_calls s hs a ha w)
  have HY := Lib.hid (show oneR s a = if bt s a = 91 then brkW s a else if bt s a = 92 then slashW s a else if bt s a = 46 then (oneW (range 0 255) a (a + 1), 0, 0) else (oneW (range (bt s a) (bt s a)) a (a + 1), 0, 0) from rfl)
  have HL := Lib.hid (show oneL s a = if bt s a = 91 then (wholeD s a).lack else if bt s a = 92 then lackS s a else eT from rfl)
  generalize oneR s a = Y at *
  generalize oneL s a = l at *
  generalize brkW s a = YB at *
  generalize (wholeD s a).lack = lB at *
  generalize slashW s a = YS at *
  generalize lackS s a = lS at *
  have HR := Lib.hid (Blk.new (w.alloc (.cells #[] 101)) (rgZ 0 0 0 0 0 0 0 eT) 79)
  rw [World.size_alloc] at HR
  have HB : Hid (Below w.heap.size w ((w.alloc (.cells #[] 101)).alloc (.cells (rgZ 0 0 0 0 0 0 0 eT) 79))) := Lib.hid (by go_grown)
  have hz : w.heap.size + 2 ≤ ((w.alloc (.cells #[] 101)).alloc (.cells (rgZ 0 0 0 0 0 0 0 eT) 79)).heap.size := by simp
  go_enter Tryz.func103, Tryz.ntmps103
  go_upto_region 1 with fail
  have e0 : (w.alloc (.cells #[] 101)).alloc (.cells #[.int .i64 0, .int .i64 0, .int .i64 0, .int .u64 0, .int .u64 0, .int .u64 0, .int .u64 0, .int .i64 0, .int .i64 0, .int .i64 0, .int .i64 0, .string ⟨#[]⟩] 79) = (w.alloc (.cells #[] 101)).alloc (.cells (rgZ 0 0 0 0 0 0 0 eT) 79) := rfl
  try rw [e0]
  clear e0
  generalize (w.alloc (.cells #[] 101)).alloc (.cells (rgZ 0 0 0 0 0 0 0 eT) 79) = w1 at *
  generalize hBB : w.heap.size + 1 = BB at HR
  have hBB2 : w.heap.size ≤ BB := by omega
  generalize bt s a = b at *
  by_cases h1 : b = 91
  · have q : ((b : Int) == 91) = true := by rw [beq_iff_eq]; omega
    obtain rfl : Y = YB := by rw [HY.out, if_pos h1]
    obtain rfl : l = lB := by rw [HL.out, if_pos h1]
    clear HY HL HE1 h1
    obtain ⟨⟨k, p, e, t, n, m⟩, er, pl⟩ := Y
    go_wp2_with fail
    refine (HB1.out _).mono ?_
    rintro en w2 ⟨rfl, hb⟩
    replace HR := Lib.hid (HR.out.below hb (Blk.lt HR.out))
    replace HB := Lib.hid (HB.out.trans (hb.mono (by omega)))
    replace hz := Nat.le_trans hz hb.size
    clear hb HB1
    go_wp2_with ((with_reducible refine wpList_store_st (o := ⟨none, .store 79 _ _, _, _, _, _⟩) rfl 79 _ _ rfl BB rfl rfl (run_storeAt_row _ BB 79 79 (rgZ 0 0 0 0 0 0 0 eT) (rgI k p e t n m er pl l) ?_ ?_ ?_ ?_) ?_); exact HR.out; exact infoRg; rfl; exact rg_one _ _ _ _ _ _ _ _ _)
    exact bodyPost_ret (v := .agg (rgI k p e t n m er pl l)) (results_cell_row rfl _ _ BB 79 (rgI k p e t n m er pl l) (0, 0) _ rfl (Blk.setRow HR.out) Tryz.underlying79 rfl infoRg) rfl ⟨rfl, below_row HB.out hBB2 _⟩
  have q : ((b : Int) == 91) = false := by rw [beq_eq_false_iff_ne]; omega
  by_cases h2 : b = 92
  · have q2 : ((b : Int) == 92) = true := by rw [beq_iff_eq]; omega
    obtain rfl : Y = YS := by rw [HY.out, if_neg h1, if_pos h2]
    obtain rfl : l = lS := by rw [HL.out, if_neg h1, if_pos h2]
    clear HY HL HB1 h1 h2
    obtain ⟨⟨k, p, e, t, n, m⟩, er, pl⟩ := Y
    go_wp2_with fail
    refine (HE1.out _).mono ?_
    rintro en w2 ⟨rfl, hb⟩
    replace HR := Lib.hid (HR.out.below hb (Blk.lt HR.out))
    replace HB := Lib.hid (HB.out.trans (hb.mono (by omega)))
    replace hz := Nat.le_trans hz hb.size
    clear hb HE1
    go_wp2_with ((with_reducible refine wpList_store_st (o := ⟨none, .store 79 _ _, _, _, _, _⟩) rfl 79 _ _ rfl BB rfl rfl (run_storeAt_row _ BB 79 79 (rgZ 0 0 0 0 0 0 0 eT) (rgI k p e t n m er pl l) ?_ ?_ ?_ ?_) ?_); exact HR.out; exact infoRg; rfl; exact rg_one _ _ _ _ _ _ _ _ _)
    exact bodyPost_ret (v := .agg (rgI k p e t n m er pl l)) (results_cell_row rfl _ _ BB 79 (rgI k p e t n m er pl l) (0, 0) _ rfl (Blk.setRow HR.out) Tryz.underlying79 rfl infoRg) rfl ⟨rfl, below_row HB.out hBB2 _⟩
  have q2 : ((b : Int) == 92) = false := by rw [beq_eq_false_iff_ne]; omega
  obtain rfl : l = eT := by rw [HL.out, if_neg h1, if_neg h2]
  by_cases h3 : b = 46
  · have q3 : ((b : Int) == 46) = true := by rw [beq_iff_eq]; omega
    obtain rfl : Y = (oneW (range 0 255) a (a + 1), 0, 0) := by rw [HY.out, if_neg h1, if_neg h2, if_pos h3]
    have hAN := cAny_calls
    rw [anyS] at hAN
    have HAN := Lib.hid hAN
    clear hAN
    generalize hT : range 0 255 = t at *
    have HTT := Lib.hid hT
    clear hT
    have HO := Lib.hid (fun w => oneOf5_calls t a ((a : Int) + 1) w)
    clear HY HL HB1 HE1 h1 h2 h3
    go_wp2_with fail
    refine (HAN.out _).mono ?_
    rintro en w2 ⟨rfl, hb⟩
    replace HR := Lib.hid (HR.out.below hb (Blk.lt HR.out))
    replace HB := Lib.hid (HB.out.trans (hb.mono (by omega)))
    replace hz := Nat.le_trans hz hb.size
    clear hb HAN
    go_wp2_with fail
    refine (HO.out _).mono ?_
    rintro en w3 ⟨rfl, hb⟩
    replace HR := Lib.hid (HR.out.below hb (Blk.lt HR.out))
    replace HB := Lib.hid (HB.out.trans (hb.mono (by omega)))
    replace hz := Nat.le_trans hz hb.size
    clear hb HO
    go_wp2_with ((with_reducible refine wpList_store_st (o := ⟨none, .store 79 _ _, _, _, _, _⟩) rfl 79 _ _ rfl BB rfl rfl (run_storeAt_row _ BB 79 79 (rgZ 0 0 0 0 0 0 0 eT) (rgI 1 a ((a : Int) + 1) t 0 0 0 0 eT) ?_ ?_ ?_ ?_) ?_); exact HR.out; exact infoRg; rfl; exact rg_one _ _ _ _ _ _ _ _ _)
    exact bodyPost_ret (v := .agg (rgI 1 a ((a : Int) + 1) t 0 0 0 0 eT)) (results_cell_row rfl _ _ BB 79 (rgI 1 a ((a : Int) + 1) t 0 0 0 0 eT) (0, 0) _ rfl (Blk.setRow HR.out) Tryz.underlying79 rfl infoRg) rfl ⟨by rw [rgA_one, HTT.out], below_row HB.out hBB2 _⟩
  have q3 : ((b : Int) == 46) = false := by rw [beq_eq_false_iff_ne]; omega
  obtain rfl : Y = (oneW (range b b) a (a + 1), 0, 0) := by rw [HY.out, if_neg h1, if_neg h2, if_neg h3]
  have HWT := Lib.hid (fun W t => dWith_calls W t b hl0)
  generalize hT : range b b = t at *
  have HTT := Lib.hid hT
  clear hT
  have HO := Lib.hid (fun w => oneOf5_calls t a ((a : Int) + 1) w)
  clear HY HL HB1 HE1 h1 h2 h3
  go_wp2_with fail
  replace HR := Lib.hid (HR.out.alloc (.cells #[.int .u8 b] 5))
  replace HB := Lib.hid (HB.out.alloc (by omega) (.cells #[.int .u8 b] 5))
  have hz3 : w.heap.size + 2 ≤ (w1.alloc (.cells #[.int .u8 b] 5)).heap.size := by simp; omega
  clear hz
  have hz := hz3
  clear hz3
  refine Calls.mono (HWT.out w1 _) ?_
  rintro en w4 ⟨rfl, hb⟩
  replace HR := Lib.hid (HR.out.below hb (Blk.lt HR.out))
  replace HB := Lib.hid (HB.out.trans (hb.mono (by omega)))
  replace hz := Nat.le_trans hz hb.size
  clear hb HWT
  go_wp2_with fail
  refine (HO.out _).mono ?_
  rintro en w5 ⟨rfl, hb⟩
  replace HR := Lib.hid (HR.out.below hb (Blk.lt HR.out))
  replace HB := Lib.hid (HB.out.trans (hb.mono (by omega)))
  replace hz := Nat.le_trans hz hb.size
  clear hb HO
  go_wp2_with ((with_reducible refine wpList_store_st (o := ⟨none, .store 79 _ _, _, _, _, _⟩) rfl 79 _ _ rfl BB rfl rfl (run_storeAt_row _ BB 79 79 (rgZ 0 0 0 0 0 0 0 eT) (rgI 1 a ((a : Int) + 1) t 0 0 0 0 eT) ?_ ?_ ?_ ?_) ?_); exact HR.out; exact infoRg; rfl; exact rg_one _ _ _ _ _ _ _ _ _)
  exact bodyPost_ret (v := .agg (rgI 1 a ((a : Int) + 1) t 0 0 0 0 eT)) (results_cell_row rfl _ _ BB 79 (rgI 1 a ((a : Int) + 1) t 0 0 0 0 eT) (0, 0) _ rfl (Blk.setRow HR.out) Tryz.underlying79 rfl infoRg) rfl ⟨by rw [rgA_one, HTT.out], below_row HB.out hBB2 _⟩
end Go.Proofs.YthodphgbdmnpoaaGreat

/- Texts put together: Me. -/
import Derived.Test.YtldaaelmifbbhaaGreatPG
/- The developers' counts: read. -/
namespace Go.Proofs.YtldaaelmifbbhaaGreat
open Go.RowKit

def SRe (w : World) (B : Nat) (c n m : Int) (W : World) : Prop := (Blk W w.heap.size (rdI 0 0 0 eT 0) 159 ∧ Blk W B #[.int .u8 c, .int .i64 n, .int .i64 m] 163 ∧ w.heap.size + 1 ≤ B) ∧ Below w.heap.size w W
theorem SRe.drewS {w W : World} {B : Nat} {c n m : Int} (h : SRe w B c n m W) : SRe w B c n m W.drew := ⟨⟨h.1.1, h.1.2.1, h.1.2.2⟩, h.2.drew⟩

set_option maxRecDepth 100000 in
set_option maxHeartbeats 16000000 in
theorem readD4_calls (s : ByteArray) (hs : s.size ≤ 1000000) (at' : Int) (w : World) :
    Calls Tryz.prog 117 #[.string s, .int .i64 at'] w fun en w' => en = .returned (.agg (rdA (readD4 s at'))) ∧ Below w.heap.size w w' := by
  have HR := Lib.hid (Blk.new w (rdI 0 0 0 eT 0) 159)
  have HB : Hid (Below w.heap.size w (w.alloc (.cells (rdI 0 0 0 eT 0) 159))) := Lib.hid (by go_grown)
  have hz : w.heap.size + 1 ≤ (w.alloc (.cells (rdI 0 0 0 eT 0) 159)).heap.size := by simp
  have HFA := Lib.hid (faultD_calls 1 0)
  have HSG := Lib.hid signs_calls
  have hg : readD4 s at' = readD4 s at' := rfl
  conv at hg => rhs; unfold readD4
  by_cases hat : at' < 0 ∨ (s.size : Int) ≤ at'
  · rw [if_pos hat] at hg
    generalize readD4 s at' = Y at *
    have HRES := Lib.hid hg
    clear hg
    by_cases h0 : at' < 0
    · have q0 : decide (at' < 0) = true := by simpa using h0
      clear hat h0
      go_enter Tryz.func117, Tryz.ntmps117
      go_upto_region 1 with fail
      have e0 : w.alloc (.cells #[.int .i64 0, .int .i64 0, .int .i64 0, .string ⟨#[]⟩, .int .i64 0] 159) = w.alloc (.cells (rdI 0 0 0 eT 0) 159) := rfl
      try rw [e0]
      clear e0
      generalize w.alloc (.cells (rdI 0 0 0 eT 0) 159) = w1 at *
      go_wp2_with fail
      refine (HFA.out _).mono ?_
      rintro en w4 ⟨rfl, hb⟩
      have HR2 := Lib.hid (HR.out.below hb (Blk.lt HR.out))
      have HB2 := Lib.hid (HB.out.trans (hb.mono (by omega)))
      have hz2 := Nat.le_trans hz hb.size
      clear HR HB hz hb
      have HR := HR2
      have HB := HB2
      have hz := hz2
      clear HR2 HB2 hz2
      go_wp2_with ((with_reducible refine wpList_store_st (o := ⟨none, .store 159 _ _, _, _, _, _⟩) rfl 159 _ _ rfl w.heap.size rfl rfl (run_storeAt_row _ w.heap.size 159 159 (rdI 0 0 0 eT 0) (rdI 0 0 0 eT 1) ?_ ?_ ?_ ?_) ?_); exact HR.out; exact infoRd; rfl; exact rdC_one _ _ _ _ _)
      exact bodyPost_ret (v := .agg (rdI 0 0 0 eT 1)) (results_cell_row rfl _ _ w.heap.size 159 (rdI 0 0 0 eT 1) (0, 0) _ rfl (Blk.setRow HR.out) Tryz.underlying159 rfl infoRd) rfl ⟨by rw [HRES.out] <;> rfl, below_row HB.out (by omega) _⟩
    · have q0 : decide (at' < 0) = false := by simpa using h0
      have q1 : decide ((s.size : Int) ≤ at') = true := by rw [decide_eq_true_iff]; omega
      clear hat
      go_enter Tryz.func117, Tryz.ntmps117
      go_upto_region 1 with fail
      have e0 : w.alloc (.cells #[.int .i64 0, .int .i64 0, .int .i64 0, .string ⟨#[]⟩, .int .i64 0] 159) = w.alloc (.cells (rdI 0 0 0 eT 0) 159) := rfl
      try rw [e0]
      clear e0
      generalize w.alloc (.cells (rdI 0 0 0 eT 0) 159) = w1 at *
      go_wp2_with fail
      refine (HFA.out _).mono ?_
      rintro en w4 ⟨rfl, hb⟩
      have HR2 := Lib.hid (HR.out.below hb (Blk.lt HR.out))
      have HB2 := Lib.hid (HB.out.trans (hb.mono (by omega)))
      have hz2 := Nat.le_trans hz hb.size
      clear HR HB hz hb
      have HR := HR2
      have HB := HB2
      have hz := hz2
      clear HR2 HB2 hz2
      go_wp2_with ((with_reducible refine wpList_store_st (o := ⟨none, .store 159 _ _, _, _, _, _⟩) rfl 159 _ _ rfl w.heap.size rfl rfl (run_storeAt_row _ w.heap.size 159 159 (rdI 0 0 0 eT 0) (rdI 0 0 0 eT 1) ?_ ?_ ?_ ?_) ?_); exact HR.out; exact infoRd; rfl; exact rdC_one _ _ _ _ _)
      exact bodyPost_ret (v := .agg (rdI 0 0 0 eT 1)) (results_cell_row rfl _ _ w.heap.size 159 (rdI 0 0 0 eT 1) (0, 0) _ rfl (Blk.setRow HR.out) Tryz.underlying159 rfl infoRd) rfl ⟨by rw [HRES.out] <;> rfl, below_row HB.out (by omega) _⟩
  rw [if_neg hat] at hg
  obtain ⟨a, rfl⟩ : ∃ a : Nat, at' = a := ⟨at'.toNat, by omega⟩
  rw [show (a : Int).toNat = a from rfl] at hg
  have hlt : a < s.size := by omega
  clear hat
  have b0 : s[a].toNat = bt s a := (bt_eq s a hlt).symm
  by_cases h123 : bt s a = 123
  · rw [if_pos h123] at hg
    generalize readD4 s a = Y at *
    rw [h123] at b0
    have hC := bracesD_calls s hs (a + 1) (by omega)
    generalize bracesD s (a + 1) = Z at *
    obtain ⟨zn, zm, zp, zl, ze⟩ := Z
    have HRES := Lib.hid hg
    clear hg HFA h123
    have HFA : Hid (∀ w, Calls Tryz.prog 119 #[.string s, .int .i64 ((a : Int) + 1)] w fun en w' => en = .returned (.agg (rdI zn zm zp (ofT zl) ze)) ∧ Below w.heap.size w w') := Lib.hid hC
    clear hC
    go_enter Tryz.func117, Tryz.ntmps117
    go_upto_region 1 with fail
    have e0 : w.alloc (.cells #[.int .i64 0, .int .i64 0, .int .i64 0, .string ⟨#[]⟩, .int .i64 0] 159) = w.alloc (.cells (rdI 0 0 0 eT 0) 159) := rfl
    try rw [e0]
    clear e0
    generalize w.alloc (.cells (rdI 0 0 0 eT 0) 159) = w1 at *
    go_wp2_with fail
    refine (HFA.out _).mono ?_
    rintro en w4 ⟨rfl, hb⟩
    have HR2 := Lib.hid (HR.out.below hb (Blk.lt HR.out))
    have HB2 := Lib.hid (HB.out.trans (hb.mono (by omega)))
    have hz2 := Nat.le_trans hz hb.size
    clear HR HB hz hb
    have HR := HR2
    have HB := HB2
    have hz := hz2
    clear HR2 HB2 hz2
    go_wp2_with ((with_reducible refine wpList_store_st (o := ⟨none, .store 159 _ _, _, _, _, _⟩) rfl 159 _ _ rfl w.heap.size rfl rfl (run_storeAt_row _ w.heap.size 159 159 (rdI 0 0 0 eT 0) (rdI zn zm zp (ofT zl) ze) ?_ ?_ ?_ ?_) ?_); exact HR.out; exact infoRd; rfl; exact rdC_one _ _ _ _ _)
    exact bodyPost_ret (v := .agg (rdI zn zm zp (ofT zl) ze)) (results_cell_row rfl _ _ w.heap.size 159 (rdI zn zm zp (ofT zl) ze) (0, 0) _ rfl (Blk.setRow HR.out) Tryz.underlying159 rfl infoRd) rfl ⟨by rw [HRES.out] <;> rfl, below_row HB.out (by omega) _⟩
  rw [if_neg h123] at hg
  have hb256 := bt_lt s a
  generalize bt s a = b at *
  have q123 : ((b : Int) == 123) = false := by rw [beq_eq_false_iff_ne]; omega
  generalize readD4 s a = Y at *
  have HG := Lib.hid hg
  clear hg h123
  go_enter Tryz.func117, Tryz.ntmps117
  go_upto_region 1 with fail
  have e0 : w.alloc (.cells #[.int .i64 0, .int .i64 0, .int .i64 0, .string ⟨#[]⟩, .int .i64 0] 159) = w.alloc (.cells (rdI 0 0 0 eT 0) 159) := rfl
  try rw [e0]
  clear e0
  generalize w.alloc (.cells (rdI 0 0 0 eT 0) 159) = w1 at *
  go_wp2_with fail
  refine (HSG.out _).mono ?_
  rintro en w4 ⟨rfl, hb⟩
  have HR2 := Lib.hid (HR.out.below hb (Blk.lt HR.out))
  have HB2 := Lib.hid (HB.out.trans (hb.mono (by omega)))
  have hz2 := Nat.le_trans hz hb.size
  clear HR HB hz hb
  have HR := HR2
  have HB := HB2
  have hz := hz2
  clear HR2 HB2 hz2
  clear HSG q123
  go_wp2_with fail
  go_loopw [25] (fun x wr => ∃ k : Nat, k ≤ 3 ∧ x = .int .i64 k ∧ (1 ≤ k → b ≠ 42) ∧ (2 ≤ k → b ≠ 43) ∧ (3 ≤ k → b ≠ 63) ∧ Blk wr w.heap.size (rdI 0 0 0 eT 0) 159 ∧ Below w.heap.size w wr ∧ w.heap.size + 1 ≤ wr.heap.size) (fun x _ => 3 - (intOf x).toNat)
  case atStart => exact ⟨0, by omega, rfl, fun h => by omega, fun h => by omega, fun h => by omega, HR.out, HB.out, hz⟩
  case round =>
    clear HR HB hz
    obtain ⟨k, hk, rfl, k1, k2, k3, hR, hB, hz⟩ := hrel
    have HR := Lib.hid hR
    have HB := Lib.hid hB
    clear hR hB
    rcases (by omega : k = 0 ∨ k = 1 ∨ k = 2 ∨ k = 3) with rfl | rfl | rfl | rfl
    · have h0 : SRe w wr.heap.size 42 0 (-1) (wr.alloc (.cells #[.int .u8 42, .int .i64 0, .int .i64 (-1)] 163)) := ⟨⟨HR.out.alloc _, Blk.new wr _ _, hz⟩, HB.out.alloc (by omega) _⟩
      have hz2 : w.heap.size + 1 ≤ (wr.alloc (.cells #[.int .u8 42, .int .i64 0, .int .i64 (-1)] 163)).heap.size := by simp; omega
      clear HR HB
      have hix : ∀ w', (Instr.index 164 (.agg sgI) (.int .i64 0)).run Tryz.prog w' = .ok (.agg #[.int .u8 42, .int .i64 0, .int .i64 (-1)]) w' := fun w' => by kernel_rfl
      go_wp2_with fail
      clear hix
      generalize wr.alloc (.cells #[.int .u8 42, .int .i64 0, .int .i64 (-1)] 163) = w5 at *
      generalize wr.heap.size = B at *
      refine region_steps (S := SRe w B 42 0 (-1)) (by kernel_rfl) h0.drewS ?_
      clear h0 hz2
      simp only [List.size_toArray, List.length_cons, List.length_nil, Nat.reduceAdd, Array.replicate_succ, Array.replicate_zero, List.push_toArray, List.nil_append, List.cons_append]
      refine AnyS.next (i := 0) (d := some 28) (v := .pointer (some ⟨B, 0, none⟩)) rfl rfl (by kernel_rfl) (by kernel_rfl) (by kernel_rfl) (StepsIf.yield (by kernel_rfl) (fun w' hS => by clear hS; go_simp)) ?_
      intro a' ha'
      simp only [Act.put, List.setIfInBounds_toArray, List.set_cons_zero, List.set_cons_succ] at ha'
      subst ha'
      refine AnyS.next (i := 1) (d := some 29) (v := .int .u8 42) rfl rfl (by kernel_rfl) (by kernel_rfl) (by kernel_rfl) (StepsIf.yield (by kernel_rfl) (fun w' hS => by have c0 := hS.1.2.1.cell 0; simp only [List.getElem?_toArray, List.getElem?_cons_zero] at c0; clear hS; go_simp)) ?_
      intro a' ha'
      simp only [Act.put, List.setIfInBounds_toArray, List.set_cons_zero, List.set_cons_succ] at ha'
      subst ha'
      refine AnyS.next (i := 2) (d := some 30) (v := .string s) rfl rfl (by kernel_rfl) (by kernel_rfl) (by kernel_rfl) (StepsIf.yield (by kernel_rfl) (fun w' hS => by clear hS; go_simp)) ?_
      intro a' ha'
      simp only [Act.put, List.setIfInBounds_toArray, List.set_cons_zero, List.set_cons_succ] at ha'
      subst ha'
      refine AnyS.next (i := 3) (d := some 31) (v := .int .i64 a) rfl rfl (by kernel_rfl) (by kernel_rfl) (by kernel_rfl) (StepsIf.yield (by kernel_rfl) (fun w' hS => by clear hS; go_simp)) ?_
      intro a' ha'
      simp only [Act.put, List.setIfInBounds_toArray, List.set_cons_zero, List.set_cons_succ] at ha'
      subst ha'
      refine AnyS.next (i := 4) (d := some 32) (v := .int .u8 b) rfl rfl (by kernel_rfl) (by kernel_rfl) (by kernel_rfl) (StepsIf.yield (by kernel_rfl) (fun w' hS => by clear hS; go_simp)) ?_
      intro a' ha'
      simp only [Act.put, List.setIfInBounds_toArray, List.set_cons_zero, List.set_cons_succ] at ha'
      subst ha'
      refine AnyS.next (i := 5) (d := some 33) (v := .bool ((42 : Int) == (b : Int))) rfl rfl (by kernel_rfl) (by kernel_rfl) (by kernel_rfl) (StepsIf.yield (by kernel_rfl) (fun w' hS => by clear hS; go_simp)) ?_
      intro a' ha'
      simp only [Act.put, List.setIfInBounds_toArray, List.set_cons_zero, List.set_cons_succ] at ha'
      subst ha'
      refine AnyS.done (by kernel_rfl) (fun w6 hS => ?_) _
      have c1 := hS.1.2.1.cell 1; have c2 := hS.1.2.1.cell 2
      simp only [List.getElem?_toArray, List.getElem?_cons_zero, List.getElem?_cons_succ] at c1 c2
      have HR := Lib.hid hS.1.1
      have HB := Lib.hid hS.2
      have hz2 : w.heap.size + 1 ≤ w6.heap.size := by have := hS.1.2.1.lt; have := hS.1.2.2; omega
      clear hS
      by_cases hbb : b = 42
      · subst hbb
        have HRES := Lib.hid (show Y = okR 0 (-1) (a + 1) by rw [HG.out]; rfl)
        clear HG k1 k2 k3 hz
        go_wp2_with ((with_reducible refine wpList_store_st (o := ⟨none, .store 159 _ _, _, _, _, _⟩) rfl 159 _ _ rfl w.heap.size rfl rfl (run_storeAt_row _ w.heap.size 159 159 (rdI 0 0 0 eT 0) (rdI 0 (-1) ((a : Int) + 1) eT 0) ?_ ?_ ?_ ?_) ?_); exact HR.out; exact infoRd; rfl; exact rdC_one _ _ _ _ _)
        exact bodyPost_ret (v := .agg (rdI 0 (-1) ((a : Int) + 1) eT 0)) (results_cell_row rfl _ _ w.heap.size 159 (rdI 0 (-1) ((a : Int) + 1) eT 0) (0, 0) _ rfl (Blk.setRow HR.out) Tryz.underlying159 rfl infoRd) rfl ⟨by rw [HRES.out] <;> rfl, below_row HB.out (by omega) _⟩
      · have qb : ((42 : Int) == (b : Int)) = false := by rw [beq_eq_false_iff_ne]; omega
        clear c1 c2
        go_wp2_with fail
        go_roundw
        case rel => exact ⟨1, by omega, rfl, fun _ => by first | exact hbb | exact k1 (by omega), fun h => by first | omega | exact hbb | exact k2 (by omega), fun h => by first | omega | exact hbb, HR.out, HB.out, hz2⟩
        case measure => simp [intOf]
    · have h0 : SRe w wr.heap.size 43 1 (-1) (wr.alloc (.cells #[.int .u8 43, .int .i64 1, .int .i64 (-1)] 163)) := ⟨⟨HR.out.alloc _, Blk.new wr _ _, hz⟩, HB.out.alloc (by omega) _⟩
      have hz2 : w.heap.size + 1 ≤ (wr.alloc (.cells #[.int .u8 43, .int .i64 1, .int .i64 (-1)] 163)).heap.size := by simp; omega
      clear HR HB
      have hix : ∀ w', (Instr.index 164 (.agg sgI) (.int .i64 1)).run Tryz.prog w' = .ok (.agg #[.int .u8 43, .int .i64 1, .int .i64 (-1)]) w' := fun w' => by kernel_rfl
      go_wp2_with fail
      clear hix
      generalize wr.alloc (.cells #[.int .u8 43, .int .i64 1, .int .i64 (-1)] 163) = w5 at *
      generalize wr.heap.size = B at *
      refine region_steps (S := SRe w B 43 1 (-1)) (by kernel_rfl) h0.drewS ?_
      clear h0 hz2
      simp only [List.size_toArray, List.length_cons, List.length_nil, Nat.reduceAdd, Array.replicate_succ, Array.replicate_zero, List.push_toArray, List.nil_append, List.cons_append]
      refine AnyS.next (i := 0) (d := some 28) (v := .pointer (some ⟨B, 0, none⟩)) rfl rfl (by kernel_rfl) (by kernel_rfl) (by kernel_rfl) (StepsIf.yield (by kernel_rfl) (fun w' hS => by clear hS; go_simp)) ?_
      intro a' ha'
      simp only [Act.put, List.setIfInBounds_toArray, List.set_cons_zero, List.set_cons_succ] at ha'
      subst ha'
      refine AnyS.next (i := 1) (d := some 29) (v := .int .u8 43) rfl rfl (by kernel_rfl) (by kernel_rfl) (by kernel_rfl) (StepsIf.yield (by kernel_rfl) (fun w' hS => by have c0 := hS.1.2.1.cell 0; simp only [List.getElem?_toArray, List.getElem?_cons_zero] at c0; clear hS; go_simp)) ?_
      intro a' ha'
      simp only [Act.put, List.setIfInBounds_toArray, List.set_cons_zero, List.set_cons_succ] at ha'
      subst ha'
      refine AnyS.next (i := 2) (d := some 30) (v := .string s) rfl rfl (by kernel_rfl) (by kernel_rfl) (by kernel_rfl) (StepsIf.yield (by kernel_rfl) (fun w' hS => by clear hS; go_simp)) ?_
      intro a' ha'
      simp only [Act.put, List.setIfInBounds_toArray, List.set_cons_zero, List.set_cons_succ] at ha'
      subst ha'
      refine AnyS.next (i := 3) (d := some 31) (v := .int .i64 a) rfl rfl (by kernel_rfl) (by kernel_rfl) (by kernel_rfl) (StepsIf.yield (by kernel_rfl) (fun w' hS => by clear hS; go_simp)) ?_
      intro a' ha'
      simp only [Act.put, List.setIfInBounds_toArray, List.set_cons_zero, List.set_cons_succ] at ha'
      subst ha'
      refine AnyS.next (i := 4) (d := some 32) (v := .int .u8 b) rfl rfl (by kernel_rfl) (by kernel_rfl) (by kernel_rfl) (StepsIf.yield (by kernel_rfl) (fun w' hS => by clear hS; go_simp)) ?_
      intro a' ha'
      simp only [Act.put, List.setIfInBounds_toArray, List.set_cons_zero, List.set_cons_succ] at ha'
      subst ha'
      refine AnyS.next (i := 5) (d := some 33) (v := .bool ((43 : Int) == (b : Int))) rfl rfl (by kernel_rfl) (by kernel_rfl) (by kernel_rfl) (StepsIf.yield (by kernel_rfl) (fun w' hS => by clear hS; go_simp)) ?_
      intro a' ha'
      simp only [Act.put, List.setIfInBounds_toArray, List.set_cons_zero, List.set_cons_succ] at ha'
      subst ha'
      refine AnyS.done (by kernel_rfl) (fun w6 hS => ?_) _
      have c1 := hS.1.2.1.cell 1; have c2 := hS.1.2.1.cell 2
      simp only [List.getElem?_toArray, List.getElem?_cons_zero, List.getElem?_cons_succ] at c1 c2
      have HR := Lib.hid hS.1.1
      have HB := Lib.hid hS.2
      have hz2 : w.heap.size + 1 ≤ w6.heap.size := by have := hS.1.2.1.lt; have := hS.1.2.2; omega
      clear hS
      by_cases hbb : b = 43
      · subst hbb
        have HRES := Lib.hid (show Y = okR 1 (-1) (a + 1) by rw [HG.out]; rfl)
        clear HG k1 k2 k3 hz
        go_wp2_with ((with_reducible refine wpList_store_st (o := ⟨none, .store 159 _ _, _, _, _, _⟩) rfl 159 _ _ rfl w.heap.size rfl rfl (run_storeAt_row _ w.heap.size 159 159 (rdI 0 0 0 eT 0) (rdI 1 (-1) ((a : Int) + 1) eT 0) ?_ ?_ ?_ ?_) ?_); exact HR.out; exact infoRd; rfl; exact rdC_one _ _ _ _ _)
        exact bodyPost_ret (v := .agg (rdI 1 (-1) ((a : Int) + 1) eT 0)) (results_cell_row rfl _ _ w.heap.size 159 (rdI 1 (-1) ((a : Int) + 1) eT 0) (0, 0) _ rfl (Blk.setRow HR.out) Tryz.underlying159 rfl infoRd) rfl ⟨by rw [HRES.out] <;> rfl, below_row HB.out (by omega) _⟩
      · have qb : ((43 : Int) == (b : Int)) = false := by rw [beq_eq_false_iff_ne]; omega
        clear c1 c2
        go_wp2_with fail
        go_roundw
        case rel => exact ⟨2, by omega, rfl, fun _ => by first | exact hbb | exact k1 (by omega), fun h => by first | omega | exact hbb | exact k2 (by omega), fun h => by first | omega | exact hbb, HR.out, HB.out, hz2⟩
        case measure => simp [intOf]
    · have h0 : SRe w wr.heap.size 63 0 (1) (wr.alloc (.cells #[.int .u8 63, .int .i64 0, .int .i64 (1)] 163)) := ⟨⟨HR.out.alloc _, Blk.new wr _ _, hz⟩, HB.out.alloc (by omega) _⟩
      have hz2 : w.heap.size + 1 ≤ (wr.alloc (.cells #[.int .u8 63, .int .i64 0, .int .i64 (1)] 163)).heap.size := by simp; omega
      clear HR HB
      have hix : ∀ w', (Instr.index 164 (.agg sgI) (.int .i64 2)).run Tryz.prog w' = .ok (.agg #[.int .u8 63, .int .i64 0, .int .i64 (1)]) w' := fun w' => by kernel_rfl
      go_wp2_with fail
      clear hix
      generalize wr.alloc (.cells #[.int .u8 63, .int .i64 0, .int .i64 (1)] 163) = w5 at *
      generalize wr.heap.size = B at *
      refine region_steps (S := SRe w B 63 0 (1)) (by kernel_rfl) h0.drewS ?_
      clear h0 hz2
      simp only [List.size_toArray, List.length_cons, List.length_nil, Nat.reduceAdd, Array.replicate_succ, Array.replicate_zero, List.push_toArray, List.nil_append, List.cons_append]
      refine AnyS.next (i := 0) (d := some 28) (v := .pointer (some ⟨B, 0, none⟩)) rfl rfl (by kernel_rfl) (by kernel_rfl) (by kernel_rfl) (StepsIf.yield (by kernel_rfl) (fun w' hS => by clear hS; go_simp)) ?_
      intro a' ha'
      simp only [Act.put, List.setIfInBounds_toArray, List.set_cons_zero, List.set_cons_succ] at ha'
      subst ha'
      refine AnyS.next (i := 1) (d := some 29) (v := .int .u8 63) rfl rfl (by kernel_rfl) (by kernel_rfl) (by kernel_rfl) (StepsIf.yield (by kernel_rfl) (fun w' hS => by have c0 := hS.1.2.1.cell 0; simp only [List.getElem?_toArray, List.getElem?_cons_zero] at c0; clear hS; go_simp)) ?_
      intro a' ha'
      simp only [Act.put, List.setIfInBounds_toArray, List.set_cons_zero, List.set_cons_succ] at ha'
      subst ha'
      refine AnyS.next (i := 2) (d := some 30) (v := .string s) rfl rfl (by kernel_rfl) (by kernel_rfl) (by kernel_rfl) (StepsIf.yield (by kernel_rfl) (fun w' hS => by clear hS; go_simp)) ?_
      intro a' ha'
      simp only [Act.put, List.setIfInBounds_toArray, List.set_cons_zero, List.set_cons_succ] at ha'
      subst ha'
      refine AnyS.next (i := 3) (d := some 31) (v := .int .i64 a) rfl rfl (by kernel_rfl) (by kernel_rfl) (by kernel_rfl) (StepsIf.yield (by kernel_rfl) (fun w' hS => by clear hS; go_simp)) ?_
      intro a' ha'
      simp only [Act.put, List.setIfInBounds_toArray, List.set_cons_zero, List.set_cons_succ] at ha'
      subst ha'
      refine AnyS.next (i := 4) (d := some 32) (v := .int .u8 b) rfl rfl (by kernel_rfl) (by kernel_rfl) (by kernel_rfl) (StepsIf.yield (by kernel_rfl) (fun w' hS => by clear hS; go_simp)) ?_
      intro a' ha'
      simp only [Act.put, List.setIfInBounds_toArray, List.set_cons_zero, List.set_cons_succ] at ha'
      subst ha'
      refine AnyS.next (i := 5) (d := some 33) (v := .bool ((63 : Int) == (b : Int))) rfl rfl (by kernel_rfl) (by kernel_rfl) (by kernel_rfl) (StepsIf.yield (by kernel_rfl) (fun w' hS => by clear hS; go_simp)) ?_
      intro a' ha'
      simp only [Act.put, List.setIfInBounds_toArray, List.set_cons_zero, List.set_cons_succ] at ha'
      subst ha'
      refine AnyS.done (by kernel_rfl) (fun w6 hS => ?_) _
      have c1 := hS.1.2.1.cell 1; have c2 := hS.1.2.1.cell 2
      simp only [List.getElem?_toArray, List.getElem?_cons_zero, List.getElem?_cons_succ] at c1 c2
      have HR := Lib.hid hS.1.1
      have HB := Lib.hid hS.2
      have hz2 : w.heap.size + 1 ≤ w6.heap.size := by have := hS.1.2.1.lt; have := hS.1.2.2; omega
      clear hS
      by_cases hbb : b = 63
      · subst hbb
        have HRES := Lib.hid (show Y = okR 0 (1) (a + 1) by rw [HG.out]; rfl)
        clear HG k1 k2 k3 hz
        go_wp2_with ((with_reducible refine wpList_store_st (o := ⟨none, .store 159 _ _, _, _, _, _⟩) rfl 159 _ _ rfl w.heap.size rfl rfl (run_storeAt_row _ w.heap.size 159 159 (rdI 0 0 0 eT 0) (rdI 0 (1) ((a : Int) + 1) eT 0) ?_ ?_ ?_ ?_) ?_); exact HR.out; exact infoRd; rfl; exact rdC_one _ _ _ _ _)
        exact bodyPost_ret (v := .agg (rdI 0 (1) ((a : Int) + 1) eT 0)) (results_cell_row rfl _ _ w.heap.size 159 (rdI 0 (1) ((a : Int) + 1) eT 0) (0, 0) _ rfl (Blk.setRow HR.out) Tryz.underlying159 rfl infoRd) rfl ⟨by rw [HRES.out] <;> rfl, below_row HB.out (by omega) _⟩
      · have qb : ((63 : Int) == (b : Int)) = false := by rw [beq_eq_false_iff_ne]; omega
        clear c1 c2
        go_wp2_with fail
        go_roundw
        case rel => exact ⟨3, by omega, rfl, fun _ => by first | exact hbb | exact k1 (by omega), fun h => by first | omega | exact hbb | exact k2 (by omega), fun h => by first | omega | exact hbb, HR.out, HB.out, hz2⟩
        case measure => simp [intOf]
    · have HRES := Lib.hid (show Y = badC 1 0 by rw [HG.out, if_neg (k1 (by omega)), if_neg (k2 (by omega)), if_neg (k3 (by omega))])
      clear HG k1 k2 k3
      go_wp2_with fail
      refine (HFA.out _).mono ?_
      rintro en w4 ⟨rfl, hb⟩
      have HR2 := Lib.hid (HR.out.below hb (Blk.lt HR.out))
      have HB2 := Lib.hid (HB.out.trans (hb.mono (by omega)))
      have hz2 := Nat.le_trans hz hb.size
      clear HR HB hz hb
      have HR := HR2
      have HB := HB2
      have hz := hz2
      clear HR2 HB2 hz2
      go_wp2_with ((with_reducible refine wpList_store_st (o := ⟨none, .store 159 _ _, _, _, _, _⟩) rfl 159 _ _ rfl w.heap.size rfl rfl (run_storeAt_row _ w.heap.size 159 159 (rdI 0 0 0 eT 0) (rdI 0 0 0 eT 1) ?_ ?_ ?_ ?_) ?_); exact HR.out; exact infoRd; rfl; exact rdC_one _ _ _ _ _)
      exact bodyPost_ret (v := .agg (rdI 0 0 0 eT 1)) (results_cell_row rfl _ _ w.heap.size 159 (rdI 0 0 0 eT 1) (0, 0) _ rfl (Blk.setRow HR.out) Tryz.underlying159 rfl infoRd) rfl ⟨by rw [HRES.out] <;> rfl, below_row HB.out (by omega) _⟩
end Go.Proofs.YtldaaelmifbbhaaGreat

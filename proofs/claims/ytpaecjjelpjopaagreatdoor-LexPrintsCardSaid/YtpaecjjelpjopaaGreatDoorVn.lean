/- The laws of stage 5: LexPrints. -/
import Derived.Test.YtpaecjjelpjopaaGreatDoorVl
namespace Go.Proofs.YtpaecjjelpjopaaGreatDoor
open Go.RowKit BS

def SPr (w : World) (c : Array Value) (W : World) : Prop := Blk W w.heap.size c 27 ∧ TabG W ∧ Below w.heap.size w W
theorem SPr.drewS {w W : World} {c : Array Value} (h : SPr w c W) : SPr w c W.drew := ⟨h.1, h.2.1, h.2.2.drew⟩
theorem SPr.keep {w W W' : World} {c : Array Value} (h : SPr w c W) (hb : Below W.heap.size W W') : SPr w c W' := ⟨h.1.below hb h.1.lt, h.2.1.below hb, h.2.2.trans (hb.mono h.2.2.size)⟩
set_option maxRecDepth 100000 in
set_option maxHeartbeats 8000000 in
theorem prints5_calls (C : LexC) (k a e : Int) (t : BitVec 256) (n m : Int) (w : World) (hT : TabG w) : Calls Tryz.prog 5 #[.agg (woI k a e t n m)] w fun en w' => en = .returned (.bool true) ∧ Below w.heap.size w w' := by
  have h0 : SPr w (woI k a e t n m) (w.alloc (.cells (woI k a e t n m) 27)) := ⟨Blk.new w _ _, hT.alloc _, (Below.refl _ _).alloc (Nat.le_refl _) _⟩
  have HD := Lib.hid (C.text t)
  have HR := Lib.hid (rTextW_calls t)
  have HE := Lib.hid (C.print k a e t n m)
  have HF := Lib.hid (rPrintW_calls k a e t n m)
  have HSU := Lib.hid (sure5_calls C)
  generalize ofT (textW t) = T at *
  generalize ofT (printV k t n m) = P at *
  clear C hT
  go_enter Tryz.func5, Tryz.ntmps5
  go_upto_region 1 with fail
  have e0 : w.alloc (.cells #[.int .i64 k, .int .i64 a, .int .i64 e, .int .u64 (wd t 0), .int .u64 (wd t 1), .int .u64 (wd t 2), .int .u64 (wd t 3), .int .i64 n, .int .i64 m] 27) = w.alloc (.cells (woI k a e t n m) 27) := rfl
  try rw [e0]
  clear e0
  generalize w.alloc (.cells (woI k a e t n m) 27) = w1 at *
  refine region_steps (S := SPr w (woI k a e t n m)) (by kernel_rfl) h0.drewS ?_
  clear h0
  simp only [List.size_toArray, List.length_cons, List.length_nil, Nat.reduceAdd, Array.replicate_succ, Array.replicate_zero, List.push_toArray, List.nil_append, List.cons_append]
  refine AnyS.next (i := 0) (d := some 3) (v := .pointer (some ⟨w.heap.size, 3, none⟩)) rfl rfl (by kernel_rfl) (by kernel_rfl) (by kernel_rfl) (StepsIf.yield (by kernel_rfl) (fun w' hS => by clear hS; go_simp)) ?_
  intro a' ha'
  simp only [Act.put, List.setIfInBounds_toArray, List.set_cons_zero, List.set_cons_succ] at ha'
  subst ha'
  refine AnyS.next (i := 1) (d := some 4) (v := setV t) rfl rfl (by kernel_rfl) (by kernel_rfl) (by kernel_rfl) (StepsIf.yield (by kernel_rfl) (fun w' hS => by have c3 := hS.1.cell 3; have c4 := hS.1.cell 4; have c5 := hS.1.cell 5; have c6 := hS.1.cell 6; simp only [List.getElem?_toArray, List.getElem?_cons_zero, List.getElem?_cons_succ] at c3 c4 c5 c6; clear hS; go_simp)) ?_
  intro a' ha'
  simp only [Act.put, List.setIfInBounds_toArray, List.set_cons_zero, List.set_cons_succ] at ha'
  subst ha'
  refine AnyS.next (i := 2) (d := some 5) (v := .string T) rfl rfl (by kernel_rfl) (by kernel_rfl) (by kernel_rfl) (StepsIf.call (by kernel_rfl) (fun w' hS => by clear hS; go_simp) (fun w' hS => (HD.out w' hS.2.1).mono fun en w'' h => ⟨h.1, hS.keep h.2⟩)) ?_
  intro a' ha'
  simp only [Act.put, List.setIfInBounds_toArray, List.set_cons_zero, List.set_cons_succ] at ha'
  subst ha'
  refine AnyS.next (i := 3) (d := some 6) (v := .pointer (some ⟨w.heap.size, 3, none⟩)) rfl rfl (by kernel_rfl) (by kernel_rfl) (by kernel_rfl) (StepsIf.yield (by kernel_rfl) (fun w' hS => by clear hS; go_simp)) ?_
  intro a' ha'
  simp only [Act.put, List.setIfInBounds_toArray, List.set_cons_zero, List.set_cons_succ] at ha'
  subst ha'
  refine AnyS.next (i := 4) (d := some 7) (v := setV t) rfl rfl (by kernel_rfl) (by kernel_rfl) (by kernel_rfl) (StepsIf.yield (by kernel_rfl) (fun w' hS => by have c3 := hS.1.cell 3; have c4 := hS.1.cell 4; have c5 := hS.1.cell 5; have c6 := hS.1.cell 6; simp only [List.getElem?_toArray, List.getElem?_cons_zero, List.getElem?_cons_succ] at c3 c4 c5 c6; clear hS; go_simp)) ?_
  intro a' ha'
  simp only [Act.put, List.setIfInBounds_toArray, List.set_cons_zero, List.set_cons_succ] at ha'
  subst ha'
  refine AnyS.next (i := 5) (d := some 8) (v := .string T) rfl rfl (by kernel_rfl) (by kernel_rfl) (by kernel_rfl) (StepsIf.call (by kernel_rfl) (fun w' hS => by clear hS; go_simp) (fun w' hS => (HR.out w').mono fun en w'' h => ⟨h.1, hS.keep h.2⟩)) ?_
  intro a' ha'
  simp only [Act.put, List.setIfInBounds_toArray, List.set_cons_zero, List.set_cons_succ] at ha'
  subst ha'
  refine AnyS.next (i := 6) (d := some 9) (v := .bool true) rfl rfl (by kernel_rfl) (by kernel_rfl) (by kernel_rfl) (StepsIf.yield (by kernel_rfl) (fun w' hS => by clear hS; go_simp)) ?_
  intro a' ha'
  simp only [Act.put, List.setIfInBounds_toArray, List.set_cons_zero, List.set_cons_succ] at ha'
  subst ha'
  refine AnyS.next (i := 7) (d := some 10) (v := .bool true) rfl rfl (by kernel_rfl) (by kernel_rfl) (by kernel_rfl) (StepsIf.yield (by kernel_rfl) (fun w' hS => by clear hS; go_simp)) ?_
  intro a' ha'
  simp only [Act.put, List.setIfInBounds_toArray, List.set_cons_zero, List.set_cons_succ] at ha'
  subst ha'
  refine AnyS.next (i := 8) (d := some 11) (v := .agg (woI k a e t n m)) rfl rfl (by kernel_rfl) (by kernel_rfl) (by kernel_rfl) (StepsIf.yield (by kernel_rfl) (fun w' hS => by have c0 := hS.1.cell 0; have c1 := hS.1.cell 1; have c2 := hS.1.cell 2; have c3 := hS.1.cell 3; have c4 := hS.1.cell 4; have c5 := hS.1.cell 5; have c6 := hS.1.cell 6; have c7 := hS.1.cell 7; have c8 := hS.1.cell 8; simp only [List.getElem?_toArray, List.getElem?_cons_zero, List.getElem?_cons_succ] at c0 c1 c2 c3 c4 c5 c6 c7 c8; clear hS; go_simp)) ?_
  intro a' ha'
  simp only [Act.put, List.setIfInBounds_toArray, List.set_cons_zero, List.set_cons_succ] at ha'
  subst ha'
  refine AnyS.next (i := 9) (d := some 12) (v := .string P) rfl rfl (by kernel_rfl) (by kernel_rfl) (by kernel_rfl) (StepsIf.call (by kernel_rfl) (fun w' hS => by clear hS; go_simp) (fun w' hS => (HE.out w' hS.2.1).mono fun en w'' h => ⟨h.1, hS.keep h.2⟩)) ?_
  intro a' ha'
  simp only [Act.put, List.setIfInBounds_toArray, List.set_cons_zero, List.set_cons_succ] at ha'
  subst ha'
  refine AnyS.next (i := 10) (d := some 13) (v := .agg (woI k a e t n m)) rfl rfl (by kernel_rfl) (by kernel_rfl) (by kernel_rfl) (StepsIf.yield (by kernel_rfl) (fun w' hS => by have c0 := hS.1.cell 0; have c1 := hS.1.cell 1; have c2 := hS.1.cell 2; have c3 := hS.1.cell 3; have c4 := hS.1.cell 4; have c5 := hS.1.cell 5; have c6 := hS.1.cell 6; have c7 := hS.1.cell 7; have c8 := hS.1.cell 8; simp only [List.getElem?_toArray, List.getElem?_cons_zero, List.getElem?_cons_succ] at c0 c1 c2 c3 c4 c5 c6 c7 c8; clear hS; go_simp)) ?_
  intro a' ha'
  simp only [Act.put, List.setIfInBounds_toArray, List.set_cons_zero, List.set_cons_succ] at ha'
  subst ha'
  refine AnyS.next (i := 11) (d := some 14) (v := .string P) rfl rfl (by kernel_rfl) (by kernel_rfl) (by kernel_rfl) (StepsIf.call (by kernel_rfl) (fun w' hS => by clear hS; go_simp) (fun w' hS => (HF.out w').mono fun en w'' h => ⟨h.1, hS.keep h.2⟩)) ?_
  intro a' ha'
  simp only [Act.put, List.setIfInBounds_toArray, List.set_cons_zero, List.set_cons_succ] at ha'
  subst ha'
  refine AnyS.next (i := 12) (d := some 15) (v := .bool true) rfl rfl (by kernel_rfl) (by kernel_rfl) (by kernel_rfl) (StepsIf.yield (by kernel_rfl) (fun w' hS => by clear hS; go_simp)) ?_
  intro a' ha'
  simp only [Act.put, List.setIfInBounds_toArray, List.set_cons_zero, List.set_cons_succ] at ha'
  subst ha'
  refine AnyS.next (i := 13) (d := some 16) (v := .bool true) rfl rfl (by kernel_rfl) (by kernel_rfl) (by kernel_rfl) (StepsIf.yield (by kernel_rfl) (fun w' hS => by clear hS; go_simp)) ?_
  intro a' ha'
  simp only [Act.put, List.setIfInBounds_toArray, List.set_cons_zero, List.set_cons_succ] at ha'
  subst ha'
  refine AnyS.next (i := 14) (d := some 17) (v := .bool true) rfl rfl (by kernel_rfl) (by kernel_rfl) (by kernel_rfl) (StepsIf.yield (by kernel_rfl) (fun w' hS => by clear hS; go_simp)) ?_
  intro a' ha'
  simp only [Act.put, List.setIfInBounds_toArray, List.set_cons_zero, List.set_cons_succ] at ha'
  subst ha'
  refine AnyS.next (i := 15) (d := some 18) (v := .bool true) rfl rfl (by kernel_rfl) (by kernel_rfl) (by kernel_rfl) (StepsIf.call (by kernel_rfl) (fun w' hS => by clear hS; go_simp) (fun w' hS => (HSU.out w' hS.2.1).mono fun en w'' h => ⟨h.1, hS.keep h.2⟩)) ?_
  intro a' ha'
  simp only [Act.put, List.setIfInBounds_toArray, List.set_cons_zero, List.set_cons_succ] at ha'
  subst ha'
  refine AnyS.next (i := 16) (d := some 19) (v := .bool true) rfl rfl (by kernel_rfl) (by kernel_rfl) (by kernel_rfl) (StepsIf.yield (by kernel_rfl) (fun w' hS => by clear hS; go_simp)) ?_
  intro a' ha'
  simp only [Act.put, List.setIfInBounds_toArray, List.set_cons_zero, List.set_cons_succ] at ha'
  subst ha'
  refine AnyS.next (i := 17) (d := some 2) (v := .bool true) rfl rfl (by kernel_rfl) (by kernel_rfl) (by kernel_rfl) (StepsIf.yield (by kernel_rfl) (fun w' hS => by clear hS; go_simp)) ?_
  intro a' ha'
  simp only [Act.put, List.setIfInBounds_toArray, List.set_cons_zero, List.set_cons_succ] at ha'
  subst ha'
  refine AnyS.done (by kernel_rfl) (fun w6 hS => ?_) _
  have hB := hS.2.2
  clear hS
  go_wp2_with fail
  go_ret
  exact ⟨rfl, hB⟩
end Go.Proofs.YtpaecjjelpjopaaGreatDoor

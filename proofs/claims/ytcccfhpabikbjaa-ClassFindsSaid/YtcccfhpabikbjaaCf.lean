/- ClassFinds: the name of the class that any set is. -/
import Derived.Test.YtcccfhpabikbjaaCl
namespace Go.Proofs.Ytcccfhpabikbjaa
open Go.RowKit Go.Shelf BS

def SF (w : World) (s : BitVec 256) (W : World) : Prop := Blk W w.heap.size (setA s) 25 ∧ Below w.heap.size w W
theorem keepF {w W W' : World} {s : BitVec 256} (h : SF w s W) (hb : Below W.heap.size W W') : SF w s W' := ⟨h.1.below hb h.1.lt, h.2.trans (hb.mono h.2.size)⟩

set_option maxRecDepth 100000 in
set_option maxHeartbeats 4000000 in
theorem finds2_calls (s : BitVec 256) (w : World) : Calls Try.prog 4 #[setV s] w fun e w' => e = .returned (.bool true) ∧ Below w.heap.size w w' := by
  have h0 : SF w s (w.alloc (.cells (setA s) 25)) := ⟨Blk.new w _ _, by go_grown⟩
  go_enter Try.func4, Try.ntmps4
  go_wp2_with fail
  refine region_steps (S := SF w s) (by kernel_rfl) (show SF w s (w.alloc (.cells (setA s) 25)).drew from ⟨h0.1, h0.2.drew⟩) ?_
  simp only [List.size_toArray, List.length_cons, List.length_nil, Nat.reduceAdd, Array.replicate_succ, Array.replicate_zero, List.push_toArray, List.nil_append, List.cons_append]
  refine AnyS.next (i := 0) (d := some 3) (v := setV s) rfl rfl (by kernel_rfl) (by kernel_rfl) (by kernel_rfl) (StepsIf.yield (by kernel_rfl) (fun w' hS => by obtain ⟨⟨c0, c1, c2, c3⟩, _⟩ := hS.1.cells4; clear hS; go_simp)) ?_
  intro a' ha'
  simp only [Act.put, List.setIfInBounds_toArray, List.set_cons_zero, List.set_cons_succ] at ha'
  subst ha'
  refine AnyS.next (i := 1) (d := some 4) (v := .string (fndS s)) rfl rfl (by kernel_rfl) (by kernel_rfl) (by kernel_rfl) (StepsIf.call (by kernel_rfl) (fun w' hS => by clear hS; go_simp) (fun w' hS => (cFind_calls s w').mono fun e w'' h => ⟨h.1, keepF hS h.2⟩)) ?_
  intro a' ha'
  simp only [Act.put, List.setIfInBounds_toArray, List.set_cons_zero, List.set_cons_succ] at ha'
  subst ha'
  refine AnyS.next (i := 2) (d := some 5) (v := setV s) rfl rfl (by kernel_rfl) (by kernel_rfl) (by kernel_rfl) (StepsIf.yield (by kernel_rfl) (fun w' hS => by obtain ⟨⟨c0, c1, c2, c3⟩, _⟩ := hS.1.cells4; clear hS; go_simp)) ?_
  intro a' ha'
  simp only [Act.put, List.setIfInBounds_toArray, List.set_cons_zero, List.set_cons_succ] at ha'
  subst ha'
  refine AnyS.next (i := 3) (d := some 6) (v := .string (fndS s)) rfl rfl (by kernel_rfl) (by kernel_rfl) (by kernel_rfl) (StepsIf.call (by kernel_rfl) (fun w' hS => by clear hS; go_simp) (fun w' hS => (rFind_calls s w').mono fun e w'' h => ⟨h.1, keepF hS h.2⟩)) ?_
  intro a' ha'
  simp only [Act.put, List.setIfInBounds_toArray, List.set_cons_zero, List.set_cons_succ] at ha'
  subst ha'
  refine AnyS.next (i := 4) (d := some 7) (v := .bool true) rfl rfl (by kernel_rfl) (by kernel_rfl) (by kernel_rfl) (StepsIf.yield (by kernel_rfl) (fun w' hS => by clear hS; go_simp)) ?_
  intro a' ha'
  simp only [Act.put, List.setIfInBounds_toArray, List.set_cons_zero, List.set_cons_succ] at ha'
  subst ha'
  refine AnyS.next (i := 5) (d := some 8) (v := .bool true) rfl rfl (by kernel_rfl) (by kernel_rfl) (by kernel_rfl) (StepsIf.yield (by kernel_rfl) (fun w' hS => by clear hS; go_simp)) ?_
  intro a' ha'
  simp only [Act.put, List.setIfInBounds_toArray, List.set_cons_zero, List.set_cons_succ] at ha'
  subst ha'
  refine AnyS.next (i := 6) (d := some 9) (v := .bool true) rfl rfl (by kernel_rfl) (by kernel_rfl) (by kernel_rfl) (StepsIf.call (by kernel_rfl) (fun w' hS => by clear hS; go_simp) (fun w' hS => (sure2_calls w').mono fun e w'' h => ⟨h.1, keepF hS h.2⟩)) ?_
  intro a' ha'
  simp only [Act.put, List.setIfInBounds_toArray, List.set_cons_zero, List.set_cons_succ] at ha'
  subst ha'
  refine AnyS.next (i := 7) (d := some 10) (v := .bool true) rfl rfl (by kernel_rfl) (by kernel_rfl) (by kernel_rfl) (StepsIf.yield (by kernel_rfl) (fun w' hS => by clear hS; go_simp)) ?_
  intro a' ha'
  simp only [Act.put, List.setIfInBounds_toArray, List.set_cons_zero, List.set_cons_succ] at ha'
  subst ha'
  refine AnyS.next (i := 8) (d := some 2) (v := .bool true) rfl rfl (by kernel_rfl) (by kernel_rfl) (by kernel_rfl) (StepsIf.yield (by kernel_rfl) (fun w' hS => by clear hS; go_simp)) ?_
  intro a' ha'
  simp only [Act.put, List.setIfInBounds_toArray, List.set_cons_zero, List.set_cons_succ] at ha'
  subst ha'
  refine AnyS.done (by kernel_rfl) ?_ _
  clear h0
  intro w1 h1
  go_wp2
  go_ret
  exact ⟨rfl, h1.2⟩
end Go.Proofs.Ytcccfhpabikbjaa

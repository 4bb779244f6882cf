/- Texts put together: Mi. -/
import Derived.Test.YtbccojjcdcighaaGreatDoorPQ
import Derived.Test.YtbccojjcdcighaaGreatDoorPD
namespace Go.Proofs.YtbccojjcdcighaaGreatDoor
open Go.RowKit
@[reducible] def spI (n m : Int) : Array Value := #[.int .i64 n, .int .i64 m]
def SRf (w : World) (B : Nat) (d c : Array Value) (W : World) : Prop := (Blk W w.heap.size d 121 ∧ Blk W B c 215 ∧ w.heap.size + 1 ≤ B) ∧ Below w.heap.size w W
theorem SRf.drewS {w W : World} {B : Nat} {d c : Array Value} (h : SRf w B d c W) : SRf w B d c W.drew := ⟨⟨h.1.1, h.1.2.1, h.1.2.2⟩, h.2.drew⟩
theorem SRf.store {w W : World} {B : Nat} {c : Array Value} (h : SRf w B (spI 0 0) c W) (n m : Int) :
    SRf w B (spI n m) c ((W.setCell ⟨w.heap.size, 0, none⟩ (.int .i64 n)).setCell ⟨w.heap.size, 1, none⟩ (.int .i64 m)) := by
  have hnB : B ≠ w.heap.size := by have := h.1.2.2; omega
  exact ⟨⟨(h.1.1.set 0 (.int .i64 n)).set 1 (.int .i64 m), (h.1.2.1.other hnB 0 _).other hnB 1 _, h.1.2.2⟩,
    below_set (below_set h.2 (Nat.le_refl _) 0 _) (Nat.le_refl _) 1 _⟩
set_option maxRecDepth 100000 in
set_option maxHeartbeats 8000000 in
theorem bRead_calls (s : ByteArray) (hs : s.size ≤ 1000000) (at' : Int) (w : World) : Calls Tryz.prog 174 #[.string s, .int .i64 at'] w fun e w' => e = .returned (.tuple #[.agg #[.int .i64 (readN s at').1, .int .i64 (readN s at').2.1], .int .i64 (readN s at').2.2.1, .int .i64 (readN s at').2.2.2.1, .int .i64 (readN s at').2.2.2.2]) ∧ Below w.heap.size w w' := by
  have HR := Lib.hid (Blk.new w (spI 0 0) 121)
  have HB : Hid (Below w.heap.size w (w.alloc (.cells (spI 0 0) 121))) := Lib.hid (by go_grown)
  have hz : w.heap.size + 1 ≤ (w.alloc (.cells (spI 0 0) 121)).heap.size := by simp
  have hg := toN_read s at'
  have hW := readD4_calls s hs at'
  generalize readD4 s at' = X at *
  generalize readN s at' = Y at *
  obtain ⟨n, m, p, l, e⟩ := X
  have HW : Hid (∀ w, Calls Tryz.prog 176 #[.string s, .int .i64 at'] w fun en w' => en = .returned (.agg (rdI n m p (ofT l) e)) ∧ Below w.heap.size w w') := Lib.hid hW
  clear hW
  generalize ofT l = l' at HW
  have HG := Lib.hid hg
  clear hg
  go_enter Tryz.func174, Tryz.ntmps174
  go_upto_region 1 with fail
  have e0 : w.alloc (.cells #[.int .i64 0, .int .i64 0] 121) = w.alloc (.cells (spI 0 0) 121) := rfl
  try rw [e0]
  clear e0
  generalize w.alloc (.cells (spI 0 0) 121) = w1 at *
  go_wp2_with fail
  refine (HW.out _).mono ?_
  rintro en w2 ⟨rfl, hb⟩
  have HR2 := Lib.hid (HR.out.below hb (Blk.lt HR.out))
  have HB2 := Lib.hid (HB.out.trans (hb.mono (by omega)))
  have hz2 := Nat.le_trans hz hb.size
  clear HR HB hz hb
  have HR := HR2
  have HB := HB2
  have hz := hz2
  clear HR2 HB2 hz2
  clear HW
  go_upto_region 2 with fail
  have HP := Lib.hid (Blk.new w2 (rdI n m p l' e) 215)
  replace HR := Lib.hid (HR.out.alloc (.cells (rdI n m p l' e) 215))
  replace HB := Lib.hid (HB.out.alloc (by omega) (.cells (rdI n m p l' e) 215))
  generalize w2.alloc (.cells (rdI n m p l' e) 215) = w3 at *
  generalize w2.heap.size = B at *
  have c4 := HP.out.cell 4
  simp only [List.getElem?_toArray, List.getElem?_cons_zero, List.getElem?_cons_succ] at c4
  have h0 : SRf w B (spI 0 0) (rdI n m p l' e) w3 := ⟨⟨HR.out, HP.out, hz⟩, HB.out⟩
  by_cases he : e = 0
  · subst he
    have hY : Y = (n, m, p, 0, 0) := by rw [← HG.out]; rfl
    subst hY
    clear HG HR HB HP
    have H0 := Lib.hid h0
    clear h0
    go_wp2_with fail
    refine region_stepsL (S0 := SRf w B (spI 0 0) (rdI n m p l' (0 : Nat))) (S1 := SRf w B (spI n m) (rdI n m p l' (0 : Nat))) (m := 4) (by kernel_rfl) (by kernel_rfl) (SRf.drewS H0.out) ?_
    clear H0 hz c4
    simp only [List.size_toArray, List.length_cons, List.length_nil, Nat.reduceAdd, Array.replicate_succ, Array.replicate_zero, List.push_toArray, List.nil_append, List.cons_append]
    refine AnyL.next (m := 4) (i := 0) (d := some 15) (v := .pointer (some ⟨B, 0, none⟩)) rfl rfl (by kernel_rfl) (by kernel_rfl) (by kernel_rfl) (by kernel_rfl) (StepsIf.yield (by kernel_rfl) (fun w' hS => by clear hS; go_simp)) ?_
    intro a' ha'
    simp only [Act.put, List.setIfInBounds_toArray, List.set_cons_zero, List.set_cons_succ] at ha'
    subst ha'
    refine AnyL.next (m := 4) (i := 1) (d := some 16) (v := .agg (spI n m)) rfl rfl (by kernel_rfl) (by kernel_rfl) (by kernel_rfl) (by kernel_rfl) (StepsIf.yield (by kernel_rfl) (fun w' hS => by have c0 := hS.1.2.1.cell 0; have c1 := hS.1.2.1.cell 1; simp only [List.getElem?_toArray, List.getElem?_cons_zero, List.getElem?_cons_succ] at c0 c1; clear hS; go_simp)) ?_
    intro a' ha'
    simp only [Act.put, List.setIfInBounds_toArray, List.set_cons_zero, List.set_cons_succ] at ha'
    subst ha'
    refine AnyL.both (m := 4) (i := 2) (d := some 17) (v := .pointer (some ⟨B, 2, none⟩)) rfl rfl (by kernel_rfl) (by kernel_rfl) (by kernel_rfl) (by kernel_rfl) (StepsIf.yield (by kernel_rfl) (fun w' hS => by clear hS; go_simp)) (StepsIf.yield (by kernel_rfl) (fun w' hS => by clear hS; go_simp)) ?_
    intro a' ha'
    simp only [Act.put, List.setIfInBounds_toArray, List.set_cons_zero, List.set_cons_succ] at ha'
    subst ha'
    refine AnyL.both (m := 4) (i := 3) (d := some 18) (v := .int .i64 p) rfl rfl (by kernel_rfl) (by kernel_rfl) (by kernel_rfl) (by kernel_rfl) (StepsIf.yield (by kernel_rfl) (fun w' hS => by have c2 := hS.1.2.1.cell 2; simp only [List.getElem?_toArray, List.getElem?_cons_zero, List.getElem?_cons_succ] at c2; clear hS; go_simp)) (StepsIf.yield (by kernel_rfl) (fun w' hS => by have c2 := hS.1.2.1.cell 2; simp only [List.getElem?_toArray, List.getElem?_cons_zero, List.getElem?_cons_succ] at c2; clear hS; go_simp)) ?_
    intro a' ha'
    simp only [Act.put, List.setIfInBounds_toArray, List.set_cons_zero, List.set_cons_succ] at ha'
    subst ha'
    refine AnyL.store (m := 4) (d := none) (v := undef) rfl rfl (by kernel_rfl) (by kernel_rfl) (by kernel_rfl) (fun w' hS K Q hK => by have c0 := hS.1.1.cell 0; have c1 := hS.1.1.cell 1; have f0 := hS.1.1.frozen 0; have f1 := hS.1.1.frozen 1; simp only [List.getElem?_toArray, List.getElem?_cons_zero, List.getElem?_cons_succ] at c0 c1; have HSS := Lib.hid hS; clear hS; go_simp; exact hK _ (SRf.store HSS.out n m)) ?_
    intro a' ha'
    simp only [Act.put] at ha'
    subst ha'
    refine AnyL.after (m := 4) (i := 5) (d := some 5) (v := .int .i64 p) rfl rfl (by kernel_rfl) (by kernel_rfl) (by kernel_rfl) (by kernel_rfl) (StepsIf.yield (by kernel_rfl) (fun w' hS => by clear hS; go_simp)) ?_
    intro a' ha'
    simp only [Act.put, List.setIfInBounds_toArray, List.set_cons_zero, List.set_cons_succ] at ha'
    subst ha'
    refine AnyL.after (m := 4) (i := 6) (d := some 6) (v := .int .i64 0) rfl rfl (by kernel_rfl) (by kernel_rfl) (by kernel_rfl) (by kernel_rfl) (StepsIf.yield (by kernel_rfl) (fun w' hS => by clear hS; go_simp)) ?_
    intro a' ha'
    simp only [Act.put, List.setIfInBounds_toArray, List.set_cons_zero, List.set_cons_succ] at ha'
    subst ha'
    refine AnyL.after (m := 4) (i := 7) (d := some 7) (v := .int .i64 0) rfl rfl (by kernel_rfl) (by kernel_rfl) (by kernel_rfl) (by kernel_rfl) (StepsIf.yield (by kernel_rfl) (fun w' hS => by clear hS; go_simp)) ?_
    intro a' ha'
    simp only [Act.put, List.setIfInBounds_toArray, List.set_cons_zero, List.set_cons_succ] at ha'
    subst ha'
    refine AnyL.done (by kernel_rfl) (by kernel_rfl) (fun w' hS => ?_) _
    have e0 := hS.1.1.cell 0; have e1 := hS.1.1.cell 1
    simp only [List.getElem?_toArray, List.getElem?_cons_zero, List.getElem?_cons_succ] at e0 e1
    have hB := hS.2
    clear hS
    go_wp2_with fail
    exact bodyPost_ret (v := .tuple #[.agg #[.int .i64 n, .int .i64 m], .int .i64 p, .int .i64 0, .int .i64 0]) (by simp [results, Tryz.results174, go_sem, e0, e1]) rfl ⟨rfl, hB⟩
  · have q3 : ((e : Int) == 0) = false := by rw [beq_eq_false_iff_ne]; omega
    have hY : Y = (0, 0, 0, e, p) := by rw [← HG.out]; unfold toN; rw [if_neg he]
    subst hY
    clear HG HR HB HP he
    have H0 := Lib.hid h0
    clear h0
    go_wp2_with fail
    refine region_stepsL (S0 := SRf w B (spI 0 0) (rdI n m p l' e)) (S1 := SRf w B (spI 0 0) (rdI n m p l' e)) (m := 5) (by kernel_rfl) (by kernel_rfl) (SRf.drewS H0.out) ?_
    clear H0 hz c4
    simp only [List.size_toArray, List.length_cons, List.length_nil, Nat.reduceAdd, Array.replicate_succ, Array.replicate_zero, List.push_toArray, List.nil_append, List.cons_append]
    refine AnyL.next (m := 5) (i := 0) (d := some 19) (v := .agg (spI 0 0)) rfl rfl (by kernel_rfl) (by kernel_rfl) (by kernel_rfl) (by kernel_rfl) (StepsIf.yield (by kernel_rfl) (fun w' hS => by clear hS; go_simp)) ?_
    intro a' ha'
    simp only [Act.put, List.setIfInBounds_toArray, List.set_cons_zero, List.set_cons_succ] at ha'
    subst ha'
    refine AnyL.both (m := 5) (i := 1) (d := some 20) (v := .pointer (some ⟨B, 4, none⟩)) rfl rfl (by kernel_rfl) (by kernel_rfl) (by kernel_rfl) (by kernel_rfl) (StepsIf.yield (by kernel_rfl) (fun w' hS => by clear hS; go_simp)) (StepsIf.yield (by kernel_rfl) (fun w' hS => by clear hS; go_simp)) ?_
    intro a' ha'
    simp only [Act.put, List.setIfInBounds_toArray, List.set_cons_zero, List.set_cons_succ] at ha'
    subst ha'
    refine AnyL.both (m := 5) (i := 2) (d := some 21) (v := .int .i64 e) rfl rfl (by kernel_rfl) (by kernel_rfl) (by kernel_rfl) (by kernel_rfl) (StepsIf.yield (by kernel_rfl) (fun w' hS => by have c4 := hS.1.2.1.cell 4; simp only [List.getElem?_toArray, List.getElem?_cons_zero, List.getElem?_cons_succ] at c4; clear hS; go_simp)) (StepsIf.yield (by kernel_rfl) (fun w' hS => by have c4 := hS.1.2.1.cell 4; simp only [List.getElem?_toArray, List.getElem?_cons_zero, List.getElem?_cons_succ] at c4; clear hS; go_simp)) ?_
    intro a' ha'
    simp only [Act.put, List.setIfInBounds_toArray, List.set_cons_zero, List.set_cons_succ] at ha'
    subst ha'
    refine AnyL.both (m := 5) (i := 3) (d := some 22) (v := .pointer (some ⟨B, 2, none⟩)) rfl rfl (by kernel_rfl) (by kernel_rfl) (by kernel_rfl) (by kernel_rfl) (StepsIf.yield (by kernel_rfl) (fun w' hS => by clear hS; go_simp)) (StepsIf.yield (by kernel_rfl) (fun w' hS => by clear hS; go_simp)) ?_
    intro a' ha'
    simp only [Act.put, List.setIfInBounds_toArray, List.set_cons_zero, List.set_cons_succ] at ha'
    subst ha'
    refine AnyL.both (m := 5) (i := 4) (d := some 23) (v := .int .i64 p) rfl rfl (by kernel_rfl) (by kernel_rfl) (by kernel_rfl) (by kernel_rfl) (StepsIf.yield (by kernel_rfl) (fun w' hS => by have c2 := hS.1.2.1.cell 2; simp only [List.getElem?_toArray, List.getElem?_cons_zero, List.getElem?_cons_succ] at c2; clear hS; go_simp)) (StepsIf.yield (by kernel_rfl) (fun w' hS => by have c2 := hS.1.2.1.cell 2; simp only [List.getElem?_toArray, List.getElem?_cons_zero, List.getElem?_cons_succ] at c2; clear hS; go_simp)) ?_
    intro a' ha'
    simp only [Act.put, List.setIfInBounds_toArray, List.set_cons_zero, List.set_cons_succ] at ha'
    subst ha'
    refine AnyL.store (m := 5) (d := none) (v := undef) rfl rfl (by kernel_rfl) (by kernel_rfl) (by kernel_rfl) (fun w' hS K Q hK => by have c0 := hS.1.1.cell 0; have c1 := hS.1.1.cell 1; have f0 := hS.1.1.frozen 0; have f1 := hS.1.1.frozen 1; simp only [List.getElem?_toArray, List.getElem?_cons_zero, List.getElem?_cons_succ] at c0 c1; have HSS := Lib.hid hS; clear hS; go_simp; exact hK _ (SRf.store HSS.out 0 0)) ?_
    intro a' ha'
    simp only [Act.put] at ha'
    subst ha'
    refine AnyL.after (m := 5) (i := 6) (d := some 5) (v := .int .i64 0) rfl rfl (by kernel_rfl) (by kernel_rfl) (by kernel_rfl) (by kernel_rfl) (StepsIf.yield (by kernel_rfl) (fun w' hS => by clear hS; go_simp)) ?_
    intro a' ha'
    simp only [Act.put, List.setIfInBounds_toArray, List.set_cons_zero, List.set_cons_succ] at ha'
    subst ha'
    refine AnyL.after (m := 5) (i := 7) (d := some 6) (v := .int .i64 e) rfl rfl (by kernel_rfl) (by kernel_rfl) (by kernel_rfl) (by kernel_rfl) (StepsIf.yield (by kernel_rfl) (fun w' hS => by clear hS; go_simp)) ?_
    intro a' ha'
    simp only [Act.put, List.setIfInBounds_toArray, List.set_cons_zero, List.set_cons_succ] at ha'
    subst ha'
    refine AnyL.after (m := 5) (i := 8) (d := some 7) (v := .int .i64 p) rfl rfl (by kernel_rfl) (by kernel_rfl) (by kernel_rfl) (by kernel_rfl) (StepsIf.yield (by kernel_rfl) (fun w' hS => by clear hS; go_simp)) ?_
    intro a' ha'
    simp only [Act.put, List.setIfInBounds_toArray, List.set_cons_zero, List.set_cons_succ] at ha'
    subst ha'
    refine AnyL.done (by kernel_rfl) (by kernel_rfl) (fun w' hS => ?_) _
    have e0 := hS.1.1.cell 0; have e1 := hS.1.1.cell 1
    simp only [List.getElem?_toArray, List.getElem?_cons_zero, List.getElem?_cons_succ] at e0 e1
    have hB := hS.2
    clear hS
    go_wp2_with fail
    exact bodyPost_ret (v := .tuple #[.agg #[.int .i64 0, .int .i64 0], .int .i64 0, .int .i64 e, .int .i64 p]) (by simp [results, Tryz.results174, go_sem, e0, e1]) rfl ⟨rfl, hB⟩
set_option maxHeartbeats 1000000 in
theorem lackD4_calls (s : ByteArray) (hs : s.size ≤ 1000000) (at' : Int) (w : World) : Calls Tryz.prog 175 #[.string s, .int .i64 at'] w fun e w' => e = .returned (.string (ofT (readD4 s at').lack)) ∧ Below w.heap.size w w' := by
  have hW := readD4_calls s hs at'
  generalize readD4 s at' = X at *
  obtain ⟨n, m, p, l, e⟩ := X
  have HW : Hid (∀ w, Calls Tryz.prog 176 #[.string s, .int .i64 at'] w fun en w' => en = .returned (.agg (rdI n m p (ofT l) e)) ∧ Below w.heap.size w w') := Lib.hid hW
  clear hW
  show Calls Tryz.prog 175 #[.string s, .int .i64 at'] w fun e w' => e = .returned (.string (ofT l)) ∧ Below w.heap.size w w'
  generalize ofT l = l' at *
  have hfi : ∀ w', (Instr.field 215 (.agg (rdI n m p l' e)) 2).run Tryz.prog w' = .ok (.string l') w' := fun w' => by kernel_rfl
  go_enter Tryz.func175, Tryz.ntmps175
  go_wp2_with fail
  refine (HW.out _).mono ?_
  rintro en w2 ⟨rfl, hb⟩
  go_wp2_with fail
  go_ret
  exact ⟨rfl, hb⟩
end Go.Proofs.YtbccojjcdcighaaGreatDoor

/- The developers' brackets: Read. -/
import Derived.Test.YtkkhibamkdgffaaDoorDt
namespace Go.Proofs.YtkkhibamkdgffaaDoor
open Go.RowKit Go.Shelf BS

def SRd (w : World) (B : Nat) (d c : Array Value) (W : World) : Prop := (Blk W w.heap.size d 24 ∧ Blk W B c 47 ∧ w.heap.size + 1 ≤ B) ∧ Below w.heap.size w W
theorem SRd.drewS {w W : World} {B : Nat} {d c : Array Value} (h : SRd w B d c W) : SRd w B d c W.drew := ⟨⟨h.1.1, h.1.2.1, h.1.2.2⟩, h.2.drew⟩
theorem SRd.store {w W : World} {B : Nat} {c : Array Value} (h : SRd w B (setA 0) c W) (r : BitVec 256) :
    SRd w B (setA r) c ((((W.setCell ⟨w.heap.size, 0, none⟩ (.int .u64 (wd r 0))).setCell ⟨w.heap.size, 1, none⟩ (.int .u64 (wd r 1))).setCell ⟨w.heap.size, 2, none⟩ (.int .u64 (wd r 2))).setCell ⟨w.heap.size, 3, none⟩ (.int .u64 (wd r 3))) := by
  have hnB : B ≠ w.heap.size := by have := h.1.2.2; omega
  exact ⟨⟨(((h.1.1.set 0 (.int .u64 (wd r 0))).set 1 (.int .u64 (wd r 1))).set 2 (.int .u64 (wd r 2))).set 3 (.int .u64 (wd r 3)), (((h.1.2.1.other hnB 0 _).other hnB 1 _).other hnB 2 _).other hnB 3 _, h.1.2.2⟩,
    below_set (below_set (below_set (below_set h.2 (Nat.le_refl _) 0 _) (Nat.le_refl _) 1 _) (Nat.le_refl _) 2 _) (Nat.le_refl _) 3 _⟩

set_option maxRecDepth 100000 in
set_option maxHeartbeats 8000000 in
theorem read_calls (s : ByteArray) (hs : s.size ≤ 60000) (at' : Int) (w : World) :
    Calls Tryd.prog 8 #[.string s, .int .i64 at'] w fun en w' => en = .returned (.tuple #[setV (readD s at').1, .int .i64 (readD s at').2.1, .int .i64 (readD s at').2.2.1, .int .i64 (readD s at').2.2.2]) ∧ Below w.heap.size w w' := by
  have HR := Lib.hid (Blk.new w (setA 0) 24)
  have HB : Hid (Below w.heap.size w (w.alloc (.cells (setA 0) 24))) := Lib.hid (by go_grown)
  have hz : w.heap.size + 1 ≤ (w.alloc (.cells (setA 0) 24)).heap.size := by simp
  have hg : readD s at' = readD s at' := rfl
  conv at hg => rhs; unfold readD
  have HW := Lib.hid (wholeD_calls s hs at')
  generalize wholeD s at' = X at hg HW
  obtain ⟨t', p', e', l'⟩ := X
  replace HW : Hid (∀ w, Calls Tryd.prog 19 #[.string s, .int .i64 at'] w fun en w' => en = .returned (.agg (ptI t' p' e' l')) ∧ Below w.heap.size w w') := HW
  simp only at hg
  generalize readD s at' = Y at hg
  have HG := Lib.hid hg
  clear hg
  go_enter Tryd.func8, Tryd.ntmps8
  go_upto_region 1 with fail
  have e0 : w.alloc (.cells #[.int .u64 0, .int .u64 0, .int .u64 0, .int .u64 0] 24) = w.alloc (.cells (setA 0) 24) := rfl
  rw [e0]
  clear e0
  generalize w.alloc (.cells (setA 0) 24) = w1 at *
  go_wp2_with fail
  refine (HW.out _).mono ?_
  rintro e w2 ⟨rfl, hb⟩
  have HR2 := Lib.hid (HR.out.below hb (Blk.lt HR.out))
  have HB2 := Lib.hid (HB.out.trans (hb.mono (by omega)))
  have hz2 := Nat.le_trans hz hb.size
  clear HR HB hz hb
  have HR := HR2
  have HB := HB2
  have hz := hz2
  clear HR2 HB2 hz2
  clear HW
  go_upto_region 2 with fail
  have HP := Lib.hid (Blk.new w2 (ptI t' p' e' l') 47)
  replace HR := Lib.hid (HR.out.alloc (.cells (ptI t' p' e' l') 47))
  replace HB := Lib.hid (HB.out.alloc (by omega) (.cells (ptI t' p' e' l') 47))
  generalize w2.alloc (.cells (ptI t' p' e' l') 47) = w3 at *
  generalize w2.heap.size = B at *
  have c5 := HP.out.cell 5
  simp only [List.getElem?_toArray, List.getElem?_cons_zero, List.getElem?_cons_succ] at c5
  have h0 : SRd w B (setA 0) (ptI t' p' e' l') w3 := ⟨⟨HR.out, HP.out, hz⟩, HB.out⟩
  by_cases he : e' = 0
  · subst he
    have hY : Y = (t', p', 0, 0) := by rw [HG.out]; rfl
    subst hY
    clear HG HR HB HP
    have H0 := Lib.hid h0
    clear h0
    go_wp2_with fail
    refine region_stepsL (S0 := SRd w B (setA 0) (ptI t' p' (0 : Nat) l')) (S1 := SRd w B (setA t') (ptI t' p' (0 : Nat) l')) (m := 4) (by kernel_rfl) (by kernel_rfl) (SRd.drewS H0.out) ?_
    clear H0 hz c5
    simp only [List.size_toArray, List.length_cons, List.length_nil, Nat.reduceAdd, Array.replicate_succ, Array.replicate_zero, List.push_toArray, List.nil_append, List.cons_append]
    refine AnyL.next (m := 4) (i := 0) (d := some 20) (v := .pointer (some ⟨B, 0, none⟩)) rfl rfl (by kernel_rfl) (by kernel_rfl) (by kernel_rfl) (by kernel_rfl) (StepsIf.yield (by kernel_rfl) (fun w' hS => by clear hS; go_simp)) ?_
    intro a' ha'
    simp only [Act.put, List.setIfInBounds_toArray, List.set_cons_zero, List.set_cons_succ] at ha'
    subst ha'
    refine AnyL.next (m := 4) (i := 1) (d := some 21) (v := setV t') rfl rfl (by kernel_rfl) (by kernel_rfl) (by kernel_rfl) (by kernel_rfl) (StepsIf.yield (by kernel_rfl) (fun w' hS => by have c0 := hS.1.2.1.cell 0; have c1 := hS.1.2.1.cell 1; have c2 := hS.1.2.1.cell 2; have c3 := hS.1.2.1.cell 3; simp only [List.getElem?_toArray, List.getElem?_cons_zero, List.getElem?_cons_succ] at c0 c1 c2 c3; clear hS; go_simp)) ?_
    intro a' ha'
    simp only [Act.put, List.setIfInBounds_toArray, List.set_cons_zero, List.set_cons_succ] at ha'
    subst ha'
    refine AnyL.both (m := 4) (i := 2) (d := some 22) (v := .pointer (some ⟨B, 4, none⟩)) rfl rfl (by kernel_rfl) (by kernel_rfl) (by kernel_rfl) (by kernel_rfl) (StepsIf.yield (by kernel_rfl) (fun w' hS => by clear hS; go_simp)) (StepsIf.yield (by kernel_rfl) (fun w' hS => by clear hS; go_simp)) ?_
    intro a' ha'
    simp only [Act.put, List.setIfInBounds_toArray, List.set_cons_zero, List.set_cons_succ] at ha'
    subst ha'
    refine AnyL.both (m := 4) (i := 3) (d := some 23) (v := .int .i64 p') rfl rfl (by kernel_rfl) (by kernel_rfl) (by kernel_rfl) (by kernel_rfl) (StepsIf.yield (by kernel_rfl) (fun w' hS => by have c4 := hS.1.2.1.cell 4; simp only [List.getElem?_toArray, List.getElem?_cons_zero, List.getElem?_cons_succ] at c4; clear hS; go_simp)) (StepsIf.yield (by kernel_rfl) (fun w' hS => by have c4 := hS.1.2.1.cell 4; simp only [List.getElem?_toArray, List.getElem?_cons_zero, List.getElem?_cons_succ] at c4; clear hS; go_simp)) ?_
    intro a' ha'
    simp only [Act.put, List.setIfInBounds_toArray, List.set_cons_zero, List.set_cons_succ] at ha'
    subst ha'
    refine AnyL.store (m := 4) (d := none) (v := undef) rfl rfl (by kernel_rfl) (by kernel_rfl) (by kernel_rfl) (fun w' hS K Q hK => by have c0 := hS.1.1.cell 0; have c1 := hS.1.1.cell 1; have c2 := hS.1.1.cell 2; have c3 := hS.1.1.cell 3; have f0 := hS.1.1.frozen 0; have f1 := hS.1.1.frozen 1; have f2 := hS.1.1.frozen 2; have f3 := hS.1.1.frozen 3; simp only [setA, List.getElem?_toArray, List.getElem?_cons_zero, List.getElem?_cons_succ] at c0 c1 c2 c3; have HSS := Lib.hid hS; clear hS; go_simp; exact hK _ (SRd.store HSS.out t')) ?_
    intro a' ha'
    simp only [Act.put] at ha'
    subst ha'
    refine AnyL.after (m := 4) (i := 5) (d := some 5) (v := .int .i64 p') rfl rfl (by kernel_rfl) (by kernel_rfl) (by kernel_rfl) (by kernel_rfl) (StepsIf.yield (by kernel_rfl) (fun w' hS => by clear hS; go_simp)) ?_
    intro a' ha'
    simp only [Act.put, List.setIfInBounds_toArray, List.set_cons_zero, List.set_cons_succ] at ha'
    subst ha'
    refine AnyL.after (m := 4) (i := 6) (d := some 6) (v := .int .i64 0) rfl rfl (by kernel_rfl) (by kernel_rfl) (by kernel_rfl) (by kernel_rfl) (StepsIf.yield (by kernel_rfl) (fun w' hS => by clear hS; go_simp)) ?_
    intro a' ha'
    simp only [Act.put, List.setIfInBounds_toArray, List.set_cons_zero, List.set_cons_succ] at ha'
    subst ha'
    refine AnyL.after (m := 4) (i := 7) (d := some 7) (v := .int .i64 0) rfl rfl (by kernel_rfl) (by kernel_rfl) (by kernel_rfl) (by kernel_rfl) (StepsIf.yield (by kernel_rfl) (fun w' hS => by clear hS; go_simp)) ?_
    intro a' ha'
    simp only [Act.put, List.setIfInBounds_toArray, List.set_cons_zero, List.set_cons_succ] at ha'
    subst ha'
    refine AnyL.done (by kernel_rfl) (by kernel_rfl) (fun w' hS => ?_) _
    obtain ⟨⟨e0, e1, e2, e3⟩, _⟩ := hS.1.1.cells4
    have hB := hS.2
    clear hS
    go_wp2_with fail
    exact bodyPost_ret (v := .tuple #[setV t', .int .i64 p', .int .i64 0, .int .i64 0]) (by simp [results, Tryd.results8, go_sem, e0, e1, e2, e3]) rfl ⟨rfl, hB⟩
  · have q3 : ((e' : Int) != 0) = true := by rw [bne_iff_ne]; omega
    have hY : Y = (0, 0, e', p') := by have := HG.out; rw [if_pos he] at this; exact this
    subst hY
    clear HG HR HB HP he
    have H0 := Lib.hid h0
    clear h0
    go_wp2_with fail
    refine region_stepsL (S0 := SRd w B (setA 0) (ptI t' p' e' l')) (S1 := SRd w B (setA 0) (ptI t' p' e' l')) (m := 5) (by kernel_rfl) (by kernel_rfl) (SRd.drewS H0.out) ?_
    clear H0 hz c5
    simp only [List.size_toArray, List.length_cons, List.length_nil, Nat.reduceAdd, Array.replicate_succ, Array.replicate_zero, List.push_toArray, List.nil_append, List.cons_append]
    refine AnyL.next (m := 5) (i := 0) (d := some 15) (v := .agg #[.int .u64 0, .int .u64 0, .int .u64 0, .int .u64 0]) rfl rfl (by kernel_rfl) (by kernel_rfl) (by kernel_rfl) (by kernel_rfl) (StepsIf.yield (by kernel_rfl) (fun w' hS => by clear hS; go_simp)) ?_
    intro a' ha'
    simp only [Act.put, List.setIfInBounds_toArray, List.set_cons_zero, List.set_cons_succ] at ha'
    subst ha'
    refine AnyL.both (m := 5) (i := 1) (d := some 16) (v := .pointer (some ⟨B, 5, none⟩)) rfl rfl (by kernel_rfl) (by kernel_rfl) (by kernel_rfl) (by kernel_rfl) (StepsIf.yield (by kernel_rfl) (fun w' hS => by clear hS; go_simp)) (StepsIf.yield (by kernel_rfl) (fun w' hS => by clear hS; go_simp)) ?_
    intro a' ha'
    simp only [Act.put, List.setIfInBounds_toArray, List.set_cons_zero, List.set_cons_succ] at ha'
    subst ha'
    refine AnyL.both (m := 5) (i := 2) (d := some 17) (v := .int .i64 e') rfl rfl (by kernel_rfl) (by kernel_rfl) (by kernel_rfl) (by kernel_rfl) (StepsIf.yield (by kernel_rfl) (fun w' hS => by have c5 := hS.1.2.1.cell 5; simp only [List.getElem?_toArray, List.getElem?_cons_zero, List.getElem?_cons_succ] at c5; clear hS; go_simp)) (StepsIf.yield (by kernel_rfl) (fun w' hS => by have c5 := hS.1.2.1.cell 5; simp only [List.getElem?_toArray, List.getElem?_cons_zero, List.getElem?_cons_succ] at c5; clear hS; go_simp)) ?_
    intro a' ha'
    simp only [Act.put, List.setIfInBounds_toArray, List.set_cons_zero, List.set_cons_succ] at ha'
    subst ha'
    refine AnyL.both (m := 5) (i := 3) (d := some 18) (v := .pointer (some ⟨B, 4, none⟩)) rfl rfl (by kernel_rfl) (by kernel_rfl) (by kernel_rfl) (by kernel_rfl) (StepsIf.yield (by kernel_rfl) (fun w' hS => by clear hS; go_simp)) (StepsIf.yield (by kernel_rfl) (fun w' hS => by clear hS; go_simp)) ?_
    intro a' ha'
    simp only [Act.put, List.setIfInBounds_toArray, List.set_cons_zero, List.set_cons_succ] at ha'
    subst ha'
    refine AnyL.both (m := 5) (i := 4) (d := some 19) (v := .int .i64 p') rfl rfl (by kernel_rfl) (by kernel_rfl) (by kernel_rfl) (by kernel_rfl) (StepsIf.yield (by kernel_rfl) (fun w' hS => by have c4 := hS.1.2.1.cell 4; simp only [List.getElem?_toArray, List.getElem?_cons_zero, List.getElem?_cons_succ] at c4; clear hS; go_simp)) (StepsIf.yield (by kernel_rfl) (fun w' hS => by have c4 := hS.1.2.1.cell 4; simp only [List.getElem?_toArray, List.getElem?_cons_zero, List.getElem?_cons_succ] at c4; clear hS; go_simp)) ?_
    intro a' ha'
    simp only [Act.put, List.setIfInBounds_toArray, List.set_cons_zero, List.set_cons_succ] at ha'
    subst ha'
    refine AnyL.store (m := 5) (d := none) (v := undef) rfl rfl (by kernel_rfl) (by kernel_rfl) (by kernel_rfl) (fun w' hS K Q hK => by have c0 := hS.1.1.cell 0; have c1 := hS.1.1.cell 1; have c2 := hS.1.1.cell 2; have c3 := hS.1.1.cell 3; have f0 := hS.1.1.frozen 0; have f1 := hS.1.1.frozen 1; have f2 := hS.1.1.frozen 2; have f3 := hS.1.1.frozen 3; simp only [setA, List.getElem?_toArray, List.getElem?_cons_zero, List.getElem?_cons_succ] at c0 c1 c2 c3; have HSS := Lib.hid hS; clear hS; go_simp; exact hK _ (SRd.store HSS.out 0)) ?_
    intro a' ha'
    simp only [Act.put] at ha'
    subst ha'
    refine AnyL.after (m := 5) (i := 6) (d := some 5) (v := .int .i64 0) rfl rfl (by kernel_rfl) (by kernel_rfl) (by kernel_rfl) (by kernel_rfl) (StepsIf.yield (by kernel_rfl) (fun w' hS => by clear hS; go_simp)) ?_
    intro a' ha'
    simp only [Act.put, List.setIfInBounds_toArray, List.set_cons_zero, List.set_cons_succ] at ha'
    subst ha'
    refine AnyL.after (m := 5) (i := 7) (d := some 6) (v := .int .i64 e') rfl rfl (by kernel_rfl) (by kernel_rfl) (by kernel_rfl) (by kernel_rfl) (StepsIf.yield (by kernel_rfl) (fun w' hS => by clear hS; go_simp)) ?_
    intro a' ha'
    simp only [Act.put, List.setIfInBounds_toArray, List.set_cons_zero, List.set_cons_succ] at ha'
    subst ha'
    refine AnyL.after (m := 5) (i := 8) (d := some 7) (v := .int .i64 p') rfl rfl (by kernel_rfl) (by kernel_rfl) (by kernel_rfl) (by kernel_rfl) (StepsIf.yield (by kernel_rfl) (fun w' hS => by clear hS; go_simp)) ?_
    intro a' ha'
    simp only [Act.put, List.setIfInBounds_toArray, List.set_cons_zero, List.set_cons_succ] at ha'
    subst ha'
    refine AnyL.done (by kernel_rfl) (by kernel_rfl) (fun w' hS => ?_) _
    obtain ⟨⟨e0, e1, e2, e3⟩, _⟩ := hS.1.1.cells4
    have hB := hS.2
    clear hS
    go_wp2_with fail
    exact bodyPost_ret (v := .tuple #[setV 0, .int .i64 0, .int .i64 e', .int .i64 p']) (by simp [results, Tryd.results8, go_sem, e0, e1, e2, e3]) rfl ⟨rfl, hB⟩
end Go.Proofs.YtkkhibamkdgffaaDoor

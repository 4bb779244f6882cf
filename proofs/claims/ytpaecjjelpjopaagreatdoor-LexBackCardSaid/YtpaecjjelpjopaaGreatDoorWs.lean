/- The developers' words: read at any place, Next, Lack, Text. -/
import Derived.Test.YtpaecjjelpjopaaGreatDoorWr
import Derived.Test.YtpaecjjelpjopaaGreatDoorDy
import Derived.Test.YtpaecjjelpjopaaGreatDoorP1
namespace Go.Proofs.YtpaecjjelpjopaaGreatDoor
open Go.RowKit Go.Shelf BS

theorem next_in (s : ByteArray) (a : Nat) (ha : a < s.size) : nextA s a = nextN s a ∧ lackA s a = lackG5 s a := by
  unfold nextN lackG5
  rw [if_neg (by omega), if_neg (by omega)]
  exact ⟨rfl, rfl⟩
theorem next_far (s : ByteArray) (at' : Int) (h : at' < 0 ∨ (s.size : Int) ≤ at') : nextN s at' = (zWN, 1, 0) ∧ lackG5 s at' = eT := by
  unfold nextN lackG5
  rw [if_pos h, if_pos h]
  exact ⟨rfl, rfl⟩
set_option maxRecDepth 100000 in
set_option maxHeartbeats 8000000 in
theorem read5_calls (s : ByteArray) (hs : s.size ≤ 1000000) (at' : Int) (w : World) : Calls Tryz.prog 17 #[.string s, .int .i64 at'] w fun en w' => en = .returned (.agg (rgA (nextN s at') (lackG5 s at'))) ∧ Below w.heap.size w w' := by
  by_cases hin : 0 ≤ at' ∧ at' < s.size
  · obtain ⟨a, rfl⟩ := Int.eq_ofNat_of_zero_le hin.1
    have h := next_in s a (by omega)
    rw [← h.1, ← h.2]
    exact read5_in s hs a (by omega) w
  have hfar := next_far s at' (by omega)
  rw [hfar.1, hfar.2]
  have HF := Lib.hid (fun w => fault5_calls 1 0 w)
  have HR := Lib.hid (Blk.new w (rgZ 0 0 0 0 0 0 0 eT) 45)
  have HB : Hid (Below w.heap.size w (w.alloc (.cells (rgZ 0 0 0 0 0 0 0 eT) 45))) := Lib.hid (by go_grown)
  have hz : w.heap.size + 1 ≤ (w.alloc (.cells (rgZ 0 0 0 0 0 0 0 eT) 45)).heap.size := by simp
  go_enter Tryz.func17, Tryz.ntmps17
  go_upto_region 1 with fail
  have e0 : w.alloc (.cells #[.int .i64 0, .int .i64 0, .int .i64 0, .int .u64 0, .int .u64 0, .int .u64 0, .int .u64 0, .int .i64 0, .int .i64 0, .int .i64 0, .int .i64 0, .string ⟨#[]⟩] 45) = w.alloc (.cells (rgZ 0 0 0 0 0 0 0 eT) 45) := rfl
  try rw [e0]
  clear e0
  generalize w.alloc (.cells (rgZ 0 0 0 0 0 0 0 eT) 45) = w1 at *
  by_cases hneg : at' < 0
  · have q : decide (at' < 0) = true := by simpa using hneg
    clear hin hfar hneg
    go_wp2_with fail
    refine (HF.out _).mono ?_
    rintro en w2 ⟨rfl, hb⟩
    replace HR := Lib.hid (HR.out.below hb (Blk.lt HR.out))
    replace HB := Lib.hid (HB.out.trans (hb.mono (by omega)))
    replace hz := Nat.le_trans hz hb.size
    clear hb HF
    go_wp2_with ((with_reducible refine wpList_store_st (o := ⟨none, .store 45 _ _, _, _, _, _⟩) rfl 45 _ _ rfl w.heap.size rfl rfl (run_storeAt_row _ w.heap.size 45 45 (rgZ 0 0 0 0 0 0 0 eT) (rgZ 0 0 0 0 0 1 0 eT) ?_ ?_ ?_ ?_) ?_); exact HR.out; exact infoRg; rfl; exact rg_one _ _ _ 0 _ _ _ _ _)
    exact bodyPost_ret (v := .agg (rgZ 0 0 0 0 0 1 0 eT)) (results_cell_row rfl _ _ w.heap.size 45 (rgZ 0 0 0 0 0 1 0 eT) (0, 0) _ rfl (Blk.setRow HR.out) Tryz.underlying45 rfl infoRg) rfl ⟨by rw [rgZ_eq]; rfl, below_row HB.out (Nat.le_refl _) _⟩
  · have q : decide (at' < 0) = false := by rw [decide_eq_false_iff_not]; omega
    have q1 : decide ((s.size : Int) ≤ at') = true := by rw [decide_eq_true_iff]; omega
    clear hin hfar hneg
    go_wp2_with fail
    refine (HF.out _).mono ?_
    rintro en w2 ⟨rfl, hb⟩
    replace HR := Lib.hid (HR.out.below hb (Blk.lt HR.out))
    replace HB := Lib.hid (HB.out.trans (hb.mono (by omega)))
    replace hz := Nat.le_trans hz hb.size
    clear hb HF
    go_wp2_with ((with_reducible refine wpList_store_st (o := ⟨none, .store 45 _ _, _, _, _, _⟩) rfl 45 _ _ rfl w.heap.size rfl rfl (run_storeAt_row _ w.heap.size 45 45 (rgZ 0 0 0 0 0 0 0 eT) (rgZ 0 0 0 0 0 1 0 eT) ?_ ?_ ?_ ?_) ?_); exact HR.out; exact infoRg; rfl; exact rg_one _ _ _ 0 _ _ _ _ _)
    exact bodyPost_ret (v := .agg (rgZ 0 0 0 0 0 1 0 eT)) (results_cell_row rfl _ _ w.heap.size 45 (rgZ 0 0 0 0 0 1 0 eT) (0, 0) _ rfl (Blk.setRow HR.out) Tryz.underlying45 rfl infoRg) rfl ⟨by rw [rgZ_eq]; rfl, below_row HB.out (Nat.le_refl _) _⟩
/-! ### Next -/
theorem Blk.otherRow {W : World} {B B' : Nat} {vs cs : Array Value} {t : TypeId} (h : Blk W B vs t) (hne : B' ≠ B) : Blk (W.setRow B' cs) B vs t := by
  show (W.heap.modify B' _)[B]? = _
  rw [Array.getElem?_modify]
  rw [if_neg hne]
  exact h
def SN5 (w : World) (B : Nat) (d c : Array Value) (W : World) : Prop := (Blk W w.heap.size d 27 ∧ Blk W B c 45 ∧ w.heap.size + 1 ≤ B) ∧ Below w.heap.size w W
theorem SN5.drewS {w W : World} {B : Nat} {d c : Array Value} (h : SN5 w B d c W) : SN5 w B d c W.drew := ⟨⟨h.1.1, h.1.2.1, h.1.2.2⟩, h.2.drew⟩
theorem SN5.store {w W : World} {B : Nat} {d c : Array Value} (h : SN5 w B d c W) (cs : Array Value) : SN5 w B cs c (W.setRow w.heap.size cs) :=
  ⟨⟨Blk.setRow h.1.1, h.1.2.1.otherRow (by have := h.1.2.2; omega), h.1.2.2⟩, below_row h.2 (Nat.le_refl _) _⟩
@[reducible] def woZ : Array Value := #[.int .i64 0, .int .i64 0, .int .i64 0, .int .u64 0, .int .u64 0, .int .u64 0, .int .u64 0, .int .i64 0, .int .i64 0]
set_option maxRecDepth 100000 in
set_option maxHeartbeats 8000000 in
theorem next5_dev (s : ByteArray) (hs : s.size ≤ 1000000) (at' : Int) (w : World) : Calls Tryz.prog 8 #[.string s, .int .i64 at'] w fun en w' => en = .returned (.tuple #[.agg (woA (nextN s at').1), .int .i64 (nextN s at').2.1, .int .i64 (nextN s at').2.2]) ∧ Below w.heap.size w w' := by
  have HR := Lib.hid (Blk.new w woZ 27)
  have HB : Hid (Below w.heap.size w (w.alloc (.cells woZ 27))) := Lib.hid (by go_grown)
  have hz : w.heap.size + 1 ≤ (w.alloc (.cells woZ 27)).heap.size := by simp
  have HW := read5_calls s hs at'
  generalize lackG5 s at' = l at *
  generalize nextN s at' = X at *
  obtain ⟨⟨k, p, e, t, n, m⟩, er, pl⟩ := X
  replace HW : Hid (∀ w, Calls Tryz.prog 17 #[.string s, .int .i64 at'] w fun en w' => en = .returned (.agg (rgI k p e t n m er pl l)) ∧ Below w.heap.size w w') := Lib.hid HW
  show Calls Tryz.prog 8 #[.string s, .int .i64 at'] w fun en w' => en = .returned (.tuple #[.agg (woI k p e t n m), .int .i64 er, .int .i64 pl]) ∧ Below w.heap.size w w'
  go_enter Tryz.func8, Tryz.ntmps8
  go_upto_region 1 with fail
  have e0 : w.alloc (.cells #[.int .i64 0, .int .i64 0, .int .i64 0, .int .u64 0, .int .u64 0, .int .u64 0, .int .u64 0, .int .i64 0, .int .i64 0] 27) = w.alloc (.cells woZ 27) := rfl
  try rw [e0]
  clear e0
  generalize w.alloc (.cells woZ 27) = w1 at *
  go_wp2_with fail
  refine (HW.out _).mono ?_
  rintro en w2 ⟨rfl, hb⟩
  replace HR := Lib.hid (HR.out.below hb (Blk.lt HR.out))
  replace HB := Lib.hid (HB.out.trans (hb.mono (by omega)))
  replace hz := Nat.le_trans hz hb.size
  clear hb HW
  go_upto_region 2 with fail
  have HP := Lib.hid (Blk.new w2 (rgI k p e t n m er pl l) 45)
  replace HR := Lib.hid (HR.out.alloc (.cells (rgI k p e t n m er pl l) 45))
  replace HB := Lib.hid (HB.out.alloc (by omega) (.cells (rgI k p e t n m er pl l) 45))
  generalize w2.alloc (.cells (rgI k p e t n m er pl l) 45) = w3 at *
  generalize w2.heap.size = B at *
  have H0 := Lib.hid (show SN5 w B woZ (rgI k p e t n m er pl l) w3 from ⟨⟨HR.out, HP.out, hz⟩, HB.out⟩)
  clear HR HB HP hz
  refine region_stepsL (S0 := SN5 w B woZ (rgI k p e t n m er pl l)) (S1 := SN5 w B (woI k p e t n m) (rgI k p e t n m er pl l)) (m := 6) (by kernel_rfl) (by kernel_rfl) (SN5.drewS H0.out) ?_
  clear H0
  simp only [List.size_toArray, List.length_cons, List.length_nil, Nat.reduceAdd, Array.replicate_succ, Array.replicate_zero, List.push_toArray, List.nil_append, List.cons_append]
  refine AnyL.next (m := 6) (i := 0) (d := some 11) (v := .pointer (some ⟨B, 0, none⟩)) rfl rfl (by kernel_rfl) (by kernel_rfl) (by kernel_rfl) (by kernel_rfl) (StepsIf.yield (by kernel_rfl) (fun w' hS => by clear hS; go_simp)) ?_
  intro a' ha'
  simp only [Act.put, List.setIfInBounds_toArray, List.set_cons_zero, List.set_cons_succ] at ha'
  subst ha'
  refine AnyL.next (m := 6) (i := 1) (d := some 12) (v := .agg (woI k p e t n m)) rfl rfl (by kernel_rfl) (by kernel_rfl) (by kernel_rfl) (by kernel_rfl) (StepsIf.yield (by kernel_rfl) (fun w' hS => by have c0 := hS.1.2.1.cell 0; have c1 := hS.1.2.1.cell 1; have c2 := hS.1.2.1.cell 2; have c3 := hS.1.2.1.cell 3; have c4 := hS.1.2.1.cell 4; have c5 := hS.1.2.1.cell 5; have c6 := hS.1.2.1.cell 6; have c7 := hS.1.2.1.cell 7; have c8 := hS.1.2.1.cell 8; simp only [List.getElem?_toArray, List.getElem?_cons_zero, List.getElem?_cons_succ] at c0 c1 c2 c3 c4 c5 c6 c7 c8; clear hS; go_simp)) ?_
  intro a' ha'
  simp only [Act.put, List.setIfInBounds_toArray, List.set_cons_zero, List.set_cons_succ] at ha'
  subst ha'
  refine AnyL.both (m := 6) (i := 2) (d := some 13) (v := .pointer (some ⟨B, 9, none⟩)) rfl rfl (by kernel_rfl) (by kernel_rfl) (by kernel_rfl) (by kernel_rfl) (StepsIf.yield (by kernel_rfl) (fun w' hS => by clear hS; go_simp)) (StepsIf.yield (by kernel_rfl) (fun w' hS => by clear hS; go_simp)) ?_
  intro a' ha'
  simp only [Act.put, List.setIfInBounds_toArray, List.set_cons_zero, List.set_cons_succ] at ha'
  subst ha'
  refine AnyL.both (m := 6) (i := 3) (d := some 14) (v := .int .i64 er) rfl rfl (by kernel_rfl) (by kernel_rfl) (by kernel_rfl) (by kernel_rfl) (StepsIf.yield (by kernel_rfl) (fun w' hS => by have c9 := hS.1.2.1.cell 9; simp only [List.getElem?_toArray, List.getElem?_cons_zero, List.getElem?_cons_succ] at c9; clear hS; go_simp)) (StepsIf.yield (by kernel_rfl) (fun w' hS => by have c9 := hS.1.2.1.cell 9; simp only [List.getElem?_toArray, List.getElem?_cons_zero, List.getElem?_cons_succ] at c9; clear hS; go_simp)) ?_
  intro a' ha'
  simp only [Act.put, List.setIfInBounds_toArray, List.set_cons_zero, List.set_cons_succ] at ha'
  subst ha'
  refine AnyL.both (m := 6) (i := 4) (d := some 15) (v := .pointer (some ⟨B, 10, none⟩)) rfl rfl (by kernel_rfl) (by kernel_rfl) (by kernel_rfl) (by kernel_rfl) (StepsIf.yield (by kernel_rfl) (fun w' hS => by clear hS; go_simp)) (StepsIf.yield (by kernel_rfl) (fun w' hS => by clear hS; go_simp)) ?_
  intro a' ha'
  simp only [Act.put, List.setIfInBounds_toArray, List.set_cons_zero, List.set_cons_succ] at ha'
  subst ha'
  refine AnyL.both (m := 6) (i := 5) (d := some 16) (v := .int .i64 pl) rfl rfl (by kernel_rfl) (by kernel_rfl) (by kernel_rfl) (by kernel_rfl) (StepsIf.yield (by kernel_rfl) (fun w' hS => by have c10 := hS.1.2.1.cell 10; simp only [List.getElem?_toArray, List.getElem?_cons_zero, List.getElem?_cons_succ] at c10; clear hS; go_simp)) (StepsIf.yield (by kernel_rfl) (fun w' hS => by have c10 := hS.1.2.1.cell 10; simp only [List.getElem?_toArray, List.getElem?_cons_zero, List.getElem?_cons_succ] at c10; clear hS; go_simp)) ?_
  intro a' ha'
  simp only [Act.put, List.setIfInBounds_toArray, List.set_cons_zero, List.set_cons_succ] at ha'
  subst ha'
  refine AnyL.store (m := 6) (d := none) (v := undef) rfl rfl (by kernel_rfl) (by kernel_rfl) (by kernel_rfl) (fun w' hS K Q hK => by exact wp_store_row 27 _ _ rfl w.heap.size rfl rfl (run_storeAt_row _ w.heap.size 27 27 woZ (woI k p e t n m) hS.1.1 infoWo rfl (wo_one _ _ _ _ _ _)) (hK _ (SN5.store hS _))) ?_
  intro a' ha'
  simp only [Act.put] at ha'
  subst ha'
  refine AnyL.after (m := 6) (i := 7) (d := some 5) (v := .int .i64 er) rfl rfl (by kernel_rfl) (by kernel_rfl) (by kernel_rfl) (by kernel_rfl) (StepsIf.yield (by kernel_rfl) (fun w' hS => by clear hS; go_simp)) ?_
  intro a' ha'
  simp only [Act.put, List.setIfInBounds_toArray, List.set_cons_zero, List.set_cons_succ] at ha'
  subst ha'
  refine AnyL.after (m := 6) (i := 8) (d := some 6) (v := .int .i64 pl) rfl rfl (by kernel_rfl) (by kernel_rfl) (by kernel_rfl) (by kernel_rfl) (StepsIf.yield (by kernel_rfl) (fun w' hS => by clear hS; go_simp)) ?_
  intro a' ha'
  simp only [Act.put, List.setIfInBounds_toArray, List.set_cons_zero, List.set_cons_succ] at ha'
  subst ha'
  refine AnyL.done (by kernel_rfl) (by kernel_rfl) (fun w' hS => ?_) _
  have hR := hS.1.1
  have hB := hS.2
  clear hS
  go_wp2_with fail
  exact bodyPost_ret (v := .tuple #[.agg (woI k p e t n m), .int .i64 er, .int .i64 pl]) (results_cell2 Tryz.results8 _ _ w.heap.size 27 (woI k p e t n m) (0, 0) _ rfl hR Tryz.underlying27 rfl infoWo) rfl ⟨rfl, hB⟩

/-! ### Text -/
theorem cnt_el (g : Nat → Bool) : ∀ k, cnt g k = (el g k).length
  | 0 => rfl
  | k + 1 => by
    have h : el g (k + 1) = el g k ++ (if g k then [k] else []) := by
      unfold el
      rw [List.range_succ, List.filter_append]
      congr 1
      cases hg : g k <;> simp [hg]
    rw [cnt, cnt_el g k, h, List.length_append]
    cases g k <;> rfl
theorem any_len (t : BitVec 256) : t = ~~~0 ↔ (el t.getLsbD 256).length = 256 := by
  constructor
  · rintro rfl
    decide +kernel
  · intro h
    have hf : ∀ x ∈ List.range 256, t.getLsbD x = true := by
      have e : (el t.getLsbD 256).length = (List.range 256).length := by rw [h, List.length_range]
      unfold el at e
      exact List.length_filter_eq_length_iff.1 e
    apply BitVec.eq_of_getLsbD_eq
    intro i hi
    rw [hf i (List.mem_range.2 hi)]
    symm
    rw [BitVec.getLsbD_not]
    simp [hi]
theorem next_el (t : BitVec 256) (b : Nat) (l : List Nat) (h : el t.getLsbD 256 = b :: l) : nextOf t.getLsbD 0 = b := by
  have hf : (List.range 256).find? (fun j => decide (0 ≤ j) && t.getLsbD j) = some b := by
    have e : (fun j => decide (0 ≤ j) && t.getLsbD j) = t.getLsbD := by funext j; simp
    rw [e]
    have := List.head?_filter (p := t.getLsbD) (l := List.range 256)
    rw [← this]
    unfold el at h
    rw [h]; rfl
  unfold nextOf
  rw [hf]
theorem textW_cases (t : BitVec 256) : (t = ~~~0 ∧ textW t = [46]) ∨ (t ≠ ~~~0 ∧ cnt t.getLsbD 256 = 1 ∧ ∃ b : Nat, b < 256 ∧ nextOf t.getLsbD 0 = b ∧ textW t = textB b) ∨ (t ≠ ~~~0 ∧ cnt t.getLsbD 256 ≠ 1 ∧ textW t = textT t) := by
  have h1 := any_len t
  have h2 := cnt_el t.getLsbD 256
  have h3 := next_el t
  have h4 : ∀ b l, el t.getLsbD 256 = b :: l → b < 256 := fun b l h => by
    have : b ∈ el t.getLsbD 256 := by rw [h]; exact List.mem_cons_self ..
    unfold el at this
    simp at this
    exact this.1
  unfold textW
  by_cases hA : (el t.getLsbD 256).length = 256
  · exact .inl ⟨h1.2 hA, by rw [if_pos hA]⟩
  by_cases hO : (el t.getLsbD 256).length = 1
  · obtain ⟨b, hb⟩ := List.length_eq_one_iff.1 hO
    refine .inr (.inl ⟨fun h => hA (h1.1 h), by rw [h2, hO], b, h4 b [] hb, h3 b [] hb, ?_⟩)
    rw [if_neg hA, if_neg (by omega), hb]
    rfl
  · exact .inr (.inr ⟨fun h => hA (h1.1 h), by rw [h2]; exact hO, by rw [if_neg hA, if_pos hO]⟩)
set_option maxRecDepth 100000 in
set_option maxHeartbeats 8000000 in
theorem text5_dev (t : BitVec 256) (w : World) (hT : Tab w) (hgT : 0 < w.heap.size) : Calls Tryz.prog 13 #[setV t] w fun en w' => en = .returned (.string (ofT (textW t))) ∧ Below w.heap.size w w' := by
  have hs0 : SX w t (w.alloc (.cells (setA t) 25)) := ⟨⟨Blk.new w _ _, by go_grown⟩, hT.keep (by go_grown : Below w.heap.size w (w.alloc (.cells (setA t) 25))) hgT, by simp <;> omega⟩
  have HS0 := Lib.hid hs0
  clear hs0 hT hgT
  have heq := eq_set t (~~~0)
  have HC := textW_cases t
  have HCN := Lib.hid (count_calls t)
  have HNX := Lib.hid (fun (W : World) (h : SX w t W) => next_calls t 0 W (by omega) h.2.1 h.2.2)
  have HTX := Lib.hid (fun (W : World) (h : SX w t W) => dText_calls t W h.2.1 h.2.2)
  have han := cAny_calls
  generalize hZ : (~~~0 : BitVec 256) = z at *
  go_enter Tryz.func13, Tryz.ntmps13
  go_upto_region 1 with fail
  have e0 : w.alloc (.cells #[.int .u64 (wd t 0), .int .u64 (wd t 1), .int .u64 (wd t 2), .int .u64 (wd t 3)] 25) = w.alloc (.cells (setA t) 25) := rfl
  try rw [e0]
  clear e0
  generalize w.alloc (.cells (setA t) 25) = w1 at *
  refine region_steps (S := SX w t) (by kernel_rfl) (SX.drewS HS0.out) ?_
  clear HS0
  simp only [List.size_toArray, List.length_cons, List.length_nil, Nat.reduceAdd, Array.replicate_succ, Array.replicate_zero, List.push_toArray, List.nil_append, List.cons_append]
  refine AnyS.next (i := 0) (d := some 4) (v := setV t) rfl rfl (by kernel_rfl) (by kernel_rfl) (by kernel_rfl) (StepsIf.yield (by kernel_rfl) (fun w' hS => by obtain ⟨⟨c0, c1, c2, c3⟩, _⟩ := hS.1.1.cells4; clear hS; go_simp)) ?_
  intro a' ha'
  simp only [Act.put, List.setIfInBounds_toArray, List.set_cons_zero, List.set_cons_succ] at ha'
  subst ha'
  refine AnyS.next (i := 1) (d := some 5) (v := setV z) rfl rfl (by kernel_rfl) (by kernel_rfl) (by kernel_rfl) (StepsIf.call (by kernel_rfl) (fun w' hS => by clear hS; go_simp) (fun w' hS => (han w').mono fun e w'' h => ⟨h.1, hS.keep h.2⟩)) ?_
  intro a' ha'
  simp only [Act.put, List.setIfInBounds_toArray, List.set_cons_zero, List.set_cons_succ] at ha'
  subst ha'
  refine AnyS.next (i := 2) (d := some 6) (v := .bool (decide (t = z))) rfl rfl (by kernel_rfl) (by kernel_rfl) (by kernel_rfl) (StepsIf.yield (by kernel_rfl) (fun w' hS => by have q := heq; clear hS; go_simp)) ?_
  intro a' ha'
  simp only [Act.put, List.setIfInBounds_toArray, List.set_cons_zero, List.set_cons_succ] at ha'
  subst ha'
  refine AnyS.next (i := 3) (d := some 3) (v := .bool (decide (t = z))) rfl rfl (by kernel_rfl) (by kernel_rfl) (by kernel_rfl) (StepsIf.yield (by kernel_rfl) (fun w' hS => by clear hS; go_simp)) ?_
  intro a' ha'
  simp only [Act.put, List.setIfInBounds_toArray, List.set_cons_zero, List.set_cons_succ] at ha'
  subst ha'
  refine AnyS.done (by kernel_rfl) ?_ _
  intro w2 hS2
  clear heq han
  rcases HC with ⟨h1, h2⟩ | ⟨h1, h2, b, h3, h4, h5⟩ | ⟨h1, h2, h3⟩
  · have q : decide (t = z) = true := decide_eq_true h1
    rw [q]
    have HY := Lib.hid h2
    clear h1 h2 HCN HNX HTX q
    go_wp2_with fail
    go_ret
    exact ⟨by rw [HY.out] <;> rfl, hS2.1.2⟩
  · have q : decide (t = z) = false := decide_eq_false h1
    rw [q]
    have HTB := Lib.hid (textByte_calls b h3)
    have HY := Lib.hid h5
    have xb : IntKind.u8.wrap (b : Int) = b := IntWalk.u8_in _ (by omega)
    have HN4 := Lib.hid h4
    rw [h2] at HCN
    obtain ⟨⟨c0, c1, c2, c3⟩, _⟩ := hS2.1.1.cells4
    clear h1 h2 h4 h5 HTX q
    go_wp2_with fail
    refine (HCN.out _).mono ?_
    rintro en w3 ⟨rfl, hb⟩
    have hS3 := hS2.keep hb
    clear hb HCN hS2 c0 c1 c2 c3
    obtain ⟨⟨c0, c1, c2, c3⟩, _⟩ := hS3.1.1.cells4
    go_wp2_with fail
    have hnx := HNX.out _ hS3
    rw [show (0 : Int).toNat = 0 from rfl, HN4.out] at hnx
    refine hnx.mono ?_
    rintro en w4 ⟨rfl, hb⟩
    have hS4 := hS3.keep hb
    clear hb hnx HNX hS3 c0 c1 c2 c3 HN4
    go_wp2_with fail
    refine (HTB.out _).mono ?_
    rintro en w5 ⟨rfl, hb⟩
    have hS5 := hS4.keep hb
    clear hb HTB hS4
    go_wp2_with fail
    go_ret
    exact ⟨by rw [HY.out] <;> rfl, hS5.1.2⟩
  · have q : decide (t = z) = false := decide_eq_false h1
    rw [q]
    have q1 : ((cnt t.getLsbD 256 : Int) == 1) = false := by rw [beq_eq_false_iff_ne]; omega
    have HY := Lib.hid h3
    obtain ⟨⟨c0, c1, c2, c3⟩, _⟩ := hS2.1.1.cells4
    clear h1 h2 h3 HNX q
    generalize cnt t.getLsbD 256 = c at *
    go_wp2_with fail
    refine (HCN.out _).mono ?_
    rintro en w3 ⟨rfl, hb⟩
    have hS3 := hS2.keep hb
    clear hb HCN hS2 c0 c1 c2 c3
    obtain ⟨⟨c0, c1, c2, c3⟩, _⟩ := hS3.1.1.cells4
    go_wp2_with fail
    refine (HTX.out _ hS3).mono ?_
    rintro en w4 ⟨rfl, hb⟩
    have hS4 := hS3.keep hb
    clear hb HTX hS3 c0 c1 c2 c3
    go_wp2_with fail
    go_ret
    exact ⟨by rw [HY.out] <;> rfl, hS4.1.2⟩
end Go.Proofs.YtpaecjjelpjopaaGreatDoor

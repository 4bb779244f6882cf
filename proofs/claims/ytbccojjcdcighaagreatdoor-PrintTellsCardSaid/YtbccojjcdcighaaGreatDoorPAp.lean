/- Texts put together: Hj Hk Ws Jf Jg Hl Hm Ur Jh. -/
import Derived.Test.YtbccojjcdcighaaGreatDoorPAo
import Derived.Test.YtbccojjcdcighaaGreatDoorPAn
import Derived.Test.YtbccojjcdcighaaGreatDoorPAd
import Derived.Test.YtbccojjcdcighaaGreatDoorPB
import Derived.Test.YtbccojjcdcighaaGreatDoorPD
import Derived.Test.YtbccojjcdcighaaGreatDoorPAm
import Derived.Test.YtbccojjcdcighaaGreatDoorPAc
import Derived.Deep.RegionHeld3
import Derived.Test.YtbccojjcdcighaaGreatDoorPAe
import Derived.Test.YtbccojjcdcighaaGreatDoorPV
namespace Go.Proofs.YtbccojjcdcighaaGreatDoor
open Go.RowKit BS
end Go.Proofs.YtbccojjcdcighaaGreatDoor

namespace Go.Proofs.YtbccojjcdcighaaGreatDoor
open Go.RowKit BS
end Go.Proofs.YtbccojjcdcighaaGreatDoor

namespace Go.Proofs.YtbccojjcdcighaaGreatDoor
open Go.RowKit Go.Shelf BS
theorem next_in (s : ByteArray) (a : Nat) (ha : a < s.size) : nextA s a = nextN s a ∧ lackA s a = lackG5 s a := by
  unfold nextN lackG5
  rw [if_neg (by omega), if_neg (by omega)]
  exact ⟨rfl, rfl⟩
theorem next_far (s : ByteArray) (at' : Int) (h : at' < 0 ∨ (s.size : Int) ≤ at') : nextN s at' = (zWN, 1, 0) ∧ lackG5 s at' = eT := by
  unfold nextN lackG5
  rw [if_pos h, if_pos h]
  exact ⟨rfl, rfl⟩
set_option maxRecDepth 100000 in
set_option maxHeartbeats 8000000 in
theorem read5_calls (s : ByteArray) (hs : s.size ≤ 1000000) (at' : Int) (w : World) : Calls Tryz.prog 97 #[.string s, .int .i64 at'] w fun en w' => en = .returned (.agg (rgA (nextN s at') (lackG5 s at'))) ∧ Below w.heap.size w w' := by
  by_cases hin : 0 ≤ at' ∧ at' < s.size
  · obtain ⟨a, rfl⟩ := Int.eq_ofNat_of_zero_le hin.1
    have h := next_in s a (by omega)
    rw [← h.1, ← h.2]
    exact read5_in s hs a (by omega) w
  have hfar := next_far s at' (by omega)
  rw [hfar.1, hfar.2]
  have HF := Lib.hid (fun w => fault5_calls 1 0 w)
  have HR := Lib.hid (Blk.new w (rgZ 0 0 0 0 0 0 0 eT) 142)
  have HB : Hid (Below w.heap.size w (w.alloc (.cells (rgZ 0 0 0 0 0 0 0 eT) 142))) := Lib.hid (by go_grown)
  have hz : w.heap.size + 1 ≤ (w.alloc (.cells (rgZ 0 0 0 0 0 0 0 eT) 142)).heap.size := by simp
  go_enter Tryz.func97, Tryz.ntmps97
  go_upto_region 1 with fail
  have e0 : w.alloc (.cells #[.int .i64 0, .int .i64 0, .int .i64 0, .int .u64 0, .int .u64 0, .int .u64 0, .int .u64 0, .int .i64 0, .int .i64 0, .int .i64 0, .int .i64 0, .string ⟨#[]⟩] 142) = w.alloc (.cells (rgZ 0 0 0 0 0 0 0 eT) 142) := rfl
  try rw [e0]
  clear e0
  generalize w.alloc (.cells (rgZ 0 0 0 0 0 0 0 eT) 142) = w1 at *
  by_cases hneg : at' < 0
  · have q : decide (at' < 0) = true := by simpa using hneg
    clear hin hfar hneg
    go_wp2_with fail
    refine (HF.out _).mono ?_
    rintro en w2 ⟨rfl, hb⟩
    replace HR := Lib.hid (HR.out.below hb (Blk.lt HR.out))
    replace HB := Lib.hid (HB.out.trans (hb.mono (by omega)))
    replace hz := Nat.le_trans hz hb.size
    clear hb HF
    go_wp2_with ((with_reducible refine wpList_store_st (o := ⟨none, .store 142 _ _, _, _, _, _⟩) rfl 142 _ _ rfl w.heap.size rfl rfl (run_storeAt_row _ w.heap.size 142 142 (rgZ 0 0 0 0 0 0 0 eT) (rgZ 0 0 0 0 0 1 0 eT) ?_ ?_ ?_ ?_) ?_); exact HR.out; exact infoRg; rfl; exact rg_one _ _ _ 0 _ _ _ _ _)
    exact bodyPost_ret (v := .agg (rgZ 0 0 0 0 0 1 0 eT)) (results_cell_row rfl _ _ w.heap.size 142 (rgZ 0 0 0 0 0 1 0 eT) (0, 0) _ rfl (Blk.setRow HR.out) Tryz.underlying142 rfl infoRg) rfl ⟨by rw [rgZ_eq]; rfl, below_row HB.out (Nat.le_refl _) _⟩
  · have q : decide (at' < 0) = false := by rw [decide_eq_false_iff_not]; omega
    have q1 : decide ((s.size : Int) ≤ at') = true := by rw [decide_eq_true_iff]; omega
    clear hin hfar hneg
    go_wp2_with fail
    refine (HF.out _).mono ?_
    rintro en w2 ⟨rfl, hb⟩
    replace HR := Lib.hid (HR.out.below hb (Blk.lt HR.out))
    replace HB := Lib.hid (HB.out.trans (hb.mono (by omega)))
    replace hz := Nat.le_trans hz hb.size
    clear hb HF
    go_wp2_with ((with_reducible refine wpList_store_st (o := ⟨none, .store 142 _ _, _, _, _, _⟩) rfl 142 _ _ rfl w.heap.size rfl rfl (run_storeAt_row _ w.heap.size 142 142 (rgZ 0 0 0 0 0 0 0 eT) (rgZ 0 0 0 0 0 1 0 eT) ?_ ?_ ?_ ?_) ?_); exact HR.out; exact infoRg; rfl; exact rg_one _ _ _ 0 _ _ _ _ _)
    exact bodyPost_ret (v := .agg (rgZ 0 0 0 0 0 1 0 eT)) (results_cell_row rfl _ _ w.heap.size 142 (rgZ 0 0 0 0 0 1 0 eT) (0, 0) _ rfl (Blk.setRow HR.out) Tryz.underlying142 rfl infoRg) rfl ⟨by rw [rgZ_eq]; rfl, below_row HB.out (Nat.le_refl _) _⟩
theorem Blk.otherRow {W : World} {B B' : Nat} {vs cs : Array Value} {t : TypeId} (h : Blk W B vs t) (hne : B' ≠ B) : Blk (W.setRow B' cs) B vs t := by
  show (W.heap.modify B' _)[B]? = _
  rw [Array.getElem?_modify]
  rw [if_neg hne]
  exact h
def SN5 (w : World) (B : Nat) (d c : Array Value) (W : World) : Prop := (Blk W w.heap.size d 91 ∧ Blk W B c 142 ∧ w.heap.size + 1 ≤ B) ∧ Below w.heap.size w W
theorem SN5.drewS {w W : World} {B : Nat} {d c : Array Value} (h : SN5 w B d c W) : SN5 w B d c W.drew := ⟨⟨h.1.1, h.1.2.1, h.1.2.2⟩, h.2.drew⟩
theorem SN5.store {w W : World} {B : Nat} {d c : Array Value} (h : SN5 w B d c W) (cs : Array Value) : SN5 w B cs c (W.setRow w.heap.size cs) :=
  ⟨⟨Blk.setRow h.1.1, h.1.2.1.otherRow (by have := h.1.2.2; omega), h.1.2.2⟩, below_row h.2 (Nat.le_refl _) _⟩
@[reducible] def woZ : Array Value := #[.int .i64 0, .int .i64 0, .int .i64 0, .int .u64 0, .int .u64 0, .int .u64 0, .int .u64 0, .int .i64 0, .int .i64 0]
set_option maxRecDepth 100000 in
set_option maxHeartbeats 8000000 in
theorem next5_dev (s : ByteArray) (hs : s.size ≤ 1000000) (at' : Int) (w : World) : Calls Tryz.prog 71 #[.string s, .int .i64 at'] w fun en w' => en = .returned (.tuple #[.agg (woA (nextN s at').1), .int .i64 (nextN s at').2.1, .int .i64 (nextN s at').2.2]) ∧ Below w.heap.size w w' := by
  have HR := Lib.hid (Blk.new w woZ 91)
  have HB : Hid (Below w.heap.size w (w.alloc (.cells woZ 91))) := Lib.hid (by go_grown)
  have hz : w.heap.size + 1 ≤ (w.alloc (.cells woZ 91)).heap.size := by simp
  have HW := read5_calls s hs at'
  generalize lackG5 s at' = l at *
  generalize nextN s at' = X at *
  obtain ⟨⟨k, p, e, t, n, m⟩, er, pl⟩ := X
  replace HW : Hid (∀ w, Calls Tryz.prog 97 #[.string s, .int .i64 at'] w fun en w' => en = .returned (.agg (rgI k p e t n m er pl l)) ∧ Below w.heap.size w w') := Lib.hid HW
  show Calls Tryz.prog 71 #[.string s, .int .i64 at'] w fun en w' => en = .returned (.tuple #[.agg (woI k p e t n m), .int .i64 er, .int .i64 pl]) ∧ Below w.heap.size w w'
  go_enter Tryz.func71, Tryz.ntmps71
  go_upto_region 1 with fail
  have e0 : w.alloc (.cells #[.int .i64 0, .int .i64 0, .int .i64 0, .int .u64 0, .int .u64 0, .int .u64 0, .int .u64 0, .int .i64 0, .int .i64 0] 91) = w.alloc (.cells woZ 91) := rfl
  try rw [e0]
  clear e0
  generalize w.alloc (.cells woZ 91) = w1 at *
  go_wp2_with fail
  refine (HW.out _).mono ?_
  rintro en w2 ⟨rfl, hb⟩
  replace HR := Lib.hid (HR.out.below hb (Blk.lt HR.out))
  replace HB := Lib.hid (HB.out.trans (hb.mono (by omega)))
  replace hz := Nat.le_trans hz hb.size
  clear hb HW
  go_upto_region 2 with fail
  have HP := Lib.hid (Blk.new w2 (rgI k p e t n m er pl l) 142)
  replace HR := Lib.hid (HR.out.alloc (.cells (rgI k p e t n m er pl l) 142))
  replace HB := Lib.hid (HB.out.alloc (by omega) (.cells (rgI k p e t n m er pl l) 142))
  generalize w2.alloc (.cells (rgI k p e t n m er pl l) 142) = w3 at *
  generalize w2.heap.size = B at *
  have H0 := Lib.hid (show SN5 w B woZ (rgI k p e t n m er pl l) w3 from ⟨⟨HR.out, HP.out, hz⟩, HB.out⟩)
  clear HR HB HP hz
  refine region_stepsL (S0 := SN5 w B woZ (rgI k p e t n m er pl l)) (S1 := SN5 w B (woI k p e t n m) (rgI k p e t n m er pl l)) (m := 6) (by kernel_rfl) (by kernel_rfl) (SN5.drewS H0.out) ?_
  clear H0
  simp only [List.size_toArray, List.length_cons, List.length_nil, Nat.reduceAdd, Array.replicate_succ, Array.replicate_zero, List.push_toArray, List.nil_append, List.cons_append]
  refine AnyL.next (m := 6) (i := 0) (d := some 11) (v := .pointer (some ⟨B, 0, none⟩)) rfl rfl (by kernel_rfl) (by kernel_rfl) (by kernel_rfl) (by kernel_rfl) (StepsIf.yield (by kernel_rfl) (fun w' hS => by clear hS; go_simp)) ?_
  intro a' ha'
  simp only [Act.put, List.setIfInBounds_toArray, List.set_cons_zero, List.set_cons_succ] at ha'
  subst ha'
  refine AnyL.next (m := 6) (i := 1) (d := some 12) (v := .agg (woI k p e t n m)) rfl rfl (by kernel_rfl) (by kernel_rfl) (by kernel_rfl) (by kernel_rfl) (StepsIf.yield (by kernel_rfl) (fun w' hS => by have c0 := hS.1.2.1.cell 0; have c1 := hS.1.2.1.cell 1; have c2 := hS.1.2.1.cell 2; have c3 := hS.1.2.1.cell 3; have c4 := hS.1.2.1.cell 4; have c5 := hS.1.2.1.cell 5; have c6 := hS.1.2.1.cell 6; have c7 := hS.1.2.1.cell 7; have c8 := hS.1.2.1.cell 8; simp only [List.getElem?_toArray, List.getElem?_cons_zero, List.getElem?_cons_succ] at c0 c1 c2 c3 c4 c5 c6 c7 c8; clear hS; go_simp)) ?_
  intro a' ha'
  simp only [Act.put, List.setIfInBounds_toArray, List.set_cons_zero, List.set_cons_succ] at ha'
  subst ha'
  refine AnyL.both (m := 6) (i := 2) (d := some 13) (v := .pointer (some ⟨B, 9, none⟩)) rfl rfl (by kernel_rfl) (by kernel_rfl) (by kernel_rfl) (by kernel_rfl) (StepsIf.yield (by kernel_rfl) (fun w' hS => by clear hS; go_simp)) (StepsIf.yield (by kernel_rfl) (fun w' hS => by clear hS; go_simp)) ?_
  intro a' ha'
  simp only [Act.put, List.setIfInBounds_toArray, List.set_cons_zero, List.set_cons_succ] at ha'
  subst ha'
  refine AnyL.both (m := 6) (i := 3) (d := some 14) (v := .int .i64 er) rfl rfl (by kernel_rfl) (by kernel_rfl) (by kernel_rfl) (by kernel_rfl) (StepsIf.yield (by kernel_rfl) (fun w' hS => by have c9 := hS.1.2.1.cell 9; simp only [List.getElem?_toArray, List.getElem?_cons_zero, List.getElem?_cons_succ] at c9; clear hS; go_simp)) (StepsIf.yield (by kernel_rfl) (fun w' hS => by have c9 := hS.1.2.1.cell 9; simp only [List.getElem?_toArray, List.getElem?_cons_zero, List.getElem?_cons_succ] at c9; clear hS; go_simp)) ?_
  intro a' ha'
  simp only [Act.put, List.setIfInBounds_toArray, List.set_cons_zero, List.set_cons_succ] at ha'
  subst ha'
  refine AnyL.both (m := 6) (i := 4) (d := some 15) (v := .pointer (some ⟨B, 10, none⟩)) rfl rfl (by kernel_rfl) (by kernel_rfl) (by kernel_rfl) (by kernel_rfl) (StepsIf.yield (by kernel_rfl) (fun w' hS => by clear hS; go_simp)) (StepsIf.yield (by kernel_rfl) (fun w' hS => by clear hS; go_simp)) ?_
  intro a' ha'
  simp only [Act.put, List.setIfInBounds_toArray, List.set_cons_zero, List.set_cons_succ] at ha'
  subst ha'
  refine AnyL.both (m := 6) (i := 5) (d := some 16) (v := .int .i64 pl) rfl rfl (by kernel_rfl) (by kernel_rfl) (by kernel_rfl) (by kernel_rfl) (StepsIf.yield (by kernel_rfl) (fun w' hS => by have c10 := hS.1.2.1.cell 10; simp only [List.getElem?_toArray, List.getElem?_cons_zero, List.getElem?_cons_succ] at c10; clear hS; go_simp)) (StepsIf.yield (by kernel_rfl) (fun w' hS => by have c10 := hS.1.2.1.cell 10; simp only [List.getElem?_toArray, List.getElem?_cons_zero, List.getElem?_cons_succ] at c10; clear hS; go_simp)) ?_
  intro a' ha'
  simp only [Act.put, List.setIfInBounds_toArray, List.set_cons_zero, List.set_cons_succ] at ha'
  subst ha'
  refine AnyL.store (m := 6) (d := none) (v := undef) rfl rfl (by kernel_rfl) (by kernel_rfl) (by kernel_rfl) (fun w' hS K Q hK => by exact wp_store_row 91 _ _ rfl w.heap.size rfl rfl (run_storeAt_row _ w.heap.size 91 91 woZ (woI k p e t n m) hS.1.1 infoWo rfl (wo_one _ _ _ _ _ _)) (hK _ (SN5.store hS _))) ?_
  intro a' ha'
  simp only [Act.put] at ha'
  subst ha'
  refine AnyL.after (m := 6) (i := 7) (d := some 5) (v := .int .i64 er) rfl rfl (by kernel_rfl) (by kernel_rfl) (by kernel_rfl) (by kernel_rfl) (StepsIf.yield (by kernel_rfl) (fun w' hS => by clear hS; go_simp)) ?_
  intro a' ha'
  simp only [Act.put, List.setIfInBounds_toArray, List.set_cons_zero, List.set_cons_succ] at ha'
  subst ha'
  refine AnyL.after (m := 6) (i := 8) (d := some 6) (v := .int .i64 pl) rfl rfl (by kernel_rfl) (by kernel_rfl) (by kernel_rfl) (by kernel_rfl) (StepsIf.yield (by kernel_rfl) (fun w' hS => by clear hS; go_simp)) ?_
  intro a' ha'
  simp only [Act.put, List.setIfInBounds_toArray, List.set_cons_zero, List.set_cons_succ] at ha'
  subst ha'
  refine AnyL.done (by kernel_rfl) (by kernel_rfl) (fun w' hS => ?_) _
  have hR := hS.1.1
  have hB := hS.2
  clear hS
  go_wp2_with fail
  exact bodyPost_ret (v := .tuple #[.agg (woI k p e t n m), .int .i64 er, .int .i64 pl]) (results_cell2 Tryz.results71 _ _ w.heap.size 91 (woI k p e t n m) (0, 0) _ rfl hR Tryz.underlying91 rfl infoWo) rfl ⟨rfl, hB⟩
theorem cnt_el (g : Nat → Bool) : ∀ k, cnt g k = (el g k).length
  | 0 => rfl
  | k + 1 => by
    have h : el g (k + 1) = el g k ++ (if g k then [k] else []) := by
      unfold el
      rw [List.range_succ, List.filter_append]
      congr 1
      cases hg : g k <;> simp [hg]
    rw [cnt, cnt_el g k, h, List.length_append]
    cases g k <;> rfl
theorem any_len (t : BitVec 256) : t = ~~~0 ↔ (el t.getLsbD 256).length = 256 := by
  constructor
  · rintro rfl
    decide +kernel
  · intro h
    have hf : ∀ x ∈ List.range 256, t.getLsbD x = true := by
      have e : (el t.getLsbD 256).length = (List.range 256).length := by rw [h, List.length_range]
      unfold el at e
      exact List.length_filter_eq_length_iff.1 e
    apply BitVec.eq_of_getLsbD_eq
    intro i hi
    rw [hf i (List.mem_range.2 hi)]
    symm
    rw [BitVec.getLsbD_not]
    simp [hi]
theorem next_el (t : BitVec 256) (b : Nat) (l : List Nat) (h : el t.getLsbD 256 = b :: l) : nextOf t.getLsbD 0 = b := by
  have hf : (List.range 256).find? (fun j => decide (0 ≤ j) && t.getLsbD j) = some b := by
    have e : (fun j => decide (0 ≤ j) && t.getLsbD j) = t.getLsbD := by funext j; simp
    rw [e]
    have := List.head?_filter (p := t.getLsbD) (l := List.range 256)
    rw [← this]
    unfold el at h
    rw [h]; rfl
  unfold nextOf
  rw [hf]
theorem textW_cases (t : BitVec 256) : (t = ~~~0 ∧ textW t = [46]) ∨ (t ≠ ~~~0 ∧ cnt t.getLsbD 256 = 1 ∧ ∃ b : Nat, b < 256 ∧ nextOf t.getLsbD 0 = b ∧ textW t = textB b) ∨ (t ≠ ~~~0 ∧ cnt t.getLsbD 256 ≠ 1 ∧ textW t = textT t) := by
  have h1 := any_len t
  have h2 := cnt_el t.getLsbD 256
  have h3 := next_el t
  have h4 : ∀ b l, el t.getLsbD 256 = b :: l → b < 256 := fun b l h => by
    have : b ∈ el t.getLsbD 256 := by rw [h]; exact List.mem_cons_self ..
    unfold el at this
    simp at this
    exact this.1
  unfold textW
  by_cases hA : (el t.getLsbD 256).length = 256
  · exact .inl ⟨h1.2 hA, by rw [if_pos hA]⟩
  by_cases hO : (el t.getLsbD 256).length = 1
  · obtain ⟨b, hb⟩ := List.length_eq_one_iff.1 hO
    refine .inr (.inl ⟨fun h => hA (h1.1 h), by rw [h2, hO], b, h4 b [] hb, h3 b [] hb, ?_⟩)
    rw [if_neg hA, if_neg (by omega), hb]
    rfl
  · exact .inr (.inr ⟨fun h => hA (h1.1 h), by rw [h2]; exact hO, by rw [if_neg hA, if_pos hO]⟩)
set_option maxRecDepth 100000 in
set_option maxHeartbeats 8000000 in
theorem text5_dev (t : BitVec 256) (w : World) (hT : Tab w) (hgT : 1 < w.heap.size) : Calls Tryz.prog 57 #[setV t] w fun en w' => en = .returned (.string (ofT (textW t))) ∧ Below w.heap.size w w' := by
  have hs0 : SX w t (w.alloc (.cells (setA t) 43)) := ⟨⟨Blk.new w _ _, by go_grown⟩, hT.keep (by go_grown : Below w.heap.size w (w.alloc (.cells (setA t) 43))) hgT, by simp <;> omega⟩
  have HS0 := Lib.hid hs0
  clear hs0 hT hgT
  have heq := eq_set t (~~~0)
  have HC := textW_cases t
  have HCN := Lib.hid (count_calls t)
  have HNX := Lib.hid (fun (W : World) (h : SX w t W) => next_calls t 0 W (by omega) h.2.1 h.2.2)
  have HTX := Lib.hid (fun (W : World) (h : SX w t W) => dText_calls t W h.2.1 h.2.2)
  have han := cAny_calls
  generalize hZ : (~~~0 : BitVec 256) = z at *
  go_enter Tryz.func57, Tryz.ntmps57
  go_upto_region 1 with fail
  have e0 : w.alloc (.cells #[.int .u64 (wd t 0), .int .u64 (wd t 1), .int .u64 (wd t 2), .int .u64 (wd t 3)] 43) = w.alloc (.cells (setA t) 43) := rfl
  try rw [e0]
  clear e0
  generalize w.alloc (.cells (setA t) 43) = w1 at *
  refine region_steps (S := SX w t) (by kernel_rfl) (SX.drewS HS0.out) ?_
  clear HS0
  simp only [List.size_toArray, List.length_cons, List.length_nil, Nat.reduceAdd, Array.replicate_succ, Array.replicate_zero, List.push_toArray, List.nil_append, List.cons_append]
  refine AnyS.next (i := 0) (d := some 4) (v := setV t) rfl rfl (by kernel_rfl) (by kernel_rfl) (by kernel_rfl) (StepsIf.yield (by kernel_rfl) (fun w' hS => by obtain ⟨⟨c0, c1, c2, c3⟩, _⟩ := hS.1.1.cells4; clear hS; go_simp)) ?_
  intro a' ha'
  simp only [Act.put, List.setIfInBounds_toArray, List.set_cons_zero, List.set_cons_succ] at ha'
  subst ha'
  refine AnyS.next (i := 1) (d := some 5) (v := setV z) rfl rfl (by kernel_rfl) (by kernel_rfl) (by kernel_rfl) (StepsIf.call (by kernel_rfl) (fun w' hS => by clear hS; go_simp) (fun w' hS => (han w').mono fun e w'' h => ⟨h.1, hS.keep h.2⟩)) ?_
  intro a' ha'
  simp only [Act.put, List.setIfInBounds_toArray, List.set_cons_zero, List.set_cons_succ] at ha'
  subst ha'
  refine AnyS.next (i := 2) (d := some 6) (v := .bool (decide (t = z))) rfl rfl (by kernel_rfl) (by kernel_rfl) (by kernel_rfl) (StepsIf.yield (by kernel_rfl) (fun w' hS => by have q := heq; clear hS; go_simp)) ?_
  intro a' ha'
  simp only [Act.put, List.setIfInBounds_toArray, List.set_cons_zero, List.set_cons_succ] at ha'
  subst ha'
  refine AnyS.next (i := 3) (d := some 3) (v := .bool (decide (t = z))) rfl rfl (by kernel_rfl) (by kernel_rfl) (by kernel_rfl) (StepsIf.yield (by kernel_rfl) (fun w' hS => by clear hS; go_simp)) ?_
  intro a' ha'
  simp only [Act.put, List.setIfInBounds_toArray, List.set_cons_zero, List.set_cons_succ] at ha'
  subst ha'
  refine AnyS.done (by kernel_rfl) ?_ _
  intro w2 hS2
  clear heq han
  rcases HC with ⟨h1, h2⟩ | ⟨h1, h2, b, h3, h4, h5⟩ | ⟨h1, h2, h3⟩
  · have q : decide (t = z) = true := decide_eq_true h1
    rw [q]
    have HY := Lib.hid h2
    clear h1 h2 HCN HNX HTX q
    go_wp2_with fail
    go_ret
    exact ⟨by rw [HY.out] <;> rfl, hS2.1.2⟩
  · have q : decide (t = z) = false := decide_eq_false h1
    rw [q]
    have HTB := Lib.hid (textByte_calls b h3)
    have HY := Lib.hid h5
    have xb : IntKind.u8.wrap (b : Int) = b := IntWalk.u8_in _ (by omega)
    have HN4 := Lib.hid h4
    rw [h2] at HCN
    obtain ⟨⟨c0, c1, c2, c3⟩, _⟩ := hS2.1.1.cells4
    clear h1 h2 h4 h5 HTX q
    go_wp2_with fail
    refine (HCN.out _).mono ?_
    rintro en w3 ⟨rfl, hb⟩
    have hS3 := hS2.keep hb
    clear hb HCN hS2 c0 c1 c2 c3
    obtain ⟨⟨c0, c1, c2, c3⟩, _⟩ := hS3.1.1.cells4
    go_wp2_with fail
    have hnx := HNX.out _ hS3
    rw [show (0 : Int).toNat = 0 from rfl, HN4.out] at hnx
    refine hnx.mono ?_
    rintro en w4 ⟨rfl, hb⟩
    have hS4 := hS3.keep hb
    clear hb hnx HNX hS3 c0 c1 c2 c3 HN4
    go_wp2_with fail
    refine (HTB.out _).mono ?_
    rintro en w5 ⟨rfl, hb⟩
    have hS5 := hS4.keep hb
    clear hb HTB hS4
    go_wp2_with fail
    go_ret
    exact ⟨by rw [HY.out] <;> rfl, hS5.1.2⟩
  · have q : decide (t = z) = false := decide_eq_false h1
    rw [q]
    have q1 : ((cnt t.getLsbD 256 : Int) == 1) = false := by rw [beq_eq_false_iff_ne]; omega
    have HY := Lib.hid h3
    obtain ⟨⟨c0, c1, c2, c3⟩, _⟩ := hS2.1.1.cells4
    clear h1 h2 h3 HNX q
    generalize cnt t.getLsbD 256 = c at *
    go_wp2_with fail
    refine (HCN.out _).mono ?_
    rintro en w3 ⟨rfl, hb⟩
    have hS3 := hS2.keep hb
    clear hb HCN hS2 c0 c1 c2 c3
    obtain ⟨⟨c0, c1, c2, c3⟩, _⟩ := hS3.1.1.cells4
    go_wp2_with fail
    refine (HTX.out _ hS3).mono ?_
    rintro en w4 ⟨rfl, hb⟩
    have hS4 := hS3.keep hb
    clear hb HTX hS3 c0 c1 c2 c3
    go_wp2_with fail
    go_ret
    exact ⟨by rw [HY.out] <;> rfl, hS4.1.2⟩
end Go.Proofs.YtbccojjcdcighaaGreatDoor

namespace Go.Proofs.YtbccojjcdcighaaGreatDoor
open Go.RowKit BS
@[reducible] def set9 (W : World) (B : Nat) (b0 b1 b2 b3 b4 b5 b6 b7 b8 : Value) : World :=
  ((((((((W.setCell ⟨B, 0, none⟩ b0).setCell ⟨B, 1, none⟩ b1).setCell ⟨B, 2, none⟩ b2).setCell ⟨B, 3, none⟩ b3).setCell ⟨B, 4, none⟩ b4).setCell ⟨B, 5, none⟩ b5).setCell ⟨B, 6, none⟩ b6).setCell ⟨B, 7, none⟩ b7).setCell ⟨B, 8, none⟩ b8
theorem Blk.set9 {W : World} {B : Nat} {a0 a1 a2 a3 a4 a5 a6 a7 a8 : Value} {T : TypeId} (h : Blk W B #[a0, a1, a2, a3, a4, a5, a6, a7, a8] T) (b0 b1 b2 b3 b4 b5 b6 b7 b8 : Value) : Blk (_root_.Go.Proofs.YtbccojjcdcighaaGreatDoor.set9 W B b0 b1 b2 b3 b4 b5 b6 b7 b8) B #[b0, b1, b2, b3, b4, b5, b6, b7, b8] T := by
  have := ((((((((h.set 0 b0).set 1 b1).set 2 b2).set 3 b3).set 4 b4).set 5 b5).set 6 b6).set 7 b7).set 8 b8
  simpa using this
theorem RdV.other {base R : Nat} {s : ByteArray} {a : Nat} {x : PS} {vN vL : Value} {w0 w : World} (h : RdV base R s a x vN vL w0 w) {g : Nat} (hg : base ≤ g) (hR : R ≠ g) (hN : vN.ownBlock ≠ some g) (hL : vL.ownBlock ≠ some g) (i : Nat) (v : Value) : RdV base R s a x vN vL w0 (w.setCell ⟨g, i, none⟩ v) :=
  ⟨h.blk.other hR _ _, owns_keep h.nodes fun _ hk => Below.heap_setCell _ _ _ _ (fun e => hN (by rw [hk, e])), owns_keep h.levels fun _ hk => Below.heap_setCell _ _ _ _ (fun e => hL (by rw [hk, e])), h.nR, h.lR, h.nl, h.bR, below_set h.bel hg _ _⟩
theorem RdV.other9 {base R : Nat} {s : ByteArray} {a : Nat} {x : PS} {vN vL : Value} {w0 w : World} (h : RdV base R s a x vN vL w0 w) {g : Nat} (hg : base ≤ g) (hR : R ≠ g) (hN : vN.ownBlock ≠ some g) (hL : vL.ownBlock ≠ some g) (b0 b1 b2 b3 b4 b5 b6 b7 b8 : Value) : RdV base R s a x vN vL w0 (set9 w g b0 b1 b2 b3 b4 b5 b6 b7 b8) :=
  (((((((((h.other hg hR hN hL _ _).other hg hR hN hL _ _).other hg hR hN hL _ _).other hg hR hN hL _ _).other hg hR hN hL _ _).other hg hR hN hL _ _).other hg hR hN hL _ _).other hg hR hN hL _ _).other hg hR hN hL _ _)
theorem Blk.other9 {W : World} {B g : Nat} {vs : Array Value} {T : TypeId} (h : Blk W B vs T) (hne : B ≠ g) (b0 b1 b2 b3 b4 b5 b6 b7 b8 : Value) : Blk (_root_.Go.Proofs.YtbccojjcdcighaaGreatDoor.set9 W g b0 b1 b2 b3 b4 b5 b6 b7 b8) B vs T :=
  ((((((((h.other hne _ _).other hne _ _).other hne _ _).other hne _ _).other hne _ _).other hne _ _).other hne _ _).other hne _ _).other hne _ _
theorem row_kept (W : World) (B : Nat) (cs : Array Value) (k : Nat) (h : k ≠ B) : (W.setRow B cs).heap[k]? = W.heap[k]? := by
  show (W.heap.modify B _)[k]? = _
  rw [Array.getElem?_modify, if_neg (Ne.symm h)]
theorem RdV.rowOther {base R : Nat} {s : ByteArray} {a : Nat} {x : PS} {vN vL : Value} {w0 w : World} (h : RdV base R s a x vN vL w0 w) {g : Nat} (hg : base ≤ g) (hR : R ≠ g) (hN : vN.ownBlock ≠ some g) (hL : vL.ownBlock ≠ some g) (cs : Array Value) : RdV base R s a x vN vL w0 (w.setRow g cs) :=
  ⟨(row_kept w g cs R hR).trans h.blk, owns_keep h.nodes fun _ hk => row_kept _ _ _ _ (fun e => hN (by rw [hk, e])), owns_keep h.levels fun _ hk => row_kept _ _ _ _ (fun e => hL (by rw [hk, e])), h.nR, h.lR, h.nl, h.bR, below_row h.bel hg _⟩
set_option maxRecDepth 100000 in
set_option maxHeartbeats 8000000 in
theorem pnext_calls {base R : Nat} {s : ByteArray} (hs : s.size ≤ 1000000) {a : Nat} {x : PS} {vN vL : Value} {w0 : World} (k p e' : Nat) (t : BitVec 256) (n : Nat) (m : Int) (er pl : Nat) (hX : nextN s a = (⟨k, p, e', t, n, m⟩, er, pl)) (w : World) (h : RdV base R s a x vN vL w0 w) :
    Calls Tryz.prog 47 #[.pointer (some ⟨R, 0, none⟩)] w fun e w' => e = .returned (.tuple #[.agg (woI k p e' t n m), .int .i64 er, .int .i64 pl]) ∧
      RdV base R s (if er = 0 then e' else a) x vN vL w0 w' := by
  have hn := next5_dev s hs a
  rw [hX] at hn
  have HN : Hid (∀ w, Calls Tryz.prog 71 #[.string s, .int .i64 a] w fun en w' => en = .returned (.tuple #[.agg (woI k p e' t n m), .int .i64 er, .int .i64 pl]) ∧ Below w.heap.size w w') := Lib.hid hn
  clear hn hX
  have hB := Blk.new w woZ 91
  have hr := h.alloc (.cells woZ 91)
  have hRB : R < w.heap.size := h.blk.lt
  have hN0 : vN.ownBlock ≠ some w.heap.size := fun e => by have := owns_lt h.nodes e; omega
  have hL0 : vL.ownBlock ≠ some w.heap.size := fun e => by have := owns_lt h.levels e; omega
  have hb0 := h.size
  clear h
  go_enter Tryz.func47, Tryz.ntmps47
  go_upto_region 1 with fail
  have e0 : w.alloc (.cells #[.int .i64 0, .int .i64 0, .int .i64 0, .int .u64 0, .int .u64 0, .int .u64 0, .int .u64 0, .int .i64 0, .int .i64 0] 91) = w.alloc (.cells woZ 91) := rfl
  try rw [e0]
  clear e0
  generalize w.alloc (.cells woZ 91) = w1 at *
  generalize w.heap.size = B0 at *
  have cR0 := hr.c.1
  have cR1 := hr.c.2.1
  have HR := Lib.hid hr
  have HB := Lib.hid hB
  have n0 := World.new_ne w1 ⟨R, 0, none⟩ cR0
  have n1 := World.new_ne w1 ⟨R, 1, none⟩ cR1
  have hlt := hr.blk.lt
  have hN1 : vN.ownBlock ≠ some w1.heap.size := fun e => by have := owns_lt hr.nodes e; omega
  have hL1 : vL.ownBlock ≠ some w1.heap.size := fun e => by have := owns_lt hr.levels e; omega
  have hB1 := hB.lt
  have hbs := hr.size
  clear hr hB
  go_cut [5, 6, 7] from 8 to 20 (fun v5 v6 v7 wx => ∃ g : Nat, v5 = .pointer (some ⟨g, 0, none⟩) ∧ v6 = .int .i64 er ∧ v7 = .int .i64 pl ∧ RdV base R s a x vN vL w0 wx ∧ Blk wx B0 woZ 91 ∧ Blk wx g (woI k p e' t n m) 91 ∧ B0 ≠ g ∧ R ≠ g ∧ base ≤ g)
  case first =>
    go_region_held3 (fun w' => w'.cell? ⟨R, 0, none⟩ = some (.string s) ∧ w'.cell? ⟨R, 1, none⟩ = some (.int .i64 a))
      (first
        | go_keep
        | exact ⟨k0, k1⟩
        | exact ⟨((hb.alloc hb.size _).cell (p := ⟨R, 0, none⟩) hlt).trans cR0, ((hb.alloc hb.size _).cell (p := ⟨R, 1, none⟩) hlt).trans cR1⟩
        | (go_split_ands; refine ⟨by go_keep, by go_keep⟩))
      ((go_at_call 71; refine (HN.out _).mono ?_; rintro en w3 ⟨rfl, hb⟩
        have k0 : w3.cell? ⟨R, 0, none⟩ = some (.string s) := by first | exact (hb.cell (p := ⟨R, 0, none⟩) hlt).trans cR0 | exact (hb.cell (p := ⟨R, 0, none⟩) (by simp; omega)).trans (by go_keep)
        have k1 : w3.cell? ⟨R, 1, none⟩ = some (.int .i64 a) := by first | exact (hb.cell (p := ⟨R, 1, none⟩) hlt).trans cR1 | exact (hb.cell (p := ⟨R, 1, none⟩) (by simp; omega)).trans (by go_keep)
        try (have hg := (Blk.new w1 woZ 91).drew.below hb (by simp)
             have z0 := hg.cell 0; have z1 := hg.cell 1; have z2 := hg.cell 2; have z3 := hg.cell 3; have z4 := hg.cell 4; have z5 := hg.cell 5; have z6 := hg.cell 6; have z7 := hg.cell 7; have z8 := hg.cell 8
             simp only [List.getElem?_toArray, List.getElem?_cons_zero, List.getElem?_cons_succ] at z0 z1 z2 z3 z4 z5 z6 z7 z8
             have y0 := hg.frozen 0; have y1 := hg.frozen 1; have y2 := hg.frozen 2; have y3 := hg.frozen 3; have y4 := hg.frozen 4; have y5 := hg.frozen 5; have y6 := hg.frozen 6; have y7 := hg.frozen 7; have y8 := hg.frozen 8
             have HG := Lib.hid hg
             clear hg)))
    · have hsz : w1.heap.size ≤ w3.heap.size := hb.size
      go_wp2_with fail
      go_meet
      exact ⟨w3.heap.size, rfl, rfl, rfl, (HR.out.drew.below hb).alloc _, (HB.out.drew.below hb hB1).alloc _, Blk.new w3 (woI k p e' t n m) _, by omega, by omega, by omega⟩
    · go_wp2_with fail
      go_meet
      have hB2 : B0 < (w1.alloc (.cells woZ 91)).drew.heap.size := by simp; omega
      exact ⟨w1.heap.size, rfl, rfl, rfl, ((HR.out.alloc _).drew.below hb).other9 hbs (by omega) hN1 hL1 _ _ _ _ _ _ _ _ _, (((HB.out.alloc _).drew).below hb hB2).other9 (by omega) _ _ _ _ _ _ _ _ _, Blk.set9 HG.out _ _ _ _ _ _ _ _ _, by omega, by omega, by omega⟩
  case rest =>
  clear HR HB cR0 cR1 n0 n1 hlt hN1 hL1 hB1 hbs
  obtain ⟨g, rfl, rfl, rfl, hr, hB, hG, hBg, hRg, hbg⟩ := hcut
  have g0 := hG.cell 0; have g1 := hG.cell 1; have g2 := hG.cell 2; have g3 := hG.cell 3; have g4 := hG.cell 4; have g5 := hG.cell 5; have g6 := hG.cell 6; have g7 := hG.cell 7; have g8 := hG.cell 8
  simp only [List.getElem?_toArray, List.getElem?_cons_zero, List.getElem?_cons_succ] at g0 g1 g2 g3 g4 g5 g6 g7 g8
  by_cases he : er = 0
  · subst he
    have cR1 := hr.c.2.1
    have fR1 := hr.blk.frozen 1
    have HR := Lib.hid (hr.setAt e')
    have HB2 := Lib.hid (hB.other (show B0 ≠ R by omega) 1 (.int .i64 e'))
    have q0 : R ≠ g := hRg
    clear hr hB hG
    go_wp2_with ((with_reducible refine wpList_store_st (o := ⟨none, .store 91 _ _, _, _, _, _⟩) rfl 91 _ _ rfl B0 rfl rfl (run_storeAt_row _ B0 91 91 woZ (woI k p e' t n m) ?_ ?_ ?_ ?_) ?_); exact HB2.out; exact infoWo; rfl; exact wo_one _ _ _ _ _ _)
    exact bodyPost_ret (v := .tuple #[.agg (woI k p e' t n m), .int .i64 0, .int .i64 pl]) (results_cell2 Tryz.results47 _ _ B0 91 (woI k p e' t n m) (0, 0) _ rfl (Blk.setRow HB2.out) Tryz.underlying91 rfl infoWo) rfl ⟨rfl, HR.out.rowOther hb0 (by omega) hN0 hL0 _⟩
  · have qe : ((er : Int) == 0) = false := by rw [beq_eq_false_iff_ne]; omega
    have HR := Lib.hid hr
    have HB2 := Lib.hid hB
    clear hr hB hG
    go_wp2_with ((with_reducible refine wpList_store_st (o := ⟨none, .store 91 _ _, _, _, _, _⟩) rfl 91 _ _ rfl B0 rfl rfl (run_storeAt_row _ B0 91 91 woZ (woI k p e' t n m) ?_ ?_ ?_ ?_) ?_); exact HB2.out; exact infoWo; rfl; exact wo_one _ _ _ _ _ _)
    exact bodyPost_ret (v := .tuple #[.agg (woI k p e' t n m), .int .i64 er, .int .i64 pl]) (results_cell2 Tryz.results47 _ _ B0 91 (woI k p e' t n m) (0, 0) _ rfl (Blk.setRow HB2.out) Tryz.underlying91 rfl infoWo) rfl ⟨rfl, HR.out.rowOther hb0 (by omega) hN0 hL0 _⟩
end Go.Proofs.YtbccojjcdcighaaGreatDoor

namespace Go.Proofs.YtbccojjcdcighaaGreatDoor
open Go.RowKit BS
def readM (s : ByteArray) : Nat → Nat → PS → PS × Nat × Nat
  | 0, _, _ => (zPS, 0, 0)
  | k + 1, a, x =>
    if s.size ≤ a then (x, 0, 0)
    else if firstP x (bt s a) ≠ 0 then (zPS, firstP x (bt s a), a + 1)
    else match nextA s a with
      | (w, e, p) => if e ≠ 0 then (zPS, e, p) else readM s k w.fin (takeP x w)
def finM (s : ByteArray) (r : PS × Nat × Nat) : PS × Nat × Nat × Nat :=
  if r.2.1 ≠ 0 then (zPS, 0, r.2.1, r.2.2) else if 1 < r.1.st.length then (zPS, r.1.st.length - 1, 2, s.size) else (rowsP r.1, 0, 0, 0)
theorem readP_D (s : ByteArray) : ∀ k a x, readP s k a x = finM s (readM s k a x)
  | 0, a, x => rfl
  | k + 1, a, x => by
    rw [readP, readM]
    by_cases h0 : s.size ≤ a
    · rw [if_pos h0, if_pos h0]
      unfold finM
      rw [if_neg (show ¬ (0 : Nat) ≠ 0 by decide)]
    rw [if_neg h0, if_neg h0]
    by_cases h1 : firstP x (bt s a) ≠ 0
    · rw [if_pos h1, if_pos h1]
      unfold finM
      rw [if_pos h1]
    rw [if_neg h1, if_neg h1]
    generalize nextA s a = X
    obtain ⟨w, e, p⟩ := X
    simp only
    by_cases h2 : e ≠ 0
    · rw [if_pos h2, if_pos h2]
      unfold finM
      rw [if_pos h2]
    · rw [if_neg h2, if_neg h2]
      exact readP_D s k _ _
theorem readM_end (s : ByteArray) (k : Nat) (x : PS) : readM s (k + 1) s.size x = (x, 0, 0) := by
  rw [readM, if_pos (Nat.le_refl _)]
theorem readM_first (s : ByteArray) (k a : Nat) (x : PS) (e : Nat) (ha : a < s.size) (h : firstP x (bt s a) = e) (he : e ≠ 0) : readM s (k + 1) a x = (zPS, e, a + 1) := by
  rw [readM, if_neg (by omega), h, if_pos he]
theorem readM_err (s : ByteArray) (k a : Nat) (x : PS) (w : WN) (e p : Nat) (ha : a < s.size) (h : firstP x (bt s a) = 0) (hX : nextA s a = (w, e, p)) (he : e ≠ 0) : readM s (k + 1) a x = (zPS, e, p) := by
  rw [readM, if_neg (by omega), h, if_neg (by decide), hX]
  simp only
  rw [if_pos he]
theorem readM_step (s : ByteArray) (k a : Nat) (x : PS) (w : WN) (p : Nat) (ha : a < s.size) (h : firstP x (bt s a) = 0) (hX : nextA s a = (w, 0, p)) : readM s (k + 1) a x = readM s k w.fin (takeP x w) := by
  rw [readM, if_neg (by omega), h, if_neg (by decide), hX]
  simp only
  rw [if_neg (by decide)]
def tkE (x : PS) (w : WN) : Nat := if w.kind = 2 ∧ x.groups = 9 then 9 else if w.kind = 3 ∧ x.st.length = 1 then 8 else 0
theorem first_tk (s : ByteArray) (a : Nat) (x : PS) (n r : Nat) (st : List (Nat × Nat)) (w : WN) (hx : x.st = (n, r) :: st) (hX : nextA s a = (w, 0, 0)) (hc : bt s a = 42 ∨ bt s a = 43 ∨ bt s a = 63 ∨ bt s a = 123 → n ≠ 0) : firstP x (bt s a) = tkE x w := by
  obtain ⟨k2, k3, k5⟩ := next_kinds s a w hX
  have hk40 : bt s a = 40 → w.kind = 2 := fun h => by
    unfold nextA at hX
    rw [if_pos h] at hX
    have := (Prod.mk.inj hX).1
    rw [← this]
  have hk41 : bt s a = 41 → w.kind = 3 := fun h => by
    unfold nextA at hX
    rw [if_neg (by omega), if_pos h] at hX
    have := (Prod.mk.inj hX).1
    rw [← this]
  unfold firstP tkE
  rw [hx]
  simp only [List.length_cons]
  by_cases h1 : bt s a = 42 ∨ bt s a = 43 ∨ bt s a = 63 ∨ bt s a = 123
  · rw [if_pos h1, if_neg (hc h1), if_neg (fun h => by have := k2 h.1; omega), if_neg (fun h => by have := k3 h.1; omega)]
  rw [if_neg h1]
  by_cases h2 : bt s a = 41
  · have hk := hk41 h2
    rw [if_pos h2, if_neg (show ¬ (w.kind = 2 ∧ x.groups = 9) from fun h => by omega)]
    by_cases h3 : st = []
    · rw [if_pos h3, if_pos ⟨hk, by rw [h3]; rfl⟩]
    · rw [if_neg h3, if_neg (fun h => h3 (List.eq_nil_of_length_eq_zero (by omega)))]
  rw [if_neg h2]
  by_cases h3 : bt s a = 40
  · have hk := hk40 h3
    rw [if_pos h3]
    by_cases h4 : x.groups = 9
    · rw [if_pos h4, if_pos ⟨hk, h4⟩]
    · rw [if_neg h4, if_neg (fun h => h4 h.2), if_neg (show ¬ (w.kind = 3 ∧ st.length + 1 = 1) from fun h => by omega)]
  · rw [if_neg h3, if_neg (fun h => h3 (k2 h.1)), if_neg (fun h => h2 (k3 h.1))]
theorem first_err (s : ByteArray) (a : Nat) (x : PS) (n r : Nat) (st : List (Nat × Nat)) (w : WN) (e p : Nat) (hx : x.st = (n, r) :: st) (hX : nextA s a = (w, e, p)) (he : e ≠ 0) (hc : bt s a = 42 ∨ bt s a = 43 ∨ bt s a = 63 ∨ bt s a = 123 → n ≠ 0) : firstP x (bt s a) = 0 := by
  have h40 : bt s a ≠ 40 := fun h => by
    unfold nextA at hX
    rw [if_pos h] at hX
    exact he (Prod.mk.inj (Prod.mk.inj hX).2).1.symm
  have h41 : bt s a ≠ 41 := fun h => by
    unfold nextA at hX
    rw [if_neg (by omega), if_pos h] at hX
    exact he (Prod.mk.inj (Prod.mk.inj hX).2).1.symm
  unfold firstP
  rw [hx]
  simp only
  by_cases h1 : bt s a = 42 ∨ bt s a = 43 ∨ bt s a = 63 ∨ bt s a = 123
  · rw [if_pos h1, if_neg (hc h1)]
  · rw [if_neg h1, if_neg h41, if_neg h40]
def Bnd (a : Nat) (x : PS) : Prop := x.l.length ≤ 3 * a ∧ x.st.length ≤ a + 1 ∧ ∀ p ∈ x.st, p.1 ≤ a ∧ p.2 ≤ a
theorem sPS_bnd : Bnd 0 sPS := ⟨by decide, by decide, fun p hp => by simp [sPS] at hp; subst hp; exact ⟨Nat.le_refl _, Nat.le_refl _⟩⟩
theorem take_bnd (a b : Nat) (x : PS) (w : WN) (h : Bnd a x) (hb : a < b) : Bnd b (takeP x w) := by
  obtain ⟨l, st, g⟩ := x
  obtain ⟨h1, h2, h3⟩ := h
  simp only at h1 h2 h3
  have bump : ∀ (st : List (Nat × Nat)), (∀ p ∈ st, p.1 ≤ a ∧ p.2 ≤ a) → ∀ p ∈ bumpP st, p.1 ≤ b ∧ p.2 ≤ b := by
    intro st h3 p hp
    obtain _ | ⟨⟨n, r⟩, st⟩ := st
    · cases hp
    · rcases List.mem_cons.1 hp with rfl | hp
      · have := h3 (n, r) (List.mem_cons_self ..); exact ⟨by simp only at this ⊢; omega, by simp only at this ⊢; omega⟩
      · have := h3 p (List.mem_cons_of_mem _ hp); exact ⟨by omega, by omega⟩
  have blen : ∀ (st : List (Nat × Nat)), (bumpP st).length = st.length := fun st => by
    obtain _ | ⟨⟨n, r⟩, st⟩ := st
    · rfl
    · rfl
  have more : ∀ p ∈ st, p.1 ≤ b ∧ p.2 ≤ b := fun p hp => by have := h3 p hp; exact ⟨by omega, by omega⟩
  unfold takeP
  by_cases c1 : w.kind = 1
  · rw [if_pos c1]
    exact ⟨by simp; omega, by simp only [blen]; omega, bump st h3⟩
  rw [if_neg c1]
  by_cases c2 : w.kind = 2
  · rw [if_pos c2]
    refine ⟨by simp only; omega, by simp only [List.length_cons]; omega, fun p hp => ?_⟩
    rcases List.mem_cons.1 hp with rfl | hp
    · exact ⟨Nat.zero_le _, Nat.zero_le _⟩
    · exact more p hp
  rw [if_neg c2]
  by_cases c3 : w.kind = 3
  · rw [if_pos c3]
    obtain _ | ⟨⟨n, r⟩, st⟩ := st
    · exact ⟨by simp [rowsP]; omega, by simp [rowsP, bumpP], fun p hp => by simp [rowsP, bumpP] at hp⟩
    · have e1 := rowT_len n
      have e2 := rowsT_len (r + 1)
      simp only [List.length_cons] at h2
      refine ⟨?_, ?_, ?_⟩
      · show (l ++ rowT n ++ rowsT (r + 1) ++ [ndG]).length ≤ _
        rw [List.length_append, List.length_append, List.length_append, List.length_singleton]; omega
      · show (bumpP st).length ≤ _
        rw [blen]; omega
      · exact bump st (fun p hp => h3 p (List.mem_cons_of_mem _ hp))
  rw [if_neg c3]
  by_cases c4 : w.kind = 4
  · rw [if_pos c4]
    obtain _ | ⟨⟨n, r⟩, st⟩ := st
    · exact ⟨by simp only [rowP]; omega, by simp [rowP], fun p hp => by simp [rowP] at hp⟩
    · have e1 := rowT_len n
      refine ⟨?_, ?_, fun p hp => ?_⟩
      · show (l ++ rowT n).length ≤ _
        rw [List.length_append]; omega
      · show st.length + 1 ≤ _
        simp only [List.length_cons] at h2; omega
      · rcases List.mem_cons.1 hp with rfl | hp
        · have := (h3 (n, r) (List.mem_cons_self ..)).2; exact ⟨Nat.zero_le _, by simp only at this ⊢; omega⟩
        · exact more p (List.mem_cons_of_mem _ hp)
  rw [if_neg c4]
  by_cases c5 : w.kind = 5
  · rw [if_pos c5]
    exact ⟨by simp; omega, by simp only; omega, more⟩
  · rw [if_neg c5]
    exact ⟨by simp only; omega, by simp only; omega, more⟩
theorem ptake_calls {base R : Nat} {s : ByteArray} (hs : s.size ≤ 1000000) {a c : Nat} (x : PS) {vN vL : Value} {w0 : World} (wd' : WN) (hok : OkW wd') (hb : Bnd a x) (hne : x.st ≠ []) (ha : a ≤ s.size) (hg : x.groups ≤ 9) (w : World) (h : RdV base R s c x vN vL w0 w) :
    Calls Tryz.prog 48 #[.pointer (some ⟨R, 0, none⟩), .agg (woA wd')] w fun e w' => e = .returned (.int .i64 (tkE x wd')) ∧ (tkE x wd' = 0 → ∃ vN' vL', RdV base R s c (takeP x wd') vN' vL' w0 w') ∧ (tkE x wd' ≠ 0 → Below w.heap.size w w') := by
  obtain ⟨l, st, gr⟩ := x
  obtain _ | ⟨⟨n, r⟩, st⟩ := st
  · exact absurd rfl hne
  obtain ⟨b1, b2, b3⟩ := hb
  have b4 := b3 (n, r) (List.mem_cons_self ..)
  simp only [List.length_cons] at b1 b2 b4 hg
  obtain ⟨k, p, f, t, n', m'⟩ := wd'
  have hk := okW_kind _ hok
  simp only at hk
  rcases hk with rfl | rfl | rfl | rfl | rfl
  · have e0 : tkE ⟨l, (n, r) :: st, gr⟩ ⟨1, p, f, t, n', m'⟩ = 0 := by unfold tkE; simp
    rw [e0]
    refine (ptake1 p f t n' m' w h (by omega) (by omega) (by omega)).mono ?_
    rintro e w' ⟨rfl, vN', hr⟩
    exact ⟨rfl, fun _ => ⟨_, _, hr⟩, fun h => absurd rfl h⟩
  · by_cases h9 : gr = 9
    · subst h9
      have e0 : tkE ⟨l, (n, r) :: st, 9⟩ ⟨2, p, f, t, n', m'⟩ = 9 := by unfold tkE; simp
      rw [e0]
      refine (ptake2_9 p f t n' m' w h).mono ?_
      rintro e w' ⟨rfl, hbw⟩
      exact ⟨rfl, (fun h => by cases h), fun _ => hbw⟩
    · have e0 : tkE ⟨l, (n, r) :: st, gr⟩ ⟨2, p, f, t, n', m'⟩ = 0 := by unfold tkE; simp [h9]
      rw [e0]
      refine (ptake2 p f t n' m' w h (by omega) (by omega)).mono ?_
      rintro e w' ⟨rfl, vL', hr⟩
      exact ⟨rfl, fun _ => ⟨_, _, hr⟩, fun h => absurd rfl h⟩
  · obtain _ | ⟨⟨n2, r2⟩, st⟩ := st
    · have e0 : tkE ⟨l, [(n, r)], gr⟩ ⟨3, p, f, t, n', m'⟩ = 8 := by unfold tkE; simp
      rw [e0]
      refine (ptake3_8 p f t n' m' w h).mono ?_
      rintro e w' ⟨rfl, hbw⟩
      exact ⟨rfl, (fun h => by cases h), fun _ => hbw⟩
    · have e0 : tkE ⟨l, (n, r) :: (n2, r2) :: st, gr⟩ ⟨3, p, f, t, n', m'⟩ = 0 := by unfold tkE; simp
      have b5 := b3 (n2, r2) (by simp)
      simp only [List.length_cons] at b2 b5
      rw [e0]
      refine (ptake3 p f t n' m' w h (by omega) (by omega) (by omega) (by omega) (by omega)).mono ?_
      rintro e w' ⟨rfl, vN', vL', hr⟩
      exact ⟨rfl, fun _ => ⟨_, _, hr⟩, fun h => absurd rfl h⟩
  · have e0 : tkE ⟨l, (n, r) :: st, gr⟩ ⟨4, p, f, t, n', m'⟩ = 0 := by unfold tkE; simp
    rw [e0]
    refine (ptake4 p f t n' m' w h (by omega) (by omega) (by omega) (by omega)).mono ?_
    rintro e w' ⟨rfl, vN', hr⟩
    exact ⟨rfl, fun _ => ⟨_, _, hr⟩, fun h => absurd rfl h⟩
  · have e0 : tkE ⟨l, (n, r) :: st, gr⟩ ⟨5, p, f, t, n', m'⟩ = 0 := by unfold tkE; simp
    rw [e0]
    refine (ptake5 p f t n' m' w h (by omega)).mono ?_
    rintro e w' ⟨rfl, vN', hr⟩
    exact ⟨rfl, fun _ => ⟨_, _, hr⟩, fun h => absurd rfl h⟩
end Go.Proofs.YtbccojjcdcighaaGreatDoor

namespace Go.Proofs.YtbccojjcdcighaaGreatDoor
open Go.RowKit BS
end Go.Proofs.YtbccojjcdcighaaGreatDoor

namespace Go.Proofs.YtbccojjcdcighaaGreatDoor
open Go.RowKit BS
end Go.Proofs.YtbccojjcdcighaaGreatDoor

namespace Go.Proofs.YtbccojjcdcighaaGreatDoor
open Go.RowKit BS
theorem StepsL.callK {P : Program} {S S' : World → Prop} {o : Oper} {v : Value} {a : Act} {f : FuncId} {args : Array Value} {d : Option Tmp} (hd : o.dst = d) (h : ∀ w, S w → (execOp a.eval o).run P w = .ok (.enter f args) w)
    (hc : ∀ w, S w → Calls P f args w fun e w' => e = .returned v ∧ S' w') : ∀ w, S w → ∀ (K : Act → World → Prop) (Q : Exit → Act → World → Prop), (∀ w', S' w' → K (a.put d v) w') → o.wp P a w K Q :=
  fun w hS K Q hK => by
    subst hd
    unfold Oper.wp; rw [h w hS]
    refine Calls.mono (hc w hS) fun e w' he => ?_
    obtain ⟨rfl, hS'⟩ := he
    exact hK w' hS'
def SPN (B b pb nb : Nat) (pc nc : Array Value) (w : World) (out : List Nat) (W : World) : Prop := (Blk W pb pc 75 ∧ Blk W nb nc 45) ∧ QW B b out w W
theorem SPN.step {B b pb nb : Nat} {pc nc : Array Value} {w : World} {o o2 : List Nat} {W W' : World} (h : SPN B b pb nb pc nc w o W) (hp : pb ≠ b) (hn : nb ≠ b) (k : QW B b o2 W W') : SPN B b pb nb pc nc w o2 W' :=
  ⟨⟨h.1.1.others k.2.2 hp (by decide), h.1.2.others k.2.2 hn (by decide)⟩, h.2.trans k⟩
theorem SPN.drew {B b pb nb : Nat} {pc nc : Array Value} {w : World} {o : List Nat} {W : World} (h : SPN B b pb nb pc nc w o W) : SPN B b pb nb pc nc w o W.drew :=
  ⟨h.1, h.2.1.below ((Below.refl _ _).drew), h.2.2.1.drew, h.2.2.2.drew⟩
set_option maxRecDepth 100000 in
set_option maxHeartbeats 16000000 in
theorem pnode_calls (l : List NdN) (hl : l.length ≤ 1000000) (hf : FormedN l) (hnf : ∀ x ∈ l, nodeF x = true) (a : Option Addr) (cap g2 : Nat) (vs : Array Value) (c2 b : Nat) (w0 : World) : ∀ (i : Nat), i < l.length → NSpec l a cap g2 vs c2 b w0 i := by
  intro i
  induction i using Nat.strongRecOn with
  | _ i ih =>
  intro hi out w h hlen
  obtain ⟨K, hK, hlt, hKl, htx⟩ := kidsR_at l hf i hi
  have hih : ∀ x ∈ K, NSpec l a cap g2 vs c2 b w0 x := fun x hx => ih x (hlt x hx) (by have := hlt x hx; omega)
  have hKC := pkids_calls l hl hf a cap g2 vs c2 b w0 i hi l[i].kind K hK hih
  rw [txtN_K] at htx
  have hki := accK_empty l hf hnf i hi K hK
  have hne : l ≠ [] := by rintro rfl; simp at hi
  have hmem := h.blt
  obtain ⟨g, off, rfl, hg, hc⟩ := h.at hne
  have hcell := hc i hi
  generalize hac : accK l l[i].kind K K.length = ac at *
  rw [htx] at hlen ⊢
  clear htx hac hih ih hK hlt hKl hc hf hnf
  generalize l[i] = x at *
  obtain ⟨k, kc, kn, km, t⟩ := x
  simp only at hKC hlen hki ⊢
  generalize hY : (if k = 2 then textW t else if k = 3 then [40] ++ ac ++ [41] else if k = 4 then ac ++ textN kn km else ac) = Y at *
  have HY := Lib.hid hY
  clear hY
  have d0 := hcell 0 (by decide); have d1 := hcell 1 (by decide); have d2 := hcell 2 (by decide); have d3 := hcell 3 (by decide); have d4 := hcell 4 (by decide); have d5 := hcell 5 (by decide); have d6 := hcell 6 (by decide); have d7 := hcell 7 (by decide)
  simp only [ndA, List.getElem?_toArray, List.getElem?_cons_zero, List.getElem?_cons_succ, Nat.add_zero] at d0 d1 d2 d3 d4 d5 d6 d7
  have hii : (i : Int) < (l.length : Int) := by omega
  have hd : decide (i < l.length) = true := by rw [decide_eq_true_iff]; omega
  have HPW := Lib.hid h
  have HKC := Lib.hid hKC
  clear h hKC hcell hne
  generalize l.length = len at *
  go_enter Tryz.func35, Tryz.ntmps35
  have hP := Blk.new w (prC (some ⟨g, off, none⟩) len cap (some ⟨g2, 0, none⟩) len c2 b) 75
  have hB1 : Below w.heap.size w (w.alloc (.cells (prC (some ⟨g, off, none⟩) len cap (some ⟨g2, 0, none⟩) len c2 b) 75)) := (Below.refl _ _).alloc (Nat.le_refl _) _
  go_upto_region 1 with fail
  generalize w.alloc (.cells (prC (some ⟨g, off, none⟩) len cap (some ⟨g2, 0, none⟩) len c2 b) 75) = w1 at *
  have hW1 := QW.quiet HPW.out.bu HPW.out.le hB1
  have e0 := (hB1.cell (p := ⟨g, off + i * 8, none⟩) hg).trans d0; have e1 := (hB1.cell (p := ⟨g, off + i * 8 + 1, none⟩) hg).trans d1; have e2 := (hB1.cell (p := ⟨g, off + i * 8 + 2, none⟩) hg).trans d2; have e3 := (hB1.cell (p := ⟨g, off + i * 8 + 3, none⟩) hg).trans d3; have e4 := (hB1.cell (p := ⟨g, off + i * 8 + 4, none⟩) hg).trans d4; have e5 := (hB1.cell (p := ⟨g, off + i * 8 + 5, none⟩) hg).trans d5; have e6 := (hB1.cell (p := ⟨g, off + i * 8 + 6, none⟩) hg).trans d6; have e7 := (hB1.cell (p := ⟨g, off + i * 8 + 7, none⟩) hg).trans d7
  have p0 := hP.cell 0; have p1 := hP.cell 1; have p2 := hP.cell 2
  simp only [List.getElem?_toArray, List.getElem?_cons_zero, List.getElem?_cons_succ] at p0 p1 p2
  have hN := Blk.new w1 (ndI k kc kn km t) 45
  have hP2 := hP.alloc (.cells (ndI k kc kn km t) 45)
  have hW2 := hW1.trans (QW.quiet hW1.1 (Nat.le_trans HPW.out.le hB1.size) ((Below.refl w1.heap.size w1).alloc (Nat.le_refl _) (.cells (ndI k kc kn km t) 45)))
  have hnb : w.heap.size < w1.heap.size := hP.lt
  have HP2 := Lib.hid hP2
  have HN := Lib.hid hN
  have HW2 := Lib.hid hW2
  clear d0 d1 d2 d3 d4 d5 d6 d7 hP hB1 hW1 hP2 hN hW2
  go_upto_region 2 with fail
  clear e0 e1 e2 e3 e4 e5 e6 e7 p0 p1 p2
  generalize w1.alloc (.cells (ndI k kc kn km t) 45) = w2 at *
  generalize w1.heap.size = nb at *
  have hSPN : SPN w0.heap.size b w.heap.size nb (prC (some ⟨g, off, none⟩) len cap (some ⟨g2, 0, none⟩) len c2 b) (ndI k kc kn km t) w out w2 := ⟨⟨HP2.out, HN.out⟩, HW2.out⟩
  have hpb : w.heap.size ≠ b := by omega
  have hnb2 : nb ≠ b := by omega
  have HPW2 := Lib.hid (HPW.out.step HW2.out)
  have n0 := HN.out.cell 0; have n1 := HN.out.cell 1
  simp only [List.getElem?_toArray, List.getElem?_cons_zero, List.getElem?_cons_succ] at n0 n1
  have HSPN := Lib.hid hSPN
  clear hSPN hnb HP2 HN HW2
  by_cases h2 : k = 2
  · subst h2
    have hY := HY.out
    rw [if_pos rfl] at hY
    rw [← hY] at hlen
    replace HY := Lib.hid hY
    clear hY
    have htx : ∀ W, SPN w0.heap.size b w.heap.size nb (prC (some ⟨g, off, none⟩) len cap (some ⟨g2, 0, none⟩) len c2 b) (ndI 2 kc kn km t) w out W → Calls Tryz.prog 57 #[setV t] W fun e w' => e = .returned (.string (ofT (textW t))) ∧ SPN w0.heap.size b w.heap.size nb (prC (some ⟨g, off, none⟩) len cap (some ⟨g2, 0, none⟩) len c2 b) (ndI 2 kc kn km t) w out w' := fun W hS => by
      have hPW := HPW.out.step hS.2
      refine (text5_dev t W hPW.tabs.1 hPW.tabs.2).mono ?_
      rintro e w' ⟨rfl, hb⟩
      exact ⟨rfl, hS.step hpb hnb2 (.quiet hPW.bu hPW.le hb)⟩
    have hpu : ∀ W, SPN w0.heap.size b w.heap.size nb (prC (some ⟨g, off, none⟩) len cap (some ⟨g2, 0, none⟩) len c2 b) (ndI 2 kc kn km t) w out W → Calls Tryz.prog 34 #[.pointer (some ⟨b, 0, none⟩), .string (ofT (textW t))] W fun e w' => e = .returned (.tuple #[.int .i64 (textW t).length, .nilIface]) ∧ SPN w0.heap.size b w.heap.size nb (prC (some ⟨g, off, none⟩) len cap (some ⟨g2, 0, none⟩) len c2 b) (ndI 2 kc kn km t) w (out ++ textW t) w' := fun W hS => by
      have hPW := HPW.out.step hS.2
      refine (hPW.put (textW t) hlen).mono ?_
      rintro e w' ⟨rfl, hq⟩
      exact ⟨rfl, hS.step hpb hnb2 hq⟩
    have HTX := Lib.hid htx
    have HPU := Lib.hid hpu
    have h0 : SPN w0.heap.size b w.heap.size nb (prC (some ⟨g, off, none⟩) len cap (some ⟨g2, 0, none⟩) len c2 b) (ndI 2 kc kn km t) w out w2.drew := HSPN.out.drew
    clear htx hpu hlen HPW2 HPW HKC
    go_upto_region 4 with fail
    clear n0 n1 HSPN
    refine region_stepsL (m := 5) (S0 := SPN w0.heap.size b w.heap.size nb (prC (some ⟨g, off, none⟩) len cap (some ⟨g2, 0, none⟩) len c2 b) (ndI 2 kc kn km t) w out) (S1 := SPN w0.heap.size b w.heap.size nb (prC (some ⟨g, off, none⟩) len cap (some ⟨g2, 0, none⟩) len c2 b) (ndI 2 kc kn km t) w (out ++ textW t)) (by kernel_rfl) (by kernel_rfl) h0 ?_
    clear h0
    simp only [List.size_toArray, List.length_cons, List.length_nil, Nat.reduceAdd, Array.replicate_succ, Array.replicate_zero, List.push_toArray, List.nil_append, List.cons_append]
    refine AnyL.both (m := 5) (i := 0) (d := some 14) (v := .pointer (some ⟨w.heap.size, 2, none⟩)) rfl rfl (by kernel_rfl) (by kernel_rfl) (by kernel_rfl) (by kernel_rfl) (StepsIf.yield (by kernel_rfl) (fun w' hS => by clear hS; go_simp)) (StepsIf.yield (by kernel_rfl) (fun w' hS => by clear hS; go_simp)) ?_
    intro a' ha'
    simp only [Act.put, List.setIfInBounds_toArray, List.set_cons_zero, List.set_cons_succ] at ha'
    subst ha'
    refine AnyL.next (m := 5) (i := 1) (d := some 15) (v := .func (.func 34) #[.pointer (some ⟨b, 0, none⟩)] #[]) rfl rfl (by kernel_rfl) (by kernel_rfl) (by kernel_rfl) (by kernel_rfl) (StepsIf.yield (by kernel_rfl) (fun w' hS => by have p2 := hS.1.1.cell 2; simp only [List.getElem?_toArray, List.getElem?_cons_zero, List.getElem?_cons_succ] at p2; clear hS; go_simp)) ?_
    intro a' ha'
    simp only [Act.put, List.setIfInBounds_toArray, List.set_cons_zero, List.set_cons_succ] at ha'
    subst ha'
    refine AnyL.both (m := 5) (i := 2) (d := some 16) (v := .pointer (some ⟨nb, 4, none⟩)) rfl rfl (by kernel_rfl) (by kernel_rfl) (by kernel_rfl) (by kernel_rfl) (StepsIf.yield (by kernel_rfl) (fun w' hS => by clear hS; go_simp)) (StepsIf.yield (by kernel_rfl) (fun w' hS => by clear hS; go_simp)) ?_
    intro a' ha'
    simp only [Act.put, List.setIfInBounds_toArray, List.set_cons_zero, List.set_cons_succ] at ha'
    subst ha'
    refine AnyL.both (m := 5) (i := 3) (d := some 17) (v := setV t) rfl rfl (by kernel_rfl) (by kernel_rfl) (by kernel_rfl) (by kernel_rfl) (StepsIf.yield (by kernel_rfl) (fun w' hS => by have n4 := hS.1.2.cell 4; have n5 := hS.1.2.cell 5; have n6 := hS.1.2.cell 6; have n7 := hS.1.2.cell 7; simp only [List.getElem?_toArray, List.getElem?_cons_zero, List.getElem?_cons_succ] at n4 n5 n6 n7; clear hS; go_simp)) (StepsIf.yield (by kernel_rfl) (fun w' hS => by have n4 := hS.1.2.cell 4; have n5 := hS.1.2.cell 5; have n6 := hS.1.2.cell 6; have n7 := hS.1.2.cell 7; simp only [List.getElem?_toArray, List.getElem?_cons_zero, List.getElem?_cons_succ] at n4 n5 n6 n7; clear hS; go_simp)) ?_
    intro a' ha'
    simp only [Act.put, List.setIfInBounds_toArray, List.set_cons_zero, List.set_cons_succ] at ha'
    subst ha'
    refine AnyL.next (m := 5) (i := 4) (d := some 18) (v := .string (ofT (textW t))) rfl rfl (by kernel_rfl) (by kernel_rfl) (by kernel_rfl) (by kernel_rfl) (StepsIf.call (by kernel_rfl) (fun w' hS => by clear hS; go_simp) (fun w' hS => HTX.out w' hS)) ?_
    intro a' ha'
    simp only [Act.put, List.setIfInBounds_toArray, List.set_cons_zero, List.set_cons_succ] at ha'
    subst ha'
    refine AnyL.store (m := 5) (d := some 19) (v := .tuple #[.int .i64 (textW t).length, .nilIface]) rfl rfl (by kernel_rfl) (by kernel_rfl) (by kernel_rfl) ?hy ?_
    case hy => exact StepsL.callK rfl (fun w' hS => by clear hS; go_simp) (fun w' hS => HPU.out w' hS)
    intro a' ha'
    simp only [Act.put, List.setIfInBounds_toArray, List.set_cons_zero, List.set_cons_succ] at ha'
    subst ha'
    refine AnyL.done (by kernel_rfl) (by kernel_rfl) (fun w' hS => ?_) _
    have HQ := Lib.hid hS.2
    clear hS HTX HPU
    go_wp2_with fail
    go_end0
    exact ⟨rfl, by rw [← HY.out]; exact HQ.out⟩
  have q2 : (k == 2) = false := by rw [beq_eq_false_iff_ne]; exact h2
  have hY := HY.out
  rw [if_neg h2] at hY
  have HKI := Lib.hid hki
  clear hki
  by_cases h3 : k = 3
  · subst h3
    rw [if_pos rfl] at hY
    subst hY
    have hl3 : ([40] ++ ac ++ [41]).length = ac.length + 2 := by simp <;> omega
    rw [hl3] at hlen
    have hpu : Calls Tryz.prog 34 #[.pointer (some ⟨b, 0, none⟩), .string ⟨#[40]⟩] w2 fun e w' => e = .returned (.tuple #[.int .i64 ([40] : List Nat).length, .nilIface]) ∧ QW w0.heap.size b (out ++ [40]) w2 w' := HPW2.out.put [40] (by simp; omega)
    have HPU := Lib.hid hpu
    have p2 := HSPN.out.1.1.cell 2
    simp only [List.getElem?_toArray, List.getElem?_cons_zero, List.getElem?_cons_succ] at p2
    clear hpu HY h2
    go_wp2_with fail
    refine HPU.out.mono ?_
    rintro e w3 ⟨rfl, hq⟩
    replace HPW2 := Lib.hid (HPW2.out.step hq)
    replace HSPN := Lib.hid (HSPN.out.step hpb hnb2 hq)
    clear HPU hq p2 n0 n1
    have hkc : Calls Tryz.prog 58 #[.agg (prC (some ⟨g, off, none⟩) len cap (some ⟨g2, 0, none⟩) len c2 b), .int .i64 i, .string ⟨#[]⟩] w3 fun e w' => e = .returned (.tuple #[]) ∧ QW w0.heap.size b (out ++ [40] ++ ac) w3 w' := HKC.out (out ++ [40]) w3 HPW2.out (by simp; omega)
    have HK := Lib.hid hkc
    have p0 := HSPN.out.1.1.cell 0; have p1 := HSPN.out.1.1.cell 1; have p2 := HSPN.out.1.1.cell 2
    simp only [List.getElem?_toArray, List.getElem?_cons_zero, List.getElem?_cons_succ] at p0 p1 p2
    clear hkc HKC
    go_wp2_with fail
    refine HK.out.mono ?_
    rintro e w4 ⟨rfl, hq⟩
    replace HPW2 := Lib.hid (HPW2.out.step hq)
    replace HSPN := Lib.hid (HSPN.out.step hpb hnb2 hq)
    clear HK hq p0 p1 p2
    have hpu : Calls Tryz.prog 34 #[.pointer (some ⟨b, 0, none⟩), .string ⟨#[41]⟩] w4 fun e w' => e = .returned (.tuple #[.int .i64 ([41] : List Nat).length, .nilIface]) ∧ QW w0.heap.size b (out ++ [40] ++ ac ++ [41]) w4 w' := HPW2.out.put [41] (by simp; omega)
    have HPU := Lib.hid hpu
    have p2 := HSPN.out.1.1.cell 2
    simp only [List.getElem?_toArray, List.getElem?_cons_zero, List.getElem?_cons_succ] at p2
    clear hpu
    go_wp2_with fail
    refine HPU.out.mono ?_
    rintro e w5 ⟨rfl, hq⟩
    replace HSPN := Lib.hid (HSPN.out.step hpb hnb2 hq)
    clear HPU hq p2
    go_wp2_with fail
    go_end0
    have hz := HSPN.out.2
    rw [List.append_assoc, List.append_assoc, ← List.append_assoc [40]] at hz
    exact ⟨rfl, hz⟩
  have q3 : (k == 3) = false := by rw [beq_eq_false_iff_ne]; exact h3
  rw [if_neg h3] at hY
  by_cases h4 : k = 4
  · subst h4
    rw [if_pos rfl] at hY
    subst hY
    rw [List.length_append] at hlen
    have hkc : Calls Tryz.prog 58 #[.agg (prC (some ⟨g, off, none⟩) len cap (some ⟨g2, 0, none⟩) len c2 b), .int .i64 i, .string ⟨#[]⟩] w2 fun e w' => e = .returned (.tuple #[]) ∧ QW w0.heap.size b (out ++ ac) w2 w' := HKC.out out w2 HPW2.out (by omega)
    have HK := Lib.hid hkc
    have p0 := HSPN.out.1.1.cell 0; have p1 := HSPN.out.1.1.cell 1; have p2 := HSPN.out.1.1.cell 2
    simp only [List.getElem?_toArray, List.getElem?_cons_zero, List.getElem?_cons_succ] at p0 p1 p2
    clear hkc HKC HY h2 h3
    go_wp2_with fail
    refine HK.out.mono ?_
    rintro e w3 ⟨rfl, hq⟩
    replace HSPN := Lib.hid (HSPN.out.step hpb hnb2 hq)
    clear HK hq p0 p1 p2 n0 n1 HPW2
    have htx : ∀ W, SPN w0.heap.size b w.heap.size nb (prC (some ⟨g, off, none⟩) len cap (some ⟨g2, 0, none⟩) len c2 b) (ndI 4 kc kn km t) w (out ++ ac) W → Calls Tryz.prog 59 #[.int .i64 kn, .int .i64 km] W fun e w' => e = .returned (.string (ofT (textN kn km))) ∧ SPN w0.heap.size b w.heap.size nb (prC (some ⟨g, off, none⟩) len cap (some ⟨g2, 0, none⟩) len c2 b) (ndI 4 kc kn km t) w (out ++ ac) w' := fun W hS => by
      have hPW := HPW.out.step hS.2
      refine (bText_calls kn km W).mono ?_
      rintro e w' ⟨rfl, hb⟩
      exact ⟨rfl, hS.step hpb hnb2 (.quiet hPW.bu hPW.le hb)⟩
    have hpu : ∀ W, SPN w0.heap.size b w.heap.size nb (prC (some ⟨g, off, none⟩) len cap (some ⟨g2, 0, none⟩) len c2 b) (ndI 4 kc kn km t) w (out ++ ac) W → Calls Tryz.prog 34 #[.pointer (some ⟨b, 0, none⟩), .string (ofT (textN kn km))] W fun e w' => e = .returned (.tuple #[.int .i64 (textN kn km).length, .nilIface]) ∧ SPN w0.heap.size b w.heap.size nb (prC (some ⟨g, off, none⟩) len cap (some ⟨g2, 0, none⟩) len c2 b) (ndI 4 kc kn km t) w (out ++ ac ++ textN kn km) w' := fun W hS => by
      have hPW := HPW.out.step hS.2
      refine (hPW.put (textN kn km) (by rw [List.length_append]; omega)).mono ?_
      rintro e w' ⟨rfl, hq⟩
      exact ⟨rfl, hS.step hpb hnb2 hq⟩
    have HTX := Lib.hid htx
    have HPU := Lib.hid hpu
    have h0 : SPN w0.heap.size b w.heap.size nb (prC (some ⟨g, off, none⟩) len cap (some ⟨g2, 0, none⟩) len c2 b) (ndI 4 kc kn km t) w (out ++ ac) w3.drew := HSPN.out.drew
    clear htx hpu HPW hlen
    go_upto_region 11 with fail
    clear HSPN
    refine region_stepsL (m := 7) (S0 := SPN w0.heap.size b w.heap.size nb (prC (some ⟨g, off, none⟩) len cap (some ⟨g2, 0, none⟩) len c2 b) (ndI 4 kc kn km t) w (out ++ ac)) (S1 := SPN w0.heap.size b w.heap.size nb (prC (some ⟨g, off, none⟩) len cap (some ⟨g2, 0, none⟩) len c2 b) (ndI 4 kc kn km t) w (out ++ ac ++ textN kn km)) (by kernel_rfl) (by kernel_rfl) h0 ?_
    clear h0
    simp only [List.size_toArray, List.length_cons, List.length_nil, Nat.reduceAdd, Array.replicate_succ, Array.replicate_zero, List.push_toArray, List.nil_append, List.cons_append]
    refine AnyL.both (m := 7) (i := 0) (d := some 36) (v := .pointer (some ⟨w.heap.size, 2, none⟩)) rfl rfl (by kernel_rfl) (by kernel_rfl) (by kernel_rfl) (by kernel_rfl) (StepsIf.yield (by kernel_rfl) (fun w' hS => by clear hS; go_simp)) (StepsIf.yield (by kernel_rfl) (fun w' hS => by clear hS; go_simp)) ?_
    intro a' ha'
    simp only [Act.put, List.setIfInBounds_toArray, List.set_cons_zero, List.set_cons_succ] at ha'
    subst ha'
    refine AnyL.next (m := 7) (i := 1) (d := some 37) (v := .func (.func 34) #[.pointer (some ⟨b, 0, none⟩)] #[]) rfl rfl (by kernel_rfl) (by kernel_rfl) (by kernel_rfl) (by kernel_rfl) (StepsIf.yield (by kernel_rfl) (fun w' hS => by have p2 := hS.1.1.cell 2; simp only [List.getElem?_toArray, List.getElem?_cons_zero, List.getElem?_cons_succ] at p2; clear hS; go_simp)) ?_
    intro a' ha'
    simp only [Act.put, List.setIfInBounds_toArray, List.set_cons_zero, List.set_cons_succ] at ha'
    subst ha'
    refine AnyL.both (m := 7) (i := 2) (d := some 38) (v := .pointer (some ⟨nb, 2, none⟩)) rfl rfl (by kernel_rfl) (by kernel_rfl) (by kernel_rfl) (by kernel_rfl) (StepsIf.yield (by kernel_rfl) (fun w' hS => by clear hS; go_simp)) (StepsIf.yield (by kernel_rfl) (fun w' hS => by clear hS; go_simp)) ?_
    intro a' ha'
    simp only [Act.put, List.setIfInBounds_toArray, List.set_cons_zero, List.set_cons_succ] at ha'
    subst ha'
    refine AnyL.both (m := 7) (i := 3) (d := some 39) (v := .int .i64 kn) rfl rfl (by kernel_rfl) (by kernel_rfl) (by kernel_rfl) (by kernel_rfl) (StepsIf.yield (by kernel_rfl) (fun w' hS => by have n2 := hS.1.2.cell 2; simp only [List.getElem?_toArray, List.getElem?_cons_zero, List.getElem?_cons_succ] at n2; clear hS; go_simp)) (StepsIf.yield (by kernel_rfl) (fun w' hS => by have n2 := hS.1.2.cell 2; simp only [List.getElem?_toArray, List.getElem?_cons_zero, List.getElem?_cons_succ] at n2; clear hS; go_simp)) ?_
    intro a' ha'
    simp only [Act.put, List.setIfInBounds_toArray, List.set_cons_zero, List.set_cons_succ] at ha'
    subst ha'
    refine AnyL.both (m := 7) (i := 4) (d := some 40) (v := .pointer (some ⟨nb, 3, none⟩)) rfl rfl (by kernel_rfl) (by kernel_rfl) (by kernel_rfl) (by kernel_rfl) (StepsIf.yield (by kernel_rfl) (fun w' hS => by clear hS; go_simp)) (StepsIf.yield (by kernel_rfl) (fun w' hS => by clear hS; go_simp)) ?_
    intro a' ha'
    simp only [Act.put, List.setIfInBounds_toArray, List.set_cons_zero, List.set_cons_succ] at ha'
    subst ha'
    refine AnyL.both (m := 7) (i := 5) (d := some 41) (v := .int .i64 km) rfl rfl (by kernel_rfl) (by kernel_rfl) (by kernel_rfl) (by kernel_rfl) (StepsIf.yield (by kernel_rfl) (fun w' hS => by have n3 := hS.1.2.cell 3; simp only [List.getElem?_toArray, List.getElem?_cons_zero, List.getElem?_cons_succ] at n3; clear hS; go_simp)) (StepsIf.yield (by kernel_rfl) (fun w' hS => by have n3 := hS.1.2.cell 3; simp only [List.getElem?_toArray, List.getElem?_cons_zero, List.getElem?_cons_succ] at n3; clear hS; go_simp)) ?_
    intro a' ha'
    simp only [Act.put, List.setIfInBounds_toArray, List.set_cons_zero, List.set_cons_succ] at ha'
    subst ha'
    refine AnyL.next (m := 7) (i := 6) (d := some 42) (v := .string (ofT (textN kn km))) rfl rfl (by kernel_rfl) (by kernel_rfl) (by kernel_rfl) (by kernel_rfl) (StepsIf.call (by kernel_rfl) (fun w' hS => by clear hS; go_simp) (fun w' hS => HTX.out w' hS)) ?_
    intro a' ha'
    simp only [Act.put, List.setIfInBounds_toArray, List.set_cons_zero, List.set_cons_succ] at ha'
    subst ha'
    refine AnyL.store (m := 7) (d := some 43) (v := .tuple #[.int .i64 (textN kn km).length, .nilIface]) rfl rfl (by kernel_rfl) (by kernel_rfl) (by kernel_rfl) ?hy ?_
    case hy => exact StepsL.callK rfl (fun w' hS => by clear hS; go_simp) (fun w' hS => HPU.out w' hS)
    intro a' ha'
    simp only [Act.put, List.setIfInBounds_toArray, List.set_cons_zero, List.set_cons_succ] at ha'
    subst ha'
    refine AnyL.done (by kernel_rfl) (by kernel_rfl) (fun w' hS => ?_) _
    have HQ := Lib.hid hS.2
    clear hS HTX HPU
    go_wp2_with fail
    go_end0
    exact ⟨rfl, by rw [← List.append_assoc]; exact HQ.out⟩
  have q4 : (k == 4) = false := by rw [beq_eq_false_iff_ne]; exact h4
  rw [if_neg h4] at hY
  subst hY
  by_cases h5 : k = 5
  · subst h5
    have hkc : Calls Tryz.prog 58 #[.agg (prC (some ⟨g, off, none⟩) len cap (some ⟨g2, 0, none⟩) len c2 b), .int .i64 i, .string ⟨#[]⟩] w2 fun e w' => e = .returned (.tuple #[]) ∧ QW w0.heap.size b (out ++ ac) w2 w' := HKC.out out w2 HPW2.out hlen
    have HK := Lib.hid hkc
    have p0 := HSPN.out.1.1.cell 0; have p1 := HSPN.out.1.1.cell 1; have p2 := HSPN.out.1.1.cell 2
    simp only [List.getElem?_toArray, List.getElem?_cons_zero, List.getElem?_cons_succ] at p0 p1 p2
    clear hkc HKC HY h2 h3 h4
    go_wp2_with fail
    refine HK.out.mono ?_
    rintro e w3 ⟨rfl, hq⟩
    replace HSPN := Lib.hid (HSPN.out.step hpb hnb2 hq)
    clear HK hq p0 p1 p2 n0 n1 HPW2
    go_wp2_with fail
    go_end0
    exact ⟨rfl, HSPN.out.2⟩
  have q5 : (k == 5) = false := by rw [beq_eq_false_iff_ne]; exact h5
  by_cases h6 : k = 6
  · subst h6
    have hkc : Calls Tryz.prog 58 #[.agg (prC (some ⟨g, off, none⟩) len cap (some ⟨g2, 0, none⟩) len c2 b), .int .i64 i, .string ⟨#[124]⟩] w2 fun e w' => e = .returned (.tuple #[]) ∧ QW w0.heap.size b (out ++ ac) w2 w' := HKC.out out w2 HPW2.out hlen
    have HK := Lib.hid hkc
    have p0 := HSPN.out.1.1.cell 0; have p1 := HSPN.out.1.1.cell 1; have p2 := HSPN.out.1.1.cell 2
    simp only [List.getElem?_toArray, List.getElem?_cons_zero, List.getElem?_cons_succ] at p0 p1 p2
    clear hkc HKC HY h2 h3 h4 h5
    go_wp2_with fail
    refine HK.out.mono ?_
    rintro e w3 ⟨rfl, hq⟩
    replace HSPN := Lib.hid (HSPN.out.step hpb hnb2 hq)
    clear HK hq p0 p1 p2 n0 n1 HPW2
    go_wp2_with fail
    go_end0
    exact ⟨rfl, HSPN.out.2⟩
  have q6 : (k == 6) = false := by rw [beq_eq_false_iff_ne]; exact h6
  obtain ⟨h1, rfl⟩ : k = 1 ∧ ac = [] := by
    have := HKI.out
    rcases this with ⟨h, h'⟩ | h | h | h | h | h
    · exact ⟨h, h'⟩
    · exact absurd h h2
    · exact absurd h h3
    · exact absurd h h4
    · exact absurd h h5
    · exact absurd h h6
  clear HKC HKI HY h1 h2 h3 h4 h5 h6 HPW2
  go_wp2_with fail
  go_end0
  exact ⟨rfl, by rw [List.append_nil]; exact HSPN.out.2⟩
end Go.Proofs.YtbccojjcdcighaaGreatDoor

namespace Go.Proofs.YtbccojjcdcighaaGreatDoor
open Go.RowKit BS
theorem start_rd (s : ByteArray) (w : World) : RdV w.heap.size (w.heap.size + 1) s 0 sPS (.slice none 0 0) (.slice (some ⟨w.heap.size, 0, none⟩) 1 1) w ((w.alloc (.cells #[.int .i64 0, .int .i64 0] 86)).alloc (.cells (preA s 0 (.slice none 0 0) (.slice (some ⟨w.heap.size, 0, none⟩) 1 1) 0) 63)) := by
  have h1 := Blk.new w #[.int .i64 0, .int .i64 0] 86
  have h2 := Blk.new (w.alloc (.cells #[.int .i64 0, .int .i64 0] 86)) (preA s 0 (.slice none 0 0) (.slice (some ⟨w.heap.size, 0, none⟩) 1 1) 0) 63
  rw [World.size_alloc] at h2
  refine ⟨h2, World.ownsRow_nil _ _ _ _, ⟨rfl, .inr ⟨w.heap.size, 1, _, rfl, Nat.le_refl _, h1.alloc _, Nat.le_refl _, by decide, rfl, rfl⟩⟩, by simp [Value.ownBlock], by simp [Value.ownBlock], .inl rfl, by omega, by go_grown⟩
def ReadQ (s : ByteArray) (w : World) (RES : PS × Nat × Nat) (e : Ending) (w' : World) : Prop :=
  (RES.2.1 ≠ 0 ∧ e = .returned (.tuple #[.pointer none, .int .i64 RES.2.1, .int .i64 RES.2.2]) ∧ Below w.heap.size w w') ∨
  (RES.2.1 = 0 ∧ ∃ R a vN vL, e = .returned (.tuple #[.pointer (some ⟨R, 0, none⟩), .int .i64 0, .int .i64 0]) ∧ RdV w.heap.size R s a RES.1 vN vL w w' ∧ Bnd s.size RES.1 ∧ RES.1.st ≠ [])
set_option maxRecDepth 100000 in
set_option maxHeartbeats 32000000 in
theorem pread_calls (s : ByteArray) (hs : s.size ≤ 1000000) (w : World) :
    Calls Tryz.prog 27 #[.string s] w fun e w' => ReadQ s w (readM s (s.size + 1) 0 sPS) e w' := by
  have HG := Lib.hid (start_rd s w)
  have hR : readM s (s.size + 1) 0 sPS = readM s (s.size + 1) 0 sPS := rfl
  generalize hRES : readM s (s.size + 1) 0 sPS = RES at *
  have HRES := Lib.hid hRES
  clear hRES hR
  go_enter Tryz.func27, Tryz.ntmps27
  go_upto_region 2 with fail
  have e0 : (w.alloc (.cells #[.int .i64 0, .int .i64 0] 86)).alloc (.cells #[.string s, .int .i64 0, .slice none 0 0, .slice (some ⟨w.heap.size, 0, none⟩) 1 1, .int .i64 0] 63) = (w.alloc (.cells #[.int .i64 0, .int .i64 0] 86)).alloc (.cells (preA s 0 (.slice none 0 0) (.slice (some ⟨w.heap.size, 0, none⟩) 1 1) 0) 63) := rfl
  try rw [e0]
  clear e0
  generalize (w.alloc (.cells #[.int .i64 0, .int .i64 0] 86)).alloc (.cells (preA s 0 (.slice none 0 0) (.slice (some ⟨w.heap.size, 0, none⟩) 1 1) 0) 63) = w1 at *
  go_loopw [9] (fun _ wr => ∃ (k a : Nat) (x : PS) (vN vL : Value), a ≤ s.size ∧ s.size < k + a ∧ readM s k a x = RES ∧ PInv x ∧ Bnd a x ∧ RdV w.heap.size (w.heap.size + 1) s a x vN vL w wr) (fun _ wr => s.size - (intOf ((wr.cell? ⟨w.heap.size + 1, 1, none⟩).getD undef)).toNat)
  case atStart => exact ⟨s.size + 1, 0, sPS, _, _, Nat.zero_le _, by omega, HRES.out, sPS_inv, sPS_bnd, HG.out⟩
  case round =>
    clear HG HRES
    obtain ⟨k, a, x, vN, vL, ha, hk, hres, hpi, hbd, hr⟩ := hrel
    obtain ⟨k, rfl⟩ : ∃ m, k = m + 1 := ⟨k - 1, by omega⟩
    have c1 := hr.c.2.1
    have HC1 := Lib.hid c1
    by_cases hlt : a < s.size
    · obtain ⟨l, st, gr⟩ := x
      obtain _ | ⟨⟨n, r⟩, st⟩ := st
      · exact absurd rfl hpi.1
      have hsl := hbd.2.1
      simp only [List.length_cons] at hsl
      obtain ⟨gL, capL, rfl, _⟩ := hr.top rfl
      have c3 : wr.cell? ⟨w.heap.size + 1, 3, none⟩ = some (.slice (some ⟨gL, 0, none⟩) (st.length + 1 : Nat) capL) := hr.c.2.2.2.1
      have HLV := Lib.hid (fun W (h3 : W.cell? ⟨w.heap.size + 1, 3, none⟩ = some (.slice (some ⟨gL, 0, none⟩) (st.length + 1 : Nat) capL)) => plevel_calls (w.heap.size + 1) gL st.length capL W h3 (by omega))
      have HR := Lib.hid hr
      have HB := Lib.hid hr.bel
      clear hr hsl
      have hb0 : s[a].toNat = bt s a := (bt_eq s a hlt).symm
      have hi := ib_eq [42, 43, 63, 123] (by decide) (bt s a) (bt_lt s a)
      have HI : Hid (∀ w, Calls Tryz.prog 45 #[.string ⟨#[42, 43, 63, 123]⟩, .int .u8 (bt s a)] w fun e w' => e = .returned (.int .i64 (Lib.indexByte (ofT [42, 43, 63, 123]).data.toList ((bt s a : Int)).toNat.toUInt8)) ∧ w = w') := Lib.hid (ib_calls (ofT [42, 43, 63, 123]) (bt s a))
      generalize Lib.indexByte (ofT [42, 43, 63, 123]).data.toList ((bt s a : Int)).toNat.toUInt8 = ix at *
      by_cases hc : bt s a = 42 ∨ bt s a = 43 ∨ bt s a = 63 ∨ bt s a = 123
      · have hix : decide (0 ≤ ix) = true := by rw [hi]; rcases hc with h | h | h | h <;> rw [h] <;> rfl
        clear hi
        by_cases hn : n = 0
        · subst hn
          rw [readM_first s k a _ 7 hlt (by unfold firstP; simp only; rw [if_pos hc]; simp) (by decide)] at hres
          subst hres
          clear hpi hbd hc
          go_wp2_with (go_at_call 45; refine (HI.out _).mono ?_; rintro e w' ⟨rfl, rfl⟩)
          refine (HLV.out _ c3).mono ?_
          rintro e w1 ⟨rfl, hb1⟩
          have hr1 := HR.out.below hb1
          have c1' := hr1.c.2.1
          clear HR c1 c3 hb1 HB HLV
          obtain ⟨_, _, ee, _, _, _, _, t0, t1, f0, f1, _⟩ := hr1.top rfl
          cases ee
          have HB := Lib.hid hr1.bel
          clear hr1
          go_wp2_with fail
          go_quiet (fail)
          go_wp2_with fail
          exact bodyPost_ret (v := .tuple #[.pointer none, .int .i64 7, .int .i64 ((a : Int) + 1)]) (by simp [results, Tryz.results27, go_sem] <;> rfl) rfl (.inl ⟨(show (7 : Nat) ≠ 0 by decide), rfl, below_drN HB.out _⟩)
        · have qn : ((n : Int) == 0) = false := by rw [beq_eq_false_iff_ne]; omega
          obtain ⟨vX, hvX⟩ : ∃ X, nextA s a = X := ⟨_, rfl⟩
          obtain ⟨⟨xk, xp, xf, xt, xn, xm⟩, er, pl⟩ := vX
          have hE := nextA_end s a hlt
          have hcc : bt s a = 42 ∨ bt s a = 43 ∨ bt s a = 63 ∨ bt s a = 123 → n ≠ 0 := fun _ => hn
          rw [hvX] at hE
          rcases hE with ⟨h1, h2, h3, h4, h5, h6⟩ | ⟨h1, _⟩
          · simp only at h1 h2 h4 h5 h6
            subst h1
            subst h2
            subst h4
            have hNX := fun W (h : RdV w.heap.size (w.heap.size + 1) s xp ⟨l, (n, r) :: st, gr⟩ vN (.slice (some ⟨gL, 0, none⟩) (st.length + 1 : Nat) capL) w W) => pnext_calls hs xk xp xf xt xn xm 0 0 (by rw [← (next_in s xp hlt).1]; exact hvX) W h
            simp only [if_true] at hNX
            have hft := first_tk s xp ⟨l, (n, r) :: st, gr⟩ n r st ⟨xk, xp, xf, xt, xn, xm⟩ rfl hvX hcc
            have hTK := fun W (h : RdV w.heap.size (w.heap.size + 1) s xf ⟨l, (n, r) :: st, gr⟩ vN (.slice (some ⟨gL, 0, none⟩) (st.length + 1 : Nat) capL) w W) => ptake_calls hs ⟨l, (n, r) :: st, gr⟩ ⟨xk, xp, xf, xt, xn, xm⟩ h3 hbd (by simp) ha hpi.2.2.2 W h
            have hbd2 := take_bnd xp xf ⟨l, (n, r) :: st, gr⟩ ⟨xk, xp, xf, xt, xn, xm⟩ hbd h5
            by_cases htk : tkE ⟨l, (n, r) :: st, gr⟩ ⟨xk, xp, xf, xt, xn, xm⟩ = 0
            · rw [htk] at hft
              have hpi2 := take_inv s xp ⟨l, (n, r) :: st, gr⟩ ⟨xk, xp, xf, xt, xn, xm⟩ hpi hft h3 (next_kinds s xp _ hvX).1 (next_kinds s xp _ hvX).2.1 (next_kinds s xp _ hvX).2.2
              rw [readM_step s k xp _ ⟨xk, xp, xf, xt, xn, xm⟩ 0 hlt hft hvX] at hres
              rw [htk] at hTK
              have HNX : Hid (∀ W, RdV w.heap.size (w.heap.size + 1) s xp ⟨l, (n, r) :: st, gr⟩ vN (.slice (some ⟨gL, 0, none⟩) (st.length + 1 : Nat) capL) w W → Calls Tryz.prog 47 #[.pointer (some ⟨w.heap.size + 1, 0, none⟩)] W fun e w' => e = .returned (.tuple #[.agg (woI xk xp xf xt xn xm), .int .i64 0, .int .i64 0]) ∧ RdV w.heap.size (w.heap.size + 1) s xf ⟨l, (n, r) :: st, gr⟩ vN (.slice (some ⟨gL, 0, none⟩) (st.length + 1 : Nat) capL) w w') := Lib.hid hNX
              have HTK : Hid (∀ W, RdV w.heap.size (w.heap.size + 1) s xf ⟨l, (n, r) :: st, gr⟩ vN (.slice (some ⟨gL, 0, none⟩) (st.length + 1 : Nat) capL) w W → Calls Tryz.prog 48 #[.pointer (some ⟨w.heap.size + 1, 0, none⟩), .agg (woI xk xp xf xt xn xm)] W fun e w' => e = .returned (.int .i64 0) ∧ (0 = 0 → ∃ vN' vL', RdV w.heap.size (w.heap.size + 1) s xf (takeP ⟨l, (n, r) :: st, gr⟩ ⟨xk, xp, xf, xt, xn, xm⟩) vN' vL' w w') ∧ ((0 : Nat) ≠ 0 → Below W.heap.size W w')) := Lib.hid hTK
              have HF := Lib.hid (show _ ∧ _ ∧ _ ∧ _ ∧ _ from ⟨hres, hpi2, hbd2, h5, h6⟩)
              clear hres hpi2 hbd2 h5 h6 hNX hTK hft htk h3 hvX hcc hpi hbd
              go_wp2_with (go_at_call 45; refine (HI.out _).mono ?_; rintro e w' ⟨rfl, rfl⟩)
              refine (HLV.out _ c3).mono ?_
              rintro e w1 ⟨rfl, hb1⟩
              have hr1 := HR.out.below hb1
              clear HR c1 c3 hb1 HB HLV
              obtain ⟨_, _, ee, _, _, _, _, t0, t1, f0, f1, _⟩ := hr1.top rfl
              cases ee
              have HR := Lib.hid hr1
              have HB := Lib.hid hr1.bel
              clear hr1
              go_wp2_with fail
              refine (HNX.out _ HR.out).mono ?_
              rintro e w2 ⟨rfl, hr2⟩
              clear HNX HR HB
              go_upto_region 6 with fail
              have HW := Lib.hid (Blk.new w2 (woI xk xp xf xt xn xm) 91)
              have HR := Lib.hid (hr2.alloc (.cells (woI xk xp xf xt xn xm) 91))
              clear hr2
              generalize w2.alloc (.cells (woI xk xp xf xt xn xm) 91) = w3 at *
              generalize w2.heap.size = gW at *
              have g0 := HW.out.cell 0; have g1 := HW.out.cell 1; have g2 := HW.out.cell 2; have g3 := HW.out.cell 3; have g4 := HW.out.cell 4; have g5 := HW.out.cell 5; have g6 := HW.out.cell 6; have g7 := HW.out.cell 7; have g8 := HW.out.cell 8
              simp only [List.getElem?_toArray, List.getElem?_cons_zero, List.getElem?_cons_succ] at g0 g1 g2 g3 g4 g5 g6 g7 g8
              go_wp2_with fail
              refine (HTK.out _ HR.out).mono ?_
              rintro e w4 ⟨rfl, hr4, _⟩
              obtain ⟨vN2, vL2, hr4⟩ := hr4 trivial
              clear HTK HR HW g0 g1 g2 g3 g4 g5 g6 g7 g8
              have HR := Lib.hid hr4
              have cA := hr4.c.2.1
              clear hr4
              go_wp2_with fail
              go_roundw
              case rel =>
                obtain ⟨q1, q2, q3, q4, q5⟩ := HF.out
                exact ⟨k, xf, _, vN2, vL2, q5, by omega, q1, q2, q3, HR.out⟩
              case measure =>
                obtain ⟨_, _, _, q4, _⟩ := HF.out
                rw [cA, HC1.out]
                simp [intOf]; omega
            · have hfn : firstP ⟨l, (n, r) :: st, gr⟩ (bt s xp) ≠ 0 := by rw [hft]; exact htk
              rw [readM_first s k xp _ _ hlt hft htk] at hres
              have qe : ((tkE ⟨l, (n, r) :: st, gr⟩ ⟨xk, xp, xf, xt, xn, xm⟩ : Int) != 0) = true := by rw [bne_iff_ne]; omega
              have HNE := Lib.hid htk
              generalize tkE ⟨l, (n, r) :: st, gr⟩ ⟨xk, xp, xf, xt, xn, xm⟩ = TE at *
              have HNX : Hid (∀ W, RdV w.heap.size (w.heap.size + 1) s xp ⟨l, (n, r) :: st, gr⟩ vN (.slice (some ⟨gL, 0, none⟩) (st.length + 1 : Nat) capL) w W → Calls Tryz.prog 47 #[.pointer (some ⟨w.heap.size + 1, 0, none⟩)] W fun e w' => e = .returned (.tuple #[.agg (woI xk xp xf xt xn xm), .int .i64 0, .int .i64 0]) ∧ RdV w.heap.size (w.heap.size + 1) s xf ⟨l, (n, r) :: st, gr⟩ vN (.slice (some ⟨gL, 0, none⟩) (st.length + 1 : Nat) capL) w w') := Lib.hid hNX
              have HTK : Hid (∀ W, RdV w.heap.size (w.heap.size + 1) s xf ⟨l, (n, r) :: st, gr⟩ vN (.slice (some ⟨gL, 0, none⟩) (st.length + 1 : Nat) capL) w W → Calls Tryz.prog 48 #[.pointer (some ⟨w.heap.size + 1, 0, none⟩), .agg (woI xk xp xf xt xn xm)] W fun e w' => e = .returned (.int .i64 TE) ∧ (TE = 0 → ∃ vN' vL', RdV w.heap.size (w.heap.size + 1) s xf (takeP ⟨l, (n, r) :: st, gr⟩ ⟨xk, xp, xf, xt, xn, xm⟩) vN' vL' w w') ∧ (TE ≠ 0 → Below W.heap.size W w')) := Lib.hid hTK
              have HRS := Lib.hid hres
              clear hres hbd2 h5 h6 hNX hTK hft htk h3 hvX hcc hpi hbd hfn
              go_wp2_with (go_at_call 45; refine (HI.out _).mono ?_; rintro e w' ⟨rfl, rfl⟩)
              refine (HLV.out _ c3).mono ?_
              rintro e w1 ⟨rfl, hb1⟩
              have hr1 := HR.out.below hb1
              clear HR c1 c3 hb1 HB HLV
              obtain ⟨_, _, ee, _, _, _, _, t0, t1, f0, f1, _⟩ := hr1.top rfl
              cases ee
              have HR := Lib.hid hr1
              have HB := Lib.hid hr1.bel
              clear hr1
              go_wp2_with fail
              refine (HNX.out _ HR.out).mono ?_
              rintro e w2 ⟨rfl, hr2⟩
              clear HNX HR HB
              go_upto_region 6 with fail
              have HW := Lib.hid (Blk.new w2 (woI xk xp xf xt xn xm) 91)
              have HR := Lib.hid (hr2.alloc (.cells (woI xk xp xf xt xn xm) 91))
              clear hr2
              generalize w2.alloc (.cells (woI xk xp xf xt xn xm) 91) = w3 at *
              generalize w2.heap.size = gW at *
              have g0 := HW.out.cell 0; have g1 := HW.out.cell 1; have g2 := HW.out.cell 2; have g3 := HW.out.cell 3; have g4 := HW.out.cell 4; have g5 := HW.out.cell 5; have g6 := HW.out.cell 6; have g7 := HW.out.cell 7; have g8 := HW.out.cell 8
              simp only [List.getElem?_toArray, List.getElem?_cons_zero, List.getElem?_cons_succ] at g0 g1 g2 g3 g4 g5 g6 g7 g8
              go_wp2_with fail
              refine (HTK.out _ HR.out).mono ?_
              rintro e w4 ⟨rfl, _, hb4⟩
              replace hb4 := hb4 HNE.out
              have hw4 := HW.out.below hb4 HW.out.lt
              have HB4 := Lib.hid ((HR.out.below hb4).bel)
              clear HTK HR HW g0 g1 g2 g3 g4 g5 g6 g7 g8 hb4
              have g1 := hw4.cell 1
              simp only [List.getElem?_toArray, List.getElem?_cons_zero, List.getElem?_cons_succ] at g1
              clear hw4
              go_wp2_with fail
              go_quiet (fail)
              go_wp2_with fail
              rw [← HRS.out]
              exact bodyPost_ret (v := .tuple #[.pointer none, .int .i64 TE, .int .i64 ((xp : Int) + 1)]) (by simp [results, Tryz.results27, go_sem] <;> rfl) rfl (.inl ⟨HNE.out, rfl, below_drN HB4.out _⟩)
          · simp only at h1
            have hft := first_err s a ⟨l, (n, r) :: st, gr⟩ n r st _ er pl rfl hvX h1 hcc
            rw [readM_err s k a _ _ er pl hlt hft hvX h1] at hres
            have hNX := fun W (h : RdV w.heap.size (w.heap.size + 1) s a ⟨l, (n, r) :: st, gr⟩ vN (.slice (some ⟨gL, 0, none⟩) (st.length + 1 : Nat) capL) w W) => pnext_calls hs xk xp xf xt xn xm er pl (by rw [← (next_in s a hlt).1]; exact hvX) W h
            simp only [if_neg h1] at hNX
            have HNX : Hid (∀ W, RdV w.heap.size (w.heap.size + 1) s a ⟨l, (n, r) :: st, gr⟩ vN (.slice (some ⟨gL, 0, none⟩) (st.length + 1 : Nat) capL) w W → Calls Tryz.prog 47 #[.pointer (some ⟨w.heap.size + 1, 0, none⟩)] W fun e w' => e = .returned (.tuple #[.agg (woI xk xp xf xt xn xm), .int .i64 er, .int .i64 pl]) ∧ RdV w.heap.size (w.heap.size + 1) s a ⟨l, (n, r) :: st, gr⟩ vN (.slice (some ⟨gL, 0, none⟩) (st.length + 1 : Nat) capL) w w') := Lib.hid hNX
            have qe : ((er : Int) != 0) = true := by rw [bne_iff_ne]; omega
            have HNE := Lib.hid h1
            have HRS := Lib.hid hres
            clear hres hNX hft h1 hvX hcc hpi hbd
            go_wp2_with (go_at_call 45; refine (HI.out _).mono ?_; rintro e w' ⟨rfl, rfl⟩)
            refine (HLV.out _ c3).mono ?_
            rintro e w1 ⟨rfl, hb1⟩
            have hr1 := HR.out.below hb1
            clear HR c1 c3 hb1 HB HLV
            obtain ⟨_, _, ee, _, _, _, _, t0, t1, f0, f1, _⟩ := hr1.top rfl
            cases ee
            have HR := Lib.hid hr1
            have HB := Lib.hid hr1.bel
            clear hr1
            go_wp2_with fail
            refine (HNX.out _ HR.out).mono ?_
            rintro e w2 ⟨rfl, hr2⟩
            clear HNX HR HB
            have HB2 := Lib.hid hr2.bel
            have hsz := hr2.size
            clear hr2
            go_wp2_with fail
            rw [← HRS.out]
            exact bodyPost_ret (v := .tuple #[.pointer none, .int .i64 er, .int .i64 pl]) (by simp [results, Tryz.results27, go_sem] <;> rfl) rfl (.inl ⟨HNE.out, rfl, HB2.out.alloc hsz _⟩)
      · have hix : decide (0 ≤ ix) = false := by
          rw [hi, Bool.eq_false_iff]
          intro h
          simp at h
          omega
        clear hi
        obtain ⟨vX, hvX⟩ : ∃ X, nextA s a = X := ⟨_, rfl⟩
        obtain ⟨⟨xk, xp, xf, xt, xn, xm⟩, er, pl⟩ := vX
        have hE := nextA_end s a hlt
        have hcc : bt s a = 42 ∨ bt s a = 43 ∨ bt s a = 63 ∨ bt s a = 123 → n ≠ 0 := fun h => absurd h hc
        rw [hvX] at hE
        rcases hE with ⟨h1, h2, h3, h4, h5, h6⟩ | ⟨h1, _⟩
        · simp only at h1 h2 h4 h5 h6
          subst h1
          subst h2
          subst h4
          have hNX := fun W (h : RdV w.heap.size (w.heap.size + 1) s xp ⟨l, (n, r) :: st, gr⟩ vN (.slice (some ⟨gL, 0, none⟩) (st.length + 1 : Nat) capL) w W) => pnext_calls hs xk xp xf xt xn xm 0 0 (by rw [← (next_in s xp hlt).1]; exact hvX) W h
          simp only [if_true] at hNX
          have hft := first_tk s xp ⟨l, (n, r) :: st, gr⟩ n r st ⟨xk, xp, xf, xt, xn, xm⟩ rfl hvX hcc
          have hTK := fun W (h : RdV w.heap.size (w.heap.size + 1) s xf ⟨l, (n, r) :: st, gr⟩ vN (.slice (some ⟨gL, 0, none⟩) (st.length + 1 : Nat) capL) w W) => ptake_calls hs ⟨l, (n, r) :: st, gr⟩ ⟨xk, xp, xf, xt, xn, xm⟩ h3 hbd (by simp) ha hpi.2.2.2 W h
          have hbd2 := take_bnd xp xf ⟨l, (n, r) :: st, gr⟩ ⟨xk, xp, xf, xt, xn, xm⟩ hbd h5
          by_cases htk : tkE ⟨l, (n, r) :: st, gr⟩ ⟨xk, xp, xf, xt, xn, xm⟩ = 0
          · rw [htk] at hft
            have hpi2 := take_inv s xp ⟨l, (n, r) :: st, gr⟩ ⟨xk, xp, xf, xt, xn, xm⟩ hpi hft h3 (next_kinds s xp _ hvX).1 (next_kinds s xp _ hvX).2.1 (next_kinds s xp _ hvX).2.2
            rw [readM_step s k xp _ ⟨xk, xp, xf, xt, xn, xm⟩ 0 hlt hft hvX] at hres
            rw [htk] at hTK
            have HNX : Hid (∀ W, RdV w.heap.size (w.heap.size + 1) s xp ⟨l, (n, r) :: st, gr⟩ vN (.slice (some ⟨gL, 0, none⟩) (st.length + 1 : Nat) capL) w W → Calls Tryz.prog 47 #[.pointer (some ⟨w.heap.size + 1, 0, none⟩)] W fun e w' => e = .returned (.tuple #[.agg (woI xk xp xf xt xn xm), .int .i64 0, .int .i64 0]) ∧ RdV w.heap.size (w.heap.size + 1) s xf ⟨l, (n, r) :: st, gr⟩ vN (.slice (some ⟨gL, 0, none⟩) (st.length + 1 : Nat) capL) w w') := Lib.hid hNX
            have HTK : Hid (∀ W, RdV w.heap.size (w.heap.size + 1) s xf ⟨l, (n, r) :: st, gr⟩ vN (.slice (some ⟨gL, 0, none⟩) (st.length + 1 : Nat) capL) w W → Calls Tryz.prog 48 #[.pointer (some ⟨w.heap.size + 1, 0, none⟩), .agg (woI xk xp xf xt xn xm)] W fun e w' => e = .returned (.int .i64 0) ∧ (0 = 0 → ∃ vN' vL', RdV w.heap.size (w.heap.size + 1) s xf (takeP ⟨l, (n, r) :: st, gr⟩ ⟨xk, xp, xf, xt, xn, xm⟩) vN' vL' w w') ∧ ((0 : Nat) ≠ 0 → Below W.heap.size W w')) := Lib.hid hTK
            have HF := Lib.hid (show _ ∧ _ ∧ _ ∧ _ ∧ _ from ⟨hres, hpi2, hbd2, h5, h6⟩)
            clear hres hpi2 hbd2 h5 h6 hNX hTK hft htk h3 hvX hcc hpi hbd
            go_wp2_with (go_at_call 45; refine (HI.out _).mono ?_; rintro e w' ⟨rfl, rfl⟩)
            refine (HNX.out _ HR.out).mono ?_
            rintro e w2 ⟨rfl, hr2⟩
            clear HNX HR HB
            go_upto_region 6 with fail
            have HW := Lib.hid (Blk.new w2 (woI xk xp xf xt xn xm) 91)
            have HR := Lib.hid (hr2.alloc (.cells (woI xk xp xf xt xn xm) 91))
            clear hr2
            generalize w2.alloc (.cells (woI xk xp xf xt xn xm) 91) = w3 at *
            generalize w2.heap.size = gW at *
            have g0 := HW.out.cell 0; have g1 := HW.out.cell 1; have g2 := HW.out.cell 2; have g3 := HW.out.cell 3; have g4 := HW.out.cell 4; have g5 := HW.out.cell 5; have g6 := HW.out.cell 6; have g7 := HW.out.cell 7; have g8 := HW.out.cell 8
            simp only [List.getElem?_toArray, List.getElem?_cons_zero, List.getElem?_cons_succ] at g0 g1 g2 g3 g4 g5 g6 g7 g8
            go_wp2_with fail
            refine (HTK.out _ HR.out).mono ?_
            rintro e w4 ⟨rfl, hr4, _⟩
            obtain ⟨vN2, vL2, hr4⟩ := hr4 trivial
            clear HTK HR HW g0 g1 g2 g3 g4 g5 g6 g7 g8
            have HR := Lib.hid hr4
            have cA := hr4.c.2.1
            clear hr4
            go_wp2_with fail
            go_roundw
            case rel =>
              obtain ⟨q1, q2, q3, q4, q5⟩ := HF.out
              exact ⟨k, xf, _, vN2, vL2, q5, by omega, q1, q2, q3, HR.out⟩
            case measure =>
              obtain ⟨_, _, _, q4, _⟩ := HF.out
              rw [cA, HC1.out]
              simp [intOf]; omega
          · have hfn : firstP ⟨l, (n, r) :: st, gr⟩ (bt s xp) ≠ 0 := by rw [hft]; exact htk
            rw [readM_first s k xp _ _ hlt hft htk] at hres
            have qe : ((tkE ⟨l, (n, r) :: st, gr⟩ ⟨xk, xp, xf, xt, xn, xm⟩ : Int) != 0) = true := by rw [bne_iff_ne]; omega
            have HNE := Lib.hid htk
            generalize tkE ⟨l, (n, r) :: st, gr⟩ ⟨xk, xp, xf, xt, xn, xm⟩ = TE at *
            have HNX : Hid (∀ W, RdV w.heap.size (w.heap.size + 1) s xp ⟨l, (n, r) :: st, gr⟩ vN (.slice (some ⟨gL, 0, none⟩) (st.length + 1 : Nat) capL) w W → Calls Tryz.prog 47 #[.pointer (some ⟨w.heap.size + 1, 0, none⟩)] W fun e w' => e = .returned (.tuple #[.agg (woI xk xp xf xt xn xm), .int .i64 0, .int .i64 0]) ∧ RdV w.heap.size (w.heap.size + 1) s xf ⟨l, (n, r) :: st, gr⟩ vN (.slice (some ⟨gL, 0, none⟩) (st.length + 1 : Nat) capL) w w') := Lib.hid hNX
            have HTK : Hid (∀ W, RdV w.heap.size (w.heap.size + 1) s xf ⟨l, (n, r) :: st, gr⟩ vN (.slice (some ⟨gL, 0, none⟩) (st.length + 1 : Nat) capL) w W → Calls Tryz.prog 48 #[.pointer (some ⟨w.heap.size + 1, 0, none⟩), .agg (woI xk xp xf xt xn xm)] W fun e w' => e = .returned (.int .i64 TE) ∧ (TE = 0 → ∃ vN' vL', RdV w.heap.size (w.heap.size + 1) s xf (takeP ⟨l, (n, r) :: st, gr⟩ ⟨xk, xp, xf, xt, xn, xm⟩) vN' vL' w w') ∧ (TE ≠ 0 → Below W.heap.size W w')) := Lib.hid hTK
            have HRS := Lib.hid hres
            clear hres hbd2 h5 h6 hNX hTK hft htk h3 hvX hcc hpi hbd hfn
            go_wp2_with (go_at_call 45; refine (HI.out _).mono ?_; rintro e w' ⟨rfl, rfl⟩)
            refine (HNX.out _ HR.out).mono ?_
            rintro e w2 ⟨rfl, hr2⟩
            clear HNX HR HB
            go_upto_region 6 with fail
            have HW := Lib.hid (Blk.new w2 (woI xk xp xf xt xn xm) 91)
            have HR := Lib.hid (hr2.alloc (.cells (woI xk xp xf xt xn xm) 91))
            clear hr2
            generalize w2.alloc (.cells (woI xk xp xf xt xn xm) 91) = w3 at *
            generalize w2.heap.size = gW at *
            have g0 := HW.out.cell 0; have g1 := HW.out.cell 1; have g2 := HW.out.cell 2; have g3 := HW.out.cell 3; have g4 := HW.out.cell 4; have g5 := HW.out.cell 5; have g6 := HW.out.cell 6; have g7 := HW.out.cell 7; have g8 := HW.out.cell 8
            simp only [List.getElem?_toArray, List.getElem?_cons_zero, List.getElem?_cons_succ] at g0 g1 g2 g3 g4 g5 g6 g7 g8
            go_wp2_with fail
            refine (HTK.out _ HR.out).mono ?_
            rintro e w4 ⟨rfl, _, hb4⟩
            replace hb4 := hb4 HNE.out
            have hw4 := HW.out.below hb4 HW.out.lt
            have HB4 := Lib.hid ((HR.out.below hb4).bel)
            clear HTK HR HW g0 g1 g2 g3 g4 g5 g6 g7 g8 hb4
            have g1 := hw4.cell 1
            simp only [List.getElem?_toArray, List.getElem?_cons_zero, List.getElem?_cons_succ] at g1
            clear hw4
            go_wp2_with fail
            go_quiet (fail)
            go_wp2_with fail
            rw [← HRS.out]
            exact bodyPost_ret (v := .tuple #[.pointer none, .int .i64 TE, .int .i64 ((xp : Int) + 1)]) (by simp [results, Tryz.results27, go_sem] <;> rfl) rfl (.inl ⟨HNE.out, rfl, below_drN HB4.out _⟩)
        · simp only at h1
          have hft := first_err s a ⟨l, (n, r) :: st, gr⟩ n r st _ er pl rfl hvX h1 hcc
          rw [readM_err s k a _ _ er pl hlt hft hvX h1] at hres
          have hNX := fun W (h : RdV w.heap.size (w.heap.size + 1) s a ⟨l, (n, r) :: st, gr⟩ vN (.slice (some ⟨gL, 0, none⟩) (st.length + 1 : Nat) capL) w W) => pnext_calls hs xk xp xf xt xn xm er pl (by rw [← (next_in s a hlt).1]; exact hvX) W h
          simp only [if_neg h1] at hNX
          have HNX : Hid (∀ W, RdV w.heap.size (w.heap.size + 1) s a ⟨l, (n, r) :: st, gr⟩ vN (.slice (some ⟨gL, 0, none⟩) (st.length + 1 : Nat) capL) w W → Calls Tryz.prog 47 #[.pointer (some ⟨w.heap.size + 1, 0, none⟩)] W fun e w' => e = .returned (.tuple #[.agg (woI xk xp xf xt xn xm), .int .i64 er, .int .i64 pl]) ∧ RdV w.heap.size (w.heap.size + 1) s a ⟨l, (n, r) :: st, gr⟩ vN (.slice (some ⟨gL, 0, none⟩) (st.length + 1 : Nat) capL) w w') := Lib.hid hNX
          have qe : ((er : Int) != 0) = true := by rw [bne_iff_ne]; omega
          have HNE := Lib.hid h1
          have HRS := Lib.hid hres
          clear hres hNX hft h1 hvX hcc hpi hbd
          go_wp2_with (go_at_call 45; refine (HI.out _).mono ?_; rintro e w' ⟨rfl, rfl⟩)
          refine (HNX.out _ HR.out).mono ?_
          rintro e w2 ⟨rfl, hr2⟩
          clear HNX HR HB
          have HB2 := Lib.hid hr2.bel
          have hsz := hr2.size
          clear hr2
          go_wp2_with fail
          rw [← HRS.out]
          exact bodyPost_ret (v := .tuple #[.pointer none, .int .i64 er, .int .i64 pl]) (by simp [results, Tryz.results27, go_sem] <;> rfl) rfl (.inl ⟨HNE.out, rfl, HB2.out.alloc hsz _⟩)
    · obtain rfl : a = s.size := by omega
      rw [readM_end] at hres
      subst hres
      have HR := Lib.hid hr
      have HF := Lib.hid (show _ ∧ _ from ⟨hpi.1, hbd⟩)
      clear hpi hbd hr
      go_wp2_with fail
      exact bodyPost_ret (v := .tuple #[.pointer (some ⟨w.heap.size + 1, 0, none⟩), .int .i64 0, .int .i64 0]) (by simp [results, Tryz.results27, go_sem] <;> rfl) rfl (.inr ⟨rfl, _, _, _, _, rfl, HR.out, HF.out.2, HF.out.1⟩)
end Go.Proofs.YtbccojjcdcighaaGreatDoor

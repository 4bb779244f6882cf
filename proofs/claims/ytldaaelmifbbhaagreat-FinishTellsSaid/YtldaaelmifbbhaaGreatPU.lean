/- Texts put together: Ws Jf Jg Hl Hm Jh. -/
import Derived.Test.YtldaaelmifbbhaaGreatPT
import Derived.Test.YtldaaelmifbbhaaGreatPO
import Derived.Test.YtldaaelmifbbhaaGreatPB
import Derived.Test.YtldaaelmifbbhaaGreatPC
import Derived.Test.YtldaaelmifbbhaaGreatPR
import Derived.Test.YtldaaelmifbbhaaGreatPM
import Derived.Deep.RegionHeld3
/- The developers' words: read at any place, Next, Lack, Text. -/
namespace Go.Proofs.YtldaaelmifbbhaaGreat
open Go.RowKit Go.Shelf BS

theorem next_in (s : ByteArray) (a : Nat) (ha : a < s.size) : nextA s a = nextN s a ∧ lackA s a = lackG5 s a := by
  unfold nextN lackG5
  rw [if_neg (by omega), if_neg (by omega)]
  exact ⟨rfl, rfl⟩
theorem next_far (s : ByteArray) (at' : Int) (h : at' < 0 ∨ (s.size : Int) ≤ at') : nextN s at' = (zWN, 1, 0) ∧ lackG5 s at' = eT := by
  unfold nextN lackG5
  rw [if_pos h, if_pos h]
  exact ⟨rfl, rfl⟩
set_option maxRecDepth 100000 in
set_option maxHeartbeats 8000000 in
theorem read5_calls (s : ByteArray) (hs : s.size ≤ 1000000) (at' : Int) (w : World) : Calls Tryz.prog 26 #[.string s, .int .i64 at'] w fun en w' => en = .returned (.agg (rgA (nextN s at') (lackG5 s at'))) ∧ Below w.heap.size w w' := by
  by_cases hin : 0 ≤ at' ∧ at' < s.size
  · obtain ⟨a, rfl⟩ := Int.eq_ofNat_of_zero_le hin.1
    have h := next_in s a (by omega)
    rw [← h.1, ← h.2]
    exact read5_in s hs a (by omega) w
  have hfar := next_far s at' (by omega)
  rw [hfar.1, hfar.2]
  have HF := Lib.hid (fun w => fault5_calls 1 0 w)
  have HR := Lib.hid (Blk.new w (rgZ 0 0 0 0 0 0 0 eT) 61)
  have HB : Hid (Below w.heap.size w (w.alloc (.cells (rgZ 0 0 0 0 0 0 0 eT) 61))) := Lib.hid (by go_grown)
  have hz : w.heap.size + 1 ≤ (w.alloc (.cells (rgZ 0 0 0 0 0 0 0 eT) 61)).heap.size := by simp
  go_enter Tryz.func26, Tryz.ntmps26
  go_upto_region 1 with fail
  have e0 : w.alloc (.cells #[.int .i64 0, .int .i64 0, .int .i64 0, .int .u64 0, .int .u64 0, .int .u64 0, .int .u64 0, .int .i64 0, .int .i64 0, .int .i64 0, .int .i64 0, .string ⟨#[]⟩] 61) = w.alloc (.cells (rgZ 0 0 0 0 0 0 0 eT) 61) := rfl
  try rw [e0]
  clear e0
  generalize w.alloc (.cells (rgZ 0 0 0 0 0 0 0 eT) 61) = w1 at *
  by_cases hneg : at' < 0
  · have q : decide (at' < 0) = true := by simpa using hneg
    clear hin hfar hneg
    go_wp2_with fail
    refine (HF.out _).mono ?_
    rintro en w2 ⟨rfl, hb⟩
    replace HR := Lib.hid (HR.out.below hb (Blk.lt HR.out))
    replace HB := Lib.hid (HB.out.trans (hb.mono (by omega)))
    replace hz := Nat.le_trans hz hb.size
    clear hb HF
    go_wp2_with ((with_reducible refine wpList_store_st (o := ⟨none, .store 61 _ _, _, _, _, _⟩) rfl 61 _ _ rfl w.heap.size rfl rfl (run_storeAt_row _ w.heap.size 61 61 (rgZ 0 0 0 0 0 0 0 eT) (rgZ 0 0 0 0 0 1 0 eT) ?_ ?_ ?_ ?_) ?_); exact HR.out; exact infoRg; rfl; exact rg_one _ _ _ 0 _ _ _ _ _)
    exact bodyPost_ret (v := .agg (rgZ 0 0 0 0 0 1 0 eT)) (results_cell_row rfl _ _ w.heap.size 61 (rgZ 0 0 0 0 0 1 0 eT) (0, 0) _ rfl (Blk.setRow HR.out) Tryz.underlying61 rfl infoRg) rfl ⟨by rw [rgZ_eq]; rfl, below_row HB.out (Nat.le_refl _) _⟩
  · have q : decide (at' < 0) = false := by rw [decide_eq_false_iff_not]; omega
    have q1 : decide ((s.size : Int) ≤ at') = true := by rw [decide_eq_true_iff]; omega
    clear hin hfar hneg
    go_wp2_with fail
    refine (HF.out _).mono ?_
    rintro en w2 ⟨rfl, hb⟩
    replace HR := Lib.hid (HR.out.below hb (Blk.lt HR.out))
    replace HB := Lib.hid (HB.out.trans (hb.mono (by omega)))
    replace hz := Nat.le_trans hz hb.size
    clear hb HF
    go_wp2_with ((with_reducible refine wpList_store_st (o := ⟨none, .store 61 _ _, _, _, _, _⟩) rfl 61 _ _ rfl w.heap.size rfl rfl (run_storeAt_row _ w.heap.size 61 61 (rgZ 0 0 0 0 0 0 0 eT) (rgZ 0 0 0 0 0 1 0 eT) ?_ ?_ ?_ ?_) ?_); exact HR.out; exact infoRg; rfl; exact rg_one _ _ _ 0 _ _ _ _ _)
    exact bodyPost_ret (v := .agg (rgZ 0 0 0 0 0 1 0 eT)) (results_cell_row rfl _ _ w.heap.size 61 (rgZ 0 0 0 0 0 1 0 eT) (0, 0) _ rfl (Blk.setRow HR.out) Tryz.underlying61 rfl infoRg) rfl ⟨by rw [rgZ_eq]; rfl, below_row HB.out (Nat.le_refl _) _⟩
set_option maxRecDepth 100000 in
set_option maxHeartbeats 8000000 in
theorem lack5_dev (s : ByteArray) (hs : s.size ≤ 1000000) (at' : Int) (w : World) : Calls Tryz.prog 17 #[.string s, .int .i64 at'] w fun en w' => en = .returned (.string (lackG5 s at')) ∧ Below w.heap.size w w' := by
  have HW := read5_calls s hs at'
  generalize lackG5 s at' = l at *
  generalize nextN s at' = X at *
  obtain ⟨⟨k, p, e, t, n, m⟩, er, pl⟩ := X
  have hfi : ∀ w', (Instr.field 61 (.agg (rgI k p e t n m er pl l)) 3).run Tryz.prog w' = .ok (.string l) w' := fun w' => by kernel_rfl
  replace HW : Hid (∀ w, Calls Tryz.prog 26 #[.string s, .int .i64 at'] w fun en w' => en = .returned (.agg (rgI k p e t n m er pl l)) ∧ Below w.heap.size w w') := Lib.hid HW
  go_enter Tryz.func17, Tryz.ntmps17
  go_wp2_with fail
  refine (HW.out _).mono ?_
  rintro en w2 ⟨rfl, hb⟩
  clear HW
  go_wp2_with fail
  go_ret
  exact ⟨rfl, hb⟩

/-! ### Next -/
theorem Blk.otherRow {W : World} {B B' : Nat} {vs cs : Array Value} {t : TypeId} (h : Blk W B vs t) (hne : B' ≠ B) : Blk (W.setRow B' cs) B vs t := by
  show (W.heap.modify B' _)[B]? = _
  rw [Array.getElem?_modify]
  rw [if_neg hne]
  exact h
def SN5 (w : World) (B : Nat) (d c : Array Value) (W : World) : Prop := (Blk W w.heap.size d 40 ∧ Blk W B c 61 ∧ w.heap.size + 1 ≤ B) ∧ Below w.heap.size w W
theorem SN5.drewS {w W : World} {B : Nat} {d c : Array Value} (h : SN5 w B d c W) : SN5 w B d c W.drew := ⟨⟨h.1.1, h.1.2.1, h.1.2.2⟩, h.2.drew⟩
theorem SN5.store {w W : World} {B : Nat} {d c : Array Value} (h : SN5 w B d c W) (cs : Array Value) : SN5 w B cs c (W.setRow w.heap.size cs) :=
  ⟨⟨Blk.setRow h.1.1, h.1.2.1.otherRow (by have := h.1.2.2; omega), h.1.2.2⟩, below_row h.2 (Nat.le_refl _) _⟩
@[reducible] def woZ : Array Value := #[.int .i64 0, .int .i64 0, .int .i64 0, .int .u64 0, .int .u64 0, .int .u64 0, .int .u64 0, .int .i64 0, .int .i64 0]
set_option maxRecDepth 100000 in
set_option maxHeartbeats 8000000 in
theorem next5_dev (s : ByteArray) (hs : s.size ≤ 1000000) (at' : Int) (w : World) : Calls Tryz.prog 15 #[.string s, .int .i64 at'] w fun en w' => en = .returned (.tuple #[.agg (woA (nextN s at').1), .int .i64 (nextN s at').2.1, .int .i64 (nextN s at').2.2]) ∧ Below w.heap.size w w' := by
  have HR := Lib.hid (Blk.new w woZ 40)
  have HB : Hid (Below w.heap.size w (w.alloc (.cells woZ 40))) := Lib.hid (by go_grown)
  have hz : w.heap.size + 1 ≤ (w.alloc (.cells woZ 40)).heap.size := by simp
  have HW := read5_calls s hs at'
  generalize lackG5 s at' = l at *
  generalize nextN s at' = X at *
  obtain ⟨⟨k, p, e, t, n, m⟩, er, pl⟩ := X
  replace HW : Hid (∀ w, Calls Tryz.prog 26 #[.string s, .int .i64 at'] w fun en w' => en = .returned (.agg (rgI k p e t n m er pl l)) ∧ Below w.heap.size w w') := Lib.hid HW
  show Calls Tryz.prog 15 #[.string s, .int .i64 at'] w fun en w' => en = .returned (.tuple #[.agg (woI k p e t n m), .int .i64 er, .int .i64 pl]) ∧ Below w.heap.size w w'
  go_enter Tryz.func15, Tryz.ntmps15
  go_upto_region 1 with fail
  have e0 : w.alloc (.cells #[.int .i64 0, .int .i64 0, .int .i64 0, .int .u64 0, .int .u64 0, .int .u64 0, .int .u64 0, .int .i64 0, .int .i64 0] 40) = w.alloc (.cells woZ 40) := rfl
  try rw [e0]
  clear e0
  generalize w.alloc (.cells woZ 40) = w1 at *
  go_wp2_with fail
  refine (HW.out _).mono ?_
  rintro en w2 ⟨rfl, hb⟩
  replace HR := Lib.hid (HR.out.below hb (Blk.lt HR.out))
  replace HB := Lib.hid (HB.out.trans (hb.mono (by omega)))
  replace hz := Nat.le_trans hz hb.size
  clear hb HW
  go_upto_region 2 with fail
  have HP := Lib.hid (Blk.new w2 (rgI k p e t n m er pl l) 61)
  replace HR := Lib.hid (HR.out.alloc (.cells (rgI k p e t n m er pl l) 61))
  replace HB := Lib.hid (HB.out.alloc (by omega) (.cells (rgI k p e t n m er pl l) 61))
  generalize w2.alloc (.cells (rgI k p e t n m er pl l) 61) = w3 at *
  generalize w2.heap.size = B at *
  have H0 := Lib.hid (show SN5 w B woZ (rgI k p e t n m er pl l) w3 from ⟨⟨HR.out, HP.out, hz⟩, HB.out⟩)
  clear HR HB HP hz
  refine region_stepsL (S0 := SN5 w B woZ (rgI k p e t n m er pl l)) (S1 := SN5 w B (woI k p e t n m) (rgI k p e t n m er pl l)) (m := 6) (by kernel_rfl) (by kernel_rfl) (SN5.drewS H0.out) ?_
  clear H0
  simp only [List.size_toArray, List.length_cons, List.length_nil, Nat.reduceAdd, Array.replicate_succ, Array.replicate_zero, List.push_toArray, List.nil_append, List.cons_append]
  refine AnyL.next (m := 6) (i := 0) (d := some 11) (v := .pointer (some ⟨B, 0, none⟩)) rfl rfl (by kernel_rfl) (by kernel_rfl) (by kernel_rfl) (by kernel_rfl) (StepsIf.yield (by kernel_rfl) (fun w' hS => by clear hS; go_simp)) ?_
  intro a' ha'
  simp only [Act.put, List.setIfInBounds_toArray, List.set_cons_zero, List.set_cons_succ] at ha'
  subst ha'
  refine AnyL.next (m := 6) (i := 1) (d := some 12) (v := .agg (woI k p e t n m)) rfl rfl (by kernel_rfl) (by kernel_rfl) (by kernel_rfl) (by kernel_rfl) (StepsIf.yield (by kernel_rfl) (fun w' hS => by have c0 := hS.1.2.1.cell 0; have c1 := hS.1.2.1.cell 1; have c2 := hS.1.2.1.cell 2; have c3 := hS.1.2.1.cell 3; have c4 := hS.1.2.1.cell 4; have c5 := hS.1.2.1.cell 5; have c6 := hS.1.2.1.cell 6; have c7 := hS.1.2.1.cell 7; have c8 := hS.1.2.1.cell 8; simp only [List.getElem?_toArray, List.getElem?_cons_zero, List.getElem?_cons_succ] at c0 c1 c2 c3 c4 c5 c6 c7 c8; clear hS; go_simp)) ?_
  intro a' ha'
  simp only [Act.put, List.setIfInBounds_toArray, List.set_cons_zero, List.set_cons_succ] at ha'
  subst ha'
  refine AnyL.both (m := 6) (i := 2) (d := some 13) (v := .pointer (some ⟨B, 9, none⟩)) rfl rfl (by kernel_rfl) (by kernel_rfl) (by kernel_rfl) (by kernel_rfl) (StepsIf.yield (by kernel_rfl) (fun w' hS => by clear hS; go_simp)) (StepsIf.yield (by kernel_rfl) (fun w' hS => by clear hS; go_simp)) ?_
  intro a' ha'
  simp only [Act.put, List.setIfInBounds_toArray, List.set_cons_zero, List.set_cons_succ] at ha'
  subst ha'
  refine AnyL.both (m := 6) (i := 3) (d := some 14) (v := .int .i64 er) rfl rfl (by kernel_rfl) (by kernel_rfl) (by kernel_rfl) (by kernel_rfl) (StepsIf.yield (by kernel_rfl) (fun w' hS => by have c9 := hS.1.2.1.cell 9; simp only [List.getElem?_toArray, List.getElem?_cons_zero, List.getElem?_cons_succ] at c9; clear hS; go_simp)) (StepsIf.yield (by kernel_rfl) (fun w' hS => by have c9 := hS.1.2.1.cell 9; simp only [List.getElem?_toArray, List.getElem?_cons_zero, List.getElem?_cons_succ] at c9; clear hS; go_simp)) ?_
  intro a' ha'
  simp only [Act.put, List.setIfInBounds_toArray, List.set_cons_zero, List.set_cons_succ] at ha'
  subst ha'
  refine AnyL.both (m := 6) (i := 4) (d := some 15) (v := .pointer (some ⟨B, 10, none⟩)) rfl rfl (by kernel_rfl) (by kernel_rfl) (by kernel_rfl) (by kernel_rfl) (StepsIf.yield (by kernel_rfl) (fun w' hS => by clear hS; go_simp)) (StepsIf.yield (by kernel_rfl) (fun w' hS => by clear hS; go_simp)) ?_
  intro a' ha'
  simp only [Act.put, List.setIfInBounds_toArray, List.set_cons_zero, List.set_cons_succ] at ha'
  subst ha'
  refine AnyL.both (m := 6) (i := 5) (d := some 16) (v := .int .i64 pl) rfl rfl (by kernel_rfl) (by kernel_rfl) (by kernel_rfl) (by kernel_rfl) (StepsIf.yield (by kernel_rfl) (fun w' hS => by have c10 := hS.1.2.1.cell 10; simp only [List.getElem?_toArray, List.getElem?_cons_zero, List.getElem?_cons_succ] at c10; clear hS; go_simp)) (StepsIf.yield (by kernel_rfl) (fun w' hS => by have c10 := hS.1.2.1.cell 10; simp only [List.getElem?_toArray, List.getElem?_cons_zero, List.getElem?_cons_succ] at c10; clear hS; go_simp)) ?_
  intro a' ha'
  simp only [Act.put, List.setIfInBounds_toArray, List.set_cons_zero, List.set_cons_succ] at ha'
  subst ha'
  refine AnyL.store (m := 6) (d := none) (v := undef) rfl rfl (by kernel_rfl) (by kernel_rfl) (by kernel_rfl) (fun w' hS K Q hK => by exact wp_store_row 40 _ _ rfl w.heap.size rfl rfl (run_storeAt_row _ w.heap.size 40 40 woZ (woI k p e t n m) hS.1.1 infoWo rfl (wo_one _ _ _ _ _ _)) (hK _ (SN5.store hS _))) ?_
  intro a' ha'
  simp only [Act.put] at ha'
  subst ha'
  refine AnyL.after (m := 6) (i := 7) (d := some 5) (v := .int .i64 er) rfl rfl (by kernel_rfl) (by kernel_rfl) (by kernel_rfl) (by kernel_rfl) (StepsIf.yield (by kernel_rfl) (fun w' hS => by clear hS; go_simp)) ?_
  intro a' ha'
  simp only [Act.put, List.setIfInBounds_toArray, List.set_cons_zero, List.set_cons_succ] at ha'
  subst ha'
  refine AnyL.after (m := 6) (i := 8) (d := some 6) (v := .int .i64 pl) rfl rfl (by kernel_rfl) (by kernel_rfl) (by kernel_rfl) (by kernel_rfl) (StepsIf.yield (by kernel_rfl) (fun w' hS => by clear hS; go_simp)) ?_
  intro a' ha'
  simp only [Act.put, List.setIfInBounds_toArray, List.set_cons_zero, List.set_cons_succ] at ha'
  subst ha'
  refine AnyL.done (by kernel_rfl) (by kernel_rfl) (fun w' hS => ?_) _
  have hR := hS.1.1
  have hB := hS.2
  clear hS
  go_wp2_with fail
  exact bodyPost_ret (v := .tuple #[.agg (woI k p e t n m), .int .i64 er, .int .i64 pl]) (results_cell2 Tryz.results15 _ _ w.heap.size 40 (woI k p e t n m) (0, 0) _ rfl hR Tryz.underlying40 rfl infoWo) rfl ⟨rfl, hB⟩

/-! ### Text -/
theorem cnt_el (g : Nat → Bool) : ∀ k, cnt g k = (el g k).length
  | 0 => rfl
  | k + 1 => by
    have h : el g (k + 1) = el g k ++ (if g k then [k] else []) := by
      unfold el
      rw [List.range_succ, List.filter_append]
      congr 1
      cases hg : g k <;> simp [hg]
    rw [cnt, cnt_el g k, h, List.length_append]
    cases g k <;> rfl
theorem any_len (t : BitVec 256) : t = ~~~0 ↔ (el t.getLsbD 256).length = 256 := by
  constructor
  · rintro rfl
    decide +kernel
  · intro h
    have hf : ∀ x ∈ List.range 256, t.getLsbD x = true := by
      have e : (el t.getLsbD 256).length = (List.range 256).length := by rw [h, List.length_range]
      unfold el at e
      exact List.length_filter_eq_length_iff.1 e
    apply BitVec.eq_of_getLsbD_eq
    intro i hi
    rw [hf i (List.mem_range.2 hi)]
    symm
    rw [BitVec.getLsbD_not]
    simp [hi]
theorem next_el (t : BitVec 256) (b : Nat) (l : List Nat) (h : el t.getLsbD 256 = b :: l) : nextOf t.getLsbD 0 = b := by
  have hf : (List.range 256).find? (fun j => decide (0 ≤ j) && t.getLsbD j) = some b := by
    have e : (fun j => decide (0 ≤ j) && t.getLsbD j) = t.getLsbD := by funext j; simp
    rw [e]
    have := List.head?_filter (p := t.getLsbD) (l := List.range 256)
    rw [← this]
    unfold el at h
    rw [h]; rfl
  unfold nextOf
  rw [hf]
theorem textW_cases (t : BitVec 256) : (t = ~~~0 ∧ textW t = [46]) ∨ (t ≠ ~~~0 ∧ cnt t.getLsbD 256 = 1 ∧ ∃ b : Nat, b < 256 ∧ nextOf t.getLsbD 0 = b ∧ textW t = textB b) ∨ (t ≠ ~~~0 ∧ cnt t.getLsbD 256 ≠ 1 ∧ textW t = textT t) := by
  have h1 := any_len t
  have h2 := cnt_el t.getLsbD 256
  have h3 := next_el t
  have h4 : ∀ b l, el t.getLsbD 256 = b :: l → b < 256 := fun b l h => by
    have : b ∈ el t.getLsbD 256 := by rw [h]; exact List.mem_cons_self ..
    unfold el at this
    simp at this
    exact this.1
  unfold textW
  by_cases hA : (el t.getLsbD 256).length = 256
  · exact .inl ⟨h1.2 hA, by rw [if_pos hA]⟩
  by_cases hO : (el t.getLsbD 256).length = 1
  · obtain ⟨b, hb⟩ := List.length_eq_one_iff.1 hO
    refine .inr (.inl ⟨fun h => hA (h1.1 h), by rw [h2, hO], b, h4 b [] hb, h3 b [] hb, ?_⟩)
    rw [if_neg hA, if_neg (by omega), hb]
    rfl
  · exact .inr (.inr ⟨fun h => hA (h1.1 h), by rw [h2]; exact hO, by rw [if_neg hA, if_pos hO]⟩)
end Go.Proofs.YtldaaelmifbbhaaGreat

/- The developers' reading: next. Stage 7. -/
namespace Go.Proofs.YtldaaelmifbbhaaGreat
open Go.RowKit BS

@[reducible] def set9 (W : World) (B : Nat) (b0 b1 b2 b3 b4 b5 b6 b7 b8 : Value) : World :=
  ((((((((W.setCell ⟨B, 0, none⟩ b0).setCell ⟨B, 1, none⟩ b1).setCell ⟨B, 2, none⟩ b2).setCell ⟨B, 3, none⟩ b3).setCell ⟨B, 4, none⟩ b4).setCell ⟨B, 5, none⟩ b5).setCell ⟨B, 6, none⟩ b6).setCell ⟨B, 7, none⟩ b7).setCell ⟨B, 8, none⟩ b8
theorem Blk.set9 {W : World} {B : Nat} {a0 a1 a2 a3 a4 a5 a6 a7 a8 : Value} {T : TypeId} (h : Blk W B #[a0, a1, a2, a3, a4, a5, a6, a7, a8] T) (b0 b1 b2 b3 b4 b5 b6 b7 b8 : Value) : Blk (_root_.Go.Proofs.YtldaaelmifbbhaaGreat.set9 W B b0 b1 b2 b3 b4 b5 b6 b7 b8) B #[b0, b1, b2, b3, b4, b5, b6, b7, b8] T := by
  have := ((((((((h.set 0 b0).set 1 b1).set 2 b2).set 3 b3).set 4 b4).set 5 b5).set 6 b6).set 7 b7).set 8 b8
  simpa using this
theorem RdV.other {base R : Nat} {s : ByteArray} {a : Nat} {x : PS} {vN vL : Value} {w0 w : World} (h : RdV base R s a x vN vL w0 w) {g : Nat} (hg : base ≤ g) (hR : R ≠ g) (hN : vN.ownBlock ≠ some g) (hL : vL.ownBlock ≠ some g) (i : Nat) (v : Value) : RdV base R s a x vN vL w0 (w.setCell ⟨g, i, none⟩ v) :=
  ⟨h.blk.other hR _ _, owns_keep h.nodes fun _ hk => Below.heap_setCell _ _ _ _ (fun e => hN (by rw [hk, e])), owns_keep h.levels fun _ hk => Below.heap_setCell _ _ _ _ (fun e => hL (by rw [hk, e])), h.nR, h.lR, h.nl, h.bR, below_set h.bel hg _ _⟩
theorem RdV.other9 {base R : Nat} {s : ByteArray} {a : Nat} {x : PS} {vN vL : Value} {w0 w : World} (h : RdV base R s a x vN vL w0 w) {g : Nat} (hg : base ≤ g) (hR : R ≠ g) (hN : vN.ownBlock ≠ some g) (hL : vL.ownBlock ≠ some g) (b0 b1 b2 b3 b4 b5 b6 b7 b8 : Value) : RdV base R s a x vN vL w0 (set9 w g b0 b1 b2 b3 b4 b5 b6 b7 b8) :=
  (((((((((h.other hg hR hN hL _ _).other hg hR hN hL _ _).other hg hR hN hL _ _).other hg hR hN hL _ _).other hg hR hN hL _ _).other hg hR hN hL _ _).other hg hR hN hL _ _).other hg hR hN hL _ _).other hg hR hN hL _ _)
theorem Blk.other9 {W : World} {B g : Nat} {vs : Array Value} {T : TypeId} (h : Blk W B vs T) (hne : B ≠ g) (b0 b1 b2 b3 b4 b5 b6 b7 b8 : Value) : Blk (_root_.Go.Proofs.YtldaaelmifbbhaaGreat.set9 W g b0 b1 b2 b3 b4 b5 b6 b7 b8) B vs T :=
  ((((((((h.other hne _ _).other hne _ _).other hne _ _).other hne _ _).other hne _ _).other hne _ _).other hne _ _).other hne _ _).other hne _ _
theorem row_kept (W : World) (B : Nat) (cs : Array Value) (k : Nat) (h : k ≠ B) : (W.setRow B cs).heap[k]? = W.heap[k]? := by
  show (W.heap.modify B _)[k]? = _
  rw [Array.getElem?_modify, if_neg (Ne.symm h)]
theorem RdV.rowOther {base R : Nat} {s : ByteArray} {a : Nat} {x : PS} {vN vL : Value} {w0 w : World} (h : RdV base R s a x vN vL w0 w) {g : Nat} (hg : base ≤ g) (hR : R ≠ g) (hN : vN.ownBlock ≠ some g) (hL : vL.ownBlock ≠ some g) (cs : Array Value) : RdV base R s a x vN vL w0 (w.setRow g cs) :=
  ⟨(row_kept w g cs R hR).trans h.blk, owns_keep h.nodes fun _ hk => row_kept _ _ _ _ (fun e => hN (by rw [hk, e])), owns_keep h.levels fun _ hk => row_kept _ _ _ _ (fun e => hL (by rw [hk, e])), h.nR, h.lR, h.nl, h.bR, below_row h.bel hg _⟩
set_option maxRecDepth 100000 in
set_option maxHeartbeats 8000000 in
theorem pnext_calls {base R : Nat} {s : ByteArray} (hs : s.size ≤ 1000000) {a : Nat} {x : PS} {vN vL : Value} {w0 : World} (k p e' : Nat) (t : BitVec 256) (n : Nat) (m : Int) (er pl : Nat) (hX : nextN s a = (⟨k, p, e', t, n, m⟩, er, pl)) (w : World) (h : RdV base R s a x vN vL w0 w) :
    Calls Tryz.prog 40 #[.pointer (some ⟨R, 0, none⟩)] w fun e w' => e = .returned (.tuple #[.agg (woI k p e' t n m), .int .i64 er, .int .i64 pl]) ∧
      RdV base R s (if er = 0 then e' else a) x vN vL w0 w' := by
  have hn := next5_dev s hs a
  rw [hX] at hn
  have HN : Hid (∀ w, Calls Tryz.prog 15 #[.string s, .int .i64 a] w fun en w' => en = .returned (.tuple #[.agg (woI k p e' t n m), .int .i64 er, .int .i64 pl]) ∧ Below w.heap.size w w') := Lib.hid hn
  clear hn hX
  have hB := Blk.new w woZ 40
  have hr := h.alloc (.cells woZ 40)
  have hRB : R < w.heap.size := h.blk.lt
  have hN0 : vN.ownBlock ≠ some w.heap.size := fun e => by have := owns_lt h.nodes e; omega
  have hL0 : vL.ownBlock ≠ some w.heap.size := fun e => by have := owns_lt h.levels e; omega
  have hb0 := h.size
  clear h
  go_enter Tryz.func40, Tryz.ntmps40
  go_upto_region 1 with fail
  have e0 : w.alloc (.cells #[.int .i64 0, .int .i64 0, .int .i64 0, .int .u64 0, .int .u64 0, .int .u64 0, .int .u64 0, .int .i64 0, .int .i64 0] 40) = w.alloc (.cells woZ 40) := rfl
  try rw [e0]
  clear e0
  generalize w.alloc (.cells woZ 40) = w1 at *
  generalize w.heap.size = B0 at *
  have cR0 := hr.c.1
  have cR1 := hr.c.2.1
  have HR := Lib.hid hr
  have HB := Lib.hid hB
  have n0 := World.new_ne w1 ⟨R, 0, none⟩ cR0
  have n1 := World.new_ne w1 ⟨R, 1, none⟩ cR1
  have hlt := hr.blk.lt
  have hN1 : vN.ownBlock ≠ some w1.heap.size := fun e => by have := owns_lt hr.nodes e; omega
  have hL1 : vL.ownBlock ≠ some w1.heap.size := fun e => by have := owns_lt hr.levels e; omega
  have hB1 := hB.lt
  have hbs := hr.size
  clear hr hB
  go_cut [5, 6, 7] from 8 to 20 (fun v5 v6 v7 wx => ∃ g : Nat, v5 = .pointer (some ⟨g, 0, none⟩) ∧ v6 = .int .i64 er ∧ v7 = .int .i64 pl ∧ RdV base R s a x vN vL w0 wx ∧ Blk wx B0 woZ 40 ∧ Blk wx g (woI k p e' t n m) 40 ∧ B0 ≠ g ∧ R ≠ g ∧ base ≤ g)
  case first =>
    go_region_held3 (fun w' => w'.cell? ⟨R, 0, none⟩ = some (.string s) ∧ w'.cell? ⟨R, 1, none⟩ = some (.int .i64 a))
      (first
        | go_keep
        | exact ⟨k0, k1⟩
        | exact ⟨((hb.alloc hb.size _).cell (p := ⟨R, 0, none⟩) hlt).trans cR0, ((hb.alloc hb.size _).cell (p := ⟨R, 1, none⟩) hlt).trans cR1⟩
        | (go_split_ands; refine ⟨by go_keep, by go_keep⟩))
      ((go_at_call 15; refine (HN.out _).mono ?_; rintro en w3 ⟨rfl, hb⟩
        have k0 : w3.cell? ⟨R, 0, none⟩ = some (.string s) := by first | exact (hb.cell (p := ⟨R, 0, none⟩) hlt).trans cR0 | exact (hb.cell (p := ⟨R, 0, none⟩) (by simp; omega)).trans (by go_keep)
        have k1 : w3.cell? ⟨R, 1, none⟩ = some (.int .i64 a) := by first | exact (hb.cell (p := ⟨R, 1, none⟩) hlt).trans cR1 | exact (hb.cell (p := ⟨R, 1, none⟩) (by simp; omega)).trans (by go_keep)
        try (have hg := (Blk.new w1 woZ 40).drew.below hb (by simp)
             have z0 := hg.cell 0; have z1 := hg.cell 1; have z2 := hg.cell 2; have z3 := hg.cell 3; have z4 := hg.cell 4; have z5 := hg.cell 5; have z6 := hg.cell 6; have z7 := hg.cell 7; have z8 := hg.cell 8
             simp only [List.getElem?_toArray, List.getElem?_cons_zero, List.getElem?_cons_succ] at z0 z1 z2 z3 z4 z5 z6 z7 z8
             have y0 := hg.frozen 0; have y1 := hg.frozen 1; have y2 := hg.frozen 2; have y3 := hg.frozen 3; have y4 := hg.frozen 4; have y5 := hg.frozen 5; have y6 := hg.frozen 6; have y7 := hg.frozen 7; have y8 := hg.frozen 8
             have HG := Lib.hid hg
             clear hg)))
    · have hsz : w1.heap.size ≤ w3.heap.size := hb.size
      go_wp2_with fail
      go_meet
      exact ⟨w3.heap.size, rfl, rfl, rfl, (HR.out.drew.below hb).alloc _, (HB.out.drew.below hb hB1).alloc _, Blk.new w3 (woI k p e' t n m) _, by omega, by omega, by omega⟩
    · go_wp2_with fail
      go_meet
      have hB2 : B0 < (w1.alloc (.cells woZ 40)).drew.heap.size := by simp; omega
      exact ⟨w1.heap.size, rfl, rfl, rfl, ((HR.out.alloc _).drew.below hb).other9 hbs (by omega) hN1 hL1 _ _ _ _ _ _ _ _ _, (((HB.out.alloc _).drew).below hb hB2).other9 (by omega) _ _ _ _ _ _ _ _ _, Blk.set9 HG.out _ _ _ _ _ _ _ _ _, by omega, by omega, by omega⟩
  case rest =>
  clear HR HB cR0 cR1 n0 n1 hlt hN1 hL1 hB1 hbs
  obtain ⟨g, rfl, rfl, rfl, hr, hB, hG, hBg, hRg, hbg⟩ := hcut
  have g0 := hG.cell 0; have g1 := hG.cell 1; have g2 := hG.cell 2; have g3 := hG.cell 3; have g4 := hG.cell 4; have g5 := hG.cell 5; have g6 := hG.cell 6; have g7 := hG.cell 7; have g8 := hG.cell 8
  simp only [List.getElem?_toArray, List.getElem?_cons_zero, List.getElem?_cons_succ] at g0 g1 g2 g3 g4 g5 g6 g7 g8
  by_cases he : er = 0
  · subst he
    have cR1 := hr.c.2.1
    have fR1 := hr.blk.frozen 1
    have HR := Lib.hid (hr.setAt e')
    have HB2 := Lib.hid (hB.other (show B0 ≠ R by omega) 1 (.int .i64 e'))
    have q0 : R ≠ g := hRg
    clear hr hB hG
    go_wp2_with ((with_reducible refine wpList_store_st (o := ⟨none, .store 40 _ _, _, _, _, _⟩) rfl 40 _ _ rfl B0 rfl rfl (run_storeAt_row _ B0 40 40 woZ (woI k p e' t n m) ?_ ?_ ?_ ?_) ?_); exact HB2.out; exact infoWo; rfl; exact wo_one _ _ _ _ _ _)
    exact bodyPost_ret (v := .tuple #[.agg (woI k p e' t n m), .int .i64 0, .int .i64 pl]) (results_cell2 Tryz.results40 _ _ B0 40 (woI k p e' t n m) (0, 0) _ rfl (Blk.setRow HB2.out) Tryz.underlying40 rfl infoWo) rfl ⟨rfl, HR.out.rowOther hb0 (by omega) hN0 hL0 _⟩
  · have qe : ((er : Int) == 0) = false := by rw [beq_eq_false_iff_ne]; omega
    have HR := Lib.hid hr
    have HB2 := Lib.hid hB
    clear hr hB hG
    go_wp2_with ((with_reducible refine wpList_store_st (o := ⟨none, .store 40 _ _, _, _, _, _⟩) rfl 40 _ _ rfl B0 rfl rfl (run_storeAt_row _ B0 40 40 woZ (woI k p e' t n m) ?_ ?_ ?_ ?_) ?_); exact HB2.out; exact infoWo; rfl; exact wo_one _ _ _ _ _ _)
    exact bodyPost_ret (v := .tuple #[.agg (woI k p e' t n m), .int .i64 er, .int .i64 pl]) (results_cell2 Tryz.results40 _ _ B0 40 (woI k p e' t n m) (0, 0) _ rfl (Blk.setRow HB2.out) Tryz.underlying40 rfl infoWo) rfl ⟨rfl, HR.out.rowOther hb0 (by omega) hN0 hL0 _⟩
end Go.Proofs.YtldaaelmifbbhaaGreat

/- The developers' reading: the words one by one, plainly; take, in one. Stage 7. -/
namespace Go.Proofs.YtldaaelmifbbhaaGreat
open Go.RowKit BS

/-- What is read up to the end of the text, or the error and its place. -/
def readM (s : ByteArray) : Nat → Nat → PS → PS × Nat × Nat
  | 0, _, _ => (zPS, 0, 0)
  | k + 1, a, x =>
    if s.size ≤ a then (x, 0, 0)
    else if firstP x (bt s a) ≠ 0 then (zPS, firstP x (bt s a), a + 1)
    else match nextA s a with
      | (w, e, p) => if e ≠ 0 then (zPS, e, p) else readM s k w.fin (takeP x w)
def finM (s : ByteArray) (r : PS × Nat × Nat) : PS × Nat × Nat × Nat :=
  if r.2.1 ≠ 0 then (zPS, 0, r.2.1, r.2.2) else if 1 < r.1.st.length then (zPS, r.1.st.length - 1, 2, s.size) else (rowsP r.1, 0, 0, 0)
theorem readP_D (s : ByteArray) : ∀ k a x, readP s k a x = finM s (readM s k a x)
  | 0, a, x => rfl
  | k + 1, a, x => by
    rw [readP, readM]
    by_cases h0 : s.size ≤ a
    · rw [if_pos h0, if_pos h0]
      unfold finM
      rw [if_neg (show ¬ (0 : Nat) ≠ 0 by decide)]
    rw [if_neg h0, if_neg h0]
    by_cases h1 : firstP x (bt s a) ≠ 0
    · rw [if_pos h1, if_pos h1]
      unfold finM
      rw [if_pos h1]
    rw [if_neg h1, if_neg h1]
    generalize nextA s a = X
    obtain ⟨w, e, p⟩ := X
    simp only
    by_cases h2 : e ≠ 0
    · rw [if_pos h2, if_pos h2]
      unfold finM
      rw [if_pos h2]
    · rw [if_neg h2, if_neg h2]
      exact readP_D s k _ _
theorem readM_end (s : ByteArray) (k : Nat) (x : PS) : readM s (k + 1) s.size x = (x, 0, 0) := by
  rw [readM, if_pos (Nat.le_refl _)]
theorem readM_first (s : ByteArray) (k a : Nat) (x : PS) (e : Nat) (ha : a < s.size) (h : firstP x (bt s a) = e) (he : e ≠ 0) : readM s (k + 1) a x = (zPS, e, a + 1) := by
  rw [readM, if_neg (by omega), h, if_pos he]
theorem readM_err (s : ByteArray) (k a : Nat) (x : PS) (w : WN) (e p : Nat) (ha : a < s.size) (h : firstP x (bt s a) = 0) (hX : nextA s a = (w, e, p)) (he : e ≠ 0) : readM s (k + 1) a x = (zPS, e, p) := by
  rw [readM, if_neg (by omega), h, if_neg (by decide), hX]
  simp only
  rw [if_pos he]
theorem readM_step (s : ByteArray) (k a : Nat) (x : PS) (w : WN) (p : Nat) (ha : a < s.size) (h : firstP x (bt s a) = 0) (hX : nextA s a = (w, 0, p)) : readM s (k + 1) a x = readM s k w.fin (takeP x w) := by
  rw [readM, if_neg (by omega), h, if_neg (by decide), hX]
  simp only
  rw [if_neg (by decide)]

/-- What a word tells when it is taken: an error, or 0. -/
def tkE (x : PS) (w : WN) : Nat := if w.kind = 2 ∧ x.groups = 9 then 9 else if w.kind = 3 ∧ x.st.length = 1 then 8 else 0
/-- Where the byte is not a Rep's that has no piece ahead, the byte tells just what the word does. -/
theorem first_tk (s : ByteArray) (a : Nat) (x : PS) (n r : Nat) (st : List (Nat × Nat)) (w : WN) (hx : x.st = (n, r) :: st) (hX : nextA s a = (w, 0, 0)) (hc : bt s a = 42 ∨ bt s a = 43 ∨ bt s a = 63 ∨ bt s a = 123 → n ≠ 0) : firstP x (bt s a) = tkE x w := by
  obtain ⟨k2, k3, k5⟩ := next_kinds s a w hX
  have hk40 : bt s a = 40 → w.kind = 2 := fun h => by
    unfold nextA at hX
    rw [if_pos h] at hX
    have := (Prod.mk.inj hX).1
    rw [← this]
  have hk41 : bt s a = 41 → w.kind = 3 := fun h => by
    unfold nextA at hX
    rw [if_neg (by omega), if_pos h] at hX
    have := (Prod.mk.inj hX).1
    rw [← this]
  unfold firstP tkE
  rw [hx]
  simp only [List.length_cons]
  by_cases h1 : bt s a = 42 ∨ bt s a = 43 ∨ bt s a = 63 ∨ bt s a = 123
  · rw [if_pos h1, if_neg (hc h1), if_neg (fun h => by have := k2 h.1; omega), if_neg (fun h => by have := k3 h.1; omega)]
  rw [if_neg h1]
  by_cases h2 : bt s a = 41
  · have hk := hk41 h2
    rw [if_pos h2, if_neg (show ¬ (w.kind = 2 ∧ x.groups = 9) from fun h => by omega)]
    by_cases h3 : st = []
    · rw [if_pos h3, if_pos ⟨hk, by rw [h3]; rfl⟩]
    · rw [if_neg h3, if_neg (fun h => h3 (List.eq_nil_of_length_eq_zero (by omega)))]
  rw [if_neg h2]
  by_cases h3 : bt s a = 40
  · have hk := hk40 h3
    rw [if_pos h3]
    by_cases h4 : x.groups = 9
    · rw [if_pos h4, if_pos ⟨hk, h4⟩]
    · rw [if_neg h4, if_neg (fun h => h4 h.2), if_neg (show ¬ (w.kind = 3 ∧ st.length + 1 = 1) from fun h => by omega)]
  · rw [if_neg h3, if_neg (fun h => h3 (k2 h.1)), if_neg (fun h => h2 (k3 h.1))]
theorem first_err (s : ByteArray) (a : Nat) (x : PS) (n r : Nat) (st : List (Nat × Nat)) (w : WN) (e p : Nat) (hx : x.st = (n, r) :: st) (hX : nextA s a = (w, e, p)) (he : e ≠ 0) (hc : bt s a = 42 ∨ bt s a = 43 ∨ bt s a = 63 ∨ bt s a = 123 → n ≠ 0) : firstP x (bt s a) = 0 := by
  have h40 : bt s a ≠ 40 := fun h => by
    unfold nextA at hX
    rw [if_pos h] at hX
    exact he (Prod.mk.inj (Prod.mk.inj hX).2).1.symm
  have h41 : bt s a ≠ 41 := fun h => by
    unfold nextA at hX
    rw [if_neg (by omega), if_pos h] at hX
    exact he (Prod.mk.inj (Prod.mk.inj hX).2).1.symm
  unfold firstP
  rw [hx]
  simp only
  by_cases h1 : bt s a = 42 ∨ bt s a = 43 ∨ bt s a = 63 ∨ bt s a = 123
  · rw [if_pos h1, if_neg (hc h1)]
  · rw [if_neg h1, if_neg h41, if_neg h40]

/-- How great it all may be. -/
def Bnd (a : Nat) (x : PS) : Prop := x.l.length ≤ 3 * a ∧ x.st.length ≤ a + 1 ∧ ∀ p ∈ x.st, p.1 ≤ a ∧ p.2 ≤ a
theorem sPS_bnd : Bnd 0 sPS := ⟨by decide, by decide, fun p hp => by simp [sPS] at hp; subst hp; exact ⟨Nat.le_refl _, Nat.le_refl _⟩⟩
theorem take_bnd (a b : Nat) (x : PS) (w : WN) (h : Bnd a x) (hb : a < b) : Bnd b (takeP x w) := by
  obtain ⟨l, st, g⟩ := x
  obtain ⟨h1, h2, h3⟩ := h
  simp only at h1 h2 h3
  have bump : ∀ (st : List (Nat × Nat)), (∀ p ∈ st, p.1 ≤ a ∧ p.2 ≤ a) → ∀ p ∈ bumpP st, p.1 ≤ b ∧ p.2 ≤ b := by
    intro st h3 p hp
    obtain _ | ⟨⟨n, r⟩, st⟩ := st
    · cases hp
    · rcases List.mem_cons.1 hp with rfl | hp
      · have := h3 (n, r) (List.mem_cons_self ..); exact ⟨by simp only at this ⊢; omega, by simp only at this ⊢; omega⟩
      · have := h3 p (List.mem_cons_of_mem _ hp); exact ⟨by omega, by omega⟩
  have blen : ∀ (st : List (Nat × Nat)), (bumpP st).length = st.length := fun st => by
    obtain _ | ⟨⟨n, r⟩, st⟩ := st
    · rfl
    · rfl
  have more : ∀ p ∈ st, p.1 ≤ b ∧ p.2 ≤ b := fun p hp => by have := h3 p hp; exact ⟨by omega, by omega⟩
  unfold takeP
  by_cases c1 : w.kind = 1
  · rw [if_pos c1]
    exact ⟨by simp; omega, by simp only [blen]; omega, bump st h3⟩
  rw [if_neg c1]
  by_cases c2 : w.kind = 2
  · rw [if_pos c2]
    refine ⟨by simp only; omega, by simp only [List.length_cons]; omega, fun p hp => ?_⟩
    rcases List.mem_cons.1 hp with rfl | hp
    · exact ⟨Nat.zero_le _, Nat.zero_le _⟩
    · exact more p hp
  rw [if_neg c2]
  by_cases c3 : w.kind = 3
  · rw [if_pos c3]
    obtain _ | ⟨⟨n, r⟩, st⟩ := st
    · exact ⟨by simp [rowsP]; omega, by simp [rowsP, bumpP], fun p hp => by simp [rowsP, bumpP] at hp⟩
    · have e1 := rowT_len n
      have e2 := rowsT_len (r + 1)
      simp only [List.length_cons] at h2
      refine ⟨?_, ?_, ?_⟩
      · show (l ++ rowT n ++ rowsT (r + 1) ++ [ndG]).length ≤ _
        rw [List.length_append, List.length_append, List.length_append, List.length_singleton]; omega
      · show (bumpP st).length ≤ _
        rw [blen]; omega
      · exact bump st (fun p hp => h3 p (List.mem_cons_of_mem _ hp))
  rw [if_neg c3]
  by_cases c4 : w.kind = 4
  · rw [if_pos c4]
    obtain _ | ⟨⟨n, r⟩, st⟩ := st
    · exact ⟨by simp only [rowP]; omega, by simp [rowP], fun p hp => by simp [rowP] at hp⟩
    · have e1 := rowT_len n
      refine ⟨?_, ?_, fun p hp => ?_⟩
      · show (l ++ rowT n).length ≤ _
        rw [List.length_append]; omega
      · show st.length + 1 ≤ _
        simp only [List.length_cons] at h2; omega
      · rcases List.mem_cons.1 hp with rfl | hp
        · have := (h3 (n, r) (List.mem_cons_self ..)).2; exact ⟨Nat.zero_le _, by simp only at this ⊢; omega⟩
        · exact more p (List.mem_cons_of_mem _ hp)
  rw [if_neg c4]
  by_cases c5 : w.kind = 5
  · rw [if_pos c5]
    exact ⟨by simp; omega, by simp only; omega, more⟩
  · rw [if_neg c5]
    exact ⟨by simp only; omega, by simp only; omega, more⟩
/-- take, whatever the word is. -/
theorem ptake_calls {base R : Nat} {s : ByteArray} (hs : s.size ≤ 1000000) {a c : Nat} (x : PS) {vN vL : Value} {w0 : World} (wd' : WN) (hok : OkW wd') (hb : Bnd a x) (hne : x.st ≠ []) (ha : a ≤ s.size) (hg : x.groups ≤ 9) (w : World) (h : RdV base R s c x vN vL w0 w) :
    Calls Tryz.prog 41 #[.pointer (some ⟨R, 0, none⟩), .agg (woA wd')] w fun e w' => e = .returned (.int .i64 (tkE x wd')) ∧ (tkE x wd' = 0 → ∃ vN' vL', RdV base R s c (takeP x wd') vN' vL' w0 w') ∧ (tkE x wd' ≠ 0 → Below w.heap.size w w') := by
  obtain ⟨l, st, gr⟩ := x
  obtain _ | ⟨⟨n, r⟩, st⟩ := st
  · exact absurd rfl hne
  obtain ⟨b1, b2, b3⟩ := hb
  have b4 := b3 (n, r) (List.mem_cons_self ..)
  simp only [List.length_cons] at b1 b2 b4 hg
  obtain ⟨k, p, f, t, n', m'⟩ := wd'
  have hk := okW_kind _ hok
  simp only at hk
  rcases hk with rfl | rfl | rfl | rfl | rfl
  · have e0 : tkE ⟨l, (n, r) :: st, gr⟩ ⟨1, p, f, t, n', m'⟩ = 0 := by unfold tkE; simp
    rw [e0]
    refine (ptake1 p f t n' m' w h (by omega) (by omega) (by omega)).mono ?_
    rintro e w' ⟨rfl, vN', hr⟩
    exact ⟨rfl, fun _ => ⟨_, _, hr⟩, fun h => absurd rfl h⟩
  · by_cases h9 : gr = 9
    · subst h9
      have e0 : tkE ⟨l, (n, r) :: st, 9⟩ ⟨2, p, f, t, n', m'⟩ = 9 := by unfold tkE; simp
      rw [e0]
      refine (ptake2_9 p f t n' m' w h).mono ?_
      rintro e w' ⟨rfl, hbw⟩
      exact ⟨rfl, (fun h => by cases h), fun _ => hbw⟩
    · have e0 : tkE ⟨l, (n, r) :: st, gr⟩ ⟨2, p, f, t, n', m'⟩ = 0 := by unfold tkE; simp [h9]
      rw [e0]
      refine (ptake2 p f t n' m' w h (by omega) (by omega)).mono ?_
      rintro e w' ⟨rfl, vL', hr⟩
      exact ⟨rfl, fun _ => ⟨_, _, hr⟩, fun h => absurd rfl h⟩
  · obtain _ | ⟨⟨n2, r2⟩, st⟩ := st
    · have e0 : tkE ⟨l, [(n, r)], gr⟩ ⟨3, p, f, t, n', m'⟩ = 8 := by unfold tkE; simp
      rw [e0]
      refine (ptake3_8 p f t n' m' w h).mono ?_
      rintro e w' ⟨rfl, hbw⟩
      exact ⟨rfl, (fun h => by cases h), fun _ => hbw⟩
    · have e0 : tkE ⟨l, (n, r) :: (n2, r2) :: st, gr⟩ ⟨3, p, f, t, n', m'⟩ = 0 := by unfold tkE; simp
      have b5 := b3 (n2, r2) (by simp)
      simp only [List.length_cons] at b2 b5
      rw [e0]
      refine (ptake3 p f t n' m' w h (by omega) (by omega) (by omega) (by omega) (by omega)).mono ?_
      rintro e w' ⟨rfl, vN', vL', hr⟩
      exact ⟨rfl, fun _ => ⟨_, _, hr⟩, fun h => absurd rfl h⟩
  · have e0 : tkE ⟨l, (n, r) :: st, gr⟩ ⟨4, p, f, t, n', m'⟩ = 0 := by unfold tkE; simp
    rw [e0]
    refine (ptake4 p f t n' m' w h (by omega) (by omega) (by omega) (by omega)).mono ?_
    rintro e w' ⟨rfl, vN', hr⟩
    exact ⟨rfl, fun _ => ⟨_, _, hr⟩, fun h => absurd rfl h⟩
  · have e0 : tkE ⟨l, (n, r) :: st, gr⟩ ⟨5, p, f, t, n', m'⟩ = 0 := by unfold tkE; simp
    rw [e0]
    refine (ptake5 p f t n' m' w h (by omega)).mono ?_
    rintro e w' ⟨rfl, vN', hr⟩
    exact ⟨rfl, fun _ => ⟨_, _, hr⟩, fun h => absurd rfl h⟩
end Go.Proofs.YtldaaelmifbbhaaGreat

/- The document's parse: take, whatever the word is. Stage 7. -/
namespace Go.Proofs.YtldaaelmifbbhaaGreat
open Go.RowKit BS

theorem rtake_calls {base N : Nat} {A : Nat → Prop} {s : ByteArray} (hs : s.size ≤ 1000000) {a : Nat} (x : PS) {vN vP vR : Value} (wd' : WN) (hok : OkW wd') (hb : Bnd a x) (hne : x.st ≠ []) (ha : a ≤ s.size) (hg : x.groups ≤ 9) (ht : tkE x wd' = 0) (w : World) (h : SV base N A x.l (pS x.st) (rS x.st) vN vP vR w) :
    Calls Tryz.prog 36 #[.agg (stW vN vP vR x.groups), .agg (woA wd')] w fun e w' => ∃ vN' vP' vR', e = .returned (.agg (stW vN' vP' vR' (takeP x wd').groups)) ∧ SV base N A (takeP x wd').l (pS (takeP x wd').st) (rS (takeP x wd').st) vN' vP' vR' w' ∧ KpA A w w' := by
  obtain ⟨l, st, gr⟩ := x
  obtain _ | ⟨⟨n, r⟩, st⟩ := st
  · exact absurd rfl hne
  obtain ⟨b1, b2, b3⟩ := hb
  have b4 := b3 (n, r) (List.mem_cons_self ..)
  simp only [List.length_cons] at b1 b2 b4 hg
  obtain ⟨k, p, f, t, n', m'⟩ := wd'
  have hk := okW_kind _ hok
  simp only at hk
  simp only [pS_cons, rS_cons] at h
  rcases hk with rfl | rfl | rfl | rfl | rfl
  · refine (rtake1 p f t n' m' w h (pS_len st) (rS_len st) (by omega) (by omega) (by omega)).mono ?_
    rintro e w' ⟨vN', vP', vR', he, hr, hk⟩
    exact ⟨vN', vP', vR', he, by show SV base N A (l ++ [⟨2, 0, 0, 0, t⟩]) (pS ((n + 1, r) :: st)) (rS ((n + 1, r) :: st)) vN' vP' vR' w'; rw [pS_cons, rS_cons]; exact hr, hk⟩
  · have h9 : gr < 9 := by
      rcases Nat.lt_or_ge gr 9 with h9 | h9
      · exact h9
      · have : gr = 9 := by omega
        subst this
        unfold tkE at ht
        simp at ht
    refine (rtake2 p f t n' m' w h (pS_len st) (rS_len st) h9 (by omega)).mono ?_
    rintro e w' ⟨vN', vP', vR', he, hr, hk⟩
    exact ⟨vN', vP', vR', he, by show SV base N A l (pS ((0, 0) :: (n, r) :: st)) (rS ((0, 0) :: (n, r) :: st)) vN' vP' vR' w'; rw [pS_cons, rS_cons, pS_cons, rS_cons]; exact hr, hk⟩
  · obtain _ | ⟨⟨n2, r2⟩, st⟩ := st
    · unfold tkE at ht
      simp at ht
    · have b5 := b3 (n2, r2) (by simp)
      simp only [List.length_cons] at b2 b5
      rw [pS_cons, rS_cons] at h
      refine (rtake3 p f t n' m' w h (len_snoc (pS_len st)) (len_snoc (rS_len st)) (pS_len st) (rS_len st) rfl (by omega) (by omega) (by omega) (by omega) (by omega)).mono ?_
      rintro e w' ⟨vN', vP', vR', he, hr, hk⟩
      exact ⟨vN', vP', vR', he, by show SV base N A (l ++ rowT n ++ rowsT (r + 1) ++ [ndG]) (pS ((n2 + 1, r2) :: st)) (rS ((n2 + 1, r2) :: st)) vN' vP' vR' w'; rw [pS_cons, rS_cons]; exact hr, hk⟩
  · refine (rtake4 p f t n' m' w h (pS_len st) (rS_len st) (by omega) (by omega) (by omega) (by omega)).mono ?_
    rintro e w' ⟨vN', vP', vR', he, hr, hk⟩
    exact ⟨vN', vP', vR', he, by show SV base N A (l ++ rowT n) (pS ((0, r + 1) :: st)) (rS ((0, r + 1) :: st)) vN' vP' vR' w'; rw [pS_cons, rS_cons]; exact hr, hk⟩
  · refine (rtake5 p f t n' m' w h (pS_len st) (rS_len st) (by omega) (by omega)).mono ?_
    rintro e w' ⟨vN', vP', vR', he, hr, hk⟩
    exact ⟨vN', vP', vR', he, by show SV base N A (l ++ [⟨4, 1, n', m', 0⟩]) (pS ((n, r) :: st)) (rS ((n, r) :: st)) vN' vP' vR' w'; rw [pS_cons, rS_cons]; exact hr, hk⟩
end Go.Proofs.YtldaaelmifbbhaaGreat

/- The document's parse: Read. Stage 7. -/
namespace Go.Proofs.YtldaaelmifbbhaaGreat
open Go.RowKit BS

theorem results_cell3_7 {P : Program} {fn : Func} {p a b c : Tmp} {ty : TypeId} (h : fn.results = #[.cell p ty, .tmp a, .tmp b, .tmp c]) (tmps : Array Value) (w : World) (g : Nat) (t : TypeId) (cs : Array Value) (fr : Nat × Nat) (d : TypeDesc)
    (hp : tmps.getD p undef = .pointer (some ⟨g, 0, none⟩)) (hg : w.heap[g]? = some (.cells cs t fr))
    (hu : P.underlying ty = some d) (hd : (match d with | .struct _ | .array _ _ => true | _ => false) = true) (hi : (P.info? ty).map (·.size) = some cs.size) :
    (results fn tmps).run P w = .ok (.tuple #[.agg cs, tmps.getD a undef, tmps.getD b undef, tmps.getD c undef]) w := by
  have hp' : tmps[p]?.getD undef = .pointer (some ⟨g, 0, none⟩) := by simpa using hp
  simp [results, h, hp', asAddr, run_loadVar_row w g t ty cs fr d hg hu hd hi]
theorem KpA.toBelow {A : Nat → Prop} {a b : World} {n : Nat} (h : KpA A a b) (hA : ∀ k, A k → n ≤ k) (hn : n ≤ a.heap.size) : Below n a b :=
  ⟨h.os, h.tape, h.output, h.size, fun k hk => h.block k (by omega) fun h' => by have := hA k h'; omega⟩
/-- The blocks that what was read may lie in. -/
def rdS (b : Nat) : Nat → Prop := fun k => k = b + 1 ∨ k = b + 1 + 1 ∨ b + 4 ≤ k
/-- What Read keeps from round to round. -/
structure RS (b : Nat) (x : PS) (vN vP vR : Value) (w0 w : World) : Prop where
  sv : SV b (b + 4) (rdS b) x.l (pS x.st) (rS x.st) vN vP vR w
  blk : Blk w (b + 1 + 1 + 1) (stW vN vP vR x.groups) 48
  res : Blk w b stO 48
  bel : Below b w0 w
theorem rdS_ge (b : Nat) : ∀ k, rdS b k → b ≤ k := fun k h => by rcases h with h | h | h <;> omega
theorem RS.below {b : Nat} {x : PS} {vN vP vR : Value} {w0 w w' : World} (h : RS b x vN vP vR w0 w) (hb : Below w.heap.size w w') : RS b x vN vP vR w0 w' :=
  ⟨h.sv.below hb, h.blk.below hb h.blk.lt, h.res.below hb h.res.lt, h.bel.trans (hb.mono (Nat.le_of_lt h.res.lt))⟩
theorem RS.alloc {b : Nat} {x : PS} {vN vP vR : Value} {w0 w : World} (h : RS b x vN vP vR w0 w) (o : Obj) : RS b x vN vP vR w0 (w.alloc o) := h.below ((Below.refl _ _).alloc (Nat.le_refl _) o)
/-- Behind a call that hands a state back, and behind its store. -/
theorem RS.call {b : Nat} {x x' : PS} {vN vP vR vN' vP' vR' : Value} {w0 w w' : World} (h : RS b x vN vP vR w0 w) (hs : SV b (b + 4) (rdS b) x'.l (pS x'.st) (rS x'.st) vN' vP' vR' w') (hk : KpA (rdS b) w w') : RS b x' vN' vP' vR' w0 (w'.setRow (b + 1 + 1 + 1) (stW vN' vP' vR' x'.groups)) := by
  have hn : ¬ rdS b (b + 1 + 1 + 1) := fun h => by rcases h with h | h | h <;> omega
  have hn0 : ¬ rdS b b := fun h => by rcases h with h | h | h <;> omega
  exact ⟨hs.row hn _, Blk.setRow (h.blk.kpA hk hn), (row_kept7 _ _ _ _ (by omega)).trans (h.res.kpA hk hn0), below_row (h.bel.trans (hk.toBelow (rdS_ge b) (Nat.le_of_lt h.res.lt))) (by omega) _⟩
theorem rs_new (w : World) : RS w.heap.size sPS (.slice none 0 0) (.slice (some ⟨w.heap.size + 1, 0, none⟩) 1 1) (.slice (some ⟨w.heap.size + 1 + 1, 0, none⟩) 1 1) w
    ((((w.alloc (.cells stO 48)).alloc (.cells #[.int .i64 0] 3)).alloc (.cells #[.int .i64 0] 3)).alloc (.cells (stW (.slice none 0 0) (.slice (some ⟨w.heap.size + 1, 0, none⟩) 1 1) (.slice (some ⟨w.heap.size + 1 + 1, 0, none⟩) 1 1) 0) 48)) := by
  have h0 := Blk.new w stO 48
  have h1 := Blk.new (w.alloc (.cells stO 48)) #[.int .i64 0] 3
  have h2 := Blk.new ((w.alloc (.cells stO 48)).alloc (.cells #[.int .i64 0] 3)) #[.int .i64 0] 3
  have h3 := Blk.new (((w.alloc (.cells stO 48)).alloc (.cells #[.int .i64 0] 3)).alloc (.cells #[.int .i64 0] 3)) (stW (.slice none 0 0) (.slice (some ⟨w.heap.size + 1, 0, none⟩) 1 1) (.slice (some ⟨w.heap.size + 1 + 1, 0, none⟩) 1 1) 0) 48
  simp only [World.size_alloc] at h1 h2 h3
  refine ⟨⟨World.ownsRow_nil _ _ _ _, ⟨rfl, .inr ⟨w.heap.size + 1, 1, _, rfl, by omega, (h1.alloc _).alloc _, Nat.le_refl _, by decide, rfl, rfl⟩⟩, ⟨rfl, .inr ⟨w.heap.size + 1 + 1, 1, _, rfl, by omega, h2.alloc _, Nat.le_refl _, by decide, rfl, rfl⟩⟩, (fun k e => by cases e), (fun k e => by cases e; exact .inl rfl), (fun k e => by cases e; exact .inr (.inl rfl)), (fun k hk => .inr (.inr hk)), (by simp), (by omega), .inl rfl, .inl rfl, .inr (by simp [Value.ownBlock])⟩, h3, ((h0.alloc _).alloc _).alloc _, by go_grown⟩
theorem SV.allocSkip {base N : Nat} {A : Nat → Prop} {l : List NdN} {ps rs : List Nat} {vN vP vR : Value} {w : World} (h : SV base N A l ps rs vN vP vR w) (o : Obj) : SV base (w.heap.size + 1) (fun k => A k ∧ k ≠ w.heap.size) l ps rs vN vP vR (w.alloc o) := by
  have h2 := h.alloc o
  have hk : ∀ {v : Value} {e : TypeId} {size n : Nat} {xs : List Value}, w.ownsRow base e size v n xs → ∀ k, v.ownBlock = some k → k ≠ w.heap.size := fun ho k e => by have := own_lt ho e; omega
  exact ⟨h2.nodes, h2.pieces, h2.rows, fun k e => ⟨h.aN k e, hk h.nodes k e⟩, fun k e => ⟨h.aP k e, hk h.pieces k e⟩, fun k e => ⟨h.aR k e, hk h.rows k e⟩, fun k hk => ⟨h.up k (Nat.le_trans h.sz (by omega)), by omega⟩, by simp, Nat.le_trans h.bs (Nat.le_trans h.sz (by omega)), h.nP, h.nR, h.pR⟩
/-- What Read tells. -/
def ReadR (w : World) (RES : PS × Nat × Nat × Nat) (e : Ending) (w' : World) : Prop :=
  ∃ vN aP nP cP aR nR cR g, e = .returned (.tuple #[.agg (stW vN (.slice aP nP cP) (.slice aR nR cR) g), .int .i64 RES.2.1, .int .i64 RES.2.2.1, .int .i64 RES.2.2.2]) ∧ w'.ownsRow w.heap.size 92 8 vN RES.1.l.length (ndCells RES.1.l) ∧ Below w.heap.size w w'
theorem readP_end (s : ByteArray) (k : Nat) (x : PS) : readP s (k + 1) s.size x = if 1 < x.st.length then (zPS, x.st.length - 1, 2, s.size) else (rowsP x, 0, 0, 0) := by
  rw [readP, if_pos (Nat.le_refl _)]
theorem readP_first (s : ByteArray) (k a : Nat) (x : PS) (ha : a < s.size) (h : firstP x (bt s a) ≠ 0) : readP s (k + 1) a x = (zPS, 0, firstP x (bt s a), a + 1) := by
  rw [readP, if_neg (by omega), if_pos h]
theorem readP_err (s : ByteArray) (k a : Nat) (x : PS) (w : WN) (e p : Nat) (ha : a < s.size) (h : firstP x (bt s a) = 0) (hX : nextA s a = (w, e, p)) (he : e ≠ 0) : readP s (k + 1) a x = (zPS, 0, e, p) := by
  rw [readP, if_neg (by omega), h, if_neg (by decide), hX]
  simp only
  rw [if_pos he]
theorem readP_step (s : ByteArray) (k a : Nat) (x : PS) (w : WN) (p : Nat) (ha : a < s.size) (h : firstP x (bt s a) = 0) (hX : nextA s a = (w, 0, p)) : readP s (k + 1) a x = readP s k w.fin (takeP x w) := by
  rw [readP, if_neg (by omega), h, if_neg (by decide), hX]
  simp only
  rw [if_neg (by decide)]
set_option maxRecDepth 100000 in
set_option maxHeartbeats 32000000 in
theorem rRead7_calls (s : ByteArray) (hs : s.size ≤ 1000000) (w : World) :
    Calls Tryz.prog 22 #[.string s] w fun e w' => ReadR w (parseN s) e w' := by
  have HG := Lib.hid (rs_new w)
  have hR : readP s (s.size + 1) 0 sPS = parseN s := rfl
  generalize parseN s = RES at *
  have HRES := Lib.hid hR
  clear hR
  go_enter Tryz.func22, Tryz.ntmps22
  go_upto_region 2 with fail
  have e0 : (((w.alloc (.cells #[.slice none 0 0, .slice none 0 0, .slice none 0 0, .int .i64 0] 48)).alloc (.cells #[.int .i64 0] 3)).alloc (.cells #[.int .i64 0] 3)).alloc (.cells #[.slice none 0 0, .slice (some ⟨w.heap.size + 1, 0, none⟩) 1 1, .slice (some ⟨w.heap.size + 1 + 1, 0, none⟩) 1 1, .int .i64 0] 48) = (((w.alloc (.cells stO 48)).alloc (.cells #[.int .i64 0] 3)).alloc (.cells #[.int .i64 0] 3)).alloc (.cells (stW (.slice none 0 0) (.slice (some ⟨w.heap.size + 1, 0, none⟩) 1 1) (.slice (some ⟨w.heap.size + 1 + 1, 0, none⟩) 1 1) 0) 48) := rfl
  try rw [e0]
  clear e0
  generalize (((w.alloc (.cells stO 48)).alloc (.cells #[.int .i64 0] 3)).alloc (.cells #[.int .i64 0] 3)).alloc (.cells (stW (.slice none 0 0) (.slice (some ⟨w.heap.size + 1, 0, none⟩) 1 1) (.slice (some ⟨w.heap.size + 1 + 1, 0, none⟩) 1 1) 0) 48) = w1 at *
  go_wp2_with fail
  go_loopw [7] (fun v wr => ∃ (k a : Nat) (x : PS) (vN vP vR : Value), a ≤ s.size ∧ s.size < k + a ∧ v = .int .i64 a ∧ readP s k a x = RES ∧ PInv x ∧ Bnd a x ∧ RS w.heap.size x vN vP vR w wr) (fun v _ => s.size - (intOf v).toNat)
  case atStart => exact ⟨s.size + 1, 0, sPS, _, _, _, Nat.zero_le _, by omega, rfl, HRES.out, sPS_inv, sPS_bnd, HG.out⟩
  case round =>
    clear HG HRES
    obtain ⟨k, a, x, vN, vP, vR, ha, hk, rfl, hres, hpi, hbd, hr⟩ := hrel
    obtain ⟨k, rfl⟩ : ∃ m, k = m + 1 := ⟨k - 1, by omega⟩
    obtain ⟨l, st, gr⟩ := x
    obtain _ | ⟨⟨n, r⟩, st⟩ := st
    · exact absurd rfl hpi.1
    have hsl := hbd.2.1
    simp only [List.length_cons] at hsl
    have HX := Lib.hid hr
    obtain ⟨c0, c1, c2, c3⟩ := (show wr.cell? ⟨w.heap.size + 1 + 1 + 1, 0, none⟩ = some vN ∧ wr.cell? ⟨w.heap.size + 1 + 1 + 1, 1, none⟩ = some vP ∧ wr.cell? ⟨w.heap.size + 1 + 1 + 1, 2, none⟩ = some vR ∧ wr.cell? ⟨w.heap.size + 1 + 1 + 1, 3, none⟩ = some (.int .i64 gr) from ⟨hr.blk.cell 0, hr.blk.cell 1, hr.blk.cell 2, hr.blk.cell 3⟩)
    have hB3 := hr.blk.lt
    by_cases hlt : a < s.size
    · have hd : decide ((a : Int) < (s.size : Int)) = true := by rw [decide_eq_true_iff]; omega
      have hb0 : s[a].toNat = bt s a := (bt_eq s a hlt).symm
      have i0 : (0 : Int) ≤ (a : Int) := by omega
      have i1 : (a : Int) < (s.size : Int) := by omega
      have hF := fun W (h : SV w.heap.size (w.heap.size + 4) (rdS w.heap.size) l (pS ((n, r) :: st)) (rS ((n, r) :: st)) vN vP vR W) => rfirst_calls (gr := gr) (bt s a) W h (by omega)
      clear hr
      by_cases hf0 : firstP ⟨l, (n, r) :: st, gr⟩ (bt s a) = 0
      · obtain ⟨vX, hvX⟩ : ∃ X, nextA s a = X := ⟨_, rfl⟩
        obtain ⟨⟨xk, xp, xf, xt, xn, xm⟩, er, pl⟩ := vX
        have hE := nextA_end s a hlt
        rw [hvX] at hE
        have hN := rNext_calls s hs a
        rw [← (next_in s a hlt).1, hvX] at hN
        rw [hf0] at hF
        have HF : Hid (∀ W, SV w.heap.size (w.heap.size + 4) (rdS w.heap.size) l (pS ((n, r) :: st)) (rS ((n, r) :: st)) vN vP vR W → Calls Tryz.prog 34 #[.agg (stW vN vP vR gr), .int .u8 (bt s a)] W fun e w' => e = .returned (.int .i64 0) ∧ Below W.heap.size W w') := Lib.hid hF
        rcases hE with ⟨h1, h2, h3, h4, h5, h6⟩ | ⟨h1, _⟩
        · simp only at h1 h2 h4 h5 h6
          subst h1
          subst h2
          subst h4
          have hcc : bt s xp = 42 ∨ bt s xp = 43 ∨ bt s xp = 63 ∨ bt s xp = 123 → n ≠ 0 := fun hc h0 => by
            subst h0
            unfold firstP at hf0
            simp only at hf0
            rw [if_pos hc] at hf0
            simp at hf0
          have hft := first_tk s xp ⟨l, (n, r) :: st, gr⟩ n r st ⟨xk, xp, xf, xt, xn, xm⟩ rfl hvX hcc
          have htk := hft.symm.trans hf0
          have hpi2 := take_inv s xp ⟨l, (n, r) :: st, gr⟩ ⟨xk, xp, xf, xt, xn, xm⟩ hpi hf0 h3 (next_kinds s xp _ hvX).1 (next_kinds s xp _ hvX).2.1 (next_kinds s xp _ hvX).2.2
          have hbd2 := take_bnd xp xf ⟨l, (n, r) :: st, gr⟩ ⟨xk, xp, xf, xt, xn, xm⟩ hbd h5
          rw [readP_step s k xp _ ⟨xk, xp, xf, xt, xn, xm⟩ 0 hlt hf0 hvX] at hres
          have hTK := fun N A W (h : SV w.heap.size N A l (pS ((n, r) :: st)) (rS ((n, r) :: st)) vN vP vR W) => rtake_calls hs ⟨l, (n, r) :: st, gr⟩ ⟨xk, xp, xf, xt, xn, xm⟩ h3 hbd (by simp) ha hpi.2.2.2 htk W h
          generalize takeP ⟨l, (n, r) :: st, gr⟩ ⟨xk, xp, xf, xt, xn, xm⟩ = x2 at *
          have HN : Hid (∀ w, Calls Tryz.prog 35 #[.string s, .int .i64 xp] w fun en w' => en = .returned (.tuple #[.agg (woI xk xp xf xt xn xm), .int .i64 0, .int .i64 0]) ∧ Below w.heap.size w w') := Lib.hid hN
          have HTK : Hid (∀ N A W, SV w.heap.size N A l (pS ((n, r) :: st)) (rS ((n, r) :: st)) vN vP vR W → Calls Tryz.prog 36 #[.agg (stW vN vP vR gr), .agg (woI xk xp xf xt xn xm)] W fun e w' => ∃ vN' vP' vR', e = .returned (.agg (stW vN' vP' vR' x2.groups)) ∧ SV w.heap.size N A x2.l (pS x2.st) (rS x2.st) vN' vP' vR' w' ∧ KpA A W w') := Lib.hid hTK
          have HFF := Lib.hid (show _ ∧ _ ∧ _ ∧ _ ∧ _ from ⟨hres, hpi2, hbd2, h5, h6⟩)
          clear hres hpi2 hbd2 h5 h6 hN hTK hF hft htk hcc h3 hvX hpi hbd hf0
          go_wp2_with fail
          go_region_held3 (fun w' => w'.cell? ⟨w.heap.size + 1 + 1 + 1, 0, none⟩ = some vN ∧ w'.cell? ⟨w.heap.size + 1 + 1 + 1, 1, none⟩ = some vP ∧ w'.cell? ⟨w.heap.size + 1 + 1 + 1, 2, none⟩ = some vR ∧ w'.cell? ⟨w.heap.size + 1 + 1 + 1, 3, none⟩ = some (.int .i64 gr))
            (first
              | go_keep
              | (go_split_ands; refine ⟨?_, ?_, ?_, ?_⟩ <;> (rw [hb.cell (by simp; omega)]; assumption)))
            ((go_at_call 34; refine (HF.out _ HX.out.sv.drew).mono ?_; rintro en w2 ⟨rfl, hb⟩))
          have hx := (HX.out.below ((Below.refl wr.heap.size wr).drew)).below hb
          clear HX HF hb
          obtain ⟨c0, c1, c2, c3⟩ := (show w2.cell? ⟨w.heap.size + 1 + 1 + 1, 0, none⟩ = some vN ∧ w2.cell? ⟨w.heap.size + 1 + 1 + 1, 1, none⟩ = some vP ∧ w2.cell? ⟨w.heap.size + 1 + 1 + 1, 2, none⟩ = some vR ∧ w2.cell? ⟨w.heap.size + 1 + 1 + 1, 3, none⟩ = some (.int .i64 gr) from ⟨hx.blk.cell 0, hx.blk.cell 1, hx.blk.cell 2, hx.blk.cell 3⟩)
          have HX := Lib.hid hx
          clear hx
          go_wp2_with fail
          refine (HN.out _).mono ?_
          rintro en w3 ⟨rfl, hb⟩
          have hx := HX.out.below hb
          clear HX HN hb c0 c1 c2 c3
          go_upto_region 8 with fail
          have HW := Lib.hid (Blk.new w3 (woI xk xp xf xt xn xm) 40)
          have HX := Lib.hid (hx.alloc (.cells (woI xk xp xf xt xn xm) 40))
          have hgW : w.heap.size + 4 ≤ w3.heap.size := hx.sv.sz
          have HSK := Lib.hid (hx.sv.allocSkip (.cells (woI xk xp xf xt xn xm) 40))
          clear hx
          generalize w3.alloc (.cells (woI xk xp xf xt xn xm) 40) = w4 at *
          generalize w3.heap.size = gW at *
          have g0 := HW.out.cell 0; have g1 := HW.out.cell 1; have g2 := HW.out.cell 2; have g3 := HW.out.cell 3; have g4 := HW.out.cell 4; have g5 := HW.out.cell 5; have g6 := HW.out.cell 6; have g7 := HW.out.cell 7; have g8 := HW.out.cell 8
          simp only [List.getElem?_toArray, List.getElem?_cons_zero, List.getElem?_cons_succ] at g0 g1 g2 g3 g4 g5 g6 g7 g8
          obtain ⟨c0, c1, c2, c3⟩ := (show w4.cell? ⟨w.heap.size + 1 + 1 + 1, 0, none⟩ = some vN ∧ w4.cell? ⟨w.heap.size + 1 + 1 + 1, 1, none⟩ = some vP ∧ w4.cell? ⟨w.heap.size + 1 + 1 + 1, 2, none⟩ = some vR ∧ w4.cell? ⟨w.heap.size + 1 + 1 + 1, 3, none⟩ = some (.int .i64 gr) from ⟨HX.out.blk.cell 0, HX.out.blk.cell 1, HX.out.blk.cell 2, HX.out.blk.cell 3⟩)
          go_wp2_with fail
          refine (HTK.out _ _ _ HSK.out).mono ?_
          rintro en w5 ⟨vN', vP', vR', rfl, hs5, hk5⟩
          obtain ⟨aN, cN, rfl⟩ := owns_form hs5.nodes
          obtain ⟨aP, cP, rfl⟩ := owns_form hs5.pieces
          obtain ⟨aR, cR, rfl⟩ := owns_form hs5.rows
          have hz5 : w.heap.size + 4 ≤ w5.heap.size := Nat.le_trans HX.out.sv.sz hk5.size
          have hw5 := HW.out.kpA hk5 (fun h => h.2 rfl)
          have hb5 := HX.out.blk.kpA (hk5.mono (A := rdS w.heap.size) fun _ hk => hk.1) (fun h => by rcases h with h | h | h <;> omega)
          have hx := HX.out.call (x' := x2) (hs5.mono (by omega) hz5 (fun _ hk _ => hk.1) (fun _ hk => .inr (.inr hk))) (hk5.mono fun _ hk => hk.1)
          have hw6 : Blk (w5.setRow (w.heap.size + 1 + 1 + 1) (stW (.slice aN x2.l.length cN) (.slice aP (pS x2.st).length cP) (.slice aR (rS x2.st).length cR) (x2.groups : Int))) gW (woI xk xp xf xt xn xm) 40 := (row_kept7 _ _ _ _ (by omega)).trans hw5
          clear HTK HSK HX HW hs5 hk5 hw5 c0 c1 c2 c3 g0 g1 g2 g3 g4 g5 g6 g7 g8
          go_upto_region 11 with ((with_reducible refine wpList_store_st (o := ⟨none, .store 48 _ _, _, _, _, _⟩) rfl 48 _ _ rfl (w.heap.size + 1 + 1 + 1) rfl rfl (run_storeAt_row _ (w.heap.size + 1 + 1 + 1) 48 48 (stW vN vP vR (gr : Int)) (stW (.slice aN x2.l.length cN) (.slice aP (pS x2.st).length cP) (.slice aR (rS x2.st).length cR) (x2.groups : Int)) ?_ ?_ ?_ ?_) ?_); exact hb5; exact infoSt7; rfl; exact st_one7 _ _ _ _ _ _ _ _ _ _)
          clear hb5
          generalize w5.setRow (w.heap.size + 1 + 1 + 1) (stW (.slice aN x2.l.length cN) (.slice aP (pS x2.st).length cP) (.slice aR (rS x2.st).length cR) (x2.groups : Int)) = w6 at *
          have g2 := hw6.cell 2
          simp only [List.getElem?_toArray, List.getElem?_cons_zero, List.getElem?_cons_succ] at g2
          have HX := Lib.hid hx
          clear hx hw6
          go_wp2_with fail
          go_roundw
          case rel =>
            obtain ⟨z1, z2, z3, z4, z5⟩ := HFF.out
            exact ⟨k, xf, x2, _, _, _, z5, by omega, rfl, z1, z2, z3, HX.out⟩
          case measure =>
            obtain ⟨_, _, _, z4, _⟩ := HFF.out
            simp [intOf]; omega
        · simp only at h1
          rw [readP_err s k a _ _ er pl hlt hf0 hvX h1] at hres
          have HN : Hid (∀ w, Calls Tryz.prog 35 #[.string s, .int .i64 a] w fun en w' => en = .returned (.tuple #[.agg (woI xk xp xf xt xn xm), .int .i64 er, .int .i64 pl]) ∧ Below w.heap.size w w') := Lib.hid hN
          have qe : ((er : Int) != 0) = true := by rw [bne_iff_ne]; omega
          have HRS := Lib.hid hres
          clear hres hN hF h1 hvX hpi hbd hf0
          go_wp2_with fail
          go_region_held3 (fun w' => w'.cell? ⟨w.heap.size + 1 + 1 + 1, 0, none⟩ = some vN ∧ w'.cell? ⟨w.heap.size + 1 + 1 + 1, 1, none⟩ = some vP ∧ w'.cell? ⟨w.heap.size + 1 + 1 + 1, 2, none⟩ = some vR ∧ w'.cell? ⟨w.heap.size + 1 + 1 + 1, 3, none⟩ = some (.int .i64 gr))
            (first
              | go_keep
              | (go_split_ands; refine ⟨?_, ?_, ?_, ?_⟩ <;> (rw [hb.cell (by simp; omega)]; assumption)))
            ((go_at_call 34; refine (HF.out _ HX.out.sv.drew).mono ?_; rintro en w2 ⟨rfl, hb⟩))
          have hx := (HX.out.below ((Below.refl wr.heap.size wr).drew)).below hb
          clear HX HF hb
          obtain ⟨c0, c1, c2, c3⟩ := (show w2.cell? ⟨w.heap.size + 1 + 1 + 1, 0, none⟩ = some vN ∧ w2.cell? ⟨w.heap.size + 1 + 1 + 1, 1, none⟩ = some vP ∧ w2.cell? ⟨w.heap.size + 1 + 1 + 1, 2, none⟩ = some vR ∧ w2.cell? ⟨w.heap.size + 1 + 1 + 1, 3, none⟩ = some (.int .i64 gr) from ⟨hx.blk.cell 0, hx.blk.cell 1, hx.blk.cell 2, hx.blk.cell 3⟩)
          have HX := Lib.hid hx
          clear hx
          go_wp2_with fail
          refine (HN.out _).mono ?_
          rintro en w3 ⟨rfl, hb⟩
          have hx := HX.out.below hb
          clear HX HN hb c0 c1 c2 c3
          go_upto_region 8 with fail
          have HX := Lib.hid (hx.alloc (.cells (woI xk xp xf xt xn xm) 40))
          clear hx
          generalize w3.alloc (.cells (woI xk xp xf xt xn xm) 40) = w4 at *
          go_wp2_with ((with_reducible refine wpList_store_st (o := ⟨none, .store 48 _ _, _, _, _, _⟩) rfl 48 _ _ rfl w.heap.size rfl rfl (run_storeAt_row _ w.heap.size 48 48 stO stO ?_ ?_ ?_ ?_) ?_); exact HX.out.res; exact infoSt7; rfl; exact st_one7 none none none 0 0 0 0 0 0 0)
          exact bodyPost_ret (v := .tuple #[.agg stO, .int .i64 0, .int .i64 er, .int .i64 pl]) (results_cell3_7 Tryz.results22 _ _ w.heap.size 48 stO (0, 0) _ rfl (Blk.setRow HX.out.res) Tryz.underlying48 rfl infoSt7) rfl (by rw [← HRS.out]; exact ⟨.slice none 0 0, none, 0, 0, none, 0, 0, 0, rfl, World.ownsRow_nil _ _ _ _, below_row HX.out.bel (Nat.le_refl _) _⟩)
      · rw [readP_first s k a _ hlt hf0] at hres
        generalize firstP ⟨l, (n, r) :: st, gr⟩ (bt s a) = FE at *
        have HF := Lib.hid hF
        have qe : ((FE : Int) != 0) = true := by rw [bne_iff_ne]; omega
        have HRS := Lib.hid hres
        clear hres hF hpi hbd
        go_wp2_with fail
        go_region_held3 (fun w' => w'.cell? ⟨w.heap.size + 1 + 1 + 1, 0, none⟩ = some vN ∧ w'.cell? ⟨w.heap.size + 1 + 1 + 1, 1, none⟩ = some vP ∧ w'.cell? ⟨w.heap.size + 1 + 1 + 1, 2, none⟩ = some vR ∧ w'.cell? ⟨w.heap.size + 1 + 1 + 1, 3, none⟩ = some (.int .i64 gr))
          (first
            | go_keep
            | (go_split_ands; refine ⟨?_, ?_, ?_, ?_⟩ <;> (rw [hb.cell (by simp; omega)]; assumption)))
          ((go_at_call 34; refine (HF.out _ HX.out.sv.drew).mono ?_; rintro en w2 ⟨rfl, hb⟩))
        have hx := (HX.out.below ((Below.refl wr.heap.size wr).drew)).below hb
        clear HX HF hb
        obtain ⟨c0, c1, c2, c3⟩ := (show w2.cell? ⟨w.heap.size + 1 + 1 + 1, 0, none⟩ = some vN ∧ w2.cell? ⟨w.heap.size + 1 + 1 + 1, 1, none⟩ = some vP ∧ w2.cell? ⟨w.heap.size + 1 + 1 + 1, 2, none⟩ = some vR ∧ w2.cell? ⟨w.heap.size + 1 + 1 + 1, 3, none⟩ = some (.int .i64 gr) from ⟨hx.blk.cell 0, hx.blk.cell 1, hx.blk.cell 2, hx.blk.cell 3⟩)
        have HX := Lib.hid hx
        clear hx
        go_wp2_with ((with_reducible refine wpList_store_st (o := ⟨none, .store 48 _ _, _, _, _, _⟩) rfl 48 _ _ rfl w.heap.size rfl rfl (run_storeAt_row _ w.heap.size 48 48 stO stO ?_ ?_ ?_ ?_) ?_); exact HX.out.res; exact infoSt7; rfl; exact st_one7 none none none 0 0 0 0 0 0 0)
        exact bodyPost_ret (v := .tuple #[.agg stO, .int .i64 0, .int .i64 FE, .int .i64 ((a : Int) + 1)]) (results_cell3_7 Tryz.results22 _ _ w.heap.size 48 stO (0, 0) _ rfl (Blk.setRow HX.out.res) Tryz.underlying48 rfl infoSt7) rfl (by rw [← HRS.out]; exact ⟨.slice none 0 0, none, 0, 0, none, 0, 0, 0, rfl, World.ownsRow_nil _ _ _ _, below_row HX.out.bel (Nat.le_refl _) _⟩)
    · obtain rfl : a = s.size := by omega
      have hs1 : SV w.heap.size (w.heap.size + 4) (rdS w.heap.size) l (pS ((n, r) :: st)) (rS ((n, r) :: st)) vN vP vR wr := hr.sv
      rw [pS_cons, rS_cons] at hs1
      obtain ⟨gP, cP, rfl, _⟩ := hs1.topPK (pS_len st)
      have b1 := hbd.1
      have b4 := hbd.2.2 (n, r) (List.mem_cons_self ..)
      simp only at b1 b4
      rw [readP_end] at hres
      by_cases h0 : st = []
      · subst h0
        rw [if_neg (show ¬ 1 < ([(n, r)] : List (Nat × Nat)).length by simp)] at hres
        have HRS : Hid ((⟨l ++ rowT n ++ rowsT (r + 1), [], gr⟩, 0, 0, 0) = RES) := Lib.hid hres
        have HRW := Lib.hid (rrows_calls (gr := gr) (K := 0) (ps := []) (rs := []) wr hs1 rfl rfl (by omega) (by omega) (by omega) (by omega))
        generalize l ++ rowT n ++ rowsT (r + 1) = l2 at *
        clear hres hpi hbd hs1 hr b1 b4
        go_wp2_with fail
        refine HRW.out.mono ?_
        rintro en w5 ⟨vN', vP', vR', rfl, hs5, hk5⟩
        obtain ⟨aN, cN, rfl⟩ := owns_form hs5.nodes
        obtain ⟨aP, cP', rfl⟩ : ∃ a c, vP' = .slice a 0 c := owns_form hs5.pieces
        obtain ⟨aR, cR, rfl⟩ : ∃ a c, vR' = .slice a 0 c := owns_form hs5.rows
        have hb5 := HX.out.res.kpA hk5 (fun h => by rcases h with h | h | h <;> omega)
        have hbel := HX.out.bel.trans (hk5.toBelow (rdS_ge w.heap.size) (Nat.le_of_lt HX.out.res.lt))
        have hn5 := owns_keep hs5.nodes (fun k e => row_kept7 w5 w.heap.size (stW (.slice aN l2.length cN) (.slice aP 0 cP') (.slice aR 0 cR) (gr : Int)) k (by rcases hs5.aN k e with h | h | h <;> omega))
        clear HRW HX hs5 hk5 c0 c1 c2 c3
        go_wp2_with ((with_reducible refine wpList_store_st (o := ⟨none, .store 48 _ _, _, _, _, _⟩) rfl 48 _ _ rfl w.heap.size rfl rfl (run_storeAt_row _ w.heap.size 48 48 stO (stW (.slice aN l2.length cN) (.slice aP 0 cP') (.slice aR 0 cR) (gr : Int)) ?_ ?_ ?_ ?_) ?_); exact hb5; exact infoSt7; rfl; exact st_one7 _ _ _ _ _ _ _ _ _ _)
        exact bodyPost_ret (v := .tuple #[.agg (stW (.slice aN l2.length cN) (.slice aP 0 cP') (.slice aR 0 cR) (gr : Int)), .int .i64 0, .int .i64 0, .int .i64 0]) (results_cell3_7 Tryz.results22 _ _ w.heap.size 48 (stW (.slice aN l2.length cN) (.slice aP 0 cP') (.slice aR 0 cR) (gr : Int)) (0, 0) _ rfl (Blk.setRow hb5) Tryz.underlying48 rfl infoSt7) rfl (by rw [← HRS.out]; exact ⟨_, _, _, _, _, _, _, _, rfl, hn5, below_row hbel (Nat.le_refl _) _⟩)
      · have hl0 : 0 < st.length := List.length_pos_iff.2 h0
        rw [if_pos (show 1 < ((n, r) :: st).length by rw [List.length_cons]; omega)] at hres
        have HRS : Hid ((zPS, st.length, 2, s.size) = RES) := Lib.hid hres
        have ql : decide ((0 : Int) < (st.length : Int)) = true := by rw [decide_eq_true_iff]; omega
        clear hres hpi hbd hs1 hr b1 b4
        go_wp2_with ((with_reducible refine wpList_store_st (o := ⟨none, .store 48 _ _, _, _, _, _⟩) rfl 48 _ _ rfl w.heap.size rfl rfl (run_storeAt_row _ w.heap.size 48 48 stO stO ?_ ?_ ?_ ?_) ?_); exact HX.out.res; exact infoSt7; rfl; exact st_one7 none none none 0 0 0 0 0 0 0)
        exact bodyPost_ret (v := .tuple #[.agg stO, .int .i64 st.length, .int .i64 2, .int .i64 s.size]) (results_cell3_7 Tryz.results22 _ _ w.heap.size 48 stO (0, 0) _ rfl (Blk.setRow HX.out.res) Tryz.underlying48 rfl infoSt7) rfl (by rw [← HRS.out]; exact ⟨.slice none 0 0, none, 0, 0, none, 0, 0, 0, rfl, World.ownsRow_nil _ _ _ _, below_row HX.out.bel (Nat.le_refl _) _⟩)
end Go.Proofs.YtldaaelmifbbhaaGreat

/- The developers' reading: read. Stage 7. -/
namespace Go.Proofs.YtldaaelmifbbhaaGreat
open Go.RowKit BS

theorem info40 : (Tryz.prog.info? 56).map (·.size) = some 2 := by kernel_rfl
/-- Where the reading begins. -/
theorem start_rd (s : ByteArray) (w : World) : RdV w.heap.size (w.heap.size + 1) s 0 sPS (.slice none 0 0) (.slice (some ⟨w.heap.size, 0, none⟩) 1 1) w ((w.alloc (.cells #[.int .i64 0, .int .i64 0] 84)).alloc (.cells (preA s 0 (.slice none 0 0) (.slice (some ⟨w.heap.size, 0, none⟩) 1 1) 0) 59)) := by
  have h1 := Blk.new w #[.int .i64 0, .int .i64 0] 84
  have h2 := Blk.new (w.alloc (.cells #[.int .i64 0, .int .i64 0] 84)) (preA s 0 (.slice none 0 0) (.slice (some ⟨w.heap.size, 0, none⟩) 1 1) 0) 59
  rw [World.size_alloc] at h2
  refine ⟨h2, World.ownsRow_nil _ _ _ _, ⟨rfl, .inr ⟨w.heap.size, 1, _, rfl, Nat.le_refl _, h1.alloc _, Nat.le_refl _, by decide, rfl, rfl⟩⟩, by simp [Value.ownBlock], by simp [Value.ownBlock], .inl rfl, by omega, by go_grown⟩
/-- What read tells. -/
def ReadQ (s : ByteArray) (w : World) (RES : PS × Nat × Nat) (e : Ending) (w' : World) : Prop :=
  (RES.2.1 ≠ 0 ∧ e = .returned (.tuple #[.pointer none, .int .i64 RES.2.1, .int .i64 RES.2.2]) ∧ Below w.heap.size w w') ∨
  (RES.2.1 = 0 ∧ ∃ R a vN vL, e = .returned (.tuple #[.pointer (some ⟨R, 0, none⟩), .int .i64 0, .int .i64 0]) ∧ RdV w.heap.size R s a RES.1 vN vL w w' ∧ Bnd s.size RES.1 ∧ RES.1.st ≠ [])
theorem bnd_le {a b : Nat} {x : PS} (h : Bnd a x) (hb : a ≤ b) : Bnd b x := ⟨by have := h.1; omega, by have := h.2.1; omega, fun p hp => by have := h.2.2 p hp; exact ⟨by omega, by omega⟩⟩
set_option maxRecDepth 100000 in
set_option maxHeartbeats 32000000 in
theorem pread_calls (s : ByteArray) (hs : s.size ≤ 1000000) (w : World) :
    Calls Tryz.prog 23 #[.string s] w fun e w' => ReadQ s w (readM s (s.size + 1) 0 sPS) e w' := by
  have HG := Lib.hid (start_rd s w)
  have hR : readM s (s.size + 1) 0 sPS = readM s (s.size + 1) 0 sPS := rfl
  generalize hRES : readM s (s.size + 1) 0 sPS = RES at *
  have HRES := Lib.hid hRES
  clear hRES hR
  go_enter Tryz.func23, Tryz.ntmps23
  go_upto_region 2 with fail
  have e0 : (w.alloc (.cells #[.int .i64 0, .int .i64 0] 84)).alloc (.cells #[.string s, .int .i64 0, .slice none 0 0, .slice (some ⟨w.heap.size, 0, none⟩) 1 1, .int .i64 0] 59) = (w.alloc (.cells #[.int .i64 0, .int .i64 0] 84)).alloc (.cells (preA s 0 (.slice none 0 0) (.slice (some ⟨w.heap.size, 0, none⟩) 1 1) 0) 59) := rfl
  try rw [e0]
  clear e0
  generalize (w.alloc (.cells #[.int .i64 0, .int .i64 0] 84)).alloc (.cells (preA s 0 (.slice none 0 0) (.slice (some ⟨w.heap.size, 0, none⟩) 1 1) 0) 59) = w1 at *
  go_loopw [9] (fun _ wr => ∃ (k a : Nat) (x : PS) (vN vL : Value), a ≤ s.size ∧ s.size < k + a ∧ readM s k a x = RES ∧ PInv x ∧ Bnd a x ∧ RdV w.heap.size (w.heap.size + 1) s a x vN vL w wr) (fun _ wr => s.size - (intOf ((wr.cell? ⟨w.heap.size + 1, 1, none⟩).getD undef)).toNat)
  case atStart => exact ⟨s.size + 1, 0, sPS, _, _, Nat.zero_le _, by omega, HRES.out, sPS_inv, sPS_bnd, HG.out⟩
  case round =>
    clear HG HRES
    obtain ⟨k, a, x, vN, vL, ha, hk, hres, hpi, hbd, hr⟩ := hrel
    obtain ⟨k, rfl⟩ : ∃ m, k = m + 1 := ⟨k - 1, by omega⟩
    have c1 := hr.c.2.1
    have HC1 := Lib.hid c1
    by_cases hlt : a < s.size
    · obtain ⟨l, st, gr⟩ := x
      obtain _ | ⟨⟨n, r⟩, st⟩ := st
      · exact absurd rfl hpi.1
      have hsl := hbd.2.1
      simp only [List.length_cons] at hsl
      obtain ⟨gL, capL, rfl, _⟩ := hr.top rfl
      have c3 : wr.cell? ⟨w.heap.size + 1, 3, none⟩ = some (.slice (some ⟨gL, 0, none⟩) (st.length + 1 : Nat) capL) := hr.c.2.2.2.1
      have HLV := Lib.hid (fun W (h3 : W.cell? ⟨w.heap.size + 1, 3, none⟩ = some (.slice (some ⟨gL, 0, none⟩) (st.length + 1 : Nat) capL)) => plevel_calls (w.heap.size + 1) gL st.length capL W h3 (by omega))
      have HR := Lib.hid hr
      have HB := Lib.hid hr.bel
      clear hr hsl
      have hb0 : s[a].toNat = bt s a := (bt_eq s a hlt).symm
      have hi := ib_eq [42, 43, 63, 123] (by decide) (bt s a) (bt_lt s a)
      have HI : Hid (∀ w, Calls Tryz.prog 38 #[.string ⟨#[42, 43, 63, 123]⟩, .int .u8 (bt s a)] w fun e w' => e = .returned (.int .i64 (Lib.indexByte (ofT [42, 43, 63, 123]).data.toList ((bt s a : Int)).toNat.toUInt8)) ∧ w = w') := Lib.hid (ib_calls (ofT [42, 43, 63, 123]) (bt s a))
      generalize Lib.indexByte (ofT [42, 43, 63, 123]).data.toList ((bt s a : Int)).toNat.toUInt8 = ix at *
      by_cases hc : bt s a = 42 ∨ bt s a = 43 ∨ bt s a = 63 ∨ bt s a = 123
      · have hix : decide (0 ≤ ix) = true := by rw [hi]; rcases hc with h | h | h | h <;> rw [h] <;> rfl
        clear hi
        by_cases hn : n = 0
        · subst hn
          rw [readM_first s k a _ 7 hlt (by unfold firstP; simp only; rw [if_pos hc]; simp) (by decide)] at hres
          subst hres
          clear hpi hbd hc
          go_wp2_with (go_at_call 38; refine (HI.out _).mono ?_; rintro e w' ⟨rfl, rfl⟩)
          refine (HLV.out _ c3).mono ?_
          rintro e w1 ⟨rfl, hb1⟩
          have hr1 := HR.out.below hb1
          have c1' := hr1.c.2.1
          clear HR c1 c3 hb1 HB HLV
          obtain ⟨_, _, ee, _, _, _, _, t0, t1, f0, f1, _⟩ := hr1.top rfl
          cases ee
          have HB := Lib.hid hr1.bel
          clear hr1
          go_wp2_with fail
          go_quiet (fail)
          go_wp2_with fail
          exact bodyPost_ret (v := .tuple #[.pointer none, .int .i64 7, .int .i64 ((a : Int) + 1)]) (by simp [results, Tryz.results23, go_sem] <;> rfl) rfl (.inl ⟨(show (7 : Nat) ≠ 0 by decide), rfl, below_drN HB.out _⟩)
        · have qn : ((n : Int) == 0) = false := by rw [beq_eq_false_iff_ne]; omega
          obtain ⟨vX, hvX⟩ : ∃ X, nextA s a = X := ⟨_, rfl⟩
          obtain ⟨⟨xk, xp, xf, xt, xn, xm⟩, er, pl⟩ := vX
          have hE := nextA_end s a hlt
          have hcc : bt s a = 42 ∨ bt s a = 43 ∨ bt s a = 63 ∨ bt s a = 123 → n ≠ 0 := fun _ => hn
          rw [hvX] at hE
          rcases hE with ⟨h1, h2, h3, h4, h5, h6⟩ | ⟨h1, _⟩
          · simp only at h1 h2 h4 h5 h6
            subst h1
            subst h2
            subst h4
            have hNX := fun W (h : RdV w.heap.size (w.heap.size + 1) s xp ⟨l, (n, r) :: st, gr⟩ vN (.slice (some ⟨gL, 0, none⟩) (st.length + 1 : Nat) capL) w W) => pnext_calls hs xk xp xf xt xn xm 0 0 (by rw [← (next_in s xp hlt).1]; exact hvX) W h
            simp only [if_true] at hNX
            have hft := first_tk s xp ⟨l, (n, r) :: st, gr⟩ n r st ⟨xk, xp, xf, xt, xn, xm⟩ rfl hvX hcc
            have hTK := fun W (h : RdV w.heap.size (w.heap.size + 1) s xf ⟨l, (n, r) :: st, gr⟩ vN (.slice (some ⟨gL, 0, none⟩) (st.length + 1 : Nat) capL) w W) => ptake_calls hs ⟨l, (n, r) :: st, gr⟩ ⟨xk, xp, xf, xt, xn, xm⟩ h3 hbd (by simp) ha hpi.2.2.2 W h
            have hbd2 := take_bnd xp xf ⟨l, (n, r) :: st, gr⟩ ⟨xk, xp, xf, xt, xn, xm⟩ hbd h5
            by_cases htk : tkE ⟨l, (n, r) :: st, gr⟩ ⟨xk, xp, xf, xt, xn, xm⟩ = 0
            · rw [htk] at hft
              have hpi2 := take_inv s xp ⟨l, (n, r) :: st, gr⟩ ⟨xk, xp, xf, xt, xn, xm⟩ hpi hft h3 (next_kinds s xp _ hvX).1 (next_kinds s xp _ hvX).2.1 (next_kinds s xp _ hvX).2.2
              rw [readM_step s k xp _ ⟨xk, xp, xf, xt, xn, xm⟩ 0 hlt hft hvX] at hres
              rw [htk] at hTK
              have HNX : Hid (∀ W, RdV w.heap.size (w.heap.size + 1) s xp ⟨l, (n, r) :: st, gr⟩ vN (.slice (some ⟨gL, 0, none⟩) (st.length + 1 : Nat) capL) w W → Calls Tryz.prog 40 #[.pointer (some ⟨w.heap.size + 1, 0, none⟩)] W fun e w' => e = .returned (.tuple #[.agg (woI xk xp xf xt xn xm), .int .i64 0, .int .i64 0]) ∧ RdV w.heap.size (w.heap.size + 1) s xf ⟨l, (n, r) :: st, gr⟩ vN (.slice (some ⟨gL, 0, none⟩) (st.length + 1 : Nat) capL) w w') := Lib.hid hNX
              have HTK : Hid (∀ W, RdV w.heap.size (w.heap.size + 1) s xf ⟨l, (n, r) :: st, gr⟩ vN (.slice (some ⟨gL, 0, none⟩) (st.length + 1 : Nat) capL) w W → Calls Tryz.prog 41 #[.pointer (some ⟨w.heap.size + 1, 0, none⟩), .agg (woI xk xp xf xt xn xm)] W fun e w' => e = .returned (.int .i64 0) ∧ (0 = 0 → ∃ vN' vL', RdV w.heap.size (w.heap.size + 1) s xf (takeP ⟨l, (n, r) :: st, gr⟩ ⟨xk, xp, xf, xt, xn, xm⟩) vN' vL' w w') ∧ ((0 : Nat) ≠ 0 → Below W.heap.size W w')) := Lib.hid hTK
              have HF := Lib.hid (show _ ∧ _ ∧ _ ∧ _ ∧ _ from ⟨hres, hpi2, hbd2, h5, h6⟩)
              clear hres hpi2 hbd2 h5 h6 hNX hTK hft htk h3 hvX hcc hpi hbd
              go_wp2_with (go_at_call 38; refine (HI.out _).mono ?_; rintro e w' ⟨rfl, rfl⟩)
              refine (HLV.out _ c3).mono ?_
              rintro e w1 ⟨rfl, hb1⟩
              have hr1 := HR.out.below hb1
              clear HR c1 c3 hb1 HB HLV
              obtain ⟨_, _, ee, _, _, _, _, t0, t1, f0, f1, _⟩ := hr1.top rfl
              cases ee
              have HR := Lib.hid hr1
              have HB := Lib.hid hr1.bel
              clear hr1
              go_wp2_with fail
              refine (HNX.out _ HR.out).mono ?_
              rintro e w2 ⟨rfl, hr2⟩
              clear HNX HR HB
              go_upto_region 6 with fail
              have HW := Lib.hid (Blk.new w2 (woI xk xp xf xt xn xm) 40)
              have HR := Lib.hid (hr2.alloc (.cells (woI xk xp xf xt xn xm) 40))
              clear hr2
              generalize w2.alloc (.cells (woI xk xp xf xt xn xm) 40) = w3 at *
              generalize w2.heap.size = gW at *
              have g0 := HW.out.cell 0; have g1 := HW.out.cell 1; have g2 := HW.out.cell 2; have g3 := HW.out.cell 3; have g4 := HW.out.cell 4; have g5 := HW.out.cell 5; have g6 := HW.out.cell 6; have g7 := HW.out.cell 7; have g8 := HW.out.cell 8
              simp only [List.getElem?_toArray, List.getElem?_cons_zero, List.getElem?_cons_succ] at g0 g1 g2 g3 g4 g5 g6 g7 g8
              go_wp2_with fail
              refine (HTK.out _ HR.out).mono ?_
              rintro e w4 ⟨rfl, hr4, _⟩
              obtain ⟨vN2, vL2, hr4⟩ := hr4 trivial
              clear HTK HR HW g0 g1 g2 g3 g4 g5 g6 g7 g8
              have HR := Lib.hid hr4
              have cA := hr4.c.2.1
              clear hr4
              go_wp2_with fail
              go_roundw
              case rel =>
                obtain ⟨q1, q2, q3, q4, q5⟩ := HF.out
                exact ⟨k, xf, _, vN2, vL2, q5, by omega, q1, q2, q3, HR.out⟩
              case measure =>
                obtain ⟨_, _, _, q4, _⟩ := HF.out
                rw [cA, HC1.out]
                simp [intOf]; omega
            · have hfn : firstP ⟨l, (n, r) :: st, gr⟩ (bt s xp) ≠ 0 := by rw [hft]; exact htk
              rw [readM_first s k xp _ _ hlt hft htk] at hres
              have qe : ((tkE ⟨l, (n, r) :: st, gr⟩ ⟨xk, xp, xf, xt, xn, xm⟩ : Int) != 0) = true := by rw [bne_iff_ne]; omega
              have HNE := Lib.hid htk
              generalize tkE ⟨l, (n, r) :: st, gr⟩ ⟨xk, xp, xf, xt, xn, xm⟩ = TE at *
              have HNX : Hid (∀ W, RdV w.heap.size (w.heap.size + 1) s xp ⟨l, (n, r) :: st, gr⟩ vN (.slice (some ⟨gL, 0, none⟩) (st.length + 1 : Nat) capL) w W → Calls Tryz.prog 40 #[.pointer (some ⟨w.heap.size + 1, 0, none⟩)] W fun e w' => e = .returned (.tuple #[.agg (woI xk xp xf xt xn xm), .int .i64 0, .int .i64 0]) ∧ RdV w.heap.size (w.heap.size + 1) s xf ⟨l, (n, r) :: st, gr⟩ vN (.slice (some ⟨gL, 0, none⟩) (st.length + 1 : Nat) capL) w w') := Lib.hid hNX
              have HTK : Hid (∀ W, RdV w.heap.size (w.heap.size + 1) s xf ⟨l, (n, r) :: st, gr⟩ vN (.slice (some ⟨gL, 0, none⟩) (st.length + 1 : Nat) capL) w W → Calls Tryz.prog 41 #[.pointer (some ⟨w.heap.size + 1, 0, none⟩), .agg (woI xk xp xf xt xn xm)] W fun e w' => e = .returned (.int .i64 TE) ∧ (TE = 0 → ∃ vN' vL', RdV w.heap.size (w.heap.size + 1) s xf (takeP ⟨l, (n, r) :: st, gr⟩ ⟨xk, xp, xf, xt, xn, xm⟩) vN' vL' w w') ∧ (TE ≠ 0 → Below W.heap.size W w')) := Lib.hid hTK
              have HRS := Lib.hid hres
              clear hres hbd2 h5 h6 hNX hTK hft htk h3 hvX hcc hpi hbd hfn
              go_wp2_with (go_at_call 38; refine (HI.out _).mono ?_; rintro e w' ⟨rfl, rfl⟩)
              refine (HLV.out _ c3).mono ?_
              rintro e w1 ⟨rfl, hb1⟩
              have hr1 := HR.out.below hb1
              clear HR c1 c3 hb1 HB HLV
              obtain ⟨_, _, ee, _, _, _, _, t0, t1, f0, f1, _⟩ := hr1.top rfl
              cases ee
              have HR := Lib.hid hr1
              have HB := Lib.hid hr1.bel
              clear hr1
              go_wp2_with fail
              refine (HNX.out _ HR.out).mono ?_
              rintro e w2 ⟨rfl, hr2⟩
              clear HNX HR HB
              go_upto_region 6 with fail
              have HW := Lib.hid (Blk.new w2 (woI xk xp xf xt xn xm) 40)
              have HR := Lib.hid (hr2.alloc (.cells (woI xk xp xf xt xn xm) 40))
              clear hr2
              generalize w2.alloc (.cells (woI xk xp xf xt xn xm) 40) = w3 at *
              generalize w2.heap.size = gW at *
              have g0 := HW.out.cell 0; have g1 := HW.out.cell 1; have g2 := HW.out.cell 2; have g3 := HW.out.cell 3; have g4 := HW.out.cell 4; have g5 := HW.out.cell 5; have g6 := HW.out.cell 6; have g7 := HW.out.cell 7; have g8 := HW.out.cell 8
              simp only [List.getElem?_toArray, List.getElem?_cons_zero, List.getElem?_cons_succ] at g0 g1 g2 g3 g4 g5 g6 g7 g8
              go_wp2_with fail
              refine (HTK.out _ HR.out).mono ?_
              rintro e w4 ⟨rfl, _, hb4⟩
              replace hb4 := hb4 HNE.out
              have hw4 := HW.out.below hb4 HW.out.lt
              have HB4 := Lib.hid ((HR.out.below hb4).bel)
              clear HTK HR HW g0 g1 g2 g3 g4 g5 g6 g7 g8 hb4
              have g1 := hw4.cell 1
              simp only [List.getElem?_toArray, List.getElem?_cons_zero, List.getElem?_cons_succ] at g1
              clear hw4
              go_wp2_with fail
              go_quiet (fail)
              go_wp2_with fail
              rw [← HRS.out]
              exact bodyPost_ret (v := .tuple #[.pointer none, .int .i64 TE, .int .i64 ((xp : Int) + 1)]) (by simp [results, Tryz.results23, go_sem] <;> rfl) rfl (.inl ⟨HNE.out, rfl, below_drN HB4.out _⟩)
          · simp only at h1
            have hft := first_err s a ⟨l, (n, r) :: st, gr⟩ n r st _ er pl rfl hvX h1 hcc
            rw [readM_err s k a _ _ er pl hlt hft hvX h1] at hres
            have hNX := fun W (h : RdV w.heap.size (w.heap.size + 1) s a ⟨l, (n, r) :: st, gr⟩ vN (.slice (some ⟨gL, 0, none⟩) (st.length + 1 : Nat) capL) w W) => pnext_calls hs xk xp xf xt xn xm er pl (by rw [← (next_in s a hlt).1]; exact hvX) W h
            simp only [if_neg h1] at hNX
            have HNX : Hid (∀ W, RdV w.heap.size (w.heap.size + 1) s a ⟨l, (n, r) :: st, gr⟩ vN (.slice (some ⟨gL, 0, none⟩) (st.length + 1 : Nat) capL) w W → Calls Tryz.prog 40 #[.pointer (some ⟨w.heap.size + 1, 0, none⟩)] W fun e w' => e = .returned (.tuple #[.agg (woI xk xp xf xt xn xm), .int .i64 er, .int .i64 pl]) ∧ RdV w.heap.size (w.heap.size + 1) s a ⟨l, (n, r) :: st, gr⟩ vN (.slice (some ⟨gL, 0, none⟩) (st.length + 1 : Nat) capL) w w') := Lib.hid hNX
            have qe : ((er : Int) != 0) = true := by rw [bne_iff_ne]; omega
            have HNE := Lib.hid h1
            have HRS := Lib.hid hres
            clear hres hNX hft h1 hvX hcc hpi hbd
            go_wp2_with (go_at_call 38; refine (HI.out _).mono ?_; rintro e w' ⟨rfl, rfl⟩)
            refine (HLV.out _ c3).mono ?_
            rintro e w1 ⟨rfl, hb1⟩
            have hr1 := HR.out.below hb1
            clear HR c1 c3 hb1 HB HLV
            obtain ⟨_, _, ee, _, _, _, _, t0, t1, f0, f1, _⟩ := hr1.top rfl
            cases ee
            have HR := Lib.hid hr1
            have HB := Lib.hid hr1.bel
            clear hr1
            go_wp2_with fail
            refine (HNX.out _ HR.out).mono ?_
            rintro e w2 ⟨rfl, hr2⟩
            clear HNX HR HB
            have HB2 := Lib.hid hr2.bel
            have hsz := hr2.size
            clear hr2
            go_wp2_with fail
            rw [← HRS.out]
            exact bodyPost_ret (v := .tuple #[.pointer none, .int .i64 er, .int .i64 pl]) (by simp [results, Tryz.results23, go_sem] <;> rfl) rfl (.inl ⟨HNE.out, rfl, HB2.out.alloc hsz _⟩)
      · have hix : decide (0 ≤ ix) = false := by
          rw [hi, Bool.eq_false_iff]
          intro h
          simp at h
          omega
        clear hi
        obtain ⟨vX, hvX⟩ : ∃ X, nextA s a = X := ⟨_, rfl⟩
        obtain ⟨⟨xk, xp, xf, xt, xn, xm⟩, er, pl⟩ := vX
        have hE := nextA_end s a hlt
        have hcc : bt s a = 42 ∨ bt s a = 43 ∨ bt s a = 63 ∨ bt s a = 123 → n ≠ 0 := fun h => absurd h hc
        rw [hvX] at hE
        rcases hE with ⟨h1, h2, h3, h4, h5, h6⟩ | ⟨h1, _⟩
        · simp only at h1 h2 h4 h5 h6
          subst h1
          subst h2
          subst h4
          have hNX := fun W (h : RdV w.heap.size (w.heap.size + 1) s xp ⟨l, (n, r) :: st, gr⟩ vN (.slice (some ⟨gL, 0, none⟩) (st.length + 1 : Nat) capL) w W) => pnext_calls hs xk xp xf xt xn xm 0 0 (by rw [← (next_in s xp hlt).1]; exact hvX) W h
          simp only [if_true] at hNX
          have hft := first_tk s xp ⟨l, (n, r) :: st, gr⟩ n r st ⟨xk, xp, xf, xt, xn, xm⟩ rfl hvX hcc
          have hTK := fun W (h : RdV w.heap.size (w.heap.size + 1) s xf ⟨l, (n, r) :: st, gr⟩ vN (.slice (some ⟨gL, 0, none⟩) (st.length + 1 : Nat) capL) w W) => ptake_calls hs ⟨l, (n, r) :: st, gr⟩ ⟨xk, xp, xf, xt, xn, xm⟩ h3 hbd (by simp) ha hpi.2.2.2 W h
          have hbd2 := take_bnd xp xf ⟨l, (n, r) :: st, gr⟩ ⟨xk, xp, xf, xt, xn, xm⟩ hbd h5
          by_cases htk : tkE ⟨l, (n, r) :: st, gr⟩ ⟨xk, xp, xf, xt, xn, xm⟩ = 0
          · rw [htk] at hft
            have hpi2 := take_inv s xp ⟨l, (n, r) :: st, gr⟩ ⟨xk, xp, xf, xt, xn, xm⟩ hpi hft h3 (next_kinds s xp _ hvX).1 (next_kinds s xp _ hvX).2.1 (next_kinds s xp _ hvX).2.2
            rw [readM_step s k xp _ ⟨xk, xp, xf, xt, xn, xm⟩ 0 hlt hft hvX] at hres
            rw [htk] at hTK
            have HNX : Hid (∀ W, RdV w.heap.size (w.heap.size + 1) s xp ⟨l, (n, r) :: st, gr⟩ vN (.slice (some ⟨gL, 0, none⟩) (st.length + 1 : Nat) capL) w W → Calls Tryz.prog 40 #[.pointer (some ⟨w.heap.size + 1, 0, none⟩)] W fun e w' => e = .returned (.tuple #[.agg (woI xk xp xf xt xn xm), .int .i64 0, .int .i64 0]) ∧ RdV w.heap.size (w.heap.size + 1) s xf ⟨l, (n, r) :: st, gr⟩ vN (.slice (some ⟨gL, 0, none⟩) (st.length + 1 : Nat) capL) w w') := Lib.hid hNX
            have HTK : Hid (∀ W, RdV w.heap.size (w.heap.size + 1) s xf ⟨l, (n, r) :: st, gr⟩ vN (.slice (some ⟨gL, 0, none⟩) (st.length + 1 : Nat) capL) w W → Calls Tryz.prog 41 #[.pointer (some ⟨w.heap.size + 1, 0, none⟩), .agg (woI xk xp xf xt xn xm)] W fun e w' => e = .returned (.int .i64 0) ∧ (0 = 0 → ∃ vN' vL', RdV w.heap.size (w.heap.size + 1) s xf (takeP ⟨l, (n, r) :: st, gr⟩ ⟨xk, xp, xf, xt, xn, xm⟩) vN' vL' w w') ∧ ((0 : Nat) ≠ 0 → Below W.heap.size W w')) := Lib.hid hTK
            have HF := Lib.hid (show _ ∧ _ ∧ _ ∧ _ ∧ _ from ⟨hres, hpi2, hbd2, h5, h6⟩)
            clear hres hpi2 hbd2 h5 h6 hNX hTK hft htk h3 hvX hcc hpi hbd
            go_wp2_with (go_at_call 38; refine (HI.out _).mono ?_; rintro e w' ⟨rfl, rfl⟩)
            refine (HNX.out _ HR.out).mono ?_
            rintro e w2 ⟨rfl, hr2⟩
            clear HNX HR HB
            go_upto_region 6 with fail
            have HW := Lib.hid (Blk.new w2 (woI xk xp xf xt xn xm) 40)
            have HR := Lib.hid (hr2.alloc (.cells (woI xk xp xf xt xn xm) 40))
            clear hr2
            generalize w2.alloc (.cells (woI xk xp xf xt xn xm) 40) = w3 at *
            generalize w2.heap.size = gW at *
            have g0 := HW.out.cell 0; have g1 := HW.out.cell 1; have g2 := HW.out.cell 2; have g3 := HW.out.cell 3; have g4 := HW.out.cell 4; have g5 := HW.out.cell 5; have g6 := HW.out.cell 6; have g7 := HW.out.cell 7; have g8 := HW.out.cell 8
            simp only [List.getElem?_toArray, List.getElem?_cons_zero, List.getElem?_cons_succ] at g0 g1 g2 g3 g4 g5 g6 g7 g8
            go_wp2_with fail
            refine (HTK.out _ HR.out).mono ?_
            rintro e w4 ⟨rfl, hr4, _⟩
            obtain ⟨vN2, vL2, hr4⟩ := hr4 trivial
            clear HTK HR HW g0 g1 g2 g3 g4 g5 g6 g7 g8
            have HR := Lib.hid hr4
            have cA := hr4.c.2.1
            clear hr4
            go_wp2_with fail
            go_roundw
            case rel =>
              obtain ⟨q1, q2, q3, q4, q5⟩ := HF.out
              exact ⟨k, xf, _, vN2, vL2, q5, by omega, q1, q2, q3, HR.out⟩
            case measure =>
              obtain ⟨_, _, _, q4, _⟩ := HF.out
              rw [cA, HC1.out]
              simp [intOf]; omega
          · have hfn : firstP ⟨l, (n, r) :: st, gr⟩ (bt s xp) ≠ 0 := by rw [hft]; exact htk
            rw [readM_first s k xp _ _ hlt hft htk] at hres
            have qe : ((tkE ⟨l, (n, r) :: st, gr⟩ ⟨xk, xp, xf, xt, xn, xm⟩ : Int) != 0) = true := by rw [bne_iff_ne]; omega
            have HNE := Lib.hid htk
            generalize tkE ⟨l, (n, r) :: st, gr⟩ ⟨xk, xp, xf, xt, xn, xm⟩ = TE at *
            have HNX : Hid (∀ W, RdV w.heap.size (w.heap.size + 1) s xp ⟨l, (n, r) :: st, gr⟩ vN (.slice (some ⟨gL, 0, none⟩) (st.length + 1 : Nat) capL) w W → Calls Tryz.prog 40 #[.pointer (some ⟨w.heap.size + 1, 0, none⟩)] W fun e w' => e = .returned (.tuple #[.agg (woI xk xp xf xt xn xm), .int .i64 0, .int .i64 0]) ∧ RdV w.heap.size (w.heap.size + 1) s xf ⟨l, (n, r) :: st, gr⟩ vN (.slice (some ⟨gL, 0, none⟩) (st.length + 1 : Nat) capL) w w') := Lib.hid hNX
            have HTK : Hid (∀ W, RdV w.heap.size (w.heap.size + 1) s xf ⟨l, (n, r) :: st, gr⟩ vN (.slice (some ⟨gL, 0, none⟩) (st.length + 1 : Nat) capL) w W → Calls Tryz.prog 41 #[.pointer (some ⟨w.heap.size + 1, 0, none⟩), .agg (woI xk xp xf xt xn xm)] W fun e w' => e = .returned (.int .i64 TE) ∧ (TE = 0 → ∃ vN' vL', RdV w.heap.size (w.heap.size + 1) s xf (takeP ⟨l, (n, r) :: st, gr⟩ ⟨xk, xp, xf, xt, xn, xm⟩) vN' vL' w w') ∧ (TE ≠ 0 → Below W.heap.size W w')) := Lib.hid hTK
            have HRS := Lib.hid hres
            clear hres hbd2 h5 h6 hNX hTK hft htk h3 hvX hcc hpi hbd hfn
            go_wp2_with (go_at_call 38; refine (HI.out _).mono ?_; rintro e w' ⟨rfl, rfl⟩)
            refine (HNX.out _ HR.out).mono ?_
            rintro e w2 ⟨rfl, hr2⟩
            clear HNX HR HB
            go_upto_region 6 with fail
            have HW := Lib.hid (Blk.new w2 (woI xk xp xf xt xn xm) 40)
            have HR := Lib.hid (hr2.alloc (.cells (woI xk xp xf xt xn xm) 40))
            clear hr2
            generalize w2.alloc (.cells (woI xk xp xf xt xn xm) 40) = w3 at *
            generalize w2.heap.size = gW at *
            have g0 := HW.out.cell 0; have g1 := HW.out.cell 1; have g2 := HW.out.cell 2; have g3 := HW.out.cell 3; have g4 := HW.out.cell 4; have g5 := HW.out.cell 5; have g6 := HW.out.cell 6; have g7 := HW.out.cell 7; have g8 := HW.out.cell 8
            simp only [List.getElem?_toArray, List.getElem?_cons_zero, List.getElem?_cons_succ] at g0 g1 g2 g3 g4 g5 g6 g7 g8
            go_wp2_with fail
            refine (HTK.out _ HR.out).mono ?_
            rintro e w4 ⟨rfl, _, hb4⟩
            replace hb4 := hb4 HNE.out
            have hw4 := HW.out.below hb4 HW.out.lt
            have HB4 := Lib.hid ((HR.out.below hb4).bel)
            clear HTK HR HW g0 g1 g2 g3 g4 g5 g6 g7 g8 hb4
            have g1 := hw4.cell 1
            simp only [List.getElem?_toArray, List.getElem?_cons_zero, List.getElem?_cons_succ] at g1
            clear hw4
            go_wp2_with fail
            go_quiet (fail)
            go_wp2_with fail
            rw [← HRS.out]
            exact bodyPost_ret (v := .tuple #[.pointer none, .int .i64 TE, .int .i64 ((xp : Int) + 1)]) (by simp [results, Tryz.results23, go_sem] <;> rfl) rfl (.inl ⟨HNE.out, rfl, below_drN HB4.out _⟩)
        · simp only at h1
          have hft := first_err s a ⟨l, (n, r) :: st, gr⟩ n r st _ er pl rfl hvX h1 hcc
          rw [readM_err s k a _ _ er pl hlt hft hvX h1] at hres
          have hNX := fun W (h : RdV w.heap.size (w.heap.size + 1) s a ⟨l, (n, r) :: st, gr⟩ vN (.slice (some ⟨gL, 0, none⟩) (st.length + 1 : Nat) capL) w W) => pnext_calls hs xk xp xf xt xn xm er pl (by rw [← (next_in s a hlt).1]; exact hvX) W h
          simp only [if_neg h1] at hNX
          have HNX : Hid (∀ W, RdV w.heap.size (w.heap.size + 1) s a ⟨l, (n, r) :: st, gr⟩ vN (.slice (some ⟨gL, 0, none⟩) (st.length + 1 : Nat) capL) w W → Calls Tryz.prog 40 #[.pointer (some ⟨w.heap.size + 1, 0, none⟩)] W fun e w' => e = .returned (.tuple #[.agg (woI xk xp xf xt xn xm), .int .i64 er, .int .i64 pl]) ∧ RdV w.heap.size (w.heap.size + 1) s a ⟨l, (n, r) :: st, gr⟩ vN (.slice (some ⟨gL, 0, none⟩) (st.length + 1 : Nat) capL) w w') := Lib.hid hNX
          have qe : ((er : Int) != 0) = true := by rw [bne_iff_ne]; omega
          have HNE := Lib.hid h1
          have HRS := Lib.hid hres
          clear hres hNX hft h1 hvX hcc hpi hbd
          go_wp2_with (go_at_call 38; refine (HI.out _).mono ?_; rintro e w' ⟨rfl, rfl⟩)
          refine (HNX.out _ HR.out).mono ?_
          rintro e w2 ⟨rfl, hr2⟩
          clear HNX HR HB
          have HB2 := Lib.hid hr2.bel
          have hsz := hr2.size
          clear hr2
          go_wp2_with fail
          rw [← HRS.out]
          exact bodyPost_ret (v := .tuple #[.pointer none, .int .i64 er, .int .i64 pl]) (by simp [results, Tryz.results23, go_sem] <;> rfl) rfl (.inl ⟨HNE.out, rfl, HB2.out.alloc hsz _⟩)
    · obtain rfl : a = s.size := by omega
      rw [readM_end] at hres
      subst hres
      have HR := Lib.hid hr
      have HF := Lib.hid (show _ ∧ _ from ⟨hpi.1, hbd⟩)
      clear hpi hbd hr
      go_wp2_with fail
      exact bodyPost_ret (v := .tuple #[.pointer (some ⟨w.heap.size + 1, 0, none⟩), .int .i64 0, .int .i64 0]) (by simp [results, Tryz.results23, go_sem] <;> rfl) rfl (.inr ⟨rfl, _, _, _, _, rfl, HR.out, HF.out.2, HF.out.1⟩)
end Go.Proofs.YtldaaelmifbbhaaGreat

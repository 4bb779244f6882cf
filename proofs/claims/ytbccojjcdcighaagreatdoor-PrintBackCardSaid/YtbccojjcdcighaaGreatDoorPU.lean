/- Texts put together: Ra Sz Rm Ta. -/
import Derived.Test.YtbccojjcdcighaaGreatDoorPR
import Derived.Test.YtbccojjcdcighaaGreatDoorPD
import Derived.Laws.Rows
import Derived.Deep.MidRow
import Derived.Maps.AppendAt
import Derived.Test.YtbccojjcdcighaaGreatDoorPB
namespace Go.Proofs.YtbccojjcdcighaaGreatDoor
open Go.RowKit BS
set_option maxHeartbeats 400000 in
theorem rhas_calls (a : BitVec 256) (x : Int) (w : World) (h0 : 0 ≤ x) (h1 : x < 256) :
    Calls Tryz.prog 85 #[setV a, .int .i64 x] w fun e w' => e = .returned (.bool (a.getLsbD x.toNat)) ∧ Below w.heap.size w w' := by
  have hx2 : 0 ≤ x % 64 := by omega
  have hx3 : x % 64 < 64 := by omega
  have h4 : x / 64 = 0 ∨ x / 64 = 1 ∨ x / 64 = 2 ∨ x / 64 = 3 := by omega
  rcases h4 with hx | hx | hx | hx
  all_goals
    go_enter Tryz.func85, Tryz.ntmps85
    go_wp2
    go_ret
    refine ⟨ret_bool (has_word' a x _ _ ?_ ?_), by go_grown⟩ <;> omega
def Bools (arr : Array Value) (f : Nat → Bool) : Prop := arr.size = 256 ∧ ∀ i, i < 256 → arr[i]? = some (.bool (f i))
theorem Bools.set {arr : Array Value} {f : Nat → Bool} (h : Bools arr f) (i : Nat) (b : Bool) : Bools (arr.setIfInBounds i (.bool b)) (fun j => if j = i then b else f j) := by
  refine ⟨by simpa using h.1, fun j hj => ?_⟩
  by_cases hji : j = i
  · subst hji
    have : j < arr.size := by rw [h.1]; exact hj
    simp [this]
  · rw [Array.getElem?_setIfInBounds_ne (Ne.symm hji), h.2 j hj]; simp [hji]
theorem ofFn_congr {f g : Nat → Bool} (h : ∀ j, j < 256 → f j = g j) : ofFn f = ofFn g := by
  apply BitVec.eq_of_getLsbD_eq; intro j hj
  rw [get_ofFn, get_ofFn, h j hj]
def pre (f : Nat → Bool) (k : Nat) : BitVec 256 := ofFn fun j => decide (j < k) && f j
theorem pre_true (f : Nat → Bool) (k : Nat) (h : f k = true) : pre f (k + 1) = pre f k ||| one k := by
  apply BitVec.eq_of_getLsbD_eq; intro j hj
  rw [BitVec.getLsbD_or, pre, pre, one, get_ofFn, get_ofFn, get_ofFn]
  simp only [hj, decide_true, Bool.true_and]
  by_cases hjk : j = k
  · subst hjk; simp [h]
  · have : (j < k + 1) ↔ (j < k) := by omega
    simp [this, hjk]
theorem pre_false (f : Nat → Bool) (k : Nat) (h : f k = false) : pre f (k + 1) = pre f k := by
  apply ofFn_congr; intro j hj
  by_cases hjk : j = k
  · subst hjk; simp [h]
  · have : (j < k + 1) ↔ (j < k) := by omega
    simp [this]
theorem pre_all (f : Nat → Bool) : pre f 256 = ofFn f := ofFn_congr fun j hj => by simp [hj]
theorem pre_none (f : Nat → Bool) : pre f 0 = 0 := by
  apply BitVec.eq_of_getLsbD_eq; intro j hj
  rw [pre, get_ofFn]; simp
theorem fin4 {w W : World} {n B : Nat} {a b c d : Value} {T : TypeId} (h : Blk W B #[a, b, c, d] T) (hb : Below n w W) (hB : n ≤ B) (t : BitVec 256) :
    Blk ((((W.setCell ⟨B, 0, none⟩ (.int .u64 (wd t 0))).setCell ⟨B, 1, none⟩ (.int .u64 (wd t 1))).setCell ⟨B, 2, none⟩ (.int .u64 (wd t 2))).setCell ⟨B, 3, none⟩ (.int .u64 (wd t 3))) B (setA t) T ∧
    Below n w ((((W.setCell ⟨B, 0, none⟩ (.int .u64 (wd t 0))).setCell ⟨B, 1, none⟩ (.int .u64 (wd t 1))).setCell ⟨B, 2, none⟩ (.int .u64 (wd t 2))).setCell ⟨B, 3, none⟩ (.int .u64 (wd t 3))) :=
  ⟨(((h.set 0 _).set 1 _).set 2 _).set 3 _, below_set (below_set (below_set (below_set hb hB _ _) hB _ _) hB _ _) hB _ _⟩
def SO (w : World) (arr : Array Value) (t : BitVec 256) (W : World) : Prop :=
  (Blk W w.heap.size arr 152 ∧ Blk W (w.heap.size + 1) (setA 0) 43 ∧ Blk W (w.heap.size + 1 + 1) (setA t) 43) ∧ Below w.heap.size w W
theorem drew_ok {w W : World} {arr : Array Value} {t : BitVec 256} (h : SO w arr t W) : SO w arr t W.drew := ⟨⟨h.1.1, h.1.2.1, h.1.2.2⟩, h.2.drew⟩
theorem SO.store {w W : World} {arr : Array Value} {t t' : BitVec 256} (h : SO w arr t W) (i : Nat) (v : Value) (hv : (setA t).setIfInBounds i v = setA t') : SO w arr t' (W.setCell ⟨w.heap.size + 1 + 1, i, none⟩ v) :=
  ⟨⟨h.1.1.other (by omega) _ _, h.1.2.1.other (by omega) _ _, by rw [← hv]; exact h.1.2.2.set i v⟩, below_set h.2 (by omega) _ _⟩
set_option maxRecDepth 100000 in
set_option maxHeartbeats 4000000 in
theorem of_calls (arr : Array Value) (f : Nat → Bool) (hb : Bools arr f) (w : World) :
    Calls Tryz.prog 109 #[.agg arr] w fun e w' => e = .returned (setV (ofFn f)) ∧ Below w.heap.size w w' := by
  have h0 : SO w arr (pre f 0) (((w.alloc (.cells arr 152)).alloc (.cells (setA 0) 43)).alloc (.cells (setA 0) 43)) := by
    rw [pre_none]
    refine ⟨⟨((Blk.new w _ _).alloc _).alloc _, ?_, ?_⟩, by go_grown⟩
    · have := (Blk.new (w.alloc (.cells arr 152)) (setA 0) 43).alloc (.cells (setA 0) 43)
      rwa [World.size_alloc] at this
    · have := Blk.new ((w.alloc (.cells arr 152)).alloc (.cells (setA 0) 43)) (setA 0) 43
      rwa [World.size_alloc, World.size_alloc] at this
  have HB := Lib.hid hb
  clear hb
  go_enter Tryz.func109, Tryz.ntmps109
  go_wp2_with fail
  have e0 : ((w.alloc (.cells arr 152)).alloc (.cells #[.int .u64 0, .int .u64 0, .int .u64 0, .int .u64 0] 43)).alloc (.cells #[.int .u64 0, .int .u64 0, .int .u64 0, .int .u64 0] 43) = ((w.alloc (.cells arr 152)).alloc (.cells (setA 0) 43)).alloc (.cells (setA 0) 43) := rfl
  rw [e0]
  clear e0
  generalize ((w.alloc (.cells arr 152)).alloc (.cells (setA 0) 43)).alloc (.cells (setA 0) 43) = w1 at *
  go_loopw [4] (fun i wr => ∃ k : Nat, k ≤ 256 ∧ i = .int .i64 k ∧ SO w arr (pre f k) wr) (fun i _ => 256 - (intOf i).toNat)
  case atStart => exact ⟨0, Nat.zero_le _, rfl, h0⟩
  case round =>
    clear h0
    obtain ⟨k, hk, rfl, hU⟩ := hrel
    by_cases hkl : k < 256
    · have hc := (hU.1.1.cell k).trans (HB.out.2 k hkl)
      cases hf : f k with
      | false =>
        rw [hf] at hc
        have HF := Lib.hid hf
        have HU := Lib.hid hU
        clear hf hU
        go_wp2
        go_roundw
        case rel =>
          refine ⟨k + 1, by omega, by simp, ?_⟩
          rw [pre_false f k HF.out]; exact HU.out
        case measure => simp [intOf]; omega
      | true =>
        rw [hf] at hc
        have HF := Lib.hid hf
        clear hf
        have HT := Lib.hid (pre_true f k HF.out)
        generalize pre f k = t at *
        have hx2 : 0 ≤ (k : Int) % 64 := by omega
        have hx3 : (k : Int) % 64 < 64 := by omega
        have h4 : (k : Int) / 64 = 0 ∨ (k : Int) / 64 = 1 ∨ (k : Int) / 64 = 2 ∨ (k : Int) / 64 = 3 := by omega
        rcases h4 with hx4 | hx4 | hx4 | hx4
        · go_wp2_with fail
          refine region_stepsM (S := SO w arr t) (m := 11) rfl (by kernel_rfl) (drew_ok hU) ?_
          simp only [List.size_toArray, List.length_cons, List.length_nil, Nat.reduceAdd, Array.replicate_succ, Array.replicate_zero, List.push_toArray, List.nil_append, List.cons_append]
          refine AnyM.next (m := 11) (i := 0) (d := some 12) (v := .int .i64 ((k : Nat) : Int)) rfl rfl (by kernel_rfl) (by kernel_rfl) (by kernel_rfl) (by kernel_rfl) (StepsIf.yield (by kernel_rfl) (fun w' hS => by clear hS; go_simp)) ?_
          intro a' ha'
          simp only [Act.put, List.setIfInBounds_toArray, List.set_cons_zero, List.set_cons_succ] at ha'
          subst ha'
          refine AnyM.next (m := 11) (i := 1) (d := some 13) (v := .int .i64 0) rfl rfl (by kernel_rfl) (by kernel_rfl) (by kernel_rfl) (by kernel_rfl) (StepsIf.yield (by kernel_rfl) (fun w' hS => by clear hS; go_simp; exact IntWalk.i64_in _ (by omega))) ?_
          intro a' ha'
          simp only [Act.put, List.setIfInBounds_toArray, List.set_cons_zero, List.set_cons_succ] at ha'
          subst ha'
          refine AnyM.next (m := 11) (i := 2) (d := some 14) (v := .int .i64 ((k : Nat) : Int)) rfl rfl (by kernel_rfl) (by kernel_rfl) (by kernel_rfl) (by kernel_rfl) (StepsIf.yield (by kernel_rfl) (fun w' hS => by clear hS; go_simp)) ?_
          intro a' ha'
          simp only [Act.put, List.setIfInBounds_toArray, List.set_cons_zero, List.set_cons_succ] at ha'
          subst ha'
          refine AnyM.next (m := 11) (i := 3) (d := some 15) (v := .int .i64 0) rfl rfl (by kernel_rfl) (by kernel_rfl) (by kernel_rfl) (by kernel_rfl) (StepsIf.yield (by kernel_rfl) (fun w' hS => by clear hS; go_simp; exact IntWalk.i64_in _ (by omega))) ?_
          intro a' ha'
          simp only [Act.put, List.setIfInBounds_toArray, List.set_cons_zero, List.set_cons_succ] at ha'
          subst ha'
          refine AnyM.next (m := 11) (i := 4) (d := some 16) (v := .pointer (some ⟨w.heap.size + 1 + 1, 0, none⟩)) rfl rfl (by kernel_rfl) (by kernel_rfl) (by kernel_rfl) (by kernel_rfl) (StepsIf.yield (by kernel_rfl) (fun w' hS => by clear hS; go_simp)) ?_
          intro a' ha'
          simp only [Act.put, List.setIfInBounds_toArray, List.set_cons_zero, List.set_cons_succ] at ha'
          subst ha'
          refine AnyM.next (m := 11) (i := 5) (d := some 17) (v := .int .u64 (wd t 0)) rfl rfl (by kernel_rfl) (by kernel_rfl) (by kernel_rfl) (by kernel_rfl) (StepsIf.yield (by kernel_rfl) (fun w' hS => by obtain ⟨⟨c0, c1, c2, c3⟩, _⟩ := hS.1.2.2.cells4; clear hS; go_simp)) ?_
          intro a' ha'
          simp only [Act.put, List.setIfInBounds_toArray, List.set_cons_zero, List.set_cons_succ] at ha'
          subst ha'
          refine AnyM.next (m := 11) (i := 6) (d := some 18) (v := .int .i64 ((k : Nat) : Int)) rfl rfl (by kernel_rfl) (by kernel_rfl) (by kernel_rfl) (by kernel_rfl) (StepsIf.yield (by kernel_rfl) (fun w' hS => by clear hS; go_simp)) ?_
          intro a' ha'
          simp only [Act.put, List.setIfInBounds_toArray, List.set_cons_zero, List.set_cons_succ] at ha'
          subst ha'
          refine AnyM.next (m := 11) (i := 7) (d := some 19) (v := .int .i64 (((k : Nat) : Int) % 64)) rfl rfl (by kernel_rfl) (by kernel_rfl) (by kernel_rfl) (by kernel_rfl) (StepsIf.yield (by kernel_rfl) (fun w' hS => by clear hS; go_simp; exact Int.tmod_eq_emod_of_nonneg (by omega))) ?_
          intro a' ha'
          simp only [Act.put, List.setIfInBounds_toArray, List.set_cons_zero, List.set_cons_succ] at ha'
          subst ha'
          refine AnyM.next (m := 11) (i := 8) (d := some 20) (v := .int .u64 (IntKind.u64.wrap (2 ^ (k % 64)))) rfl rfl (by kernel_rfl) (by kernel_rfl) (by kernel_rfl) (by kernel_rfl) (StepsIf.yield (by kernel_rfl) (fun w' hS => by clear hS; go_simp; rw [show (((k : Nat) : Int) % 64).toNat = k % 64 by omega])) ?_
          intro a' ha'
          simp only [Act.put, List.setIfInBounds_toArray, List.set_cons_zero, List.set_cons_succ] at ha'
          subst ha'
          refine AnyM.next (m := 11) (i := 9) (d := some 21) (v := .int .u64 (bits .or .u64 (wd t 0) (IntKind.u64.wrap (2 ^ (k % 64))))) rfl rfl (by kernel_rfl) (by kernel_rfl) (by kernel_rfl) (by kernel_rfl) (StepsIf.yield (by kernel_rfl) (fun w' hS => by clear hS; go_simp)) ?_
          intro a' ha'
          simp only [Act.put, List.setIfInBounds_toArray, List.set_cons_zero, List.set_cons_succ] at ha'
          subst ha'
          refine AnyM.next (m := 11) (i := 10) (d := some 22) (v := .pointer (some ⟨w.heap.size + 1 + 1, 0, none⟩)) rfl rfl (by kernel_rfl) (by kernel_rfl) (by kernel_rfl) (by kernel_rfl) (StepsIf.yield (by kernel_rfl) (fun w' hS => by clear hS; go_simp)) ?_
          intro a' ha'
          simp only [Act.put, List.setIfInBounds_toArray, List.set_cons_zero, List.set_cons_succ] at ha'
          subst ha'
          clear hU
          refine AnyM.last rfl (by kernel_rfl) (by kernel_rfl) (by kernel_rfl) (fun w3 hU K hK => ?_)
          obtain ⟨⟨c0, c1, c2, c3⟩, f0, f1, f2, f3⟩ := hU.1.2.2.cells4
          have HU := Lib.hid hU
          clear hU
          go_simp
          refine hK _ _ ?_
          clear hK K
          go_wp2
          go_roundw
          case rel =>
            refine ⟨k + 1, by omega, by simp, ?_⟩
            rw [HT.out]
            exact HU.out.store 0 _ (setA_or t k (by omega))
          case measure => simp [intOf]; omega
        · go_wp2_with fail
          refine region_stepsM (S := SO w arr t) (m := 11) rfl (by kernel_rfl) (drew_ok hU) ?_
          simp only [List.size_toArray, List.length_cons, List.length_nil, Nat.reduceAdd, Array.replicate_succ, Array.replicate_zero, List.push_toArray, List.nil_append, List.cons_append]
          refine AnyM.next (m := 11) (i := 0) (d := some 12) (v := .int .i64 ((k : Nat) : Int)) rfl rfl (by kernel_rfl) (by kernel_rfl) (by kernel_rfl) (by kernel_rfl) (StepsIf.yield (by kernel_rfl) (fun w' hS => by clear hS; go_simp)) ?_
          intro a' ha'
          simp only [Act.put, List.setIfInBounds_toArray, List.set_cons_zero, List.set_cons_succ] at ha'
          subst ha'
          refine AnyM.next (m := 11) (i := 1) (d := some 13) (v := .int .i64 1) rfl rfl (by kernel_rfl) (by kernel_rfl) (by kernel_rfl) (by kernel_rfl) (StepsIf.yield (by kernel_rfl) (fun w' hS => by clear hS; go_simp; exact IntWalk.i64_in _ (by omega))) ?_
          intro a' ha'
          simp only [Act.put, List.setIfInBounds_toArray, List.set_cons_zero, List.set_cons_succ] at ha'
          subst ha'
          refine AnyM.next (m := 11) (i := 2) (d := some 14) (v := .int .i64 ((k : Nat) : Int)) rfl rfl (by kernel_rfl) (by kernel_rfl) (by kernel_rfl) (by kernel_rfl) (StepsIf.yield (by kernel_rfl) (fun w' hS => by clear hS; go_simp)) ?_
          intro a' ha'
          simp only [Act.put, List.setIfInBounds_toArray, List.set_cons_zero, List.set_cons_succ] at ha'
          subst ha'
          refine AnyM.next (m := 11) (i := 3) (d := some 15) (v := .int .i64 1) rfl rfl (by kernel_rfl) (by kernel_rfl) (by kernel_rfl) (by kernel_rfl) (StepsIf.yield (by kernel_rfl) (fun w' hS => by clear hS; go_simp; exact IntWalk.i64_in _ (by omega))) ?_
          intro a' ha'
          simp only [Act.put, List.setIfInBounds_toArray, List.set_cons_zero, List.set_cons_succ] at ha'
          subst ha'
          refine AnyM.next (m := 11) (i := 4) (d := some 16) (v := .pointer (some ⟨w.heap.size + 1 + 1, 1, none⟩)) rfl rfl (by kernel_rfl) (by kernel_rfl) (by kernel_rfl) (by kernel_rfl) (StepsIf.yield (by kernel_rfl) (fun w' hS => by clear hS; go_simp)) ?_
          intro a' ha'
          simp only [Act.put, List.setIfInBounds_toArray, List.set_cons_zero, List.set_cons_succ] at ha'
          subst ha'
          refine AnyM.next (m := 11) (i := 5) (d := some 17) (v := .int .u64 (wd t 1)) rfl rfl (by kernel_rfl) (by kernel_rfl) (by kernel_rfl) (by kernel_rfl) (StepsIf.yield (by kernel_rfl) (fun w' hS => by obtain ⟨⟨c0, c1, c2, c3⟩, _⟩ := hS.1.2.2.cells4; clear hS; go_simp)) ?_
          intro a' ha'
          simp only [Act.put, List.setIfInBounds_toArray, List.set_cons_zero, List.set_cons_succ] at ha'
          subst ha'
          refine AnyM.next (m := 11) (i := 6) (d := some 18) (v := .int .i64 ((k : Nat) : Int)) rfl rfl (by kernel_rfl) (by kernel_rfl) (by kernel_rfl) (by kernel_rfl) (StepsIf.yield (by kernel_rfl) (fun w' hS => by clear hS; go_simp)) ?_
          intro a' ha'
          simp only [Act.put, List.setIfInBounds_toArray, List.set_cons_zero, List.set_cons_succ] at ha'
          subst ha'
          refine AnyM.next (m := 11) (i := 7) (d := some 19) (v := .int .i64 (((k : Nat) : Int) % 64)) rfl rfl (by kernel_rfl) (by kernel_rfl) (by kernel_rfl) (by kernel_rfl) (StepsIf.yield (by kernel_rfl) (fun w' hS => by clear hS; go_simp; exact Int.tmod_eq_emod_of_nonneg (by omega))) ?_
          intro a' ha'
          simp only [Act.put, List.setIfInBounds_toArray, List.set_cons_zero, List.set_cons_succ] at ha'
          subst ha'
          refine AnyM.next (m := 11) (i := 8) (d := some 20) (v := .int .u64 (IntKind.u64.wrap (2 ^ (k % 64)))) rfl rfl (by kernel_rfl) (by kernel_rfl) (by kernel_rfl) (by kernel_rfl) (StepsIf.yield (by kernel_rfl) (fun w' hS => by clear hS; go_simp; rw [show (((k : Nat) : Int) % 64).toNat = k % 64 by omega])) ?_
          intro a' ha'
          simp only [Act.put, List.setIfInBounds_toArray, List.set_cons_zero, List.set_cons_succ] at ha'
          subst ha'
          refine AnyM.next (m := 11) (i := 9) (d := some 21) (v := .int .u64 (bits .or .u64 (wd t 1) (IntKind.u64.wrap (2 ^ (k % 64))))) rfl rfl (by kernel_rfl) (by kernel_rfl) (by kernel_rfl) (by kernel_rfl) (StepsIf.yield (by kernel_rfl) (fun w' hS => by clear hS; go_simp)) ?_
          intro a' ha'
          simp only [Act.put, List.setIfInBounds_toArray, List.set_cons_zero, List.set_cons_succ] at ha'
          subst ha'
          refine AnyM.next (m := 11) (i := 10) (d := some 22) (v := .pointer (some ⟨w.heap.size + 1 + 1, 1, none⟩)) rfl rfl (by kernel_rfl) (by kernel_rfl) (by kernel_rfl) (by kernel_rfl) (StepsIf.yield (by kernel_rfl) (fun w' hS => by clear hS; go_simp)) ?_
          intro a' ha'
          simp only [Act.put, List.setIfInBounds_toArray, List.set_cons_zero, List.set_cons_succ] at ha'
          subst ha'
          clear hU
          refine AnyM.last rfl (by kernel_rfl) (by kernel_rfl) (by kernel_rfl) (fun w3 hU K hK => ?_)
          obtain ⟨⟨c0, c1, c2, c3⟩, f0, f1, f2, f3⟩ := hU.1.2.2.cells4
          have HU := Lib.hid hU
          clear hU
          go_simp
          refine hK _ _ ?_
          clear hK K
          go_wp2
          go_roundw
          case rel =>
            refine ⟨k + 1, by omega, by simp, ?_⟩
            rw [HT.out]
            exact HU.out.store 1 _ (setA_or1 t k (by omega))
          case measure => simp [intOf]; omega
        · go_wp2_with fail
          refine region_stepsM (S := SO w arr t) (m := 11) rfl (by kernel_rfl) (drew_ok hU) ?_
          simp only [List.size_toArray, List.length_cons, List.length_nil, Nat.reduceAdd, Array.replicate_succ, Array.replicate_zero, List.push_toArray, List.nil_append, List.cons_append]
          refine AnyM.next (m := 11) (i := 0) (d := some 12) (v := .int .i64 ((k : Nat) : Int)) rfl rfl (by kernel_rfl) (by kernel_rfl) (by kernel_rfl) (by kernel_rfl) (StepsIf.yield (by kernel_rfl) (fun w' hS => by clear hS; go_simp)) ?_
          intro a' ha'
          simp only [Act.put, List.setIfInBounds_toArray, List.set_cons_zero, List.set_cons_succ] at ha'
          subst ha'
          refine AnyM.next (m := 11) (i := 1) (d := some 13) (v := .int .i64 2) rfl rfl (by kernel_rfl) (by kernel_rfl) (by kernel_rfl) (by kernel_rfl) (StepsIf.yield (by kernel_rfl) (fun w' hS => by clear hS; go_simp; exact IntWalk.i64_in _ (by omega))) ?_
          intro a' ha'
          simp only [Act.put, List.setIfInBounds_toArray, List.set_cons_zero, List.set_cons_succ] at ha'
          subst ha'
          refine AnyM.next (m := 11) (i := 2) (d := some 14) (v := .int .i64 ((k : Nat) : Int)) rfl rfl (by kernel_rfl) (by kernel_rfl) (by kernel_rfl) (by kernel_rfl) (StepsIf.yield (by kernel_rfl) (fun w' hS => by clear hS; go_simp)) ?_
          intro a' ha'
          simp only [Act.put, List.setIfInBounds_toArray, List.set_cons_zero, List.set_cons_succ] at ha'
          subst ha'
          refine AnyM.next (m := 11) (i := 3) (d := some 15) (v := .int .i64 2) rfl rfl (by kernel_rfl) (by kernel_rfl) (by kernel_rfl) (by kernel_rfl) (StepsIf.yield (by kernel_rfl) (fun w' hS => by clear hS; go_simp; exact IntWalk.i64_in _ (by omega))) ?_
          intro a' ha'
          simp only [Act.put, List.setIfInBounds_toArray, List.set_cons_zero, List.set_cons_succ] at ha'
          subst ha'
          refine AnyM.next (m := 11) (i := 4) (d := some 16) (v := .pointer (some ⟨w.heap.size + 1 + 1, 2, none⟩)) rfl rfl (by kernel_rfl) (by kernel_rfl) (by kernel_rfl) (by kernel_rfl) (StepsIf.yield (by kernel_rfl) (fun w' hS => by clear hS; go_simp)) ?_
          intro a' ha'
          simp only [Act.put, List.setIfInBounds_toArray, List.set_cons_zero, List.set_cons_succ] at ha'
          subst ha'
          refine AnyM.next (m := 11) (i := 5) (d := some 17) (v := .int .u64 (wd t 2)) rfl rfl (by kernel_rfl) (by kernel_rfl) (by kernel_rfl) (by kernel_rfl) (StepsIf.yield (by kernel_rfl) (fun w' hS => by obtain ⟨⟨c0, c1, c2, c3⟩, _⟩ := hS.1.2.2.cells4; clear hS; go_simp)) ?_
          intro a' ha'
          simp only [Act.put, List.setIfInBounds_toArray, List.set_cons_zero, List.set_cons_succ] at ha'
          subst ha'
          refine AnyM.next (m := 11) (i := 6) (d := some 18) (v := .int .i64 ((k : Nat) : Int)) rfl rfl (by kernel_rfl) (by kernel_rfl) (by kernel_rfl) (by kernel_rfl) (StepsIf.yield (by kernel_rfl) (fun w' hS => by clear hS; go_simp)) ?_
          intro a' ha'
          simp only [Act.put, List.setIfInBounds_toArray, List.set_cons_zero, List.set_cons_succ] at ha'
          subst ha'
          refine AnyM.next (m := 11) (i := 7) (d := some 19) (v := .int .i64 (((k : Nat) : Int) % 64)) rfl rfl (by kernel_rfl) (by kernel_rfl) (by kernel_rfl) (by kernel_rfl) (StepsIf.yield (by kernel_rfl) (fun w' hS => by clear hS; go_simp; exact Int.tmod_eq_emod_of_nonneg (by omega))) ?_
          intro a' ha'
          simp only [Act.put, List.setIfInBounds_toArray, List.set_cons_zero, List.set_cons_succ] at ha'
          subst ha'
          refine AnyM.next (m := 11) (i := 8) (d := some 20) (v := .int .u64 (IntKind.u64.wrap (2 ^ (k % 64)))) rfl rfl (by kernel_rfl) (by kernel_rfl) (by kernel_rfl) (by kernel_rfl) (StepsIf.yield (by kernel_rfl) (fun w' hS => by clear hS; go_simp; rw [show (((k : Nat) : Int) % 64).toNat = k % 64 by omega])) ?_
          intro a' ha'
          simp only [Act.put, List.setIfInBounds_toArray, List.set_cons_zero, List.set_cons_succ] at ha'
          subst ha'
          refine AnyM.next (m := 11) (i := 9) (d := some 21) (v := .int .u64 (bits .or .u64 (wd t 2) (IntKind.u64.wrap (2 ^ (k % 64))))) rfl rfl (by kernel_rfl) (by kernel_rfl) (by kernel_rfl) (by kernel_rfl) (StepsIf.yield (by kernel_rfl) (fun w' hS => by clear hS; go_simp)) ?_
          intro a' ha'
          simp only [Act.put, List.setIfInBounds_toArray, List.set_cons_zero, List.set_cons_succ] at ha'
          subst ha'
          refine AnyM.next (m := 11) (i := 10) (d := some 22) (v := .pointer (some ⟨w.heap.size + 1 + 1, 2, none⟩)) rfl rfl (by kernel_rfl) (by kernel_rfl) (by kernel_rfl) (by kernel_rfl) (StepsIf.yield (by kernel_rfl) (fun w' hS => by clear hS; go_simp)) ?_
          intro a' ha'
          simp only [Act.put, List.setIfInBounds_toArray, List.set_cons_zero, List.set_cons_succ] at ha'
          subst ha'
          clear hU
          refine AnyM.last rfl (by kernel_rfl) (by kernel_rfl) (by kernel_rfl) (fun w3 hU K hK => ?_)
          obtain ⟨⟨c0, c1, c2, c3⟩, f0, f1, f2, f3⟩ := hU.1.2.2.cells4
          have HU := Lib.hid hU
          clear hU
          go_simp
          refine hK _ _ ?_
          clear hK K
          go_wp2
          go_roundw
          case rel =>
            refine ⟨k + 1, by omega, by simp, ?_⟩
            rw [HT.out]
            exact HU.out.store 2 _ (setA_or2 t k (by omega))
          case measure => simp [intOf]; omega
        · go_wp2_with fail
          refine region_stepsM (S := SO w arr t) (m := 11) rfl (by kernel_rfl) (drew_ok hU) ?_
          simp only [List.size_toArray, List.length_cons, List.length_nil, Nat.reduceAdd, Array.replicate_succ, Array.replicate_zero, List.push_toArray, List.nil_append, List.cons_append]
          refine AnyM.next (m := 11) (i := 0) (d := some 12) (v := .int .i64 ((k : Nat) : Int)) rfl rfl (by kernel_rfl) (by kernel_rfl) (by kernel_rfl) (by kernel_rfl) (StepsIf.yield (by kernel_rfl) (fun w' hS => by clear hS; go_simp)) ?_
          intro a' ha'
          simp only [Act.put, List.setIfInBounds_toArray, List.set_cons_zero, List.set_cons_succ] at ha'
          subst ha'
          refine AnyM.next (m := 11) (i := 1) (d := some 13) (v := .int .i64 3) rfl rfl (by kernel_rfl) (by kernel_rfl) (by kernel_rfl) (by kernel_rfl) (StepsIf.yield (by kernel_rfl) (fun w' hS => by clear hS; go_simp; exact IntWalk.i64_in _ (by omega))) ?_
          intro a' ha'
          simp only [Act.put, List.setIfInBounds_toArray, List.set_cons_zero, List.set_cons_succ] at ha'
          subst ha'
          refine AnyM.next (m := 11) (i := 2) (d := some 14) (v := .int .i64 ((k : Nat) : Int)) rfl rfl (by kernel_rfl) (by kernel_rfl) (by kernel_rfl) (by kernel_rfl) (StepsIf.yield (by kernel_rfl) (fun w' hS => by clear hS; go_simp)) ?_
          intro a' ha'
          simp only [Act.put, List.setIfInBounds_toArray, List.set_cons_zero, List.set_cons_succ] at ha'
          subst ha'
          refine AnyM.next (m := 11) (i := 3) (d := some 15) (v := .int .i64 3) rfl rfl (by kernel_rfl) (by kernel_rfl) (by kernel_rfl) (by kernel_rfl) (StepsIf.yield (by kernel_rfl) (fun w' hS => by clear hS; go_simp; exact IntWalk.i64_in _ (by omega))) ?_
          intro a' ha'
          simp only [Act.put, List.setIfInBounds_toArray, List.set_cons_zero, List.set_cons_succ] at ha'
          subst ha'
          refine AnyM.next (m := 11) (i := 4) (d := some 16) (v := .pointer (some ⟨w.heap.size + 1 + 1, 3, none⟩)) rfl rfl (by kernel_rfl) (by kernel_rfl) (by kernel_rfl) (by kernel_rfl) (StepsIf.yield (by kernel_rfl) (fun w' hS => by clear hS; go_simp)) ?_
          intro a' ha'
          simp only [Act.put, List.setIfInBounds_toArray, List.set_cons_zero, List.set_cons_succ] at ha'
          subst ha'
          refine AnyM.next (m := 11) (i := 5) (d := some 17) (v := .int .u64 (wd t 3)) rfl rfl (by kernel_rfl) (by kernel_rfl) (by kernel_rfl) (by kernel_rfl) (StepsIf.yield (by kernel_rfl) (fun w' hS => by obtain ⟨⟨c0, c1, c2, c3⟩, _⟩ := hS.1.2.2.cells4; clear hS; go_simp)) ?_
          intro a' ha'
          simp only [Act.put, List.setIfInBounds_toArray, List.set_cons_zero, List.set_cons_succ] at ha'
          subst ha'
          refine AnyM.next (m := 11) (i := 6) (d := some 18) (v := .int .i64 ((k : Nat) : Int)) rfl rfl (by kernel_rfl) (by kernel_rfl) (by kernel_rfl) (by kernel_rfl) (StepsIf.yield (by kernel_rfl) (fun w' hS => by clear hS; go_simp)) ?_
          intro a' ha'
          simp only [Act.put, List.setIfInBounds_toArray, List.set_cons_zero, List.set_cons_succ] at ha'
          subst ha'
          refine AnyM.next (m := 11) (i := 7) (d := some 19) (v := .int .i64 (((k : Nat) : Int) % 64)) rfl rfl (by kernel_rfl) (by kernel_rfl) (by kernel_rfl) (by kernel_rfl) (StepsIf.yield (by kernel_rfl) (fun w' hS => by clear hS; go_simp; exact Int.tmod_eq_emod_of_nonneg (by omega))) ?_
          intro a' ha'
          simp only [Act.put, List.setIfInBounds_toArray, List.set_cons_zero, List.set_cons_succ] at ha'
          subst ha'
          refine AnyM.next (m := 11) (i := 8) (d := some 20) (v := .int .u64 (IntKind.u64.wrap (2 ^ (k % 64)))) rfl rfl (by kernel_rfl) (by kernel_rfl) (by kernel_rfl) (by kernel_rfl) (StepsIf.yield (by kernel_rfl) (fun w' hS => by clear hS; go_simp; rw [show (((k : Nat) : Int) % 64).toNat = k % 64 by omega])) ?_
          intro a' ha'
          simp only [Act.put, List.setIfInBounds_toArray, List.set_cons_zero, List.set_cons_succ] at ha'
          subst ha'
          refine AnyM.next (m := 11) (i := 9) (d := some 21) (v := .int .u64 (bits .or .u64 (wd t 3) (IntKind.u64.wrap (2 ^ (k % 64))))) rfl rfl (by kernel_rfl) (by kernel_rfl) (by kernel_rfl) (by kernel_rfl) (StepsIf.yield (by kernel_rfl) (fun w' hS => by clear hS; go_simp)) ?_
          intro a' ha'
          simp only [Act.put, List.setIfInBounds_toArray, List.set_cons_zero, List.set_cons_succ] at ha'
          subst ha'
          refine AnyM.next (m := 11) (i := 10) (d := some 22) (v := .pointer (some ⟨w.heap.size + 1 + 1, 3, none⟩)) rfl rfl (by kernel_rfl) (by kernel_rfl) (by kernel_rfl) (by kernel_rfl) (StepsIf.yield (by kernel_rfl) (fun w' hS => by clear hS; go_simp)) ?_
          intro a' ha'
          simp only [Act.put, List.setIfInBounds_toArray, List.set_cons_zero, List.set_cons_succ] at ha'
          subst ha'
          clear hU
          refine AnyM.last rfl (by kernel_rfl) (by kernel_rfl) (by kernel_rfl) (fun w3 hU K hK => ?_)
          obtain ⟨⟨c0, c1, c2, c3⟩, f0, f1, f2, f3⟩ := hU.1.2.2.cells4
          have HU := Lib.hid hU
          clear hU
          go_simp
          refine hK _ _ ?_
          clear hK K
          go_wp2
          go_roundw
          case rel =>
            refine ⟨k + 1, by omega, by simp, ?_⟩
            rw [HT.out]
            exact HU.out.store 3 _ (setA_or3 t k (by omega))
          case measure => simp [intOf]; omega
    · obtain rfl : k = 256 := by omega
      rw [pre_all] at hU
      obtain ⟨⟨c0, c1, c2, c3⟩, _⟩ := hU.1.2.2.cells4
      obtain ⟨⟨d0, d1, d2, d3⟩, g0, g1, g2, g3⟩ := hU.1.2.1.cells4
      have HU := Lib.hid hU
      clear hU
      generalize ht : ofFn f = t at *
      have HT := Lib.hid ht
      clear ht
      go_wp2
      obtain ⟨hR, hB⟩ := fin4 HU.out.1.2.1 HU.out.2 (by omega) t
      clear d0 d1 d2 d3 g0 g1 g2 g3 c0 c1 c2 c3 HU hkl hk HB
      generalize (((wr.setCell ⟨w.heap.size + 1, 0, none⟩ (.int .u64 (wd t 0))).setCell ⟨w.heap.size + 1, 1, none⟩ (.int .u64 (wd t 1))).setCell ⟨w.heap.size + 1, 2, none⟩ (.int .u64 (wd t 2))).setCell ⟨w.heap.size + 1, 3, none⟩ (.int .u64 (wd t 3)) = W4 at *
      obtain ⟨⟨e0, e1, e2, e3⟩, _⟩ := hR.cells4
      exact bodyPost_ret (v := setV t) (by simp [results, Tryz.results109, go_sem, e0, e1, e2, e3]) rfl ⟨by rw [HT.out], hB⟩
def SW (w : World) (t : BitVec 256) (W : World) : Prop :=
  (Blk W w.heap.size (setA t) 43 ∧ Blk W (w.heap.size + 1) (setA 0) 43) ∧ Below w.heap.size w W
theorem drew_w {w W : World} {t : BitVec 256} (h : SW w t W) : SW w t W.drew := ⟨⟨h.1.1, h.1.2⟩, h.2.drew⟩
theorem SW.store {w W : World} {t t' : BitVec 256} (h : SW w t W) (i : Nat) (v : Value) (hv : (setA t).setIfInBounds i v = setA t') : SW w t' (W.setCell ⟨w.heap.size, i, none⟩ v) :=
  ⟨⟨by rw [← hv]; exact h.1.1.set i v, h.1.2.other (by omega) _ _⟩, below_set h.2 (by omega) _ _⟩
set_option maxRecDepth 100000 in
set_option maxHeartbeats 4000000 in
theorem rwith_calls (s : BitVec 256) (a : Option Addr) (len cap : Nat) (l : List (Fin 256)) (hreach : l.length ≤ 9223372036854775807) (w : World) (hI : BytesAt w.heap.size w (.slice a len cap) l) :
    Calls Tryz.prog 86 #[setV s, .slice a len cap] w fun e w' => e = .returned (setV (withL s l)) ∧ Below w.heap.size w w' := by
  have h0 : SW w (withL s (l.take 0)) ((w.alloc (.cells (setA s) 43)).alloc (.cells (setA 0) 43)) := by
    refine ⟨⟨(Blk.new w _ _).alloc _, ?_⟩, by go_grown⟩
    have := Blk.new (w.alloc (.cells (setA s) 43)) (setA 0) 43
    rwa [World.size_alloc] at this
  obtain ⟨rfl, hI2⟩ : len = l.length ∧ (l ≠ [] → ∃ b off, a = some ⟨b, off, none⟩ ∧ b < w.heap.size ∧ ∀ j (h : j < l.length), w.cell? ⟨b, off + j, none⟩ = some (.int .u8 (l[j].val : Nat))) := by
    obtain ⟨a', c, h, h2⟩ := hI
    simp only [Value.slice.injEq] at h
    obtain ⟨rfl, rfl, rfl⟩ := h
    exact ⟨rfl, h2⟩
  have HI := Lib.hid hI2
  clear hI hI2
  go_enter Tryz.func86, Tryz.ntmps86
  go_wp2_with fail
  have e0 : (w.alloc (.cells #[.int .u64 (wd s 0), .int .u64 (wd s 1), .int .u64 (wd s 2), .int .u64 (wd s 3)] 43)).alloc (.cells #[.int .u64 0, .int .u64 0, .int .u64 0, .int .u64 0] 43) = (w.alloc (.cells (setA s) 43)).alloc (.cells (setA 0) 43) := rfl
  rw [e0]
  clear e0
  generalize (w.alloc (.cells (setA s) 43)).alloc (.cells (setA 0) 43) = w1 at *
  go_loopw [5] (fun i wr => ∃ k : Nat, k ≤ l.length ∧ i = .int .i64 k ∧ SW w (withL s (l.take k)) wr) (fun i _ => l.length - (intOf i).toNat)
  case atStart => exact ⟨0, Nat.zero_le _, rfl, h0⟩
  case round =>
    clear h0
    obtain ⟨k, hk, rfl, hU⟩ := hrel
    by_cases hkl : k < l.length
    · obtain ⟨b, off, rfl, hblt, hcs⟩ := HI.out (fun e => by rw [e] at hkl; simp at hkl)
      have hc := (hU.2.cell (p := ⟨b, off + k, none⟩) hblt).trans (hcs k hkl)
      have hx := l[k].isLt
      have HT : Hid (withL s (l.take (k + 1)) = withL s (l.take k) ||| one l[k].val) := by
        show withL s (l.take (k + 1)) = _
        rw [List.take_succ_eq_append_getElem hkl, withL_snoc]
      clear hcs
      generalize l[k].val = x at *
      generalize withL s (l.take k) = t at *
      have hx2 : 0 ≤ (x : Int) % 64 := by omega
      have hx3 : (x : Int) % 64 < 64 := by omega
      have h4 : (x : Int) / 64 = 0 ∨ (x : Int) / 64 = 1 ∨ (x : Int) / 64 = 2 ∨ (x : Int) / 64 = 3 := by omega
      rcases h4 with hx4 | hx4 | hx4 | hx4
      · go_wp2_with fail
        refine region_stepsM (S := SW w t) (m := 11) rfl (by kernel_rfl) (drew_w hU) ?_
        simp only [List.size_toArray, List.length_cons, List.length_nil, Nat.reduceAdd, Array.replicate_succ, Array.replicate_zero, List.push_toArray, List.nil_append, List.cons_append]
        refine AnyM.next (m := 11) (i := 0) (d := some 18) (v := .int .i64 ((x : Nat) : Int)) rfl rfl (by kernel_rfl) (by kernel_rfl) (by kernel_rfl) (by kernel_rfl) (StepsIf.yield (by kernel_rfl) (fun w' hS => by clear hS; go_simp)) ?_
        intro a' ha'
        simp only [Act.put, List.setIfInBounds_toArray, List.set_cons_zero, List.set_cons_succ] at ha'
        subst ha'
        refine AnyM.next (m := 11) (i := 1) (d := some 19) (v := .int .i64 0) rfl rfl (by kernel_rfl) (by kernel_rfl) (by kernel_rfl) (by kernel_rfl) (StepsIf.yield (by kernel_rfl) (fun w' hS => by clear hS; go_simp; exact IntWalk.i64_in _ (by omega))) ?_
        intro a' ha'
        simp only [Act.put, List.setIfInBounds_toArray, List.set_cons_zero, List.set_cons_succ] at ha'
        subst ha'
        refine AnyM.next (m := 11) (i := 2) (d := some 20) (v := .int .i64 ((x : Nat) : Int)) rfl rfl (by kernel_rfl) (by kernel_rfl) (by kernel_rfl) (by kernel_rfl) (StepsIf.yield (by kernel_rfl) (fun w' hS => by clear hS; go_simp)) ?_
        intro a' ha'
        simp only [Act.put, List.setIfInBounds_toArray, List.set_cons_zero, List.set_cons_succ] at ha'
        subst ha'
        refine AnyM.next (m := 11) (i := 3) (d := some 21) (v := .int .i64 0) rfl rfl (by kernel_rfl) (by kernel_rfl) (by kernel_rfl) (by kernel_rfl) (StepsIf.yield (by kernel_rfl) (fun w' hS => by clear hS; go_simp; exact IntWalk.i64_in _ (by omega))) ?_
        intro a' ha'
        simp only [Act.put, List.setIfInBounds_toArray, List.set_cons_zero, List.set_cons_succ] at ha'
        subst ha'
        refine AnyM.next (m := 11) (i := 4) (d := some 22) (v := .pointer (some ⟨w.heap.size, 0, none⟩)) rfl rfl (by kernel_rfl) (by kernel_rfl) (by kernel_rfl) (by kernel_rfl) (StepsIf.yield (by kernel_rfl) (fun w' hS => by clear hS; go_simp)) ?_
        intro a' ha'
        simp only [Act.put, List.setIfInBounds_toArray, List.set_cons_zero, List.set_cons_succ] at ha'
        subst ha'
        refine AnyM.next (m := 11) (i := 5) (d := some 23) (v := .int .u64 (wd t 0)) rfl rfl (by kernel_rfl) (by kernel_rfl) (by kernel_rfl) (by kernel_rfl) (StepsIf.yield (by kernel_rfl) (fun w' hS => by obtain ⟨⟨c0, c1, c2, c3⟩, _⟩ := hS.1.1.cells4; clear hS; go_simp)) ?_
        intro a' ha'
        simp only [Act.put, List.setIfInBounds_toArray, List.set_cons_zero, List.set_cons_succ] at ha'
        subst ha'
        refine AnyM.next (m := 11) (i := 6) (d := some 24) (v := .int .i64 ((x : Nat) : Int)) rfl rfl (by kernel_rfl) (by kernel_rfl) (by kernel_rfl) (by kernel_rfl) (StepsIf.yield (by kernel_rfl) (fun w' hS => by clear hS; go_simp)) ?_
        intro a' ha'
        simp only [Act.put, List.setIfInBounds_toArray, List.set_cons_zero, List.set_cons_succ] at ha'
        subst ha'
        refine AnyM.next (m := 11) (i := 7) (d := some 25) (v := .int .i64 (((x : Nat) : Int) % 64)) rfl rfl (by kernel_rfl) (by kernel_rfl) (by kernel_rfl) (by kernel_rfl) (StepsIf.yield (by kernel_rfl) (fun w' hS => by clear hS; go_simp; exact Int.tmod_eq_emod_of_nonneg (by omega))) ?_
        intro a' ha'
        simp only [Act.put, List.setIfInBounds_toArray, List.set_cons_zero, List.set_cons_succ] at ha'
        subst ha'
        refine AnyM.next (m := 11) (i := 8) (d := some 26) (v := .int .u64 (IntKind.u64.wrap (2 ^ (x % 64)))) rfl rfl (by kernel_rfl) (by kernel_rfl) (by kernel_rfl) (by kernel_rfl) (StepsIf.yield (by kernel_rfl) (fun w' hS => by clear hS; go_simp; rw [show (((x : Nat) : Int) % 64).toNat = x % 64 by omega])) ?_
        intro a' ha'
        simp only [Act.put, List.setIfInBounds_toArray, List.set_cons_zero, List.set_cons_succ] at ha'
        subst ha'
        refine AnyM.next (m := 11) (i := 9) (d := some 27) (v := .int .u64 (bits .or .u64 (wd t 0) (IntKind.u64.wrap (2 ^ (x % 64))))) rfl rfl (by kernel_rfl) (by kernel_rfl) (by kernel_rfl) (by kernel_rfl) (StepsIf.yield (by kernel_rfl) (fun w' hS => by clear hS; go_simp)) ?_
        intro a' ha'
        simp only [Act.put, List.setIfInBounds_toArray, List.set_cons_zero, List.set_cons_succ] at ha'
        subst ha'
        refine AnyM.next (m := 11) (i := 10) (d := some 28) (v := .pointer (some ⟨w.heap.size, 0, none⟩)) rfl rfl (by kernel_rfl) (by kernel_rfl) (by kernel_rfl) (by kernel_rfl) (StepsIf.yield (by kernel_rfl) (fun w' hS => by clear hS; go_simp)) ?_
        intro a' ha'
        simp only [Act.put, List.setIfInBounds_toArray, List.set_cons_zero, List.set_cons_succ] at ha'
        subst ha'
        clear hU
        refine AnyM.last rfl (by kernel_rfl) (by kernel_rfl) (by kernel_rfl) (fun w3 hU K hK => ?_)
        obtain ⟨⟨c0, c1, c2, c3⟩, f0, f1, f2, f3⟩ := hU.1.1.cells4
        have HU := Lib.hid hU
        clear hU
        go_simp
        refine hK _ _ ?_
        clear hK K
        go_wp2
        go_roundw
        case rel =>
          refine ⟨k + 1, by omega, by simp, ?_⟩
          rw [HT.out]
          exact HU.out.store 0 _ (setA_or t x (by omega))
        case measure => simp [intOf]; omega
      · go_wp2_with fail
        refine region_stepsM (S := SW w t) (m := 11) rfl (by kernel_rfl) (drew_w hU) ?_
        simp only [List.size_toArray, List.length_cons, List.length_nil, Nat.reduceAdd, Array.replicate_succ, Array.replicate_zero, List.push_toArray, List.nil_append, List.cons_append]
        refine AnyM.next (m := 11) (i := 0) (d := some 18) (v := .int .i64 ((x : Nat) : Int)) rfl rfl (by kernel_rfl) (by kernel_rfl) (by kernel_rfl) (by kernel_rfl) (StepsIf.yield (by kernel_rfl) (fun w' hS => by clear hS; go_simp)) ?_
        intro a' ha'
        simp only [Act.put, List.setIfInBounds_toArray, List.set_cons_zero, List.set_cons_succ] at ha'
        subst ha'
        refine AnyM.next (m := 11) (i := 1) (d := some 19) (v := .int .i64 1) rfl rfl (by kernel_rfl) (by kernel_rfl) (by kernel_rfl) (by kernel_rfl) (StepsIf.yield (by kernel_rfl) (fun w' hS => by clear hS; go_simp; exact IntWalk.i64_in _ (by omega))) ?_
        intro a' ha'
        simp only [Act.put, List.setIfInBounds_toArray, List.set_cons_zero, List.set_cons_succ] at ha'
        subst ha'
        refine AnyM.next (m := 11) (i := 2) (d := some 20) (v := .int .i64 ((x : Nat) : Int)) rfl rfl (by kernel_rfl) (by kernel_rfl) (by kernel_rfl) (by kernel_rfl) (StepsIf.yield (by kernel_rfl) (fun w' hS => by clear hS; go_simp)) ?_
        intro a' ha'
        simp only [Act.put, List.setIfInBounds_toArray, List.set_cons_zero, List.set_cons_succ] at ha'
        subst ha'
        refine AnyM.next (m := 11) (i := 3) (d := some 21) (v := .int .i64 1) rfl rfl (by kernel_rfl) (by kernel_rfl) (by kernel_rfl) (by kernel_rfl) (StepsIf.yield (by kernel_rfl) (fun w' hS => by clear hS; go_simp; exact IntWalk.i64_in _ (by omega))) ?_
        intro a' ha'
        simp only [Act.put, List.setIfInBounds_toArray, List.set_cons_zero, List.set_cons_succ] at ha'
        subst ha'
        refine AnyM.next (m := 11) (i := 4) (d := some 22) (v := .pointer (some ⟨w.heap.size, 1, none⟩)) rfl rfl (by kernel_rfl) (by kernel_rfl) (by kernel_rfl) (by kernel_rfl) (StepsIf.yield (by kernel_rfl) (fun w' hS => by clear hS; go_simp)) ?_
        intro a' ha'
        simp only [Act.put, List.setIfInBounds_toArray, List.set_cons_zero, List.set_cons_succ] at ha'
        subst ha'
        refine AnyM.next (m := 11) (i := 5) (d := some 23) (v := .int .u64 (wd t 1)) rfl rfl (by kernel_rfl) (by kernel_rfl) (by kernel_rfl) (by kernel_rfl) (StepsIf.yield (by kernel_rfl) (fun w' hS => by obtain ⟨⟨c0, c1, c2, c3⟩, _⟩ := hS.1.1.cells4; clear hS; go_simp)) ?_
        intro a' ha'
        simp only [Act.put, List.setIfInBounds_toArray, List.set_cons_zero, List.set_cons_succ] at ha'
        subst ha'
        refine AnyM.next (m := 11) (i := 6) (d := some 24) (v := .int .i64 ((x : Nat) : Int)) rfl rfl (by kernel_rfl) (by kernel_rfl) (by kernel_rfl) (by kernel_rfl) (StepsIf.yield (by kernel_rfl) (fun w' hS => by clear hS; go_simp)) ?_
        intro a' ha'
        simp only [Act.put, List.setIfInBounds_toArray, List.set_cons_zero, List.set_cons_succ] at ha'
        subst ha'
        refine AnyM.next (m := 11) (i := 7) (d := some 25) (v := .int .i64 (((x : Nat) : Int) % 64)) rfl rfl (by kernel_rfl) (by kernel_rfl) (by kernel_rfl) (by kernel_rfl) (StepsIf.yield (by kernel_rfl) (fun w' hS => by clear hS; go_simp; exact Int.tmod_eq_emod_of_nonneg (by omega))) ?_
        intro a' ha'
        simp only [Act.put, List.setIfInBounds_toArray, List.set_cons_zero, List.set_cons_succ] at ha'
        subst ha'
        refine AnyM.next (m := 11) (i := 8) (d := some 26) (v := .int .u64 (IntKind.u64.wrap (2 ^ (x % 64)))) rfl rfl (by kernel_rfl) (by kernel_rfl) (by kernel_rfl) (by kernel_rfl) (StepsIf.yield (by kernel_rfl) (fun w' hS => by clear hS; go_simp; rw [show (((x : Nat) : Int) % 64).toNat = x % 64 by omega])) ?_
        intro a' ha'
        simp only [Act.put, List.setIfInBounds_toArray, List.set_cons_zero, List.set_cons_succ] at ha'
        subst ha'
        refine AnyM.next (m := 11) (i := 9) (d := some 27) (v := .int .u64 (bits .or .u64 (wd t 1) (IntKind.u64.wrap (2 ^ (x % 64))))) rfl rfl (by kernel_rfl) (by kernel_rfl) (by kernel_rfl) (by kernel_rfl) (StepsIf.yield (by kernel_rfl) (fun w' hS => by clear hS; go_simp)) ?_
        intro a' ha'
        simp only [Act.put, List.setIfInBounds_toArray, List.set_cons_zero, List.set_cons_succ] at ha'
        subst ha'
        refine AnyM.next (m := 11) (i := 10) (d := some 28) (v := .pointer (some ⟨w.heap.size, 1, none⟩)) rfl rfl (by kernel_rfl) (by kernel_rfl) (by kernel_rfl) (by kernel_rfl) (StepsIf.yield (by kernel_rfl) (fun w' hS => by clear hS; go_simp)) ?_
        intro a' ha'
        simp only [Act.put, List.setIfInBounds_toArray, List.set_cons_zero, List.set_cons_succ] at ha'
        subst ha'
        clear hU
        refine AnyM.last rfl (by kernel_rfl) (by kernel_rfl) (by kernel_rfl) (fun w3 hU K hK => ?_)
        obtain ⟨⟨c0, c1, c2, c3⟩, f0, f1, f2, f3⟩ := hU.1.1.cells4
        have HU := Lib.hid hU
        clear hU
        go_simp
        refine hK _ _ ?_
        clear hK K
        go_wp2
        go_roundw
        case rel =>
          refine ⟨k + 1, by omega, by simp, ?_⟩
          rw [HT.out]
          exact HU.out.store 1 _ (setA_or1 t x (by omega))
        case measure => simp [intOf]; omega
      · go_wp2_with fail
        refine region_stepsM (S := SW w t) (m := 11) rfl (by kernel_rfl) (drew_w hU) ?_
        simp only [List.size_toArray, List.length_cons, List.length_nil, Nat.reduceAdd, Array.replicate_succ, Array.replicate_zero, List.push_toArray, List.nil_append, List.cons_append]
        refine AnyM.next (m := 11) (i := 0) (d := some 18) (v := .int .i64 ((x : Nat) : Int)) rfl rfl (by kernel_rfl) (by kernel_rfl) (by kernel_rfl) (by kernel_rfl) (StepsIf.yield (by kernel_rfl) (fun w' hS => by clear hS; go_simp)) ?_
        intro a' ha'
        simp only [Act.put, List.setIfInBounds_toArray, List.set_cons_zero, List.set_cons_succ] at ha'
        subst ha'
        refine AnyM.next (m := 11) (i := 1) (d := some 19) (v := .int .i64 2) rfl rfl (by kernel_rfl) (by kernel_rfl) (by kernel_rfl) (by kernel_rfl) (StepsIf.yield (by kernel_rfl) (fun w' hS => by clear hS; go_simp; exact IntWalk.i64_in _ (by omega))) ?_
        intro a' ha'
        simp only [Act.put, List.setIfInBounds_toArray, List.set_cons_zero, List.set_cons_succ] at ha'
        subst ha'
        refine AnyM.next (m := 11) (i := 2) (d := some 20) (v := .int .i64 ((x : Nat) : Int)) rfl rfl (by kernel_rfl) (by kernel_rfl) (by kernel_rfl) (by kernel_rfl) (StepsIf.yield (by kernel_rfl) (fun w' hS => by clear hS; go_simp)) ?_
        intro a' ha'
        simp only [Act.put, List.setIfInBounds_toArray, List.set_cons_zero, List.set_cons_succ] at ha'
        subst ha'
        refine AnyM.next (m := 11) (i := 3) (d := some 21) (v := .int .i64 2) rfl rfl (by kernel_rfl) (by kernel_rfl) (by kernel_rfl) (by kernel_rfl) (StepsIf.yield (by kernel_rfl) (fun w' hS => by clear hS; go_simp; exact IntWalk.i64_in _ (by omega))) ?_
        intro a' ha'
        simp only [Act.put, List.setIfInBounds_toArray, List.set_cons_zero, List.set_cons_succ] at ha'
        subst ha'
        refine AnyM.next (m := 11) (i := 4) (d := some 22) (v := .pointer (some ⟨w.heap.size, 2, none⟩)) rfl rfl (by kernel_rfl) (by kernel_rfl) (by kernel_rfl) (by kernel_rfl) (StepsIf.yield (by kernel_rfl) (fun w' hS => by clear hS; go_simp)) ?_
        intro a' ha'
        simp only [Act.put, List.setIfInBounds_toArray, List.set_cons_zero, List.set_cons_succ] at ha'
        subst ha'
        refine AnyM.next (m := 11) (i := 5) (d := some 23) (v := .int .u64 (wd t 2)) rfl rfl (by kernel_rfl) (by kernel_rfl) (by kernel_rfl) (by kernel_rfl) (StepsIf.yield (by kernel_rfl) (fun w' hS => by obtain ⟨⟨c0, c1, c2, c3⟩, _⟩ := hS.1.1.cells4; clear hS; go_simp)) ?_
        intro a' ha'
        simp only [Act.put, List.setIfInBounds_toArray, List.set_cons_zero, List.set_cons_succ] at ha'
        subst ha'
        refine AnyM.next (m := 11) (i := 6) (d := some 24) (v := .int .i64 ((x : Nat) : Int)) rfl rfl (by kernel_rfl) (by kernel_rfl) (by kernel_rfl) (by kernel_rfl) (StepsIf.yield (by kernel_rfl) (fun w' hS => by clear hS; go_simp)) ?_
        intro a' ha'
        simp only [Act.put, List.setIfInBounds_toArray, List.set_cons_zero, List.set_cons_succ] at ha'
        subst ha'
        refine AnyM.next (m := 11) (i := 7) (d := some 25) (v := .int .i64 (((x : Nat) : Int) % 64)) rfl rfl (by kernel_rfl) (by kernel_rfl) (by kernel_rfl) (by kernel_rfl) (StepsIf.yield (by kernel_rfl) (fun w' hS => by clear hS; go_simp; exact Int.tmod_eq_emod_of_nonneg (by omega))) ?_
        intro a' ha'
        simp only [Act.put, List.setIfInBounds_toArray, List.set_cons_zero, List.set_cons_succ] at ha'
        subst ha'
        refine AnyM.next (m := 11) (i := 8) (d := some 26) (v := .int .u64 (IntKind.u64.wrap (2 ^ (x % 64)))) rfl rfl (by kernel_rfl) (by kernel_rfl) (by kernel_rfl) (by kernel_rfl) (StepsIf.yield (by kernel_rfl) (fun w' hS => by clear hS; go_simp; rw [show (((x : Nat) : Int) % 64).toNat = x % 64 by omega])) ?_
        intro a' ha'
        simp only [Act.put, List.setIfInBounds_toArray, List.set_cons_zero, List.set_cons_succ] at ha'
        subst ha'
        refine AnyM.next (m := 11) (i := 9) (d := some 27) (v := .int .u64 (bits .or .u64 (wd t 2) (IntKind.u64.wrap (2 ^ (x % 64))))) rfl rfl (by kernel_rfl) (by kernel_rfl) (by kernel_rfl) (by kernel_rfl) (StepsIf.yield (by kernel_rfl) (fun w' hS => by clear hS; go_simp)) ?_
        intro a' ha'
        simp only [Act.put, List.setIfInBounds_toArray, List.set_cons_zero, List.set_cons_succ] at ha'
        subst ha'
        refine AnyM.next (m := 11) (i := 10) (d := some 28) (v := .pointer (some ⟨w.heap.size, 2, none⟩)) rfl rfl (by kernel_rfl) (by kernel_rfl) (by kernel_rfl) (by kernel_rfl) (StepsIf.yield (by kernel_rfl) (fun w' hS => by clear hS; go_simp)) ?_
        intro a' ha'
        simp only [Act.put, List.setIfInBounds_toArray, List.set_cons_zero, List.set_cons_succ] at ha'
        subst ha'
        clear hU
        refine AnyM.last rfl (by kernel_rfl) (by kernel_rfl) (by kernel_rfl) (fun w3 hU K hK => ?_)
        obtain ⟨⟨c0, c1, c2, c3⟩, f0, f1, f2, f3⟩ := hU.1.1.cells4
        have HU := Lib.hid hU
        clear hU
        go_simp
        refine hK _ _ ?_
        clear hK K
        go_wp2
        go_roundw
        case rel =>
          refine ⟨k + 1, by omega, by simp, ?_⟩
          rw [HT.out]
          exact HU.out.store 2 _ (setA_or2 t x (by omega))
        case measure => simp [intOf]; omega
      · go_wp2_with fail
        refine region_stepsM (S := SW w t) (m := 11) rfl (by kernel_rfl) (drew_w hU) ?_
        simp only [List.size_toArray, List.length_cons, List.length_nil, Nat.reduceAdd, Array.replicate_succ, Array.replicate_zero, List.push_toArray, List.nil_append, List.cons_append]
        refine AnyM.next (m := 11) (i := 0) (d := some 18) (v := .int .i64 ((x : Nat) : Int)) rfl rfl (by kernel_rfl) (by kernel_rfl) (by kernel_rfl) (by kernel_rfl) (StepsIf.yield (by kernel_rfl) (fun w' hS => by clear hS; go_simp)) ?_
        intro a' ha'
        simp only [Act.put, List.setIfInBounds_toArray, List.set_cons_zero, List.set_cons_succ] at ha'
        subst ha'
        refine AnyM.next (m := 11) (i := 1) (d := some 19) (v := .int .i64 3) rfl rfl (by kernel_rfl) (by kernel_rfl) (by kernel_rfl) (by kernel_rfl) (StepsIf.yield (by kernel_rfl) (fun w' hS => by clear hS; go_simp; exact IntWalk.i64_in _ (by omega))) ?_
        intro a' ha'
        simp only [Act.put, List.setIfInBounds_toArray, List.set_cons_zero, List.set_cons_succ] at ha'
        subst ha'
        refine AnyM.next (m := 11) (i := 2) (d := some 20) (v := .int .i64 ((x : Nat) : Int)) rfl rfl (by kernel_rfl) (by kernel_rfl) (by kernel_rfl) (by kernel_rfl) (StepsIf.yield (by kernel_rfl) (fun w' hS => by clear hS; go_simp)) ?_
        intro a' ha'
        simp only [Act.put, List.setIfInBounds_toArray, List.set_cons_zero, List.set_cons_succ] at ha'
        subst ha'
        refine AnyM.next (m := 11) (i := 3) (d := some 21) (v := .int .i64 3) rfl rfl (by kernel_rfl) (by kernel_rfl) (by kernel_rfl) (by kernel_rfl) (StepsIf.yield (by kernel_rfl) (fun w' hS => by clear hS; go_simp; exact IntWalk.i64_in _ (by omega))) ?_
        intro a' ha'
        simp only [Act.put, List.setIfInBounds_toArray, List.set_cons_zero, List.set_cons_succ] at ha'
        subst ha'
        refine AnyM.next (m := 11) (i := 4) (d := some 22) (v := .pointer (some ⟨w.heap.size, 3, none⟩)) rfl rfl (by kernel_rfl) (by kernel_rfl) (by kernel_rfl) (by kernel_rfl) (StepsIf.yield (by kernel_rfl) (fun w' hS => by clear hS; go_simp)) ?_
        intro a' ha'
        simp only [Act.put, List.setIfInBounds_toArray, List.set_cons_zero, List.set_cons_succ] at ha'
        subst ha'
        refine AnyM.next (m := 11) (i := 5) (d := some 23) (v := .int .u64 (wd t 3)) rfl rfl (by kernel_rfl) (by kernel_rfl) (by kernel_rfl) (by kernel_rfl) (StepsIf.yield (by kernel_rfl) (fun w' hS => by obtain ⟨⟨c0, c1, c2, c3⟩, _⟩ := hS.1.1.cells4; clear hS; go_simp)) ?_
        intro a' ha'
        simp only [Act.put, List.setIfInBounds_toArray, List.set_cons_zero, List.set_cons_succ] at ha'
        subst ha'
        refine AnyM.next (m := 11) (i := 6) (d := some 24) (v := .int .i64 ((x : Nat) : Int)) rfl rfl (by kernel_rfl) (by kernel_rfl) (by kernel_rfl) (by kernel_rfl) (StepsIf.yield (by kernel_rfl) (fun w' hS => by clear hS; go_simp)) ?_
        intro a' ha'
        simp only [Act.put, List.setIfInBounds_toArray, List.set_cons_zero, List.set_cons_succ] at ha'
        subst ha'
        refine AnyM.next (m := 11) (i := 7) (d := some 25) (v := .int .i64 (((x : Nat) : Int) % 64)) rfl rfl (by kernel_rfl) (by kernel_rfl) (by kernel_rfl) (by kernel_rfl) (StepsIf.yield (by kernel_rfl) (fun w' hS => by clear hS; go_simp; exact Int.tmod_eq_emod_of_nonneg (by omega))) ?_
        intro a' ha'
        simp only [Act.put, List.setIfInBounds_toArray, List.set_cons_zero, List.set_cons_succ] at ha'
        subst ha'
        refine AnyM.next (m := 11) (i := 8) (d := some 26) (v := .int .u64 (IntKind.u64.wrap (2 ^ (x % 64)))) rfl rfl (by kernel_rfl) (by kernel_rfl) (by kernel_rfl) (by kernel_rfl) (StepsIf.yield (by kernel_rfl) (fun w' hS => by clear hS; go_simp; rw [show (((x : Nat) : Int) % 64).toNat = x % 64 by omega])) ?_
        intro a' ha'
        simp only [Act.put, List.setIfInBounds_toArray, List.set_cons_zero, List.set_cons_succ] at ha'
        subst ha'
        refine AnyM.next (m := 11) (i := 9) (d := some 27) (v := .int .u64 (bits .or .u64 (wd t 3) (IntKind.u64.wrap (2 ^ (x % 64))))) rfl rfl (by kernel_rfl) (by kernel_rfl) (by kernel_rfl) (by kernel_rfl) (StepsIf.yield (by kernel_rfl) (fun w' hS => by clear hS; go_simp)) ?_
        intro a' ha'
        simp only [Act.put, List.setIfInBounds_toArray, List.set_cons_zero, List.set_cons_succ] at ha'
        subst ha'
        refine AnyM.next (m := 11) (i := 10) (d := some 28) (v := .pointer (some ⟨w.heap.size, 3, none⟩)) rfl rfl (by kernel_rfl) (by kernel_rfl) (by kernel_rfl) (by kernel_rfl) (StepsIf.yield (by kernel_rfl) (fun w' hS => by clear hS; go_simp)) ?_
        intro a' ha'
        simp only [Act.put, List.setIfInBounds_toArray, List.set_cons_zero, List.set_cons_succ] at ha'
        subst ha'
        clear hU
        refine AnyM.last rfl (by kernel_rfl) (by kernel_rfl) (by kernel_rfl) (fun w3 hU K hK => ?_)
        obtain ⟨⟨c0, c1, c2, c3⟩, f0, f1, f2, f3⟩ := hU.1.1.cells4
        have HU := Lib.hid hU
        clear hU
        go_simp
        refine hK _ _ ?_
        clear hK K
        go_wp2
        go_roundw
        case rel =>
          refine ⟨k + 1, by omega, by simp, ?_⟩
          rw [HT.out]
          exact HU.out.store 3 _ (setA_or3 t x (by omega))
        case measure => simp [intOf]; omega
    · obtain rfl : k = l.length := by omega
      rw [List.take_length] at hU
      obtain ⟨⟨c0, c1, c2, c3⟩, _⟩ := hU.1.1.cells4
      obtain ⟨⟨d0, d1, d2, d3⟩, g0, g1, g2, g3⟩ := hU.1.2.cells4
      have HU := Lib.hid hU
      clear hU
      generalize ht : withL s l = t at *
      have HT := Lib.hid ht
      clear ht
      go_wp2
      obtain ⟨hR, hB⟩ := fin4 HU.out.1.2 HU.out.2 (by omega) t
      clear d0 d1 d2 d3 g0 g1 g2 g3 c0 c1 c2 c3 HU hkl hk HI
      generalize (((wr.setCell ⟨w.heap.size + 1, 0, none⟩ (.int .u64 (wd t 0))).setCell ⟨w.heap.size + 1, 1, none⟩ (.int .u64 (wd t 1))).setCell ⟨w.heap.size + 1, 2, none⟩ (.int .u64 (wd t 2))).setCell ⟨w.heap.size + 1, 3, none⟩ (.int .u64 (wd t 3)) = W4 at *
      obtain ⟨⟨e0, e1, e2, e3⟩, _⟩ := hR.cells4
      exact bodyPost_ret (v := setV t) (by simp [results, Tryz.results86, go_sem, e0, e1, e2, e3]) rfl ⟨by rw [HT.out], hB⟩
end Go.Proofs.YtbccojjcdcighaaGreatDoor

namespace Go.Proofs.YtbccojjcdcighaaGreatDoor
open Go.RowKit Go.Shelf BS
attribute [local go_sem] Oper.semAt_some
def runStep (rs : List (Nat × Nat)) (x : Nat) : List (Nat × Nat) :=
  match rs.getLast? with
  | some (a, b) => if (b + 1) % 256 = x then rs.dropLast ++ [(a, x)] else rs ++ [(x, x)]
  | none => [(x, x)]
def runsOf (l : List Nat) : List (Nat × Nat) := l.foldl runStep []
theorem runsOf_snoc (l : List Nat) (x : Nat) : runsOf (l ++ [x]) = runStep (runsOf l) x := by simp [runsOf]
theorem info2b : (Tryz.prog.info? 132).map (fun i => (i.zero, i.size, i.bytes)) = some (some (.agg #[.int .u8 0, .int .u8 0]), 2, 2) := by kernel_rfl
def runCells (rs : List (Nat × Nat)) : List Value := rs.flatMap fun r => [Value.int .u8 (r.1 : Int), Value.int .u8 (r.2 : Int)]
theorem runCells_len (rs : List (Nat × Nat)) : (runCells rs).length = rs.length * 2 := by
  induction rs with
  | nil => rfl
  | cons r rs ih => simp only [runCells, List.flatMap_cons, List.length_append, List.length_cons, List.length_nil] at ih ⊢; omega
theorem runCells_snoc (rs : List (Nat × Nat)) (a b : Nat) : runCells (rs ++ [(a, b)]) = runCells rs ++ [.int .u8 (a : Int), .int .u8 (b : Int)] := by simp [runCells]
theorem runCells_last (rs : List (Nat × Nat)) (a b : Nat) : (runCells (rs ++ [(a, b)]))[rs.length * 2 + 1]? = some (.int .u8 (b : Int)) := by
  rw [runCells_snoc, List.getElem?_append_right (by rw [runCells_len]; omega), runCells_len]
  simp
theorem runCells_set (rs : List (Nat × Nat)) (a b x : Nat) : (runCells (rs ++ [(a, b)])).set (rs.length * 2 + 1) (.int .u8 (x : Int)) = runCells (rs ++ [(a, x)]) := by
  rw [runCells_snoc, runCells_snoc, List.set_append_right _ _ (by rw [runCells_len]; omega), runCells_len]
  simp
theorem nil_or_snoc (rs : List (Nat × Nat)) : rs = [] ∨ ∃ rs' a b, rs = rs' ++ [(a, b)] := by
  rcases List.eq_nil_or_concat rs with h | ⟨rs', ⟨a, b⟩, h⟩
  · exact .inl h
  · exact .inr ⟨rs', a, b, by rw [h, List.concat_eq_append]⟩
theorem runStep_len (rs : List (Nat × Nat)) (x : Nat) : (runStep rs x).length ≤ rs.length + 1 := by
  unfold runStep
  split
  · split <;> simp
  · simp
theorem runsOf_len (l : List Nat) : (runsOf l).length ≤ l.length := by
  suffices h : ∀ l rs, (List.foldl runStep rs l).length ≤ rs.length + l.length by simpa [runsOf] using h l []
  intro l
  induction l with
  | nil => intro rs; simp
  | cons x l ih => intro rs; have := ih (runStep rs x); have := runStep_len rs x; simp only [List.foldl_cons, List.length_cons]; omega
theorem runStep_none (x : Nat) : runStep [] x = [(x, x)] := rfl
theorem runStep_grow (rs : List (Nat × Nat)) (a b x : Nat) (h : (b + 1) % 256 = x) : runStep (rs ++ [(a, b)]) x = rs ++ [(a, x)] := by simp [runStep, h]
theorem runStep_new (rs : List (Nat × Nat)) (a b x : Nat) (h : (b + 1) % 256 ≠ x) : runStep (rs ++ [(a, b)]) x = rs ++ [(a, b)] ++ [(x, x)] := by simp [runStep, h]
theorem Blk.news2 {W : World} {B : Nat} {a b : Value} {t : TypeId} (h : Blk W B #[a, b] t) : ∀ j u, [a, b][j]? = some u → W.cell? ((⟨B, 0, none⟩ : Addr).add j) = some u := by
  intro j u hu
  rw [Addr.add_mid]
  rw [Nat.zero_add, h.cell j]
  simpa using hu
set_option maxRecDepth 100000 in
set_option maxHeartbeats 2000000 in
theorem runs_in (n : Nat) (hn : 3 ≤ n) (s : BitVec 256) (w : World) (hT : Tab w) (hg : 1 < w.heap.size) :
    CallsIn Fence.wide n Tryz.prog 105 #[setV s] w fun e W' => ∃ v, e = .returned v ∧ W'.ownsRow w.heap.size 132 2 v (runsOf (el s.getLsbD 256)).length (runCells (runsOf (el s.getLsbD 256))) ∧ Below w.heap.size w W' := by
  have h1 : 1 ≤ n := by omega
  have HT := Lib.hid hT
  clear hT
  refine callsIn_of_wp_marks Tryz.func105 rfl trivial ?_ rfl
  simp only [Tryz.ntmps105, List.size_toArray, List.length_cons, List.length_nil, Nat.reduceAdd, Nat.reduceSub, Array.replicate_succ, Array.replicate_zero, List.push_toArray, List.append_toArray, List.nil_append, List.cons_append]
  gi_wp2_with (refine ⟨trivial, ?_⟩; gi_at_call 116; refine (all_in (n - 1) _ _).mono ?_; rintro e w' ⟨rfl, rfl⟩)
  obtain ⟨i0, hi, hz0, hz1, hz2⟩ := info_parts info2b
  obtain ⟨w0, hw0⟩ : ∃ w0, ((w.alloc (.cells #[.int .u64 (wd s 0), .int .u64 (wd s 1), .int .u64 (wd s 2), .int .u64 (wd s 3)] 43)).alloc (.cells #[.slice none 0 0] 129)) = w0 := ⟨_, rfl⟩
  have bL : Boxed w0 (w.heap.size + 1) 129 (.slice none 0 0) := by
    rw [← hw0]; have := Boxed.new (w.alloc (.cells (setA s) 43)) 129 (.slice none 0 0); rwa [World.size_alloc] at this
  have hz0' : w0.heap.size = w.heap.size + 2 := by rw [← hw0]; simp
  have hB0 : Below w.heap.size w w0 := by rw [← hw0]; go_grown
  rw [hw0, show w.heap.size + 1 + 1 = w0.heap.size by omega]
  clear hw0
  have hz1' : w.heap.size + 2 ≤ w0.heap.size := by omega
  clear hz0'
  have bN := Blk.new w0 (setA s) 43
  have hB1 : Below w.heap.size w (w0.alloc (.cells (setA s) 43)) := hB0.alloc (by omega) _
  refine wpIn_rangeFunc_ownG rfl h1 (gf := 124) (lb := #[.pointer (some ⟨w0.heap.size, 0, none⟩)]) rfl trivial (enters_of Tryz.func124 (by kernel_rfl) rfl)
    (all_stops (n - 1) (by omega) w0.heap.size s _ (by simp <;> omega) (by simp <;> omega) bN.cells4.1 (HT.out.keep hB1 hg)) KeepA.t (KeepA.b (by simp <;> omega) (by simp <;> omega)) (Below.refl _ _) (fun _ => rfl)
    (fun pre W => ((∃ v, Boxed W (w.heap.size + 1) 129 v ∧ W.ownsRow w.heap.size 132 2 v (runsOf pre).length (runCells (runsOf pre)) ∧ (runsOf pre = [] → v = .slice none 0 0)) ∧ Blk W w0.heap.size (setA s) 43) ∧ Below w.heap.size w W)
    (fun _ _ _ => False)
    (OwnFrom.and (Own.from (fun pre A B row hs hg hr => ⟨holdsRow_own w.heap.size (w.heap.size + 1) 129 132 2 (fun pre => (runsOf pre).length) (fun pre => runCells (runsOf pre)) (fun pre v => runsOf pre = [] → v = .slice none 0 0) pre A B row hs.1 hg hr, hs.2.kept hg (hs.2.not_row hr)⟩) _) (ownFrom_below (Nat.le_refl _) (by simp; omega)))
    (fun _ _ _ _ _ hs _ _ => hs)
    ⟨⟨⟨_, bL.alloc _, World.ownsRow_nil _ _ _ _, fun _ => rfl⟩, bN⟩, hB1⟩
    (fun x => { tmps := #[setV s, .pointer (some ⟨w.heap.size, 0, none⟩), .slice none 0 0, .pointer (some ⟨w.heap.size + 1, 0, none⟩), .int .u8 (x : Nat), undef, setV s,
          .func (.func 124) #[] #[.pointer (some ⟨w0.heap.size, 0, none⟩)], .int .u8 (x : Nat), undef, undef, undef, undef, undef, undef, undef, undef, undef, undef, undef, undef, undef, undef, undef, undef, undef,
          undef, undef, undef, undef, undef, undef, undef, undef, undef, undef], defers := [] }) ?assign ?body ?done ?stop
  case assign =>
    intro l x W K hK
    gi_wp2
    exact hK
  case body =>
    rintro l pre x W ⟨⟨⟨v, hv, hr, hnil⟩, hN⟩, hB⟩ hlen
    have hl := runsOf_len pre
    have hc0 := hv.cell
    have hf0 := hv.frozen
    have HS := Lib.hid (runsOf_snoc pre x)
    generalize runsOf pre = rs at *
    rcases nil_or_snoc rs with rfl | ⟨rs', a, b, rfl⟩
    · obtain rfl : v = .slice none 0 0 := hnil rfl
      clear hnil
      gi_wp2_with (gi_at_builtin; refine wpListIn_append_own _ rfl _ _ 129 rfl w.heap.size 132 i0 (.agg #[.int .u8 0, .int .u8 0]) 2 2 Tryz.underlying129 hi hz0 hz1 hz2 rfl (by decide) _ _ _ rfl (hr.alloc _) ⟨W.heap.size, 0, none⟩ 1 1 [.int .u8 (x : Nat), .int .u8 (x : Nat)] rfl rfl (Blk.new W _ _).news2 (by simp [Value.oneCell']) (by simp [maxLen]) (by simp) (by have := hB.size; simp; omega) ?_; intro v' w1 hown' hgrow _; obtain ⟨g', cap', rfl⟩ := ownsRow_succ hown'; obtain ⟨hv1, hv2, hr2, hk2, hb2⟩ := hv.appended (by decide) hr hB.size (by omega) hown' hgrow; have hN1 := (hN.alloc _).kept hgrow (hN.not_own (by decide) hr); have hc1 := hv1.cell; have hf1 := hv1.frozen)
      refine ⟨hk2.from _, ⟨hk2.size, (hN1.other (by omega) _ _).trans hN.symm, hb2.block _ hg⟩, ⟨⟨_, hv2, ?_, ?_⟩, hN1.other (by omega) _ _⟩, hB.trans hb2⟩
      · rw [HS.out]; exact hr2
      · intro h; rw [HS.out] at h; cases h
    · have hln : (rs' ++ [(a, b)]).length = rs'.length + 1 := by simp
      rw [hln] at hr hl
      clear hnil hln
      obtain ⟨g, cap, rfl⟩ := ownsRow_succ hr
      have hcl := (hr.cellAt (rs'.length * 2 + 1) (by omega)).trans (runCells_last rs' a b)
      have hfl := hr.frozenAt (rs'.length * 2 + 1)
      have hgB : g ≠ w.heap.size + 1 := fun e => hv.not_row (by decide) hr (by rw [e]; rfl)
      have hgN : g ≠ w0.heap.size := fun e => hN.not_own (by decide) hr (by rw [e]; rfl)
      have hglt : w.heap.size ≤ g := (hr.lt g rfl).1
      by_cases hbx : (b + 1) % 256 = x
      · have HX := Lib.hid hbx
        have ht : (((b + 1 : Nat) : Int) % 256 == (x : Int)) = true := by rw [beq_iff_eq]; omega
        clear hbx
        gi_wp2
        have hb2 := below_set (Below.refl w.heap.size W) hglt (rs'.length * 2 + 1) (.int .u8 (x : Int))
        refine ⟨(KeepsOthers.setCell _ _ _).from _, ⟨hb2.size, (hN.other (Ne.symm hgN) _ _).trans hN.symm, hb2.block _ hg⟩, ⟨⟨_, Blk.other (vs := #[_]) hv (Ne.symm hgB) _ _, ?_, ?_⟩, hN.other (Ne.symm hgN) _ _⟩, hB.trans hb2⟩
        · rw [HS.out, runStep_grow _ _ _ _ HX.out, ← runCells_set rs' a b x]
          simpa using (hr.stored (rs'.length * 2 + 1) (.int .u8 (x : Int))).1
        · intro h; rw [HS.out, runStep_grow _ _ _ _ HX.out] at h; simp at h
      · have HX := Lib.hid hbx
        have ht : (((b + 1 : Nat) : Int) % 256 == (x : Int)) = false := by rw [beq_eq_false_iff_ne]; omega
        clear hbx
        gi_wp2_with (gi_at_builtin; refine wpListIn_append_own _ rfl _ _ 129 rfl w.heap.size 132 i0 (.agg #[.int .u8 0, .int .u8 0]) 2 2 Tryz.underlying129 hi hz0 hz1 hz2 rfl (by decide) _ _ _ rfl (hr.alloc _) ⟨W.heap.size, 0, none⟩ 1 1 [.int .u8 (x : Nat), .int .u8 (x : Nat)] rfl rfl (Blk.new W _ _).news2 (by simp [Value.oneCell']) (by unfold maxLen; omega) (by omega) (by have := hB.size; simp; omega) ?_; intro v' w1 hown' hgrow _; obtain ⟨g', cap', rfl⟩ := ownsRow_succ hown'; obtain ⟨hv1, hv2, hr2, hk2, hb2⟩ := hv.appended (by decide) hr hB.size (by omega) hown' hgrow; have hN1 := (hN.alloc _).kept hgrow (hN.not_own (by decide) hr); have hc1 := hv1.cell; have hf1 := hv1.frozen)
        refine ⟨hk2.from _, ⟨hk2.size, (hN1.other (by omega) _ _).trans hN.symm, hb2.block _ hg⟩, ⟨⟨_, hv2, ?_, ?_⟩, hN1.other (by omega) _ _⟩, hB.trans hb2⟩
        · rw [HS.out, runStep_new _ _ _ _ HX.out, runCells_snoc]
          simpa using hr2
        · intro h; rw [HS.out, runStep_new _ _ _ _ HX.out] at h; simp at h
  case done =>
    rintro D ys W hD rfl ⟨⟨⟨v, hv, hr, _⟩, hN⟩, hB⟩ hK
    have hc0 := hv.cell
    gi_wp2
    refine ⟨by simp, .inl ⟨_, _, rfl, run_takeDeferred hK, ?_⟩⟩
    exact ⟨_, results_tmp rfl _ _ _, v, rfl, ownsRow_putObj hr _ hK rfl, hB.trans (belowK_b (w := w) (Nat.le_refl _) _ D _ _ (by simp at hD; omega) hK rfl rfl)⟩
  case stop =>
    rintro D c pre W _ _ h _
    exact h.elim
end Go.Proofs.YtbccojjcdcighaaGreatDoor

namespace Go.Proofs.YtbccojjcdcighaaGreatDoor
open Go.RowKit BS
structure RunsInv (f : Nat → Bool) (k : Nat) (rs : List (Nat × Nat)) : Prop where
  ok : ∀ r ∈ rs, r.1 ≤ r.2 ∧ r.2 < k
  apart : rs.Pairwise fun r r' => r.2 + 2 ≤ r'.1
  all : ∀ j, j < k → (f j = true ↔ ∃ r ∈ rs, r.1 ≤ j ∧ j ≤ r.2)
theorem runsInv (f : Nat → Bool) : ∀ k, k ≤ 256 → RunsInv f k (runsOf (el f k))
  | 0, _ => ⟨fun _ h => by simp [el, runsOf] at h, by simp [el, runsOf], fun j hj => by omega⟩
  | k + 1, hk => by
    have ih := runsInv f k (by omega)
    rw [el_succ]
    by_cases hf : f k = true
    · rw [hf, if_pos rfl, runsOf_snoc]
      generalize runsOf (el f k) = rs at *
      rcases nil_or_snoc rs with rfl | ⟨rs', a, b, rfl⟩
      · rw [runStep_none]
        refine ⟨fun r hr => ?_, by simp, fun j hj => ?_⟩
        · simp at hr; subst hr; exact ⟨Nat.le_refl _, by simp⟩
        · by_cases hjk : j = k
          · subst hjk; simp [hf]
          · have := ih.all j (by omega)
            simp at this
            simp [this]; omega
      · have hb := ih.ok (a, b) (by simp)
        simp only at hb
        have hap := List.pairwise_append.1 ih.apart
        by_cases hbk : (b + 1) % 256 = k
        · rw [runStep_grow _ _ _ _ hbk]
          have hb1 : b + 1 = k := by omega
          refine ⟨fun r hr => ?_, ?_, fun j hj => ?_⟩
          · rcases List.mem_append.1 hr with h | h
            · have := ih.ok r (by simp [h]); exact ⟨this.1, by omega⟩
            · simp at h; subst h; simp only; omega
          · refine List.pairwise_append.2 ⟨hap.1, by simp, fun r hr r' hr' => ?_⟩
            simp at hr'; subst hr'
            exact hap.2.2 r hr (a, b) (by simp)
          · by_cases hjk : j = k
            · subst hjk; simp only [hf, true_iff]; exact ⟨(a, j), by simp, by simp only; omega⟩
            · rw [ih.all j (by omega)]
              constructor
              · rintro ⟨r, hr, h1, h2⟩
                rcases List.mem_append.1 hr with h | h
                · exact ⟨r, by simp [h], h1, h2⟩
                · simp at h; subst h; exact ⟨(a, k), by simp, h1, by simp only at h2 ⊢; omega⟩
              · rintro ⟨r, hr, h1, h2⟩
                rcases List.mem_append.1 hr with h | h
                · exact ⟨r, by simp [h], h1, h2⟩
                · simp at h; subst h; exact ⟨(a, b), by simp, h1, by simp only at h2 ⊢; omega⟩
        · rw [runStep_new _ _ _ _ hbk]
          have hb1 : b + 1 ≠ k := fun e => hbk (by omega)
          refine ⟨fun r hr => ?_, ?_, fun j hj => ?_⟩
          · rcases List.mem_append.1 hr with h | h
            · have := ih.ok r h; exact ⟨this.1, by omega⟩
            · simp at h; subst h; exact ⟨Nat.le_refl _, by simp⟩
          · refine List.pairwise_append.2 ⟨ih.apart, by simp, fun r hr r' hr' => ?_⟩
            simp at hr'; subst hr'
            rcases List.mem_append.1 hr with h | h
            · have h1 := hap.2.2 r h (a, b) (by simp)
              simp only at h1 ⊢; omega
            · simp at h; subst h; simp only; omega
          · by_cases hjk : j = k
            · subst hjk; simp only [hf, true_iff]; exact ⟨(j, j), by simp, Nat.le_refl _, Nat.le_refl _⟩
            · rw [ih.all j (by omega)]
              constructor
              · rintro ⟨r, hr, h1, h2⟩
                exact ⟨r, List.mem_append_left _ hr, h1, h2⟩
              · rintro ⟨r, hr, h1, h2⟩
                rcases List.mem_append.1 hr with h | h
                · exact ⟨r, h, h1, h2⟩
                · simp at h; subst h; simp only at h1 h2; omega
    · rw [if_neg hf, List.append_nil]
      refine ⟨fun r hr => ⟨(ih.ok r hr).1, by have := (ih.ok r hr).2; omega⟩, ih.apart, fun j hj => ?_⟩
      by_cases hjk : j = k
      · subst hjk
        refine ⟨fun h => absurd h hf, ?_⟩
        rintro ⟨r, hr, h1, h2⟩
        have := (ih.ok r hr).2; omega
      · exact ih.all j (by omega)
def rsOf (s : BitVec 256) : List (Nat × Nat) := runsOf (el s.getLsbD 256)
theorem rsOf_inv (s : BitVec 256) : RunsInv s.getLsbD 256 (rsOf s) := runsInv _ 256 (Nat.le_refl _)
theorem rsOf_ok (s : BitVec 256) (i : Nat) (h : i < (rsOf s).length) : (rsOf s)[i].1 ≤ (rsOf s)[i].2 ∧ (rsOf s)[i].2 < 256 := (rsOf_inv s).ok _ (List.getElem_mem h)
theorem rsOf_len (s : BitVec 256) : (rsOf s).length ≤ 256 := Nat.le_trans (runsOf_len _) (el_len _ _)
def orAll (rs : List (Nat × Nat)) : BitVec 256 := rs.foldl (fun t r => t ||| range r.1 r.2) 0
theorem get_orAll (rs : List (Nat × Nat)) (j : Nat) (hj : j < 256) : (orAll rs).getLsbD j = true ↔ ∃ r ∈ rs, r.1 ≤ j ∧ j ≤ r.2 := by
  suffices h : ∀ t, (rs.foldl (fun t r => t ||| range r.1 r.2) t).getLsbD j = true ↔ (t.getLsbD j = true ∨ ∃ r ∈ rs, r.1 ≤ j ∧ j ≤ r.2) by
    have := h 0; simpa [orAll] using this
  induction rs with
  | nil => intro t; simp
  | cons r rs ih =>
    intro t
    rw [List.foldl_cons, ih, BitVec.getLsbD_or, range, get_ofFn]
    simp only [hj, decide_true, Bool.true_and, Bool.or_eq_true, Bool.and_eq_true, decide_eq_true_eq, List.mem_cons, exists_eq_or_imp]
    constructor
    · rintro ((h | h) | h)
      · exact .inl h
      · exact .inr (.inl h)
      · exact .inr (.inr h)
    · rintro (h | h | h)
      · exact .inl (.inl h)
      · exact .inl (.inr h)
      · exact .inr h
theorem orAll_rsOf (s : BitVec 256) : orAll (rsOf s) = s := by
  apply BitVec.eq_of_getLsbD_eq
  intro j hj
  rw [Bool.eq_iff_iff, get_orAll _ _ hj]
  exact ((rsOf_inv s).all j hj).symm
theorem runCells_get (rs : List (Nat × Nat)) (j : Nat) (h : j < rs.length) : (runCells rs)[j * 2]? = some (.int .u8 (rs[j].1 : Int)) ∧ (runCells rs)[j * 2 + 1]? = some (.int .u8 (rs[j].2 : Int)) := by
  induction rs generalizing j with
  | nil => simp at h
  | cons r rs ih =>
    cases j with
    | zero => simp [runCells]
    | succ j =>
      have := ih j (by simpa using h)
      simp only [runCells, List.flatMap_cons] at this ⊢
      rw [show (j + 1) * 2 = j * 2 + 2 by omega]
      simpa using this
def RowAt (g : Nat) (rs : List (Nat × Nat)) (W : World) : Prop := g < W.heap.size ∧ ∀ j (h : j < rs.length), W.cell? ⟨g, j * 2, none⟩ = some (.int .u8 (rs[j].1 : Int)) ∧ W.cell? ⟨g, j * 2 + 1, none⟩ = some (.int .u8 (rs[j].2 : Int))
theorem RowAt.below {g : Nat} {rs : List (Nat × Nat)} {W W' : World} (h : RowAt g rs W) (hb : Below W.heap.size W W') : RowAt g rs W' :=
  ⟨Nat.lt_of_lt_of_le h.1 hb.size, fun j hj => ⟨(hb.cell (p := ⟨g, j * 2, none⟩) h.1).trans (h.2 j hj).1, (hb.cell (p := ⟨g, j * 2 + 1, none⟩) h.1).trans (h.2 j hj).2⟩⟩
theorem row_of_owns {base : Nat} {e : TypeId} {v : Value} {rs : List (Nat × Nat)} {W : World} (h : W.ownsRow base e 2 v rs.length (runCells rs)) :
    ∃ a cap, v = .slice a rs.length cap ∧ (rs ≠ [] → ∃ g, a = some ⟨g, 0, none⟩ ∧ base ≤ g ∧ RowAt g rs W) := by
  rcases h.2 with ⟨rfl, h0⟩ | ⟨g, cap, cur, rfl, hb, hg, _, _, _, _⟩
  · exact ⟨none, 0, by rw [h0], fun hne => absurd (List.eq_nil_of_length_eq_zero h0) hne⟩
  · refine ⟨_, cap, rfl, fun _ => ⟨g, rfl, hb, (Array.getElem?_eq_some_iff.1 hg).1, fun j hj => ?_⟩⟩
    have h1 := h.cellAt (j * 2) (by omega)
    have h2 := h.cellAt (j * 2 + 1) (by omega)
    exact ⟨h1.trans (runCells_get rs j hj).1, h2.trans (runCells_get rs j hj).2⟩
end Go.Proofs.YtbccojjcdcighaaGreatDoor

namespace Go.Proofs.YtbccojjcdcighaaGreatDoor
open Go.RowKit Go.Shelf BS
def s0 : BitVec 256 := withL (range 97 99) [120]
theorem runs_calls (s : BitVec 256) (w : World) (hT : Tab w) (hg : 1 < w.heap.size) :
    Calls Tryz.prog 105 #[setV s] w fun e W' => ∃ v, e = .returned v ∧ W'.ownsRow w.heap.size 132 2 v (runsOf (el s.getLsbD 256)).length (runCells (runsOf (el s.getLsbD 256))) ∧ Below w.heap.size w W' :=
  callsIn_wide.1 (runs_in 3 (by omega) s w hT hg)
end Go.Proofs.YtbccojjcdcighaaGreatDoor

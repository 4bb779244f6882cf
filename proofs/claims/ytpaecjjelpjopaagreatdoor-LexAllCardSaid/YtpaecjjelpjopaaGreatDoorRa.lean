/- The document's sets, by the reference's own calls: Has, Of, With. -/
import Derived.Test.YtpaecjjelpjopaaGreatDoorP1
import Derived.Laws.Rows
namespace Go.Proofs.YtpaecjjelpjopaaGreatDoor
open Go.RowKit BS

set_option maxHeartbeats 400000 in
/-- Has. -/
theorem rhas_calls (a : BitVec 256) (x : Int) (w : World) (h0 : 0 ≤ x) (h1 : x < 256) :
    Calls Tryz.prog 48 #[setV a, .int .i64 x] w fun e w' => e = .returned (.bool (a.getLsbD x.toNat)) ∧ Below w.heap.size w w' := by
  have hx2 : 0 ≤ x % 64 := by omega
  have hx3 : x % 64 < 64 := by omega
  have h4 : x / 64 = 0 ∨ x / 64 = 1 ∨ x / 64 = 2 ∨ x / 64 = 3 := by omega
  rcases h4 with hx | hx | hx | hx
  all_goals
    go_enter Tryz.func48, Tryz.ntmps48
    go_wp2
    go_ret
    refine ⟨ret_bool (has_word' a x _ _ ?_ ?_), by go_grown⟩ <;> omega

/-- 256 answers. -/
def Bools (arr : Array Value) (f : Nat → Bool) : Prop := arr.size = 256 ∧ ∀ i, i < 256 → arr[i]? = some (.bool (f i))
theorem Bools.set {arr : Array Value} {f : Nat → Bool} (h : Bools arr f) (i : Nat) (b : Bool) : Bools (arr.setIfInBounds i (.bool b)) (fun j => if j = i then b else f j) := by
  refine ⟨by simpa using h.1, fun j hj => ?_⟩
  by_cases hji : j = i
  · subst hji
    have : j < arr.size := by rw [h.1]; exact hj
    simp [this]
  · rw [Array.getElem?_setIfInBounds_ne (Ne.symm hji), h.2 j hj]; simp [hji]
theorem ofFn_congr {f g : Nat → Bool} (h : ∀ j, j < 256 → f j = g j) : ofFn f = ofFn g := by
  apply BitVec.eq_of_getLsbD_eq; intro j hj
  rw [get_ofFn, get_ofFn, h j hj]

/-- The first k answers, as a set. -/
def pre (f : Nat → Bool) (k : Nat) : BitVec 256 := ofFn fun j => decide (j < k) && f j
theorem pre_true (f : Nat → Bool) (k : Nat) (h : f k = true) : pre f (k + 1) = pre f k ||| one k := by
  apply BitVec.eq_of_getLsbD_eq; intro j hj
  rw [BitVec.getLsbD_or, pre, pre, one, get_ofFn, get_ofFn, get_ofFn]
  simp only [hj, decide_true, Bool.true_and]
  by_cases hjk : j = k
  · subst hjk; simp [h]
  · have : (j < k + 1) ↔ (j < k) := by omega
    simp [this, hjk]
theorem pre_false (f : Nat → Bool) (k : Nat) (h : f k = false) : pre f (k + 1) = pre f k := by
  apply ofFn_congr; intro j hj
  by_cases hjk : j = k
  · subst hjk; simp [h]
  · have : (j < k + 1) ↔ (j < k) := by omega
    simp [this]
theorem pre_all (f : Nat → Bool) : pre f 256 = ofFn f := ofFn_congr fun j hj => by simp [hj]
theorem pre_none (f : Nat → Bool) : pre f 0 = 0 := by
  apply BitVec.eq_of_getLsbD_eq; intro j hj
  rw [pre, get_ofFn]; simp

/-- A set stored into a box of its own. -/
theorem fin4 {w W : World} {n B : Nat} {a b c d : Value} {T : TypeId} (h : Blk W B #[a, b, c, d] T) (hb : Below n w W) (hB : n ≤ B) (t : BitVec 256) :
    Blk ((((W.setCell ⟨B, 0, none⟩ (.int .u64 (wd t 0))).setCell ⟨B, 1, none⟩ (.int .u64 (wd t 1))).setCell ⟨B, 2, none⟩ (.int .u64 (wd t 2))).setCell ⟨B, 3, none⟩ (.int .u64 (wd t 3))) B (setA t) T ∧
    Below n w ((((W.setCell ⟨B, 0, none⟩ (.int .u64 (wd t 0))).setCell ⟨B, 1, none⟩ (.int .u64 (wd t 1))).setCell ⟨B, 2, none⟩ (.int .u64 (wd t 2))).setCell ⟨B, 3, none⟩ (.int .u64 (wd t 3))) :=
  ⟨(((h.set 0 _).set 1 _).set 2 _).set 3 _, below_set (below_set (below_set (below_set hb hB _ _) hB _ _) hB _ _) hB _ _⟩

def SO (w : World) (arr : Array Value) (t : BitVec 256) (W : World) : Prop :=
  (Blk W w.heap.size arr 72 ∧ Blk W (w.heap.size + 1) (setA 0) 25 ∧ Blk W (w.heap.size + 1 + 1) (setA t) 25) ∧ Below w.heap.size w W
theorem drew_ok {w W : World} {arr : Array Value} {t : BitVec 256} (h : SO w arr t W) : SO w arr t W.drew := ⟨⟨h.1.1, h.1.2.1, h.1.2.2⟩, h.2.drew⟩
theorem SO.store {w W : World} {arr : Array Value} {t t' : BitVec 256} (h : SO w arr t W) (i : Nat) (v : Value) (hv : (setA t).setIfInBounds i v = setA t') : SO w arr t' (W.setCell ⟨w.heap.size + 1 + 1, i, none⟩ v) :=
  ⟨⟨h.1.1.other (by omega) _ _, h.1.2.1.other (by omega) _ _, by rw [← hv]; exact h.1.2.2.set i v⟩, below_set h.2 (by omega) _ _⟩

set_option maxRecDepth 100000 in
set_option maxHeartbeats 4000000 in
/-- Of. -/
theorem of_calls (arr : Array Value) (f : Nat → Bool) (hb : Bools arr f) (w : World) :
    Calls Tryz.prog 37 #[.agg arr] w fun e w' => e = .returned (setV (ofFn f)) ∧ Below w.heap.size w w' := by
  have h0 : SO w arr (pre f 0) (((w.alloc (.cells arr 72)).alloc (.cells (setA 0) 25)).alloc (.cells (setA 0) 25)) := by
    rw [pre_none]
    refine ⟨⟨((Blk.new w _ _).alloc _).alloc _, ?_, ?_⟩, by go_grown⟩
    · have := (Blk.new (w.alloc (.cells arr 72)) (setA 0) 25).alloc (.cells (setA 0) 25)
      rwa [World.size_alloc] at this
    · have := Blk.new ((w.alloc (.cells arr 72)).alloc (.cells (setA 0) 25)) (setA 0) 25
      rwa [World.size_alloc, World.size_alloc] at this
  have HB := Lib.hid hb
  clear hb
  go_enter Tryz.func37, Tryz.ntmps37
  go_wp2_with fail
  have e0 : ((w.alloc (.cells arr 72)).alloc (.cells #[.int .u64 0, .int .u64 0, .int .u64 0, .int .u64 0] 25)).alloc (.cells #[.int .u64 0, .int .u64 0, .int .u64 0, .int .u64 0] 25) = ((w.alloc (.cells arr 72)).alloc (.cells (setA 0) 25)).alloc (.cells (setA 0) 25) := rfl
  rw [e0]
  clear e0
  generalize ((w.alloc (.cells arr 72)).alloc (.cells (setA 0) 25)).alloc (.cells (setA 0) 25) = w1 at *
  go_loopw [4] (fun i wr => ∃ k : Nat, k ≤ 256 ∧ i = .int .i64 k ∧ SO w arr (pre f k) wr) (fun i _ => 256 - (intOf i).toNat)
  case atStart => exact ⟨0, Nat.zero_le _, rfl, h0⟩
  case round =>
    clear h0
    obtain ⟨k, hk, rfl, hU⟩ := hrel
    by_cases hkl : k < 256
    · have hc := (hU.1.1.cell k).trans (HB.out.2 k hkl)
      cases hf : f k with
      | false =>
        rw [hf] at hc
        have HF := Lib.hid hf
        have HU := Lib.hid hU
        clear hf hU
        go_wp2
        go_roundw
        case rel =>
          refine ⟨k + 1, by omega, by simp, ?_⟩
          rw [pre_false f k HF.out]; exact HU.out
        case measure => simp [intOf]; omega
      | true =>
        rw [hf] at hc
        have HF := Lib.hid hf
        clear hf
        have HT := Lib.hid (pre_true f k HF.out)
        generalize pre f k = t at *
        have hx2 : 0 ≤ (k : Int) % 64 := by omega
        have hx3 : (k : Int) % 64 < 64 := by omega
        have h4 : (k : Int) / 64 = 0 ∨ (k : Int) / 64 = 1 ∨ (k : Int) / 64 = 2 ∨ (k : Int) / 64 = 3 := by omega
        rcases h4 with hx4 | hx4 | hx4 | hx4
        · go_wp2_with fail
          refine region_stepsM (S := SO w arr t) (m := 11) rfl (by kernel_rfl) (drew_ok hU) ?_
          simp only [List.size_toArray, List.length_cons, List.length_nil, Nat.reduceAdd, Array.replicate_succ, Array.replicate_zero, List.push_toArray, List.nil_append, List.cons_append]
          refine AnyM.next (m := 11) (i := 0) (d := some 12) (v := .int .i64 ((k : Nat) : Int)) rfl rfl (by kernel_rfl) (by kernel_rfl) (by kernel_rfl) (by kernel_rfl) (StepsIf.yield (by kernel_rfl) (fun w' hS => by clear hS; go_simp)) ?_
          intro a' ha'
          simp only [Act.put, List.setIfInBounds_toArray, List.set_cons_zero, List.set_cons_succ] at ha'
          subst ha'
          refine AnyM.next (m := 11) (i := 1) (d := some 13) (v := .int .i64 0) rfl rfl (by kernel_rfl) (by kernel_rfl) (by kernel_rfl) (by kernel_rfl) (StepsIf.yield (by kernel_rfl) (fun w' hS => by clear hS; go_simp; exact IntWalk.i64_in _ (by omega))) ?_
          intro a' ha'
          simp only [Act.put, List.setIfInBounds_toArray, List.set_cons_zero, List.set_cons_succ] at ha'
          subst ha'
          refine AnyM.next (m := 11) (i := 2) (d := some 14) (v := .int .i64 ((k : Nat) : Int)) rfl rfl (by kernel_rfl) (by kernel_rfl) (by kernel_rfl) (by kernel_rfl) (StepsIf.yield (by kernel_rfl) (fun w' hS => by clear hS; go_simp)) ?_
          intro a' ha'
          simp only [Act.put, List.setIfInBounds_toArray, List.set_cons_zero, List.set_cons_succ] at ha'
          subst ha'
          refine AnyM.next (m := 11) (i := 3) (d := some 15) (v := .int .i64 0) rfl rfl (by kernel_rfl) (by kernel_rfl) (by kernel_rfl) (by kernel_rfl) (StepsIf.yield (by kernel_rfl) (fun w' hS => by clear hS; go_simp; exact IntWalk.i64_in _ (by omega))) ?_
          intro a' ha'
          simp only [Act.put, List.setIfInBounds_toArray, List.set_cons_zero, List.set_cons_succ] at ha'
          subst ha'
          refine AnyM.next (m := 11) (i := 4) (d := some 16) (v := .pointer (some ⟨w.heap.size + 1 + 1, 0, none⟩)) rfl rfl (by kernel_rfl) (by kernel_rfl) (by kernel_rfl) (by kernel_rfl) (StepsIf.yield (by kernel_rfl) (fun w' hS => by clear hS; go_simp)) ?_
          intro a' ha'
          simp only [Act.put, List.setIfInBounds_toArray, List.set_cons_zero, List.set_cons_succ] at ha'
          subst ha'
          refine AnyM.next (m := 11) (i := 5) (d := some 17) (v := .int .u64 (wd t 0)) rfl rfl (by kernel_rfl) (by kernel_rfl) (by kernel_rfl) (by kernel_rfl) (StepsIf.yield (by kernel_rfl) (fun w' hS => by obtain ⟨⟨c0, c1, c2, c3⟩, _⟩ := hS.1.2.2.cells4; clear hS; go_simp)) ?_
          intro a' ha'
          simp only [Act.put, List.setIfInBounds_toArray, List.set_cons_zero, List.set_cons_succ] at ha'
          subst ha'
          refine AnyM.next (m := 11) (i := 6) (d := some 18) (v := .int .i64 ((k : Nat) : Int)) rfl rfl (by kernel_rfl) (by kernel_rfl) (by kernel_rfl) (by kernel_rfl) (StepsIf.yield (by kernel_rfl) (fun w' hS => by clear hS; go_simp)) ?_
          intro a' ha'
          simp only [Act.put, List.setIfInBounds_toArray, List.set_cons_zero, List.set_cons_succ] at ha'
          subst ha'
          refine AnyM.next (m := 11) (i := 7) (d := some 19) (v := .int .i64 (((k : Nat) : Int) % 64)) rfl rfl (by kernel_rfl) (by kernel_rfl) (by kernel_rfl) (by kernel_rfl) (StepsIf.yield (by kernel_rfl) (fun w' hS => by clear hS; go_simp; exact Int.tmod_eq_emod_of_nonneg (by omega))) ?_
          intro a' ha'
          simp only [Act.put, List.setIfInBounds_toArray, List.set_cons_zero, List.set_cons_succ] at ha'
          subst ha'
          refine AnyM.next (m := 11) (i := 8) (d := some 20) (v := .int .u64 (IntKind.u64.wrap (2 ^ (k % 64)))) rfl rfl (by kernel_rfl) (by kernel_rfl) (by kernel_rfl) (by kernel_rfl) (StepsIf.yield (by kernel_rfl) (fun w' hS => by clear hS; go_simp; rw [show (((k : Nat) : Int) % 64).toNat = k % 64 by omega])) ?_
          intro a' ha'
          simp only [Act.put, List.setIfInBounds_toArray, List.set_cons_zero, List.set_cons_succ] at ha'
          subst ha'
          refine AnyM.next (m := 11) (i := 9) (d := some 21) (v := .int .u64 (bits .or .u64 (wd t 0) (IntKind.u64.wrap (2 ^ (k % 64))))) rfl rfl (by kernel_rfl) (by kernel_rfl) (by kernel_rfl) (by kernel_rfl) (StepsIf.yield (by kernel_rfl) (fun w' hS => by clear hS; go_simp)) ?_
          intro a' ha'
          simp only [Act.put, List.setIfInBounds_toArray, List.set_cons_zero, List.set_cons_succ] at ha'
          subst ha'
          refine AnyM.next (m := 11) (i := 10) (d := some 22) (v := .pointer (some ⟨w.heap.size + 1 + 1, 0, none⟩)) rfl rfl (by kernel_rfl) (by kernel_rfl) (by kernel_rfl) (by kernel_rfl) (StepsIf.yield (by kernel_rfl) (fun w' hS => by clear hS; go_simp)) ?_
          intro a' ha'
          simp only [Act.put, List.setIfInBounds_toArray, List.set_cons_zero, List.set_cons_succ] at ha'
          subst ha'
          clear hU
          refine AnyM.last rfl (by kernel_rfl) (by kernel_rfl) (by kernel_rfl) (fun w3 hU K hK => ?_)
          obtain ⟨⟨c0, c1, c2, c3⟩, f0, f1, f2, f3⟩ := hU.1.2.2.cells4
          have HU := Lib.hid hU
          clear hU
          go_simp
          refine hK _ _ ?_
          clear hK K
          go_wp2
          go_roundw
          case rel =>
            refine ⟨k + 1, by omega, by simp, ?_⟩
            rw [HT.out]
            exact HU.out.store 0 _ (setA_or t k (by omega))
          case measure => simp [intOf]; omega
        · go_wp2_with fail
          refine region_stepsM (S := SO w arr t) (m := 11) rfl (by kernel_rfl) (drew_ok hU) ?_
          simp only [List.size_toArray, List.length_cons, List.length_nil, Nat.reduceAdd, Array.replicate_succ, Array.replicate_zero, List.push_toArray, List.nil_append, List.cons_append]
          refine AnyM.next (m := 11) (i := 0) (d := some 12) (v := .int .i64 ((k : Nat) : Int)) rfl rfl (by kernel_rfl) (by kernel_rfl) (by kernel_rfl) (by kernel_rfl) (StepsIf.yield (by kernel_rfl) (fun w' hS => by clear hS; go_simp)) ?_
          intro a' ha'
          simp only [Act.put, List.setIfInBounds_toArray, List.set_cons_zero, List.set_cons_succ] at ha'
          subst ha'
          refine AnyM.next (m := 11) (i := 1) (d := some 13) (v := .int .i64 1) rfl rfl (by kernel_rfl) (by kernel_rfl) (by kernel_rfl) (by kernel_rfl) (StepsIf.yield (by kernel_rfl) (fun w' hS => by clear hS; go_simp; exact IntWalk.i64_in _ (by omega))) ?_
          intro a' ha'
          simp only [Act.put, List.setIfInBounds_toArray, List.set_cons_zero, List.set_cons_succ] at ha'
          subst ha'
          refine AnyM.next (m := 11) (i := 2) (d := some 14) (v := .int .i64 ((k : Nat) : Int)) rfl rfl (by kernel_rfl) (by kernel_rfl) (by kernel_rfl) (by kernel_rfl) (StepsIf.yield (by kernel_rfl) (fun w' hS => by clear hS; go_simp)) ?_
          intro a' ha'
          simp only [Act.put, List.setIfInBounds_toArray, List.set_cons_zero, List.set_cons_succ] at ha'
          subst ha'
          refine AnyM.next (m := 11) (i := 3) (d := some 15) (v := .int .i64 1) rfl rfl (by kernel_rfl) (by kernel_rfl) (by kernel_rfl) (by kernel_rfl) (StepsIf.yield (by kernel_rfl) (fun w' hS => by clear hS; go_simp; exact IntWalk.i64_in _ (by omega))) ?_
          intro a' ha'
          simp only [Act.put, List.setIfInBounds_toArray, List.set_cons_zero, List.set_cons_succ] at ha'
          subst ha'
          refine AnyM.next (m := 11) (i := 4) (d := some 16) (v := .pointer (some ⟨w.heap.size + 1 + 1, 1, none⟩)) rfl rfl (by kernel_rfl) (by kernel_rfl) (by kernel_rfl) (by kernel_rfl) (StepsIf.yield (by kernel_rfl) (fun w' hS => by clear hS; go_simp)) ?_
          intro a' ha'
          simp only [Act.put, List.setIfInBounds_toArray, List.set_cons_zero, List.set_cons_succ] at ha'
          subst ha'
          refine AnyM.next (m := 11) (i := 5) (d := some 17) (v := .int .u64 (wd t 1)) rfl rfl (by kernel_rfl) (by kernel_rfl) (by kernel_rfl) (by kernel_rfl) (StepsIf.yield (by kernel_rfl) (fun w' hS => by obtain ⟨⟨c0, c1, c2, c3⟩, _⟩ := hS.1.2.2.cells4; clear hS; go_simp)) ?_
          intro a' ha'
          simp only [Act.put, List.setIfInBounds_toArray, List.set_cons_zero, List.set_cons_succ] at ha'
          subst ha'
          refine AnyM.next (m := 11) (i := 6) (d := some 18) (v := .int .i64 ((k : Nat) : Int)) rfl rfl (by kernel_rfl) (by kernel_rfl) (by kernel_rfl) (by kernel_rfl) (StepsIf.yield (by kernel_rfl) (fun w' hS => by clear hS; go_simp)) ?_
          intro a' ha'
          simp only [Act.put, List.setIfInBounds_toArray, List.set_cons_zero, List.set_cons_succ] at ha'
          subst ha'
          refine AnyM.next (m := 11) (i := 7) (d := some 19) (v := .int .i64 (((k : Nat) : Int) % 64)) rfl rfl (by kernel_rfl) (by kernel_rfl) (by kernel_rfl) (by kernel_rfl) (StepsIf.yield (by kernel_rfl) (fun w' hS => by clear hS; go_simp; exact Int.tmod_eq_emod_of_nonneg (by omega))) ?_
          intro a' ha'
          simp only [Act.put, List.setIfInBounds_toArray, List.set_cons_zero, List.set_cons_succ] at ha'
          subst ha'
          refine AnyM.next (m := 11) (i := 8) (d := some 20) (v := .int .u64 (IntKind.u64.wrap (2 ^ (k % 64)))) rfl rfl (by kernel_rfl) (by kernel_rfl) (by kernel_rfl) (by kernel_rfl) (StepsIf.yield (by kernel_rfl) (fun w' hS => by clear hS; go_simp; rw [show (((k : Nat) : Int) % 64).toNat = k % 64 by omega])) ?_
          intro a' ha'
          simp only [Act.put, List.setIfInBounds_toArray, List.set_cons_zero, List.set_cons_succ] at ha'
          subst ha'
          refine AnyM.next (m := 11) (i := 9) (d := some 21) (v := .int .u64 (bits .or .u64 (wd t 1) (IntKind.u64.wrap (2 ^ (k % 64))))) rfl rfl (by kernel_rfl) (by kernel_rfl) (by kernel_rfl) (by kernel_rfl) (StepsIf.yield (by kernel_rfl) (fun w' hS => by clear hS; go_simp)) ?_
          intro a' ha'
          simp only [Act.put, List.setIfInBounds_toArray, List.set_cons_zero, List.set_cons_succ] at ha'
          subst ha'
          refine AnyM.next (m := 11) (i := 10) (d := some 22) (v := .pointer (some ⟨w.heap.size + 1 + 1, 1, none⟩)) rfl rfl (by kernel_rfl) (by kernel_rfl) (by kernel_rfl) (by kernel_rfl) (StepsIf.yield (by kernel_rfl) (fun w' hS => by clear hS; go_simp)) ?_
          intro a' ha'
          simp only [Act.put, List.setIfInBounds_toArray, List.set_cons_zero, List.set_cons_succ] at ha'
          subst ha'
          clear hU
          refine AnyM.last rfl (by kernel_rfl) (by kernel_rfl) (by kernel_rfl) (fun w3 hU K hK => ?_)
          obtain ⟨⟨c0, c1, c2, c3⟩, f0, f1, f2, f3⟩ := hU.1.2.2.cells4
          have HU := Lib.hid hU
          clear hU
          go_simp
          refine hK _ _ ?_
          clear hK K
          go_wp2
          go_roundw
          case rel =>
            refine ⟨k + 1, by omega, by simp, ?_⟩
            rw [HT.out]
            exact HU.out.store 1 _ (setA_or1 t k (by omega))
          case measure => simp [intOf]; omega
        · go_wp2_with fail
          refine region_stepsM (S := SO w arr t) (m := 11) rfl (by kernel_rfl) (drew_ok hU) ?_
          simp only [List.size_toArray, List.length_cons, List.length_nil, Nat.reduceAdd, Array.replicate_succ, Array.replicate_zero, List.push_toArray, List.nil_append, List.cons_append]
          refine AnyM.next (m := 11) (i := 0) (d := some 12) (v := .int .i64 ((k : Nat) : Int)) rfl rfl (by kernel_rfl) (by kernel_rfl) (by kernel_rfl) (by kernel_rfl) (StepsIf.yield (by kernel_rfl) (fun w' hS => by clear hS; go_simp)) ?_
          intro a' ha'
          simp only [Act.put, List.setIfInBounds_toArray, List.set_cons_zero, List.set_cons_succ] at ha'
          subst ha'
          refine AnyM.next (m := 11) (i := 1) (d := some 13) (v := .int .i64 2) rfl rfl (by kernel_rfl) (by kernel_rfl) (by kernel_rfl) (by kernel_rfl) (StepsIf.yield (by kernel_rfl) (fun w' hS => by clear hS; go_simp; exact IntWalk.i64_in _ (by omega))) ?_
          intro a' ha'
          simp only [Act.put, List.setIfInBounds_toArray, List.set_cons_zero, List.set_cons_succ] at ha'
          subst ha'
          refine AnyM.next (m := 11) (i := 2) (d := some 14) (v := .int .i64 ((k : Nat) : Int)) rfl rfl (by kernel_rfl) (by kernel_rfl) (by kernel_rfl) (by kernel_rfl) (StepsIf.yield (by kernel_rfl) (fun w' hS => by clear hS; go_simp)) ?_
          intro a' ha'
          simp only [Act.put, List.setIfInBounds_toArray, List.set_cons_zero, List.set_cons_succ] at ha'
          subst ha'
          refine AnyM.next (m := 11) (i := 3) (d := some 15) (v := .int .i64 2) rfl rfl (by kernel_rfl) (by kernel_rfl) (by kernel_rfl) (by kernel_rfl) (StepsIf.yield (by kernel_rfl) (fun w' hS => by clear hS; go_simp; exact IntWalk.i64_in _ (by omega))) ?_
          intro a' ha'
          simp only [Act.put, List.setIfInBounds_toArray, List.set_cons_zero, List.set_cons_succ] at ha'
          subst ha'
          refine AnyM.next (m := 11) (i := 4) (d := some 16) (v := .pointer (some ⟨w.heap.size + 1 + 1, 2, none⟩)) rfl rfl (by kernel_rfl) (by kernel_rfl) (by kernel_rfl) (by kernel_rfl) (StepsIf.yield (by kernel_rfl) (fun w' hS => by clear hS; go_simp)) ?_
          intro a' ha'
          simp only [Act.put, List.setIfInBounds_toArray, List.set_cons_zero, List.set_cons_succ] at ha'
          subst ha'
          refine AnyM.next (m := 11) (i := 5) (d := some 17) (v := .int .u64 (wd t 2)) rfl rfl (by kernel_rfl) (by kernel_rfl) (by kernel_rfl) (by kernel_rfl) (StepsIf.yield (by kernel_rfl) (fun w' hS => by obtain ⟨⟨c0, c1, c2, c3⟩, _⟩ := hS.1.2.2.cells4; clear hS; go_simp)) ?_
          intro a' ha'
          simp only [Act.put, List.setIfInBounds_toArray, List.set_cons_zero, List.set_cons_succ] at ha'
          subst ha'
          refine AnyM.next (m := 11) (i := 6) (d := some 18) (v := .int .i64 ((k : Nat) : Int)) rfl rfl (by kernel_rfl) (by kernel_rfl) (by kernel_rfl) (by kernel_rfl) (StepsIf.yield (by kernel_rfl) (fun w' hS => by clear hS; go_simp)) ?_
          intro a' ha'
          simp only [Act.put, List.setIfInBounds_toArray, List.set_cons_zero, List.set_cons_succ] at ha'
          subst ha'
          refine AnyM.next (m := 11) (i := 7) (d := some 19) (v := .int .i64 (((k : Nat) : Int) % 64)) rfl rfl (by kernel_rfl) (by kernel_rfl) (by kernel_rfl) (by kernel_rfl) (StepsIf.yield (by kernel_rfl) (fun w' hS => by clear hS; go_simp; exact Int.tmod_eq_emod_of_nonneg (by omega))) ?_
          intro a' ha'
          simp only [Act.put, List.setIfInBounds_toArray, List.set_cons_zero, List.set_cons_succ] at ha'
          subst ha'
          refine AnyM.next (m := 11) (i := 8) (d := some 20) (v := .int .u64 (IntKind.u64.wrap (2 ^ (k % 64)))) rfl rfl (by kernel_rfl) (by kernel_rfl) (by kernel_rfl) (by kernel_rfl) (StepsIf.yield (by kernel_rfl) (fun w' hS => by clear hS; go_simp; rw [show (((k : Nat) : Int) % 64).toNat = k % 64 by omega])) ?_
          intro a' ha'
          simp only [Act.put, List.setIfInBounds_toArray, List.set_cons_zero, List.set_cons_succ] at ha'
          subst ha'
          refine AnyM.next (m := 11) (i := 9) (d := some 21) (v := .int .u64 (bits .or .u64 (wd t 2) (IntKind.u64.wrap (2 ^ (k % 64))))) rfl rfl (by kernel_rfl) (by kernel_rfl) (by kernel_rfl) (by kernel_rfl) (StepsIf.yield (by kernel_rfl) (fun w' hS => by clear hS; go_simp)) ?_
          intro a' ha'
          simp only [Act.put, List.setIfInBounds_toArray, List.set_cons_zero, List.set_cons_succ] at ha'
          subst ha'
          refine AnyM.next (m := 11) (i := 10) (d := some 22) (v := .pointer (some ⟨w.heap.size + 1 + 1, 2, none⟩)) rfl rfl (by kernel_rfl) (by kernel_rfl) (by kernel_rfl) (by kernel_rfl) (StepsIf.yield (by kernel_rfl) (fun w' hS => by clear hS; go_simp)) ?_
          intro a' ha'
          simp only [Act.put, List.setIfInBounds_toArray, List.set_cons_zero, List.set_cons_succ] at ha'
          subst ha'
          clear hU
          refine AnyM.last rfl (by kernel_rfl) (by kernel_rfl) (by kernel_rfl) (fun w3 hU K hK => ?_)
          obtain ⟨⟨c0, c1, c2, c3⟩, f0, f1, f2, f3⟩ := hU.1.2.2.cells4
          have HU := Lib.hid hU
          clear hU
          go_simp
          refine hK _ _ ?_
          clear hK K
          go_wp2
          go_roundw
          case rel =>
            refine ⟨k + 1, by omega, by simp, ?_⟩
            rw [HT.out]
            exact HU.out.store 2 _ (setA_or2 t k (by omega))
          case measure => simp [intOf]; omega
        · go_wp2_with fail
          refine region_stepsM (S := SO w arr t) (m := 11) rfl (by kernel_rfl) (drew_ok hU) ?_
          simp only [List.size_toArray, List.length_cons, List.length_nil, Nat.reduceAdd, Array.replicate_succ, Array.replicate_zero, List.push_toArray, List.nil_append, List.cons_append]
          refine AnyM.next (m := 11) (i := 0) (d := some 12) (v := .int .i64 ((k : Nat) : Int)) rfl rfl (by kernel_rfl) (by kernel_rfl) (by kernel_rfl) (by kernel_rfl) (StepsIf.yield (by kernel_rfl) (fun w' hS => by clear hS; go_simp)) ?_
          intro a' ha'
          simp only [Act.put, List.setIfInBounds_toArray, List.set_cons_zero, List.set_cons_succ] at ha'
          subst ha'
          refine AnyM.next (m := 11) (i := 1) (d := some 13) (v := .int .i64 3) rfl rfl (by kernel_rfl) (by kernel_rfl) (by kernel_rfl) (by kernel_rfl) (StepsIf.yield (by kernel_rfl) (fun w' hS => by clear hS; go_simp; exact IntWalk.i64_in _ (by omega))) ?_
          intro a' ha'
          simp only [Act.put, List.setIfInBounds_toArray, List.set_cons_zero, List.set_cons_succ] at ha'
          subst ha'
          refine AnyM.next (m := 11) (i := 2) (d := some 14) (v := .int .i64 ((k : Nat) : Int)) rfl rfl (by kernel_rfl) (by kernel_rfl) (by kernel_rfl) (by kernel_rfl) (StepsIf.yield (by kernel_rfl) (fun w' hS => by clear hS; go_simp)) ?_
          intro a' ha'
          simp only [Act.put, List.setIfInBounds_toArray, List.set_cons_zero, List.set_cons_succ] at ha'
          subst ha'
          refine AnyM.next (m := 11) (i := 3) (d := some 15) (v := .int .i64 3) rfl rfl (by kernel_rfl) (by kernel_rfl) (by kernel_rfl) (by kernel_rfl) (StepsIf.yield (by kernel_rfl) (fun w' hS => by clear hS; go_simp; exact IntWalk.i64_in _ (by omega))) ?_
          intro a' ha'
          simp only [Act.put, List.setIfInBounds_toArray, List.set_cons_zero, List.set_cons_succ] at ha'
          subst ha'
          refine AnyM.next (m := 11) (i := 4) (d := some 16) (v := .pointer (some ⟨w.heap.size + 1 + 1, 3, none⟩)) rfl rfl (by kernel_rfl) (by kernel_rfl) (by kernel_rfl) (by kernel_rfl) (StepsIf.yield (by kernel_rfl) (fun w' hS => by clear hS; go_simp)) ?_
          intro a' ha'
          simp only [Act.put, List.setIfInBounds_toArray, List.set_cons_zero, List.set_cons_succ] at ha'
          subst ha'
          refine AnyM.next (m := 11) (i := 5) (d := some 17) (v := .int .u64 (wd t 3)) rfl rfl (by kernel_rfl) (by kernel_rfl) (by kernel_rfl) (by kernel_rfl) (StepsIf.yield (by kernel_rfl) (fun w' hS => by obtain ⟨⟨c0, c1, c2, c3⟩, _⟩ := hS.1.2.2.cells4; clear hS; go_simp)) ?_
          intro a' ha'
          simp only [Act.put, List.setIfInBounds_toArray, List.set_cons_zero, List.set_cons_succ] at ha'
          subst ha'
          refine AnyM.next (m := 11) (i := 6) (d := some 18) (v := .int .i64 ((k : Nat) : Int)) rfl rfl (by kernel_rfl) (by kernel_rfl) (by kernel_rfl) (by kernel_rfl) (StepsIf.yield (by kernel_rfl) (fun w' hS => by clear hS; go_simp)) ?_
          intro a' ha'
          simp only [Act.put, List.setIfInBounds_toArray, List.set_cons_zero, List.set_cons_succ] at ha'
          subst ha'
          refine AnyM.next (m := 11) (i := 7) (d := some 19) (v := .int .i64 (((k : Nat) : Int) % 64)) rfl rfl (by kernel_rfl) (by kernel_rfl) (by kernel_rfl) (by kernel_rfl) (StepsIf.yield (by kernel_rfl) (fun w' hS => by clear hS; go_simp; exact Int.tmod_eq_emod_of_nonneg (by omega))) ?_
          intro a' ha'
          simp only [Act.put, List.setIfInBounds_toArray, List.set_cons_zero, List.set_cons_succ] at ha'
          subst ha'
          refine AnyM.next (m := 11) (i := 8) (d := some 20) (v := .int .u64 (IntKind.u64.wrap (2 ^ (k % 64)))) rfl rfl (by kernel_rfl) (by kernel_rfl) (by kernel_rfl) (by kernel_rfl) (StepsIf.yield (by kernel_rfl) (fun w' hS => by clear hS; go_simp; rw [show (((k : Nat) : Int) % 64).toNat = k % 64 by omega])) ?_
          intro a' ha'
          simp only [Act.put, List.setIfInBounds_toArray, List.set_cons_zero, List.set_cons_succ] at ha'
          subst ha'
          refine AnyM.next (m := 11) (i := 9) (d := some 21) (v := .int .u64 (bits .or .u64 (wd t 3) (IntKind.u64.wrap (2 ^ (k % 64))))) rfl rfl (by kernel_rfl) (by kernel_rfl) (by kernel_rfl) (by kernel_rfl) (StepsIf.yield (by kernel_rfl) (fun w' hS => by clear hS; go_simp)) ?_
          intro a' ha'
          simp only [Act.put, List.setIfInBounds_toArray, List.set_cons_zero, List.set_cons_succ] at ha'
          subst ha'
          refine AnyM.next (m := 11) (i := 10) (d := some 22) (v := .pointer (some ⟨w.heap.size + 1 + 1, 3, none⟩)) rfl rfl (by kernel_rfl) (by kernel_rfl) (by kernel_rfl) (by kernel_rfl) (StepsIf.yield (by kernel_rfl) (fun w' hS => by clear hS; go_simp)) ?_
          intro a' ha'
          simp only [Act.put, List.setIfInBounds_toArray, List.set_cons_zero, List.set_cons_succ] at ha'
          subst ha'
          clear hU
          refine AnyM.last rfl (by kernel_rfl) (by kernel_rfl) (by kernel_rfl) (fun w3 hU K hK => ?_)
          obtain ⟨⟨c0, c1, c2, c3⟩, f0, f1, f2, f3⟩ := hU.1.2.2.cells4
          have HU := Lib.hid hU
          clear hU
          go_simp
          refine hK _ _ ?_
          clear hK K
          go_wp2
          go_roundw
          case rel =>
            refine ⟨k + 1, by omega, by simp, ?_⟩
            rw [HT.out]
            exact HU.out.store 3 _ (setA_or3 t k (by omega))
          case measure => simp [intOf]; omega
    · obtain rfl : k = 256 := by omega
      rw [pre_all] at hU
      obtain ⟨⟨c0, c1, c2, c3⟩, _⟩ := hU.1.2.2.cells4
      obtain ⟨⟨d0, d1, d2, d3⟩, g0, g1, g2, g3⟩ := hU.1.2.1.cells4
      have HU := Lib.hid hU
      clear hU
      generalize ht : ofFn f = t at *
      have HT := Lib.hid ht
      clear ht
      go_wp2
      obtain ⟨hR, hB⟩ := fin4 HU.out.1.2.1 HU.out.2 (by omega) t
      clear d0 d1 d2 d3 g0 g1 g2 g3 c0 c1 c2 c3 HU hkl hk HB
      generalize (((wr.setCell ⟨w.heap.size + 1, 0, none⟩ (.int .u64 (wd t 0))).setCell ⟨w.heap.size + 1, 1, none⟩ (.int .u64 (wd t 1))).setCell ⟨w.heap.size + 1, 2, none⟩ (.int .u64 (wd t 2))).setCell ⟨w.heap.size + 1, 3, none⟩ (.int .u64 (wd t 3)) = W4 at *
      obtain ⟨⟨e0, e1, e2, e3⟩, _⟩ := hR.cells4
      exact bodyPost_ret (v := setV t) (by simp [results, Tryz.results37, go_sem, e0, e1, e2, e3]) rfl ⟨by rw [HT.out], hB⟩

def SW (w : World) (t : BitVec 256) (W : World) : Prop :=
  (Blk W w.heap.size (setA t) 25 ∧ Blk W (w.heap.size + 1) (setA 0) 25) ∧ Below w.heap.size w W
theorem drew_w {w W : World} {t : BitVec 256} (h : SW w t W) : SW w t W.drew := ⟨⟨h.1.1, h.1.2⟩, h.2.drew⟩
theorem SW.store {w W : World} {t t' : BitVec 256} (h : SW w t W) (i : Nat) (v : Value) (hv : (setA t).setIfInBounds i v = setA t') : SW w t' (W.setCell ⟨w.heap.size, i, none⟩ v) :=
  ⟨⟨by rw [← hv]; exact h.1.1.set i v, h.1.2.other (by omega) _ _⟩, below_set h.2 (by omega) _ _⟩

set_option maxRecDepth 100000 in
set_option maxHeartbeats 4000000 in
/-- With, by the document. -/
theorem rwith_calls (s : BitVec 256) (a : Option Addr) (len cap : Nat) (l : List (Fin 256)) (hreach : l.length ≤ 9223372036854775807) (w : World) (hI : BytesAt w.heap.size w (.slice a len cap) l) :
    Calls Tryz.prog 49 #[setV s, .slice a len cap] w fun e w' => e = .returned (setV (withL s l)) ∧ Below w.heap.size w w' := by
  have h0 : SW w (withL s (l.take 0)) ((w.alloc (.cells (setA s) 25)).alloc (.cells (setA 0) 25)) := by
    refine ⟨⟨(Blk.new w _ _).alloc _, ?_⟩, by go_grown⟩
    have := Blk.new (w.alloc (.cells (setA s) 25)) (setA 0) 25
    rwa [World.size_alloc] at this
  obtain ⟨rfl, hI2⟩ : len = l.length ∧ (l ≠ [] → ∃ b off, a = some ⟨b, off, none⟩ ∧ b < w.heap.size ∧ ∀ j (h : j < l.length), w.cell? ⟨b, off + j, none⟩ = some (.int .u8 (l[j].val : Nat))) := by
    obtain ⟨a', c, h, h2⟩ := hI
    simp only [Value.slice.injEq] at h
    obtain ⟨rfl, rfl, rfl⟩ := h
    exact ⟨rfl, h2⟩
  have HI := Lib.hid hI2
  clear hI hI2
  go_enter Tryz.func49, Tryz.ntmps49
  go_wp2_with fail
  have e0 : (w.alloc (.cells #[.int .u64 (wd s 0), .int .u64 (wd s 1), .int .u64 (wd s 2), .int .u64 (wd s 3)] 25)).alloc (.cells #[.int .u64 0, .int .u64 0, .int .u64 0, .int .u64 0] 25) = (w.alloc (.cells (setA s) 25)).alloc (.cells (setA 0) 25) := rfl
  rw [e0]
  clear e0
  generalize (w.alloc (.cells (setA s) 25)).alloc (.cells (setA 0) 25) = w1 at *
  go_loopw [5] (fun i wr => ∃ k : Nat, k ≤ l.length ∧ i = .int .i64 k ∧ SW w (withL s (l.take k)) wr) (fun i _ => l.length - (intOf i).toNat)
  case atStart => exact ⟨0, Nat.zero_le _, rfl, h0⟩
  case round =>
    clear h0
    obtain ⟨k, hk, rfl, hU⟩ := hrel
    by_cases hkl : k < l.length
    · obtain ⟨b, off, rfl, hblt, hcs⟩ := HI.out (fun e => by rw [e] at hkl; simp at hkl)
      have hc := (hU.2.cell (p := ⟨b, off + k, none⟩) hblt).trans (hcs k hkl)
      have hx := l[k].isLt
      have HT : Hid (withL s (l.take (k + 1)) = withL s (l.take k) ||| one l[k].val) := by
        show withL s (l.take (k + 1)) = _
        rw [List.take_succ_eq_append_getElem hkl, withL_snoc]
      clear hcs
      generalize l[k].val = x at *
      generalize withL s (l.take k) = t at *
      have hx2 : 0 ≤ (x : Int) % 64 := by omega
      have hx3 : (x : Int) % 64 < 64 := by omega
      have h4 : (x : Int) / 64 = 0 ∨ (x : Int) / 64 = 1 ∨ (x : Int) / 64 = 2 ∨ (x : Int) / 64 = 3 := by omega
      rcases h4 with hx4 | hx4 | hx4 | hx4
      · go_wp2_with fail
        refine region_stepsM (S := SW w t) (m := 11) rfl (by kernel_rfl) (drew_w hU) ?_
        simp only [List.size_toArray, List.length_cons, List.length_nil, Nat.reduceAdd, Array.replicate_succ, Array.replicate_zero, List.push_toArray, List.nil_append, List.cons_append]
        refine AnyM.next (m := 11) (i := 0) (d := some 18) (v := .int .i64 ((x : Nat) : Int)) rfl rfl (by kernel_rfl) (by kernel_rfl) (by kernel_rfl) (by kernel_rfl) (StepsIf.yield (by kernel_rfl) (fun w' hS => by clear hS; go_simp)) ?_
        intro a' ha'
        simp only [Act.put, List.setIfInBounds_toArray, List.set_cons_zero, List.set_cons_succ] at ha'
        subst ha'
        refine AnyM.next (m := 11) (i := 1) (d := some 19) (v := .int .i64 0) rfl rfl (by kernel_rfl) (by kernel_rfl) (by kernel_rfl) (by kernel_rfl) (StepsIf.yield (by kernel_rfl) (fun w' hS => by clear hS; go_simp; exact IntWalk.i64_in _ (by omega))) ?_
        intro a' ha'
        simp only [Act.put, List.setIfInBounds_toArray, List.set_cons_zero, List.set_cons_succ] at ha'
        subst ha'
        refine AnyM.next (m := 11) (i := 2) (d := some 20) (v := .int .i64 ((x : Nat) : Int)) rfl rfl (by kernel_rfl) (by kernel_rfl) (by kernel_rfl) (by kernel_rfl) (StepsIf.yield (by kernel_rfl) (fun w' hS => by clear hS; go_simp)) ?_
        intro a' ha'
        simp only [Act.put, List.setIfInBounds_toArray, List.set_cons_zero, List.set_cons_succ] at ha'
        subst ha'
        refine AnyM.next (m := 11) (i := 3) (d := some 21) (v := .int .i64 0) rfl rfl (by kernel_rfl) (by kernel_rfl) (by kernel_rfl) (by kernel_rfl) (StepsIf.yield (by kernel_rfl) (fun w' hS => by clear hS; go_simp; exact IntWalk.i64_in _ (by omega))) ?_
        intro a' ha'
        simp only [Act.put, List.setIfInBounds_toArray, List.set_cons_zero, List.set_cons_succ] at ha'
        subst ha'
        refine AnyM.next (m := 11) (i := 4) (d := some 22) (v := .pointer (some ⟨w.heap.size, 0, none⟩)) rfl rfl (by kernel_rfl) (by kernel_rfl) (by kernel_rfl) (by kernel_rfl) (StepsIf.yield (by kernel_rfl) (fun w' hS => by clear hS; go_simp)) ?_
        intro a' ha'
        simp only [Act.put, List.setIfInBounds_toArray, List.set_cons_zero, List.set_cons_succ] at ha'
        subst ha'
        refine AnyM.next (m := 11) (i := 5) (d := some 23) (v := .int .u64 (wd t 0)) rfl rfl (by kernel_rfl) (by kernel_rfl) (by kernel_rfl) (by kernel_rfl) (StepsIf.yield (by kernel_rfl) (fun w' hS => by obtain ⟨⟨c0, c1, c2, c3⟩, _⟩ := hS.1.1.cells4; clear hS; go_simp)) ?_
        intro a' ha'
        simp only [Act.put, List.setIfInBounds_toArray, List.set_cons_zero, List.set_cons_succ] at ha'
        subst ha'
        refine AnyM.next (m := 11) (i := 6) (d := some 24) (v := .int .i64 ((x : Nat) : Int)) rfl rfl (by kernel_rfl) (by kernel_rfl) (by kernel_rfl) (by kernel_rfl) (StepsIf.yield (by kernel_rfl) (fun w' hS => by clear hS; go_simp)) ?_
        intro a' ha'
        simp only [Act.put, List.setIfInBounds_toArray, List.set_cons_zero, List.set_cons_succ] at ha'
        subst ha'
        refine AnyM.next (m := 11) (i := 7) (d := some 25) (v := .int .i64 (((x : Nat) : Int) % 64)) rfl rfl (by kernel_rfl) (by kernel_rfl) (by kernel_rfl) (by kernel_rfl) (StepsIf.yield (by kernel_rfl) (fun w' hS => by clear hS; go_simp; exact Int.tmod_eq_emod_of_nonneg (by omega))) ?_
        intro a' ha'
        simp only [Act.put, List.setIfInBounds_toArray, List.set_cons_zero, List.set_cons_succ] at ha'
        subst ha'
        refine AnyM.next (m := 11) (i := 8) (d := some 26) (v := .int .u64 (IntKind.u64.wrap (2 ^ (x % 64)))) rfl rfl (by kernel_rfl) (by kernel_rfl) (by kernel_rfl) (by kernel_rfl) (StepsIf.yield (by kernel_rfl) (fun w' hS => by clear hS; go_simp; rw [show (((x : Nat) : Int) % 64).toNat = x % 64 by omega])) ?_
        intro a' ha'
        simp only [Act.put, List.setIfInBounds_toArray, List.set_cons_zero, List.set_cons_succ] at ha'
        subst ha'
        refine AnyM.next (m := 11) (i := 9) (d := some 27) (v := .int .u64 (bits .or .u64 (wd t 0) (IntKind.u64.wrap (2 ^ (x % 64))))) rfl rfl (by kernel_rfl) (by kernel_rfl) (by kernel_rfl) (by kernel_rfl) (StepsIf.yield (by kernel_rfl) (fun w' hS => by clear hS; go_simp)) ?_
        intro a' ha'
        simp only [Act.put, List.setIfInBounds_toArray, List.set_cons_zero, List.set_cons_succ] at ha'
        subst ha'
        refine AnyM.next (m := 11) (i := 10) (d := some 28) (v := .pointer (some ⟨w.heap.size, 0, none⟩)) rfl rfl (by kernel_rfl) (by kernel_rfl) (by kernel_rfl) (by kernel_rfl) (StepsIf.yield (by kernel_rfl) (fun w' hS => by clear hS; go_simp)) ?_
        intro a' ha'
        simp only [Act.put, List.setIfInBounds_toArray, List.set_cons_zero, List.set_cons_succ] at ha'
        subst ha'
        clear hU
        refine AnyM.last rfl (by kernel_rfl) (by kernel_rfl) (by kernel_rfl) (fun w3 hU K hK => ?_)
        obtain ⟨⟨c0, c1, c2, c3⟩, f0, f1, f2, f3⟩ := hU.1.1.cells4
        have HU := Lib.hid hU
        clear hU
        go_simp
        refine hK _ _ ?_
        clear hK K
        go_wp2
        go_roundw
        case rel =>
          refine ⟨k + 1, by omega, by simp, ?_⟩
          rw [HT.out]
          exact HU.out.store 0 _ (setA_or t x (by omega))
        case measure => simp [intOf]; omega
      · go_wp2_with fail
        refine region_stepsM (S := SW w t) (m := 11) rfl (by kernel_rfl) (drew_w hU) ?_
        simp only [List.size_toArray, List.length_cons, List.length_nil, Nat.reduceAdd, Array.replicate_succ, Array.replicate_zero, List.push_toArray, List.nil_append, List.cons_append]
        refine AnyM.next (m := 11) (i := 0) (d := some 18) (v := .int .i64 ((x : Nat) : Int)) rfl rfl (by kernel_rfl) (by kernel_rfl) (by kernel_rfl) (by kernel_rfl) (StepsIf.yield (by kernel_rfl) (fun w' hS => by clear hS; go_simp)) ?_
        intro a' ha'
        simp only [Act.put, List.setIfInBounds_toArray, List.set_cons_zero, List.set_cons_succ] at ha'
        subst ha'
        refine AnyM.next (m := 11) (i := 1) (d := some 19) (v := .int .i64 1) rfl rfl (by kernel_rfl) (by kernel_rfl) (by kernel_rfl) (by kernel_rfl) (StepsIf.yield (by kernel_rfl) (fun w' hS => by clear hS; go_simp; exact IntWalk.i64_in _ (by omega))) ?_
        intro a' ha'
        simp only [Act.put, List.setIfInBounds_toArray, List.set_cons_zero, List.set_cons_succ] at ha'
        subst ha'
        refine AnyM.next (m := 11) (i := 2) (d := some 20) (v := .int .i64 ((x : Nat) : Int)) rfl rfl (by kernel_rfl) (by kernel_rfl) (by kernel_rfl) (by kernel_rfl) (StepsIf.yield (by kernel_rfl) (fun w' hS => by clear hS; go_simp)) ?_
        intro a' ha'
        simp only [Act.put, List.setIfInBounds_toArray, List.set_cons_zero, List.set_cons_succ] at ha'
        subst ha'
        refine AnyM.next (m := 11) (i := 3) (d := some 21) (v := .int .i64 1) rfl rfl (by kernel_rfl) (by kernel_rfl) (by kernel_rfl) (by kernel_rfl) (StepsIf.yield (by kernel_rfl) (fun w' hS => by clear hS; go_simp; exact IntWalk.i64_in _ (by omega))) ?_
        intro a' ha'
        simp only [Act.put, List.setIfInBounds_toArray, List.set_cons_zero, List.set_cons_succ] at ha'
        subst ha'
        refine AnyM.next (m := 11) (i := 4) (d := some 22) (v := .pointer (some ⟨w.heap.size, 1, none⟩)) rfl rfl (by kernel_rfl) (by kernel_rfl) (by kernel_rfl) (by kernel_rfl) (StepsIf.yield (by kernel_rfl) (fun w' hS => by clear hS; go_simp)) ?_
        intro a' ha'
        simp only [Act.put, List.setIfInBounds_toArray, List.set_cons_zero, List.set_cons_succ] at ha'
        subst ha'
        refine AnyM.next (m := 11) (i := 5) (d := some 23) (v := .int .u64 (wd t 1)) rfl rfl (by kernel_rfl) (by kernel_rfl) (by kernel_rfl) (by kernel_rfl) (StepsIf.yield (by kernel_rfl) (fun w' hS => by obtain ⟨⟨c0, c1, c2, c3⟩, _⟩ := hS.1.1.cells4; clear hS; go_simp)) ?_
        intro a' ha'
        simp only [Act.put, List.setIfInBounds_toArray, List.set_cons_zero, List.set_cons_succ] at ha'
        subst ha'
        refine AnyM.next (m := 11) (i := 6) (d := some 24) (v := .int .i64 ((x : Nat) : Int)) rfl rfl (by kernel_rfl) (by kernel_rfl) (by kernel_rfl) (by kernel_rfl) (StepsIf.yield (by kernel_rfl) (fun w' hS => by clear hS; go_simp)) ?_
        intro a' ha'
        simp only [Act.put, List.setIfInBounds_toArray, List.set_cons_zero, List.set_cons_succ] at ha'
        subst ha'
        refine AnyM.next (m := 11) (i := 7) (d := some 25) (v := .int .i64 (((x : Nat) : Int) % 64)) rfl rfl (by kernel_rfl) (by kernel_rfl) (by kernel_rfl) (by kernel_rfl) (StepsIf.yield (by kernel_rfl) (fun w' hS => by clear hS; go_simp; exact Int.tmod_eq_emod_of_nonneg (by omega))) ?_
        intro a' ha'
        simp only [Act.put, List.setIfInBounds_toArray, List.set_cons_zero, List.set_cons_succ] at ha'
        subst ha'
        refine AnyM.next (m := 11) (i := 8) (d := some 26) (v := .int .u64 (IntKind.u64.wrap (2 ^ (x % 64)))) rfl rfl (by kernel_rfl) (by kernel_rfl) (by kernel_rfl) (by kernel_rfl) (StepsIf.yield (by kernel_rfl) (fun w' hS => by clear hS; go_simp; rw [show (((x : Nat) : Int) % 64).toNat = x % 64 by omega])) ?_
        intro a' ha'
        simp only [Act.put, List.setIfInBounds_toArray, List.set_cons_zero, List.set_cons_succ] at ha'
        subst ha'
        refine AnyM.next (m := 11) (i := 9) (d := some 27) (v := .int .u64 (bits .or .u64 (wd t 1) (IntKind.u64.wrap (2 ^ (x % 64))))) rfl rfl (by kernel_rfl) (by kernel_rfl) (by kernel_rfl) (by kernel_rfl) (StepsIf.yield (by kernel_rfl) (fun w' hS => by clear hS; go_simp)) ?_
        intro a' ha'
        simp only [Act.put, List.setIfInBounds_toArray, List.set_cons_zero, List.set_cons_succ] at ha'
        subst ha'
        refine AnyM.next (m := 11) (i := 10) (d := some 28) (v := .pointer (some ⟨w.heap.size, 1, none⟩)) rfl rfl (by kernel_rfl) (by kernel_rfl) (by kernel_rfl) (by kernel_rfl) (StepsIf.yield (by kernel_rfl) (fun w' hS => by clear hS; go_simp)) ?_
        intro a' ha'
        simp only [Act.put, List.setIfInBounds_toArray, List.set_cons_zero, List.set_cons_succ] at ha'
        subst ha'
        clear hU
        refine AnyM.last rfl (by kernel_rfl) (by kernel_rfl) (by kernel_rfl) (fun w3 hU K hK => ?_)
        obtain ⟨⟨c0, c1, c2, c3⟩, f0, f1, f2, f3⟩ := hU.1.1.cells4
        have HU := Lib.hid hU
        clear hU
        go_simp
        refine hK _ _ ?_
        clear hK K
        go_wp2
        go_roundw
        case rel =>
          refine ⟨k + 1, by omega, by simp, ?_⟩
          rw [HT.out]
          exact HU.out.store 1 _ (setA_or1 t x (by omega))
        case measure => simp [intOf]; omega
      · go_wp2_with fail
        refine region_stepsM (S := SW w t) (m := 11) rfl (by kernel_rfl) (drew_w hU) ?_
        simp only [List.size_toArray, List.length_cons, List.length_nil, Nat.reduceAdd, Array.replicate_succ, Array.replicate_zero, List.push_toArray, List.nil_append, List.cons_append]
        refine AnyM.next (m := 11) (i := 0) (d := some 18) (v := .int .i64 ((x : Nat) : Int)) rfl rfl (by kernel_rfl) (by kernel_rfl) (by kernel_rfl) (by kernel_rfl) (StepsIf.yield (by kernel_rfl) (fun w' hS => by clear hS; go_simp)) ?_
        intro a' ha'
        simp only [Act.put, List.setIfInBounds_toArray, List.set_cons_zero, List.set_cons_succ] at ha'
        subst ha'
        refine AnyM.next (m := 11) (i := 1) (d := some 19) (v := .int .i64 2) rfl rfl (by kernel_rfl) (by kernel_rfl) (by kernel_rfl) (by kernel_rfl) (StepsIf.yield (by kernel_rfl) (fun w' hS => by clear hS; go_simp; exact IntWalk.i64_in _ (by omega))) ?_
        intro a' ha'
        simp only [Act.put, List.setIfInBounds_toArray, List.set_cons_zero, List.set_cons_succ] at ha'
        subst ha'
        refine AnyM.next (m := 11) (i := 2) (d := some 20) (v := .int .i64 ((x : Nat) : Int)) rfl rfl (by kernel_rfl) (by kernel_rfl) (by kernel_rfl) (by kernel_rfl) (StepsIf.yield (by kernel_rfl) (fun w' hS => by clear hS; go_simp)) ?_
        intro a' ha'
        simp only [Act.put, List.setIfInBounds_toArray, List.set_cons_zero, List.set_cons_succ] at ha'
        subst ha'
        refine AnyM.next (m := 11) (i := 3) (d := some 21) (v := .int .i64 2) rfl rfl (by kernel_rfl) (by kernel_rfl) (by kernel_rfl) (by kernel_rfl) (StepsIf.yield (by kernel_rfl) (fun w' hS => by clear hS; go_simp; exact IntWalk.i64_in _ (by omega))) ?_
        intro a' ha'
        simp only [Act.put, List.setIfInBounds_toArray, List.set_cons_zero, List.set_cons_succ] at ha'
        subst ha'
        refine AnyM.next (m := 11) (i := 4) (d := some 22) (v := .pointer (some ⟨w.heap.size, 2, none⟩)) rfl rfl (by kernel_rfl) (by kernel_rfl) (by kernel_rfl) (by kernel_rfl) (StepsIf.yield (by kernel_rfl) (fun w' hS => by clear hS; go_simp)) ?_
        intro a' ha'
        simp only [Act.put, List.setIfInBounds_toArray, List.set_cons_zero, List.set_cons_succ] at ha'
        subst ha'
        refine AnyM.next (m := 11) (i := 5) (d := some 23) (v := .int .u64 (wd t 2)) rfl rfl (by kernel_rfl) (by kernel_rfl) (by kernel_rfl) (by kernel_rfl) (StepsIf.yield (by kernel_rfl) (fun w' hS => by obtain ⟨⟨c0, c1, c2, c3⟩, _⟩ := hS.1.1.cells4; clear hS; go_simp)) ?_
        intro a' ha'
        simp only [Act.put, List.setIfInBounds_toArray, List.set_cons_zero, List.set_cons_succ] at ha'
        subst ha'
        refine AnyM.next (m := 11) (i := 6) (d := some 24) (v := .int .i64 ((x : Nat) : Int)) rfl rfl (by kernel_rfl) (by kernel_rfl) (by kernel_rfl) (by kernel_rfl) (StepsIf.yield (by kernel_rfl) (fun w' hS => by clear hS; go_simp)) ?_
        intro a' ha'
        simp only [Act.put, List.setIfInBounds_toArray, List.set_cons_zero, List.set_cons_succ] at ha'
        subst ha'
        refine AnyM.next (m := 11) (i := 7) (d := some 25) (v := .int .i64 (((x : Nat) : Int) % 64)) rfl rfl (by kernel_rfl) (by kernel_rfl) (by kernel_rfl) (by kernel_rfl) (StepsIf.yield (by kernel_rfl) (fun w' hS => by clear hS; go_simp; exact Int.tmod_eq_emod_of_nonneg (by omega))) ?_
        intro a' ha'
        simp only [Act.put, List.setIfInBounds_toArray, List.set_cons_zero, List.set_cons_succ] at ha'
        subst ha'
        refine AnyM.next (m := 11) (i := 8) (d := some 26) (v := .int .u64 (IntKind.u64.wrap (2 ^ (x % 64)))) rfl rfl (by kernel_rfl) (by kernel_rfl) (by kernel_rfl) (by kernel_rfl) (StepsIf.yield (by kernel_rfl) (fun w' hS => by clear hS; go_simp; rw [show (((x : Nat) : Int) % 64).toNat = x % 64 by omega])) ?_
        intro a' ha'
        simp only [Act.put, List.setIfInBounds_toArray, List.set_cons_zero, List.set_cons_succ] at ha'
        subst ha'
        refine AnyM.next (m := 11) (i := 9) (d := some 27) (v := .int .u64 (bits .or .u64 (wd t 2) (IntKind.u64.wrap (2 ^ (x % 64))))) rfl rfl (by kernel_rfl) (by kernel_rfl) (by kernel_rfl) (by kernel_rfl) (StepsIf.yield (by kernel_rfl) (fun w' hS => by clear hS; go_simp)) ?_
        intro a' ha'
        simp only [Act.put, List.setIfInBounds_toArray, List.set_cons_zero, List.set_cons_succ] at ha'
        subst ha'
        refine AnyM.next (m := 11) (i := 10) (d := some 28) (v := .pointer (some ⟨w.heap.size, 2, none⟩)) rfl rfl (by kernel_rfl) (by kernel_rfl) (by kernel_rfl) (by kernel_rfl) (StepsIf.yield (by kernel_rfl) (fun w' hS => by clear hS; go_simp)) ?_
        intro a' ha'
        simp only [Act.put, List.setIfInBounds_toArray, List.set_cons_zero, List.set_cons_succ] at ha'
        subst ha'
        clear hU
        refine AnyM.last rfl (by kernel_rfl) (by kernel_rfl) (by kernel_rfl) (fun w3 hU K hK => ?_)
        obtain ⟨⟨c0, c1, c2, c3⟩, f0, f1, f2, f3⟩ := hU.1.1.cells4
        have HU := Lib.hid hU
        clear hU
        go_simp
        refine hK _ _ ?_
        clear hK K
        go_wp2
        go_roundw
        case rel =>
          refine ⟨k + 1, by omega, by simp, ?_⟩
          rw [HT.out]
          exact HU.out.store 2 _ (setA_or2 t x (by omega))
        case measure => simp [intOf]; omega
      · go_wp2_with fail
        refine region_stepsM (S := SW w t) (m := 11) rfl (by kernel_rfl) (drew_w hU) ?_
        simp only [List.size_toArray, List.length_cons, List.length_nil, Nat.reduceAdd, Array.replicate_succ, Array.replicate_zero, List.push_toArray, List.nil_append, List.cons_append]
        refine AnyM.next (m := 11) (i := 0) (d := some 18) (v := .int .i64 ((x : Nat) : Int)) rfl rfl (by kernel_rfl) (by kernel_rfl) (by kernel_rfl) (by kernel_rfl) (StepsIf.yield (by kernel_rfl) (fun w' hS => by clear hS; go_simp)) ?_
        intro a' ha'
        simp only [Act.put, List.setIfInBounds_toArray, List.set_cons_zero, List.set_cons_succ] at ha'
        subst ha'
        refine AnyM.next (m := 11) (i := 1) (d := some 19) (v := .int .i64 3) rfl rfl (by kernel_rfl) (by kernel_rfl) (by kernel_rfl) (by kernel_rfl) (StepsIf.yield (by kernel_rfl) (fun w' hS => by clear hS; go_simp; exact IntWalk.i64_in _ (by omega))) ?_
        intro a' ha'
        simp only [Act.put, List.setIfInBounds_toArray, List.set_cons_zero, List.set_cons_succ] at ha'
        subst ha'
        refine AnyM.next (m := 11) (i := 2) (d := some 20) (v := .int .i64 ((x : Nat) : Int)) rfl rfl (by kernel_rfl) (by kernel_rfl) (by kernel_rfl) (by kernel_rfl) (StepsIf.yield (by kernel_rfl) (fun w' hS => by clear hS; go_simp)) ?_
        intro a' ha'
        simp only [Act.put, List.setIfInBounds_toArray, List.set_cons_zero, List.set_cons_succ] at ha'
        subst ha'
        refine AnyM.next (m := 11) (i := 3) (d := some 21) (v := .int .i64 3) rfl rfl (by kernel_rfl) (by kernel_rfl) (by kernel_rfl) (by kernel_rfl) (StepsIf.yield (by kernel_rfl) (fun w' hS => by clear hS; go_simp; exact IntWalk.i64_in _ (by omega))) ?_
        intro a' ha'
        simp only [Act.put, List.setIfInBounds_toArray, List.set_cons_zero, List.set_cons_succ] at ha'
        subst ha'
        refine AnyM.next (m := 11) (i := 4) (d := some 22) (v := .pointer (some ⟨w.heap.size, 3, none⟩)) rfl rfl (by kernel_rfl) (by kernel_rfl) (by kernel_rfl) (by kernel_rfl) (StepsIf.yield (by kernel_rfl) (fun w' hS => by clear hS; go_simp)) ?_
        intro a' ha'
        simp only [Act.put, List.setIfInBounds_toArray, List.set_cons_zero, List.set_cons_succ] at ha'
        subst ha'
        refine AnyM.next (m := 11) (i := 5) (d := some 23) (v := .int .u64 (wd t 3)) rfl rfl (by kernel_rfl) (by kernel_rfl) (by kernel_rfl) (by kernel_rfl) (StepsIf.yield (by kernel_rfl) (fun w' hS => by obtain ⟨⟨c0, c1, c2, c3⟩, _⟩ := hS.1.1.cells4; clear hS; go_simp)) ?_
        intro a' ha'
        simp only [Act.put, List.setIfInBounds_toArray, List.set_cons_zero, List.set_cons_succ] at ha'
        subst ha'
        refine AnyM.next (m := 11) (i := 6) (d := some 24) (v := .int .i64 ((x : Nat) : Int)) rfl rfl (by kernel_rfl) (by kernel_rfl) (by kernel_rfl) (by kernel_rfl) (StepsIf.yield (by kernel_rfl) (fun w' hS => by clear hS; go_simp)) ?_
        intro a' ha'
        simp only [Act.put, List.setIfInBounds_toArray, List.set_cons_zero, List.set_cons_succ] at ha'
        subst ha'
        refine AnyM.next (m := 11) (i := 7) (d := some 25) (v := .int .i64 (((x : Nat) : Int) % 64)) rfl rfl (by kernel_rfl) (by kernel_rfl) (by kernel_rfl) (by kernel_rfl) (StepsIf.yield (by kernel_rfl) (fun w' hS => by clear hS; go_simp; exact Int.tmod_eq_emod_of_nonneg (by omega))) ?_
        intro a' ha'
        simp only [Act.put, List.setIfInBounds_toArray, List.set_cons_zero, List.set_cons_succ] at ha'
        subst ha'
        refine AnyM.next (m := 11) (i := 8) (d := some 26) (v := .int .u64 (IntKind.u64.wrap (2 ^ (x % 64)))) rfl rfl (by kernel_rfl) (by kernel_rfl) (by kernel_rfl) (by kernel_rfl) (StepsIf.yield (by kernel_rfl) (fun w' hS => by clear hS; go_simp; rw [show (((x : Nat) : Int) % 64).toNat = x % 64 by omega])) ?_
        intro a' ha'
        simp only [Act.put, List.setIfInBounds_toArray, List.set_cons_zero, List.set_cons_succ] at ha'
        subst ha'
        refine AnyM.next (m := 11) (i := 9) (d := some 27) (v := .int .u64 (bits .or .u64 (wd t 3) (IntKind.u64.wrap (2 ^ (x % 64))))) rfl rfl (by kernel_rfl) (by kernel_rfl) (by kernel_rfl) (by kernel_rfl) (StepsIf.yield (by kernel_rfl) (fun w' hS => by clear hS; go_simp)) ?_
        intro a' ha'
        simp only [Act.put, List.setIfInBounds_toArray, List.set_cons_zero, List.set_cons_succ] at ha'
        subst ha'
        refine AnyM.next (m := 11) (i := 10) (d := some 28) (v := .pointer (some ⟨w.heap.size, 3, none⟩)) rfl rfl (by kernel_rfl) (by kernel_rfl) (by kernel_rfl) (by kernel_rfl) (StepsIf.yield (by kernel_rfl) (fun w' hS => by clear hS; go_simp)) ?_
        intro a' ha'
        simp only [Act.put, List.setIfInBounds_toArray, List.set_cons_zero, List.set_cons_succ] at ha'
        subst ha'
        clear hU
        refine AnyM.last rfl (by kernel_rfl) (by kernel_rfl) (by kernel_rfl) (fun w3 hU K hK => ?_)
        obtain ⟨⟨c0, c1, c2, c3⟩, f0, f1, f2, f3⟩ := hU.1.1.cells4
        have HU := Lib.hid hU
        clear hU
        go_simp
        refine hK _ _ ?_
        clear hK K
        go_wp2
        go_roundw
        case rel =>
          refine ⟨k + 1, by omega, by simp, ?_⟩
          rw [HT.out]
          exact HU.out.store 3 _ (setA_or3 t x (by omega))
        case measure => simp [intOf]; omega
    · obtain rfl : k = l.length := by omega
      rw [List.take_length] at hU
      obtain ⟨⟨c0, c1, c2, c3⟩, _⟩ := hU.1.1.cells4
      obtain ⟨⟨d0, d1, d2, d3⟩, g0, g1, g2, g3⟩ := hU.1.2.cells4
      have HU := Lib.hid hU
      clear hU
      generalize ht : withL s l = t at *
      have HT := Lib.hid ht
      clear ht
      go_wp2
      obtain ⟨hR, hB⟩ := fin4 HU.out.1.2 HU.out.2 (by omega) t
      clear d0 d1 d2 d3 g0 g1 g2 g3 c0 c1 c2 c3 HU hkl hk HI
      generalize (((wr.setCell ⟨w.heap.size + 1, 0, none⟩ (.int .u64 (wd t 0))).setCell ⟨w.heap.size + 1, 1, none⟩ (.int .u64 (wd t 1))).setCell ⟨w.heap.size + 1, 2, none⟩ (.int .u64 (wd t 2))).setCell ⟨w.heap.size + 1, 3, none⟩ (.int .u64 (wd t 3)) = W4 at *
      obtain ⟨⟨e0, e1, e2, e3⟩, _⟩ := hR.cells4
      exact bodyPost_ret (v := setV t) (by simp [results, Tryz.results49, go_sem, e0, e1, e2, e3]) rfl ⟨by rw [HT.out], hB⟩
end Go.Proofs.YtpaecjjelpjopaaGreatDoor

/- All: the iterator over a set's bytes. -/
import Derived.RangeFuncNested
import Derived.RangeFuncBound
import Derived.RangeFuncCalls
import Derived.RangeFuncLeaves
import Derived.Shelf.Abstract
import Derived.Shelf.RegionOpen
import Derived.WalkKit
import Derived.OwnWalkIn
import Derived.TacticsInMore
import Derived.LoopNIn
import Derived.LoopIn
import Derived.Test.YtkkhibamkdgffaaDoorSs
namespace Go.Proofs.YtkkhibamkdgffaaDoor
open Go.RowKit Go.Shelf BS
attribute [local go_sem] Oper.semAt_some

/-- The numbers below k of which f says yes, ascending. -/
def el (f : Nat → Bool) (k : Nat) : List Nat := (List.range k).filter f
theorem el_zero (f : Nat → Bool) : el f 0 = [] := rfl
theorem el_succ (f : Nat → Bool) (k : Nat) : el f (k + 1) = el f k ++ if f k then [k] else [] := by
  unfold el; rw [List.range_succ, List.filter_append]; cases h : f k <;> simp [h]
theorem el_skip (f : Nat → Bool) {k j : Nat} (h : k ≤ j) (hf : ∀ i, k ≤ i → i < j → f i = false) : el f j = el f k := by
  induction j with
  | zero => rw [show k = 0 by omega]
  | succ j ih =>
    by_cases hk : k = j + 1
    · rw [hk]
    · rw [el_succ, hf j (by omega) (by omega), ih (by omega) (fun i h1 h2 => hf i h1 (by omega))]; simp
theorem el_len (f : Nat → Bool) (k : Nat) : (el f k).length ≤ k := by
  have := List.length_filter_le f (List.range k); simpa [el] using this

theorem nextOf_cases (f : Nat → Bool) (k : Nat) : (nextOf f k = -1 ∧ ∀ j, k ≤ j → j < 256 → f j = false) ∨ (∃ j : Nat, nextOf f k = j ∧ k ≤ j ∧ j < 256 ∧ f j = true ∧ ∀ i, k ≤ i → i < j → f i = false) := by
  by_cases h : ∃ j, k ≤ j ∧ j < 256 ∧ f j = true ∧ ∀ i, k ≤ i → i < j → f i = false
  · obtain ⟨j, h1, h2, h3, h4⟩ := h
    exact .inr ⟨j, nextOf_eq h2 h1 h3 h4, h1, h2, h3, h4⟩
  · have key : ∀ j, k ≤ j → j < 256 → f j = false := by
      intro j
      induction j using Nat.strongRecOn with
      | ind j ih =>
        intro h1 h2
        cases hf : f j with
        | false => rfl
        | true => exact absurd ⟨j, h1, h2, hf, fun i hi hij => ih i hij hi (by omega)⟩ h
    exact .inl ⟨nextOf_none key, key⟩

/-- The box Bs holds the set s. -/
def SetAt (Bs : Nat) (s : BitVec 256) (W : World) : Prop := W.cell? ⟨Bs, 0, none⟩ = some (.int .u64 (wd s 0)) ∧ W.cell? ⟨Bs, 1, none⟩ = some (.int .u64 (wd s 1)) ∧ W.cell? ⟨Bs, 2, none⟩ = some (.int .u64 (wd s 2)) ∧ W.cell? ⟨Bs, 3, none⟩ = some (.int .u64 (wd s 3))
theorem SetAt.keep {Bs B : Nat} {s : BitVec 256} {w w' : World} (h : SetAt Bs s w) (hb : Below B w w') (hB : Bs < B) : SetAt Bs s w' :=
  ⟨(hb.cell (p := ⟨Bs, 0, none⟩) hB).trans h.1, (hb.cell (p := ⟨Bs, 1, none⟩) hB).trans h.2.1, (hb.cell (p := ⟨Bs, 2, none⟩) hB).trans h.2.2.1, (hb.cell (p := ⟨Bs, 3, none⟩) hB).trans h.2.2.2⟩

/-- What a round must keep: the box Bs, and the library's table. -/
def KeepA (Bs : Nat) (W W' : World) : Prop := W.heap.size ≤ W'.heap.size ∧ W'.heap[Bs]? = W.heap[Bs]? ∧ W'.heap[0]? = W.heap[0]?
theorem KeepA.of_below {Bs n : Nat} {W W' : World} (h : Below n W W') (hB : Bs < n) (hg : 0 < n) : KeepA Bs W W' := ⟨h.size, h.block _ hB, h.block _ hg⟩
theorem KeepA.t {Bs : Nat} {A B C : World} (h : KeepA Bs A B) (k : KeepA Bs B C) : KeepA Bs A C := ⟨Nat.le_trans h.1 k.1, k.2.1.trans h.2.1, k.2.2.trans h.2.2⟩
theorem KeepA.b {Bs : Nat} {w : World} (hB : Bs < w.heap.size) (_hg : 0 < w.heap.size) (W : World) (l : Nat) (o o' : Obj) (hl : w.heap.size ≤ l) (_ : W.heap[l]? = some o) (_ : o.isCells = false) (_ : o.isWalk = false) : KeepA Bs W (W.putObj l o') :=
  ⟨by simp, World.putObj_heap_other (by omega), World.putObj_heap_other (by omega)⟩
theorem KeepA.set {Bs : Nat} {s : BitVec 256} {W W' : World} (h : SetAt Bs s W) (hk : KeepA Bs W W') : SetAt Bs s W' := by
  unfold SetAt at *
  simp only [World.cell?_of_block (w := W) (a := ⟨Bs, 0, none⟩) hk.2.1, World.cell?_of_block (w := W) (a := ⟨Bs, 1, none⟩) hk.2.1, World.cell?_of_block (w := W) (a := ⟨Bs, 2, none⟩) hk.2.1, World.cell?_of_block (w := W) (a := ⟨Bs, 3, none⟩) hk.2.1]
  exact h
theorem KeepA.tab {Bs : Nat} {W W' : World} (h : Tab W) (hk : KeepA Bs W W') : Tab W' := fun j hj =>
  (World.cell?_of_block (w := W) (a := ⟨0, j, none⟩) hk.2.2).trans (h j hj)

set_option maxRecDepth 100000 in
set_option maxHeartbeats 1000000 in
/-- All's closure: for every loop body that keeps the box and the table. -/
theorem all1_in (n : Nat) (hn : 1 ≤ n) (l Bs : Nat) (s : BitVec 256) (J Jx : List Nat → World → Prop)
    (hJ0 : ∀ pre W W', J pre W → Below W.heap.size W W' → J pre W')
    (hY : ∀ pre x W, J pre W → pre.length < 256 → YieldAt Fence.wide (n - 1) Tryd.prog l #[.int .u8 (x : Nat)] W fun e W' =>
      (e = .returned (.bool true) ∧ J (pre ++ [x]) W' ∧ KeepA Bs W W') ∨ (e = .returned (.bool false) ∧ Jx (pre ++ [x]) W'))
    (W : World) (hBs : Bs < W.heap.size) (hg : 0 < W.heap.size) (hs : SetAt Bs s W) (hT : Tab W) (h0 : J [] W) :
    CallsIn Fence.wide n Tryd.prog 28 #[.func (.yield l) #[] #[], .pointer (some ⟨Bs, 0, none⟩)] W fun e W' => (∃ v, e = .returned v) ∧
      ((∃ ys, ys = el s.getLsbD 256 ∧ J ys W') ∨ (∃ pre, (∃ k, k ≤ 256 ∧ pre = el s.getLsbD k) ∧ Jx pre W')) := by
  have HT := Lib.hid hT
  clear hT
  obtain ⟨c0, c1, c2, c3⟩ := hs
  refine callsIn_of_wp Tryd.func28 rfl trivial ?_ rfl
  simp only [Tryd.ntmps28, List.size_toArray, List.length_cons, List.length_nil, Nat.reduceAdd, Nat.reduceSub, Array.replicate_succ, Array.replicate_zero, List.push_toArray, List.append_toArray, List.nil_append, List.cons_append]
  gi_wp2_with (refine ⟨trivial, ?_⟩; gi_at_call 29; refine (callsIn_wide.2 (next_calls s _ _ (by omega) HT.out (by omega))).mono ?_; rintro e w1 ⟨rfl, hb1⟩)
  have hw1 := hb1.size
  have hk1 := KeepA.of_below hb1 hBs hg
  have HT1 := Lib.hid (KeepA.tab HT.out hk1)
  have HS1 := Lib.hid (KeepA.set (s := s) ⟨c0, c1, c2, c3⟩ hk1)
  have HJ1 := Lib.hid (hJ0 _ _ _ h0 hb1)
  have HW1 := Lib.hid (Nat.lt_of_lt_of_le hBs hw1)
  have HW2 := Lib.hid (Nat.lt_of_lt_of_le hg hw1)
  clear hk1 hb1 hw1 c0 c1 c2 c3 HT hBs hg h0
  gi_loopw [3] (fun b wr => ∃ k : Nat, k ≤ 256 ∧ b = .int .i64 (nextOf s.getLsbD k) ∧ J (el s.getLsbD k) wr ∧ Tab wr ∧ SetAt Bs s wr ∧ Bs < wr.heap.size ∧ 0 < wr.heap.size)
    (fun b _ => if intOf b < 0 then 0 else (257 - intOf b).toNat)
  case atStart => exact ⟨0, Nat.zero_le _, rfl, HJ1.out, HT1.out, HS1.out, HW1.out, HW2.out⟩
  case round =>
    obtain ⟨k, hk, rfl, hJs, hTr, hSr, hWr, hWg⟩ := hrel
    have HT := Lib.hid hTr
    obtain ⟨c0, c1, c2, c3⟩ := hSr
    clear hTr HT1 HS1 HJ1 HW1 HW2
    rcases nextOf_cases s.getLsbD k with ⟨e1, hf⟩ | ⟨j, e1, hkj, hj, hfj, hlt⟩
    · rw [e1]
      have HF := Lib.hid hf
      clear hf e1
      gi_wp2
      go_end0
      exact ⟨⟨_, rfl⟩, .inl ⟨_, (el_skip _ hk (fun i h1 h2 => HF.out i h1 h2)).symm, hJs⟩⟩
    · rw [e1]
      have e2 : el s.getLsbD (j + 1) = el s.getLsbD k ++ [j] := by rw [el_succ, hfj, el_skip _ hkj hlt]; rfl
      have hl : (el s.getLsbD k).length < 256 := by have := el_len s.getLsbD k; omega
      obtain ⟨fn, tmps, assign, body, hy, hR⟩ := hY _ j wr hJs hl
      have HE := Lib.hid e2
      clear e1 e2 hlt hfj
      gi_wp2_with fail
      refine hR.mono ?_
      rintro e W3 (⟨rfl, hJ3, hk3⟩ | ⟨rfl, hJx3⟩)
      · -- the round goes on
        have hs3 := hk3.1
        have HT3 := Lib.hid (KeepA.tab HT.out hk3)
        obtain ⟨d0, d1, d2, d3⟩ : SetAt Bs s W3 := KeepA.set (s := s) ⟨c0, c1, c2, c3⟩ hk3
        have HK3 := Lib.hid hk3
        clear c0 c1 c2 c3 HT hk3
        gi_wp2_with (refine ⟨trivial, ?_⟩; gi_at_call 29; refine (callsIn_wide.2 (next_calls s _ _ (by omega) HT3.out (by omega))).mono ?_; rintro e w4 ⟨rfl, hb4⟩)
        have hs4 := hb4.size
        go_roundw
        case rel =>
          have hk4 := KeepA.of_below (Bs := Bs) hb4 (by omega) (by omega)
          refine ⟨j + 1, by omega, rfl, ?_, KeepA.tab HT3.out hk4, KeepA.set (s := s) ⟨d0, d1, d2, d3⟩ hk4, by omega, by omega⟩
          rw [HE.out]; exact hJ0 _ _ _ hJ3 hb4
        case measure =>
          rcases nextOf_cases s.getLsbD (j + 1) with ⟨e1, _⟩ | ⟨j', e1, h1, h2, _⟩
          · rw [e1]
            show (if (-1 : Int) < 0 then 0 else _) < (if (j : Int) < 0 then 0 else (257 - (j : Int)).toNat)
            rw [if_pos (by decide), if_neg (show ¬ (j : Int) < 0 by omega)]; omega
          · rw [e1]
            show (if (j' : Int) < 0 then 0 else (257 - (j' : Int)).toNat) < (if (j : Int) < 0 then 0 else (257 - (j : Int)).toNat)
            rw [if_neg (show ¬ (j' : Int) < 0 by omega), if_neg (show ¬ (j : Int) < 0 by omega)]; omega
      · gi_wp2
        refine bodyPost_ret (results_none rfl _ _ _) rfl ?_
        exact ⟨⟨_, rfl⟩, .inr ⟨_, ⟨j + 1, by omega, HE.out.symm⟩, hJx3⟩⟩

set_option maxHeartbeats 1000000 in
/-- All: the set is boxed, the function value has captured the box. -/
theorem all_in (n : Nat) (s : BitVec 256) (w : World) :
    CallsIn Fence.wide n Tryd.prog 22 #[setV s] w fun e w' => e = .returned (.func (.func 28) #[] #[.pointer (some ⟨w.heap.size, 0, none⟩)]) ∧ w' = w.alloc (.cells #[.int .u64 (wd s 0), .int .u64 (wd s 1), .int .u64 (wd s 2), .int .u64 (wd s 3)] 24) := by
  refine callsIn_of_wp Tryd.func22 rfl trivial ?_ rfl
  simp only [Tryd.ntmps22, List.size_toArray, List.length_cons, List.length_nil, Nat.reduceAdd, Nat.reduceSub, Array.replicate_succ, Array.replicate_zero, List.push_toArray, List.append_toArray, List.nil_append, List.cons_append]
  gi_wp2
  go_ret
  exact ⟨rfl, rfl⟩

/-- All hands back an iterator over the set's bytes, ascending. -/
theorem all_stops (n : Nat) (hn : 1 ≤ n) (Bs : Nat) (s : BitVec 256) (w : World) (hBs : Bs < w.heap.size) (hg : 0 < w.heap.size) (hs : SetAt Bs s w) (hT : Tab w) :
    SeqStopsK Fence.wide n Tryd.prog 28 #[.pointer (some ⟨Bs, 0, none⟩)] (fun x : Nat => #[Value.int .u8 (x : Int)]) (KeepA Bs) (fun ys => ys = el s.getLsbD 256)
      (fun pre => ∃ k, k ≤ 256 ∧ pre = el s.getLsbD k) 256 w := fun l J Jx W hW hA _ hY h0 =>
  all1_in n hn l Bs s J Jx (fun pre W1 W2 hj hb => hA pre W1 W2 none hj ⟨hb.os, hb.tape, hb.output, hb.size, fun k hk _ => hb.block k hk⟩ (fun r e => by cases e)) hY W (Nat.lt_of_lt_of_le hBs hW.size) (Nat.lt_of_lt_of_le hg hW.size) (hs.keep hW hBs) (hT.keep hW hg) h0
end Go.Proofs.YtkkhibamkdgffaaDoor

/- Texts put together: St Su Sv Ra Tri Sz. -/
import Derived.RangeFuncNested
import Derived.RangeFuncBound
import Derived.RangeFuncCalls
import Derived.RangeFuncLeaves
import Derived.Shelf.Abstract
import Derived.Shelf.RegionOpen
import Derived.WalkKit
import Derived.OwnWalkIn
import Derived.TacticsInMore
import Derived.LoopNIn
import Derived.LoopIn
import Derived.Test.YtdpkhliojbeglaaDoorQB
import Derived.Test.YtdpkhliojbeglaaDoorQE
import Derived.Laws.Rows
import Derived.Test.YtdpkhliojbeglaaDoorQL
import Derived.WalkLawsBesides
import Derived.Laws.StructEq
import Derived.Deep.QuietTactic
import Derived.Lib.Hide
import Derived.Deep.MidRow
import Derived.Maps.AppendAt
/- All: the iterator over a set's bytes. -/
namespace Go.Proofs.YtdpkhliojbeglaaDoor
open Go.RowKit Go.Shelf BS
attribute [local go_sem] Oper.semAt_some

/-- The numbers below k of which f says yes, ascending. -/
def el (f : Nat → Bool) (k : Nat) : List Nat := (List.range k).filter f
theorem el_zero (f : Nat → Bool) : el f 0 = [] := rfl
theorem el_succ (f : Nat → Bool) (k : Nat) : el f (k + 1) = el f k ++ if f k then [k] else [] := by
  unfold el; rw [List.range_succ, List.filter_append]; cases h : f k <;> simp [h]
theorem el_skip (f : Nat → Bool) {k j : Nat} (h : k ≤ j) (hf : ∀ i, k ≤ i → i < j → f i = false) : el f j = el f k := by
  induction j with
  | zero => rw [show k = 0 by omega]
  | succ j ih =>
    by_cases hk : k = j + 1
    · rw [hk]
    · rw [el_succ, hf j (by omega) (by omega), ih (by omega) (fun i h1 h2 => hf i h1 (by omega))]; simp
theorem el_len (f : Nat → Bool) (k : Nat) : (el f k).length ≤ k := by
  have := List.length_filter_le f (List.range k); simpa [el] using this

theorem nextOf_cases (f : Nat → Bool) (k : Nat) : (nextOf f k = -1 ∧ ∀ j, k ≤ j → j < 256 → f j = false) ∨ (∃ j : Nat, nextOf f k = j ∧ k ≤ j ∧ j < 256 ∧ f j = true ∧ ∀ i, k ≤ i → i < j → f i = false) := by
  by_cases h : ∃ j, k ≤ j ∧ j < 256 ∧ f j = true ∧ ∀ i, k ≤ i → i < j → f i = false
  · obtain ⟨j, h1, h2, h3, h4⟩ := h
    exact .inr ⟨j, nextOf_eq h2 h1 h3 h4, h1, h2, h3, h4⟩
  · have key : ∀ j, k ≤ j → j < 256 → f j = false := by
      intro j
      induction j using Nat.strongRecOn with
      | ind j ih =>
        intro h1 h2
        cases hf : f j with
        | false => rfl
        | true => exact absurd ⟨j, h1, h2, hf, fun i hi hij => ih i hij hi (by omega)⟩ h
    exact .inl ⟨nextOf_none key, key⟩

/-- The box Bs holds the set s. -/
def SetAt (Bs : Nat) (s : BitVec 256) (W : World) : Prop := W.cell? ⟨Bs, 0, none⟩ = some (.int .u64 (wd s 0)) ∧ W.cell? ⟨Bs, 1, none⟩ = some (.int .u64 (wd s 1)) ∧ W.cell? ⟨Bs, 2, none⟩ = some (.int .u64 (wd s 2)) ∧ W.cell? ⟨Bs, 3, none⟩ = some (.int .u64 (wd s 3))
theorem SetAt.keep {Bs B : Nat} {s : BitVec 256} {w w' : World} (h : SetAt Bs s w) (hb : Below B w w') (hB : Bs < B) : SetAt Bs s w' :=
  ⟨(hb.cell (p := ⟨Bs, 0, none⟩) hB).trans h.1, (hb.cell (p := ⟨Bs, 1, none⟩) hB).trans h.2.1, (hb.cell (p := ⟨Bs, 2, none⟩) hB).trans h.2.2.1, (hb.cell (p := ⟨Bs, 3, none⟩) hB).trans h.2.2.2⟩

/-- What a round must keep: the box Bs, and the library's table. -/
def KeepA (Bs : Nat) (W W' : World) : Prop := W.heap.size ≤ W'.heap.size ∧ W'.heap[Bs]? = W.heap[Bs]? ∧ W'.heap[0]? = W.heap[0]?
theorem KeepA.of_below {Bs n : Nat} {W W' : World} (h : Below n W W') (hB : Bs < n) (hg : 0 < n) : KeepA Bs W W' := ⟨h.size, h.block _ hB, h.block _ hg⟩
theorem KeepA.t {Bs : Nat} {A B C : World} (h : KeepA Bs A B) (k : KeepA Bs B C) : KeepA Bs A C := ⟨Nat.le_trans h.1 k.1, k.2.1.trans h.2.1, k.2.2.trans h.2.2⟩
theorem KeepA.b {Bs : Nat} {w : World} (hB : Bs < w.heap.size) (_hg : 0 < w.heap.size) (W : World) (l : Nat) (o o' : Obj) (hl : w.heap.size ≤ l) (_ : W.heap[l]? = some o) (_ : o.isCells = false) (_ : o.isWalk = false) : KeepA Bs W (W.putObj l o') :=
  ⟨by simp, World.putObj_heap_other (by omega), World.putObj_heap_other (by omega)⟩
theorem KeepA.set {Bs : Nat} {s : BitVec 256} {W W' : World} (h : SetAt Bs s W) (hk : KeepA Bs W W') : SetAt Bs s W' := by
  unfold SetAt at *
  simp only [World.cell?_of_block (w := W) (a := ⟨Bs, 0, none⟩) hk.2.1, World.cell?_of_block (w := W) (a := ⟨Bs, 1, none⟩) hk.2.1, World.cell?_of_block (w := W) (a := ⟨Bs, 2, none⟩) hk.2.1, World.cell?_of_block (w := W) (a := ⟨Bs, 3, none⟩) hk.2.1]
  exact h
theorem KeepA.tab {Bs : Nat} {W W' : World} (h : Tab W) (hk : KeepA Bs W W') : Tab W' := fun j hj =>
  (World.cell?_of_block (w := W) (a := ⟨0, j, none⟩) hk.2.2).trans (h j hj)

set_option maxRecDepth 100000 in
set_option maxHeartbeats 1000000 in
/-- All's closure: for every loop body that keeps the box and the table. -/
theorem all1_in (n : Nat) (hn : 1 ≤ n) (l Bs : Nat) (s : BitVec 256) (J Jx : List Nat → World → Prop)
    (hJ0 : ∀ pre W W', J pre W → Below W.heap.size W W' → J pre W')
    (hY : ∀ pre x W, J pre W → pre.length < 256 → YieldAt Fence.wide (n - 1) Tryd.prog l #[.int .u8 (x : Nat)] W fun e W' =>
      (e = .returned (.bool true) ∧ J (pre ++ [x]) W' ∧ KeepA Bs W W') ∨ (e = .returned (.bool false) ∧ Jx (pre ++ [x]) W'))
    (W : World) (hBs : Bs < W.heap.size) (hg : 0 < W.heap.size) (hs : SetAt Bs s W) (hT : Tab W) (h0 : J [] W) :
    CallsIn Fence.wide n Tryd.prog 97 #[.func (.yield l) #[] #[], .pointer (some ⟨Bs, 0, none⟩)] W fun e W' => (∃ v, e = .returned v) ∧
      ((∃ ys, ys = el s.getLsbD 256 ∧ J ys W') ∨ (∃ pre, (∃ k, k ≤ 256 ∧ pre = el s.getLsbD k) ∧ Jx pre W')) := by
  have HT := Lib.hid hT
  clear hT
  obtain ⟨c0, c1, c2, c3⟩ := hs
  refine callsIn_of_wp Tryd.func97 rfl trivial ?_ rfl
  simp only [Tryd.ntmps97, List.size_toArray, List.length_cons, List.length_nil, Nat.reduceAdd, Nat.reduceSub, Array.replicate_succ, Array.replicate_zero, List.push_toArray, List.append_toArray, List.nil_append, List.cons_append]
  gi_wp2_with (refine ⟨trivial, ?_⟩; gi_at_call 88; refine (callsIn_wide.2 (next_calls s _ _ (by omega) HT.out (by omega))).mono ?_; rintro e w1 ⟨rfl, hb1⟩)
  have hw1 := hb1.size
  have hk1 := KeepA.of_below hb1 hBs hg
  have HT1 := Lib.hid (KeepA.tab HT.out hk1)
  have HS1 := Lib.hid (KeepA.set (s := s) ⟨c0, c1, c2, c3⟩ hk1)
  have HJ1 := Lib.hid (hJ0 _ _ _ h0 hb1)
  have HW1 := Lib.hid (Nat.lt_of_lt_of_le hBs hw1)
  have HW2 := Lib.hid (Nat.lt_of_lt_of_le hg hw1)
  clear hk1 hb1 hw1 c0 c1 c2 c3 HT hBs hg h0
  gi_loopw [3] (fun b wr => ∃ k : Nat, k ≤ 256 ∧ b = .int .i64 (nextOf s.getLsbD k) ∧ J (el s.getLsbD k) wr ∧ Tab wr ∧ SetAt Bs s wr ∧ Bs < wr.heap.size ∧ 0 < wr.heap.size)
    (fun b _ => if intOf b < 0 then 0 else (257 - intOf b).toNat)
  case atStart => exact ⟨0, Nat.zero_le _, rfl, HJ1.out, HT1.out, HS1.out, HW1.out, HW2.out⟩
  case round =>
    obtain ⟨k, hk, rfl, hJs, hTr, hSr, hWr, hWg⟩ := hrel
    have HT := Lib.hid hTr
    obtain ⟨c0, c1, c2, c3⟩ := hSr
    clear hTr HT1 HS1 HJ1 HW1 HW2
    rcases nextOf_cases s.getLsbD k with ⟨e1, hf⟩ | ⟨j, e1, hkj, hj, hfj, hlt⟩
    · rw [e1]
      have HF := Lib.hid hf
      clear hf e1
      gi_wp2
      go_end0
      exact ⟨⟨_, rfl⟩, .inl ⟨_, (el_skip _ hk (fun i h1 h2 => HF.out i h1 h2)).symm, hJs⟩⟩
    · rw [e1]
      have e2 : el s.getLsbD (j + 1) = el s.getLsbD k ++ [j] := by rw [el_succ, hfj, el_skip _ hkj hlt]; rfl
      have hl : (el s.getLsbD k).length < 256 := by have := el_len s.getLsbD k; omega
      obtain ⟨fn, tmps, assign, body, hy, hR⟩ := hY _ j wr hJs hl
      have HE := Lib.hid e2
      clear e1 e2 hlt hfj
      gi_wp2_with fail
      refine hR.mono ?_
      rintro e W3 (⟨rfl, hJ3, hk3⟩ | ⟨rfl, hJx3⟩)
      · -- the round goes on
        have hs3 := hk3.1
        have HT3 := Lib.hid (KeepA.tab HT.out hk3)
        obtain ⟨d0, d1, d2, d3⟩ : SetAt Bs s W3 := KeepA.set (s := s) ⟨c0, c1, c2, c3⟩ hk3
        have HK3 := Lib.hid hk3
        clear c0 c1 c2 c3 HT hk3
        gi_wp2_with (refine ⟨trivial, ?_⟩; gi_at_call 88; refine (callsIn_wide.2 (next_calls s _ _ (by omega) HT3.out (by omega))).mono ?_; rintro e w4 ⟨rfl, hb4⟩)
        have hs4 := hb4.size
        go_roundw
        case rel =>
          have hk4 := KeepA.of_below (Bs := Bs) hb4 (by omega) (by omega)
          refine ⟨j + 1, by omega, rfl, ?_, KeepA.tab HT3.out hk4, KeepA.set (s := s) ⟨d0, d1, d2, d3⟩ hk4, by omega, by omega⟩
          rw [HE.out]; exact hJ0 _ _ _ hJ3 hb4
        case measure =>
          rcases nextOf_cases s.getLsbD (j + 1) with ⟨e1, _⟩ | ⟨j', e1, h1, h2, _⟩
          · rw [e1]
            show (if (-1 : Int) < 0 then 0 else _) < (if (j : Int) < 0 then 0 else (257 - (j : Int)).toNat)
            rw [if_pos (by decide), if_neg (show ¬ (j : Int) < 0 by omega)]; omega
          · rw [e1]
            show (if (j' : Int) < 0 then 0 else (257 - (j' : Int)).toNat) < (if (j : Int) < 0 then 0 else (257 - (j : Int)).toNat)
            rw [if_neg (show ¬ (j' : Int) < 0 by omega), if_neg (show ¬ (j : Int) < 0 by omega)]; omega
      · gi_wp2
        refine bodyPost_ret (results_none rfl _ _ _) rfl ?_
        exact ⟨⟨_, rfl⟩, .inr ⟨_, ⟨j + 1, by omega, HE.out.symm⟩, hJx3⟩⟩

set_option maxHeartbeats 1000000 in
/-- All: the set is boxed, the function value has captured the box. -/
theorem all_in (n : Nat) (s : BitVec 256) (w : World) :
    CallsIn Fence.wide n Tryd.prog 79 #[setV s] w fun e w' => e = .returned (.func (.func 97) #[] #[.pointer (some ⟨w.heap.size, 0, none⟩)]) ∧ w' = w.alloc (.cells #[.int .u64 (wd s 0), .int .u64 (wd s 1), .int .u64 (wd s 2), .int .u64 (wd s 3)] 58) := by
  refine callsIn_of_wp Tryd.func79 rfl trivial ?_ rfl
  simp only [Tryd.ntmps79, List.size_toArray, List.length_cons, List.length_nil, Nat.reduceAdd, Nat.reduceSub, Array.replicate_succ, Array.replicate_zero, List.push_toArray, List.append_toArray, List.nil_append, List.cons_append]
  gi_wp2
  go_ret
  exact ⟨rfl, rfl⟩

/-- All hands back an iterator over the set's bytes, ascending. -/
theorem all_stops (n : Nat) (hn : 1 ≤ n) (Bs : Nat) (s : BitVec 256) (w : World) (hBs : Bs < w.heap.size) (hg : 0 < w.heap.size) (hs : SetAt Bs s w) (hT : Tab w) :
    SeqStopsK Fence.wide n Tryd.prog 97 #[.pointer (some ⟨Bs, 0, none⟩)] (fun x : Nat => #[Value.int .u8 (x : Int)]) (KeepA Bs) (fun ys => ys = el s.getLsbD 256)
      (fun pre => ∃ k, k ≤ 256 ∧ pre = el s.getLsbD k) 256 w := fun l J Jx W hW hA _ hY h0 =>
  all1_in n hn l Bs s J Jx (fun pre W1 W2 hj hb => hA pre W1 W2 none hj ⟨hb.os, hb.tape, hb.output, hb.size, fun k hk _ => hb.block k hk⟩ (fun r e => by cases e)) hY W (Nat.lt_of_lt_of_le hBs hW.size) (Nat.lt_of_lt_of_le hg hW.size) (hs.keep hW hBs) (hT.keep hW hg) h0
end Go.Proofs.YtdpkhliojbeglaaDoor

/- slices.Values over bytes, and With. -/
namespace Go.Proofs.YtdpkhliojbeglaaDoor
open Go.RowKit Go.Shelf BS
attribute [local go_sem] Oper.semAt_some

/-- A slice of bytes that lies below n₀. -/
def BytesAt (n₀ : Nat) (W : World) (v : Value) (l : List (Fin 256)) : Prop :=
  ∃ (a : Option Addr) (cap : Nat), v = .slice a l.length cap ∧ (l ≠ [] → ∃ b off, a = some ⟨b, off, none⟩ ∧ b < n₀ ∧ ∀ j (h : j < l.length), W.cell? ⟨b, off + j, none⟩ = some (.int .u8 (l[j].val : Nat)))
theorem BytesAt.keep {n₀ : Nat} {A B : World} {v : Value} {l : List (Fin 256)} (h : BytesAt n₀ A v l) (hb : Below n₀ A B) : BytesAt n₀ B v l := by
  obtain ⟨a, cap, e, h⟩ := h
  refine ⟨a, cap, e, fun hne => ?_⟩
  obtain ⟨b, off, e, hlt, hc⟩ := h hne
  exact ⟨b, off, e, hlt, fun j hj => (hb.cell (p := ⟨b, off + j, none⟩) hlt).trans (hc j hj)⟩

set_option maxRecDepth 100000 in
set_option maxHeartbeats 2000000 in
theorem values1_in (n : Nat) (hn : 1 ≤ n) (k0 Bs n₀ b off cap : Nat) (l : List (Fin 256)) (hreach : l.length ≤ 9223372036854775807) (hb : b < n₀) (J Jx : List (Fin 256) → World → Prop)
    (hY : ∀ pre x W, J pre W → pre.length < l.length → YieldAt Fence.wide (n - 1) Tryd.prog k0 #[.int .u8 (x.val : Nat)] W fun e W' =>
      (e = .returned (.bool true) ∧ J (pre ++ [x]) W' ∧ Below n₀ W W') ∨ (e = .returned (.bool false) ∧ Jx (pre ++ [x]) W'))
    (W : World) (hBs : W.cell? ⟨Bs, 0, none⟩ = some (.slice (some ⟨b, off, none⟩) l.length cap)) (hc : ∀ j (h : j < l.length), W.cell? ⟨b, off + j, none⟩ = some (.int .u8 (l[j].val : Nat))) (h0 : J [] W) :
    CallsIn Fence.wide n Tryd.prog 109 #[.func (.yield k0) #[] #[], .pointer (some ⟨Bs, 0, none⟩)] W fun e W' => (∃ v, e = .returned v) ∧
      ((∃ ys, ys = l ∧ J ys W') ∨ (∃ pre, (∃ k, k ≤ l.length ∧ pre = l.take k) ∧ Jx pre W')) := by
  have HC := Lib.hid hc
  clear hc
  refine callsIn_of_wp Tryd.func109 rfl trivial ?_ rfl
  simp only [Tryd.ntmps109, List.size_toArray, List.length_cons, List.length_nil, Nat.reduceAdd, Nat.reduceSub, Array.replicate_succ, Array.replicate_zero, List.push_toArray, List.append_toArray, List.nil_append, List.cons_append]
  gi_wp2
  gi_loopw [7] (fun i wr => ∃ k : Nat, k ≤ l.length ∧ i = .int .i64 k ∧ J (l.take k) wr ∧ Below n₀ W wr)
    (fun i _ => l.length - (intOf i).toNat)
  case atStart => exact ⟨0, Nat.zero_le _, rfl, h0, Below.refl _ _⟩
  case round =>
    obtain ⟨k, hk, rfl, hJs, hnx⟩ := hrel
    by_cases hlt : k < l.length
    · have hcx : wr.cell? ⟨b, off + k, none⟩ = some (.int .u8 (l[k].val : Nat)) := (hnx.cell (p := ⟨b, off + k, none⟩) hb).trans (HC.out k hlt)
      have hx := l[k].isLt
      have HE := Lib.hid (show l.take (k + 1) = l.take k ++ [l[k]] from by simp)
      obtain ⟨fn, tmps, assign, body, hy, hR⟩ := hY _ l[k] wr hJs (by rw [List.length_take]; omega)
      generalize l[k] = x at *
      gi_wp2
      refine hR.mono ?_
      rintro e W3 (⟨rfl, hJ3, hk3⟩ | ⟨rfl, hJx3⟩)
      · gi_wp2
        go_roundw
        case rel => exact ⟨k + 1, by omega, by simp, by rw [HE.out]; exact hJ3, hnx.trans hk3⟩
        case measure => simp [intOf]; omega
      · gi_wp2
        refine bodyPost_ret (results_none rfl _ _ _) rfl ?_
        exact ⟨⟨_, rfl⟩, .inr ⟨_, ⟨k + 1, by omega, HE.out.symm⟩, hJx3⟩⟩
    · obtain rfl : k = l.length := by omega
      gi_wp2
      go_end0
      exact ⟨⟨_, rfl⟩, .inl ⟨_, by simp, hJs⟩⟩

set_option maxRecDepth 100000 in
set_option maxHeartbeats 1000000 in
theorem values1_nil_in (n : Nat) (k0 Bs : Nat) (a : Option Addr) (cap : Nat) (J : List (Fin 256) → World → Prop) (W : World) (hBs : W.cell? ⟨Bs, 0, none⟩ = some (.slice a 0 cap)) (h0 : J [] W) :
    CallsIn Fence.wide n Tryd.prog 109 #[.func (.yield k0) #[] #[], .pointer (some ⟨Bs, 0, none⟩)] W fun e W' => (∃ v, e = .returned v) ∧ J [] W' := by
  refine callsIn_of_wp Tryd.func109 rfl trivial ?_ rfl
  simp only [Tryd.ntmps109, List.size_toArray, List.length_cons, List.length_nil, Nat.reduceAdd, Nat.reduceSub, Array.replicate_succ, Array.replicate_zero, List.push_toArray, List.append_toArray, List.nil_append, List.cons_append]
  gi_wp2
  gi_loopw [7] (fun i wr => i = .int .i64 0 ∧ J [] wr) (fun _ _ => 0)
  case atStart => exact ⟨rfl, h0⟩
  case round =>
    obtain ⟨rfl, hJs⟩ := hrel
    gi_wp2
    go_end0
    exact ⟨⟨_, rfl⟩, hJs⟩

set_option maxHeartbeats 1000000 in
theorem values_in (n : Nat) (a : Option Addr) (len cap : Nat) (w : World) :
    CallsIn Fence.wide n Tryd.prog 106 #[.slice a len cap] w fun e w' => e = .returned (.func (.func 109) #[] #[.pointer (some ⟨w.heap.size, 0, none⟩)]) ∧ w' = w.alloc (.cells #[.slice a len cap] 23) := by
  refine callsIn_of_wp Tryd.func106 rfl trivial ?_ rfl
  simp only [Tryd.ntmps106, List.size_toArray, List.length_cons, List.length_nil, Nat.reduceAdd, Nat.reduceSub, Array.replicate_succ, Array.replicate_zero, List.push_toArray, List.append_toArray, List.nil_append, List.cons_append]
  gi_wp2
  go_ret
  exact ⟨rfl, rfl⟩

theorem values_stops (n : Nat) (hn : 1 ≤ n) (Bs n₀ : Nat) (v : Value) (l : List (Fin 256)) (hreach : l.length ≤ 9223372036854775807) (w : World) (hBs : Bs < w.heap.size) (hn₀ : n₀ ≤ w.heap.size)
    (hc : w.cell? ⟨Bs, 0, none⟩ = some v) (hI : BytesAt n₀ w v l) :
    SeqStopsK Fence.wide n Tryd.prog 109 #[.pointer (some ⟨Bs, 0, none⟩)] (fun x : Fin 256 => #[Value.int .u8 (x.val : Int)]) (Below n₀) (fun ys => ys = l) (fun pre => ∃ k, k ≤ l.length ∧ pre = l.take k) l.length w := fun k0 J Jx W hW _ _ hY h0 => by
  have hc' := (hW.cell (p := ⟨Bs, 0, none⟩) hBs).trans hc
  obtain ⟨a, cap, rfl, hI2⟩ := hI.keep (hW.mono hn₀)
  by_cases hl : l = []
  · subst hl
    exact (values1_nil_in n k0 Bs a cap J W hc' h0).mono fun e W' ⟨he, hj⟩ => ⟨he, .inl ⟨_, rfl, hj⟩⟩
  · obtain ⟨b, off, rfl, hb, hcs⟩ := hI2 hl
    exact values1_in n hn k0 Bs n₀ b off cap l hreach hb J Jx hY W hc' hcs h0
end Go.Proofs.YtdpkhliojbeglaaDoor

/- With: a set with some bytes more. -/
namespace Go.Proofs.YtdpkhliojbeglaaDoor
open Go.RowKit Go.Shelf BS
attribute [local go_sem] Oper.semAt_some

/-- The set of one number. -/
def one (x : Nat) : BitVec 256 := ofFn fun j => decide (j = x)
def withL (s : BitVec 256) (l : List (Fin 256)) : BitVec 256 := l.foldl (fun t x => t ||| one x.val) s
theorem withL_snoc (s : BitVec 256) (l : List (Fin 256)) (x : Fin 256) : withL s (l ++ [x]) = withL s l ||| one x.val := by simp [withL]

theorem wd_one (x i : Nat) (hi : i < 4) : wd (one x) i = if x / 64 = i then 2 ^ (x % 64) else 0 := by
  apply Nat.eq_of_testBit_eq; intro j
  rw [testBit_wd, one, get_ofFn]
  by_cases h : x / 64 = i
  · rw [if_pos h, Nat.testBit_two_pow]
    by_cases hj : j < 64
    · simp only [hj, show 64 * i + j < 256 by omega, decide_true, Bool.true_and, decide_eq_decide]; omega
    · simp only [hj, decide_false, Bool.false_and]
      symm; rw [decide_eq_false_iff_not]; omega
  · rw [if_neg h, Nat.zero_testBit]
    by_cases hj : j < 64
    · simp only [hj, show 64 * i + j < 256 by omega, decide_true, Bool.true_and, decide_eq_false_iff_not]; omega
    · simp [hj]

theorem or_one_same (t : BitVec 256) (x i : Nat) (hi : i < 4) (h : x / 64 = i) : bits .or .u64 (wd t i : Int) (IntKind.u64.wrap (2 ^ (x % 64))) = (wd (t ||| one x) i : Int) := by
  have h1 : x % 64 < 64 := Nat.mod_lt _ (by decide)
  have h2 : (2 : Nat) ^ (x % 64) < 2 ^ 64 := Nat.pow_lt_pow_right (by decide) h1
  have h3 : ((2 : Int) ^ (x % 64)) = ((2 ^ (x % 64) : Nat) : Int) := by simp
  rw [h3, wrap_u64_nat _ h2, bits_or_nat _ _ (wd_lt _ _) h2, wd_or, wd_one x i hi, if_pos h]
theorem or_one_other (t : BitVec 256) (x i : Nat) (hi : i < 4) (h : x / 64 ≠ i) : wd t i = wd (t ||| one x) i := by
  rw [wd_or, wd_one x i hi, if_neg h, Nat.or_zero]

@[reducible] def setA (s : BitVec 256) : Array Value := #[.int .u64 (wd s 0), .int .u64 (wd s 1), .int .u64 (wd s 2), .int .u64 (wd s 3)]

theorem Blk.cells4 {W : World} {B : Nat} {a b c d : Value} {t : TypeId} (h : Blk W B #[a, b, c, d] t) : (W.cell? ⟨B, 0, none⟩ = some a ∧ W.cell? ⟨B, 1, none⟩ = some b ∧ W.cell? ⟨B, 2, none⟩ = some c ∧ W.cell? ⟨B, 3, none⟩ = some d) ∧
    (W.frozen? ⟨B, 0, none⟩ = false ∧ W.frozen? ⟨B, 1, none⟩ = false ∧ W.frozen? ⟨B, 2, none⟩ = false ∧ W.frozen? ⟨B, 3, none⟩ = false) :=
  ⟨⟨h.cell 0, h.cell 1, h.cell 2, h.cell 3⟩, h.frozen 0, h.frozen 1, h.frozen 2, h.frozen 3⟩

theorem setA_or (t : BitVec 256) (x : Nat) (h0 : x / 64 = 0) : (setA t).setIfInBounds 0 (.int .u64 (bits .or .u64 (wd t 0 : Int) (IntKind.u64.wrap (2 ^ (x % 64))))) = setA (t ||| one x) := by
  rw [or_one_same t x 0 (by decide) h0, setA, setA, ← or_one_other t x 1 (by decide) (by omega), ← or_one_other t x 2 (by decide) (by omega), ← or_one_other t x 3 (by decide) (by omega)]; rfl
theorem setA_or1 (t : BitVec 256) (x : Nat) (h0 : x / 64 = 1) : (setA t).setIfInBounds 1 (.int .u64 (bits .or .u64 (wd t 1 : Int) (IntKind.u64.wrap (2 ^ (x % 64))))) = setA (t ||| one x) := by
  rw [or_one_same t x 1 (by decide) h0, setA, setA, ← or_one_other t x 0 (by decide) (by omega), ← or_one_other t x 2 (by decide) (by omega), ← or_one_other t x 3 (by decide) (by omega)]; rfl
theorem setA_or2 (t : BitVec 256) (x : Nat) (h0 : x / 64 = 2) : (setA t).setIfInBounds 2 (.int .u64 (bits .or .u64 (wd t 2 : Int) (IntKind.u64.wrap (2 ^ (x % 64))))) = setA (t ||| one x) := by
  rw [or_one_same t x 2 (by decide) h0, setA, setA, ← or_one_other t x 0 (by decide) (by omega), ← or_one_other t x 1 (by decide) (by omega), ← or_one_other t x 3 (by decide) (by omega)]; rfl
theorem setA_or3 (t : BitVec 256) (x : Nat) (h0 : x / 64 = 3) : (setA t).setIfInBounds 3 (.int .u64 (bits .or .u64 (wd t 3 : Int) (IntKind.u64.wrap (2 ^ (x % 64))))) = setA (t ||| one x) := by
  rw [or_one_same t x 3 (by decide) h0, setA, setA, ← or_one_other t x 0 (by decide) (by omega), ← or_one_other t x 1 (by decide) (by omega), ← or_one_other t x 2 (by decide) (by omega)]; rfl

set_option maxRecDepth 100000 in
set_option maxHeartbeats 2000000 in
/-- With. -/
theorem with_in (n : Nat) (hn : 3 ≤ n) (s : BitVec 256) (v : Value) (a : Option Addr) (len cap : Nat) (hv : v = .slice a len cap) (l : List (Fin 256)) (hreach : l.length ≤ 9223372036854775807) (w : World) (hI : BytesAt w.heap.size w v l) :
    CallsIn Fence.wide n Tryd.prog 91 #[setV s, v] w fun e W' => e = .returned (setV (withL s l)) ∧ Below w.heap.size w W' := by
  have h1 : 1 ≤ n := by omega
  subst hv
  refine callsIn_of_wp_marks Tryd.func91 rfl trivial ?_ rfl
  simp only [Tryd.ntmps91, List.size_toArray, List.length_cons, List.length_nil, Nat.reduceAdd, Nat.reduceSub, Array.replicate_succ, Array.replicate_zero, List.push_toArray, List.append_toArray, List.nil_append, List.cons_append]
  gi_wp2_with (refine ⟨trivial, ?_⟩; gi_at_call 106; refine (values_in (n - 1) _ _ _ _).mono ?_; rintro e w' ⟨rfl, rfl⟩)
  obtain ⟨w0, hw0⟩ : ∃ w0, ((w.alloc (.cells (setA s) 58)).alloc (.cells #[.int .u64 0, .int .u64 0, .int .u64 0, .int .u64 0] 58)) = w0 := ⟨_, rfl⟩
  have bS : Blk w0 w.heap.size (setA s) 58 := by rw [← hw0]; exact (Blk.new w _ _).alloc _
  have bR : Blk w0 (w.heap.size + 1) #[.int .u64 0, .int .u64 0, .int .u64 0, .int .u64 0] 58 := by
    rw [← hw0]; have := Blk.new (w.alloc (.cells (setA s) 58)) #[.int .u64 0, .int .u64 0, .int .u64 0, .int .u64 0] 58; rwa [World.size_alloc] at this
  have hz0 : w0.heap.size = w.heap.size + 2 := by rw [← hw0]; simp
  have hB0 : Below w.heap.size w w0 := by rw [← hw0]; go_grown
  rw [show ((w.alloc (.cells #[.int .u64 (wd s 0), .int .u64 (wd s 1), .int .u64 (wd s 2), .int .u64 (wd s 3)] 58)).alloc (.cells #[.int .u64 0, .int .u64 0, .int .u64 0, .int .u64 0] 58)) = w0 from hw0]
  have bN := Boxed.new w0 23 (.slice a len cap)
  rw [show w.heap.size + 1 + 1 = w0.heap.size by omega]
  clear hw0
  have hz1 : w.heap.size + 2 ≤ w0.heap.size := by omega
  clear hz0
  refine wpIn_rangeFunc_ownG rfl h1 (gf := 109) (lb := #[.pointer (some ⟨w0.heap.size, 0, none⟩)]) rfl trivial (enters_of Tryd.func109 (by kernel_rfl) rfl)
    (values_stops (n - 1) (by omega) w0.heap.size w.heap.size _ l hreach _ (by simp) (by simp; omega) bN.cell (hI.keep (hB0.alloc (by omega) _))) belowK_t (belowK_b (by simp; omega)) (Below.refl _ _) (fun _ => rfl)
    (fun pre W => (Blk W w.heap.size (setA (withL s pre)) 58 ∧ Blk W (w.heap.size + 1) #[.int .u64 0, .int .u64 0, .int .u64 0, .int .u64 0] 58) ∧ Below w.heap.size w W)
    (fun _ _ _ => False)
    (OwnFrom.and (Own.from (fun s' A B row hs hg hr => ⟨hs.1.kept hg (hs.1.not_row hr), hs.2.kept hg (hs.2.not_row hr)⟩) _) (ownFrom_below (Nat.le_refl _) (by simp; omega)))
    (fun _ _ _ _ _ hs _ _ => hs)
    ⟨⟨bS.alloc _, bR.alloc _⟩, hB0.alloc (by omega) _⟩
    (fun x => { tmps := #[setV s, .slice a len cap, .pointer (some ⟨w.heap.size, 0, none⟩), undef, .pointer (some ⟨w.heap.size + 1, 0, none⟩), .int .u8 (x.val : Int), .slice a len cap,
          .func (.func 109) #[] #[.pointer (some ⟨w0.heap.size, 0, none⟩)], .int .u8 (x.val : Int), undef, undef, undef, undef, undef, undef, undef, undef, undef, undef], defers := [] }) ?assign ?body ?done ?stop
  case assign =>
    intro l x W K hK
    gi_wp2
    exact hK
  case body =>
    rintro l pre x W ⟨⟨bS, bR⟩, hB⟩ _
    obtain ⟨⟨c0, c1, c2, c3⟩, f0, f1, f2, f3⟩ := bS.cells4
    have hx := x.isLt
    have HW := Lib.hid (withL_snoc s pre x)
    generalize withL s pre = t at *
    obtain ⟨x, hx'⟩ := x
    simp only at hx HW ⊢
    have hx2 : 0 ≤ (x : Int) % 64 := by omega
    have hx3 : (x : Int) % 64 < 64 := by omega
    have h4 : (x : Int) / 64 = 0 ∨ (x : Int) / 64 = 1 ∨ (x : Int) / 64 = 2 ∨ (x : Int) / 64 = 3 := by omega
    rcases h4 with hx4 | hx4 | hx4 | hx4
    · gi_wp2
      refine ⟨(KeepsOthers.setCell _ _ _).from _, below_set (Below.refl _ _) (Nat.le_refl _) _ _, ⟨?_, bR.other (by omega) _ _⟩, below_set hB (Nat.le_refl _) _ _⟩
      rw [HW.out, ← setA_or t x (by omega)]
      exact bS.set 0 _
    · gi_wp2
      refine ⟨(KeepsOthers.setCell _ _ _).from _, below_set (Below.refl _ _) (Nat.le_refl _) _ _, ⟨?_, bR.other (by omega) _ _⟩, below_set hB (Nat.le_refl _) _ _⟩
      rw [HW.out, ← setA_or1 t x (by omega)]
      exact bS.set 1 _
    · gi_wp2
      refine ⟨(KeepsOthers.setCell _ _ _).from _, below_set (Below.refl _ _) (Nat.le_refl _) _ _, ⟨?_, bR.other (by omega) _ _⟩, below_set hB (Nat.le_refl _) _ _⟩
      rw [HW.out, ← setA_or2 t x (by omega)]
      exact bS.set 2 _
    · gi_wp2
      refine ⟨(KeepsOthers.setCell _ _ _).from _, below_set (Below.refl _ _) (Nat.le_refl _) _ _, ⟨?_, bR.other (by omega) _ _⟩, below_set hB (Nat.le_refl _) _ _⟩
      rw [HW.out, ← setA_or3 t x (by omega)]
      exact bS.set 3 _
  case done =>
    rintro D ys W hD rfl ⟨⟨bS, bR⟩, hB⟩ hK
    obtain ⟨⟨c0, c1, c2, c3⟩, f0, f1, f2, f3⟩ := bS.cells4
    obtain ⟨⟨d0, d1, d2, d3⟩, g0, g1, g2, g3⟩ := bR.cells4
    gi_wp2
    generalize withL s ys = t at *
    have bR' := (((bR.set 0 (.int .u64 (wd t 0))).set 1 (.int .u64 (wd t 1))).set 2 (.int .u64 (wd t 2))).set 3 (.int .u64 (wd t 3))
    have hB' := below_set (below_set (below_set (below_set hB (B := w.heap.size + 1) (by omega) 0 (.int .u64 (wd t 0))) (B := w.heap.size + 1) (by omega) 1 (.int .u64 (wd t 1))) (B := w.heap.size + 1) (by omega) 2 (.int .u64 (wd t 2))) (B := w.heap.size + 1) (by omega) 3 (.int .u64 (wd t 3))
    have hK' := ((((KeepsOthers.setCell W ⟨w.heap.size + 1, 0, none⟩ (.int .u64 (wd t 0))).trans (KeepsOthers.setCell _ ⟨w.heap.size + 1, 1, none⟩ (.int .u64 (wd t 1)))).trans (KeepsOthers.setCell _ ⟨w.heap.size + 1, 2, none⟩ (.int .u64 (wd t 2)))).trans (KeepsOthers.setCell _ ⟨w.heap.size + 1, 3, none⟩ (.int .u64 (wd t 3)))).same D _ hK rfl
    generalize (((W.setCell ⟨w.heap.size + 1, 0, none⟩ (.int .u64 (wd t 0))).setCell ⟨w.heap.size + 1, 1, none⟩ (.int .u64 (wd t 1))).setCell ⟨w.heap.size + 1, 2, none⟩ (.int .u64 (wd t 2))).setCell ⟨w.heap.size + 1, 3, none⟩ (.int .u64 (wd t 3)) = W4 at *
    refine ⟨by simp, .inl ⟨_, _, rfl, run_takeDeferred hK', ?_⟩⟩
    have bR2 : Blk (W4.putObj D (.deferred none)) (w.heap.size + 1) (setA t) 58 := bR'.putObj _ hK' rfl
    obtain ⟨⟨e0, e1, e2, e3⟩, _⟩ := bR2.cells4
    refine ⟨setV t, ?_, rfl, hB'.trans (belowK_b (w := w) (Nat.le_refl _) _ D _ _ (by simp at hD; omega) hK' rfl rfl)⟩
    simp [results, Tryd.f91, go_sem, e0, e1, e2, e3]
  case stop =>
    rintro D c pre W _ _ h _
    exact h.elim
end Go.Proofs.YtdpkhliojbeglaaDoor

/- The document's sets, by the reference's own calls: Has, Of, With. -/
namespace Go.Proofs.YtdpkhliojbeglaaDoor
open Go.RowKit BS

set_option maxHeartbeats 400000 in
/-- Has. -/
theorem rhas_calls (a : BitVec 256) (x : Int) (w : World) (h0 : 0 ≤ x) (h1 : x < 256) :
    Calls Tryd.prog 60 #[setV a, .int .i64 x] w fun e w' => e = .returned (.bool (a.getLsbD x.toNat)) ∧ Below w.heap.size w w' := by
  have hx2 : 0 ≤ x % 64 := by omega
  have hx3 : x % 64 < 64 := by omega
  have h4 : x / 64 = 0 ∨ x / 64 = 1 ∨ x / 64 = 2 ∨ x / 64 = 3 := by omega
  rcases h4 with hx | hx | hx | hx
  all_goals
    go_enter Tryd.func60, Tryd.ntmps60
    go_wp2
    go_ret
    refine ⟨ret_bool (has_word' a x _ _ ?_ ?_), by go_grown⟩ <;> omega

/-- 256 answers. -/
def Bools (arr : Array Value) (f : Nat → Bool) : Prop := arr.size = 256 ∧ ∀ i, i < 256 → arr[i]? = some (.bool (f i))
theorem Bools.set {arr : Array Value} {f : Nat → Bool} (h : Bools arr f) (i : Nat) (b : Bool) : Bools (arr.setIfInBounds i (.bool b)) (fun j => if j = i then b else f j) := by
  refine ⟨by simpa using h.1, fun j hj => ?_⟩
  by_cases hji : j = i
  · subst hji
    have : j < arr.size := by rw [h.1]; exact hj
    simp [this]
  · rw [Array.getElem?_setIfInBounds_ne (Ne.symm hji), h.2 j hj]; simp [hji]
theorem ofFn_congr {f g : Nat → Bool} (h : ∀ j, j < 256 → f j = g j) : ofFn f = ofFn g := by
  apply BitVec.eq_of_getLsbD_eq; intro j hj
  rw [get_ofFn, get_ofFn, h j hj]

/-- The first k answers, as a set. -/
def pre (f : Nat → Bool) (k : Nat) : BitVec 256 := ofFn fun j => decide (j < k) && f j
theorem pre_true (f : Nat → Bool) (k : Nat) (h : f k = true) : pre f (k + 1) = pre f k ||| one k := by
  apply BitVec.eq_of_getLsbD_eq; intro j hj
  rw [BitVec.getLsbD_or, pre, pre, one, get_ofFn, get_ofFn, get_ofFn]
  simp only [hj, decide_true, Bool.true_and]
  by_cases hjk : j = k
  · subst hjk; simp [h]
  · have : (j < k + 1) ↔ (j < k) := by omega
    simp [this, hjk]
theorem pre_false (f : Nat → Bool) (k : Nat) (h : f k = false) : pre f (k + 1) = pre f k := by
  apply ofFn_congr; intro j hj
  by_cases hjk : j = k
  · subst hjk; simp [h]
  · have : (j < k + 1) ↔ (j < k) := by omega
    simp [this]
theorem pre_all (f : Nat → Bool) : pre f 256 = ofFn f := ofFn_congr fun j hj => by simp [hj]
theorem pre_none (f : Nat → Bool) : pre f 0 = 0 := by
  apply BitVec.eq_of_getLsbD_eq; intro j hj
  rw [pre, get_ofFn]; simp

/-- A set stored into a box of its own. -/
theorem fin4 {w W : World} {n B : Nat} {a b c d : Value} {T : TypeId} (h : Blk W B #[a, b, c, d] T) (hb : Below n w W) (hB : n ≤ B) (t : BitVec 256) :
    Blk ((((W.setCell ⟨B, 0, none⟩ (.int .u64 (wd t 0))).setCell ⟨B, 1, none⟩ (.int .u64 (wd t 1))).setCell ⟨B, 2, none⟩ (.int .u64 (wd t 2))).setCell ⟨B, 3, none⟩ (.int .u64 (wd t 3))) B (setA t) T ∧
    Below n w ((((W.setCell ⟨B, 0, none⟩ (.int .u64 (wd t 0))).setCell ⟨B, 1, none⟩ (.int .u64 (wd t 1))).setCell ⟨B, 2, none⟩ (.int .u64 (wd t 2))).setCell ⟨B, 3, none⟩ (.int .u64 (wd t 3))) :=
  ⟨(((h.set 0 _).set 1 _).set 2 _).set 3 _, below_set (below_set (below_set (below_set hb hB _ _) hB _ _) hB _ _) hB _ _⟩

def SW (w : World) (t : BitVec 256) (W : World) : Prop :=
  (Blk W w.heap.size (setA t) 58 ∧ Blk W (w.heap.size + 1) (setA 0) 58) ∧ Below w.heap.size w W
theorem drew_w {w W : World} {t : BitVec 256} (h : SW w t W) : SW w t W.drew := ⟨⟨h.1.1, h.1.2⟩, h.2.drew⟩
theorem SW.store {w W : World} {t t' : BitVec 256} (h : SW w t W) (i : Nat) (v : Value) (hv : (setA t).setIfInBounds i v = setA t') : SW w t' (W.setCell ⟨w.heap.size, i, none⟩ v) :=
  ⟨⟨by rw [← hv]; exact h.1.1.set i v, h.1.2.other (by omega) _ _⟩, below_set h.2 (by omega) _ _⟩

end Go.Proofs.YtdpkhliojbeglaaDoor

/- Is a list a parse tree: the document's entry and kids. Stage 14. -/
namespace Go.Proofs.YtdpkhliojbeglaaDoor
open Go.RowKit BS

/-- A slice of bytes. -/
def BtsAt (l : List Nat) (a : Option Addr) (W : World) : Prop :=
  l ≠ [] → ∃ g off, a = some ⟨g, off, none⟩ ∧ g < W.heap.size ∧ ∀ i (h : i < l.length), W.cell? ⟨g, off + i, none⟩ = some (.int .u8 (l[i] : Nat))
theorem BtsAt.below {l : List Nat} {a : Option Addr} {W W' : World} (h : BtsAt l a W) (hb : Below W.heap.size W W') : BtsAt l a W' := fun hne => by
  obtain ⟨g, off, e, hg, hc⟩ := h hne
  exact ⟨g, off, e, Nat.lt_of_lt_of_le hg hb.size, fun i hi => (hb.cell (p := ⟨g, off + i, none⟩) hg).trans (hc i hi)⟩
set_option maxRecDepth 100000 in
set_option maxHeartbeats 2000000 in
theorem eqEn (xd xn xf xt yd yn yf yt : Int) (w : World) :
    (Op.equalIn 10000 83 (.agg (enI xd xn xf xt)) (.agg (enI yd yn yf yt))).run Tryd.prog w = .ok (decide (xd = yd ∧ xn = yn ∧ xf = yf ∧ xt = yt)) w := by
  go_simp
  by_cases h1 : xd = yd <;> by_cases h2 : xn = yn <;> by_cases h3 : xf = yf <;> by_cases h4 : xt = yt <;> simp [h1, h2, h3, h4]
def resO : Option Nat → Int
  | none => -1
  | some j => j
/-- What entry answers: of all nodes before k. -/
def EntG (l : List NdN) (w : List Nat) (t : List EnN) (la wa ta : Option Addr) (lc wc tc k : Nat) : Prop :=
  ∀ (i : Nat) (d : Int) (n : Nat) (f e : Int) (W : World), n < k → n < l.length → i ≤ 100000 → 0 ≤ d → d + k ≤ 100000 → NodesAt l la W → BtsAt w wa W → EntsAt t ta W →
    Calls Tryd.prog 40 #[.slice la l.length lc, .slice wa w.length wc, .slice ta t.length tc, .int .i64 (i : Nat), .agg (enI d n f e)] W fun r W' => r = .returned (.int .i64 (resO (entF l w t k i ⟨d, n, f, e⟩))) ∧ Below W.heap.size W W'
set_option maxRecDepth 100000 in
set_option maxHeartbeats 16000000 in
/-- Where the entry is not the one that is asked for. -/
theorem ent_no (l : List NdN) (w : List Nat) (t : List EnN) (la wa ta : Option Addr) (lc wc tc : Nat) (_hl : l.length ≤ 1000) (_hw : w.length ≤ 1000) (ht : t.length ≤ 1000) (i : Nat) (d : Int) (n : Nat) (f e : Int) (W : World) (hi : i ≤ 100000) (hE : EntsAt t ta W)
    (hno : ¬ (i < t.length ∧ atE t i = ⟨d, n, f, e⟩ ∧ 0 ≤ f ∧ f ≤ e ∧ e ≤ (w.length : Int))) :
    Calls Tryd.prog 40 #[.slice la l.length lc, .slice wa w.length wc, .slice ta t.length tc, .int .i64 (i : Nat), .agg (enI d n f e)] W fun r W' => r = .returned (.int .i64 (-1)) ∧ Below W.heap.size W W' := by
  have hR := Blk.new W (enI d n f e) 83
  have hB0 := Lib.hid (show Below W.heap.size W (W.alloc (.cells (enI d n f e) 83)) from (Below.refl _ _).alloc (Nat.le_refl _) _)
  have r0 := hR.cell 0; have r1 := hR.cell 1; have r2 := hR.cell 2; have r3 := hR.cell 3
  simp only [List.getElem?_toArray, List.getElem?_cons_zero, List.getElem?_cons_succ] at r0 r1 r2 r3
  have n0 : decide ((i : Int) < 0) = false := by rw [decide_eq_false_iff_not]; omega
  by_cases hlt : i < t.length
  · obtain ⟨g, off, rfl, hg, hc⟩ := hE (by rintro rfl; simp at hlt)
    have hd : decide ((i : Int) < (t.length : Int)) = true := by rw [decide_eq_true_iff]; omega
    have hd2 : decide (i < t.length) = true := by rw [decide_eq_true_iff]; omega
    have hd3 : decide (t.length ≤ i) = false := by rw [decide_eq_false_iff_not]; omega
    have hii : (i : Int) < (t.length : Int) := by omega
    rw [atE_lt t i hlt] at hno
    have dd := fun (j : Nat) (hj : j < 4) => (hB0.out.cell (p := ⟨g, off + i * 4 + j, none⟩) hg).trans (hc i hlt j hj)
    have d0 := dd 0 (by decide); have d1 := dd 1 (by decide); have d2 := dd 2 (by decide); have d3 := dd 3 (by decide)
    simp only [enA, List.getElem?_toArray, List.getElem?_cons_zero, List.getElem?_cons_succ, Nat.add_zero] at d0 d1 d2 d3
    generalize t[i] = x at *
    obtain ⟨xd, xn, xf, xt⟩ := x
    simp only at d0 d1 d2 d3
    have he := eqEn xd xn xf xt d n f e
    clear dd hc hE hR hg
    by_cases hx : xd = d ∧ xn = n ∧ xf = f ∧ xt = e
    · rw [decide_eq_true hx] at he
      obtain ⟨e1, e2, e3, e4⟩ := hx
      rw [e1, e2, e3, e4] at he hno
      rw [e1] at d0
      rw [e2] at d1
      rw [e3] at d2
      rw [e4] at d3
      clear e1 e2 e3 e4
      by_cases h0 : f < 0
      · have q0 : decide (f < 0) = true := decide_eq_true h0
        clear hno h0
        go_enter Tryd.func40, Tryd.ntmps40
        go_upto_region 1 with fail
        generalize W.alloc (.cells (enI d n f e) 83) = w1 at *
        go_quiet (fail)
        go_wp2_with fail
        go_ret
        exact ⟨rfl, below_drN hB0.out _⟩
      have q0 : decide (f < 0) = false := decide_eq_false h0
      by_cases h1 : e < f
      · have q1 : decide (e < f) = true := decide_eq_true h1
        clear hno h0 h1
        go_enter Tryd.func40, Tryd.ntmps40
        go_upto_region 1 with fail
        generalize W.alloc (.cells (enI d n f e) 83) = w1 at *
        go_quiet (fail)
        go_wp2_with fail
        go_ret
        exact ⟨rfl, below_drN hB0.out _⟩
      have q1 : decide (e < f) = false := decide_eq_false h1
      have q2 : decide ((w.length : Int) < e) = true := by
        rw [decide_eq_true_iff]
        rcases Int.lt_or_le (w.length : Int) e with h | h
        · exact h
        · exact absurd ⟨hlt, rfl, by omega, by omega, h⟩ hno
      clear hno h0 h1
      go_enter Tryd.func40, Tryd.ntmps40
      go_upto_region 1 with fail
      generalize W.alloc (.cells (enI d n f e) 83) = w1 at *
      go_quiet (fail)
      go_wp2_with fail
      go_ret
      exact ⟨rfl, below_drN hB0.out _⟩
    · rw [decide_eq_false hx] at he
      clear hno hx
      go_enter Tryd.func40, Tryd.ntmps40
      go_upto_region 1 with fail
      generalize W.alloc (.cells (enI d n f e) 83) = w1 at *
      go_quiet (fail)
      go_wp2_with fail
      go_ret
      exact ⟨rfl, below_drN hB0.out _⟩
  · have hd : decide ((i : Int) < (t.length : Int)) = false := by rw [decide_eq_false_iff_not]; omega
    have hd2 : decide (i < t.length) = false := by rw [decide_eq_false_iff_not]; omega
    have hd3 : decide (t.length ≤ i) = true := by rw [decide_eq_true_iff]; omega
    clear hR hno hE
    go_enter Tryd.func40, Tryd.ntmps40
    go_upto_region 1 with fail
    generalize W.alloc (.cells (enI d n f e) 83) = w1 at *
    go_quiet (fail)
    go_wp2_with fail
    go_ret
    exact ⟨rfl, below_drN hB0.out _⟩
end Go.Proofs.YtdpkhliojbeglaaDoor

/- Runs: a set's runs, as the program tells them. -/
namespace Go.Proofs.YtdpkhliojbeglaaDoor
open Go.RowKit Go.Shelf BS
attribute [local go_sem] Oper.semAt_some

/-- One byte more: the last run grows, or a new one begins. -/
def runStep (rs : List (Nat × Nat)) (x : Nat) : List (Nat × Nat) :=
  match rs.getLast? with
  | some (a, b) => if (b + 1) % 256 = x then rs.dropLast ++ [(a, x)] else rs ++ [(x, x)]
  | none => [(x, x)]
def runsOf (l : List Nat) : List (Nat × Nat) := l.foldl runStep []
theorem runsOf_snoc (l : List Nat) (x : Nat) : runsOf (l ++ [x]) = runStep (runsOf l) x := by simp [runsOf]

theorem info2b : (Tryd.prog.info? 116).map (fun i => (i.zero, i.size, i.bytes)) = some (some (.agg #[.int .u8 0, .int .u8 0]), 2, 2) := by kernel_rfl

/-- The cells of a list of runs. -/
def runCells (rs : List (Nat × Nat)) : List Value := rs.flatMap fun r => [Value.int .u8 (r.1 : Int), Value.int .u8 (r.2 : Int)]

theorem runCells_len (rs : List (Nat × Nat)) : (runCells rs).length = rs.length * 2 := by
  induction rs with
  | nil => rfl
  | cons r rs ih => simp only [runCells, List.flatMap_cons, List.length_append, List.length_cons, List.length_nil] at ih ⊢; omega
theorem runCells_snoc (rs : List (Nat × Nat)) (a b : Nat) : runCells (rs ++ [(a, b)]) = runCells rs ++ [.int .u8 (a : Int), .int .u8 (b : Int)] := by simp [runCells]
theorem runCells_last (rs : List (Nat × Nat)) (a b : Nat) : (runCells (rs ++ [(a, b)]))[rs.length * 2 + 1]? = some (.int .u8 (b : Int)) := by
  rw [runCells_snoc, List.getElem?_append_right (by rw [runCells_len]; omega), runCells_len]
  simp
theorem runCells_set (rs : List (Nat × Nat)) (a b x : Nat) : (runCells (rs ++ [(a, b)])).set (rs.length * 2 + 1) (.int .u8 (x : Int)) = runCells (rs ++ [(a, x)]) := by
  rw [runCells_snoc, runCells_snoc, List.set_append_right _ _ (by rw [runCells_len]; omega), runCells_len]
  simp
theorem nil_or_snoc (rs : List (Nat × Nat)) : rs = [] ∨ ∃ rs' a b, rs = rs' ++ [(a, b)] := by
  rcases List.eq_nil_or_concat rs with h | ⟨rs', ⟨a, b⟩, h⟩
  · exact .inl h
  · exact .inr ⟨rs', a, b, by rw [h, List.concat_eq_append]⟩
theorem runStep_len (rs : List (Nat × Nat)) (x : Nat) : (runStep rs x).length ≤ rs.length + 1 := by
  unfold runStep
  split
  · split <;> simp
  · simp
theorem runsOf_len (l : List Nat) : (runsOf l).length ≤ l.length := by
  suffices h : ∀ l rs, (List.foldl runStep rs l).length ≤ rs.length + l.length by simpa [runsOf] using h l []
  intro l
  induction l with
  | nil => intro rs; simp
  | cons x l ih => intro rs; have := ih (runStep rs x); have := runStep_len rs x; simp only [List.foldl_cons, List.length_cons]; omega
theorem runStep_none (x : Nat) : runStep [] x = [(x, x)] := rfl
theorem runStep_grow (rs : List (Nat × Nat)) (a b x : Nat) (h : (b + 1) % 256 = x) : runStep (rs ++ [(a, b)]) x = rs ++ [(a, x)] := by simp [runStep, h]
theorem runStep_new (rs : List (Nat × Nat)) (a b x : Nat) (h : (b + 1) % 256 ≠ x) : runStep (rs ++ [(a, b)]) x = rs ++ [(a, b)] ++ [(x, x)] := by simp [runStep, h]

theorem Blk.news2 {W : World} {B : Nat} {a b : Value} {t : TypeId} (h : Blk W B #[a, b] t) : ∀ j u, [a, b][j]? = some u → W.cell? ((⟨B, 0, none⟩ : Addr).add j) = some u := by
  intro j u hu
  rw [Addr.add_mid]
  rw [Nat.zero_add, h.cell j]
  simpa using hu

set_option maxRecDepth 100000 in
set_option maxHeartbeats 2000000 in
theorem runs_in (n : Nat) (hn : 3 ≤ n) (s : BitVec 256) (w : World) (hT : Tab w) (hg : 0 < w.heap.size) :
    CallsIn Fence.wide n Tryd.prog 59 #[setV s] w fun e W' => ∃ v, e = .returned v ∧ W'.ownsRow w.heap.size 116 2 v (runsOf (el s.getLsbD 256)).length (runCells (runsOf (el s.getLsbD 256))) ∧ Below w.heap.size w W' := by
  have h1 : 1 ≤ n := by omega
  have HT := Lib.hid hT
  clear hT
  refine callsIn_of_wp_marks Tryd.func59 rfl trivial ?_ rfl
  simp only [Tryd.ntmps59, List.size_toArray, List.length_cons, List.length_nil, Nat.reduceAdd, Nat.reduceSub, Array.replicate_succ, Array.replicate_zero, List.push_toArray, List.append_toArray, List.nil_append, List.cons_append]
  gi_wp2_with (refine ⟨trivial, ?_⟩; gi_at_call 79; refine (all_in (n - 1) _ _).mono ?_; rintro e w' ⟨rfl, rfl⟩)
  obtain ⟨i0, hi, hz0, hz1, hz2⟩ := info_parts info2b
  obtain ⟨w0, hw0⟩ : ∃ w0, ((w.alloc (.cells #[.int .u64 (wd s 0), .int .u64 (wd s 1), .int .u64 (wd s 2), .int .u64 (wd s 3)] 58)).alloc (.cells #[.slice none 0 0] 114)) = w0 := ⟨_, rfl⟩
  have bL : Boxed w0 (w.heap.size + 1) 114 (.slice none 0 0) := by
    rw [← hw0]; have := Boxed.new (w.alloc (.cells (setA s) 58)) 114 (.slice none 0 0); rwa [World.size_alloc] at this
  have hz0' : w0.heap.size = w.heap.size + 2 := by rw [← hw0]; simp
  have hB0 : Below w.heap.size w w0 := by rw [← hw0]; go_grown
  rw [hw0, show w.heap.size + 1 + 1 = w0.heap.size by omega]
  clear hw0
  have hz1' : w.heap.size + 2 ≤ w0.heap.size := by omega
  clear hz0'
  have bN := Blk.new w0 (setA s) 58
  have hB1 : Below w.heap.size w (w0.alloc (.cells (setA s) 58)) := hB0.alloc (by omega) _
  refine wpIn_rangeFunc_ownG rfl h1 (gf := 97) (lb := #[.pointer (some ⟨w0.heap.size, 0, none⟩)]) rfl trivial (enters_of Tryd.func97 (by kernel_rfl) rfl)
    (all_stops (n - 1) (by omega) w0.heap.size s _ (by simp <;> omega) (by simp <;> omega) bN.cells4.1 (HT.out.keep hB1 hg)) KeepA.t (KeepA.b (by simp <;> omega) (by simp <;> omega)) (Below.refl _ _) (fun _ => rfl)
    (fun pre W => ((∃ v, Boxed W (w.heap.size + 1) 114 v ∧ W.ownsRow w.heap.size 116 2 v (runsOf pre).length (runCells (runsOf pre)) ∧ (runsOf pre = [] → v = .slice none 0 0)) ∧ Blk W w0.heap.size (setA s) 58) ∧ Below w.heap.size w W)
    (fun _ _ _ => False)
    (OwnFrom.and (Own.from (fun pre A B row hs hg hr => ⟨holdsRow_own w.heap.size (w.heap.size + 1) 114 116 2 (fun pre => (runsOf pre).length) (fun pre => runCells (runsOf pre)) (fun pre v => runsOf pre = [] → v = .slice none 0 0) pre A B row hs.1 hg hr, hs.2.kept hg (hs.2.not_row hr)⟩) _) (ownFrom_below (Nat.le_refl _) (by simp; omega)))
    (fun _ _ _ _ _ hs _ _ => hs)
    ⟨⟨⟨_, bL.alloc _, World.ownsRow_nil _ _ _ _, fun _ => rfl⟩, bN⟩, hB1⟩
    (fun x => { tmps := #[setV s, .pointer (some ⟨w.heap.size, 0, none⟩), .slice none 0 0, .pointer (some ⟨w.heap.size + 1, 0, none⟩), .int .u8 (x : Nat), undef, setV s,
          .func (.func 97) #[] #[.pointer (some ⟨w0.heap.size, 0, none⟩)], .int .u8 (x : Nat), undef, undef, undef, undef, undef, undef, undef, undef, undef, undef, undef, undef, undef, undef, undef, undef, undef,
          undef, undef, undef, undef, undef, undef, undef, undef, undef, undef], defers := [] }) ?assign ?body ?done ?stop
  case assign =>
    intro l x W K hK
    gi_wp2
    exact hK
  case body =>
    rintro l pre x W ⟨⟨⟨v, hv, hr, hnil⟩, hN⟩, hB⟩ hlen
    have hl := runsOf_len pre
    have hc0 := hv.cell
    have hf0 := hv.frozen
    have HS := Lib.hid (runsOf_snoc pre x)
    generalize runsOf pre = rs at *
    rcases nil_or_snoc rs with rfl | ⟨rs', a, b, rfl⟩
    · obtain rfl : v = .slice none 0 0 := hnil rfl
      clear hnil
      gi_wp2_with (gi_at_builtin; refine wpListIn_append_own _ rfl _ _ 114 rfl w.heap.size 116 i0 (.agg #[.int .u8 0, .int .u8 0]) 2 2 Tryd.underlying114 hi hz0 hz1 hz2 rfl (by decide) _ _ _ rfl (hr.alloc _) ⟨W.heap.size, 0, none⟩ 1 1 [.int .u8 (x : Nat), .int .u8 (x : Nat)] rfl rfl (Blk.new W _ _).news2 (by simp [Value.oneCell']) (by simp [maxLen]) (by simp) (by have := hB.size; simp; omega) ?_; intro v' w1 hown' hgrow _; obtain ⟨g', cap', rfl⟩ := ownsRow_succ hown'; obtain ⟨hv1, hv2, hr2, hk2, hb2⟩ := hv.appended (by decide) hr hB.size (by omega) hown' hgrow; have hN1 := (hN.alloc _).kept hgrow (hN.not_own (by decide) hr); have hc1 := hv1.cell; have hf1 := hv1.frozen)
      refine ⟨hk2.from _, ⟨hk2.size, (hN1.other (by omega) _ _).trans hN.symm, hb2.block _ hg⟩, ⟨⟨_, hv2, ?_, ?_⟩, hN1.other (by omega) _ _⟩, hB.trans hb2⟩
      · rw [HS.out]; exact hr2
      · intro h; rw [HS.out] at h; cases h
    · have hln : (rs' ++ [(a, b)]).length = rs'.length + 1 := by simp
      rw [hln] at hr hl
      clear hnil hln
      obtain ⟨g, cap, rfl⟩ := ownsRow_succ hr
      have hcl := (hr.cellAt (rs'.length * 2 + 1) (by omega)).trans (runCells_last rs' a b)
      have hfl := hr.frozenAt (rs'.length * 2 + 1)
      have hgB : g ≠ w.heap.size + 1 := fun e => hv.not_row (by decide) hr (by rw [e]; rfl)
      have hgN : g ≠ w0.heap.size := fun e => hN.not_own (by decide) hr (by rw [e]; rfl)
      have hglt : w.heap.size ≤ g := (hr.lt g rfl).1
      by_cases hbx : (b + 1) % 256 = x
      · have HX := Lib.hid hbx
        have ht : (((b + 1 : Nat) : Int) % 256 == (x : Int)) = true := by rw [beq_iff_eq]; omega
        clear hbx
        gi_wp2
        have hb2 := below_set (Below.refl w.heap.size W) hglt (rs'.length * 2 + 1) (.int .u8 (x : Int))
        refine ⟨(KeepsOthers.setCell _ _ _).from _, ⟨hb2.size, (hN.other (Ne.symm hgN) _ _).trans hN.symm, hb2.block _ hg⟩, ⟨⟨_, Blk.other (vs := #[_]) hv (Ne.symm hgB) _ _, ?_, ?_⟩, hN.other (Ne.symm hgN) _ _⟩, hB.trans hb2⟩
        · rw [HS.out, runStep_grow _ _ _ _ HX.out, ← runCells_set rs' a b x]
          simpa using (hr.stored (rs'.length * 2 + 1) (.int .u8 (x : Int))).1
        · intro h; rw [HS.out, runStep_grow _ _ _ _ HX.out] at h; simp at h
      · have HX := Lib.hid hbx
        have ht : (((b + 1 : Nat) : Int) % 256 == (x : Int)) = false := by rw [beq_eq_false_iff_ne]; omega
        clear hbx
        gi_wp2_with (gi_at_builtin; refine wpListIn_append_own _ rfl _ _ 114 rfl w.heap.size 116 i0 (.agg #[.int .u8 0, .int .u8 0]) 2 2 Tryd.underlying114 hi hz0 hz1 hz2 rfl (by decide) _ _ _ rfl (hr.alloc _) ⟨W.heap.size, 0, none⟩ 1 1 [.int .u8 (x : Nat), .int .u8 (x : Nat)] rfl rfl (Blk.new W _ _).news2 (by simp [Value.oneCell']) (by unfold maxLen; omega) (by omega) (by have := hB.size; simp; omega) ?_; intro v' w1 hown' hgrow _; obtain ⟨g', cap', rfl⟩ := ownsRow_succ hown'; obtain ⟨hv1, hv2, hr2, hk2, hb2⟩ := hv.appended (by decide) hr hB.size (by omega) hown' hgrow; have hN1 := (hN.alloc _).kept hgrow (hN.not_own (by decide) hr); have hc1 := hv1.cell; have hf1 := hv1.frozen)
        refine ⟨hk2.from _, ⟨hk2.size, (hN1.other (by omega) _ _).trans hN.symm, hb2.block _ hg⟩, ⟨⟨_, hv2, ?_, ?_⟩, hN1.other (by omega) _ _⟩, hB.trans hb2⟩
        · rw [HS.out, runStep_new _ _ _ _ HX.out, runCells_snoc]
          simpa using hr2
        · intro h; rw [HS.out, runStep_new _ _ _ _ HX.out] at h; simp at h
  case done =>
    rintro D ys W hD rfl ⟨⟨⟨v, hv, hr, _⟩, hN⟩, hB⟩ hK
    have hc0 := hv.cell
    gi_wp2
    refine ⟨by simp, .inl ⟨_, _, rfl, run_takeDeferred hK, ?_⟩⟩
    exact ⟨_, results_tmp rfl _ _ _, v, rfl, ownsRow_putObj hr _ hK rfl, hB.trans (belowK_b (w := w) (Nat.le_refl _) _ D _ _ (by simp at hD; omega) hK rfl rfl)⟩
  case stop =>
    rintro D c pre W _ _ h _
    exact h.elim
end Go.Proofs.YtdpkhliojbeglaaDoor

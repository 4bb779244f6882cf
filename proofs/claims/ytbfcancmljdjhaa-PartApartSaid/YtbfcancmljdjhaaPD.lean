/- Texts put together: St Su Bk Sv Ra Ab Zg Ac Bl. -/
import Derived.RangeFuncNested
import Derived.RangeFuncBound
import Derived.RangeFuncCalls
import Derived.RangeFuncLeaves
import Derived.Shelf.Abstract
import Derived.Shelf.RegionOpen
import Derived.WalkKit
import Derived.OwnWalkIn
import Derived.TacticsInMore
import Derived.LoopNIn
import Derived.LoopIn
import Derived.Test.YtbfcancmljdjhaaPB
import Derived.RangeFuncBox
import Derived.RangeFuncFrom
import Derived.Laws.Rows
import Derived.Test.YtbfcancmljdjhaaChecked
import Derived.Test.YtbfcancmljdjhaaPA
import Derived.WalkLawsBesides
import Derived.LoopTactic
import Derived.Lib.Hide
import Derived.Handy
import Derived.IntWalk
import Derived.Laws.Tables
import Derived.Laws.CopyOwn
import Derived.Deep.Draws
/- All: the iterator over a set's bytes. -/
namespace Go.Proofs.Ytbfcancmljdjhaa
open Go.RowKit Go.Shelf BS
attribute [local go_sem] Oper.semAt_some

/-- The numbers below k of which f says yes, ascending. -/
def el (f : Nat → Bool) (k : Nat) : List Nat := (List.range k).filter f
theorem el_zero (f : Nat → Bool) : el f 0 = [] := rfl
theorem el_succ (f : Nat → Bool) (k : Nat) : el f (k + 1) = el f k ++ if f k then [k] else [] := by
  unfold el; rw [List.range_succ, List.filter_append]; cases h : f k <;> simp [h]
theorem el_skip (f : Nat → Bool) {k j : Nat} (h : k ≤ j) (hf : ∀ i, k ≤ i → i < j → f i = false) : el f j = el f k := by
  induction j with
  | zero => rw [show k = 0 by omega]
  | succ j ih =>
    by_cases hk : k = j + 1
    · rw [hk]
    · rw [el_succ, hf j (by omega) (by omega), ih (by omega) (fun i h1 h2 => hf i h1 (by omega))]; simp
theorem el_len (f : Nat → Bool) (k : Nat) : (el f k).length ≤ k := by
  have := List.length_filter_le f (List.range k); simpa [el] using this

theorem nextOf_cases (f : Nat → Bool) (k : Nat) : (nextOf f k = -1 ∧ ∀ j, k ≤ j → j < 256 → f j = false) ∨ (∃ j : Nat, nextOf f k = j ∧ k ≤ j ∧ j < 256 ∧ f j = true ∧ ∀ i, k ≤ i → i < j → f i = false) := by
  by_cases h : ∃ j, k ≤ j ∧ j < 256 ∧ f j = true ∧ ∀ i, k ≤ i → i < j → f i = false
  · obtain ⟨j, h1, h2, h3, h4⟩ := h
    exact .inr ⟨j, nextOf_eq h2 h1 h3 h4, h1, h2, h3, h4⟩
  · have key : ∀ j, k ≤ j → j < 256 → f j = false := by
      intro j
      induction j using Nat.strongRecOn with
      | ind j ih =>
        intro h1 h2
        cases hf : f j with
        | false => rfl
        | true => exact absurd ⟨j, h1, h2, hf, fun i hi hij => ih i hij hi (by omega)⟩ h
    exact .inl ⟨nextOf_none key, key⟩

/-- The box Bs holds the set s. -/
def SetAt (Bs : Nat) (s : BitVec 256) (W : World) : Prop := W.cell? ⟨Bs, 0, none⟩ = some (.int .u64 (wd s 0)) ∧ W.cell? ⟨Bs, 1, none⟩ = some (.int .u64 (wd s 1)) ∧ W.cell? ⟨Bs, 2, none⟩ = some (.int .u64 (wd s 2)) ∧ W.cell? ⟨Bs, 3, none⟩ = some (.int .u64 (wd s 3))
theorem SetAt.keep {Bs B : Nat} {s : BitVec 256} {w w' : World} (h : SetAt Bs s w) (hb : Below B w w') (hB : Bs < B) : SetAt Bs s w' :=
  ⟨(hb.cell (p := ⟨Bs, 0, none⟩) hB).trans h.1, (hb.cell (p := ⟨Bs, 1, none⟩) hB).trans h.2.1, (hb.cell (p := ⟨Bs, 2, none⟩) hB).trans h.2.2.1, (hb.cell (p := ⟨Bs, 3, none⟩) hB).trans h.2.2.2⟩

end Go.Proofs.Ytbfcancmljdjhaa

/- slices.Values over bytes, and With. -/
namespace Go.Proofs.Ytbfcancmljdjhaa
open Go.RowKit Go.Shelf BS
attribute [local go_sem] Oper.semAt_some

/-- A slice of bytes that lies below n₀. -/
def BytesAt (n₀ : Nat) (W : World) (v : Value) (l : List (Fin 256)) : Prop :=
  ∃ (a : Option Addr) (cap : Nat), v = .slice a l.length cap ∧ (l ≠ [] → ∃ b off, a = some ⟨b, off, none⟩ ∧ b < n₀ ∧ ∀ j (h : j < l.length), W.cell? ⟨b, off + j, none⟩ = some (.int .u8 (l[j].val : Nat)))
theorem BytesAt.keep {n₀ : Nat} {A B : World} {v : Value} {l : List (Fin 256)} (h : BytesAt n₀ A v l) (hb : Below n₀ A B) : BytesAt n₀ B v l := by
  obtain ⟨a, cap, e, h⟩ := h
  refine ⟨a, cap, e, fun hne => ?_⟩
  obtain ⟨b, off, e, hlt, hc⟩ := h hne
  exact ⟨b, off, e, hlt, fun j hj => (hb.cell (p := ⟨b, off + j, none⟩) hlt).trans (hc j hj)⟩

end Go.Proofs.Ytbfcancmljdjhaa

/- A whole block of cells, known by what it holds: kept and written to. Nothing of the program is used. -/
namespace Go.Proofs.Ytbfcancmljdjhaa
open Go.RowKit

def Blk (W : World) (B : Nat) (vs : Array Value) (t : TypeId) : Prop := W.heap[B]? = some (.cells vs t (0, 0))

theorem Blk.lt {W : World} {B : Nat} {vs : Array Value} {t : TypeId} (h : Blk W B vs t) : B < W.heap.size := (Array.getElem?_eq_some_iff.1 h).1
theorem Blk.cell {W : World} {B : Nat} {vs : Array Value} {t : TypeId} (h : Blk W B vs t) (i : Nat) : W.cell? ⟨B, i, none⟩ = vs[i]? := by simp [World.cell?, show W.heap[B]? = _ from h]
theorem Blk.frozen {W : World} {B : Nat} {vs : Array Value} {t : TypeId} (h : Blk W B vs t) (i : Nat) : W.frozen? ⟨B, i, none⟩ = false := by simp [World.frozen?, show W.heap[B]? = _ from h]
theorem Blk.new (W : World) (vs : Array Value) (t : TypeId) : Blk (W.alloc (.cells vs t)) W.heap.size vs t := World.alloc_heap_new W _
theorem Blk.kept {W W' : World} {row : Option Nat} {B : Nat} {vs : Array Value} {t : TypeId} (h : Blk W B vs t) (hg : W.grownBy W' row) (hne : some B ≠ row) : Blk W' B vs t := (hg.block B h.lt hne).trans h
theorem Blk.alloc {W : World} {B : Nat} {vs : Array Value} {t : TypeId} (h : Blk W B vs t) (o : Obj) : Blk (W.alloc o) B vs t := h.kept (World.grownBy_alloc W o none) (by simp)
theorem Blk.drew {W : World} {B : Nat} {vs : Array Value} {t : TypeId} (h : Blk W B vs t) : Blk W.drew B vs t := h
theorem Blk.below {W W' : World} {n B : Nat} {vs : Array Value} {t : TypeId} (h : Blk W B vs t) (hb : Below n W W') (hB : B < n) : Blk W' B vs t := (hb.block B hB).trans h
theorem Blk.set {W : World} {B : Nat} {vs : Array Value} {t : TypeId} (h : Blk W B vs t) (i : Nat) (v : Value) : Blk (W.setCell ⟨B, i, none⟩ v) B (vs.setIfInBounds i v) t := by
  obtain ⟨hlt, hk⟩ := Array.getElem?_eq_some_iff.1 h
  show (W.heap.modify B _)[B]? = _
  rw [Array.getElem?_eq_getElem (by rw [Array.size_modify]; exact hlt), Array.getElem_modify_self, hk]
  rfl
theorem Blk.other {W : World} {B B' : Nat} {vs : Array Value} {t : TypeId} (h : Blk W B vs t) (hne : B ≠ B') (i : Nat) (v : Value) : Blk (W.setCell ⟨B', i, none⟩ v) B vs t :=
  (Below.heap_setCell W ⟨B', i, none⟩ v B hne).trans h
theorem Blk.not_row {W : World} {B : Nat} {vs : Array Value} {t : TypeId} (h : Blk W B vs t) {row : Option Nat} (hr : ∀ r, row = some r → ∃ o : Obj, W.heap[r]? = some o ∧ o.isCells = false) : some B ≠ row := fun e => by
  obtain ⟨o, ho, hc⟩ := hr B e.symm
  rw [show W.heap[B]? = _ from h] at ho; cases ho; cases hc
theorem Blk.not_own {W : World} {B : Nat} {vs : Array Value} {t e : TypeId} (h : Blk W B vs t) (hte : t ≠ e) {base size k : Nat} {v : Value} {xs : List Value} (hr : W.ownsRow base e size v k xs) : some B ≠ v.ownBlock := by
  rcases hr.2 with ⟨rfl, _⟩ | ⟨g, cap, cur, rfl, _, hgb, _⟩
  · simp [Value.ownBlock]
  · intro e'
    obtain rfl : B = g := by simpa [Value.ownBlock] using e'
    have := (show W.heap[B]? = _ from h).symm.trans hgb
    simp at this
    exact hte this.2
theorem Blk.own {β : Type} (B : Nat) (f : β → Array Value) (t : TypeId) : Own (fun s W => Blk W B (f s) t) := fun _ _ _ _ hs hg hr => hs.kept hg (hs.not_row hr)
theorem Blk.putObj {W : World} {B : Nat} {vs : Array Value} {t : TypeId} (h : Blk W B vs t) {l : Nat} {o : Obj} (o' : Obj) (hl : W.heap[l]? = some o) (ho : o.isCells = false) : Blk (W.putObj l o') B vs t :=
  h.kept (grownBy_putObj' W l o') (h.not_row fun r e => by cases e; exact ⟨o, hl, ho⟩)
/-- What the world's first blocks are is kept where only a later block is written to. -/
theorem below_set {n B : Nat} {W W' : World} (hb : Below n W W') (hB : n ≤ B) (i : Nat) (v : Value) : Below n W (W'.setCell ⟨B, i, none⟩ v) := hb.setCell (p := ⟨B, i, none⟩) hB v
end Go.Proofs.Ytbfcancmljdjhaa

/- With: a set with some bytes more. -/
namespace Go.Proofs.Ytbfcancmljdjhaa
open Go.RowKit Go.Shelf BS
attribute [local go_sem] Oper.semAt_some

/-- The set of one number. -/
def one (x : Nat) : BitVec 256 := ofFn fun j => decide (j = x)
def withL (s : BitVec 256) (l : List (Fin 256)) : BitVec 256 := l.foldl (fun t x => t ||| one x.val) s
theorem withL_snoc (s : BitVec 256) (l : List (Fin 256)) (x : Fin 256) : withL s (l ++ [x]) = withL s l ||| one x.val := by simp [withL]

theorem wd_one (x i : Nat) (hi : i < 4) : wd (one x) i = if x / 64 = i then 2 ^ (x % 64) else 0 := by
  apply Nat.eq_of_testBit_eq; intro j
  rw [testBit_wd, one, get_ofFn]
  by_cases h : x / 64 = i
  · rw [if_pos h, Nat.testBit_two_pow]
    by_cases hj : j < 64
    · simp only [hj, show 64 * i + j < 256 by omega, decide_true, Bool.true_and, decide_eq_decide]; omega
    · simp only [hj, decide_false, Bool.false_and]
      symm; rw [decide_eq_false_iff_not]; omega
  · rw [if_neg h, Nat.zero_testBit]
    by_cases hj : j < 64
    · simp only [hj, show 64 * i + j < 256 by omega, decide_true, Bool.true_and, decide_eq_false_iff_not]; omega
    · simp [hj]

theorem or_one_same (t : BitVec 256) (x i : Nat) (hi : i < 4) (h : x / 64 = i) : bits .or .u64 (wd t i : Int) (IntKind.u64.wrap (2 ^ (x % 64))) = (wd (t ||| one x) i : Int) := by
  have h1 : x % 64 < 64 := Nat.mod_lt _ (by decide)
  have h2 : (2 : Nat) ^ (x % 64) < 2 ^ 64 := Nat.pow_lt_pow_right (by decide) h1
  have h3 : ((2 : Int) ^ (x % 64)) = ((2 ^ (x % 64) : Nat) : Int) := by simp
  rw [h3, wrap_u64_nat _ h2, bits_or_nat _ _ (wd_lt _ _) h2, wd_or, wd_one x i hi, if_pos h]
theorem or_one_other (t : BitVec 256) (x i : Nat) (hi : i < 4) (h : x / 64 ≠ i) : wd t i = wd (t ||| one x) i := by
  rw [wd_or, wd_one x i hi, if_neg h, Nat.or_zero]

@[reducible] def setA (s : BitVec 256) : Array Value := #[.int .u64 (wd s 0), .int .u64 (wd s 1), .int .u64 (wd s 2), .int .u64 (wd s 3)]

theorem Blk.cells4 {W : World} {B : Nat} {a b c d : Value} {t : TypeId} (h : Blk W B #[a, b, c, d] t) : (W.cell? ⟨B, 0, none⟩ = some a ∧ W.cell? ⟨B, 1, none⟩ = some b ∧ W.cell? ⟨B, 2, none⟩ = some c ∧ W.cell? ⟨B, 3, none⟩ = some d) ∧
    (W.frozen? ⟨B, 0, none⟩ = false ∧ W.frozen? ⟨B, 1, none⟩ = false ∧ W.frozen? ⟨B, 2, none⟩ = false ∧ W.frozen? ⟨B, 3, none⟩ = false) :=
  ⟨⟨h.cell 0, h.cell 1, h.cell 2, h.cell 3⟩, h.frozen 0, h.frozen 1, h.frozen 2, h.frozen 3⟩

theorem setA_or (t : BitVec 256) (x : Nat) (h0 : x / 64 = 0) : (setA t).setIfInBounds 0 (.int .u64 (bits .or .u64 (wd t 0 : Int) (IntKind.u64.wrap (2 ^ (x % 64))))) = setA (t ||| one x) := by
  rw [or_one_same t x 0 (by decide) h0, setA, setA, ← or_one_other t x 1 (by decide) (by omega), ← or_one_other t x 2 (by decide) (by omega), ← or_one_other t x 3 (by decide) (by omega)]; rfl
theorem setA_or1 (t : BitVec 256) (x : Nat) (h0 : x / 64 = 1) : (setA t).setIfInBounds 1 (.int .u64 (bits .or .u64 (wd t 1 : Int) (IntKind.u64.wrap (2 ^ (x % 64))))) = setA (t ||| one x) := by
  rw [or_one_same t x 1 (by decide) h0, setA, setA, ← or_one_other t x 0 (by decide) (by omega), ← or_one_other t x 2 (by decide) (by omega), ← or_one_other t x 3 (by decide) (by omega)]; rfl
theorem setA_or2 (t : BitVec 256) (x : Nat) (h0 : x / 64 = 2) : (setA t).setIfInBounds 2 (.int .u64 (bits .or .u64 (wd t 2 : Int) (IntKind.u64.wrap (2 ^ (x % 64))))) = setA (t ||| one x) := by
  rw [or_one_same t x 2 (by decide) h0, setA, setA, ← or_one_other t x 0 (by decide) (by omega), ← or_one_other t x 1 (by decide) (by omega), ← or_one_other t x 3 (by decide) (by omega)]; rfl
theorem setA_or3 (t : BitVec 256) (x : Nat) (h0 : x / 64 = 3) : (setA t).setIfInBounds 3 (.int .u64 (bits .or .u64 (wd t 3 : Int) (IntKind.u64.wrap (2 ^ (x % 64))))) = setA (t ||| one x) := by
  rw [or_one_same t x 3 (by decide) h0, setA, setA, ← or_one_other t x 0 (by decide) (by omega), ← or_one_other t x 1 (by decide) (by omega), ← or_one_other t x 2 (by decide) (by omega)]; rfl

end Go.Proofs.Ytbfcancmljdjhaa

/- The document's sets, by the reference's own calls: Has, Of, With. -/
namespace Go.Proofs.Ytbfcancmljdjhaa
open Go.RowKit BS

set_option maxHeartbeats 400000 in
/-- Has. -/
theorem rhas_calls (a : BitVec 256) (x : Int) (w : World) (h0 : 0 ≤ x) (h1 : x < 256) :
    Calls Try.prog 26 #[setV a, .int .i64 x] w fun e w' => e = .returned (.bool (a.getLsbD x.toNat)) ∧ Below w.heap.size w w' := by
  have hx2 : 0 ≤ x % 64 := by omega
  have hx3 : x % 64 < 64 := by omega
  have h4 : x / 64 = 0 ∨ x / 64 = 1 ∨ x / 64 = 2 ∨ x / 64 = 3 := by omega
  rcases h4 with hx | hx | hx | hx
  all_goals
    go_enter Try.func26, Try.ntmps26
    go_wp2
    go_ret
    refine ⟨ret_bool (has_word' a x _ _ ?_ ?_), by go_grown⟩ <;> omega

/-- 256 answers. -/
def Bools (arr : Array Value) (f : Nat → Bool) : Prop := arr.size = 256 ∧ ∀ i, i < 256 → arr[i]? = some (.bool (f i))
theorem Bools.set {arr : Array Value} {f : Nat → Bool} (h : Bools arr f) (i : Nat) (b : Bool) : Bools (arr.setIfInBounds i (.bool b)) (fun j => if j = i then b else f j) := by
  refine ⟨by simpa using h.1, fun j hj => ?_⟩
  by_cases hji : j = i
  · subst hji
    have : j < arr.size := by rw [h.1]; exact hj
    simp [this]
  · rw [Array.getElem?_setIfInBounds_ne (Ne.symm hji), h.2 j hj]; simp [hji]
theorem ofFn_congr {f g : Nat → Bool} (h : ∀ j, j < 256 → f j = g j) : ofFn f = ofFn g := by
  apply BitVec.eq_of_getLsbD_eq; intro j hj
  rw [get_ofFn, get_ofFn, h j hj]

/-- The first k answers, as a set. -/
def pre (f : Nat → Bool) (k : Nat) : BitVec 256 := ofFn fun j => decide (j < k) && f j
theorem pre_true (f : Nat → Bool) (k : Nat) (h : f k = true) : pre f (k + 1) = pre f k ||| one k := by
  apply BitVec.eq_of_getLsbD_eq; intro j hj
  rw [BitVec.getLsbD_or, pre, pre, one, get_ofFn, get_ofFn, get_ofFn]
  simp only [hj, decide_true, Bool.true_and]
  by_cases hjk : j = k
  · subst hjk; simp [h]
  · have : (j < k + 1) ↔ (j < k) := by omega
    simp [this, hjk]
theorem pre_false (f : Nat → Bool) (k : Nat) (h : f k = false) : pre f (k + 1) = pre f k := by
  apply ofFn_congr; intro j hj
  by_cases hjk : j = k
  · subst hjk; simp [h]
  · have : (j < k + 1) ↔ (j < k) := by omega
    simp [this]
theorem pre_all (f : Nat → Bool) : pre f 256 = ofFn f := ofFn_congr fun j hj => by simp [hj]
theorem pre_none (f : Nat → Bool) : pre f 0 = 0 := by
  apply BitVec.eq_of_getLsbD_eq; intro j hj
  rw [pre, get_ofFn]; simp

/-- A set stored into a box of its own. -/
theorem fin4 {w W : World} {n B : Nat} {a b c d : Value} {T : TypeId} (h : Blk W B #[a, b, c, d] T) (hb : Below n w W) (hB : n ≤ B) (t : BitVec 256) :
    Blk ((((W.setCell ⟨B, 0, none⟩ (.int .u64 (wd t 0))).setCell ⟨B, 1, none⟩ (.int .u64 (wd t 1))).setCell ⟨B, 2, none⟩ (.int .u64 (wd t 2))).setCell ⟨B, 3, none⟩ (.int .u64 (wd t 3))) B (setA t) T ∧
    Below n w ((((W.setCell ⟨B, 0, none⟩ (.int .u64 (wd t 0))).setCell ⟨B, 1, none⟩ (.int .u64 (wd t 1))).setCell ⟨B, 2, none⟩ (.int .u64 (wd t 2))).setCell ⟨B, 3, none⟩ (.int .u64 (wd t 3))) :=
  ⟨(((h.set 0 _).set 1 _).set 2 _).set 3 _, below_set (below_set (below_set (below_set hb hB _ _) hB _ _) hB _ _) hB _ _⟩

def SW (w : World) (t : BitVec 256) (W : World) : Prop :=
  (Blk W w.heap.size (setA t) 38 ∧ Blk W (w.heap.size + 1) (setA 0) 38) ∧ Below w.heap.size w W
theorem drew_w {w W : World} {t : BitVec 256} (h : SW w t W) : SW w t W.drew := ⟨⟨h.1.1, h.1.2⟩, h.2.drew⟩
theorem SW.store {w W : World} {t t' : BitVec 256} (h : SW w t W) (i : Nat) (v : Value) (hv : (setA t).setIfInBounds i v = setA t') : SW w t' (W.setCell ⟨w.heap.size, i, none⟩ v) :=
  ⟨⟨by rw [← hv]; exact h.1.1.set i v, h.1.2.other (by omega) _ _⟩, below_set h.2 (by omega) _ _⟩

end Go.Proofs.Ytbfcancmljdjhaa

/- The document's trees: Formed. -/
namespace Go.Proofs.Ytbfcancmljdjhaa
open Go.RowKit BS

structure NdN where
  kind : Int
  kids : Int
  n : Int
  m : Int
  set : BitVec 256
@[reducible] def ndI (k c n m : Int) (t : BitVec 256) : Array Value := #[.int .i64 k, .int .i64 c, .int .i64 n, .int .i64 m, .int .u64 (wd t 0), .int .u64 (wd t 1), .int .u64 (wd t 2), .int .u64 (wd t 3)]
def ndA (x : NdN) : Array Value := ndI x.kind x.kids x.n x.m x.set
/-- A slice of nodes. -/
def NodesAt (l : List NdN) (a : Option Addr) (W : World) : Prop :=
  l ≠ [] → ∃ g off, a = some ⟨g, off, none⟩ ∧ g < W.heap.size ∧ ∀ i (h : i < l.length) j, j < 8 → W.cell? ⟨g, off + i * 8 + j, none⟩ = (ndA l[i])[j]?
theorem NodesAt.below {l : List NdN} {a : Option Addr} {W W' : World} (h : NodesAt l a W) (hb : Below W.heap.size W W') : NodesAt l a W' := fun hne => by
  obtain ⟨g, off, e, hg, hc⟩ := h hne
  exact ⟨g, off, e, Nat.lt_of_lt_of_le hg hb.size, fun i hi j hj => (hb.cell (p := ⟨g, off + i * 8 + j, none⟩) hg).trans (hc i hi j hj)⟩

end Go.Proofs.Ytbfcancmljdjhaa

/- Slices of sets; the document's alike. Stage 13. -/
namespace Go.Proofs.Ytbfcancmljdjhaa
open Go.RowKit BS

/-- A slice of sets. -/
def SetsAt (l : List (BitVec 256)) (a : Option Addr) (W : World) : Prop :=
  l ≠ [] → ∃ g off, a = some ⟨g, off, none⟩ ∧ g < W.heap.size ∧ ∀ i (h : i < l.length) j, j < 4 → W.cell? ⟨g, off + i * 4 + j, none⟩ = (setA l[i])[j]?
theorem SetsAt.below {l : List (BitVec 256)} {a : Option Addr} {W W' : World} (h : SetsAt l a W) (hb : Below W.heap.size W W') : SetsAt l a W' := fun hne => by
  obtain ⟨g, off, e, hg, hc⟩ := h hne
  exact ⟨g, off, e, Nat.lt_of_lt_of_le hg hb.size, fun i hi j hj => (hb.cell (p := ⟨g, off + i * 4 + j, none⟩) hg).trans (hc i hi j hj)⟩
/-- The four cells of a set at a place, and what stands below. -/
def SetS (w : World) (g o : Nat) (s : BitVec 256) (W : World) : Prop :=
  (W.cell? ⟨g, o, none⟩ = some (.int .u64 (wd s 0)) ∧ W.cell? ⟨g, o + 1, none⟩ = some (.int .u64 (wd s 1)) ∧ W.cell? ⟨g, o + 2, none⟩ = some (.int .u64 (wd s 2)) ∧ W.cell? ⟨g, o + 3, none⟩ = some (.int .u64 (wd s 3))) ∧ g < W.heap.size ∧ Below w.heap.size w W
theorem SetS.keep {w : World} {g o : Nat} {s : BitVec 256} {W W' : World} (h : SetS w g o s W) (hb : Below W.heap.size W W') : SetS w g o s W' := by
  obtain ⟨⟨c0, c1, c2, c3⟩, hg, hB⟩ := h
  exact ⟨⟨(hb.cell (p := ⟨g, o, none⟩) hg).trans c0, (hb.cell (p := ⟨g, o + 1, none⟩) hg).trans c1, (hb.cell (p := ⟨g, o + 2, none⟩) hg).trans c2, (hb.cell (p := ⟨g, o + 3, none⟩) hg).trans c3⟩, Nat.lt_of_lt_of_le hg hb.size, hB.trans (hb.mono hB.size)⟩
theorem SetS.drew {w : World} {g o : Nat} {s : BitVec 256} {W : World} (h : SetS w g o s W) : SetS w g o s W.drew := ⟨h.1, h.2.1, h.2.2.drew⟩
theorem SetsAt.s {l : List (BitVec 256)} {g off : Nat} {W : World} (hg : g < W.heap.size) (hc : ∀ i (h : i < l.length) j, j < 4 → W.cell? ⟨g, off + i * 4 + j, none⟩ = (setA l[i])[j]?) (i : Nat) (hi : i < l.length) {w : World} (hB : Below w.heap.size w W) : SetS w g (off + i * 4) l[i] W :=
  ⟨⟨hc i hi 0 (by decide), hc i hi 1 (by decide), hc i hi 2 (by decide), hc i hi 3 (by decide)⟩, hg, hB⟩
theorem rhasS (a : BitVec 256) (x : Nat) (w : World) (hx : x < 256) : Calls Try.prog 26 #[setV a, .int .i64 x] w fun e w' => e = .returned (.bool (a.getLsbD x)) ∧ Below w.heap.size w w' := by
  have h := rhas_calls a x w (by omega) (by omega)
  rw [Int.toNat_natCast] at h; exact h
theorem al_take_succ (l : List (BitVec 256)) (x y i : Nat) (hi : i < l.length) : alE (l.take (i + 1)) x y = (alE (l.take i) x y && (l[i].getLsbD x == l[i].getLsbD y)) := by
  unfold alE
  rw [List.take_succ_eq_append_getElem hi, List.all_append]
  simp
theorem al_not (l : List (BitVec 256)) (x y i : Nat) (hi : i < l.length) (h : (l[i].getLsbD x == l[i].getLsbD y) = false) : alE l x y = false := by
  rw [Bool.eq_false_iff]
  intro hh
  unfold alE at hh
  rw [List.all_eq_true] at hh
  have := hh l[i] (List.getElem_mem hi)
  rw [h] at this
  cases this
set_option maxRecDepth 100000 in
set_option maxHeartbeats 8000000 in
theorem alike_calls (l : List (BitVec 256)) (hl : l.length ≤ 1000000) (x y : Nat) (hx : x < 256) (hy : y < 256) (a : Option Addr) (cap : Nat) (w : World) (h : SetsAt l a w) :
    Calls Try.prog 20 #[.slice a l.length cap, .int .i64 x, .int .i64 y] w fun e w' => e = .returned (.bool (alE l x y)) ∧ Below w.heap.size w w' := by
  have HN := Lib.hid h
  clear h
  go_enter Try.func20, Try.ntmps20
  go_wp2_with fail
  go_loopw [7] (fun vi wr => ∃ i : Nat, i ≤ l.length ∧ vi = .int .i64 i ∧ alE (l.take i) x y = true ∧ Below w.heap.size w wr) (fun vi _ => l.length - (intOf vi).toNat)
  case atStart => exact ⟨0, Nat.zero_le _, rfl, by rw [List.take_zero]; rfl, Below.refl _ _⟩
  case round =>
    obtain ⟨i, hi, rfl, hal, hB⟩ := hrel
    by_cases hlt : i < l.length
    · have hii : (i : Int) < (l.length : Int) := by omega
      have hd : decide (i < l.length) = true := by rw [decide_eq_true_iff]; omega
      have hdI : decide ((i : Int) < (l.length : Int)) = true := by rw [decide_eq_true_iff]; omega
      have xi : IntKind.i64.wrap ((i : Int) + 1) = (i : Int) + 1 := IntWalk.i64_in _ (by omega)
      obtain ⟨g, off, rfl, hg, hc⟩ := (HN.out.below hB) (by rintro rfl; simp at hlt)
      have HS := Lib.hid (SetsAt.s hg hc i hlt hB)
      have HSU := Lib.hid (al_take_succ l x y i hlt)
      have HNO := Lib.hid (al_not l x y i hlt)
      have HAL := Lib.hid hal
      clear hc hg hal hB
      generalize l[i] = s at *
      obtain ⟨u, q_x⟩ : ∃ u, s.getLsbD x = u := ⟨_, rfl⟩
      obtain ⟨v, q_y⟩ : ∃ v, s.getLsbD y = v := ⟨_, rfl⟩
      rw [q_x, q_y] at HSU HNO
      cases u <;> cases v
      · have qx := q_x
        have qy := q_y
        clear q_x q_y
        go_upto_region 4 with fail
        refine region_steps (S := SetS w g (off + i * 4) s) (by kernel_rfl) (SetS.drew HS.out) ?_
        simp only [List.size_toArray, List.length_cons, List.length_nil, Nat.reduceAdd, Array.replicate_succ, Array.replicate_zero, List.push_toArray, List.nil_append, List.cons_append]
        refine AnyS.stepE (i := 0) (d := some 14) rfl rfl (by kernel_rfl) (by kernel_rfl) (by kernel_rfl) ?_
        apply Exists.intro
        apply And.intro
        · apply StepsIf.yield
          · kernel_rfl
          intro w' hS
          clear hS; go_simp
          rfl
        intro a' ha'
        simp only [Act.put, List.setIfInBounds_toArray, List.set_cons_zero, List.set_cons_succ] at ha'
        subst ha'
        refine AnyS.stepE (i := 1) (d := some 15) rfl rfl (by kernel_rfl) (by kernel_rfl) (by kernel_rfl) ?_
        apply Exists.intro
        apply And.intro
        · apply StepsIf.yield
          · kernel_rfl
          intro w' hS
          clear hS; go_simp
          rfl
        intro a' ha'
        simp only [Act.put, List.setIfInBounds_toArray, List.set_cons_zero, List.set_cons_succ] at ha'
        subst ha'
        refine AnyS.stepE (i := 2) (d := some 16) rfl rfl (by kernel_rfl) (by kernel_rfl) (by kernel_rfl) ?_
        apply Exists.intro
        apply And.intro
        · apply StepsIf.yield
          · kernel_rfl
          intro w' hS
          clear hS; go_simp
          rfl
        intro a' ha'
        simp only [Act.put, List.setIfInBounds_toArray, List.set_cons_zero, List.set_cons_succ] at ha'
        subst ha'
        refine AnyS.next (i := 3) (d := some 17) (v := setV s) rfl rfl (by kernel_rfl) (by kernel_rfl) (by kernel_rfl) (StepsIf.yield (by kernel_rfl) (fun w' hS => by obtain ⟨c0, c1, c2, c3⟩ := hS.1; clear hS; go_simp)) ?_
        intro a' ha'
        simp only [Act.put, List.setIfInBounds_toArray, List.set_cons_zero, List.set_cons_succ] at ha'
        subst ha'
        refine AnyS.stepE (i := 4) (d := some 18) rfl rfl (by kernel_rfl) (by kernel_rfl) (by kernel_rfl) ?_
        apply Exists.intro
        apply And.intro
        · apply StepsIf.yield
          · kernel_rfl
          intro w' hS
          clear hS; go_simp
          rfl
        intro a' ha'
        simp only [Act.put, List.setIfInBounds_toArray, List.set_cons_zero, List.set_cons_succ] at ha'
        subst ha'
        refine AnyS.next (i := 5) (d := some 19) (v := .bool false) rfl rfl (by kernel_rfl) (by kernel_rfl) (by kernel_rfl) (StepsIf.call (by kernel_rfl) (fun w' hS => by clear hS; go_simp) (fun w' hS => (rhasS s x w' (by omega)).mono fun e w'' hh => ⟨by rw [hh.1, qx], SetS.keep hS hh.2⟩)) ?_
        intro a' ha'
        simp only [Act.put, List.setIfInBounds_toArray, List.set_cons_zero, List.set_cons_succ] at ha'
        subst ha'
        refine AnyS.stepE (i := 6) (d := some 20) rfl rfl (by kernel_rfl) (by kernel_rfl) (by kernel_rfl) ?_
        apply Exists.intro
        apply And.intro
        · apply StepsIf.yield
          · kernel_rfl
          intro w' hS
          clear hS; go_simp
          rfl
        intro a' ha'
        simp only [Act.put, List.setIfInBounds_toArray, List.set_cons_zero, List.set_cons_succ] at ha'
        subst ha'
        refine AnyS.stepE (i := 7) (d := some 21) rfl rfl (by kernel_rfl) (by kernel_rfl) (by kernel_rfl) ?_
        apply Exists.intro
        apply And.intro
        · apply StepsIf.yield
          · kernel_rfl
          intro w' hS
          clear hS; go_simp
          rfl
        intro a' ha'
        simp only [Act.put, List.setIfInBounds_toArray, List.set_cons_zero, List.set_cons_succ] at ha'
        subst ha'
        refine AnyS.stepE (i := 8) (d := some 22) rfl rfl (by kernel_rfl) (by kernel_rfl) (by kernel_rfl) ?_
        apply Exists.intro
        apply And.intro
        · apply StepsIf.yield
          · kernel_rfl
          intro w' hS
          clear hS; go_simp
          rfl
        intro a' ha'
        simp only [Act.put, List.setIfInBounds_toArray, List.set_cons_zero, List.set_cons_succ] at ha'
        subst ha'
        refine AnyS.next (i := 9) (d := some 23) (v := setV s) rfl rfl (by kernel_rfl) (by kernel_rfl) (by kernel_rfl) (StepsIf.yield (by kernel_rfl) (fun w' hS => by obtain ⟨c0, c1, c2, c3⟩ := hS.1; clear hS; go_simp)) ?_
        intro a' ha'
        simp only [Act.put, List.setIfInBounds_toArray, List.set_cons_zero, List.set_cons_succ] at ha'
        subst ha'
        refine AnyS.stepE (i := 10) (d := some 24) rfl rfl (by kernel_rfl) (by kernel_rfl) (by kernel_rfl) ?_
        apply Exists.intro
        apply And.intro
        · apply StepsIf.yield
          · kernel_rfl
          intro w' hS
          clear hS; go_simp
          rfl
        intro a' ha'
        simp only [Act.put, List.setIfInBounds_toArray, List.set_cons_zero, List.set_cons_succ] at ha'
        subst ha'
        refine AnyS.next (i := 11) (d := some 25) (v := .bool false) rfl rfl (by kernel_rfl) (by kernel_rfl) (by kernel_rfl) (StepsIf.call (by kernel_rfl) (fun w' hS => by clear hS; go_simp) (fun w' hS => (rhasS s y w' (by omega)).mono fun e w'' hh => ⟨by rw [hh.1, qy], SetS.keep hS hh.2⟩)) ?_
        intro a' ha'
        simp only [Act.put, List.setIfInBounds_toArray, List.set_cons_zero, List.set_cons_succ] at ha'
        subst ha'
        refine AnyS.stepE (i := 12) (d := some 26) rfl rfl (by kernel_rfl) (by kernel_rfl) (by kernel_rfl) ?_
        apply Exists.intro
        apply And.intro
        · apply StepsIf.yield
          · kernel_rfl
          intro w' hS
          clear hS; go_simp
          rfl
        intro a' ha'
        simp only [Act.put, List.setIfInBounds_toArray, List.set_cons_zero, List.set_cons_succ] at ha'
        subst ha'
        refine AnyS.done (by kernel_rfl) ?_ _
        intro w1 h1
        have HB1 := Lib.hid h1.2.2
        clear h1 HS
        go_wp2_with fail
        go_roundw
        case rel => exact ⟨i + 1, by omega, by simp, by rw [HSU.out, HAL.out]; rfl, HB1.out⟩
        case measure => simp [intOf]; omega
      · have qx := q_x
        have qy := q_y
        clear q_x q_y
        go_upto_region 4 with fail
        refine region_steps (S := SetS w g (off + i * 4) s) (by kernel_rfl) (SetS.drew HS.out) ?_
        simp only [List.size_toArray, List.length_cons, List.length_nil, Nat.reduceAdd, Array.replicate_succ, Array.replicate_zero, List.push_toArray, List.nil_append, List.cons_append]
        refine AnyS.stepE (i := 0) (d := some 14) rfl rfl (by kernel_rfl) (by kernel_rfl) (by kernel_rfl) ?_
        apply Exists.intro
        apply And.intro
        · apply StepsIf.yield
          · kernel_rfl
          intro w' hS
          clear hS; go_simp
          rfl
        intro a' ha'
        simp only [Act.put, List.setIfInBounds_toArray, List.set_cons_zero, List.set_cons_succ] at ha'
        subst ha'
        refine AnyS.stepE (i := 1) (d := some 15) rfl rfl (by kernel_rfl) (by kernel_rfl) (by kernel_rfl) ?_
        apply Exists.intro
        apply And.intro
        · apply StepsIf.yield
          · kernel_rfl
          intro w' hS
          clear hS; go_simp
          rfl
        intro a' ha'
        simp only [Act.put, List.setIfInBounds_toArray, List.set_cons_zero, List.set_cons_succ] at ha'
        subst ha'
        refine AnyS.stepE (i := 2) (d := some 16) rfl rfl (by kernel_rfl) (by kernel_rfl) (by kernel_rfl) ?_
        apply Exists.intro
        apply And.intro
        · apply StepsIf.yield
          · kernel_rfl
          intro w' hS
          clear hS; go_simp
          rfl
        intro a' ha'
        simp only [Act.put, List.setIfInBounds_toArray, List.set_cons_zero, List.set_cons_succ] at ha'
        subst ha'
        refine AnyS.next (i := 3) (d := some 17) (v := setV s) rfl rfl (by kernel_rfl) (by kernel_rfl) (by kernel_rfl) (StepsIf.yield (by kernel_rfl) (fun w' hS => by obtain ⟨c0, c1, c2, c3⟩ := hS.1; clear hS; go_simp)) ?_
        intro a' ha'
        simp only [Act.put, List.setIfInBounds_toArray, List.set_cons_zero, List.set_cons_succ] at ha'
        subst ha'
        refine AnyS.stepE (i := 4) (d := some 18) rfl rfl (by kernel_rfl) (by kernel_rfl) (by kernel_rfl) ?_
        apply Exists.intro
        apply And.intro
        · apply StepsIf.yield
          · kernel_rfl
          intro w' hS
          clear hS; go_simp
          rfl
        intro a' ha'
        simp only [Act.put, List.setIfInBounds_toArray, List.set_cons_zero, List.set_cons_succ] at ha'
        subst ha'
        refine AnyS.next (i := 5) (d := some 19) (v := .bool false) rfl rfl (by kernel_rfl) (by kernel_rfl) (by kernel_rfl) (StepsIf.call (by kernel_rfl) (fun w' hS => by clear hS; go_simp) (fun w' hS => (rhasS s x w' (by omega)).mono fun e w'' hh => ⟨by rw [hh.1, qx], SetS.keep hS hh.2⟩)) ?_
        intro a' ha'
        simp only [Act.put, List.setIfInBounds_toArray, List.set_cons_zero, List.set_cons_succ] at ha'
        subst ha'
        refine AnyS.stepE (i := 6) (d := some 20) rfl rfl (by kernel_rfl) (by kernel_rfl) (by kernel_rfl) ?_
        apply Exists.intro
        apply And.intro
        · apply StepsIf.yield
          · kernel_rfl
          intro w' hS
          clear hS; go_simp
          rfl
        intro a' ha'
        simp only [Act.put, List.setIfInBounds_toArray, List.set_cons_zero, List.set_cons_succ] at ha'
        subst ha'
        refine AnyS.stepE (i := 7) (d := some 21) rfl rfl (by kernel_rfl) (by kernel_rfl) (by kernel_rfl) ?_
        apply Exists.intro
        apply And.intro
        · apply StepsIf.yield
          · kernel_rfl
          intro w' hS
          clear hS; go_simp
          rfl
        intro a' ha'
        simp only [Act.put, List.setIfInBounds_toArray, List.set_cons_zero, List.set_cons_succ] at ha'
        subst ha'
        refine AnyS.stepE (i := 8) (d := some 22) rfl rfl (by kernel_rfl) (by kernel_rfl) (by kernel_rfl) ?_
        apply Exists.intro
        apply And.intro
        · apply StepsIf.yield
          · kernel_rfl
          intro w' hS
          clear hS; go_simp
          rfl
        intro a' ha'
        simp only [Act.put, List.setIfInBounds_toArray, List.set_cons_zero, List.set_cons_succ] at ha'
        subst ha'
        refine AnyS.next (i := 9) (d := some 23) (v := setV s) rfl rfl (by kernel_rfl) (by kernel_rfl) (by kernel_rfl) (StepsIf.yield (by kernel_rfl) (fun w' hS => by obtain ⟨c0, c1, c2, c3⟩ := hS.1; clear hS; go_simp)) ?_
        intro a' ha'
        simp only [Act.put, List.setIfInBounds_toArray, List.set_cons_zero, List.set_cons_succ] at ha'
        subst ha'
        refine AnyS.stepE (i := 10) (d := some 24) rfl rfl (by kernel_rfl) (by kernel_rfl) (by kernel_rfl) ?_
        apply Exists.intro
        apply And.intro
        · apply StepsIf.yield
          · kernel_rfl
          intro w' hS
          clear hS; go_simp
          rfl
        intro a' ha'
        simp only [Act.put, List.setIfInBounds_toArray, List.set_cons_zero, List.set_cons_succ] at ha'
        subst ha'
        refine AnyS.next (i := 11) (d := some 25) (v := .bool true) rfl rfl (by kernel_rfl) (by kernel_rfl) (by kernel_rfl) (StepsIf.call (by kernel_rfl) (fun w' hS => by clear hS; go_simp) (fun w' hS => (rhasS s y w' (by omega)).mono fun e w'' hh => ⟨by rw [hh.1, qy], SetS.keep hS hh.2⟩)) ?_
        intro a' ha'
        simp only [Act.put, List.setIfInBounds_toArray, List.set_cons_zero, List.set_cons_succ] at ha'
        subst ha'
        refine AnyS.stepE (i := 12) (d := some 26) rfl rfl (by kernel_rfl) (by kernel_rfl) (by kernel_rfl) ?_
        apply Exists.intro
        apply And.intro
        · apply StepsIf.yield
          · kernel_rfl
          intro w' hS
          clear hS; go_simp
          rfl
        intro a' ha'
        simp only [Act.put, List.setIfInBounds_toArray, List.set_cons_zero, List.set_cons_succ] at ha'
        subst ha'
        refine AnyS.done (by kernel_rfl) ?_ _
        intro w1 h1
        have HB1 := Lib.hid h1.2.2
        clear h1 HS
        go_wp2_with fail
        go_ret
        exact ⟨by rw [HNO.out rfl] <;> rfl, HB1.out⟩
      · have qx := q_x
        have qy := q_y
        clear q_x q_y
        go_upto_region 4 with fail
        refine region_steps (S := SetS w g (off + i * 4) s) (by kernel_rfl) (SetS.drew HS.out) ?_
        simp only [List.size_toArray, List.length_cons, List.length_nil, Nat.reduceAdd, Array.replicate_succ, Array.replicate_zero, List.push_toArray, List.nil_append, List.cons_append]
        refine AnyS.stepE (i := 0) (d := some 14) rfl rfl (by kernel_rfl) (by kernel_rfl) (by kernel_rfl) ?_
        apply Exists.intro
        apply And.intro
        · apply StepsIf.yield
          · kernel_rfl
          intro w' hS
          clear hS; go_simp
          rfl
        intro a' ha'
        simp only [Act.put, List.setIfInBounds_toArray, List.set_cons_zero, List.set_cons_succ] at ha'
        subst ha'
        refine AnyS.stepE (i := 1) (d := some 15) rfl rfl (by kernel_rfl) (by kernel_rfl) (by kernel_rfl) ?_
        apply Exists.intro
        apply And.intro
        · apply StepsIf.yield
          · kernel_rfl
          intro w' hS
          clear hS; go_simp
          rfl
        intro a' ha'
        simp only [Act.put, List.setIfInBounds_toArray, List.set_cons_zero, List.set_cons_succ] at ha'
        subst ha'
        refine AnyS.stepE (i := 2) (d := some 16) rfl rfl (by kernel_rfl) (by kernel_rfl) (by kernel_rfl) ?_
        apply Exists.intro
        apply And.intro
        · apply StepsIf.yield
          · kernel_rfl
          intro w' hS
          clear hS; go_simp
          rfl
        intro a' ha'
        simp only [Act.put, List.setIfInBounds_toArray, List.set_cons_zero, List.set_cons_succ] at ha'
        subst ha'
        refine AnyS.next (i := 3) (d := some 17) (v := setV s) rfl rfl (by kernel_rfl) (by kernel_rfl) (by kernel_rfl) (StepsIf.yield (by kernel_rfl) (fun w' hS => by obtain ⟨c0, c1, c2, c3⟩ := hS.1; clear hS; go_simp)) ?_
        intro a' ha'
        simp only [Act.put, List.setIfInBounds_toArray, List.set_cons_zero, List.set_cons_succ] at ha'
        subst ha'
        refine AnyS.stepE (i := 4) (d := some 18) rfl rfl (by kernel_rfl) (by kernel_rfl) (by kernel_rfl) ?_
        apply Exists.intro
        apply And.intro
        · apply StepsIf.yield
          · kernel_rfl
          intro w' hS
          clear hS; go_simp
          rfl
        intro a' ha'
        simp only [Act.put, List.setIfInBounds_toArray, List.set_cons_zero, List.set_cons_succ] at ha'
        subst ha'
        refine AnyS.next (i := 5) (d := some 19) (v := .bool true) rfl rfl (by kernel_rfl) (by kernel_rfl) (by kernel_rfl) (StepsIf.call (by kernel_rfl) (fun w' hS => by clear hS; go_simp) (fun w' hS => (rhasS s x w' (by omega)).mono fun e w'' hh => ⟨by rw [hh.1, qx], SetS.keep hS hh.2⟩)) ?_
        intro a' ha'
        simp only [Act.put, List.setIfInBounds_toArray, List.set_cons_zero, List.set_cons_succ] at ha'
        subst ha'
        refine AnyS.stepE (i := 6) (d := some 20) rfl rfl (by kernel_rfl) (by kernel_rfl) (by kernel_rfl) ?_
        apply Exists.intro
        apply And.intro
        · apply StepsIf.yield
          · kernel_rfl
          intro w' hS
          clear hS; go_simp
          rfl
        intro a' ha'
        simp only [Act.put, List.setIfInBounds_toArray, List.set_cons_zero, List.set_cons_succ] at ha'
        subst ha'
        refine AnyS.stepE (i := 7) (d := some 21) rfl rfl (by kernel_rfl) (by kernel_rfl) (by kernel_rfl) ?_
        apply Exists.intro
        apply And.intro
        · apply StepsIf.yield
          · kernel_rfl
          intro w' hS
          clear hS; go_simp
          rfl
        intro a' ha'
        simp only [Act.put, List.setIfInBounds_toArray, List.set_cons_zero, List.set_cons_succ] at ha'
        subst ha'
        refine AnyS.stepE (i := 8) (d := some 22) rfl rfl (by kernel_rfl) (by kernel_rfl) (by kernel_rfl) ?_
        apply Exists.intro
        apply And.intro
        · apply StepsIf.yield
          · kernel_rfl
          intro w' hS
          clear hS; go_simp
          rfl
        intro a' ha'
        simp only [Act.put, List.setIfInBounds_toArray, List.set_cons_zero, List.set_cons_succ] at ha'
        subst ha'
        refine AnyS.next (i := 9) (d := some 23) (v := setV s) rfl rfl (by kernel_rfl) (by kernel_rfl) (by kernel_rfl) (StepsIf.yield (by kernel_rfl) (fun w' hS => by obtain ⟨c0, c1, c2, c3⟩ := hS.1; clear hS; go_simp)) ?_
        intro a' ha'
        simp only [Act.put, List.setIfInBounds_toArray, List.set_cons_zero, List.set_cons_succ] at ha'
        subst ha'
        refine AnyS.stepE (i := 10) (d := some 24) rfl rfl (by kernel_rfl) (by kernel_rfl) (by kernel_rfl) ?_
        apply Exists.intro
        apply And.intro
        · apply StepsIf.yield
          · kernel_rfl
          intro w' hS
          clear hS; go_simp
          rfl
        intro a' ha'
        simp only [Act.put, List.setIfInBounds_toArray, List.set_cons_zero, List.set_cons_succ] at ha'
        subst ha'
        refine AnyS.next (i := 11) (d := some 25) (v := .bool false) rfl rfl (by kernel_rfl) (by kernel_rfl) (by kernel_rfl) (StepsIf.call (by kernel_rfl) (fun w' hS => by clear hS; go_simp) (fun w' hS => (rhasS s y w' (by omega)).mono fun e w'' hh => ⟨by rw [hh.1, qy], SetS.keep hS hh.2⟩)) ?_
        intro a' ha'
        simp only [Act.put, List.setIfInBounds_toArray, List.set_cons_zero, List.set_cons_succ] at ha'
        subst ha'
        refine AnyS.stepE (i := 12) (d := some 26) rfl rfl (by kernel_rfl) (by kernel_rfl) (by kernel_rfl) ?_
        apply Exists.intro
        apply And.intro
        · apply StepsIf.yield
          · kernel_rfl
          intro w' hS
          clear hS; go_simp
          rfl
        intro a' ha'
        simp only [Act.put, List.setIfInBounds_toArray, List.set_cons_zero, List.set_cons_succ] at ha'
        subst ha'
        refine AnyS.done (by kernel_rfl) ?_ _
        intro w1 h1
        have HB1 := Lib.hid h1.2.2
        clear h1 HS
        go_wp2_with fail
        go_ret
        exact ⟨by rw [HNO.out rfl] <;> rfl, HB1.out⟩
      · have qx := q_x
        have qy := q_y
        clear q_x q_y
        go_upto_region 4 with fail
        refine region_steps (S := SetS w g (off + i * 4) s) (by kernel_rfl) (SetS.drew HS.out) ?_
        simp only [List.size_toArray, List.length_cons, List.length_nil, Nat.reduceAdd, Array.replicate_succ, Array.replicate_zero, List.push_toArray, List.nil_append, List.cons_append]
        refine AnyS.stepE (i := 0) (d := some 14) rfl rfl (by kernel_rfl) (by kernel_rfl) (by kernel_rfl) ?_
        apply Exists.intro
        apply And.intro
        · apply StepsIf.yield
          · kernel_rfl
          intro w' hS
          clear hS; go_simp
          rfl
        intro a' ha'
        simp only [Act.put, List.setIfInBounds_toArray, List.set_cons_zero, List.set_cons_succ] at ha'
        subst ha'
        refine AnyS.stepE (i := 1) (d := some 15) rfl rfl (by kernel_rfl) (by kernel_rfl) (by kernel_rfl) ?_
        apply Exists.intro
        apply And.intro
        · apply StepsIf.yield
          · kernel_rfl
          intro w' hS
          clear hS; go_simp
          rfl
        intro a' ha'
        simp only [Act.put, List.setIfInBounds_toArray, List.set_cons_zero, List.set_cons_succ] at ha'
        subst ha'
        refine AnyS.stepE (i := 2) (d := some 16) rfl rfl (by kernel_rfl) (by kernel_rfl) (by kernel_rfl) ?_
        apply Exists.intro
        apply And.intro
        · apply StepsIf.yield
          · kernel_rfl
          intro w' hS
          clear hS; go_simp
          rfl
        intro a' ha'
        simp only [Act.put, List.setIfInBounds_toArray, List.set_cons_zero, List.set_cons_succ] at ha'
        subst ha'
        refine AnyS.next (i := 3) (d := some 17) (v := setV s) rfl rfl (by kernel_rfl) (by kernel_rfl) (by kernel_rfl) (StepsIf.yield (by kernel_rfl) (fun w' hS => by obtain ⟨c0, c1, c2, c3⟩ := hS.1; clear hS; go_simp)) ?_
        intro a' ha'
        simp only [Act.put, List.setIfInBounds_toArray, List.set_cons_zero, List.set_cons_succ] at ha'
        subst ha'
        refine AnyS.stepE (i := 4) (d := some 18) rfl rfl (by kernel_rfl) (by kernel_rfl) (by kernel_rfl) ?_
        apply Exists.intro
        apply And.intro
        · apply StepsIf.yield
          · kernel_rfl
          intro w' hS
          clear hS; go_simp
          rfl
        intro a' ha'
        simp only [Act.put, List.setIfInBounds_toArray, List.set_cons_zero, List.set_cons_succ] at ha'
        subst ha'
        refine AnyS.next (i := 5) (d := some 19) (v := .bool true) rfl rfl (by kernel_rfl) (by kernel_rfl) (by kernel_rfl) (StepsIf.call (by kernel_rfl) (fun w' hS => by clear hS; go_simp) (fun w' hS => (rhasS s x w' (by omega)).mono fun e w'' hh => ⟨by rw [hh.1, qx], SetS.keep hS hh.2⟩)) ?_
        intro a' ha'
        simp only [Act.put, List.setIfInBounds_toArray, List.set_cons_zero, List.set_cons_succ] at ha'
        subst ha'
        refine AnyS.stepE (i := 6) (d := some 20) rfl rfl (by kernel_rfl) (by kernel_rfl) (by kernel_rfl) ?_
        apply Exists.intro
        apply And.intro
        · apply StepsIf.yield
          · kernel_rfl
          intro w' hS
          clear hS; go_simp
          rfl
        intro a' ha'
        simp only [Act.put, List.setIfInBounds_toArray, List.set_cons_zero, List.set_cons_succ] at ha'
        subst ha'
        refine AnyS.stepE (i := 7) (d := some 21) rfl rfl (by kernel_rfl) (by kernel_rfl) (by kernel_rfl) ?_
        apply Exists.intro
        apply And.intro
        · apply StepsIf.yield
          · kernel_rfl
          intro w' hS
          clear hS; go_simp
          rfl
        intro a' ha'
        simp only [Act.put, List.setIfInBounds_toArray, List.set_cons_zero, List.set_cons_succ] at ha'
        subst ha'
        refine AnyS.stepE (i := 8) (d := some 22) rfl rfl (by kernel_rfl) (by kernel_rfl) (by kernel_rfl) ?_
        apply Exists.intro
        apply And.intro
        · apply StepsIf.yield
          · kernel_rfl
          intro w' hS
          clear hS; go_simp
          rfl
        intro a' ha'
        simp only [Act.put, List.setIfInBounds_toArray, List.set_cons_zero, List.set_cons_succ] at ha'
        subst ha'
        refine AnyS.next (i := 9) (d := some 23) (v := setV s) rfl rfl (by kernel_rfl) (by kernel_rfl) (by kernel_rfl) (StepsIf.yield (by kernel_rfl) (fun w' hS => by obtain ⟨c0, c1, c2, c3⟩ := hS.1; clear hS; go_simp)) ?_
        intro a' ha'
        simp only [Act.put, List.setIfInBounds_toArray, List.set_cons_zero, List.set_cons_succ] at ha'
        subst ha'
        refine AnyS.stepE (i := 10) (d := some 24) rfl rfl (by kernel_rfl) (by kernel_rfl) (by kernel_rfl) ?_
        apply Exists.intro
        apply And.intro
        · apply StepsIf.yield
          · kernel_rfl
          intro w' hS
          clear hS; go_simp
          rfl
        intro a' ha'
        simp only [Act.put, List.setIfInBounds_toArray, List.set_cons_zero, List.set_cons_succ] at ha'
        subst ha'
        refine AnyS.next (i := 11) (d := some 25) (v := .bool true) rfl rfl (by kernel_rfl) (by kernel_rfl) (by kernel_rfl) (StepsIf.call (by kernel_rfl) (fun w' hS => by clear hS; go_simp) (fun w' hS => (rhasS s y w' (by omega)).mono fun e w'' hh => ⟨by rw [hh.1, qy], SetS.keep hS hh.2⟩)) ?_
        intro a' ha'
        simp only [Act.put, List.setIfInBounds_toArray, List.set_cons_zero, List.set_cons_succ] at ha'
        subst ha'
        refine AnyS.stepE (i := 12) (d := some 26) rfl rfl (by kernel_rfl) (by kernel_rfl) (by kernel_rfl) ?_
        apply Exists.intro
        apply And.intro
        · apply StepsIf.yield
          · kernel_rfl
          intro w' hS
          clear hS; go_simp
          rfl
        intro a' ha'
        simp only [Act.put, List.setIfInBounds_toArray, List.set_cons_zero, List.set_cons_succ] at ha'
        subst ha'
        refine AnyS.done (by kernel_rfl) ?_ _
        intro w1 h1
        have HB1 := Lib.hid h1.2.2
        clear h1 HS
        go_wp2_with fail
        go_roundw
        case rel => exact ⟨i + 1, by omega, by simp, by rw [HSU.out, HAL.out]; rfl, HB1.out⟩
        case measure => simp [intOf]; omega
    · obtain rfl : i = l.length := by omega
      rw [List.take_length] at hal
      have HAL := Lib.hid hal
      have HB1 := Lib.hid hB
      clear hal hB
      go_wp2_with fail
      go_ret
      exact ⟨by rw [HAL.out] <;> rfl, HB1.out⟩
end Go.Proofs.Ytbfcancmljdjhaa

/- The document's trees: piece, kid; Ints of the same numbers. -/
namespace Go.Proofs.Ytbfcancmljdjhaa
open Go.RowKit BS

/-- A slice of whole numbers. -/
def IntsAt (l : List Int) (a : Option Addr) (W : World) : Prop := l ≠ [] → ∃ g, a = some ⟨g, 0, none⟩ ∧ g < W.heap.size ∧ ∀ i (h : i < l.length), W.cell? ⟨g, i, none⟩ = some (.int .i64 l[i])
theorem IntsAt.below {l : List Int} {a : Option Addr} {W W' : World} (h : IntsAt l a W) (hb : Below W.heap.size W W') : IntsAt l a W' := fun hne => by
  obtain ⟨g, e, hg, hc⟩ := h hne
  exact ⟨g, e, Nat.lt_of_lt_of_le hg hb.size, fun i hi => (hb.cell (p := ⟨g, i, none⟩) hg).trans (hc i hi)⟩
/-- A slice of whole numbers that may begin within its block. -/
def IntsO (l : List Int) (a : Option Addr) (W : World) : Prop := l ≠ [] → ∃ g o, a = some ⟨g, o, none⟩ ∧ g < W.heap.size ∧ ∀ i (h : i < l.length), W.cell? ⟨g, o + i, none⟩ = some (.int .i64 l[i])
theorem IntsO.below {l : List Int} {a : Option Addr} {W W' : World} (h : IntsO l a W) (hb : Below W.heap.size W W') : IntsO l a W' := fun hne => by
  obtain ⟨g, o, e, hg, hc⟩ := h hne
  exact ⟨g, o, e, Nat.lt_of_lt_of_le hg hb.size, fun i hi => (hb.cell (p := ⟨g, o + i, none⟩) hg).trans (hc i hi)⟩
theorem IntsAt.o {l : List Int} {a : Option Addr} {W : World} (h : IntsAt l a W) : IntsO l a W := fun hne => by
  obtain ⟨g, e, hg, hc⟩ := h hne
  exact ⟨g, 0, e, hg, fun i hi => by rw [Nat.zero_add]; exact hc i hi⟩
def SIn (w : World) (g1 o1 g2 o2 i : Nat) (x : Int) (W : World) : Prop := W.cell? ⟨g1, o1 + i, none⟩ = some (.int .i64 x) ∧ W.cell? ⟨g2, o2 + i, none⟩ = some (.int .i64 x) ∧ W = w
set_option maxRecDepth 100000 in
set_option maxHeartbeats 4000000 in
theorem ints_same (l : List Int) (hl : l.length ≤ 1000000) (a b : Option Addr) (c1 c2 : Nat) (w : World) (h1 : IntsO l a w) (h2 : IntsO l b w) :
    Calls Try.prog 12 #[.slice a l.length c1, .slice b l.length c2] w fun e w' => e = .returned (.bool true) ∧ Below w.heap.size w w' := by
  have H1 := Lib.hid h1
  have H2 := Lib.hid h2
  clear h1 h2
  go_enter Try.func12, Try.ntmps12
  go_wp2_with fail
  go_loopw [5] (fun x wr => ∃ i : Nat, i ≤ l.length ∧ x = .int .i64 i ∧ IntsO l a wr ∧ IntsO l b wr ∧ Below w.heap.size w wr) (fun x _ => l.length - (intOf x).toNat)
  case atStart => exact ⟨0, Nat.zero_le _, rfl, H1.out, H2.out, Below.refl _ _⟩
  case round =>
    clear H1 H2
    obtain ⟨i, hi, rfl, h1, h2, hB⟩ := hrel
    by_cases hlt : i < l.length
    · have hne : l ≠ [] := by rintro rfl; simp at hlt
      obtain ⟨g1, o1, rfl, hg1, p1⟩ := h1 hne
      obtain ⟨g2, o2, rfl, hg2, p2⟩ := h2 hne
      have hd : decide ((i : Int) < (l.length : Int)) = true := by rw [decide_eq_true_iff]; omega
      have hd2 : decide (i < l.length) = true := by rw [decide_eq_true_iff]; omega
      have s1 := p1 i hlt
      have s2 := p2 i hlt
      have H1 := Lib.hid h1
      have H2 := Lib.hid h2
      have HB := Lib.hid hB
      clear h1 h2 p1 p2 hg1 hg2 hne hB
      generalize l[i] = x at *
      have h0 : SIn wr.drew g1 o1 g2 o2 i x wr.drew := ⟨s1, s2, rfl⟩
      clear s1 s2
      go_wp2_with fail
      refine region_steps (S := SIn wr.drew g1 o1 g2 o2 i x) (by kernel_rfl) h0 ?_
      clear h0
      simp only [List.size_toArray, List.length_cons, List.length_nil, Nat.reduceAdd, Array.replicate_succ, Array.replicate_zero, List.push_toArray, List.nil_append, List.cons_append]
      refine AnyS.stepE (i := 0) (d := some 17) rfl rfl (by kernel_rfl) (by kernel_rfl) (by kernel_rfl) ?_
      apply Exists.intro
      apply And.intro
      · apply StepsIf.yield
        · kernel_rfl
        intro w' hS
        clear hS; go_simp
        rfl
      intro a' ha'
      simp only [Act.put, List.setIfInBounds_toArray, List.set_cons_zero, List.set_cons_succ] at ha'
      subst ha'
      refine AnyS.stepE (i := 1) (d := some 18) rfl rfl (by kernel_rfl) (by kernel_rfl) (by kernel_rfl) ?_
      apply Exists.intro
      apply And.intro
      · apply StepsIf.yield
        · kernel_rfl
        intro w' hS
        clear hS; go_simp
        rfl
      intro a' ha'
      simp only [Act.put, List.setIfInBounds_toArray, List.set_cons_zero, List.set_cons_succ] at ha'
      subst ha'
      refine AnyS.next (i := 2) (d := some 19) (v := .pointer (some ⟨g1, o1 + i, none⟩)) rfl rfl (by kernel_rfl) (by kernel_rfl) (by kernel_rfl) (StepsIf.yield (by kernel_rfl) (fun w' hS => by clear hS; go_simp)) ?_
      intro a' ha'
      simp only [Act.put, List.setIfInBounds_toArray, List.set_cons_zero, List.set_cons_succ] at ha'
      subst ha'
      refine AnyS.next (i := 3) (d := some 20) (v := .int .i64 x) rfl rfl (by kernel_rfl) (by kernel_rfl) (by kernel_rfl) (StepsIf.yield (by kernel_rfl) (fun w' hS => by have s := hS.1; clear hS; go_simp)) ?_
      intro a' ha'
      simp only [Act.put, List.setIfInBounds_toArray, List.set_cons_zero, List.set_cons_succ] at ha'
      subst ha'
      refine AnyS.stepE (i := 4) (d := some 21) rfl rfl (by kernel_rfl) (by kernel_rfl) (by kernel_rfl) ?_
      apply Exists.intro
      apply And.intro
      · apply StepsIf.yield
        · kernel_rfl
        intro w' hS
        clear hS; go_simp
        rfl
      intro a' ha'
      simp only [Act.put, List.setIfInBounds_toArray, List.set_cons_zero, List.set_cons_succ] at ha'
      subst ha'
      refine AnyS.stepE (i := 5) (d := some 22) rfl rfl (by kernel_rfl) (by kernel_rfl) (by kernel_rfl) ?_
      apply Exists.intro
      apply And.intro
      · apply StepsIf.yield
        · kernel_rfl
        intro w' hS
        clear hS; go_simp
        rfl
      intro a' ha'
      simp only [Act.put, List.setIfInBounds_toArray, List.set_cons_zero, List.set_cons_succ] at ha'
      subst ha'
      refine AnyS.next (i := 6) (d := some 23) (v := .pointer (some ⟨g2, o2 + i, none⟩)) rfl rfl (by kernel_rfl) (by kernel_rfl) (by kernel_rfl) (StepsIf.yield (by kernel_rfl) (fun w' hS => by clear hS; go_simp)) ?_
      intro a' ha'
      simp only [Act.put, List.setIfInBounds_toArray, List.set_cons_zero, List.set_cons_succ] at ha'
      subst ha'
      refine AnyS.next (i := 7) (d := some 24) (v := .int .i64 x) rfl rfl (by kernel_rfl) (by kernel_rfl) (by kernel_rfl) (StepsIf.yield (by kernel_rfl) (fun w' hS => by have s := hS.2.1; clear hS; go_simp)) ?_
      intro a' ha'
      simp only [Act.put, List.setIfInBounds_toArray, List.set_cons_zero, List.set_cons_succ] at ha'
      subst ha'
      refine AnyS.next (i := 8) (d := some 25) (v := .bool false) rfl rfl (by kernel_rfl) (by kernel_rfl) (by kernel_rfl) (StepsIf.yield (by kernel_rfl) (fun w' hS => by clear hS; go_simp)) ?_
      intro a' ha'
      simp only [Act.put, List.setIfInBounds_toArray, List.set_cons_zero, List.set_cons_succ] at ha'
      subst ha'
      refine AnyS.done (by kernel_rfl) (fun w6 hS => ?_) _
      obtain ⟨_, _, rfl⟩ := hS
      go_wp2_with fail
      go_roundw
      case rel => exact ⟨i + 1, by omega, by simp, H1.out, H2.out, HB.out.drew⟩
      case measure => simp [intOf]; omega
    · obtain rfl : i = l.length := by omega
      have hd : decide ((l.length : Int) < (l.length : Int)) = false := by simp
      clear h1 h2
      go_wp2_with fail
      go_ret
      exact ⟨rfl, hB⟩
end Go.Proofs.Ytbfcancmljdjhaa

/- A whole block that is written at once. Nothing of the program is used. -/
namespace Go.Proofs.Ytbfcancmljdjhaa
open Go.RowKit

theorem Blk.setRow {W : World} {B : Nat} {vs cs : Array Value} {t : TypeId} (h : Blk W B vs t) : Blk (W.setRow B cs) B cs t := by
  obtain ⟨hlt, hk⟩ := Array.getElem?_eq_some_iff.1 h
  show (W.heap.modify B _)[B]? = _
  rw [Array.getElem?_eq_getElem (by rw [Array.size_modify]; exact hlt), Array.getElem_modify_self, hk]
theorem run_storeAt_row {P : Program} (w : World) (g : Nat) (t ty : TypeId) (old cells : Array Value) (hg : w.heap[g]? = some (.cells old t (0, 0))) (hi : (P.info? ty).map (·.size) = some cells.size) (ho : old.size = cells.size) (h1 : cells.all (·.oneCell') = true) :
    (Instr.storeAt ty (.pointer (some ⟨g, 0, none⟩)) (.agg cells)).run P w = .ok () (w.setRow g cells) := by
  simp only [Instr.storeAt, Instr.sureAddr, Sem.run_bind, Sem.run_pure, Result.andThen]
  exact run_storeVar_row _ _ t ty old cells hg hi ho h1

theorem wp_store_row {P : Program} {o : Oper} {a : Act} {w w' : World} {K : Act → World → Prop} {Q : Exit → Act → World → Prop} {cs : Array Value} (ty : TypeId) (x y : Operand) (ho : o.op = .store ty x y)
    (g : Nat) (hx : a.eval x = .pointer (some ⟨g, 0, none⟩)) (hy : a.eval y = .agg cs) (hst : (Instr.storeAt ty (.pointer (some ⟨g, 0, none⟩)) (.agg cs)).run P w = .ok () w') (h : K (a.put o.dst undef) w') : o.wp P a w K Q := by
  unfold Oper.wp execOp
  simp only [ho, hx, hy, Sem.run_bind, Sem.run_pure, hst, Result.andThen_ok]
  exact h
theorem wpList_store_st {P : Program} {ops : Array Oper} {rest : List Oper} {o : Oper} {a : Act} {w w' : World} {Q : Exit → Act → World → Prop} {cs : Array Value} (hgd : o.guard = none) (ty : TypeId) (x y : Operand) (ho : o.op = .store ty x y)
    (g : Nat) (hx : a.eval x = .pointer (some ⟨g, 0, none⟩)) (hy : a.eval y = .agg cs) (hst : (Instr.storeAt ty (.pointer (some ⟨g, 0, none⟩)) (.agg cs)).run P w = .ok () w') (h : wpList P ops Q rest (a.put o.dst undef) w') : wpList P ops Q (o :: rest) a w :=
  wpList_plain hgd fun _ hK => wp_store_row ty x y ho g hx hy hst (hK _ _ h)
theorem below_row {n B : Nat} {W W' : World} (hb : Below n W W') (hB : n ≤ B) (cs : Array Value) : Below n W (W'.setRow B cs) := below_setRow hb hB cs
theorem Blk.newsL {W : World} {B : Nat} {vs : Array Value} {t : TypeId} (h : Blk W B vs t) : ∀ j u, vs.toList[j]? = some u → W.cell? ((⟨B, 0, none⟩ : Addr).add j) = some u := by
  intro j u hu
  have e : (⟨B, 0, none⟩ : Addr).add j = ⟨B, j, none⟩ := by
    unfold Addr.add
    by_cases h0 : j = 0
    · subst h0; rfl
    · rw [if_neg h0, Nat.zero_add]
  rw [e, h.cell j]
  simpa using hu
theorem Blk.drewN {W : World} {B : Nat} {vs : Array Value} {t : TypeId} (h : Blk W B vs t) : ∀ n, Blk (W.drewN n) B vs t
  | 0 => h
  | n + 1 => Blk.drewN (W := W.drew) h n
theorem below_drN {m : Nat} {w W : World} (h : Below m w W) (n : Nat) : Below m w (W.drewN n) := h.trans ⟨rfl, rfl, rfl, Nat.le_refl _, fun _ _ => rfl⟩
end Go.Proofs.Ytbfcancmljdjhaa

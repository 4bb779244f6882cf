/- Texts put together: St Su Sv Ra Xh Xi Rb Sz Rm Rc Xn. -/
import Derived.RangeFuncNested
import Derived.RangeFuncBound
import Derived.RangeFuncCalls
import Derived.RangeFuncLeaves
import Derived.Shelf.Abstract
import Derived.Shelf.RegionOpen
import Derived.WalkKit
import Derived.OwnWalkIn
import Derived.TacticsInMore
import Derived.LoopNIn
import Derived.LoopIn
import Derived.Test.YtajlcaconnkodaaDoorPB
import Derived.Test.YtajlcaconnkodaaDoorPE
import Derived.Laws.Rows
import Derived.Test.YtajlcaconnkodaaDoorPI
import Derived.Lib.Hide
import Derived.Laws.OwnMore
import Derived.Laws.AppendOwnNone
import Derived.Deep.RegionLaw
import Derived.Deep.MidRow
import Derived.Maps.AppendAt
import Derived.Laws.Slices
/- All: the iterator over a set's bytes. -/
namespace Go.Proofs.YtajlcaconnkodaaDoor
open Go.RowKit Go.Shelf BS
attribute [local go_sem] Oper.semAt_some

/-- The numbers below k of which f says yes, ascending. -/
def el (f : Nat → Bool) (k : Nat) : List Nat := (List.range k).filter f
theorem el_zero (f : Nat → Bool) : el f 0 = [] := rfl
theorem el_succ (f : Nat → Bool) (k : Nat) : el f (k + 1) = el f k ++ if f k then [k] else [] := by
  unfold el; rw [List.range_succ, List.filter_append]; cases h : f k <;> simp [h]
theorem el_skip (f : Nat → Bool) {k j : Nat} (h : k ≤ j) (hf : ∀ i, k ≤ i → i < j → f i = false) : el f j = el f k := by
  induction j with
  | zero => rw [show k = 0 by omega]
  | succ j ih =>
    by_cases hk : k = j + 1
    · rw [hk]
    · rw [el_succ, hf j (by omega) (by omega), ih (by omega) (fun i h1 h2 => hf i h1 (by omega))]; simp
theorem el_len (f : Nat → Bool) (k : Nat) : (el f k).length ≤ k := by
  have := List.length_filter_le f (List.range k); simpa [el] using this

theorem nextOf_cases (f : Nat → Bool) (k : Nat) : (nextOf f k = -1 ∧ ∀ j, k ≤ j → j < 256 → f j = false) ∨ (∃ j : Nat, nextOf f k = j ∧ k ≤ j ∧ j < 256 ∧ f j = true ∧ ∀ i, k ≤ i → i < j → f i = false) := by
  by_cases h : ∃ j, k ≤ j ∧ j < 256 ∧ f j = true ∧ ∀ i, k ≤ i → i < j → f i = false
  · obtain ⟨j, h1, h2, h3, h4⟩ := h
    exact .inr ⟨j, nextOf_eq h2 h1 h3 h4, h1, h2, h3, h4⟩
  · have key : ∀ j, k ≤ j → j < 256 → f j = false := by
      intro j
      induction j using Nat.strongRecOn with
      | ind j ih =>
        intro h1 h2
        cases hf : f j with
        | false => rfl
        | true => exact absurd ⟨j, h1, h2, hf, fun i hi hij => ih i hij hi (by omega)⟩ h
    exact .inl ⟨nextOf_none key, key⟩

/-- The box Bs holds the set s. -/
def SetAt (Bs : Nat) (s : BitVec 256) (W : World) : Prop := W.cell? ⟨Bs, 0, none⟩ = some (.int .u64 (wd s 0)) ∧ W.cell? ⟨Bs, 1, none⟩ = some (.int .u64 (wd s 1)) ∧ W.cell? ⟨Bs, 2, none⟩ = some (.int .u64 (wd s 2)) ∧ W.cell? ⟨Bs, 3, none⟩ = some (.int .u64 (wd s 3))
theorem SetAt.keep {Bs B : Nat} {s : BitVec 256} {w w' : World} (h : SetAt Bs s w) (hb : Below B w w') (hB : Bs < B) : SetAt Bs s w' :=
  ⟨(hb.cell (p := ⟨Bs, 0, none⟩) hB).trans h.1, (hb.cell (p := ⟨Bs, 1, none⟩) hB).trans h.2.1, (hb.cell (p := ⟨Bs, 2, none⟩) hB).trans h.2.2.1, (hb.cell (p := ⟨Bs, 3, none⟩) hB).trans h.2.2.2⟩

/-- What a round must keep: the box Bs, and the library's table. -/
def KeepA (Bs : Nat) (W W' : World) : Prop := W.heap.size ≤ W'.heap.size ∧ W'.heap[Bs]? = W.heap[Bs]? ∧ W'.heap[0]? = W.heap[0]?
theorem KeepA.of_below {Bs n : Nat} {W W' : World} (h : Below n W W') (hB : Bs < n) (hg : 0 < n) : KeepA Bs W W' := ⟨h.size, h.block _ hB, h.block _ hg⟩
theorem KeepA.t {Bs : Nat} {A B C : World} (h : KeepA Bs A B) (k : KeepA Bs B C) : KeepA Bs A C := ⟨Nat.le_trans h.1 k.1, k.2.1.trans h.2.1, k.2.2.trans h.2.2⟩
theorem KeepA.b {Bs : Nat} {w : World} (hB : Bs < w.heap.size) (_hg : 0 < w.heap.size) (W : World) (l : Nat) (o o' : Obj) (hl : w.heap.size ≤ l) (_ : W.heap[l]? = some o) (_ : o.isCells = false) (_ : o.isWalk = false) : KeepA Bs W (W.putObj l o') :=
  ⟨by simp, World.putObj_heap_other (by omega), World.putObj_heap_other (by omega)⟩
theorem KeepA.set {Bs : Nat} {s : BitVec 256} {W W' : World} (h : SetAt Bs s W) (hk : KeepA Bs W W') : SetAt Bs s W' := by
  unfold SetAt at *
  simp only [World.cell?_of_block (w := W) (a := ⟨Bs, 0, none⟩) hk.2.1, World.cell?_of_block (w := W) (a := ⟨Bs, 1, none⟩) hk.2.1, World.cell?_of_block (w := W) (a := ⟨Bs, 2, none⟩) hk.2.1, World.cell?_of_block (w := W) (a := ⟨Bs, 3, none⟩) hk.2.1]
  exact h
theorem KeepA.tab {Bs : Nat} {W W' : World} (h : Tab W) (hk : KeepA Bs W W') : Tab W' := fun j hj =>
  (World.cell?_of_block (w := W) (a := ⟨0, j, none⟩) hk.2.2).trans (h j hj)

end Go.Proofs.YtajlcaconnkodaaDoor

/- slices.Values over bytes, and With. -/
namespace Go.Proofs.YtajlcaconnkodaaDoor
open Go.RowKit Go.Shelf BS
attribute [local go_sem] Oper.semAt_some

/-- A slice of bytes that lies below n₀. -/
def BytesAt (n₀ : Nat) (W : World) (v : Value) (l : List (Fin 256)) : Prop :=
  ∃ (a : Option Addr) (cap : Nat), v = .slice a l.length cap ∧ (l ≠ [] → ∃ b off, a = some ⟨b, off, none⟩ ∧ b < n₀ ∧ ∀ j (h : j < l.length), W.cell? ⟨b, off + j, none⟩ = some (.int .u8 (l[j].val : Nat)))
theorem BytesAt.keep {n₀ : Nat} {A B : World} {v : Value} {l : List (Fin 256)} (h : BytesAt n₀ A v l) (hb : Below n₀ A B) : BytesAt n₀ B v l := by
  obtain ⟨a, cap, e, h⟩ := h
  refine ⟨a, cap, e, fun hne => ?_⟩
  obtain ⟨b, off, e, hlt, hc⟩ := h hne
  exact ⟨b, off, e, hlt, fun j hj => (hb.cell (p := ⟨b, off + j, none⟩) hlt).trans (hc j hj)⟩

end Go.Proofs.YtajlcaconnkodaaDoor

/- With: a set with some bytes more. -/
namespace Go.Proofs.YtajlcaconnkodaaDoor
open Go.RowKit Go.Shelf BS
attribute [local go_sem] Oper.semAt_some

/-- The set of one number. -/
def one (x : Nat) : BitVec 256 := ofFn fun j => decide (j = x)
def withL (s : BitVec 256) (l : List (Fin 256)) : BitVec 256 := l.foldl (fun t x => t ||| one x.val) s
theorem withL_snoc (s : BitVec 256) (l : List (Fin 256)) (x : Fin 256) : withL s (l ++ [x]) = withL s l ||| one x.val := by simp [withL]

theorem wd_one (x i : Nat) (hi : i < 4) : wd (one x) i = if x / 64 = i then 2 ^ (x % 64) else 0 := by
  apply Nat.eq_of_testBit_eq; intro j
  rw [testBit_wd, one, get_ofFn]
  by_cases h : x / 64 = i
  · rw [if_pos h, Nat.testBit_two_pow]
    by_cases hj : j < 64
    · simp only [hj, show 64 * i + j < 256 by omega, decide_true, Bool.true_and, decide_eq_decide]; omega
    · simp only [hj, decide_false, Bool.false_and]
      symm; rw [decide_eq_false_iff_not]; omega
  · rw [if_neg h, Nat.zero_testBit]
    by_cases hj : j < 64
    · simp only [hj, show 64 * i + j < 256 by omega, decide_true, Bool.true_and, decide_eq_false_iff_not]; omega
    · simp [hj]

theorem or_one_same (t : BitVec 256) (x i : Nat) (hi : i < 4) (h : x / 64 = i) : bits .or .u64 (wd t i : Int) (IntKind.u64.wrap (2 ^ (x % 64))) = (wd (t ||| one x) i : Int) := by
  have h1 : x % 64 < 64 := Nat.mod_lt _ (by decide)
  have h2 : (2 : Nat) ^ (x % 64) < 2 ^ 64 := Nat.pow_lt_pow_right (by decide) h1
  have h3 : ((2 : Int) ^ (x % 64)) = ((2 ^ (x % 64) : Nat) : Int) := by simp
  rw [h3, wrap_u64_nat _ h2, bits_or_nat _ _ (wd_lt _ _) h2, wd_or, wd_one x i hi, if_pos h]
theorem or_one_other (t : BitVec 256) (x i : Nat) (hi : i < 4) (h : x / 64 ≠ i) : wd t i = wd (t ||| one x) i := by
  rw [wd_or, wd_one x i hi, if_neg h, Nat.or_zero]

@[reducible] def setA (s : BitVec 256) : Array Value := #[.int .u64 (wd s 0), .int .u64 (wd s 1), .int .u64 (wd s 2), .int .u64 (wd s 3)]

theorem Blk.cells4 {W : World} {B : Nat} {a b c d : Value} {t : TypeId} (h : Blk W B #[a, b, c, d] t) : (W.cell? ⟨B, 0, none⟩ = some a ∧ W.cell? ⟨B, 1, none⟩ = some b ∧ W.cell? ⟨B, 2, none⟩ = some c ∧ W.cell? ⟨B, 3, none⟩ = some d) ∧
    (W.frozen? ⟨B, 0, none⟩ = false ∧ W.frozen? ⟨B, 1, none⟩ = false ∧ W.frozen? ⟨B, 2, none⟩ = false ∧ W.frozen? ⟨B, 3, none⟩ = false) :=
  ⟨⟨h.cell 0, h.cell 1, h.cell 2, h.cell 3⟩, h.frozen 0, h.frozen 1, h.frozen 2, h.frozen 3⟩

theorem setA_or (t : BitVec 256) (x : Nat) (h0 : x / 64 = 0) : (setA t).setIfInBounds 0 (.int .u64 (bits .or .u64 (wd t 0 : Int) (IntKind.u64.wrap (2 ^ (x % 64))))) = setA (t ||| one x) := by
  rw [or_one_same t x 0 (by decide) h0, setA, setA, ← or_one_other t x 1 (by decide) (by omega), ← or_one_other t x 2 (by decide) (by omega), ← or_one_other t x 3 (by decide) (by omega)]; rfl
theorem setA_or1 (t : BitVec 256) (x : Nat) (h0 : x / 64 = 1) : (setA t).setIfInBounds 1 (.int .u64 (bits .or .u64 (wd t 1 : Int) (IntKind.u64.wrap (2 ^ (x % 64))))) = setA (t ||| one x) := by
  rw [or_one_same t x 1 (by decide) h0, setA, setA, ← or_one_other t x 0 (by decide) (by omega), ← or_one_other t x 2 (by decide) (by omega), ← or_one_other t x 3 (by decide) (by omega)]; rfl
theorem setA_or2 (t : BitVec 256) (x : Nat) (h0 : x / 64 = 2) : (setA t).setIfInBounds 2 (.int .u64 (bits .or .u64 (wd t 2 : Int) (IntKind.u64.wrap (2 ^ (x % 64))))) = setA (t ||| one x) := by
  rw [or_one_same t x 2 (by decide) h0, setA, setA, ← or_one_other t x 0 (by decide) (by omega), ← or_one_other t x 1 (by decide) (by omega), ← or_one_other t x 3 (by decide) (by omega)]; rfl
theorem setA_or3 (t : BitVec 256) (x : Nat) (h0 : x / 64 = 3) : (setA t).setIfInBounds 3 (.int .u64 (bits .or .u64 (wd t 3 : Int) (IntKind.u64.wrap (2 ^ (x % 64))))) = setA (t ||| one x) := by
  rw [or_one_same t x 3 (by decide) h0, setA, setA, ← or_one_other t x 0 (by decide) (by omega), ← or_one_other t x 1 (by decide) (by omega), ← or_one_other t x 2 (by decide) (by omega)]; rfl

end Go.Proofs.YtajlcaconnkodaaDoor

/- The document's sets, by the reference's own calls: Has, Of, With. -/
namespace Go.Proofs.YtajlcaconnkodaaDoor
open Go.RowKit BS

set_option maxHeartbeats 400000 in
/-- Has. -/
theorem rhas_calls (a : BitVec 256) (x : Int) (w : World) (h0 : 0 ≤ x) (h1 : x < 256) :
    Calls Tryd.prog 31 #[setV a, .int .i64 x] w fun e w' => e = .returned (.bool (a.getLsbD x.toNat)) ∧ Below w.heap.size w w' := by
  have hx2 : 0 ≤ x % 64 := by omega
  have hx3 : x % 64 < 64 := by omega
  have h4 : x / 64 = 0 ∨ x / 64 = 1 ∨ x / 64 = 2 ∨ x / 64 = 3 := by omega
  rcases h4 with hx | hx | hx | hx
  all_goals
    go_enter Tryd.func31, Tryd.ntmps31
    go_wp2
    go_ret
    refine ⟨ret_bool (has_word' a x _ _ ?_ ?_), by go_grown⟩ <;> omega

/-- 256 answers. -/
def Bools (arr : Array Value) (f : Nat → Bool) : Prop := arr.size = 256 ∧ ∀ i, i < 256 → arr[i]? = some (.bool (f i))
theorem Bools.set {arr : Array Value} {f : Nat → Bool} (h : Bools arr f) (i : Nat) (b : Bool) : Bools (arr.setIfInBounds i (.bool b)) (fun j => if j = i then b else f j) := by
  refine ⟨by simpa using h.1, fun j hj => ?_⟩
  by_cases hji : j = i
  · subst hji
    have : j < arr.size := by rw [h.1]; exact hj
    simp [this]
  · rw [Array.getElem?_setIfInBounds_ne (Ne.symm hji), h.2 j hj]; simp [hji]
theorem ofFn_congr {f g : Nat → Bool} (h : ∀ j, j < 256 → f j = g j) : ofFn f = ofFn g := by
  apply BitVec.eq_of_getLsbD_eq; intro j hj
  rw [get_ofFn, get_ofFn, h j hj]

/-- The first k answers, as a set. -/
def pre (f : Nat → Bool) (k : Nat) : BitVec 256 := ofFn fun j => decide (j < k) && f j
theorem pre_true (f : Nat → Bool) (k : Nat) (h : f k = true) : pre f (k + 1) = pre f k ||| one k := by
  apply BitVec.eq_of_getLsbD_eq; intro j hj
  rw [BitVec.getLsbD_or, pre, pre, one, get_ofFn, get_ofFn, get_ofFn]
  simp only [hj, decide_true, Bool.true_and]
  by_cases hjk : j = k
  · subst hjk; simp [h]
  · have : (j < k + 1) ↔ (j < k) := by omega
    simp [this, hjk]
theorem pre_false (f : Nat → Bool) (k : Nat) (h : f k = false) : pre f (k + 1) = pre f k := by
  apply ofFn_congr; intro j hj
  by_cases hjk : j = k
  · subst hjk; simp [h]
  · have : (j < k + 1) ↔ (j < k) := by omega
    simp [this]
theorem pre_all (f : Nat → Bool) : pre f 256 = ofFn f := ofFn_congr fun j hj => by simp [hj]
theorem pre_none (f : Nat → Bool) : pre f 0 = 0 := by
  apply BitVec.eq_of_getLsbD_eq; intro j hj
  rw [pre, get_ofFn]; simp

/-- A set stored into a box of its own. -/
theorem fin4 {w W : World} {n B : Nat} {a b c d : Value} {T : TypeId} (h : Blk W B #[a, b, c, d] T) (hb : Below n w W) (hB : n ≤ B) (t : BitVec 256) :
    Blk ((((W.setCell ⟨B, 0, none⟩ (.int .u64 (wd t 0))).setCell ⟨B, 1, none⟩ (.int .u64 (wd t 1))).setCell ⟨B, 2, none⟩ (.int .u64 (wd t 2))).setCell ⟨B, 3, none⟩ (.int .u64 (wd t 3))) B (setA t) T ∧
    Below n w ((((W.setCell ⟨B, 0, none⟩ (.int .u64 (wd t 0))).setCell ⟨B, 1, none⟩ (.int .u64 (wd t 1))).setCell ⟨B, 2, none⟩ (.int .u64 (wd t 2))).setCell ⟨B, 3, none⟩ (.int .u64 (wd t 3))) :=
  ⟨(((h.set 0 _).set 1 _).set 2 _).set 3 _, below_set (below_set (below_set (below_set hb hB _ _) hB _ _) hB _ _) hB _ _⟩

def SW (w : World) (t : BitVec 256) (W : World) : Prop :=
  (Blk W w.heap.size (setA t) 36 ∧ Blk W (w.heap.size + 1) (setA 0) 36) ∧ Below w.heap.size w W
theorem drew_w {w W : World} {t : BitVec 256} (h : SW w t W) : SW w t W.drew := ⟨⟨h.1.1, h.1.2⟩, h.2.drew⟩
theorem SW.store {w W : World} {t t' : BitVec 256} (h : SW w t W) (i : Nat) (v : Value) (hv : (setA t).setIfInBounds i v = setA t') : SW w t' (W.setCell ⟨w.heap.size, i, none⟩ v) :=
  ⟨⟨by rw [← hv]; exact h.1.1.set i v, h.1.2.other (by omega) _ _⟩, below_set h.2 (by omega) _ _⟩

end Go.Proofs.YtajlcaconnkodaaDoor

/- Rows of bytes in memory; the document's better. Stage 12. -/
namespace Go.Proofs.YtajlcaconnkodaaDoor
open Go.RowKit BS

/-- A row of bytes, as a value. -/
def RowV (L : List Nat) (v : Value) (W : World) : Prop :=
  (v = .slice none 0 0 ∧ L = []) ∨ ∃ g o c, v = .slice (some ⟨g, o, none⟩) L.length c ∧ g < W.heap.size ∧ ∀ i (h : i < L.length), W.cell? ⟨g, o + i, none⟩ = some (.int .u8 (L[i] : Nat))
theorem RowV.below {L : List Nat} {v : Value} {W W' : World} (h : RowV L v W) (hb : Below W.heap.size W W') : RowV L v W' := by
  rcases h with h | ⟨g, o, c, e, hg, hc⟩
  · exact .inl h
  · exact .inr ⟨g, o, c, e, Nat.lt_of_lt_of_le hg hb.size, fun i hi => (hb.cell (p := ⟨g, o + i, none⟩) hg).trans (hc i hi)⟩
theorem RowV.form {L : List Nat} {v : Value} {W : World} (h : RowV L v W) : ∃ a c, v = .slice a L.length c := by
  rcases h with ⟨rfl, rfl⟩ | ⟨g, o, c, rfl, _⟩
  · exact ⟨none, 0, rfl⟩
  · exact ⟨_, c, rfl⟩
theorem RowV.nil (W : World) : RowV [] (.slice none 0 0) W := .inl ⟨rfl, rfl⟩
/-- A row as a text. -/
theorem RowV.text {L : List Nat} {v : Value} {W : World} (h : RowV L v W) : (convert 30 9 v).run Tryd.prog W = .ok (.string (ofT L)) W := by
  rcases h with ⟨rfl, rfl⟩ | ⟨g, o, c, rfl, hg, hc⟩
  · exact run_convert_bytes_nil (P := Tryd.prog) W 30 5 Tryd.underlying30 Tryd.underlying5 0 0 9 Tryd.underlying9
  · rw [← numsT L]
    refine run_convert_bytes_arg (P := Tryd.prog) W 30 5 Tryd.underlying30 Tryd.underlying5 g o L.length c _ (by simp) (fun i hi => ?_) 9 Tryd.underlying9
    rw [hc i hi]
    simp [List.getD_eq_getElem?_getD, List.getElem?_map, List.getElem?_eq_getElem hi]
theorem RowV.one (W : World) (b : Nat) (t : TypeId) : RowV [b] (.slice (some ⟨W.heap.size, 0, none⟩) 1 1) (W.alloc (.cells #[.int .u8 (b : Nat)] t)) :=
  .inr ⟨W.heap.size, 0, 1, rfl, by simp, fun i hi => by
    have hi' : i < 1 := hi
    obtain rfl : i = 0 := by omega
    exact (Blk.new W #[.int .u8 (b : Nat)] t).cell 0⟩
set_option maxRecDepth 100000 in
set_option maxHeartbeats 4000000 in
theorem rbetter_calls (L M : List Nat) (hL : ∀ x ∈ L, x < 256) (hM : ∀ x ∈ M, x < 256) (v u : Value) (w : World) (hv : RowV L v w) (hu : RowV M u w) :
    Calls Tryd.prog 21 #[v, u] w fun e w' => e = .returned (.bool (btr L M)) ∧ w = w' := by
  have c1 := hv.text
  have c2 := hu.text
  have hls : Op.bytesLess (ofT L).toList (ofT M).toList = decide (L < M) := by rw [toL_ofT, toL_ofT, less_ofT L M hL hM]
  obtain ⟨a, c, rfl⟩ := hv.form
  obtain ⟨b, d, rfl⟩ := hu.form
  unfold btr
  clear hv hu
  by_cases hn : L.length = M.length
  · have q : decide (L.length = M.length) = true := decide_eq_true hn
    have q2 : ((L.length : Int) != (M.length : Int)) = false := by simp; omega
    rw [if_neg (by simpa using hn)]
    clear hn q
    generalize decide (L < M) = r at *
    go_enter Tryd.func21, Tryd.ntmps21
    go_wp2_with fail
    go_ret
    exact ⟨rfl, rfl⟩
  · have q : decide (L.length = M.length) = false := decide_eq_false hn
    have q2 : ((L.length : Int) != (M.length : Int)) = true := by simp; omega
    rw [if_pos hn]
    go_enter Tryd.func21, Tryd.ntmps21
    go_wp2_with fail
    go_ret
    exact ⟨rfl, rfl⟩
end Go.Proofs.YtajlcaconnkodaaDoor

/- Rows of bytes of the call's own; append; two tables of rows and of marks. Stage 12. -/
namespace Go.Proofs.YtajlcaconnkodaaDoor
open Go.RowKit BS

/-- A row of bytes of the call's own. -/
def OwB (base : Nat) (v : Value) (L : List Nat) (W : World) : Prop := W.ownsRow base 5 1 v L.length (L.map fun s => Value.int .u8 (s : Nat))
theorem OwB.below {base : Nat} {v : Value} {L : List Nat} {W W' : World} (h : OwB base v L W) (k : Below W.heap.size W W') : OwB base v L W' :=
  owns_keep h fun g hg => k.block g (World.ownsRow.lt h g hg).2
theorem OwB.nil (W : World) (base : Nat) : OwB base (.slice none 0 0) [] W := World.ownsRow_nil _ _ _ _
theorem OwB.empty (W : World) (base : Nat) (hb : base ≤ W.heap.size) : OwB base (.slice (some ⟨W.heap.size, 0, none⟩) 0 0) [] (W.alloc (.cells #[] 5)) :=
  World.ownsRow_lit W #[] 0 hb (by decide) rfl
theorem OwB.from {b b' : Nat} {v : Value} {L : List Nat} {W : World} (h : OwB b v L W) (hb : b' ≤ b) : OwB b' v L W := by
  refine ⟨h.1, ?_⟩
  rcases h.2 with hn | ⟨g, c, cur, e, h1, h2⟩
  · exact .inl hn
  · exact .inr ⟨g, c, cur, e, Nat.le_trans hb h1, h2⟩
theorem OwB.row {base : Nat} {v : Value} {L : List Nat} {W : World} (h : OwB base v L W) : RowV L v W := by
  have h0 := h
  rcases h.2 with ⟨e, h1⟩ | ⟨g, c, cur, rfl, hb, hg, _⟩
  · exact .inl ⟨e, List.eq_nil_of_length_eq_zero h1⟩
  · refine .inr ⟨g, 0, c, rfl, (Array.getElem?_eq_some_iff.1 hg).1, fun i hi => ?_⟩
    rw [Nat.zero_add]
    refine (World.ownsRow.cellAt h0 i (by omega)).trans ?_
    simp [List.getElem?_eq_getElem hi]
theorem infoU12 : (Tryd.prog.info? 5).map (fun i => (i.zero, i.size, i.bytes)) = some (some (.int .u8 0), 1, 1) := by kernel_rfl
/-- A row of bytes behind one of the call's own. -/
theorem run_app {base : Nat} {v u : Value} {L M : List Nat} {W : World} (h : OwB base v L W) (r : RowV M u W) (hn : L.length + M.length ≤ 100000) (hb : base ≤ W.heap.size) (ty : TypeId) :
    ∃ v' W', (Builtin.append_ #[30, 30] ty #[v, u]).run Tryd.prog W = .ok v' W' ∧ OwB base v' (L ++ M) W' ∧ W.grownBy W' v.ownBlock := by
  obtain ⟨i0, hinf, hzz⟩ := Option.map_eq_some_iff.1 infoU12
  simp only [Prod.mk.injEq] at hzz
  obtain ⟨hz0, hz1, hz2⟩ := hzz
  rcases r with ⟨rfl, rfl⟩ | ⟨g, o, c, rfl, hg, hc⟩
  · refine ⟨v, W, run_append_owned_none (P := Tryd.prog) (w := W) base 30 ty 5 i0 1 Tryd.underlying30 hinf v L.length _ h, by rw [List.append_nil]; exact h, ⟨rfl, rfl, rfl, Nat.le_refl _, fun _ _ _ => rfl⟩⟩
  · obtain ⟨v', w', hr, h2, h3, _⟩ := run_append_own (P := Tryd.prog) W base 30 ty 5 i0 (.int .u8 0) 1 1 Tryd.underlying30 hinf hz0 hz1 hz2 rfl (by decide) v L.length _ h ⟨g, o, none⟩ M.length c (M.map fun s => Value.int .u8 (s : Nat)) (by simp) (fun j x hj => by
      have hlt := (List.getElem?_eq_some_iff.1 hj).1
      rw [List.length_map] at hlt
      have e2 : (⟨g, o, none⟩ : Addr).add j = ⟨g, o + j, none⟩ := by
        unfold Addr.add
        split
        · subst j; rfl
        · rfl
      rw [e2, hc j hlt]
      rw [List.getElem?_map, List.getElem?_eq_getElem hlt] at hj
      exact hj) (fun x hx => by obtain ⟨s, _, rfl⟩ := List.mem_map.1 hx; rfl) (by unfold maxLen; omega) (by omega) hb
    refine ⟨v', w', hr, ?_, h3⟩
    unfold OwB
    rw [List.length_append, List.map_append]
    exact h2
theorem exec_app {v u v' : Value} {W W' : World} {o : Oper} {a : Act} {s x : Operand} (ho : o.op = .call { callee := .builtin .append, args := #[s, x], argTypes := #[30, 30] }) (hs : a.eval s = v) (hx : a.eval x = u)
    (hr : (Builtin.append_ #[30, 30] o.type #[v, u]).run Tryd.prog W = .ok v' W') : (execOp a.eval o).run Tryd.prog W = .ok (.value v') W' := by
  unfold execOp
  simp only [ho, resolve, invoke, builtin, Sem.run_bind, Sem.run_pure, Result.andThen_ok, List.map_toArray, List.map_cons, List.map_nil, hs, hx, hr]
theorem wp_app {base : Nat} {v u : Value} {L M : List Nat} {W : World} {o : Oper} {a : Act} {K : Act → World → Prop} {Q : Exit → Act → World → Prop} (s x : Operand)
    (ho : o.op = .call { callee := .builtin .append, args := #[s, x], argTypes := #[30, 30] }) (hs : a.eval s = v) (hx : a.eval x = u)
    (h : OwB base v L W) (r : RowV M u W) (hn : L.length + M.length ≤ 100000) (hb : base ≤ W.heap.size)
    (H : ∀ v' w', OwB base v' (L ++ M) w' → W.grownBy w' v.ownBlock → K (a.put o.dst v') w') : o.wp Tryd.prog a W K Q := by
  obtain ⟨v', w', hr, h2, h3⟩ := run_app h r hn hb o.type
  unfold Oper.wp execOp
  simp only [ho, resolve, invoke, builtin, Sem.run_bind, Sem.run_pure, Result.andThen_ok, List.map_toArray, List.map_cons, List.map_nil, hs, hx, hr]
  exact H v' w' h2 h3
theorem wpList_app {base : Nat} {v u : Value} {L M : List Nat} {W : World} {ops : Array Oper} {rest : List Oper} {o : Oper} {a : Act} {Q : Exit → Act → World → Prop} (hgd : o.guard = none) (s x : Operand)
    (ho : o.op = .call { callee := .builtin .append, args := #[s, x], argTypes := #[30, 30] }) (hs : a.eval s = v) (hx : a.eval x = u)
    (h : OwB base v L W) (r : RowV M u W) (hn : L.length + M.length ≤ 100000) (hb : base ≤ W.heap.size)
    (H : ∀ v' w', OwB base v' (L ++ M) w' → W.grownBy w' v.ownBlock → wpList Tryd.prog ops Q rest (a.put o.dst v') w') : wpList Tryd.prog ops Q (o :: rest) a W :=
  wpList_plain hgd fun _ hK => wp_app s x ho hs hx h r hn hb fun v' w' h2 h3 => hK _ _ (H v' w' h2 h3)
theorem step_app {base : Nat} {v u : Value} {L M : List Nat} {W : World} {ops : Array Oper} {o : Oper} {a : Act} {K : Act → World → Prop} {Q : Exit → Act → World → Prop} {E : Prop} (hgd : o.guard = none) (s x : Operand)
    (ho : o.op = .call { callee := .builtin .append, args := #[s, x], argTypes := #[30, 30] }) (hs : a.eval s = v) (hx : a.eval x = u)
    (h : OwB base v L W) (r : RowV M u W) (hn : L.length + M.length ≤ 100000) (hb : base ≤ W.heap.size)
    (H : ∀ v' w', OwB base v' (L ++ M) w' → W.grownBy w' v.ownBlock → K (a.put o.dst v') w') : if Region.wanted o (yielded ops a.tmps) = true then Oper.wp Tryd.prog o a W K Q else E := by
  have hw : Region.wanted o (yielded ops a.tmps) = true := by simp [Region.wanted, hgd]
  rw [if_pos hw]
  exact wp_app s x ho hs hx h r hn hb H
theorem set_far (W : World) {T i B x : Nat} (v : Value) (h : T ≠ B ∨ i ≠ x) : (W.setCell ⟨T, i, none⟩ v).cell? ⟨B, x, none⟩ = W.cell? ⟨B, x, none⟩ := by
  apply World.cell?_setCell_other
  intro e
  simp only [Addr.mk.injEq] at e
  rcases h with h | h
  · exact h e.1
  · exact h e.2.1
/-- A store elsewhere changes no row. -/
theorem RowV.set {L : List Nat} {v : Value} {W : World} (h : RowV L v W) {T : Nat} {vs : Array Value} {t : TypeId} (hT : Blk W T vs t) (hv : ∀ x n : Nat, vs[x]? ≠ some (.int .u8 n)) (i : Nat) (u : Value) : RowV L v (W.setCell ⟨T, i, none⟩ u) := by
  rcases h with h | ⟨g, o, c, e, hg, hc⟩
  · exact .inl h
  · refine .inr ⟨g, o, c, e, by simpa using hg, fun j hj => ?_⟩
    have hne : g ≠ T := fun e' => by
      subst e'
      have := hc j hj
      rw [hT.cell] at this
      exact hv _ _ this
    refine Eq.trans ?_ (hc j hj)
    unfold World.cell?
    rw [Below.heap_setCell W ⟨T, i, none⟩ u g hne]
/-- Two tables: of n rows, and of n marks. -/
structure WdS (n T Z : Nat) (fL : Nat → List Nat) (fI : Nat → Bool) (W : World) : Prop where
  ne : T ≠ Z
  row : ∃ vs : Array Value, vs.size = n ∧ (∀ x, x < n → ∃ v, vs[x]? = some v ∧ RowV (fL x) v W) ∧ Blk W T vs 30
  mark : ∃ us : Array Value, us.size = n ∧ (∀ x, x < n → us[x]? = some (.bool (fI x))) ∧ Blk W Z us 4
variable {n T Z : Nat} {fL : Nat → List Nat} {fI : Nat → Bool} {W W' : World}
theorem WdS.below (h : WdS n T Z fL fI W) (hb : Below W.heap.size W W') : WdS n T Z fL fI W' := by
  obtain ⟨vs, h1, h2, h3⟩ := h.row
  obtain ⟨us, k1, k2, k3⟩ := h.mark
  exact ⟨h.ne, ⟨vs, h1, fun x hx => by obtain ⟨v, e, r⟩ := h2 x hx; exact ⟨v, e, r.below hb⟩, h3.below hb h3.lt⟩, us, k1, k2, k3.below hb k3.lt⟩
theorem WdS.congr {fL' : Nat → List Nat} {fI' : Nat → Bool} (h : WdS n T Z fL fI W) (e1 : ∀ x, x < n → fL x = fL' x) (e2 : ∀ x, x < n → fI x = fI' x) : WdS n T Z fL' fI' W := by
  obtain ⟨vs, h1, h2, h3⟩ := h.row
  obtain ⟨us, k1, k2, k3⟩ := h.mark
  exact ⟨h.ne, ⟨vs, h1, fun x hx => by rw [← e1 x hx]; exact h2 x hx, h3⟩, us, k1, fun x hx => by rw [← e2 x hx]; exact k2 x hx, k3⟩
/-- Cell x of the rows. -/
theorem WdS.cell (h : WdS n T Z fL fI W) (x : Nat) (hx : x < n) : ∃ v, W.cell? ⟨T, x, none⟩ = some v ∧ RowV (fL x) v W := by
  obtain ⟨vs, h1, h2, h3⟩ := h.row
  obtain ⟨v, e, r⟩ := h2 x hx
  exact ⟨v, (h3.cell x).trans e, r⟩
theorem WdS.is (h : WdS n T Z fL fI W) (x : Nat) (hx : x < n) : W.cell? ⟨Z, x, none⟩ = some (.bool (fI x)) := by
  obtain ⟨us, k1, k2, k3⟩ := h.mark
  exact (k3.cell x).trans (k2 x hx)
theorem WdS.fr (h : WdS n T Z fL fI W) (x : Nat) : W.frozen? ⟨T, x, none⟩ = false ∧ W.frozen? ⟨Z, x, none⟩ = false := by
  obtain ⟨vs, h1, h2, h3⟩ := h.row
  obtain ⟨us, k1, k2, k3⟩ := h.mark
  exact ⟨h3.frozen x, k3.frozen x⟩
theorem WdS.lt (h : WdS n T Z fL fI W) : T < W.heap.size ∧ Z < W.heap.size := by
  obtain ⟨vs, h1, h2, h3⟩ := h.row
  obtain ⟨us, k1, k2, k3⟩ := h.mark
  exact ⟨h3.lt, k3.lt⟩
theorem RowV.not_u8 {L : List Nat} {v : Value} {W : World} (h : RowV L v W) (m : Nat) : v ≠ .int .u8 m := fun e => by
  obtain ⟨a, c, e'⟩ := h.form
  rw [e'] at e
  cases e
theorem WdS.setI (h : WdS n T Z fL fI W) (i : Nat) (b : Bool) : WdS n T Z fL (fun x => if x = i then b else fI x) (W.setCell ⟨Z, i, none⟩ (.bool b)) := by
  obtain ⟨vs, h1, h2, h3⟩ := h.row
  obtain ⟨us, k1, k2, k3⟩ := h.mark
  refine ⟨h.ne, ⟨vs, h1, fun x hx => ?_, h3.other h.ne i _⟩, us.setIfInBounds i (.bool b), by simp [k1], fun x hx => ?_, k3.set i _⟩
  · obtain ⟨v, e, r⟩ := h2 x hx
    refine ⟨v, e, r.set k3 (fun y m e' => ?_) i _⟩
    have hy : y < n := by
      have := (Array.getElem?_eq_some_iff.1 e').1
      omega
    rw [k2 y hy] at e'
    cases e'
  · show _ = some (Value.bool (if x = i then b else fI x))
    by_cases hxi : x = i
    · subst hxi
      rw [if_pos rfl]
      simp [k1, hx]
    · rw [if_neg hxi, Array.getElem?_setIfInBounds_ne (Ne.symm hxi)]
      exact k2 x hx
theorem WdS.setL (h : WdS n T Z fL fI W) (i : Nat) {v : Value} {L : List Nat} (hv : RowV L v W) : WdS n T Z (fun x => if x = i then L else fL x) fI (W.setCell ⟨T, i, none⟩ v) := by
  obtain ⟨vs, h1, h2, h3⟩ := h.row
  obtain ⟨us, k1, k2, k3⟩ := h.mark
  have hu : ∀ y m : Nat, vs[y]? ≠ some (.int .u8 m) := fun y m e' => by
    have hy : y < n := by
      have := (Array.getElem?_eq_some_iff.1 e').1
      omega
    obtain ⟨v', e, r⟩ := h2 y hy
    rw [e] at e'
    exact r.not_u8 m (Option.some.inj e')
  refine ⟨h.ne, ⟨vs.setIfInBounds i v, by simp [h1], fun x hx => ?_, h3.set i _⟩, us, k1, k2, k3.other (Ne.symm h.ne) i _⟩
  show ∃ v', _ = some v' ∧ RowV (if x = i then L else fL x) v' _
  by_cases hxi : x = i
  · subst hxi
    rw [if_pos rfl]
    exact ⟨v, by simp [h1, hx], hv.set h3 hu _ _⟩
  · rw [if_neg hxi, Array.getElem?_setIfInBounds_ne (Ne.symm hxi)]
    obtain ⟨v', e, r⟩ := h2 x hx
    exact ⟨v', e, r.set h3 hu _ _⟩
end Go.Proofs.YtajlcaconnkodaaDoor

/- The document's sets, by the reference's own calls: Range, Both, Not. -/
namespace Go.Proofs.YtajlcaconnkodaaDoor
open Go.RowKit BS

theorem Bools.congr {arr : Array Value} {f g : Nat → Bool} (h : Bools arr f) (e : ∀ j, j < 256 → f j = g j) : Bools arr g := ⟨h.1, fun i hi => by rw [h.2 i hi, e i hi]⟩

def bothF (how : Nat) (x y : Bool) : Bool := (how == 1 && (x || y)) || (how == 2 && x && y) || (how == 3 && x && !y)

theorem both_or (a b : BitVec 256) : (ofFn fun j => bothF 1 (a.getLsbD j) (b.getLsbD j)) = a ||| b := by
  apply BitVec.eq_of_getLsbD_eq; intro j hj
  rw [get_ofFn, BitVec.getLsbD_or]; simp only [hj]
  cases a.getLsbD j <;> cases b.getLsbD j <;> rfl
theorem both_and (a b : BitVec 256) : (ofFn fun j => bothF 2 (a.getLsbD j) (b.getLsbD j)) = a &&& b := by
  apply BitVec.eq_of_getLsbD_eq; intro j hj
  rw [get_ofFn, BitVec.getLsbD_and]; simp only [hj]
  cases a.getLsbD j <;> cases b.getLsbD j <;> rfl
theorem both_less (a b : BitVec 256) : (ofFn fun j => bothF 3 (a.getLsbD j) (b.getLsbD j)) = a &&& ~~~b := by
  apply BitVec.eq_of_getLsbD_eq; intro j hj
  rw [get_ofFn, BitVec.getLsbD_and, BitVec.getLsbD_not]; simp only [hj]
  cases a.getLsbD j <;> cases b.getLsbD j <;> rfl
theorem full_not (s : BitVec 256) : (range 0 255 &&& ~~~s) = ~~~s := by
  apply BitVec.eq_of_getLsbD_eq; intro j hj
  rw [BitVec.getLsbD_and, BitVec.getLsbD_not, range, get_ofFn]
  simp [hj, show j ≤ 255 by omega]

end Go.Proofs.YtajlcaconnkodaaDoor

/- Runs: a set's runs, as the program tells them. -/
namespace Go.Proofs.YtajlcaconnkodaaDoor
open Go.RowKit Go.Shelf BS
attribute [local go_sem] Oper.semAt_some

/-- One byte more: the last run grows, or a new one begins. -/
def runStep (rs : List (Nat × Nat)) (x : Nat) : List (Nat × Nat) :=
  match rs.getLast? with
  | some (a, b) => if (b + 1) % 256 = x then rs.dropLast ++ [(a, x)] else rs ++ [(x, x)]
  | none => [(x, x)]
def runsOf (l : List Nat) : List (Nat × Nat) := l.foldl runStep []
theorem runsOf_snoc (l : List Nat) (x : Nat) : runsOf (l ++ [x]) = runStep (runsOf l) x := by simp [runsOf]

/-- The cells of a list of runs. -/
def runCells (rs : List (Nat × Nat)) : List Value := rs.flatMap fun r => [Value.int .u8 (r.1 : Int), Value.int .u8 (r.2 : Int)]

theorem runCells_len (rs : List (Nat × Nat)) : (runCells rs).length = rs.length * 2 := by
  induction rs with
  | nil => rfl
  | cons r rs ih => simp only [runCells, List.flatMap_cons, List.length_append, List.length_cons, List.length_nil] at ih ⊢; omega
theorem runCells_snoc (rs : List (Nat × Nat)) (a b : Nat) : runCells (rs ++ [(a, b)]) = runCells rs ++ [.int .u8 (a : Int), .int .u8 (b : Int)] := by simp [runCells]
theorem runCells_last (rs : List (Nat × Nat)) (a b : Nat) : (runCells (rs ++ [(a, b)]))[rs.length * 2 + 1]? = some (.int .u8 (b : Int)) := by
  rw [runCells_snoc, List.getElem?_append_right (by rw [runCells_len]; omega), runCells_len]
  simp
theorem runCells_set (rs : List (Nat × Nat)) (a b x : Nat) : (runCells (rs ++ [(a, b)])).set (rs.length * 2 + 1) (.int .u8 (x : Int)) = runCells (rs ++ [(a, x)]) := by
  rw [runCells_snoc, runCells_snoc, List.set_append_right _ _ (by rw [runCells_len]; omega), runCells_len]
  simp
theorem nil_or_snoc (rs : List (Nat × Nat)) : rs = [] ∨ ∃ rs' a b, rs = rs' ++ [(a, b)] := by
  rcases List.eq_nil_or_concat rs with h | ⟨rs', ⟨a, b⟩, h⟩
  · exact .inl h
  · exact .inr ⟨rs', a, b, by rw [h, List.concat_eq_append]⟩
theorem runStep_len (rs : List (Nat × Nat)) (x : Nat) : (runStep rs x).length ≤ rs.length + 1 := by
  unfold runStep
  split
  · split <;> simp
  · simp
theorem runsOf_len (l : List Nat) : (runsOf l).length ≤ l.length := by
  suffices h : ∀ l rs, (List.foldl runStep rs l).length ≤ rs.length + l.length by simpa [runsOf] using h l []
  intro l
  induction l with
  | nil => intro rs; simp
  | cons x l ih => intro rs; have := ih (runStep rs x); have := runStep_len rs x; simp only [List.foldl_cons, List.length_cons]; omega
theorem runStep_none (x : Nat) : runStep [] x = [(x, x)] := rfl
theorem runStep_grow (rs : List (Nat × Nat)) (a b x : Nat) (h : (b + 1) % 256 = x) : runStep (rs ++ [(a, b)]) x = rs ++ [(a, x)] := by simp [runStep, h]
theorem runStep_new (rs : List (Nat × Nat)) (a b x : Nat) (h : (b + 1) % 256 ≠ x) : runStep (rs ++ [(a, b)]) x = rs ++ [(a, b)] ++ [(x, x)] := by simp [runStep, h]

theorem Blk.news2 {W : World} {B : Nat} {a b : Value} {t : TypeId} (h : Blk W B #[a, b] t) : ∀ j u, [a, b][j]? = some u → W.cell? ((⟨B, 0, none⟩ : Addr).add j) = some u := by
  intro j u hu
  rw [Addr.add_mid]
  rw [Nat.zero_add, h.cell j]
  simpa using hu

end Go.Proofs.YtajlcaconnkodaaDoor

/- Plain facts on runs: they lie apart, ascending, and are together the set. -/
namespace Go.Proofs.YtajlcaconnkodaaDoor
open Go.RowKit BS

structure RunsInv (f : Nat → Bool) (k : Nat) (rs : List (Nat × Nat)) : Prop where
  ok : ∀ r ∈ rs, r.1 ≤ r.2 ∧ r.2 < k
  apart : rs.Pairwise fun r r' => r.2 + 2 ≤ r'.1
  all : ∀ j, j < k → (f j = true ↔ ∃ r ∈ rs, r.1 ≤ j ∧ j ≤ r.2)

theorem runsInv (f : Nat → Bool) : ∀ k, k ≤ 256 → RunsInv f k (runsOf (el f k))
  | 0, _ => ⟨fun _ h => by simp [el, runsOf] at h, by simp [el, runsOf], fun j hj => by omega⟩
  | k + 1, hk => by
    have ih := runsInv f k (by omega)
    rw [el_succ]
    by_cases hf : f k = true
    · rw [hf, if_pos rfl, runsOf_snoc]
      generalize runsOf (el f k) = rs at *
      rcases nil_or_snoc rs with rfl | ⟨rs', a, b, rfl⟩
      · rw [runStep_none]
        refine ⟨fun r hr => ?_, by simp, fun j hj => ?_⟩
        · simp at hr; subst hr; exact ⟨Nat.le_refl _, by simp⟩
        · by_cases hjk : j = k
          · subst hjk; simp [hf]
          · have := ih.all j (by omega)
            simp at this
            simp [this]; omega
      · have hb := ih.ok (a, b) (by simp)
        simp only at hb
        have hap := List.pairwise_append.1 ih.apart
        by_cases hbk : (b + 1) % 256 = k
        · rw [runStep_grow _ _ _ _ hbk]
          have hb1 : b + 1 = k := by omega
          refine ⟨fun r hr => ?_, ?_, fun j hj => ?_⟩
          · rcases List.mem_append.1 hr with h | h
            · have := ih.ok r (by simp [h]); exact ⟨this.1, by omega⟩
            · simp at h; subst h; simp only; omega
          · refine List.pairwise_append.2 ⟨hap.1, by simp, fun r hr r' hr' => ?_⟩
            simp at hr'; subst hr'
            exact hap.2.2 r hr (a, b) (by simp)
          · by_cases hjk : j = k
            · subst hjk; simp only [hf, true_iff]; exact ⟨(a, j), by simp, by simp only; omega⟩
            · rw [ih.all j (by omega)]
              constructor
              · rintro ⟨r, hr, h1, h2⟩
                rcases List.mem_append.1 hr with h | h
                · exact ⟨r, by simp [h], h1, h2⟩
                · simp at h; subst h; exact ⟨(a, k), by simp, h1, by simp only at h2 ⊢; omega⟩
              · rintro ⟨r, hr, h1, h2⟩
                rcases List.mem_append.1 hr with h | h
                · exact ⟨r, by simp [h], h1, h2⟩
                · simp at h; subst h; exact ⟨(a, b), by simp, h1, by simp only at h2 ⊢; omega⟩
        · rw [runStep_new _ _ _ _ hbk]
          have hb1 : b + 1 ≠ k := fun e => hbk (by omega)
          refine ⟨fun r hr => ?_, ?_, fun j hj => ?_⟩
          · rcases List.mem_append.1 hr with h | h
            · have := ih.ok r h; exact ⟨this.1, by omega⟩
            · simp at h; subst h; exact ⟨Nat.le_refl _, by simp⟩
          · refine List.pairwise_append.2 ⟨ih.apart, by simp, fun r hr r' hr' => ?_⟩
            simp at hr'; subst hr'
            rcases List.mem_append.1 hr with h | h
            · have h1 := hap.2.2 r h (a, b) (by simp)
              simp only at h1 ⊢; omega
            · simp at h; subst h; simp only; omega
          · by_cases hjk : j = k
            · subst hjk; simp only [hf, true_iff]; exact ⟨(j, j), by simp, Nat.le_refl _, Nat.le_refl _⟩
            · rw [ih.all j (by omega)]
              constructor
              · rintro ⟨r, hr, h1, h2⟩
                exact ⟨r, List.mem_append_left _ hr, h1, h2⟩
              · rintro ⟨r, hr, h1, h2⟩
                rcases List.mem_append.1 hr with h | h
                · exact ⟨r, h, h1, h2⟩
                · simp at h; subst h; simp only at h1 h2; omega
    · rw [if_neg hf, List.append_nil]
      refine ⟨fun r hr => ⟨(ih.ok r hr).1, by have := (ih.ok r hr).2; omega⟩, ih.apart, fun j hj => ?_⟩
      by_cases hjk : j = k
      · subst hjk
        refine ⟨fun h => absurd h hf, ?_⟩
        rintro ⟨r, hr, h1, h2⟩
        have := (ih.ok r hr).2; omega
      · exact ih.all j (by omega)

/-- The runs of a set. -/
def rsOf (s : BitVec 256) : List (Nat × Nat) := runsOf (el s.getLsbD 256)
theorem rsOf_inv (s : BitVec 256) : RunsInv s.getLsbD 256 (rsOf s) := runsInv _ 256 (Nat.le_refl _)
theorem rsOf_ok (s : BitVec 256) (i : Nat) (h : i < (rsOf s).length) : (rsOf s)[i].1 ≤ (rsOf s)[i].2 ∧ (rsOf s)[i].2 < 256 := (rsOf_inv s).ok _ (List.getElem_mem h)
theorem rsOf_apart (s : BitVec 256) (i : Nat) (h : i + 1 < (rsOf s).length) : (rsOf s)[i].2 + 2 ≤ (rsOf s)[i + 1].1 :=
  List.pairwise_iff_getElem.1 (rsOf_inv s).apart i (i + 1) (by omega) h (by omega)
theorem rsOf_len (s : BitVec 256) : (rsOf s).length ≤ 256 := Nat.le_trans (runsOf_len _) (el_len _ _)

/-- The sets of some runs, together. -/
def orAll (rs : List (Nat × Nat)) : BitVec 256 := rs.foldl (fun t r => t ||| range r.1 r.2) 0
theorem orAll_snoc (rs : List (Nat × Nat)) (r : Nat × Nat) : orAll (rs ++ [r]) = orAll rs ||| range r.1 r.2 := by simp [orAll]
theorem get_orAll (rs : List (Nat × Nat)) (j : Nat) (hj : j < 256) : (orAll rs).getLsbD j = true ↔ ∃ r ∈ rs, r.1 ≤ j ∧ j ≤ r.2 := by
  suffices h : ∀ t, (rs.foldl (fun t r => t ||| range r.1 r.2) t).getLsbD j = true ↔ (t.getLsbD j = true ∨ ∃ r ∈ rs, r.1 ≤ j ∧ j ≤ r.2) by
    have := h 0; simpa [orAll] using this
  induction rs with
  | nil => intro t; simp
  | cons r rs ih =>
    intro t
    rw [List.foldl_cons, ih, BitVec.getLsbD_or, range, get_ofFn]
    simp only [hj, decide_true, Bool.true_and, Bool.or_eq_true, Bool.and_eq_true, decide_eq_true_eq, List.mem_cons, exists_eq_or_imp]
    constructor
    · rintro ((h | h) | h)
      · exact .inl h
      · exact .inr (.inl h)
      · exact .inr (.inr h)
    · rintro (h | h | h)
      · exact .inl (.inl h)
      · exact .inl (.inr h)
      · exact .inr h
theorem orAll_rsOf (s : BitVec 256) : orAll (rsOf s) = s := by
  apply BitVec.eq_of_getLsbD_eq
  intro j hj
  rw [Bool.eq_iff_iff, get_orAll _ _ hj]
  exact ((rsOf_inv s).all j hj).symm

theorem runCells_get (rs : List (Nat × Nat)) (j : Nat) (h : j < rs.length) : (runCells rs)[j * 2]? = some (.int .u8 (rs[j].1 : Int)) ∧ (runCells rs)[j * 2 + 1]? = some (.int .u8 (rs[j].2 : Int)) := by
  induction rs generalizing j with
  | nil => simp at h
  | cons r rs ih =>
    cases j with
    | zero => simp [runCells]
    | succ j =>
      have := ih j (by simpa using h)
      simp only [runCells, List.flatMap_cons] at this ⊢
      rw [show (j + 1) * 2 = j * 2 + 2 by omega]
      simpa using this

/-- Block g holds the runs rs. -/
def RowAt (g : Nat) (rs : List (Nat × Nat)) (W : World) : Prop := g < W.heap.size ∧ ∀ j (h : j < rs.length), W.cell? ⟨g, j * 2, none⟩ = some (.int .u8 (rs[j].1 : Int)) ∧ W.cell? ⟨g, j * 2 + 1, none⟩ = some (.int .u8 (rs[j].2 : Int))
theorem RowAt.below {g : Nat} {rs : List (Nat × Nat)} {W W' : World} (h : RowAt g rs W) (hb : Below W.heap.size W W') : RowAt g rs W' :=
  ⟨Nat.lt_of_lt_of_le h.1 hb.size, fun j hj => ⟨(hb.cell (p := ⟨g, j * 2, none⟩) h.1).trans (h.2 j hj).1, (hb.cell (p := ⟨g, j * 2 + 1, none⟩) h.1).trans (h.2 j hj).2⟩⟩
theorem RowAt.set {g : Nat} {rs : List (Nat × Nat)} {W : World} (h : RowAt g rs W) {B : Nat} (hne : g ≠ B) (i : Nat) (v : Value) : RowAt g rs (W.setCell ⟨B, i, none⟩ v) := by
  have hs := Below.heap_setCell W ⟨B, i, none⟩ v g hne
  exact ⟨by simpa using h.1, fun j hj => ⟨(World.cell?_of_block (w := W) (a := ⟨g, j * 2, none⟩) hs).trans (h.2 j hj).1, (World.cell?_of_block (w := W) (a := ⟨g, j * 2 + 1, none⟩) hs).trans (h.2 j hj).2⟩⟩
/-- What Runs hands back: a slice of that many, in a new block, where there are any. -/
theorem row_of_owns {base : Nat} {e : TypeId} {v : Value} {rs : List (Nat × Nat)} {W : World} (h : W.ownsRow base e 2 v rs.length (runCells rs)) :
    ∃ a cap, v = .slice a rs.length cap ∧ (rs ≠ [] → ∃ g, a = some ⟨g, 0, none⟩ ∧ base ≤ g ∧ RowAt g rs W) := by
  rcases h.2 with ⟨rfl, h0⟩ | ⟨g, cap, cur, rfl, hb, hg, _, _, _, _⟩
  · exact ⟨none, 0, by rw [h0], fun hne => absurd (List.eq_nil_of_length_eq_zero h0) hne⟩
  · refine ⟨_, cap, rfl, fun _ => ⟨g, rfl, hb, (Array.getElem?_eq_some_iff.1 hg).1, fun j hj => ?_⟩⟩
    have h1 := h.cellAt (j * 2) (by omega)
    have h2 := h.cellAt (j * 2 + 1) (by omega)
    exact ⟨h1.trans (runCells_get rs j hj).1, h2.trans (runCells_get rs j hj).2⟩
end Go.Proofs.YtajlcaconnkodaaDoor

/- The document's sets, by the reference's own calls: Next, All, Runs. -/
namespace Go.Proofs.YtajlcaconnkodaaDoor
open Go.RowKit BS

theorem rhasN' (a : BitVec 256) (x : Nat) (w : World) (hx : x < 256) : Calls Tryd.prog 31 #[setV a, .int .i64 x] w fun e w' => e = .returned (.bool (a.getLsbD x)) ∧ Below w.heap.size w w' := by
  have h := rhas_calls a x w (by omega) (by omega)
  rw [Int.toNat_natCast] at h; exact h

theorem row_below {W W' : World} {base : Nat} {e : TypeId} {size : Nat} {v : Value} {n : Nat} {xs : List Value} (h : W.ownsRow base e size v n xs) (hb : Below W.heap.size W W') : W'.ownsRow base e size v n xs := by
  refine h.kept (row := none) ⟨hb.os, hb.tape, hb.output, hb.size, fun k hk _ => hb.block k hk⟩ ?_
  by_cases hv : v.ownBlock = none
  · exact .inl hv
  · exact .inr hv

set_option maxRecDepth 100000 in
set_option maxHeartbeats 1000000 in
/-- Next, by the document. -/
theorem rnext_calls (s : BitVec 256) (from_ : Int) (w : World) :
    Calls Tryd.prog 20 #[setV s, .int .i64 from_] w fun e w' => e = .returned (.int .i64 (nextOf s.getLsbD from_.toNat)) ∧ Below w.heap.size w w' := by
  have b0 := Blk.new w (setA s) 36
  have hB0 : Below w.heap.size w (w.alloc (.cells (setA s) 36)) := by go_grown
  go_enter Tryd.func20, Tryd.ntmps20
  go_wp2_with fail
  have e0 : w.alloc (.cells #[.int .u64 (wd s 0), .int .u64 (wd s 1), .int .u64 (wd s 2), .int .u64 (wd s 3)] 36) = w.alloc (.cells (setA s) 36) := rfl
  rw [e0]
  clear e0
  generalize w.alloc (.cells (setA s) 36) = w1 at *
  go_loopw [5] (fun i wr => ∃ k : Nat, k ≤ 256 ∧ i = .int .i64 k ∧ (∀ j, from_.toNat ≤ j → j < k → s.getLsbD j = false) ∧ Blk wr w.heap.size (setA s) 36 ∧ Below w.heap.size w wr) (fun i _ => 256 - (intOf i).toNat)
  case atStart => exact ⟨0, Nat.zero_le _, rfl, fun j _ h => by omega, b0, hB0⟩
  case round =>
    clear b0 hB0
    obtain ⟨k, hk, rfl, hno, hbk, hB⟩ := hrel
    have HN := Lib.hid hno
    have BK := Lib.hid hbk
    have HB := Lib.hid hB
    obtain ⟨⟨c0, c1, c2, c3⟩, _⟩ := hbk.cells4
    clear hno hbk hB
    by_cases hkl : k < 256
    · by_cases hf : from_ ≤ (k : Int)
      · have hd : decide (from_ ≤ (k : Int)) = true := by simpa using hf
        cases hx : s.getLsbD k with
        | true =>
          have HX := Lib.hid hx
          clear hx
          go_wp2_with (go_at_call 31; refine (rhasN' s k _ hkl).mono ?_; rintro e w2 ⟨rfl, hb2⟩; rw [HX.out])
          go_ret
          refine ⟨ret_int ?_, HB.out.trans (hb2.mono HB.out.size)⟩
          rw [nextOf_eq hkl (by omega) HX.out (fun j h1 h2 => HN.out j h1 h2)]
        | false =>
          have HX := Lib.hid hx
          clear hx
          go_wp2_with (go_at_call 31; refine (rhasN' s k _ hkl).mono ?_; rintro e w2 ⟨rfl, hb2⟩; rw [HX.out])
          go_roundw
          case rel =>
            refine ⟨k + 1, by omega, by simp, fun j h1 h2 => ?_, BK.out.below hb2 BK.out.lt, HB.out.trans (hb2.mono HB.out.size)⟩
            by_cases hjk : j = k
            · rw [hjk]; exact HX.out
            · exact HN.out j h1 (by omega)
          case measure => simp [intOf]; omega
      · have hd : decide (from_ ≤ (k : Int)) = false := by simpa using hf
        go_wp2
        go_roundw
        case rel => exact ⟨k + 1, by omega, by simp, fun j h1 h2 => HN.out j h1 (by omega), BK.out, HB.out⟩
        case measure => simp [intOf]; omega
    · obtain rfl : k = 256 := by omega
      go_wp2
      go_ret
      exact ⟨ret_int (nextOf_none (fun j h1 h2 => HN.out j h1 h2)).symm, HB.out⟩

theorem info1b : (Tryd.prog.info? 5).map (fun i => (i.zero, i.size, i.bytes)) = some (some (.int .u8 0), 1, 1) := by kernel_rfl
theorem Blk.news1 {W : World} {B : Nat} {a : Value} {t : TypeId} (h : Blk W B #[a] t) : ∀ j u, [a][j]? = some u → W.cell? ((⟨B, 0, none⟩ : Addr).add j) = some u := by
  intro j u hu
  rw [Addr.add_mid, Nat.zero_add, h.cell j]
  simpa using hu
def byteCells (l : List Nat) : List Value := l.map fun (x : Nat) => Value.int .u8 (x : Int)
theorem byteCells_snoc (l : List Nat) (x : Nat) : byteCells (l ++ [x]) = byteCells l ++ [.int .u8 (x : Int)] := by simp [byteCells]

end Go.Proofs.YtajlcaconnkodaaDoor

/- cmp.Compare, cmp.Or, slices.Compare, and the better one of two rows. Stage 12. -/
namespace Go.Proofs.YtajlcaconnkodaaDoor
open Go.RowKit BS

def cmpI (x y : Int) : Int := if x < y then -1 else if y < x then 1 else 0
def cmpL : List Nat → List Nat → Int
  | [], [] => 0
  | [], _ :: _ => -1
  | _ :: _, [] => 1
  | x :: a, y :: b => if x < y then -1 else if y < x then 1 else cmpL a b
theorem cmpL_pos : ∀ A B : List Nat, 0 < cmpL A B ↔ B < A
  | [], [] => by simp [cmpL]
  | [], _ :: _ => by simp [cmpL]
  | _ :: _, [] => by simp [cmpL]
  | x :: a, y :: b => by
    have ih := cmpL_pos a b
    rw [cmpL, List.cons_lt_cons_iff]
    by_cases h1 : x < y
    · rw [if_pos h1]
      constructor
      · intro h; omega
      · rintro (h | ⟨h, _⟩) <;> omega
    · rw [if_neg h1]
      by_cases h2 : y < x
      · rw [if_pos h2]
        exact ⟨fun _ => .inl h2, fun _ => by omega⟩
      · rw [if_neg h2, ih]
        have e : y = x := by omega
        constructor
        · intro h; exact .inr ⟨e, h⟩
        · rintro (h | ⟨_, h⟩)
          · omega
          · exact h
theorem cmpL_small : ∀ A B : List Nat, cmpL A B = -1 ∨ cmpL A B = 0 ∨ cmpL A B = 1
  | [], [] => by simp [cmpL]
  | [], _ :: _ => by simp [cmpL]
  | _ :: _, [] => by simp [cmpL]
  | x :: a, y :: b => by
    have ih := cmpL_small a b
    rw [cmpL]
    split
    · simp
    · split
      · simp
      · exact ih
theorem cmpL_drop (A B : List Nat) (i : Nat) (h1 : i < A.length) (h2 : i < B.length) : cmpL (A.drop i) (B.drop i) = if cmpI A[i] B[i] = 0 then cmpL (A.drop (i + 1)) (B.drop (i + 1)) else cmpI A[i] B[i] := by
  rw [List.drop_eq_getElem_cons h1, List.drop_eq_getElem_cons h2, cmpL]
  unfold cmpI
  generalize A[i] = x
  generalize B[i] = y
  by_cases h3 : x < y
  · have h3' : (x : Int) < (y : Int) := by omega
    simp [h3]
  · have h3' : ¬ (x : Int) < (y : Int) := by omega
    by_cases h4 : y < x
    · have h4' : (y : Int) < (x : Int) := by omega
      simp [h3, h4]
    · have h4' : ¬ (y : Int) < (x : Int) := by omega
      simp [h3, h4]
theorem orI (x y : Int) : (if x ≠ 0 then x else y) = if x = 0 then y else x := by
  by_cases h : x = 0
  · rw [if_neg (by simpa using h), if_pos h]
  · rw [if_pos h, if_neg h]
/-- Is the second row the better one? -/
theorem btr_or (A B : List Nat) : decide (0 < (if cmpI A.length B.length = 0 then cmpL A B else cmpI A.length B.length)) = btr B A := by
  unfold btr cmpI
  by_cases h1 : A.length < B.length
  · rw [if_pos (show (A.length : Int) < B.length by omega), if_neg (by decide), if_pos (by omega)]
    rw [Bool.eq_iff_iff]
    simp
    omega
  · rw [if_neg (show ¬ (A.length : Int) < B.length by omega)]
    by_cases h2 : B.length < A.length
    · rw [if_pos (show (B.length : Int) < A.length by omega), if_neg (by decide), if_pos (by omega)]
      rw [Bool.eq_iff_iff]
      simp
      omega
    · rw [if_neg (show ¬ (B.length : Int) < A.length by omega), if_pos rfl, if_neg (by omega)]
      rw [Bool.eq_iff_iff, decide_eq_true_iff, decide_eq_true_iff]
      exact cmpL_pos A B
set_option maxRecDepth 100000 in
theorem isNaN_int (x : Int) (w : World) : Calls Tryd.prog 48 #[.int .i64 x] w fun e w' => e = .returned (.bool false) ∧ w = w' := by
  go_enter Tryd.func48, Tryd.ntmps48
  go_wp2_with fail
  go_ret
  exact ⟨by simp, rfl⟩
set_option maxRecDepth 100000 in
theorem isNaN_byte (x : Nat) (w : World) : Calls Tryd.prog 50 #[.int .u8 (x : Nat)] w fun e w' => e = .returned (.bool false) ∧ w = w' := by
  go_enter Tryd.func50, Tryd.ntmps50
  go_wp2_with fail
  go_ret
  exact ⟨by simp, rfl⟩
set_option maxRecDepth 100000 in
set_option maxHeartbeats 4000000 in
theorem cmpI_calls (x y : Int) (w : World) : Calls Tryd.prog 46 #[.int .i64 x, .int .i64 y] w fun e w' => e = .returned (.int .i64 (cmpI x y)) ∧ w = w' := by
  have H1 := Lib.hid (fun x W => isNaN_int x W)
  unfold cmpI
  by_cases h1 : x < y
  · have q1 : decide (x < y) = true := decide_eq_true h1
    rw [if_pos h1]
    clear h1
    go_enter Tryd.func46, Tryd.ntmps46
    go_wp2_with fail
    refine (H1.out _ _).mono ?_
    rintro e w1 ⟨rfl, rfl⟩
    go_wp2_with fail
    refine (H1.out _ _).mono ?_
    rintro e w1 ⟨rfl, rfl⟩
    go_wp2_with fail
    go_ret
    exact ⟨rfl, rfl⟩
  · have q1 : decide (x < y) = false := decide_eq_false h1
    rw [if_neg h1]
    by_cases h2 : y < x
    · have q2 : decide (y < x) = true := decide_eq_true h2
      rw [if_pos h2]
      clear h1 h2
      go_enter Tryd.func46, Tryd.ntmps46
      go_wp2_with fail
      refine (H1.out _ _).mono ?_
      rintro e w1 ⟨rfl, rfl⟩
      go_wp2_with fail
      refine (H1.out _ _).mono ?_
      rintro e w1 ⟨rfl, rfl⟩
      go_wp2_with fail
      go_ret
      exact ⟨rfl, rfl⟩
    · have q2 : decide (y < x) = false := decide_eq_false h2
      rw [if_neg h2]
      clear h1 h2
      go_enter Tryd.func46, Tryd.ntmps46
      go_wp2_with fail
      refine (H1.out _ _).mono ?_
      rintro e w1 ⟨rfl, rfl⟩
      go_wp2_with fail
      refine (H1.out _ _).mono ?_
      rintro e w1 ⟨rfl, rfl⟩
      go_wp2_with fail
      go_ret
      exact ⟨rfl, rfl⟩
set_option maxRecDepth 100000 in
set_option maxHeartbeats 4000000 in
theorem cmpB_calls (x y : Nat) (w : World) : Calls Tryd.prog 49 #[.int .u8 (x : Nat), .int .u8 (y : Nat)] w fun e w' => e = .returned (.int .i64 (cmpI x y)) ∧ w = w' := by
  have H1 := Lib.hid (fun x W => isNaN_byte x W)
  unfold cmpI
  by_cases h1 : (x : Int) < (y : Int)
  · have q1 : decide ((x : Int) < (y : Int)) = true := decide_eq_true h1
    have q3 : decide (x < y) = true := decide_eq_true (by omega)
    rw [if_pos h1]
    clear h1
    go_enter Tryd.func49, Tryd.ntmps49
    go_wp2_with fail
    refine (H1.out _ _).mono ?_
    rintro e w1 ⟨rfl, rfl⟩
    go_wp2_with fail
    refine (H1.out _ _).mono ?_
    rintro e w1 ⟨rfl, rfl⟩
    go_wp2_with fail
    go_ret
    exact ⟨rfl, rfl⟩
  · have q1 : decide ((x : Int) < (y : Int)) = false := decide_eq_false h1
    have q3 : decide (x < y) = false := decide_eq_false (by omega)
    rw [if_neg h1]
    by_cases h2 : (y : Int) < (x : Int)
    · have q2 : decide ((y : Int) < (x : Int)) = true := decide_eq_true h2
      have q4 : decide (y < x) = true := decide_eq_true (by omega)
      rw [if_pos h2]
      clear h1 h2
      go_enter Tryd.func49, Tryd.ntmps49
      go_wp2_with fail
      refine (H1.out _ _).mono ?_
      rintro e w1 ⟨rfl, rfl⟩
      go_wp2_with fail
      refine (H1.out _ _).mono ?_
      rintro e w1 ⟨rfl, rfl⟩
      go_wp2_with fail
      go_ret
      exact ⟨rfl, rfl⟩
    · have q2 : decide ((y : Int) < (x : Int)) = false := decide_eq_false h2
      have q4 : decide (y < x) = false := decide_eq_false (by omega)
      rw [if_neg h2]
      clear h1 h2
      go_enter Tryd.func49, Tryd.ntmps49
      go_wp2_with fail
      refine (H1.out _ _).mono ?_
      rintro e w1 ⟨rfl, rfl⟩
      go_wp2_with fail
      refine (H1.out _ _).mono ?_
      rintro e w1 ⟨rfl, rfl⟩
      go_wp2_with fail
      go_ret
      exact ⟨rfl, rfl⟩
set_option maxRecDepth 100000 in
set_option maxHeartbeats 4000000 in
theorem cmpOr_calls (x y : Int) (B : Nat) (w : World) (c0 : w.cell? ⟨B, 0, none⟩ = some (.int .i64 x)) (c1 : w.cell? ⟨B, 1, none⟩ = some (.int .i64 y)) :
    Calls Tryd.prog 45 #[.slice (some ⟨B, 0, none⟩) 2 2] w fun e w' => e = .returned (.int .i64 (if x = 0 then y else x)) ∧ w = w' := by
  go_enter Tryd.func45, Tryd.ntmps45
  go_upto_region 3 with fail
  go_loopw [8] (fun v wr => w = wr ∧ (v = .int .i64 0 ∨ (v = .int .i64 1 ∧ x = 0) ∨ (v = .int .i64 2 ∧ x = 0 ∧ y = 0))) (fun v _ => 3 - (intOf v).toNat)
  case atStart => exact ⟨rfl, .inl rfl⟩
  case round =>
    obtain ⟨rfl, hv⟩ := hrel
    rcases hv with rfl | ⟨rfl, rfl⟩ | ⟨rfl, rfl, rfl⟩
    · by_cases hx : x = 0
      · subst hx
        go_wp2_with fail
        go_roundw
        case rel => simp
        case measure => decide
      · have q : (x != 0) = true := by simpa using hx
        have HX := Lib.hid hx
        clear hx
        go_wp2_with fail
        go_ret
        exact ⟨rfl, rfl⟩
    · by_cases hy : y = 0
      · subst hy
        go_wp2_with fail
        go_roundw
        case rel => simp
        case measure => decide
      · have q : (y != 0) = true := by simpa using hy
        clear hy
        go_wp2_with fail
        go_ret
        exact ⟨rfl, rfl⟩
    · go_wp2_with fail
      go_ret
      exact ⟨rfl, rfl⟩
set_option maxRecDepth 100000 in
set_option maxHeartbeats 8000000 in
theorem cmpS_calls (A B : List Nat) (hA : A.length ≤ 100000) (v u : Value) (w : World) (hv : RowV A v w) (hu : RowV B u w) :
    Calls Tryd.prog 47 #[v, u] w fun e w' => e = .returned (.int .i64 (cmpL A B)) ∧ w = w' := by
  have HV := Lib.hid hv
  have HU := Lib.hid hu
  obtain ⟨a, ca, rfl⟩ := hv.form
  obtain ⟨b, cb, rfl⟩ := hu.form
  clear hv hu
  have HC := Lib.hid (fun x y W => cmpB_calls x y W)
  obtain ⟨R, hR⟩ : ∃ R, cmpL A B = R := ⟨_, rfl⟩
  rw [hR]
  go_enter Tryd.func47, Tryd.ntmps47
  go_upto_region 2 with fail
  go_loopw [11] (fun vi wr => ∃ i : Nat, i ≤ A.length ∧ i ≤ B.length ∧ vi = .int .i64 i ∧ w = wr ∧ cmpL (A.drop i) (B.drop i) = R) (fun vi _ => A.length - (intOf vi).toNat)
  case atStart => exact ⟨0, Nat.zero_le _, Nat.zero_le _, rfl, rfl, by simpa using hR⟩
  case round =>
    clear hR
    obtain ⟨i, hi, hib, rfl, rfl, hcm⟩ := hrel
    have xi : IntKind.i64.wrap ((i : Int) + 1) = (i : Int) + 1 := IntWalk.i64_in _ (by omega)
    by_cases hlt : i < A.length
    · have hd : decide ((i : Int) < (A.length : Int)) = true := by rw [decide_eq_true_iff]; omega
      have hd2 : decide (i < A.length) = true := decide_eq_true hlt
      have hiI : (i : Int) < (A.length : Int) := by omega
      have hva : ∃ g o, a = some ⟨g, o, none⟩ ∧ w.cell? ⟨g, o + i, none⟩ = some (.int .u8 (A[i] : Nat)) := by
        rcases HV.out with ⟨_, e⟩ | ⟨g, o, c, e, _, h⟩
        · rw [e] at hlt; simp at hlt
        · cases e; exact ⟨g, o, rfl, h i hlt⟩
      obtain ⟨g, o, rfl, ci⟩ := hva
      by_cases hlb : i < B.length
      · have hb1 : decide ((B.length : Int) ≤ (i : Int)) = false := decide_eq_false (by omega)
        have hb2 : decide (B.length ≤ i) = false := decide_eq_false (by omega)
        have hb3 : decide (i < B.length) = true := decide_eq_true hlb
        have hbI : (i : Int) < (B.length : Int) := by omega
        have hvb : ∃ g o, b = some ⟨g, o, none⟩ ∧ w.cell? ⟨g, o + i, none⟩ = some (.int .u8 (B[i] : Nat)) := by
          rcases HU.out with ⟨_, e⟩ | ⟨g, o, c, e, _, h⟩
          · rw [e] at hlb; simp at hlb
          · cases e; exact ⟨g, o, rfl, h i hlb⟩
        obtain ⟨g2, o2, rfl, ci2⟩ := hvb
        rw [cmpL_drop A B i hlt hlb] at hcm
        generalize A[i] = x at *
        generalize B[i] = y at *
        have HCC := Lib.hid (HC.out x y w)
        generalize cmpI x y = k at *
        by_cases hk : k = 0
        · subst hk
          rw [if_pos rfl] at hcm
          have HCM := Lib.hid hcm
          clear hcm
          go_wp2_with fail
          refine HCC.out.mono ?_
          rintro e w2 ⟨rfl, rfl⟩
          go_wp2_with fail
          go_roundw
          case rel => exact ⟨i + 1, by omega, by omega, by simp, by first | exact trivial | rfl, HCM.out⟩
          case measure => simp [intOf]; omega
        · rw [if_neg hk] at hcm
          have q : (k != 0) = true := by simpa using hk
          have HCM := Lib.hid hcm
          clear hcm hk
          go_wp2_with fail
          refine HCC.out.mono ?_
          rintro e w2 ⟨rfl, rfl⟩
          go_wp2_with fail
          go_ret
          exact ⟨by rw [← HCM.out] <;> rfl, rfl⟩
      · have hb1 : decide ((B.length : Int) ≤ (i : Int)) = true := decide_eq_true (by omega)
        have hb2 : decide (B.length ≤ i) = true := decide_eq_true (by omega)
        rw [List.drop_eq_getElem_cons hlt, List.drop_eq_nil_of_le (show B.length ≤ i by omega), cmpL] at hcm
        have HCM := Lib.hid hcm
        clear hcm
        go_wp2_with fail
        go_ret
        exact ⟨by rw [← HCM.out] <;> rfl, rfl⟩
    · obtain rfl : i = A.length := by omega
      have hd : decide ((A.length : Int) < (A.length : Int)) = false := by simp
      rw [List.drop_length] at hcm
      by_cases hab : A.length < B.length
      · have q1 : decide ((A.length : Int) < (B.length : Int)) = true := decide_eq_true (by omega)
        have q2 : decide (A.length < B.length) = true := decide_eq_true hab
        rw [List.drop_eq_getElem_cons hab, cmpL] at hcm
        have HCM := Lib.hid hcm
        clear hcm
        go_wp2_with fail
        go_ret
        exact ⟨by rw [← HCM.out] <;> rfl, rfl⟩
      · have q1 : decide ((A.length : Int) < (B.length : Int)) = false := decide_eq_false (by omega)
        have q2 : decide (A.length < B.length) = false := decide_eq_false hab
        rw [List.drop_eq_nil_of_le (show B.length ≤ A.length by omega), cmpL] at hcm
        have HCM := Lib.hid hcm
        clear hcm
        go_wp2_with fail
        go_ret
        exact ⟨by rw [← HCM.out] <;> rfl, rfl⟩
set_option maxRecDepth 100000 in
set_option maxHeartbeats 8000000 in
theorem better_calls (A B : List Nat) (hA : A.length ≤ 100000) (v u : Value) (w : World) (hv : RowV A v w) (hu : RowV B u w) :
    Calls Tryd.prog 38 #[v, u] w fun e w' => e = .returned (if btr B A = true then u else v) ∧ Below w.heap.size w w' := by
  have HS := Lib.hid (cmpS_calls A B hA v u w hv hu)
  have HI := Lib.hid (cmpI_calls A.length B.length w)
  have HB := Lib.hid (btr_or A B)
  obtain ⟨a, ca, rfl⟩ := hv.form
  obtain ⟨b, cb, rfl⟩ := hu.form
  clear hv hu
  obtain ⟨bt, hbt⟩ : ∃ bt, btr B A = bt := ⟨_, rfl⟩
  rw [hbt] at HB ⊢
  clear hbt
  generalize cmpI A.length B.length = x at *
  generalize cmpL A B = y at *
  have hx := Blk.new w #[.int .i64 x, .int .i64 y] 3
  have HO := Lib.hid (cmpOr_calls x y w.heap.size _ (hx.cell 0) (hx.cell 1))
  have HBB := Lib.hid ((Below.refl w.heap.size w).alloc (Nat.le_refl _) (.cells #[.int .i64 x, .int .i64 y] 3))
  clear hx
  generalize (if x = 0 then y else x) = z at *
  have hz := HB.out
  clear HB
  go_enter Tryd.func38, Tryd.ntmps38
  go_wp2_with fail
  refine HI.out.mono ?_
  rintro e w1 ⟨rfl, rfl⟩
  clear HI
  go_wp2_with fail
  refine HS.out.mono ?_
  rintro e w1 ⟨rfl, rfl⟩
  clear HS
  go_wp2_with fail
  generalize w.alloc (.cells #[.int .i64 x, .int .i64 y] 3) = w2 at *
  refine HO.out.mono ?_
  rintro e w1 ⟨rfl, rfl⟩
  clear HO
  cases bt
  all_goals
    go_wp2_with fail
    go_ret
    exact ⟨rfl, HBB.out⟩
end Go.Proofs.YtajlcaconnkodaaDoor

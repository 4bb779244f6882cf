/- Texts put together: Bk Ab Ac Ad Ae Aj Ah Ai Bl As At St Su Sv. -/
import Derived.RangeFuncBox
import Derived.RangeFuncFrom
import Derived.WalkKit
import Derived.Test.YtldaaelmifbbhaaGreatChecked
import Derived.Test.YtldaaelmifbbhaaGreatPA
import Derived.WalkLawsBesides
import Derived.LoopTactic
import Derived.Lib.Hide
import Derived.Handy
import Derived.IntWalk
import Derived.Test.YtldaaelmifbbhaaGreatPB
import Derived.Deep.OwnRows
import Derived.Outline
import Derived.Deep.DeepCutAuto
import Derived.Laws.Rows
import Derived.Laws.Tables
import Derived.Laws.CopyOwn
import Derived.Deep.Draws
import Derived.RangeFuncNested
import Derived.RangeFuncBound
import Derived.RangeFuncCalls
import Derived.RangeFuncLeaves
import Derived.Shelf.Abstract
import Derived.Shelf.RegionOpen
import Derived.OwnWalkIn
import Derived.TacticsInMore
import Derived.LoopNIn
import Derived.LoopIn
/- A whole block of cells, known by what it holds: kept and written to. Nothing of the program is used. -/
namespace Go.Proofs.YtldaaelmifbbhaaGreat
open Go.RowKit

def Blk (W : World) (B : Nat) (vs : Array Value) (t : TypeId) : Prop := W.heap[B]? = some (.cells vs t (0, 0))

theorem Blk.lt {W : World} {B : Nat} {vs : Array Value} {t : TypeId} (h : Blk W B vs t) : B < W.heap.size := (Array.getElem?_eq_some_iff.1 h).1
theorem Blk.cell {W : World} {B : Nat} {vs : Array Value} {t : TypeId} (h : Blk W B vs t) (i : Nat) : W.cell? ⟨B, i, none⟩ = vs[i]? := by simp [World.cell?, show W.heap[B]? = _ from h]
theorem Blk.frozen {W : World} {B : Nat} {vs : Array Value} {t : TypeId} (h : Blk W B vs t) (i : Nat) : W.frozen? ⟨B, i, none⟩ = false := by simp [World.frozen?, show W.heap[B]? = _ from h]
theorem Blk.new (W : World) (vs : Array Value) (t : TypeId) : Blk (W.alloc (.cells vs t)) W.heap.size vs t := World.alloc_heap_new W _
theorem Blk.kept {W W' : World} {row : Option Nat} {B : Nat} {vs : Array Value} {t : TypeId} (h : Blk W B vs t) (hg : W.grownBy W' row) (hne : some B ≠ row) : Blk W' B vs t := (hg.block B h.lt hne).trans h
theorem Blk.alloc {W : World} {B : Nat} {vs : Array Value} {t : TypeId} (h : Blk W B vs t) (o : Obj) : Blk (W.alloc o) B vs t := h.kept (World.grownBy_alloc W o none) (by simp)
theorem Blk.drew {W : World} {B : Nat} {vs : Array Value} {t : TypeId} (h : Blk W B vs t) : Blk W.drew B vs t := h
theorem Blk.below {W W' : World} {n B : Nat} {vs : Array Value} {t : TypeId} (h : Blk W B vs t) (hb : Below n W W') (hB : B < n) : Blk W' B vs t := (hb.block B hB).trans h
theorem Blk.set {W : World} {B : Nat} {vs : Array Value} {t : TypeId} (h : Blk W B vs t) (i : Nat) (v : Value) : Blk (W.setCell ⟨B, i, none⟩ v) B (vs.setIfInBounds i v) t := by
  obtain ⟨hlt, hk⟩ := Array.getElem?_eq_some_iff.1 h
  show (W.heap.modify B _)[B]? = _
  rw [Array.getElem?_eq_getElem (by rw [Array.size_modify]; exact hlt), Array.getElem_modify_self, hk]
  rfl
theorem Blk.other {W : World} {B B' : Nat} {vs : Array Value} {t : TypeId} (h : Blk W B vs t) (hne : B ≠ B') (i : Nat) (v : Value) : Blk (W.setCell ⟨B', i, none⟩ v) B vs t :=
  (Below.heap_setCell W ⟨B', i, none⟩ v B hne).trans h
theorem Blk.not_row {W : World} {B : Nat} {vs : Array Value} {t : TypeId} (h : Blk W B vs t) {row : Option Nat} (hr : ∀ r, row = some r → ∃ o : Obj, W.heap[r]? = some o ∧ o.isCells = false) : some B ≠ row := fun e => by
  obtain ⟨o, ho, hc⟩ := hr B e.symm
  rw [show W.heap[B]? = _ from h] at ho; cases ho; cases hc
theorem Blk.not_own {W : World} {B : Nat} {vs : Array Value} {t e : TypeId} (h : Blk W B vs t) (hte : t ≠ e) {base size k : Nat} {v : Value} {xs : List Value} (hr : W.ownsRow base e size v k xs) : some B ≠ v.ownBlock := by
  rcases hr.2 with ⟨rfl, _⟩ | ⟨g, cap, cur, rfl, _, hgb, _⟩
  · simp [Value.ownBlock]
  · intro e'
    obtain rfl : B = g := by simpa [Value.ownBlock] using e'
    have := (show W.heap[B]? = _ from h).symm.trans hgb
    simp at this
    exact hte this.2
theorem Blk.own {β : Type} (B : Nat) (f : β → Array Value) (t : TypeId) : Own (fun s W => Blk W B (f s) t) := fun _ _ _ _ hs hg hr => hs.kept hg (hs.not_row hr)
theorem Blk.putObj {W : World} {B : Nat} {vs : Array Value} {t : TypeId} (h : Blk W B vs t) {l : Nat} {o : Obj} (o' : Obj) (hl : W.heap[l]? = some o) (ho : o.isCells = false) : Blk (W.putObj l o') B vs t :=
  h.kept (grownBy_putObj' W l o') (h.not_row fun r e => by cases e; exact ⟨o, hl, ho⟩)
/-- What the world's first blocks are is kept where only a later block is written to. -/
theorem below_set {n B : Nat} {W W' : World} (hb : Below n W W') (hB : n ≤ B) (i : Nat) (v : Value) : Below n W (W'.setCell ⟨B, i, none⟩ v) := hb.setCell (p := ⟨B, i, none⟩) hB v
end Go.Proofs.YtldaaelmifbbhaaGreat

/- The document's trees: Formed. -/
namespace Go.Proofs.YtldaaelmifbbhaaGreat
open Go.RowKit BS

structure NdN where
  kind : Int
  kids : Int
  n : Int
  m : Int
  set : BitVec 256
@[reducible] def ndI (k c n m : Int) (t : BitVec 256) : Array Value := #[.int .i64 k, .int .i64 c, .int .i64 n, .int .i64 m, .int .u64 (wd t 0), .int .u64 (wd t 1), .int .u64 (wd t 2), .int .u64 (wd t 3)]
def ndA (x : NdN) : Array Value := ndI x.kind x.kids x.n x.m x.set
/-- A slice of nodes. -/
def NodesAt (l : List NdN) (a : Option Addr) (W : World) : Prop :=
  l ≠ [] → ∃ g off, a = some ⟨g, off, none⟩ ∧ g < W.heap.size ∧ ∀ i (h : i < l.length) j, j < 8 → W.cell? ⟨g, off + i * 8 + j, none⟩ = (ndA l[i])[j]?
theorem NodesAt.below {l : List NdN} {a : Option Addr} {W W' : World} (h : NodesAt l a W) (hb : Below W.heap.size W W') : NodesAt l a W' := fun hne => by
  obtain ⟨g, off, e, hg, hc⟩ := h hne
  exact ⟨g, off, e, Nat.lt_of_lt_of_le hg hb.size, fun i hi j hj => (hb.cell (p := ⟨g, off + i * 8 + j, none⟩) hg).trans (hc i hi j hj)⟩

end Go.Proofs.YtldaaelmifbbhaaGreat

/- The document's trees: piece, kid; Ints of the same numbers. -/
namespace Go.Proofs.YtldaaelmifbbhaaGreat
open Go.RowKit BS

/-- A slice of whole numbers. -/
def IntsAt (l : List Int) (a : Option Addr) (W : World) : Prop := l ≠ [] → ∃ g, a = some ⟨g, 0, none⟩ ∧ g < W.heap.size ∧ ∀ i (h : i < l.length), W.cell? ⟨g, i, none⟩ = some (.int .i64 l[i])
theorem IntsAt.below {l : List Int} {a : Option Addr} {W W' : World} (h : IntsAt l a W) (hb : Below W.heap.size W W') : IntsAt l a W' := fun hne => by
  obtain ⟨g, e, hg, hc⟩ := h hne
  exact ⟨g, e, Nat.lt_of_lt_of_le hg hb.size, fun i hi => (hb.cell (p := ⟨g, i, none⟩) hg).trans (hc i hi)⟩
/-- A slice of whole numbers that may begin within its block. -/
def IntsO (l : List Int) (a : Option Addr) (W : World) : Prop := l ≠ [] → ∃ g o, a = some ⟨g, o, none⟩ ∧ g < W.heap.size ∧ ∀ i (h : i < l.length), W.cell? ⟨g, o + i, none⟩ = some (.int .i64 l[i])
theorem IntsO.below {l : List Int} {a : Option Addr} {W W' : World} (h : IntsO l a W) (hb : Below W.heap.size W W') : IntsO l a W' := fun hne => by
  obtain ⟨g, o, e, hg, hc⟩ := h hne
  exact ⟨g, o, e, Nat.lt_of_lt_of_le hg hb.size, fun i hi => (hb.cell (p := ⟨g, o + i, none⟩) hg).trans (hc i hi)⟩
theorem IntsAt.o {l : List Int} {a : Option Addr} {W : World} (h : IntsAt l a W) : IntsO l a W := fun hne => by
  obtain ⟨g, e, hg, hc⟩ := h hne
  exact ⟨g, 0, e, hg, fun i hi => by rw [Nat.zero_add]; exact hc i hi⟩
def SIn (w : World) (g1 o1 g2 o2 i : Nat) (x : Int) (W : World) : Prop := W.cell? ⟨g1, o1 + i, none⟩ = some (.int .i64 x) ∧ W.cell? ⟨g2, o2 + i, none⟩ = some (.int .i64 x) ∧ W = w
end Go.Proofs.YtldaaelmifbbhaaGreat

/- The document's trees: Sizes. -/
namespace Go.Proofs.YtldaaelmifbbhaaGreat
open Go.RowKit BS

theorem len_le_sum : ∀ (s : List Nat), (∀ x ∈ s, 0 < x) → s.length ≤ s.sum
  | [], _ => Nat.le_refl _
  | z :: s, h => by
    have h1 := h z (List.mem_cons_self ..)
    have h2 := len_le_sum s (fun x hx => h x (List.mem_cons_of_mem _ hx))
    rw [List.length_cons, List.sum_cons]
    omega
/-- Kids' numbers, and sizes, of a list of nodes. -/
def ksN (l : List NdN) : List Nat := (l.map NdN.kids).map Int.toNat
def sizesR (l : List NdN) : List Int := if manyF 0 (l.map NdN.kids) = some 1 then (sizesF [] (ksN l)).map (fun x : Nat => (x : Int)) else []
end Go.Proofs.YtldaaelmifbbhaaGreat

/- The document's trees: Kids. -/
namespace Go.Proofs.YtldaaelmifbbhaaGreat
open Go.RowKit BS

theorem allKids_at (ks : List Nat) (i : Nat) (hi : i < ks.length) (s : List Nat) (hs : stackF [] (ks.take i) = some s) : (allKids 0 [] ks)[i]? = some ((posF i s).take ks[i]) := by
  have e : ks = ks.take i ++ (ks[i] :: ks.drop (i + 1)) := by rw [← List.drop_eq_getElem_cons hi, List.take_append_drop]
  have hl : (allKids 0 [] (ks.take i)).length = i := by rw [allKids_len, List.length_take]; omega
  have ea : allKids 0 [] ks = allKids 0 [] (ks.take i) ++ (posF i s).take ks[i] :: allKids (i + 1) (stepF s ks[i]) (ks.drop (i + 1)) := by
    conv => lhs; rw [e]
    rw [allKids_append _ _ _ _ _ hs, List.length_take, show 0 + min i ks.length = i by omega, allKids]
  rw [ea, List.getElem?_append_right (by omega), hl, Nat.sub_self]
  rfl
/-- The places of a node's kids, from the left. -/
def kidsR (l : List NdN) (i : Int) : List Int := if manyF 0 (l.map NdN.kids) = some 1 ∧ 0 ≤ i ∧ i < (l.length : Int) then ((((allKids 0 [] (ksN l))[i.toNat]?).getD []).reverse).map (fun x : Nat => (x : Int)) else []
end Go.Proofs.YtldaaelmifbbhaaGreat

/- Patterns' trees, plainly: groups' numbers of a list of nodes; a node by itself; a pattern's tree. -/
namespace Go.Proofs.YtldaaelmifbbhaaGreat
open Go.RowKit BS

theorem sizesR_len (l : List NdN) : (sizesR l).length = if manyF 0 (l.map NdN.kids) = some 1 then l.length else 0 := by
  unfold sizesR
  by_cases hf : manyF 0 (l.map NdN.kids) = some 1
  · rw [if_pos hf, if_pos hf, List.length_map, sizesF_len]; simp [ksN]
  · rw [if_neg hf, if_neg hf]; rfl
theorem sizesR_le (l : List NdN) : (sizesR l).length ≤ l.length := by
  rw [sizesR_len]
  split
  · exact Nat.le_refl _
  · exact Nat.zero_le _
/-- Node i's kind; where its first node is, less one. -/
def kdN (l : List NdN) : Nat → Int := kindF (l.map NdN.kind)
def fiN (l : List NdN) (i : Nat) : Int := (i : Int) - (sizesR l).getD i 0
/-- Groups' numbers. -/
def numsR (l : List NdN) : List Int := (List.range (sizesR l).length).map fun i => ((numF (kdN l) (fiN l) (sizesR l).length i : Nat) : Int)
theorem kdN_get (l : List NdN) (i : Nat) (h : i < l.length) : kdN l i = l[i].kind := by
  unfold kdN kindF
  rw [List.getD_eq_getElem?_getD, List.getElem?_eq_getElem (by simpa using h), Option.getD_some, List.getElem_map]
theorem fiN_get (l : List NdN) (i : Nat) (h : i < (sizesR l).length) : fiN l i = (i : Int) - (sizesR l)[i] := by
  unfold fiN
  rw [List.getD_eq_getElem?_getD, List.getElem?_eq_getElem h, Option.getD_some]
theorem sizesR_bound (l : List NdN) (i : Nat) (h : i < (sizesR l).length) : 0 ≤ (sizesR l)[i] ∧ (sizesR l)[i] ≤ i + 1 := by
  have hf : manyF 0 (l.map NdN.kids) = some 1 := by
    rw [sizesR_len] at h
    by_cases hf : manyF 0 (l.map NdN.kids) = some 1
    · exact hf
    · rw [if_neg hf] at h; omega
  have hR : sizesR l = (sizesF [] (ksN l)).map (fun x : Nat => (x : Int)) := if_pos hf
  obtain ⟨hk0, hst⟩ := (formed_iff (l.map NdN.kids)).1 hf
  have hst : stackF [] (ksN l) = some [(l.map NdN.kids).length] := hst
  have hkl : (ksN l).length = l.length := by simp [ksN]
  have hi : i < (ksN l).length := by
    rw [sizesR_len, if_pos hf] at h
    omega
  obtain ⟨s, hs, hks, hsum⟩ := stack_at (ksN l) [] _ hst i hi
  obtain ⟨_, _, hsi⟩ := roots_at (ksN l) i hi s hs
  have hle := take_sum_le s (ksN l)[i]
  have hi2 : i < (sizesF [] (ksN l)).length := by rw [sizesF_len]; exact hi
  have e : (sizesR l)[i] = (((sizesF [] (ksN l))[i] : Nat) : Int) := by simp only [hR, List.getElem_map]
  have hs2 : s.sum = i := by simpa using hsum
  rw [e]
  rw [List.getElem?_eq_getElem hi2] at hsi
  have hsi := Option.some.inj hsi
  omega
/-- How many of the first k nodes are groups that do not begin behind node i's. -/
def cntN (l : List NdN) (i k : Nat) : Nat := (List.range k).countP fun k => kdN l k == 3 && leF (fiN l) k i
theorem cntN_step (l : List NdN) (i k : Nat) : cntN l i (k + 1) = cntN l i k + if (kdN l k == 3 && leF (fiN l) k i) = true then 1 else 0 := by
  unfold cntN
  rw [List.range_succ, List.countP_append]
  simp [List.countP_cons]
theorem cntN_le (l : List NdN) (i k : Nat) : cntN l i k ≤ k := by
  unfold cntN
  have := List.countP_le_length (p := fun k => kdN l k == 3 && leF (fiN l) k i) (l := List.range k)
  rw [List.length_range] at this
  exact this
theorem cntN_num (l : List NdN) (i : Nat) (h : kdN l i = 3) : cntN l i (sizesR l).length = numF (kdN l) (fiN l) (sizesR l).length i := (num_count _ _ _ _ h).symm

/-- May a node be, but for its kids' kinds? -/
def nodeF (x : NdN) : Bool :=
  if x.kind ≠ 2 ∧ x.set ≠ 0 then false
  else if x.kind ≠ 4 ∧ (x.n ≠ 0 ∨ x.m ≠ 0) then false
  else if x.kind = 1 ∨ x.kind = 2 then x.kids == 0
  else if x.kind = 3 then x.kids == 1
  else if x.kind = 4 then x.kids == 1 && rightN x.n x.m
  else if x.kind = 5 ∨ x.kind = 6 then decide (2 ≤ x.kids)
  else false
/-- May node i's kids be its kids? -/
def kidsOkB (l : List NdN) (i : Nat) : Bool := (kidsR l i).all fun x => kidF (kdN l i) (kdN l x.toNat)
def okN (l : List NdN) (i : Nat) : Bool := nodeF (l.getD i ⟨0, 0, 0, 0, 0⟩) && kidsOkB l i
def grpN (l : List NdN) (k : Nat) : Nat := (List.range k).countP fun i => kdN l i == 3
/-- Is a list a pattern's tree? -/
def rightR (l : List NdN) : Bool := decide (manyF 0 (l.map NdN.kids) = some 1) && ((List.range l.length).all (okN l) && decide (grpN l l.length ≤ 9))
theorem grpN_step (l : List NdN) (k : Nat) : grpN l (k + 1) = grpN l k + if (kdN l k == 3) = true then 1 else 0 := by
  unfold grpN
  rw [List.range_succ, List.countP_append]
  simp [List.countP_cons]
theorem grpN_le (l : List NdN) (k : Nat) : grpN l k ≤ k := by
  unfold grpN
  have := List.countP_le_length (p := fun i => kdN l i == 3) (l := List.range k)
  rw [List.length_range] at this
  exact this
end Go.Proofs.YtldaaelmifbbhaaGreat

/- The document's trees: Numbers. -/
namespace Go.Proofs.YtldaaelmifbbhaaGreat
open Go.RowKit BS

def SNm (w0 : World) (g i k : Nat) (x y : Int) (W : World) : Prop := W.cell? ⟨g, i, none⟩ = some (.int .i64 x) ∧ W.cell? ⟨g, k, none⟩ = some (.int .i64 y) ∧ W = w0
end Go.Proofs.YtldaaelmifbbhaaGreat

/- The document's trees: node, Right. -/
namespace Go.Proofs.YtldaaelmifbbhaaGreat
open Go.RowKit BS

theorem kidsR_bound (l : List NdN) (i : Nat) (x : Int) (hx : x ∈ kidsR l i) : 0 ≤ x ∧ x < l.length := by
  unfold kidsR at hx
  by_cases hf : manyF 0 (l.map NdN.kids) = some 1 ∧ 0 ≤ (i : Int) ∧ (i : Int) < (l.length : Int)
  · rw [if_pos hf] at hx
    obtain ⟨y, hy, rfl⟩ := List.mem_map.1 hx
    rw [List.mem_reverse, show (i : Int).toNat = i from rfl] at hy
    have hkl : (ksN l).length = l.length := by simp [ksN]
    have hlt := allKids_lt (ksN l) [] 0 (fun h => absurd rfl h)
    have hal := allKids_len (ksN l) [] 0
    have hi : i < (allKids 0 [] (ksN l)).length := by rw [hal, hkl]; omega
    rw [List.getElem?_eq_getElem hi, Option.getD_some] at hy
    have := hlt _ (List.getElem_mem hi) y hy
    omega
  · rw [if_neg hf] at hx; cases hx
theorem kidsR_len (l : List NdN) (i : Nat) : (kidsR l i).length ≤ l.length := by
  unfold kidsR
  by_cases hf : manyF 0 (l.map NdN.kids) = some 1 ∧ 0 ≤ (i : Int) ∧ (i : Int) < (l.length : Int)
  · rw [if_pos hf, show (i : Int).toNat = i from rfl]
    obtain ⟨hk0, hst⟩ := (formed_iff (l.map NdN.kids)).1 hf.1
    have hst : stackF [] (ksN l) = some [(l.map NdN.kids).length] := hst
    have hkl : (ksN l).length = l.length := by simp [ksN]
    have hi : i < (ksN l).length := by omega
    obtain ⟨s, hs, hks, hsum⟩ := stack_at (ksN l) [] _ hst i hi
    have hpl := len_le_sum s (stackF_pos ((ksN l).take i) [] s (by simp) hs)
    have hsumi : s.sum = i := by simpa using hsum
    rw [allKids_at (ksN l) i hi s hs, Option.getD_some, List.length_map, List.length_reverse, List.length_take, posF_len]
    omega
  · rw [if_neg hf]; exact Nat.zero_le _
def SRi (w0 : World) (g off i x : Nat) (a b : Int) (g2 k : Nat) (W : World) : Prop :=
  (W.cell? ⟨g, off + i * 8, none⟩ = some (.int .i64 a) ∧ W.cell? ⟨g, off + x * 8, none⟩ = some (.int .i64 b) ∧ W.cell? ⟨g2, k, none⟩ = some (.int .i64 x)) ∧ W = w0
/-- Up to node i, and to kid k of it, all is right. -/
theorem okN_split (l : List NdN) (i : Nat) (h : i < l.length) : okN l i = (nodeF l[i] && kidsOkB l i) := by
  unfold okN
  rw [List.getD_eq_getElem?_getD, List.getElem?_eq_getElem h, Option.getD_some]
theorem rightR_no (l : List NdN) (i : Nat) (h : i < l.length) (h2 : okN l i = false) : rightR l = false := by
  unfold rightR
  have : (List.range l.length).all (okN l) = false := by
    rw [List.all_eq_false]
    exact ⟨i, List.mem_range.2 h, by rw [h2]; decide⟩
  rw [this]; simp
end Go.Proofs.YtldaaelmifbbhaaGreat

/- A whole block that is written at once. Nothing of the program is used. -/
namespace Go.Proofs.YtldaaelmifbbhaaGreat
open Go.RowKit

theorem Blk.setRow {W : World} {B : Nat} {vs cs : Array Value} {t : TypeId} (h : Blk W B vs t) : Blk (W.setRow B cs) B cs t := by
  obtain ⟨hlt, hk⟩ := Array.getElem?_eq_some_iff.1 h
  show (W.heap.modify B _)[B]? = _
  rw [Array.getElem?_eq_getElem (by rw [Array.size_modify]; exact hlt), Array.getElem_modify_self, hk]
theorem run_storeAt_row {P : Program} (w : World) (g : Nat) (t ty : TypeId) (old cells : Array Value) (hg : w.heap[g]? = some (.cells old t (0, 0))) (hi : (P.info? ty).map (·.size) = some cells.size) (ho : old.size = cells.size) (h1 : cells.all (·.oneCell') = true) :
    (Instr.storeAt ty (.pointer (some ⟨g, 0, none⟩)) (.agg cells)).run P w = .ok () (w.setRow g cells) := by
  simp only [Instr.storeAt, Instr.sureAddr, Sem.run_bind, Sem.run_pure, Result.andThen]
  exact run_storeVar_row _ _ t ty old cells hg hi ho h1

theorem wp_store_row {P : Program} {o : Oper} {a : Act} {w w' : World} {K : Act → World → Prop} {Q : Exit → Act → World → Prop} {cs : Array Value} (ty : TypeId) (x y : Operand) (ho : o.op = .store ty x y)
    (g : Nat) (hx : a.eval x = .pointer (some ⟨g, 0, none⟩)) (hy : a.eval y = .agg cs) (hst : (Instr.storeAt ty (.pointer (some ⟨g, 0, none⟩)) (.agg cs)).run P w = .ok () w') (h : K (a.put o.dst undef) w') : o.wp P a w K Q := by
  unfold Oper.wp execOp
  simp only [ho, hx, hy, Sem.run_bind, Sem.run_pure, hst, Result.andThen_ok]
  exact h
theorem wpList_store_st {P : Program} {ops : Array Oper} {rest : List Oper} {o : Oper} {a : Act} {w w' : World} {Q : Exit → Act → World → Prop} {cs : Array Value} (hgd : o.guard = none) (ty : TypeId) (x y : Operand) (ho : o.op = .store ty x y)
    (g : Nat) (hx : a.eval x = .pointer (some ⟨g, 0, none⟩)) (hy : a.eval y = .agg cs) (hst : (Instr.storeAt ty (.pointer (some ⟨g, 0, none⟩)) (.agg cs)).run P w = .ok () w') (h : wpList P ops Q rest (a.put o.dst undef) w') : wpList P ops Q (o :: rest) a w :=
  wpList_plain hgd fun _ hK => wp_store_row ty x y ho g hx hy hst (hK _ _ h)
theorem below_row {n B : Nat} {W W' : World} (hb : Below n W W') (hB : n ≤ B) (cs : Array Value) : Below n W (W'.setRow B cs) := below_setRow hb hB cs
theorem Blk.newsL {W : World} {B : Nat} {vs : Array Value} {t : TypeId} (h : Blk W B vs t) : ∀ j u, vs.toList[j]? = some u → W.cell? ((⟨B, 0, none⟩ : Addr).add j) = some u := by
  intro j u hu
  have e : (⟨B, 0, none⟩ : Addr).add j = ⟨B, j, none⟩ := by
    unfold Addr.add
    by_cases h0 : j = 0
    · subst h0; rfl
    · rw [if_neg h0, Nat.zero_add]
  rw [e, h.cell j]
  simpa using hu
theorem Blk.drewN {W : World} {B : Nat} {vs : Array Value} {t : TypeId} (h : Blk W B vs t) : ∀ n, Blk (W.drewN n) B vs t
  | 0 => h
  | n + 1 => Blk.drewN (W := W.drew) h n
theorem below_drN {m : Nat} {w W : World} (h : Below m w W) (n : Nat) : Below m w (W.drewN n) := h.trans ⟨rfl, rfl, rfl, Nat.le_refl _, fun _ _ => rfl⟩
end Go.Proofs.YtldaaelmifbbhaaGreat

/- The laws of stage 6: what they want of the package ast; sure, AstTells, AstKids, AstNumbers. -/
namespace Go.Proofs.YtldaaelmifbbhaaGreat
open Go.RowKit BS

/-- A slice of whole numbers in memory that is new. -/
def IntsB (base : Nat) (l : List Int) (a : Option Addr) (W : World) : Prop := l ≠ [] → ∃ g o, a = some ⟨g, o, none⟩ ∧ base ≤ g ∧ g < W.heap.size ∧ ∀ i (h : i < l.length), W.cell? ⟨g, o + i, none⟩ = some (.int .i64 l[i])
theorem IntsB.o {base : Nat} {l : List Int} {a : Option Addr} {W : World} (h : IntsB base l a W) : IntsO l a W := fun hne => by
  obtain ⟨g, o, e, _, hg, hc⟩ := h hne
  exact ⟨g, o, e, hg, hc⟩
theorem IntsB.below {base : Nat} {l : List Int} {a : Option Addr} {W W' : World} (h : IntsB base l a W) (hb : Below W.heap.size W W') : IntsB base l a W' := fun hne => by
  obtain ⟨g, o, e, h0, hg, hc⟩ := h hne
  exact ⟨g, o, e, h0, Nat.lt_of_lt_of_le hg hb.size, fun i hi => (hb.cell (p := ⟨g, o + i, none⟩) hg).trans (hc i hi)⟩
theorem IntsB.set {base : Nat} {l : List Int} {a : Option Addr} {W : World} (h : IntsB base l a W) {B : Nat} (hB : B < base) (x : Nat) (v : Value) : IntsB base l a (W.setCell ⟨B, x, none⟩ v) := fun hne => by
  obtain ⟨g, o, e, h0, hg, hc⟩ := h hne
  refine ⟨g, o, e, h0, by simpa using hg, fun i hi => ?_⟩
  exact (World.cell?_of_block (w := W) (a := ⟨g, o + i, none⟩) (Below.heap_setCell W ⟨B, x, none⟩ _ g (by show g ≠ B; omega))).trans (hc i hi)
theorem IntsO.alloc {l : List Int} {a : Option Addr} {W : World} (h : IntsO l a W) (o : Obj) : IntsO l a (W.alloc o) := h.below ((Below.refl _ _).alloc (Nat.le_refl _) o)
theorem NodesAt.alloc {l : List NdN} {a : Option Addr} {W : World} (h : NodesAt l a W) (o : Obj) : NodesAt l a (W.alloc o) := h.below ((Below.refl _ _).alloc (Nat.le_refl _) o)
/-- Whole numbers in a block of their own. -/
theorem IntsO.of_blk {l : List Int} {W : World} {g : Nat} {t : TypeId} (h : Blk W g (l.map (Value.int .i64)).toArray t) : IntsO l (some ⟨g, 0, none⟩) W := fun _ =>
  ⟨g, 0, rfl, h.lt, fun i hi => by rw [Nat.zero_add, h.cell i]; simp [hi]⟩

/-! ### sure -/
def l6 : List NdN := [⟨2, 0, 0, 0, 0⟩, ⟨2, 0, 0, 0, 0⟩, ⟨3, 1, 0, 0, 0⟩, ⟨5, 2, 0, 0, 0⟩]
@[reducible] def c6 : Array Value := #[.int .i64 2, .int .i64 0, .int .i64 0, .int .i64 0, .int .u64 0, .int .u64 0, .int .u64 0, .int .u64 0, .int .i64 2, .int .i64 0, .int .i64 0, .int .i64 0, .int .u64 0, .int .u64 0, .int .u64 0, .int .u64 0, .int .i64 3, .int .i64 1, .int .i64 0, .int .i64 0, .int .u64 0, .int .u64 0, .int .u64 0, .int .u64 0, .int .i64 5, .int .i64 2, .int .i64 0, .int .i64 0, .int .u64 0, .int .u64 0, .int .u64 0, .int .u64 0]
theorem l6_formed : decide (manyF 0 (l6.map NdN.kids) = some 1) = true := by decide +kernel
theorem l6_right : rightR l6 = true := by decide +kernel
theorem l6_two : decide (manyF 0 ((l6.take 2).map NdN.kids) = some 1) = false := by decide +kernel
theorem l6_kids : kidsR l6 3 = [0, 2] := by decide +kernel
theorem l6_sizes : sizesR l6 = [1, 1, 2, 4] := by decide +kernel
theorem l6_nums : numsR l6 = [0, 0, 1, 0] := by decide +kernel
set_option maxRecDepth 100000 in
theorem l6_at (W : World) : NodesAt l6 (some ⟨W.heap.size, 0, none⟩) (W.alloc (.cells c6 92)) := fun _ => by
  have hb := Blk.new W c6 92
  refine ⟨W.heap.size, 0, rfl, hb.lt, fun i hi j hj => ?_⟩
  have hi' : i < 4 := hi
  have z1 : wd (0 : BitVec 256) 1 = 0 := by decide
  have z2 : wd (0 : BitVec 256) 2 = 0 := by decide
  have z3 : wd (0 : BitVec 256) 3 = 0 := by decide
  rw [hb.cell]
  obtain rfl | rfl | rfl | rfl : i = 0 ∨ i = 1 ∨ i = 2 ∨ i = 3 := by omega
  all_goals
    obtain rfl | rfl | rfl | rfl | rfl | rfl | rfl | rfl : j = 0 ∨ j = 1 ∨ j = 2 ∨ j = 3 ∨ j = 4 ∨ j = 5 ∨ j = 6 ∨ j = 7 := by omega
    all_goals first
      | rfl
      | (show some (Value.int .u64 0) = some (.int .u64 ((wd (0 : BitVec 256) 1 : Nat) : Int)); rw [z1]; rfl)
      | (show some (Value.int .u64 0) = some (.int .u64 ((wd (0 : BitVec 256) 2 : Nat) : Int)); rw [z2]; rfl)
      | (show some (Value.int .u64 0) = some (.int .u64 ((wd (0 : BitVec 256) 3 : Nat) : Int)); rw [z3]; rfl)
theorem nodes_take (l : List NdN) (n : Nat) (a : Option Addr) (W : World) (h : NodesAt l a W) : NodesAt (l.take n) a W := fun hne => by
  obtain ⟨g, off, e, hg, hc⟩ := h (fun h => by rw [h] at hne; simp at hne)
  refine ⟨g, off, e, hg, fun i hi j hj => ?_⟩
  rw [List.length_take] at hi
  rw [hc i (by omega) j hj, List.getElem_take]

/-! ### few -/
theorem kidsR_lenI (l : List NdN) (i : Int) : (kidsR l i).length ≤ l.length := by
  by_cases h : 0 ≤ i
  · obtain ⟨n, rfl⟩ := Int.eq_ofNat_of_zero_le h
    exact kidsR_len l n
  · unfold kidsR
    rw [if_neg (by omega)]
    exact Nat.zero_le _
theorem numsR_len (l : List NdN) : (numsR l).length = (sizesR l).length := by unfold numsR; rw [List.length_map, List.length_range]
end Go.Proofs.YtldaaelmifbbhaaGreat

/- Patterns' trees, plainly: what AstParts wants of a list of nodes that is a tree. -/
namespace Go.Proofs.YtldaaelmifbbhaaGreat
open Go.RowKit BS

@[reducible] def FormedN (l : List NdN) : Prop := manyF 0 (l.map NdN.kids) = some 1
theorem formed_stack (l : List NdN) (hf : FormedN l) : stackF [] (ksN l) = some [l.length] ∧ (ksN l).length = l.length ∧ (sizesR l).length = l.length ∧ (sizesF [] (ksN l)).length = l.length ∧ sizesR l = (sizesF [] (ksN l)).map (fun x : Nat => (x : Int)) := by
  obtain ⟨hk0, hst⟩ := (formed_iff (l.map NdN.kids)).1 hf
  have hst : stackF [] (ksN l) = some [(l.map NdN.kids).length] := hst
  rw [List.length_map] at hst
  have hkl : (ksN l).length = l.length := by simp [ksN]
  refine ⟨hst, hkl, ?_, by rw [sizesF_len, hkl], if_pos hf⟩
  rw [sizesR_len]
  exact if_pos hf
theorem formed_pos (l : List NdN) (hf : FormedN l) : 0 < l.length := by
  cases l with
  | nil => exact absurd hf (by unfold FormedN; decide)
  | cons => simp
/-- The kids of a node stand side by side, right ahead of it: A k is where kid k begins. -/
theorem kids_row (l : List NdN) (hf : FormedN l) (i : Nat) (hi : i < l.length) : ∃ A : Nat → Nat, A (kidsR l i).length = i ∧ A 0 ≤ i ∧ (A 0 : Int) = (i : Int) + 1 - (sizesR l).getD i 0 ∧
    ∀ k (h : k < (kidsR l i).length), A k < A (k + 1) ∧ A (k + 1) ≤ i ∧ (kidsR l i)[k] = ((A (k + 1) - 1 : Nat) : Int) ∧ (sizesR l).getD (A (k + 1) - 1) 0 = ((A (k + 1) - A k : Nat) : Int) := by
  obtain ⟨hst, hkl, hrl, hsl, hR⟩ := formed_stack l hf
  have hlk : i < (ksN l).length := by omega
  obtain ⟨s, hs, hks, hsum⟩ := stack_at (ksN l) [] _ hst i hlk
  obtain ⟨hr, ht, hsi⟩ := roots_at (ksN l) i hlk s hs
  rw [← ht] at hr
  have hpos := stackF_pos ((ksN l).take i) [] s (by simp) hs
  have hsumi : s.sum = i := by simpa using hsum
  have htl : ((sizesF [] (ksN l)).take i).length = i := by rw [List.length_take]; omega
  generalize hK : (ksN l)[i] = K at *
  have hkid : kidsR l i = (((posF i s).take K).reverse).map (fun x : Nat => (x : Int)) := by
    unfold kidsR
    rw [if_pos ⟨hf, by omega, by omega⟩, show (i : Int).toNat = i from rfl, allKids_at (ksN l) i hlk s hs, hK]
    rfl
  have hPl : ((posF i s).take K).length = K := by rw [List.length_take, posF_len]; omega
  have hlen : (kidsR l i).length = K := by rw [hkid, List.length_map, List.length_reverse, hPl]
  refine ⟨fun k => i - (s.take (K - k)).sum, ?_, Nat.sub_le _ _, ?_, ?_⟩
  · rw [hlen]; simp
  · have e1 : (sizesR l).getD i 0 = ((1 + (s.take K).sum : Nat) : Int) := by
      rw [List.getD_eq_getElem?_getD, hR, List.getElem?_map, hsi]; rfl
    rw [e1]
    have := take_sum_le s K
    simp only [Nat.sub_zero]
    omega
  · intro k h
    rw [hlen] at h
    have hj : K - 1 - k < s.length := by omega
    have hts := take_sum s (K - 1 - k) hj
    have hzp := hpos _ (List.getElem_mem hj)
    have hle := take_sum_le s (K - 1 - k + 1)
    rw [show K - 1 - k + 1 = K - k by omega] at hts hle
    have e1 : K - (k + 1) = K - 1 - k := by omega
    obtain ⟨r1, r2⟩ := hr (K - 1 - k) hj
    rw [htl] at r1 r2
    simp only [e1]
    refine ⟨by omega, by omega, ?_, ?_⟩
    · have hg : (kidsR l i)[k]'(by omega) = ((((posF i s).take K)[K - 1 - k]'(by omega) : Nat) : Int) := by
        simp only [hkid, List.getElem_map, List.getElem_reverse, hPl]
      rw [hg, List.getElem_take, posF_get]
    · have hp : i - (s.take (K - 1 - k)).sum - 1 < (sizesF [] (ksN l)).length := by omega
      rw [show i - 1 - (s.take (K - 1 - k)).sum = i - (s.take (K - 1 - k)).sum - 1 by omega] at r2
      rw [List.getElem?_take, if_pos (by omega)] at r2
      rw [List.getD_eq_getElem?_getD, hR, List.getElem?_map, r2]
      show ((s[K - 1 - k] : Nat) : Int) = _
      omega
theorem sizes_last (l : List NdN) (hf : FormedN l) : (sizesR l).getD (l.length - 1) 0 = (l.length : Int) := by
  obtain ⟨hst, hkl, hrl, hsl, hR⟩ := formed_stack l hf
  have hp := formed_pos l hf
  have hlk : l.length - 1 < (ksN l).length := by omega
  obtain ⟨s, hs, hks, hsum⟩ := stack_at (ksN l) [] _ hst (l.length - 1) hlk
  obtain ⟨_, _, hsi⟩ := roots_at (ksN l) (l.length - 1) hlk s hs
  have hsumi : s.sum = l.length - 1 := by simpa using hsum
  have e : ksN l = (ksN l).take (l.length - 1) ++ [(ksN l)[l.length - 1]] := by
    have h1 := List.take_append_drop (l.length - 1) (ksN l)
    rw [List.drop_eq_getElem_cons hlk, List.drop_of_length_le (by omega)] at h1
    exact h1.symm
  rw [e, stackF_snoc, hs] at hst
  have h2 : stepF s (ksN l)[l.length - 1] = [l.length] := by
    simp only [Option.bind_some] at hst
    rw [if_pos hks] at hst
    exact Option.some.inj hst
  have h3 : 1 + (s.take (ksN l)[l.length - 1]).sum = l.length := by
    unfold stepF at h2
    exact (List.cons.inj h2).1
  rw [List.getD_eq_getElem?_getD, hR, List.getElem?_map, hsi]
  show ((1 + (s.take (ksN l)[l.length - 1]).sum : Nat) : Int) = _
  rw [h3]
/-- How often a place has been a kid of the first i nodes. -/
def heldN (l : List NdN) (i x : Nat) : Nat := (((allKids 0 [] (ksN l)).take i).flatten).count x
theorem heldN_step (l : List NdN) (hf : FormedN l) (i : Nat) (hi : i < l.length) (x : Nat) : heldN l (i + 1) x = heldN l i x + (kidsR l i).count (x : Int) := by
  obtain ⟨hst, hkl, _⟩ := formed_stack l hf
  have hal := allKids_len (ksN l) [] 0
  have hlt : i < (allKids 0 [] (ksN l)).length := by omega
  unfold heldN
  rw [List.take_succ_eq_append_getElem hlt, List.flatten_append, List.count_append]
  congr 1
  have hk : kidsR l i = (((allKids 0 [] (ksN l))[i]).reverse).map (fun x : Nat => (x : Int)) := by
    unfold kidsR
    rw [if_pos ⟨hf, by omega, by omega⟩, show (i : Int).toNat = i from rfl, List.getElem?_eq_getElem hlt, Option.getD_some]
  rw [hk]
  have hinj : ∀ (m : List Nat), (m.map (fun x : Nat => (x : Int))).count (x : Int) = m.count x := fun m => by
    induction m with
    | nil => rfl
    | cons y m ih =>
      rw [List.map_cons, List.count_cons, List.count_cons, ih]
      congr 1
      by_cases h : y = x
      · subst h; simp
      · have h2 : ¬ ((y : Int) = (x : Int)) := by omega
        simp [h, h2]
  rw [hinj, List.count_reverse]
  simp
theorem heldN_all (l : List NdN) (hf : FormedN l) (x : Nat) (hx : x < l.length) : heldN l l.length x = if x = l.length - 1 then 0 else 1 := by
  obtain ⟨hst, hkl, _⟩ := formed_stack l hf
  have hal := allKids_len (ksN l) [] 0
  unfold heldN
  rw [List.take_of_length_le (by omega)]
  exact kids_tree (ksN l) l.length hkl hst x hx
theorem heldN_le (l : List NdN) (hf : FormedN l) : ∀ i, i ≤ l.length → ∀ x, x < l.length → heldN l i x ≤ 1 := fun i hi x hx => by
  have h1 := heldN_all l hf x hx
  have h2 : heldN l i x ≤ heldN l l.length x := by
    unfold heldN
    have e : (allKids 0 [] (ksN l)).take i = ((allKids 0 [] (ksN l)).take l.length).take i := by rw [List.take_take, Nat.min_eq_left hi]
    have e2 := congrArg (fun cs => (cs.flatten).count x) (List.take_append_drop i ((allKids 0 [] (ksN l)).take l.length))
    simp only [List.flatten_append, List.count_append] at e2
    rw [e]
    omega
  split at h1 <;> omega
/-- Node i's number; how many of the first i nodes have number m. -/
def nuN (l : List NdN) (i : Nat) : Nat := numF (kdN l) (fiN l) (sizesR l).length i
theorem numsR_get (l : List NdN) (i : Nat) (h : i < (sizesR l).length) : (numsR l).getD i 0 = (nuN l i : Int) := by
  unfold numsR nuN
  rw [List.getD_eq_getElem?_getD, List.getElem?_map, List.getElem?_range h]
  rfl
theorem grpN_len (l : List NdN) (n : Nat) : (grpF (kdN l) n).length = grpN l n := by
  unfold grpF grpN
  rw [List.countP_eq_length_filter]
theorem nuN_le (l : List NdN) (i : Nat) : nuN l i ≤ grpN l (sizesR l).length := by
  have := num_le (kdN l) (fiN l) (sizesR l).length i
  rw [grpN_len] at this
  exact this
theorem nuN_pos (l : List NdN) (i : Nat) (hi : i < (sizesR l).length) : 0 < nuN l i ↔ kdN l i = 3 := num_pos _ _ _ _ hi
def toldN (l : List NdN) (i m : Nat) : Nat := (List.range i).countP fun j => nuN l j == m
theorem toldN_step (l : List NdN) (i m : Nat) : toldN l (i + 1) m = toldN l i m + if nuN l i = m then 1 else 0 := by
  unfold toldN
  rw [List.range_succ, List.countP_append]
  simp [List.countP_cons]
theorem toldN_le (l : List NdN) (i m : Nat) : toldN l i m ≤ i := by
  unfold toldN
  have := List.countP_le_length (p := fun j => nuN l j == m) (l := List.range i)
  rw [List.length_range] at this
  exact this
theorem toldN_all (l : List NdN) (m : Nat) (h1 : 1 ≤ m) (h2 : m ≤ grpN l (sizesR l).length) : toldN l (sizesR l).length m = 1 := by
  rw [← grpN_len] at h2
  exact told_once (kdN l) (fiN l) (sizesR l).length m h1 h2
end Go.Proofs.YtldaaelmifbbhaaGreat

/- All: the iterator over a set's bytes. -/
namespace Go.Proofs.YtldaaelmifbbhaaGreat
open Go.RowKit Go.Shelf BS
attribute [local go_sem] Oper.semAt_some

/-- The numbers below k of which f says yes, ascending. -/
def el (f : Nat → Bool) (k : Nat) : List Nat := (List.range k).filter f
theorem el_zero (f : Nat → Bool) : el f 0 = [] := rfl
theorem el_succ (f : Nat → Bool) (k : Nat) : el f (k + 1) = el f k ++ if f k then [k] else [] := by
  unfold el; rw [List.range_succ, List.filter_append]; cases h : f k <;> simp [h]
theorem el_skip (f : Nat → Bool) {k j : Nat} (h : k ≤ j) (hf : ∀ i, k ≤ i → i < j → f i = false) : el f j = el f k := by
  induction j with
  | zero => rw [show k = 0 by omega]
  | succ j ih =>
    by_cases hk : k = j + 1
    · rw [hk]
    · rw [el_succ, hf j (by omega) (by omega), ih (by omega) (fun i h1 h2 => hf i h1 (by omega))]; simp
theorem el_len (f : Nat → Bool) (k : Nat) : (el f k).length ≤ k := by
  have := List.length_filter_le f (List.range k); simpa [el] using this

theorem nextOf_cases (f : Nat → Bool) (k : Nat) : (nextOf f k = -1 ∧ ∀ j, k ≤ j → j < 256 → f j = false) ∨ (∃ j : Nat, nextOf f k = j ∧ k ≤ j ∧ j < 256 ∧ f j = true ∧ ∀ i, k ≤ i → i < j → f i = false) := by
  by_cases h : ∃ j, k ≤ j ∧ j < 256 ∧ f j = true ∧ ∀ i, k ≤ i → i < j → f i = false
  · obtain ⟨j, h1, h2, h3, h4⟩ := h
    exact .inr ⟨j, nextOf_eq h2 h1 h3 h4, h1, h2, h3, h4⟩
  · have key : ∀ j, k ≤ j → j < 256 → f j = false := by
      intro j
      induction j using Nat.strongRecOn with
      | ind j ih =>
        intro h1 h2
        cases hf : f j with
        | false => rfl
        | true => exact absurd ⟨j, h1, h2, hf, fun i hi hij => ih i hij hi (by omega)⟩ h
    exact .inl ⟨nextOf_none key, key⟩

/-- The box Bs holds the set s. -/
def SetAt (Bs : Nat) (s : BitVec 256) (W : World) : Prop := W.cell? ⟨Bs, 0, none⟩ = some (.int .u64 (wd s 0)) ∧ W.cell? ⟨Bs, 1, none⟩ = some (.int .u64 (wd s 1)) ∧ W.cell? ⟨Bs, 2, none⟩ = some (.int .u64 (wd s 2)) ∧ W.cell? ⟨Bs, 3, none⟩ = some (.int .u64 (wd s 3))
theorem SetAt.keep {Bs B : Nat} {s : BitVec 256} {w w' : World} (h : SetAt Bs s w) (hb : Below B w w') (hB : Bs < B) : SetAt Bs s w' :=
  ⟨(hb.cell (p := ⟨Bs, 0, none⟩) hB).trans h.1, (hb.cell (p := ⟨Bs, 1, none⟩) hB).trans h.2.1, (hb.cell (p := ⟨Bs, 2, none⟩) hB).trans h.2.2.1, (hb.cell (p := ⟨Bs, 3, none⟩) hB).trans h.2.2.2⟩

end Go.Proofs.YtldaaelmifbbhaaGreat

/- slices.Values over bytes, and With. -/
namespace Go.Proofs.YtldaaelmifbbhaaGreat
open Go.RowKit Go.Shelf BS
attribute [local go_sem] Oper.semAt_some

/-- A slice of bytes that lies below n₀. -/
def BytesAt (n₀ : Nat) (W : World) (v : Value) (l : List (Fin 256)) : Prop :=
  ∃ (a : Option Addr) (cap : Nat), v = .slice a l.length cap ∧ (l ≠ [] → ∃ b off, a = some ⟨b, off, none⟩ ∧ b < n₀ ∧ ∀ j (h : j < l.length), W.cell? ⟨b, off + j, none⟩ = some (.int .u8 (l[j].val : Nat)))
theorem BytesAt.keep {n₀ : Nat} {A B : World} {v : Value} {l : List (Fin 256)} (h : BytesAt n₀ A v l) (hb : Below n₀ A B) : BytesAt n₀ B v l := by
  obtain ⟨a, cap, e, h⟩ := h
  refine ⟨a, cap, e, fun hne => ?_⟩
  obtain ⟨b, off, e, hlt, hc⟩ := h hne
  exact ⟨b, off, e, hlt, fun j hj => (hb.cell (p := ⟨b, off + j, none⟩) hlt).trans (hc j hj)⟩

set_option maxRecDepth 100000 in
set_option maxHeartbeats 2000000 in
theorem values1_in (n : Nat) (hn : 1 ≤ n) (k0 Bs n₀ b off cap : Nat) (l : List (Fin 256)) (hreach : l.length ≤ 9223372036854775807) (hb : b < n₀) (J Jx : List (Fin 256) → World → Prop)
    (hY : ∀ pre x W, J pre W → pre.length < l.length → YieldAt Fence.wide (n - 1) Tryz.prog k0 #[.int .u8 (x.val : Nat)] W fun e W' =>
      (e = .returned (.bool true) ∧ J (pre ++ [x]) W' ∧ Below n₀ W W') ∨ (e = .returned (.bool false) ∧ Jx (pre ++ [x]) W'))
    (W : World) (hBs : W.cell? ⟨Bs, 0, none⟩ = some (.slice (some ⟨b, off, none⟩) l.length cap)) (hc : ∀ j (h : j < l.length), W.cell? ⟨b, off + j, none⟩ = some (.int .u8 (l[j].val : Nat))) (h0 : J [] W) :
    CallsIn Fence.wide n Tryz.prog 140 #[.func (.yield k0) #[] #[], .pointer (some ⟨Bs, 0, none⟩)] W fun e W' => (∃ v, e = .returned v) ∧
      ((∃ ys, ys = l ∧ J ys W') ∨ (∃ pre, (∃ k, k ≤ l.length ∧ pre = l.take k) ∧ Jx pre W')) := by
  have HC := Lib.hid hc
  clear hc
  refine callsIn_of_wp Tryz.func140 rfl trivial ?_ rfl
  simp only [Tryz.ntmps140, List.size_toArray, List.length_cons, List.length_nil, Nat.reduceAdd, Nat.reduceSub, Array.replicate_succ, Array.replicate_zero, List.push_toArray, List.append_toArray, List.nil_append, List.cons_append]
  gi_wp2
  gi_loopw [7] (fun i wr => ∃ k : Nat, k ≤ l.length ∧ i = .int .i64 k ∧ J (l.take k) wr ∧ Below n₀ W wr)
    (fun i _ => l.length - (intOf i).toNat)
  case atStart => exact ⟨0, Nat.zero_le _, rfl, h0, Below.refl _ _⟩
  case round =>
    obtain ⟨k, hk, rfl, hJs, hnx⟩ := hrel
    by_cases hlt : k < l.length
    · have hcx : wr.cell? ⟨b, off + k, none⟩ = some (.int .u8 (l[k].val : Nat)) := (hnx.cell (p := ⟨b, off + k, none⟩) hb).trans (HC.out k hlt)
      have hx := l[k].isLt
      have HE := Lib.hid (show l.take (k + 1) = l.take k ++ [l[k]] from by simp)
      obtain ⟨fn, tmps, assign, body, hy, hR⟩ := hY _ l[k] wr hJs (by rw [List.length_take]; omega)
      generalize l[k] = x at *
      gi_wp2
      refine hR.mono ?_
      rintro e W3 (⟨rfl, hJ3, hk3⟩ | ⟨rfl, hJx3⟩)
      · gi_wp2
        go_roundw
        case rel => exact ⟨k + 1, by omega, by simp, by rw [HE.out]; exact hJ3, hnx.trans hk3⟩
        case measure => simp [intOf]; omega
      · gi_wp2
        refine bodyPost_ret (results_none rfl _ _ _) rfl ?_
        exact ⟨⟨_, rfl⟩, .inr ⟨_, ⟨k + 1, by omega, HE.out.symm⟩, hJx3⟩⟩
    · obtain rfl : k = l.length := by omega
      gi_wp2
      go_end0
      exact ⟨⟨_, rfl⟩, .inl ⟨_, by simp, hJs⟩⟩

set_option maxRecDepth 100000 in
set_option maxHeartbeats 1000000 in
theorem values1_nil_in (n : Nat) (k0 Bs : Nat) (a : Option Addr) (cap : Nat) (J : List (Fin 256) → World → Prop) (W : World) (hBs : W.cell? ⟨Bs, 0, none⟩ = some (.slice a 0 cap)) (h0 : J [] W) :
    CallsIn Fence.wide n Tryz.prog 140 #[.func (.yield k0) #[] #[], .pointer (some ⟨Bs, 0, none⟩)] W fun e W' => (∃ v, e = .returned v) ∧ J [] W' := by
  refine callsIn_of_wp Tryz.func140 rfl trivial ?_ rfl
  simp only [Tryz.ntmps140, List.size_toArray, List.length_cons, List.length_nil, Nat.reduceAdd, Nat.reduceSub, Array.replicate_succ, Array.replicate_zero, List.push_toArray, List.append_toArray, List.nil_append, List.cons_append]
  gi_wp2
  gi_loopw [7] (fun i wr => i = .int .i64 0 ∧ J [] wr) (fun _ _ => 0)
  case atStart => exact ⟨rfl, h0⟩
  case round =>
    obtain ⟨rfl, hJs⟩ := hrel
    gi_wp2
    go_end0
    exact ⟨⟨_, rfl⟩, hJs⟩

set_option maxHeartbeats 1000000 in
theorem values_in (n : Nat) (a : Option Addr) (len cap : Nat) (w : World) :
    CallsIn Fence.wide n Tryz.prog 138 #[.slice a len cap] w fun e w' => e = .returned (.func (.func 140) #[] #[.pointer (some ⟨w.heap.size, 0, none⟩)]) ∧ w' = w.alloc (.cells #[.slice a len cap] 67) := by
  refine callsIn_of_wp Tryz.func138 rfl trivial ?_ rfl
  simp only [Tryz.ntmps138, List.size_toArray, List.length_cons, List.length_nil, Nat.reduceAdd, Nat.reduceSub, Array.replicate_succ, Array.replicate_zero, List.push_toArray, List.append_toArray, List.nil_append, List.cons_append]
  gi_wp2
  go_ret
  exact ⟨rfl, rfl⟩

theorem values_stops (n : Nat) (hn : 1 ≤ n) (Bs n₀ : Nat) (v : Value) (l : List (Fin 256)) (hreach : l.length ≤ 9223372036854775807) (w : World) (hBs : Bs < w.heap.size) (hn₀ : n₀ ≤ w.heap.size)
    (hc : w.cell? ⟨Bs, 0, none⟩ = some v) (hI : BytesAt n₀ w v l) :
    SeqStopsK Fence.wide n Tryz.prog 140 #[.pointer (some ⟨Bs, 0, none⟩)] (fun x : Fin 256 => #[Value.int .u8 (x.val : Int)]) (Below n₀) (fun ys => ys = l) (fun pre => ∃ k, k ≤ l.length ∧ pre = l.take k) l.length w := fun k0 J Jx W hW _ _ hY h0 => by
  have hc' := (hW.cell (p := ⟨Bs, 0, none⟩) hBs).trans hc
  obtain ⟨a, cap, rfl, hI2⟩ := hI.keep (hW.mono hn₀)
  by_cases hl : l = []
  · subst hl
    exact (values1_nil_in n k0 Bs a cap J W hc' h0).mono fun e W' ⟨he, hj⟩ => ⟨he, .inl ⟨_, rfl, hj⟩⟩
  · obtain ⟨b, off, rfl, hb, hcs⟩ := hI2 hl
    exact values1_in n hn k0 Bs n₀ b off cap l hreach hb J Jx hY W hc' hcs h0
end Go.Proofs.YtldaaelmifbbhaaGreat

/- With: a set with some bytes more. -/
namespace Go.Proofs.YtldaaelmifbbhaaGreat
open Go.RowKit Go.Shelf BS
attribute [local go_sem] Oper.semAt_some

/-- The set of one number. -/
def one (x : Nat) : BitVec 256 := ofFn fun j => decide (j = x)
def withL (s : BitVec 256) (l : List (Fin 256)) : BitVec 256 := l.foldl (fun t x => t ||| one x.val) s
theorem withL_snoc (s : BitVec 256) (l : List (Fin 256)) (x : Fin 256) : withL s (l ++ [x]) = withL s l ||| one x.val := by simp [withL]

theorem wd_one (x i : Nat) (hi : i < 4) : wd (one x) i = if x / 64 = i then 2 ^ (x % 64) else 0 := by
  apply Nat.eq_of_testBit_eq; intro j
  rw [testBit_wd, one, get_ofFn]
  by_cases h : x / 64 = i
  · rw [if_pos h, Nat.testBit_two_pow]
    by_cases hj : j < 64
    · simp only [hj, show 64 * i + j < 256 by omega, decide_true, Bool.true_and, decide_eq_decide]; omega
    · simp only [hj, decide_false, Bool.false_and]
      symm; rw [decide_eq_false_iff_not]; omega
  · rw [if_neg h, Nat.zero_testBit]
    by_cases hj : j < 64
    · simp only [hj, show 64 * i + j < 256 by omega, decide_true, Bool.true_and, decide_eq_false_iff_not]; omega
    · simp [hj]

theorem or_one_same (t : BitVec 256) (x i : Nat) (hi : i < 4) (h : x / 64 = i) : bits .or .u64 (wd t i : Int) (IntKind.u64.wrap (2 ^ (x % 64))) = (wd (t ||| one x) i : Int) := by
  have h1 : x % 64 < 64 := Nat.mod_lt _ (by decide)
  have h2 : (2 : Nat) ^ (x % 64) < 2 ^ 64 := Nat.pow_lt_pow_right (by decide) h1
  have h3 : ((2 : Int) ^ (x % 64)) = ((2 ^ (x % 64) : Nat) : Int) := by simp
  rw [h3, wrap_u64_nat _ h2, bits_or_nat _ _ (wd_lt _ _) h2, wd_or, wd_one x i hi, if_pos h]
theorem or_one_other (t : BitVec 256) (x i : Nat) (hi : i < 4) (h : x / 64 ≠ i) : wd t i = wd (t ||| one x) i := by
  rw [wd_or, wd_one x i hi, if_neg h, Nat.or_zero]

@[reducible] def setA (s : BitVec 256) : Array Value := #[.int .u64 (wd s 0), .int .u64 (wd s 1), .int .u64 (wd s 2), .int .u64 (wd s 3)]

theorem Blk.cells4 {W : World} {B : Nat} {a b c d : Value} {t : TypeId} (h : Blk W B #[a, b, c, d] t) : (W.cell? ⟨B, 0, none⟩ = some a ∧ W.cell? ⟨B, 1, none⟩ = some b ∧ W.cell? ⟨B, 2, none⟩ = some c ∧ W.cell? ⟨B, 3, none⟩ = some d) ∧
    (W.frozen? ⟨B, 0, none⟩ = false ∧ W.frozen? ⟨B, 1, none⟩ = false ∧ W.frozen? ⟨B, 2, none⟩ = false ∧ W.frozen? ⟨B, 3, none⟩ = false) :=
  ⟨⟨h.cell 0, h.cell 1, h.cell 2, h.cell 3⟩, h.frozen 0, h.frozen 1, h.frozen 2, h.frozen 3⟩

theorem setA_or (t : BitVec 256) (x : Nat) (h0 : x / 64 = 0) : (setA t).setIfInBounds 0 (.int .u64 (bits .or .u64 (wd t 0 : Int) (IntKind.u64.wrap (2 ^ (x % 64))))) = setA (t ||| one x) := by
  rw [or_one_same t x 0 (by decide) h0, setA, setA, ← or_one_other t x 1 (by decide) (by omega), ← or_one_other t x 2 (by decide) (by omega), ← or_one_other t x 3 (by decide) (by omega)]; rfl
theorem setA_or1 (t : BitVec 256) (x : Nat) (h0 : x / 64 = 1) : (setA t).setIfInBounds 1 (.int .u64 (bits .or .u64 (wd t 1 : Int) (IntKind.u64.wrap (2 ^ (x % 64))))) = setA (t ||| one x) := by
  rw [or_one_same t x 1 (by decide) h0, setA, setA, ← or_one_other t x 0 (by decide) (by omega), ← or_one_other t x 2 (by decide) (by omega), ← or_one_other t x 3 (by decide) (by omega)]; rfl
theorem setA_or2 (t : BitVec 256) (x : Nat) (h0 : x / 64 = 2) : (setA t).setIfInBounds 2 (.int .u64 (bits .or .u64 (wd t 2 : Int) (IntKind.u64.wrap (2 ^ (x % 64))))) = setA (t ||| one x) := by
  rw [or_one_same t x 2 (by decide) h0, setA, setA, ← or_one_other t x 0 (by decide) (by omega), ← or_one_other t x 1 (by decide) (by omega), ← or_one_other t x 3 (by decide) (by omega)]; rfl
theorem setA_or3 (t : BitVec 256) (x : Nat) (h0 : x / 64 = 3) : (setA t).setIfInBounds 3 (.int .u64 (bits .or .u64 (wd t 3 : Int) (IntKind.u64.wrap (2 ^ (x % 64))))) = setA (t ||| one x) := by
  rw [or_one_same t x 3 (by decide) h0, setA, setA, ← or_one_other t x 0 (by decide) (by omega), ← or_one_other t x 1 (by decide) (by omega), ← or_one_other t x 2 (by decide) (by omega)]; rfl

set_option maxRecDepth 100000 in
set_option maxHeartbeats 2000000 in
/-- With. -/
theorem with_in (n : Nat) (hn : 3 ≤ n) (s : BitVec 256) (v : Value) (a : Option Addr) (len cap : Nat) (hv : v = .slice a len cap) (l : List (Fin 256)) (hreach : l.length ≤ 9223372036854775807) (w : World) (hI : BytesAt w.heap.size w v l) :
    CallsIn Fence.wide n Tryz.prog 134 #[setV s, v] w fun e W' => e = .returned (setV (withL s l)) ∧ Below w.heap.size w W' := by
  have h1 : 1 ≤ n := by omega
  subst hv
  refine callsIn_of_wp_marks Tryz.func134 rfl trivial ?_ rfl
  simp only [Tryz.ntmps134, List.size_toArray, List.length_cons, List.length_nil, Nat.reduceAdd, Nat.reduceSub, Array.replicate_succ, Array.replicate_zero, List.push_toArray, List.append_toArray, List.nil_append, List.cons_append]
  gi_wp2_with (refine ⟨trivial, ?_⟩; gi_at_call 138; refine (values_in (n - 1) _ _ _ _).mono ?_; rintro e w' ⟨rfl, rfl⟩)
  obtain ⟨w0, hw0⟩ : ∃ w0, ((w.alloc (.cells (setA s) 38)).alloc (.cells #[.int .u64 0, .int .u64 0, .int .u64 0, .int .u64 0] 38)) = w0 := ⟨_, rfl⟩
  have bS : Blk w0 w.heap.size (setA s) 38 := by rw [← hw0]; exact (Blk.new w _ _).alloc _
  have bR : Blk w0 (w.heap.size + 1) #[.int .u64 0, .int .u64 0, .int .u64 0, .int .u64 0] 38 := by
    rw [← hw0]; have := Blk.new (w.alloc (.cells (setA s) 38)) #[.int .u64 0, .int .u64 0, .int .u64 0, .int .u64 0] 38; rwa [World.size_alloc] at this
  have hz0 : w0.heap.size = w.heap.size + 2 := by rw [← hw0]; simp
  have hB0 : Below w.heap.size w w0 := by rw [← hw0]; go_grown
  rw [show ((w.alloc (.cells #[.int .u64 (wd s 0), .int .u64 (wd s 1), .int .u64 (wd s 2), .int .u64 (wd s 3)] 38)).alloc (.cells #[.int .u64 0, .int .u64 0, .int .u64 0, .int .u64 0] 38)) = w0 from hw0]
  have bN := Boxed.new w0 67 (.slice a len cap)
  rw [show w.heap.size + 1 + 1 = w0.heap.size by omega]
  clear hw0
  have hz1 : w.heap.size + 2 ≤ w0.heap.size := by omega
  clear hz0
  refine wpIn_rangeFunc_ownG rfl h1 (gf := 140) (lb := #[.pointer (some ⟨w0.heap.size, 0, none⟩)]) rfl trivial (enters_of Tryz.func140 (by kernel_rfl) rfl)
    (values_stops (n - 1) (by omega) w0.heap.size w.heap.size _ l hreach _ (by simp) (by simp; omega) bN.cell (hI.keep (hB0.alloc (by omega) _))) belowK_t (belowK_b (by simp; omega)) (Below.refl _ _) (fun _ => rfl)
    (fun pre W => (Blk W w.heap.size (setA (withL s pre)) 38 ∧ Blk W (w.heap.size + 1) #[.int .u64 0, .int .u64 0, .int .u64 0, .int .u64 0] 38) ∧ Below w.heap.size w W)
    (fun _ _ _ => False)
    (OwnFrom.and (Own.from (fun s' A B row hs hg hr => ⟨hs.1.kept hg (hs.1.not_row hr), hs.2.kept hg (hs.2.not_row hr)⟩) _) (ownFrom_below (Nat.le_refl _) (by simp; omega)))
    (fun _ _ _ _ _ hs _ _ => hs)
    ⟨⟨bS.alloc _, bR.alloc _⟩, hB0.alloc (by omega) _⟩
    (fun x => { tmps := #[setV s, .slice a len cap, .pointer (some ⟨w.heap.size, 0, none⟩), undef, .pointer (some ⟨w.heap.size + 1, 0, none⟩), .int .u8 (x.val : Int), .slice a len cap,
          .func (.func 140) #[] #[.pointer (some ⟨w0.heap.size, 0, none⟩)], .int .u8 (x.val : Int), undef, undef, undef, undef, undef, undef, undef, undef, undef, undef], defers := [] }) ?assign ?body ?done ?stop
  case assign =>
    intro l x W K hK
    gi_wp2
    exact hK
  case body =>
    rintro l pre x W ⟨⟨bS, bR⟩, hB⟩ _
    obtain ⟨⟨c0, c1, c2, c3⟩, f0, f1, f2, f3⟩ := bS.cells4
    have hx := x.isLt
    have HW := Lib.hid (withL_snoc s pre x)
    generalize withL s pre = t at *
    obtain ⟨x, hx'⟩ := x
    simp only at hx HW ⊢
    have hx2 : 0 ≤ (x : Int) % 64 := by omega
    have hx3 : (x : Int) % 64 < 64 := by omega
    have h4 : (x : Int) / 64 = 0 ∨ (x : Int) / 64 = 1 ∨ (x : Int) / 64 = 2 ∨ (x : Int) / 64 = 3 := by omega
    rcases h4 with hx4 | hx4 | hx4 | hx4
    · gi_wp2
      refine ⟨(KeepsOthers.setCell _ _ _).from _, below_set (Below.refl _ _) (Nat.le_refl _) _ _, ⟨?_, bR.other (by omega) _ _⟩, below_set hB (Nat.le_refl _) _ _⟩
      rw [HW.out, ← setA_or t x (by omega)]
      exact bS.set 0 _
    · gi_wp2
      refine ⟨(KeepsOthers.setCell _ _ _).from _, below_set (Below.refl _ _) (Nat.le_refl _) _ _, ⟨?_, bR.other (by omega) _ _⟩, below_set hB (Nat.le_refl _) _ _⟩
      rw [HW.out, ← setA_or1 t x (by omega)]
      exact bS.set 1 _
    · gi_wp2
      refine ⟨(KeepsOthers.setCell _ _ _).from _, below_set (Below.refl _ _) (Nat.le_refl _) _ _, ⟨?_, bR.other (by omega) _ _⟩, below_set hB (Nat.le_refl _) _ _⟩
      rw [HW.out, ← setA_or2 t x (by omega)]
      exact bS.set 2 _
    · gi_wp2
      refine ⟨(KeepsOthers.setCell _ _ _).from _, below_set (Below.refl _ _) (Nat.le_refl _) _ _, ⟨?_, bR.other (by omega) _ _⟩, below_set hB (Nat.le_refl _) _ _⟩
      rw [HW.out, ← setA_or3 t x (by omega)]
      exact bS.set 3 _
  case done =>
    rintro D ys W hD rfl ⟨⟨bS, bR⟩, hB⟩ hK
    obtain ⟨⟨c0, c1, c2, c3⟩, f0, f1, f2, f3⟩ := bS.cells4
    obtain ⟨⟨d0, d1, d2, d3⟩, g0, g1, g2, g3⟩ := bR.cells4
    gi_wp2
    generalize withL s ys = t at *
    have bR' := (((bR.set 0 (.int .u64 (wd t 0))).set 1 (.int .u64 (wd t 1))).set 2 (.int .u64 (wd t 2))).set 3 (.int .u64 (wd t 3))
    have hB' := below_set (below_set (below_set (below_set hB (B := w.heap.size + 1) (by omega) 0 (.int .u64 (wd t 0))) (B := w.heap.size + 1) (by omega) 1 (.int .u64 (wd t 1))) (B := w.heap.size + 1) (by omega) 2 (.int .u64 (wd t 2))) (B := w.heap.size + 1) (by omega) 3 (.int .u64 (wd t 3))
    have hK' := ((((KeepsOthers.setCell W ⟨w.heap.size + 1, 0, none⟩ (.int .u64 (wd t 0))).trans (KeepsOthers.setCell _ ⟨w.heap.size + 1, 1, none⟩ (.int .u64 (wd t 1)))).trans (KeepsOthers.setCell _ ⟨w.heap.size + 1, 2, none⟩ (.int .u64 (wd t 2)))).trans (KeepsOthers.setCell _ ⟨w.heap.size + 1, 3, none⟩ (.int .u64 (wd t 3)))).same D _ hK rfl
    generalize (((W.setCell ⟨w.heap.size + 1, 0, none⟩ (.int .u64 (wd t 0))).setCell ⟨w.heap.size + 1, 1, none⟩ (.int .u64 (wd t 1))).setCell ⟨w.heap.size + 1, 2, none⟩ (.int .u64 (wd t 2))).setCell ⟨w.heap.size + 1, 3, none⟩ (.int .u64 (wd t 3)) = W4 at *
    refine ⟨by simp, .inl ⟨_, _, rfl, run_takeDeferred hK', ?_⟩⟩
    have bR2 : Blk (W4.putObj D (.deferred none)) (w.heap.size + 1) (setA t) 38 := bR'.putObj _ hK' rfl
    obtain ⟨⟨e0, e1, e2, e3⟩, _⟩ := bR2.cells4
    refine ⟨setV t, ?_, rfl, hB'.trans (belowK_b (w := w) (Nat.le_refl _) _ D _ _ (by simp at hD; omega) hK' rfl rfl)⟩
    simp [results, Tryz.f134, go_sem, e0, e1, e2, e3]
  case stop =>
    rintro D c pre W _ _ h _
    exact h.elim
end Go.Proofs.YtldaaelmifbbhaaGreat

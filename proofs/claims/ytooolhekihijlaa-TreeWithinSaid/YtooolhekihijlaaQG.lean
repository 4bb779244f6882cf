/- Texts put together: Bk Ab Ac Ad Ae Aj Ah Ai Bl Ow Trh St Su Sv Ra. -/
import Derived.RangeFuncBox
import Derived.RangeFuncFrom
import Derived.WalkKit
import Derived.Test.YtooolhekihijlaaChecked
import Derived.Test.YtooolhekihijlaaQA
import Derived.WalkLawsBesides
import Derived.LoopTactic
import Derived.Lib.Hide
import Derived.Handy
import Derived.IntWalk
import Derived.Test.YtooolhekihijlaaQC
import Derived.Deep.OwnRows
import Derived.Outline
import Derived.Deep.DeepCutAuto
import Derived.Laws.Rows
import Derived.Laws.Tables
import Derived.Laws.CopyOwn
import Derived.Deep.Draws
import Derived.Laws.AppendOwn
import Derived.Laws.OwnMore
import Derived.Deep.AppendLies
import Derived.BigQuiet
import Derived.RangeFuncNested
import Derived.RangeFuncBound
import Derived.RangeFuncCalls
import Derived.RangeFuncLeaves
import Derived.Shelf.Abstract
import Derived.Shelf.RegionOpen
import Derived.OwnWalkIn
import Derived.TacticsInMore
import Derived.LoopNIn
import Derived.LoopIn
/- A whole block of cells, known by what it holds: kept and written to. Nothing of the program is used. -/
namespace Go.Proofs.Ytooolhekihijlaa
open Go.RowKit

def Blk (W : World) (B : Nat) (vs : Array Value) (t : TypeId) : Prop := W.heap[B]? = some (.cells vs t (0, 0))

theorem Blk.lt {W : World} {B : Nat} {vs : Array Value} {t : TypeId} (h : Blk W B vs t) : B < W.heap.size := (Array.getElem?_eq_some_iff.1 h).1
theorem Blk.cell {W : World} {B : Nat} {vs : Array Value} {t : TypeId} (h : Blk W B vs t) (i : Nat) : W.cell? ⟨B, i, none⟩ = vs[i]? := by simp [World.cell?, show W.heap[B]? = _ from h]
theorem Blk.frozen {W : World} {B : Nat} {vs : Array Value} {t : TypeId} (h : Blk W B vs t) (i : Nat) : W.frozen? ⟨B, i, none⟩ = false := by simp [World.frozen?, show W.heap[B]? = _ from h]
theorem Blk.new (W : World) (vs : Array Value) (t : TypeId) : Blk (W.alloc (.cells vs t)) W.heap.size vs t := World.alloc_heap_new W _
theorem Blk.kept {W W' : World} {row : Option Nat} {B : Nat} {vs : Array Value} {t : TypeId} (h : Blk W B vs t) (hg : W.grownBy W' row) (hne : some B ≠ row) : Blk W' B vs t := (hg.block B h.lt hne).trans h
theorem Blk.alloc {W : World} {B : Nat} {vs : Array Value} {t : TypeId} (h : Blk W B vs t) (o : Obj) : Blk (W.alloc o) B vs t := h.kept (World.grownBy_alloc W o none) (by simp)
theorem Blk.drew {W : World} {B : Nat} {vs : Array Value} {t : TypeId} (h : Blk W B vs t) : Blk W.drew B vs t := h
theorem Blk.below {W W' : World} {n B : Nat} {vs : Array Value} {t : TypeId} (h : Blk W B vs t) (hb : Below n W W') (hB : B < n) : Blk W' B vs t := (hb.block B hB).trans h
theorem Blk.set {W : World} {B : Nat} {vs : Array Value} {t : TypeId} (h : Blk W B vs t) (i : Nat) (v : Value) : Blk (W.setCell ⟨B, i, none⟩ v) B (vs.setIfInBounds i v) t := by
  obtain ⟨hlt, hk⟩ := Array.getElem?_eq_some_iff.1 h
  show (W.heap.modify B _)[B]? = _
  rw [Array.getElem?_eq_getElem (by rw [Array.size_modify]; exact hlt), Array.getElem_modify_self, hk]
  rfl
theorem Blk.other {W : World} {B B' : Nat} {vs : Array Value} {t : TypeId} (h : Blk W B vs t) (hne : B ≠ B') (i : Nat) (v : Value) : Blk (W.setCell ⟨B', i, none⟩ v) B vs t :=
  (Below.heap_setCell W ⟨B', i, none⟩ v B hne).trans h
theorem Blk.not_row {W : World} {B : Nat} {vs : Array Value} {t : TypeId} (h : Blk W B vs t) {row : Option Nat} (hr : ∀ r, row = some r → ∃ o : Obj, W.heap[r]? = some o ∧ o.isCells = false) : some B ≠ row := fun e => by
  obtain ⟨o, ho, hc⟩ := hr B e.symm
  rw [show W.heap[B]? = _ from h] at ho; cases ho; cases hc
theorem Blk.not_own {W : World} {B : Nat} {vs : Array Value} {t e : TypeId} (h : Blk W B vs t) (hte : t ≠ e) {base size k : Nat} {v : Value} {xs : List Value} (hr : W.ownsRow base e size v k xs) : some B ≠ v.ownBlock := by
  rcases hr.2 with ⟨rfl, _⟩ | ⟨g, cap, cur, rfl, _, hgb, _⟩
  · simp [Value.ownBlock]
  · intro e'
    obtain rfl : B = g := by simpa [Value.ownBlock] using e'
    have := (show W.heap[B]? = _ from h).symm.trans hgb
    simp at this
    exact hte this.2
theorem Blk.own {β : Type} (B : Nat) (f : β → Array Value) (t : TypeId) : Own (fun s W => Blk W B (f s) t) := fun _ _ _ _ hs hg hr => hs.kept hg (hs.not_row hr)
theorem Blk.putObj {W : World} {B : Nat} {vs : Array Value} {t : TypeId} (h : Blk W B vs t) {l : Nat} {o : Obj} (o' : Obj) (hl : W.heap[l]? = some o) (ho : o.isCells = false) : Blk (W.putObj l o') B vs t :=
  h.kept (grownBy_putObj' W l o') (h.not_row fun r e => by cases e; exact ⟨o, hl, ho⟩)
/-- What the world's first blocks are is kept where only a later block is written to. -/
theorem below_set {n B : Nat} {W W' : World} (hb : Below n W W') (hB : n ≤ B) (i : Nat) (v : Value) : Below n W (W'.setCell ⟨B, i, none⟩ v) := hb.setCell (p := ⟨B, i, none⟩) hB v
end Go.Proofs.Ytooolhekihijlaa

/- The document's trees: Formed. -/
namespace Go.Proofs.Ytooolhekihijlaa
open Go.RowKit BS

structure NdN where
  kind : Int
  kids : Int
  n : Int
  m : Int
  set : BitVec 256
@[reducible] def ndI (k c n m : Int) (t : BitVec 256) : Array Value := #[.int .i64 k, .int .i64 c, .int .i64 n, .int .i64 m, .int .u64 (wd t 0), .int .u64 (wd t 1), .int .u64 (wd t 2), .int .u64 (wd t 3)]
def ndA (x : NdN) : Array Value := ndI x.kind x.kids x.n x.m x.set
/-- A slice of nodes. -/
def NodesAt (l : List NdN) (a : Option Addr) (W : World) : Prop :=
  l ≠ [] → ∃ g off, a = some ⟨g, off, none⟩ ∧ g < W.heap.size ∧ ∀ i (h : i < l.length) j, j < 8 → W.cell? ⟨g, off + i * 8 + j, none⟩ = (ndA l[i])[j]?
theorem NodesAt.below {l : List NdN} {a : Option Addr} {W W' : World} (h : NodesAt l a W) (hb : Below W.heap.size W W') : NodesAt l a W' := fun hne => by
  obtain ⟨g, off, e, hg, hc⟩ := h hne
  exact ⟨g, off, e, Nat.lt_of_lt_of_le hg hb.size, fun i hi j hj => (hb.cell (p := ⟨g, off + i * 8 + j, none⟩) hg).trans (hc i hi j hj)⟩

end Go.Proofs.Ytooolhekihijlaa

/- The document's trees: piece, kid; Ints of the same numbers. -/
namespace Go.Proofs.Ytooolhekihijlaa
open Go.RowKit BS

/-- A slice of whole numbers. -/
def IntsAt (l : List Int) (a : Option Addr) (W : World) : Prop := l ≠ [] → ∃ g, a = some ⟨g, 0, none⟩ ∧ g < W.heap.size ∧ ∀ i (h : i < l.length), W.cell? ⟨g, i, none⟩ = some (.int .i64 l[i])
theorem IntsAt.below {l : List Int} {a : Option Addr} {W W' : World} (h : IntsAt l a W) (hb : Below W.heap.size W W') : IntsAt l a W' := fun hne => by
  obtain ⟨g, e, hg, hc⟩ := h hne
  exact ⟨g, e, Nat.lt_of_lt_of_le hg hb.size, fun i hi => (hb.cell (p := ⟨g, i, none⟩) hg).trans (hc i hi)⟩
/-- A slice of whole numbers that may begin within its block. -/
def IntsO (l : List Int) (a : Option Addr) (W : World) : Prop := l ≠ [] → ∃ g o, a = some ⟨g, o, none⟩ ∧ g < W.heap.size ∧ ∀ i (h : i < l.length), W.cell? ⟨g, o + i, none⟩ = some (.int .i64 l[i])
theorem IntsO.below {l : List Int} {a : Option Addr} {W W' : World} (h : IntsO l a W) (hb : Below W.heap.size W W') : IntsO l a W' := fun hne => by
  obtain ⟨g, o, e, hg, hc⟩ := h hne
  exact ⟨g, o, e, Nat.lt_of_lt_of_le hg hb.size, fun i hi => (hb.cell (p := ⟨g, o + i, none⟩) hg).trans (hc i hi)⟩
theorem IntsAt.o {l : List Int} {a : Option Addr} {W : World} (h : IntsAt l a W) : IntsO l a W := fun hne => by
  obtain ⟨g, e, hg, hc⟩ := h hne
  exact ⟨g, 0, e, hg, fun i hi => by rw [Nat.zero_add]; exact hc i hi⟩
def SIn (w : World) (g1 o1 g2 o2 i : Nat) (x : Int) (W : World) : Prop := W.cell? ⟨g1, o1 + i, none⟩ = some (.int .i64 x) ∧ W.cell? ⟨g2, o2 + i, none⟩ = some (.int .i64 x) ∧ W = w
set_option maxRecDepth 100000 in
set_option maxHeartbeats 4000000 in
theorem ints_same (l : List Int) (hl : l.length ≤ 1000000) (a b : Option Addr) (c1 c2 : Nat) (w : World) (h1 : IntsO l a w) (h2 : IntsO l b w) :
    Calls Try.prog 13 #[.slice a l.length c1, .slice b l.length c2] w fun e w' => e = .returned (.bool true) ∧ Below w.heap.size w w' := by
  have H1 := Lib.hid h1
  have H2 := Lib.hid h2
  clear h1 h2
  go_enter Try.func13, Try.ntmps13
  go_wp2_with fail
  go_loopw [5] (fun x wr => ∃ i : Nat, i ≤ l.length ∧ x = .int .i64 i ∧ IntsO l a wr ∧ IntsO l b wr ∧ Below w.heap.size w wr) (fun x _ => l.length - (intOf x).toNat)
  case atStart => exact ⟨0, Nat.zero_le _, rfl, H1.out, H2.out, Below.refl _ _⟩
  case round =>
    clear H1 H2
    obtain ⟨i, hi, rfl, h1, h2, hB⟩ := hrel
    by_cases hlt : i < l.length
    · have hne : l ≠ [] := by rintro rfl; simp at hlt
      obtain ⟨g1, o1, rfl, hg1, p1⟩ := h1 hne
      obtain ⟨g2, o2, rfl, hg2, p2⟩ := h2 hne
      have hd : decide ((i : Int) < (l.length : Int)) = true := by rw [decide_eq_true_iff]; omega
      have hd2 : decide (i < l.length) = true := by rw [decide_eq_true_iff]; omega
      have s1 := p1 i hlt
      have s2 := p2 i hlt
      have H1 := Lib.hid h1
      have H2 := Lib.hid h2
      have HB := Lib.hid hB
      clear h1 h2 p1 p2 hg1 hg2 hne hB
      generalize l[i] = x at *
      have h0 : SIn wr.drew g1 o1 g2 o2 i x wr.drew := ⟨s1, s2, rfl⟩
      clear s1 s2
      go_wp2_with fail
      refine region_steps (S := SIn wr.drew g1 o1 g2 o2 i x) (by kernel_rfl) h0 ?_
      clear h0
      simp only [List.size_toArray, List.length_cons, List.length_nil, Nat.reduceAdd, Array.replicate_succ, Array.replicate_zero, List.push_toArray, List.nil_append, List.cons_append]
      refine AnyS.stepE (i := 0) (d := some 17) rfl rfl (by kernel_rfl) (by kernel_rfl) (by kernel_rfl) ?_
      apply Exists.intro
      apply And.intro
      · apply StepsIf.yield
        · kernel_rfl
        intro w' hS
        clear hS; go_simp
        rfl
      intro a' ha'
      simp only [Act.put, List.setIfInBounds_toArray, List.set_cons_zero, List.set_cons_succ] at ha'
      subst ha'
      refine AnyS.stepE (i := 1) (d := some 18) rfl rfl (by kernel_rfl) (by kernel_rfl) (by kernel_rfl) ?_
      apply Exists.intro
      apply And.intro
      · apply StepsIf.yield
        · kernel_rfl
        intro w' hS
        clear hS; go_simp
        rfl
      intro a' ha'
      simp only [Act.put, List.setIfInBounds_toArray, List.set_cons_zero, List.set_cons_succ] at ha'
      subst ha'
      refine AnyS.next (i := 2) (d := some 19) (v := .pointer (some ⟨g1, o1 + i, none⟩)) rfl rfl (by kernel_rfl) (by kernel_rfl) (by kernel_rfl) (StepsIf.yield (by kernel_rfl) (fun w' hS => by clear hS; go_simp)) ?_
      intro a' ha'
      simp only [Act.put, List.setIfInBounds_toArray, List.set_cons_zero, List.set_cons_succ] at ha'
      subst ha'
      refine AnyS.next (i := 3) (d := some 20) (v := .int .i64 x) rfl rfl (by kernel_rfl) (by kernel_rfl) (by kernel_rfl) (StepsIf.yield (by kernel_rfl) (fun w' hS => by have s := hS.1; clear hS; go_simp)) ?_
      intro a' ha'
      simp only [Act.put, List.setIfInBounds_toArray, List.set_cons_zero, List.set_cons_succ] at ha'
      subst ha'
      refine AnyS.stepE (i := 4) (d := some 21) rfl rfl (by kernel_rfl) (by kernel_rfl) (by kernel_rfl) ?_
      apply Exists.intro
      apply And.intro
      · apply StepsIf.yield
        · kernel_rfl
        intro w' hS
        clear hS; go_simp
        rfl
      intro a' ha'
      simp only [Act.put, List.setIfInBounds_toArray, List.set_cons_zero, List.set_cons_succ] at ha'
      subst ha'
      refine AnyS.stepE (i := 5) (d := some 22) rfl rfl (by kernel_rfl) (by kernel_rfl) (by kernel_rfl) ?_
      apply Exists.intro
      apply And.intro
      · apply StepsIf.yield
        · kernel_rfl
        intro w' hS
        clear hS; go_simp
        rfl
      intro a' ha'
      simp only [Act.put, List.setIfInBounds_toArray, List.set_cons_zero, List.set_cons_succ] at ha'
      subst ha'
      refine AnyS.next (i := 6) (d := some 23) (v := .pointer (some ⟨g2, o2 + i, none⟩)) rfl rfl (by kernel_rfl) (by kernel_rfl) (by kernel_rfl) (StepsIf.yield (by kernel_rfl) (fun w' hS => by clear hS; go_simp)) ?_
      intro a' ha'
      simp only [Act.put, List.setIfInBounds_toArray, List.set_cons_zero, List.set_cons_succ] at ha'
      subst ha'
      refine AnyS.next (i := 7) (d := some 24) (v := .int .i64 x) rfl rfl (by kernel_rfl) (by kernel_rfl) (by kernel_rfl) (StepsIf.yield (by kernel_rfl) (fun w' hS => by have s := hS.2.1; clear hS; go_simp)) ?_
      intro a' ha'
      simp only [Act.put, List.setIfInBounds_toArray, List.set_cons_zero, List.set_cons_succ] at ha'
      subst ha'
      refine AnyS.next (i := 8) (d := some 25) (v := .bool false) rfl rfl (by kernel_rfl) (by kernel_rfl) (by kernel_rfl) (StepsIf.yield (by kernel_rfl) (fun w' hS => by clear hS; go_simp)) ?_
      intro a' ha'
      simp only [Act.put, List.setIfInBounds_toArray, List.set_cons_zero, List.set_cons_succ] at ha'
      subst ha'
      refine AnyS.done (by kernel_rfl) (fun w6 hS => ?_) _
      obtain ⟨_, _, rfl⟩ := hS
      go_wp2_with fail
      go_roundw
      case rel => exact ⟨i + 1, by omega, by simp, H1.out, H2.out, HB.out.drew⟩
      case measure => simp [intOf]; omega
    · obtain rfl : i = l.length := by omega
      have hd : decide ((l.length : Int) < (l.length : Int)) = false := by simp
      clear h1 h2
      go_wp2_with fail
      go_ret
      exact ⟨rfl, hB⟩
end Go.Proofs.Ytooolhekihijlaa

/- The document's trees: Sizes. -/
namespace Go.Proofs.Ytooolhekihijlaa
open Go.RowKit BS

theorem len_le_sum : ∀ (s : List Nat), (∀ x ∈ s, 0 < x) → s.length ≤ s.sum
  | [], _ => Nat.le_refl _
  | z :: s, h => by
    have h1 := h z (List.mem_cons_self ..)
    have h2 := len_le_sum s (fun x hx => h x (List.mem_cons_of_mem _ hx))
    rw [List.length_cons, List.sum_cons]
    omega
/-- Kids' numbers, and sizes, of a list of nodes. -/
def ksN (l : List NdN) : List Nat := (l.map NdN.kids).map Int.toNat
def sizesR (l : List NdN) : List Int := if manyF 0 (l.map NdN.kids) = some 1 then (sizesF [] (ksN l)).map (fun x : Nat => (x : Int)) else []
end Go.Proofs.Ytooolhekihijlaa

/- The document's trees: Kids. -/
namespace Go.Proofs.Ytooolhekihijlaa
open Go.RowKit BS

theorem allKids_at (ks : List Nat) (i : Nat) (hi : i < ks.length) (s : List Nat) (hs : stackF [] (ks.take i) = some s) : (allKids 0 [] ks)[i]? = some ((posF i s).take ks[i]) := by
  have e : ks = ks.take i ++ (ks[i] :: ks.drop (i + 1)) := by rw [← List.drop_eq_getElem_cons hi, List.take_append_drop]
  have hl : (allKids 0 [] (ks.take i)).length = i := by rw [allKids_len, List.length_take]; omega
  have ea : allKids 0 [] ks = allKids 0 [] (ks.take i) ++ (posF i s).take ks[i] :: allKids (i + 1) (stepF s ks[i]) (ks.drop (i + 1)) := by
    conv => lhs; rw [e]
    rw [allKids_append _ _ _ _ _ hs, List.length_take, show 0 + min i ks.length = i by omega, allKids]
  rw [ea, List.getElem?_append_right (by omega), hl, Nat.sub_self]
  rfl
/-- The places of a node's kids, from the left. -/
def kidsR (l : List NdN) (i : Int) : List Int := if manyF 0 (l.map NdN.kids) = some 1 ∧ 0 ≤ i ∧ i < (l.length : Int) then ((((allKids 0 [] (ksN l))[i.toNat]?).getD []).reverse).map (fun x : Nat => (x : Int)) else []
end Go.Proofs.Ytooolhekihijlaa

/- Patterns' trees, plainly: groups' numbers of a list of nodes; a node by itself; a pattern's tree. -/
namespace Go.Proofs.Ytooolhekihijlaa
open Go.RowKit BS

theorem sizesR_len (l : List NdN) : (sizesR l).length = if manyF 0 (l.map NdN.kids) = some 1 then l.length else 0 := by
  unfold sizesR
  by_cases hf : manyF 0 (l.map NdN.kids) = some 1
  · rw [if_pos hf, if_pos hf, List.length_map, sizesF_len]; simp [ksN]
  · rw [if_neg hf, if_neg hf]; rfl
theorem sizesR_le (l : List NdN) : (sizesR l).length ≤ l.length := by
  rw [sizesR_len]
  split
  · exact Nat.le_refl _
  · exact Nat.zero_le _
/-- Node i's kind; where its first node is, less one. -/
def kdN (l : List NdN) : Nat → Int := kindF (l.map NdN.kind)
def fiN (l : List NdN) (i : Nat) : Int := (i : Int) - (sizesR l).getD i 0
/-- Groups' numbers. -/
def numsR (l : List NdN) : List Int := (List.range (sizesR l).length).map fun i => ((numF (kdN l) (fiN l) (sizesR l).length i : Nat) : Int)
theorem kdN_get (l : List NdN) (i : Nat) (h : i < l.length) : kdN l i = l[i].kind := by
  unfold kdN kindF
  rw [List.getD_eq_getElem?_getD, List.getElem?_eq_getElem (by simpa using h), Option.getD_some, List.getElem_map]
theorem fiN_get (l : List NdN) (i : Nat) (h : i < (sizesR l).length) : fiN l i = (i : Int) - (sizesR l)[i] := by
  unfold fiN
  rw [List.getD_eq_getElem?_getD, List.getElem?_eq_getElem h, Option.getD_some]
theorem sizesR_bound (l : List NdN) (i : Nat) (h : i < (sizesR l).length) : 0 ≤ (sizesR l)[i] ∧ (sizesR l)[i] ≤ i + 1 := by
  have hf : manyF 0 (l.map NdN.kids) = some 1 := by
    rw [sizesR_len] at h
    by_cases hf : manyF 0 (l.map NdN.kids) = some 1
    · exact hf
    · rw [if_neg hf] at h; omega
  have hR : sizesR l = (sizesF [] (ksN l)).map (fun x : Nat => (x : Int)) := if_pos hf
  obtain ⟨hk0, hst⟩ := (formed_iff (l.map NdN.kids)).1 hf
  have hst : stackF [] (ksN l) = some [(l.map NdN.kids).length] := hst
  have hkl : (ksN l).length = l.length := by simp [ksN]
  have hi : i < (ksN l).length := by
    rw [sizesR_len, if_pos hf] at h
    omega
  obtain ⟨s, hs, hks, hsum⟩ := stack_at (ksN l) [] _ hst i hi
  obtain ⟨_, _, hsi⟩ := roots_at (ksN l) i hi s hs
  have hle := take_sum_le s (ksN l)[i]
  have hi2 : i < (sizesF [] (ksN l)).length := by rw [sizesF_len]; exact hi
  have e : (sizesR l)[i] = (((sizesF [] (ksN l))[i] : Nat) : Int) := by simp only [hR, List.getElem_map]
  have hs2 : s.sum = i := by simpa using hsum
  rw [e]
  rw [List.getElem?_eq_getElem hi2] at hsi
  have hsi := Option.some.inj hsi
  omega
/-- How many of the first k nodes are groups that do not begin behind node i's. -/
def cntN (l : List NdN) (i k : Nat) : Nat := (List.range k).countP fun k => kdN l k == 3 && leF (fiN l) k i
theorem cntN_step (l : List NdN) (i k : Nat) : cntN l i (k + 1) = cntN l i k + if (kdN l k == 3 && leF (fiN l) k i) = true then 1 else 0 := by
  unfold cntN
  rw [List.range_succ, List.countP_append]
  simp [List.countP_cons]
theorem cntN_le (l : List NdN) (i k : Nat) : cntN l i k ≤ k := by
  unfold cntN
  have := List.countP_le_length (p := fun k => kdN l k == 3 && leF (fiN l) k i) (l := List.range k)
  rw [List.length_range] at this
  exact this
theorem cntN_num (l : List NdN) (i : Nat) (h : kdN l i = 3) : cntN l i (sizesR l).length = numF (kdN l) (fiN l) (sizesR l).length i := (num_count _ _ _ _ h).symm

/-- May a node be, but for its kids' kinds? -/
def nodeF (x : NdN) : Bool :=
  if x.kind ≠ 2 ∧ x.set ≠ 0 then false
  else if x.kind ≠ 4 ∧ (x.n ≠ 0 ∨ x.m ≠ 0) then false
  else if x.kind = 1 ∨ x.kind = 2 then x.kids == 0
  else if x.kind = 3 then x.kids == 1
  else if x.kind = 4 then x.kids == 1 && rightN x.n x.m
  else if x.kind = 5 ∨ x.kind = 6 then decide (2 ≤ x.kids)
  else false
/-- May node i's kids be its kids? -/
def kidsOkB (l : List NdN) (i : Nat) : Bool := (kidsR l i).all fun x => kidF (kdN l i) (kdN l x.toNat)
def okN (l : List NdN) (i : Nat) : Bool := nodeF (l.getD i ⟨0, 0, 0, 0, 0⟩) && kidsOkB l i
def grpN (l : List NdN) (k : Nat) : Nat := (List.range k).countP fun i => kdN l i == 3
/-- Is a list a pattern's tree? -/
def rightR (l : List NdN) : Bool := decide (manyF 0 (l.map NdN.kids) = some 1) && ((List.range l.length).all (okN l) && decide (grpN l l.length ≤ 9))
theorem grpN_step (l : List NdN) (k : Nat) : grpN l (k + 1) = grpN l k + if (kdN l k == 3) = true then 1 else 0 := by
  unfold grpN
  rw [List.range_succ, List.countP_append]
  simp [List.countP_cons]
theorem grpN_le (l : List NdN) (k : Nat) : grpN l k ≤ k := by
  unfold grpN
  have := List.countP_le_length (p := fun i => kdN l i == 3) (l := List.range k)
  rw [List.length_range] at this
  exact this
end Go.Proofs.Ytooolhekihijlaa

/- The document's trees: Numbers. -/
namespace Go.Proofs.Ytooolhekihijlaa
open Go.RowKit BS

def SNm (w0 : World) (g i k : Nat) (x y : Int) (W : World) : Prop := W.cell? ⟨g, i, none⟩ = some (.int .i64 x) ∧ W.cell? ⟨g, k, none⟩ = some (.int .i64 y) ∧ W = w0
end Go.Proofs.Ytooolhekihijlaa

/- The document's trees: node, Right. -/
namespace Go.Proofs.Ytooolhekihijlaa
open Go.RowKit BS

theorem kidsR_bound (l : List NdN) (i : Nat) (x : Int) (hx : x ∈ kidsR l i) : 0 ≤ x ∧ x < l.length := by
  unfold kidsR at hx
  by_cases hf : manyF 0 (l.map NdN.kids) = some 1 ∧ 0 ≤ (i : Int) ∧ (i : Int) < (l.length : Int)
  · rw [if_pos hf] at hx
    obtain ⟨y, hy, rfl⟩ := List.mem_map.1 hx
    rw [List.mem_reverse, show (i : Int).toNat = i from rfl] at hy
    have hkl : (ksN l).length = l.length := by simp [ksN]
    have hlt := allKids_lt (ksN l) [] 0 (fun h => absurd rfl h)
    have hal := allKids_len (ksN l) [] 0
    have hi : i < (allKids 0 [] (ksN l)).length := by rw [hal, hkl]; omega
    rw [List.getElem?_eq_getElem hi, Option.getD_some] at hy
    have := hlt _ (List.getElem_mem hi) y hy
    omega
  · rw [if_neg hf] at hx; cases hx
theorem kidsR_len (l : List NdN) (i : Nat) : (kidsR l i).length ≤ l.length := by
  unfold kidsR
  by_cases hf : manyF 0 (l.map NdN.kids) = some 1 ∧ 0 ≤ (i : Int) ∧ (i : Int) < (l.length : Int)
  · rw [if_pos hf, show (i : Int).toNat = i from rfl]
    obtain ⟨hk0, hst⟩ := (formed_iff (l.map NdN.kids)).1 hf.1
    have hst : stackF [] (ksN l) = some [(l.map NdN.kids).length] := hst
    have hkl : (ksN l).length = l.length := by simp [ksN]
    have hi : i < (ksN l).length := by omega
    obtain ⟨s, hs, hks, hsum⟩ := stack_at (ksN l) [] _ hst i hi
    have hpl := len_le_sum s (stackF_pos ((ksN l).take i) [] s (by simp) hs)
    have hsumi : s.sum = i := by simpa using hsum
    rw [allKids_at (ksN l) i hi s hs, Option.getD_some, List.length_map, List.length_reverse, List.length_take, posF_len]
    omega
  · rw [if_neg hf]; exact Nat.zero_le _
def SRi (w0 : World) (g off i x : Nat) (a b : Int) (g2 k : Nat) (W : World) : Prop :=
  (W.cell? ⟨g, off + i * 8, none⟩ = some (.int .i64 a) ∧ W.cell? ⟨g, off + x * 8, none⟩ = some (.int .i64 b) ∧ W.cell? ⟨g2, k, none⟩ = some (.int .i64 x)) ∧ W = w0
/-- Up to node i, and to kid k of it, all is right. -/
theorem okN_split (l : List NdN) (i : Nat) (h : i < l.length) : okN l i = (nodeF l[i] && kidsOkB l i) := by
  unfold okN
  rw [List.getD_eq_getElem?_getD, List.getElem?_eq_getElem h, Option.getD_some]
theorem rightR_no (l : List NdN) (i : Nat) (h : i < l.length) (h2 : okN l i = false) : rightR l = false := by
  unfold rightR
  have : (List.range l.length).all (okN l) = false := by
    rw [List.all_eq_false]
    exact ⟨i, List.mem_range.2 h, by rw [h2]; decide⟩
  rw [this]; simp
end Go.Proofs.Ytooolhekihijlaa

/- A whole block that is written at once. Nothing of the program is used. -/
namespace Go.Proofs.Ytooolhekihijlaa
open Go.RowKit

theorem Blk.setRow {W : World} {B : Nat} {vs cs : Array Value} {t : TypeId} (h : Blk W B vs t) : Blk (W.setRow B cs) B cs t := by
  obtain ⟨hlt, hk⟩ := Array.getElem?_eq_some_iff.1 h
  show (W.heap.modify B _)[B]? = _
  rw [Array.getElem?_eq_getElem (by rw [Array.size_modify]; exact hlt), Array.getElem_modify_self, hk]
theorem run_storeAt_row {P : Program} (w : World) (g : Nat) (t ty : TypeId) (old cells : Array Value) (hg : w.heap[g]? = some (.cells old t (0, 0))) (hi : (P.info? ty).map (·.size) = some cells.size) (ho : old.size = cells.size) (h1 : cells.all (·.oneCell') = true) :
    (Instr.storeAt ty (.pointer (some ⟨g, 0, none⟩)) (.agg cells)).run P w = .ok () (w.setRow g cells) := by
  simp only [Instr.storeAt, Instr.sureAddr, Sem.run_bind, Sem.run_pure, Result.andThen]
  exact run_storeVar_row _ _ t ty old cells hg hi ho h1

theorem wp_store_row {P : Program} {o : Oper} {a : Act} {w w' : World} {K : Act → World → Prop} {Q : Exit → Act → World → Prop} {cs : Array Value} (ty : TypeId) (x y : Operand) (ho : o.op = .store ty x y)
    (g : Nat) (hx : a.eval x = .pointer (some ⟨g, 0, none⟩)) (hy : a.eval y = .agg cs) (hst : (Instr.storeAt ty (.pointer (some ⟨g, 0, none⟩)) (.agg cs)).run P w = .ok () w') (h : K (a.put o.dst undef) w') : o.wp P a w K Q := by
  unfold Oper.wp execOp
  simp only [ho, hx, hy, Sem.run_bind, Sem.run_pure, hst, Result.andThen_ok]
  exact h
theorem wpList_store_st {P : Program} {ops : Array Oper} {rest : List Oper} {o : Oper} {a : Act} {w w' : World} {Q : Exit → Act → World → Prop} {cs : Array Value} (hgd : o.guard = none) (ty : TypeId) (x y : Operand) (ho : o.op = .store ty x y)
    (g : Nat) (hx : a.eval x = .pointer (some ⟨g, 0, none⟩)) (hy : a.eval y = .agg cs) (hst : (Instr.storeAt ty (.pointer (some ⟨g, 0, none⟩)) (.agg cs)).run P w = .ok () w') (h : wpList P ops Q rest (a.put o.dst undef) w') : wpList P ops Q (o :: rest) a w :=
  wpList_plain hgd fun _ hK => wp_store_row ty x y ho g hx hy hst (hK _ _ h)
theorem below_row {n B : Nat} {W W' : World} (hb : Below n W W') (hB : n ≤ B) (cs : Array Value) : Below n W (W'.setRow B cs) := below_setRow hb hB cs
theorem Blk.newsL {W : World} {B : Nat} {vs : Array Value} {t : TypeId} (h : Blk W B vs t) : ∀ j u, vs.toList[j]? = some u → W.cell? ((⟨B, 0, none⟩ : Addr).add j) = some u := by
  intro j u hu
  have e : (⟨B, 0, none⟩ : Addr).add j = ⟨B, j, none⟩ := by
    unfold Addr.add
    by_cases h0 : j = 0
    · subst h0; rfl
    · rw [if_neg h0, Nat.zero_add]
  rw [e, h.cell j]
  simpa using hu
theorem Blk.drewN {W : World} {B : Nat} {vs : Array Value} {t : TypeId} (h : Blk W B vs t) : ∀ n, Blk (W.drewN n) B vs t
  | 0 => h
  | n + 1 => Blk.drewN (W := W.drew) h n
theorem below_drN {m : Nat} {w W : World} (h : Below m w W) (n : Nat) : Below m w (W.drewN n) := h.trans ⟨rfl, rfl, rfl, Nat.le_refl _, fun _ _ => rfl⟩
end Go.Proofs.Ytooolhekihijlaa

/- Rows of a call's own: kept where their blocks are; nodes side by side. -/
namespace Go.Proofs.Ytooolhekihijlaa
open Go.RowKit BS

/-- A row of the call's own, kept where its block is. -/
theorem owns_keep {W W' : World} {base : Nat} {e : TypeId} {size : Nat} {v : Value} {n : Nat} {xs : List Value} (h : W.ownsRow base e size v n xs) (hb : ∀ g, v.ownBlock = some g → W'.heap[g]? = W.heap[g]?) : W'.ownsRow base e size v n xs := by
  refine ⟨h.1, ?_⟩
  rcases h.2 with hn | ⟨g, cap, cur, rfl, h1, h2, h3⟩
  · exact .inl hn
  · exact .inr ⟨g, cap, cur, rfl, h1, (hb g rfl).trans h2, h3⟩
theorem owns_form {W : World} {base : Nat} {e : TypeId} {size : Nat} {v : Value} {n : Nat} {xs : List Value} (h : W.ownsRow base e size v n xs) : ∃ a cap, v = .slice a n cap := by
  rcases h.2 with ⟨rfl, rfl⟩ | ⟨g, cap, cur, rfl, _⟩
  · exact ⟨_, _, rfl⟩
  · exact ⟨_, _, rfl⟩
theorem owns_last {W : World} {base : Nat} {e : TypeId} {v x : Value} {n : Nat} {xs : List Value} (h : W.ownsRow base e 1 v (n + 1) (xs ++ [x])) :
    ∃ g cap, v = .slice (some ⟨g, 0, none⟩) (n + 1) cap ∧ base ≤ g ∧ g < W.heap.size ∧ n + 1 ≤ cap ∧ W.cell? ⟨g, n, none⟩ = some x ∧ W.ownsRow base e 1 (.slice (some ⟨g, 0, none⟩) n cap) n xs := by
  have hl := h.1
  rw [List.length_append, List.length_singleton, Nat.mul_one] at hl
  rcases h.2 with ⟨_, h0⟩ | ⟨g, cap, cur, rfl, h1, h2, h3, h4, h5, h6⟩
  · omega
  · have hlt : g < W.heap.size := (Array.getElem?_eq_some_iff.1 h2).1
    refine ⟨g, cap, rfl, h1, hlt, h3, ?_, ⟨by omega, .inr ⟨g, cap, cur, rfl, h1, h2, by omega, h4, h5, ?_⟩⟩⟩
    · have hc : W.cell? ⟨g, n, none⟩ = cur[n]? := by simp [World.cell?, h2]
      have := congrArg (fun l : List Value => l[n]?) h6
      simp only [Nat.mul_one] at this
      rw [List.getElem?_take, if_pos (show n < n + 1 by omega), List.getElem?_append_right (show xs.length ≤ n by omega), show n - xs.length = 0 by omega] at this
      rw [hc, ← Array.getElem?_toList, this]
      rfl
    · have := congrArg (List.take (n * 1)) h6
      rw [List.take_take, show min (n * 1) ((n + 1) * 1) = n * 1 by omega, List.take_append_of_le_length (show n * 1 ≤ xs.length by omega), List.take_of_length_le (show xs.length ≤ n * 1 by omega)] at this
      exact this

/-! ### Nodes side by side -/
def ndCells (l : List NdN) : List Value := l.flatMap fun x => (ndA x).toList
theorem ndCells_app (l m : List NdN) : ndCells (l ++ m) = ndCells l ++ ndCells m := by simp [ndCells]
theorem ndCells_len (l : List NdN) : (ndCells l).length = l.length * 8 := by
  induction l with
  | nil => rfl
  | cons x l ih =>
    have e : ndCells (x :: l) = (ndA x).toList ++ ndCells l := by simp [ndCells]
    rw [e, List.length_append, ih, List.length_cons, show (ndA x).toList.length = 8 from rfl]
    omega
theorem ndCells_get : ∀ (l : List NdN) (i j : Nat) (h : i < l.length) (_hj : j < 8), (ndCells l)[i * 8 + j]? = (ndA l[i])[j]?
  | [], _, _, h, _ => absurd h (by simp)
  | x :: l, i, j, h, hj => by
    have e : ndCells (x :: l) = (ndA x).toList ++ ndCells l := by simp [ndCells]
    rw [e]
    cases i with
    | zero =>
      rw [List.getElem?_append_left (by rw [show (ndA x).toList.length = 8 from rfl]; omega), Nat.zero_mul, Nat.zero_add]
      simp
    | succ i =>
      rw [List.getElem?_append_right (by rw [show (ndA x).toList.length = 8 from rfl]; omega), show (ndA x).toList.length = 8 from rfl, show (i + 1) * 8 + j - 8 = i * 8 + j by omega]
      exact ndCells_get l i j (by simpa using h) hj
theorem ndCells_one (l : List NdN) : ∀ u ∈ ndCells l, u.oneCell' = true := fun u hu => by
  unfold ndCells at hu
  obtain ⟨x, _, hx⟩ := List.mem_flatMap.1 hu
  have h1 : ((ndA x).toList.all fun y => y.oneCell') = true := by simp [ndA, Value.oneCell']
  exact List.all_eq_true.1 h1 u hx
theorem nodes_news {l : List NdN} {g off : Nat} {W : World} (h : NodesAt l (some ⟨g, off, none⟩) W) : ∀ j u, (ndCells l)[j]? = some u → W.cell? ((⟨g, off, none⟩ : Addr).add j) = some u := fun j u hu => by
  have hj : j < (ndCells l).length := (List.getElem?_eq_some_iff.1 hu).1
  rw [ndCells_len] at hj
  have hne : l ≠ [] := by rintro rfl; simp at hj
  obtain ⟨g', off', e, _, hc⟩ := h hne
  cases e
  have h1 := hc (j / 8) (by omega) (j % 8) (by omega)
  rw [← ndCells_get l (j / 8) (j % 8) (by omega) (by omega), show off + j / 8 * 8 + j % 8 = off + j by omega, show j / 8 * 8 + j % 8 = j by omega, hu] at h1
  have e : (⟨g, off, none⟩ : Addr).add j = ⟨g, off + j, none⟩ := by
    unfold Addr.add
    by_cases h0 : j = 0
    · subst h0; rfl
    · rw [if_neg h0]
  rw [e]
  exact h1
end Go.Proofs.Ytooolhekihijlaa

/- Lists of entries in memory; the document's at, sign, Ahead. Stage 14. -/
namespace Go.Proofs.Ytooolhekihijlaa
open Go.RowKit BS

@[reducible] def enI (d n f e : Int) : Array Value := #[.int .i64 d, .int .i64 n, .int .i64 f, .int .i64 e]
def enA (x : EnN) : Array Value := enI x.depth x.node x.from_ x.to
/-- A slice of entries. -/
def EntsAt (l : List EnN) (a : Option Addr) (W : World) : Prop :=
  l ≠ [] → ∃ g off, a = some ⟨g, off, none⟩ ∧ g < W.heap.size ∧ ∀ i (h : i < l.length) j, j < 4 → W.cell? ⟨g, off + i * 4 + j, none⟩ = (enA l[i])[j]?
theorem EntsAt.below {l : List EnN} {a : Option Addr} {W W' : World} (h : EntsAt l a W) (hb : Below W.heap.size W W') : EntsAt l a W' := fun hne => by
  obtain ⟨g, off, e, hg, hc⟩ := h hne
  exact ⟨g, off, e, Nat.lt_of_lt_of_le hg hb.size, fun i hi j hj => (hb.cell (p := ⟨g, off + i * 4 + j, none⟩) hg).trans (hc i hi j hj)⟩
theorem infoEn : (Try.prog.info? 44).map (·.size) = some 4 := by kernel_rfl
set_option maxRecDepth 100000 in
set_option maxHeartbeats 8000000 in
theorem sign_calls (a b : Int) (w : World) : Calls Try.prog 24 #[.int .i64 a, .int .i64 b] w fun e w' => e = .returned (.int .i64 (sgT a b)) ∧ w = w' := by
  unfold sgT
  by_cases h1 : a < b
  · have q1 : decide (a < b) = true := decide_eq_true h1
    rw [if_pos h1]
    clear h1
    go_enter Try.func24, Try.ntmps24
    go_wp2_with fail
    go_ret
    exact ⟨rfl, rfl⟩
  have q1 : decide (a < b) = false := decide_eq_false h1
  rw [if_neg h1]
  by_cases h2 : b < a
  · have q2 : decide (b < a) = true := decide_eq_true h2
    rw [if_pos h2]
    clear h1 h2
    go_enter Try.func24, Try.ntmps24
    go_wp2_with fail
    go_ret
    exact ⟨rfl, rfl⟩
  have q2 : decide (b < a) = false := decide_eq_false h2
  rw [if_neg h2]
  clear h1 h2
  go_enter Try.func24, Try.ntmps24
  go_wp2_with fail
  go_ret
  exact ⟨rfl, rfl⟩
set_option maxRecDepth 100000 in
set_option maxHeartbeats 8000000 in
theorem at_calls (l : List EnN) (hl : l.length ≤ 1000000) (i : Nat) (_hi : i ≤ 1000000) (a : Option Addr) (cap : Nat) (w : World) (h : EntsAt l a w) :
    Calls Try.prog 23 #[.slice a l.length cap, .int .i64 (i : Int)] w fun e w' => e = .returned (.agg (enA (atE l i))) ∧ Below w.heap.size w w' := by
  have hR := Blk.new w (enI 0 0 0 0) 44
  have hB0 : Below w.heap.size w (w.alloc (.cells (enI 0 0 0 0) 44)) := (Below.refl _ _).alloc (Nat.le_refl _) _
  by_cases hlt : i < l.length
  · obtain ⟨g, off, rfl, hg, hc⟩ := h (by rintro rfl; simp at hlt)
    have hd : decide ((i : Int) < (l.length : Int)) = true := by rw [decide_eq_true_iff]; omega
    have hd2 : decide (i < l.length) = true := by rw [decide_eq_true_iff]; omega
    have hii : (i : Int) < (l.length : Int) := by omega
    rw [atE_lt l i hlt]
    have d := fun (j : Nat) (hj : j < 4) => (hB0.cell (p := ⟨g, off + i * 4 + j, none⟩) hg).trans (hc i hlt j hj)
    have d0 := d 0 (by decide); have d1 := d 1 (by decide); have d2 := d 2 (by decide); have d3 := d 3 (by decide)
    simp only [enA, List.getElem?_toArray, List.getElem?_cons_zero, List.getElem?_cons_succ, Nat.add_zero] at d0 d1 d2 d3
    generalize l[i] = x at *
    obtain ⟨xd, xn, xf, xt⟩ := x
    simp only at d0 d1 d2 d3
    have HR3 := Lib.hid ((((hR.set 0 (.int .i64 xd)).set 1 (.int .i64 xn)).set 2 (.int .i64 xf)).set 3 (.int .i64 xt))
    have HB3 := Lib.hid (below_set (below_set (below_set (below_set hB0 (Nat.le_refl _) 0 (.int .i64 xd)) (Nat.le_refl _) 1 (.int .i64 xn)) (Nat.le_refl _) 2 (.int .i64 xf)) (Nat.le_refl _) 3 (.int .i64 xt))
    have r0 := hR.cell 0; have r1 := hR.cell 1; have r2 := hR.cell 2; have r3 := hR.cell 3
    have s0 := hR.frozen 0; have s1 := hR.frozen 1; have s2 := hR.frozen 2; have s3 := hR.frozen 3
    simp only [List.getElem?_toArray, List.getElem?_cons_zero, List.getElem?_cons_succ] at r0 r1 r2 r3
    clear d hc h hR hB0 hg
    go_enter Try.func23, Try.ntmps23
    go_upto_region 1 with fail
    generalize w.alloc (.cells (enI 0 0 0 0) 44) = w1 at *
    go_wp2_with fail
    exact bodyPost_ret (v := .agg (enI xd xn xf xt)) (results_cell_row rfl _ _ w.heap.size 44 (enI xd xn xf xt) (0, 0) _ rfl HR3.out Try.underlying44 rfl infoEn) rfl ⟨rfl, HB3.out⟩
  · have hd : decide ((i : Int) < (l.length : Int)) = false := by rw [decide_eq_false_iff_not]; omega
    have hd2 : decide (i < l.length) = false := by rw [decide_eq_false_iff_not]; omega
    rw [atE_ge l i (by omega)]
    have HR3 := Lib.hid ((((hR.set 0 (.int .i64 0)).set 1 (.int .i64 0)).set 2 (.int .i64 0)).set 3 (.int .i64 0))
    have HB3 := Lib.hid (below_set (below_set (below_set (below_set hB0 (Nat.le_refl _) 0 (.int .i64 0)) (Nat.le_refl _) 1 (.int .i64 0)) (Nat.le_refl _) 2 (.int .i64 0)) (Nat.le_refl _) 3 (.int .i64 0))
    have r0 := hR.cell 0; have r1 := hR.cell 1; have r2 := hR.cell 2; have r3 := hR.cell 3
    have s0 := hR.frozen 0; have s1 := hR.frozen 1; have s2 := hR.frozen 2; have s3 := hR.frozen 3
    simp only [List.getElem?_toArray, List.getElem?_cons_zero, List.getElem?_cons_succ] at r0 r1 r2 r3
    clear h hR hB0
    go_enter Try.func23, Try.ntmps23
    go_upto_region 1 with fail
    generalize w.alloc (.cells (enI 0 0 0 0) 44) = w1 at *
    go_wp2_with fail
    exact bodyPost_ret (v := .agg (enI 0 0 0 0)) (results_cell_row rfl _ _ w.heap.size 44 (enI 0 0 0 0) (0, 0) _ rfl HR3.out Try.underlying44 rfl infoEn) rfl ⟨rfl, HB3.out⟩
theorem cmp_d {xd xn xf xt yd yn yf yt : Int} (h : xd ≠ yd) : cmpE ⟨xd, xn, xf, xt⟩ ⟨yd, yn, yf, yt⟩ = sgT yd xd ∧ cmpE ⟨xd, xn, xf, xt⟩ ⟨yd, yn, yf, yt⟩ ≠ 0 := by
  unfold cmpE
  simp only
  rw [if_pos h]
  refine ⟨rfl, ?_⟩
  unfold sgT
  repeat' split
  all_goals omega
theorem cmp_n {d xn xf xt yn yf yt : Int} (h : xn ≠ yn) : cmpE ⟨d, xn, xf, xt⟩ ⟨d, yn, yf, yt⟩ = sgT xn yn ∧ cmpE ⟨d, xn, xf, xt⟩ ⟨d, yn, yf, yt⟩ ≠ 0 := by
  unfold cmpE
  simp only
  rw [if_neg (fun hh => hh rfl), if_pos h]
  refine ⟨rfl, ?_⟩
  unfold sgT
  repeat' split
  all_goals omega
theorem cmp_f {d n xf xt yf yt : Int} (h : xf ≠ yf) : cmpE ⟨d, n, xf, xt⟩ ⟨d, n, yf, yt⟩ = sgT xf yf ∧ cmpE ⟨d, n, xf, xt⟩ ⟨d, n, yf, yt⟩ ≠ 0 := by
  unfold cmpE
  simp only
  rw [if_neg (fun hh => hh rfl), if_neg (fun hh => hh rfl), if_pos h]
  refine ⟨rfl, ?_⟩
  unfold sgT
  repeat' split
  all_goals omega
theorem cmp_t {d n f xt yt : Int} (h : xt ≠ yt) : cmpE ⟨d, n, f, xt⟩ ⟨d, n, f, yt⟩ = sgT yt xt ∧ cmpE ⟨d, n, f, xt⟩ ⟨d, n, f, yt⟩ ≠ 0 := by
  unfold cmpE
  simp only
  rw [if_neg (fun hh => hh rfl), if_neg (fun hh => hh rfl), if_neg (fun hh => hh rfl), if_pos h]
  refine ⟨rfl, ?_⟩
  unfold sgT
  repeat' split
  all_goals omega
/-- Which of two entries is ahead, by the first field in which they are not the same. -/
theorem lex_step (f g : Nat → EnN) (k i : Nat) : lexU f g (k + 1) i = if cmpE (f i) (g i) = 0 then lexU f g k (i + 1) else cmpE (f i) (g i) := rfl
set_option maxRecDepth 100000 in
set_option maxHeartbeats 16000000 in
theorem rAhead_calls (a b : List EnN) (ha : a.length ≤ 100000) (hb : b.length ≤ 100000) (ad bd : Option Addr) (ca cb : Nat) (w : World) (h : EntsAt a ad w) (k : EntsAt b bd w) :
    Calls Try.prog 9 #[.slice ad a.length ca, .slice bd b.length cb] w fun e w' => e = .returned (.int .i64 (aheadT a b)) ∧ Below w.heap.size w w' := by
  have HA := Lib.hid (fun (i : Nat) (hi : i ≤ 1000000) W (hW : Below w.heap.size w W) => at_calls a (by omega) i hi ad ca W (h.below hW))
  have HBB := Lib.hid (fun (i : Nat) (hi : i ≤ 1000000) W (hW : Below w.heap.size w W) => at_calls b (by omega) i hi bd cb W (k.below hW))
  obtain ⟨N, hN⟩ : ∃ N, N = max a.length b.length := ⟨_, rfl⟩
  have HR := Lib.hid (show lexU (atE a) (atE b) (N - 0) 0 = aheadT a b by rw [hN]; rfl)
  have HST := Lib.hid (lex_step (atE a) (atE b))
  have hNa : a.length ≤ N := by omega
  have hNb : b.length ≤ N := by omega
  have hNN : N = a.length ∨ N = b.length := by omega
  have hN1 : N ≤ 100000 := by omega
  have HZ : ∃ LU, LU = lexU (atE a) (atE b) ∧ ∀ i, LU 0 i = 0 := ⟨_, rfl, fun _ => rfl⟩
  obtain ⟨LU, hLU, hz⟩ := HZ
  rw [← hLU] at HR HST
  have HZ := Lib.hid hz
  clear hz
  clear h k hN hLU
  generalize aheadT a b = R at *
  generalize atE a = fa at *
  generalize atE b = fb at *
  generalize a.length = na at *
  generalize b.length = nb at *
  go_enter Try.func9, Try.ntmps9
  go_wp2_with fail
  go_loopw [5] (fun vi wr => ∃ i : Nat, i ≤ N ∧ vi = .int .i64 i ∧ LU (N - i) i = R ∧ Below w.heap.size w wr) (fun vi _ => N - (intOf vi).toNat)
  case atStart => exact ⟨0, Nat.zero_le _, rfl, HR.out, Below.refl _ _⟩
  case round =>
    clear HR
    obtain ⟨i, hi, rfl, hres, hB⟩ := hrel
    by_cases hlt : i < N
    · have xi : IntKind.i64.wrap ((i : Int) + 1) = (i : Int) + 1 := IntWalk.i64_in _ (by omega)
      have hst := HST.out (N - i - 1) i
      rw [show N - i - 1 + 1 = N - i by omega, hres, show N - i - 1 = N - (i + 1) by omega] at hst
      have HST1 := Lib.hid hst
      have HB := Lib.hid hB
      clear hst hres hB
      have hcond : (decide ((i : Int) < (na : Int)) = true ∧ decide (i < na) = true) ∨ (decide ((i : Int) < (na : Int)) = false ∧ decide (i < na) = false ∧ decide ((i : Int) < (nb : Int)) = true ∧ decide (i < nb) = true) := by
        by_cases h1 : i < na
        · exact .inl ⟨by rw [decide_eq_true_iff]; omega, decide_eq_true h1⟩
        · exact .inr ⟨by rw [decide_eq_false_iff_not]; omega, decide_eq_false h1, by rw [decide_eq_true_iff]; omega, by rw [decide_eq_true_iff]; omega⟩
      have hx := HA.out i (by omega)
      have hy := HBB.out i (by omega)
      generalize fa i = x at *
      generalize fb i = y at *
      obtain ⟨xd, xn, xf, xt⟩ := x
      obtain ⟨yd, yn, yf, yt⟩ := y
      simp only [enA] at hx hy
      have HX := Lib.hid hx
      have HY := Lib.hid hy
      clear hx hy
      rcases hcond with ⟨p1, p2⟩ | ⟨p1, p2, p3, p4⟩
      all_goals
        go_wp2_with fail
        refine (HX.out _ HB.out).mono ?_
        rintro e w1 ⟨rfl, hb1⟩
        have HB1 := Lib.hid (HB.out.trans (hb1.mono HB.out.size))
        clear hb1
        go_wp2_with fail
        refine (HY.out _ HB1.out).mono ?_
        rintro e w2 ⟨rfl, hb2⟩
        have HB2 := Lib.hid (HB1.out.trans (hb2.mono HB1.out.size))
        clear hb2
        have bX := (Blk.new w2 (enI xd xn xf xt) 44).alloc (.cells (enI yd yn yf yt) 44)
        have bY := Blk.new (w2.alloc (.cells (enI xd xn xf xt) 44)) (enI yd yn yf yt) 44
        rw [World.size_alloc] at bY
        have HB3 := Lib.hid ((HB2.out.alloc HB2.out.size (.cells (enI xd xn xf xt) 44)).alloc (by rw [World.size_alloc]; have := HB2.out.size; omega) (.cells (enI yd yn yf yt) 44))
        have r0 := bX.cell 0; have r1 := bX.cell 1; have r2 := bX.cell 2; have r3 := bX.cell 3
        have t0 := bY.cell 0; have t1 := bY.cell 1; have t2 := bY.cell 2; have t3 := bY.cell 3
        simp only [List.getElem?_toArray, List.getElem?_cons_zero, List.getElem?_cons_succ] at r0 r1 r2 r3 t0 t1 t2 t3
        clear bX bY
        go_upto_region 5 with fail
        generalize (w2.alloc (.cells (enI xd xn xf xt) 44)).alloc (.cells (enI yd yn yf yt) 44) = w3 at *
        clear HX HY HB HB1 HB2
        by_cases hne : xd ≠ yd
        · have q : (xd != yd) = true := by rw [bne_iff_ne]; exact hne
          have hc := @cmp_d xd xn xf xt yd yn yf yt hne
          have HRR := Lib.hid (show R = sgT yd xd from by have h9 := HST1.out; rw [if_neg hc.2] at h9; rw [h9, hc.1])
          clear hne hc HST1
          go_wp2_with fail
          refine (sign_calls yd xd _).mono ?_
          rintro e w4 ⟨rfl, rfl⟩
          go_wp2_with fail
          go_ret
          exact ⟨by rw [HRR.out] <;> rfl, HB3.out⟩
        obtain rfl : xd = yd := by
          rcases Classical.em (xd = yd) with h | h
          · exact h
          · exact absurd h hne
        clear hne
        by_cases hne : xn ≠ yn
        · have q : (xn != yn) = true := by rw [bne_iff_ne]; exact hne
          have hc := @cmp_n xd xn xf xt yn yf yt hne
          have HRR := Lib.hid (show R = sgT xn yn from by have h9 := HST1.out; rw [if_neg hc.2] at h9; rw [h9, hc.1])
          clear hne hc HST1
          go_wp2_with fail
          refine (sign_calls xn yn _).mono ?_
          rintro e w4 ⟨rfl, rfl⟩
          go_wp2_with fail
          go_ret
          exact ⟨by rw [HRR.out] <;> rfl, HB3.out⟩
        obtain rfl : xn = yn := by
          rcases Classical.em (xn = yn) with h | h
          · exact h
          · exact absurd h hne
        clear hne
        by_cases hne : xf ≠ yf
        · have q : (xf != yf) = true := by rw [bne_iff_ne]; exact hne
          have hc := @cmp_f xd xn xf xt yf yt hne
          have HRR := Lib.hid (show R = sgT xf yf from by have h9 := HST1.out; rw [if_neg hc.2] at h9; rw [h9, hc.1])
          clear hne hc HST1
          go_wp2_with fail
          refine (sign_calls xf yf _).mono ?_
          rintro e w4 ⟨rfl, rfl⟩
          go_wp2_with fail
          go_ret
          exact ⟨by rw [HRR.out] <;> rfl, HB3.out⟩
        obtain rfl : xf = yf := by
          rcases Classical.em (xf = yf) with h | h
          · exact h
          · exact absurd h hne
        clear hne
        by_cases hne : xt ≠ yt
        · have q : (xt != yt) = true := by rw [bne_iff_ne]; exact hne
          have hc := @cmp_t xd xn xf xt yt hne
          have HRR := Lib.hid (show R = sgT yt xt from by have h9 := HST1.out; rw [if_neg hc.2] at h9; rw [h9, hc.1])
          clear hne hc HST1
          go_wp2_with fail
          refine (sign_calls yt xt _).mono ?_
          rintro e w4 ⟨rfl, rfl⟩
          go_wp2_with fail
          go_ret
          exact ⟨by rw [HRR.out] <;> rfl, HB3.out⟩
        obtain rfl : xt = yt := by
          rcases Classical.em (xt = yt) with h | h
          · exact h
          · exact absurd h hne
        clear hne
        have HRR := Lib.hid (show LU (N - (i + 1)) (i + 1) = R from by have h9 := HST1.out; rw [if_pos ((cmpE_zero _ _).2 rfl)] at h9; exact h9.symm)
        clear HST1
        go_wp2_with fail
        go_roundw
        case rel => exact ⟨i + 1, by omega, by simp, HRR.out, HB3.out⟩
        case measure => simp [intOf]; omega
    · obtain rfl : i = N := by omega
      have p1 : decide ((i : Int) < (na : Int)) = false := by rw [decide_eq_false_iff_not]; omega
      have p2 : decide (i < na) = false := by rw [decide_eq_false_iff_not]; omega
      have p3 : decide ((i : Int) < (nb : Int)) = false := by rw [decide_eq_false_iff_not]; omega
      have p4 : decide (i < nb) = false := by rw [decide_eq_false_iff_not]; omega
      rw [Nat.sub_self, HZ.out] at hres
      have HRES := Lib.hid hres
      have HB := Lib.hid hB
      clear hres hB hNN
      go_wp2_with fail
      go_ret
      exact ⟨by rw [← HRES.out] <;> rfl, HB.out⟩
end Go.Proofs.Ytooolhekihijlaa

/- All: the iterator over a set's bytes. -/
namespace Go.Proofs.Ytooolhekihijlaa
open Go.RowKit Go.Shelf BS
attribute [local go_sem] Oper.semAt_some

/-- The numbers below k of which f says yes, ascending. -/
def el (f : Nat → Bool) (k : Nat) : List Nat := (List.range k).filter f
theorem el_zero (f : Nat → Bool) : el f 0 = [] := rfl
theorem el_succ (f : Nat → Bool) (k : Nat) : el f (k + 1) = el f k ++ if f k then [k] else [] := by
  unfold el; rw [List.range_succ, List.filter_append]; cases h : f k <;> simp [h]
theorem el_skip (f : Nat → Bool) {k j : Nat} (h : k ≤ j) (hf : ∀ i, k ≤ i → i < j → f i = false) : el f j = el f k := by
  induction j with
  | zero => rw [show k = 0 by omega]
  | succ j ih =>
    by_cases hk : k = j + 1
    · rw [hk]
    · rw [el_succ, hf j (by omega) (by omega), ih (by omega) (fun i h1 h2 => hf i h1 (by omega))]; simp
theorem el_len (f : Nat → Bool) (k : Nat) : (el f k).length ≤ k := by
  have := List.length_filter_le f (List.range k); simpa [el] using this

theorem nextOf_cases (f : Nat → Bool) (k : Nat) : (nextOf f k = -1 ∧ ∀ j, k ≤ j → j < 256 → f j = false) ∨ (∃ j : Nat, nextOf f k = j ∧ k ≤ j ∧ j < 256 ∧ f j = true ∧ ∀ i, k ≤ i → i < j → f i = false) := by
  by_cases h : ∃ j, k ≤ j ∧ j < 256 ∧ f j = true ∧ ∀ i, k ≤ i → i < j → f i = false
  · obtain ⟨j, h1, h2, h3, h4⟩ := h
    exact .inr ⟨j, nextOf_eq h2 h1 h3 h4, h1, h2, h3, h4⟩
  · have key : ∀ j, k ≤ j → j < 256 → f j = false := by
      intro j
      induction j using Nat.strongRecOn with
      | ind j ih =>
        intro h1 h2
        cases hf : f j with
        | false => rfl
        | true => exact absurd ⟨j, h1, h2, hf, fun i hi hij => ih i hij hi (by omega)⟩ h
    exact .inl ⟨nextOf_none key, key⟩

/-- The box Bs holds the set s. -/
def SetAt (Bs : Nat) (s : BitVec 256) (W : World) : Prop := W.cell? ⟨Bs, 0, none⟩ = some (.int .u64 (wd s 0)) ∧ W.cell? ⟨Bs, 1, none⟩ = some (.int .u64 (wd s 1)) ∧ W.cell? ⟨Bs, 2, none⟩ = some (.int .u64 (wd s 2)) ∧ W.cell? ⟨Bs, 3, none⟩ = some (.int .u64 (wd s 3))
theorem SetAt.keep {Bs B : Nat} {s : BitVec 256} {w w' : World} (h : SetAt Bs s w) (hb : Below B w w') (hB : Bs < B) : SetAt Bs s w' :=
  ⟨(hb.cell (p := ⟨Bs, 0, none⟩) hB).trans h.1, (hb.cell (p := ⟨Bs, 1, none⟩) hB).trans h.2.1, (hb.cell (p := ⟨Bs, 2, none⟩) hB).trans h.2.2.1, (hb.cell (p := ⟨Bs, 3, none⟩) hB).trans h.2.2.2⟩

end Go.Proofs.Ytooolhekihijlaa

/- slices.Values over bytes, and With. -/
namespace Go.Proofs.Ytooolhekihijlaa
open Go.RowKit Go.Shelf BS
attribute [local go_sem] Oper.semAt_some

/-- A slice of bytes that lies below n₀. -/
def BytesAt (n₀ : Nat) (W : World) (v : Value) (l : List (Fin 256)) : Prop :=
  ∃ (a : Option Addr) (cap : Nat), v = .slice a l.length cap ∧ (l ≠ [] → ∃ b off, a = some ⟨b, off, none⟩ ∧ b < n₀ ∧ ∀ j (h : j < l.length), W.cell? ⟨b, off + j, none⟩ = some (.int .u8 (l[j].val : Nat)))
theorem BytesAt.keep {n₀ : Nat} {A B : World} {v : Value} {l : List (Fin 256)} (h : BytesAt n₀ A v l) (hb : Below n₀ A B) : BytesAt n₀ B v l := by
  obtain ⟨a, cap, e, h⟩ := h
  refine ⟨a, cap, e, fun hne => ?_⟩
  obtain ⟨b, off, e, hlt, hc⟩ := h hne
  exact ⟨b, off, e, hlt, fun j hj => (hb.cell (p := ⟨b, off + j, none⟩) hlt).trans (hc j hj)⟩

end Go.Proofs.Ytooolhekihijlaa

/- With: a set with some bytes more. -/
namespace Go.Proofs.Ytooolhekihijlaa
open Go.RowKit Go.Shelf BS
attribute [local go_sem] Oper.semAt_some

/-- The set of one number. -/
def one (x : Nat) : BitVec 256 := ofFn fun j => decide (j = x)
def withL (s : BitVec 256) (l : List (Fin 256)) : BitVec 256 := l.foldl (fun t x => t ||| one x.val) s
theorem withL_snoc (s : BitVec 256) (l : List (Fin 256)) (x : Fin 256) : withL s (l ++ [x]) = withL s l ||| one x.val := by simp [withL]

theorem wd_one (x i : Nat) (hi : i < 4) : wd (one x) i = if x / 64 = i then 2 ^ (x % 64) else 0 := by
  apply Nat.eq_of_testBit_eq; intro j
  rw [testBit_wd, one, get_ofFn]
  by_cases h : x / 64 = i
  · rw [if_pos h, Nat.testBit_two_pow]
    by_cases hj : j < 64
    · simp only [hj, show 64 * i + j < 256 by omega, decide_true, Bool.true_and, decide_eq_decide]; omega
    · simp only [hj, decide_false, Bool.false_and]
      symm; rw [decide_eq_false_iff_not]; omega
  · rw [if_neg h, Nat.zero_testBit]
    by_cases hj : j < 64
    · simp only [hj, show 64 * i + j < 256 by omega, decide_true, Bool.true_and, decide_eq_false_iff_not]; omega
    · simp [hj]

theorem or_one_same (t : BitVec 256) (x i : Nat) (hi : i < 4) (h : x / 64 = i) : bits .or .u64 (wd t i : Int) (IntKind.u64.wrap (2 ^ (x % 64))) = (wd (t ||| one x) i : Int) := by
  have h1 : x % 64 < 64 := Nat.mod_lt _ (by decide)
  have h2 : (2 : Nat) ^ (x % 64) < 2 ^ 64 := Nat.pow_lt_pow_right (by decide) h1
  have h3 : ((2 : Int) ^ (x % 64)) = ((2 ^ (x % 64) : Nat) : Int) := by simp
  rw [h3, wrap_u64_nat _ h2, bits_or_nat _ _ (wd_lt _ _) h2, wd_or, wd_one x i hi, if_pos h]
theorem or_one_other (t : BitVec 256) (x i : Nat) (hi : i < 4) (h : x / 64 ≠ i) : wd t i = wd (t ||| one x) i := by
  rw [wd_or, wd_one x i hi, if_neg h, Nat.or_zero]

@[reducible] def setA (s : BitVec 256) : Array Value := #[.int .u64 (wd s 0), .int .u64 (wd s 1), .int .u64 (wd s 2), .int .u64 (wd s 3)]

theorem Blk.cells4 {W : World} {B : Nat} {a b c d : Value} {t : TypeId} (h : Blk W B #[a, b, c, d] t) : (W.cell? ⟨B, 0, none⟩ = some a ∧ W.cell? ⟨B, 1, none⟩ = some b ∧ W.cell? ⟨B, 2, none⟩ = some c ∧ W.cell? ⟨B, 3, none⟩ = some d) ∧
    (W.frozen? ⟨B, 0, none⟩ = false ∧ W.frozen? ⟨B, 1, none⟩ = false ∧ W.frozen? ⟨B, 2, none⟩ = false ∧ W.frozen? ⟨B, 3, none⟩ = false) :=
  ⟨⟨h.cell 0, h.cell 1, h.cell 2, h.cell 3⟩, h.frozen 0, h.frozen 1, h.frozen 2, h.frozen 3⟩

theorem setA_or (t : BitVec 256) (x : Nat) (h0 : x / 64 = 0) : (setA t).setIfInBounds 0 (.int .u64 (bits .or .u64 (wd t 0 : Int) (IntKind.u64.wrap (2 ^ (x % 64))))) = setA (t ||| one x) := by
  rw [or_one_same t x 0 (by decide) h0, setA, setA, ← or_one_other t x 1 (by decide) (by omega), ← or_one_other t x 2 (by decide) (by omega), ← or_one_other t x 3 (by decide) (by omega)]; rfl
theorem setA_or1 (t : BitVec 256) (x : Nat) (h0 : x / 64 = 1) : (setA t).setIfInBounds 1 (.int .u64 (bits .or .u64 (wd t 1 : Int) (IntKind.u64.wrap (2 ^ (x % 64))))) = setA (t ||| one x) := by
  rw [or_one_same t x 1 (by decide) h0, setA, setA, ← or_one_other t x 0 (by decide) (by omega), ← or_one_other t x 2 (by decide) (by omega), ← or_one_other t x 3 (by decide) (by omega)]; rfl
theorem setA_or2 (t : BitVec 256) (x : Nat) (h0 : x / 64 = 2) : (setA t).setIfInBounds 2 (.int .u64 (bits .or .u64 (wd t 2 : Int) (IntKind.u64.wrap (2 ^ (x % 64))))) = setA (t ||| one x) := by
  rw [or_one_same t x 2 (by decide) h0, setA, setA, ← or_one_other t x 0 (by decide) (by omega), ← or_one_other t x 1 (by decide) (by omega), ← or_one_other t x 3 (by decide) (by omega)]; rfl
theorem setA_or3 (t : BitVec 256) (x : Nat) (h0 : x / 64 = 3) : (setA t).setIfInBounds 3 (.int .u64 (bits .or .u64 (wd t 3 : Int) (IntKind.u64.wrap (2 ^ (x % 64))))) = setA (t ||| one x) := by
  rw [or_one_same t x 3 (by decide) h0, setA, setA, ← or_one_other t x 0 (by decide) (by omega), ← or_one_other t x 1 (by decide) (by omega), ← or_one_other t x 2 (by decide) (by omega)]; rfl

end Go.Proofs.Ytooolhekihijlaa

/- The document's sets, by the reference's own calls: Has, Of, With. -/
namespace Go.Proofs.Ytooolhekihijlaa
open Go.RowKit BS

set_option maxHeartbeats 400000 in
/-- Has. -/
theorem rhas_calls (a : BitVec 256) (x : Int) (w : World) (h0 : 0 ≤ x) (h1 : x < 256) :
    Calls Try.prog 47 #[setV a, .int .i64 x] w fun e w' => e = .returned (.bool (a.getLsbD x.toNat)) ∧ Below w.heap.size w w' := by
  have hx2 : 0 ≤ x % 64 := by omega
  have hx3 : x % 64 < 64 := by omega
  have h4 : x / 64 = 0 ∨ x / 64 = 1 ∨ x / 64 = 2 ∨ x / 64 = 3 := by omega
  rcases h4 with hx | hx | hx | hx
  all_goals
    go_enter Try.func47, Try.ntmps47
    go_wp2
    go_ret
    refine ⟨ret_bool (has_word' a x _ _ ?_ ?_), by go_grown⟩ <;> omega

/-- 256 answers. -/
def Bools (arr : Array Value) (f : Nat → Bool) : Prop := arr.size = 256 ∧ ∀ i, i < 256 → arr[i]? = some (.bool (f i))
theorem Bools.set {arr : Array Value} {f : Nat → Bool} (h : Bools arr f) (i : Nat) (b : Bool) : Bools (arr.setIfInBounds i (.bool b)) (fun j => if j = i then b else f j) := by
  refine ⟨by simpa using h.1, fun j hj => ?_⟩
  by_cases hji : j = i
  · subst hji
    have : j < arr.size := by rw [h.1]; exact hj
    simp [this]
  · rw [Array.getElem?_setIfInBounds_ne (Ne.symm hji), h.2 j hj]; simp [hji]
theorem ofFn_congr {f g : Nat → Bool} (h : ∀ j, j < 256 → f j = g j) : ofFn f = ofFn g := by
  apply BitVec.eq_of_getLsbD_eq; intro j hj
  rw [get_ofFn, get_ofFn, h j hj]

/-- The first k answers, as a set. -/
def pre (f : Nat → Bool) (k : Nat) : BitVec 256 := ofFn fun j => decide (j < k) && f j
theorem pre_true (f : Nat → Bool) (k : Nat) (h : f k = true) : pre f (k + 1) = pre f k ||| one k := by
  apply BitVec.eq_of_getLsbD_eq; intro j hj
  rw [BitVec.getLsbD_or, pre, pre, one, get_ofFn, get_ofFn, get_ofFn]
  simp only [hj, decide_true, Bool.true_and]
  by_cases hjk : j = k
  · subst hjk; simp [h]
  · have : (j < k + 1) ↔ (j < k) := by omega
    simp [this, hjk]
theorem pre_false (f : Nat → Bool) (k : Nat) (h : f k = false) : pre f (k + 1) = pre f k := by
  apply ofFn_congr; intro j hj
  by_cases hjk : j = k
  · subst hjk; simp [h]
  · have : (j < k + 1) ↔ (j < k) := by omega
    simp [this]
theorem pre_all (f : Nat → Bool) : pre f 256 = ofFn f := ofFn_congr fun j hj => by simp [hj]
theorem pre_none (f : Nat → Bool) : pre f 0 = 0 := by
  apply BitVec.eq_of_getLsbD_eq; intro j hj
  rw [pre, get_ofFn]; simp

/-- A set stored into a box of its own. -/
theorem fin4 {w W : World} {n B : Nat} {a b c d : Value} {T : TypeId} (h : Blk W B #[a, b, c, d] T) (hb : Below n w W) (hB : n ≤ B) (t : BitVec 256) :
    Blk ((((W.setCell ⟨B, 0, none⟩ (.int .u64 (wd t 0))).setCell ⟨B, 1, none⟩ (.int .u64 (wd t 1))).setCell ⟨B, 2, none⟩ (.int .u64 (wd t 2))).setCell ⟨B, 3, none⟩ (.int .u64 (wd t 3))) B (setA t) T ∧
    Below n w ((((W.setCell ⟨B, 0, none⟩ (.int .u64 (wd t 0))).setCell ⟨B, 1, none⟩ (.int .u64 (wd t 1))).setCell ⟨B, 2, none⟩ (.int .u64 (wd t 2))).setCell ⟨B, 3, none⟩ (.int .u64 (wd t 3))) :=
  ⟨(((h.set 0 _).set 1 _).set 2 _).set 3 _, below_set (below_set (below_set (below_set hb hB _ _) hB _ _) hB _ _) hB _ _⟩

def SW (w : World) (t : BitVec 256) (W : World) : Prop :=
  (Blk W w.heap.size (setA t) 47 ∧ Blk W (w.heap.size + 1) (setA 0) 47) ∧ Below w.heap.size w W
theorem drew_w {w W : World} {t : BitVec 256} (h : SW w t W) : SW w t W.drew := ⟨⟨h.1.1, h.1.2⟩, h.2.drew⟩
theorem SW.store {w W : World} {t t' : BitVec 256} (h : SW w t W) (i : Nat) (v : Value) (hv : (setA t).setIfInBounds i v = setA t') : SW w t' (W.setCell ⟨w.heap.size, i, none⟩ v) :=
  ⟨⟨by rw [← hv]; exact h.1.1.set i v, h.1.2.other (by omega) _ _⟩, below_set h.2 (by omega) _ _⟩

end Go.Proofs.Ytooolhekihijlaa

/- A whole block of cells, known by what it holds: kept and written to. Nothing of the program is used. -/
import Derived.RangeFuncBox
import Derived.RangeFuncFrom
import Derived.WalkKit
namespace Go.Proofs.Ytlhlgohgmbkaoaa
open Go.RowKit

def Blk (W : World) (B : Nat) (vs : Array Value) (t : TypeId) : Prop := W.heap[B]? = some (.cells vs t (0, 0))

theorem Blk.lt {W : World} {B : Nat} {vs : Array Value} {t : TypeId} (h : Blk W B vs t) : B < W.heap.size := (Array.getElem?_eq_some_iff.1 h).1
theorem Blk.cell {W : World} {B : Nat} {vs : Array Value} {t : TypeId} (h : Blk W B vs t) (i : Nat) : W.cell? ⟨B, i, none⟩ = vs[i]? := by simp [World.cell?, show W.heap[B]? = _ from h]
theorem Blk.frozen {W : World} {B : Nat} {vs : Array Value} {t : TypeId} (h : Blk W B vs t) (i : Nat) : W.frozen? ⟨B, i, none⟩ = false := by simp [World.frozen?, show W.heap[B]? = _ from h]
theorem Blk.new (W : World) (vs : Array Value) (t : TypeId) : Blk (W.alloc (.cells vs t)) W.heap.size vs t := World.alloc_heap_new W _
theorem Blk.kept {W W' : World} {row : Option Nat} {B : Nat} {vs : Array Value} {t : TypeId} (h : Blk W B vs t) (hg : W.grownBy W' row) (hne : some B ≠ row) : Blk W' B vs t := (hg.block B h.lt hne).trans h
theorem Blk.alloc {W : World} {B : Nat} {vs : Array Value} {t : TypeId} (h : Blk W B vs t) (o : Obj) : Blk (W.alloc o) B vs t := h.kept (World.grownBy_alloc W o none) (by simp)
theorem Blk.drew {W : World} {B : Nat} {vs : Array Value} {t : TypeId} (h : Blk W B vs t) : Blk W.drew B vs t := h
theorem Blk.below {W W' : World} {n B : Nat} {vs : Array Value} {t : TypeId} (h : Blk W B vs t) (hb : Below n W W') (hB : B < n) : Blk W' B vs t := (hb.block B hB).trans h
theorem Blk.set {W : World} {B : Nat} {vs : Array Value} {t : TypeId} (h : Blk W B vs t) (i : Nat) (v : Value) : Blk (W.setCell ⟨B, i, none⟩ v) B (vs.setIfInBounds i v) t := by
  obtain ⟨hlt, hk⟩ := Array.getElem?_eq_some_iff.1 h
  show (W.heap.modify B _)[B]? = _
  rw [Array.getElem?_eq_getElem (by rw [Array.size_modify]; exact hlt), Array.getElem_modify_self, hk]
  rfl
theorem Blk.other {W : World} {B B' : Nat} {vs : Array Value} {t : TypeId} (h : Blk W B vs t) (hne : B ≠ B') (i : Nat) (v : Value) : Blk (W.setCell ⟨B', i, none⟩ v) B vs t :=
  (Below.heap_setCell W ⟨B', i, none⟩ v B hne).trans h
theorem Blk.not_row {W : World} {B : Nat} {vs : Array Value} {t : TypeId} (h : Blk W B vs t) {row : Option Nat} (hr : ∀ r, row = some r → ∃ o : Obj, W.heap[r]? = some o ∧ o.isCells = false) : some B ≠ row := fun e => by
  obtain ⟨o, ho, hc⟩ := hr B e.symm
  rw [show W.heap[B]? = _ from h] at ho; cases ho; cases hc
theorem Blk.not_own {W : World} {B : Nat} {vs : Array Value} {t e : TypeId} (h : Blk W B vs t) (hte : t ≠ e) {base size k : Nat} {v : Value} {xs : List Value} (hr : W.ownsRow base e size v k xs) : some B ≠ v.ownBlock := by
  rcases hr.2 with ⟨rfl, _⟩ | ⟨g, cap, cur, rfl, _, hgb, _⟩
  · simp [Value.ownBlock]
  · intro e'
    obtain rfl : B = g := by simpa [Value.ownBlock] using e'
    have := (show W.heap[B]? = _ from h).symm.trans hgb
    simp at this
    exact hte this.2
theorem Blk.own {β : Type} (B : Nat) (f : β → Array Value) (t : TypeId) : Own (fun s W => Blk W B (f s) t) := fun _ _ _ _ hs hg hr => hs.kept hg (hs.not_row hr)
theorem Blk.putObj {W : World} {B : Nat} {vs : Array Value} {t : TypeId} (h : Blk W B vs t) {l : Nat} {o : Obj} (o' : Obj) (hl : W.heap[l]? = some o) (ho : o.isCells = false) : Blk (W.putObj l o') B vs t :=
  h.kept (grownBy_putObj' W l o') (h.not_row fun r e => by cases e; exact ⟨o, hl, ho⟩)
/-- What the world's first blocks are is kept where only a later block is written to. -/
theorem below_set {n B : Nat} {W W' : World} (hb : Below n W W') (hB : n ≤ B) (i : Nat) (v : Value) : Below n W (W'.setCell ⟨B, i, none⟩ v) := hb.setCell (p := ⟨B, i, none⟩) hB v
end Go.Proofs.Ytlhlgohgmbkaoaa

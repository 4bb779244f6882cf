/- What is kept outside a set of blocks; many cells written into the middle of a block. Nothing of the program is used. -/
import Derived.Test.YtlhlgohgmbkaoaaBl
import Derived.Test.YtlhlgohgmbkaoaaRs
import Derived.Deep.MidRow
namespace Go.Proofs.Ytlhlgohgmbkaoaa
open Go.RowKit

/-- Blocks outside of A are kept. -/
structure KpA (A : Nat → Prop) (w w' : World) : Prop where
  os : w'.os = w.os
  tape : w'.tape = w.tape
  output : w'.output = w.output
  size : w.heap.size ≤ w'.heap.size
  block : ∀ k, k < w.heap.size → ¬ A k → w'.heap[k]? = w.heap[k]?
theorem KpA.refl (A : Nat → Prop) (w : World) : KpA A w w := ⟨rfl, rfl, rfl, Nat.le_refl _, fun _ _ _ => rfl⟩
theorem KpA.trans {A : Nat → Prop} {a b c : World} (h : KpA A a b) (k : KpA A b c) : KpA A a c :=
  ⟨k.os.trans h.os, k.tape.trans h.tape, k.output.trans h.output, Nat.le_trans h.size k.size, fun i hi hA => (k.block i (Nat.lt_of_lt_of_le hi h.size) hA).trans (h.block i hi hA)⟩
theorem KpA.below {A : Nat → Prop} {a b c : World} (h : KpA A a b) (k : Below b.heap.size b c) : KpA A a c :=
  h.trans ⟨k.os, k.tape, k.output, k.size, fun i hi _ => k.block i hi⟩
theorem KpA.alloc {A : Nat → Prop} {a b : World} (h : KpA A a b) (o : Obj) : KpA A a (b.alloc o) := h.below ((Below.refl _ _).alloc (Nat.le_refl _) o)
theorem KpA.drew {A : Nat → Prop} {a b : World} (h : KpA A a b) : KpA A a b.drew := ⟨h.os, h.tape, h.output, h.size, h.block⟩
theorem KpA.set {A : Nat → Prop} {a b : World} (h : KpA A a b) {g : Nat} (hg : A g ∨ a.heap.size ≤ g) (x : Nat) (v : Value) : KpA A a (b.setCell ⟨g, x, none⟩ v) :=
  ⟨h.os, h.tape, h.output, by simpa using h.size, fun i hi hA => (Below.heap_setCell b ⟨g, x, none⟩ v i (by show i ≠ g; rintro rfl; exact hg.elim hA (fun h1 => by omega))).trans (h.block i hi hA)⟩
theorem row_kept7 (W : World) (B : Nat) (cs : Array Value) (k : Nat) (h : k ≠ B) : (W.setRow B cs).heap[k]? = W.heap[k]? := by
  show (W.heap.modify B _)[k]? = _
  rw [Array.getElem?_modify, if_neg (Ne.symm h)]
theorem KpA.row {A : Nat → Prop} {a b : World} (h : KpA A a b) {g : Nat} (hg : A g ∨ a.heap.size ≤ g) (cs : Array Value) : KpA A a (b.setRow g cs) :=
  ⟨h.os, h.tape, h.output, by simpa [World.setRow] using h.size, fun i hi hA => (row_kept7 b g cs i (by rintro rfl; exact hg.elim hA (fun h1 => by omega))).trans (h.block i hi hA)⟩
theorem KpA.grown {A : Nat → Prop} {a b c : World} {row : Option Nat} (h : KpA A a b) (hg : b.grownBy c row) (hr : ∀ k, row = some k → A k ∨ a.heap.size ≤ k) : KpA A a c :=
  ⟨hg.os.trans h.os, hg.tape.trans h.tape, hg.output.trans h.output, Nat.le_trans h.size hg.size, fun i hi hA => (hg.block i (Nat.lt_of_lt_of_le hi h.size) (fun e => by exact (hr i e.symm).elim hA (fun h1 => by omega))).trans (h.block i hi hA)⟩
theorem KpA.mono {A A' : Nat → Prop} {a b : World} (h : KpA A' a b) (hA : ∀ k, A' k → A k) : KpA A a b := ⟨h.os, h.tape, h.output, h.size, fun i hi hn => h.block i hi fun h' => hn (hA i h')⟩
theorem Blk.kpA {A : Nat → Prop} {a b : World} {B : Nat} {vs : Array Value} {t : TypeId} (h : Blk a B vs t) (k : KpA A a b) (hB : ¬ A B) : Blk b B vs t := (k.block B h.lt hB).trans h
theorem KpA.drewN {A : Nat → Prop} {a b : World} (h : KpA A a b) (n : Nat) : KpA A a (b.drewN n) := ⟨h.os, h.tape, h.output, h.size, h.block⟩
theorem KpA.cell {A : Nat → Prop} {a b : World} (h : KpA A a b) {g : Nat} (hg : g < a.heap.size) (hA : ¬ A g) (x : Nat) : b.cell? ⟨g, x, none⟩ = a.cell? ⟨g, x, none⟩ :=
  World.cell?_of_block (w := a) (a := ⟨g, x, none⟩) (h.block g hg hA)
theorem KpA.toBelow {A : Nat → Prop} {a b : World} {n : Nat} (h : KpA A a b) (hn : n ≤ a.heap.size) (hA : ∀ k, A k → n ≤ k) : Below n a b :=
  ⟨h.os, h.tape, h.output, h.size, fun i hi => h.block i (by omega) fun h' => by have := hA i h'; omega⟩

/-! ### Many cells at once -/
def setL : Array Value → Nat → List Value → Array Value
  | vs, _, [] => vs
  | vs, o, v :: r => setL (vs.setIfInBounds o v) (o + 1) r
theorem setL_size : ∀ (us : List Value) (vs : Array Value) (o : Nat), (setL vs o us).size = vs.size
  | [], _, _ => rfl
  | v :: r, vs, o => by rw [setL, setL_size r]; simp
theorem setL_get : ∀ (us : List Value) (vs : Array Value) (o q : Nat), o + us.length ≤ vs.size → (setL vs o us)[q]? = if o ≤ q ∧ q < o + us.length then us[q - o]? else vs[q]?
  | [], vs, o, q, _ => by rw [setL, if_neg (by simp)]
  | v :: r, vs, o, q, h => by
    simp only [List.length_cons] at h
    rw [setL, setL_get r _ (o + 1) q (by simp; omega)]
    by_cases h1 : o + 1 ≤ q ∧ q < o + 1 + r.length
    · rw [if_pos h1, if_pos (by simp only [List.length_cons]; omega), show q - o = (q - (o + 1)) + 1 by omega, List.getElem?_cons_succ]
    · rw [if_neg h1]
      by_cases h2 : q = o
      · subst h2
        rw [if_pos (by simp only [List.length_cons]; omega), Nat.sub_self, List.getElem?_cons_zero]
        simp [show q < vs.size by omega]
      · rw [if_neg (by simp only [List.length_cons]; omega), Array.getElem?_setIfInBounds_ne (Ne.symm h2)]
theorem setCells_heap (B : Nat) : ∀ (us : List Value) (o : Nat) (W : World) (k : Nat), k ≠ B → (W.setCells B o us).heap[k]? = W.heap[k]?
  | [], _, _, _, _ => rfl
  | v :: r, o, W, k, h => by rw [World.setCells, setCells_heap B r (o + 1) _ k h]; exact Below.heap_setCell W ⟨B, o, none⟩ v k h
theorem setCells_rest (B : Nat) : ∀ (us : List Value) (o : Nat) (W : World), (W.setCells B o us).os = W.os ∧ (W.setCells B o us).tape = W.tape ∧ (W.setCells B o us).output = W.output ∧ (W.setCells B o us).heap.size = W.heap.size
  | [], _, _ => ⟨rfl, rfl, rfl, rfl⟩
  | v :: r, o, W => by
    rw [World.setCells]
    obtain ⟨h1, h2, h3, h4⟩ := setCells_rest B r (o + 1) (W.setCell ⟨B, o, none⟩ v)
    exact ⟨h1, h2, h3, by rw [h4]; simp⟩
theorem Blk.setCells {t : TypeId} {B : Nat} : ∀ (us : List Value) (o : Nat) {W : World} {vs : Array Value}, Blk W B vs t → Blk (W.setCells B o us) B (setL vs o us) t
  | [], _, _, _, h => h
  | v :: r, o, _, _, h => by rw [World.setCells, setL]; exact Blk.setCells r (o + 1) (h.set o v)
theorem Blk.otherCells {W : World} {B B' : Nat} {vs : Array Value} {t : TypeId} (h : Blk W B vs t) (hne : B ≠ B') (o : Nat) (us : List Value) : Blk (W.setCells B' o us) B vs t :=
  (setCells_heap B' us o W B hne).trans h
theorem Blk.there {W : World} {B : Nat} {vs : Array Value} {t : TypeId} (h : Blk W B vs t) (o n : Nat) (hn : o + n ≤ vs.size) : W.there B o n := fun j hj => by
  refine ⟨?_, h.frozen _⟩
  rw [h.cell, Array.getElem?_eq_getElem (by omega)]
  rfl
theorem Blk.rangeAt {W : World} {B : Nat} {vs : Array Value} {t : TypeId} (h : Blk W B vs t) (o : Nat) (us : List Value) (hu : ∀ j v, us[j]? = some v → vs[o + j]? = some v) : W.rangeAt B o us := fun j v hv => by
  rw [h.cell]; exact hu j v hv
theorem KpA.setCells {A : Nat → Prop} {a b : World} (h : KpA A a b) {g : Nat} (hg : A g ∨ a.heap.size ≤ g) (o : Nat) (us : List Value) : KpA A a (b.setCells g o us) := by
  obtain ⟨h1, h2, h3, h4⟩ := setCells_rest g us o b
  exact ⟨h1.trans h.os, h2.trans h.tape, h3.trans h.output, by rw [h4]; exact h.size, fun i hi hA => (setCells_heap g us o b i (by rintro rfl; exact hg.elim hA (fun h1 => by omega))).trans (h.block i hi hA)⟩
theorem below_cells {n B : Nat} {W W' : World} (hb : Below n W W') (hB : n ≤ B) (o : Nat) (us : List Value) : Below n W (W'.setCells B o us) := by
  obtain ⟨h1, h2, h3, h4⟩ := setCells_rest B us o W'
  exact ⟨h1.trans hb.os, h2.trans hb.tape, h3.trans hb.output, by rw [h4]; exact hb.size, fun i hi => (setCells_heap B us o W' i (by omega)).trans (hb.block i hi)⟩

section
variable {P : Program} {ops : Array Oper} {S : World → Prop}
/-- A row in the middle of a block is read. -/
theorem StepsIf.load_mid {op : Oper} {a : Act} (hw : Region.wanted op (yielded ops a.tmps) = true) (ty : TypeId) (x : Operand) (ho : op.op = .load ty x)
    (b o : Nat) (hx : a.eval x = .pointer (some ⟨b, o, none⟩)) (cs : List Value) (v : Value) (hv : v = .agg cs.toArray) (d : TypeDesc) (hS : ∀ w, S w → w.rangeAt b o cs)
    (hu : P.underlying ty = some d) (hd : d.isRow = true) (hi : (P.info? ty).map (·.size) = some cs.length) : StepsIf P ops S op v a :=
  StepsIf.yield hw fun w hw' => by
    subst hv
    unfold execOp
    simp only [ho, hx, Instr.loadAt, Instr.sureAddr, Sem.run_bind, Sem.run_pure, Result.andThen_ok, run_loadVar_mid w b o ty cs d (hS w hw') hu hd hi]
end
end Go.Proofs.Ytlhlgohgmbkaoaa

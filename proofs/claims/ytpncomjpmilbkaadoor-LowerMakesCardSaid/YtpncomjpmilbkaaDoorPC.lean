/- Texts put together: Bk Bl Ba Ma. -/
import Derived.RangeFuncBox
import Derived.RangeFuncFrom
import Derived.WalkKit
import Derived.Laws.Rows
import Derived.Laws.Tables
import Derived.Laws.CopyOwn
import Derived.Deep.Draws
import Derived.Test.YtpncomjpmilbkaaDoorPA
import Derived.Deep.MidRow
import Derived.Lib.Hide
import Derived.LoopTactic
import Derived.Handy
import Derived.WalkLawsBesides
import Derived.IntWalk
import Derived.BigQuiet
import Derived.Outline
import Derived.Deep.QuietTactic
import Derived.Deep.DeepCutAuto
import Derived.Laws.ResultCell
/- A whole block of cells, known by what it holds: kept and written to. Nothing of the program is used. -/
namespace Go.Proofs.YtpncomjpmilbkaaDoor
open Go.RowKit

def Blk (W : World) (B : Nat) (vs : Array Value) (t : TypeId) : Prop := W.heap[B]? = some (.cells vs t (0, 0))

theorem Blk.lt {W : World} {B : Nat} {vs : Array Value} {t : TypeId} (h : Blk W B vs t) : B < W.heap.size := (Array.getElem?_eq_some_iff.1 h).1
theorem Blk.cell {W : World} {B : Nat} {vs : Array Value} {t : TypeId} (h : Blk W B vs t) (i : Nat) : W.cell? ⟨B, i, none⟩ = vs[i]? := by simp [World.cell?, show W.heap[B]? = _ from h]
theorem Blk.frozen {W : World} {B : Nat} {vs : Array Value} {t : TypeId} (h : Blk W B vs t) (i : Nat) : W.frozen? ⟨B, i, none⟩ = false := by simp [World.frozen?, show W.heap[B]? = _ from h]
theorem Blk.new (W : World) (vs : Array Value) (t : TypeId) : Blk (W.alloc (.cells vs t)) W.heap.size vs t := World.alloc_heap_new W _
theorem Blk.kept {W W' : World} {row : Option Nat} {B : Nat} {vs : Array Value} {t : TypeId} (h : Blk W B vs t) (hg : W.grownBy W' row) (hne : some B ≠ row) : Blk W' B vs t := (hg.block B h.lt hne).trans h
theorem Blk.alloc {W : World} {B : Nat} {vs : Array Value} {t : TypeId} (h : Blk W B vs t) (o : Obj) : Blk (W.alloc o) B vs t := h.kept (World.grownBy_alloc W o none) (by simp)
theorem Blk.drew {W : World} {B : Nat} {vs : Array Value} {t : TypeId} (h : Blk W B vs t) : Blk W.drew B vs t := h
theorem Blk.below {W W' : World} {n B : Nat} {vs : Array Value} {t : TypeId} (h : Blk W B vs t) (hb : Below n W W') (hB : B < n) : Blk W' B vs t := (hb.block B hB).trans h
theorem Blk.set {W : World} {B : Nat} {vs : Array Value} {t : TypeId} (h : Blk W B vs t) (i : Nat) (v : Value) : Blk (W.setCell ⟨B, i, none⟩ v) B (vs.setIfInBounds i v) t := by
  obtain ⟨hlt, hk⟩ := Array.getElem?_eq_some_iff.1 h
  show (W.heap.modify B _)[B]? = _
  rw [Array.getElem?_eq_getElem (by rw [Array.size_modify]; exact hlt), Array.getElem_modify_self, hk]
  rfl
theorem Blk.other {W : World} {B B' : Nat} {vs : Array Value} {t : TypeId} (h : Blk W B vs t) (hne : B ≠ B') (i : Nat) (v : Value) : Blk (W.setCell ⟨B', i, none⟩ v) B vs t :=
  (Below.heap_setCell W ⟨B', i, none⟩ v B hne).trans h
theorem Blk.not_row {W : World} {B : Nat} {vs : Array Value} {t : TypeId} (h : Blk W B vs t) {row : Option Nat} (hr : ∀ r, row = some r → ∃ o : Obj, W.heap[r]? = some o ∧ o.isCells = false) : some B ≠ row := fun e => by
  obtain ⟨o, ho, hc⟩ := hr B e.symm
  rw [show W.heap[B]? = _ from h] at ho; cases ho; cases hc
theorem Blk.not_own {W : World} {B : Nat} {vs : Array Value} {t e : TypeId} (h : Blk W B vs t) (hte : t ≠ e) {base size k : Nat} {v : Value} {xs : List Value} (hr : W.ownsRow base e size v k xs) : some B ≠ v.ownBlock := by
  rcases hr.2 with ⟨rfl, _⟩ | ⟨g, cap, cur, rfl, _, hgb, _⟩
  · simp [Value.ownBlock]
  · intro e'
    obtain rfl : B = g := by simpa [Value.ownBlock] using e'
    have := (show W.heap[B]? = _ from h).symm.trans hgb
    simp at this
    exact hte this.2
theorem Blk.own {β : Type} (B : Nat) (f : β → Array Value) (t : TypeId) : Own (fun s W => Blk W B (f s) t) := fun _ _ _ _ hs hg hr => hs.kept hg (hs.not_row hr)
theorem Blk.putObj {W : World} {B : Nat} {vs : Array Value} {t : TypeId} (h : Blk W B vs t) {l : Nat} {o : Obj} (o' : Obj) (hl : W.heap[l]? = some o) (ho : o.isCells = false) : Blk (W.putObj l o') B vs t :=
  h.kept (grownBy_putObj' W l o') (h.not_row fun r e => by cases e; exact ⟨o, hl, ho⟩)
/-- What the world's first blocks are is kept where only a later block is written to. -/
theorem below_set {n B : Nat} {W W' : World} (hb : Below n W W') (hB : n ≤ B) (i : Nat) (v : Value) : Below n W (W'.setCell ⟨B, i, none⟩ v) := hb.setCell (p := ⟨B, i, none⟩) hB v
end Go.Proofs.YtpncomjpmilbkaaDoor

/- A whole block that is written at once. Nothing of the program is used. -/
namespace Go.Proofs.YtpncomjpmilbkaaDoor
open Go.RowKit

theorem Blk.setRow {W : World} {B : Nat} {vs cs : Array Value} {t : TypeId} (h : Blk W B vs t) : Blk (W.setRow B cs) B cs t := by
  obtain ⟨hlt, hk⟩ := Array.getElem?_eq_some_iff.1 h
  show (W.heap.modify B _)[B]? = _
  rw [Array.getElem?_eq_getElem (by rw [Array.size_modify]; exact hlt), Array.getElem_modify_self, hk]
theorem run_storeAt_row {P : Program} (w : World) (g : Nat) (t ty : TypeId) (old cells : Array Value) (hg : w.heap[g]? = some (.cells old t (0, 0))) (hi : (P.info? ty).map (·.size) = some cells.size) (ho : old.size = cells.size) (h1 : cells.all (·.oneCell') = true) :
    (Instr.storeAt ty (.pointer (some ⟨g, 0, none⟩)) (.agg cells)).run P w = .ok () (w.setRow g cells) := by
  simp only [Instr.storeAt, Instr.sureAddr, Sem.run_bind, Sem.run_pure, Result.andThen]
  exact run_storeVar_row _ _ t ty old cells hg hi ho h1

theorem wp_store_row {P : Program} {o : Oper} {a : Act} {w w' : World} {K : Act → World → Prop} {Q : Exit → Act → World → Prop} {cs : Array Value} (ty : TypeId) (x y : Operand) (ho : o.op = .store ty x y)
    (g : Nat) (hx : a.eval x = .pointer (some ⟨g, 0, none⟩)) (hy : a.eval y = .agg cs) (hst : (Instr.storeAt ty (.pointer (some ⟨g, 0, none⟩)) (.agg cs)).run P w = .ok () w') (h : K (a.put o.dst undef) w') : o.wp P a w K Q := by
  unfold Oper.wp execOp
  simp only [ho, hx, hy, Sem.run_bind, Sem.run_pure, hst, Result.andThen_ok]
  exact h
theorem wpList_store_st {P : Program} {ops : Array Oper} {rest : List Oper} {o : Oper} {a : Act} {w w' : World} {Q : Exit → Act → World → Prop} {cs : Array Value} (hgd : o.guard = none) (ty : TypeId) (x y : Operand) (ho : o.op = .store ty x y)
    (g : Nat) (hx : a.eval x = .pointer (some ⟨g, 0, none⟩)) (hy : a.eval y = .agg cs) (hst : (Instr.storeAt ty (.pointer (some ⟨g, 0, none⟩)) (.agg cs)).run P w = .ok () w') (h : wpList P ops Q rest (a.put o.dst undef) w') : wpList P ops Q (o :: rest) a w :=
  wpList_plain hgd fun _ hK => wp_store_row ty x y ho g hx hy hst (hK _ _ h)
theorem below_row {n B : Nat} {W W' : World} (hb : Below n W W') (hB : n ≤ B) (cs : Array Value) : Below n W (W'.setRow B cs) := below_setRow hb hB cs
theorem Blk.newsL {W : World} {B : Nat} {vs : Array Value} {t : TypeId} (h : Blk W B vs t) : ∀ j u, vs.toList[j]? = some u → W.cell? ((⟨B, 0, none⟩ : Addr).add j) = some u := by
  intro j u hu
  have e : (⟨B, 0, none⟩ : Addr).add j = ⟨B, j, none⟩ := by
    unfold Addr.add
    by_cases h0 : j = 0
    · subst h0; rfl
    · rw [if_neg h0, Nat.zero_add]
  rw [e, h.cell j]
  simpa using hu
theorem Blk.drewN {W : World} {B : Nat} {vs : Array Value} {t : TypeId} (h : Blk W B vs t) : ∀ n, Blk (W.drewN n) B vs t
  | 0 => h
  | n + 1 => Blk.drewN (W := W.drew) h n
theorem below_drN {m : Nat} {w W : World} (h : Below m w W) (n : Nat) : Below m w (W.drewN n) := h.trans ⟨rfl, rfl, rfl, Nat.le_refl _, fun _ _ => rfl⟩
end Go.Proofs.YtpncomjpmilbkaaDoor

/- What is kept outside a set of blocks; many cells written into the middle of a block. Nothing of the program is used. -/
namespace Go.Proofs.YtpncomjpmilbkaaDoor
open Go.RowKit

/-- Blocks outside of A are kept. -/
structure KpA (A : Nat → Prop) (w w' : World) : Prop where
  os : w'.os = w.os
  tape : w'.tape = w.tape
  output : w'.output = w.output
  size : w.heap.size ≤ w'.heap.size
  block : ∀ k, k < w.heap.size → ¬ A k → w'.heap[k]? = w.heap[k]?
theorem KpA.refl (A : Nat → Prop) (w : World) : KpA A w w := ⟨rfl, rfl, rfl, Nat.le_refl _, fun _ _ _ => rfl⟩
theorem KpA.trans {A : Nat → Prop} {a b c : World} (h : KpA A a b) (k : KpA A b c) : KpA A a c :=
  ⟨k.os.trans h.os, k.tape.trans h.tape, k.output.trans h.output, Nat.le_trans h.size k.size, fun i hi hA => (k.block i (Nat.lt_of_lt_of_le hi h.size) hA).trans (h.block i hi hA)⟩
theorem KpA.below {A : Nat → Prop} {a b c : World} (h : KpA A a b) (k : Below b.heap.size b c) : KpA A a c :=
  h.trans ⟨k.os, k.tape, k.output, k.size, fun i hi _ => k.block i hi⟩
theorem KpA.alloc {A : Nat → Prop} {a b : World} (h : KpA A a b) (o : Obj) : KpA A a (b.alloc o) := h.below ((Below.refl _ _).alloc (Nat.le_refl _) o)
theorem KpA.drew {A : Nat → Prop} {a b : World} (h : KpA A a b) : KpA A a b.drew := ⟨h.os, h.tape, h.output, h.size, h.block⟩
theorem KpA.set {A : Nat → Prop} {a b : World} (h : KpA A a b) {g : Nat} (hg : A g ∨ a.heap.size ≤ g) (x : Nat) (v : Value) : KpA A a (b.setCell ⟨g, x, none⟩ v) :=
  ⟨h.os, h.tape, h.output, by simpa using h.size, fun i hi hA => (Below.heap_setCell b ⟨g, x, none⟩ v i (by show i ≠ g; rintro rfl; exact hg.elim hA (fun h1 => by omega))).trans (h.block i hi hA)⟩
theorem row_kept7 (W : World) (B : Nat) (cs : Array Value) (k : Nat) (h : k ≠ B) : (W.setRow B cs).heap[k]? = W.heap[k]? := by
  show (W.heap.modify B _)[k]? = _
  rw [Array.getElem?_modify, if_neg (Ne.symm h)]
theorem KpA.row {A : Nat → Prop} {a b : World} (h : KpA A a b) {g : Nat} (hg : A g ∨ a.heap.size ≤ g) (cs : Array Value) : KpA A a (b.setRow g cs) :=
  ⟨h.os, h.tape, h.output, by simpa [World.setRow] using h.size, fun i hi hA => (row_kept7 b g cs i (by rintro rfl; exact hg.elim hA (fun h1 => by omega))).trans (h.block i hi hA)⟩
theorem KpA.grown {A : Nat → Prop} {a b c : World} {row : Option Nat} (h : KpA A a b) (hg : b.grownBy c row) (hr : ∀ k, row = some k → A k ∨ a.heap.size ≤ k) : KpA A a c :=
  ⟨hg.os.trans h.os, hg.tape.trans h.tape, hg.output.trans h.output, Nat.le_trans h.size hg.size, fun i hi hA => (hg.block i (Nat.lt_of_lt_of_le hi h.size) (fun e => by exact (hr i e.symm).elim hA (fun h1 => by omega))).trans (h.block i hi hA)⟩
theorem KpA.mono {A A' : Nat → Prop} {a b : World} (h : KpA A' a b) (hA : ∀ k, A' k → A k) : KpA A a b := ⟨h.os, h.tape, h.output, h.size, fun i hi hn => h.block i hi fun h' => hn (hA i h')⟩
theorem Blk.kpA {A : Nat → Prop} {a b : World} {B : Nat} {vs : Array Value} {t : TypeId} (h : Blk a B vs t) (k : KpA A a b) (hB : ¬ A B) : Blk b B vs t := (k.block B h.lt hB).trans h
theorem KpA.drewN {A : Nat → Prop} {a b : World} (h : KpA A a b) (n : Nat) : KpA A a (b.drewN n) := ⟨h.os, h.tape, h.output, h.size, h.block⟩
theorem KpA.cell {A : Nat → Prop} {a b : World} (h : KpA A a b) {g : Nat} (hg : g < a.heap.size) (hA : ¬ A g) (x : Nat) : b.cell? ⟨g, x, none⟩ = a.cell? ⟨g, x, none⟩ :=
  World.cell?_of_block (w := a) (a := ⟨g, x, none⟩) (h.block g hg hA)
theorem KpA.toBelow {A : Nat → Prop} {a b : World} {n : Nat} (h : KpA A a b) (hn : n ≤ a.heap.size) (hA : ∀ k, A k → n ≤ k) : Below n a b :=
  ⟨h.os, h.tape, h.output, h.size, fun i hi => h.block i (by omega) fun h' => by have := hA i h'; omega⟩

/-! ### Many cells at once -/
def setL : Array Value → Nat → List Value → Array Value
  | vs, _, [] => vs
  | vs, o, v :: r => setL (vs.setIfInBounds o v) (o + 1) r
theorem setL_size : ∀ (us : List Value) (vs : Array Value) (o : Nat), (setL vs o us).size = vs.size
  | [], _, _ => rfl
  | v :: r, vs, o => by rw [setL, setL_size r]; simp
theorem setL_get : ∀ (us : List Value) (vs : Array Value) (o q : Nat), o + us.length ≤ vs.size → (setL vs o us)[q]? = if o ≤ q ∧ q < o + us.length then us[q - o]? else vs[q]?
  | [], vs, o, q, _ => by rw [setL, if_neg (by simp)]
  | v :: r, vs, o, q, h => by
    simp only [List.length_cons] at h
    rw [setL, setL_get r _ (o + 1) q (by simp; omega)]
    by_cases h1 : o + 1 ≤ q ∧ q < o + 1 + r.length
    · rw [if_pos h1, if_pos (by simp only [List.length_cons]; omega), show q - o = (q - (o + 1)) + 1 by omega, List.getElem?_cons_succ]
    · rw [if_neg h1]
      by_cases h2 : q = o
      · subst h2
        rw [if_pos (by simp only [List.length_cons]; omega), Nat.sub_self, List.getElem?_cons_zero]
        simp [show q < vs.size by omega]
      · rw [if_neg (by simp only [List.length_cons]; omega), Array.getElem?_setIfInBounds_ne (Ne.symm h2)]
theorem setCells_heap (B : Nat) : ∀ (us : List Value) (o : Nat) (W : World) (k : Nat), k ≠ B → (W.setCells B o us).heap[k]? = W.heap[k]?
  | [], _, _, _, _ => rfl
  | v :: r, o, W, k, h => by rw [World.setCells, setCells_heap B r (o + 1) _ k h]; exact Below.heap_setCell W ⟨B, o, none⟩ v k h
theorem setCells_rest (B : Nat) : ∀ (us : List Value) (o : Nat) (W : World), (W.setCells B o us).os = W.os ∧ (W.setCells B o us).tape = W.tape ∧ (W.setCells B o us).output = W.output ∧ (W.setCells B o us).heap.size = W.heap.size
  | [], _, _ => ⟨rfl, rfl, rfl, rfl⟩
  | v :: r, o, W => by
    rw [World.setCells]
    obtain ⟨h1, h2, h3, h4⟩ := setCells_rest B r (o + 1) (W.setCell ⟨B, o, none⟩ v)
    exact ⟨h1, h2, h3, by rw [h4]; simp⟩
theorem Blk.setCells {t : TypeId} {B : Nat} : ∀ (us : List Value) (o : Nat) {W : World} {vs : Array Value}, Blk W B vs t → Blk (W.setCells B o us) B (setL vs o us) t
  | [], _, _, _, h => h
  | v :: r, o, _, _, h => by rw [World.setCells, setL]; exact Blk.setCells r (o + 1) (h.set o v)
theorem Blk.otherCells {W : World} {B B' : Nat} {vs : Array Value} {t : TypeId} (h : Blk W B vs t) (hne : B ≠ B') (o : Nat) (us : List Value) : Blk (W.setCells B' o us) B vs t :=
  (setCells_heap B' us o W B hne).trans h
theorem Blk.there {W : World} {B : Nat} {vs : Array Value} {t : TypeId} (h : Blk W B vs t) (o n : Nat) (hn : o + n ≤ vs.size) : W.there B o n := fun j hj => by
  refine ⟨?_, h.frozen _⟩
  rw [h.cell, Array.getElem?_eq_getElem (by omega)]
  rfl
theorem Blk.rangeAt {W : World} {B : Nat} {vs : Array Value} {t : TypeId} (h : Blk W B vs t) (o : Nat) (us : List Value) (hu : ∀ j v, us[j]? = some v → vs[o + j]? = some v) : W.rangeAt B o us := fun j v hv => by
  rw [h.cell]; exact hu j v hv
theorem KpA.setCells {A : Nat → Prop} {a b : World} (h : KpA A a b) {g : Nat} (hg : A g ∨ a.heap.size ≤ g) (o : Nat) (us : List Value) : KpA A a (b.setCells g o us) := by
  obtain ⟨h1, h2, h3, h4⟩ := setCells_rest g us o b
  exact ⟨h1.trans h.os, h2.trans h.tape, h3.trans h.output, by rw [h4]; exact h.size, fun i hi hA => (setCells_heap g us o b i (by rintro rfl; exact hg.elim hA (fun h1 => by omega))).trans (h.block i hi hA)⟩
theorem below_cells {n B : Nat} {W W' : World} (hb : Below n W W') (hB : n ≤ B) (o : Nat) (us : List Value) : Below n W (W'.setCells B o us) := by
  obtain ⟨h1, h2, h3, h4⟩ := setCells_rest B us o W'
  exact ⟨h1.trans hb.os, h2.trans hb.tape, h3.trans hb.output, by rw [h4]; exact hb.size, fun i hi => (setCells_heap B us o W' i (by omega)).trans (hb.block i hi)⟩

section
variable {P : Program} {ops : Array Oper} {S : World → Prop}
/-- A row in the middle of a block is read. -/
theorem StepsIf.load_mid {op : Oper} {a : Act} (hw : Region.wanted op (yielded ops a.tmps) = true) (ty : TypeId) (x : Operand) (ho : op.op = .load ty x)
    (b o : Nat) (hx : a.eval x = .pointer (some ⟨b, o, none⟩)) (cs : List Value) (v : Value) (hv : v = .agg cs.toArray) (d : TypeDesc) (hS : ∀ w, S w → w.rangeAt b o cs)
    (hu : P.underlying ty = some d) (hd : d.isRow = true) (hi : (P.info? ty).map (·.size) = some cs.length) : StepsIf P ops S op v a :=
  StepsIf.yield hw fun w hw' => by
    subst hv
    unfold execOp
    simp only [ho, hx, Instr.loadAt, Instr.sureAddr, Sem.run_bind, Sem.run_pure, Result.andThen_ok, run_loadVar_mid w b o ty cs d (hS w hw') hu hd hi]
end
end Go.Proofs.YtpncomjpmilbkaaDoor

/- The developers' counts: plainly; fault, short, signs, right, full, most. -/
namespace Go.Proofs.YtpncomjpmilbkaaDoor
open Go.RowKit

/-! ### Plainly -/
def fullD (v d : Nat) : Bool := d == 2 || (decide (0 < d) && v == 0)
def mostD (v d : Nat) : Nat := if fullD v d = true then v else 10 * v + 9
/-- Value, digits, place, error. -/
def digD (s : ByteArray) (least : Nat) : Nat → Nat → Nat → Nat → Nat × Nat × Nat × Nat
  | 0, i, v, d => (v, d, i, 0)
  | k + 1, i, v, d =>
    if 48 ≤ bt s i ∧ bt s i ≤ 57 then
      if fullD v d = true then (0, 0, i + 1, 6)
      else if mostD (10 * v + (bt s i - 48)) (d + 1) < least then (0, 0, i + 1, 6)
      else digD s least k (i + 1) (10 * v + (bt s i - 48)) (d + 1)
    else (v, d, i, 0)
def digsD (s : ByteArray) (i least : Nat) : Nat × Nat × Nat × Nat := digD s least (s.size - i) i 0 0
structure RD where
  n : Nat
  m : Int
  fin : Nat
  lack : List Nat
  err : Nat
def badC (e p : Nat) : RD := ⟨0, 0, p, [], e⟩
def shortR (s : ByteArray) (l : List Nat) : RD := ⟨0, 0, s.size, l, 2⟩
def okR (n : Nat) (m : Int) (p : Nat) : RD := ⟨n, m, p, [], 0⟩
def lessD (v d n : Nat) : Bool := decide (0 < d) && decide (v < n)
def commaD (s : ByteArray) (i n : Nat) : RD :=
  match digsD s i n with
  | (v, d, p, e) =>
    if e ≠ 0 then badC e p
    else if p = s.size ∧ lessD v d n = true then shortR s [57, 125]
    else if p = s.size then shortR s [125]
    else if bt s p ≠ 125 then badC 3 (p + 1)
    else if lessD v d n = true then badC 6 (p + 1)
    else if d = 0 then okR n (-1) (p + 1)
    else okR n v (p + 1)
def bracesD (s : ByteArray) (i : Nat) : RD :=
  match digsD s i 0 with
  | (v, d, p, e) =>
    if e ≠ 0 then badC e p
    else if p = s.size ∧ d = 0 then shortR s [48, 125]
    else if p = s.size then shortR s [125]
    else if 0 < d ∧ bt s p = 125 then okR v v (p + 1)
    else if 0 < d ∧ bt s p = 44 then commaD s (p + 1) v
    else badC 3 (p + 1)
def readD4 (s : ByteArray) (at' : Int) : RD :=
  if at' < 0 ∨ (s.size : Int) ≤ at' then badC 1 0
  else if bt s at'.toNat = 123 then bracesD s (at'.toNat + 1)
  else if bt s at'.toNat = 42 then okR 0 (-1) (at'.toNat + 1)
  else if bt s at'.toNat = 43 then okR 1 (-1) (at'.toNat + 1)
  else if bt s at'.toNat = 63 then okR 0 1 (at'.toNat + 1)
  else badC 1 0

/-! ### Small functions -/
@[reducible] def rdI (n m p : Int) (l : ByteArray) (e : Int) : Array Value := #[.int .i64 n, .int .i64 m, .int .i64 p, .string l, .int .i64 e]
def rdA (r : RD) : Array Value := rdI r.n r.m r.fin (ofT r.lack) r.err
theorem rdC_one (n m p : Int) (l : ByteArray) (e : Int) : ((rdI n m p l e).all fun x => x.oneCell') = true := by simp [Value.oneCell']
@[reducible] def sgI : Array Value := #[.int .u8 42, .int .i64 0, .int .i64 (-1), .int .u8 43, .int .i64 1, .int .i64 (-1), .int .u8 63, .int .i64 0, .int .i64 1]
theorem infoSg : (Tryd.prog.info? 131).map (·.size) = some 9 := by kernel_rfl
set_option maxRecDepth 100000 in
set_option maxHeartbeats 1000000 in
theorem signs_calls (w : World) : Calls Tryd.prog 90 #[] w fun en w' => en = .returned (.agg sgI) ∧ Below w.heap.size w w' := by
  go_enter Tryd.func90, Tryd.ntmps90
  go_wp2
  have hR := Blk.new w sgI 131
  have hB : Below w.heap.size w (w.alloc (.cells sgI 131)) := by go_grown
  exact bodyPost_ret (v := .agg sgI) (results_cell_row rfl _ _ w.heap.size 131 sgI (0, 0) _ rfl hR Tryd.underlying131 rfl infoSg) rfl ⟨rfl, hB⟩

theorem rightN_nat (n m : Int) : rightN n m = (decide (0 ≤ n) && decide (n ≤ 99) && (m == -1 || (decide (n ≤ m) && decide (m ≤ 99)))) := rfl
set_option maxHeartbeats 1000000 in
theorem right_calls (n m : Int) (w : World) : Calls Tryd.prog 89 #[.agg #[.int .i64 n, .int .i64 m]] w fun en w' => en = .returned (.bool (rightN n m)) ∧ Below w.heap.size w w' := by
  have HF := Lib.hid (rightN_nat n m)
  generalize rightN n m = R at *
  by_cases h1 : n < 0
  · have q : decide (n < 0) = true := by simpa using h1
    have q0 : decide (0 ≤ n) = false := by rw [decide_eq_false_iff_not]; omega
    have hR : R = false := by rw [HF.out, q0]; rfl
    subst hR
    clear HF q0 h1
    go_enter Tryd.func89, Tryd.ntmps89
    go_wp2
    go_ret
    exact ⟨rfl, by go_grown⟩
  have q0 : decide (0 ≤ n) = true := by rw [decide_eq_true_iff]; omega
  rw [q0] at HF
  have q : decide (n < 0) = false := by rw [decide_eq_false_iff_not]; omega
  by_cases h2 : 99 < n
  · have q1 : decide (99 < n) = true := by simpa using h2
    have q3 : decide (n ≤ 99) = false := by rw [decide_eq_false_iff_not]; omega
    have hR : R = false := by rw [HF.out, q3]; rfl
    subst hR
    clear HF q0 h1 q3
    go_enter Tryd.func89, Tryd.ntmps89
    go_wp2
    go_ret
    exact ⟨rfl, by go_grown⟩
  have q1 : decide (99 < n) = false := by rw [decide_eq_false_iff_not]; omega
  have q3 : decide (n ≤ 99) = true := by rw [decide_eq_true_iff]; omega
  rw [q3] at HF
  clear q3 q0
  cases e1 : (m == -1) with
  | true =>
    rw [e1] at HF
    have hR : R = true := by rw [HF.out]; rfl
    subst hR
    clear HF h1 h2
    go_enter Tryd.func89, Tryd.ntmps89
    go_wp2
    go_ret
    exact ⟨rfl, by go_grown⟩
  | false =>
    rw [e1] at HF
    cases e2 : decide (n ≤ m) with
    | false =>
      rw [e2] at HF
      have hR : R = false := by rw [HF.out]; rfl
      subst hR
      clear HF h1 h2
      go_enter Tryd.func89, Tryd.ntmps89
      go_wp2
      go_ret
      exact ⟨rfl, by go_grown⟩
    | true =>
      rw [e2] at HF
      have hR : R = decide (m ≤ 99) := by rw [HF.out]; simp
      subst hR
      clear HF h1 h2
      go_enter Tryd.func89, Tryd.ntmps89
      go_wp2
      go_ret
      exact ⟨rfl, by go_grown⟩

end Go.Proofs.YtpncomjpmilbkaaDoor

/- Texts put together: Bk Ab Ac Ad Bl Ow Trh Ba On. -/
import Derived.RangeFuncBox
import Derived.RangeFuncFrom
import Derived.WalkKit
import Derived.Test.YtdpkhliojbeglaaDoorChecked
import Derived.Test.YtdpkhliojbeglaaDoorQA
import Derived.WalkLawsBesides
import Derived.LoopTactic
import Derived.Lib.Hide
import Derived.Handy
import Derived.IntWalk
import Derived.Test.YtdpkhliojbeglaaDoorQB
import Derived.Deep.OwnRows
import Derived.Laws.Rows
import Derived.Laws.Tables
import Derived.Laws.CopyOwn
import Derived.Deep.Draws
import Derived.Laws.AppendOwn
import Derived.Laws.OwnMore
import Derived.Deep.AppendLies
import Derived.Outline
import Derived.Deep.DeepCutAuto
import Derived.BigQuiet
import Derived.Deep.MidRow
import Derived.Test.YtdpkhliojbeglaaDoorQD
import Derived.Lib.SmallJoins
import Derived.Deep.Slices
import Derived.Deep.Fields
import Derived.ChangeSame
/- A whole block of cells, known by what it holds: kept and written to. Nothing of the program is used. -/
namespace Go.Proofs.YtdpkhliojbeglaaDoor
open Go.RowKit

def Blk (W : World) (B : Nat) (vs : Array Value) (t : TypeId) : Prop := W.heap[B]? = some (.cells vs t (0, 0))

theorem Blk.lt {W : World} {B : Nat} {vs : Array Value} {t : TypeId} (h : Blk W B vs t) : B < W.heap.size := (Array.getElem?_eq_some_iff.1 h).1
theorem Blk.cell {W : World} {B : Nat} {vs : Array Value} {t : TypeId} (h : Blk W B vs t) (i : Nat) : W.cell? ⟨B, i, none⟩ = vs[i]? := by simp [World.cell?, show W.heap[B]? = _ from h]
theorem Blk.frozen {W : World} {B : Nat} {vs : Array Value} {t : TypeId} (h : Blk W B vs t) (i : Nat) : W.frozen? ⟨B, i, none⟩ = false := by simp [World.frozen?, show W.heap[B]? = _ from h]
theorem Blk.new (W : World) (vs : Array Value) (t : TypeId) : Blk (W.alloc (.cells vs t)) W.heap.size vs t := World.alloc_heap_new W _
theorem Blk.kept {W W' : World} {row : Option Nat} {B : Nat} {vs : Array Value} {t : TypeId} (h : Blk W B vs t) (hg : W.grownBy W' row) (hne : some B ≠ row) : Blk W' B vs t := (hg.block B h.lt hne).trans h
theorem Blk.alloc {W : World} {B : Nat} {vs : Array Value} {t : TypeId} (h : Blk W B vs t) (o : Obj) : Blk (W.alloc o) B vs t := h.kept (World.grownBy_alloc W o none) (by simp)
theorem Blk.drew {W : World} {B : Nat} {vs : Array Value} {t : TypeId} (h : Blk W B vs t) : Blk W.drew B vs t := h
theorem Blk.below {W W' : World} {n B : Nat} {vs : Array Value} {t : TypeId} (h : Blk W B vs t) (hb : Below n W W') (hB : B < n) : Blk W' B vs t := (hb.block B hB).trans h
theorem Blk.set {W : World} {B : Nat} {vs : Array Value} {t : TypeId} (h : Blk W B vs t) (i : Nat) (v : Value) : Blk (W.setCell ⟨B, i, none⟩ v) B (vs.setIfInBounds i v) t := by
  obtain ⟨hlt, hk⟩ := Array.getElem?_eq_some_iff.1 h
  show (W.heap.modify B _)[B]? = _
  rw [Array.getElem?_eq_getElem (by rw [Array.size_modify]; exact hlt), Array.getElem_modify_self, hk]
  rfl
theorem Blk.other {W : World} {B B' : Nat} {vs : Array Value} {t : TypeId} (h : Blk W B vs t) (hne : B ≠ B') (i : Nat) (v : Value) : Blk (W.setCell ⟨B', i, none⟩ v) B vs t :=
  (Below.heap_setCell W ⟨B', i, none⟩ v B hne).trans h
theorem Blk.not_row {W : World} {B : Nat} {vs : Array Value} {t : TypeId} (h : Blk W B vs t) {row : Option Nat} (hr : ∀ r, row = some r → ∃ o : Obj, W.heap[r]? = some o ∧ o.isCells = false) : some B ≠ row := fun e => by
  obtain ⟨o, ho, hc⟩ := hr B e.symm
  rw [show W.heap[B]? = _ from h] at ho; cases ho; cases hc
theorem Blk.not_own {W : World} {B : Nat} {vs : Array Value} {t e : TypeId} (h : Blk W B vs t) (hte : t ≠ e) {base size k : Nat} {v : Value} {xs : List Value} (hr : W.ownsRow base e size v k xs) : some B ≠ v.ownBlock := by
  rcases hr.2 with ⟨rfl, _⟩ | ⟨g, cap, cur, rfl, _, hgb, _⟩
  · simp [Value.ownBlock]
  · intro e'
    obtain rfl : B = g := by simpa [Value.ownBlock] using e'
    have := (show W.heap[B]? = _ from h).symm.trans hgb
    simp at this
    exact hte this.2
theorem Blk.own {β : Type} (B : Nat) (f : β → Array Value) (t : TypeId) : Own (fun s W => Blk W B (f s) t) := fun _ _ _ _ hs hg hr => hs.kept hg (hs.not_row hr)
theorem Blk.putObj {W : World} {B : Nat} {vs : Array Value} {t : TypeId} (h : Blk W B vs t) {l : Nat} {o : Obj} (o' : Obj) (hl : W.heap[l]? = some o) (ho : o.isCells = false) : Blk (W.putObj l o') B vs t :=
  h.kept (grownBy_putObj' W l o') (h.not_row fun r e => by cases e; exact ⟨o, hl, ho⟩)
/-- What the world's first blocks are is kept where only a later block is written to. -/
theorem below_set {n B : Nat} {W W' : World} (hb : Below n W W') (hB : n ≤ B) (i : Nat) (v : Value) : Below n W (W'.setCell ⟨B, i, none⟩ v) := hb.setCell (p := ⟨B, i, none⟩) hB v
end Go.Proofs.YtdpkhliojbeglaaDoor

/- The document's trees: Formed. -/
namespace Go.Proofs.YtdpkhliojbeglaaDoor
open Go.RowKit BS

structure NdN where
  kind : Int
  kids : Int
  n : Int
  m : Int
  set : BitVec 256
@[reducible] def ndI (k c n m : Int) (t : BitVec 256) : Array Value := #[.int .i64 k, .int .i64 c, .int .i64 n, .int .i64 m, .int .u64 (wd t 0), .int .u64 (wd t 1), .int .u64 (wd t 2), .int .u64 (wd t 3)]
def ndA (x : NdN) : Array Value := ndI x.kind x.kids x.n x.m x.set
/-- A slice of nodes. -/
def NodesAt (l : List NdN) (a : Option Addr) (W : World) : Prop :=
  l ≠ [] → ∃ g off, a = some ⟨g, off, none⟩ ∧ g < W.heap.size ∧ ∀ i (h : i < l.length) j, j < 8 → W.cell? ⟨g, off + i * 8 + j, none⟩ = (ndA l[i])[j]?
theorem NodesAt.below {l : List NdN} {a : Option Addr} {W W' : World} (h : NodesAt l a W) (hb : Below W.heap.size W W') : NodesAt l a W' := fun hne => by
  obtain ⟨g, off, e, hg, hc⟩ := h hne
  exact ⟨g, off, e, Nat.lt_of_lt_of_le hg hb.size, fun i hi j hj => (hb.cell (p := ⟨g, off + i * 8 + j, none⟩) hg).trans (hc i hi j hj)⟩

end Go.Proofs.YtdpkhliojbeglaaDoor

/- The document's trees: piece, kid; Ints of the same numbers. -/
namespace Go.Proofs.YtdpkhliojbeglaaDoor
open Go.RowKit BS

/-- A slice of whole numbers. -/
def IntsAt (l : List Int) (a : Option Addr) (W : World) : Prop := l ≠ [] → ∃ g, a = some ⟨g, 0, none⟩ ∧ g < W.heap.size ∧ ∀ i (h : i < l.length), W.cell? ⟨g, i, none⟩ = some (.int .i64 l[i])
theorem IntsAt.below {l : List Int} {a : Option Addr} {W W' : World} (h : IntsAt l a W) (hb : Below W.heap.size W W') : IntsAt l a W' := fun hne => by
  obtain ⟨g, e, hg, hc⟩ := h hne
  exact ⟨g, e, Nat.lt_of_lt_of_le hg hb.size, fun i hi => (hb.cell (p := ⟨g, i, none⟩) hg).trans (hc i hi)⟩
/-- A slice of whole numbers that may begin within its block. -/
def IntsO (l : List Int) (a : Option Addr) (W : World) : Prop := l ≠ [] → ∃ g o, a = some ⟨g, o, none⟩ ∧ g < W.heap.size ∧ ∀ i (h : i < l.length), W.cell? ⟨g, o + i, none⟩ = some (.int .i64 l[i])
theorem IntsO.below {l : List Int} {a : Option Addr} {W W' : World} (h : IntsO l a W) (hb : Below W.heap.size W W') : IntsO l a W' := fun hne => by
  obtain ⟨g, o, e, hg, hc⟩ := h hne
  exact ⟨g, o, e, Nat.lt_of_lt_of_le hg hb.size, fun i hi => (hb.cell (p := ⟨g, o + i, none⟩) hg).trans (hc i hi)⟩
theorem IntsAt.o {l : List Int} {a : Option Addr} {W : World} (h : IntsAt l a W) : IntsO l a W := fun hne => by
  obtain ⟨g, e, hg, hc⟩ := h hne
  exact ⟨g, 0, e, hg, fun i hi => by rw [Nat.zero_add]; exact hc i hi⟩
def SIn (w : World) (g1 o1 g2 o2 i : Nat) (x : Int) (W : World) : Prop := W.cell? ⟨g1, o1 + i, none⟩ = some (.int .i64 x) ∧ W.cell? ⟨g2, o2 + i, none⟩ = some (.int .i64 x) ∧ W = w
end Go.Proofs.YtdpkhliojbeglaaDoor

/- The document's trees: Sizes. -/
namespace Go.Proofs.YtdpkhliojbeglaaDoor
open Go.RowKit BS

theorem len_le_sum : ∀ (s : List Nat), (∀ x ∈ s, 0 < x) → s.length ≤ s.sum
  | [], _ => Nat.le_refl _
  | z :: s, h => by
    have h1 := h z (List.mem_cons_self ..)
    have h2 := len_le_sum s (fun x hx => h x (List.mem_cons_of_mem _ hx))
    rw [List.length_cons, List.sum_cons]
    omega
/-- Kids' numbers, and sizes, of a list of nodes. -/
def ksN (l : List NdN) : List Nat := (l.map NdN.kids).map Int.toNat
def sizesR (l : List NdN) : List Int := if manyF 0 (l.map NdN.kids) = some 1 then (sizesF [] (ksN l)).map (fun x : Nat => (x : Int)) else []
end Go.Proofs.YtdpkhliojbeglaaDoor

/- A whole block that is written at once. Nothing of the program is used. -/
namespace Go.Proofs.YtdpkhliojbeglaaDoor
open Go.RowKit

theorem Blk.setRow {W : World} {B : Nat} {vs cs : Array Value} {t : TypeId} (h : Blk W B vs t) : Blk (W.setRow B cs) B cs t := by
  obtain ⟨hlt, hk⟩ := Array.getElem?_eq_some_iff.1 h
  show (W.heap.modify B _)[B]? = _
  rw [Array.getElem?_eq_getElem (by rw [Array.size_modify]; exact hlt), Array.getElem_modify_self, hk]
theorem run_storeAt_row {P : Program} (w : World) (g : Nat) (t ty : TypeId) (old cells : Array Value) (hg : w.heap[g]? = some (.cells old t (0, 0))) (hi : (P.info? ty).map (·.size) = some cells.size) (ho : old.size = cells.size) (h1 : cells.all (·.oneCell') = true) :
    (Instr.storeAt ty (.pointer (some ⟨g, 0, none⟩)) (.agg cells)).run P w = .ok () (w.setRow g cells) := by
  simp only [Instr.storeAt, Instr.sureAddr, Sem.run_bind, Sem.run_pure, Result.andThen]
  exact run_storeVar_row _ _ t ty old cells hg hi ho h1

theorem wp_store_row {P : Program} {o : Oper} {a : Act} {w w' : World} {K : Act → World → Prop} {Q : Exit → Act → World → Prop} {cs : Array Value} (ty : TypeId) (x y : Operand) (ho : o.op = .store ty x y)
    (g : Nat) (hx : a.eval x = .pointer (some ⟨g, 0, none⟩)) (hy : a.eval y = .agg cs) (hst : (Instr.storeAt ty (.pointer (some ⟨g, 0, none⟩)) (.agg cs)).run P w = .ok () w') (h : K (a.put o.dst undef) w') : o.wp P a w K Q := by
  unfold Oper.wp execOp
  simp only [ho, hx, hy, Sem.run_bind, Sem.run_pure, hst, Result.andThen_ok]
  exact h
theorem wpList_store_st {P : Program} {ops : Array Oper} {rest : List Oper} {o : Oper} {a : Act} {w w' : World} {Q : Exit → Act → World → Prop} {cs : Array Value} (hgd : o.guard = none) (ty : TypeId) (x y : Operand) (ho : o.op = .store ty x y)
    (g : Nat) (hx : a.eval x = .pointer (some ⟨g, 0, none⟩)) (hy : a.eval y = .agg cs) (hst : (Instr.storeAt ty (.pointer (some ⟨g, 0, none⟩)) (.agg cs)).run P w = .ok () w') (h : wpList P ops Q rest (a.put o.dst undef) w') : wpList P ops Q (o :: rest) a w :=
  wpList_plain hgd fun _ hK => wp_store_row ty x y ho g hx hy hst (hK _ _ h)
theorem below_row {n B : Nat} {W W' : World} (hb : Below n W W') (hB : n ≤ B) (cs : Array Value) : Below n W (W'.setRow B cs) := below_setRow hb hB cs
theorem Blk.newsL {W : World} {B : Nat} {vs : Array Value} {t : TypeId} (h : Blk W B vs t) : ∀ j u, vs.toList[j]? = some u → W.cell? ((⟨B, 0, none⟩ : Addr).add j) = some u := by
  intro j u hu
  have e : (⟨B, 0, none⟩ : Addr).add j = ⟨B, j, none⟩ := by
    unfold Addr.add
    by_cases h0 : j = 0
    · subst h0; rfl
    · rw [if_neg h0, Nat.zero_add]
  rw [e, h.cell j]
  simpa using hu
theorem Blk.drewN {W : World} {B : Nat} {vs : Array Value} {t : TypeId} (h : Blk W B vs t) : ∀ n, Blk (W.drewN n) B vs t
  | 0 => h
  | n + 1 => Blk.drewN (W := W.drew) h n
theorem below_drN {m : Nat} {w W : World} (h : Below m w W) (n : Nat) : Below m w (W.drewN n) := h.trans ⟨rfl, rfl, rfl, Nat.le_refl _, fun _ _ => rfl⟩
end Go.Proofs.YtdpkhliojbeglaaDoor

/- Rows of a call's own: kept where their blocks are; nodes side by side. -/
namespace Go.Proofs.YtdpkhliojbeglaaDoor
open Go.RowKit BS

/-- A row of the call's own, kept where its block is. -/
theorem owns_keep {W W' : World} {base : Nat} {e : TypeId} {size : Nat} {v : Value} {n : Nat} {xs : List Value} (h : W.ownsRow base e size v n xs) (hb : ∀ g, v.ownBlock = some g → W'.heap[g]? = W.heap[g]?) : W'.ownsRow base e size v n xs := by
  refine ⟨h.1, ?_⟩
  rcases h.2 with hn | ⟨g, cap, cur, rfl, h1, h2, h3⟩
  · exact .inl hn
  · exact .inr ⟨g, cap, cur, rfl, h1, (hb g rfl).trans h2, h3⟩
theorem owns_form {W : World} {base : Nat} {e : TypeId} {size : Nat} {v : Value} {n : Nat} {xs : List Value} (h : W.ownsRow base e size v n xs) : ∃ a cap, v = .slice a n cap := by
  rcases h.2 with ⟨rfl, rfl⟩ | ⟨g, cap, cur, rfl, _⟩
  · exact ⟨_, _, rfl⟩
  · exact ⟨_, _, rfl⟩
theorem owns_last {W : World} {base : Nat} {e : TypeId} {v x : Value} {n : Nat} {xs : List Value} (h : W.ownsRow base e 1 v (n + 1) (xs ++ [x])) :
    ∃ g cap, v = .slice (some ⟨g, 0, none⟩) (n + 1) cap ∧ base ≤ g ∧ g < W.heap.size ∧ n + 1 ≤ cap ∧ W.cell? ⟨g, n, none⟩ = some x ∧ W.ownsRow base e 1 (.slice (some ⟨g, 0, none⟩) n cap) n xs := by
  have hl := h.1
  rw [List.length_append, List.length_singleton, Nat.mul_one] at hl
  rcases h.2 with ⟨_, h0⟩ | ⟨g, cap, cur, rfl, h1, h2, h3, h4, h5, h6⟩
  · omega
  · have hlt : g < W.heap.size := (Array.getElem?_eq_some_iff.1 h2).1
    refine ⟨g, cap, rfl, h1, hlt, h3, ?_, ⟨by omega, .inr ⟨g, cap, cur, rfl, h1, h2, by omega, h4, h5, ?_⟩⟩⟩
    · have hc : W.cell? ⟨g, n, none⟩ = cur[n]? := by simp [World.cell?, h2]
      have := congrArg (fun l : List Value => l[n]?) h6
      simp only [Nat.mul_one] at this
      rw [List.getElem?_take, if_pos (show n < n + 1 by omega), List.getElem?_append_right (show xs.length ≤ n by omega), show n - xs.length = 0 by omega] at this
      rw [hc, ← Array.getElem?_toList, this]
      rfl
    · have := congrArg (List.take (n * 1)) h6
      rw [List.take_take, show min (n * 1) ((n + 1) * 1) = n * 1 by omega, List.take_append_of_le_length (show n * 1 ≤ xs.length by omega), List.take_of_length_le (show xs.length ≤ n * 1 by omega)] at this
      exact this

/-! ### Nodes side by side -/
def ndCells (l : List NdN) : List Value := l.flatMap fun x => (ndA x).toList
theorem ndCells_app (l m : List NdN) : ndCells (l ++ m) = ndCells l ++ ndCells m := by simp [ndCells]
theorem ndCells_len (l : List NdN) : (ndCells l).length = l.length * 8 := by
  induction l with
  | nil => rfl
  | cons x l ih =>
    have e : ndCells (x :: l) = (ndA x).toList ++ ndCells l := by simp [ndCells]
    rw [e, List.length_append, ih, List.length_cons, show (ndA x).toList.length = 8 from rfl]
    omega
theorem ndCells_get : ∀ (l : List NdN) (i j : Nat) (h : i < l.length) (_hj : j < 8), (ndCells l)[i * 8 + j]? = (ndA l[i])[j]?
  | [], _, _, h, _ => absurd h (by simp)
  | x :: l, i, j, h, hj => by
    have e : ndCells (x :: l) = (ndA x).toList ++ ndCells l := by simp [ndCells]
    rw [e]
    cases i with
    | zero =>
      rw [List.getElem?_append_left (by rw [show (ndA x).toList.length = 8 from rfl]; omega), Nat.zero_mul, Nat.zero_add]
      simp
    | succ i =>
      rw [List.getElem?_append_right (by rw [show (ndA x).toList.length = 8 from rfl]; omega), show (ndA x).toList.length = 8 from rfl, show (i + 1) * 8 + j - 8 = i * 8 + j by omega]
      exact ndCells_get l i j (by simpa using h) hj
theorem ndCells_one (l : List NdN) : ∀ u ∈ ndCells l, u.oneCell' = true := fun u hu => by
  unfold ndCells at hu
  obtain ⟨x, _, hx⟩ := List.mem_flatMap.1 hu
  have h1 : ((ndA x).toList.all fun y => y.oneCell') = true := by simp [ndA, Value.oneCell']
  exact List.all_eq_true.1 h1 u hx
theorem nodes_news {l : List NdN} {g off : Nat} {W : World} (h : NodesAt l (some ⟨g, off, none⟩) W) : ∀ j u, (ndCells l)[j]? = some u → W.cell? ((⟨g, off, none⟩ : Addr).add j) = some u := fun j u hu => by
  have hj : j < (ndCells l).length := (List.getElem?_eq_some_iff.1 hu).1
  rw [ndCells_len] at hj
  have hne : l ≠ [] := by rintro rfl; simp at hj
  obtain ⟨g', off', e, _, hc⟩ := h hne
  cases e
  have h1 := hc (j / 8) (by omega) (j % 8) (by omega)
  rw [← ndCells_get l (j / 8) (j % 8) (by omega) (by omega), show off + j / 8 * 8 + j % 8 = off + j by omega, show j / 8 * 8 + j % 8 = j by omega, hu] at h1
  have e : (⟨g, off, none⟩ : Addr).add j = ⟨g, off + j, none⟩ := by
    unfold Addr.add
    by_cases h0 : j = 0
    · subst h0; rfl
    · rw [if_neg h0]
  rw [e]
  exact h1
end Go.Proofs.YtdpkhliojbeglaaDoor

/- Lists of entries in memory; the document's at, sign, Ahead. Stage 14. -/
namespace Go.Proofs.YtdpkhliojbeglaaDoor
open Go.RowKit BS

@[reducible] def enI (d n f e : Int) : Array Value := #[.int .i64 d, .int .i64 n, .int .i64 f, .int .i64 e]
def enA (x : EnN) : Array Value := enI x.depth x.node x.from_ x.to
/-- A slice of entries. -/
def EntsAt (l : List EnN) (a : Option Addr) (W : World) : Prop :=
  l ≠ [] → ∃ g off, a = some ⟨g, off, none⟩ ∧ g < W.heap.size ∧ ∀ i (h : i < l.length) j, j < 4 → W.cell? ⟨g, off + i * 4 + j, none⟩ = (enA l[i])[j]?
theorem EntsAt.below {l : List EnN} {a : Option Addr} {W W' : World} (h : EntsAt l a W) (hb : Below W.heap.size W W') : EntsAt l a W' := fun hne => by
  obtain ⟨g, off, e, hg, hc⟩ := h hne
  exact ⟨g, off, e, Nat.lt_of_lt_of_le hg hb.size, fun i hi j hj => (hb.cell (p := ⟨g, off + i * 4 + j, none⟩) hg).trans (hc i hi j hj)⟩
theorem infoEn : (Tryd.prog.info? 83).map (·.size) = some 4 := by kernel_rfl
set_option maxRecDepth 100000 in
set_option maxHeartbeats 8000000 in
theorem sign_calls (a b : Int) (w : World) : Calls Tryd.prog 46 #[.int .i64 a, .int .i64 b] w fun e w' => e = .returned (.int .i64 (sgT a b)) ∧ w = w' := by
  unfold sgT
  by_cases h1 : a < b
  · have q1 : decide (a < b) = true := decide_eq_true h1
    rw [if_pos h1]
    clear h1
    go_enter Tryd.func46, Tryd.ntmps46
    go_wp2_with fail
    go_ret
    exact ⟨rfl, rfl⟩
  have q1 : decide (a < b) = false := decide_eq_false h1
  rw [if_neg h1]
  by_cases h2 : b < a
  · have q2 : decide (b < a) = true := decide_eq_true h2
    rw [if_pos h2]
    clear h1 h2
    go_enter Tryd.func46, Tryd.ntmps46
    go_wp2_with fail
    go_ret
    exact ⟨rfl, rfl⟩
  have q2 : decide (b < a) = false := decide_eq_false h2
  rw [if_neg h2]
  clear h1 h2
  go_enter Tryd.func46, Tryd.ntmps46
  go_wp2_with fail
  go_ret
  exact ⟨rfl, rfl⟩
set_option maxRecDepth 100000 in
set_option maxHeartbeats 8000000 in
theorem at_calls (l : List EnN) (hl : l.length ≤ 1000000) (i : Nat) (_hi : i ≤ 1000000) (a : Option Addr) (cap : Nat) (w : World) (h : EntsAt l a w) :
    Calls Tryd.prog 45 #[.slice a l.length cap, .int .i64 (i : Int)] w fun e w' => e = .returned (.agg (enA (atE l i))) ∧ Below w.heap.size w w' := by
  have hR := Blk.new w (enI 0 0 0 0) 83
  have hB0 : Below w.heap.size w (w.alloc (.cells (enI 0 0 0 0) 83)) := (Below.refl _ _).alloc (Nat.le_refl _) _
  by_cases hlt : i < l.length
  · obtain ⟨g, off, rfl, hg, hc⟩ := h (by rintro rfl; simp at hlt)
    have hd : decide ((i : Int) < (l.length : Int)) = true := by rw [decide_eq_true_iff]; omega
    have hd2 : decide (i < l.length) = true := by rw [decide_eq_true_iff]; omega
    have hii : (i : Int) < (l.length : Int) := by omega
    rw [atE_lt l i hlt]
    have d := fun (j : Nat) (hj : j < 4) => (hB0.cell (p := ⟨g, off + i * 4 + j, none⟩) hg).trans (hc i hlt j hj)
    have d0 := d 0 (by decide); have d1 := d 1 (by decide); have d2 := d 2 (by decide); have d3 := d 3 (by decide)
    simp only [enA, List.getElem?_toArray, List.getElem?_cons_zero, List.getElem?_cons_succ, Nat.add_zero] at d0 d1 d2 d3
    generalize l[i] = x at *
    obtain ⟨xd, xn, xf, xt⟩ := x
    simp only at d0 d1 d2 d3
    have HR3 := Lib.hid ((((hR.set 0 (.int .i64 xd)).set 1 (.int .i64 xn)).set 2 (.int .i64 xf)).set 3 (.int .i64 xt))
    have HB3 := Lib.hid (below_set (below_set (below_set (below_set hB0 (Nat.le_refl _) 0 (.int .i64 xd)) (Nat.le_refl _) 1 (.int .i64 xn)) (Nat.le_refl _) 2 (.int .i64 xf)) (Nat.le_refl _) 3 (.int .i64 xt))
    have r0 := hR.cell 0; have r1 := hR.cell 1; have r2 := hR.cell 2; have r3 := hR.cell 3
    have s0 := hR.frozen 0; have s1 := hR.frozen 1; have s2 := hR.frozen 2; have s3 := hR.frozen 3
    simp only [List.getElem?_toArray, List.getElem?_cons_zero, List.getElem?_cons_succ] at r0 r1 r2 r3
    clear d hc h hR hB0 hg
    go_enter Tryd.func45, Tryd.ntmps45
    go_upto_region 1 with fail
    generalize w.alloc (.cells (enI 0 0 0 0) 83) = w1 at *
    go_wp2_with fail
    exact bodyPost_ret (v := .agg (enI xd xn xf xt)) (results_cell_row rfl _ _ w.heap.size 83 (enI xd xn xf xt) (0, 0) _ rfl HR3.out Tryd.underlying83 rfl infoEn) rfl ⟨rfl, HB3.out⟩
  · have hd : decide ((i : Int) < (l.length : Int)) = false := by rw [decide_eq_false_iff_not]; omega
    have hd2 : decide (i < l.length) = false := by rw [decide_eq_false_iff_not]; omega
    rw [atE_ge l i (by omega)]
    have HR3 := Lib.hid ((((hR.set 0 (.int .i64 0)).set 1 (.int .i64 0)).set 2 (.int .i64 0)).set 3 (.int .i64 0))
    have HB3 := Lib.hid (below_set (below_set (below_set (below_set hB0 (Nat.le_refl _) 0 (.int .i64 0)) (Nat.le_refl _) 1 (.int .i64 0)) (Nat.le_refl _) 2 (.int .i64 0)) (Nat.le_refl _) 3 (.int .i64 0))
    have r0 := hR.cell 0; have r1 := hR.cell 1; have r2 := hR.cell 2; have r3 := hR.cell 3
    have s0 := hR.frozen 0; have s1 := hR.frozen 1; have s2 := hR.frozen 2; have s3 := hR.frozen 3
    simp only [List.getElem?_toArray, List.getElem?_cons_zero, List.getElem?_cons_succ] at r0 r1 r2 r3
    clear h hR hB0
    go_enter Tryd.func45, Tryd.ntmps45
    go_upto_region 1 with fail
    generalize w.alloc (.cells (enI 0 0 0 0) 83) = w1 at *
    go_wp2_with fail
    exact bodyPost_ret (v := .agg (enI 0 0 0 0)) (results_cell_row rfl _ _ w.heap.size 83 (enI 0 0 0 0) (0, 0) _ rfl HR3.out Tryd.underlying83 rfl infoEn) rfl ⟨rfl, HB3.out⟩
theorem cmp_d {xd xn xf xt yd yn yf yt : Int} (h : xd ≠ yd) : cmpE ⟨xd, xn, xf, xt⟩ ⟨yd, yn, yf, yt⟩ = sgT yd xd ∧ cmpE ⟨xd, xn, xf, xt⟩ ⟨yd, yn, yf, yt⟩ ≠ 0 := by
  unfold cmpE
  simp only
  rw [if_pos h]
  refine ⟨rfl, ?_⟩
  unfold sgT
  repeat' split
  all_goals omega
theorem cmp_n {d xn xf xt yn yf yt : Int} (h : xn ≠ yn) : cmpE ⟨d, xn, xf, xt⟩ ⟨d, yn, yf, yt⟩ = sgT xn yn ∧ cmpE ⟨d, xn, xf, xt⟩ ⟨d, yn, yf, yt⟩ ≠ 0 := by
  unfold cmpE
  simp only
  rw [if_neg (fun hh => hh rfl), if_pos h]
  refine ⟨rfl, ?_⟩
  unfold sgT
  repeat' split
  all_goals omega
theorem cmp_f {d n xf xt yf yt : Int} (h : xf ≠ yf) : cmpE ⟨d, n, xf, xt⟩ ⟨d, n, yf, yt⟩ = sgT xf yf ∧ cmpE ⟨d, n, xf, xt⟩ ⟨d, n, yf, yt⟩ ≠ 0 := by
  unfold cmpE
  simp only
  rw [if_neg (fun hh => hh rfl), if_neg (fun hh => hh rfl), if_pos h]
  refine ⟨rfl, ?_⟩
  unfold sgT
  repeat' split
  all_goals omega
theorem cmp_t {d n f xt yt : Int} (h : xt ≠ yt) : cmpE ⟨d, n, f, xt⟩ ⟨d, n, f, yt⟩ = sgT yt xt ∧ cmpE ⟨d, n, f, xt⟩ ⟨d, n, f, yt⟩ ≠ 0 := by
  unfold cmpE
  simp only
  rw [if_neg (fun hh => hh rfl), if_neg (fun hh => hh rfl), if_neg (fun hh => hh rfl), if_pos h]
  refine ⟨rfl, ?_⟩
  unfold sgT
  repeat' split
  all_goals omega
/-- Which of two entries is ahead, by the first field in which they are not the same. -/
theorem lex_step (f g : Nat → EnN) (k i : Nat) : lexU f g (k + 1) i = if cmpE (f i) (g i) = 0 then lexU f g k (i + 1) else cmpE (f i) (g i) := rfl
set_option maxRecDepth 100000 in
set_option maxHeartbeats 16000000 in
theorem rAhead_calls (a b : List EnN) (ha : a.length ≤ 100000) (hb : b.length ≤ 100000) (ad bd : Option Addr) (ca cb : Nat) (w : World) (h : EntsAt a ad w) (k : EntsAt b bd w) :
    Calls Tryd.prog 24 #[.slice ad a.length ca, .slice bd b.length cb] w fun e w' => e = .returned (.int .i64 (aheadT a b)) ∧ Below w.heap.size w w' := by
  have HA := Lib.hid (fun (i : Nat) (hi : i ≤ 1000000) W (hW : Below w.heap.size w W) => at_calls a (by omega) i hi ad ca W (h.below hW))
  have HBB := Lib.hid (fun (i : Nat) (hi : i ≤ 1000000) W (hW : Below w.heap.size w W) => at_calls b (by omega) i hi bd cb W (k.below hW))
  obtain ⟨N, hN⟩ : ∃ N, N = max a.length b.length := ⟨_, rfl⟩
  have HR := Lib.hid (show lexU (atE a) (atE b) (N - 0) 0 = aheadT a b by rw [hN]; rfl)
  have HST := Lib.hid (lex_step (atE a) (atE b))
  have hNa : a.length ≤ N := by omega
  have hNb : b.length ≤ N := by omega
  have hNN : N = a.length ∨ N = b.length := by omega
  have hN1 : N ≤ 100000 := by omega
  have HZ : ∃ LU, LU = lexU (atE a) (atE b) ∧ ∀ i, LU 0 i = 0 := ⟨_, rfl, fun _ => rfl⟩
  obtain ⟨LU, hLU, hz⟩ := HZ
  rw [← hLU] at HR HST
  have HZ := Lib.hid hz
  clear hz
  clear h k hN hLU
  generalize aheadT a b = R at *
  generalize atE a = fa at *
  generalize atE b = fb at *
  generalize a.length = na at *
  generalize b.length = nb at *
  go_enter Tryd.func24, Tryd.ntmps24
  go_wp2_with fail
  go_loopw [5] (fun vi wr => ∃ i : Nat, i ≤ N ∧ vi = .int .i64 i ∧ LU (N - i) i = R ∧ Below w.heap.size w wr) (fun vi _ => N - (intOf vi).toNat)
  case atStart => exact ⟨0, Nat.zero_le _, rfl, HR.out, Below.refl _ _⟩
  case round =>
    clear HR
    obtain ⟨i, hi, rfl, hres, hB⟩ := hrel
    by_cases hlt : i < N
    · have xi : IntKind.i64.wrap ((i : Int) + 1) = (i : Int) + 1 := IntWalk.i64_in _ (by omega)
      have hst := HST.out (N - i - 1) i
      rw [show N - i - 1 + 1 = N - i by omega, hres, show N - i - 1 = N - (i + 1) by omega] at hst
      have HST1 := Lib.hid hst
      have HB := Lib.hid hB
      clear hst hres hB
      have hcond : (decide ((i : Int) < (na : Int)) = true ∧ decide (i < na) = true) ∨ (decide ((i : Int) < (na : Int)) = false ∧ decide (i < na) = false ∧ decide ((i : Int) < (nb : Int)) = true ∧ decide (i < nb) = true) := by
        by_cases h1 : i < na
        · exact .inl ⟨by rw [decide_eq_true_iff]; omega, decide_eq_true h1⟩
        · exact .inr ⟨by rw [decide_eq_false_iff_not]; omega, decide_eq_false h1, by rw [decide_eq_true_iff]; omega, by rw [decide_eq_true_iff]; omega⟩
      have hx := HA.out i (by omega)
      have hy := HBB.out i (by omega)
      generalize fa i = x at *
      generalize fb i = y at *
      obtain ⟨xd, xn, xf, xt⟩ := x
      obtain ⟨yd, yn, yf, yt⟩ := y
      simp only [enA] at hx hy
      have HX := Lib.hid hx
      have HY := Lib.hid hy
      clear hx hy
      rcases hcond with ⟨p1, p2⟩ | ⟨p1, p2, p3, p4⟩
      all_goals
        go_wp2_with fail
        refine (HX.out _ HB.out).mono ?_
        rintro e w1 ⟨rfl, hb1⟩
        have HB1 := Lib.hid (HB.out.trans (hb1.mono HB.out.size))
        clear hb1
        go_wp2_with fail
        refine (HY.out _ HB1.out).mono ?_
        rintro e w2 ⟨rfl, hb2⟩
        have HB2 := Lib.hid (HB1.out.trans (hb2.mono HB1.out.size))
        clear hb2
        have bX := (Blk.new w2 (enI xd xn xf xt) 83).alloc (.cells (enI yd yn yf yt) 83)
        have bY := Blk.new (w2.alloc (.cells (enI xd xn xf xt) 83)) (enI yd yn yf yt) 83
        rw [World.size_alloc] at bY
        have HB3 := Lib.hid ((HB2.out.alloc HB2.out.size (.cells (enI xd xn xf xt) 83)).alloc (by rw [World.size_alloc]; have := HB2.out.size; omega) (.cells (enI yd yn yf yt) 83))
        have r0 := bX.cell 0; have r1 := bX.cell 1; have r2 := bX.cell 2; have r3 := bX.cell 3
        have t0 := bY.cell 0; have t1 := bY.cell 1; have t2 := bY.cell 2; have t3 := bY.cell 3
        simp only [List.getElem?_toArray, List.getElem?_cons_zero, List.getElem?_cons_succ] at r0 r1 r2 r3 t0 t1 t2 t3
        clear bX bY
        go_upto_region 5 with fail
        generalize (w2.alloc (.cells (enI xd xn xf xt) 83)).alloc (.cells (enI yd yn yf yt) 83) = w3 at *
        clear HX HY HB HB1 HB2
        by_cases hne : xd ≠ yd
        · have q : (xd != yd) = true := by rw [bne_iff_ne]; exact hne
          have hc := @cmp_d xd xn xf xt yd yn yf yt hne
          have HRR := Lib.hid (show R = sgT yd xd from by have h9 := HST1.out; rw [if_neg hc.2] at h9; rw [h9, hc.1])
          clear hne hc HST1
          go_wp2_with fail
          refine (sign_calls yd xd _).mono ?_
          rintro e w4 ⟨rfl, rfl⟩
          go_wp2_with fail
          go_ret
          exact ⟨by rw [HRR.out] <;> rfl, HB3.out⟩
        obtain rfl : xd = yd := by
          rcases Classical.em (xd = yd) with h | h
          · exact h
          · exact absurd h hne
        clear hne
        by_cases hne : xn ≠ yn
        · have q : (xn != yn) = true := by rw [bne_iff_ne]; exact hne
          have hc := @cmp_n xd xn xf xt yn yf yt hne
          have HRR := Lib.hid (show R = sgT xn yn from by have h9 := HST1.out; rw [if_neg hc.2] at h9; rw [h9, hc.1])
          clear hne hc HST1
          go_wp2_with fail
          refine (sign_calls xn yn _).mono ?_
          rintro e w4 ⟨rfl, rfl⟩
          go_wp2_with fail
          go_ret
          exact ⟨by rw [HRR.out] <;> rfl, HB3.out⟩
        obtain rfl : xn = yn := by
          rcases Classical.em (xn = yn) with h | h
          · exact h
          · exact absurd h hne
        clear hne
        by_cases hne : xf ≠ yf
        · have q : (xf != yf) = true := by rw [bne_iff_ne]; exact hne
          have hc := @cmp_f xd xn xf xt yf yt hne
          have HRR := Lib.hid (show R = sgT xf yf from by have h9 := HST1.out; rw [if_neg hc.2] at h9; rw [h9, hc.1])
          clear hne hc HST1
          go_wp2_with fail
          refine (sign_calls xf yf _).mono ?_
          rintro e w4 ⟨rfl, rfl⟩
          go_wp2_with fail
          go_ret
          exact ⟨by rw [HRR.out] <;> rfl, HB3.out⟩
        obtain rfl : xf = yf := by
          rcases Classical.em (xf = yf) with h | h
          · exact h
          · exact absurd h hne
        clear hne
        by_cases hne : xt ≠ yt
        · have q : (xt != yt) = true := by rw [bne_iff_ne]; exact hne
          have hc := @cmp_t xd xn xf xt yt hne
          have HRR := Lib.hid (show R = sgT yt xt from by have h9 := HST1.out; rw [if_neg hc.2] at h9; rw [h9, hc.1])
          clear hne hc HST1
          go_wp2_with fail
          refine (sign_calls yt xt _).mono ?_
          rintro e w4 ⟨rfl, rfl⟩
          go_wp2_with fail
          go_ret
          exact ⟨by rw [HRR.out] <;> rfl, HB3.out⟩
        obtain rfl : xt = yt := by
          rcases Classical.em (xt = yt) with h | h
          · exact h
          · exact absurd h hne
        clear hne
        have HRR := Lib.hid (show LU (N - (i + 1)) (i + 1) = R from by have h9 := HST1.out; rw [if_pos ((cmpE_zero _ _).2 rfl)] at h9; exact h9.symm)
        clear HST1
        go_wp2_with fail
        go_roundw
        case rel => exact ⟨i + 1, by omega, by simp, HRR.out, HB3.out⟩
        case measure => simp [intOf]; omega
    · obtain rfl : i = N := by omega
      have p1 : decide ((i : Int) < (na : Int)) = false := by rw [decide_eq_false_iff_not]; omega
      have p2 : decide (i < na) = false := by rw [decide_eq_false_iff_not]; omega
      have p3 : decide ((i : Int) < (nb : Int)) = false := by rw [decide_eq_false_iff_not]; omega
      have p4 : decide (i < nb) = false := by rw [decide_eq_false_iff_not]; omega
      rw [Nat.sub_self, HZ.out] at hres
      have HRES := Lib.hid hres
      have HB := Lib.hid hB
      clear hres hB hNN
      go_wp2_with fail
      go_ret
      exact ⟨by rw [← HRES.out] <;> rfl, HB.out⟩
end Go.Proofs.YtdpkhliojbeglaaDoor

/- What is kept outside a set of blocks; many cells written into the middle of a block. Nothing of the program is used. -/
namespace Go.Proofs.YtdpkhliojbeglaaDoor
open Go.RowKit

/-- Blocks outside of A are kept. -/
structure KpA (A : Nat → Prop) (w w' : World) : Prop where
  os : w'.os = w.os
  tape : w'.tape = w.tape
  output : w'.output = w.output
  size : w.heap.size ≤ w'.heap.size
  block : ∀ k, k < w.heap.size → ¬ A k → w'.heap[k]? = w.heap[k]?
theorem KpA.refl (A : Nat → Prop) (w : World) : KpA A w w := ⟨rfl, rfl, rfl, Nat.le_refl _, fun _ _ _ => rfl⟩
theorem KpA.trans {A : Nat → Prop} {a b c : World} (h : KpA A a b) (k : KpA A b c) : KpA A a c :=
  ⟨k.os.trans h.os, k.tape.trans h.tape, k.output.trans h.output, Nat.le_trans h.size k.size, fun i hi hA => (k.block i (Nat.lt_of_lt_of_le hi h.size) hA).trans (h.block i hi hA)⟩
theorem KpA.below {A : Nat → Prop} {a b c : World} (h : KpA A a b) (k : Below b.heap.size b c) : KpA A a c :=
  h.trans ⟨k.os, k.tape, k.output, k.size, fun i hi _ => k.block i hi⟩
theorem KpA.alloc {A : Nat → Prop} {a b : World} (h : KpA A a b) (o : Obj) : KpA A a (b.alloc o) := h.below ((Below.refl _ _).alloc (Nat.le_refl _) o)
theorem KpA.drew {A : Nat → Prop} {a b : World} (h : KpA A a b) : KpA A a b.drew := ⟨h.os, h.tape, h.output, h.size, h.block⟩
theorem KpA.set {A : Nat → Prop} {a b : World} (h : KpA A a b) {g : Nat} (hg : A g ∨ a.heap.size ≤ g) (x : Nat) (v : Value) : KpA A a (b.setCell ⟨g, x, none⟩ v) :=
  ⟨h.os, h.tape, h.output, by simpa using h.size, fun i hi hA => (Below.heap_setCell b ⟨g, x, none⟩ v i (by show i ≠ g; rintro rfl; exact hg.elim hA (fun h1 => by omega))).trans (h.block i hi hA)⟩
theorem row_kept7 (W : World) (B : Nat) (cs : Array Value) (k : Nat) (h : k ≠ B) : (W.setRow B cs).heap[k]? = W.heap[k]? := by
  show (W.heap.modify B _)[k]? = _
  rw [Array.getElem?_modify, if_neg (Ne.symm h)]
theorem KpA.row {A : Nat → Prop} {a b : World} (h : KpA A a b) {g : Nat} (hg : A g ∨ a.heap.size ≤ g) (cs : Array Value) : KpA A a (b.setRow g cs) :=
  ⟨h.os, h.tape, h.output, by simpa [World.setRow] using h.size, fun i hi hA => (row_kept7 b g cs i (by rintro rfl; exact hg.elim hA (fun h1 => by omega))).trans (h.block i hi hA)⟩
theorem KpA.grown {A : Nat → Prop} {a b c : World} {row : Option Nat} (h : KpA A a b) (hg : b.grownBy c row) (hr : ∀ k, row = some k → A k ∨ a.heap.size ≤ k) : KpA A a c :=
  ⟨hg.os.trans h.os, hg.tape.trans h.tape, hg.output.trans h.output, Nat.le_trans h.size hg.size, fun i hi hA => (hg.block i (Nat.lt_of_lt_of_le hi h.size) (fun e => by exact (hr i e.symm).elim hA (fun h1 => by omega))).trans (h.block i hi hA)⟩
theorem KpA.mono {A A' : Nat → Prop} {a b : World} (h : KpA A' a b) (hA : ∀ k, A' k → A k) : KpA A a b := ⟨h.os, h.tape, h.output, h.size, fun i hi hn => h.block i hi fun h' => hn (hA i h')⟩
theorem Blk.kpA {A : Nat → Prop} {a b : World} {B : Nat} {vs : Array Value} {t : TypeId} (h : Blk a B vs t) (k : KpA A a b) (hB : ¬ A B) : Blk b B vs t := (k.block B h.lt hB).trans h
theorem KpA.drewN {A : Nat → Prop} {a b : World} (h : KpA A a b) (n : Nat) : KpA A a (b.drewN n) := ⟨h.os, h.tape, h.output, h.size, h.block⟩
theorem KpA.cell {A : Nat → Prop} {a b : World} (h : KpA A a b) {g : Nat} (hg : g < a.heap.size) (hA : ¬ A g) (x : Nat) : b.cell? ⟨g, x, none⟩ = a.cell? ⟨g, x, none⟩ :=
  World.cell?_of_block (w := a) (a := ⟨g, x, none⟩) (h.block g hg hA)
theorem KpA.toBelow {A : Nat → Prop} {a b : World} {n : Nat} (h : KpA A a b) (hn : n ≤ a.heap.size) (hA : ∀ k, A k → n ≤ k) : Below n a b :=
  ⟨h.os, h.tape, h.output, h.size, fun i hi => h.block i (by omega) fun h' => by have := hA i h'; omega⟩

/-! ### Many cells at once -/
def setL : Array Value → Nat → List Value → Array Value
  | vs, _, [] => vs
  | vs, o, v :: r => setL (vs.setIfInBounds o v) (o + 1) r
theorem setL_size : ∀ (us : List Value) (vs : Array Value) (o : Nat), (setL vs o us).size = vs.size
  | [], _, _ => rfl
  | v :: r, vs, o => by rw [setL, setL_size r]; simp
theorem setL_get : ∀ (us : List Value) (vs : Array Value) (o q : Nat), o + us.length ≤ vs.size → (setL vs o us)[q]? = if o ≤ q ∧ q < o + us.length then us[q - o]? else vs[q]?
  | [], vs, o, q, _ => by rw [setL, if_neg (by simp)]
  | v :: r, vs, o, q, h => by
    simp only [List.length_cons] at h
    rw [setL, setL_get r _ (o + 1) q (by simp; omega)]
    by_cases h1 : o + 1 ≤ q ∧ q < o + 1 + r.length
    · rw [if_pos h1, if_pos (by simp only [List.length_cons]; omega), show q - o = (q - (o + 1)) + 1 by omega, List.getElem?_cons_succ]
    · rw [if_neg h1]
      by_cases h2 : q = o
      · subst h2
        rw [if_pos (by simp only [List.length_cons]; omega), Nat.sub_self, List.getElem?_cons_zero]
        simp [show q < vs.size by omega]
      · rw [if_neg (by simp only [List.length_cons]; omega), Array.getElem?_setIfInBounds_ne (Ne.symm h2)]
theorem setCells_heap (B : Nat) : ∀ (us : List Value) (o : Nat) (W : World) (k : Nat), k ≠ B → (W.setCells B o us).heap[k]? = W.heap[k]?
  | [], _, _, _, _ => rfl
  | v :: r, o, W, k, h => by rw [World.setCells, setCells_heap B r (o + 1) _ k h]; exact Below.heap_setCell W ⟨B, o, none⟩ v k h
theorem setCells_rest (B : Nat) : ∀ (us : List Value) (o : Nat) (W : World), (W.setCells B o us).os = W.os ∧ (W.setCells B o us).tape = W.tape ∧ (W.setCells B o us).output = W.output ∧ (W.setCells B o us).heap.size = W.heap.size
  | [], _, _ => ⟨rfl, rfl, rfl, rfl⟩
  | v :: r, o, W => by
    rw [World.setCells]
    obtain ⟨h1, h2, h3, h4⟩ := setCells_rest B r (o + 1) (W.setCell ⟨B, o, none⟩ v)
    exact ⟨h1, h2, h3, by rw [h4]; simp⟩
theorem Blk.setCells {t : TypeId} {B : Nat} : ∀ (us : List Value) (o : Nat) {W : World} {vs : Array Value}, Blk W B vs t → Blk (W.setCells B o us) B (setL vs o us) t
  | [], _, _, _, h => h
  | v :: r, o, _, _, h => by rw [World.setCells, setL]; exact Blk.setCells r (o + 1) (h.set o v)
theorem Blk.otherCells {W : World} {B B' : Nat} {vs : Array Value} {t : TypeId} (h : Blk W B vs t) (hne : B ≠ B') (o : Nat) (us : List Value) : Blk (W.setCells B' o us) B vs t :=
  (setCells_heap B' us o W B hne).trans h
theorem Blk.there {W : World} {B : Nat} {vs : Array Value} {t : TypeId} (h : Blk W B vs t) (o n : Nat) (hn : o + n ≤ vs.size) : W.there B o n := fun j hj => by
  refine ⟨?_, h.frozen _⟩
  rw [h.cell, Array.getElem?_eq_getElem (by omega)]
  rfl
theorem Blk.rangeAt {W : World} {B : Nat} {vs : Array Value} {t : TypeId} (h : Blk W B vs t) (o : Nat) (us : List Value) (hu : ∀ j v, us[j]? = some v → vs[o + j]? = some v) : W.rangeAt B o us := fun j v hv => by
  rw [h.cell]; exact hu j v hv
theorem KpA.setCells {A : Nat → Prop} {a b : World} (h : KpA A a b) {g : Nat} (hg : A g ∨ a.heap.size ≤ g) (o : Nat) (us : List Value) : KpA A a (b.setCells g o us) := by
  obtain ⟨h1, h2, h3, h4⟩ := setCells_rest g us o b
  exact ⟨h1.trans h.os, h2.trans h.tape, h3.trans h.output, by rw [h4]; exact h.size, fun i hi hA => (setCells_heap g us o b i (by rintro rfl; exact hg.elim hA (fun h1 => by omega))).trans (h.block i hi hA)⟩
theorem below_cells {n B : Nat} {W W' : World} (hb : Below n W W') (hB : n ≤ B) (o : Nat) (us : List Value) : Below n W (W'.setCells B o us) := by
  obtain ⟨h1, h2, h3, h4⟩ := setCells_rest B us o W'
  exact ⟨h1.trans hb.os, h2.trans hb.tape, h3.trans hb.output, by rw [h4]; exact hb.size, fun i hi => (setCells_heap B us o W' i (by omega)).trans (hb.block i hi)⟩

section
variable {P : Program} {ops : Array Oper} {S : World → Prop}
/-- A row in the middle of a block is read. -/
theorem StepsIf.load_mid {op : Oper} {a : Act} (hw : Region.wanted op (yielded ops a.tmps) = true) (ty : TypeId) (x : Operand) (ho : op.op = .load ty x)
    (b o : Nat) (hx : a.eval x = .pointer (some ⟨b, o, none⟩)) (cs : List Value) (v : Value) (hv : v = .agg cs.toArray) (d : TypeDesc) (hS : ∀ w, S w → w.rangeAt b o cs)
    (hu : P.underlying ty = some d) (hd : d.isRow = true) (hi : (P.info? ty).map (·.size) = some cs.length) : StepsIf P ops S op v a :=
  StepsIf.yield hw fun w hw' => by
    subst hv
    unfold execOp
    simp only [ho, hx, Instr.loadAt, Instr.sureAddr, Sem.run_bind, Sem.run_pure, Result.andThen_ok, run_loadVar_mid w b o ty cs d (hS w hw') hu hd hi]
end
end Go.Proofs.YtdpkhliojbeglaaDoor

/- A slice of nodes among the arguments, opened. -/
namespace Go.Proofs.YtdpkhliojbeglaaDoor
open Go.ChangeShapes Go.WideShapes Go.ChangeAt Go.RowKit Go.Deep BS

section
variable {H : Type} {enc : TypeId × Value → H} {P : Program}

theorem set_cells4 {w : World} {base fuel : Nat} {spare : Nat → Bool} {held : Bool} {t e : TypeId} {x : DataW H × List MemPlace} (ht : P.underlying t = some (.array 4 e)) (he : P.underlying e = some (.int .u64)) (hce : P.cellsOf e = 1)
    {a b c d' : Value} (hf : DataW.trod enc P w base spare held fuel t [a, b, c, d'] = some x) : ∃ s : BitVec 256, a = .int .u64 (wd s 0) ∧ b = .int .u64 (wd s 1) ∧ c = .int .u64 (wd s 2) ∧ d' = .int .u64 (wd s 3) := by
  obtain ⟨xs, m, _, _, _, hl, hk⟩ := DataW.trod_array ht hf
  have key : ∀ i (u : Value), i < 4 → #[a, b, c, d'][i]? = some u → ∃ n : Int, u = .int .u64 n ∧ 0 ≤ n ∧ n < 18446744073709551616 := by
    intro i u hi hu
    have h1 := hk i hi
    rw [hce, Nat.mul_one] at h1
    have hx : i < xs.length := by omega
    rw [List.getElem?_eq_getElem hx] at h1
    obtain ⟨n, hn, _, hw⟩ := DataW.trod_int he h1
    refine ⟨n, ?_, ?_⟩
    · have := congrArg (fun l => l[0]?) hn
      simp only [List.getElem?_take, List.getElem?_drop] at this
      simp at this hu
      rw [hu] at this
      simpa using this
    · have : (Lit.int .u64 n).wf = true := hw
      have h2 : 0 ≤ n ∧ n ≤ 18446744073709551615 := by simpa [Lit.wf, IntKind.min, IntKind.max, IntKind.signed, IntKind.bits] using this
      exact ⟨h2.1, by omega⟩
  obtain ⟨na, rfl, ha0, ha1⟩ := key 0 a (by decide) rfl
  obtain ⟨nb, rfl, hb0, hb1⟩ := key 1 b (by decide) rfl
  obtain ⟨nc, rfl, hc0, hc1⟩ := key 2 c (by decide) rfl
  obtain ⟨nd, rfl, hd0, hd1⟩ := key 3 d' (by decide) rfl
  obtain ⟨s, h0, h1, h2, h3⟩ := of_words na nb nc nd ⟨ha0, ha1⟩ ⟨hb0, hb1⟩ ⟨hc0, hc1⟩ ⟨hd0, hd1⟩
  exact ⟨s, by rw [h0], by rw [h1], by rw [h2], by rw [h3]⟩
theorem list8 {α : Type} {cs : List α} (h : cs.length = 8) : ∃ c0 c1 c2 c3 c4 c5 c6 c7, cs = [c0, c1, c2, c3, c4, c5, c6, c7] := by
  match cs, h with
  | [c0, c1, c2, c3, c4, c5, c6, c7], _ => exact ⟨c0, c1, c2, c3, c4, c5, c6, c7, rfl⟩
/-- A struct of four numbers and a set. -/
theorem node_cells {w : World} {base fuel : Nat} {spare : Nat → Bool} {held : Bool} {t it st e : TypeId} {f0 f1 f2 f3 f4 : Field} {cs : List Value} {x : DataW H × List MemPlace}
    (hs : P.underlying t = some (.struct #[f0, f1, f2, f3, f4])) (hlc : cs.length = 8)
    (ho : f0.offset = 0 ∧ f1.offset = 1 ∧ f2.offset = 2 ∧ f3.offset = 3 ∧ f4.offset = 4)
    (hty : f0.type = it ∧ f1.type = it ∧ f2.type = it ∧ f3.type = it ∧ f4.type = st)
    (hi : P.underlying it = some (.int .i64)) (hci : P.cellsOf it = 1) (hst : P.underlying st = some (.array 4 e)) (he : P.underlying e = some (.int .u64)) (hce : P.cellsOf e = 1) (hcs : P.cellsOf st = 4)
    (hf : DataW.trod enc P w base spare held fuel t cs = some x) : ∃ y : NdN, cs = (ndA y).toList := by
  obtain ⟨c0, c1, c2, c3, c4, c5, c6, c7, rfl⟩ := list8 hlc
  obtain ⟨xs, n, _, _, _, hlen, hk⟩ := DataW.trod_struct hs hf
  obtain ⟨o0, o1, o2, o3, o4⟩ := ho
  obtain ⟨t0, t1, t2, t3, t4⟩ := hty
  have e0 := hk 0 f0 rfl
  have e1 := hk 1 f1 rfl
  have e2 := hk 2 f2 rfl
  have e3 := hk 3 f3 rfl
  have e4 := hk 4 f4 rfl
  have hl5 : xs.length = 5 := hlen
  rw [List.getElem?_eq_getElem (by omega), o0, t0, hci] at e0
  rw [List.getElem?_eq_getElem (by omega), o1, t1, hci] at e1
  rw [List.getElem?_eq_getElem (by omega), o2, t2, hci] at e2
  rw [List.getElem?_eq_getElem (by omega), o3, t3, hci] at e3
  rw [List.getElem?_eq_getElem (by omega), o4, t4, hcs] at e4
  obtain ⟨n0, h0, _⟩ := DataW.trod_int hi e0
  obtain ⟨n1, h1, _⟩ := DataW.trod_int hi e1
  obtain ⟨n2, h2, _⟩ := DataW.trod_int hi e2
  obtain ⟨n3, h3, _⟩ := DataW.trod_int hi e3
  have e4' : DataW.trod enc P w base spare held n st [c4, c5, c6, c7] = some xs[4] := e4
  obtain ⟨s, g0, g1, g2, g3⟩ := set_cells4 hst he hce e4'
  have k0 : [c0] = [Value.int .i64 n0] := h0
  have k1 : [c1] = [Value.int .i64 n1] := h1
  have k2 : [c2] = [Value.int .i64 n2] := h2
  have k3 : [c3] = [Value.int .i64 n3] := h3
  simp only [List.cons.injEq, and_true] at k0 k1 k2 k3
  subst k0 k1 k2 k3 g0 g1 g2 g3
  exact ⟨⟨n0, n1, n2, n3, s⟩, rfl⟩
/-- A slice of nodes. -/
theorem open_nodes {w : World} {r : Reach} {base b0 : Nat} {spare : Nat → Bool} {held : Bool} {ts t it st e : TypeId} {f0 f1 f2 f3 f4 : Field} {v : Value} {d : DataW H} {p : List MemPlace}
    (hts : P.underlying ts = some (.slice t)) (hs : P.underlying t = some (.struct #[f0, f1, f2, f3, f4])) (hC : P.cellsOf t = 8)
    (ho : f0.offset = 0 ∧ f1.offset = 1 ∧ f2.offset = 2 ∧ f3.offset = 3 ∧ f4.offset = 4)
    (hty : f0.type = it ∧ f1.type = it ∧ f2.type = it ∧ f3.type = it ∧ f4.type = st)
    (hi : P.underlying it = some (.int .i64)) (hci : P.cellsOf it = 1) (hst : P.underlying st = some (.array 4 e)) (he : P.underlying e = some (.int .u64)) (hce : P.cellsOf e = 1) (hcs : P.cellsOf st = 4)
    (hv : Value.okWide P w r b0 ts v) (h : DataW.Trod enc P w base spare held ts v d p) :
    ∃ (l : List NdN) (a : Option Addr) (cap : Nat), v = .slice a l.length cap ∧ l.length ≤ maxLen ∧ NodesAt l a w := by
  obtain ⟨av, lv, cv, rfl⟩ := okWide_slice hts hv
  obtain ⟨fuel, hf⟩ := h
  rcases open_slice hts hf with ⟨h1, _⟩ | ⟨a, len, cap, m, n, D, Pl, h1, _, hlc, hcm, hm, _, hk⟩
  · have h2 : Value.slice av lv cv = .slice none 0 0 := by simpa [Value.cells] using h1
    cases h2
    exact ⟨[], none, 0, rfl, Nat.zero_le _, fun h => absurd rfl h⟩
  · have h2 : Value.slice av lv cv = .slice (some a) len cap := by simpa [Value.cells] using h1
    cases h2
    have hlm : lv ≤ m := by rw [hm]; split <;> omega
    have hex : ∀ i, ∃ y : NdN, i < lv → ∀ j, j < 8 → w.cell? (a.add (i * 8 + j)) = (ndA y)[j]? := fun i => by
      by_cases hil : i < lv
      · obtain ⟨cs', hc, ht⟩ := hk i (by omega)
        rw [hC] at hc
        obtain ⟨_, hl8, hcell⟩ := World.cells?_some hc
        obtain ⟨y, rfl⟩ := node_cells hs hl8 ho hty hi hci hst he hce hcs ht
        refine ⟨y, fun _ j hj => ?_⟩
        have h3 := hcell j hj
        rw [Addr.add_add] at h3
        rw [h3]
        simp
      · exact ⟨⟨0, 0, 0, 0, 0⟩, fun h => absurd h hil⟩
    refine ⟨(List.range lv).map fun i => (hex i).choose, some a, cv, by simp, by simp; omega, fun hne => ?_⟩
    have h0 : 0 < lv := by
      cases lv with
      | zero => exact absurd rfl hne
      | succ n => omega
    obtain ⟨b, off, spot⟩ := a
    have hc0 := (hex 0).choose_spec h0 0 (by decide)
    have hspot : spot = none := by
      have h4 : w.cell? (({ block := b, off := off, spot := spot } : Addr).add 0) = some (.int .i64 (hex 0).choose.kind) := hc0
      simpa [Addr.add] using World.cell?_spot h4
    subst hspot
    have hadd : ∀ n, ({ block := b, off := off, spot := none } : Addr).add n = ⟨b, off + n, none⟩ := fun n => by
      unfold Addr.add
      by_cases hn : n = 0
      · subst hn; rfl
      · rw [if_neg hn]
    refine ⟨b, off, rfl, ?_, fun i hil j hj => ?_⟩
    · have h4 : w.cell? (({ block := b, off := off, spot := none } : Addr).add 0) = some (.int .i64 (hex 0).choose.kind) := hc0
      exact World.block_lt_of_cell? w _ h4
    · rw [List.length_map, List.length_range] at hil
      have h5 := (hex i).choose_spec hil j hj
      rw [hadd] at h5
      rw [show off + i * 8 + j = off + (i * 8 + j) by omega, h5]
      simp
end
end Go.Proofs.YtdpkhliojbeglaaDoor

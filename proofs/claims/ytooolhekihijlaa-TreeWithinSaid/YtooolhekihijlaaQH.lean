/- Texts put together: Ba On. -/
import Derived.Test.YtooolhekihijlaaQG
import Derived.Test.YtooolhekihijlaaQC
import Derived.Deep.MidRow
import Derived.Test.YtooolhekihijlaaQF
import Derived.Lib.SmallJoins
import Derived.Deep.Slices
import Derived.Deep.Fields
import Derived.ChangeSame
/- What is kept outside a set of blocks; many cells written into the middle of a block. Nothing of the program is used. -/
namespace Go.Proofs.Ytooolhekihijlaa
open Go.RowKit

/-- Blocks outside of A are kept. -/
structure KpA (A : Nat → Prop) (w w' : World) : Prop where
  os : w'.os = w.os
  tape : w'.tape = w.tape
  output : w'.output = w.output
  size : w.heap.size ≤ w'.heap.size
  block : ∀ k, k < w.heap.size → ¬ A k → w'.heap[k]? = w.heap[k]?
theorem KpA.refl (A : Nat → Prop) (w : World) : KpA A w w := ⟨rfl, rfl, rfl, Nat.le_refl _, fun _ _ _ => rfl⟩
theorem KpA.trans {A : Nat → Prop} {a b c : World} (h : KpA A a b) (k : KpA A b c) : KpA A a c :=
  ⟨k.os.trans h.os, k.tape.trans h.tape, k.output.trans h.output, Nat.le_trans h.size k.size, fun i hi hA => (k.block i (Nat.lt_of_lt_of_le hi h.size) hA).trans (h.block i hi hA)⟩
theorem KpA.below {A : Nat → Prop} {a b c : World} (h : KpA A a b) (k : Below b.heap.size b c) : KpA A a c :=
  h.trans ⟨k.os, k.tape, k.output, k.size, fun i hi _ => k.block i hi⟩
theorem KpA.alloc {A : Nat → Prop} {a b : World} (h : KpA A a b) (o : Obj) : KpA A a (b.alloc o) := h.below ((Below.refl _ _).alloc (Nat.le_refl _) o)
theorem KpA.drew {A : Nat → Prop} {a b : World} (h : KpA A a b) : KpA A a b.drew := ⟨h.os, h.tape, h.output, h.size, h.block⟩
theorem KpA.set {A : Nat → Prop} {a b : World} (h : KpA A a b) {g : Nat} (hg : A g ∨ a.heap.size ≤ g) (x : Nat) (v : Value) : KpA A a (b.setCell ⟨g, x, none⟩ v) :=
  ⟨h.os, h.tape, h.output, by simpa using h.size, fun i hi hA => (Below.heap_setCell b ⟨g, x, none⟩ v i (by show i ≠ g; rintro rfl; exact hg.elim hA (fun h1 => by omega))).trans (h.block i hi hA)⟩
theorem row_kept7 (W : World) (B : Nat) (cs : Array Value) (k : Nat) (h : k ≠ B) : (W.setRow B cs).heap[k]? = W.heap[k]? := by
  show (W.heap.modify B _)[k]? = _
  rw [Array.getElem?_modify, if_neg (Ne.symm h)]
theorem KpA.row {A : Nat → Prop} {a b : World} (h : KpA A a b) {g : Nat} (hg : A g ∨ a.heap.size ≤ g) (cs : Array Value) : KpA A a (b.setRow g cs) :=
  ⟨h.os, h.tape, h.output, by simpa [World.setRow] using h.size, fun i hi hA => (row_kept7 b g cs i (by rintro rfl; exact hg.elim hA (fun h1 => by omega))).trans (h.block i hi hA)⟩
theorem KpA.grown {A : Nat → Prop} {a b c : World} {row : Option Nat} (h : KpA A a b) (hg : b.grownBy c row) (hr : ∀ k, row = some k → A k ∨ a.heap.size ≤ k) : KpA A a c :=
  ⟨hg.os.trans h.os, hg.tape.trans h.tape, hg.output.trans h.output, Nat.le_trans h.size hg.size, fun i hi hA => (hg.block i (Nat.lt_of_lt_of_le hi h.size) (fun e => by exact (hr i e.symm).elim hA (fun h1 => by omega))).trans (h.block i hi hA)⟩
theorem KpA.mono {A A' : Nat → Prop} {a b : World} (h : KpA A' a b) (hA : ∀ k, A' k → A k) : KpA A a b := ⟨h.os, h.tape, h.output, h.size, fun i hi hn => h.block i hi fun h' => hn (hA i h')⟩
theorem Blk.kpA {A : Nat → Prop} {a b : World} {B : Nat} {vs : Array Value} {t : TypeId} (h : Blk a B vs t) (k : KpA A a b) (hB : ¬ A B) : Blk b B vs t := (k.block B h.lt hB).trans h
theorem KpA.drewN {A : Nat → Prop} {a b : World} (h : KpA A a b) (n : Nat) : KpA A a (b.drewN n) := ⟨h.os, h.tape, h.output, h.size, h.block⟩
theorem KpA.cell {A : Nat → Prop} {a b : World} (h : KpA A a b) {g : Nat} (hg : g < a.heap.size) (hA : ¬ A g) (x : Nat) : b.cell? ⟨g, x, none⟩ = a.cell? ⟨g, x, none⟩ :=
  World.cell?_of_block (w := a) (a := ⟨g, x, none⟩) (h.block g hg hA)
theorem KpA.toBelow {A : Nat → Prop} {a b : World} {n : Nat} (h : KpA A a b) (hn : n ≤ a.heap.size) (hA : ∀ k, A k → n ≤ k) : Below n a b :=
  ⟨h.os, h.tape, h.output, h.size, fun i hi => h.block i (by omega) fun h' => by have := hA i h'; omega⟩

/-! ### Many cells at once -/
def setL : Array Value → Nat → List Value → Array Value
  | vs, _, [] => vs
  | vs, o, v :: r => setL (vs.setIfInBounds o v) (o + 1) r
theorem setL_size : ∀ (us : List Value) (vs : Array Value) (o : Nat), (setL vs o us).size = vs.size
  | [], _, _ => rfl
  | v :: r, vs, o => by rw [setL, setL_size r]; simp
theorem setL_get : ∀ (us : List Value) (vs : Array Value) (o q : Nat), o + us.length ≤ vs.size → (setL vs o us)[q]? = if o ≤ q ∧ q < o + us.length then us[q - o]? else vs[q]?
  | [], vs, o, q, _ => by rw [setL, if_neg (by simp)]
  | v :: r, vs, o, q, h => by
    simp only [List.length_cons] at h
    rw [setL, setL_get r _ (o + 1) q (by simp; omega)]
    by_cases h1 : o + 1 ≤ q ∧ q < o + 1 + r.length
    · rw [if_pos h1, if_pos (by simp only [List.length_cons]; omega), show q - o = (q - (o + 1)) + 1 by omega, List.getElem?_cons_succ]
    · rw [if_neg h1]
      by_cases h2 : q = o
      · subst h2
        rw [if_pos (by simp only [List.length_cons]; omega), Nat.sub_self, List.getElem?_cons_zero]
        simp [show q < vs.size by omega]
      · rw [if_neg (by simp only [List.length_cons]; omega), Array.getElem?_setIfInBounds_ne (Ne.symm h2)]
theorem setCells_heap (B : Nat) : ∀ (us : List Value) (o : Nat) (W : World) (k : Nat), k ≠ B → (W.setCells B o us).heap[k]? = W.heap[k]?
  | [], _, _, _, _ => rfl
  | v :: r, o, W, k, h => by rw [World.setCells, setCells_heap B r (o + 1) _ k h]; exact Below.heap_setCell W ⟨B, o, none⟩ v k h
theorem setCells_rest (B : Nat) : ∀ (us : List Value) (o : Nat) (W : World), (W.setCells B o us).os = W.os ∧ (W.setCells B o us).tape = W.tape ∧ (W.setCells B o us).output = W.output ∧ (W.setCells B o us).heap.size = W.heap.size
  | [], _, _ => ⟨rfl, rfl, rfl, rfl⟩
  | v :: r, o, W => by
    rw [World.setCells]
    obtain ⟨h1, h2, h3, h4⟩ := setCells_rest B r (o + 1) (W.setCell ⟨B, o, none⟩ v)
    exact ⟨h1, h2, h3, by rw [h4]; simp⟩
theorem Blk.setCells {t : TypeId} {B : Nat} : ∀ (us : List Value) (o : Nat) {W : World} {vs : Array Value}, Blk W B vs t → Blk (W.setCells B o us) B (setL vs o us) t
  | [], _, _, _, h => h
  | v :: r, o, _, _, h => by rw [World.setCells, setL]; exact Blk.setCells r (o + 1) (h.set o v)
theorem Blk.otherCells {W : World} {B B' : Nat} {vs : Array Value} {t : TypeId} (h : Blk W B vs t) (hne : B ≠ B') (o : Nat) (us : List Value) : Blk (W.setCells B' o us) B vs t :=
  (setCells_heap B' us o W B hne).trans h
theorem Blk.there {W : World} {B : Nat} {vs : Array Value} {t : TypeId} (h : Blk W B vs t) (o n : Nat) (hn : o + n ≤ vs.size) : W.there B o n := fun j hj => by
  refine ⟨?_, h.frozen _⟩
  rw [h.cell, Array.getElem?_eq_getElem (by omega)]
  rfl
theorem Blk.rangeAt {W : World} {B : Nat} {vs : Array Value} {t : TypeId} (h : Blk W B vs t) (o : Nat) (us : List Value) (hu : ∀ j v, us[j]? = some v → vs[o + j]? = some v) : W.rangeAt B o us := fun j v hv => by
  rw [h.cell]; exact hu j v hv
theorem KpA.setCells {A : Nat → Prop} {a b : World} (h : KpA A a b) {g : Nat} (hg : A g ∨ a.heap.size ≤ g) (o : Nat) (us : List Value) : KpA A a (b.setCells g o us) := by
  obtain ⟨h1, h2, h3, h4⟩ := setCells_rest g us o b
  exact ⟨h1.trans h.os, h2.trans h.tape, h3.trans h.output, by rw [h4]; exact h.size, fun i hi hA => (setCells_heap g us o b i (by rintro rfl; exact hg.elim hA (fun h1 => by omega))).trans (h.block i hi hA)⟩
theorem below_cells {n B : Nat} {W W' : World} (hb : Below n W W') (hB : n ≤ B) (o : Nat) (us : List Value) : Below n W (W'.setCells B o us) := by
  obtain ⟨h1, h2, h3, h4⟩ := setCells_rest B us o W'
  exact ⟨h1.trans hb.os, h2.trans hb.tape, h3.trans hb.output, by rw [h4]; exact hb.size, fun i hi => (setCells_heap B us o W' i (by omega)).trans (hb.block i hi)⟩

section
variable {P : Program} {ops : Array Oper} {S : World → Prop}
/-- A row in the middle of a block is read. -/
theorem StepsIf.load_mid {op : Oper} {a : Act} (hw : Region.wanted op (yielded ops a.tmps) = true) (ty : TypeId) (x : Operand) (ho : op.op = .load ty x)
    (b o : Nat) (hx : a.eval x = .pointer (some ⟨b, o, none⟩)) (cs : List Value) (v : Value) (hv : v = .agg cs.toArray) (d : TypeDesc) (hS : ∀ w, S w → w.rangeAt b o cs)
    (hu : P.underlying ty = some d) (hd : d.isRow = true) (hi : (P.info? ty).map (·.size) = some cs.length) : StepsIf P ops S op v a :=
  StepsIf.yield hw fun w hw' => by
    subst hv
    unfold execOp
    simp only [ho, hx, Instr.loadAt, Instr.sureAddr, Sem.run_bind, Sem.run_pure, Result.andThen_ok, run_loadVar_mid w b o ty cs d (hS w hw') hu hd hi]
end
end Go.Proofs.Ytooolhekihijlaa

/- A slice of nodes among the arguments, opened. -/
namespace Go.Proofs.Ytooolhekihijlaa
open Go.ChangeShapes Go.WideShapes Go.ChangeAt Go.RowKit Go.Deep BS

section
variable {H : Type} {enc : TypeId × Value → H} {P : Program}

theorem set_cells4 {w : World} {base fuel : Nat} {spare : Nat → Bool} {held : Bool} {t e : TypeId} {x : DataW H × List MemPlace} (ht : P.underlying t = some (.array 4 e)) (he : P.underlying e = some (.int .u64)) (hce : P.cellsOf e = 1)
    {a b c d' : Value} (hf : DataW.trod enc P w base spare held fuel t [a, b, c, d'] = some x) : ∃ s : BitVec 256, a = .int .u64 (wd s 0) ∧ b = .int .u64 (wd s 1) ∧ c = .int .u64 (wd s 2) ∧ d' = .int .u64 (wd s 3) := by
  obtain ⟨xs, m, _, _, _, hl, hk⟩ := DataW.trod_array ht hf
  have key : ∀ i (u : Value), i < 4 → #[a, b, c, d'][i]? = some u → ∃ n : Int, u = .int .u64 n ∧ 0 ≤ n ∧ n < 18446744073709551616 := by
    intro i u hi hu
    have h1 := hk i hi
    rw [hce, Nat.mul_one] at h1
    have hx : i < xs.length := by omega
    rw [List.getElem?_eq_getElem hx] at h1
    obtain ⟨n, hn, _, hw⟩ := DataW.trod_int he h1
    refine ⟨n, ?_, ?_⟩
    · have := congrArg (fun l => l[0]?) hn
      simp only [List.getElem?_take, List.getElem?_drop] at this
      simp at this hu
      rw [hu] at this
      simpa using this
    · have : (Lit.int .u64 n).wf = true := hw
      have h2 : 0 ≤ n ∧ n ≤ 18446744073709551615 := by simpa [Lit.wf, IntKind.min, IntKind.max, IntKind.signed, IntKind.bits] using this
      exact ⟨h2.1, by omega⟩
  obtain ⟨na, rfl, ha0, ha1⟩ := key 0 a (by decide) rfl
  obtain ⟨nb, rfl, hb0, hb1⟩ := key 1 b (by decide) rfl
  obtain ⟨nc, rfl, hc0, hc1⟩ := key 2 c (by decide) rfl
  obtain ⟨nd, rfl, hd0, hd1⟩ := key 3 d' (by decide) rfl
  obtain ⟨s, h0, h1, h2, h3⟩ := of_words na nb nc nd ⟨ha0, ha1⟩ ⟨hb0, hb1⟩ ⟨hc0, hc1⟩ ⟨hd0, hd1⟩
  exact ⟨s, by rw [h0], by rw [h1], by rw [h2], by rw [h3]⟩
theorem list8 {α : Type} {cs : List α} (h : cs.length = 8) : ∃ c0 c1 c2 c3 c4 c5 c6 c7, cs = [c0, c1, c2, c3, c4, c5, c6, c7] := by
  match cs, h with
  | [c0, c1, c2, c3, c4, c5, c6, c7], _ => exact ⟨c0, c1, c2, c3, c4, c5, c6, c7, rfl⟩
/-- A struct of four numbers and a set. -/
theorem node_cells {w : World} {base fuel : Nat} {spare : Nat → Bool} {held : Bool} {t it st e : TypeId} {f0 f1 f2 f3 f4 : Field} {cs : List Value} {x : DataW H × List MemPlace}
    (hs : P.underlying t = some (.struct #[f0, f1, f2, f3, f4])) (hlc : cs.length = 8)
    (ho : f0.offset = 0 ∧ f1.offset = 1 ∧ f2.offset = 2 ∧ f3.offset = 3 ∧ f4.offset = 4)
    (hty : f0.type = it ∧ f1.type = it ∧ f2.type = it ∧ f3.type = it ∧ f4.type = st)
    (hi : P.underlying it = some (.int .i64)) (hci : P.cellsOf it = 1) (hst : P.underlying st = some (.array 4 e)) (he : P.underlying e = some (.int .u64)) (hce : P.cellsOf e = 1) (hcs : P.cellsOf st = 4)
    (hf : DataW.trod enc P w base spare held fuel t cs = some x) : ∃ y : NdN, cs = (ndA y).toList := by
  obtain ⟨c0, c1, c2, c3, c4, c5, c6, c7, rfl⟩ := list8 hlc
  obtain ⟨xs, n, _, _, _, hlen, hk⟩ := DataW.trod_struct hs hf
  obtain ⟨o0, o1, o2, o3, o4⟩ := ho
  obtain ⟨t0, t1, t2, t3, t4⟩ := hty
  have e0 := hk 0 f0 rfl
  have e1 := hk 1 f1 rfl
  have e2 := hk 2 f2 rfl
  have e3 := hk 3 f3 rfl
  have e4 := hk 4 f4 rfl
  have hl5 : xs.length = 5 := hlen
  rw [List.getElem?_eq_getElem (by omega), o0, t0, hci] at e0
  rw [List.getElem?_eq_getElem (by omega), o1, t1, hci] at e1
  rw [List.getElem?_eq_getElem (by omega), o2, t2, hci] at e2
  rw [List.getElem?_eq_getElem (by omega), o3, t3, hci] at e3
  rw [List.getElem?_eq_getElem (by omega), o4, t4, hcs] at e4
  obtain ⟨n0, h0, _⟩ := DataW.trod_int hi e0
  obtain ⟨n1, h1, _⟩ := DataW.trod_int hi e1
  obtain ⟨n2, h2, _⟩ := DataW.trod_int hi e2
  obtain ⟨n3, h3, _⟩ := DataW.trod_int hi e3
  have e4' : DataW.trod enc P w base spare held n st [c4, c5, c6, c7] = some xs[4] := e4
  obtain ⟨s, g0, g1, g2, g3⟩ := set_cells4 hst he hce e4'
  have k0 : [c0] = [Value.int .i64 n0] := h0
  have k1 : [c1] = [Value.int .i64 n1] := h1
  have k2 : [c2] = [Value.int .i64 n2] := h2
  have k3 : [c3] = [Value.int .i64 n3] := h3
  simp only [List.cons.injEq, and_true] at k0 k1 k2 k3
  subst k0 k1 k2 k3 g0 g1 g2 g3
  exact ⟨⟨n0, n1, n2, n3, s⟩, rfl⟩
/-- A slice of nodes. -/
theorem open_nodes {w : World} {r : Reach} {base b0 : Nat} {spare : Nat → Bool} {held : Bool} {ts t it st e : TypeId} {f0 f1 f2 f3 f4 : Field} {v : Value} {d : DataW H} {p : List MemPlace}
    (hts : P.underlying ts = some (.slice t)) (hs : P.underlying t = some (.struct #[f0, f1, f2, f3, f4])) (hC : P.cellsOf t = 8)
    (ho : f0.offset = 0 ∧ f1.offset = 1 ∧ f2.offset = 2 ∧ f3.offset = 3 ∧ f4.offset = 4)
    (hty : f0.type = it ∧ f1.type = it ∧ f2.type = it ∧ f3.type = it ∧ f4.type = st)
    (hi : P.underlying it = some (.int .i64)) (hci : P.cellsOf it = 1) (hst : P.underlying st = some (.array 4 e)) (he : P.underlying e = some (.int .u64)) (hce : P.cellsOf e = 1) (hcs : P.cellsOf st = 4)
    (hv : Value.okWide P w r b0 ts v) (h : DataW.Trod enc P w base spare held ts v d p) :
    ∃ (l : List NdN) (a : Option Addr) (cap : Nat), v = .slice a l.length cap ∧ l.length ≤ maxLen ∧ NodesAt l a w := by
  obtain ⟨av, lv, cv, rfl⟩ := okWide_slice hts hv
  obtain ⟨fuel, hf⟩ := h
  rcases open_slice hts hf with ⟨h1, _⟩ | ⟨a, len, cap, m, n, D, Pl, h1, _, hlc, hcm, hm, _, hk⟩
  · have h2 : Value.slice av lv cv = .slice none 0 0 := by simpa [Value.cells] using h1
    cases h2
    exact ⟨[], none, 0, rfl, Nat.zero_le _, fun h => absurd rfl h⟩
  · have h2 : Value.slice av lv cv = .slice (some a) len cap := by simpa [Value.cells] using h1
    cases h2
    have hlm : lv ≤ m := by rw [hm]; split <;> omega
    have hex : ∀ i, ∃ y : NdN, i < lv → ∀ j, j < 8 → w.cell? (a.add (i * 8 + j)) = (ndA y)[j]? := fun i => by
      by_cases hil : i < lv
      · obtain ⟨cs', hc, ht⟩ := hk i (by omega)
        rw [hC] at hc
        obtain ⟨_, hl8, hcell⟩ := World.cells?_some hc
        obtain ⟨y, rfl⟩ := node_cells hs hl8 ho hty hi hci hst he hce hcs ht
        refine ⟨y, fun _ j hj => ?_⟩
        have h3 := hcell j hj
        rw [Addr.add_add] at h3
        rw [h3]
        simp
      · exact ⟨⟨0, 0, 0, 0, 0⟩, fun h => absurd h hil⟩
    refine ⟨(List.range lv).map fun i => (hex i).choose, some a, cv, by simp, by simp; omega, fun hne => ?_⟩
    have h0 : 0 < lv := by
      cases lv with
      | zero => exact absurd rfl hne
      | succ n => omega
    obtain ⟨b, off, spot⟩ := a
    have hc0 := (hex 0).choose_spec h0 0 (by decide)
    have hspot : spot = none := by
      have h4 : w.cell? (({ block := b, off := off, spot := spot } : Addr).add 0) = some (.int .i64 (hex 0).choose.kind) := hc0
      simpa [Addr.add] using World.cell?_spot h4
    subst hspot
    have hadd : ∀ n, ({ block := b, off := off, spot := none } : Addr).add n = ⟨b, off + n, none⟩ := fun n => by
      unfold Addr.add
      by_cases hn : n = 0
      · subst hn; rfl
      · rw [if_neg hn]
    refine ⟨b, off, rfl, ?_, fun i hil j hj => ?_⟩
    · have h4 : w.cell? (({ block := b, off := off, spot := none } : Addr).add 0) = some (.int .i64 (hex 0).choose.kind) := hc0
      exact World.block_lt_of_cell? w _ h4
    · rw [List.length_map, List.length_range] at hil
      have h5 := (hex i).choose_spec hil j hj
      rw [hadd] at h5
      rw [show off + i * 8 + j = off + (i * 8 + j) by omega, h5]
      simp
end
end Go.Proofs.Ytooolhekihijlaa

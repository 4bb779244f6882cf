/- What groups span: the document's Spans. Stage 14. -/
import Derived.Test.YtooolhekihijlaaQR
import Derived.Test.YtooolhekihijlaaQP
import Derived.Test.YtooolhekihijlaaQD
import Derived.BigQuiet
import Derived.Deep.QuietTactic
namespace Go.Proofs.Ytooolhekihijlaa
open Go.RowKit BS

@[reducible] def spC (f e : Int) : Array Value := #[.int .i64 f, .int .i64 e]
theorem infoSp : (Try.prog.info? 42).map (fun i => (i.zero, i.size, i.bytes)) = some (some (.agg (spC 0 0)), 2, 16) := by kernel_rfl
def spZ (n : Nat) : Array Value := madeCells (spC 0 0) (n * 2)
theorem spZ_get (n k : Nat) (h : k < n) : (spZ n)[k * 2]? = some (.int .i64 0) ∧ (spZ n)[k * 2 + 1]? = some (.int .i64 0) := by
  unfold spZ madeCells
  rw [Array.getElem?_map, Array.getElem?_range, if_pos (by omega), Array.getElem?_map, Array.getElem?_range, if_pos (by omega)]
  have e1 : (k * 2) % 2 = 0 := by omega
  have e2 : (k * 2 + 1) % 2 = 1 := by omega
  constructor
  · show some ((spC 0 0)[(k * 2) % 2]!) = _
    rw [e1]; rfl
  · show some ((spC 0 0)[(k * 2 + 1) % 2]!) = _
    rw [e2]; rfl
theorem makeSp (n : Nat) (hn : n ≤ 1000) (W : World) : (Instr.makeSlice 39 (.int .i64 (n : Int)) (.int .i64 (n : Int))).run Try.prog W = .ok (.slice (some ⟨W.heap.size, 0, none⟩) n n) (W.alloc (.cells (spZ n) 42)) := by
  obtain ⟨i, hi, hzz⟩ := Option.map_eq_some_iff.1 infoSp
  simp only [Prod.mk.injEq] at hzz
  obtain ⟨hz, hs, hb⟩ := hzz
  have := run_make (P := Try.prog) W 39 42 i _ Try.underlying39 hi hz .i64 .i64 n n (by omega) (by omega) (by rw [hb]; omega) (by omega)
  rw [hs, Int.toNat_natCast] at this
  exact this
/-- A slice of spans. -/
def SpnAt (o : List (Int × Int)) (a : Option Addr) (W : World) : Prop :=
  o ≠ [] → ∃ g off, a = some ⟨g, off, none⟩ ∧ g < W.heap.size ∧ ∀ i (h : i < o.length), W.cell? ⟨g, off + i * 2, none⟩ = some (.int .i64 o[i].1) ∧ W.cell? ⟨g, off + i * 2 + 1, none⟩ = some (.int .i64 o[i].2)
theorem SpnAt.below {o : List (Int × Int)} {a : Option Addr} {W W' : World} (h : SpnAt o a W) (hb : Below W.heap.size W W') : SpnAt o a W' := fun hne => by
  obtain ⟨g, off, e, hg, hc⟩ := h hne
  exact ⟨g, off, e, Nat.lt_of_lt_of_le hg hb.size, fun i hi => ⟨(hb.cell (p := ⟨g, off + i * 2, none⟩) hg).trans (hc i hi).1, (hb.cell (p := ⟨g, off + i * 2 + 1, none⟩) hg).trans (hc i hi).2⟩⟩
/-- A whole block of spans. -/
def SpsAt (o : List (Int × Int)) (R : Nat) (W : World) : Prop :=
  ∃ vs : Array Value, vs.size = o.length * 2 ∧ (∀ x (h : x < o.length), vs[x * 2]? = some (.int .i64 o[x].1) ∧ vs[x * 2 + 1]? = some (.int .i64 o[x].2)) ∧ Blk W R vs 42
variable {o : List (Int × Int)} {R : Nat} {W W' : World}
theorem SpsAt.lt (h : SpsAt o R W) : R < W.heap.size := by
  obtain ⟨_, _, _, h3⟩ := h
  exact h3.lt
theorem SpsAt.below (h : SpsAt o R W) (hb : Below W.heap.size W W') : SpsAt o R W' := by
  obtain ⟨vs, h1, h2, h3⟩ := h
  exact ⟨vs, h1, h2, h3.below hb h3.lt⟩
theorem SpsAt.drew (h : SpsAt o R W) : SpsAt o R W.drew := h
theorem SpsAt.cell (h : SpsAt o R W) (x : Nat) (hx : x < o.length) : W.cell? ⟨R, x * 2, none⟩ = some (.int .i64 o[x].1) ∧ W.cell? ⟨R, x * 2 + 1, none⟩ = some (.int .i64 o[x].2) := by
  obtain ⟨vs, _, h2, h3⟩ := h
  exact ⟨(h3.cell _).trans (h2 x hx).1, (h3.cell _).trans (h2 x hx).2⟩
theorem SpsAt.fr (h : SpsAt o R W) (x : Nat) : W.frozen? ⟨R, x, none⟩ = false := by
  obtain ⟨_, _, _, h3⟩ := h
  exact h3.frozen x
theorem SpsAt.set (h : SpsAt o R W) (i : Nat) (_hi : i < o.length) (f e : Int) : SpsAt (o.set i (f, e)) R ((W.setCell ⟨R, i * 2, none⟩ (.int .i64 f)).setCell ⟨R, i * 2 + 1, none⟩ (.int .i64 e)) := by
  obtain ⟨vs, h1, h2, h3⟩ := h
  refine ⟨(vs.setIfInBounds (i * 2) (.int .i64 f)).setIfInBounds (i * 2 + 1) (.int .i64 e), by simp [h1], fun x hx => ?_, (h3.set _ _).set _ _⟩
  rw [List.length_set] at hx
  by_cases hxi : i = x
  · subst hxi
    rw [List.getElem_set_self]
    constructor
    · rw [Array.getElem?_setIfInBounds_ne (by omega), Array.getElem?_setIfInBounds_self_of_lt (by omega)]
    · rw [Array.getElem?_setIfInBounds_self_of_lt (by rw [Array.size_setIfInBounds]; omega)]
  · rw [List.getElem_set_ne hxi]
    constructor
    · rw [Array.getElem?_setIfInBounds_ne (by omega), Array.getElem?_setIfInBounds_ne (by omega)]; exact (h2 x hx).1
    · rw [Array.getElem?_setIfInBounds_ne (by omega), Array.getElem?_setIfInBounds_ne (by omega)]; exact (h2 x hx).2
theorem SpsAt.new (n : Nat) (W : World) : SpsAt (List.replicate n (0, 0)) W.heap.size (W.alloc (.cells (spZ n) 42)) :=
  ⟨spZ n, by rw [List.length_replicate]; exact size_madeCells _ _, fun x hx => by rw [List.length_replicate] at hx; simp only [List.getElem_replicate]; exact spZ_get n x hx, Blk.new W _ _⟩
theorem SpsAt.at (h : SpsAt o R W) : SpnAt o (some ⟨R, 0, none⟩) W := fun _ => ⟨R, 0, rfl, h.lt, fun i hi => by
  simp only [Nat.zero_add]
  exact h.cell i hi⟩
theorem off_len (gs : List Nat) : ∀ o : List (Int × Int), (offS o gs).length = o.length := by
  induction gs with
  | nil => exact fun _ => rfl
  | cons n gs ih => exact fun o => (ih _).trans (List.length_set ..)
theorem spanS_len (l : List NdN) (o : List (Int × Int)) (x : EnN) : (spanS l o x).length = o.length := by
  unfold spanS
  repeat' split
  · exact List.length_set ..
  · exact off_len _ o
  · rfl
  · rfl
theorem spanR_len (l : List NdN) : ∀ (M : List EnN) (o : List (Int × Int)), (M.foldl (spanS l) o).length = o.length
  | [], _ => rfl
  | x :: M, o => (spanR_len l M _).trans (spanS_len l o x)
theorem off_snoc (o : List (Int × Int)) (gs : List Nat) (g : Nat) : offS o (gs ++ [g]) = (offS o gs).set g (-1, -1) := by unfold offS; rw [List.foldl_append]; rfl
theorem all_minus {o : List (Int × Int)} {T : Nat} (hl : o.length = T + 1) (h : ∀ x, x < T + 1 → o[x]? = some (-1, -1)) : o = (-1, -1) :: List.replicate T (-1, -1) := by
  refine List.ext_getElem? fun x => ?_
  by_cases hx : x < T + 1
  · rw [h x hx, ← List.replicate_succ, List.getElem?_replicate, if_pos hx]
  · rw [List.getElem?_eq_none (by omega), List.getElem?_eq_none (by simp; omega)]
theorem ints_set {L : List Int} {b : Option Addr} (h : IntsB (R + 1) L b W) (i : Nat) (v : Value) : IntsB (R + 1) L b (W.setCell ⟨R, i, none⟩ v) := fun hne => by
  obtain ⟨g, o, e, hb, hg, hc⟩ := h hne
  refine ⟨g, o, e, hb, by simpa using hg, fun j hj => ?_⟩
  refine Eq.trans ?_ (hc j hj)
  unfold World.cell?
  simp only
  rw [Below.heap_setCell W ⟨R, i, none⟩ v g (by show g ≠ R; omega)]
theorem groups_len (l : List NdN) (q : Int) : (groupsT l q).length ≤ 9 := by
  unfold groupsT
  split
  · exact Nat.le_trans (List.length_filter_le _ _) (by simp)
  · exact Nat.zero_le _
theorem wp_absK {P : Program} {o : Oper} {a : Act} {w : World} {K : Act → World → Prop} {Q : Exit → Act → World → Prop} (h : ∀ K' : Act → World → Prop, (∀ a' w', K a' w' → K' a' w') → o.wp P a w K' Q) : o.wp P a w K Q := h K (fun _ _ h => h)
end Go.Proofs.Ytooolhekihijlaa

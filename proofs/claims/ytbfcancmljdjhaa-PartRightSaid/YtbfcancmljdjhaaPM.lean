/- Texts put together: Zw. -/
import Derived.Test.YtbfcancmljdjhaaPD
import Derived.Test.YtbfcancmljdjhaaPE
import Derived.Test.YtbfcancmljdjhaaPB
import Derived.Deep.Slices
/- Slices of sets, slices of numbers, and two bytes among the arguments, opened. -/
namespace Go.Proofs.Ytbfcancmljdjhaa
open Go.ChangeShapes Go.WideShapes Go.ChangeAt Go.RowKit Go.Deep BS

section
variable {H : Type} {enc : TypeId × Value → H} {P : Program}

/-- A slice of sets. -/
theorem open_sets {w : World} {r : Reach} {base b0 : Nat} {spare : Nat → Bool} {held : Bool} {ts t e : TypeId} {v : Value} {d : DataW H} {p : List MemPlace}
    (hts : P.underlying ts = some (.slice t)) (ht : P.underlying t = some (.array 4 e)) (he : P.underlying e = some (.int .u64)) (hce : P.cellsOf e = 1) (hC : P.cellsOf t = 4)
    (hv : Value.okWide P w r b0 ts v) (h : DataW.Trod enc P w base spare held ts v d p) :
    ∃ (l : List (BitVec 256)) (a : Option Addr) (cap : Nat), v = .slice a l.length cap ∧ l.length ≤ maxLen ∧ l.length ≤ cap ∧ (a = none → cap = 0 ∧ l = []) ∧ SetsAt l a w := by
  obtain ⟨av, lv, cv, rfl⟩ := okWide_slice hts hv
  obtain ⟨fuel, hf⟩ := h
  rcases open_slice hts hf with ⟨h1, _⟩ | ⟨a, len, cap, m, n, D, Pl, h1, _, hlc, hcm, hm, _, hk⟩
  · have h2 : Value.slice av lv cv = .slice none 0 0 := by simpa [Value.cells] using h1
    cases h2
    exact ⟨[], none, 0, rfl, Nat.zero_le _, Nat.le_refl _, fun _ => ⟨rfl, rfl⟩, fun h => absurd rfl h⟩
  · have h2 : Value.slice av lv cv = .slice (some a) len cap := by simpa [Value.cells] using h1
    cases h2
    have hlm : lv ≤ m := by rw [hm]; split <;> omega
    have hex : ∀ i, ∃ y : BitVec 256, i < lv → ∀ j, j < 4 → w.cell? (a.add (i * 4 + j)) = (setA y)[j]? := fun i => by
      by_cases hil : i < lv
      · obtain ⟨cs', hc, hts'⟩ := hk i (by omega)
        rw [hC] at hc
        obtain ⟨_, hl4, hcell⟩ := World.cells?_some hc
        obtain ⟨c0, c1, c2, c3, rfl⟩ : ∃ c0 c1 c2 c3, cs' = [c0, c1, c2, c3] := by
          match cs', hl4 with
          | [c0, c1, c2, c3], _ => exact ⟨c0, c1, c2, c3, rfl⟩
        obtain ⟨y, h0, h1, h2, h3⟩ := set_cells4 ht he hce hts'
        refine ⟨y, fun _ j hj => ?_⟩
        have h3' := hcell j hj
        rw [Addr.add_add] at h3'
        rw [h3', h0, h1, h2, h3]
        obtain rfl | rfl | rfl | rfl : j = 0 ∨ j = 1 ∨ j = 2 ∨ j = 3 := by omega
        all_goals rfl
      · exact ⟨0, fun h => absurd h hil⟩
    refine ⟨(List.range lv).map fun i => (hex i).choose, some a, cv, by simp, by simp; omega, by simp; omega, (fun h => by cases h), fun hne => ?_⟩
    have h0 : 0 < lv := by
      cases lv with
      | zero => exact absurd rfl hne
      | succ n => omega
    obtain ⟨b, off, spot⟩ := a
    have hc0 := (hex 0).choose_spec h0 0 (by decide)
    have h4 : w.cell? (({ block := b, off := off, spot := spot } : Addr).add 0) = some (.int .u64 (wd (hex 0).choose 0)) := hc0
    have hspot : spot = none := by simpa [Addr.add] using World.cell?_spot h4
    subst hspot
    have hadd : ∀ n, ({ block := b, off := off, spot := none } : Addr).add n = ⟨b, off + n, none⟩ := fun n => by
      unfold Addr.add
      by_cases hn : n = 0
      · subst hn; rfl
      · rw [if_neg hn]
    refine ⟨b, off, rfl, World.block_lt_of_cell? w _ h4, fun i hil j hj => ?_⟩
    rw [List.length_map, List.length_range] at hil
    have h5 := (hex i).choose_spec hil j hj
    rw [hadd] at h5
    rw [show off + i * 4 + j = off + (i * 4 + j) by omega, h5]
    simp
/-- A slice of whole numbers. -/
theorem open_numbers {w : World} {r : Reach} {base b0 : Nat} {spare : Nat → Bool} {held : Bool} {ts t : TypeId} {v : Value} {d : DataW H} {p : List MemPlace}
    (hts : P.underlying ts = some (.slice t)) (ht : P.underlying t = some (.int .i64)) (hC : P.cellsOf t = 1)
    (hv : Value.okWide P w r b0 ts v) (h : DataW.Trod enc P w base spare held ts v d p) :
    ∃ (l : List Int) (a : Option Addr) (cap : Nat), v = .slice a l.length cap ∧ l.length ≤ maxLen ∧ IntsO l a w := by
  obtain ⟨av, lv, cv, rfl⟩ := okWide_slice hts hv
  obtain ⟨fuel, hf⟩ := h
  rcases open_slice1 hts hC hf with ⟨h1, _⟩ | ⟨a, len, cap, m, n, V, D, Pl, h1, _, hlc, hcm, hm, _, hk⟩
  · have h2 : Value.slice av lv cv = .slice none 0 0 := by simpa [Value.cells] using h1
    cases h2
    exact ⟨[], none, 0, rfl, Nat.zero_le _, fun h => absurd rfl h⟩
  · have h2 : Value.slice av lv cv = .slice (some a) len cap := by simpa [Value.cells] using h1
    cases h2
    have hlm : lv ≤ m := by rw [hm]; split <;> omega
    have hex : ∀ i, ∃ y : Int, i < lv → w.cell? (a.add i) = some (.int .i64 y) := fun i => by
      by_cases hil : i < lv
      · obtain ⟨hc, htr⟩ := hk i (by omega)
        obtain ⟨y, hy, _⟩ := DataW.trod_int ht htr
        have hy' : [V i] = [Value.int .i64 y] := hy
        simp only [List.cons.injEq, and_true] at hy'
        exact ⟨y, fun _ => by rw [hc, hy']⟩
      · exact ⟨0, fun h => absurd h hil⟩
    refine ⟨(List.range lv).map fun i => (hex i).choose, some a, cv, by simp, by simp; omega, fun hne => ?_⟩
    have h0 : 0 < lv := by
      cases lv with
      | zero => exact absurd rfl hne
      | succ n => omega
    obtain ⟨b, off, spot⟩ := a
    have h4 := (hex 0).choose_spec h0
    have hspot : spot = none := by simpa [Addr.add] using World.cell?_spot h4
    subst hspot
    have hadd : ∀ n, ({ block := b, off := off, spot := none } : Addr).add n = ⟨b, off + n, none⟩ := fun n => by
      unfold Addr.add
      by_cases hn : n = 0
      · subst hn; rfl
      · rw [if_neg hn]
    refine ⟨b, off, rfl, World.block_lt_of_cell? w _ h4, fun i hil => ?_⟩
    rw [List.length_map, List.length_range] at hil
    refine (congrArg w.cell? (hadd i).symm).trans (((hex i).choose_spec hil).trans ?_)
    simp
/-- Two bytes. -/
theorem open_two {w : World} {r : Reach} {base b0 : Nat} {spare : Nat → Bool} {held : Bool} {t e : TypeId} {v : Value} {d : DataW H} {p : List MemPlace} (ht : P.underlying t = some (.array 2 e)) (he : P.underlying e = some (.int .u8)) (hce : P.cellsOf e = 1) (hct : P.cellsOf t = 2)
    (hv : Value.okWide P w r b0 t v) (h : DataW.Trod enc P w base spare held t v d p) : ∃ x y : Nat, x < 256 ∧ y < 256 ∧ v = .agg #[.int .u8 (x : Int), .int .u8 (y : Int)] := by
  obtain ⟨cs, rfl, hsz⟩ := okWide_array ht hv
  obtain ⟨fuel, hf⟩ := h
  obtain ⟨xs, m, _, _, _, hl, hk⟩ := DataW.trod_array ht hf
  rw [hct] at hsz
  obtain ⟨a, b, rfl⟩ : ∃ a b, cs = #[a, b] := by
    obtain ⟨l⟩ := cs
    match l, hsz with
    | [a, b], _ => exact ⟨a, b, rfl⟩
  have key : ∀ i (u : Value), i < 2 → #[a, b][i]? = some u → ∃ n : Nat, n < 256 ∧ u = .int .u8 (n : Int) := by
    intro i u hi hu
    have h1 := hk i hi
    rw [hce, Nat.mul_one] at h1
    have hx : i < xs.length := by omega
    rw [List.getElem?_eq_getElem hx] at h1
    obtain ⟨n, hn, _, hw⟩ := DataW.trod_int he h1
    have : (Lit.int .u8 n).wf = true := hw
    have h2 : 0 ≤ n ∧ n ≤ 255 := by simpa [Lit.wf, IntKind.min, IntKind.max, IntKind.signed, IntKind.bits] using this
    refine ⟨n.toNat, by omega, ?_⟩
    have h3 := congrArg (fun l => l[0]?) hn
    simp only [Value.cells, List.getElem?_take, List.getElem?_drop] at h3
    simp at h3 hu
    rw [hu] at h3
    have h4 : u = Value.int .u8 n := by simpa using h3
    rw [h4]
    congr 1
    omega
  obtain ⟨x, hx, rfl⟩ := key 0 a (by decide) rfl
  obtain ⟨y, hy, rfl⟩ := key 1 b (by decide) rfl
  exact ⟨x, y, hx, hy, rfl⟩
end
end Go.Proofs.Ytbfcancmljdjhaa

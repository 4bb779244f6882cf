/- Texts put together: Twx. -/
import Derived.Test.YtdpkhliojbeglaaDoorQY
import Derived.ChangeSame
/- A span as an argument; a slice's length and its capacity. Stage 15. -/
namespace Go.Proofs.YtdpkhliojbeglaaDoor
open Go.ChangeShapes Go.WideShapes Go.ChangeAt Go.RowKit Go.Deep
section
variable {H : Type} {enc : TypeId × Value → H} {P : Program}
theorem open_span {w : World} {r : Reach} {base b0 : Nat} {spare : Nat → Bool} {held : Bool} {t it : TypeId} {f0 f1 : Field} {v : Value} {d : DataW H} {p : List MemPlace}
    (hs : P.underlying t = some (.struct #[f0, f1])) (ho : f0.offset = 0 ∧ f1.offset = 1) (hty : f0.type = it ∧ f1.type = it)
    (hi : P.underlying it = some (.int .i64)) (hci : P.cellsOf it = 1) (hct : P.cellsOf t = 2)
    (hv : Value.okWide P w r b0 t v) (h : DataW.Trod enc P w base spare held t v d p) : ∃ x y : Int, v = .agg #[.int .i64 x, .int .i64 y] := by
  obtain ⟨cs, rfl, hsz⟩ := okWide_struct hs hv
  obtain ⟨fuel, hf⟩ := h
  rw [hct] at hsz
  obtain ⟨a, b, rfl⟩ : ∃ a b, cs = #[a, b] := by
    obtain ⟨l⟩ := cs
    match l, hsz with
    | [a, b], _ => exact ⟨a, b, rfl⟩
  obtain ⟨xs, n, _, _, _, hlen, hk⟩ := DataW.trod_struct hs hf
  obtain ⟨o0, o1⟩ := ho
  obtain ⟨t0, t1⟩ := hty
  have e0 := hk 0 f0 rfl
  have e1 := hk 1 f1 rfl
  have hl3 : xs.length = 2 := hlen
  rw [List.getElem?_eq_getElem (by omega), o0, t0, hci] at e0
  rw [List.getElem?_eq_getElem (by omega), o1, t1, hci] at e1
  obtain ⟨x, hx, _⟩ := DataW.trod_int hi e0
  obtain ⟨y, hy, _⟩ := DataW.trod_int hi e1
  have hx' : [a] = [Value.int .i64 x] := hx
  have hy' : [b] = [Value.int .i64 y] := hy
  cases hx'; cases hy'
  exact ⟨x, y, rfl⟩
theorem slice_cap {w : World} {base : Nat} {spare : Nat → Bool} {held : Bool} {ts t : TypeId} {a : Option Addr} {n c : Nat} {d : DataW H} {p : List MemPlace}
    (hts : P.underlying ts = some (.slice t)) (hC : P.cellsOf t = 1) (h : DataW.Trod enc P w base spare held ts (.slice a n c) d p) : n ≤ c := by
  obtain ⟨fuel, hf⟩ := h
  rcases open_slice1 hts hC hf with ⟨h1, _⟩ | ⟨a', len, cap, m, n', V, D, Pl, h1, _, hlc, _⟩
  · have h2 : Value.slice a n c = .slice none 0 0 := by simpa [Value.cells] using h1
    cases h2
    exact Nat.le_refl _
  · have h2 : Value.slice a n c = .slice (some a') len cap := by simpa [Value.cells] using h1
    cases h2
    exact hlc
end
end Go.Proofs.YtdpkhliojbeglaaDoor

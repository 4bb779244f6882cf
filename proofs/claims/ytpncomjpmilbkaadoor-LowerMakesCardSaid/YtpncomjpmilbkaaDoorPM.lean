/- Texts put together: Ol. -/
import Derived.Test.YtpncomjpmilbkaaDoorPE
import Derived.ChangeSame
/- A struct of three numbers among a law's arguments: it is opened. -/
namespace Go.Proofs.YtpncomjpmilbkaaDoor
open Go.ChangeShapes Go.WideShapes Go.ChangeAt Go.RowKit BS

section
variable {H : Type} {enc : TypeId × Value → H} {P : Program}
theorem open_three {w : World} {r : Reach} {base b0 : Nat} {spare : Nat → Bool} {held : Bool} {t it : TypeId} {f0 f1 f2 : Field} {v : Value} {d : DataW H} {p : List MemPlace}
    (hs : P.underlying t = some (.struct #[f0, f1, f2])) (ho : f0.offset = 0 ∧ f1.offset = 1 ∧ f2.offset = 2) (hty : f0.type = it ∧ f1.type = it ∧ f2.type = it)
    (hi : P.underlying it = some (.int .i64)) (hci : P.cellsOf it = 1) (hct : P.cellsOf t = 3)
    (hv : Value.okWide P w r b0 t v) (h : DataW.Trod enc P w base spare held t v d p) : ∃ x y z : Int, v = .agg #[.int .i64 x, .int .i64 y, .int .i64 z] := by
  obtain ⟨cs, rfl, hsz⟩ := okWide_struct hs hv
  obtain ⟨fuel, hf⟩ := h
  rw [hct] at hsz
  obtain ⟨a, b, c, rfl⟩ : ∃ a b c, cs = #[a, b, c] := by
    obtain ⟨l⟩ := cs
    match l, hsz with
    | [a, b, c], _ => exact ⟨a, b, c, rfl⟩
  obtain ⟨xs, n, _, _, _, hlen, hk⟩ := DataW.trod_struct hs hf
  obtain ⟨o0, o1, o2⟩ := ho
  obtain ⟨t0, t1, t2⟩ := hty
  have e0 := hk 0 f0 rfl
  have e1 := hk 1 f1 rfl
  have e2 := hk 2 f2 rfl
  have hl3 : xs.length = 3 := hlen
  rw [List.getElem?_eq_getElem (by omega), o0, t0, hci] at e0
  rw [List.getElem?_eq_getElem (by omega), o1, t1, hci] at e1
  rw [List.getElem?_eq_getElem (by omega), o2, t2, hci] at e2
  obtain ⟨x, hx, _⟩ := DataW.trod_int hi e0
  obtain ⟨y, hy, _⟩ := DataW.trod_int hi e1
  obtain ⟨z, hz, _⟩ := DataW.trod_int hi e2
  have hx' : [a] = [Value.int .i64 x] := hx
  have hy' : [b] = [Value.int .i64 y] := hy
  have hz' : [c] = [Value.int .i64 z] := hz
  cases hx'; cases hy'; cases hz'
  exact ⟨x, y, z, rfl⟩
end
end Go.Proofs.YtpncomjpmilbkaaDoor

/- A word, given by value, opened: nine cells. -/
import Derived.Test.YtpaecjjelpjopaaGreatDoorCd
import Derived.Lib.SmallJoins
namespace Go.Proofs.YtpaecjjelpjopaaGreatDoor
open Go.ChangeShapes Go.WideShapes Go.ChangeAt Go.RowKit BS

section
variable {H : Type} {enc : TypeId × Value → H} {P : Program}

theorem set_cells {w : World} {base fuel : Nat} {spare : Nat → Bool} {held : Bool} {t e : TypeId} {x : DataW H × List MemPlace} (ht : P.underlying t = some (.array 4 e)) (he : P.underlying e = some (.int .u64)) (hce : P.cellsOf e = 1)
    {a b c d' : Value} (hf : DataW.trod enc P w base spare held fuel t [a, b, c, d'] = some x) : ∃ s : BitVec 256, a = .int .u64 (wd s 0) ∧ b = .int .u64 (wd s 1) ∧ c = .int .u64 (wd s 2) ∧ d' = .int .u64 (wd s 3) := by
  obtain ⟨xs, m, _, _, _, hl, hk⟩ := DataW.trod_array ht hf
  have key : ∀ i (u : Value), i < 4 → #[a, b, c, d'][i]? = some u → ∃ n : Int, u = .int .u64 n ∧ 0 ≤ n ∧ n < 18446744073709551616 := by
    intro i u hi hu
    have h1 := hk i hi
    rw [hce, Nat.mul_one] at h1
    have hx : i < xs.length := by omega
    rw [List.getElem?_eq_getElem hx] at h1
    obtain ⟨n, hn, _, hw⟩ := DataW.trod_int he h1
    refine ⟨n, ?_, ?_⟩
    · have := congrArg (fun l => l[0]?) hn
      simp only [List.getElem?_take, List.getElem?_drop] at this
      simp at this hu
      rw [hu] at this
      simpa using this
    · have : (Lit.int .u64 n).wf = true := hw
      have h2 : 0 ≤ n ∧ n ≤ 18446744073709551615 := by simpa [Lit.wf, IntKind.min, IntKind.max, IntKind.signed, IntKind.bits] using this
      exact ⟨h2.1, by omega⟩
  obtain ⟨na, rfl, ha0, ha1⟩ := key 0 a (by decide) rfl
  obtain ⟨nb, rfl, hb0, hb1⟩ := key 1 b (by decide) rfl
  obtain ⟨nc, rfl, hc0, hc1⟩ := key 2 c (by decide) rfl
  obtain ⟨nd, rfl, hd0, hd1⟩ := key 3 d' (by decide) rfl
  obtain ⟨s, h0, h1, h2, h3⟩ := of_words na nb nc nd ⟨ha0, ha1⟩ ⟨hb0, hb1⟩ ⟨hc0, hc1⟩ ⟨hd0, hd1⟩
  exact ⟨s, by rw [h0], by rw [h1], by rw [h2], by rw [h3]⟩
theorem array9 {α : Type} {cs : Array α} (h : cs.size = 9) : ∃ c0 c1 c2 c3 c4 c5 c6 c7 c8, cs = #[c0, c1, c2, c3, c4, c5, c6, c7, c8] := by
  obtain ⟨l⟩ := cs
  match l, h with
  | [c0, c1, c2, c3, c4, c5, c6, c7, c8], _ => exact ⟨c0, c1, c2, c3, c4, c5, c6, c7, c8, rfl⟩
/-- A struct of three numbers, a set, and two numbers. -/
theorem open_word {w : World} {r : Reach} {base b0 : Nat} {spare : Nat → Bool} {held : Bool} {t it st e : TypeId} {f0 f1 f2 f3 f4 f5 : Field} {v : Value} {d : DataW H} {p : List MemPlace}
    (hs : P.underlying t = some (.struct #[f0, f1, f2, f3, f4, f5])) (hC : P.cellsOf t = 9)
    (ho : f0.offset = 0 ∧ f1.offset = 1 ∧ f2.offset = 2 ∧ f3.offset = 3 ∧ f4.offset = 7 ∧ f5.offset = 8)
    (hty : f0.type = it ∧ f1.type = it ∧ f2.type = it ∧ f3.type = st ∧ f4.type = it ∧ f5.type = it)
    (hi : P.underlying it = some (.int .i64)) (hci : P.cellsOf it = 1) (hst : P.underlying st = some (.array 4 e)) (he : P.underlying e = some (.int .u64)) (hce : P.cellsOf e = 1) (hcs : P.cellsOf st = 4)
    (hv : Value.okWide P w r b0 t v) (h : DataW.Trod enc P w base spare held t v d p) :
    ∃ (k a f : Int) (s : BitVec 256) (n m : Int), v = .agg #[.int .i64 k, .int .i64 a, .int .i64 f, .int .u64 (wd s 0), .int .u64 (wd s 1), .int .u64 (wd s 2), .int .u64 (wd s 3), .int .i64 n, .int .i64 m] := by
  obtain ⟨cs, rfl, hsz⟩ := okWide_struct hs hv
  obtain ⟨c0, c1, c2, c3, c4, c5, c6, c7, c8, rfl⟩ := array9 (hsz.trans hC)
  obtain ⟨fuel, hf⟩ := h
  obtain ⟨xs, n, _, _, _, hlen, hk⟩ := DataW.trod_struct hs hf
  obtain ⟨o0, o1, o2, o3, o4, o5⟩ := ho
  obtain ⟨t0, t1, t2, t3, t4, t5⟩ := hty
  have e0 := hk 0 f0 rfl
  have e1 := hk 1 f1 rfl
  have e2 := hk 2 f2 rfl
  have e3 := hk 3 f3 rfl
  have e4 := hk 4 f4 rfl
  have e5 := hk 5 f5 rfl
  have hl6 : xs.length = 6 := hlen
  rw [List.getElem?_eq_getElem (by omega), o0, t0, hci] at e0
  rw [List.getElem?_eq_getElem (by omega), o1, t1, hci] at e1
  rw [List.getElem?_eq_getElem (by omega), o2, t2, hci] at e2
  rw [List.getElem?_eq_getElem (by omega), o3, t3, hcs] at e3
  rw [List.getElem?_eq_getElem (by omega), o4, t4, hci] at e4
  rw [List.getElem?_eq_getElem (by omega), o5, t5, hci] at e5
  obtain ⟨n0, h0, _⟩ := DataW.trod_int hi e0
  obtain ⟨n1, h1, _⟩ := DataW.trod_int hi e1
  obtain ⟨n2, h2, _⟩ := DataW.trod_int hi e2
  obtain ⟨n4, h4, _⟩ := DataW.trod_int hi e4
  obtain ⟨n5, h5, _⟩ := DataW.trod_int hi e5
  have e3' : DataW.trod enc P w base spare held n st [c3, c4, c5, c6] = some xs[3] := e3
  obtain ⟨s, g0, g1, g2, g3⟩ := set_cells hst he hce e3'
  have k0 : [c0] = [Value.int .i64 n0] := h0
  have k1 : [c1] = [Value.int .i64 n1] := h1
  have k2 : [c2] = [Value.int .i64 n2] := h2
  have k4 : [c7] = [Value.int .i64 n4] := h4
  have k5 : [c8] = [Value.int .i64 n5] := h5
  simp only [List.cons.injEq, and_true] at k0 k1 k2 k4 k5
  subst k0 k1 k2 k4 k5 g0 g1 g2 g3
  exact ⟨_, _, _, s, _, _, rfl⟩
end
end Go.Proofs.YtpaecjjelpjopaaGreatDoor

/- Texts put together: Tsh. -/
import Derived.Test.YtdpkhliojbeglaaDoorPE
import Derived.Test.YtdpkhliojbeglaaDoorPM
import Derived.Test.YtdpkhliojbeglaaDoorPT
import Derived.Test.YtdpkhliojbeglaaDoorPD
import Derived.Deep.Slices
/- Slices of entries, of bytes, of rows of numbers, and a struct of two of them, among the arguments, opened. -/
namespace Go.Proofs.YtdpkhliojbeglaaDoor
open Go.ChangeShapes Go.WideShapes Go.ChangeAt Go.RowKit Go.Deep BS

section
variable {H : Type} {enc : TypeId × Value → H} {P : Program}

theorem ent_cells {w : World} {base fuel : Nat} {spare : Nat → Bool} {held : Bool} {t it : TypeId} {f0 f1 f2 f3 : Field} {cs : List Value} {x : DataW H × List MemPlace}
    (hs : P.underlying t = some (.struct #[f0, f1, f2, f3])) (hlc : cs.length = 4) (ho : f0.offset = 0 ∧ f1.offset = 1 ∧ f2.offset = 2 ∧ f3.offset = 3)
    (hty : f0.type = it ∧ f1.type = it ∧ f2.type = it ∧ f3.type = it) (hi : P.underlying it = some (.int .i64)) (hci : P.cellsOf it = 1)
    (hf : DataW.trod enc P w base spare held fuel t cs = some x) : ∃ y : EnN, cs = (enA y).toList := by
  obtain ⟨c0, c1, c2, c3, rfl⟩ : ∃ c0 c1 c2 c3, cs = [c0, c1, c2, c3] := by
    match cs, hlc with
    | [c0, c1, c2, c3], _ => exact ⟨c0, c1, c2, c3, rfl⟩
  obtain ⟨xs, n, _, _, _, hlen, hk⟩ := DataW.trod_struct hs hf
  obtain ⟨o0, o1, o2, o3⟩ := ho
  obtain ⟨t0, t1, t2, t3⟩ := hty
  have e0 := hk 0 f0 rfl
  have e1 := hk 1 f1 rfl
  have e2 := hk 2 f2 rfl
  have e3 := hk 3 f3 rfl
  have hl4 : xs.length = 4 := hlen
  rw [List.getElem?_eq_getElem (by omega), o0, t0, hci] at e0
  rw [List.getElem?_eq_getElem (by omega), o1, t1, hci] at e1
  rw [List.getElem?_eq_getElem (by omega), o2, t2, hci] at e2
  rw [List.getElem?_eq_getElem (by omega), o3, t3, hci] at e3
  obtain ⟨n0, h0, _⟩ := DataW.trod_int hi e0
  obtain ⟨n1, h1, _⟩ := DataW.trod_int hi e1
  obtain ⟨n2, h2, _⟩ := DataW.trod_int hi e2
  obtain ⟨n3, h3, _⟩ := DataW.trod_int hi e3
  have k0 : [c0] = [Value.int .i64 n0] := h0
  have k1 : [c1] = [Value.int .i64 n1] := h1
  have k2 : [c2] = [Value.int .i64 n2] := h2
  have k3 : [c3] = [Value.int .i64 n3] := h3
  simp only [List.cons.injEq, and_true] at k0 k1 k2 k3
  subst k0 k1 k2 k3
  exact ⟨⟨n0, n1, n2, n3⟩, rfl⟩
theorem addr_spot {w : World} {a : Addr} {v : Value} (h : w.cell? (a.add 0) = some v) : ∃ b off, a = ⟨b, off, none⟩ ∧ b < w.heap.size ∧ ∀ n, (⟨b, off, none⟩ : Addr).add n = ⟨b, off + n, none⟩ := by
  obtain ⟨b, off, spot⟩ := a
  have hspot : spot = none := by simpa [Addr.add] using World.cell?_spot h
  subst hspot
  refine ⟨b, off, rfl, World.block_lt_of_cell? w _ h, fun n => ?_⟩
  unfold Addr.add
  by_cases hn : n = 0
  · subst hn; rfl
  · rw [if_neg hn]
/-- A slice of entries. -/
theorem open_entsC {w : World} {base fuel : Nat} {spare : Nat → Bool} {held : Bool} {ts t it : TypeId} {f0 f1 f2 f3 : Field} {cs : List Value} {x : DataW H × List MemPlace}
    (hts : P.underlying ts = some (.slice t)) (hs : P.underlying t = some (.struct #[f0, f1, f2, f3])) (hC : P.cellsOf t = 4) (ho : f0.offset = 0 ∧ f1.offset = 1 ∧ f2.offset = 2 ∧ f3.offset = 3)
    (hty : f0.type = it ∧ f1.type = it ∧ f2.type = it ∧ f3.type = it) (hi : P.underlying it = some (.int .i64)) (hci : P.cellsOf it = 1)
    (hf : DataW.trod enc P w base spare held fuel ts cs = some x) :
    ∃ (l : List EnN) (a : Option Addr) (cap : Nat), cs = [.slice a l.length cap] ∧ l.length ≤ maxLen ∧ l.length ≤ cap ∧ EntsAt l a w := by
  rcases open_slice hts hf with ⟨h1, _⟩ | ⟨a, lv, cv, m, n, D, Pl, h1, _, hlc, hcm, hm, _, hk⟩
  · exact ⟨[], none, 0, h1, Nat.zero_le _, Nat.le_refl _, fun h => absurd rfl h⟩
  · have hlm : lv ≤ m := by rw [hm]; split <;> omega
    have hex : ∀ i, ∃ y : EnN, i < lv → ∀ j, j < 4 → w.cell? (a.add (i * 4 + j)) = (enA y)[j]? := fun i => by
      by_cases hil : i < lv
      · obtain ⟨cs', hc, ht⟩ := hk i (by omega)
        rw [hC] at hc
        obtain ⟨_, hl4, hcell⟩ := World.cells?_some hc
        obtain ⟨y, rfl⟩ := ent_cells hs hl4 ho hty hi hci ht
        refine ⟨y, fun _ j hj => ?_⟩
        have h3 := hcell j hj
        rw [Addr.add_add] at h3
        rw [h3]
        simp
      · exact ⟨zEn, fun h => absurd h hil⟩
    refine ⟨(List.range lv).map fun i => (hex i).choose, some a, cv, by simpa using h1, by simp; omega, by simp; omega, fun hne => ?_⟩
    have h0 : 0 < lv := by
      cases lv with
      | zero => exact absurd rfl hne
      | succ n => omega
    have hc0 : w.cell? (a.add 0) = some (.int .i64 (hex 0).choose.depth) := (hex 0).choose_spec h0 0 (by decide)
    obtain ⟨b, off, rfl, hb, hadd⟩ := addr_spot hc0
    refine ⟨b, off, rfl, hb, fun i hil j hj => ?_⟩
    rw [List.length_map, List.length_range] at hil
    have h5 := (hex i).choose_spec hil j hj
    rw [hadd] at h5
    rw [show off + i * 4 + j = off + (i * 4 + j) by omega, h5]
    simp
theorem open_ents {w : World} {r : Reach} {base b0 : Nat} {spare : Nat → Bool} {held : Bool} {ts t it : TypeId} {f0 f1 f2 f3 : Field} {v : Value} {d : DataW H} {p : List MemPlace}
    (hts : P.underlying ts = some (.slice t)) (hs : P.underlying t = some (.struct #[f0, f1, f2, f3])) (hC : P.cellsOf t = 4) (ho : f0.offset = 0 ∧ f1.offset = 1 ∧ f2.offset = 2 ∧ f3.offset = 3)
    (hty : f0.type = it ∧ f1.type = it ∧ f2.type = it ∧ f3.type = it) (hi : P.underlying it = some (.int .i64)) (hci : P.cellsOf it = 1)
    (hv : Value.okWide P w r b0 ts v) (h : DataW.Trod enc P w base spare held ts v d p) :
    ∃ (l : List EnN) (a : Option Addr) (cap : Nat), v = .slice a l.length cap ∧ l.length ≤ maxLen ∧ l.length ≤ cap ∧ EntsAt l a w := by
  obtain ⟨av, lv, cv, rfl⟩ := okWide_slice hts hv
  obtain ⟨fuel, hf⟩ := h
  obtain ⟨l, a, cap, e, h1, h2, h3⟩ := open_entsC hts hs hC ho hty hi hci hf
  have h4 : Value.slice av lv cv = .slice a l.length cap := by simpa [Value.cells] using e
  exact ⟨l, a, cap, h4, h1, h2, h3⟩
/-- A slice of bytes. -/
theorem open_btsN {w : World} {r : Reach} {base b0 : Nat} {spare : Nat → Bool} {held : Bool} {ts t : TypeId} {v : Value} {d : DataW H} {p : List MemPlace}
    (hts : P.underlying ts = some (.slice t)) (ht : P.underlying t = some (.int .u8)) (hC : P.cellsOf t = 1)
    (hv : Value.okWide P w r b0 ts v) (h : DataW.Trod enc P w base spare held ts v d p) :
    ∃ (l : List Nat) (a : Option Addr) (cap : Nat), v = .slice a l.length cap ∧ l.length ≤ maxLen ∧ (∀ x ∈ l, x < 256) ∧ BtsAt l a w := by
  obtain ⟨av, lv, cv, rfl⟩ := okWide_slice hts hv
  obtain ⟨fuel, hf⟩ := h
  rcases open_slice1 hts hC hf with ⟨h1, _⟩ | ⟨a, len, cap, m, n, V, D, Pl, h1, _, hlc, hcm, hm, _, hk⟩
  · have h2 : Value.slice av lv cv = .slice none 0 0 := by simpa [Value.cells] using h1
    cases h2
    exact ⟨[], none, 0, rfl, Nat.zero_le _, fun x hx => (by cases hx), fun h => absurd rfl h⟩
  · have h2 : Value.slice av lv cv = .slice (some a) len cap := by simpa [Value.cells] using h1
    cases h2
    have hlm : lv ≤ m := by rw [hm]; split <;> omega
    have hex : ∀ i, ∃ y : Nat, y < 256 ∧ (i < lv → w.cell? (a.add i) = some (.int .u8 (y : Nat))) := fun i => by
      by_cases hil : i < lv
      · obtain ⟨hc, htr⟩ := hk i (by omega)
        obtain ⟨y, hy, _, hw⟩ := DataW.trod_int ht htr
        have hb : (Lit.int .u8 y).wf = true := hw
        have h3 : 0 ≤ y ∧ y ≤ 255 := by simpa [Lit.wf, IntKind.min, IntKind.max, IntKind.signed, IntKind.bits] using hb
        have hy' : [V i] = [Value.int .u8 y] := hy
        simp only [List.cons.injEq, and_true] at hy'
        exact ⟨y.toNat, by omega, fun _ => by rw [hc, hy']; congr 2; omega⟩
      · exact ⟨0, by decide, fun h => absurd h hil⟩
    refine ⟨(List.range lv).map fun i => (hex i).choose, some a, cv, by simp, by simp; omega, fun x hx => ?_, fun hne => ?_⟩
    · obtain ⟨i, _, rfl⟩ := List.mem_map.1 hx
      exact (hex i).choose_spec.1
    have h0 : 0 < lv := by
      cases lv with
      | zero => exact absurd rfl hne
      | succ n => omega
    have h4 := (hex 0).choose_spec.2 h0
    obtain ⟨b, off, rfl, hb, hadd⟩ := addr_spot h4
    refine ⟨b, off, rfl, hb, fun i hil => ?_⟩
    rw [List.length_map, List.length_range] at hil
    refine (congrArg w.cell? (hadd i).symm).trans (((hex i).choose_spec.2 hil).trans ?_)
    simp
/-- A row of numbers. -/
theorem open_intsC {w : World} {base fuel : Nat} {spare : Nat → Bool} {held : Bool} {ts t : TypeId} {cs : List Value} {x : DataW H × List MemPlace}
    (hts : P.underlying ts = some (.slice t)) (ht : P.underlying t = some (.int .i64)) (hC : P.cellsOf t = 1) (hf : DataW.trod enc P w base spare held fuel ts cs = some x) :
    ∃ (l : List Int) (a : Option Addr) (cap : Nat), cs = [.slice a l.length cap] ∧ l.length ≤ maxLen ∧ (∀ s ∈ l, -9223372036854775808 ≤ s ∧ s < 9223372036854775808) ∧ IntsO l a w := by
  rcases open_slice1 hts hC hf with ⟨h1, _⟩ | ⟨a, lv, cv, m, n, V, D, Pl, h1, _, hlc, hcm, hm, _, hk⟩
  · exact ⟨[], none, 0, h1, Nat.zero_le _, fun s hs => (by cases hs), fun h => absurd rfl h⟩
  · have hlm : lv ≤ m := by rw [hm]; split <;> omega
    have hex : ∀ i, ∃ y : Int, (-9223372036854775808 ≤ y ∧ y < 9223372036854775808) ∧ (i < lv → w.cell? (a.add i) = some (.int .i64 y)) := fun i => by
      by_cases hil : i < lv
      · obtain ⟨hc, htr⟩ := hk i (by omega)
        obtain ⟨y, hy, _, hw⟩ := DataW.trod_int ht htr
        have hb : (Lit.int .i64 y).wf = true := hw
        have h3 : -9223372036854775808 ≤ y ∧ y ≤ 9223372036854775807 := by simpa [Lit.wf, IntKind.min, IntKind.max, IntKind.signed, IntKind.bits] using hb
        have hy' : [V i] = [Value.int .i64 y] := hy
        simp only [List.cons.injEq, and_true] at hy'
        exact ⟨y, ⟨h3.1, by omega⟩, fun _ => by rw [hc, hy']⟩
      · exact ⟨0, by decide, fun h => absurd h hil⟩
    refine ⟨(List.range lv).map fun i => (hex i).choose, some a, cv, by simpa using h1, by simp; omega, fun s hs => ?_, fun hne => ?_⟩
    · obtain ⟨i, _, rfl⟩ := List.mem_map.1 hs
      exact (hex i).choose_spec.1
    have h0 : 0 < lv := by
      cases lv with
      | zero => exact absurd rfl hne
      | succ n => omega
    have h4 := (hex 0).choose_spec.2 h0
    obtain ⟨b, off, rfl, hb, hadd⟩ := addr_spot h4
    refine ⟨b, off, rfl, hb, fun i hil => ?_⟩
    rw [List.length_map, List.length_range] at hil
    refine (congrArg w.cell? (hadd i).symm).trans (((hex i).choose_spec.2 hil).trans ?_)
    simp
/-- Rows of numbers. -/
theorem open_rowsC {w : World} {base fuel : Nat} {spare : Nat → Bool} {held : Bool} {ts t e : TypeId} {cs : List Value} {x : DataW H × List MemPlace}
    (hts : P.underlying ts = some (.slice t)) (ht : P.underlying t = some (.slice e)) (he : P.underlying e = some (.int .i64)) (hC : P.cellsOf t = 1) (hCe : P.cellsOf e = 1) (hf : DataW.trod enc P w base spare held fuel ts cs = some x) :
    ∃ (l : List (List Int)) (a : Option Addr) (cap : Nat), cs = [.slice a l.length cap] ∧ l.length ≤ maxLen ∧ (∀ row ∈ l, row.length ≤ maxLen) ∧ rangeR l ∧ RowsAt l a w := by
  rcases open_slice1 hts hC hf with ⟨h1, _⟩ | ⟨a, lv, cv, m, n, V, D, Pl, h1, _, hlc, hcm, hm, _, hk⟩
  · exact ⟨[], none, 0, h1, Nat.zero_le _, fun s hs => (by cases hs), fun s hs => (by cases hs), fun h => absurd rfl h⟩
  · have hlm : lv ≤ m := by rw [hm]; split <;> omega
    have hex : ∀ i, ∃ y : List Int, (y.length ≤ maxLen ∧ ∀ s ∈ y, -9223372036854775808 ≤ s ∧ s < 9223372036854775808) ∧ (i < lv → ∃ b c, w.cell? (a.add i) = some (.slice b y.length c) ∧ IntsO y b w) := fun i => by
      by_cases hil : i < lv
      · obtain ⟨hc, htr⟩ := hk i (by omega)
        obtain ⟨y, b, c, e1, h2, h3, h4⟩ := open_intsC ht he hCe htr
        simp only [List.cons.injEq, and_true] at e1
        exact ⟨y, ⟨h2, h3⟩, fun _ => ⟨b, c, by rw [hc, e1], h4⟩⟩
      · exact ⟨[], ⟨Nat.zero_le _, fun s hs => (by cases hs)⟩, fun h => absurd h hil⟩
    refine ⟨(List.range lv).map fun i => (hex i).choose, some a, cv, by simpa using h1, by simp; omega, fun s hs => ?_, fun s hs => ?_, fun hne => ?_⟩
    · obtain ⟨i, _, rfl⟩ := List.mem_map.1 hs
      exact (hex i).choose_spec.1.1
    · obtain ⟨i, _, rfl⟩ := List.mem_map.1 hs
      exact (hex i).choose_spec.1.2
    have h0 : 0 < lv := by
      cases lv with
      | zero => exact absurd rfl hne
      | succ n => omega
    obtain ⟨b0, c0, h4, _⟩ := (hex 0).choose_spec.2 h0
    obtain ⟨b, off, rfl, hb, hadd⟩ := addr_spot h4
    refine ⟨b, off, rfl, hb, fun i hil => ?_⟩
    rw [List.length_map, List.length_range] at hil
    obtain ⟨b1, c1, h5, h6⟩ := (hex i).choose_spec.2 hil
    have e1 : ((List.range lv).map fun i => (hex i).choose)[i]'(by simpa using hil) = (hex i).choose := by simp
    rw [e1]
    exact ⟨b1, c1, (congrArg w.cell? (hadd i).symm).trans h5, h6⟩
/-- A struct of entries and rows. -/
theorem open_twoS {w : World} {r : Reach} {base b0 : Nat} {spare : Nat → Bool} {held : Bool} {tt ts t it rs rt : TypeId} {g0 g1 f0 f1 f2 f3 : Field} {v : Value} {d : DataW H} {p : List MemPlace}
    (htt : P.underlying tt = some (.struct #[g0, g1])) (hg : g0.offset = 0 ∧ g1.offset = 1) (hgt : g0.type = ts ∧ g1.type = rs) (hCtt : P.cellsOf tt = 2) (hCts : P.cellsOf ts = 1) (hCrs : P.cellsOf rs = 1)
    (hts : P.underlying ts = some (.slice t)) (hs : P.underlying t = some (.struct #[f0, f1, f2, f3])) (hC : P.cellsOf t = 4) (ho : f0.offset = 0 ∧ f1.offset = 1 ∧ f2.offset = 2 ∧ f3.offset = 3)
    (hty : f0.type = it ∧ f1.type = it ∧ f2.type = it ∧ f3.type = it) (hi : P.underlying it = some (.int .i64)) (hci : P.cellsOf it = 1)
    (hrs : P.underlying rs = some (.slice rt)) (hrt : P.underlying rt = some (.slice it)) (hCr : P.cellsOf rt = 1)
    (hv : Value.okWide P w r b0 tt v) (h : DataW.Trod enc P w base spare held tt v d p) :
    ∃ (l : List EnN) (a : Option Addr) (ca : Nat) (F : List (List Int)) (b : Option Addr) (cb : Nat), v = .agg #[.slice a l.length ca, .slice b F.length cb] ∧ l.length ≤ maxLen ∧ l.length ≤ ca ∧ EntsAt l a w ∧ F.length ≤ maxLen ∧ (∀ row ∈ F, row.length ≤ maxLen) ∧ rangeR F ∧ RowsAt F b w := by
  obtain ⟨cs, rfl, hsz⟩ := okWide_struct htt hv
  obtain ⟨fuel, hf⟩ := h
  obtain ⟨y0, y1, n, _, hl, h0, h1⟩ := trod_struct2 htt hf
  rw [hCtt] at hsz
  obtain ⟨a, b, rfl⟩ : ∃ a b, cs = #[a, b] := by
    obtain ⟨l⟩ := cs
    match l, hsz with
    | [a, b], _ => exact ⟨a, b, rfl⟩
  rw [hg.1, hgt.1, hCts] at h0
  rw [hg.2, hgt.2, hCrs] at h1
  have h0' : DataW.trod enc P w base spare held n ts [a] = some y0 := h0
  have h1' : DataW.trod enc P w base spare held n rs [b] = some y1 := h1
  obtain ⟨l, aa, ca, e1, k1, k2, k3⟩ := open_entsC hts hs hC ho hty hi hci h0'
  obtain ⟨F, ab, cb, e2, m1, m2, m3, m4⟩ := open_rowsC hrs hrt hi hCr hci h1'
  simp only [List.cons.injEq, and_true] at e1 e2
  subst e1 e2
  exact ⟨l, aa, ca, F, ab, cb, rfl, k1, k2, k3, m1, m2, m3, m4⟩
end
end Go.Proofs.YtdpkhliojbeglaaDoor

/- Texts put together: Is. -/
import Derived.Test.YtajlcaconnkodaaDoorPL
import Derived.Laws.Slices
/- The document's terms: Right, Low, Up. Stage 10. -/
namespace Go.Proofs.YtajlcaconnkodaaDoor
open Go.RowKit BS

/-- The node whose part x is, of the first i nodes. -/
def upA (l : List NdN) (i x : Nat) : Int := match upF l x with | some j => if j < i then (j : Int) else -1 | none => -1
theorem upA_zero (l : List NdN) (x : Nat) : upA l 0 x = -1 := by
  unfold upA
  cases upF l x with
  | none => rfl
  | some j => exact if_neg (Nat.not_lt_zero j)
theorem upA_end (l : List NdN) (x : Nat) : upA l l.length x = upT l x := by
  unfold upA upT
  cases hu : upF l x with
  | none => rfl
  | some j => exact if_pos (up_some l x j hu).1
theorem upA_step (l : List NdN) (h : TermQ l) (i : Nat) (hi : i < l.length) (x : Nat) : upA l (i + 1) x = if (x : Int) ∈ partsT l i then (i : Int) else upA l i x := by
  by_cases hx : (x : Int) ∈ partsT l i
  · rw [if_pos hx]
    unfold upA
    rw [up_of l h i hi x hx]
    exact if_pos (by omega)
  · rw [if_neg hx]
    unfold upA
    cases hu : upF l x with
    | none => rfl
    | some j =>
      have hj : j ≠ i := fun e => hx (by rw [← e]; exact (up_some l x j hu).2)
      by_cases h1 : j < i
      · show (if j < i + 1 then _ else _) = (if j < i then _ else _)
        rw [if_pos h1, if_pos (by omega)]
      · show (if j < i + 1 then _ else _) = (if j < i then _ else _)
        rw [if_neg h1, if_neg (by omega)]
/-- A node's parts. -/
theorem node_parts (l : List NdN) (h : TermQ l) (i : Nat) (hi : i < l.length) :
    (l[i].kids = -1 ∧ l[i].n = -1 ∧ partsT l i = []) ∨ (∃ a : Nat, l[i].kids = a ∧ a < i ∧ l[i].n = -1 ∧ partsT l i = [(a : Int)]) ∨
    (∃ a b : Nat, l[i].kids = a ∧ a < i ∧ l[i].n = b ∧ b < i ∧ partsT l i = [(a : Int), (b : Int)]) := by
  obtain ⟨s, _, hf⟩ := h.fine i hi
  obtain ⟨hk, _, _, _⟩ := (fineT_iff l s i l[i]).1 hf
  obtain ⟨_, h0, h2⟩ := (kindT_two l[i]).1 hk
  have hp := parts_as l h i hi
  have hlt := part_lt l h i hi
  unfold partsT at hlt ⊢
  rcases pc_kinds l[i].kind with c | c | c
  · rw [c, if_neg (by decide), if_neg (by decide)] at hp
    exact .inl ⟨h0 c, h2 (by omega), hp⟩
  · rw [c, if_neg (by decide), if_pos rfl] at hp
    obtain ⟨h3, h4⟩ := hlt l[i].kids (by rw [hp]; simp)
    exact .inr (.inl ⟨l[i].kids.toNat, by omega, by omega, h2 (by omega), by rw [hp, Int.toNat_of_nonneg h3]⟩)
  · rw [c, if_pos rfl] at hp
    obtain ⟨h3, h4⟩ := hlt l[i].kids (by rw [hp]; simp)
    obtain ⟨h5, h6⟩ := hlt l[i].n (by rw [hp]; simp)
    exact .inr (.inr ⟨l[i].kids.toNat, l[i].n.toNat, by omega, by omega, by omega, by omega, by rw [hp, Int.toNat_of_nonneg h3, Int.toNat_of_nonneg h5]⟩)
def upsT (l : List NdN) : List Int := if rightT l = true then (List.range l.length).map (upT l) else []

set_option maxRecDepth 100000 in
set_option maxHeartbeats 4000000 in
theorem tRight_calls (l : List NdN) (hl : l.length ≤ 1000) (a : Option Addr) (cap : Nat) (w : World) (h : NodesAt l a w) :
    Calls Tryd.prog 14 #[.slice a l.length cap] w fun e w' => e = .returned (.bool (rightT l)) ∧ Below w.heap.size w w' := by
  have HL := Lib.hid (lows_calls l hl a cap w h)
  clear h
  cases hr : rightT l with
  | false =>
    have HR := Lib.hid hr
    clear hr
    go_enter Tryd.func14, Tryd.ntmps14
    go_wp2_with fail
    refine HL.out.mono ?_
    rintro e w1 ⟨b, c, rfl, hi, hn, hb⟩
    obtain ⟨rfl, rfl⟩ := hn HR.out
    rw [lowsT_not l HR.out]
    clear hi hn HL
    go_wp2_with fail
    go_ret
    exact ⟨rfl, hb⟩
  | true =>
    obtain ⟨h1, _, _⟩ := of_decide_eq_true hr
    have hne : lowsT l ≠ [] := by
      rw [lowsT_is l hr]
      intro h0
      have := congrArg List.length h0
      rw [List.length_map, List.length_range, List.length_nil] at this
      rw [this, trT] at h1
      cases h1
    have HNE := Lib.hid hne
    clear hr h1 hne
    go_enter Tryd.func14, Tryd.ntmps14
    go_wp2_with fail
    refine HL.out.mono ?_
    rintro e w1 ⟨b, c, rfl, hi, hn, hb⟩
    obtain ⟨g, o, rfl, _, _, hcc⟩ := hi HNE.out
    clear hn hi HL hcc
    go_wp2_with fail
    go_ret
    exact ⟨rfl, hb⟩
end Go.Proofs.YtajlcaconnkodaaDoor

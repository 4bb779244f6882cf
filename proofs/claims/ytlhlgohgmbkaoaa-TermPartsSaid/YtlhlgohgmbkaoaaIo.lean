/- The laws of stage 10: TermParts. -/
import Derived.Test.YtlhlgohgmbkaoaaIp
import Derived.Test.YtlhlgohgmbkaoaaBl
namespace Go.Proofs.Ytlhlgohgmbkaoaa
open Go.RowKit BS

theorem tr_at (l : List NdN) (hr : rightT l = true) (i : Nat) (hi : i < l.length) : ∃ s, trT l i = some s ∧ fineT l s i l[i] = true := by
  obtain ⟨h1, _, _⟩ := of_decide_eq_true hr
  obtain ⟨s', hs'⟩ := trT_before l _ _ h1 (i + 1) hi
  obtain ⟨s0, h4, _, h5, _⟩ := trT_step l i s' hs'
  exact ⟨s0, h4, h5⟩
/-- **A node's parts, and where they begin.** -/
theorem low_parts (l : List NdN) (hr : rightT l = true) (i : Nat) (hi : i < l.length) :
    (l[i].kids = -1 ∧ l[i].n = -1 ∧ partsT l i = [] ∧ lowV l i = i) ∨
    (∃ a : Nat, l[i].kids = a ∧ l[i].n = -1 ∧ partsT l i = [(a : Int)] ∧ a + 1 = i ∧ lowV l a = lowV l i) ∨
    (∃ a b : Nat, l[i].kids = a ∧ l[i].n = b ∧ partsT l i = [(a : Int), (b : Int)] ∧ b + 1 = i ∧ a + 1 = lowV l b ∧ lowV l a = lowV l i ∧ a < i) := by
  have hq := rightT_q l hr
  obtain ⟨s, hs, hf⟩ := tr_at l hr i hi
  obtain ⟨hk, h2, h3, _⟩ := (fine_go l i s hs hi).1 hf
  have hlo := lowV_lo l i s hs hi hf
  have hp := parts_as l hq i hi
  obtain ⟨_, k0, k2⟩ := (kindT_two l[i]).1 hk
  unfold loT atT at hlo
  unfold atT at h3
  rw [pcT_get l i hi] at hlo h3
  unfold partsT
  rcases pc_kinds l[i].kind with c | c | c
  · rw [c, if_neg (by decide), if_neg (by decide)] at hp
    rw [c, if_pos rfl] at hlo
    exact .inl ⟨k0 c, k2 (by omega), hp, hlo⟩
  · rw [c, if_neg (by decide), if_pos rfl] at hp
    rw [c, if_neg (by decide), if_neg (by decide)] at hlo
    rw [c, if_neg (by decide)] at h3
    obtain ⟨h4, h5⟩ := h3 (by decide)
    refine .inr (.inl ⟨i - 1, by omega, k2 (by omega), by rw [hp, h5]; congr 1; omega, by omega, ?_⟩)
    rw [hlo]
    congr 1
    omega
  · rw [c, if_pos rfl] at hp
    rw [c, if_neg (by decide), if_pos rfl] at hlo
    rw [c, if_pos rfl] at h3
    obtain ⟨h4, h5⟩ := h3 (by decide)
    obtain ⟨h6, h7⟩ := h2 c
    have hle := lowV_le l (i - 1)
    refine .inr (.inr ⟨lowV l (i - 1) - 1, i - 1, by omega, by omega, by rw [hp, h5, h7, show ((lowV l (i - 1) - 1 : Nat) : Int) = (lowV l (i - 1) : Int) - 1 by omega, show ((i - 1 : Nat) : Int) = (i : Int) - 1 by omega], by omega, by omega, ?_, by omega⟩)
    rw [hlo]
    congr 1
    omega
/-- Of how many of the first i nodes x is a part. -/
def hdA (l : List NdN) (i x : Nat) : Nat := match upF l x with | some j => if j < i then 1 else 0 | none => 0
theorem hdA_zero (l : List NdN) (x : Nat) : hdA l 0 x = 0 := by
  unfold hdA
  cases upF l x with
  | none => rfl
  | some j => exact if_neg (Nat.not_lt_zero j)
theorem hdA_in (l : List NdN) (h : TermQ l) (i : Nat) (hi : i < l.length) (x : Nat) (hx : (x : Int) ∈ partsT l i) : hdA l i x = 0 ∧ hdA l (i + 1) x = 1 := by
  unfold hdA
  rw [up_of l h i hi x hx]
  exact ⟨if_neg (by omega), if_pos (by omega)⟩
theorem hdA_out (l : List NdN) (i : Nat) (x : Nat) (hx : ¬ (x : Int) ∈ partsT l i) : hdA l (i + 1) x = hdA l i x := by
  unfold hdA
  cases hu : upF l x with
  | none => rfl
  | some j =>
    have hj : j ≠ i := fun e => hx (by rw [← e]; exact (up_some l x j hu).2)
    by_cases h1 : j < i
    · show (if j < i + 1 then _ else _) = (if j < i then _ else _)
      rw [if_pos h1, if_pos (by omega)]
    · show (if j < i + 1 then _ else _) = (if j < i then _ else _)
      rw [if_neg h1, if_neg (by omega)]
theorem hdA_end (l : List NdN) (h : TermQ l) (x : Nat) (hx : x < l.length) : hdA l l.length x = if x = l.length - 1 then 0 else 1 := by
  have hn := up_none l h x hx
  unfold hdA
  cases hu : upF l x with
  | none => rw [if_pos (hn.1 hu)]
  | some j =>
    rw [if_neg (fun e => by rw [hn.2 e] at hu; cases hu)]
    exact if_pos (up_some l x j hu).1
end Go.Proofs.Ytlhlgohgmbkaoaa

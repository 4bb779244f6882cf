/- Is a list of nodes a tree: plainly, by how many things there are. Nothing of the program is used. -/
import Derived.Test.YtlhlgohgmbkaoaaAk
namespace Go.Proofs.Ytlhlgohgmbkaoaa

/-- How many things there are behind some nodes, by their kids' numbers. -/
def manyF : Nat → List Int → Option Nat
  | m, [] => some m
  | m, k :: ks => if k < 0 ∨ (m : Int) < k then none else manyF (m - k.toNat + 1) ks
theorem many_stack : ∀ (ks : List Int) (st : List Nat), manyF st.length ks = if (ks.all fun k => decide (0 ≤ k)) = true then (stackF st (ks.map Int.toNat)).map List.length else none
  | [], st => rfl
  | k :: ks, st => by
    rw [manyF, List.all_cons, List.map_cons, stackF]
    by_cases h0 : k < 0
    · rw [if_pos (.inl h0), decide_eq_false (show ¬ 0 ≤ k by omega), Bool.false_and, if_neg (by decide)]
    · rw [decide_eq_true (show 0 ≤ k by omega), Bool.true_and]
      by_cases h1 : (st.length : Int) < k
      · rw [if_pos (.inr h1), if_neg (show ¬ k.toNat ≤ st.length by omega)]
        split <;> rfl
      · rw [if_neg (by omega), if_pos (show k.toNat ≤ st.length by omega), ← stepF_len st k.toNat]
        exact many_stack ks (stepF st k.toNat)
/-- **A list is a tree just if one tree of all nodes is left.** -/
theorem formed_iff (ks : List Int) : manyF 0 ks = some 1 ↔ (∀ k ∈ ks, 0 ≤ k) ∧ stackF [] (ks.map Int.toNat) = some [ks.length] := by
  have h := many_stack ks []
  rw [show ([] : List Nat).length = 0 from rfl] at h
  rw [h]
  have hall : ((ks.all fun k => decide (0 ≤ k)) = true) ↔ ∀ k ∈ ks, 0 ≤ k := by simp
  by_cases ha : (ks.all fun k => decide (0 ≤ k)) = true
  · rw [if_pos ha]
    constructor
    · intro h1
      refine ⟨hall.1 ha, ?_⟩
      cases hs : stackF [] (ks.map Int.toNat) with
      | none => rw [hs] at h1; cases h1
      | some st =>
        rw [hs] at h1
        have hl : st.length = 1 := by simpa using h1
        have hsum := stackF_sum _ _ _ hs
        obtain ⟨x, rfl⟩ := List.length_eq_one_iff.1 hl
        simp at hsum
        rw [hsum]
    · rintro ⟨_, h2⟩
      rw [h2]; rfl
  · rw [if_neg ha]
    constructor
    · intro h1; cases h1
    · rintro ⟨h1, _⟩; exact absurd (hall.2 h1) ha
/-- Behind each node that a tree has, there is a stack. -/
theorem stack_prefix (ks : List Nat) (st st' : List Nat) (h : stackF st ks = some st') (i : Nat) (_hi : i ≤ ks.length) : ∃ s, stackF st (ks.take i) = some s := by
  have e : ks = ks.take i ++ ks.drop i := (List.take_append_drop i ks).symm
  rw [e, stackF_append] at h
  cases hs : stackF st (ks.take i) with
  | none => rw [hs] at h; cases h
  | some s => exact ⟨s, rfl⟩
/-- A node's kids are as many as it says, and stand ahead of it. -/
theorem stack_at (ks : List Nat) (st st' : List Nat) (h : stackF st ks = some st') (i : Nat) (hi : i < ks.length) : ∃ s, stackF st (ks.take i) = some s ∧ ks[i] ≤ s.length ∧ s.sum = st.sum + i := by
  obtain ⟨s, hs⟩ := stack_prefix ks st st' h i (by omega)
  have e : ks = ks.take i ++ (ks[i] :: ks.drop (i + 1)) := by rw [← List.drop_eq_getElem_cons hi, List.take_append_drop]
  refine ⟨s, hs, ?_, ?_⟩
  · rw [e, stackF_append, hs] at h
    have h' : stackF s (ks[i] :: ks.drop (i + 1)) = some st' := h
    rw [stackF] at h'
    by_cases hk : ks[i] ≤ s.length
    · exact hk
    · rw [if_neg hk] at h'; cases h'
  · have := stackF_sum _ _ _ hs
    rw [this, List.length_take]
    omega
end Go.Proofs.Ytlhlgohgmbkaoaa

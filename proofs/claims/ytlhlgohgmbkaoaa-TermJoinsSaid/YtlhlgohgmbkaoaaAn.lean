/- The numbers of groups, plainly: ranks by where they begin. Nothing of the program is used. -/
import Derived.Test.YtlhlgohgmbkaoaaAr
namespace Go.Proofs.Ytlhlgohgmbkaoaa

/-- y does not stand behind x: it begins earlier, or at the same place and holds it. -/
def leF (f : Nat → Int) (y x : Nat) : Bool := decide (f y < f x ∨ (f y = f x ∧ x ≤ y))
theorem leF_iff (f : Nat → Int) (y x : Nat) : leF f y x = true ↔ f y < f x ∨ (f y = f x ∧ x ≤ y) := decide_eq_true_iff
theorem leF_total (f : Nat → Int) : Total (leF f) where
  refl x := (leF_iff f x x).2 (.inr ⟨rfl, Nat.le_refl _⟩)
  trans x y z h1 h2 := by rw [leF_iff] at h1 h2 ⊢; omega
  anti x y h1 h2 := by rw [leF_iff] at h1 h2; omega
  total x y := by rw [leF_iff, leF_iff]; omega
/-- A group around all: it is the first, and all others are one later. -/
theorem rank_new (f : Nat → Int) (l : List Nat) (n : Nat) (hn : f n = -1) (hf : ∀ y ∈ l, -1 ≤ f y) (hl : ∀ y ∈ l, y < n) :
    rankL (leF f) (l ++ [n]) n = 1 ∧ ∀ x ∈ l, rankL (leF f) (l ++ [n]) x = rankL (leF f) l x + 1 := by
  constructor
  · have h0 : rankL (leF f) l n = 0 := List.countP_eq_zero.2 fun y hy h => by
      have h1 := (leF_iff f y n).1 h
      have := hf y hy
      have := hl y hy
      omega
    unfold rankL at h0 ⊢
    rw [List.countP_append, h0, List.countP_singleton, if_pos ((leF_iff f n n).2 (.inr ⟨rfl, Nat.le_refl _⟩))]
  · intro x hx
    have h1 := hf x hx
    have h2 := hl x hx
    unfold rankL
    rw [List.countP_append, List.countP_singleton, if_pos ((leF_iff f n x).2 (by omega))]
/-- Two orders that are the same on a list give the same ranks. -/
theorem rank_congr (f g : Nat → Int) (l : List Nat) (h : ∀ y ∈ l, f y = g y) (x : Nat) (hx : x ∈ l) : rankL (leF f) l x = rankL (leF g) l x := by
  unfold rankL
  refine List.countP_congr fun y hy => ?_
  rw [leF_iff, leF_iff, h y hy, h x hx]
end Go.Proofs.Ytlhlgohgmbkaoaa

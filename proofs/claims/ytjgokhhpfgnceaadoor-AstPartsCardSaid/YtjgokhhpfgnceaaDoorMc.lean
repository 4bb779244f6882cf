/- The developers' counts: what digits end in; behindComma, inBraces. -/
import Derived.Test.YtjgokhhpfgnceaaDoorMb
namespace Go.Proofs.YtjgokhhpfgnceaaDoor
open Go.RowKit

theorem invD_start : InvD 0 0 := ⟨by omega, fun _ => rfl, fun _ => by omega, by omega⟩
theorem invD_step (v d b : Nat) (h : InvD v d) (hb : 48 ≤ b ∧ b ≤ 57) (hf : fullD v d = false) : InvD (10 * v + (b - 48)) (d + 1) := by
  obtain ⟨i1, i2, i3, i4⟩ := h
  have h2 : ¬ (d = 2) := by rintro rfl; simp [fullD] at hf
  have hv9 : v ≤ 9 := i3 (by omega)
  refine ⟨by omega, fun h => by omega, fun h => ?_, by omega⟩
  have := i2 (by omega)
  omega
/-- What a number ends in. -/
def EndD (s : ByteArray) (least i : Nat) (r : Nat × Nat × Nat × Nat) : Prop :=
  (r.2.2.2 = 0 ∧ i ≤ r.2.2.1 ∧ r.2.2.1 ≤ s.size ∧ InvD r.1 r.2.1 ∧ (r.2.2.1 = s.size ∨ ¬ (48 ≤ bt s r.2.2.1 ∧ bt s r.2.2.1 ≤ 57)) ∧ (0 < r.2.1 → least ≤ mostD r.1 r.2.1)) ∨
  (∃ p, r = (0, 0, p, 6) ∧ i < p ∧ p ≤ s.size)
theorem digD_end (s : ByteArray) (least a : Nat) : ∀ k i v d, InvD v d → a ≤ i → k + i = s.size → (0 < d → least ≤ mostD v d) → EndD s least a (digD s least k i v d)
  | 0, i, v, d, h, ha, hk, hm => .inl ⟨rfl, ha, by simp only [digD]; omega, h, .inl (by simp only [digD]; omega), hm⟩
  | k + 1, i, v, d, h, ha, hk, hm => by
    rw [digD]
    by_cases hd : 48 ≤ bt s i ∧ bt s i ≤ 57
    · rw [if_pos hd]
      cases hf : fullD v d with
      | true => rw [if_pos rfl]; exact .inr ⟨i + 1, rfl, by omega, by omega⟩
      | false =>
        rw [if_neg (by decide)]
        by_cases hl : mostD (10 * v + (bt s i - 48)) (d + 1) < least
        · rw [if_pos hl]; exact .inr ⟨i + 1, rfl, by omega, by omega⟩
        · rw [if_neg hl]; exact digD_end s least a k (i + 1) _ _ (invD_step v d _ h hd hf) (by omega) (by omega) (fun _ => by omega)
    · rw [if_neg hd]; exact .inl ⟨rfl, ha, by simp only; omega, h, .inr hd, hm⟩
theorem digsD_end (s : ByteArray) (i least : Nat) (hi : i ≤ s.size) : EndD s least i (digsD s i least) := digD_end s least i _ i 0 0 invD_start (Nat.le_refl _) (by omega) (fun h => by omega)

end Go.Proofs.YtjgokhhpfgnceaaDoor

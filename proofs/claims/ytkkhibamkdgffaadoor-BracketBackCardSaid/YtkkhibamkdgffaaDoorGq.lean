/- Plain facts on how the document reads a bracket. -/
import Derived.Test.YtkkhibamkdgffaaDoorGp
namespace Go.Proofs.YtkkhibamkdgffaaDoor
open Go.RowKit BS

theorem nameR_ok (s : ByteArray) (fr : Nat) (x : BR) : ∀ n j, n = s.size - j → (nameR s fr x n j).err = 0 → j < (nameR s fr x n j).pos ∧ (nameR s fr x n j).pos ≤ s.size ∧ (nameR s fr x n j).neg = x.neg ∧ (nameR s fr x n j).fin = x.fin
  | 0, j, _, h => by simp [nameR, badR] at h
  | n + 1, j, hn, h => by
    unfold nameR at h ⊢
    split at h
    · rename_i hc
      rw [if_pos hc]
      split at h
      · simp [badR] at h
      · rename_i h1
        rw [if_neg h1]
        split at h
        · simp [badR] at h
        · rename_i h2
          rw [if_neg h2]
          split at h
          · simp [badR] at h
          · rename_i h3
            rw [if_neg h3]
            exact ⟨by simp only; omega, by simp only; omega, rfl, rfl⟩
    · rename_i hc
      rw [if_neg hc]
      split at h
      · simp [badR] at h
      · rename_i h1
        rw [if_neg h1]
        have := nameR_ok s fr x n (j + 1) (by omega) h
        exact ⟨by omega, this.2.1, this.2.2⟩

/-- By cases on a test, both known. -/
theorem ite_ok {α : Type} (P : α → Prop) {c : Prop} [Decidable c] {a b : α} (h1 : c → P a) (h2 : ¬ c → P b) : P (if c then a else b) := by
  by_cases h : c
  · rw [if_pos h]; exact h1 h
  · rw [if_neg h]; exact h2 h
def OkB (s : ByteArray) (x r : BR) : Prop := r.err = 0 → x.pos < r.pos ∧ r.pos ≤ s.size ∧ r.neg = x.neg
theorem okB_bad (s : ByteArray) (x : BR) (e p : Nat) : OkB s x (badR (e + 1) p) := fun h => by simp [badR] at h
theorem okB_add (s : ByteArray) (x : BR) (lo hi p : Nat) (h1 : x.pos < p) (h2 : p ≤ s.size) : OkB s x (addR x lo hi p) := fun _ => ⟨h1, h2, rfl⟩
theorem thingR_okB (s : ByteArray) (x : BR) (first : Bool) : OkB s x (thingR s x first) := by
  unfold thingR
  refine ite_ok _ (fun _ => okB_bad _ _ 1 _) (fun hA => ?_)
  refine ite_ok _ (fun _ _ => ⟨Nat.lt_succ_self _, by simp only; omega, rfl⟩) (fun _ => ?_)
  refine ite_ok _ (fun _ => okB_bad _ _ 1 _) (fun hC => ?_)
  refine ite_ok _ (fun _ h => ?_) (fun _ => ?_)
  · have := nameR_ok s (x.pos + 2) x (s.size - (x.pos + 2)) (x.pos + 2) rfl h
    exact ⟨by omega, this.2.1, this.2.2.1⟩
  refine ite_ok _ (fun _ => okB_bad _ _ 2 _) (fun _ => ?_)
  refine ite_ok _ (fun _ => okB_add _ _ _ _ _ (by omega) (by omega)) (fun _ => ?_)
  refine ite_ok _ (fun _ => okB_bad _ _ 1 _) (fun hG => ?_)
  refine ite_ok _ (fun _ => okB_add _ _ _ _ _ (by omega) (by omega)) (fun _ => ?_)
  refine ite_ok _ (fun _ => okB_bad _ _ 3 _) (fun _ => ?_)
  refine ite_ok _ (fun _ => okB_bad _ _ 1 _) (fun _ => ?_)
  refine ite_ok _ (fun _ => okB_bad _ _ 2 _) (fun _ => ?_)
  exact okB_add _ _ _ _ _ (by omega) (by omega)
theorem thingR_ok (s : ByteArray) (x : BR) (first : Bool) (h : (thingR s x first).err = 0) : x.pos < (thingR s x first).pos ∧ (thingR s x first).pos ≤ s.size ∧ (thingR s x first).neg = x.neg := thingR_okB s x first h
theorem loopR_fin (s : ByteArray) (n : Nat) (x : BR) (first : Bool) (h : x.fin = true) : loopR s (n + 1) x first = x := by rw [loopR, if_pos h]
theorem loopR_err (s : ByteArray) (n : Nat) (x : BR) (first : Bool) (h : x.fin = false) (he : (thingR s x first).err ≠ 0) : loopR s (n + 1) x first = thingR s x first := by rw [loopR, if_neg (by rw [h]; decide), if_pos he]
theorem loopR_on (s : ByteArray) (n : Nat) (x : BR) (first : Bool) (h : x.fin = false) (he : (thingR s x first).err = 0) : loopR s (n + 1) x first = loopR s n (thingR s x first) false := by rw [loopR, if_neg (by rw [h]; decide), if_neg (by rw [he]; decide)]
end Go.Proofs.YtkkhibamkdgffaaDoor

/- Texts put together: Cp. -/
import Derived.Test.YtbccojjcdcighaaGreatDoorPR
import Derived.Test.YtbccojjcdcighaaGreatDoorPV
namespace Go.Proofs.YtbccojjcdcighaaGreatDoor
open Go.RowKit BS
theorem find_at {α : Type} (p : α → Bool) : ∀ (L : List α) (k : Nat) (hk : k < L.length), (∀ j (hj : j < k), p (L[j]'(Nat.lt_trans hj hk)) = false) → p L[k] = true → L.find? p = some L[k]
  | [], k, hk, _, _ => by simp at hk
  | a :: L, 0, _, _, h => by simp [List.find?, show p a = true from h]
  | a :: L, k + 1, hk, hf, h => by
    have h0 : p a = false := hf 0 (by omega)
    simp only [List.find?, h0]
    exact find_at p L k (by simpa using hk) (fun j hj => hf (j + 1) (by omega)) h
theorem find_not {α : Type} (p : α → Bool) (L : List α) (h : ∀ j (hj : j < L.length), p L[j] = false) : L.find? p = none := by
  rw [List.find?_eq_none]
  intro x hx
  obtain ⟨j, hj, rfl⟩ := List.getElem_of_mem hx
  simp [h j hj]
def fnd (l : List UInt8) : Option (ByteArray × BitVec 256) := tabL.find? fun e => e.1.toList == l
def ofS (l : List UInt8) : BitVec 256 := ((fnd l).map (·.2)).getD 0
def ofB (l : List UInt8) : Bool := (fnd l).isSome
theorem tabL_len : tabL.length = 12 := rfl
def tE (k : Nat) : ByteArray × BitVec 256 := tabL.getD k (⟨#[]⟩, 0)
theorem tE_eq (k : Nat) (h : k < 12) : tE k = tabL[k] := by
  unfold tE; rw [List.getD_eq_getElem?_getD, List.getElem?_eq_getElem (by rw [tabL_len]; exact h)]; rfl
theorem fnd_at (l : List UInt8) (k : Nat) (hk : k < 12) (hf : ∀ j, j < k → (tE j).1.toList ≠ l) (h : (tE k).1.toList = l) : fnd l = some (tE k) := by
  rw [tE_eq k hk]
  refine find_at _ tabL k hk (fun j hj => ?_) ?_
  · have := hf j hj
    rw [tE_eq j (by omega)] at this
    exact beq_eq_false_iff_ne.2 this
  · rw [tE_eq k hk] at h
    exact beq_iff_eq.2 h
theorem fnd_not (l : List UInt8) (hf : ∀ j, j < 12 → (tE j).1.toList ≠ l) : fnd l = none := by
  refine find_not _ tabL fun j hj => ?_
  have := hf j hj
  rw [tE_eq j hj] at this
  exact beq_eq_false_iff_ne.2 this
theorem ofS_at (l : List UInt8) (k : Nat) (hk : k < 12) (hf : ∀ j, j < k → (tE j).1.toList ≠ l) (h : (tE k).1.toList = l) : ofS l = (tE k).2 := by rw [ofS, fnd_at l k hk hf h]; rfl
theorem ofB_at (l : List UInt8) (k : Nat) (hk : k < 12) (hf : ∀ j, j < k → (tE j).1.toList ≠ l) (h : (tE k).1.toList = l) : ofB l = true := by rw [ofB, fnd_at l k hk hf h]; rfl
theorem ofS_not (l : List UInt8) (hf : ∀ j, j < 12 → (tE j).1.toList ≠ l) : ofS l = 0 := by rw [ofS, fnd_not l hf]; rfl
theorem ofB_not (l : List UInt8) (hf : ∀ j, j < 12 → (tE j).1.toList ≠ l) : ofB l = false := by rw [ofB, fnd_not l hf]; rfl
theorem tab_index : ∀ k, k < 12 → ∀ w, (Instr.index 236 (.agg tabV) (.int .i64 (k : Nat))).run Tryz.prog w = .ok (.agg #[.string (tE k).1, .int .u64 (wd (tE k).2 0), .int .u64 (wd (tE k).2 1), .int .u64 (wd (tE k).2 2), .int .u64 (wd (tE k).2 3)]) w
  | 0, _, w => by kernel_rfl
  | 1, _, w => by kernel_rfl
  | 2, _, w => by kernel_rfl
  | 3, _, w => by kernel_rfl
  | 4, _, w => by kernel_rfl
  | 5, _, w => by kernel_rfl
  | 6, _, w => by kernel_rfl
  | 7, _, w => by kernel_rfl
  | 8, _, w => by kernel_rfl
  | 9, _, w => by kernel_rfl
  | 10, _, w => by kernel_rfl
  | 11, _, w => by kernel_rfl
  | n + 12, h, _ => by omega
end Go.Proofs.YtbccojjcdcighaaGreatDoor

/- The document's sets, by the reference's own calls: Runs. -/
import Derived.Test.YtpaecjjelpjopaaDoorRc
import Derived.Deep.MidRow
import Derived.Maps.AppendAt
namespace Go.Proofs.YtpaecjjelpjopaaDoor
open Go.RowKit Go.Shelf BS
attribute [local go_sem] Oper.semAt_some

theorem runStep_last (rs : List (Nat × Nat)) (x : Nat) : ∃ rs' a, runStep rs x = rs' ++ [(a, x)] := by
  rcases nil_or_snoc rs with rfl | ⟨rs', a, b, rfl⟩
  · exact ⟨[], x, rfl⟩
  · by_cases h : (b + 1) % 256 = x
    · exact ⟨rs', a, runStep_grow _ _ _ _ h⟩
    · exact ⟨rs' ++ [(a, b)], x, runStep_new _ _ _ _ h⟩
theorem runs_prev (f : Nat → Bool) (k : Nat) (hk : 0 < k) (hf : f (k - 1) = true) : ∃ rs' a, runsOf (el f k) = rs' ++ [(a, k - 1)] := by
  obtain ⟨j, rfl⟩ : ∃ j, k = j + 1 := ⟨k - 1, by omega⟩
  simp only [Nat.add_sub_cancel] at hf ⊢
  rw [el_succ, hf, if_pos rfl, runsOf_snoc]
  exact runStep_last _ _
theorem runs_fresh (f : Nat → Bool) (k : Nat) (hk : k < 256) (hf : k = 0 ∨ f (k - 1) = false) (h : f k = true) : runsOf (el f (k + 1)) = runsOf (el f k) ++ [(k, k)] := by
  rw [el_succ, h, if_pos rfl, runsOf_snoc]
  have iv := runsInv f k (by omega)
  generalize runsOf (el f k) = rs at *
  rcases nil_or_snoc rs with rfl | ⟨rs', a, b, rfl⟩
  · rfl
  · have hb := iv.ok (a, b) (by simp)
    simp only at hb
    refine runStep_new _ _ _ _ fun e => ?_
    have hbk : b + 1 = k := by omega
    have hfb : f b = true := (iv.all b (by omega)).2 ⟨(a, b), by simp, hb.1, Nat.le_refl _⟩
    rcases hf with h0 | h0
    · omega
    · rw [show k - 1 = b by omega, hfb] at h0; cases h0
theorem runs_more (f : Nat → Bool) (k : Nat) (hk : k < 256) (rs' : List (Nat × Nat)) (a : Nat) (hk0 : 0 < k) (hr : runsOf (el f k) = rs' ++ [(a, k - 1)]) (h : f k = true) : runsOf (el f (k + 1)) = rs' ++ [(a, k)] := by
  rw [el_succ, h, if_pos rfl, runsOf_snoc, hr]
  exact runStep_grow _ _ _ _ (by omega)

/-- A set's bytes are as many as it counts. -/
theorem el_cnt (f : Nat → Bool) : ∀ k, (el f k).length = cnt f k
  | 0 => rfl
  | k + 1 => by
    rw [el_succ, List.length_append, el_cnt f k, cnt]
    cases f k <;> rfl
theorem byteCells_len (l : List Nat) : (byteCells l).length = l.length := by simp [byteCells]
theorem byteCells_get (l : List Nat) (i : Nat) (h : i < l.length) : (byteCells l)[i]? = some (.int .u8 (l[i] : Int)) := by
  simp [byteCells, h]
end Go.Proofs.YtpaecjjelpjopaaDoor

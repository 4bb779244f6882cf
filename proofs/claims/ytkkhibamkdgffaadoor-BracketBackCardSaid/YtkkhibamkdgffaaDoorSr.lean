/- Count and Next. -/
import Derived.Test.YtkkhibamkdgffaaDoorSq
namespace Go.Proofs.YtkkhibamkdgffaaDoor
open Go.RowKit BS

def cw (s : BitVec 256) (i : Nat) : Nat := cnt (wd s i).testBit 64
theorem cw_le (s : BitVec 256) (i : Nat) : cw s i ≤ 64 := cnt_le _ _
theorem ones_wd (s : BitVec 256) (i : Nat) (w : World) :
    Calls Tryd.prog 20 #[.int .u64 (wd s i)] w fun e w' => e = .returned (.int .i64 (cw s i)) ∧ Below w.heap.size w w' := ones_calls _ w (wd_lt' s i)
theorem cnt4 (f : Nat → Bool) : cnt f 256 = cnt f 64 + cnt (fun j => f (64 + j)) 64 + cnt (fun j => f (128 + j)) 64 + cnt (fun j => f (192 + j)) 64 := by
  have e := cnt_add f 64 (64 + (64 + 64))
  rw [cnt_add (fun j => f (64 + j)), cnt_add (fun j => f (64 + (64 + j)))] at e
  have e2 : cnt f 256 = cnt f (64 + (64 + (64 + 64))) := rfl
  rw [e2, e, ← Nat.add_assoc, ← Nat.add_assoc]
  have h1 : cnt (fun j => f (64 + (64 + j))) 64 = cnt (fun j => f (128 + j)) 64 := cnt_congr fun j _ => congrArg f (by omega)
  have h2 : cnt (fun j => f (64 + (64 + (64 + j)))) 64 = cnt (fun j => f (192 + j)) 64 := cnt_congr fun j _ => congrArg f (by omega)
  rw [h1, h2]
theorem cw_sum (s : BitVec 256) : cnt s.getLsbD 256 = cw s 0 + cw s 1 + cw s 2 + cw s 3 := by
  have h : ∀ i k, k = 64 * i → cw s i = cnt (fun j => s.getLsbD (k + j)) 64 := by
    intro i k hk
    subst hk
    apply cnt_congr; intro j hj
    rw [testBit_wd]; simp [hj]
  rw [cnt4, h 0 0 rfl, h 1 64 rfl, h 2 128 rfl, h 3 192 rfl]
  simp only [Nat.zero_add]

set_option maxHeartbeats 400000 in
/-- Count. -/
theorem count_calls (s : BitVec 256) (w : World) :
    Calls Tryd.prog 9 #[setV s] w fun e w' => e = .returned (.int .i64 (cnt s.getLsbD 256)) ∧ Below w.heap.size w w' := by
  have i0 := ix0; have i1 := ix1; have i2 := ix2; have i3 := ix3
  have b0 := cw_le s 0; have b1 := cw_le s 1; have b2 := cw_le s 2; have b3 := cw_le s 3
  go_enter Tryd.func9, Tryd.ntmps9
  go_wp2
  refine wp_loop_rounds 5 ?_
  rw [rounds_succ]
  go_wp2_with fail
  refine (ones_wd _ _ _).mono ?_
  rintro e w1 ⟨rfl, hb1⟩
  go_wp2_with fail
  rw [rounds_succ]
  go_wp2_with fail
  refine (ones_wd _ _ _).mono ?_
  rintro e w2 ⟨rfl, hb2⟩
  go_wp2_with fail
  rw [rounds_succ]
  go_wp2_with fail
  refine (ones_wd _ _ _).mono ?_
  rintro e w3 ⟨rfl, hb3⟩
  go_wp2_with fail
  rw [rounds_succ]
  go_wp2_with fail
  refine (ones_wd _ _ _).mono ?_
  rintro e w4 ⟨rfl, hb4⟩
  go_wp2_with fail
  rw [rounds_succ]
  go_wp2
  go_ret
  rw [cw_sum]
  refine ⟨ret_int (by simp only [Int.natCast_add]), ?_⟩
  exact next (next (next (upfrom hb1) hb2 (Nat.le_refl _)) hb3 (Nat.le_refl _)) hb4 (Nat.le_refl _)

theorem ctz_wd (s : BitVec 256) (i : Nat) (h : wd s i ≠ 0) : Lib.ctz 64 (wd s i) < 64 ∧ s.getLsbD (64 * i + Lib.ctz 64 (wd s i)) = true ∧ ∀ j, j < Lib.ctz 64 (wd s i) → s.getLsbD (64 * i + j) = false := by
  obtain ⟨m, hm, hk⟩ := Lib.ctzFrom_spec 64 (wd s i) (by omega) (wd_lt s i)
  have e : Lib.ctz 64 (wd s i) = Lib.ctzFrom 64 (wd s i) := by simp [Lib.ctz, h]
  rw [e]
  generalize Lib.ctzFrom 64 (wd s i) = k at *
  have ht : ∀ j, (wd s i).testBit j = (decide (j ≥ k) && (2 * m + 1).testBit (j - k)) := by
    intro j; rw [hm, Nat.mul_comm, Nat.testBit_mul_two_pow]
  refine ⟨hk, ?_, ?_⟩
  · have := ht k
    rw [testBit_wd] at this
    simpa [hk] using this
  · intro j hj
    have := ht j
    rw [testBit_wd] at this
    have h1 : j < 64 := by omega
    have h2 : ¬ j ≥ k := by omega
    simpa [h1, h2] using this

/-- The least number of a set that is not below n; -1: there is none. -/
def nextOf (f : Nat → Bool) (n : Nat) : Int := match (List.range 256).find? (fun j => decide (n ≤ j) && f j) with | some j => j | none => -1
theorem nextOf_eq {f : Nat → Bool} {n k : Nat} (h1 : k < 256) (h2 : n ≤ k) (h3 : f k = true) (h4 : ∀ j, n ≤ j → j < k → f j = false) : nextOf f n = k := by
  have : (List.range 256).find? (fun j => decide (n ≤ j) && f j) = some k := by
    rw [List.find?_range_eq_some]
    refine ⟨by simp [h2, h3], by simpa using h1, ?_⟩
    intro j hj
    by_cases hn : n ≤ j
    · simp [h4 j hn hj]
    · simp [hn]
  rw [nextOf, this]
theorem nextOf_none {f : Nat → Bool} {n : Nat} (h : ∀ j, n ≤ j → j < 256 → f j = false) : nextOf f n = -1 := by
  have : (List.range 256).find? (fun j => decide (n ≤ j) && f j) = none := by
    rw [List.find?_eq_none]
    intro j hj
    have hj' : j < 256 := by simpa using hj
    by_cases hn : n ≤ j
    · simp [h j hn hj']
    · simp [hn]
  rw [nextOf, this]

theorem wd_zero {s : BitVec 256} {i : Nat} (h : wd s i = 0) (j : Nat) (hj : j < 64) : s.getLsbD (64 * i + j) = false := by
  have := testBit_wd s i j
  rw [h] at this
  simpa [hj] using this.symm

/-- Which word tells. -/
theorem next_word (s : BitVec 256) (n i : Nat) (hi : i < 4) (h : wd (s &&& ~~~(mask n)) i ≠ 0) (hz : ∀ i', i' < i → wd (s &&& ~~~(mask n)) i' = 0) :
    (i : Int) * 64 + (Lib.ctz 64 (wd (s &&& ~~~(mask n)) i) : Int) = nextOf s.getLsbD n := by
  obtain ⟨hk, h1, h2⟩ := ctz_wd _ i h
  generalize Lib.ctz 64 (wd (s &&& ~~~(mask n)) i) = k at *
  have hb : ∀ j, j < 256 → (s &&& ~~~(mask n)).getLsbD j = (s.getLsbD j && decide (n ≤ j)) := by
    intro j hj
    rw [BitVec.getLsbD_and, BitVec.getLsbD_not, mask, get_ofFn]
    simp only [hj, decide_true, Bool.true_and]
    rw [← decide_not]; congr 1; rw [decide_eq_decide]; omega
  have h3 := hb (64 * i + k) (by omega)
  rw [h1] at h3
  simp only [Bool.true_eq, Bool.and_eq_true, decide_eq_true_eq] at h3
  rw [nextOf_eq (k := 64 * i + k) (by omega) h3.2 h3.1 ?_]
  · omega
  · intro j hn hj
    have h4 := hb j (by omega)
    simp only [hn, decide_true, Bool.and_true] at h4
    rw [← h4]
    by_cases hji : j / 64 = i
    · have e : j = 64 * i + j % 64 := by omega
      rw [e]; exact h2 _ (by omega)
    · have e : j = 64 * (j / 64) + j % 64 := by omega
      rw [e]; exact wd_zero (hz _ (by omega)) _ (by omega)
theorem next_no (s : BitVec 256) (n : Nat) (hz : ∀ i', i' < 4 → wd (s &&& ~~~(mask n)) i' = 0) : nextOf s.getLsbD n = -1 := by
  apply nextOf_none
  intro j hn hj
  have e : j = 64 * (j / 64) + j % 64 := by omega
  have h0 := wd_zero (hz (j / 64) (by omega)) (j % 64) (by omega)
  rw [← e, BitVec.getLsbD_and, BitVec.getLsbD_not, mask, get_ofFn] at h0
  simpa [hj, show ¬ j < n by omega] using h0

end Go.Proofs.YtkkhibamkdgffaaDoor

/- Groups' numbers, plainly. Nothing of the program is used. -/
import Derived.Test.YtlhlgohgmbkaoaaAn
namespace Go.Proofs.Ytlhlgohgmbkaoaa

/-- The places of groups. -/
def grpF (kd : Nat → Int) (n : Nat) : List Nat := (List.range n).filter fun i => kd i == 3
/-- A node's number; 0, if it is no group. -/
def numF (kd : Nat → Int) (f : Nat → Int) (n i : Nat) : Nat := if kd i = 3 then rankL (leF f) (grpF kd n) i else 0
theorem grp_mem (kd : Nat → Int) (n i : Nat) : i ∈ grpF kd n ↔ i < n ∧ kd i = 3 := by unfold grpF; simp
theorem grp_nodup (kd : Nat → Int) (n : Nat) : (grpF kd n).Nodup := List.nodup_range.filter _
/-- As the document counts. -/
theorem num_count (kd f : Nat → Int) (n i : Nat) (h : kd i = 3) : numF kd f n i = (List.range n).countP fun k => kd k == 3 && leF f k i := by
  unfold numF rankL grpF
  rw [if_pos h, List.countP_filter]
  exact List.countP_congr fun x _ => by rw [Bool.and_comm]
theorem num_le (kd f : Nat → Int) (n i : Nat) : numF kd f n i ≤ (grpF kd n).length := by
  unfold numF
  by_cases h : kd i = 3
  · rw [if_pos h]; exact List.countP_le_length
  · rw [if_neg h]; exact Nat.zero_le _
theorem num_pos (kd f : Nat → Int) (n i : Nat) (hi : i < n) : 0 < numF kd f n i ↔ kd i = 3 := by
  unfold numF
  by_cases h : kd i = 3
  · rw [if_pos h]
    exact ⟨fun _ => h, fun _ => (rank_pos _ (leF_total f) _ i ((grp_mem kd n i).2 ⟨hi, h⟩)).1⟩
  · rw [if_neg h]
    exact ⟨fun h0 => absurd h0 (by decide), fun h1 => absurd h1 h⟩
/-- **Each number up to how many groups there are is told once.** -/
theorem told_once (kd f : Nat → Int) (n m : Nat) (h1 : 1 ≤ m) (h2 : m ≤ (grpF kd n).length) : ((List.range n).countP fun i => numF kd f n i == m) = 1 := by
  have h := rank_once (leF f) (leF_total f) (grpF kd n) (grp_nodup kd n) m h1 h2
  rw [List.count, List.countP_map] at h
  unfold grpF at h
  rw [List.countP_filter] at h
  rw [← h]
  refine List.countP_congr fun i _ => ?_
  unfold numF
  by_cases hk : kd i = 3
  · rw [if_pos hk]
    simp [Function.comp, hk, grpF]
  · rw [if_neg hk]
    have e : (kd i == 3) = false := by simpa using hk
    simp [e]
    omega
/-- In a group around all the numbers are one more. -/
theorem num_grows (kd kd' f f' : Nat → Int) (n : Nat) (hk : ∀ i, i < n → kd' i = kd i) (hn : kd' n = 3) (hf : ∀ i, i < n → f' i = f i) (hfn : f' n = -1) (hlow : ∀ i, i < n → -1 ≤ f i) :
    numF kd' f' (n + 1) n = 1 ∧ ∀ i, i < n → kd i = 3 → numF kd' f' (n + 1) i = numF kd f n i + 1 := by
  have eg : grpF kd' (n + 1) = grpF kd n ++ [n] := by
    unfold grpF
    rw [List.range_succ, List.filter_append]
    have e1 : (List.range n).filter (fun i => kd' i == 3) = (List.range n).filter fun i => kd i == 3 := List.filter_congr fun i hi => by rw [hk i (List.mem_range.1 hi)]
    rw [e1]
    simp [hn]
  have hm : ∀ y ∈ grpF kd n, y < n ∧ kd y = 3 := fun y hy => (grp_mem kd n y).1 hy
  obtain ⟨r1, r2⟩ := rank_new f' (grpF kd n) n hfn (fun y hy => by rw [hf y (hm y hy).1]; exact hlow y (hm y hy).1) (fun y hy => (hm y hy).1)
  refine ⟨by unfold numF; rw [if_pos hn, eg]; exact r1, fun i hi h3 => ?_⟩
  have hi' : i ∈ grpF kd n := (grp_mem kd n i).2 ⟨hi, h3⟩
  unfold numF
  rw [if_pos (by rw [hk i hi]; exact h3), if_pos h3, eg, r2 i hi', rank_congr f' f (grpF kd n) (fun y hy => hf y (hm y hy).1) i hi']
end Go.Proofs.Ytlhlgohgmbkaoaa

/- Trees beside other trees, plainly. Nothing of the program is used. -/
import Derived.Test.YtlhlgohgmbkaoaaAk
namespace Go.Proofs.Ytlhlgohgmbkaoaa

theorem stepF_below (st base : List Nat) (k : Nat) (h : k ≤ st.length) : stepF (st ++ base) k = stepF st k ++ base := by
  rw [stepF, stepF, List.take_append_of_le_length h, List.drop_append_of_le_length h]
  rfl
/-- What stands ahead stays. -/
theorem stackF_below (base : List Nat) : ∀ (ks st st' : List Nat), stackF st ks = some st' → stackF (st ++ base) ks = some (st' ++ base)
  | [], st, st', h => by cases h; rfl
  | k :: ks, st, st', h => by
    rw [stackF] at h ⊢
    by_cases hk : k ≤ st.length
    · rw [if_pos hk] at h
      rw [if_pos (by rw [List.length_append]; omega), stepF_below st base k hk]
      exact stackF_below base ks _ _ h
    · rw [if_neg hk] at h; cases h
theorem sizesF_below (base : List Nat) : ∀ (ks st st' : List Nat), stackF st ks = some st' → sizesF (st ++ base) ks = sizesF st ks
  | [], _, _, _ => rfl
  | k :: ks, st, st', h => by
    rw [stackF] at h
    by_cases hk : k ≤ st.length
    · rw [if_pos hk] at h
      rw [sizesF, sizesF, stepF_below st base k hk, sizesF_below base ks _ _ h, List.take_append_of_le_length hk]
    · rw [if_neg hk] at h; cases h
theorem sizesF_append : ∀ (ks ls st st' : List Nat), stackF st ks = some st' → sizesF st (ks ++ ls) = sizesF st ks ++ sizesF st' ls
  | [], _, _, _, h => by cases h; rfl
  | k :: ks, ls, st, st', h => by
    rw [stackF] at h
    by_cases hk : k ≤ st.length
    · rw [if_pos hk] at h
      rw [List.cons_append, sizesF, sizesF, List.cons_append, sizesF_append ks ls _ _ h]
    · rw [if_neg hk] at h; cases h
theorem posF_append : ∀ (st base : List Nat) (i : Nat), posF i (st ++ base) = posF i st ++ posF (i - st.sum) base
  | [], base, i => by simp [posF]
  | z :: st, base, i => by
    rw [List.cons_append, posF, posF, List.cons_append, posF_append st base (i - z), List.sum_cons, Nat.sub_sub]
theorem posF_shift (d : Nat) : ∀ (st : List Nat) (i : Nat), (∀ x ∈ st, 0 < x) → st.sum ≤ i → posF (i + d) st = (posF i st).map (· + d)
  | [], _, _, _ => rfl
  | z :: st, i, hp, hs => by
    have hz := hp z (List.mem_cons_self ..)
    rw [List.sum_cons] at hs
    rw [posF, posF, List.map_cons, show i + d - z = (i - z) + d by omega, posF_shift d st (i - z) (fun x hx => hp x (List.mem_cons_of_mem _ hx)) (by omega), show i + d - 1 = i - 1 + d by omega]
theorem allKids_below (base : List Nat) (d : Nat) : ∀ (ks st st' : List Nat) (i : Nat), (∀ x ∈ st, 0 < x) → st.sum ≤ i → stackF st ks = some st' →
    allKids (i + d) (st ++ base) ks = (allKids i st ks).map (List.map (· + d))
  | [], _, _, _, _, _, _ => rfl
  | k :: ks, st, st', i, hp, hs, h => by
    rw [stackF] at h
    by_cases hk : k ≤ st.length
    · rw [if_pos hk] at h
      have hl : k ≤ (posF (i + d) st).length := by rw [posF_len]; exact hk
      rw [allKids, allKids, List.map_cons, stepF_below st base k hk, show i + d + 1 = i + 1 + d by omega,
        allKids_below base d ks _ _ (i + 1) (stepF_pos st k hp) (by rw [stepF_sum]; omega) h, posF_append, List.take_append_of_le_length hl, posF_shift d st i hp hs, List.map_take]
    · rw [if_neg hk] at h; cases h
theorem allKids_append : ∀ (ks ls st st' : List Nat) (i : Nat), stackF st ks = some st' → allKids i st (ks ++ ls) = allKids i st ks ++ allKids (i + ks.length) st' ls
  | [], _, _, _, _, h => by cases h; rfl
  | k :: ks, ls, st, st', i, h => by
    rw [stackF] at h
    by_cases hk : k ≤ st.length
    · rw [if_pos hk] at h
      rw [List.cons_append, allKids, allKids, List.cons_append, allKids_append ks ls _ _ (i + 1) h, List.length_cons, show i + 1 + ks.length = i + (ks.length + 1) by omega]
    · rw [if_neg hk] at h; cases h
end Go.Proofs.Ytlhlgohgmbkaoaa

/- Where a node's kids stand: side by side, right ahead of it. Nothing of the program is used. -/
import Derived.Test.YtlhlgohgmbkaoaaAf
namespace Go.Proofs.Ytlhlgohgmbkaoaa

theorem take_sum (s : List Nat) (j : Nat) (h : j < s.length) : (s.take (j + 1)).sum = (s.take j).sum + s[j] := by
  have e : s.take (j + 1) = s.take j ++ [s[j]] := by rw [List.take_add_one, List.getElem?_eq_getElem h]; rfl
  rw [e, List.sum_append]
  simp
theorem take_sum_le (s : List Nat) (j : Nat) : (s.take j).sum ≤ s.sum := by
  have h : s.sum = (s.take j).sum + (s.drop j).sum := by rw [← List.sum_append, List.take_append_drop]
  omega
theorem kid_at (s : List Nat) (i j : Nat) (hp : ∀ x ∈ s, 0 < x) (hs : s.sum ≤ i) (h : j < s.length) (h' : j < (posF i s).length) :
    (posF i s)[j] + 1 + (s.take j).sum = i ∧ (posF i s)[j] + 1 = s[j] + (i - (s.take (j + 1)).sum) := by
  have e := posF_get s i j h'
  have t := take_sum s j h
  have l := take_sum_le s (j + 1)
  have p := hp s[j] (List.getElem_mem h)
  rw [e]
  omega
/-- The size that stands at a kid's place. -/
theorem kid_size (out s : List Nat) (i j : Nat) (hi : out.length = i) (h : RootsF out s) (hj : j < s.length) (h' : j < (posF i s).length) : out[(posF i s)[j]]? = some s[j] := by
  obtain ⟨h1, h2⟩ := h j hj
  rw [posF_get s i j h', ← h2, hi]
  congr 1
  omega
/-- The sizes up to a node are what its stack says. -/
theorem roots_at (ks : List Nat) (i : Nat) (hi : i < ks.length) (s : List Nat) (hs : stackF [] (ks.take i) = some s) :
    RootsF (sizesF [] (ks.take i)) s ∧ (sizesF [] ks).take i = sizesF [] (ks.take i) ∧ (sizesF [] ks)[i]? = some (1 + (s.take ks[i]).sum) := by
  have hr := roots_all (ks.take i) [] [] s (by simp) (by intro j hj; simp at hj) hs
  rw [List.nil_append] at hr
  have e : ks = ks.take i ++ (ks[i] :: ks.drop (i + 1)) := by rw [← List.drop_eq_getElem_cons hi, List.take_append_drop]
  have hl : (sizesF [] (ks.take i)).length = i := by rw [sizesF_len, List.length_take]; omega
  have ea : sizesF [] ks = sizesF [] (ks.take i) ++ (1 + (s.take ks[i]).sum) :: sizesF (stepF s ks[i]) (ks.drop (i + 1)) := by
    have : ∀ (as bs st st' : List Nat), stackF st as = some st' → sizesF st (as ++ bs) = sizesF st as ++ sizesF st' bs := by
      intro as
      induction as with
      | nil => intro bs st st' h; cases h; rfl
      | cons a as ih =>
        intro bs st st' h
        rw [stackF] at h
        by_cases hk : a ≤ st.length
        · rw [if_pos hk] at h
          rw [List.cons_append, sizesF, sizesF, List.cons_append, ih bs _ _ h]
        · rw [if_neg hk] at h; cases h
    conv => lhs; rw [e]
    rw [this _ _ _ _ hs, sizesF]
  refine ⟨hr, ?_, ?_⟩
  · rw [ea, List.take_append_of_le_length (by omega), List.take_of_length_le (by omega)]
  · rw [ea, List.getElem?_append_right (by omega), hl, Nat.sub_self]
    rfl
end Go.Proofs.Ytlhlgohgmbkaoaa

/- The kids of nodes, plainly: each node but those that are left is just one node's kid. Nothing of the program is used. -/
import Derived.Test.YtlhlgohgmbkaoaaAp
namespace Go.Proofs.Ytlhlgohgmbkaoaa

/-- The roots' places behind i nodes, the last one first. -/
def posF : Nat → List Nat → List Nat
  | _, [] => []
  | i, z :: st => (i - 1) :: posF (i - z) st
theorem posF_len : ∀ (st : List Nat) (i : Nat), (posF i st).length = st.length
  | [], _ => rfl
  | z :: st, i => by rw [posF, List.length_cons, List.length_cons, posF_len st]
theorem posF_get : ∀ (st : List Nat) (i j : Nat) (h : j < (posF i st).length), (posF i st)[j] = i - (st.take j).sum - 1
  | z :: st, i, 0, _ => by simp [posF]
  | z :: st, i, j + 1, h => by
    have h' : j < (posF (i - z) st).length := by rw [posF_len] at h ⊢; simpa using h
    have := posF_get st (i - z) j h'
    simp only [posF, List.getElem_cons_succ, List.take_succ_cons, List.sum_cons]
    rw [this]
    omega
theorem posF_split : ∀ (k : Nat) (st : List Nat) (i : Nat), posF i st = (posF i st).take k ++ posF (i - (st.take k).sum) (st.drop k)
  | 0, st, i => by simp
  | k + 1, [], i => by simp [posF]
  | k + 1, z :: st, i => by
    rw [posF, List.take_succ_cons, List.take_succ_cons, List.drop_succ_cons, List.sum_cons, List.cons_append, ← Nat.sub_sub, ← posF_split k st (i - z)]
theorem posF_step (i : Nat) (st : List Nat) (k : Nat) : posF (i + 1) (stepF st k) = i :: posF (i - (st.take k).sum) (st.drop k) := by
  rw [stepF, posF, show i + 1 - (1 + (st.take k).sum) = i - (st.take k).sum by omega]
  rfl
/-- The kids of each node, from the right. -/
def allKids : Nat → List Nat → List Nat → List (List Nat)
  | _, _, [] => []
  | i, st, k :: ks => (posF i st).take k :: allKids (i + 1) (stepF st k) ks
theorem kids_once : ∀ (ks st st' : List Nat) (i : Nat), stackF st ks = some st' → ∀ x,
    (allKids i st ks).flatten.count x + (posF (i + ks.length) st').count x = (posF i st).count x + if i ≤ x ∧ x < i + ks.length then 1 else 0
  | [], st, st', i, h, x => by
    cases h
    rw [if_neg (by simp)]
    simp [allKids]
  | k :: ks, st, st', i, h, x => by
    rw [stackF] at h
    by_cases hk : k ≤ st.length
    · rw [if_pos hk] at h
      have ih := kids_once ks _ _ (i + 1) h x
      rw [posF_step, List.count_cons] at ih
      have hs : (posF i st).count x = ((posF i st).take k).count x + (posF (i - (st.take k).sum) (st.drop k)).count x := by
        conv => lhs; rw [posF_split k st i]
        rw [List.count_append]
      rw [allKids, List.flatten_cons, List.count_append, List.length_cons, show i + (ks.length + 1) = i + 1 + ks.length by omega, hs]
      by_cases hx : i = x
      · subst hx
        have e1 : (i == i) = true := by simp
        rw [e1, if_pos rfl, if_neg (by omega)] at ih
        rw [if_pos (by omega)]
        omega
      · have e1 : (i == x) = false := by simpa using hx
        rw [e1, if_neg (by decide)] at ih
        by_cases hx2 : i + 1 ≤ x ∧ x < i + 1 + ks.length
        · rw [if_pos hx2] at ih
          rw [if_pos (by omega)]
          omega
        · rw [if_neg hx2] at ih
          rw [if_neg (by omega)]
          omega
    · rw [if_neg hk] at h; cases h
/-- In a tree of n nodes each node but the last one is just one node's kid, and the last one none's. -/
theorem kids_tree (ks : List Nat) (n : Nat) (hn : ks.length = n) (h : stackF [] ks = some [n]) (x : Nat) (hx : x < n) : (allKids 0 [] ks).flatten.count x = if x = n - 1 then 0 else 1 := by
  have := kids_once ks [] [n] 0 h x
  rw [Nat.zero_add, hn, if_pos ⟨Nat.zero_le _, hx⟩] at this
  simp only [posF, List.count_nil, List.count_cons, Nat.zero_add] at this
  by_cases he : x = n - 1
  · subst he
    rw [if_pos rfl]
    simp at this
    omega
  · rw [if_neg he]
    have e : ((n - 1) == x) = false := by simpa using fun h => he h.symm
    rw [e] at this
    simpa using this
end Go.Proofs.Ytlhlgohgmbkaoaa

/- Trees as lists of nodes, plainly: the sizes of the trees that stand side by side, the last one first. Nothing of the program is used. -/
import Derived.WalkKit
namespace Go.Proofs.Ytlhlgohgmbkaoaa

/-- One node more, with k kids: it takes the last k trees. -/
def stepF (st : List Nat) (k : Nat) : List Nat := (1 + (st.take k).sum) :: st.drop k
/-- The trees behind some nodes, by their kids' numbers; none, if a node takes more than there are. -/
def stackF : List Nat → List Nat → Option (List Nat)
  | st, [] => some st
  | st, k :: ks => if k ≤ st.length then stackF (stepF st k) ks else none
theorem stackF_append (ks ls : List Nat) : ∀ st, stackF st (ks ++ ls) = (stackF st ks).bind fun st' => stackF st' ls := by
  induction ks with
  | nil => intro st; rfl
  | cons k ks ih =>
    intro st
    rw [List.cons_append, stackF, stackF]
    by_cases h : k ≤ st.length
    · rw [if_pos h, if_pos h]; exact ih _
    · rw [if_neg h, if_neg h]; rfl
theorem stackF_snoc (st : List Nat) (ks : List Nat) (k : Nat) : stackF st (ks ++ [k]) = (stackF st ks).bind fun st' => if k ≤ st'.length then some (stepF st' k) else none := by
  rw [stackF_append]
  cases stackF st ks with
  | none => rfl
  | some st' => show stackF st' [k] = _; rw [stackF]; rfl
theorem stepF_sum (st : List Nat) (k : Nat) : (stepF st k).sum = st.sum + 1 := by
  have h : st.sum = (st.take k).sum + (st.drop k).sum := by rw [← List.sum_append, List.take_append_drop]
  rw [stepF, List.sum_cons, h]
  omega
theorem stepF_len (st : List Nat) (k : Nat) : (stepF st k).length = st.length - k + 1 := by
  rw [stepF, List.length_cons, List.length_drop]
theorem stepF_pos (st : List Nat) (k : Nat) (h : ∀ x ∈ st, 0 < x) : ∀ x ∈ stepF st k, 0 < x := by
  intro x hx
  rw [stepF, List.mem_cons] at hx
  rcases hx with rfl | hx
  · omega
  · exact h x (List.mem_of_mem_drop hx)
theorem stackF_sum : ∀ (ks st st' : List Nat), stackF st ks = some st' → st'.sum = st.sum + ks.length
  | [], st, st', h => by cases h; rfl
  | k :: ks, st, st', h => by
    rw [stackF] at h
    by_cases hk : k ≤ st.length
    · rw [if_pos hk] at h
      rw [stackF_sum ks _ _ h, stepF_sum, List.length_cons]; omega
    · rw [if_neg hk] at h; cases h
theorem stackF_pos : ∀ (ks st st' : List Nat), (∀ x ∈ st, 0 < x) → stackF st ks = some st' → ∀ x ∈ st', 0 < x
  | [], st, st', h0, h => by cases h; exact h0
  | k :: ks, st, st', h0, h => by
    rw [stackF] at h
    by_cases hk : k ≤ st.length
    · rw [if_pos hk] at h
      exact stackF_pos ks _ _ (stepF_pos st k h0) h
    · rw [if_neg hk] at h; cases h
/-- The size of each node, in their order. -/
def sizesF : List Nat → List Nat → List Nat
  | _, [] => []
  | st, k :: ks => (1 + (st.take k).sum) :: sizesF (stepF st k) ks
theorem sizesF_len : ∀ (ks st : List Nat), (sizesF st ks).length = ks.length
  | [], _ => rfl
  | k :: ks, st => by rw [sizesF, List.length_cons, List.length_cons, sizesF_len ks]
theorem sizesF_snoc : ∀ (ks st st' : List Nat) (k : Nat), stackF st ks = some st' → sizesF st (ks ++ [k]) = sizesF st ks ++ [1 + (st'.take k).sum]
  | [], st, st', k, h => by cases h; rfl
  | j :: ks, st, st', k, h => by
    rw [stackF] at h
    by_cases hk : j ≤ st.length
    · rw [if_pos hk] at h
      rw [List.cons_append, sizesF, sizesF, List.cons_append, sizesF_snoc ks _ _ k h]
    · rw [if_neg hk] at h; cases h
/-- The trees' roots: at the place where the j-th tree from the end has its root stands its size. -/
def RootsF (out : List Nat) (st : List Nat) : Prop := ∀ j (h : j < st.length), (st.take j).sum < out.length ∧ out[out.length - 1 - (st.take j).sum]? = some st[j]
theorem roots_step (out st : List Nat) (k : Nat) (hk : k ≤ st.length) (h : RootsF out st) : RootsF (out ++ [1 + (st.take k).sum]) (stepF st k) := by
  intro j hj
  cases j with
  | zero => simp [stepF]
  | succ j =>
    rw [stepF_len st k] at hj
    have hj' : k + j < st.length := by omega
    obtain ⟨h1, h2⟩ := h (k + j) hj'
    have e1 : ((stepF st k).take (j + 1)).sum = 1 + (st.take (k + j)).sum := by
      rw [stepF, List.take_succ_cons, List.sum_cons, List.take_add, List.sum_append]
      omega
    have e2 : (stepF st k)[j + 1]'(by rw [stepF_len st k]; omega) = st[k + j] := by simp [stepF]
    have hl : (out ++ [1 + (st.take k).sum]).length = out.length + 1 := by simp
    refine ⟨by rw [e1, hl]; omega, ?_⟩
    rw [e1, e2, hl, List.getElem?_append_left (by omega), ← h2]
    congr 1
    omega
theorem roots_all : ∀ (ks st out st' : List Nat), (∀ x ∈ st, 0 < x) → RootsF out st → stackF st ks = some st' → RootsF (out ++ sizesF st ks) st'
  | [], st, out, st', _, h, hs => by cases hs; rw [sizesF, List.append_nil]; exact h
  | k :: ks, st, out, st', hp, h, hs => by
    rw [stackF] at hs
    by_cases hk : k ≤ st.length
    · rw [if_pos hk] at hs
      rw [sizesF, show out ++ (1 + (st.take k).sum) :: sizesF (stepF st k) ks = (out ++ [1 + (st.take k).sum]) ++ sizesF (stepF st k) ks by simp]
      exact roots_all ks _ _ _ (stepF_pos st k hp) (roots_step out st k hk h) hs
    · rw [if_neg hk] at hs; cases hs
end Go.Proofs.Ytlhlgohgmbkaoaa

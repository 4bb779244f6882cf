/- Texts put together: Ap Ak Af Aw. -/
import Derived.WalkKit
/- Trees as lists of nodes, plainly: the sizes of the trees that stand side by side, the last one first. Nothing of the program is used. -/
namespace Go.Proofs.YtpncomjpmilbkaaDoor

/-- One node more, with k kids: it takes the last k trees. -/
def stepF (st : List Nat) (k : Nat) : List Nat := (1 + (st.take k).sum) :: st.drop k
/-- The trees behind some nodes, by their kids' numbers; none, if a node takes more than there are. -/
def stackF : List Nat → List Nat → Option (List Nat)
  | st, [] => some st
  | st, k :: ks => if k ≤ st.length then stackF (stepF st k) ks else none
theorem stackF_append (ks ls : List Nat) : ∀ st, stackF st (ks ++ ls) = (stackF st ks).bind fun st' => stackF st' ls := by
  induction ks with
  | nil => intro st; rfl
  | cons k ks ih =>
    intro st
    rw [List.cons_append, stackF, stackF]
    by_cases h : k ≤ st.length
    · rw [if_pos h, if_pos h]; exact ih _
    · rw [if_neg h, if_neg h]; rfl
theorem stackF_snoc (st : List Nat) (ks : List Nat) (k : Nat) : stackF st (ks ++ [k]) = (stackF st ks).bind fun st' => if k ≤ st'.length then some (stepF st' k) else none := by
  rw [stackF_append]
  cases stackF st ks with
  | none => rfl
  | some st' => show stackF st' [k] = _; rw [stackF]; rfl
theorem stepF_sum (st : List Nat) (k : Nat) : (stepF st k).sum = st.sum + 1 := by
  have h : st.sum = (st.take k).sum + (st.drop k).sum := by rw [← List.sum_append, List.take_append_drop]
  rw [stepF, List.sum_cons, h]
  omega
theorem stepF_len (st : List Nat) (k : Nat) : (stepF st k).length = st.length - k + 1 := by
  rw [stepF, List.length_cons, List.length_drop]
theorem stepF_pos (st : List Nat) (k : Nat) (h : ∀ x ∈ st, 0 < x) : ∀ x ∈ stepF st k, 0 < x := by
  intro x hx
  rw [stepF, List.mem_cons] at hx
  rcases hx with rfl | hx
  · omega
  · exact h x (List.mem_of_mem_drop hx)
theorem stackF_sum : ∀ (ks st st' : List Nat), stackF st ks = some st' → st'.sum = st.sum + ks.length
  | [], st, st', h => by cases h; rfl
  | k :: ks, st, st', h => by
    rw [stackF] at h
    by_cases hk : k ≤ st.length
    · rw [if_pos hk] at h
      rw [stackF_sum ks _ _ h, stepF_sum, List.length_cons]; omega
    · rw [if_neg hk] at h; cases h
theorem stackF_pos : ∀ (ks st st' : List Nat), (∀ x ∈ st, 0 < x) → stackF st ks = some st' → ∀ x ∈ st', 0 < x
  | [], st, st', h0, h => by cases h; exact h0
  | k :: ks, st, st', h0, h => by
    rw [stackF] at h
    by_cases hk : k ≤ st.length
    · rw [if_pos hk] at h
      exact stackF_pos ks _ _ (stepF_pos st k h0) h
    · rw [if_neg hk] at h; cases h
/-- The size of each node, in their order. -/
def sizesF : List Nat → List Nat → List Nat
  | _, [] => []
  | st, k :: ks => (1 + (st.take k).sum) :: sizesF (stepF st k) ks
theorem sizesF_len : ∀ (ks st : List Nat), (sizesF st ks).length = ks.length
  | [], _ => rfl
  | k :: ks, st => by rw [sizesF, List.length_cons, List.length_cons, sizesF_len ks]
theorem sizesF_snoc : ∀ (ks st st' : List Nat) (k : Nat), stackF st ks = some st' → sizesF st (ks ++ [k]) = sizesF st ks ++ [1 + (st'.take k).sum]
  | [], st, st', k, h => by cases h; rfl
  | j :: ks, st, st', k, h => by
    rw [stackF] at h
    by_cases hk : j ≤ st.length
    · rw [if_pos hk] at h
      rw [List.cons_append, sizesF, sizesF, List.cons_append, sizesF_snoc ks _ _ k h]
    · rw [if_neg hk] at h; cases h
/-- The trees' roots: at the place where the j-th tree from the end has its root stands its size. -/
def RootsF (out : List Nat) (st : List Nat) : Prop := ∀ j (h : j < st.length), (st.take j).sum < out.length ∧ out[out.length - 1 - (st.take j).sum]? = some st[j]
theorem roots_step (out st : List Nat) (k : Nat) (hk : k ≤ st.length) (h : RootsF out st) : RootsF (out ++ [1 + (st.take k).sum]) (stepF st k) := by
  intro j hj
  cases j with
  | zero => simp [stepF]
  | succ j =>
    rw [stepF_len st k] at hj
    have hj' : k + j < st.length := by omega
    obtain ⟨h1, h2⟩ := h (k + j) hj'
    have e1 : ((stepF st k).take (j + 1)).sum = 1 + (st.take (k + j)).sum := by
      rw [stepF, List.take_succ_cons, List.sum_cons, List.take_add, List.sum_append]
      omega
    have e2 : (stepF st k)[j + 1]'(by rw [stepF_len st k]; omega) = st[k + j] := by simp [stepF]
    have hl : (out ++ [1 + (st.take k).sum]).length = out.length + 1 := by simp
    refine ⟨by rw [e1, hl]; omega, ?_⟩
    rw [e1, e2, hl, List.getElem?_append_left (by omega), ← h2]
    congr 1
    omega
theorem roots_all : ∀ (ks st out st' : List Nat), (∀ x ∈ st, 0 < x) → RootsF out st → stackF st ks = some st' → RootsF (out ++ sizesF st ks) st'
  | [], st, out, st', _, h, hs => by cases hs; rw [sizesF, List.append_nil]; exact h
  | k :: ks, st, out, st', hp, h, hs => by
    rw [stackF] at hs
    by_cases hk : k ≤ st.length
    · rw [if_pos hk] at hs
      rw [sizesF, show out ++ (1 + (st.take k).sum) :: sizesF (stepF st k) ks = (out ++ [1 + (st.take k).sum]) ++ sizesF (stepF st k) ks by simp]
      exact roots_all ks _ _ _ (stepF_pos st k hp) (roots_step out st k hk h) hs
    · rw [if_neg hk] at hs; cases hs
end Go.Proofs.YtpncomjpmilbkaaDoor

/- The kids of nodes, plainly: each node but those that are left is just one node's kid. Nothing of the program is used. -/
namespace Go.Proofs.YtpncomjpmilbkaaDoor

/-- The roots' places behind i nodes, the last one first. -/
def posF : Nat → List Nat → List Nat
  | _, [] => []
  | i, z :: st => (i - 1) :: posF (i - z) st
theorem posF_len : ∀ (st : List Nat) (i : Nat), (posF i st).length = st.length
  | [], _ => rfl
  | z :: st, i => by rw [posF, List.length_cons, List.length_cons, posF_len st]
theorem posF_get : ∀ (st : List Nat) (i j : Nat) (h : j < (posF i st).length), (posF i st)[j] = i - (st.take j).sum - 1
  | z :: st, i, 0, _ => by simp [posF]
  | z :: st, i, j + 1, h => by
    have h' : j < (posF (i - z) st).length := by rw [posF_len] at h ⊢; simpa using h
    have := posF_get st (i - z) j h'
    simp only [posF, List.getElem_cons_succ, List.take_succ_cons, List.sum_cons]
    rw [this]
    omega
theorem posF_split : ∀ (k : Nat) (st : List Nat) (i : Nat), posF i st = (posF i st).take k ++ posF (i - (st.take k).sum) (st.drop k)
  | 0, st, i => by simp
  | k + 1, [], i => by simp [posF]
  | k + 1, z :: st, i => by
    rw [posF, List.take_succ_cons, List.take_succ_cons, List.drop_succ_cons, List.sum_cons, List.cons_append, ← Nat.sub_sub, ← posF_split k st (i - z)]
theorem posF_step (i : Nat) (st : List Nat) (k : Nat) : posF (i + 1) (stepF st k) = i :: posF (i - (st.take k).sum) (st.drop k) := by
  rw [stepF, posF, show i + 1 - (1 + (st.take k).sum) = i - (st.take k).sum by omega]
  rfl
/-- The kids of each node, from the right. -/
def allKids : Nat → List Nat → List Nat → List (List Nat)
  | _, _, [] => []
  | i, st, k :: ks => (posF i st).take k :: allKids (i + 1) (stepF st k) ks
theorem kids_once : ∀ (ks st st' : List Nat) (i : Nat), stackF st ks = some st' → ∀ x,
    (allKids i st ks).flatten.count x + (posF (i + ks.length) st').count x = (posF i st).count x + if i ≤ x ∧ x < i + ks.length then 1 else 0
  | [], st, st', i, h, x => by
    cases h
    rw [if_neg (by simp)]
    simp [allKids]
  | k :: ks, st, st', i, h, x => by
    rw [stackF] at h
    by_cases hk : k ≤ st.length
    · rw [if_pos hk] at h
      have ih := kids_once ks _ _ (i + 1) h x
      rw [posF_step, List.count_cons] at ih
      have hs : (posF i st).count x = ((posF i st).take k).count x + (posF (i - (st.take k).sum) (st.drop k)).count x := by
        conv => lhs; rw [posF_split k st i]
        rw [List.count_append]
      rw [allKids, List.flatten_cons, List.count_append, List.length_cons, show i + (ks.length + 1) = i + 1 + ks.length by omega, hs]
      by_cases hx : i = x
      · subst hx
        have e1 : (i == i) = true := by simp
        rw [e1, if_pos rfl, if_neg (by omega)] at ih
        rw [if_pos (by omega)]
        omega
      · have e1 : (i == x) = false := by simpa using hx
        rw [e1, if_neg (by decide)] at ih
        by_cases hx2 : i + 1 ≤ x ∧ x < i + 1 + ks.length
        · rw [if_pos hx2] at ih
          rw [if_pos (by omega)]
          omega
        · rw [if_neg hx2] at ih
          rw [if_neg (by omega)]
          omega
    · rw [if_neg hk] at h; cases h
/-- In a tree of n nodes each node but the last one is just one node's kid, and the last one none's. -/
theorem kids_tree (ks : List Nat) (n : Nat) (hn : ks.length = n) (h : stackF [] ks = some [n]) (x : Nat) (hx : x < n) : (allKids 0 [] ks).flatten.count x = if x = n - 1 then 0 else 1 := by
  have := kids_once ks [] [n] 0 h x
  rw [Nat.zero_add, hn, if_pos ⟨Nat.zero_le _, hx⟩] at this
  simp only [posF, List.count_nil, List.count_cons, Nat.zero_add] at this
  by_cases he : x = n - 1
  · subst he
    rw [if_pos rfl]
    simp at this
    omega
  · rw [if_neg he]
    have e : ((n - 1) == x) = false := by simpa using fun h => he h.symm
    rw [e] at this
    simpa using this
end Go.Proofs.YtpncomjpmilbkaaDoor

/- Is a list of nodes a tree: plainly, by how many things there are. Nothing of the program is used. -/
namespace Go.Proofs.YtpncomjpmilbkaaDoor

/-- How many things there are behind some nodes, by their kids' numbers. -/
def manyF : Nat → List Int → Option Nat
  | m, [] => some m
  | m, k :: ks => if k < 0 ∨ (m : Int) < k then none else manyF (m - k.toNat + 1) ks
theorem many_stack : ∀ (ks : List Int) (st : List Nat), manyF st.length ks = if (ks.all fun k => decide (0 ≤ k)) = true then (stackF st (ks.map Int.toNat)).map List.length else none
  | [], st => rfl
  | k :: ks, st => by
    rw [manyF, List.all_cons, List.map_cons, stackF]
    by_cases h0 : k < 0
    · rw [if_pos (.inl h0), decide_eq_false (show ¬ 0 ≤ k by omega), Bool.false_and, if_neg (by decide)]
    · rw [decide_eq_true (show 0 ≤ k by omega), Bool.true_and]
      by_cases h1 : (st.length : Int) < k
      · rw [if_pos (.inr h1), if_neg (show ¬ k.toNat ≤ st.length by omega)]
        split <;> rfl
      · rw [if_neg (by omega), if_pos (show k.toNat ≤ st.length by omega), ← stepF_len st k.toNat]
        exact many_stack ks (stepF st k.toNat)
/-- **A list is a tree just if one tree of all nodes is left.** -/
theorem formed_iff (ks : List Int) : manyF 0 ks = some 1 ↔ (∀ k ∈ ks, 0 ≤ k) ∧ stackF [] (ks.map Int.toNat) = some [ks.length] := by
  have h := many_stack ks []
  rw [show ([] : List Nat).length = 0 from rfl] at h
  rw [h]
  have hall : ((ks.all fun k => decide (0 ≤ k)) = true) ↔ ∀ k ∈ ks, 0 ≤ k := by simp
  by_cases ha : (ks.all fun k => decide (0 ≤ k)) = true
  · rw [if_pos ha]
    constructor
    · intro h1
      refine ⟨hall.1 ha, ?_⟩
      cases hs : stackF [] (ks.map Int.toNat) with
      | none => rw [hs] at h1; cases h1
      | some st =>
        rw [hs] at h1
        have hl : st.length = 1 := by simpa using h1
        have hsum := stackF_sum _ _ _ hs
        obtain ⟨x, rfl⟩ := List.length_eq_one_iff.1 hl
        simp at hsum
        rw [hsum]
    · rintro ⟨_, h2⟩
      rw [h2]; rfl
  · rw [if_neg ha]
    constructor
    · intro h1; cases h1
    · rintro ⟨h1, _⟩; exact absurd (hall.2 h1) ha
/-- Behind each node that a tree has, there is a stack. -/
theorem stack_prefix (ks : List Nat) (st st' : List Nat) (h : stackF st ks = some st') (i : Nat) (_hi : i ≤ ks.length) : ∃ s, stackF st (ks.take i) = some s := by
  have e : ks = ks.take i ++ ks.drop i := (List.take_append_drop i ks).symm
  rw [e, stackF_append] at h
  cases hs : stackF st (ks.take i) with
  | none => rw [hs] at h; cases h
  | some s => exact ⟨s, rfl⟩
/-- A node's kids are as many as it says, and stand ahead of it. -/
theorem stack_at (ks : List Nat) (st st' : List Nat) (h : stackF st ks = some st') (i : Nat) (hi : i < ks.length) : ∃ s, stackF st (ks.take i) = some s ∧ ks[i] ≤ s.length ∧ s.sum = st.sum + i := by
  obtain ⟨s, hs⟩ := stack_prefix ks st st' h i (by omega)
  have e : ks = ks.take i ++ (ks[i] :: ks.drop (i + 1)) := by rw [← List.drop_eq_getElem_cons hi, List.take_append_drop]
  refine ⟨s, hs, ?_, ?_⟩
  · rw [e, stackF_append, hs] at h
    have h' : stackF s (ks[i] :: ks.drop (i + 1)) = some st' := h
    rw [stackF] at h'
    by_cases hk : ks[i] ≤ s.length
    · exact hk
    · rw [if_neg hk] at h'; cases h'
  · have := stackF_sum _ _ _ hs
    rw [this, List.length_take]
    omega
end Go.Proofs.YtpncomjpmilbkaaDoor

/- Trees beside other trees, plainly. Nothing of the program is used. -/
namespace Go.Proofs.YtpncomjpmilbkaaDoor

theorem stepF_below (st base : List Nat) (k : Nat) (h : k ≤ st.length) : stepF (st ++ base) k = stepF st k ++ base := by
  rw [stepF, stepF, List.take_append_of_le_length h, List.drop_append_of_le_length h]
  rfl
/-- What stands ahead stays. -/
theorem stackF_below (base : List Nat) : ∀ (ks st st' : List Nat), stackF st ks = some st' → stackF (st ++ base) ks = some (st' ++ base)
  | [], st, st', h => by cases h; rfl
  | k :: ks, st, st', h => by
    rw [stackF] at h ⊢
    by_cases hk : k ≤ st.length
    · rw [if_pos hk] at h
      rw [if_pos (by rw [List.length_append]; omega), stepF_below st base k hk]
      exact stackF_below base ks _ _ h
    · rw [if_neg hk] at h; cases h
theorem sizesF_below (base : List Nat) : ∀ (ks st st' : List Nat), stackF st ks = some st' → sizesF (st ++ base) ks = sizesF st ks
  | [], _, _, _ => rfl
  | k :: ks, st, st', h => by
    rw [stackF] at h
    by_cases hk : k ≤ st.length
    · rw [if_pos hk] at h
      rw [sizesF, sizesF, stepF_below st base k hk, sizesF_below base ks _ _ h, List.take_append_of_le_length hk]
    · rw [if_neg hk] at h; cases h
theorem sizesF_append : ∀ (ks ls st st' : List Nat), stackF st ks = some st' → sizesF st (ks ++ ls) = sizesF st ks ++ sizesF st' ls
  | [], _, _, _, h => by cases h; rfl
  | k :: ks, ls, st, st', h => by
    rw [stackF] at h
    by_cases hk : k ≤ st.length
    · rw [if_pos hk] at h
      rw [List.cons_append, sizesF, sizesF, List.cons_append, sizesF_append ks ls _ _ h]
    · rw [if_neg hk] at h; cases h
theorem posF_append : ∀ (st base : List Nat) (i : Nat), posF i (st ++ base) = posF i st ++ posF (i - st.sum) base
  | [], base, i => by simp [posF]
  | z :: st, base, i => by
    rw [List.cons_append, posF, posF, List.cons_append, posF_append st base (i - z), List.sum_cons, Nat.sub_sub]
theorem posF_shift (d : Nat) : ∀ (st : List Nat) (i : Nat), (∀ x ∈ st, 0 < x) → st.sum ≤ i → posF (i + d) st = (posF i st).map (· + d)
  | [], _, _, _ => rfl
  | z :: st, i, hp, hs => by
    have hz := hp z (List.mem_cons_self ..)
    rw [List.sum_cons] at hs
    rw [posF, posF, List.map_cons, show i + d - z = (i - z) + d by omega, posF_shift d st (i - z) (fun x hx => hp x (List.mem_cons_of_mem _ hx)) (by omega), show i + d - 1 = i - 1 + d by omega]
theorem allKids_below (base : List Nat) (d : Nat) : ∀ (ks st st' : List Nat) (i : Nat), (∀ x ∈ st, 0 < x) → st.sum ≤ i → stackF st ks = some st' →
    allKids (i + d) (st ++ base) ks = (allKids i st ks).map (List.map (· + d))
  | [], _, _, _, _, _, _ => rfl
  | k :: ks, st, st', i, hp, hs, h => by
    rw [stackF] at h
    by_cases hk : k ≤ st.length
    · rw [if_pos hk] at h
      have hl : k ≤ (posF (i + d) st).length := by rw [posF_len]; exact hk
      rw [allKids, allKids, List.map_cons, stepF_below st base k hk, show i + d + 1 = i + 1 + d by omega,
        allKids_below base d ks _ _ (i + 1) (stepF_pos st k hp) (by rw [stepF_sum]; omega) h, posF_append, List.take_append_of_le_length hl, posF_shift d st i hp hs, List.map_take]
    · rw [if_neg hk] at h; cases h
theorem allKids_append : ∀ (ks ls st st' : List Nat) (i : Nat), stackF st ks = some st' → allKids i st (ks ++ ls) = allKids i st ks ++ allKids (i + ks.length) st' ls
  | [], _, _, _, _, h => by cases h; rfl
  | k :: ks, ls, st, st', i, h => by
    rw [stackF] at h
    by_cases hk : k ≤ st.length
    · rw [if_pos hk] at h
      rw [List.cons_append, allKids, allKids, List.cons_append, allKids_append ks ls _ _ (i + 1) h, List.length_cons, show i + 1 + ks.length = i + (ks.length + 1) by omega]
    · rw [if_neg hk] at h; cases h
end Go.Proofs.YtpncomjpmilbkaaDoor

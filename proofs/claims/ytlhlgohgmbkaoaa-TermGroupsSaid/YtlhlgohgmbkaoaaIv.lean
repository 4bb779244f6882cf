/- Terms, plainly: the first node of each one, step by step. Stage 10. -/
import Derived.Test.YtlhlgohgmbkaoaaIw
namespace Go.Proofs.Ytlhlgohgmbkaoaa
open Go.RowKit BS

/-- The first node of what node j is, by the trees ahead of it. -/
def lowV (l : List NdN) (j : Nat) : Nat := match trT l j with | some s => j - (s.take ((psT l).getD j 0)).sum | none => 0
theorem trT_pos (l : List NdN) (i : Nat) (s : List Nat) (h : trT l i = some s) : (∀ z ∈ s, 0 < z) ∧ s.sum = i := by
  obtain ⟨h1, h2⟩ := trT_stack l i s h
  refine ⟨stackF_pos _ [] s (by simp) h2, ?_⟩
  have := stackF_sum _ _ _ h2
  rw [List.length_take, psT_len] at this
  simp at this
  omega
theorem lowV_of (l : List NdN) (j : Nat) (s : List Nat) (h : trT l j = some s) (hj : j < l.length) : lowV l j = j - (s.take (pcT l[j].kind)).sum := by
  have e : (psT l).getD j 0 = pcT l[j].kind := by
    rw [List.getD_eq_getElem?_getD, List.getElem?_eq_getElem (by rw [psT_len]; exact hj), Option.getD_some, psT_get l j hj]
  have e1 : lowV l j = match trT l j with | some s => j - (s.take ((psT l).getD j 0)).sum | none => 0 := rfl
  rw [e1, h, e]
theorem lowV_le (l : List NdN) (j : Nat) : lowV l j ≤ j := by
  unfold lowV
  split
  · exact Nat.sub_le _ _
  · exact Nat.zero_le _
theorem lowV_size (l : List NdN) (i : Nat) (s : List Nat) (h : trT l i = some s) (j : Nat) (hj : j < i) : (sizesF [] ((psT l).take i))[j]? = some (j + 1 - lowV l j) := by
  have hil := (trT_stack l i s h).1
  have hpl := psT_len l
  obtain ⟨t, ht⟩ := trT_before l i s h j (by omega)
  have hts := (trT_stack l j t ht).2
  have hsum := (trT_pos l j t ht).2
  have e : ((psT l).take i).take j = (psT l).take j := by rw [List.take_take, Nat.min_eq_left (by omega)]
  have hr := (roots_at ((psT l).take i) j (by rw [List.length_take]; omega) t (by rw [e]; exact hts)).2.2
  rw [hr, lowV_of l j t ht (by omega), List.getElem_take, psT_get l j (by omega)]
  have := take_sum_le t (pcT l[j].kind)
  congr 1
  omega
/-- Where the trees ahead stand, and where each begins. -/
theorem low_part (l : List NdN) (i : Nat) (s : List Nat) (h : trT l i = some s) (j : Nat) (hj : j < s.length) : (s.take j).sum < i ∧ lowV l (i - 1 - (s.take j).sum) = i - (s.take (j + 1)).sum := by
  have hil := (trT_stack l i s h).1
  have hst := (trT_stack l i s h).2
  have hpl := psT_len l
  have hr := roots_all ((psT l).take i) [] [] s (by simp) (by intro j hj; simp at hj) hst
  rw [List.nil_append] at hr
  obtain ⟨h1, h2⟩ := hr j hj
  have hl : (sizesF [] ((psT l).take i)).length = i := by rw [sizesF_len, List.length_take]; omega
  rw [hl] at h1 h2
  refine ⟨h1, ?_⟩
  rw [lowV_size l i s h _ (by omega)] at h2
  have h3 := Option.some.inj h2
  have h4 := take_sum s j hj
  have h5 := lowV_le l (i - 1 - (s.take j).sum)
  have h6 := (trT_pos l i s h).1 s[j] (List.getElem_mem hj)
  omega
/-- Where A must stand; where node i begins. -/
def atT (l : List NdN) (i : Nat) : Int := if (psT l).getD i 0 = 2 then (lowV l (i - 1) : Int) - 1 else (i : Int) - 1
def loT (l : List NdN) (i : Nat) : Nat := if (psT l).getD i 0 = 0 then i else lowV l (atT l i).toNat
/-- **What is asked of node i.** -/
theorem fine_go (l : List NdN) (i : Nat) (s : List Nat) (h : trT l i = some s) (hi : i < l.length) :
    fineT l s i l[i] = true ↔ kindT l[i] = true ∧ (pcT l[i].kind = 2 → 0 < i ∧ l[i].n = (i : Int) - 1) ∧ (pcT l[i].kind ≠ 0 → 0 ≤ atT l i ∧ l[i].kids = atT l i) ∧ noT l l[i] (loT l i) i = true := by
  have e : (psT l).getD i 0 = pcT l[i].kind := by
    rw [List.getD_eq_getElem?_getD, List.getElem?_eq_getElem (by rw [psT_len]; exact hi), Option.getD_some, psT_get l i hi]
  obtain ⟨hpos, hsum⟩ := trT_pos l i s h
  have hp := fun j hj => low_part l i s h j hj
  unfold fineT loT atT
  rw [e]
  simp only [Bool.and_eq_true, decide_eq_true_eq]
  unfold argT
  generalize hx : l[i] = x at *
  clear hx
  have hpk := pc_kinds x.kind
  obtain _ | ⟨z, s⟩ := s
  · simp only [List.sum_nil] at hsum
    subst hsum
    rcases hpk with c | c | c
    · rw [c]; simp
    · rw [c]; simp
    · rw [c]; simp
  · have hz := hpos z (List.mem_cons_self ..)
    have p0 := hp 0 (by simp)
    simp only [List.take_zero, List.sum_nil, Nat.sub_zero, Nat.zero_add, List.take_succ_cons, List.sum_cons, Nat.add_zero] at p0
    simp only [List.sum_cons] at hsum
    have hi0 : 0 < i := p0.1
    have c1 : ((i - 1 : Nat) : Int) = (i : Int) - 1 := by omega
    rcases hpk with c | c | c
    · rw [c]; simp
    · rw [c]
      simp only [posF, List.getD_cons_zero, List.take_succ_cons, List.take_zero, List.sum_cons, List.sum_nil, Nat.add_zero, List.length_cons]
      rw [if_pos trivial, if_neg (by decide), if_neg (by decide), if_neg (by decide), decide_eq_true_eq, c1, show ((i : Int) - 1).toNat = i - 1 by omega, p0.2]
      constructor
      · rintro ⟨h1, _, h3, h4⟩
        exact ⟨h1, fun h => by omega, fun _ => ⟨by omega, h3⟩, h4⟩
      · rintro ⟨h1, _, h3, h4⟩
        exact ⟨h1, by omega, (h3 (by decide)).2, h4⟩
    · rw [c]
      rw [if_pos rfl, if_pos rfl, if_neg (by decide), p0.2]
      obtain _ | ⟨u, s⟩ := s
      · simp only [List.sum_nil] at hsum
        constructor
        · rintro ⟨_, h2, _⟩
          simp at h2
        · rintro ⟨_, _, h3, _⟩
          have := (h3 (by decide)).1
          omega
      · have hu := hpos u (by simp)
        have p1 := hp 1 (by simp)
        simp only [List.take_succ_cons, List.take_zero, List.sum_cons, List.sum_nil, Nat.add_zero] at p1
        simp only [List.sum_cons] at hsum
        simp only [posF, List.getD_cons_zero, List.getD_cons_succ, List.take_succ_cons, List.take_zero, List.sum_cons, List.sum_nil, Nat.add_zero, List.length_cons]
        rw [decide_eq_true_eq, c1, show (((i - z : Nat) : Int) - 1).toNat = i - 1 - z by omega, p1.2, show ((i - z - 1 : Nat) : Int) = ((i - z : Nat) : Int) - 1 by omega]
        constructor
        · rintro ⟨h1, _, h3, h4⟩
          exact ⟨h1, fun _ => ⟨hi0, h3.1⟩, fun _ => ⟨by omega, h3.2⟩, h4⟩
        · rintro ⟨h1, h2, h3, h4⟩
          exact ⟨h1, by omega, ⟨(h2 (by trivial)).2, (h3 (by decide)).2⟩, h4⟩
/-- It begins there. -/
theorem lowV_lo (l : List NdN) (i : Nat) (s : List Nat) (h : trT l i = some s) (hi : i < l.length) (hf : fineT l s i l[i] = true) : lowV l i = loT l i := by
  have e : (psT l).getD i 0 = pcT l[i].kind := by
    rw [List.getD_eq_getElem?_getD, List.getElem?_eq_getElem (by rw [psT_len]; exact hi), Option.getD_some, psT_get l i hi]
  have hl := fineT_len l s i _ hf
  have hp := fun j hj => low_part l i s h j hj
  obtain ⟨hpos, hsum⟩ := trT_pos l i s h
  rw [lowV_of l i s h hi]
  unfold loT atT
  rw [e]
  rcases pc_kinds l[i].kind with c | c | c
  · rw [c]; simp
  · rw [c] at hl ⊢
    have p0 := hp 0 (by omega)
    rw [if_neg (by decide), if_neg (by decide), show ((i : Int) - 1).toNat = i - 1 by omega]
    simp only [List.take_zero, List.sum_nil, Nat.sub_zero, Nat.zero_add] at p0
    exact p0.2.symm
  · rw [c] at hl ⊢
    have p0 := hp 0 (by omega)
    have p1 := hp 1 (by omega)
    rw [if_neg (by decide), if_pos rfl]
    simp only [List.take_zero, List.sum_nil, Nat.sub_zero, Nat.zero_add] at p0
    rw [p0.2]
    have := take_sum_le s 1
    rw [show (((i - (s.take 1).sum : Nat) : Int) - 1).toNat = i - 1 - (s.take 1).sum by omega]
    exact p1.2.symm
/-- **All is one term, if the last node begins at the first one.** -/
theorem trT_root (l : List NdN) (s : List Nat) (h : trT l l.length = some s) (hl : 0 < l.length) : s = [l.length] ↔ lowV l (l.length - 1) = 0 := by
  obtain ⟨hpos, hsum⟩ := trT_pos l _ s h
  obtain _ | ⟨z, s⟩ := s
  · simp at hsum; omega
  · have p0 := low_part l _ _ h 0 (by simp)
    simp only [List.take_zero, List.sum_nil, Nat.sub_zero, Nat.zero_add, List.take_succ_cons, List.sum_cons, Nat.add_zero] at p0
    simp only [List.sum_cons] at hsum
    rw [p0.2]
    constructor
    · intro e
      cases e
      omega
    · intro e
      have : s = [] := by
        cases s with
        | nil => rfl
        | cons u s =>
          have := hpos u (by simp)
          simp only [List.sum_cons] at hsum
          omega
      subst this
      simp only [List.sum_nil] at hsum
      rw [show z = l.length by omega]
theorem lowT_V (l : List NdN) (h : TermQ l) (i : Nat) (hi : i < l.length) : lowT l i = (lowV l i : Int) := by
  obtain ⟨h1, h2, h3⟩ := of_decide_eq_true (q_right l h)
  have hs := lowV_size l _ _ h1 i hi
  rw [List.take_of_length_le (by rw [psT_len]; exact Nat.le_refl _)] at hs
  have hf := formed_as l h
  have hR := (formed_stack (asL l) hf).2.2.2.2
  unfold lowT
  rw [List.getD_eq_getElem?_getD, hR, List.getElem?_map, ksN_as, hs]
  have := lowV_le l i
  show (i : Int) + 1 - ((i + 1 - lowV l i : Nat) : Int) = _
  omega
end Go.Proofs.Ytlhlgohgmbkaoaa

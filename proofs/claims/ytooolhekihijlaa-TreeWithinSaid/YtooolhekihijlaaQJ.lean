/- Texts put together: Iv Ik Xa Trb Tri Trc Iu. -/
import Derived.Test.YtooolhekihijlaaQI
import Derived.Test.YtooolhekihijlaaQA
import Derived.Test.YtooolhekihijlaaQG
import Derived.Test.YtooolhekihijlaaQC
import Derived.WalkLawsBesides
import Derived.Laws.StructEq
import Derived.Deep.QuietTactic
import Derived.Lib.Hide
import Derived.Outline
import Derived.Deep.DeepCutAuto
/- Terms, plainly: the first node of each one, step by step. Stage 10. -/
namespace Go.Proofs.Ytooolhekihijlaa
open Go.RowKit BS

/-- The first node of what node j is, by the trees ahead of it. -/
def lowV (l : List NdN) (j : Nat) : Nat := match trT l j with | some s => j - (s.take ((psT l).getD j 0)).sum | none => 0
theorem trT_pos (l : List NdN) (i : Nat) (s : List Nat) (h : trT l i = some s) : (∀ z ∈ s, 0 < z) ∧ s.sum = i := by
  obtain ⟨h1, h2⟩ := trT_stack l i s h
  refine ⟨stackF_pos _ [] s (by simp) h2, ?_⟩
  have := stackF_sum _ _ _ h2
  rw [List.length_take, psT_len] at this
  simp at this
  omega
theorem lowV_of (l : List NdN) (j : Nat) (s : List Nat) (h : trT l j = some s) (hj : j < l.length) : lowV l j = j - (s.take (pcT l[j].kind)).sum := by
  have e : (psT l).getD j 0 = pcT l[j].kind := by
    rw [List.getD_eq_getElem?_getD, List.getElem?_eq_getElem (by rw [psT_len]; exact hj), Option.getD_some, psT_get l j hj]
  have e1 : lowV l j = match trT l j with | some s => j - (s.take ((psT l).getD j 0)).sum | none => 0 := rfl
  rw [e1, h, e]
theorem lowV_le (l : List NdN) (j : Nat) : lowV l j ≤ j := by
  unfold lowV
  split
  · exact Nat.sub_le _ _
  · exact Nat.zero_le _
theorem lowV_size (l : List NdN) (i : Nat) (s : List Nat) (h : trT l i = some s) (j : Nat) (hj : j < i) : (sizesF [] ((psT l).take i))[j]? = some (j + 1 - lowV l j) := by
  have hil := (trT_stack l i s h).1
  have hpl := psT_len l
  obtain ⟨t, ht⟩ := trT_before l i s h j (by omega)
  have hts := (trT_stack l j t ht).2
  have hsum := (trT_pos l j t ht).2
  have e : ((psT l).take i).take j = (psT l).take j := by rw [List.take_take, Nat.min_eq_left (by omega)]
  have hr := (roots_at ((psT l).take i) j (by rw [List.length_take]; omega) t (by rw [e]; exact hts)).2.2
  rw [hr, lowV_of l j t ht (by omega), List.getElem_take, psT_get l j (by omega)]
  have := take_sum_le t (pcT l[j].kind)
  congr 1
  omega
/-- Where the trees ahead stand, and where each begins. -/
theorem low_part (l : List NdN) (i : Nat) (s : List Nat) (h : trT l i = some s) (j : Nat) (hj : j < s.length) : (s.take j).sum < i ∧ lowV l (i - 1 - (s.take j).sum) = i - (s.take (j + 1)).sum := by
  have hil := (trT_stack l i s h).1
  have hst := (trT_stack l i s h).2
  have hpl := psT_len l
  have hr := roots_all ((psT l).take i) [] [] s (by simp) (by intro j hj; simp at hj) hst
  rw [List.nil_append] at hr
  obtain ⟨h1, h2⟩ := hr j hj
  have hl : (sizesF [] ((psT l).take i)).length = i := by rw [sizesF_len, List.length_take]; omega
  rw [hl] at h1 h2
  refine ⟨h1, ?_⟩
  rw [lowV_size l i s h _ (by omega)] at h2
  have h3 := Option.some.inj h2
  have h4 := take_sum s j hj
  have h5 := lowV_le l (i - 1 - (s.take j).sum)
  have h6 := (trT_pos l i s h).1 s[j] (List.getElem_mem hj)
  omega
/-- Where A must stand; where node i begins. -/
def atT (l : List NdN) (i : Nat) : Int := if (psT l).getD i 0 = 2 then (lowV l (i - 1) : Int) - 1 else (i : Int) - 1
def loT (l : List NdN) (i : Nat) : Nat := if (psT l).getD i 0 = 0 then i else lowV l (atT l i).toNat
/-- **What is asked of node i.** -/
theorem fine_go (l : List NdN) (i : Nat) (s : List Nat) (h : trT l i = some s) (hi : i < l.length) :
    fineT l s i l[i] = true ↔ kindT l[i] = true ∧ (pcT l[i].kind = 2 → 0 < i ∧ l[i].n = (i : Int) - 1) ∧ (pcT l[i].kind ≠ 0 → 0 ≤ atT l i ∧ l[i].kids = atT l i) ∧ noT l l[i] (loT l i) i = true := by
  have e : (psT l).getD i 0 = pcT l[i].kind := by
    rw [List.getD_eq_getElem?_getD, List.getElem?_eq_getElem (by rw [psT_len]; exact hi), Option.getD_some, psT_get l i hi]
  obtain ⟨hpos, hsum⟩ := trT_pos l i s h
  have hp := fun j hj => low_part l i s h j hj
  unfold fineT loT atT
  rw [e]
  simp only [Bool.and_eq_true, decide_eq_true_eq]
  unfold argT
  generalize hx : l[i] = x at *
  clear hx
  have hpk := pc_kinds x.kind
  obtain _ | ⟨z, s⟩ := s
  · simp only [List.sum_nil] at hsum
    subst hsum
    rcases hpk with c | c | c
    · rw [c]; simp
    · rw [c]; simp
    · rw [c]; simp
  · have hz := hpos z (List.mem_cons_self ..)
    have p0 := hp 0 (by simp)
    simp only [List.take_zero, List.sum_nil, Nat.sub_zero, Nat.zero_add, List.take_succ_cons, List.sum_cons, Nat.add_zero] at p0
    simp only [List.sum_cons] at hsum
    have hi0 : 0 < i := p0.1
    have c1 : ((i - 1 : Nat) : Int) = (i : Int) - 1 := by omega
    rcases hpk with c | c | c
    · rw [c]; simp
    · rw [c]
      simp only [posF, List.getD_cons_zero, List.take_succ_cons, List.take_zero, List.sum_cons, List.sum_nil, Nat.add_zero, List.length_cons]
      rw [if_pos trivial, if_neg (by decide), if_neg (by decide), if_neg (by decide), decide_eq_true_eq, c1, show ((i : Int) - 1).toNat = i - 1 by omega, p0.2]
      constructor
      · rintro ⟨h1, _, h3, h4⟩
        exact ⟨h1, fun h => by omega, fun _ => ⟨by omega, h3⟩, h4⟩
      · rintro ⟨h1, _, h3, h4⟩
        exact ⟨h1, by omega, (h3 (by decide)).2, h4⟩
    · rw [c]
      rw [if_pos rfl, if_pos rfl, if_neg (by decide), p0.2]
      obtain _ | ⟨u, s⟩ := s
      · simp only [List.sum_nil] at hsum
        constructor
        · rintro ⟨_, h2, _⟩
          simp at h2
        · rintro ⟨_, _, h3, _⟩
          have := (h3 (by decide)).1
          omega
      · have hu := hpos u (by simp)
        have p1 := hp 1 (by simp)
        simp only [List.take_succ_cons, List.take_zero, List.sum_cons, List.sum_nil, Nat.add_zero] at p1
        simp only [List.sum_cons] at hsum
        simp only [posF, List.getD_cons_zero, List.getD_cons_succ, List.take_succ_cons, List.take_zero, List.sum_cons, List.sum_nil, Nat.add_zero, List.length_cons]
        rw [decide_eq_true_eq, c1, show (((i - z : Nat) : Int) - 1).toNat = i - 1 - z by omega, p1.2, show ((i - z - 1 : Nat) : Int) = ((i - z : Nat) : Int) - 1 by omega]
        constructor
        · rintro ⟨h1, _, h3, h4⟩
          exact ⟨h1, fun _ => ⟨hi0, h3.1⟩, fun _ => ⟨by omega, h3.2⟩, h4⟩
        · rintro ⟨h1, h2, h3, h4⟩
          exact ⟨h1, by omega, ⟨(h2 (by trivial)).2, (h3 (by decide)).2⟩, h4⟩
/-- It begins there. -/
theorem lowV_lo (l : List NdN) (i : Nat) (s : List Nat) (h : trT l i = some s) (hi : i < l.length) (hf : fineT l s i l[i] = true) : lowV l i = loT l i := by
  have e : (psT l).getD i 0 = pcT l[i].kind := by
    rw [List.getD_eq_getElem?_getD, List.getElem?_eq_getElem (by rw [psT_len]; exact hi), Option.getD_some, psT_get l i hi]
  have hl := fineT_len l s i _ hf
  have hp := fun j hj => low_part l i s h j hj
  obtain ⟨hpos, hsum⟩ := trT_pos l i s h
  rw [lowV_of l i s h hi]
  unfold loT atT
  rw [e]
  rcases pc_kinds l[i].kind with c | c | c
  · rw [c]; simp
  · rw [c] at hl ⊢
    have p0 := hp 0 (by omega)
    rw [if_neg (by decide), if_neg (by decide), show ((i : Int) - 1).toNat = i - 1 by omega]
    simp only [List.take_zero, List.sum_nil, Nat.sub_zero, Nat.zero_add] at p0
    exact p0.2.symm
  · rw [c] at hl ⊢
    have p0 := hp 0 (by omega)
    have p1 := hp 1 (by omega)
    rw [if_neg (by decide), if_pos rfl]
    simp only [List.take_zero, List.sum_nil, Nat.sub_zero, Nat.zero_add] at p0
    rw [p0.2]
    have := take_sum_le s 1
    rw [show (((i - (s.take 1).sum : Nat) : Int) - 1).toNat = i - 1 - (s.take 1).sum by omega]
    exact p1.2.symm
/-- **All is one term, if the last node begins at the first one.** -/
theorem trT_root (l : List NdN) (s : List Nat) (h : trT l l.length = some s) (hl : 0 < l.length) : s = [l.length] ↔ lowV l (l.length - 1) = 0 := by
  obtain ⟨hpos, hsum⟩ := trT_pos l _ s h
  obtain _ | ⟨z, s⟩ := s
  · simp at hsum; omega
  · have p0 := low_part l _ _ h 0 (by simp)
    simp only [List.take_zero, List.sum_nil, Nat.sub_zero, Nat.zero_add, List.take_succ_cons, List.sum_cons, Nat.add_zero] at p0
    simp only [List.sum_cons] at hsum
    rw [p0.2]
    constructor
    · intro e
      cases e
      omega
    · intro e
      have : s = [] := by
        cases s with
        | nil => rfl
        | cons u s =>
          have := hpos u (by simp)
          simp only [List.sum_cons] at hsum
          omega
      subst this
      simp only [List.sum_nil] at hsum
      rw [show z = l.length by omega]
theorem lowT_V (l : List NdN) (h : TermQ l) (i : Nat) (hi : i < l.length) : lowT l i = (lowV l i : Int) := by
  obtain ⟨h1, h2, h3⟩ := of_decide_eq_true (q_right l h)
  have hs := lowV_size l _ _ h1 i hi
  rw [List.take_of_length_le (by rw [psT_len]; exact Nat.le_refl _)] at hs
  have hf := formed_as l h
  have hR := (formed_stack (asL l) hf).2.2.2.2
  unfold lowT
  rw [List.getD_eq_getElem?_getD, hR, List.getElem?_map, ksN_as, hs]
  have := lowV_le l i
  show (i : Int) + 1 - ((i + 1 - lowV l i : Nat) : Int) = _
  omega
end Go.Proofs.Ytooolhekihijlaa

/- A term's nodes, their parts, and where they begin, plainly. -/
namespace Go.Proofs.Ytooolhekihijlaa
open Go.RowKit BS

theorem kindT_no (x : NdN) (h : kindT x = true) : (pcT x.kind = 0 → x.kids = -1) ∧ (pcT x.kind ≠ 2 → x.n = -1) := by
  unfold kindT at h
  obtain ⟨_, _, _, _, _, h6, h7⟩ := of_decide_eq_true h
  exact ⟨h6, h7⟩
theorem psT_getD (l : List NdN) (i : Nat) (hi : i < l.length) : (psT l).getD i 0 = pcT l[i].kind := by
  rw [List.getD_eq_getElem?_getD, List.getElem?_eq_getElem (by rw [psT_len]; exact hi), Option.getD_some, psT_get l i hi]
theorem tr_at (l : List NdN) (hr : rightT l = true) (i : Nat) (hi : i < l.length) : ∃ s, trT l i = some s ∧ fineT l s i l[i] = true := by
  obtain ⟨h1, _, _⟩ := of_decide_eq_true hr
  obtain ⟨s', hs'⟩ := trT_before l _ _ h1 (i + 1) hi
  obtain ⟨s0, h4, _, h5, _⟩ := trT_step l i s' hs'
  exact ⟨s0, h4, h5⟩
/-- **A node's parts, and where they begin.** -/
theorem low_parts (l : List NdN) (hr : rightT l = true) (i : Nat) (hi : i < l.length) :
    (l[i].kids = -1 ∧ l[i].n = -1 ∧ partsT l i = [] ∧ lowV l i = i) ∨
    (∃ a : Nat, l[i].kids = a ∧ l[i].n = -1 ∧ partsT l i = [(a : Int)] ∧ a + 1 = i ∧ lowV l a = lowV l i) ∨
    (∃ a b : Nat, l[i].kids = a ∧ l[i].n = b ∧ partsT l i = [(a : Int), (b : Int)] ∧ b + 1 = i ∧ a + 1 = lowV l b ∧ lowV l a = lowV l i ∧ a < i) := by
  have hq := rightT_q l hr
  obtain ⟨s, hs, hf⟩ := tr_at l hr i hi
  obtain ⟨hk, h2, h3, _⟩ := (fine_go l i s hs hi).1 hf
  have hlo := lowV_lo l i s hs hi hf
  have hp := parts_as l hq i hi
  obtain ⟨k0, k2⟩ := kindT_no l[i] hk
  unfold loT atT at hlo
  unfold atT at h3
  rw [psT_getD l i hi] at hlo h3
  unfold partsT
  rcases pc_kinds l[i].kind with c | c | c
  · rw [c, if_neg (by decide), if_neg (by decide)] at hp
    rw [c, if_pos rfl] at hlo
    exact .inl ⟨k0 c, k2 (by omega), hp, hlo⟩
  · rw [c, if_neg (by decide), if_pos rfl] at hp
    rw [c, if_neg (by decide), if_neg (by decide)] at hlo
    rw [c, if_neg (by decide)] at h3
    obtain ⟨h4, h5⟩ := h3 (by decide)
    refine .inr (.inl ⟨i - 1, by omega, k2 (by omega), by rw [hp, h5]; congr 1; omega, by omega, ?_⟩)
    rw [hlo]
    congr 1
    omega
  · rw [c, if_pos rfl] at hp
    rw [c, if_neg (by decide), if_pos rfl] at hlo
    rw [c, if_pos rfl] at h3
    obtain ⟨h4, h5⟩ := h3 (by decide)
    obtain ⟨h6, h7⟩ := h2 c
    have hle := lowV_le l (i - 1)
    refine .inr (.inr ⟨lowV l (i - 1) - 1, i - 1, by omega, by omega, by rw [hp, h5, h7, show ((lowV l (i - 1) - 1 : Nat) : Int) = (lowV l (i - 1) : Int) - 1 by omega, show ((i - 1 : Nat) : Int) = (i : Int) - 1 by omega], by omega, by omega, ?_, by omega⟩)
    rw [hlo]
    congr 1
    omega
/-- How many parts a node has. -/
theorem parts_kind (l : List NdN) (h : TermQ l) (i : Nat) (hi : i < l.length) : (partsT l i).length = pcT l[i].kind := by
  unfold partsT
  rw [parts_as l h i hi]
  rcases pc_kinds l[i].kind with c | c | c <;> rw [c] <;> rfl
end Go.Proofs.Ytooolhekihijlaa

/- What of a term can be nothing, its steps, its shortest word, plainly. Stage 12. -/
namespace Go.Proofs.Ytooolhekihijlaa
open Go.RowKit BS

/-- A node's kind, its parts, and where they begin. -/
theorem nodek_parts (l : List NdN) (hr : rightT l = true) (i : Nat) (hi : i < l.length) :
    (pcT l[i].kind = 0 ∧ l[i].kids = -1 ∧ l[i].n = -1 ∧ lowV l i = i) ∨
    (∃ a : Nat, pcT l[i].kind = 1 ∧ l[i].kids = a ∧ l[i].n = -1 ∧ a + 1 = i ∧ lowV l a = lowV l i) ∨
    (∃ a b : Nat, pcT l[i].kind = 2 ∧ l[i].kids = a ∧ l[i].n = b ∧ b + 1 = i ∧ a + 1 = lowV l b ∧ lowV l a = lowV l i ∧ a < i) := by
  have hk := parts_kind l (rightT_q l hr) i hi
  rcases low_parts l hr i hi with ⟨h1, h2, h3, h4⟩ | ⟨a, h1, h2, h3, h4, h5⟩ | ⟨a, b, h1, h2, h3, h4, h5, h6, h7⟩
  · rw [h3] at hk
    exact .inl ⟨hk.symm, h1, h2, h4⟩
  · rw [h3] at hk
    exact .inr (.inl ⟨a, hk.symm, h1, h2, h4, h5⟩)
  · rw [h3] at hk
    exact .inr (.inr ⟨a, b, hk.symm, h1, h2, h4, h5, h6, h7⟩)
theorem kind_range (l : List NdN) (hr : rightT l = true) (i : Nat) (hi : i < l.length) : 1 ≤ l[i].kind ∧ l[i].kind ≤ 8 := by
  obtain ⟨s, hs, hf⟩ := tr_at l hr i hi
  obtain ⟨hk, _⟩ := (fine_go l i s hs hi).1 hf
  unfold kindT at hk
  have := of_decide_eq_true hk
  exact ⟨this.1, this.2.1⟩
theorem pc_zero {k : Int} (h : pcT k = 0) (h1 : 1 ≤ k) (h8 : k ≤ 8) : k = 1 ∨ k = 2 := by
  unfold pcT at h
  split at h
  · cases h
  · split at h
    · cases h
    · omega
theorem pc_one {k : Int} (h : pcT k = 1) : k = 5 ∨ k = 6 ∨ k = 7 ∨ k = 8 := by
  unfold pcT at h
  split at h
  · cases h
  · split at h
    · omega
    · cases h
theorem pc_two {k : Int} (h : pcT k = 2) : k = 3 ∨ k = 4 := by
  unfold pcT at h
  split at h
  · assumption
  · split at h <;> cases h

/-! ### Told node by node, of what is told of the nodes ahead -/
section
variable {α : Type} (d : α) (E : (Nat → α) → NdN → α)
def recL (l : List NdN) : Nat → List α
  | 0 => []
  | i + 1 => recL l i ++ [match l[i]? with | some x => E (fun k => (recL l i).getD k d) x | none => d]
def recF (l : List NdN) (i : Nat) : α := (recL d E l l.length).getD i d
theorem recL_len (l : List NdN) : ∀ i, (recL d E l i).length = i
  | 0 => rfl
  | i + 1 => by rw [recL, List.length_append, recL_len l i]; rfl
theorem recL_getD (l : List NdN) (i j : Nat) (h : j < i) : ∀ k, i ≤ k → (recL d E l k).getD j d = (recL d E l i).getD j d
  | 0, hk => by omega
  | k + 1, hk => by
    rcases Nat.lt_or_ge i (k + 1) with h1 | h1
    · rw [recL, List.getD_eq_getElem?_getD, List.getElem?_append_left (by rw [recL_len]; omega), ← List.getD_eq_getElem?_getD]
      exact recL_getD l i j h k (by omega)
    · obtain rfl : i = k + 1 := by omega
      rfl
theorem recL_last (l : List NdN) (i : Nat) (hi : i < l.length) : (recL d E l (i + 1)).getD i d = E (fun k => (recL d E l i).getD k d) l[i] := by
  rw [recL, List.getD_eq_getElem?_getD, List.getElem?_append_right (by rw [recL_len]; exact Nat.le_refl _), recL_len, Nat.sub_self, List.getElem?_eq_getElem hi]
  rfl
/-- What is told hangs on nothing but the parts. -/
def Local (E : (Nat → α) → NdN → α) : Prop := ∀ (f g : Nat → α) (x : NdN), (pcT x.kind ≠ 0 → f x.kids.toNat = g x.kids.toNat) → (pcT x.kind = 2 → f x.n.toNat = g x.n.toNat) → E f x = E g x
theorem recF_eq (hE : Local E) (l : List NdN) (hr : rightT l = true) (i : Nat) (hi : i < l.length) : recF d E l i = E (recF d E l) l[i] := by
  unfold recF
  rw [recL_getD d E l (i + 1) i (Nat.lt_succ_self i) l.length hi, recL_last d E l i hi]
  have key : ∀ k, k < i → (recL d E l i).getD k d = (recL d E l l.length).getD k d := fun k hk => (recL_getD d E l i k hk l.length (by omega)).symm
  rcases nodek_parts l hr i hi with ⟨h0, _⟩ | ⟨a, h0, h1, h2, h3, _⟩ | ⟨a, b, h0, h1, h2, h3, h4, h5, h6⟩
  · exact hE _ _ _ (fun h => absurd h0 h) (fun h => by omega)
  · exact hE _ _ _ (fun _ => key _ (by rw [h1]; omega)) (fun h => by omega)
  · exact hE _ _ _ (fun _ => key _ (by rw [h1]; omega)) (fun _ => key _ (by rw [h2]; omega))
end
/-! ### What can be nothing -/
def canE (f : Nat → Bool) (x : NdN) : Bool :=
  if x.kind = 1 ∨ x.kind = 5 ∨ x.kind = 6 then true
  else if x.kind = 3 then f x.kids.toNat && f x.n.toNat
  else if x.kind = 4 then f x.kids.toNat || f x.n.toNat
  else if x.kind = 7 ∨ x.kind = 8 then f x.kids.toNat
  else false
def canL (l : List NdN) : Nat → List Bool := recL false canE l
def canF (l : List NdN) : Nat → Bool := recF false canE l
/-- What Can tells. -/
def canT (l : List NdN) : List Bool := if rightT l = true then canL l l.length else []
theorem can_local : Local canE := fun f g x h1 h2 => by
  unfold canE
  split
  · rfl
  · split
    · rename_i h
      rw [h1 (by rw [h]; decide), h2 (by rw [h]; decide)]
    · split
      · rename_i h
        rw [h1 (by rw [h]; decide), h2 (by rw [h]; decide)]
      · split
        · rename_i h
          rw [h1 (by rcases h with h | h <;> rw [h] <;> decide)]
        · rfl
theorem can_eq (l : List NdN) (hr : rightT l = true) (i : Nat) (hi : i < l.length) : canF l i = canE (canF l) l[i] := recF_eq false canE can_local l hr i hi
theorem canT_len (l : List NdN) (hr : rightT l = true) : (canT l).length = l.length := by
  unfold canT
  rw [if_pos hr]
  exact recL_len _ _ _ _
theorem canT_get (l : List NdN) (hr : rightT l = true) (i : Nat) (hi : i < l.length) : (canT l)[i]? = some (canF l i) := by
  have h : i < (canT l).length := by rw [canT_len l hr]; exact hi
  have e : canF l i = (canT l).getD i false := by unfold canT; rw [if_pos hr]; rfl
  rw [e, List.getD_eq_getElem?_getD, List.getElem?_eq_getElem h]
  rfl
/-! ### The shortest word -/
def nxB (t : BitVec 256) : Option Nat := (List.range 256).find? fun j => t.getLsbD j
/-- Is the first one shorter, or as short and less? -/
def btr (a b : List Nat) : Bool := if a.length ≠ b.length then decide (a.length < b.length) else decide (a < b)
def wdE (f : Nat → Option (List Nat)) (x : NdN) : Option (List Nat) :=
  if x.kind = 1 ∨ x.kind = 5 ∨ x.kind = 6 then some []
  else if x.kind = 2 then (nxB x.set).map fun b => [b]
  else if x.kind = 3 then (f x.kids.toNat).bind fun a => (f x.n.toNat).map fun b => a ++ b
  else if x.kind = 4 then (match f x.kids.toNat, f x.n.toNat with | none, y => y | some a, none => some a | some a, some b => if btr b a = true then some b else some a)
  else if x.kind = 7 ∨ x.kind = 8 then f x.kids.toNat
  else none
def wdF (l : List NdN) : Nat → Option (List Nat) := recF none wdE l
/-- What Word tells. -/
def wordT (l : List NdN) : Option (List Nat) := if rightT l = true then wdF l (l.length - 1) else none
theorem wd_local : Local wdE := fun f g x h1 h2 => by
  unfold wdE
  split
  · rfl
  · split
    · rfl
    · split
      · rename_i h
        rw [h1 (by rw [h]; decide), h2 (by rw [h]; decide)]
      · split
        · rename_i h
          rw [h1 (by rw [h]; decide), h2 (by rw [h]; decide)]
        · split
          · rename_i h
            rw [h1 (by rcases h with h | h <;> rw [h] <;> decide)]
          · rfl
theorem wd_eq (l : List NdN) (hr : rightT l = true) (i : Nat) (hi : i < l.length) : wdF l i = wdE (wdF l) l[i] := recF_eq none wdE wd_local l hr i hi
theorem btr_nil (a : List Nat) : btr a [] = false := by
  unfold btr
  cases a <;> simp
theorem nil_btr (a : List Nat) (h : a ≠ []) : btr [] a = true := by
  unfold btr
  cases a <;> simp_all
/-- **A node can be nothing just if its shortest word is no byte.** -/
theorem can_word (l : List NdN) (hr : rightT l = true) : ∀ i, i < l.length → (canF l i = true ↔ wdF l i = some []) := fun i => by
  induction i using Nat.strongRecOn with
  | ind i ih =>
    intro hi
    rw [can_eq l hr i hi, wd_eq l hr i hi]
    obtain ⟨k1, k8⟩ := kind_range l hr i hi
    unfold canE wdE
    rcases nodek_parts l hr i hi with ⟨h0, _⟩ | ⟨a, h0, h1, h2, h3, _⟩ | ⟨a, b, h0, h1, h2, h3, h4, h5, h6⟩
    · rcases pc_zero h0 k1 k8 with h | h
      · rw [if_pos (.inl h), if_pos (.inl h)]
        simp
      · rw [h]
        cases nxB l[i].set <;> simp
    · have iha := ih a (by omega) (by omega)
      have e : l[i].kids.toNat = a := by rw [h1]; omega
      rcases pc_one h0 with h | h | h | h <;> rw [h, e] <;> simp [iha]
    · have iha := ih a h6 (by omega)
      have ihb := ih b (by omega) (by omega)
      have ea : l[i].kids.toNat = a := by rw [h1]; omega
      have eb : l[i].n.toNat = b := by rw [h2]; omega
      rcases pc_two h0 with h | h
      · rw [h, ea, eb]
        simp only [Int.reduceEq, or_self, if_false, if_true, Bool.and_eq_true, iha, ihb]
        cases wdF l a <;> cases wdF l b <;> simp
      · rw [h, ea, eb]
        simp only [Int.reduceEq, or_self, if_false, if_true, Bool.or_eq_true, iha, ihb]
        cases hA : wdF l a with
        | none => cases wdF l b <;> simp
        | some x =>
          cases hB : wdF l b with
          | none => simp
          | some y =>
            simp only [Option.some.injEq]
            by_cases hx : x = []
            · subst hx; rw [btr_nil]; simp
            · by_cases hy : y = []
              · subst hy; rw [nil_btr x hx]; simp
              · by_cases hb : btr y x = true <;> simp [hb, hx, hy]
end Go.Proofs.Ytooolhekihijlaa

/- Parse trees, plainly: forests; which list is a parse tree. Stage 14. -/
namespace Go.Proofs.Ytooolhekihijlaa
open Go.RowKit

/-- Trees side by side: a node, what it spans, its kids; the ones behind. -/
inductive Fo where
  | nil : Fo
  | cons (n f e : Nat) (ks rest : Fo) : Fo
/-- The entries. -/
def flF : Int → Fo → List EnN
  | _, .nil => []
  | d, .cons n f e ks rest => ⟨d, n, f, e⟩ :: (flF (d + 1) ks ++ flF d rest)
/-- The uppermost nodes, and what they span. -/
def rootsO : Fo → List (Nat × Nat × Nat)
  | .nil => []
  | .cons n f e _ rest => (n, f, e) :: rootsO rest
/-- Side by side, a byte at least each. -/
def chainR (p : Nat) (f e : Nat) : List (Nat × Nat × Nat) → Prop
  | [] => f = e
  | (n, f', m) :: r => n = p ∧ f' = f ∧ f < m ∧ m ≤ e ∧ chainR p m e r
def ndE (l : List NdN) (n : Nat) : NdN := l.getD n ⟨0, 0, 0, 0, 0⟩
/-- A node's kids are as its kind has them. -/
def nodeOk (x : NdN) (w : List Nat) (f e : Nat) (R : List (Nat × Nat × Nat)) : Prop :=
  f ≤ e ∧ e ≤ w.length ∧
  ((x.kind = 1 ∧ f = e ∧ R = []) ∨
   (x.kind = 2 ∧ e = f + 1 ∧ x.set.getLsbD (w.getD f 0) = true ∧ R = []) ∨
   (x.kind = 3 ∧ ∃ p q m : Nat, x.kids = p ∧ x.n = q ∧ R = [(p, f, m), (q, m, e)]) ∨
   (x.kind = 4 ∧ ∃ p : Nat, (x.kids = p ∨ x.n = p) ∧ R = [(p, f, e)]) ∨
   (x.kind = 5 ∧ ∃ p : Nat, x.kids = p ∧ chainR p f e R) ∨
   (x.kind = 6 ∧ ((f = e ∧ R = []) ∨ (f < e ∧ ∃ p : Nat, x.kids = p ∧ R = [(p, f, e)]))) ∨
   ((x.kind = 7 ∨ x.kind = 8) ∧ ∃ p : Nat, x.kids = p ∧ R = [(p, f, e)]))
/-- All nodes' kids are so. -/
def okF (l : List NdN) (w : List Nat) : Fo → Prop
  | .nil => True
  | .cons n f e ks rest => nodeOk (ndE l n) w f e (rootsO ks) ∧ okF l w ks ∧ okF l w rest
/-- A row of kids, by the document. -/
def kidsF (ent : Nat → EnN → Option Nat) (t : List EnN) (a d e0 : Int) : Nat → Nat → Int → Option Nat
  | 0, i, at_ => if at_ < e0 then none else some i
  | m + 1, i, at_ => if at_ < e0 then (if i < t.length ∧ at_ < (atE t i).to then (ent i ⟨d, a, at_, (atE t i).to⟩).bind fun j => if (atE t i).to ≤ e0 then kidsF ent t a d e0 m j (atE t i).to else none else none) else some i
/-- The entry behind a node, by the document. -/
def entF (l : List NdN) (w : List Nat) (t : List EnN) : Nat → Nat → EnN → Option Nat
  | 0, _, _ => none
  | k + 1, i, want =>
    if i < t.length ∧ atE t i = want ∧ 0 ≤ want.from_ ∧ want.from_ ≤ want.to ∧ want.to ≤ (w.length : Int) then
      if (ndE l want.node.toNat).kind = 1 then (if want.from_ = want.to then some (i + 1) else none)
      else if (ndE l want.node.toNat).kind = 2 then (if want.to = want.from_ + 1 ∧ (ndE l want.node.toNat).set.getLsbD (w.getD want.from_.toNat 0) = true then some (i + 1) else none)
      else if (ndE l want.node.toNat).kind = 3 then (if i + 1 < t.length then (entF l w t k (i + 1) ⟨want.depth + 1, (ndE l want.node.toNat).kids, want.from_, (atE t (i + 1)).to⟩).bind fun q => if (atE t (i + 1)).to ≤ want.to then entF l w t k q ⟨want.depth + 1, (ndE l want.node.toNat).n, (atE t (i + 1)).to, want.to⟩ else none else none)
      else if (ndE l want.node.toNat).kind = 4 then entF l w t k (i + 1) ⟨want.depth + 1, if i + 1 < t.length ∧ (atE t (i + 1)).node = (ndE l want.node.toNat).n then (ndE l want.node.toNat).n else (ndE l want.node.toNat).kids, want.from_, want.to⟩
      else if (ndE l want.node.toNat).kind = 5 then kidsF (entF l w t k) t (ndE l want.node.toNat).kids (want.depth + 1) want.to (want.to - want.from_).toNat (i + 1) want.from_
      else if (ndE l want.node.toNat).kind = 6 ∧ want.from_ = want.to then some (i + 1)
      else entF l w t k (i + 1) ⟨want.depth + 1, (ndE l want.node.toNat).kids, want.from_, want.to⟩
    else none
theorem drop_one (t : List EnN) (i : Nat) (h : i < t.length) : t.drop i = atE t i :: t.drop (i + 1) := by
  rw [List.drop_eq_getElem_cons h, atE_lt t i h]
theorem flF_one (d : Int) (n f e : Nat) (ks rest : Fo) : flF d (.cons n f e ks rest) = flF d (.cons n f e ks .nil) ++ flF d rest := by
  simp [flF]
/-- What is told of a right term's nodes: parts are nodes ahead of them. -/
structure PartsOk (l : List NdN) : Prop where
  kind : ∀ n, n < l.length → 1 ≤ (ndE l n).kind ∧ (ndE l n).kind ≤ 8
  a : ∀ n, n < l.length → 3 ≤ (ndE l n).kind → ∃ p : Nat, (ndE l n).kids = p ∧ p < n
  b : ∀ n, n < l.length → (ndE l n).kind = 3 ∨ (ndE l n).kind = 4 → ∃ p : Nat, (ndE l n).n = p ∧ p < n
section
variable {l : List NdN} {w : List Nat} {t : List EnN}
/-- The document's entry, where it is one: a parse tree stands there. -/
def EntOk (l : List NdN) (w : List Nat) (t : List EnN) (k : Nat) : Prop := ∀ i d (n : Nat) f e j, n < k → n < l.length → entF l w t k i ⟨d, n, f, e⟩ = some j →
  ∃ (f' e' : Nat) (ks : Fo), f = f' ∧ e = e' ∧ okF l w (.cons n f' e' ks .nil) ∧ i < j ∧ j ≤ t.length ∧ t.drop i = flF d (.cons n f' e' ks .nil) ++ t.drop j
theorem kids_ok {k : Nat} (ih : EntOk l w t k) (p : Nat) (hp : p < k) (hpl : p < l.length) (d : Int) (e : Nat) : ∀ m i (at_ : Nat) j, at_ ≤ e → e - at_ ≤ m → i ≤ t.length → kidsF (entF l w t k) t p d e m i at_ = some j →
    ∃ ks, okF l w ks ∧ chainR p at_ e (rootsO ks) ∧ i ≤ j ∧ j ≤ t.length ∧ t.drop i = flF d ks ++ t.drop j := by
  intro m
  induction m with
  | zero =>
    intro i at_ j h1 h2 h3 h
    unfold kidsF at h
    rw [if_neg (by omega)] at h
    cases h
    exact ⟨.nil, trivial, (show at_ = e by omega), Nat.le_refl _, h3, rfl⟩
  | succ m ihm =>
    intro i at_ j h1 h2 h3 h
    unfold kidsF at h
    by_cases hlt : (at_ : Int) < e
    · rw [if_pos hlt] at h
      by_cases hc : i < t.length ∧ (at_ : Int) < (atE t i).to
      · rw [if_pos hc] at h
        obtain ⟨q, hq, h⟩ := Option.bind_eq_some_iff.1 h
        obtain ⟨f', e', ks, hf, he, hok, hij, hjl, hdr⟩ := ih i d p _ _ q hp hpl hq
        split at h
        · rename_i hle
          rw [he] at h hle hc
          obtain ⟨rest, hrok, hch, hqj, hjl2, hdr2⟩ := ihm q e' j (by omega) (by omega) hjl h
          have hfa : f' = at_ := by omega
          subst hfa
          refine ⟨.cons p f' e' ks rest, ⟨hok.1, hok.2.1, hrok⟩, ⟨rfl, rfl, by omega, by omega, hch⟩, by omega, hjl2, ?_⟩
          rw [flF_one, hdr, hdr2, List.append_assoc]
        · cases h
      · rw [if_neg hc] at h; cases h
    · rw [if_neg hlt] at h
      cases h
      exact ⟨.nil, trivial, (show at_ = e by omega), Nat.le_refl _, h3, rfl⟩
theorem ent_ok (hP : PartsOk l) : ∀ k, EntOk l w t k
  | 0 => fun i d n f e j hn => absurd hn (by omega)
  | k + 1 => by
    intro i d n f e j hn hnl h
    have ih := ent_ok hP k
    unfold entF at h
    by_cases hc : i < t.length ∧ atE t i = ⟨d, n, f, e⟩ ∧ 0 ≤ f ∧ f ≤ e ∧ e ≤ (w.length : Int)
    · rw [if_pos hc] at h
      obtain ⟨hi, hat, h0, hfe, hel⟩ := hc
      obtain ⟨f, rfl⟩ : ∃ f' : Nat, f = f' := ⟨f.toNat, by omega⟩
      obtain ⟨e, rfl⟩ : ∃ e' : Nat, e = e' := ⟨e.toNat, by omega⟩
      simp only [Int.toNat_natCast] at h
      obtain ⟨hk1, hk8⟩ := hP.kind n hnl
      have hd := drop_one t i hi
      rw [hat] at hd
      have base : f ≤ e ∧ e ≤ w.length := by omega
      by_cases k1 : (ndE l n).kind = 1
      · rw [if_pos k1] at h
        split at h
        · cases h
          exact ⟨f, e, .nil, rfl, rfl, ⟨⟨base.1, base.2, .inl ⟨k1, by omega, rfl⟩⟩, trivial, trivial⟩, by omega, by omega, by rw [hd]; rfl⟩
        · cases h
      rw [if_neg k1] at h
      by_cases k2 : (ndE l n).kind = 2
      · rw [if_pos k2] at h
        split at h
        · rename_i hh
          cases h
          exact ⟨f, e, .nil, rfl, rfl, ⟨⟨base.1, base.2, .inr (.inl ⟨k2, by omega, hh.2, rfl⟩)⟩, trivial, trivial⟩, by omega, by omega, by rw [hd]; rfl⟩
        · cases h
      rw [if_neg k2] at h
      by_cases k3 : (ndE l n).kind = 3
      · rw [if_pos k3] at h
        obtain ⟨p, hp, hpn⟩ := hP.a n hnl (by omega)
        obtain ⟨q, hq, hqn⟩ := hP.b n hnl (.inl k3)
        rw [hp, hq] at h
        split at h
        · obtain ⟨r, hr, h⟩ := Option.bind_eq_some_iff.1 h
          obtain ⟨f1, m1, ks1, hf1, hm1, hok1, hir, hrl, hdr1⟩ := ih (i + 1) (d + 1) p _ _ r (by omega) (by omega) hr
          split at h
          · rw [hm1] at h
            obtain ⟨f2, e2, ks2, hf2, he2, hok2, hrj, hjl, hdr2⟩ := ih r (d + 1) q _ _ j (by omega) (by omega) h
            obtain rfl : f = f1 := by omega
            obtain rfl : m1 = f2 := by omega
            obtain rfl : e = e2 := by omega
            refine ⟨f, e, .cons p f m1 ks1 (.cons q m1 e ks2 .nil), rfl, rfl, ⟨⟨base.1, base.2, .inr (.inr (.inl ⟨k3, p, q, m1, hp, hq, rfl⟩))⟩, ⟨hok1.1, hok1.2.1, hok2⟩, trivial⟩, by omega, hjl, ?_⟩
            rw [hd, hdr1, hdr2]
            simp [flF]
          · cases h
        · cases h
      rw [if_neg k3] at h
      by_cases k4 : (ndE l n).kind = 4
      · rw [if_pos k4] at h
        obtain ⟨p, hp, hpn⟩ := hP.a n hnl (by omega)
        obtain ⟨q, hq, hqn⟩ := hP.b n hnl (.inr k4)
        rw [hp, hq] at h
        obtain ⟨r, hr, hrn⟩ : ∃ r : Nat, (if i + 1 < t.length ∧ (atE t (i + 1)).node = (q : Int) then (q : Int) else (p : Int)) = r ∧ (r = p ∨ r = q) := by
          split
          · exact ⟨q, rfl, .inr rfl⟩
          · exact ⟨p, rfl, .inl rfl⟩
        rw [hr] at h
        obtain ⟨f1, e1, ks1, hf1, he1, hok1, hir, hrl, hdr1⟩ := ih (i + 1) (d + 1) r _ _ j (by omega) (by omega) h
        obtain rfl : f = f1 := by omega
        obtain rfl : e = e1 := by omega
        refine ⟨f, e, .cons r f e ks1 .nil, rfl, rfl, ⟨⟨base.1, base.2, .inr (.inr (.inr (.inl ⟨k4, r, hrn.elim (fun e1 => .inl (by rw [hp, e1])) (fun e1 => .inr (by rw [hq, e1])), rfl⟩)))⟩, hok1, trivial⟩, by omega, hrl, ?_⟩
        rw [hd, hdr1]
        simp [flF]
      rw [if_neg k4] at h
      obtain ⟨p, hp, hpn⟩ := hP.a n hnl (by omega)
      rw [hp] at h
      by_cases k5 : (ndE l n).kind = 5
      · rw [if_pos k5] at h
        obtain ⟨ks, hok, hch, hij, hjl, hdr⟩ := kids_ok ih p (by omega) (by omega) (d + 1) e _ (i + 1) f j base.1 (by omega) (by omega) h
        refine ⟨f, e, ks, rfl, rfl, ⟨⟨base.1, base.2, .inr (.inr (.inr (.inr (.inl ⟨k5, p, hp, hch⟩))))⟩, hok, trivial⟩, by omega, hjl, ?_⟩
        rw [hd, hdr]
        simp [flF]
      rw [if_neg k5] at h
      by_cases k6 : (ndE l n).kind = 6 ∧ (f : Int) = e
      · rw [if_pos k6] at h
        cases h
        exact ⟨f, e, .nil, rfl, rfl, ⟨⟨base.1, base.2, .inr (.inr (.inr (.inr (.inr (.inl ⟨k6.1, .inl ⟨by omega, rfl⟩⟩)))))⟩, trivial, trivial⟩, by omega, by omega, by rw [hd]; rfl⟩
      rw [if_neg k6] at h
      obtain ⟨f1, e1, ks1, hf1, he1, hok1, hir, hrl, hdr1⟩ := ih (i + 1) (d + 1) p _ _ j (by omega) (by omega) h
      obtain rfl : f = f1 := by omega
      obtain rfl : e = e1 := by omega
      refine ⟨f, e, .cons p f e ks1 .nil, rfl, rfl, ⟨⟨base.1, base.2, ?_⟩, hok1, trivial⟩, by omega, hrl, ?_⟩
      · by_cases k6' : (ndE l n).kind = 6
        · exact .inr (.inr (.inr (.inr (.inr (.inl ⟨k6', .inr ⟨by omega, p, hp, rfl⟩⟩)))))
        · exact .inr (.inr (.inr (.inr (.inr (.inr ⟨by omega, p, hp, rfl⟩)))))
      · rw [hd, hdr1]
        simp [flF]
    · rw [if_neg hc] at h; cases h
end
end Go.Proofs.Ytooolhekihijlaa

/- Is a list a parse tree: the document's entry and kids. Stage 14. -/
namespace Go.Proofs.Ytooolhekihijlaa
open Go.RowKit BS

/-- A slice of bytes. -/
def BtsAt (l : List Nat) (a : Option Addr) (W : World) : Prop :=
  l ≠ [] → ∃ g off, a = some ⟨g, off, none⟩ ∧ g < W.heap.size ∧ ∀ i (h : i < l.length), W.cell? ⟨g, off + i, none⟩ = some (.int .u8 (l[i] : Nat))
theorem BtsAt.below {l : List Nat} {a : Option Addr} {W W' : World} (h : BtsAt l a W) (hb : Below W.heap.size W W') : BtsAt l a W' := fun hne => by
  obtain ⟨g, off, e, hg, hc⟩ := h hne
  exact ⟨g, off, e, Nat.lt_of_lt_of_le hg hb.size, fun i hi => (hb.cell (p := ⟨g, off + i, none⟩) hg).trans (hc i hi)⟩
set_option maxRecDepth 100000 in
set_option maxHeartbeats 2000000 in
theorem eqEn (xd xn xf xt yd yn yf yt : Int) (w : World) :
    (Op.equalIn 10000 44 (.agg (enI xd xn xf xt)) (.agg (enI yd yn yf yt))).run Try.prog w = .ok (decide (xd = yd ∧ xn = yn ∧ xf = yf ∧ xt = yt)) w := by
  go_simp
  by_cases h1 : xd = yd <;> by_cases h2 : xn = yn <;> by_cases h3 : xf = yf <;> by_cases h4 : xt = yt <;> simp [h1, h2, h3, h4]
def resO : Option Nat → Int
  | none => -1
  | some j => j
/-- What entry answers: of all nodes before k. -/
def EntG (l : List NdN) (w : List Nat) (t : List EnN) (la wa ta : Option Addr) (lc wc tc k : Nat) : Prop :=
  ∀ (i : Nat) (d : Int) (n : Nat) (f e : Int) (W : World), n < k → n < l.length → i ≤ 100000 → 0 ≤ d → d + k ≤ 100000 → NodesAt l la W → BtsAt w wa W → EntsAt t ta W →
    Calls Try.prog 32 #[.slice la l.length lc, .slice wa w.length wc, .slice ta t.length tc, .int .i64 (i : Nat), .agg (enI d n f e)] W fun r W' => r = .returned (.int .i64 (resO (entF l w t k i ⟨d, n, f, e⟩))) ∧ Below W.heap.size W W'
set_option maxRecDepth 100000 in
set_option maxHeartbeats 16000000 in
/-- Where the entry is not the one that is asked for. -/
theorem ent_no (l : List NdN) (w : List Nat) (t : List EnN) (la wa ta : Option Addr) (lc wc tc : Nat) (_hl : l.length ≤ 1000) (_hw : w.length ≤ 1000) (ht : t.length ≤ 1000) (i : Nat) (d : Int) (n : Nat) (f e : Int) (W : World) (hi : i ≤ 100000) (hE : EntsAt t ta W)
    (hno : ¬ (i < t.length ∧ atE t i = ⟨d, n, f, e⟩ ∧ 0 ≤ f ∧ f ≤ e ∧ e ≤ (w.length : Int))) :
    Calls Try.prog 32 #[.slice la l.length lc, .slice wa w.length wc, .slice ta t.length tc, .int .i64 (i : Nat), .agg (enI d n f e)] W fun r W' => r = .returned (.int .i64 (-1)) ∧ Below W.heap.size W W' := by
  have hR := Blk.new W (enI d n f e) 44
  have hB0 := Lib.hid (show Below W.heap.size W (W.alloc (.cells (enI d n f e) 44)) from (Below.refl _ _).alloc (Nat.le_refl _) _)
  have r0 := hR.cell 0; have r1 := hR.cell 1; have r2 := hR.cell 2; have r3 := hR.cell 3
  simp only [List.getElem?_toArray, List.getElem?_cons_zero, List.getElem?_cons_succ] at r0 r1 r2 r3
  have n0 : decide ((i : Int) < 0) = false := by rw [decide_eq_false_iff_not]; omega
  by_cases hlt : i < t.length
  · obtain ⟨g, off, rfl, hg, hc⟩ := hE (by rintro rfl; simp at hlt)
    have hd : decide ((i : Int) < (t.length : Int)) = true := by rw [decide_eq_true_iff]; omega
    have hd2 : decide (i < t.length) = true := by rw [decide_eq_true_iff]; omega
    have hd3 : decide (t.length ≤ i) = false := by rw [decide_eq_false_iff_not]; omega
    have hii : (i : Int) < (t.length : Int) := by omega
    rw [atE_lt t i hlt] at hno
    have dd := fun (j : Nat) (hj : j < 4) => (hB0.out.cell (p := ⟨g, off + i * 4 + j, none⟩) hg).trans (hc i hlt j hj)
    have d0 := dd 0 (by decide); have d1 := dd 1 (by decide); have d2 := dd 2 (by decide); have d3 := dd 3 (by decide)
    simp only [enA, List.getElem?_toArray, List.getElem?_cons_zero, List.getElem?_cons_succ, Nat.add_zero] at d0 d1 d2 d3
    generalize t[i] = x at *
    obtain ⟨xd, xn, xf, xt⟩ := x
    simp only at d0 d1 d2 d3
    have he := eqEn xd xn xf xt d n f e
    clear dd hc hE hR hg
    by_cases hx : xd = d ∧ xn = n ∧ xf = f ∧ xt = e
    · rw [decide_eq_true hx] at he
      obtain ⟨e1, e2, e3, e4⟩ := hx
      rw [e1, e2, e3, e4] at he hno
      rw [e1] at d0
      rw [e2] at d1
      rw [e3] at d2
      rw [e4] at d3
      clear e1 e2 e3 e4
      by_cases h0 : f < 0
      · have q0 : decide (f < 0) = true := decide_eq_true h0
        clear hno h0
        go_enter Try.func32, Try.ntmps32
        go_upto_region 1 with fail
        generalize W.alloc (.cells (enI d n f e) 44) = w1 at *
        go_quiet (fail)
        go_wp2_with fail
        go_ret
        exact ⟨rfl, below_drN hB0.out _⟩
      have q0 : decide (f < 0) = false := decide_eq_false h0
      by_cases h1 : e < f
      · have q1 : decide (e < f) = true := decide_eq_true h1
        clear hno h0 h1
        go_enter Try.func32, Try.ntmps32
        go_upto_region 1 with fail
        generalize W.alloc (.cells (enI d n f e) 44) = w1 at *
        go_quiet (fail)
        go_wp2_with fail
        go_ret
        exact ⟨rfl, below_drN hB0.out _⟩
      have q1 : decide (e < f) = false := decide_eq_false h1
      have q2 : decide ((w.length : Int) < e) = true := by
        rw [decide_eq_true_iff]
        rcases Int.lt_or_le (w.length : Int) e with h | h
        · exact h
        · exact absurd ⟨hlt, rfl, by omega, by omega, h⟩ hno
      clear hno h0 h1
      go_enter Try.func32, Try.ntmps32
      go_upto_region 1 with fail
      generalize W.alloc (.cells (enI d n f e) 44) = w1 at *
      go_quiet (fail)
      go_wp2_with fail
      go_ret
      exact ⟨rfl, below_drN hB0.out _⟩
    · rw [decide_eq_false hx] at he
      clear hno hx
      go_enter Try.func32, Try.ntmps32
      go_upto_region 1 with fail
      generalize W.alloc (.cells (enI d n f e) 44) = w1 at *
      go_quiet (fail)
      go_wp2_with fail
      go_ret
      exact ⟨rfl, below_drN hB0.out _⟩
  · have hd : decide ((i : Int) < (t.length : Int)) = false := by rw [decide_eq_false_iff_not]; omega
    have hd2 : decide (i < t.length) = false := by rw [decide_eq_false_iff_not]; omega
    have hd3 : decide (t.length ≤ i) = true := by rw [decide_eq_true_iff]; omega
    clear hR hno hE
    go_enter Try.func32, Try.ntmps32
    go_upto_region 1 with fail
    generalize W.alloc (.cells (enI d n f e) 44) = w1 at *
    go_quiet (fail)
    go_wp2_with fail
    go_ret
    exact ⟨rfl, below_drN hB0.out _⟩
end Go.Proofs.Ytooolhekihijlaa

/- Parse trees, plainly: a parse tree is what the document asks; which lists are parse trees. Stage 14. -/
namespace Go.Proofs.Ytooolhekihijlaa
open Go.RowKit

theorem at_of_drop {t r : List EnN} {x : EnN} {i : Nat} (h : t.drop i = x :: r) : i < t.length ∧ atE t i = x ∧ t.drop (i + 1) = r := by
  have hi : i < t.length := by
    rcases Nat.lt_or_ge i t.length with h1 | h1
    · exact h1
    · rw [List.drop_of_length_le h1] at h; cases h
  rw [drop_one t i hi] at h
  injection h with h1 h2
  exact ⟨hi, h1, h2⟩
theorem drop_app {t a b : List EnN} {i : Nat} (h : t.drop i = a ++ b) : t.drop (i + a.length) = b := by
  rw [← List.drop_drop, h]
  exact List.drop_left
/-- How many entries. -/
theorem flF_len (d d' : Int) (F : Fo) : (flF d F).length = (flF d' F).length := by
  induction F generalizing d d' with
  | nil => rfl
  | cons n f e ks rest ih1 ih2 =>
    simp only [flF, List.length_cons, List.length_append]
    rw [ih1 (d + 1) (d' + 1), ih2 d d']
section
variable {l : List NdN} {w : List Nat} {t : List EnN}
def EntOf (l : List NdN) (w : List Nat) (t : List EnN) (k : Nat) : Prop := ∀ i d (n f e : Nat) ks R, n < k → n < l.length → okF l w (.cons n f e ks .nil) → t.drop i = flF d (.cons n f e ks .nil) ++ R → entF l w t k i ⟨d, n, f, e⟩ = some (i + (flF d (.cons n f e ks .nil)).length)
theorem kids_of {k : Nat} (ih : EntOf l w t k) (p : Nat) (hp : p < k) (hpl : p < l.length) (d : Int) (e : Nat) : ∀ ks m i (at_ : Nat) R, okF l w ks → chainR p at_ e (rootsO ks) → e - at_ ≤ m → t.drop i = flF d ks ++ R → kidsF (entF l w t k) t p d e m i at_ = some (i + (flF d ks).length) := by
  intro ks
  induction ks with
  | nil =>
    intro m i at_ R _ hch hm h
    have : at_ = e := hch
    subst this
    cases m with
    | zero => unfold kidsF; rw [if_neg (by omega)]; rfl
    | succ m => unfold kidsF; rw [if_neg (by omega)]; rfl
  | cons n f m1 k1 rest _ ihr =>
    intro m i at_ R hok hch hm h
    obtain ⟨rfl, rfl, h1, h2, h3⟩ := hch
    obtain ⟨hno, hk1, hrok⟩ := hok
    cases m with
    | zero => omega
    | succ m =>
      have h0 : t.drop i = flF d (.cons n f m1 k1 .nil) ++ (flF d rest ++ R) := by rw [h, flF_one, List.append_assoc]
      obtain ⟨hi, hat, _⟩ := at_of_drop (show t.drop i = ⟨d, n, f, m1⟩ :: (flF (d + 1) k1 ++ flF d .nil ++ (flF d rest ++ R)) from h0)
      have he := ih i d n f m1 k1 _ hp hpl ⟨hno, hk1, trivial⟩ h0
      unfold kidsF
      rw [if_pos (by omega), if_pos ⟨hi, by rw [hat]; show (f : Int) < m1; omega⟩, hat]
      show (entF l w t k i ⟨d, n, f, m1⟩).bind _ = _
      rw [he]
      show (if (m1 : Int) ≤ (e : Int) then kidsF (entF l w t k) t n d e m (i + (flF d (.cons n f m1 k1 .nil)).length) (m1 : Int) else none) = _
      rw [if_pos (by omega)]
      rw [ihr m _ m1 R hrok h3 (by omega) (drop_app h0)]
      congr 1
      rw [flF_one d n f m1 k1 rest, List.length_append]
      omega
theorem ent_of (hP : PartsOk l) : ∀ k, EntOf l w t k
  | 0 => fun i d n f e ks R hn => absurd hn (by omega)
  | k + 1 => by
    intro i d n f e ks R hn hnl hok h
    have ih := ent_of hP k
    obtain ⟨⟨hfe, hel, hcase⟩, hkok, _⟩ := hok
    obtain ⟨hi, hat, hd⟩ := at_of_drop (show t.drop i = ⟨d, n, f, e⟩ :: (flF (d + 1) ks ++ flF d .nil ++ R) from h)
    have hd' : t.drop (i + 1) = flF (d + 1) ks ++ R := by rw [hd]; simp [flF]
    have hlen : (flF d (.cons n f e ks .nil)).length = (flF (d + 1) ks).length + 1 := by simp [flF]
    obtain ⟨hk1, hk8⟩ := hP.kind n hnl
    rw [hlen]
    unfold entF
    rw [if_pos ⟨hi, hat, by show (0 : Int) ≤ (f : Int); omega, by show (f : Int) ≤ e; omega, by show (e : Int) ≤ _; omega⟩]
    simp only [Int.toNat_natCast]
    have single : ∀ r : Nat, r < n → rootsO ks = [(r, f, e)] → entF l w t k (i + 1) ⟨d + 1, (r : Int), (f : Int), (e : Int)⟩ = some (i + ((flF (d + 1) ks).length + 1)) := fun r hr hro => by
      cases ks with
      | nil => cases hro
      | cons n' f' e' k1 rest =>
        simp only [rootsO, List.cons.injEq, Prod.mk.injEq] at hro
        obtain ⟨⟨rfl, rfl, rfl⟩, hrest⟩ := hro
        cases rest with
        | cons _ _ _ _ _ => cases hrest
        | nil =>
          rw [ih (i + 1) (d + 1) n' f' e' k1 R (by omega) (by omega) hkok hd']
          congr 1
          omega
    rcases hcase with ⟨k1, hh, hro⟩ | ⟨k2, hh, hs, hro⟩ | ⟨k3, p, q, m, hp, hq, hro⟩ | ⟨k4, r, hr, hro⟩ | ⟨k5, p, hp, hch⟩ | ⟨k6, hh⟩ | ⟨k78, p, hp, hro⟩
    · have hks : ks = .nil := by cases ks with | nil => rfl | cons _ _ _ _ _ => cases hro
      subst hks
      rw [if_pos k1, if_pos (by omega)]
      rfl
    · have hks : ks = .nil := by cases ks with | nil => rfl | cons _ _ _ _ _ => cases hro
      subst hks
      rw [if_neg (by omega), if_pos k2, if_pos ⟨by omega, hs⟩]
      rfl
    · rw [if_neg (by omega), if_neg (by omega), if_pos k3]
      cases ks with
      | nil => cases hro
      | cons n1 f1 e1 kk1 rest =>
        simp only [rootsO, List.cons.injEq, Prod.mk.injEq] at hro
        obtain ⟨⟨rfl, rfl, rfl⟩, hrest⟩ := hro
        cases rest with
        | nil => cases hrest
        | cons n2 f2 e2 kk2 rest2 =>
          simp only [rootsO, List.cons.injEq, Prod.mk.injEq] at hrest
          obtain ⟨⟨rfl, rfl, rfl⟩, hrest2⟩ := hrest
          cases rest2 with
          | cons _ _ _ _ _ => cases hrest2
          | nil =>
            obtain ⟨p', hp', hpn⟩ := hP.a n hnl (by omega)
            obtain ⟨q', hq', hqn⟩ := hP.b n hnl (.inl k3)
            have h0 : t.drop (i + 1) = flF (d + 1) (.cons n1 f1 f2 kk1 .nil) ++ (flF (d + 1) (.cons n2 f2 e2 kk2 .nil) ++ R) := by rw [hd', flF_one, List.append_assoc]
            obtain ⟨hi1, hat1, _⟩ := at_of_drop (show t.drop (i + 1) = ⟨d + 1, n1, f1, f2⟩ :: (flF (d + 1 + 1) kk1 ++ flF (d + 1) .nil ++ (flF (d + 1) (.cons n2 f2 e2 kk2 .nil) ++ R)) from h0)
            rw [if_pos hi1, hat1, hp, hq]
            have e1 := ih (i + 1) (d + 1) n1 f1 f2 kk1 _ (by omega) (by omega) ⟨hkok.1, hkok.2.1, trivial⟩ h0
            show (entF l w t k (i + 1) ⟨d + 1, n1, f1, f2⟩).bind _ = _
            rw [e1, Option.bind_some, if_pos (by have := hkok.2.2.1.1; show (f2 : Int) ≤ e2; omega)]
            rw [ih _ (d + 1) n2 f2 e2 kk2 R (by omega) (by omega) hkok.2.2 (drop_app h0)]
            congr 1
            rw [flF_one (d + 1) n1 f1 f2 kk1 (.cons n2 f2 e2 kk2 .nil), List.length_append]
            omega
    · rw [if_neg (by omega), if_neg (by omega), if_neg (by omega), if_pos k4]
      obtain ⟨p, hp, hpn⟩ := hP.a n hnl (by omega)
      obtain ⟨q, hq, hqn⟩ := hP.b n hnl (.inr k4)
      have hat1 : i + 1 < t.length ∧ (atE t (i + 1)).node = (r : Int) := by
        cases ks with
        | nil => cases hro
        | cons n' f' e' k1 rest =>
          simp only [rootsO, List.cons.injEq, Prod.mk.injEq] at hro
          obtain ⟨⟨rfl, rfl, rfl⟩, _⟩ := hro
          obtain ⟨h1, h2, _⟩ := at_of_drop (show t.drop (i + 1) = ⟨d + 1, n', f', e'⟩ :: ((flF (d + 1 + 1) k1 ++ flF (d + 1) rest) ++ R) from hd')
          exact ⟨h1, by rw [h2]⟩
      have hsel : (if i + 1 < t.length ∧ (atE t (i + 1)).node = (ndE l n).n then (ndE l n).n else (ndE l n).kids) = (r : Int) := by
        by_cases hc : (atE t (i + 1)).node = (ndE l n).n
        · rw [if_pos ⟨hat1.1, hc⟩, ← hc, hat1.2]
        · rw [if_neg (fun hh => hc hh.2)]
          rcases hr with hr | hr
          · exact hr
          · exact absurd (by rw [hat1.2, hr]) hc
      rw [hsel]
      exact single r (by omega) hro
    · rw [if_neg (by omega), if_neg (by omega), if_neg (by omega), if_neg (by omega), if_pos k5, hp]
      obtain ⟨p', hp', hpn⟩ := hP.a n hnl (by omega)
      have := kids_of ih p (by omega) (by omega) (d + 1) e ks ((e : Int) - f).toNat (i + 1) f R hkok hch (by omega) hd'
      rw [this]
      congr 1
      omega
    · rw [if_neg (by omega), if_neg (by omega), if_neg (by omega), if_neg (by omega), if_neg (by omega)]
      rcases hh with ⟨he, hro⟩ | ⟨he, p, hp, hro⟩
      · have hks : ks = .nil := by cases ks with | nil => rfl | cons _ _ _ _ _ => cases hro
        subst hks
        rw [if_pos ⟨k6, by omega⟩]
        rfl
      · obtain ⟨p', hp', hpn⟩ := hP.a n hnl (by omega)
        rw [if_neg (by omega), hp]
        exact single p (by omega) hro
    · obtain ⟨p', hp', hpn⟩ := hP.a n hnl (by omega)
      rw [if_neg (by omega), if_neg (by omega), if_neg (by omega), if_neg (by omega), if_neg (by omega), if_neg (by omega), hp]
      exact single p (by omega) hro
end
end Go.Proofs.Ytooolhekihijlaa

/- The document's terms: part. Stage 10. -/
namespace Go.Proofs.Ytooolhekihijlaa
open Go.RowKit BS

set_option maxRecDepth 100000 in
set_option maxHeartbeats 4000000 in
theorem part_calls (k : Int) (w : World) : Calls Try.prog 58 #[.int .i64 k] w fun e w' => e = .returned (.tuple #[.bool (decide (pcT k ≠ 0)), .bool (decide (pcT k = 2))]) ∧ w = w' := by
  have go : ∀ (b1 b2 : Bool), decide (pcT k ≠ 0) = b1 → decide (pcT k = 2) = b2 → ∀ q3 q8 e3 e4 : Bool, decide (3 ≤ k) = q3 → decide (k ≤ 8) = q8 → (k == 3) = e3 → (k == 4) = e4 → (q3 && q8) = b1 → (e3 || e4) = b2 →
      Calls Try.prog 58 #[.int .i64 k] w fun e w' => e = .returned (.tuple #[.bool b1, .bool b2]) ∧ w = w' := by
    intro b1 b2 _ _ q3 q8 e3 e4 h3 h8 g3 g4 hb1 hb2
    subst hb1 hb2
    cases q3
    · cases e3
      · go_enter Try.func58, Try.ntmps58
        go_wp2_with fail
        exact bodyPost_ret (v := .tuple #[.bool false, .bool e4]) (by simp [results, Try.results58, go_sem]) rfl ⟨by simp, rfl⟩
      · go_enter Try.func58, Try.ntmps58
        go_wp2_with fail
        exact bodyPost_ret (v := .tuple #[.bool false, .bool true]) (by simp [results, Try.results58, go_sem]) rfl ⟨by simp, rfl⟩
    · cases e3
      · go_enter Try.func58, Try.ntmps58
        go_wp2_with fail
        exact bodyPost_ret (v := .tuple #[.bool q8, .bool e4]) (by simp [results, Try.results58, go_sem]) rfl ⟨by simp, rfl⟩
      · go_enter Try.func58, Try.ntmps58
        go_wp2_with fail
        exact bodyPost_ret (v := .tuple #[.bool q8, .bool true]) (by simp [results, Try.results58, go_sem]) rfl ⟨by simp, rfl⟩
  refine (go _ _ rfl rfl _ _ _ _ rfl rfl rfl rfl ?_ ?_).mono fun _ _ h => h
  · unfold pcT
    by_cases h34 : k = 3 ∨ k = 4
    · rw [if_pos h34, decide_eq_true (by omega), decide_eq_true (by omega)]; rfl
    · rw [if_neg h34]
      by_cases h38 : 3 ≤ k ∧ k ≤ 8
      · rw [if_pos h38, decide_eq_true h38.1, decide_eq_true h38.2]; rfl
      · rw [if_neg h38]
        rw [show (decide ((0 : Nat) ≠ 0)) = false from rfl, ← Bool.decide_and]
        exact decide_eq_false h38
  · unfold pcT
    by_cases h3 : k = 3
    · subst h3; rfl
    · by_cases h4 : k = 4
      · subst h4; rfl
      · rw [if_neg (by omega), show (k == 3) = false from beq_eq_false_iff_ne.2 h3, show (k == 4) = false from beq_eq_false_iff_ne.2 h4]
        split <;> rfl
end Go.Proofs.Ytooolhekihijlaa

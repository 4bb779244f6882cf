/- Texts put together: Iv Ik Xa Trb Tta Ttb Trc Iu. -/
import Derived.Test.YtdpkhliojbeglaaDoorQK
import Derived.Test.YtdpkhliojbeglaaDoorQA
import Derived.Test.YtdpkhliojbeglaaDoorQB
import Derived.Outline
import Derived.Deep.DeepCutAuto
/- Terms, plainly: the first node of each one, step by step. Stage 10. -/
namespace Go.Proofs.YtdpkhliojbeglaaDoor
open Go.RowKit BS

/-- The first node of what node j is, by the trees ahead of it. -/
def lowV (l : List NdN) (j : Nat) : Nat := match trT l j with | some s => j - (s.take ((psT l).getD j 0)).sum | none => 0
theorem trT_pos (l : List NdN) (i : Nat) (s : List Nat) (h : trT l i = some s) : (∀ z ∈ s, 0 < z) ∧ s.sum = i := by
  obtain ⟨h1, h2⟩ := trT_stack l i s h
  refine ⟨stackF_pos _ [] s (by simp) h2, ?_⟩
  have := stackF_sum _ _ _ h2
  rw [List.length_take, psT_len] at this
  simp at this
  omega
theorem lowV_of (l : List NdN) (j : Nat) (s : List Nat) (h : trT l j = some s) (hj : j < l.length) : lowV l j = j - (s.take (pcT l[j].kind)).sum := by
  have e : (psT l).getD j 0 = pcT l[j].kind := by
    rw [List.getD_eq_getElem?_getD, List.getElem?_eq_getElem (by rw [psT_len]; exact hj), Option.getD_some, psT_get l j hj]
  have e1 : lowV l j = match trT l j with | some s => j - (s.take ((psT l).getD j 0)).sum | none => 0 := rfl
  rw [e1, h, e]
theorem lowV_le (l : List NdN) (j : Nat) : lowV l j ≤ j := by
  unfold lowV
  split
  · exact Nat.sub_le _ _
  · exact Nat.zero_le _
theorem lowV_size (l : List NdN) (i : Nat) (s : List Nat) (h : trT l i = some s) (j : Nat) (hj : j < i) : (sizesF [] ((psT l).take i))[j]? = some (j + 1 - lowV l j) := by
  have hil := (trT_stack l i s h).1
  have hpl := psT_len l
  obtain ⟨t, ht⟩ := trT_before l i s h j (by omega)
  have hts := (trT_stack l j t ht).2
  have hsum := (trT_pos l j t ht).2
  have e : ((psT l).take i).take j = (psT l).take j := by rw [List.take_take, Nat.min_eq_left (by omega)]
  have hr := (roots_at ((psT l).take i) j (by rw [List.length_take]; omega) t (by rw [e]; exact hts)).2.2
  rw [hr, lowV_of l j t ht (by omega), List.getElem_take, psT_get l j (by omega)]
  have := take_sum_le t (pcT l[j].kind)
  congr 1
  omega
/-- Where the trees ahead stand, and where each begins. -/
theorem low_part (l : List NdN) (i : Nat) (s : List Nat) (h : trT l i = some s) (j : Nat) (hj : j < s.length) : (s.take j).sum < i ∧ lowV l (i - 1 - (s.take j).sum) = i - (s.take (j + 1)).sum := by
  have hil := (trT_stack l i s h).1
  have hst := (trT_stack l i s h).2
  have hpl := psT_len l
  have hr := roots_all ((psT l).take i) [] [] s (by simp) (by intro j hj; simp at hj) hst
  rw [List.nil_append] at hr
  obtain ⟨h1, h2⟩ := hr j hj
  have hl : (sizesF [] ((psT l).take i)).length = i := by rw [sizesF_len, List.length_take]; omega
  rw [hl] at h1 h2
  refine ⟨h1, ?_⟩
  rw [lowV_size l i s h _ (by omega)] at h2
  have h3 := Option.some.inj h2
  have h4 := take_sum s j hj
  have h5 := lowV_le l (i - 1 - (s.take j).sum)
  have h6 := (trT_pos l i s h).1 s[j] (List.getElem_mem hj)
  omega
/-- Where A must stand; where node i begins. -/
def atT (l : List NdN) (i : Nat) : Int := if (psT l).getD i 0 = 2 then (lowV l (i - 1) : Int) - 1 else (i : Int) - 1
def loT (l : List NdN) (i : Nat) : Nat := if (psT l).getD i 0 = 0 then i else lowV l (atT l i).toNat
/-- **What is asked of node i.** -/
theorem fine_go (l : List NdN) (i : Nat) (s : List Nat) (h : trT l i = some s) (hi : i < l.length) :
    fineT l s i l[i] = true ↔ kindT l[i] = true ∧ (pcT l[i].kind = 2 → 0 < i ∧ l[i].n = (i : Int) - 1) ∧ (pcT l[i].kind ≠ 0 → 0 ≤ atT l i ∧ l[i].kids = atT l i) ∧ noT l l[i] (loT l i) i = true := by
  have e : (psT l).getD i 0 = pcT l[i].kind := by
    rw [List.getD_eq_getElem?_getD, List.getElem?_eq_getElem (by rw [psT_len]; exact hi), Option.getD_some, psT_get l i hi]
  obtain ⟨hpos, hsum⟩ := trT_pos l i s h
  have hp := fun j hj => low_part l i s h j hj
  unfold fineT loT atT
  rw [e]
  simp only [Bool.and_eq_true, decide_eq_true_eq]
  unfold argT
  generalize hx : l[i] = x at *
  clear hx
  have hpk := pc_kinds x.kind
  obtain _ | ⟨z, s⟩ := s
  · simp only [List.sum_nil] at hsum
    subst hsum
    rcases hpk with c | c | c
    · rw [c]; simp
    · rw [c]; simp
    · rw [c]; simp
  · have hz := hpos z (List.mem_cons_self ..)
    have p0 := hp 0 (by simp)
    simp only [List.take_zero, List.sum_nil, Nat.sub_zero, Nat.zero_add, List.take_succ_cons, List.sum_cons, Nat.add_zero] at p0
    simp only [List.sum_cons] at hsum
    have hi0 : 0 < i := p0.1
    have c1 : ((i - 1 : Nat) : Int) = (i : Int) - 1 := by omega
    rcases hpk with c | c | c
    · rw [c]; simp
    · rw [c]
      simp only [posF, List.getD_cons_zero, List.take_succ_cons, List.take_zero, List.sum_cons, List.sum_nil, Nat.add_zero, List.length_cons]
      rw [if_pos trivial, if_neg (by decide), if_neg (by decide), if_neg (by decide), decide_eq_true_eq, c1, show ((i : Int) - 1).toNat = i - 1 by omega, p0.2]
      constructor
      · rintro ⟨h1, _, h3, h4⟩
        exact ⟨h1, fun h => by omega, fun _ => ⟨by omega, h3⟩, h4⟩
      · rintro ⟨h1, _, h3, h4⟩
        exact ⟨h1, by omega, (h3 (by decide)).2, h4⟩
    · rw [c]
      rw [if_pos rfl, if_pos rfl, if_neg (by decide), p0.2]
      obtain _ | ⟨u, s⟩ := s
      · simp only [List.sum_nil] at hsum
        constructor
        · rintro ⟨_, h2, _⟩
          simp at h2
        · rintro ⟨_, _, h3, _⟩
          have := (h3 (by decide)).1
          omega
      · have hu := hpos u (by simp)
        have p1 := hp 1 (by simp)
        simp only [List.take_succ_cons, List.take_zero, List.sum_cons, List.sum_nil, Nat.add_zero] at p1
        simp only [List.sum_cons] at hsum
        simp only [posF, List.getD_cons_zero, List.getD_cons_succ, List.take_succ_cons, List.take_zero, List.sum_cons, List.sum_nil, Nat.add_zero, List.length_cons]
        rw [decide_eq_true_eq, c1, show (((i - z : Nat) : Int) - 1).toNat = i - 1 - z by omega, p1.2, show ((i - z - 1 : Nat) : Int) = ((i - z : Nat) : Int) - 1 by omega]
        constructor
        · rintro ⟨h1, _, h3, h4⟩
          exact ⟨h1, fun _ => ⟨hi0, h3.1⟩, fun _ => ⟨by omega, h3.2⟩, h4⟩
        · rintro ⟨h1, h2, h3, h4⟩
          exact ⟨h1, by omega, ⟨(h2 (by trivial)).2, (h3 (by decide)).2⟩, h4⟩
/-- It begins there. -/
theorem lowV_lo (l : List NdN) (i : Nat) (s : List Nat) (h : trT l i = some s) (hi : i < l.length) (hf : fineT l s i l[i] = true) : lowV l i = loT l i := by
  have e : (psT l).getD i 0 = pcT l[i].kind := by
    rw [List.getD_eq_getElem?_getD, List.getElem?_eq_getElem (by rw [psT_len]; exact hi), Option.getD_some, psT_get l i hi]
  have hl := fineT_len l s i _ hf
  have hp := fun j hj => low_part l i s h j hj
  obtain ⟨hpos, hsum⟩ := trT_pos l i s h
  rw [lowV_of l i s h hi]
  unfold loT atT
  rw [e]
  rcases pc_kinds l[i].kind with c | c | c
  · rw [c]; simp
  · rw [c] at hl ⊢
    have p0 := hp 0 (by omega)
    rw [if_neg (by decide), if_neg (by decide), show ((i : Int) - 1).toNat = i - 1 by omega]
    simp only [List.take_zero, List.sum_nil, Nat.sub_zero, Nat.zero_add] at p0
    exact p0.2.symm
  · rw [c] at hl ⊢
    have p0 := hp 0 (by omega)
    have p1 := hp 1 (by omega)
    rw [if_neg (by decide), if_pos rfl]
    simp only [List.take_zero, List.sum_nil, Nat.sub_zero, Nat.zero_add] at p0
    rw [p0.2]
    have := take_sum_le s 1
    rw [show (((i - (s.take 1).sum : Nat) : Int) - 1).toNat = i - 1 - (s.take 1).sum by omega]
    exact p1.2.symm
/-- **All is one term, if the last node begins at the first one.** -/
theorem trT_root (l : List NdN) (s : List Nat) (h : trT l l.length = some s) (hl : 0 < l.length) : s = [l.length] ↔ lowV l (l.length - 1) = 0 := by
  obtain ⟨hpos, hsum⟩ := trT_pos l _ s h
  obtain _ | ⟨z, s⟩ := s
  · simp at hsum; omega
  · have p0 := low_part l _ _ h 0 (by simp)
    simp only [List.take_zero, List.sum_nil, Nat.sub_zero, Nat.zero_add, List.take_succ_cons, List.sum_cons, Nat.add_zero] at p0
    simp only [List.sum_cons] at hsum
    rw [p0.2]
    constructor
    · intro e
      cases e
      omega
    · intro e
      have : s = [] := by
        cases s with
        | nil => rfl
        | cons u s =>
          have := hpos u (by simp)
          simp only [List.sum_cons] at hsum
          omega
      subst this
      simp only [List.sum_nil] at hsum
      rw [show z = l.length by omega]
theorem lowT_V (l : List NdN) (h : TermQ l) (i : Nat) (hi : i < l.length) : lowT l i = (lowV l i : Int) := by
  obtain ⟨h1, h2, h3⟩ := of_decide_eq_true (q_right l h)
  have hs := lowV_size l _ _ h1 i hi
  rw [List.take_of_length_le (by rw [psT_len]; exact Nat.le_refl _)] at hs
  have hf := formed_as l h
  have hR := (formed_stack (asL l) hf).2.2.2.2
  unfold lowT
  rw [List.getD_eq_getElem?_getD, hR, List.getElem?_map, ksN_as, hs]
  have := lowV_le l i
  show (i : Int) + 1 - ((i + 1 - lowV l i : Nat) : Int) = _
  omega
end Go.Proofs.YtdpkhliojbeglaaDoor

/- A term's nodes, their parts, and where they begin, plainly. -/
namespace Go.Proofs.YtdpkhliojbeglaaDoor
open Go.RowKit BS

theorem kindT_no (x : NdN) (h : kindT x = true) : (pcT x.kind = 0 → x.kids = -1) ∧ (pcT x.kind ≠ 2 → x.n = -1) := by
  unfold kindT at h
  obtain ⟨_, _, _, _, _, h6, h7⟩ := of_decide_eq_true h
  exact ⟨h6, h7⟩
theorem psT_getD (l : List NdN) (i : Nat) (hi : i < l.length) : (psT l).getD i 0 = pcT l[i].kind := by
  rw [List.getD_eq_getElem?_getD, List.getElem?_eq_getElem (by rw [psT_len]; exact hi), Option.getD_some, psT_get l i hi]
theorem tr_at (l : List NdN) (hr : rightT l = true) (i : Nat) (hi : i < l.length) : ∃ s, trT l i = some s ∧ fineT l s i l[i] = true := by
  obtain ⟨h1, _, _⟩ := of_decide_eq_true hr
  obtain ⟨s', hs'⟩ := trT_before l _ _ h1 (i + 1) hi
  obtain ⟨s0, h4, _, h5, _⟩ := trT_step l i s' hs'
  exact ⟨s0, h4, h5⟩
/-- **A node's parts, and where they begin.** -/
theorem low_parts (l : List NdN) (hr : rightT l = true) (i : Nat) (hi : i < l.length) :
    (l[i].kids = -1 ∧ l[i].n = -1 ∧ partsT l i = [] ∧ lowV l i = i) ∨
    (∃ a : Nat, l[i].kids = a ∧ l[i].n = -1 ∧ partsT l i = [(a : Int)] ∧ a + 1 = i ∧ lowV l a = lowV l i) ∨
    (∃ a b : Nat, l[i].kids = a ∧ l[i].n = b ∧ partsT l i = [(a : Int), (b : Int)] ∧ b + 1 = i ∧ a + 1 = lowV l b ∧ lowV l a = lowV l i ∧ a < i) := by
  have hq := rightT_q l hr
  obtain ⟨s, hs, hf⟩ := tr_at l hr i hi
  obtain ⟨hk, h2, h3, _⟩ := (fine_go l i s hs hi).1 hf
  have hlo := lowV_lo l i s hs hi hf
  have hp := parts_as l hq i hi
  obtain ⟨k0, k2⟩ := kindT_no l[i] hk
  unfold loT atT at hlo
  unfold atT at h3
  rw [psT_getD l i hi] at hlo h3
  unfold partsT
  rcases pc_kinds l[i].kind with c | c | c
  · rw [c, if_neg (by decide), if_neg (by decide)] at hp
    rw [c, if_pos rfl] at hlo
    exact .inl ⟨k0 c, k2 (by omega), hp, hlo⟩
  · rw [c, if_neg (by decide), if_pos rfl] at hp
    rw [c, if_neg (by decide), if_neg (by decide)] at hlo
    rw [c, if_neg (by decide)] at h3
    obtain ⟨h4, h5⟩ := h3 (by decide)
    refine .inr (.inl ⟨i - 1, by omega, k2 (by omega), by rw [hp, h5]; congr 1; omega, by omega, ?_⟩)
    rw [hlo]
    congr 1
    omega
  · rw [c, if_pos rfl] at hp
    rw [c, if_neg (by decide), if_pos rfl] at hlo
    rw [c, if_pos rfl] at h3
    obtain ⟨h4, h5⟩ := h3 (by decide)
    obtain ⟨h6, h7⟩ := h2 c
    have hle := lowV_le l (i - 1)
    refine .inr (.inr ⟨lowV l (i - 1) - 1, i - 1, by omega, by omega, by rw [hp, h5, h7, show ((lowV l (i - 1) - 1 : Nat) : Int) = (lowV l (i - 1) : Int) - 1 by omega, show ((i - 1 : Nat) : Int) = (i : Int) - 1 by omega], by omega, by omega, ?_, by omega⟩)
    rw [hlo]
    congr 1
    omega
/-- How many parts a node has. -/
theorem parts_kind (l : List NdN) (h : TermQ l) (i : Nat) (hi : i < l.length) : (partsT l i).length = pcT l[i].kind := by
  unfold partsT
  rw [parts_as l h i hi]
  rcases pc_kinds l[i].kind with c | c | c <;> rw [c] <;> rfl
end Go.Proofs.YtdpkhliojbeglaaDoor

/- What of a term can be nothing, its steps, its shortest word, plainly. Stage 12. -/
namespace Go.Proofs.YtdpkhliojbeglaaDoor
open Go.RowKit BS

/-- A node's kind, its parts, and where they begin. -/
theorem nodek_parts (l : List NdN) (hr : rightT l = true) (i : Nat) (hi : i < l.length) :
    (pcT l[i].kind = 0 ∧ l[i].kids = -1 ∧ l[i].n = -1 ∧ lowV l i = i) ∨
    (∃ a : Nat, pcT l[i].kind = 1 ∧ l[i].kids = a ∧ l[i].n = -1 ∧ a + 1 = i ∧ lowV l a = lowV l i) ∨
    (∃ a b : Nat, pcT l[i].kind = 2 ∧ l[i].kids = a ∧ l[i].n = b ∧ b + 1 = i ∧ a + 1 = lowV l b ∧ lowV l a = lowV l i ∧ a < i) := by
  have hk := parts_kind l (rightT_q l hr) i hi
  rcases low_parts l hr i hi with ⟨h1, h2, h3, h4⟩ | ⟨a, h1, h2, h3, h4, h5⟩ | ⟨a, b, h1, h2, h3, h4, h5, h6, h7⟩
  · rw [h3] at hk
    exact .inl ⟨hk.symm, h1, h2, h4⟩
  · rw [h3] at hk
    exact .inr (.inl ⟨a, hk.symm, h1, h2, h4, h5⟩)
  · rw [h3] at hk
    exact .inr (.inr ⟨a, b, hk.symm, h1, h2, h4, h5, h6, h7⟩)
theorem kind_range (l : List NdN) (hr : rightT l = true) (i : Nat) (hi : i < l.length) : 1 ≤ l[i].kind ∧ l[i].kind ≤ 8 := by
  obtain ⟨s, hs, hf⟩ := tr_at l hr i hi
  obtain ⟨hk, _⟩ := (fine_go l i s hs hi).1 hf
  unfold kindT at hk
  have := of_decide_eq_true hk
  exact ⟨this.1, this.2.1⟩
theorem pc_zero {k : Int} (h : pcT k = 0) (h1 : 1 ≤ k) (h8 : k ≤ 8) : k = 1 ∨ k = 2 := by
  unfold pcT at h
  split at h
  · cases h
  · split at h
    · cases h
    · omega
theorem pc_one {k : Int} (h : pcT k = 1) : k = 5 ∨ k = 6 ∨ k = 7 ∨ k = 8 := by
  unfold pcT at h
  split at h
  · cases h
  · split at h
    · omega
    · cases h
theorem pc_two {k : Int} (h : pcT k = 2) : k = 3 ∨ k = 4 := by
  unfold pcT at h
  split at h
  · assumption
  · split at h <;> cases h

/-! ### Told node by node, of what is told of the nodes ahead -/
section
variable {α : Type} (d : α) (E : (Nat → α) → NdN → α)
def recL (l : List NdN) : Nat → List α
  | 0 => []
  | i + 1 => recL l i ++ [match l[i]? with | some x => E (fun k => (recL l i).getD k d) x | none => d]
def recF (l : List NdN) (i : Nat) : α := (recL d E l l.length).getD i d
theorem recL_len (l : List NdN) : ∀ i, (recL d E l i).length = i
  | 0 => rfl
  | i + 1 => by rw [recL, List.length_append, recL_len l i]; rfl
theorem recL_getD (l : List NdN) (i j : Nat) (h : j < i) : ∀ k, i ≤ k → (recL d E l k).getD j d = (recL d E l i).getD j d
  | 0, hk => by omega
  | k + 1, hk => by
    rcases Nat.lt_or_ge i (k + 1) with h1 | h1
    · rw [recL, List.getD_eq_getElem?_getD, List.getElem?_append_left (by rw [recL_len]; omega), ← List.getD_eq_getElem?_getD]
      exact recL_getD l i j h k (by omega)
    · obtain rfl : i = k + 1 := by omega
      rfl
theorem recL_last (l : List NdN) (i : Nat) (hi : i < l.length) : (recL d E l (i + 1)).getD i d = E (fun k => (recL d E l i).getD k d) l[i] := by
  rw [recL, List.getD_eq_getElem?_getD, List.getElem?_append_right (by rw [recL_len]; exact Nat.le_refl _), recL_len, Nat.sub_self, List.getElem?_eq_getElem hi]
  rfl
/-- What is told hangs on nothing but the parts. -/
def Local (E : (Nat → α) → NdN → α) : Prop := ∀ (f g : Nat → α) (x : NdN), (pcT x.kind ≠ 0 → f x.kids.toNat = g x.kids.toNat) → (pcT x.kind = 2 → f x.n.toNat = g x.n.toNat) → E f x = E g x
theorem recF_eq (hE : Local E) (l : List NdN) (hr : rightT l = true) (i : Nat) (hi : i < l.length) : recF d E l i = E (recF d E l) l[i] := by
  unfold recF
  rw [recL_getD d E l (i + 1) i (Nat.lt_succ_self i) l.length hi, recL_last d E l i hi]
  have key : ∀ k, k < i → (recL d E l i).getD k d = (recL d E l l.length).getD k d := fun k hk => (recL_getD d E l i k hk l.length (by omega)).symm
  rcases nodek_parts l hr i hi with ⟨h0, _⟩ | ⟨a, h0, h1, h2, h3, _⟩ | ⟨a, b, h0, h1, h2, h3, h4, h5, h6⟩
  · exact hE _ _ _ (fun h => absurd h0 h) (fun h => by omega)
  · exact hE _ _ _ (fun _ => key _ (by rw [h1]; omega)) (fun h => by omega)
  · exact hE _ _ _ (fun _ => key _ (by rw [h1]; omega)) (fun _ => key _ (by rw [h2]; omega))
end
/-! ### What can be nothing -/
def canE (f : Nat → Bool) (x : NdN) : Bool :=
  if x.kind = 1 ∨ x.kind = 5 ∨ x.kind = 6 then true
  else if x.kind = 3 then f x.kids.toNat && f x.n.toNat
  else if x.kind = 4 then f x.kids.toNat || f x.n.toNat
  else if x.kind = 7 ∨ x.kind = 8 then f x.kids.toNat
  else false
def canL (l : List NdN) : Nat → List Bool := recL false canE l
def canF (l : List NdN) : Nat → Bool := recF false canE l
/-- What Can tells. -/
def canT (l : List NdN) : List Bool := if rightT l = true then canL l l.length else []
theorem can_local : Local canE := fun f g x h1 h2 => by
  unfold canE
  split
  · rfl
  · split
    · rename_i h
      rw [h1 (by rw [h]; decide), h2 (by rw [h]; decide)]
    · split
      · rename_i h
        rw [h1 (by rw [h]; decide), h2 (by rw [h]; decide)]
      · split
        · rename_i h
          rw [h1 (by rcases h with h | h <;> rw [h] <;> decide)]
        · rfl
theorem can_eq (l : List NdN) (hr : rightT l = true) (i : Nat) (hi : i < l.length) : canF l i = canE (canF l) l[i] := recF_eq false canE can_local l hr i hi
theorem canT_len (l : List NdN) (hr : rightT l = true) : (canT l).length = l.length := by
  unfold canT
  rw [if_pos hr]
  exact recL_len _ _ _ _
theorem canT_get (l : List NdN) (hr : rightT l = true) (i : Nat) (hi : i < l.length) : (canT l)[i]? = some (canF l i) := by
  have h : i < (canT l).length := by rw [canT_len l hr]; exact hi
  have e : canF l i = (canT l).getD i false := by unfold canT; rw [if_pos hr]; rfl
  rw [e, List.getD_eq_getElem?_getD, List.getElem?_eq_getElem h]
  rfl
/-! ### The shortest word -/
def nxB (t : BitVec 256) : Option Nat := (List.range 256).find? fun j => t.getLsbD j
/-- Is the first one shorter, or as short and less? -/
def btr (a b : List Nat) : Bool := if a.length ≠ b.length then decide (a.length < b.length) else decide (a < b)
def wdE (f : Nat → Option (List Nat)) (x : NdN) : Option (List Nat) :=
  if x.kind = 1 ∨ x.kind = 5 ∨ x.kind = 6 then some []
  else if x.kind = 2 then (nxB x.set).map fun b => [b]
  else if x.kind = 3 then (f x.kids.toNat).bind fun a => (f x.n.toNat).map fun b => a ++ b
  else if x.kind = 4 then (match f x.kids.toNat, f x.n.toNat with | none, y => y | some a, none => some a | some a, some b => if btr b a = true then some b else some a)
  else if x.kind = 7 ∨ x.kind = 8 then f x.kids.toNat
  else none
def wdF (l : List NdN) : Nat → Option (List Nat) := recF none wdE l
/-- What Word tells. -/
def wordT (l : List NdN) : Option (List Nat) := if rightT l = true then wdF l (l.length - 1) else none
theorem wd_local : Local wdE := fun f g x h1 h2 => by
  unfold wdE
  split
  · rfl
  · split
    · rfl
    · split
      · rename_i h
        rw [h1 (by rw [h]; decide), h2 (by rw [h]; decide)]
      · split
        · rename_i h
          rw [h1 (by rw [h]; decide), h2 (by rw [h]; decide)]
        · split
          · rename_i h
            rw [h1 (by rcases h with h | h <;> rw [h] <;> decide)]
          · rfl
theorem wd_eq (l : List NdN) (hr : rightT l = true) (i : Nat) (hi : i < l.length) : wdF l i = wdE (wdF l) l[i] := recF_eq none wdE wd_local l hr i hi
theorem btr_nil (a : List Nat) : btr a [] = false := by
  unfold btr
  cases a <;> simp
theorem nil_btr (a : List Nat) (h : a ≠ []) : btr [] a = true := by
  unfold btr
  cases a <;> simp_all
/-- **A node can be nothing just if its shortest word is no byte.** -/
theorem can_word (l : List NdN) (hr : rightT l = true) : ∀ i, i < l.length → (canF l i = true ↔ wdF l i = some []) := fun i => by
  induction i using Nat.strongRecOn with
  | ind i ih =>
    intro hi
    rw [can_eq l hr i hi, wd_eq l hr i hi]
    obtain ⟨k1, k8⟩ := kind_range l hr i hi
    unfold canE wdE
    rcases nodek_parts l hr i hi with ⟨h0, _⟩ | ⟨a, h0, h1, h2, h3, _⟩ | ⟨a, b, h0, h1, h2, h3, h4, h5, h6⟩
    · rcases pc_zero h0 k1 k8 with h | h
      · rw [if_pos (.inl h), if_pos (.inl h)]
        simp
      · rw [h]
        cases nxB l[i].set <;> simp
    · have iha := ih a (by omega) (by omega)
      have e : l[i].kids.toNat = a := by rw [h1]; omega
      rcases pc_one h0 with h | h | h | h <;> rw [h, e] <;> simp [iha]
    · have iha := ih a h6 (by omega)
      have ihb := ih b (by omega) (by omega)
      have ea : l[i].kids.toNat = a := by rw [h1]; omega
      have eb : l[i].n.toNat = b := by rw [h2]; omega
      rcases pc_two h0 with h | h
      · rw [h, ea, eb]
        simp only [Int.reduceEq, or_self, if_false, if_true, Bool.and_eq_true, iha, ihb]
        cases wdF l a <;> cases wdF l b <;> simp
      · rw [h, ea, eb]
        simp only [Int.reduceEq, or_self, if_false, if_true, Bool.or_eq_true, iha, ihb]
        cases hA : wdF l a with
        | none => cases wdF l b <;> simp
        | some x =>
          cases hB : wdF l b with
          | none => simp
          | some y =>
            simp only [Option.some.injEq]
            by_cases hx : x = []
            · subst hx; rw [btr_nil]; simp
            · by_cases hy : y = []
              · subst hy; rw [nil_btr x hx]; simp
              · by_cases hb : btr y x = true <;> simp [hb, hx, hy]
end Go.Proofs.YtdpkhliojbeglaaDoor

/- Parse trees, plainly: forests; which list is a parse tree. Stage 14. -/
namespace Go.Proofs.YtdpkhliojbeglaaDoor
open Go.RowKit

/-- Trees side by side: a node, what it spans, its kids; the ones behind. -/
inductive Fo where
  | nil : Fo
  | cons (n f e : Nat) (ks rest : Fo) : Fo
/-- The entries. -/
def flF : Int → Fo → List EnN
  | _, .nil => []
  | d, .cons n f e ks rest => ⟨d, n, f, e⟩ :: (flF (d + 1) ks ++ flF d rest)
/-- The uppermost nodes, and what they span. -/
def rootsO : Fo → List (Nat × Nat × Nat)
  | .nil => []
  | .cons n f e _ rest => (n, f, e) :: rootsO rest
/-- Side by side, a byte at least each. -/
def chainR (p : Nat) (f e : Nat) : List (Nat × Nat × Nat) → Prop
  | [] => f = e
  | (n, f', m) :: r => n = p ∧ f' = f ∧ f < m ∧ m ≤ e ∧ chainR p m e r
def ndE (l : List NdN) (n : Nat) : NdN := l.getD n ⟨0, 0, 0, 0, 0⟩
/-- A node's kids are as its kind has them. -/
def nodeOk (x : NdN) (w : List Nat) (f e : Nat) (R : List (Nat × Nat × Nat)) : Prop :=
  f ≤ e ∧ e ≤ w.length ∧
  ((x.kind = 1 ∧ f = e ∧ R = []) ∨
   (x.kind = 2 ∧ e = f + 1 ∧ x.set.getLsbD (w.getD f 0) = true ∧ R = []) ∨
   (x.kind = 3 ∧ ∃ p q m : Nat, x.kids = p ∧ x.n = q ∧ R = [(p, f, m), (q, m, e)]) ∨
   (x.kind = 4 ∧ ∃ p : Nat, (x.kids = p ∨ x.n = p) ∧ R = [(p, f, e)]) ∨
   (x.kind = 5 ∧ ∃ p : Nat, x.kids = p ∧ chainR p f e R) ∨
   (x.kind = 6 ∧ ((f = e ∧ R = []) ∨ (f < e ∧ ∃ p : Nat, x.kids = p ∧ R = [(p, f, e)]))) ∨
   ((x.kind = 7 ∨ x.kind = 8) ∧ ∃ p : Nat, x.kids = p ∧ R = [(p, f, e)]))
/-- All nodes' kids are so. -/
def okF (l : List NdN) (w : List Nat) : Fo → Prop
  | .nil => True
  | .cons n f e ks rest => nodeOk (ndE l n) w f e (rootsO ks) ∧ okF l w ks ∧ okF l w rest
/-- A row of kids, by the document. -/
def kidsF (ent : Nat → EnN → Option Nat) (t : List EnN) (a d e0 : Int) : Nat → Nat → Int → Option Nat
  | 0, i, at_ => if at_ < e0 then none else some i
  | m + 1, i, at_ => if at_ < e0 then (if i < t.length ∧ at_ < (atE t i).to then (ent i ⟨d, a, at_, (atE t i).to⟩).bind fun j => if (atE t i).to ≤ e0 then kidsF ent t a d e0 m j (atE t i).to else none else none) else some i
/-- The entry behind a node, by the document. -/
def entF (l : List NdN) (w : List Nat) (t : List EnN) : Nat → Nat → EnN → Option Nat
  | 0, _, _ => none
  | k + 1, i, want =>
    if i < t.length ∧ atE t i = want ∧ 0 ≤ want.from_ ∧ want.from_ ≤ want.to ∧ want.to ≤ (w.length : Int) then
      if (ndE l want.node.toNat).kind = 1 then (if want.from_ = want.to then some (i + 1) else none)
      else if (ndE l want.node.toNat).kind = 2 then (if want.to = want.from_ + 1 ∧ (ndE l want.node.toNat).set.getLsbD (w.getD want.from_.toNat 0) = true then some (i + 1) else none)
      else if (ndE l want.node.toNat).kind = 3 then (if i + 1 < t.length then (entF l w t k (i + 1) ⟨want.depth + 1, (ndE l want.node.toNat).kids, want.from_, (atE t (i + 1)).to⟩).bind fun q => if (atE t (i + 1)).to ≤ want.to then entF l w t k q ⟨want.depth + 1, (ndE l want.node.toNat).n, (atE t (i + 1)).to, want.to⟩ else none else none)
      else if (ndE l want.node.toNat).kind = 4 then entF l w t k (i + 1) ⟨want.depth + 1, if i + 1 < t.length ∧ (atE t (i + 1)).node = (ndE l want.node.toNat).n then (ndE l want.node.toNat).n else (ndE l want.node.toNat).kids, want.from_, want.to⟩
      else if (ndE l want.node.toNat).kind = 5 then kidsF (entF l w t k) t (ndE l want.node.toNat).kids (want.depth + 1) want.to (want.to - want.from_).toNat (i + 1) want.from_
      else if (ndE l want.node.toNat).kind = 6 ∧ want.from_ = want.to then some (i + 1)
      else entF l w t k (i + 1) ⟨want.depth + 1, (ndE l want.node.toNat).kids, want.from_, want.to⟩
    else none
theorem drop_one (t : List EnN) (i : Nat) (h : i < t.length) : t.drop i = atE t i :: t.drop (i + 1) := by
  rw [List.drop_eq_getElem_cons h, atE_lt t i h]
theorem flF_one (d : Int) (n f e : Nat) (ks rest : Fo) : flF d (.cons n f e ks rest) = flF d (.cons n f e ks .nil) ++ flF d rest := by
  simp [flF]
/-- What is told of a right term's nodes: parts are nodes ahead of them. -/
structure PartsOk (l : List NdN) : Prop where
  kind : ∀ n, n < l.length → 1 ≤ (ndE l n).kind ∧ (ndE l n).kind ≤ 8
  a : ∀ n, n < l.length → 3 ≤ (ndE l n).kind → ∃ p : Nat, (ndE l n).kids = p ∧ p < n
  b : ∀ n, n < l.length → (ndE l n).kind = 3 ∨ (ndE l n).kind = 4 → ∃ p : Nat, (ndE l n).n = p ∧ p < n
section
variable {l : List NdN} {w : List Nat} {t : List EnN}
/-- The document's entry, where it is one: a parse tree stands there. -/
def EntOk (l : List NdN) (w : List Nat) (t : List EnN) (k : Nat) : Prop := ∀ i d (n : Nat) f e j, n < k → n < l.length → entF l w t k i ⟨d, n, f, e⟩ = some j →
  ∃ (f' e' : Nat) (ks : Fo), f = f' ∧ e = e' ∧ okF l w (.cons n f' e' ks .nil) ∧ i < j ∧ j ≤ t.length ∧ t.drop i = flF d (.cons n f' e' ks .nil) ++ t.drop j
theorem kids_ok {k : Nat} (ih : EntOk l w t k) (p : Nat) (hp : p < k) (hpl : p < l.length) (d : Int) (e : Nat) : ∀ m i (at_ : Nat) j, at_ ≤ e → e - at_ ≤ m → i ≤ t.length → kidsF (entF l w t k) t p d e m i at_ = some j →
    ∃ ks, okF l w ks ∧ chainR p at_ e (rootsO ks) ∧ i ≤ j ∧ j ≤ t.length ∧ t.drop i = flF d ks ++ t.drop j := by
  intro m
  induction m with
  | zero =>
    intro i at_ j h1 h2 h3 h
    unfold kidsF at h
    rw [if_neg (by omega)] at h
    cases h
    exact ⟨.nil, trivial, (show at_ = e by omega), Nat.le_refl _, h3, rfl⟩
  | succ m ihm =>
    intro i at_ j h1 h2 h3 h
    unfold kidsF at h
    by_cases hlt : (at_ : Int) < e
    · rw [if_pos hlt] at h
      by_cases hc : i < t.length ∧ (at_ : Int) < (atE t i).to
      · rw [if_pos hc] at h
        obtain ⟨q, hq, h⟩ := Option.bind_eq_some_iff.1 h
        obtain ⟨f', e', ks, hf, he, hok, hij, hjl, hdr⟩ := ih i d p _ _ q hp hpl hq
        split at h
        · rename_i hle
          rw [he] at h hle hc
          obtain ⟨rest, hrok, hch, hqj, hjl2, hdr2⟩ := ihm q e' j (by omega) (by omega) hjl h
          have hfa : f' = at_ := by omega
          subst hfa
          refine ⟨.cons p f' e' ks rest, ⟨hok.1, hok.2.1, hrok⟩, ⟨rfl, rfl, by omega, by omega, hch⟩, by omega, hjl2, ?_⟩
          rw [flF_one, hdr, hdr2, List.append_assoc]
        · cases h
      · rw [if_neg hc] at h; cases h
    · rw [if_neg hlt] at h
      cases h
      exact ⟨.nil, trivial, (show at_ = e by omega), Nat.le_refl _, h3, rfl⟩
theorem ent_ok (hP : PartsOk l) : ∀ k, EntOk l w t k
  | 0 => fun i d n f e j hn => absurd hn (by omega)
  | k + 1 => by
    intro i d n f e j hn hnl h
    have ih := ent_ok hP k
    unfold entF at h
    by_cases hc : i < t.length ∧ atE t i = ⟨d, n, f, e⟩ ∧ 0 ≤ f ∧ f ≤ e ∧ e ≤ (w.length : Int)
    · rw [if_pos hc] at h
      obtain ⟨hi, hat, h0, hfe, hel⟩ := hc
      obtain ⟨f, rfl⟩ : ∃ f' : Nat, f = f' := ⟨f.toNat, by omega⟩
      obtain ⟨e, rfl⟩ : ∃ e' : Nat, e = e' := ⟨e.toNat, by omega⟩
      simp only [Int.toNat_natCast] at h
      obtain ⟨hk1, hk8⟩ := hP.kind n hnl
      have hd := drop_one t i hi
      rw [hat] at hd
      have base : f ≤ e ∧ e ≤ w.length := by omega
      by_cases k1 : (ndE l n).kind = 1
      · rw [if_pos k1] at h
        split at h
        · cases h
          exact ⟨f, e, .nil, rfl, rfl, ⟨⟨base.1, base.2, .inl ⟨k1, by omega, rfl⟩⟩, trivial, trivial⟩, by omega, by omega, by rw [hd]; rfl⟩
        · cases h
      rw [if_neg k1] at h
      by_cases k2 : (ndE l n).kind = 2
      · rw [if_pos k2] at h
        split at h
        · rename_i hh
          cases h
          exact ⟨f, e, .nil, rfl, rfl, ⟨⟨base.1, base.2, .inr (.inl ⟨k2, by omega, hh.2, rfl⟩)⟩, trivial, trivial⟩, by omega, by omega, by rw [hd]; rfl⟩
        · cases h
      rw [if_neg k2] at h
      by_cases k3 : (ndE l n).kind = 3
      · rw [if_pos k3] at h
        obtain ⟨p, hp, hpn⟩ := hP.a n hnl (by omega)
        obtain ⟨q, hq, hqn⟩ := hP.b n hnl (.inl k3)
        rw [hp, hq] at h
        split at h
        · obtain ⟨r, hr, h⟩ := Option.bind_eq_some_iff.1 h
          obtain ⟨f1, m1, ks1, hf1, hm1, hok1, hir, hrl, hdr1⟩ := ih (i + 1) (d + 1) p _ _ r (by omega) (by omega) hr
          split at h
          · rw [hm1] at h
            obtain ⟨f2, e2, ks2, hf2, he2, hok2, hrj, hjl, hdr2⟩ := ih r (d + 1) q _ _ j (by omega) (by omega) h
            obtain rfl : f = f1 := by omega
            obtain rfl : m1 = f2 := by omega
            obtain rfl : e = e2 := by omega
            refine ⟨f, e, .cons p f m1 ks1 (.cons q m1 e ks2 .nil), rfl, rfl, ⟨⟨base.1, base.2, .inr (.inr (.inl ⟨k3, p, q, m1, hp, hq, rfl⟩))⟩, ⟨hok1.1, hok1.2.1, hok2⟩, trivial⟩, by omega, hjl, ?_⟩
            rw [hd, hdr1, hdr2]
            simp [flF]
          · cases h
        · cases h
      rw [if_neg k3] at h
      by_cases k4 : (ndE l n).kind = 4
      · rw [if_pos k4] at h
        obtain ⟨p, hp, hpn⟩ := hP.a n hnl (by omega)
        obtain ⟨q, hq, hqn⟩ := hP.b n hnl (.inr k4)
        rw [hp, hq] at h
        obtain ⟨r, hr, hrn⟩ : ∃ r : Nat, (if i + 1 < t.length ∧ (atE t (i + 1)).node = (q : Int) then (q : Int) else (p : Int)) = r ∧ (r = p ∨ r = q) := by
          split
          · exact ⟨q, rfl, .inr rfl⟩
          · exact ⟨p, rfl, .inl rfl⟩
        rw [hr] at h
        obtain ⟨f1, e1, ks1, hf1, he1, hok1, hir, hrl, hdr1⟩ := ih (i + 1) (d + 1) r _ _ j (by omega) (by omega) h
        obtain rfl : f = f1 := by omega
        obtain rfl : e = e1 := by omega
        refine ⟨f, e, .cons r f e ks1 .nil, rfl, rfl, ⟨⟨base.1, base.2, .inr (.inr (.inr (.inl ⟨k4, r, hrn.elim (fun e1 => .inl (by rw [hp, e1])) (fun e1 => .inr (by rw [hq, e1])), rfl⟩)))⟩, hok1, trivial⟩, by omega, hrl, ?_⟩
        rw [hd, hdr1]
        simp [flF]
      rw [if_neg k4] at h
      obtain ⟨p, hp, hpn⟩ := hP.a n hnl (by omega)
      rw [hp] at h
      by_cases k5 : (ndE l n).kind = 5
      · rw [if_pos k5] at h
        obtain ⟨ks, hok, hch, hij, hjl, hdr⟩ := kids_ok ih p (by omega) (by omega) (d + 1) e _ (i + 1) f j base.1 (by omega) (by omega) h
        refine ⟨f, e, ks, rfl, rfl, ⟨⟨base.1, base.2, .inr (.inr (.inr (.inr (.inl ⟨k5, p, hp, hch⟩))))⟩, hok, trivial⟩, by omega, hjl, ?_⟩
        rw [hd, hdr]
        simp [flF]
      rw [if_neg k5] at h
      by_cases k6 : (ndE l n).kind = 6 ∧ (f : Int) = e
      · rw [if_pos k6] at h
        cases h
        exact ⟨f, e, .nil, rfl, rfl, ⟨⟨base.1, base.2, .inr (.inr (.inr (.inr (.inr (.inl ⟨k6.1, .inl ⟨by omega, rfl⟩⟩)))))⟩, trivial, trivial⟩, by omega, by omega, by rw [hd]; rfl⟩
      rw [if_neg k6] at h
      obtain ⟨f1, e1, ks1, hf1, he1, hok1, hir, hrl, hdr1⟩ := ih (i + 1) (d + 1) p _ _ j (by omega) (by omega) h
      obtain rfl : f = f1 := by omega
      obtain rfl : e = e1 := by omega
      refine ⟨f, e, .cons p f e ks1 .nil, rfl, rfl, ⟨⟨base.1, base.2, ?_⟩, hok1, trivial⟩, by omega, hrl, ?_⟩
      · by_cases k6' : (ndE l n).kind = 6
        · exact .inr (.inr (.inr (.inr (.inr (.inl ⟨k6', .inr ⟨by omega, p, hp, rfl⟩⟩)))))
        · exact .inr (.inr (.inr (.inr (.inr (.inr ⟨by omega, p, hp, rfl⟩)))))
      · rw [hd, hdr1]
        simp [flF]
    · rw [if_neg hc] at h; cases h
end
end Go.Proofs.YtdpkhliojbeglaaDoor

/- The tree that is made by spanning as much as can be from the left on is ahead of all, plainly. Stage 15. -/
namespace Go.Proofs.YtdpkhliojbeglaaDoor
open Go.RowKit

/-- Ahead, or the same, by an entry that both have. -/
inductive AoE : List EnN → List EnN → Prop
  | nil : AoE [] []
  | same (a : EnN) {x y : List EnN} : AoE x y → AoE (a :: x) (a :: y)
  | diff (a b : EnN) (x y : List EnN) : cmpE a b = -1 → AoE (a :: x) (b :: y)
theorem AoE.append {x y u v : List EnN} (h : AoE x y) (h' : AoE u v) : AoE (x ++ u) (y ++ v) := by
  induction h with
  | nil => exact h'
  | same a _ ih => exact .same a ih
  | diff a b x y hc => exact .diff a b _ _ hc
theorem lexU_shift (f g : Nat → EnN) : ∀ k i, lexU f g k (i + 1) = lexU (fun j => f (j + 1)) (fun j => g (j + 1)) k i
  | 0, _ => rfl
  | k + 1, i => by
    unfold lexU
    rw [lexU_shift f g k (i + 1)]
theorem ahead_cons (a b : EnN) (x y : List EnN) : aheadT (a :: x) (b :: y) = if cmpE a b = 0 then aheadT x y else cmpE a b := by
  rw [← ahead_any (a :: x) (b :: y) (max x.length y.length + 1) (by simp only [List.length_cons]; omega) (by simp only [List.length_cons]; omega)]
  unfold lexU
  rw [lexU_shift]
  rfl
theorem AoE.ahead {x y : List EnN} (h : AoE x y) : aheadT x y ≤ 0 := by
  induction h with
  | nil => exact Int.le_of_eq (ahead_self [])
  | same a _ ih => rw [ahead_cons, if_pos ((cmpE_zero a a).2 rfl)]; exact ih
  | diff a b x y hc => rw [ahead_cons, hc, if_neg (by decide)]; decide
/-- Rows of uppermost nodes: the same, or ahead by the first that is not. -/
inductive RrE : List (Nat × Nat × Nat) → List (Nat × Nat × Nat) → Prop
  | nil : RrE [] []
  | same (a : Nat × Nat × Nat) {x y : List (Nat × Nat × Nat)} : RrE x y → RrE (a :: x) (a :: y)
  | diff (a b : Nat × Nat × Nat) (x y : List (Nat × Nat × Nat)) : (∀ d, cmpE ⟨d, a.1, a.2.1, a.2.2⟩ ⟨d, b.1, b.2.1, b.2.2⟩ = -1) → RrE (a :: x) (b :: y)
theorem RrE.refl : ∀ x, RrE x x
  | [] => .nil
  | a :: x => .same a (RrE.refl x)
theorem cmp_to (d : Int) (n f m m' : Nat) (h : m' < m) : cmpE ⟨d, n, f, m⟩ ⟨d, n, f, m'⟩ = -1 := by
  unfold cmpE sgT
  simp only [ne_eq, not_true_eq_false, if_false]
  repeat' split
  all_goals omega
theorem cmp_node (d : Int) (n n' f e f' e' : Nat) (h : n < n') : cmpE ⟨d, n, f, e⟩ ⟨d, n', f', e'⟩ = -1 := by
  unfold cmpE sgT
  simp only [ne_eq, not_true_eq_false, if_false]
  repeat' split
  all_goals omega
section
variable (l : List NdN) (w : List Nat)
/-- A node can span the bytes between two places. -/
def canP (q f e : Nat) : Prop := ∃ ks, okF l w (.cons q f e ks .nil)
/-- A Star's kids span as much as they can. -/
def gchR (n p e : Nat) : List (Nat × Nat × Nat) → Prop
  | [] => True
  | (_, f, m) :: r => (∀ m', f < m' → m' ≤ e → canP l w p f m' → canP l w n m' e → m' ≤ m) ∧ gchR n p e r
/-- A node's kids span as much as they can, from the left on. -/
def greedy (n f e : Nat) (R : List (Nat × Nat × Nat)) : Prop :=
  ((ndE l n).kind = 3 → ∀ p q m : Nat, R = [(p, f, m), (q, m, e)] → ∀ m', canP l w p f m' → canP l w q m' e → m' ≤ m) ∧
  ((ndE l n).kind = 4 → ∀ p : Nat, (ndE l n).kids = p → canP l w p f e → R = [(p, f, e)]) ∧
  ((ndE l n).kind = 5 → ∀ p : Nat, (ndE l n).kids = p → gchR l w n p e R)
/-- All nodes' kids do. -/
def bestF : Fo → Prop
  | .nil => True
  | .cons n f e ks rest => greedy l w n f e (rootsO ks) ∧ bestF ks ∧ bestF rest
end
section
variable {l : List NdN} {w : List Nat}
theorem roots_can : ∀ {ks : Fo}, okF l w ks → ∀ r ∈ rootsO ks, canP l w r.1 r.2.1 r.2.2
  | .nil, _, r, hr => by cases hr
  | .cons n f e ks rest, h, r, hr => by
    rcases List.mem_cons.1 hr with rfl | hr
    · exact ⟨ks, h.1, h.2.1, trivial⟩
    · exact roots_can h.2.2 r hr
theorem star_rr {n p e : Nat} (hk : (ndE l n).kind = 5) (hp : (ndE l n).kids = p) (he : e ≤ w.length) : ∀ (ks : Fo) (i : Nat) (R : List (Nat × Nat × Nat)), chainR p i e R → gchR l w n p e R → okF l w ks → chainR p i e (rootsO ks) → RrE R (rootsO ks)
  | .nil, i, R, hc, _, _, hc' => by
    have hie : i = e := hc'
    cases R with
    | nil => exact .nil
    | cons r R =>
      obtain ⟨q, f, m⟩ := r
      have := hc.2.2.1
      have := hc.2.2.2.1
      omega
  | .cons n' f' m' ks rest, i, R, hc, hg, hok, hc' => by
    obtain ⟨rfl, rfl, h1, h2, hr⟩ := hc'
    cases R with
    | nil =>
      have hie : f' = e := hc
      omega
    | cons r R =>
      obtain ⟨q, f, m⟩ := r
      obtain ⟨rfl, rfl, h3, h4, hR⟩ := hc
      have hle : m' ≤ m := hg.1 m' h1 h2 ⟨ks, hok.1, hok.2.1, trivial⟩ ⟨rest, ⟨h2, he, .inr (.inr (.inr (.inr (.inl ⟨hk, _, hp, hr⟩))))⟩, hok.2.2, trivial⟩
      by_cases hm : m' = m
      · subst hm
        exact .same _ (star_rr hk hp he rest m' R hR hg.2 hok.2.2 hr)
      · exact .diff _ _ _ _ fun d => cmp_to d q f m m' (by omega)
/-- In an Alt, A is the lesser node. -/
def AltLt (l : List NdN) : Prop := ∀ n, n < l.length → (ndE l n).kind = 4 → (ndE l n).kids < (ndE l n).n
theorem kids_rr (hA : AltLt l) {n f e : Nat} (hn : n < l.length) {ks ks' : Fo} (h1 : nodeOk (ndE l n) w f e (rootsO ks)) (h2 : nodeOk (ndE l n) w f e (rootsO ks')) (hg : greedy l w n f e (rootsO ks)) (hok : okF l w ks') : RrE (rootsO ks) (rootsO ks') := by
  have hcan := roots_can hok
  generalize hR : rootsO ks = R at *
  obtain ⟨hfe, hel, c1⟩ := h1
  obtain ⟨_, _, c2⟩ := h2
  rcases c1 with ⟨k, _, a⟩ | ⟨k, _, _, a⟩ | ⟨k, p, q, m, hp, hq, a⟩ | ⟨k, p, hp, a⟩ | ⟨k, p, hp, a⟩ | ⟨k, a⟩ | ⟨k, p, hp, a⟩
  · rcases c2 with ⟨k', _, b⟩ | ⟨k', _, _, b⟩ | ⟨k', _⟩ | ⟨k', _⟩ | ⟨k', _⟩ | ⟨k', _⟩ | ⟨k', _⟩ <;> first | omega | skip
    rw [a, b]; exact .nil
  · rcases c2 with ⟨k', _, b⟩ | ⟨k', _, _, b⟩ | ⟨k', _⟩ | ⟨k', _⟩ | ⟨k', _⟩ | ⟨k', _⟩ | ⟨k', _⟩ <;> first | omega | skip
    rw [a, b]; exact .nil
  · rcases c2 with ⟨k', _, b⟩ | ⟨k', _, _, b⟩ | ⟨k', p', q', m', hp', hq', b⟩ | ⟨k', _⟩ | ⟨k', _⟩ | ⟨k', _⟩ | ⟨k', _⟩ <;> first | omega | skip
    have ep : p' = p := by omega
    have eq : q' = q := by omega
    subst ep eq
    rw [b] at hcan ⊢
    have hle := hg.1 k p' q' m a m' (hcan _ (List.mem_cons_self ..)) (hcan (q', m', e) (by simp))
    rw [a]
    by_cases hm : m' = m
    · subst hm; exact RrE.refl _
    · exact .diff _ _ _ _ fun d => cmp_to d p' f m m' (by omega)
  · rcases c2 with ⟨k', _, b⟩ | ⟨k', _, _, b⟩ | ⟨k', _⟩ | ⟨k', p', hp', b⟩ | ⟨k', _⟩ | ⟨k', _⟩ | ⟨k', _⟩ <;> first | omega | skip
    have hlt := hA n hn k
    rw [b] at hcan ⊢
    by_cases e1 : p' = p
    · subst e1; rw [a]; exact RrE.refl _
    · rcases hp' with h' | h'
      · rw [hg.2.1 k p' h' (hcan _ (List.mem_cons_self ..))]
        exact RrE.refl _
      · rw [a]
        refine .diff _ _ _ _ fun d => cmp_node d p p' f e f e ?_
        rcases hp with hp | hp <;> omega
  · rcases c2 with ⟨k', _, b⟩ | ⟨k', _, _, b⟩ | ⟨k', _⟩ | ⟨k', _⟩ | ⟨k', p', hp', b⟩ | ⟨k', _⟩ | ⟨k', _⟩ <;> first | omega | skip
    have ep : p' = p := by omega
    subst ep
    exact star_rr k hp hel ks' f R a (hg.2.2 k p' hp) hok b
  · rcases c2 with ⟨k', _, b⟩ | ⟨k', _, _, b⟩ | ⟨k', _⟩ | ⟨k', _⟩ | ⟨k', _⟩ | ⟨k', b⟩ | ⟨k', _⟩ <;> first | omega | skip
    rcases a with ⟨h0, a⟩ | ⟨h0, p, hp, a⟩ <;> rcases b with ⟨h0', b⟩ | ⟨h0', p', hp', b⟩ <;> first | omega | skip
    · rw [a, b]; exact .nil
    · have ep : p' = p := by omega
      rw [a, b, ep]; exact RrE.refl _
  · rcases c2 with ⟨k', _, b⟩ | ⟨k', _, _, b⟩ | ⟨k', _⟩ | ⟨k', _⟩ | ⟨k', _⟩ | ⟨k', _⟩ | ⟨k', p', hp', b⟩ <;> first | omega | skip
    have ep : p' = p := by omega
    rw [a, b, ep]; exact RrE.refl _
/-- All nodes are nodes of the term. -/
def inF (l : List NdN) : Fo → Prop
  | .nil => True
  | .cons n _ _ ks rest => n < l.length ∧ inF l ks ∧ inF l rest
theorem best_ao (hA : AltLt l) : ∀ (G T : Fo) (d : Int), inF l G → okF l w G → bestF l w G → okF l w T → RrE (rootsO G) (rootsO T) → AoE (flF d G) (flF d T)
  | .nil, .nil, _, _, _, _, _, _ => .nil
  | .nil, .cons .., _, _, _, _, _, h => by cases h
  | .cons .., .nil, _, _, _, _, _, h => by cases h
  | .cons n f e ks rest, .cons n' f' e' ks' rest', d, hi, hG, hb, hT, h => by
    cases h with
    | same _ h =>
      refine .same _ (AoE.append ?_ ?_)
      · exact best_ao hA ks ks' (d + 1) hi.2.1 hG.2.1 hb.2.1 hT.2.1 (kids_rr hA hi.1 hG.1 hT.1 hb.1 hT.2.1)
      · exact best_ao hA rest rest' d hi.2.2 hG.2.2 hb.2.2 hT.2.2 h
    | diff _ _ _ _ h => exact .diff _ _ _ _ (h d)
/-- No parse tree is ahead of one that is made so. -/
theorem best_ahead (hA : AltLt l) {q f e : Nat} {ks ks' : Fo} (d : Int) (hi : inF l (.cons q f e ks .nil)) (hG : okF l w (.cons q f e ks .nil)) (hb : bestF l w (.cons q f e ks .nil)) (hT : okF l w (.cons q f e ks' .nil)) : aheadT (flF d (.cons q f e ks .nil)) (flF d (.cons q f e ks' .nil)) ≤ 0 :=
  (best_ao hA _ _ d hi hG hb hT (RrE.refl _)).ahead
end
end Go.Proofs.YtdpkhliojbeglaaDoor

/- What a node can span, by kinds, and the tree that is made from the root on, plainly. Stage 15. -/
namespace Go.Proofs.YtdpkhliojbeglaaDoor
open Go.RowKit

section
variable {l : List NdN} {w : List Nat}
theorem can_le {q f e : Nat} (h : canP l w q f e) : f ≤ e ∧ e ≤ w.length := by
  obtain ⟨ks, h, _⟩ := h
  exact ⟨h.1, h.2.1⟩
theorem can_1 {q i j : Nat} (k : (ndE l q).kind = 1) (hij : i ≤ j) (hj : j ≤ w.length) : canP l w q i j ↔ i = j := by
  constructor
  · rintro ⟨ks, ⟨_, _, c⟩, _⟩
    rcases c with ⟨_, h, _⟩ | ⟨k', _⟩ | ⟨k', _⟩ | ⟨k', _⟩ | ⟨k', _⟩ | ⟨k', _⟩ | ⟨k', _⟩ <;> omega
  · exact fun h => ⟨.nil, ⟨hij, hj, .inl ⟨k, h, rfl⟩⟩, trivial, trivial⟩
theorem can_2 {q i j : Nat} (k : (ndE l q).kind = 2) (hij : i ≤ j) (hj : j ≤ w.length) : canP l w q i j ↔ j = i + 1 ∧ (ndE l q).set.getLsbD (w.getD i 0) = true := by
  constructor
  · rintro ⟨ks, ⟨_, _, c⟩, _⟩
    rcases c with ⟨k', _⟩ | ⟨_, h, h', _⟩ | ⟨k', _⟩ | ⟨k', _⟩ | ⟨k', _⟩ | ⟨k', _⟩ | ⟨k', _⟩ <;> first | omega | skip
    exact ⟨h, h'⟩
  · exact fun h => ⟨.nil, ⟨hij, hj, .inr (.inl ⟨k, h.1, h.2, rfl⟩)⟩, trivial, trivial⟩
theorem can_3 {q i j p r : Nat} (k : (ndE l q).kind = 3) (hp : (ndE l q).kids = p) (hr : (ndE l q).n = r) (hij : i ≤ j) (hj : j ≤ w.length) : canP l w q i j ↔ ∃ m, canP l w p i m ∧ canP l w r m j := by
  constructor
  · rintro ⟨ks, ⟨_, _, c⟩, hok, _⟩
    have hcan := roots_can hok
    rcases c with ⟨k', _⟩ | ⟨k', _⟩ | ⟨k', p', r', m, hp', hr', b⟩ | ⟨k', _⟩ | ⟨k', _⟩ | ⟨k', _⟩ | ⟨k', _⟩ <;> first | omega | skip
    have ep : p' = p := by omega
    have er : r' = r := by omega
    subst ep er
    rw [b] at hcan
    exact ⟨m, hcan _ (List.mem_cons_self ..), hcan (r', m, j) (by simp)⟩
  · rintro ⟨m, ⟨k1, h1, h1', _⟩, ⟨k2, h2, h2', _⟩⟩
    exact ⟨.cons p i m k1 (.cons r m j k2 .nil), ⟨hij, hj, .inr (.inr (.inl ⟨k, p, r, m, hp, hr, rfl⟩))⟩, ⟨h1, h1', h2, h2', trivial⟩, trivial⟩
theorem can_4 {q i j p r : Nat} (k : (ndE l q).kind = 4) (hp : (ndE l q).kids = p) (hr : (ndE l q).n = r) (hij : i ≤ j) (hj : j ≤ w.length) : canP l w q i j ↔ canP l w p i j ∨ canP l w r i j := by
  constructor
  · rintro ⟨ks, ⟨_, _, c⟩, hok, _⟩
    have hcan := roots_can hok
    rcases c with ⟨k', _⟩ | ⟨k', _⟩ | ⟨k', _⟩ | ⟨k', p', hp', b⟩ | ⟨k', _⟩ | ⟨k', _⟩ | ⟨k', _⟩ <;> first | omega | skip
    rw [b] at hcan
    have h := hcan _ (List.mem_cons_self ..)
    rcases hp' with h' | h'
    · have ep : p' = p := by omega
      exact .inl (ep ▸ h)
    · have ep : p' = r := by omega
      exact .inr (ep ▸ h)
  · rintro (⟨k1, h1, h1', _⟩ | ⟨k1, h1, h1', _⟩)
    · exact ⟨.cons p i j k1 .nil, ⟨hij, hj, .inr (.inr (.inr (.inl ⟨k, p, .inl hp, rfl⟩)))⟩, ⟨h1, h1', trivial⟩, trivial⟩
    · exact ⟨.cons r i j k1 .nil, ⟨hij, hj, .inr (.inr (.inr (.inl ⟨k, r, .inr hr, rfl⟩)))⟩, ⟨h1, h1', trivial⟩, trivial⟩
theorem star_kids {q i j p : Nat} (k : (ndE l q).kind = 5) (hp : (ndE l q).kids = p) (h : canP l w q i j) : ∃ ks, okF l w ks ∧ chainR p i j (rootsO ks) := by
  obtain ⟨ks, ⟨_, _, c⟩, hok, _⟩ := h
  rcases c with ⟨k', _⟩ | ⟨k', _⟩ | ⟨k', _⟩ | ⟨k', _⟩ | ⟨k', p', hp', b⟩ | ⟨k', _⟩ | ⟨k', _⟩ <;> first | omega | skip
  have ep : p' = p := by omega
  exact ⟨ks, hok, ep ▸ b⟩
theorem can_5 {q i j p : Nat} (k : (ndE l q).kind = 5) (hp : (ndE l q).kids = p) (hij : i ≤ j) (hj : j ≤ w.length) : canP l w q i j ↔ i = j ∨ ∃ m, i < m ∧ canP l w p i m ∧ canP l w q m j := by
  constructor
  · intro h
    obtain ⟨ks, hok, hc⟩ := star_kids k hp h
    cases ks with
    | nil => exact .inl hc
    | cons n f e k1 rest =>
      obtain ⟨rfl, rfl, h1, h2, hr⟩ := hc
      exact .inr ⟨e, h1, ⟨k1, hok.1, hok.2.1, trivial⟩, ⟨rest, ⟨h2, hj, .inr (.inr (.inr (.inr (.inl ⟨k, _, hp, hr⟩))))⟩, hok.2.2, trivial⟩⟩
  · rintro (h | ⟨m, h1, ⟨k1, h2, h2', _⟩, h3⟩)
    · exact ⟨.nil, ⟨hij, hj, .inr (.inr (.inr (.inr (.inl ⟨k, _, hp, h⟩))))⟩, trivial, trivial⟩
    · obtain ⟨ks, hok, hc⟩ := star_kids k hp h3
      exact ⟨.cons p i m k1 ks, ⟨hij, hj, .inr (.inr (.inr (.inr (.inl ⟨k, _, hp, rfl, rfl, h1, (can_le h3).1, hc⟩))))⟩, ⟨h2, h2', hok⟩, trivial⟩
theorem can_6 {q i j p : Nat} (k : (ndE l q).kind = 6) (hp : (ndE l q).kids = p) (hij : i ≤ j) (hj : j ≤ w.length) : canP l w q i j ↔ i = j ∨ canP l w p i j := by
  constructor
  · rintro ⟨ks, ⟨_, _, c⟩, hok, _⟩
    have hcan := roots_can hok
    rcases c with ⟨k', _⟩ | ⟨k', _⟩ | ⟨k', _⟩ | ⟨k', _⟩ | ⟨k', _⟩ | ⟨k', b⟩ | ⟨k', _⟩ <;> first | omega | skip
    rcases b with ⟨h, _⟩ | ⟨_, p', hp', b⟩
    · exact .inl h
    · rw [b] at hcan
      have ep : p' = p := by omega
      exact .inr (ep ▸ hcan _ (List.mem_cons_self ..))
  · intro h
    by_cases hlt : i < j
    · obtain ⟨k1, h1, h1', _⟩ := h.resolve_left (by omega)
      exact ⟨.cons p i j k1 .nil, ⟨hij, hj, .inr (.inr (.inr (.inr (.inr (.inl ⟨k, .inr ⟨hlt, p, hp, rfl⟩⟩)))))⟩, ⟨h1, h1', trivial⟩, trivial⟩
    · exact ⟨.nil, ⟨hij, hj, .inr (.inr (.inr (.inr (.inr (.inl ⟨k, .inl ⟨by omega, rfl⟩⟩)))))⟩, trivial, trivial⟩
theorem can_7 {q i j p : Nat} (k : (ndE l q).kind = 7 ∨ (ndE l q).kind = 8) (hp : (ndE l q).kids = p) (hij : i ≤ j) (hj : j ≤ w.length) : canP l w q i j ↔ canP l w p i j := by
  constructor
  · rintro ⟨ks, ⟨_, _, c⟩, hok, _⟩
    have hcan := roots_can hok
    rcases c with ⟨k', _⟩ | ⟨k', _⟩ | ⟨k', _⟩ | ⟨k', _⟩ | ⟨k', _⟩ | ⟨k', _⟩ | ⟨k', p', hp', b⟩ <;> first | omega | skip
    rw [b] at hcan
    have ep : p' = p := by omega
    exact ep ▸ hcan _ (List.mem_cons_self ..)
  · rintro ⟨k1, h1, h1', _⟩
    exact ⟨.cons p i j k1 .nil, ⟨hij, hj, .inr (.inr (.inr (.inr (.inr (.inr ⟨k, p, hp, rfl⟩)))))⟩, ⟨h1, h1', trivial⟩, trivial⟩
end
/-- The greatest number up to j of which something holds. -/
def downB (P : Nat → Bool) : Nat → Nat
  | 0 => 0
  | j + 1 => if P (j + 1) then j + 1 else downB P j
theorem down_le (P : Nat → Bool) : ∀ j, downB P j ≤ j
  | 0 => Nat.le_refl _
  | j + 1 => by
    unfold downB
    have := down_le P j
    split <;> omega
theorem down_ge (P : Nat → Bool) : ∀ j m, m ≤ j → P m = true → m ≤ downB P j ∧ P (downB P j) = true
  | 0, m, h, hp => by
    obtain rfl : m = 0 := by omega
    exact ⟨Nat.le_refl _, hp⟩
  | j + 1, m, h, hp => by
    unfold downB
    by_cases hj : P (j + 1) = true
    · rw [if_pos hj]; exact ⟨h, hj⟩
    · rw [if_neg hj]
      by_cases hm : m = j + 1
      · subst hm; exact absurd hp hj
      · exact down_ge P j m (by omega) hp
section
variable (l : List NdN) (c : Nat → Nat → Nat → Bool)
/-- A Star's kids. -/
def starG (g : Nat → Nat → Fo) (p q j : Nat) : Nat → Nat → Fo
  | 0, _ => .nil
  | m + 1, i => if i < j then .cons p i (downB (fun k => c p i k && c q k j) j) (g i (downB (fun k => c p i k && c q k j) j)) (starG g p q j m (downB (fun k => c p i k && c q k j) j)) else .nil
/-- A node's kids. -/
def kidsG : Nat → Nat → Nat → Nat → Fo
  | 0, _, _, _ => .nil
  | k + 1, q, i, j =>
    if (ndE l q).kind = 3 then .cons (ndE l q).kids.toNat i (downB (fun m => c (ndE l q).kids.toNat i m && c (ndE l q).n.toNat m j) j) (kidsG k (ndE l q).kids.toNat i (downB (fun m => c (ndE l q).kids.toNat i m && c (ndE l q).n.toNat m j) j)) (.cons (ndE l q).n.toNat (downB (fun m => c (ndE l q).kids.toNat i m && c (ndE l q).n.toNat m j) j) j (kidsG k (ndE l q).n.toNat (downB (fun m => c (ndE l q).kids.toNat i m && c (ndE l q).n.toNat m j) j) j) .nil)
    else if (ndE l q).kind = 4 then (if c (ndE l q).kids.toNat i j then .cons (ndE l q).kids.toNat i j (kidsG k (ndE l q).kids.toNat i j) .nil else .cons (ndE l q).n.toNat i j (kidsG k (ndE l q).n.toNat i j) .nil)
    else if (ndE l q).kind = 5 then starG c (kidsG k (ndE l q).kids.toNat) (ndE l q).kids.toNat q j (j - i) i
    else if (ndE l q).kind = 6 then (if i < j then .cons (ndE l q).kids.toNat i j (kidsG k (ndE l q).kids.toNat i j) .nil else .nil)
    else if 7 ≤ (ndE l q).kind then .cons (ndE l q).kids.toNat i j (kidsG k (ndE l q).kids.toNat i j) .nil
    else .nil
end
section
variable {l : List NdN} {w : List Nat} {c : Nat → Nat → Nat → Bool}
/-- A tree that is right and made so. -/
def GoodF (l : List NdN) (w : List Nat) (ks : Fo) : Prop := okF l w ks ∧ bestF l w ks ∧ inF l ks
theorem GoodF.nil : GoodF l w .nil := ⟨trivial, trivial, trivial⟩
theorem GoodF.cons {q f e : Nat} {ks rest : Fo} (hq : q < l.length) (h1 : nodeOk (ndE l q) w f e (rootsO ks)) (h2 : greedy l w q f e (rootsO ks)) (h : GoodF l w ks) (hr : GoodF l w rest) : GoodF l w (.cons q f e ks rest) :=
  ⟨⟨h1, h.1, hr.1⟩, ⟨h2, h.2.1, hr.2.1⟩, hq, h.2.2, hr.2.2⟩
theorem GoodF.kid {q f e : Nat} {ks rest : Fo} (h : GoodF l w (.cons q f e ks .nil)) (hr : GoodF l w rest) : GoodF l w (.cons q f e ks rest) :=
  ⟨⟨h.1.1, h.1.2.1, hr.1⟩, ⟨h.2.1.1, h.2.1.2.1, hr.2.1⟩, h.2.2.1, h.2.2.2.1, hr.2.2⟩
theorem star_good (hc : ∀ q i j, q < l.length → i ≤ j → j ≤ w.length → (c q i j = true ↔ canP l w q i j)) {q p j : Nat} (hk : (ndE l q).kind = 5) (hp : (ndE l q).kids = p) (hq : q < l.length) (hpl : p < l.length) {g : Nat → Nat → Fo} (ih : ∀ a b, canP l w p a b → GoodF l w (.cons p a b (g a b) .nil)) :
    ∀ m i, j - i ≤ m → canP l w q i j → GoodF l w (starG c g p q j m i) ∧ chainR p i j (rootsO (starG c g p q j m i)) ∧ gchR l w q p j (rootsO (starG c g p q j m i)) := by
  intro m
  induction m with
  | zero =>
    intro i hm hcan
    have := can_le hcan
    exact ⟨.nil, (show i = j by omega), trivial⟩
  | succ m ihm =>
    intro i hm hcan
    obtain ⟨hij, hj⟩ := can_le hcan
    unfold starG
    by_cases hlt : i < j
    · rw [if_pos hlt]
      obtain ⟨b, hb, h1, h2⟩ := ((can_5 hk hp hij hj).1 hcan).resolve_left (by omega)
      obtain ⟨hbi, hbj⟩ := can_le h2
      have hP : (fun k => c p i k && c q k j) b = true := by
        show (c p i b && c q b j) = true
        rw [(hc p i b hpl (by omega) (by omega)).2 h1, (hc q b j hq (by omega) hj).2 h2]; rfl
      obtain ⟨hge, hr⟩ := down_ge (fun k => c p i k && c q k j) j b hbi hP
      have hle := down_le (fun k => c p i k && c q k j) j
      have hmax : ∀ m', canP l w p i m' → canP l w q m' j → m' ≤ downB (fun k => c p i k && c q k j) j := fun m' g1 g2 => by
        have l1 := can_le g1
        have l2 := can_le g2
        refine (down_ge (fun k => c p i k && c q k j) j m' l2.1 ?_).1
        show (c p i m' && c q m' j) = true
        rw [(hc p i m' hpl l1.1 l1.2).2 g1, (hc q m' j hq l2.1 hj).2 g2]; rfl
      generalize downB (fun k => c p i k && c q k j) j = k at *
      have hr' : (c p i k && c q k j) = true := hr
      rw [Bool.and_eq_true] at hr'
      have c1 := (hc p i k hpl (by omega) (by omega)).1 hr'.1
      have c2 := (hc q k j hq hle hj).1 hr'.2
      obtain ⟨r1, r2, r3⟩ := ihm k (by omega) c2
      exact ⟨(ih i k c1).kid r1, ⟨rfl, rfl, by omega, hle, r2⟩, ⟨fun m' _ _ g1 g2 => hmax m' g1 g2, r3⟩⟩
    · rw [if_neg hlt]
      exact ⟨.nil, (show i = j by omega), trivial⟩
theorem grow_good (hP : PartsOk l) (hc : ∀ q i j, q < l.length → i ≤ j → j ≤ w.length → (c q i j = true ↔ canP l w q i j)) : ∀ k q i j, q < k → q < l.length → canP l w q i j → GoodF l w (.cons q i j (kidsG l c k q i j) .nil)
  | 0, _, _, _, h, _, _ => absurd h (by omega)
  | k + 1, q, i, j, hqk, hq, hcan => by
    have ih := grow_good hP hc k
    obtain ⟨hij, hj⟩ := can_le hcan
    obtain ⟨k1, k8⟩ := hP.kind q hq
    have ha := hP.a q hq
    have hb := hP.b q hq
    unfold kidsG
    by_cases e3 : (ndE l q).kind = 3
    · obtain ⟨p, hp, hpq⟩ := ha (by omega)
      obtain ⟨r, hr, hrq⟩ := hb (.inl e3)
      rw [if_pos e3, hp, hr, Int.toNat_natCast, Int.toNat_natCast]
      obtain ⟨m, g1, g2⟩ := (can_3 e3 hp hr hij hj).1 hcan
      have hmax : ∀ m', canP l w p i m' → canP l w r m' j → m' ≤ downB (fun m => c p i m && c r m j) j ∧ (c p i (downB (fun m => c p i m && c r m j) j) && c r (downB (fun m => c p i m && c r m j) j) j) = true := fun m' g1 g2 => by
        have l1 := can_le g1
        have l2 := can_le g2
        refine down_ge (fun m => c p i m && c r m j) j m' l2.1 ?_
        show (c p i m' && c r m' j) = true
        rw [(hc p i m' (by omega) l1.1 l1.2).2 g1, (hc r m' j (by omega) l2.1 hj).2 g2]; rfl
      have hle := down_le (fun m => c p i m && c r m j) j
      generalize downB (fun m => c p i m && c r m j) j = d at *
      obtain ⟨hmd, hr'⟩ := hmax m g1 g2
      rw [Bool.and_eq_true] at hr'
      have l1 := can_le g1
      have c1 := (hc p i d (by omega) (by omega) (by omega)).1 hr'.1
      have c2 := (hc r d j (by omega) hle hj).1 hr'.2
      refine .cons hq ⟨hij, hj, .inr (.inr (.inl ⟨e3, p, r, d, hp, hr, rfl⟩))⟩ ⟨fun _ p' r' m' he m'' x1 x2 => ?_, fun h => by omega, fun h => by omega⟩ ((ih p i d (by omega) (by omega) c1).kid (ih r d j (by omega) (by omega) c2)) .nil
      have he' : [(p, i, d), (r, d, j)] = [(p', i, m'), (r', m', j)] := he
      simp only [List.cons.injEq, Prod.mk.injEq, and_true, true_and] at he'
      obtain ⟨⟨rfl, rfl⟩, rfl, _⟩ := he'
      exact (hmax m'' x1 x2).1
    rw [if_neg e3]
    by_cases e4 : (ndE l q).kind = 4
    · obtain ⟨p, hp, hpq⟩ := ha (by omega)
      obtain ⟨r, hr, hrq⟩ := hb (.inr e4)
      rw [if_pos e4, hp, hr, Int.toNat_natCast, Int.toNat_natCast]
      by_cases hA : c p i j = true
      · rw [if_pos hA]
        refine .cons hq ⟨hij, hj, .inr (.inr (.inr (.inl ⟨e4, p, .inl hp, rfl⟩)))⟩ ⟨fun h => by omega, fun _ p' hp' _ => ?_, fun h => by omega⟩ (ih p i j (by omega) (by omega) ((hc p i j (by omega) hij hj).1 hA)) .nil
        have : p' = p := by omega
        rw [this]; rfl
      · rw [if_neg hA]
        refine .cons hq ⟨hij, hj, .inr (.inr (.inr (.inl ⟨e4, r, .inr hr, rfl⟩)))⟩ ⟨fun h => by omega, fun _ p' hp' hx => ?_, fun h => by omega⟩ (ih r i j (by omega) (by omega) (((can_4 e4 hp hr hij hj).1 hcan).resolve_left fun h => hA ((hc p i j (by omega) hij hj).2 h))) .nil
        have : p' = p := by omega
        exact absurd ((hc p i j (by omega) hij hj).2 (this ▸ hx)) hA
    rw [if_neg e4]
    by_cases e5 : (ndE l q).kind = 5
    · obtain ⟨p, hp, hpq⟩ := ha (by omega)
      rw [if_pos e5, hp, Int.toNat_natCast]
      obtain ⟨r1, r2, r3⟩ := star_good hc e5 hp hq (by omega) (fun a b h => ih p a b (by omega) (by omega) h) (j - i) i (Nat.le_refl _) hcan
      refine .cons hq ⟨hij, hj, .inr (.inr (.inr (.inr (.inl ⟨e5, p, hp, r2⟩))))⟩ ⟨fun h => by omega, fun h => by omega, fun _ p' hp' => ?_⟩ r1 .nil
      have : p' = p := by omega
      rw [this]; exact r3
    rw [if_neg e5]
    by_cases e6 : (ndE l q).kind = 6
    · obtain ⟨p, hp, hpq⟩ := ha (by omega)
      rw [if_pos e6, hp, Int.toNat_natCast]
      have hg : ∀ R, greedy l w q i j R := fun R => ⟨fun h => by omega, fun h => by omega, fun h => by omega⟩
      by_cases hlt : i < j
      · rw [if_pos hlt]
        exact .cons hq ⟨hij, hj, .inr (.inr (.inr (.inr (.inr (.inl ⟨e6, .inr ⟨hlt, p, hp, rfl⟩⟩)))))⟩ (hg _) (ih p i j (by omega) (by omega) (((can_6 e6 hp hij hj).1 hcan).resolve_left (by omega))) .nil
      · rw [if_neg hlt]
        exact .cons hq ⟨hij, hj, .inr (.inr (.inr (.inr (.inr (.inl ⟨e6, .inl ⟨by omega, rfl⟩⟩)))))⟩ (hg _) .nil .nil
    rw [if_neg e6]
    have hg : ∀ R, greedy l w q i j R := fun R => ⟨fun h => by omega, fun h => by omega, fun h => by omega⟩
    by_cases e7 : 7 ≤ (ndE l q).kind
    · obtain ⟨p, hp, hpq⟩ := ha (by omega)
      rw [if_pos e7, hp, Int.toNat_natCast]
      have e7' : (ndE l q).kind = 7 ∨ (ndE l q).kind = 8 := by omega
      exact .cons hq ⟨hij, hj, .inr (.inr (.inr (.inr (.inr (.inr ⟨e7', p, hp, rfl⟩)))))⟩ (hg _) (ih p i j (by omega) (by omega) ((can_7 e7' hp hij hj).1 hcan)) .nil
    rw [if_neg e7]
    by_cases e1 : (ndE l q).kind = 1
    · exact .cons hq ⟨hij, hj, .inl ⟨e1, (can_1 e1 hij hj).1 hcan, rfl⟩⟩ (hg _) .nil .nil
    · have e2 : (ndE l q).kind = 2 := by omega
      obtain ⟨h1, h2⟩ := (can_2 e2 hij hj).1 hcan
      exact .cons hq ⟨hij, hj, .inr (.inl ⟨e2, h1, h2, rfl⟩)⟩ (hg _) .nil .nil
end
end Go.Proofs.YtdpkhliojbeglaaDoor

/- Parse trees, plainly: a parse tree is what the document asks; which lists are parse trees. Stage 14. -/
namespace Go.Proofs.YtdpkhliojbeglaaDoor
open Go.RowKit

theorem at_of_drop {t r : List EnN} {x : EnN} {i : Nat} (h : t.drop i = x :: r) : i < t.length ∧ atE t i = x ∧ t.drop (i + 1) = r := by
  have hi : i < t.length := by
    rcases Nat.lt_or_ge i t.length with h1 | h1
    · exact h1
    · rw [List.drop_of_length_le h1] at h; cases h
  rw [drop_one t i hi] at h
  injection h with h1 h2
  exact ⟨hi, h1, h2⟩
theorem drop_app {t a b : List EnN} {i : Nat} (h : t.drop i = a ++ b) : t.drop (i + a.length) = b := by
  rw [← List.drop_drop, h]
  exact List.drop_left
/-- How many entries. -/
theorem flF_len (d d' : Int) (F : Fo) : (flF d F).length = (flF d' F).length := by
  induction F generalizing d d' with
  | nil => rfl
  | cons n f e ks rest ih1 ih2 =>
    simp only [flF, List.length_cons, List.length_append]
    rw [ih1 (d + 1) (d' + 1), ih2 d d']
section
variable {l : List NdN} {w : List Nat} {t : List EnN}
def EntOf (l : List NdN) (w : List Nat) (t : List EnN) (k : Nat) : Prop := ∀ i d (n f e : Nat) ks R, n < k → n < l.length → okF l w (.cons n f e ks .nil) → t.drop i = flF d (.cons n f e ks .nil) ++ R → entF l w t k i ⟨d, n, f, e⟩ = some (i + (flF d (.cons n f e ks .nil)).length)
theorem kids_ofE {k : Nat} (ih : EntOf l w t k) (p : Nat) (hp : p < k) (hpl : p < l.length) (d : Int) (e : Nat) : ∀ ks m i (at_ : Nat) R, okF l w ks → chainR p at_ e (rootsO ks) → e - at_ ≤ m → t.drop i = flF d ks ++ R → kidsF (entF l w t k) t p d e m i at_ = some (i + (flF d ks).length) := by
  intro ks
  induction ks with
  | nil =>
    intro m i at_ R _ hch hm h
    have : at_ = e := hch
    subst this
    cases m with
    | zero => unfold kidsF; rw [if_neg (by omega)]; rfl
    | succ m => unfold kidsF; rw [if_neg (by omega)]; rfl
  | cons n f m1 k1 rest _ ihr =>
    intro m i at_ R hok hch hm h
    obtain ⟨rfl, rfl, h1, h2, h3⟩ := hch
    obtain ⟨hno, hk1, hrok⟩ := hok
    cases m with
    | zero => omega
    | succ m =>
      have h0 : t.drop i = flF d (.cons n f m1 k1 .nil) ++ (flF d rest ++ R) := by rw [h, flF_one, List.append_assoc]
      obtain ⟨hi, hat, _⟩ := at_of_drop (show t.drop i = ⟨d, n, f, m1⟩ :: (flF (d + 1) k1 ++ flF d .nil ++ (flF d rest ++ R)) from h0)
      have he := ih i d n f m1 k1 _ hp hpl ⟨hno, hk1, trivial⟩ h0
      unfold kidsF
      rw [if_pos (by omega), if_pos ⟨hi, by rw [hat]; show (f : Int) < m1; omega⟩, hat]
      show (entF l w t k i ⟨d, n, f, m1⟩).bind _ = _
      rw [he]
      show (if (m1 : Int) ≤ (e : Int) then kidsF (entF l w t k) t n d e m (i + (flF d (.cons n f m1 k1 .nil)).length) (m1 : Int) else none) = _
      rw [if_pos (by omega)]
      rw [ihr m _ m1 R hrok h3 (by omega) (drop_app h0)]
      congr 1
      rw [flF_one d n f m1 k1 rest, List.length_append]
      omega
theorem ent_of (hP : PartsOk l) : ∀ k, EntOf l w t k
  | 0 => fun i d n f e ks R hn => absurd hn (by omega)
  | k + 1 => by
    intro i d n f e ks R hn hnl hok h
    have ih := ent_of hP k
    obtain ⟨⟨hfe, hel, hcase⟩, hkok, _⟩ := hok
    obtain ⟨hi, hat, hd⟩ := at_of_drop (show t.drop i = ⟨d, n, f, e⟩ :: (flF (d + 1) ks ++ flF d .nil ++ R) from h)
    have hd' : t.drop (i + 1) = flF (d + 1) ks ++ R := by rw [hd]; simp [flF]
    have hlen : (flF d (.cons n f e ks .nil)).length = (flF (d + 1) ks).length + 1 := by simp [flF]
    obtain ⟨hk1, hk8⟩ := hP.kind n hnl
    rw [hlen]
    unfold entF
    rw [if_pos ⟨hi, hat, by show (0 : Int) ≤ (f : Int); omega, by show (f : Int) ≤ e; omega, by show (e : Int) ≤ _; omega⟩]
    simp only [Int.toNat_natCast]
    have single : ∀ r : Nat, r < n → rootsO ks = [(r, f, e)] → entF l w t k (i + 1) ⟨d + 1, (r : Int), (f : Int), (e : Int)⟩ = some (i + ((flF (d + 1) ks).length + 1)) := fun r hr hro => by
      cases ks with
      | nil => cases hro
      | cons n' f' e' k1 rest =>
        simp only [rootsO, List.cons.injEq, Prod.mk.injEq] at hro
        obtain ⟨⟨rfl, rfl, rfl⟩, hrest⟩ := hro
        cases rest with
        | cons _ _ _ _ _ => cases hrest
        | nil =>
          rw [ih (i + 1) (d + 1) n' f' e' k1 R (by omega) (by omega) hkok hd']
          congr 1
          omega
    rcases hcase with ⟨k1, hh, hro⟩ | ⟨k2, hh, hs, hro⟩ | ⟨k3, p, q, m, hp, hq, hro⟩ | ⟨k4, r, hr, hro⟩ | ⟨k5, p, hp, hch⟩ | ⟨k6, hh⟩ | ⟨k78, p, hp, hro⟩
    · have hks : ks = .nil := by cases ks with | nil => rfl | cons _ _ _ _ _ => cases hro
      subst hks
      rw [if_pos k1, if_pos (by omega)]
      rfl
    · have hks : ks = .nil := by cases ks with | nil => rfl | cons _ _ _ _ _ => cases hro
      subst hks
      rw [if_neg (by omega), if_pos k2, if_pos ⟨by omega, hs⟩]
      rfl
    · rw [if_neg (by omega), if_neg (by omega), if_pos k3]
      cases ks with
      | nil => cases hro
      | cons n1 f1 e1 kk1 rest =>
        simp only [rootsO, List.cons.injEq, Prod.mk.injEq] at hro
        obtain ⟨⟨rfl, rfl, rfl⟩, hrest⟩ := hro
        cases rest with
        | nil => cases hrest
        | cons n2 f2 e2 kk2 rest2 =>
          simp only [rootsO, List.cons.injEq, Prod.mk.injEq] at hrest
          obtain ⟨⟨rfl, rfl, rfl⟩, hrest2⟩ := hrest
          cases rest2 with
          | cons _ _ _ _ _ => cases hrest2
          | nil =>
            obtain ⟨p', hp', hpn⟩ := hP.a n hnl (by omega)
            obtain ⟨q', hq', hqn⟩ := hP.b n hnl (.inl k3)
            have h0 : t.drop (i + 1) = flF (d + 1) (.cons n1 f1 f2 kk1 .nil) ++ (flF (d + 1) (.cons n2 f2 e2 kk2 .nil) ++ R) := by rw [hd', flF_one, List.append_assoc]
            obtain ⟨hi1, hat1, _⟩ := at_of_drop (show t.drop (i + 1) = ⟨d + 1, n1, f1, f2⟩ :: (flF (d + 1 + 1) kk1 ++ flF (d + 1) .nil ++ (flF (d + 1) (.cons n2 f2 e2 kk2 .nil) ++ R)) from h0)
            rw [if_pos hi1, hat1, hp, hq]
            have e1 := ih (i + 1) (d + 1) n1 f1 f2 kk1 _ (by omega) (by omega) ⟨hkok.1, hkok.2.1, trivial⟩ h0
            show (entF l w t k (i + 1) ⟨d + 1, n1, f1, f2⟩).bind _ = _
            rw [e1, Option.bind_some, if_pos (by have := hkok.2.2.1.1; show (f2 : Int) ≤ e2; omega)]
            rw [ih _ (d + 1) n2 f2 e2 kk2 R (by omega) (by omega) hkok.2.2 (drop_app h0)]
            congr 1
            rw [flF_one (d + 1) n1 f1 f2 kk1 (.cons n2 f2 e2 kk2 .nil), List.length_append]
            omega
    · rw [if_neg (by omega), if_neg (by omega), if_neg (by omega), if_pos k4]
      obtain ⟨p, hp, hpn⟩ := hP.a n hnl (by omega)
      obtain ⟨q, hq, hqn⟩ := hP.b n hnl (.inr k4)
      have hat1 : i + 1 < t.length ∧ (atE t (i + 1)).node = (r : Int) := by
        cases ks with
        | nil => cases hro
        | cons n' f' e' k1 rest =>
          simp only [rootsO, List.cons.injEq, Prod.mk.injEq] at hro
          obtain ⟨⟨rfl, rfl, rfl⟩, _⟩ := hro
          obtain ⟨h1, h2, _⟩ := at_of_drop (show t.drop (i + 1) = ⟨d + 1, n', f', e'⟩ :: ((flF (d + 1 + 1) k1 ++ flF (d + 1) rest) ++ R) from hd')
          exact ⟨h1, by rw [h2]⟩
      have hsel : (if i + 1 < t.length ∧ (atE t (i + 1)).node = (ndE l n).n then (ndE l n).n else (ndE l n).kids) = (r : Int) := by
        by_cases hc : (atE t (i + 1)).node = (ndE l n).n
        · rw [if_pos ⟨hat1.1, hc⟩, ← hc, hat1.2]
        · rw [if_neg (fun hh => hc hh.2)]
          rcases hr with hr | hr
          · exact hr
          · exact absurd (by rw [hat1.2, hr]) hc
      rw [hsel]
      exact single r (by omega) hro
    · rw [if_neg (by omega), if_neg (by omega), if_neg (by omega), if_neg (by omega), if_pos k5, hp]
      obtain ⟨p', hp', hpn⟩ := hP.a n hnl (by omega)
      have := kids_ofE ih p (by omega) (by omega) (d + 1) e ks ((e : Int) - f).toNat (i + 1) f R hkok hch (by omega) hd'
      rw [this]
      congr 1
      omega
    · rw [if_neg (by omega), if_neg (by omega), if_neg (by omega), if_neg (by omega), if_neg (by omega)]
      rcases hh with ⟨he, hro⟩ | ⟨he, p, hp, hro⟩
      · have hks : ks = .nil := by cases ks with | nil => rfl | cons _ _ _ _ _ => cases hro
        subst hks
        rw [if_pos ⟨k6, by omega⟩]
        rfl
      · obtain ⟨p', hp', hpn⟩ := hP.a n hnl (by omega)
        rw [if_neg (by omega), hp]
        exact single p (by omega) hro
    · obtain ⟨p', hp', hpn⟩ := hP.a n hnl (by omega)
      rw [if_neg (by omega), if_neg (by omega), if_neg (by omega), if_neg (by omega), if_neg (by omega), if_neg (by omega), hp]
      exact single p (by omega) hro
end
end Go.Proofs.YtdpkhliojbeglaaDoor

/- The document's terms: part. Stage 10. -/
namespace Go.Proofs.YtdpkhliojbeglaaDoor
open Go.RowKit BS

set_option maxRecDepth 100000 in
set_option maxHeartbeats 4000000 in
theorem part_calls (k : Int) (w : World) : Calls Tryd.prog 48 #[.int .i64 k] w fun e w' => e = .returned (.tuple #[.bool (decide (pcT k ≠ 0)), .bool (decide (pcT k = 2))]) ∧ w = w' := by
  have go : ∀ (b1 b2 : Bool), decide (pcT k ≠ 0) = b1 → decide (pcT k = 2) = b2 → ∀ q3 q8 e3 e4 : Bool, decide (3 ≤ k) = q3 → decide (k ≤ 8) = q8 → (k == 3) = e3 → (k == 4) = e4 → (q3 && q8) = b1 → (e3 || e4) = b2 →
      Calls Tryd.prog 48 #[.int .i64 k] w fun e w' => e = .returned (.tuple #[.bool b1, .bool b2]) ∧ w = w' := by
    intro b1 b2 _ _ q3 q8 e3 e4 h3 h8 g3 g4 hb1 hb2
    subst hb1 hb2
    cases q3
    · cases e3
      · go_enter Tryd.func48, Tryd.ntmps48
        go_wp2_with fail
        exact bodyPost_ret (v := .tuple #[.bool false, .bool e4]) (by simp [results, Tryd.results48, go_sem]) rfl ⟨by simp, rfl⟩
      · go_enter Tryd.func48, Tryd.ntmps48
        go_wp2_with fail
        exact bodyPost_ret (v := .tuple #[.bool false, .bool true]) (by simp [results, Tryd.results48, go_sem]) rfl ⟨by simp, rfl⟩
    · cases e3
      · go_enter Tryd.func48, Tryd.ntmps48
        go_wp2_with fail
        exact bodyPost_ret (v := .tuple #[.bool q8, .bool e4]) (by simp [results, Tryd.results48, go_sem]) rfl ⟨by simp, rfl⟩
      · go_enter Tryd.func48, Tryd.ntmps48
        go_wp2_with fail
        exact bodyPost_ret (v := .tuple #[.bool q8, .bool true]) (by simp [results, Tryd.results48, go_sem]) rfl ⟨by simp, rfl⟩
  refine (go _ _ rfl rfl _ _ _ _ rfl rfl rfl rfl ?_ ?_).mono fun _ _ h => h
  · unfold pcT
    by_cases h34 : k = 3 ∨ k = 4
    · rw [if_pos h34, decide_eq_true (by omega), decide_eq_true (by omega)]; rfl
    · rw [if_neg h34]
      by_cases h38 : 3 ≤ k ∧ k ≤ 8
      · rw [if_pos h38, decide_eq_true h38.1, decide_eq_true h38.2]; rfl
      · rw [if_neg h38]
        rw [show (decide ((0 : Nat) ≠ 0)) = false from rfl, ← Bool.decide_and]
        exact decide_eq_false h38
  · unfold pcT
    by_cases h3 : k = 3
    · subst h3; rfl
    · by_cases h4 : k = 4
      · subst h4; rfl
      · rw [if_neg (by omega), show (k == 3) = false from beq_eq_false_iff_ne.2 h3, show (k == 4) = false from beq_eq_false_iff_ne.2 h4]
        split <;> rfl
end Go.Proofs.YtdpkhliojbeglaaDoor

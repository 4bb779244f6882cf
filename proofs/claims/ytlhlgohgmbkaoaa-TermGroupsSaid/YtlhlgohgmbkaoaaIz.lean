/- Terms as lists of nodes, plainly. Stage 10. A term's node is kept as a node of a tree is: kind, A as kids, B as n, N as m, set. -/
import Derived.Test.YtlhlgohgmbkaoaaAt
import Derived.Test.YtlhlgohgmbkaoaaAw
import Derived.Test.YtlhlgohgmbkaoaaAe
import Derived.Test.YtlhlgohgmbkaoaaAv
namespace Go.Proofs.Ytlhlgohgmbkaoaa
open Go.RowKit BS

/-- How many parts a kind has. -/
def pcT (k : Int) : Nat := if k = 3 ∨ k = 4 then 2 else if 3 ≤ k ∧ k ≤ 8 then 1 else 0
def psT (l : List NdN) : List Nat := l.map fun x => pcT x.kind
/-- What a node may have, whatever stands ahead of it. -/
def kindT (x : NdN) : Bool := decide (1 ≤ x.kind ∧ x.kind ≤ 8 ∧ (x.kind = 2 ∨ x.set = 0) ∧ (x.kind = 7 ∨ x.m = 0) ∧ (x.kind = 7 → 1 ≤ x.m ∧ x.m ≤ 9) ∧ (pcT x.kind = 0 → x.kids = -1) ∧ (pcT x.kind ≠ 2 → x.n = -1))
/-- Its parts stand where they must: those are the places, the last one first. -/
def argT (x : NdN) (ps : List Nat) : Bool :=
  if pcT x.kind = 2 then decide (x.n = ((ps.getD 0 0 : Nat) : Int) ∧ x.kids = ((ps.getD 1 0 : Nat) : Int))
  else if pcT x.kind = 1 then decide (x.kids = ((ps.getD 0 0 : Nat) : Int)) else true
/-- No Group of its number from a place on. -/
def noT (l : List NdN) (x : NdN) (lo i : Nat) : Bool := decide (x.kind = 7 → ∀ k, k < i → lo ≤ k → ∀ y, l[k]? = some y → ¬ (y.kind = 7 ∧ y.m = x.m))
/-- Is node i fine behind those trees? -/
def fineT (l : List NdN) (s : List Nat) (i : Nat) (x : NdN) : Bool :=
  kindT x && (decide (pcT x.kind ≤ s.length) && (argT x (posF i s) && noT l x (i - (s.take (pcT x.kind)).sum) i))
/-- The trees behind i nodes, if all of them are fine. -/
def trT (l : List NdN) : Nat → Option (List Nat)
  | 0 => some []
  | i + 1 => (trT l i).bind fun s => (l[i]?).bind fun x => if fineT l s i x = true then some (stepF s (pcT x.kind)) else none
def lfT (l : List NdN) : Nat := (l.map NdN.kind).countP (· == 2)
/-- Is a list a term? -/
def rightT (l : List NdN) : Bool := decide (trT l l.length = some [l.length] ∧ l.length ≤ 400 ∧ lfT l ≤ 64)
theorem trT_step (l : List NdN) (i : Nat) (s : List Nat) (h : trT l (i + 1) = some s) : ∃ s0, trT l i = some s0 ∧ ∃ h : i < l.length, fineT l s0 i l[i] = true ∧ s = stepF s0 (pcT l[i].kind) := by
  rw [trT] at h
  obtain ⟨s0, h0, h1⟩ := Option.bind_eq_some_iff.1 h
  obtain ⟨x, h2, h3⟩ := Option.bind_eq_some_iff.1 h1
  obtain ⟨hi, rfl⟩ := List.getElem?_eq_some_iff.1 h2
  by_cases hf : fineT l s0 i l[i] = true
  · rw [if_pos hf] at h3
    exact ⟨s0, h0, hi, hf, (Option.some.inj h3).symm⟩
  · rw [if_neg hf] at h3; cases h3
theorem trT_more (l : List NdN) (i : Nat) (s : List Nat) (h : trT l i = some s) (hi : i < l.length) (hf : fineT l s i l[i] = true) : trT l (i + 1) = some (stepF s (pcT l[i].kind)) := by
  rw [trT, h, List.getElem?_eq_getElem hi]
  show (if fineT l s i l[i] = true then _ else _) = _
  rw [if_pos hf]
theorem trT_stop (l : List NdN) (i : Nat) (s : List Nat) (h : trT l i = some s) (hi : i < l.length) (hf : fineT l s i l[i] = false) : trT l (i + 1) = none := by
  rw [trT, h, List.getElem?_eq_getElem hi]
  show (if fineT l s i l[i] = true then _ else _) = _
  rw [if_neg (by rw [hf]; decide)]
theorem trT_none (l : List NdN) (i : Nat) (h : trT l i = none) : ∀ j, i ≤ j → trT l j = none
  | 0, hj => by
    have : i = 0 := by omega
    subst this; exact h
  | j + 1, hj => by
    rcases Nat.lt_or_ge i (j + 1) with h1 | h1
    · rw [trT, trT_none l i h j (by omega)]; rfl
    · have : i = j + 1 := by omega
      subst this; exact h
theorem psT_len (l : List NdN) : (psT l).length = l.length := by simp [psT]
theorem psT_get (l : List NdN) (i : Nat) (h : i < l.length) : (psT l)[i]'(by rw [psT_len]; exact h) = pcT l[i].kind := by simp [psT]
theorem fineT_len (l : List NdN) (s : List Nat) (i : Nat) (x : NdN) (h : fineT l s i x = true) : pcT x.kind ≤ s.length := by
  unfold fineT at h
  simp only [Bool.and_eq_true, decide_eq_true_eq] at h
  exact h.2.1
theorem trT_stack (l : List NdN) : ∀ i s, trT l i = some s → i ≤ l.length ∧ stackF [] ((psT l).take i) = some s
  | 0, s, h => by
    rw [trT] at h
    cases h
    exact ⟨Nat.zero_le _, by rw [List.take_zero]; rfl⟩
  | i + 1, s, h => by
    obtain ⟨s0, h0, hi, hf, rfl⟩ := trT_step l i s h
    obtain ⟨_, h2⟩ := trT_stack l i s0 h0
    refine ⟨hi, ?_⟩
    rw [List.take_succ_eq_append_getElem (by rw [psT_len]; exact hi), stackF_snoc, h2, psT_get l i hi]
    show (if pcT l[i].kind ≤ s0.length then _ else _) = _
    rw [if_pos (fineT_len l s0 i _ hf)]
theorem trT_before (l : List NdN) (i : Nat) (s : List Nat) (h : trT l i = some s) (j : Nat) (hj : j ≤ i) : ∃ s', trT l j = some s' := by
  cases hs : trT l j with
  | some s' => exact ⟨s', rfl⟩
  | none => rw [trT_none l j hs i hj] at h; cases h
/-- What a term is. -/
structure TermQ (l : List NdN) : Prop where
  stack : stackF [] (psT l) = some [l.length]
  pos : 0 < l.length
  len : l.length ≤ 400
  leaf : lfT l ≤ 64
  fine : ∀ i (h : i < l.length), ∃ s, stackF [] ((psT l).take i) = some s ∧ fineT l s i l[i] = true
theorem rightT_q (l : List NdN) (h : rightT l = true) : TermQ l := by
  obtain ⟨h1, h2, h3⟩ := of_decide_eq_true h
  have hst := (trT_stack l _ _ h1).2
  rw [List.take_of_length_le (by rw [psT_len]; exact Nat.le_refl _)] at hst
  refine ⟨hst, ?_, h2, h3, fun i hi => ?_⟩
  · rcases Nat.eq_zero_or_pos l.length with h0 | h0
    · rw [h0, trT] at h1; cases h1
    · exact h0
  · obtain ⟨s', hs'⟩ := trT_before l _ _ h1 (i + 1) hi
    obtain ⟨s0, h4, _, h5, _⟩ := trT_step l i s' hs'
    exact ⟨s0, (trT_stack l i s0 h4).2, h5⟩
theorem q_right (l : List NdN) (h : TermQ l) : rightT l = true := by
  refine decide_eq_true ⟨?_, h.len, h.leaf⟩
  have hall : ∀ i, i ≤ l.length → ∃ s, trT l i = some s := fun i => by
    induction i with
    | zero => intro _; exact ⟨[], rfl⟩
    | succ i ih =>
      intro hi
      obtain ⟨s, hs⟩ := ih (by omega)
      obtain ⟨s', h1, h2⟩ := h.fine i hi
      have e := (trT_stack l i s hs).2
      rw [h1] at e
      cases e
      exact ⟨_, trT_more l i _ hs hi h2⟩
  obtain ⟨s, hs⟩ := hall l.length (Nat.le_refl _)
  have e := (trT_stack l _ s hs).2
  rw [List.take_of_length_le (by rw [psT_len]; exact Nat.le_refl _), h.stack] at e
  cases e
  exact hs
/-! ### A term as a tree -/
def asN (x : NdN) : NdN := ⟨x.kind, ((pcT x.kind : Nat) : Int), 0, 0, 0⟩
def asL (l : List NdN) : List NdN := l.map asN
theorem asL_len (l : List NdN) : (asL l).length = l.length := by simp [asL]
theorem asL_get (l : List NdN) (i : Nat) (h : i < l.length) : (asL l)[i]'(by rw [asL_len]; exact h) = asN l[i] := by simp [asL]
theorem ksN_as (l : List NdN) : ksN (asL l) = psT l := by
  unfold ksN asL psT
  rw [List.map_map, List.map_map]
  rfl
theorem formed_as (l : List NdN) (h : TermQ l) : FormedN (asL l) := by
  refine formed_of (asL l) (fun x hx => ?_) (by rw [ksN_as, asL_len]; exact h.stack)
  obtain ⟨y, _, rfl⟩ := List.mem_map.1 hx
  exact Int.natCast_nonneg _
/-- **The parts of a node stand where its kids would.** -/
theorem parts_as (l : List NdN) (h : TermQ l) (i : Nat) (hi : i < l.length) : kidsR (asL l) i = if pcT l[i].kind = 2 then [l[i].kids, l[i].n] else if pcT l[i].kind = 1 then [l[i].kids] else [] := by
  have hf := formed_as l h
  obtain ⟨s, hs, hfi⟩ := h.fine i hi
  have hlk : i < (ksN (asL l)).length := by rw [ksN_as, psT_len]; exact hi
  have hk : (ksN (asL l))[i] = pcT l[i].kind := by
    have : (psT l)[i]'(by rw [psT_len]; exact hi) = pcT l[i].kind := psT_get l i hi
    simpa only [ksN_as] using this
  unfold kidsR
  rw [if_pos ⟨hf, by omega, by rw [asL_len]; omega⟩, show (i : Int).toNat = i from rfl, allKids_at (ksN (asL l)) i hlk s (by rw [ksN_as]; exact hs), hk]
  unfold fineT at hfi
  simp only [Bool.and_eq_true, decide_eq_true_eq] at hfi
  obtain ⟨_, h2, h3, _⟩ := hfi
  have hpl := posF_len s i
  generalize posF i s = ps at *
  unfold argT at h3
  by_cases c2 : pcT l[i].kind = 2
  · rw [if_pos c2] at h3 ⊢
    obtain ⟨h4, h5⟩ := of_decide_eq_true h3
    rw [c2] at h2 ⊢
    obtain _ | ⟨p, _ | ⟨q, ps⟩⟩ := ps
    · simp at hpl; omega
    · simp at hpl; omega
    · simp at h4 h5 ⊢
      exact ⟨h5.symm, h4.symm⟩
  · rw [if_neg c2] at h3 ⊢
    by_cases c1 : pcT l[i].kind = 1
    · rw [if_pos c1] at h3 ⊢
      have h4 := of_decide_eq_true h3
      rw [c1] at h2 ⊢
      obtain _ | ⟨p, ps⟩ := ps
      · simp at hpl; omega
      · simp at h4 ⊢
        exact h4.symm
    · rw [if_neg c1]
      have : pcT l[i].kind = 0 := by
        have : pcT l[i].kind = 0 ∨ pcT l[i].kind = 1 ∨ pcT l[i].kind = 2 := by
          unfold pcT
          split
          · exact .inr (.inr rfl)
          · split
            · exact .inr (.inl rfl)
            · exact .inl rfl
        omega
      rw [this]
      rfl
/-- The first node of what a node is. -/
def lowT (l : List NdN) (i : Nat) : Int := (i : Int) + 1 - (sizesR (asL l)).getD i 0
end Go.Proofs.Ytlhlgohgmbkaoaa

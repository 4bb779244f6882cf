/- Terms, plainly: whose part a node is, how deep it lies. Stage 10. -/
import Derived.Test.YtlhlgohgmbkaoaaIz
namespace Go.Proofs.Ytlhlgohgmbkaoaa
open Go.RowKit BS

/-- A node's parts, from the left. -/
def partsT (l : List NdN) (i : Nat) : List Int := kidsR (asL l) i
/-- The node whose part it is; -1, if there is none. -/
def upF (l : List NdN) (x : Nat) : Option Nat := (List.range l.length).find? fun i => (partsT l i).contains (x : Int)
def upT (l : List NdN) (x : Nat) : Int := match upF l x with | some i => (i : Int) | none => -1
/-- Parts stand ahead. -/
theorem part_lt (l : List NdN) (h : TermQ l) (i : Nat) (hi : i < l.length) (x : Int) (hx : x ∈ partsT l i) : 0 ≤ x ∧ x < (i : Int) := by
  have hi' : i < (asL l).length := by rw [asL_len]; exact hi
  obtain ⟨A, hA, h0, _, hk⟩ := kids_row (asL l) (formed_as l h) i hi'
  obtain ⟨k, hk1, e⟩ := List.getElem_of_mem hx
  change k < (kidsR (asL l) i).length at hk1
  obtain ⟨h1, h2, h3, _⟩ := hk k hk1
  change (kidsR (asL l) i)[k] = x at e
  rw [h3] at e
  omega
/-- Each node but the root is a part of just one. -/
theorem held_one (l : List NdN) (h : TermQ l) (x i j : Nat) (hi : i < l.length) (hj : j < l.length) (hij : i < j) (hx : (x : Int) ∈ partsT l i) (hx' : (x : Int) ∈ partsT l j) : False := by
  have hf := formed_as l h
  have hl := asL_len l
  have hxl : x < (asL l).length := by have := (part_lt l h i hi _ hx).2; omega
  have h1 := heldN_step (asL l) hf j (by omega) x
  have h2 := heldN_step (asL l) hf i (by omega) x
  have c1 : 0 < (kidsR (asL l) i).count (x : Int) := List.count_pos_iff.2 hx
  have c2 : 0 < (kidsR (asL l) j).count (x : Int) := List.count_pos_iff.2 hx'
  have h3 := heldN_le (asL l) hf (j + 1) (by omega) x hxl
  have hm : ∀ n m, n ≤ m → m ≤ (asL l).length → heldN (asL l) n x ≤ heldN (asL l) m x := fun n m hnm hml => by
    induction m with
    | zero => have : n = 0 := by omega
              subst this; exact Nat.le_refl _
    | succ m ih =>
      rcases Nat.lt_or_ge n (m + 1) with hl | hl
      · have := heldN_step (asL l) hf m (by omega) x
        have := ih (by omega) (by omega)
        omega
      · have : n = m + 1 := by omega
        subst this; exact Nat.le_refl _
  have h4 := hm (i + 1) j (by omega) (by omega)
  omega
theorem up_of (l : List NdN) (h : TermQ l) (i : Nat) (hi : i < l.length) (x : Nat) (hx : (x : Int) ∈ partsT l i) : upF l x = some i := by
  unfold upF
  cases hf : (List.range l.length).find? (fun i => (partsT l i).contains (x : Int)) with
  | none =>
    have := List.find?_eq_none.1 hf i (List.mem_range.2 hi)
    simp at this
    exact absurd hx this
  | some j =>
    have h1 := List.mem_range.1 (List.mem_of_find?_eq_some hf)
    have h2 := List.find?_some hf
    simp at h2
    rcases Nat.lt_trichotomy i j with hl | hl | hl
    · exact (held_one l h x i j hi h1 hl hx h2).elim
    · rw [hl]
    · exact (held_one l h x j i h1 hi hl h2 hx).elim
theorem up_some (l : List NdN) (x i : Nat) (h : upF l x = some i) : i < l.length ∧ (x : Int) ∈ partsT l i := by
  unfold upF at h
  have h1 := List.mem_range.1 (List.mem_of_find?_eq_some h)
  have h2 := List.find?_some h
  simp at h2
  exact ⟨h1, h2⟩
/-- Only the root is no part. -/
theorem up_none (l : List NdN) (h : TermQ l) (x : Nat) (hx : x < l.length) : upF l x = none ↔ x = l.length - 1 := by
  have hf := formed_as l h
  have hl := asL_len l
  have h1 := heldN_all (asL l) hf x (by omega)
  have hz : ∀ n, n ≤ (asL l).length → (∀ i, i < n → ¬ (x : Int) ∈ partsT l i) → heldN (asL l) n x = 0 := fun n => by
    induction n with
    | zero => intro _ _; unfold heldN; simp
    | succ n ih =>
      intro hn hno
      have e := heldN_step (asL l) hf n (by omega) x
      rw [ih (by omega) fun i hi => hno i (by omega)] at e
      have c : (kidsR (asL l) n).count (x : Int) = 0 := List.count_eq_zero.2 (hno n (by omega))
      omega
  constructor
  · intro hn
    have hno : ∀ i, i < (asL l).length → ¬ (x : Int) ∈ partsT l i := fun i hi hm => by
      have := List.find?_eq_none.1 hn i (List.mem_range.2 (by omega))
      simp at this
      exact this hm
    have := hz _ (Nat.le_refl _) hno
    rw [h1] at this
    by_cases he : x = (asL l).length - 1
    · omega
    · rw [if_neg he] at this; omega
  · intro he
    cases hu : upF l x with
    | none => rfl
    | some i =>
      obtain ⟨hi, hm⟩ := up_some l x i hu
      have c : 0 < (kidsR (asL l) i).count (x : Int) := List.count_pos_iff.2 hm
      have e := heldN_step (asL l) hf i (by omega) x
      have := heldN_le (asL l) hf (i + 1) (by omega) x (by omega)
      have hm2 : ∀ m, i + 1 ≤ m → m ≤ (asL l).length → heldN (asL l) (i + 1) x ≤ heldN (asL l) m x := fun m => by
        induction m with
        | zero => intro h; omega
        | succ m ih =>
          intro h1 h2
          rcases Nat.lt_or_ge i m with hl | hl
          · have := heldN_step (asL l) hf m (by omega) x
            have := ih (by omega) (by omega)
            omega
          · have : i = m := by omega
            subst this; exact Nat.le_refl _
      have := hm2 (asL l).length (by omega) (Nat.le_refl _)
      rw [h1, if_pos (by omega)] at this
      omega
/-- How many nodes there are from the root to a node. -/
def dpT (l : List NdN) : Nat → Nat → Nat
  | 0, _ => 1
  | k + 1, x => match upF l x with
    | none => 1
    | some i => dpT l k i + 1
theorem up_gt (l : List NdN) (h : TermQ l) (x i : Nat) (hu : upF l x = some i) : x < i ∧ i < l.length := by
  obtain ⟨h1, h2⟩ := up_some l x i hu
  have := (part_lt l h i h1 _ h2).2
  omega
theorem dpT_fuel (l : List NdN) (h : TermQ l) : ∀ k k' x, l.length ≤ k + x → l.length ≤ k' + x → x < l.length → dpT l k x = dpT l k' x
  | 0, k', x, h1, _, h3 => by omega
  | k + 1, 0, x, _, h2, h3 => by omega
  | k + 1, k' + 1, x, h1, h2, h3 => by
    rw [dpT, dpT]
    cases hu : upF l x with
    | none => rfl
    | some i =>
      obtain ⟨g1, g2⟩ := up_gt l h x i hu
      show dpT l k i + 1 = dpT l k' i + 1
      rw [dpT_fuel l h k k' i (by omega) (by omega) g2]
def deepT (l : List NdN) (x : Nat) : Nat := dpT l l.length x
theorem deep_root (l : List NdN) (h : TermQ l) : deepT l (l.length - 1) = 1 := by
  have hp := h.pos
  obtain ⟨n, hn⟩ : ∃ n, l.length = n + 1 := ⟨l.length - 1, by omega⟩
  have hu := (up_none l h (l.length - 1) (by omega)).2 rfl
  unfold deepT
  conv => lhs; arg 2; rw [hn]
  rw [dpT, hu]
theorem deep_up (l : List NdN) (h : TermQ l) (x i : Nat) (hu : upF l x = some i) : deepT l x = deepT l i + 1 := by
  obtain ⟨g1, g2⟩ := up_gt l h x i hu
  obtain ⟨n, hn⟩ : ∃ n, l.length = n + 1 := ⟨l.length - 1, by omega⟩
  have e : dpT l (n + 1) x = dpT l n i + 1 := by rw [dpT, hu]
  have e2 := dpT_fuel l h n l.length i (by omega) (by omega) g2
  unfold deepT
  conv => lhs; arg 2; rw [hn]
  rw [e, e2]
theorem deep_pos (l : List NdN) (x : Nat) : 1 ≤ deepT l x := by
  unfold deepT
  cases l.length with
  | zero => exact Nat.le_refl _
  | succ n =>
    rw [dpT]
    split
    · exact Nat.le_refl _
    · omega
theorem dpT_le (l : List NdN) : ∀ k x, dpT l k x ≤ k + 1
  | 0, x => Nat.le_refl _
  | k + 1, x => by
    rw [dpT]
    split
    · omega
    · have := dpT_le l k; rename_i i _; have := this i; omega
theorem deep_le (l : List NdN) (x : Nat) : deepT l x ≤ l.length + 1 := dpT_le l _ x
end Go.Proofs.Ytlhlgohgmbkaoaa

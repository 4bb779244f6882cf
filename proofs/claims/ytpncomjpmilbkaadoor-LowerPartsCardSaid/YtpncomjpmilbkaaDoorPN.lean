/- Texts put together: Iy Ix Iw Tc Td Te. -/
import Derived.Test.YtpncomjpmilbkaaDoorPJ
import Derived.Test.YtpncomjpmilbkaaDoorPI
/- Terms, plainly: whose part a node is, how deep it lies. Stage 10. -/
namespace Go.Proofs.YtpncomjpmilbkaaDoor
open Go.RowKit BS

/-- A node's parts, from the left. -/
def partsT (l : List NdN) (i : Nat) : List Int := kidsR (asL l) i
/-- The node whose part it is; -1, if there is none. -/
def upF (l : List NdN) (x : Nat) : Option Nat := (List.range l.length).find? fun i => (partsT l i).contains (x : Int)
def upT (l : List NdN) (x : Nat) : Int := match upF l x with | some i => (i : Int) | none => -1
/-- Parts stand ahead. -/
theorem part_lt (l : List NdN) (h : TermQ l) (i : Nat) (hi : i < l.length) (x : Int) (hx : x ∈ partsT l i) : 0 ≤ x ∧ x < (i : Int) := by
  have hi' : i < (asL l).length := by rw [asL_len]; exact hi
  obtain ⟨A, hA, h0, _, hk⟩ := kids_row (asL l) (formed_as l h) i hi'
  obtain ⟨k, hk1, e⟩ := List.getElem_of_mem hx
  change k < (kidsR (asL l) i).length at hk1
  obtain ⟨h1, h2, h3, _⟩ := hk k hk1
  change (kidsR (asL l) i)[k] = x at e
  rw [h3] at e
  omega
/-- Each node but the root is a part of just one. -/
theorem held_one (l : List NdN) (h : TermQ l) (x i j : Nat) (hi : i < l.length) (hj : j < l.length) (hij : i < j) (hx : (x : Int) ∈ partsT l i) (hx' : (x : Int) ∈ partsT l j) : False := by
  have hf := formed_as l h
  have hl := asL_len l
  have hxl : x < (asL l).length := by have := (part_lt l h i hi _ hx).2; omega
  have h1 := heldN_step (asL l) hf j (by omega) x
  have h2 := heldN_step (asL l) hf i (by omega) x
  have c1 : 0 < (kidsR (asL l) i).count (x : Int) := List.count_pos_iff.2 hx
  have c2 : 0 < (kidsR (asL l) j).count (x : Int) := List.count_pos_iff.2 hx'
  have h3 := heldN_le (asL l) hf (j + 1) (by omega) x hxl
  have hm : ∀ n m, n ≤ m → m ≤ (asL l).length → heldN (asL l) n x ≤ heldN (asL l) m x := fun n m hnm hml => by
    induction m with
    | zero => have : n = 0 := by omega
              subst this; exact Nat.le_refl _
    | succ m ih =>
      rcases Nat.lt_or_ge n (m + 1) with hl | hl
      · have := heldN_step (asL l) hf m (by omega) x
        have := ih (by omega) (by omega)
        omega
      · have : n = m + 1 := by omega
        subst this; exact Nat.le_refl _
  have h4 := hm (i + 1) j (by omega) (by omega)
  omega
theorem up_of (l : List NdN) (h : TermQ l) (i : Nat) (hi : i < l.length) (x : Nat) (hx : (x : Int) ∈ partsT l i) : upF l x = some i := by
  unfold upF
  cases hf : (List.range l.length).find? (fun i => (partsT l i).contains (x : Int)) with
  | none =>
    have := List.find?_eq_none.1 hf i (List.mem_range.2 hi)
    simp at this
    exact absurd hx this
  | some j =>
    have h1 := List.mem_range.1 (List.mem_of_find?_eq_some hf)
    have h2 := List.find?_some hf
    simp at h2
    rcases Nat.lt_trichotomy i j with hl | hl | hl
    · exact (held_one l h x i j hi h1 hl hx h2).elim
    · rw [hl]
    · exact (held_one l h x j i h1 hi hl h2 hx).elim
theorem up_some (l : List NdN) (x i : Nat) (h : upF l x = some i) : i < l.length ∧ (x : Int) ∈ partsT l i := by
  unfold upF at h
  have h1 := List.mem_range.1 (List.mem_of_find?_eq_some h)
  have h2 := List.find?_some h
  simp at h2
  exact ⟨h1, h2⟩
/-- Only the root is no part. -/
theorem up_none (l : List NdN) (h : TermQ l) (x : Nat) (hx : x < l.length) : upF l x = none ↔ x = l.length - 1 := by
  have hf := formed_as l h
  have hl := asL_len l
  have h1 := heldN_all (asL l) hf x (by omega)
  have hz : ∀ n, n ≤ (asL l).length → (∀ i, i < n → ¬ (x : Int) ∈ partsT l i) → heldN (asL l) n x = 0 := fun n => by
    induction n with
    | zero => intro _ _; unfold heldN; simp
    | succ n ih =>
      intro hn hno
      have e := heldN_step (asL l) hf n (by omega) x
      rw [ih (by omega) fun i hi => hno i (by omega)] at e
      have c : (kidsR (asL l) n).count (x : Int) = 0 := List.count_eq_zero.2 (hno n (by omega))
      omega
  constructor
  · intro hn
    have hno : ∀ i, i < (asL l).length → ¬ (x : Int) ∈ partsT l i := fun i hi hm => by
      have := List.find?_eq_none.1 hn i (List.mem_range.2 (by omega))
      simp at this
      exact this hm
    have := hz _ (Nat.le_refl _) hno
    rw [h1] at this
    by_cases he : x = (asL l).length - 1
    · omega
    · rw [if_neg he] at this; omega
  · intro he
    cases hu : upF l x with
    | none => rfl
    | some i =>
      obtain ⟨hi, hm⟩ := up_some l x i hu
      have c : 0 < (kidsR (asL l) i).count (x : Int) := List.count_pos_iff.2 hm
      have e := heldN_step (asL l) hf i (by omega) x
      have := heldN_le (asL l) hf (i + 1) (by omega) x (by omega)
      have hm2 : ∀ m, i + 1 ≤ m → m ≤ (asL l).length → heldN (asL l) (i + 1) x ≤ heldN (asL l) m x := fun m => by
        induction m with
        | zero => intro h; omega
        | succ m ih =>
          intro h1 h2
          rcases Nat.lt_or_ge i m with hl | hl
          · have := heldN_step (asL l) hf m (by omega) x
            have := ih (by omega) (by omega)
            omega
          · have : i = m := by omega
            subst this; exact Nat.le_refl _
      have := hm2 (asL l).length (by omega) (Nat.le_refl _)
      rw [h1, if_pos (by omega)] at this
      omega
/-- How many nodes there are from the root to a node. -/
def dpT (l : List NdN) : Nat → Nat → Nat
  | 0, _ => 1
  | k + 1, x => match upF l x with
    | none => 1
    | some i => dpT l k i + 1
theorem up_gt (l : List NdN) (h : TermQ l) (x i : Nat) (hu : upF l x = some i) : x < i ∧ i < l.length := by
  obtain ⟨h1, h2⟩ := up_some l x i hu
  have := (part_lt l h i h1 _ h2).2
  omega
theorem dpT_fuel (l : List NdN) (h : TermQ l) : ∀ k k' x, l.length ≤ k + x → l.length ≤ k' + x → x < l.length → dpT l k x = dpT l k' x
  | 0, k', x, h1, _, h3 => by omega
  | k + 1, 0, x, _, h2, h3 => by omega
  | k + 1, k' + 1, x, h1, h2, h3 => by
    rw [dpT, dpT]
    cases hu : upF l x with
    | none => rfl
    | some i =>
      obtain ⟨g1, g2⟩ := up_gt l h x i hu
      show dpT l k i + 1 = dpT l k' i + 1
      rw [dpT_fuel l h k k' i (by omega) (by omega) g2]
def deepT (l : List NdN) (x : Nat) : Nat := dpT l l.length x
theorem deep_root (l : List NdN) (h : TermQ l) : deepT l (l.length - 1) = 1 := by
  have hp := h.pos
  obtain ⟨n, hn⟩ : ∃ n, l.length = n + 1 := ⟨l.length - 1, by omega⟩
  have hu := (up_none l h (l.length - 1) (by omega)).2 rfl
  unfold deepT
  conv => lhs; arg 2; rw [hn]
  rw [dpT, hu]
theorem deep_up (l : List NdN) (h : TermQ l) (x i : Nat) (hu : upF l x = some i) : deepT l x = deepT l i + 1 := by
  obtain ⟨g1, g2⟩ := up_gt l h x i hu
  obtain ⟨n, hn⟩ : ∃ n, l.length = n + 1 := ⟨l.length - 1, by omega⟩
  have e : dpT l (n + 1) x = dpT l n i + 1 := by rw [dpT, hu]
  have e2 := dpT_fuel l h n l.length i (by omega) (by omega) g2
  unfold deepT
  conv => lhs; arg 2; rw [hn]
  rw [e, e2]
theorem deep_pos (l : List NdN) (x : Nat) : 1 ≤ deepT l x := by
  unfold deepT
  cases l.length with
  | zero => exact Nat.le_refl _
  | succ n =>
    rw [dpT]
    split
    · exact Nat.le_refl _
    · omega
theorem dpT_le (l : List NdN) : ∀ k x, dpT l k x ≤ k + 1
  | 0, x => Nat.le_refl _
  | k + 1, x => by
    rw [dpT]
    split
    · omega
    · have := dpT_le l k; rename_i i _; have := this i; omega
theorem deep_le (l : List NdN) (x : Nat) : deepT l x ≤ l.length + 1 := dpT_le l _ x
end Go.Proofs.YtpncomjpmilbkaaDoor

/- Terms, plainly: two of them are one. Stage 10. -/
namespace Go.Proofs.YtpncomjpmilbkaaDoor
open Go.RowKit BS

/-- A node that stands further on. -/
def shN (d : Nat) (x : NdN) : NdN := ⟨x.kind, if 0 ≤ x.kids then x.kids + d else x.kids, if 0 ≤ x.n then x.n + d else x.n, x.m, x.set⟩
/-- Two terms, and a node above. -/
def joinT (a b : List NdN) (k : Int) : List NdN := a ++ b.map (shN a.length) ++ [⟨k, (a.length : Int) - 1, (a.length : Int) + b.length - 1, 0, 0⟩]
theorem joinT_len (a b : List NdN) (k : Int) : (joinT a b k).length = a.length + b.length + 1 := by simp [joinT]; omega
theorem joinT_a (a b : List NdN) (k : Int) (i : Nat) (h : i < a.length) : (joinT a b k)[i]'(by rw [joinT_len]; omega) = a[i] := by
  unfold joinT
  rw [List.getElem_append_left (by simp; omega), List.getElem_append_left h]
theorem joinT_b (a b : List NdN) (k : Int) (j : Nat) (h : j < b.length) : (joinT a b k)[a.length + j]'(by rw [joinT_len]; omega) = shN a.length b[j] := by
  unfold joinT
  rw [List.getElem_append_left (by simp; omega), List.getElem_append_right (by omega)]
  simp
theorem joinT_r (a b : List NdN) (k : Int) : (joinT a b k)[a.length + b.length]'(by rw [joinT_len]; omega) = ⟨k, (a.length : Int) - 1, (a.length : Int) + b.length - 1, 0, 0⟩ := by
  unfold joinT
  rw [List.getElem_append_right (by simp)]
  simp
theorem psT_app (a b : List NdN) : psT (a ++ b) = psT a ++ psT b := by simp [psT]
theorem psT_sh (d : Nat) (b : List NdN) : psT (b.map (shN d)) = psT b := by
  unfold psT
  rw [List.map_map]
  rfl
theorem psT_join (a b : List NdN) (k : Int) : psT (joinT a b k) = psT a ++ psT b ++ [pcT k] := by
  unfold joinT
  rw [psT_app, psT_app, psT_sh]
  rfl
theorem lfT_app (a b : List NdN) : lfT (a ++ b) = lfT a + lfT b := by simp [lfT]
theorem lfT_sh (d : Nat) (b : List NdN) : lfT (b.map (shN d)) = lfT b := by
  unfold lfT
  rw [List.map_map]
  rfl
theorem lfT_join (a b : List NdN) (k : Int) (hk : k ≠ 2) : lfT (joinT a b k) = lfT a + lfT b := by
  unfold joinT
  rw [lfT_app, lfT_app, lfT_sh]
  have : lfT [(⟨k, (a.length : Int) - 1, (a.length : Int) + b.length - 1, 0, 0⟩ : NdN)] = 0 := by simp [lfT, hk]
  omega
theorem fineT_iff (l : List NdN) (s : List Nat) (i : Nat) (x : NdN) : fineT l s i x = true ↔ kindT x = true ∧ pcT x.kind ≤ s.length ∧ argT x (posF i s) = true ∧ (x.kind = 7 → ∀ k, k < i → i - (s.take (pcT x.kind)).sum ≤ k → ∀ y, l[k]? = some y → ¬ (y.kind = 7 ∧ y.m = x.m)) := by
  unfold fineT noT
  simp only [Bool.and_eq_true, decide_eq_true_eq]
theorem pc_kinds (k : Int) : pcT k = 0 ∨ pcT k = 1 ∨ pcT k = 2 := by
  unfold pcT
  split
  · exact .inr (.inr rfl)
  · split
    · exact .inr (.inl rfl)
    · exact .inl rfl
theorem kindT_sh (d : Nat) (x : NdN) (h : kindT x = true) : kindT (shN d x) = true := by
  unfold kindT at h ⊢
  rw [decide_eq_true_eq] at h ⊢
  obtain ⟨h1, h2, h3, h4, h5, h6, h7⟩ := h
  refine ⟨h1, h2, h3, h4, h5, fun h => ?_, fun h => ?_⟩
  · show (if 0 ≤ x.kids then x.kids + d else x.kids) = -1
    rw [h6 h]
    rfl
  · show (if 0 ≤ x.n then x.n + d else x.n) = -1
    rw [h7 h]
    rfl
theorem argT_sh (d j : Nat) (x : NdN) (s : List Nat) (h : argT x (posF j s) = true) (hl : pcT x.kind ≤ s.length) (hp : ∀ z ∈ s, 0 < z) (hs : s.sum = j) : argT (shN d x) (posF (d + j) (s ++ [d])) = true := by
  unfold argT at h ⊢
  have e0 : (shN d x).kind = x.kind := rfl
  rw [e0]
  by_cases c2 : pcT x.kind = 2
  · rw [if_pos c2] at h ⊢
    rw [c2] at hl
    obtain _ | ⟨z, _ | ⟨u, s⟩⟩ := s
    · simp at hl
    · simp at hl
    · obtain ⟨h1, h2⟩ := of_decide_eq_true h
      have hz := hp z (List.mem_cons_self ..)
      have hu := hp u (by simp)
      simp only [List.sum_cons] at hs
      simp only [posF, List.getD_cons_zero, List.getD_cons_succ] at h1 h2
      simp only [List.cons_append, posF, List.getD_cons_zero, List.getD_cons_succ]
      refine decide_eq_true ⟨?_, ?_⟩
      · show (if 0 ≤ x.n then x.n + (d : Int) else x.n) = _
        rw [if_pos (by omega)]
        omega
      · show (if 0 ≤ x.kids then x.kids + (d : Int) else x.kids) = _
        rw [if_pos (by omega)]
        omega
  · rw [if_neg c2] at h ⊢
    by_cases c1 : pcT x.kind = 1
    · rw [if_pos c1] at h ⊢
      rw [c1] at hl
      obtain _ | ⟨z, s⟩ := s
      · simp at hl
      · have h1 := of_decide_eq_true h
        have hz := hp z (List.mem_cons_self ..)
        simp only [List.sum_cons] at hs
        simp only [posF, List.getD_cons_zero] at h1
        simp only [List.cons_append, posF, List.getD_cons_zero]
        refine decide_eq_true ?_
        show (if 0 ≤ x.kids then x.kids + (d : Int) else x.kids) = _
        rw [if_pos (by omega)]
        omega
    · rw [if_neg c1]
/-- **Two terms are one.** -/
theorem join_q (a b : List NdN) (k : Int) (hk : k = 3 ∨ k = 4) (ha : TermQ a) (hb : TermQ b) (hl : a.length + b.length + 1 ≤ 400) (hlf : lfT a + lfT b ≤ 64) : TermQ (joinT a b k) := by
  have hpk : pcT k = 2 := by unfold pcT; rw [if_pos hk]
  have hst2 : stackF [] (psT a ++ psT b) = some [b.length, a.length] := by
    rw [stackF_append, ha.stack]
    have := stackF_below [a.length] (psT b) [] _ hb.stack
    simpa using this
  have hja := psT_len a
  have hjb := psT_len b
  refine ⟨?_, by rw [joinT_len]; omega, by rw [joinT_len]; exact hl, by rw [lfT_join a b k (by omega)]; exact hlf, fun i hi => ?_⟩
  · rw [psT_join, stackF_append, hst2, joinT_len, hpk]
    show some [1 + _] = _
    simp
    omega
  · rw [joinT_len] at hi
    rcases Nat.lt_or_ge i a.length with h1 | h1
    · obtain ⟨s, hs, hf⟩ := ha.fine i h1
      refine ⟨s, ?_, ?_⟩
      · rw [psT_join, List.take_append_of_le_length (by simp; omega), List.take_append_of_le_length (by omega)]
        exact hs
      · rw [joinT_a a b k i h1]
        rw [fineT_iff] at hf ⊢
        refine ⟨hf.1, hf.2.1, hf.2.2.1, fun h7 q hq hlo y hy => hf.2.2.2 h7 q hq hlo y ?_⟩
        rw [List.getElem?_eq_getElem (by rw [joinT_len]; omega), joinT_a a b k q (by omega)] at hy
        rw [List.getElem?_eq_getElem (by omega)]
        exact hy
    · rcases Nat.lt_or_ge i (a.length + b.length) with h2 | h2
      · obtain ⟨j, rfl⟩ : ∃ j, i = a.length + j := ⟨i - a.length, by omega⟩
        have hj : j < b.length := by omega
        obtain ⟨s, hs, hf⟩ := hb.fine j hj
        have hpos := stackF_pos ((psT b).take j) [] s (by simp) hs
        have hsum := stackF_sum _ _ _ hs
        rw [List.length_take, hjb] at hsum
        have hsj : s.sum = j := by simp at hsum; omega
        refine ⟨s ++ [a.length], ?_, ?_⟩
        · rw [psT_join, List.take_append_of_le_length (by simp; omega), show a.length + j = (psT a).length + j by omega, List.take_length_add_append, stackF_append, ha.stack]
          have := stackF_below [a.length] ((psT b).take j) [] _ hs
          simpa using this
        · rw [joinT_b a b k j hj]
          rw [fineT_iff] at hf ⊢
          have e0 : (shN a.length b[j]).kind = b[j].kind := rfl
          rw [e0]
          refine ⟨kindT_sh _ _ hf.1, by simp; omega, argT_sh a.length j b[j] s hf.2.2.1 hf.2.1 hpos hsj, fun h7 q hq hlo y hy => ?_⟩
          rw [List.take_append_of_le_length hf.2.1] at hlo
          have hle := take_sum_le s (pcT b[j].kind)
          obtain ⟨p, rfl⟩ : ∃ p, q = a.length + p := ⟨q - a.length, by omega⟩
          have hp : p < b.length := by omega
          rw [List.getElem?_eq_getElem (by rw [joinT_len]; omega), joinT_b a b k p hp] at hy
          cases hy
          exact hf.2.2.2 h7 p (by omega) (by omega) b[p] (List.getElem?_eq_getElem hp)
      · obtain rfl : i = a.length + b.length := by omega
        refine ⟨[b.length, a.length], ?_, ?_⟩
        · rw [psT_join, List.take_append_of_le_length (by simp; omega), List.take_of_length_le (by simp; omega)]
          exact hst2
        · rw [joinT_r, fineT_iff]
          have h3 := ha.pos
          have h4 := hb.pos
          refine ⟨?_, by show pcT k ≤ 2; omega, ?_, fun h7 => by exfalso; simp only at h7; omega⟩
          · unfold kindT
            rw [decide_eq_true_eq]
            refine ⟨by show 1 ≤ k; omega, by show k ≤ 8; omega, .inr rfl, .inr rfl, fun h => by exfalso; simp only at h; omega, fun h => by exfalso; simp only at h; omega, fun h => by exfalso; simp only at h; omega⟩
          · unfold argT
            show (if pcT k = 2 then _ else _) = _
            rw [if_pos hpk]
            simp only [posF, List.getD_cons_zero, List.getD_cons_succ]
            refine decide_eq_true ⟨?_, ?_⟩
            · show (a.length : Int) + b.length - 1 = _
              omega
            · show (a.length : Int) - 1 = _
              omega
end Go.Proofs.YtpncomjpmilbkaaDoor

/- Terms, plainly: in two terms as one each node lies one deeper; the greatest group. Stage 10. -/
namespace Go.Proofs.YtpncomjpmilbkaaDoor
open Go.RowKit BS

theorem parts_a (a b : List NdN) (k : Int) (ha : TermQ a) (hj : TermQ (joinT a b k)) (i : Nat) (h : i < a.length) : partsT (joinT a b k) i = partsT a i := by
  unfold partsT
  rw [parts_as _ hj i (by rw [joinT_len]; omega), parts_as a ha i h, joinT_a a b k i h]
theorem parts_b (a b : List NdN) (k : Int) (hb : TermQ b) (hj : TermQ (joinT a b k)) (j : Nat) (h : j < b.length) : partsT (joinT a b k) (a.length + j) = (partsT b j).map (fun x => x + (a.length : Int)) := by
  have hm := fun x hx => part_lt b hb j h x hx
  unfold partsT at hm ⊢
  rw [parts_as _ hj (a.length + j) (by rw [joinT_len]; omega), joinT_b a b k j h]
  rw [parts_as b hb j h] at hm ⊢
  have e0 : (shN a.length b[j]).kind = b[j].kind := rfl
  rw [e0]
  by_cases c2 : pcT b[j].kind = 2
  · rw [if_pos c2] at hm ⊢
    rw [if_pos c2]
    have h1 := hm b[j].kids (by simp)
    have h2 := hm b[j].n (by simp)
    show [(if 0 ≤ b[j].kids then b[j].kids + (a.length : Int) else b[j].kids), (if 0 ≤ b[j].n then b[j].n + (a.length : Int) else b[j].n)] = _
    rw [if_pos h1.1, if_pos h2.1]
    rfl
  · rw [if_neg c2] at hm ⊢
    rw [if_neg c2]
    by_cases c1 : pcT b[j].kind = 1
    · rw [if_pos c1] at hm ⊢
      rw [if_pos c1]
      have h1 := hm b[j].kids (by simp)
      show [(if 0 ≤ b[j].kids then b[j].kids + (a.length : Int) else b[j].kids)] = _
      rw [if_pos h1.1]
      rfl
    · rw [if_neg c1, if_neg c1]
      rfl
theorem parts_r (a b : List NdN) (k : Int) (hk : k = 3 ∨ k = 4) (hj : TermQ (joinT a b k)) : partsT (joinT a b k) (a.length + b.length) = [(a.length : Int) - 1, (a.length : Int) + b.length - 1] := by
  unfold partsT
  rw [parts_as _ hj (a.length + b.length) (by rw [joinT_len]; omega), joinT_r]
  have hpk : pcT k = 2 := by unfold pcT; rw [if_pos hk]
  show (if pcT k = 2 then _ else _) = _
  rw [if_pos hpk]
theorem deep_join (a b : List NdN) (k : Int) (hk : k = 3 ∨ k = 4) (ha : TermQ a) (hb : TermQ b) (hj : TermQ (joinT a b k)) :
    (∀ n x, a.length ≤ n + x → x < a.length → deepT (joinT a b k) x = deepT a x + 1) ∧ (∀ n x, b.length ≤ n + x → x < b.length → deepT (joinT a b k) (a.length + x) = deepT b x + 1) := by
  have hlen := joinT_len a b k
  have hroot : deepT (joinT a b k) (a.length + b.length) = 1 := by
    have := deep_root _ hj
    rw [hlen] at this
    exact this
  have hpa := ha.pos
  have hpb := hb.pos
  constructor
  · intro n
    induction n with
    | zero => intro x h1 h2; omega
    | succ n ih =>
      intro x h1 h2
      by_cases hx : x = a.length - 1
      · subst hx
        have hu := up_of (joinT a b k) hj (a.length + b.length) (by omega) (a.length - 1) (by rw [parts_r a b k hk hj]; simp; omega)
        rw [deep_up _ hj _ _ hu, hroot, deep_root a ha]
      · cases hu : upF a x with
        | none => exact absurd ((up_none a ha x h2).1 hu) hx
        | some i =>
          obtain ⟨g1, g2⟩ := up_some a x i hu
          have g3 := (up_gt a ha x i hu).1
          have hu2 := up_of (joinT a b k) hj i (by omega) x (by rw [parts_a a b k ha hj i g1]; exact g2)
          rw [deep_up _ hj _ _ hu2, deep_up a ha _ _ hu, ih i (by omega) g1]
  · intro n
    induction n with
    | zero => intro x h1 h2; omega
    | succ n ih =>
      intro x h1 h2
      by_cases hx : x = b.length - 1
      · subst hx
        have hu := up_of (joinT a b k) hj (a.length + b.length) (by omega) (a.length + (b.length - 1)) (by rw [parts_r a b k hk hj]; simp; omega)
        rw [deep_up _ hj _ _ hu, hroot, deep_root b hb]
      · cases hu : upF b x with
        | none => exact absurd ((up_none b hb x h2).1 hu) hx
        | some i =>
          obtain ⟨g1, g2⟩ := up_some b x i hu
          have g3 := (up_gt b hb x i hu).1
          have hu2 := up_of (joinT a b k) hj (a.length + i) (by omega) (a.length + x) (by
            rw [parts_b a b k hb hj i g1]
            exact List.mem_map.2 ⟨(x : Int), g2, by omega⟩)
          rw [deep_up _ hj _ _ hu2, deep_up b hb _ _ hu, ih i (by omega) g1]
theorem deep_joinA (a b : List NdN) (k : Int) (hk : k = 3 ∨ k = 4) (ha : TermQ a) (hb : TermQ b) (hj : TermQ (joinT a b k)) (x : Nat) (h : x < a.length) : deepT (joinT a b k) x = deepT a x + 1 :=
  (deep_join a b k hk ha hb hj).1 a.length x (by omega) h
theorem deep_joinB (a b : List NdN) (k : Int) (hk : k = 3 ∨ k = 4) (ha : TermQ a) (hb : TermQ b) (hj : TermQ (joinT a b k)) (x : Nat) (h : x < b.length) : deepT (joinT a b k) (a.length + x) = deepT b x + 1 :=
  (deep_join a b k hk ha hb hj).2 b.length x (by omega) h
/-! ### Groups -/
/-- Is there a Group of a number from one place to another? -/
def hasG (l : List NdN) (lo q : Nat) (n : Nat) : Bool := (List.range (q + 1)).any fun i => decide (lo ≤ i) && (match l[i]? with | some x => decide (x.kind = 7 ∧ x.m = (n : Int)) | none => false)
/-- The numbers of the Groups from one place to another, ascending. -/
def grpL (l : List NdN) (lo q : Nat) : List Nat := ((List.range 9).map (· + 1)).filter (hasG l lo q)
/-- The groups in node q; the greatest one of all. -/
def groupsT (l : List NdN) (q : Int) : List Nat := if rightT l = true ∧ 0 ≤ q ∧ q < l.length then grpL l (lowT l q.toNat).toNat q.toNat else []
def topL (l : List NdN) : Nat := ((grpL l 0 (l.length - 1)).getLast?).getD 0
def topT (l : List NdN) : Nat := if rightT l = true then topL l else 0
theorem hasG_iff (l : List NdN) (lo q n : Nat) : hasG l lo q n = true ↔ ∃ i x, lo ≤ i ∧ i ≤ q ∧ l[i]? = some x ∧ x.kind = 7 ∧ x.m = (n : Int) := by
  unfold hasG
  rw [List.any_eq_true]
  constructor
  · rintro ⟨i, hi, h⟩
    simp only [Bool.and_eq_true, decide_eq_true_eq] at h
    obtain ⟨h1, h2⟩ := h
    cases hx : l[i]? with
    | none => rw [hx] at h2; cases h2
    | some x =>
      rw [hx] at h2
      have := of_decide_eq_true h2
      exact ⟨i, x, h1, by have := List.mem_range.1 hi; omega, hx, this.1, this.2⟩
  · rintro ⟨i, x, h1, h2, h3, h4, h5⟩
    refine ⟨i, List.mem_range.2 (by omega), ?_⟩
    rw [h3]
    simp [h1, h4, h5]
theorem grpL_mem (l : List NdN) (lo q n : Nat) : n ∈ grpL l lo q ↔ 1 ≤ n ∧ n ≤ 9 ∧ hasG l lo q n = true := by
  unfold grpL
  rw [List.mem_filter, List.mem_map]
  constructor
  · rintro ⟨⟨a, ha, rfl⟩, h⟩
    have := List.mem_range.1 ha
    exact ⟨by omega, by omega, h⟩
  · rintro ⟨h1, h2, h3⟩
    exact ⟨⟨n - 1, List.mem_range.2 (by omega), by omega⟩, h3⟩
theorem grpL_sorted (l : List NdN) (lo q : Nat) : (grpL l lo q).Pairwise (· < ·) := by
  unfold grpL
  refine List.Pairwise.filter _ ?_
  decide
theorem last_max : ∀ (L : List Nat), L.Pairwise (· < ·) → ∀ n ∈ L, n ≤ (L.getLast?).getD 0
  | [], _, n, h => by simp at h
  | [a], _, n, h => by simp at h ⊢; omega
  | a :: b :: L, hp, n, h => by
    have hp2 := (List.pairwise_cons.1 hp).2
    have ih := last_max (b :: L) hp2
    rw [List.getLast?_cons_cons]
    rcases List.mem_cons.1 h with rfl | h
    · have h1 := (List.pairwise_cons.1 hp).1 b (List.mem_cons_self ..)
      have h2 := ih b (List.mem_cons_self ..)
      omega
    · exact ih n h
/-- The greatest number is of a Group, or 0. -/
theorem topL_spec (l : List NdN) : (∀ n, 1 ≤ n → n ≤ 9 → hasG l 0 (l.length - 1) n = true → n ≤ topL l) ∧ (topL l = 0 ∨ (1 ≤ topL l ∧ topL l ≤ 9 ∧ hasG l 0 (l.length - 1) (topL l) = true)) := by
  refine ⟨fun n h1 h2 h3 => last_max _ (grpL_sorted l 0 (l.length - 1)) n ((grpL_mem l 0 (l.length - 1) n).2 ⟨h1, h2, h3⟩), ?_⟩
  cases h : (grpL l 0 (l.length - 1)).getLast? with
  | none => exact .inl (by unfold topL; rw [h]; rfl)
  | some n =>
    refine .inr ?_
    have hm := List.mem_of_getLast? h
    have e : topL l = n := by unfold topL; rw [h]; rfl
    rw [e]
    exact (grpL_mem l 0 (l.length - 1) n).1 hm
theorem hasG_all (l : List NdN) (n : Nat) : hasG l 0 (l.length - 1) n = true ↔ ∃ x ∈ l, x.kind = 7 ∧ x.m = (n : Int) := by
  rw [hasG_iff]
  constructor
  · rintro ⟨i, x, _, _, h3, h4⟩
    exact ⟨x, List.mem_of_getElem? h3, h4⟩
  · rintro ⟨x, hx, h4⟩
    obtain ⟨i, hi, rfl⟩ := List.getElem_of_mem hx
    exact ⟨i, l[i], Nat.zero_le _, by omega, List.getElem?_eq_getElem hi, h4⟩
theorem hasG_join (a b : List NdN) (k : Int) (hk : k = 3 ∨ k = 4) (n : Nat) : hasG (joinT a b k) 0 ((joinT a b k).length - 1) n = true ↔ hasG a 0 (a.length - 1) n = true ∨ hasG b 0 (b.length - 1) n = true := by
  rw [hasG_all, hasG_all, hasG_all]
  unfold joinT
  constructor
  · rintro ⟨x, hx, h7, hm⟩
    simp only [List.mem_append, List.mem_map, List.mem_singleton] at hx
    rcases hx with (hx | ⟨y, hy, rfl⟩) | rfl
    · exact .inl ⟨x, hx, h7, hm⟩
    · exact .inr ⟨y, hy, h7, hm⟩
    · simp only at h7; omega
  · rintro (⟨x, hx, h⟩ | ⟨x, hx, h⟩)
    · exact ⟨x, by simp [hx], h⟩
    · exact ⟨shN a.length x, by simp only [List.mem_append, List.mem_map]; exact .inl (.inr ⟨x, hx, rfl⟩), h⟩
/-- **The greatest group of two terms is the greater one of theirs.** -/
theorem top_join (a b : List NdN) (k : Int) (hk : k = 3 ∨ k = 4) : topL (joinT a b k) = if topL a < topL b then topL b else topL a := by
  obtain ⟨j1, j2⟩ := topL_spec (joinT a b k)
  obtain ⟨a1, a2⟩ := topL_spec a
  obtain ⟨b1, b2⟩ := topL_spec b
  have ha : topL a ≤ topL (joinT a b k) := by
    rcases a2 with h | ⟨h1, h2, h3⟩
    · omega
    · exact j1 _ h1 h2 ((hasG_join a b k hk _).2 (.inl h3))
  have hb : topL b ≤ topL (joinT a b k) := by
    rcases b2 with h | ⟨h1, h2, h3⟩
    · omega
    · exact j1 _ h1 h2 ((hasG_join a b k hk _).2 (.inr h3))
  have hj : topL (joinT a b k) ≤ topL a ∨ topL (joinT a b k) ≤ topL b := by
    rcases j2 with h | ⟨h1, h2, h3⟩
    · omega
    · rcases (hasG_join a b k hk _).1 h3 with h | h
      · exact .inl (a1 _ h1 h2 h)
      · exact .inr (b1 _ h1 h2 h)
  split <;> omega
end Go.Proofs.YtpncomjpmilbkaaDoor

/- Terms as trees, plainly: what is written down of a tree is a term. Stage 11. -/
namespace Go.Proofs.YtpncomjpmilbkaaDoor
open Go.RowKit BS

inductive TT where
  | eps
  | leaf (s : BitVec 256)
  | cat (a b : TT)
  | alt (a b : TT)
  | star (a : TT)
  | maybe (a : TT)
  | grp (n : Int) (a : TT)
  | iter (a : TT)
/-- A node of one part, put behind it. -/
def unT (l : List NdN) (k n : Int) : List NdN := l ++ [⟨k, (l.length : Int) - 1, -1, n, 0⟩]
theorem unT_len (l : List NdN) (k n : Int) : (unT l k n).length = l.length + 1 := by simp [unT]
/-- The list of a tree. -/
def enc : TT → List NdN
  | .eps => [⟨1, -1, -1, 0, 0⟩]
  | .leaf s => [⟨2, -1, -1, 0, s⟩]
  | .cat a b => joinT (enc a) (enc b) 3
  | .alt a b => joinT (enc a) (enc b) 4
  | .star a => unT (enc a) 5 0
  | .maybe a => unT (enc a) 6 0
  | .grp n a => unT (enc a) 7 n
  | .iter a => unT (enc a) 8 0
def szT : TT → Nat
  | .eps => 1
  | .leaf _ => 1
  | .cat a b => szT a + szT b + 1
  | .alt a b => szT a + szT b + 1
  | .star a => szT a + 1
  | .maybe a => szT a + 1
  | .grp _ a => szT a + 1
  | .iter a => szT a + 1
def lvT : TT → Nat
  | .eps => 0
  | .leaf _ => 1
  | .cat a b => lvT a + lvT b
  | .alt a b => lvT a + lvT b
  | .star a => lvT a
  | .maybe a => lvT a
  | .grp _ a => lvT a
  | .iter a => lvT a
/-- The groups' numbers. -/
def inG : TT → Int → Prop
  | .eps, _ => False
  | .leaf _, _ => False
  | .cat a b, n => inG a n ∨ inG b n
  | .alt a b, n => inG a n ∨ inG b n
  | .star a, n => inG a n
  | .maybe a, n => inG a n
  | .grp m a, n => n = m ∨ inG a n
  | .iter a, n => inG a n
/-- Each group's number is from 1 to 9, and of no group in it. -/
def okG : TT → Prop
  | .eps => True
  | .leaf _ => True
  | .cat a b => okG a ∧ okG b
  | .alt a b => okG a ∧ okG b
  | .star a => okG a
  | .maybe a => okG a
  | .grp n a => (1 ≤ n ∧ n ≤ 9 ∧ ¬ inG a n) ∧ okG a
  | .iter a => okG a
theorem enc_len : ∀ t, (enc t).length = szT t
  | .eps => rfl
  | .leaf _ => rfl
  | .cat a b => by rw [enc, joinT_len, enc_len a, enc_len b]; rfl
  | .alt a b => by rw [enc, joinT_len, enc_len a, enc_len b]; rfl
  | .star a => by rw [enc, unT_len, enc_len a]; rfl
  | .maybe a => by rw [enc, unT_len, enc_len a]; rfl
  | .grp _ a => by rw [enc, unT_len, enc_len a]; rfl
  | .iter a => by rw [enc, unT_len, enc_len a]; rfl
theorem szT_pos : ∀ t, 0 < szT t
  | .eps => Nat.one_pos
  | .leaf _ => Nat.one_pos
  | .cat _ _ => Nat.succ_pos _
  | .alt _ _ => Nat.succ_pos _
  | .star _ => Nat.succ_pos _
  | .maybe _ => Nat.succ_pos _
  | .grp _ _ => Nat.succ_pos _
  | .iter _ => Nat.succ_pos _
theorem enc_ne (t : TT) : enc t ≠ [] := by
  intro h
  have h1 := enc_len t
  have h2 := szT_pos t
  rw [h] at h1
  simp at h1
  omega
theorem lf_un (l : List NdN) (k n : Int) (hk : k ≠ 2) : lfT (unT l k n) = lfT l := by
  unfold unT
  rw [lfT_app]
  have : lfT [(⟨k, (l.length : Int) - 1, -1, n, 0⟩ : NdN)] = 0 := by simp [lfT, hk]
  omega
theorem enc_lf : ∀ t, lfT (enc t) = lvT t
  | .eps => rfl
  | .leaf _ => rfl
  | .cat a b => by rw [enc, lfT_join _ _ _ (by decide), enc_lf a, enc_lf b]; rfl
  | .alt a b => by rw [enc, lfT_join _ _ _ (by decide), enc_lf a, enc_lf b]; rfl
  | .star a => by rw [enc, lf_un _ _ _ (by decide), enc_lf a]; rfl
  | .maybe a => by rw [enc, lf_un _ _ _ (by decide), enc_lf a]; rfl
  | .grp _ a => by rw [enc, lf_un _ _ _ (by decide), enc_lf a]; rfl
  | .iter a => by rw [enc, lf_un _ _ _ (by decide), enc_lf a]; rfl
/-- Groups of the list are groups of the tree. -/
theorem enc_grp : ∀ t n, (∃ x ∈ enc t, x.kind = 7 ∧ x.m = n) ↔ inG t n
  | .eps, n => by
    constructor
    · rintro ⟨x, hx, h7, _⟩; rw [enc, List.mem_singleton] at hx; subst hx; simp at h7
    · intro h; exact h.elim
  | .leaf s, n => by
    constructor
    · rintro ⟨x, hx, h7, _⟩; rw [enc, List.mem_singleton] at hx; subst hx; simp at h7
    · intro h; exact h.elim
  | .cat a b, n => by rw [enc, grp_join _ _ _ (by decide), enc_grp a n, enc_grp b n]; rfl
  | .alt a b, n => by rw [enc, grp_join _ _ _ (by decide), enc_grp a n, enc_grp b n]; rfl
  | .star a, n => by rw [enc, grp_un _ _ _ _ (by decide), enc_grp a n]; rfl
  | .maybe a, n => by rw [enc, grp_un _ _ _ _ (by decide), enc_grp a n]; rfl
  | .grp m a, n => by
    rw [enc]
    constructor
    · rintro ⟨x, hx, h7, hm⟩
      unfold unT at hx
      rw [List.mem_append, List.mem_singleton] at hx
      rcases hx with hx | rfl
      · exact .inr ((enc_grp a n).1 ⟨x, hx, h7, hm⟩)
      · exact .inl hm.symm
    · rintro (rfl | h)
      · exact ⟨_, List.mem_append_right _ (List.mem_singleton.2 rfl), rfl, rfl⟩
      · obtain ⟨x, hx, h7⟩ := (enc_grp a n).2 h
        exact ⟨x, List.mem_append_left _ hx, h7⟩
  | .iter a, n => by rw [enc, grp_un _ _ _ _ (by decide), enc_grp a n]; rfl
where
  grp_join (a b : List NdN) (k : Int) (hk : k ≠ 7) {n : Int} : (∃ x ∈ joinT a b k, x.kind = 7 ∧ x.m = n) ↔ (∃ x ∈ a, x.kind = 7 ∧ x.m = n) ∨ (∃ x ∈ b, x.kind = 7 ∧ x.m = n) := by
    unfold joinT
    constructor
    · rintro ⟨x, hx, h7, hm⟩
      simp only [List.mem_append, List.mem_map, List.mem_singleton] at hx
      rcases hx with (hx | ⟨y, hy, rfl⟩) | rfl
      · exact .inl ⟨x, hx, h7, hm⟩
      · exact .inr ⟨y, hy, h7, hm⟩
      · exact absurd h7 hk
    · rintro (⟨x, hx, h⟩ | ⟨x, hx, h⟩)
      · exact ⟨x, by simp [hx], h⟩
      · exact ⟨shN a.length x, by simp only [List.mem_append, List.mem_map, List.mem_singleton]; exact .inl (.inr ⟨x, hx, rfl⟩), h⟩
  grp_un (l : List NdN) (k m n : Int) (hk : k ≠ 7) : (∃ x ∈ unT l k m, x.kind = 7 ∧ x.m = n) ↔ ∃ x ∈ l, x.kind = 7 ∧ x.m = n := by
    unfold unT
    constructor
    · rintro ⟨x, hx, h7, hm⟩
      rw [List.mem_append, List.mem_singleton] at hx
      rcases hx with hx | rfl
      · exact ⟨x, hx, h7, hm⟩
      · exact absurd h7 hk
    · rintro ⟨x, hx, h⟩
      exact ⟨x, List.mem_append_left _ hx, h⟩
/-- **A node of one part, behind it, is a term.** -/
theorem un_q (l : List NdN) (k n : Int) (hk : 5 ≤ k ∧ k ≤ 8) (h : TermQ l) (hl : l.length + 1 ≤ 400) (hn : k ≠ 7 → n = 0) (h7 : k = 7 → 1 ≤ n ∧ n ≤ 9 ∧ ¬ ∃ x ∈ l, x.kind = 7 ∧ x.m = n) : TermQ (unT l k n) := by
  have hpk : pcT k = 1 := by unfold pcT; rw [if_neg (by omega), if_pos (by omega)]
  have hps : psT (unT l k n) = psT l ++ [pcT k] := by unfold unT; rw [psT_app]; rfl
  have hja := psT_len l
  refine ⟨?_, by rw [unT_len]; omega, by rw [unT_len]; exact hl, by rw [lf_un _ _ _ (by omega)]; exact h.leaf, fun i hi => ?_⟩
  · rw [hps, stackF_append, h.stack, unT_len, hpk]
    show some [1 + _] = _
    simp
    omega
  · rw [unT_len] at hi
    rcases Nat.lt_or_ge i l.length with h1 | h1
    · obtain ⟨s, hs, hf⟩ := h.fine i h1
      have e : ∀ q (hq : q < l.length), (unT l k n)[q]'(by rw [unT_len]; omega) = l[q] := fun q hq => by
        unfold unT; rw [List.getElem_append_left hq]
      refine ⟨s, ?_, ?_⟩
      · rw [hps, List.take_append_of_le_length (by omega)]
        exact hs
      · rw [e i h1]
        rw [fineT_iff] at hf ⊢
        refine ⟨hf.1, hf.2.1, hf.2.2.1, fun h7 q hq hlo y hy => hf.2.2.2 h7 q hq hlo y ?_⟩
        rw [List.getElem?_eq_getElem (by rw [unT_len]; omega), e q (by omega)] at hy
        rw [List.getElem?_eq_getElem (by omega)]
        exact hy
    · obtain rfl : i = l.length := by omega
      have er : (unT l k n)[l.length]'(by rw [unT_len]; omega) = ⟨k, (l.length : Int) - 1, -1, n, 0⟩ := by
        unfold unT
        rw [List.getElem_append_right (Nat.le_refl _)]
        simp
      have hp := h.pos
      refine ⟨[l.length], ?_, ?_⟩
      · rw [hps, List.take_append_of_le_length (by omega), List.take_of_length_le (by omega)]
        exact h.stack
      · rw [er, fineT_iff]
        refine ⟨?_, by show pcT k ≤ 1; omega, ?_, fun hk7 q hq _ y hy hy2 => ?_⟩
        · unfold kindT
          rw [decide_eq_true_eq]
          refine ⟨by show 1 ≤ k; omega, by show k ≤ 8; omega, .inr rfl, ?_, fun h => ?_, fun h => ?_, fun _ => rfl⟩
          · by_cases h7' : k = 7
            · exact .inl h7'
            · exact .inr (hn h7')
          · exact ⟨(h7 h).1, (h7 h).2.1⟩
          · exfalso; simp only at h; omega
        · unfold argT
          show (if pcT k = 2 then _ else _) = _
          rw [if_neg (by omega)]
          show (if pcT k = 1 then _ else _) = _
          rw [if_pos hpk]
          simp only [posF, List.getD_cons_zero]
          refine decide_eq_true ?_
          show (l.length : Int) - 1 = _
          omega
        · rw [List.getElem?_eq_getElem (by rw [unT_len]; omega)] at hy
          have e : (unT l k n)[q]'(by rw [unT_len]; omega) = l[q] := by unfold unT; rw [List.getElem_append_left (by omega)]
          rw [e] at hy
          cases hy
          exact (h7 hk7).2.2 ⟨l[q], List.getElem_mem _, hy2⟩
/-- **The list of a tree is a term.** -/
theorem enc_q : ∀ t, okG t → szT t ≤ 400 → lvT t ≤ 64 → TermQ (enc t)
  | .eps, _, _, _ => rightT_q _ (by decide)
  | .leaf s, _, _, _ => by
    refine ⟨rfl, by show 0 < 1; omega, by show 1 ≤ 400; omega, by show 1 ≤ 64; omega, fun i hi => ?_⟩
    obtain rfl : i = 0 := by have : i < 1 := hi; omega
    refine ⟨[], rfl, ?_⟩
    rw [fineT_iff]
    refine ⟨?_, Nat.le_refl _, rfl, fun _ k hk => absurd hk (Nat.not_lt_zero k)⟩
    unfold kindT
    rw [decide_eq_true_eq]
    show 1 ≤ (2 : Int) ∧ (2 : Int) ≤ 8 ∧ ((2 : Int) = 2 ∨ s = 0) ∧ ((2 : Int) = 7 ∨ (0 : Int) = 0) ∧ ((2 : Int) = 7 → 1 ≤ (0 : Int) ∧ (0 : Int) ≤ 9) ∧ (pcT 2 = 0 → (-1 : Int) = -1) ∧ (pcT 2 ≠ 2 → (-1 : Int) = -1)
    exact ⟨by decide, by decide, .inl rfl, .inr rfl, fun h => absurd h (by decide), fun _ => rfl, fun _ => rfl⟩
  | .cat a b, h, hs, hl => by
    simp only [szT, lvT] at hs hl
    exact join_q _ _ 3 (.inl rfl) (enc_q a h.1 (by omega) (by omega)) (enc_q b h.2 (by omega) (by omega)) (by rw [enc_len, enc_len]; exact hs) (by rw [enc_lf, enc_lf]; exact hl)
  | .alt a b, h, hs, hl => by
    simp only [szT, lvT] at hs hl
    exact join_q _ _ 4 (.inr rfl) (enc_q a h.1 (by omega) (by omega)) (enc_q b h.2 (by omega) (by omega)) (by rw [enc_len, enc_len]; exact hs) (by rw [enc_lf, enc_lf]; exact hl)
  | .star a, h, hs, hl => by
    simp only [szT, lvT] at hs hl
    exact un_q _ 5 0 (by decide) (enc_q a h (by omega) hl) (by rw [enc_len]; exact hs) (fun _ => rfl) (fun h => by exfalso; revert h; decide)
  | .maybe a, h, hs, hl => by
    simp only [szT, lvT] at hs hl
    exact un_q _ 6 0 (by decide) (enc_q a h (by omega) hl) (by rw [enc_len]; exact hs) (fun _ => rfl) (fun h => by exfalso; revert h; decide)
  | .grp n a, h, hs, hl => by
    simp only [szT, lvT] at hs hl
    exact un_q _ 7 n (by decide) (enc_q a h.2 (by omega) hl) (by rw [enc_len]; exact hs) (fun h => absurd rfl h) (fun _ => ⟨h.1.1, h.1.2.1, fun hx => h.1.2.2 ((enc_grp a n).1 hx)⟩)
  | .iter a, h, hs, hl => by
    simp only [szT, lvT] at hs hl
    exact un_q _ 8 0 (by decide) (enc_q a h (by omega) hl) (by rw [enc_len]; exact hs) (fun _ => rfl) (fun h => by exfalso; revert h; decide)
end Go.Proofs.YtpncomjpmilbkaaDoor

/- What a pattern's tree is as a term, plainly. Stage 11. -/
namespace Go.Proofs.YtpncomjpmilbkaaDoor
open Go.RowKit BS

/-! ### Something told of each node by what is told of its kids -/
theorem kid_lt (l : List NdN) (h : FormedN l) (i : Nat) (hi : i < l.length) (x : Int) (hx : x ∈ kidsR l i) : 0 ≤ x ∧ x < (i : Int) := by
  obtain ⟨A, hA, h0, _, hk⟩ := kids_row l h i hi
  obtain ⟨k, hk1, e⟩ := List.getElem_of_mem hx
  obtain ⟨h1, h2, h3, _⟩ := hk k hk1
  rw [h3] at e
  omega
theorem kids_len (l : List NdN) (h : FormedN l) (i : Nat) (hi : i < l.length) : ((kidsR l i).length : Int) = l[i].kids := by
  obtain ⟨hst, hlen, _⟩ := formed_stack l h
  have hlk : i < (ksN l).length := by omega
  obtain ⟨s, hs, hks, _⟩ := stack_at (ksN l) [] _ hst i hlk
  have hk0 := formed_kids l h l[i] (List.getElem_mem hi)
  have e : (ksN l)[i] = l[i].kids.toNat := by simp [ksN]
  unfold kidsR
  rw [if_pos ⟨h, by omega, by omega⟩, show (i : Int).toNat = i from rfl, allKids_at (ksN l) i hlk s hs, Option.getD_some, List.length_map, List.length_reverse, List.length_take, posF_len, e]
  rw [e] at hks
  omega
section
variable {α : Type}
def rowsA (d : α) (l : List NdN) (f : Nat → List α → α) : Nat → List α
  | 0 => []
  | n + 1 => rowsA d l f n ++ [f n ((kidsR l n).map fun k => (rowsA d l f n).getD k.toNat d)]
def valA (d : α) (l : List NdN) (f : Nat → List α → α) (i : Nat) : α := (rowsA d l f (i + 1)).getD i d
theorem rowsA_len (d : α) (l : List NdN) (f : Nat → List α → α) : ∀ n, (rowsA d l f n).length = n
  | 0 => rfl
  | n + 1 => by rw [rowsA, List.length_append, rowsA_len d l f n]; rfl
theorem rowsA_get (d : α) (l : List NdN) (f : Nat → List α → α) (i : Nat) : ∀ n, i < n → (rowsA d l f n)[i]? = some (valA d l f i)
  | n + 1, h => by
    by_cases hi : i = n
    · subst hi
      unfold valA
      rw [List.getD_eq_getElem?_getD, List.getElem?_eq_getElem (by rw [rowsA_len]; omega), Option.getD_some]
    · rw [rowsA, List.getElem?_append_left (by rw [rowsA_len]; omega)]
      exact rowsA_get d l f i n (by omega)
theorem valA_eq (d : α) (l : List NdN) (f : Nat → List α → α) (h : FormedN l) (i : Nat) (hi : i < l.length) : valA d l f i = f i ((kidsR l i).map fun k => valA d l f k.toNat) := by
  have e : valA d l f i = f i ((kidsR l i).map fun k => (rowsA d l f i).getD k.toNat d) := by
    unfold valA
    rw [rowsA, List.getD_eq_getElem?_getD, List.getElem?_append_right (by rw [rowsA_len]; exact Nat.le_refl _), rowsA_len, Nat.sub_self]
    rfl
  rw [e]
  congr 1
  refine List.map_congr_left fun k hk => ?_
  obtain ⟨h1, h2⟩ := kid_lt l h i hi k hk
  rw [List.getD_eq_getElem?_getD, rowsA_get d l f k.toNat i (by omega), Option.getD_some]
end
def zN : NdN := ⟨0, 0, 0, 0, 0⟩
theorem getD_z (l : List NdN) (i : Nat) (h : i < l.length) : l.getD i zN = l[i] := by
  rw [List.getD_eq_getElem?_getD, List.getElem?_eq_getElem h, Option.getD_some]
/-! ### May be nothing -/
def nlN (l : List NdN) (i : Nat) (ks : List Bool) : Bool :=
  let x := l.getD i zN
  if x.kind = 1 then true
  else if x.kind = 3 ∨ x.kind = 5 then ks.all id
  else if x.kind = 4 then (x.m == 0) || ((x.n == 0) || ks.all id)
  else if x.kind = 6 then ks.any id
  else false
def nulV (l : List NdN) (i : Nat) : Bool := valA false l (nlN l) i
/-! ### Its term -/
def jnT (c : TT → TT → TT) : List TT → TT
  | [] => .eps
  | [t] => t
  | t :: ts => c t (jnT c ts)
def lkT (one : TT) : Nat → TT
  | 0 => .eps
  | 1 => .maybe one
  | k + 1 => .maybe (.cat one (lkT one k))
/-- How many copies of a Rep there are, and how many may lack (-1: without end). -/
def cpN (x : NdN) (null : Bool) : Int × Int :=
  let n := if x.n = 0 ∧ null = true then 1 else x.n
  if x.m = -1 then (n, -1) else if n < x.m then (n, x.m - n) else (n, 0)
def allT (one : TT) (many more : Int) : List TT := List.replicate many.toNat one ++ (if more = -1 then [.star one] else if 0 < more then [lkT one more.toNat] else [])
def tmN (l : List NdN) (i : Nat) (ks : List TT) : TT :=
  let x := l.getD i zN
  if x.kind = 2 then .leaf x.set
  else if x.kind = 3 then .grp ((numsR l).getD i 0) (ks.headD .eps)
  else if x.kind = 5 then jnT .cat ks
  else if x.kind = 6 then jnT .alt ks
  else if x.kind = 1 ∨ x.m = 0 then .eps
  else
    let c := cpN x (nulV l ((kidsR l i).headD 0).toNat)
    jnT .cat (allT (.iter (ks.headD .eps)) c.1 c.2)
def tmV (l : List NdN) (i : Nat) : TT := valA .eps l (tmN l) i
/-! ### What a node of a pattern's tree is -/
theorem node_right (l : List NdN) (h : rightR l = true) (i : Nat) (hi : i < l.length) :
    (l[i].kind = 1 ∧ kidsR l i = []) ∨ (l[i].kind = 2 ∧ kidsR l i = []) ∨ (∃ a : Nat, l[i].kind = 3 ∧ kidsR l i = [(a : Int)] ∧ a < i) ∨
    (∃ a : Nat, l[i].kind = 4 ∧ kidsR l i = [(a : Int)] ∧ a < i ∧ rightN l[i].n l[i].m = true) ∨ ((l[i].kind = 5 ∨ l[i].kind = 6) ∧ 2 ≤ (kidsR l i).length) := by
  obtain ⟨hf, hn, _, _⟩ := (rightR_iff l).1 h
  have hx := hn l[i] (List.getElem_mem hi)
  have hkl := kids_len l hf i hi
  have hk := kid_lt l hf i hi
  generalize kidsR l i = K at *
  unfold nodeF at hx
  split at hx
  · cases hx
  split at hx
  · cases hx
  have one : K.length = 1 → ∃ a : Nat, K = [(a : Int)] ∧ a < i := fun h1 => by
    obtain _ | ⟨y, _ | ⟨_, _⟩⟩ := K
    · simp at h1
    · obtain ⟨h2, h3⟩ := hk y (List.mem_singleton.2 rfl)
      exact ⟨y.toNat, by rw [Int.toNat_of_nonneg h2], by omega⟩
    · simp at h1
  split at hx
  · rename_i h12
    rw [beq_iff_eq] at hx
    have hK : K = [] := List.length_eq_zero_iff.1 (by omega)
    rcases h12 with h1 | h1
    · exact .inl ⟨h1, hK⟩
    · exact .inr (.inl ⟨h1, hK⟩)
  split at hx
  · rename_i h3
    rw [beq_iff_eq] at hx
    obtain ⟨a, e, ha⟩ := one (by omega)
    exact .inr (.inr (.inl ⟨a, h3, e, ha⟩))
  split at hx
  · rename_i h4
    rw [Bool.and_eq_true, beq_iff_eq] at hx
    obtain ⟨a, e, ha⟩ := one (by omega)
    exact .inr (.inr (.inr (.inl ⟨a, h4, e, ha, hx.2⟩)))
  split at hx
  · rename_i h56
    exact .inr (.inr (.inr (.inr ⟨h56, by have := of_decide_eq_true hx; omega⟩)))
  · cases hx
theorem rightN_iff (n m : Int) : rightN n m = true ↔ 0 ≤ n ∧ n ≤ 99 ∧ (m = -1 ∨ (n ≤ m ∧ m ≤ 99)) := by
  unfold rightN
  simp only [Bool.and_eq_true, Bool.or_eq_true, decide_eq_true_eq, beq_iff_eq]
  constructor
  · rintro ⟨⟨a, b⟩, c⟩; exact ⟨a, b, c⟩
  · rintro ⟨a, b, c⟩; exact ⟨⟨a, b⟩, c⟩
/-- A Rep's copies. -/
theorem cp_bounds (x : NdN) (b : Bool) (h : rightN x.n x.m = true) (hm : x.m ≠ 0) : ∃ many : Nat, (cpN x b).1 = many ∧ many ≤ 99 ∧ ((cpN x b).2 = -1 ∨ ∃ more : Nat, (cpN x b).2 = more ∧ more ≤ 99 ∧ 0 < many + more) := by
  obtain ⟨h1, h2, h3⟩ := (rightN_iff _ _).1 h
  unfold cpN
  by_cases hn : x.n = 0 ∧ b = true
  · simp only [if_pos hn]
    by_cases hm1 : x.m = -1
    · rw [if_pos hm1]
      exact ⟨1, rfl, by omega, .inl rfl⟩
    · rw [if_neg hm1]
      by_cases hlt : 1 < x.m
      · rw [if_pos hlt]
        exact ⟨1, rfl, by omega, .inr ⟨(x.m - 1).toNat, by show x.m - 1 = _; omega, by omega, by omega⟩⟩
      · rw [if_neg hlt]
        exact ⟨1, rfl, by omega, .inr ⟨0, rfl, by omega, by omega⟩⟩
  · simp only [if_neg hn]
    by_cases hm1 : x.m = -1
    · rw [if_pos hm1]
      exact ⟨x.n.toNat, by show x.n = _; omega, by omega, .inl rfl⟩
    · rw [if_neg hm1]
      by_cases hlt : x.n < x.m
      · rw [if_pos hlt]
        exact ⟨x.n.toNat, by show x.n = _; omega, by omega, .inr ⟨(x.m - x.n).toNat, by show x.m - x.n = _; omega, by omega, by omega⟩⟩
      · rw [if_neg hlt]
        exact ⟨x.n.toNat, by show x.n = _; omega, by omega, .inr ⟨0, rfl, by omega, by omega⟩⟩
/-! ### Sizes -/
def sumB (f : TT → Nat) (L : List TT) : Nat := (L.map f).sum
theorem jn_sz (c : TT → TT → TT) (hc : ∀ a b, szT (c a b) = szT a + szT b + 1) : ∀ L : List TT, L ≠ [] → szT (jnT c L) = sumB szT L + (L.length - 1)
  | [], h => absurd rfl h
  | [t], _ => by simp [jnT, sumB]
  | t :: u :: L, _ => by
    rw [jnT, hc, jn_sz c hc (u :: L) (by simp)]
    · simp [sumB]
      omega
    · simp
theorem jn_lv (c : TT → TT → TT) (hc : ∀ a b, lvT (c a b) = lvT a + lvT b) : ∀ L : List TT, lvT (jnT c L) = sumB lvT L
  | [] => rfl
  | [t] => by simp [jnT, sumB]
  | t :: u :: L => by
    rw [jnT, hc, jn_lv c hc (u :: L)]
    · simp [sumB]
    · simp
theorem lk_sz (one : TT) : ∀ k, 0 < k → szT (lkT one k) = k * szT one + (k - 1) + k
  | 1, _ => by simp [lkT, szT]
  | k + 2, _ => by
    rw [lkT, szT, szT, lk_sz one (k + 1) (by omega)]
    rw [Nat.succ_mul (k + 1)]
    omega
    · omega
theorem lk_lv (one : TT) : ∀ k, lvT (lkT one k) = k * lvT one
  | 0 => by simp [lkT, lvT]
  | 1 => by simp [lkT, lvT]
  | k + 2 => by
    rw [lkT, lvT, lvT, lk_lv one (k + 1), Nat.succ_mul (k + 1)]
    omega
    · omega
theorem sum_rep (f : TT → Nat) (one : TT) (k : Nat) : sumB f (List.replicate k one) = k * f one := by simp [sumB]
theorem sum_app (f : TT → Nat) (a b : List TT) : sumB f (a ++ b) = sumB f a + sumB f b := by simp [sumB]
/-- How great the term of a Rep is. -/
theorem rep_sz (one : TT) (many : Nat) (more : Int) (h : more = -1 ∨ ∃ k : Nat, more = k ∧ 0 < many + k) :
    szT (jnT .cat (allT one many more)) = if more = -1 then (many + 1) * szT one + many + 1 else (many + more.toNat) * szT one + (many + more.toNat - 1) + more.toNat := by
  unfold allT
  rw [Int.toNat_natCast]
  rcases h with rfl | ⟨k, rfl, hk⟩
  · rw [if_pos rfl, if_pos rfl, jn_sz .cat (fun _ _ => rfl) _ (by simp), sum_app, sum_rep]
    simp [sumB, szT, Nat.succ_mul]
    omega
  · have hk1 : ¬ ((k : Int) = -1) := by omega
    rw [if_neg hk1, if_neg hk1, Int.toNat_natCast]
    by_cases h0 : 0 < (k : Int)
    · rw [if_pos h0, jn_sz .cat (fun _ _ => rfl) _ (by simp), sum_app, sum_rep]
      have := lk_sz one k (by omega)
      simp only [sumB, List.map_cons, List.map_nil, List.sum_cons, List.sum_nil, Nat.add_zero, List.length_append, List.length_replicate, List.length_cons, List.length_nil, Nat.add_mul]
      omega
    · obtain rfl : k = 0 := by omega
      rw [if_neg h0, List.append_nil, jn_sz .cat (fun _ _ => rfl) _ (by intro h; have := congrArg List.length h; simp at this; omega), sum_rep]
      simp
theorem rep_lv (one : TT) (many : Nat) (more : Int) (h : more = -1 ∨ ∃ k : Nat, more = k ∧ 0 < many + k) :
    lvT (jnT .cat (allT one many more)) = if more = -1 then (many + 1) * lvT one else (many + more.toNat) * lvT one := by
  unfold allT
  rw [Int.toNat_natCast, jn_lv .cat (fun _ _ => rfl)]
  rcases h with rfl | ⟨k, rfl, hk⟩
  · rw [if_pos rfl, if_pos rfl, sum_app, sum_rep]
    simp [sumB, lvT, Nat.succ_mul]
  · have hk1 : ¬ ((k : Int) = -1) := by omega
    rw [if_neg hk1, if_neg hk1, Int.toNat_natCast]
    by_cases h0 : 0 < (k : Int)
    · rw [if_pos h0, sum_app, sum_rep]
      have := lk_lv one k
      simp only [sumB, List.map_cons, List.map_nil, List.sum_cons, List.sum_nil, Nat.add_zero, Nat.add_mul]
      omega
    · obtain rfl : k = 0 := by omega
      rw [if_neg h0, List.append_nil, sum_rep]
      simp
end Go.Proofs.YtpncomjpmilbkaaDoor

/- What a pattern's tree is as a term, plainly: node by node; how great it is. Stage 11. -/
namespace Go.Proofs.YtpncomjpmilbkaaDoor
open Go.RowKit BS

theorem nul_eq (l : List NdN) (h : FormedN l) (i : Nat) (hi : i < l.length) : nulV l i = nlN l i ((kidsR l i).map fun k => nulV l k.toNat) := valA_eq _ _ _ h i hi
theorem tm_eq (l : List NdN) (h : FormedN l) (i : Nat) (hi : i < l.length) : tmV l i = tmN l i ((kidsR l i).map fun k => tmV l k.toNat) := valA_eq _ _ _ h i hi
theorem right_formed (l : List NdN) (h : rightR l = true) : FormedN l := ((rightR_iff l).1 h).1
theorem tm_eps (l : List NdN) (h : rightR l = true) (i : Nat) (hi : i < l.length) (hk : l[i].kind = 1 ∨ (l[i].kind = 4 ∧ l[i].m = 0)) : tmV l i = .eps := by
  rw [tm_eq l (right_formed l h) i hi]
  unfold tmN
  simp only [getD_z l i hi]
  rcases hk with hk | ⟨hk, hm⟩
  · rw [hk, if_neg (by decide), if_neg (by decide), if_neg (by decide), if_neg (by decide), if_pos (.inl rfl)]
  · rw [hk, hm, if_neg (by decide), if_neg (by decide), if_neg (by decide), if_neg (by decide), if_pos (.inr rfl)]
theorem tm_leaf (l : List NdN) (h : rightR l = true) (i : Nat) (hi : i < l.length) (hk : l[i].kind = 2) : tmV l i = .leaf l[i].set := by
  rw [tm_eq l (right_formed l h) i hi]
  unfold tmN
  simp only [getD_z l i hi]
  rw [if_pos hk]
theorem tm_grp (l : List NdN) (h : rightR l = true) (i : Nat) (hi : i < l.length) (hk : l[i].kind = 3) (a : Nat) (ha : kidsR l i = [(a : Int)]) : tmV l i = .grp ((numsR l).getD i 0) (tmV l a) := by
  rw [tm_eq l (right_formed l h) i hi, ha]
  unfold tmN
  simp only [getD_z l i hi]
  rw [if_neg (by omega), if_pos hk]
  rfl
theorem tm_rep (l : List NdN) (h : rightR l = true) (i : Nat) (hi : i < l.length) (hk : l[i].kind = 4) (hm : l[i].m ≠ 0) (a : Nat) (ha : kidsR l i = [(a : Int)]) :
    tmV l i = jnT .cat (allT (.iter (tmV l a)) (cpN l[i] (nulV l a)).1 (cpN l[i] (nulV l a)).2) := by
  rw [tm_eq l (right_formed l h) i hi]
  unfold tmN
  simp only [getD_z l i hi, ha]
  rw [if_neg (by omega), if_neg (by omega), if_neg (by omega), if_neg (by omega), if_neg (by omega)]
  rfl
theorem tm_cat (l : List NdN) (h : rightR l = true) (i : Nat) (hi : i < l.length) (hk : l[i].kind = 5) : tmV l i = jnT .cat ((kidsR l i).map fun k => tmV l k.toNat) := by
  rw [tm_eq l (right_formed l h) i hi]
  unfold tmN
  simp only [getD_z l i hi]
  rw [if_neg (by omega), if_neg (by omega), if_pos hk]
theorem tm_alt (l : List NdN) (h : rightR l = true) (i : Nat) (hi : i < l.length) (hk : l[i].kind = 6) : tmV l i = jnT .alt ((kidsR l i).map fun k => tmV l k.toNat) := by
  rw [tm_eq l (right_formed l h) i hi]
  unfold tmN
  simp only [getD_z l i hi]
  rw [if_neg (by omega), if_neg (by omega), if_neg (by omega), if_pos hk]
/-! ### How great -/
/-- A number, or what is told of more. -/
def mn (n : Nat) : Nat := min n 1000000
def szV (l : List NdN) (i : Nat) : Nat := szT (tmV l i)
def lvV (l : List NdN) (i : Nat) : Nat := lvT (tmV l i)
/-- What is told of kids, all together. -/
def smN (f : Nat → Nat) (K : List Int) : Nat := (K.map fun k => f k.toNat).sum
theorem smN_nil (f : Nat → Nat) : smN f [] = 0 := rfl
theorem smN_snoc (f : Nat → Nat) (K : List Int) (k : Int) : smN f (K ++ [k]) = smN f K + f k.toNat := by simp [smN]
theorem mn_add (a b : Nat) : mn (mn a + mn b) = mn (a + b) := by unfold mn; omega
theorem mn_le (a : Nat) : mn a ≤ 1000000 := Nat.min_le_right _ _
/-- What the document tells of a node, by what it tells of its kids. -/
def szE (x : NdN) (kc n m : Nat) (null : Bool) : Nat × Nat :=
  if x.kind = 1 then (1, m)
  else if x.kind = 2 then (1, 1)
  else if x.kind = 3 then (n + 1, m)
  else if x.kind = 5 ∨ x.kind = 6 then (n + kc - 1, m)
  else if x.m = 0 then (1, 0)
  else if (cpN x null).2 = -1 then (((cpN x null).1.toNat + 1) * (n + 1) + (cpN x null).1.toNat + 1, ((cpN x null).1.toNat + 1) * m)
  else (((cpN x null).1.toNat + (cpN x null).2.toNat) * (n + 1) + ((cpN x null).1.toNat + (cpN x null).2.toNat - 1) + (cpN x null).2.toNat, ((cpN x null).1.toNat + (cpN x null).2.toNat) * m)
theorem le_sum : ∀ (L : List Nat) (x : Nat), x ∈ L → x ≤ L.sum
  | y :: L, x, h => by
    rw [List.sum_cons]
    rcases List.mem_cons.1 h with rfl | h
    · omega
    · have := le_sum L x h; omega
theorem sum_kids (l : List NdN) (f : TT → Nat) (K : List Int) : sumB f (K.map fun k => tmV l k.toNat) = smN (fun i => f (tmV l i)) K := by
  unfold sumB smN
  rw [List.map_map]
  rfl
theorem mul_big (a s : Nat) (ha : 0 < a) (hs : 1000000 ≤ s) : 1000000 ≤ a * s := Nat.le_trans hs (Nat.le_mul_of_pos_left s ha)
theorem mn_lin (a s e : Nat) (ha : 0 < a) : mn (a * (mn s + 1) + e) = mn (a * (s + 1) + e) := by
  unfold mn
  by_cases h : s ≤ 1000000
  · rw [Nat.min_eq_left h]
  · rw [Nat.min_eq_right (show 1000000 ≤ s by omega)]
    have h1 := mul_big a (1000000 + 1) ha (by omega)
    have h2 := mul_big a (s + 1) ha (by omega)
    omega
theorem mn_mul (a s : Nat) (ha : 0 < a) : mn (a * mn s) = mn (a * s) := by
  unfold mn
  by_cases h : s ≤ 1000000
  · rw [Nat.min_eq_left h]
  · rw [Nat.min_eq_right (show 1000000 ≤ s by omega)]
    have h1 := mul_big a 1000000 ha (by omega)
    have h2 := mul_big a s ha (by omega)
    omega
/-- **What the document tells of a node is how great its term is.** -/
theorem size_step (l : List NdN) (h : rightR l = true) (i : Nat) (hi : i < l.length) :
    mn (szE l[i] (kidsR l i).length (mn (smN (szV l) (kidsR l i))) (mn (smN (lvV l) (kidsR l i))) (nulV l ((kidsR l i).headD 0).toNat)).1 = mn (szV l i) ∧
    mn (szE l[i] (kidsR l i).length (mn (smN (szV l) (kidsR l i))) (mn (smN (lvV l) (kidsR l i))) (nulV l ((kidsR l i).headD 0).toNat)).2 = mn (lvV l i) := by
  rcases node_right l h i hi with ⟨hk, hK⟩ | ⟨hk, hK⟩ | ⟨a, hk, hK, ha⟩ | ⟨a, hk, hK, ha, hr⟩ | ⟨hk, hK⟩
  · have e := tm_eps l h i hi (.inl hk)
    unfold szE szV lvV
    rw [if_pos hk, e, hK]
    exact ⟨rfl, rfl⟩
  · have e := tm_leaf l h i hi hk
    unfold szE szV lvV
    rw [if_neg (by omega), if_pos hk, e]
    exact ⟨rfl, rfl⟩
  · have e := tm_grp l h i hi hk a hK
    unfold szE szV lvV
    rw [if_neg (by omega), if_neg (by omega), if_pos hk, e, hK]
    simp only [smN, List.map_cons, List.map_nil, List.sum_cons, List.sum_nil, Nat.add_zero, Int.toNat_natCast, szT, lvT]
    unfold mn
    omega
  · by_cases hm : l[i].m = 0
    · have e := tm_eps l h i hi (.inr ⟨hk, hm⟩)
      unfold szE szV lvV
      rw [if_neg (by omega), if_neg (by omega), if_neg (by omega), if_neg (by omega), if_pos hm, e]
      exact ⟨rfl, rfl⟩
    · have e := tm_rep l h i hi hk hm a hK
      obtain ⟨many, hc1, hmb, hc2⟩ := cp_bounds l[i] (nulV l a) hr hm
      unfold szE szV lvV
      rw [if_neg (by omega), if_neg (by omega), if_neg (by omega), if_neg (by omega), if_neg hm, e, hK]
      have e1 : smN (fun i => szT (tmV l i)) [(a : Int)] = szT (tmV l a) := by simp [smN]
      have e2 : smN (fun i => lvT (tmV l i)) [(a : Int)] = lvT (tmV l a) := by simp [smN]
      rw [e1, e2, show ([(a : Int)].headD 0).toNat = a from rfl, hc1]
      generalize (cpN l[i] (nulV l a)).2 = more at *
      have hcc : more = -1 ∨ ∃ k : Nat, more = k ∧ 0 < many + k := hc2.imp id (fun ⟨k, h1, _, h3⟩ => ⟨k, h1, h3⟩)
      rw [rep_sz _ many more hcc, rep_lv _ many more hcc]
      simp only [Int.toNat_natCast, szT, lvT]
      rcases hcc with rfl | ⟨k, rfl, hk0⟩
      · rw [if_pos rfl, if_pos rfl, if_pos rfl]
        refine ⟨?_, mn_mul _ _ (by omega)⟩
        have := mn_lin (many + 1) (szT (tmV l a)) (many + 1) (by omega)
        exact this
      · have hk1 : ¬ ((k : Int) = -1) := by omega
        rw [if_neg hk1, if_neg hk1, if_neg hk1, Int.toNat_natCast]
        refine ⟨?_, mn_mul _ _ hk0⟩
        have := mn_lin (many + k) (szT (tmV l a)) ((many + k - 1) + k) hk0
        rw [← Nat.add_assoc, ← Nat.add_assoc] at this
        exact this
  · have hne : (kidsR l i).map (fun k => tmV l k.toNat) ≠ [] := by intro h; have := congrArg List.length h; simp at this; rw [this] at hK; simp at hK
    have e1 : szT (tmV l i) = smN (szV l) (kidsR l i) + ((kidsR l i).length - 1) := by
      rcases hk with hk | hk
      · rw [tm_cat l h i hi hk, jn_sz .cat (fun _ _ => rfl) _ hne, sum_kids, List.length_map]; rfl
      · rw [tm_alt l h i hi hk, jn_sz .alt (fun _ _ => rfl) _ hne, sum_kids, List.length_map]; rfl
    have e2 : lvT (tmV l i) = smN (lvV l) (kidsR l i) := by
      rcases hk with hk | hk
      · rw [tm_cat l h i hi hk, jn_lv .cat (fun _ _ => rfl), sum_kids]; rfl
      · rw [tm_alt l h i hi hk, jn_lv .alt (fun _ _ => rfl), sum_kids]; rfl
    unfold szE
    rw [if_neg (by omega), if_neg (by omega), if_neg (by omega), if_pos hk]
    unfold szV at e1 ⊢
    unfold lvV at e2 ⊢
    rw [e1, e2]
    unfold mn
    omega
/-- A kid's term is no greater than the node's, if it is in it. -/
theorem kid_small (l : List NdN) (h : rightR l = true) (i : Nat) (hi : i < l.length) (hm : ¬ (l[i].kind = 4 ∧ l[i].m = 0)) (x : Int) (hx : x ∈ kidsR l i) : szV l x.toNat ≤ szV l i := by
  unfold szV
  rcases node_right l h i hi with ⟨hk, hK⟩ | ⟨hk, hK⟩ | ⟨a, hk, hK, ha⟩ | ⟨a, hk, hK, ha, hr⟩ | ⟨hk, hK⟩
  · rw [hK] at hx; simp at hx
  · rw [hK] at hx; simp at hx
  · rw [hK, List.mem_singleton] at hx
    subst hx
    rw [tm_grp l h i hi hk a hK, Int.toNat_natCast]
    exact Nat.le_succ _
  · rw [hK, List.mem_singleton] at hx
    subst hx
    have hm0 : l[i].m ≠ 0 := fun h0 => hm ⟨hk, h0⟩
    obtain ⟨many, hc1, hmb, hc2⟩ := cp_bounds l[i] (nulV l a) hr hm0
    rw [tm_rep l h i hi hk hm0 a hK, Int.toNat_natCast, hc1]
    generalize (cpN l[i] (nulV l a)).2 = more at *
    have hcc : more = -1 ∨ ∃ k : Nat, more = k ∧ 0 < many + k := hc2.imp id (fun ⟨k, h1, _, h3⟩ => ⟨k, h1, h3⟩)
    rw [rep_sz _ many more hcc]
    rcases hcc with rfl | ⟨k, rfl, hk0⟩
    · rw [if_pos rfl]
      have := Nat.le_mul_of_pos_left (szT (.iter (tmV l a))) (show 0 < many + 1 by omega)
      simp only [szT] at this ⊢
      omega
    · rw [if_neg (by omega), Int.toNat_natCast]
      have := Nat.le_mul_of_pos_left (szT (.iter (tmV l a))) (show 0 < many + k by omega)
      simp only [szT] at this ⊢
      omega
  · have hne : (kidsR l i).map (fun k => tmV l k.toNat) ≠ [] := by intro h; have := congrArg List.length h; simp at this; rw [this] at hK; simp at hK
    have hle : szT (tmV l x.toNat) ≤ smN (szV l) (kidsR l i) := by
      unfold smN
      have : szV l x.toNat ∈ (kidsR l i).map (fun k => szV l k.toNat) := List.mem_map_of_mem (f := fun k : Int => szV l k.toNat) hx
      exact le_sum _ _ this
    rcases hk with hk | hk
    · rw [tm_cat l h i hi hk, jn_sz .cat (fun _ _ => rfl) _ hne, sum_kids]
      exact Nat.le_trans hle (Nat.le_add_right _ _)
    · rw [tm_alt l h i hi hk, jn_sz .alt (fun _ _ => rfl) _ hne, sum_kids]
      exact Nat.le_trans hle (Nat.le_add_right _ _)
end Go.Proofs.YtpncomjpmilbkaaDoor

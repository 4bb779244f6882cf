/- Terms, plainly: two of them are one. Stage 10. -/
import Derived.Test.YtlhlgohgmbkaoaaIy
namespace Go.Proofs.Ytlhlgohgmbkaoaa
open Go.RowKit BS

/-- A node that stands further on. -/
def shN (d : Nat) (x : NdN) : NdN := ⟨x.kind, if 0 ≤ x.kids then x.kids + d else x.kids, if 0 ≤ x.n then x.n + d else x.n, x.m, x.set⟩
/-- Two terms, and a node above. -/
def joinT (a b : List NdN) (k : Int) : List NdN := a ++ b.map (shN a.length) ++ [⟨k, (a.length : Int) - 1, (a.length : Int) + b.length - 1, 0, 0⟩]
theorem joinT_len (a b : List NdN) (k : Int) : (joinT a b k).length = a.length + b.length + 1 := by simp [joinT]; omega
theorem joinT_a (a b : List NdN) (k : Int) (i : Nat) (h : i < a.length) : (joinT a b k)[i]'(by rw [joinT_len]; omega) = a[i] := by
  unfold joinT
  rw [List.getElem_append_left (by simp; omega), List.getElem_append_left h]
theorem joinT_b (a b : List NdN) (k : Int) (j : Nat) (h : j < b.length) : (joinT a b k)[a.length + j]'(by rw [joinT_len]; omega) = shN a.length b[j] := by
  unfold joinT
  rw [List.getElem_append_left (by simp; omega), List.getElem_append_right (by omega)]
  simp
theorem joinT_r (a b : List NdN) (k : Int) : (joinT a b k)[a.length + b.length]'(by rw [joinT_len]; omega) = ⟨k, (a.length : Int) - 1, (a.length : Int) + b.length - 1, 0, 0⟩ := by
  unfold joinT
  rw [List.getElem_append_right (by simp)]
  simp
theorem psT_app (a b : List NdN) : psT (a ++ b) = psT a ++ psT b := by simp [psT]
theorem psT_sh (d : Nat) (b : List NdN) : psT (b.map (shN d)) = psT b := by
  unfold psT
  rw [List.map_map]
  rfl
theorem psT_join (a b : List NdN) (k : Int) : psT (joinT a b k) = psT a ++ psT b ++ [pcT k] := by
  unfold joinT
  rw [psT_app, psT_app, psT_sh]
  rfl
theorem lfT_app (a b : List NdN) : lfT (a ++ b) = lfT a + lfT b := by simp [lfT]
theorem lfT_sh (d : Nat) (b : List NdN) : lfT (b.map (shN d)) = lfT b := by
  unfold lfT
  rw [List.map_map]
  rfl
theorem lfT_join (a b : List NdN) (k : Int) (hk : k ≠ 2) : lfT (joinT a b k) = lfT a + lfT b := by
  unfold joinT
  rw [lfT_app, lfT_app, lfT_sh]
  have : lfT [(⟨k, (a.length : Int) - 1, (a.length : Int) + b.length - 1, 0, 0⟩ : NdN)] = 0 := by simp [lfT, hk]
  omega
theorem fineT_iff (l : List NdN) (s : List Nat) (i : Nat) (x : NdN) : fineT l s i x = true ↔ kindT x = true ∧ pcT x.kind ≤ s.length ∧ argT x (posF i s) = true ∧ (x.kind = 7 → ∀ k, k < i → i - (s.take (pcT x.kind)).sum ≤ k → ∀ y, l[k]? = some y → ¬ (y.kind = 7 ∧ y.m = x.m)) := by
  unfold fineT noT
  simp only [Bool.and_eq_true, decide_eq_true_eq]
theorem pc_kinds (k : Int) : pcT k = 0 ∨ pcT k = 1 ∨ pcT k = 2 := by
  unfold pcT
  split
  · exact .inr (.inr rfl)
  · split
    · exact .inr (.inl rfl)
    · exact .inl rfl
theorem kindT_sh (d : Nat) (x : NdN) (h : kindT x = true) : kindT (shN d x) = true := by
  unfold kindT at h ⊢
  rw [decide_eq_true_eq] at h ⊢
  obtain ⟨h1, h2, h3, h4, h5, h6, h7⟩ := h
  refine ⟨h1, h2, h3, h4, h5, fun h => ?_, fun h => ?_⟩
  · show (if 0 ≤ x.kids then x.kids + d else x.kids) = -1
    rw [h6 h]
    rfl
  · show (if 0 ≤ x.n then x.n + d else x.n) = -1
    rw [h7 h]
    rfl
theorem argT_sh (d j : Nat) (x : NdN) (s : List Nat) (h : argT x (posF j s) = true) (hl : pcT x.kind ≤ s.length) (hp : ∀ z ∈ s, 0 < z) (hs : s.sum = j) : argT (shN d x) (posF (d + j) (s ++ [d])) = true := by
  unfold argT at h ⊢
  have e0 : (shN d x).kind = x.kind := rfl
  rw [e0]
  by_cases c2 : pcT x.kind = 2
  · rw [if_pos c2] at h ⊢
    rw [c2] at hl
    obtain _ | ⟨z, _ | ⟨u, s⟩⟩ := s
    · simp at hl
    · simp at hl
    · obtain ⟨h1, h2⟩ := of_decide_eq_true h
      have hz := hp z (List.mem_cons_self ..)
      have hu := hp u (by simp)
      simp only [List.sum_cons] at hs
      simp only [posF, List.getD_cons_zero, List.getD_cons_succ] at h1 h2
      simp only [List.cons_append, posF, List.getD_cons_zero, List.getD_cons_succ]
      refine decide_eq_true ⟨?_, ?_⟩
      · show (if 0 ≤ x.n then x.n + (d : Int) else x.n) = _
        rw [if_pos (by omega)]
        omega
      · show (if 0 ≤ x.kids then x.kids + (d : Int) else x.kids) = _
        rw [if_pos (by omega)]
        omega
  · rw [if_neg c2] at h ⊢
    by_cases c1 : pcT x.kind = 1
    · rw [if_pos c1] at h ⊢
      rw [c1] at hl
      obtain _ | ⟨z, s⟩ := s
      · simp at hl
      · have h1 := of_decide_eq_true h
        have hz := hp z (List.mem_cons_self ..)
        simp only [List.sum_cons] at hs
        simp only [posF, List.getD_cons_zero] at h1
        simp only [List.cons_append, posF, List.getD_cons_zero]
        refine decide_eq_true ?_
        show (if 0 ≤ x.kids then x.kids + (d : Int) else x.kids) = _
        rw [if_pos (by omega)]
        omega
    · rw [if_neg c1]
/-- **Two terms are one.** -/
theorem join_q (a b : List NdN) (k : Int) (hk : k = 3 ∨ k = 4) (ha : TermQ a) (hb : TermQ b) (hl : a.length + b.length + 1 ≤ 400) (hlf : lfT a + lfT b ≤ 64) : TermQ (joinT a b k) := by
  have hpk : pcT k = 2 := by unfold pcT; rw [if_pos hk]
  have hst2 : stackF [] (psT a ++ psT b) = some [b.length, a.length] := by
    rw [stackF_append, ha.stack]
    have := stackF_below [a.length] (psT b) [] _ hb.stack
    simpa using this
  have hja := psT_len a
  have hjb := psT_len b
  refine ⟨?_, by rw [joinT_len]; omega, by rw [joinT_len]; exact hl, by rw [lfT_join a b k (by omega)]; exact hlf, fun i hi => ?_⟩
  · rw [psT_join, stackF_append, hst2, joinT_len, hpk]
    show some [1 + _] = _
    simp
    omega
  · rw [joinT_len] at hi
    rcases Nat.lt_or_ge i a.length with h1 | h1
    · obtain ⟨s, hs, hf⟩ := ha.fine i h1
      refine ⟨s, ?_, ?_⟩
      · rw [psT_join, List.take_append_of_le_length (by simp; omega), List.take_append_of_le_length (by omega)]
        exact hs
      · rw [joinT_a a b k i h1]
        rw [fineT_iff] at hf ⊢
        refine ⟨hf.1, hf.2.1, hf.2.2.1, fun h7 q hq hlo y hy => hf.2.2.2 h7 q hq hlo y ?_⟩
        rw [List.getElem?_eq_getElem (by rw [joinT_len]; omega), joinT_a a b k q (by omega)] at hy
        rw [List.getElem?_eq_getElem (by omega)]
        exact hy
    · rcases Nat.lt_or_ge i (a.length + b.length) with h2 | h2
      · obtain ⟨j, rfl⟩ : ∃ j, i = a.length + j := ⟨i - a.length, by omega⟩
        have hj : j < b.length := by omega
        obtain ⟨s, hs, hf⟩ := hb.fine j hj
        have hpos := stackF_pos ((psT b).take j) [] s (by simp) hs
        have hsum := stackF_sum _ _ _ hs
        rw [List.length_take, hjb] at hsum
        have hsj : s.sum = j := by simp at hsum; omega
        refine ⟨s ++ [a.length], ?_, ?_⟩
        · rw [psT_join, List.take_append_of_le_length (by simp; omega), show a.length + j = (psT a).length + j by omega, List.take_length_add_append, stackF_append, ha.stack]
          have := stackF_below [a.length] ((psT b).take j) [] _ hs
          simpa using this
        · rw [joinT_b a b k j hj]
          rw [fineT_iff] at hf ⊢
          have e0 : (shN a.length b[j]).kind = b[j].kind := rfl
          rw [e0]
          refine ⟨kindT_sh _ _ hf.1, by simp; omega, argT_sh a.length j b[j] s hf.2.2.1 hf.2.1 hpos hsj, fun h7 q hq hlo y hy => ?_⟩
          rw [List.take_append_of_le_length hf.2.1] at hlo
          have hle := take_sum_le s (pcT b[j].kind)
          obtain ⟨p, rfl⟩ : ∃ p, q = a.length + p := ⟨q - a.length, by omega⟩
          have hp : p < b.length := by omega
          rw [List.getElem?_eq_getElem (by rw [joinT_len]; omega), joinT_b a b k p hp] at hy
          cases hy
          exact hf.2.2.2 h7 p (by omega) (by omega) b[p] (List.getElem?_eq_getElem hp)
      · obtain rfl : i = a.length + b.length := by omega
        refine ⟨[b.length, a.length], ?_, ?_⟩
        · rw [psT_join, List.take_append_of_le_length (by simp; omega), List.take_of_length_le (by simp; omega)]
          exact hst2
        · rw [joinT_r, fineT_iff]
          have h3 := ha.pos
          have h4 := hb.pos
          refine ⟨?_, by show pcT k ≤ 2; omega, ?_, fun h7 => by exfalso; simp only at h7; omega⟩
          · unfold kindT
            rw [decide_eq_true_eq]
            refine ⟨by show 1 ≤ k; omega, by show k ≤ 8; omega, .inr rfl, .inr rfl, fun h => by exfalso; simp only at h; omega, fun h => by exfalso; simp only at h; omega, fun h => by exfalso; simp only at h; omega⟩
          · unfold argT
            show (if pcT k = 2 then _ else _) = _
            rw [if_pos hpk]
            simp only [posF, List.getD_cons_zero, List.getD_cons_succ]
            refine decide_eq_true ⟨?_, ?_⟩
            · show (a.length : Int) + b.length - 1 = _
              omega
            · show (a.length : Int) - 1 = _
              omega
end Go.Proofs.Ytlhlgohgmbkaoaa

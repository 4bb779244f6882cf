/- Terms, plainly: in two terms as one each node lies one deeper; the greatest group. Stage 10. -/
import Derived.Test.YtlhlgohgmbkaoaaIx
namespace Go.Proofs.Ytlhlgohgmbkaoaa
open Go.RowKit BS

theorem parts_a (a b : List NdN) (k : Int) (ha : TermQ a) (hj : TermQ (joinT a b k)) (i : Nat) (h : i < a.length) : partsT (joinT a b k) i = partsT a i := by
  unfold partsT
  rw [parts_as _ hj i (by rw [joinT_len]; omega), parts_as a ha i h, joinT_a a b k i h]
theorem parts_b (a b : List NdN) (k : Int) (hb : TermQ b) (hj : TermQ (joinT a b k)) (j : Nat) (h : j < b.length) : partsT (joinT a b k) (a.length + j) = (partsT b j).map (fun x => x + (a.length : Int)) := by
  have hm := fun x hx => part_lt b hb j h x hx
  unfold partsT at hm ⊢
  rw [parts_as _ hj (a.length + j) (by rw [joinT_len]; omega), joinT_b a b k j h]
  rw [parts_as b hb j h] at hm ⊢
  have e0 : (shN a.length b[j]).kind = b[j].kind := rfl
  rw [e0]
  by_cases c2 : pcT b[j].kind = 2
  · rw [if_pos c2] at hm ⊢
    rw [if_pos c2]
    have h1 := hm b[j].kids (by simp)
    have h2 := hm b[j].n (by simp)
    show [(if 0 ≤ b[j].kids then b[j].kids + (a.length : Int) else b[j].kids), (if 0 ≤ b[j].n then b[j].n + (a.length : Int) else b[j].n)] = _
    rw [if_pos h1.1, if_pos h2.1]
    rfl
  · rw [if_neg c2] at hm ⊢
    rw [if_neg c2]
    by_cases c1 : pcT b[j].kind = 1
    · rw [if_pos c1] at hm ⊢
      rw [if_pos c1]
      have h1 := hm b[j].kids (by simp)
      show [(if 0 ≤ b[j].kids then b[j].kids + (a.length : Int) else b[j].kids)] = _
      rw [if_pos h1.1]
      rfl
    · rw [if_neg c1, if_neg c1]
      rfl
theorem parts_r (a b : List NdN) (k : Int) (hk : k = 3 ∨ k = 4) (hj : TermQ (joinT a b k)) : partsT (joinT a b k) (a.length + b.length) = [(a.length : Int) - 1, (a.length : Int) + b.length - 1] := by
  unfold partsT
  rw [parts_as _ hj (a.length + b.length) (by rw [joinT_len]; omega), joinT_r]
  have hpk : pcT k = 2 := by unfold pcT; rw [if_pos hk]
  show (if pcT k = 2 then _ else _) = _
  rw [if_pos hpk]
theorem deep_join (a b : List NdN) (k : Int) (hk : k = 3 ∨ k = 4) (ha : TermQ a) (hb : TermQ b) (hj : TermQ (joinT a b k)) :
    (∀ n x, a.length ≤ n + x → x < a.length → deepT (joinT a b k) x = deepT a x + 1) ∧ (∀ n x, b.length ≤ n + x → x < b.length → deepT (joinT a b k) (a.length + x) = deepT b x + 1) := by
  have hlen := joinT_len a b k
  have hroot : deepT (joinT a b k) (a.length + b.length) = 1 := by
    have := deep_root _ hj
    rw [hlen] at this
    exact this
  have hpa := ha.pos
  have hpb := hb.pos
  constructor
  · intro n
    induction n with
    | zero => intro x h1 h2; omega
    | succ n ih =>
      intro x h1 h2
      by_cases hx : x = a.length - 1
      · subst hx
        have hu := up_of (joinT a b k) hj (a.length + b.length) (by omega) (a.length - 1) (by rw [parts_r a b k hk hj]; simp; omega)
        rw [deep_up _ hj _ _ hu, hroot, deep_root a ha]
      · cases hu : upF a x with
        | none => exact absurd ((up_none a ha x h2).1 hu) hx
        | some i =>
          obtain ⟨g1, g2⟩ := up_some a x i hu
          have g3 := (up_gt a ha x i hu).1
          have hu2 := up_of (joinT a b k) hj i (by omega) x (by rw [parts_a a b k ha hj i g1]; exact g2)
          rw [deep_up _ hj _ _ hu2, deep_up a ha _ _ hu, ih i (by omega) g1]
  · intro n
    induction n with
    | zero => intro x h1 h2; omega
    | succ n ih =>
      intro x h1 h2
      by_cases hx : x = b.length - 1
      · subst hx
        have hu := up_of (joinT a b k) hj (a.length + b.length) (by omega) (a.length + (b.length - 1)) (by rw [parts_r a b k hk hj]; simp; omega)
        rw [deep_up _ hj _ _ hu, hroot, deep_root b hb]
      · cases hu : upF b x with
        | none => exact absurd ((up_none b hb x h2).1 hu) hx
        | some i =>
          obtain ⟨g1, g2⟩ := up_some b x i hu
          have g3 := (up_gt b hb x i hu).1
          have hu2 := up_of (joinT a b k) hj (a.length + i) (by omega) (a.length + x) (by
            rw [parts_b a b k hb hj i g1]
            exact List.mem_map.2 ⟨(x : Int), g2, by omega⟩)
          rw [deep_up _ hj _ _ hu2, deep_up b hb _ _ hu, ih i (by omega) g1]
theorem deep_joinA (a b : List NdN) (k : Int) (hk : k = 3 ∨ k = 4) (ha : TermQ a) (hb : TermQ b) (hj : TermQ (joinT a b k)) (x : Nat) (h : x < a.length) : deepT (joinT a b k) x = deepT a x + 1 :=
  (deep_join a b k hk ha hb hj).1 a.length x (by omega) h
theorem deep_joinB (a b : List NdN) (k : Int) (hk : k = 3 ∨ k = 4) (ha : TermQ a) (hb : TermQ b) (hj : TermQ (joinT a b k)) (x : Nat) (h : x < b.length) : deepT (joinT a b k) (a.length + x) = deepT b x + 1 :=
  (deep_join a b k hk ha hb hj).2 b.length x (by omega) h
/-! ### Groups -/
/-- Is there a Group of a number from one place to another? -/
def hasG (l : List NdN) (lo q : Nat) (n : Nat) : Bool := (List.range (q + 1)).any fun i => decide (lo ≤ i) && (match l[i]? with | some x => decide (x.kind = 7 ∧ x.m = (n : Int)) | none => false)
/-- The numbers of the Groups from one place to another, ascending. -/
def grpL (l : List NdN) (lo q : Nat) : List Nat := ((List.range 9).map (· + 1)).filter (hasG l lo q)
/-- The groups in node q; the greatest one of all. -/
def groupsT (l : List NdN) (q : Int) : List Nat := if rightT l = true ∧ 0 ≤ q ∧ q < l.length then grpL l (lowT l q.toNat).toNat q.toNat else []
def topL (l : List NdN) : Nat := ((grpL l 0 (l.length - 1)).getLast?).getD 0
def topT (l : List NdN) : Nat := if rightT l = true then topL l else 0
theorem hasG_iff (l : List NdN) (lo q n : Nat) : hasG l lo q n = true ↔ ∃ i x, lo ≤ i ∧ i ≤ q ∧ l[i]? = some x ∧ x.kind = 7 ∧ x.m = (n : Int) := by
  unfold hasG
  rw [List.any_eq_true]
  constructor
  · rintro ⟨i, hi, h⟩
    simp only [Bool.and_eq_true, decide_eq_true_eq] at h
    obtain ⟨h1, h2⟩ := h
    cases hx : l[i]? with
    | none => rw [hx] at h2; cases h2
    | some x =>
      rw [hx] at h2
      have := of_decide_eq_true h2
      exact ⟨i, x, h1, by have := List.mem_range.1 hi; omega, hx, this.1, this.2⟩
  · rintro ⟨i, x, h1, h2, h3, h4, h5⟩
    refine ⟨i, List.mem_range.2 (by omega), ?_⟩
    rw [h3]
    simp [h1, h4, h5]
theorem grpL_mem (l : List NdN) (lo q n : Nat) : n ∈ grpL l lo q ↔ 1 ≤ n ∧ n ≤ 9 ∧ hasG l lo q n = true := by
  unfold grpL
  rw [List.mem_filter, List.mem_map]
  constructor
  · rintro ⟨⟨a, ha, rfl⟩, h⟩
    have := List.mem_range.1 ha
    exact ⟨by omega, by omega, h⟩
  · rintro ⟨h1, h2, h3⟩
    exact ⟨⟨n - 1, List.mem_range.2 (by omega), by omega⟩, h3⟩
theorem grpL_sorted (l : List NdN) (lo q : Nat) : (grpL l lo q).Pairwise (· < ·) := by
  unfold grpL
  refine List.Pairwise.filter _ ?_
  decide
theorem last_max : ∀ (L : List Nat), L.Pairwise (· < ·) → ∀ n ∈ L, n ≤ (L.getLast?).getD 0
  | [], _, n, h => by simp at h
  | [a], _, n, h => by simp at h ⊢; omega
  | a :: b :: L, hp, n, h => by
    have hp2 := (List.pairwise_cons.1 hp).2
    have ih := last_max (b :: L) hp2
    rw [List.getLast?_cons_cons]
    rcases List.mem_cons.1 h with rfl | h
    · have h1 := (List.pairwise_cons.1 hp).1 b (List.mem_cons_self ..)
      have h2 := ih b (List.mem_cons_self ..)
      omega
    · exact ih n h
/-- The greatest number is of a Group, or 0. -/
theorem topL_spec (l : List NdN) : (∀ n, 1 ≤ n → n ≤ 9 → hasG l 0 (l.length - 1) n = true → n ≤ topL l) ∧ (topL l = 0 ∨ (1 ≤ topL l ∧ topL l ≤ 9 ∧ hasG l 0 (l.length - 1) (topL l) = true)) := by
  refine ⟨fun n h1 h2 h3 => last_max _ (grpL_sorted l 0 (l.length - 1)) n ((grpL_mem l 0 (l.length - 1) n).2 ⟨h1, h2, h3⟩), ?_⟩
  cases h : (grpL l 0 (l.length - 1)).getLast? with
  | none => exact .inl (by unfold topL; rw [h]; rfl)
  | some n =>
    refine .inr ?_
    have hm := List.mem_of_getLast? h
    have e : topL l = n := by unfold topL; rw [h]; rfl
    rw [e]
    exact (grpL_mem l 0 (l.length - 1) n).1 hm
theorem hasG_all (l : List NdN) (n : Nat) : hasG l 0 (l.length - 1) n = true ↔ ∃ x ∈ l, x.kind = 7 ∧ x.m = (n : Int) := by
  rw [hasG_iff]
  constructor
  · rintro ⟨i, x, _, _, h3, h4⟩
    exact ⟨x, List.mem_of_getElem? h3, h4⟩
  · rintro ⟨x, hx, h4⟩
    obtain ⟨i, hi, rfl⟩ := List.getElem_of_mem hx
    exact ⟨i, l[i], Nat.zero_le _, by omega, List.getElem?_eq_getElem hi, h4⟩
theorem hasG_join (a b : List NdN) (k : Int) (hk : k = 3 ∨ k = 4) (n : Nat) : hasG (joinT a b k) 0 ((joinT a b k).length - 1) n = true ↔ hasG a 0 (a.length - 1) n = true ∨ hasG b 0 (b.length - 1) n = true := by
  rw [hasG_all, hasG_all, hasG_all]
  unfold joinT
  constructor
  · rintro ⟨x, hx, h7, hm⟩
    simp only [List.mem_append, List.mem_map, List.mem_singleton] at hx
    rcases hx with (hx | ⟨y, hy, rfl⟩) | rfl
    · exact .inl ⟨x, hx, h7, hm⟩
    · exact .inr ⟨y, hy, h7, hm⟩
    · simp only at h7; omega
  · rintro (⟨x, hx, h⟩ | ⟨x, hx, h⟩)
    · exact ⟨x, by simp [hx], h⟩
    · exact ⟨shN a.length x, by simp only [List.mem_append, List.mem_map]; exact .inl (.inr ⟨x, hx, rfl⟩), h⟩
/-- **The greatest group of two terms is the greater one of theirs.** -/
theorem top_join (a b : List NdN) (k : Int) (hk : k = 3 ∨ k = 4) : topL (joinT a b k) = if topL a < topL b then topL b else topL a := by
  obtain ⟨j1, j2⟩ := topL_spec (joinT a b k)
  obtain ⟨a1, a2⟩ := topL_spec a
  obtain ⟨b1, b2⟩ := topL_spec b
  have ha : topL a ≤ topL (joinT a b k) := by
    rcases a2 with h | ⟨h1, h2, h3⟩
    · omega
    · exact j1 _ h1 h2 ((hasG_join a b k hk _).2 (.inl h3))
  have hb : topL b ≤ topL (joinT a b k) := by
    rcases b2 with h | ⟨h1, h2, h3⟩
    · omega
    · exact j1 _ h1 h2 ((hasG_join a b k hk _).2 (.inr h3))
  have hj : topL (joinT a b k) ≤ topL a ∨ topL (joinT a b k) ≤ topL b := by
    rcases j2 with h | ⟨h1, h2, h3⟩
    · omega
    · rcases (hasG_join a b k hk _).1 h3 with h | h
      · exact .inl (a1 _ h1 h2 h)
      · exact .inr (b1 _ h1 h2 h)
  split <;> omega
end Go.Proofs.Ytlhlgohgmbkaoaa

/- Texts put together: Iw Iv Ik Xa Xg Xh Xi Iu. -/
import Derived.Test.YtbfcancmljdjhaaPH
import Derived.Test.YtbfcancmljdjhaaPB
import Derived.Test.YtbfcancmljdjhaaPF
import Derived.WalkLawsBesides
import Derived.Test.YtbfcancmljdjhaaPD
import Derived.Lib.Hide
import Derived.Test.YtbfcancmljdjhaaPE
import Derived.Laws.OwnMore
import Derived.Laws.AppendOwnNone
import Derived.Deep.RegionLaw
import Derived.Outline
import Derived.Deep.DeepCutAuto
/- Terms, plainly: in two terms as one each node lies one deeper; the greatest group. Stage 10. -/
namespace Go.Proofs.Ytbfcancmljdjhaa
open Go.RowKit BS

theorem parts_a (a b : List NdN) (k : Int) (ha : TermQ a) (hj : TermQ (joinT a b k)) (i : Nat) (h : i < a.length) : partsT (joinT a b k) i = partsT a i := by
  unfold partsT
  rw [parts_as _ hj i (by rw [joinT_len]; omega), parts_as a ha i h, joinT_a a b k i h]
theorem parts_b (a b : List NdN) (k : Int) (hb : TermQ b) (hj : TermQ (joinT a b k)) (j : Nat) (h : j < b.length) : partsT (joinT a b k) (a.length + j) = (partsT b j).map (fun x => x + (a.length : Int)) := by
  have hm := fun x hx => part_lt b hb j h x hx
  unfold partsT at hm ⊢
  rw [parts_as _ hj (a.length + j) (by rw [joinT_len]; omega), joinT_b a b k j h]
  rw [parts_as b hb j h] at hm ⊢
  have e0 : (shN a.length b[j]).kind = b[j].kind := rfl
  rw [e0]
  by_cases c2 : pcT b[j].kind = 2
  · rw [if_pos c2] at hm ⊢
    rw [if_pos c2]
    have h1 := hm b[j].kids (by simp)
    have h2 := hm b[j].n (by simp)
    show [(if 0 ≤ b[j].kids then b[j].kids + (a.length : Int) else b[j].kids), (if 0 ≤ b[j].n then b[j].n + (a.length : Int) else b[j].n)] = _
    rw [if_pos h1.1, if_pos h2.1]
    rfl
  · rw [if_neg c2] at hm ⊢
    rw [if_neg c2]
    by_cases c1 : pcT b[j].kind = 1
    · rw [if_pos c1] at hm ⊢
      rw [if_pos c1]
      have h1 := hm b[j].kids (by simp)
      show [(if 0 ≤ b[j].kids then b[j].kids + (a.length : Int) else b[j].kids)] = _
      rw [if_pos h1.1]
      rfl
    · rw [if_neg c1, if_neg c1]
      rfl
theorem parts_r (a b : List NdN) (k : Int) (hk : k = 3 ∨ k = 4) (hj : TermQ (joinT a b k)) : partsT (joinT a b k) (a.length + b.length) = [(a.length : Int) - 1, (a.length : Int) + b.length - 1] := by
  unfold partsT
  rw [parts_as _ hj (a.length + b.length) (by rw [joinT_len]; omega), joinT_r]
  have hpk : pcT k = 2 := by unfold pcT; rw [if_pos hk]
  show (if pcT k = 2 then _ else _) = _
  rw [if_pos hpk]
theorem deep_join (a b : List NdN) (k : Int) (hk : k = 3 ∨ k = 4) (ha : TermQ a) (hb : TermQ b) (hj : TermQ (joinT a b k)) :
    (∀ n x, a.length ≤ n + x → x < a.length → deepT (joinT a b k) x = deepT a x + 1) ∧ (∀ n x, b.length ≤ n + x → x < b.length → deepT (joinT a b k) (a.length + x) = deepT b x + 1) := by
  have hlen := joinT_len a b k
  have hroot : deepT (joinT a b k) (a.length + b.length) = 1 := by
    have := deep_root _ hj
    rw [hlen] at this
    exact this
  have hpa := ha.pos
  have hpb := hb.pos
  constructor
  · intro n
    induction n with
    | zero => intro x h1 h2; omega
    | succ n ih =>
      intro x h1 h2
      by_cases hx : x = a.length - 1
      · subst hx
        have hu := up_of (joinT a b k) hj (a.length + b.length) (by omega) (a.length - 1) (by rw [parts_r a b k hk hj]; simp; omega)
        rw [deep_up _ hj _ _ hu, hroot, deep_root a ha]
      · cases hu : upF a x with
        | none => exact absurd ((up_none a ha x h2).1 hu) hx
        | some i =>
          obtain ⟨g1, g2⟩ := up_some a x i hu
          have g3 := (up_gt a ha x i hu).1
          have hu2 := up_of (joinT a b k) hj i (by omega) x (by rw [parts_a a b k ha hj i g1]; exact g2)
          rw [deep_up _ hj _ _ hu2, deep_up a ha _ _ hu, ih i (by omega) g1]
  · intro n
    induction n with
    | zero => intro x h1 h2; omega
    | succ n ih =>
      intro x h1 h2
      by_cases hx : x = b.length - 1
      · subst hx
        have hu := up_of (joinT a b k) hj (a.length + b.length) (by omega) (a.length + (b.length - 1)) (by rw [parts_r a b k hk hj]; simp; omega)
        rw [deep_up _ hj _ _ hu, hroot, deep_root b hb]
      · cases hu : upF b x with
        | none => exact absurd ((up_none b hb x h2).1 hu) hx
        | some i =>
          obtain ⟨g1, g2⟩ := up_some b x i hu
          have g3 := (up_gt b hb x i hu).1
          have hu2 := up_of (joinT a b k) hj (a.length + i) (by omega) (a.length + x) (by
            rw [parts_b a b k hb hj i g1]
            exact List.mem_map.2 ⟨(x : Int), g2, by omega⟩)
          rw [deep_up _ hj _ _ hu2, deep_up b hb _ _ hu, ih i (by omega) g1]
theorem deep_joinA (a b : List NdN) (k : Int) (hk : k = 3 ∨ k = 4) (ha : TermQ a) (hb : TermQ b) (hj : TermQ (joinT a b k)) (x : Nat) (h : x < a.length) : deepT (joinT a b k) x = deepT a x + 1 :=
  (deep_join a b k hk ha hb hj).1 a.length x (by omega) h
theorem deep_joinB (a b : List NdN) (k : Int) (hk : k = 3 ∨ k = 4) (ha : TermQ a) (hb : TermQ b) (hj : TermQ (joinT a b k)) (x : Nat) (h : x < b.length) : deepT (joinT a b k) (a.length + x) = deepT b x + 1 :=
  (deep_join a b k hk ha hb hj).2 b.length x (by omega) h
/-! ### Groups -/
/-- Is there a Group of a number from one place to another? -/
def hasG (l : List NdN) (lo q : Nat) (n : Nat) : Bool := (List.range (q + 1)).any fun i => decide (lo ≤ i) && (match l[i]? with | some x => decide (x.kind = 7 ∧ x.m = (n : Int)) | none => false)
/-- The numbers of the Groups from one place to another, ascending. -/
def grpL (l : List NdN) (lo q : Nat) : List Nat := ((List.range 9).map (· + 1)).filter (hasG l lo q)
/-- The groups in node q; the greatest one of all. -/
def groupsT (l : List NdN) (q : Int) : List Nat := if rightT l = true ∧ 0 ≤ q ∧ q < l.length then grpL l (lowT l q.toNat).toNat q.toNat else []
def topL (l : List NdN) : Nat := ((grpL l 0 (l.length - 1)).getLast?).getD 0
def topT (l : List NdN) : Nat := if rightT l = true then topL l else 0
theorem hasG_iff (l : List NdN) (lo q n : Nat) : hasG l lo q n = true ↔ ∃ i x, lo ≤ i ∧ i ≤ q ∧ l[i]? = some x ∧ x.kind = 7 ∧ x.m = (n : Int) := by
  unfold hasG
  rw [List.any_eq_true]
  constructor
  · rintro ⟨i, hi, h⟩
    simp only [Bool.and_eq_true, decide_eq_true_eq] at h
    obtain ⟨h1, h2⟩ := h
    cases hx : l[i]? with
    | none => rw [hx] at h2; cases h2
    | some x =>
      rw [hx] at h2
      have := of_decide_eq_true h2
      exact ⟨i, x, h1, by have := List.mem_range.1 hi; omega, hx, this.1, this.2⟩
  · rintro ⟨i, x, h1, h2, h3, h4, h5⟩
    refine ⟨i, List.mem_range.2 (by omega), ?_⟩
    rw [h3]
    simp [h1, h4, h5]
theorem grpL_mem (l : List NdN) (lo q n : Nat) : n ∈ grpL l lo q ↔ 1 ≤ n ∧ n ≤ 9 ∧ hasG l lo q n = true := by
  unfold grpL
  rw [List.mem_filter, List.mem_map]
  constructor
  · rintro ⟨⟨a, ha, rfl⟩, h⟩
    have := List.mem_range.1 ha
    exact ⟨by omega, by omega, h⟩
  · rintro ⟨h1, h2, h3⟩
    exact ⟨⟨n - 1, List.mem_range.2 (by omega), by omega⟩, h3⟩
theorem grpL_sorted (l : List NdN) (lo q : Nat) : (grpL l lo q).Pairwise (· < ·) := by
  unfold grpL
  refine List.Pairwise.filter _ ?_
  decide
theorem last_max : ∀ (L : List Nat), L.Pairwise (· < ·) → ∀ n ∈ L, n ≤ (L.getLast?).getD 0
  | [], _, n, h => by simp at h
  | [a], _, n, h => by simp at h ⊢; omega
  | a :: b :: L, hp, n, h => by
    have hp2 := (List.pairwise_cons.1 hp).2
    have ih := last_max (b :: L) hp2
    rw [List.getLast?_cons_cons]
    rcases List.mem_cons.1 h with rfl | h
    · have h1 := (List.pairwise_cons.1 hp).1 b (List.mem_cons_self ..)
      have h2 := ih b (List.mem_cons_self ..)
      omega
    · exact ih n h
/-- The greatest number is of a Group, or 0. -/
theorem topL_spec (l : List NdN) : (∀ n, 1 ≤ n → n ≤ 9 → hasG l 0 (l.length - 1) n = true → n ≤ topL l) ∧ (topL l = 0 ∨ (1 ≤ topL l ∧ topL l ≤ 9 ∧ hasG l 0 (l.length - 1) (topL l) = true)) := by
  refine ⟨fun n h1 h2 h3 => last_max _ (grpL_sorted l 0 (l.length - 1)) n ((grpL_mem l 0 (l.length - 1) n).2 ⟨h1, h2, h3⟩), ?_⟩
  cases h : (grpL l 0 (l.length - 1)).getLast? with
  | none => exact .inl (by unfold topL; rw [h]; rfl)
  | some n =>
    refine .inr ?_
    have hm := List.mem_of_getLast? h
    have e : topL l = n := by unfold topL; rw [h]; rfl
    rw [e]
    exact (grpL_mem l 0 (l.length - 1) n).1 hm
theorem hasG_all (l : List NdN) (n : Nat) : hasG l 0 (l.length - 1) n = true ↔ ∃ x ∈ l, x.kind = 7 ∧ x.m = (n : Int) := by
  rw [hasG_iff]
  constructor
  · rintro ⟨i, x, _, _, h3, h4⟩
    exact ⟨x, List.mem_of_getElem? h3, h4⟩
  · rintro ⟨x, hx, h4⟩
    obtain ⟨i, hi, rfl⟩ := List.getElem_of_mem hx
    exact ⟨i, l[i], Nat.zero_le _, by omega, List.getElem?_eq_getElem hi, h4⟩
theorem hasG_join (a b : List NdN) (k : Int) (hk : k = 3 ∨ k = 4) (n : Nat) : hasG (joinT a b k) 0 ((joinT a b k).length - 1) n = true ↔ hasG a 0 (a.length - 1) n = true ∨ hasG b 0 (b.length - 1) n = true := by
  rw [hasG_all, hasG_all, hasG_all]
  unfold joinT
  constructor
  · rintro ⟨x, hx, h7, hm⟩
    simp only [List.mem_append, List.mem_map, List.mem_singleton] at hx
    rcases hx with (hx | ⟨y, hy, rfl⟩) | rfl
    · exact .inl ⟨x, hx, h7, hm⟩
    · exact .inr ⟨y, hy, h7, hm⟩
    · simp only at h7; omega
  · rintro (⟨x, hx, h⟩ | ⟨x, hx, h⟩)
    · exact ⟨x, by simp [hx], h⟩
    · exact ⟨shN a.length x, by simp only [List.mem_append, List.mem_map]; exact .inl (.inr ⟨x, hx, rfl⟩), h⟩
/-- **The greatest group of two terms is the greater one of theirs.** -/
theorem top_join (a b : List NdN) (k : Int) (hk : k = 3 ∨ k = 4) : topL (joinT a b k) = if topL a < topL b then topL b else topL a := by
  obtain ⟨j1, j2⟩ := topL_spec (joinT a b k)
  obtain ⟨a1, a2⟩ := topL_spec a
  obtain ⟨b1, b2⟩ := topL_spec b
  have ha : topL a ≤ topL (joinT a b k) := by
    rcases a2 with h | ⟨h1, h2, h3⟩
    · omega
    · exact j1 _ h1 h2 ((hasG_join a b k hk _).2 (.inl h3))
  have hb : topL b ≤ topL (joinT a b k) := by
    rcases b2 with h | ⟨h1, h2, h3⟩
    · omega
    · exact j1 _ h1 h2 ((hasG_join a b k hk _).2 (.inr h3))
  have hj : topL (joinT a b k) ≤ topL a ∨ topL (joinT a b k) ≤ topL b := by
    rcases j2 with h | ⟨h1, h2, h3⟩
    · omega
    · rcases (hasG_join a b k hk _).1 h3 with h | h
      · exact .inl (a1 _ h1 h2 h)
      · exact .inr (b1 _ h1 h2 h)
  split <;> omega
end Go.Proofs.Ytbfcancmljdjhaa

/- Terms, plainly: the first node of each one, step by step. Stage 10. -/
namespace Go.Proofs.Ytbfcancmljdjhaa
open Go.RowKit BS

/-- The first node of what node j is, by the trees ahead of it. -/
def lowV (l : List NdN) (j : Nat) : Nat := match trT l j with | some s => j - (s.take ((psT l).getD j 0)).sum | none => 0
theorem trT_pos (l : List NdN) (i : Nat) (s : List Nat) (h : trT l i = some s) : (∀ z ∈ s, 0 < z) ∧ s.sum = i := by
  obtain ⟨h1, h2⟩ := trT_stack l i s h
  refine ⟨stackF_pos _ [] s (by simp) h2, ?_⟩
  have := stackF_sum _ _ _ h2
  rw [List.length_take, psT_len] at this
  simp at this
  omega
theorem lowV_of (l : List NdN) (j : Nat) (s : List Nat) (h : trT l j = some s) (hj : j < l.length) : lowV l j = j - (s.take (pcT l[j].kind)).sum := by
  have e : (psT l).getD j 0 = pcT l[j].kind := by
    rw [List.getD_eq_getElem?_getD, List.getElem?_eq_getElem (by rw [psT_len]; exact hj), Option.getD_some, psT_get l j hj]
  have e1 : lowV l j = match trT l j with | some s => j - (s.take ((psT l).getD j 0)).sum | none => 0 := rfl
  rw [e1, h, e]
theorem lowV_le (l : List NdN) (j : Nat) : lowV l j ≤ j := by
  unfold lowV
  split
  · exact Nat.sub_le _ _
  · exact Nat.zero_le _
theorem lowV_size (l : List NdN) (i : Nat) (s : List Nat) (h : trT l i = some s) (j : Nat) (hj : j < i) : (sizesF [] ((psT l).take i))[j]? = some (j + 1 - lowV l j) := by
  have hil := (trT_stack l i s h).1
  have hpl := psT_len l
  obtain ⟨t, ht⟩ := trT_before l i s h j (by omega)
  have hts := (trT_stack l j t ht).2
  have hsum := (trT_pos l j t ht).2
  have e : ((psT l).take i).take j = (psT l).take j := by rw [List.take_take, Nat.min_eq_left (by omega)]
  have hr := (roots_at ((psT l).take i) j (by rw [List.length_take]; omega) t (by rw [e]; exact hts)).2.2
  rw [hr, lowV_of l j t ht (by omega), List.getElem_take, psT_get l j (by omega)]
  have := take_sum_le t (pcT l[j].kind)
  congr 1
  omega
/-- Where the trees ahead stand, and where each begins. -/
theorem low_part (l : List NdN) (i : Nat) (s : List Nat) (h : trT l i = some s) (j : Nat) (hj : j < s.length) : (s.take j).sum < i ∧ lowV l (i - 1 - (s.take j).sum) = i - (s.take (j + 1)).sum := by
  have hil := (trT_stack l i s h).1
  have hst := (trT_stack l i s h).2
  have hpl := psT_len l
  have hr := roots_all ((psT l).take i) [] [] s (by simp) (by intro j hj; simp at hj) hst
  rw [List.nil_append] at hr
  obtain ⟨h1, h2⟩ := hr j hj
  have hl : (sizesF [] ((psT l).take i)).length = i := by rw [sizesF_len, List.length_take]; omega
  rw [hl] at h1 h2
  refine ⟨h1, ?_⟩
  rw [lowV_size l i s h _ (by omega)] at h2
  have h3 := Option.some.inj h2
  have h4 := take_sum s j hj
  have h5 := lowV_le l (i - 1 - (s.take j).sum)
  have h6 := (trT_pos l i s h).1 s[j] (List.getElem_mem hj)
  omega
/-- Where A must stand; where node i begins. -/
def atT (l : List NdN) (i : Nat) : Int := if (psT l).getD i 0 = 2 then (lowV l (i - 1) : Int) - 1 else (i : Int) - 1
def loT (l : List NdN) (i : Nat) : Nat := if (psT l).getD i 0 = 0 then i else lowV l (atT l i).toNat
/-- **What is asked of node i.** -/
theorem fine_go (l : List NdN) (i : Nat) (s : List Nat) (h : trT l i = some s) (hi : i < l.length) :
    fineT l s i l[i] = true ↔ kindT l[i] = true ∧ (pcT l[i].kind = 2 → 0 < i ∧ l[i].n = (i : Int) - 1) ∧ (pcT l[i].kind ≠ 0 → 0 ≤ atT l i ∧ l[i].kids = atT l i) ∧ noT l l[i] (loT l i) i = true := by
  have e : (psT l).getD i 0 = pcT l[i].kind := by
    rw [List.getD_eq_getElem?_getD, List.getElem?_eq_getElem (by rw [psT_len]; exact hi), Option.getD_some, psT_get l i hi]
  obtain ⟨hpos, hsum⟩ := trT_pos l i s h
  have hp := fun j hj => low_part l i s h j hj
  unfold fineT loT atT
  rw [e]
  simp only [Bool.and_eq_true, decide_eq_true_eq]
  unfold argT
  generalize hx : l[i] = x at *
  clear hx
  have hpk := pc_kinds x.kind
  obtain _ | ⟨z, s⟩ := s
  · simp only [List.sum_nil] at hsum
    subst hsum
    rcases hpk with c | c | c
    · rw [c]; simp
    · rw [c]; simp
    · rw [c]; simp
  · have hz := hpos z (List.mem_cons_self ..)
    have p0 := hp 0 (by simp)
    simp only [List.take_zero, List.sum_nil, Nat.sub_zero, Nat.zero_add, List.take_succ_cons, List.sum_cons, Nat.add_zero] at p0
    simp only [List.sum_cons] at hsum
    have hi0 : 0 < i := p0.1
    have c1 : ((i - 1 : Nat) : Int) = (i : Int) - 1 := by omega
    rcases hpk with c | c | c
    · rw [c]; simp
    · rw [c]
      simp only [posF, List.getD_cons_zero, List.take_succ_cons, List.take_zero, List.sum_cons, List.sum_nil, Nat.add_zero, List.length_cons]
      rw [if_pos trivial, if_neg (by decide), if_neg (by decide), if_neg (by decide), decide_eq_true_eq, c1, show ((i : Int) - 1).toNat = i - 1 by omega, p0.2]
      constructor
      · rintro ⟨h1, _, h3, h4⟩
        exact ⟨h1, fun h => by omega, fun _ => ⟨by omega, h3⟩, h4⟩
      · rintro ⟨h1, _, h3, h4⟩
        exact ⟨h1, by omega, (h3 (by decide)).2, h4⟩
    · rw [c]
      rw [if_pos rfl, if_pos rfl, if_neg (by decide), p0.2]
      obtain _ | ⟨u, s⟩ := s
      · simp only [List.sum_nil] at hsum
        constructor
        · rintro ⟨_, h2, _⟩
          simp at h2
        · rintro ⟨_, _, h3, _⟩
          have := (h3 (by decide)).1
          omega
      · have hu := hpos u (by simp)
        have p1 := hp 1 (by simp)
        simp only [List.take_succ_cons, List.take_zero, List.sum_cons, List.sum_nil, Nat.add_zero] at p1
        simp only [List.sum_cons] at hsum
        simp only [posF, List.getD_cons_zero, List.getD_cons_succ, List.take_succ_cons, List.take_zero, List.sum_cons, List.sum_nil, Nat.add_zero, List.length_cons]
        rw [decide_eq_true_eq, c1, show (((i - z : Nat) : Int) - 1).toNat = i - 1 - z by omega, p1.2, show ((i - z - 1 : Nat) : Int) = ((i - z : Nat) : Int) - 1 by omega]
        constructor
        · rintro ⟨h1, _, h3, h4⟩
          exact ⟨h1, fun _ => ⟨hi0, h3.1⟩, fun _ => ⟨by omega, h3.2⟩, h4⟩
        · rintro ⟨h1, h2, h3, h4⟩
          exact ⟨h1, by omega, ⟨(h2 (by trivial)).2, (h3 (by decide)).2⟩, h4⟩
/-- It begins there. -/
theorem lowV_lo (l : List NdN) (i : Nat) (s : List Nat) (h : trT l i = some s) (hi : i < l.length) (hf : fineT l s i l[i] = true) : lowV l i = loT l i := by
  have e : (psT l).getD i 0 = pcT l[i].kind := by
    rw [List.getD_eq_getElem?_getD, List.getElem?_eq_getElem (by rw [psT_len]; exact hi), Option.getD_some, psT_get l i hi]
  have hl := fineT_len l s i _ hf
  have hp := fun j hj => low_part l i s h j hj
  obtain ⟨hpos, hsum⟩ := trT_pos l i s h
  rw [lowV_of l i s h hi]
  unfold loT atT
  rw [e]
  rcases pc_kinds l[i].kind with c | c | c
  · rw [c]; simp
  · rw [c] at hl ⊢
    have p0 := hp 0 (by omega)
    rw [if_neg (by decide), if_neg (by decide), show ((i : Int) - 1).toNat = i - 1 by omega]
    simp only [List.take_zero, List.sum_nil, Nat.sub_zero, Nat.zero_add] at p0
    exact p0.2.symm
  · rw [c] at hl ⊢
    have p0 := hp 0 (by omega)
    have p1 := hp 1 (by omega)
    rw [if_neg (by decide), if_pos rfl]
    simp only [List.take_zero, List.sum_nil, Nat.sub_zero, Nat.zero_add] at p0
    rw [p0.2]
    have := take_sum_le s 1
    rw [show (((i - (s.take 1).sum : Nat) : Int) - 1).toNat = i - 1 - (s.take 1).sum by omega]
    exact p1.2.symm
/-- **All is one term, if the last node begins at the first one.** -/
theorem trT_root (l : List NdN) (s : List Nat) (h : trT l l.length = some s) (hl : 0 < l.length) : s = [l.length] ↔ lowV l (l.length - 1) = 0 := by
  obtain ⟨hpos, hsum⟩ := trT_pos l _ s h
  obtain _ | ⟨z, s⟩ := s
  · simp at hsum; omega
  · have p0 := low_part l _ _ h 0 (by simp)
    simp only [List.take_zero, List.sum_nil, Nat.sub_zero, Nat.zero_add, List.take_succ_cons, List.sum_cons, Nat.add_zero] at p0
    simp only [List.sum_cons] at hsum
    rw [p0.2]
    constructor
    · intro e
      cases e
      omega
    · intro e
      have : s = [] := by
        cases s with
        | nil => rfl
        | cons u s =>
          have := hpos u (by simp)
          simp only [List.sum_cons] at hsum
          omega
      subst this
      simp only [List.sum_nil] at hsum
      rw [show z = l.length by omega]
theorem lowT_V (l : List NdN) (h : TermQ l) (i : Nat) (hi : i < l.length) : lowT l i = (lowV l i : Int) := by
  obtain ⟨h1, h2, h3⟩ := of_decide_eq_true (q_right l h)
  have hs := lowV_size l _ _ h1 i hi
  rw [List.take_of_length_le (by rw [psT_len]; exact Nat.le_refl _)] at hs
  have hf := formed_as l h
  have hR := (formed_stack (asL l) hf).2.2.2.2
  unfold lowT
  rw [List.getD_eq_getElem?_getD, hR, List.getElem?_map, ksN_as, hs]
  have := lowV_le l i
  show (i : Int) + 1 - ((i + 1 - lowV l i : Nat) : Int) = _
  omega
end Go.Proofs.Ytbfcancmljdjhaa

/- A term's nodes, their parts, and where they begin, plainly. -/
namespace Go.Proofs.Ytbfcancmljdjhaa
open Go.RowKit BS

theorem kindT_no (x : NdN) (h : kindT x = true) : (pcT x.kind = 0 → x.kids = -1) ∧ (pcT x.kind ≠ 2 → x.n = -1) := by
  unfold kindT at h
  obtain ⟨_, _, _, _, _, h6, h7⟩ := of_decide_eq_true h
  exact ⟨h6, h7⟩
theorem psT_getD (l : List NdN) (i : Nat) (hi : i < l.length) : (psT l).getD i 0 = pcT l[i].kind := by
  rw [List.getD_eq_getElem?_getD, List.getElem?_eq_getElem (by rw [psT_len]; exact hi), Option.getD_some, psT_get l i hi]
theorem tr_at (l : List NdN) (hr : rightT l = true) (i : Nat) (hi : i < l.length) : ∃ s, trT l i = some s ∧ fineT l s i l[i] = true := by
  obtain ⟨h1, _, _⟩ := of_decide_eq_true hr
  obtain ⟨s', hs'⟩ := trT_before l _ _ h1 (i + 1) hi
  obtain ⟨s0, h4, _, h5, _⟩ := trT_step l i s' hs'
  exact ⟨s0, h4, h5⟩
/-- **A node's parts, and where they begin.** -/
theorem low_parts (l : List NdN) (hr : rightT l = true) (i : Nat) (hi : i < l.length) :
    (l[i].kids = -1 ∧ l[i].n = -1 ∧ partsT l i = [] ∧ lowV l i = i) ∨
    (∃ a : Nat, l[i].kids = a ∧ l[i].n = -1 ∧ partsT l i = [(a : Int)] ∧ a + 1 = i ∧ lowV l a = lowV l i) ∨
    (∃ a b : Nat, l[i].kids = a ∧ l[i].n = b ∧ partsT l i = [(a : Int), (b : Int)] ∧ b + 1 = i ∧ a + 1 = lowV l b ∧ lowV l a = lowV l i ∧ a < i) := by
  have hq := rightT_q l hr
  obtain ⟨s, hs, hf⟩ := tr_at l hr i hi
  obtain ⟨hk, h2, h3, _⟩ := (fine_go l i s hs hi).1 hf
  have hlo := lowV_lo l i s hs hi hf
  have hp := parts_as l hq i hi
  obtain ⟨k0, k2⟩ := kindT_no l[i] hk
  unfold loT atT at hlo
  unfold atT at h3
  rw [psT_getD l i hi] at hlo h3
  unfold partsT
  rcases pc_kinds l[i].kind with c | c | c
  · rw [c, if_neg (by decide), if_neg (by decide)] at hp
    rw [c, if_pos rfl] at hlo
    exact .inl ⟨k0 c, k2 (by omega), hp, hlo⟩
  · rw [c, if_neg (by decide), if_pos rfl] at hp
    rw [c, if_neg (by decide), if_neg (by decide)] at hlo
    rw [c, if_neg (by decide)] at h3
    obtain ⟨h4, h5⟩ := h3 (by decide)
    refine .inr (.inl ⟨i - 1, by omega, k2 (by omega), by rw [hp, h5]; congr 1; omega, by omega, ?_⟩)
    rw [hlo]
    congr 1
    omega
  · rw [c, if_pos rfl] at hp
    rw [c, if_neg (by decide), if_pos rfl] at hlo
    rw [c, if_pos rfl] at h3
    obtain ⟨h4, h5⟩ := h3 (by decide)
    obtain ⟨h6, h7⟩ := h2 c
    have hle := lowV_le l (i - 1)
    refine .inr (.inr ⟨lowV l (i - 1) - 1, i - 1, by omega, by omega, by rw [hp, h5, h7, show ((lowV l (i - 1) - 1 : Nat) : Int) = (lowV l (i - 1) : Int) - 1 by omega, show ((i - 1 : Nat) : Int) = (i : Int) - 1 by omega], by omega, by omega, ?_, by omega⟩)
    rw [hlo]
    congr 1
    omega
/-- How many parts a node has. -/
theorem parts_kind (l : List NdN) (h : TermQ l) (i : Nat) (hi : i < l.length) : (partsT l i).length = pcT l[i].kind := by
  unfold partsT
  rw [parts_as l h i hi]
  rcases pc_kinds l[i].kind with c | c | c <;> rw [c] <;> rfl
end Go.Proofs.Ytbfcancmljdjhaa

/- What of a term can be nothing, its steps, its shortest word, plainly. Stage 12. -/
namespace Go.Proofs.Ytbfcancmljdjhaa
open Go.RowKit BS

/-- A node's kind, its parts, and where they begin. -/
theorem nodek_parts (l : List NdN) (hr : rightT l = true) (i : Nat) (hi : i < l.length) :
    (pcT l[i].kind = 0 ∧ l[i].kids = -1 ∧ l[i].n = -1 ∧ lowV l i = i) ∨
    (∃ a : Nat, pcT l[i].kind = 1 ∧ l[i].kids = a ∧ l[i].n = -1 ∧ a + 1 = i ∧ lowV l a = lowV l i) ∨
    (∃ a b : Nat, pcT l[i].kind = 2 ∧ l[i].kids = a ∧ l[i].n = b ∧ b + 1 = i ∧ a + 1 = lowV l b ∧ lowV l a = lowV l i ∧ a < i) := by
  have hk := parts_kind l (rightT_q l hr) i hi
  rcases low_parts l hr i hi with ⟨h1, h2, h3, h4⟩ | ⟨a, h1, h2, h3, h4, h5⟩ | ⟨a, b, h1, h2, h3, h4, h5, h6, h7⟩
  · rw [h3] at hk
    exact .inl ⟨hk.symm, h1, h2, h4⟩
  · rw [h3] at hk
    exact .inr (.inl ⟨a, hk.symm, h1, h2, h4, h5⟩)
  · rw [h3] at hk
    exact .inr (.inr ⟨a, b, hk.symm, h1, h2, h4, h5, h6, h7⟩)
theorem kind_range (l : List NdN) (hr : rightT l = true) (i : Nat) (hi : i < l.length) : 1 ≤ l[i].kind ∧ l[i].kind ≤ 8 := by
  obtain ⟨s, hs, hf⟩ := tr_at l hr i hi
  obtain ⟨hk, _⟩ := (fine_go l i s hs hi).1 hf
  unfold kindT at hk
  have := of_decide_eq_true hk
  exact ⟨this.1, this.2.1⟩
theorem pc_zero {k : Int} (h : pcT k = 0) (h1 : 1 ≤ k) (h8 : k ≤ 8) : k = 1 ∨ k = 2 := by
  unfold pcT at h
  split at h
  · cases h
  · split at h
    · cases h
    · omega
theorem pc_one {k : Int} (h : pcT k = 1) : k = 5 ∨ k = 6 ∨ k = 7 ∨ k = 8 := by
  unfold pcT at h
  split at h
  · cases h
  · split at h
    · omega
    · cases h
theorem pc_two {k : Int} (h : pcT k = 2) : k = 3 ∨ k = 4 := by
  unfold pcT at h
  split at h
  · assumption
  · split at h <;> cases h

/-! ### Told node by node, of what is told of the nodes ahead -/
section
variable {α : Type} (d : α) (E : (Nat → α) → NdN → α)
def recL (l : List NdN) : Nat → List α
  | 0 => []
  | i + 1 => recL l i ++ [match l[i]? with | some x => E (fun k => (recL l i).getD k d) x | none => d]
def recF (l : List NdN) (i : Nat) : α := (recL d E l l.length).getD i d
theorem recL_len (l : List NdN) : ∀ i, (recL d E l i).length = i
  | 0 => rfl
  | i + 1 => by rw [recL, List.length_append, recL_len l i]; rfl
theorem recL_getD (l : List NdN) (i j : Nat) (h : j < i) : ∀ k, i ≤ k → (recL d E l k).getD j d = (recL d E l i).getD j d
  | 0, hk => by omega
  | k + 1, hk => by
    rcases Nat.lt_or_ge i (k + 1) with h1 | h1
    · rw [recL, List.getD_eq_getElem?_getD, List.getElem?_append_left (by rw [recL_len]; omega), ← List.getD_eq_getElem?_getD]
      exact recL_getD l i j h k (by omega)
    · obtain rfl : i = k + 1 := by omega
      rfl
theorem recL_last (l : List NdN) (i : Nat) (hi : i < l.length) : (recL d E l (i + 1)).getD i d = E (fun k => (recL d E l i).getD k d) l[i] := by
  rw [recL, List.getD_eq_getElem?_getD, List.getElem?_append_right (by rw [recL_len]; exact Nat.le_refl _), recL_len, Nat.sub_self, List.getElem?_eq_getElem hi]
  rfl
/-- What is told hangs on nothing but the parts. -/
def Local (E : (Nat → α) → NdN → α) : Prop := ∀ (f g : Nat → α) (x : NdN), (pcT x.kind ≠ 0 → f x.kids.toNat = g x.kids.toNat) → (pcT x.kind = 2 → f x.n.toNat = g x.n.toNat) → E f x = E g x
theorem recF_eq (hE : Local E) (l : List NdN) (hr : rightT l = true) (i : Nat) (hi : i < l.length) : recF d E l i = E (recF d E l) l[i] := by
  unfold recF
  rw [recL_getD d E l (i + 1) i (Nat.lt_succ_self i) l.length hi, recL_last d E l i hi]
  have key : ∀ k, k < i → (recL d E l i).getD k d = (recL d E l l.length).getD k d := fun k hk => (recL_getD d E l i k hk l.length (by omega)).symm
  rcases nodek_parts l hr i hi with ⟨h0, _⟩ | ⟨a, h0, h1, h2, h3, _⟩ | ⟨a, b, h0, h1, h2, h3, h4, h5, h6⟩
  · exact hE _ _ _ (fun h => absurd h0 h) (fun h => by omega)
  · exact hE _ _ _ (fun _ => key _ (by rw [h1]; omega)) (fun h => by omega)
  · exact hE _ _ _ (fun _ => key _ (by rw [h1]; omega)) (fun _ => key _ (by rw [h2]; omega))
end
/-! ### What can be nothing -/
def canE (f : Nat → Bool) (x : NdN) : Bool :=
  if x.kind = 1 ∨ x.kind = 5 ∨ x.kind = 6 then true
  else if x.kind = 3 then f x.kids.toNat && f x.n.toNat
  else if x.kind = 4 then f x.kids.toNat || f x.n.toNat
  else if x.kind = 7 ∨ x.kind = 8 then f x.kids.toNat
  else false
def canL (l : List NdN) : Nat → List Bool := recL false canE l
def canF (l : List NdN) : Nat → Bool := recF false canE l
/-- What Can tells. -/
def canT (l : List NdN) : List Bool := if rightT l = true then canL l l.length else []
theorem can_local : Local canE := fun f g x h1 h2 => by
  unfold canE
  split
  · rfl
  · split
    · rename_i h
      rw [h1 (by rw [h]; decide), h2 (by rw [h]; decide)]
    · split
      · rename_i h
        rw [h1 (by rw [h]; decide), h2 (by rw [h]; decide)]
      · split
        · rename_i h
          rw [h1 (by rcases h with h | h <;> rw [h] <;> decide)]
        · rfl
theorem can_eq (l : List NdN) (hr : rightT l = true) (i : Nat) (hi : i < l.length) : canF l i = canE (canF l) l[i] := recF_eq false canE can_local l hr i hi
theorem canT_len (l : List NdN) (hr : rightT l = true) : (canT l).length = l.length := by
  unfold canT
  rw [if_pos hr]
  exact recL_len _ _ _ _
theorem canT_get (l : List NdN) (hr : rightT l = true) (i : Nat) (hi : i < l.length) : (canT l)[i]? = some (canF l i) := by
  have h : i < (canT l).length := by rw [canT_len l hr]; exact hi
  have e : canF l i = (canT l).getD i false := by unfold canT; rw [if_pos hr]; rfl
  rw [e, List.getD_eq_getElem?_getD, List.getElem?_eq_getElem h]
  rfl
/-! ### The shortest word -/
def nxB (t : BitVec 256) : Option Nat := (List.range 256).find? fun j => t.getLsbD j
/-- Is the first one shorter, or as short and less? -/
def btr (a b : List Nat) : Bool := if a.length ≠ b.length then decide (a.length < b.length) else decide (a < b)
def wdE (f : Nat → Option (List Nat)) (x : NdN) : Option (List Nat) :=
  if x.kind = 1 ∨ x.kind = 5 ∨ x.kind = 6 then some []
  else if x.kind = 2 then (nxB x.set).map fun b => [b]
  else if x.kind = 3 then (f x.kids.toNat).bind fun a => (f x.n.toNat).map fun b => a ++ b
  else if x.kind = 4 then (match f x.kids.toNat, f x.n.toNat with | none, y => y | some a, none => some a | some a, some b => if btr b a = true then some b else some a)
  else if x.kind = 7 ∨ x.kind = 8 then f x.kids.toNat
  else none
def wdF (l : List NdN) : Nat → Option (List Nat) := recF none wdE l
/-- What Word tells. -/
def wordT (l : List NdN) : Option (List Nat) := if rightT l = true then wdF l (l.length - 1) else none
theorem wd_local : Local wdE := fun f g x h1 h2 => by
  unfold wdE
  split
  · rfl
  · split
    · rfl
    · split
      · rename_i h
        rw [h1 (by rw [h]; decide), h2 (by rw [h]; decide)]
      · split
        · rename_i h
          rw [h1 (by rw [h]; decide), h2 (by rw [h]; decide)]
        · split
          · rename_i h
            rw [h1 (by rcases h with h | h <;> rw [h] <;> decide)]
          · rfl
theorem wd_eq (l : List NdN) (hr : rightT l = true) (i : Nat) (hi : i < l.length) : wdF l i = wdE (wdF l) l[i] := recF_eq none wdE wd_local l hr i hi
theorem btr_nil (a : List Nat) : btr a [] = false := by
  unfold btr
  cases a <;> simp
theorem nil_btr (a : List Nat) (h : a ≠ []) : btr [] a = true := by
  unfold btr
  cases a <;> simp_all
/-- **A node can be nothing just if its shortest word is no byte.** -/
theorem can_word (l : List NdN) (hr : rightT l = true) : ∀ i, i < l.length → (canF l i = true ↔ wdF l i = some []) := fun i => by
  induction i using Nat.strongRecOn with
  | ind i ih =>
    intro hi
    rw [can_eq l hr i hi, wd_eq l hr i hi]
    obtain ⟨k1, k8⟩ := kind_range l hr i hi
    unfold canE wdE
    rcases nodek_parts l hr i hi with ⟨h0, _⟩ | ⟨a, h0, h1, h2, h3, _⟩ | ⟨a, b, h0, h1, h2, h3, h4, h5, h6⟩
    · rcases pc_zero h0 k1 k8 with h | h
      · rw [if_pos (.inl h), if_pos (.inl h)]
        simp
      · rw [h]
        cases nxB l[i].set <;> simp
    · have iha := ih a (by omega) (by omega)
      have e : l[i].kids.toNat = a := by rw [h1]; omega
      rcases pc_one h0 with h | h | h | h <;> rw [h, e] <;> simp [iha]
    · have iha := ih a h6 (by omega)
      have ihb := ih b (by omega) (by omega)
      have ea : l[i].kids.toNat = a := by rw [h1]; omega
      have eb : l[i].n.toNat = b := by rw [h2]; omega
      rcases pc_two h0 with h | h
      · rw [h, ea, eb]
        simp only [Int.reduceEq, or_self, if_false, if_true, Bool.and_eq_true, iha, ihb]
        cases wdF l a <;> cases wdF l b <;> simp
      · rw [h, ea, eb]
        simp only [Int.reduceEq, or_self, if_false, if_true, Bool.or_eq_true, iha, ihb]
        cases hA : wdF l a with
        | none => cases wdF l b <;> simp
        | some x =>
          cases hB : wdF l b with
          | none => simp
          | some y =>
            simp only [Option.some.injEq]
            by_cases hx : x = []
            · subst hx; rw [btr_nil]; simp
            · by_cases hy : y = []
              · subst hy; rw [nil_btr x hx]; simp
              · by_cases hb : btr y x = true <;> simp [hb, hx, hy]
end Go.Proofs.Ytbfcancmljdjhaa

/- Words, plainly: they are bytes, no longer than there are nodes; which one is less. Stage 12. -/
namespace Go.Proofs.Ytbfcancmljdjhaa
open Go.RowKit BS

theorem nx_lt {t : BitVec 256} {b : Nat} (h : nxB t = some b) : b < 256 := by
  unfold nxB at h
  exact List.mem_range.1 (List.mem_of_find?_eq_some h)
theorem next_nx (t : BitVec 256) : nextOf t.getLsbD 0 = match nxB t with | some b => (b : Int) | none => -1 := by
  unfold nextOf nxB
  have e : (fun j => decide (0 ≤ j) && t.getLsbD j) = fun j => t.getLsbD j := by funext j; simp
  rw [e]
  cases List.find? (fun j => t.getLsbD j) (List.range 256) <;> rfl
theorem wd_small (l : List NdN) (hr : rightT l = true) : ∀ i, i < l.length → ∀ L, wdF l i = some L → (∀ x ∈ L, x < 256) ∧ L.length ≤ i + 1 - lowV l i := fun i => by
  induction i using Nat.strongRecOn with
  | ind i ih =>
    intro hi L hL
    rw [wd_eq l hr i hi] at hL
    obtain ⟨k1, k8⟩ := kind_range l hr i hi
    have hlow := lowV_le l i
    unfold wdE at hL
    rcases nodek_parts l hr i hi with ⟨h0, _⟩ | ⟨a, h0, h1, h2, h3, h4⟩ | ⟨a, b, h0, h1, h2, h3, h4, h5, h6⟩
    · rcases pc_zero h0 k1 k8 with h | h
      · rw [if_pos (.inl h)] at hL
        obtain rfl := Option.some.inj hL
        exact ⟨by simp, by simp⟩
      · rw [if_neg (by omega), if_pos h] at hL
        obtain ⟨b, hb, rfl⟩ := Option.map_eq_some_iff.1 hL
        refine ⟨fun x hx => ?_, by simp; omega⟩
        rw [List.mem_singleton.1 hx]
        exact nx_lt hb
    · have e : l[i].kids.toNat = a := by rw [h1]; omega
      have hla := lowV_le l a
      rcases pc_one h0 with h | h | h | h
      · rw [if_pos (by omega)] at hL
        obtain rfl := Option.some.inj hL
        exact ⟨by simp, by simp⟩
      · rw [if_pos (by omega)] at hL
        obtain rfl := Option.some.inj hL
        exact ⟨by simp, by simp⟩
      all_goals
        rw [if_neg (by omega), if_neg (by omega), if_neg (by omega), if_neg (by omega), if_pos (by omega), e] at hL
        obtain ⟨h5, h6⟩ := ih a (by omega) (by omega) L hL
        exact ⟨h5, by omega⟩
    · have ea : l[i].kids.toNat = a := by rw [h1]; omega
      have eb : l[i].n.toNat = b := by rw [h2]; omega
      have hla := lowV_le l a
      have hlb := lowV_le l b
      rcases pc_two h0 with h | h
      · rw [if_neg (by omega), if_neg (by omega), if_pos h, ea, eb] at hL
        obtain ⟨A, hA, hL⟩ := Option.bind_eq_some_iff.1 hL
        obtain ⟨B, hB, rfl⟩ := Option.map_eq_some_iff.1 hL
        obtain ⟨p1, p2⟩ := ih a h6 (by omega) A hA
        obtain ⟨q1, q2⟩ := ih b (by omega) (by omega) B hB
        refine ⟨fun x hx => (List.mem_append.1 hx).elim (p1 x) (q1 x), ?_⟩
        rw [List.length_append]
        omega
      · rw [if_neg (by omega), if_neg (by omega), if_neg (by omega), if_pos h, ea, eb] at hL
        have fa : ∀ A, wdF l a = some A → (∀ x ∈ A, x < 256) ∧ A.length ≤ i + 1 - lowV l i := fun A hA => by
          obtain ⟨p1, p2⟩ := ih a h6 (by omega) A hA
          exact ⟨p1, by omega⟩
        have fb : ∀ B, wdF l b = some B → (∀ x ∈ B, x < 256) ∧ B.length ≤ i + 1 - lowV l i := fun B hB => by
          obtain ⟨p1, p2⟩ := ih b (by omega) (by omega) B hB
          exact ⟨p1, by omega⟩
        cases hA : wdF l a with
        | none =>
          rw [hA] at hL
          exact fb L hL
        | some A =>
          rw [hA] at hL
          cases hB : wdF l b with
          | none =>
            rw [hB] at hL
            obtain rfl := Option.some.inj hL
            exact fa _ hA
          | some B =>
            rw [hB] at hL
            simp only at hL
            split at hL
            · obtain rfl := Option.some.inj hL
              exact fb _ hB
            · obtain rfl := Option.some.inj hL
              exact fa _ hA
/-- What node i's word is, if there is one. -/
def wdL (l : List NdN) (i : Nat) : List Nat := (wdF l i).getD []
def wdI (l : List NdN) (i : Nat) : Bool := (wdF l i).isSome
theorem wdL_len (l : List NdN) (hr : rightT l = true) (i : Nat) (hi : i < l.length) : (wdL l i).length ≤ l.length := by
  unfold wdL
  cases h : wdF l i with
  | none => simp
  | some L =>
    have := (wd_small l hr i hi L h).2
    show L.length ≤ _
    omega
theorem wdL_lt (l : List NdN) (hr : rightT l = true) (i : Nat) (hi : i < l.length) : ∀ x ∈ wdL l i, x < 256 := by
  unfold wdL
  cases h : wdF l i with
  | none => simp
  | some L => exact (wd_small l hr i hi L h).1
theorem wd_none (l : List NdN) (i : Nat) (h : wdI l i = false) : wdL l i = [] := by
  unfold wdI at h
  unfold wdL
  cases hw : wdF l i with
  | none => rfl
  | some L => rw [hw] at h; cases h
theorem wd_some (l : List NdN) (i : Nat) (h : wdI l i = true) : wdF l i = some (wdL l i) := by
  unfold wdI at h
  unfold wdL
  cases hw : wdF l i with
  | none => rw [hw] at h; cases h
  | some L => rfl
/-- By a node's kind: what its word is. -/
theorem wd_nil (l : List NdN) (hr : rightT l = true) (i : Nat) (hi : i < l.length) (h : l[i].kind = 1 ∨ l[i].kind = 5 ∨ l[i].kind = 6) : wdL l i = [] ∧ wdI l i = true := by
  unfold wdL wdI
  rw [wd_eq l hr i hi]
  unfold wdE
  rw [if_pos h]
  exact ⟨rfl, rfl⟩
theorem wd_leaf (l : List NdN) (hr : rightT l = true) (i : Nat) (hi : i < l.length) (h : l[i].kind = 2) : (∃ b, nxB l[i].set = some b ∧ b < 256 ∧ wdL l i = [b] ∧ wdI l i = true) ∨ (nxB l[i].set = none ∧ wdL l i = [] ∧ wdI l i = false) := by
  unfold wdL wdI
  rw [wd_eq l hr i hi]
  unfold wdE
  rw [if_neg (by omega), if_pos h]
  cases hn : nxB l[i].set with
  | none => exact .inr ⟨rfl, rfl, rfl⟩
  | some b => exact .inl ⟨b, rfl, nx_lt hn, rfl, rfl⟩
theorem wd_same (l : List NdN) (hr : rightT l = true) (i : Nat) (hi : i < l.length) (h : l[i].kind = 7 ∨ l[i].kind = 8) (a : Nat) (ha : l[i].kids = a) : wdL l i = wdL l a ∧ wdI l i = wdI l a := by
  unfold wdL wdI
  rw [wd_eq l hr i hi]
  unfold wdE
  rw [if_neg (by omega), if_neg (by omega), if_neg (by omega), if_neg (by omega), if_pos h, ha, Int.toNat_natCast]
  exact ⟨rfl, rfl⟩
theorem wd_cat (l : List NdN) (hr : rightT l = true) (i : Nat) (hi : i < l.length) (h : l[i].kind = 3) (a b : Nat) (ha : l[i].kids = a) (hb : l[i].n = b) : wdI l i = (wdI l a && wdI l b) ∧ wdL l i = (if wdI l a = true ∧ wdI l b = true then wdL l a ++ wdL l b else []) := by
  unfold wdL wdI
  rw [wd_eq l hr i hi]
  unfold wdE
  rw [if_neg (by omega), if_neg (by omega), if_pos h, ha, hb, Int.toNat_natCast, Int.toNat_natCast]
  cases wdF l a <;> cases wdF l b <;> simp
theorem wd_alt (l : List NdN) (hr : rightT l = true) (i : Nat) (hi : i < l.length) (h : l[i].kind = 4) (a b : Nat) (ha : l[i].kids = a) (hb : l[i].n = b) :
    wdI l i = (wdI l a || wdI l b) ∧ wdL l i = (if wdI l b = true ∧ (wdI l a = false ∨ btr (wdL l b) (wdL l a) = true) then wdL l b else wdL l a) := by
  unfold wdL wdI
  rw [wd_eq l hr i hi]
  unfold wdE
  rw [if_neg (by omega), if_neg (by omega), if_neg (by omega), if_pos h, ha, hb, Int.toNat_natCast, Int.toNat_natCast]
  cases wdF l a <;> cases hB : wdF l b <;> simp
  rename_i A B
  cases hbt : btr B A <;> simp
/-- Of rows of bytes as texts: which one is less. -/
theorem less_ofT : ∀ (L M : List Nat), (∀ x ∈ L, x < 256) → (∀ x ∈ M, x < 256) → Op.bytesLess (L.map UInt8.ofNat) (M.map UInt8.ofNat) = decide (L < M)
  | [], [], _, _ => by simp [Op.bytesLess]
  | x :: L, [], _, _ => by simp [Op.bytesLess]
  | [], y :: M, _, _ => by simp [Op.bytesLess]
  | x :: L, y :: M, hL, hM => by
    have ih := less_ofT L M (fun z hz => hL z (List.mem_cons_of_mem _ hz)) (fun z hz => hM z (List.mem_cons_of_mem _ hz))
    have hx := hL x List.mem_cons_self
    have hy := hM y List.mem_cons_self
    rw [List.map_cons, List.map_cons, Op.bytesLess, ih]
    have e1 : (UInt8.ofNat x < UInt8.ofNat y) ↔ x < y := by
      rw [UInt8.lt_iff_toNat_lt]
      simp
      omega
    have e2 : (UInt8.ofNat x = UInt8.ofNat y) ↔ x = y := by
      rw [← UInt8.toNat_inj]
      simp
      omega
    rw [Bool.eq_iff_iff]
    simp only [Bool.or_eq_true, Bool.and_eq_true, decide_eq_true_eq, beq_iff_eq, e1, e2, List.cons_lt_cons_iff]
theorem toL_ofT (L : List Nat) : (ofT L).toList = L.map UInt8.ofNat := by
  rw [ByteArray.toList_eq]
  unfold ofT
  simp
end Go.Proofs.Ytbfcancmljdjhaa

/- Rows of bytes in memory; the document's better. Stage 12. -/
namespace Go.Proofs.Ytbfcancmljdjhaa
open Go.RowKit BS

/-- A row of bytes, as a value. -/
def RowV (L : List Nat) (v : Value) (W : World) : Prop :=
  (v = .slice none 0 0 ∧ L = []) ∨ ∃ g o c, v = .slice (some ⟨g, o, none⟩) L.length c ∧ g < W.heap.size ∧ ∀ i (h : i < L.length), W.cell? ⟨g, o + i, none⟩ = some (.int .u8 (L[i] : Nat))
theorem RowV.below {L : List Nat} {v : Value} {W W' : World} (h : RowV L v W) (hb : Below W.heap.size W W') : RowV L v W' := by
  rcases h with h | ⟨g, o, c, e, hg, hc⟩
  · exact .inl h
  · exact .inr ⟨g, o, c, e, Nat.lt_of_lt_of_le hg hb.size, fun i hi => (hb.cell (p := ⟨g, o + i, none⟩) hg).trans (hc i hi)⟩
theorem RowV.form {L : List Nat} {v : Value} {W : World} (h : RowV L v W) : ∃ a c, v = .slice a L.length c := by
  rcases h with ⟨rfl, rfl⟩ | ⟨g, o, c, rfl, _⟩
  · exact ⟨none, 0, rfl⟩
  · exact ⟨_, c, rfl⟩
theorem RowV.nil (W : World) : RowV [] (.slice none 0 0) W := .inl ⟨rfl, rfl⟩
/-- A row as a text. -/
theorem RowV.text {L : List Nat} {v : Value} {W : World} (h : RowV L v W) : (convert 33 9 v).run Try.prog W = .ok (.string (ofT L)) W := by
  rcases h with ⟨rfl, rfl⟩ | ⟨g, o, c, rfl, hg, hc⟩
  · exact run_convert_bytes_nil (P := Try.prog) W 33 5 Try.underlying33 Try.underlying5 0 0 9 Try.underlying9
  · rw [← numsT L]
    refine run_convert_bytes_arg (P := Try.prog) W 33 5 Try.underlying33 Try.underlying5 g o L.length c _ (by simp) (fun i hi => ?_) 9 Try.underlying9
    rw [hc i hi]
    simp [List.getD_eq_getElem?_getD, List.getElem?_map, List.getElem?_eq_getElem hi]
theorem RowV.one (W : World) (b : Nat) (t : TypeId) : RowV [b] (.slice (some ⟨W.heap.size, 0, none⟩) 1 1) (W.alloc (.cells #[.int .u8 (b : Nat)] t)) :=
  .inr ⟨W.heap.size, 0, 1, rfl, by simp, fun i hi => by
    have hi' : i < 1 := hi
    obtain rfl : i = 0 := by omega
    exact (Blk.new W #[.int .u8 (b : Nat)] t).cell 0⟩
end Go.Proofs.Ytbfcancmljdjhaa

/- Rows of bytes of the call's own; append; two tables of rows and of marks. Stage 12. -/
namespace Go.Proofs.Ytbfcancmljdjhaa
open Go.RowKit BS

/-- A row of bytes of the call's own. -/
def OwB (base : Nat) (v : Value) (L : List Nat) (W : World) : Prop := W.ownsRow base 5 1 v L.length (L.map fun s => Value.int .u8 (s : Nat))
theorem OwB.below {base : Nat} {v : Value} {L : List Nat} {W W' : World} (h : OwB base v L W) (k : Below W.heap.size W W') : OwB base v L W' :=
  owns_keep h fun g hg => k.block g (World.ownsRow.lt h g hg).2
theorem OwB.nil (W : World) (base : Nat) : OwB base (.slice none 0 0) [] W := World.ownsRow_nil _ _ _ _
theorem OwB.empty (W : World) (base : Nat) (hb : base ≤ W.heap.size) : OwB base (.slice (some ⟨W.heap.size, 0, none⟩) 0 0) [] (W.alloc (.cells #[] 5)) :=
  World.ownsRow_lit W #[] 0 hb (by decide) rfl
theorem OwB.from {b b' : Nat} {v : Value} {L : List Nat} {W : World} (h : OwB b v L W) (hb : b' ≤ b) : OwB b' v L W := by
  refine ⟨h.1, ?_⟩
  rcases h.2 with hn | ⟨g, c, cur, e, h1, h2⟩
  · exact .inl hn
  · exact .inr ⟨g, c, cur, e, Nat.le_trans hb h1, h2⟩
theorem OwB.row {base : Nat} {v : Value} {L : List Nat} {W : World} (h : OwB base v L W) : RowV L v W := by
  have h0 := h
  rcases h.2 with ⟨e, h1⟩ | ⟨g, c, cur, rfl, hb, hg, _⟩
  · exact .inl ⟨e, List.eq_nil_of_length_eq_zero h1⟩
  · refine .inr ⟨g, 0, c, rfl, (Array.getElem?_eq_some_iff.1 hg).1, fun i hi => ?_⟩
    rw [Nat.zero_add]
    refine (World.ownsRow.cellAt h0 i (by omega)).trans ?_
    simp [List.getElem?_eq_getElem hi]
theorem infoU12 : (Try.prog.info? 5).map (fun i => (i.zero, i.size, i.bytes)) = some (some (.int .u8 0), 1, 1) := by kernel_rfl
/-- A row of bytes behind one of the call's own. -/
theorem run_app {base : Nat} {v u : Value} {L M : List Nat} {W : World} (h : OwB base v L W) (r : RowV M u W) (hn : L.length + M.length ≤ 100000) (hb : base ≤ W.heap.size) (ty : TypeId) :
    ∃ v' W', (Builtin.append_ #[33, 33] ty #[v, u]).run Try.prog W = .ok v' W' ∧ OwB base v' (L ++ M) W' ∧ W.grownBy W' v.ownBlock := by
  obtain ⟨i0, hinf, hzz⟩ := Option.map_eq_some_iff.1 infoU12
  simp only [Prod.mk.injEq] at hzz
  obtain ⟨hz0, hz1, hz2⟩ := hzz
  rcases r with ⟨rfl, rfl⟩ | ⟨g, o, c, rfl, hg, hc⟩
  · refine ⟨v, W, run_append_owned_none (P := Try.prog) (w := W) base 33 ty 5 i0 1 Try.underlying33 hinf v L.length _ h, by rw [List.append_nil]; exact h, ⟨rfl, rfl, rfl, Nat.le_refl _, fun _ _ _ => rfl⟩⟩
  · obtain ⟨v', w', hr, h2, h3, _⟩ := run_append_own (P := Try.prog) W base 33 ty 5 i0 (.int .u8 0) 1 1 Try.underlying33 hinf hz0 hz1 hz2 rfl (by decide) v L.length _ h ⟨g, o, none⟩ M.length c (M.map fun s => Value.int .u8 (s : Nat)) (by simp) (fun j x hj => by
      have hlt := (List.getElem?_eq_some_iff.1 hj).1
      rw [List.length_map] at hlt
      have e2 : (⟨g, o, none⟩ : Addr).add j = ⟨g, o + j, none⟩ := by
        unfold Addr.add
        split
        · subst j; rfl
        · rfl
      rw [e2, hc j hlt]
      rw [List.getElem?_map, List.getElem?_eq_getElem hlt] at hj
      exact hj) (fun x hx => by obtain ⟨s, _, rfl⟩ := List.mem_map.1 hx; rfl) (by unfold maxLen; omega) (by omega) hb
    refine ⟨v', w', hr, ?_, h3⟩
    unfold OwB
    rw [List.length_append, List.map_append]
    exact h2
theorem exec_app {v u v' : Value} {W W' : World} {o : Oper} {a : Act} {s x : Operand} (ho : o.op = .call { callee := .builtin .append, args := #[s, x], argTypes := #[33, 33] }) (hs : a.eval s = v) (hx : a.eval x = u)
    (hr : (Builtin.append_ #[33, 33] o.type #[v, u]).run Try.prog W = .ok v' W') : (execOp a.eval o).run Try.prog W = .ok (.value v') W' := by
  unfold execOp
  simp only [ho, resolve, invoke, builtin, Sem.run_bind, Sem.run_pure, Result.andThen_ok, List.map_toArray, List.map_cons, List.map_nil, hs, hx, hr]
theorem wp_app {base : Nat} {v u : Value} {L M : List Nat} {W : World} {o : Oper} {a : Act} {K : Act → World → Prop} {Q : Exit → Act → World → Prop} (s x : Operand)
    (ho : o.op = .call { callee := .builtin .append, args := #[s, x], argTypes := #[33, 33] }) (hs : a.eval s = v) (hx : a.eval x = u)
    (h : OwB base v L W) (r : RowV M u W) (hn : L.length + M.length ≤ 100000) (hb : base ≤ W.heap.size)
    (H : ∀ v' w', OwB base v' (L ++ M) w' → W.grownBy w' v.ownBlock → K (a.put o.dst v') w') : o.wp Try.prog a W K Q := by
  obtain ⟨v', w', hr, h2, h3⟩ := run_app h r hn hb o.type
  unfold Oper.wp execOp
  simp only [ho, resolve, invoke, builtin, Sem.run_bind, Sem.run_pure, Result.andThen_ok, List.map_toArray, List.map_cons, List.map_nil, hs, hx, hr]
  exact H v' w' h2 h3
theorem wpList_app {base : Nat} {v u : Value} {L M : List Nat} {W : World} {ops : Array Oper} {rest : List Oper} {o : Oper} {a : Act} {Q : Exit → Act → World → Prop} (hgd : o.guard = none) (s x : Operand)
    (ho : o.op = .call { callee := .builtin .append, args := #[s, x], argTypes := #[33, 33] }) (hs : a.eval s = v) (hx : a.eval x = u)
    (h : OwB base v L W) (r : RowV M u W) (hn : L.length + M.length ≤ 100000) (hb : base ≤ W.heap.size)
    (H : ∀ v' w', OwB base v' (L ++ M) w' → W.grownBy w' v.ownBlock → wpList Try.prog ops Q rest (a.put o.dst v') w') : wpList Try.prog ops Q (o :: rest) a W :=
  wpList_plain hgd fun _ hK => wp_app s x ho hs hx h r hn hb fun v' w' h2 h3 => hK _ _ (H v' w' h2 h3)
theorem step_app {base : Nat} {v u : Value} {L M : List Nat} {W : World} {ops : Array Oper} {o : Oper} {a : Act} {K : Act → World → Prop} {Q : Exit → Act → World → Prop} {E : Prop} (hgd : o.guard = none) (s x : Operand)
    (ho : o.op = .call { callee := .builtin .append, args := #[s, x], argTypes := #[33, 33] }) (hs : a.eval s = v) (hx : a.eval x = u)
    (h : OwB base v L W) (r : RowV M u W) (hn : L.length + M.length ≤ 100000) (hb : base ≤ W.heap.size)
    (H : ∀ v' w', OwB base v' (L ++ M) w' → W.grownBy w' v.ownBlock → K (a.put o.dst v') w') : if Region.wanted o (yielded ops a.tmps) = true then Oper.wp Try.prog o a W K Q else E := by
  have hw : Region.wanted o (yielded ops a.tmps) = true := by simp [Region.wanted, hgd]
  rw [if_pos hw]
  exact wp_app s x ho hs hx h r hn hb H
theorem set_far (W : World) {T i B x : Nat} (v : Value) (h : T ≠ B ∨ i ≠ x) : (W.setCell ⟨T, i, none⟩ v).cell? ⟨B, x, none⟩ = W.cell? ⟨B, x, none⟩ := by
  apply World.cell?_setCell_other
  intro e
  simp only [Addr.mk.injEq] at e
  rcases h with h | h
  · exact h e.1
  · exact h e.2.1
/-- A store elsewhere changes no row. -/
theorem RowV.set {L : List Nat} {v : Value} {W : World} (h : RowV L v W) {T : Nat} {vs : Array Value} {t : TypeId} (hT : Blk W T vs t) (hv : ∀ x n : Nat, vs[x]? ≠ some (.int .u8 n)) (i : Nat) (u : Value) : RowV L v (W.setCell ⟨T, i, none⟩ u) := by
  rcases h with h | ⟨g, o, c, e, hg, hc⟩
  · exact .inl h
  · refine .inr ⟨g, o, c, e, by simpa using hg, fun j hj => ?_⟩
    have hne : g ≠ T := fun e' => by
      subst e'
      have := hc j hj
      rw [hT.cell] at this
      exact hv _ _ this
    refine Eq.trans ?_ (hc j hj)
    unfold World.cell?
    rw [Below.heap_setCell W ⟨T, i, none⟩ u g hne]
/-- Two tables: of n rows, and of n marks. -/
structure WdS (n T Z : Nat) (fL : Nat → List Nat) (fI : Nat → Bool) (W : World) : Prop where
  ne : T ≠ Z
  row : ∃ vs : Array Value, vs.size = n ∧ (∀ x, x < n → ∃ v, vs[x]? = some v ∧ RowV (fL x) v W) ∧ Blk W T vs 33
  mark : ∃ us : Array Value, us.size = n ∧ (∀ x, x < n → us[x]? = some (.bool (fI x))) ∧ Blk W Z us 4
variable {n T Z : Nat} {fL : Nat → List Nat} {fI : Nat → Bool} {W W' : World}
theorem WdS.below (h : WdS n T Z fL fI W) (hb : Below W.heap.size W W') : WdS n T Z fL fI W' := by
  obtain ⟨vs, h1, h2, h3⟩ := h.row
  obtain ⟨us, k1, k2, k3⟩ := h.mark
  exact ⟨h.ne, ⟨vs, h1, fun x hx => by obtain ⟨v, e, r⟩ := h2 x hx; exact ⟨v, e, r.below hb⟩, h3.below hb h3.lt⟩, us, k1, k2, k3.below hb k3.lt⟩
theorem WdS.congr {fL' : Nat → List Nat} {fI' : Nat → Bool} (h : WdS n T Z fL fI W) (e1 : ∀ x, x < n → fL x = fL' x) (e2 : ∀ x, x < n → fI x = fI' x) : WdS n T Z fL' fI' W := by
  obtain ⟨vs, h1, h2, h3⟩ := h.row
  obtain ⟨us, k1, k2, k3⟩ := h.mark
  exact ⟨h.ne, ⟨vs, h1, fun x hx => by rw [← e1 x hx]; exact h2 x hx, h3⟩, us, k1, fun x hx => by rw [← e2 x hx]; exact k2 x hx, k3⟩
/-- Cell x of the rows. -/
theorem WdS.cell (h : WdS n T Z fL fI W) (x : Nat) (hx : x < n) : ∃ v, W.cell? ⟨T, x, none⟩ = some v ∧ RowV (fL x) v W := by
  obtain ⟨vs, h1, h2, h3⟩ := h.row
  obtain ⟨v, e, r⟩ := h2 x hx
  exact ⟨v, (h3.cell x).trans e, r⟩
theorem WdS.is (h : WdS n T Z fL fI W) (x : Nat) (hx : x < n) : W.cell? ⟨Z, x, none⟩ = some (.bool (fI x)) := by
  obtain ⟨us, k1, k2, k3⟩ := h.mark
  exact (k3.cell x).trans (k2 x hx)
theorem WdS.fr (h : WdS n T Z fL fI W) (x : Nat) : W.frozen? ⟨T, x, none⟩ = false ∧ W.frozen? ⟨Z, x, none⟩ = false := by
  obtain ⟨vs, h1, h2, h3⟩ := h.row
  obtain ⟨us, k1, k2, k3⟩ := h.mark
  exact ⟨h3.frozen x, k3.frozen x⟩
theorem WdS.lt (h : WdS n T Z fL fI W) : T < W.heap.size ∧ Z < W.heap.size := by
  obtain ⟨vs, h1, h2, h3⟩ := h.row
  obtain ⟨us, k1, k2, k3⟩ := h.mark
  exact ⟨h3.lt, k3.lt⟩
theorem RowV.not_u8 {L : List Nat} {v : Value} {W : World} (h : RowV L v W) (m : Nat) : v ≠ .int .u8 m := fun e => by
  obtain ⟨a, c, e'⟩ := h.form
  rw [e'] at e
  cases e
theorem WdS.setI (h : WdS n T Z fL fI W) (i : Nat) (b : Bool) : WdS n T Z fL (fun x => if x = i then b else fI x) (W.setCell ⟨Z, i, none⟩ (.bool b)) := by
  obtain ⟨vs, h1, h2, h3⟩ := h.row
  obtain ⟨us, k1, k2, k3⟩ := h.mark
  refine ⟨h.ne, ⟨vs, h1, fun x hx => ?_, h3.other h.ne i _⟩, us.setIfInBounds i (.bool b), by simp [k1], fun x hx => ?_, k3.set i _⟩
  · obtain ⟨v, e, r⟩ := h2 x hx
    refine ⟨v, e, r.set k3 (fun y m e' => ?_) i _⟩
    have hy : y < n := by
      have := (Array.getElem?_eq_some_iff.1 e').1
      omega
    rw [k2 y hy] at e'
    cases e'
  · show _ = some (Value.bool (if x = i then b else fI x))
    by_cases hxi : x = i
    · subst hxi
      rw [if_pos rfl]
      simp [k1, hx]
    · rw [if_neg hxi, Array.getElem?_setIfInBounds_ne (Ne.symm hxi)]
      exact k2 x hx
theorem WdS.setL (h : WdS n T Z fL fI W) (i : Nat) {v : Value} {L : List Nat} (hv : RowV L v W) : WdS n T Z (fun x => if x = i then L else fL x) fI (W.setCell ⟨T, i, none⟩ v) := by
  obtain ⟨vs, h1, h2, h3⟩ := h.row
  obtain ⟨us, k1, k2, k3⟩ := h.mark
  have hu : ∀ y m : Nat, vs[y]? ≠ some (.int .u8 m) := fun y m e' => by
    have hy : y < n := by
      have := (Array.getElem?_eq_some_iff.1 e').1
      omega
    obtain ⟨v', e, r⟩ := h2 y hy
    rw [e] at e'
    exact r.not_u8 m (Option.some.inj e')
  refine ⟨h.ne, ⟨vs.setIfInBounds i v, by simp [h1], fun x hx => ?_, h3.set i _⟩, us, k1, k2, k3.other (Ne.symm h.ne) i _⟩
  show ∃ v', _ = some v' ∧ RowV (if x = i then L else fL x) v' _
  by_cases hxi : x = i
  · subst hxi
    rw [if_pos rfl]
    exact ⟨v, by simp [h1, hx], hv.set h3 hu _ _⟩
  · rw [if_neg hxi, Array.getElem?_setIfInBounds_ne (Ne.symm hxi)]
    obtain ⟨v', e, r⟩ := h2 x hx
    exact ⟨v', e, r.set h3 hu _ _⟩
end Go.Proofs.Ytbfcancmljdjhaa

/- The document's terms: part. Stage 10. -/
namespace Go.Proofs.Ytbfcancmljdjhaa
open Go.RowKit BS

set_option maxRecDepth 100000 in
set_option maxHeartbeats 4000000 in
theorem part_calls (k : Int) (w : World) : Calls Try.prog 32 #[.int .i64 k] w fun e w' => e = .returned (.tuple #[.bool (decide (pcT k ≠ 0)), .bool (decide (pcT k = 2))]) ∧ w = w' := by
  have go : ∀ (b1 b2 : Bool), decide (pcT k ≠ 0) = b1 → decide (pcT k = 2) = b2 → ∀ q3 q8 e3 e4 : Bool, decide (3 ≤ k) = q3 → decide (k ≤ 8) = q8 → (k == 3) = e3 → (k == 4) = e4 → (q3 && q8) = b1 → (e3 || e4) = b2 →
      Calls Try.prog 32 #[.int .i64 k] w fun e w' => e = .returned (.tuple #[.bool b1, .bool b2]) ∧ w = w' := by
    intro b1 b2 _ _ q3 q8 e3 e4 h3 h8 g3 g4 hb1 hb2
    subst hb1 hb2
    cases q3
    · cases e3
      · go_enter Try.func32, Try.ntmps32
        go_wp2_with fail
        exact bodyPost_ret (v := .tuple #[.bool false, .bool e4]) (by simp [results, Try.results32, go_sem]) rfl ⟨by simp, rfl⟩
      · go_enter Try.func32, Try.ntmps32
        go_wp2_with fail
        exact bodyPost_ret (v := .tuple #[.bool false, .bool true]) (by simp [results, Try.results32, go_sem]) rfl ⟨by simp, rfl⟩
    · cases e3
      · go_enter Try.func32, Try.ntmps32
        go_wp2_with fail
        exact bodyPost_ret (v := .tuple #[.bool q8, .bool e4]) (by simp [results, Try.results32, go_sem]) rfl ⟨by simp, rfl⟩
      · go_enter Try.func32, Try.ntmps32
        go_wp2_with fail
        exact bodyPost_ret (v := .tuple #[.bool q8, .bool true]) (by simp [results, Try.results32, go_sem]) rfl ⟨by simp, rfl⟩
  refine (go _ _ rfl rfl _ _ _ _ rfl rfl rfl rfl ?_ ?_).mono fun _ _ h => h
  · unfold pcT
    by_cases h34 : k = 3 ∨ k = 4
    · rw [if_pos h34, decide_eq_true (by omega), decide_eq_true (by omega)]; rfl
    · rw [if_neg h34]
      by_cases h38 : 3 ≤ k ∧ k ≤ 8
      · rw [if_pos h38, decide_eq_true h38.1, decide_eq_true h38.2]; rfl
      · rw [if_neg h38]
        rw [show (decide ((0 : Nat) ≠ 0)) = false from rfl, ← Bool.decide_and]
        exact decide_eq_false h38
  · unfold pcT
    by_cases h3 : k = 3
    · subst h3; rfl
    · by_cases h4 : k = 4
      · subst h4; rfl
      · rw [if_neg (by omega), show (k == 3) = false from beq_eq_false_iff_ne.2 h3, show (k == 4) = false from beq_eq_false_iff_ne.2 h4]
        split <;> rfl
end Go.Proofs.Ytbfcancmljdjhaa

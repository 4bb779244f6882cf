/- Trees gone through from the root on, plainly: a node ahead of its kids, these from the left; what waits is a list, the next one first. -/
import Derived.Test.YtjgokhhpfgnceaaDoorAj
namespace Go.Proofs.YtjgokhhpfgnceaaDoor
open Go.RowKit

/-- A tree by where each node's first one is, less one, and by its kids, from the left. -/
structure TreeL (n : Nat) (fi : Nat → Int) (kids : Nat → List Nat) : Prop where
  lo : ∀ i, i < n → -1 ≤ fi i ∧ fi i < i
  tile : ∀ i, i < n → ∀ k : Nat, (fi i < k ∧ k ≤ i) ↔ (k = i ∨ ∃ c ∈ kids i, fi c < k ∧ k ≤ c)
  chain : ∀ i, i < n → (kids i).Pairwise fun (c d : Nat) => (c : Int) ≤ fi d
  below : ∀ i, i < n → ∀ c ∈ kids i, c < i
  last : fi (n - 1) = -1
  some' : 0 < n
variable {n : Nat} {fi : Nat → Int} {kids : Nat → List Nat}
theorem TreeL.kid_lo (T : TreeL n fi kids) {i c : Nat} (hi : i < n) (hc : c ∈ kids i) : fi i ≤ fi c := by
  have hb := T.below i hi c hc
  have hl := T.lo c (by omega)
  have h := (T.tile i hi (fi c + 1).toNat).2 (.inr ⟨c, hc, by omega⟩)
  omega
/-- What lies in a node's nodes begins no earlier. -/
theorem TreeL.lam (T : TreeL n fi kids) : ∀ (r : Nat), r < n → ∀ v : Nat, fi r < v → v ≤ r → fi r ≤ fi v := by
  intro r
  induction r using Nat.strongRecOn with
  | ind r ih =>
    intro hr v h1 h2
    rcases (T.tile r hr v).1 ⟨h1, h2⟩ with rfl | ⟨c, hc, h3, h4⟩
    · exact Int.le_refl _
    · have hb := T.below r hr c hc
      exact Int.le_trans (T.kid_lo hr hc) (ih c hb (by omega) v h3 h4)
/-- Is a node still to be gone to? -/
def inU (fi : Nat → Int) (st : List Nat) (k : Nat) : Bool := st.any fun r => decide (fi r < k) && decide (k ≤ r)
theorem inU_iff (st : List Nat) (k : Nat) : inU fi st k = true ↔ ∃ r ∈ st, fi r < k ∧ k ≤ r := by simp [inU]
structure Pre (n : Nat) (fi : Nat → Int) (st : List Nat) : Prop where
  lt : ∀ r ∈ st, r < n
  pw : st.Pairwise fun (r s : Nat) => (r : Int) ≤ fi s
  old : ∀ u v : Nat, u < n → v < n → inU fi st u = false → inU fi st v = true → fi u < fi v ∨ (fi u = fi v ∧ v < u)
theorem Pre.start (T : TreeL n fi kids) : Pre n fi [n - 1] ∧ ∀ k, k < n → inU fi [n - 1] k = true := by
  have h0 := T.some'
  have hU : ∀ k, k < n → inU fi [n - 1] k = true := fun k hk => (inU_iff _ _).2 ⟨n - 1, by simp, by rw [T.last]; omega, by omega⟩
  refine ⟨⟨fun r hr => ?_, by simp, fun u v hu _ h _ => ?_⟩, hU⟩
  · rw [List.mem_singleton] at hr; omega
  · rw [hU u hu] at h; cases h
theorem Pre.next (T : TreeL n fi kids) {r : Nat} {st : List Nat} (h : Pre n fi (r :: st)) : inU fi (r :: st) r = true ∧ (∀ k, inU fi (kids r ++ st) k = true ↔ (inU fi (r :: st) k = true ∧ k ≠ r)) ∧
    (∀ v, v < n → inU fi (r :: st) v = true → v ≠ r → fi r < fi v ∨ (fi r = fi v ∧ v < r)) ∧ Pre n fi (kids r ++ st) := by
  have hr := h.lt r (List.mem_cons_self ..)
  have hlo := T.lo r hr
  have hpw := List.pairwise_cons.1 h.pw
  have hUr : inU fi (r :: st) r = true := (inU_iff _ _).2 ⟨r, List.mem_cons_self .., hlo.2, Nat.le_refl _⟩
  have hU : ∀ k, inU fi (kids r ++ st) k = true ↔ (inU fi (r :: st) k = true ∧ k ≠ r) := by
    intro k
    rw [inU_iff, inU_iff]
    constructor
    · rintro ⟨c, hc, h1, h2⟩
      rcases List.mem_append.1 hc with hc | hc
      · have hb := T.below r hr c hc
        have := (T.tile r hr k).2 (.inr ⟨c, hc, h1, h2⟩)
        exact ⟨⟨r, List.mem_cons_self .., this.1, by omega⟩, by omega⟩
      · have := hpw.1 c hc
        exact ⟨⟨c, List.mem_cons_of_mem _ hc, h1, h2⟩, by omega⟩
    · rintro ⟨⟨c, hc, h1, h2⟩, hne⟩
      rcases List.mem_cons.1 hc with rfl | hc
      · rcases (T.tile c hr k).1 ⟨h1, h2⟩ with h | ⟨d, hd, h3, h4⟩
        · exact absurd h hne
        · exact ⟨d, List.mem_append_left _ hd, h3, h4⟩
      · exact ⟨c, List.mem_append_right _ hc, h1, h2⟩
  have hmin : ∀ v, v < n → inU fi (r :: st) v = true → v ≠ r → fi r < fi v ∨ (fi r = fi v ∧ v < r) := by
    intro v hv hvU hne
    obtain ⟨c, hc, h1, h2⟩ := (inU_iff _ _).1 hvU
    rcases List.mem_cons.1 hc with rfl | hc
    · have := T.lam c hr v h1 h2
      omega
    · have h3 := hpw.1 c hc
      have h4 := T.lam c (h.lt c (List.mem_cons_of_mem _ hc)) v h1 h2
      omega
  refine ⟨hUr, hU, hmin, ⟨fun s hs => ?_, ?_, fun u v hu hv h1 h2 => ?_⟩⟩
  · rcases List.mem_append.1 hs with hs | hs
    · have := T.below r hr s hs; omega
    · exact h.lt s (List.mem_cons_of_mem _ hs)
  · rw [List.pairwise_append]
    refine ⟨T.chain r hr, hpw.2, fun c hc s hs => ?_⟩
    have := T.below r hr c hc
    have := hpw.1 s hs
    omega
  · obtain ⟨h3, h4⟩ := (hU v).1 h2
    by_cases hur : u = r
    · subst hur; exact hmin v hv h3 h4
    · refine h.old u v hu hv ?_ h3
      cases hx : inU fi (r :: st) u with
      | false => rfl
      | true => rw [(hU u).2 ⟨hx, hur⟩] at h1; cases h1
/-- How many groups have been gone to. -/
def cntU (kd fi : Nat → Int) (n : Nat) (st : List Nat) : Nat := (List.range n).countP fun k => kd k == 3 && !inU fi st k
theorem countP_add (p q : Nat → Bool) (r : Nat) (hp : p r = true) (hq : q r = false) (h : ∀ k, k ≠ r → p k = q k) : ∀ n, r < n → (List.range n).countP p = (List.range n).countP q + 1
  | n + 1, hn => by
    have he : ∀ m, m ≤ r → (List.range m).countP p = (List.range m).countP q := fun m hm => List.countP_congr fun x hx => by
      have := List.mem_range.1 hx
      rw [h x (by omega)]
    rw [List.range_succ, List.countP_append, List.countP_append, List.countP_singleton, List.countP_singleton]
    by_cases hr : r = n
    · subst hr
      rw [hp, hq, he r (Nat.le_refl _)]; simp
    · have := countP_add p q r hp hq h n (by omega)
      rw [this, h n (by omega)]
      omega
theorem countP_same (p q : Nat → Bool) (n : Nat) (h : ∀ k, k < n → p k = q k) : (List.range n).countP p = (List.range n).countP q :=
  List.countP_congr fun x hx => by rw [h x (List.mem_range.1 hx)]
theorem cntU_le (kd : Nat → Int) (st : List Nat) : cntU kd fi n st ≤ n := by
  unfold cntU
  have := List.countP_le_length (p := fun k => kd k == 3 && !inU fi st k) (l := List.range n)
  rw [List.length_range] at this
  exact this
/-- Behind a node one group more has been gone to, if it is one; its number is just that. -/
theorem Pre.count (T : TreeL n fi kids) (kd : Nat → Int) {r : Nat} {st : List Nat} (h : Pre n fi (r :: st)) :
    (kd r = 3 → cntU kd fi n (kids r ++ st) = cntU kd fi n (r :: st) + 1 ∧ numF kd fi n r = cntU kd fi n (r :: st) + 1) ∧ (kd r ≠ 3 → cntU kd fi n (kids r ++ st) = cntU kd fi n (r :: st)) := by
  obtain ⟨hUr, hU, hmin, -⟩ := Pre.next T h
  have hr := h.lt r (List.mem_cons_self ..)
  have hu : ∀ k, k ≠ r → inU fi (kids r ++ st) k = inU fi (r :: st) k := fun k hk => by
    rw [Bool.eq_iff_iff, hU k]
    exact ⟨fun h => h.1, fun h => ⟨h, hk⟩⟩
  have hUn : inU fi (kids r ++ st) r = false := by
    cases hx : inU fi (kids r ++ st) r with
    | false => rfl
    | true => exact absurd rfl ((hU r).1 hx).2
  refine ⟨fun h3 => ⟨?_, ?_⟩, fun h3 => ?_⟩
  · unfold cntU
    exact countP_add (fun k => kd k == 3 && !inU fi (kids r ++ st) k) (fun k => kd k == 3 && !inU fi (r :: st) k) r (by simp only [h3, hUn]; rfl) (by simp only [hUr, Bool.not_true, Bool.and_false]) (fun k hk => by rw [hu k hk]) n hr
  · rw [num_count kd fi n r h3]
    unfold cntU
    have hx : ∀ k, k < n → k ≠ r → (leF fi k r = !inU fi (r :: st) k) := fun k hk hne => by
      cases hx : inU fi (r :: st) k with
      | true =>
        have := hmin k hk hx hne
        rw [Bool.not_true, ← Bool.not_eq_true, leF_iff]
        omega
      | false =>
        have := h.old k r hk hr hx hUr
        rw [Bool.not_false, leF_iff]
        omega
    rw [countP_same (fun k => kd k == 3 && leF fi k r) (fun k => kd k == 3 && (k == r || !inU fi (r :: st) k)) n (fun k hk => by
      by_cases hne : k = r
      · subst hne
        rw [(leF_iff fi k k).2 (.inr ⟨rfl, Nat.le_refl _⟩)]; simp
      · have e : (k == r) = false := by rw [beq_eq_false_iff_ne]; exact hne
        simp only [hx k hk hne, e, Bool.false_or])]
    exact countP_add (fun k => kd k == 3 && (k == r || !inU fi (r :: st) k)) (fun k => kd k == 3 && !inU fi (r :: st) k) r (by simp [h3]) (by simp only [hUr, Bool.not_true, Bool.and_false]) (fun k hk => by
      have e : (k == r) = false := by rw [beq_eq_false_iff_ne]; exact hk
      simp only [e, Bool.false_or]) n hr
  · unfold cntU
    refine countP_same _ _ n fun k hk => ?_
    by_cases hne : k = r
    · subst hne
      have : (kd k == 3) = false := by rw [beq_eq_false_iff_ne]; exact h3
      rw [this]; rfl
    · rw [hu k hne]
/-- How many nodes are still to be gone to: one fewer each time. -/
def leftU (fi : Nat → Int) (n : Nat) (st : List Nat) : Nat := (List.range n).countP (inU fi st)
theorem Pre.left (T : TreeL n fi kids) {r : Nat} {st : List Nat} (h : Pre n fi (r :: st)) : leftU fi n (r :: st) = leftU fi n (kids r ++ st) + 1 := by
  obtain ⟨hUr, hU, -, -⟩ := Pre.next T h
  have hr := h.lt r (List.mem_cons_self ..)
  unfold leftU
  refine countP_add _ _ r hUr ?_ (fun k hk => ?_) n hr
  · cases hx : inU fi (kids r ++ st) r with
    | false => rfl
    | true => exact absurd rfl ((hU r).1 hx).2
  · rw [Bool.eq_iff_iff, hU k]
    exact ⟨fun h => ⟨h, hk⟩, fun h => h.1⟩
theorem leftU_le (st : List Nat) : leftU fi n st ≤ n := by
  have := List.countP_le_length (p := inU fi st) (l := List.range n)
  rw [List.length_range] at this
  exact this
theorem nodup_le : ∀ (a b : List Nat), a.Nodup → (∀ x ∈ a, x ∈ b) → a.length ≤ b.length
  | [], _, _, _ => Nat.zero_le _
  | x :: a, b, hn, hs => by
    rw [List.nodup_cons] at hn
    have hx := hs x (List.mem_cons_self ..)
    have ih := nodup_le a (b.erase x) hn.2 (fun y hy => (List.mem_erase_of_ne (by rintro rfl; exact hn.1 hy)).2 (hs y (List.mem_cons_of_mem _ hy)))
    rw [List.length_erase_of_mem hx] at ih
    have := List.length_pos_of_mem hx
    rw [List.length_cons]
    omega
/-- No more waits than there is to be gone to. -/
theorem Pre.few (T : TreeL n fi kids) : ∀ {st : List Nat}, Pre n fi st → st.length ≤ leftU fi n st := by
  intro st h
  unfold leftU
  have hnd : st.Nodup := by
    refine h.pw.imp_of_mem (fun {a b} ha hb hab he => ?_)
    subst he
    have := T.lo a (h.lt a ha)
    omega
  have hsub : ∀ x ∈ st, x ∈ (List.range n).filter (inU fi st) := fun x hx => by
    rw [List.mem_filter, List.mem_range]
    exact ⟨h.lt x hx, (inU_iff _ _).2 ⟨x, hx, (T.lo x (h.lt x hx)).2, Nat.le_refl _⟩⟩
  rw [List.countP_eq_length_filter]
  exact nodup_le _ _ hnd hsub
theorem between_sums (s : List Nat) : ∀ (K d : Nat), K ≤ s.length → d < (s.take K).sum → ∃ j, j < K ∧ (s.take j).sum ≤ d ∧ d < (s.take (j + 1)).sum
  | 0, d, _, h => by simp at h
  | K + 1, d, hk, h => by
    by_cases h1 : d < (s.take K).sum
    · obtain ⟨j, hj, h2, h3⟩ := between_sums s K d (by omega) h1
      exact ⟨j, by omega, h2, h3⟩
    · exact ⟨K, by omega, by omega, h⟩
theorem sums_mono (s : List Nat) {i j : Nat} (h : i ≤ j) : (s.take i).sum ≤ (s.take j).sum := by
  have e : s.take i = (s.take j).take i := by rw [List.take_take, Nat.min_eq_left h]
  rw [e]
  exact take_sum_le _ _
def kidsN (l : List NdN) (i : Nat) : List Nat := (((allKids 0 [] (ksN l))[i]?).getD []).reverse
theorem kidsR_N (l : List NdN) (hf : manyF 0 (l.map NdN.kids) = some 1) (i : Nat) (hi : i < l.length) : kidsR l i = (kidsN l i).map (fun x : Nat => (x : Int)) := by
  unfold kidsR kidsN
  rw [if_pos ⟨hf, by omega, by omega⟩]
  rfl
/-- A list that is a tree, so. -/
theorem treeL (l : List NdN) (hf : manyF 0 (l.map NdN.kids) = some 1) : TreeL l.length (fiN l) (kidsN l) := by
  obtain ⟨_, hst⟩ := (formed_iff (l.map NdN.kids)).1 hf
  have hst : stackF [] (ksN l) = some [(l.map NdN.kids).length] := hst
  rw [List.length_map] at hst
  have hkl : (ksN l).length = l.length := by simp [ksN]
  have hsl : (sizesF [] (ksN l)).length = l.length := by rw [sizesF_len, hkl]
  have hRl : (sizesR l).length = l.length := by rw [sizesR_len, if_pos hf]
  have hfi : ∀ x z : Nat, (sizesF [] (ksN l))[x]? = some z → fiN l x = (x : Int) - (z : Int) := fun x z h => by
    have hx : x < (sizesF [] (ksN l)).length := (List.getElem?_eq_some_iff.1 h).1
    rw [fiN_get l x (by omega)]
    have hR : sizesR l = (sizesF [] (ksN l)).map (fun x : Nat => (x : Int)) := if_pos hf
    have : (sizesR l)[x]'(by omega) = (z : Int) := by
      simp only [hR, List.getElem_map]
      rw [List.getElem?_eq_getElem hx] at h
      rw [Option.some.inj h]
    rw [this]
  -- of each node: its stack, and what it says
  have key : ∀ i, i < l.length → ∃ s : List Nat, ∃ K : Nat, K ≤ s.length ∧ s.sum = i ∧ (∀ x ∈ s, 0 < x) ∧ fiN l i = (i : Int) - 1 - ((s.take K).sum : Nat) ∧ kidsN l i = ((posF i s).take K).reverse ∧ (∀ j (h : j < (posF i s).length), (s.take (j + 1)).sum ≤ i ∧ (posF i s)[j] + 1 + (s.take j).sum = i ∧ fiN l (posF i s)[j] = (i : Int) - 1 - ((s.take (j + 1)).sum : Nat)) := by
    intro i hi
    have hlk : i < (ksN l).length := by omega
    obtain ⟨s, hs, hks, hsum⟩ := stack_at (ksN l) [] _ hst i hlk
    obtain ⟨hr, ht, hsi⟩ := roots_at (ksN l) i hlk s hs
    have hp := stackF_pos ((ksN l).take i) [] s (by simp) hs
    have hsum : s.sum = i := by simpa using hsum
    refine ⟨s, (ksN l)[i], hks, hsum, hp, ?_, ?_, ?_⟩
    · rw [hfi i _ hsi]; omega
    · unfold kidsN
      rw [allKids_at (ksN l) i hlk s hs]; rfl
    · intro j hj
      have hj' : j < s.length := by rw [posF_len] at hj; exact hj
      obtain ⟨h1, h2⟩ := kid_at s i j hp (by omega) hj' hj
      have h3 := kid_size (sizesF [] ((ksN l).take i)) s i j (by rw [sizesF_len, List.length_take]; omega) hr hj' hj
      rw [← ht, List.getElem?_take, if_pos (by omega)] at h3
      have h4 := take_sum s j hj'
      have h5 := take_sum_le s (j + 1)
      refine ⟨by omega, h1, ?_⟩
      rw [hfi _ _ h3]
      omega
  have hn : 0 < l.length := by
    rcases Nat.eq_zero_or_pos l.length with h | h
    · rw [List.length_eq_zero_iff] at h; subst h; cases hf
    · exact h
  refine ⟨fun i hi => ?_, fun i hi k => ?_, fun i hi => ?_, fun i hi c hc => ?_, ?_, hn⟩
  · obtain ⟨s, K, hK, hsum, hp, h1, -, -⟩ := key i hi
    have := take_sum_le s K
    omega
  · obtain ⟨s, K, hK, hsum, hp, h1, h2, h3⟩ := key i hi
    rw [h1, h2]
    have hle := take_sum_le s K
    constructor
    · rintro ⟨h4, h5⟩
      by_cases hki : k = i
      · exact .inl hki
      · obtain ⟨j, hj, h6, h7⟩ := between_sums s K (i - 1 - k) hK (by omega)
        have hjl : j < (posF i s).length := by rw [posF_len]; omega
        obtain ⟨h8, h9, h10⟩ := h3 j hjl
        refine .inr ⟨(posF i s)[j], ?_, by rw [h10]; omega, by omega⟩
        rw [List.mem_reverse, List.mem_take_iff_getElem]
        exact ⟨j, by omega, rfl⟩
    · rintro (rfl | ⟨c, hc, h4, h5⟩)
      · omega
      · rw [List.mem_reverse, List.mem_take_iff_getElem] at hc
        obtain ⟨j, hj, rfl⟩ := hc
        obtain ⟨h8, h9, h10⟩ := h3 j (by omega)
        have := sums_mono s (show j + 1 ≤ K by omega)
        rw [h10] at h4
        omega
  · obtain ⟨s, K, hK, hsum, hp, h1, h2, h3⟩ := key i hi
    rw [h2, List.pairwise_reverse, List.pairwise_iff_getElem]
    intro a b ha hb hab
    rw [List.length_take] at ha hb
    rw [List.getElem_take, List.getElem_take]
    obtain ⟨h8, h9, h10⟩ := h3 a (by omega)
    obtain ⟨h11, h12, h13⟩ := h3 b (by omega)
    have := sums_mono s (show a + 1 ≤ b by omega)
    rw [h10]
    omega
  · obtain ⟨s, K, hK, hsum, hp, h1, h2, h3⟩ := key i hi
    rw [h2, List.mem_reverse, List.mem_take_iff_getElem] at hc
    obtain ⟨j, hj, rfl⟩ := hc
    obtain ⟨h8, h9, h10⟩ := h3 j (by omega)
    omega
  · have h := stackF_sum _ _ _ hst
    obtain ⟨st, hs⟩ : ∃ st, stackF [] (ksN l) = some st := ⟨_, hst⟩
    have hr := roots_all (ksN l) [] [] _ (by simp) (by intro j hj; simp at hj) hst 0 (by simp)
    rw [List.nil_append, List.take_zero, List.sum_nil, Nat.sub_zero, hsl] at hr
    have := hfi (l.length - 1) _ hr.2
    rw [this]
    simp
    omega
end Go.Proofs.YtjgokhhpfgnceaaDoor

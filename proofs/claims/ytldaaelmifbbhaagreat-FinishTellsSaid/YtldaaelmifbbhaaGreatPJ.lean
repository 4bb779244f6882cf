/- Texts put together: Av Pa. -/
import Derived.Test.YtldaaelmifbbhaaGreatPD
/- Patterns' trees, plainly: what AstGrows wants: a Group around a tree, an Alt of two. -/
namespace Go.Proofs.YtldaaelmifbbhaaGreat
open Go.RowKit BS

theorem kidsOk_iff (f : Nat → Int) : ∀ (cs : List (List Nat)) (i : Nat), KidsOk f i cs ↔ ∀ j (h : j < cs.length), ∀ x ∈ cs[j], kidF (f (i + j)) (f x) = true
  | [], i => by simp [KidsOk]
  | c :: cs, i => by
    rw [KidsOk, kidsOk_iff f cs (i + 1)]
    constructor
    · rintro ⟨h1, h2⟩ j hj x hx
      cases j with
      | zero => exact h1 x hx
      | succ j =>
        have := h2 j (by simpa using hj) x hx
        rwa [show i + 1 + j = i + (j + 1) by omega] at this
    · intro h
      refine ⟨fun x hx => h 0 (by simp) x hx, fun j hj x hx => ?_⟩
      have := h (j + 1) (by simpa using hj) x hx
      rwa [show i + (j + 1) = i + 1 + j by omega] at this
theorem kidsOkB_iff (l : List NdN) (hf : FormedN l) : (∀ i, i < l.length → kidsOkB l i = true) ↔ RightKids (l.map NdN.kind) (ksN l) := by
  obtain ⟨hst, hkl, _⟩ := formed_stack l hf
  have hal := allKids_len (ksN l) [] 0
  unfold RightKids
  rw [kidsOk_iff]
  have hk : ∀ i (h : i < (allKids 0 [] (ksN l)).length), kidsR l i = (((allKids 0 [] (ksN l))[i]).reverse).map (fun x : Nat => (x : Int)) := fun i h => by
    unfold kidsR
    rw [if_pos ⟨hf, by omega, by omega⟩, show (i : Int).toNat = i from rfl, List.getElem?_eq_getElem h, Option.getD_some]
  constructor
  · intro h j hj x hx
    have h1 := h j (by omega)
    unfold kidsOkB at h1
    rw [hk j hj, List.all_eq_true] at h1
    have := h1 (x : Int) (List.mem_map.2 ⟨x, List.mem_reverse.2 hx, rfl⟩)
    rw [Nat.zero_add]
    exact this
  · intro h i hi
    unfold kidsOkB
    rw [hk i (by omega), List.all_eq_true]
    intro y hy
    obtain ⟨x, hx, rfl⟩ := List.mem_map.1 hy
    have := h i (by omega) x (List.mem_reverse.1 hx)
    rw [Nat.zero_add] at this
    exact this
theorem grpN_count (l : List NdN) : grpN l l.length = (l.map NdN.kind).countP (· == 3) := by
  have e : (List.range l.length).map (kdN l) = l.map NdN.kind := by
    apply List.ext_getElem (by simp)
    intro i h1 h2
    rw [List.getElem_map, List.getElem_range, List.getElem_map]
    exact kdN_get l i (by simpa using h2)
  rw [← e, List.countP_map]
  rfl
theorem rightR_iff (l : List NdN) : rightR l = true ↔ FormedN l ∧ (∀ x ∈ l, nodeF x = true) ∧ RightKids (l.map NdN.kind) (ksN l) ∧ (l.map NdN.kind).countP (· == 3) ≤ 9 := by
  unfold rightR
  rw [Bool.and_eq_true, Bool.and_eq_true, decide_eq_true_iff, decide_eq_true_iff, List.all_eq_true, grpN_count]
  constructor
  · rintro ⟨h1, h2, h3⟩
    have h4 : ∀ i (h : i < l.length), nodeF l[i] = true ∧ kidsOkB l i = true := fun i h => by
      have := h2 i (List.mem_range.2 h)
      rw [okN_split l i h, Bool.and_eq_true] at this
      exact this
    refine ⟨h1, fun x hx => ?_, (kidsOkB_iff l h1).1 (fun i hi => (h4 i hi).2), h3⟩
    obtain ⟨i, hi, rfl⟩ := List.getElem_of_mem hx
    exact (h4 i hi).1
  · rintro ⟨h1, h2, h3, h4⟩
    refine ⟨h1, fun i hi => ?_, h4⟩
    have hi := List.mem_range.1 hi
    rw [okN_split l i hi, Bool.and_eq_true]
    exact ⟨h2 _ (List.getElem_mem hi), (kidsOkB_iff l h1).2 h3 i hi⟩
def ndG : NdN := ⟨3, 1, 0, 0, 0⟩
def ndL : NdN := ⟨6, 2, 0, 0, 0⟩
theorem formed_of (l : List NdN) (h1 : ∀ x ∈ l, 0 ≤ x.kids) (h2 : stackF [] (ksN l) = some [l.length]) : FormedN l := by
  unfold FormedN
  rw [formed_iff]
  refine ⟨fun k hk => ?_, by rw [List.length_map]; exact h2⟩
  obtain ⟨x, hx, rfl⟩ := List.mem_map.1 hk
  exact h1 x hx
theorem formed_kids (l : List NdN) (hf : FormedN l) : ∀ x ∈ l, 0 ≤ x.kids := fun x hx => ((formed_iff (l.map NdN.kids)).1 hf).1 x.kids (List.mem_map_of_mem hx)
theorem ksN_app (l m : List NdN) : ksN (l ++ m) = ksN l ++ ksN m := by simp [ksN]
theorem formed_group (l : List NdN) (hf : FormedN l) : FormedN (l ++ [ndG]) := by
  obtain ⟨hst, hkl, _⟩ := formed_stack l hf
  refine formed_of _ (fun x hx => ?_) ?_
  · rcases List.mem_append.1 hx with h | h
    · exact formed_kids l hf x h
    · rw [List.mem_singleton.1 h]; decide
  · rw [ksN_app, stackF_append, hst]
    show stackF [l.length] [1] = _
    unfold stackF stackF
    rw [if_pos (by simp)]
    simp [stepF, Nat.add_comm]
theorem formed_two (l m : List NdN) (hl : FormedN l) (hm : FormedN m) : FormedN (l ++ m ++ [ndL]) := by
  obtain ⟨h1, _⟩ := formed_stack l hl
  obtain ⟨h2, _⟩ := formed_stack m hm
  refine formed_of _ (fun x hx => ?_) ?_
  · rcases List.mem_append.1 hx with h | h
    · rcases List.mem_append.1 h with h | h
      · exact formed_kids l hl x h
      · exact formed_kids m hm x h
    · rw [List.mem_singleton.1 h]; decide
  · have h3 := stackF_below [l.length] (ksN m) [] [m.length] h2
    rw [ksN_app, ksN_app, stackF_append, stackF_append, h1]
    show ((stackF [l.length] (ksN m)).bind fun st' => stackF st' [2]) = _
    rw [show [l.length] = ([] : List Nat) ++ [l.length] from rfl, h3]
    show stackF [m.length, l.length] [2] = _
    unfold stackF stackF
    rw [if_pos (by simp)]
    simp [stepF]
    omega
/-- **A Group around a pattern's tree is one just if there are not too many.** -/
theorem right_group (l : List NdN) (h : rightR l = true) : rightR (l ++ [ndG]) = decide (grpN l l.length < 9) := by
  obtain ⟨h1, h2, h3, h4⟩ := (rightR_iff l).1 h
  obtain ⟨hst, hkl, _⟩ := formed_stack l h1
  rw [Bool.eq_iff_iff, rightR_iff, decide_eq_true_iff, grpN_count]
  have e : (l ++ [ndG]).map NdN.kind = l.map NdN.kind ++ [3] := by simp [ndG]
  have ek : ksN (l ++ [ndG]) = ksN l ++ [1] := by rw [ksN_app]; rfl
  rw [e, ek, List.countP_append, rightKids_group _ _ (by rw [List.length_map, hkl]) (by rw [hkl]; exact hst)]
  constructor
  · rintro ⟨_, _, _, h5⟩
    have : ([3] : List Int).countP (· == 3) = 1 := by decide
    omega
  · intro h5
    have : ([3] : List Int).countP (· == 3) = 1 := by decide
    refine ⟨formed_group l h1, fun x hx => ?_, h3, by omega⟩
    rcases List.mem_append.1 hx with h | h
    · exact h2 x h
    · rw [List.mem_singleton.1 h]; decide
theorem right_two (l m : List NdN) (h : rightR l = true) (hm : rightR m = true) : rightR (l ++ m ++ [ndL]) = ((kdN l (l.length - 1) != 6) && (kdN m (m.length - 1) != 6) && decide (grpN l l.length + grpN m m.length ≤ 9)) := by
  obtain ⟨h1, h2, h3, h4⟩ := (rightR_iff l).1 h
  obtain ⟨g1, g2, g3, g4⟩ := (rightR_iff m).1 hm
  obtain ⟨hst, hkl, _⟩ := formed_stack l h1
  obtain ⟨gst, gkl, _⟩ := formed_stack m g1
  rw [Bool.eq_iff_iff, rightR_iff, Bool.and_eq_true, Bool.and_eq_true, decide_eq_true_iff, grpN_count, grpN_count]
  have e : (l ++ m ++ [ndL]).map NdN.kind = l.map NdN.kind ++ m.map NdN.kind ++ [6] := by simp [ndL]
  have ek : ksN (l ++ m ++ [ndL]) = ksN l ++ ksN m ++ [2] := by rw [ksN_app, ksN_app]; rfl
  have hc : ([6] : List Int).countP (· == 3) = 0 := by decide
  rw [e, ek, List.countP_append, List.countP_append, hc, rightKids_two _ _ _ _ (by rw [List.length_map, hkl]) (by rw [List.length_map, gkl]) (by rw [hkl]; exact hst) (by rw [gkl]; exact gst), List.length_map, List.length_map]
  constructor
  · rintro ⟨_, _, ⟨_, _, h5, h6⟩, h7⟩
    exact ⟨⟨h5, h6⟩, by omega⟩
  · rintro ⟨⟨h5, h6⟩, h7⟩
    refine ⟨formed_two l m h1 g1, fun x hx => ?_, ⟨h3, g3, h5, h6⟩, by omega⟩
    rcases List.mem_append.1 hx with h | h
    · rcases List.mem_append.1 h with h | h
      · exact h2 x h
      · exact g2 x h
    · rw [List.mem_singleton.1 h]; decide
/-- **In a Group around all the numbers are one more.** -/
theorem nums_group (l : List NdN) (hf : FormedN l) : (numsR (l ++ [ndG])).length = l.length + 1 ∧ (numsR (l ++ [ndG])).getD l.length 0 = 1 ∧
    ∀ i, i < l.length → kdN l i = 3 → (numsR (l ++ [ndG])).getD i 0 = (numsR l).getD i 0 + 1 := by
  obtain ⟨hst, hkl, hrl, hsl, hR⟩ := formed_stack l hf
  obtain ⟨gst, gkl, grl, gsl, gR⟩ := formed_stack (l ++ [ndG]) (formed_group l hf)
  rw [List.length_append] at grl
  have hsz : sizesR (l ++ [ndG]) = sizesR l ++ [((1 + l.length : Nat) : Int)] := by
    rw [gR, hR, ksN_app, show ksN [ndG] = [1] from rfl, sizesF_snoc _ _ _ _ hst, List.map_append]
    simp
  have hkd : ∀ i, i < l.length → kdN (l ++ [ndG]) i = kdN l i := fun i hi => by
    rw [kdN_get l i hi, kdN_get (l ++ [ndG]) i (by simp; omega), List.getElem_append_left hi]
  have hkn : kdN (l ++ [ndG]) l.length = 3 := by
    rw [kdN_get _ l.length (by simp)]
    simp [ndG]
  have hfi : ∀ i, i < l.length → fiN (l ++ [ndG]) i = fiN l i := fun i hi => by
    unfold fiN
    rw [hsz, List.getD_eq_getElem?_getD, List.getD_eq_getElem?_getD, List.getElem?_append_left (by omega)]
  have hfn : fiN (l ++ [ndG]) l.length = -1 := by
    unfold fiN
    rw [hsz, List.getD_eq_getElem?_getD, List.getElem?_append_right (by omega), hrl, Nat.sub_self]
    simp
    omega
  have hlow : ∀ i, i < l.length → -1 ≤ fiN l i := fun i hi => by
    rw [fiN_get l i (by omega)]
    have := sizesR_bound l i (by omega)
    omega
  obtain ⟨r1, r2⟩ := num_grows (kdN l) (kdN (l ++ [ndG])) (fiN l) (fiN (l ++ [ndG])) l.length hkd hkn hfi hfn hlow
  have hn1 : (sizesR (l ++ [ndG])).length = l.length + 1 := grl
  refine ⟨by rw [numsR_len, hn1], ?_, fun i hi h3 => ?_⟩
  · rw [numsR_get _ _ (by omega)]
    unfold nuN
    rw [hn1, r1]; rfl
  · rw [numsR_get _ _ (by omega), numsR_get _ _ (by omega)]
    unfold nuN
    rw [hn1, hrl, r2 i hi h3]; rfl
end Go.Proofs.YtldaaelmifbbhaaGreat

/- A pattern's tree, node by node: the kinds of the trees that stand side by side (the last one first). Stage 7. -/
namespace Go.Proofs.YtldaaelmifbbhaaGreat
open Go.RowKit BS

/-- A node more: its kids are taken, if they may be its kids. -/
def stepK (st : List Int) (x : NdN) : Option (List Int) :=
  if nodeF x = true ∧ 0 ≤ x.kids ∧ x.kids.toNat ≤ st.length ∧ ((st.take x.kids.toNat).all fun k => kidF x.kind k) = true then some (x.kind :: st.drop x.kids.toNat) else none
def kstF (st : List Int) : List NdN → Option (List Int)
  | [] => some st
  | x :: l => (stepK st x).bind fun st' => kstF st' l
theorem kstF_append : ∀ (l m : List NdN) (st : List Int), kstF st (l ++ m) = (kstF st l).bind fun st' => kstF st' m
  | [], m, st => rfl
  | x :: l, m, st => by
    rw [List.cons_append, kstF, kstF]
    cases stepK st x with
    | none => rfl
    | some s => simp only [Option.bind_some]; exact kstF_append l m s
theorem kstF_one (st : List Int) (x : NdN) : kstF st [x] = stepK st x := by
  rw [kstF]
  cases stepK st x <;> rfl
theorem kstF_snoc (l : List NdN) (x : NdN) (st st' : List Int) (h : kstF st l = some st') : kstF st (l ++ [x]) = stepK st' x := by
  rw [kstF_append, h, Option.bind_some, kstF_one]
theorem stepK_some (st st' : List Int) (x : NdN) (h : stepK st x = some st') : nodeF x = true ∧ 0 ≤ x.kids ∧ x.kids.toNat ≤ st.length ∧ (∀ k ∈ st.take x.kids.toNat, kidF x.kind k = true) ∧ st' = x.kind :: st.drop x.kids.toNat := by
  unfold stepK at h
  split at h
  · rename_i hc
    exact ⟨hc.1, hc.2.1, hc.2.2.1, fun k hk => List.all_eq_true.1 hc.2.2.2 k hk, (Option.some.inj h).symm⟩
  · cases h
/-- What the kinds tell: the sizes, and that all is right so far. -/
theorem kst_inv : ∀ (n : Nat) (l : List NdN), l.length = n → ∀ ks, kstF [] l = some ks →
    ∃ st, stackF [] (ksN l) = some st ∧ (posF l.length st).map (kindF (l.map NdN.kind)) = ks ∧ (∀ x ∈ l, nodeF x = true ∧ 0 ≤ x.kids) ∧ RightKids (l.map NdN.kind) (ksN l)
  | 0, l, hl, ks, h => by
    obtain rfl : l = [] := List.eq_nil_of_length_eq_zero hl
    obtain rfl : [] = ks := by rw [kstF] at h; exact Option.some.inj h
    exact ⟨[], rfl, rfl, (fun x hx => by simp at hx), trivial⟩
  | n + 1, l, hl, ks, h => by
    obtain ⟨m, x, rfl⟩ : ∃ m x, l = m ++ [x] := by
      have hne : l ≠ [] := by rintro rfl; simp at hl
      exact ⟨l.dropLast, l.getLast hne, (List.dropLast_concat_getLast hne).symm⟩
    have hm : m.length = n := by simpa using hl
    rw [kstF_append] at h
    cases hk : kstF [] m with
    | none => rw [hk] at h; cases h
    | some ks0 =>
      rw [hk, Option.bind_some, kstF_one] at h
      obtain ⟨st, h1, h2, h3, h4⟩ := kst_inv n m hm ks0 hk
      obtain ⟨g1, g2, g3, g4, rfl⟩ := stepK_some ks0 ks x h
      have hkl : (ksN m).length = m.length := by simp [ksN]
      have hstl : st.length = ks0.length := by rw [← h2, List.length_map, posF_len]
      have ek : ksN (m ++ [x]) = ksN m ++ [x.kids.toNat] := by rw [ksN_app]; rfl
      have em : (m ++ [x]).map NdN.kind = m.map NdN.kind ++ [x.kind] := by simp
      have hpos := stackF_pos (ksN m) [] st (by simp) h1
      have hsum := stackF_sum (ksN m) [] st h1
      have hsum2 : st.sum = m.length := by rw [hsum]; simp [hkl]
      have hlast : kindF (m.map NdN.kind ++ [x.kind]) m.length = x.kind := by
        have := kindF_right (m.map NdN.kind) [x.kind] 0
        rw [List.length_map, Nat.zero_add] at this
        exact this
      have hlt : ∀ y ∈ posF m.length st, y < m.length := fun y hy => by
        cases hc : st with
        | nil => rw [hc] at hy; cases hy
        | cons z st2 =>
          have : 0 < m.length := by
            have := hpos z (by rw [hc]; exact List.mem_cons_self ..)
            rw [← hsum2, hc, List.sum_cons]; omega
          exact posF_lt m.length st this y hy
      have hmap : (posF m.length st).map (kindF (m.map NdN.kind ++ [x.kind])) = ks0 := by
        rw [← h2]
        exact List.map_congr_left fun y hy => kindF_left _ _ y (by rw [List.length_map]; exact hlt y hy)
      refine ⟨stepF st x.kids.toNat, ?_, ?_, ?_, ?_⟩
      · rw [ek, stackF_snoc, h1, Option.bind_some, if_pos (by omega)]
      · rw [em, List.length_append, show ([x] : List NdN).length = 1 from rfl, posF_step, List.map_cons, hlast]
        congr 1
        have hsp := posF_split x.kids.toNat st m.length
        have hd : (posF m.length st).drop x.kids.toNat = posF (m.length - (st.take x.kids.toNat).sum) (st.drop x.kids.toNat) := by
          conv => lhs; rw [hsp]
          rw [List.drop_append_of_le_length (by rw [List.length_take, posF_len]; omega), List.drop_of_length_le (by rw [List.length_take]; omega), List.nil_append]
        rw [← hd, List.map_drop, hmap]
      · intro y hy
        rcases List.mem_append.1 hy with h | h
        · exact h3 y h
        · rw [List.mem_singleton.1 h]; exact ⟨g1, g2⟩
      · unfold RightKids
        rw [em, ek, allKids_append _ _ _ _ _ h1, kidsOk_append, allKids_len, Nat.zero_add, hkl]
        refine ⟨?_, ?_, trivial⟩
        · exact (rightKids_left (m.map NdN.kind) [x.kind] (ksN m) (by rw [List.length_map, hkl])).2 h4
        · intro y hy
          rw [hlast]
          refine g4 _ ?_
          have : kindF (m.map NdN.kind ++ [x.kind]) y ∈ ((posF m.length st).take x.kids.toNat).map (kindF (m.map NdN.kind ++ [x.kind])) := List.mem_map_of_mem hy
          rwa [List.map_take, hmap] at this
/-- **One tree, and not too many groups: a pattern's.** -/
theorem kst_right (l : List NdN) (k : Int) (h : kstF [] l = some [k]) (hg : (l.map NdN.kind).countP (· == 3) ≤ 9) : rightR l = true := by
  obtain ⟨st, h1, h2, h3, h4⟩ := kst_inv l.length l rfl [k] h
  have hkl : (ksN l).length = l.length := by simp [ksN]
  have hl : st.length = 1 := by
    have := congrArg List.length h2
    rw [List.length_map, posF_len] at this
    exact this
  obtain ⟨z, rfl⟩ := List.length_eq_one_iff.1 hl
  have hsum := stackF_sum (ksN l) [] [z] h1
  have hz : z = l.length := by simpa [hkl] using hsum
  subst hz
  exact (rightR_iff l).2 ⟨formed_of l (fun x hx => (h3 x hx).2) h1, fun x hx => (h3 x hx).1, h4, hg⟩
end Go.Proofs.YtldaaelmifbbhaaGreat

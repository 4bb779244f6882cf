/- Patterns' trees, plainly: what AstGrows wants: a Group around a tree, an Alt of two. -/
import Derived.Test.YtlhlgohgmbkaoaaAt
namespace Go.Proofs.Ytlhlgohgmbkaoaa
open Go.RowKit BS

theorem kidsOk_iff (f : Nat → Int) : ∀ (cs : List (List Nat)) (i : Nat), KidsOk f i cs ↔ ∀ j (h : j < cs.length), ∀ x ∈ cs[j], kidF (f (i + j)) (f x) = true
  | [], i => by simp [KidsOk]
  | c :: cs, i => by
    rw [KidsOk, kidsOk_iff f cs (i + 1)]
    constructor
    · rintro ⟨h1, h2⟩ j hj x hx
      cases j with
      | zero => exact h1 x hx
      | succ j =>
        have := h2 j (by simpa using hj) x hx
        rwa [show i + 1 + j = i + (j + 1) by omega] at this
    · intro h
      refine ⟨fun x hx => h 0 (by simp) x hx, fun j hj x hx => ?_⟩
      have := h (j + 1) (by simpa using hj) x hx
      rwa [show i + (j + 1) = i + 1 + j by omega] at this
theorem kidsOkB_iff (l : List NdN) (hf : FormedN l) : (∀ i, i < l.length → kidsOkB l i = true) ↔ RightKids (l.map NdN.kind) (ksN l) := by
  obtain ⟨hst, hkl, _⟩ := formed_stack l hf
  have hal := allKids_len (ksN l) [] 0
  unfold RightKids
  rw [kidsOk_iff]
  have hk : ∀ i (h : i < (allKids 0 [] (ksN l)).length), kidsR l i = (((allKids 0 [] (ksN l))[i]).reverse).map (fun x : Nat => (x : Int)) := fun i h => by
    unfold kidsR
    rw [if_pos ⟨hf, by omega, by omega⟩, show (i : Int).toNat = i from rfl, List.getElem?_eq_getElem h, Option.getD_some]
  constructor
  · intro h j hj x hx
    have h1 := h j (by omega)
    unfold kidsOkB at h1
    rw [hk j hj, List.all_eq_true] at h1
    have := h1 (x : Int) (List.mem_map.2 ⟨x, List.mem_reverse.2 hx, rfl⟩)
    rw [Nat.zero_add]
    exact this
  · intro h i hi
    unfold kidsOkB
    rw [hk i (by omega), List.all_eq_true]
    intro y hy
    obtain ⟨x, hx, rfl⟩ := List.mem_map.1 hy
    have := h i (by omega) x (List.mem_reverse.1 hx)
    rw [Nat.zero_add] at this
    exact this
theorem grpN_count (l : List NdN) : grpN l l.length = (l.map NdN.kind).countP (· == 3) := by
  have e : (List.range l.length).map (kdN l) = l.map NdN.kind := by
    apply List.ext_getElem (by simp)
    intro i h1 h2
    rw [List.getElem_map, List.getElem_range, List.getElem_map]
    exact kdN_get l i (by simpa using h2)
  rw [← e, List.countP_map]
  rfl
theorem rightR_iff (l : List NdN) : rightR l = true ↔ FormedN l ∧ (∀ x ∈ l, nodeF x = true) ∧ RightKids (l.map NdN.kind) (ksN l) ∧ (l.map NdN.kind).countP (· == 3) ≤ 9 := by
  unfold rightR
  rw [Bool.and_eq_true, Bool.and_eq_true, decide_eq_true_iff, decide_eq_true_iff, List.all_eq_true, grpN_count]
  constructor
  · rintro ⟨h1, h2, h3⟩
    have h4 : ∀ i (h : i < l.length), nodeF l[i] = true ∧ kidsOkB l i = true := fun i h => by
      have := h2 i (List.mem_range.2 h)
      rw [okN_split l i h, Bool.and_eq_true] at this
      exact this
    refine ⟨h1, fun x hx => ?_, (kidsOkB_iff l h1).1 (fun i hi => (h4 i hi).2), h3⟩
    obtain ⟨i, hi, rfl⟩ := List.getElem_of_mem hx
    exact (h4 i hi).1
  · rintro ⟨h1, h2, h3, h4⟩
    refine ⟨h1, fun i hi => ?_, h4⟩
    have hi := List.mem_range.1 hi
    rw [okN_split l i hi, Bool.and_eq_true]
    exact ⟨h2 _ (List.getElem_mem hi), (kidsOkB_iff l h1).2 h3 i hi⟩
def ndG : NdN := ⟨3, 1, 0, 0, 0⟩
def ndL : NdN := ⟨6, 2, 0, 0, 0⟩
theorem formed_of (l : List NdN) (h1 : ∀ x ∈ l, 0 ≤ x.kids) (h2 : stackF [] (ksN l) = some [l.length]) : FormedN l := by
  unfold FormedN
  rw [formed_iff]
  refine ⟨fun k hk => ?_, by rw [List.length_map]; exact h2⟩
  obtain ⟨x, hx, rfl⟩ := List.mem_map.1 hk
  exact h1 x hx
theorem formed_kids (l : List NdN) (hf : FormedN l) : ∀ x ∈ l, 0 ≤ x.kids := fun x hx => ((formed_iff (l.map NdN.kids)).1 hf).1 x.kids (List.mem_map_of_mem hx)
theorem ksN_app (l m : List NdN) : ksN (l ++ m) = ksN l ++ ksN m := by simp [ksN]
theorem formed_group (l : List NdN) (hf : FormedN l) : FormedN (l ++ [ndG]) := by
  obtain ⟨hst, hkl, _⟩ := formed_stack l hf
  refine formed_of _ (fun x hx => ?_) ?_
  · rcases List.mem_append.1 hx with h | h
    · exact formed_kids l hf x h
    · rw [List.mem_singleton.1 h]; decide
  · rw [ksN_app, stackF_append, hst]
    show stackF [l.length] [1] = _
    unfold stackF stackF
    rw [if_pos (by simp)]
    simp [stepF, Nat.add_comm]
theorem formed_two (l m : List NdN) (hl : FormedN l) (hm : FormedN m) : FormedN (l ++ m ++ [ndL]) := by
  obtain ⟨h1, _⟩ := formed_stack l hl
  obtain ⟨h2, _⟩ := formed_stack m hm
  refine formed_of _ (fun x hx => ?_) ?_
  · rcases List.mem_append.1 hx with h | h
    · rcases List.mem_append.1 h with h | h
      · exact formed_kids l hl x h
      · exact formed_kids m hm x h
    · rw [List.mem_singleton.1 h]; decide
  · have h3 := stackF_below [l.length] (ksN m) [] [m.length] h2
    rw [ksN_app, ksN_app, stackF_append, stackF_append, h1]
    show ((stackF [l.length] (ksN m)).bind fun st' => stackF st' [2]) = _
    rw [show [l.length] = ([] : List Nat) ++ [l.length] from rfl, h3]
    show stackF [m.length, l.length] [2] = _
    unfold stackF stackF
    rw [if_pos (by simp)]
    simp [stepF]
    omega
/-- **A Group around a pattern's tree is one just if there are not too many.** -/
theorem right_group (l : List NdN) (h : rightR l = true) : rightR (l ++ [ndG]) = decide (grpN l l.length < 9) := by
  obtain ⟨h1, h2, h3, h4⟩ := (rightR_iff l).1 h
  obtain ⟨hst, hkl, _⟩ := formed_stack l h1
  rw [Bool.eq_iff_iff, rightR_iff, decide_eq_true_iff, grpN_count]
  have e : (l ++ [ndG]).map NdN.kind = l.map NdN.kind ++ [3] := by simp [ndG]
  have ek : ksN (l ++ [ndG]) = ksN l ++ [1] := by rw [ksN_app]; rfl
  rw [e, ek, List.countP_append, rightKids_group _ _ (by rw [List.length_map, hkl]) (by rw [hkl]; exact hst)]
  constructor
  · rintro ⟨_, _, _, h5⟩
    have : ([3] : List Int).countP (· == 3) = 1 := by decide
    omega
  · intro h5
    have : ([3] : List Int).countP (· == 3) = 1 := by decide
    refine ⟨formed_group l h1, fun x hx => ?_, h3, by omega⟩
    rcases List.mem_append.1 hx with h | h
    · exact h2 x h
    · rw [List.mem_singleton.1 h]; decide
theorem right_two (l m : List NdN) (h : rightR l = true) (hm : rightR m = true) : rightR (l ++ m ++ [ndL]) = ((kdN l (l.length - 1) != 6) && (kdN m (m.length - 1) != 6) && decide (grpN l l.length + grpN m m.length ≤ 9)) := by
  obtain ⟨h1, h2, h3, h4⟩ := (rightR_iff l).1 h
  obtain ⟨g1, g2, g3, g4⟩ := (rightR_iff m).1 hm
  obtain ⟨hst, hkl, _⟩ := formed_stack l h1
  obtain ⟨gst, gkl, _⟩ := formed_stack m g1
  rw [Bool.eq_iff_iff, rightR_iff, Bool.and_eq_true, Bool.and_eq_true, decide_eq_true_iff, grpN_count, grpN_count]
  have e : (l ++ m ++ [ndL]).map NdN.kind = l.map NdN.kind ++ m.map NdN.kind ++ [6] := by simp [ndL]
  have ek : ksN (l ++ m ++ [ndL]) = ksN l ++ ksN m ++ [2] := by rw [ksN_app, ksN_app]; rfl
  have hc : ([6] : List Int).countP (· == 3) = 0 := by decide
  rw [e, ek, List.countP_append, List.countP_append, hc, rightKids_two _ _ _ _ (by rw [List.length_map, hkl]) (by rw [List.length_map, gkl]) (by rw [hkl]; exact hst) (by rw [gkl]; exact gst), List.length_map, List.length_map]
  constructor
  · rintro ⟨_, _, ⟨_, _, h5, h6⟩, h7⟩
    exact ⟨⟨h5, h6⟩, by omega⟩
  · rintro ⟨⟨h5, h6⟩, h7⟩
    refine ⟨formed_two l m h1 g1, fun x hx => ?_, ⟨h3, g3, h5, h6⟩, by omega⟩
    rcases List.mem_append.1 hx with h | h
    · rcases List.mem_append.1 h with h | h
      · exact h2 x h
      · exact g2 x h
    · rw [List.mem_singleton.1 h]; decide
/-- **In a Group around all the numbers are one more.** -/
theorem nums_group (l : List NdN) (hf : FormedN l) : (numsR (l ++ [ndG])).length = l.length + 1 ∧ (numsR (l ++ [ndG])).getD l.length 0 = 1 ∧
    ∀ i, i < l.length → kdN l i = 3 → (numsR (l ++ [ndG])).getD i 0 = (numsR l).getD i 0 + 1 := by
  obtain ⟨hst, hkl, hrl, hsl, hR⟩ := formed_stack l hf
  obtain ⟨gst, gkl, grl, gsl, gR⟩ := formed_stack (l ++ [ndG]) (formed_group l hf)
  rw [List.length_append] at grl
  have hsz : sizesR (l ++ [ndG]) = sizesR l ++ [((1 + l.length : Nat) : Int)] := by
    rw [gR, hR, ksN_app, show ksN [ndG] = [1] from rfl, sizesF_snoc _ _ _ _ hst, List.map_append]
    simp
  have hkd : ∀ i, i < l.length → kdN (l ++ [ndG]) i = kdN l i := fun i hi => by
    rw [kdN_get l i hi, kdN_get (l ++ [ndG]) i (by simp; omega), List.getElem_append_left hi]
  have hkn : kdN (l ++ [ndG]) l.length = 3 := by
    rw [kdN_get _ l.length (by simp)]
    simp [ndG]
  have hfi : ∀ i, i < l.length → fiN (l ++ [ndG]) i = fiN l i := fun i hi => by
    unfold fiN
    rw [hsz, List.getD_eq_getElem?_getD, List.getD_eq_getElem?_getD, List.getElem?_append_left (by omega)]
  have hfn : fiN (l ++ [ndG]) l.length = -1 := by
    unfold fiN
    rw [hsz, List.getD_eq_getElem?_getD, List.getElem?_append_right (by omega), hrl, Nat.sub_self]
    simp
    omega
  have hlow : ∀ i, i < l.length → -1 ≤ fiN l i := fun i hi => by
    rw [fiN_get l i (by omega)]
    have := sizesR_bound l i (by omega)
    omega
  obtain ⟨r1, r2⟩ := num_grows (kdN l) (kdN (l ++ [ndG])) (fiN l) (fiN (l ++ [ndG])) l.length hkd hkn hfi hfn hlow
  have hn1 : (sizesR (l ++ [ndG])).length = l.length + 1 := grl
  refine ⟨by rw [numsR_len, hn1], ?_, fun i hi h3 => ?_⟩
  · rw [numsR_get _ _ (by omega)]
    unfold nuN
    rw [hn1, r1]; rfl
  · rw [numsR_get _ _ (by omega), numsR_get _ _ (by omega)]
    unfold nuN
    rw [hn1, hrl, r2 i hi h3]; rfl
end Go.Proofs.Ytlhlgohgmbkaoaa

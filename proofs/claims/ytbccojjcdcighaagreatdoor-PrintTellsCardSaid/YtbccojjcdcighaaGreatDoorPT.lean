/- Texts put together: As At Av Pa Ya. -/
import Derived.Test.YtbccojjcdcighaaGreatDoorPP
import Derived.Test.YtbccojjcdcighaaGreatDoorPC
namespace Go.Proofs.YtbccojjcdcighaaGreatDoor
open Go.RowKit BS
def IntsB (base : Nat) (l : List Int) (a : Option Addr) (W : World) : Prop := l ≠ [] → ∃ g o, a = some ⟨g, o, none⟩ ∧ base ≤ g ∧ g < W.heap.size ∧ ∀ i (h : i < l.length), W.cell? ⟨g, o + i, none⟩ = some (.int .i64 l[i])
theorem IntsB.o {base : Nat} {l : List Int} {a : Option Addr} {W : World} (h : IntsB base l a W) : IntsO l a W := fun hne => by
  obtain ⟨g, o, e, _, hg, hc⟩ := h hne
  exact ⟨g, o, e, hg, hc⟩
theorem NodesAt.alloc {l : List NdN} {a : Option Addr} {W : World} (h : NodesAt l a W) (o : Obj) : NodesAt l a (W.alloc o) := h.below ((Below.refl _ _).alloc (Nat.le_refl _) o)
def l6 : List NdN := [⟨2, 0, 0, 0, 0⟩, ⟨2, 0, 0, 0, 0⟩, ⟨3, 1, 0, 0, 0⟩, ⟨5, 2, 0, 0, 0⟩]
@[reducible] def c6 : Array Value := #[.int .i64 2, .int .i64 0, .int .i64 0, .int .i64 0, .int .u64 0, .int .u64 0, .int .u64 0, .int .u64 0, .int .i64 2, .int .i64 0, .int .i64 0, .int .i64 0, .int .u64 0, .int .u64 0, .int .u64 0, .int .u64 0, .int .i64 3, .int .i64 1, .int .i64 0, .int .i64 0, .int .u64 0, .int .u64 0, .int .u64 0, .int .u64 0, .int .i64 5, .int .i64 2, .int .i64 0, .int .i64 0, .int .u64 0, .int .u64 0, .int .u64 0, .int .u64 0]
theorem numsR_len (l : List NdN) : (numsR l).length = (sizesR l).length := by unfold numsR; rw [List.length_map, List.length_range]
end Go.Proofs.YtbccojjcdcighaaGreatDoor

namespace Go.Proofs.YtbccojjcdcighaaGreatDoor
open Go.RowKit BS
@[reducible] def FormedN (l : List NdN) : Prop := manyF 0 (l.map NdN.kids) = some 1
theorem formed_stack (l : List NdN) (hf : FormedN l) : stackF [] (ksN l) = some [l.length] ∧ (ksN l).length = l.length ∧ (sizesR l).length = l.length ∧ (sizesF [] (ksN l)).length = l.length ∧ sizesR l = (sizesF [] (ksN l)).map (fun x : Nat => (x : Int)) := by
  obtain ⟨hk0, hst⟩ := (formed_iff (l.map NdN.kids)).1 hf
  have hst : stackF [] (ksN l) = some [(l.map NdN.kids).length] := hst
  rw [List.length_map] at hst
  have hkl : (ksN l).length = l.length := by simp [ksN]
  refine ⟨hst, hkl, ?_, by rw [sizesF_len, hkl], if_pos hf⟩
  rw [sizesR_len]
  exact if_pos hf
def nuN (l : List NdN) (i : Nat) : Nat := numF (kdN l) (fiN l) (sizesR l).length i
theorem numsR_get (l : List NdN) (i : Nat) (h : i < (sizesR l).length) : (numsR l).getD i 0 = (nuN l i : Int) := by
  unfold numsR nuN
  rw [List.getD_eq_getElem?_getD, List.getElem?_map, List.getElem?_range h]
  rfl
theorem nuN_pos (l : List NdN) (i : Nat) (hi : i < (sizesR l).length) : 0 < nuN l i ↔ kdN l i = 3 := num_pos _ _ _ _ hi
end Go.Proofs.YtbccojjcdcighaaGreatDoor

namespace Go.Proofs.YtbccojjcdcighaaGreatDoor
open Go.RowKit BS
theorem kidsOk_iff (f : Nat → Int) : ∀ (cs : List (List Nat)) (i : Nat), KidsOk f i cs ↔ ∀ j (h : j < cs.length), ∀ x ∈ cs[j], kidF (f (i + j)) (f x) = true
  | [], i => by simp [KidsOk]
  | c :: cs, i => by
    rw [KidsOk, kidsOk_iff f cs (i + 1)]
    constructor
    · rintro ⟨h1, h2⟩ j hj x hx
      cases j with
      | zero => exact h1 x hx
      | succ j =>
        have := h2 j (by simpa using hj) x hx
        rwa [show i + 1 + j = i + (j + 1) by omega] at this
    · intro h
      refine ⟨fun x hx => h 0 (by simp) x hx, fun j hj x hx => ?_⟩
      have := h (j + 1) (by simpa using hj) x hx
      rwa [show i + (j + 1) = i + 1 + j by omega] at this
theorem kidsOkB_iff (l : List NdN) (hf : FormedN l) : (∀ i, i < l.length → kidsOkB l i = true) ↔ RightKids (l.map NdN.kind) (ksN l) := by
  obtain ⟨hst, hkl, _⟩ := formed_stack l hf
  have hal := allKids_len (ksN l) [] 0
  unfold RightKids
  rw [kidsOk_iff]
  have hk : ∀ i (h : i < (allKids 0 [] (ksN l)).length), kidsR l i = (((allKids 0 [] (ksN l))[i]).reverse).map (fun x : Nat => (x : Int)) := fun i h => by
    unfold kidsR
    rw [if_pos ⟨hf, by omega, by omega⟩, show (i : Int).toNat = i from rfl, List.getElem?_eq_getElem h, Option.getD_some]
  constructor
  · intro h j hj x hx
    have h1 := h j (by omega)
    unfold kidsOkB at h1
    rw [hk j hj, List.all_eq_true] at h1
    have := h1 (x : Int) (List.mem_map.2 ⟨x, List.mem_reverse.2 hx, rfl⟩)
    rw [Nat.zero_add]
    exact this
  · intro h i hi
    unfold kidsOkB
    rw [hk i (by omega), List.all_eq_true]
    intro y hy
    obtain ⟨x, hx, rfl⟩ := List.mem_map.1 hy
    have := h i (by omega) x (List.mem_reverse.1 hx)
    rw [Nat.zero_add] at this
    exact this
theorem grpN_count (l : List NdN) : grpN l l.length = (l.map NdN.kind).countP (· == 3) := by
  have e : (List.range l.length).map (kdN l) = l.map NdN.kind := by
    apply List.ext_getElem (by simp)
    intro i h1 h2
    rw [List.getElem_map, List.getElem_range, List.getElem_map]
    exact kdN_get l i (by simpa using h2)
  rw [← e, List.countP_map]
  rfl
theorem rightR_iff (l : List NdN) : rightR l = true ↔ FormedN l ∧ (∀ x ∈ l, nodeF x = true) ∧ RightKids (l.map NdN.kind) (ksN l) ∧ (l.map NdN.kind).countP (· == 3) ≤ 9 := by
  unfold rightR
  rw [Bool.and_eq_true, Bool.and_eq_true, decide_eq_true_iff, decide_eq_true_iff, List.all_eq_true, grpN_count]
  constructor
  · rintro ⟨h1, h2, h3⟩
    have h4 : ∀ i (h : i < l.length), nodeF l[i] = true ∧ kidsOkB l i = true := fun i h => by
      have := h2 i (List.mem_range.2 h)
      rw [okN_split l i h, Bool.and_eq_true] at this
      exact this
    refine ⟨h1, fun x hx => ?_, (kidsOkB_iff l h1).1 (fun i hi => (h4 i hi).2), h3⟩
    obtain ⟨i, hi, rfl⟩ := List.getElem_of_mem hx
    exact (h4 i hi).1
  · rintro ⟨h1, h2, h3, h4⟩
    refine ⟨h1, fun i hi => ?_, h4⟩
    have hi := List.mem_range.1 hi
    rw [okN_split l i hi, Bool.and_eq_true]
    exact ⟨h2 _ (List.getElem_mem hi), (kidsOkB_iff l h1).2 h3 i hi⟩
def ndG : NdN := ⟨3, 1, 0, 0, 0⟩
def ndL : NdN := ⟨6, 2, 0, 0, 0⟩
theorem formed_of (l : List NdN) (h1 : ∀ x ∈ l, 0 ≤ x.kids) (h2 : stackF [] (ksN l) = some [l.length]) : FormedN l := by
  unfold FormedN
  rw [formed_iff]
  refine ⟨fun k hk => ?_, by rw [List.length_map]; exact h2⟩
  obtain ⟨x, hx, rfl⟩ := List.mem_map.1 hk
  exact h1 x hx
theorem formed_kids (l : List NdN) (hf : FormedN l) : ∀ x ∈ l, 0 ≤ x.kids := fun x hx => ((formed_iff (l.map NdN.kids)).1 hf).1 x.kids (List.mem_map_of_mem hx)
theorem ksN_app (l m : List NdN) : ksN (l ++ m) = ksN l ++ ksN m := by simp [ksN]
theorem formed_group (l : List NdN) (hf : FormedN l) : FormedN (l ++ [ndG]) := by
  obtain ⟨hst, hkl, _⟩ := formed_stack l hf
  refine formed_of _ (fun x hx => ?_) ?_
  · rcases List.mem_append.1 hx with h | h
    · exact formed_kids l hf x h
    · rw [List.mem_singleton.1 h]; decide
  · rw [ksN_app, stackF_append, hst]
    show stackF [l.length] [1] = _
    unfold stackF stackF
    rw [if_pos (by simp)]
    simp [stepF, Nat.add_comm]
theorem formed_two (l m : List NdN) (hl : FormedN l) (hm : FormedN m) : FormedN (l ++ m ++ [ndL]) := by
  obtain ⟨h1, _⟩ := formed_stack l hl
  obtain ⟨h2, _⟩ := formed_stack m hm
  refine formed_of _ (fun x hx => ?_) ?_
  · rcases List.mem_append.1 hx with h | h
    · rcases List.mem_append.1 h with h | h
      · exact formed_kids l hl x h
      · exact formed_kids m hm x h
    · rw [List.mem_singleton.1 h]; decide
  · have h3 := stackF_below [l.length] (ksN m) [] [m.length] h2
    rw [ksN_app, ksN_app, stackF_append, stackF_append, h1]
    show ((stackF [l.length] (ksN m)).bind fun st' => stackF st' [2]) = _
    rw [show [l.length] = ([] : List Nat) ++ [l.length] from rfl, h3]
    show stackF [m.length, l.length] [2] = _
    unfold stackF stackF
    rw [if_pos (by simp)]
    simp [stepF]
    omega
theorem right_group (l : List NdN) (h : rightR l = true) : rightR (l ++ [ndG]) = decide (grpN l l.length < 9) := by
  obtain ⟨h1, h2, h3, h4⟩ := (rightR_iff l).1 h
  obtain ⟨hst, hkl, _⟩ := formed_stack l h1
  rw [Bool.eq_iff_iff, rightR_iff, decide_eq_true_iff, grpN_count]
  have e : (l ++ [ndG]).map NdN.kind = l.map NdN.kind ++ [3] := by simp [ndG]
  have ek : ksN (l ++ [ndG]) = ksN l ++ [1] := by rw [ksN_app]; rfl
  rw [e, ek, List.countP_append, rightKids_group _ _ (by rw [List.length_map, hkl]) (by rw [hkl]; exact hst)]
  constructor
  · rintro ⟨_, _, _, h5⟩
    have : ([3] : List Int).countP (· == 3) = 1 := by decide
    omega
  · intro h5
    have : ([3] : List Int).countP (· == 3) = 1 := by decide
    refine ⟨formed_group l h1, fun x hx => ?_, h3, by omega⟩
    rcases List.mem_append.1 hx with h | h
    · exact h2 x h
    · rw [List.mem_singleton.1 h]; decide
theorem right_two (l m : List NdN) (h : rightR l = true) (hm : rightR m = true) : rightR (l ++ m ++ [ndL]) = ((kdN l (l.length - 1) != 6) && (kdN m (m.length - 1) != 6) && decide (grpN l l.length + grpN m m.length ≤ 9)) := by
  obtain ⟨h1, h2, h3, h4⟩ := (rightR_iff l).1 h
  obtain ⟨g1, g2, g3, g4⟩ := (rightR_iff m).1 hm
  obtain ⟨hst, hkl, _⟩ := formed_stack l h1
  obtain ⟨gst, gkl, _⟩ := formed_stack m g1
  rw [Bool.eq_iff_iff, rightR_iff, Bool.and_eq_true, Bool.and_eq_true, decide_eq_true_iff, grpN_count, grpN_count]
  have e : (l ++ m ++ [ndL]).map NdN.kind = l.map NdN.kind ++ m.map NdN.kind ++ [6] := by simp [ndL]
  have ek : ksN (l ++ m ++ [ndL]) = ksN l ++ ksN m ++ [2] := by rw [ksN_app, ksN_app]; rfl
  have hc : ([6] : List Int).countP (· == 3) = 0 := by decide
  rw [e, ek, List.countP_append, List.countP_append, hc, rightKids_two _ _ _ _ (by rw [List.length_map, hkl]) (by rw [List.length_map, gkl]) (by rw [hkl]; exact hst) (by rw [gkl]; exact gst), List.length_map, List.length_map]
  constructor
  · rintro ⟨_, _, ⟨_, _, h5, h6⟩, h7⟩
    exact ⟨⟨h5, h6⟩, by omega⟩
  · rintro ⟨⟨h5, h6⟩, h7⟩
    refine ⟨formed_two l m h1 g1, fun x hx => ?_, ⟨h3, g3, h5, h6⟩, by omega⟩
    rcases List.mem_append.1 hx with h | h
    · rcases List.mem_append.1 h with h | h
      · exact h2 x h
      · exact g2 x h
    · rw [List.mem_singleton.1 h]; decide
end Go.Proofs.YtbccojjcdcighaaGreatDoor

namespace Go.Proofs.YtbccojjcdcighaaGreatDoor
open Go.RowKit BS
def stepK (st : List Int) (x : NdN) : Option (List Int) :=
  if nodeF x = true ∧ 0 ≤ x.kids ∧ x.kids.toNat ≤ st.length ∧ ((st.take x.kids.toNat).all fun k => kidF x.kind k) = true then some (x.kind :: st.drop x.kids.toNat) else none
def kstF (st : List Int) : List NdN → Option (List Int)
  | [] => some st
  | x :: l => (stepK st x).bind fun st' => kstF st' l
theorem kstF_append : ∀ (l m : List NdN) (st : List Int), kstF st (l ++ m) = (kstF st l).bind fun st' => kstF st' m
  | [], m, st => rfl
  | x :: l, m, st => by
    rw [List.cons_append, kstF, kstF]
    cases stepK st x with
    | none => rfl
    | some s => simp only [Option.bind_some]; exact kstF_append l m s
theorem kstF_one (st : List Int) (x : NdN) : kstF st [x] = stepK st x := by
  rw [kstF]
  cases stepK st x <;> rfl
theorem kstF_snoc (l : List NdN) (x : NdN) (st st' : List Int) (h : kstF st l = some st') : kstF st (l ++ [x]) = stepK st' x := by
  rw [kstF_append, h, Option.bind_some, kstF_one]
theorem stepK_some (st st' : List Int) (x : NdN) (h : stepK st x = some st') : nodeF x = true ∧ 0 ≤ x.kids ∧ x.kids.toNat ≤ st.length ∧ (∀ k ∈ st.take x.kids.toNat, kidF x.kind k = true) ∧ st' = x.kind :: st.drop x.kids.toNat := by
  unfold stepK at h
  split at h
  · rename_i hc
    exact ⟨hc.1, hc.2.1, hc.2.2.1, fun k hk => List.all_eq_true.1 hc.2.2.2 k hk, (Option.some.inj h).symm⟩
  · cases h
theorem kst_inv : ∀ (n : Nat) (l : List NdN), l.length = n → ∀ ks, kstF [] l = some ks →
    ∃ st, stackF [] (ksN l) = some st ∧ (posF l.length st).map (kindF (l.map NdN.kind)) = ks ∧ (∀ x ∈ l, nodeF x = true ∧ 0 ≤ x.kids) ∧ RightKids (l.map NdN.kind) (ksN l)
  | 0, l, hl, ks, h => by
    obtain rfl : l = [] := List.eq_nil_of_length_eq_zero hl
    obtain rfl : [] = ks := by rw [kstF] at h; exact Option.some.inj h
    exact ⟨[], rfl, rfl, (fun x hx => by simp at hx), trivial⟩
  | n + 1, l, hl, ks, h => by
    obtain ⟨m, x, rfl⟩ : ∃ m x, l = m ++ [x] := by
      have hne : l ≠ [] := by rintro rfl; simp at hl
      exact ⟨l.dropLast, l.getLast hne, (List.dropLast_concat_getLast hne).symm⟩
    have hm : m.length = n := by simpa using hl
    rw [kstF_append] at h
    cases hk : kstF [] m with
    | none => rw [hk] at h; cases h
    | some ks0 =>
      rw [hk, Option.bind_some, kstF_one] at h
      obtain ⟨st, h1, h2, h3, h4⟩ := kst_inv n m hm ks0 hk
      obtain ⟨g1, g2, g3, g4, rfl⟩ := stepK_some ks0 ks x h
      have hkl : (ksN m).length = m.length := by simp [ksN]
      have hstl : st.length = ks0.length := by rw [← h2, List.length_map, posF_len]
      have ek : ksN (m ++ [x]) = ksN m ++ [x.kids.toNat] := by rw [ksN_app]; rfl
      have em : (m ++ [x]).map NdN.kind = m.map NdN.kind ++ [x.kind] := by simp
      have hpos := stackF_pos (ksN m) [] st (by simp) h1
      have hsum := stackF_sum (ksN m) [] st h1
      have hsum2 : st.sum = m.length := by rw [hsum]; simp [hkl]
      have hlast : kindF (m.map NdN.kind ++ [x.kind]) m.length = x.kind := by
        have := kindF_right (m.map NdN.kind) [x.kind] 0
        rw [List.length_map, Nat.zero_add] at this
        exact this
      have hlt : ∀ y ∈ posF m.length st, y < m.length := fun y hy => by
        cases hc : st with
        | nil => rw [hc] at hy; cases hy
        | cons z st2 =>
          have : 0 < m.length := by
            have := hpos z (by rw [hc]; exact List.mem_cons_self ..)
            rw [← hsum2, hc, List.sum_cons]; omega
          exact posF_lt m.length st this y hy
      have hmap : (posF m.length st).map (kindF (m.map NdN.kind ++ [x.kind])) = ks0 := by
        rw [← h2]
        exact List.map_congr_left fun y hy => kindF_left _ _ y (by rw [List.length_map]; exact hlt y hy)
      refine ⟨stepF st x.kids.toNat, ?_, ?_, ?_, ?_⟩
      · rw [ek, stackF_snoc, h1, Option.bind_some, if_pos (by omega)]
      · rw [em, List.length_append, show ([x] : List NdN).length = 1 from rfl, posF_step, List.map_cons, hlast]
        congr 1
        have hsp := posF_split x.kids.toNat st m.length
        have hd : (posF m.length st).drop x.kids.toNat = posF (m.length - (st.take x.kids.toNat).sum) (st.drop x.kids.toNat) := by
          conv => lhs; rw [hsp]
          rw [List.drop_append_of_le_length (by rw [List.length_take, posF_len]; omega), List.drop_of_length_le (by rw [List.length_take]; omega), List.nil_append]
        rw [← hd, List.map_drop, hmap]
      · intro y hy
        rcases List.mem_append.1 hy with h | h
        · exact h3 y h
        · rw [List.mem_singleton.1 h]; exact ⟨g1, g2⟩
      · unfold RightKids
        rw [em, ek, allKids_append _ _ _ _ _ h1, kidsOk_append, allKids_len, Nat.zero_add, hkl]
        refine ⟨?_, ?_, trivial⟩
        · exact (rightKids_left (m.map NdN.kind) [x.kind] (ksN m) (by rw [List.length_map, hkl])).2 h4
        · intro y hy
          rw [hlast]
          refine g4 _ ?_
          have : kindF (m.map NdN.kind ++ [x.kind]) y ∈ ((posF m.length st).take x.kids.toNat).map (kindF (m.map NdN.kind ++ [x.kind])) := List.mem_map_of_mem hy
          rwa [List.map_take, hmap] at this
theorem kst_right (l : List NdN) (k : Int) (h : kstF [] l = some [k]) (hg : (l.map NdN.kind).countP (· == 3) ≤ 9) : rightR l = true := by
  obtain ⟨st, h1, h2, h3, h4⟩ := kst_inv l.length l rfl [k] h
  have hkl : (ksN l).length = l.length := by simp [ksN]
  have hl : st.length = 1 := by
    have := congrArg List.length h2
    rw [List.length_map, posF_len] at this
    exact this
  obtain ⟨z, rfl⟩ := List.length_eq_one_iff.1 hl
  have hsum := stackF_sum (ksN l) [] [z] h1
  have hz : z = l.length := by simpa [hkl] using hsum
  subst hz
  exact (rightR_iff l).2 ⟨formed_of l (fun x hx => (h3 x hx).2) h1, fun x hx => (h3 x hx).1, h4, hg⟩
end Go.Proofs.YtbccojjcdcighaaGreatDoor

namespace Go.Proofs.YtbccojjcdcighaaGreatDoor
open Go.RowKit BS
@[reducible] def trC (a : Option Addr) (n cap : Nat) (b : Option Addr) (m c : Nat) : Array Value := #[.slice a n cap, .slice b m c]
def TreeQ (l : List NdN) (a : Option Addr) (cap : Nat) (w : World) (e : Ending) (w' : World) : Prop :=
  Below w.heap.size w w' ∧ ((manyF 0 (l.map NdN.kids) ≠ some 1 ∧ e = .returned (.tuple #[.agg (trC none 0 0 none 0 0), .bool false])) ∨
    (manyF 0 (l.map NdN.kids) = some 1 ∧ ∃ b, e = .returned (.tuple #[.agg (trC a l.length cap (some ⟨b, 0, none⟩) l.length l.length), .bool true]) ∧ IntsB w.heap.size (sizesR l) (some ⟨b, 0, none⟩) w'))
def TreeQ2 (l : List NdN) (a : Option Addr) (cap : Nat) (w : World) (e : Ending) (w' : World) : Prop :=
  Below w.heap.size w w' ∧ ((manyF 0 (l.map NdN.kids) ≠ some 1 ∧ e = .returned (.tuple #[.agg (trC none 0 0 none 0 0), .bool false])) ∨
    (manyF 0 (l.map NdN.kids) = some 1 ∧ ∃ b, e = .returned (.tuple #[.agg (trC a l.length cap (some ⟨b, 0, none⟩) l.length l.length), .bool true]) ∧ w.heap.size ≤ b ∧ ∃ vs : Array Value, Blk w' b vs 3 ∧ ∀ j (h : j < (sizesR l).length), vs[j]? = some (.int .i64 (sizesR l)[j])))
theorem kids_pos (l : List NdN) (h : ∀ j (h : j < l.length), 0 ≤ l[j].kids) : ∀ k ∈ l.map NdN.kids, 0 ≤ k := fun k hk => by
  obtain ⟨x, hx, rfl⟩ := List.mem_map.1 hk
  obtain ⟨j, hj, rfl⟩ := List.getElem_of_mem hx
  exact h j hj
theorem formed_last (l : List NdN) (st : List Nat) (hk : ∀ j (h : j < l.length), 0 ≤ l[j].kids) (hs : stackF [] (ksN l) = some st) (hn : 0 < l.length) (h' : l.length - 1 < (sizesF [] (ksN l)).length) :
    manyF 0 (l.map NdN.kids) = some 1 ↔ (sizesF [] (ksN l))[l.length - 1] = l.length := by
  have hkl : (ksN l).length = l.length := by simp [ksN]
  have hsum := stackF_sum _ _ _ hs
  have hpos := stackF_pos (ksN l) [] st (by simp) hs
  have hr := roots_all (ksN l) [] [] st (by simp) (by intro j hj; simp at hj) hs
  rw [List.nil_append] at hr
  rw [List.sum_nil, Nat.zero_add, hkl] at hsum
  have hl : (sizesF [] (ksN l)).length = l.length := by rw [sizesF_len, hkl]
  rw [formed_iff, List.length_map, show (l.map NdN.kids).map Int.toNat = ksN l from rfl, hs]
  cases st with
  | nil => simp at hsum; omega
  | cons x st =>
    obtain ⟨_, h2⟩ := hr 0 (by simp)
    rw [List.take_zero, List.sum_nil, Nat.sub_zero, hl, List.getElem?_eq_getElem h', List.getElem_cons_zero] at h2
    rw [Option.some.inj h2]
    constructor
    · rintro ⟨_, h⟩
      cases h; rfl
    · rintro rfl
      refine ⟨kids_pos l hk, ?_⟩
      rw [List.sum_cons] at hsum
      cases st with
      | nil => rfl
      | cons y st =>
        have := hpos y (by simp)
        rw [List.sum_cons] at hsum
        omega
set_option maxRecDepth 100000 in
set_option maxHeartbeats 16000000 in
theorem treeOf2_calls (l : List NdN) (hl : l.length ≤ 1000000) (a : Option Addr) (cap : Nat) (w : World) (h : NodesAt l a w) :
    Calls Tryz.prog 30 #[.slice a l.length cap] w (TreeQ2 l a cap w) := by
  have HN := Lib.hid h
  have hkl : (ksN l).length = l.length := by simp [ksN]
  have hsl : (sizesF [] (ksN l)).length = l.length := by rw [sizesF_len, hkl]
  have hmk := fun W => run_make_row' (P := Tryz.prog) 48 3 (.int .i64 0) 8 Tryz.underlying48 (by kernel_rfl) rfl .i64 .i64 l.length (by omega) (by omega) W
  have hmz : (madeCells #[Value.int .i64 0] l.length).size = l.length := by simp [madeCells]
  generalize madeCells #[Value.int .i64 0] l.length = vs0 at *
  have HFL := Lib.hid (formed_last l)
  have HRO := Lib.hid (roots_at (ksN l))
  have HPO := Lib.hid (fun i s (hs : stackF [] ((ksN l).take i) = some s) => stackF_pos ((ksN l).take i) [] s (by simp) hs)
  have HFI := Lib.hid (fun hf : manyF 0 (l.map NdN.kids) = some 1 => (formed_iff (l.map NdN.kids)).1 hf)
  generalize hsz : sizesF [] (ksN l) = sz at *
  have HSZ := Lib.hid hsz
  have HKL := Lib.hid hkl
  clear hsz hkl h
  go_enter Tryz.func30, Tryz.ntmps30
  go_wp2_with fail
  clear hmk
  have hR : Blk (((w.alloc (.cells #[.slice none 0 0, .slice none 0 0] 65)).alloc (.cells vs0 3)).alloc (.cells #[.slice a l.length cap, .slice (some ⟨w.heap.size + 1, 0, none⟩) l.length l.length] 65)) w.heap.size (trC none 0 0 none 0 0) 65 := ((Blk.new w _ _).alloc _).alloc _
  have hS : Blk (((w.alloc (.cells #[.slice none 0 0, .slice none 0 0] 65)).alloc (.cells vs0 3)).alloc (.cells #[.slice a l.length cap, .slice (some ⟨w.heap.size + 1, 0, none⟩) l.length l.length] 65)) (w.heap.size + 1) vs0 3 := by
    have := (Blk.new (w.alloc (.cells #[.slice none 0 0, .slice none 0 0] 65)) vs0 3).alloc (.cells #[.slice a l.length cap, .slice (some ⟨w.heap.size + 1, 0, none⟩) l.length l.length] 65)
    simpa using this
  have hT : Blk (((w.alloc (.cells #[.slice none 0 0, .slice none 0 0] 65)).alloc (.cells vs0 3)).alloc (.cells #[.slice a l.length cap, .slice (some ⟨w.heap.size + 1, 0, none⟩) l.length l.length] 65)) (w.heap.size + 1 + 1) (trC a l.length cap (some ⟨w.heap.size + 1, 0, none⟩) l.length l.length) 65 := by
    have := Blk.new ((w.alloc (.cells #[.slice none 0 0, .slice none 0 0] 65)).alloc (.cells vs0 3)) #[.slice a l.length cap, .slice (some ⟨w.heap.size + 1, 0, none⟩) l.length l.length] 65
    simpa using this
  have hB : Below w.heap.size w (((w.alloc (.cells #[.slice none 0 0, .slice none 0 0] 65)).alloc (.cells vs0 3)).alloc (.cells #[.slice a l.length cap, .slice (some ⟨w.heap.size + 1, 0, none⟩) l.length l.length] 65)) := by go_grown
  generalize (((w.alloc (.cells #[.slice none 0 0, .slice none 0 0] 65)).alloc (.cells vs0 3)).alloc (.cells #[.slice a l.length cap, .slice (some ⟨w.heap.size + 1, 0, none⟩) l.length l.length] 65)) = w3 at *
  go_loopw [15] (fun x wr => ∃ i : Nat, i ≤ l.length ∧ x = .int .i64 i ∧ (∃ st, stackF [] ((ksN l).take i) = some st) ∧ (∀ j (h : j < l.length), j < i → 0 ≤ l[j].kids) ∧ (∃ vs : Array Value, vs.size = l.length ∧ (∀ j (h : j < sz.length), j < i → vs[j]? = some (.int .i64 (sz[j] : Int))) ∧ Blk wr (w.heap.size + 1) vs 3) ∧ Blk wr w.heap.size (trC none 0 0 none 0 0) 65 ∧ Blk wr (w.heap.size + 1 + 1) (trC a l.length cap (some ⟨w.heap.size + 1, 0, none⟩) l.length l.length) 65 ∧ Below w.heap.size w wr) (fun x _ => l.length - (intOf x).toNat)
  case atStart => exact ⟨0, Nat.zero_le _, rfl, ⟨[], rfl⟩, fun j _ hj => by omega, ⟨vs0, hmz, fun j _ hj => by omega, hS⟩, hR, hT, hB⟩
  case round =>
    clear hR hS hT hB hmz
    obtain ⟨i, hi, rfl, ⟨s, hs⟩, hk0, ⟨vs, hvs, hno, hS⟩, hR, hT, hB⟩ := hrel
    by_cases hlt : i < l.length
    · have hne : l ≠ [] := by rintro rfl; simp at hlt
      have hlk : i < (ksN l).length := by rw [HKL.out]; exact hlt
      obtain ⟨g, off, rfl, hg, hc⟩ := HN.out hne
      have hd : decide ((i : Int) < (l.length : Int)) = true := by rw [decide_eq_true_iff]; omega
      have hd2 : decide (i < l.length) = true := by rw [decide_eq_true_iff]; omega
      have hcell := fun (j : Nat) (hj : j < 8) => (hB.cell (p := ⟨g, off + i * 8 + j, none⟩) hg).trans (hc i hlt j hj)
      have d0 := hcell 0 (by decide); have d1 := hcell 1 (by decide); have d2 := hcell 2 (by decide); have d3 := hcell 3 (by decide); have d4 := hcell 4 (by decide); have d5 := hcell 5 (by decide); have d6 := hcell 6 (by decide); have d7 := hcell 7 (by decide)
      simp only [ndA, List.getElem?_toArray, List.getElem?_cons_zero, List.getElem?_cons_succ, Nat.add_zero] at d0 d1 d2 d3 d4 d5 d6 d7
      have hkk : (ksN l)[i] = l[i].kids.toNat := by simp [ksN]
      have HSUM := Lib.hid (show s.sum = i by
        have := stackF_sum _ _ _ hs
        rw [List.sum_nil, Nat.zero_add, List.length_take] at this
        omega)
      have HS0 := Lib.hid hs
      obtain ⟨hr, ht, hsi⟩ := HRO.out i hlk s hs
      have hps := HPO.out i s hs
      have hNF : ¬ (0 ≤ l[i].kids) → manyF 0 (l.map NdN.kids) ≠ some 1 := fun h hf => h ((HFI.out hf).1 _ (List.mem_map_of_mem (List.getElem_mem hlt)))
      have hNS : s.length < (ksN l)[i] → manyF 0 (l.map NdN.kids) ≠ some 1 := fun h hf => by
        obtain ⟨s2, hs2, h2, _⟩ := stack_at (ksN l) [] _ (HFI.out hf).2 i hlk
        rw [hs] at hs2; cases hs2; omega
      have hnx : (ksN l)[i] ≤ s.length → stackF [] ((ksN l).take (i + 1)) = some (stepF s (ksN l)[i]) := fun h => by
        rw [List.take_add_one, List.getElem?_eq_getElem hlk]
        show stackF [] ((ksN l).take i ++ [(ksN l)[i]]) = _
        rw [stackF_snoc, hs]
        show (if (ksN l)[i] ≤ s.length then some (stepF s (ksN l)[i]) else none) = _
        rw [if_pos h]
      rw [hkk] at hNS hnx hsi
      have HK0 := Lib.hid hk0
      have HNO := Lib.hid hno
      have HRT := Lib.hid hr
      have HTT := Lib.hid ht
      have HSI := Lib.hid hsi
      have HNF := Lib.hid hNF
      have HNS := Lib.hid hNS
      have HNX := Lib.hid hnx
      have HPS := Lib.hid hps
      have HLI := Lib.hid (show l[i].kids = l[i].kids from rfl)
      conv at HLI => arg 1; lhs; rw [show l[i].kids = l[i].kids from rfl]
      clear hk0 hno hr ht hsi hNF hNS hnx hps hcell hc hne hkk hs hlk
      generalize hkc : l[i].kids = kc at *
      have HKC := Lib.hid hkc
      clear hkc HLI
      generalize l[i].kind = k at *
      generalize l[i].n = kn at *
      generalize l[i].m = km at *
      generalize l[i].set = kt at *
      have hN := Blk.new wr (ndI k kc kn km kt) 45
      have HR := Lib.hid (hR.alloc (.cells (ndI k kc kn km kt) 45))
      have hT2 := hT.alloc (.cells (ndI k kc kn km kt) 45)
      have hS2 := hS.alloc (.cells (ndI k kc kn km kt) 45)
      have HB := Lib.hid (hB.alloc hB.size (.cells (ndI k kc kn km kt) 45))
      clear hR hT hS hB
      go_upto_region 5 with fail
      clear d0 d1 d2 d3 d4 d5 d6 d7
      generalize wr.alloc (.cells (ndI k kc kn km kt) 45) = wn at *
      have c1 := hN.cell 1
      simp only [List.getElem?_toArray, List.getElem?_cons_zero, List.getElem?_cons_succ] at c1
      by_cases h0 : kc < 0
      · have q0 : decide (kc < 0) = true := decide_eq_true h0
        have HW := Lib.hid (HNF.out (by omega))
        clear h0
        have f0 := HR.out.frozen 0; have f1 := HR.out.frozen 1; have r0 := HR.out.cell 0; have r1 := HR.out.cell 1
        simp only [List.getElem?_toArray, List.getElem?_cons_zero, List.getElem?_cons_succ] at r0 r1
        go_wp2_with fail
        have hRS := (HR.out.set 0 (.slice none 0 0)).set 1 (.slice none 0 0)
        have e0 : ((wn.setCell ⟨w.heap.size, 0, none⟩ (.slice none 0 0)).setCell ⟨w.heap.size, 1, none⟩ (.slice none 0 0)).cell? ⟨w.heap.size, 0, none⟩ = some (.slice none 0 0) := (hRS.cell 0).trans rfl
        have e1 : ((wn.setCell ⟨w.heap.size, 0, none⟩ (.slice none 0 0)).setCell ⟨w.heap.size, 1, none⟩ (.slice none 0 0)).cell? ⟨w.heap.size, 1, none⟩ = some (.slice none 0 0) := (hRS.cell 1).trans rfl
        refine bodyPost_ret (v := .tuple #[.agg #[.slice none 0 0, .slice none 0 0], .bool false]) ?_ (by rfl) ?_
        · simp [results, Tryz.results30, go_sem, e0, e1]
        · exact ⟨below_set (below_set HB.out (Nat.le_refl _) 0 _) (Nat.le_refl _) 1 _, .inl ⟨HW.out, rfl⟩⟩
      have q0 : decide (kc < 0) = false := decide_eq_false h0
      obtain ⟨K, rfl⟩ : ∃ K : Nat, kc = K := ⟨kc.toNat, by omega⟩
      rw [Int.toNat_natCast] at HSI HNS HNX
      have HTB := Lib.hid hT2
      have HSB := Lib.hid hS2
      have t1 := hT2.cell 1
      simp only [List.getElem?_toArray, List.getElem?_cons_zero, List.getElem?_cons_succ] at t1
      clear h0 hT2 hS2 hN
      have hls : s.length ≤ i := by have := len_le_sum s HPS.out; have := HSUM.out; omega
      go_upto_region 9 with fail
      go_loop [7, 27] (fun ve vk => ∃ k : Nat, k ≤ K ∧ k ≤ s.length ∧ ve = .int .i64 ((i : Int) - ((s.take k).sum : Nat)) ∧ vk = .int .i64 k) (fun _ vk => K - (intOf vk).toNat)
      case atStart => exact ⟨0, Nat.zero_le _, Nat.zero_le _, by simp, rfl⟩
      case round =>
        obtain ⟨k, hk, hks, rfl, rfl⟩ := hrel
        have hle := take_sum_le s k
        have hsum := HSUM.out
        by_cases hkl : k < K
        · have hq : decide ((k : Int) < (K : Int)) = true := by rw [decide_eq_true_iff]; omega
          have hq2 : decide (k < K) = true := by rw [decide_eq_true_iff]; omega
          by_cases hE : (s.take k).sum = i
          · have qe : ((i : Int) - ((s.take k).sum : Nat) == 0) = true := by rw [beq_iff_eq]; omega
            have HW := Lib.hid (HNS.out (by
              rcases Nat.lt_or_ge k s.length with h | h
              · have h1 := take_sum s k h
                have h2 := take_sum_le s (k + 1)
                have h3 := HPS.out s[k] (List.getElem_mem h)
                omega
              · omega))
            clear hle hE hsum
            generalize (s.take k).sum = S at *
            have f0 := HR.out.frozen 0; have f1 := HR.out.frozen 1; have r0 := HR.out.cell 0; have r1 := HR.out.cell 1
            simp only [List.getElem?_toArray, List.getElem?_cons_zero, List.getElem?_cons_succ] at r0 r1
            go_wp2_with fail
            have hRS := (HR.out.set 0 (.slice none 0 0)).set 1 (.slice none 0 0)
            have e0 : ((wn.setCell ⟨w.heap.size, 0, none⟩ (.slice none 0 0)).setCell ⟨w.heap.size, 1, none⟩ (.slice none 0 0)).cell? ⟨w.heap.size, 0, none⟩ = some (.slice none 0 0) := (hRS.cell 0).trans rfl
            have e1 : ((wn.setCell ⟨w.heap.size, 0, none⟩ (.slice none 0 0)).setCell ⟨w.heap.size, 1, none⟩ (.slice none 0 0)).cell? ⟨w.heap.size, 1, none⟩ = some (.slice none 0 0) := (hRS.cell 1).trans rfl
            refine bodyPost_ret (v := .tuple #[.agg #[.slice none 0 0, .slice none 0 0], .bool false]) ?_ (by rfl) ?_
            · simp [results, Tryz.results30, go_sem, e0, e1]
            · exact ⟨below_set (below_set HB.out (Nat.le_refl _) 0 _) (Nat.le_refl _) 1 _, .inl ⟨HW.out, rfl⟩⟩
          · have hks2 : k < s.length := by
              rcases Nat.lt_or_ge k s.length with h | h
              · exact h
              · rw [List.take_of_length_le h] at hE; omega
            obtain ⟨h1, h2⟩ := HRT.out k hks2
            have htl : (sizesF [] ((ksN l).take i)).length = i := by rw [sizesF_len, List.length_take, HKL.out]; omega
            rw [htl] at h1 h2
            rw [← HTT.out] at h2
            have hts := take_sum s k hks2
            have hle2 := take_sum_le s (k + 1)
            generalize hS : (s.take k).sum = S at *
            generalize hS1 : (s.take (k + 1)).sum = S1 at *
            generalize s[k] = z at *
            have hpz : (i - 1 - S) < sz.length := by omega
            have hz : sz[i - 1 - S] = z := by
              rw [List.getElem?_take, if_pos (by omega), List.getElem?_eq_getElem hpz] at h2
              exact Option.some.inj h2
            have cp := (HSB.out.cell (i - 1 - S)).trans (HNO.out (i - 1 - S) hpz (by omega))
            rw [hz] at cp
            have hat : (i : Int) - (S : Int) = ((i - S : Nat) : Int) := by omega
            have qe : (((i - S : Nat) : Int) == 0) = false := by rw [beq_eq_false_iff_ne]; omega
            have xm : IntKind.i64.wrap (((i - S : Nat) : Int) - 1) = ((i - 1 - S : Nat) : Int) := by rw [show ((i - S : Nat) : Int) - 1 = ((i - 1 - S : Nat) : Int) by omega]; exact IntWalk.i64_in _ (by omega)
            have xz : IntKind.i64.wrap (((i - S : Nat) : Int) - (z : Int)) = ((i - S1 : Nat) : Int) := by rw [show ((i - S : Nat) : Int) - (z : Int) = ((i - S1 : Nat) : Int) by omega]; exact IntWalk.i64_in _ (by omega)
            have xk : IntKind.i64.wrap ((k : Int) + 1) = (k : Int) + 1 := IntWalk.i64_in _ (by omega)
            have hpn : i - 1 - S < l.length := by omega
            have HS1 := Lib.hid (show S1 ≤ i by omega)
            have HE1 := Lib.hid hS1
            have HK1 := Lib.hid (show k + 1 ≤ s.length from hks2)
            rw [hat]
            clear h1 h2 hz hpz hts hle2 hat hS hS1 hle hE htl hks2 hsum
            generalize hP : i - 1 - S = p at *
            generalize hE : i - S = e at *
            clear hP hE
            go_wp2_with fail
            go_round
            case rel => exact ⟨k + 1, by omega, HK1.out, by rw [HE1.out]; congr 1; have := HS1.out; omega, by simp⟩
            case measure => simp [intOf]; omega
        · obtain rfl : k = K := by omega
          have hq : decide ((k : Int) < (k : Int)) = false := by simp
          have hq2 : decide (k < k) = false := by simp
          have HNX2 := Lib.hid (HNX.out hks)
          generalize hS : (s.take k).sum = S at *
          have xa : IntKind.i64.wrap ((i : Int) - ((i : Int) - (S : Int))) = (S : Int) := by rw [show (i : Int) - ((i : Int) - (S : Int)) = (S : Int) by omega]; exact IntWalk.i64_in _ (by omega)
          have hxa : (i : Int) - ((i : Int) - (S : Int)) = (S : Int) := by omega
          have xb : IntKind.i64.wrap ((S : Int) + 1) = (S : Int) + 1 := IntWalk.i64_in _ (by omega)
          have xi : IntKind.i64.wrap ((i : Int) + 1) = (i : Int) + 1 := IntWalk.i64_in _ (by omega)
          obtain ⟨old, hold⟩ : ∃ old, vs[i]? = some old := ⟨vs[i]'(by omega), by simp [show i < vs.size by omega]⟩
          have hci := (HSB.out.cell i).trans hold
          have hfi := HSB.out.frozen i
          clear hold hS HNS HRT HNX
          go_wp2_with fail
          go_roundw
          case rel =>
            refine ⟨i + 1, by omega, by simp, ⟨_, HNX2.out⟩, fun j hj hji => ?_, ⟨vs.setIfInBounds i (.int .i64 ((S : Int) + 1)), by simp [hvs], fun j h hj => ?_, HSB.out.set i _⟩, HR.out.other (by omega) i _, HTB.out.other (by omega) i _, below_set HB.out (by omega) i _⟩
            · by_cases hje : j = i
              · subst hje; rw [HKC.out]; omega
              · exact HK0.out j hj (by omega)
            · by_cases hje : j = i
              · subst hje
                have e1 := HSI.out
                rw [List.getElem?_eq_getElem h] at e1
                rw [Option.some.inj e1]
                simp [hvs, hlt]
                omega
              · rw [Array.getElem?_setIfInBounds_ne (Ne.symm hje)]
                exact HNO.out j h (by omega)
          case measure => simp [intOf]; omega
    · obtain rfl : i = l.length := by omega
      have hd : decide ((l.length : Int) < (l.length : Int)) = false := by simp
      have hd2 : decide (l.length < l.length) = false := by simp
      rw [List.take_of_length_le (by rw [HKL.out]; exact Nat.le_refl _)] at hs
      have HR := Lib.hid hR
      have HB := Lib.hid hB
      have HSB := Lib.hid hS
      have HTB := Lib.hid hT
      have HNO := Lib.hid hno
      have t0 := hT.cell 0
      have t1 := hT.cell 1
      simp only [List.getElem?_toArray, List.getElem?_cons_zero, List.getElem?_cons_succ] at t0 t1
      clear hR hB hS hT hno
      by_cases hz : l.length = 0
      · have q : ((l.length : Int) == 0) = true := by rw [beq_iff_eq]; omega
        have HW : Hid (manyF 0 (l.map NdN.kids) ≠ some 1) := Lib.hid (by rw [List.length_eq_zero_iff.1 hz]; decide)
        clear hz hs
        have f0 := HR.out.frozen 0; have f1 := HR.out.frozen 1; have r0 := HR.out.cell 0; have r1 := HR.out.cell 1
        simp only [List.getElem?_toArray, List.getElem?_cons_zero, List.getElem?_cons_succ] at r0 r1
        go_wp2_with fail
        have hRS := (HR.out.set 0 (.slice none 0 0)).set 1 (.slice none 0 0)
        have e0 : ((wr.setCell ⟨w.heap.size, 0, none⟩ (.slice none 0 0)).setCell ⟨w.heap.size, 1, none⟩ (.slice none 0 0)).cell? ⟨w.heap.size, 0, none⟩ = some (.slice none 0 0) := (hRS.cell 0).trans rfl
        have e1 : ((wr.setCell ⟨w.heap.size, 0, none⟩ (.slice none 0 0)).setCell ⟨w.heap.size, 1, none⟩ (.slice none 0 0)).cell? ⟨w.heap.size, 1, none⟩ = some (.slice none 0 0) := (hRS.cell 1).trans rfl
        refine bodyPost_ret (v := .tuple #[.agg #[.slice none 0 0, .slice none 0 0], .bool false]) ?_ (by rfl) ?_
        · simp [results, Tryz.results30, go_sem, e0, e1]
        · exact ⟨below_set (below_set HB.out (Nat.le_refl _) 0 _) (Nat.le_refl _) 1 _, .inl ⟨HW.out, rfl⟩⟩
      · have q : ((l.length : Int) == 0) = false := by rw [beq_eq_false_iff_ne]; omega
        obtain ⟨z, hz1⟩ : ∃ z, sz[l.length - 1]'(by omega) = z := ⟨_, rfl⟩
        have hFL : manyF 0 (l.map NdN.kids) = some 1 ↔ z = l.length := hz1 ▸ HFL.out s (fun j hj => hk0 j hj hj) hs (by omega) (by omega)
        have cp : wr.cell? ⟨w.heap.size + 1, l.length - 1, none⟩ = some (.int .i64 (z : Int)) := hz1 ▸ (HSB.out.cell (l.length - 1)).trans (HNO.out (l.length - 1) (by omega) (by omega))
        have xm : IntKind.i64.wrap ((l.length : Int) - 1) = ((l.length - 1 : Nat) : Int) := by rw [show (l.length : Int) - 1 = ((l.length - 1 : Nat) : Int) by omega]; exact IntWalk.i64_in _ (by omega)
        have hpn : l.length - 1 < l.length := by omega
        clear HFL hz1
        generalize hP : l.length - 1 = p at *
        have hzn : ¬ l.length = 0 := hz
        by_cases hE : z = l.length
        · have qe : ((z : Int) != (l.length : Int)) = false := by rw [hE]; simp
          have qe2 : ((l.length : Int) != (l.length : Int)) = false := by simp
          have HW := Lib.hid (hFL.2 hE)
          clear hFL hE hP hs hk0 hz
          have f0 := HR.out.frozen 0; have f1 := HR.out.frozen 1; have r0 := HR.out.cell 0; have r1 := HR.out.cell 1
          simp only [List.getElem?_toArray, List.getElem?_cons_zero, List.getElem?_cons_succ] at r0 r1
          go_wp2_with fail
          have hRS := (HR.out.set 0 (.slice a l.length cap)).set 1 (.slice (some ⟨w.heap.size + 1, 0, none⟩) l.length l.length)
          have e0 : ((wr.setCell ⟨w.heap.size, 0, none⟩ (.slice a l.length cap)).setCell ⟨w.heap.size, 1, none⟩ (.slice (some ⟨w.heap.size + 1, 0, none⟩) l.length l.length)).cell? ⟨w.heap.size, 0, none⟩ = some (.slice a l.length cap) := (hRS.cell 0).trans rfl
          have e1 : ((wr.setCell ⟨w.heap.size, 0, none⟩ (.slice a l.length cap)).setCell ⟨w.heap.size, 1, none⟩ (.slice (some ⟨w.heap.size + 1, 0, none⟩) l.length l.length)).cell? ⟨w.heap.size, 1, none⟩ = some (.slice (some ⟨w.heap.size + 1, 0, none⟩) l.length l.length) := (hRS.cell 1).trans rfl
          refine bodyPost_ret (v := .tuple #[.agg #[.slice a l.length cap, .slice (some ⟨w.heap.size + 1, 0, none⟩) l.length l.length], .bool true]) ?_ (by rfl) ?_
          · simp [results, Tryz.results30, go_sem, e0, e1]
          · have hRl : sizesR l = sz.map (fun x : Nat => (x : Int)) := by unfold sizesR; rw [if_pos HW.out, HSZ.out]
            refine ⟨below_set (below_set HB.out (Nat.le_refl _) 0 _) (Nat.le_refl _) 1 _, .inr ⟨HW.out, w.heap.size + 1, rfl, by omega, _, (HSB.out.other (by omega : w.heap.size + 1 ≠ w.heap.size) 0 (.slice a l.length cap)).other (by omega : w.heap.size + 1 ≠ w.heap.size) 1 (.slice (some ⟨w.heap.size + 1, 0, none⟩) l.length l.length), fun j hj => ?_⟩⟩
            have hjl : j < sz.length := by rw [hRl, List.length_map] at hj; exact hj
            rw [HNO.out j hjl (by omega)]
            simp only [hRl, List.getElem_map]
        · have qe : ((z : Int) != (l.length : Int)) = true := by rw [bne_iff_ne]; omega
          have HW := Lib.hid (fun h => hE (hFL.1 h))
          clear hFL hE hP hs hk0 hz
          have f0 := HR.out.frozen 0; have f1 := HR.out.frozen 1; have r0 := HR.out.cell 0; have r1 := HR.out.cell 1
          simp only [List.getElem?_toArray, List.getElem?_cons_zero, List.getElem?_cons_succ] at r0 r1
          go_wp2_with fail
          have hRS := (HR.out.set 0 (.slice none 0 0)).set 1 (.slice none 0 0)
          have e0 : ((wr.setCell ⟨w.heap.size, 0, none⟩ (.slice none 0 0)).setCell ⟨w.heap.size, 1, none⟩ (.slice none 0 0)).cell? ⟨w.heap.size, 0, none⟩ = some (.slice none 0 0) := (hRS.cell 0).trans rfl
          have e1 : ((wr.setCell ⟨w.heap.size, 0, none⟩ (.slice none 0 0)).setCell ⟨w.heap.size, 1, none⟩ (.slice none 0 0)).cell? ⟨w.heap.size, 1, none⟩ = some (.slice none 0 0) := (hRS.cell 1).trans rfl
          refine bodyPost_ret (v := .tuple #[.agg #[.slice none 0 0, .slice none 0 0], .bool false]) ?_ (by rfl) ?_
          · simp [results, Tryz.results30, go_sem, e0, e1]
          · exact ⟨below_set (below_set HB.out (Nat.le_refl _) 0 _) (Nat.le_refl _) 1 _, .inl ⟨HW.out, rfl⟩⟩
theorem treeOf_calls (l : List NdN) (hl : l.length ≤ 1000000) (a : Option Addr) (cap : Nat) (w : World) (h : NodesAt l a w) :
    Calls Tryz.prog 30 #[.slice a l.length cap] w (TreeQ l a cap w) := by
  refine (treeOf2_calls l hl a cap w h).mono ?_
  rintro e w' ⟨hb, h | ⟨hm, b, he, hbb, vs, hv, hj⟩⟩
  · exact ⟨hb, .inl h⟩
  · exact ⟨hb, .inr ⟨hm, b, he, fun _ => ⟨b, 0, rfl, hbb, hv.lt, fun j h => by rw [Nat.zero_add, hv.cell j]; exact hj j h⟩⟩⟩
end Go.Proofs.YtbccojjcdcighaaGreatDoor

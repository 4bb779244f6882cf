/- Patterns' trees, plainly: what AstParts wants of a list of nodes that is a tree. -/
import Derived.Test.YtlhlgohgmbkaoaaAs
namespace Go.Proofs.Ytlhlgohgmbkaoaa
open Go.RowKit BS

@[reducible] def FormedN (l : List NdN) : Prop := manyF 0 (l.map NdN.kids) = some 1
theorem formed_stack (l : List NdN) (hf : FormedN l) : stackF [] (ksN l) = some [l.length] ∧ (ksN l).length = l.length ∧ (sizesR l).length = l.length ∧ (sizesF [] (ksN l)).length = l.length ∧ sizesR l = (sizesF [] (ksN l)).map (fun x : Nat => (x : Int)) := by
  obtain ⟨hk0, hst⟩ := (formed_iff (l.map NdN.kids)).1 hf
  have hst : stackF [] (ksN l) = some [(l.map NdN.kids).length] := hst
  rw [List.length_map] at hst
  have hkl : (ksN l).length = l.length := by simp [ksN]
  refine ⟨hst, hkl, ?_, by rw [sizesF_len, hkl], if_pos hf⟩
  rw [sizesR_len]
  exact if_pos hf
theorem formed_pos (l : List NdN) (hf : FormedN l) : 0 < l.length := by
  cases l with
  | nil => exact absurd hf (by unfold FormedN; decide)
  | cons => simp
/-- The kids of a node stand side by side, right ahead of it: A k is where kid k begins. -/
theorem kids_row (l : List NdN) (hf : FormedN l) (i : Nat) (hi : i < l.length) : ∃ A : Nat → Nat, A (kidsR l i).length = i ∧ A 0 ≤ i ∧ (A 0 : Int) = (i : Int) + 1 - (sizesR l).getD i 0 ∧
    ∀ k (h : k < (kidsR l i).length), A k < A (k + 1) ∧ A (k + 1) ≤ i ∧ (kidsR l i)[k] = ((A (k + 1) - 1 : Nat) : Int) ∧ (sizesR l).getD (A (k + 1) - 1) 0 = ((A (k + 1) - A k : Nat) : Int) := by
  obtain ⟨hst, hkl, hrl, hsl, hR⟩ := formed_stack l hf
  have hlk : i < (ksN l).length := by omega
  obtain ⟨s, hs, hks, hsum⟩ := stack_at (ksN l) [] _ hst i hlk
  obtain ⟨hr, ht, hsi⟩ := roots_at (ksN l) i hlk s hs
  rw [← ht] at hr
  have hpos := stackF_pos ((ksN l).take i) [] s (by simp) hs
  have hsumi : s.sum = i := by simpa using hsum
  have htl : ((sizesF [] (ksN l)).take i).length = i := by rw [List.length_take]; omega
  generalize hK : (ksN l)[i] = K at *
  have hkid : kidsR l i = (((posF i s).take K).reverse).map (fun x : Nat => (x : Int)) := by
    unfold kidsR
    rw [if_pos ⟨hf, by omega, by omega⟩, show (i : Int).toNat = i from rfl, allKids_at (ksN l) i hlk s hs, hK]
    rfl
  have hPl : ((posF i s).take K).length = K := by rw [List.length_take, posF_len]; omega
  have hlen : (kidsR l i).length = K := by rw [hkid, List.length_map, List.length_reverse, hPl]
  refine ⟨fun k => i - (s.take (K - k)).sum, ?_, Nat.sub_le _ _, ?_, ?_⟩
  · rw [hlen]; simp
  · have e1 : (sizesR l).getD i 0 = ((1 + (s.take K).sum : Nat) : Int) := by
      rw [List.getD_eq_getElem?_getD, hR, List.getElem?_map, hsi]; rfl
    rw [e1]
    have := take_sum_le s K
    simp only [Nat.sub_zero]
    omega
  · intro k h
    rw [hlen] at h
    have hj : K - 1 - k < s.length := by omega
    have hts := take_sum s (K - 1 - k) hj
    have hzp := hpos _ (List.getElem_mem hj)
    have hle := take_sum_le s (K - 1 - k + 1)
    rw [show K - 1 - k + 1 = K - k by omega] at hts hle
    have e1 : K - (k + 1) = K - 1 - k := by omega
    obtain ⟨r1, r2⟩ := hr (K - 1 - k) hj
    rw [htl] at r1 r2
    simp only [e1]
    refine ⟨by omega, by omega, ?_, ?_⟩
    · have hg : (kidsR l i)[k]'(by omega) = ((((posF i s).take K)[K - 1 - k]'(by omega) : Nat) : Int) := by
        simp only [hkid, List.getElem_map, List.getElem_reverse, hPl]
      rw [hg, List.getElem_take, posF_get]
    · have hp : i - (s.take (K - 1 - k)).sum - 1 < (sizesF [] (ksN l)).length := by omega
      rw [show i - 1 - (s.take (K - 1 - k)).sum = i - (s.take (K - 1 - k)).sum - 1 by omega] at r2
      rw [List.getElem?_take, if_pos (by omega)] at r2
      rw [List.getD_eq_getElem?_getD, hR, List.getElem?_map, r2]
      show ((s[K - 1 - k] : Nat) : Int) = _
      omega
theorem sizes_last (l : List NdN) (hf : FormedN l) : (sizesR l).getD (l.length - 1) 0 = (l.length : Int) := by
  obtain ⟨hst, hkl, hrl, hsl, hR⟩ := formed_stack l hf
  have hp := formed_pos l hf
  have hlk : l.length - 1 < (ksN l).length := by omega
  obtain ⟨s, hs, hks, hsum⟩ := stack_at (ksN l) [] _ hst (l.length - 1) hlk
  obtain ⟨_, _, hsi⟩ := roots_at (ksN l) (l.length - 1) hlk s hs
  have hsumi : s.sum = l.length - 1 := by simpa using hsum
  have e : ksN l = (ksN l).take (l.length - 1) ++ [(ksN l)[l.length - 1]] := by
    have h1 := List.take_append_drop (l.length - 1) (ksN l)
    rw [List.drop_eq_getElem_cons hlk, List.drop_of_length_le (by omega)] at h1
    exact h1.symm
  rw [e, stackF_snoc, hs] at hst
  have h2 : stepF s (ksN l)[l.length - 1] = [l.length] := by
    simp only [Option.bind_some] at hst
    rw [if_pos hks] at hst
    exact Option.some.inj hst
  have h3 : 1 + (s.take (ksN l)[l.length - 1]).sum = l.length := by
    unfold stepF at h2
    exact (List.cons.inj h2).1
  rw [List.getD_eq_getElem?_getD, hR, List.getElem?_map, hsi]
  show ((1 + (s.take (ksN l)[l.length - 1]).sum : Nat) : Int) = _
  rw [h3]
/-- How often a place has been a kid of the first i nodes. -/
def heldN (l : List NdN) (i x : Nat) : Nat := (((allKids 0 [] (ksN l)).take i).flatten).count x
theorem heldN_step (l : List NdN) (hf : FormedN l) (i : Nat) (hi : i < l.length) (x : Nat) : heldN l (i + 1) x = heldN l i x + (kidsR l i).count (x : Int) := by
  obtain ⟨hst, hkl, _⟩ := formed_stack l hf
  have hal := allKids_len (ksN l) [] 0
  have hlt : i < (allKids 0 [] (ksN l)).length := by omega
  unfold heldN
  rw [List.take_succ_eq_append_getElem hlt, List.flatten_append, List.count_append]
  congr 1
  have hk : kidsR l i = (((allKids 0 [] (ksN l))[i]).reverse).map (fun x : Nat => (x : Int)) := by
    unfold kidsR
    rw [if_pos ⟨hf, by omega, by omega⟩, show (i : Int).toNat = i from rfl, List.getElem?_eq_getElem hlt, Option.getD_some]
  rw [hk]
  have hinj : ∀ (m : List Nat), (m.map (fun x : Nat => (x : Int))).count (x : Int) = m.count x := fun m => by
    induction m with
    | nil => rfl
    | cons y m ih =>
      rw [List.map_cons, List.count_cons, List.count_cons, ih]
      congr 1
      by_cases h : y = x
      · subst h; simp
      · have h2 : ¬ ((y : Int) = (x : Int)) := by omega
        simp [h, h2]
  rw [hinj, List.count_reverse]
  simp
theorem heldN_all (l : List NdN) (hf : FormedN l) (x : Nat) (hx : x < l.length) : heldN l l.length x = if x = l.length - 1 then 0 else 1 := by
  obtain ⟨hst, hkl, _⟩ := formed_stack l hf
  have hal := allKids_len (ksN l) [] 0
  unfold heldN
  rw [List.take_of_length_le (by omega)]
  exact kids_tree (ksN l) l.length hkl hst x hx
theorem heldN_le (l : List NdN) (hf : FormedN l) : ∀ i, i ≤ l.length → ∀ x, x < l.length → heldN l i x ≤ 1 := fun i hi x hx => by
  have h1 := heldN_all l hf x hx
  have h2 : heldN l i x ≤ heldN l l.length x := by
    unfold heldN
    have e : (allKids 0 [] (ksN l)).take i = ((allKids 0 [] (ksN l)).take l.length).take i := by rw [List.take_take, Nat.min_eq_left hi]
    have e2 := congrArg (fun cs => (cs.flatten).count x) (List.take_append_drop i ((allKids 0 [] (ksN l)).take l.length))
    simp only [List.flatten_append, List.count_append] at e2
    rw [e]
    omega
  split at h1 <;> omega
/-- Node i's number; how many of the first i nodes have number m. -/
def nuN (l : List NdN) (i : Nat) : Nat := numF (kdN l) (fiN l) (sizesR l).length i
theorem numsR_get (l : List NdN) (i : Nat) (h : i < (sizesR l).length) : (numsR l).getD i 0 = (nuN l i : Int) := by
  unfold numsR nuN
  rw [List.getD_eq_getElem?_getD, List.getElem?_map, List.getElem?_range h]
  rfl
theorem grpN_len (l : List NdN) (n : Nat) : (grpF (kdN l) n).length = grpN l n := by
  unfold grpF grpN
  rw [List.countP_eq_length_filter]
theorem nuN_le (l : List NdN) (i : Nat) : nuN l i ≤ grpN l (sizesR l).length := by
  have := num_le (kdN l) (fiN l) (sizesR l).length i
  rw [grpN_len] at this
  exact this
theorem nuN_pos (l : List NdN) (i : Nat) (hi : i < (sizesR l).length) : 0 < nuN l i ↔ kdN l i = 3 := num_pos _ _ _ _ hi
def toldN (l : List NdN) (i m : Nat) : Nat := (List.range i).countP fun j => nuN l j == m
theorem toldN_step (l : List NdN) (i m : Nat) : toldN l (i + 1) m = toldN l i m + if nuN l i = m then 1 else 0 := by
  unfold toldN
  rw [List.range_succ, List.countP_append]
  simp [List.countP_cons]
theorem toldN_le (l : List NdN) (i m : Nat) : toldN l i m ≤ i := by
  unfold toldN
  have := List.countP_le_length (p := fun j => nuN l j == m) (l := List.range i)
  rw [List.length_range] at this
  exact this
theorem toldN_all (l : List NdN) (m : Nat) (h1 : 1 ≤ m) (h2 : m ≤ grpN l (sizesR l).length) : toldN l (sizesR l).length m = 1 := by
  rw [← grpN_len] at h2
  exact told_once (kdN l) (fiN l) (sizesR l).length m h1 h2
end Go.Proofs.Ytlhlgohgmbkaoaa

/- Patterns' trees, plainly: groups' numbers of a list of nodes; a node by itself; a pattern's tree. -/
import Derived.Test.YtlhlgohgmbkaoaaAe
import Derived.Test.YtlhlgohgmbkaoaaAm
import Derived.Test.YtlhlgohgmbkaoaaNp
namespace Go.Proofs.Ytlhlgohgmbkaoaa
open Go.RowKit BS

theorem sizesR_len (l : List NdN) : (sizesR l).length = if manyF 0 (l.map NdN.kids) = some 1 then l.length else 0 := by
  unfold sizesR
  by_cases hf : manyF 0 (l.map NdN.kids) = some 1
  · rw [if_pos hf, if_pos hf, List.length_map, sizesF_len]; simp [ksN]
  · rw [if_neg hf, if_neg hf]; rfl
theorem sizesR_le (l : List NdN) : (sizesR l).length ≤ l.length := by
  rw [sizesR_len]
  split
  · exact Nat.le_refl _
  · exact Nat.zero_le _
/-- Node i's kind; where its first node is, less one. -/
def kdN (l : List NdN) : Nat → Int := kindF (l.map NdN.kind)
def fiN (l : List NdN) (i : Nat) : Int := (i : Int) - (sizesR l).getD i 0
/-- Groups' numbers. -/
def numsR (l : List NdN) : List Int := (List.range (sizesR l).length).map fun i => ((numF (kdN l) (fiN l) (sizesR l).length i : Nat) : Int)
theorem kdN_get (l : List NdN) (i : Nat) (h : i < l.length) : kdN l i = l[i].kind := by
  unfold kdN kindF
  rw [List.getD_eq_getElem?_getD, List.getElem?_eq_getElem (by simpa using h), Option.getD_some, List.getElem_map]
theorem fiN_get (l : List NdN) (i : Nat) (h : i < (sizesR l).length) : fiN l i = (i : Int) - (sizesR l)[i] := by
  unfold fiN
  rw [List.getD_eq_getElem?_getD, List.getElem?_eq_getElem h, Option.getD_some]
theorem sizesR_bound (l : List NdN) (i : Nat) (h : i < (sizesR l).length) : 0 ≤ (sizesR l)[i] ∧ (sizesR l)[i] ≤ i + 1 := by
  have hf : manyF 0 (l.map NdN.kids) = some 1 := by
    rw [sizesR_len] at h
    by_cases hf : manyF 0 (l.map NdN.kids) = some 1
    · exact hf
    · rw [if_neg hf] at h; omega
  have hR : sizesR l = (sizesF [] (ksN l)).map (fun x : Nat => (x : Int)) := if_pos hf
  obtain ⟨hk0, hst⟩ := (formed_iff (l.map NdN.kids)).1 hf
  have hst : stackF [] (ksN l) = some [(l.map NdN.kids).length] := hst
  have hkl : (ksN l).length = l.length := by simp [ksN]
  have hi : i < (ksN l).length := by
    rw [sizesR_len, if_pos hf] at h
    omega
  obtain ⟨s, hs, hks, hsum⟩ := stack_at (ksN l) [] _ hst i hi
  obtain ⟨_, _, hsi⟩ := roots_at (ksN l) i hi s hs
  have hle := take_sum_le s (ksN l)[i]
  have hi2 : i < (sizesF [] (ksN l)).length := by rw [sizesF_len]; exact hi
  have e : (sizesR l)[i] = (((sizesF [] (ksN l))[i] : Nat) : Int) := by simp only [hR, List.getElem_map]
  have hs2 : s.sum = i := by simpa using hsum
  rw [e]
  rw [List.getElem?_eq_getElem hi2] at hsi
  have hsi := Option.some.inj hsi
  omega
/-- How many of the first k nodes are groups that do not begin behind node i's. -/
def cntN (l : List NdN) (i k : Nat) : Nat := (List.range k).countP fun k => kdN l k == 3 && leF (fiN l) k i
theorem cntN_step (l : List NdN) (i k : Nat) : cntN l i (k + 1) = cntN l i k + if (kdN l k == 3 && leF (fiN l) k i) = true then 1 else 0 := by
  unfold cntN
  rw [List.range_succ, List.countP_append]
  simp [List.countP_cons]
theorem cntN_le (l : List NdN) (i k : Nat) : cntN l i k ≤ k := by
  unfold cntN
  have := List.countP_le_length (p := fun k => kdN l k == 3 && leF (fiN l) k i) (l := List.range k)
  rw [List.length_range] at this
  exact this
theorem cntN_num (l : List NdN) (i : Nat) (h : kdN l i = 3) : cntN l i (sizesR l).length = numF (kdN l) (fiN l) (sizesR l).length i := (num_count _ _ _ _ h).symm

/-- May a node be, but for its kids' kinds? -/
def nodeF (x : NdN) : Bool :=
  if x.kind ≠ 2 ∧ x.set ≠ 0 then false
  else if x.kind ≠ 4 ∧ (x.n ≠ 0 ∨ x.m ≠ 0) then false
  else if x.kind = 1 ∨ x.kind = 2 then x.kids == 0
  else if x.kind = 3 then x.kids == 1
  else if x.kind = 4 then x.kids == 1 && rightN x.n x.m
  else if x.kind = 5 ∨ x.kind = 6 then decide (2 ≤ x.kids)
  else false
/-- May node i's kids be its kids? -/
def kidsOkB (l : List NdN) (i : Nat) : Bool := (kidsR l i).all fun x => kidF (kdN l i) (kdN l x.toNat)
def okN (l : List NdN) (i : Nat) : Bool := nodeF (l.getD i ⟨0, 0, 0, 0, 0⟩) && kidsOkB l i
def grpN (l : List NdN) (k : Nat) : Nat := (List.range k).countP fun i => kdN l i == 3
/-- Is a list a pattern's tree? -/
def rightR (l : List NdN) : Bool := decide (manyF 0 (l.map NdN.kids) = some 1) && ((List.range l.length).all (okN l) && decide (grpN l l.length ≤ 9))
theorem grpN_step (l : List NdN) (k : Nat) : grpN l (k + 1) = grpN l k + if (kdN l k == 3) = true then 1 else 0 := by
  unfold grpN
  rw [List.range_succ, List.countP_append]
  simp [List.countP_cons]
theorem grpN_le (l : List NdN) (k : Nat) : grpN l k ≤ k := by
  unfold grpN
  have := List.countP_le_length (p := fun i => kdN l i == 3) (l := List.range k)
  rw [List.length_range] at this
  exact this
end Go.Proofs.Ytlhlgohgmbkaoaa

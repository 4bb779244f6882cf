/- The document's trees: node, Right. -/
import Derived.Test.YtlhlgohgmbkaoaaAh
import Derived.Test.YtlhlgohgmbkaoaaNs
import Derived.Test.YtlhlgohgmbkaoaaEs
import Derived.Outline
import Derived.Deep.DeepCutAuto
namespace Go.Proofs.Ytlhlgohgmbkaoaa
open Go.RowKit BS

theorem kidsR_bound (l : List NdN) (i : Nat) (x : Int) (hx : x ∈ kidsR l i) : 0 ≤ x ∧ x < l.length := by
  unfold kidsR at hx
  by_cases hf : manyF 0 (l.map NdN.kids) = some 1 ∧ 0 ≤ (i : Int) ∧ (i : Int) < (l.length : Int)
  · rw [if_pos hf] at hx
    obtain ⟨y, hy, rfl⟩ := List.mem_map.1 hx
    rw [List.mem_reverse, show (i : Int).toNat = i from rfl] at hy
    have hkl : (ksN l).length = l.length := by simp [ksN]
    have hlt := allKids_lt (ksN l) [] 0 (fun h => absurd rfl h)
    have hal := allKids_len (ksN l) [] 0
    have hi : i < (allKids 0 [] (ksN l)).length := by rw [hal, hkl]; omega
    rw [List.getElem?_eq_getElem hi, Option.getD_some] at hy
    have := hlt _ (List.getElem_mem hi) y hy
    omega
  · rw [if_neg hf] at hx; cases hx
theorem kidsR_len (l : List NdN) (i : Nat) : (kidsR l i).length ≤ l.length := by
  unfold kidsR
  by_cases hf : manyF 0 (l.map NdN.kids) = some 1 ∧ 0 ≤ (i : Int) ∧ (i : Int) < (l.length : Int)
  · rw [if_pos hf, show (i : Int).toNat = i from rfl]
    obtain ⟨hk0, hst⟩ := (formed_iff (l.map NdN.kids)).1 hf.1
    have hst : stackF [] (ksN l) = some [(l.map NdN.kids).length] := hst
    have hkl : (ksN l).length = l.length := by simp [ksN]
    have hi : i < (ksN l).length := by omega
    obtain ⟨s, hs, hks, hsum⟩ := stack_at (ksN l) [] _ hst i hi
    have hpl := len_le_sum s (stackF_pos ((ksN l).take i) [] s (by simp) hs)
    have hsumi : s.sum = i := by simpa using hsum
    rw [allKids_at (ksN l) i hi s hs, Option.getD_some, List.length_map, List.length_reverse, List.length_take, posF_len]
    omega
  · rw [if_neg hf]; exact Nat.zero_le _
def SRi (w0 : World) (g off i x : Nat) (a b : Int) (g2 k : Nat) (W : World) : Prop :=
  (W.cell? ⟨g, off + i * 8, none⟩ = some (.int .i64 a) ∧ W.cell? ⟨g, off + x * 8, none⟩ = some (.int .i64 b) ∧ W.cell? ⟨g2, k, none⟩ = some (.int .i64 x)) ∧ W = w0
/-- Up to node i, and to kid k of it, all is right. -/
theorem okN_split (l : List NdN) (i : Nat) (h : i < l.length) : okN l i = (nodeF l[i] && kidsOkB l i) := by
  unfold okN
  rw [List.getD_eq_getElem?_getD, List.getElem?_eq_getElem h, Option.getD_some]
theorem rightR_no (l : List NdN) (i : Nat) (h : i < l.length) (h2 : okN l i = false) : rightR l = false := by
  unfold rightR
  have : (List.range l.length).all (okN l) = false := by
    rw [List.all_eq_false]
    exact ⟨i, List.mem_range.2 h, by rw [h2]; decide⟩
  rw [this]; simp
end Go.Proofs.Ytlhlgohgmbkaoaa

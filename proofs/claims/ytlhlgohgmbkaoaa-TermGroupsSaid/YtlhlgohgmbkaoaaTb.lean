/- Texts as bytes: their bytes, one by one; texts told by numbers; texts that are alike up to a place. -/
import Derived.Test.YtlhlgohgmbkaoaaChecked
import Derived.WalkKit
import Derived.Laws.BytesArg
import Derived.Laws.Concat
namespace Go.Proofs.Ytlhlgohgmbkaoaa
open Go.RowKit

/-- Byte i of a text. -/
def bt (s : ByteArray) (i : Nat) : Nat := (s.data.toList.getD i 0).toNat
theorem bt_eq (s : ByteArray) (i : Nat) (h : i < s.size) : bt s i = s[i].toNat := by
  have h' : i < s.data.toList.length := by simpa using h
  unfold bt
  rw [List.getD_eq_getElem?_getD, List.getElem?_eq_getElem h', Option.getD_some]
  rfl
theorem bt_lt (s : ByteArray) (i : Nat) : bt s i < 256 := UInt8.toNat_lt _
/-- The text of the bytes L. -/
def ofT (L : List Nat) : ByteArray := ⟨(L.map UInt8.ofNat).toArray⟩
theorem size_ofT (L : List Nat) : (ofT L).size = L.length := by simp [ofT, ByteArray.size]
theorem ofT_append (L M : List Nat) : ofT L ++ ofT M = ofT (L ++ M) := by
  apply ByteArray.ext
  simp [ofT]
theorem bt_app (a b : ByteArray) (i : Nat) : bt (a ++ b) i = if i < a.size then bt a i else bt b (i - a.size) := by
  unfold bt
  have e : (a ++ b).data.toList = a.data.toList ++ b.data.toList := by simp
  have hl : a.data.toList.length = a.size := by simp
  rw [e]
  by_cases h : i < a.size
  · rw [if_pos h, List.getD_eq_getElem?_getD, List.getD_eq_getElem?_getD, List.getElem?_append_left (by omega)]
  · rw [if_neg h, List.getD_eq_getElem?_getD, List.getD_eq_getElem?_getD, List.getElem?_append_right (by omega), hl]
theorem bt_ofT (L : List Nat) (hL : ∀ x ∈ L, x < 256) (i : Nat) (h : i < L.length) : bt (ofT L) i = L[i] := by
  unfold bt ofT
  simp only [List.getD_eq_getElem?_getD]
  rw [List.getElem?_eq_getElem (by simpa using h), Option.getD_some]
  have := hL L[i] (List.getElem_mem h)
  simp
  omega
/-- The first n bytes are the same. -/
def Agr (n : Nat) (s s' : ByteArray) : Prop := n ≤ s.size ∧ n ≤ s'.size ∧ ∀ i, i < n → bt s i = bt s' i
theorem Agr.le {n m : Nat} {s s' : ByteArray} (h : Agr n s s') (hm : m ≤ n) : Agr m s s' := ⟨by have := h.1; omega, by have := h.2.1; omega, fun i hi => h.2.2 i (by omega)⟩
theorem ext_agr {n : Nat} {s s' : ByteArray} (h : Agr n s s') (i j : Nat) (hj : j ≤ n) : s.extract i j = s'.extract i j := by
  have h1 := h.1
  have h2 := h.2.1
  apply ByteArray.ext
  apply Array.toList_inj.1
  rw [ByteArray.data_extract, ByteArray.data_extract, Array.toList_extract, Array.toList_extract]
  apply List.ext_getElem?
  intro k
  simp only [List.extract_eq_take_drop, List.getElem?_take, List.getElem?_drop]
  by_cases hk : k < j - i
  · simp only [hk, if_true]
    have hb := h.2.2 (i + k) (by omega)
    rw [bt_eq s _ (by omega), bt_eq s' _ (by omega)] at hb
    have e1 : i + k < s.data.toList.length := by have : s.data.toList.length = s.size := by simp
                                                 omega
    have e2 : i + k < s'.data.toList.length := by have : s'.data.toList.length = s'.size := by simp
                                                  omega
    rw [List.getElem?_eq_getElem e1, List.getElem?_eq_getElem e2]
    exact congrArg some (UInt8.toNat.inj hb)
  · simp only [hk, if_false]
def eT : ByteArray := ⟨#[]⟩
theorem bt_extract (s : ByteArray) (a e i : Nat) (he : e ≤ s.size) (h : a + i < e) : bt (s.extract a e) i = bt s (a + i) := by
  have h1 : i < (s.extract a e).size := by rw [ByteArray.size_extract]; omega
  rw [bt_eq _ i h1, bt_eq _ (a + i) (by omega), ByteArray.getElem_extract]
theorem ba_ext {a b : ByteArray} (h : a.size = b.size) (hb : ∀ i, i < a.size → bt a i = bt b i) : a = b := by
  apply ByteArray.ext
  apply Array.ext
  · exact h
  · intro i h1 h2
    have e := hb i h1
    rw [bt_eq a i h1, bt_eq b i h2] at e
    exact UInt8.toNat_inj.1 e
theorem numsT (L : List Nat) : strOfNums (L.map (fun n : Nat => (n : Int))) = ofT L := by
  unfold strOfNums ofT
  rw [List.map_map]
  rfl
theorem eT_app (a : ByteArray) : eT ++ a = a := by
  apply ByteArray.ext; simp [eT]
theorem toL (L : List Nat) : (ofT L).toList = L.map UInt8.ofNat := by rw [ByteArray.toList_eq]; simp [ofT]
theorem addT (L M : List Nat) (h : L.length + M.length ≤ 9223372036854775807) (w : World) : (Op.stringOp .add (ofT L) (ofT M)).run Try.prog w = .ok (.string (ofT (L ++ M))) w := by
  rw [← ofT_append]; exact run_string_add_sum w _ _ (by rw [size_ofT, size_ofT]; exact h)
theorem agr_cut (s more : ByteArray) (n : Nat) (h : n ≤ s.size) : Agr n s (s.extract 0 n ++ more) := by
  have hz : (s.extract 0 n).size = n := by rw [ByteArray.size_extract]; omega
  refine ⟨h, by rw [ByteArray.size_append]; omega, fun i hi => ?_⟩
  rw [bt_app, if_pos (by omega), bt_extract s 0 n i h (by omega), Nat.zero_add]
end Go.Proofs.Ytlhlgohgmbkaoaa

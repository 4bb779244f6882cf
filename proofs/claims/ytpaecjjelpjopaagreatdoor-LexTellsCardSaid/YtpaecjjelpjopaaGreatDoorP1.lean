/- Texts put together: Tb Sm Sw Sx So Sp Sq Sr Ss St Su Bk Sv Rs Rv Bl Eq Es Rw Rx Ry. -/
import Derived.Test.YtpaecjjelpjopaaGreatDoorChecked
import Derived.WalkKit
import Derived.Laws.BytesArg
import Derived.Laws.Concat
import Derived.Test.YtpaecjjelpjopaaGreatDoorRows
import Derived.WalkSpells
import Derived.WalkLawsBesides
import Derived.Handy
import Derived.Lib.TrailingZeros
import Derived.Deep.RegionHeld3
import Derived.Deep.RegionWith
import Derived.Deep.DeepCutAuto
import Derived.Lib.Hide
import Derived.RangeFuncNested
import Derived.RangeFuncBound
import Derived.RangeFuncCalls
import Derived.RangeFuncLeaves
import Derived.Shelf.Abstract
import Derived.Shelf.RegionOpen
import Derived.OwnWalkIn
import Derived.TacticsInMore
import Derived.LoopNIn
import Derived.LoopIn
import Derived.RangeFuncBox
import Derived.RangeFuncFrom
import Derived.OrdersHeld
import Derived.Laws.Rows
import Derived.Laws.Tables
import Derived.Laws.CopyOwn
import Derived.Deep.Draws
import Derived.Test.YtpaecjjelpjopaaGreatDoorProg
/- Texts as bytes: their bytes, one by one; texts told by numbers; texts that are alike up to a place. -/
namespace Go.Proofs.YtpaecjjelpjopaaGreatDoor
open Go.RowKit

/-- Byte i of a text. -/
def bt (s : ByteArray) (i : Nat) : Nat := (s.data.toList.getD i 0).toNat
theorem bt_eq (s : ByteArray) (i : Nat) (h : i < s.size) : bt s i = s[i].toNat := by
  have h' : i < s.data.toList.length := by simpa using h
  unfold bt
  rw [List.getD_eq_getElem?_getD, List.getElem?_eq_getElem h', Option.getD_some]
  rfl
theorem bt_lt (s : ByteArray) (i : Nat) : bt s i < 256 := UInt8.toNat_lt _
/-- The text of the bytes L. -/
def ofT (L : List Nat) : ByteArray := ⟨(L.map UInt8.ofNat).toArray⟩
theorem size_ofT (L : List Nat) : (ofT L).size = L.length := by simp [ofT, ByteArray.size]
theorem ofT_append (L M : List Nat) : ofT L ++ ofT M = ofT (L ++ M) := by
  apply ByteArray.ext
  simp [ofT]
theorem bt_app (a b : ByteArray) (i : Nat) : bt (a ++ b) i = if i < a.size then bt a i else bt b (i - a.size) := by
  unfold bt
  have e : (a ++ b).data.toList = a.data.toList ++ b.data.toList := by simp
  have hl : a.data.toList.length = a.size := by simp
  rw [e]
  by_cases h : i < a.size
  · rw [if_pos h, List.getD_eq_getElem?_getD, List.getD_eq_getElem?_getD, List.getElem?_append_left (by omega)]
  · rw [if_neg h, List.getD_eq_getElem?_getD, List.getD_eq_getElem?_getD, List.getElem?_append_right (by omega), hl]
theorem bt_ofT (L : List Nat) (hL : ∀ x ∈ L, x < 256) (i : Nat) (h : i < L.length) : bt (ofT L) i = L[i] := by
  unfold bt ofT
  simp only [List.getD_eq_getElem?_getD]
  rw [List.getElem?_eq_getElem (by simpa using h), Option.getD_some]
  have := hL L[i] (List.getElem_mem h)
  simp
  omega
/-- The first n bytes are the same. -/
def Agr (n : Nat) (s s' : ByteArray) : Prop := n ≤ s.size ∧ n ≤ s'.size ∧ ∀ i, i < n → bt s i = bt s' i
theorem Agr.le {n m : Nat} {s s' : ByteArray} (h : Agr n s s') (hm : m ≤ n) : Agr m s s' := ⟨by have := h.1; omega, by have := h.2.1; omega, fun i hi => h.2.2 i (by omega)⟩
theorem ext_agr {n : Nat} {s s' : ByteArray} (h : Agr n s s') (i j : Nat) (hj : j ≤ n) : s.extract i j = s'.extract i j := by
  have h1 := h.1
  have h2 := h.2.1
  apply ByteArray.ext
  apply Array.toList_inj.1
  rw [ByteArray.data_extract, ByteArray.data_extract, Array.toList_extract, Array.toList_extract]
  apply List.ext_getElem?
  intro k
  simp only [List.extract_eq_take_drop, List.getElem?_take, List.getElem?_drop]
  by_cases hk : k < j - i
  · simp only [hk, if_true]
    have hb := h.2.2 (i + k) (by omega)
    rw [bt_eq s _ (by omega), bt_eq s' _ (by omega)] at hb
    have e1 : i + k < s.data.toList.length := by have : s.data.toList.length = s.size := by simp
                                                 omega
    have e2 : i + k < s'.data.toList.length := by have : s'.data.toList.length = s'.size := by simp
                                                  omega
    rw [List.getElem?_eq_getElem e1, List.getElem?_eq_getElem e2]
    exact congrArg some (UInt8.toNat.inj hb)
  · simp only [hk, if_false]
def eT : ByteArray := ⟨#[]⟩
theorem bt_extract (s : ByteArray) (a e i : Nat) (he : e ≤ s.size) (h : a + i < e) : bt (s.extract a e) i = bt s (a + i) := by
  have h1 : i < (s.extract a e).size := by rw [ByteArray.size_extract]; omega
  rw [bt_eq _ i h1, bt_eq _ (a + i) (by omega), ByteArray.getElem_extract]
theorem ba_ext {a b : ByteArray} (h : a.size = b.size) (hb : ∀ i, i < a.size → bt a i = bt b i) : a = b := by
  apply ByteArray.ext
  apply Array.ext
  · exact h
  · intro i h1 h2
    have e := hb i h1
    rw [bt_eq a i h1, bt_eq b i h2] at e
    exact UInt8.toNat_inj.1 e
theorem numsT (L : List Nat) : strOfNums (L.map (fun n : Nat => (n : Int))) = ofT L := by
  unfold strOfNums ofT
  rw [List.map_map]
  rfl
theorem cvL (W : World) (t : TypeId) (L : List Nat) (C : Array Value) (hC : ∀ i (h : i < L.length), C[i]? = some (.int .u8 (L[i] : Int))) (m : Nat × Nat) : (convert 59 9 (.slice (some ⟨W.heap.size, 0, none⟩) L.length L.length)).run Tryz.prog (W.alloc (.cells C t m)) = .ok (.string (ofT L)) (W.alloc (.cells C t m)) := by
  rw [← numsT L]
  refine run_convert_bytes_arg (P := Tryz.prog) (W.alloc (.cells C t m)) 59 5 Tryz.underlying59 Tryz.underlying5 W.heap.size 0 L.length L.length _ (by simp) (fun i hi => ?_) 9 Tryz.underlying9
  rw [Nat.zero_add, World.cell?_alloc_mark]
  rw [hC i hi]
  simp [List.getD_eq_getElem?_getD, List.getElem?_map, List.getElem?_eq_getElem hi]
theorem cv1 (W : World) (t : TypeId) (a : Nat) : (convert 59 9 (.slice (some ⟨W.heap.size, 0, none⟩) 1 1)).run Tryz.prog (W.alloc (.cells #[.int .u8 a] t)) = .ok (.string (ofT [a])) (W.alloc (.cells #[.int .u8 a] t)) := cvL W t [a] _ (fun i h => by
    have h2 : i < 1 := h
    rcases (by omega : i = 0) with rfl
    rfl) (0, 0)
theorem cv2 (W : World) (t : TypeId) (a b : Nat) : (convert 59 9 (.slice (some ⟨W.heap.size, 0, none⟩) 2 2)).run Tryz.prog (W.alloc (.cells #[.int .u8 a, .int .u8 b] t)) = .ok (.string (ofT [a, b])) (W.alloc (.cells #[.int .u8 a, .int .u8 b] t)) := cvL W t [a, b] _ (fun i h => by
    have h2 : i < 2 := h
    rcases (by omega : i = 0 ∨ i = 1) with rfl | rfl <;> rfl) (0, 0)
theorem cv3 (W : World) (t : TypeId) (a b c : Nat) : (convert 59 9 (.slice (some ⟨W.heap.size, 0, none⟩) 3 3)).run Tryz.prog (W.alloc (.cells #[.int .u8 a, .int .u8 b, .int .u8 c] t)) = .ok (.string (ofT [a, b, c])) (W.alloc (.cells #[.int .u8 a, .int .u8 b, .int .u8 c] t)) := cvL W t [a, b, c] _ (fun i h => by
    have h2 : i < 3 := h
    rcases (by omega : i = 0 ∨ i = 1 ∨ i = 2) with rfl | rfl | rfl <;> rfl) (0, 0)
theorem eT_app (a : ByteArray) : eT ++ a = a := by
  apply ByteArray.ext; simp [eT]
theorem toL (L : List Nat) : (ofT L).toList = L.map UInt8.ofNat := by rw [ByteArray.toList_eq]; simp [ofT]
theorem addT (L M : List Nat) (h : L.length + M.length ≤ 9223372036854775807) (w : World) : (Op.stringOp .add (ofT L) (ofT M)).run Tryz.prog w = .ok (.string (ofT (L ++ M))) w := by
  rw [← ofT_append]; exact run_string_add_sum w _ _ (by rw [size_ofT, size_ofT]; exact h)
theorem agr_cut (s more : ByteArray) (n : Nat) (h : n ≤ s.size) : Agr n s (s.extract 0 n ++ more) := by
  have hz : (s.extract 0 n).size = n := by rw [ByteArray.size_extract]; omega
  refine ⟨h, by rw [ByteArray.size_append]; omega, fun i hi => ?_⟩
  rw [bt_app, if_pos (by omega), bt_extract s 0 n i h (by omega), Nat.zero_add]
end Go.Proofs.YtpaecjjelpjopaaGreatDoor

/- Plain facts on sets of bytes, kept as 256 bits: their words, and what the machine's bit operations on words are. Nothing of the program is used. -/
namespace Go.Proofs.YtpaecjjelpjopaaGreatDoor
namespace BS
open Go.RowKit

def wd (s : BitVec 256) (i : Nat) : Nat := (s.extractLsb' (64 * i) 64).toNat

theorem wd_lt (s : BitVec 256) (i : Nat) : wd s i < 2 ^ 64 := (s.extractLsb' (64 * i) 64).isLt
theorem wd_lt' (s : BitVec 256) (i : Nat) : wd s i < 18446744073709551616 := wd_lt s i

theorem testBit_wd (s : BitVec 256) (i j : Nat) : (wd s i).testBit j = (decide (j < 64) && s.getLsbD (64 * i + j)) := by
  unfold wd
  rw [BitVec.testBit_toNat, BitVec.getLsbD_extractLsb']

theorem wd_or (a b : BitVec 256) (i : Nat) : wd (a ||| b) i = wd a i ||| wd b i := by
  apply Nat.eq_of_testBit_eq; intro j
  rw [Nat.testBit_or]
  simp only [testBit_wd, BitVec.getLsbD_or]
  cases decide (j < 64) <;> simp
theorem wd_and (a b : BitVec 256) (i : Nat) : wd (a &&& b) i = wd a i &&& wd b i := by
  apply Nat.eq_of_testBit_eq; intro j
  rw [Nat.testBit_and]
  simp only [testBit_wd, BitVec.getLsbD_and]
  cases decide (j < 64) <;> simp

/-- Two sets with the same words are the same. -/
theorem ext_wd {a b : BitVec 256} (h0 : wd a 0 = wd b 0) (h1 : wd a 1 = wd b 1) (h2 : wd a 2 = wd b 2) (h3 : wd a 3 = wd b 3) : a = b := by
  apply BitVec.eq_of_getLsbD_eq
  intro j hj
  have key : ∀ i, wd a i = wd b i → ∀ k, k < 64 → a.getLsbD (64 * i + k) = b.getLsbD (64 * i + k) := by
    intro i h k hk
    have := congrArg (fun n => n.testBit k) h
    simp only [testBit_wd, hk, decide_true, Bool.true_and] at this
    exact this
  have hk : j % 64 < 64 := Nat.mod_lt _ (by decide)
  have hj' : 64 * (j / 64) + j % 64 = j := Nat.div_add_mod j 64
  have h4 : j / 64 = 0 ∨ j / 64 = 1 ∨ j / 64 = 2 ∨ j / 64 = 3 := by omega
  rcases h4 with h | h | h | h <;> rw [← hj', h]
  · exact key 0 h0 _ hk
  · exact key 1 h1 _ hk
  · exact key 2 h2 _ hk
  · exact key 3 h3 _ hk

theorem ofInt_toNat (a : Nat) (ha : a < 2 ^ 64) : (BitVec.ofInt 64 (a : Int)).toNat = a := by
  rw [BitVec.ofInt_natCast, BitVec.toNat_ofNat]; exact Nat.mod_eq_of_lt ha
theorem wrap_u64_nat (n : Nat) (h : n < 2 ^ 64) : IntKind.u64.wrap (n : Int) = n := by
  rw [IntKind.wrap_u64]; omega

theorem bits_or_nat (a b : Nat) (ha : a < 2 ^ 64) (hb : b < 2 ^ 64) : bits .or .u64 (a : Int) (b : Int) = ((a ||| b : Nat) : Int) := by
  show IntKind.u64.wrap ((BitVec.ofInt 64 (a : Int) ||| BitVec.ofInt 64 (b : Int)).toNat : Int) = _
  rw [BitVec.toNat_or, ofInt_toNat a ha, ofInt_toNat b hb, wrap_u64_nat _ (Nat.or_lt_two_pow ha hb)]
theorem bits_and_nat (a b : Nat) (ha : a < 2 ^ 64) (hb : b < 2 ^ 64) : bits .and .u64 (a : Int) (b : Int) = ((a &&& b : Nat) : Int) := by
  show IntKind.u64.wrap ((BitVec.ofInt 64 (a : Int) &&& BitVec.ofInt 64 (b : Int)).toNat : Int) = _
  rw [BitVec.toNat_and, ofInt_toNat a ha, ofInt_toNat b hb, wrap_u64_nat _ (Nat.and_lt_two_pow _ hb)]

theorem bits_or_wd (a b : BitVec 256) (i : Nat) : bits .or .u64 (wd a i : Int) (wd b i : Int) = (wd (a ||| b) i : Int) := by
  rw [bits_or_nat _ _ (wd_lt _ _) (wd_lt _ _), wd_or]
theorem bits_and_wd (a b : BitVec 256) (i : Nat) : bits .and .u64 (wd a i : Int) (wd b i : Int) = (wd (a &&& b) i : Int) := by
  rw [bits_and_nat _ _ (wd_lt _ _) (wd_lt _ _), wd_and]

theorem bits_andNot_wd (a b : BitVec 256) (i : Nat) (hi : i < 4) : bits .andNot .u64 (wd a i : Int) (wd b i : Int) = (wd (a &&& ~~~b) i : Int) := by
  show IntKind.u64.wrap ((BitVec.ofInt 64 (wd a i : Int) &&& ~~~BitVec.ofInt 64 (wd b i : Int)).toNat : Int) = _
  rw [wrap_u64_nat _ (BitVec.isLt _)]
  congr 1
  apply Nat.eq_of_testBit_eq; intro j
  rw [BitVec.testBit_toNat, BitVec.getLsbD_and, BitVec.getLsbD_not, testBit_wd, BitVec.getLsbD_and, BitVec.getLsbD_not]
  rw [← BitVec.testBit_toNat, ← BitVec.testBit_toNat, ofInt_toNat _ (wd_lt _ _), ofInt_toNat _ (wd_lt _ _), testBit_wd, testBit_wd]
  by_cases hj : j < 64
  · have : 64 * i + j < 256 := by omega
    simp [hj, this]
  · simp [hj]

theorem bits_not_wd (a : BitVec 256) (i : Nat) (hi : i < 4) : bits .xor .u64 IntKind.u64.max (wd a i : Int) = (wd (~~~a) i : Int) := by
  have hm : IntKind.u64.max = ((2 ^ 64 - 1 : Nat) : Int) := by decide
  rw [hm]
  show IntKind.u64.wrap ((BitVec.ofInt 64 ((2 ^ 64 - 1 : Nat) : Int) ^^^ BitVec.ofInt 64 (wd a i : Int)).toNat : Int) = _
  rw [wrap_u64_nat _ (BitVec.isLt _)]
  congr 1
  apply Nat.eq_of_testBit_eq; intro j
  rw [BitVec.testBit_toNat, BitVec.getLsbD_xor, testBit_wd, BitVec.getLsbD_not]
  rw [← BitVec.testBit_toNat, ← BitVec.testBit_toNat, ofInt_toNat _ (by omega), ofInt_toNat _ (wd_lt _ _), testBit_wd, Nat.testBit_two_pow_sub_one]
  by_cases hj : j < 64
  · have : 64 * i + j < 256 := by omega
    simp [hj, this]
  · simp [hj]

/-- The number with just the bits below n of which f says yes. -/
def natOf (f : Nat → Bool) : Nat → Nat
  | 0 => 0
  | n + 1 => 2 ^ n * (f n).toNat + natOf f n
theorem natOf_lt (f : Nat → Bool) : ∀ n, natOf f n < 2 ^ n
  | 0 => by simp [natOf]
  | n + 1 => by
    have := natOf_lt f n
    have h2 : 2 ^ (n + 1) = 2 ^ n * 2 := Nat.pow_succ ..
    cases h : f n <;> simp [natOf, h] <;> omega
theorem testBit_natOf (f : Nat → Bool) (j : Nat) : ∀ n, (natOf f n).testBit j = (decide (j < n) && f j)
  | 0 => by simp [natOf]
  | n + 1 => by
    have ih := testBit_natOf f j n
    rw [natOf, Nat.testBit_two_pow_mul_add _ (natOf_lt f n)]
    by_cases h : j < n
    · rw [if_pos h, ih]; simp [h, show j < n + 1 by omega]
    · rw [if_neg h]
      by_cases h2 : j = n
      · subst h2; cases f j <;> simp
      · simp only [show ¬ j < n + 1 by omega, decide_false, Bool.false_and]
        apply Nat.testBit_lt_two_pow
        have : (f n).toNat ≤ 1 := Bool.toNat_le _
        have h3 : 2 ^ 1 ≤ 2 ^ (j - n) := Nat.pow_le_pow_right (by decide) (by omega)
        omega
/-- The set of the numbers of which f says yes. -/
def ofFn (f : Nat → Bool) : BitVec 256 := BitVec.ofNat 256 (natOf f 256)
theorem get_ofFn (f : Nat → Bool) (j : Nat) : (ofFn f).getLsbD j = (decide (j < 256) && f j) := by
  unfold ofFn
  rw [BitVec.getLsbD_ofNat, testBit_natOf]
  cases decide (j < 256) <;> simp

/-- What lies below n. -/
def mask (n : Nat) : BitVec 256 := ofFn fun j => decide (j < n)

theorem wd_mask (n i : Nat) (hi : i < 4) : wd (mask n) i = 2 ^ (min (n - 64 * i) 64) - 1 := by
  apply Nat.eq_of_testBit_eq; intro j
  rw [testBit_wd, Nat.testBit_two_pow_sub_one, mask, get_ofFn]
  by_cases hj : j < 64
  · have : 64 * i + j < 256 := by omega
    simp only [hj, this, decide_true, Bool.true_and, decide_eq_decide]
    omega
  · simp only [hj, decide_false, Bool.false_and]
    symm; rw [decide_eq_false_iff_not]; omega

/-- From lo to hi. -/
def range (lo hi : Nat) : BitVec 256 := ofFn fun j => decide (lo ≤ j) && decide (j ≤ hi)
theorem range_eq (lo hi : Nat) : mask (hi + 1) &&& ~~~(mask lo) = range lo hi := by
  apply BitVec.eq_of_getLsbD_eq
  intro j hj
  rw [BitVec.getLsbD_and, BitVec.getLsbD_not, mask, mask, range, get_ofFn, get_ofFn, get_ofFn]
  simp only [hj, decide_true, Bool.true_and]
  rw [Bool.and_comm, ← decide_not]
  congr 1
  · rw [decide_eq_decide]; omega
  · rw [decide_eq_decide]; omega

theorem pow_wrap1 : IntKind.u64.wrap (IntKind.u64.wrap 18446744073709551616 - 1) = ((2 ^ 64 - 1 : Nat) : Int) := by decide
theorem pow_wrap2 (k : Nat) (hk : k ≤ 64) : IntKind.u64.wrap (IntKind.u64.wrap (2 ^ k) - 1) = ((2 ^ k - 1 : Nat) : Int) := by
  rw [IntKind.wrap_u64, IntKind.wrap_u64]
  have h1 : (2 : Nat) ^ k ≤ 2 ^ 64 := Nat.pow_le_pow_right (by decide) hk
  have h2 : 0 < (2 : Nat) ^ k := Nat.two_pow_pos k
  have h3 : ((2 : Int) ^ k) = ((2 ^ k : Nat) : Int) := by simp
  rw [h3]
  generalize (2 : Nat) ^ k = x at *
  omega

/-- The bit test of 'Has'. -/
theorem has_word (a : BitVec 256) (i k : Nat) (hk : k < 64) : (bits .and .u64 ((wd a i : Int) / 2 ^ k) 1 == 1) = a.getLsbD (64 * i + k) := by
  have h1 : ((wd a i : Int) / 2 ^ k) = ((wd a i / 2 ^ k : Nat) : Int) := by simp
  have h2 : wd a i / 2 ^ k < 2 ^ 64 := Nat.lt_of_le_of_lt (Nat.div_le_self _ _) (wd_lt _ _)
  have h3 : (1 : Int) = ((1 : Nat) : Int) := rfl
  rw [h1, h3, bits_and_nat _ _ h2 (by decide), Nat.and_one_is_mod]
  have h4 := testBit_wd a i k
  rw [Nat.testBit_eq_decide_div_mod_eq] at h4
  simp only [hk, decide_true, Bool.true_and] at h4
  rw [← h4]
  by_cases h : wd a i / 2 ^ k % 2 = 1
  · rw [h]; rfl
  · have : wd a i / 2 ^ k % 2 = 0 := by omega
    rw [this]; rfl

/-- The set as the machine's value: four words. -/
@[reducible] def setV (s : BitVec 256) : Value := .agg #[.int .u64 (wd s 0), .int .u64 (wd s 1), .int .u64 (wd s 2), .int .u64 (wd s 3)]

/-- Any four words are a set's. -/
theorem of_words (a b c d : Int) (ha : 0 ≤ a ∧ a < 18446744073709551616) (hb : 0 ≤ b ∧ b < 18446744073709551616) (hc : 0 ≤ c ∧ c < 18446744073709551616) (hd : 0 ≤ d ∧ d < 18446744073709551616) :
    ∃ s : BitVec 256, a = (wd s 0 : Int) ∧ b = (wd s 1 : Int) ∧ c = (wd s 2 : Int) ∧ d = (wd s 3 : Int) := by
  obtain ⟨a, rfl⟩ := Int.eq_ofNat_of_zero_le ha.1
  obtain ⟨b, rfl⟩ := Int.eq_ofNat_of_zero_le hb.1
  obtain ⟨c, rfl⟩ := Int.eq_ofNat_of_zero_le hc.1
  obtain ⟨d, rfl⟩ := Int.eq_ofNat_of_zero_le hd.1
  refine ⟨ofFn fun j => if j < 64 then a.testBit j else if j < 128 then b.testBit (j - 64) else if j < 192 then c.testBit (j - 128) else d.testBit (j - 192), ?_, ?_, ?_, ?_⟩
  all_goals
    refine congrArg (fun n : Nat => (n : Int)) ?_
    apply Nat.eq_of_testBit_eq; intro j
    rw [testBit_wd, get_ofFn]
    by_cases hj : j < 64
    · simp [hj, show j < 256 by omega, show 64 + j < 256 by omega, show 128 + j < 256 by omega, show 192 + j < 256 by omega, show ¬ (64 + j < 64) by omega, show ¬ (128 + j < 64) by omega, show ¬ (128 + j < 128) by omega, show (128 + j < 192) by omega, show ¬ (192 + j < 64) by omega, show ¬ (192 + j < 128) by omega, show ¬ (192 + j < 192) by omega, show (64 + j < 128) by omega]
    · simp only [hj, decide_false, Bool.false_and]
      apply Nat.testBit_lt_two_pow
      refine Nat.lt_of_lt_of_le (m := 2 ^ 64) (by omega) (Nat.pow_le_pow_right (by decide) (by omega))
end BS
end Go.Proofs.YtpaecjjelpjopaaGreatDoor

/- The calls on sets of bytes: what each hands back, whatever the sets are. -/
namespace Go.Proofs.YtpaecjjelpjopaaGreatDoor
open Go.RowKit BS

theorem bcell {W w1 : World} (hb : Below W.heap.size W w1) : (∀ b o, b < W.heap.size → w1.cell? ⟨b, o, none⟩ = W.cell? ⟨b, o, none⟩) ∧ (∀ b o, b < W.heap.size → w1.frozen? ⟨b, o, none⟩ = W.frozen? ⟨b, o, none⟩) :=
  ⟨fun b o h => hb.cell (p := ⟨b, o, none⟩) h, fun b o h => hb.frozen (p := ⟨b, o, none⟩) h⟩

theorem ret_set {s : BitVec 256} {a b c d : Int} (h0 : a = wd s 0) (h1 : b = wd s 1) (h2 : c = wd s 2) (h3 : d = wd s 3) :
    Ending.returned (.agg #[.int .u64 a, .int .u64 b, .int .u64 c, .int .u64 d]) = .returned (setV s) := by rw [h0, h1, h2, h3]
theorem ret_bool {a b : Bool} (h : a = b) : Ending.returned (.bool a) = .returned (.bool b) := by rw [h]
theorem ret_int {k : IntKind} {a b : Int} (h : a = b) : Ending.returned (.int k a) = .returned (.int k b) := by rw [h]

theorem ix0 (a b c d : Value) (w : World) : (Instr.index 25 (.agg #[a, b, c, d]) (.int .i64 0)).run Tryz.prog w = .ok a w := by kernel_rfl
theorem ix1 (a b c d : Value) (w : World) : (Instr.index 25 (.agg #[a, b, c, d]) (.int .i64 1)).run Tryz.prog w = .ok b w := by kernel_rfl
theorem ix2 (a b c d : Value) (w : World) : (Instr.index 25 (.agg #[a, b, c, d]) (.int .i64 2)).run Tryz.prog w = .ok c w := by kernel_rfl
theorem ix3 (a b c d : Value) (w : World) : (Instr.index 25 (.agg #[a, b, c, d]) (.int .i64 3)).run Tryz.prog w = .ok d w := by kernel_rfl

set_option maxHeartbeats 400000 in
/-- Or. -/
theorem or_calls (a b : BitVec 256) (w : World) :
    Calls Tryz.prog 144 #[setV a, setV b] w fun e w' => e = .returned (setV (a ||| b)) ∧ Below w.heap.size w w' := by
  have i0 := ix0; have i1 := ix1; have i2 := ix2; have i3 := ix3
  go_enter Tryz.func144, Tryz.ntmps144
  go_wp2
  go_rounds 5
  go_returns
  exact ⟨ret_set (bits_or_wd _ _ _) (bits_or_wd _ _ _) (bits_or_wd _ _ _) (bits_or_wd _ _ _), by go_grown⟩
set_option maxHeartbeats 400000 in
/-- Less. -/
theorem less_calls (a b : BitVec 256) (w : World) :
    Calls Tryz.prog 41 #[setV a, setV b] w fun e w' => e = .returned (setV (a &&& ~~~b)) ∧ Below w.heap.size w w' := by
  have i0 := ix0; have i1 := ix1; have i2 := ix2; have i3 := ix3
  go_enter Tryz.func41, Tryz.ntmps41
  go_wp2
  go_rounds 5
  go_returns
  exact ⟨ret_set (bits_andNot_wd _ _ _ (by decide)) (bits_andNot_wd _ _ _ (by decide)) (bits_andNot_wd _ _ _ (by decide)) (bits_andNot_wd _ _ _ (by decide)), by go_grown⟩
set_option maxHeartbeats 400000 in
/-- Not. -/
theorem not_calls (a : BitVec 256) (w : World) :
    Calls Tryz.prog 38 #[setV a] w fun e w' => e = .returned (setV (~~~a)) ∧ Below w.heap.size w w' := by
  have i0 := ix0; have i1 := ix1; have i2 := ix2; have i3 := ix3
  go_enter Tryz.func38, Tryz.ntmps38
  go_wp2
  go_rounds 5
  go_returns
  exact ⟨ret_set (bits_not_wd _ _ (by decide)) (bits_not_wd _ _ (by decide)) (bits_not_wd _ _ (by decide)) (bits_not_wd _ _ (by decide)), by go_grown⟩

theorem mask_word (n : Nat) (i : Nat) (hi : i < 4) (k : Nat) (hk : min (n - 64 * i) 64 = k) : IntKind.u64.wrap (IntKind.u64.wrap (2 ^ k) - 1) = (wd (mask n) i : Int) := by
  rw [wd_mask n i hi, hk, pow_wrap2 k (by omega)]
theorem mask_word1 (n : Nat) (i : Nat) (hi : i < 4) (hk : 64 ≤ n - 64 * i) : IntKind.u64.wrap (IntKind.u64.wrap 18446744073709551616 - 1) = (wd (mask n) i : Int) := by
  rw [wd_mask n i hi, Nat.min_eq_right hk, pow_wrap1]
theorem mask_word0 (n : Nat) (i : Nat) (hi : i < 4) (hk : n - 64 * i = 0) : (0 : Int) = (wd (mask n) i : Int) := by
  rw [wd_mask n i hi, hk]; rfl

set_option maxHeartbeats 1000000 in
/-- below: what lies below n. -/
theorem below_calls (n : Int) (w : World) (h0 : 0 ≤ n) (hn : n ≤ 9223372036854775807) :
    Calls Tryz.prog 42 #[.int .i64 n] w fun e w' => e = .returned (setV (mask n.toNat)) ∧ Below w.heap.size w w' := by
  obtain ⟨n, rfl⟩ := Int.eq_ofNat_of_zero_le h0
  rw [Int.toNat_natCast]
  go_enter Tryz.func42, Tryz.ntmps42
  go_wp2
  go_rounds 5
  all_goals go_returns
  all_goals refine ⟨ret_set ?_ ?_ ?_ ?_, by go_grown⟩
  all_goals first
    | (with_reducible refine mask_word0 _ _ (by decide) ?_; omega)
    | (with_reducible refine mask_word1 _ _ (by decide) ?_; omega)
    | (with_reducible refine mask_word _ _ (by decide) _ ?_; omega)

end Go.Proofs.YtpaecjjelpjopaaGreatDoor

/- The calls on sets of bytes: ranges, and whether a byte is in a set. -/
namespace Go.Proofs.YtpaecjjelpjopaaGreatDoor
open Go.RowKit BS

theorem next {B : Nat} {a b c : World} (h : Below B a b) (k : Below b.heap.size b c) (hB : B ≤ a.heap.size) : Below B a c :=
  h.trans (k.mono (Nat.le_trans hB h.size))
theorem upfrom {w w' : World} {o : Obj} (h : Below (w.alloc o).heap.size (w.alloc o) w') : Below w.heap.size w w' :=
  ((Below.refl _ w).alloc (Nat.le_refl _) _).trans (h.mono (by simp))

theorem box4 {w w' : World} {a b c d : Value} {t : TypeId} (h : Below (w.alloc (.cells #[a, b, c, d] t)).heap.size (w.alloc (.cells #[a, b, c, d] t)) w') :
    (w'.cell? ⟨w.heap.size, 0, none⟩ = some a ∧ w'.cell? ⟨w.heap.size, 1, none⟩ = some b ∧ w'.cell? ⟨w.heap.size, 2, none⟩ = some c ∧ w'.cell? ⟨w.heap.size, 3, none⟩ = some d) ∧
    (w'.frozen? ⟨w.heap.size, 0, none⟩ = false ∧ w'.frozen? ⟨w.heap.size, 1, none⟩ = false ∧ w'.frozen? ⟨w.heap.size, 2, none⟩ = false ∧ w'.frozen? ⟨w.heap.size, 3, none⟩ = false) := by
  obtain ⟨hc, hf⟩ := bcell h
  have hz : w.heap.size < (w.alloc (.cells #[a, b, c, d] t)).heap.size := by simp
  rw [hc _ _ hz, hc _ _ hz, hc _ _ hz, hc _ _ hz, hf _ _ hz, hf _ _ hz, hf _ _ hz, hf _ _ hz]
  refine ⟨⟨?_, ?_, ?_, ?_⟩, ?_, ?_, ?_, ?_⟩ <;> simp [go_sem]

set_option maxHeartbeats 400000 in
/-- Range. -/
theorem range_calls (lo hi : Int) (w : World) (h0 : 0 ≤ lo) (hl : lo < 256) (h1 : 0 ≤ hi) (hh : hi < 256) :
    Calls Tryz.prog 150 #[.int .u8 lo, .int .u8 hi] w fun e w' => e = .returned (setV (range lo.toNat hi.toNat)) ∧ Below w.heap.size w w' := by
  go_enter Tryz.func150, Tryz.ntmps150
  go_wp2_with fail
  refine (below_calls _ _ (by omega) (by omega)).mono ?_
  rintro e w1 ⟨rfl, hb1⟩
  go_wp2_with fail
  refine (below_calls _ _ (by omega) (by omega)).mono ?_
  rintro e w2 ⟨rfl, hb2⟩
  go_wp2_with fail
  refine (less_calls _ _ _).mono ?_
  rintro e w3 ⟨rfl, hb3⟩
  have hB := next (next hb1 hb2 (Nat.le_refl _)) hb3 (Nat.le_refl _)
  clear hb1 hb2 hb3
  obtain ⟨⟨c0, c1, c2, c3⟩, f0, f1, f2, f3⟩ := box4 hB
  have hG := upfrom hB
  clear hB
  go_wp2
  refine bodyPost_ret (v := setV (mask (hi + 1).toNat &&& ~~~mask lo.toNat)) (by simp [results, Tryz.results150, go_sem, c0, c1, c2, c3]) rfl ⟨?_, ?_⟩
  · rw [← range_eq, show (hi + 1).toNat = hi.toNat + 1 by omega]
  · go_grown

theorem has_word' (a : BitVec 256) (x : Int) (i k : Nat) (hx : x.toNat = 64 * i + k) (hk : k < 64) : (bits .and .u64 ((wd a i : Int) / 2 ^ k) 1 == 1) = a.getLsbD x.toNat := by
  rw [hx, has_word a i k hk]

set_option maxHeartbeats 400000 in
/-- Has. -/
theorem has_calls (a : BitVec 256) (x : Int) (w : World) (h0 : 0 ≤ x) (h1 : x < 256) :
    Calls Tryz.prog 60 #[setV a, .int .u8 x] w fun e w' => e = .returned (.bool (a.getLsbD x.toNat)) ∧ Below w.heap.size w w' := by
  have hx2 : 0 ≤ x % 64 := by omega
  have hx3 : x % 64 < 64 := by omega
  have h4 : x / 64 = 0 ∨ x / 64 = 1 ∨ x / 64 = 2 ∨ x / 64 = 3 := by omega
  rcases h4 with hx | hx | hx | hx
  all_goals
    go_enter Tryz.func60, Tryz.ntmps60
    go_wp2
    go_returns
    refine ⟨ret_bool (has_word' a x _ _ ?_ ?_), by go_grown⟩ <;> omega
end Go.Proofs.YtpaecjjelpjopaaGreatDoor

/- Plain arithmetic: how the words' bits are counted eight at a time. Nothing of the program is used. -/
namespace Go.Proofs.YtpaecjjelpjopaaGreatDoor
namespace BS

/-- How many of the numbers below n f says yes of. -/
def cnt (f : Nat → Bool) : Nat → Nat
  | 0 => 0
  | n + 1 => cnt f n + (f n).toNat
theorem cnt_congr {f g : Nat → Bool} : ∀ {n : Nat}, (∀ j, j < n → f j = g j) → cnt f n = cnt g n
  | 0, _ => rfl
  | n + 1, h => by rw [cnt, cnt, cnt_congr (fun j hj => h j (by omega)), h n (by omega)]
theorem cnt_add (f : Nat → Bool) (m : Nat) : ∀ n, cnt f (m + n) = cnt f m + cnt (fun j => f (m + j)) n
  | 0 => rfl
  | n + 1 => by rw [← Nat.add_assoc, cnt, cnt, cnt_add f m n, Nat.add_assoc]
theorem cnt_le (f : Nat → Bool) : ∀ n, cnt f n ≤ n
  | 0 => Nat.le_refl _
  | n + 1 => by have := cnt_le f n; have := Bool.toNat_le (f n); rw [cnt]; omega

theorem and_lane (b y c m : Nat) (hb : b < 256) (hc : c < 256) : (b + 256 * y) &&& (c + 256 * m) = (b &&& c) + 256 * (y &&& m) := by
  have hbc : b &&& c < 2 ^ 8 := Nat.and_lt_two_pow _ hc
  apply Nat.eq_of_testBit_eq; intro j
  rw [Nat.testBit_and, Nat.add_comm b, Nat.add_comm c, Nat.add_comm (b &&& c)]
  rw [show 256 = 2 ^ 8 from rfl, Nat.testBit_two_pow_mul_add _ hb, Nat.testBit_two_pow_mul_add _ hc, Nat.testBit_two_pow_mul_add _ hbc]
  by_cases h : j < 8
  · simp [h]
  · simp [h]

def rep (c : Nat) : Nat → Nat
  | 0 => 0
  | n + 1 => c + 256 * rep c n

theorem rep_succ (c n : Nat) : rep c (n + 1) = c + 256 * rep c n := rfl

def s1 (n x : Nat) : Nat := (x / 2 &&& rep 85 n) + (x &&& rep 85 n)
def s2 (n x : Nat) : Nat := (x / 4 &&& rep 51 n) + (x &&& rep 51 n)
def s3 (n x : Nat) : Nat := (x / 16 + x) &&& rep 15 n
def g1 (b : Nat) : Nat := (b / 2 &&& 85) + (b &&& 85)
def g2 (b : Nat) : Nat := (b / 4 &&& 51) + (b &&& 51)

theorem d1 : ∀ b < 256, ∀ t < 2, (b / 2 + 128 * t) &&& 85 = b / 2 &&& 85 := by decide +kernel
theorem d2 : ∀ b < 256, ∀ t < 4, (b / 4 + 64 * t) &&& 51 = b / 4 &&& 51 := by decide +kernel
theorem g1_lt : ∀ b < 256, g1 b < 256 := by decide +kernel
theorem g2_lt : ∀ b < 256, g2 (g1 b) < 256 ∧ g2 (g1 b) % 16 ≤ 4 ∧ g2 (g1 b) / 16 ≤ 4 := by decide +kernel
theorem d3 : ∀ b < 256, b % 16 ≤ 4 → b / 16 ≤ 4 → ∀ t < 5, (b / 16 + b + 16 * t) &&& 15 = b / 16 + b % 16 := by decide +kernel
theorem g3 : ∀ b < 256, g2 (g1 b) / 16 + g2 (g1 b) % 16 = cnt b.testBit 8 := by decide +kernel

theorem s1_step (n b y : Nat) (hb : b < 256) : s1 (n + 1) (b + 256 * y) = g1 b + 256 * s1 n y := by
  unfold s1 g1; rw [rep_succ]
  have e : (b + 256 * y) / 2 = (b / 2 + 128 * (y % 2)) + 256 * (y / 2) := by omega
  rw [e, and_lane _ _ _ _ (by omega) (by decide), and_lane _ _ _ _ hb (by decide), d1 b hb _ (by omega)]
  omega
theorem s2_step (n b y : Nat) (hb : b < 256) : s2 (n + 1) (b + 256 * y) = g2 b + 256 * s2 n y := by
  unfold s2 g2; rw [rep_succ]
  have e : (b + 256 * y) / 4 = (b / 4 + 64 * (y % 4)) + 256 * (y / 4) := by omega
  rw [e, and_lane _ _ _ _ (by omega) (by decide), and_lane _ _ _ _ hb (by decide), d2 b hb _ (by omega)]
  omega
theorem s3_step (n b y : Nat) (hb : b < 256) (h1 : b % 16 ≤ 4) (h2 : b / 16 ≤ 4) (hy : y % 16 ≤ 4) : s3 (n + 1) (b + 256 * y) = (b / 16 + b % 16) + 256 * s3 n y := by
  unfold s3; rw [rep_succ]
  have e : (b + 256 * y) / 16 + (b + 256 * y) = (b / 16 + b + 16 * (y % 16)) + 256 * (y / 16 + y) := by omega
  rw [e, and_lane _ _ _ _ (by omega) (by decide), d3 b hb h1 h2 _ (by omega)]

theorem low (n x : Nat) : s2 n (s1 n x) % 16 ≤ 4 := by
  cases n with
  | zero => simp [s2, rep]
  | succ n =>
    have hb : x % 256 < 256 := Nat.mod_lt _ (by decide)
    have e : x = x % 256 + 256 * (x / 256) := by omega
    rw [e, s1_step n _ _ hb, s2_step n _ _ (g1_lt _ hb)]
    have := (g2_lt _ hb).2.1
    omega

def s (n x : Nat) : Nat := s3 n (s2 n (s1 n x))
theorem s_step (n x : Nat) : s (n + 1) x = cnt (x % 256).testBit 8 + 256 * s n (x / 256) := by
  have hb : x % 256 < 256 := Nat.mod_lt _ (by decide)
  have e : s (n + 1) x = s (n + 1) (x % 256 + 256 * (x / 256)) := by congr 1; omega
  have h2 := g2_lt _ hb
  rw [e]
  unfold s
  rw [s1_step n _ _ hb, s2_step n _ _ (g1_lt _ hb), s3_step n _ _ h2.1 h2.2.1 h2.2.2 (low _ _), g3 _ hb]
theorem s_zero (x : Nat) : s 0 x = 0 := by simp [s, s3, rep]

theorem cnt_byte (x n : Nat) : cnt x.testBit (8 + n) = cnt (x % 256).testBit 8 + cnt (x / 256).testBit n := by
  rw [cnt_add]
  congr 1
  · apply cnt_congr; intro j hj
    rw [show 256 = 2 ^ 8 from rfl, Nat.testBit_mod_two_pow]; simp [hj]
  · apply cnt_congr; intro j _
    rw [show 256 = 2 ^ 8 from rfl, Nat.testBit_div_two_pow, Nat.add_comm]

/-- Eight lanes, one for each byte, with as many as there are bits. -/
theorem s_eight (x : Nat) : ∃ p0 p1 p2 p3 p4 p5 p6 p7 : Nat, p0 ≤ 8 ∧ p1 ≤ 8 ∧ p2 ≤ 8 ∧ p3 ≤ 8 ∧ p4 ≤ 8 ∧ p5 ≤ 8 ∧ p6 ≤ 8 ∧ p7 ≤ 8 ∧
    s 8 x = p0 + 256 * (p1 + 256 * (p2 + 256 * (p3 + 256 * (p4 + 256 * (p5 + 256 * (p6 + 256 * p7)))))) ∧
    cnt x.testBit 64 = p0 + p1 + p2 + p3 + p4 + p5 + p6 + p7 := by
  refine ⟨_, _, _, _, _, _, _, _, cnt_le (x % 256).testBit 8, cnt_le (x / 256 % 256).testBit 8, cnt_le (x / 256 / 256 % 256).testBit 8, cnt_le (x / 256 / 256 / 256 % 256).testBit 8,
    cnt_le (x / 256 / 256 / 256 / 256 % 256).testBit 8, cnt_le (x / 256 / 256 / 256 / 256 / 256 % 256).testBit 8, cnt_le (x / 256 / 256 / 256 / 256 / 256 / 256 % 256).testBit 8, cnt_le (x / 256 / 256 / 256 / 256 / 256 / 256 / 256 % 256).testBit 8, ?_, ?_⟩
  · simp only [s_step, s_zero, Nat.mul_zero, Nat.add_zero]
  · rw [show 64 = 8 + (8 + (8 + (8 + (8 + (8 + (8 + (8 + 0))))))) from rfl]
    simp only [cnt_byte]
    simp only [cnt, Nat.add_zero, Nat.add_assoc]

theorem div_of {a q B x : Nat} (h : x = a + B * q) (ha : a < B) : x / B = q := by
  rw [h, Nat.add_mul_div_left _ _ (by omega), Nat.div_eq_of_lt ha, Nat.zero_add]

/-- What the last additions make of the eight lanes. -/
theorem lanes (p0 p1 p2 p3 p4 p5 p6 p7 x3 x4 x5 x6 : Nat) (h0 : p0 ≤ 8) (h1 : p1 ≤ 8) (h2 : p2 ≤ 8) (h3 : p3 ≤ 8) (h4 : p4 ≤ 8) (h5 : p5 ≤ 8) (h6 : p6 ≤ 8) (h7 : p7 ≤ 8)
    (e3 : x3 = p0 + 256 * (p1 + 256 * (p2 + 256 * (p3 + 256 * (p4 + 256 * (p5 + 256 * (p6 + 256 * p7)))))))
    (e4 : x4 = x3 + x3 / 256) (e5 : x5 = x4 + x4 / 65536) (e6 : x6 = x5 + x5 / 4294967296) :
    x6 % 128 = p0 + p1 + p2 + p3 + p4 + p5 + p6 + p7 ∧ x4 < 4611686018427387904 ∧ x5 < 4611686018427387904 ∧ x6 < 4611686018427387904 := by
  have a4 : x3 / 256 = p1 + 256 * (p2 + 256 * (p3 + 256 * (p4 + 256 * (p5 + 256 * (p6 + 256 * p7))))) := div_of (a := p0) e3 (by omega)
  have b4 : x4 = ((p0 + p1) + 256 * (p1 + p2)) + 65536 * ((p2 + p3) + 256 * ((p3 + p4) + 256 * ((p4 + p5) + 256 * ((p5 + p6) + 256 * ((p6 + p7) + 256 * p7))))) := by rw [e4, a4, e3]; clear a4 e3 e4 e5 e6; omega
  have a5 : x4 / 65536 = (p2 + p3) + 256 * ((p3 + p4) + 256 * ((p4 + p5) + 256 * ((p5 + p6) + 256 * ((p6 + p7) + 256 * p7)))) := div_of b4 (by omega)
  have b5 : x5 = ((p0 + p1 + p2 + p3) + 256 * ((p1 + p2 + p3 + p4) + 256 * ((p2 + p3 + p4 + p5) + 256 * (p3 + p4 + p5 + p6)))) + 4294967296 * ((p4 + p5 + p6 + p7) + 256 * ((p5 + p6 + p7) + 256 * ((p6 + p7) + 256 * p7))) := by rw [e5, a5, b4]; clear a4 b4 a5 e3 e4 e5 e6; omega
  have a6 : x5 / 4294967296 = (p4 + p5 + p6 + p7) + 256 * ((p5 + p6 + p7) + 256 * ((p6 + p7) + 256 * p7)) := div_of b5 (by omega)
  have b6 : x6 = (p0 + p1 + p2 + p3 + p4 + p5 + p6 + p7) + 128 * (2 * ((p1 + p2 + p3 + p4 + (p5 + p6 + p7)) + 256 * ((p2 + p3 + p4 + p5 + (p6 + p7)) + 256 * ((p3 + p4 + p5 + p6 + p7) + 256 * ((p4 + p5 + p6 + p7) + 256 * ((p5 + p6 + p7) + 256 * ((p6 + p7) + 256 * p7))))))) := by rw [e6, a6, b5]; clear a4 b4 a5 b5 a6 e3 e4 e5 e6; omega
  clear a4 a5 a6 e3 e4 e5 e6
  refine ⟨?_, ?_, ?_, ?_⟩
  · rw [b6, Nat.add_mul_mod_self_left]; exact Nat.mod_eq_of_lt (by clear b4 b5 b6; omega)
  · clear b5 b6; omega
  · clear b4 b6; omega
  · clear b4 b5; omega

theorem rep85 : rep 85 8 = 6148914691236517205 := by decide
theorem rep51 : rep 51 8 = 3689348814741910323 := by decide
theorem rep15 : rep 15 8 = 1085102592571150095 := by decide
theorem s1_lt (x : Nat) : s1 8 x < 18446744073709551616 := by
  unfold s1; rw [rep85]
  have h1 : x / 2 &&& 6148914691236517205 ≤ 6148914691236517205 := Nat.and_le_right
  have h2 : x &&& 6148914691236517205 ≤ 6148914691236517205 := Nat.and_le_right
  omega
theorem s2_lt (x : Nat) : s2 8 x < 18446744073709551616 := by
  unfold s2; rw [rep51]
  have h1 : x / 4 &&& 3689348814741910323 ≤ 3689348814741910323 := Nat.and_le_right
  have h2 : x &&& 3689348814741910323 ≤ 3689348814741910323 := Nat.and_le_right
  omega
theorem s2_small (x : Nat) : s2 8 x / 16 + s2 8 x < 18446744073709551616 := by
  unfold s2; rw [rep51]
  have h1 : x / 4 &&& 3689348814741910323 ≤ 3689348814741910323 := Nat.and_le_right
  have h2 : x &&& 3689348814741910323 ≤ 3689348814741910323 := Nat.and_le_right
  omega
end BS
end Go.Proofs.YtpaecjjelpjopaaGreatDoor

/- math/bits.OnesCount64: how many bits a word has. -/
namespace Go.Proofs.YtpaecjjelpjopaaGreatDoor
open Go.RowKit BS

set_option maxHeartbeats 400000 in
theorem ones_core (x x1 x2 x3 x4 x5 x6 : Nat) (r : Int) (w : World)
    (e1 : IntKind.u64.wrap (bits .and .u64 ((x : Int) / 2) 6148914691236517205 + bits .and .u64 (x : Int) 6148914691236517205) = (x1 : Int))
    (e2 : IntKind.u64.wrap (bits .and .u64 ((x1 : Int) / 4) 3689348814741910323 + bits .and .u64 (x1 : Int) 3689348814741910323) = (x2 : Int))
    (e3 : bits .and .u64 (IntKind.u64.wrap ((x2 : Int) / 16 + (x2 : Int))) 1085102592571150095 = (x3 : Int))
    (e4 : IntKind.u64.wrap ((x3 : Int) + (x3 : Int) / 256) = (x4 : Int))
    (e5 : IntKind.u64.wrap ((x4 : Int) + (x4 : Int) / 65536) = (x5 : Int))
    (e6 : IntKind.u64.wrap ((x5 : Int) + (x5 : Int) / 4294967296) = (x6 : Int))
    (e7 : bits .and .i64 (wrap64 (x6 : Int)) 127 = r) :
    Calls Tryz.prog 39 #[.int .u64 x] w fun e w' => e = .returned (.int .i64 r) ∧ Below w.heap.size w w' := by
  go_enter Tryz.func39, Tryz.ntmps39
  go_wp2
  go_returns
  exact ⟨rfl, by clear e1 e2 e3 e4 e5 e6 e7; go_grown⟩

theorem bits_and_i64_127 (x : Nat) (hx : x < 4611686018427387904) : bits .and .i64 (wrap64 (x : Int)) 127 = ((x % 128 : Nat) : Int) := by
  have h0 : wrap64 (x : Int) = (x : Int) := by unfold wrap64; omega
  rw [h0]
  have h1 : (BitVec.ofInt 64 (x : Int)).toNat = x := ofInt_toNat x (by omega)
  have h2 : (BitVec.ofInt 64 (127 : Int)).toNat = 127 := by decide
  show IntKind.i64.wrap ((BitVec.ofInt 64 (x : Int) &&& BitVec.ofInt 64 (127 : Int)).toNat : Int) = _
  rw [BitVec.toNat_and, h1, h2, show (127 : Nat) = 2 ^ 7 - 1 from rfl, Nat.and_two_pow_sub_one_eq_mod, IntKind.wrap_i64]
  omega

/-- OnesCount64. -/
theorem ones_calls (x : Nat) (w : World) (hx : x < 18446744073709551616) :
    Calls Tryz.prog 39 #[.int .u64 x] w fun e w' => e = .returned (.int .i64 (cnt x.testBit 64)) ∧ Below w.heap.size w w' := by
  obtain ⟨p0, p1, p2, p3, p4, p5, p6, p7, l0, l1, l2, l3, l4, l5, l6, l7, hs, hc⟩ := s_eight x
  obtain ⟨x3, h3⟩ : ∃ x3, x3 = s 8 x := ⟨_, rfl⟩
  obtain ⟨x4, h4⟩ : ∃ x4, x4 = x3 + x3 / 256 := ⟨_, rfl⟩
  obtain ⟨x5, h5⟩ : ∃ x5, x5 = x4 + x4 / 65536 := ⟨_, rfl⟩
  obtain ⟨x6, h6⟩ : ∃ x6, x6 = x5 + x5 / 4294967296 := ⟨_, rfl⟩
  obtain ⟨hr, b4, b5, b6⟩ := lanes p0 p1 p2 p3 p4 p5 p6 p7 x3 x4 x5 x6 l0 l1 l2 l3 l4 l5 l6 l7 (h3.trans hs) h4 h5 h6
  rw [hc, ← hr]
  have e1 := s1_lt x
  have e2 := s2_lt (s1 8 x)
  have e3 := s2_small (s1 8 x)
  clear hs hr hc
  refine ones_core x (s1 8 x) (s2 8 (s1 8 x)) x3 x4 x5 x6 _ w ?_ ?_ ?_ ?_ ?_ ?_ (bits_and_i64_127 _ b6)
  · have h1 : ((x : Int) / 2) = ((x / 2 : Nat) : Int) := by simp
    rw [h1, show (6148914691236517205 : Int) = ((rep 85 8 : Nat) : Int) from by rw [rep85]; rfl, bits_and_nat _ _ (by omega) (by rw [rep85]; decide), bits_and_nat _ _ hx (by rw [rep85]; decide), ← Int.natCast_add]
    exact wrap_u64_nat _ e1
  · have h1 : ((s1 8 x : Nat) : Int) / 4 = ((s1 8 x / 4 : Nat) : Int) := by simp
    rw [h1, show (3689348814741910323 : Int) = ((rep 51 8 : Nat) : Int) from by rw [rep51]; rfl, bits_and_nat _ _ (by omega) (by rw [rep51]; decide), bits_and_nat _ _ e1 (by rw [rep51]; decide), ← Int.natCast_add]
    exact wrap_u64_nat _ e2
  · rw [h3]; show _ = ((s3 8 (s2 8 (s1 8 x)) : Nat) : Int)
    generalize s2 8 (s1 8 x) = y at *
    have h1 : ((y : Nat) : Int) / 16 + (y : Int) = ((y / 16 + y : Nat) : Int) := by simp
    rw [h1, wrap_u64_nat _ e3, show (1085102592571150095 : Int) = ((rep 15 8 : Nat) : Int) from by rw [rep15]; rfl, bits_and_nat _ _ e3 (by rw [rep15]; decide)]
    rfl
  · rw [h4] at b4 ⊢
    have h1 : (x3 : Int) + (x3 : Int) / 256 = ((x3 + x3 / 256 : Nat) : Int) := by simp
    rw [h1]; exact wrap_u64_nat _ (by omega)
  · rw [h5] at b5 ⊢
    have h1 : (x4 : Int) + (x4 : Int) / 65536 = ((x4 + x4 / 65536 : Nat) : Int) := by simp
    rw [h1]; exact wrap_u64_nat _ (by omega)
  · rw [h6] at b6 ⊢
    have h1 : (x5 : Int) + (x5 : Int) / 4294967296 = ((x5 + x5 / 4294967296 : Nat) : Int) := by simp
    rw [h1]; exact wrap_u64_nat _ (by omega)
end Go.Proofs.YtpaecjjelpjopaaGreatDoor

/- math/bits.TrailingZeros64 over the library's table, as its initialiser lays it. -/
namespace Go.Proofs.YtpaecjjelpjopaaGreatDoor
open Go.RowKit BS

/-- The library's table lies as it is laid. -/
def Tab (w : World) : Prop := ∀ j, j < 64 → w.cell? ⟨0, j, none⟩ = some (.int .u8 (Lib.deBruijn64tab.getD j 0))

theorem Tab.keep {B : Nat} {w w' : World} (h : Tab w) (hb : Below B w w') (hB : 0 < B) : Tab w' :=
  fun j hj => (hb.cell (p := ⟨0, j, none⟩) hB).trans (h j hj)

set_option maxHeartbeats 400000 in
theorem tz_core (x k idx : Nat) (w : World) (hx0 : ((x : Int) == 0) = false)
    (key : IntKind.u64.wrap (bits .and .u64 (x : Int) (IntKind.u64.wrap (-(x : Int))) * 285870213051353865) / 288230376151711744 = (idx : Int))
    (hi : idx < 64) (hk : k < 64) (hcell : w.cell? ⟨0, idx, none⟩ = some (.int .u8 k)) :
    Calls Tryz.prog 43 #[.int .u64 x] w fun e w' => e = .returned (.int .i64 k) ∧ w = w' := by
  go_enter Tryz.func43, Tryz.ntmps43
  go_wp2
  go_ret
  exact ⟨rfl, rfl⟩

/-- TrailingZeros64 of a word that is not 0. -/
theorem tz_calls (x : Nat) (w : World) (hx : x < 18446744073709551616) (h0 : x ≠ 0) (hT : Tab w) :
    Calls Tryz.prog 43 #[.int .u64 x] w fun e w' => e = .returned (.int .i64 (Lib.ctz 64 x)) ∧ w = w' := by
  obtain ⟨hlow, hk⟩ := Lib.lowest_bit 64 x h0 hx
  obtain ⟨hi, htab⟩ := Lib.deBruijn64_at _ hk
  have hcell := hT _ hi
  rw [htab] at hcell
  refine tz_core x _ _ w (by simp; omega) ?_ hi hk hcell
  have e1 : IntKind.u64.wrap (-(x : Int)) = ((18446744073709551616 - x : Nat) : Int) := by rw [IntKind.wrap_u64]; omega
  rw [e1, bits_and_nat x _ hx (by omega), show x &&& 18446744073709551616 - x = 2 ^ Lib.ctz 64 x from hlow, IntKind.wrap_u64]
  generalize 2 ^ Lib.ctz 64 x = a
  omega
end Go.Proofs.YtpaecjjelpjopaaGreatDoor

/- Count and Next. -/
namespace Go.Proofs.YtpaecjjelpjopaaGreatDoor
open Go.RowKit BS

def cw (s : BitVec 256) (i : Nat) : Nat := cnt (wd s i).testBit 64
theorem cw_le (s : BitVec 256) (i : Nat) : cw s i ≤ 64 := cnt_le _ _
theorem ones_wd (s : BitVec 256) (i : Nat) (w : World) :
    Calls Tryz.prog 39 #[.int .u64 (wd s i)] w fun e w' => e = .returned (.int .i64 (cw s i)) ∧ Below w.heap.size w w' := ones_calls _ w (wd_lt' s i)
theorem cnt4 (f : Nat → Bool) : cnt f 256 = cnt f 64 + cnt (fun j => f (64 + j)) 64 + cnt (fun j => f (128 + j)) 64 + cnt (fun j => f (192 + j)) 64 := by
  have e := cnt_add f 64 (64 + (64 + 64))
  rw [cnt_add (fun j => f (64 + j)), cnt_add (fun j => f (64 + (64 + j)))] at e
  have e2 : cnt f 256 = cnt f (64 + (64 + (64 + 64))) := rfl
  rw [e2, e, ← Nat.add_assoc, ← Nat.add_assoc]
  have h1 : cnt (fun j => f (64 + (64 + j))) 64 = cnt (fun j => f (128 + j)) 64 := cnt_congr fun j _ => congrArg f (by omega)
  have h2 : cnt (fun j => f (64 + (64 + (64 + j)))) 64 = cnt (fun j => f (192 + j)) 64 := cnt_congr fun j _ => congrArg f (by omega)
  rw [h1, h2]
theorem cw_sum (s : BitVec 256) : cnt s.getLsbD 256 = cw s 0 + cw s 1 + cw s 2 + cw s 3 := by
  have h : ∀ i k, k = 64 * i → cw s i = cnt (fun j => s.getLsbD (k + j)) 64 := by
    intro i k hk
    subst hk
    apply cnt_congr; intro j hj
    rw [testBit_wd]; simp [hj]
  rw [cnt4, h 0 0 rfl, h 1 64 rfl, h 2 128 rfl, h 3 192 rfl]
  simp only [Nat.zero_add]

set_option maxHeartbeats 400000 in
/-- Count. -/
theorem count_calls (s : BitVec 256) (w : World) :
    Calls Tryz.prog 25 #[setV s] w fun e w' => e = .returned (.int .i64 (cnt s.getLsbD 256)) ∧ Below w.heap.size w w' := by
  have i0 := ix0; have i1 := ix1; have i2 := ix2; have i3 := ix3
  have b0 := cw_le s 0; have b1 := cw_le s 1; have b2 := cw_le s 2; have b3 := cw_le s 3
  go_enter Tryz.func25, Tryz.ntmps25
  go_wp2
  refine wp_loop_rounds 5 ?_
  rw [rounds_succ]
  go_wp2_with fail
  refine (ones_wd _ _ _).mono ?_
  rintro e w1 ⟨rfl, hb1⟩
  go_wp2_with fail
  rw [rounds_succ]
  go_wp2_with fail
  refine (ones_wd _ _ _).mono ?_
  rintro e w2 ⟨rfl, hb2⟩
  go_wp2_with fail
  rw [rounds_succ]
  go_wp2_with fail
  refine (ones_wd _ _ _).mono ?_
  rintro e w3 ⟨rfl, hb3⟩
  go_wp2_with fail
  rw [rounds_succ]
  go_wp2_with fail
  refine (ones_wd _ _ _).mono ?_
  rintro e w4 ⟨rfl, hb4⟩
  go_wp2_with fail
  rw [rounds_succ]
  go_wp2
  go_ret
  rw [cw_sum]
  refine ⟨ret_int (by simp only [Int.natCast_add]), ?_⟩
  exact next (next (next (upfrom hb1) hb2 (Nat.le_refl _)) hb3 (Nat.le_refl _)) hb4 (Nat.le_refl _)

theorem ctz_wd (s : BitVec 256) (i : Nat) (h : wd s i ≠ 0) : Lib.ctz 64 (wd s i) < 64 ∧ s.getLsbD (64 * i + Lib.ctz 64 (wd s i)) = true ∧ ∀ j, j < Lib.ctz 64 (wd s i) → s.getLsbD (64 * i + j) = false := by
  obtain ⟨m, hm, hk⟩ := Lib.ctzFrom_spec 64 (wd s i) (by omega) (wd_lt s i)
  have e : Lib.ctz 64 (wd s i) = Lib.ctzFrom 64 (wd s i) := by simp [Lib.ctz, h]
  rw [e]
  generalize Lib.ctzFrom 64 (wd s i) = k at *
  have ht : ∀ j, (wd s i).testBit j = (decide (j ≥ k) && (2 * m + 1).testBit (j - k)) := by
    intro j; rw [hm, Nat.mul_comm, Nat.testBit_mul_two_pow]
  refine ⟨hk, ?_, ?_⟩
  · have := ht k
    rw [testBit_wd] at this
    simpa [hk] using this
  · intro j hj
    have := ht j
    rw [testBit_wd] at this
    have h1 : j < 64 := by omega
    have h2 : ¬ j ≥ k := by omega
    simpa [h1, h2] using this

/-- The least number of a set that is not below n; -1: there is none. -/
def nextOf (f : Nat → Bool) (n : Nat) : Int := match (List.range 256).find? (fun j => decide (n ≤ j) && f j) with | some j => j | none => -1
theorem nextOf_eq {f : Nat → Bool} {n k : Nat} (h1 : k < 256) (h2 : n ≤ k) (h3 : f k = true) (h4 : ∀ j, n ≤ j → j < k → f j = false) : nextOf f n = k := by
  have : (List.range 256).find? (fun j => decide (n ≤ j) && f j) = some k := by
    rw [List.find?_range_eq_some]
    refine ⟨by simp [h2, h3], by simpa using h1, ?_⟩
    intro j hj
    by_cases hn : n ≤ j
    · simp [h4 j hn hj]
    · simp [hn]
  rw [nextOf, this]
theorem nextOf_none {f : Nat → Bool} {n : Nat} (h : ∀ j, n ≤ j → j < 256 → f j = false) : nextOf f n = -1 := by
  have : (List.range 256).find? (fun j => decide (n ≤ j) && f j) = none := by
    rw [List.find?_eq_none]
    intro j hj
    have hj' : j < 256 := by simpa using hj
    by_cases hn : n ≤ j
    · simp [h j hn hj']
    · simp [hn]
  rw [nextOf, this]

theorem wd_zero {s : BitVec 256} {i : Nat} (h : wd s i = 0) (j : Nat) (hj : j < 64) : s.getLsbD (64 * i + j) = false := by
  have := testBit_wd s i j
  rw [h] at this
  simpa [hj] using this.symm

/-- Which word tells. -/
theorem next_word (s : BitVec 256) (n i : Nat) (hi : i < 4) (h : wd (s &&& ~~~(mask n)) i ≠ 0) (hz : ∀ i', i' < i → wd (s &&& ~~~(mask n)) i' = 0) :
    (i : Int) * 64 + (Lib.ctz 64 (wd (s &&& ~~~(mask n)) i) : Int) = nextOf s.getLsbD n := by
  obtain ⟨hk, h1, h2⟩ := ctz_wd _ i h
  generalize Lib.ctz 64 (wd (s &&& ~~~(mask n)) i) = k at *
  have hb : ∀ j, j < 256 → (s &&& ~~~(mask n)).getLsbD j = (s.getLsbD j && decide (n ≤ j)) := by
    intro j hj
    rw [BitVec.getLsbD_and, BitVec.getLsbD_not, mask, get_ofFn]
    simp only [hj, decide_true, Bool.true_and]
    rw [← decide_not]; congr 1; rw [decide_eq_decide]; omega
  have h3 := hb (64 * i + k) (by omega)
  rw [h1] at h3
  simp only [Bool.true_eq, Bool.and_eq_true, decide_eq_true_eq] at h3
  rw [nextOf_eq (k := 64 * i + k) (by omega) h3.2 h3.1 ?_]
  · omega
  · intro j hn hj
    have h4 := hb j (by omega)
    simp only [hn, decide_true, Bool.and_true] at h4
    rw [← h4]
    by_cases hji : j / 64 = i
    · have e : j = 64 * i + j % 64 := by omega
      rw [e]; exact h2 _ (by omega)
    · have e : j = 64 * (j / 64) + j % 64 := by omega
      rw [e]; exact wd_zero (hz _ (by omega)) _ (by omega)
theorem next_no (s : BitVec 256) (n : Nat) (hz : ∀ i', i' < 4 → wd (s &&& ~~~(mask n)) i' = 0) : nextOf s.getLsbD n = -1 := by
  apply nextOf_none
  intro j hn hj
  have e : j = 64 * (j / 64) + j % 64 := by omega
  have h0 := wd_zero (hz (j / 64) (by omega)) (j % 64) (by omega)
  rw [← e, BitVec.getLsbD_and, BitVec.getLsbD_not, mask, get_ofFn] at h0
  simpa [hj, show ¬ j < n by omega] using h0

end Go.Proofs.YtpaecjjelpjopaaGreatDoor

/- Next. -/
namespace Go.Proofs.YtpaecjjelpjopaaGreatDoor
open Go.RowKit BS

theorem box4' {w w' : World} {a b c d : Value} {t : TypeId} (h : Below (w.heap.size + 1) (w.alloc (.cells #[a, b, c, d] t)) w') :
    (w'.cell? ⟨w.heap.size, 0, none⟩ = some a ∧ w'.cell? ⟨w.heap.size, 1, none⟩ = some b ∧ w'.cell? ⟨w.heap.size, 2, none⟩ = some c ∧ w'.cell? ⟨w.heap.size, 3, none⟩ = some d) ∧
    (w'.frozen? ⟨w.heap.size, 0, none⟩ = false ∧ w'.frozen? ⟨w.heap.size, 1, none⟩ = false ∧ w'.frozen? ⟨w.heap.size, 2, none⟩ = false ∧ w'.frozen? ⟨w.heap.size, 3, none⟩ = false) :=
  box4 (by rw [World.size_alloc]; exact h)
theorem next' {w : World} {o : Obj} {b c : World} (h : Below (w.heap.size + 1) (w.alloc o) b) (k : Below b.heap.size b c) : Below (w.heap.size + 1) (w.alloc o) c := next h k (by simp)

/-- The set's box, in block w.heap.size, holds s. -/
def Box (w : World) (s : BitVec 256) (w' : World) : Prop :=
  ((w'.cell? ⟨w.heap.size, 0, none⟩ = some (.int .u64 (wd s 0)) ∧ w'.cell? ⟨w.heap.size, 1, none⟩ = some (.int .u64 (wd s 1)) ∧ w'.cell? ⟨w.heap.size, 2, none⟩ = some (.int .u64 (wd s 2)) ∧ w'.cell? ⟨w.heap.size, 3, none⟩ = some (.int .u64 (wd s 3)))) ∧ Below w.heap.size w w' ∧ w.heap.size < w'.heap.size

theorem Box.stored {w w2 : World} {a b c d : Value} {t : TypeId} (h : Below (w.heap.size + 1) (w.alloc (.cells #[a, b, c, d] t)) w2) (s : BitVec 256) :
    Box w s ((((w2.setCell ⟨w.heap.size, 0, none⟩ (.int .u64 (wd s 0))).setCell ⟨w.heap.size, 1, none⟩ (.int .u64 (wd s 1))).setCell ⟨w.heap.size, 2, none⟩ (.int .u64 (wd s 2))).setCell ⟨w.heap.size, 3, none⟩ (.int .u64 (wd s 3))) := by
  obtain ⟨⟨c0, c1, c2, c3⟩, f0, f1, f2, f3⟩ := box4' h
  have hz := h.size
  rw [World.size_alloc] at hz
  have hG : Below w.heap.size w w2 := upfrom (h.mono (by simp))
  refine ⟨⟨?_, ?_, ?_, ?_⟩, by go_grown, by simp only [World.size_setCell]; omega⟩ <;> simp [go_sem, c0, c1, c2, c3]

theorem all1 {P : Nat → Prop} (h0 : P 0) : ∀ j, j < 1 → P j := fun j hj => by
  have : j = 0 := by omega
  subst this; exact h0
theorem all2 {P : Nat → Prop} (h0 : P 0) (h1 : P 1) : ∀ j, j < 2 → P j := fun j hj => by
  by_cases h : j = 1
  · subst h; exact h1
  · exact all1 h0 j (by omega)
theorem all3 {P : Nat → Prop} (h0 : P 0) (h1 : P 1) (h2 : P 2) : ∀ j, j < 3 → P j := fun j hj => by
  by_cases h : j = 2
  · subst h; exact h2
  · exact all2 h0 h1 j (by omega)
theorem all4 {P : Nat → Prop} (h0 : P 0) (h1 : P 1) (h2 : P 2) (h3 : P 3) : ∀ j, j < 4 → P j := fun j hj => by
  by_cases h : j = 3
  · subst h; exact h3
  · exact all3 h0 h1 h2 j (by omega)

set_option maxHeartbeats 1000000 in
/-- Next, from a number that is not below 0. -/
theorem next_nonneg (s : BitVec 256) (n : Int) (w : World) (h1 : 0 ≤ n) (h2 : n ≤ 9223372036854775807) (hT : Tab w) (hw : 0 < w.heap.size) :
    Calls Tryz.prog 27 #[setV s, .int .i64 n] w fun e w' => e = .returned (.int .i64 (nextOf s.getLsbD n.toNat)) ∧ Below w.heap.size w w' := by
  have i0 := ix0; have i1 := ix1; have i2 := ix2; have i3 := ix3
  go_enter Tryz.func27, Tryz.ntmps27
  go_wp2_with fail
  go_cut [] (fun wx => Box w (s &&& ~~~mask n.toNat) wx)
  case first =>
    go_region_with (first
      | (go_at_call 42; refine (below_calls _ _ (by omega) (by omega)).mono ?_; rintro e w1 ⟨rfl, hb1⟩; have hB1 := next' ((Below.refl _ _).drew) hb1; obtain ⟨⟨c0, c1, c2, c3⟩, f0, f1, f2, f3⟩ := box4' hB1; clear hb1)
      | (go_at_call 41; refine (less_calls _ _ _).mono ?_; rintro e w2 ⟨rfl, hb2⟩; have hB2 := next' hB1 hb2; clear c0 c1 c2 c3 f0 f1 f2 f3; obtain ⟨⟨c0, c1, c2, c3⟩, f0, f1, f2, f3⟩ := box4' hB2; clear hb2))
    all_goals (go_wp2_with fail; go_meet)
    all_goals exact Box.stored hB2 _
  case rest =>
    obtain ⟨⟨c0, c1, c2, c3⟩, hb, hz⟩ := hcut
    have HT := Lib.hid (hT.keep hb hw)
    have HK := Lib.hid (next_word s n.toNat)
    have HN := Lib.hid (next_no s n.toNat)
    clear hT
    generalize s &&& ~~~mask n.toNat = t at *
    by_cases h0 : wd t 0 = 0
    · have n0 : ((wd t 0 : Int) != 0) = false := by rw [h0]; rfl
      by_cases h1 : wd t 1 = 0
      · have n1 : ((wd t 1 : Int) != 0) = false := by rw [h1]; rfl
        by_cases h2 : wd t 2 = 0
        · have n2 : ((wd t 2 : Int) != 0) = false := by rw [h2]; rfl
          by_cases h3 : wd t 3 = 0
          · have n3 : ((wd t 3 : Int) != 0) = false := by rw [h3]; rfl
            have HF := Lib.hid (HN.out (all4 (P := fun j => wd t j = 0) h0 h1 h2 h3))
            clear HN HK h0 h1 h2 h3
            go_wp2_with fail
            refine wp_loop_rounds 5 ?_
            rw [rounds_succ]
            go_wp2_with fail
            rw [rounds_succ]
            go_wp2_with fail
            rw [rounds_succ]
            go_wp2_with fail
            rw [rounds_succ]
            go_wp2_with fail
            rw [rounds_succ]
            go_wp2_with fail
            go_ret
            refine ⟨ret_int ?_, hb⟩
            rw [HF.out]
          · have n3 : ((wd t 3 : Int) != 0) = true := by simpa using h3
            have hk : (Lib.ctz 64 (wd t 3) : Int) ≤ 63 := by have := (ctz_wd t 3 h3).1; omega
            have HF := Lib.hid (HK.out 3 (by decide) h3 (all3 (P := fun j => wd t j = 0) h0 h1 h2))
            clear HN HK
            have H := Lib.hid h3
            clear h0 h1 h2 h3
            go_wp2_with fail
            refine wp_loop_rounds 5 ?_
            rw [rounds_succ]
            go_wp2_with fail
            rw [rounds_succ]
            go_wp2_with fail
            rw [rounds_succ]
            go_wp2_with fail
            rw [rounds_succ]
            go_wp2_with fail
            refine (tz_calls _ _ (wd_lt' _ _) H.out HT.out).mono ?_
            rintro e w4 ⟨rfl, rfl⟩
            go_wp2
            go_ret
            refine ⟨ret_int ?_, hb⟩
            rw [← HF.out]; omega
        · have n2 : ((wd t 2 : Int) != 0) = true := by simpa using h2
          have hk : (Lib.ctz 64 (wd t 2) : Int) ≤ 63 := by have := (ctz_wd t 2 h2).1; omega
          have HF := Lib.hid (HK.out 2 (by decide) h2 (all2 (P := fun j => wd t j = 0) h0 h1))
          clear HN HK
          have H := Lib.hid h2
          clear h0 h1 h2
          go_wp2_with fail
          refine wp_loop_rounds 5 ?_
          rw [rounds_succ]
          go_wp2_with fail
          rw [rounds_succ]
          go_wp2_with fail
          rw [rounds_succ]
          go_wp2_with fail
          refine (tz_calls _ _ (wd_lt' _ _) H.out HT.out).mono ?_
          rintro e w4 ⟨rfl, rfl⟩
          go_wp2
          go_ret
          refine ⟨ret_int ?_, hb⟩
          rw [← HF.out]; omega
      · have n1 : ((wd t 1 : Int) != 0) = true := by simpa using h1
        have hk : (Lib.ctz 64 (wd t 1) : Int) ≤ 63 := by have := (ctz_wd t 1 h1).1; omega
        have HF := Lib.hid (HK.out 1 (by decide) h1 (all1 (P := fun j => wd t j = 0) h0))
        clear HN HK
        have H := Lib.hid h1
        clear h0 h1
        go_wp2_with fail
        refine wp_loop_rounds 5 ?_
        rw [rounds_succ]
        go_wp2_with fail
        rw [rounds_succ]
        go_wp2_with fail
        refine (tz_calls _ _ (wd_lt' _ _) H.out HT.out).mono ?_
        rintro e w4 ⟨rfl, rfl⟩
        go_wp2
        go_ret
        refine ⟨ret_int ?_, hb⟩
        rw [← HF.out]; omega
    · have n0 : ((wd t 0 : Int) != 0) = true := by simpa using h0
      have hk : (Lib.ctz 64 (wd t 0) : Int) ≤ 63 := by have := (ctz_wd t 0 h0).1; omega
      have HF := Lib.hid (HK.out 0 (by decide) h0 (fun j hj => by omega))
      clear HN HK
      have H := Lib.hid h0
      clear h0
      go_wp2_with fail
      refine wp_loop_rounds 5 ?_
      rw [rounds_succ]
      go_wp2_with fail
      refine (tz_calls _ _ (wd_lt' _ _) H.out HT.out).mono ?_
      rintro e w4 ⟨rfl, rfl⟩
      go_wp2
      go_ret
      refine ⟨ret_int ?_, hb⟩
      rw [← HF.out]; omega

set_option maxHeartbeats 1000000 in
/-- Next, from a number below 0. -/
theorem next_neg (s : BitVec 256) (n : Int) (w : World) (h1 : n < 0) (hT : Tab w) (hw : 0 < w.heap.size) :
    Calls Tryz.prog 27 #[setV s, .int .i64 n] w fun e w' => e = .returned (.int .i64 (nextOf s.getLsbD 0)) ∧ Below w.heap.size w w' := by
  have i0 := ix0; have i1 := ix1; have i2 := ix2; have i3 := ix3
  go_enter Tryz.func27, Tryz.ntmps27
  go_wp2_with fail
  go_cut [] (fun wx => Box w (s &&& ~~~mask 0) wx)
  case first =>
    go_region_with (first
      | (go_at_call 42; refine (below_calls _ _ (by omega) (by omega)).mono ?_; rintro e w1 ⟨rfl, hb1⟩; have hB1 := next' ((Below.refl _ _).drew) hb1; obtain ⟨⟨c0, c1, c2, c3⟩, f0, f1, f2, f3⟩ := box4' hB1; clear hb1)
      | (go_at_call 41; refine (less_calls _ _ _).mono ?_; rintro e w2 ⟨rfl, hb2⟩; have hB2 := next' hB1 hb2; clear c0 c1 c2 c3 f0 f1 f2 f3; obtain ⟨⟨c0, c1, c2, c3⟩, f0, f1, f2, f3⟩ := box4' hB2; clear hb2))
    all_goals (go_wp2_with fail; go_meet)
    all_goals exact Box.stored hB2 _
  case rest =>
    obtain ⟨⟨c0, c1, c2, c3⟩, hb, hz⟩ := hcut
    have HT := Lib.hid (hT.keep hb hw)
    have HK := Lib.hid (next_word s 0)
    have HN := Lib.hid (next_no s 0)
    clear hT
    generalize s &&& ~~~mask 0 = t at *
    by_cases h0 : wd t 0 = 0
    · have n0 : ((wd t 0 : Int) != 0) = false := by rw [h0]; rfl
      by_cases h1 : wd t 1 = 0
      · have n1 : ((wd t 1 : Int) != 0) = false := by rw [h1]; rfl
        by_cases h2 : wd t 2 = 0
        · have n2 : ((wd t 2 : Int) != 0) = false := by rw [h2]; rfl
          by_cases h3 : wd t 3 = 0
          · have n3 : ((wd t 3 : Int) != 0) = false := by rw [h3]; rfl
            have HF := Lib.hid (HN.out (all4 (P := fun j => wd t j = 0) h0 h1 h2 h3))
            clear HN HK h0 h1 h2 h3
            go_wp2_with fail
            refine wp_loop_rounds 5 ?_
            rw [rounds_succ]
            go_wp2_with fail
            rw [rounds_succ]
            go_wp2_with fail
            rw [rounds_succ]
            go_wp2_with fail
            rw [rounds_succ]
            go_wp2_with fail
            rw [rounds_succ]
            go_wp2_with fail
            go_ret
            refine ⟨ret_int ?_, hb⟩
            rw [HF.out]
          · have n3 : ((wd t 3 : Int) != 0) = true := by simpa using h3
            have hk : (Lib.ctz 64 (wd t 3) : Int) ≤ 63 := by have := (ctz_wd t 3 h3).1; omega
            have HF := Lib.hid (HK.out 3 (by decide) h3 (all3 (P := fun j => wd t j = 0) h0 h1 h2))
            clear HN HK
            have H := Lib.hid h3
            clear h0 h1 h2 h3
            go_wp2_with fail
            refine wp_loop_rounds 5 ?_
            rw [rounds_succ]
            go_wp2_with fail
            rw [rounds_succ]
            go_wp2_with fail
            rw [rounds_succ]
            go_wp2_with fail
            rw [rounds_succ]
            go_wp2_with fail
            refine (tz_calls _ _ (wd_lt' _ _) H.out HT.out).mono ?_
            rintro e w4 ⟨rfl, rfl⟩
            go_wp2
            go_ret
            refine ⟨ret_int ?_, hb⟩
            rw [← HF.out]; omega
        · have n2 : ((wd t 2 : Int) != 0) = true := by simpa using h2
          have hk : (Lib.ctz 64 (wd t 2) : Int) ≤ 63 := by have := (ctz_wd t 2 h2).1; omega
          have HF := Lib.hid (HK.out 2 (by decide) h2 (all2 (P := fun j => wd t j = 0) h0 h1))
          clear HN HK
          have H := Lib.hid h2
          clear h0 h1 h2
          go_wp2_with fail
          refine wp_loop_rounds 5 ?_
          rw [rounds_succ]
          go_wp2_with fail
          rw [rounds_succ]
          go_wp2_with fail
          rw [rounds_succ]
          go_wp2_with fail
          refine (tz_calls _ _ (wd_lt' _ _) H.out HT.out).mono ?_
          rintro e w4 ⟨rfl, rfl⟩
          go_wp2
          go_ret
          refine ⟨ret_int ?_, hb⟩
          rw [← HF.out]; omega
      · have n1 : ((wd t 1 : Int) != 0) = true := by simpa using h1
        have hk : (Lib.ctz 64 (wd t 1) : Int) ≤ 63 := by have := (ctz_wd t 1 h1).1; omega
        have HF := Lib.hid (HK.out 1 (by decide) h1 (all1 (P := fun j => wd t j = 0) h0))
        clear HN HK
        have H := Lib.hid h1
        clear h0 h1
        go_wp2_with fail
        refine wp_loop_rounds 5 ?_
        rw [rounds_succ]
        go_wp2_with fail
        rw [rounds_succ]
        go_wp2_with fail
        refine (tz_calls _ _ (wd_lt' _ _) H.out HT.out).mono ?_
        rintro e w4 ⟨rfl, rfl⟩
        go_wp2
        go_ret
        refine ⟨ret_int ?_, hb⟩
        rw [← HF.out]; omega
    · have n0 : ((wd t 0 : Int) != 0) = true := by simpa using h0
      have hk : (Lib.ctz 64 (wd t 0) : Int) ≤ 63 := by have := (ctz_wd t 0 h0).1; omega
      have HF := Lib.hid (HK.out 0 (by decide) h0 (fun j hj => by omega))
      clear HN HK
      have H := Lib.hid h0
      clear h0
      go_wp2_with fail
      refine wp_loop_rounds 5 ?_
      rw [rounds_succ]
      go_wp2_with fail
      refine (tz_calls _ _ (wd_lt' _ _) H.out HT.out).mono ?_
      rintro e w4 ⟨rfl, rfl⟩
      go_wp2
      go_ret
      refine ⟨ret_int ?_, hb⟩
      rw [← HF.out]; omega

/-- Next. -/
theorem next_calls (s : BitVec 256) (n : Int) (w : World) (h2 : n ≤ 9223372036854775807) (hT : Tab w) (hw : 0 < w.heap.size) :
    Calls Tryz.prog 27 #[setV s, .int .i64 n] w fun e w' => e = .returned (.int .i64 (nextOf s.getLsbD n.toNat)) ∧ Below w.heap.size w w' := by
  by_cases hn : 0 ≤ n
  · exact next_nonneg s n w hn h2 hT hw
  · rw [show n.toNat = 0 by omega]; exact next_neg s n w (by omega) hT hw
end Go.Proofs.YtpaecjjelpjopaaGreatDoor

/- All: the iterator over a set's bytes. -/
namespace Go.Proofs.YtpaecjjelpjopaaGreatDoor
open Go.RowKit Go.Shelf BS
attribute [local go_sem] Oper.semAt_some

/-- The numbers below k of which f says yes, ascending. -/
def el (f : Nat → Bool) (k : Nat) : List Nat := (List.range k).filter f
theorem el_zero (f : Nat → Bool) : el f 0 = [] := rfl
theorem el_succ (f : Nat → Bool) (k : Nat) : el f (k + 1) = el f k ++ if f k then [k] else [] := by
  unfold el; rw [List.range_succ, List.filter_append]; cases h : f k <;> simp [h]
theorem el_skip (f : Nat → Bool) {k j : Nat} (h : k ≤ j) (hf : ∀ i, k ≤ i → i < j → f i = false) : el f j = el f k := by
  induction j with
  | zero => rw [show k = 0 by omega]
  | succ j ih =>
    by_cases hk : k = j + 1
    · rw [hk]
    · rw [el_succ, hf j (by omega) (by omega), ih (by omega) (fun i h1 h2 => hf i h1 (by omega))]; simp
theorem el_len (f : Nat → Bool) (k : Nat) : (el f k).length ≤ k := by
  have := List.length_filter_le f (List.range k); simpa [el] using this

theorem nextOf_cases (f : Nat → Bool) (k : Nat) : (nextOf f k = -1 ∧ ∀ j, k ≤ j → j < 256 → f j = false) ∨ (∃ j : Nat, nextOf f k = j ∧ k ≤ j ∧ j < 256 ∧ f j = true ∧ ∀ i, k ≤ i → i < j → f i = false) := by
  by_cases h : ∃ j, k ≤ j ∧ j < 256 ∧ f j = true ∧ ∀ i, k ≤ i → i < j → f i = false
  · obtain ⟨j, h1, h2, h3, h4⟩ := h
    exact .inr ⟨j, nextOf_eq h2 h1 h3 h4, h1, h2, h3, h4⟩
  · have key : ∀ j, k ≤ j → j < 256 → f j = false := by
      intro j
      induction j using Nat.strongRecOn with
      | ind j ih =>
        intro h1 h2
        cases hf : f j with
        | false => rfl
        | true => exact absurd ⟨j, h1, h2, hf, fun i hi hij => ih i hij hi (by omega)⟩ h
    exact .inl ⟨nextOf_none key, key⟩

/-- The box Bs holds the set s. -/
def SetAt (Bs : Nat) (s : BitVec 256) (W : World) : Prop := W.cell? ⟨Bs, 0, none⟩ = some (.int .u64 (wd s 0)) ∧ W.cell? ⟨Bs, 1, none⟩ = some (.int .u64 (wd s 1)) ∧ W.cell? ⟨Bs, 2, none⟩ = some (.int .u64 (wd s 2)) ∧ W.cell? ⟨Bs, 3, none⟩ = some (.int .u64 (wd s 3))
theorem SetAt.keep {Bs B : Nat} {s : BitVec 256} {w w' : World} (h : SetAt Bs s w) (hb : Below B w w') (hB : Bs < B) : SetAt Bs s w' :=
  ⟨(hb.cell (p := ⟨Bs, 0, none⟩) hB).trans h.1, (hb.cell (p := ⟨Bs, 1, none⟩) hB).trans h.2.1, (hb.cell (p := ⟨Bs, 2, none⟩) hB).trans h.2.2.1, (hb.cell (p := ⟨Bs, 3, none⟩) hB).trans h.2.2.2⟩

/-- What a round must keep: the box Bs, and the library's table. -/
def KeepA (Bs : Nat) (W W' : World) : Prop := W.heap.size ≤ W'.heap.size ∧ W'.heap[Bs]? = W.heap[Bs]? ∧ W'.heap[0]? = W.heap[0]?
theorem KeepA.of_below {Bs n : Nat} {W W' : World} (h : Below n W W') (hB : Bs < n) (hg : 0 < n) : KeepA Bs W W' := ⟨h.size, h.block _ hB, h.block _ hg⟩
theorem KeepA.t {Bs : Nat} {A B C : World} (h : KeepA Bs A B) (k : KeepA Bs B C) : KeepA Bs A C := ⟨Nat.le_trans h.1 k.1, k.2.1.trans h.2.1, k.2.2.trans h.2.2⟩
theorem KeepA.b {Bs : Nat} {w : World} (hB : Bs < w.heap.size) (_hg : 0 < w.heap.size) (W : World) (l : Nat) (o o' : Obj) (hl : w.heap.size ≤ l) (_ : W.heap[l]? = some o) (_ : o.isCells = false) (_ : o.isWalk = false) : KeepA Bs W (W.putObj l o') :=
  ⟨by simp, World.putObj_heap_other (by omega), World.putObj_heap_other (by omega)⟩
theorem KeepA.set {Bs : Nat} {s : BitVec 256} {W W' : World} (h : SetAt Bs s W) (hk : KeepA Bs W W') : SetAt Bs s W' := by
  unfold SetAt at *
  simp only [World.cell?_of_block (w := W) (a := ⟨Bs, 0, none⟩) hk.2.1, World.cell?_of_block (w := W) (a := ⟨Bs, 1, none⟩) hk.2.1, World.cell?_of_block (w := W) (a := ⟨Bs, 2, none⟩) hk.2.1, World.cell?_of_block (w := W) (a := ⟨Bs, 3, none⟩) hk.2.1]
  exact h
theorem KeepA.tab {Bs : Nat} {W W' : World} (h : Tab W) (hk : KeepA Bs W W') : Tab W' := fun j hj =>
  (World.cell?_of_block (w := W) (a := ⟨0, j, none⟩) hk.2.2).trans (h j hj)

set_option maxRecDepth 100000 in
set_option maxHeartbeats 1000000 in
/-- All's closure: for every loop body that keeps the box and the table. -/
theorem all1_in (n : Nat) (hn : 1 ≤ n) (l Bs : Nat) (s : BitVec 256) (J Jx : List Nat → World → Prop)
    (hJ0 : ∀ pre W W', J pre W → Below W.heap.size W W' → J pre W')
    (hY : ∀ pre x W, J pre W → pre.length < 256 → YieldAt Fence.wide (n - 1) Tryz.prog l #[.int .u8 (x : Nat)] W fun e W' =>
      (e = .returned (.bool true) ∧ J (pre ++ [x]) W' ∧ KeepA Bs W W') ∨ (e = .returned (.bool false) ∧ Jx (pre ++ [x]) W'))
    (W : World) (hBs : Bs < W.heap.size) (hg : 0 < W.heap.size) (hs : SetAt Bs s W) (hT : Tab W) (h0 : J [] W) :
    CallsIn Fence.wide n Tryz.prog 66 #[.func (.yield l) #[] #[], .pointer (some ⟨Bs, 0, none⟩)] W fun e W' => (∃ v, e = .returned v) ∧
      ((∃ ys, ys = el s.getLsbD 256 ∧ J ys W') ∨ (∃ pre, (∃ k, k ≤ 256 ∧ pre = el s.getLsbD k) ∧ Jx pre W')) := by
  have HT := Lib.hid hT
  clear hT
  obtain ⟨c0, c1, c2, c3⟩ := hs
  refine callsIn_of_wp Tryz.func66 rfl trivial ?_ rfl
  simp only [Tryz.ntmps66, List.size_toArray, List.length_cons, List.length_nil, Nat.reduceAdd, Nat.reduceSub, Array.replicate_succ, Array.replicate_zero, List.push_toArray, List.append_toArray, List.nil_append, List.cons_append]
  gi_wp2_with (refine ⟨trivial, ?_⟩; gi_at_call 27; refine (callsIn_wide.2 (next_calls s _ _ (by omega) HT.out (by omega))).mono ?_; rintro e w1 ⟨rfl, hb1⟩)
  have hw1 := hb1.size
  have hk1 := KeepA.of_below hb1 hBs hg
  have HT1 := Lib.hid (KeepA.tab HT.out hk1)
  have HS1 := Lib.hid (KeepA.set (s := s) ⟨c0, c1, c2, c3⟩ hk1)
  have HJ1 := Lib.hid (hJ0 _ _ _ h0 hb1)
  have HW1 := Lib.hid (Nat.lt_of_lt_of_le hBs hw1)
  have HW2 := Lib.hid (Nat.lt_of_lt_of_le hg hw1)
  clear hk1 hb1 hw1 c0 c1 c2 c3 HT hBs hg h0
  gi_loopw [3] (fun b wr => ∃ k : Nat, k ≤ 256 ∧ b = .int .i64 (nextOf s.getLsbD k) ∧ J (el s.getLsbD k) wr ∧ Tab wr ∧ SetAt Bs s wr ∧ Bs < wr.heap.size ∧ 0 < wr.heap.size)
    (fun b _ => if intOf b < 0 then 0 else (257 - intOf b).toNat)
  case atStart => exact ⟨0, Nat.zero_le _, rfl, HJ1.out, HT1.out, HS1.out, HW1.out, HW2.out⟩
  case round =>
    obtain ⟨k, hk, rfl, hJs, hTr, hSr, hWr, hWg⟩ := hrel
    have HT := Lib.hid hTr
    obtain ⟨c0, c1, c2, c3⟩ := hSr
    clear hTr HT1 HS1 HJ1 HW1 HW2
    rcases nextOf_cases s.getLsbD k with ⟨e1, hf⟩ | ⟨j, e1, hkj, hj, hfj, hlt⟩
    · rw [e1]
      have HF := Lib.hid hf
      clear hf e1
      gi_wp2
      go_end0
      exact ⟨⟨_, rfl⟩, .inl ⟨_, (el_skip _ hk (fun i h1 h2 => HF.out i h1 h2)).symm, hJs⟩⟩
    · rw [e1]
      have e2 : el s.getLsbD (j + 1) = el s.getLsbD k ++ [j] := by rw [el_succ, hfj, el_skip _ hkj hlt]; rfl
      have hl : (el s.getLsbD k).length < 256 := by have := el_len s.getLsbD k; omega
      obtain ⟨fn, tmps, assign, body, hy, hR⟩ := hY _ j wr hJs hl
      have HE := Lib.hid e2
      clear e1 e2 hlt hfj
      gi_wp2_with fail
      refine hR.mono ?_
      rintro e W3 (⟨rfl, hJ3, hk3⟩ | ⟨rfl, hJx3⟩)
      · -- the round goes on
        have hs3 := hk3.1
        have HT3 := Lib.hid (KeepA.tab HT.out hk3)
        obtain ⟨d0, d1, d2, d3⟩ : SetAt Bs s W3 := KeepA.set (s := s) ⟨c0, c1, c2, c3⟩ hk3
        have HK3 := Lib.hid hk3
        clear c0 c1 c2 c3 HT hk3
        gi_wp2_with (refine ⟨trivial, ?_⟩; gi_at_call 27; refine (callsIn_wide.2 (next_calls s _ _ (by omega) HT3.out (by omega))).mono ?_; rintro e w4 ⟨rfl, hb4⟩)
        have hs4 := hb4.size
        go_roundw
        case rel =>
          have hk4 := KeepA.of_below (Bs := Bs) hb4 (by omega) (by omega)
          refine ⟨j + 1, by omega, rfl, ?_, KeepA.tab HT3.out hk4, KeepA.set (s := s) ⟨d0, d1, d2, d3⟩ hk4, by omega, by omega⟩
          rw [HE.out]; exact hJ0 _ _ _ hJ3 hb4
        case measure =>
          rcases nextOf_cases s.getLsbD (j + 1) with ⟨e1, _⟩ | ⟨j', e1, h1, h2, _⟩
          · rw [e1]
            show (if (-1 : Int) < 0 then 0 else _) < (if (j : Int) < 0 then 0 else (257 - (j : Int)).toNat)
            rw [if_pos (by decide), if_neg (show ¬ (j : Int) < 0 by omega)]; omega
          · rw [e1]
            show (if (j' : Int) < 0 then 0 else (257 - (j' : Int)).toNat) < (if (j : Int) < 0 then 0 else (257 - (j : Int)).toNat)
            rw [if_neg (show ¬ (j' : Int) < 0 by omega), if_neg (show ¬ (j : Int) < 0 by omega)]; omega
      · gi_wp2
        refine bodyPost_ret (results_none rfl _ _ _) rfl ?_
        exact ⟨⟨_, rfl⟩, .inr ⟨_, ⟨j + 1, by omega, HE.out.symm⟩, hJx3⟩⟩

set_option maxHeartbeats 1000000 in
/-- All: the set is boxed, the function value has captured the box. -/
theorem all_in (n : Nat) (s : BitVec 256) (w : World) :
    CallsIn Fence.wide n Tryz.prog 61 #[setV s] w fun e w' => e = .returned (.func (.func 66) #[] #[.pointer (some ⟨w.heap.size, 0, none⟩)]) ∧ w' = w.alloc (.cells #[.int .u64 (wd s 0), .int .u64 (wd s 1), .int .u64 (wd s 2), .int .u64 (wd s 3)] 25) := by
  refine callsIn_of_wp Tryz.func61 rfl trivial ?_ rfl
  simp only [Tryz.ntmps61, List.size_toArray, List.length_cons, List.length_nil, Nat.reduceAdd, Nat.reduceSub, Array.replicate_succ, Array.replicate_zero, List.push_toArray, List.append_toArray, List.nil_append, List.cons_append]
  gi_wp2
  go_ret
  exact ⟨rfl, rfl⟩

/-- All hands back an iterator over the set's bytes, ascending. -/
theorem all_stops (n : Nat) (hn : 1 ≤ n) (Bs : Nat) (s : BitVec 256) (w : World) (hBs : Bs < w.heap.size) (hg : 0 < w.heap.size) (hs : SetAt Bs s w) (hT : Tab w) :
    SeqStopsK Fence.wide n Tryz.prog 66 #[.pointer (some ⟨Bs, 0, none⟩)] (fun x : Nat => #[Value.int .u8 (x : Int)]) (KeepA Bs) (fun ys => ys = el s.getLsbD 256)
      (fun pre => ∃ k, k ≤ 256 ∧ pre = el s.getLsbD k) 256 w := fun l J Jx W hW hA _ hY h0 =>
  all1_in n hn l Bs s J Jx (fun pre W1 W2 hj hb => hA pre W1 W2 none hj ⟨hb.os, hb.tape, hb.output, hb.size, fun k hk _ => hb.block k hk⟩ (fun r e => by cases e)) hY W (Nat.lt_of_lt_of_le hBs hW.size) (Nat.lt_of_lt_of_le hg hW.size) (hs.keep hW hBs) (hT.keep hW hg) h0
end Go.Proofs.YtpaecjjelpjopaaGreatDoor

/- slices.Values over bytes, and With. -/
namespace Go.Proofs.YtpaecjjelpjopaaGreatDoor
open Go.RowKit Go.Shelf BS
attribute [local go_sem] Oper.semAt_some

/-- A slice of bytes that lies below n₀. -/
def BytesAt (n₀ : Nat) (W : World) (v : Value) (l : List (Fin 256)) : Prop :=
  ∃ (a : Option Addr) (cap : Nat), v = .slice a l.length cap ∧ (l ≠ [] → ∃ b off, a = some ⟨b, off, none⟩ ∧ b < n₀ ∧ ∀ j (h : j < l.length), W.cell? ⟨b, off + j, none⟩ = some (.int .u8 (l[j].val : Nat)))
theorem BytesAt.keep {n₀ : Nat} {A B : World} {v : Value} {l : List (Fin 256)} (h : BytesAt n₀ A v l) (hb : Below n₀ A B) : BytesAt n₀ B v l := by
  obtain ⟨a, cap, e, h⟩ := h
  refine ⟨a, cap, e, fun hne => ?_⟩
  obtain ⟨b, off, e, hlt, hc⟩ := h hne
  exact ⟨b, off, e, hlt, fun j hj => (hb.cell (p := ⟨b, off + j, none⟩) hlt).trans (hc j hj)⟩

set_option maxRecDepth 100000 in
set_option maxHeartbeats 2000000 in
theorem values1_in (n : Nat) (hn : 1 ≤ n) (k0 Bs n₀ b off cap : Nat) (l : List (Fin 256)) (hreach : l.length ≤ 9223372036854775807) (hb : b < n₀) (J Jx : List (Fin 256) → World → Prop)
    (hY : ∀ pre x W, J pre W → pre.length < l.length → YieldAt Fence.wide (n - 1) Tryz.prog k0 #[.int .u8 (x.val : Nat)] W fun e W' =>
      (e = .returned (.bool true) ∧ J (pre ++ [x]) W' ∧ Below n₀ W W') ∨ (e = .returned (.bool false) ∧ Jx (pre ++ [x]) W'))
    (W : World) (hBs : W.cell? ⟨Bs, 0, none⟩ = some (.slice (some ⟨b, off, none⟩) l.length cap)) (hc : ∀ j (h : j < l.length), W.cell? ⟨b, off + j, none⟩ = some (.int .u8 (l[j].val : Nat))) (h0 : J [] W) :
    CallsIn Fence.wide n Tryz.prog 67 #[.func (.yield k0) #[] #[], .pointer (some ⟨Bs, 0, none⟩)] W fun e W' => (∃ v, e = .returned v) ∧
      ((∃ ys, ys = l ∧ J ys W') ∨ (∃ pre, (∃ k, k ≤ l.length ∧ pre = l.take k) ∧ Jx pre W')) := by
  have HC := Lib.hid hc
  clear hc
  refine callsIn_of_wp Tryz.func67 rfl trivial ?_ rfl
  simp only [Tryz.ntmps67, List.size_toArray, List.length_cons, List.length_nil, Nat.reduceAdd, Nat.reduceSub, Array.replicate_succ, Array.replicate_zero, List.push_toArray, List.append_toArray, List.nil_append, List.cons_append]
  gi_wp2
  gi_loopw [7] (fun i wr => ∃ k : Nat, k ≤ l.length ∧ i = .int .i64 k ∧ J (l.take k) wr ∧ Below n₀ W wr)
    (fun i _ => l.length - (intOf i).toNat)
  case atStart => exact ⟨0, Nat.zero_le _, rfl, h0, Below.refl _ _⟩
  case round =>
    obtain ⟨k, hk, rfl, hJs, hnx⟩ := hrel
    by_cases hlt : k < l.length
    · have hcx : wr.cell? ⟨b, off + k, none⟩ = some (.int .u8 (l[k].val : Nat)) := (hnx.cell (p := ⟨b, off + k, none⟩) hb).trans (HC.out k hlt)
      have hx := l[k].isLt
      have HE := Lib.hid (show l.take (k + 1) = l.take k ++ [l[k]] from by simp)
      obtain ⟨fn, tmps, assign, body, hy, hR⟩ := hY _ l[k] wr hJs (by rw [List.length_take]; omega)
      generalize l[k] = x at *
      gi_wp2
      refine hR.mono ?_
      rintro e W3 (⟨rfl, hJ3, hk3⟩ | ⟨rfl, hJx3⟩)
      · gi_wp2
        go_roundw
        case rel => exact ⟨k + 1, by omega, by simp, by rw [HE.out]; exact hJ3, hnx.trans hk3⟩
        case measure => simp [intOf]; omega
      · gi_wp2
        refine bodyPost_ret (results_none rfl _ _ _) rfl ?_
        exact ⟨⟨_, rfl⟩, .inr ⟨_, ⟨k + 1, by omega, HE.out.symm⟩, hJx3⟩⟩
    · obtain rfl : k = l.length := by omega
      gi_wp2
      go_end0
      exact ⟨⟨_, rfl⟩, .inl ⟨_, by simp, hJs⟩⟩

set_option maxRecDepth 100000 in
set_option maxHeartbeats 1000000 in
theorem values1_nil_in (n : Nat) (k0 Bs : Nat) (a : Option Addr) (cap : Nat) (J : List (Fin 256) → World → Prop) (W : World) (hBs : W.cell? ⟨Bs, 0, none⟩ = some (.slice a 0 cap)) (h0 : J [] W) :
    CallsIn Fence.wide n Tryz.prog 67 #[.func (.yield k0) #[] #[], .pointer (some ⟨Bs, 0, none⟩)] W fun e W' => (∃ v, e = .returned v) ∧ J [] W' := by
  refine callsIn_of_wp Tryz.func67 rfl trivial ?_ rfl
  simp only [Tryz.ntmps67, List.size_toArray, List.length_cons, List.length_nil, Nat.reduceAdd, Nat.reduceSub, Array.replicate_succ, Array.replicate_zero, List.push_toArray, List.append_toArray, List.nil_append, List.cons_append]
  gi_wp2
  gi_loopw [7] (fun i wr => i = .int .i64 0 ∧ J [] wr) (fun _ _ => 0)
  case atStart => exact ⟨rfl, h0⟩
  case round =>
    obtain ⟨rfl, hJs⟩ := hrel
    gi_wp2
    go_end0
    exact ⟨⟨_, rfl⟩, hJs⟩

set_option maxHeartbeats 1000000 in
theorem values_in (n : Nat) (a : Option Addr) (len cap : Nat) (w : World) :
    CallsIn Fence.wide n Tryz.prog 62 #[.slice a len cap] w fun e w' => e = .returned (.func (.func 67) #[] #[.pointer (some ⟨w.heap.size, 0, none⟩)]) ∧ w' = w.alloc (.cells #[.slice a len cap] 59) := by
  refine callsIn_of_wp Tryz.func62 rfl trivial ?_ rfl
  simp only [Tryz.ntmps62, List.size_toArray, List.length_cons, List.length_nil, Nat.reduceAdd, Nat.reduceSub, Array.replicate_succ, Array.replicate_zero, List.push_toArray, List.append_toArray, List.nil_append, List.cons_append]
  gi_wp2
  go_ret
  exact ⟨rfl, rfl⟩

theorem values_stops (n : Nat) (hn : 1 ≤ n) (Bs n₀ : Nat) (v : Value) (l : List (Fin 256)) (hreach : l.length ≤ 9223372036854775807) (w : World) (hBs : Bs < w.heap.size) (hn₀ : n₀ ≤ w.heap.size)
    (hc : w.cell? ⟨Bs, 0, none⟩ = some v) (hI : BytesAt n₀ w v l) :
    SeqStopsK Fence.wide n Tryz.prog 67 #[.pointer (some ⟨Bs, 0, none⟩)] (fun x : Fin 256 => #[Value.int .u8 (x.val : Int)]) (Below n₀) (fun ys => ys = l) (fun pre => ∃ k, k ≤ l.length ∧ pre = l.take k) l.length w := fun k0 J Jx W hW _ _ hY h0 => by
  have hc' := (hW.cell (p := ⟨Bs, 0, none⟩) hBs).trans hc
  obtain ⟨a, cap, rfl, hI2⟩ := hI.keep (hW.mono hn₀)
  by_cases hl : l = []
  · subst hl
    exact (values1_nil_in n k0 Bs a cap J W hc' h0).mono fun e W' ⟨he, hj⟩ => ⟨he, .inl ⟨_, rfl, hj⟩⟩
  · obtain ⟨b, off, rfl, hb, hcs⟩ := hI2 hl
    exact values1_in n hn k0 Bs n₀ b off cap l hreach hb J Jx hY W hc' hcs h0
end Go.Proofs.YtpaecjjelpjopaaGreatDoor

/- A whole block of cells, known by what it holds: kept and written to. Nothing of the program is used. -/
namespace Go.Proofs.YtpaecjjelpjopaaGreatDoor
open Go.RowKit

def Blk (W : World) (B : Nat) (vs : Array Value) (t : TypeId) : Prop := W.heap[B]? = some (.cells vs t (0, 0))

theorem Blk.lt {W : World} {B : Nat} {vs : Array Value} {t : TypeId} (h : Blk W B vs t) : B < W.heap.size := (Array.getElem?_eq_some_iff.1 h).1
theorem Blk.cell {W : World} {B : Nat} {vs : Array Value} {t : TypeId} (h : Blk W B vs t) (i : Nat) : W.cell? ⟨B, i, none⟩ = vs[i]? := by simp [World.cell?, show W.heap[B]? = _ from h]
theorem Blk.frozen {W : World} {B : Nat} {vs : Array Value} {t : TypeId} (h : Blk W B vs t) (i : Nat) : W.frozen? ⟨B, i, none⟩ = false := by simp [World.frozen?, show W.heap[B]? = _ from h]
theorem Blk.new (W : World) (vs : Array Value) (t : TypeId) : Blk (W.alloc (.cells vs t)) W.heap.size vs t := World.alloc_heap_new W _
theorem Blk.kept {W W' : World} {row : Option Nat} {B : Nat} {vs : Array Value} {t : TypeId} (h : Blk W B vs t) (hg : W.grownBy W' row) (hne : some B ≠ row) : Blk W' B vs t := (hg.block B h.lt hne).trans h
theorem Blk.alloc {W : World} {B : Nat} {vs : Array Value} {t : TypeId} (h : Blk W B vs t) (o : Obj) : Blk (W.alloc o) B vs t := h.kept (World.grownBy_alloc W o none) (by simp)
theorem Blk.drew {W : World} {B : Nat} {vs : Array Value} {t : TypeId} (h : Blk W B vs t) : Blk W.drew B vs t := h
theorem Blk.below {W W' : World} {n B : Nat} {vs : Array Value} {t : TypeId} (h : Blk W B vs t) (hb : Below n W W') (hB : B < n) : Blk W' B vs t := (hb.block B hB).trans h
theorem Blk.set {W : World} {B : Nat} {vs : Array Value} {t : TypeId} (h : Blk W B vs t) (i : Nat) (v : Value) : Blk (W.setCell ⟨B, i, none⟩ v) B (vs.setIfInBounds i v) t := by
  obtain ⟨hlt, hk⟩ := Array.getElem?_eq_some_iff.1 h
  show (W.heap.modify B _)[B]? = _
  rw [Array.getElem?_eq_getElem (by rw [Array.size_modify]; exact hlt), Array.getElem_modify_self, hk]
  rfl
theorem Blk.other {W : World} {B B' : Nat} {vs : Array Value} {t : TypeId} (h : Blk W B vs t) (hne : B ≠ B') (i : Nat) (v : Value) : Blk (W.setCell ⟨B', i, none⟩ v) B vs t :=
  (Below.heap_setCell W ⟨B', i, none⟩ v B hne).trans h
theorem Blk.not_row {W : World} {B : Nat} {vs : Array Value} {t : TypeId} (h : Blk W B vs t) {row : Option Nat} (hr : ∀ r, row = some r → ∃ o : Obj, W.heap[r]? = some o ∧ o.isCells = false) : some B ≠ row := fun e => by
  obtain ⟨o, ho, hc⟩ := hr B e.symm
  rw [show W.heap[B]? = _ from h] at ho; cases ho; cases hc
theorem Blk.not_own {W : World} {B : Nat} {vs : Array Value} {t e : TypeId} (h : Blk W B vs t) (hte : t ≠ e) {base size k : Nat} {v : Value} {xs : List Value} (hr : W.ownsRow base e size v k xs) : some B ≠ v.ownBlock := by
  rcases hr.2 with ⟨rfl, _⟩ | ⟨g, cap, cur, rfl, _, hgb, _⟩
  · simp [Value.ownBlock]
  · intro e'
    obtain rfl : B = g := by simpa [Value.ownBlock] using e'
    have := (show W.heap[B]? = _ from h).symm.trans hgb
    simp at this
    exact hte this.2
theorem Blk.own {β : Type} (B : Nat) (f : β → Array Value) (t : TypeId) : Own (fun s W => Blk W B (f s) t) := fun _ _ _ _ hs hg hr => hs.kept hg (hs.not_row hr)
theorem Blk.putObj {W : World} {B : Nat} {vs : Array Value} {t : TypeId} (h : Blk W B vs t) {l : Nat} {o : Obj} (o' : Obj) (hl : W.heap[l]? = some o) (ho : o.isCells = false) : Blk (W.putObj l o') B vs t :=
  h.kept (grownBy_putObj' W l o') (h.not_row fun r e => by cases e; exact ⟨o, hl, ho⟩)
/-- What the world's first blocks are is kept where only a later block is written to. -/
theorem below_set {n B : Nat} {W W' : World} (hb : Below n W W') (hB : n ≤ B) (i : Nat) (v : Value) : Below n W (W'.setCell ⟨B, i, none⟩ v) := hb.setCell (p := ⟨B, i, none⟩) hB v
end Go.Proofs.YtpaecjjelpjopaaGreatDoor

/- With: a set with some bytes more. -/
namespace Go.Proofs.YtpaecjjelpjopaaGreatDoor
open Go.RowKit Go.Shelf BS
attribute [local go_sem] Oper.semAt_some

/-- The set of one number. -/
def one (x : Nat) : BitVec 256 := ofFn fun j => decide (j = x)
def withL (s : BitVec 256) (l : List (Fin 256)) : BitVec 256 := l.foldl (fun t x => t ||| one x.val) s
theorem withL_snoc (s : BitVec 256) (l : List (Fin 256)) (x : Fin 256) : withL s (l ++ [x]) = withL s l ||| one x.val := by simp [withL]

theorem wd_one (x i : Nat) (hi : i < 4) : wd (one x) i = if x / 64 = i then 2 ^ (x % 64) else 0 := by
  apply Nat.eq_of_testBit_eq; intro j
  rw [testBit_wd, one, get_ofFn]
  by_cases h : x / 64 = i
  · rw [if_pos h, Nat.testBit_two_pow]
    by_cases hj : j < 64
    · simp only [hj, show 64 * i + j < 256 by omega, decide_true, Bool.true_and, decide_eq_decide]; omega
    · simp only [hj, decide_false, Bool.false_and]
      symm; rw [decide_eq_false_iff_not]; omega
  · rw [if_neg h, Nat.zero_testBit]
    by_cases hj : j < 64
    · simp only [hj, show 64 * i + j < 256 by omega, decide_true, Bool.true_and, decide_eq_false_iff_not]; omega
    · simp [hj]

theorem or_one_same (t : BitVec 256) (x i : Nat) (hi : i < 4) (h : x / 64 = i) : bits .or .u64 (wd t i : Int) (IntKind.u64.wrap (2 ^ (x % 64))) = (wd (t ||| one x) i : Int) := by
  have h1 : x % 64 < 64 := Nat.mod_lt _ (by decide)
  have h2 : (2 : Nat) ^ (x % 64) < 2 ^ 64 := Nat.pow_lt_pow_right (by decide) h1
  have h3 : ((2 : Int) ^ (x % 64)) = ((2 ^ (x % 64) : Nat) : Int) := by simp
  rw [h3, wrap_u64_nat _ h2, bits_or_nat _ _ (wd_lt _ _) h2, wd_or, wd_one x i hi, if_pos h]
theorem or_one_other (t : BitVec 256) (x i : Nat) (hi : i < 4) (h : x / 64 ≠ i) : wd t i = wd (t ||| one x) i := by
  rw [wd_or, wd_one x i hi, if_neg h, Nat.or_zero]

@[reducible] def setA (s : BitVec 256) : Array Value := #[.int .u64 (wd s 0), .int .u64 (wd s 1), .int .u64 (wd s 2), .int .u64 (wd s 3)]

theorem Blk.cells4 {W : World} {B : Nat} {a b c d : Value} {t : TypeId} (h : Blk W B #[a, b, c, d] t) : (W.cell? ⟨B, 0, none⟩ = some a ∧ W.cell? ⟨B, 1, none⟩ = some b ∧ W.cell? ⟨B, 2, none⟩ = some c ∧ W.cell? ⟨B, 3, none⟩ = some d) ∧
    (W.frozen? ⟨B, 0, none⟩ = false ∧ W.frozen? ⟨B, 1, none⟩ = false ∧ W.frozen? ⟨B, 2, none⟩ = false ∧ W.frozen? ⟨B, 3, none⟩ = false) :=
  ⟨⟨h.cell 0, h.cell 1, h.cell 2, h.cell 3⟩, h.frozen 0, h.frozen 1, h.frozen 2, h.frozen 3⟩

theorem setA_or (t : BitVec 256) (x : Nat) (h0 : x / 64 = 0) : (setA t).setIfInBounds 0 (.int .u64 (bits .or .u64 (wd t 0 : Int) (IntKind.u64.wrap (2 ^ (x % 64))))) = setA (t ||| one x) := by
  rw [or_one_same t x 0 (by decide) h0, setA, setA, ← or_one_other t x 1 (by decide) (by omega), ← or_one_other t x 2 (by decide) (by omega), ← or_one_other t x 3 (by decide) (by omega)]; rfl
theorem setA_or1 (t : BitVec 256) (x : Nat) (h0 : x / 64 = 1) : (setA t).setIfInBounds 1 (.int .u64 (bits .or .u64 (wd t 1 : Int) (IntKind.u64.wrap (2 ^ (x % 64))))) = setA (t ||| one x) := by
  rw [or_one_same t x 1 (by decide) h0, setA, setA, ← or_one_other t x 0 (by decide) (by omega), ← or_one_other t x 2 (by decide) (by omega), ← or_one_other t x 3 (by decide) (by omega)]; rfl
theorem setA_or2 (t : BitVec 256) (x : Nat) (h0 : x / 64 = 2) : (setA t).setIfInBounds 2 (.int .u64 (bits .or .u64 (wd t 2 : Int) (IntKind.u64.wrap (2 ^ (x % 64))))) = setA (t ||| one x) := by
  rw [or_one_same t x 2 (by decide) h0, setA, setA, ← or_one_other t x 0 (by decide) (by omega), ← or_one_other t x 1 (by decide) (by omega), ← or_one_other t x 3 (by decide) (by omega)]; rfl
theorem setA_or3 (t : BitVec 256) (x : Nat) (h0 : x / 64 = 3) : (setA t).setIfInBounds 3 (.int .u64 (bits .or .u64 (wd t 3 : Int) (IntKind.u64.wrap (2 ^ (x % 64))))) = setA (t ||| one x) := by
  rw [or_one_same t x 3 (by decide) h0, setA, setA, ← or_one_other t x 0 (by decide) (by omega), ← or_one_other t x 1 (by decide) (by omega), ← or_one_other t x 2 (by decide) (by omega)]; rfl

set_option maxRecDepth 100000 in
set_option maxHeartbeats 2000000 in
/-- With. -/
theorem with_in (n : Nat) (hn : 3 ≤ n) (s : BitVec 256) (v : Value) (a : Option Addr) (len cap : Nat) (hv : v = .slice a len cap) (l : List (Fin 256)) (hreach : l.length ≤ 9223372036854775807) (w : World) (hI : BytesAt w.heap.size w v l) :
    CallsIn Fence.wide n Tryz.prog 46 #[setV s, v] w fun e W' => e = .returned (setV (withL s l)) ∧ Below w.heap.size w W' := by
  have h1 : 1 ≤ n := by omega
  subst hv
  refine callsIn_of_wp_marks Tryz.func46 rfl trivial ?_ rfl
  simp only [Tryz.ntmps46, List.size_toArray, List.length_cons, List.length_nil, Nat.reduceAdd, Nat.reduceSub, Array.replicate_succ, Array.replicate_zero, List.push_toArray, List.append_toArray, List.nil_append, List.cons_append]
  gi_wp2_with (refine ⟨trivial, ?_⟩; gi_at_call 62; refine (values_in (n - 1) _ _ _ _).mono ?_; rintro e w' ⟨rfl, rfl⟩)
  obtain ⟨w0, hw0⟩ : ∃ w0, ((w.alloc (.cells (setA s) 25)).alloc (.cells #[.int .u64 0, .int .u64 0, .int .u64 0, .int .u64 0] 25)) = w0 := ⟨_, rfl⟩
  have bS : Blk w0 w.heap.size (setA s) 25 := by rw [← hw0]; exact (Blk.new w _ _).alloc _
  have bR : Blk w0 (w.heap.size + 1) #[.int .u64 0, .int .u64 0, .int .u64 0, .int .u64 0] 25 := by
    rw [← hw0]; have := Blk.new (w.alloc (.cells (setA s) 25)) #[.int .u64 0, .int .u64 0, .int .u64 0, .int .u64 0] 25; rwa [World.size_alloc] at this
  have hz0 : w0.heap.size = w.heap.size + 2 := by rw [← hw0]; simp
  have hB0 : Below w.heap.size w w0 := by rw [← hw0]; go_grown
  rw [show ((w.alloc (.cells #[.int .u64 (wd s 0), .int .u64 (wd s 1), .int .u64 (wd s 2), .int .u64 (wd s 3)] 25)).alloc (.cells #[.int .u64 0, .int .u64 0, .int .u64 0, .int .u64 0] 25)) = w0 from hw0]
  have bN := Boxed.new w0 59 (.slice a len cap)
  rw [show w.heap.size + 1 + 1 = w0.heap.size by omega]
  clear hw0
  have hz1 : w.heap.size + 2 ≤ w0.heap.size := by omega
  clear hz0
  refine wpIn_rangeFunc_ownG rfl h1 (gf := 67) (lb := #[.pointer (some ⟨w0.heap.size, 0, none⟩)]) rfl trivial (enters_of Tryz.func67 (by kernel_rfl) rfl)
    (values_stops (n - 1) (by omega) w0.heap.size w.heap.size _ l hreach _ (by simp) (by simp; omega) bN.cell (hI.keep (hB0.alloc (by omega) _))) belowK_t (belowK_b (by simp; omega)) (Below.refl _ _) (fun _ => rfl)
    (fun pre W => (Blk W w.heap.size (setA (withL s pre)) 25 ∧ Blk W (w.heap.size + 1) #[.int .u64 0, .int .u64 0, .int .u64 0, .int .u64 0] 25) ∧ Below w.heap.size w W)
    (fun _ _ _ => False)
    (OwnFrom.and (Own.from (fun s' A B row hs hg hr => ⟨hs.1.kept hg (hs.1.not_row hr), hs.2.kept hg (hs.2.not_row hr)⟩) _) (ownFrom_below (Nat.le_refl _) (by simp; omega)))
    (fun _ _ _ _ _ hs _ _ => hs)
    ⟨⟨bS.alloc _, bR.alloc _⟩, hB0.alloc (by omega) _⟩
    (fun x => { tmps := #[setV s, .slice a len cap, .pointer (some ⟨w.heap.size, 0, none⟩), undef, .pointer (some ⟨w.heap.size + 1, 0, none⟩), .int .u8 (x.val : Int), .slice a len cap,
          .func (.func 67) #[] #[.pointer (some ⟨w0.heap.size, 0, none⟩)], .int .u8 (x.val : Int), undef, undef, undef, undef, undef, undef, undef, undef, undef, undef], defers := [] }) ?assign ?body ?done ?stop
  case assign =>
    intro l x W K hK
    gi_wp2
    exact hK
  case body =>
    rintro l pre x W ⟨⟨bS, bR⟩, hB⟩ _
    obtain ⟨⟨c0, c1, c2, c3⟩, f0, f1, f2, f3⟩ := bS.cells4
    have hx := x.isLt
    have HW := Lib.hid (withL_snoc s pre x)
    generalize withL s pre = t at *
    obtain ⟨x, hx'⟩ := x
    simp only at hx HW ⊢
    have hx2 : 0 ≤ (x : Int) % 64 := by omega
    have hx3 : (x : Int) % 64 < 64 := by omega
    have h4 : (x : Int) / 64 = 0 ∨ (x : Int) / 64 = 1 ∨ (x : Int) / 64 = 2 ∨ (x : Int) / 64 = 3 := by omega
    rcases h4 with hx4 | hx4 | hx4 | hx4
    · gi_wp2
      refine ⟨(KeepsOthers.setCell _ _ _).from _, below_set (Below.refl _ _) (Nat.le_refl _) _ _, ⟨?_, bR.other (by omega) _ _⟩, below_set hB (Nat.le_refl _) _ _⟩
      rw [HW.out, ← setA_or t x (by omega)]
      exact bS.set 0 _
    · gi_wp2
      refine ⟨(KeepsOthers.setCell _ _ _).from _, below_set (Below.refl _ _) (Nat.le_refl _) _ _, ⟨?_, bR.other (by omega) _ _⟩, below_set hB (Nat.le_refl _) _ _⟩
      rw [HW.out, ← setA_or1 t x (by omega)]
      exact bS.set 1 _
    · gi_wp2
      refine ⟨(KeepsOthers.setCell _ _ _).from _, below_set (Below.refl _ _) (Nat.le_refl _) _ _, ⟨?_, bR.other (by omega) _ _⟩, below_set hB (Nat.le_refl _) _ _⟩
      rw [HW.out, ← setA_or2 t x (by omega)]
      exact bS.set 2 _
    · gi_wp2
      refine ⟨(KeepsOthers.setCell _ _ _).from _, below_set (Below.refl _ _) (Nat.le_refl _) _ _, ⟨?_, bR.other (by omega) _ _⟩, below_set hB (Nat.le_refl _) _ _⟩
      rw [HW.out, ← setA_or3 t x (by omega)]
      exact bS.set 3 _
  case done =>
    rintro D ys W hD rfl ⟨⟨bS, bR⟩, hB⟩ hK
    obtain ⟨⟨c0, c1, c2, c3⟩, f0, f1, f2, f3⟩ := bS.cells4
    obtain ⟨⟨d0, d1, d2, d3⟩, g0, g1, g2, g3⟩ := bR.cells4
    gi_wp2
    generalize withL s ys = t at *
    have bR' := (((bR.set 0 (.int .u64 (wd t 0))).set 1 (.int .u64 (wd t 1))).set 2 (.int .u64 (wd t 2))).set 3 (.int .u64 (wd t 3))
    have hB' := below_set (below_set (below_set (below_set hB (B := w.heap.size + 1) (by omega) 0 (.int .u64 (wd t 0))) (B := w.heap.size + 1) (by omega) 1 (.int .u64 (wd t 1))) (B := w.heap.size + 1) (by omega) 2 (.int .u64 (wd t 2))) (B := w.heap.size + 1) (by omega) 3 (.int .u64 (wd t 3))
    have hK' := ((((KeepsOthers.setCell W ⟨w.heap.size + 1, 0, none⟩ (.int .u64 (wd t 0))).trans (KeepsOthers.setCell _ ⟨w.heap.size + 1, 1, none⟩ (.int .u64 (wd t 1)))).trans (KeepsOthers.setCell _ ⟨w.heap.size + 1, 2, none⟩ (.int .u64 (wd t 2)))).trans (KeepsOthers.setCell _ ⟨w.heap.size + 1, 3, none⟩ (.int .u64 (wd t 3)))).same D _ hK rfl
    generalize (((W.setCell ⟨w.heap.size + 1, 0, none⟩ (.int .u64 (wd t 0))).setCell ⟨w.heap.size + 1, 1, none⟩ (.int .u64 (wd t 1))).setCell ⟨w.heap.size + 1, 2, none⟩ (.int .u64 (wd t 2))).setCell ⟨w.heap.size + 1, 3, none⟩ (.int .u64 (wd t 3)) = W4 at *
    refine ⟨by simp, .inl ⟨_, _, rfl, run_takeDeferred hK', ?_⟩⟩
    have bR2 : Blk (W4.putObj D (.deferred none)) (w.heap.size + 1) (setA t) 25 := bR'.putObj _ hK' rfl
    obtain ⟨⟨e0, e1, e2, e3⟩, _⟩ := bR2.cells4
    refine ⟨setV t, ?_, rfl, hB'.trans (belowK_b (w := w) (Nat.le_refl _) _ D _ _ (by simp at hD; omega) hK' rfl rfl)⟩
    simp [results, Tryz.f46, go_sem, e0, e1, e2, e3]
  case stop =>
    rintro D c pre W _ _ h _
    exact h.elim
end Go.Proofs.YtpaecjjelpjopaaGreatDoor

/- A region that draws its order, where each operation, in every world of a kind S, yields one value and leads to a world of that kind: whatever the order is, the end is the same. Nothing of the program is used. -/
namespace Go.Proofs.YtpaecjjelpjopaaGreatDoor
open Go

section
variable {P : Program} {ops : Array Oper} {Q : Exit → Act → World → Prop} {md : Region.Mode} {S : World → Prop}

/-- In state a, in every world that meets S, operation o leaves v in its temporary, and a world that meets S. -/
def StepsIf (P : Program) (ops : Array Oper) (S : World → Prop) (o : Oper) (v : Value) (a : Act) : Prop :=
  (Region.wanted o (yielded ops a.tmps) = true ∧ ∀ w, S w → ∀ (K : Act → World → Prop) (Q : Exit → Act → World → Prop), (∀ w', S w' → K (a.put o.dst v) w') → o.wp P a w K Q) ∨
  (Region.wanted o (yielded ops a.tmps) = false ∧ v = undef)

theorem StepsIf.wpOp {i : Nat} {o : Oper} {v : Value} {a : Act} (hi : ops[i]? = some o) (hy : StepsIf P ops S o v a)
    {K : Act → World → Prop} {w : World} (hS : S w) (h : ∀ w', S w' → K (a.put o.dst v) w') : wpOp P ops Q i K a w := by
  unfold Go.wpOp
  simp only [hi]
  rcases hy with ⟨hw, hv⟩ | ⟨hw, rfl⟩
  · simp only [hw, if_true]; exact .inl (hv w hS K Q h)
  · simp only [hw, Bool.false_eq_true, if_false]; exact h w hS

/-- What another operation puts elsewhere changes nothing of it. -/
theorem StepsIf.put {o : Oper} {v : Value} {a : Act} {x : Option Tmp} {y : Value} (hs : ∀ cs b, o.op ≠ .select cs b) (h1 : ∀ d, x = some d → d ∉ o.looksAt ops) (h2 : ∀ d, o.dst = some d → x ≠ some d)
    (hy : StepsIf P ops S o v a) : StepsIf P ops S o v (a.put x y) := by
  unfold StepsIf at *
  rw [wanted_put o a x y h1]
  rcases hy with ⟨hw, hv⟩ | h
  · refine .inl ⟨hw, fun w hS K Q hK => ?_⟩
    have h0 := hv w hS (fun a' w' => a' = a.put o.dst v ∧ S w') (fun _ _ _ => False) (fun w' hS' => ⟨rfl, hS'⟩)
    unfold Oper.wp at *
    rw [execOp_put o hs a x y h1]
    generalize (execOp a.eval o).run P w = r at *
    have key : ∀ u w', (a.put o.dst u = a.put o.dst v ∧ S w') → K ((a.put x y).put o.dst u) w' := fun u w' ⟨he, hS'⟩ => by
      have e : (a.put x y).put o.dst u = (a.put x y).put o.dst v := by
        rw [← Act.put_comm a u y h2, ← Act.put_comm a v y h2, he]
      rw [e]; exact hK w' hS'
    cases r with
    | ok n w' =>
      cases n <;> simp only [Oper.upon] at h0 ⊢
      case value u => exact key _ _ h0
      case skip => exact key _ _ h0
      case defer d =>
        exfalso
        have := congrArg (fun b : Act => b.defers.length) h0.1
        have hp : ∀ (b : Act) (t : Option Tmp) (u : Value), (b.put t u).defers = b.defers := fun b t u => by cases t <;> rfl
        simp [hp] at this
      case enter f args =>
        refine Calls.mono h0 fun e w'' he => ?_
        cases e with
        | returned u => exact key _ _ he
        | panicked c => exact he.elim
        | outgrown => exact he.elim fun _ h => h.elim fun _ h => h.elim
      case row row args => exact Rows.mono h0 fun u w'' he => key _ _ he
    | halt x w' =>
      cases x <;> simp only [Oper.upon] at h0
  · exact .inr h

/-- Whatever order is picked from here on, in every world that meets S. -/
def AnyS (P : Program) (md : Region.Mode) (ops : Array Oper) (Q : Exit → Act → World → Prop) (S : World → Prop) : Nat → Array Bool → Act → Prop
  | 0, listed, a => Region.ready md ops listed = [] ∧ ∀ w, S w → Q .normal a w
  | fuel + 1, listed, a =>
    (Region.ready md ops listed = [] → ∀ w, S w → Q .normal a w) ∧
    ∀ i ∈ Region.ready md ops listed, ∃ o v, ops[i]? = some o ∧ StepsIf P ops S o v a ∧ AnyS P md ops Q S fuel (listed.setIfInBounds i true) (a.put o.dst v)

theorem AnyS.any : ∀ (fuel : Nat) (listed : Array Bool) (a : Act), AnyS P md ops Q S fuel listed a → ∀ w, S w → wpAny P md ops Q fuel listed a w
  | 0, _, _, h, w, hS => ⟨h.1, h.2 w hS⟩
  | fuel + 1, listed, a, h, w, hS => ⟨fun h0 => h.1 h0 w hS, fun i hi => by
    obtain ⟨o, v, ho, hy, hr⟩ := h.2 i hi
    exact hy.wpOp ho hS fun w' hS' => AnyS.any fuel _ _ hr w' hS'⟩

theorem put_cancel {a : Act} {x y : Option Tmp} {v u u' : Value} (h : (a.put x v).put y u' = (a.put x v).put y u) : a.put y u' = a.put y u := by
  cases y with
  | none => rfl
  | some e =>
    by_cases he : e < a.tmps.size
    · have hs : e < (a.put x v).tmps.size := by cases x <;> simpa [Act.put] using he
      have h1 := congrArg (fun b : Act => b.tmps[e]?) h
      simp only [Act.put] at h1 hs
      cases x with
      | none =>
        simp only [Array.getElem?_setIfInBounds_self_of_lt he] at h1
        rw [Option.some.inj h1]
      | some d =>
        simp only [Array.getElem?_setIfInBounds_self_of_lt hs] at h1
        rw [Option.some.inj h1]
    · simp only [Act.put, Array.setIfInBounds_eq_of_size_le (Nat.le_of_not_lt he)]

theorem AnyS.first {i : Nat} {oi : Oper} {v : Value} (hi : ops[i]? = some oi) (hsel : ∀ (j : Nat) (o : Oper) cs b, ops[j]? = some o → o.op ≠ .select cs b) :
    ∀ (fuel : Nat) (listed : Array Bool) (a : Act),
      (∀ j oj, ops[j]? = some oj → j ≠ i → listed.getD j true = false → (∀ e ∈ oj.after, Region.binds md e = true → e.on ≠ i) → oi.apart ops oj = true) →
      i ∈ Region.ready md ops listed → StepsIf P ops S oi v a →
      AnyS P md ops Q S fuel (listed.setIfInBounds i true) (a.put oi.dst v) → AnyS P md ops Q S (fuel + 1) listed a := by
  intro fuel
  induction fuel with
  | zero =>
    intro listed a _ hr hy H
    refine ⟨fun h => (by rw [h] at hr; cases hr), fun j hj => ?_⟩
    by_cases hji : j = i
    · subst hji; exact ⟨oi, v, hi, hy, H⟩
    · have := ready_mono hj hji
      rw [H.1] at this
      cases this
  | succ fuel ih =>
    intro listed a hfree hr hy H
    refine ⟨fun h => (by rw [h] at hr; cases hr), fun j hj => ?_⟩
    by_cases hji : j = i
    · subst hji; exact ⟨oi, v, hi, hy, H⟩
    · obtain ⟨oj, u, hoj, hyj, hrest⟩ := H.2 j (ready_mono hj hji)
      obtain ⟨hjun, oj', hoj', hall⟩ := mem_ready.1 hj
      obtain rfl : oj = oj' := Option.some.inj (hoj.symm.trans hoj')
      have hnot : ∀ e ∈ oj.after, Region.binds md e = true → e.on ≠ i := fun e he hb heq => by
        have h1 := hall e he hb
        have h0 := (mem_ready.1 hr).1
        rw [heq] at h1
        rcases Nat.lt_or_ge i listed.size with h' | h'
        · simp [h'] at h0 h1; rw [h0] at h1; cases h1
        · simp [Array.getElem?_eq_none h'] at h1
      obtain ⟨h1, h2, h3⟩ := Oper.apart_spec (hfree j oj hoj hji hjun hnot)
      -- oj steps in a as well
      have hyj' : StepsIf P ops S oj u a := by
        have hw := wanted_put oj a oi.dst v h1
        unfold StepsIf at hyj ⊢
        rw [hw] at hyj
        rcases hyj with ⟨hw', hv⟩ | h
        · refine .inl ⟨hw', fun w hS K Q hK => ?_⟩
          have h0 := hv w hS (fun a' w' => a' = (a.put oi.dst v).put oj.dst u ∧ S w') (fun _ _ _ => False) (fun w' hS' => ⟨rfl, hS'⟩)
          unfold Oper.wp at *
          rw [execOp_put oj (fun cs b => hsel j oj cs b hoj) a oi.dst v h1] at h0
          generalize (execOp a.eval oj).run P w = r at *
          have key : ∀ u' w', ((a.put oi.dst v).put oj.dst u' = (a.put oi.dst v).put oj.dst u ∧ S w') → K (a.put oj.dst u') w' := fun u' w' ⟨he, hS'⟩ => by
            rw [put_cancel he]; exact hK w' hS'
          cases r with
          | ok n w' =>
            cases n <;> simp only [Oper.upon] at h0 ⊢
            case value u => exact key _ _ h0
            case skip => exact key _ _ h0
            case defer d =>
              exfalso
              have := congrArg (fun b : Act => b.defers.length) h0.1
              have hp : ∀ (b : Act) (t : Option Tmp) (u : Value), (b.put t u).defers = b.defers := fun b t u => by cases t <;> rfl
              simp [hp] at this
            case enter f args =>
              refine Calls.mono h0 fun e w'' he => ?_
              cases e with
              | returned u => exact key _ _ he
              | panicked c => exact he.elim
              | outgrown => exact he.elim fun _ h => h.elim fun _ h => h.elim
            case row row args => exact Rows.mono h0 fun u w'' he => key _ _ he
          | halt x w' =>
            cases x <;> simp only [Oper.upon] at h0
        · exact .inr h
      refine ⟨oj, u, hoj, hyj', ih _ _ ?_ (ready_mono hr (Ne.symm hji)) (hy.put (fun cs b => hsel i oi cs b hi) h3 (fun d hd => fun e => h2 d hd e)) ?_⟩
      · intro k ok hk hki hun hno
        refine hfree k ok hk hki ?_ hno
        by_cases hjk : j = k
        · subst hjk; exact hjun
        · rw [getD_set_ne true hjk] at hun; exact hun
      · rw [Array.setIfInBounds_comm _ _ hji, ← Act.put_comm a v u h2]
        exact hrest

/-- Take number i next: it may come up, and nobody who could come before it touches its temporaries. -/
theorem AnyS.take {i : Nat} {oi : Oper} {v : Value} {fuel : Nat} {listed : Array Bool} {a : Act} (hi : ops[i]? = some oi)
    (hs : Region.noSelect ops = true) (hf : Region.free md ops listed i = true) (hr : (Region.ready md ops listed).contains i = true) (hy : StepsIf P ops S oi v a)
    (h : AnyS P md ops Q S fuel (listed.setIfInBounds i true) (a.put oi.dst v)) : AnyS P md ops Q S (fuel + 1) listed a :=
  AnyS.first hi (Region.noSelect_spec hs) fuel listed a (Region.free_spec hi hf) (by simpa using hr) hy h
theorem AnyS.done {listed : Array Bool} {a : Act} (hr : Region.ready md ops listed = []) (h : ∀ w, S w → Q .normal a w) : ∀ fuel, AnyS P md ops Q S fuel listed a
  | 0 => ⟨hr, h⟩
  | _ + 1 => ⟨fun _ => h, by rw [hr]; simp⟩
/-- The beginning. -/
theorem region_steps {id : Nat} {a : Act} {w : World} (hm : P.follows .mixedOrders = true) (hS : S w.drew)
    (h : AnyS P .any ops Q S ops.size (Array.replicate ops.size false) a) : (Code.region id ops true).wp P Q a w :=
  wp_region_any hm (AnyS.any _ _ _ h _ hS)
/-- An operation that only yields. -/
theorem StepsIf.yield {o : Oper} {v : Value} {a : Act} (hw : Region.wanted o (yielded ops a.tmps) = true) (h : ∀ w, S w → (execOp a.eval o).run P w = .ok (.value v) w) : StepsIf P ops S o v a :=
  .inl ⟨hw, fun w hS K Q hK => by unfold Oper.wp; rw [h w hS]; exact hK w hS⟩
/-- A call of a Go function. -/
theorem StepsIf.call {o : Oper} {v : Value} {a : Act} {f : FuncId} {args : Array Value} (hw : Region.wanted o (yielded ops a.tmps) = true) (h : ∀ w, S w → (execOp a.eval o).run P w = .ok (.enter f args) w)
    (hc : ∀ w, S w → Calls P f args w fun e w' => e = .returned v ∧ S w') : StepsIf P ops S o v a :=
  .inl ⟨hw, fun w hS K Q hK => by
    unfold Oper.wp; rw [h w hS]
    refine Calls.mono (hc w hS) fun e w' he => ?_
    obtain ⟨rfl, hS'⟩ := he
    exact hK w' hS'⟩
/-- One that its guard passes over. -/
theorem StepsIf.no {o : Oper} {a : Act} (hw : Region.wanted o (yielded ops a.tmps) = false) : StepsIf P ops S o undef a := .inr ⟨hw, rfl⟩
/-- As 'take'; the new state is told by an equation. -/
theorem AnyS.next {i : Nat} {d : Option Tmp} {oi : Oper} {v : Value} {fuel : Nat} {listed : Array Bool} {a : Act} (hi : ops[i]? = some oi) (hd : oi.dst = d)
    (hs : Region.noSelect ops = true) (hf : Region.free md ops listed i = true) (hr : (Region.ready md ops listed).contains i = true) (hy : StepsIf P ops S oi v a)
    (h : ∀ a', a.put d v = a' → AnyS P md ops Q S fuel (listed.setIfInBounds i true) a') : AnyS P md ops Q S (fuel + 1) listed a :=
  AnyS.take hi hs hf hr hy (h _ (by rw [hd]))

/-- As 'next'; the value is found on the way. -/
theorem AnyS.stepE {i : Nat} {d : Option Tmp} {oi : Oper} {fuel : Nat} {listed : Array Bool} {a : Act} (hi : ops[i]? = some oi) (hd : oi.dst = d)
    (hs : Region.noSelect ops = true) (hf : Region.free md ops listed i = true) (hr : (Region.ready md ops listed).contains i = true)
    (h : ∃ v, StepsIf P ops S oi v a ∧ ∀ a', a.put d v = a' → AnyS P md ops Q S fuel (listed.setIfInBounds i true) a') : AnyS P md ops Q S (fuel + 1) listed a := by
  obtain ⟨v, hy, h⟩ := h
  exact AnyS.next hi hd hs hf hr hy h

/-! ### The same, where one last operation, which waits for all others, does what it likes (a store). -/
def AnyM (P : Program) (md : Region.Mode) (ops : Array Oper) (Q : Exit → Act → World → Prop) (S : World → Prop) (m : Nat) : Nat → Array Bool → Act → Prop
  | 0, listed, a => Region.ready md ops listed = [m] ∧ Region.ready md ops (listed.setIfInBounds m true) = [] ∧ ∀ w, S w → Go.wpOp P ops Q m (fun a' w' => Q .normal a' w') a w
  | fuel + 1, listed, a =>
    Region.ready md ops listed ≠ [] ∧ m ∉ Region.ready md ops listed ∧
    ∀ i ∈ Region.ready md ops listed, ∃ o v, ops[i]? = some o ∧ StepsIf P ops S o v a ∧ AnyM P md ops Q S m fuel (listed.setIfInBounds i true) (a.put o.dst v)

theorem AnyM.any {m : Nat} : ∀ (fuel : Nat) (listed : Array Bool) (a : Act), AnyM P md ops Q S m fuel listed a → ∀ w, S w → wpAny P md ops Q (fuel + 1) listed a w
  | 0, _, _, h, w, hS => ⟨fun h0 => (by rw [h.1] at h0; cases h0), fun i hi => by
    rw [h.1] at hi
    obtain rfl : i = m := by simpa using hi
    exact wpOp_mono (fun a' w' hq => ⟨h.2.1, hq⟩) (h.2.2 w hS)⟩
  | fuel + 1, listed, a, h, w, hS => ⟨fun h0 => absurd h0 h.1, fun i hi => by
    obtain ⟨o, v, ho, hy, hr⟩ := h.2.2 i hi
    exact hy.wpOp ho hS fun w' hS' => AnyM.any fuel _ _ hr w' hS'⟩

/-- oj steps in a as well as behind what oi has put. -/
theorem StepsIf.unput {oi oj : Oper} {v u : Value} {a : Act} (hsj : ∀ cs b, oj.op ≠ .select cs b) (h1 : ∀ d, oi.dst = some d → d ∉ oj.looksAt ops) (hyj : StepsIf P ops S oj u (a.put oi.dst v)) : StepsIf P ops S oj u a := by
  have hw := wanted_put oj a oi.dst v h1
  unfold StepsIf at hyj ⊢
  rw [hw] at hyj
  rcases hyj with ⟨hw', hv⟩ | h
  · refine .inl ⟨hw', fun w hS K Q hK => ?_⟩
    have h0 := hv w hS (fun a' w' => a' = (a.put oi.dst v).put oj.dst u ∧ S w') (fun _ _ _ => False) (fun w' hS' => ⟨rfl, hS'⟩)
    unfold Oper.wp at *
    rw [execOp_put oj hsj a oi.dst v h1] at h0
    generalize (execOp a.eval oj).run P w = r at *
    have key : ∀ u' w', ((a.put oi.dst v).put oj.dst u' = (a.put oi.dst v).put oj.dst u ∧ S w') → K (a.put oj.dst u') w' := fun u' w' ⟨he, hS'⟩ => by
      rw [put_cancel he]; exact hK w' hS'
    cases r with
    | ok n w' =>
      cases n <;> simp only [Oper.upon] at h0 ⊢
      case value u => exact key _ _ h0
      case skip => exact key _ _ h0
      case defer d =>
        exfalso
        have := congrArg (fun b : Act => b.defers.length) h0.1
        have hp : ∀ (b : Act) (t : Option Tmp) (u : Value), (b.put t u).defers = b.defers := fun b t u => by cases t <;> rfl
        simp [hp] at this
      case enter f args =>
        refine Calls.mono h0 fun e w'' he => ?_
        cases e with
        | returned u => exact key _ _ he
        | panicked c => exact he.elim
        | outgrown => exact he.elim fun _ h => h.elim fun _ h => h.elim
      case row row args => exact Rows.mono h0 fun u w'' he => key _ _ he
    | halt x w' =>
      cases x <;> simp only [Oper.upon] at h0
  · exact .inr h

theorem AnyM.first {m i : Nat} {oi om : Oper} {v : Value} (hi : ops[i]? = some oi) (hm : ops[m]? = some om) (hdep : ∃ e ∈ om.after, Region.binds md e = true ∧ e.on = i) (hsel : ∀ (j : Nat) (o : Oper) cs b, ops[j]? = some o → o.op ≠ .select cs b) :
    ∀ (fuel : Nat) (listed : Array Bool) (a : Act),
      (∀ j oj, ops[j]? = some oj → j ≠ i → listed.getD j true = false → (∀ e ∈ oj.after, Region.binds md e = true → e.on ≠ i) → oi.apart ops oj = true) →
      i ∈ Region.ready md ops listed → StepsIf P ops S oi v a →
      AnyM P md ops Q S m fuel (listed.setIfInBounds i true) (a.put oi.dst v) → AnyM P md ops Q S m (fuel + 1) listed a := by
  have hno : ∀ listed, i ∈ Region.ready md ops listed → m ∉ Region.ready md ops listed := fun listed hr hmr => by
    obtain ⟨_, o', ho', hall⟩ := mem_ready.1 hmr
    obtain rfl : om = o' := Option.some.inj (hm.symm.trans ho')
    obtain ⟨e, he, hb, rfl⟩ := hdep
    have h1 := hall e he hb
    have h0 := (mem_ready.1 hr).1
    rcases Nat.lt_or_ge e.on listed.size with h' | h'
    · simp [h'] at h0 h1; rw [h0] at h1; cases h1
    · simp [Array.getElem?_eq_none h'] at h1
  intro fuel
  induction fuel with
  | zero =>
    intro listed a _ hr hy H
    refine ⟨fun h => (by rw [h] at hr; cases hr), hno listed hr, fun j hj => ?_⟩
    by_cases hji : j = i
    · subst hji; exact ⟨oi, v, hi, hy, H⟩
    · have := ready_mono hj hji
      rw [H.1] at this
      obtain rfl : j = m := by simpa using this
      exact absurd hj (hno listed hr)
  | succ fuel ih =>
    intro listed a hfree hr hy H
    refine ⟨fun h => (by rw [h] at hr; cases hr), hno listed hr, fun j hj => ?_⟩
    by_cases hji : j = i
    · subst hji; exact ⟨oi, v, hi, hy, H⟩
    · obtain ⟨oj, u, hoj, hyj, hrest⟩ := H.2.2 j (ready_mono hj hji)
      obtain ⟨hjun, oj', hoj', hall⟩ := mem_ready.1 hj
      obtain rfl : oj = oj' := Option.some.inj (hoj.symm.trans hoj')
      have hnot : ∀ e ∈ oj.after, Region.binds md e = true → e.on ≠ i := fun e he hb heq => by
        have h1 := hall e he hb
        have h0 := (mem_ready.1 hr).1
        rw [heq] at h1
        rcases Nat.lt_or_ge i listed.size with h' | h'
        · simp [h'] at h0 h1; rw [h0] at h1; cases h1
        · simp [Array.getElem?_eq_none h'] at h1
      obtain ⟨h1, h2, h3⟩ := Oper.apart_spec (hfree j oj hoj hji hjun hnot)
      refine ⟨oj, u, hoj, StepsIf.unput (fun cs b => hsel j oj cs b hoj) h1 hyj, ih _ _ ?_ (ready_mono hr (Ne.symm hji)) (hy.put (fun cs b => hsel i oi cs b hi) h3 (fun d hd => fun e => h2 d hd e)) ?_⟩
      · intro k ok hk hki hun hno
        refine hfree k ok hk hki ?_ hno
        by_cases hjk : j = k
        · subst hjk; exact hjun
        · rw [getD_set_ne true hjk] at hun; exact hun
      · rw [Array.setIfInBounds_comm _ _ hji, ← Act.put_comm a v u h2]
        exact hrest

/-- Does operation m wait for operation i? -/
def waits (md : Region.Mode) (ops : Array Oper) (m i : Nat) : Bool := ((ops[m]?).map fun o => o.after.any fun e => Region.binds md e && e.on == i).getD false

theorem AnyM.next {m i : Nat} {d : Option Tmp} {oi : Oper} {v : Value} {fuel : Nat} {listed : Array Bool} {a : Act} (hi : ops[i]? = some oi) (hd : oi.dst = d) (hw : waits md ops m i = true)
    (hs : Region.noSelect ops = true) (hf : Region.free md ops listed i = true) (hr : (Region.ready md ops listed).contains i = true) (hy : StepsIf P ops S oi v a)
    (h : ∀ a', a.put d v = a' → AnyM P md ops Q S m fuel (listed.setIfInBounds i true) a') : AnyM P md ops Q S m (fuel + 1) listed a := by
  unfold waits at hw
  cases hm : ops[m]? with
  | none => rw [hm] at hw; cases hw
  | some om =>
    rw [hm] at hw
    simp only [Option.map_some, Option.getD_some, Array.any_eq_true', Bool.and_eq_true, beq_iff_eq] at hw
    exact AnyM.first hi hm hw (Region.noSelect_spec hs) fuel listed a (Region.free_spec hi hf) (by simpa using hr) hy (h _ (by rw [hd]))
theorem AnyM.stepE {m i : Nat} {d : Option Tmp} {oi : Oper} {fuel : Nat} {listed : Array Bool} {a : Act} (hi : ops[i]? = some oi) (hd : oi.dst = d) (hw : waits md ops m i = true)
    (hs : Region.noSelect ops = true) (hf : Region.free md ops listed i = true) (hr : (Region.ready md ops listed).contains i = true)
    (h : ∃ v, StepsIf P ops S oi v a ∧ ∀ a', a.put d v = a' → AnyM P md ops Q S m fuel (listed.setIfInBounds i true) a') : AnyM P md ops Q S m (fuel + 1) listed a := by
  obtain ⟨v, hy, h⟩ := h
  exact AnyM.next hi hd hw hs hf hr hy h
theorem AnyM.last {m : Nat} {om : Oper} {listed : Array Bool} {a : Act} (hm : ops[m]? = some om) (hr : Region.ready md ops listed = [m]) (hr2 : Region.ready md ops (listed.setIfInBounds m true) = [])
    (hw : Region.wanted om (yielded ops a.tmps) = true) (h : ∀ w, S w → ∀ K : Act → World → Prop, (∀ a' w', Q .normal a' w' → K a' w') → om.wp P a w K Q) : AnyM P md ops Q S m 0 listed a :=
  ⟨hr, hr2, fun w hS => by
    unfold Go.wpOp
    simp only [hm, hw, if_true]
    exact .inl (h w hS _ fun _ _ hq => hq)⟩
theorem region_stepsM {id m : Nat} {a : Act} {w : World} {n : Nat} (hn : ops.size = n + 1) (hm : P.follows .mixedOrders = true) (hS : S w.drew)
    (h : AnyM P .any ops Q S m n (Array.replicate ops.size false) a) : (Code.region id ops true).wp P Q a w :=
  wp_region_any hm (by rw [hn] at h ⊢; exact AnyM.any _ _ _ h _ hS)
end
end Go.Proofs.YtpaecjjelpjopaaGreatDoor

/- A region that draws its order, where each operation yields a value that is not told beforehand (new memory), but of which a pure fact U and a fact V on the world are known; all that an operation does is to make memory. Nothing of the program is used. -/
namespace Go.Proofs.YtpaecjjelpjopaaGreatDoor
open Go Go.RowKit

section
variable {P : Program} {ops : Array Oper} {Q : Exit → Act → World → Prop} {md : Region.Mode} {S : World → Prop} {U : Nat → List Value → Value → Prop} {V : Nat → Value → World → Prop}

def Deps (md : Region.Mode) (ops : Array Oper) (V : Nat → Value → World → Prop) (o : Oper) (a : Act) (w : World) : Prop :=
  ∀ e ∈ o.after, Region.binds md e = true → ∀ oj d, ops[e.on]? = some oj → oj.dst = some d → V e.on (a.tmps.getD d undef) w
/-- What the operations left that o waits for, in their order. -/
def depVals (md : Region.Mode) (ops : Array Oper) (o : Oper) (a : Act) : List Value :=
  (o.after.toList.filter (Region.binds md)).map fun e => match ops[e.on]? with | some oj => (match oj.dst with | some d => a.tmps.getD d undef | none => undef) | none => undef
def Facts (ops : Array Oper) (V : Nat → Value → World → Prop) (listed : Array Bool) (a : Act) (w : World) : Prop :=
  ∀ j oj d, listed.getD j true = true → ops[j]? = some oj → oj.dst = some d → V j (a.tmps.getD d undef) w
def StepsR (P : Program) (md : Region.Mode) (ops : Array Oper) (S : World → Prop) (U : Nat → List Value → Value → Prop) (V : Nat → Value → World → Prop) (i : Nat) (o : Oper) (a : Act) : Prop :=
  (Region.wanted o (yielded ops a.tmps) = true ∧ ∀ w, S w → Deps md ops V o a w →
    ∀ (K : Act → World → Prop) (Q : Exit → Act → World → Prop), (∀ v w', U i (depVals md ops o a) v → V i v w' → Below w.heap.size w w' → K (a.put o.dst v) w') → o.wp P a w K Q) ∨
  (Region.wanted o (yielded ops a.tmps) = false ∧ U i (depVals md ops o a) undef ∧ ∀ w, V i undef w)

def AnyR (P : Program) (md : Region.Mode) (ops : Array Oper) (Q : Exit → Act → World → Prop) (S : World → Prop) (U : Nat → List Value → Value → Prop) (V : Nat → Value → World → Prop) : Nat → Array Bool → Act → Prop
  | 0, listed, a => Region.ready md ops listed = [] ∧ ∀ w, S w → Facts ops V listed a w → Q .normal a w
  | fuel + 1, listed, a =>
    (Region.ready md ops listed = [] → ∀ w, S w → Facts ops V listed a w → Q .normal a w) ∧
    ∀ i ∈ Region.ready md ops listed, ∃ o, ops[i]? = some o ∧ (∃ v, U i (depVals md ops o a) v) ∧ StepsR P md ops S U V i o a ∧ ∀ v, U i (depVals md ops o a) v → AnyR P md ops Q S U V fuel (listed.setIfInBounds i true) (a.put o.dst v)

/-- All destinations lie in the frame, and no two are the same. -/
def fitB (ops : Array Oper) (n : Nat) : Bool :=
  (List.range ops.size).all fun i => (List.range ops.size).all fun j =>
    match ops[i]?, ops[j]? with
    | some oi, some oj => (match oi.dst, oj.dst with | some d, some e => decide (d < n) && (i == j || !(d == e)) | some d, none => decide (d < n) | _, _ => true)
    | _, _ => true
theorem fitB_lt {n : Nat} (h : fitB ops n = true) {i d : Nat} {o : Oper} (hi : ops[i]? = some o) (hd : o.dst = some d) : d < n := by
  have hlt := (Array.getElem?_eq_some_iff.1 hi).1
  have := List.all_eq_true.1 (List.all_eq_true.1 h i (List.mem_range.2 hlt)) i (List.mem_range.2 hlt)
  simp only [hi, hd, Bool.and_eq_true, decide_eq_true_eq] at this
  exact this.1
theorem fitB_ne {n : Nat} (h : fitB ops n = true) {i j d e : Nat} {o p : Oper} (hi : ops[i]? = some o) (hj : ops[j]? = some p) (hd : o.dst = some d) (he : p.dst = some e) (hij : i ≠ j) : d ≠ e := by
  have hlt := (Array.getElem?_eq_some_iff.1 hi).1
  have hlt' := (Array.getElem?_eq_some_iff.1 hj).1
  have := List.all_eq_true.1 (List.all_eq_true.1 h i (List.mem_range.2 hlt)) j (List.mem_range.2 hlt')
  simp only [hi, hj, hd, he, Bool.and_eq_true, Bool.or_eq_true, beq_iff_eq, Bool.not_eq_true', beq_eq_false_iff_ne] at this
  exact this.2.resolve_left hij

theorem put_size (a : Act) (x : Option Tmp) (v : Value) : (a.put x v).tmps.size = a.tmps.size := by cases x <;> simp [Act.put]
theorem put_getD_same (a : Act) (d : Nat) (v : Value) (h : d < a.tmps.size) : (a.put (some d) v).tmps.getD d undef = v := by
  simp [Act.put, Array.getD, h]
theorem put_getD_ne (a : Act) (x : Option Tmp) (d : Nat) (v : Value) (h : x ≠ some d) : (a.put x v).tmps.getD d undef = a.tmps.getD d undef := by
  cases x with
  | none => rfl
  | some e =>
    have : e ≠ d := fun he => h (by rw [he])
    simp only [Act.put, Array.getD_eq_getD_getElem?, Array.getElem?_setIfInBounds_ne this]

theorem AnyR.any (hS : ∀ w w', Below w.heap.size w w' → S w → S w') (hV : ∀ i v w w', Below w.heap.size w w' → V i v w → V i v w') :
    ∀ (fuel : Nat) (listed : Array Bool) (a : Act), fitB ops a.tmps.size = true → AnyR P md ops Q S U V fuel listed a → ∀ w, S w → Facts ops V listed a w → wpAny P md ops Q fuel listed a w
  | 0, _, _, _, h, w, hs, hf => ⟨h.1, h.2 w hs hf⟩
  | fuel + 1, listed, a, hfit, h, w, hs, hf => ⟨fun h0 => h.1 h0 w hs hf, fun i hi => by
    obtain ⟨o, ho, _, hst, hr⟩ := h.2 i hi
    obtain ⟨hun, o', ho', hall⟩ := mem_ready.1 hi
    obtain rfl : o = o' := Option.some.inj (ho.symm.trans ho')
    have key : ∀ v w', U i (depVals md ops o a) v → V i v w' → Below w.heap.size w w' → wpAny P md ops Q fuel (listed.setIfInBounds i true) (a.put o.dst v) w' := by
      intro v w' hu hv hb
      refine AnyR.any hS hV fuel _ _ (by rw [put_size]; exact hfit) (hr v hu) w' (hS _ _ hb hs) ?_
      intro j oj d hl hj hd
      by_cases hji : j = i
      · subst hji
        obtain rfl : o = oj := Option.some.inj (ho.symm.trans hj)
        rw [hd, put_getD_same _ _ _ (fitB_lt hfit ho hd)]
        exact hv
      · rw [getD_set_ne true (Ne.symm hji)] at hl
        rw [put_getD_ne _ _ _ _ (fun he => fitB_ne hfit hj ho hd he hji rfl)]
        exact hV _ _ _ _ hb (hf j oj d hl hj hd)
    unfold Go.wpOp
    simp only [ho]
    rcases hst with ⟨hw, hst⟩ | ⟨hw, hu, hv⟩
    · simp only [hw, if_true]
      refine .inl (hst w hs (fun e he hb oj d hj hd => hf e.on oj d ?_ hj hd) _ _ key)
      have h1 := hall e he hb
      rcases Nat.lt_or_ge e.on listed.size with h' | h'
      · simp [h'] at h1 ⊢; exact h1
      · simp [Array.getElem?_eq_none h']
    · simp only [hw, Bool.false_eq_true, if_false]
      exact key undef w hu (hv w) (Below.refl _ _)⟩

theorem depVals_put {k : Nat} {o ok : Oper} {a : Act} {y : Value} {n : Nat} (hfit : fitB ops n = true) (hk : ops[k]? = some ok) (hnot : ∀ e ∈ o.after, Region.binds md e = true → e.on ≠ k) :
    depVals md ops o (a.put ok.dst y) = depVals md ops o a := by
  unfold depVals
  refine List.map_congr_left fun e he => ?_
  have he' := List.mem_filter.1 he
  have hne := hnot e (by simpa using he'.1) he'.2
  cases hj : ops[e.on]? with
  | none => rfl
  | some oj =>
    cases hd : oj.dst with
    | none => simp [hd]
    | some d => simp only [hd]; exact put_getD_ne _ _ _ _ fun hx => fitB_ne hfit hj hk hd hx hne rfl
/-- What another operation puts elsewhere changes nothing of it. -/
theorem StepsR.moved {i k : Nat} {o ok : Oper} {a : Act} {y : Value} {n : Nat} (hfit : fitB ops n = true) (hi : ops[i]? = some o) (hk : ops[k]? = some ok) (hik : i ≠ k)
    (hs : ∀ cs b, o.op ≠ .select cs b) (h1 : ∀ d, ok.dst = some d → d ∉ o.looksAt ops) (hnot : ∀ e ∈ o.after, Region.binds md e = true → e.on ≠ k) :
    StepsR P md ops S U V i o a ↔ StepsR P md ops S U V i o (a.put ok.dst y) := by
  have h2 : ∀ d, o.dst = some d → ok.dst ≠ some d := fun d hd he => fitB_ne hfit hi hk hd he hik rfl
  have hdep : ∀ w, Deps md ops V o (a.put ok.dst y) w ↔ Deps md ops V o a w := by
    intro w
    have he : ∀ e ∈ o.after, Region.binds md e = true → ∀ oj d, ops[e.on]? = some oj → oj.dst = some d → (a.put ok.dst y).tmps.getD d undef = a.tmps.getD d undef := fun e he hb oj d hj hd =>
      put_getD_ne _ _ _ _ fun hx => fitB_ne hfit hj hk hd hx (hnot e he hb) rfl
    constructor
    · intro h e hm hb oj d hj hd; rw [← he e hm hb oj d hj hd]; exact h e hm hb oj d hj hd
    · intro h e hm hb oj d hj hd; rw [he e hm hb oj d hj hd]; exact h e hm hb oj d hj hd
  have hvals : depVals md ops o (a.put ok.dst y) = depVals md ops o a := depVals_put hfit hk hnot
  have hcan : ∀ u v, (a.put o.dst u = a.put o.dst v) ↔ ((a.put ok.dst y).put o.dst u = (a.put ok.dst y).put o.dst v) := by
    intro u v
    constructor
    · intro he; rw [← Act.put_comm a u y h2, ← Act.put_comm a v y h2, he]
    · intro he; exact put_cancel he
  unfold StepsR
  rw [wanted_put o a ok.dst y h1, hvals]
  generalize U i (depVals md ops o a) = U at *
  have conv : ∀ (b b' : Act), (∀ u v, b.put o.dst u = b.put o.dst v → b'.put o.dst u = b'.put o.dst v) → execOp b.eval o = execOp b'.eval o → ∀ w,
      (∀ (K : Act → World → Prop) (Q : Exit → Act → World → Prop), (∀ v w', U v → V i v w' → Below w.heap.size w w' → K (b.put o.dst v) w') → o.wp P b w K Q) →
      (∀ (K : Act → World → Prop) (Q : Exit → Act → World → Prop), (∀ v w', U v → V i v w' → Below w.heap.size w w' → K (b'.put o.dst v) w') → o.wp P b' w K Q) := by
    intro b b' hc hx w hv K Q hK
    have h0 := hv (fun a' w' => ∃ v, a' = b.put o.dst v ∧ U v ∧ V i v w' ∧ Below w.heap.size w w') (fun _ _ _ => False) (fun v w' h1 h2 h3 => ⟨v, rfl, h1, h2, h3⟩)
    unfold Oper.wp at *
    rw [← hx]
    generalize (execOp b.eval o).run P w = r at *
    have key : ∀ u w', (∃ v, b.put o.dst u = b.put o.dst v ∧ U v ∧ V i v w' ∧ Below w.heap.size w w') → K (b'.put o.dst u) w' := fun u w' ⟨v, he, h1, h2, h3⟩ => by
      rw [hc u v he]; exact hK v w' h1 h2 h3
    cases r with
    | ok n w' =>
      cases n <;> simp only [Oper.upon] at h0 ⊢
      case value u => exact key _ _ h0
      case skip => exact key _ _ h0
      case defer d =>
        exfalso
        obtain ⟨v, h0, _⟩ := h0
        have := congrArg (fun b : Act => b.defers.length) h0
        have hp : ∀ (b : Act) (t : Option Tmp) (u : Value), (b.put t u).defers = b.defers := fun b t u => by cases t <;> rfl
        simp [hp] at this
      case enter f args =>
        refine Calls.mono h0 fun e w'' he => ?_
        cases e with
        | returned u => exact key _ _ he
        | panicked c => exact he.elim
        | outgrown => exact he.elim fun _ h => h.elim fun _ h => h.elim
      case row row args => exact Rows.mono h0 fun u w'' he => key _ _ he
    | halt x w' =>
      cases x <;> simp only [Oper.upon] at h0
  have hx := execOp_put o hs a ok.dst y h1
  constructor
  · rintro (⟨hw, h⟩ | h)
    · exact .inl ⟨hw, fun w hS hD => conv a _ (fun u v => (hcan u v).1) hx.symm w (h w hS ((hdep w).1 hD))⟩
    · exact .inr h
  · rintro (⟨hw, h⟩ | h)
    · exact .inl ⟨hw, fun w hS hD => conv _ a (fun u v => (hcan u v).2) hx w (h w hS ((hdep w).2 hD))⟩
    · exact .inr h

theorem AnyR.first {i : Nat} {oi : Oper} (hi : ops[i]? = some oi) (hsel : ∀ (j : Nat) (o : Oper) cs b, ops[j]? = some o → o.op ≠ .select cs b) :
    ∀ (fuel : Nat) (listed : Array Bool) (a : Act), fitB ops a.tmps.size = true →
      (∀ j oj, ops[j]? = some oj → j ≠ i → listed.getD j true = false → (∀ e ∈ oj.after, Region.binds md e = true → e.on ≠ i) → oi.apart ops oj = true) →
      i ∈ Region.ready md ops listed → (∃ v, U i (depVals md ops oi a) v) → StepsR P md ops S U V i oi a →
      (∀ v, U i (depVals md ops oi a) v → AnyR P md ops Q S U V fuel (listed.setIfInBounds i true) (a.put oi.dst v)) → AnyR P md ops Q S U V (fuel + 1) listed a := by
  intro fuel
  induction fuel with
  | zero =>
    intro listed a _ _ hr hU hy H
    refine ⟨fun h => (by rw [h] at hr; cases hr), fun j hj => ?_⟩
    by_cases hji : j = i
    · subst hji; exact ⟨oi, hi, hU, hy, H⟩
    · obtain ⟨v, hv⟩ := hU
      have := ready_mono hj hji
      rw [(H v hv).1] at this
      cases this
  | succ fuel ih =>
    intro listed a hfit hfree hr hU hy H
    refine ⟨fun h => (by rw [h] at hr; cases hr), fun j hj => ?_⟩
    by_cases hji : j = i
    · subst hji; exact ⟨oi, hi, hU, hy, H⟩
    · obtain ⟨v0, hv0⟩ := hU
      obtain ⟨oj, hoj, hUj, hyj, hrest⟩ := (H v0 hv0).2 j (ready_mono hj hji)
      obtain ⟨hjun, oj', hoj', hall⟩ := mem_ready.1 hj
      obtain rfl : oj = oj' := Option.some.inj (hoj.symm.trans hoj')
      have hnl : ∀ k, k ∈ Region.ready md ops listed → ∀ ok, ops[k]? = some ok → ∀ m, m ∈ Region.ready md ops listed → ∀ e ∈ ok.after, Region.binds md e = true → e.on ≠ m := by
        intro k hk ok hok m hm e he hb heq
        obtain ⟨_, o', ho', hall'⟩ := mem_ready.1 hk
        obtain rfl : ok = o' := Option.some.inj (hok.symm.trans ho')
        have h1 := hall' e he hb
        have h0 := (mem_ready.1 hm).1
        rw [heq] at h1
        rcases Nat.lt_or_ge m listed.size with h' | h'
        · simp [h'] at h0 h1; rw [h0] at h1; cases h1
        · simp [Array.getElem?_eq_none h'] at h1
      have hnot := hnl j hj oj hoj i hr
      have hnot' := hnl i hr oi hi j hj
      obtain ⟨h1, h2, h3⟩ := Oper.apart_spec (hfree j oj hoj hji hjun hnot)
      have ej : ∀ v, depVals md ops oj (a.put oi.dst v) = depVals md ops oj a := fun v => depVals_put hfit hi hnot
      have ei : ∀ u, depVals md ops oi (a.put oj.dst u) = depVals md ops oi a := fun u => depVals_put hfit hoj hnot'
      rw [ej] at hUj
      have hyj' : StepsR P md ops S U V j oj a := (StepsR.moved hfit hoj hi hji (fun cs b => hsel j oj cs b hoj) h1 hnot).2 hyj
      refine ⟨oj, hoj, hUj, hyj', fun u hu => ?_⟩
      refine ih _ _ (by rw [put_size]; exact hfit) ?_ (ready_mono hr (Ne.symm hji)) ⟨v0, by rw [ei]; exact hv0⟩ ?_ ?_
      · intro k ok hk hki hun hno
        refine hfree k ok hk hki ?_ hno
        by_cases hjk : j = k
        · subst hjk; exact hjun
        · rw [getD_set_ne true hjk] at hun; exact hun
      · exact (StepsR.moved hfit hi hoj (Ne.symm hji) (fun cs b => hsel i oi cs b hi) h3 hnot').1 hy
      · intro v hv
        rw [ei] at hv
        rw [Array.setIfInBounds_comm _ _ hji, ← Act.put_comm a v u h2]
        obtain ⟨oj', hoj', _, _, hrest'⟩ := (H v hv).2 j (ready_mono hj hji)
        obtain rfl : oj = oj' := Option.some.inj (hoj.symm.trans hoj')
        exact hrest' u (by rw [ej]; exact hu)

/-- Take number i next. -/
theorem AnyR.step {i : Nat} {d : Option Tmp} {oi : Oper} {fuel : Nat} {listed : Array Bool} {a : Act} (hi : ops[i]? = some oi) (hd : oi.dst = d) (hfit : fitB ops a.tmps.size = true)
    (hs : Region.noSelect ops = true) (hf : Region.free md ops listed i = true) (hr : (Region.ready md ops listed).contains i = true)
    (hU : ∃ v, U i (depVals md ops oi a) v) (hy : StepsR P md ops S U V i oi a)
    (h : ∀ v, U i (depVals md ops oi a) v → ∀ a', a.put d v = a' → AnyR P md ops Q S U V fuel (listed.setIfInBounds i true) a') : AnyR P md ops Q S U V (fuel + 1) listed a :=
  AnyR.first hi (Region.noSelect_spec hs) fuel listed a hfit (Region.free_spec hi hf) (by simpa using hr) hU hy (fun v hv => h v hv _ (by rw [hd]))
theorem AnyR.done {listed : Array Bool} {a : Act} (hr : Region.ready md ops listed = []) (h : ∀ w, S w → Facts ops V listed a w → Q .normal a w) : ∀ fuel, AnyR P md ops Q S U V fuel listed a
  | 0 => ⟨hr, h⟩
  | _ + 1 => ⟨fun _ => h, by rw [hr]; simp⟩
theorem region_stepsR {id : Nat} {a : Act} {w : World} (hm : P.follows .mixedOrders = true) (hS : ∀ w w', Below w.heap.size w w' → S w → S w') (hV : ∀ i v w w', Below w.heap.size w w' → V i v w → V i v w') (hfit : fitB ops a.tmps.size = true) (h0 : S w.drew)
    (h : AnyR P .any ops Q S U V ops.size (Array.replicate ops.size false) a) : (Code.region id ops true).wp P Q a w :=
  wp_region_any hm (AnyR.any hS hV _ _ _ hfit h _ h0 (fun j oj d hl hj _ => by
    have hlt := (Array.getElem?_eq_some_iff.1 hj).1
    simp [Array.getD, hlt] at hl))
/-- An operation that only yields. -/
theorem StepsR.yield {i : Nat} {o : Oper} {a : Act} (v : Value) (hu : U i (depVals md ops o a) v) (hw : Region.wanted o (yielded ops a.tmps) = true)
    (h : ∀ w, S w → Deps md ops V o a w → (execOp a.eval o).run P w = .ok (.value v) w ∧ V i v w) : StepsR P md ops S U V i o a :=
  .inl ⟨hw, fun w hS hD K Q hK => by unfold Oper.wp; rw [(h w hS hD).1]; exact hK v w hu (h w hS hD).2 (Below.refl _ _)⟩
/-- A call of a Go function. -/
theorem StepsR.call {i : Nat} {o : Oper} {a : Act} {f : FuncId} {args : Array Value} (hw : Region.wanted o (yielded ops a.tmps) = true) (h : ∀ w, S w → (execOp a.eval o).run P w = .ok (.enter f args) w)
    (hc : ∀ w, S w → Deps md ops V o a w → Calls P f args w fun e w' => ∃ v, e = .returned v ∧ U i (depVals md ops o a) v ∧ V i v w' ∧ Below w.heap.size w w') : StepsR P md ops S U V i o a :=
  .inl ⟨hw, fun w hS hD K Q hK => by
    unfold Oper.wp; rw [h w hS]
    refine Calls.mono (hc w hS hD) fun e w' he => ?_
    obtain ⟨v, rfl, h1, h2, h3⟩ := he
    exact hK v w' h1 h2 h3⟩
theorem StepsR.no {i : Nat} {o : Oper} {a : Act} (hw : Region.wanted o (yielded ops a.tmps) = false) (hu : U i (depVals md ops o a) undef) (hv : ∀ w, V i undef w) : StepsR P md ops S U V i o a := .inr ⟨hw, hu, hv⟩
/-! ### The same, where one last operation, which waits for all others, does what it likes (a store). -/
def AnyRM (P : Program) (md : Region.Mode) (ops : Array Oper) (Q : Exit → Act → World → Prop) (S : World → Prop) (U : Nat → List Value → Value → Prop) (V : Nat → Value → World → Prop) (m : Nat) : Nat → Array Bool → Act → Prop
  | 0, listed, a => Region.ready md ops listed = [m] ∧ Region.ready md ops (listed.setIfInBounds m true) = [] ∧ ∀ w, S w → Facts ops V listed a w → Go.wpOp P ops Q m (fun a' w' => Q .normal a' w') a w
  | fuel + 1, listed, a =>
    Region.ready md ops listed ≠ [] ∧ m ∉ Region.ready md ops listed ∧
    ∀ i ∈ Region.ready md ops listed, ∃ o, ops[i]? = some o ∧ (∃ v, U i (depVals md ops o a) v) ∧ StepsR P md ops S U V i o a ∧ ∀ v, U i (depVals md ops o a) v → AnyRM P md ops Q S U V m fuel (listed.setIfInBounds i true) (a.put o.dst v)

theorem AnyRM.any {m : Nat} (hS : ∀ w w', Below w.heap.size w w' → S w → S w') (hV : ∀ i v w w', Below w.heap.size w w' → V i v w → V i v w') :
    ∀ (fuel : Nat) (listed : Array Bool) (a : Act), fitB ops a.tmps.size = true → AnyRM P md ops Q S U V m fuel listed a → ∀ w, S w → Facts ops V listed a w → wpAny P md ops Q (fuel + 1) listed a w
  | 0, _, _, _, h, w, hs, hf => ⟨fun h0 => (by rw [h.1] at h0; cases h0), fun i hi => by
    rw [h.1] at hi
    obtain rfl : i = m := by simpa using hi
    exact wpOp_mono (fun a' w' hq => ⟨h.2.1, hq⟩) (h.2.2 w hs hf)⟩
  | fuel + 1, listed, a, hfit, h, w, hs, hf => ⟨fun h0 => absurd h0 h.1, fun i hi => by
    obtain ⟨o, ho, _, hst, hr⟩ := h.2.2 i hi
    obtain ⟨hun, o', ho', hall⟩ := mem_ready.1 hi
    obtain rfl : o = o' := Option.some.inj (ho.symm.trans ho')
    have key : ∀ v w', U i (depVals md ops o a) v → V i v w' → Below w.heap.size w w' → wpAny P md ops Q (fuel + 1) (listed.setIfInBounds i true) (a.put o.dst v) w' := by
      intro v w' hu hv hb
      refine AnyRM.any hS hV fuel _ _ (by rw [put_size]; exact hfit) (hr v hu) w' (hS _ _ hb hs) ?_
      intro j oj d hl hj hd
      by_cases hji : j = i
      · subst hji
        obtain rfl : o = oj := Option.some.inj (ho.symm.trans hj)
        rw [hd, put_getD_same _ _ _ (fitB_lt hfit ho hd)]
        exact hv
      · rw [getD_set_ne true (Ne.symm hji)] at hl
        rw [put_getD_ne _ _ _ _ (fun he => fitB_ne hfit hj ho hd he hji rfl)]
        exact hV _ _ _ _ hb (hf j oj d hl hj hd)
    unfold Go.wpOp
    simp only [ho]
    rcases hst with ⟨hw, hst⟩ | ⟨hw, hu, hv⟩
    · simp only [hw, if_true]
      refine .inl (hst w hs (fun e he hb oj d hj hd => hf e.on oj d ?_ hj hd) _ _ key)
      have h1 := hall e he hb
      rcases Nat.lt_or_ge e.on listed.size with h' | h'
      · simp [h'] at h1 ⊢; exact h1
      · simp [Array.getElem?_eq_none h']
    · simp only [hw, Bool.false_eq_true, if_false]
      exact key undef w hu (hv w) (Below.refl _ _)⟩

theorem AnyRM.first {m i : Nat} {oi om : Oper} (hi : ops[i]? = some oi) (hm : ops[m]? = some om) (hdep : ∃ e ∈ om.after, Region.binds md e = true ∧ e.on = i) (hsel : ∀ (j : Nat) (o : Oper) cs b, ops[j]? = some o → o.op ≠ .select cs b) :
    ∀ (fuel : Nat) (listed : Array Bool) (a : Act), fitB ops a.tmps.size = true →
      (∀ j oj, ops[j]? = some oj → j ≠ i → listed.getD j true = false → (∀ e ∈ oj.after, Region.binds md e = true → e.on ≠ i) → oi.apart ops oj = true) →
      i ∈ Region.ready md ops listed → (∃ v, U i (depVals md ops oi a) v) → StepsR P md ops S U V i oi a →
      (∀ v, U i (depVals md ops oi a) v → AnyRM P md ops Q S U V m fuel (listed.setIfInBounds i true) (a.put oi.dst v)) → AnyRM P md ops Q S U V m (fuel + 1) listed a := by
  have hno : ∀ listed, i ∈ Region.ready md ops listed → m ∉ Region.ready md ops listed := fun listed hr hmr => by
    obtain ⟨_, o', ho', hall⟩ := mem_ready.1 hmr
    obtain rfl : om = o' := Option.some.inj (hm.symm.trans ho')
    obtain ⟨e, he, hb, rfl⟩ := hdep
    have h1 := hall e he hb
    have h0 := (mem_ready.1 hr).1
    rcases Nat.lt_or_ge e.on listed.size with h' | h'
    · simp [h'] at h0 h1; rw [h0] at h1; cases h1
    · simp [Array.getElem?_eq_none h'] at h1
  intro fuel
  induction fuel with
  | zero =>
    intro listed a _ _ hr hU hy H
    refine ⟨fun h => (by rw [h] at hr; cases hr), hno listed hr, fun j hj => ?_⟩
    by_cases hji : j = i
    · subst hji; exact ⟨oi, hi, hU, hy, H⟩
    · obtain ⟨v, hv⟩ := hU
      have := ready_mono hj hji
      rw [(H v hv).1] at this
      obtain rfl : j = m := by simpa using this
      exact absurd hj (hno listed hr)
  | succ fuel ih =>
    intro listed a hfit hfree hr hU hy H
    refine ⟨fun h => (by rw [h] at hr; cases hr), hno listed hr, fun j hj => ?_⟩
    by_cases hji : j = i
    · subst hji; exact ⟨oi, hi, hU, hy, H⟩
    · obtain ⟨v0, hv0⟩ := hU
      obtain ⟨oj, hoj, hUj, hyj, hrest⟩ := (H v0 hv0).2.2 j (ready_mono hj hji)
      obtain ⟨hjun, oj', hoj', hall⟩ := mem_ready.1 hj
      obtain rfl : oj = oj' := Option.some.inj (hoj.symm.trans hoj')
      have hnl : ∀ k, k ∈ Region.ready md ops listed → ∀ ok, ops[k]? = some ok → ∀ m, m ∈ Region.ready md ops listed → ∀ e ∈ ok.after, Region.binds md e = true → e.on ≠ m := by
        intro k hk ok hok m hm e he hb heq
        obtain ⟨_, o', ho', hall'⟩ := mem_ready.1 hk
        obtain rfl : ok = o' := Option.some.inj (hok.symm.trans ho')
        have h1 := hall' e he hb
        have h0 := (mem_ready.1 hm).1
        rw [heq] at h1
        rcases Nat.lt_or_ge m listed.size with h' | h'
        · simp [h'] at h0 h1; rw [h0] at h1; cases h1
        · simp [Array.getElem?_eq_none h'] at h1
      have hnot := hnl j hj oj hoj i hr
      have hnot' := hnl i hr oi hi j hj
      obtain ⟨h1, h2, h3⟩ := Oper.apart_spec (hfree j oj hoj hji hjun hnot)
      have ej : ∀ v, depVals md ops oj (a.put oi.dst v) = depVals md ops oj a := fun v => depVals_put hfit hi hnot
      have ei : ∀ u, depVals md ops oi (a.put oj.dst u) = depVals md ops oi a := fun u => depVals_put hfit hoj hnot'
      rw [ej] at hUj
      have hyj' : StepsR P md ops S U V j oj a := (StepsR.moved hfit hoj hi hji (fun cs b => hsel j oj cs b hoj) h1 hnot).2 hyj
      refine ⟨oj, hoj, hUj, hyj', fun u hu => ?_⟩
      refine ih _ _ (by rw [put_size]; exact hfit) ?_ (ready_mono hr (Ne.symm hji)) ⟨v0, by rw [ei]; exact hv0⟩ ?_ ?_
      · intro k ok hk hki hun hno
        refine hfree k ok hk hki ?_ hno
        by_cases hjk : j = k
        · subst hjk; exact hjun
        · rw [getD_set_ne true hjk] at hun; exact hun
      · exact (StepsR.moved hfit hi hoj (Ne.symm hji) (fun cs b => hsel i oi cs b hi) h3 hnot').1 hy
      · intro v hv
        rw [ei] at hv
        rw [Array.setIfInBounds_comm _ _ hji, ← Act.put_comm a v u h2]
        obtain ⟨oj', hoj', _, _, hrest'⟩ := (H v hv).2.2 j (ready_mono hj hji)
        obtain rfl : oj = oj' := Option.some.inj (hoj.symm.trans hoj')
        exact hrest' u (by rw [ej]; exact hu)

theorem AnyRM.step {m i : Nat} {d : Option Tmp} {oi : Oper} {fuel : Nat} {listed : Array Bool} {a : Act} (hi : ops[i]? = some oi) (hd : oi.dst = d) (hfit : fitB ops a.tmps.size = true) (hw : waits md ops m i = true)
    (hs : Region.noSelect ops = true) (hf : Region.free md ops listed i = true) (hr : (Region.ready md ops listed).contains i = true)
    (hU : ∃ v, U i (depVals md ops oi a) v) (hy : StepsR P md ops S U V i oi a)
    (h : ∀ v, U i (depVals md ops oi a) v → ∀ a', a.put d v = a' → AnyRM P md ops Q S U V m fuel (listed.setIfInBounds i true) a') : AnyRM P md ops Q S U V m (fuel + 1) listed a := by
  unfold waits at hw
  cases hm : ops[m]? with
  | none => rw [hm] at hw; cases hw
  | some om =>
    rw [hm] at hw
    simp only [Option.map_some, Option.getD_some, Array.any_eq_true', Bool.and_eq_true, beq_iff_eq] at hw
    exact AnyRM.first hi hm hw (Region.noSelect_spec hs) fuel listed a hfit (Region.free_spec hi hf) (by simpa using hr) hU hy (fun v hv => h v hv _ (by rw [hd]))
theorem AnyRM.last {m : Nat} {om : Oper} {listed : Array Bool} {a : Act} (hm : ops[m]? = some om) (hr : Region.ready md ops listed = [m]) (hr2 : Region.ready md ops (listed.setIfInBounds m true) = [])
    (hw : Region.wanted om (yielded ops a.tmps) = true) (h : ∀ w, S w → Facts ops V listed a w → ∀ K : Act → World → Prop, (∀ a' w', Q .normal a' w' → K a' w') → om.wp P a w K Q) : AnyRM P md ops Q S U V m 0 listed a :=
  ⟨hr, hr2, fun w hS hF => by
    unfold Go.wpOp
    simp only [hm, hw, if_true]
    exact .inl (h w hS hF _ fun _ _ hq => hq)⟩
theorem region_stepsRM {id m n : Nat} {a : Act} {w : World} (hn : ops.size = n + 1) (hm : P.follows .mixedOrders = true) (hS : ∀ w w', Below w.heap.size w w' → S w → S w') (hV : ∀ i v w w', Below w.heap.size w w' → V i v w → V i v w') (hfit : fitB ops a.tmps.size = true) (h0 : S w.drew)
    (h : AnyRM P .any ops Q S U V m n (Array.replicate ops.size false) a) : (Code.region id ops true).wp P Q a w :=
  wp_region_any hm (by
    have := AnyRM.any hS hV _ _ _ hfit h w.drew h0 (fun j oj d hl hj _ => by
      have hlt := (Array.getElem?_eq_some_iff.1 hj).1
      simp [Array.getD, hlt] at hl)
    rw [hn] at this ⊢
    exact this)
/-- An operation that makes memory, or only yields. -/
theorem StepsR.made {i : Nat} {o : Oper} {a : Act} (hw : Region.wanted o (yielded ops a.tmps) = true)
    (h : ∀ w, S w → Deps md ops V o a w → ∃ v w', (execOp a.eval o).run P w = .ok (.value v) w' ∧ U i (depVals md ops o a) v ∧ V i v w' ∧ Below w.heap.size w w') : StepsR P md ops S U V i o a :=
  .inl ⟨hw, fun w hS hD K Q hK => by obtain ⟨v, w', h1, h2, h3, h4⟩ := h w hS hD; unfold Oper.wp; rw [h1]; exact hK v w' h2 h3 h4⟩
end
end Go.Proofs.YtpaecjjelpjopaaGreatDoor

/- A whole block that is written at once. Nothing of the program is used. -/
namespace Go.Proofs.YtpaecjjelpjopaaGreatDoor
open Go.RowKit

theorem Blk.setRow {W : World} {B : Nat} {vs cs : Array Value} {t : TypeId} (h : Blk W B vs t) : Blk (W.setRow B cs) B cs t := by
  obtain ⟨hlt, hk⟩ := Array.getElem?_eq_some_iff.1 h
  show (W.heap.modify B _)[B]? = _
  rw [Array.getElem?_eq_getElem (by rw [Array.size_modify]; exact hlt), Array.getElem_modify_self, hk]
theorem run_storeAt_row {P : Program} (w : World) (g : Nat) (t ty : TypeId) (old cells : Array Value) (hg : w.heap[g]? = some (.cells old t (0, 0))) (hi : (P.info? ty).map (·.size) = some cells.size) (ho : old.size = cells.size) (h1 : cells.all (·.oneCell') = true) :
    (Instr.storeAt ty (.pointer (some ⟨g, 0, none⟩)) (.agg cells)).run P w = .ok () (w.setRow g cells) := by
  simp only [Instr.storeAt, Instr.sureAddr, Sem.run_bind, Sem.run_pure, Result.andThen]
  exact run_storeVar_row _ _ t ty old cells hg hi ho h1

theorem wp_store_row {P : Program} {o : Oper} {a : Act} {w w' : World} {K : Act → World → Prop} {Q : Exit → Act → World → Prop} {cs : Array Value} (ty : TypeId) (x y : Operand) (ho : o.op = .store ty x y)
    (g : Nat) (hx : a.eval x = .pointer (some ⟨g, 0, none⟩)) (hy : a.eval y = .agg cs) (hst : (Instr.storeAt ty (.pointer (some ⟨g, 0, none⟩)) (.agg cs)).run P w = .ok () w') (h : K (a.put o.dst undef) w') : o.wp P a w K Q := by
  unfold Oper.wp execOp
  simp only [ho, hx, hy, Sem.run_bind, Sem.run_pure, hst, Result.andThen_ok]
  exact h
theorem wpList_store_st {P : Program} {ops : Array Oper} {rest : List Oper} {o : Oper} {a : Act} {w w' : World} {Q : Exit → Act → World → Prop} {cs : Array Value} (hgd : o.guard = none) (ty : TypeId) (x y : Operand) (ho : o.op = .store ty x y)
    (g : Nat) (hx : a.eval x = .pointer (some ⟨g, 0, none⟩)) (hy : a.eval y = .agg cs) (hst : (Instr.storeAt ty (.pointer (some ⟨g, 0, none⟩)) (.agg cs)).run P w = .ok () w') (h : wpList P ops Q rest (a.put o.dst undef) w') : wpList P ops Q (o :: rest) a w :=
  wpList_plain hgd fun _ hK => wp_store_row ty x y ho g hx hy hst (hK _ _ h)
theorem below_row {n B : Nat} {W W' : World} (hb : Below n W W') (hB : n ≤ B) (cs : Array Value) : Below n W (W'.setRow B cs) := below_setRow hb hB cs
theorem Blk.drewN {W : World} {B : Nat} {vs : Array Value} {t : TypeId} (h : Blk W B vs t) : ∀ n, Blk (W.drewN n) B vs t
  | 0 => h
  | n + 1 => Blk.drewN (W := W.drew) h n
theorem below_drN {m : Nat} {w W : World} (h : Below m w W) (n : Nat) : Below m w (W.drewN n) := h.trans ⟨rfl, rfl, rfl, Nat.le_refl _, fun _ _ => rfl⟩
end Go.Proofs.YtpaecjjelpjopaaGreatDoor

/- '==' between arrays of whole numbers, of whatever length. -/
namespace Go.Proofs.YtpaecjjelpjopaaGreatDoor
open Go.RowKit Go

theorem part_cell {P : Program} {e : TypeId} (ha : ∀ w, (isAgg e).run P w = .ok false w) (k : IntKind) (l : List Int) (i : Nat) (hi : i < l.length) (w : World) :
    (part e (l.map (Value.int k)).toArray i).run P w = .ok (.int k l[i]) w := by
  simp only [part, Sem.run_bind, ha, Result.andThen_ok]
  simp [hi]

theorem eq_loop {P : Program} {e : TypeId} {k k' : IntKind} (he : P.underlying e = some (.int k')) (ha : ∀ w, (isAgg e).run P w = .ok false w) (d : Nat) (l l' : List Int) (n : Nat) (hl : l.length = n) (hl' : l'.length = n) (w : World) :
    ∀ m i, i + m = n → (((forIn (List.range' i m) ((none : Option Bool), ()) fun i (_ : Option Bool × Unit) => do
        let a ← part e (l.map (Value.int k)).toArray (i * 1)
        let b ← part e (l'.map (Value.int k)).toArray (i * 1)
        let r ← Op.equalIn (d + 1) e a b
        if (!r) = true then pure (ForInStep.done (some false, ())) else pure (ForInStep.yield (none, ()))) : Sem (Option Bool × Unit)).run P w) = .ok (if l.drop i = l'.drop i then none else some false, ()) w := by
  intro m
  induction m with
  | zero =>
    intro i hi
    rw [List.drop_of_length_le (by omega), List.drop_of_length_le (by omega)]
    simp
  | succ m ih =>
    intro i hi
    rw [List.range'_succ, List.forIn_cons]
    simp only [Sem.run_bind, Nat.mul_one, part_cell ha k l i (by omega), part_cell ha k l' i (by omega), Result.andThen_ok, run_equalIn_int w d e k k' _ _ he]
    have hd : (l.drop i = l'.drop i) ↔ (l[i] = l'[i] ∧ l.drop (i + 1) = l'.drop (i + 1)) := by
      rw [List.drop_eq_getElem_cons (by omega : i < l.length), List.drop_eq_getElem_cons (by omega : i < l'.length), List.cons.injEq]
    by_cases h : l[i] = l'[i]
    · have h2 := ih (i + 1) (by omega)
      have h3 : (l[i] == l'[i]) = true := by rw [h]; simp
      simp only [Nat.mul_one] at h2
      simp only [h3, Bool.not_true, Bool.false_eq_true, if_false, Sem.run_pure, Result.andThen_ok]
      have hd' : (l.drop i = l'.drop i) = (l.drop (i + 1) = l'.drop (i + 1)) := by rw [hd]; simp [h]
      simp only [hd']
      exact h2
    · have h3 : (l[i] == l'[i]) = false := by simp [h]
      have hd' : (l.drop i = l'.drop i) = False := by rw [hd]; simp [h]
      simp only [h3, hd', Bool.not_false, if_true, Sem.run_pure, Result.andThen_ok, if_false]

/-- '==' of two arrays of whole numbers. -/
theorem eqArr {P : Program} {t e : TypeId} {n : Nat} {k k' : IntKind} (ht : P.underlying t = some (.array n e)) (he : P.underlying e = some (.int k')) (hs : ∀ w, (sizeOf e).run P w = .ok 1 w) (ha : ∀ w, (isAgg e).run P w = .ok false w)
    (d : Nat) (l l' : List Int) (hl : l.length = n) (hl' : l'.length = n) (w : World) :
    (Op.equalIn (d + 2) t (.agg (l.map (Value.int k)).toArray) (.agg (l'.map (Value.int k)).toArray)).run P w = .ok (decide (l = l')) w := by
  rw [Op.equalIn]
  simp only [Sem.run_bind, run_underlying ht, Result.andThen_ok, hs]
  have h := eq_loop (k := k) he ha d l l' n hl hl' w n 0 (by omega)
  rw [Std.Legacy.Range.forIn_eq_forIn_range']
  simp only [Std.Legacy.Range.size, Nat.sub_zero, Nat.add_sub_cancel, Nat.div_one]
  rw [h]
  by_cases hll : l = l'
  · simp [hll]
  · simp [hll]
end Go.Proofs.YtpaecjjelpjopaaGreatDoor

/- '==' of sets, and of pairs of bytes. -/
namespace Go.Proofs.YtpaecjjelpjopaaGreatDoor
open Go.RowKit Go BS

theorem size64 (w : World) : (sizeOf 23).run Tryz.prog w = .ok 1 w := by kernel_rfl
theorem agg64 (w : World) : (isAgg 23).run Tryz.prog w = .ok false w := by kernel_rfl

set_option maxRecDepth 100000 in
theorem eq_set (a b : BitVec 256) (w : World) : (Op.equalIn 10000 25 (setV a) (setV b)).run Tryz.prog w = .ok (decide (a = b)) w := by
  have h := eqArr (k := .u64) Tryz.underlying25 Tryz.underlying23 size64 agg64 9998 [(wd a 0 : Int), wd a 1, wd a 2, wd a 3] [(wd b 0 : Int), wd b 1, wd b 2, wd b 3] rfl rfl w
  refine Eq.trans h ?_
  refine congrArg (fun x => Result.ok x w) ?_
  rw [decide_eq_decide]
  constructor
  · intro h
    simp only [List.cons.injEq, Int.ofNat_inj, and_true] at h
    exact ext_wd h.1 h.2.1 h.2.2.1 h.2.2.2
  · intro h; rw [h]
/-- The same set. -/
theorem eq_set_same (a : BitVec 256) (w : World) : (Op.equalIn 10000 25 (setV a) (setV a)).run Tryz.prog w = .ok true w := by
  rw [eq_set]; simp

theorem size8 (w : World) : (sizeOf 5).run Tryz.prog w = .ok 1 w := by kernel_rfl
theorem agg8 (w : World) : (isAgg 5).run Tryz.prog w = .ok false w := by kernel_rfl
theorem eq_pair_same (a b : Int) (w : World) : (Op.equalIn 10000 82 (.agg #[.int .u8 a, .int .u8 b]) (.agg #[.int .u8 a, .int .u8 b])).run Tryz.prog w = .ok true w := by
  have h := eqArr (k := .u8) Tryz.underlying82 Tryz.underlying5 size8 agg8 9998 [a, b] [a, b] rfl rfl w
  refine Eq.trans h ?_
  simp
end Go.Proofs.YtpaecjjelpjopaaGreatDoor

/- As Rs, where one operation in the middle, alone when it comes up, does what it likes (a store with assignments behind it). Nothing of the program is used. -/
namespace Go.Proofs.YtpaecjjelpjopaaGreatDoor
open Go

section
variable {P : Program} {ops : Array Oper} {Q : Exit → Act → World → Prop} {md : Region.Mode} {S : World → Prop}

def AnyT (P : Program) (md : Region.Mode) (ops : Array Oper) (S : World → Prop) (m : Nat) (R : Array Bool → Act → Prop) : Nat → Array Bool → Act → Prop
  | 0, listed, a => Region.ready md ops listed = [m] ∧ R listed a
  | fuel + 1, listed, a =>
    Region.ready md ops listed ≠ [] ∧ m ∉ Region.ready md ops listed ∧
    ∀ i ∈ Region.ready md ops listed, ∃ o v, ops[i]? = some o ∧ StepsIf P ops S o v a ∧ AnyT P md ops S m R fuel (listed.setIfInBounds i true) (a.put o.dst v)

theorem AnyT.any {m k : Nat} {R : Array Bool → Act → Prop} (hR : ∀ l a, R l a → ∀ w, S w → wpAny P md ops Q k l a w) :
    ∀ (fuel : Nat) (listed : Array Bool) (a : Act), AnyT P md ops S m R fuel listed a → ∀ w, S w → wpAny P md ops Q (k + fuel) listed a w
  | 0, _, _, h, w, hS => hR _ _ h.2 w hS
  | fuel + 1, listed, a, h, w, hS => ⟨fun h0 => absurd h0 h.1, fun i hi => by
    obtain ⟨o, v, ho, hy, hr⟩ := h.2.2 i hi
    exact hy.wpOp ho hS fun w' hS' => AnyT.any hR fuel _ _ hr w' hS'⟩

theorem AnyT.first {m i : Nat} {R : Array Bool → Act → Prop} {oi om : Oper} {v : Value} (hi : ops[i]? = some oi) (hm : ops[m]? = some om) (hdep : ∃ e ∈ om.after, Region.binds md e = true ∧ e.on = i) (hsel : ∀ (j : Nat) (o : Oper) cs b, ops[j]? = some o → o.op ≠ .select cs b) :
    ∀ (fuel : Nat) (listed : Array Bool) (a : Act),
      (∀ j oj, ops[j]? = some oj → j ≠ i → listed.getD j true = false → (∀ e ∈ oj.after, Region.binds md e = true → e.on ≠ i) → oi.apart ops oj = true) →
      i ∈ Region.ready md ops listed → StepsIf P ops S oi v a →
      AnyT P md ops S m R fuel (listed.setIfInBounds i true) (a.put oi.dst v) → AnyT P md ops S m R (fuel + 1) listed a := by
  have hno : ∀ listed, i ∈ Region.ready md ops listed → m ∉ Region.ready md ops listed := fun listed hr hmr => by
    obtain ⟨_, o', ho', hall⟩ := mem_ready.1 hmr
    obtain rfl : om = o' := Option.some.inj (hm.symm.trans ho')
    obtain ⟨e, he, hb, rfl⟩ := hdep
    have h1 := hall e he hb
    have h0 := (mem_ready.1 hr).1
    rcases Nat.lt_or_ge e.on listed.size with h' | h'
    · simp [h'] at h0 h1; rw [h0] at h1; cases h1
    · simp [Array.getElem?_eq_none h'] at h1
  intro fuel
  induction fuel with
  | zero =>
    intro listed a _ hr hy H
    refine ⟨fun h => (by rw [h] at hr; cases hr), hno listed hr, fun j hj => ?_⟩
    by_cases hji : j = i
    · subst hji; exact ⟨oi, v, hi, hy, H⟩
    · have := ready_mono hj hji
      rw [H.1] at this
      obtain rfl : j = m := by simpa using this
      exact absurd hj (hno listed hr)
  | succ fuel ih =>
    intro listed a hfree hr hy H
    refine ⟨fun h => (by rw [h] at hr; cases hr), hno listed hr, fun j hj => ?_⟩
    by_cases hji : j = i
    · subst hji; exact ⟨oi, v, hi, hy, H⟩
    · obtain ⟨oj, u, hoj, hyj, hrest⟩ := H.2.2 j (ready_mono hj hji)
      obtain ⟨hjun, oj', hoj', hall⟩ := mem_ready.1 hj
      obtain rfl : oj = oj' := Option.some.inj (hoj.symm.trans hoj')
      have hnot : ∀ e ∈ oj.after, Region.binds md e = true → e.on ≠ i := fun e he hb heq => by
        have h1 := hall e he hb
        have h0 := (mem_ready.1 hr).1
        rw [heq] at h1
        rcases Nat.lt_or_ge i listed.size with h' | h'
        · simp [h'] at h0 h1; rw [h0] at h1; cases h1
        · simp [Array.getElem?_eq_none h'] at h1
      obtain ⟨h1, h2, h3⟩ := Oper.apart_spec (hfree j oj hoj hji hjun hnot)
      refine ⟨oj, u, hoj, StepsIf.unput (fun cs b => hsel j oj cs b hoj) h1 hyj, ih _ _ ?_ (ready_mono hr (Ne.symm hji)) (hy.put (fun cs b => hsel i oi cs b hi) h3 (fun d hd => fun e => h2 d hd e)) ?_⟩
      · intro k ok hk hki hun hno
        refine hfree k ok hk hki ?_ hno
        by_cases hjk : j = k
        · subst hjk; exact hjun
        · rw [getD_set_ne true hjk] at hun; exact hun
      · rw [Array.setIfInBounds_comm _ _ hji, ← Act.put_comm a v u h2]
        exact hrest

theorem AnyT.next {m i : Nat} {R : Array Bool → Act → Prop} {d : Option Tmp} {oi : Oper} {v : Value} {fuel : Nat} {listed : Array Bool} {a : Act} (hi : ops[i]? = some oi) (hd : oi.dst = d) (hw : waits md ops m i = true)
    (hs : Region.noSelect ops = true) (hf : Region.free md ops listed i = true) (hr : (Region.ready md ops listed).contains i = true) (hy : StepsIf P ops S oi v a)
    (h : ∀ a', a.put d v = a' → AnyT P md ops S m R fuel (listed.setIfInBounds i true) a') : AnyT P md ops S m R (fuel + 1) listed a := by
  unfold waits at hw
  cases hm : ops[m]? with
  | none => rw [hm] at hw; cases hw
  | some om =>
    rw [hm] at hw
    simp only [Option.map_some, Option.getD_some, Array.any_eq_true', Bool.and_eq_true, beq_iff_eq] at hw
    exact AnyT.first hi hm hw (Region.noSelect_spec hs) fuel listed a (Region.free_spec hi hf) (by simpa using hr) hy (h _ (by rw [hd]))
theorem AnyT.stepE {m i : Nat} {R : Array Bool → Act → Prop} {d : Option Tmp} {oi : Oper} {fuel : Nat} {listed : Array Bool} {a : Act} (hi : ops[i]? = some oi) (hd : oi.dst = d) (hw : waits md ops m i = true)
    (hs : Region.noSelect ops = true) (hf : Region.free md ops listed i = true) (hr : (Region.ready md ops listed).contains i = true)
    (h : ∃ v, StepsIf P ops S oi v a ∧ ∀ a', a.put d v = a' → AnyT P md ops S m R fuel (listed.setIfInBounds i true) a') : AnyT P md ops S m R (fuel + 1) listed a := by
  obtain ⟨v, hy, h⟩ := h
  exact AnyT.next hi hd hw hs hf hr hy h
/-- The one in the middle: what it leads to goes on. -/
theorem AnyT.mid {m k : Nat} {om : Oper} {listed : Array Bool} {a : Act} (hm : ops[m]? = some om) (hr : Region.ready md ops listed = [m])
    (hw : Region.wanted om (yielded ops a.tmps) = true) (h : ∀ w, S w → ∀ K : Act → World → Prop, (∀ a' w', wpAny P md ops Q k (listed.setIfInBounds m true) a' w' → K a' w') → om.wp P a w K Q) :
    AnyT P md ops S m (fun l a => ∀ w, S w → wpAny P md ops Q (k + 1) l a w) 0 listed a :=
  ⟨hr, fun w hS => ⟨fun h0 => (by rw [hr] at h0; cases h0), fun i hi => by
    rw [hr] at hi
    obtain rfl : i = m := by simpa using hi
    unfold Go.wpOp
    simp only [hm, hw, if_true]
    exact .inl (h w hS _ fun _ _ hq => hq)⟩⟩
theorem region_stepsT {id m k n : Nat} {a : Act} {w : World} (hn : ops.size = k + 1 + n) (hm : P.follows .mixedOrders = true) (hS : S w.drew)
    (h : AnyT P .any ops S m (fun l a => ∀ w, S w → wpAny P .any ops Q (k + 1) l a w) n (Array.replicate ops.size false) a) : (Code.region id ops true).wp P Q a w :=
  wp_region_any hm (by rw [hn] at h ⊢; exact AnyT.any (fun _ _ h => h) _ _ _ h _ hS)
/-- Behind the one in the middle: one assignment more, the last. -/
theorem any_assign {i : Nat} {oi : Oper} {v : Value} {listed : Array Bool} {a : Act} {w : World} (hi : ops[i]? = some oi) (hr : Region.ready md ops listed = [i]) (hr2 : Region.ready md ops (listed.setIfInBounds i true) = [])
    (hw : Region.wanted oi (yielded ops a.tmps) = true) (hx : (execOp a.eval oi).run P w = .ok (.value v) w) (h : Q .normal (a.put oi.dst v) w) : wpAny P md ops Q 1 listed a w :=
  ⟨fun h0 => (by rw [hr] at h0; cases h0), fun j hj => by
    rw [hr] at hj
    obtain rfl : j = i := by simpa using hj
    unfold Go.wpOp
    simp only [hi, hw, if_true]
    refine .inl ?_
    unfold Oper.wp
    rw [hx]
    exact ⟨hr2, h⟩⟩
end
end Go.Proofs.YtpaecjjelpjopaaGreatDoor

/- As Rs, where one operation (number m: a store) leads from worlds of a kind S0 to worlds of a kind S1; all others keep the kind. Those that the store need not wait for step in both. Nothing of the program is used. -/
namespace Go.Proofs.YtpaecjjelpjopaaGreatDoor
open Go

section
variable {P : Program} {ops : Array Oper} {Q : Exit → Act → World → Prop} {md : Region.Mode} {S S' S0 S1 : World → Prop}

def StepsL (P : Program) (ops : Array Oper) (S S' : World → Prop) (o : Oper) (v : Value) (a : Act) : Prop :=
  (Region.wanted o (yielded ops a.tmps) = true ∧ ∀ w, S w → ∀ (K : Act → World → Prop) (Q : Exit → Act → World → Prop), (∀ w', S' w' → K (a.put o.dst v) w') → o.wp P a w K Q) ∨
  (Region.wanted o (yielded ops a.tmps) = false ∧ v = undef ∧ ∀ w, S w → S' w)

theorem StepsIf.toL {o : Oper} {v : Value} {a : Act} (h : StepsIf P ops S o v a) : StepsL P ops S S o v a := by
  rcases h with h | h
  · exact .inl h
  · exact .inr ⟨h.1, h.2, fun _ h => h⟩

theorem StepsL.wpOp {i : Nat} {o : Oper} {v : Value} {a : Act} (hi : ops[i]? = some o) (hy : StepsL P ops S S' o v a)
    {K : Act → World → Prop} {w : World} (hS : S w) (h : ∀ w', S' w' → K (a.put o.dst v) w') : wpOp P ops Q i K a w := by
  unfold Go.wpOp
  simp only [hi]
  rcases hy with ⟨hw, hv⟩ | ⟨hw, rfl, hk⟩
  · simp only [hw, if_true]; exact .inl (hv w hS K Q h)
  · simp only [hw, Bool.false_eq_true, if_false]; exact h w (hk w hS)

theorem StepsL.unput {oi oj : Oper} {v u : Value} {a : Act} (hsj : ∀ cs b, oj.op ≠ .select cs b) (h1 : ∀ d, oi.dst = some d → d ∉ oj.looksAt ops) (hyj : StepsL P ops S S' oj u (a.put oi.dst v)) : StepsL P ops S S' oj u a := by
  have hw := wanted_put oj a oi.dst v h1
  unfold StepsL at hyj ⊢
  rw [hw] at hyj
  rcases hyj with ⟨hw', hv⟩ | h
  · refine .inl ⟨hw', fun w hS K Q hK => ?_⟩
    have h0 := hv w hS (fun a' w' => a' = (a.put oi.dst v).put oj.dst u ∧ S' w') (fun _ _ _ => False) (fun w' hS' => ⟨rfl, hS'⟩)
    unfold Oper.wp at *
    rw [execOp_put oj hsj a oi.dst v h1] at h0
    generalize (execOp a.eval oj).run P w = r at *
    have key : ∀ u' w', ((a.put oi.dst v).put oj.dst u' = (a.put oi.dst v).put oj.dst u ∧ S' w') → K (a.put oj.dst u') w' := fun u' w' ⟨he, hS'⟩ => by
      rw [put_cancel he]; exact hK w' hS'
    cases r with
    | ok n w' =>
      cases n <;> simp only [Oper.upon] at h0 ⊢
      case value u => exact key _ _ h0
      case skip => exact key _ _ h0
      case defer d =>
        exfalso
        have := congrArg (fun b : Act => b.defers.length) h0.1
        have hp : ∀ (b : Act) (t : Option Tmp) (u : Value), (b.put t u).defers = b.defers := fun b t u => by cases t <;> rfl
        simp [hp] at this
      case enter f args =>
        refine Calls.mono h0 fun e w'' he => ?_
        cases e with
        | returned u => exact key _ _ he
        | panicked c => exact he.elim
        | outgrown => exact he.elim fun _ h => h.elim fun _ h => h.elim
      case row row args => exact Rows.mono h0 fun u w'' he => key _ _ he
    | halt x w' =>
      cases x <;> simp only [Oper.upon] at h0
  · exact .inr h

/-- What kind the worlds are of: has operation m come up? -/
def kindL (S0 S1 : World → Prop) (m : Nat) (listed : Array Bool) : World → Prop := if listed.getD m true = true then S1 else S0
theorem kindL_set {m i : Nat} {listed : Array Bool} (h : i ≠ m) : kindL S0 S1 m (listed.setIfInBounds i true) = kindL S0 S1 m listed := by
  unfold kindL; rw [getD_set_ne true h]

def AnyL (P : Program) (md : Region.Mode) (ops : Array Oper) (Q : Exit → Act → World → Prop) (S0 S1 : World → Prop) (m : Nat) : Nat → Array Bool → Act → Prop
  | 0, listed, a => Region.ready md ops listed = [] ∧ ∀ w, kindL S0 S1 m listed w → Q .normal a w
  | fuel + 1, listed, a =>
    (Region.ready md ops listed = [] → ∀ w, kindL S0 S1 m listed w → Q .normal a w) ∧
    ∀ i ∈ Region.ready md ops listed, ∃ o v, ops[i]? = some o ∧ StepsL P ops (kindL S0 S1 m listed) (kindL S0 S1 m (listed.setIfInBounds i true)) o v a ∧ AnyL P md ops Q S0 S1 m fuel (listed.setIfInBounds i true) (a.put o.dst v)

theorem AnyL.any {m : Nat} : ∀ (fuel : Nat) (listed : Array Bool) (a : Act), AnyL P md ops Q S0 S1 m fuel listed a → ∀ w, kindL S0 S1 m listed w → wpAny P md ops Q fuel listed a w
  | 0, _, _, h, w, hS => ⟨h.1, h.2 w hS⟩
  | fuel + 1, listed, a, h, w, hS => ⟨fun h0 => h.1 h0 w hS, fun i hi => by
    obtain ⟨o, v, ho, hy, hr⟩ := h.2 i hi
    exact hy.wpOp ho hS fun w' hS' => AnyL.any fuel _ _ hr w' hS'⟩

theorem AnyL.first {m i : Nat} {oi om : Oper} {v : Value} (him : i ≠ m) (hi : ops[i]? = some oi) (hm : ops[m]? = some om) (hsel : ∀ (j : Nat) (o : Oper) cs b, ops[j]? = some o → o.op ≠ .select cs b) :
    ∀ (fuel : Nat) (listed : Array Bool) (a : Act),
      (∀ j oj, ops[j]? = some oj → j ≠ i → listed.getD j true = false → (∀ e ∈ oj.after, Region.binds md e = true → e.on ≠ i) → oi.apart ops oj = true) →
      i ∈ Region.ready md ops listed → (listed.getD m true = false → StepsIf P ops S0 oi v a) → ((listed.getD m true = false ∧ ∃ e ∈ om.after, Region.binds md e = true ∧ e.on = i) ∨ StepsIf P ops S1 oi v a) →
      AnyL P md ops Q S0 S1 m fuel (listed.setIfInBounds i true) (a.put oi.dst v) → AnyL P md ops Q S0 S1 m (fuel + 1) listed a := by
  have hno : ∀ listed, i ∈ Region.ready md ops listed → (∃ e ∈ om.after, Region.binds md e = true ∧ e.on = i) → m ∉ Region.ready md ops listed := fun listed hr hdep hmr => by
    obtain ⟨_, o', ho', hall⟩ := mem_ready.1 hmr
    obtain rfl : om = o' := Option.some.inj (hm.symm.trans ho')
    obtain ⟨e, he, hb, rfl⟩ := hdep
    have h1 := hall e he hb
    have h0 := (mem_ready.1 hr).1
    rcases Nat.lt_or_ge e.on listed.size with h' | h'
    · simp [h'] at h0 h1; rw [h0] at h1; cases h1
    · simp [Array.getElem?_eq_none h'] at h1
  have step : ∀ (listed : Array Bool) (a : Act), (listed.getD m true = false → StepsIf P ops S0 oi v a) → ((listed.getD m true = false ∧ ∃ e ∈ om.after, Region.binds md e = true ∧ e.on = i) ∨ StepsIf P ops S1 oi v a) →
      StepsL P ops (kindL S0 S1 m listed) (kindL S0 S1 m (listed.setIfInBounds i true)) oi v a := fun listed a hy0 hy1 => by
    rw [kindL_set him]
    unfold kindL
    cases hb : listed.getD m true with
    | false => rw [if_neg (by decide)]; exact (hy0 hb).toL
    | true =>
      rw [if_pos rfl]
      rcases hy1 with ⟨h, _⟩ | h
      · rw [hb] at h; cases h
      · exact h.toL
  intro fuel
  induction fuel with
  | zero =>
    intro listed a _ hr hy0 hy1 H
    refine ⟨fun h => (by rw [h] at hr; cases hr), fun j hj => ?_⟩
    by_cases hji : j = i
    · subst hji; exact ⟨oi, v, hi, step listed a hy0 hy1, H⟩
    · have := ready_mono hj hji
      rw [H.1] at this
      cases this
  | succ fuel ih =>
    intro listed a hfree hr hy0 hy1 H
    refine ⟨fun h => (by rw [h] at hr; cases hr), fun j hj => ?_⟩
    by_cases hji : j = i
    · subst hji; exact ⟨oi, v, hi, step listed a hy0 hy1, H⟩
    · obtain ⟨oj, u, hoj, hyj, hrest⟩ := H.2 j (ready_mono hj hji)
      obtain ⟨hjun, oj', hoj', hall⟩ := mem_ready.1 hj
      obtain rfl : oj = oj' := Option.some.inj (hoj.symm.trans hoj')
      have hnot : ∀ e ∈ oj.after, Region.binds md e = true → e.on ≠ i := fun e he hb heq => by
        have h1 := hall e he hb
        have h0 := (mem_ready.1 hr).1
        rw [heq] at h1
        rcases Nat.lt_or_ge i listed.size with h' | h'
        · simp [h'] at h0 h1; rw [h0] at h1; cases h1
        · simp [Array.getElem?_eq_none h'] at h1
      obtain ⟨h1, h2, h3⟩ := Oper.apart_spec (hfree j oj hoj hji hjun hnot)
      rw [kindL_set him, Array.setIfInBounds_comm _ _ (Ne.symm hji), kindL_set him] at hyj
      have hput : ∀ {T : World → Prop}, StepsIf P ops T oi v a → StepsIf P ops T oi v (a.put oj.dst u) := fun h => h.put (fun cs b => hsel i oi cs b hi) h3 (fun d hd => fun e => h2 d hd e)
      refine ⟨oj, u, hoj, StepsL.unput (fun cs b => hsel j oj cs b hoj) h1 hyj, ih _ _ ?_ (ready_mono hr (Ne.symm hji)) ?_ ?_ ?_⟩
      · intro k ok hk hki hun hno
        refine hfree k ok hk hki ?_ hno
        by_cases hjk : j = k
        · subst hjk; exact hjun
        · rw [getD_set_ne true hjk] at hun; exact hun
      · intro hun
        by_cases hjm : j = m
        · subst hjm
          exact hput (hy0 hjun)
        · rw [getD_set_ne true hjm] at hun; exact hput (hy0 hun)
      · rcases hy1 with ⟨hf, hd⟩ | h
        · have hjm : j ≠ m := fun e => hno listed hr hd (by rw [← e]; exact hj)
          exact .inl ⟨by rw [getD_set_ne true hjm]; exact hf, hd⟩
        · exact .inr (hput h)
      · rw [Array.setIfInBounds_comm _ _ hji, ← Act.put_comm a v u h2]
        exact hrest

/-- Take number i, for which the store waits. -/
theorem AnyL.next {m i : Nat} {d : Option Tmp} {oi : Oper} {v : Value} {fuel : Nat} {listed : Array Bool} {a : Act} (hi : ops[i]? = some oi) (hd : oi.dst = d) (hw : (waits md ops m i && !listed.getD m true && !(i == m)) = true)
    (hs : Region.noSelect ops = true) (hf : Region.free md ops listed i = true) (hr : (Region.ready md ops listed).contains i = true) (hy : StepsIf P ops S0 oi v a)
    (h : ∀ a', a.put d v = a' → AnyL P md ops Q S0 S1 m fuel (listed.setIfInBounds i true) a') : AnyL P md ops Q S0 S1 m (fuel + 1) listed a := by
  rw [Bool.and_eq_true, Bool.and_eq_true] at hw
  obtain ⟨⟨hw, hl⟩, him⟩ := hw
  have him : i ≠ m := by simpa using him
  have hl : listed.getD m true = false := by simpa using hl
  unfold waits at hw
  cases hm : ops[m]? with
  | none => rw [hm] at hw; cases hw
  | some om =>
    rw [hm] at hw
    simp only [Option.map_some, Option.getD_some, Array.any_eq_true', Bool.and_eq_true, beq_iff_eq] at hw
    exact AnyL.first him hi hm (Region.noSelect_spec hs) fuel listed a (Region.free_spec hi hf) (by simpa using hr) (fun _ => hy) (.inl ⟨hl, hw⟩) (h _ (by rw [hd]))
/-- Take number i, for which it doesn't, ahead of the store. -/
theorem AnyL.both {m i : Nat} {d : Option Tmp} {oi : Oper} {v : Value} {fuel : Nat} {listed : Array Bool} {a : Act} (hi : ops[i]? = some oi) (hd : oi.dst = d) (hw : (decide (m < ops.size) && !(i == m)) = true)
    (hs : Region.noSelect ops = true) (hf : Region.free md ops listed i = true) (hr : (Region.ready md ops listed).contains i = true) (hy0 : StepsIf P ops S0 oi v a) (hy1 : StepsIf P ops S1 oi v a)
    (h : ∀ a', a.put d v = a' → AnyL P md ops Q S0 S1 m fuel (listed.setIfInBounds i true) a') : AnyL P md ops Q S0 S1 m (fuel + 1) listed a := by
  rw [Bool.and_eq_true] at hw
  obtain ⟨hw, him⟩ := hw
  have him : i ≠ m := by simpa using him
  have hw : m < ops.size := of_decide_eq_true hw
  exact AnyL.first him hi (Array.getElem?_eq_getElem hw) (Region.noSelect_spec hs) fuel listed a (Region.free_spec hi hf) (by simpa using hr) (fun _ => hy0) (.inr hy1) (h _ (by rw [hd]))
/-- Behind the store. -/
theorem AnyL.after {m i : Nat} {d : Option Tmp} {oi : Oper} {v : Value} {fuel : Nat} {listed : Array Bool} {a : Act} (hi : ops[i]? = some oi) (hd : oi.dst = d) (hw : (decide (m < ops.size) && listed.getD m true && !(i == m)) = true)
    (hs : Region.noSelect ops = true) (hf : Region.free md ops listed i = true) (hr : (Region.ready md ops listed).contains i = true) (hy : StepsIf P ops S1 oi v a)
    (h : ∀ a', a.put d v = a' → AnyL P md ops Q S0 S1 m fuel (listed.setIfInBounds i true) a') : AnyL P md ops Q S0 S1 m (fuel + 1) listed a := by
  rw [Bool.and_eq_true, Bool.and_eq_true] at hw
  obtain ⟨⟨hw, hl⟩, him⟩ := hw
  have him : i ≠ m := by simpa using him
  have hw : m < ops.size := of_decide_eq_true hw
  exact AnyL.first him hi (Array.getElem?_eq_getElem hw) (Region.noSelect_spec hs) fuel listed a (Region.free_spec hi hf) (by simpa using hr) (fun h => by rw [hl] at h; cases h) (.inr hy) (h _ (by rw [hd]))
/-- The store, when it alone is left. -/
theorem AnyL.store {m : Nat} {d : Option Tmp} {om : Oper} {v : Value} {fuel : Nat} {listed : Array Bool} {a : Act} (hm : ops[m]? = some om) (hd : om.dst = d) (hr : Region.ready md ops listed = [m]) (hl : (!listed.getD m true && decide (m < listed.size)) = true)
    (hw : Region.wanted om (yielded ops a.tmps) = true) (hy : ∀ w, S0 w → ∀ (K : Act → World → Prop) (Q : Exit → Act → World → Prop), (∀ w', S1 w' → K (a.put d v) w') → om.wp P a w K Q)
    (h : ∀ a', a.put d v = a' → AnyL P md ops Q S0 S1 m fuel (listed.setIfInBounds m true) a') : AnyL P md ops Q S0 S1 m (fuel + 1) listed a := by
  rw [Bool.and_eq_true] at hl
  obtain ⟨hl, hsz⟩ := hl
  have hl : listed.getD m true = false := by simpa using hl
  have hsz : m < listed.size := of_decide_eq_true hsz
  subst hd
  refine ⟨fun h0 => (by rw [hr] at h0; cases h0), fun j hj => ?_⟩
  rw [hr] at hj
  obtain rfl : j = m := by simpa using hj
  have k0 : kindL S0 S1 j listed = S0 := by unfold kindL; rw [hl, if_neg (by decide)]
  have k1 : kindL S0 S1 j (listed.setIfInBounds j true) = S1 := by unfold kindL; rw [if_pos (by simp [hsz])]
  exact ⟨om, v, hm, by rw [k0, k1]; exact .inl ⟨hw, hy⟩, h _ rfl⟩
theorem AnyL.done {m : Nat} {listed : Array Bool} {a : Act} (hr : Region.ready md ops listed = []) (hl : listed.getD m true = true) (h : ∀ w, S1 w → Q .normal a w) : ∀ fuel, AnyL P md ops Q S0 S1 m fuel listed a
  | 0 => ⟨hr, fun w hw => h w (by rw [kindL, if_pos hl] at hw; exact hw)⟩
  | _ + 1 => ⟨fun _ w hw => h w (by rw [kindL, if_pos hl] at hw; exact hw), by rw [hr]; simp⟩
theorem region_stepsL {id m : Nat} {a : Act} {w : World} (hm : P.follows .mixedOrders = true) (hlt : decide (m < ops.size) = true) (hS : S0 w.drew)
    (h : AnyL P .any ops Q S0 S1 m ops.size (Array.replicate ops.size false) a) : (Code.region id ops true).wp P Q a w :=
  wp_region_any hm (AnyL.any _ _ _ h _ (by
    have hlt : m < ops.size := of_decide_eq_true hlt
    have : (Array.replicate ops.size false).getD m true = false := by simp [hlt]
    rw [kindL, this, if_neg (by decide)]; exact hS))
end
end Go.Proofs.YtpaecjjelpjopaaGreatDoor

/- As Rv (AnyR), where what an operation does to the world is told by a relation T of one's own (Rv: it makes memory). Nothing of the program is used. -/
namespace Go.Proofs.YtpaecjjelpjopaaGreatDoor
open Go Go.RowKit

section
variable {P : Program} {ops : Array Oper} {Q : Exit → Act → World → Prop} {md : Region.Mode} {S : World → Prop} {U : Nat → List Value → Value → Prop} {V : Nat → Value → World → Prop} {T : World → World → Prop}

def StepsG (P : Program) (md : Region.Mode) (ops : Array Oper) (S : World → Prop) (U : Nat → List Value → Value → Prop) (V : Nat → Value → World → Prop) (T : World → World → Prop) (i : Nat) (o : Oper) (a : Act) : Prop :=
  (Region.wanted o (yielded ops a.tmps) = true ∧ ∀ w, S w → Deps md ops V o a w →
    ∀ (K : Act → World → Prop) (Q : Exit → Act → World → Prop), (∀ v w', U i (depVals md ops o a) v → V i v w' → T w w' → K (a.put o.dst v) w') → o.wp P a w K Q) ∨
  (Region.wanted o (yielded ops a.tmps) = false ∧ U i (depVals md ops o a) undef ∧ ∀ w, V i undef w)

def AnyG (P : Program) (md : Region.Mode) (ops : Array Oper) (Q : Exit → Act → World → Prop) (S : World → Prop) (U : Nat → List Value → Value → Prop) (V : Nat → Value → World → Prop) (T : World → World → Prop) : Nat → Array Bool → Act → Prop
  | 0, listed, a => Region.ready md ops listed = [] ∧ ∀ w, S w → Facts ops V listed a w → Q .normal a w
  | fuel + 1, listed, a =>
    (Region.ready md ops listed = [] → ∀ w, S w → Facts ops V listed a w → Q .normal a w) ∧
    ∀ i ∈ Region.ready md ops listed, ∃ o, ops[i]? = some o ∧ (∃ v, U i (depVals md ops o a) v) ∧ StepsG P md ops S U V T i o a ∧ ∀ v, U i (depVals md ops o a) v → AnyG P md ops Q S U V T fuel (listed.setIfInBounds i true) (a.put o.dst v)

theorem AnyG.any (hT : ∀ w, T w w) (hS : ∀ w w', T w w' → S w → S w') (hV : ∀ i v w w', T w w' → V i v w → V i v w') :
    ∀ (fuel : Nat) (listed : Array Bool) (a : Act), fitB ops a.tmps.size = true → AnyG P md ops Q S U V T fuel listed a → ∀ w, S w → Facts ops V listed a w → wpAny P md ops Q fuel listed a w
  | 0, _, _, _, h, w, hs, hf => ⟨h.1, h.2 w hs hf⟩
  | fuel + 1, listed, a, hfit, h, w, hs, hf => ⟨fun h0 => h.1 h0 w hs hf, fun i hi => by
    obtain ⟨o, ho, _, hst, hr⟩ := h.2 i hi
    obtain ⟨hun, o', ho', hall⟩ := mem_ready.1 hi
    obtain rfl : o = o' := Option.some.inj (ho.symm.trans ho')
    have key : ∀ v w', U i (depVals md ops o a) v → V i v w' → T w w' → wpAny P md ops Q fuel (listed.setIfInBounds i true) (a.put o.dst v) w' := by
      intro v w' hu hv hb
      refine AnyG.any hT hS hV fuel _ _ (by rw [put_size]; exact hfit) (hr v hu) w' (hS _ _ hb hs) ?_
      intro j oj d hl hj hd
      by_cases hji : j = i
      · subst hji
        obtain rfl : o = oj := Option.some.inj (ho.symm.trans hj)
        rw [hd, put_getD_same _ _ _ (fitB_lt hfit ho hd)]
        exact hv
      · rw [getD_set_ne true (Ne.symm hji)] at hl
        rw [put_getD_ne _ _ _ _ (fun he => fitB_ne hfit hj ho hd he hji rfl)]
        exact hV _ _ _ _ hb (hf j oj d hl hj hd)
    unfold Go.wpOp
    simp only [ho]
    rcases hst with ⟨hw, hst⟩ | ⟨hw, hu, hv⟩
    · simp only [hw, if_true]
      refine .inl (hst w hs (fun e he hb oj d hj hd => hf e.on oj d ?_ hj hd) _ _ key)
      have h1 := hall e he hb
      rcases Nat.lt_or_ge e.on listed.size with h' | h'
      · simp [h'] at h1 ⊢; exact h1
      · simp [Array.getElem?_eq_none h']
    · simp only [hw, Bool.false_eq_true, if_false]
      exact key undef w hu (hv w) (hT w)⟩

/-- What another operation puts elsewhere changes nothing of it. -/
theorem StepsG.moved {i k : Nat} {o ok : Oper} {a : Act} {y : Value} {n : Nat} (hfit : fitB ops n = true) (hi : ops[i]? = some o) (hk : ops[k]? = some ok) (hik : i ≠ k)
    (hs : ∀ cs b, o.op ≠ .select cs b) (h1 : ∀ d, ok.dst = some d → d ∉ o.looksAt ops) (hnot : ∀ e ∈ o.after, Region.binds md e = true → e.on ≠ k) :
    StepsG P md ops S U V T i o a ↔ StepsG P md ops S U V T i o (a.put ok.dst y) := by
  have h2 : ∀ d, o.dst = some d → ok.dst ≠ some d := fun d hd he => fitB_ne hfit hi hk hd he hik rfl
  have hdep : ∀ w, Deps md ops V o (a.put ok.dst y) w ↔ Deps md ops V o a w := by
    intro w
    have he : ∀ e ∈ o.after, Region.binds md e = true → ∀ oj d, ops[e.on]? = some oj → oj.dst = some d → (a.put ok.dst y).tmps.getD d undef = a.tmps.getD d undef := fun e he hb oj d hj hd =>
      put_getD_ne _ _ _ _ fun hx => fitB_ne hfit hj hk hd hx (hnot e he hb) rfl
    constructor
    · intro h e hm hb oj d hj hd; rw [← he e hm hb oj d hj hd]; exact h e hm hb oj d hj hd
    · intro h e hm hb oj d hj hd; rw [he e hm hb oj d hj hd]; exact h e hm hb oj d hj hd
  have hvals : depVals md ops o (a.put ok.dst y) = depVals md ops o a := depVals_put hfit hk hnot
  have hcan : ∀ u v, (a.put o.dst u = a.put o.dst v) ↔ ((a.put ok.dst y).put o.dst u = (a.put ok.dst y).put o.dst v) := by
    intro u v
    constructor
    · intro he; rw [← Act.put_comm a u y h2, ← Act.put_comm a v y h2, he]
    · intro he; exact put_cancel he
  unfold StepsG
  rw [wanted_put o a ok.dst y h1, hvals]
  generalize U i (depVals md ops o a) = U at *
  have conv : ∀ (b b' : Act), (∀ u v, b.put o.dst u = b.put o.dst v → b'.put o.dst u = b'.put o.dst v) → execOp b.eval o = execOp b'.eval o → ∀ w,
      (∀ (K : Act → World → Prop) (Q : Exit → Act → World → Prop), (∀ v w', U v → V i v w' → T w w' → K (b.put o.dst v) w') → o.wp P b w K Q) →
      (∀ (K : Act → World → Prop) (Q : Exit → Act → World → Prop), (∀ v w', U v → V i v w' → T w w' → K (b'.put o.dst v) w') → o.wp P b' w K Q) := by
    intro b b' hc hx w hv K Q hK
    have h0 := hv (fun a' w' => ∃ v, a' = b.put o.dst v ∧ U v ∧ V i v w' ∧ T w w') (fun _ _ _ => False) (fun v w' h1 h2 h3 => ⟨v, rfl, h1, h2, h3⟩)
    unfold Oper.wp at *
    rw [← hx]
    generalize (execOp b.eval o).run P w = r at *
    have key : ∀ u w', (∃ v, b.put o.dst u = b.put o.dst v ∧ U v ∧ V i v w' ∧ T w w') → K (b'.put o.dst u) w' := fun u w' ⟨v, he, h1, h2, h3⟩ => by
      rw [hc u v he]; exact hK v w' h1 h2 h3
    cases r with
    | ok n w' =>
      cases n <;> simp only [Oper.upon] at h0 ⊢
      case value u => exact key _ _ h0
      case skip => exact key _ _ h0
      case defer d =>
        exfalso
        obtain ⟨v, h0, _⟩ := h0
        have := congrArg (fun b : Act => b.defers.length) h0
        have hp : ∀ (b : Act) (t : Option Tmp) (u : Value), (b.put t u).defers = b.defers := fun b t u => by cases t <;> rfl
        simp [hp] at this
      case enter f args =>
        refine Calls.mono h0 fun e w'' he => ?_
        cases e with
        | returned u => exact key _ _ he
        | panicked c => exact he.elim
        | outgrown => exact he.elim fun _ h => h.elim fun _ h => h.elim
      case row row args => exact Rows.mono h0 fun u w'' he => key _ _ he
    | halt x w' =>
      cases x <;> simp only [Oper.upon] at h0
  have hx := execOp_put o hs a ok.dst y h1
  constructor
  · rintro (⟨hw, h⟩ | h)
    · exact .inl ⟨hw, fun w hS hD => conv a _ (fun u v => (hcan u v).1) hx.symm w (h w hS ((hdep w).1 hD))⟩
    · exact .inr h
  · rintro (⟨hw, h⟩ | h)
    · exact .inl ⟨hw, fun w hS hD => conv _ a (fun u v => (hcan u v).2) hx w (h w hS ((hdep w).2 hD))⟩
    · exact .inr h

theorem AnyG.first {i : Nat} {oi : Oper} (hi : ops[i]? = some oi) (hsel : ∀ (j : Nat) (o : Oper) cs b, ops[j]? = some o → o.op ≠ .select cs b) :
    ∀ (fuel : Nat) (listed : Array Bool) (a : Act), fitB ops a.tmps.size = true →
      (∀ j oj, ops[j]? = some oj → j ≠ i → listed.getD j true = false → (∀ e ∈ oj.after, Region.binds md e = true → e.on ≠ i) → oi.apart ops oj = true) →
      i ∈ Region.ready md ops listed → (∃ v, U i (depVals md ops oi a) v) → StepsG P md ops S U V T i oi a →
      (∀ v, U i (depVals md ops oi a) v → AnyG P md ops Q S U V T fuel (listed.setIfInBounds i true) (a.put oi.dst v)) → AnyG P md ops Q S U V T (fuel + 1) listed a := by
  intro fuel
  induction fuel with
  | zero =>
    intro listed a _ _ hr hU hy H
    refine ⟨fun h => (by rw [h] at hr; cases hr), fun j hj => ?_⟩
    by_cases hji : j = i
    · subst hji; exact ⟨oi, hi, hU, hy, H⟩
    · obtain ⟨v, hv⟩ := hU
      have := ready_mono hj hji
      rw [(H v hv).1] at this
      cases this
  | succ fuel ih =>
    intro listed a hfit hfree hr hU hy H
    refine ⟨fun h => (by rw [h] at hr; cases hr), fun j hj => ?_⟩
    by_cases hji : j = i
    · subst hji; exact ⟨oi, hi, hU, hy, H⟩
    · obtain ⟨v0, hv0⟩ := hU
      obtain ⟨oj, hoj, hUj, hyj, hrest⟩ := (H v0 hv0).2 j (ready_mono hj hji)
      obtain ⟨hjun, oj', hoj', hall⟩ := mem_ready.1 hj
      obtain rfl : oj = oj' := Option.some.inj (hoj.symm.trans hoj')
      have hnl : ∀ k, k ∈ Region.ready md ops listed → ∀ ok, ops[k]? = some ok → ∀ m, m ∈ Region.ready md ops listed → ∀ e ∈ ok.after, Region.binds md e = true → e.on ≠ m := by
        intro k hk ok hok m hm e he hb heq
        obtain ⟨_, o', ho', hall'⟩ := mem_ready.1 hk
        obtain rfl : ok = o' := Option.some.inj (hok.symm.trans ho')
        have h1 := hall' e he hb
        have h0 := (mem_ready.1 hm).1
        rw [heq] at h1
        rcases Nat.lt_or_ge m listed.size with h' | h'
        · simp [h'] at h0 h1; rw [h0] at h1; cases h1
        · simp [Array.getElem?_eq_none h'] at h1
      have hnot := hnl j hj oj hoj i hr
      have hnot' := hnl i hr oi hi j hj
      obtain ⟨h1, h2, h3⟩ := Oper.apart_spec (hfree j oj hoj hji hjun hnot)
      have ej : ∀ v, depVals md ops oj (a.put oi.dst v) = depVals md ops oj a := fun v => depVals_put hfit hi hnot
      have ei : ∀ u, depVals md ops oi (a.put oj.dst u) = depVals md ops oi a := fun u => depVals_put hfit hoj hnot'
      rw [ej] at hUj
      have hyj' : StepsG P md ops S U V T j oj a := (StepsG.moved hfit hoj hi hji (fun cs b => hsel j oj cs b hoj) h1 hnot).2 hyj
      refine ⟨oj, hoj, hUj, hyj', fun u hu => ?_⟩
      refine ih _ _ (by rw [put_size]; exact hfit) ?_ (ready_mono hr (Ne.symm hji)) ⟨v0, by rw [ei]; exact hv0⟩ ?_ ?_
      · intro k ok hk hki hun hno
        refine hfree k ok hk hki ?_ hno
        by_cases hjk : j = k
        · subst hjk; exact hjun
        · rw [getD_set_ne true hjk] at hun; exact hun
      · exact (StepsG.moved hfit hi hoj (Ne.symm hji) (fun cs b => hsel i oi cs b hi) h3 hnot').1 hy
      · intro v hv
        rw [ei] at hv
        rw [Array.setIfInBounds_comm _ _ hji, ← Act.put_comm a v u h2]
        obtain ⟨oj', hoj', _, _, hrest'⟩ := (H v hv).2 j (ready_mono hj hji)
        obtain rfl : oj = oj' := Option.some.inj (hoj.symm.trans hoj')
        exact hrest' u (by rw [ej]; exact hu)

/-- Take number i next. -/
theorem AnyG.step {i : Nat} {d : Option Tmp} {oi : Oper} {fuel : Nat} {listed : Array Bool} {a : Act} (hi : ops[i]? = some oi) (hd : oi.dst = d) (hfit : fitB ops a.tmps.size = true)
    (hs : Region.noSelect ops = true) (hf : Region.free md ops listed i = true) (hr : (Region.ready md ops listed).contains i = true)
    (hU : ∃ v, U i (depVals md ops oi a) v) (hy : StepsG P md ops S U V T i oi a)
    (h : ∀ v, U i (depVals md ops oi a) v → ∀ a', a.put d v = a' → AnyG P md ops Q S U V T fuel (listed.setIfInBounds i true) a') : AnyG P md ops Q S U V T (fuel + 1) listed a :=
  AnyG.first hi (Region.noSelect_spec hs) fuel listed a hfit (Region.free_spec hi hf) (by simpa using hr) hU hy (fun v hv => h v hv _ (by rw [hd]))
theorem AnyG.done {listed : Array Bool} {a : Act} (hr : Region.ready md ops listed = []) (h : ∀ w, S w → Facts ops V listed a w → Q .normal a w) : ∀ fuel, AnyG P md ops Q S U V T fuel listed a
  | 0 => ⟨hr, h⟩
  | _ + 1 => ⟨fun _ => h, by rw [hr]; simp⟩
theorem region_stepsG {id : Nat} {a : Act} {w : World} (hT : ∀ w, T w w) (hm : P.follows .mixedOrders = true) (hS : ∀ w w', T w w' → S w → S w') (hV : ∀ i v w w', T w w' → V i v w → V i v w') (hfit : fitB ops a.tmps.size = true) (h0 : S w.drew)
    (h : AnyG P .any ops Q S U V T ops.size (Array.replicate ops.size false) a) : (Code.region id ops true).wp P Q a w :=
  wp_region_any hm (AnyG.any hT hS hV _ _ _ hfit h _ h0 (fun j oj d hl hj _ => by
    have hlt := (Array.getElem?_eq_some_iff.1 hj).1
    simp [Array.getD, hlt] at hl))
/-- An operation that only yields. -/
theorem StepsG.yield {i : Nat} {o : Oper} {a : Act} (hT : ∀ w, T w w) (v : Value) (hu : U i (depVals md ops o a) v) (hw : Region.wanted o (yielded ops a.tmps) = true)
    (h : ∀ w, S w → Deps md ops V o a w → (execOp a.eval o).run P w = .ok (.value v) w ∧ V i v w) : StepsG P md ops S U V T i o a :=
  .inl ⟨hw, fun w hS hD K Q hK => by unfold Oper.wp; rw [(h w hS hD).1]; exact hK v w hu (h w hS hD).2 (hT w)⟩
/-- A call of a Go function. -/
theorem StepsG.call {i : Nat} {o : Oper} {a : Act} {f : FuncId} {args : Array Value} (hw : Region.wanted o (yielded ops a.tmps) = true) (h : ∀ w, S w → (execOp a.eval o).run P w = .ok (.enter f args) w)
    (hc : ∀ w, S w → Deps md ops V o a w → Calls P f args w fun e w' => ∃ v, e = .returned v ∧ U i (depVals md ops o a) v ∧ V i v w' ∧ T w w') : StepsG P md ops S U V T i o a :=
  .inl ⟨hw, fun w hS hD K Q hK => by
    unfold Oper.wp; rw [h w hS]
    refine Calls.mono (hc w hS hD) fun e w' he => ?_
    obtain ⟨v, rfl, h1, h2, h3⟩ := he
    exact hK v w' h1 h2 h3⟩
theorem StepsG.no {i : Nat} {o : Oper} {a : Act} (hw : Region.wanted o (yielded ops a.tmps) = false) (hu : U i (depVals md ops o a) undef) (hv : ∀ w, V i undef w) : StepsG P md ops S U V T i o a := .inr ⟨hw, hu, hv⟩
/-- An operation that makes memory, or only yields. -/
theorem StepsG.made {i : Nat} {o : Oper} {a : Act} (hw : Region.wanted o (yielded ops a.tmps) = true)
    (h : ∀ w, S w → Deps md ops V o a w → ∃ v w', (execOp a.eval o).run P w = .ok (.value v) w' ∧ U i (depVals md ops o a) v ∧ V i v w' ∧ T w w') : StepsG P md ops S U V T i o a :=
  .inl ⟨hw, fun w hS hD K Q hK => by obtain ⟨v, w', h1, h2, h3, h4⟩ := h w hS hD; unfold Oper.wp; rw [h1]; exact hK v w' h2 h3 h4⟩
end
end Go.Proofs.YtpaecjjelpjopaaGreatDoor

/- Texts put together: Sm Ap Ak Af Ax Aw. -/
import Derived.WalkKit
namespace Go.Proofs.YtbccojjcdcighaaGreatDoor
namespace BS
open Go.RowKit
def wd (s : BitVec 256) (i : Nat) : Nat := (s.extractLsb' (64 * i) 64).toNat
theorem wd_lt (s : BitVec 256) (i : Nat) : wd s i < 2 ^ 64 := (s.extractLsb' (64 * i) 64).isLt
theorem wd_lt' (s : BitVec 256) (i : Nat) : wd s i < 18446744073709551616 := wd_lt s i
theorem testBit_wd (s : BitVec 256) (i j : Nat) : (wd s i).testBit j = (decide (j < 64) && s.getLsbD (64 * i + j)) := by
  unfold wd
  rw [BitVec.testBit_toNat, BitVec.getLsbD_extractLsb']
theorem wd_or (a b : BitVec 256) (i : Nat) : wd (a ||| b) i = wd a i ||| wd b i := by
  apply Nat.eq_of_testBit_eq; intro j
  rw [Nat.testBit_or]
  simp only [testBit_wd, BitVec.getLsbD_or]
  cases decide (j < 64) <;> simp
theorem ext_wd {a b : BitVec 256} (h0 : wd a 0 = wd b 0) (h1 : wd a 1 = wd b 1) (h2 : wd a 2 = wd b 2) (h3 : wd a 3 = wd b 3) : a = b := by
  apply BitVec.eq_of_getLsbD_eq
  intro j hj
  have key : ∀ i, wd a i = wd b i → ∀ k, k < 64 → a.getLsbD (64 * i + k) = b.getLsbD (64 * i + k) := by
    intro i h k hk
    have := congrArg (fun n => n.testBit k) h
    simp only [testBit_wd, hk, decide_true, Bool.true_and] at this
    exact this
  have hk : j % 64 < 64 := Nat.mod_lt _ (by decide)
  have hj' : 64 * (j / 64) + j % 64 = j := Nat.div_add_mod j 64
  have h4 : j / 64 = 0 ∨ j / 64 = 1 ∨ j / 64 = 2 ∨ j / 64 = 3 := by omega
  rcases h4 with h | h | h | h <;> rw [← hj', h]
  · exact key 0 h0 _ hk
  · exact key 1 h1 _ hk
  · exact key 2 h2 _ hk
  · exact key 3 h3 _ hk
theorem ofInt_toNat (a : Nat) (ha : a < 2 ^ 64) : (BitVec.ofInt 64 (a : Int)).toNat = a := by
  rw [BitVec.ofInt_natCast, BitVec.toNat_ofNat]; exact Nat.mod_eq_of_lt ha
theorem wrap_u64_nat (n : Nat) (h : n < 2 ^ 64) : IntKind.u64.wrap (n : Int) = n := by
  rw [IntKind.wrap_u64]; omega
theorem bits_or_nat (a b : Nat) (ha : a < 2 ^ 64) (hb : b < 2 ^ 64) : bits .or .u64 (a : Int) (b : Int) = ((a ||| b : Nat) : Int) := by
  show IntKind.u64.wrap ((BitVec.ofInt 64 (a : Int) ||| BitVec.ofInt 64 (b : Int)).toNat : Int) = _
  rw [BitVec.toNat_or, ofInt_toNat a ha, ofInt_toNat b hb, wrap_u64_nat _ (Nat.or_lt_two_pow ha hb)]
theorem bits_and_nat (a b : Nat) (ha : a < 2 ^ 64) (hb : b < 2 ^ 64) : bits .and .u64 (a : Int) (b : Int) = ((a &&& b : Nat) : Int) := by
  show IntKind.u64.wrap ((BitVec.ofInt 64 (a : Int) &&& BitVec.ofInt 64 (b : Int)).toNat : Int) = _
  rw [BitVec.toNat_and, ofInt_toNat a ha, ofInt_toNat b hb, wrap_u64_nat _ (Nat.and_lt_two_pow _ hb)]
theorem bits_or_wd (a b : BitVec 256) (i : Nat) : bits .or .u64 (wd a i : Int) (wd b i : Int) = (wd (a ||| b) i : Int) := by
  rw [bits_or_nat _ _ (wd_lt _ _) (wd_lt _ _), wd_or]
theorem bits_andNot_wd (a b : BitVec 256) (i : Nat) (hi : i < 4) : bits .andNot .u64 (wd a i : Int) (wd b i : Int) = (wd (a &&& ~~~b) i : Int) := by
  show IntKind.u64.wrap ((BitVec.ofInt 64 (wd a i : Int) &&& ~~~BitVec.ofInt 64 (wd b i : Int)).toNat : Int) = _
  rw [wrap_u64_nat _ (BitVec.isLt _)]
  congr 1
  apply Nat.eq_of_testBit_eq; intro j
  rw [BitVec.testBit_toNat, BitVec.getLsbD_and, BitVec.getLsbD_not, testBit_wd, BitVec.getLsbD_and, BitVec.getLsbD_not]
  rw [← BitVec.testBit_toNat, ← BitVec.testBit_toNat, ofInt_toNat _ (wd_lt _ _), ofInt_toNat _ (wd_lt _ _), testBit_wd, testBit_wd]
  by_cases hj : j < 64
  · have : 64 * i + j < 256 := by omega
    simp [hj, this]
  · simp [hj]
theorem bits_not_wd (a : BitVec 256) (i : Nat) (hi : i < 4) : bits .xor .u64 IntKind.u64.max (wd a i : Int) = (wd (~~~a) i : Int) := by
  have hm : IntKind.u64.max = ((2 ^ 64 - 1 : Nat) : Int) := by decide
  rw [hm]
  show IntKind.u64.wrap ((BitVec.ofInt 64 ((2 ^ 64 - 1 : Nat) : Int) ^^^ BitVec.ofInt 64 (wd a i : Int)).toNat : Int) = _
  rw [wrap_u64_nat _ (BitVec.isLt _)]
  congr 1
  apply Nat.eq_of_testBit_eq; intro j
  rw [BitVec.testBit_toNat, BitVec.getLsbD_xor, testBit_wd, BitVec.getLsbD_not]
  rw [← BitVec.testBit_toNat, ← BitVec.testBit_toNat, ofInt_toNat _ (by omega), ofInt_toNat _ (wd_lt _ _), testBit_wd, Nat.testBit_two_pow_sub_one]
  by_cases hj : j < 64
  · have : 64 * i + j < 256 := by omega
    simp [hj, this]
  · simp [hj]
def natOf (f : Nat → Bool) : Nat → Nat
  | 0 => 0
  | n + 1 => 2 ^ n * (f n).toNat + natOf f n
theorem natOf_lt (f : Nat → Bool) : ∀ n, natOf f n < 2 ^ n
  | 0 => by simp [natOf]
  | n + 1 => by
    have := natOf_lt f n
    have h2 : 2 ^ (n + 1) = 2 ^ n * 2 := Nat.pow_succ ..
    cases h : f n <;> simp [natOf, h] <;> omega
theorem testBit_natOf (f : Nat → Bool) (j : Nat) : ∀ n, (natOf f n).testBit j = (decide (j < n) && f j)
  | 0 => by simp [natOf]
  | n + 1 => by
    have ih := testBit_natOf f j n
    rw [natOf, Nat.testBit_two_pow_mul_add _ (natOf_lt f n)]
    by_cases h : j < n
    · rw [if_pos h, ih]; simp [h, show j < n + 1 by omega]
    · rw [if_neg h]
      by_cases h2 : j = n
      · subst h2; cases f j <;> simp
      · simp only [show ¬ j < n + 1 by omega, decide_false, Bool.false_and]
        apply Nat.testBit_lt_two_pow
        have : (f n).toNat ≤ 1 := Bool.toNat_le _
        have h3 : 2 ^ 1 ≤ 2 ^ (j - n) := Nat.pow_le_pow_right (by decide) (by omega)
        omega
def ofFn (f : Nat → Bool) : BitVec 256 := BitVec.ofNat 256 (natOf f 256)
theorem get_ofFn (f : Nat → Bool) (j : Nat) : (ofFn f).getLsbD j = (decide (j < 256) && f j) := by
  unfold ofFn
  rw [BitVec.getLsbD_ofNat, testBit_natOf]
  cases decide (j < 256) <;> simp
def mask (n : Nat) : BitVec 256 := ofFn fun j => decide (j < n)
theorem wd_mask (n i : Nat) (hi : i < 4) : wd (mask n) i = 2 ^ (min (n - 64 * i) 64) - 1 := by
  apply Nat.eq_of_testBit_eq; intro j
  rw [testBit_wd, Nat.testBit_two_pow_sub_one, mask, get_ofFn]
  by_cases hj : j < 64
  · have : 64 * i + j < 256 := by omega
    simp only [hj, this, decide_true, Bool.true_and, decide_eq_decide]
    omega
  · simp only [hj, decide_false, Bool.false_and]
    symm; rw [decide_eq_false_iff_not]; omega
def range (lo hi : Nat) : BitVec 256 := ofFn fun j => decide (lo ≤ j) && decide (j ≤ hi)
theorem range_eq (lo hi : Nat) : mask (hi + 1) &&& ~~~(mask lo) = range lo hi := by
  apply BitVec.eq_of_getLsbD_eq
  intro j hj
  rw [BitVec.getLsbD_and, BitVec.getLsbD_not, mask, mask, range, get_ofFn, get_ofFn, get_ofFn]
  simp only [hj, decide_true, Bool.true_and]
  rw [Bool.and_comm, ← decide_not]
  congr 1
  · rw [decide_eq_decide]; omega
  · rw [decide_eq_decide]; omega
theorem pow_wrap1 : IntKind.u64.wrap (IntKind.u64.wrap 18446744073709551616 - 1) = ((2 ^ 64 - 1 : Nat) : Int) := by decide
theorem pow_wrap2 (k : Nat) (hk : k ≤ 64) : IntKind.u64.wrap (IntKind.u64.wrap (2 ^ k) - 1) = ((2 ^ k - 1 : Nat) : Int) := by
  rw [IntKind.wrap_u64, IntKind.wrap_u64]
  have h1 : (2 : Nat) ^ k ≤ 2 ^ 64 := Nat.pow_le_pow_right (by decide) hk
  have h2 : 0 < (2 : Nat) ^ k := Nat.two_pow_pos k
  have h3 : ((2 : Int) ^ k) = ((2 ^ k : Nat) : Int) := by simp
  rw [h3]
  generalize (2 : Nat) ^ k = x at *
  omega
theorem has_word (a : BitVec 256) (i k : Nat) (hk : k < 64) : (bits .and .u64 ((wd a i : Int) / 2 ^ k) 1 == 1) = a.getLsbD (64 * i + k) := by
  have h1 : ((wd a i : Int) / 2 ^ k) = ((wd a i / 2 ^ k : Nat) : Int) := by simp
  have h2 : wd a i / 2 ^ k < 2 ^ 64 := Nat.lt_of_le_of_lt (Nat.div_le_self _ _) (wd_lt _ _)
  have h3 : (1 : Int) = ((1 : Nat) : Int) := rfl
  rw [h1, h3, bits_and_nat _ _ h2 (by decide), Nat.and_one_is_mod]
  have h4 := testBit_wd a i k
  rw [Nat.testBit_eq_decide_div_mod_eq] at h4
  simp only [hk, decide_true, Bool.true_and] at h4
  rw [← h4]
  by_cases h : wd a i / 2 ^ k % 2 = 1
  · rw [h]; rfl
  · have : wd a i / 2 ^ k % 2 = 0 := by omega
    rw [this]; rfl
@[reducible] def setV (s : BitVec 256) : Value := .agg #[.int .u64 (wd s 0), .int .u64 (wd s 1), .int .u64 (wd s 2), .int .u64 (wd s 3)]
theorem of_words (a b c d : Int) (ha : 0 ≤ a ∧ a < 18446744073709551616) (hb : 0 ≤ b ∧ b < 18446744073709551616) (hc : 0 ≤ c ∧ c < 18446744073709551616) (hd : 0 ≤ d ∧ d < 18446744073709551616) :
    ∃ s : BitVec 256, a = (wd s 0 : Int) ∧ b = (wd s 1 : Int) ∧ c = (wd s 2 : Int) ∧ d = (wd s 3 : Int) := by
  obtain ⟨a, rfl⟩ := Int.eq_ofNat_of_zero_le ha.1
  obtain ⟨b, rfl⟩ := Int.eq_ofNat_of_zero_le hb.1
  obtain ⟨c, rfl⟩ := Int.eq_ofNat_of_zero_le hc.1
  obtain ⟨d, rfl⟩ := Int.eq_ofNat_of_zero_le hd.1
  refine ⟨ofFn fun j => if j < 64 then a.testBit j else if j < 128 then b.testBit (j - 64) else if j < 192 then c.testBit (j - 128) else d.testBit (j - 192), ?_, ?_, ?_, ?_⟩
  all_goals
    refine congrArg (fun n : Nat => (n : Int)) ?_
    apply Nat.eq_of_testBit_eq; intro j
    rw [testBit_wd, get_ofFn]
    by_cases hj : j < 64
    · simp [hj, show j < 256 by omega, show 64 + j < 256 by omega, show 128 + j < 256 by omega, show 192 + j < 256 by omega, show ¬ (64 + j < 64) by omega, show ¬ (128 + j < 64) by omega, show ¬ (128 + j < 128) by omega, show (128 + j < 192) by omega, show ¬ (192 + j < 64) by omega, show ¬ (192 + j < 128) by omega, show ¬ (192 + j < 192) by omega, show (64 + j < 128) by omega]
    · simp only [hj, decide_false, Bool.false_and]
      apply Nat.testBit_lt_two_pow
      refine Nat.lt_of_lt_of_le (m := 2 ^ 64) (by omega) (Nat.pow_le_pow_right (by decide) (by omega))
end BS
end Go.Proofs.YtbccojjcdcighaaGreatDoor

namespace Go.Proofs.YtbccojjcdcighaaGreatDoor
def stepF (st : List Nat) (k : Nat) : List Nat := (1 + (st.take k).sum) :: st.drop k
def stackF : List Nat → List Nat → Option (List Nat)
  | st, [] => some st
  | st, k :: ks => if k ≤ st.length then stackF (stepF st k) ks else none
theorem stackF_append (ks ls : List Nat) : ∀ st, stackF st (ks ++ ls) = (stackF st ks).bind fun st' => stackF st' ls := by
  induction ks with
  | nil => intro st; rfl
  | cons k ks ih =>
    intro st
    rw [List.cons_append, stackF, stackF]
    by_cases h : k ≤ st.length
    · rw [if_pos h, if_pos h]; exact ih _
    · rw [if_neg h, if_neg h]; rfl
theorem stackF_snoc (st : List Nat) (ks : List Nat) (k : Nat) : stackF st (ks ++ [k]) = (stackF st ks).bind fun st' => if k ≤ st'.length then some (stepF st' k) else none := by
  rw [stackF_append]
  cases stackF st ks with
  | none => rfl
  | some st' => show stackF st' [k] = _; rw [stackF]; rfl
theorem stepF_sum (st : List Nat) (k : Nat) : (stepF st k).sum = st.sum + 1 := by
  have h : st.sum = (st.take k).sum + (st.drop k).sum := by rw [← List.sum_append, List.take_append_drop]
  rw [stepF, List.sum_cons, h]
  omega
theorem stepF_len (st : List Nat) (k : Nat) : (stepF st k).length = st.length - k + 1 := by
  rw [stepF, List.length_cons, List.length_drop]
theorem stepF_pos (st : List Nat) (k : Nat) (h : ∀ x ∈ st, 0 < x) : ∀ x ∈ stepF st k, 0 < x := by
  intro x hx
  rw [stepF, List.mem_cons] at hx
  rcases hx with rfl | hx
  · omega
  · exact h x (List.mem_of_mem_drop hx)
theorem stackF_sum : ∀ (ks st st' : List Nat), stackF st ks = some st' → st'.sum = st.sum + ks.length
  | [], st, st', h => by cases h; rfl
  | k :: ks, st, st', h => by
    rw [stackF] at h
    by_cases hk : k ≤ st.length
    · rw [if_pos hk] at h
      rw [stackF_sum ks _ _ h, stepF_sum, List.length_cons]; omega
    · rw [if_neg hk] at h; cases h
theorem stackF_pos : ∀ (ks st st' : List Nat), (∀ x ∈ st, 0 < x) → stackF st ks = some st' → ∀ x ∈ st', 0 < x
  | [], st, st', h0, h => by cases h; exact h0
  | k :: ks, st, st', h0, h => by
    rw [stackF] at h
    by_cases hk : k ≤ st.length
    · rw [if_pos hk] at h
      exact stackF_pos ks _ _ (stepF_pos st k h0) h
    · rw [if_neg hk] at h; cases h
def sizesF : List Nat → List Nat → List Nat
  | _, [] => []
  | st, k :: ks => (1 + (st.take k).sum) :: sizesF (stepF st k) ks
theorem sizesF_len : ∀ (ks st : List Nat), (sizesF st ks).length = ks.length
  | [], _ => rfl
  | k :: ks, st => by rw [sizesF, List.length_cons, List.length_cons, sizesF_len ks]
def RootsF (out : List Nat) (st : List Nat) : Prop := ∀ j (h : j < st.length), (st.take j).sum < out.length ∧ out[out.length - 1 - (st.take j).sum]? = some st[j]
theorem roots_step (out st : List Nat) (k : Nat) (hk : k ≤ st.length) (h : RootsF out st) : RootsF (out ++ [1 + (st.take k).sum]) (stepF st k) := by
  intro j hj
  cases j with
  | zero => simp [stepF]
  | succ j =>
    rw [stepF_len st k] at hj
    have hj' : k + j < st.length := by omega
    obtain ⟨h1, h2⟩ := h (k + j) hj'
    have e1 : ((stepF st k).take (j + 1)).sum = 1 + (st.take (k + j)).sum := by
      rw [stepF, List.take_succ_cons, List.sum_cons, List.take_add, List.sum_append]
      omega
    have e2 : (stepF st k)[j + 1]'(by rw [stepF_len st k]; omega) = st[k + j] := by simp [stepF]
    have hl : (out ++ [1 + (st.take k).sum]).length = out.length + 1 := by simp
    refine ⟨by rw [e1, hl]; omega, ?_⟩
    rw [e1, e2, hl, List.getElem?_append_left (by omega), ← h2]
    congr 1
    omega
theorem roots_all : ∀ (ks st out st' : List Nat), (∀ x ∈ st, 0 < x) → RootsF out st → stackF st ks = some st' → RootsF (out ++ sizesF st ks) st'
  | [], st, out, st', _, h, hs => by cases hs; rw [sizesF, List.append_nil]; exact h
  | k :: ks, st, out, st', hp, h, hs => by
    rw [stackF] at hs
    by_cases hk : k ≤ st.length
    · rw [if_pos hk] at hs
      rw [sizesF, show out ++ (1 + (st.take k).sum) :: sizesF (stepF st k) ks = (out ++ [1 + (st.take k).sum]) ++ sizesF (stepF st k) ks by simp]
      exact roots_all ks _ _ _ (stepF_pos st k hp) (roots_step out st k hk h) hs
    · rw [if_neg hk] at hs; cases hs
end Go.Proofs.YtbccojjcdcighaaGreatDoor

namespace Go.Proofs.YtbccojjcdcighaaGreatDoor
def posF : Nat → List Nat → List Nat
  | _, [] => []
  | i, z :: st => (i - 1) :: posF (i - z) st
theorem posF_len : ∀ (st : List Nat) (i : Nat), (posF i st).length = st.length
  | [], _ => rfl
  | z :: st, i => by rw [posF, List.length_cons, List.length_cons, posF_len st]
theorem posF_get : ∀ (st : List Nat) (i j : Nat) (h : j < (posF i st).length), (posF i st)[j] = i - (st.take j).sum - 1
  | z :: st, i, 0, _ => by simp [posF]
  | z :: st, i, j + 1, h => by
    have h' : j < (posF (i - z) st).length := by rw [posF_len] at h ⊢; simpa using h
    have := posF_get st (i - z) j h'
    simp only [posF, List.getElem_cons_succ, List.take_succ_cons, List.sum_cons]
    rw [this]
    omega
theorem posF_split : ∀ (k : Nat) (st : List Nat) (i : Nat), posF i st = (posF i st).take k ++ posF (i - (st.take k).sum) (st.drop k)
  | 0, st, i => by simp
  | k + 1, [], i => by simp [posF]
  | k + 1, z :: st, i => by
    rw [posF, List.take_succ_cons, List.take_succ_cons, List.drop_succ_cons, List.sum_cons, List.cons_append, ← Nat.sub_sub, ← posF_split k st (i - z)]
theorem posF_step (i : Nat) (st : List Nat) (k : Nat) : posF (i + 1) (stepF st k) = i :: posF (i - (st.take k).sum) (st.drop k) := by
  rw [stepF, posF, show i + 1 - (1 + (st.take k).sum) = i - (st.take k).sum by omega]
  rfl
def allKids : Nat → List Nat → List Nat → List (List Nat)
  | _, _, [] => []
  | i, st, k :: ks => (posF i st).take k :: allKids (i + 1) (stepF st k) ks
end Go.Proofs.YtbccojjcdcighaaGreatDoor

namespace Go.Proofs.YtbccojjcdcighaaGreatDoor
def manyF : Nat → List Int → Option Nat
  | m, [] => some m
  | m, k :: ks => if k < 0 ∨ (m : Int) < k then none else manyF (m - k.toNat + 1) ks
theorem many_stack : ∀ (ks : List Int) (st : List Nat), manyF st.length ks = if (ks.all fun k => decide (0 ≤ k)) = true then (stackF st (ks.map Int.toNat)).map List.length else none
  | [], st => rfl
  | k :: ks, st => by
    rw [manyF, List.all_cons, List.map_cons, stackF]
    by_cases h0 : k < 0
    · rw [if_pos (.inl h0), decide_eq_false (show ¬ 0 ≤ k by omega), Bool.false_and, if_neg (by decide)]
    · rw [decide_eq_true (show 0 ≤ k by omega), Bool.true_and]
      by_cases h1 : (st.length : Int) < k
      · rw [if_pos (.inr h1), if_neg (show ¬ k.toNat ≤ st.length by omega)]
        split <;> rfl
      · rw [if_neg (by omega), if_pos (show k.toNat ≤ st.length by omega), ← stepF_len st k.toNat]
        exact many_stack ks (stepF st k.toNat)
theorem formed_iff (ks : List Int) : manyF 0 ks = some 1 ↔ (∀ k ∈ ks, 0 ≤ k) ∧ stackF [] (ks.map Int.toNat) = some [ks.length] := by
  have h := many_stack ks []
  rw [show ([] : List Nat).length = 0 from rfl] at h
  rw [h]
  have hall : ((ks.all fun k => decide (0 ≤ k)) = true) ↔ ∀ k ∈ ks, 0 ≤ k := by simp
  by_cases ha : (ks.all fun k => decide (0 ≤ k)) = true
  · rw [if_pos ha]
    constructor
    · intro h1
      refine ⟨hall.1 ha, ?_⟩
      cases hs : stackF [] (ks.map Int.toNat) with
      | none => rw [hs] at h1; cases h1
      | some st =>
        rw [hs] at h1
        have hl : st.length = 1 := by simpa using h1
        have hsum := stackF_sum _ _ _ hs
        obtain ⟨x, rfl⟩ := List.length_eq_one_iff.1 hl
        simp at hsum
        rw [hsum]
    · rintro ⟨_, h2⟩
      rw [h2]; rfl
  · rw [if_neg ha]
    constructor
    · intro h1; cases h1
    · rintro ⟨h1, _⟩; exact absurd (hall.2 h1) ha
theorem stack_prefix (ks : List Nat) (st st' : List Nat) (h : stackF st ks = some st') (i : Nat) (_hi : i ≤ ks.length) : ∃ s, stackF st (ks.take i) = some s := by
  have e : ks = ks.take i ++ ks.drop i := (List.take_append_drop i ks).symm
  rw [e, stackF_append] at h
  cases hs : stackF st (ks.take i) with
  | none => rw [hs] at h; cases h
  | some s => exact ⟨s, rfl⟩
theorem stack_at (ks : List Nat) (st st' : List Nat) (h : stackF st ks = some st') (i : Nat) (hi : i < ks.length) : ∃ s, stackF st (ks.take i) = some s ∧ ks[i] ≤ s.length ∧ s.sum = st.sum + i := by
  obtain ⟨s, hs⟩ := stack_prefix ks st st' h i (by omega)
  have e : ks = ks.take i ++ (ks[i] :: ks.drop (i + 1)) := by rw [← List.drop_eq_getElem_cons hi, List.take_append_drop]
  refine ⟨s, hs, ?_, ?_⟩
  · rw [e, stackF_append, hs] at h
    have h' : stackF s (ks[i] :: ks.drop (i + 1)) = some st' := h
    rw [stackF] at h'
    by_cases hk : ks[i] ≤ s.length
    · exact hk
    · rw [if_neg hk] at h'; cases h'
  · have := stackF_sum _ _ _ hs
    rw [this, List.length_take]
    omega
end Go.Proofs.YtbccojjcdcighaaGreatDoor

namespace Go.Proofs.YtbccojjcdcighaaGreatDoor
theorem take_sum (s : List Nat) (j : Nat) (h : j < s.length) : (s.take (j + 1)).sum = (s.take j).sum + s[j] := by
  have e : s.take (j + 1) = s.take j ++ [s[j]] := by rw [List.take_add_one, List.getElem?_eq_getElem h]; rfl
  rw [e, List.sum_append]
  simp
theorem take_sum_le (s : List Nat) (j : Nat) : (s.take j).sum ≤ s.sum := by
  have h : s.sum = (s.take j).sum + (s.drop j).sum := by rw [← List.sum_append, List.take_append_drop]
  omega
theorem kid_at (s : List Nat) (i j : Nat) (hp : ∀ x ∈ s, 0 < x) (hs : s.sum ≤ i) (h : j < s.length) (h' : j < (posF i s).length) :
    (posF i s)[j] + 1 + (s.take j).sum = i ∧ (posF i s)[j] + 1 = s[j] + (i - (s.take (j + 1)).sum) := by
  have e := posF_get s i j h'
  have t := take_sum s j h
  have l := take_sum_le s (j + 1)
  have p := hp s[j] (List.getElem_mem h)
  rw [e]
  omega
theorem kid_size (out s : List Nat) (i j : Nat) (hi : out.length = i) (h : RootsF out s) (hj : j < s.length) (h' : j < (posF i s).length) : out[(posF i s)[j]]? = some s[j] := by
  obtain ⟨h1, h2⟩ := h j hj
  rw [posF_get s i j h', ← h2, hi]
  congr 1
  omega
theorem roots_at (ks : List Nat) (i : Nat) (hi : i < ks.length) (s : List Nat) (hs : stackF [] (ks.take i) = some s) :
    RootsF (sizesF [] (ks.take i)) s ∧ (sizesF [] ks).take i = sizesF [] (ks.take i) ∧ (sizesF [] ks)[i]? = some (1 + (s.take ks[i]).sum) := by
  have hr := roots_all (ks.take i) [] [] s (by simp) (by intro j hj; simp at hj) hs
  rw [List.nil_append] at hr
  have e : ks = ks.take i ++ (ks[i] :: ks.drop (i + 1)) := by rw [← List.drop_eq_getElem_cons hi, List.take_append_drop]
  have hl : (sizesF [] (ks.take i)).length = i := by rw [sizesF_len, List.length_take]; omega
  have ea : sizesF [] ks = sizesF [] (ks.take i) ++ (1 + (s.take ks[i]).sum) :: sizesF (stepF s ks[i]) (ks.drop (i + 1)) := by
    have : ∀ (as bs st st' : List Nat), stackF st as = some st' → sizesF st (as ++ bs) = sizesF st as ++ sizesF st' bs := by
      intro as
      induction as with
      | nil => intro bs st st' h; cases h; rfl
      | cons a as ih =>
        intro bs st st' h
        rw [stackF] at h
        by_cases hk : a ≤ st.length
        · rw [if_pos hk] at h
          rw [List.cons_append, sizesF, sizesF, List.cons_append, ih bs _ _ h]
        · rw [if_neg hk] at h; cases h
    conv => lhs; rw [e]
    rw [this _ _ _ _ hs, sizesF]
  refine ⟨hr, ?_, ?_⟩
  · rw [ea, List.take_append_of_le_length (by omega), List.take_of_length_le (by omega)]
  · rw [ea, List.getElem?_append_right (by omega), hl, Nat.sub_self]
    rfl
end Go.Proofs.YtbccojjcdcighaaGreatDoor

namespace Go.Proofs.YtbccojjcdcighaaGreatDoor
theorem stepF_below (st base : List Nat) (k : Nat) (h : k ≤ st.length) : stepF (st ++ base) k = stepF st k ++ base := by
  rw [stepF, stepF, List.take_append_of_le_length h, List.drop_append_of_le_length h]
  rfl
theorem stackF_below (base : List Nat) : ∀ (ks st st' : List Nat), stackF st ks = some st' → stackF (st ++ base) ks = some (st' ++ base)
  | [], st, st', h => by cases h; rfl
  | k :: ks, st, st', h => by
    rw [stackF] at h ⊢
    by_cases hk : k ≤ st.length
    · rw [if_pos hk] at h
      rw [if_pos (by rw [List.length_append]; omega), stepF_below st base k hk]
      exact stackF_below base ks _ _ h
    · rw [if_neg hk] at h; cases h
theorem posF_append : ∀ (st base : List Nat) (i : Nat), posF i (st ++ base) = posF i st ++ posF (i - st.sum) base
  | [], base, i => by simp [posF]
  | z :: st, base, i => by
    rw [List.cons_append, posF, posF, List.cons_append, posF_append st base (i - z), List.sum_cons, Nat.sub_sub]
theorem posF_shift (d : Nat) : ∀ (st : List Nat) (i : Nat), (∀ x ∈ st, 0 < x) → st.sum ≤ i → posF (i + d) st = (posF i st).map (· + d)
  | [], _, _, _ => rfl
  | z :: st, i, hp, hs => by
    have hz := hp z (List.mem_cons_self ..)
    rw [List.sum_cons] at hs
    rw [posF, posF, List.map_cons, show i + d - z = (i - z) + d by omega, posF_shift d st (i - z) (fun x hx => hp x (List.mem_cons_of_mem _ hx)) (by omega), show i + d - 1 = i - 1 + d by omega]
theorem allKids_below (base : List Nat) (d : Nat) : ∀ (ks st st' : List Nat) (i : Nat), (∀ x ∈ st, 0 < x) → st.sum ≤ i → stackF st ks = some st' →
    allKids (i + d) (st ++ base) ks = (allKids i st ks).map (List.map (· + d))
  | [], _, _, _, _, _, _ => rfl
  | k :: ks, st, st', i, hp, hs, h => by
    rw [stackF] at h
    by_cases hk : k ≤ st.length
    · rw [if_pos hk] at h
      have hl : k ≤ (posF (i + d) st).length := by rw [posF_len]; exact hk
      rw [allKids, allKids, List.map_cons, stepF_below st base k hk, show i + d + 1 = i + 1 + d by omega,
        allKids_below base d ks _ _ (i + 1) (stepF_pos st k hp) (by rw [stepF_sum]; omega) h, posF_append, List.take_append_of_le_length hl, posF_shift d st i hp hs, List.map_take]
    · rw [if_neg hk] at h; cases h
theorem allKids_append : ∀ (ks ls st st' : List Nat) (i : Nat), stackF st ks = some st' → allKids i st (ks ++ ls) = allKids i st ks ++ allKids (i + ks.length) st' ls
  | [], _, _, _, _, h => by cases h; rfl
  | k :: ks, ls, st, st', i, h => by
    rw [stackF] at h
    by_cases hk : k ≤ st.length
    · rw [if_pos hk] at h
      rw [List.cons_append, allKids, allKids, List.cons_append, allKids_append ks ls _ _ (i + 1) h, List.length_cons, show i + 1 + ks.length = i + (ks.length + 1) by omega]
    · rw [if_neg hk] at h; cases h
end Go.Proofs.YtbccojjcdcighaaGreatDoor

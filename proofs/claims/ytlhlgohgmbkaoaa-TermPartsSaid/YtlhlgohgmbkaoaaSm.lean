/- Plain facts on sets of bytes, kept as 256 bits: their words, and what the machine's bit operations on words are. Nothing of the program is used. -/
import Derived.WalkKit
namespace Go.Proofs.Ytlhlgohgmbkaoaa
namespace BS
open Go.RowKit

def wd (s : BitVec 256) (i : Nat) : Nat := (s.extractLsb' (64 * i) 64).toNat

theorem wd_lt (s : BitVec 256) (i : Nat) : wd s i < 2 ^ 64 := (s.extractLsb' (64 * i) 64).isLt
theorem wd_lt' (s : BitVec 256) (i : Nat) : wd s i < 18446744073709551616 := wd_lt s i

theorem testBit_wd (s : BitVec 256) (i j : Nat) : (wd s i).testBit j = (decide (j < 64) && s.getLsbD (64 * i + j)) := by
  unfold wd
  rw [BitVec.testBit_toNat, BitVec.getLsbD_extractLsb']

theorem wd_or (a b : BitVec 256) (i : Nat) : wd (a ||| b) i = wd a i ||| wd b i := by
  apply Nat.eq_of_testBit_eq; intro j
  rw [Nat.testBit_or]
  simp only [testBit_wd, BitVec.getLsbD_or]
  cases decide (j < 64) <;> simp
theorem wd_and (a b : BitVec 256) (i : Nat) : wd (a &&& b) i = wd a i &&& wd b i := by
  apply Nat.eq_of_testBit_eq; intro j
  rw [Nat.testBit_and]
  simp only [testBit_wd, BitVec.getLsbD_and]
  cases decide (j < 64) <;> simp

/-- Two sets with the same words are the same. -/
theorem ext_wd {a b : BitVec 256} (h0 : wd a 0 = wd b 0) (h1 : wd a 1 = wd b 1) (h2 : wd a 2 = wd b 2) (h3 : wd a 3 = wd b 3) : a = b := by
  apply BitVec.eq_of_getLsbD_eq
  intro j hj
  have key : ∀ i, wd a i = wd b i → ∀ k, k < 64 → a.getLsbD (64 * i + k) = b.getLsbD (64 * i + k) := by
    intro i h k hk
    have := congrArg (fun n => n.testBit k) h
    simp only [testBit_wd, hk, decide_true, Bool.true_and] at this
    exact this
  have hk : j % 64 < 64 := Nat.mod_lt _ (by decide)
  have hj' : 64 * (j / 64) + j % 64 = j := Nat.div_add_mod j 64
  have h4 : j / 64 = 0 ∨ j / 64 = 1 ∨ j / 64 = 2 ∨ j / 64 = 3 := by omega
  rcases h4 with h | h | h | h <;> rw [← hj', h]
  · exact key 0 h0 _ hk
  · exact key 1 h1 _ hk
  · exact key 2 h2 _ hk
  · exact key 3 h3 _ hk

theorem ofInt_toNat (a : Nat) (ha : a < 2 ^ 64) : (BitVec.ofInt 64 (a : Int)).toNat = a := by
  rw [BitVec.ofInt_natCast, BitVec.toNat_ofNat]; exact Nat.mod_eq_of_lt ha
theorem wrap_u64_nat (n : Nat) (h : n < 2 ^ 64) : IntKind.u64.wrap (n : Int) = n := by
  rw [IntKind.wrap_u64]; omega

theorem bits_or_nat (a b : Nat) (ha : a < 2 ^ 64) (hb : b < 2 ^ 64) : bits .or .u64 (a : Int) (b : Int) = ((a ||| b : Nat) : Int) := by
  show IntKind.u64.wrap ((BitVec.ofInt 64 (a : Int) ||| BitVec.ofInt 64 (b : Int)).toNat : Int) = _
  rw [BitVec.toNat_or, ofInt_toNat a ha, ofInt_toNat b hb, wrap_u64_nat _ (Nat.or_lt_two_pow ha hb)]
theorem bits_and_nat (a b : Nat) (ha : a < 2 ^ 64) (hb : b < 2 ^ 64) : bits .and .u64 (a : Int) (b : Int) = ((a &&& b : Nat) : Int) := by
  show IntKind.u64.wrap ((BitVec.ofInt 64 (a : Int) &&& BitVec.ofInt 64 (b : Int)).toNat : Int) = _
  rw [BitVec.toNat_and, ofInt_toNat a ha, ofInt_toNat b hb, wrap_u64_nat _ (Nat.and_lt_two_pow _ hb)]

theorem bits_or_wd (a b : BitVec 256) (i : Nat) : bits .or .u64 (wd a i : Int) (wd b i : Int) = (wd (a ||| b) i : Int) := by
  rw [bits_or_nat _ _ (wd_lt _ _) (wd_lt _ _), wd_or]
theorem bits_and_wd (a b : BitVec 256) (i : Nat) : bits .and .u64 (wd a i : Int) (wd b i : Int) = (wd (a &&& b) i : Int) := by
  rw [bits_and_nat _ _ (wd_lt _ _) (wd_lt _ _), wd_and]

theorem bits_andNot_wd (a b : BitVec 256) (i : Nat) (hi : i < 4) : bits .andNot .u64 (wd a i : Int) (wd b i : Int) = (wd (a &&& ~~~b) i : Int) := by
  show IntKind.u64.wrap ((BitVec.ofInt 64 (wd a i : Int) &&& ~~~BitVec.ofInt 64 (wd b i : Int)).toNat : Int) = _
  rw [wrap_u64_nat _ (BitVec.isLt _)]
  congr 1
  apply Nat.eq_of_testBit_eq; intro j
  rw [BitVec.testBit_toNat, BitVec.getLsbD_and, BitVec.getLsbD_not, testBit_wd, BitVec.getLsbD_and, BitVec.getLsbD_not]
  rw [← BitVec.testBit_toNat, ← BitVec.testBit_toNat, ofInt_toNat _ (wd_lt _ _), ofInt_toNat _ (wd_lt _ _), testBit_wd, testBit_wd]
  by_cases hj : j < 64
  · have : 64 * i + j < 256 := by omega
    simp [hj, this]
  · simp [hj]

theorem bits_not_wd (a : BitVec 256) (i : Nat) (hi : i < 4) : bits .xor .u64 IntKind.u64.max (wd a i : Int) = (wd (~~~a) i : Int) := by
  have hm : IntKind.u64.max = ((2 ^ 64 - 1 : Nat) : Int) := by decide
  rw [hm]
  show IntKind.u64.wrap ((BitVec.ofInt 64 ((2 ^ 64 - 1 : Nat) : Int) ^^^ BitVec.ofInt 64 (wd a i : Int)).toNat : Int) = _
  rw [wrap_u64_nat _ (BitVec.isLt _)]
  congr 1
  apply Nat.eq_of_testBit_eq; intro j
  rw [BitVec.testBit_toNat, BitVec.getLsbD_xor, testBit_wd, BitVec.getLsbD_not]
  rw [← BitVec.testBit_toNat, ← BitVec.testBit_toNat, ofInt_toNat _ (by omega), ofInt_toNat _ (wd_lt _ _), testBit_wd, Nat.testBit_two_pow_sub_one]
  by_cases hj : j < 64
  · have : 64 * i + j < 256 := by omega
    simp [hj, this]
  · simp [hj]

/-- The number with just the bits below n of which f says yes. -/
def natOf (f : Nat → Bool) : Nat → Nat
  | 0 => 0
  | n + 1 => 2 ^ n * (f n).toNat + natOf f n
theorem natOf_lt (f : Nat → Bool) : ∀ n, natOf f n < 2 ^ n
  | 0 => by simp [natOf]
  | n + 1 => by
    have := natOf_lt f n
    have h2 : 2 ^ (n + 1) = 2 ^ n * 2 := Nat.pow_succ ..
    cases h : f n <;> simp [natOf, h] <;> omega
theorem testBit_natOf (f : Nat → Bool) (j : Nat) : ∀ n, (natOf f n).testBit j = (decide (j < n) && f j)
  | 0 => by simp [natOf]
  | n + 1 => by
    have ih := testBit_natOf f j n
    rw [natOf, Nat.testBit_two_pow_mul_add _ (natOf_lt f n)]
    by_cases h : j < n
    · rw [if_pos h, ih]; simp [h, show j < n + 1 by omega]
    · rw [if_neg h]
      by_cases h2 : j = n
      · subst h2; cases f j <;> simp
      · simp only [show ¬ j < n + 1 by omega, decide_false, Bool.false_and]
        apply Nat.testBit_lt_two_pow
        have : (f n).toNat ≤ 1 := Bool.toNat_le _
        have h3 : 2 ^ 1 ≤ 2 ^ (j - n) := Nat.pow_le_pow_right (by decide) (by omega)
        omega
/-- The set of the numbers of which f says yes. -/
def ofFn (f : Nat → Bool) : BitVec 256 := BitVec.ofNat 256 (natOf f 256)
theorem get_ofFn (f : Nat → Bool) (j : Nat) : (ofFn f).getLsbD j = (decide (j < 256) && f j) := by
  unfold ofFn
  rw [BitVec.getLsbD_ofNat, testBit_natOf]
  cases decide (j < 256) <;> simp

/-- What lies below n. -/
def mask (n : Nat) : BitVec 256 := ofFn fun j => decide (j < n)

theorem wd_mask (n i : Nat) (hi : i < 4) : wd (mask n) i = 2 ^ (min (n - 64 * i) 64) - 1 := by
  apply Nat.eq_of_testBit_eq; intro j
  rw [testBit_wd, Nat.testBit_two_pow_sub_one, mask, get_ofFn]
  by_cases hj : j < 64
  · have : 64 * i + j < 256 := by omega
    simp only [hj, this, decide_true, Bool.true_and, decide_eq_decide]
    omega
  · simp only [hj, decide_false, Bool.false_and]
    symm; rw [decide_eq_false_iff_not]; omega

/-- From lo to hi. -/
def range (lo hi : Nat) : BitVec 256 := ofFn fun j => decide (lo ≤ j) && decide (j ≤ hi)
theorem range_eq (lo hi : Nat) : mask (hi + 1) &&& ~~~(mask lo) = range lo hi := by
  apply BitVec.eq_of_getLsbD_eq
  intro j hj
  rw [BitVec.getLsbD_and, BitVec.getLsbD_not, mask, mask, range, get_ofFn, get_ofFn, get_ofFn]
  simp only [hj, decide_true, Bool.true_and]
  rw [Bool.and_comm, ← decide_not]
  congr 1
  · rw [decide_eq_decide]; omega
  · rw [decide_eq_decide]; omega

theorem pow_wrap1 : IntKind.u64.wrap (IntKind.u64.wrap 18446744073709551616 - 1) = ((2 ^ 64 - 1 : Nat) : Int) := by decide
theorem pow_wrap2 (k : Nat) (hk : k ≤ 64) : IntKind.u64.wrap (IntKind.u64.wrap (2 ^ k) - 1) = ((2 ^ k - 1 : Nat) : Int) := by
  rw [IntKind.wrap_u64, IntKind.wrap_u64]
  have h1 : (2 : Nat) ^ k ≤ 2 ^ 64 := Nat.pow_le_pow_right (by decide) hk
  have h2 : 0 < (2 : Nat) ^ k := Nat.two_pow_pos k
  have h3 : ((2 : Int) ^ k) = ((2 ^ k : Nat) : Int) := by simp
  rw [h3]
  generalize (2 : Nat) ^ k = x at *
  omega

/-- The bit test of 'Has'. -/
theorem has_word (a : BitVec 256) (i k : Nat) (hk : k < 64) : (bits .and .u64 ((wd a i : Int) / 2 ^ k) 1 == 1) = a.getLsbD (64 * i + k) := by
  have h1 : ((wd a i : Int) / 2 ^ k) = ((wd a i / 2 ^ k : Nat) : Int) := by simp
  have h2 : wd a i / 2 ^ k < 2 ^ 64 := Nat.lt_of_le_of_lt (Nat.div_le_self _ _) (wd_lt _ _)
  have h3 : (1 : Int) = ((1 : Nat) : Int) := rfl
  rw [h1, h3, bits_and_nat _ _ h2 (by decide), Nat.and_one_is_mod]
  have h4 := testBit_wd a i k
  rw [Nat.testBit_eq_decide_div_mod_eq] at h4
  simp only [hk, decide_true, Bool.true_and] at h4
  rw [← h4]
  by_cases h : wd a i / 2 ^ k % 2 = 1
  · rw [h]; rfl
  · have : wd a i / 2 ^ k % 2 = 0 := by omega
    rw [this]; rfl

/-- The set as the machine's value: four words. -/
@[reducible] def setV (s : BitVec 256) : Value := .agg #[.int .u64 (wd s 0), .int .u64 (wd s 1), .int .u64 (wd s 2), .int .u64 (wd s 3)]

/-- Any four words are a set's. -/
theorem of_words (a b c d : Int) (ha : 0 ≤ a ∧ a < 18446744073709551616) (hb : 0 ≤ b ∧ b < 18446744073709551616) (hc : 0 ≤ c ∧ c < 18446744073709551616) (hd : 0 ≤ d ∧ d < 18446744073709551616) :
    ∃ s : BitVec 256, a = (wd s 0 : Int) ∧ b = (wd s 1 : Int) ∧ c = (wd s 2 : Int) ∧ d = (wd s 3 : Int) := by
  obtain ⟨a, rfl⟩ := Int.eq_ofNat_of_zero_le ha.1
  obtain ⟨b, rfl⟩ := Int.eq_ofNat_of_zero_le hb.1
  obtain ⟨c, rfl⟩ := Int.eq_ofNat_of_zero_le hc.1
  obtain ⟨d, rfl⟩ := Int.eq_ofNat_of_zero_le hd.1
  refine ⟨ofFn fun j => if j < 64 then a.testBit j else if j < 128 then b.testBit (j - 64) else if j < 192 then c.testBit (j - 128) else d.testBit (j - 192), ?_, ?_, ?_, ?_⟩
  all_goals
    refine congrArg (fun n : Nat => (n : Int)) ?_
    apply Nat.eq_of_testBit_eq; intro j
    rw [testBit_wd, get_ofFn]
    by_cases hj : j < 64
    · simp [hj, show j < 256 by omega, show 64 + j < 256 by omega, show 128 + j < 256 by omega, show 192 + j < 256 by omega, show ¬ (64 + j < 64) by omega, show ¬ (128 + j < 64) by omega, show ¬ (128 + j < 128) by omega, show (128 + j < 192) by omega, show ¬ (192 + j < 64) by omega, show ¬ (192 + j < 128) by omega, show ¬ (192 + j < 192) by omega, show (64 + j < 128) by omega]
    · simp only [hj, decide_false, Bool.false_and]
      apply Nat.testBit_lt_two_pow
      refine Nat.lt_of_lt_of_le (m := 2 ^ 64) (by omega) (Nat.pow_le_pow_right (by decide) (by omega))
end BS
end Go.Proofs.Ytlhlgohgmbkaoaa

/- Texts put together: Sm Tra Ap Ak Af Ax Aw Ag So. -/
import Derived.WalkKit
/- Plain facts on sets of bytes, kept as 256 bits: their words, and what the machine's bit operations on words are. Nothing of the program is used. -/
namespace Go.Proofs.YtdpkhliojbeglaaDoor
namespace BS
open Go.RowKit

def wd (s : BitVec 256) (i : Nat) : Nat := (s.extractLsb' (64 * i) 64).toNat

theorem wd_lt (s : BitVec 256) (i : Nat) : wd s i < 2 ^ 64 := (s.extractLsb' (64 * i) 64).isLt
theorem wd_lt' (s : BitVec 256) (i : Nat) : wd s i < 18446744073709551616 := wd_lt s i

theorem testBit_wd (s : BitVec 256) (i j : Nat) : (wd s i).testBit j = (decide (j < 64) && s.getLsbD (64 * i + j)) := by
  unfold wd
  rw [BitVec.testBit_toNat, BitVec.getLsbD_extractLsb']

theorem wd_or (a b : BitVec 256) (i : Nat) : wd (a ||| b) i = wd a i ||| wd b i := by
  apply Nat.eq_of_testBit_eq; intro j
  rw [Nat.testBit_or]
  simp only [testBit_wd, BitVec.getLsbD_or]
  cases decide (j < 64) <;> simp
theorem wd_and (a b : BitVec 256) (i : Nat) : wd (a &&& b) i = wd a i &&& wd b i := by
  apply Nat.eq_of_testBit_eq; intro j
  rw [Nat.testBit_and]
  simp only [testBit_wd, BitVec.getLsbD_and]
  cases decide (j < 64) <;> simp

/-- Two sets with the same words are the same. -/
theorem ext_wd {a b : BitVec 256} (h0 : wd a 0 = wd b 0) (h1 : wd a 1 = wd b 1) (h2 : wd a 2 = wd b 2) (h3 : wd a 3 = wd b 3) : a = b := by
  apply BitVec.eq_of_getLsbD_eq
  intro j hj
  have key : ∀ i, wd a i = wd b i → ∀ k, k < 64 → a.getLsbD (64 * i + k) = b.getLsbD (64 * i + k) := by
    intro i h k hk
    have := congrArg (fun n => n.testBit k) h
    simp only [testBit_wd, hk, decide_true, Bool.true_and] at this
    exact this
  have hk : j % 64 < 64 := Nat.mod_lt _ (by decide)
  have hj' : 64 * (j / 64) + j % 64 = j := Nat.div_add_mod j 64
  have h4 : j / 64 = 0 ∨ j / 64 = 1 ∨ j / 64 = 2 ∨ j / 64 = 3 := by omega
  rcases h4 with h | h | h | h <;> rw [← hj', h]
  · exact key 0 h0 _ hk
  · exact key 1 h1 _ hk
  · exact key 2 h2 _ hk
  · exact key 3 h3 _ hk

theorem ofInt_toNat (a : Nat) (ha : a < 2 ^ 64) : (BitVec.ofInt 64 (a : Int)).toNat = a := by
  rw [BitVec.ofInt_natCast, BitVec.toNat_ofNat]; exact Nat.mod_eq_of_lt ha
theorem wrap_u64_nat (n : Nat) (h : n < 2 ^ 64) : IntKind.u64.wrap (n : Int) = n := by
  rw [IntKind.wrap_u64]; omega

theorem bits_or_nat (a b : Nat) (ha : a < 2 ^ 64) (hb : b < 2 ^ 64) : bits .or .u64 (a : Int) (b : Int) = ((a ||| b : Nat) : Int) := by
  show IntKind.u64.wrap ((BitVec.ofInt 64 (a : Int) ||| BitVec.ofInt 64 (b : Int)).toNat : Int) = _
  rw [BitVec.toNat_or, ofInt_toNat a ha, ofInt_toNat b hb, wrap_u64_nat _ (Nat.or_lt_two_pow ha hb)]
theorem bits_and_nat (a b : Nat) (ha : a < 2 ^ 64) (hb : b < 2 ^ 64) : bits .and .u64 (a : Int) (b : Int) = ((a &&& b : Nat) : Int) := by
  show IntKind.u64.wrap ((BitVec.ofInt 64 (a : Int) &&& BitVec.ofInt 64 (b : Int)).toNat : Int) = _
  rw [BitVec.toNat_and, ofInt_toNat a ha, ofInt_toNat b hb, wrap_u64_nat _ (Nat.and_lt_two_pow _ hb)]

theorem bits_or_wd (a b : BitVec 256) (i : Nat) : bits .or .u64 (wd a i : Int) (wd b i : Int) = (wd (a ||| b) i : Int) := by
  rw [bits_or_nat _ _ (wd_lt _ _) (wd_lt _ _), wd_or]
theorem bits_and_wd (a b : BitVec 256) (i : Nat) : bits .and .u64 (wd a i : Int) (wd b i : Int) = (wd (a &&& b) i : Int) := by
  rw [bits_and_nat _ _ (wd_lt _ _) (wd_lt _ _), wd_and]

theorem bits_andNot_wd (a b : BitVec 256) (i : Nat) (hi : i < 4) : bits .andNot .u64 (wd a i : Int) (wd b i : Int) = (wd (a &&& ~~~b) i : Int) := by
  show IntKind.u64.wrap ((BitVec.ofInt 64 (wd a i : Int) &&& ~~~BitVec.ofInt 64 (wd b i : Int)).toNat : Int) = _
  rw [wrap_u64_nat _ (BitVec.isLt _)]
  congr 1
  apply Nat.eq_of_testBit_eq; intro j
  rw [BitVec.testBit_toNat, BitVec.getLsbD_and, BitVec.getLsbD_not, testBit_wd, BitVec.getLsbD_and, BitVec.getLsbD_not]
  rw [← BitVec.testBit_toNat, ← BitVec.testBit_toNat, ofInt_toNat _ (wd_lt _ _), ofInt_toNat _ (wd_lt _ _), testBit_wd, testBit_wd]
  by_cases hj : j < 64
  · have : 64 * i + j < 256 := by omega
    simp [hj, this]
  · simp [hj]

theorem bits_not_wd (a : BitVec 256) (i : Nat) (hi : i < 4) : bits .xor .u64 IntKind.u64.max (wd a i : Int) = (wd (~~~a) i : Int) := by
  have hm : IntKind.u64.max = ((2 ^ 64 - 1 : Nat) : Int) := by decide
  rw [hm]
  show IntKind.u64.wrap ((BitVec.ofInt 64 ((2 ^ 64 - 1 : Nat) : Int) ^^^ BitVec.ofInt 64 (wd a i : Int)).toNat : Int) = _
  rw [wrap_u64_nat _ (BitVec.isLt _)]
  congr 1
  apply Nat.eq_of_testBit_eq; intro j
  rw [BitVec.testBit_toNat, BitVec.getLsbD_xor, testBit_wd, BitVec.getLsbD_not]
  rw [← BitVec.testBit_toNat, ← BitVec.testBit_toNat, ofInt_toNat _ (by omega), ofInt_toNat _ (wd_lt _ _), testBit_wd, Nat.testBit_two_pow_sub_one]
  by_cases hj : j < 64
  · have : 64 * i + j < 256 := by omega
    simp [hj, this]
  · simp [hj]

/-- The number with just the bits below n of which f says yes. -/
def natOf (f : Nat → Bool) : Nat → Nat
  | 0 => 0
  | n + 1 => 2 ^ n * (f n).toNat + natOf f n
theorem natOf_lt (f : Nat → Bool) : ∀ n, natOf f n < 2 ^ n
  | 0 => by simp [natOf]
  | n + 1 => by
    have := natOf_lt f n
    have h2 : 2 ^ (n + 1) = 2 ^ n * 2 := Nat.pow_succ ..
    cases h : f n <;> simp [natOf, h] <;> omega
theorem testBit_natOf (f : Nat → Bool) (j : Nat) : ∀ n, (natOf f n).testBit j = (decide (j < n) && f j)
  | 0 => by simp [natOf]
  | n + 1 => by
    have ih := testBit_natOf f j n
    rw [natOf, Nat.testBit_two_pow_mul_add _ (natOf_lt f n)]
    by_cases h : j < n
    · rw [if_pos h, ih]; simp [h, show j < n + 1 by omega]
    · rw [if_neg h]
      by_cases h2 : j = n
      · subst h2; cases f j <;> simp
      · simp only [show ¬ j < n + 1 by omega, decide_false, Bool.false_and]
        apply Nat.testBit_lt_two_pow
        have : (f n).toNat ≤ 1 := Bool.toNat_le _
        have h3 : 2 ^ 1 ≤ 2 ^ (j - n) := Nat.pow_le_pow_right (by decide) (by omega)
        omega
/-- The set of the numbers of which f says yes. -/
def ofFn (f : Nat → Bool) : BitVec 256 := BitVec.ofNat 256 (natOf f 256)
theorem get_ofFn (f : Nat → Bool) (j : Nat) : (ofFn f).getLsbD j = (decide (j < 256) && f j) := by
  unfold ofFn
  rw [BitVec.getLsbD_ofNat, testBit_natOf]
  cases decide (j < 256) <;> simp

/-- What lies below n. -/
def mask (n : Nat) : BitVec 256 := ofFn fun j => decide (j < n)

theorem wd_mask (n i : Nat) (hi : i < 4) : wd (mask n) i = 2 ^ (min (n - 64 * i) 64) - 1 := by
  apply Nat.eq_of_testBit_eq; intro j
  rw [testBit_wd, Nat.testBit_two_pow_sub_one, mask, get_ofFn]
  by_cases hj : j < 64
  · have : 64 * i + j < 256 := by omega
    simp only [hj, this, decide_true, Bool.true_and, decide_eq_decide]
    omega
  · simp only [hj, decide_false, Bool.false_and]
    symm; rw [decide_eq_false_iff_not]; omega

/-- From lo to hi. -/
def range (lo hi : Nat) : BitVec 256 := ofFn fun j => decide (lo ≤ j) && decide (j ≤ hi)
theorem range_eq (lo hi : Nat) : mask (hi + 1) &&& ~~~(mask lo) = range lo hi := by
  apply BitVec.eq_of_getLsbD_eq
  intro j hj
  rw [BitVec.getLsbD_and, BitVec.getLsbD_not, mask, mask, range, get_ofFn, get_ofFn, get_ofFn]
  simp only [hj, decide_true, Bool.true_and]
  rw [Bool.and_comm, ← decide_not]
  congr 1
  · rw [decide_eq_decide]; omega
  · rw [decide_eq_decide]; omega

theorem pow_wrap1 : IntKind.u64.wrap (IntKind.u64.wrap 18446744073709551616 - 1) = ((2 ^ 64 - 1 : Nat) : Int) := by decide
theorem pow_wrap2 (k : Nat) (hk : k ≤ 64) : IntKind.u64.wrap (IntKind.u64.wrap (2 ^ k) - 1) = ((2 ^ k - 1 : Nat) : Int) := by
  rw [IntKind.wrap_u64, IntKind.wrap_u64]
  have h1 : (2 : Nat) ^ k ≤ 2 ^ 64 := Nat.pow_le_pow_right (by decide) hk
  have h2 : 0 < (2 : Nat) ^ k := Nat.two_pow_pos k
  have h3 : ((2 : Int) ^ k) = ((2 ^ k : Nat) : Int) := by simp
  rw [h3]
  generalize (2 : Nat) ^ k = x at *
  omega

/-- The bit test of 'Has'. -/
theorem has_word (a : BitVec 256) (i k : Nat) (hk : k < 64) : (bits .and .u64 ((wd a i : Int) / 2 ^ k) 1 == 1) = a.getLsbD (64 * i + k) := by
  have h1 : ((wd a i : Int) / 2 ^ k) = ((wd a i / 2 ^ k : Nat) : Int) := by simp
  have h2 : wd a i / 2 ^ k < 2 ^ 64 := Nat.lt_of_le_of_lt (Nat.div_le_self _ _) (wd_lt _ _)
  have h3 : (1 : Int) = ((1 : Nat) : Int) := rfl
  rw [h1, h3, bits_and_nat _ _ h2 (by decide), Nat.and_one_is_mod]
  have h4 := testBit_wd a i k
  rw [Nat.testBit_eq_decide_div_mod_eq] at h4
  simp only [hk, decide_true, Bool.true_and] at h4
  rw [← h4]
  by_cases h : wd a i / 2 ^ k % 2 = 1
  · rw [h]; rfl
  · have : wd a i / 2 ^ k % 2 = 0 := by omega
    rw [this]; rfl

/-- The set as the machine's value: four words. -/
@[reducible] def setV (s : BitVec 256) : Value := .agg #[.int .u64 (wd s 0), .int .u64 (wd s 1), .int .u64 (wd s 2), .int .u64 (wd s 3)]

/-- Any four words are a set's. -/
theorem of_words (a b c d : Int) (ha : 0 ≤ a ∧ a < 18446744073709551616) (hb : 0 ≤ b ∧ b < 18446744073709551616) (hc : 0 ≤ c ∧ c < 18446744073709551616) (hd : 0 ≤ d ∧ d < 18446744073709551616) :
    ∃ s : BitVec 256, a = (wd s 0 : Int) ∧ b = (wd s 1 : Int) ∧ c = (wd s 2 : Int) ∧ d = (wd s 3 : Int) := by
  obtain ⟨a, rfl⟩ := Int.eq_ofNat_of_zero_le ha.1
  obtain ⟨b, rfl⟩ := Int.eq_ofNat_of_zero_le hb.1
  obtain ⟨c, rfl⟩ := Int.eq_ofNat_of_zero_le hc.1
  obtain ⟨d, rfl⟩ := Int.eq_ofNat_of_zero_le hd.1
  refine ⟨ofFn fun j => if j < 64 then a.testBit j else if j < 128 then b.testBit (j - 64) else if j < 192 then c.testBit (j - 128) else d.testBit (j - 192), ?_, ?_, ?_, ?_⟩
  all_goals
    refine congrArg (fun n : Nat => (n : Int)) ?_
    apply Nat.eq_of_testBit_eq; intro j
    rw [testBit_wd, get_ofFn]
    by_cases hj : j < 64
    · simp [hj, show j < 256 by omega, show 64 + j < 256 by omega, show 128 + j < 256 by omega, show 192 + j < 256 by omega, show ¬ (64 + j < 64) by omega, show ¬ (128 + j < 64) by omega, show ¬ (128 + j < 128) by omega, show (128 + j < 192) by omega, show ¬ (192 + j < 64) by omega, show ¬ (192 + j < 128) by omega, show ¬ (192 + j < 192) by omega, show (64 + j < 128) by omega]
    · simp only [hj, decide_false, Bool.false_and]
      apply Nat.testBit_lt_two_pow
      refine Nat.lt_of_lt_of_le (m := 2 ^ 64) (by omega) (Nat.pow_le_pow_right (by decide) (by omega))
end BS
end Go.Proofs.YtdpkhliojbeglaaDoor

/- Entries of parse trees, and which list is ahead, plainly. Stage 14. -/
namespace Go.Proofs.YtdpkhliojbeglaaDoor
open Go.RowKit

/-- An entry. -/
@[ext] structure EnN where
  depth : Int
  node : Int
  from_ : Int
  to : Int
deriving DecidableEq
def zEn : EnN := ⟨0, 0, 0, 0⟩
/-- -1, if the first number is less, 1, if it is greater. -/
def sgT (a b : Int) : Int := if a < b then -1 else if b < a then 1 else 0
/-- Which of two entries is ahead. -/
def cmpE (x y : EnN) : Int :=
  if x.depth ≠ y.depth then sgT y.depth x.depth else if x.node ≠ y.node then sgT x.node y.node else if x.from_ ≠ y.from_ then sgT x.from_ y.from_ else if x.to ≠ y.to then sgT y.to x.to else 0
theorem cmpE_range (x y : EnN) : cmpE x y = -1 ∨ cmpE x y = 0 ∨ cmpE x y = 1 := by
  unfold cmpE sgT
  repeat' split
  all_goals omega
theorem cmpE_anti (x y : EnN) : cmpE y x = - cmpE x y := by
  unfold cmpE sgT
  repeat' split
  all_goals omega
theorem cmpE_zero (x y : EnN) : cmpE x y = 0 ↔ x = y := by
  constructor
  · intro h
    have h1 : x.depth = y.depth ∧ x.node = y.node ∧ x.from_ = y.from_ ∧ x.to = y.to := by
      unfold cmpE sgT at h
      repeat' split at h
      all_goals omega
    exact EnN.ext h1.1 h1.2.1 h1.2.2.1 h1.2.2.2
  · rintro rfl
    unfold cmpE
    simp
theorem cmpE_trans (x y z : EnN) (h1 : cmpE x y = -1) (h2 : cmpE y z = -1) : cmpE x z = -1 := by
  unfold cmpE sgT at *
  repeat' split at h1
  all_goals first | omega | skip
  all_goals (repeat' split at h2)
  all_goals first | omega | skip
  all_goals (repeat' split)
  all_goals omega
/-- Positions i to i + k of two rows of entries. -/
def lexU (f g : Nat → EnN) : Nat → Nat → Int
  | 0, _ => 0
  | k + 1, i => if cmpE (f i) (g i) = 0 then lexU f g k (i + 1) else cmpE (f i) (g i)
theorem lexU_range (f g : Nat → EnN) : ∀ k i, lexU f g k i = -1 ∨ lexU f g k i = 0 ∨ lexU f g k i = 1
  | 0, _ => .inr (.inl rfl)
  | k + 1, i => by
    unfold lexU
    split
    · exact lexU_range f g k (i + 1)
    · exact cmpE_range _ _
theorem lexU_anti (f g : Nat → EnN) : ∀ k i, lexU g f k i = - lexU f g k i
  | 0, _ => rfl
  | k + 1, i => by
    have ih := lexU_anti f g k (i + 1)
    unfold lexU
    rw [cmpE_anti (f i) (g i)]
    by_cases h : cmpE (f i) (g i) = 0
    · rw [if_pos h, if_pos (by omega), ih]
    · rw [if_neg h, if_neg (by omega)]
theorem lexU_zero (f g : Nat → EnN) : ∀ k i, lexU f g k i = 0 ↔ ∀ j, i ≤ j → j < i + k → f j = g j
  | 0, i => ⟨fun _ j h1 h2 => absurd h2 (by omega), fun _ => rfl⟩
  | k + 1, i => by
    have ih := lexU_zero f g k (i + 1)
    unfold lexU
    by_cases h : cmpE (f i) (g i) = 0
    · rw [if_pos h, ih]
      have h0 := (cmpE_zero _ _).1 h
      constructor
      · intro hh j h1 h2
        by_cases hj : j = i
        · rw [hj]; exact h0
        · exact hh j (by omega) (by omega)
      · intro hh j h1 h2
        exact hh j (by omega) (by omega)
    · rw [if_neg h]
      constructor
      · intro hh; exact absurd hh h
      · intro hh; exact absurd ((cmpE_zero _ _).2 (hh i (Nat.le_refl _) (by omega))) h
theorem lexU_self (f : Nat → EnN) (k i : Nat) : lexU f f k i = 0 := (lexU_zero f f k i).2 fun _ _ _ => rfl
theorem lexU_trans (f g h : Nat → EnN) : ∀ k i, lexU f g k i = -1 → lexU g h k i = -1 → lexU f h k i = -1
  | 0, _, h1, _ => by cases h1
  | k + 1, i, h1, h2 => by
    have ih := lexU_trans f g h k (i + 1)
    unfold lexU at h1 h2 ⊢
    by_cases e1 : cmpE (f i) (g i) = 0
    · have e1' := (cmpE_zero _ _).1 e1
      rw [if_pos e1] at h1
      rw [e1']
      by_cases e2 : cmpE (g i) (h i) = 0
      · rw [if_pos e2] at h2 ⊢
        exact ih h1 h2
      · rw [if_neg e2] at h2 ⊢
        exact h2
    · rw [if_neg e1] at h1
      by_cases e2 : cmpE (g i) (h i) = 0
      · have e2' := (cmpE_zero _ _).1 e2
        rw [← e2', if_neg e1]
        exact h1
      · rw [if_neg e2] at h2
        have h3 := cmpE_trans _ _ _ h1 h2
        rw [if_neg (by omega), h3]
theorem lexU_congr {f g f' g' : Nat → EnN} : ∀ k i, (∀ j, i ≤ j → j < i + k → f j = f' j ∧ g j = g' j) → lexU f g k i = lexU f' g' k i
  | 0, _, _ => rfl
  | k + 1, i, h => by
    obtain ⟨h1, h2⟩ := h i (Nat.le_refl _) (by omega)
    unfold lexU
    rw [h1, h2, lexU_congr k (i + 1) fun j hj hk => h j (by omega) (by omega)]
/-- Behind the ends of both nothing is told. -/
theorem lexU_more (f g : Nat → EnN) (n : Nat) (hz : ∀ j, n ≤ j → f j = g j) : ∀ k i m, n ≤ i + k → lexU f g (k + m) i = lexU f g k i
  | 0, i, m, h => by
    rw [Nat.zero_add]
    exact ((lexU_zero f g m i).2 fun j h1 _ => hz j (by omega)).trans rfl
  | k + 1, i, m, h => by
    rw [show k + 1 + m = (k + m) + 1 by omega]
    unfold lexU
    rw [lexU_more f g n hz k (i + 1) m (by omega)]
/-- An entry of a list, or none. -/
def atE (l : List EnN) (i : Nat) : EnN := l.getD i zEn
theorem atE_lt (l : List EnN) (i : Nat) (h : i < l.length) : atE l i = l[i] := by
  unfold atE
  rw [List.getD_eq_getElem?_getD, List.getElem?_eq_getElem h]
  rfl
theorem atE_ge (l : List EnN) (i : Nat) (h : l.length ≤ i) : atE l i = zEn := by
  unfold atE
  rw [List.getD_eq_getElem?_getD, List.getElem?_eq_none h]
  rfl
/-- Which of two lists is ahead. -/
def aheadT (a b : List EnN) : Int := lexU (atE a) (atE b) (max a.length b.length) 0
theorem ahead_any (a b : List EnN) (n : Nat) (h1 : a.length ≤ n) (h2 : b.length ≤ n) : lexU (atE a) (atE b) n 0 = aheadT a b := by
  unfold aheadT
  obtain ⟨m, hm⟩ : ∃ m, n = max a.length b.length + m := ⟨n - max a.length b.length, by omega⟩
  rw [hm]
  exact lexU_more _ _ (max a.length b.length) (fun j hj => by rw [atE_ge a j (by omega), atE_ge b j (by omega)]) _ 0 m (by omega)
theorem ahead_range (a b : List EnN) : aheadT a b = -1 ∨ aheadT a b = 0 ∨ aheadT a b = 1 := lexU_range _ _ _ _
theorem ahead_anti (a b : List EnN) : aheadT b a = - aheadT a b := by
  have h := lexU_anti (atE a) (atE b) (max a.length b.length) 0
  rw [ahead_any b a _ (by omega) (by omega)] at h
  exact h
theorem ahead_self (a : List EnN) : aheadT a a = 0 := lexU_self _ _ _
theorem ahead_trans (a b c : List EnN) (h1 : aheadT a b = -1) (h2 : aheadT b c = -1) : aheadT a c = -1 := by
  obtain ⟨n, hn⟩ : ∃ n, n = max a.length (max b.length c.length) := ⟨_, rfl⟩
  rw [← ahead_any a b n (by omega) (by omega)] at h1
  rw [← ahead_any b c n (by omega) (by omega)] at h2
  rw [← ahead_any a c n (by omega) (by omega)]
  exact lexU_trans _ _ _ _ _ h1 h2
theorem ahead_same (a b c : List EnN) (h : aheadT a b = 0) : aheadT b c = aheadT a c := by
  obtain ⟨n, hn⟩ : ∃ n, n = max a.length (max b.length c.length) := ⟨_, rfl⟩
  rw [← ahead_any a b n (by omega) (by omega)] at h
  rw [← ahead_any b c n (by omega) (by omega), ← ahead_any a c n (by omega) (by omega)]
  have h0 := (lexU_zero _ _ _ _).1 h
  exact lexU_congr n 0 fun j h1 h2 => ⟨(h0 j h1 h2).symm, rfl⟩
/-- What TreeOrder says. -/
theorem order_holds (a b c : List EnN) : aheadT a b = - aheadT b a ∧ -1 ≤ aheadT a b ∧ aheadT a b ≤ 1 ∧ aheadT a a = 0 ∧ (aheadT a b < 0 → aheadT b c < 0 → aheadT a c < 0) ∧ (aheadT a b = 0 → aheadT b c = aheadT a c) := by
  have r1 := ahead_range a b
  have r2 := ahead_range b c
  refine ⟨by rw [ahead_anti a b]; omega, by omega, by omega, ahead_self a, fun h1 h2 => ?_, ahead_same a b c⟩
  have := ahead_trans a b c (by omega) (by omega)
  omega
/-- Two lists without an empty entry of which none is ahead are one. -/
theorem ahead_eq (a b : List EnN) (ha : ∀ x ∈ a, x ≠ zEn) (hb : ∀ x ∈ b, x ≠ zEn) (h : aheadT a b = 0) : a = b := by
  have h0 := (lexU_zero _ _ _ _).1 h
  have key : ∀ j, atE a j = atE b j := fun j => by
    by_cases hj : j < max a.length b.length
    · exact h0 j (Nat.zero_le _) (by omega)
    · rw [atE_ge a j (by omega), atE_ge b j (by omega)]
  have hl : a.length = b.length := by
    rcases Nat.lt_trichotomy a.length b.length with h1 | h1 | h1
    · have := key a.length
      rw [atE_ge a _ (Nat.le_refl _), atE_lt b _ h1] at this
      exact absurd this.symm (hb _ (List.getElem_mem h1))
    · exact h1
    · have := key b.length
      rw [atE_ge b _ (Nat.le_refl _), atE_lt a _ h1] at this
      exact absurd this (ha _ (List.getElem_mem h1))
  apply List.ext_getElem hl
  intro i h1 h2
  have := key i
  rw [atE_lt a i h1, atE_lt b i h2] at this
  exact this
end Go.Proofs.YtdpkhliojbeglaaDoor

/- Trees as lists of nodes, plainly: the sizes of the trees that stand side by side, the last one first. Nothing of the program is used. -/
namespace Go.Proofs.YtdpkhliojbeglaaDoor

/-- One node more, with k kids: it takes the last k trees. -/
def stepF (st : List Nat) (k : Nat) : List Nat := (1 + (st.take k).sum) :: st.drop k
/-- The trees behind some nodes, by their kids' numbers; none, if a node takes more than there are. -/
def stackF : List Nat → List Nat → Option (List Nat)
  | st, [] => some st
  | st, k :: ks => if k ≤ st.length then stackF (stepF st k) ks else none
theorem stackF_append (ks ls : List Nat) : ∀ st, stackF st (ks ++ ls) = (stackF st ks).bind fun st' => stackF st' ls := by
  induction ks with
  | nil => intro st; rfl
  | cons k ks ih =>
    intro st
    rw [List.cons_append, stackF, stackF]
    by_cases h : k ≤ st.length
    · rw [if_pos h, if_pos h]; exact ih _
    · rw [if_neg h, if_neg h]; rfl
theorem stackF_snoc (st : List Nat) (ks : List Nat) (k : Nat) : stackF st (ks ++ [k]) = (stackF st ks).bind fun st' => if k ≤ st'.length then some (stepF st' k) else none := by
  rw [stackF_append]
  cases stackF st ks with
  | none => rfl
  | some st' => show stackF st' [k] = _; rw [stackF]; rfl
theorem stepF_sum (st : List Nat) (k : Nat) : (stepF st k).sum = st.sum + 1 := by
  have h : st.sum = (st.take k).sum + (st.drop k).sum := by rw [← List.sum_append, List.take_append_drop]
  rw [stepF, List.sum_cons, h]
  omega
theorem stepF_len (st : List Nat) (k : Nat) : (stepF st k).length = st.length - k + 1 := by
  rw [stepF, List.length_cons, List.length_drop]
theorem stepF_pos (st : List Nat) (k : Nat) (h : ∀ x ∈ st, 0 < x) : ∀ x ∈ stepF st k, 0 < x := by
  intro x hx
  rw [stepF, List.mem_cons] at hx
  rcases hx with rfl | hx
  · omega
  · exact h x (List.mem_of_mem_drop hx)
theorem stackF_sum : ∀ (ks st st' : List Nat), stackF st ks = some st' → st'.sum = st.sum + ks.length
  | [], st, st', h => by cases h; rfl
  | k :: ks, st, st', h => by
    rw [stackF] at h
    by_cases hk : k ≤ st.length
    · rw [if_pos hk] at h
      rw [stackF_sum ks _ _ h, stepF_sum, List.length_cons]; omega
    · rw [if_neg hk] at h; cases h
theorem stackF_pos : ∀ (ks st st' : List Nat), (∀ x ∈ st, 0 < x) → stackF st ks = some st' → ∀ x ∈ st', 0 < x
  | [], st, st', h0, h => by cases h; exact h0
  | k :: ks, st, st', h0, h => by
    rw [stackF] at h
    by_cases hk : k ≤ st.length
    · rw [if_pos hk] at h
      exact stackF_pos ks _ _ (stepF_pos st k h0) h
    · rw [if_neg hk] at h; cases h
/-- The size of each node, in their order. -/
def sizesF : List Nat → List Nat → List Nat
  | _, [] => []
  | st, k :: ks => (1 + (st.take k).sum) :: sizesF (stepF st k) ks
theorem sizesF_len : ∀ (ks st : List Nat), (sizesF st ks).length = ks.length
  | [], _ => rfl
  | k :: ks, st => by rw [sizesF, List.length_cons, List.length_cons, sizesF_len ks]
theorem sizesF_snoc : ∀ (ks st st' : List Nat) (k : Nat), stackF st ks = some st' → sizesF st (ks ++ [k]) = sizesF st ks ++ [1 + (st'.take k).sum]
  | [], st, st', k, h => by cases h; rfl
  | j :: ks, st, st', k, h => by
    rw [stackF] at h
    by_cases hk : j ≤ st.length
    · rw [if_pos hk] at h
      rw [List.cons_append, sizesF, sizesF, List.cons_append, sizesF_snoc ks _ _ k h]
    · rw [if_neg hk] at h; cases h
/-- The trees' roots: at the place where the j-th tree from the end has its root stands its size. -/
def RootsF (out : List Nat) (st : List Nat) : Prop := ∀ j (h : j < st.length), (st.take j).sum < out.length ∧ out[out.length - 1 - (st.take j).sum]? = some st[j]
theorem roots_step (out st : List Nat) (k : Nat) (hk : k ≤ st.length) (h : RootsF out st) : RootsF (out ++ [1 + (st.take k).sum]) (stepF st k) := by
  intro j hj
  cases j with
  | zero => simp [stepF]
  | succ j =>
    rw [stepF_len st k] at hj
    have hj' : k + j < st.length := by omega
    obtain ⟨h1, h2⟩ := h (k + j) hj'
    have e1 : ((stepF st k).take (j + 1)).sum = 1 + (st.take (k + j)).sum := by
      rw [stepF, List.take_succ_cons, List.sum_cons, List.take_add, List.sum_append]
      omega
    have e2 : (stepF st k)[j + 1]'(by rw [stepF_len st k]; omega) = st[k + j] := by simp [stepF]
    have hl : (out ++ [1 + (st.take k).sum]).length = out.length + 1 := by simp
    refine ⟨by rw [e1, hl]; omega, ?_⟩
    rw [e1, e2, hl, List.getElem?_append_left (by omega), ← h2]
    congr 1
    omega
theorem roots_all : ∀ (ks st out st' : List Nat), (∀ x ∈ st, 0 < x) → RootsF out st → stackF st ks = some st' → RootsF (out ++ sizesF st ks) st'
  | [], st, out, st', _, h, hs => by cases hs; rw [sizesF, List.append_nil]; exact h
  | k :: ks, st, out, st', hp, h, hs => by
    rw [stackF] at hs
    by_cases hk : k ≤ st.length
    · rw [if_pos hk] at hs
      rw [sizesF, show out ++ (1 + (st.take k).sum) :: sizesF (stepF st k) ks = (out ++ [1 + (st.take k).sum]) ++ sizesF (stepF st k) ks by simp]
      exact roots_all ks _ _ _ (stepF_pos st k hp) (roots_step out st k hk h) hs
    · rw [if_neg hk] at hs; cases hs
end Go.Proofs.YtdpkhliojbeglaaDoor

/- The kids of nodes, plainly: each node but those that are left is just one node's kid. Nothing of the program is used. -/
namespace Go.Proofs.YtdpkhliojbeglaaDoor

/-- The roots' places behind i nodes, the last one first. -/
def posF : Nat → List Nat → List Nat
  | _, [] => []
  | i, z :: st => (i - 1) :: posF (i - z) st
theorem posF_len : ∀ (st : List Nat) (i : Nat), (posF i st).length = st.length
  | [], _ => rfl
  | z :: st, i => by rw [posF, List.length_cons, List.length_cons, posF_len st]
theorem posF_get : ∀ (st : List Nat) (i j : Nat) (h : j < (posF i st).length), (posF i st)[j] = i - (st.take j).sum - 1
  | z :: st, i, 0, _ => by simp [posF]
  | z :: st, i, j + 1, h => by
    have h' : j < (posF (i - z) st).length := by rw [posF_len] at h ⊢; simpa using h
    have := posF_get st (i - z) j h'
    simp only [posF, List.getElem_cons_succ, List.take_succ_cons, List.sum_cons]
    rw [this]
    omega
theorem posF_split : ∀ (k : Nat) (st : List Nat) (i : Nat), posF i st = (posF i st).take k ++ posF (i - (st.take k).sum) (st.drop k)
  | 0, st, i => by simp
  | k + 1, [], i => by simp [posF]
  | k + 1, z :: st, i => by
    rw [posF, List.take_succ_cons, List.take_succ_cons, List.drop_succ_cons, List.sum_cons, List.cons_append, ← Nat.sub_sub, ← posF_split k st (i - z)]
theorem posF_step (i : Nat) (st : List Nat) (k : Nat) : posF (i + 1) (stepF st k) = i :: posF (i - (st.take k).sum) (st.drop k) := by
  rw [stepF, posF, show i + 1 - (1 + (st.take k).sum) = i - (st.take k).sum by omega]
  rfl
/-- The kids of each node, from the right. -/
def allKids : Nat → List Nat → List Nat → List (List Nat)
  | _, _, [] => []
  | i, st, k :: ks => (posF i st).take k :: allKids (i + 1) (stepF st k) ks
theorem kids_once : ∀ (ks st st' : List Nat) (i : Nat), stackF st ks = some st' → ∀ x,
    (allKids i st ks).flatten.count x + (posF (i + ks.length) st').count x = (posF i st).count x + if i ≤ x ∧ x < i + ks.length then 1 else 0
  | [], st, st', i, h, x => by
    cases h
    rw [if_neg (by simp)]
    simp [allKids]
  | k :: ks, st, st', i, h, x => by
    rw [stackF] at h
    by_cases hk : k ≤ st.length
    · rw [if_pos hk] at h
      have ih := kids_once ks _ _ (i + 1) h x
      rw [posF_step, List.count_cons] at ih
      have hs : (posF i st).count x = ((posF i st).take k).count x + (posF (i - (st.take k).sum) (st.drop k)).count x := by
        conv => lhs; rw [posF_split k st i]
        rw [List.count_append]
      rw [allKids, List.flatten_cons, List.count_append, List.length_cons, show i + (ks.length + 1) = i + 1 + ks.length by omega, hs]
      by_cases hx : i = x
      · subst hx
        have e1 : (i == i) = true := by simp
        rw [e1, if_pos rfl, if_neg (by omega)] at ih
        rw [if_pos (by omega)]
        omega
      · have e1 : (i == x) = false := by simpa using hx
        rw [e1, if_neg (by decide)] at ih
        by_cases hx2 : i + 1 ≤ x ∧ x < i + 1 + ks.length
        · rw [if_pos hx2] at ih
          rw [if_pos (by omega)]
          omega
        · rw [if_neg hx2] at ih
          rw [if_neg (by omega)]
          omega
    · rw [if_neg hk] at h; cases h
/-- In a tree of n nodes each node but the last one is just one node's kid, and the last one none's. -/
theorem kids_tree (ks : List Nat) (n : Nat) (hn : ks.length = n) (h : stackF [] ks = some [n]) (x : Nat) (hx : x < n) : (allKids 0 [] ks).flatten.count x = if x = n - 1 then 0 else 1 := by
  have := kids_once ks [] [n] 0 h x
  rw [Nat.zero_add, hn, if_pos ⟨Nat.zero_le _, hx⟩] at this
  simp only [posF, List.count_nil, List.count_cons, Nat.zero_add] at this
  by_cases he : x = n - 1
  · subst he
    rw [if_pos rfl]
    simp at this
    omega
  · rw [if_neg he]
    have e : ((n - 1) == x) = false := by simpa using fun h => he h.symm
    rw [e] at this
    simpa using this
end Go.Proofs.YtdpkhliojbeglaaDoor

/- Is a list of nodes a tree: plainly, by how many things there are. Nothing of the program is used. -/
namespace Go.Proofs.YtdpkhliojbeglaaDoor

/-- How many things there are behind some nodes, by their kids' numbers. -/
def manyF : Nat → List Int → Option Nat
  | m, [] => some m
  | m, k :: ks => if k < 0 ∨ (m : Int) < k then none else manyF (m - k.toNat + 1) ks
theorem many_stack : ∀ (ks : List Int) (st : List Nat), manyF st.length ks = if (ks.all fun k => decide (0 ≤ k)) = true then (stackF st (ks.map Int.toNat)).map List.length else none
  | [], st => rfl
  | k :: ks, st => by
    rw [manyF, List.all_cons, List.map_cons, stackF]
    by_cases h0 : k < 0
    · rw [if_pos (.inl h0), decide_eq_false (show ¬ 0 ≤ k by omega), Bool.false_and, if_neg (by decide)]
    · rw [decide_eq_true (show 0 ≤ k by omega), Bool.true_and]
      by_cases h1 : (st.length : Int) < k
      · rw [if_pos (.inr h1), if_neg (show ¬ k.toNat ≤ st.length by omega)]
        split <;> rfl
      · rw [if_neg (by omega), if_pos (show k.toNat ≤ st.length by omega), ← stepF_len st k.toNat]
        exact many_stack ks (stepF st k.toNat)
/-- **A list is a tree just if one tree of all nodes is left.** -/
theorem formed_iff (ks : List Int) : manyF 0 ks = some 1 ↔ (∀ k ∈ ks, 0 ≤ k) ∧ stackF [] (ks.map Int.toNat) = some [ks.length] := by
  have h := many_stack ks []
  rw [show ([] : List Nat).length = 0 from rfl] at h
  rw [h]
  have hall : ((ks.all fun k => decide (0 ≤ k)) = true) ↔ ∀ k ∈ ks, 0 ≤ k := by simp
  by_cases ha : (ks.all fun k => decide (0 ≤ k)) = true
  · rw [if_pos ha]
    constructor
    · intro h1
      refine ⟨hall.1 ha, ?_⟩
      cases hs : stackF [] (ks.map Int.toNat) with
      | none => rw [hs] at h1; cases h1
      | some st =>
        rw [hs] at h1
        have hl : st.length = 1 := by simpa using h1
        have hsum := stackF_sum _ _ _ hs
        obtain ⟨x, rfl⟩ := List.length_eq_one_iff.1 hl
        simp at hsum
        rw [hsum]
    · rintro ⟨_, h2⟩
      rw [h2]; rfl
  · rw [if_neg ha]
    constructor
    · intro h1; cases h1
    · rintro ⟨h1, _⟩; exact absurd (hall.2 h1) ha
/-- Behind each node that a tree has, there is a stack. -/
theorem stack_prefix (ks : List Nat) (st st' : List Nat) (h : stackF st ks = some st') (i : Nat) (_hi : i ≤ ks.length) : ∃ s, stackF st (ks.take i) = some s := by
  have e : ks = ks.take i ++ ks.drop i := (List.take_append_drop i ks).symm
  rw [e, stackF_append] at h
  cases hs : stackF st (ks.take i) with
  | none => rw [hs] at h; cases h
  | some s => exact ⟨s, rfl⟩
/-- A node's kids are as many as it says, and stand ahead of it. -/
theorem stack_at (ks : List Nat) (st st' : List Nat) (h : stackF st ks = some st') (i : Nat) (hi : i < ks.length) : ∃ s, stackF st (ks.take i) = some s ∧ ks[i] ≤ s.length ∧ s.sum = st.sum + i := by
  obtain ⟨s, hs⟩ := stack_prefix ks st st' h i (by omega)
  have e : ks = ks.take i ++ (ks[i] :: ks.drop (i + 1)) := by rw [← List.drop_eq_getElem_cons hi, List.take_append_drop]
  refine ⟨s, hs, ?_, ?_⟩
  · rw [e, stackF_append, hs] at h
    have h' : stackF s (ks[i] :: ks.drop (i + 1)) = some st' := h
    rw [stackF] at h'
    by_cases hk : ks[i] ≤ s.length
    · exact hk
    · rw [if_neg hk] at h'; cases h'
  · have := stackF_sum _ _ _ hs
    rw [this, List.length_take]
    omega
end Go.Proofs.YtdpkhliojbeglaaDoor

/- Where a node's kids stand: side by side, right ahead of it. Nothing of the program is used. -/
namespace Go.Proofs.YtdpkhliojbeglaaDoor

theorem take_sum (s : List Nat) (j : Nat) (h : j < s.length) : (s.take (j + 1)).sum = (s.take j).sum + s[j] := by
  have e : s.take (j + 1) = s.take j ++ [s[j]] := by rw [List.take_add_one, List.getElem?_eq_getElem h]; rfl
  rw [e, List.sum_append]
  simp
theorem take_sum_le (s : List Nat) (j : Nat) : (s.take j).sum ≤ s.sum := by
  have h : s.sum = (s.take j).sum + (s.drop j).sum := by rw [← List.sum_append, List.take_append_drop]
  omega
theorem kid_at (s : List Nat) (i j : Nat) (hp : ∀ x ∈ s, 0 < x) (hs : s.sum ≤ i) (h : j < s.length) (h' : j < (posF i s).length) :
    (posF i s)[j] + 1 + (s.take j).sum = i ∧ (posF i s)[j] + 1 = s[j] + (i - (s.take (j + 1)).sum) := by
  have e := posF_get s i j h'
  have t := take_sum s j h
  have l := take_sum_le s (j + 1)
  have p := hp s[j] (List.getElem_mem h)
  rw [e]
  omega
/-- The size that stands at a kid's place. -/
theorem kid_size (out s : List Nat) (i j : Nat) (hi : out.length = i) (h : RootsF out s) (hj : j < s.length) (h' : j < (posF i s).length) : out[(posF i s)[j]]? = some s[j] := by
  obtain ⟨h1, h2⟩ := h j hj
  rw [posF_get s i j h', ← h2, hi]
  congr 1
  omega
/-- The sizes up to a node are what its stack says. -/
theorem roots_at (ks : List Nat) (i : Nat) (hi : i < ks.length) (s : List Nat) (hs : stackF [] (ks.take i) = some s) :
    RootsF (sizesF [] (ks.take i)) s ∧ (sizesF [] ks).take i = sizesF [] (ks.take i) ∧ (sizesF [] ks)[i]? = some (1 + (s.take ks[i]).sum) := by
  have hr := roots_all (ks.take i) [] [] s (by simp) (by intro j hj; simp at hj) hs
  rw [List.nil_append] at hr
  have e : ks = ks.take i ++ (ks[i] :: ks.drop (i + 1)) := by rw [← List.drop_eq_getElem_cons hi, List.take_append_drop]
  have hl : (sizesF [] (ks.take i)).length = i := by rw [sizesF_len, List.length_take]; omega
  have ea : sizesF [] ks = sizesF [] (ks.take i) ++ (1 + (s.take ks[i]).sum) :: sizesF (stepF s ks[i]) (ks.drop (i + 1)) := by
    have : ∀ (as bs st st' : List Nat), stackF st as = some st' → sizesF st (as ++ bs) = sizesF st as ++ sizesF st' bs := by
      intro as
      induction as with
      | nil => intro bs st st' h; cases h; rfl
      | cons a as ih =>
        intro bs st st' h
        rw [stackF] at h
        by_cases hk : a ≤ st.length
        · rw [if_pos hk] at h
          rw [List.cons_append, sizesF, sizesF, List.cons_append, ih bs _ _ h]
        · rw [if_neg hk] at h; cases h
    conv => lhs; rw [e]
    rw [this _ _ _ _ hs, sizesF]
  refine ⟨hr, ?_, ?_⟩
  · rw [ea, List.take_append_of_le_length (by omega), List.take_of_length_le (by omega)]
  · rw [ea, List.getElem?_append_right (by omega), hl, Nat.sub_self]
    rfl
end Go.Proofs.YtdpkhliojbeglaaDoor

/- Trees beside other trees, plainly. Nothing of the program is used. -/
namespace Go.Proofs.YtdpkhliojbeglaaDoor

theorem stepF_below (st base : List Nat) (k : Nat) (h : k ≤ st.length) : stepF (st ++ base) k = stepF st k ++ base := by
  rw [stepF, stepF, List.take_append_of_le_length h, List.drop_append_of_le_length h]
  rfl
/-- What stands ahead stays. -/
theorem stackF_below (base : List Nat) : ∀ (ks st st' : List Nat), stackF st ks = some st' → stackF (st ++ base) ks = some (st' ++ base)
  | [], st, st', h => by cases h; rfl
  | k :: ks, st, st', h => by
    rw [stackF] at h ⊢
    by_cases hk : k ≤ st.length
    · rw [if_pos hk] at h
      rw [if_pos (by rw [List.length_append]; omega), stepF_below st base k hk]
      exact stackF_below base ks _ _ h
    · rw [if_neg hk] at h; cases h
theorem sizesF_below (base : List Nat) : ∀ (ks st st' : List Nat), stackF st ks = some st' → sizesF (st ++ base) ks = sizesF st ks
  | [], _, _, _ => rfl
  | k :: ks, st, st', h => by
    rw [stackF] at h
    by_cases hk : k ≤ st.length
    · rw [if_pos hk] at h
      rw [sizesF, sizesF, stepF_below st base k hk, sizesF_below base ks _ _ h, List.take_append_of_le_length hk]
    · rw [if_neg hk] at h; cases h
theorem sizesF_append : ∀ (ks ls st st' : List Nat), stackF st ks = some st' → sizesF st (ks ++ ls) = sizesF st ks ++ sizesF st' ls
  | [], _, _, _, h => by cases h; rfl
  | k :: ks, ls, st, st', h => by
    rw [stackF] at h
    by_cases hk : k ≤ st.length
    · rw [if_pos hk] at h
      rw [List.cons_append, sizesF, sizesF, List.cons_append, sizesF_append ks ls _ _ h]
    · rw [if_neg hk] at h; cases h
theorem posF_append : ∀ (st base : List Nat) (i : Nat), posF i (st ++ base) = posF i st ++ posF (i - st.sum) base
  | [], base, i => by simp [posF]
  | z :: st, base, i => by
    rw [List.cons_append, posF, posF, List.cons_append, posF_append st base (i - z), List.sum_cons, Nat.sub_sub]
theorem posF_shift (d : Nat) : ∀ (st : List Nat) (i : Nat), (∀ x ∈ st, 0 < x) → st.sum ≤ i → posF (i + d) st = (posF i st).map (· + d)
  | [], _, _, _ => rfl
  | z :: st, i, hp, hs => by
    have hz := hp z (List.mem_cons_self ..)
    rw [List.sum_cons] at hs
    rw [posF, posF, List.map_cons, show i + d - z = (i - z) + d by omega, posF_shift d st (i - z) (fun x hx => hp x (List.mem_cons_of_mem _ hx)) (by omega), show i + d - 1 = i - 1 + d by omega]
theorem allKids_below (base : List Nat) (d : Nat) : ∀ (ks st st' : List Nat) (i : Nat), (∀ x ∈ st, 0 < x) → st.sum ≤ i → stackF st ks = some st' →
    allKids (i + d) (st ++ base) ks = (allKids i st ks).map (List.map (· + d))
  | [], _, _, _, _, _, _ => rfl
  | k :: ks, st, st', i, hp, hs, h => by
    rw [stackF] at h
    by_cases hk : k ≤ st.length
    · rw [if_pos hk] at h
      have hl : k ≤ (posF (i + d) st).length := by rw [posF_len]; exact hk
      rw [allKids, allKids, List.map_cons, stepF_below st base k hk, show i + d + 1 = i + 1 + d by omega,
        allKids_below base d ks _ _ (i + 1) (stepF_pos st k hp) (by rw [stepF_sum]; omega) h, posF_append, List.take_append_of_le_length hl, posF_shift d st i hp hs, List.map_take]
    · rw [if_neg hk] at h; cases h
theorem allKids_append : ∀ (ks ls st st' : List Nat) (i : Nat), stackF st ks = some st' → allKids i st (ks ++ ls) = allKids i st ks ++ allKids (i + ks.length) st' ls
  | [], _, _, _, _, h => by cases h; rfl
  | k :: ks, ls, st, st', i, h => by
    rw [stackF] at h
    by_cases hk : k ≤ st.length
    · rw [if_pos hk] at h
      rw [List.cons_append, allKids, allKids, List.cons_append, allKids_append ks ls _ _ (i + 1) h, List.length_cons, show i + 1 + ks.length = i + (ks.length + 1) by omega]
    · rw [if_neg hk] at h; cases h
end Go.Proofs.YtdpkhliojbeglaaDoor

/- Patterns' trees, plainly: Right, and what of two trees is one. Nothing of the program is used. -/
namespace Go.Proofs.YtdpkhliojbeglaaDoor

/-- May a node of a kind stand in a row, or be repeated? -/
def pieceF (k : Int) : Bool := k == 2 || k == 3 || k == 4
/-- May a node be a kid of a kind? -/
def kidF (o k : Int) : Bool := if o = 3 then true else if o = 4 ∨ o = 5 then pieceF k else if o = 6 then k != 6 else false
/-- By the kinds: each kid of the nodes from a place on may be one. -/
def KidsOk (f : Nat → Int) : Nat → List (List Nat) → Prop
  | _, [] => True
  | i, c :: cs => (∀ x ∈ c, kidF (f i) (f x) = true) ∧ KidsOk f (i + 1) cs
theorem kidsOk_append (f : Nat → Int) : ∀ (as bs : List (List Nat)) (i : Nat), KidsOk f i (as ++ bs) ↔ KidsOk f i as ∧ KidsOk f (i + as.length) bs
  | [], bs, i => by simp [KidsOk]
  | c :: cs, bs, i => by
    rw [List.cons_append, KidsOk, KidsOk, kidsOk_append f cs bs (i + 1), List.length_cons, show i + 1 + cs.length = i + (cs.length + 1) by omega, and_assoc]
theorem kidsOk_congr (f g : Nat → Int) : ∀ (cs : List (List Nat)) (i : Nat), (∀ x, x < i + cs.length → f x = g x) → (∀ c ∈ cs, ∀ x ∈ c, x < i + cs.length) → KidsOk f i cs → KidsOk g i cs
  | [], _, _, _, _ => trivial
  | c :: cs, i, hf, hc, h => by
    rw [List.length_cons] at hf hc
    refine ⟨fun x hx => ?_, kidsOk_congr f g cs (i + 1) (fun x hx => hf x (by omega)) (fun d hd x hx => by have := hc d (List.mem_cons_of_mem _ hd) x hx; omega) h.2⟩
    rw [← hf i (by omega), ← hf x (hc c (List.mem_cons_self ..) x hx)]
    exact h.1 x hx
theorem kidsOk_shift (f : Nat → Int) (d : Nat) : ∀ (cs : List (List Nat)) (i : Nat), KidsOk f (i + d) (cs.map (List.map (· + d))) ↔ KidsOk (fun x => f (x + d)) i cs
  | [], _ => Iff.rfl
  | c :: cs, i => by
    rw [List.map_cons, KidsOk, KidsOk, show i + d + 1 = i + 1 + d by omega, kidsOk_shift f d cs (i + 1)]
    simp
theorem posF_lt (i : Nat) (s : List Nat) (h0 : 0 < i) : ∀ x ∈ posF i s, x < i := fun x hx => by
  obtain ⟨j, hj, rfl⟩ := List.getElem_of_mem hx
  rw [posF_get s i j hj]
  omega
/-- Kids stand ahead of their node. -/
theorem allKids_lt : ∀ (ks st : List Nat) (i : Nat), (st ≠ [] → 0 < i) → ∀ c ∈ allKids i st ks, ∀ x ∈ c, x < i + ks.length
  | [], _, _, _, c, hc => by cases hc
  | k :: ks, st, i, h0, c, hc => by
    rw [allKids, List.mem_cons] at hc
    intro x hx
    rw [List.length_cons]
    rcases hc with rfl | hc
    · have hx' := List.mem_of_mem_take hx
      cases st with
      | nil => cases hx'
      | cons z st => have := posF_lt i (z :: st) (h0 (by simp)) x hx'; omega
    · have := allKids_lt ks (stepF st k) (i + 1) (fun _ => by omega) c hc x hx
      omega
theorem allKids_len : ∀ (ks st : List Nat) (i : Nat), (allKids i st ks).length = ks.length
  | [], _, _ => rfl
  | k :: ks, st, i => by rw [allKids, List.length_cons, List.length_cons, allKids_len ks]

/-- The kinds of a list of nodes. -/
def kindF (l : List Int) (x : Nat) : Int := l.getD x 0
/-- Each node's kids may be its kids. -/
def RightKids (kinds : List Int) (ks : List Nat) : Prop := KidsOk (kindF kinds) 0 (allKids 0 [] ks)
theorem kindF_left (a b : List Int) (x : Nat) (h : x < a.length) : kindF (a ++ b) x = kindF a x := by
  unfold kindF
  rw [List.getD_eq_getElem?_getD, List.getD_eq_getElem?_getD, List.getElem?_append_left h]
theorem kindF_right (a b : List Int) (x : Nat) : kindF (a ++ b) (x + a.length) = kindF b x := by
  unfold kindF
  rw [List.getD_eq_getElem?_getD, List.getD_eq_getElem?_getD, List.getElem?_append_right (by omega), Nat.add_sub_cancel]
theorem rightKids_left (a b : List Int) (ks : List Nat) (hl : a.length = ks.length) : KidsOk (kindF (a ++ b)) 0 (allKids 0 [] ks) ↔ RightKids a ks := by
  have hx : ∀ x, x < 0 + (allKids 0 [] ks).length → kindF (a ++ b) x = kindF a x := fun x hx => kindF_left a b x (by rw [allKids_len] at hx; omega)
  have hc : ∀ c ∈ allKids 0 [] ks, ∀ x ∈ c, x < 0 + (allKids 0 [] ks).length := by rw [allKids_len]; exact allKids_lt ks [] 0 (fun h => absurd rfl h)
  exact ⟨kidsOk_congr _ _ _ 0 hx hc, kidsOk_congr _ _ _ 0 (fun x h => (hx x h).symm) hc⟩
/-- **A Group around a tree: its kids may be its kids if those of the tree may.** -/
theorem rightKids_group (a : List Int) (ks : List Nat) (hl : a.length = ks.length) (h : stackF [] ks = some [ks.length]) : RightKids (a ++ [3]) (ks ++ [1]) ↔ RightKids a ks := by
  unfold RightKids
  rw [allKids_append ks [1] [] _ 0 h, kidsOk_append, rightKids_left a [3] ks hl, allKids_len]
  have hk : kindF (a ++ [3]) (0 + ks.length) = 3 := by
    have := kindF_right a [3] 0
    rw [hl] at this
    exact this
  refine ⟨fun h => h.1, fun h => ⟨h, ?_⟩⟩
  refine ⟨fun x _ => ?_, trivial⟩
  rw [hk]
  rfl
/-- **Two trees side by side, and an Alt of them.** -/
theorem rightKids_two (a b : List Int) (ka kb : List Nat) (ha : a.length = ka.length) (hb : b.length = kb.length) (h1 : stackF [] ka = some [ka.length]) (h2 : stackF [] kb = some [kb.length]) :
    RightKids (a ++ b ++ [6]) (ka ++ kb ++ [2]) ↔ RightKids a ka ∧ RightKids b kb ∧ (kindF a (a.length - 1) != 6) = true ∧ (kindF b (b.length - 1) != 6) = true := by
  have hst : stackF [] (ka ++ kb) = some [kb.length, ka.length] := by
    rw [stackF_append, h1]
    exact stackF_below [ka.length] kb [] _ h2
  have hpa : 0 < ka.length := by
    cases ka with
    | nil => cases h1
    | cons => simp
  have hpb : 0 < kb.length := by
    cases kb with
    | nil => cases h2
    | cons => simp
  unfold RightKids
  rw [allKids_append (ka ++ kb) [2] [] _ 0 hst, allKids_append ka kb [] _ 0 h1, kidsOk_append, kidsOk_append, List.append_assoc a b [6], rightKids_left a (b ++ [6]) ka ha, List.length_append, allKids_len, allKids_len, List.length_append]
  have hm : allKids (0 + ka.length) [ka.length] kb = (allKids 0 [] kb).map (List.map (· + ka.length)) := allKids_below [ka.length] ka.length kb [] _ 0 (by simp) (by simp) h2
  rw [hm, kidsOk_shift]
  have hf : ∀ x, kindF (a ++ (b ++ [6])) (x + ka.length) = kindF (b ++ [6]) x := fun x => by rw [← ha]; exact kindF_right a (b ++ [6]) x
  have e2 : KidsOk (fun x => kindF (a ++ (b ++ [6])) (x + ka.length)) 0 (allKids 0 [] kb) ↔ RightKids b kb := by
    rw [← rightKids_left b [6] kb hb]
    rw [show (fun x => kindF (a ++ (b ++ [6])) (x + ka.length)) = kindF (b ++ [6]) from funext hf]
  rw [e2]
  have hroot : allKids (0 + (ka.length + kb.length)) [kb.length, ka.length] [2] = [[ka.length + kb.length - 1, ka.length - 1]] := by
    simp [allKids, posF]
  rw [hroot]
  have k6 : kindF (a ++ (b ++ [6])) (0 + (ka.length + kb.length)) = 6 := by
    rw [show 0 + (ka.length + kb.length) = kb.length + ka.length by omega, hf, ← hb]
    have := kindF_right b [6] 0
    rw [Nat.zero_add] at this
    exact this
  have kl : kindF (a ++ (b ++ [6])) (ka.length - 1) = kindF a (a.length - 1) := by rw [ha]; exact kindF_left a _ _ (by omega)
  have kr : kindF (a ++ (b ++ [6])) (ka.length + kb.length - 1) = kindF b (b.length - 1) := by
    rw [show ka.length + kb.length - 1 = (kb.length - 1) + ka.length by omega, hf, hb]
    exact kindF_left b [6] _ (by omega)
  have e3 : KidsOk (kindF (a ++ (b ++ [6]))) (0 + (ka.length + kb.length)) [[ka.length + kb.length - 1, ka.length - 1]] ↔ (kindF a (a.length - 1) != 6) = true ∧ (kindF b (b.length - 1) != 6) = true := by
    simp only [KidsOk, and_true, List.mem_cons, List.not_mem_nil, or_false, forall_eq_or_imp, forall_eq]
    rw [k6, kl, kr]
    unfold kidF
    rw [if_neg (by decide), if_neg (by decide), if_pos rfl, if_neg (by decide), if_neg (by decide), if_pos rfl]
    exact And.comm
  rw [e3]
  exact and_assoc
end Go.Proofs.YtdpkhliojbeglaaDoor

/- Plain arithmetic: how the words' bits are counted eight at a time. Nothing of the program is used. -/
namespace Go.Proofs.YtdpkhliojbeglaaDoor
namespace BS

/-- How many of the numbers below n f says yes of. -/
def cnt (f : Nat → Bool) : Nat → Nat
  | 0 => 0
  | n + 1 => cnt f n + (f n).toNat
theorem cnt_congr {f g : Nat → Bool} : ∀ {n : Nat}, (∀ j, j < n → f j = g j) → cnt f n = cnt g n
  | 0, _ => rfl
  | n + 1, h => by rw [cnt, cnt, cnt_congr (fun j hj => h j (by omega)), h n (by omega)]
theorem cnt_add (f : Nat → Bool) (m : Nat) : ∀ n, cnt f (m + n) = cnt f m + cnt (fun j => f (m + j)) n
  | 0 => rfl
  | n + 1 => by rw [← Nat.add_assoc, cnt, cnt, cnt_add f m n, Nat.add_assoc]
theorem cnt_le (f : Nat → Bool) : ∀ n, cnt f n ≤ n
  | 0 => Nat.le_refl _
  | n + 1 => by have := cnt_le f n; have := Bool.toNat_le (f n); rw [cnt]; omega

theorem and_lane (b y c m : Nat) (hb : b < 256) (hc : c < 256) : (b + 256 * y) &&& (c + 256 * m) = (b &&& c) + 256 * (y &&& m) := by
  have hbc : b &&& c < 2 ^ 8 := Nat.and_lt_two_pow _ hc
  apply Nat.eq_of_testBit_eq; intro j
  rw [Nat.testBit_and, Nat.add_comm b, Nat.add_comm c, Nat.add_comm (b &&& c)]
  rw [show 256 = 2 ^ 8 from rfl, Nat.testBit_two_pow_mul_add _ hb, Nat.testBit_two_pow_mul_add _ hc, Nat.testBit_two_pow_mul_add _ hbc]
  by_cases h : j < 8
  · simp [h]
  · simp [h]

def rep (c : Nat) : Nat → Nat
  | 0 => 0
  | n + 1 => c + 256 * rep c n

theorem rep_succ (c n : Nat) : rep c (n + 1) = c + 256 * rep c n := rfl

def s1 (n x : Nat) : Nat := (x / 2 &&& rep 85 n) + (x &&& rep 85 n)
def s2 (n x : Nat) : Nat := (x / 4 &&& rep 51 n) + (x &&& rep 51 n)
def s3 (n x : Nat) : Nat := (x / 16 + x) &&& rep 15 n
def g1 (b : Nat) : Nat := (b / 2 &&& 85) + (b &&& 85)
def g2 (b : Nat) : Nat := (b / 4 &&& 51) + (b &&& 51)

theorem d1 : ∀ b < 256, ∀ t < 2, (b / 2 + 128 * t) &&& 85 = b / 2 &&& 85 := by decide +kernel
theorem d2 : ∀ b < 256, ∀ t < 4, (b / 4 + 64 * t) &&& 51 = b / 4 &&& 51 := by decide +kernel
theorem g1_lt : ∀ b < 256, g1 b < 256 := by decide +kernel
theorem g2_lt : ∀ b < 256, g2 (g1 b) < 256 ∧ g2 (g1 b) % 16 ≤ 4 ∧ g2 (g1 b) / 16 ≤ 4 := by decide +kernel
theorem d3 : ∀ b < 256, b % 16 ≤ 4 → b / 16 ≤ 4 → ∀ t < 5, (b / 16 + b + 16 * t) &&& 15 = b / 16 + b % 16 := by decide +kernel
theorem g3 : ∀ b < 256, g2 (g1 b) / 16 + g2 (g1 b) % 16 = cnt b.testBit 8 := by decide +kernel

theorem s1_step (n b y : Nat) (hb : b < 256) : s1 (n + 1) (b + 256 * y) = g1 b + 256 * s1 n y := by
  unfold s1 g1; rw [rep_succ]
  have e : (b + 256 * y) / 2 = (b / 2 + 128 * (y % 2)) + 256 * (y / 2) := by omega
  rw [e, and_lane _ _ _ _ (by omega) (by decide), and_lane _ _ _ _ hb (by decide), d1 b hb _ (by omega)]
  omega
theorem s2_step (n b y : Nat) (hb : b < 256) : s2 (n + 1) (b + 256 * y) = g2 b + 256 * s2 n y := by
  unfold s2 g2; rw [rep_succ]
  have e : (b + 256 * y) / 4 = (b / 4 + 64 * (y % 4)) + 256 * (y / 4) := by omega
  rw [e, and_lane _ _ _ _ (by omega) (by decide), and_lane _ _ _ _ hb (by decide), d2 b hb _ (by omega)]
  omega
theorem s3_step (n b y : Nat) (hb : b < 256) (h1 : b % 16 ≤ 4) (h2 : b / 16 ≤ 4) (hy : y % 16 ≤ 4) : s3 (n + 1) (b + 256 * y) = (b / 16 + b % 16) + 256 * s3 n y := by
  unfold s3; rw [rep_succ]
  have e : (b + 256 * y) / 16 + (b + 256 * y) = (b / 16 + b + 16 * (y % 16)) + 256 * (y / 16 + y) := by omega
  rw [e, and_lane _ _ _ _ (by omega) (by decide), d3 b hb h1 h2 _ (by omega)]

theorem low (n x : Nat) : s2 n (s1 n x) % 16 ≤ 4 := by
  cases n with
  | zero => simp [s2, rep]
  | succ n =>
    have hb : x % 256 < 256 := Nat.mod_lt _ (by decide)
    have e : x = x % 256 + 256 * (x / 256) := by omega
    rw [e, s1_step n _ _ hb, s2_step n _ _ (g1_lt _ hb)]
    have := (g2_lt _ hb).2.1
    omega

def s (n x : Nat) : Nat := s3 n (s2 n (s1 n x))
theorem s_step (n x : Nat) : s (n + 1) x = cnt (x % 256).testBit 8 + 256 * s n (x / 256) := by
  have hb : x % 256 < 256 := Nat.mod_lt _ (by decide)
  have e : s (n + 1) x = s (n + 1) (x % 256 + 256 * (x / 256)) := by congr 1; omega
  have h2 := g2_lt _ hb
  rw [e]
  unfold s
  rw [s1_step n _ _ hb, s2_step n _ _ (g1_lt _ hb), s3_step n _ _ h2.1 h2.2.1 h2.2.2 (low _ _), g3 _ hb]
theorem s_zero (x : Nat) : s 0 x = 0 := by simp [s, s3, rep]

theorem cnt_byte (x n : Nat) : cnt x.testBit (8 + n) = cnt (x % 256).testBit 8 + cnt (x / 256).testBit n := by
  rw [cnt_add]
  congr 1
  · apply cnt_congr; intro j hj
    rw [show 256 = 2 ^ 8 from rfl, Nat.testBit_mod_two_pow]; simp [hj]
  · apply cnt_congr; intro j _
    rw [show 256 = 2 ^ 8 from rfl, Nat.testBit_div_two_pow, Nat.add_comm]

/-- Eight lanes, one for each byte, with as many as there are bits. -/
theorem s_eight (x : Nat) : ∃ p0 p1 p2 p3 p4 p5 p6 p7 : Nat, p0 ≤ 8 ∧ p1 ≤ 8 ∧ p2 ≤ 8 ∧ p3 ≤ 8 ∧ p4 ≤ 8 ∧ p5 ≤ 8 ∧ p6 ≤ 8 ∧ p7 ≤ 8 ∧
    s 8 x = p0 + 256 * (p1 + 256 * (p2 + 256 * (p3 + 256 * (p4 + 256 * (p5 + 256 * (p6 + 256 * p7)))))) ∧
    cnt x.testBit 64 = p0 + p1 + p2 + p3 + p4 + p5 + p6 + p7 := by
  refine ⟨_, _, _, _, _, _, _, _, cnt_le (x % 256).testBit 8, cnt_le (x / 256 % 256).testBit 8, cnt_le (x / 256 / 256 % 256).testBit 8, cnt_le (x / 256 / 256 / 256 % 256).testBit 8,
    cnt_le (x / 256 / 256 / 256 / 256 % 256).testBit 8, cnt_le (x / 256 / 256 / 256 / 256 / 256 % 256).testBit 8, cnt_le (x / 256 / 256 / 256 / 256 / 256 / 256 % 256).testBit 8, cnt_le (x / 256 / 256 / 256 / 256 / 256 / 256 / 256 % 256).testBit 8, ?_, ?_⟩
  · simp only [s_step, s_zero, Nat.mul_zero, Nat.add_zero]
  · rw [show 64 = 8 + (8 + (8 + (8 + (8 + (8 + (8 + (8 + 0))))))) from rfl]
    simp only [cnt_byte]
    simp only [cnt, Nat.add_zero, Nat.add_assoc]

theorem div_of {a q B x : Nat} (h : x = a + B * q) (ha : a < B) : x / B = q := by
  rw [h, Nat.add_mul_div_left _ _ (by omega), Nat.div_eq_of_lt ha, Nat.zero_add]

/-- What the last additions make of the eight lanes. -/
theorem lanes (p0 p1 p2 p3 p4 p5 p6 p7 x3 x4 x5 x6 : Nat) (h0 : p0 ≤ 8) (h1 : p1 ≤ 8) (h2 : p2 ≤ 8) (h3 : p3 ≤ 8) (h4 : p4 ≤ 8) (h5 : p5 ≤ 8) (h6 : p6 ≤ 8) (h7 : p7 ≤ 8)
    (e3 : x3 = p0 + 256 * (p1 + 256 * (p2 + 256 * (p3 + 256 * (p4 + 256 * (p5 + 256 * (p6 + 256 * p7)))))))
    (e4 : x4 = x3 + x3 / 256) (e5 : x5 = x4 + x4 / 65536) (e6 : x6 = x5 + x5 / 4294967296) :
    x6 % 128 = p0 + p1 + p2 + p3 + p4 + p5 + p6 + p7 ∧ x4 < 4611686018427387904 ∧ x5 < 4611686018427387904 ∧ x6 < 4611686018427387904 := by
  have a4 : x3 / 256 = p1 + 256 * (p2 + 256 * (p3 + 256 * (p4 + 256 * (p5 + 256 * (p6 + 256 * p7))))) := div_of (a := p0) e3 (by omega)
  have b4 : x4 = ((p0 + p1) + 256 * (p1 + p2)) + 65536 * ((p2 + p3) + 256 * ((p3 + p4) + 256 * ((p4 + p5) + 256 * ((p5 + p6) + 256 * ((p6 + p7) + 256 * p7))))) := by rw [e4, a4, e3]; clear a4 e3 e4 e5 e6; omega
  have a5 : x4 / 65536 = (p2 + p3) + 256 * ((p3 + p4) + 256 * ((p4 + p5) + 256 * ((p5 + p6) + 256 * ((p6 + p7) + 256 * p7)))) := div_of b4 (by omega)
  have b5 : x5 = ((p0 + p1 + p2 + p3) + 256 * ((p1 + p2 + p3 + p4) + 256 * ((p2 + p3 + p4 + p5) + 256 * (p3 + p4 + p5 + p6)))) + 4294967296 * ((p4 + p5 + p6 + p7) + 256 * ((p5 + p6 + p7) + 256 * ((p6 + p7) + 256 * p7))) := by rw [e5, a5, b4]; clear a4 b4 a5 e3 e4 e5 e6; omega
  have a6 : x5 / 4294967296 = (p4 + p5 + p6 + p7) + 256 * ((p5 + p6 + p7) + 256 * ((p6 + p7) + 256 * p7)) := div_of b5 (by omega)
  have b6 : x6 = (p0 + p1 + p2 + p3 + p4 + p5 + p6 + p7) + 128 * (2 * ((p1 + p2 + p3 + p4 + (p5 + p6 + p7)) + 256 * ((p2 + p3 + p4 + p5 + (p6 + p7)) + 256 * ((p3 + p4 + p5 + p6 + p7) + 256 * ((p4 + p5 + p6 + p7) + 256 * ((p5 + p6 + p7) + 256 * ((p6 + p7) + 256 * p7))))))) := by rw [e6, a6, b5]; clear a4 b4 a5 b5 a6 e3 e4 e5 e6; omega
  clear a4 a5 a6 e3 e4 e5 e6
  refine ⟨?_, ?_, ?_, ?_⟩
  · rw [b6, Nat.add_mul_mod_self_left]; exact Nat.mod_eq_of_lt (by clear b4 b5 b6; omega)
  · clear b5 b6; omega
  · clear b4 b6; omega
  · clear b4 b5; omega

theorem rep85 : rep 85 8 = 6148914691236517205 := by decide
theorem rep51 : rep 51 8 = 3689348814741910323 := by decide
theorem rep15 : rep 15 8 = 1085102592571150095 := by decide
theorem s1_lt (x : Nat) : s1 8 x < 18446744073709551616 := by
  unfold s1; rw [rep85]
  have h1 : x / 2 &&& 6148914691236517205 ≤ 6148914691236517205 := Nat.and_le_right
  have h2 : x &&& 6148914691236517205 ≤ 6148914691236517205 := Nat.and_le_right
  omega
theorem s2_lt (x : Nat) : s2 8 x < 18446744073709551616 := by
  unfold s2; rw [rep51]
  have h1 : x / 4 &&& 3689348814741910323 ≤ 3689348814741910323 := Nat.and_le_right
  have h2 : x &&& 3689348814741910323 ≤ 3689348814741910323 := Nat.and_le_right
  omega
theorem s2_small (x : Nat) : s2 8 x / 16 + s2 8 x < 18446744073709551616 := by
  unfold s2; rw [rep51]
  have h1 : x / 4 &&& 3689348814741910323 ≤ 3689348814741910323 := Nat.and_le_right
  have h2 : x &&& 3689348814741910323 ≤ 3689348814741910323 := Nat.and_le_right
  omega
end BS
end Go.Proofs.YtdpkhliojbeglaaDoor

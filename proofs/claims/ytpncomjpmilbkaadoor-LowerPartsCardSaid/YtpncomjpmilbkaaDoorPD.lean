/- Texts put together: Sm Ar An Am. -/
import Derived.WalkKit
/- Plain facts on sets of bytes, kept as 256 bits: their words, and what the machine's bit operations on words are. Nothing of the program is used. -/
namespace Go.Proofs.YtpncomjpmilbkaaDoor
namespace BS
open Go.RowKit

def wd (s : BitVec 256) (i : Nat) : Nat := (s.extractLsb' (64 * i) 64).toNat

theorem wd_lt (s : BitVec 256) (i : Nat) : wd s i < 2 ^ 64 := (s.extractLsb' (64 * i) 64).isLt
theorem wd_lt' (s : BitVec 256) (i : Nat) : wd s i < 18446744073709551616 := wd_lt s i

theorem testBit_wd (s : BitVec 256) (i j : Nat) : (wd s i).testBit j = (decide (j < 64) && s.getLsbD (64 * i + j)) := by
  unfold wd
  rw [BitVec.testBit_toNat, BitVec.getLsbD_extractLsb']

theorem wd_or (a b : BitVec 256) (i : Nat) : wd (a ||| b) i = wd a i ||| wd b i := by
  apply Nat.eq_of_testBit_eq; intro j
  rw [Nat.testBit_or]
  simp only [testBit_wd, BitVec.getLsbD_or]
  cases decide (j < 64) <;> simp
theorem wd_and (a b : BitVec 256) (i : Nat) : wd (a &&& b) i = wd a i &&& wd b i := by
  apply Nat.eq_of_testBit_eq; intro j
  rw [Nat.testBit_and]
  simp only [testBit_wd, BitVec.getLsbD_and]
  cases decide (j < 64) <;> simp

/-- Two sets with the same words are the same. -/
theorem ext_wd {a b : BitVec 256} (h0 : wd a 0 = wd b 0) (h1 : wd a 1 = wd b 1) (h2 : wd a 2 = wd b 2) (h3 : wd a 3 = wd b 3) : a = b := by
  apply BitVec.eq_of_getLsbD_eq
  intro j hj
  have key : ∀ i, wd a i = wd b i → ∀ k, k < 64 → a.getLsbD (64 * i + k) = b.getLsbD (64 * i + k) := by
    intro i h k hk
    have := congrArg (fun n => n.testBit k) h
    simp only [testBit_wd, hk, decide_true, Bool.true_and] at this
    exact this
  have hk : j % 64 < 64 := Nat.mod_lt _ (by decide)
  have hj' : 64 * (j / 64) + j % 64 = j := Nat.div_add_mod j 64
  have h4 : j / 64 = 0 ∨ j / 64 = 1 ∨ j / 64 = 2 ∨ j / 64 = 3 := by omega
  rcases h4 with h | h | h | h <;> rw [← hj', h]
  · exact key 0 h0 _ hk
  · exact key 1 h1 _ hk
  · exact key 2 h2 _ hk
  · exact key 3 h3 _ hk

theorem ofInt_toNat (a : Nat) (ha : a < 2 ^ 64) : (BitVec.ofInt 64 (a : Int)).toNat = a := by
  rw [BitVec.ofInt_natCast, BitVec.toNat_ofNat]; exact Nat.mod_eq_of_lt ha
theorem wrap_u64_nat (n : Nat) (h : n < 2 ^ 64) : IntKind.u64.wrap (n : Int) = n := by
  rw [IntKind.wrap_u64]; omega

theorem bits_or_nat (a b : Nat) (ha : a < 2 ^ 64) (hb : b < 2 ^ 64) : bits .or .u64 (a : Int) (b : Int) = ((a ||| b : Nat) : Int) := by
  show IntKind.u64.wrap ((BitVec.ofInt 64 (a : Int) ||| BitVec.ofInt 64 (b : Int)).toNat : Int) = _
  rw [BitVec.toNat_or, ofInt_toNat a ha, ofInt_toNat b hb, wrap_u64_nat _ (Nat.or_lt_two_pow ha hb)]
theorem bits_and_nat (a b : Nat) (ha : a < 2 ^ 64) (hb : b < 2 ^ 64) : bits .and .u64 (a : Int) (b : Int) = ((a &&& b : Nat) : Int) := by
  show IntKind.u64.wrap ((BitVec.ofInt 64 (a : Int) &&& BitVec.ofInt 64 (b : Int)).toNat : Int) = _
  rw [BitVec.toNat_and, ofInt_toNat a ha, ofInt_toNat b hb, wrap_u64_nat _ (Nat.and_lt_two_pow _ hb)]

theorem bits_or_wd (a b : BitVec 256) (i : Nat) : bits .or .u64 (wd a i : Int) (wd b i : Int) = (wd (a ||| b) i : Int) := by
  rw [bits_or_nat _ _ (wd_lt _ _) (wd_lt _ _), wd_or]
theorem bits_and_wd (a b : BitVec 256) (i : Nat) : bits .and .u64 (wd a i : Int) (wd b i : Int) = (wd (a &&& b) i : Int) := by
  rw [bits_and_nat _ _ (wd_lt _ _) (wd_lt _ _), wd_and]

theorem bits_andNot_wd (a b : BitVec 256) (i : Nat) (hi : i < 4) : bits .andNot .u64 (wd a i : Int) (wd b i : Int) = (wd (a &&& ~~~b) i : Int) := by
  show IntKind.u64.wrap ((BitVec.ofInt 64 (wd a i : Int) &&& ~~~BitVec.ofInt 64 (wd b i : Int)).toNat : Int) = _
  rw [wrap_u64_nat _ (BitVec.isLt _)]
  congr 1
  apply Nat.eq_of_testBit_eq; intro j
  rw [BitVec.testBit_toNat, BitVec.getLsbD_and, BitVec.getLsbD_not, testBit_wd, BitVec.getLsbD_and, BitVec.getLsbD_not]
  rw [← BitVec.testBit_toNat, ← BitVec.testBit_toNat, ofInt_toNat _ (wd_lt _ _), ofInt_toNat _ (wd_lt _ _), testBit_wd, testBit_wd]
  by_cases hj : j < 64
  · have : 64 * i + j < 256 := by omega
    simp [hj, this]
  · simp [hj]

theorem bits_not_wd (a : BitVec 256) (i : Nat) (hi : i < 4) : bits .xor .u64 IntKind.u64.max (wd a i : Int) = (wd (~~~a) i : Int) := by
  have hm : IntKind.u64.max = ((2 ^ 64 - 1 : Nat) : Int) := by decide
  rw [hm]
  show IntKind.u64.wrap ((BitVec.ofInt 64 ((2 ^ 64 - 1 : Nat) : Int) ^^^ BitVec.ofInt 64 (wd a i : Int)).toNat : Int) = _
  rw [wrap_u64_nat _ (BitVec.isLt _)]
  congr 1
  apply Nat.eq_of_testBit_eq; intro j
  rw [BitVec.testBit_toNat, BitVec.getLsbD_xor, testBit_wd, BitVec.getLsbD_not]
  rw [← BitVec.testBit_toNat, ← BitVec.testBit_toNat, ofInt_toNat _ (by omega), ofInt_toNat _ (wd_lt _ _), testBit_wd, Nat.testBit_two_pow_sub_one]
  by_cases hj : j < 64
  · have : 64 * i + j < 256 := by omega
    simp [hj, this]
  · simp [hj]

/-- The number with just the bits below n of which f says yes. -/
def natOf (f : Nat → Bool) : Nat → Nat
  | 0 => 0
  | n + 1 => 2 ^ n * (f n).toNat + natOf f n
theorem natOf_lt (f : Nat → Bool) : ∀ n, natOf f n < 2 ^ n
  | 0 => by simp [natOf]
  | n + 1 => by
    have := natOf_lt f n
    have h2 : 2 ^ (n + 1) = 2 ^ n * 2 := Nat.pow_succ ..
    cases h : f n <;> simp [natOf, h] <;> omega
theorem testBit_natOf (f : Nat → Bool) (j : Nat) : ∀ n, (natOf f n).testBit j = (decide (j < n) && f j)
  | 0 => by simp [natOf]
  | n + 1 => by
    have ih := testBit_natOf f j n
    rw [natOf, Nat.testBit_two_pow_mul_add _ (natOf_lt f n)]
    by_cases h : j < n
    · rw [if_pos h, ih]; simp [h, show j < n + 1 by omega]
    · rw [if_neg h]
      by_cases h2 : j = n
      · subst h2; cases f j <;> simp
      · simp only [show ¬ j < n + 1 by omega, decide_false, Bool.false_and]
        apply Nat.testBit_lt_two_pow
        have : (f n).toNat ≤ 1 := Bool.toNat_le _
        have h3 : 2 ^ 1 ≤ 2 ^ (j - n) := Nat.pow_le_pow_right (by decide) (by omega)
        omega
/-- The set of the numbers of which f says yes. -/
def ofFn (f : Nat → Bool) : BitVec 256 := BitVec.ofNat 256 (natOf f 256)
theorem get_ofFn (f : Nat → Bool) (j : Nat) : (ofFn f).getLsbD j = (decide (j < 256) && f j) := by
  unfold ofFn
  rw [BitVec.getLsbD_ofNat, testBit_natOf]
  cases decide (j < 256) <;> simp

/-- What lies below n. -/
def mask (n : Nat) : BitVec 256 := ofFn fun j => decide (j < n)

theorem wd_mask (n i : Nat) (hi : i < 4) : wd (mask n) i = 2 ^ (min (n - 64 * i) 64) - 1 := by
  apply Nat.eq_of_testBit_eq; intro j
  rw [testBit_wd, Nat.testBit_two_pow_sub_one, mask, get_ofFn]
  by_cases hj : j < 64
  · have : 64 * i + j < 256 := by omega
    simp only [hj, this, decide_true, Bool.true_and, decide_eq_decide]
    omega
  · simp only [hj, decide_false, Bool.false_and]
    symm; rw [decide_eq_false_iff_not]; omega

/-- From lo to hi. -/
def range (lo hi : Nat) : BitVec 256 := ofFn fun j => decide (lo ≤ j) && decide (j ≤ hi)
theorem range_eq (lo hi : Nat) : mask (hi + 1) &&& ~~~(mask lo) = range lo hi := by
  apply BitVec.eq_of_getLsbD_eq
  intro j hj
  rw [BitVec.getLsbD_and, BitVec.getLsbD_not, mask, mask, range, get_ofFn, get_ofFn, get_ofFn]
  simp only [hj, decide_true, Bool.true_and]
  rw [Bool.and_comm, ← decide_not]
  congr 1
  · rw [decide_eq_decide]; omega
  · rw [decide_eq_decide]; omega

theorem pow_wrap1 : IntKind.u64.wrap (IntKind.u64.wrap 18446744073709551616 - 1) = ((2 ^ 64 - 1 : Nat) : Int) := by decide
theorem pow_wrap2 (k : Nat) (hk : k ≤ 64) : IntKind.u64.wrap (IntKind.u64.wrap (2 ^ k) - 1) = ((2 ^ k - 1 : Nat) : Int) := by
  rw [IntKind.wrap_u64, IntKind.wrap_u64]
  have h1 : (2 : Nat) ^ k ≤ 2 ^ 64 := Nat.pow_le_pow_right (by decide) hk
  have h2 : 0 < (2 : Nat) ^ k := Nat.two_pow_pos k
  have h3 : ((2 : Int) ^ k) = ((2 ^ k : Nat) : Int) := by simp
  rw [h3]
  generalize (2 : Nat) ^ k = x at *
  omega

/-- The bit test of 'Has'. -/
theorem has_word (a : BitVec 256) (i k : Nat) (hk : k < 64) : (bits .and .u64 ((wd a i : Int) / 2 ^ k) 1 == 1) = a.getLsbD (64 * i + k) := by
  have h1 : ((wd a i : Int) / 2 ^ k) = ((wd a i / 2 ^ k : Nat) : Int) := by simp
  have h2 : wd a i / 2 ^ k < 2 ^ 64 := Nat.lt_of_le_of_lt (Nat.div_le_self _ _) (wd_lt _ _)
  have h3 : (1 : Int) = ((1 : Nat) : Int) := rfl
  rw [h1, h3, bits_and_nat _ _ h2 (by decide), Nat.and_one_is_mod]
  have h4 := testBit_wd a i k
  rw [Nat.testBit_eq_decide_div_mod_eq] at h4
  simp only [hk, decide_true, Bool.true_and] at h4
  rw [← h4]
  by_cases h : wd a i / 2 ^ k % 2 = 1
  · rw [h]; rfl
  · have : wd a i / 2 ^ k % 2 = 0 := by omega
    rw [this]; rfl

/-- The set as the machine's value: four words. -/
@[reducible] def setV (s : BitVec 256) : Value := .agg #[.int .u64 (wd s 0), .int .u64 (wd s 1), .int .u64 (wd s 2), .int .u64 (wd s 3)]

/-- Any four words are a set's. -/
theorem of_words (a b c d : Int) (ha : 0 ≤ a ∧ a < 18446744073709551616) (hb : 0 ≤ b ∧ b < 18446744073709551616) (hc : 0 ≤ c ∧ c < 18446744073709551616) (hd : 0 ≤ d ∧ d < 18446744073709551616) :
    ∃ s : BitVec 256, a = (wd s 0 : Int) ∧ b = (wd s 1 : Int) ∧ c = (wd s 2 : Int) ∧ d = (wd s 3 : Int) := by
  obtain ⟨a, rfl⟩ := Int.eq_ofNat_of_zero_le ha.1
  obtain ⟨b, rfl⟩ := Int.eq_ofNat_of_zero_le hb.1
  obtain ⟨c, rfl⟩ := Int.eq_ofNat_of_zero_le hc.1
  obtain ⟨d, rfl⟩ := Int.eq_ofNat_of_zero_le hd.1
  refine ⟨ofFn fun j => if j < 64 then a.testBit j else if j < 128 then b.testBit (j - 64) else if j < 192 then c.testBit (j - 128) else d.testBit (j - 192), ?_, ?_, ?_, ?_⟩
  all_goals
    refine congrArg (fun n : Nat => (n : Int)) ?_
    apply Nat.eq_of_testBit_eq; intro j
    rw [testBit_wd, get_ofFn]
    by_cases hj : j < 64
    · simp [hj, show j < 256 by omega, show 64 + j < 256 by omega, show 128 + j < 256 by omega, show 192 + j < 256 by omega, show ¬ (64 + j < 64) by omega, show ¬ (128 + j < 64) by omega, show ¬ (128 + j < 128) by omega, show (128 + j < 192) by omega, show ¬ (192 + j < 64) by omega, show ¬ (192 + j < 128) by omega, show ¬ (192 + j < 192) by omega, show (64 + j < 128) by omega]
    · simp only [hj, decide_false, Bool.false_and]
      apply Nat.testBit_lt_two_pow
      refine Nat.lt_of_lt_of_le (m := 2 ^ 64) (by omega) (Nat.pow_le_pow_right (by decide) (by omega))
end BS
end Go.Proofs.YtpncomjpmilbkaaDoor

/- Ranks: what stands at a place of a total order. Nothing of the program is used. -/
namespace Go.Proofs.YtpncomjpmilbkaaDoor

theorem pigeon_le : ∀ (G : Nat) (l : List Nat), l.Nodup → (∀ x ∈ l, 1 ≤ x ∧ x ≤ G) → l.length ≤ G
  | 0, l, _, h => by
    cases l with
    | nil => exact Nat.le_refl _
    | cons x l => have := h x (List.mem_cons_self ..); omega
  | G + 1, l, hn, h => by
    by_cases hm : G + 1 ∈ l
    · have h1 := pigeon_le G (l.erase (G + 1)) (hn.erase _) (fun x hx => by
        have hx2 := (List.Nodup.mem_erase_iff hn).1 hx
        have := h x hx2.2
        omega)
      rw [List.length_erase_of_mem hm] at h1
      omega
    · have := pigeon_le G l hn (fun x hx => by
        have := h x hx
        have : x ≠ G + 1 := fun e => hm (e ▸ hx)
        omega)
      omega
/-- As many numbers from 1 to G as G, no two the same, are all of them. -/
theorem pigeon : ∀ (G : Nat) (l : List Nat), l.Nodup → l.length = G → (∀ x ∈ l, 1 ≤ x ∧ x ≤ G) → ∀ n, 1 ≤ n → n ≤ G → n ∈ l
  | 0, _, _, _, _, n, h1, h2 => by omega
  | G + 1, l, hn, hl, h, n, h1, h2 => by
    by_cases hm : G + 1 ∈ l
    · by_cases hng : n = G + 1
      · rw [hng]; exact hm
      · have := pigeon G (l.erase (G + 1)) (hn.erase _) (by rw [List.length_erase_of_mem hm]; omega) (fun x hx => by
          have hx2 := (List.Nodup.mem_erase_iff hn).1 hx
          have := h x hx2.2
          omega) n h1 (by omega)
        exact List.mem_of_mem_erase this
    · have := pigeon_le G l hn (fun x hx => by
        have := h x hx
        have : x ≠ G + 1 := fun e => hm (e ▸ hx)
        omega)
      omega
variable {α : Type}
/-- How many of a list are not behind x. -/
def rankL (le : α → α → Bool) (l : List α) (x : α) : Nat := l.countP fun y => le y x
structure Total (le : α → α → Bool) : Prop where
  refl : ∀ x, le x x = true
  trans : ∀ x y z, le x y = true → le y z = true → le x z = true
  anti : ∀ x y, le x y = true → le y x = true → x = y
  total : ∀ x y, le x y = true ∨ le y x = true
theorem rank_lt (le : α → α → Bool) (T : Total le) : ∀ (l : List α) (x y : α), y ∈ l → le x y = true → x ≠ y → rankL le l x < rankL le l y
  | [], _, _, h, _, _ => by cases h
  | z :: l, x, y, h, hxy, hne => by
    have hle : rankL le l x ≤ rankL le l y := List.countP_mono_left fun w _ hw => T.trans w x y hw hxy
    have ex : rankL le (z :: l) x = rankL le l x + if le z x = true then 1 else 0 := List.countP_cons ..
    have ey : rankL le (z :: l) y = rankL le l y + if le z y = true then 1 else 0 := List.countP_cons ..
    rw [ex, ey]
    by_cases hz : y = z
    · subst hz
      rw [if_pos (T.refl y), if_neg (fun h => hne (T.anti x y hxy h))]
      omega
    · have hy : y ∈ l := by
        rcases List.mem_cons.1 h with h | h
        · exact absurd h hz
        · exact h
      have := rank_lt le T l x y hy hxy hne
      by_cases h1 : le z x = true
      · rw [if_pos h1, if_pos (T.trans z x y h1 hxy)]; omega
      · rw [if_neg h1]; split <;> omega
theorem rank_pos (le : α → α → Bool) (T : Total le) (l : List α) (x : α) (h : x ∈ l) : 1 ≤ rankL le l x ∧ rankL le l x ≤ l.length :=
  ⟨List.countP_pos_iff.2 ⟨x, h, T.refl x⟩, List.countP_le_length⟩
theorem rank_inj (le : α → α → Bool) (T : Total le) (l : List α) (x y : α) (hx : x ∈ l) (hy : y ∈ l) (h : rankL le l x = rankL le l y) : x = y := by
  by_cases hne : x = y
  · exact hne
  · rcases T.total x y with h1 | h1
    · have := rank_lt le T l x y hy h1 hne; omega
    · have := rank_lt le T l y x hx h1 (Ne.symm hne); omega
theorem ranks_nodup (le : α → α → Bool) (T : Total le) (l : List α) : ∀ (m : List α), m.Nodup → (∀ x ∈ m, x ∈ l) → (m.map (rankL le l)).Nodup
  | [], _, _ => List.nodup_nil
  | x :: m, hn, hm => by
    rw [List.map_cons, List.nodup_cons]
    rw [List.nodup_cons] at hn
    refine ⟨fun h => ?_, ranks_nodup le T l m hn.2 (fun y hy => hm y (List.mem_cons_of_mem _ hy))⟩
    obtain ⟨y, hy, e⟩ := List.mem_map.1 h
    have := rank_inj le T l y x (hm y (List.mem_cons_of_mem _ hy)) (hm x (List.mem_cons_self ..)) e
    exact hn.1 (this ▸ hy)
/-- **Each number from 1 on, up to how many there are, is the rank of just one.** -/
theorem rank_once (le : α → α → Bool) (T : Total le) (l : List α) (hn : l.Nodup) (n : Nat) (h1 : 1 ≤ n) (h2 : n ≤ l.length) : (l.map (rankL le l)).count n = 1 := by
  have hd := ranks_nodup le T l l hn (fun x hx => hx)
  have hm : n ∈ l.map (rankL le l) := pigeon l.length _ hd (by simp) (fun x hx => by
    obtain ⟨y, hy, rfl⟩ := List.mem_map.1 hx
    exact rank_pos le T l y hy) n h1 h2
  rw [hd.count, if_pos hm]
end Go.Proofs.YtpncomjpmilbkaaDoor

/- The numbers of groups, plainly: ranks by where they begin. Nothing of the program is used. -/
namespace Go.Proofs.YtpncomjpmilbkaaDoor

/-- y does not stand behind x: it begins earlier, or at the same place and holds it. -/
def leF (f : Nat → Int) (y x : Nat) : Bool := decide (f y < f x ∨ (f y = f x ∧ x ≤ y))
theorem leF_iff (f : Nat → Int) (y x : Nat) : leF f y x = true ↔ f y < f x ∨ (f y = f x ∧ x ≤ y) := decide_eq_true_iff
theorem leF_total (f : Nat → Int) : Total (leF f) where
  refl x := (leF_iff f x x).2 (.inr ⟨rfl, Nat.le_refl _⟩)
  trans x y z h1 h2 := by rw [leF_iff] at h1 h2 ⊢; omega
  anti x y h1 h2 := by rw [leF_iff] at h1 h2; omega
  total x y := by rw [leF_iff, leF_iff]; omega
/-- A group around all: it is the first, and all others are one later. -/
theorem rank_new (f : Nat → Int) (l : List Nat) (n : Nat) (hn : f n = -1) (hf : ∀ y ∈ l, -1 ≤ f y) (hl : ∀ y ∈ l, y < n) :
    rankL (leF f) (l ++ [n]) n = 1 ∧ ∀ x ∈ l, rankL (leF f) (l ++ [n]) x = rankL (leF f) l x + 1 := by
  constructor
  · have h0 : rankL (leF f) l n = 0 := List.countP_eq_zero.2 fun y hy h => by
      have h1 := (leF_iff f y n).1 h
      have := hf y hy
      have := hl y hy
      omega
    unfold rankL at h0 ⊢
    rw [List.countP_append, h0, List.countP_singleton, if_pos ((leF_iff f n n).2 (.inr ⟨rfl, Nat.le_refl _⟩))]
  · intro x hx
    have h1 := hf x hx
    have h2 := hl x hx
    unfold rankL
    rw [List.countP_append, List.countP_singleton, if_pos ((leF_iff f n x).2 (by omega))]
/-- Two orders that are the same on a list give the same ranks. -/
theorem rank_congr (f g : Nat → Int) (l : List Nat) (h : ∀ y ∈ l, f y = g y) (x : Nat) (hx : x ∈ l) : rankL (leF f) l x = rankL (leF g) l x := by
  unfold rankL
  refine List.countP_congr fun y hy => ?_
  rw [leF_iff, leF_iff, h y hy, h x hx]
end Go.Proofs.YtpncomjpmilbkaaDoor

/- Groups' numbers, plainly. Nothing of the program is used. -/
namespace Go.Proofs.YtpncomjpmilbkaaDoor

/-- The places of groups. -/
def grpF (kd : Nat → Int) (n : Nat) : List Nat := (List.range n).filter fun i => kd i == 3
/-- A node's number; 0, if it is no group. -/
def numF (kd : Nat → Int) (f : Nat → Int) (n i : Nat) : Nat := if kd i = 3 then rankL (leF f) (grpF kd n) i else 0
theorem grp_mem (kd : Nat → Int) (n i : Nat) : i ∈ grpF kd n ↔ i < n ∧ kd i = 3 := by unfold grpF; simp
theorem grp_nodup (kd : Nat → Int) (n : Nat) : (grpF kd n).Nodup := List.nodup_range.filter _
/-- As the document counts. -/
theorem num_count (kd f : Nat → Int) (n i : Nat) (h : kd i = 3) : numF kd f n i = (List.range n).countP fun k => kd k == 3 && leF f k i := by
  unfold numF rankL grpF
  rw [if_pos h, List.countP_filter]
  exact List.countP_congr fun x _ => by rw [Bool.and_comm]
theorem num_le (kd f : Nat → Int) (n i : Nat) : numF kd f n i ≤ (grpF kd n).length := by
  unfold numF
  by_cases h : kd i = 3
  · rw [if_pos h]; exact List.countP_le_length
  · rw [if_neg h]; exact Nat.zero_le _
theorem num_pos (kd f : Nat → Int) (n i : Nat) (hi : i < n) : 0 < numF kd f n i ↔ kd i = 3 := by
  unfold numF
  by_cases h : kd i = 3
  · rw [if_pos h]
    exact ⟨fun _ => h, fun _ => (rank_pos _ (leF_total f) _ i ((grp_mem kd n i).2 ⟨hi, h⟩)).1⟩
  · rw [if_neg h]
    exact ⟨fun h0 => absurd h0 (by decide), fun h1 => absurd h1 h⟩
/-- **Each number up to how many groups there are is told once.** -/
theorem told_once (kd f : Nat → Int) (n m : Nat) (h1 : 1 ≤ m) (h2 : m ≤ (grpF kd n).length) : ((List.range n).countP fun i => numF kd f n i == m) = 1 := by
  have h := rank_once (leF f) (leF_total f) (grpF kd n) (grp_nodup kd n) m h1 h2
  rw [List.count, List.countP_map] at h
  unfold grpF at h
  rw [List.countP_filter] at h
  rw [← h]
  refine List.countP_congr fun i _ => ?_
  unfold numF
  by_cases hk : kd i = 3
  · rw [if_pos hk]
    simp [Function.comp, hk, grpF]
  · rw [if_neg hk]
    have e : (kd i == 3) = false := by simpa using hk
    simp [e]
    omega
/-- In a group around all the numbers are one more. -/
theorem num_grows (kd kd' f f' : Nat → Int) (n : Nat) (hk : ∀ i, i < n → kd' i = kd i) (hn : kd' n = 3) (hf : ∀ i, i < n → f' i = f i) (hfn : f' n = -1) (hlow : ∀ i, i < n → -1 ≤ f i) :
    numF kd' f' (n + 1) n = 1 ∧ ∀ i, i < n → kd i = 3 → numF kd' f' (n + 1) i = numF kd f n i + 1 := by
  have eg : grpF kd' (n + 1) = grpF kd n ++ [n] := by
    unfold grpF
    rw [List.range_succ, List.filter_append]
    have e1 : (List.range n).filter (fun i => kd' i == 3) = (List.range n).filter fun i => kd i == 3 := List.filter_congr fun i hi => by rw [hk i (List.mem_range.1 hi)]
    rw [e1]
    simp [hn]
  have hm : ∀ y ∈ grpF kd n, y < n ∧ kd y = 3 := fun y hy => (grp_mem kd n y).1 hy
  obtain ⟨r1, r2⟩ := rank_new f' (grpF kd n) n hfn (fun y hy => by rw [hf y (hm y hy).1]; exact hlow y (hm y hy).1) (fun y hy => (hm y hy).1)
  refine ⟨by unfold numF; rw [if_pos hn, eg]; exact r1, fun i hi h3 => ?_⟩
  have hi' : i ∈ grpF kd n := (grp_mem kd n i).2 ⟨hi, h3⟩
  unfold numF
  rw [if_pos (by rw [hk i hi]; exact h3), if_pos h3, eg, r2 i hi', rank_congr f' f (grpF kd n) (fun y hy => hf y (hm y hy).1) i hi']
end Go.Proofs.YtpncomjpmilbkaaDoor

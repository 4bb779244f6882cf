/- Texts put together: So. -/
import Derived.WalkKit
/- Plain arithmetic: how the words' bits are counted eight at a time. Nothing of the program is used. -/
namespace Go.Proofs.Ytooolhekihijlaa
namespace BS

/-- How many of the numbers below n f says yes of. -/
def cnt (f : Nat → Bool) : Nat → Nat
  | 0 => 0
  | n + 1 => cnt f n + (f n).toNat
theorem cnt_congr {f g : Nat → Bool} : ∀ {n : Nat}, (∀ j, j < n → f j = g j) → cnt f n = cnt g n
  | 0, _ => rfl
  | n + 1, h => by rw [cnt, cnt, cnt_congr (fun j hj => h j (by omega)), h n (by omega)]
theorem cnt_add (f : Nat → Bool) (m : Nat) : ∀ n, cnt f (m + n) = cnt f m + cnt (fun j => f (m + j)) n
  | 0 => rfl
  | n + 1 => by rw [← Nat.add_assoc, cnt, cnt, cnt_add f m n, Nat.add_assoc]
theorem cnt_le (f : Nat → Bool) : ∀ n, cnt f n ≤ n
  | 0 => Nat.le_refl _
  | n + 1 => by have := cnt_le f n; have := Bool.toNat_le (f n); rw [cnt]; omega

theorem and_lane (b y c m : Nat) (hb : b < 256) (hc : c < 256) : (b + 256 * y) &&& (c + 256 * m) = (b &&& c) + 256 * (y &&& m) := by
  have hbc : b &&& c < 2 ^ 8 := Nat.and_lt_two_pow _ hc
  apply Nat.eq_of_testBit_eq; intro j
  rw [Nat.testBit_and, Nat.add_comm b, Nat.add_comm c, Nat.add_comm (b &&& c)]
  rw [show 256 = 2 ^ 8 from rfl, Nat.testBit_two_pow_mul_add _ hb, Nat.testBit_two_pow_mul_add _ hc, Nat.testBit_two_pow_mul_add _ hbc]
  by_cases h : j < 8
  · simp [h]
  · simp [h]

def rep (c : Nat) : Nat → Nat
  | 0 => 0
  | n + 1 => c + 256 * rep c n

theorem rep_succ (c n : Nat) : rep c (n + 1) = c + 256 * rep c n := rfl

def s1 (n x : Nat) : Nat := (x / 2 &&& rep 85 n) + (x &&& rep 85 n)
def s2 (n x : Nat) : Nat := (x / 4 &&& rep 51 n) + (x &&& rep 51 n)
def s3 (n x : Nat) : Nat := (x / 16 + x) &&& rep 15 n
def g1 (b : Nat) : Nat := (b / 2 &&& 85) + (b &&& 85)
def g2 (b : Nat) : Nat := (b / 4 &&& 51) + (b &&& 51)

theorem d1 : ∀ b < 256, ∀ t < 2, (b / 2 + 128 * t) &&& 85 = b / 2 &&& 85 := by decide +kernel
theorem d2 : ∀ b < 256, ∀ t < 4, (b / 4 + 64 * t) &&& 51 = b / 4 &&& 51 := by decide +kernel
theorem g1_lt : ∀ b < 256, g1 b < 256 := by decide +kernel
theorem g2_lt : ∀ b < 256, g2 (g1 b) < 256 ∧ g2 (g1 b) % 16 ≤ 4 ∧ g2 (g1 b) / 16 ≤ 4 := by decide +kernel
theorem d3 : ∀ b < 256, b % 16 ≤ 4 → b / 16 ≤ 4 → ∀ t < 5, (b / 16 + b + 16 * t) &&& 15 = b / 16 + b % 16 := by decide +kernel
theorem g3 : ∀ b < 256, g2 (g1 b) / 16 + g2 (g1 b) % 16 = cnt b.testBit 8 := by decide +kernel

theorem s1_step (n b y : Nat) (hb : b < 256) : s1 (n + 1) (b + 256 * y) = g1 b + 256 * s1 n y := by
  unfold s1 g1; rw [rep_succ]
  have e : (b + 256 * y) / 2 = (b / 2 + 128 * (y % 2)) + 256 * (y / 2) := by omega
  rw [e, and_lane _ _ _ _ (by omega) (by decide), and_lane _ _ _ _ hb (by decide), d1 b hb _ (by omega)]
  omega
theorem s2_step (n b y : Nat) (hb : b < 256) : s2 (n + 1) (b + 256 * y) = g2 b + 256 * s2 n y := by
  unfold s2 g2; rw [rep_succ]
  have e : (b + 256 * y) / 4 = (b / 4 + 64 * (y % 4)) + 256 * (y / 4) := by omega
  rw [e, and_lane _ _ _ _ (by omega) (by decide), and_lane _ _ _ _ hb (by decide), d2 b hb _ (by omega)]
  omega
theorem s3_step (n b y : Nat) (hb : b < 256) (h1 : b % 16 ≤ 4) (h2 : b / 16 ≤ 4) (hy : y % 16 ≤ 4) : s3 (n + 1) (b + 256 * y) = (b / 16 + b % 16) + 256 * s3 n y := by
  unfold s3; rw [rep_succ]
  have e : (b + 256 * y) / 16 + (b + 256 * y) = (b / 16 + b + 16 * (y % 16)) + 256 * (y / 16 + y) := by omega
  rw [e, and_lane _ _ _ _ (by omega) (by decide), d3 b hb h1 h2 _ (by omega)]

theorem low (n x : Nat) : s2 n (s1 n x) % 16 ≤ 4 := by
  cases n with
  | zero => simp [s2, rep]
  | succ n =>
    have hb : x % 256 < 256 := Nat.mod_lt _ (by decide)
    have e : x = x % 256 + 256 * (x / 256) := by omega
    rw [e, s1_step n _ _ hb, s2_step n _ _ (g1_lt _ hb)]
    have := (g2_lt _ hb).2.1
    omega

def s (n x : Nat) : Nat := s3 n (s2 n (s1 n x))
theorem s_step (n x : Nat) : s (n + 1) x = cnt (x % 256).testBit 8 + 256 * s n (x / 256) := by
  have hb : x % 256 < 256 := Nat.mod_lt _ (by decide)
  have e : s (n + 1) x = s (n + 1) (x % 256 + 256 * (x / 256)) := by congr 1; omega
  have h2 := g2_lt _ hb
  rw [e]
  unfold s
  rw [s1_step n _ _ hb, s2_step n _ _ (g1_lt _ hb), s3_step n _ _ h2.1 h2.2.1 h2.2.2 (low _ _), g3 _ hb]
theorem s_zero (x : Nat) : s 0 x = 0 := by simp [s, s3, rep]

theorem cnt_byte (x n : Nat) : cnt x.testBit (8 + n) = cnt (x % 256).testBit 8 + cnt (x / 256).testBit n := by
  rw [cnt_add]
  congr 1
  · apply cnt_congr; intro j hj
    rw [show 256 = 2 ^ 8 from rfl, Nat.testBit_mod_two_pow]; simp [hj]
  · apply cnt_congr; intro j _
    rw [show 256 = 2 ^ 8 from rfl, Nat.testBit_div_two_pow, Nat.add_comm]

/-- Eight lanes, one for each byte, with as many as there are bits. -/
theorem s_eight (x : Nat) : ∃ p0 p1 p2 p3 p4 p5 p6 p7 : Nat, p0 ≤ 8 ∧ p1 ≤ 8 ∧ p2 ≤ 8 ∧ p3 ≤ 8 ∧ p4 ≤ 8 ∧ p5 ≤ 8 ∧ p6 ≤ 8 ∧ p7 ≤ 8 ∧
    s 8 x = p0 + 256 * (p1 + 256 * (p2 + 256 * (p3 + 256 * (p4 + 256 * (p5 + 256 * (p6 + 256 * p7)))))) ∧
    cnt x.testBit 64 = p0 + p1 + p2 + p3 + p4 + p5 + p6 + p7 := by
  refine ⟨_, _, _, _, _, _, _, _, cnt_le (x % 256).testBit 8, cnt_le (x / 256 % 256).testBit 8, cnt_le (x / 256 / 256 % 256).testBit 8, cnt_le (x / 256 / 256 / 256 % 256).testBit 8,
    cnt_le (x / 256 / 256 / 256 / 256 % 256).testBit 8, cnt_le (x / 256 / 256 / 256 / 256 / 256 % 256).testBit 8, cnt_le (x / 256 / 256 / 256 / 256 / 256 / 256 % 256).testBit 8, cnt_le (x / 256 / 256 / 256 / 256 / 256 / 256 / 256 % 256).testBit 8, ?_, ?_⟩
  · simp only [s_step, s_zero, Nat.mul_zero, Nat.add_zero]
  · rw [show 64 = 8 + (8 + (8 + (8 + (8 + (8 + (8 + (8 + 0))))))) from rfl]
    simp only [cnt_byte]
    simp only [cnt, Nat.add_zero, Nat.add_assoc]

theorem div_of {a q B x : Nat} (h : x = a + B * q) (ha : a < B) : x / B = q := by
  rw [h, Nat.add_mul_div_left _ _ (by omega), Nat.div_eq_of_lt ha, Nat.zero_add]

/-- What the last additions make of the eight lanes. -/
theorem lanes (p0 p1 p2 p3 p4 p5 p6 p7 x3 x4 x5 x6 : Nat) (h0 : p0 ≤ 8) (h1 : p1 ≤ 8) (h2 : p2 ≤ 8) (h3 : p3 ≤ 8) (h4 : p4 ≤ 8) (h5 : p5 ≤ 8) (h6 : p6 ≤ 8) (h7 : p7 ≤ 8)
    (e3 : x3 = p0 + 256 * (p1 + 256 * (p2 + 256 * (p3 + 256 * (p4 + 256 * (p5 + 256 * (p6 + 256 * p7)))))))
    (e4 : x4 = x3 + x3 / 256) (e5 : x5 = x4 + x4 / 65536) (e6 : x6 = x5 + x5 / 4294967296) :
    x6 % 128 = p0 + p1 + p2 + p3 + p4 + p5 + p6 + p7 ∧ x4 < 4611686018427387904 ∧ x5 < 4611686018427387904 ∧ x6 < 4611686018427387904 := by
  have a4 : x3 / 256 = p1 + 256 * (p2 + 256 * (p3 + 256 * (p4 + 256 * (p5 + 256 * (p6 + 256 * p7))))) := div_of (a := p0) e3 (by omega)
  have b4 : x4 = ((p0 + p1) + 256 * (p1 + p2)) + 65536 * ((p2 + p3) + 256 * ((p3 + p4) + 256 * ((p4 + p5) + 256 * ((p5 + p6) + 256 * ((p6 + p7) + 256 * p7))))) := by rw [e4, a4, e3]; clear a4 e3 e4 e5 e6; omega
  have a5 : x4 / 65536 = (p2 + p3) + 256 * ((p3 + p4) + 256 * ((p4 + p5) + 256 * ((p5 + p6) + 256 * ((p6 + p7) + 256 * p7)))) := div_of b4 (by omega)
  have b5 : x5 = ((p0 + p1 + p2 + p3) + 256 * ((p1 + p2 + p3 + p4) + 256 * ((p2 + p3 + p4 + p5) + 256 * (p3 + p4 + p5 + p6)))) + 4294967296 * ((p4 + p5 + p6 + p7) + 256 * ((p5 + p6 + p7) + 256 * ((p6 + p7) + 256 * p7))) := by rw [e5, a5, b4]; clear a4 b4 a5 e3 e4 e5 e6; omega
  have a6 : x5 / 4294967296 = (p4 + p5 + p6 + p7) + 256 * ((p5 + p6 + p7) + 256 * ((p6 + p7) + 256 * p7)) := div_of b5 (by omega)
  have b6 : x6 = (p0 + p1 + p2 + p3 + p4 + p5 + p6 + p7) + 128 * (2 * ((p1 + p2 + p3 + p4 + (p5 + p6 + p7)) + 256 * ((p2 + p3 + p4 + p5 + (p6 + p7)) + 256 * ((p3 + p4 + p5 + p6 + p7) + 256 * ((p4 + p5 + p6 + p7) + 256 * ((p5 + p6 + p7) + 256 * ((p6 + p7) + 256 * p7))))))) := by rw [e6, a6, b5]; clear a4 b4 a5 b5 a6 e3 e4 e5 e6; omega
  clear a4 a5 a6 e3 e4 e5 e6
  refine ⟨?_, ?_, ?_, ?_⟩
  · rw [b6, Nat.add_mul_mod_self_left]; exact Nat.mod_eq_of_lt (by clear b4 b5 b6; omega)
  · clear b5 b6; omega
  · clear b4 b6; omega
  · clear b4 b5; omega

theorem rep85 : rep 85 8 = 6148914691236517205 := by decide
theorem rep51 : rep 51 8 = 3689348814741910323 := by decide
theorem rep15 : rep 15 8 = 1085102592571150095 := by decide
theorem s1_lt (x : Nat) : s1 8 x < 18446744073709551616 := by
  unfold s1; rw [rep85]
  have h1 : x / 2 &&& 6148914691236517205 ≤ 6148914691236517205 := Nat.and_le_right
  have h2 : x &&& 6148914691236517205 ≤ 6148914691236517205 := Nat.and_le_right
  omega
theorem s2_lt (x : Nat) : s2 8 x < 18446744073709551616 := by
  unfold s2; rw [rep51]
  have h1 : x / 4 &&& 3689348814741910323 ≤ 3689348814741910323 := Nat.and_le_right
  have h2 : x &&& 3689348814741910323 ≤ 3689348814741910323 := Nat.and_le_right
  omega
theorem s2_small (x : Nat) : s2 8 x / 16 + s2 8 x < 18446744073709551616 := by
  unfold s2; rw [rep51]
  have h1 : x / 4 &&& 3689348814741910323 ≤ 3689348814741910323 := Nat.and_le_right
  have h2 : x &&& 3689348814741910323 ≤ 3689348814741910323 := Nat.and_le_right
  omega
end BS
end Go.Proofs.Ytooolhekihijlaa

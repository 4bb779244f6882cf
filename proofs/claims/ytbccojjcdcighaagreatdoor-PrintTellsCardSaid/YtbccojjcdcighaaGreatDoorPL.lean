/- Texts put together: Sx Sp Sq Sr Ve Mh. -/
import Derived.Test.YtbccojjcdcighaaGreatDoorPB
import Derived.Test.YtbccojjcdcighaaGreatDoorPE
import Derived.Lib.TrailingZeros
import Derived.WalkLawsBesides
import Derived.Laws.StructEq
import Derived.Lib.Hide
import Derived.LoopTactic
import Derived.Handy
import Derived.IntWalk
namespace Go.Proofs.YtbccojjcdcighaaGreatDoor
open Go.RowKit BS
theorem next {B : Nat} {a b c : World} (h : Below B a b) (k : Below b.heap.size b c) (hB : B ≤ a.heap.size) : Below B a c :=
  h.trans (k.mono (Nat.le_trans hB h.size))
theorem upfrom {w w' : World} {o : Obj} (h : Below (w.alloc o).heap.size (w.alloc o) w') : Below w.heap.size w w' :=
  ((Below.refl _ w).alloc (Nat.le_refl _) _).trans (h.mono (by simp))
theorem box4 {w w' : World} {a b c d : Value} {t : TypeId} (h : Below (w.alloc (.cells #[a, b, c, d] t)).heap.size (w.alloc (.cells #[a, b, c, d] t)) w') :
    (w'.cell? ⟨w.heap.size, 0, none⟩ = some a ∧ w'.cell? ⟨w.heap.size, 1, none⟩ = some b ∧ w'.cell? ⟨w.heap.size, 2, none⟩ = some c ∧ w'.cell? ⟨w.heap.size, 3, none⟩ = some d) ∧
    (w'.frozen? ⟨w.heap.size, 0, none⟩ = false ∧ w'.frozen? ⟨w.heap.size, 1, none⟩ = false ∧ w'.frozen? ⟨w.heap.size, 2, none⟩ = false ∧ w'.frozen? ⟨w.heap.size, 3, none⟩ = false) := by
  obtain ⟨hc, hf⟩ := bcell h
  have hz : w.heap.size < (w.alloc (.cells #[a, b, c, d] t)).heap.size := by simp
  rw [hc _ _ hz, hc _ _ hz, hc _ _ hz, hc _ _ hz, hf _ _ hz, hf _ _ hz, hf _ _ hz, hf _ _ hz]
  refine ⟨⟨?_, ?_, ?_, ?_⟩, ?_, ?_, ?_, ?_⟩ <;> simp [go_sem]
set_option maxHeartbeats 400000 in
theorem range_calls (lo hi : Int) (w : World) (h0 : 0 ≤ lo) (hl : lo < 256) (h1 : 0 ≤ hi) (hh : hi < 256) :
    Calls Tryz.prog 204 #[.int .u8 lo, .int .u8 hi] w fun e w' => e = .returned (setV (range lo.toNat hi.toNat)) ∧ Below w.heap.size w w' := by
  go_enter Tryz.func204, Tryz.ntmps204
  go_wp2_with fail
  refine (below_calls _ _ (by omega) (by omega)).mono ?_
  rintro e w1 ⟨rfl, hb1⟩
  go_wp2_with fail
  refine (below_calls _ _ (by omega) (by omega)).mono ?_
  rintro e w2 ⟨rfl, hb2⟩
  go_wp2_with fail
  refine (less_calls _ _ _).mono ?_
  rintro e w3 ⟨rfl, hb3⟩
  have hB := next (next hb1 hb2 (Nat.le_refl _)) hb3 (Nat.le_refl _)
  clear hb1 hb2 hb3
  obtain ⟨⟨c0, c1, c2, c3⟩, f0, f1, f2, f3⟩ := box4 hB
  have hG := upfrom hB
  clear hB
  go_wp2
  refine bodyPost_ret (v := setV (mask (hi + 1).toNat &&& ~~~mask lo.toNat)) (by simp [results, Tryz.results204, go_sem, c0, c1, c2, c3]) rfl ⟨?_, ?_⟩
  · rw [← range_eq, show (hi + 1).toNat = hi.toNat + 1 by omega]
  · go_grown
theorem has_word' (a : BitVec 256) (x : Int) (i k : Nat) (hx : x.toNat = 64 * i + k) (hk : k < 64) : (bits .and .u64 ((wd a i : Int) / 2 ^ k) 1 == 1) = a.getLsbD x.toNat := by
  rw [hx, has_word a i k hk]
set_option maxHeartbeats 400000 in
theorem has_calls (a : BitVec 256) (x : Int) (w : World) (h0 : 0 ≤ x) (h1 : x < 256) :
    Calls Tryz.prog 115 #[setV a, .int .u8 x] w fun e w' => e = .returned (.bool (a.getLsbD x.toNat)) ∧ Below w.heap.size w w' := by
  have hx2 : 0 ≤ x % 64 := by omega
  have hx3 : x % 64 < 64 := by omega
  have h4 : x / 64 = 0 ∨ x / 64 = 1 ∨ x / 64 = 2 ∨ x / 64 = 3 := by omega
  rcases h4 with hx | hx | hx | hx
  all_goals
    go_enter Tryz.func115, Tryz.ntmps115
    go_wp2
    go_returns
    refine ⟨ret_bool (has_word' a x _ _ ?_ ?_), by go_grown⟩ <;> omega
end Go.Proofs.YtbccojjcdcighaaGreatDoor

namespace Go.Proofs.YtbccojjcdcighaaGreatDoor
open Go.RowKit BS
set_option maxHeartbeats 400000 in
theorem ones_core (x x1 x2 x3 x4 x5 x6 : Nat) (r : Int) (w : World)
    (e1 : IntKind.u64.wrap (bits .and .u64 ((x : Int) / 2) 6148914691236517205 + bits .and .u64 (x : Int) 6148914691236517205) = (x1 : Int))
    (e2 : IntKind.u64.wrap (bits .and .u64 ((x1 : Int) / 4) 3689348814741910323 + bits .and .u64 (x1 : Int) 3689348814741910323) = (x2 : Int))
    (e3 : bits .and .u64 (IntKind.u64.wrap ((x2 : Int) / 16 + (x2 : Int))) 1085102592571150095 = (x3 : Int))
    (e4 : IntKind.u64.wrap ((x3 : Int) + (x3 : Int) / 256) = (x4 : Int))
    (e5 : IntKind.u64.wrap ((x4 : Int) + (x4 : Int) / 65536) = (x5 : Int))
    (e6 : IntKind.u64.wrap ((x5 : Int) + (x5 : Int) / 4294967296) = (x6 : Int))
    (e7 : bits .and .i64 (wrap64 (x6 : Int)) 127 = r) :
    Calls Tryz.prog 99 #[.int .u64 x] w fun e w' => e = .returned (.int .i64 r) ∧ Below w.heap.size w w' := by
  go_enter Tryz.func99, Tryz.ntmps99
  go_wp2
  go_returns
  exact ⟨rfl, by clear e1 e2 e3 e4 e5 e6 e7; go_grown⟩
theorem bits_and_i64_127 (x : Nat) (hx : x < 4611686018427387904) : bits .and .i64 (wrap64 (x : Int)) 127 = ((x % 128 : Nat) : Int) := by
  have h0 : wrap64 (x : Int) = (x : Int) := by unfold wrap64; omega
  rw [h0]
  have h1 : (BitVec.ofInt 64 (x : Int)).toNat = x := ofInt_toNat x (by omega)
  have h2 : (BitVec.ofInt 64 (127 : Int)).toNat = 127 := by decide
  show IntKind.i64.wrap ((BitVec.ofInt 64 (x : Int) &&& BitVec.ofInt 64 (127 : Int)).toNat : Int) = _
  rw [BitVec.toNat_and, h1, h2, show (127 : Nat) = 2 ^ 7 - 1 from rfl, Nat.and_two_pow_sub_one_eq_mod, IntKind.wrap_i64]
  omega
theorem ones_calls (x : Nat) (w : World) (hx : x < 18446744073709551616) :
    Calls Tryz.prog 99 #[.int .u64 x] w fun e w' => e = .returned (.int .i64 (cnt x.testBit 64)) ∧ Below w.heap.size w w' := by
  obtain ⟨p0, p1, p2, p3, p4, p5, p6, p7, l0, l1, l2, l3, l4, l5, l6, l7, hs, hc⟩ := s_eight x
  obtain ⟨x3, h3⟩ : ∃ x3, x3 = s 8 x := ⟨_, rfl⟩
  obtain ⟨x4, h4⟩ : ∃ x4, x4 = x3 + x3 / 256 := ⟨_, rfl⟩
  obtain ⟨x5, h5⟩ : ∃ x5, x5 = x4 + x4 / 65536 := ⟨_, rfl⟩
  obtain ⟨x6, h6⟩ : ∃ x6, x6 = x5 + x5 / 4294967296 := ⟨_, rfl⟩
  obtain ⟨hr, b4, b5, b6⟩ := lanes p0 p1 p2 p3 p4 p5 p6 p7 x3 x4 x5 x6 l0 l1 l2 l3 l4 l5 l6 l7 (h3.trans hs) h4 h5 h6
  rw [hc, ← hr]
  have e1 := s1_lt x
  have e2 := s2_lt (s1 8 x)
  have e3 := s2_small (s1 8 x)
  clear hs hr hc
  refine ones_core x (s1 8 x) (s2 8 (s1 8 x)) x3 x4 x5 x6 _ w ?_ ?_ ?_ ?_ ?_ ?_ (bits_and_i64_127 _ b6)
  · have h1 : ((x : Int) / 2) = ((x / 2 : Nat) : Int) := by simp
    rw [h1, show (6148914691236517205 : Int) = ((rep 85 8 : Nat) : Int) from by rw [rep85]; rfl, bits_and_nat _ _ (by omega) (by rw [rep85]; decide), bits_and_nat _ _ hx (by rw [rep85]; decide), ← Int.natCast_add]
    exact wrap_u64_nat _ e1
  · have h1 : ((s1 8 x : Nat) : Int) / 4 = ((s1 8 x / 4 : Nat) : Int) := by simp
    rw [h1, show (3689348814741910323 : Int) = ((rep 51 8 : Nat) : Int) from by rw [rep51]; rfl, bits_and_nat _ _ (by omega) (by rw [rep51]; decide), bits_and_nat _ _ e1 (by rw [rep51]; decide), ← Int.natCast_add]
    exact wrap_u64_nat _ e2
  · rw [h3]; show _ = ((s3 8 (s2 8 (s1 8 x)) : Nat) : Int)
    generalize s2 8 (s1 8 x) = y at *
    have h1 : ((y : Nat) : Int) / 16 + (y : Int) = ((y / 16 + y : Nat) : Int) := by simp
    rw [h1, wrap_u64_nat _ e3, show (1085102592571150095 : Int) = ((rep 15 8 : Nat) : Int) from by rw [rep15]; rfl, bits_and_nat _ _ e3 (by rw [rep15]; decide)]
    rfl
  · rw [h4] at b4 ⊢
    have h1 : (x3 : Int) + (x3 : Int) / 256 = ((x3 + x3 / 256 : Nat) : Int) := by simp
    rw [h1]; exact wrap_u64_nat _ (by omega)
  · rw [h5] at b5 ⊢
    have h1 : (x4 : Int) + (x4 : Int) / 65536 = ((x4 + x4 / 65536 : Nat) : Int) := by simp
    rw [h1]; exact wrap_u64_nat _ (by omega)
  · rw [h6] at b6 ⊢
    have h1 : (x5 : Int) + (x5 : Int) / 4294967296 = ((x5 + x5 / 4294967296 : Nat) : Int) := by simp
    rw [h1]; exact wrap_u64_nat _ (by omega)
end Go.Proofs.YtbccojjcdcighaaGreatDoor

namespace Go.Proofs.YtbccojjcdcighaaGreatDoor
open Go.RowKit BS
def Tab (w : World) : Prop := ∀ j, j < 64 → w.cell? ⟨1, j, none⟩ = some (.int .u8 (Lib.deBruijn64tab.getD j 0))
theorem Tab.keep {B : Nat} {w w' : World} (h : Tab w) (hb : Below B w w') (hB : 1 < B) : Tab w' :=
  fun j hj => (hb.cell (p := ⟨1, j, none⟩) hB).trans (h j hj)
set_option maxHeartbeats 400000 in
theorem tz_core (x k idx : Nat) (w : World) (hx0 : ((x : Int) == 0) = false)
    (key : IntKind.u64.wrap (bits .and .u64 (x : Int) (IntKind.u64.wrap (-(x : Int))) * 285870213051353865) / 288230376151711744 = (idx : Int))
    (hi : idx < 64) (hk : k < 64) (hcell : w.cell? ⟨1, idx, none⟩ = some (.int .u8 k)) :
    Calls Tryz.prog 103 #[.int .u64 x] w fun e w' => e = .returned (.int .i64 k) ∧ w = w' := by
  go_enter Tryz.func103, Tryz.ntmps103
  go_wp2
  go_ret
  exact ⟨rfl, rfl⟩
theorem tz_calls (x : Nat) (w : World) (hx : x < 18446744073709551616) (h0 : x ≠ 0) (hT : Tab w) :
    Calls Tryz.prog 103 #[.int .u64 x] w fun e w' => e = .returned (.int .i64 (Lib.ctz 64 x)) ∧ w = w' := by
  obtain ⟨hlow, hk⟩ := Lib.lowest_bit 64 x h0 hx
  obtain ⟨hi, htab⟩ := Lib.deBruijn64_at _ hk
  have hcell := hT _ hi
  rw [htab] at hcell
  refine tz_core x _ _ w (by simp; omega) ?_ hi hk hcell
  have e1 : IntKind.u64.wrap (-(x : Int)) = ((18446744073709551616 - x : Nat) : Int) := by rw [IntKind.wrap_u64]; omega
  rw [e1, bits_and_nat x _ hx (by omega), show x &&& 18446744073709551616 - x = 2 ^ Lib.ctz 64 x from hlow, IntKind.wrap_u64]
  generalize 2 ^ Lib.ctz 64 x = a
  omega
end Go.Proofs.YtbccojjcdcighaaGreatDoor

namespace Go.Proofs.YtbccojjcdcighaaGreatDoor
open Go.RowKit BS
def cw (s : BitVec 256) (i : Nat) : Nat := cnt (wd s i).testBit 64
theorem cw_le (s : BitVec 256) (i : Nat) : cw s i ≤ 64 := cnt_le _ _
theorem ones_wd (s : BitVec 256) (i : Nat) (w : World) :
    Calls Tryz.prog 99 #[.int .u64 (wd s i)] w fun e w' => e = .returned (.int .i64 (cw s i)) ∧ Below w.heap.size w w' := ones_calls _ w (wd_lt' s i)
theorem cnt4 (f : Nat → Bool) : cnt f 256 = cnt f 64 + cnt (fun j => f (64 + j)) 64 + cnt (fun j => f (128 + j)) 64 + cnt (fun j => f (192 + j)) 64 := by
  have e := cnt_add f 64 (64 + (64 + 64))
  rw [cnt_add (fun j => f (64 + j)), cnt_add (fun j => f (64 + (64 + j)))] at e
  have e2 : cnt f 256 = cnt f (64 + (64 + (64 + 64))) := rfl
  rw [e2, e, ← Nat.add_assoc, ← Nat.add_assoc]
  have h1 : cnt (fun j => f (64 + (64 + j))) 64 = cnt (fun j => f (128 + j)) 64 := cnt_congr fun j _ => congrArg f (by omega)
  have h2 : cnt (fun j => f (64 + (64 + (64 + j)))) 64 = cnt (fun j => f (192 + j)) 64 := cnt_congr fun j _ => congrArg f (by omega)
  rw [h1, h2]
theorem cw_sum (s : BitVec 256) : cnt s.getLsbD 256 = cw s 0 + cw s 1 + cw s 2 + cw s 3 := by
  have h : ∀ i k, k = 64 * i → cw s i = cnt (fun j => s.getLsbD (k + j)) 64 := by
    intro i k hk
    subst hk
    apply cnt_congr; intro j hj
    rw [testBit_wd]; simp [hj]
  rw [cnt4, h 0 0 rfl, h 1 64 rfl, h 2 128 rfl, h 3 192 rfl]
  simp only [Nat.zero_add]
set_option maxHeartbeats 400000 in
theorem count_calls (s : BitVec 256) (w : World) :
    Calls Tryz.prog 77 #[setV s] w fun e w' => e = .returned (.int .i64 (cnt s.getLsbD 256)) ∧ Below w.heap.size w w' := by
  have i0 := ix0; have i1 := ix1; have i2 := ix2; have i3 := ix3
  have b0 := cw_le s 0; have b1 := cw_le s 1; have b2 := cw_le s 2; have b3 := cw_le s 3
  go_enter Tryz.func77, Tryz.ntmps77
  go_wp2
  refine wp_loop_rounds 5 ?_
  rw [rounds_succ]
  go_wp2_with fail
  refine (ones_wd _ _ _).mono ?_
  rintro e w1 ⟨rfl, hb1⟩
  go_wp2_with fail
  rw [rounds_succ]
  go_wp2_with fail
  refine (ones_wd _ _ _).mono ?_
  rintro e w2 ⟨rfl, hb2⟩
  go_wp2_with fail
  rw [rounds_succ]
  go_wp2_with fail
  refine (ones_wd _ _ _).mono ?_
  rintro e w3 ⟨rfl, hb3⟩
  go_wp2_with fail
  rw [rounds_succ]
  go_wp2_with fail
  refine (ones_wd _ _ _).mono ?_
  rintro e w4 ⟨rfl, hb4⟩
  go_wp2_with fail
  rw [rounds_succ]
  go_wp2
  go_ret
  rw [cw_sum]
  refine ⟨ret_int (by simp only [Int.natCast_add]), ?_⟩
  exact next (next (next (upfrom hb1) hb2 (Nat.le_refl _)) hb3 (Nat.le_refl _)) hb4 (Nat.le_refl _)
theorem ctz_wd (s : BitVec 256) (i : Nat) (h : wd s i ≠ 0) : Lib.ctz 64 (wd s i) < 64 ∧ s.getLsbD (64 * i + Lib.ctz 64 (wd s i)) = true ∧ ∀ j, j < Lib.ctz 64 (wd s i) → s.getLsbD (64 * i + j) = false := by
  obtain ⟨m, hm, hk⟩ := Lib.ctzFrom_spec 64 (wd s i) (by omega) (wd_lt s i)
  have e : Lib.ctz 64 (wd s i) = Lib.ctzFrom 64 (wd s i) := by simp [Lib.ctz, h]
  rw [e]
  generalize Lib.ctzFrom 64 (wd s i) = k at *
  have ht : ∀ j, (wd s i).testBit j = (decide (j ≥ k) && (2 * m + 1).testBit (j - k)) := by
    intro j; rw [hm, Nat.mul_comm, Nat.testBit_mul_two_pow]
  refine ⟨hk, ?_, ?_⟩
  · have := ht k
    rw [testBit_wd] at this
    simpa [hk] using this
  · intro j hj
    have := ht j
    rw [testBit_wd] at this
    have h1 : j < 64 := by omega
    have h2 : ¬ j ≥ k := by omega
    simpa [h1, h2] using this
def nextOf (f : Nat → Bool) (n : Nat) : Int := match (List.range 256).find? (fun j => decide (n ≤ j) && f j) with | some j => j | none => -1
theorem nextOf_eq {f : Nat → Bool} {n k : Nat} (h1 : k < 256) (h2 : n ≤ k) (h3 : f k = true) (h4 : ∀ j, n ≤ j → j < k → f j = false) : nextOf f n = k := by
  have : (List.range 256).find? (fun j => decide (n ≤ j) && f j) = some k := by
    rw [List.find?_range_eq_some]
    refine ⟨by simp [h2, h3], by simpa using h1, ?_⟩
    intro j hj
    by_cases hn : n ≤ j
    · simp [h4 j hn hj]
    · simp [hn]
  rw [nextOf, this]
theorem nextOf_none {f : Nat → Bool} {n : Nat} (h : ∀ j, n ≤ j → j < 256 → f j = false) : nextOf f n = -1 := by
  have : (List.range 256).find? (fun j => decide (n ≤ j) && f j) = none := by
    rw [List.find?_eq_none]
    intro j hj
    have hj' : j < 256 := by simpa using hj
    by_cases hn : n ≤ j
    · simp [h j hn hj']
    · simp [hn]
  rw [nextOf, this]
theorem wd_zero {s : BitVec 256} {i : Nat} (h : wd s i = 0) (j : Nat) (hj : j < 64) : s.getLsbD (64 * i + j) = false := by
  have := testBit_wd s i j
  rw [h] at this
  simpa [hj] using this.symm
theorem next_word (s : BitVec 256) (n i : Nat) (hi : i < 4) (h : wd (s &&& ~~~(mask n)) i ≠ 0) (hz : ∀ i', i' < i → wd (s &&& ~~~(mask n)) i' = 0) :
    (i : Int) * 64 + (Lib.ctz 64 (wd (s &&& ~~~(mask n)) i) : Int) = nextOf s.getLsbD n := by
  obtain ⟨hk, h1, h2⟩ := ctz_wd _ i h
  generalize Lib.ctz 64 (wd (s &&& ~~~(mask n)) i) = k at *
  have hb : ∀ j, j < 256 → (s &&& ~~~(mask n)).getLsbD j = (s.getLsbD j && decide (n ≤ j)) := by
    intro j hj
    rw [BitVec.getLsbD_and, BitVec.getLsbD_not, mask, get_ofFn]
    simp only [hj, decide_true, Bool.true_and]
    rw [← decide_not]; congr 1; rw [decide_eq_decide]; omega
  have h3 := hb (64 * i + k) (by omega)
  rw [h1] at h3
  simp only [Bool.true_eq, Bool.and_eq_true, decide_eq_true_eq] at h3
  rw [nextOf_eq (k := 64 * i + k) (by omega) h3.2 h3.1 ?_]
  · omega
  · intro j hn hj
    have h4 := hb j (by omega)
    simp only [hn, decide_true, Bool.and_true] at h4
    rw [← h4]
    by_cases hji : j / 64 = i
    · have e : j = 64 * i + j % 64 := by omega
      rw [e]; exact h2 _ (by omega)
    · have e : j = 64 * (j / 64) + j % 64 := by omega
      rw [e]; exact wd_zero (hz _ (by omega)) _ (by omega)
theorem next_no (s : BitVec 256) (n : Nat) (hz : ∀ i', i' < 4 → wd (s &&& ~~~(mask n)) i' = 0) : nextOf s.getLsbD n = -1 := by
  apply nextOf_none
  intro j hn hj
  have e : j = 64 * (j / 64) + j % 64 := by omega
  have h0 := wd_zero (hz (j / 64) (by omega)) (j % 64) (by omega)
  rw [← e, BitVec.getLsbD_and, BitVec.getLsbD_not, mask, get_ofFn] at h0
  simpa [hj, show ¬ j < n by omega] using h0
end Go.Proofs.YtbccojjcdcighaaGreatDoor

namespace Go.Proofs.YtbccojjcdcighaaGreatDoor
open Go.RowKit BS
end Go.Proofs.YtbccojjcdcighaaGreatDoor

namespace Go.Proofs.YtbccojjcdcighaaGreatDoor
open Go.RowKit
theorem sl_run (s : ByteArray) (a b : Int) (i j : Nat) (ha : a = i) (hb : b = j) (hij : i ≤ j) (hj : j ≤ s.size) (w : World) :
    (Instr.slice 9 (.string s) (some (.int .i64 a)) (some (.int .i64 b)) none).run Tryz.prog w = .ok (.string (s.extract i j)) w := by
  subst ha
  subst hb
  go_simp
set_option maxRecDepth 100000 in
set_option maxHeartbeats 4000000 in
theorem small_calls (n : Nat) (hn : n < 100) (w : World) : Calls Tryz.prog 126 #[.int .i64 n] w fun e w' => e = .returned (.string (ofT (digL n))) ∧ w = w' := by
  by_cases h : 10 ≤ n
  · have q : decide (n < 10) = false := by rw [decide_eq_false_iff_not]; omega
    go_enter Tryz.func126, Tryz.ntmps126
    go_wp2_with fail
    first
    | (rw [sl_run _ _ _ (n * 2) (n * 2 + 2) (by omega) (by omega) (by omega)]
       rotate_left
       · exact Nat.le_trans (show n * 2 + 2 ≤ 200 by omega) (by decide +kernel)
       simp only [Result.andThen]
       rw [Oper.upon_value]
       go_wp2_with fail)
    | skip
    go_ret
    refine ⟨congrArg (fun x => Ending.returned (.string x)) ?_, rfl⟩
    refine (?_ : ∀ m : Nat, m < 100 → 10 ≤ m → ByteArray.extract _ (m * 2) (m * 2 + 2) = ofT (digL m)) n hn h
    decide +kernel
  · have q : decide (n < 10) = true := by rw [decide_eq_true_iff]; omega
    go_enter Tryz.func126, Tryz.ntmps126
    go_wp2_with fail
    first
    | (rw [sl_run _ _ _ n (n + 1) (by omega) (by omega) (by omega)]
       rotate_left
       · exact Nat.le_trans (show n + 1 ≤ 10 by omega) (by decide +kernel)
       simp only [Result.andThen]
       rw [Oper.upon_value]
       go_wp2_with fail)
    | skip
    go_ret
    refine ⟨congrArg (fun x => Ending.returned (.string x)) ?_, rfl⟩
    refine (?_ : ∀ m : Nat, m < 10 → ByteArray.extract _ m (m + 1) = ofT (digL m)) n (by omega)
    decide +kernel
set_option maxHeartbeats 1000000 in
theorem formatInt_calls (n : Nat) (hn : n < 100) (w : World) : Calls Tryz.prog 118 #[.int .i64 n, .int .i64 10] w fun e w' => e = .returned (.string (ofT (digL n))) ∧ w = w' := by
  have HS := Lib.hid (small_calls n hn)
  have q1 : decide ((0 : Int) ≤ (n : Int)) = true := by rw [decide_eq_true_iff]; omega
  have q2 : decide (n < 100) = true := by rw [decide_eq_true_iff]; omega
  generalize ofT (digL n) = t at *
  go_enter Tryz.func118, Tryz.ntmps118
  go_wp2_with fail
  refine (HS.out _).mono ?_
  rintro e w' ⟨rfl, rfl⟩
  go_wp2_with fail
  go_ret
  exact ⟨rfl, rfl⟩
set_option maxHeartbeats 1000000 in
theorem itoaI_calls (n : Nat) (hn : n < 100) (w : World) : Calls Tryz.prog 108 #[.int .i64 n] w fun e w' => e = .returned (.string (ofT (digL n))) ∧ w = w' := by
  have HS := Lib.hid (formatInt_calls n hn)
  generalize ofT (digL n) = t at *
  go_enter Tryz.func108, Tryz.ntmps108
  go_wp2_with fail
  refine (HS.out _).mono ?_
  rintro e w' ⟨rfl, rfl⟩
  go_wp2_with fail
  go_ret
  exact ⟨rfl, rfl⟩
set_option maxHeartbeats 1000000 in
theorem itoa_calls (n : Nat) (hn : n < 100) (w : World) : Calls Tryz.prog 84 #[.int .i64 n] w fun e w' => e = .returned (.string (ofT (digL n))) ∧ w = w' := by
  have HS := Lib.hid (itoaI_calls n hn)
  generalize ofT (digL n) = t at *
  go_enter Tryz.func84, Tryz.ntmps84
  go_wp2_with fail
  refine (HS.out _).mono ?_
  rintro e w' ⟨rfl, rfl⟩
  go_wp2_with fail
  go_ret
  exact ⟨rfl, rfl⟩
end Go.Proofs.YtbccojjcdcighaaGreatDoor

/- math/bits.OnesCount64: how many bits a word has. -/
import Derived.Test.YtkkhibamkdgffaaDoorSx
import Derived.Test.YtkkhibamkdgffaaDoorSo
namespace Go.Proofs.YtkkhibamkdgffaaDoor
open Go.RowKit BS

set_option maxHeartbeats 400000 in
theorem ones_core (x x1 x2 x3 x4 x5 x6 : Nat) (r : Int) (w : World)
    (e1 : IntKind.u64.wrap (bits .and .u64 ((x : Int) / 2) 6148914691236517205 + bits .and .u64 (x : Int) 6148914691236517205) = (x1 : Int))
    (e2 : IntKind.u64.wrap (bits .and .u64 ((x1 : Int) / 4) 3689348814741910323 + bits .and .u64 (x1 : Int) 3689348814741910323) = (x2 : Int))
    (e3 : bits .and .u64 (IntKind.u64.wrap ((x2 : Int) / 16 + (x2 : Int))) 1085102592571150095 = (x3 : Int))
    (e4 : IntKind.u64.wrap ((x3 : Int) + (x3 : Int) / 256) = (x4 : Int))
    (e5 : IntKind.u64.wrap ((x4 : Int) + (x4 : Int) / 65536) = (x5 : Int))
    (e6 : IntKind.u64.wrap ((x5 : Int) + (x5 : Int) / 4294967296) = (x6 : Int))
    (e7 : bits .and .i64 (wrap64 (x6 : Int)) 127 = r) :
    Calls Tryd.prog 20 #[.int .u64 x] w fun e w' => e = .returned (.int .i64 r) ∧ Below w.heap.size w w' := by
  go_enter Tryd.func20, Tryd.ntmps20
  go_wp2
  go_returns
  exact ⟨rfl, by clear e1 e2 e3 e4 e5 e6 e7; go_grown⟩

theorem bits_and_i64_127 (x : Nat) (hx : x < 4611686018427387904) : bits .and .i64 (wrap64 (x : Int)) 127 = ((x % 128 : Nat) : Int) := by
  have h0 : wrap64 (x : Int) = (x : Int) := by unfold wrap64; omega
  rw [h0]
  have h1 : (BitVec.ofInt 64 (x : Int)).toNat = x := ofInt_toNat x (by omega)
  have h2 : (BitVec.ofInt 64 (127 : Int)).toNat = 127 := by decide
  show IntKind.i64.wrap ((BitVec.ofInt 64 (x : Int) &&& BitVec.ofInt 64 (127 : Int)).toNat : Int) = _
  rw [BitVec.toNat_and, h1, h2, show (127 : Nat) = 2 ^ 7 - 1 from rfl, Nat.and_two_pow_sub_one_eq_mod, IntKind.wrap_i64]
  omega

/-- OnesCount64. -/
theorem ones_calls (x : Nat) (w : World) (hx : x < 18446744073709551616) :
    Calls Tryd.prog 20 #[.int .u64 x] w fun e w' => e = .returned (.int .i64 (cnt x.testBit 64)) ∧ Below w.heap.size w w' := by
  obtain ⟨p0, p1, p2, p3, p4, p5, p6, p7, l0, l1, l2, l3, l4, l5, l6, l7, hs, hc⟩ := s_eight x
  obtain ⟨x3, h3⟩ : ∃ x3, x3 = s 8 x := ⟨_, rfl⟩
  obtain ⟨x4, h4⟩ : ∃ x4, x4 = x3 + x3 / 256 := ⟨_, rfl⟩
  obtain ⟨x5, h5⟩ : ∃ x5, x5 = x4 + x4 / 65536 := ⟨_, rfl⟩
  obtain ⟨x6, h6⟩ : ∃ x6, x6 = x5 + x5 / 4294967296 := ⟨_, rfl⟩
  obtain ⟨hr, b4, b5, b6⟩ := lanes p0 p1 p2 p3 p4 p5 p6 p7 x3 x4 x5 x6 l0 l1 l2 l3 l4 l5 l6 l7 (h3.trans hs) h4 h5 h6
  rw [hc, ← hr]
  have e1 := s1_lt x
  have e2 := s2_lt (s1 8 x)
  have e3 := s2_small (s1 8 x)
  clear hs hr hc
  refine ones_core x (s1 8 x) (s2 8 (s1 8 x)) x3 x4 x5 x6 _ w ?_ ?_ ?_ ?_ ?_ ?_ (bits_and_i64_127 _ b6)
  · have h1 : ((x : Int) / 2) = ((x / 2 : Nat) : Int) := by simp
    rw [h1, show (6148914691236517205 : Int) = ((rep 85 8 : Nat) : Int) from by rw [rep85]; rfl, bits_and_nat _ _ (by omega) (by rw [rep85]; decide), bits_and_nat _ _ hx (by rw [rep85]; decide), ← Int.natCast_add]
    exact wrap_u64_nat _ e1
  · have h1 : ((s1 8 x : Nat) : Int) / 4 = ((s1 8 x / 4 : Nat) : Int) := by simp
    rw [h1, show (3689348814741910323 : Int) = ((rep 51 8 : Nat) : Int) from by rw [rep51]; rfl, bits_and_nat _ _ (by omega) (by rw [rep51]; decide), bits_and_nat _ _ e1 (by rw [rep51]; decide), ← Int.natCast_add]
    exact wrap_u64_nat _ e2
  · rw [h3]; show _ = ((s3 8 (s2 8 (s1 8 x)) : Nat) : Int)
    generalize s2 8 (s1 8 x) = y at *
    have h1 : ((y : Nat) : Int) / 16 + (y : Int) = ((y / 16 + y : Nat) : Int) := by simp
    rw [h1, wrap_u64_nat _ e3, show (1085102592571150095 : Int) = ((rep 15 8 : Nat) : Int) from by rw [rep15]; rfl, bits_and_nat _ _ e3 (by rw [rep15]; decide)]
    rfl
  · rw [h4] at b4 ⊢
    have h1 : (x3 : Int) + (x3 : Int) / 256 = ((x3 + x3 / 256 : Nat) : Int) := by simp
    rw [h1]; exact wrap_u64_nat _ (by omega)
  · rw [h5] at b5 ⊢
    have h1 : (x4 : Int) + (x4 : Int) / 65536 = ((x4 + x4 / 65536 : Nat) : Int) := by simp
    rw [h1]; exact wrap_u64_nat _ (by omega)
  · rw [h6] at b6 ⊢
    have h1 : (x5 : Int) + (x5 : Int) / 4294967296 = ((x5 + x5 / 4294967296 : Nat) : Int) := by simp
    rw [h1]; exact wrap_u64_nat _ (by omega)
end Go.Proofs.YtkkhibamkdgffaaDoor

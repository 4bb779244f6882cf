/- The calls on sets of bytes: what each hands back, whatever the sets are. -/
import Derived.Test.YtkkhibamkdgffaaDoorRows
import Derived.Test.YtkkhibamkdgffaaDoorSm
import Derived.WalkKit
import Derived.WalkSpells
import Derived.WalkLawsBesides
import Derived.Handy
namespace Go.Proofs.YtkkhibamkdgffaaDoor
open Go.RowKit BS

theorem bcell {W w1 : World} (hb : Below W.heap.size W w1) : (∀ b o, b < W.heap.size → w1.cell? ⟨b, o, none⟩ = W.cell? ⟨b, o, none⟩) ∧ (∀ b o, b < W.heap.size → w1.frozen? ⟨b, o, none⟩ = W.frozen? ⟨b, o, none⟩) :=
  ⟨fun b o h => hb.cell (p := ⟨b, o, none⟩) h, fun b o h => hb.frozen (p := ⟨b, o, none⟩) h⟩

theorem ret_set {s : BitVec 256} {a b c d : Int} (h0 : a = wd s 0) (h1 : b = wd s 1) (h2 : c = wd s 2) (h3 : d = wd s 3) :
    Ending.returned (.agg #[.int .u64 a, .int .u64 b, .int .u64 c, .int .u64 d]) = .returned (setV s) := by rw [h0, h1, h2, h3]
theorem ret_bool {a b : Bool} (h : a = b) : Ending.returned (.bool a) = .returned (.bool b) := by rw [h]
theorem ret_int {k : IntKind} {a b : Int} (h : a = b) : Ending.returned (.int k a) = .returned (.int k b) := by rw [h]

theorem ix0 (a b c d : Value) (w : World) : (Instr.index 24 (.agg #[a, b, c, d]) (.int .i64 0)).run Tryd.prog w = .ok a w := by kernel_rfl
theorem ix1 (a b c d : Value) (w : World) : (Instr.index 24 (.agg #[a, b, c, d]) (.int .i64 1)).run Tryd.prog w = .ok b w := by kernel_rfl
theorem ix2 (a b c d : Value) (w : World) : (Instr.index 24 (.agg #[a, b, c, d]) (.int .i64 2)).run Tryd.prog w = .ok c w := by kernel_rfl
theorem ix3 (a b c d : Value) (w : World) : (Instr.index 24 (.agg #[a, b, c, d]) (.int .i64 3)).run Tryd.prog w = .ok d w := by kernel_rfl

set_option maxHeartbeats 400000 in
/-- Or. -/
theorem or_calls (a b : BitVec 256) (w : World) :
    Calls Tryd.prog 33 #[setV a, setV b] w fun e w' => e = .returned (setV (a ||| b)) ∧ Below w.heap.size w w' := by
  have i0 := ix0; have i1 := ix1; have i2 := ix2; have i3 := ix3
  go_enter Tryd.func33, Tryd.ntmps33
  go_wp2
  go_rounds 5
  go_returns
  exact ⟨ret_set (bits_or_wd _ _ _) (bits_or_wd _ _ _) (bits_or_wd _ _ _) (bits_or_wd _ _ _), by go_grown⟩
set_option maxHeartbeats 400000 in
/-- Less. -/
theorem less_calls (a b : BitVec 256) (w : World) :
    Calls Tryd.prog 12 #[setV a, setV b] w fun e w' => e = .returned (setV (a &&& ~~~b)) ∧ Below w.heap.size w w' := by
  have i0 := ix0; have i1 := ix1; have i2 := ix2; have i3 := ix3
  go_enter Tryd.func12, Tryd.ntmps12
  go_wp2
  go_rounds 5
  go_returns
  exact ⟨ret_set (bits_andNot_wd _ _ _ (by decide)) (bits_andNot_wd _ _ _ (by decide)) (bits_andNot_wd _ _ _ (by decide)) (bits_andNot_wd _ _ _ (by decide)), by go_grown⟩
set_option maxHeartbeats 400000 in
/-- Not. -/
theorem not_calls (a : BitVec 256) (w : World) :
    Calls Tryd.prog 27 #[setV a] w fun e w' => e = .returned (setV (~~~a)) ∧ Below w.heap.size w w' := by
  have i0 := ix0; have i1 := ix1; have i2 := ix2; have i3 := ix3
  go_enter Tryd.func27, Tryd.ntmps27
  go_wp2
  go_rounds 5
  go_returns
  exact ⟨ret_set (bits_not_wd _ _ (by decide)) (bits_not_wd _ _ (by decide)) (bits_not_wd _ _ (by decide)) (bits_not_wd _ _ (by decide)), by go_grown⟩

theorem mask_word (n : Nat) (i : Nat) (hi : i < 4) (k : Nat) (hk : min (n - 64 * i) 64 = k) : IntKind.u64.wrap (IntKind.u64.wrap (2 ^ k) - 1) = (wd (mask n) i : Int) := by
  rw [wd_mask n i hi, hk, pow_wrap2 k (by omega)]
theorem mask_word1 (n : Nat) (i : Nat) (hi : i < 4) (hk : 64 ≤ n - 64 * i) : IntKind.u64.wrap (IntKind.u64.wrap 18446744073709551616 - 1) = (wd (mask n) i : Int) := by
  rw [wd_mask n i hi, Nat.min_eq_right hk, pow_wrap1]
theorem mask_word0 (n : Nat) (i : Nat) (hi : i < 4) (hk : n - 64 * i = 0) : (0 : Int) = (wd (mask n) i : Int) := by
  rw [wd_mask n i hi, hk]; rfl

set_option maxHeartbeats 1000000 in
/-- below: what lies below n. -/
theorem below_calls (n : Int) (w : World) (h0 : 0 ≤ n) (hn : n ≤ 9223372036854775807) :
    Calls Tryd.prog 34 #[.int .i64 n] w fun e w' => e = .returned (setV (mask n.toNat)) ∧ Below w.heap.size w w' := by
  obtain ⟨n, rfl⟩ := Int.eq_ofNat_of_zero_le h0
  rw [Int.toNat_natCast]
  go_enter Tryd.func34, Tryd.ntmps34
  go_wp2
  go_rounds 5
  all_goals go_returns
  all_goals refine ⟨ret_set ?_ ?_ ?_ ?_, by go_grown⟩
  all_goals first
    | (with_reducible refine mask_word0 _ _ (by decide) ?_; omega)
    | (with_reducible refine mask_word1 _ _ (by decide) ?_; omega)
    | (with_reducible refine mask_word _ _ (by decide) _ ?_; omega)

end Go.Proofs.YtkkhibamkdgffaaDoor

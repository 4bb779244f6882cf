/- strconv.Itoa of a number from 0 to 99. -/
import Derived.Test.YtjgokhhpfgnceaaDoorNp
import Derived.Lib.Hide
import Derived.LoopTactic
import Derived.Handy
import Derived.WalkLawsBesides
import Derived.IntWalk
namespace Go.Proofs.YtjgokhhpfgnceaaDoor
open Go.RowKit

theorem sl_run (s : ByteArray) (a b : Int) (i j : Nat) (ha : a = i) (hb : b = j) (hij : i ≤ j) (hj : j ≤ s.size) (w : World) :
    (Instr.slice 9 (.string s) (some (.int .i64 a)) (some (.int .i64 b)) none).run Tryd.prog w = .ok (.string (s.extract i j)) w := by
  subst ha
  subst hb
  go_simp
set_option maxRecDepth 100000 in
set_option maxHeartbeats 4000000 in
theorem small_calls (n : Nat) (hn : n < 100) (w : World) : Calls Tryd.prog 42 #[.int .i64 n] w fun e w' => e = .returned (.string (ofT (digL n))) ∧ w = w' := by
  by_cases h : 10 ≤ n
  · have q : decide (n < 10) = false := by rw [decide_eq_false_iff_not]; omega
    go_enter Tryd.func42, Tryd.ntmps42
    go_wp2_with fail
    first
    | (rw [sl_run _ _ _ (n * 2) (n * 2 + 2) (by omega) (by omega) (by omega)]
       rotate_left
       · exact Nat.le_trans (show n * 2 + 2 ≤ 200 by omega) (by decide +kernel)
       simp only [Result.andThen]
       rw [Oper.upon_value]
       go_wp2_with fail)
    | skip
    go_ret
    refine ⟨congrArg (fun x => Ending.returned (.string x)) ?_, rfl⟩
    refine (?_ : ∀ m : Nat, m < 100 → 10 ≤ m → ByteArray.extract _ (m * 2) (m * 2 + 2) = ofT (digL m)) n hn h
    decide +kernel
  · have q : decide (n < 10) = true := by rw [decide_eq_true_iff]; omega
    go_enter Tryd.func42, Tryd.ntmps42
    go_wp2_with fail
    first
    | (rw [sl_run _ _ _ n (n + 1) (by omega) (by omega) (by omega)]
       rotate_left
       · exact Nat.le_trans (show n + 1 ≤ 10 by omega) (by decide +kernel)
       simp only [Result.andThen]
       rw [Oper.upon_value]
       go_wp2_with fail)
    | skip
    go_ret
    refine ⟨congrArg (fun x => Ending.returned (.string x)) ?_, rfl⟩
    refine (?_ : ∀ m : Nat, m < 10 → ByteArray.extract _ m (m + 1) = ofT (digL m)) n (by omega)
    decide +kernel
set_option maxHeartbeats 1000000 in
theorem formatInt_calls (n : Nat) (hn : n < 100) (w : World) : Calls Tryd.prog 41 #[.int .i64 n, .int .i64 10] w fun e w' => e = .returned (.string (ofT (digL n))) ∧ w = w' := by
  have HS := Lib.hid (small_calls n hn)
  have q1 : decide ((0 : Int) ≤ (n : Int)) = true := by rw [decide_eq_true_iff]; omega
  have q2 : decide (n < 100) = true := by rw [decide_eq_true_iff]; omega
  generalize ofT (digL n) = t at *
  go_enter Tryd.func41, Tryd.ntmps41
  go_wp2_with fail
  refine (HS.out _).mono ?_
  rintro e w' ⟨rfl, rfl⟩
  go_wp2_with fail
  go_ret
  exact ⟨rfl, rfl⟩
set_option maxHeartbeats 1000000 in
theorem itoaI_calls (n : Nat) (hn : n < 100) (w : World) : Calls Tryd.prog 40 #[.int .i64 n] w fun e w' => e = .returned (.string (ofT (digL n))) ∧ w = w' := by
  have HS := Lib.hid (formatInt_calls n hn)
  generalize ofT (digL n) = t at *
  go_enter Tryd.func40, Tryd.ntmps40
  go_wp2_with fail
  refine (HS.out _).mono ?_
  rintro e w' ⟨rfl, rfl⟩
  go_wp2_with fail
  go_ret
  exact ⟨rfl, rfl⟩
set_option maxHeartbeats 1000000 in
theorem itoa_calls (n : Nat) (hn : n < 100) (w : World) : Calls Tryd.prog 39 #[.int .i64 n] w fun e w' => e = .returned (.string (ofT (digL n))) ∧ w = w' := by
  have HS := Lib.hid (itoaI_calls n hn)
  generalize ofT (digL n) = t at *
  go_enter Tryd.func39, Tryd.ntmps39
  go_wp2_with fail
  refine (HS.out _).mono ?_
  rintro e w' ⟨rfl, rfl⟩
  go_wp2_with fail
  go_ret
  exact ⟨rfl, rfl⟩
end Go.Proofs.YtjgokhhpfgnceaaDoor

/- Texts put together: Ns. -/
import Derived.Test.YtpncomjpmilbkaaDoorPA
import Derived.Laws.Concat
import Derived.WalkLawsBesides
import Derived.Handy
/- The document's counts: Read, Right, Digits, Text. -/
namespace Go.Proofs.YtpncomjpmilbkaaDoor
open Go.RowKit

set_option maxHeartbeats 2000000 in
theorem rightN_calls (n m : Int) (w : World) : Calls Tryd.prog 56 #[.int .i64 n, .int .i64 m] w fun e w' => e = .returned (.bool (rightN n m)) ∧ w = w' := by
  have HS := Lib.hid (show rightN n m = (decide (0 ≤ n) && decide (n ≤ 99) && (m == -1 || (decide (n ≤ m) && decide (m ≤ 99)))) from rfl)
  have go : ∀ x1 x2 x3 x4 x5 : Bool, decide (0 ≤ n) = x1 → decide (n ≤ 99) = x2 → (m == -1) = x3 → decide (n ≤ m) = x4 → decide (m ≤ 99) = x5 → Calls Tryd.prog 56 #[.int .i64 n, .int .i64 m] w fun e w' => e = .returned (.bool (x1 && x2 && (x3 || (x4 && x5)))) ∧ w = w' := by
    intro x1 x2 x3 x4 x5 e1 e2 e3 e4 e5
    clear HS
    cases x1
    · clear e2 e3 e4 e5
      go_enter Tryd.func56, Tryd.ntmps56
      go_wp2
      go_ret
      exact ⟨by simp, rfl⟩
    cases x2
    · clear e3 e4 e5
      go_enter Tryd.func56, Tryd.ntmps56
      go_wp2
      go_ret
      exact ⟨by simp, rfl⟩
    cases x3
    · cases x4
      · clear e5
        go_enter Tryd.func56, Tryd.ntmps56
        go_wp2
        go_ret
        exact ⟨by simp, rfl⟩
      · cases x5 <;>
        · go_enter Tryd.func56, Tryd.ntmps56
          go_wp2
          go_ret
          exact ⟨by simp, rfl⟩
    · clear e4 e5
      go_enter Tryd.func56, Tryd.ntmps56
      go_wp2
      go_ret
      exact ⟨by simp, rfl⟩
  rw [HS.out]
  exact go _ _ _ _ _ rfl rfl rfl rfl rfl

theorem digL_len (n : Nat) : (digL n).length ≤ 2 := by unfold digL; split <;> simp

end Go.Proofs.YtpncomjpmilbkaaDoor

/- The document's terms: part. Stage 10. -/
import Derived.Test.YtlhlgohgmbkaoaaIv
import Derived.Test.YtlhlgohgmbkaoaaAs
import Derived.Test.YtlhlgohgmbkaoaaEs
import Derived.Test.YtlhlgohgmbkaoaaRs
import Derived.Outline
import Derived.Deep.DeepCutAuto
namespace Go.Proofs.Ytlhlgohgmbkaoaa
open Go.RowKit BS

set_option maxRecDepth 100000 in
set_option maxHeartbeats 4000000 in
theorem part_calls (k : Int) (w : World) : Calls Try.prog 28 #[.int .i64 k] w fun e w' => e = .returned (.tuple #[.bool (decide (pcT k ≠ 0)), .bool (decide (pcT k = 2))]) ∧ w = w' := by
  have go : ∀ (b1 b2 : Bool), decide (pcT k ≠ 0) = b1 → decide (pcT k = 2) = b2 → ∀ q3 q8 e3 e4 : Bool, decide (3 ≤ k) = q3 → decide (k ≤ 8) = q8 → (k == 3) = e3 → (k == 4) = e4 → (q3 && q8) = b1 → (e3 || e4) = b2 →
      Calls Try.prog 28 #[.int .i64 k] w fun e w' => e = .returned (.tuple #[.bool b1, .bool b2]) ∧ w = w' := by
    intro b1 b2 _ _ q3 q8 e3 e4 h3 h8 g3 g4 hb1 hb2
    subst hb1 hb2
    cases q3
    · cases e3
      · go_enter Try.func28, Try.ntmps28
        go_wp2_with fail
        exact bodyPost_ret (v := .tuple #[.bool false, .bool e4]) (by simp [results, Try.results28, go_sem]) rfl ⟨by simp, rfl⟩
      · go_enter Try.func28, Try.ntmps28
        go_wp2_with fail
        exact bodyPost_ret (v := .tuple #[.bool false, .bool true]) (by simp [results, Try.results28, go_sem]) rfl ⟨by simp, rfl⟩
    · cases e3
      · go_enter Try.func28, Try.ntmps28
        go_wp2_with fail
        exact bodyPost_ret (v := .tuple #[.bool q8, .bool e4]) (by simp [results, Try.results28, go_sem]) rfl ⟨by simp, rfl⟩
      · go_enter Try.func28, Try.ntmps28
        go_wp2_with fail
        exact bodyPost_ret (v := .tuple #[.bool q8, .bool true]) (by simp [results, Try.results28, go_sem]) rfl ⟨by simp, rfl⟩
  refine (go _ _ rfl rfl _ _ _ _ rfl rfl rfl rfl ?_ ?_).mono fun _ _ h => h
  · unfold pcT
    by_cases h34 : k = 3 ∨ k = 4
    · rw [if_pos h34, decide_eq_true (by omega), decide_eq_true (by omega)]; rfl
    · rw [if_neg h34]
      by_cases h38 : 3 ≤ k ∧ k ≤ 8
      · rw [if_pos h38, decide_eq_true h38.1, decide_eq_true h38.2]; rfl
      · rw [if_neg h38]
        rw [show (decide ((0 : Nat) ≠ 0)) = false from rfl, ← Bool.decide_and]
        exact decide_eq_false h38
  · unfold pcT
    by_cases h3 : k = 3
    · subst h3; rfl
    · by_cases h4 : k = 4
      · subst h4; rfl
      · rw [if_neg (by omega), show (k == 3) = false from beq_eq_false_iff_ne.2 h3, show (k == 4) = false from beq_eq_false_iff_ne.2 h4]
        split <;> rfl
end Go.Proofs.Ytlhlgohgmbkaoaa

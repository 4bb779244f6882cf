/- '==' of sets, and of pairs of bytes. -/
import Derived.Test.YtkkhibamkdgffaaEq
import Derived.Test.YtkkhibamkdgffaaSm
namespace Go.Proofs.Ytkkhibamkdgffaa
open Go.RowKit Go BS

theorem size64 (w : World) : (sizeOf 23).run Try.prog w = .ok 1 w := by kernel_rfl
theorem agg64 (w : World) : (isAgg 23).run Try.prog w = .ok false w := by kernel_rfl

theorem eq_set (a b : BitVec 256) (w : World) : (Op.equalIn 10000 25 (setV a) (setV b)).run Try.prog w = .ok (decide (a = b)) w := by
  have h := eqArr (k := .u64) Try.underlying25 Try.underlying23 size64 agg64 9998 [(wd a 0 : Int), wd a 1, wd a 2, wd a 3] [(wd b 0 : Int), wd b 1, wd b 2, wd b 3] rfl rfl w
  refine Eq.trans h ?_
  congr 1
  rw [decide_eq_decide]
  constructor
  · intro h
    simp only [List.cons.injEq, Int.ofNat_inj, and_true] at h
    exact ext_wd h.1 h.2.1 h.2.2.1 h.2.2.2
  · intro h; rw [h]
/-- The same set. -/
theorem eq_set_same (a : BitVec 256) (w : World) : (Op.equalIn 10000 25 (setV a) (setV a)).run Try.prog w = .ok true w := by
  rw [eq_set]; simp

theorem size8 (w : World) : (sizeOf 5).run Try.prog w = .ok 1 w := by kernel_rfl
theorem agg8 (w : World) : (isAgg 5).run Try.prog w = .ok false w := by kernel_rfl
end Go.Proofs.Ytkkhibamkdgffaa

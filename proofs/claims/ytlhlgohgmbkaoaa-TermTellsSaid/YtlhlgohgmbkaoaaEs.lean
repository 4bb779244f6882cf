/- '==' of sets, and of pairs of bytes. -/
import Derived.Test.YtlhlgohgmbkaoaaEq
import Derived.Test.YtlhlgohgmbkaoaaSm
namespace Go.Proofs.Ytlhlgohgmbkaoaa
open Go.RowKit Go BS

theorem size64 (w : World) : (sizeOf 31).run Try.prog w = .ok 1 w := by kernel_rfl
theorem agg64 (w : World) : (isAgg 31).run Try.prog w = .ok false w := by kernel_rfl

set_option maxRecDepth 100000 in
theorem eq_set (a b : BitVec 256) (w : World) : (Op.equalIn 10000 33 (setV a) (setV b)).run Try.prog w = .ok (decide (a = b)) w := by
  have h := eqArr (k := .u64) Try.underlying33 Try.underlying31 size64 agg64 9998 [(wd a 0 : Int), wd a 1, wd a 2, wd a 3] [(wd b 0 : Int), wd b 1, wd b 2, wd b 3] rfl rfl w
  refine Eq.trans h ?_
  refine congrArg (fun x => Result.ok x w) ?_
  rw [decide_eq_decide]
  constructor
  · intro h
    simp only [List.cons.injEq, Int.ofNat_inj, and_true] at h
    exact ext_wd h.1 h.2.1 h.2.2.1 h.2.2.2
  · intro h; rw [h]
/-- The same set. -/
theorem eq_set_same (a : BitVec 256) (w : World) : (Op.equalIn 10000 33 (setV a) (setV a)).run Try.prog w = .ok true w := by
  rw [eq_set]; simp

theorem size8 (w : World) : (sizeOf 5).run Try.prog w = .ok 1 w := by kernel_rfl
theorem agg8 (w : World) : (isAgg 5).run Try.prog w = .ok false w := by kernel_rfl
end Go.Proofs.Ytlhlgohgmbkaoaa

/- '==' of sets, and of pairs of bytes. -/
import Derived.Test.YtkkhibamkdgffaaDoorEq
import Derived.Test.YtkkhibamkdgffaaDoorSm
namespace Go.Proofs.YtkkhibamkdgffaaDoor
open Go.RowKit Go BS

theorem size64 (w : World) : (sizeOf 22).run Tryd.prog w = .ok 1 w := by kernel_rfl
theorem agg64 (w : World) : (isAgg 22).run Tryd.prog w = .ok false w := by kernel_rfl

theorem eq_set (a b : BitVec 256) (w : World) : (Op.equalIn 10000 24 (setV a) (setV b)).run Tryd.prog w = .ok (decide (a = b)) w := by
  have h := eqArr (k := .u64) Tryd.underlying24 Tryd.underlying22 size64 agg64 9998 [(wd a 0 : Int), wd a 1, wd a 2, wd a 3] [(wd b 0 : Int), wd b 1, wd b 2, wd b 3] rfl rfl w
  refine Eq.trans h ?_
  congr 1
  rw [decide_eq_decide]
  constructor
  · intro h
    simp only [List.cons.injEq, Int.ofNat_inj, and_true] at h
    exact ext_wd h.1 h.2.1 h.2.2.1 h.2.2.2
  · intro h; rw [h]
/-- The same set. -/
theorem eq_set_same (a : BitVec 256) (w : World) : (Op.equalIn 10000 24 (setV a) (setV a)).run Tryd.prog w = .ok true w := by
  rw [eq_set]; simp

theorem size8 (w : World) : (sizeOf 5).run Tryd.prog w = .ok 1 w := by kernel_rfl
theorem agg8 (w : World) : (isAgg 5).run Tryd.prog w = .ok false w := by kernel_rfl
theorem eq_pair_same (a b : Int) (w : World) : (Op.equalIn 10000 37 (.agg #[.int .u8 a, .int .u8 b]) (.agg #[.int .u8 a, .int .u8 b])).run Tryd.prog w = .ok true w := by
  have h := eqArr (k := .u8) Tryd.underlying37 Tryd.underlying5 size8 agg8 9998 [a, b] [a, b] rfl rfl w
  refine Eq.trans h ?_
  simp
end Go.Proofs.YtkkhibamkdgffaaDoor

/- '==' of a word with itself. -/
import Derived.Test.YtpaecjjelpjopaaGreatDoorP1
import Derived.WalkLawsBesides
import Derived.Laws.StructEq
namespace Go.Proofs.YtpaecjjelpjopaaGreatDoor
open Go.RowKit BS

set_option maxRecDepth 100000 in
set_option maxHeartbeats 2000000 in
theorem eqWord_same (k a e : Int) (t : BitVec 256) (n m : Int) (w : World) :
    (Op.equalIn 10000 27 (.agg #[.int .i64 k, .int .i64 a, .int .i64 e, .int .u64 (wd t 0), .int .u64 (wd t 1), .int .u64 (wd t 2), .int .u64 (wd t 3), .int .i64 n, .int .i64 m]) (.agg #[.int .i64 k, .int .i64 a, .int .i64 e, .int .u64 (wd t 0), .int .u64 (wd t 1), .int .u64 (wd t 2), .int .u64 (wd t 3), .int .i64 n, .int .i64 m])).run Tryz.prog w = .ok true w := by
  have hs : ∀ w, (Op.equalIn 9999 25 (.agg #[.int .u64 (wd t 0), .int .u64 (wd t 1), .int .u64 (wd t 2), .int .u64 (wd t 3)]) (.agg #[.int .u64 (wd t 0), .int .u64 (wd t 1), .int .u64 (wd t 2), .int .u64 (wd t 3)])).run Tryz.prog w = .ok true w := fun w => by
    have h := eqArr (k := .u64) Tryz.underlying25 Tryz.underlying23 size64 agg64 9997 [(wd t 0 : Int), wd t 1, wd t 2, wd t 3] [(wd t 0 : Int), wd t 1, wd t 2, wd t 3] rfl rfl w
    refine Eq.trans h ?_
    simp
  go_simp
end Go.Proofs.YtpaecjjelpjopaaGreatDoor

/- The developers' counts: digits. -/
import Derived.Test.YtjgokhhpfgnceaaDoorMa
import Derived.Test.YtjgokhhpfgnceaaDoorRx
namespace Go.Proofs.YtjgokhhpfgnceaaDoor
open Go.RowKit

@[reducible] def nuI (v d : Int) : Array Value := #[.int .i64 v, .int .i64 d]
theorem nu_one (v d : Int) : ((nuI v d).all fun x => x.oneCell') = true := by simp [Value.oneCell']
def dgV (r : Nat × Nat × Nat × Nat) : Value := .tuple #[.agg (nuI r.1 r.2.1), .int .i64 r.2.2.1, .int .i64 r.2.2.2]
def InvD (v d : Nat) : Prop := d ≤ 2 ∧ (d = 0 → v = 0) ∧ (d ≤ 1 → v ≤ 9) ∧ v ≤ 99

end Go.Proofs.YtjgokhhpfgnceaaDoor

/- The document's counts: digit, braces, Read. -/
import Derived.Test.YtlhlgohgmbkaoaaNp
import Derived.Lib.Hide
import Derived.LoopTactic
import Derived.Laws.ResultCell
namespace Go.Proofs.Ytlhlgohgmbkaoaa
open Go.RowKit

theorem int_eq {k : IntKind} {a b : Int} (h : a = b) : Value.int k a = .int k b := by rw [h]
def tupN (r : Nat × Int × Nat × Nat × Nat) : Value := .tuple #[.int .i64 r.1, .int .i64 r.2.1, .int .i64 r.2.2.1, .int .i64 r.2.2.2.1, .int .i64 r.2.2.2.2]
end Go.Proofs.Ytlhlgohgmbkaoaa

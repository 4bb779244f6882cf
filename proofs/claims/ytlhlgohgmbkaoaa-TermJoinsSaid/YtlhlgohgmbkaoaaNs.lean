/- The document's counts: Read, Right, Digits, Text. -/
import Derived.Test.YtlhlgohgmbkaoaaNr
import Derived.Laws.Concat
import Derived.WalkLawsBesides
import Derived.Handy
namespace Go.Proofs.Ytlhlgohgmbkaoaa
open Go.RowKit

theorem digL_len (n : Nat) : (digL n).length ≤ 2 := by unfold digL; split <;> simp

end Go.Proofs.Ytlhlgohgmbkaoaa

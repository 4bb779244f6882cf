/- The document's counts: Read, Right, Digits, Text. -/
import Derived.Test.YtpaecjjelpjopaaDoorNr
import Derived.Laws.Concat
import Derived.WalkLawsBesides
import Derived.Handy
namespace Go.Proofs.YtpaecjjelpjopaaDoor
open Go.RowKit

theorem digL_len (n : Nat) : (digL n).length ≤ 2 := by unfold digL; split <;> simp

end Go.Proofs.YtpaecjjelpjopaaDoor

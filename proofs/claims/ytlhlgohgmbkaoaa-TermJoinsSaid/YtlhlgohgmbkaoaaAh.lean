/- The document's trees: Numbers. -/
import Derived.Test.YtlhlgohgmbkaoaaAj
import Derived.Outline
import Derived.Deep.DeepCutAuto
namespace Go.Proofs.Ytlhlgohgmbkaoaa
open Go.RowKit BS

def SNm (w0 : World) (g i k : Nat) (x y : Int) (W : World) : Prop := W.cell? ⟨g, i, none⟩ = some (.int .i64 x) ∧ W.cell? ⟨g, k, none⟩ = some (.int .i64 y) ∧ W = w0
end Go.Proofs.Ytlhlgohgmbkaoaa

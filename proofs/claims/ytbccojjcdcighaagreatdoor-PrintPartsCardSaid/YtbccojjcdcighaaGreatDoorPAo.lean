/- Texts put together: Hh Hi. -/
import Derived.Test.YtbccojjcdcighaaGreatDoorPAm
import Derived.RegionTactic
import Derived.BigRegion
import Derived.BigQuiet
import Derived.Outline
import Derived.Deep.QuietTactic
import Derived.Deep.DeepCutAuto
import Derived.Deep.RegionLaw
namespace Go.Proofs.YtbccojjcdcighaaGreatDoor
open Go.RowKit BS
section
variable {base N B B2 : Nat} {A : Nat → Prop} {l : List NdN} {ps rs : List Nat} {g : Int} {vN vP vR : Value} {w0 w : World}
end
section
variable {base N B B2 K : Nat} {A : Nat → Prop} {l : List NdN} {ps rs : List Nat} {g : Int} {vN vP vR : Value} {w0 w : World}
end
end Go.Proofs.YtbccojjcdcighaaGreatDoor

namespace Go.Proofs.YtbccojjcdcighaaGreatDoor
open Go.RowKit BS
end Go.Proofs.YtbccojjcdcighaaGreatDoor

/- Texts put together: Gs. -/
import Derived.Test.YtbccojjcdcighaaGreatDoorPAa
import Derived.Test.YtbccojjcdcighaaGreatDoorPY
import Derived.Deep.DeepCutAuto
import Derived.Laws.ResultCell
namespace Go.Proofs.YtbccojjcdcighaaGreatDoor
open Go.RowKit Go.Shelf BS
end Go.Proofs.YtbccojjcdcighaaGreatDoor

/- math/bits.TrailingZeros64 over the library's table, as its initialiser lays it. -/
import Derived.Test.YtcccfhpabikbjaaSp
import Derived.Lib.TrailingZeros
namespace Go.Proofs.Ytcccfhpabikbjaa
open Go.RowKit BS

end Go.Proofs.Ytcccfhpabikbjaa

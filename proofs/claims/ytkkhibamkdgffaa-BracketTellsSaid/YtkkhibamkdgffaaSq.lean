/- math/bits.TrailingZeros64 over the library's table, as its initialiser lays it. -/
import Derived.Test.YtkkhibamkdgffaaSp
import Derived.Lib.TrailingZeros
namespace Go.Proofs.Ytkkhibamkdgffaa
open Go.RowKit BS

end Go.Proofs.Ytkkhibamkdgffaa

/- The developers' counts: read. -/
import Derived.Test.YtjgokhhpfgnceaaDoorMc
namespace Go.Proofs.YtjgokhhpfgnceaaDoor
open Go.RowKit

end Go.Proofs.YtjgokhhpfgnceaaDoor

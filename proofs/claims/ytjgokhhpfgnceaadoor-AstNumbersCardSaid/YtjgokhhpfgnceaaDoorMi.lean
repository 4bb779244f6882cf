/- The developers' counts: Read, Lack. -/
import Derived.Test.YtjgokhhpfgnceaaDoorMe
import Derived.Test.YtjgokhhpfgnceaaDoorMg
import Derived.Test.YtjgokhhpfgnceaaDoorRx
namespace Go.Proofs.YtjgokhhpfgnceaaDoor
open Go.RowKit

@[reducible] def spI (n m : Int) : Array Value := #[.int .i64 n, .int .i64 m]
theorem infoSp : (Tryd.prog.info? 49).map (·.size) = some 2 := by kernel_rfl
end Go.Proofs.YtjgokhhpfgnceaaDoor

/- BraceLack: by the developers' Lack. -/
import Derived.Test.YtfpipiegncoamaaDoorNo
import Derived.Test.YtfpipiegncoamaaDoorMi
namespace Go.Proofs.YtfpipiegncoamaaDoor
open Go.RowKit

theorem lackLaw4_calls (s : ByteArray) (hs : s.size ≤ 9223372036854775807) (at' : Int) (w : World) :
    Calls Tryd.prog 6 #[.string s, .int .i64 at'] w fun e w' => e = .returned (.bool true) ∧ Below w.heap.size w w' :=
  lackLaw4_of s hs at' (ofT (readD4 s at').lack) (lackN_read s at') (fun h w => lackD4_calls s h at' w) w
end Go.Proofs.YtfpipiegncoamaaDoor

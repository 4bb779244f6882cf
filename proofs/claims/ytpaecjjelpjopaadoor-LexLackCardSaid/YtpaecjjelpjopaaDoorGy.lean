/- The document's brackets: Text. -/
import Derived.Test.YtpaecjjelpjopaaDoorP3
import Derived.Test.YtpaecjjelpjopaaDoorLt
import Derived.Test.YtpaecjjelpjopaaDoorRd
import Derived.Test.YtpaecjjelpjopaaDoorCt
import Derived.Test.YtpaecjjelpjopaaDoorP1
import Derived.Deep.DeepCutAuto
import Derived.Laws.ResultCell
import Derived.Lib.SlBytesConst
namespace Go.Proofs.YtpaecjjelpjopaaDoor
open Go.RowKit Go.Shelf BS

theorem four_eq : withL 0 [93, 91, 94, 45] = fourS := by decide +kernel
theorem up_eq : withL 0 [94] = range 94 94 := by decide +kernel
theorem bytes_mark (W : World) (t : TypeId) (l : List (Fin 256)) (m : Nat × Nat) : BytesAt (W.alloc (.cells (byW l) t m)).heap.size (W.alloc (.cells (byW l) t m)) (.slice (some ⟨W.heap.size, 0, none⟩) l.length l.length) l := by
  refine ⟨_, l.length, rfl, fun _ => ⟨W.heap.size, 0, rfl, by simp, fun j hj => ?_⟩⟩
  rw [Nat.zero_add, World.cell?_alloc_mark]
  simp [byW, hj]
theorem eq_zero (s : BitVec 256) (w : World) : (Op.equalIn 10000 26 (setV s) (.agg #[.int .u64 0, .int .u64 0, .int .u64 0, .int .u64 0])).run Tryd.prog w = .ok (decide (s = 0)) w := by rw [empty_set]; exact eq_set s 0 w

end Go.Proofs.YtpaecjjelpjopaaDoor

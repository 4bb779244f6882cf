/- The document's words: Text, Print. -/
import Derived.Test.YtpaecjjelpjopaaDoorVr
import Derived.Test.YtpaecjjelpjopaaDoorGz
import Derived.Test.YtpaecjjelpjopaaDoorNs
import Derived.Test.YtpaecjjelpjopaaDoorRc
namespace Go.Proofs.YtpaecjjelpjopaaDoor
open Go.RowKit BS

/-- A slice of bytes as a text. -/
theorem cvAt (W : World) (g cap : Nat) (L : List Nat) (hC : ∀ i (h : i < L.length), W.cell? ⟨g, i, none⟩ = some (.int .u8 (L[i] : Int))) : (convert 34 9 (.slice (some ⟨g, 0, none⟩) L.length cap)).run Tryd.prog W = .ok (.string (ofT L)) W := by
  rw [← numsT L]
  refine run_convert_bytes_arg (P := Tryd.prog) W 34 5 Tryd.underlying34 Tryd.underlying5 g 0 L.length cap _ (by simp) (fun i hi => ?_) 9 Tryd.underlying9
  rw [Nat.zero_add, hC i hi]
  simp [List.getD_eq_getElem?_getD, List.getElem?_map, List.getElem?_eq_getElem hi]
theorem el_lt (f : Nat → Bool) (k b : Nat) (l : List Nat) (h : el f k = b :: l) : b < k := by
  have : b ∈ el f k := by rw [h]; exact List.mem_cons_self ..
  unfold el at this
  simp at this
  exact this.1

/-- The text of a word of any kind. -/
def printV (k : Int) (t : BitVec 256) (n m : Int) : List Nat :=
  if k = 1 then textW t else if k = 2 then [40] else if k = 3 then [41] else if k = 4 then [124] else if k = 5 then textN n m else []
theorem printV_W (w : WN) : printV w.kind w.set w.n w.m = printW w := by
  unfold printV printW
  have e : ∀ c : Nat, ((w.kind : Int) = (c : Int)) = (w.kind = c) := fun c => by rw [eq_iff_iff]; omega
  have e1 := e 1; have e2 := e 2; have e3 := e 3; have e4 := e 4; have e5 := e 5
  simp only [Int.cast_ofNat_Int] at e1 e2 e3 e4 e5
  simp only [e1, e2, e3, e4, e5]
end Go.Proofs.YtpaecjjelpjopaaDoor

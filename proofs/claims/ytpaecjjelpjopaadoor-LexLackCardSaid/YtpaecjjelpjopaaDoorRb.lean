/- The document's sets, by the reference's own calls: Range, Both, Not. -/
import Derived.Test.YtpaecjjelpjopaaDoorRa
import Derived.Test.YtpaecjjelpjopaaDoorP1
namespace Go.Proofs.YtpaecjjelpjopaaDoor
open Go.RowKit BS

theorem Bools.congr {arr : Array Value} {f g : Nat → Bool} (h : Bools arr f) (e : ∀ j, j < 256 → f j = g j) : Bools arr g := ⟨h.1, fun i hi => by rw [h.2 i hi, e i hi]⟩

def bothF (how : Nat) (x y : Bool) : Bool := (how == 1 && (x || y)) || (how == 2 && x && y) || (how == 3 && x && !y)

theorem both_or (a b : BitVec 256) : (ofFn fun j => bothF 1 (a.getLsbD j) (b.getLsbD j)) = a ||| b := by
  apply BitVec.eq_of_getLsbD_eq; intro j hj
  rw [get_ofFn, BitVec.getLsbD_or]; simp only [hj]
  cases a.getLsbD j <;> cases b.getLsbD j <;> rfl
theorem both_and (a b : BitVec 256) : (ofFn fun j => bothF 2 (a.getLsbD j) (b.getLsbD j)) = a &&& b := by
  apply BitVec.eq_of_getLsbD_eq; intro j hj
  rw [get_ofFn, BitVec.getLsbD_and]; simp only [hj]
  cases a.getLsbD j <;> cases b.getLsbD j <;> rfl
theorem both_less (a b : BitVec 256) : (ofFn fun j => bothF 3 (a.getLsbD j) (b.getLsbD j)) = a &&& ~~~b := by
  apply BitVec.eq_of_getLsbD_eq; intro j hj
  rw [get_ofFn, BitVec.getLsbD_and, BitVec.getLsbD_not]; simp only [hj]
  cases a.getLsbD j <;> cases b.getLsbD j <;> rfl
theorem full_not (s : BitVec 256) : (range 0 255 &&& ~~~s) = ~~~s := by
  apply BitVec.eq_of_getLsbD_eq; intro j hj
  rw [BitVec.getLsbD_and, BitVec.getLsbD_not, range, get_ofFn]
  simp [hj, show j ≤ 255 by omega]

end Go.Proofs.YtpaecjjelpjopaaDoor

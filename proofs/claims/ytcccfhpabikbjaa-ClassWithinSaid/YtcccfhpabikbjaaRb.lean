/- The document's sets, by the reference's own calls: Range, Both, Not. -/
import Derived.Test.YtcccfhpabikbjaaRa
import Derived.Test.YtcccfhpabikbjaaRs
namespace Go.Proofs.Ytcccfhpabikbjaa
open Go.RowKit BS

theorem infoBools : (Try.prog.info? 44).map (·.size) = some 256 := by kernel_rfl
theorem zeroBools : ∃ zs : Array Value, Bools zs (fun _ => false) ∧ ∀ w, (zeroValue 44).run Try.prog w = .ok (.agg zs) w := by
  refine ⟨Array.replicate 256 (.bool false), ⟨by simp, fun i hi => by simp [hi]⟩, fun w => ?_⟩
  have h : (zeroValue 44).run Try.prog w = .ok (.agg (Array.replicate 256 (.bool false))) w := by kernel_rfl
  exact h

theorem Bools.congr {arr : Array Value} {f g : Nat → Bool} (h : Bools arr f) (e : ∀ j, j < 256 → f j = g j) : Bools arr g := ⟨h.1, fun i hi => by rw [h.2 i hi, e i hi]⟩

def SG (w : World) (f : Nat → Bool) (W : World) : Prop :=
  ∃ arr, Bools arr f ∧ (Blk W w.heap.size (setA 0) 25 ∧ Blk W (w.heap.size + 1) arr 44) ∧ Below w.heap.size w W

def bothF (how : Nat) (x y : Bool) : Bool := (how == 1 && (x || y)) || (how == 2 && x && y) || (how == 3 && x && !y)

def S2 (w : World) (a b : BitVec 256) (arr : Array Value) (W : World) : Prop :=
  (Blk W w.heap.size (setA a) 25 ∧ Blk W (w.heap.size + 1) (setA b) 25 ∧ Blk W (w.heap.size + 1 + 1) (setA 0) 25 ∧ Blk W (w.heap.size + 1 + 1 + 1) arr 44) ∧ Below w.heap.size w W
theorem keep2 {w W W' : World} {a b : BitVec 256} {arr : Array Value} (h : S2 w a b arr W) (hb : Below W.heap.size W W') : S2 w a b arr W' :=
  ⟨⟨h.1.1.below hb h.1.1.lt, h.1.2.1.below hb h.1.2.1.lt, h.1.2.2.1.below hb h.1.2.2.1.lt, h.1.2.2.2.below hb h.1.2.2.2.lt⟩, h.2.trans (hb.mono h.2.size)⟩
theorem drew2 {w W : World} {a b : BitVec 256} {arr : Array Value} (h : S2 w a b arr W) : S2 w a b arr W.drew := ⟨⟨h.1.1, h.1.2.1, h.1.2.2.1, h.1.2.2.2⟩, h.2.drew⟩

theorem both_or (a b : BitVec 256) : (ofFn fun j => bothF 1 (a.getLsbD j) (b.getLsbD j)) = a ||| b := by
  apply BitVec.eq_of_getLsbD_eq; intro j hj
  rw [get_ofFn, BitVec.getLsbD_or]; simp only [hj]
  cases a.getLsbD j <;> cases b.getLsbD j <;> rfl
theorem both_and (a b : BitVec 256) : (ofFn fun j => bothF 2 (a.getLsbD j) (b.getLsbD j)) = a &&& b := by
  apply BitVec.eq_of_getLsbD_eq; intro j hj
  rw [get_ofFn, BitVec.getLsbD_and]; simp only [hj]
  cases a.getLsbD j <;> cases b.getLsbD j <;> rfl
theorem both_less (a b : BitVec 256) : (ofFn fun j => bothF 3 (a.getLsbD j) (b.getLsbD j)) = a &&& ~~~b := by
  apply BitVec.eq_of_getLsbD_eq; intro j hj
  rw [get_ofFn, BitVec.getLsbD_and, BitVec.getLsbD_not]; simp only [hj]
  cases a.getLsbD j <;> cases b.getLsbD j <;> rfl
theorem full_not (s : BitVec 256) : (range 0 255 &&& ~~~s) = ~~~s := by
  apply BitVec.eq_of_getLsbD_eq; intro j hj
  rw [BitVec.getLsbD_and, BitVec.getLsbD_not, range, get_ofFn]
  simp [hj, show j ≤ 255 by omega]

end Go.Proofs.Ytcccfhpabikbjaa

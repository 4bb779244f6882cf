/- The document's brackets: Read. -/
import Derived.Test.YtpaecjjelpjopaaDoorGr
import Derived.Test.YtpaecjjelpjopaaDoorP3
import Derived.Test.YtpaecjjelpjopaaDoorLt
import Derived.Deep.DeepCutAuto
import Derived.Laws.ResultCell
namespace Go.Proofs.YtpaecjjelpjopaaDoor
open Go.RowKit Go.Shelf BS

theorem startR_pos (s : ByteArray) (a : Nat) (h : a < s.size) : (startR s a).pos ≤ s.size ∧ (startR s a).err = 0 ∧ (startR s a).fin = false ∧ (startR s a).place = 0 := by
  unfold startR
  split <;> exact ⟨by simp only; omega, rfl, rfl, rfl⟩
def leftR (n : Nat) (v : Option Value) : Nat := match v with | some (.int _ p) => n - p.toNat | _ => 0
theorem tup4 (fn : Func) (p a b c : Tmp) (ty : TypeId) (h : fn.results = #[.cell p ty, .tmp a, .tmp b, .tmp c]) (tmps : Array Value) (P : Program) (w : World) :
    (results fn tmps).run P w = ((asAddr (tmps.getD p undef)).run P w).andThen fun x w₁ => ((loadVar ty x).run P w₁).andThen fun v w₂ => .ok (.tuple #[v, tmps.getD a undef, tmps.getD b undef, tmps.getD c undef]) w₂ := by
  simp only [results, h]
  simp [Sem.run_bind, Result.andThen]

end Go.Proofs.YtpaecjjelpjopaaDoor

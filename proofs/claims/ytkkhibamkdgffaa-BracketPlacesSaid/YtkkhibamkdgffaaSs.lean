/- Next. -/
import Derived.Test.YtkkhibamkdgffaaSr
import Derived.Deep.RegionHeld3
import Derived.Deep.RegionWith
import Derived.Deep.DeepCutAuto
import Derived.Lib.Hide
namespace Go.Proofs.Ytkkhibamkdgffaa
open Go.RowKit BS

theorem box4' {w w' : World} {a b c d : Value} {t : TypeId} (h : Below (w.heap.size + 1) (w.alloc (.cells #[a, b, c, d] t)) w') :
    (w'.cell? ⟨w.heap.size, 0, none⟩ = some a ∧ w'.cell? ⟨w.heap.size, 1, none⟩ = some b ∧ w'.cell? ⟨w.heap.size, 2, none⟩ = some c ∧ w'.cell? ⟨w.heap.size, 3, none⟩ = some d) ∧
    (w'.frozen? ⟨w.heap.size, 0, none⟩ = false ∧ w'.frozen? ⟨w.heap.size, 1, none⟩ = false ∧ w'.frozen? ⟨w.heap.size, 2, none⟩ = false ∧ w'.frozen? ⟨w.heap.size, 3, none⟩ = false) :=
  box4 (by rw [World.size_alloc]; exact h)
theorem next' {w : World} {o : Obj} {b c : World} (h : Below (w.heap.size + 1) (w.alloc o) b) (k : Below b.heap.size b c) : Below (w.heap.size + 1) (w.alloc o) c := next h k (by simp)

/-- The set's box, in block w.heap.size, holds s. -/
def Box (w : World) (s : BitVec 256) (w' : World) : Prop :=
  ((w'.cell? ⟨w.heap.size, 0, none⟩ = some (.int .u64 (wd s 0)) ∧ w'.cell? ⟨w.heap.size, 1, none⟩ = some (.int .u64 (wd s 1)) ∧ w'.cell? ⟨w.heap.size, 2, none⟩ = some (.int .u64 (wd s 2)) ∧ w'.cell? ⟨w.heap.size, 3, none⟩ = some (.int .u64 (wd s 3)))) ∧ Below w.heap.size w w' ∧ w.heap.size < w'.heap.size

theorem Box.stored {w w2 : World} {a b c d : Value} {t : TypeId} (h : Below (w.heap.size + 1) (w.alloc (.cells #[a, b, c, d] t)) w2) (s : BitVec 256) :
    Box w s ((((w2.setCell ⟨w.heap.size, 0, none⟩ (.int .u64 (wd s 0))).setCell ⟨w.heap.size, 1, none⟩ (.int .u64 (wd s 1))).setCell ⟨w.heap.size, 2, none⟩ (.int .u64 (wd s 2))).setCell ⟨w.heap.size, 3, none⟩ (.int .u64 (wd s 3))) := by
  obtain ⟨⟨c0, c1, c2, c3⟩, f0, f1, f2, f3⟩ := box4' h
  have hz := h.size
  rw [World.size_alloc] at hz
  have hG : Below w.heap.size w w2 := upfrom (h.mono (by simp))
  refine ⟨⟨?_, ?_, ?_, ?_⟩, by go_grown, by simp only [World.size_setCell]; omega⟩ <;> simp [go_sem, c0, c1, c2, c3]

theorem all1 {P : Nat → Prop} (h0 : P 0) : ∀ j, j < 1 → P j := fun j hj => by
  have : j = 0 := by omega
  subst this; exact h0
theorem all2 {P : Nat → Prop} (h0 : P 0) (h1 : P 1) : ∀ j, j < 2 → P j := fun j hj => by
  by_cases h : j = 1
  · subst h; exact h1
  · exact all1 h0 j (by omega)
theorem all3 {P : Nat → Prop} (h0 : P 0) (h1 : P 1) (h2 : P 2) : ∀ j, j < 3 → P j := fun j hj => by
  by_cases h : j = 2
  · subst h; exact h2
  · exact all2 h0 h1 j (by omega)
theorem all4 {P : Nat → Prop} (h0 : P 0) (h1 : P 1) (h2 : P 2) (h3 : P 3) : ∀ j, j < 4 → P j := fun j hj => by
  by_cases h : j = 3
  · subst h; exact h3
  · exact all3 h0 h1 h2 j (by omega)

end Go.Proofs.Ytkkhibamkdgffaa

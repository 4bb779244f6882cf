/- The document's classes: Of, Begins, Find. -/
import Derived.Test.YtpaecjjelpjopaaDoorCo
import Derived.Test.YtpaecjjelpjopaaDoorCn
namespace Go.Proofs.YtpaecjjelpjopaaDoor
open Go.RowKit Go.Shelf BS

def NamAt (g : Nat) (W : World) : Prop := Blk W g namV 9
theorem NamAt.cell {g : Nat} {W : World} (h : NamAt g W) (k : Nat) (hk : k < 12) : W.cell? ⟨g, k, none⟩ = some (.string (tE k).1) := (Blk.cell h k).trans (namV_get k hk)

theorem ofS_self : ∀ k, k < 12 → ofS (tE k).1.toList = (tE k).2
  | 0, _ => by decide +kernel
  | 1, _ => by decide +kernel
  | 2, _ => by decide +kernel
  | 3, _ => by decide +kernel
  | 4, _ => by decide +kernel
  | 5, _ => by decide +kernel
  | 6, _ => by decide +kernel
  | 7, _ => by decide +kernel
  | 8, _ => by decide +kernel
  | 9, _ => by decide +kernel
  | 10, _ => by decide +kernel
  | 11, _ => by decide +kernel
  | n + 12, h => by omega
theorem ofB_self : ∀ k, k < 12 → ofB (tE k).1.toList = true := by decide +kernel

end Go.Proofs.YtpaecjjelpjopaaDoor

/- The document's sets, by the reference's own calls: Next, All, Runs. -/
import Derived.Test.YtpaecjjelpjopaaDoorRb
import Derived.Test.YtpaecjjelpjopaaDoorP3
namespace Go.Proofs.YtpaecjjelpjopaaDoor
open Go.RowKit BS

theorem row_below {W W' : World} {base : Nat} {e : TypeId} {size : Nat} {v : Value} {n : Nat} {xs : List Value} (h : W.ownsRow base e size v n xs) (hb : Below W.heap.size W W') : W'.ownsRow base e size v n xs := by
  refine h.kept (row := none) ⟨hb.os, hb.tape, hb.output, hb.size, fun k hk _ => hb.block k hk⟩ ?_
  by_cases hv : v.ownBlock = none
  · exact .inl hv
  · exact .inr hv

theorem info1b : (Tryd.prog.info? 5).map (fun i => (i.zero, i.size, i.bytes)) = some (some (.int .u8 0), 1, 1) := by kernel_rfl
theorem Blk.news1 {W : World} {B : Nat} {a : Value} {t : TypeId} (h : Blk W B #[a] t) : ∀ j u, [a][j]? = some u → W.cell? ((⟨B, 0, none⟩ : Addr).add j) = some u := by
  intro j u hu
  rw [Addr.add_mid, Nat.zero_add, h.cell j]
  simpa using hu
def byteCells (l : List Nat) : List Value := l.map fun (x : Nat) => Value.int .u8 (x : Int)
theorem byteCells_snoc (l : List Nat) (x : Nat) : byteCells (l ++ [x]) = byteCells l ++ [.int .u8 (x : Int)] := by simp [byteCells]

end Go.Proofs.YtpaecjjelpjopaaDoor

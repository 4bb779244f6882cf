/- The laws of stage 6: what they want of the package ast; sure, AstTells, AstKids, AstNumbers. -/
import Derived.Test.YtlhlgohgmbkaoaaAi
import Derived.Test.YtlhlgohgmbkaoaaBl
namespace Go.Proofs.Ytlhlgohgmbkaoaa
open Go.RowKit BS

/-- A slice of whole numbers in memory that is new. -/
def IntsB (base : Nat) (l : List Int) (a : Option Addr) (W : World) : Prop := l ≠ [] → ∃ g o, a = some ⟨g, o, none⟩ ∧ base ≤ g ∧ g < W.heap.size ∧ ∀ i (h : i < l.length), W.cell? ⟨g, o + i, none⟩ = some (.int .i64 l[i])
theorem IntsB.o {base : Nat} {l : List Int} {a : Option Addr} {W : World} (h : IntsB base l a W) : IntsO l a W := fun hne => by
  obtain ⟨g, o, e, _, hg, hc⟩ := h hne
  exact ⟨g, o, e, hg, hc⟩
theorem IntsB.below {base : Nat} {l : List Int} {a : Option Addr} {W W' : World} (h : IntsB base l a W) (hb : Below W.heap.size W W') : IntsB base l a W' := fun hne => by
  obtain ⟨g, o, e, h0, hg, hc⟩ := h hne
  exact ⟨g, o, e, h0, Nat.lt_of_lt_of_le hg hb.size, fun i hi => (hb.cell (p := ⟨g, o + i, none⟩) hg).trans (hc i hi)⟩
theorem IntsB.set {base : Nat} {l : List Int} {a : Option Addr} {W : World} (h : IntsB base l a W) {B : Nat} (hB : B < base) (x : Nat) (v : Value) : IntsB base l a (W.setCell ⟨B, x, none⟩ v) := fun hne => by
  obtain ⟨g, o, e, h0, hg, hc⟩ := h hne
  refine ⟨g, o, e, h0, by simpa using hg, fun i hi => ?_⟩
  exact (World.cell?_of_block (w := W) (a := ⟨g, o + i, none⟩) (Below.heap_setCell W ⟨B, x, none⟩ _ g (by show g ≠ B; omega))).trans (hc i hi)
theorem IntsO.alloc {l : List Int} {a : Option Addr} {W : World} (h : IntsO l a W) (o : Obj) : IntsO l a (W.alloc o) := h.below ((Below.refl _ _).alloc (Nat.le_refl _) o)
theorem NodesAt.alloc {l : List NdN} {a : Option Addr} {W : World} (h : NodesAt l a W) (o : Obj) : NodesAt l a (W.alloc o) := h.below ((Below.refl _ _).alloc (Nat.le_refl _) o)
/-- Whole numbers in a block of their own. -/
theorem IntsO.of_blk {l : List Int} {W : World} {g : Nat} {t : TypeId} (h : Blk W g (l.map (Value.int .i64)).toArray t) : IntsO l (some ⟨g, 0, none⟩) W := fun _ =>
  ⟨g, 0, rfl, h.lt, fun i hi => by rw [Nat.zero_add, h.cell i]; simp [hi]⟩

/-! ### sure -/
def l6 : List NdN := [⟨2, 0, 0, 0, 0⟩, ⟨2, 0, 0, 0, 0⟩, ⟨3, 1, 0, 0, 0⟩, ⟨5, 2, 0, 0, 0⟩]
@[reducible] def c6 : Array Value := #[.int .i64 2, .int .i64 0, .int .i64 0, .int .i64 0, .int .u64 0, .int .u64 0, .int .u64 0, .int .u64 0, .int .i64 2, .int .i64 0, .int .i64 0, .int .i64 0, .int .u64 0, .int .u64 0, .int .u64 0, .int .u64 0, .int .i64 3, .int .i64 1, .int .i64 0, .int .i64 0, .int .u64 0, .int .u64 0, .int .u64 0, .int .u64 0, .int .i64 5, .int .i64 2, .int .i64 0, .int .i64 0, .int .u64 0, .int .u64 0, .int .u64 0, .int .u64 0]
theorem l6_formed : decide (manyF 0 (l6.map NdN.kids) = some 1) = true := by decide +kernel
theorem l6_right : rightR l6 = true := by decide +kernel
theorem l6_two : decide (manyF 0 ((l6.take 2).map NdN.kids) = some 1) = false := by decide +kernel
theorem l6_kids : kidsR l6 3 = [0, 2] := by decide +kernel
theorem l6_sizes : sizesR l6 = [1, 1, 2, 4] := by decide +kernel
theorem l6_nums : numsR l6 = [0, 0, 1, 0] := by decide +kernel
theorem nodes_take (l : List NdN) (n : Nat) (a : Option Addr) (W : World) (h : NodesAt l a W) : NodesAt (l.take n) a W := fun hne => by
  obtain ⟨g, off, e, hg, hc⟩ := h (fun h => by rw [h] at hne; simp at hne)
  refine ⟨g, off, e, hg, fun i hi j hj => ?_⟩
  rw [List.length_take] at hi
  rw [hc i (by omega) j hj, List.getElem_take]

/-! ### few -/
theorem kidsR_lenI (l : List NdN) (i : Int) : (kidsR l i).length ≤ l.length := by
  by_cases h : 0 ≤ i
  · obtain ⟨n, rfl⟩ := Int.eq_ofNat_of_zero_le h
    exact kidsR_len l n
  · unfold kidsR
    rw [if_neg (by omega)]
    exact Nat.zero_le _
theorem numsR_len (l : List NdN) : (numsR l).length = (sizesR l).length := by unfold numsR; rw [List.length_map, List.length_range]
end Go.Proofs.Ytlhlgohgmbkaoaa

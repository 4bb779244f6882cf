/- BsetTells: whether any byte is in any set, sets with more bytes, ranges, and what comes of any two sets. -/
import Derived.Test.YtpaecjjelpjopaaDoorRb
import Derived.Test.YtpaecjjelpjopaaDoorTa
namespace Go.Proofs.YtpaecjjelpjopaaDoor
open Go.RowKit Go.Shelf BS

def SN (w : World) (s : BitVec 256) (W : World) : Prop := (Blk W w.heap.size (setA s) 26 ∧ Blk W (w.heap.size + 1) (setA 0) 26) ∧ Below w.heap.size w W
theorem keepN {w W W' : World} {s : BitVec 256} (h : SN w s W) (hb : Below W.heap.size W W') : SN w s W' := ⟨⟨h.1.1.below hb h.1.1.lt, h.1.2.below hb h.1.2.lt⟩, h.2.trans (hb.mono h.2.size)⟩
theorem drewN {w W : World} {s : BitVec 256} (h : SN w s W) : SN w s W.drew := ⟨⟨h.1.1, h.1.2⟩, h.2.drew⟩

theorem hasN (a : BitVec 256) (x : Nat) (w : World) (hx : x < 256) : Calls Tryd.prog 29 #[setV a, .int .u8 x] w fun e w' => e = .returned (.bool (a.getLsbD x)) ∧ Below w.heap.size w w' := by
  have h := has_calls a x w (by omega) (by omega)
  rw [Int.toNat_natCast] at h; exact h
theorem rangeN (x y : Nat) (w : World) (hx : x < 256) (hy : y < 256) : Calls Tryd.prog 99 #[.int .u8 x, .int .u8 y] w fun e w' => e = .returned (setV (range x y)) ∧ Below w.heap.size w w' := by
  have h := range_calls x y w (by omega) (by omega) (by omega) (by omega)
  rw [Int.toNat_natCast, Int.toNat_natCast] at h; exact h

theorem BytesAt.mono {n n' : Nat} {W : World} {v : Value} {l : List (Fin 256)} (h : BytesAt n W v l) (hn : n ≤ n') : BytesAt n' W v l := by
  obtain ⟨a, cap, e, h⟩ := h
  refine ⟨a, cap, e, fun hne => ?_⟩
  obtain ⟨b, off, e, hlt, hc⟩ := h hne
  exact ⟨b, off, e, by omega, hc⟩
end Go.Proofs.YtpaecjjelpjopaaDoor

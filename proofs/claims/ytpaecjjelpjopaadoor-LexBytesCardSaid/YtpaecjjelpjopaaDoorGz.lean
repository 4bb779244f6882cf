/- The document's brackets: Text. -/
import Derived.Test.YtpaecjjelpjopaaDoorDy
import Derived.Test.YtpaecjjelpjopaaDoorRz
import Derived.Test.YtpaecjjelpjopaaDoorRd
namespace Go.Proofs.YtpaecjjelpjopaaDoor
open Go.RowKit Go.Shelf BS

def UZ (s : BitVec 256) : Nat → List Value → Value → Prop
  | 0, _, v => v = setV s
  | 1, _, v => v = setV 0
  | 2, _, v => ∃ b, v = .slice (some ⟨b, 0, none⟩) 1 1
  | 3, _, v => ∃ b, v = .slice (some ⟨b, 0, none⟩) 1 1
  | 4, _, v => v = setV (range 94 94)
  | _, _, v => v = .bool (decide (s = range 94 94))
def VZ (n0 : Nat) (i : Nat) (v : Value) (W : World) : Prop := match i with
  | 2 => MarkB n0 5 [94] v W
  | 3 => MarkB n0 5 [94] v W
  | _ => True
theorem keepVZ (n0 : Nat) : ∀ i v w w', TM n0 w w' → VZ n0 i v w → VZ n0 i v w' := by
  intro i v w w' hb h
  unfold VZ at *
  split
  · exact MarkB.kept h hb
  · exact MarkB.kept h hb
  · trivial
def SZ (w : World) (n0 gF : Nat) (s : BitVec 256) (W : World) : Prop := (Blk W w.heap.size (setA s) 26 ∧ Blk W gF (setA fourS) 26 ∧ w.heap.size < n0 ∧ gF < n0 ∧ n0 ≤ W.heap.size) ∧ Below w.heap.size w W
theorem SZ.keep {w W W' : World} {n0 gF : Nat} {s : BitVec 256} (h : SZ w n0 gF s W) (hb : TM n0 W W') : SZ w n0 gF s W' :=
  ⟨⟨h.1.1.below hb.1 h.1.2.2.1, h.1.2.1.below hb.1 h.1.2.2.2.1, h.1.2.2.1, h.1.2.2.2.1, Nat.le_trans h.1.2.2.2.2 hb.1.size⟩, h.2.trans (hb.1.mono (by have := h.1.2.2.1; omega))⟩
theorem SZ.drewS {w W : World} {n0 gF : Nat} {s : BitVec 256} (h : SZ w n0 gF s W) : SZ w n0 gF s W.drew := ⟨⟨h.1.1, h.1.2.1, h.1.2.2⟩, h.2.drew⟩
theorem eq94 (s : BitVec 256) (w : World) : (Op.equalIn 10000 26 (setV s) (setV (range 94 94))).run Tryd.prog w = .ok (decide (s = range 94 94)) w := eq_set s (range 94 94) w

theorem out_eq (s : BitVec 256) : (iT (s.getLsbD 93) 93 ++ (rsOf (s &&& ~~~fourS)).flatMap runT) ++ iT (s.getLsbD 91) 91 = outT s := rfl
theorem text_eq (s : BitVec 256) (h0 : ¬ s = 0) (h1 : ¬ s = range 94 94) : textT s = if outT s = [] then [91] ++ iT (s.getLsbD 45) 45 ++ iT (s.getLsbD 94) 94 ++ [93] else [91] ++ outT s ++ iT (s.getLsbD 94) 94 ++ iT (s.getLsbD 45) 45 ++ [93] := by
  unfold textT
  rw [if_neg h0, if_neg h1]
  by_cases h : outT s = []
  · rw [if_pos h, if_pos h]; simp
  · rw [if_neg h, if_neg h]; simp

end Go.Proofs.YtpaecjjelpjopaaDoor

/- Texts put together: Fp. -/
import Derived.Test.YtldaaelmifbbhaaGreatPM
import Derived.Test.YtldaaelmifbbhaaGreatPR
/- Stage 8: what lacks to a beginning, by what lacks to its last word and by what is open then. -/
namespace Go.Proofs.YtldaaelmifbbhaaGreat
open Go.RowKit BS

theorem finish_lack (s : ByteArray) (h : begN s = true) (l : ByteArray) (hl : LackW s ((lastN s (s.size + 1) 0 : Nat) : Int) l) :
    l.size ≤ 200 ∧ okP (s ++ l ++ shuts (parseN (s ++ l)).2.1) = true := by
  obtain ⟨b, y, g1, _, g3, g4⟩ := finish_ok s ((begN_iff s).1 h)
  rw [g3] at hl
  rcases g4 with ⟨g4, g5, g6⟩ | ⟨g4, g5, g6⟩
  · have hn : (nextN s (b : Nat)).2.1 ≠ 2 := by
      unfold nextN
      rw [if_pos (.inr (by omega))]
      decide
    rw [hl.1 hn]
    have he : s ++ eT = s := by apply ByteArray.ext; simp [eT, ByteArray.data_append]
    rw [he, g5]
    exact ⟨by decide, (okP_iff _).2 (by rw [g6])⟩
  · have hn : nextN s (b : Nat) = nextA s b := by
      unfold nextN
      rw [if_neg (by omega)]
      rfl
    rw [← hn] at g5
    obtain ⟨_, hz, x, hx, _, hf⟩ := hl.2 g5
    have hn2 : nextN (s ++ l) (b : Nat) = nextA (s ++ l) b := by
      unfold nextN
      rw [if_neg (by rw [ByteArray.size_append]; omega)]
      rfl
    rw [hn2] at hx
    obtain ⟨k1, k2⟩ := g6 l x hx hf
    rw [k1]
    exact ⟨hz, (okP_iff _).2 (by rw [k2])⟩
end Go.Proofs.YtldaaelmifbbhaaGreat

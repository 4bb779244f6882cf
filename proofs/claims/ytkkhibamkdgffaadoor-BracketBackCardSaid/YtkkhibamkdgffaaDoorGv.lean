/- A bracket of one range. -/
import Derived.Test.YtkkhibamkdgffaaDoorGu
namespace Go.Proofs.YtkkhibamkdgffaaDoor
open Go.RowKit BS

/-- One that is no byte of ']', '[', '^', '-'. -/
def EndB (b : Nat) : Prop := b ≠ 93 ∧ b ≠ 91 ∧ b ≠ 94 ∧ b ≠ 45

theorem thingR_pair (s : ByteArray) (x : BR) (first : Bool) (h : x.pos + 3 < s.size) (h1 : EndB (bt s x.pos)) (h2 : bt s (x.pos + 1) = 45) (h3 : EndB (bt s (x.pos + 2))) :
    thingR s x first = if bt s (x.pos + 2) < bt s x.pos then badR 4 (x.pos + 3) else addR x (bt s x.pos) (bt s (x.pos + 2)) (x.pos + 3) := by
  unfold thingR
  simp only
  rw [if_neg (by omega), if_neg (fun h => h1.1 h.1), if_neg (by omega), if_neg (fun h => h1.2.1 h.1), if_neg (fun h => h1.2.1 h.1), if_neg (by rw [h2]; decide), if_neg (by omega), if_neg h3.1]
  by_cases hc : bt s (x.pos + 2) < bt s x.pos
  · rw [if_pos hc, if_pos hc]
  · rw [if_neg hc, if_neg hc, if_neg (fun h => h3.2.1 h.1), if_neg (fun h => h3.2.1 h.1)]
theorem thingR_end (s : ByteArray) (x : BR) (h : x.pos < s.size) (h1 : bt s x.pos = 93) : thingR s x false = ⟨x.set, x.pos + 1, x.err, x.place, true, x.neg⟩ := by
  unfold thingR
  simp only
  rw [if_neg (by omega), if_pos ⟨h1, trivial⟩]

theorem loopR_pair (s : ByteArray) (x : BR) (hf : x.fin = false) (he : x.err = 0) (n : Nat) (h : x.pos + 3 < s.size) (h1 : EndB (bt s x.pos)) (h2 : bt s (x.pos + 1) = 45) (h3 : EndB (bt s (x.pos + 2)))
    (h4 : bt s (x.pos + 3) = 93) : loopR s (n + 3) x true = if bt s (x.pos + 2) < bt s x.pos then badR 4 (x.pos + 3) else ⟨x.set ||| range (bt s x.pos) (bt s (x.pos + 2)), x.pos + 4, x.err, x.place, true, x.neg⟩ := by
  have ht := thingR_pair s x true h h1 h2 h3
  by_cases hc : bt s (x.pos + 2) < bt s x.pos
  · rw [if_pos hc] at ht ⊢
    rw [loopR, if_neg (by rw [hf]; decide), ht, if_pos (by simp [badR])]
  · rw [if_neg hc] at ht ⊢
    rw [loopR, if_neg (by rw [hf]; decide), ht, if_neg (by simpa [addR] using he)]
    have e2 : thingR s (addR x (bt s x.pos) (bt s (x.pos + 2)) (x.pos + 3)) false = ⟨x.set ||| range (bt s x.pos) (bt s (x.pos + 2)), x.pos + 3 + 1, x.err, x.place, true, x.neg⟩ := thingR_end s _ h h4
    rw [loopR, if_neg (by simp [addR, hf]), e2, if_neg (by simpa using he), loopR_fin _ _ _ _ rfl]

theorem readR_pair (s : ByteArray) (k : Nat) (h : k + 4 < s.size) (h0 : bt s k = 91) (h1 : EndB (bt s (k + 1))) (h2 : bt s (k + 2) = 45) (h3 : EndB (bt s (k + 3))) (h4 : bt s (k + 4) = 93) :
    readR s k = if bt s (k + 3) < bt s (k + 1) then (0, 0, 4, k + 4) else (range (bt s (k + 1)) (bt s (k + 3)), k + 5, 0, 0) := by
  unfold readR
  rw [if_neg (by omega)]
  rw [show (k : Int).toNat = k from rfl, if_neg (by rw [h0]; omega)]
  have es : startR s k = ⟨0, k + 1, 0, 0, false, false⟩ := by rw [startR, if_neg (fun h => h1.2.2.1 h.2)]
  obtain ⟨n, hn⟩ : ∃ n, s.size + 1 = n + 3 := ⟨s.size - 2, by omega⟩
  rw [es, hn, loopR_pair s ⟨0, k + 1, 0, 0, false, false⟩ rfl rfl n h h1 h2 h3 h4]
  simp only
  by_cases hc : bt s (k + 1 + 2) < bt s (k + 1)
  · rw [if_pos hc, if_pos hc]; rfl
  · rw [if_neg hc, if_neg hc]
    simp [finR]
theorem readR_npair (s : ByteArray) (k : Nat) (h : k + 5 < s.size) (h0 : bt s k = 91) (hn : bt s (k + 1) = 94) (h1 : EndB (bt s (k + 2))) (h2 : bt s (k + 3) = 45) (h3 : EndB (bt s (k + 4))) (h4 : bt s (k + 5) = 93) :
    readR s k = if bt s (k + 4) < bt s (k + 2) then (0, 0, 4, k + 5) else (~~~ range (bt s (k + 2)) (bt s (k + 4)), k + 6, 0, 0) := by
  unfold readR
  rw [if_neg (by omega)]
  rw [show (k : Int).toNat = k from rfl, if_neg (by rw [h0]; omega)]
  have es : startR s k = ⟨0, k + 2, 0, 0, false, true⟩ := by rw [startR, if_pos ⟨by omega, hn⟩]
  obtain ⟨n, hn⟩ : ∃ n, s.size + 1 = n + 3 := ⟨s.size - 2, by omega⟩
  rw [es, hn, loopR_pair s ⟨0, k + 2, 0, 0, false, true⟩ rfl rfl n h h1 h2 h3 h4]
  simp only
  by_cases hc : bt s (k + 2 + 2) < bt s (k + 2)
  · rw [if_pos hc, if_pos hc]; rfl
  · rw [if_neg hc, if_neg hc]
    simp [finR]

end Go.Proofs.YtkkhibamkdgffaaDoor

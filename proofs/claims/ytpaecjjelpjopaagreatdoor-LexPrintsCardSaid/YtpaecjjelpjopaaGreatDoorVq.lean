/- Words of a pattern, plainly: where a word ends; what a word's text is read as. -/
import Derived.Test.YtpaecjjelpjopaaGreatDoorVp
import Derived.Test.YtpaecjjelpjopaaGreatDoorNq
import Derived.Test.YtpaecjjelpjopaaGreatDoorP3
namespace Go.Proofs.YtpaecjjelpjopaaGreatDoor
open Go.RowKit BS

theorem brkW_end (s : ByteArray) (a : Nat) (h : a < s.size) (hb : bt s a = 91) : EndW s a (brkW s a) := by
  unfold brkW
  rcases readR_end s a with ⟨_, h' | h' | h'⟩ | ⟨_, _, _, hE⟩
  · omega
  · rw [show (a : Int).toNat = a from rfl] at h'; omega
  · rw [show (a : Int).toNat = a from rfl] at h'; exact absurd hb h'
  rw [show (a : Int).toNat = a from rfl] at hE
  generalize readR s a = R at *
  obtain ⟨t, p, e, k⟩ := R
  simp only at hE ⊢
  rcases hE with ⟨rfl, rfl, g1, g2⟩ | ⟨g1, g2, _, _, g3, g4, g5⟩
  · exact .inl ⟨rfl, rfl, .inl ⟨rfl, rfl, rfl⟩, rfl, g1, g2⟩
  · rw [if_pos g1]
    exact .inr ⟨g1, g2, rfl, g3, g4, g5⟩
theorem nextA_end (s : ByteArray) (a : Nat) (h : a < s.size) : EndW s a (nextA s a) := by
  unfold nextA
  by_cases h1 : bt s a = 40
  · rw [if_pos h1]; exact .inl ⟨rfl, rfl, .inr (.inl ⟨.inl rfl, rfl, rfl, rfl⟩), rfl, by simp only; omega, by simp only; omega⟩
  rw [if_neg h1]
  by_cases h2 : bt s a = 41
  · rw [if_pos h2]; exact .inl ⟨rfl, rfl, .inr (.inl ⟨.inr (.inl rfl), rfl, rfl, rfl⟩), rfl, by simp only; omega, by simp only; omega⟩
  rw [if_neg h2]
  by_cases h3 : bt s a = 124
  · rw [if_pos h3]; exact .inl ⟨rfl, rfl, .inr (.inl ⟨.inr (.inr rfl), rfl, rfl, rfl⟩), rfl, by simp only; omega, by simp only; omega⟩
  rw [if_neg h3]
  by_cases h4 : bt s a = 42 ∨ bt s a = 43 ∨ bt s a = 63 ∨ bt s a = 123
  · rw [if_pos h4]; exact cntW_end s a h h4
  rw [if_neg h4]
  by_cases h5 : bt s a = 91
  · rw [if_pos h5]; exact brkW_end s a h h5
  rw [if_neg h5]
  have one : ∀ t e, a < e → e ≤ s.size → EndW s a (oneW t a e, 0, 0) := fun t e h1 h2 => .inl ⟨rfl, rfl, .inl ⟨rfl, rfl, rfl⟩, rfl, h1, h2⟩
  by_cases h6 : bt s a = 46
  · rw [if_pos h6]; exact one _ _ (by omega) (by omega)
  rw [if_neg h6]
  by_cases h7 : bt s a = 94 ∨ bt s a = 36
  · rw [if_pos h7]; exact .inr ⟨(fun h => by cases h), (fun h => by cases h), rfl, by simp only; omega, by simp only; omega, fun h => by cases h⟩
  rw [if_neg h7]
  by_cases h8 : bt s a = 92
  · rw [if_pos h8]
    unfold slashW
    by_cases h9 : s.size ≤ a + 1
    · rw [if_pos h9]; exact .inr ⟨(fun h => by cases h), (fun h => by cases h), rfl, h, Nat.le_refl _, fun _ => rfl⟩
    rw [if_neg h9]
    by_cases h10 : four14 (bt s (a + 1)) = false
    · rw [if_pos h10]; exact .inr ⟨(fun h => by cases h), (fun h => by cases h), rfl, by simp only; omega, by simp only; omega, fun h => by cases h⟩
    · rw [if_neg h10]; exact one _ _ (by omega) (by omega)
  · rw [if_neg h8]; exact one _ _ (by omega) (by omega)

/-! ### Counts, moved -/
def shN (d : Nat) (r : Nat × Int × Nat × Nat × Nat) : Nat × Int × Nat × Nat × Nat := if r.2.2.2.1 = 0 then (r.1, r.2.1, r.2.2.1 + d, 0, 0) else (0, 0, 0, r.2.2.2.1, r.2.2.2.2 + d)
theorem bt_off (p s : ByteArray) (i : Nat) : bt (p ++ s) (p.size + i) = bt s i := by rw [bt_app, if_neg (by omega), show p.size + i - p.size = i by omega]
theorem runN_shift (p s : ByteArray) : ∀ k i st, runN (p ++ s) k (p.size + i) st = shN p.size (runN s k i st)
  | 0, i, st => by
    show ((0, 0, 0, 2, (p ++ s).size) : Nat × Int × Nat × Nat × Nat) = (0, 0, 0, 2, s.size + p.size)
    rw [ByteArray.size_append, Nat.add_comm]
  | k + 1, i, st => by
    rw [runN, runN, bt_off]
    cases hs : stepN st (bt s i) with
    | bad e =>
      have he := stepN_bad _ _ _ hs
      simp only [shN]
      rw [if_neg (by omega), show p.size + i + 1 = i + 1 + p.size by omega]
    | fin n m => simp only [shN, if_true]; rw [show p.size + i + 1 = i + 1 + p.size by omega]
    | on st' => simp only; exact runN_shift p s k (i + 1) st'
theorem readN_shift (p s : ByteArray) (a : Nat) (h : a < s.size) (hne : (readN s a).2.2.2.1 ≠ 1) : readN (p ++ s) ((p.size + a : Nat) : Int) = shN p.size (readN s a) := by
  have hz : (p ++ s).size = p.size + s.size := ByteArray.size_append
  unfold readN at hne ⊢
  rw [if_neg (by omega), show (a : Int).toNat = a from rfl] at hne
  rw [if_neg (by omega), if_neg (by omega), show ((p.size + a : Nat) : Int).toNat = p.size + a from rfl, show (a : Int).toNat = a from rfl]
  unfold signN at hne ⊢
  rw [bt_off]
  by_cases h1 : bt s a = 42
  · rw [if_pos h1, if_pos h1]; simp only [shN, if_true]; rw [show p.size + a + 1 = a + 1 + p.size by omega]
  rw [if_neg h1, if_neg h1]
  by_cases h2 : bt s a = 43
  · rw [if_pos h2, if_pos h2]; simp only [shN, if_true]; rw [show p.size + a + 1 = a + 1 + p.size by omega]
  rw [if_neg h2, if_neg h2]
  by_cases h3 : bt s a = 63
  · rw [if_pos h3, if_pos h3]; simp only [shN, if_true]; rw [show p.size + a + 1 = a + 1 + p.size by omega]
  rw [if_neg h3, if_neg h3]
  by_cases h4 : bt s a = 123
  · rw [if_pos h4, if_pos h4]
    unfold bracesN
    rw [hz, show p.size + s.size - (p.size + a + 1) = s.size - (a + 1) by omega, show p.size + a + 1 = p.size + (a + 1) by omega]
    exact runN_shift p s _ _ _
  · rw [if_neg h1, if_neg h2, if_neg h3, if_neg h4] at hne; exact absurd rfl hne
theorem agrApp (s l : ByteArray) (n : Nat) (h : n ≤ s.size) : Agr n s (s ++ l) := ⟨h, by rw [ByteArray.size_append]; omega, fun i hi => by rw [bt_app, if_pos (by omega)]⟩
/-- The text of counts is read as they are, whatever stands ahead of it, and behind. -/
theorem readN_back (p q : ByteArray) (n : Nat) (m : Int) (h : rightN n m = true) :
    textN n m ≠ [] ∧ readN (p ++ ofT (textN n m) ++ q) p.size = (n, m, p.size + (textN n m).length, 0, 0) := by
  obtain ⟨h1, N, hN, h2⟩ := back_read n m h
  obtain rfl : n = N := by omega
  refine ⟨h1, ?_⟩
  have hl : 0 < (textN n m).length := List.length_pos_iff.2 h1
  have e1 : readN (ofT (textN n m) ++ q) 0 = (n, m, (textN n m).length, 0, 0) := by
    rw [← h2]
    refine readN_agr _ _ 0 (by rw [h2]; exact fun h => by cases h) (by rw [h2]; exact fun h => by cases h) ?_
    rw [h2]
    exact agrApp _ _ _ (by rw [size_ofT]; exact Nat.le_refl _)
  rw [ByteArray.append_assoc]
  have hlt : 0 < (ofT (textN n m) ++ q).size := by rw [ByteArray.size_append, size_ofT]; omega
  have e2 := readN_shift p (ofT (textN n m) ++ q) 0 hlt (by rw [show ((0 : Nat) : Int) = 0 from rfl, e1]; exact fun h => by cases h)
  rw [show ((0 : Nat) : Int) = 0 from rfl, e1] at e2
  rw [show p.size + 0 = p.size from rfl] at e2
  rw [e2]
  simp only [shN, if_true]
  rw [Nat.add_comm]
end Go.Proofs.YtpaecjjelpjopaaGreatDoor

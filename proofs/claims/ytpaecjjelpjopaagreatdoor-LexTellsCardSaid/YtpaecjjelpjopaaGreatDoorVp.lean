/- Words of a pattern, plainly: how the document reads and prints them. -/
import Derived.Test.YtpaecjjelpjopaaGreatDoorP3
import Derived.Test.YtpaecjjelpjopaaGreatDoorNp
namespace Go.Proofs.YtpaecjjelpjopaaGreatDoor
open Go.RowKit BS

structure WN where
  kind : Nat
  pos : Nat
  fin : Nat
  set : BitVec 256
  n : Nat
  m : Int
def zWN : WN := ⟨0, 0, 0, 0, 0, 0⟩
def oneW (t : BitVec 256) (a e : Nat) : WN := ⟨1, a, e, t, 0, 0⟩
/-- The bytes that may stand behind a backslash. -/
def l14 : List Nat := [46, 91, 93, 92, 40, 41, 42, 43, 63, 123, 125, 124, 94, 36]
def four14 (b : Nat) : Bool := l14.contains b
def cntW (s : ByteArray) (a : Nat) : WN × Nat × Nat :=
  match readN s a with
  | (n, m, p, e, k) => if e ≠ 0 then (zWN, e, k) else (⟨5, a, p, 0, n, m⟩, 0, 0)
def brkW (s : ByteArray) (a : Nat) : WN × Nat × Nat :=
  match readR s a with
  | (t, p, e, k) => if e ≠ 0 then (zWN, e, k) else (oneW t a p, 0, 0)
def slashW (s : ByteArray) (a : Nat) : WN × Nat × Nat :=
  if s.size ≤ a + 1 then (zWN, 2, s.size)
  else if four14 (bt s (a + 1)) = false then (zWN, 3, a + 2)
  else (oneW (range (bt s (a + 1)) (bt s (a + 1))) a (a + 2), 0, 0)
def nextA (s : ByteArray) (a : Nat) : WN × Nat × Nat :=
  if bt s a = 40 then (⟨2, a, a + 1, 0, 0, 0⟩, 0, 0)
  else if bt s a = 41 then (⟨3, a, a + 1, 0, 0, 0⟩, 0, 0)
  else if bt s a = 124 then (⟨4, a, a + 1, 0, 0, 0⟩, 0, 0)
  else if bt s a = 42 ∨ bt s a = 43 ∨ bt s a = 63 ∨ bt s a = 123 then cntW s a
  else if bt s a = 91 then brkW s a
  else if bt s a = 46 then (oneW (range 0 255) a (a + 1), 0, 0)
  else if bt s a = 94 ∨ bt s a = 36 then (zWN, 3, a + 1)
  else if bt s a = 92 then slashW s a
  else (oneW (range (bt s a) (bt s a)) a (a + 1), 0, 0)
def nextN (s : ByteArray) (at' : Int) : WN × Nat × Nat :=
  if at' < 0 ∨ (s.size : Int) ≤ at' then (zWN, 1, 0) else nextA s at'.toNat

/-- All words from a place on, behind some. -/
def allN (s : ByteArray) : Nat → Nat → List WN → List WN × Nat × Nat
  | 0, _, l => (l, 0, 0)
  | k + 1, a, l =>
    if s.size ≤ a then (l, 0, 0)
    else match nextA s a with
      | (w, e, p) => if e ≠ 0 then ([], e, p) else allN s k w.fin (l ++ [w])
def wordsN (s : ByteArray) : List WN × Nat × Nat := allN s (s.size + 1) 0 []

def textW (t : BitVec 256) : List Nat :=
  if (el t.getLsbD 256).length = 256 then [46]
  else if (el t.getLsbD 256).length ≠ 1 then textT t
  else match el t.getLsbD 256 with
    | b :: _ => if four14 b = true ∧ b ≠ 93 ∧ b ≠ 125 then [92, b] else [b]
    | [] => []
def printW (w : WN) : List Nat :=
  if w.kind = 1 then textW w.set
  else if w.kind = 2 then [40]
  else if w.kind = 3 then [41]
  else if w.kind = 4 then [124]
  else if w.kind = 5 then textN w.n w.m
  else []

/-! ### What a word is -/
def OkW (w : WN) : Prop := (w.kind = 1 ∧ w.n = 0 ∧ w.m = 0) ∨ ((w.kind = 2 ∨ w.kind = 3 ∨ w.kind = 4) ∧ w.set = 0 ∧ w.n = 0 ∧ w.m = 0) ∨ (w.kind = 5 ∧ w.set = 0 ∧ rightN w.n w.m = true)
/-- The word at a place is one, which ends within the text, or there is an error, whose place is in the text. -/
def EndW (s : ByteArray) (a : Nat) (r : WN × Nat × Nat) : Prop :=
  (r.2.1 = 0 ∧ r.2.2 = 0 ∧ OkW r.1 ∧ r.1.pos = a ∧ a < r.1.fin ∧ r.1.fin ≤ s.size) ∨
  (r.2.1 ≠ 0 ∧ r.2.1 ≠ 1 ∧ r.1 = zWN ∧ a < r.2.2 ∧ r.2.2 ≤ s.size ∧ (r.2.1 = 2 → r.2.2 = s.size))
theorem cntW_end (s : ByteArray) (a : Nat) (h : a < s.size) (hb : bt s a = 42 ∨ bt s a = 43 ∨ bt s a = 63 ∨ bt s a = 123) : EndW s a (cntW s a) := by
  unfold cntW
  have h1 : (readN s a).2.2.2.1 ≠ 1 := by
    unfold readN
    rw [if_neg (by omega), show (a : Int).toNat = a from rfl]
    unfold signN
    rcases hb with e | e | e | e
    · rw [if_pos e]; exact fun h => by cases h
    · rw [if_neg (by omega), if_pos e]; exact fun h => by cases h
    · rw [if_neg (by omega), if_neg (by omega), if_pos e]; exact fun h => by cases h
    · rw [if_neg (by omega), if_neg (by omega), if_neg (by omega), if_pos e]
      rcases runN_end s a (s.size - (a + 1)) (a + 1) ⟨0, 0, 0, false⟩ inv_start (by omega) (by omega) with h | h | h
      · unfold bracesN; rw [h.1]; decide
      · unfold bracesN; rcases h.1 with h | h <;> rw [h] <;> decide
      · unfold bracesN; rw [h]; exact fun h => by cases h
  rcases readN_cases s a with h' | ⟨k, hk, hE⟩
  · rw [h'] at h1; exact absurd rfl h1
  obtain rfl : a = k := by omega
  generalize readN s a = R at *
  obtain ⟨n, m, p, e, k⟩ := R
  simp only [EndN] at hE h1
  rcases hE with ⟨rfl, rfl, g1, g2, g3⟩ | ⟨g1, _, _, _, g5, g6⟩ | g
  · exact .inl ⟨rfl, rfl, .inr (.inr ⟨rfl, rfl, g3⟩), rfl, g1, g2⟩
  · simp only
    rw [if_pos (by omega)]
    exact .inr ⟨by simp only; omega, h1, rfl, g5, g6, fun h => by simp only at h; omega⟩
  · cases g
    exact .inr ⟨(fun h => by cases h), (fun h => by cases h), rfl, h, Nat.le_refl _, fun _ => rfl⟩
end Go.Proofs.YtpaecjjelpjopaaGreatDoor

/- Brackets, plainly: how the developers' package reads them. -/
import Derived.Test.YtkkhibamkdgffaaDoorGx
namespace Go.Proofs.YtkkhibamkdgffaaDoor
open Go.RowKit BS

/-- What was read. -/
structure DP where
  set : BitVec 256
  fin : Nat
  err : Nat
  lack : ByteArray

def eT : ByteArray := ⟨#[]⟩
/-- Does one of the bytes L stand at i? -/
def isN (s : ByteArray) (i : Nat) (L : List Nat) : Bool := decide (i < s.size) && L.contains (bt s i)
def shortD (s l : ByteArray) : DP := ⟨0, s.size, 2, l⟩
def badD (e p : Nat) : DP := ⟨0, p, e, eT⟩
def okD (t : BitVec 256) (p : Nat) : DP := ⟨t, p, 0, eT⟩

def betweenD (s : ByteArray) (i : Nat) : DP :=
  if bt s (i + 2) < bt s i then badD 4 (i + 3)
  else if bt s (i + 2) = 91 ∧ isN s (i + 3) [58, 46, 61] = true then badD 3 (i + 4)
  else okD (range (bt s i) (bt s (i + 2))) (i + 3)

/-- How far a name goes. -/
def nmEnd (s : ByteArray) (a : Nat) : Nat → Nat → Nat
  | 0, e => e
  | n + 1, e => if begB (s.extract a (e + 1)) = true then nmEnd s a n (e + 1) else e
/-- How the first name that begins so goes on. -/
def restD (l : ByteArray) : ByteArray := ((tabL.find? fun e => pfx e.1 l).map (fun e => e.1.extract l.size e.1.size)).getD eT
def colT : ByteArray := ofT [58, 93, 93]
def twoT : ByteArray := ofT [93, 93]
def oneT : ByteArray := ofT [93]

def behindD (s : ByteArray) (a e : Nat) : DP :=
  if e = s.size then shortD s (restD (s.extract a s.size) ++ colT)
  else if ofB (s.extract a e).toList = false ∨ bt s e ≠ 58 then badD 5 (e + 1)
  else if e + 1 = s.size then shortD s twoT
  else if bt s (e + 1) ≠ 93 then badD 3 (e + 2)
  else okD (ofS (s.extract a e).toList) (e + 2)
def namedD (s : ByteArray) (a : Nat) : DP := behindD s a (nmEnd s a (s.size - a) a)

def thingD (s : ByteArray) (i : Nat) : DP :=
  if bt s i = 91 ∧ isN s (i + 1) [58] = true then namedD s (i + 2)
  else if bt s i = 91 ∧ isN s (i + 1) [46, 61] = true then badD 3 (i + 2)
  else if (isN s (i + 1) [45] = true ∧ i + 2 < s.size) ∧ bt s (i + 2) ≠ 93 then betweenD s i
  else okD (range (bt s i) (bt s i)) (i + 1)

def loopD (s : ByteArray) (first : Nat) : Nat → BitVec 256 → Nat → DP
  | 0, t, i => okD t i
  | n + 1, t, i =>
    if i = s.size ∧ i = first then shortD s twoT
    else if i = s.size then shortD s oneT
    else if bt s i = 93 ∧ first < i then okD t (i + 1)
    else if (thingD s i).err ≠ 0 then thingD s i
    else loopD s first n (t ||| (thingD s i).set) (thingD s i).fin
def thingsD (s : ByteArray) (first : Nat) : DP := loopD s first (s.size + 1 - first) 0 first

def negD (p : DP) : DP := ⟨~~~p.set, p.fin, p.err, p.lack⟩
def wholeD (s : ByteArray) (at' : Int) : DP :=
  if at' < 0 then badD 1 0
  else if isN s at'.toNat [91] = false then badD 1 0
  else if isN s (at'.toNat + 1) [94] = false then thingsD s (at'.toNat + 1)
  else negD (thingsD s (at'.toNat + 2))
def readD (s : ByteArray) (at' : Int) : BitVec 256 × Nat × Nat × Nat :=
  if (wholeD s at').err ≠ 0 then (0, 0, (wholeD s at').err, (wholeD s at').fin) else ((wholeD s at').set, (wholeD s at').fin, 0, 0)

/-! ### It reads as the document does -/
theorem isN_lt {s : ByteArray} {i : Nat} {L : List Nat} (h : isN s i L = true) : i < s.size := by
  unfold isN at h; simp at h; exact h.1
theorem isN_one (s : ByteArray) (i b : Nat) : isN s i [b] = true ↔ i < s.size ∧ bt s i = b := by
  unfold isN; simp
theorem isN_two (s : ByteArray) (i b c : Nat) : isN s i [b, c] = true ↔ i < s.size ∧ (bt s i = b ∨ bt s i = c) := by
  unfold isN; simp
theorem isN_three (s : ByteArray) (i b c d : Nat) : isN s i [b, c, d] = true ↔ i < s.size ∧ (bt s i = b ∨ bt s i = c ∨ bt s i = d) := by
  unfold isN; simp
theorem spec3_iff (b : Nat) : spec3 b = true ↔ b = 58 ∨ b = 46 ∨ b = 61 := by
  unfold spec3; simp [or_assoc]

/-- What reading ends in, for a bracket with ^ or without. -/
def finD (neg : Bool) (p : DP) : BitVec 256 × Nat × Nat × Nat := if p.err ≠ 0 then (0, 0, p.err, p.fin) else (if neg = true then ~~~p.set else p.set, p.fin, 0, 0)

/-- No name has a : in it. -/
theorem no_colon : ∀ k, k < 12 → ∀ j, j < 16 → bt (tE k).1 j ≠ 58 := by decide +kernel
theorem name_len : ∀ k, k < 12 → (tE k).1.size ≤ 16 ∧ 0 < (tE k).1.size := by decide +kernel
theorem bt_extract (s : ByteArray) (a e i : Nat) (he : e ≤ s.size) (h : a + i < e) : bt (s.extract a e) i = bt s (a + i) := by
  have h1 : i < (s.extract a e).size := by rw [ByteArray.size_extract]; omega
  rw [bt_eq _ i h1, bt_eq _ (a + i) (by omega), ByteArray.getElem_extract]
theorem pfx_bt {nm l : ByteArray} (h : pfx nm l = true) : l.size ≤ nm.size ∧ ∀ i, i < l.size → bt l i = bt nm i := by
  unfold pfx at h
  rw [Bool.and_eq_true, decide_eq_true_eq, beq_iff_eq] at h
  obtain ⟨h1, h2⟩ := h
  refine ⟨h1, fun i hi => ?_⟩
  have e : bt (nm.extract 0 l.size) i = bt nm (0 + i) := bt_extract nm 0 l.size i h1 (by omega)
  rw [Nat.zero_add] at e
  rw [← e]
  have e2 : nm.extract 0 l.size = l := by
    apply ByteArray.ext
    apply Array.toList_inj.1
    have := h2
    rw [ByteArray.toList_eq, ByteArray.toList_eq] at this
    exact this
  rw [e2]
theorem begB_iff (l : ByteArray) : begB l = true ↔ ∃ k, k < 12 ∧ pfx (tE k).1 l = true := by
  constructor
  · intro h
    refine Decidable.byContradiction fun hc => ?_
    rw [begB_not l (fun j hj => ?_)] at h
    · exact absurd h (by decide)
    · cases hp : pfx (tE j).1 l with
      | false => rfl
      | true => exact absurd ⟨j, hj, hp⟩ hc
  · rintro ⟨k, hk, h⟩
    exact begB_at l k hk h
theorem beg_colon (s : ByteArray) (a e : Nat) (ha : a ≤ e) (he : e < s.size) (h : bt s e = 58) : begB (s.extract a (e + 1)) = false := by
  cases hb : begB (s.extract a (e + 1)) with
  | false => rfl
  | true =>
    obtain ⟨k, hk, hp⟩ := (begB_iff _).1 hb
    obtain ⟨h1, h2⟩ := pfx_bt hp
    have hs : (s.extract a (e + 1)).size = e + 1 - a := by rw [ByteArray.size_extract]; omega
    have h3 := h2 (e - a) (by omega)
    rw [bt_extract s a (e + 1) (e - a) (by omega) (by omega), show a + (e - a) = e by omega, h] at h3
    have := (name_len k hk).1
    exact absurd h3.symm (no_colon k hk (e - a) (by omega))
end Go.Proofs.YtkkhibamkdgffaaDoor

/- Brackets, plainly: how the document reads them. -/
import Derived.Test.YtkkhibamkdgffaaDoorCr
namespace Go.Proofs.YtkkhibamkdgffaaDoor
open Go.RowKit BS

/-- Byte i of a text. -/
def bt (s : ByteArray) (i : Nat) : Nat := (s.data.toList.getD i 0).toNat
theorem bt_eq (s : ByteArray) (i : Nat) (h : i < s.size) : bt s i = s[i].toNat := by
  have h' : i < s.data.toList.length := by simpa using h
  unfold bt
  rw [List.getD_eq_getElem?_getD, List.getElem?_eq_getElem h', Option.getD_some]
  rfl
theorem bt_lt (s : ByteArray) (i : Nat) : bt s i < 256 := UInt8.toNat_lt _

/-- How far a bracket was read. -/
structure BR where
  set : BitVec 256
  pos : Nat
  err : Nat
  place : Nat
  fin : Bool
  neg : Bool

def badR (e p : Nat) : BR := ⟨0, 0, e, p, false, false⟩
def addR (x : BR) (lo hi pos : Nat) : BR := ⟨x.set ||| range lo hi, pos, x.err, x.place, x.fin, x.neg⟩
def spec3 (b : Nat) : Bool := b == 58 || b == 46 || b == 61

/-- A class, of which the name begins at fr. -/
def nameR (s : ByteArray) (fr : Nat) (x : BR) : Nat → Nat → BR
  | 0, _ => badR 2 s.size
  | n + 1, j =>
    if bt s j = 58 then
      if ofB (s.extract fr j).toList = false then badR 5 (j + 1)
      else if s.size ≤ j + 1 then badR 2 s.size
      else if bt s (j + 1) ≠ 93 then badR 3 (j + 2)
      else ⟨x.set ||| ofS (s.extract fr j).toList, j + 2, x.err, x.place, x.fin, x.neg⟩
    else if begB (s.extract fr (j + 1)) = false then badR 5 (j + 1)
    else nameR s fr x n (j + 1)

/-- One thing more, or the end. -/
def thingR (s : ByteArray) (x : BR) (first : Bool) : BR :=
  let i := x.pos
  if s.size ≤ i then badR 2 s.size
  else if bt s i = 93 ∧ first = false then ⟨x.set, i + 1, x.err, x.place, true, x.neg⟩
  else if s.size ≤ i + 1 then badR 2 s.size
  else if bt s i = 91 ∧ bt s (i + 1) = 58 then nameR s (i + 2) x (s.size - (i + 2)) (i + 2)
  else if bt s i = 91 ∧ spec3 (bt s (i + 1)) = true then badR 3 (i + 2)
  else if bt s (i + 1) ≠ 45 then addR x (bt s i) (bt s i) (i + 1)
  else if s.size ≤ i + 2 then badR 2 s.size
  else if bt s (i + 2) = 93 then addR x (bt s i) (bt s i) (i + 1)
  else if bt s (i + 2) < bt s i then badR 4 (i + 3)
  else if bt s (i + 2) = 91 ∧ s.size ≤ i + 3 then badR 2 s.size
  else if bt s (i + 2) = 91 ∧ spec3 (bt s (i + 3)) = true then badR 3 (i + 4)
  else addR x (bt s i) (bt s (i + 2)) (i + 3)

/-- Thing by thing. -/
def loopR (s : ByteArray) : Nat → BR → Bool → BR
  | 0, x, _ => x
  | n + 1, x, first =>
    if x.fin = true then x
    else if (thingR s x first).err ≠ 0 then thingR s x first
    else loopR s n (thingR s x first) false

def startR (s : ByteArray) (a : Nat) : BR := if a + 1 < s.size ∧ bt s (a + 1) = 94 then ⟨0, a + 2, 0, 0, false, true⟩ else ⟨0, a + 1, 0, 0, false, false⟩
def finR (x : BR) : BitVec 256 × Nat × Nat × Nat := if x.err ≠ 0 then (0, 0, x.err, x.place) else (if x.neg = true then ~~~x.set else x.set, x.pos, 0, 0)
def readR (s : ByteArray) (at' : Int) : BitVec 256 × Nat × Nat × Nat :=
  if at' < 0 then (0, 0, 1, 0)
  else if s.size ≤ at'.toNat ∨ bt s at'.toNat ≠ 91 then (0, 0, 1, 0)
  else finR (loopR s (s.size + 1) (startR s at'.toNat) true)

end Go.Proofs.YtkkhibamkdgffaaDoor

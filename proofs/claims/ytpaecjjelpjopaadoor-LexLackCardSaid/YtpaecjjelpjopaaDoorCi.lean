/- The document's classes: whether a byte is of a class. -/
import Derived.Test.YtpaecjjelpjopaaDoorP1
import Derived.Deep.DeepCutAuto
import Derived.Lib.Hide
namespace Go.Proofs.YtpaecjjelpjopaaDoor
open Go.RowKit Go.Shelf BS

def inB (b lo hi : Int) : Bool := decide (lo ≤ b) && decide (b ≤ hi)
def alB (b : Int) : Bool := inB b 65 90 || inB b 97 122
def dgB (b : Int) : Bool := inB b 48 57
def isC (l : List UInt8) (b : Int) : Bool :=
  if l = [97, 108, 110, 117, 109] then (alB b || dgB b) else
  if l = [97, 108, 112, 104, 97] then alB b else
  if l = [98, 108, 97, 110, 107] then (b == 9 || b == 32) else
  if l = [99, 110, 116, 114, 108] then (inB b 0 31 || b == 127) else
  if l = [100, 105, 103, 105, 116] then dgB b else
  if l = [103, 114, 97, 112, 104] then inB b 33 126 else
  if l = [108, 111, 119, 101, 114] then inB b 97 122 else
  if l = [112, 114, 105, 110, 116] then inB b 32 126 else
  if l = [112, 117, 110, 99, 116] then (inB b 33 126 && !alB b && !dgB b) else
  if l = [115, 112, 97, 99, 101] then (inB b 9 13 || b == 32) else
  if l = [117, 112, 112, 101, 114] then inB b 65 90 else
  if l = [120, 100, 105, 103, 105, 116] then (dgB b || inB b 65 70 || inB b 97 102) else
  false

end Go.Proofs.YtpaecjjelpjopaaDoor

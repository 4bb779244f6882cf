/- The document's brackets: bad, special, add, name, thing, Read. -/
import Derived.Test.YtpaecjjelpjopaaDoorP3
import Derived.Test.YtpaecjjelpjopaaDoorP1
import Derived.Laws.Rows
import Derived.Laws.Tables
namespace Go.Proofs.YtpaecjjelpjopaaDoor
open Go.RowKit Go.Shelf BS

/-- A state's cells. -/
@[reducible] def stI (t : BitVec 256) (pos err place : Int) (fin neg : Bool) : Array Value := #[.int .u64 (wd t 0), .int .u64 (wd t 1), .int .u64 (wd t 2), .int .u64 (wd t 3), .int .i64 pos, .int .i64 err, .int .i64 place, .bool fin, .bool neg]
def stA (x : BR) : Array Value := stI x.set x.pos x.err x.place x.fin x.neg
def zSt : BitVec 256 := 0

theorem st_one (t : BitVec 256) (pos err place : Int) (fin neg : Bool) : ((stI t pos err place fin neg).all fun x => x.oneCell') = true := by simp [Value.oneCell']

theorem nameR_col (s : ByteArray) (fr : Nat) (x : BR) (n j : Nat) (h : bt s j = 58) : nameR s fr x (n + 1) j =
    if ofB (s.extract fr j).toList = false then badR 5 (j + 1)
      else if s.size ≤ j + 1 then badR 2 s.size
      else if bt s (j + 1) ≠ 93 then badR 3 (j + 2)
      else ⟨x.set ||| ofS (s.extract fr j).toList, j + 2, x.err, x.place, x.fin, x.neg⟩ := by rw [nameR, if_pos h]
theorem nameR_not (s : ByteArray) (fr : Nat) (x : BR) (n j : Nat) (h : ¬ bt s j = 58) : nameR s fr x (n + 1) j = if begB (s.extract fr (j + 1)) = false then badR 5 (j + 1) else nameR s fr x n (j + 1) := by rw [nameR, if_neg h]

end Go.Proofs.YtpaecjjelpjopaaDoor

/-
  DERIVED. GIVEN WITH THE SEED: THE CARDS: each row of YtkkhibamkdgffaaDoorRows.lean that lists a variable, with what it lists TIED to the program's text (the seventh form; the later family's looks); each row that meets fmt, with fmt's text TOLD by the authors' own Lean function (tested against real Go, not proved from fmt's source: count such statements apart). THE CARD IS WHAT COUNTS. Prove the row's statement (the work); the ties are given (YtkkhibamkdgffaaDoorTie.lean); close each card by the builder's one call (the guide's Derived/Test/ToyasCard.lean, 'card_holds'). Laid BY PROGRAM, IN A SANDBOX (cutbox-door.mjs). By AI agents, Wed Nov 11 2026. No macro, syntax, notation, axiom, sorry.
-/
import Derived.Test.YtkkhibamkdgffaaDoorRows
import GoSem.ClaimSeven
namespace Go.Proofs.YtkkhibamkdgffaaDoor
namespace Rows

/-- THE TIED CARD OF 'gimletlaw03.BracketBack'. -/
def bracketBackCard : Claim7 := { stood := { row := bracketBackRow, standIns := [], harness := (true, "e50e12639458604d27ab5992e31b35c0948ea8d59b753c8208846a90460b4d25"), looks := false }, kinds := [], alts := [], laidByText := true, laidKinds := [.data], laidTests := true, laidLooks := .later }
def BracketBackCardSaid : Prop := Claim7.holds Tryd.pinned (.plain (OpenSpec.ofChange bracketBackSpec)) bracketBackCard

/-- THE SECOND FORM's CARD OF 'gimletlaw03.BracketBack'. -/
def bracketBackUptoCard : Claim7 := { stood := { row := bracketBackUptoRow, standIns := [], harness := (true, "e50e12639458604d27ab5992e31b35c0948ea8d59b753c8208846a90460b4d25"), looks := false }, kinds := [], alts := [], laidByText := true, laidKinds := [.data], laidTests := true, laidLooks := .later }
def BracketBackUptoCardSaid : Prop := Claim7.holds Tryd.pinned (.plain (OpenSpec.upto bracketBackSpec)) bracketBackUptoCard
end Rows
end Go.Proofs.YtkkhibamkdgffaaDoor

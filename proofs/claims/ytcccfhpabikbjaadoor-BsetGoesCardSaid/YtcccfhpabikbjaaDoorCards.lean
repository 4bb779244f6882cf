/-
  DERIVED. GIVEN WITH THE SEED: THE CARDS: each row of YtcccfhpabikbjaaDoorRows.lean that lists a variable, with what it lists TIED to the program's text (the seventh form; the later family's looks); each row that meets fmt, with fmt's text TOLD by the authors' own Lean function (tested against real Go, not proved from fmt's source: count such statements apart). THE CARD IS WHAT COUNTS. Prove the row's statement (the work); the ties are given (YtcccfhpabikbjaaDoorTie.lean); close each card by the builder's one call (the guide's Derived/Test/ToyasCard.lean, 'card_holds'). Laid BY PROGRAM, IN A SANDBOX (cutbox-door.mjs). By AI agents, Wed Nov 11 2026. No macro, syntax, notation, axiom, sorry.
-/
import Derived.Test.YtcccfhpabikbjaaDoorRows
import GoSem.ClaimSeven
namespace Go.Proofs.YtcccfhpabikbjaaDoor
namespace Rows

/-- THE TIED CARD OF 'gimletlaw01.BsetGoes'. -/
def bsetGoesCard : Claim7 := { stood := { row := bsetGoesRow, standIns := [], harness := (true, "637ad34bbdcf5af69d348aa0fd2ac22993641ca21bde04e2f93fd21838ea29e6"), looks := false }, kinds := [], alts := [], laidByText := true, laidKinds := [.data], laidTests := true, laidLooks := .later }
def BsetGoesCardSaid : Prop := Claim7.holds Tryd.pinned (.plain (OpenSpec.ofChange bsetGoesSpec)) bsetGoesCard

/-- THE SECOND FORM's CARD OF 'gimletlaw01.BsetGoes'. -/
def bsetGoesUptoCard : Claim7 := { stood := { row := bsetGoesUptoRow, standIns := [], harness := (true, "637ad34bbdcf5af69d348aa0fd2ac22993641ca21bde04e2f93fd21838ea29e6"), looks := false }, kinds := [], alts := [], laidByText := true, laidKinds := [.data], laidTests := true, laidLooks := .later }
def BsetGoesUptoCardSaid : Prop := Claim7.holds Tryd.pinned (.plain (OpenSpec.upto bsetGoesSpec)) bsetGoesUptoCard
end Rows
end Go.Proofs.YtcccfhpabikbjaaDoor

/-
  DERIVED. GIVEN WITH THE SEED: THE CARDS: each row of YtpncomjpmilbkaaDoorRows.lean that lists a variable, with what it lists TIED to the program's text (the seventh form; the later family's looks); each row that meets fmt, with fmt's text TOLD by the authors' own Lean function (tested against real Go, not proved from fmt's source: count such statements apart). THE CARD IS WHAT COUNTS. Prove the row's statement (the work); the ties are given (YtpncomjpmilbkaaDoorTie.lean); close each card by the builder's one call (the guide's Derived/Test/ToyasCard.lean, 'card_holds'). Laid BY PROGRAM, IN A SANDBOX (cutbox-door.mjs). By AI agents, Wed Nov 11 2026. No macro, syntax, notation, axiom, sorry.
-/
import Derived.Test.YtpncomjpmilbkaaDoorRows
import GoSem.ClaimSeven
namespace Go.Proofs.YtpncomjpmilbkaaDoor
namespace Rows

/-- THE TIED CARD OF 'gimletlaw11.LowerTells'. -/
def lowerTellsCard : Claim7 := { stood := { row := lowerTellsRow, standIns := [], harness := (true, "12e533e694a71e577f0903098be7085328d4471f194466e9a56c3280146327d8"), looks := false }, kinds := [], alts := [], laidByText := true, laidKinds := [.data, .data, .data], laidTests := true, laidLooks := .later }
def LowerTellsCardSaid : Prop := Claim7.holds Tryd.pinned (.plain (OpenSpec.ofChange lowerTellsSpec)) lowerTellsCard

/-- THE TIED CARD OF 'gimletlaw11.LowerMakes'. -/
def lowerMakesCard : Claim7 := { stood := { row := lowerMakesRow, standIns := [], harness := (true, "12e533e694a71e577f0903098be7085328d4471f194466e9a56c3280146327d8"), looks := false }, kinds := [], alts := [], laidByText := true, laidKinds := [.data, .data, .data], laidTests := true, laidLooks := .later }
def LowerMakesCardSaid : Prop := Claim7.holds Tryd.pinned (.plain (OpenSpec.ofChange lowerMakesSpec)) lowerMakesCard

/-- THE TIED CARD OF 'gimletlaw11.LowerTerm'. -/
def lowerTermCard : Claim7 := { stood := { row := lowerTermRow, standIns := [], harness := (true, "12e533e694a71e577f0903098be7085328d4471f194466e9a56c3280146327d8"), looks := false }, kinds := [], alts := [], laidByText := true, laidKinds := [.data, .data, .data], laidTests := true, laidLooks := .later }
def LowerTermCardSaid : Prop := Claim7.holds Tryd.pinned (.plain (OpenSpec.ofChange lowerTermSpec)) lowerTermCard

/-- THE TIED CARD OF 'gimletlaw11.LowerParts'. -/
def lowerPartsCard : Claim7 := { stood := { row := lowerPartsRow, standIns := [], harness := (true, "12e533e694a71e577f0903098be7085328d4471f194466e9a56c3280146327d8"), looks := false }, kinds := [], alts := [], laidByText := true, laidKinds := [.data, .data, .data], laidTests := true, laidLooks := .later }
def LowerPartsCardSaid : Prop := Claim7.holds Tryd.pinned (.plain (OpenSpec.ofChange lowerPartsSpec)) lowerPartsCard

/-- THE SECOND FORM's CARD OF 'gimletlaw11.LowerTells'. -/
def lowerTellsUptoCard : Claim7 := { stood := { row := lowerTellsUptoRow, standIns := [], harness := (true, "12e533e694a71e577f0903098be7085328d4471f194466e9a56c3280146327d8"), looks := false }, kinds := [], alts := [], laidByText := true, laidKinds := [.data, .data, .data], laidTests := true, laidLooks := .later }
def LowerTellsUptoCardSaid : Prop := Claim7.holds Tryd.pinned (.plain (OpenSpec.upto lowerTellsSpec)) lowerTellsUptoCard

/-- THE SECOND FORM's CARD OF 'gimletlaw11.LowerMakes'. -/
def lowerMakesUptoCard : Claim7 := { stood := { row := lowerMakesUptoRow, standIns := [], harness := (true, "12e533e694a71e577f0903098be7085328d4471f194466e9a56c3280146327d8"), looks := false }, kinds := [], alts := [], laidByText := true, laidKinds := [.data, .data, .data], laidTests := true, laidLooks := .later }
def LowerMakesUptoCardSaid : Prop := Claim7.holds Tryd.pinned (.plain (OpenSpec.upto lowerMakesSpec)) lowerMakesUptoCard

/-- THE SECOND FORM's CARD OF 'gimletlaw11.LowerTerm'. -/
def lowerTermUptoCard : Claim7 := { stood := { row := lowerTermUptoRow, standIns := [], harness := (true, "12e533e694a71e577f0903098be7085328d4471f194466e9a56c3280146327d8"), looks := false }, kinds := [], alts := [], laidByText := true, laidKinds := [.data, .data, .data], laidTests := true, laidLooks := .later }
def LowerTermUptoCardSaid : Prop := Claim7.holds Tryd.pinned (.plain (OpenSpec.upto lowerTermSpec)) lowerTermUptoCard

/-- THE SECOND FORM's CARD OF 'gimletlaw11.LowerParts'. -/
def lowerPartsUptoCard : Claim7 := { stood := { row := lowerPartsUptoRow, standIns := [], harness := (true, "12e533e694a71e577f0903098be7085328d4471f194466e9a56c3280146327d8"), looks := false }, kinds := [], alts := [], laidByText := true, laidKinds := [.data, .data, .data], laidTests := true, laidLooks := .later }
def LowerPartsUptoCardSaid : Prop := Claim7.holds Tryd.pinned (.plain (OpenSpec.upto lowerPartsSpec)) lowerPartsUptoCard
end Rows
end Go.Proofs.YtpncomjpmilbkaaDoor

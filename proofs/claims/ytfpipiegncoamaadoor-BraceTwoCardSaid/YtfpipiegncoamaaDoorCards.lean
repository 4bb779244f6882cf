/-
  DERIVED. GIVEN WITH THE SEED: THE CARDS: each row of YtfpipiegncoamaaDoorRows.lean that lists a variable, with what it lists TIED to the program's text (the seventh form; the later family's looks); each row that meets fmt, with fmt's text TOLD by the authors' own Lean function (tested against real Go, not proved from fmt's source: count such statements apart). THE CARD IS WHAT COUNTS. Prove the row's statement (the work); the ties are given (YtfpipiegncoamaaDoorTie.lean); close each card by the builder's one call (the guide's Derived/Test/ToyasCard.lean, 'card_holds'). Laid BY PROGRAM, IN A SANDBOX (cutbox-door.mjs). By AI agents, Wed Nov 11 2026. No macro, syntax, notation, axiom, sorry.
-/
import Derived.Test.YtfpipiegncoamaaDoorRows
import GoSem.ClaimSeven
namespace Go.Proofs.YtfpipiegncoamaaDoor
namespace Rows

/-- THE TIED CARD OF 'gimletlaw04.BraceTells'. -/
def braceTellsCard : Claim7 := { stood := { row := braceTellsRow, standIns := [], harness := (true, "996f6319ff66dcdec6005c2b4647b68198828eab868fcab24cd11b6df38d05fa"), looks := false }, kinds := [], alts := [], laidByText := true, laidKinds := [.data, .data, .data], laidTests := true, laidLooks := .later }
def BraceTellsCardSaid : Prop := Claim7.holds Tryd.pinned (.plain (OpenSpec.ofChange braceTellsSpec)) braceTellsCard

/-- THE TIED CARD OF 'gimletlaw04.BraceBack'. -/
def braceBackCard : Claim7 := { stood := { row := braceBackRow, standIns := [], harness := (true, "996f6319ff66dcdec6005c2b4647b68198828eab868fcab24cd11b6df38d05fa"), looks := false }, kinds := [], alts := [], laidByText := true, laidKinds := [.data, .data, .data], laidTests := true, laidLooks := .later }
def BraceBackCardSaid : Prop := Claim7.holds Tryd.pinned (.plain (OpenSpec.ofChange braceBackSpec)) braceBackCard

/-- THE TIED CARD OF 'gimletlaw04.BraceSure'. -/
def braceSureCard : Claim7 := { stood := { row := braceSureRow, standIns := [], harness := (true, "996f6319ff66dcdec6005c2b4647b68198828eab868fcab24cd11b6df38d05fa"), looks := false }, kinds := [], alts := [], laidByText := true, laidKinds := [.data, .data, .data], laidTests := true, laidLooks := .later }
def BraceSureCardSaid : Prop := Claim7.holds Tryd.pinned (.plain (OpenSpec.ofChange braceSureSpec)) braceSureCard

/-- THE TIED CARD OF 'gimletlaw04.BraceLack'. -/
def braceLackCard : Claim7 := { stood := { row := braceLackRow, standIns := [], harness := (true, "996f6319ff66dcdec6005c2b4647b68198828eab868fcab24cd11b6df38d05fa"), looks := false }, kinds := [], alts := [], laidByText := true, laidKinds := [.data, .data, .data], laidTests := true, laidLooks := .later }
def BraceLackCardSaid : Prop := Claim7.holds Tryd.pinned (.plain (OpenSpec.ofChange braceLackSpec)) braceLackCard

/-- THE TIED CARD OF 'gimletlaw04.BraceTwo'. -/
def braceTwoCard : Claim7 := { stood := { row := braceTwoRow, standIns := [], harness := (true, "996f6319ff66dcdec6005c2b4647b68198828eab868fcab24cd11b6df38d05fa"), looks := false }, kinds := [], alts := [], laidByText := true, laidKinds := [.data, .data, .data], laidTests := true, laidLooks := .later }
def BraceTwoCardSaid : Prop := Claim7.holds Tryd.pinned (.plain (OpenSpec.ofChange braceTwoSpec)) braceTwoCard

/-- THE SECOND FORM's CARD OF 'gimletlaw04.BraceTells'. -/
def braceTellsUptoCard : Claim7 := { stood := { row := braceTellsUptoRow, standIns := [], harness := (true, "996f6319ff66dcdec6005c2b4647b68198828eab868fcab24cd11b6df38d05fa"), looks := false }, kinds := [], alts := [], laidByText := true, laidKinds := [.data, .data, .data], laidTests := true, laidLooks := .later }
def BraceTellsUptoCardSaid : Prop := Claim7.holds Tryd.pinned (.plain (OpenSpec.upto braceTellsSpec)) braceTellsUptoCard

/-- THE SECOND FORM's CARD OF 'gimletlaw04.BraceBack'. -/
def braceBackUptoCard : Claim7 := { stood := { row := braceBackUptoRow, standIns := [], harness := (true, "996f6319ff66dcdec6005c2b4647b68198828eab868fcab24cd11b6df38d05fa"), looks := false }, kinds := [], alts := [], laidByText := true, laidKinds := [.data, .data, .data], laidTests := true, laidLooks := .later }
def BraceBackUptoCardSaid : Prop := Claim7.holds Tryd.pinned (.plain (OpenSpec.upto braceBackSpec)) braceBackUptoCard

/-- THE SECOND FORM's CARD OF 'gimletlaw04.BraceSure'. -/
def braceSureUptoCard : Claim7 := { stood := { row := braceSureUptoRow, standIns := [], harness := (true, "996f6319ff66dcdec6005c2b4647b68198828eab868fcab24cd11b6df38d05fa"), looks := false }, kinds := [], alts := [], laidByText := true, laidKinds := [.data, .data, .data], laidTests := true, laidLooks := .later }
def BraceSureUptoCardSaid : Prop := Claim7.holds Tryd.pinned (.plain (OpenSpec.upto braceSureSpec)) braceSureUptoCard

/-- THE SECOND FORM's CARD OF 'gimletlaw04.BraceLack'. -/
def braceLackUptoCard : Claim7 := { stood := { row := braceLackUptoRow, standIns := [], harness := (true, "996f6319ff66dcdec6005c2b4647b68198828eab868fcab24cd11b6df38d05fa"), looks := false }, kinds := [], alts := [], laidByText := true, laidKinds := [.data, .data, .data], laidTests := true, laidLooks := .later }
def BraceLackUptoCardSaid : Prop := Claim7.holds Tryd.pinned (.plain (OpenSpec.upto braceLackSpec)) braceLackUptoCard

/-- THE SECOND FORM's CARD OF 'gimletlaw04.BraceTwo'. -/
def braceTwoUptoCard : Claim7 := { stood := { row := braceTwoUptoRow, standIns := [], harness := (true, "996f6319ff66dcdec6005c2b4647b68198828eab868fcab24cd11b6df38d05fa"), looks := false }, kinds := [], alts := [], laidByText := true, laidKinds := [.data, .data, .data], laidTests := true, laidLooks := .later }
def BraceTwoUptoCardSaid : Prop := Claim7.holds Tryd.pinned (.plain (OpenSpec.upto braceTwoSpec)) braceTwoUptoCard
end Rows
end Go.Proofs.YtfpipiegncoamaaDoor

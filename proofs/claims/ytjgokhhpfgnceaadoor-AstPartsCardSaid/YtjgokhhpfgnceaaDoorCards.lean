/-
  DERIVED. GIVEN WITH THE SEED: THE CARDS: each row of YtjgokhhpfgnceaaDoorRows.lean that lists a variable, with what it lists TIED to the program's text (the seventh form; the later family's looks); each row that meets fmt, with fmt's text TOLD by the authors' own Lean function (tested against real Go, not proved from fmt's source: count such statements apart). THE CARD IS WHAT COUNTS. Prove the row's statement (the work); the ties are given (YtjgokhhpfgnceaaDoorTie.lean); close each card by the builder's one call (the guide's Derived/Test/ToyasCard.lean, 'card_holds'). Laid BY PROGRAM, IN A SANDBOX (cutbox-door.mjs). By AI agents, Wed Nov 11 2026. No macro, syntax, notation, axiom, sorry.
-/
import Derived.Test.YtjgokhhpfgnceaaDoorRows
import GoSem.ClaimSeven
namespace Go.Proofs.YtjgokhhpfgnceaaDoor
namespace Rows

/-- THE TIED CARD OF 'gimletlaw06.AstTells'. -/
def astTellsCard : Claim7 := { stood := { row := astTellsRow, standIns := [], harness := (true, "58c9a56ff8092662793ab3b5be970e4962f722ce96eb089f644199bca7be3bd1"), looks := false }, kinds := [], alts := [], laidByText := true, laidKinds := [.data, .data, .data], laidTests := true, laidLooks := .later }
def AstTellsCardSaid : Prop := Claim7.holds Tryd.pinned (.plain (OpenSpec.ofChange astTellsSpec)) astTellsCard

/-- THE TIED CARD OF 'gimletlaw06.AstKids'. -/
def astKidsCard : Claim7 := { stood := { row := astKidsRow, standIns := [], harness := (true, "58c9a56ff8092662793ab3b5be970e4962f722ce96eb089f644199bca7be3bd1"), looks := false }, kinds := [], alts := [], laidByText := true, laidKinds := [.data, .data, .data], laidTests := true, laidLooks := .later }
def AstKidsCardSaid : Prop := Claim7.holds Tryd.pinned (.plain (OpenSpec.ofChange astKidsSpec)) astKidsCard

/-- THE TIED CARD OF 'gimletlaw06.AstNumbers'. -/
def astNumbersCard : Claim7 := { stood := { row := astNumbersRow, standIns := [], harness := (true, "58c9a56ff8092662793ab3b5be970e4962f722ce96eb089f644199bca7be3bd1"), looks := false }, kinds := [], alts := [], laidByText := true, laidKinds := [.data, .data, .data], laidTests := true, laidLooks := .later }
def AstNumbersCardSaid : Prop := Claim7.holds Tryd.pinned (.plain (OpenSpec.ofChange astNumbersSpec)) astNumbersCard

/-- THE TIED CARD OF 'gimletlaw06.AstParts'. -/
def astPartsCard : Claim7 := { stood := { row := astPartsRow, standIns := [], harness := (true, "58c9a56ff8092662793ab3b5be970e4962f722ce96eb089f644199bca7be3bd1"), looks := false }, kinds := [], alts := [], laidByText := true, laidKinds := [.data, .data, .data], laidTests := true, laidLooks := .later }
def AstPartsCardSaid : Prop := Claim7.holds Tryd.pinned (.plain (OpenSpec.ofChange astPartsSpec)) astPartsCard

/-- THE TIED CARD OF 'gimletlaw06.AstGrows'. -/
def astGrowsCard : Claim7 := { stood := { row := astGrowsRow, standIns := [], harness := (true, "58c9a56ff8092662793ab3b5be970e4962f722ce96eb089f644199bca7be3bd1"), looks := false }, kinds := [], alts := [], laidByText := true, laidKinds := [.data, .data, .data], laidTests := true, laidLooks := .later }
def AstGrowsCardSaid : Prop := Claim7.holds Tryd.pinned (.plain (OpenSpec.ofChange astGrowsSpec)) astGrowsCard

/-- THE SECOND FORM's CARD OF 'gimletlaw06.AstTells'. -/
def astTellsUptoCard : Claim7 := { stood := { row := astTellsUptoRow, standIns := [], harness := (true, "58c9a56ff8092662793ab3b5be970e4962f722ce96eb089f644199bca7be3bd1"), looks := false }, kinds := [], alts := [], laidByText := true, laidKinds := [.data, .data, .data], laidTests := true, laidLooks := .later }
def AstTellsUptoCardSaid : Prop := Claim7.holds Tryd.pinned (.plain (OpenSpec.upto astTellsSpec)) astTellsUptoCard

/-- THE SECOND FORM's CARD OF 'gimletlaw06.AstKids'. -/
def astKidsUptoCard : Claim7 := { stood := { row := astKidsUptoRow, standIns := [], harness := (true, "58c9a56ff8092662793ab3b5be970e4962f722ce96eb089f644199bca7be3bd1"), looks := false }, kinds := [], alts := [], laidByText := true, laidKinds := [.data, .data, .data], laidTests := true, laidLooks := .later }
def AstKidsUptoCardSaid : Prop := Claim7.holds Tryd.pinned (.plain (OpenSpec.upto astKidsSpec)) astKidsUptoCard

/-- THE SECOND FORM's CARD OF 'gimletlaw06.AstNumbers'. -/
def astNumbersUptoCard : Claim7 := { stood := { row := astNumbersUptoRow, standIns := [], harness := (true, "58c9a56ff8092662793ab3b5be970e4962f722ce96eb089f644199bca7be3bd1"), looks := false }, kinds := [], alts := [], laidByText := true, laidKinds := [.data, .data, .data], laidTests := true, laidLooks := .later }
def AstNumbersUptoCardSaid : Prop := Claim7.holds Tryd.pinned (.plain (OpenSpec.upto astNumbersSpec)) astNumbersUptoCard

/-- THE SECOND FORM's CARD OF 'gimletlaw06.AstParts'. -/
def astPartsUptoCard : Claim7 := { stood := { row := astPartsUptoRow, standIns := [], harness := (true, "58c9a56ff8092662793ab3b5be970e4962f722ce96eb089f644199bca7be3bd1"), looks := false }, kinds := [], alts := [], laidByText := true, laidKinds := [.data, .data, .data], laidTests := true, laidLooks := .later }
def AstPartsUptoCardSaid : Prop := Claim7.holds Tryd.pinned (.plain (OpenSpec.upto astPartsSpec)) astPartsUptoCard

/-- THE SECOND FORM's CARD OF 'gimletlaw06.AstGrows'. -/
def astGrowsUptoCard : Claim7 := { stood := { row := astGrowsUptoRow, standIns := [], harness := (true, "58c9a56ff8092662793ab3b5be970e4962f722ce96eb089f644199bca7be3bd1"), looks := false }, kinds := [], alts := [], laidByText := true, laidKinds := [.data, .data, .data], laidTests := true, laidLooks := .later }
def AstGrowsUptoCardSaid : Prop := Claim7.holds Tryd.pinned (.plain (OpenSpec.upto astGrowsSpec)) astGrowsUptoCard
end Rows
end Go.Proofs.YtjgokhhpfgnceaaDoor

/-
  DERIVED. GIVEN WITH THE SEED: THE CARDS: each row of YtohmookilchpdaaDoorRows.lean that lists a variable, with what it lists TIED to the program's text (the seventh form; the later family's looks); each row that meets fmt, with fmt's text TOLD by the authors' own Lean function (tested against real Go, not proved from fmt's source: count such statements apart). THE CARD IS WHAT COUNTS. Prove the row's statement (the work); the ties are given (YtohmookilchpdaaDoorTie.lean); close each card by the builder's one call (the guide's Derived/Test/ToyasCard.lean, 'card_holds'). Laid BY PROGRAM, IN A SANDBOX (cutbox-door.mjs). By AI agents, Wed Nov 11 2026. No macro, syntax, notation, axiom, sorry.
-/
import Derived.Test.YtohmookilchpdaaDoorRows
import GoSem.ClaimSeven
namespace Go.Proofs.YtohmookilchpdaaDoor
namespace Rows

/-- THE TIED CARD OF 'gimletlaw01.BsetTells'. -/
def bsetTellsCard : Claim7 := { stood := { row := bsetTellsRow, standIns := [], harness := (true, "8c3f7751171238ffe4974659aa9cf5bd971cde79e27e93fdb11a1377fb932873"), looks := false }, kinds := [], alts := [], laidByText := true, laidKinds := [.data], laidTests := true, laidLooks := .later }
def BsetTellsCardSaid : Prop := Claim7.holds Tryd.pinned (.plain (OpenSpec.ofChange bsetTellsSpec)) bsetTellsCard

/-- THE TIED CARD OF 'gimletlaw01.BsetGoes'. -/
def bsetGoesCard : Claim7 := { stood := { row := bsetGoesRow, standIns := [], harness := (true, "8c3f7751171238ffe4974659aa9cf5bd971cde79e27e93fdb11a1377fb932873"), looks := false }, kinds := [], alts := [], laidByText := true, laidKinds := [.data], laidTests := true, laidLooks := .later }
def BsetGoesCardSaid : Prop := Claim7.holds Tryd.pinned (.plain (OpenSpec.ofChange bsetGoesSpec)) bsetGoesCard

/-- THE TIED CARD OF 'gimletlaw01.BsetSets'. -/
def bsetSetsCard : Claim7 := { stood := { row := bsetSetsRow, standIns := [], harness := (true, "8c3f7751171238ffe4974659aa9cf5bd971cde79e27e93fdb11a1377fb932873"), looks := false }, kinds := [], alts := [], laidByText := true, laidKinds := [.data], laidTests := true, laidLooks := .later }
def BsetSetsCardSaid : Prop := Claim7.holds Tryd.pinned (.plain (OpenSpec.ofChange bsetSetsSpec)) bsetSetsCard

/-- THE TIED CARD OF 'gimletlaw01.BsetRuns'. -/
def bsetRunsCard : Claim7 := { stood := { row := bsetRunsRow, standIns := [], harness := (true, "8c3f7751171238ffe4974659aa9cf5bd971cde79e27e93fdb11a1377fb932873"), looks := false }, kinds := [], alts := [], laidByText := true, laidKinds := [.data], laidTests := true, laidLooks := .later }
def BsetRunsCardSaid : Prop := Claim7.holds Tryd.pinned (.plain (OpenSpec.ofChange bsetRunsSpec)) bsetRunsCard

/-- THE SECOND FORM's CARD OF 'gimletlaw01.BsetTells'. -/
def bsetTellsUptoCard : Claim7 := { stood := { row := bsetTellsUptoRow, standIns := [], harness := (true, "8c3f7751171238ffe4974659aa9cf5bd971cde79e27e93fdb11a1377fb932873"), looks := false }, kinds := [], alts := [], laidByText := true, laidKinds := [.data], laidTests := true, laidLooks := .later }
def BsetTellsUptoCardSaid : Prop := Claim7.holds Tryd.pinned (.plain (OpenSpec.upto bsetTellsSpec)) bsetTellsUptoCard

/-- THE SECOND FORM's CARD OF 'gimletlaw01.BsetGoes'. -/
def bsetGoesUptoCard : Claim7 := { stood := { row := bsetGoesUptoRow, standIns := [], harness := (true, "8c3f7751171238ffe4974659aa9cf5bd971cde79e27e93fdb11a1377fb932873"), looks := false }, kinds := [], alts := [], laidByText := true, laidKinds := [.data], laidTests := true, laidLooks := .later }
def BsetGoesUptoCardSaid : Prop := Claim7.holds Tryd.pinned (.plain (OpenSpec.upto bsetGoesSpec)) bsetGoesUptoCard

/-- THE SECOND FORM's CARD OF 'gimletlaw01.BsetSets'. -/
def bsetSetsUptoCard : Claim7 := { stood := { row := bsetSetsUptoRow, standIns := [], harness := (true, "8c3f7751171238ffe4974659aa9cf5bd971cde79e27e93fdb11a1377fb932873"), looks := false }, kinds := [], alts := [], laidByText := true, laidKinds := [.data], laidTests := true, laidLooks := .later }
def BsetSetsUptoCardSaid : Prop := Claim7.holds Tryd.pinned (.plain (OpenSpec.upto bsetSetsSpec)) bsetSetsUptoCard

/-- THE SECOND FORM's CARD OF 'gimletlaw01.BsetRuns'. -/
def bsetRunsUptoCard : Claim7 := { stood := { row := bsetRunsUptoRow, standIns := [], harness := (true, "8c3f7751171238ffe4974659aa9cf5bd971cde79e27e93fdb11a1377fb932873"), looks := false }, kinds := [], alts := [], laidByText := true, laidKinds := [.data], laidTests := true, laidLooks := .later }
def BsetRunsUptoCardSaid : Prop := Claim7.holds Tryd.pinned (.plain (OpenSpec.upto bsetRunsSpec)) bsetRunsUptoCard
end Rows
end Go.Proofs.YtohmookilchpdaaDoor

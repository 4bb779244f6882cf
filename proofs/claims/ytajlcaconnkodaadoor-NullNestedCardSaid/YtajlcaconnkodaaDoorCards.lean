/-
  DERIVED. GIVEN WITH THE SEED: THE CARDS: each row of YtajlcaconnkodaaDoorRows.lean that lists a variable, with what it lists TIED to the program's text (the seventh form; the later family's looks); each row that meets fmt, with fmt's text TOLD by the authors' own Lean function (tested against real Go, not proved from fmt's source: count such statements apart). THE CARD IS WHAT COUNTS. Prove the row's statement (the work); the ties are given (YtajlcaconnkodaaDoorTie.lean); close each card by the builder's one call (the guide's Derived/Test/ToyasCard.lean, 'card_holds'). Laid BY PROGRAM, IN A SANDBOX (cutbox-door.mjs). By AI agents, Wed Nov 11 2026. No macro, syntax, notation, axiom, sorry.
-/
import Derived.Test.YtajlcaconnkodaaDoorRows
import GoSem.ClaimSeven
namespace Go.Proofs.YtajlcaconnkodaaDoor
namespace Rows

/-- THE TIED CARD OF 'gimletlaw12.NullTells'. -/
def nullTellsCard : Claim7 := { stood := { row := nullTellsRow, standIns := [], harness := (true, "9e8219a74e418a87043440e39be00d1e157eda3a89a3b94b836dea5df4370710"), looks := false }, kinds := [], alts := [], laidByText := true, laidKinds := [.data], laidTests := true, laidLooks := .later }
def NullTellsCardSaid : Prop := Claim7.holds Tryd.pinned (.plain (OpenSpec.ofChange nullTellsSpec)) nullTellsCard

/-- THE TIED CARD OF 'gimletlaw12.NullWord'. -/
def nullWordCard : Claim7 := { stood := { row := nullWordRow, standIns := [], harness := (true, "9e8219a74e418a87043440e39be00d1e157eda3a89a3b94b836dea5df4370710"), looks := false }, kinds := [], alts := [], laidByText := true, laidKinds := [.data], laidTests := true, laidLooks := .later }
def NullWordCardSaid : Prop := Claim7.holds Tryd.pinned (.plain (OpenSpec.ofChange nullWordSpec)) nullWordCard

/-- THE TIED CARD OF 'gimletlaw12.NullNested'. -/
def nullNestedCard : Claim7 := { stood := { row := nullNestedRow, standIns := [], harness := (true, "9e8219a74e418a87043440e39be00d1e157eda3a89a3b94b836dea5df4370710"), looks := false }, kinds := [], alts := [], laidByText := true, laidKinds := [.data], laidTests := true, laidLooks := .later }
def NullNestedCardSaid : Prop := Claim7.holds Tryd.pinned (.plain (OpenSpec.ofChange nullNestedSpec)) nullNestedCard

/-- THE SECOND FORM's CARD OF 'gimletlaw12.NullTells'. -/
def nullTellsUptoCard : Claim7 := { stood := { row := nullTellsUptoRow, standIns := [], harness := (true, "9e8219a74e418a87043440e39be00d1e157eda3a89a3b94b836dea5df4370710"), looks := false }, kinds := [], alts := [], laidByText := true, laidKinds := [.data], laidTests := true, laidLooks := .later }
def NullTellsUptoCardSaid : Prop := Claim7.holds Tryd.pinned (.plain (OpenSpec.upto nullTellsSpec)) nullTellsUptoCard

/-- THE SECOND FORM's CARD OF 'gimletlaw12.NullWord'. -/
def nullWordUptoCard : Claim7 := { stood := { row := nullWordUptoRow, standIns := [], harness := (true, "9e8219a74e418a87043440e39be00d1e157eda3a89a3b94b836dea5df4370710"), looks := false }, kinds := [], alts := [], laidByText := true, laidKinds := [.data], laidTests := true, laidLooks := .later }
def NullWordUptoCardSaid : Prop := Claim7.holds Tryd.pinned (.plain (OpenSpec.upto nullWordSpec)) nullWordUptoCard

/-- THE SECOND FORM's CARD OF 'gimletlaw12.NullNested'. -/
def nullNestedUptoCard : Claim7 := { stood := { row := nullNestedUptoRow, standIns := [], harness := (true, "9e8219a74e418a87043440e39be00d1e157eda3a89a3b94b836dea5df4370710"), looks := false }, kinds := [], alts := [], laidByText := true, laidKinds := [.data], laidTests := true, laidLooks := .later }
def NullNestedUptoCardSaid : Prop := Claim7.holds Tryd.pinned (.plain (OpenSpec.upto nullNestedSpec)) nullNestedUptoCard
end Rows
end Go.Proofs.YtajlcaconnkodaaDoor

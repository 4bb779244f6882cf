/-
  DERIVED. GIVEN WITH THE SEED: THE CARDS: each row of YtpaecjjelpjopaaDoorRows.lean that lists a variable, with what it lists TIED to the program's text (the seventh form; the later family's looks); each row that meets fmt, with fmt's text TOLD by the authors' own Lean function (tested against real Go, not proved from fmt's source: count such statements apart). THE CARD IS WHAT COUNTS. Prove the row's statement (the work); the ties are given (YtpaecjjelpjopaaDoorTie.lean); close each card by the builder's one call (the guide's Derived/Test/ToyasCard.lean, 'card_holds'). Laid BY PROGRAM, IN A SANDBOX (cutbox-door.mjs). By AI agents, Wed Nov 11 2026. No macro, syntax, notation, axiom, sorry.
-/
import Derived.Test.YtpaecjjelpjopaaDoorRows
import GoSem.ClaimSeven
namespace Go.Proofs.YtpaecjjelpjopaaDoor
namespace Rows

/-- THE TIED CARD OF 'gimletlaw05.LexLack'. -/
def lexLackCard : Claim7 := { stood := { row := lexLackRow, standIns := [], harness := (true, "28df9917457d514a92ca6f261a6e0ae08754b7064a7d02f94b08c62cef0d0de8"), looks := false }, kinds := [], alts := [], laidByText := true, laidKinds := [.data], laidTests := true, laidLooks := .later }
def LexLackCardSaid : Prop := Claim7.holds Tryd.pinned (.plain (OpenSpec.ofChange lexLackSpec)) lexLackCard

/-- THE TIED CARD OF 'gimletlaw05.LexBytes'. -/
def lexBytesCard : Claim7 := { stood := { row := lexBytesRow, standIns := [], harness := (true, "28df9917457d514a92ca6f261a6e0ae08754b7064a7d02f94b08c62cef0d0de8"), looks := false }, kinds := [], alts := [], laidByText := true, laidKinds := [.data], laidTests := true, laidLooks := .later }
def LexBytesCardSaid : Prop := Claim7.holds Tryd.pinned (.plain (OpenSpec.ofChange lexBytesSpec)) lexBytesCard

/-- THE SECOND FORM's CARD OF 'gimletlaw05.LexLack'. -/
def lexLackUptoCard : Claim7 := { stood := { row := lexLackUptoRow, standIns := [], harness := (true, "28df9917457d514a92ca6f261a6e0ae08754b7064a7d02f94b08c62cef0d0de8"), looks := false }, kinds := [], alts := [], laidByText := true, laidKinds := [.data], laidTests := true, laidLooks := .later }
def LexLackUptoCardSaid : Prop := Claim7.holds Tryd.pinned (.plain (OpenSpec.upto lexLackSpec)) lexLackUptoCard

/-- THE SECOND FORM's CARD OF 'gimletlaw05.LexBytes'. -/
def lexBytesUptoCard : Claim7 := { stood := { row := lexBytesUptoRow, standIns := [], harness := (true, "28df9917457d514a92ca6f261a6e0ae08754b7064a7d02f94b08c62cef0d0de8"), looks := false }, kinds := [], alts := [], laidByText := true, laidKinds := [.data], laidTests := true, laidLooks := .later }
def LexBytesUptoCardSaid : Prop := Claim7.holds Tryd.pinned (.plain (OpenSpec.upto lexBytesSpec)) lexBytesUptoCard
end Rows
end Go.Proofs.YtpaecjjelpjopaaDoor

/-
  DERIVED. GIVEN WITH THE SEED: THE CARDS: each row of YtdpkhliojbeglaaDoorRows.lean that lists a variable, with what it lists TIED to the program's text (the seventh form; the later family's looks); each row that meets fmt, with fmt's text TOLD by the authors' own Lean function (tested against real Go, not proved from fmt's source: count such statements apart). THE CARD IS WHAT COUNTS. Prove the row's statement (the work); the ties are given (YtdpkhliojbeglaaDoorTie.lean); close each card by the builder's one call (the guide's Derived/Test/ToyasCard.lean, 'card_holds'). Laid BY PROGRAM, IN A SANDBOX (cutbox-door.mjs). By AI agents, Wed Nov 11 2026. No macro, syntax, notation, axiom, sorry.
-/
import Derived.Test.YtdpkhliojbeglaaDoorRows
import GoSem.ClaimSeven
namespace Go.Proofs.YtdpkhliojbeglaaDoor
namespace Rows

/-- THE TIED CARD OF 'gimletlaw15.LeastTells'. -/
def leastTellsCard : Claim7 := { stood := { row := leastTellsRow, standIns := [], harness := (true, "6878fd09fed0c3405f7a77b372f0644e1ba403fd1b56b08cd12cb48eb2fbcfcb"), looks := false }, kinds := [], alts := [], laidByText := true, laidKinds := [.data], laidTests := true, laidLooks := .later }
def LeastTellsCardSaid : Prop := Claim7.holds Tryd.pinned (.plain (OpenSpec.ofChange leastTellsSpec)) leastTellsCard

/-- THE TIED CARD OF 'gimletlaw15.LeastFinds'. -/
def leastFindsCard : Claim7 := { stood := { row := leastFindsRow, standIns := [], harness := (true, "6878fd09fed0c3405f7a77b372f0644e1ba403fd1b56b08cd12cb48eb2fbcfcb"), looks := false }, kinds := [], alts := [], laidByText := true, laidKinds := [.data], laidTests := true, laidLooks := .later }
def LeastFindsCardSaid : Prop := Claim7.holds Tryd.pinned (.plain (OpenSpec.ofChange leastFindsSpec)) leastFindsCard

/-- THE TIED CARD OF 'gimletlaw15.LeastAhead'. -/
def leastAheadCard : Claim7 := { stood := { row := leastAheadRow, standIns := [], harness := (true, "6878fd09fed0c3405f7a77b372f0644e1ba403fd1b56b08cd12cb48eb2fbcfcb"), looks := false }, kinds := [], alts := [], laidByText := true, laidKinds := [.data], laidTests := true, laidLooks := .later }
def LeastAheadCardSaid : Prop := Claim7.holds Tryd.pinned (.plain (OpenSpec.ofChange leastAheadSpec)) leastAheadCard

/-- THE TIED CARD OF 'gimletlaw15.LeastFirst'. -/
def leastFirstCard : Claim7 := { stood := { row := leastFirstRow, standIns := [], harness := (true, "6878fd09fed0c3405f7a77b372f0644e1ba403fd1b56b08cd12cb48eb2fbcfcb"), looks := false }, kinds := [], alts := [], laidByText := true, laidKinds := [.data], laidTests := true, laidLooks := .later }
def LeastFirstCardSaid : Prop := Claim7.holds Tryd.pinned (.plain (OpenSpec.ofChange leastFirstSpec)) leastFirstCard

/-- THE TIED CARD OF 'gimletlaw15.LeastWord'. -/
def leastWordCard : Claim7 := { stood := { row := leastWordRow, standIns := [], harness := (true, "6878fd09fed0c3405f7a77b372f0644e1ba403fd1b56b08cd12cb48eb2fbcfcb"), looks := false }, kinds := [], alts := [], laidByText := true, laidKinds := [.data], laidTests := true, laidLooks := .later }
def LeastWordCardSaid : Prop := Claim7.holds Tryd.pinned (.plain (OpenSpec.ofChange leastWordSpec)) leastWordCard

/-- THE SECOND FORM's CARD OF 'gimletlaw15.LeastTells'. -/
def leastTellsUptoCard : Claim7 := { stood := { row := leastTellsUptoRow, standIns := [], harness := (true, "6878fd09fed0c3405f7a77b372f0644e1ba403fd1b56b08cd12cb48eb2fbcfcb"), looks := false }, kinds := [], alts := [], laidByText := true, laidKinds := [.data], laidTests := true, laidLooks := .later }
def LeastTellsUptoCardSaid : Prop := Claim7.holds Tryd.pinned (.plain (OpenSpec.upto leastTellsSpec)) leastTellsUptoCard

/-- THE SECOND FORM's CARD OF 'gimletlaw15.LeastFinds'. -/
def leastFindsUptoCard : Claim7 := { stood := { row := leastFindsUptoRow, standIns := [], harness := (true, "6878fd09fed0c3405f7a77b372f0644e1ba403fd1b56b08cd12cb48eb2fbcfcb"), looks := false }, kinds := [], alts := [], laidByText := true, laidKinds := [.data], laidTests := true, laidLooks := .later }
def LeastFindsUptoCardSaid : Prop := Claim7.holds Tryd.pinned (.plain (OpenSpec.upto leastFindsSpec)) leastFindsUptoCard

/-- THE SECOND FORM's CARD OF 'gimletlaw15.LeastAhead'. -/
def leastAheadUptoCard : Claim7 := { stood := { row := leastAheadUptoRow, standIns := [], harness := (true, "6878fd09fed0c3405f7a77b372f0644e1ba403fd1b56b08cd12cb48eb2fbcfcb"), looks := false }, kinds := [], alts := [], laidByText := true, laidKinds := [.data], laidTests := true, laidLooks := .later }
def LeastAheadUptoCardSaid : Prop := Claim7.holds Tryd.pinned (.plain (OpenSpec.upto leastAheadSpec)) leastAheadUptoCard

/-- THE SECOND FORM's CARD OF 'gimletlaw15.LeastFirst'. -/
def leastFirstUptoCard : Claim7 := { stood := { row := leastFirstUptoRow, standIns := [], harness := (true, "6878fd09fed0c3405f7a77b372f0644e1ba403fd1b56b08cd12cb48eb2fbcfcb"), looks := false }, kinds := [], alts := [], laidByText := true, laidKinds := [.data], laidTests := true, laidLooks := .later }
def LeastFirstUptoCardSaid : Prop := Claim7.holds Tryd.pinned (.plain (OpenSpec.upto leastFirstSpec)) leastFirstUptoCard

/-- THE SECOND FORM's CARD OF 'gimletlaw15.LeastWord'. -/
def leastWordUptoCard : Claim7 := { stood := { row := leastWordUptoRow, standIns := [], harness := (true, "6878fd09fed0c3405f7a77b372f0644e1ba403fd1b56b08cd12cb48eb2fbcfcb"), looks := false }, kinds := [], alts := [], laidByText := true, laidKinds := [.data], laidTests := true, laidLooks := .later }
def LeastWordUptoCardSaid : Prop := Claim7.holds Tryd.pinned (.plain (OpenSpec.upto leastWordSpec)) leastWordUptoCard
end Rows
end Go.Proofs.YtdpkhliojbeglaaDoor

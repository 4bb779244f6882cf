/-
  No cell of these rows narrows 'for every input' (looked for: loops, veiled, ifaces, maps, wideKeys, modest, calm, conditions, laid).
  DERIVED. THE GIVEN ROWS OF THIS SEAT. 4 by the template 'for every input the law returns true; each argument reads behind the call as it read before'; 0 by the template 'total and deterministic' (their statements: YtkkhibamkdgffaaTotals.lean).
  GIVEN WITH THE SEED: the statements are not yours to turn. If you find one false, say at which input.
  Laid BY PROGRAM, IN A SANDBOX (cutbox-rows.mjs): the forced cells as the released guide's own fill.sh prints them over the translation 165093c33ab9ddf1… (all of the seat's roots in one cut). By AI agents, Wed Nov 11 2026. No macro, syntax, notation, axiom, sorry.
-/
import Derived.Test.YtkkhibamkdgffaaChecked
import GoSem.Claim
import GoSem.ClaimJoined
import GoSem.ClaimMapViews
import Derived.JoinedTies
import Derived.KernelRfl
namespace Go.Proofs.Ytkkhibamkdgffaa
/- THE CELL 'sum', in the pinned program and in every row, IS THE sha256 OF THE DUMP (.gsa) THAT YtkkhibamkdgffaaProg.lean LOADS. Nothing in Lean hashes anything: it is a label: what it is worth is what the hold of that sum in a sandbox is worth. -/
noncomputable def Try.pinned : Pinned := { name := "ytkkhibamkdgffaa", sum := "165093c33ab9ddf1c6b34116a4df327bc054ec2ccb16c77c5a73b7e76a9c1dd3", checked := Try.checked }
namespace Rows
def none {H : Type} : Left H := { results := [], args := [] }

/-- 'gimletlaw03.BracketTells': WHATEVER THE INPUT: true; the input reads as it did. -/
def bracketTellsSpec : ChangeSpec := { name := "bracketTells", fn := fun _ => fun
  | [d1, d2] => { results := [.lit (.bool true)], args := [d1, d2] }
  | _ => none }
def bracketTellsRow : OpenClaim := { program := "ytkkhibamkdgffaa", sum := "165093c33ab9ddf1c6b34116a4df327bc054ec2ccb16c77c5a73b7e76a9c1dd3", func := "gimlet/gimletlaw03.BracketTells", spec := "bracketTells", inPlace := ["internal/bytealg.IndexByteString"], unfollowed := true, recurses := true, apart := false }
def BracketTellsSaid : Prop := bracketTellsRow.holds Try.pinned (OpenSpec.ofChange bracketTellsSpec)

/-- ITS FALSE NEIGHBOUR: 'it returns false'. Refute it at one input. -/
def bracketTellsWrong : ChangeSpec := { name := "bracketTells", fn := fun _ => fun
  | [d1, d2] => { results := [.lit (.bool false)], args := [d1, d2] }
  | _ => none }
def BracketTellsWrongFalsely : Prop := bracketTellsRow.holds Try.pinned (OpenSpec.ofChange bracketTellsWrong)

/-- 'gimletlaw03.BracketSure': WHATEVER THE INPUT: true; the input reads as it did. -/
def bracketSureSpec : ChangeSpec := { name := "bracketSure", fn := fun _ => fun
  | [d1, d2, d3] => { results := [.lit (.bool true)], args := [d1, d2, d3] }
  | _ => none }
def bracketSureRow : OpenClaim := { program := "ytkkhibamkdgffaa", sum := "165093c33ab9ddf1c6b34116a4df327bc054ec2ccb16c77c5a73b7e76a9c1dd3", func := "gimlet/gimletlaw03.BracketSure", spec := "bracketSure", inPlace := ["internal/bytealg.IndexByteString"], unfollowed := true, recurses := true, apart := false }
def BracketSureSaid : Prop := bracketSureRow.holds Try.pinned (OpenSpec.ofChange bracketSureSpec)

/-- ITS FALSE NEIGHBOUR: 'it returns false'. Refute it at one input. -/
def bracketSureWrong : ChangeSpec := { name := "bracketSure", fn := fun _ => fun
  | [d1, d2, d3] => { results := [.lit (.bool false)], args := [d1, d2, d3] }
  | _ => none }
def BracketSureWrongFalsely : Prop := bracketSureRow.holds Try.pinned (OpenSpec.ofChange bracketSureWrong)

/-- 'gimletlaw03.BracketLack': WHATEVER THE INPUT: true; the input reads as it did. -/
def bracketLackSpec : ChangeSpec := { name := "bracketLack", fn := fun _ => fun
  | [d1, d2] => { results := [.lit (.bool true)], args := [d1, d2] }
  | _ => none }
def bracketLackRow : OpenClaim := { program := "ytkkhibamkdgffaa", sum := "165093c33ab9ddf1c6b34116a4df327bc054ec2ccb16c77c5a73b7e76a9c1dd3", func := "gimlet/gimletlaw03.BracketLack", spec := "bracketLack", inPlace := ["internal/bytealg.IndexByteString"], unfollowed := true, recurses := true, apart := false }
def BracketLackSaid : Prop := bracketLackRow.holds Try.pinned (OpenSpec.ofChange bracketLackSpec)

/-- ITS FALSE NEIGHBOUR: 'it returns false'. Refute it at one input. -/
def bracketLackWrong : ChangeSpec := { name := "bracketLack", fn := fun _ => fun
  | [d1, d2] => { results := [.lit (.bool false)], args := [d1, d2] }
  | _ => none }
def BracketLackWrongFalsely : Prop := bracketLackRow.holds Try.pinned (OpenSpec.ofChange bracketLackWrong)

/-- 'gimletlaw03.BracketPlaces': WHATEVER THE INPUT: true; the input reads as it did. -/
def bracketPlacesSpec : ChangeSpec := { name := "bracketPlaces", fn := fun _ => fun
  | [d1, d2, d3] => { results := [.lit (.bool true)], args := [d1, d2, d3] }
  | _ => none }
def bracketPlacesRow : OpenClaim := { program := "ytkkhibamkdgffaa", sum := "165093c33ab9ddf1c6b34116a4df327bc054ec2ccb16c77c5a73b7e76a9c1dd3", func := "gimlet/gimletlaw03.BracketPlaces", spec := "bracketPlaces", inPlace := ["internal/bytealg.IndexByteString"], unfollowed := true, recurses := true, apart := false }
def BracketPlacesSaid : Prop := bracketPlacesRow.holds Try.pinned (OpenSpec.ofChange bracketPlacesSpec)

/-- ITS FALSE NEIGHBOUR: 'it returns false'. Refute it at one input. -/
def bracketPlacesWrong : ChangeSpec := { name := "bracketPlaces", fn := fun _ => fun
  | [d1, d2, d3] => { results := [.lit (.bool false)], args := [d1, d2, d3] }
  | _ => none }
def BracketPlacesWrongFalsely : Prop := bracketPlacesRow.holds Try.pinned (OpenSpec.ofChange bracketPlacesWrong)

/- THE SECOND FORM. 'bulk': how many values and letters a reading holds, each counted each time it is reached (what is shared counts as often as it is met; a slice's spare places count too). A statement '..UptoSaid' is the law's where the arguments, and the package variables that the reading takes, are together of bulk at most 1048576: NARROWER than '..Said'. Prove '..Said' where nothing that the law and all that it calls make is longer than what came in: it says more and counts as full. Else prove '..UptoSaid'. A law counts once. -/
mutual
def uptoBulk {H : Type} : DataW H → Nat
  | .lit (.string bytes) => bytes.length + 1
  | .lit _ => 1
  | .nil => 1
  | .ptr d => uptoBulk d + 1
  | .slice elems spare => uptoBulkAll elems + uptoBulkAll spare + 1
  | .agg parts => uptoBulkAll parts + 1
  | .iface _ d => uptoBulk d + 1
  | .map entries => uptoBulkEntries entries + 1
  | .held _ => 1
def uptoBulkAll {H : Type} : List (DataW H) → Nat
  | [] => 0
  | d :: r => uptoBulk d + uptoBulkAll r
def uptoBulkEntries {H : Type} : List (Lit × DataW H) → Nat
  | [] => 0
  | x :: r => uptoBulkEntry x + uptoBulkEntries r
def uptoBulkEntry {H : Type} : Lit × DataW H → Nat
  | (.string bytes, d) => bytes.length + uptoBulk d + 1
  | (_, d) => uptoBulk d + 1
 end
def uptoSmall : (H : Type) → List (DataW H) → Bool := fun _ ds => decide (uptoBulkAll ds ≤ 1048576)
def OpenSpec.upto (s : _root_.Go.ChangeSpec) : _root_.Go.OpenSpec := { _root_.Go.OpenSpec.ofChange s with cond := some uptoSmall }

/-- 'gimletlaw03.BracketTells', WHERE WHAT IT READS IS OF BULK AT MOST 1048576: true; the input reads as it did. -/
def bracketTellsUptoRow : OpenClaim := { program := "ytkkhibamkdgffaa", sum := "165093c33ab9ddf1c6b34116a4df327bc054ec2ccb16c77c5a73b7e76a9c1dd3", func := "gimlet/gimletlaw03.BracketTells", spec := "bracketTells", inPlace := ["internal/bytealg.IndexByteString"], unfollowed := true, recurses := true, apart := false, narrowed := true }
def BracketTellsUptoSaid : Prop := bracketTellsUptoRow.holds Try.pinned (OpenSpec.upto bracketTellsSpec)

/-- 'gimletlaw03.BracketSure', WHERE WHAT IT READS IS OF BULK AT MOST 1048576: true; the input reads as it did. -/
def bracketSureUptoRow : OpenClaim := { program := "ytkkhibamkdgffaa", sum := "165093c33ab9ddf1c6b34116a4df327bc054ec2ccb16c77c5a73b7e76a9c1dd3", func := "gimlet/gimletlaw03.BracketSure", spec := "bracketSure", inPlace := ["internal/bytealg.IndexByteString"], unfollowed := true, recurses := true, apart := false, narrowed := true }
def BracketSureUptoSaid : Prop := bracketSureUptoRow.holds Try.pinned (OpenSpec.upto bracketSureSpec)

/-- 'gimletlaw03.BracketLack', WHERE WHAT IT READS IS OF BULK AT MOST 1048576: true; the input reads as it did. -/
def bracketLackUptoRow : OpenClaim := { program := "ytkkhibamkdgffaa", sum := "165093c33ab9ddf1c6b34116a4df327bc054ec2ccb16c77c5a73b7e76a9c1dd3", func := "gimlet/gimletlaw03.BracketLack", spec := "bracketLack", inPlace := ["internal/bytealg.IndexByteString"], unfollowed := true, recurses := true, apart := false, narrowed := true }
def BracketLackUptoSaid : Prop := bracketLackUptoRow.holds Try.pinned (OpenSpec.upto bracketLackSpec)

/-- 'gimletlaw03.BracketPlaces', WHERE WHAT IT READS IS OF BULK AT MOST 1048576: true; the input reads as it did. -/
def bracketPlacesUptoRow : OpenClaim := { program := "ytkkhibamkdgffaa", sum := "165093c33ab9ddf1c6b34116a4df327bc054ec2ccb16c77c5a73b7e76a9c1dd3", func := "gimlet/gimletlaw03.BracketPlaces", spec := "bracketPlaces", inPlace := ["internal/bytealg.IndexByteString"], unfollowed := true, recurses := true, apart := false, narrowed := true }
def BracketPlacesUptoSaid : Prop := bracketPlacesUptoRow.holds Try.pinned (OpenSpec.upto bracketPlacesSpec)

end Rows
end Go.Proofs.Ytkkhibamkdgffaa

/-
  No cell of these rows narrows 'for every input' (looked for: loops, veiled, ifaces, maps, wideKeys, modest, calm, conditions, laid).
  DERIVED. THE GIVEN ROWS OF THIS SEAT. 4 by the template 'for every input the law returns true; each argument reads behind the call as it read before'; 0 by the template 'total and deterministic' (their statements: YtooolhekihijlaaTotals.lean).
  GIVEN WITH THE SEED: the statements are not yours to turn. If you find one false, say at which input.
  Laid BY PROGRAM, IN A SANDBOX (cutbox-rows.mjs): the forced cells as the released guide's own fill.sh prints them over the translation a7c5d15ec00af24e… (all of the seat's roots in one cut). By AI agents, Wed Nov 11 2026. No macro, syntax, notation, axiom, sorry.
-/
import Derived.Test.YtooolhekihijlaaChecked
import GoSem.Claim
import GoSem.ClaimJoined
import GoSem.ClaimMapViews
import Derived.JoinedTies
import Derived.KernelRfl
namespace Go.Proofs.Ytooolhekihijlaa
/- THE CELL 'sum', in the pinned program and in every row, IS THE sha256 OF THE DUMP (.gsa) THAT YtooolhekihijlaaProg.lean LOADS. Nothing in Lean hashes anything: it is a label: what it is worth is what the hold of that sum in a sandbox is worth. -/
noncomputable def Try.pinned : Pinned := { name := "ytooolhekihijlaa", sum := "a7c5d15ec00af24e2ffa349ae5743b5707f44434799ec72520db7ac2f001fc7e", checked := Try.checked }
namespace Rows
def none {H : Type} : Left H := { results := [], args := [] }

/-- 'gimletlaw14.TreeAhead': WHATEVER THE INPUT: true; the input reads as it did. -/
def treeAheadSpec : ChangeSpec := { name := "treeAhead", fn := fun _ => fun
  | [d1, d2] => { results := [.lit (.bool true)], args := [d1, d2] }
  | _ => none }
def treeAheadRow : OpenClaim := { program := "ytooolhekihijlaa", sum := "a7c5d15ec00af24e2ffa349ae5743b5707f44434799ec72520db7ac2f001fc7e", func := "gimlet/gimletlaw14.TreeAhead", spec := "treeAhead", unfollowed := true, recurses := true, apart := false }
def TreeAheadSaid : Prop := treeAheadRow.holds Try.pinned (OpenSpec.ofChange treeAheadSpec)

/-- ITS FALSE NEIGHBOUR: 'it returns false'. Refute it at one input. -/
def treeAheadWrong : ChangeSpec := { name := "treeAhead", fn := fun _ => fun
  | [d1, d2] => { results := [.lit (.bool false)], args := [d1, d2] }
  | _ => none }
def TreeAheadWrongFalsely : Prop := treeAheadRow.holds Try.pinned (OpenSpec.ofChange treeAheadWrong)

/-- 'gimletlaw14.TreeOrder': WHATEVER THE INPUT: true; the input reads as it did. -/
def treeOrderSpec : ChangeSpec := { name := "treeOrder", fn := fun _ => fun
  | [d1, d2, d3] => { results := [.lit (.bool true)], args := [d1, d2, d3] }
  | _ => none }
def treeOrderRow : OpenClaim := { program := "ytooolhekihijlaa", sum := "a7c5d15ec00af24e2ffa349ae5743b5707f44434799ec72520db7ac2f001fc7e", func := "gimlet/gimletlaw14.TreeOrder", spec := "treeOrder", unfollowed := true, recurses := true, apart := false }
def TreeOrderSaid : Prop := treeOrderRow.holds Try.pinned (OpenSpec.ofChange treeOrderSpec)

/-- ITS FALSE NEIGHBOUR: 'it returns false'. Refute it at one input. -/
def treeOrderWrong : ChangeSpec := { name := "treeOrder", fn := fun _ => fun
  | [d1, d2, d3] => { results := [.lit (.bool false)], args := [d1, d2, d3] }
  | _ => none }
def TreeOrderWrongFalsely : Prop := treeOrderRow.holds Try.pinned (OpenSpec.ofChange treeOrderWrong)

/-- 'gimletlaw14.TreeFrames': WHATEVER THE INPUT: true; the input reads as it did. -/
def treeFramesSpec : ChangeSpec := { name := "treeFrames", fn := fun _ => fun
  | [d1, d2, d3] => { results := [.lit (.bool true)], args := [d1, d2, d3] }
  | _ => none }
def treeFramesRow : OpenClaim := { program := "ytooolhekihijlaa", sum := "a7c5d15ec00af24e2ffa349ae5743b5707f44434799ec72520db7ac2f001fc7e", func := "gimlet/gimletlaw14.TreeFrames", spec := "treeFrames", unfollowed := true, recurses := true, apart := false }
def TreeFramesSaid : Prop := treeFramesRow.holds Try.pinned (OpenSpec.ofChange treeFramesSpec)

/-- ITS FALSE NEIGHBOUR: 'it returns false'. Refute it at one input. -/
def treeFramesWrong : ChangeSpec := { name := "treeFrames", fn := fun _ => fun
  | [d1, d2, d3] => { results := [.lit (.bool false)], args := [d1, d2, d3] }
  | _ => none }
def TreeFramesWrongFalsely : Prop := treeFramesRow.holds Try.pinned (OpenSpec.ofChange treeFramesWrong)

/-- 'gimletlaw14.TreeWithin': WHATEVER THE INPUT: true; the input reads as it did. -/
def treeWithinSpec : ChangeSpec := { name := "treeWithin", fn := fun _ => fun
  | [d1, d2, d3] => { results := [.lit (.bool true)], args := [d1, d2, d3] }
  | _ => none }
def treeWithinRow : OpenClaim := { program := "ytooolhekihijlaa", sum := "a7c5d15ec00af24e2ffa349ae5743b5707f44434799ec72520db7ac2f001fc7e", func := "gimlet/gimletlaw14.TreeWithin", spec := "treeWithin", unfollowed := true, recurses := true, apart := false }
def TreeWithinSaid : Prop := treeWithinRow.holds Try.pinned (OpenSpec.ofChange treeWithinSpec)

/-- ITS FALSE NEIGHBOUR: 'it returns false'. Refute it at one input. -/
def treeWithinWrong : ChangeSpec := { name := "treeWithin", fn := fun _ => fun
  | [d1, d2, d3] => { results := [.lit (.bool false)], args := [d1, d2, d3] }
  | _ => none }
def TreeWithinWrongFalsely : Prop := treeWithinRow.holds Try.pinned (OpenSpec.ofChange treeWithinWrong)

/- THE SECOND FORM. 'bulk': how many values and letters a reading holds, each counted each time it is reached (what is shared counts as often as it is met; a slice's spare places count too). A statement '..UptoSaid' is the law's where the arguments, and the package variables that the reading takes, are together of bulk at most 1048576: NARROWER than '..Said'. Prove '..Said' where nothing that the law and all that it calls make is longer than what came in: it says more and counts as full. Else prove '..UptoSaid'. A law counts once. -/
mutual
def uptoBulk {H : Type} : DataW H → Nat
  | .lit (.string bytes) => bytes.length + 1
  | .lit _ => 1
  | .nil => 1
  | .ptr d => uptoBulk d + 1
  | .slice elems spare => uptoBulkAll elems + uptoBulkAll spare + 1
  | .agg parts => uptoBulkAll parts + 1
  | .iface _ d => uptoBulk d + 1
  | .map entries => uptoBulkEntries entries + 1
  | .held _ => 1
def uptoBulkAll {H : Type} : List (DataW H) → Nat
  | [] => 0
  | d :: r => uptoBulk d + uptoBulkAll r
def uptoBulkEntries {H : Type} : List (Lit × DataW H) → Nat
  | [] => 0
  | x :: r => uptoBulkEntry x + uptoBulkEntries r
def uptoBulkEntry {H : Type} : Lit × DataW H → Nat
  | (.string bytes, d) => bytes.length + uptoBulk d + 1
  | (_, d) => uptoBulk d + 1
 end
def uptoSmall : (H : Type) → List (DataW H) → Bool := fun _ ds => decide (uptoBulkAll ds ≤ 1048576)
def OpenSpec.upto (s : _root_.Go.ChangeSpec) : _root_.Go.OpenSpec := { _root_.Go.OpenSpec.ofChange s with cond := some uptoSmall }

/-- 'gimletlaw14.TreeAhead', WHERE WHAT IT READS IS OF BULK AT MOST 1048576: true; the input reads as it did. -/
def treeAheadUptoRow : OpenClaim := { program := "ytooolhekihijlaa", sum := "a7c5d15ec00af24e2ffa349ae5743b5707f44434799ec72520db7ac2f001fc7e", func := "gimlet/gimletlaw14.TreeAhead", spec := "treeAhead", unfollowed := true, recurses := true, apart := false, narrowed := true }
def TreeAheadUptoSaid : Prop := treeAheadUptoRow.holds Try.pinned (OpenSpec.upto treeAheadSpec)

/-- 'gimletlaw14.TreeOrder', WHERE WHAT IT READS IS OF BULK AT MOST 1048576: true; the input reads as it did. -/
def treeOrderUptoRow : OpenClaim := { program := "ytooolhekihijlaa", sum := "a7c5d15ec00af24e2ffa349ae5743b5707f44434799ec72520db7ac2f001fc7e", func := "gimlet/gimletlaw14.TreeOrder", spec := "treeOrder", unfollowed := true, recurses := true, apart := false, narrowed := true }
def TreeOrderUptoSaid : Prop := treeOrderUptoRow.holds Try.pinned (OpenSpec.upto treeOrderSpec)

/-- 'gimletlaw14.TreeFrames', WHERE WHAT IT READS IS OF BULK AT MOST 1048576: true; the input reads as it did. -/
def treeFramesUptoRow : OpenClaim := { program := "ytooolhekihijlaa", sum := "a7c5d15ec00af24e2ffa349ae5743b5707f44434799ec72520db7ac2f001fc7e", func := "gimlet/gimletlaw14.TreeFrames", spec := "treeFrames", unfollowed := true, recurses := true, apart := false, narrowed := true }
def TreeFramesUptoSaid : Prop := treeFramesUptoRow.holds Try.pinned (OpenSpec.upto treeFramesSpec)

/-- 'gimletlaw14.TreeWithin', WHERE WHAT IT READS IS OF BULK AT MOST 1048576: true; the input reads as it did. -/
def treeWithinUptoRow : OpenClaim := { program := "ytooolhekihijlaa", sum := "a7c5d15ec00af24e2ffa349ae5743b5707f44434799ec72520db7ac2f001fc7e", func := "gimlet/gimletlaw14.TreeWithin", spec := "treeWithin", unfollowed := true, recurses := true, apart := false, narrowed := true }
def TreeWithinUptoSaid : Prop := treeWithinUptoRow.holds Try.pinned (OpenSpec.upto treeWithinSpec)

end Rows
end Go.Proofs.Ytooolhekihijlaa

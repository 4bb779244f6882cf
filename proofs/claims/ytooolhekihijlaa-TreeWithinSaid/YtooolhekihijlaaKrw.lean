/- TreeWithin of chapter 14 answers true for every list of nodes, all bytes and every list of entries, and leaves them as they were.
   Conditions: none. -/
import Derived.Test.YtooolhekihijlaaRows
import Derived.Test.YtooolhekihijlaaTsp
import Derived.Test.YtooolhekihijlaaQY
import Derived.WalkKit
import Derived.ProofKit
import Derived.OpenShut
import Derived.ChangeMaps5
namespace Go.Proofs.Ytooolhekihijlaa.treeWithin
open Go.ChangeShapes Go.WideShapes Go.ChangeAt Go.RowKit BS

theorem own : ownKnob Try.prog.godebug = none := by kernel_rfl
theorem cells64 : Try.prog.cellsOf 45 = 1 := by kernel_rfl
theorem cellsSet : Try.prog.cellsOf 47 = 4 := by kernel_rfl

set_option maxRecDepth 100000 in
theorem lifted (os : Os) (started : os.Started) (H : Type) (enc : TypeId × Value → H) :
    ReturnsInHanded {} Try.checked os 6 .any (Rows.treeWithinSpec.pre6 enc Try.prog Try.f6 Rows.treeWithinRow.domain false) (Rows.treeWithinSpec.post enc Try.prog Try.f6 false true false false) := by
  refine returnsInHanded_of_change (C := Try.checked) own started (by kernel_rfl) Try.func6
    (ChangeSpec.witness6 (enc := enc) (C := Try.checked) false ⟨#[], #[.slice none 0 0, .slice none 0 0, .slice none 0 0], []⟩ 8 (by kernel_rfl) (by kernel_rfl) (by kernel_rfl) (by kernel_rfl)) ?_
  intro W base args ds gs before hval0 hW _ _
  have hval : ∀ (j : Nat) t v, Try.f6.params[j]? = some t → args[j]? = some v → Value.okWide Try.prog W .any base t v := hval0
  have hW' := hW
  obtain ⟨p, q, hA0, hV, rfl, hfz, hnd⟩ := hW
  have hA : DataW.TrodAll enc Try.prog W 0 (fun _ => true) true Try.f6.params.toList args.toList ds p := hA0
  rw [Try.params6] at hA hval
  obtain ⟨v0, vs0, d0, ds0, p0, q0, hargs, rfl, rfl, h0, r0⟩ := trodAll_cons hA
  obtain ⟨v1, vs1, d1, ds1, p1, q1, rfl, rfl, rfl, h1, r1⟩ := trodAll_cons r0
  obtain ⟨v2, vs2, d2, ds2, p2, q2, rfl, rfl, rfl, h2, r2⟩ := trodAll_cons r1
  obtain ⟨rfl, rfl, rfl⟩ := trodAll_nil r2
  obtain rfl : args = #[v0, v1, v2] := by cases args; simp_all
  obtain ⟨l, ad, cl, rfl, z0, hN0⟩ := open_nodes (t := 49) (it := 3) (st := 47) (e := 45) Try.underlying27 Try.underlying49 (by kernel_rfl) ⟨rfl, rfl, rfl, rfl, rfl⟩ ⟨rfl, rfl, rfl, rfl, rfl⟩ Try.underlying3 (by kernel_rfl) Try.underlying47 Try.underlying45 cells64 cellsSet (hval 0 27 v0 rfl rfl) h0
  obtain ⟨w, wd, cw, rfl, z1, y1, hT1⟩ := open_btsN (t := 5) Try.underlying28 Try.underlying5 (by kernel_rfl) (hval 1 28 v1 rfl rfl) h1
  obtain ⟨t, td, ct, rfl, z2, y2, hE2⟩ := open_ents (t := 44) (it := 3) Try.underlying22 Try.underlying44 (by kernel_rfl) ⟨rfl, rfl, rfl, rfl⟩ ⟨rfl, rfl, rfl, rfl⟩ Try.underlying3 (by kernel_rfl) (hval 2 22 v2 rfl rfl) h2

  have hlaid : laidOutB Try.prog = true := by kernel_rfl
  refine Calls.mono (treeWithin_calls l (by unfold maxLen at z0; omega) w (by unfold maxLen at z1; omega) y1 t (by unfold maxLen at z2; omega) ad wd td cl cw ct y2 W hN0 hT1 hE2) fun e W' ⟨he, hb⟩ => ?_
  subst he
  exact ⟨_, rfl, law_post (tb := 4) hlaid Try.underlying4 rfl (by kernel_rfl) (by rw [Try.params6]; intro t ht; simp only [List.mem_cons, List.not_mem_nil, or_false] at ht; rcases ht with rfl | rfl | rfl <;> exact ⟨by kernel_rfl, of_decide_eq_true (by kernel_rfl)⟩) rfl hW' hb⟩

theorem said : Rows.TreeWithinSaid :=
  OpenClaim.holds_of_wide 6 Try.f6 rfl rfl rfl rfl rfl rfl rfl ⟨rfl, rfl, rfl, rfl, rfl⟩ rfl rfl rfl rfl rfl (by kernel_rfl) Try.func6 (by kernel_rfl)
    (of_decide_eq_true (by kernel_rfl)) (by unfold Func.isWrapper; first | (rw [if_pos (by decide +kernel)]; kernel_rfl) | (rw [if_neg (by decide +kernel)]; exact ⟨rfl, rfl⟩))
    (fun os started H enc _ => lifted os started H enc)
end Go.Proofs.Ytooolhekihijlaa.treeWithin

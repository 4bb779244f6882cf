/- The document's trees: piece, kid; Ints of the same numbers. -/
import Derived.Test.YtlhlgohgmbkaoaaAb
import Derived.Test.YtlhlgohgmbkaoaaAg
import Derived.Test.YtlhlgohgmbkaoaaRs
namespace Go.Proofs.Ytlhlgohgmbkaoaa
open Go.RowKit BS

/-- A slice of whole numbers. -/
def IntsAt (l : List Int) (a : Option Addr) (W : World) : Prop := l ≠ [] → ∃ g, a = some ⟨g, 0, none⟩ ∧ g < W.heap.size ∧ ∀ i (h : i < l.length), W.cell? ⟨g, i, none⟩ = some (.int .i64 l[i])
theorem IntsAt.below {l : List Int} {a : Option Addr} {W W' : World} (h : IntsAt l a W) (hb : Below W.heap.size W W') : IntsAt l a W' := fun hne => by
  obtain ⟨g, e, hg, hc⟩ := h hne
  exact ⟨g, e, Nat.lt_of_lt_of_le hg hb.size, fun i hi => (hb.cell (p := ⟨g, i, none⟩) hg).trans (hc i hi)⟩
/-- A slice of whole numbers that may begin within its block. -/
def IntsO (l : List Int) (a : Option Addr) (W : World) : Prop := l ≠ [] → ∃ g o, a = some ⟨g, o, none⟩ ∧ g < W.heap.size ∧ ∀ i (h : i < l.length), W.cell? ⟨g, o + i, none⟩ = some (.int .i64 l[i])
theorem IntsO.below {l : List Int} {a : Option Addr} {W W' : World} (h : IntsO l a W) (hb : Below W.heap.size W W') : IntsO l a W' := fun hne => by
  obtain ⟨g, o, e, hg, hc⟩ := h hne
  exact ⟨g, o, e, Nat.lt_of_lt_of_le hg hb.size, fun i hi => (hb.cell (p := ⟨g, o + i, none⟩) hg).trans (hc i hi)⟩
theorem IntsAt.o {l : List Int} {a : Option Addr} {W : World} (h : IntsAt l a W) : IntsO l a W := fun hne => by
  obtain ⟨g, e, hg, hc⟩ := h hne
  exact ⟨g, 0, e, hg, fun i hi => by rw [Nat.zero_add]; exact hc i hi⟩
def SIn (w : World) (g1 o1 g2 o2 i : Nat) (x : Int) (W : World) : Prop := W.cell? ⟨g1, o1 + i, none⟩ = some (.int .i64 x) ∧ W.cell? ⟨g2, o2 + i, none⟩ = some (.int .i64 x) ∧ W = w
set_option maxRecDepth 100000 in
set_option maxHeartbeats 4000000 in
theorem ints_same (l : List Int) (hl : l.length ≤ 1000000) (a b : Option Addr) (c1 c2 : Nat) (w : World) (h1 : IntsO l a w) (h2 : IntsO l b w) :
    Calls Try.prog 10 #[.slice a l.length c1, .slice b l.length c2] w fun e w' => e = .returned (.bool true) ∧ Below w.heap.size w w' := by
  have H1 := Lib.hid h1
  have H2 := Lib.hid h2
  clear h1 h2
  go_enter Try.func10, Try.ntmps10
  go_wp2_with fail
  go_loopw [5] (fun x wr => ∃ i : Nat, i ≤ l.length ∧ x = .int .i64 i ∧ IntsO l a wr ∧ IntsO l b wr ∧ Below w.heap.size w wr) (fun x _ => l.length - (intOf x).toNat)
  case atStart => exact ⟨0, Nat.zero_le _, rfl, H1.out, H2.out, Below.refl _ _⟩
  case round =>
    clear H1 H2
    obtain ⟨i, hi, rfl, h1, h2, hB⟩ := hrel
    by_cases hlt : i < l.length
    · have hne : l ≠ [] := by rintro rfl; simp at hlt
      obtain ⟨g1, o1, rfl, hg1, p1⟩ := h1 hne
      obtain ⟨g2, o2, rfl, hg2, p2⟩ := h2 hne
      have hd : decide ((i : Int) < (l.length : Int)) = true := by rw [decide_eq_true_iff]; omega
      have hd2 : decide (i < l.length) = true := by rw [decide_eq_true_iff]; omega
      have s1 := p1 i hlt
      have s2 := p2 i hlt
      have H1 := Lib.hid h1
      have H2 := Lib.hid h2
      have HB := Lib.hid hB
      clear h1 h2 p1 p2 hg1 hg2 hne hB
      generalize l[i] = x at *
      have h0 : SIn wr.drew g1 o1 g2 o2 i x wr.drew := ⟨s1, s2, rfl⟩
      clear s1 s2
      go_wp2_with fail
      refine region_steps (S := SIn wr.drew g1 o1 g2 o2 i x) (by kernel_rfl) h0 ?_
      clear h0
      simp only [List.size_toArray, List.length_cons, List.length_nil, Nat.reduceAdd, Array.replicate_succ, Array.replicate_zero, List.push_toArray, List.nil_append, List.cons_append]
      refine AnyS.stepE (i := 0) (d := some 17) rfl rfl (by kernel_rfl) (by kernel_rfl) (by kernel_rfl) ?_
      apply Exists.intro
      apply And.intro
      · apply StepsIf.yield
        · kernel_rfl
        intro w' hS
        clear hS; go_simp
        rfl
      intro a' ha'
      simp only [Act.put, List.setIfInBounds_toArray, List.set_cons_zero, List.set_cons_succ] at ha'
      subst ha'
      refine AnyS.stepE (i := 1) (d := some 18) rfl rfl (by kernel_rfl) (by kernel_rfl) (by kernel_rfl) ?_
      apply Exists.intro
      apply And.intro
      · apply StepsIf.yield
        · kernel_rfl
        intro w' hS
        clear hS; go_simp
        rfl
      intro a' ha'
      simp only [Act.put, List.setIfInBounds_toArray, List.set_cons_zero, List.set_cons_succ] at ha'
      subst ha'
      refine AnyS.next (i := 2) (d := some 19) (v := .pointer (some ⟨g1, o1 + i, none⟩)) rfl rfl (by kernel_rfl) (by kernel_rfl) (by kernel_rfl) (StepsIf.yield (by kernel_rfl) (fun w' hS => by clear hS; go_simp)) ?_
      intro a' ha'
      simp only [Act.put, List.setIfInBounds_toArray, List.set_cons_zero, List.set_cons_succ] at ha'
      subst ha'
      refine AnyS.next (i := 3) (d := some 20) (v := .int .i64 x) rfl rfl (by kernel_rfl) (by kernel_rfl) (by kernel_rfl) (StepsIf.yield (by kernel_rfl) (fun w' hS => by have s := hS.1; clear hS; go_simp)) ?_
      intro a' ha'
      simp only [Act.put, List.setIfInBounds_toArray, List.set_cons_zero, List.set_cons_succ] at ha'
      subst ha'
      refine AnyS.stepE (i := 4) (d := some 21) rfl rfl (by kernel_rfl) (by kernel_rfl) (by kernel_rfl) ?_
      apply Exists.intro
      apply And.intro
      · apply StepsIf.yield
        · kernel_rfl
        intro w' hS
        clear hS; go_simp
        rfl
      intro a' ha'
      simp only [Act.put, List.setIfInBounds_toArray, List.set_cons_zero, List.set_cons_succ] at ha'
      subst ha'
      refine AnyS.stepE (i := 5) (d := some 22) rfl rfl (by kernel_rfl) (by kernel_rfl) (by kernel_rfl) ?_
      apply Exists.intro
      apply And.intro
      · apply StepsIf.yield
        · kernel_rfl
        intro w' hS
        clear hS; go_simp
        rfl
      intro a' ha'
      simp only [Act.put, List.setIfInBounds_toArray, List.set_cons_zero, List.set_cons_succ] at ha'
      subst ha'
      refine AnyS.next (i := 6) (d := some 23) (v := .pointer (some ⟨g2, o2 + i, none⟩)) rfl rfl (by kernel_rfl) (by kernel_rfl) (by kernel_rfl) (StepsIf.yield (by kernel_rfl) (fun w' hS => by clear hS; go_simp)) ?_
      intro a' ha'
      simp only [Act.put, List.setIfInBounds_toArray, List.set_cons_zero, List.set_cons_succ] at ha'
      subst ha'
      refine AnyS.next (i := 7) (d := some 24) (v := .int .i64 x) rfl rfl (by kernel_rfl) (by kernel_rfl) (by kernel_rfl) (StepsIf.yield (by kernel_rfl) (fun w' hS => by have s := hS.2.1; clear hS; go_simp)) ?_
      intro a' ha'
      simp only [Act.put, List.setIfInBounds_toArray, List.set_cons_zero, List.set_cons_succ] at ha'
      subst ha'
      refine AnyS.next (i := 8) (d := some 25) (v := .bool false) rfl rfl (by kernel_rfl) (by kernel_rfl) (by kernel_rfl) (StepsIf.yield (by kernel_rfl) (fun w' hS => by clear hS; go_simp)) ?_
      intro a' ha'
      simp only [Act.put, List.setIfInBounds_toArray, List.set_cons_zero, List.set_cons_succ] at ha'
      subst ha'
      refine AnyS.done (by kernel_rfl) (fun w6 hS => ?_) _
      obtain ⟨_, _, rfl⟩ := hS
      go_wp2_with fail
      go_roundw
      case rel => exact ⟨i + 1, by omega, by simp, H1.out, H2.out, HB.out.drew⟩
      case measure => simp [intOf]; omega
    · obtain rfl : i = l.length := by omega
      have hd : decide ((l.length : Int) < (l.length : Int)) = false := by simp
      clear h1 h2
      go_wp2_with fail
      go_ret
      exact ⟨rfl, hB⟩
end Go.Proofs.Ytlhlgohgmbkaoaa

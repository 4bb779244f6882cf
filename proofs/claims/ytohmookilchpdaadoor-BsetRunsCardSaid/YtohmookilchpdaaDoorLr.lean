/- BsetRuns: a set is all of its runs, which lie apart. -/
import Derived.Test.YtohmookilchpdaaDoorRm
import Derived.Test.YtohmookilchpdaaDoorTa
import Derived.Test.YtohmookilchpdaaDoorRs
namespace Go.Proofs.YtohmookilchpdaaDoor
open Go.RowKit Go.Shelf BS

def SU (w : World) (s : BitVec 256) (g : Nat) (A : Nat) (u : BitVec 256) (W : World) : Prop :=
  (Blk W w.heap.size (setA s) 24 ∧ Blk W A (setA u) 24 ∧ RowAt g (rsOf s) W) ∧ Below w.heap.size w W
theorem keepU {w W W' : World} {s u : BitVec 256} {g A : Nat} (h : SU w s g A u W) (hb : Below W.heap.size W W') : SU w s g A u W' :=
  ⟨⟨h.1.1.below hb h.1.1.lt, h.1.2.1.below hb h.1.2.1.lt, h.1.2.2.below hb⟩, h.2.trans (hb.mono h.2.size)⟩
theorem drewU {w W : World} {s u : BitVec 256} {g A : Nat} (h : SU w s g A u W) : SU w s g A u W.drew := ⟨⟨h.1.1, h.1.2.1, h.1.2.2⟩, h.2.drew⟩
theorem storeU {w W : World} {s u t : BitVec 256} {g A : Nat} (h : SU w s g A u W) (hA : w.heap.size < A) (hgA : g ≠ A) (_hg : w.heap.size ≤ A) :
    SU w s g A t ((((W.setCell ⟨A, 0, none⟩ (.int .u64 (wd t 0))).setCell ⟨A, 1, none⟩ (.int .u64 (wd t 1))).setCell ⟨A, 2, none⟩ (.int .u64 (wd t 2))).setCell ⟨A, 3, none⟩ (.int .u64 (wd t 3))) := by
  refine ⟨⟨(((h.1.1.other (by omega) _ _).other (by omega) _ _).other (by omega) _ _).other (by omega) _ _, (((h.1.2.1.set 0 _).set 1 _).set 2 _).set 3 _, (((h.1.2.2.set hgA _ _).set hgA _ _).set hgA _ _).set hgA _ _⟩, ?_⟩
  exact below_set (below_set (below_set (below_set h.2 (by omega) _ _) (by omega) _ _) (by omega) _ _) (by omega) _ _

set_option maxRecDepth 100000 in
set_option maxHeartbeats 8000000 in
theorem runsLaw_calls (s : BitVec 256) (w : World) (hT : Tab w) (hg : 0 < w.heap.size) :
    Calls Tryd.prog 6 #[setV s] w fun e W' => e = .returned (.bool true) ∧ Below w.heap.size w W' := by
  have HT := Lib.hid hT
  clear hT
  have b1 := Blk.new w (setA s) 24
  have hB1 : Below w.heap.size w (w.alloc (.cells (setA s) 24)) := by go_grown
  go_enter Tryd.func6, Tryd.ntmps6
  go_wp2_with fail
  refine (runs_calls s _ (HT.out.keep hB1 hg) (by simp)).mono ?_
  rintro e w1 ⟨v, rfl, hr, hb1⟩
  obtain ⟨a, cap, rfl, hrow⟩ := row_of_owns (rs := rsOf s) hr
  have hlen := rsOf_len s
  have b2 : Blk w1 w.heap.size (setA s) 24 := b1.below hb1 (by simp)
  have hB2 := hB1.trans (hb1.mono (by simp))
  clear hr b1 hB1 hb1
  go_wp2_with fail
  have hlt := b2.lt
  have bA : Blk (w1.alloc (.cells (setA 0) 24)) w1.heap.size (setA 0) 24 := Blk.new _ _ _
  have bS := b2.alloc (.cells (setA 0) 24)
  have hB3 : Below w.heap.size w (w1.alloc (.cells (setA 0) 24)) := hB2.alloc hB2.size _
  have hG : ∃ g, (rsOf s ≠ [] → a = some ⟨g, 0, none⟩) ∧ g ≠ w1.heap.size ∧ RowAt g (rsOf s) (w1.alloc (.cells (setA 0) 24)) := by
    by_cases hne : rsOf s = []
    · refine ⟨0, fun h => absurd hne h, by omega, by simp, ?_⟩
      rw [hne]; intro j hj; simp at hj
    · obtain ⟨g, h1, _, h3⟩ := hrow hne
      exact ⟨g, fun _ => h1, Nat.ne_of_lt h3.1, h3.below ((Below.refl _ _).alloc (Nat.le_refl _) _)⟩
  obtain ⟨g, ha, hgA, hrow'⟩ := hG
  have hU : SU w s g w1.heap.size (orAll ((rsOf s).take 0)) (w1.alloc (.cells (setA 0) 24)) := ⟨⟨bS, bA, hrow'⟩, hB3⟩
  have e0 : (w1.alloc (.cells #[.int .u64 0, .int .u64 0, .int .u64 0, .int .u64 0] 24)) = w1.alloc (.cells (setA 0) 24) := rfl
  rw [e0]
  have HA := Lib.hid ha
  clear hrow b2 hB2 bA bS hB3 hrow' e0 ha
  generalize (w1.alloc (.cells (setA 0) 24)) = w2 at *
  generalize w1.heap.size = A at *
  go_loopw [5] (fun i wr => ∃ k : Nat, k ≤ (rsOf s).length ∧ i = .int .i64 k ∧ SU w s g A (orAll ((rsOf s).take k)) wr)
    (fun i _ => (rsOf s).length - (intOf i).toNat)
  case atStart => exact ⟨0, Nat.zero_le _, rfl, hU⟩
  case round =>
    clear hU
    obtain ⟨k, hk, rfl, hU⟩ := hrel
    by_cases hkl : k < (rsOf s).length
    · obtain ⟨hok1, hok2⟩ := rsOf_ok s k hkl
      obtain rfl := HA.out (fun e => by rw [e] at hkl; simp at hkl)
      clear HA
      obtain ⟨lo, hlo⟩ : ∃ lo, (rsOf s)[k].1 = lo := ⟨_, rfl⟩
      obtain ⟨hi, hhi⟩ : ∃ hi, (rsOf s)[k].2 = hi := ⟨_, rfl⟩
      rw [hlo, hhi] at hok1
      rw [hhi] at hok2
      generalize hu : orAll ((rsOf s).take k) = u at hU
      have HE : Hid (orAll ((rsOf s).take k) = u) := hu
      clear hu
      have HLO := Lib.hid hlo
      have HHI := Lib.hid hhi
      clear hlo hhi
      cases k with
      | zero =>
        go_wp2_with fail
        refine region_steps (S := SU w s g A u) (by kernel_rfl) (drewU hU) ?_
        simp only [List.size_toArray, List.length_cons, List.length_nil, Nat.reduceAdd, Array.replicate_succ, Array.replicate_zero, List.push_toArray, List.nil_append, List.cons_append]
        refine AnyS.next (i := 0) (d := some 14) (v := .slice (some ⟨g, 0, none⟩) (rsOf s).length cap) rfl rfl (by kernel_rfl) (by kernel_rfl) (by kernel_rfl) (StepsIf.yield (by kernel_rfl) (fun w' hS => by clear hS; go_simp)) ?_
        intro a' ha'
        simp only [Act.put, List.setIfInBounds_toArray, List.set_cons_zero, List.set_cons_succ] at ha'
        subst ha'
        refine AnyS.next (i := 1) (d := some 15) (v := .int .i64 ((0 : Nat) : Int)) rfl rfl (by kernel_rfl) (by kernel_rfl) (by kernel_rfl) (StepsIf.yield (by kernel_rfl) (fun w' hS => by clear hS; go_simp)) ?_
        intro a' ha'
        simp only [Act.put, List.setIfInBounds_toArray, List.set_cons_zero, List.set_cons_succ] at ha'
        subst ha'
        refine AnyS.next (i := 2) (d := some 16) (v := .pointer (some ⟨g, 0 * 2, none⟩)) rfl rfl (by kernel_rfl) (by kernel_rfl) (by kernel_rfl) (StepsIf.yield (by kernel_rfl) (fun w' hS => by clear hS; go_simp)) ?_
        intro a' ha'
        simp only [Act.put, List.setIfInBounds_toArray, List.set_cons_zero, List.set_cons_succ] at ha'
        subst ha'
        refine AnyS.next (i := 3) (d := some 17) (v := .pointer (some ⟨g, 0 * 2, none⟩)) rfl rfl (by kernel_rfl) (by kernel_rfl) (by kernel_rfl) (StepsIf.yield (by kernel_rfl) (fun w' hS => by clear hS; go_simp)) ?_
        intro a' ha'
        simp only [Act.put, List.setIfInBounds_toArray, List.set_cons_zero, List.set_cons_succ] at ha'
        subst ha'
        refine AnyS.next (i := 4) (d := some 18) (v := .int .u8 (lo : Nat)) rfl rfl (by kernel_rfl) (by kernel_rfl) (by kernel_rfl) (StepsIf.yield (by kernel_rfl) (fun w' hS => by have hc := (hS.1.2.2.2 0 hkl).1; rw [HLO.out] at hc; clear hS; go_simp)) ?_
        intro a' ha'
        simp only [Act.put, List.setIfInBounds_toArray, List.set_cons_zero, List.set_cons_succ] at ha'
        subst ha'
        refine AnyS.next (i := 5) (d := some 19) (v := .slice (some ⟨g, 0, none⟩) (rsOf s).length cap) rfl rfl (by kernel_rfl) (by kernel_rfl) (by kernel_rfl) (StepsIf.yield (by kernel_rfl) (fun w' hS => by clear hS; go_simp)) ?_
        intro a' ha'
        simp only [Act.put, List.setIfInBounds_toArray, List.set_cons_zero, List.set_cons_succ] at ha'
        subst ha'
        refine AnyS.next (i := 6) (d := some 20) (v := .int .i64 ((0 : Nat) : Int)) rfl rfl (by kernel_rfl) (by kernel_rfl) (by kernel_rfl) (StepsIf.yield (by kernel_rfl) (fun w' hS => by clear hS; go_simp)) ?_
        intro a' ha'
        simp only [Act.put, List.setIfInBounds_toArray, List.set_cons_zero, List.set_cons_succ] at ha'
        subst ha'
        refine AnyS.next (i := 7) (d := some 21) (v := .pointer (some ⟨g, 0 * 2, none⟩)) rfl rfl (by kernel_rfl) (by kernel_rfl) (by kernel_rfl) (StepsIf.yield (by kernel_rfl) (fun w' hS => by clear hS; go_simp)) ?_
        intro a' ha'
        simp only [Act.put, List.setIfInBounds_toArray, List.set_cons_zero, List.set_cons_succ] at ha'
        subst ha'
        refine AnyS.next (i := 8) (d := some 22) (v := .pointer (some ⟨g, 0 * 2 + 1, none⟩)) rfl rfl (by kernel_rfl) (by kernel_rfl) (by kernel_rfl) (StepsIf.yield (by kernel_rfl) (fun w' hS => by clear hS; go_simp)) ?_
        intro a' ha'
        simp only [Act.put, List.setIfInBounds_toArray, List.set_cons_zero, List.set_cons_succ] at ha'
        subst ha'
        refine AnyS.next (i := 9) (d := some 23) (v := .int .u8 (hi : Nat)) rfl rfl (by kernel_rfl) (by kernel_rfl) (by kernel_rfl) (StepsIf.yield (by kernel_rfl) (fun w' hS => by have hc := (hS.1.2.2.2 0 hkl).2; rw [HHI.out] at hc; clear hS; go_simp)) ?_
        intro a' ha'
        simp only [Act.put, List.setIfInBounds_toArray, List.set_cons_zero, List.set_cons_succ] at ha'
        subst ha'
        refine AnyS.next (i := 10) (d := some 24) (v := .bool false) rfl rfl (by kernel_rfl) (by kernel_rfl) (by kernel_rfl) (StepsIf.yield (by kernel_rfl) (fun w' hS => by clear hS; have q : decide ((hi : Int) < (lo : Int)) = false := (by rw [decide_eq_false_iff_not]; omega); go_simp)) ?_
        intro a' ha'
        simp only [Act.put, List.setIfInBounds_toArray, List.set_cons_zero, List.set_cons_succ] at ha'
        subst ha'
        refine AnyS.next (i := 11) (d := some 25) (v := .bool false) rfl rfl (by kernel_rfl) (by kernel_rfl) (by kernel_rfl) (StepsIf.yield (by kernel_rfl) (fun w' hS => by clear hS; go_simp)) ?_
        intro a' ha'
        simp only [Act.put, List.setIfInBounds_toArray, List.set_cons_zero, List.set_cons_succ] at ha'
        subst ha'
        refine AnyS.next (i := 12) (d := some 26) (v := .int .i64 ((0 : Nat) : Int)) rfl rfl (by kernel_rfl) (by kernel_rfl) (by kernel_rfl) (StepsIf.yield (by kernel_rfl) (fun w' hS => by clear hS; go_simp)) ?_
        intro a' ha'
        simp only [Act.put, List.setIfInBounds_toArray, List.set_cons_zero, List.set_cons_succ] at ha'
        subst ha'
        refine AnyS.next (i := 13) (d := some 27) (v := .bool false) rfl rfl (by kernel_rfl) (by kernel_rfl) (by kernel_rfl) (StepsIf.yield (by kernel_rfl) (fun w' hS => by clear hS; go_simp)) ?_
        intro a' ha'
        simp only [Act.put, List.setIfInBounds_toArray, List.set_cons_zero, List.set_cons_succ] at ha'
        subst ha'
        refine AnyS.next (i := 14) (d := some 28) (v := .bool false) rfl rfl (by kernel_rfl) (by kernel_rfl) (by kernel_rfl) (StepsIf.yield (by kernel_rfl) (fun w' hS => by clear hS; go_simp)) ?_
        intro a' ha'
        simp only [Act.put, List.setIfInBounds_toArray, List.set_cons_zero, List.set_cons_succ] at ha'
        subst ha'
        refine AnyS.next (i := 15) (d := some 29) (v := undef) rfl rfl (by kernel_rfl) (by kernel_rfl) (by kernel_rfl) (StepsIf.no (by kernel_rfl)) ?_
        intro a' ha'
        simp only [Act.put, List.setIfInBounds_toArray, List.set_cons_zero, List.set_cons_succ] at ha'
        subst ha'
        refine AnyS.next (i := 16) (d := some 30) (v := undef) rfl rfl (by kernel_rfl) (by kernel_rfl) (by kernel_rfl) (StepsIf.no (by kernel_rfl)) ?_
        intro a' ha'
        simp only [Act.put, List.setIfInBounds_toArray, List.set_cons_zero, List.set_cons_succ] at ha'
        subst ha'
        refine AnyS.next (i := 17) (d := some 31) (v := undef) rfl rfl (by kernel_rfl) (by kernel_rfl) (by kernel_rfl) (StepsIf.no (by kernel_rfl)) ?_
        intro a' ha'
        simp only [Act.put, List.setIfInBounds_toArray, List.set_cons_zero, List.set_cons_succ] at ha'
        subst ha'
        refine AnyS.next (i := 18) (d := some 32) (v := undef) rfl rfl (by kernel_rfl) (by kernel_rfl) (by kernel_rfl) (StepsIf.no (by kernel_rfl)) ?_
        intro a' ha'
        simp only [Act.put, List.setIfInBounds_toArray, List.set_cons_zero, List.set_cons_succ] at ha'
        subst ha'
        refine AnyS.next (i := 19) (d := some 33) (v := undef) rfl rfl (by kernel_rfl) (by kernel_rfl) (by kernel_rfl) (StepsIf.no (by kernel_rfl)) ?_
        intro a' ha'
        simp only [Act.put, List.setIfInBounds_toArray, List.set_cons_zero, List.set_cons_succ] at ha'
        subst ha'
        refine AnyS.next (i := 20) (d := some 34) (v := undef) rfl rfl (by kernel_rfl) (by kernel_rfl) (by kernel_rfl) (StepsIf.no (by kernel_rfl)) ?_
        intro a' ha'
        simp only [Act.put, List.setIfInBounds_toArray, List.set_cons_zero, List.set_cons_succ] at ha'
        subst ha'
        refine AnyS.next (i := 21) (d := some 35) (v := undef) rfl rfl (by kernel_rfl) (by kernel_rfl) (by kernel_rfl) (StepsIf.no (by kernel_rfl)) ?_
        intro a' ha'
        simp only [Act.put, List.setIfInBounds_toArray, List.set_cons_zero, List.set_cons_succ] at ha'
        subst ha'
        refine AnyS.next (i := 22) (d := some 36) (v := undef) rfl rfl (by kernel_rfl) (by kernel_rfl) (by kernel_rfl) (StepsIf.no (by kernel_rfl)) ?_
        intro a' ha'
        simp only [Act.put, List.setIfInBounds_toArray, List.set_cons_zero, List.set_cons_succ] at ha'
        subst ha'
        refine AnyS.next (i := 23) (d := some 37) (v := undef) rfl rfl (by kernel_rfl) (by kernel_rfl) (by kernel_rfl) (StepsIf.no (by kernel_rfl)) ?_
        intro a' ha'
        simp only [Act.put, List.setIfInBounds_toArray, List.set_cons_zero, List.set_cons_succ] at ha'
        subst ha'
        refine AnyS.next (i := 24) (d := some 38) (v := undef) rfl rfl (by kernel_rfl) (by kernel_rfl) (by kernel_rfl) (StepsIf.no (by kernel_rfl)) ?_
        intro a' ha'
        simp only [Act.put, List.setIfInBounds_toArray, List.set_cons_zero, List.set_cons_succ] at ha'
        subst ha'
        refine AnyS.next (i := 25) (d := some 39) (v := undef) rfl rfl (by kernel_rfl) (by kernel_rfl) (by kernel_rfl) (StepsIf.no (by kernel_rfl)) ?_
        intro a' ha'
        simp only [Act.put, List.setIfInBounds_toArray, List.set_cons_zero, List.set_cons_succ] at ha'
        subst ha'
        refine AnyS.next (i := 26) (d := some 40) (v := undef) rfl rfl (by kernel_rfl) (by kernel_rfl) (by kernel_rfl) (StepsIf.no (by kernel_rfl)) ?_
        intro a' ha'
        simp only [Act.put, List.setIfInBounds_toArray, List.set_cons_zero, List.set_cons_succ] at ha'
        subst ha'
        refine AnyS.next (i := 27) (d := some 41) (v := undef) rfl rfl (by kernel_rfl) (by kernel_rfl) (by kernel_rfl) (StepsIf.no (by kernel_rfl)) ?_
        intro a' ha'
        simp only [Act.put, List.setIfInBounds_toArray, List.set_cons_zero, List.set_cons_succ] at ha'
        subst ha'
        refine AnyS.next (i := 28) (d := some 42) (v := undef) rfl rfl (by kernel_rfl) (by kernel_rfl) (by kernel_rfl) (StepsIf.no (by kernel_rfl)) ?_
        intro a' ha'
        simp only [Act.put, List.setIfInBounds_toArray, List.set_cons_zero, List.set_cons_succ] at ha'
        subst ha'
        refine AnyS.next (i := 29) (d := some 43) (v := undef) rfl rfl (by kernel_rfl) (by kernel_rfl) (by kernel_rfl) (StepsIf.no (by kernel_rfl)) ?_
        intro a' ha'
        simp only [Act.put, List.setIfInBounds_toArray, List.set_cons_zero, List.set_cons_succ] at ha'
        subst ha'
        refine AnyS.next (i := 30) (d := some 44) (v := .bool false) rfl rfl (by kernel_rfl) (by kernel_rfl) (by kernel_rfl) (StepsIf.yield (by kernel_rfl) (fun w' hS => by clear hS; go_simp)) ?_
        intro a' ha'
        simp only [Act.put, List.setIfInBounds_toArray, List.set_cons_zero, List.set_cons_succ] at ha'
        subst ha'
        refine AnyS.next (i := 31) (d := some 45) (v := .bool false) rfl rfl (by kernel_rfl) (by kernel_rfl) (by kernel_rfl) (StepsIf.yield (by kernel_rfl) (fun w' hS => by clear hS; go_simp)) ?_
        intro a' ha'
        simp only [Act.put, List.setIfInBounds_toArray, List.set_cons_zero, List.set_cons_succ] at ha'
        subst ha'
        refine AnyS.done (by kernel_rfl) ?_ _
        clear hU
        intro w2 hU
        go_wp2_with fail
        refine region_stepsM (S := SU w s g A u) (m := 13) rfl (by kernel_rfl) (drewU hU) ?_
        simp only [List.size_toArray, List.length_cons, List.length_nil, Nat.reduceAdd, Array.replicate_succ, Array.replicate_zero, List.push_toArray, List.nil_append, List.cons_append]
        refine AnyM.next (m := 13) (i := 0) (d := some 46) (v := setV u) rfl rfl (by kernel_rfl) (by kernel_rfl) (by kernel_rfl) (by kernel_rfl) (StepsIf.yield (by kernel_rfl) (fun w' hS => by obtain ⟨⟨c0, c1, c2, c3⟩, _⟩ := hS.1.2.1.cells4; clear hS; go_simp)) ?_
        intro a' ha'
        simp only [Act.put, List.setIfInBounds_toArray, List.set_cons_zero, List.set_cons_succ] at ha'
        subst ha'
        refine AnyM.next (m := 13) (i := 1) (d := some 47) (v := .slice (some ⟨g, 0, none⟩) (rsOf s).length cap) rfl rfl (by kernel_rfl) (by kernel_rfl) (by kernel_rfl) (by kernel_rfl) (StepsIf.yield (by kernel_rfl) (fun w' hS => by clear hS; go_simp)) ?_
        intro a' ha'
        simp only [Act.put, List.setIfInBounds_toArray, List.set_cons_zero, List.set_cons_succ] at ha'
        subst ha'
        refine AnyM.next (m := 13) (i := 2) (d := some 48) (v := .int .i64 ((0 : Nat) : Int)) rfl rfl (by kernel_rfl) (by kernel_rfl) (by kernel_rfl) (by kernel_rfl) (StepsIf.yield (by kernel_rfl) (fun w' hS => by clear hS; go_simp)) ?_
        intro a' ha'
        simp only [Act.put, List.setIfInBounds_toArray, List.set_cons_zero, List.set_cons_succ] at ha'
        subst ha'
        refine AnyM.next (m := 13) (i := 3) (d := some 49) (v := .pointer (some ⟨g, 0 * 2, none⟩)) rfl rfl (by kernel_rfl) (by kernel_rfl) (by kernel_rfl) (by kernel_rfl) (StepsIf.yield (by kernel_rfl) (fun w' hS => by clear hS; go_simp)) ?_
        intro a' ha'
        simp only [Act.put, List.setIfInBounds_toArray, List.set_cons_zero, List.set_cons_succ] at ha'
        subst ha'
        refine AnyM.next (m := 13) (i := 4) (d := some 50) (v := .pointer (some ⟨g, 0 * 2, none⟩)) rfl rfl (by kernel_rfl) (by kernel_rfl) (by kernel_rfl) (by kernel_rfl) (StepsIf.yield (by kernel_rfl) (fun w' hS => by clear hS; go_simp)) ?_
        intro a' ha'
        simp only [Act.put, List.setIfInBounds_toArray, List.set_cons_zero, List.set_cons_succ] at ha'
        subst ha'
        refine AnyM.next (m := 13) (i := 5) (d := some 51) (v := .int .u8 (lo : Nat)) rfl rfl (by kernel_rfl) (by kernel_rfl) (by kernel_rfl) (by kernel_rfl) (StepsIf.yield (by kernel_rfl) (fun w' hS => by have hc := (hS.1.2.2.2 0 hkl).1; rw [HLO.out] at hc; clear hS; go_simp)) ?_
        intro a' ha'
        simp only [Act.put, List.setIfInBounds_toArray, List.set_cons_zero, List.set_cons_succ] at ha'
        subst ha'
        refine AnyM.next (m := 13) (i := 6) (d := some 52) (v := .slice (some ⟨g, 0, none⟩) (rsOf s).length cap) rfl rfl (by kernel_rfl) (by kernel_rfl) (by kernel_rfl) (by kernel_rfl) (StepsIf.yield (by kernel_rfl) (fun w' hS => by clear hS; go_simp)) ?_
        intro a' ha'
        simp only [Act.put, List.setIfInBounds_toArray, List.set_cons_zero, List.set_cons_succ] at ha'
        subst ha'
        refine AnyM.next (m := 13) (i := 7) (d := some 53) (v := .int .i64 ((0 : Nat) : Int)) rfl rfl (by kernel_rfl) (by kernel_rfl) (by kernel_rfl) (by kernel_rfl) (StepsIf.yield (by kernel_rfl) (fun w' hS => by clear hS; go_simp)) ?_
        intro a' ha'
        simp only [Act.put, List.setIfInBounds_toArray, List.set_cons_zero, List.set_cons_succ] at ha'
        subst ha'
        refine AnyM.next (m := 13) (i := 8) (d := some 54) (v := .pointer (some ⟨g, 0 * 2, none⟩)) rfl rfl (by kernel_rfl) (by kernel_rfl) (by kernel_rfl) (by kernel_rfl) (StepsIf.yield (by kernel_rfl) (fun w' hS => by clear hS; go_simp)) ?_
        intro a' ha'
        simp only [Act.put, List.setIfInBounds_toArray, List.set_cons_zero, List.set_cons_succ] at ha'
        subst ha'
        refine AnyM.next (m := 13) (i := 9) (d := some 55) (v := .pointer (some ⟨g, 0 * 2 + 1, none⟩)) rfl rfl (by kernel_rfl) (by kernel_rfl) (by kernel_rfl) (by kernel_rfl) (StepsIf.yield (by kernel_rfl) (fun w' hS => by clear hS; go_simp)) ?_
        intro a' ha'
        simp only [Act.put, List.setIfInBounds_toArray, List.set_cons_zero, List.set_cons_succ] at ha'
        subst ha'
        refine AnyM.next (m := 13) (i := 10) (d := some 56) (v := .int .u8 (hi : Nat)) rfl rfl (by kernel_rfl) (by kernel_rfl) (by kernel_rfl) (by kernel_rfl) (StepsIf.yield (by kernel_rfl) (fun w' hS => by have hc := (hS.1.2.2.2 0 hkl).2; rw [HHI.out] at hc; clear hS; go_simp)) ?_
        intro a' ha'
        simp only [Act.put, List.setIfInBounds_toArray, List.set_cons_zero, List.set_cons_succ] at ha'
        subst ha'
        refine AnyM.next (m := 13) (i := 11) (d := some 57) (v := setV (range lo hi)) rfl rfl (by kernel_rfl) (by kernel_rfl) (by kernel_rfl) (by kernel_rfl) (StepsIf.call (by kernel_rfl) (fun w' hS => by clear hS; go_simp) (fun w' hS => (range_calls lo hi w' (by omega) (by omega) (by omega) (by omega)).mono fun e w'' h => ⟨h.1, keepU hS h.2⟩)) ?_
        intro a' ha'
        simp only [Act.put, List.setIfInBounds_toArray, List.set_cons_zero, List.set_cons_succ] at ha'
        subst ha'
        refine AnyM.next (m := 13) (i := 12) (d := some 58) (v := setV (u ||| range lo hi)) rfl rfl (by kernel_rfl) (by kernel_rfl) (by kernel_rfl) (by kernel_rfl) (StepsIf.call (by kernel_rfl) (fun w' hS => by clear hS; go_simp) (fun w' hS => (or_calls u (range lo hi) w').mono fun e w'' h => ⟨h.1, keepU hS h.2⟩)) ?_
        intro a' ha'
        simp only [Act.put, List.setIfInBounds_toArray, List.set_cons_zero, List.set_cons_succ] at ha'
        subst ha'
        clear hU
        refine AnyM.last rfl (by kernel_rfl) (by kernel_rfl) (by kernel_rfl) (fun w3 hU K hK => ?_)
        obtain ⟨⟨c0, c1, c2, c3⟩, f0, f1, f2, f3⟩ := hU.1.2.1.cells4
        have HU := Lib.hid hU
        clear hU
        go_simp
        refine hK _ _ ?_
        clear hK K
        go_wp2
        go_roundw
        case rel =>
          refine ⟨0 + 1, by omega, by simp, ?_⟩
          rw [List.take_succ_eq_append_getElem hkl, orAll_snoc, HLO.out, HHI.out, HE.out]
          exact storeU HU.out (by omega) (by omega) (by omega)
        case measure => simp [intOf]; omega
      | succ k =>
        have hkp : k < (rsOf s).length := by omega
        obtain ⟨hp, hhp⟩ : ∃ hp, (rsOf s)[k].2 = hp := ⟨_, rfl⟩
        have hap := rsOf_apart s k hkl
        rw [hhp, HLO.out] at hap
        have HHP := Lib.hid hhp
        clear hhp
        have hi0 : (0 : Int) ≤ (k : Int) + 1 := by omega
        have hi1 : (k : Int) + 1 < ((rsOf s).length : Int) := by omega
        go_wp2_with fail
        refine region_steps (S := SU w s g A u) (by kernel_rfl) (drewU hU) ?_
        simp only [List.size_toArray, List.length_cons, List.length_nil, Nat.reduceAdd, Array.replicate_succ, Array.replicate_zero, List.push_toArray, List.nil_append, List.cons_append]
        refine AnyS.next (i := 0) (d := some 14) (v := .slice (some ⟨g, 0, none⟩) (rsOf s).length cap) rfl rfl (by kernel_rfl) (by kernel_rfl) (by kernel_rfl) (StepsIf.yield (by kernel_rfl) (fun w' hS => by clear hS; go_simp)) ?_
        intro a' ha'
        simp only [Act.put, List.setIfInBounds_toArray, List.set_cons_zero, List.set_cons_succ] at ha'
        subst ha'
        refine AnyS.next (i := 1) (d := some 15) (v := .int .i64 (((k + 1) : Nat) : Int)) rfl rfl (by kernel_rfl) (by kernel_rfl) (by kernel_rfl) (StepsIf.yield (by kernel_rfl) (fun w' hS => by clear hS; go_simp)) ?_
        intro a' ha'
        simp only [Act.put, List.setIfInBounds_toArray, List.set_cons_zero, List.set_cons_succ] at ha'
        subst ha'
        refine AnyS.next (i := 2) (d := some 16) (v := .pointer (some ⟨g, (k + 1) * 2, none⟩)) rfl rfl (by kernel_rfl) (by kernel_rfl) (by kernel_rfl) (StepsIf.yield (by kernel_rfl) (fun w' hS => by clear hS; go_simp)) ?_
        intro a' ha'
        simp only [Act.put, List.setIfInBounds_toArray, List.set_cons_zero, List.set_cons_succ] at ha'
        subst ha'
        refine AnyS.next (i := 3) (d := some 17) (v := .pointer (some ⟨g, (k + 1) * 2, none⟩)) rfl rfl (by kernel_rfl) (by kernel_rfl) (by kernel_rfl) (StepsIf.yield (by kernel_rfl) (fun w' hS => by clear hS; go_simp)) ?_
        intro a' ha'
        simp only [Act.put, List.setIfInBounds_toArray, List.set_cons_zero, List.set_cons_succ] at ha'
        subst ha'
        refine AnyS.next (i := 4) (d := some 18) (v := .int .u8 (lo : Nat)) rfl rfl (by kernel_rfl) (by kernel_rfl) (by kernel_rfl) (StepsIf.yield (by kernel_rfl) (fun w' hS => by have hc := (hS.1.2.2.2 (k + 1) hkl).1; rw [HLO.out] at hc; clear hS; go_simp)) ?_
        intro a' ha'
        simp only [Act.put, List.setIfInBounds_toArray, List.set_cons_zero, List.set_cons_succ] at ha'
        subst ha'
        refine AnyS.next (i := 5) (d := some 19) (v := .slice (some ⟨g, 0, none⟩) (rsOf s).length cap) rfl rfl (by kernel_rfl) (by kernel_rfl) (by kernel_rfl) (StepsIf.yield (by kernel_rfl) (fun w' hS => by clear hS; go_simp)) ?_
        intro a' ha'
        simp only [Act.put, List.setIfInBounds_toArray, List.set_cons_zero, List.set_cons_succ] at ha'
        subst ha'
        refine AnyS.next (i := 6) (d := some 20) (v := .int .i64 (((k + 1) : Nat) : Int)) rfl rfl (by kernel_rfl) (by kernel_rfl) (by kernel_rfl) (StepsIf.yield (by kernel_rfl) (fun w' hS => by clear hS; go_simp)) ?_
        intro a' ha'
        simp only [Act.put, List.setIfInBounds_toArray, List.set_cons_zero, List.set_cons_succ] at ha'
        subst ha'
        refine AnyS.next (i := 7) (d := some 21) (v := .pointer (some ⟨g, (k + 1) * 2, none⟩)) rfl rfl (by kernel_rfl) (by kernel_rfl) (by kernel_rfl) (StepsIf.yield (by kernel_rfl) (fun w' hS => by clear hS; go_simp)) ?_
        intro a' ha'
        simp only [Act.put, List.setIfInBounds_toArray, List.set_cons_zero, List.set_cons_succ] at ha'
        subst ha'
        refine AnyS.next (i := 8) (d := some 22) (v := .pointer (some ⟨g, (k + 1) * 2 + 1, none⟩)) rfl rfl (by kernel_rfl) (by kernel_rfl) (by kernel_rfl) (StepsIf.yield (by kernel_rfl) (fun w' hS => by clear hS; go_simp)) ?_
        intro a' ha'
        simp only [Act.put, List.setIfInBounds_toArray, List.set_cons_zero, List.set_cons_succ] at ha'
        subst ha'
        refine AnyS.next (i := 9) (d := some 23) (v := .int .u8 (hi : Nat)) rfl rfl (by kernel_rfl) (by kernel_rfl) (by kernel_rfl) (StepsIf.yield (by kernel_rfl) (fun w' hS => by have hc := (hS.1.2.2.2 (k + 1) hkl).2; rw [HHI.out] at hc; clear hS; go_simp)) ?_
        intro a' ha'
        simp only [Act.put, List.setIfInBounds_toArray, List.set_cons_zero, List.set_cons_succ] at ha'
        subst ha'
        refine AnyS.next (i := 10) (d := some 24) (v := .bool false) rfl rfl (by kernel_rfl) (by kernel_rfl) (by kernel_rfl) (StepsIf.yield (by kernel_rfl) (fun w' hS => by clear hS; have q : decide ((hi : Int) < (lo : Int)) = false := (by rw [decide_eq_false_iff_not]; omega); go_simp)) ?_
        intro a' ha'
        simp only [Act.put, List.setIfInBounds_toArray, List.set_cons_zero, List.set_cons_succ] at ha'
        subst ha'
        refine AnyS.next (i := 11) (d := some 25) (v := .bool false) rfl rfl (by kernel_rfl) (by kernel_rfl) (by kernel_rfl) (StepsIf.yield (by kernel_rfl) (fun w' hS => by clear hS; go_simp)) ?_
        intro a' ha'
        simp only [Act.put, List.setIfInBounds_toArray, List.set_cons_zero, List.set_cons_succ] at ha'
        subst ha'
        refine AnyS.next (i := 12) (d := some 26) (v := .int .i64 (((k + 1) : Nat) : Int)) rfl rfl (by kernel_rfl) (by kernel_rfl) (by kernel_rfl) (StepsIf.yield (by kernel_rfl) (fun w' hS => by clear hS; go_simp)) ?_
        intro a' ha'
        simp only [Act.put, List.setIfInBounds_toArray, List.set_cons_zero, List.set_cons_succ] at ha'
        subst ha'
        refine AnyS.next (i := 13) (d := some 27) (v := .bool true) rfl rfl (by kernel_rfl) (by kernel_rfl) (by kernel_rfl) (StepsIf.yield (by kernel_rfl) (fun w' hS => by clear hS; go_simp)) ?_
        intro a' ha'
        simp only [Act.put, List.setIfInBounds_toArray, List.set_cons_zero, List.set_cons_succ] at ha'
        subst ha'
        refine AnyS.next (i := 14) (d := some 28) (v := .bool true) rfl rfl (by kernel_rfl) (by kernel_rfl) (by kernel_rfl) (StepsIf.yield (by kernel_rfl) (fun w' hS => by clear hS; go_simp)) ?_
        intro a' ha'
        simp only [Act.put, List.setIfInBounds_toArray, List.set_cons_zero, List.set_cons_succ] at ha'
        subst ha'
        refine AnyS.next (i := 15) (d := some 29) (v := .slice (some ⟨g, 0, none⟩) (rsOf s).length cap) rfl rfl (by kernel_rfl) (by kernel_rfl) (by kernel_rfl) (StepsIf.yield (by kernel_rfl) (fun w' hS => by clear hS; go_simp)) ?_
        intro a' ha'
        simp only [Act.put, List.setIfInBounds_toArray, List.set_cons_zero, List.set_cons_succ] at ha'
        subst ha'
        refine AnyS.next (i := 16) (d := some 30) (v := .int .i64 (((k + 1) : Nat) : Int)) rfl rfl (by kernel_rfl) (by kernel_rfl) (by kernel_rfl) (StepsIf.yield (by kernel_rfl) (fun w' hS => by clear hS; go_simp)) ?_
        intro a' ha'
        simp only [Act.put, List.setIfInBounds_toArray, List.set_cons_zero, List.set_cons_succ] at ha'
        subst ha'
        refine AnyS.next (i := 17) (d := some 31) (v := .pointer (some ⟨g, (k + 1) * 2, none⟩)) rfl rfl (by kernel_rfl) (by kernel_rfl) (by kernel_rfl) (StepsIf.yield (by kernel_rfl) (fun w' hS => by clear hS; go_simp)) ?_
        intro a' ha'
        simp only [Act.put, List.setIfInBounds_toArray, List.set_cons_zero, List.set_cons_succ] at ha'
        subst ha'
        refine AnyS.next (i := 18) (d := some 32) (v := .pointer (some ⟨g, (k + 1) * 2, none⟩)) rfl rfl (by kernel_rfl) (by kernel_rfl) (by kernel_rfl) (StepsIf.yield (by kernel_rfl) (fun w' hS => by clear hS; go_simp)) ?_
        intro a' ha'
        simp only [Act.put, List.setIfInBounds_toArray, List.set_cons_zero, List.set_cons_succ] at ha'
        subst ha'
        refine AnyS.next (i := 19) (d := some 33) (v := .int .u8 (lo : Nat)) rfl rfl (by kernel_rfl) (by kernel_rfl) (by kernel_rfl) (StepsIf.yield (by kernel_rfl) (fun w' hS => by have hc := (hS.1.2.2.2 (k + 1) hkl).1; rw [HLO.out] at hc; clear hS; go_simp)) ?_
        intro a' ha'
        simp only [Act.put, List.setIfInBounds_toArray, List.set_cons_zero, List.set_cons_succ] at ha'
        subst ha'
        refine AnyS.next (i := 20) (d := some 34) (v := .int .i64 (lo : Nat)) rfl rfl (by kernel_rfl) (by kernel_rfl) (by kernel_rfl) (StepsIf.yield (by kernel_rfl) (fun w' hS => by clear hS; go_simp; exact IntWalk.i64_in _ (by omega))) ?_
        intro a' ha'
        simp only [Act.put, List.setIfInBounds_toArray, List.set_cons_zero, List.set_cons_succ] at ha'
        subst ha'
        refine AnyS.next (i := 21) (d := some 35) (v := .slice (some ⟨g, 0, none⟩) (rsOf s).length cap) rfl rfl (by kernel_rfl) (by kernel_rfl) (by kernel_rfl) (StepsIf.yield (by kernel_rfl) (fun w' hS => by clear hS; go_simp)) ?_
        intro a' ha'
        simp only [Act.put, List.setIfInBounds_toArray, List.set_cons_zero, List.set_cons_succ] at ha'
        subst ha'
        refine AnyS.next (i := 22) (d := some 36) (v := .int .i64 (((k + 1) : Nat) : Int)) rfl rfl (by kernel_rfl) (by kernel_rfl) (by kernel_rfl) (StepsIf.yield (by kernel_rfl) (fun w' hS => by clear hS; go_simp)) ?_
        intro a' ha'
        simp only [Act.put, List.setIfInBounds_toArray, List.set_cons_zero, List.set_cons_succ] at ha'
        subst ha'
        refine AnyS.next (i := 23) (d := some 37) (v := .int .i64 (k : Nat)) rfl rfl (by kernel_rfl) (by kernel_rfl) (by kernel_rfl) (StepsIf.yield (by kernel_rfl) (fun w' hS => by clear hS; go_simp; exact IntWalk.i64_in _ (by omega))) ?_
        intro a' ha'
        simp only [Act.put, List.setIfInBounds_toArray, List.set_cons_zero, List.set_cons_succ] at ha'
        subst ha'
        refine AnyS.next (i := 24) (d := some 38) (v := .pointer (some ⟨g, k * 2, none⟩)) rfl rfl (by kernel_rfl) (by kernel_rfl) (by kernel_rfl) (StepsIf.yield (by kernel_rfl) (fun w' hS => by clear hS; go_simp)) ?_
        intro a' ha'
        simp only [Act.put, List.setIfInBounds_toArray, List.set_cons_zero, List.set_cons_succ] at ha'
        subst ha'
        refine AnyS.next (i := 25) (d := some 39) (v := .pointer (some ⟨g, k * 2 + 1, none⟩)) rfl rfl (by kernel_rfl) (by kernel_rfl) (by kernel_rfl) (StepsIf.yield (by kernel_rfl) (fun w' hS => by clear hS; go_simp)) ?_
        intro a' ha'
        simp only [Act.put, List.setIfInBounds_toArray, List.set_cons_zero, List.set_cons_succ] at ha'
        subst ha'
        refine AnyS.next (i := 26) (d := some 40) (v := .int .u8 (hp : Nat)) rfl rfl (by kernel_rfl) (by kernel_rfl) (by kernel_rfl) (StepsIf.yield (by kernel_rfl) (fun w' hS => by have hc := (hS.1.2.2.2 k hkp).2; rw [HHP.out] at hc; clear hS; go_simp)) ?_
        intro a' ha'
        simp only [Act.put, List.setIfInBounds_toArray, List.set_cons_zero, List.set_cons_succ] at ha'
        subst ha'
        refine AnyS.next (i := 27) (d := some 41) (v := .int .i64 (hp : Nat)) rfl rfl (by kernel_rfl) (by kernel_rfl) (by kernel_rfl) (StepsIf.yield (by kernel_rfl) (fun w' hS => by clear hS; go_simp; exact IntWalk.i64_in _ (by omega))) ?_
        intro a' ha'
        simp only [Act.put, List.setIfInBounds_toArray, List.set_cons_zero, List.set_cons_succ] at ha'
        subst ha'
        refine AnyS.next (i := 28) (d := some 42) (v := .int .i64 ((hp : Nat) + 2 : Int)) rfl rfl (by kernel_rfl) (by kernel_rfl) (by kernel_rfl) (StepsIf.yield (by kernel_rfl) (fun w' hS => by clear hS; go_simp; exact IntWalk.i64_in _ (by omega))) ?_
        intro a' ha'
        simp only [Act.put, List.setIfInBounds_toArray, List.set_cons_zero, List.set_cons_succ] at ha'
        subst ha'
        refine AnyS.next (i := 29) (d := some 43) (v := .bool false) rfl rfl (by kernel_rfl) (by kernel_rfl) (by kernel_rfl) (StepsIf.yield (by kernel_rfl) (fun w' hS => by clear hS; have q : decide ((lo : Int) < (hp : Int) + 2) = false := (by rw [decide_eq_false_iff_not]; omega); go_simp)) ?_
        intro a' ha'
        simp only [Act.put, List.setIfInBounds_toArray, List.set_cons_zero, List.set_cons_succ] at ha'
        subst ha'
        refine AnyS.next (i := 30) (d := some 44) (v := .bool false) rfl rfl (by kernel_rfl) (by kernel_rfl) (by kernel_rfl) (StepsIf.yield (by kernel_rfl) (fun w' hS => by clear hS; go_simp)) ?_
        intro a' ha'
        simp only [Act.put, List.setIfInBounds_toArray, List.set_cons_zero, List.set_cons_succ] at ha'
        subst ha'
        refine AnyS.next (i := 31) (d := some 45) (v := .bool false) rfl rfl (by kernel_rfl) (by kernel_rfl) (by kernel_rfl) (StepsIf.yield (by kernel_rfl) (fun w' hS => by clear hS; go_simp)) ?_
        intro a' ha'
        simp only [Act.put, List.setIfInBounds_toArray, List.set_cons_zero, List.set_cons_succ] at ha'
        subst ha'
        refine AnyS.done (by kernel_rfl) ?_ _
        clear hU
        intro w2 hU
        go_wp2_with fail
        refine region_stepsM (S := SU w s g A u) (m := 13) rfl (by kernel_rfl) (drewU hU) ?_
        simp only [List.size_toArray, List.length_cons, List.length_nil, Nat.reduceAdd, Array.replicate_succ, Array.replicate_zero, List.push_toArray, List.nil_append, List.cons_append]
        refine AnyM.next (m := 13) (i := 0) (d := some 46) (v := setV u) rfl rfl (by kernel_rfl) (by kernel_rfl) (by kernel_rfl) (by kernel_rfl) (StepsIf.yield (by kernel_rfl) (fun w' hS => by obtain ⟨⟨c0, c1, c2, c3⟩, _⟩ := hS.1.2.1.cells4; clear hS; go_simp)) ?_
        intro a' ha'
        simp only [Act.put, List.setIfInBounds_toArray, List.set_cons_zero, List.set_cons_succ] at ha'
        subst ha'
        refine AnyM.next (m := 13) (i := 1) (d := some 47) (v := .slice (some ⟨g, 0, none⟩) (rsOf s).length cap) rfl rfl (by kernel_rfl) (by kernel_rfl) (by kernel_rfl) (by kernel_rfl) (StepsIf.yield (by kernel_rfl) (fun w' hS => by clear hS; go_simp)) ?_
        intro a' ha'
        simp only [Act.put, List.setIfInBounds_toArray, List.set_cons_zero, List.set_cons_succ] at ha'
        subst ha'
        refine AnyM.next (m := 13) (i := 2) (d := some 48) (v := .int .i64 (((k + 1) : Nat) : Int)) rfl rfl (by kernel_rfl) (by kernel_rfl) (by kernel_rfl) (by kernel_rfl) (StepsIf.yield (by kernel_rfl) (fun w' hS => by clear hS; go_simp)) ?_
        intro a' ha'
        simp only [Act.put, List.setIfInBounds_toArray, List.set_cons_zero, List.set_cons_succ] at ha'
        subst ha'
        refine AnyM.next (m := 13) (i := 3) (d := some 49) (v := .pointer (some ⟨g, (k + 1) * 2, none⟩)) rfl rfl (by kernel_rfl) (by kernel_rfl) (by kernel_rfl) (by kernel_rfl) (StepsIf.yield (by kernel_rfl) (fun w' hS => by clear hS; go_simp)) ?_
        intro a' ha'
        simp only [Act.put, List.setIfInBounds_toArray, List.set_cons_zero, List.set_cons_succ] at ha'
        subst ha'
        refine AnyM.next (m := 13) (i := 4) (d := some 50) (v := .pointer (some ⟨g, (k + 1) * 2, none⟩)) rfl rfl (by kernel_rfl) (by kernel_rfl) (by kernel_rfl) (by kernel_rfl) (StepsIf.yield (by kernel_rfl) (fun w' hS => by clear hS; go_simp)) ?_
        intro a' ha'
        simp only [Act.put, List.setIfInBounds_toArray, List.set_cons_zero, List.set_cons_succ] at ha'
        subst ha'
        refine AnyM.next (m := 13) (i := 5) (d := some 51) (v := .int .u8 (lo : Nat)) rfl rfl (by kernel_rfl) (by kernel_rfl) (by kernel_rfl) (by kernel_rfl) (StepsIf.yield (by kernel_rfl) (fun w' hS => by have hc := (hS.1.2.2.2 (k + 1) hkl).1; rw [HLO.out] at hc; clear hS; go_simp)) ?_
        intro a' ha'
        simp only [Act.put, List.setIfInBounds_toArray, List.set_cons_zero, List.set_cons_succ] at ha'
        subst ha'
        refine AnyM.next (m := 13) (i := 6) (d := some 52) (v := .slice (some ⟨g, 0, none⟩) (rsOf s).length cap) rfl rfl (by kernel_rfl) (by kernel_rfl) (by kernel_rfl) (by kernel_rfl) (StepsIf.yield (by kernel_rfl) (fun w' hS => by clear hS; go_simp)) ?_
        intro a' ha'
        simp only [Act.put, List.setIfInBounds_toArray, List.set_cons_zero, List.set_cons_succ] at ha'
        subst ha'
        refine AnyM.next (m := 13) (i := 7) (d := some 53) (v := .int .i64 (((k + 1) : Nat) : Int)) rfl rfl (by kernel_rfl) (by kernel_rfl) (by kernel_rfl) (by kernel_rfl) (StepsIf.yield (by kernel_rfl) (fun w' hS => by clear hS; go_simp)) ?_
        intro a' ha'
        simp only [Act.put, List.setIfInBounds_toArray, List.set_cons_zero, List.set_cons_succ] at ha'
        subst ha'
        refine AnyM.next (m := 13) (i := 8) (d := some 54) (v := .pointer (some ⟨g, (k + 1) * 2, none⟩)) rfl rfl (by kernel_rfl) (by kernel_rfl) (by kernel_rfl) (by kernel_rfl) (StepsIf.yield (by kernel_rfl) (fun w' hS => by clear hS; go_simp)) ?_
        intro a' ha'
        simp only [Act.put, List.setIfInBounds_toArray, List.set_cons_zero, List.set_cons_succ] at ha'
        subst ha'
        refine AnyM.next (m := 13) (i := 9) (d := some 55) (v := .pointer (some ⟨g, (k + 1) * 2 + 1, none⟩)) rfl rfl (by kernel_rfl) (by kernel_rfl) (by kernel_rfl) (by kernel_rfl) (StepsIf.yield (by kernel_rfl) (fun w' hS => by clear hS; go_simp)) ?_
        intro a' ha'
        simp only [Act.put, List.setIfInBounds_toArray, List.set_cons_zero, List.set_cons_succ] at ha'
        subst ha'
        refine AnyM.next (m := 13) (i := 10) (d := some 56) (v := .int .u8 (hi : Nat)) rfl rfl (by kernel_rfl) (by kernel_rfl) (by kernel_rfl) (by kernel_rfl) (StepsIf.yield (by kernel_rfl) (fun w' hS => by have hc := (hS.1.2.2.2 (k + 1) hkl).2; rw [HHI.out] at hc; clear hS; go_simp)) ?_
        intro a' ha'
        simp only [Act.put, List.setIfInBounds_toArray, List.set_cons_zero, List.set_cons_succ] at ha'
        subst ha'
        refine AnyM.next (m := 13) (i := 11) (d := some 57) (v := setV (range lo hi)) rfl rfl (by kernel_rfl) (by kernel_rfl) (by kernel_rfl) (by kernel_rfl) (StepsIf.call (by kernel_rfl) (fun w' hS => by clear hS; go_simp) (fun w' hS => (range_calls lo hi w' (by omega) (by omega) (by omega) (by omega)).mono fun e w'' h => ⟨h.1, keepU hS h.2⟩)) ?_
        intro a' ha'
        simp only [Act.put, List.setIfInBounds_toArray, List.set_cons_zero, List.set_cons_succ] at ha'
        subst ha'
        refine AnyM.next (m := 13) (i := 12) (d := some 58) (v := setV (u ||| range lo hi)) rfl rfl (by kernel_rfl) (by kernel_rfl) (by kernel_rfl) (by kernel_rfl) (StepsIf.call (by kernel_rfl) (fun w' hS => by clear hS; go_simp) (fun w' hS => (or_calls u (range lo hi) w').mono fun e w'' h => ⟨h.1, keepU hS h.2⟩)) ?_
        intro a' ha'
        simp only [Act.put, List.setIfInBounds_toArray, List.set_cons_zero, List.set_cons_succ] at ha'
        subst ha'
        clear hU
        refine AnyM.last rfl (by kernel_rfl) (by kernel_rfl) (by kernel_rfl) (fun w3 hU K hK => ?_)
        obtain ⟨⟨c0, c1, c2, c3⟩, f0, f1, f2, f3⟩ := hU.1.2.1.cells4
        have HU := Lib.hid hU
        clear hU
        go_simp
        refine hK _ _ ?_
        clear hK K
        go_wp2
        go_roundw
        case rel =>
          refine ⟨(k + 1) + 1, by omega, by simp, ?_⟩
          rw [List.take_succ_eq_append_getElem hkl, orAll_snoc, HLO.out, HHI.out, HE.out]
          exact storeU HU.out (by omega) (by omega) (by omega)
        case measure => simp [intOf]; omega
    · obtain rfl : k = (rsOf s).length := by omega
      rw [List.take_length, orAll_rsOf] at hU
      have hq := eq_set_same
      obtain ⟨⟨c0, c1, c2, c3⟩, _⟩ := hU.1.1.cells4
      obtain ⟨⟨d0, d1, d2, d3⟩, _⟩ := hU.1.2.1.cells4
      have HU := Lib.hid hU
      clear hU HA hkl
      go_wp2_with (go_at_call 19; refine (sure_calls _ (HT.out.keep HU.out.2 hg) (Nat.lt_of_lt_of_le hg HU.out.2.size)).mono ?_; rintro e w4 ⟨rfl, hb4⟩)
      go_ret
      exact ⟨rfl, HU.out.2.trans (hb4.mono HU.out.2.size)⟩
end Go.Proofs.YtohmookilchpdaaDoor

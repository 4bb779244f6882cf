/- ClassNames: each name is found by its class, and told once, ascending; all that begins it begins one; graph is alnum and punct. -/
import Derived.Test.YtcccfhpabikbjaaCl
import Derived.Test.YtcccfhpabikbjaaCw
import Derived.Deep.DeepCutAuto
import Derived.WalkLawsBesides
namespace Go.Proofs.Ytcccfhpabikbjaa
open Go.RowKit Go.Shelf BS

theorem fnd_self : ∀ k, k < 12 → fndS (tE k).2 = (tE k).1 := by decide +kernel
theorem less_prev : ∀ k, k < 11 → Op.bytesLess (tE k).1.toList (tE (k + 1)).1.toList = true := by decide +kernel
theorem beg_all : ∀ k, k < 12 → ∀ c, c < 7 → begB ((tE k).1.extract 0 c) = true := by decide +kernel
theorem size_all : ∀ k, k < 12 → (tE k).1.size < 7 := by decide +kernel
theorem less_full : ∀ k, k < 12 → (tE k).2 &&& ~~~fullS = zSet := by decide +kernel
theorem gra_or : cAln ||| cPun = cGra := by decide +kernel
theorem gra_and : cAln &&& cPun = zSet := by decide +kernel
theorem orG (w : World) : Calls Try.prog 15 #[setV cAln, setV cPun] w fun e w' => e = .returned (setV cGra) ∧ Below w.heap.size w w' := by have h := or_calls cAln cPun w; rw [gra_or] at h; exact h
theorem andG (w : World) : Calls Try.prog 16 #[setV cAln, setV cPun] w fun e w' => e = .returned (setV zSet) ∧ Below w.heap.size w w' := by have h := and_calls cAln cPun w; rw [gra_and] at h; exact h

set_option maxRecDepth 100000 in
set_option maxHeartbeats 16000000 in
theorem names2_calls (i cut : Int) (hi1 : -9223372036854775808 ≤ i) (hi2 : i ≤ 9223372036854775807) (hc1 : -9223372036854775808 ≤ cut) (hc2 : cut ≤ 9223372036854775807) (w : World) :
    Calls Try.prog 5 #[.int .i64 i, .int .i64 cut] w fun e w' => e = .returned (.bool true) ∧ Below w.heap.size w w' := by
  go_enter Try.func5, Try.ntmps5
  go_wp2_with fail
  refine (cNames_calls _).mono ?_
  rintro e w1 ⟨g, rfl, ⟨hg, hN⟩, hb1⟩
  have hgl := Blk.lt hN
  have HN : Hid (NamAt g w1) := Lib.hid hN
  have HB := Lib.hid hb1
  have hz1 := hb1.size
  clear hN hb1
  by_cases hi0 : i < 0
  · have q : decide (i < 0) = true := by simpa using hi0
    go_wp2_with fail
    refine (sure2_calls _).mono ?_
    rintro e w2 ⟨rfl, hb2⟩
    go_wp2
    go_ret
    exact ⟨rfl, HB.out.trans (hb2.mono hz1)⟩
  obtain ⟨k, rfl⟩ := Int.eq_ofNat_of_zero_le (show 0 ≤ i by omega)
  by_cases hk : 12 ≤ k
  · have q : decide ((12 : Int) ≤ (k : Int)) = true := by simp; omega
    go_wp2_with fail
    refine (sure2_calls _).mono ?_
    rintro e w2 ⟨rfl, hb2⟩
    go_wp2
    go_ret
    exact ⟨rfl, HB.out.trans (hb2.mono hz1)⟩
  have q : decide ((12 : Int) ≤ (k : Int)) = false := by simp; omega
  have hkl : k < 12 := by omega
  have hcn := HN.out.cell k hkl
  have A1 := Lib.hid (ofC (tE k).1 (tE k).2 true (ofS_self k hkl) (ofB_self k hkl))
  have A2 := Lib.hid (findC (tE k).2 (tE k).1 (fnd_self k hkl))
  have A4 := Lib.hid (beg_all k hkl)
  have A5 := Lib.hid (less_full k hkl)
  have hsz := size_all k hkl
  generalize hnm : (tE k).1 = nm at hcn A1 A2 A4 hsz
  generalize hst : (tE k).2 = st at A1 A2 A5
  have HNM := Lib.hid hnm
  clear hnm hst
  go_wp2_with fail
  refine (A1.out _).mono ?_
  rintro e w2 ⟨rfl, hb2⟩
  have BT := Lib.hid (Blk.new w2 (setA st) 25)
  have HN2 : Hid (NamAt g (w2.alloc (.cells (setA st) 25))) := Lib.hid (Blk.alloc (Blk.below HN.out hb2 hgl) _)
  have HB2 := Lib.hid ((HB.out.trans (hb2.mono hz1)).alloc (by have := hb2.size; omega) (.cells (setA st) 25))
  have hz2 : w.heap.size ≤ (w2.alloc (.cells (setA st) 25)).heap.size := by have := hb2.size; simp; omega
  clear hb2 HB HN hcn
  go_upto_region 5 with fail
  have e0 : (w2.alloc (.cells #[.int .u64 (wd st 0), .int .u64 (wd st 1), .int .u64 (wd st 2), .int .u64 (wd st 3)] 25)) = w2.alloc (.cells (setA st) 25) := rfl
  rw [e0]
  clear e0
  generalize w2.heap.size = B6 at *
  generalize w2.alloc (.cells (setA st) 25) = w3 at *
  go_cut [58] from 32 to 57 (fun s58 wx => s58 = .bool false ∧ Below w3.heap.size w3 wx)
  case first =>
    cases k with
    | zero =>
      refine region_steps (S := fun W => Below w3.heap.size w3 W) (by kernel_rfl) (Below.refl _ _).drew ?_
      simp only [List.size_toArray, List.length_cons, List.length_nil, Nat.reduceAdd, Array.replicate_succ, Array.replicate_zero, List.push_toArray, List.nil_append, List.cons_append]
      refine AnyS.next (i := 0) (d := some 32) (v := .bool true) rfl rfl (by kernel_rfl) (by kernel_rfl) (by kernel_rfl) (StepsIf.yield (by kernel_rfl) (fun w' hS => by clear hS; go_simp)) ?_
      intro a' ha'
      simp only [Act.put, List.setIfInBounds_toArray, List.set_cons_zero, List.set_cons_succ] at ha'
      subst ha'
      refine AnyS.next (i := 1) (d := some 33) (v := .bool false) rfl rfl (by kernel_rfl) (by kernel_rfl) (by kernel_rfl) (StepsIf.yield (by kernel_rfl) (fun w' hS => by clear hS; go_simp)) ?_
      intro a' ha'
      simp only [Act.put, List.setIfInBounds_toArray, List.set_cons_zero, List.set_cons_succ] at ha'
      subst ha'
      refine AnyS.next (i := 2) (d := some 34) (v := .bool false) rfl rfl (by kernel_rfl) (by kernel_rfl) (by kernel_rfl) (StepsIf.yield (by kernel_rfl) (fun w' hS => by clear hS; go_simp)) ?_
      intro a' ha'
      simp only [Act.put, List.setIfInBounds_toArray, List.set_cons_zero, List.set_cons_succ] at ha'
      subst ha'
      refine AnyS.next (i := 3) (d := some 35) (v := setV st) rfl rfl (by kernel_rfl) (by kernel_rfl) (by kernel_rfl) (StepsIf.yield (by kernel_rfl) (fun w' hS => by obtain ⟨⟨c0, c1, c2, c3⟩, _⟩ := (BT.out.below hS (Blk.lt BT.out)).cells4; clear hS; go_simp)) ?_
      intro a' ha'
      simp only [Act.put, List.setIfInBounds_toArray, List.set_cons_zero, List.set_cons_succ] at ha'
      subst ha'
      refine AnyS.next (i := 4) (d := some 36) (v := .string nm) rfl rfl (by kernel_rfl) (by kernel_rfl) (by kernel_rfl) (StepsIf.call (by kernel_rfl) (fun w' hS => by clear hS; go_simp) (fun w' hS => (A2.out w').mono fun e w'' h => ⟨h.1, hS.trans (h.2.mono hS.size)⟩)) ?_
      intro a' ha'
      simp only [Act.put, List.setIfInBounds_toArray, List.set_cons_zero, List.set_cons_succ] at ha'
      subst ha'
      refine AnyS.next (i := 5) (d := some 37) (v := .slice (some ⟨g, 0, none⟩) 12 12) rfl rfl (by kernel_rfl) (by kernel_rfl) (by kernel_rfl) (StepsIf.yield (by kernel_rfl) (fun w' hS => by clear hS; go_simp)) ?_
      intro a' ha'
      simp only [Act.put, List.setIfInBounds_toArray, List.set_cons_zero, List.set_cons_succ] at ha'
      subst ha'
      refine AnyS.next (i := 6) (d := some 38) (v := .int .i64 ((0 : Nat) : Int)) rfl rfl (by kernel_rfl) (by kernel_rfl) (by kernel_rfl) (StepsIf.yield (by kernel_rfl) (fun w' hS => by clear hS; go_simp)) ?_
      intro a' ha'
      simp only [Act.put, List.setIfInBounds_toArray, List.set_cons_zero, List.set_cons_succ] at ha'
      subst ha'
      refine AnyS.next (i := 7) (d := some 39) (v := .pointer (some ⟨g, 0, none⟩)) rfl rfl (by kernel_rfl) (by kernel_rfl) (by kernel_rfl) (StepsIf.yield (by kernel_rfl) (fun w' hS => by clear hS; go_simp)) ?_
      intro a' ha'
      simp only [Act.put, List.setIfInBounds_toArray, List.set_cons_zero, List.set_cons_succ] at ha'
      subst ha'
      refine AnyS.next (i := 8) (d := some 40) (v := .string nm) rfl rfl (by kernel_rfl) (by kernel_rfl) (by kernel_rfl) (StepsIf.yield (by kernel_rfl) (fun w' hS => by have hc := NamAt.cell (show NamAt g w' from Blk.below HN2.out hS (Blk.lt HN2.out)) 0 hkl; rw [HNM.out] at hc; clear hS; go_simp)) ?_
      intro a' ha'
      simp only [Act.put, List.setIfInBounds_toArray, List.set_cons_zero, List.set_cons_succ] at ha'
      subst ha'
      refine AnyS.next (i := 9) (d := some 41) (v := .bool false) rfl rfl (by kernel_rfl) (by kernel_rfl) (by kernel_rfl) (StepsIf.yield (by kernel_rfl) (fun w' hS => by clear hS; go_simp)) ?_
      intro a' ha'
      simp only [Act.put, List.setIfInBounds_toArray, List.set_cons_zero, List.set_cons_succ] at ha'
      subst ha'
      refine AnyS.next (i := 10) (d := some 42) (v := .bool false) rfl rfl (by kernel_rfl) (by kernel_rfl) (by kernel_rfl) (StepsIf.yield (by kernel_rfl) (fun w' hS => by clear hS; go_simp)) ?_
      intro a' ha'
      simp only [Act.put, List.setIfInBounds_toArray, List.set_cons_zero, List.set_cons_succ] at ha'
      subst ha'
      refine AnyS.next (i := 11) (d := some 43) (v := .bool false) rfl rfl (by kernel_rfl) (by kernel_rfl) (by kernel_rfl) (StepsIf.yield (by kernel_rfl) (fun w' hS => by clear hS; go_simp)) ?_
      intro a' ha'
      simp only [Act.put, List.setIfInBounds_toArray, List.set_cons_zero, List.set_cons_succ] at ha'
      subst ha'
      refine AnyS.next (i := 12) (d := some 44) (v := .int .i64 ((0 : Nat) : Int)) rfl rfl (by kernel_rfl) (by kernel_rfl) (by kernel_rfl) (StepsIf.yield (by kernel_rfl) (fun w' hS => by clear hS; go_simp)) ?_
      intro a' ha'
      simp only [Act.put, List.setIfInBounds_toArray, List.set_cons_zero, List.set_cons_succ] at ha'
      subst ha'
      refine AnyS.next (i := 13) (d := some 45) (v := .bool false) rfl rfl (by kernel_rfl) (by kernel_rfl) (by kernel_rfl) (StepsIf.yield (by kernel_rfl) (fun w' hS => by clear hS; go_simp)) ?_
      intro a' ha'
      simp only [Act.put, List.setIfInBounds_toArray, List.set_cons_zero, List.set_cons_succ] at ha'
      subst ha'
      refine AnyS.next (i := 14) (d := some 46) (v := .bool false) rfl rfl (by kernel_rfl) (by kernel_rfl) (by kernel_rfl) (StepsIf.yield (by kernel_rfl) (fun w' hS => by clear hS; go_simp)) ?_
      intro a' ha'
      simp only [Act.put, List.setIfInBounds_toArray, List.set_cons_zero, List.set_cons_succ] at ha'
      subst ha'
      refine AnyS.next (i := 15) (d := some 47) (v := undef) rfl rfl (by kernel_rfl) (by kernel_rfl) (by kernel_rfl) (StepsIf.no (by kernel_rfl)) ?_
      intro a' ha'
      simp only [Act.put, List.setIfInBounds_toArray, List.set_cons_zero, List.set_cons_succ] at ha'
      subst ha'
      refine AnyS.next (i := 16) (d := some 48) (v := undef) rfl rfl (by kernel_rfl) (by kernel_rfl) (by kernel_rfl) (StepsIf.no (by kernel_rfl)) ?_
      intro a' ha'
      simp only [Act.put, List.setIfInBounds_toArray, List.set_cons_zero, List.set_cons_succ] at ha'
      subst ha'
      refine AnyS.next (i := 17) (d := some 49) (v := undef) rfl rfl (by kernel_rfl) (by kernel_rfl) (by kernel_rfl) (StepsIf.no (by kernel_rfl)) ?_
      intro a' ha'
      simp only [Act.put, List.setIfInBounds_toArray, List.set_cons_zero, List.set_cons_succ] at ha'
      subst ha'
      refine AnyS.next (i := 18) (d := some 50) (v := undef) rfl rfl (by kernel_rfl) (by kernel_rfl) (by kernel_rfl) (StepsIf.no (by kernel_rfl)) ?_
      intro a' ha'
      simp only [Act.put, List.setIfInBounds_toArray, List.set_cons_zero, List.set_cons_succ] at ha'
      subst ha'
      refine AnyS.next (i := 19) (d := some 51) (v := undef) rfl rfl (by kernel_rfl) (by kernel_rfl) (by kernel_rfl) (StepsIf.no (by kernel_rfl)) ?_
      intro a' ha'
      simp only [Act.put, List.setIfInBounds_toArray, List.set_cons_zero, List.set_cons_succ] at ha'
      subst ha'
      refine AnyS.next (i := 20) (d := some 52) (v := undef) rfl rfl (by kernel_rfl) (by kernel_rfl) (by kernel_rfl) (StepsIf.no (by kernel_rfl)) ?_
      intro a' ha'
      simp only [Act.put, List.setIfInBounds_toArray, List.set_cons_zero, List.set_cons_succ] at ha'
      subst ha'
      refine AnyS.next (i := 21) (d := some 53) (v := undef) rfl rfl (by kernel_rfl) (by kernel_rfl) (by kernel_rfl) (StepsIf.no (by kernel_rfl)) ?_
      intro a' ha'
      simp only [Act.put, List.setIfInBounds_toArray, List.set_cons_zero, List.set_cons_succ] at ha'
      subst ha'
      refine AnyS.next (i := 22) (d := some 54) (v := undef) rfl rfl (by kernel_rfl) (by kernel_rfl) (by kernel_rfl) (StepsIf.no (by kernel_rfl)) ?_
      intro a' ha'
      simp only [Act.put, List.setIfInBounds_toArray, List.set_cons_zero, List.set_cons_succ] at ha'
      subst ha'
      refine AnyS.next (i := 23) (d := some 55) (v := undef) rfl rfl (by kernel_rfl) (by kernel_rfl) (by kernel_rfl) (StepsIf.no (by kernel_rfl)) ?_
      intro a' ha'
      simp only [Act.put, List.setIfInBounds_toArray, List.set_cons_zero, List.set_cons_succ] at ha'
      subst ha'
      refine AnyS.next (i := 24) (d := some 56) (v := undef) rfl rfl (by kernel_rfl) (by kernel_rfl) (by kernel_rfl) (StepsIf.no (by kernel_rfl)) ?_
      intro a' ha'
      simp only [Act.put, List.setIfInBounds_toArray, List.set_cons_zero, List.set_cons_succ] at ha'
      subst ha'
      refine AnyS.next (i := 25) (d := some 57) (v := .bool false) rfl rfl (by kernel_rfl) (by kernel_rfl) (by kernel_rfl) (StepsIf.yield (by kernel_rfl) (fun w' hS => by clear hS; go_simp)) ?_
      intro a' ha'
      simp only [Act.put, List.setIfInBounds_toArray, List.set_cons_zero, List.set_cons_succ] at ha'
      subst ha'
      refine AnyS.next (i := 26) (d := some 58) (v := .bool false) rfl rfl (by kernel_rfl) (by kernel_rfl) (by kernel_rfl) (StepsIf.yield (by kernel_rfl) (fun w' hS => by clear hS; go_simp)) ?_
      intro a' ha'
      simp only [Act.put, List.setIfInBounds_toArray, List.set_cons_zero, List.set_cons_succ] at ha'
      subst ha'
      refine AnyS.done (by kernel_rfl) ?_ _
      intro wx hx
      go_wp2_with fail
      go_meet
      exact ⟨rfl, hx⟩
    | succ k =>
      have hless := less_prev k (by omega)
      rw [HNM.out] at hless
      have hkp : k < 12 := by omega
      generalize hpv : (tE k).1 = pv at hless
      have HPV := Lib.hid hpv
      clear hpv
      have HL := Lib.hid hless
      clear hless
      refine region_steps (S := fun W => Below w3.heap.size w3 W) (by kernel_rfl) (Below.refl _ _).drew ?_
      simp only [List.size_toArray, List.length_cons, List.length_nil, Nat.reduceAdd, Array.replicate_succ, Array.replicate_zero, List.push_toArray, List.nil_append, List.cons_append]
      refine AnyS.next (i := 0) (d := some 32) (v := .bool true) rfl rfl (by kernel_rfl) (by kernel_rfl) (by kernel_rfl) (StepsIf.yield (by kernel_rfl) (fun w' hS => by clear hS; go_simp)) ?_
      intro a' ha'
      simp only [Act.put, List.setIfInBounds_toArray, List.set_cons_zero, List.set_cons_succ] at ha'
      subst ha'
      refine AnyS.next (i := 1) (d := some 33) (v := .bool false) rfl rfl (by kernel_rfl) (by kernel_rfl) (by kernel_rfl) (StepsIf.yield (by kernel_rfl) (fun w' hS => by clear hS; go_simp)) ?_
      intro a' ha'
      simp only [Act.put, List.setIfInBounds_toArray, List.set_cons_zero, List.set_cons_succ] at ha'
      subst ha'
      refine AnyS.next (i := 2) (d := some 34) (v := .bool false) rfl rfl (by kernel_rfl) (by kernel_rfl) (by kernel_rfl) (StepsIf.yield (by kernel_rfl) (fun w' hS => by clear hS; go_simp)) ?_
      intro a' ha'
      simp only [Act.put, List.setIfInBounds_toArray, List.set_cons_zero, List.set_cons_succ] at ha'
      subst ha'
      refine AnyS.next (i := 3) (d := some 35) (v := setV st) rfl rfl (by kernel_rfl) (by kernel_rfl) (by kernel_rfl) (StepsIf.yield (by kernel_rfl) (fun w' hS => by obtain ⟨⟨c0, c1, c2, c3⟩, _⟩ := (BT.out.below hS (Blk.lt BT.out)).cells4; clear hS; go_simp)) ?_
      intro a' ha'
      simp only [Act.put, List.setIfInBounds_toArray, List.set_cons_zero, List.set_cons_succ] at ha'
      subst ha'
      refine AnyS.next (i := 4) (d := some 36) (v := .string nm) rfl rfl (by kernel_rfl) (by kernel_rfl) (by kernel_rfl) (StepsIf.call (by kernel_rfl) (fun w' hS => by clear hS; go_simp) (fun w' hS => (A2.out w').mono fun e w'' h => ⟨h.1, hS.trans (h.2.mono hS.size)⟩)) ?_
      intro a' ha'
      simp only [Act.put, List.setIfInBounds_toArray, List.set_cons_zero, List.set_cons_succ] at ha'
      subst ha'
      refine AnyS.next (i := 5) (d := some 37) (v := .slice (some ⟨g, 0, none⟩) 12 12) rfl rfl (by kernel_rfl) (by kernel_rfl) (by kernel_rfl) (StepsIf.yield (by kernel_rfl) (fun w' hS => by clear hS; go_simp)) ?_
      intro a' ha'
      simp only [Act.put, List.setIfInBounds_toArray, List.set_cons_zero, List.set_cons_succ] at ha'
      subst ha'
      refine AnyS.next (i := 6) (d := some 38) (v := .int .i64 ((k + 1 : Nat) : Int)) rfl rfl (by kernel_rfl) (by kernel_rfl) (by kernel_rfl) (StepsIf.yield (by kernel_rfl) (fun w' hS => by clear hS; go_simp)) ?_
      intro a' ha'
      simp only [Act.put, List.setIfInBounds_toArray, List.set_cons_zero, List.set_cons_succ] at ha'
      subst ha'
      refine AnyS.next (i := 7) (d := some 39) (v := .pointer (some ⟨g, (k + 1), none⟩)) rfl rfl (by kernel_rfl) (by kernel_rfl) (by kernel_rfl) (StepsIf.yield (by kernel_rfl) (fun w' hS => by have q1 : ¬ ((12 : Int) ≤ (k : Int) + 1) := (by omega); have q0 : (0 : Int) ≤ (k : Int) + 1 := (by omega); clear hS; go_simp)) ?_
      intro a' ha'
      simp only [Act.put, List.setIfInBounds_toArray, List.set_cons_zero, List.set_cons_succ] at ha'
      subst ha'
      refine AnyS.next (i := 8) (d := some 40) (v := .string nm) rfl rfl (by kernel_rfl) (by kernel_rfl) (by kernel_rfl) (StepsIf.yield (by kernel_rfl) (fun w' hS => by have hc := NamAt.cell (show NamAt g w' from Blk.below HN2.out hS (Blk.lt HN2.out)) (k + 1) hkl; rw [HNM.out] at hc; clear hS; go_simp)) ?_
      intro a' ha'
      simp only [Act.put, List.setIfInBounds_toArray, List.set_cons_zero, List.set_cons_succ] at ha'
      subst ha'
      refine AnyS.next (i := 9) (d := some 41) (v := .bool false) rfl rfl (by kernel_rfl) (by kernel_rfl) (by kernel_rfl) (StepsIf.yield (by kernel_rfl) (fun w' hS => by clear hS; go_simp)) ?_
      intro a' ha'
      simp only [Act.put, List.setIfInBounds_toArray, List.set_cons_zero, List.set_cons_succ] at ha'
      subst ha'
      refine AnyS.next (i := 10) (d := some 42) (v := .bool false) rfl rfl (by kernel_rfl) (by kernel_rfl) (by kernel_rfl) (StepsIf.yield (by kernel_rfl) (fun w' hS => by clear hS; go_simp)) ?_
      intro a' ha'
      simp only [Act.put, List.setIfInBounds_toArray, List.set_cons_zero, List.set_cons_succ] at ha'
      subst ha'
      refine AnyS.next (i := 11) (d := some 43) (v := .bool false) rfl rfl (by kernel_rfl) (by kernel_rfl) (by kernel_rfl) (StepsIf.yield (by kernel_rfl) (fun w' hS => by clear hS; go_simp)) ?_
      intro a' ha'
      simp only [Act.put, List.setIfInBounds_toArray, List.set_cons_zero, List.set_cons_succ] at ha'
      subst ha'
      refine AnyS.next (i := 12) (d := some 44) (v := .int .i64 ((k + 1 : Nat) : Int)) rfl rfl (by kernel_rfl) (by kernel_rfl) (by kernel_rfl) (StepsIf.yield (by kernel_rfl) (fun w' hS => by clear hS; go_simp)) ?_
      intro a' ha'
      simp only [Act.put, List.setIfInBounds_toArray, List.set_cons_zero, List.set_cons_succ] at ha'
      subst ha'
      refine AnyS.next (i := 13) (d := some 45) (v := .bool true) rfl rfl (by kernel_rfl) (by kernel_rfl) (by kernel_rfl) (StepsIf.yield (by kernel_rfl) (fun w' hS => by clear hS; go_simp)) ?_
      intro a' ha'
      simp only [Act.put, List.setIfInBounds_toArray, List.set_cons_zero, List.set_cons_succ] at ha'
      subst ha'
      refine AnyS.next (i := 14) (d := some 46) (v := .bool true) rfl rfl (by kernel_rfl) (by kernel_rfl) (by kernel_rfl) (StepsIf.yield (by kernel_rfl) (fun w' hS => by clear hS; go_simp)) ?_
      intro a' ha'
      simp only [Act.put, List.setIfInBounds_toArray, List.set_cons_zero, List.set_cons_succ] at ha'
      subst ha'
      refine AnyS.next (i := 15) (d := some 47) (v := .slice (some ⟨g, 0, none⟩) 12 12) rfl rfl (by kernel_rfl) (by kernel_rfl) (by kernel_rfl) (StepsIf.yield (by kernel_rfl) (fun w' hS => by clear hS; go_simp)) ?_
      intro a' ha'
      simp only [Act.put, List.setIfInBounds_toArray, List.set_cons_zero, List.set_cons_succ] at ha'
      subst ha'
      refine AnyS.next (i := 16) (d := some 48) (v := .int .i64 ((k + 1 : Nat) : Int)) rfl rfl (by kernel_rfl) (by kernel_rfl) (by kernel_rfl) (StepsIf.yield (by kernel_rfl) (fun w' hS => by clear hS; go_simp)) ?_
      intro a' ha'
      simp only [Act.put, List.setIfInBounds_toArray, List.set_cons_zero, List.set_cons_succ] at ha'
      subst ha'
      refine AnyS.next (i := 17) (d := some 49) (v := .int .i64 ((k : Nat) : Int)) rfl rfl (by kernel_rfl) (by kernel_rfl) (by kernel_rfl) (StepsIf.yield (by kernel_rfl) (fun w' hS => by clear hS; go_simp; exact IntWalk.i64_in _ (by omega))) ?_
      intro a' ha'
      simp only [Act.put, List.setIfInBounds_toArray, List.set_cons_zero, List.set_cons_succ] at ha'
      subst ha'
      refine AnyS.next (i := 18) (d := some 50) (v := .pointer (some ⟨g, k, none⟩)) rfl rfl (by kernel_rfl) (by kernel_rfl) (by kernel_rfl) (StepsIf.yield (by kernel_rfl) (fun w' hS => by have q1 : ¬ ((12 : Int) ≤ (k : Int)) := (by omega); clear hS; go_simp)) ?_
      intro a' ha'
      simp only [Act.put, List.setIfInBounds_toArray, List.set_cons_zero, List.set_cons_succ] at ha'
      subst ha'
      refine AnyS.next (i := 19) (d := some 51) (v := .string pv) rfl rfl (by kernel_rfl) (by kernel_rfl) (by kernel_rfl) (StepsIf.yield (by kernel_rfl) (fun w' hS => by have hc := NamAt.cell (show NamAt g w' from Blk.below HN2.out hS (Blk.lt HN2.out)) k hkp; rw [HPV.out] at hc; clear hS; go_simp)) ?_
      intro a' ha'
      simp only [Act.put, List.setIfInBounds_toArray, List.set_cons_zero, List.set_cons_succ] at ha'
      subst ha'
      refine AnyS.next (i := 20) (d := some 52) (v := .slice (some ⟨g, 0, none⟩) 12 12) rfl rfl (by kernel_rfl) (by kernel_rfl) (by kernel_rfl) (StepsIf.yield (by kernel_rfl) (fun w' hS => by clear hS; go_simp)) ?_
      intro a' ha'
      simp only [Act.put, List.setIfInBounds_toArray, List.set_cons_zero, List.set_cons_succ] at ha'
      subst ha'
      refine AnyS.next (i := 21) (d := some 53) (v := .int .i64 ((k + 1 : Nat) : Int)) rfl rfl (by kernel_rfl) (by kernel_rfl) (by kernel_rfl) (StepsIf.yield (by kernel_rfl) (fun w' hS => by clear hS; go_simp)) ?_
      intro a' ha'
      simp only [Act.put, List.setIfInBounds_toArray, List.set_cons_zero, List.set_cons_succ] at ha'
      subst ha'
      refine AnyS.next (i := 22) (d := some 54) (v := .pointer (some ⟨g, (k + 1), none⟩)) rfl rfl (by kernel_rfl) (by kernel_rfl) (by kernel_rfl) (StepsIf.yield (by kernel_rfl) (fun w' hS => by have q1 : ¬ ((12 : Int) ≤ (k : Int) + 1) := (by omega); have q0 : (0 : Int) ≤ (k : Int) + 1 := (by omega); clear hS; go_simp)) ?_
      intro a' ha'
      simp only [Act.put, List.setIfInBounds_toArray, List.set_cons_zero, List.set_cons_succ] at ha'
      subst ha'
      refine AnyS.next (i := 23) (d := some 55) (v := .string nm) rfl rfl (by kernel_rfl) (by kernel_rfl) (by kernel_rfl) (StepsIf.yield (by kernel_rfl) (fun w' hS => by have hc := NamAt.cell (show NamAt g w' from Blk.below HN2.out hS (Blk.lt HN2.out)) (k + 1) hkl; rw [HNM.out] at hc; clear hS; go_simp)) ?_
      intro a' ha'
      simp only [Act.put, List.setIfInBounds_toArray, List.set_cons_zero, List.set_cons_succ] at ha'
      subst ha'
      refine AnyS.next (i := 24) (d := some 56) (v := .bool false) rfl rfl (by kernel_rfl) (by kernel_rfl) (by kernel_rfl) (StepsIf.yield (by kernel_rfl) (fun w' hS => by have hq := HL.out; clear hS; go_simp)) ?_
      intro a' ha'
      simp only [Act.put, List.setIfInBounds_toArray, List.set_cons_zero, List.set_cons_succ] at ha'
      subst ha'
      refine AnyS.next (i := 25) (d := some 57) (v := .bool false) rfl rfl (by kernel_rfl) (by kernel_rfl) (by kernel_rfl) (StepsIf.yield (by kernel_rfl) (fun w' hS => by clear hS; go_simp)) ?_
      intro a' ha'
      simp only [Act.put, List.setIfInBounds_toArray, List.set_cons_zero, List.set_cons_succ] at ha'
      subst ha'
      refine AnyS.next (i := 26) (d := some 58) (v := .bool false) rfl rfl (by kernel_rfl) (by kernel_rfl) (by kernel_rfl) (StepsIf.yield (by kernel_rfl) (fun w' hS => by clear hS; go_simp)) ?_
      intro a' ha'
      simp only [Act.put, List.setIfInBounds_toArray, List.set_cons_zero, List.set_cons_succ] at ha'
      subst ha'
      refine AnyS.done (by kernel_rfl) ?_ _
      intro wx hx
      go_wp2_with fail
      go_meet
      exact ⟨rfl, hx⟩
  case rest =>
    obtain ⟨rfl, hx⟩ := hcut
    obtain ⟨wq, rfl⟩ : ∃ wq, wq = wc := ⟨_, rfl⟩
    have BT' := Lib.hid (BT.out.below hx (Blk.lt BT.out))
    have HN' : Hid (NamAt g wq) := Lib.hid (Blk.below HN2.out hx (Blk.lt HN2.out))
    have HB' := Lib.hid (HB2.out.trans (hx.mono hz2))
    have hz' := Nat.le_trans hz2 hx.size
    have hcn := HN'.out.cell k hkl
    rw [HNM.out] at hcn
    clear hx BT HN2 HB2 hz2 A1 A2
    go_upto_region 7 with fail
    go_cut [79] from 59 to 78 (fun s79 wx => s79 = .bool false ∧ Below wq.heap.size wq wx)
    case first =>
      by_cases hc0 : 0 ≤ cut
      · obtain ⟨c, rfl⟩ := Int.eq_ofNat_of_zero_le hc0
        by_cases hcs : c ≤ nm.size
        · have q1 : decide (c ≤ nm.size) = true := by simpa using hcs
          have hbg := begC (nm.extract 0 c) true (by simp; omega) (A4.out c (by omega))
          have HBG := Lib.hid hbg
          clear hbg
          go_wp2_with fail
          refine (HBG.out _).mono ?_
          rintro e w4 ⟨rfl, hb4⟩
          go_wp2_with fail
          go_meet
          exact ⟨rfl, hb4⟩
        · have q1 : decide (c ≤ nm.size) = false := by simpa using hcs
          go_wp2_with fail
          go_meet
          exact ⟨rfl, Below.refl _ _⟩
      · have q1 : decide (0 ≤ cut) = false := by simpa using hc0
        go_wp2_with fail
        go_meet
        exact ⟨rfl, Below.refl _ _⟩
    case rest =>
      obtain ⟨rfl, hx⟩ := hcut
      obtain ⟨wr, rfl⟩ : ∃ wr, wr = wc := ⟨_, rfl⟩
      have BT := Lib.hid (BT'.out.below hx (Blk.lt BT'.out))
      have HB := Lib.hid (HB'.out.trans (hx.mono hz'))
      have hz := Nat.le_trans hz' hx.size
      clear hx BT' HN' HB' hz' hcn A4
      go_wp2_with fail
      refine (ofC ⟨#[97, 108, 110, 117, 109]⟩ cAln true (by decide +kernel) (by decide +kernel) _).mono ?_
      rintro e v5 ⟨rfl, hb⟩
      have hzz := hb.size
      have Balnum := Lib.hid (Blk.new v5 (setA cAln) 25)
      have HBn := Lib.hid ((HB.out.trans (hb.mono hz)).alloc (Nat.le_trans hz hzz) (.cells (setA cAln) 25))
      have BTn := Lib.hid ((BT.out.below hb (Blk.lt BT.out)).alloc (.cells (setA cAln) 25))
      clear HB BT hb
      have HB := HBn
      clear HBn
      have BT := BTn
      clear BTn
      replace hz : w.heap.size ≤ (v5.alloc (.cells (setA cAln) 25)).heap.size := by simp; omega
      clear hzz
      go_wp2_with fail
      have e0 : (v5.alloc (.cells #[.int .u64 (wd cAln 0), .int .u64 (wd cAln 1), .int .u64 (wd cAln 2), .int .u64 (wd cAln 3)] 25)) = v5.alloc (.cells (setA cAln) 25) := rfl
      rw [e0]
      clear e0
      generalize v5.alloc (.cells (setA cAln) 25) = w5 at *
      generalize v5.heap.size = Galnum at *
      refine (ofC ⟨#[112, 117, 110, 99, 116]⟩ cPun true (by decide +kernel) (by decide +kernel) _).mono ?_
      rintro e v6 ⟨rfl, hb⟩
      have hzz := hb.size
      have Bpunct := Lib.hid (Blk.new v6 (setA cPun) 25)
      have HBn := Lib.hid ((HB.out.trans (hb.mono hz)).alloc (Nat.le_trans hz hzz) (.cells (setA cPun) 25))
      have BTn := Lib.hid ((BT.out.below hb (Blk.lt BT.out)).alloc (.cells (setA cPun) 25))
      have Balnumn := Lib.hid ((Balnum.out.below hb (Blk.lt Balnum.out)).alloc (.cells (setA cPun) 25))
      clear HB BT Balnum hb
      have HB := HBn
      clear HBn
      have BT := BTn
      clear BTn
      have Balnum := Balnumn
      clear Balnumn
      replace hz : w.heap.size ≤ (v6.alloc (.cells (setA cPun) 25)).heap.size := by simp; omega
      clear hzz
      go_wp2_with fail
      have e0 : (v6.alloc (.cells #[.int .u64 (wd cPun 0), .int .u64 (wd cPun 1), .int .u64 (wd cPun 2), .int .u64 (wd cPun 3)] 25)) = v6.alloc (.cells (setA cPun) 25) := rfl
      rw [e0]
      clear e0
      generalize v6.alloc (.cells (setA cPun) 25) = w6 at *
      generalize v6.heap.size = Gpunct at *
      refine (ofC ⟨#[103, 114, 97, 112, 104]⟩ cGra true (by decide +kernel) (by decide +kernel) _).mono ?_
      rintro e v7 ⟨rfl, hb⟩
      have hzz := hb.size
      have Bgraph := Lib.hid (Blk.new v7 (setA cGra) 25)
      have HBn := Lib.hid ((HB.out.trans (hb.mono hz)).alloc (Nat.le_trans hz hzz) (.cells (setA cGra) 25))
      have BTn := Lib.hid ((BT.out.below hb (Blk.lt BT.out)).alloc (.cells (setA cGra) 25))
      have Balnumn := Lib.hid ((Balnum.out.below hb (Blk.lt Balnum.out)).alloc (.cells (setA cGra) 25))
      have Bpunctn := Lib.hid ((Bpunct.out.below hb (Blk.lt Bpunct.out)).alloc (.cells (setA cGra) 25))
      clear HB BT Balnum Bpunct hb
      have HB := HBn
      clear HBn
      have BT := BTn
      clear BTn
      have Balnum := Balnumn
      clear Balnumn
      have Bpunct := Bpunctn
      clear Bpunctn
      replace hz : w.heap.size ≤ (v7.alloc (.cells (setA cGra) 25)).heap.size := by simp; omega
      clear hzz
      go_wp2_with fail
      have e0 : (v7.alloc (.cells #[.int .u64 (wd cGra 0), .int .u64 (wd cGra 1), .int .u64 (wd cGra 2), .int .u64 (wd cGra 3)] 25)) = v7.alloc (.cells (setA cGra) 25) := rfl
      rw [e0]
      clear e0
      generalize v7.alloc (.cells (setA cGra) 25) = w7 at *
      generalize v7.heap.size = Ggraph at *
      have LF : ∀ w', Calls Try.prog 17 #[setV st, setV fullS] w' fun e w'' => e = .returned (setV zSet) ∧ Below w'.heap.size w' w'' := fun w' => by have h := less_calls st fullS w'; rw [A5.out] at h; exact h
      refine region_steps (S := fun W => Below w7.heap.size w7 W) (by kernel_rfl) (Below.refl _ _).drew ?_
      simp only [List.size_toArray, List.length_cons, List.length_nil, Nat.reduceAdd, Array.replicate_succ, Array.replicate_zero, List.push_toArray, List.nil_append, List.cons_append]
      refine AnyS.next (i := 0) (d := some 92) (v := setV cAln) rfl rfl (by kernel_rfl) (by kernel_rfl) (by kernel_rfl) (StepsIf.yield (by kernel_rfl) (fun w' hS => by obtain ⟨⟨c0, c1, c2, c3⟩, _⟩ := (Balnum.out.below hS (Blk.lt Balnum.out)).cells4; clear hS; go_simp)) ?_
      intro a' ha'
      simp only [Act.put, List.setIfInBounds_toArray, List.set_cons_zero, List.set_cons_succ] at ha'
      subst ha'
      refine AnyS.next (i := 1) (d := some 93) (v := setV cPun) rfl rfl (by kernel_rfl) (by kernel_rfl) (by kernel_rfl) (StepsIf.yield (by kernel_rfl) (fun w' hS => by obtain ⟨⟨c0, c1, c2, c3⟩, _⟩ := (Bpunct.out.below hS (Blk.lt Bpunct.out)).cells4; clear hS; go_simp)) ?_
      intro a' ha'
      simp only [Act.put, List.setIfInBounds_toArray, List.set_cons_zero, List.set_cons_succ] at ha'
      subst ha'
      refine AnyS.next (i := 2) (d := some 94) (v := setV cGra) rfl rfl (by kernel_rfl) (by kernel_rfl) (by kernel_rfl) (StepsIf.call (by kernel_rfl) (fun w' hS => by clear hS; go_simp) (fun w' hS => (orG w').mono fun e w'' h => ⟨h.1, hS.trans (h.2.mono hS.size)⟩)) ?_
      intro a' ha'
      simp only [Act.put, List.setIfInBounds_toArray, List.set_cons_zero, List.set_cons_succ] at ha'
      subst ha'
      refine AnyS.next (i := 3) (d := some 95) (v := setV cGra) rfl rfl (by kernel_rfl) (by kernel_rfl) (by kernel_rfl) (StepsIf.yield (by kernel_rfl) (fun w' hS => by obtain ⟨⟨c0, c1, c2, c3⟩, _⟩ := (Bgraph.out.below hS (Blk.lt Bgraph.out)).cells4; clear hS; go_simp)) ?_
      intro a' ha'
      simp only [Act.put, List.setIfInBounds_toArray, List.set_cons_zero, List.set_cons_succ] at ha'
      subst ha'
      refine AnyS.next (i := 4) (d := some 96) (v := .bool true) rfl rfl (by kernel_rfl) (by kernel_rfl) (by kernel_rfl) (StepsIf.yield (by kernel_rfl) (fun w' hS => by have q := eq_set_same; clear hS; go_simp)) ?_
      intro a' ha'
      simp only [Act.put, List.setIfInBounds_toArray, List.set_cons_zero, List.set_cons_succ] at ha'
      subst ha'
      refine AnyS.next (i := 5) (d := some 97) (v := .bool true) rfl rfl (by kernel_rfl) (by kernel_rfl) (by kernel_rfl) (StepsIf.yield (by kernel_rfl) (fun w' hS => by clear hS; go_simp)) ?_
      intro a' ha'
      simp only [Act.put, List.setIfInBounds_toArray, List.set_cons_zero, List.set_cons_succ] at ha'
      subst ha'
      refine AnyS.next (i := 6) (d := some 98) (v := setV cAln) rfl rfl (by kernel_rfl) (by kernel_rfl) (by kernel_rfl) (StepsIf.yield (by kernel_rfl) (fun w' hS => by obtain ⟨⟨c0, c1, c2, c3⟩, _⟩ := (Balnum.out.below hS (Blk.lt Balnum.out)).cells4; clear hS; go_simp)) ?_
      intro a' ha'
      simp only [Act.put, List.setIfInBounds_toArray, List.set_cons_zero, List.set_cons_succ] at ha'
      subst ha'
      refine AnyS.next (i := 7) (d := some 99) (v := setV cPun) rfl rfl (by kernel_rfl) (by kernel_rfl) (by kernel_rfl) (StepsIf.yield (by kernel_rfl) (fun w' hS => by obtain ⟨⟨c0, c1, c2, c3⟩, _⟩ := (Bpunct.out.below hS (Blk.lt Bpunct.out)).cells4; clear hS; go_simp)) ?_
      intro a' ha'
      simp only [Act.put, List.setIfInBounds_toArray, List.set_cons_zero, List.set_cons_succ] at ha'
      subst ha'
      refine AnyS.next (i := 8) (d := some 100) (v := setV zSet) rfl rfl (by kernel_rfl) (by kernel_rfl) (by kernel_rfl) (StepsIf.call (by kernel_rfl) (fun w' hS => by clear hS; go_simp) (fun w' hS => (andG w').mono fun e w'' h => ⟨h.1, hS.trans (h.2.mono hS.size)⟩)) ?_
      intro a' ha'
      simp only [Act.put, List.setIfInBounds_toArray, List.set_cons_zero, List.set_cons_succ] at ha'
      subst ha'
      refine AnyS.next (i := 9) (d := some 101) (v := setV zSet) rfl rfl (by kernel_rfl) (by kernel_rfl) (by kernel_rfl) (StepsIf.yield (by kernel_rfl) (fun w' hS => by clear hS; go_simp; first | rfl | exact ⟨rfl, rfl, rfl, rfl⟩)) ?_
      intro a' ha'
      simp only [Act.put, List.setIfInBounds_toArray, List.set_cons_zero, List.set_cons_succ] at ha'
      subst ha'
      refine AnyS.next (i := 10) (d := some 102) (v := .bool true) rfl rfl (by kernel_rfl) (by kernel_rfl) (by kernel_rfl) (StepsIf.yield (by kernel_rfl) (fun w' hS => by have q := eq_set_same; clear hS; go_simp)) ?_
      intro a' ha'
      simp only [Act.put, List.setIfInBounds_toArray, List.set_cons_zero, List.set_cons_succ] at ha'
      subst ha'
      refine AnyS.next (i := 11) (d := some 103) (v := .bool true) rfl rfl (by kernel_rfl) (by kernel_rfl) (by kernel_rfl) (StepsIf.yield (by kernel_rfl) (fun w' hS => by clear hS; go_simp)) ?_
      intro a' ha'
      simp only [Act.put, List.setIfInBounds_toArray, List.set_cons_zero, List.set_cons_succ] at ha'
      subst ha'
      refine AnyS.next (i := 12) (d := some 104) (v := .bool true) rfl rfl (by kernel_rfl) (by kernel_rfl) (by kernel_rfl) (StepsIf.yield (by kernel_rfl) (fun w' hS => by clear hS; go_simp)) ?_
      intro a' ha'
      simp only [Act.put, List.setIfInBounds_toArray, List.set_cons_zero, List.set_cons_succ] at ha'
      subst ha'
      refine AnyS.next (i := 13) (d := some 105) (v := setV st) rfl rfl (by kernel_rfl) (by kernel_rfl) (by kernel_rfl) (StepsIf.yield (by kernel_rfl) (fun w' hS => by obtain ⟨⟨c0, c1, c2, c3⟩, _⟩ := (BT.out.below hS (Blk.lt BT.out)).cells4; clear hS; go_simp)) ?_
      intro a' ha'
      simp only [Act.put, List.setIfInBounds_toArray, List.set_cons_zero, List.set_cons_succ] at ha'
      subst ha'
      refine AnyS.next (i := 14) (d := some 106) (v := setV fullS) rfl rfl (by kernel_rfl) (by kernel_rfl) (by kernel_rfl) (StepsIf.call (by kernel_rfl) (fun w' hS => by clear hS; go_simp) (fun w' hS => (anyF_calls w').mono fun e w'' h => ⟨h.1, hS.trans (h.2.mono hS.size)⟩)) ?_
      intro a' ha'
      simp only [Act.put, List.setIfInBounds_toArray, List.set_cons_zero, List.set_cons_succ] at ha'
      subst ha'
      refine AnyS.next (i := 15) (d := some 107) (v := setV zSet) rfl rfl (by kernel_rfl) (by kernel_rfl) (by kernel_rfl) (StepsIf.call (by kernel_rfl) (fun w' hS => by clear hS; go_simp) (fun w' hS => (LF w').mono fun e w'' h => ⟨h.1, hS.trans (h.2.mono hS.size)⟩)) ?_
      intro a' ha'
      simp only [Act.put, List.setIfInBounds_toArray, List.set_cons_zero, List.set_cons_succ] at ha'
      subst ha'
      refine AnyS.next (i := 16) (d := some 108) (v := setV zSet) rfl rfl (by kernel_rfl) (by kernel_rfl) (by kernel_rfl) (StepsIf.yield (by kernel_rfl) (fun w' hS => by clear hS; go_simp; first | rfl | exact ⟨rfl, rfl, rfl, rfl⟩)) ?_
      intro a' ha'
      simp only [Act.put, List.setIfInBounds_toArray, List.set_cons_zero, List.set_cons_succ] at ha'
      subst ha'
      refine AnyS.next (i := 17) (d := some 109) (v := .bool true) rfl rfl (by kernel_rfl) (by kernel_rfl) (by kernel_rfl) (StepsIf.yield (by kernel_rfl) (fun w' hS => by have q := eq_set_same; clear hS; go_simp)) ?_
      intro a' ha'
      simp only [Act.put, List.setIfInBounds_toArray, List.set_cons_zero, List.set_cons_succ] at ha'
      subst ha'
      refine AnyS.next (i := 18) (d := some 110) (v := .bool true) rfl rfl (by kernel_rfl) (by kernel_rfl) (by kernel_rfl) (StepsIf.yield (by kernel_rfl) (fun w' hS => by clear hS; go_simp)) ?_
      intro a' ha'
      simp only [Act.put, List.setIfInBounds_toArray, List.set_cons_zero, List.set_cons_succ] at ha'
      subst ha'
      refine AnyS.next (i := 19) (d := some 111) (v := .bool true) rfl rfl (by kernel_rfl) (by kernel_rfl) (by kernel_rfl) (StepsIf.yield (by kernel_rfl) (fun w' hS => by clear hS; go_simp)) ?_
      intro a' ha'
      simp only [Act.put, List.setIfInBounds_toArray, List.set_cons_zero, List.set_cons_succ] at ha'
      subst ha'
      refine AnyS.next (i := 20) (d := some 112) (v := .bool true) rfl rfl (by kernel_rfl) (by kernel_rfl) (by kernel_rfl) (StepsIf.call (by kernel_rfl) (fun w' hS => by clear hS; go_simp) (fun w' hS => (sure2_calls w').mono fun e w'' h => ⟨h.1, hS.trans (h.2.mono hS.size)⟩)) ?_
      intro a' ha'
      simp only [Act.put, List.setIfInBounds_toArray, List.set_cons_zero, List.set_cons_succ] at ha'
      subst ha'
      refine AnyS.next (i := 21) (d := some 113) (v := .bool true) rfl rfl (by kernel_rfl) (by kernel_rfl) (by kernel_rfl) (StepsIf.yield (by kernel_rfl) (fun w' hS => by clear hS; go_simp)) ?_
      intro a' ha'
      simp only [Act.put, List.setIfInBounds_toArray, List.set_cons_zero, List.set_cons_succ] at ha'
      subst ha'
      refine AnyS.next (i := 22) (d := some 4) (v := .bool true) rfl rfl (by kernel_rfl) (by kernel_rfl) (by kernel_rfl) (StepsIf.yield (by kernel_rfl) (fun w' hS => by clear hS; go_simp)) ?_
      intro a' ha'
      simp only [Act.put, List.setIfInBounds_toArray, List.set_cons_zero, List.set_cons_succ] at ha'
      subst ha'
      refine AnyS.done (by kernel_rfl) ?_ _
      intro wx hx
      go_wp2
      go_ret
      exact ⟨rfl, HB.out.trans (hx.mono hz)⟩
end Go.Proofs.Ytcccfhpabikbjaa

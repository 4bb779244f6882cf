/- The laws of stage 10: what they want of the package term; sure, TermTells, TermGroups. -/
import Derived.Test.YtlhlgohgmbkaoaaIq
namespace Go.Proofs.Ytlhlgohgmbkaoaa
open Go.RowKit BS

/-- What the laws want of the package term. -/
structure TermC : Prop where
  right : ∀ (l : List NdN), l.length ≤ 1000 → ∀ (a : Option Addr) (cap : Nat) (w : World), NodesAt l a w → Calls Try.prog 8 #[.slice a l.length cap] w fun e w' => e = .returned (.bool (rightT l)) ∧ Below w.heap.size w w'
  low : ∀ (l : List NdN), l.length ≤ 1000 → ∀ (a : Option Addr) (cap : Nat) (w : World), NodesAt l a w → Calls Try.prog 11 #[.slice a l.length cap] w fun e w' => ∃ b c, e = .returned (.slice b (lowsT l).length c) ∧ IntsB w.heap.size (lowsT l) b w' ∧ Below w.heap.size w w'
  up : ∀ (l : List NdN), l.length ≤ 1000 → ∀ (a : Option Addr) (cap : Nat) (w : World), NodesAt l a w → Calls Try.prog 13 #[.slice a l.length cap] w fun e w' => ∃ b c, e = .returned (.slice b (upsT l).length c) ∧ IntsB w.heap.size (upsT l) b w' ∧ Below w.heap.size w w'
  deep : ∀ (l : List NdN), l.length ≤ 1000 → ∀ (a : Option Addr) (cap : Nat) (w : World), NodesAt l a w → Calls Try.prog 15 #[.slice a l.length cap] w fun e w' => ∃ b c, e = .returned (.slice b (deepsT l).length c) ∧ IntsB w.heap.size (deepsT l) b w' ∧ Below w.heap.size w w'
  groups : ∀ (l : List NdN), l.length ≤ 1000 → ∀ (q : Int) (a : Option Addr) (cap : Nat) (w : World), NodesAt l a w → Calls Try.prog 17 #[.slice a l.length cap, .int .i64 q] w fun e w' => ∃ b c, e = .returned (.slice b (groupsL l q).length c) ∧ IntsB w.heap.size (groupsL l q) b w' ∧ Below w.heap.size w w'
  top : ∀ (l : List NdN), l.length ≤ 1000 → ∀ (a : Option Addr) (cap : Nat) (w : World), NodesAt l a w → Calls Try.prog 19 #[.slice a l.length cap] w fun e w' => e = .returned (.int .i64 (topT l : Nat)) ∧ Below w.heap.size w w'

/-! ### sure -/
def l10 : List NdN := [⟨2, -1, -1, 0, 0⟩, ⟨7, 0, -1, 3, 0⟩, ⟨2, -1, -1, 0, 0⟩, ⟨3, 1, 2, 0, 0⟩]
@[reducible] def c10 : Array Value := #[.int .i64 2, .int .i64 (-1), .int .i64 (-1), .int .i64 0, .int .u64 0, .int .u64 0, .int .u64 0, .int .u64 0, .int .i64 7, .int .i64 0, .int .i64 (-1), .int .i64 3, .int .u64 0, .int .u64 0, .int .u64 0, .int .u64 0, .int .i64 2, .int .i64 (-1), .int .i64 (-1), .int .i64 0, .int .u64 0, .int .u64 0, .int .u64 0, .int .u64 0, .int .i64 3, .int .i64 1, .int .i64 2, .int .i64 0, .int .u64 0, .int .u64 0, .int .u64 0, .int .u64 0]
theorem l10_right : rightT l10 = true := by decide +kernel
theorem l10_not : rightT (l10.take 3) = false := by decide +kernel
theorem l10_up : upsT l10 = [1, 3, 3, -1] := by decide +kernel
theorem l10_deep : deepsT l10 = [3, 2, 2, 1] := by decide +kernel
theorem l10_low : lowsT l10 = [0, 0, 2, 0] := by decide +kernel
theorem l10_top : topT l10 = 3 := by decide +kernel
theorem l10_groups : groupsL l10 1 = [3] := by decide +kernel
set_option maxRecDepth 100000 in
theorem l10_at (W : World) : NodesAt l10 (some ⟨W.heap.size, 0, none⟩) (W.alloc (.cells c10 35)) := fun _ => by
  have hb := Blk.new W c10 35
  refine ⟨W.heap.size, 0, rfl, hb.lt, fun i hi j hj => ?_⟩
  have hi' : i < 4 := hi
  have z1 : wd (0 : BitVec 256) 1 = 0 := by decide
  have z2 : wd (0 : BitVec 256) 2 = 0 := by decide
  have z3 : wd (0 : BitVec 256) 3 = 0 := by decide
  rw [hb.cell]
  obtain rfl | rfl | rfl | rfl : i = 0 ∨ i = 1 ∨ i = 2 ∨ i = 3 := by omega
  all_goals
    obtain rfl | rfl | rfl | rfl | rfl | rfl | rfl | rfl : j = 0 ∨ j = 1 ∨ j = 2 ∨ j = 3 ∨ j = 4 ∨ j = 5 ∨ j = 6 ∨ j = 7 := by omega
    all_goals first
      | rfl
      | (show some (Value.int .u64 0) = some (.int .u64 ((wd (0 : BitVec 256) 1 : Nat) : Int)); rw [z1]; rfl)
      | (show some (Value.int .u64 0) = some (.int .u64 ((wd (0 : BitVec 256) 2 : Nat) : Int)); rw [z2]; rfl)
      | (show some (Value.int .u64 0) = some (.int .u64 ((wd (0 : BitVec 256) 3 : Nat) : Int)); rw [z3]; rfl)
set_option maxRecDepth 100000 in
set_option maxHeartbeats 16000000 in
theorem sure10_calls (C : TermC) (w : World) : Calls Try.prog 7 #[] w fun e w' => e = .returned (.bool true) ∧ Below w.heap.size w w' := by
  have h1 := fun W h => C.right l10 (by decide) (some ⟨w.heap.size, 0, none⟩) 4 W h
  rw [l10_right] at h1
  have h2 := fun W h => C.right (l10.take 3) (by decide) (some ⟨w.heap.size, 0, none⟩) 4 W h
  rw [l10_not] at h2
  have h3 := fun W h => C.up l10 (by decide) (some ⟨w.heap.size, 0, none⟩) 4 W h
  rw [l10_up] at h3
  have h4 := fun W h => C.deep l10 (by decide) (some ⟨w.heap.size, 0, none⟩) 4 W h
  rw [l10_deep] at h4
  have h5 := fun W h => C.low l10 (by decide) (some ⟨w.heap.size, 0, none⟩) 4 W h
  rw [l10_low] at h5
  have h6 := fun W h => C.top l10 (by decide) (some ⟨w.heap.size, 0, none⟩) 4 W h
  rw [l10_top] at h6
  have h7 := fun W h => C.groups l10 (by decide) 1 (some ⟨w.heap.size, 0, none⟩) 4 W h
  rw [l10_groups] at h7
  have H1 : Hid (∀ W, NodesAt l10 (some ⟨w.heap.size, 0, none⟩) W → Calls Try.prog 8 #[.slice (some ⟨w.heap.size, 0, none⟩) 4 4] W fun e w' => e = .returned (.bool true) ∧ Below W.heap.size W w') := Lib.hid h1
  have H2 : Hid (∀ W, NodesAt (l10.take 3) (some ⟨w.heap.size, 0, none⟩) W → Calls Try.prog 8 #[.slice (some ⟨w.heap.size, 0, none⟩) 3 4] W fun e w' => e = .returned (.bool false) ∧ Below W.heap.size W w') := Lib.hid h2
  have H3 : Hid (∀ W, NodesAt l10 (some ⟨w.heap.size, 0, none⟩) W → Calls Try.prog 13 #[.slice (some ⟨w.heap.size, 0, none⟩) 4 4] W fun e w' => ∃ b c, e = .returned (.slice b 4 c) ∧ IntsB W.heap.size [1, 3, 3, -1] b w' ∧ Below W.heap.size W w') := Lib.hid h3
  have H4 : Hid (∀ W, NodesAt l10 (some ⟨w.heap.size, 0, none⟩) W → Calls Try.prog 15 #[.slice (some ⟨w.heap.size, 0, none⟩) 4 4] W fun e w' => ∃ b c, e = .returned (.slice b 4 c) ∧ IntsB W.heap.size [3, 2, 2, 1] b w' ∧ Below W.heap.size W w') := Lib.hid h4
  have H5 : Hid (∀ W, NodesAt l10 (some ⟨w.heap.size, 0, none⟩) W → Calls Try.prog 11 #[.slice (some ⟨w.heap.size, 0, none⟩) 4 4] W fun e w' => ∃ b c, e = .returned (.slice b 4 c) ∧ IntsB W.heap.size [0, 0, 2, 0] b w' ∧ Below W.heap.size W w') := Lib.hid h5
  have H6 : Hid (∀ W, NodesAt l10 (some ⟨w.heap.size, 0, none⟩) W → Calls Try.prog 19 #[.slice (some ⟨w.heap.size, 0, none⟩) 4 4] W fun e w' => e = .returned (.int .i64 3) ∧ Below W.heap.size W w') := Lib.hid h6
  have H7 : Hid (∀ W, NodesAt l10 (some ⟨w.heap.size, 0, none⟩) W → Calls Try.prog 17 #[.slice (some ⟨w.heap.size, 0, none⟩) 4 4, .int .i64 1] W fun e w' => ∃ b c, e = .returned (.slice b 1 c) ∧ IntsB W.heap.size [3] b w' ∧ Below W.heap.size W w') := Lib.hid h7
  clear h1 h2 h3 h4 h5 h6 h7 C
  have HN := Lib.hid (l10_at w)
  have HB : Hid (Below w.heap.size w (w.alloc (.cells c10 35))) := Lib.hid (by go_grown)
  go_enter Try.func7, Try.ntmps7
  go_upto_region 2 with fail
  generalize w.alloc (.cells c10 35) = w1 at *
  go_wp2_with fail
  refine (H1.out _ HN.out).mono ?_
  rintro e w2 ⟨rfl, hb⟩
  clear H1
  replace HN := Lib.hid (HN.out.below hb)
  replace HB := Lib.hid (HB.out.trans (hb.mono HB.out.size))
  clear hb
  go_wp2_with fail
  refine (H2.out _ (nodes_take _ 3 _ _ HN.out)).mono ?_
  rintro e w3 ⟨rfl, hb⟩
  clear H2
  replace HN := Lib.hid (HN.out.below hb)
  replace HB := Lib.hid (HB.out.trans (hb.mono HB.out.size))
  clear hb
  go_wp2_with fail
  refine (H3.out _ HN.out).mono ?_
  rintro e w4 ⟨b3, k3, rfl, hi, hb⟩
  have HK := Lib.hid hi.o
  clear H3 hi
  replace HN := Lib.hid (HN.out.below hb)
  replace HB := Lib.hid (HB.out.trans (hb.mono HB.out.size))
  clear hb
  go_wp2_with fail
  have HQ := Lib.hid (IntsO.of_blk (l := [1, 3, 3, -1]) (Blk.new w4 #[.int .i64 1, .int .i64 3, .int .i64 3, .int .i64 (-1)] 3))
  replace HK := Lib.hid (HK.out.alloc (.cells #[.int .i64 1, .int .i64 3, .int .i64 3, .int .i64 (-1)] 3))
  replace HN := Lib.hid (HN.out.alloc (.cells #[.int .i64 1, .int .i64 3, .int .i64 3, .int .i64 (-1)] 3))
  have hsz := HB.out.size
  replace HB := Lib.hid (HB.out.alloc hsz (.cells #[.int .i64 1, .int .i64 3, .int .i64 3, .int .i64 (-1)] 3))
  clear hsz
  generalize hg : w4.heap.size = g3 at *
  clear hg
  generalize w4.alloc (.cells #[.int .i64 1, .int .i64 3, .int .i64 3, .int .i64 (-1)] 3) = w4n at *
  refine (ints_same [1, 3, 3, -1] (by decide) _ _ _ _ _ HK.out HQ.out).mono ?_
  rintro e w5 ⟨rfl, hb⟩
  replace HN := Lib.hid (HN.out.below hb)
  replace HB := Lib.hid (HB.out.trans (hb.mono HB.out.size))
  clear hb
  clear HQ HK
  go_wp2_with fail
  refine (H4.out _ HN.out).mono ?_
  rintro e w6 ⟨b4, k4, rfl, hi, hb⟩
  have HK := Lib.hid hi.o
  clear H4 hi
  replace HN := Lib.hid (HN.out.below hb)
  replace HB := Lib.hid (HB.out.trans (hb.mono HB.out.size))
  clear hb
  go_wp2_with fail
  have HQ := Lib.hid (IntsO.of_blk (l := [3, 2, 2, 1]) (Blk.new w6 #[.int .i64 3, .int .i64 2, .int .i64 2, .int .i64 1] 3))
  replace HK := Lib.hid (HK.out.alloc (.cells #[.int .i64 3, .int .i64 2, .int .i64 2, .int .i64 1] 3))
  replace HN := Lib.hid (HN.out.alloc (.cells #[.int .i64 3, .int .i64 2, .int .i64 2, .int .i64 1] 3))
  have hsz := HB.out.size
  replace HB := Lib.hid (HB.out.alloc hsz (.cells #[.int .i64 3, .int .i64 2, .int .i64 2, .int .i64 1] 3))
  clear hsz
  generalize hg : w6.heap.size = g4 at *
  clear hg
  generalize w6.alloc (.cells #[.int .i64 3, .int .i64 2, .int .i64 2, .int .i64 1] 3) = w6n at *
  refine (ints_same [3, 2, 2, 1] (by decide) _ _ _ _ _ HK.out HQ.out).mono ?_
  rintro e w7 ⟨rfl, hb⟩
  replace HN := Lib.hid (HN.out.below hb)
  replace HB := Lib.hid (HB.out.trans (hb.mono HB.out.size))
  clear hb
  clear HQ HK
  go_wp2_with fail
  refine (H5.out _ HN.out).mono ?_
  rintro e w8 ⟨b5, k5, rfl, hi, hb⟩
  have HK := Lib.hid hi.o
  clear H5 hi
  replace HN := Lib.hid (HN.out.below hb)
  replace HB := Lib.hid (HB.out.trans (hb.mono HB.out.size))
  clear hb
  go_wp2_with fail
  have HQ := Lib.hid (IntsO.of_blk (l := [0, 0, 2, 0]) (Blk.new w8 #[.int .i64 0, .int .i64 0, .int .i64 2, .int .i64 0] 3))
  replace HK := Lib.hid (HK.out.alloc (.cells #[.int .i64 0, .int .i64 0, .int .i64 2, .int .i64 0] 3))
  replace HN := Lib.hid (HN.out.alloc (.cells #[.int .i64 0, .int .i64 0, .int .i64 2, .int .i64 0] 3))
  have hsz := HB.out.size
  replace HB := Lib.hid (HB.out.alloc hsz (.cells #[.int .i64 0, .int .i64 0, .int .i64 2, .int .i64 0] 3))
  clear hsz
  generalize hg : w8.heap.size = g5 at *
  clear hg
  generalize w8.alloc (.cells #[.int .i64 0, .int .i64 0, .int .i64 2, .int .i64 0] 3) = w8n at *
  refine (ints_same [0, 0, 2, 0] (by decide) _ _ _ _ _ HK.out HQ.out).mono ?_
  rintro e w9 ⟨rfl, hb⟩
  replace HN := Lib.hid (HN.out.below hb)
  replace HB := Lib.hid (HB.out.trans (hb.mono HB.out.size))
  clear hb
  clear HQ HK
  go_wp2_with fail
  refine (H6.out _ HN.out).mono ?_
  rintro e w10 ⟨rfl, hb⟩
  clear H6
  replace HN := Lib.hid (HN.out.below hb)
  replace HB := Lib.hid (HB.out.trans (hb.mono HB.out.size))
  clear hb
  go_wp2_with fail
  refine (H7.out _ HN.out).mono ?_
  rintro e w11 ⟨b7, k7, rfl, hi, hb⟩
  have HK := Lib.hid hi.o
  clear H7 hi
  replace HN := Lib.hid (HN.out.below hb)
  replace HB := Lib.hid (HB.out.trans (hb.mono HB.out.size))
  clear hb
  go_wp2_with fail
  have HQ := Lib.hid (IntsO.of_blk (l := [3]) (Blk.new w11 #[.int .i64 3] 3))
  replace HK := Lib.hid (HK.out.alloc (.cells #[.int .i64 3] 3))
  replace HN := Lib.hid (HN.out.alloc (.cells #[.int .i64 3] 3))
  have hsz := HB.out.size
  replace HB := Lib.hid (HB.out.alloc hsz (.cells #[.int .i64 3] 3))
  clear hsz
  generalize hg : w11.heap.size = g7 at *
  clear hg
  generalize w11.alloc (.cells #[.int .i64 3] 3) = w11n at *
  refine (ints_same [3] (by decide) _ _ _ _ _ HK.out HQ.out).mono ?_
  rintro e w12 ⟨rfl, hb⟩
  replace HN := Lib.hid (HN.out.below hb)
  replace HB := Lib.hid (HB.out.trans (hb.mono HB.out.size))
  clear hb
  clear HQ HK
  go_wp2_with fail
  go_ret
  exact ⟨rfl, HB.out⟩
set_option maxRecDepth 100000 in
set_option maxHeartbeats 16000000 in
theorem termTells_calls (C : TermC) (l : List NdN) (hl : l.length ≤ 9223372036854775807) (a : Option Addr) (cap : Nat) (w : World) (h : NodesAt l a w) :
    Calls Try.prog 3 #[.slice a l.length cap] w fun e w' => e = .returned (.bool true) ∧ Below w.heap.size w w' := by
  have HSU := Lib.hid (sure10_calls C)
  have HB := Lib.hid (Below.refl w.heap.size w)
  have HN := Lib.hid h
  clear h
  by_cases h5 : 500 < l.length
  · have q : decide (500 < l.length) = true := decide_eq_true h5
    have q' : decide ((500 : Int) < (l.length : Int)) = true := by rw [decide_eq_true_iff]; omega
    clear C h5
    go_enter Try.func3, Try.ntmps3
    go_wp2_with fail
    refine (HSU.out _).mono ?_
    rintro e wz ⟨rfl, hb⟩
    go_wp2_with fail
    go_ret
    exact ⟨rfl, hb⟩
  have q : decide (500 < l.length) = false := decide_eq_false h5
  have q' : decide ((500 : Int) < (l.length : Int)) = false := by rw [decide_eq_false_iff_not]; omega
  have HO1 := Lib.hid (fun W h => C.right l (by omega) a cap W h)
  have HR1 := Lib.hid (fun W h => tRight_calls l (by omega) a cap W h)
  have HO2 := Lib.hid (fun W h => C.low l (by omega) a cap W h)
  have HR2 := Lib.hid (fun W h => tLow_calls l (by omega) a cap W h)
  have HO3 := Lib.hid (fun W h => C.up l (by omega) a cap W h)
  have HR3 := Lib.hid (fun W h => tUp_calls l (by omega) a cap W h)
  have HO4 := Lib.hid (fun W h => C.deep l (by omega) a cap W h)
  have HR4 := Lib.hid (fun W h => tDeep_calls l (by omega) a cap W h)
  have hlw : (lowsT l).length ≤ 1000000 := by unfold lowsT; split <;> simp <;> omega
  have hup : (upsT l).length ≤ 1000000 := by unfold upsT; split <;> simp <;> omega
  have hdp : (deepsT l).length ≤ 1000000 := by unfold deepsT; split <;> simp <;> omega
  generalize rightT l = r at *
  generalize lowsT l = lw at *
  generalize upsT l = up at *
  generalize deepsT l = dp at *
  clear C
  go_enter Try.func3, Try.ntmps3
  go_wp2_with fail
  refine (HO1.out _ HN.out).mono ?_
  rintro e v1 ⟨rfl, hb⟩
  clear HO1
  replace HN := Lib.hid (HN.out.below hb)
  replace HB := Lib.hid (HB.out.trans (hb.mono HB.out.size))
  clear hb
  go_wp2_with fail
  refine (HR1.out _ HN.out).mono ?_
  rintro e v2 ⟨rfl, hb⟩
  clear HR1
  replace HN := Lib.hid (HN.out.below hb)
  replace HB := Lib.hid (HB.out.trans (hb.mono HB.out.size))
  clear hb
  go_wp2_with fail
  refine (HO2.out _ HN.out).mono ?_
  rintro e v3 ⟨b3, k3, rfl, hi, hb⟩
  have HX := Lib.hid hi.o
  clear HO2 hi
  replace HN := Lib.hid (HN.out.below hb)
  replace HB := Lib.hid (HB.out.trans (hb.mono HB.out.size))
  clear hb
  go_wp2_with fail
  refine (HR2.out _ HN.out).mono ?_
  rintro e v4 ⟨b4, k4, rfl, hi, hb⟩
  have HY := Lib.hid hi.o
  clear HR2 hi
  replace HX := Lib.hid (HX.out.below hb)
  replace HN := Lib.hid (HN.out.below hb)
  replace HB := Lib.hid (HB.out.trans (hb.mono HB.out.size))
  clear hb
  go_wp2_with fail
  refine (ints_same (lw) hlw _ _ _ _ _ HX.out HY.out).mono ?_
  rintro e v5 ⟨rfl, hb⟩
  replace HN := Lib.hid (HN.out.below hb)
  replace HB := Lib.hid (HB.out.trans (hb.mono HB.out.size))
  clear hb HX HY
  go_wp2_with fail
  refine (HO3.out _ HN.out).mono ?_
  rintro e v6 ⟨b6, k6, rfl, hi, hb⟩
  have HX := Lib.hid hi.o
  clear HO3 hi
  replace HN := Lib.hid (HN.out.below hb)
  replace HB := Lib.hid (HB.out.trans (hb.mono HB.out.size))
  clear hb
  go_wp2_with fail
  refine (HR3.out _ HN.out).mono ?_
  rintro e v7 ⟨b7, k7, rfl, hi, hb⟩
  have HY := Lib.hid hi.o
  clear HR3 hi
  replace HX := Lib.hid (HX.out.below hb)
  replace HN := Lib.hid (HN.out.below hb)
  replace HB := Lib.hid (HB.out.trans (hb.mono HB.out.size))
  clear hb
  go_wp2_with fail
  refine (ints_same (up) hup _ _ _ _ _ HX.out HY.out).mono ?_
  rintro e v8 ⟨rfl, hb⟩
  replace HN := Lib.hid (HN.out.below hb)
  replace HB := Lib.hid (HB.out.trans (hb.mono HB.out.size))
  clear hb HX HY
  go_wp2_with fail
  refine (HO4.out _ HN.out).mono ?_
  rintro e v9 ⟨b9, k9, rfl, hi, hb⟩
  have HX := Lib.hid hi.o
  clear HO4 hi
  replace HN := Lib.hid (HN.out.below hb)
  replace HB := Lib.hid (HB.out.trans (hb.mono HB.out.size))
  clear hb
  go_wp2_with fail
  refine (HR4.out _ HN.out).mono ?_
  rintro e v10 ⟨b10, k10, rfl, hi, hb⟩
  have HY := Lib.hid hi.o
  clear HR4 hi
  replace HX := Lib.hid (HX.out.below hb)
  replace HN := Lib.hid (HN.out.below hb)
  replace HB := Lib.hid (HB.out.trans (hb.mono HB.out.size))
  clear hb
  go_wp2_with fail
  refine (ints_same (dp) hdp _ _ _ _ _ HX.out HY.out).mono ?_
  rintro e v11 ⟨rfl, hb⟩
  replace HN := Lib.hid (HN.out.below hb)
  replace HB := Lib.hid (HB.out.trans (hb.mono HB.out.size))
  clear hb HX HY
  go_wp2_with fail
  refine (HSU.out _).mono ?_
  rintro e wz ⟨rfl, hb⟩
  have hBB := HB.out.trans (hb.mono HB.out.size)
  clear HSU hb
  go_wp2_with fail
  go_ret
  exact ⟨rfl, hBB⟩
set_option maxRecDepth 100000 in
set_option maxHeartbeats 16000000 in
theorem termGroups_calls (C : TermC) (l : List NdN) (hl : l.length ≤ 9223372036854775807) (q0 : Int) (a : Option Addr) (cap : Nat) (w : World) (h : NodesAt l a w) :
    Calls Try.prog 4 #[.slice a l.length cap, .int .i64 q0] w fun e w' => e = .returned (.bool true) ∧ Below w.heap.size w w' := by
  have HSU := Lib.hid (sure10_calls C)
  have HB := Lib.hid (Below.refl w.heap.size w)
  have HN := Lib.hid h
  clear h
  by_cases h5 : 500 < l.length
  · have q : decide (500 < l.length) = true := decide_eq_true h5
    have q' : decide ((500 : Int) < (l.length : Int)) = true := by rw [decide_eq_true_iff]; omega
    clear C h5
    go_enter Try.func4, Try.ntmps4
    go_wp2_with fail
    refine (HSU.out _).mono ?_
    rintro e wz ⟨rfl, hb⟩
    go_wp2_with fail
    go_ret
    exact ⟨rfl, hb⟩
  have q : decide (500 < l.length) = false := decide_eq_false h5
  have q' : decide ((500 : Int) < (l.length : Int)) = false := by rw [decide_eq_false_iff_not]; omega
  have HO1 := Lib.hid (fun W h => C.groups l (by omega) q0 a cap W h)
  have HR1 := Lib.hid (fun W h => tGroups_calls l (by omega) q0 a cap W h)
  have HO2 := Lib.hid (fun W h => C.top l (by omega) a cap W h)
  have HR2 := Lib.hid (fun W h => tTop_calls l (by omega) a cap W h)
  have hgl : (groupsL l q0).length ≤ 1000000 := by
    unfold groupsL
    rw [List.length_map]
    have := groupsT_len l q0
    omega
  generalize groupsL l q0 = gr at *
  generalize topT l = tp at *
  clear C
  go_enter Try.func4, Try.ntmps4
  go_wp2_with fail
  refine (HO1.out _ HN.out).mono ?_
  rintro e v12 ⟨b12, k12, rfl, hi, hb⟩
  have HX := Lib.hid hi.o
  clear HO1 hi
  replace HN := Lib.hid (HN.out.below hb)
  replace HB := Lib.hid (HB.out.trans (hb.mono HB.out.size))
  clear hb
  go_wp2_with fail
  refine (HR1.out _ HN.out).mono ?_
  rintro e v13 ⟨b13, k13, rfl, hi, hb⟩
  have HY := Lib.hid hi.o
  clear HR1 hi
  replace HX := Lib.hid (HX.out.below hb)
  replace HN := Lib.hid (HN.out.below hb)
  replace HB := Lib.hid (HB.out.trans (hb.mono HB.out.size))
  clear hb
  go_wp2_with fail
  refine (ints_same (gr) hgl _ _ _ _ _ HX.out HY.out).mono ?_
  rintro e v14 ⟨rfl, hb⟩
  replace HN := Lib.hid (HN.out.below hb)
  replace HB := Lib.hid (HB.out.trans (hb.mono HB.out.size))
  clear hb HX HY
  go_wp2_with fail
  refine (HO2.out _ HN.out).mono ?_
  rintro e v15 ⟨rfl, hb⟩
  clear HO2
  replace HN := Lib.hid (HN.out.below hb)
  replace HB := Lib.hid (HB.out.trans (hb.mono HB.out.size))
  clear hb
  go_wp2_with fail
  refine (HR2.out _ HN.out).mono ?_
  rintro e v16 ⟨rfl, hb⟩
  clear HR2
  replace HN := Lib.hid (HN.out.below hb)
  replace HB := Lib.hid (HB.out.trans (hb.mono HB.out.size))
  clear hb
  go_wp2_with fail
  refine (HSU.out _).mono ?_
  rintro e wz ⟨rfl, hb⟩
  have hBB := HB.out.trans (hb.mono HB.out.size)
  clear HSU hb
  go_wp2_with fail
  go_ret
  exact ⟨rfl, hBB⟩
end Go.Proofs.Ytlhlgohgmbkaoaa

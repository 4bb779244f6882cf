/- The laws of stage 6: what they want of the package ast; sure, AstTells, AstKids, AstNumbers. -/
import Derived.Test.YtjgokhhpfgnceaaDoorAi
import Derived.Test.YtjgokhhpfgnceaaDoorBl
namespace Go.Proofs.YtjgokhhpfgnceaaDoor
open Go.RowKit BS

/-- A slice of whole numbers in memory that is new. -/
def IntsB (base : Nat) (l : List Int) (a : Option Addr) (W : World) : Prop := l ≠ [] → ∃ g o, a = some ⟨g, o, none⟩ ∧ base ≤ g ∧ g < W.heap.size ∧ ∀ i (h : i < l.length), W.cell? ⟨g, o + i, none⟩ = some (.int .i64 l[i])
theorem IntsB.o {base : Nat} {l : List Int} {a : Option Addr} {W : World} (h : IntsB base l a W) : IntsO l a W := fun hne => by
  obtain ⟨g, o, e, _, hg, hc⟩ := h hne
  exact ⟨g, o, e, hg, hc⟩
theorem IntsB.below {base : Nat} {l : List Int} {a : Option Addr} {W W' : World} (h : IntsB base l a W) (hb : Below W.heap.size W W') : IntsB base l a W' := fun hne => by
  obtain ⟨g, o, e, h0, hg, hc⟩ := h hne
  exact ⟨g, o, e, h0, Nat.lt_of_lt_of_le hg hb.size, fun i hi => (hb.cell (p := ⟨g, o + i, none⟩) hg).trans (hc i hi)⟩
theorem IntsB.set {base : Nat} {l : List Int} {a : Option Addr} {W : World} (h : IntsB base l a W) {B : Nat} (hB : B < base) (x : Nat) (v : Value) : IntsB base l a (W.setCell ⟨B, x, none⟩ v) := fun hne => by
  obtain ⟨g, o, e, h0, hg, hc⟩ := h hne
  refine ⟨g, o, e, h0, by simpa using hg, fun i hi => ?_⟩
  exact (World.cell?_of_block (w := W) (a := ⟨g, o + i, none⟩) (Below.heap_setCell W ⟨B, x, none⟩ _ g (by show g ≠ B; omega))).trans (hc i hi)
/-- What the laws want of the package ast. -/
structure AstC : Prop where
  formed : ∀ (l : List NdN), l.length ≤ 1000000 → ∀ (a : Option Addr) (cap : Nat) (w : World), NodesAt l a w → Calls Tryd.prog 10 #[.slice a l.length cap] w fun e w' => e = .returned (.bool (decide (manyF 0 (l.map NdN.kids) = some 1))) ∧ Below w.heap.size w w'
  right : ∀ (l : List NdN), l.length ≤ 1000000 → ∀ (a : Option Addr) (cap : Nat) (w : World), NodesAt l a w → Calls Tryd.prog 12 #[.slice a l.length cap] w fun e w' => e = .returned (.bool (rightR l)) ∧ Below w.heap.size w w'
  sizes : ∀ (l : List NdN), l.length ≤ 1000000 → ∀ (a : Option Addr) (cap : Nat) (w : World), NodesAt l a w → Calls Tryd.prog 15 #[.slice a l.length cap] w fun e w' => ∃ b c, e = .returned (.slice b (sizesR l).length c) ∧ IntsB w.heap.size (sizesR l) b w' ∧ Below w.heap.size w w'
  kids : ∀ (l : List NdN), l.length ≤ 1000000 → ∀ (i : Int) (a : Option Addr) (cap : Nat) (w : World), NodesAt l a w → Calls Tryd.prog 17 #[.slice a l.length cap, .int .i64 i] w fun e w' => ∃ b c, e = .returned (.slice b (kidsR l i).length c) ∧ IntsB w.heap.size (kidsR l i) b w' ∧ Below w.heap.size w w'
  numbers : ∀ (l : List NdN), l.length ≤ 1000000 → ∀ (a : Option Addr) (cap : Nat) (w : World), NodesAt l a w → Calls Tryd.prog 19 #[.slice a l.length cap] w fun e w' => ∃ b c, e = .returned (.slice b (numsR l).length c) ∧ IntsB w.heap.size (numsR l) b w' ∧ Below w.heap.size w w'

theorem IntsO.alloc {l : List Int} {a : Option Addr} {W : World} (h : IntsO l a W) (o : Obj) : IntsO l a (W.alloc o) := h.below ((Below.refl _ _).alloc (Nat.le_refl _) o)
theorem NodesAt.alloc {l : List NdN} {a : Option Addr} {W : World} (h : NodesAt l a W) (o : Obj) : NodesAt l a (W.alloc o) := h.below ((Below.refl _ _).alloc (Nat.le_refl _) o)
/-- Whole numbers in a block of their own. -/
theorem IntsO.of_blk {l : List Int} {W : World} {g : Nat} {t : TypeId} (h : Blk W g (l.map (Value.int .i64)).toArray t) : IntsO l (some ⟨g, 0, none⟩) W := fun _ =>
  ⟨g, 0, rfl, h.lt, fun i hi => by rw [Nat.zero_add, h.cell i]; simp [hi]⟩

/-! ### sure -/
def l6 : List NdN := [⟨2, 0, 0, 0, 0⟩, ⟨2, 0, 0, 0, 0⟩, ⟨3, 1, 0, 0, 0⟩, ⟨5, 2, 0, 0, 0⟩]
@[reducible] def c6 : Array Value := #[.int .i64 2, .int .i64 0, .int .i64 0, .int .i64 0, .int .u64 0, .int .u64 0, .int .u64 0, .int .u64 0, .int .i64 2, .int .i64 0, .int .i64 0, .int .i64 0, .int .u64 0, .int .u64 0, .int .u64 0, .int .u64 0, .int .i64 3, .int .i64 1, .int .i64 0, .int .i64 0, .int .u64 0, .int .u64 0, .int .u64 0, .int .u64 0, .int .i64 5, .int .i64 2, .int .i64 0, .int .i64 0, .int .u64 0, .int .u64 0, .int .u64 0, .int .u64 0]
theorem l6_formed : decide (manyF 0 (l6.map NdN.kids) = some 1) = true := by decide +kernel
theorem l6_right : rightR l6 = true := by decide +kernel
theorem l6_two : decide (manyF 0 ((l6.take 2).map NdN.kids) = some 1) = false := by decide +kernel
theorem l6_kids : kidsR l6 3 = [0, 2] := by decide +kernel
theorem l6_sizes : sizesR l6 = [1, 1, 2, 4] := by decide +kernel
theorem l6_nums : numsR l6 = [0, 0, 1, 0] := by decide +kernel
set_option maxRecDepth 100000 in
theorem l6_at (W : World) : NodesAt l6 (some ⟨W.heap.size, 0, none⟩) (W.alloc (.cells c6 34)) := fun _ => by
  have hb := Blk.new W c6 34
  refine ⟨W.heap.size, 0, rfl, hb.lt, fun i hi j hj => ?_⟩
  have hi' : i < 4 := hi
  have z1 : wd (0 : BitVec 256) 1 = 0 := by decide
  have z2 : wd (0 : BitVec 256) 2 = 0 := by decide
  have z3 : wd (0 : BitVec 256) 3 = 0 := by decide
  rw [hb.cell]
  obtain rfl | rfl | rfl | rfl : i = 0 ∨ i = 1 ∨ i = 2 ∨ i = 3 := by omega
  all_goals
    obtain rfl | rfl | rfl | rfl | rfl | rfl | rfl | rfl : j = 0 ∨ j = 1 ∨ j = 2 ∨ j = 3 ∨ j = 4 ∨ j = 5 ∨ j = 6 ∨ j = 7 := by omega
    all_goals first
      | rfl
      | (show some (Value.int .u64 0) = some (.int .u64 ((wd (0 : BitVec 256) 1 : Nat) : Int)); rw [z1]; rfl)
      | (show some (Value.int .u64 0) = some (.int .u64 ((wd (0 : BitVec 256) 2 : Nat) : Int)); rw [z2]; rfl)
      | (show some (Value.int .u64 0) = some (.int .u64 ((wd (0 : BitVec 256) 3 : Nat) : Int)); rw [z3]; rfl)
theorem nodes_take (l : List NdN) (n : Nat) (a : Option Addr) (W : World) (h : NodesAt l a W) : NodesAt (l.take n) a W := fun hne => by
  obtain ⟨g, off, e, hg, hc⟩ := h (fun h => by rw [h] at hne; simp at hne)
  refine ⟨g, off, e, hg, fun i hi j hj => ?_⟩
  rw [List.length_take] at hi
  rw [hc i (by omega) j hj, List.getElem_take]

set_option maxRecDepth 100000 in
set_option maxHeartbeats 8000000 in
theorem sure6_calls (C : AstC) (w : World) : Calls Tryd.prog 9 #[] w fun e w' => e = .returned (.bool true) ∧ Below w.heap.size w w' := by
  have h1 := fun W h => C.formed l6 (by decide) (some ⟨w.heap.size, 0, none⟩) 4 W h
  rw [l6_formed] at h1
  have h2 := fun W h => C.right l6 (by decide) (some ⟨w.heap.size, 0, none⟩) 4 W h
  rw [l6_right] at h2
  have h3 := fun W h => C.formed (l6.take 2) (by decide) (some ⟨w.heap.size, 0, none⟩) 4 W h
  rw [l6_two] at h3
  have h4 := fun W h => C.kids l6 (by decide) 3 (some ⟨w.heap.size, 0, none⟩) 4 W h
  rw [l6_kids] at h4
  have h5 := fun W h => C.sizes l6 (by decide) (some ⟨w.heap.size, 0, none⟩) 4 W h
  rw [l6_sizes] at h5
  have h6 := fun W h => C.numbers l6 (by decide) (some ⟨w.heap.size, 0, none⟩) 4 W h
  rw [l6_nums] at h6
  have H1 : Hid (∀ W, NodesAt l6 (some ⟨w.heap.size, 0, none⟩) W → Calls Tryd.prog 10 #[.slice (some ⟨w.heap.size, 0, none⟩) 4 4] W fun e w' => e = .returned (.bool true) ∧ Below W.heap.size W w') := Lib.hid h1
  have H2 : Hid (∀ W, NodesAt l6 (some ⟨w.heap.size, 0, none⟩) W → Calls Tryd.prog 12 #[.slice (some ⟨w.heap.size, 0, none⟩) 4 4] W fun e w' => e = .returned (.bool true) ∧ Below W.heap.size W w') := Lib.hid h2
  have H3 : Hid (∀ W, NodesAt (l6.take 2) (some ⟨w.heap.size, 0, none⟩) W → Calls Tryd.prog 10 #[.slice (some ⟨w.heap.size, 0, none⟩) 2 4] W fun e w' => e = .returned (.bool false) ∧ Below W.heap.size W w') := Lib.hid h3
  have H4 : Hid (∀ W, NodesAt l6 (some ⟨w.heap.size, 0, none⟩) W → Calls Tryd.prog 17 #[.slice (some ⟨w.heap.size, 0, none⟩) 4 4, .int .i64 3] W fun e w' => ∃ b c, e = .returned (.slice b 2 c) ∧ IntsB W.heap.size [0, 2] b w' ∧ Below W.heap.size W w') := Lib.hid h4
  have H5 : Hid (∀ W, NodesAt l6 (some ⟨w.heap.size, 0, none⟩) W → Calls Tryd.prog 15 #[.slice (some ⟨w.heap.size, 0, none⟩) 4 4] W fun e w' => ∃ b c, e = .returned (.slice b 4 c) ∧ IntsB W.heap.size [1, 1, 2, 4] b w' ∧ Below W.heap.size W w') := Lib.hid h5
  have H6 : Hid (∀ W, NodesAt l6 (some ⟨w.heap.size, 0, none⟩) W → Calls Tryd.prog 19 #[.slice (some ⟨w.heap.size, 0, none⟩) 4 4] W fun e w' => ∃ b c, e = .returned (.slice b 4 c) ∧ IntsB W.heap.size [0, 0, 1, 0] b w' ∧ Below W.heap.size W w') := Lib.hid h6
  clear h1 h2 h3 h4 h5 h6 C
  have HN := Lib.hid (l6_at w)
  have HB : Hid (Below w.heap.size w (w.alloc (.cells c6 34))) := Lib.hid (by go_grown)
  go_enter Tryd.func9, Tryd.ntmps9
  go_upto_region 2 with fail
  generalize w.alloc (.cells c6 34) = w1 at *
  go_wp2_with fail
  refine (H1.out _ HN.out).mono ?_
  rintro e w2 ⟨rfl, hb⟩
  clear H1
  replace HN := Lib.hid (HN.out.below hb)
  replace HB := Lib.hid (HB.out.trans (hb.mono HB.out.size))
  clear hb
  go_wp2_with fail
  refine (H2.out _ HN.out).mono ?_
  rintro e w3 ⟨rfl, hb⟩
  clear H2
  replace HN := Lib.hid (HN.out.below hb)
  replace HB := Lib.hid (HB.out.trans (hb.mono HB.out.size))
  clear hb
  go_wp2_with fail
  refine (H3.out _ (nodes_take _ 2 _ _ HN.out)).mono ?_
  rintro e w4 ⟨rfl, hb⟩
  clear H3
  replace HN := Lib.hid (HN.out.below hb)
  replace HB := Lib.hid (HB.out.trans (hb.mono HB.out.size))
  clear hb
  go_wp2_with fail
  refine (H4.out _ HN.out).mono ?_
  rintro e w5 ⟨bHK, kHK, rfl, hi, hb⟩
  have HK := Lib.hid hi.o
  clear H4 hi
  replace HN := Lib.hid (HN.out.below hb)
  replace HB := Lib.hid (HB.out.trans (hb.mono HB.out.size))
  clear hb
  go_wp2_with fail
  have hq := IntsO.of_blk (l := [0, 2]) (Blk.new w5 #[.int .i64 0, .int .i64 2] 3)
  have HQ := Lib.hid hq
  clear hq
  replace HK := Lib.hid (HK.out.alloc (.cells #[.int .i64 0, .int .i64 2] 3))
  replace HN := Lib.hid (HN.out.alloc (.cells #[.int .i64 0, .int .i64 2] 3))
  have hsz := HB.out.size
  replace HB := Lib.hid (HB.out.alloc hsz (.cells #[.int .i64 0, .int .i64 2] 3))
  clear hsz
  generalize hg : w5.heap.size = g5 at *
  clear hg
  generalize w5.alloc (.cells #[.int .i64 0, .int .i64 2] 3) = w5n at *
  refine (ints_same [0, 2] (by decide) _ _ _ _ _ HK.out HQ.out).mono ?_
  rintro e w6 ⟨rfl, hb⟩
  replace HN := Lib.hid (HN.out.below hb)
  replace HB := Lib.hid (HB.out.trans (hb.mono HB.out.size))
  clear hb
  clear HQ HK
  go_wp2_with fail
  refine (H5.out _ HN.out).mono ?_
  rintro e w7 ⟨bHS, kHS, rfl, hi, hb⟩
  have HS := Lib.hid hi.o
  clear H5 hi
  replace HN := Lib.hid (HN.out.below hb)
  replace HB := Lib.hid (HB.out.trans (hb.mono HB.out.size))
  clear hb
  go_wp2_with fail
  have hq := IntsO.of_blk (l := [1, 1, 2, 4]) (Blk.new w7 #[.int .i64 1, .int .i64 1, .int .i64 2, .int .i64 4] 3)
  have HQ := Lib.hid hq
  clear hq
  replace HS := Lib.hid (HS.out.alloc (.cells #[.int .i64 1, .int .i64 1, .int .i64 2, .int .i64 4] 3))
  replace HN := Lib.hid (HN.out.alloc (.cells #[.int .i64 1, .int .i64 1, .int .i64 2, .int .i64 4] 3))
  have hsz := HB.out.size
  replace HB := Lib.hid (HB.out.alloc hsz (.cells #[.int .i64 1, .int .i64 1, .int .i64 2, .int .i64 4] 3))
  clear hsz
  generalize hg : w7.heap.size = g7 at *
  clear hg
  generalize w7.alloc (.cells #[.int .i64 1, .int .i64 1, .int .i64 2, .int .i64 4] 3) = w7n at *
  refine (ints_same [1, 1, 2, 4] (by decide) _ _ _ _ _ HS.out HQ.out).mono ?_
  rintro e w8 ⟨rfl, hb⟩
  replace HN := Lib.hid (HN.out.below hb)
  replace HB := Lib.hid (HB.out.trans (hb.mono HB.out.size))
  clear hb
  clear HQ HS
  go_wp2_with fail
  refine (H6.out _ HN.out).mono ?_
  rintro e w9 ⟨bHM, kHM, rfl, hi, hb⟩
  have HM := Lib.hid hi.o
  clear H6 hi
  replace HN := Lib.hid (HN.out.below hb)
  replace HB := Lib.hid (HB.out.trans (hb.mono HB.out.size))
  clear hb
  go_wp2_with fail
  have hq := IntsO.of_blk (l := [0, 0, 1, 0]) (Blk.new w9 #[.int .i64 0, .int .i64 0, .int .i64 1, .int .i64 0] 3)
  have HQ := Lib.hid hq
  clear hq
  replace HM := Lib.hid (HM.out.alloc (.cells #[.int .i64 0, .int .i64 0, .int .i64 1, .int .i64 0] 3))
  replace HN := Lib.hid (HN.out.alloc (.cells #[.int .i64 0, .int .i64 0, .int .i64 1, .int .i64 0] 3))
  have hsz := HB.out.size
  replace HB := Lib.hid (HB.out.alloc hsz (.cells #[.int .i64 0, .int .i64 0, .int .i64 1, .int .i64 0] 3))
  clear hsz
  generalize hg : w9.heap.size = g9 at *
  clear hg
  generalize w9.alloc (.cells #[.int .i64 0, .int .i64 0, .int .i64 1, .int .i64 0] 3) = w9n at *
  refine (ints_same [0, 0, 1, 0] (by decide) _ _ _ _ _ HM.out HQ.out).mono ?_
  rintro e w10 ⟨rfl, hb⟩
  replace HN := Lib.hid (HN.out.below hb)
  replace HB := Lib.hid (HB.out.trans (hb.mono HB.out.size))
  clear hb
  clear HQ HM
  go_wp2_with fail
  go_ret
  exact ⟨rfl, HB.out⟩

/-! ### few -/
set_option maxHeartbeats 1000000 in
theorem few_calls (n : Nat) (hn : n ≤ 9223372036854775807) (a : Option Addr) (cap : Nat) (w : World) : Calls Tryd.prog 8 #[.slice a n cap] w fun e w' => e = .returned (.bool (decide (n ≤ 60))) ∧ w = w' := by
  have q : decide ((n : Int) ≤ 60) = decide (n ≤ 60) := by rw [Bool.eq_iff_iff, decide_eq_true_iff, decide_eq_true_iff]; omega
  go_enter Tryd.func8, Tryd.ntmps8
  go_wp2_with fail
  go_ret
  exact ⟨rfl, rfl⟩
set_option maxRecDepth 100000 in
set_option maxHeartbeats 8000000 in
theorem tells6_calls (C : AstC) (l : List NdN) (hn : l.length ≤ 9223372036854775807) (a : Option Addr) (cap : Nat) (w : World) (h : NodesAt l a w) : Calls Tryd.prog 3 #[.slice a l.length cap] w fun e w' => e = .returned (.bool true) ∧ Below w.heap.size w w' := by
  by_cases hl : 60 < l.length
  · have HFW : Hid (∀ w, Calls Tryd.prog 8 #[.slice a l.length cap] w fun e w' => e = .returned (.bool false) ∧ w = w') := Lib.hid (fun w => by have := few_calls l.length hn a cap w; rw [decide_eq_false (by omega)] at this; exact this)
    have HSU := Lib.hid (sure6_calls C)
    clear C hl
    go_enter Tryd.func3, Tryd.ntmps3
    go_wp2_with fail
    refine (HFW.out _).mono ?_
    rintro e w1 ⟨rfl, rfl⟩
    clear HFW
    go_wp2_with fail
    refine (HSU.out _).mono ?_
    rintro e w1 ⟨rfl, hb⟩
    clear HSU
    go_wp2_with fail
    go_ret
    exact ⟨rfl, hb⟩
  have HFW : Hid (∀ w, Calls Tryd.prog 8 #[.slice a l.length cap] w fun e w' => e = .returned (.bool true) ∧ w = w') := Lib.hid (fun w => by have := few_calls l.length hn a cap w; rw [decide_eq_true (by omega)] at this; exact this)
  have HSU := Lib.hid (sure6_calls C)
  have HN := Lib.hid h
  have HB := Lib.hid (Below.refl w.heap.size w)
  have hl6 : l.length ≤ 1000000 := by omega
  have H1 := Lib.hid (fun W h => C.formed l hl6 a cap W h)
  have H2 := Lib.hid (fun W h => rFormed_calls l hl6 a cap W h)
  have H3 := Lib.hid (fun W h => C.right l hl6 a cap W h)
  have H4 := Lib.hid (fun W h => rRight_calls l hl6 a cap W h)
  have H5 := Lib.hid (fun W h => C.sizes l hl6 a cap W h)
  have H6 := Lib.hid (fun W h => rSizes_calls l hl6 a cap W h)
  have hsl := sizesR_le l
  clear C h hl
  generalize decide (manyF 0 (l.map NdN.kids) = some 1) = d1 at *
  generalize rightR l = d2 at *
  generalize sizesR l = z at *
  have q1 : (d1 == d1) = true := by simp
  have q2 : (d2 == d2) = true := by simp
  go_enter Tryd.func3, Tryd.ntmps3
  go_wp2_with fail
  refine (HFW.out _).mono ?_
  rintro e w1 ⟨rfl, rfl⟩
  clear HFW
  go_wp2_with fail
  refine (H1.out _ HN.out).mono ?_
  rintro e w2 ⟨rfl, hb⟩
  clear H1
  replace HN := Lib.hid (HN.out.below hb)
  replace HB := Lib.hid (HB.out.trans (hb.mono HB.out.size))
  clear hb
  go_wp2_with fail
  refine (H2.out _ HN.out).mono ?_
  rintro e w3 ⟨rfl, rfl⟩
  clear H2
  go_wp2_with fail
  refine (H3.out _ HN.out).mono ?_
  rintro e w4 ⟨rfl, hb⟩
  clear H3
  replace HN := Lib.hid (HN.out.below hb)
  replace HB := Lib.hid (HB.out.trans (hb.mono HB.out.size))
  clear hb
  go_wp2_with fail
  refine (H4.out _ HN.out).mono ?_
  rintro e w5 ⟨rfl, hb⟩
  clear H4
  replace HN := Lib.hid (HN.out.below hb)
  replace HB := Lib.hid (HB.out.trans (hb.mono HB.out.size))
  clear hb
  go_wp2_with fail
  refine (H5.out _ HN.out).mono ?_
  rintro e w6 ⟨bHS, kHS, rfl, hi, hb⟩
  have HS := Lib.hid hi.o
  clear H5 hi
  replace HN := Lib.hid (HN.out.below hb)
  replace HB := Lib.hid (HB.out.trans (hb.mono HB.out.size))
  clear hb
  go_wp2_with fail
  refine (H6.out _ HN.out).mono ?_
  rintro e w7 ⟨bT, kT, rfl, hi, hb⟩
  have HT := Lib.hid hi.o
  replace HS := Lib.hid (HS.out.below hb)
  clear H6 hi
  replace HN := Lib.hid (HN.out.below hb)
  replace HB := Lib.hid (HB.out.trans (hb.mono HB.out.size))
  clear hb
  go_wp2_with fail
  refine (ints_same z (by omega) _ _ _ _ _ HS.out HT.out).mono ?_
  rintro e w8 ⟨rfl, hb⟩
  replace HN := Lib.hid (HN.out.below hb)
  replace HB := Lib.hid (HB.out.trans (hb.mono HB.out.size))
  clear hb
  clear HS HT
  go_wp2_with fail
  refine (HSU.out _).mono ?_
  rintro e wz ⟨rfl, hb⟩
  replace HN := Lib.hid (HN.out.below hb)
  replace HB := Lib.hid (HB.out.trans (hb.mono HB.out.size))
  clear hb
  clear HSU
  go_wp2_with fail
  go_ret
  exact ⟨rfl, HB.out⟩
theorem kidsR_lenI (l : List NdN) (i : Int) : (kidsR l i).length ≤ l.length := by
  by_cases h : 0 ≤ i
  · obtain ⟨n, rfl⟩ := Int.eq_ofNat_of_zero_le h
    exact kidsR_len l n
  · unfold kidsR
    rw [if_neg (by omega)]
    exact Nat.zero_le _
theorem numsR_len (l : List NdN) : (numsR l).length = (sizesR l).length := by unfold numsR; rw [List.length_map, List.length_range]
set_option maxRecDepth 100000 in
set_option maxHeartbeats 8000000 in
theorem kids6_calls (C : AstC) (l : List NdN) (hn : l.length ≤ 9223372036854775807) (i : Int) (a : Option Addr) (cap : Nat) (w : World) (h : NodesAt l a w) : Calls Tryd.prog 4 #[.slice a l.length cap, .int .i64 i] w fun e w' => e = .returned (.bool true) ∧ Below w.heap.size w w' := by
  by_cases hl : 60 < l.length
  · have HFW : Hid (∀ w, Calls Tryd.prog 8 #[.slice a l.length cap] w fun e w' => e = .returned (.bool false) ∧ w = w') := Lib.hid (fun w => by have := few_calls l.length hn a cap w; rw [decide_eq_false (by omega)] at this; exact this)
    have HSU := Lib.hid (sure6_calls C)
    clear C hl
    go_enter Tryd.func4, Tryd.ntmps4
    go_wp2_with fail
    refine (HFW.out _).mono ?_
    rintro e w1 ⟨rfl, rfl⟩
    clear HFW
    go_wp2_with fail
    refine (HSU.out _).mono ?_
    rintro e w1 ⟨rfl, hb⟩
    clear HSU
    go_wp2_with fail
    go_ret
    exact ⟨rfl, hb⟩
  have HFW : Hid (∀ w, Calls Tryd.prog 8 #[.slice a l.length cap] w fun e w' => e = .returned (.bool true) ∧ w = w') := Lib.hid (fun w => by have := few_calls l.length hn a cap w; rw [decide_eq_true (by omega)] at this; exact this)
  have HSU := Lib.hid (sure6_calls C)
  have HN := Lib.hid h
  have HB := Lib.hid (Below.refl w.heap.size w)
  have hl6 : l.length ≤ 1000000 := by omega
  have H5 := Lib.hid (fun W h => C.kids l hl6 i a cap W h)
  have H6 := Lib.hid (fun W h => rKids_calls l hl6 i a cap W h)
  have hsl : (kidsR l i).length ≤ 1000000 := by have := kidsR_lenI l i; omega
  clear C h hl
  generalize kidsR l i = z at *
  go_enter Tryd.func4, Tryd.ntmps4
  go_wp2_with fail
  refine (HFW.out _).mono ?_
  rintro e w1 ⟨rfl, rfl⟩
  clear HFW
  go_wp2_with fail
  refine (H5.out _ HN.out).mono ?_
  rintro e w6 ⟨bHS, kHS, rfl, hi, hb⟩
  have HS := Lib.hid hi.o
  clear H5 hi
  replace HN := Lib.hid (HN.out.below hb)
  replace HB := Lib.hid (HB.out.trans (hb.mono HB.out.size))
  clear hb
  go_wp2_with fail
  refine (H6.out _ HN.out).mono ?_
  rintro e w7 ⟨bT, kT, rfl, hi, hb⟩
  have HT := Lib.hid hi.o
  replace HS := Lib.hid (HS.out.below hb)
  clear H6 hi
  replace HN := Lib.hid (HN.out.below hb)
  replace HB := Lib.hid (HB.out.trans (hb.mono HB.out.size))
  clear hb
  go_wp2_with fail
  refine (ints_same z hsl _ _ _ _ _ HS.out HT.out).mono ?_
  rintro e w8 ⟨rfl, hb⟩
  replace HN := Lib.hid (HN.out.below hb)
  replace HB := Lib.hid (HB.out.trans (hb.mono HB.out.size))
  clear hb
  clear HS HT
  go_wp2_with fail
  refine (HSU.out _).mono ?_
  rintro e wz ⟨rfl, hb⟩
  replace HN := Lib.hid (HN.out.below hb)
  replace HB := Lib.hid (HB.out.trans (hb.mono HB.out.size))
  clear hb
  clear HSU
  go_wp2_with fail
  go_ret
  exact ⟨rfl, HB.out⟩
set_option maxRecDepth 100000 in
set_option maxHeartbeats 8000000 in
theorem numbers6_calls (C : AstC) (l : List NdN) (hn : l.length ≤ 9223372036854775807) (a : Option Addr) (cap : Nat) (w : World) (h : NodesAt l a w) : Calls Tryd.prog 5 #[.slice a l.length cap] w fun e w' => e = .returned (.bool true) ∧ Below w.heap.size w w' := by
  by_cases hl : 60 < l.length
  · have HFW : Hid (∀ w, Calls Tryd.prog 8 #[.slice a l.length cap] w fun e w' => e = .returned (.bool false) ∧ w = w') := Lib.hid (fun w => by have := few_calls l.length hn a cap w; rw [decide_eq_false (by omega)] at this; exact this)
    have HSU := Lib.hid (sure6_calls C)
    clear C hl
    go_enter Tryd.func5, Tryd.ntmps5
    go_wp2_with fail
    refine (HFW.out _).mono ?_
    rintro e w1 ⟨rfl, rfl⟩
    clear HFW
    go_wp2_with fail
    refine (HSU.out _).mono ?_
    rintro e w1 ⟨rfl, hb⟩
    clear HSU
    go_wp2_with fail
    go_ret
    exact ⟨rfl, hb⟩
  have HFW : Hid (∀ w, Calls Tryd.prog 8 #[.slice a l.length cap] w fun e w' => e = .returned (.bool true) ∧ w = w') := Lib.hid (fun w => by have := few_calls l.length hn a cap w; rw [decide_eq_true (by omega)] at this; exact this)
  have HSU := Lib.hid (sure6_calls C)
  have HN := Lib.hid h
  have HB := Lib.hid (Below.refl w.heap.size w)
  have hl6 : l.length ≤ 1000000 := by omega
  have H5 := Lib.hid (fun W h => C.numbers l hl6 a cap W h)
  have H6 := Lib.hid (fun W h => rNumbers_calls l hl6 a cap W h)
  have hsl : (numsR l).length ≤ 1000000 := by have := numsR_len l; have := sizesR_le l; omega
  clear C h hl
  generalize numsR l = z at *
  go_enter Tryd.func5, Tryd.ntmps5
  go_wp2_with fail
  refine (HFW.out _).mono ?_
  rintro e w1 ⟨rfl, rfl⟩
  clear HFW
  go_wp2_with fail
  refine (H5.out _ HN.out).mono ?_
  rintro e w6 ⟨bHS, kHS, rfl, hi, hb⟩
  have HS := Lib.hid hi.o
  clear H5 hi
  replace HN := Lib.hid (HN.out.below hb)
  replace HB := Lib.hid (HB.out.trans (hb.mono HB.out.size))
  clear hb
  go_wp2_with fail
  refine (H6.out _ HN.out).mono ?_
  rintro e w7 ⟨bT, kT, rfl, hi, hb⟩
  have HT := Lib.hid hi.o
  replace HS := Lib.hid (HS.out.below hb)
  clear H6 hi
  replace HN := Lib.hid (HN.out.below hb)
  replace HB := Lib.hid (HB.out.trans (hb.mono HB.out.size))
  clear hb
  go_wp2_with fail
  refine (ints_same z hsl _ _ _ _ _ HS.out HT.out).mono ?_
  rintro e w8 ⟨rfl, hb⟩
  replace HN := Lib.hid (HN.out.below hb)
  replace HB := Lib.hid (HB.out.trans (hb.mono HB.out.size))
  clear hb
  clear HS HT
  go_wp2_with fail
  refine (HSU.out _).mono ?_
  rintro e wz ⟨rfl, hb⟩
  replace HN := Lib.hid (HN.out.below hb)
  replace HB := Lib.hid (HB.out.trans (hb.mono HB.out.size))
  clear hb
  clear HSU
  go_wp2_with fail
  go_ret
  exact ⟨rfl, HB.out⟩
end Go.Proofs.YtjgokhhpfgnceaaDoor

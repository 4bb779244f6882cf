/- The laws of stage 3: sure, BracketTells, BracketSure, BracketLack, BracketPlaces. -/
import Derived.Test.YtkkhibamkdgffaaDoorDu
import Derived.Test.YtkkhibamkdgffaaDoorDv
import Derived.Test.YtkkhibamkdgffaaDoorGs
import Derived.Test.YtkkhibamkdgffaaDoorGv
import Derived.Test.YtkkhibamkdgffaaDoorGu
import Derived.Test.YtkkhibamkdgffaaDoorGx
import Derived.Laws.Concat
namespace Go.Proofs.YtkkhibamkdgffaaDoor
open Go.RowKit Go.Shelf BS

theorem dRead (s : ByteArray) (hs : s.size ≤ 60000) (at' : Int) (t : BitVec 256) (p e k : Nat) (h : readR s at' = (t, p, e, k)) (w : World) :
    Calls Tryd.prog 8 #[.string s, .int .i64 at'] w fun en w' => en = .returned (.tuple #[setV t, .int .i64 p, .int .i64 e, .int .i64 k]) ∧ Below w.heap.size w w' := by
  have h1 := read_calls s hs at' w
  rw [readD_eq, h] at h1
  exact h1
def sA3 : ByteArray := ⟨#[120, 91, 97, 45, 99, 91, 58, 100, 105, 103, 105, 116, 58, 93, 93]⟩
def sB3 : ByteArray := ⟨#[91, 122, 45, 97, 93]⟩
def sC3 : ByteArray := ⟨#[91, 91, 58, 102, 111, 111]⟩
def bS3 : BitVec 256 := (readR sA3 1).1
def zS3 : BitVec 256 := 0
theorem sA_read : readR sA3 1 = (bS3, 15, 0, 0) := by decide +kernel
theorem sB_read : readR sB3 0 = (zS3, 0, 4, 4) := by decide +kernel
theorem sC_read : readR sC3 0 = (zS3, 0, 5, 4) := by decide +kernel
theorem sA_c (w : World) : Calls Tryd.prog 8 #[.string ⟨#[120, 91, 97, 45, 99, 91, 58, 100, 105, 103, 105, 116, 58, 93, 93]⟩, .int .i64 1] w fun en w' => en = .returned (.tuple #[setV bS3, .int .i64 15, .int .i64 0, .int .i64 0]) ∧ Below w.heap.size w w' := dRead sA3 (by decide) 1 _ _ _ _ sA_read w
theorem sB_c (w : World) : Calls Tryd.prog 8 #[.string ⟨#[91, 122, 45, 97, 93]⟩, .int .i64 0] w fun en w' => en = .returned (.tuple #[setV zS3, .int .i64 0, .int .i64 4, .int .i64 4]) ∧ Below w.heap.size w w' := dRead sB3 (by decide) 0 _ _ _ _ sB_read w
theorem sC_c (w : World) : Calls Tryd.prog 8 #[.string ⟨#[91, 91, 58, 102, 111, 111]⟩, .int .i64 0] w fun en w' => en = .returned (.tuple #[setV zS3, .int .i64 0, .int .i64 5, .int .i64 4]) ∧ Below w.heap.size w w' := dRead sC3 (by decide) 0 _ _ _ _ sC_read w
theorem bS_cnt (w : World) : Calls Tryd.prog 9 #[setV bS3] w fun e w' => e = .returned (.int .i64 13) ∧ Below w.heap.size w w' := by
  have h := count_calls bS3 w
  rw [show cnt bS3.getLsbD 256 = 13 by decide +kernel] at h; exact h

set_option maxRecDepth 100000 in
set_option maxHeartbeats 4000000 in
theorem sure3_calls (w : World) : Calls Tryd.prog 4 #[] w fun e w' => e = .returned (.bool true) ∧ Below w.heap.size w w' := by
  have HB := Lib.hid (Below.refl w.heap.size w)
  have hz := Nat.le_refl w.heap.size
  go_enter Tryd.func4, Tryd.ntmps4
  go_wp2_with fail
  refine (sA_c _).mono ?_
  rintro e w1 ⟨rfl, hb⟩
  have HBx := Lib.hid (HB.out.trans (hb.mono (by omega)))
  have hzx := Nat.le_trans hz hb.size
  clear  HB hz hb
  have HB := HBx
  have hz := hzx
  clear HBx hzx
  go_upto_region 2 with fail
  have BA : Hid (Blk (w1.alloc (.cells #[.int .u64 (wd bS3 0), .int .u64 (wd bS3 1), .int .u64 (wd bS3 2), .int .u64 (wd bS3 3)] 24)) w1.heap.size (setA bS3) 24) := Lib.hid (Blk.new w1 (setA bS3) 24)
  replace HB := Lib.hid (HB.out.alloc (by omega) (.cells #[.int .u64 (wd bS3 0), .int .u64 (wd bS3 1), .int .u64 (wd bS3 2), .int .u64 (wd bS3 3)] 24))
  have hzx : w.heap.size ≤ (w1.alloc (.cells #[.int .u64 (wd bS3 0), .int .u64 (wd bS3 1), .int .u64 (wd bS3 2), .int .u64 (wd bS3 3)] 24)).heap.size := by simp; omega
  have hgBA : w.heap.size ≤ w1.heap.size := hz
  clear hz
  have hz := hzx
  clear hzx
  generalize w1.alloc (.cells #[.int .u64 (wd bS3 0), .int .u64 (wd bS3 1), .int .u64 (wd bS3 2), .int .u64 (wd bS3 3)] 24) = w1n at *
  generalize w1.heap.size = gBA at *
  go_wp2_with fail
  refine (sB_c _).mono ?_
  rintro e w2 ⟨rfl, hb⟩
  have BAx := Lib.hid (BA.out.below hb (Blk.lt BA.out))
  have HBx := Lib.hid (HB.out.trans (hb.mono (by omega)))
  have hzx := Nat.le_trans hz hb.size
  clear BA HB hz hb
  have BA := BAx
  have HB := HBx
  have hz := hzx
  clear BAx HBx hzx
  go_upto_region 3 with fail
  have BB : Hid (Blk (w2.alloc (.cells #[.int .u64 (wd zS3 0), .int .u64 (wd zS3 1), .int .u64 (wd zS3 2), .int .u64 (wd zS3 3)] 24)) w2.heap.size (setA zS3) 24) := Lib.hid (Blk.new w2 (setA zS3) 24)
  replace BA := Lib.hid (BA.out.alloc (.cells #[.int .u64 (wd zS3 0), .int .u64 (wd zS3 1), .int .u64 (wd zS3 2), .int .u64 (wd zS3 3)] 24))
  replace HB := Lib.hid (HB.out.alloc (by omega) (.cells #[.int .u64 (wd zS3 0), .int .u64 (wd zS3 1), .int .u64 (wd zS3 2), .int .u64 (wd zS3 3)] 24))
  have hzx : w.heap.size ≤ (w2.alloc (.cells #[.int .u64 (wd zS3 0), .int .u64 (wd zS3 1), .int .u64 (wd zS3 2), .int .u64 (wd zS3 3)] 24)).heap.size := by simp; omega
  have hgBB : w.heap.size ≤ w2.heap.size := hz
  clear hz
  have hz := hzx
  clear hzx
  generalize w2.alloc (.cells #[.int .u64 (wd zS3 0), .int .u64 (wd zS3 1), .int .u64 (wd zS3 2), .int .u64 (wd zS3 3)] 24) = w2n at *
  generalize w2.heap.size = gBB at *
  clear BB
  go_wp2_with fail
  refine (sC_c _).mono ?_
  rintro e w3 ⟨rfl, hb⟩
  have BAx := Lib.hid (BA.out.below hb (Blk.lt BA.out))
  have HBx := Lib.hid (HB.out.trans (hb.mono (by omega)))
  have hzx := Nat.le_trans hz hb.size
  clear BA HB hz hb
  have BA := BAx
  have HB := HBx
  have hz := hzx
  clear BAx HBx hzx
  go_upto_region 4 with fail
  have BC : Hid (Blk (w3.alloc (.cells #[.int .u64 (wd zS3 0), .int .u64 (wd zS3 1), .int .u64 (wd zS3 2), .int .u64 (wd zS3 3)] 24)) w3.heap.size (setA zS3) 24) := Lib.hid (Blk.new w3 (setA zS3) 24)
  replace BA := Lib.hid (BA.out.alloc (.cells #[.int .u64 (wd zS3 0), .int .u64 (wd zS3 1), .int .u64 (wd zS3 2), .int .u64 (wd zS3 3)] 24))
  replace HB := Lib.hid (HB.out.alloc (by omega) (.cells #[.int .u64 (wd zS3 0), .int .u64 (wd zS3 1), .int .u64 (wd zS3 2), .int .u64 (wd zS3 3)] 24))
  have hzx : w.heap.size ≤ (w3.alloc (.cells #[.int .u64 (wd zS3 0), .int .u64 (wd zS3 1), .int .u64 (wd zS3 2), .int .u64 (wd zS3 3)] 24)).heap.size := by simp; omega
  have hgBC : w.heap.size ≤ w3.heap.size := hz
  clear hz
  have hz := hzx
  clear hzx
  generalize w3.alloc (.cells #[.int .u64 (wd zS3 0), .int .u64 (wd zS3 1), .int .u64 (wd zS3 2), .int .u64 (wd zS3 3)] 24) = w3n at *
  generalize w3.heap.size = gBC at *
  clear BC
  obtain ⟨⟨c0, c1, c2, c3⟩, _⟩ := BA.out.cells4
  go_wp2_with fail
  refine (bS_cnt _).mono ?_
  rintro e w4 ⟨rfl, hb⟩
  have BAx := Lib.hid (BA.out.below hb (Blk.lt BA.out))
  have HBx := Lib.hid (HB.out.trans (hb.mono (by omega)))
  have hzx := Nat.le_trans hz hb.size
  clear BA HB hz hb
  have BA := BAx
  have HB := HBx
  have hz := hzx
  clear BAx HBx hzx
  clear c0 c1 c2 c3
  go_wp2_with fail
  go_ret
  exact ⟨rfl, HB.out⟩

theorem agr_cut (s more : ByteArray) (n : Nat) (h : n ≤ s.size) : Agr n s (s.extract 0 n ++ more) := by
  have hz : (s.extract 0 n).size = n := by rw [ByteArray.size_extract]; omega
  refine ⟨h, by rw [ByteArray.size_append]; omega, fun i hi => ?_⟩
  rw [bt_app, if_pos (by omega), bt_extract s 0 n i h (by omega), Nat.zero_add]
def SureE (s : ByteArray) (more : ByteArray) (at' : Int) (t : BitVec 256) (p e k : Nat) : Prop :=
  (e = 1 ∧ t = 0 ∧ p = 0 ∧ k = 0) ∨ (e = 2 ∧ t = 0 ∧ p = 0 ∧ k = s.size ∧ 0 < s.size) ∨
  (∃ a : Nat, at' = a ∧ ((e = 0 ∧ k = 0 ∧ a < p ∧ p ≤ s.size ∧ readR (s.extract 0 p ++ more) a = (t, p, 0, 0)) ∨ (e ≠ 0 ∧ e ≠ 1 ∧ e ≠ 2 ∧ p = 0 ∧ k ≤ s.size ∧ readR (s.extract 0 k ++ more) a = (t, p, e, k))))
theorem sureE (s more : ByteArray) (at' : Int) (t : BitVec 256) (p e k : Nat) (h : readR s at' = (t, p, e, k)) : SureE s more at' t p e k := by
  have hE := readR_end s at'
  have hA := fun n h1 h2 => readR_agr s (s.extract 0 n ++ more) at' h1 h2
  rw [h] at hE hA
  simp only [Prod.mk.injEq] at hE
  rcases hE with ⟨⟨rfl, rfl, rfl, rfl⟩, _⟩ | ⟨h0, h1, _, ⟨rfl, rfl, h2, h3⟩ | ⟨h2, h3, rfl, rfl, h4, h5, h6⟩⟩
  · exact .inl ⟨rfl, rfl, rfl, rfl⟩
  · have hc : cutT (t, p, 0, 0) = p := rfl
    have := hA p (by simp) (by simp) (by rw [hc]; exact agr_cut s more p h3)
    refine .inr (.inr ⟨at'.toNat, by omega, .inl ⟨rfl, rfl, h2, h3, ?_⟩⟩)
    rw [show ((at'.toNat : Nat) : Int) = at' by omega]; exact this
  · by_cases he : e = 2
    · exact .inr (.inl ⟨he, rfl, rfl, h6 he, by omega⟩)
    · have hc : cutT ((0 : BitVec 256), 0, e, k) = k := by unfold cutT; rw [if_neg h2]
      have := hA k h3 he (by rw [hc]; exact agr_cut s more k h5)
      refine .inr (.inr ⟨at'.toNat, by omega, .inr ⟨h2, h3, he, rfl, h5, ?_⟩⟩)
      rw [show ((at'.toNat : Nat) : Int) = at' by omega]; exact this

end Go.Proofs.YtkkhibamkdgffaaDoor

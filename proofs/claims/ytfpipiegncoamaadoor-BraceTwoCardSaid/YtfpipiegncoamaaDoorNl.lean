/- The laws of stage 4. -/
import Derived.Test.YtfpipiegncoamaaDoorMd
import Derived.Deep.DeepCutAuto
import Derived.Deep.CutBlock
import Derived.Laws.ResultCell
namespace Go.Proofs.YtfpipiegncoamaaDoor
open Go.RowKit

theorem bRead (s : ByteArray) (hs : s.size ≤ 60000) (at' : Int) (n : Nat) (m : Int) (p e k : Nat) (h : readN s at' = (n, m, p, e, k)) (w : World) :
    Calls Tryd.prog 9 #[.string s, .int .i64 at'] w fun en w' => en = .returned (.tuple #[.agg #[.int .i64 n, .int .i64 m], .int .i64 p, .int .i64 e, .int .i64 k]) ∧ Below w.heap.size w w' := by
  have h1 := bRead_calls s hs at' w
  rw [h] at h1
  exact h1
def s41 : ByteArray := ⟨#[97, 123, 51, 44, 125]⟩
def s42 : ByteArray := ⟨#[123, 53, 48, 44, 52]⟩
def s43 : ByteArray := ⟨#[123, 53, 48]⟩
theorem s41_c (w : World) : Calls Tryd.prog 9 #[.string ⟨#[97, 123, 51, 44, 125]⟩, .int .i64 1] w fun en w' => en = .returned (.tuple #[.agg #[.int .i64 3, .int .i64 (-1)], .int .i64 5, .int .i64 0, .int .i64 0]) ∧ Below w.heap.size w w' := bRead s41 (by decide) 1 3 (-1) 5 0 0 (by decide +kernel) w
theorem s42_c (w : World) : Calls Tryd.prog 9 #[.string ⟨#[123, 53, 48, 44, 52]⟩, .int .i64 0] w fun en w' => en = .returned (.tuple #[.agg #[.int .i64 0, .int .i64 0], .int .i64 0, .int .i64 6, .int .i64 5]) ∧ Below w.heap.size w w' := bRead s42 (by decide) 0 0 0 0 6 5 (by decide +kernel) w
theorem s43_c (w : World) : Calls Tryd.prog 9 #[.string ⟨#[123, 53, 48]⟩, .int .i64 0] w fun en w' => en = .returned (.tuple #[.agg #[.int .i64 0, .int .i64 0], .int .i64 0, .int .i64 2, .int .i64 3]) ∧ Below w.heap.size w w' := bRead s43 (by decide) 0 0 0 0 2 3 (by decide +kernel) w
theorem s44_c (w : World) : Calls Tryd.prog 11 #[.int .i64 0, .int .i64 1] w fun en w' => en = .returned (.string ⟨#[63]⟩) ∧ Below w.heap.size w w' := by
  have h := bText_calls 0 1 w
  rw [show ofT (textN 0 1) = ⟨#[63]⟩ from by decide +kernel] at h
  exact h

set_option maxRecDepth 100000 in
set_option maxHeartbeats 4000000 in
theorem sure4_calls (w : World) : Calls Tryd.prog 8 #[] w fun e w' => e = .returned (.bool true) ∧ Below w.heap.size w w' := by
  have HB := Lib.hid (Below.refl w.heap.size w)
  have hz := Nat.le_refl w.heap.size
  go_enter Tryd.func8, Tryd.ntmps8
  go_wp2_with fail
  refine (s41_c _).mono ?_
  rintro e w1 ⟨rfl, hb⟩
  have HBx := Lib.hid (HB.out.trans (hb.mono (by omega)))
  have hzx := Nat.le_trans hz hb.size
  clear  HB hz hb
  have HB := HBx
  have hz := hzx
  clear HBx hzx
  go_upto_region 2 with fail
  have BA : Hid (Blk (w1.alloc (.cells #[.int .i64 3, .int .i64 (-1)] 24)) w1.heap.size (#[.int .i64 3, .int .i64 (-1)]) 24) := Lib.hid (Blk.new w1 (#[.int .i64 3, .int .i64 (-1)]) 24)
  replace HB := Lib.hid (HB.out.alloc (by omega) (.cells #[.int .i64 3, .int .i64 (-1)] 24))
  have hzx : w.heap.size ≤ (w1.alloc (.cells #[.int .i64 3, .int .i64 (-1)] 24)).heap.size := by simp; omega
  have hgBA : w.heap.size ≤ w1.heap.size := hz
  clear hz
  have hz := hzx
  clear hzx
  generalize w1.alloc (.cells #[.int .i64 3, .int .i64 (-1)] 24) = w1n at *
  generalize w1.heap.size = gBA at *
  go_wp2_with fail
  refine (s42_c _).mono ?_
  rintro e w2 ⟨rfl, hb⟩
  have BAx := Lib.hid (BA.out.below hb (Blk.lt BA.out))
  have HBx := Lib.hid (HB.out.trans (hb.mono (by omega)))
  have hzx := Nat.le_trans hz hb.size
  clear BA HB hz hb
  have BA := BAx
  have HB := HBx
  have hz := hzx
  clear BAx HBx hzx
  go_upto_region 3 with fail
  have BB : Hid (Blk (w2.alloc (.cells #[.int .i64 0, .int .i64 0] 24)) w2.heap.size (#[.int .i64 0, .int .i64 0]) 24) := Lib.hid (Blk.new w2 (#[.int .i64 0, .int .i64 0]) 24)
  replace BA := Lib.hid (BA.out.alloc (.cells #[.int .i64 0, .int .i64 0] 24))
  replace HB := Lib.hid (HB.out.alloc (by omega) (.cells #[.int .i64 0, .int .i64 0] 24))
  have hzx : w.heap.size ≤ (w2.alloc (.cells #[.int .i64 0, .int .i64 0] 24)).heap.size := by simp; omega
  have hgBB : w.heap.size ≤ w2.heap.size := hz
  clear hz
  have hz := hzx
  clear hzx
  generalize w2.alloc (.cells #[.int .i64 0, .int .i64 0] 24) = w2n at *
  generalize w2.heap.size = gBB at *
  clear BB
  go_wp2_with fail
  refine (s43_c _).mono ?_
  rintro e w3 ⟨rfl, hb⟩
  have BAx := Lib.hid (BA.out.below hb (Blk.lt BA.out))
  have HBx := Lib.hid (HB.out.trans (hb.mono (by omega)))
  have hzx := Nat.le_trans hz hb.size
  clear BA HB hz hb
  have BA := BAx
  have HB := HBx
  have hz := hzx
  clear BAx HBx hzx
  go_upto_region 4 with fail
  have BC : Hid (Blk (w3.alloc (.cells #[.int .i64 0, .int .i64 0] 24)) w3.heap.size (#[.int .i64 0, .int .i64 0]) 24) := Lib.hid (Blk.new w3 (#[.int .i64 0, .int .i64 0]) 24)
  replace BA := Lib.hid (BA.out.alloc (.cells #[.int .i64 0, .int .i64 0] 24))
  replace HB := Lib.hid (HB.out.alloc (by omega) (.cells #[.int .i64 0, .int .i64 0] 24))
  have hzx : w.heap.size ≤ (w3.alloc (.cells #[.int .i64 0, .int .i64 0] 24)).heap.size := by simp; omega
  have hgBC : w.heap.size ≤ w3.heap.size := hz
  clear hz
  have hz := hzx
  clear hzx
  generalize w3.alloc (.cells #[.int .i64 0, .int .i64 0] 24) = w3n at *
  generalize w3.heap.size = gBC at *
  clear BC
  have c0 := BA.out.cell 0
  have c1 := BA.out.cell 1
  simp only [List.getElem?_toArray, List.getElem?_cons_zero, List.getElem?_cons_succ] at c0 c1
  go_wp2_with fail
  refine (s44_c _).mono ?_
  rintro e w4 ⟨rfl, hb⟩
  have BAx := Lib.hid (BA.out.below hb (Blk.lt BA.out))
  have HBx := Lib.hid (HB.out.trans (hb.mono (by omega)))
  have hzx := Nat.le_trans hz hb.size
  clear BA HB hz hb
  have BA := BAx
  have HB := HBx
  have hz := hzx
  clear BAx HBx hzx
  clear c0 c1
  go_wp2_with fail
  go_ret
  exact ⟨rfl, HB.out⟩
set_option maxRecDepth 100000 in
set_option maxHeartbeats 4000000 in
theorem tells4_calls (s : ByteArray) (hs : s.size ≤ 9223372036854775807) (at' : Int) (w : World) : Calls Tryd.prog 3 #[.string s, .int .i64 at'] w fun e w' => e = .returned (.bool true) ∧ Below w.heap.size w w' := by
  by_cases hl : 400 < s.size
  · have q : decide (400 < s.size) = true := by simpa using hl
    go_enter Tryd.func3, Tryd.ntmps3
    go_wp2_with fail
    refine (sure4_calls _).mono ?_
    rintro e w1 ⟨rfl, hb⟩
    go_wp2_with fail
    go_ret
    exact ⟨rfl, hb⟩
  have q : decide (400 < s.size) = false := by simpa using hl
  obtain ⟨n, m, p, e, k, hR⟩ : ∃ n m p e k, readN s at' = (n, m, p, e, k) := ⟨_, _, _, _, _, rfl⟩
  have HD := Lib.hid (bRead s (by omega) at' n m p e k hR)
  have hr := readN_calls s (by omega) at'
  rw [hR] at hr
  replace hr : ∀ w, Calls Tryd.prog 10 #[.string s, .int .i64 at'] w fun en w' => en = .returned (.tuple #[.int .i64 n, .int .i64 m, .int .i64 p, .int .i64 e, .int .i64 k]) ∧ w = w' := hr
  have HR := Lib.hid hr
  have HSU := Lib.hid sure4_calls
  clear hR hr
  have HB := Lib.hid (Below.refl w.heap.size w)
  have hz := Nat.le_refl w.heap.size
  go_enter Tryd.func3, Tryd.ntmps3
  go_wp2_with fail
  refine (HD.out _).mono ?_
  rintro e w1 ⟨rfl, hb⟩
  have HBx := Lib.hid (HB.out.trans (hb.mono (by omega)))
  have hzx := Nat.le_trans hz hb.size
  clear  HB hz hb
  have HB := HBx
  have hz := hzx
  clear HBx hzx
  go_upto_region 4 with fail
  have BA : Hid (Blk (w1.alloc (.cells #[.int .i64 n, .int .i64 m] 24)) w1.heap.size (#[.int .i64 n, .int .i64 m]) 24) := Lib.hid (Blk.new w1 (#[.int .i64 n, .int .i64 m]) 24)
  replace HB := Lib.hid (HB.out.alloc (by omega) (.cells #[.int .i64 n, .int .i64 m] 24))
  have hzx : w.heap.size ≤ (w1.alloc (.cells #[.int .i64 n, .int .i64 m] 24)).heap.size := by simp; omega
  have hgBA : w.heap.size ≤ w1.heap.size := hz
  clear hz
  have hz := hzx
  clear hzx
  generalize w1.alloc (.cells #[.int .i64 n, .int .i64 m] 24) = w1n at *
  generalize w1.heap.size = gBA at *
  go_wp2_with fail
  refine (HR.out _).mono ?_
  rintro e w' ⟨rfl, rfl⟩
  have c0 := BA.out.cell 0
  have c1 := BA.out.cell 1
  simp only [List.getElem?_toArray, List.getElem?_cons_zero, List.getElem?_cons_succ] at c0 c1
  go_wp2_with fail
  refine (HSU.out _).mono ?_
  rintro e w3 ⟨rfl, hb⟩
  have BAx := Lib.hid (BA.out.below hb (Blk.lt BA.out))
  have HBx := Lib.hid (HB.out.trans (hb.mono (by omega)))
  have hzx := Nat.le_trans hz hb.size
  clear BA HB hz hb
  have BA := BAx
  have HB := HBx
  have hz := hzx
  clear BAx HBx hzx
  clear c0 c1
  go_wp2_with fail
  go_ret
  exact ⟨rfl, HB.out⟩
end Go.Proofs.YtfpipiegncoamaaDoor

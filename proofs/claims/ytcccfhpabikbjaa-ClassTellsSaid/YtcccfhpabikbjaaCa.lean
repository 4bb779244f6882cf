/- ClassTells: the class of any name, and whether a name of one begins so. -/
import Derived.Test.YtcccfhpabikbjaaCl
namespace Go.Proofs.Ytcccfhpabikbjaa
open Go.RowKit Go.Shelf BS

set_option maxRecDepth 100000 in
set_option maxHeartbeats 4000000 in
theorem tells2_calls (name : ByteArray) (hs : name.size ≤ 9223372036854775807) (w : World) : Calls Try.prog 3 #[.string name] w fun e w' => e = .returned (.bool true) ∧ Below w.heap.size w w' := by
  by_cases hl : 300 < name.size
  · have h1 : decide ((300 : Int) < (name.size : Int)) = true := by simp; omega
    go_enter Try.func3, Try.ntmps3
    go_wp2_with fail
    refine (sure2_calls _).mono ?_
    rintro e w1 ⟨rfl, hb⟩
    go_wp2
    go_ret
    exact ⟨rfl, hb⟩
  · have h1 : decide ((300 : Int) < (name.size : Int)) = false := by simp; omega
    have H1 := cOf_calls name
    have H2 := rOf_calls name
    generalize ofS name.toList = s at H1 H2
    generalize ofB name.toList = b at H1 H2
    have HC1 := Lib.hid H1
    have HC2 := Lib.hid H2
    clear H1 H2 hl
    have hee := eq_set_same s
    go_enter Try.func3, Try.ntmps3
    go_wp2_with fail
    refine (HC1.out _).mono ?_
    rintro e w1 ⟨rfl, hb1⟩
    have BS := Lib.hid (Blk.new w1 (setA s) 25)
    have HB := Lib.hid (hb1.alloc hb1.size (.cells (setA s) 25))
    have hz := hb1.size
    clear hb1
    go_wp2_with fail
    refine (HC2.out _).mono ?_
    rintro e w2 ⟨rfl, hb⟩
    have BS2 := Lib.hid ((BS.out.below hb (by simp)).alloc (.cells (setA s) 25))
    have BT2 := Lib.hid (Blk.new w2 (setA s) 25)
    have HB2 := Lib.hid ((HB.out.trans (hb.mono (by simp; omega))).alloc (by have := hb.size; simp at this; omega) (.cells (setA s) 25))
    have hz2 : w.heap.size + 2 ≤ (w2.alloc (.cells (setA s) 25)).heap.size := by have := hb.size; simp at this ⊢; omega
    have hz3 : w1.heap.size < w2.heap.size := by have := hb.size; simp at this; omega
    clear hb BS HB
    obtain ⟨⟨c0, c1, c2, c3⟩, _⟩ := (show Blk (w2.alloc (.cells #[.int .u64 (wd s 0), .int .u64 (wd s 1), .int .u64 (wd s 2), .int .u64 (wd s 3)] 25)) w1.heap.size (setA s) 25 from BS2.out).cells4
    cases b <;>
    · go_wp2_with fail
      refine (cBegins_calls name hs _).mono ?_
      rintro e w3 ⟨rfl, hb3⟩
      have HB3 := Lib.hid (HB2.out.trans (hb3.mono (Nat.le_trans (by omega) hz2)))
      have hz4 := Nat.le_trans hz2 hb3.size
      clear hb3
      generalize hbb : begB name = bb
      have HBB := Lib.hid hbb
      clear hbb
      go_wp2_with fail
      refine (rBegins_calls name hs _).mono ?_
      rintro e w4 ⟨rfl, hb4⟩
      rw [HBB.out]
      have HB4 := Lib.hid (HB3.out.trans (hb4.mono (by omega)))
      have hz5 := Nat.le_trans hz4 hb4.size
      clear hb4
      go_wp2_with fail
      refine (sure2_calls _).mono ?_
      rintro e w5 ⟨rfl, hb5⟩
      go_wp2
      go_ret
      exact ⟨rfl, HB4.out.trans (hb5.mono (by omega))⟩
end Go.Proofs.Ytcccfhpabikbjaa

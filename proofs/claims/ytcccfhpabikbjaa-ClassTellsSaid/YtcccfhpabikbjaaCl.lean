/- sure of layer 2; is. -/
import Derived.Test.YtcccfhpabikbjaaCr
namespace Go.Proofs.Ytcccfhpabikbjaa
open Go.RowKit Go.Shelf BS

def zSet : BitVec 256 := 0
theorem ofC (name : ByteArray) (t : BitVec 256) (b : Bool) (h1 : ofS name.toList = t) (h2 : ofB name.toList = b) (w : World) : Calls Try.prog 8 #[.string name] w fun e w' => e = .returned (.tuple #[setV t, .bool b]) ∧ Below w.heap.size w w' := by
  have h := cOf_calls name w; rw [h1, h2] at h; exact h
theorem begC (s : ByteArray) (b : Bool) (hs : decide (s.size ≤ 9223372036854775807) = true) (h : begB s = b) (w : World) : Calls Try.prog 10 #[.string s] w fun e w' => e = .returned (.bool b) ∧ Below w.heap.size w w' := by
  have h1 := cBegins_calls s (by simpa using hs) w; rw [h] at h1; exact h1
theorem cntC (s : BitVec 256) (n : Int) (h : (cnt s.getLsbD 256 : Int) = n) (w : World) : Calls Try.prog 21 #[setV s] w fun e w' => e = .returned (.int .i64 n) ∧ Below w.heap.size w w' := by
  have h1 := count_calls s w; rw [h] at h1; exact h1
theorem hasC (s : BitVec 256) (x : Nat) (hx : x < 256) (w : World) : Calls Try.prog 20 #[setV s, .int .u8 x] w fun e w' => e = .returned (.bool (s.getLsbD x)) ∧ Below w.heap.size w w' := by
  have h1 := has_calls s x w (by omega) (by omega); rw [Int.toNat_natCast] at h1; exact h1
theorem has9 (w : World) : Calls Try.prog 20 #[setV cBla, .int .u8 9] w fun e w' => e = .returned (.bool true) ∧ Below w.heap.size w w' := by
  have h1 := hasC cBla 9 (by decide) w; rw [show cBla.getLsbD 9 = true by decide +kernel] at h1; exact h1
theorem findC (s : BitVec 256) (n : ByteArray) (h : fndS s = n) (w : World) : Calls Try.prog 12 #[setV s] w fun e w' => e = .returned (.string n) ∧ Below w.heap.size w w' := by
  have h1 := cFind_calls s w; rw [h] at h1; exact h1
theorem namesC (w : World) : Calls Try.prog 14 #[] w fun e w' => ∃ g, e = .returned (.slice (some ⟨g, 0, none⟩) 12 12) ∧ Below w.heap.size w w' :=
  (cNames_calls w).mono fun _ _ ⟨g, h, _, hb⟩ => ⟨g, h, hb⟩

set_option maxRecDepth 100000 in
set_option maxHeartbeats 4000000 in
theorem sure2_calls (w : World) : Calls Try.prog 7 #[] w fun e w' => e = .returned (.bool true) ∧ Below w.heap.size w w' := by
  go_enter Try.func7, Try.ntmps7
  go_wp2_with fail
  refine (ofC ⟨#[98, 108, 97, 110, 107]⟩ cBla true (by decide +kernel) (by decide +kernel) _).mono ?_
  rintro e w1 ⟨rfl, hb1⟩
  have BS := Lib.hid (Blk.new w1 (setA cBla) 25)
  have HB := Lib.hid (hb1.alloc hb1.size (.cells (setA cBla) 25))
  have hz := hb1.size
  clear hb1
  go_wp2_with fail
  refine (ofC ⟨#[119, 111, 114, 100]⟩ zSet false (by decide +kernel) (by decide +kernel) _).mono ?_
  rintro e w2 ⟨rfl, hb⟩
  have BS2 := Lib.hid ((BS.out.below hb (by simp)).alloc (.cells (setA zSet) 25))
  have HB2 := Lib.hid ((HB.out.trans (hb.mono (by simp; omega))).alloc (by have := hb.size; simp at this; omega) (.cells (setA zSet) 25))
  have hz2 : w.heap.size + 2 ≤ (w2.alloc (.cells (setA zSet) 25)).heap.size := by have := hb.size; simp at this ⊢; omega
  have hz3 : w1.heap.size < (w2.alloc (.cells (setA zSet) 25)).heap.size := by have := hb.size; simp at this ⊢; omega
  clear hb BS HB
  obtain ⟨⟨c0, c1, c2, c3⟩, _⟩ := (show Blk (w2.alloc (.cells #[.int .u64 (wd zSet 0), .int .u64 (wd zSet 1), .int .u64 (wd zSet 2), .int .u64 (wd zSet 3)] 25)) w1.heap.size (setA cBla) 25 from BS2.out).cells4
  go_wp2_with fail
  have e0 : (w2.alloc (.cells #[.int .u64 (wd zSet 0), .int .u64 (wd zSet 1), .int .u64 (wd zSet 2), .int .u64 (wd zSet 3)] 25)) = w2.alloc (.cells (setA zSet) 25) := rfl
  rw [e0]
  clear e0
  generalize w2.alloc (.cells (setA zSet) 25) = w2' at *
  refine (cntC cBla 2 (by decide +kernel) _).mono ?_
  rintro e w3 ⟨rfl, hb⟩
  have BS3 := Lib.hid (BS2.out.below hb hz3)
  have HB3 := Lib.hid (HB2.out.trans (hb.mono (by omega)))
  replace hz2 := Nat.le_trans hz2 hb.size
  replace hz3 := Nat.lt_of_lt_of_le hz3 hb.size
  clear hb BS2 HB2 c0 c1 c2 c3
  obtain ⟨⟨c0, c1, c2, c3⟩, _⟩ := BS3.out.cells4
  go_wp2_with fail
  refine (has9 _).mono ?_
  rintro e w4 ⟨rfl, hb⟩
  have BS4 := Lib.hid (BS3.out.below hb hz3)
  have HB4 := Lib.hid (HB3.out.trans (hb.mono (by omega)))
  replace hz2 := Nat.le_trans hz2 hb.size
  replace hz3 := Nat.lt_of_lt_of_le hz3 hb.size
  clear hb BS3 HB3 c0 c1 c2 c3
  obtain ⟨⟨c0, c1, c2, c3⟩, _⟩ := BS4.out.cells4
  go_wp2_with fail
  refine (begC ⟨#[115, 112]⟩ true (by decide) (by decide +kernel) _).mono ?_
  rintro e w5 ⟨rfl, hb⟩
  have BS5 := Lib.hid (BS4.out.below hb hz3)
  have HB5 := Lib.hid (HB4.out.trans (hb.mono (by omega)))
  replace hz2 := Nat.le_trans hz2 hb.size
  replace hz3 := Nat.lt_of_lt_of_le hz3 hb.size
  clear hb BS4 HB4 c0 c1 c2 c3
  obtain ⟨⟨c0, c1, c2, c3⟩, _⟩ := BS5.out.cells4
  go_wp2_with fail
  refine (begC ⟨#[115, 113]⟩ false (by decide) (by decide +kernel) _).mono ?_
  rintro e w6 ⟨rfl, hb⟩
  have BS6 := Lib.hid (BS5.out.below hb hz3)
  have HB6 := Lib.hid (HB5.out.trans (hb.mono (by omega)))
  replace hz2 := Nat.le_trans hz2 hb.size
  replace hz3 := Nat.lt_of_lt_of_le hz3 hb.size
  clear hb BS5 HB5 c0 c1 c2 c3
  obtain ⟨⟨c0, c1, c2, c3⟩, _⟩ := BS6.out.cells4
  go_wp2_with fail
  refine (namesC _).mono ?_
  rintro e w7 ⟨g, rfl, hb⟩
  have BS7 := Lib.hid (BS6.out.below hb hz3)
  have HB7 := Lib.hid (HB6.out.trans (hb.mono (by omega)))
  replace hz2 := Nat.le_trans hz2 hb.size
  replace hz3 := Nat.lt_of_lt_of_le hz3 hb.size
  clear hb BS6 HB6 c0 c1 c2 c3
  obtain ⟨⟨c0, c1, c2, c3⟩, _⟩ := BS7.out.cells4
  go_wp2_with fail
  refine (cAny_calls _).mono ?_
  rintro e w8 ⟨rfl, hb⟩
  have BS8 := Lib.hid (BS7.out.below hb hz3)
  have HB8 := Lib.hid (HB7.out.trans (hb.mono (by omega)))
  replace hz2 := Nat.le_trans hz2 hb.size
  replace hz3 := Nat.lt_of_lt_of_le hz3 hb.size
  clear hb BS7 HB7 c0 c1 c2 c3
  obtain ⟨⟨c0, c1, c2, c3⟩, _⟩ := BS8.out.cells4
  go_wp2_with fail
  refine (cntC (~~~0) 256 (by decide +kernel) _).mono ?_
  rintro e w9 ⟨rfl, hb⟩
  have BS9 := Lib.hid (BS8.out.below hb hz3)
  have HB9 := Lib.hid (HB8.out.trans (hb.mono (by omega)))
  replace hz2 := Nat.le_trans hz2 hb.size
  replace hz3 := Nat.lt_of_lt_of_le hz3 hb.size
  clear hb BS8 HB8 c0 c1 c2 c3
  obtain ⟨⟨c0, c1, c2, c3⟩, _⟩ := BS9.out.cells4
  go_wp2_with fail
  refine (findC cBla ⟨#[98, 108, 97, 110, 107]⟩ (by decide +kernel) _).mono ?_
  rintro e w10 ⟨rfl, hb⟩
  have BS10 := Lib.hid (BS9.out.below hb hz3)
  have HB10 := Lib.hid (HB9.out.trans (hb.mono (by omega)))
  replace hz2 := Nat.le_trans hz2 hb.size
  replace hz3 := Nat.lt_of_lt_of_le hz3 hb.size
  clear hb BS9 HB9 c0 c1 c2 c3
  obtain ⟨⟨c0, c1, c2, c3⟩, _⟩ := BS10.out.cells4
  go_wp2_with fail
  go_ret
  exact ⟨rfl, HB10.out⟩

set_option maxRecDepth 100000 in
set_option maxHeartbeats 2000000 in
theorem is2_calls (name : ByteArray) (x : Nat) (hx : x < 256) (w : World) : Calls Try.prog 19 #[.string name, .int .u8 x] w fun e w' => e = .returned (.bool (ofB name.toList && (ofS name.toList).getLsbD x)) ∧ Below w.heap.size w w' := by
  go_enter Try.func19, Try.ntmps19
  go_wp2_with fail
  refine (cOf_calls name _).mono ?_
  rintro e w1 ⟨rfl, hb⟩
  generalize hB : ofB name.toList = b
  generalize hS : ofS name.toList = s
  have HB' := Lib.hid hB
  have HS' := Lib.hid hS
  clear hB hS
  have HB := Lib.hid (hb.alloc hb.size (.cells (setA s) 25))
  have BS := Lib.hid (Blk.new w1 (setA s) 25)
  clear hb
  obtain ⟨⟨c0, c1, c2, c3⟩, _⟩ := BS.out.cells4
  cases b with
  | false =>
    go_wp2
    go_ret
    exact ⟨by rw [HB'.out] <;> rfl, HB.out⟩
  | true =>
    go_wp2_with fail
    refine (hasC s x hx _).mono ?_
    rintro e w2 ⟨rfl, hb⟩
    go_wp2
    go_ret
    exact ⟨by rw [HB'.out, HS'.out, Bool.true_and] <;> rfl, HB.out.trans (hb.mono HB.out.size)⟩
end Go.Proofs.Ytcccfhpabikbjaa

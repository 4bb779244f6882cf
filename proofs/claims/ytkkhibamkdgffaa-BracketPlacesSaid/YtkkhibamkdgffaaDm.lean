/- BracketLack, BracketPlaces. -/
import Derived.Test.YtkkhibamkdgffaaDl
import Derived.Test.YtkkhibamkdgffaaDw
import Derived.Laws.BytesArg
namespace Go.Proofs.Ytkkhibamkdgffaa
open Go.RowKit Go.Shelf BS

def LackE (s : ByteArray) (at' : Int) (e : Nat) (l : ByteArray) : Prop :=
  (e ≠ 2 ∧ l = eT) ∨ (e = 2 ∧ 0 < l.size ∧ l.size ≤ 19 ∧ ∃ t, readR (s ++ l) at' = (t, s.size + l.size, 0, 0))
theorem lackE (s : ByteArray) (at' : Int) (t : BitVec 256) (p e k : Nat) (l : ByteArray) (h : readR s at' = (t, p, e, k)) (hl : (wholeD s at').lack = l) : LackE s at' e l := by
  have he : (wholeD s at').err = e := by
    have h1 := readD_eq s at'
    rw [h] at h1
    unfold readD at h1
    by_cases g : (wholeD s at').err ≠ 0
    · rw [if_pos g] at h1
      simp only [Prod.mk.injEq] at h1
      exact h1.2.2.1
    · rw [if_neg g] at h1
      simp only [Prod.mk.injEq] at h1
      have := h1.2.2.1
      omega
  by_cases h2 : e = 2
  · have := whole_lack s at' (by rw [he]; exact h2)
    rw [hl] at this
    obtain ⟨⟨h3, h4⟩, t', ht⟩ := this
    rw [readD_eq, ByteArray.size_append] at ht
    exact .inr ⟨h2, h3, h4, t', ht⟩
  · have := wholeD_lk s at' (by rw [he]; exact h2)
    rw [hl] at this
    exact .inl ⟨h2, this⟩

set_option maxRecDepth 100000 in
set_option maxHeartbeats 8000000 in
theorem lackLaw_calls (s : ByteArray) (hs : s.size ≤ 9223372036854775807) (at' : Int) (w : World) : Calls Try.prog 5 #[.string s, .int .i64 at'] w fun e w' => e = .returned (.bool true) ∧ Below w.heap.size w w' := by
  by_cases hl : 400 < s.size
  · have q : decide (400 < s.size) = true := by simpa using hl
    go_enter Try.func5, Try.ntmps5
    go_wp2_with fail
    refine (sure3_calls _).mono ?_
    rintro e w1 ⟨rfl, hb⟩
    go_wp2_with fail
    go_ret
    exact ⟨rfl, hb⟩
  have q : decide (400 < s.size) = false := by simpa using hl
  obtain ⟨t, p, e, k, hR⟩ : ∃ t p e k, readR s at' = (t, p, e, k) := ⟨_, _, _, _, rfl⟩
  obtain ⟨l, hL⟩ : ∃ l, (wholeD s at').lack = l := ⟨_, rfl⟩
  have HD := Lib.hid (dRead s (by omega) at' t p e k hR)
  have hlk := lackD_calls s (by omega) at'
  rw [hL] at hlk
  have HLK := Lib.hid hlk
  have HSU := Lib.hid sure3_calls
  have hE := lackE s at' t p e k l hR hL
  clear hR hL hlk
  rcases hE with ⟨h2, rfl⟩ | ⟨rfl, h2, h3, t2, hR2⟩
  · have q3 : ((e : Int) != 2) = true := by rw [bne_iff_ne]; omega
    have e0 : eT = ⟨#[]⟩ := rfl
    rw [e0] at HLK
    clear e0 h2
    have HB := Lib.hid (Below.refl w.heap.size w)
    have hz := Nat.le_refl w.heap.size
    go_enter Try.func5, Try.ntmps5
    go_wp2_with fail
    refine (HLK.out _).mono ?_
    rintro e w0 ⟨rfl, hb⟩
    have HBx := Lib.hid (HB.out.trans (hb.mono (by omega)))
    have hzx := Nat.le_trans hz hb.size
    clear  HB hz hb
    have HB := HBx
    have hz := hzx
    clear HBx hzx
    go_wp2_with fail
    refine (HD.out _).mono ?_
    rintro e w1 ⟨rfl, hb⟩
    have HBx := Lib.hid (HB.out.trans (hb.mono (by omega)))
    have hzx := Nat.le_trans hz hb.size
    clear  HB hz hb
    have HB := HBx
    have hz := hzx
    clear HBx hzx
    go_upto_region 5 with fail
    have BA : Hid (Blk (w1.alloc (.cells #[.int .u64 (wd t 0), .int .u64 (wd t 1), .int .u64 (wd t 2), .int .u64 (wd t 3)] 25)) w1.heap.size (setA t) 25) := Lib.hid (Blk.new w1 (setA t) 25)
    replace HB := Lib.hid (HB.out.alloc (by omega) (.cells #[.int .u64 (wd t 0), .int .u64 (wd t 1), .int .u64 (wd t 2), .int .u64 (wd t 3)] 25))
    have hzx : w.heap.size ≤ (w1.alloc (.cells #[.int .u64 (wd t 0), .int .u64 (wd t 1), .int .u64 (wd t 2), .int .u64 (wd t 3)] 25)).heap.size := by simp; omega
    have hgBA : w.heap.size ≤ w1.heap.size := hz
    clear hz
    have hz := hzx
    clear hzx
    generalize w1.alloc (.cells #[.int .u64 (wd t 0), .int .u64 (wd t 1), .int .u64 (wd t 2), .int .u64 (wd t 3)] 25) = w1n at *
    generalize w1.heap.size = gBA at *
    go_wp2_with fail
    refine (HSU.out _).mono ?_
    rintro e w2 ⟨rfl, hb⟩
    have BAx := Lib.hid (BA.out.below hb (Blk.lt BA.out))
    have HBx := Lib.hid (HB.out.trans (hb.mono (by omega)))
    have hzx := Nat.le_trans hz hb.size
    clear BA HB hz hb
    have BA := BAx
    have HB := HBx
    have hz := hzx
    clear BAx HBx hzx
    go_wp2_with fail
    go_ret
    exact ⟨rfl, HB.out⟩
  · have HD2' := dRead (s ++ l) (by rw [ByteArray.size_append]; omega) at' t2 _ _ _ hR2
    rw [Int.natCast_add] at HD2'
    have HD2 := Lib.hid HD2'
    have hadd : ∀ w, (Op.stringOp .add s l).run Try.prog w = .ok (.string (s ++ l)) w := fun w => run_string_add_sum w _ _ (by omega)
    clear HD2' hR2
    have hne : l.toList ≠ [] := fun h => by
      have : l.toList.length = l.size := by rw [ByteArray.toList_eq]; simp
      rw [h] at this; simp at this; omega
    have q3 : (l.toList != []) = true := by rw [bne_iff_ne]; exact hne
    have q4 : l.toList.isEmpty = false := by cases h : l.toList with
      | nil => exact absurd h hne
      | cons => rfl
    clear hne
    have HB := Lib.hid (Below.refl w.heap.size w)
    have hz := Nat.le_refl w.heap.size
    go_enter Try.func5, Try.ntmps5
    go_wp2_with fail
    refine (HLK.out _).mono ?_
    rintro e w0 ⟨rfl, hb⟩
    have HBx := Lib.hid (HB.out.trans (hb.mono (by omega)))
    have hzx := Nat.le_trans hz hb.size
    clear  HB hz hb
    have HB := HBx
    have hz := hzx
    clear HBx hzx
    go_wp2_with fail
    refine (HD.out _).mono ?_
    rintro e w1 ⟨rfl, hb⟩
    have HBx := Lib.hid (HB.out.trans (hb.mono (by omega)))
    have hzx := Nat.le_trans hz hb.size
    clear  HB hz hb
    have HB := HBx
    have hz := hzx
    clear HBx hzx
    go_upto_region 5 with fail
    have BA : Hid (Blk (w1.alloc (.cells #[.int .u64 (wd t 0), .int .u64 (wd t 1), .int .u64 (wd t 2), .int .u64 (wd t 3)] 25)) w1.heap.size (setA t) 25) := Lib.hid (Blk.new w1 (setA t) 25)
    replace HB := Lib.hid (HB.out.alloc (by omega) (.cells #[.int .u64 (wd t 0), .int .u64 (wd t 1), .int .u64 (wd t 2), .int .u64 (wd t 3)] 25))
    have hzx : w.heap.size ≤ (w1.alloc (.cells #[.int .u64 (wd t 0), .int .u64 (wd t 1), .int .u64 (wd t 2), .int .u64 (wd t 3)] 25)).heap.size := by simp; omega
    have hgBA : w.heap.size ≤ w1.heap.size := hz
    clear hz
    have hz := hzx
    clear hzx
    generalize w1.alloc (.cells #[.int .u64 (wd t 0), .int .u64 (wd t 1), .int .u64 (wd t 2), .int .u64 (wd t 3)] 25) = w1n at *
    generalize w1.heap.size = gBA at *
    go_wp2_with fail
    refine (HD2.out _).mono ?_
    rintro e w2 ⟨rfl, hb⟩
    have BAx := Lib.hid (BA.out.below hb (Blk.lt BA.out))
    have HBx := Lib.hid (HB.out.trans (hb.mono (by omega)))
    have hzx := Nat.le_trans hz hb.size
    clear BA HB hz hb
    have BA := BAx
    have HB := HBx
    have hz := hzx
    clear BAx HBx hzx
    go_upto_region 8 with fail
    have BB : Hid (Blk (w2.alloc (.cells #[.int .u64 (wd t2 0), .int .u64 (wd t2 1), .int .u64 (wd t2 2), .int .u64 (wd t2 3)] 25)) w2.heap.size (setA t2) 25) := Lib.hid (Blk.new w2 (setA t2) 25)
    replace BA := Lib.hid (BA.out.alloc (.cells #[.int .u64 (wd t2 0), .int .u64 (wd t2 1), .int .u64 (wd t2 2), .int .u64 (wd t2 3)] 25))
    replace HB := Lib.hid (HB.out.alloc (by omega) (.cells #[.int .u64 (wd t2 0), .int .u64 (wd t2 1), .int .u64 (wd t2 2), .int .u64 (wd t2 3)] 25))
    have hzx : w.heap.size ≤ (w2.alloc (.cells #[.int .u64 (wd t2 0), .int .u64 (wd t2 1), .int .u64 (wd t2 2), .int .u64 (wd t2 3)] 25)).heap.size := by simp; omega
    have hgBB : w.heap.size ≤ w2.heap.size := hz
    clear hz
    have hz := hzx
    clear hzx
    generalize w2.alloc (.cells #[.int .u64 (wd t2 0), .int .u64 (wd t2 1), .int .u64 (wd t2 2), .int .u64 (wd t2 3)] 25) = w2n at *
    generalize w2.heap.size = gBB at *
    go_wp2_with fail
    refine (HSU.out _).mono ?_
    rintro e w3 ⟨rfl, hb⟩
    have BAx := Lib.hid (BA.out.below hb (Blk.lt BA.out))
    have BBx := Lib.hid (BB.out.below hb (Blk.lt BB.out))
    have HBx := Lib.hid (HB.out.trans (hb.mono (by omega)))
    have hzx := Nat.le_trans hz hb.size
    clear BA BB HB hz hb
    have BA := BAx
    have BB := BBx
    have HB := HBx
    have hz := hzx
    clear BAx BBx HBx hzx
    go_wp2_with fail
    go_ret
    exact ⟨rfl, HB.out⟩
end Go.Proofs.Ytkkhibamkdgffaa

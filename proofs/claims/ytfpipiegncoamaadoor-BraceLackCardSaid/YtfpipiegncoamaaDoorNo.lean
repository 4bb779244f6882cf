/- BraceLack: given what Lack brings about. -/
import Derived.Test.YtfpipiegncoamaaDoorNl
namespace Go.Proofs.YtfpipiegncoamaaDoor
open Go.RowKit

/-- What Lack must bring about. -/
def LackN (s : ByteArray) (at' : Int) (l : ByteArray) : Prop :=
  ((readN s at').2.2.2.1 ≠ 2 → l = eT) ∧ ((readN s at').2.2.2.1 = 2 → 0 < l.size ∧ l.size ≤ 200 ∧ ∃ n m, readN (s ++ l) at' = (n, m, (s ++ l).size, 0, 0))
set_option maxRecDepth 100000 in
set_option maxHeartbeats 8000000 in
theorem lackLaw4_of (s : ByteArray) (hs : s.size ≤ 9223372036854775807) (at' : Int) (l : ByteArray) (hL : LackN s at' l)
    (hlk : s.size ≤ 60000 → ∀ w, Calls Tryd.prog 13 #[.string s, .int .i64 at'] w fun e w' => e = .returned (.string l) ∧ Below w.heap.size w w') (w : World) :
    Calls Tryd.prog 6 #[.string s, .int .i64 at'] w fun e w' => e = .returned (.bool true) ∧ Below w.heap.size w w' := by
  by_cases hl : 400 < s.size
  · have q : decide (400 < s.size) = true := by simpa using hl
    go_enter Tryd.func6, Tryd.ntmps6
    go_wp2_with fail
    refine (sure4_calls _).mono ?_
    rintro e w1 ⟨rfl, hb⟩
    go_wp2_with fail
    go_ret
    exact ⟨rfl, hb⟩
  have q : decide (400 < s.size) = false := by simpa using hl
  have HLK := Lib.hid (hlk (by omega))
  obtain ⟨n, m, p, e, k, hR⟩ : ∃ n m p e k, readN s at' = (n, m, p, e, k) := ⟨_, _, _, _, _, rfl⟩
  have HD := Lib.hid (bRead s (by omega) at' n m p e k hR)
  have HSU := Lib.hid sure4_calls
  unfold LackN at hL
  rw [hR] at hL
  simp only at hL
  obtain ⟨l1, l2⟩ := hL
  clear hR hlk
  by_cases he : e = 2
  · subst he
    obtain ⟨h2, h3, n2, m2, hR2⟩ := l2 rfl
    clear l1 l2
    have hz : (s ++ l).size = s.size + l.size := ByteArray.size_append
    have HD2' := bRead (s ++ l) (by omega) at' n2 m2 _ _ _ hR2
    rw [hz, Int.natCast_add] at HD2'
    have HD2 := Lib.hid HD2'
    have hadd : ∀ w, (Op.stringOp .add s l).run Tryd.prog w = .ok (.string (s ++ l)) w := fun w => run_string_add_sum w _ _ (by omega)
    have hne : l.toList ≠ [] := fun h => by
      have : l.toList.length = l.size := by rw [ByteArray.toList_eq]; simp
      rw [h] at this; simp at this; omega
    have q3 : (l.toList != []) = true := by rw [bne_iff_ne]; exact hne
    have q4 : l.toList.isEmpty = false := by cases h : l.toList with
      | nil => exact absurd h hne
      | cons => rfl
    clear hne HD2' hR2 hz
    generalize s ++ l = sl at *
    have HB := Lib.hid (Below.refl w.heap.size w)
    have hz := Nat.le_refl w.heap.size
    go_enter Tryd.func6, Tryd.ntmps6
    go_wp2_with fail
    refine (HLK.out _).mono ?_
    rintro e w0 ⟨rfl, hb⟩
    have HBx := Lib.hid (HB.out.trans (hb.mono (by omega)))
    have hzx := Nat.le_trans hz hb.size
    clear  HB hz hb
    have HB := HBx
    have hz := hzx
    clear HBx hzx
    go_wp2_with fail
    refine (HD.out _).mono ?_
    rintro e w1 ⟨rfl, hb⟩
    have HBx := Lib.hid (HB.out.trans (hb.mono (by omega)))
    have hzx := Nat.le_trans hz hb.size
    clear  HB hz hb
    have HB := HBx
    have hz := hzx
    clear HBx hzx
    go_upto_region 5 with fail
    have BA : Hid (Blk (w1.alloc (.cells #[.int .i64 n, .int .i64 m] 24)) w1.heap.size (#[.int .i64 n, .int .i64 m]) 24) := Lib.hid (Blk.new w1 (#[.int .i64 n, .int .i64 m]) 24)
    replace HB := Lib.hid (HB.out.alloc (by omega) (.cells #[.int .i64 n, .int .i64 m] 24))
    have hzx : w.heap.size ≤ (w1.alloc (.cells #[.int .i64 n, .int .i64 m] 24)).heap.size := by simp; omega
    have hgBA : w.heap.size ≤ w1.heap.size := hz
    clear hz
    have hz := hzx
    clear hzx
    generalize w1.alloc (.cells #[.int .i64 n, .int .i64 m] 24) = w1n at *
    generalize w1.heap.size = gBA at *
    go_wp2_with fail
    refine (HD2.out _).mono ?_
    rintro e w2 ⟨rfl, hb⟩
    have BAx := Lib.hid (BA.out.below hb (Blk.lt BA.out))
    have HBx := Lib.hid (HB.out.trans (hb.mono (by omega)))
    have hzx := Nat.le_trans hz hb.size
    clear BA HB hz hb
    have BA := BAx
    have HB := HBx
    have hz := hzx
    clear BAx HBx hzx
    go_upto_region 8 with fail
    have BB : Hid (Blk (w2.alloc (.cells #[.int .i64 n2, .int .i64 m2] 24)) w2.heap.size (#[.int .i64 n2, .int .i64 m2]) 24) := Lib.hid (Blk.new w2 (#[.int .i64 n2, .int .i64 m2]) 24)
    replace BA := Lib.hid (BA.out.alloc (.cells #[.int .i64 n2, .int .i64 m2] 24))
    replace HB := Lib.hid (HB.out.alloc (by omega) (.cells #[.int .i64 n2, .int .i64 m2] 24))
    have hzx : w.heap.size ≤ (w2.alloc (.cells #[.int .i64 n2, .int .i64 m2] 24)).heap.size := by simp; omega
    have hgBB : w.heap.size ≤ w2.heap.size := hz
    clear hz
    have hz := hzx
    clear hzx
    generalize w2.alloc (.cells #[.int .i64 n2, .int .i64 m2] 24) = w2n at *
    generalize w2.heap.size = gBB at *
    go_wp2_with fail
    refine (HSU.out _).mono ?_
    rintro e w3 ⟨rfl, hb⟩
    have BAx := Lib.hid (BA.out.below hb (Blk.lt BA.out))
    have BBx := Lib.hid (BB.out.below hb (Blk.lt BB.out))
    have HBx := Lib.hid (HB.out.trans (hb.mono (by omega)))
    have hzx := Nat.le_trans hz hb.size
    clear BA BB HB hz hb
    have BA := BAx
    have BB := BBx
    have HB := HBx
    have hz := hzx
    clear BAx BBx HBx hzx
    go_wp2_with fail
    go_ret
    exact ⟨rfl, HB.out⟩
  · have q3 : ((e : Int) != 2) = true := by rw [bne_iff_ne]; omega
    obtain rfl : l = eT := l1 he
    have e0 : eT = ⟨#[]⟩ := rfl
    rw [e0] at HLK
    clear e0 l1 l2 he
    have HB := Lib.hid (Below.refl w.heap.size w)
    have hz := Nat.le_refl w.heap.size
    go_enter Tryd.func6, Tryd.ntmps6
    go_wp2_with fail
    refine (HLK.out _).mono ?_
    rintro e w0 ⟨rfl, hb⟩
    have HBx := Lib.hid (HB.out.trans (hb.mono (by omega)))
    have hzx := Nat.le_trans hz hb.size
    clear  HB hz hb
    have HB := HBx
    have hz := hzx
    clear HBx hzx
    go_wp2_with fail
    refine (HD.out _).mono ?_
    rintro e w1 ⟨rfl, hb⟩
    have HBx := Lib.hid (HB.out.trans (hb.mono (by omega)))
    have hzx := Nat.le_trans hz hb.size
    clear  HB hz hb
    have HB := HBx
    have hz := hzx
    clear HBx hzx
    go_upto_region 5 with fail
    have BA : Hid (Blk (w1.alloc (.cells #[.int .i64 n, .int .i64 m] 24)) w1.heap.size (#[.int .i64 n, .int .i64 m]) 24) := Lib.hid (Blk.new w1 (#[.int .i64 n, .int .i64 m]) 24)
    replace HB := Lib.hid (HB.out.alloc (by omega) (.cells #[.int .i64 n, .int .i64 m] 24))
    have hzx : w.heap.size ≤ (w1.alloc (.cells #[.int .i64 n, .int .i64 m] 24)).heap.size := by simp; omega
    have hgBA : w.heap.size ≤ w1.heap.size := hz
    clear hz
    have hz := hzx
    clear hzx
    generalize w1.alloc (.cells #[.int .i64 n, .int .i64 m] 24) = w1n at *
    generalize w1.heap.size = gBA at *
    go_wp2_with fail
    refine (HSU.out _).mono ?_
    rintro e w2 ⟨rfl, hb⟩
    have BAx := Lib.hid (BA.out.below hb (Blk.lt BA.out))
    have HBx := Lib.hid (HB.out.trans (hb.mono (by omega)))
    have hzx := Nat.le_trans hz hb.size
    clear BA HB hz hb
    have BA := BAx
    have HB := HBx
    have hz := hzx
    clear BAx HBx hzx
    go_wp2_with fail
    go_ret
    exact ⟨rfl, HB.out⟩
end Go.Proofs.YtfpipiegncoamaaDoor

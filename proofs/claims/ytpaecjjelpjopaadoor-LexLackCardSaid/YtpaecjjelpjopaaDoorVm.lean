/- The laws of stage 5: LexLack, LexAll. -/
import Derived.Test.YtpaecjjelpjopaaDoorVl
namespace Go.Proofs.YtpaecjjelpjopaaDoor
open Go.RowKit BS

set_option maxRecDepth 100000 in
set_option maxHeartbeats 8000000 in
theorem lack5_calls (C : LexC) (s : ByteArray) (hs : s.size ≤ 9223372036854775807) (at' : Int) (w : World) (hT : TabG w) : Calls Tryd.prog 3 #[.string s, .int .i64 at'] w fun e w' => e = .returned (.bool true) ∧ Below w.heap.size w w' := by
  by_cases hl : 400 < s.size
  · have q : decide ((400 : Int) < (s.size : Int)) = true := by rw [decide_eq_true_iff]; omega
    go_enter Tryd.func3, Tryd.ntmps3
    go_wp2_with fail
    refine (sure5_calls C _ hT).mono ?_
    rintro e w1 ⟨rfl, hb⟩
    go_wp2_with fail
    go_ret
    exact ⟨rfl, hb⟩
  have q : decide ((400 : Int) < (s.size : Int)) = false := by rw [decide_eq_false_iff_not]; omega
  obtain ⟨l, ⟨l1, l2⟩, hlk⟩ := C.lack s (by omega) at'
  have HLK := Lib.hid hlk
  have HD := Lib.hid (C.next s (by omega) at')
  have HSU := Lib.hid (sure5_calls C)
  have HT := Lib.hid hT
  generalize nextN s at' = X at *
  obtain ⟨⟨k, a, f, t, n, m⟩, e, p⟩ := X
  replace HD : Hid (∀ w, TabG w → Calls Tryd.prog 7 #[.string s, .int .i64 at'] w fun en w' => en = .returned (.tuple #[.agg (woI k a f t n m), .int .i64 e, .int .i64 p]) ∧ Below w.heap.size w w') := HD
  simp only at l1 l2
  clear hT hlk
  by_cases he : e = 2
  · subst he
    obtain ⟨h2, h3, ⟨k2, a2, f2, t2, n2, m2⟩, hN, hpos, hfin⟩ := l2 rfl
    simp only at hpos hfin
    subst hpos
    clear l1 l2
    have hz : (s ++ l).size = s.size + l.size := ByteArray.size_append
    have HD2' := C.next (s ++ l) (by omega) a2
    rw [hN] at HD2'
    rw [hz] at hfin
    subst hfin
    have HD2 : Hid (∀ w, TabG w → Calls Tryd.prog 7 #[.string (s ++ l), .int .i64 a2] w fun en w' => en = .returned (.tuple #[.agg (woI k2 a2 ((s.size : Int) + (l.size : Int)) t2 n2 m2), .int .i64 0, .int .i64 0]) ∧ Below w.heap.size w w') := Lib.hid HD2'
    have hadd : ∀ w, (Op.stringOp .add s l).run Tryd.prog w = .ok (.string (s ++ l)) w := fun w => run_string_add_sum w _ _ (by omega)
    have hne : l.toList ≠ [] := fun h => by
      have : l.toList.length = l.size := by rw [ByteArray.toList_eq]; simp
      rw [h] at this; simp at this; omega
    have q3 : (l.toList != []) = true := by rw [bne_iff_ne]; exact hne
    have q4 : l.toList.isEmpty = false := by cases h : l.toList with
      | nil => exact absurd h hne
      | cons => rfl
    clear hne HD2' hN hz C
    generalize s ++ l = sl at *
    have HB := Lib.hid (Below.refl w.heap.size w)
    have hz := Nat.le_refl w.heap.size
    go_enter Tryd.func3, Tryd.ntmps3
    go_wp2_with fail
    refine (HLK.out _ HT.out).mono ?_
    rintro en w0 ⟨rfl, hb⟩
    have HTx := Lib.hid (HT.out.below hb)
    have HBx := Lib.hid (HB.out.trans (hb.mono (by omega)))
    have hzx := Nat.le_trans hz hb.size
    clear  HT HB hz hb
    have HT := HTx
    have HB := HBx
    have hz := hzx
    clear HTx HBx hzx
    clear HLK
    go_wp2_with fail
    refine (HD.out _ HT.out).mono ?_
    rintro en w1 ⟨rfl, hb⟩
    have HTx := Lib.hid (HT.out.below hb)
    have HBx := Lib.hid (HB.out.trans (hb.mono (by omega)))
    have hzx := Nat.le_trans hz hb.size
    clear  HT HB hz hb
    have HT := HTx
    have HB := HBx
    have hz := hzx
    clear HTx HBx hzx
    clear HD
    go_upto_region 5 with fail
    have BA : Hid (Blk (w1.alloc (.cells #[.int .i64 k, .int .i64 a, .int .i64 f, .int .u64 (wd t 0), .int .u64 (wd t 1), .int .u64 (wd t 2), .int .u64 (wd t 3), .int .i64 n, .int .i64 m] 28)) w1.heap.size (woI k a f t n m) 28) := Lib.hid (Blk.new w1 (woI k a f t n m) 28)
    replace HT := Lib.hid (HT.out.alloc (.cells #[.int .i64 k, .int .i64 a, .int .i64 f, .int .u64 (wd t 0), .int .u64 (wd t 1), .int .u64 (wd t 2), .int .u64 (wd t 3), .int .i64 n, .int .i64 m] 28))
    replace HB := Lib.hid (HB.out.alloc (by omega) (.cells #[.int .i64 k, .int .i64 a, .int .i64 f, .int .u64 (wd t 0), .int .u64 (wd t 1), .int .u64 (wd t 2), .int .u64 (wd t 3), .int .i64 n, .int .i64 m] 28))
    have hzx : w.heap.size ≤ (w1.alloc (.cells #[.int .i64 k, .int .i64 a, .int .i64 f, .int .u64 (wd t 0), .int .u64 (wd t 1), .int .u64 (wd t 2), .int .u64 (wd t 3), .int .i64 n, .int .i64 m] 28)).heap.size := by simp; omega
    clear hz
    have hz := hzx
    clear hzx
    generalize w1.alloc (.cells #[.int .i64 k, .int .i64 a, .int .i64 f, .int .u64 (wd t 0), .int .u64 (wd t 1), .int .u64 (wd t 2), .int .u64 (wd t 3), .int .i64 n, .int .i64 m] 28) = w1n at *
    generalize w1.heap.size = gBA at *
    clear BA
    go_wp2_with fail
    refine (HD2.out _ HT.out).mono ?_
    rintro en w2 ⟨rfl, hb⟩
    have HTx := Lib.hid (HT.out.below hb)
    have HBx := Lib.hid (HB.out.trans (hb.mono (by omega)))
    have hzx := Nat.le_trans hz hb.size
    clear  HT HB hz hb
    have HT := HTx
    have HB := HBx
    have hz := hzx
    clear HTx HBx hzx
    clear HD2
    go_upto_region 8 with fail
    have BB : Hid (Blk (w2.alloc (.cells #[.int .i64 k2, .int .i64 a2, .int .i64 ((s.size:Int)+(l.size:Int)), .int .u64 (wd t2 0), .int .u64 (wd t2 1), .int .u64 (wd t2 2), .int .u64 (wd t2 3), .int .i64 n2, .int .i64 m2] 28)) w2.heap.size (woI k2 a2 ((s.size:Int)+(l.size:Int)) t2 n2 m2) 28) := Lib.hid (Blk.new w2 (woI k2 a2 ((s.size:Int)+(l.size:Int)) t2 n2 m2) 28)
    replace HT := Lib.hid (HT.out.alloc (.cells #[.int .i64 k2, .int .i64 a2, .int .i64 ((s.size:Int)+(l.size:Int)), .int .u64 (wd t2 0), .int .u64 (wd t2 1), .int .u64 (wd t2 2), .int .u64 (wd t2 3), .int .i64 n2, .int .i64 m2] 28))
    replace HB := Lib.hid (HB.out.alloc (by omega) (.cells #[.int .i64 k2, .int .i64 a2, .int .i64 ((s.size:Int)+(l.size:Int)), .int .u64 (wd t2 0), .int .u64 (wd t2 1), .int .u64 (wd t2 2), .int .u64 (wd t2 3), .int .i64 n2, .int .i64 m2] 28))
    have hzx : w.heap.size ≤ (w2.alloc (.cells #[.int .i64 k2, .int .i64 a2, .int .i64 ((s.size:Int)+(l.size:Int)), .int .u64 (wd t2 0), .int .u64 (wd t2 1), .int .u64 (wd t2 2), .int .u64 (wd t2 3), .int .i64 n2, .int .i64 m2] 28)).heap.size := by simp; omega
    clear hz
    have hz := hzx
    clear hzx
    generalize w2.alloc (.cells #[.int .i64 k2, .int .i64 a2, .int .i64 ((s.size:Int)+(l.size:Int)), .int .u64 (wd t2 0), .int .u64 (wd t2 1), .int .u64 (wd t2 2), .int .u64 (wd t2 3), .int .i64 n2, .int .i64 m2] 28) = w2n at *
    generalize w2.heap.size = gBB at *
    have c1 := BB.out.cell 1; have c2 := BB.out.cell 2
    simp only [List.getElem?_toArray, List.getElem?_cons_zero, List.getElem?_cons_succ] at c1 c2
    go_wp2_with fail
    refine (HSU.out _ HT.out).mono ?_
    rintro en w3 ⟨rfl, hb⟩
    have hBz := HB.out.trans (hb.mono (by omega))
    clear HSU BB c1 c2
    go_wp2_with fail
    go_ret
    exact ⟨rfl, hBz⟩
  · have q3 : ((e : Int) != 2) = true := by rw [bne_iff_ne]; omega
    obtain rfl : l = eT := l1 he
    have e0 : eT = ⟨#[]⟩ := rfl
    rw [e0] at HLK
    clear e0 l1 l2 he C
    have HB := Lib.hid (Below.refl w.heap.size w)
    have hz := Nat.le_refl w.heap.size
    go_enter Tryd.func3, Tryd.ntmps3
    go_wp2_with fail
    refine (HLK.out _ HT.out).mono ?_
    rintro en w0 ⟨rfl, hb⟩
    have HTx := Lib.hid (HT.out.below hb)
    have HBx := Lib.hid (HB.out.trans (hb.mono (by omega)))
    have hzx := Nat.le_trans hz hb.size
    clear  HT HB hz hb
    have HT := HTx
    have HB := HBx
    have hz := hzx
    clear HTx HBx hzx
    clear HLK
    go_wp2_with fail
    refine (HD.out _ HT.out).mono ?_
    rintro en w1 ⟨rfl, hb⟩
    have HTx := Lib.hid (HT.out.below hb)
    have HBx := Lib.hid (HB.out.trans (hb.mono (by omega)))
    have hzx := Nat.le_trans hz hb.size
    clear  HT HB hz hb
    have HT := HTx
    have HB := HBx
    have hz := hzx
    clear HTx HBx hzx
    clear HD
    go_upto_region 5 with fail
    have BA : Hid (Blk (w1.alloc (.cells #[.int .i64 k, .int .i64 a, .int .i64 f, .int .u64 (wd t 0), .int .u64 (wd t 1), .int .u64 (wd t 2), .int .u64 (wd t 3), .int .i64 n, .int .i64 m] 28)) w1.heap.size (woI k a f t n m) 28) := Lib.hid (Blk.new w1 (woI k a f t n m) 28)
    replace HT := Lib.hid (HT.out.alloc (.cells #[.int .i64 k, .int .i64 a, .int .i64 f, .int .u64 (wd t 0), .int .u64 (wd t 1), .int .u64 (wd t 2), .int .u64 (wd t 3), .int .i64 n, .int .i64 m] 28))
    replace HB := Lib.hid (HB.out.alloc (by omega) (.cells #[.int .i64 k, .int .i64 a, .int .i64 f, .int .u64 (wd t 0), .int .u64 (wd t 1), .int .u64 (wd t 2), .int .u64 (wd t 3), .int .i64 n, .int .i64 m] 28))
    have hzx : w.heap.size ≤ (w1.alloc (.cells #[.int .i64 k, .int .i64 a, .int .i64 f, .int .u64 (wd t 0), .int .u64 (wd t 1), .int .u64 (wd t 2), .int .u64 (wd t 3), .int .i64 n, .int .i64 m] 28)).heap.size := by simp; omega
    clear hz
    have hz := hzx
    clear hzx
    generalize w1.alloc (.cells #[.int .i64 k, .int .i64 a, .int .i64 f, .int .u64 (wd t 0), .int .u64 (wd t 1), .int .u64 (wd t 2), .int .u64 (wd t 3), .int .i64 n, .int .i64 m] 28) = w1n at *
    generalize w1.heap.size = gBA at *
    clear BA
    go_wp2_with fail
    refine (HSU.out _ HT.out).mono ?_
    rintro en w3 ⟨rfl, hb⟩
    have hBz := HB.out.trans (hb.mono (by omega))
    clear HSU
    go_wp2_with fail
    go_ret
    exact ⟨rfl, hBz⟩

/-! ### LexAll -/
theorem allN_len (s : ByteArray) : ∀ k a acc, (allN s k a acc).1.length ≤ acc.length + (s.size - a)
  | 0, a, acc => by rw [allN]; simp only; omega
  | k + 1, a, acc => by
    rw [allN]
    by_cases h : s.size ≤ a
    · rw [if_pos h]; simp only; omega
    · rw [if_neg h]
      have hE := nextA_end s a (by omega)
      generalize nextA s a = X at *
      obtain ⟨x, e, p⟩ := X
      simp only
      by_cases he : e ≠ 0
      · rw [if_pos he]; simp
      · rw [if_neg he]
        rcases hE with ⟨_, _, _, _, h5, h6⟩ | ⟨h1, _⟩
        · have := allN_len s k x.fin (acc ++ [x])
          simp only at h5 h6
          simp at this
          omega
        · exact absurd h1 he
theorem wordsN_len (s : ByteArray) : (wordsN s).1.length ≤ s.size := by
  have := allN_len s (s.size + 1) 0 []
  simpa [wordsN] using this
def SWo (g i : Nat) (x : WN) (W : World) : Prop := ∀ j, j < 9 → W.cell? ⟨g, i * 9 + j, none⟩ = (woA x)[j]?
def SSm (w : World) (g1 g2 i : Nat) (x : WN) (W : World) : Prop := SWo g1 i x W ∧ SWo g2 i x W ∧ W = w
end Go.Proofs.YtpaecjjelpjopaaDoor

/- BraceBack, BraceSure, BraceTwo, BraceLack. -/
import Derived.Test.YtfpipiegncoamaaDoorNl
namespace Go.Proofs.YtfpipiegncoamaaDoor
open Go.RowKit

set_option maxRecDepth 100000 in
set_option maxHeartbeats 8000000 in
theorem back4_calls (n m : Int) (w : World) : Calls Tryd.prog 4 #[.int .i64 n, .int .i64 m] w fun e w' => e = .returned (.bool true) ∧ Below w.heap.size w w' := by
  have HT := Lib.hid (bText_calls n m)
  have HTR := Lib.hid (textN_calls n m)
  have HSU := Lib.hid sure4_calls
  have hne : ((ofT (textN n m)).toList != (ofT (textN n m)).toList) = false := by simp
  have hnn : ((ofT (textN n m)).toList == (ofT (textN n m)).toList) = true := by simp
  cases hr : rightN n m with
  | false =>
    have hT : textN n m = [] := by unfold textN; rw [if_pos hr]
    have q2 : (ofT (textN n m)).toList = [] := by rw [hT, toL]; rfl
    generalize ofT (textN n m) = T at *
    clear hT hr
    have HB := Lib.hid (Below.refl w.heap.size w)
    have hz := Nat.le_refl w.heap.size
    go_enter Tryd.func4, Tryd.ntmps4
    go_wp2_with fail
    refine (HT.out _).mono ?_
    rintro e w1 ⟨rfl, hb⟩
    have HBx := Lib.hid (HB.out.trans (hb.mono (by omega)))
    have hzx := Nat.le_trans hz hb.size
    clear  HB hz hb
    have HB := HBx
    have hz := hzx
    clear HBx hzx
    go_wp2_with fail
    refine (HTR.out _).mono ?_
    rintro e w2 ⟨rfl, hb⟩
    have HBx := Lib.hid (HB.out.trans (hb.mono (by omega)))
    have hzx := Nat.le_trans hz hb.size
    clear  HB hz hb
    have HB := HBx
    have hz := hzx
    clear HBx hzx
    go_wp2_with fail
    refine (HSU.out _).mono ?_
    rintro e w3 ⟨rfl, hb⟩
    have HBx := Lib.hid (HB.out.trans (hb.mono (by omega)))
    have hzx := Nat.le_trans hz hb.size
    clear  HB hz hb
    have HB := HBx
    have hz := hzx
    clear HBx hzx
    go_wp2_with fail
    go_ret
    exact ⟨rfl, HB.out⟩
  | true =>
    obtain ⟨h1, N, rfl, h2⟩ := back_read n m hr
    have q3 : (ofT (textN (N : Int) m)).toList.isEmpty = false := by
      rw [toL]
      cases hc : textN (N : Int) m with
      | nil => exact absurd hc h1
      | cons => rfl
    have hz : (ofT (textN (N : Int) m)).size ≤ 60000 := by
      rw [size_ofT]
      have d1 := digL_len N
      have d2 := digL_len m.toNat
      have d3 : (N : Int).toNat = N := rfl
      unfold textN
      repeat' split
      all_goals simp
      all_goals omega
    rw [← size_ofT] at h2
    have HRD := Lib.hid (bRead (ofT (textN (N : Int) m)) hz 0 N m _ 0 0 h2)
    generalize ofT (textN (N : Int) m) = T at *
    clear h1 h2 hr
    have HB := Lib.hid (Below.refl w.heap.size w)
    have hz := Nat.le_refl w.heap.size
    go_enter Tryd.func4, Tryd.ntmps4
    go_wp2_with fail
    refine (HT.out _).mono ?_
    rintro e w1 ⟨rfl, hb⟩
    have HBx := Lib.hid (HB.out.trans (hb.mono (by omega)))
    have hzx := Nat.le_trans hz hb.size
    clear  HB hz hb
    have HB := HBx
    have hz := hzx
    clear HBx hzx
    go_wp2_with fail
    refine (HTR.out _).mono ?_
    rintro e w2 ⟨rfl, hb⟩
    have HBx := Lib.hid (HB.out.trans (hb.mono (by omega)))
    have hzx := Nat.le_trans hz hb.size
    clear  HB hz hb
    have HB := HBx
    have hz := hzx
    clear HBx hzx
    go_wp2_with fail
    refine (HRD.out _).mono ?_
    rintro e w3 ⟨rfl, hb⟩
    have HBx := Lib.hid (HB.out.trans (hb.mono (by omega)))
    have hzx := Nat.le_trans hz hb.size
    clear  HB hz hb
    have HB := HBx
    have hz := hzx
    clear HBx hzx
    go_upto_region 7 with fail
    have BA : Hid (Blk (w3.alloc (.cells #[.int .i64 N, .int .i64 m] 24)) w3.heap.size (#[.int .i64 N, .int .i64 m]) 24) := Lib.hid (Blk.new w3 (#[.int .i64 N, .int .i64 m]) 24)
    replace HB := Lib.hid (HB.out.alloc (by omega) (.cells #[.int .i64 N, .int .i64 m] 24))
    have hzx : w.heap.size ≤ (w3.alloc (.cells #[.int .i64 N, .int .i64 m] 24)).heap.size := by simp; omega
    have hgBA : w.heap.size ≤ w3.heap.size := hz
    clear hz
    have hz := hzx
    clear hzx
    generalize w3.alloc (.cells #[.int .i64 N, .int .i64 m] 24) = w3n at *
    generalize w3.heap.size = gBA at *
    have c0 := BA.out.cell 0
    have c1 := BA.out.cell 1
    simp only [List.getElem?_toArray, List.getElem?_cons_zero, List.getElem?_cons_succ] at c0 c1
    go_wp2_with fail
    refine (HSU.out _).mono ?_
    rintro e w4 ⟨rfl, hb⟩
    have BAx := Lib.hid (BA.out.below hb (Blk.lt BA.out))
    have HBx := Lib.hid (HB.out.trans (hb.mono (by omega)))
    have hzx := Nat.le_trans hz hb.size
    clear BA HB hz hb
    have BA := BAx
    have HB := HBx
    have hz := hzx
    clear BAx HBx hzx
    clear c0 c1
    go_wp2_with fail
    go_ret
    exact ⟨rfl, HB.out⟩
theorem sureE4 (s more : ByteArray) (at' : Int) (n : Nat) (m : Int) (p e k : Nat) (h : readN s at' = (n, m, p, e, k)) :
    (n = 0 ∧ m = 0 ∧ p = 0 ∧ e = 1 ∧ k = 0) ∨ (n = 0 ∧ m = 0 ∧ p = 0 ∧ e = 2 ∧ k = s.size) ∨
    (∃ a : Nat, at' = a ∧ ((e = 0 ∧ k = 0 ∧ a < p ∧ p ≤ s.size ∧ textN n m ≠ [] ∧ readN (s.extract 0 p ++ more) a = (n, m, p, 0, 0)) ∨ (e ≠ 0 ∧ e ≠ 1 ∧ e ≠ 2 ∧ n = 0 ∧ m = 0 ∧ p = 0 ∧ k ≤ s.size ∧ readN (s.extract 0 k ++ more) a = (0, 0, 0, e, k)))) := by
  have hA := fun s' h1 h2 => readN_agr s s' at' h1 h2
  rw [h] at hA
  rcases readN_cases s at' with h0 | ⟨a, rfl, hE⟩
  · rw [h] at h0
    simp only [Prod.mk.injEq] at h0
    exact .inl h0
  · rw [h] at hE
    rcases hE with ⟨e1, e2, e3, e4, e5⟩ | ⟨e1, e2, e3, e4, e5, e6⟩ | e
    · simp only at e1 e2 e3 e4 e5
      subst e1; subst e2
      refine .inr (.inr ⟨a, rfl, .inl ⟨rfl, rfl, e3, e4, (back_read n m e5).1, ?_⟩⟩)
      exact hA (s.extract 0 p ++ more) (by simp) (by simp) (by rw [if_pos rfl]; exact agr_cut s more p e4)
    · simp only at e1 e2 e3 e4 e5 e6
      subst e2; subst e3; subst e4
      refine .inr (.inr ⟨a, rfl, .inr ⟨by omega, by omega, by omega, rfl, rfl, rfl, e6, ?_⟩⟩)
      exact hA (s.extract 0 k ++ more) (by simp only; omega) (by simp only; omega) (by rw [if_neg (by simp only; omega)]; exact agr_cut s more k e6)
    · simp only [Prod.mk.injEq] at e
      exact .inr (.inl e)

set_option maxRecDepth 100000 in
set_option maxHeartbeats 8000000 in
theorem sureLaw4_calls (s more : ByteArray) (hs : s.size ≤ 9223372036854775807) (hm : more.size ≤ 9223372036854775807) (at' : Int) (w : World) : Calls Tryd.prog 5 #[.string s, .int .i64 at', .string more] w fun e w' => e = .returned (.bool true) ∧ Below w.heap.size w w' := by
  by_cases hl : 400 < s.size
  · have q : decide (400 < s.size) = true := by simpa using hl
    go_enter Tryd.func5, Tryd.ntmps5
    go_wp2_with fail
    refine (sure4_calls _).mono ?_
    rintro e w1 ⟨rfl, hb⟩
    go_wp2_with fail
    go_ret
    exact ⟨rfl, hb⟩
  have q : decide (400 < s.size) = false := by simpa using hl
  by_cases hl2 : 100 < more.size
  · have q2 : decide (100 < more.size) = true := by simpa using hl2
    go_enter Tryd.func5, Tryd.ntmps5
    go_wp2_with fail
    refine (sure4_calls _).mono ?_
    rintro e w1 ⟨rfl, hb⟩
    go_wp2_with fail
    go_ret
    exact ⟨rfl, hb⟩
  have q2 : decide (100 < more.size) = false := by simpa using hl2
  obtain ⟨n, m, p, e, k, hR⟩ : ∃ n m p e k, readN s at' = (n, m, p, e, k) := ⟨_, _, _, _, _, rfl⟩
  have HD := Lib.hid (bRead s (by omega) at' n m p e k hR)
  have HSU := Lib.hid sure4_calls
  have hE := sureE4 s more at' n m p e k hR
  clear hR
  rcases hE with ⟨rfl, rfl, rfl, rfl, rfl⟩ | ⟨rfl, rfl, rfl, rfl, rfl⟩ | ⟨a, rfl, ⟨rfl, rfl, h2, h3, h4, hR2⟩ | ⟨h1, h2, h3, rfl, rfl, rfl, h4, hR2⟩⟩
  · skip
    have HB := Lib.hid (Below.refl w.heap.size w)
    have hz := Nat.le_refl w.heap.size
    go_enter Tryd.func5, Tryd.ntmps5
    go_wp2_with fail
    refine (HD.out _).mono ?_
    rintro e w1 ⟨rfl, hb⟩
    have HBx := Lib.hid (HB.out.trans (hb.mono (by omega)))
    have hzx := Nat.le_trans hz hb.size
    clear  HB hz hb
    have HB := HBx
    have hz := hzx
    clear HBx hzx
    go_upto_region 4 with fail
    have BA : Hid (Blk (w1.alloc (.cells #[.int .i64 0, .int .i64 0] 24)) w1.heap.size (#[.int .i64 0, .int .i64 0]) 24) := Lib.hid (Blk.new w1 (#[.int .i64 0, .int .i64 0]) 24)
    replace HB := Lib.hid (HB.out.alloc (by omega) (.cells #[.int .i64 0, .int .i64 0] 24))
    have hzx : w.heap.size ≤ (w1.alloc (.cells #[.int .i64 0, .int .i64 0] 24)).heap.size := by simp; omega
    have hgBA : w.heap.size ≤ w1.heap.size := hz
    clear hz
    have hz := hzx
    clear hzx
    generalize w1.alloc (.cells #[.int .i64 0, .int .i64 0] 24) = w1n at *
    generalize w1.heap.size = gBA at *
    have c0 := BA.out.cell 0
    have c1 := BA.out.cell 1
    simp only [List.getElem?_toArray, List.getElem?_cons_zero, List.getElem?_cons_succ] at c0 c1
    go_wp2_with fail
    refine (HSU.out _).mono ?_
    rintro e w2 ⟨rfl, hb⟩
    have BAx := Lib.hid (BA.out.below hb (Blk.lt BA.out))
    have HBx := Lib.hid (HB.out.trans (hb.mono (by omega)))
    have hzx := Nat.le_trans hz hb.size
    clear BA HB hz hb
    have BA := BAx
    have HB := HBx
    have hz := hzx
    clear BAx HBx hzx
    clear c0 c1
    go_wp2_with fail
    go_ret
    exact ⟨rfl, HB.out⟩
  · skip
    have HB := Lib.hid (Below.refl w.heap.size w)
    have hz := Nat.le_refl w.heap.size
    go_enter Tryd.func5, Tryd.ntmps5
    go_wp2_with fail
    refine (HD.out _).mono ?_
    rintro e w1 ⟨rfl, hb⟩
    have HBx := Lib.hid (HB.out.trans (hb.mono (by omega)))
    have hzx := Nat.le_trans hz hb.size
    clear  HB hz hb
    have HB := HBx
    have hz := hzx
    clear HBx hzx
    go_upto_region 4 with fail
    have BA : Hid (Blk (w1.alloc (.cells #[.int .i64 0, .int .i64 0] 24)) w1.heap.size (#[.int .i64 0, .int .i64 0]) 24) := Lib.hid (Blk.new w1 (#[.int .i64 0, .int .i64 0]) 24)
    replace HB := Lib.hid (HB.out.alloc (by omega) (.cells #[.int .i64 0, .int .i64 0] 24))
    have hzx : w.heap.size ≤ (w1.alloc (.cells #[.int .i64 0, .int .i64 0] 24)).heap.size := by simp; omega
    have hgBA : w.heap.size ≤ w1.heap.size := hz
    clear hz
    have hz := hzx
    clear hzx
    generalize w1.alloc (.cells #[.int .i64 0, .int .i64 0] 24) = w1n at *
    generalize w1.heap.size = gBA at *
    have c0 := BA.out.cell 0
    have c1 := BA.out.cell 1
    simp only [List.getElem?_toArray, List.getElem?_cons_zero, List.getElem?_cons_succ] at c0 c1
    go_wp2_with fail
    refine (HSU.out _).mono ?_
    rintro e w2 ⟨rfl, hb⟩
    have BAx := Lib.hid (BA.out.below hb (Blk.lt BA.out))
    have HBx := Lib.hid (HB.out.trans (hb.mono (by omega)))
    have hzx := Nat.le_trans hz hb.size
    clear BA HB hz hb
    have BA := BAx
    have HB := HBx
    have hz := hzx
    clear BAx HBx hzx
    clear c0 c1
    go_wp2_with fail
    go_ret
    exact ⟨rfl, HB.out⟩
  · have HD2 := Lib.hid (bRead (s.extract 0 p ++ more) (by rw [ByteArray.size_append, ByteArray.size_extract]; omega) a n m p 0 0 hR2)
    have hadd : ∀ w, (Op.stringOp .add (s.extract 0 p) more).run Tryd.prog w = .ok (.string (s.extract 0 p ++ more)) w := fun w => run_string_add_sum w _ _ (by rw [ByteArray.size_extract]; omega)
    have HTX := Lib.hid (bText_calls n m)
    have q3 : decide (p ≤ a) = false := by rw [decide_eq_false_iff_not]; omega
    have q4 : decide (s.size < p) = false := by rw [decide_eq_false_iff_not]; omega
    have q5 : (ofT (textN (n : Int) m)).toList.isEmpty = false := by
      rw [toL]
      cases hc : textN (n : Int) m with
      | nil => exact absurd hc h4
      | cons => rfl
    generalize ofT (textN (n : Int) m) = T at *
    clear hR2 h4
    have HB := Lib.hid (Below.refl w.heap.size w)
    have hz := Nat.le_refl w.heap.size
    go_enter Tryd.func5, Tryd.ntmps5
    go_wp2_with fail
    refine (HD.out _).mono ?_
    rintro e w1 ⟨rfl, hb⟩
    have HBx := Lib.hid (HB.out.trans (hb.mono (by omega)))
    have hzx := Nat.le_trans hz hb.size
    clear  HB hz hb
    have HB := HBx
    have hz := hzx
    clear HBx hzx
    go_upto_region 4 with fail
    have BA : Hid (Blk (w1.alloc (.cells #[.int .i64 n, .int .i64 m] 24)) w1.heap.size (#[.int .i64 n, .int .i64 m]) 24) := Lib.hid (Blk.new w1 (#[.int .i64 n, .int .i64 m]) 24)
    replace HB := Lib.hid (HB.out.alloc (by omega) (.cells #[.int .i64 n, .int .i64 m] 24))
    have hzx : w.heap.size ≤ (w1.alloc (.cells #[.int .i64 n, .int .i64 m] 24)).heap.size := by simp; omega
    have hgBA : w.heap.size ≤ w1.heap.size := hz
    clear hz
    have hz := hzx
    clear hzx
    generalize w1.alloc (.cells #[.int .i64 n, .int .i64 m] 24) = w1n at *
    generalize w1.heap.size = gBA at *
    have c0 := BA.out.cell 0
    have c1 := BA.out.cell 1
    simp only [List.getElem?_toArray, List.getElem?_cons_zero, List.getElem?_cons_succ] at c0 c1
    go_wp2_with fail
    refine (HTX.out _).mono ?_
    rintro e w2 ⟨rfl, hb⟩
    have BAx := Lib.hid (BA.out.below hb (Blk.lt BA.out))
    have HBx := Lib.hid (HB.out.trans (hb.mono (by omega)))
    have hzx := Nat.le_trans hz hb.size
    clear BA HB hz hb
    have BA := BAx
    have HB := HBx
    have hz := hzx
    clear BAx HBx hzx
    clear c0 c1
    go_wp2_with fail
    refine (HD2.out _).mono ?_
    rintro e w3 ⟨rfl, hb⟩
    have BAx := Lib.hid (BA.out.below hb (Blk.lt BA.out))
    have HBx := Lib.hid (HB.out.trans (hb.mono (by omega)))
    have hzx := Nat.le_trans hz hb.size
    clear BA HB hz hb
    have BA := BAx
    have HB := HBx
    have hz := hzx
    clear BAx HBx hzx
    go_upto_region 12 with fail
    have BB : Hid (Blk (w3.alloc (.cells #[.int .i64 n, .int .i64 m] 24)) w3.heap.size (#[.int .i64 n, .int .i64 m]) 24) := Lib.hid (Blk.new w3 (#[.int .i64 n, .int .i64 m]) 24)
    replace BA := Lib.hid (BA.out.alloc (.cells #[.int .i64 n, .int .i64 m] 24))
    replace HB := Lib.hid (HB.out.alloc (by omega) (.cells #[.int .i64 n, .int .i64 m] 24))
    have hzx : w.heap.size ≤ (w3.alloc (.cells #[.int .i64 n, .int .i64 m] 24)).heap.size := by simp; omega
    have hgBB : w.heap.size ≤ w3.heap.size := hz
    clear hz
    have hz := hzx
    clear hzx
    generalize w3.alloc (.cells #[.int .i64 n, .int .i64 m] 24) = w3n at *
    generalize w3.heap.size = gBB at *
    have c0 := BA.out.cell 0
    have c1 := BA.out.cell 1
    simp only [List.getElem?_toArray, List.getElem?_cons_zero, List.getElem?_cons_succ] at c0 c1
    have d0 := BB.out.cell 0
    have d1 := BB.out.cell 1
    simp only [List.getElem?_toArray, List.getElem?_cons_zero, List.getElem?_cons_succ] at d0 d1
    go_wp2_with fail
    refine (HSU.out _).mono ?_
    rintro e w4 ⟨rfl, hb⟩
    have BAx := Lib.hid (BA.out.below hb (Blk.lt BA.out))
    have BBx := Lib.hid (BB.out.below hb (Blk.lt BB.out))
    have HBx := Lib.hid (HB.out.trans (hb.mono (by omega)))
    have hzx := Nat.le_trans hz hb.size
    clear BA BB HB hz hb
    have BA := BAx
    have BB := BBx
    have HB := HBx
    have hz := hzx
    clear BAx BBx HBx hzx
    clear c0 c1
    clear d0 d1
    go_wp2_with fail
    go_ret
    exact ⟨rfl, HB.out⟩
  · have HD2 := Lib.hid (bRead (s.extract 0 k ++ more) (by rw [ByteArray.size_append, ByteArray.size_extract]; omega) a 0 0 0 e k hR2)
    have hadd : ∀ w, (Op.stringOp .add (s.extract 0 k) more).run Tryd.prog w = .ok (.string (s.extract 0 k ++ more)) w := fun w => run_string_add_sum w _ _ (by rw [ByteArray.size_extract]; omega)
    have q3 : ((e : Int) == 0) = false := by rw [beq_eq_false_iff_ne]; omega
    have q4 : ((e : Int) != 0) = true := by rw [bne_iff_ne]; omega
    have q5 : ((e : Int) == 1) = false := by rw [beq_eq_false_iff_ne]; omega
    have q6 : ((e : Int) == 2) = false := by rw [beq_eq_false_iff_ne]; omega
    have q7 : decide (s.size < k) = false := by rw [decide_eq_false_iff_not]; omega
    clear hR2 h1 h2 h3
    have HB := Lib.hid (Below.refl w.heap.size w)
    have hz := Nat.le_refl w.heap.size
    go_enter Tryd.func5, Tryd.ntmps5
    go_wp2_with fail
    refine (HD.out _).mono ?_
    rintro e w1 ⟨rfl, hb⟩
    have HBx := Lib.hid (HB.out.trans (hb.mono (by omega)))
    have hzx := Nat.le_trans hz hb.size
    clear  HB hz hb
    have HB := HBx
    have hz := hzx
    clear HBx hzx
    go_upto_region 4 with fail
    have BA : Hid (Blk (w1.alloc (.cells #[.int .i64 0, .int .i64 0] 24)) w1.heap.size (#[.int .i64 0, .int .i64 0]) 24) := Lib.hid (Blk.new w1 (#[.int .i64 0, .int .i64 0]) 24)
    replace HB := Lib.hid (HB.out.alloc (by omega) (.cells #[.int .i64 0, .int .i64 0] 24))
    have hzx : w.heap.size ≤ (w1.alloc (.cells #[.int .i64 0, .int .i64 0] 24)).heap.size := by simp; omega
    have hgBA : w.heap.size ≤ w1.heap.size := hz
    clear hz
    have hz := hzx
    clear hzx
    generalize w1.alloc (.cells #[.int .i64 0, .int .i64 0] 24) = w1n at *
    generalize w1.heap.size = gBA at *
    have c0 := BA.out.cell 0
    have c1 := BA.out.cell 1
    simp only [List.getElem?_toArray, List.getElem?_cons_zero, List.getElem?_cons_succ] at c0 c1
    go_wp2_with fail
    refine (HD2.out _).mono ?_
    rintro e w3 ⟨rfl, hb⟩
    have BAx := Lib.hid (BA.out.below hb (Blk.lt BA.out))
    have HBx := Lib.hid (HB.out.trans (hb.mono (by omega)))
    have hzx := Nat.le_trans hz hb.size
    clear BA HB hz hb
    have BA := BAx
    have HB := HBx
    have hz := hzx
    clear BAx HBx hzx
    clear c0 c1
    go_upto_region 12 with fail
    have BB : Hid (Blk (w3.alloc (.cells #[.int .i64 0, .int .i64 0] 24)) w3.heap.size (#[.int .i64 0, .int .i64 0]) 24) := Lib.hid (Blk.new w3 (#[.int .i64 0, .int .i64 0]) 24)
    replace BA := Lib.hid (BA.out.alloc (.cells #[.int .i64 0, .int .i64 0] 24))
    replace HB := Lib.hid (HB.out.alloc (by omega) (.cells #[.int .i64 0, .int .i64 0] 24))
    have hzx : w.heap.size ≤ (w3.alloc (.cells #[.int .i64 0, .int .i64 0] 24)).heap.size := by simp; omega
    have hgBB : w.heap.size ≤ w3.heap.size := hz
    clear hz
    have hz := hzx
    clear hzx
    generalize w3.alloc (.cells #[.int .i64 0, .int .i64 0] 24) = w3n at *
    generalize w3.heap.size = gBB at *
    have c0 := BA.out.cell 0
    have c1 := BA.out.cell 1
    simp only [List.getElem?_toArray, List.getElem?_cons_zero, List.getElem?_cons_succ] at c0 c1
    have d0 := BB.out.cell 0
    have d1 := BB.out.cell 1
    simp only [List.getElem?_toArray, List.getElem?_cons_zero, List.getElem?_cons_succ] at d0 d1
    go_wp2_with fail
    refine (HSU.out _).mono ?_
    rintro e w4 ⟨rfl, hb⟩
    have BAx := Lib.hid (BA.out.below hb (Blk.lt BA.out))
    have BBx := Lib.hid (BB.out.below hb (Blk.lt BB.out))
    have HBx := Lib.hid (HB.out.trans (hb.mono (by omega)))
    have hzx := Nat.le_trans hz hb.size
    clear BA BB HB hz hb
    have BA := BAx
    have BB := BBx
    have HB := HBx
    have hz := hzx
    clear BAx BBx HBx hzx
    clear c0 c1
    clear d0 d1
    go_wp2_with fail
    go_ret
    exact ⟨rfl, HB.out⟩
set_option maxRecDepth 100000 in
set_option maxHeartbeats 2000000 in
theorem lawDig_calls (n : Nat) (hn : n ≤ 99) (w : World) : Calls Tryd.prog 14 #[.int .i64 n] w fun e w' => e = .returned (.string (ofT (digL n))) ∧ Below w.heap.size w w' := by
  by_cases h : 10 ≤ n
  · have q : decide ((n : Int) < 10) = false := by rw [decide_eq_false_iff_not]; omega
    have hr : digL n = [48 + n / 10, 48 + n % 10] := by unfold digL; rw [if_pos h]
    have hcv : ∀ W : World, (convert 45 9 (.slice (some ⟨W.heap.size, 0, none⟩) 2 2)).run Tryd.prog (W.alloc (.cells #[.int .u8 (48 + (n : Int) / 10), .int .u8 (48 + (n : Int) % 10)] 5)) = .ok (.string (ofT (digL n))) (W.alloc (.cells #[.int .u8 (48 + (n : Int) / 10), .int .u8 (48 + (n : Int) % 10)] 5)) := fun W => by
      have := cv2 W 5 (48 + n / 10) (48 + n % 10)
      rw [hr]; exact this
    generalize digL n = L at *
    clear hr h
    go_enter Tryd.func14, Tryd.ntmps14
    go_wp2_with fail
    go_ret
    exact ⟨rfl, by go_grown⟩
  · have q : decide ((n : Int) < 10) = true := by rw [decide_eq_true_eq]; omega
    have hr : digL n = [48 + n] := by unfold digL; rw [if_neg h]
    have hcv : ∀ W : World, (convert 45 9 (.slice (some ⟨W.heap.size, 0, none⟩) 1 1)).run Tryd.prog (W.alloc (.cells #[.int .u8 (48 + (n : Int))] 5)) = .ok (.string (ofT (digL n))) (W.alloc (.cells #[.int .u8 (48 + (n : Int))] 5)) := fun W => by
      have := cv1 W 5 (48 + n)
      rw [hr]; exact this
    have hn9 : n ≤ 9 := by omega
    generalize digL n = L at *
    clear hr h
    go_enter Tryd.func14, Tryd.ntmps14
    go_wp2_with fail
    go_ret
    exact ⟨rfl, by go_grown⟩

theorem two_get (a b : Nat) (ha : a < 100) (hb : b < 100) : twoB a b = true := List.all_eq_true.1 (List.all_eq_true.1 two_all a (List.mem_range.2 ha)) b (List.mem_range.2 hb)
theorem two_le (a b : Nat) (ha : a < 100) (hb : b < 100) (h : a ≤ b) : readN (ofT (twoT a b)) 0 = (a, (b : Int), (ofT (twoT a b)).size, 0, 0) := by
  have h2 := two_get a b ha hb
  rw [size_ofT]
  have e : twoB a b = decide (readN (ofT (twoT a b)) 0 = (a, (b : Int), (twoT a b).length, 0, 0)) := if_pos h
  rw [e] at h2
  exact of_decide_eq_true h2
theorem two_gt (a b : Nat) (ha : a < 100) (hb : b < 100) (h : ¬ a ≤ b) : ∃ k, readN (ofT (twoT a b)) 0 = (0, 0, 0, 6, k) ∧ (ofT (digL a)).size + 2 < k ∧ k ≤ (ofT (twoT a b)).size ∧ textN a b = [] := by
  have h2 := two_get a b ha hb
  rw [size_ofT, size_ofT]
  have e : twoB a b = (decide ((readN (ofT (twoT a b)) 0).1 = 0) && decide ((readN (ofT (twoT a b)) 0).2.1 = 0) && decide ((readN (ofT (twoT a b)) 0).2.2.1 = 0) && decide ((readN (ofT (twoT a b)) 0).2.2.2.1 = 6) && decide ((digL a).length + 2 < (readN (ofT (twoT a b)) 0).2.2.2.2) && decide ((readN (ofT (twoT a b)) 0).2.2.2.2 ≤ (twoT a b).length) && (textN a b).isEmpty) := if_neg h
  rw [e] at h2
  clear e
  generalize readN (ofT (twoT a b)) 0 = r at *
  obtain ⟨r1, r2, r3, r4, r5⟩ := r
  simp only [Bool.and_eq_true, decide_eq_true_eq, List.isEmpty_iff] at h2
  obtain ⟨⟨⟨⟨⟨⟨e1, e2⟩, e3⟩, e4⟩, e5⟩, e6⟩, e7⟩ := h2
  exact ⟨r5, by rw [e1, e2, e3, e4], e5, e6, e7⟩

set_option maxRecDepth 100000 in
set_option maxHeartbeats 8000000 in
theorem two4_calls (x y : Nat) (hx : x < 256) (hy : y < 256) (w : World) : Calls Tryd.prog 7 #[.int .u8 x, .int .u8 y] w fun e w' => e = .returned (.bool true) ∧ Below w.heap.size w w' := by
  obtain ⟨a, ha⟩ : ∃ a, x % 100 = a := ⟨_, rfl⟩
  obtain ⟨b, hb⟩ : ∃ b, y % 100 = b := ⟨_, rfl⟩
  have ha9 : a < 100 := by omega
  have hb9 : b < 100 := by omega
  have hmx : (x : Int) % 100 = (a : Int) := by omega
  have hmy : (y : Int) % 100 = (b : Int) := by omega
  have hle := two_le a b ha9 hb9
  have hgt := two_gt a b ha9 hb9
  have HDA := Lib.hid (lawDig_calls a (by omega))
  have HDB := Lib.hid (lawDig_calls b (by omega))
  have HTX := Lib.hid (bText_calls a b)
  have HSU := Lib.hid sure4_calls
  have da := digL_len a
  have db := digL_len b
  have b1 : ([123] : List Nat).length = 1 := rfl
  have b2 : ([125] : List Nat).length = 1 := rfl
  have b3 : ([44] : List Nat).length = 1 := rfl
  have a1 := addT [123] (digL a) (by omega)
  have a2 := addT ([123] ++ digL a) [44] (by rw [List.length_append]; omega)
  have a3 := addT ([123] ++ digL a ++ [44]) (digL b) (by rw [List.length_append, List.length_append]; omega)
  have a4 := addT ([123] ++ digL a ++ [44] ++ digL b) [125] (by rw [List.length_append, List.length_append, List.length_append]; omega)
  have hz : (ofT (twoT a b)).size ≤ 60000 := by rw [size_ofT]; unfold twoT; simp; omega
  have hDs : (ofT (digL a)).size ≤ 2 := by rw [size_ofT]; exact da
  rw [show [123] ++ digL a ++ [44] ++ digL b ++ [125] = twoT a b from rfl] at a4
  rw [show ofT [123] = ⟨#[123]⟩ from rfl] at a1
  rw [show ofT [44] = ⟨#[44]⟩ from rfl] at a2
  rw [show ofT [125] = ⟨#[125]⟩ from rfl] at a4
  clear b1 b2 b3 ha hb
  by_cases hab : a ≤ b
  · have h2 := hle hab
    have qq : decide (a ≤ b) = true := by simpa using hab
    have HRD := Lib.hid (bRead (ofT (twoT a b)) hz 0 a b _ 0 0 h2)
    clear h2 HTX hle hgt
    generalize ofT (twoT a b) = TT at *
    generalize [123] ++ digL a ++ [44] ++ digL b = T3 at *
    generalize [123] ++ digL a ++ [44] = T2 at *
    generalize [123] ++ digL a = T1 at *
    generalize digL a = DA at *
    generalize digL b = DB at *
    have HB := Lib.hid (Below.refl w.heap.size w)
    have hz := Nat.le_refl w.heap.size
    go_enter Tryd.func7, Tryd.ntmps7
    go_wp2_with fail
    refine (HDA.out _).mono ?_
    rintro e w1 ⟨rfl, hb⟩
    have HBx := Lib.hid (HB.out.trans (hb.mono (by omega)))
    have hzx := Nat.le_trans hz hb.size
    clear  HB hz hb
    have HB := HBx
    have hz := hzx
    clear HBx hzx
    go_wp2_with fail
    refine (HDB.out _).mono ?_
    rintro e w2 ⟨rfl, hb⟩
    have HBx := Lib.hid (HB.out.trans (hb.mono (by omega)))
    have hzx := Nat.le_trans hz hb.size
    clear  HB hz hb
    have HB := HBx
    have hz := hzx
    clear HBx hzx
    go_wp2_with fail
    refine (HRD.out _).mono ?_
    rintro e w3 ⟨rfl, hb⟩
    have HBx := Lib.hid (HB.out.trans (hb.mono (by omega)))
    have hzx := Nat.le_trans hz hb.size
    clear  HB hz hb
    have HB := HBx
    have hz := hzx
    clear HBx hzx
    go_upto_region 4 with fail
    have BA : Hid (Blk (w3.alloc (.cells #[.int .i64 a, .int .i64 b] 24)) w3.heap.size (#[.int .i64 a, .int .i64 b]) 24) := Lib.hid (Blk.new w3 (#[.int .i64 a, .int .i64 b]) 24)
    replace HB := Lib.hid (HB.out.alloc (by omega) (.cells #[.int .i64 a, .int .i64 b] 24))
    have hzx : w.heap.size ≤ (w3.alloc (.cells #[.int .i64 a, .int .i64 b] 24)).heap.size := by simp; omega
    have hgBA : w.heap.size ≤ w3.heap.size := hz
    clear hz
    have hz := hzx
    clear hzx
    generalize w3.alloc (.cells #[.int .i64 a, .int .i64 b] 24) = w3n at *
    generalize w3.heap.size = gBA at *
    have c0 := BA.out.cell 0
    have c1 := BA.out.cell 1
    simp only [List.getElem?_toArray, List.getElem?_cons_zero, List.getElem?_cons_succ] at c0 c1
    go_wp2_with fail
    refine (HSU.out _).mono ?_
    rintro e w4 ⟨rfl, hb⟩
    have BAx := Lib.hid (BA.out.below hb (Blk.lt BA.out))
    have HBx := Lib.hid (HB.out.trans (hb.mono (by omega)))
    have hzx := Nat.le_trans hz hb.size
    clear BA HB hz hb
    have BA := BAx
    have HB := HBx
    have hz := hzx
    clear BAx HBx hzx
    clear c0 c1
    go_wp2_with fail
    go_ret
    exact ⟨rfl, HB.out⟩
  · obtain ⟨k, hrd, e5, e6, e7⟩ := hgt hab
    have qq : decide (a ≤ b) = false := by simpa using hab
    have HRD := Lib.hid (bRead (ofT (twoT a b)) hz 0 0 0 0 6 k hrd)
    have htx := HTX.out
    rw [e7, show ofT [] = (⟨#[]⟩ : ByteArray) from rfl] at htx
    clear HTX
    have HTX := Lib.hid htx
    have c5 : decide (((ofT (digL a)).size : Int) + 2 < (k : Int)) = true := by rw [decide_eq_true_eq]; omega
    have c6 : decide (k ≤ (ofT (twoT a b)).size) = true := by rw [decide_eq_true_eq]; exact e6
    clear e5 e6 e7 hrd htx hle hgt da db
    generalize ofT (twoT a b) = TT at *
    generalize [123] ++ digL a ++ [44] ++ digL b = T3 at *
    generalize [123] ++ digL a ++ [44] = T2 at *
    generalize [123] ++ digL a = T1 at *
    generalize ofT (digL a) = DA at *
    generalize ofT (digL b) = DB at *
    have HB := Lib.hid (Below.refl w.heap.size w)
    have hz := Nat.le_refl w.heap.size
    go_enter Tryd.func7, Tryd.ntmps7
    go_wp2_with fail
    refine (HDA.out _).mono ?_
    rintro e w1 ⟨rfl, hb⟩
    have HBx := Lib.hid (HB.out.trans (hb.mono (by omega)))
    have hzx := Nat.le_trans hz hb.size
    clear  HB hz hb
    have HB := HBx
    have hz := hzx
    clear HBx hzx
    go_wp2_with fail
    refine (HDB.out _).mono ?_
    rintro e w2 ⟨rfl, hb⟩
    have HBx := Lib.hid (HB.out.trans (hb.mono (by omega)))
    have hzx := Nat.le_trans hz hb.size
    clear  HB hz hb
    have HB := HBx
    have hz := hzx
    clear HBx hzx
    go_wp2_with fail
    refine (HRD.out _).mono ?_
    rintro e w3 ⟨rfl, hb⟩
    have HBx := Lib.hid (HB.out.trans (hb.mono (by omega)))
    have hzx := Nat.le_trans hz hb.size
    clear  HB hz hb
    have HB := HBx
    have hz := hzx
    clear HBx hzx
    go_upto_region 4 with fail
    have BA : Hid (Blk (w3.alloc (.cells #[.int .i64 0, .int .i64 0] 24)) w3.heap.size (#[.int .i64 0, .int .i64 0]) 24) := Lib.hid (Blk.new w3 (#[.int .i64 0, .int .i64 0]) 24)
    replace HB := Lib.hid (HB.out.alloc (by omega) (.cells #[.int .i64 0, .int .i64 0] 24))
    have hzx : w.heap.size ≤ (w3.alloc (.cells #[.int .i64 0, .int .i64 0] 24)).heap.size := by simp; omega
    have hgBA : w.heap.size ≤ w3.heap.size := hz
    clear hz
    have hz := hzx
    clear hzx
    generalize w3.alloc (.cells #[.int .i64 0, .int .i64 0] 24) = w3n at *
    generalize w3.heap.size = gBA at *
    go_wp2_with fail
    refine (HDA.out _).mono ?_
    rintro e w4 ⟨rfl, hb⟩
    have BAx := Lib.hid (BA.out.below hb (Blk.lt BA.out))
    have HBx := Lib.hid (HB.out.trans (hb.mono (by omega)))
    have hzx := Nat.le_trans hz hb.size
    clear BA HB hz hb
    have BA := BAx
    have HB := HBx
    have hz := hzx
    clear BAx HBx hzx
    go_wp2_with fail
    refine (HTX.out _).mono ?_
    rintro e w5 ⟨rfl, hb⟩
    have BAx := Lib.hid (BA.out.below hb (Blk.lt BA.out))
    have HBx := Lib.hid (HB.out.trans (hb.mono (by omega)))
    have hzx := Nat.le_trans hz hb.size
    clear BA HB hz hb
    have BA := BAx
    have HB := HBx
    have hz := hzx
    clear BAx HBx hzx
    go_wp2_with fail
    refine (HSU.out _).mono ?_
    rintro e w6 ⟨rfl, hb⟩
    have BAx := Lib.hid (BA.out.below hb (Blk.lt BA.out))
    have HBx := Lib.hid (HB.out.trans (hb.mono (by omega)))
    have hzx := Nat.le_trans hz hb.size
    clear BA HB hz hb
    have BA := BAx
    have HB := HBx
    have hz := hzx
    clear BAx HBx hzx
    go_wp2_with fail
    go_ret
    exact ⟨rfl, HB.out⟩
end Go.Proofs.YtfpipiegncoamaaDoor

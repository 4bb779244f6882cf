/- The laws of stage 5: LexBack. -/
import Derived.Test.YtpaecjjelpjopaaGreatDoorVj
namespace Go.Proofs.YtpaecjjelpjopaaGreatDoor
open Go.RowKit BS

def SBk (w : World) (g i : Nat) (x : WN) (B : Nat) (c : Array Value) (W : World) : Prop := SWo g i x W ∧ Blk W B c 27 ∧ W = w
def SBl (w : World) (g1 i : Nat) (x : WN) (g2 : Nat) (y : WN) (W : World) : Prop := SWo g1 i x W ∧ SWo g2 i y W ∧ W = w
theorem printV_I (k p f : Nat) (t : BitVec 256) (n : Nat) (m : Int) : printV k t n m = printW ⟨k, p, f, t, n, m⟩ := printV_W ⟨k, p, f, t, n, m⟩
theorem eq_setsame (t : BitVec 256) (w : World) : (Op.equalIn 10000 25 (.agg #[.int .u64 (wd t 0), .int .u64 (wd t 1), .int .u64 (wd t 2), .int .u64 (wd t 3)]) (.agg #[.int .u64 (wd t 0), .int .u64 (wd t 1), .int .u64 (wd t 2), .int .u64 (wd t 3)])).run Tryz.prog w = .ok true w := eq_set_same t w
set_option maxRecDepth 100000 in
set_option maxHeartbeats 16000000 in
theorem back5_calls (C : LexC) (s : ByteArray) (hs : s.size ≤ 9223372036854775807) (w : World) (hT : TabG w) : Calls Tryz.prog 6 #[.string s] w fun e w' => e = .returned (.bool true) ∧ Below w.heap.size w w' := by
  by_cases hl : 300 < s.size
  · have q : decide ((300 : Int) < (s.size : Int)) = true := by rw [decide_eq_true_iff]; omega
    go_enter Tryz.func6, Tryz.ntmps6
    go_wp2_with fail
    refine (sure5_calls C _ hT).mono ?_
    rintro e w1 ⟨rfl, hb⟩
    go_wp2_with fail
    go_ret
    exact ⟨rfl, hb⟩
  have q : decide ((300 : Int) < (s.size : Int)) = false := by rw [decide_eq_false_iff_not]; omega
  have HD := Lib.hid (C.all s (by omega))
  have HSU := Lib.hid (sure5_calls C)
  have HT := Lib.hid hT
  have hlen : (wordsN s).1.length ≤ 300 := Nat.le_trans (wordsN_len s) (by omega)
  have hside := words_side s
  have hnone := words_none s
  generalize wordsN s = X at *
  obtain ⟨l, e, p⟩ := X
  simp only at HD hlen hside hnone
  clear hT
  by_cases he : e = 0
  · subst he
    have hsd := hside rfl
    clear hside hnone
    have hok := side_ok l 0 s.size hsd
    have hend := side_end l 0 s.size hsd
    have hat := side_at l 0 s.size hsd
    have hwc := words_cat l hok
    have hcl := cat_len l hok
    have hcz : (ofT (catW l)).size ≤ 1000000 := by rw [size_ofT]; omega
    have hA2 := C.all (ofT (catW l)) hcz
    rw [hwc] at hA2
    simp only at hA2
    have HA2 := Lib.hid hA2
    have hll := lay_len l 0
    have hlat := lay_at l 0
    clear hA2 hwc hsd hcl hcz
    have HOK := Lib.hid hok
    have HEND := Lib.hid hend
    have HAT := Lib.hid hat
    have HLL := Lib.hid hll
    have HLAT := Lib.hid hlat
    clear hok hend hat hll hlat
    go_enter Tryz.func6, Tryz.ntmps6
    go_wp2_with fail
    refine (HD.out _ HT.out).mono ?_
    rintro en w1 ⟨v, rfl, hv, hb⟩
    obtain ⟨a, cap, rfl, hin⟩ := hv.wIn
    clear hv
    have HT1 := HT.out.below hb
    have hB1 := hb
    clear hb HD HT
    go_wp2_with fail
    go_loopw [6, 7, 8] (fun xs xa xi wr => ∃ i : Nat, i ≤ l.length ∧ xs = .string (ofT (catW (l.take i))) ∧ xa = .int .i64 (endAt 0 l i) ∧ xi = .int .i64 i ∧ WIn l a wr ∧ TabG wr ∧ Below w.heap.size w wr) (fun _ _ xi _ => l.length - (intOf xi).toNat)
    case atStart => exact ⟨0, Nat.zero_le _, rfl, by cases l <;> rfl, rfl, hin, HT1, hB1⟩
    case round =>
      clear hin HT1 hB1
      obtain ⟨i, hi, rfl, rfl, rfl, hin, hT, hB⟩ := hrel
      by_cases hlt : i < l.length
      · have hne : l ≠ [] := by rintro rfl; simp at hlt
        obtain ⟨g, rfl, hg, hc⟩ := hin hne
        have hd : decide ((i : Int) < (l.length : Int)) = true := by rw [decide_eq_true_iff]; omega
        have hd2 : decide (i < l.length) = true := by rw [decide_eq_true_iff]; omega
        obtain ⟨hpos, hfin, hokx⟩ := HAT.out i hlt
        have hes := endAt_succ l 0 i hlt
        have hct := cat_take l i hlt
        have htl := take_len l i HOK.out
        have hcx := hc i hlt
        have HIN := Lib.hid hin
        have HTx := Lib.hid hT
        have HBx := Lib.hid hB
        have HC := Lib.hid hc
        clear hin hT hB hc hne
        have hnp := next_print l[i] hokx
        have hbw := back_word l[i] hokx
        have hpl : (printW l[i]).length ≤ 800 := hbw.2.2.1
        clear hbw
        generalize l[i] = x at *
        obtain ⟨xk, xa, xf, xs, xn, xm⟩ := x
        simp only at hpos hfin hes
        subst hpos
        have HP : Hid (∀ w, TabG w → Calls Tryz.prog 15 #[.agg (woI xk (endAt 0 l i) xf xs xn xm)] w fun en w' => en = .returned (.string (ofT (printW ⟨xk, endAt 0 l i, xf, xs, xn, xm⟩))) ∧ Below w.heap.size w w') := Lib.hid (by
          have h := C.print xk (endAt 0 l i) xf xs xn xm
          rw [printV_I xk (endAt 0 l i) xf xs xn xm] at h
          exact h)
        have hN := C.next (ofT (printW ⟨xk, endAt 0 l i, xf, xs, xn, xm⟩)) (by rw [size_ofT]; omega) 0
        rw [hnp] at hN
        have hadd := addT (catW (l.take i)) (printW ⟨xk, endAt 0 l i, xf, xs, xn, xm⟩) (by omega)
        rw [← hct] at hadd
        have hpz : (ofT (printW ⟨xk, endAt 0 l i, xf, xs, xn, xm⟩)).size = (printW ⟨xk, endAt 0 l i, xf, xs, xn, xm⟩).length := size_ofT _
        clear hnp hct hpl htl
        rw [← hpz] at hN
        have HN : Hid (∀ w, TabG w → Calls Tryz.prog 8 #[.string (ofT (printW ⟨xk, endAt 0 l i, xf, xs, xn, xm⟩)), .int .i64 0] w fun en w' => en = .returned (.tuple #[.agg (woI xk 0 ((ofT (printW ⟨xk, endAt 0 l i, xf, xs, xn, xm⟩)).size) xs xn xm), .int .i64 0, .int .i64 0]) ∧ Below w.heap.size w w') := Lib.hid (by
          intro w' ht
          have h := hN w' ht
          simp only [atW, woA, Nat.zero_add] at h
          exact h)
        clear hN hpz
        generalize ofT (printW ⟨xk, endAt 0 l i, xf, xs, xn, xm⟩) = P at *
        generalize hS1 : ofT (catW (l.take (i + 1))) = S1 at *
        have HS1 := Lib.hid hS1
        clear hS1
        generalize ofT (catW (l.take i)) = S0 at *
        have HES := Lib.hid hes
        clear hes
        generalize endAt 0 l i = E0 at *
        have qf : decide ((xf : Int) ≤ (E0 : Int)) = false := by rw [decide_eq_false_iff_not]; omega
        have qf2 : decide (xf ≤ E0) = false := by rw [decide_eq_false_iff_not]; omega
        have heq := eq_setsame xs
        have HCX := Lib.hid hcx
        have c0 := hcx 0 (by decide); have c1 := hcx 1 (by decide); have c2 := hcx 2 (by decide); have c3 := hcx 3 (by decide); have c4 := hcx 4 (by decide); have c5 := hcx 5 (by decide); have c6 := hcx 6 (by decide); have c7 := hcx 7 (by decide); have c8 := hcx 8 (by decide)
        simp only [woA, List.getElem?_toArray, List.getElem?_cons_zero, List.getElem?_cons_succ, Nat.add_zero] at c0 c1 c2 c3 c4 c5 c6 c7 c8
        clear hcx hokx
        go_wp2_with fail
        refine (HP.out _ HTx.out).mono ?_
        rintro en w2 ⟨rfl, hb⟩
        have HIN2 := Lib.hid (HIN.out.below hb)
        have HT2 := Lib.hid (HTx.out.below hb)
        have HB2 := Lib.hid (HBx.out.trans (hb.mono HBx.out.size))
        have HCX2 : Hid (SWo g i ⟨xk, E0, xf, xs, xn, xm⟩ w2) := Lib.hid (fun j hj => (hb.cell (p := ⟨g, i * 9 + j, none⟩) hg).trans (HCX.out j hj))
        have hg2 := Nat.lt_of_lt_of_le hg hb.size
        clear hb HIN HTx HBx HP HCX hg HC c0 c1 c2 c3 c4 c5 c6 c7 c8
        go_wp2_with fail
        refine (HN.out _ HT2.out).mono ?_
        rintro en w3 ⟨rfl, hb⟩
        have HIN3 := HIN2.out.below hb
        have HT3 := HT2.out.below hb
        have HB3 := HB2.out.trans (hb.mono HB2.out.size)
        have HCX3 : SWo g i ⟨xk, E0, xf, xs, xn, xm⟩ w3 := fun j hj => (hb.cell (p := ⟨g, i * 9 + j, none⟩) hg2).trans (HCX2.out j hj)
        have hg3 := Nat.lt_of_lt_of_le hg2 hb.size
        clear hb HIN2 HT2 HB2 HN HCX2 hg2
        have hW := Blk.new w3 (woI xk 0 P.size xs xn xm) 27
        have HIN4 := Lib.hid (HIN3.alloc (.cells (woI xk 0 P.size xs xn xm) 27))
        have HT4 := Lib.hid (HT3.alloc (.cells (woI xk 0 P.size xs xn xm) 27))
        have HB4 := Lib.hid (HB3.alloc HB3.size (.cells (woI xk 0 P.size xs xn xm) 27))
        have HCX4 : SWo g i ⟨xk, E0, xf, xs, xn, xm⟩ (w3.alloc (.cells (woI xk 0 P.size xs xn xm) 27)) := fun j hj => (((Below.refl _ _).alloc (Nat.le_refl _) (.cells (woI xk 0 P.size xs xn xm) 27)).cell (p := ⟨g, i * 9 + j, none⟩) hg3).trans (HCX3 j hj)
        clear HIN3 HT3 HB3 HCX3 hg3
        go_wp2_with fail
        have e0 : w3.alloc (.cells #[.int .i64 xk, .int .i64 0, .int .i64 P.size, .int .u64 (wd xs 0), .int .u64 (wd xs 1), .int .u64 (wd xs 2), .int .u64 (wd xs 3), .int .i64 xn, .int .i64 xm] 27) = w3.alloc (.cells (woI xk 0 P.size xs xn xm) 27) := rfl
        try rw [e0]
        clear e0
        generalize w3.alloc (.cells (woI xk 0 P.size xs xn xm) 27) = w4 at *
        generalize w3.heap.size = B at *
        have h0 : SBk w4.drew g i ⟨xk, E0, xf, xs, xn, xm⟩ B (woI xk 0 P.size xs xn xm) w4.drew := ⟨HCX4, hW, rfl⟩
        refine region_steps (S := SBk w4.drew g i ⟨xk, E0, xf, xs, xn, xm⟩ B (woI xk 0 P.size xs xn xm)) (by kernel_rfl) h0 ?_
        clear h0 HCX4 hW
        simp only [List.size_toArray, List.length_cons, List.length_nil, Nat.reduceAdd, Array.replicate_succ, Array.replicate_zero, List.push_toArray, List.nil_append, List.cons_append]
        refine AnyS.stepE (i := 0) (d := some 73) rfl rfl (by kernel_rfl) (by kernel_rfl) (by kernel_rfl) ?_
        apply Exists.intro
        apply And.intro
        · apply StepsIf.yield
          · kernel_rfl
          intro w' hS
          clear hS; go_simp
          rfl
        intro a' ha'
        simp only [Act.put, List.setIfInBounds_toArray, List.set_cons_zero, List.set_cons_succ] at ha'
        subst ha'
        refine AnyS.next (i := 1) (d := some 74) (v := .bool false) rfl rfl (by kernel_rfl) (by kernel_rfl) (by kernel_rfl) (StepsIf.yield (by kernel_rfl) (fun w' hS => by clear hS; go_simp)) ?_
        intro a' ha'
        simp only [Act.put, List.setIfInBounds_toArray, List.set_cons_zero, List.set_cons_succ] at ha'
        subst ha'
        refine AnyS.next (i := 2) (d := some 75) (v := .bool false) rfl rfl (by kernel_rfl) (by kernel_rfl) (by kernel_rfl) (StepsIf.yield (by kernel_rfl) (fun w' hS => by clear hS; go_simp)) ?_
        intro a' ha'
        simp only [Act.put, List.setIfInBounds_toArray, List.set_cons_zero, List.set_cons_succ] at ha'
        subst ha'
        refine AnyS.next (i := 3) (d := some 76) (v := .pointer (some ⟨B, 0, none⟩)) rfl rfl (by kernel_rfl) (by kernel_rfl) (by kernel_rfl) (StepsIf.yield (by kernel_rfl) (fun w' hS => by clear hS; go_simp)) ?_
        intro a' ha'
        simp only [Act.put, List.setIfInBounds_toArray, List.set_cons_zero, List.set_cons_succ] at ha'
        subst ha'
        refine AnyS.next (i := 4) (d := some 77) (v := .int .i64 xk) rfl rfl (by kernel_rfl) (by kernel_rfl) (by kernel_rfl) (StepsIf.yield (by kernel_rfl) (fun w' hS => by have c0 := hS.2.1.cell 0; simp only [List.getElem?_toArray, List.getElem?_cons_zero] at c0; clear hS; go_simp)) ?_
        intro a' ha'
        simp only [Act.put, List.setIfInBounds_toArray, List.set_cons_zero, List.set_cons_succ] at ha'
        subst ha'
        refine AnyS.stepE (i := 5) (d := some 78) rfl rfl (by kernel_rfl) (by kernel_rfl) (by kernel_rfl) ?_
        apply Exists.intro
        apply And.intro
        · apply StepsIf.yield
          · kernel_rfl
          intro w' hS
          clear hS; go_simp
          rfl
        intro a' ha'
        simp only [Act.put, List.setIfInBounds_toArray, List.set_cons_zero, List.set_cons_succ] at ha'
        subst ha'
        refine AnyS.stepE (i := 6) (d := some 79) rfl rfl (by kernel_rfl) (by kernel_rfl) (by kernel_rfl) ?_
        apply Exists.intro
        apply And.intro
        · apply StepsIf.yield
          · kernel_rfl
          intro w' hS
          clear hS; go_simp
          rfl
        intro a' ha'
        simp only [Act.put, List.setIfInBounds_toArray, List.set_cons_zero, List.set_cons_succ] at ha'
        subst ha'
        refine AnyS.next (i := 7) (d := some 80) (v := .pointer (some ⟨g, i * 9, none⟩)) rfl rfl (by kernel_rfl) (by kernel_rfl) (by kernel_rfl) (StepsIf.yield (by kernel_rfl) (fun w' hS => by clear hS; go_simp)) ?_
        intro a' ha'
        simp only [Act.put, List.setIfInBounds_toArray, List.set_cons_zero, List.set_cons_succ] at ha'
        subst ha'
        refine AnyS.next (i := 8) (d := some 81) (v := .pointer (some ⟨g, i * 9, none⟩)) rfl rfl (by kernel_rfl) (by kernel_rfl) (by kernel_rfl) (StepsIf.yield (by kernel_rfl) (fun w' hS => by clear hS; go_simp)) ?_
        intro a' ha'
        simp only [Act.put, List.setIfInBounds_toArray, List.set_cons_zero, List.set_cons_succ] at ha'
        subst ha'
        refine AnyS.next (i := 9) (d := some 82) (v := .int .i64 xk) rfl rfl (by kernel_rfl) (by kernel_rfl) (by kernel_rfl) (StepsIf.yield (by kernel_rfl) (fun w' hS => by have c0 := hS.1 0 (by decide); simp only [woA, List.getElem?_toArray, List.getElem?_cons_zero, Nat.add_zero] at c0; clear hS; go_simp)) ?_
        intro a' ha'
        simp only [Act.put, List.setIfInBounds_toArray, List.set_cons_zero, List.set_cons_succ] at ha'
        subst ha'
        refine AnyS.next (i := 10) (d := some 83) (v := .bool false) rfl rfl (by kernel_rfl) (by kernel_rfl) (by kernel_rfl) (StepsIf.yield (by kernel_rfl) (fun w' hS => by clear hS; go_simp)) ?_
        intro a' ha'
        simp only [Act.put, List.setIfInBounds_toArray, List.set_cons_zero, List.set_cons_succ] at ha'
        subst ha'
        refine AnyS.next (i := 11) (d := some 84) (v := .bool false) rfl rfl (by kernel_rfl) (by kernel_rfl) (by kernel_rfl) (StepsIf.yield (by kernel_rfl) (fun w' hS => by clear hS; go_simp)) ?_
        intro a' ha'
        simp only [Act.put, List.setIfInBounds_toArray, List.set_cons_zero, List.set_cons_succ] at ha'
        subst ha'
        refine AnyS.next (i := 12) (d := some 85) (v := .bool false) rfl rfl (by kernel_rfl) (by kernel_rfl) (by kernel_rfl) (StepsIf.yield (by kernel_rfl) (fun w' hS => by clear hS; go_simp)) ?_
        intro a' ha'
        simp only [Act.put, List.setIfInBounds_toArray, List.set_cons_zero, List.set_cons_succ] at ha'
        subst ha'
        refine AnyS.next (i := 13) (d := some 86) (v := .pointer (some ⟨B, 3, none⟩)) rfl rfl (by kernel_rfl) (by kernel_rfl) (by kernel_rfl) (StepsIf.yield (by kernel_rfl) (fun w' hS => by clear hS; go_simp)) ?_
        intro a' ha'
        simp only [Act.put, List.setIfInBounds_toArray, List.set_cons_zero, List.set_cons_succ] at ha'
        subst ha'
        refine AnyS.next (i := 14) (d := some 87) (v := setV xs) rfl rfl (by kernel_rfl) (by kernel_rfl) (by kernel_rfl) (StepsIf.yield (by kernel_rfl) (fun w' hS => by have c3 := hS.2.1.cell 3; have c4 := hS.2.1.cell 4; have c5 := hS.2.1.cell 5; have c6 := hS.2.1.cell 6; simp only [List.getElem?_toArray, List.getElem?_cons_zero, List.getElem?_cons_succ] at c3 c4 c5 c6; clear hS; go_simp)) ?_
        intro a' ha'
        simp only [Act.put, List.setIfInBounds_toArray, List.set_cons_zero, List.set_cons_succ] at ha'
        subst ha'
        refine AnyS.stepE (i := 15) (d := some 88) rfl rfl (by kernel_rfl) (by kernel_rfl) (by kernel_rfl) ?_
        apply Exists.intro
        apply And.intro
        · apply StepsIf.yield
          · kernel_rfl
          intro w' hS
          clear hS; go_simp
          rfl
        intro a' ha'
        simp only [Act.put, List.setIfInBounds_toArray, List.set_cons_zero, List.set_cons_succ] at ha'
        subst ha'
        refine AnyS.stepE (i := 16) (d := some 89) rfl rfl (by kernel_rfl) (by kernel_rfl) (by kernel_rfl) ?_
        apply Exists.intro
        apply And.intro
        · apply StepsIf.yield
          · kernel_rfl
          intro w' hS
          clear hS; go_simp
          rfl
        intro a' ha'
        simp only [Act.put, List.setIfInBounds_toArray, List.set_cons_zero, List.set_cons_succ] at ha'
        subst ha'
        refine AnyS.next (i := 17) (d := some 90) (v := .pointer (some ⟨g, i * 9, none⟩)) rfl rfl (by kernel_rfl) (by kernel_rfl) (by kernel_rfl) (StepsIf.yield (by kernel_rfl) (fun w' hS => by clear hS; go_simp)) ?_
        intro a' ha'
        simp only [Act.put, List.setIfInBounds_toArray, List.set_cons_zero, List.set_cons_succ] at ha'
        subst ha'
        refine AnyS.next (i := 18) (d := some 91) (v := .pointer (some ⟨g, i * 9 + 3, none⟩)) rfl rfl (by kernel_rfl) (by kernel_rfl) (by kernel_rfl) (StepsIf.yield (by kernel_rfl) (fun w' hS => by clear hS; go_simp)) ?_
        intro a' ha'
        simp only [Act.put, List.setIfInBounds_toArray, List.set_cons_zero, List.set_cons_succ] at ha'
        subst ha'
        refine AnyS.next (i := 19) (d := some 92) (v := setV xs) rfl rfl (by kernel_rfl) (by kernel_rfl) (by kernel_rfl) (StepsIf.yield (by kernel_rfl) (fun w' hS => by have c3 := hS.1 3 (by decide); have c4 := hS.1 4 (by decide); have c5 := hS.1 5 (by decide); have c6 := hS.1 6 (by decide); simp only [woA, List.getElem?_toArray, List.getElem?_cons_zero, List.getElem?_cons_succ] at c3 c4 c5 c6; clear hS; go_simp)) ?_
        intro a' ha'
        simp only [Act.put, List.setIfInBounds_toArray, List.set_cons_zero, List.set_cons_succ] at ha'
        subst ha'
        refine AnyS.next (i := 20) (d := some 93) (v := .bool false) rfl rfl (by kernel_rfl) (by kernel_rfl) (by kernel_rfl) (StepsIf.yield (by kernel_rfl) (fun w' hS => by clear hS; go_simp)) ?_
        intro a' ha'
        simp only [Act.put, List.setIfInBounds_toArray, List.set_cons_zero, List.set_cons_succ] at ha'
        subst ha'
        refine AnyS.next (i := 21) (d := some 94) (v := .bool false) rfl rfl (by kernel_rfl) (by kernel_rfl) (by kernel_rfl) (StepsIf.yield (by kernel_rfl) (fun w' hS => by clear hS; go_simp)) ?_
        intro a' ha'
        simp only [Act.put, List.setIfInBounds_toArray, List.set_cons_zero, List.set_cons_succ] at ha'
        subst ha'
        refine AnyS.next (i := 22) (d := some 95) (v := .bool false) rfl rfl (by kernel_rfl) (by kernel_rfl) (by kernel_rfl) (StepsIf.yield (by kernel_rfl) (fun w' hS => by clear hS; go_simp)) ?_
        intro a' ha'
        simp only [Act.put, List.setIfInBounds_toArray, List.set_cons_zero, List.set_cons_succ] at ha'
        subst ha'
        refine AnyS.next (i := 23) (d := some 96) (v := .pointer (some ⟨B, 7, none⟩)) rfl rfl (by kernel_rfl) (by kernel_rfl) (by kernel_rfl) (StepsIf.yield (by kernel_rfl) (fun w' hS => by clear hS; go_simp)) ?_
        intro a' ha'
        simp only [Act.put, List.setIfInBounds_toArray, List.set_cons_zero, List.set_cons_succ] at ha'
        subst ha'
        refine AnyS.next (i := 24) (d := some 97) (v := .int .i64 xn) rfl rfl (by kernel_rfl) (by kernel_rfl) (by kernel_rfl) (StepsIf.yield (by kernel_rfl) (fun w' hS => by have c7 := hS.2.1.cell 7; simp only [List.getElem?_toArray, List.getElem?_cons_zero, List.getElem?_cons_succ] at c7; clear hS; go_simp)) ?_
        intro a' ha'
        simp only [Act.put, List.setIfInBounds_toArray, List.set_cons_zero, List.set_cons_succ] at ha'
        subst ha'
        refine AnyS.stepE (i := 25) (d := some 98) rfl rfl (by kernel_rfl) (by kernel_rfl) (by kernel_rfl) ?_
        apply Exists.intro
        apply And.intro
        · apply StepsIf.yield
          · kernel_rfl
          intro w' hS
          clear hS; go_simp
          rfl
        intro a' ha'
        simp only [Act.put, List.setIfInBounds_toArray, List.set_cons_zero, List.set_cons_succ] at ha'
        subst ha'
        refine AnyS.stepE (i := 26) (d := some 99) rfl rfl (by kernel_rfl) (by kernel_rfl) (by kernel_rfl) ?_
        apply Exists.intro
        apply And.intro
        · apply StepsIf.yield
          · kernel_rfl
          intro w' hS
          clear hS; go_simp
          rfl
        intro a' ha'
        simp only [Act.put, List.setIfInBounds_toArray, List.set_cons_zero, List.set_cons_succ] at ha'
        subst ha'
        refine AnyS.next (i := 27) (d := some 100) (v := .pointer (some ⟨g, i * 9, none⟩)) rfl rfl (by kernel_rfl) (by kernel_rfl) (by kernel_rfl) (StepsIf.yield (by kernel_rfl) (fun w' hS => by clear hS; go_simp)) ?_
        intro a' ha'
        simp only [Act.put, List.setIfInBounds_toArray, List.set_cons_zero, List.set_cons_succ] at ha'
        subst ha'
        refine AnyS.next (i := 28) (d := some 101) (v := .pointer (some ⟨g, i * 9 + 7, none⟩)) rfl rfl (by kernel_rfl) (by kernel_rfl) (by kernel_rfl) (StepsIf.yield (by kernel_rfl) (fun w' hS => by clear hS; go_simp)) ?_
        intro a' ha'
        simp only [Act.put, List.setIfInBounds_toArray, List.set_cons_zero, List.set_cons_succ] at ha'
        subst ha'
        refine AnyS.next (i := 29) (d := some 102) (v := .int .i64 xn) rfl rfl (by kernel_rfl) (by kernel_rfl) (by kernel_rfl) (StepsIf.yield (by kernel_rfl) (fun w' hS => by have c7 := hS.1 7 (by decide); simp only [woA, List.getElem?_toArray, List.getElem?_cons_zero, List.getElem?_cons_succ] at c7; clear hS; go_simp)) ?_
        intro a' ha'
        simp only [Act.put, List.setIfInBounds_toArray, List.set_cons_zero, List.set_cons_succ] at ha'
        subst ha'
        refine AnyS.next (i := 30) (d := some 103) (v := .bool false) rfl rfl (by kernel_rfl) (by kernel_rfl) (by kernel_rfl) (StepsIf.yield (by kernel_rfl) (fun w' hS => by clear hS; go_simp)) ?_
        intro a' ha'
        simp only [Act.put, List.setIfInBounds_toArray, List.set_cons_zero, List.set_cons_succ] at ha'
        subst ha'
        refine AnyS.next (i := 31) (d := some 104) (v := .bool false) rfl rfl (by kernel_rfl) (by kernel_rfl) (by kernel_rfl) (StepsIf.yield (by kernel_rfl) (fun w' hS => by clear hS; go_simp)) ?_
        intro a' ha'
        simp only [Act.put, List.setIfInBounds_toArray, List.set_cons_zero, List.set_cons_succ] at ha'
        subst ha'
        refine AnyS.next (i := 32) (d := some 105) (v := .bool false) rfl rfl (by kernel_rfl) (by kernel_rfl) (by kernel_rfl) (StepsIf.yield (by kernel_rfl) (fun w' hS => by clear hS; go_simp)) ?_
        intro a' ha'
        simp only [Act.put, List.setIfInBounds_toArray, List.set_cons_zero, List.set_cons_succ] at ha'
        subst ha'
        refine AnyS.next (i := 33) (d := some 106) (v := .pointer (some ⟨B, 8, none⟩)) rfl rfl (by kernel_rfl) (by kernel_rfl) (by kernel_rfl) (StepsIf.yield (by kernel_rfl) (fun w' hS => by clear hS; go_simp)) ?_
        intro a' ha'
        simp only [Act.put, List.setIfInBounds_toArray, List.set_cons_zero, List.set_cons_succ] at ha'
        subst ha'
        refine AnyS.next (i := 34) (d := some 107) (v := .int .i64 xm) rfl rfl (by kernel_rfl) (by kernel_rfl) (by kernel_rfl) (StepsIf.yield (by kernel_rfl) (fun w' hS => by have c8 := hS.2.1.cell 8; simp only [List.getElem?_toArray, List.getElem?_cons_zero, List.getElem?_cons_succ] at c8; clear hS; go_simp)) ?_
        intro a' ha'
        simp only [Act.put, List.setIfInBounds_toArray, List.set_cons_zero, List.set_cons_succ] at ha'
        subst ha'
        refine AnyS.stepE (i := 35) (d := some 108) rfl rfl (by kernel_rfl) (by kernel_rfl) (by kernel_rfl) ?_
        apply Exists.intro
        apply And.intro
        · apply StepsIf.yield
          · kernel_rfl
          intro w' hS
          clear hS; go_simp
          rfl
        intro a' ha'
        simp only [Act.put, List.setIfInBounds_toArray, List.set_cons_zero, List.set_cons_succ] at ha'
        subst ha'
        refine AnyS.stepE (i := 36) (d := some 109) rfl rfl (by kernel_rfl) (by kernel_rfl) (by kernel_rfl) ?_
        apply Exists.intro
        apply And.intro
        · apply StepsIf.yield
          · kernel_rfl
          intro w' hS
          clear hS; go_simp
          rfl
        intro a' ha'
        simp only [Act.put, List.setIfInBounds_toArray, List.set_cons_zero, List.set_cons_succ] at ha'
        subst ha'
        refine AnyS.next (i := 37) (d := some 110) (v := .pointer (some ⟨g, i * 9, none⟩)) rfl rfl (by kernel_rfl) (by kernel_rfl) (by kernel_rfl) (StepsIf.yield (by kernel_rfl) (fun w' hS => by clear hS; go_simp)) ?_
        intro a' ha'
        simp only [Act.put, List.setIfInBounds_toArray, List.set_cons_zero, List.set_cons_succ] at ha'
        subst ha'
        refine AnyS.next (i := 38) (d := some 111) (v := .pointer (some ⟨g, i * 9 + 8, none⟩)) rfl rfl (by kernel_rfl) (by kernel_rfl) (by kernel_rfl) (StepsIf.yield (by kernel_rfl) (fun w' hS => by clear hS; go_simp)) ?_
        intro a' ha'
        simp only [Act.put, List.setIfInBounds_toArray, List.set_cons_zero, List.set_cons_succ] at ha'
        subst ha'
        refine AnyS.next (i := 39) (d := some 112) (v := .int .i64 xm) rfl rfl (by kernel_rfl) (by kernel_rfl) (by kernel_rfl) (StepsIf.yield (by kernel_rfl) (fun w' hS => by have c8 := hS.1 8 (by decide); simp only [woA, List.getElem?_toArray, List.getElem?_cons_zero, List.getElem?_cons_succ] at c8; clear hS; go_simp)) ?_
        intro a' ha'
        simp only [Act.put, List.setIfInBounds_toArray, List.set_cons_zero, List.set_cons_succ] at ha'
        subst ha'
        refine AnyS.next (i := 40) (d := some 113) (v := .bool false) rfl rfl (by kernel_rfl) (by kernel_rfl) (by kernel_rfl) (StepsIf.yield (by kernel_rfl) (fun w' hS => by clear hS; go_simp)) ?_
        intro a' ha'
        simp only [Act.put, List.setIfInBounds_toArray, List.set_cons_zero, List.set_cons_succ] at ha'
        subst ha'
        refine AnyS.next (i := 41) (d := some 114) (v := .bool false) rfl rfl (by kernel_rfl) (by kernel_rfl) (by kernel_rfl) (StepsIf.yield (by kernel_rfl) (fun w' hS => by clear hS; go_simp)) ?_
        intro a' ha'
        simp only [Act.put, List.setIfInBounds_toArray, List.set_cons_zero, List.set_cons_succ] at ha'
        subst ha'
        refine AnyS.next (i := 42) (d := some 115) (v := .bool false) rfl rfl (by kernel_rfl) (by kernel_rfl) (by kernel_rfl) (StepsIf.yield (by kernel_rfl) (fun w' hS => by clear hS; go_simp)) ?_
        intro a' ha'
        simp only [Act.put, List.setIfInBounds_toArray, List.set_cons_zero, List.set_cons_succ] at ha'
        subst ha'
        refine AnyS.next (i := 43) (d := some 116) (v := .pointer (some ⟨B, 2, none⟩)) rfl rfl (by kernel_rfl) (by kernel_rfl) (by kernel_rfl) (StepsIf.yield (by kernel_rfl) (fun w' hS => by clear hS; go_simp)) ?_
        intro a' ha'
        simp only [Act.put, List.setIfInBounds_toArray, List.set_cons_zero, List.set_cons_succ] at ha'
        subst ha'
        refine AnyS.next (i := 44) (d := some 117) (v := .int .i64 P.size) rfl rfl (by kernel_rfl) (by kernel_rfl) (by kernel_rfl) (StepsIf.yield (by kernel_rfl) (fun w' hS => by have c2 := hS.2.1.cell 2; simp only [List.getElem?_toArray, List.getElem?_cons_zero, List.getElem?_cons_succ] at c2; clear hS; go_simp)) ?_
        intro a' ha'
        simp only [Act.put, List.setIfInBounds_toArray, List.set_cons_zero, List.set_cons_succ] at ha'
        subst ha'
        refine AnyS.stepE (i := 45) (d := some 118) rfl rfl (by kernel_rfl) (by kernel_rfl) (by kernel_rfl) ?_
        apply Exists.intro
        apply And.intro
        · apply StepsIf.yield
          · kernel_rfl
          intro w' hS
          clear hS; go_simp
          rfl
        intro a' ha'
        simp only [Act.put, List.setIfInBounds_toArray, List.set_cons_zero, List.set_cons_succ] at ha'
        subst ha'
        refine AnyS.next (i := 46) (d := some 119) (v := .int .i64 P.size) rfl rfl (by kernel_rfl) (by kernel_rfl) (by kernel_rfl) (StepsIf.yield (by kernel_rfl) (fun w' hS => by clear hS; go_simp)) ?_
        intro a' ha'
        simp only [Act.put, List.setIfInBounds_toArray, List.set_cons_zero, List.set_cons_succ] at ha'
        subst ha'
        refine AnyS.next (i := 47) (d := some 120) (v := .bool false) rfl rfl (by kernel_rfl) (by kernel_rfl) (by kernel_rfl) (StepsIf.yield (by kernel_rfl) (fun w' hS => by clear hS; go_simp)) ?_
        intro a' ha'
        simp only [Act.put, List.setIfInBounds_toArray, List.set_cons_zero, List.set_cons_succ] at ha'
        subst ha'
        refine AnyS.next (i := 48) (d := some 121) (v := .bool false) rfl rfl (by kernel_rfl) (by kernel_rfl) (by kernel_rfl) (StepsIf.yield (by kernel_rfl) (fun w' hS => by clear hS; go_simp)) ?_
        intro a' ha'
        simp only [Act.put, List.setIfInBounds_toArray, List.set_cons_zero, List.set_cons_succ] at ha'
        subst ha'
        refine AnyS.done (by kernel_rfl) (fun w6 hS => ?_) _
        obtain ⟨_, _, rfl⟩ := hS
        clear heq
        go_wp2_with fail
        go_roundw
        case rel => exact ⟨i + 1, by omega, by rw [HS1.out], by rw [HES.out], by simp, HIN4.out.drew, HT4.out.drew, HB4.out.drew⟩
        case measure => simp [intOf]; omega
      · obtain rfl : i = l.length := by omega
        have hd : decide ((l.length : Int) < (l.length : Int)) = false := by simp
        rw [List.take_length, HEND.out]
        have HIN := Lib.hid hin
        have HT := Lib.hid hT
        have HB := Lib.hid hB
        clear hin hT hB HAT HEND HOK hlt
        generalize ofT (catW l) = S at *
        go_wp2_with fail
        refine (HA2.out _ HT.out).mono ?_
        rintro en w2 ⟨v2, rfl, hv2, hb⟩
        obtain ⟨a2, cap2, rfl, hin2⟩ := hv2.wIn
        clear hv2
        have HT2 := HT.out.below hb
        have hB2 := HB.out.trans (hb.mono HB.out.size)
        have hin1 := HIN.out.below hb
        clear hb HT HB HIN HA2
        have hll := HLL.out
        rw [hll]
        generalize hY : layW 0 l = L2 at *
        clear hY
        go_wp2_with fail
        go_loopw [16] (fun xi wr => ∃ i : Nat, i ≤ l.length ∧ xi = .int .i64 i ∧ WIn l a wr ∧ WIn L2 a2 wr ∧ TabG wr ∧ Below w.heap.size w wr) (fun xi _ => l.length - (intOf xi).toNat)
        case atStart => exact ⟨0, Nat.zero_le _, rfl, hin1, hin2, HT2, hB2⟩
        case round =>
          clear hin1 hin2 HT2 hB2
          obtain ⟨i, hi, rfl, hin1, hin2, hT, hB⟩ := hrel
          by_cases hlt : i < l.length
          · have hne : l ≠ [] := by rintro rfl; simp at hlt
            have hne2 : L2 ≠ [] := by rintro rfl; simp at hll; omega
            obtain ⟨g1, rfl, hg1, p1⟩ := hin1 hne
            obtain ⟨g2, rfl, hg2, p2⟩ := hin2 hne2
            have hd : decide ((i : Int) < (l.length : Int)) = true := by rw [decide_eq_true_iff]; omega
            have hd2 : decide (i < l.length) = true := by rw [decide_eq_true_iff]; omega
            obtain ⟨q1, r1, hq⟩ := HLAT.out i hlt (by omega)
            have s1 := p1 i hlt
            have s2 := p2 i (by omega)
            rw [hq] at s2
            have HIN1 := Lib.hid hin1
            have HIN2 := Lib.hid hin2
            have HT := Lib.hid hT
            have HB := Lib.hid hB
            clear hin1 hin2 hT hB hne hne2 p1 p2 hg1 hg2 hq
            generalize l[i] = x at *
            obtain ⟨xk, xa, xf, xs, xn, xm⟩ := x
            replace s2 : SWo g2 i ⟨xk, q1, q1 + r1, xs, xn, xm⟩ wr := s2
            have heq := eq_setsame xs
            have h0 : SBl wr.drew g1 i ⟨xk, xa, xf, xs, xn, xm⟩ g2 ⟨xk, q1, q1 + r1, xs, xn, xm⟩ wr.drew := ⟨s1, s2, rfl⟩
            clear s1 s2
            have HLL2 := Lib.hid hll
            clear hll
            go_wp2_with fail
            refine region_steps (S := SBl wr.drew g1 i ⟨xk, xa, xf, xs, xn, xm⟩ g2 ⟨xk, q1, q1 + r1, xs, xn, xm⟩) (by kernel_rfl) h0 ?_
            clear h0
            simp only [List.size_toArray, List.length_cons, List.length_nil, Nat.reduceAdd, Array.replicate_succ, Array.replicate_zero, List.push_toArray, List.nil_append, List.cons_append]
            refine AnyS.stepE (i := 0) (d := some 152) rfl rfl (by kernel_rfl) (by kernel_rfl) (by kernel_rfl) ?_
            apply Exists.intro
            apply And.intro
            · apply StepsIf.yield
              · kernel_rfl
              intro w' hS
              clear hS; go_simp
              rfl
            intro a' ha'
            simp only [Act.put, List.setIfInBounds_toArray, List.set_cons_zero, List.set_cons_succ] at ha'
            subst ha'
            refine AnyS.stepE (i := 1) (d := some 153) rfl rfl (by kernel_rfl) (by kernel_rfl) (by kernel_rfl) ?_
            apply Exists.intro
            apply And.intro
            · apply StepsIf.yield
              · kernel_rfl
              intro w' hS
              clear hS; go_simp
              rfl
            intro a' ha'
            simp only [Act.put, List.setIfInBounds_toArray, List.set_cons_zero, List.set_cons_succ] at ha'
            subst ha'
            refine AnyS.next (i := 2) (d := some 154) (v := .pointer (some ⟨g2, i * 9, none⟩)) rfl rfl (by kernel_rfl) (by kernel_rfl) (by kernel_rfl) (StepsIf.yield (by kernel_rfl) (fun w' hS => by clear hS; go_simp)) ?_
            intro a' ha'
            simp only [Act.put, List.setIfInBounds_toArray, List.set_cons_zero, List.set_cons_succ] at ha'
            subst ha'
            refine AnyS.next (i := 3) (d := some 155) (v := .pointer (some ⟨g2, i * 9, none⟩)) rfl rfl (by kernel_rfl) (by kernel_rfl) (by kernel_rfl) (StepsIf.yield (by kernel_rfl) (fun w' hS => by clear hS; go_simp)) ?_
            intro a' ha'
            simp only [Act.put, List.setIfInBounds_toArray, List.set_cons_zero, List.set_cons_succ] at ha'
            subst ha'
            refine AnyS.next (i := 4) (d := some 156) (v := .int .i64 xk) rfl rfl (by kernel_rfl) (by kernel_rfl) (by kernel_rfl) (StepsIf.yield (by kernel_rfl) (fun w' hS => by have c0 := hS.2.1 0 (by decide); simp only [woA, List.getElem?_toArray, List.getElem?_cons_zero, Nat.add_zero] at c0; clear hS; go_simp)) ?_
            intro a' ha'
            simp only [Act.put, List.setIfInBounds_toArray, List.set_cons_zero, List.set_cons_succ] at ha'
            subst ha'
            refine AnyS.stepE (i := 5) (d := some 157) rfl rfl (by kernel_rfl) (by kernel_rfl) (by kernel_rfl) ?_
            apply Exists.intro
            apply And.intro
            · apply StepsIf.yield
              · kernel_rfl
              intro w' hS
              clear hS; go_simp
              rfl
            intro a' ha'
            simp only [Act.put, List.setIfInBounds_toArray, List.set_cons_zero, List.set_cons_succ] at ha'
            subst ha'
            refine AnyS.stepE (i := 6) (d := some 158) rfl rfl (by kernel_rfl) (by kernel_rfl) (by kernel_rfl) ?_
            apply Exists.intro
            apply And.intro
            · apply StepsIf.yield
              · kernel_rfl
              intro w' hS
              clear hS; go_simp
              rfl
            intro a' ha'
            simp only [Act.put, List.setIfInBounds_toArray, List.set_cons_zero, List.set_cons_succ] at ha'
            subst ha'
            refine AnyS.next (i := 7) (d := some 159) (v := .pointer (some ⟨g1, i * 9, none⟩)) rfl rfl (by kernel_rfl) (by kernel_rfl) (by kernel_rfl) (StepsIf.yield (by kernel_rfl) (fun w' hS => by clear hS; go_simp)) ?_
            intro a' ha'
            simp only [Act.put, List.setIfInBounds_toArray, List.set_cons_zero, List.set_cons_succ] at ha'
            subst ha'
            refine AnyS.next (i := 8) (d := some 160) (v := .pointer (some ⟨g1, i * 9, none⟩)) rfl rfl (by kernel_rfl) (by kernel_rfl) (by kernel_rfl) (StepsIf.yield (by kernel_rfl) (fun w' hS => by clear hS; go_simp)) ?_
            intro a' ha'
            simp only [Act.put, List.setIfInBounds_toArray, List.set_cons_zero, List.set_cons_succ] at ha'
            subst ha'
            refine AnyS.next (i := 9) (d := some 161) (v := .int .i64 xk) rfl rfl (by kernel_rfl) (by kernel_rfl) (by kernel_rfl) (StepsIf.yield (by kernel_rfl) (fun w' hS => by have c0 := hS.1 0 (by decide); simp only [woA, List.getElem?_toArray, List.getElem?_cons_zero, Nat.add_zero] at c0; clear hS; go_simp)) ?_
            intro a' ha'
            simp only [Act.put, List.setIfInBounds_toArray, List.set_cons_zero, List.set_cons_succ] at ha'
            subst ha'
            refine AnyS.next (i := 10) (d := some 162) (v := .bool false) rfl rfl (by kernel_rfl) (by kernel_rfl) (by kernel_rfl) (StepsIf.yield (by kernel_rfl) (fun w' hS => by clear hS; go_simp)) ?_
            intro a' ha'
            simp only [Act.put, List.setIfInBounds_toArray, List.set_cons_zero, List.set_cons_succ] at ha'
            subst ha'
            refine AnyS.next (i := 11) (d := some 163) (v := .bool false) rfl rfl (by kernel_rfl) (by kernel_rfl) (by kernel_rfl) (StepsIf.yield (by kernel_rfl) (fun w' hS => by clear hS; go_simp)) ?_
            intro a' ha'
            simp only [Act.put, List.setIfInBounds_toArray, List.set_cons_zero, List.set_cons_succ] at ha'
            subst ha'
            refine AnyS.stepE (i := 12) (d := some 164) rfl rfl (by kernel_rfl) (by kernel_rfl) (by kernel_rfl) ?_
            apply Exists.intro
            apply And.intro
            · apply StepsIf.yield
              · kernel_rfl
              intro w' hS
              clear hS; go_simp
              rfl
            intro a' ha'
            simp only [Act.put, List.setIfInBounds_toArray, List.set_cons_zero, List.set_cons_succ] at ha'
            subst ha'
            refine AnyS.stepE (i := 13) (d := some 165) rfl rfl (by kernel_rfl) (by kernel_rfl) (by kernel_rfl) ?_
            apply Exists.intro
            apply And.intro
            · apply StepsIf.yield
              · kernel_rfl
              intro w' hS
              clear hS; go_simp
              rfl
            intro a' ha'
            simp only [Act.put, List.setIfInBounds_toArray, List.set_cons_zero, List.set_cons_succ] at ha'
            subst ha'
            refine AnyS.next (i := 14) (d := some 166) (v := .pointer (some ⟨g2, i * 9, none⟩)) rfl rfl (by kernel_rfl) (by kernel_rfl) (by kernel_rfl) (StepsIf.yield (by kernel_rfl) (fun w' hS => by clear hS; go_simp)) ?_
            intro a' ha'
            simp only [Act.put, List.setIfInBounds_toArray, List.set_cons_zero, List.set_cons_succ] at ha'
            subst ha'
            refine AnyS.next (i := 15) (d := some 167) (v := .pointer (some ⟨g2, i * 9 + 3, none⟩)) rfl rfl (by kernel_rfl) (by kernel_rfl) (by kernel_rfl) (StepsIf.yield (by kernel_rfl) (fun w' hS => by clear hS; go_simp)) ?_
            intro a' ha'
            simp only [Act.put, List.setIfInBounds_toArray, List.set_cons_zero, List.set_cons_succ] at ha'
            subst ha'
            refine AnyS.next (i := 16) (d := some 168) (v := setV xs) rfl rfl (by kernel_rfl) (by kernel_rfl) (by kernel_rfl) (StepsIf.yield (by kernel_rfl) (fun w' hS => by have c3 := hS.2.1 3 (by decide); have c4 := hS.2.1 4 (by decide); have c5 := hS.2.1 5 (by decide); have c6 := hS.2.1 6 (by decide); simp only [woA, List.getElem?_toArray, List.getElem?_cons_zero, List.getElem?_cons_succ] at c3 c4 c5 c6; clear hS; go_simp)) ?_
            intro a' ha'
            simp only [Act.put, List.setIfInBounds_toArray, List.set_cons_zero, List.set_cons_succ] at ha'
            subst ha'
            refine AnyS.stepE (i := 17) (d := some 169) rfl rfl (by kernel_rfl) (by kernel_rfl) (by kernel_rfl) ?_
            apply Exists.intro
            apply And.intro
            · apply StepsIf.yield
              · kernel_rfl
              intro w' hS
              clear hS; go_simp
              rfl
            intro a' ha'
            simp only [Act.put, List.setIfInBounds_toArray, List.set_cons_zero, List.set_cons_succ] at ha'
            subst ha'
            refine AnyS.stepE (i := 18) (d := some 170) rfl rfl (by kernel_rfl) (by kernel_rfl) (by kernel_rfl) ?_
            apply Exists.intro
            apply And.intro
            · apply StepsIf.yield
              · kernel_rfl
              intro w' hS
              clear hS; go_simp
              rfl
            intro a' ha'
            simp only [Act.put, List.setIfInBounds_toArray, List.set_cons_zero, List.set_cons_succ] at ha'
            subst ha'
            refine AnyS.next (i := 19) (d := some 171) (v := .pointer (some ⟨g1, i * 9, none⟩)) rfl rfl (by kernel_rfl) (by kernel_rfl) (by kernel_rfl) (StepsIf.yield (by kernel_rfl) (fun w' hS => by clear hS; go_simp)) ?_
            intro a' ha'
            simp only [Act.put, List.setIfInBounds_toArray, List.set_cons_zero, List.set_cons_succ] at ha'
            subst ha'
            refine AnyS.next (i := 20) (d := some 172) (v := .pointer (some ⟨g1, i * 9 + 3, none⟩)) rfl rfl (by kernel_rfl) (by kernel_rfl) (by kernel_rfl) (StepsIf.yield (by kernel_rfl) (fun w' hS => by clear hS; go_simp)) ?_
            intro a' ha'
            simp only [Act.put, List.setIfInBounds_toArray, List.set_cons_zero, List.set_cons_succ] at ha'
            subst ha'
            refine AnyS.next (i := 21) (d := some 173) (v := setV xs) rfl rfl (by kernel_rfl) (by kernel_rfl) (by kernel_rfl) (StepsIf.yield (by kernel_rfl) (fun w' hS => by have c3 := hS.1 3 (by decide); have c4 := hS.1 4 (by decide); have c5 := hS.1 5 (by decide); have c6 := hS.1 6 (by decide); simp only [woA, List.getElem?_toArray, List.getElem?_cons_zero, List.getElem?_cons_succ] at c3 c4 c5 c6; clear hS; go_simp)) ?_
            intro a' ha'
            simp only [Act.put, List.setIfInBounds_toArray, List.set_cons_zero, List.set_cons_succ] at ha'
            subst ha'
            refine AnyS.next (i := 22) (d := some 174) (v := .bool false) rfl rfl (by kernel_rfl) (by kernel_rfl) (by kernel_rfl) (StepsIf.yield (by kernel_rfl) (fun w' hS => by clear hS; go_simp)) ?_
            intro a' ha'
            simp only [Act.put, List.setIfInBounds_toArray, List.set_cons_zero, List.set_cons_succ] at ha'
            subst ha'
            refine AnyS.next (i := 23) (d := some 175) (v := .bool false) rfl rfl (by kernel_rfl) (by kernel_rfl) (by kernel_rfl) (StepsIf.yield (by kernel_rfl) (fun w' hS => by clear hS; go_simp)) ?_
            intro a' ha'
            simp only [Act.put, List.setIfInBounds_toArray, List.set_cons_zero, List.set_cons_succ] at ha'
            subst ha'
            refine AnyS.next (i := 24) (d := some 176) (v := .bool false) rfl rfl (by kernel_rfl) (by kernel_rfl) (by kernel_rfl) (StepsIf.yield (by kernel_rfl) (fun w' hS => by clear hS; go_simp)) ?_
            intro a' ha'
            simp only [Act.put, List.setIfInBounds_toArray, List.set_cons_zero, List.set_cons_succ] at ha'
            subst ha'
            refine AnyS.stepE (i := 25) (d := some 177) rfl rfl (by kernel_rfl) (by kernel_rfl) (by kernel_rfl) ?_
            apply Exists.intro
            apply And.intro
            · apply StepsIf.yield
              · kernel_rfl
              intro w' hS
              clear hS; go_simp
              rfl
            intro a' ha'
            simp only [Act.put, List.setIfInBounds_toArray, List.set_cons_zero, List.set_cons_succ] at ha'
            subst ha'
            refine AnyS.stepE (i := 26) (d := some 178) rfl rfl (by kernel_rfl) (by kernel_rfl) (by kernel_rfl) ?_
            apply Exists.intro
            apply And.intro
            · apply StepsIf.yield
              · kernel_rfl
              intro w' hS
              clear hS; go_simp
              rfl
            intro a' ha'
            simp only [Act.put, List.setIfInBounds_toArray, List.set_cons_zero, List.set_cons_succ] at ha'
            subst ha'
            refine AnyS.next (i := 27) (d := some 179) (v := .pointer (some ⟨g2, i * 9, none⟩)) rfl rfl (by kernel_rfl) (by kernel_rfl) (by kernel_rfl) (StepsIf.yield (by kernel_rfl) (fun w' hS => by clear hS; go_simp)) ?_
            intro a' ha'
            simp only [Act.put, List.setIfInBounds_toArray, List.set_cons_zero, List.set_cons_succ] at ha'
            subst ha'
            refine AnyS.next (i := 28) (d := some 180) (v := .pointer (some ⟨g2, i * 9 + 7, none⟩)) rfl rfl (by kernel_rfl) (by kernel_rfl) (by kernel_rfl) (StepsIf.yield (by kernel_rfl) (fun w' hS => by clear hS; go_simp)) ?_
            intro a' ha'
            simp only [Act.put, List.setIfInBounds_toArray, List.set_cons_zero, List.set_cons_succ] at ha'
            subst ha'
            refine AnyS.next (i := 29) (d := some 181) (v := .int .i64 xn) rfl rfl (by kernel_rfl) (by kernel_rfl) (by kernel_rfl) (StepsIf.yield (by kernel_rfl) (fun w' hS => by have c7 := hS.2.1 7 (by decide); simp only [woA, List.getElem?_toArray, List.getElem?_cons_zero, List.getElem?_cons_succ] at c7; clear hS; go_simp)) ?_
            intro a' ha'
            simp only [Act.put, List.setIfInBounds_toArray, List.set_cons_zero, List.set_cons_succ] at ha'
            subst ha'
            refine AnyS.stepE (i := 30) (d := some 182) rfl rfl (by kernel_rfl) (by kernel_rfl) (by kernel_rfl) ?_
            apply Exists.intro
            apply And.intro
            · apply StepsIf.yield
              · kernel_rfl
              intro w' hS
              clear hS; go_simp
              rfl
            intro a' ha'
            simp only [Act.put, List.setIfInBounds_toArray, List.set_cons_zero, List.set_cons_succ] at ha'
            subst ha'
            refine AnyS.stepE (i := 31) (d := some 183) rfl rfl (by kernel_rfl) (by kernel_rfl) (by kernel_rfl) ?_
            apply Exists.intro
            apply And.intro
            · apply StepsIf.yield
              · kernel_rfl
              intro w' hS
              clear hS; go_simp
              rfl
            intro a' ha'
            simp only [Act.put, List.setIfInBounds_toArray, List.set_cons_zero, List.set_cons_succ] at ha'
            subst ha'
            refine AnyS.next (i := 32) (d := some 184) (v := .pointer (some ⟨g1, i * 9, none⟩)) rfl rfl (by kernel_rfl) (by kernel_rfl) (by kernel_rfl) (StepsIf.yield (by kernel_rfl) (fun w' hS => by clear hS; go_simp)) ?_
            intro a' ha'
            simp only [Act.put, List.setIfInBounds_toArray, List.set_cons_zero, List.set_cons_succ] at ha'
            subst ha'
            refine AnyS.next (i := 33) (d := some 185) (v := .pointer (some ⟨g1, i * 9 + 7, none⟩)) rfl rfl (by kernel_rfl) (by kernel_rfl) (by kernel_rfl) (StepsIf.yield (by kernel_rfl) (fun w' hS => by clear hS; go_simp)) ?_
            intro a' ha'
            simp only [Act.put, List.setIfInBounds_toArray, List.set_cons_zero, List.set_cons_succ] at ha'
            subst ha'
            refine AnyS.next (i := 34) (d := some 186) (v := .int .i64 xn) rfl rfl (by kernel_rfl) (by kernel_rfl) (by kernel_rfl) (StepsIf.yield (by kernel_rfl) (fun w' hS => by have c7 := hS.1 7 (by decide); simp only [woA, List.getElem?_toArray, List.getElem?_cons_zero, List.getElem?_cons_succ] at c7; clear hS; go_simp)) ?_
            intro a' ha'
            simp only [Act.put, List.setIfInBounds_toArray, List.set_cons_zero, List.set_cons_succ] at ha'
            subst ha'
            refine AnyS.next (i := 35) (d := some 187) (v := .bool false) rfl rfl (by kernel_rfl) (by kernel_rfl) (by kernel_rfl) (StepsIf.yield (by kernel_rfl) (fun w' hS => by clear hS; go_simp)) ?_
            intro a' ha'
            simp only [Act.put, List.setIfInBounds_toArray, List.set_cons_zero, List.set_cons_succ] at ha'
            subst ha'
            refine AnyS.next (i := 36) (d := some 188) (v := .bool false) rfl rfl (by kernel_rfl) (by kernel_rfl) (by kernel_rfl) (StepsIf.yield (by kernel_rfl) (fun w' hS => by clear hS; go_simp)) ?_
            intro a' ha'
            simp only [Act.put, List.setIfInBounds_toArray, List.set_cons_zero, List.set_cons_succ] at ha'
            subst ha'
            refine AnyS.next (i := 37) (d := some 189) (v := .bool false) rfl rfl (by kernel_rfl) (by kernel_rfl) (by kernel_rfl) (StepsIf.yield (by kernel_rfl) (fun w' hS => by clear hS; go_simp)) ?_
            intro a' ha'
            simp only [Act.put, List.setIfInBounds_toArray, List.set_cons_zero, List.set_cons_succ] at ha'
            subst ha'
            refine AnyS.stepE (i := 38) (d := some 190) rfl rfl (by kernel_rfl) (by kernel_rfl) (by kernel_rfl) ?_
            apply Exists.intro
            apply And.intro
            · apply StepsIf.yield
              · kernel_rfl
              intro w' hS
              clear hS; go_simp
              rfl
            intro a' ha'
            simp only [Act.put, List.setIfInBounds_toArray, List.set_cons_zero, List.set_cons_succ] at ha'
            subst ha'
            refine AnyS.stepE (i := 39) (d := some 191) rfl rfl (by kernel_rfl) (by kernel_rfl) (by kernel_rfl) ?_
            apply Exists.intro
            apply And.intro
            · apply StepsIf.yield
              · kernel_rfl
              intro w' hS
              clear hS; go_simp
              rfl
            intro a' ha'
            simp only [Act.put, List.setIfInBounds_toArray, List.set_cons_zero, List.set_cons_succ] at ha'
            subst ha'
            refine AnyS.next (i := 40) (d := some 192) (v := .pointer (some ⟨g2, i * 9, none⟩)) rfl rfl (by kernel_rfl) (by kernel_rfl) (by kernel_rfl) (StepsIf.yield (by kernel_rfl) (fun w' hS => by clear hS; go_simp)) ?_
            intro a' ha'
            simp only [Act.put, List.setIfInBounds_toArray, List.set_cons_zero, List.set_cons_succ] at ha'
            subst ha'
            refine AnyS.next (i := 41) (d := some 193) (v := .pointer (some ⟨g2, i * 9 + 8, none⟩)) rfl rfl (by kernel_rfl) (by kernel_rfl) (by kernel_rfl) (StepsIf.yield (by kernel_rfl) (fun w' hS => by clear hS; go_simp)) ?_
            intro a' ha'
            simp only [Act.put, List.setIfInBounds_toArray, List.set_cons_zero, List.set_cons_succ] at ha'
            subst ha'
            refine AnyS.next (i := 42) (d := some 194) (v := .int .i64 xm) rfl rfl (by kernel_rfl) (by kernel_rfl) (by kernel_rfl) (StepsIf.yield (by kernel_rfl) (fun w' hS => by have c8 := hS.2.1 8 (by decide); simp only [woA, List.getElem?_toArray, List.getElem?_cons_zero, List.getElem?_cons_succ] at c8; clear hS; go_simp)) ?_
            intro a' ha'
            simp only [Act.put, List.setIfInBounds_toArray, List.set_cons_zero, List.set_cons_succ] at ha'
            subst ha'
            refine AnyS.stepE (i := 43) (d := some 195) rfl rfl (by kernel_rfl) (by kernel_rfl) (by kernel_rfl) ?_
            apply Exists.intro
            apply And.intro
            · apply StepsIf.yield
              · kernel_rfl
              intro w' hS
              clear hS; go_simp
              rfl
            intro a' ha'
            simp only [Act.put, List.setIfInBounds_toArray, List.set_cons_zero, List.set_cons_succ] at ha'
            subst ha'
            refine AnyS.stepE (i := 44) (d := some 196) rfl rfl (by kernel_rfl) (by kernel_rfl) (by kernel_rfl) ?_
            apply Exists.intro
            apply And.intro
            · apply StepsIf.yield
              · kernel_rfl
              intro w' hS
              clear hS; go_simp
              rfl
            intro a' ha'
            simp only [Act.put, List.setIfInBounds_toArray, List.set_cons_zero, List.set_cons_succ] at ha'
            subst ha'
            refine AnyS.next (i := 45) (d := some 197) (v := .pointer (some ⟨g1, i * 9, none⟩)) rfl rfl (by kernel_rfl) (by kernel_rfl) (by kernel_rfl) (StepsIf.yield (by kernel_rfl) (fun w' hS => by clear hS; go_simp)) ?_
            intro a' ha'
            simp only [Act.put, List.setIfInBounds_toArray, List.set_cons_zero, List.set_cons_succ] at ha'
            subst ha'
            refine AnyS.next (i := 46) (d := some 198) (v := .pointer (some ⟨g1, i * 9 + 8, none⟩)) rfl rfl (by kernel_rfl) (by kernel_rfl) (by kernel_rfl) (StepsIf.yield (by kernel_rfl) (fun w' hS => by clear hS; go_simp)) ?_
            intro a' ha'
            simp only [Act.put, List.setIfInBounds_toArray, List.set_cons_zero, List.set_cons_succ] at ha'
            subst ha'
            refine AnyS.next (i := 47) (d := some 199) (v := .int .i64 xm) rfl rfl (by kernel_rfl) (by kernel_rfl) (by kernel_rfl) (StepsIf.yield (by kernel_rfl) (fun w' hS => by have c8 := hS.1 8 (by decide); simp only [woA, List.getElem?_toArray, List.getElem?_cons_zero, List.getElem?_cons_succ] at c8; clear hS; go_simp)) ?_
            intro a' ha'
            simp only [Act.put, List.setIfInBounds_toArray, List.set_cons_zero, List.set_cons_succ] at ha'
            subst ha'
            refine AnyS.next (i := 48) (d := some 200) (v := .bool false) rfl rfl (by kernel_rfl) (by kernel_rfl) (by kernel_rfl) (StepsIf.yield (by kernel_rfl) (fun w' hS => by clear hS; go_simp)) ?_
            intro a' ha'
            simp only [Act.put, List.setIfInBounds_toArray, List.set_cons_zero, List.set_cons_succ] at ha'
            subst ha'
            refine AnyS.next (i := 49) (d := some 201) (v := .bool false) rfl rfl (by kernel_rfl) (by kernel_rfl) (by kernel_rfl) (StepsIf.yield (by kernel_rfl) (fun w' hS => by clear hS; go_simp)) ?_
            intro a' ha'
            simp only [Act.put, List.setIfInBounds_toArray, List.set_cons_zero, List.set_cons_succ] at ha'
            subst ha'
            refine AnyS.done (by kernel_rfl) (fun w6 hS => ?_) _
            obtain ⟨_, _, rfl⟩ := hS
            clear heq
            go_wp2_with fail
            go_roundw
            case rel => exact ⟨i + 1, by omega, by simp, HIN1.out.drew, HIN2.out.drew, HT.out.drew, HB.out.drew⟩
            case measure => simp [intOf]; omega
          · obtain rfl : i = l.length := by omega
            have hd : decide ((l.length : Int) < (l.length : Int)) = false := by simp
            clear hin1 hin2 hll
            go_wp2_with fail
            refine (HSU.out _ hT).mono ?_
            rintro en w9 ⟨rfl, hb⟩
            have hBz := hB.trans (hb.mono hB.size)
            clear hb HSU hT hB
            go_wp2_with fail
            go_ret
            exact ⟨rfl, hBz⟩
  · have qe : ((e : Int) != 0) = true := by rw [bne_iff_ne]; omega
    obtain rfl := hnone he
    clear hside hnone he hlen
    go_enter Tryz.func6, Tryz.ntmps6
    go_wp2_with fail
    refine (HD.out _ HT.out).mono ?_
    rintro en w1 ⟨v, rfl, hv, hb⟩
    obtain ⟨a, cap, rfl, _⟩ := hv.wIn
    have HT1 := Lib.hid (HT.out.below hb)
    have hB1 := hb
    clear hv hb HD HT
    go_wp2_with fail
    refine (HSU.out _ HT1.out).mono ?_
    rintro en w2 ⟨rfl, hb⟩
    have hB2 := hB1.trans (hb.mono hB1.size)
    clear hb HSU HT1 hB1
    go_wp2_with fail
    go_ret
    exact ⟨rfl, hB2⟩
end Go.Proofs.YtpaecjjelpjopaaGreatDoor

/- Texts put together: Gs Ho. -/
import Derived.Test.YtbccojjcdcighaaGreatDoorQZ
import Derived.Test.YtbccojjcdcighaaGreatDoorQX
import Derived.Deep.DeepCutAuto
import Derived.Laws.ResultCell
import Derived.Test.YtbccojjcdcighaaGreatDoorQAc
namespace Go.Proofs.YtbccojjcdcighaaGreatDoor
open Go.RowKit Go.Shelf BS
theorem startR_pos (s:ByteArray) (a:Nat) (h:a<s.size):(startR s a).pos≤s.size∧(startR s a).err=0∧(startR s a).fin=false∧(startR s a).place=0:=by
 unfold startR
 split<;>exact ⟨by simp only;omega,rfl,rfl,rfl⟩
def leftR (n:Nat) (v:Option Value):Nat:=match v with|some (.int _ p)=>n - p.toNat|_=>0
set_option maxRecDepth 100000 in
set_option maxHeartbeats 8000000 in
theorem rRead_calls (s : ByteArray) (hs : s.size ≤ 1000000) (at' : Int) (w : World) :
 Calls Tryz.prog 91 #[.string s, .int .i64 at'] w fun e w' => e = .returned (.tuple #[setV (readR s at').1, .int .i64 (readR s at').2.1, .int .i64 (readR s at').2.2.1, .int .i64 (readR s at').2.2.2]) ∧ Below w.heap.size w w' := by
 have b0 := Blk.new w (setA 0) 43
 have hB0 : Below w.heap.size w (w.alloc (.cells (setA 0) 43)) := by go_grown
 obtain ⟨⟨c0, c1, c2, c3⟩, f0, f1, f2, f3⟩ := b0.cells4
 by_cases ha : at' < 0
 ·have q : decide (at' < 0) = true := by simpa using ha
  have hres : readR s at' = (0, 0, 1, 0) := by unfold readR; rw [if_pos ha]
  rw [hres]
  clear hres
  go_enter Tryz.func91, Tryz.ntmps91
  go_wp2
  exact bodyPost_ret (v := .tuple #[.agg #[.int .u64 0, .int .u64 0, .int .u64 0, .int .u64 0], .int .i64 0, .int .i64 1, .int .i64 0]) (by simp [results, Tryz.results91, go_sem]) rfl ⟨rfl, hB0⟩
 obtain ⟨a, rfl⟩ := Int.eq_ofNat_of_zero_le (show 0 ≤ at' by omega)
 by_cases hb : s.size ≤ a
 ·have q : decide (s.size ≤ a) = true := by simpa using hb
  have hres : readR s (a : Int) = (0, 0, 1, 0) := by unfold readR; rw [if_neg ha, if_pos (.inl (by simpa using hb))]
  rw [hres]
  clear hres
  go_enter Tryz.func91, Tryz.ntmps91
  go_wp2
  exact bodyPost_ret (v := .tuple #[.agg #[.int .u64 0, .int .u64 0, .int .u64 0, .int .u64 0], .int .i64 0, .int .i64 1, .int .i64 0]) (by simp [results, Tryz.results91, go_sem]) rfl ⟨rfl, hB0⟩
 have q : decide (s.size ≤ a) = false := by simpa using hb
 have hlt : a < s.size := by omega
 have bb : s[a].toNat = bt s a := (bt_eq s a hlt).symm
 by_cases hc : bt s a ≠ 91
 ·have q2 : ((bt s a : Int) != 91) = true := by rw [bne_iff_ne]; omega
  have hres : readR s (a : Int) = (0, 0, 1, 0) := by unfold readR; rw [if_neg ha, if_pos (.inr (by simpa using hc))]
  rw [hres]
  clear hres
  go_enter Tryz.func91, Tryz.ntmps91
  go_wp2
  exact bodyPost_ret (v := .tuple #[.agg #[.int .u64 0, .int .u64 0, .int .u64 0, .int .u64 0], .int .i64 0, .int .i64 1, .int .i64 0]) (by simp [results, Tryz.results91, go_sem]) rfl ⟨rfl, hB0⟩
 have q2 : ((bt s a : Int) != 91) = false := by have : bt s a = 91 := Decidable.not_not.1 hc; rw [this]; rfl
 have hres : readR s (a : Int) = finR (loopR s (s.size + 1) (startR s a) true) := by
  unfold readR
  rw [if_neg ha, if_neg (by simp; omega)]
  simp
 rw [hres]
 obtain ⟨p1, p2, p3, p4⟩ := startR_pos s a hlt
 generalize hL : loopR s (s.size + 1) (startR s a) true = L
 have HL := Lib.hid hL
 clear hres hL hc
 have HS1 : a + 1 < s.size ∧ bt s (a + 1) = 94 → startR s a = ⟨0, a + 2, 0, 0, false, true⟩ := fun h => by unfold startR; rw [if_pos h]
 have HS2 : ¬ (a + 1 < s.size ∧ bt s (a + 1) = 94) → startR s a = ⟨0, a + 1, 0, 0, false, false⟩ := fun h => by unfold startR; rw [if_neg h]
 generalize startR s a = x0 at *
 have HH1 := Lib.hid HS1
 have HH2 := Lib.hid HS2
 clear HS1 HS2
 have bX := Blk.new (w.alloc (.cells (setA 0) 43)) (stI 0 ((a : Int) + 1) 0 0 false false) 155
 rw [World.size_alloc] at bX
 have bR := b0.alloc (.cells (stI 0 ((a : Int) + 1) 0 0 false false) 155)
 have hBX : Below w.heap.size w ((w.alloc (.cells (setA 0) 43)).alloc (.cells (stI 0 ((a : Int) + 1) 0 0 false false) 155)) := hB0.alloc (by simp) _
 clear c0 c1 c2 c3 f0 f1 f2 f3 b0 hB0
 go_enter Tryz.func91, Tryz.ntmps91
 go_upto_region 4 with fail
 have e0 : ((w.alloc (.cells #[.int .u64 0, .int .u64 0, .int .u64 0, .int .u64 0] 43)).alloc (.cells #[.int .u64 0, .int .u64 0, .int .u64 0, .int .u64 0, .int .i64 ((a : Int) + 1), .int .i64 0, .int .i64 0, .bool false, .bool false] 155)) = (w.alloc (.cells (setA 0) 43)).alloc (.cells (stI 0 ((a : Int) + 1) 0 0 false false) 155) := rfl
 rw [e0]
 clear e0
 generalize (w.alloc (.cells (setA 0) 43)).alloc (.cells (stI 0 ((a : Int) + 1) 0 0 false false) 155) = w1 at *
 go_cut [39] from 28 to 38 (fun s39 wx => ∃ b : Bool, s39 = .bool b ∧ Hid (b = true ↔ (a + 1 < s.size ∧ bt s (a + 1) = 94)) ∧ w1 = wx)
 case first =>
  by_cases h1 : a + 1 < s.size
  ·have r1 : decide ((a : Int) + 1 < (s.size : Int)) = true := by rw [decide_eq_true_eq]; omega
   have b1 : s[a + 1].toNat = bt s (a + 1) := (bt_eq s (a + 1) h1).symm
   by_cases h2 : bt s (a + 1) = 94
   ·have r2 : ((bt s (a + 1) : Int) == 94) = true := by rw [beq_iff_eq]; omega
    have K1 := Lib.hid h1
    have K2 := Lib.hid h2
    clear h2
    go_wp2_with fail
    go_meet
    exact ⟨true, rfl, Lib.hid (by simp [K1.out, K2.out]), rfl⟩
   ·have r2 : ((bt s (a + 1) : Int) == 94) = false := by rw [beq_eq_false_iff_ne]; omega
    have K2 := Lib.hid h2
    clear h2
    go_wp2_with fail
    go_meet
    exact ⟨false, rfl, Lib.hid (by simp [K2.out]), rfl⟩
  ·have r1 : decide ((a : Int) + 1 < (s.size : Int)) = false := by rw [decide_eq_false_iff_not]; omega
   have K1 := Lib.hid h1
   clear h1
   go_wp2_with fail
   go_meet
   exact ⟨false, rfl, Lib.hid (by simp [K1.out]), rfl⟩
 case rest =>
 obtain ⟨b, rfl, HBB, rfl⟩ := hcut
 have BX := Lib.hid bX
 have BR := Lib.hid bR
 have HBX := Lib.hid hBX
 have hz : w.heap.size + 2 ≤ w1.heap.size := by have := BX.out.lt; omega
 clear bX bR hBX
 go_upto_if 39 with (fail)
 go_cut [40] from 41 to 43 (fun s40 wx => Blk wx (w.heap.size + 1) (stA x0) 155 ∧ Blk wx w.heap.size (setA 0) 43 ∧ Below w.heap.size w wx ∧ w.heap.size + 2 ≤ wx.heap.size)
 case first =>
  cases b with
  | true =>
   have h := HBB.out.1 rfl
   have c4 := BX.out.cell 4; have c8 := BX.out.cell 8; have f4 := BX.out.frozen 4; have f8 := BX.out.frozen 8
   simp only [List.getElem?_toArray, List.getElem?_cons_zero, List.getElem?_cons_succ] at c4 c8
   have hx := HH1.out h
   have HX2 := Lib.hid (show Blk ((w1.setCell ⟨w.heap.size + 1, 8, none⟩ (.bool true)).setCell ⟨w.heap.size + 1, 4, none⟩ (.int .i64 ((a : Int) + 2))) (w.heap.size + 1) (stA x0) 155 by rw [hx]; exact (BX.out.set 8 (.bool true)).set 4 (.int .i64 ((a : Int) + 2)))
   have HR2 := Lib.hid ((BR.out.other (show w.heap.size ≠ w.heap.size + 1 by omega) 8 (.bool true)).other (show w.heap.size ≠ w.heap.size + 1 by omega) 4 (.int .i64 ((a : Int) + 2)))
   have HB2 := Lib.hid (below_set (below_set HBX.out (show w.heap.size ≤ w.heap.size + 1 by omega) 8 (.bool true)) (show w.heap.size ≤ w.heap.size + 1 by omega) 4 (.int .i64 ((a : Int) + 2)))
   clear h hx
   go_wp2_with fail
   go_meet
   exact ⟨HX2.out, HR2.out, HB2.out, by simpa using hz⟩
  | false =>
   have hx := HH2.out (fun h => by have := HBB.out.2 h; cases this)
   have HX2 := Lib.hid (show Blk w1 (w.heap.size + 1) (stA x0) 155 by rw [hx]; exact BX.out)
   clear hx
   go_wp2_with fail
   go_meet
   exact ⟨HX2.out, BR.out, HBX.out, hz⟩
 case rest =>
 obtain ⟨hX, hR, hB, hz2⟩ := hcut
 clear BX BR HBX hz HH1 HH2 bb
 go_wp2_with fail
 go_loopw [9] (fun v wr => ∃ (x : BR) (first : Bool) (n : Nat), v = .bool first ∧ loopR s (n + 1) x first = L ∧ x.err = 0 ∧ x.pos ≤ s.size ∧ s.size ≤ n + x.pos ∧ Blk wr (w.heap.size + 1) (stA x) 155 ∧ Blk wr w.heap.size (setA 0) 43 ∧ Below w.heap.size w wr ∧ w.heap.size + 2 ≤ wr.heap.size)
  (fun _ wr => leftR (s.size + 1) (wr.cell? ⟨w.heap.size + 1, 4, none⟩))
 case atStart => exact ⟨x0, true, s.size, rfl, HL.out, p2, p1, by omega, hX, hR, hB, hz2⟩
 case round =>
  clear hX hR hB hz2 p1 p2 p3 p4
  obtain ⟨x, first, n, rfl, hl, he, hp, hn, hX, hR, hB, hz⟩ := hrel
  obtain ⟨t, i, err, place, fin, neg⟩ := x
  simp only at he hp hn
  subst he
  replace hX : Blk wr (w.heap.size + 1) (stI t i 0 place fin neg) 155 := hX
  have c7 := hX.cell 7
  simp only [List.getElem?_toArray, List.getElem?_cons_zero, List.getElem?_cons_succ] at c7
  have HX := Lib.hid hX
  have HR := Lib.hid hR
  have HB := Lib.hid hB
  have HLL := Lib.hid hl
  clear hX hR hB hl
  cases fin with
  | false =>
   have hth := thing_calls s hs t i 0 place false neg first
   have hok := thingR_ok s ⟨t, i, 0, place, false, neg⟩ first
   have hon := loopR_on s n ⟨t, i, 0, place, false, neg⟩ first rfl
   have her := loopR_err s n ⟨t, i, 0, place, false, neg⟩ first rfl
   generalize thingR s ⟨t, i, 0, place, false, neg⟩ first = y at hth hok hon her
   obtain ⟨t', i', err', place', fin', neg'⟩ := y
   simp only at hok hon her
   have HTH : Hid (∀ w, Calls Tryz.prog 111 #[.string s, .agg (stI t i 0 place false neg), .bool first] w fun e w' => e = .returned (.agg (stI t' i' err' place' fin' neg')) ∧ Below w.heap.size w w') := Lib.hid hth
   have HOK := Lib.hid hok
   have HON := Lib.hid hon
   have HER := Lib.hid her
   clear hth hok hon her
   go_wp2_with (first
    | ((with_reducible refine wpList_load_row (o := ⟨some 48, _, _, _, _, _⟩) rfl 155 _ rfl (w.heap.size + 1) rfl 155 (stI t i 0 place false neg) (0, 0) _ ?_ Tryz.underlying155 rfl ?_ ?_); exact HX.out; exact infoSt)
    | fail)
   refine (HTH.out _).mono ?_
   rintro e w3 ⟨rfl, hb⟩
   have HX3 := Lib.hid (HX.out.below hb (by omega))
   have HR3 := Lib.hid (HR.out.below hb (by omega))
   have HB3 := Lib.hid (HB.out.trans (hb.mono (by omega)))
   have hz3 := Nat.le_trans hz hb.size
   have HXO := HX.out.cell 4
   simp only [List.getElem?_toArray, List.getElem?_cons_zero, List.getElem?_cons_succ] at HXO
   replace HXO := Lib.hid HXO
   clear hb HX HR HB c7
   have HX4 := Lib.hid (Blk.setRow (cs := stI t' i' err' place' fin' neg') HX3.out)
   have HR4 := Lib.hid (show Blk (w3.setRow (w.heap.size + 1) (stI t' i' err' place' fin' neg')) w.heap.size (setA 0) 43 from (Below.block (below_setRow (B := w.heap.size + 1) (Below.refl _ w3) (Nat.le_refl _) _) _ (Nat.lt_succ_self _)).trans HR3.out)
   have HB4 := Lib.hid (below_row HB3.out (show w.heap.size ≤ w.heap.size + 1 by omega) (stI t' i' err' place' fin' neg'))
   have hz4 : w.heap.size + 2 ≤ (w3.setRow (w.heap.size + 1) (stI t' i' err' place' fin' neg')).heap.size := by simpa using hz3
   by_cases he : err' = 0
   ·subst he
    have c5 : (w3.setRow (w.heap.size + 1) (stI t' i' 0 place' fin' neg')).cell? ⟨w.heap.size + 1, 5, none⟩ = some (.int .i64 0) := HX4.out.cell 5
    go_wp2_with (first
     | ((with_reducible refine wpList_store_st (o := ⟨none, .store 155 _ _, _, _, _, _⟩) rfl 155 _ _ rfl (w.heap.size + 1) rfl rfl (run_storeAt_row _ (w.heap.size + 1) 155 155 (stI t i 0 place false neg) (stI t' i' 0 place' fin' neg') ?_ ?_ ?_ ?_) ?_); exact HX3.out; exact infoSt; rfl; exact st_one _ _ _ _ _ _)
     | fail)
    have hok := HOK.out (by first | exact trivial | rfl)
    obtain ⟨m, rfl⟩ : ∃ m, n = m + 1 := ⟨n - 1, by omega⟩
    have hl2 := (HON.out (by first | exact trivial | rfl)).symm.trans HLL.out
    have c4 : (w3.setRow (w.heap.size + 1) (stI t' i' 0 place' fin' neg')).cell? ⟨w.heap.size + 1, 4, none⟩ = some (.int .i64 i') := HX4.out.cell 4
    have c4' := HXO.out
    go_roundw
    case rel => exact ⟨⟨t', i', 0, place', fin', neg'⟩, false, m, rfl, hl2, rfl, hok.2.1, by simp only; omega, HX4.out, HR4.out, HB4.out, hz4⟩
    case measure => rw [c4, c4']; simp [leftR]; omega
   ·have hL := (HER.out he).symm.trans HLL.out
    have q6 : ((err' : Int) != 0) = true := by rw [bne_iff_ne]; omega
    have c5 : (w3.setRow (w.heap.size + 1) (stI t' i' err' place' fin' neg')).cell? ⟨w.heap.size + 1, 5, none⟩ = some (.int .i64 err') := HX4.out.cell 5
    have hfL : finR L = (0, 0, err', place') := by rw [← hL]; unfold finR; rw [if_pos (show (⟨t', i', err', place', fin', neg'⟩ : BR).err ≠ 0 from he)]
    have HFL := Lib.hid hfL
    clear hL hfL he
    go_wp2_with (first
     | ((with_reducible refine wpList_store_st (o := ⟨none, .store 155 _ _, _, _, _, _⟩) rfl 155 _ _ rfl (w.heap.size + 1) rfl rfl (run_storeAt_row _ (w.heap.size + 1) 155 155 (stI t i 0 place false neg) (stI t' i' err' place' fin' neg') ?_ ?_ ?_ ?_) ?_); exact HX3.out; exact infoSt; rfl; exact st_one _ _ _ _ _ _)
     | fail)
    have c6 : (w3.setRow (w.heap.size + 1) (stI t' i' err' place' fin' neg')).cell? ⟨w.heap.size + 1, 6, none⟩ = some (.int .i64 place') := HX4.out.cell 6
    clear HX3 HR3 HB3 hz3 HX4 HOK HON HER HTH
    generalize w3.setRow (w.heap.size + 1) (stI t' i' err' place' fin' neg') = w4 at *
    obtain ⟨⟨c0, c1, c2, c3⟩, f0, f1, f2, f3⟩ := HR4.out.cells4
    go_region
    go_wp2
    obtain ⟨hR5, hB5⟩ := fin4 HR4.out HB4.out (Nat.le_refl _) 0
    have e9 : ((((w4.setCell ⟨w.heap.size, 0, none⟩ (.int .u64 0)).setCell ⟨w.heap.size, 1, none⟩ (.int .u64 0)).setCell ⟨w.heap.size, 2, none⟩ (.int .u64 0)).setCell ⟨w.heap.size, 3, none⟩ (.int .u64 0)) = ((((w4.setCell ⟨w.heap.size, 0, none⟩ (.int .u64 (wd 0 0))).setCell ⟨w.heap.size, 1, none⟩ (.int .u64 (wd 0 1))).setCell ⟨w.heap.size, 2, none⟩ (.int .u64 (wd 0 2))).setCell ⟨w.heap.size, 3, none⟩ (.int .u64 (wd 0 3))) := rfl
    rw [e9]
    clear e9 c0 c1 c2 c3 f0 f1 f2 f3 c5 c6
    generalize ((((w4.setCell ⟨w.heap.size, 0, none⟩ (.int .u64 (wd 0 0))).setCell ⟨w.heap.size, 1, none⟩ (.int .u64 (wd 0 1))).setCell ⟨w.heap.size, 2, none⟩ (.int .u64 (wd 0 2))).setCell ⟨w.heap.size, 3, none⟩ (.int .u64 (wd 0 3))) = W5 at *
    obtain ⟨⟨e0, e1, e2, e3⟩, _⟩ := hR5.cells4
    exact bodyPost_ret (v := .tuple #[setV 0, .int .i64 0, .int .i64 err', .int .i64 place']) (by simp [results, Tryz.results91, go_sem, e0, e1, e2, e3]) rfl ⟨by rw [HFL.out] <;> rfl, hB5.drew⟩
  | true =>
   have hfin : (⟨t, i, 0, place, true, neg⟩ : BR) = L := by rw [← HLL.out, loopR_fin _ _ _ _ rfl]
   have hfL : finR L = (if neg = true then ~~~t else t, i, 0, 0) := by rw [← hfin]; rfl
   have HFL := Lib.hid hfL
   clear hfin hfL
   have c8 := HX.out.cell 8
   have c4 := HX.out.cell 4
   have d0 := HX.out.cell 0; have d1 := HX.out.cell 1; have d2 := HX.out.cell 2; have d3 := HX.out.cell 3
   simp only [List.getElem?_toArray, List.getElem?_cons_zero, List.getElem?_cons_succ] at c8 c4 d0 d1 d2 d3
   cases neg with
   | false =>
    obtain ⟨⟨c0, c1, c2, c3⟩, f0, f1, f2, f3⟩ := HR.out.cells4
    go_wp2_with fail
    go_region
    go_wp2
    obtain ⟨hR5, hB5⟩ := fin4 HR.out HB.out (Nat.le_refl _) t
    clear c0 c1 c2 c3 f0 f1 f2 f3 c4 d0 d1 d2 d3 c7 c8
    generalize ((((wr.setCell ⟨w.heap.size, 0, none⟩ (.int .u64 (wd t 0))).setCell ⟨w.heap.size, 1, none⟩ (.int .u64 (wd t 1))).setCell ⟨w.heap.size, 2, none⟩ (.int .u64 (wd t 2))).setCell ⟨w.heap.size, 3, none⟩ (.int .u64 (wd t 3))) = W5 at *
    obtain ⟨⟨e0, e1, e2, e3⟩, _⟩ := hR5.cells4
    exact bodyPost_ret (v := .tuple #[setV t, .int .i64 i, .int .i64 0, .int .i64 0]) (by simp [results, Tryz.results91, go_sem, e0, e1, e2, e3]) rfl ⟨by rw [HFL.out] <;> rfl, hB5.drew⟩
   | true =>
    have hnt := rnot_calls t
    generalize hr : ~~~t = r at hnt
    have HNT := Lib.hid hnt
    have HRR := Lib.hid hr
    clear hnt hr
    go_wp2_with fail
    refine (HNT.out _).mono ?_
    rintro e w3 ⟨rfl, hb⟩
    have HX3 := Lib.hid (HX.out.below hb (by omega))
    have HR3 := Lib.hid (HR.out.below hb (by omega))
    have HB3 := Lib.hid (HB.out.trans (hb.mono (by omega)))
    clear hb HX HR HB c8 c4 d0 d1 d2 d3 c7
    have c0 := HX3.out.cell 0; have c1 := HX3.out.cell 1; have c2 := HX3.out.cell 2; have c3 := HX3.out.cell 3
    have f0 := HX3.out.frozen 0; have f1 := HX3.out.frozen 1; have f2 := HX3.out.frozen 2; have f3 := HX3.out.frozen 3
    simp only [List.getElem?_toArray, List.getElem?_cons_zero, List.getElem?_cons_succ] at c0 c1 c2 c3
    go_upto_region 15 with fail
    have hne : w.heap.size ≠ w.heap.size + 1 := by omega
    have HX4 := Lib.hid (show Blk _ _ (stI r i 0 place true true) 155 from (((HX3.out.set 0 (.int .u64 (wd r 0))).set 1 (.int .u64 (wd r 1))).set 2 (.int .u64 (wd r 2))).set 3 (.int .u64 (wd r 3)))
    have HR4 := Lib.hid ((((HR3.out.other hne 0 (.int .u64 (wd r 0))).other hne 1 (.int .u64 (wd r 1))).other hne 2 (.int .u64 (wd r 2))).other hne 3 (.int .u64 (wd r 3)))
    have hle : w.heap.size ≤ w.heap.size + 1 := by omega
    have HB4 := Lib.hid (below_set (below_set (below_set (below_set HB3.out hle 0 (.int .u64 (wd r 0))) hle 1 (.int .u64 (wd r 1))) hle 2 (.int .u64 (wd r 2))) hle 3 (.int .u64 (wd r 3)))
    clear c0 c1 c2 c3 f0 f1 f2 f3 HX3 HR3 HB3 hne hle
    generalize ((((w3.setCell ⟨w.heap.size + 1, 0, none⟩ (.int .u64 (wd r 0))).setCell ⟨w.heap.size + 1, 1, none⟩ (.int .u64 (wd r 1))).setCell ⟨w.heap.size + 1, 2, none⟩ (.int .u64 (wd r 2))).setCell ⟨w.heap.size + 1, 3, none⟩ (.int .u64 (wd r 3))) = w4 at *
    have c4 := HX4.out.cell 4; have d0 := HX4.out.cell 0; have d1 := HX4.out.cell 1; have d2 := HX4.out.cell 2; have d3 := HX4.out.cell 3
    simp only [List.getElem?_toArray, List.getElem?_cons_zero, List.getElem?_cons_succ] at c4 d0 d1 d2 d3
    obtain ⟨⟨c0, c1, c2, c3⟩, f0, f1, f2, f3⟩ := HR4.out.cells4
    go_region
    go_wp2
    obtain ⟨hR5, hB5⟩ := fin4 HR4.out HB4.out (Nat.le_refl _) r
    clear c0 c1 c2 c3 f0 f1 f2 f3 c4 d0 d1 d2 d3
    generalize ((((w4.setCell ⟨w.heap.size, 0, none⟩ (.int .u64 (wd r 0))).setCell ⟨w.heap.size, 1, none⟩ (.int .u64 (wd r 1))).setCell ⟨w.heap.size, 2, none⟩ (.int .u64 (wd r 2))).setCell ⟨w.heap.size, 3, none⟩ (.int .u64 (wd r 3))) = W5 at *
    obtain ⟨⟨e0, e1, e2, e3⟩, _⟩ := hR5.cells4
    exact bodyPost_ret (v := .tuple #[setV r, .int .i64 i, .int .i64 0, .int .i64 0]) (by simp [results, Tryz.results91, go_sem, e0, e1, e2, e3]) rfl ⟨by rw [HFL.out, if_pos trivial, HRR.out] <;> rfl, hB5.drew⟩
end Go.Proofs.YtbccojjcdcighaaGreatDoor

namespace Go.Proofs.YtbccojjcdcighaaGreatDoor
open Go.RowKit BS
theorem readP_len7 (s:ByteArray):∀k a x,a≤s.size→x.l.length≤3*a→(readP s k a x).1.l.length≤3*s.size+2
 |0,_,_,_,_=>by rw [readP];exact Nat.zero_le _
 |k+1,a,x,ha,hx=>by
  rw [readP]
  by_cases h0:s.size≤a
  ·rw [if_pos h0]
   by_cases h1:1<x.st.length
   ·rw [if_pos h1];exact Nat.zero_le _
   ·rw [if_neg h1]
    obtain ⟨l,st,g⟩:=x;obtain _|⟨⟨n,r⟩,st⟩:=st
    ·show l.length≤_
     simp only at hx;omega
    ·show (l++rowT n++rowsT (r+1)).length≤_
     have e1:(rowT n).length≤1:=by
      unfold rowT
      by_cases h0:n=0
      ·rw [if_pos h0];exact Nat.le_refl _
      ·rw [if_neg h0]
       by_cases h1:n=1
       ·rw [if_pos h1];exact Nat.zero_le _
       ·rw [if_neg h1];exact Nat.le_refl _
     have e2:(rowsT (r+1)).length≤1:=by
      unfold rowsT
      by_cases h0:1<r+1
      ·rw [if_pos h0];exact Nat.le_refl _
      ·rw [if_neg h0];exact Nat.zero_le _
     simp only at hx;rw [List.length_append,List.length_append];omega
  rw [if_neg h0]
  by_cases h1:firstP x (bt s a)≠0
  ·rw [if_pos h1];exact Nat.zero_le _
  rw [if_neg h1];have hE:=nextA_end s a (by omega);generalize nextA s a=X at*;obtain ⟨w,e,p⟩:=X;simp only at hE ⊢
  by_cases h2:e≠0
  ·rw [if_pos h2];exact Nat.zero_le _
  rw [if_neg h2];rcases hE with ⟨_,_,_,_,h5,h6⟩|⟨h1,_⟩
  ·simp only at h5 h6
   refine readP_len7 s k w.fin (takeP x w) h6 ?_;obtain ⟨l,st,g⟩:=x;simp only at hx;have r1:∀n,(rowT n).length≤1:=fun n=>by
    unfold rowT
    by_cases h0:n=0
    ·rw [if_pos h0];exact Nat.le_refl _
    ·rw [if_neg h0]
     by_cases h1:n=1
     ·rw [if_pos h1];exact Nat.zero_le _
     ·rw [if_neg h1];exact Nat.le_refl _
   have r2:∀n,(rowsT n).length≤1:=fun n=>by
    unfold rowsT
    by_cases h0:1<n
    ·rw [if_pos h0];exact Nat.le_refl _
    ·rw [if_neg h0];exact Nat.zero_le _
   unfold takeP
   by_cases c1:w.kind=1
   ·rw [if_pos c1];simp;omega
   rw [if_neg c1]
   by_cases c2:w.kind=2
   ·rw [if_pos c2];simp only;omega
   rw [if_neg c2]
   by_cases c3:w.kind=3
   ·rw [if_pos c3]
    obtain _|⟨⟨n,r⟩,st⟩:=st
    ·show (l++[ndG]).length≤_
     rw [List.length_append,List.length_singleton];omega
    ·show (l++rowT n++rowsT (r+1)++[ndG]).length≤_
     have e1:=r1 n;have e2:=r2 (r+1);rw [List.length_append,List.length_append,List.length_append,List.length_singleton];omega
   rw [if_neg c3]
   by_cases c4:w.kind=4
   ·rw [if_pos c4]
    obtain _|⟨⟨n,r⟩,st⟩:=st
    ·show l.length≤_
     omega
    ·show (l++rowT n).length≤_
     have e1:=r1 n;rw [List.length_append];omega
   rw [if_neg c4]
   by_cases c5:w.kind=5
   ·rw [if_pos c5];simp;omega
   ·rw [if_neg c5];simp only;omega
  ·exact absurd h1 h2
theorem right_len (s:ByteArray):(parseN s).1.l.length≤3*s.size+2:=readP_len7 s _ 0 sPS (Nat.zero_le _) (by decide)
end Go.Proofs.YtbccojjcdcighaaGreatDoor

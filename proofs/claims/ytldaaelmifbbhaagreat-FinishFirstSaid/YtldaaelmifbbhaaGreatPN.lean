/- Texts put together: Gs Vr Ja Jb Jc. -/
import Derived.Test.YtldaaelmifbbhaaGreatPH
import Derived.Test.YtldaaelmifbbhaaGreatPF
import Derived.Deep.DeepCutAuto
import Derived.Laws.ResultCell
import Derived.Test.YtldaaelmifbbhaaGreatPL
import Derived.Test.YtldaaelmifbbhaaGreatPB
import Derived.Test.YtldaaelmifbbhaaGreatPD
import Derived.BigQuiet
import Derived.Outline
import Derived.Deep.QuietTactic
import Derived.Test.YtldaaelmifbbhaaGreatPM
import Derived.Lib.Hide
import Derived.RegionTactic
import Derived.BigRegion
import Derived.Deep.RegionHeld3
import Derived.Deep.RegionLaw
/- The document's brackets: Read. -/
namespace Go.Proofs.YtldaaelmifbbhaaGreat
open Go.RowKit Go.Shelf BS

theorem startR_pos (s : ByteArray) (a : Nat) (h : a < s.size) : (startR s a).pos ≤ s.size ∧ (startR s a).err = 0 ∧ (startR s a).fin = false ∧ (startR s a).place = 0 := by
  unfold startR
  split <;> exact ⟨by simp only; omega, rfl, rfl, rfl⟩
def leftR (n : Nat) (v : Option Value) : Nat := match v with | some (.int _ p) => n - p.toNat | _ => 0
theorem tup4 (fn : Func) (p a b c : Tmp) (ty : TypeId) (h : fn.results = #[.cell p ty, .tmp a, .tmp b, .tmp c]) (tmps : Array Value) (P : Program) (w : World) :
    (results fn tmps).run P w = ((asAddr (tmps.getD p undef)).run P w).andThen fun x w₁ => ((loadVar ty x).run P w₁).andThen fun v w₂ => .ok (.tuple #[v, tmps.getD a undef, tmps.getD b undef, tmps.getD c undef]) w₂ := by
  simp only [results, h]
  simp [Sem.run_bind, Result.andThen]

set_option maxRecDepth 100000 in
set_option maxHeartbeats 8000000 in
theorem rRead_calls (s : ByteArray) (hs : s.size ≤ 1000000) (at' : Int) (w : World) :
    Calls Tryz.prog 52 #[.string s, .int .i64 at'] w fun e w' => e = .returned (.tuple #[setV (readR s at').1, .int .i64 (readR s at').2.1, .int .i64 (readR s at').2.2.1, .int .i64 (readR s at').2.2.2]) ∧ Below w.heap.size w w' := by
  have b0 := Blk.new w (setA 0) 38
  have hB0 : Below w.heap.size w (w.alloc (.cells (setA 0) 38)) := by go_grown
  obtain ⟨⟨c0, c1, c2, c3⟩, f0, f1, f2, f3⟩ := b0.cells4
  by_cases ha : at' < 0
  · have q : decide (at' < 0) = true := by simpa using ha
    have hres : readR s at' = (0, 0, 1, 0) := by unfold readR; rw [if_pos ha]
    rw [hres]
    clear hres
    go_enter Tryz.func52, Tryz.ntmps52
    go_wp2
    exact bodyPost_ret (v := .tuple #[.agg #[.int .u64 0, .int .u64 0, .int .u64 0, .int .u64 0], .int .i64 0, .int .i64 1, .int .i64 0]) (by simp [results, Tryz.results52, go_sem]) rfl ⟨rfl, hB0⟩
  obtain ⟨a, rfl⟩ := Int.eq_ofNat_of_zero_le (show 0 ≤ at' by omega)
  by_cases hb : s.size ≤ a
  · have q : decide (s.size ≤ a) = true := by simpa using hb
    have hres : readR s (a : Int) = (0, 0, 1, 0) := by unfold readR; rw [if_neg ha, if_pos (.inl (by simpa using hb))]
    rw [hres]
    clear hres
    go_enter Tryz.func52, Tryz.ntmps52
    go_wp2
    exact bodyPost_ret (v := .tuple #[.agg #[.int .u64 0, .int .u64 0, .int .u64 0, .int .u64 0], .int .i64 0, .int .i64 1, .int .i64 0]) (by simp [results, Tryz.results52, go_sem]) rfl ⟨rfl, hB0⟩
  have q : decide (s.size ≤ a) = false := by simpa using hb
  have hlt : a < s.size := by omega
  have bb : s[a].toNat = bt s a := (bt_eq s a hlt).symm
  by_cases hc : bt s a ≠ 91
  · have q2 : ((bt s a : Int) != 91) = true := by rw [bne_iff_ne]; omega
    have hres : readR s (a : Int) = (0, 0, 1, 0) := by unfold readR; rw [if_neg ha, if_pos (.inr (by simpa using hc))]
    rw [hres]
    clear hres
    go_enter Tryz.func52, Tryz.ntmps52
    go_wp2
    exact bodyPost_ret (v := .tuple #[.agg #[.int .u64 0, .int .u64 0, .int .u64 0, .int .u64 0], .int .i64 0, .int .i64 1, .int .i64 0]) (by simp [results, Tryz.results52, go_sem]) rfl ⟨rfl, hB0⟩
  have q2 : ((bt s a : Int) != 91) = false := by have : bt s a = 91 := Decidable.not_not.1 hc; rw [this]; rfl
  have hres : readR s (a : Int) = finR (loopR s (s.size + 1) (startR s a) true) := by
    unfold readR
    rw [if_neg ha, if_neg (by simp; omega)]
    simp
  rw [hres]
  obtain ⟨p1, p2, p3, p4⟩ := startR_pos s a hlt
  generalize hL : loopR s (s.size + 1) (startR s a) true = L
  have HL := Lib.hid hL
  clear hres hL hc
  have HS1 : a + 1 < s.size ∧ bt s (a + 1) = 94 → startR s a = ⟨0, a + 2, 0, 0, false, true⟩ := fun h => by unfold startR; rw [if_pos h]
  have HS2 : ¬ (a + 1 < s.size ∧ bt s (a + 1) = 94) → startR s a = ⟨0, a + 1, 0, 0, false, false⟩ := fun h => by unfold startR; rw [if_neg h]
  generalize startR s a = x0 at *
  have HH1 := Lib.hid HS1
  have HH2 := Lib.hid HS2
  clear HS1 HS2
  have bX := Blk.new (w.alloc (.cells (setA 0) 38)) (stI 0 ((a : Int) + 1) 0 0 false false) 124
  rw [World.size_alloc] at bX
  have bR := b0.alloc (.cells (stI 0 ((a : Int) + 1) 0 0 false false) 124)
  have hBX : Below w.heap.size w ((w.alloc (.cells (setA 0) 38)).alloc (.cells (stI 0 ((a : Int) + 1) 0 0 false false) 124)) := hB0.alloc (by simp) _
  clear c0 c1 c2 c3 f0 f1 f2 f3 b0 hB0
  go_enter Tryz.func52, Tryz.ntmps52
  go_upto_region 4 with fail
  have e0 : ((w.alloc (.cells #[.int .u64 0, .int .u64 0, .int .u64 0, .int .u64 0] 38)).alloc (.cells #[.int .u64 0, .int .u64 0, .int .u64 0, .int .u64 0, .int .i64 ((a : Int) + 1), .int .i64 0, .int .i64 0, .bool false, .bool false] 124)) = (w.alloc (.cells (setA 0) 38)).alloc (.cells (stI 0 ((a : Int) + 1) 0 0 false false) 124) := rfl
  rw [e0]
  clear e0
  generalize (w.alloc (.cells (setA 0) 38)).alloc (.cells (stI 0 ((a : Int) + 1) 0 0 false false) 124) = w1 at *
  go_cut [39] from 28 to 38 (fun s39 wx => ∃ b : Bool, s39 = .bool b ∧ Hid (b = true ↔ (a + 1 < s.size ∧ bt s (a + 1) = 94)) ∧ w1 = wx)
  case first =>
    by_cases h1 : a + 1 < s.size
    · have r1 : decide ((a : Int) + 1 < (s.size : Int)) = true := by rw [decide_eq_true_eq]; omega
      have b1 : s[a + 1].toNat = bt s (a + 1) := (bt_eq s (a + 1) h1).symm
      by_cases h2 : bt s (a + 1) = 94
      · have r2 : ((bt s (a + 1) : Int) == 94) = true := by rw [beq_iff_eq]; omega
        have K1 := Lib.hid h1
        have K2 := Lib.hid h2
        clear h2
        go_wp2_with fail
        go_meet
        exact ⟨true, rfl, Lib.hid (by simp [K1.out, K2.out]), rfl⟩
      · have r2 : ((bt s (a + 1) : Int) == 94) = false := by rw [beq_eq_false_iff_ne]; omega
        have K2 := Lib.hid h2
        clear h2
        go_wp2_with fail
        go_meet
        exact ⟨false, rfl, Lib.hid (by simp [K2.out]), rfl⟩
    · have r1 : decide ((a : Int) + 1 < (s.size : Int)) = false := by rw [decide_eq_false_iff_not]; omega
      have K1 := Lib.hid h1
      clear h1
      go_wp2_with fail
      go_meet
      exact ⟨false, rfl, Lib.hid (by simp [K1.out]), rfl⟩
  case rest =>
  obtain ⟨b, rfl, HBB, rfl⟩ := hcut
  have BX := Lib.hid bX
  have BR := Lib.hid bR
  have HBX := Lib.hid hBX
  have hz : w.heap.size + 2 ≤ w1.heap.size := by have := BX.out.lt; omega
  clear bX bR hBX
  go_upto_if 39 with (fail)
  go_cut [40] from 41 to 43 (fun s40 wx => Blk wx (w.heap.size + 1) (stA x0) 124 ∧ Blk wx w.heap.size (setA 0) 38 ∧ Below w.heap.size w wx ∧ w.heap.size + 2 ≤ wx.heap.size)
  case first =>
    cases b with
    | true =>
      have h := HBB.out.1 rfl
      have c4 := BX.out.cell 4; have c8 := BX.out.cell 8; have f4 := BX.out.frozen 4; have f8 := BX.out.frozen 8
      simp only [List.getElem?_toArray, List.getElem?_cons_zero, List.getElem?_cons_succ] at c4 c8
      have hx := HH1.out h
      have HX2 := Lib.hid (show Blk ((w1.setCell ⟨w.heap.size + 1, 8, none⟩ (.bool true)).setCell ⟨w.heap.size + 1, 4, none⟩ (.int .i64 ((a : Int) + 2))) (w.heap.size + 1) (stA x0) 124 by rw [hx]; exact (BX.out.set 8 (.bool true)).set 4 (.int .i64 ((a : Int) + 2)))
      have HR2 := Lib.hid ((BR.out.other (show w.heap.size ≠ w.heap.size + 1 by omega) 8 (.bool true)).other (show w.heap.size ≠ w.heap.size + 1 by omega) 4 (.int .i64 ((a : Int) + 2)))
      have HB2 := Lib.hid (below_set (below_set HBX.out (show w.heap.size ≤ w.heap.size + 1 by omega) 8 (.bool true)) (show w.heap.size ≤ w.heap.size + 1 by omega) 4 (.int .i64 ((a : Int) + 2)))
      clear h hx
      go_wp2_with fail
      go_meet
      exact ⟨HX2.out, HR2.out, HB2.out, by simpa using hz⟩
    | false =>
      have hx := HH2.out (fun h => by have := HBB.out.2 h; cases this)
      have HX2 := Lib.hid (show Blk w1 (w.heap.size + 1) (stA x0) 124 by rw [hx]; exact BX.out)
      clear hx
      go_wp2_with fail
      go_meet
      exact ⟨HX2.out, BR.out, HBX.out, hz⟩
  case rest =>
  obtain ⟨hX, hR, hB, hz2⟩ := hcut
  clear BX BR HBX hz HH1 HH2 bb
  go_wp2_with fail
  go_loopw [9] (fun v wr => ∃ (x : BR) (first : Bool) (n : Nat), v = .bool first ∧ loopR s (n + 1) x first = L ∧ x.err = 0 ∧ x.pos ≤ s.size ∧ s.size ≤ n + x.pos ∧ Blk wr (w.heap.size + 1) (stA x) 124 ∧ Blk wr w.heap.size (setA 0) 38 ∧ Below w.heap.size w wr ∧ w.heap.size + 2 ≤ wr.heap.size)
    (fun _ wr => leftR (s.size + 1) (wr.cell? ⟨w.heap.size + 1, 4, none⟩))
  case atStart => exact ⟨x0, true, s.size, rfl, HL.out, p2, p1, by omega, hX, hR, hB, hz2⟩
  case round =>
    clear hX hR hB hz2 p1 p2 p3 p4
    obtain ⟨x, first, n, rfl, hl, he, hp, hn, hX, hR, hB, hz⟩ := hrel
    obtain ⟨t, i, err, place, fin, neg⟩ := x
    simp only at he hp hn
    subst he
    replace hX : Blk wr (w.heap.size + 1) (stI t i 0 place fin neg) 124 := hX
    have c7 := hX.cell 7
    simp only [List.getElem?_toArray, List.getElem?_cons_zero, List.getElem?_cons_succ] at c7
    have HX := Lib.hid hX
    have HR := Lib.hid hR
    have HB := Lib.hid hB
    have HLL := Lib.hid hl
    clear hX hR hB hl
    cases fin with
    | false =>
      have hth := thing_calls s hs t i 0 place false neg first
      have hok := thingR_ok s ⟨t, i, 0, place, false, neg⟩ first
      have hon := loopR_on s n ⟨t, i, 0, place, false, neg⟩ first rfl
      have her := loopR_err s n ⟨t, i, 0, place, false, neg⟩ first rfl
      generalize thingR s ⟨t, i, 0, place, false, neg⟩ first = y at hth hok hon her
      obtain ⟨t', i', err', place', fin', neg'⟩ := y
      simp only at hok hon her
      have HTH : Hid (∀ w, Calls Tryz.prog 65 #[.string s, .agg (stI t i 0 place false neg), .bool first] w fun e w' => e = .returned (.agg (stI t' i' err' place' fin' neg')) ∧ Below w.heap.size w w') := Lib.hid hth
      have HOK := Lib.hid hok
      have HON := Lib.hid hon
      have HER := Lib.hid her
      clear hth hok hon her
      go_wp2_with (first
        | ((with_reducible refine wpList_load_row (o := ⟨some 48, _, _, _, _, _⟩) rfl 124 _ rfl (w.heap.size + 1) rfl 124 (stI t i 0 place false neg) (0, 0) _ ?_ Tryz.underlying124 rfl ?_ ?_); exact HX.out; exact infoSt)
        | fail)
      refine (HTH.out _).mono ?_
      rintro e w3 ⟨rfl, hb⟩
      have HX3 := Lib.hid (HX.out.below hb (by omega))
      have HR3 := Lib.hid (HR.out.below hb (by omega))
      have HB3 := Lib.hid (HB.out.trans (hb.mono (by omega)))
      have hz3 := Nat.le_trans hz hb.size
      have HXO := HX.out.cell 4
      simp only [List.getElem?_toArray, List.getElem?_cons_zero, List.getElem?_cons_succ] at HXO
      replace HXO := Lib.hid HXO
      clear hb HX HR HB c7
      have HX4 := Lib.hid (Blk.setRow (cs := stI t' i' err' place' fin' neg') HX3.out)
      have HR4 := Lib.hid (show Blk (w3.setRow (w.heap.size + 1) (stI t' i' err' place' fin' neg')) w.heap.size (setA 0) 38 from (Below.block (below_setRow (B := w.heap.size + 1) (Below.refl _ w3) (Nat.le_refl _) _) _ (Nat.lt_succ_self _)).trans HR3.out)
      have HB4 := Lib.hid (below_row HB3.out (show w.heap.size ≤ w.heap.size + 1 by omega) (stI t' i' err' place' fin' neg'))
      have hz4 : w.heap.size + 2 ≤ (w3.setRow (w.heap.size + 1) (stI t' i' err' place' fin' neg')).heap.size := by simpa using hz3
      by_cases he : err' = 0
      · subst he
        have c5 : (w3.setRow (w.heap.size + 1) (stI t' i' 0 place' fin' neg')).cell? ⟨w.heap.size + 1, 5, none⟩ = some (.int .i64 0) := HX4.out.cell 5
        go_wp2_with (first
          | ((with_reducible refine wpList_store_st (o := ⟨none, .store 124 _ _, _, _, _, _⟩) rfl 124 _ _ rfl (w.heap.size + 1) rfl rfl (run_storeAt_row _ (w.heap.size + 1) 124 124 (stI t i 0 place false neg) (stI t' i' 0 place' fin' neg') ?_ ?_ ?_ ?_) ?_); exact HX3.out; exact infoSt; rfl; exact st_one _ _ _ _ _ _)
          | fail)
        have hok := HOK.out (by first | exact trivial | rfl)
        obtain ⟨m, rfl⟩ : ∃ m, n = m + 1 := ⟨n - 1, by omega⟩
        have hl2 := (HON.out (by first | exact trivial | rfl)).symm.trans HLL.out
        have c4 : (w3.setRow (w.heap.size + 1) (stI t' i' 0 place' fin' neg')).cell? ⟨w.heap.size + 1, 4, none⟩ = some (.int .i64 i') := HX4.out.cell 4
        have c4' := HXO.out
        go_roundw
        case rel => exact ⟨⟨t', i', 0, place', fin', neg'⟩, false, m, rfl, hl2, rfl, hok.2.1, by simp only; omega, HX4.out, HR4.out, HB4.out, hz4⟩
        case measure => rw [c4, c4']; simp [leftR]; omega
      · have hL := (HER.out he).symm.trans HLL.out
        have q6 : ((err' : Int) != 0) = true := by rw [bne_iff_ne]; omega
        have c5 : (w3.setRow (w.heap.size + 1) (stI t' i' err' place' fin' neg')).cell? ⟨w.heap.size + 1, 5, none⟩ = some (.int .i64 err') := HX4.out.cell 5
        have hfL : finR L = (0, 0, err', place') := by rw [← hL]; unfold finR; rw [if_pos (show (⟨t', i', err', place', fin', neg'⟩ : BR).err ≠ 0 from he)]
        have HFL := Lib.hid hfL
        clear hL hfL he
        go_wp2_with (first
          | ((with_reducible refine wpList_store_st (o := ⟨none, .store 124 _ _, _, _, _, _⟩) rfl 124 _ _ rfl (w.heap.size + 1) rfl rfl (run_storeAt_row _ (w.heap.size + 1) 124 124 (stI t i 0 place false neg) (stI t' i' err' place' fin' neg') ?_ ?_ ?_ ?_) ?_); exact HX3.out; exact infoSt; rfl; exact st_one _ _ _ _ _ _)
          | fail)
        have c6 : (w3.setRow (w.heap.size + 1) (stI t' i' err' place' fin' neg')).cell? ⟨w.heap.size + 1, 6, none⟩ = some (.int .i64 place') := HX4.out.cell 6
        clear HX3 HR3 HB3 hz3 HX4 HOK HON HER HTH
        generalize w3.setRow (w.heap.size + 1) (stI t' i' err' place' fin' neg') = w4 at *
        obtain ⟨⟨c0, c1, c2, c3⟩, f0, f1, f2, f3⟩ := HR4.out.cells4
        go_region
        go_wp2
        obtain ⟨hR5, hB5⟩ := fin4 HR4.out HB4.out (Nat.le_refl _) 0
        have e9 : ((((w4.setCell ⟨w.heap.size, 0, none⟩ (.int .u64 0)).setCell ⟨w.heap.size, 1, none⟩ (.int .u64 0)).setCell ⟨w.heap.size, 2, none⟩ (.int .u64 0)).setCell ⟨w.heap.size, 3, none⟩ (.int .u64 0)) = ((((w4.setCell ⟨w.heap.size, 0, none⟩ (.int .u64 (wd 0 0))).setCell ⟨w.heap.size, 1, none⟩ (.int .u64 (wd 0 1))).setCell ⟨w.heap.size, 2, none⟩ (.int .u64 (wd 0 2))).setCell ⟨w.heap.size, 3, none⟩ (.int .u64 (wd 0 3))) := rfl
        rw [e9]
        clear e9 c0 c1 c2 c3 f0 f1 f2 f3 c5 c6
        generalize ((((w4.setCell ⟨w.heap.size, 0, none⟩ (.int .u64 (wd 0 0))).setCell ⟨w.heap.size, 1, none⟩ (.int .u64 (wd 0 1))).setCell ⟨w.heap.size, 2, none⟩ (.int .u64 (wd 0 2))).setCell ⟨w.heap.size, 3, none⟩ (.int .u64 (wd 0 3))) = W5 at *
        obtain ⟨⟨e0, e1, e2, e3⟩, _⟩ := hR5.cells4
        exact bodyPost_ret (v := .tuple #[setV 0, .int .i64 0, .int .i64 err', .int .i64 place']) (by simp [results, Tryz.results52, go_sem, e0, e1, e2, e3]) rfl ⟨by rw [HFL.out] <;> rfl, hB5.drew⟩
    | true =>
      have hfin : (⟨t, i, 0, place, true, neg⟩ : BR) = L := by rw [← HLL.out, loopR_fin _ _ _ _ rfl]
      have hfL : finR L = (if neg = true then ~~~t else t, i, 0, 0) := by rw [← hfin]; rfl
      have HFL := Lib.hid hfL
      clear hfin hfL
      have c8 := HX.out.cell 8
      have c4 := HX.out.cell 4
      have d0 := HX.out.cell 0; have d1 := HX.out.cell 1; have d2 := HX.out.cell 2; have d3 := HX.out.cell 3
      simp only [List.getElem?_toArray, List.getElem?_cons_zero, List.getElem?_cons_succ] at c8 c4 d0 d1 d2 d3
      cases neg with
      | false =>
        obtain ⟨⟨c0, c1, c2, c3⟩, f0, f1, f2, f3⟩ := HR.out.cells4
        go_wp2_with fail
        go_region
        go_wp2
        obtain ⟨hR5, hB5⟩ := fin4 HR.out HB.out (Nat.le_refl _) t
        clear c0 c1 c2 c3 f0 f1 f2 f3 c4 d0 d1 d2 d3 c7 c8
        generalize ((((wr.setCell ⟨w.heap.size, 0, none⟩ (.int .u64 (wd t 0))).setCell ⟨w.heap.size, 1, none⟩ (.int .u64 (wd t 1))).setCell ⟨w.heap.size, 2, none⟩ (.int .u64 (wd t 2))).setCell ⟨w.heap.size, 3, none⟩ (.int .u64 (wd t 3))) = W5 at *
        obtain ⟨⟨e0, e1, e2, e3⟩, _⟩ := hR5.cells4
        exact bodyPost_ret (v := .tuple #[setV t, .int .i64 i, .int .i64 0, .int .i64 0]) (by simp [results, Tryz.results52, go_sem, e0, e1, e2, e3]) rfl ⟨by rw [HFL.out] <;> rfl, hB5.drew⟩
      | true =>
        have hnt := rnot_calls t
        generalize hr : ~~~t = r at hnt
        have HNT := Lib.hid hnt
        have HRR := Lib.hid hr
        clear hnt hr
        go_wp2_with fail
        refine (HNT.out _).mono ?_
        rintro e w3 ⟨rfl, hb⟩
        have HX3 := Lib.hid (HX.out.below hb (by omega))
        have HR3 := Lib.hid (HR.out.below hb (by omega))
        have HB3 := Lib.hid (HB.out.trans (hb.mono (by omega)))
        clear hb HX HR HB c8 c4 d0 d1 d2 d3 c7
        have c0 := HX3.out.cell 0; have c1 := HX3.out.cell 1; have c2 := HX3.out.cell 2; have c3 := HX3.out.cell 3
        have f0 := HX3.out.frozen 0; have f1 := HX3.out.frozen 1; have f2 := HX3.out.frozen 2; have f3 := HX3.out.frozen 3
        simp only [List.getElem?_toArray, List.getElem?_cons_zero, List.getElem?_cons_succ] at c0 c1 c2 c3
        go_upto_region 15 with fail
        have hne : w.heap.size ≠ w.heap.size + 1 := by omega
        have HX4 := Lib.hid (show Blk _ _ (stI r i 0 place true true) 124 from (((HX3.out.set 0 (.int .u64 (wd r 0))).set 1 (.int .u64 (wd r 1))).set 2 (.int .u64 (wd r 2))).set 3 (.int .u64 (wd r 3)))
        have HR4 := Lib.hid ((((HR3.out.other hne 0 (.int .u64 (wd r 0))).other hne 1 (.int .u64 (wd r 1))).other hne 2 (.int .u64 (wd r 2))).other hne 3 (.int .u64 (wd r 3)))
        have hle : w.heap.size ≤ w.heap.size + 1 := by omega
        have HB4 := Lib.hid (below_set (below_set (below_set (below_set HB3.out hle 0 (.int .u64 (wd r 0))) hle 1 (.int .u64 (wd r 1))) hle 2 (.int .u64 (wd r 2))) hle 3 (.int .u64 (wd r 3)))
        clear c0 c1 c2 c3 f0 f1 f2 f3 HX3 HR3 HB3 hne hle
        generalize ((((w3.setCell ⟨w.heap.size + 1, 0, none⟩ (.int .u64 (wd r 0))).setCell ⟨w.heap.size + 1, 1, none⟩ (.int .u64 (wd r 1))).setCell ⟨w.heap.size + 1, 2, none⟩ (.int .u64 (wd r 2))).setCell ⟨w.heap.size + 1, 3, none⟩ (.int .u64 (wd r 3))) = w4 at *
        have c4 := HX4.out.cell 4; have d0 := HX4.out.cell 0; have d1 := HX4.out.cell 1; have d2 := HX4.out.cell 2; have d3 := HX4.out.cell 3
        simp only [List.getElem?_toArray, List.getElem?_cons_zero, List.getElem?_cons_succ] at c4 d0 d1 d2 d3
        obtain ⟨⟨c0, c1, c2, c3⟩, f0, f1, f2, f3⟩ := HR4.out.cells4
        go_region
        go_wp2
        obtain ⟨hR5, hB5⟩ := fin4 HR4.out HB4.out (Nat.le_refl _) r
        clear c0 c1 c2 c3 f0 f1 f2 f3 c4 d0 d1 d2 d3
        generalize ((((w4.setCell ⟨w.heap.size, 0, none⟩ (.int .u64 (wd r 0))).setCell ⟨w.heap.size, 1, none⟩ (.int .u64 (wd r 1))).setCell ⟨w.heap.size, 2, none⟩ (.int .u64 (wd r 2))).setCell ⟨w.heap.size, 3, none⟩ (.int .u64 (wd r 3))) = W5 at *
        obtain ⟨⟨e0, e1, e2, e3⟩, _⟩ := hR5.cells4
        exact bodyPost_ret (v := .tuple #[setV r, .int .i64 i, .int .i64 0, .int .i64 0]) (by simp [results, Tryz.results52, go_sem, e0, e1, e2, e3]) rfl ⟨by rw [HFL.out, if_pos trivial, HRR.out] <;> rfl, hB5.drew⟩
end Go.Proofs.YtldaaelmifbbhaaGreat

/- The document's words: fourteen, one, Byte, Next. -/
namespace Go.Proofs.YtldaaelmifbbhaaGreat
open Go.RowKit BS

@[reducible] def woI (k a e : Int) (t : BitVec 256) (n m : Int) : Array Value := #[.int .i64 k, .int .i64 a, .int .i64 e, .int .u64 (wd t 0), .int .u64 (wd t 1), .int .u64 (wd t 2), .int .u64 (wd t 3), .int .i64 n, .int .i64 m]
def woA (w : WN) : Array Value := woI w.kind w.pos w.fin w.set w.n w.m
theorem infoWo : (Tryz.prog.info? 40).map (·.size) = some 9 := by kernel_rfl
theorem wo_one (k a e : Int) (t : BitVec 256) (n m : Int) : ((woI k a e t n m).all fun x => x.oneCell') = true := by simp [Value.oneCell']
theorem infoSe : (Tryz.prog.info? 38).map (·.size) = some 4 := by kernel_rfl
theorem se_one (t : BitVec 256) : ((setA t).all fun x => x.oneCell') = true := by simp [setA, Value.oneCell']
theorem results_cell2 {P : Program} {fn : Func} {p a b : Tmp} {ty : TypeId} (h : fn.results = #[.cell p ty, .tmp a, .tmp b]) (tmps : Array Value) (w : World) (g : Nat) (t : TypeId) (cs : Array Value) (fr : Nat × Nat) (d : TypeDesc)
    (hp : tmps.getD p undef = .pointer (some ⟨g, 0, none⟩)) (hg : w.heap[g]? = some (.cells cs t fr))
    (hu : P.underlying ty = some d) (hd : (match d with | .struct _ | .array _ _ => true | _ => false) = true) (hi : (P.info? ty).map (·.size) = some cs.size) :
    (results fn tmps).run P w = .ok (.tuple #[.agg cs, tmps.getD a undef, tmps.getD b undef]) w := by
  have hp' : tmps[p]?.getD undef = .pointer (some ⟨g, 0, none⟩) := by simpa using hp
  simp [results, h, hp', asAddr, run_loadVar_row w g t ty cs fr d hg hu hd hi]

theorem four14_no (b k : Nat) (hk : 14 ≤ k) (h : ∀ j, j < k → bt (ofT l14) j ≠ b) : four14 b = false := by
  unfold four14
  rw [Bool.eq_false_iff]
  intro hc
  have hm := List.contains_iff_mem.1 hc
  obtain ⟨j, hj, e⟩ := List.getElem_of_mem hm
  have hj' : j < 14 := hj
  exact h j (by omega) (by rw [bt_ofT l14 (by decide) j hj, e])
theorem four14_yes (b k : Nat) (hk : k < 14) (h : bt (ofT l14) k = b) : four14 b = true := by
  unfold four14
  rw [bt_ofT l14 (by decide) k hk] at h
  exact List.contains_iff_mem.2 (h ▸ List.getElem_mem hk)
set_option maxRecDepth 100000 in
set_option maxHeartbeats 2000000 in
theorem fourteen_calls (b : Nat) (w : World) : Calls Tryz.prog 55 #[.int .u8 b] w fun en w' => en = .returned (.bool (four14 b)) ∧ w = w' := by
  have hz : (ofT l14).size = 14 := rfl
  have HN := Lib.hid (four14_no b)
  have HY := Lib.hid (four14_yes b)
  go_enter Tryz.func55, Tryz.ntmps55
  go_wp2_with fail
  have e0 : (⟨#[46, 91, 93, 92, 40, 41, 42, 43, 63, 123, 125, 124, 94, 36]⟩ : ByteArray) = ofT l14 := rfl
  rw [e0]
  clear e0
  generalize ofT l14 = L at *
  go_loop [4] (fun x => ∃ k : Nat, k ≤ 14 ∧ x = .int .i64 k ∧ ∀ j, j < k → bt L j ≠ b) (fun x => 14 - (intOf x).toNat)
  case atStart => exact ⟨0, by omega, rfl, fun j hj => by omega⟩
  case round =>
    obtain ⟨k, hk, rfl, hno⟩ := hrel
    have HO := Lib.hid hno
    clear hno
    by_cases hlt : k < 14
    · have hd : decide (k < 14) = true := by simpa using hlt
      have hb : L[k].toNat = bt L k := (bt_eq L k (by omega)).symm
      by_cases he : bt L k = b
      · have HR := Lib.hid (HY.out k hlt he)
        have q : ((bt L k : Int) == (b : Int)) = true := by rw [beq_iff_eq]; omega
        clear HN HY he
        go_wp2_with fail
        go_ret
        exact ⟨by rw [HR.out] <;> rfl, rfl⟩
      · have q : ((bt L k : Int) == (b : Int)) = false := by rw [beq_eq_false_iff_ne]; omega
        have HE := Lib.hid he
        clear he
        go_wp2_with fail
        go_round
        case rel =>
          refine ⟨k + 1, by omega, by simp, fun j hj => ?_⟩
          by_cases hjk : j = k
          · subst hjk; exact HE.out
          · exact HO.out j (by omega)
        case measure => simp [intOf]; omega
    · have HR := Lib.hid (HN.out k (by omega) HO.out)
      have hd : decide (k < 14) = false := by simpa using hlt
      clear HN HY
      go_wp2_with fail
      go_ret
      exact ⟨by rw [HR.out] <;> rfl, rfl⟩

set_option maxRecDepth 100000 in
set_option maxHeartbeats 1000000 in
theorem oneW_calls (t : BitVec 256) (a e : Int) (w : World) : Calls Tryz.prog 53 #[setV t, .int .i64 a, .int .i64 e] w fun en w' => en = .returned (.agg (woI 1 a e t 0 0)) ∧ Below w.heap.size w w' := by
  have HC := Blk.new w (setA t) 38
  have HR := Blk.new (w.alloc (.cells (setA t) 38)) (woI 0 0 0 0 0 0) 40
  rw [World.size_alloc] at HR
  have HC2 := HC.alloc (.cells (woI 0 0 0 0 0 0) 40)
  have HB : Below w.heap.size w ((w.alloc (.cells (setA t) 38)).alloc (.cells (woI 0 0 0 0 0 0) 40)) := by go_grown
  go_enter Tryz.func53, Tryz.ntmps53
  go_upto_region 1 with fail
  have e0 : (w.alloc (.cells #[.int .u64 (wd t 0), .int .u64 (wd t 1), .int .u64 (wd t 2), .int .u64 (wd t 3)] 38)).alloc (.cells #[.int .i64 0, .int .i64 0, .int .i64 0, .int .u64 0, .int .u64 0, .int .u64 0, .int .u64 0, .int .i64 0, .int .i64 0] 40) = (w.alloc (.cells (setA t) 38)).alloc (.cells (woI 0 0 0 0 0 0) 40) := rfl
  rw [e0]
  clear e0 HC
  generalize (w.alloc (.cells (setA t) 38)).alloc (.cells (woI 0 0 0 0 0 0) 40) = w1 at *
  obtain ⟨⟨c0, c1, c2, c3⟩, _⟩ := HC2.cells4
  go_wp2_with ((with_reducible refine wpList_store_st (o := ⟨none, .store 40 _ _, _, _, _, _⟩) rfl 40 _ _ rfl (w.heap.size + 1) rfl rfl (run_storeAt_row _ (w.heap.size + 1) 40 40 (woI 0 0 0 0 0 0) (woI 1 a e t 0 0) ?_ ?_ ?_ ?_) ?_); exact HR; exact infoWo; rfl; exact wo_one _ _ _ _ _ _)
  exact bodyPost_ret (v := .agg (woI 1 a e t 0 0)) (results_cell_row rfl _ _ (w.heap.size + 1) 40 (woI 1 a e t 0 0) (0, 0) _ rfl (Blk.setRow HR) Tryz.underlying40 rfl infoWo) rfl ⟨rfl, below_row HB (by omega) _⟩
set_option maxRecDepth 100000 in
set_option maxHeartbeats 1000000 in
theorem byteW_calls (b : Nat) (hb : b < 256) (w : World) : Calls Tryz.prog 56 #[.int .u8 b] w fun en w' => en = .returned (setV (range b b)) ∧ Below w.heap.size w w' := by
  have HR := Lib.hid (fun w => rrange_calls b b w hb hb)
  generalize range b b = t at *
  have x : IntKind.i64.wrap (b : Int) = b := IntWalk.i64_in _ (by omega)
  go_enter Tryz.func56, Tryz.ntmps56
  go_upto_region 1 with fail
  have e0 : w.alloc (.cells #[.int .u64 0, .int .u64 0, .int .u64 0, .int .u64 0] 38) = w.alloc (.cells (setA 0) 38) := rfl
  rw [e0]
  clear e0
  have HC := Blk.new w (setA 0) 38
  have HB : Below w.heap.size w (w.alloc (.cells (setA 0) 38)) := by go_grown
  have hz : w.heap.size + 1 ≤ (w.alloc (.cells (setA 0) 38)).heap.size := by simp
  generalize w.alloc (.cells (setA 0) 38) = w1 at *
  go_wp2_with fail
  refine (HR.out _).mono ?_
  rintro en w2 ⟨rfl, hb2⟩
  have HC2 := HC.below hb2 HC.lt
  have HB2 := HB.trans (hb2.mono (by omega))
  clear HC HB hz HR
  go_wp2_with ((with_reducible refine wpList_store_st (o := ⟨none, .store 38 _ _, _, _, _, _⟩) rfl 38 _ _ rfl w.heap.size rfl rfl (run_storeAt_row _ w.heap.size 38 38 (setA 0) (setA t) ?_ ?_ ?_ ?_) ?_); exact HC2; exact infoSe; rfl; exact se_one _)
  exact bodyPost_ret (v := .agg (setA t)) (results_cell_row rfl _ _ w.heap.size 38 (setA t) (0, 0) _ rfl (Blk.setRow HC2) Tryz.underlying38 rfl infoSe) rfl ⟨rfl, below_row HB2 (Nat.le_refl _) _⟩

set_option maxRecDepth 100000 in
set_option maxHeartbeats 16000000 in
theorem rNext_calls (s : ByteArray) (hs : s.size ≤ 1000000) (at' : Int) (w : World) :
    Calls Tryz.prog 35 #[.string s, .int .i64 at'] w fun en w' => en = .returned (.tuple #[.agg (woA (nextN s at').1), .int .i64 (nextN s at').2.1, .int .i64 (nextN s at').2.2]) ∧ Below w.heap.size w w' := by
  have HR := Lib.hid (Blk.new w (woI 0 0 0 0 0 0) 40)
  have HB : Hid (Below w.heap.size w (w.alloc (.cells (woI 0 0 0 0 0 0) 40))) := Lib.hid (by go_grown)
  have hz : w.heap.size + 1 ≤ (w.alloc (.cells (woI 0 0 0 0 0 0) 40)).heap.size := by simp
  have hg : nextN s at' = nextN s at' := rfl
  conv at hg => rhs; unfold nextN
  by_cases hat : at' < 0 ∨ (s.size : Int) ≤ at'
  · rw [if_pos hat] at hg
    rw [hg]
    clear hg
    by_cases h0 : at' < 0
    · have q0 : decide (at' < 0) = true := by simpa using h0
      clear hat h0
      go_enter Tryz.func35, Tryz.ntmps35
      go_upto_region 1 with fail
      have e0 : w.alloc (.cells #[.int .i64 0, .int .i64 0, .int .i64 0, .int .u64 0, .int .u64 0, .int .u64 0, .int .u64 0, .int .i64 0, .int .i64 0] 40) = w.alloc (.cells (woI 0 0 0 0 0 0) 40) := rfl
      rw [e0]
      clear e0
      generalize w.alloc (.cells (woI 0 0 0 0 0 0) 40) = w1 at *
      go_wp2_with ((with_reducible refine wpList_store_st (o := ⟨none, .store 40 _ _, _, _, _, _⟩) rfl 40 _ _ rfl w.heap.size rfl rfl (run_storeAt_row _ w.heap.size 40 40 (woI 0 0 0 0 0 0) (woI 0 0 0 0 0 0) ?_ ?_ ?_ ?_) ?_); exact HR.out; exact infoWo; rfl; exact wo_one _ _ _ _ _ _)
      exact bodyPost_ret (v := .tuple #[.agg (woI 0 0 0 0 0 0), .int .i64 1, .int .i64 0]) (results_cell2 Tryz.results35 _ _ w.heap.size 40 (woI 0 0 0 0 0 0) (0, 0) _ rfl (Blk.setRow HR.out) Tryz.underlying40 rfl infoWo) rfl ⟨rfl, below_row HB.out (Nat.le_refl _) _⟩
    · have q0 : decide (at' < 0) = false := by simpa using h0
      have q1 : decide ((s.size : Int) ≤ at') = true := by rw [decide_eq_true_iff]; omega
      clear hat
      go_enter Tryz.func35, Tryz.ntmps35
      go_upto_region 1 with fail
      have e0 : w.alloc (.cells #[.int .i64 0, .int .i64 0, .int .i64 0, .int .u64 0, .int .u64 0, .int .u64 0, .int .u64 0, .int .i64 0, .int .i64 0] 40) = w.alloc (.cells (woI 0 0 0 0 0 0) 40) := rfl
      rw [e0]
      clear e0
      generalize w.alloc (.cells (woI 0 0 0 0 0 0) 40) = w1 at *
      go_wp2_with ((with_reducible refine wpList_store_st (o := ⟨none, .store 40 _ _, _, _, _, _⟩) rfl 40 _ _ rfl w.heap.size rfl rfl (run_storeAt_row _ w.heap.size 40 40 (woI 0 0 0 0 0 0) (woI 0 0 0 0 0 0) ?_ ?_ ?_ ?_) ?_); exact HR.out; exact infoWo; rfl; exact wo_one _ _ _ _ _ _)
      exact bodyPost_ret (v := .tuple #[.agg (woI 0 0 0 0 0 0), .int .i64 1, .int .i64 0]) (results_cell2 Tryz.results35 _ _ w.heap.size 40 (woI 0 0 0 0 0 0) (0, 0) _ rfl (Blk.setRow HR.out) Tryz.underlying40 rfl infoWo) rfl ⟨rfl, below_row HB.out (Nat.le_refl _) _⟩
  rw [if_neg hat] at hg
  obtain ⟨a, rfl⟩ : ∃ a : Nat, at' = a := ⟨at'.toNat, by omega⟩
  rw [show (a : Int).toNat = a from rfl] at hg
  rw [hg]
  have hlt : a < s.size := by omega
  clear hat hg
  have b0 : s[a].toNat = bt s a := (bt_eq s a hlt).symm
  have hb256 := bt_lt s a
  have hg : nextA s a = nextA s a := rfl
  conv at hg => rhs; unfold nextA
  generalize hB : bt s a = b at *
  generalize nextA s a = Y at *
  by_cases h40 : b = 40
  · subst h40
    obtain rfl : Y = (⟨2, a, a + 1, 0, 0, 0⟩, 0, 0) := hg.trans (if_pos rfl)
    clear hg
    go_enter Tryz.func35, Tryz.ntmps35
    go_upto_region 1 with fail
    have e0 : w.alloc (.cells #[.int .i64 0, .int .i64 0, .int .i64 0, .int .u64 0, .int .u64 0, .int .u64 0, .int .u64 0, .int .i64 0, .int .i64 0] 40) = w.alloc (.cells (woI 0 0 0 0 0 0) 40) := rfl
    rw [e0]
    clear e0
    generalize w.alloc (.cells (woI 0 0 0 0 0 0) 40) = w1 at *
    go_wp2_with ((with_reducible refine wpList_store_st (o := ⟨none, .store 40 _ _, _, _, _, _⟩) rfl 40 _ _ rfl w.heap.size rfl rfl (run_storeAt_row _ w.heap.size 40 40 (woI 0 0 0 0 0 0) (woI 2 a ((a : Int) + 1) 0 0 0) ?_ ?_ ?_ ?_) ?_); exact HR.out; exact infoWo; rfl; exact wo_one _ _ _ _ _ _)
    exact bodyPost_ret (v := .tuple #[.agg (woI 2 a ((a : Int) + 1) 0 0 0), .int .i64 0, .int .i64 0]) (results_cell2 Tryz.results35 _ _ w.heap.size 40 (woI 2 a ((a : Int) + 1) 0 0 0) (0, 0) _ rfl (Blk.setRow HR.out) Tryz.underlying40 rfl infoWo) rfl ⟨rfl, below_row HB.out (Nat.le_refl _) _⟩
  rw [if_neg h40] at hg
  have q40 : ((b : Int) == 40) = false := by rw [beq_eq_false_iff_ne]; omega
  by_cases h41 : b = 41
  · subst h41
    obtain rfl : Y = (⟨3, a, a + 1, 0, 0, 0⟩, 0, 0) := hg.trans (if_pos rfl)
    clear hg
    go_enter Tryz.func35, Tryz.ntmps35
    go_upto_region 1 with fail
    have e0 : w.alloc (.cells #[.int .i64 0, .int .i64 0, .int .i64 0, .int .u64 0, .int .u64 0, .int .u64 0, .int .u64 0, .int .i64 0, .int .i64 0] 40) = w.alloc (.cells (woI 0 0 0 0 0 0) 40) := rfl
    rw [e0]
    clear e0
    generalize w.alloc (.cells (woI 0 0 0 0 0 0) 40) = w1 at *
    go_wp2_with ((with_reducible refine wpList_store_st (o := ⟨none, .store 40 _ _, _, _, _, _⟩) rfl 40 _ _ rfl w.heap.size rfl rfl (run_storeAt_row _ w.heap.size 40 40 (woI 0 0 0 0 0 0) (woI 3 a ((a : Int) + 1) 0 0 0) ?_ ?_ ?_ ?_) ?_); exact HR.out; exact infoWo; rfl; exact wo_one _ _ _ _ _ _)
    exact bodyPost_ret (v := .tuple #[.agg (woI 3 a ((a : Int) + 1) 0 0 0), .int .i64 0, .int .i64 0]) (results_cell2 Tryz.results35 _ _ w.heap.size 40 (woI 3 a ((a : Int) + 1) 0 0 0) (0, 0) _ rfl (Blk.setRow HR.out) Tryz.underlying40 rfl infoWo) rfl ⟨rfl, below_row HB.out (Nat.le_refl _) _⟩
  rw [if_neg h41] at hg
  have q41 : ((b : Int) == 41) = false := by rw [beq_eq_false_iff_ne]; omega
  by_cases h124 : b = 124
  · subst h124
    obtain rfl : Y = (⟨4, a, a + 1, 0, 0, 0⟩, 0, 0) := hg.trans (if_pos rfl)
    clear hg
    go_enter Tryz.func35, Tryz.ntmps35
    go_upto_region 1 with fail
    have e0 : w.alloc (.cells #[.int .i64 0, .int .i64 0, .int .i64 0, .int .u64 0, .int .u64 0, .int .u64 0, .int .u64 0, .int .i64 0, .int .i64 0] 40) = w.alloc (.cells (woI 0 0 0 0 0 0) 40) := rfl
    rw [e0]
    clear e0
    generalize w.alloc (.cells (woI 0 0 0 0 0 0) 40) = w1 at *
    go_wp2_with ((with_reducible refine wpList_store_st (o := ⟨none, .store 40 _ _, _, _, _, _⟩) rfl 40 _ _ rfl w.heap.size rfl rfl (run_storeAt_row _ w.heap.size 40 40 (woI 0 0 0 0 0 0) (woI 4 a ((a : Int) + 1) 0 0 0) ?_ ?_ ?_ ?_) ?_); exact HR.out; exact infoWo; rfl; exact wo_one _ _ _ _ _ _)
    exact bodyPost_ret (v := .tuple #[.agg (woI 4 a ((a : Int) + 1) 0 0 0), .int .i64 0, .int .i64 0]) (results_cell2 Tryz.results35 _ _ w.heap.size 40 (woI 4 a ((a : Int) + 1) 0 0 0) (0, 0) _ rfl (Blk.setRow HR.out) Tryz.underlying40 rfl infoWo) rfl ⟨rfl, below_row HB.out (Nat.le_refl _) _⟩
  rw [if_neg h124] at hg
  have q124 : ((b : Int) == 124) = false := by rw [beq_eq_false_iff_ne]; omega
  by_cases h4 : b = 42 ∨ b = 43 ∨ b = 63 ∨ b = 123
  · rw [if_pos h4] at hg
    have hC := readN_calls s hs a
    unfold cntW at hg
    generalize readN s a = Z at *
    obtain ⟨n, m, p, e, k⟩ := Z
    simp only at hg
    have HC : Hid (∀ w, Calls Tryz.prog 51 #[.string s, .int .i64 a] w fun e' w' => e' = .returned (.tuple #[.int .i64 n, .int .i64 m, .int .i64 p, .int .i64 e, .int .i64 k]) ∧ w = w') := Lib.hid hC
    clear hC hB
    rcases (by omega : b = 42 ∨ b = 43 ∨ b = 63 ∨ b = 123) with rfl | rfl | rfl | rfl
    · by_cases he : e = 0
      · subst he
        obtain rfl : Y = (⟨5, a, p, 0, n, m⟩, 0, 0) := hg.trans (if_neg (by decide))
        clear hg
        go_enter Tryz.func35, Tryz.ntmps35
        go_upto_region 1 with fail
        have e0 : w.alloc (.cells #[.int .i64 0, .int .i64 0, .int .i64 0, .int .u64 0, .int .u64 0, .int .u64 0, .int .u64 0, .int .i64 0, .int .i64 0] 40) = w.alloc (.cells (woI 0 0 0 0 0 0) 40) := rfl
        rw [e0]
        clear e0
        generalize w.alloc (.cells (woI 0 0 0 0 0 0) 40) = w1 at *
        go_wp2_with fail
        refine (HC.out _).mono ?_
        rintro en w2 ⟨rfl, rfl⟩
        clear HC
        go_wp2_with ((with_reducible refine wpList_store_st (o := ⟨none, .store 40 _ _, _, _, _, _⟩) rfl 40 _ _ rfl w.heap.size rfl rfl (run_storeAt_row _ w.heap.size 40 40 (woI 0 0 0 0 0 0) (woI 5 a p 0 n m) ?_ ?_ ?_ ?_) ?_); exact HR.out; exact infoWo; rfl; exact wo_one _ _ _ _ _ _)
        exact bodyPost_ret (v := .tuple #[.agg (woI 5 a p 0 n m), .int .i64 0, .int .i64 0]) (results_cell2 Tryz.results35 _ _ w.heap.size 40 (woI 5 a p 0 n m) (0, 0) _ rfl (Blk.setRow HR.out) Tryz.underlying40 rfl infoWo) rfl ⟨rfl, below_row HB.out (Nat.le_refl _) _⟩
      · have qe : ((e : Int) != 0) = true := by rw [bne_iff_ne]; omega
        obtain rfl : Y = (zWN, e, k) := hg.trans (if_pos he)
        clear hg
        go_enter Tryz.func35, Tryz.ntmps35
        go_upto_region 1 with fail
        have e0 : w.alloc (.cells #[.int .i64 0, .int .i64 0, .int .i64 0, .int .u64 0, .int .u64 0, .int .u64 0, .int .u64 0, .int .i64 0, .int .i64 0] 40) = w.alloc (.cells (woI 0 0 0 0 0 0) 40) := rfl
        rw [e0]
        clear e0
        generalize w.alloc (.cells (woI 0 0 0 0 0 0) 40) = w1 at *
        go_wp2_with fail
        refine (HC.out _).mono ?_
        rintro en w2 ⟨rfl, rfl⟩
        clear HC
        go_wp2_with ((with_reducible refine wpList_store_st (o := ⟨none, .store 40 _ _, _, _, _, _⟩) rfl 40 _ _ rfl w.heap.size rfl rfl (run_storeAt_row _ w.heap.size 40 40 (woI 0 0 0 0 0 0) (woI 0 0 0 0 0 0) ?_ ?_ ?_ ?_) ?_); exact HR.out; exact infoWo; rfl; exact wo_one _ _ _ _ _ _)
        exact bodyPost_ret (v := .tuple #[.agg (woI 0 0 0 0 0 0), .int .i64 e, .int .i64 k]) (results_cell2 Tryz.results35 _ _ w.heap.size 40 (woI 0 0 0 0 0 0) (0, 0) _ rfl (Blk.setRow HR.out) Tryz.underlying40 rfl infoWo) rfl ⟨rfl, below_row HB.out (Nat.le_refl _) _⟩
    · by_cases he : e = 0
      · subst he
        obtain rfl : Y = (⟨5, a, p, 0, n, m⟩, 0, 0) := hg.trans (if_neg (by decide))
        clear hg
        go_enter Tryz.func35, Tryz.ntmps35
        go_upto_region 1 with fail
        have e0 : w.alloc (.cells #[.int .i64 0, .int .i64 0, .int .i64 0, .int .u64 0, .int .u64 0, .int .u64 0, .int .u64 0, .int .i64 0, .int .i64 0] 40) = w.alloc (.cells (woI 0 0 0 0 0 0) 40) := rfl
        rw [e0]
        clear e0
        generalize w.alloc (.cells (woI 0 0 0 0 0 0) 40) = w1 at *
        go_wp2_with fail
        refine (HC.out _).mono ?_
        rintro en w2 ⟨rfl, rfl⟩
        clear HC
        go_wp2_with ((with_reducible refine wpList_store_st (o := ⟨none, .store 40 _ _, _, _, _, _⟩) rfl 40 _ _ rfl w.heap.size rfl rfl (run_storeAt_row _ w.heap.size 40 40 (woI 0 0 0 0 0 0) (woI 5 a p 0 n m) ?_ ?_ ?_ ?_) ?_); exact HR.out; exact infoWo; rfl; exact wo_one _ _ _ _ _ _)
        exact bodyPost_ret (v := .tuple #[.agg (woI 5 a p 0 n m), .int .i64 0, .int .i64 0]) (results_cell2 Tryz.results35 _ _ w.heap.size 40 (woI 5 a p 0 n m) (0, 0) _ rfl (Blk.setRow HR.out) Tryz.underlying40 rfl infoWo) rfl ⟨rfl, below_row HB.out (Nat.le_refl _) _⟩
      · have qe : ((e : Int) != 0) = true := by rw [bne_iff_ne]; omega
        obtain rfl : Y = (zWN, e, k) := hg.trans (if_pos he)
        clear hg
        go_enter Tryz.func35, Tryz.ntmps35
        go_upto_region 1 with fail
        have e0 : w.alloc (.cells #[.int .i64 0, .int .i64 0, .int .i64 0, .int .u64 0, .int .u64 0, .int .u64 0, .int .u64 0, .int .i64 0, .int .i64 0] 40) = w.alloc (.cells (woI 0 0 0 0 0 0) 40) := rfl
        rw [e0]
        clear e0
        generalize w.alloc (.cells (woI 0 0 0 0 0 0) 40) = w1 at *
        go_wp2_with fail
        refine (HC.out _).mono ?_
        rintro en w2 ⟨rfl, rfl⟩
        clear HC
        go_wp2_with ((with_reducible refine wpList_store_st (o := ⟨none, .store 40 _ _, _, _, _, _⟩) rfl 40 _ _ rfl w.heap.size rfl rfl (run_storeAt_row _ w.heap.size 40 40 (woI 0 0 0 0 0 0) (woI 0 0 0 0 0 0) ?_ ?_ ?_ ?_) ?_); exact HR.out; exact infoWo; rfl; exact wo_one _ _ _ _ _ _)
        exact bodyPost_ret (v := .tuple #[.agg (woI 0 0 0 0 0 0), .int .i64 e, .int .i64 k]) (results_cell2 Tryz.results35 _ _ w.heap.size 40 (woI 0 0 0 0 0 0) (0, 0) _ rfl (Blk.setRow HR.out) Tryz.underlying40 rfl infoWo) rfl ⟨rfl, below_row HB.out (Nat.le_refl _) _⟩
    · by_cases he : e = 0
      · subst he
        obtain rfl : Y = (⟨5, a, p, 0, n, m⟩, 0, 0) := hg.trans (if_neg (by decide))
        clear hg
        go_enter Tryz.func35, Tryz.ntmps35
        go_upto_region 1 with fail
        have e0 : w.alloc (.cells #[.int .i64 0, .int .i64 0, .int .i64 0, .int .u64 0, .int .u64 0, .int .u64 0, .int .u64 0, .int .i64 0, .int .i64 0] 40) = w.alloc (.cells (woI 0 0 0 0 0 0) 40) := rfl
        rw [e0]
        clear e0
        generalize w.alloc (.cells (woI 0 0 0 0 0 0) 40) = w1 at *
        go_wp2_with fail
        refine (HC.out _).mono ?_
        rintro en w2 ⟨rfl, rfl⟩
        clear HC
        go_wp2_with ((with_reducible refine wpList_store_st (o := ⟨none, .store 40 _ _, _, _, _, _⟩) rfl 40 _ _ rfl w.heap.size rfl rfl (run_storeAt_row _ w.heap.size 40 40 (woI 0 0 0 0 0 0) (woI 5 a p 0 n m) ?_ ?_ ?_ ?_) ?_); exact HR.out; exact infoWo; rfl; exact wo_one _ _ _ _ _ _)
        exact bodyPost_ret (v := .tuple #[.agg (woI 5 a p 0 n m), .int .i64 0, .int .i64 0]) (results_cell2 Tryz.results35 _ _ w.heap.size 40 (woI 5 a p 0 n m) (0, 0) _ rfl (Blk.setRow HR.out) Tryz.underlying40 rfl infoWo) rfl ⟨rfl, below_row HB.out (Nat.le_refl _) _⟩
      · have qe : ((e : Int) != 0) = true := by rw [bne_iff_ne]; omega
        obtain rfl : Y = (zWN, e, k) := hg.trans (if_pos he)
        clear hg
        go_enter Tryz.func35, Tryz.ntmps35
        go_upto_region 1 with fail
        have e0 : w.alloc (.cells #[.int .i64 0, .int .i64 0, .int .i64 0, .int .u64 0, .int .u64 0, .int .u64 0, .int .u64 0, .int .i64 0, .int .i64 0] 40) = w.alloc (.cells (woI 0 0 0 0 0 0) 40) := rfl
        rw [e0]
        clear e0
        generalize w.alloc (.cells (woI 0 0 0 0 0 0) 40) = w1 at *
        go_wp2_with fail
        refine (HC.out _).mono ?_
        rintro en w2 ⟨rfl, rfl⟩
        clear HC
        go_wp2_with ((with_reducible refine wpList_store_st (o := ⟨none, .store 40 _ _, _, _, _, _⟩) rfl 40 _ _ rfl w.heap.size rfl rfl (run_storeAt_row _ w.heap.size 40 40 (woI 0 0 0 0 0 0) (woI 0 0 0 0 0 0) ?_ ?_ ?_ ?_) ?_); exact HR.out; exact infoWo; rfl; exact wo_one _ _ _ _ _ _)
        exact bodyPost_ret (v := .tuple #[.agg (woI 0 0 0 0 0 0), .int .i64 e, .int .i64 k]) (results_cell2 Tryz.results35 _ _ w.heap.size 40 (woI 0 0 0 0 0 0) (0, 0) _ rfl (Blk.setRow HR.out) Tryz.underlying40 rfl infoWo) rfl ⟨rfl, below_row HB.out (Nat.le_refl _) _⟩
    · by_cases he : e = 0
      · subst he
        obtain rfl : Y = (⟨5, a, p, 0, n, m⟩, 0, 0) := hg.trans (if_neg (by decide))
        clear hg
        go_enter Tryz.func35, Tryz.ntmps35
        go_upto_region 1 with fail
        have e0 : w.alloc (.cells #[.int .i64 0, .int .i64 0, .int .i64 0, .int .u64 0, .int .u64 0, .int .u64 0, .int .u64 0, .int .i64 0, .int .i64 0] 40) = w.alloc (.cells (woI 0 0 0 0 0 0) 40) := rfl
        rw [e0]
        clear e0
        generalize w.alloc (.cells (woI 0 0 0 0 0 0) 40) = w1 at *
        go_wp2_with fail
        refine (HC.out _).mono ?_
        rintro en w2 ⟨rfl, rfl⟩
        clear HC
        go_wp2_with ((with_reducible refine wpList_store_st (o := ⟨none, .store 40 _ _, _, _, _, _⟩) rfl 40 _ _ rfl w.heap.size rfl rfl (run_storeAt_row _ w.heap.size 40 40 (woI 0 0 0 0 0 0) (woI 5 a p 0 n m) ?_ ?_ ?_ ?_) ?_); exact HR.out; exact infoWo; rfl; exact wo_one _ _ _ _ _ _)
        exact bodyPost_ret (v := .tuple #[.agg (woI 5 a p 0 n m), .int .i64 0, .int .i64 0]) (results_cell2 Tryz.results35 _ _ w.heap.size 40 (woI 5 a p 0 n m) (0, 0) _ rfl (Blk.setRow HR.out) Tryz.underlying40 rfl infoWo) rfl ⟨rfl, below_row HB.out (Nat.le_refl _) _⟩
      · have qe : ((e : Int) != 0) = true := by rw [bne_iff_ne]; omega
        obtain rfl : Y = (zWN, e, k) := hg.trans (if_pos he)
        clear hg
        go_enter Tryz.func35, Tryz.ntmps35
        go_upto_region 1 with fail
        have e0 : w.alloc (.cells #[.int .i64 0, .int .i64 0, .int .i64 0, .int .u64 0, .int .u64 0, .int .u64 0, .int .u64 0, .int .i64 0, .int .i64 0] 40) = w.alloc (.cells (woI 0 0 0 0 0 0) 40) := rfl
        rw [e0]
        clear e0
        generalize w.alloc (.cells (woI 0 0 0 0 0 0) 40) = w1 at *
        go_wp2_with fail
        refine (HC.out _).mono ?_
        rintro en w2 ⟨rfl, rfl⟩
        clear HC
        go_wp2_with ((with_reducible refine wpList_store_st (o := ⟨none, .store 40 _ _, _, _, _, _⟩) rfl 40 _ _ rfl w.heap.size rfl rfl (run_storeAt_row _ w.heap.size 40 40 (woI 0 0 0 0 0 0) (woI 0 0 0 0 0 0) ?_ ?_ ?_ ?_) ?_); exact HR.out; exact infoWo; rfl; exact wo_one _ _ _ _ _ _)
        exact bodyPost_ret (v := .tuple #[.agg (woI 0 0 0 0 0 0), .int .i64 e, .int .i64 k]) (results_cell2 Tryz.results35 _ _ w.heap.size 40 (woI 0 0 0 0 0 0) (0, 0) _ rfl (Blk.setRow HR.out) Tryz.underlying40 rfl infoWo) rfl ⟨rfl, below_row HB.out (Nat.le_refl _) _⟩
  rw [if_neg h4] at hg
  have q42 : ((b : Int) == 42) = false := by rw [beq_eq_false_iff_ne]; omega
  have q43 : ((b : Int) == 43) = false := by rw [beq_eq_false_iff_ne]; omega
  have q63 : ((b : Int) == 63) = false := by rw [beq_eq_false_iff_ne]; omega
  have q123 : ((b : Int) == 123) = false := by rw [beq_eq_false_iff_ne]; omega
  by_cases h91 : b = 91
  · subst h91
    rw [if_pos rfl] at hg
    have hC := rRead_calls s hs a
    unfold brkW at hg
    generalize readR s a = Z at *
    obtain ⟨t, p, e, k⟩ := Z
    simp only at hg
    have HC : Hid (∀ w, Calls Tryz.prog 52 #[.string s, .int .i64 a] w fun e' w' => e' = .returned (.tuple #[setV t, .int .i64 p, .int .i64 e, .int .i64 k]) ∧ Below w.heap.size w w') := Lib.hid hC
    have HO := Lib.hid (oneW_calls t a p)
    clear hC hB
    by_cases he : e = 0
    · subst he
      obtain rfl : Y = (oneW t a p, 0, 0) := hg.trans (if_neg (by decide))
      clear hg
      go_enter Tryz.func35, Tryz.ntmps35
      go_upto_region 1 with fail
      have e0 : w.alloc (.cells #[.int .i64 0, .int .i64 0, .int .i64 0, .int .u64 0, .int .u64 0, .int .u64 0, .int .u64 0, .int .i64 0, .int .i64 0] 40) = w.alloc (.cells (woI 0 0 0 0 0 0) 40) := rfl
      rw [e0]
      clear e0
      generalize w.alloc (.cells (woI 0 0 0 0 0 0) 40) = w1 at *
      go_wp2_with fail
      refine (HC.out _).mono ?_
      rintro en w2 ⟨rfl, hb⟩
      have HR2 := Lib.hid (HR.out.below hb (Blk.lt HR.out))
      have HB2 := Lib.hid (HB.out.trans (hb.mono (by omega)))
      have hz2 := Nat.le_trans hz hb.size
      clear HR HB hz hb
      have HR := HR2
      have HB := HB2
      have hz := hz2
      clear HR2 HB2 hz2
      clear HC
      go_upto_region 20 with fail
      have HP := Blk.new w2 (setA t) 38
      replace HR := Lib.hid (HR.out.alloc (.cells (setA t) 38))
      replace HB := Lib.hid (HB.out.alloc (by omega) (.cells (setA t) 38))
      have hz2 : w.heap.size + 1 ≤ (w2.alloc (.cells (setA t) 38)).heap.size := by simp; omega
      clear hz
      have hz := hz2
      clear hz2
      have e0 : w2.alloc (.cells #[.int .u64 (wd t 0), .int .u64 (wd t 1), .int .u64 (wd t 2), .int .u64 (wd t 3)] 38) = w2.alloc (.cells (setA t) 38) := rfl
      try rw [e0]
      clear e0
      generalize w2.alloc (.cells (setA t) 38) = w3 at *
      generalize w2.heap.size = B at *
      obtain ⟨⟨c0, c1, c2, c3⟩, _⟩ := HP.cells4
      clear HP
      go_wp2_with fail
      refine (HO.out _).mono ?_
      rintro en w4 ⟨rfl, hb⟩
      have HR2 := Lib.hid (HR.out.below hb (Blk.lt HR.out))
      have HB2 := Lib.hid (HB.out.trans (hb.mono (by omega)))
      have hz2 := Nat.le_trans hz hb.size
      clear HR HB hz hb
      have HR := HR2
      have HB := HB2
      have hz := hz2
      clear HR2 HB2 hz2
      clear HO c0 c1 c2 c3
      go_wp2_with ((with_reducible refine wpList_store_st (o := ⟨none, .store 40 _ _, _, _, _, _⟩) rfl 40 _ _ rfl w.heap.size rfl rfl (run_storeAt_row _ w.heap.size 40 40 (woI 0 0 0 0 0 0) (woI 1 a p t 0 0) ?_ ?_ ?_ ?_) ?_); exact HR.out; exact infoWo; rfl; exact wo_one _ _ _ _ _ _)
      exact bodyPost_ret (v := .tuple #[.agg (woI 1 a p t 0 0), .int .i64 0, .int .i64 0]) (results_cell2 Tryz.results35 _ _ w.heap.size 40 (woI 1 a p t 0 0) (0, 0) _ rfl (Blk.setRow HR.out) Tryz.underlying40 rfl infoWo) rfl ⟨rfl, below_row HB.out (Nat.le_refl _) _⟩
    · have qe : ((e : Int) != 0) = true := by rw [bne_iff_ne]; omega
      obtain rfl : Y = (zWN, e, k) := hg.trans (if_pos he)
      clear hg HO
      go_enter Tryz.func35, Tryz.ntmps35
      go_upto_region 1 with fail
      have e0 : w.alloc (.cells #[.int .i64 0, .int .i64 0, .int .i64 0, .int .u64 0, .int .u64 0, .int .u64 0, .int .u64 0, .int .i64 0, .int .i64 0] 40) = w.alloc (.cells (woI 0 0 0 0 0 0) 40) := rfl
      rw [e0]
      clear e0
      generalize w.alloc (.cells (woI 0 0 0 0 0 0) 40) = w1 at *
      go_wp2_with fail
      refine (HC.out _).mono ?_
      rintro en w2 ⟨rfl, hb⟩
      have HR2 := Lib.hid (HR.out.below hb (Blk.lt HR.out))
      have HB2 := Lib.hid (HB.out.trans (hb.mono (by omega)))
      have hz2 := Nat.le_trans hz hb.size
      clear HR HB hz hb
      have HR := HR2
      have HB := HB2
      have hz := hz2
      clear HR2 HB2 hz2
      clear HC
      go_upto_region 20 with fail
      have HP := Blk.new w2 (setA t) 38
      replace HR := Lib.hid (HR.out.alloc (.cells (setA t) 38))
      replace HB := Lib.hid (HB.out.alloc (by omega) (.cells (setA t) 38))
      have hz2 : w.heap.size + 1 ≤ (w2.alloc (.cells (setA t) 38)).heap.size := by simp; omega
      clear hz
      have hz := hz2
      clear hz2
      have e0 : w2.alloc (.cells #[.int .u64 (wd t 0), .int .u64 (wd t 1), .int .u64 (wd t 2), .int .u64 (wd t 3)] 38) = w2.alloc (.cells (setA t) 38) := rfl
      try rw [e0]
      clear e0
      generalize w2.alloc (.cells (setA t) 38) = w3 at *
      generalize w2.heap.size = B at *
      obtain ⟨⟨c0, c1, c2, c3⟩, _⟩ := HP.cells4
      clear HP
      clear c0 c1 c2 c3
      go_wp2_with ((with_reducible refine wpList_store_st (o := ⟨none, .store 40 _ _, _, _, _, _⟩) rfl 40 _ _ rfl w.heap.size rfl rfl (run_storeAt_row _ w.heap.size 40 40 (woI 0 0 0 0 0 0) (woI 0 0 0 0 0 0) ?_ ?_ ?_ ?_) ?_); exact HR.out; exact infoWo; rfl; exact wo_one _ _ _ _ _ _)
      exact bodyPost_ret (v := .tuple #[.agg (woI 0 0 0 0 0 0), .int .i64 e, .int .i64 k]) (results_cell2 Tryz.results35 _ _ w.heap.size 40 (woI 0 0 0 0 0 0) (0, 0) _ rfl (Blk.setRow HR.out) Tryz.underlying40 rfl infoWo) rfl ⟨rfl, below_row HB.out (Nat.le_refl _) _⟩
  rw [if_neg h91] at hg
  have q91 : ((b : Int) == 91) = false := by rw [beq_eq_false_iff_ne]; omega
  by_cases h46 : b = 46
  · subst h46
    rw [if_pos rfl] at hg
    have HA := Lib.hid (fun w => rrange_calls 0 255 w (by decide) (by decide))
    have HO : Hid (∀ w, Calls Tryz.prog 53 #[setV (range 0 255), .int .i64 a, .int .i64 ((a : Int) + 1)] w fun en w' => en = .returned (.agg (woI 1 a ((a : Int) + 1) (range 0 255) 0 0)) ∧ Below w.heap.size w w') := Lib.hid (oneW_calls (range 0 255) a ((a : Int) + 1))
    generalize range 0 255 = t at *
    subst hg
    go_enter Tryz.func35, Tryz.ntmps35
    go_upto_region 1 with fail
    have e0 : w.alloc (.cells #[.int .i64 0, .int .i64 0, .int .i64 0, .int .u64 0, .int .u64 0, .int .u64 0, .int .u64 0, .int .i64 0, .int .i64 0] 40) = w.alloc (.cells (woI 0 0 0 0 0 0) 40) := rfl
    rw [e0]
    clear e0
    generalize w.alloc (.cells (woI 0 0 0 0 0 0) 40) = w1 at *
    go_wp2_with fail
    refine (HA.out _).mono ?_
    rintro en w2 ⟨rfl, hb⟩
    have HR2 := Lib.hid (HR.out.below hb (Blk.lt HR.out))
    have HB2 := Lib.hid (HB.out.trans (hb.mono (by omega)))
    have hz2 := Nat.le_trans hz hb.size
    clear HR HB hz hb
    have HR := HR2
    have HB := HB2
    have hz := hz2
    clear HR2 HB2 hz2
    clear HA
    go_wp2_with fail
    refine (HO.out _).mono ?_
    rintro en w4 ⟨rfl, hb⟩
    have HR2 := Lib.hid (HR.out.below hb (Blk.lt HR.out))
    have HB2 := Lib.hid (HB.out.trans (hb.mono (by omega)))
    have hz2 := Nat.le_trans hz hb.size
    clear HR HB hz hb
    have HR := HR2
    have HB := HB2
    have hz := hz2
    clear HR2 HB2 hz2
    clear HO
    go_wp2_with ((with_reducible refine wpList_store_st (o := ⟨none, .store 40 _ _, _, _, _, _⟩) rfl 40 _ _ rfl w.heap.size rfl rfl (run_storeAt_row _ w.heap.size 40 40 (woI 0 0 0 0 0 0) (woI 1 a ((a : Int) + 1) t 0 0) ?_ ?_ ?_ ?_) ?_); exact HR.out; exact infoWo; rfl; exact wo_one _ _ _ _ _ _)
    exact bodyPost_ret (v := .tuple #[.agg (woI 1 a ((a : Int) + 1) t 0 0), .int .i64 0, .int .i64 0]) (results_cell2 Tryz.results35 _ _ w.heap.size 40 (woI 1 a ((a : Int) + 1) t 0 0) (0, 0) _ rfl (Blk.setRow HR.out) Tryz.underlying40 rfl infoWo) rfl ⟨rfl, below_row HB.out (Nat.le_refl _) _⟩
  rw [if_neg h46] at hg
  have q46 : ((b : Int) == 46) = false := by rw [beq_eq_false_iff_ne]; omega
  by_cases h94 : b = 94 ∨ b = 36
  · rw [if_pos h94] at hg
    subst hg
    clear hB
    rcases h94 with rfl | rfl
    · go_enter Tryz.func35, Tryz.ntmps35
      go_upto_region 1 with fail
      have e0 : w.alloc (.cells #[.int .i64 0, .int .i64 0, .int .i64 0, .int .u64 0, .int .u64 0, .int .u64 0, .int .u64 0, .int .i64 0, .int .i64 0] 40) = w.alloc (.cells (woI 0 0 0 0 0 0) 40) := rfl
      rw [e0]
      clear e0
      generalize w.alloc (.cells (woI 0 0 0 0 0 0) 40) = w1 at *
      go_wp2_with ((with_reducible refine wpList_store_st (o := ⟨none, .store 40 _ _, _, _, _, _⟩) rfl 40 _ _ rfl w.heap.size rfl rfl (run_storeAt_row _ w.heap.size 40 40 (woI 0 0 0 0 0 0) (woI 0 0 0 0 0 0) ?_ ?_ ?_ ?_) ?_); exact HR.out; exact infoWo; rfl; exact wo_one _ _ _ _ _ _)
      exact bodyPost_ret (v := .tuple #[.agg (woI 0 0 0 0 0 0), .int .i64 3, .int .i64 ((a : Int) + 1)]) (results_cell2 Tryz.results35 _ _ w.heap.size 40 (woI 0 0 0 0 0 0) (0, 0) _ rfl (Blk.setRow HR.out) Tryz.underlying40 rfl infoWo) rfl ⟨rfl, below_row HB.out (Nat.le_refl _) _⟩
    · go_enter Tryz.func35, Tryz.ntmps35
      go_upto_region 1 with fail
      have e0 : w.alloc (.cells #[.int .i64 0, .int .i64 0, .int .i64 0, .int .u64 0, .int .u64 0, .int .u64 0, .int .u64 0, .int .i64 0, .int .i64 0] 40) = w.alloc (.cells (woI 0 0 0 0 0 0) 40) := rfl
      rw [e0]
      clear e0
      generalize w.alloc (.cells (woI 0 0 0 0 0 0) 40) = w1 at *
      go_wp2_with ((with_reducible refine wpList_store_st (o := ⟨none, .store 40 _ _, _, _, _, _⟩) rfl 40 _ _ rfl w.heap.size rfl rfl (run_storeAt_row _ w.heap.size 40 40 (woI 0 0 0 0 0 0) (woI 0 0 0 0 0 0) ?_ ?_ ?_ ?_) ?_); exact HR.out; exact infoWo; rfl; exact wo_one _ _ _ _ _ _)
      exact bodyPost_ret (v := .tuple #[.agg (woI 0 0 0 0 0 0), .int .i64 3, .int .i64 ((a : Int) + 1)]) (results_cell2 Tryz.results35 _ _ w.heap.size 40 (woI 0 0 0 0 0 0) (0, 0) _ rfl (Blk.setRow HR.out) Tryz.underlying40 rfl infoWo) rfl ⟨rfl, below_row HB.out (Nat.le_refl _) _⟩
  rw [if_neg h94] at hg
  have q94 : ((b : Int) == 94) = false := by rw [beq_eq_false_iff_ne]; omega
  have q36 : ((b : Int) == 36) = false := by rw [beq_eq_false_iff_ne]; omega
  by_cases h92 : b = 92
  · subst h92
    rw [if_pos rfl] at hg
    clear hB
    unfold slashW at hg
    by_cases h1 : s.size ≤ a + 1
    · rw [if_pos h1] at hg
      subst hg
      have qs : decide ((s.size : Int) ≤ (a : Int) + 1) = true := by rw [decide_eq_true_iff]; omega
      go_enter Tryz.func35, Tryz.ntmps35
      go_upto_region 1 with fail
      have e0 : w.alloc (.cells #[.int .i64 0, .int .i64 0, .int .i64 0, .int .u64 0, .int .u64 0, .int .u64 0, .int .u64 0, .int .i64 0, .int .i64 0] 40) = w.alloc (.cells (woI 0 0 0 0 0 0) 40) := rfl
      rw [e0]
      clear e0
      generalize w.alloc (.cells (woI 0 0 0 0 0 0) 40) = w1 at *
      go_wp2_with ((with_reducible refine wpList_store_st (o := ⟨none, .store 40 _ _, _, _, _, _⟩) rfl 40 _ _ rfl w.heap.size rfl rfl (run_storeAt_row _ w.heap.size 40 40 (woI 0 0 0 0 0 0) (woI 0 0 0 0 0 0) ?_ ?_ ?_ ?_) ?_); exact HR.out; exact infoWo; rfl; exact wo_one _ _ _ _ _ _)
      exact bodyPost_ret (v := .tuple #[.agg (woI 0 0 0 0 0 0), .int .i64 2, .int .i64 s.size]) (results_cell2 Tryz.results35 _ _ w.heap.size 40 (woI 0 0 0 0 0 0) (0, 0) _ rfl (Blk.setRow HR.out) Tryz.underlying40 rfl infoWo) rfl ⟨rfl, below_row HB.out (Nat.le_refl _) _⟩
    rw [if_neg h1] at hg
    have qs : decide ((s.size : Int) ≤ (a : Int) + 1) = false := by rw [decide_eq_false_iff_not]; omega
    have hlt1 : a + 1 < s.size := by omega
    have b1 : s[a + 1].toNat = bt s (a + 1) := (bt_eq s (a + 1) hlt1).symm
    have hc256 := bt_lt s (a + 1)
    have u1 : (0 : Int) ≤ (a : Int) + 1 := by omega
    have u2 : ((a : Int) + 1).toNat = a + 1 := by omega
    have u3 : (a : Int) + 1 < (s.size : Int) := by omega
    generalize bt s (a + 1) = c at *
    have HF := Lib.hid (fourteen_calls c)
    cases hf : four14 c with
    | false =>
      rw [hf, if_pos rfl] at hg
      rw [hf] at HF
      subst hg
      go_enter Tryz.func35, Tryz.ntmps35
      go_upto_region 1 with fail
      have e0 : w.alloc (.cells #[.int .i64 0, .int .i64 0, .int .i64 0, .int .u64 0, .int .u64 0, .int .u64 0, .int .u64 0, .int .i64 0, .int .i64 0] 40) = w.alloc (.cells (woI 0 0 0 0 0 0) 40) := rfl
      rw [e0]
      clear e0
      generalize w.alloc (.cells (woI 0 0 0 0 0 0) 40) = w1 at *
      go_wp2_with fail
      refine (HF.out _).mono ?_
      rintro en w2 ⟨rfl, rfl⟩
      clear HF
      go_wp2_with ((with_reducible refine wpList_store_st (o := ⟨none, .store 40 _ _, _, _, _, _⟩) rfl 40 _ _ rfl w.heap.size rfl rfl (run_storeAt_row _ w.heap.size 40 40 (woI 0 0 0 0 0 0) (woI 0 0 0 0 0 0) ?_ ?_ ?_ ?_) ?_); exact HR.out; exact infoWo; rfl; exact wo_one _ _ _ _ _ _)
      exact bodyPost_ret (v := .tuple #[.agg (woI 0 0 0 0 0 0), .int .i64 3, .int .i64 ((a : Int) + 2)]) (results_cell2 Tryz.results35 _ _ w.heap.size 40 (woI 0 0 0 0 0 0) (0, 0) _ rfl (Blk.setRow HR.out) Tryz.underlying40 rfl infoWo) rfl ⟨rfl, below_row HB.out (Nat.le_refl _) _⟩
    | true =>
      rw [hf, if_neg (by decide)] at hg
      rw [hf] at HF
      have HA := Lib.hid (byteW_calls c hc256)
      have HO : Hid (∀ w, Calls Tryz.prog 53 #[setV (range c c), .int .i64 a, .int .i64 ((a : Int) + 2)] w fun en w' => en = .returned (.agg (woI 1 a ((a : Int) + 2) (range c c) 0 0)) ∧ Below w.heap.size w w') := Lib.hid (oneW_calls (range c c) a ((a : Int) + 2))
      generalize range c c = t at *
      subst hg
      go_enter Tryz.func35, Tryz.ntmps35
      go_upto_region 1 with fail
      have e0 : w.alloc (.cells #[.int .i64 0, .int .i64 0, .int .i64 0, .int .u64 0, .int .u64 0, .int .u64 0, .int .u64 0, .int .i64 0, .int .i64 0] 40) = w.alloc (.cells (woI 0 0 0 0 0 0) 40) := rfl
      rw [e0]
      clear e0
      generalize w.alloc (.cells (woI 0 0 0 0 0 0) 40) = w1 at *
      go_wp2_with fail
      refine (HF.out _).mono ?_
      rintro en w2 ⟨rfl, rfl⟩
      clear HF
      go_wp2_with fail
      refine (HA.out _).mono ?_
      rintro en w2 ⟨rfl, hb⟩
      have HR2 := Lib.hid (HR.out.below hb (Blk.lt HR.out))
      have HB2 := Lib.hid (HB.out.trans (hb.mono (by omega)))
      have hz2 := Nat.le_trans hz hb.size
      clear HR HB hz hb
      have HR := HR2
      have HB := HB2
      have hz := hz2
      clear HR2 HB2 hz2
      clear HA
      go_wp2_with fail
      refine (HO.out _).mono ?_
      rintro en w4 ⟨rfl, hb⟩
      have HR2 := Lib.hid (HR.out.below hb (Blk.lt HR.out))
      have HB2 := Lib.hid (HB.out.trans (hb.mono (by omega)))
      have hz2 := Nat.le_trans hz hb.size
      clear HR HB hz hb
      have HR := HR2
      have HB := HB2
      have hz := hz2
      clear HR2 HB2 hz2
      clear HO
      go_wp2_with ((with_reducible refine wpList_store_st (o := ⟨none, .store 40 _ _, _, _, _, _⟩) rfl 40 _ _ rfl w.heap.size rfl rfl (run_storeAt_row _ w.heap.size 40 40 (woI 0 0 0 0 0 0) (woI 1 a ((a : Int) + 2) t 0 0) ?_ ?_ ?_ ?_) ?_); exact HR.out; exact infoWo; rfl; exact wo_one _ _ _ _ _ _)
      exact bodyPost_ret (v := .tuple #[.agg (woI 1 a ((a : Int) + 2) t 0 0), .int .i64 0, .int .i64 0]) (results_cell2 Tryz.results35 _ _ w.heap.size 40 (woI 1 a ((a : Int) + 2) t 0 0) (0, 0) _ rfl (Blk.setRow HR.out) Tryz.underlying40 rfl infoWo) rfl ⟨rfl, below_row HB.out (Nat.le_refl _) _⟩
  rw [if_neg h92] at hg
  have q92 : ((b : Int) == 92) = false := by rw [beq_eq_false_iff_ne]; omega
  have HA := Lib.hid (byteW_calls b hb256)
  have HO : Hid (∀ w, Calls Tryz.prog 53 #[setV (range b b), .int .i64 a, .int .i64 ((a : Int) + 1)] w fun en w' => en = .returned (.agg (woI 1 a ((a : Int) + 1) (range b b) 0 0)) ∧ Below w.heap.size w w') := Lib.hid (oneW_calls (range b b) a ((a : Int) + 1))
  generalize range b b = t at *
  subst hg
  clear hB h40 h41 h124 h4 h91 h46 h94 h92
  go_enter Tryz.func35, Tryz.ntmps35
  go_upto_region 1 with fail
  have e0 : w.alloc (.cells #[.int .i64 0, .int .i64 0, .int .i64 0, .int .u64 0, .int .u64 0, .int .u64 0, .int .u64 0, .int .i64 0, .int .i64 0] 40) = w.alloc (.cells (woI 0 0 0 0 0 0) 40) := rfl
  rw [e0]
  clear e0
  generalize w.alloc (.cells (woI 0 0 0 0 0 0) 40) = w1 at *
  go_wp2_with fail
  refine (HA.out _).mono ?_
  rintro en w2 ⟨rfl, hb⟩
  have HR2 := Lib.hid (HR.out.below hb (Blk.lt HR.out))
  have HB2 := Lib.hid (HB.out.trans (hb.mono (by omega)))
  have hz2 := Nat.le_trans hz hb.size
  clear HR HB hz hb
  have HR := HR2
  have HB := HB2
  have hz := hz2
  clear HR2 HB2 hz2
  clear HA
  go_wp2_with fail
  refine (HO.out _).mono ?_
  rintro en w4 ⟨rfl, hb⟩
  have HR2 := Lib.hid (HR.out.below hb (Blk.lt HR.out))
  have HB2 := Lib.hid (HB.out.trans (hb.mono (by omega)))
  have hz2 := Nat.le_trans hz hb.size
  clear HR HB hz hb
  have HR := HR2
  have HB := HB2
  have hz := hz2
  clear HR2 HB2 hz2
  clear HO
  go_wp2_with ((with_reducible refine wpList_store_st (o := ⟨none, .store 40 _ _, _, _, _, _⟩) rfl 40 _ _ rfl w.heap.size rfl rfl (run_storeAt_row _ w.heap.size 40 40 (woI 0 0 0 0 0 0) (woI 1 a ((a : Int) + 1) t 0 0) ?_ ?_ ?_ ?_) ?_); exact HR.out; exact infoWo; rfl; exact wo_one _ _ _ _ _ _)
  exact bodyPost_ret (v := .tuple #[.agg (woI 1 a ((a : Int) + 1) t 0 0), .int .i64 0, .int .i64 0]) (results_cell2 Tryz.results35 _ _ w.heap.size 40 (woI 1 a ((a : Int) + 1) t 0 0) (0, 0) _ rfl (Blk.setRow HR.out) Tryz.underlying40 rfl infoWo) rfl ⟨rfl, below_row HB.out (Nat.le_refl _) _⟩
end Go.Proofs.YtldaaelmifbbhaaGreat

/- The developers' reading of a pattern: what of it lies in memory. Stage 7. -/
namespace Go.Proofs.YtldaaelmifbbhaaGreat
open Go.RowKit BS

@[reducible] def preA (s : ByteArray) (a : Int) (vN vL : Value) (g : Int) : Array Value := #[.string s, .int .i64 a, vN, vL, .int .i64 g]
def lvCells (st : List (Nat × Nat)) : List Value := st.flatMap fun x => [.int .i64 x.2, .int .i64 x.1]
theorem lvCells_app (l m : List (Nat × Nat)) : lvCells (l ++ m) = lvCells l ++ lvCells m := by simp [lvCells]
theorem lvCells_len (l : List (Nat × Nat)) : (lvCells l).length = l.length * 2 := by
  induction l with
  | nil => rfl
  | cons x l ih =>
    have e : lvCells (x :: l) = [.int .i64 x.2, .int .i64 x.1] ++ lvCells l := by simp [lvCells]
    rw [e, List.length_append, ih, List.length_cons]
    simp; omega
theorem lvCells_last (l : List (Nat × Nat)) (x : Nat × Nat) : (lvCells (l ++ [x]))[l.length * 2]? = some (.int .i64 x.2) ∧ (lvCells (l ++ [x]))[l.length * 2 + 1]? = some (.int .i64 x.1) := by
  rw [lvCells_app]
  constructor
  · rw [List.getElem?_append_right (by rw [lvCells_len]; omega), lvCells_len, Nat.sub_self]; rfl
  · rw [List.getElem?_append_right (by rw [lvCells_len]; omega), lvCells_len, show l.length * 2 + 1 - l.length * 2 = 1 by omega]; rfl
theorem lvCells_set0 (l : List (Nat × Nat)) (n r r' : Nat) : (lvCells (l ++ [(n, r)])).set (l.length * 2) (.int .i64 r') = lvCells (l ++ [(n, r')]) := by
  rw [lvCells_app, lvCells_app, List.set_append_right _ _ (by rw [lvCells_len]; omega), lvCells_len, Nat.sub_self]
  rfl
theorem lvCells_set1 (l : List (Nat × Nat)) (n n' r : Nat) : (lvCells (l ++ [(n, r)])).set (l.length * 2 + 1) (.int .i64 n') = lvCells (l ++ [(n', r)]) := by
  rw [lvCells_app, lvCells_app, List.set_append_right _ _ (by rw [lvCells_len]; omega), lvCells_len, show l.length * 2 + 1 - l.length * 2 = 1 by omega]
  rfl
theorem lvCells_take (l : List (Nat × Nat)) (x : Nat × Nat) : (lvCells (l ++ [x])).take (l.length * 2) = lvCells l := by
  rw [lvCells_app, ← lvCells_len l, List.take_left]

/-- What was read so far lies at R: the nodes and the levels in rows of the call's own. -/
structure RdV (base R : Nat) (s : ByteArray) (a : Nat) (x : PS) (vN vL : Value) (w0 w : World) : Prop where
  blk : Blk w R (preA s a vN vL x.groups) 59
  nodes : w.ownsRow base 92 8 vN x.l.length (ndCells x.l)
  levels : w.ownsRow base 84 2 vL x.st.length (lvCells x.st.reverse)
  nR : vN.ownBlock ≠ some R
  lR : vL.ownBlock ≠ some R
  nl : vN.ownBlock = none ∨ vN.ownBlock ≠ vL.ownBlock
  bR : base ≤ R
  bel : Below base w0 w
theorem owns_lt {w : World} {base : Nat} {e : TypeId} {size : Nat} {v : Value} {n : Nat} {xs : List Value} (h : w.ownsRow base e size v n xs) {g : Nat} (hg : v.ownBlock = some g) : g < w.heap.size := (h.lt g hg).2
theorem owns_below {W W' : World} {base : Nat} {e : TypeId} {size : Nat} {v : Value} {n : Nat} {xs : List Value} (h : W.ownsRow base e size v n xs) (hb : Below W.heap.size W W') : W'.ownsRow base e size v n xs :=
  owns_keep h fun _ hg => hb.block _ (owns_lt h hg)
section
variable {base R : Nat} {s : ByteArray} {a : Nat} {x : PS} {vN vL : Value} {w0 w : World}
theorem RdV.below (h : RdV base R s a x vN vL w0 w) {w' : World} (hb : Below w.heap.size w w') : RdV base R s a x vN vL w0 w' :=
  ⟨h.blk.below hb h.blk.lt, owns_below h.nodes hb, owns_below h.levels hb, h.nR, h.lR, h.nl, h.bR, h.bel.trans (hb.mono (Nat.le_trans h.bR (Nat.le_of_lt h.blk.lt)))⟩
theorem RdV.size (h : RdV base R s a x vN vL w0 w) : base ≤ w.heap.size := Nat.le_trans h.bR (Nat.le_of_lt h.blk.lt)
theorem RdV.alloc (h : RdV base R s a x vN vL w0 w) (o : Obj) : RdV base R s a x vN vL w0 (w.alloc o) := h.below ((Below.refl _ _).alloc (Nat.le_refl _) o)
theorem RdV.drew (h : RdV base R s a x vN vL w0 w) : RdV base R s a x vN vL w0 w.drew := ⟨h.blk, h.nodes, h.levels, h.nR, h.lR, h.nl, h.bR, h.bel.drew⟩
theorem RdV.c (h : RdV base R s a x vN vL w0 w) : w.cell? ⟨R, 0, none⟩ = some (.string s) ∧ w.cell? ⟨R, 1, none⟩ = some (.int .i64 a) ∧ w.cell? ⟨R, 2, none⟩ = some vN ∧ w.cell? ⟨R, 3, none⟩ = some vL ∧ w.cell? ⟨R, 4, none⟩ = some (.int .i64 x.groups) :=
  ⟨h.blk.cell 0, h.blk.cell 1, h.blk.cell 2, h.blk.cell 3, h.blk.cell 4⟩
/-- The levels: where they lie, and what the innermost one is. -/
theorem RdV.top {n r : Nat} {st : List (Nat × Nat)} (h : RdV base R s a x vN vL w0 w) (hx : x.st = (n, r) :: st) : ∃ g cap, vL = .slice (some ⟨g, 0, none⟩) ((st.length + 1 : Nat) : Nat) cap ∧ base ≤ g ∧ g < w.heap.size ∧ g ≠ R ∧ st.length + 1 ≤ cap ∧
    w.cell? ⟨g, st.length * 2, none⟩ = some (.int .i64 r) ∧ w.cell? ⟨g, st.length * 2 + 1, none⟩ = some (.int .i64 n) ∧ w.frozen? ⟨g, st.length * 2, none⟩ = false ∧ w.frozen? ⟨g, st.length * 2 + 1, none⟩ = false ∧ w.frozen? ⟨R, 1, none⟩ = false := by
  have hl := h.levels
  rw [hx, List.length_cons, List.reverse_cons] at hl
  obtain ⟨g, cap, rfl, hb, hlt⟩ := hl.form (by omega)
  have hcap : st.length + 1 ≤ cap := by
    rcases hl.2 with ⟨hv, _⟩ | ⟨g', cap', cur, hv, _, _, hc, _⟩
    · cases hv
    · cases hv; exact hc
  refine ⟨g, cap, rfl, hb, hlt, fun e => h.lR (by rw [← e]; rfl), hcap, ?_, ?_, hl.frozenAt _, hl.frozenAt _, h.blk.frozen 1⟩
  · rw [hl.cellAt _ (by omega)]
    have := (lvCells_last st.reverse (n, r)).1
    rwa [List.length_reverse] at this
  · rw [hl.cellAt _ (by omega)]
    have := (lvCells_last st.reverse (n, r)).2
    rwa [List.length_reverse] at this
/-- The innermost level, written anew. -/
theorem RdV.put {n r : Nat} {st : List (Nat × Nat)} {g cap : Nat} (h : RdV base R s a x vN (.slice (some ⟨g, 0, none⟩) (st.length + 1 : Nat) cap) w0 w) (hx : x.st = (n, r) :: st) (n' : Nat) :
    RdV base R s a ⟨x.l, (n', r) :: st, x.groups⟩ vN (.slice (some ⟨g, 0, none⟩) (st.length + 1 : Nat) cap) w0 (w.setCell ⟨g, st.length * 2 + 1, none⟩ (.int .i64 n')) := by
  have hl := h.levels
  rw [hx, List.length_cons, List.reverse_cons] at hl
  have hbg := (hl.lt g rfl)
  have hgR : R ≠ g := fun e => h.lR (by rw [e]; rfl)
  refine ⟨h.blk.other hgR _ _, ?_, ?_, h.nR, h.lR, h.nl, h.bR, below_set h.bel hbg.1 _ _⟩
  · refine owns_keep h.nodes fun k hk => Below.heap_setCell _ _ _ _ ?_
    show k ≠ g
    rintro rfl
    rcases h.nl with h1 | h1
    · rw [h1] at hk; cases hk
    · exact h1 hk
  · have := hl.stored (st.length * 2 + 1) (.int .i64 n')
    show World.ownsRow _ base _ 2 _ (st.length + 1) (lvCells (((n', r) :: st).reverse))
    rw [List.reverse_cons, ← lvCells_set1 st.reverse n n' r, List.length_reverse]
    exact this.1
theorem RdV.put0 {n r : Nat} {st : List (Nat × Nat)} {g cap : Nat} (h : RdV base R s a x vN (.slice (some ⟨g, 0, none⟩) (st.length + 1 : Nat) cap) w0 w) (hx : x.st = (n, r) :: st) (r' : Nat) :
    RdV base R s a ⟨x.l, (n, r') :: st, x.groups⟩ vN (.slice (some ⟨g, 0, none⟩) (st.length + 1 : Nat) cap) w0 (w.setCell ⟨g, st.length * 2, none⟩ (.int .i64 r')) := by
  have hl := h.levels
  rw [hx, List.length_cons, List.reverse_cons] at hl
  have hbg := (hl.lt g rfl)
  have hgR : R ≠ g := fun e => h.lR (by rw [e]; rfl)
  refine ⟨h.blk.other hgR _ _, ?_, ?_, h.nR, h.lR, h.nl, h.bR, below_set h.bel hbg.1 _ _⟩
  · refine owns_keep h.nodes fun k hk => Below.heap_setCell _ _ _ _ ?_
    show k ≠ g
    rintro rfl
    rcases h.nl with h1 | h1
    · rw [h1] at hk; cases hk
    · exact h1 hk
  · have := hl.stored (st.length * 2) (.int .i64 r')
    show World.ownsRow _ base _ 2 _ (st.length + 1) (lvCells (((n, r') :: st).reverse))
    rw [List.reverse_cons, ← lvCells_set0 st.reverse n r r', List.length_reverse]
    exact this.1
/-- A cell of the struct itself, written anew. -/
theorem RdV.setAt (h : RdV base R s a x vN vL w0 w) (a' : Nat) : RdV base R s a' x vN vL w0 (w.setCell ⟨R, 1, none⟩ (.int .i64 a')) :=
  ⟨by have := h.blk.set 1 (.int .i64 a'); simpa using this, owns_keep h.nodes fun k hk => Below.heap_setCell _ _ _ _ (fun e => h.nR (by rw [hk, e])), owns_keep h.levels fun k hk => Below.heap_setCell _ _ _ _ (fun e => h.lR (by rw [hk, e])), h.nR, h.lR, h.nl, h.bR, below_set h.bel h.bR _ _⟩
theorem RdV.setGroups (h : RdV base R s a x vN vL w0 w) (g : Nat) : RdV base R s a ⟨x.l, x.st, g⟩ vN vL w0 (w.setCell ⟨R, 4, none⟩ (.int .i64 g)) :=
  ⟨by have := h.blk.set 4 (.int .i64 g); simpa using this, owns_keep h.nodes fun k hk => Below.heap_setCell _ _ _ _ (fun e => h.nR (by rw [hk, e])), owns_keep h.levels fun k hk => Below.heap_setCell _ _ _ _ (fun e => h.lR (by rw [hk, e])), h.nR, h.lR, h.nl, h.bR, below_set h.bel h.bR _ _⟩
/-- Nodes more: behind an append. -/
theorem RdV.pushN (h : RdV base R s a x vN vL w0 w) {w1 : World} {nd : NdN} {g cap : Nat} (hown : w1.ownsRow base 92 8 (.slice (some ⟨g, 0, none⟩) (x.l.length + 1 : Nat) cap) (x.l.length + 1) (ndCells x.l ++ (ndA nd).toList)) (hg : w.grownBy w1 vN.ownBlock) (hat : vN.ownBlock = some g ∨ w.heap.size ≤ g) :
    RdV base R s a ⟨x.l ++ [nd], x.st, x.groups⟩ (.slice (some ⟨g, 0, none⟩) (x.l.length + 1 : Nat) cap) vL w0 (w1.setCell ⟨R, 2, none⟩ (.slice (some ⟨g, 0, none⟩) (x.l.length + 1 : Nat) cap)) := by
  have hRg : g ≠ R := by
    rintro rfl
    rcases hat with h1 | h1
    · exact h.nR h1
    · have := h.blk.lt; omega
  have hb : Below base w0 w1 := h.bel.grown hg h.size fun k hk => (h.nodes.lt k hk).1
  refine ⟨?_, ?_, ?_, ?_, h.lR, ?_, h.bR, below_set hb h.bR _ _⟩
  · have := (h.blk.kept hg (fun e => h.nR e.symm)).set 2 (.slice (some ⟨g, 0, none⟩) (x.l.length + 1 : Nat) cap)
    simpa using this
  · show World.ownsRow _ base _ 8 _ (x.l ++ [nd]).length (ndCells (x.l ++ [nd]))
    rw [List.length_append, ndCells_app, show ndCells [nd] = (ndA nd).toList by simp [ndCells]]
    exact owns_keep hown fun k hk => Below.heap_setCell _ _ _ _ (fun e => hRg (by cases hk; exact e))
  · refine owns_keep (h.levels.kept hg ?_) fun k hk => Below.heap_setCell _ _ _ _ (fun e => h.lR (by rw [hk, e]))
    rcases h.nl with h1 | h1
    · rw [h1]
      cases hv : vL.ownBlock with
      | none => exact .inl rfl
      | some k => exact .inr (by simp)
    · exact .inr (Ne.symm h1)
  · intro e; cases e; exact hRg rfl
  · right
    intro e
    have e' : vL.ownBlock = some g := e.symm
    rcases hat with h1 | h1
    · rcases h.nl with h2 | h2
      · rw [h2] at h1; cases h1
      · exact h2 (h1.trans e'.symm)
    · have := owns_lt h.levels e'; omega
/-- A level more: behind an append. -/
theorem RdV.pushL (h : RdV base R s a x vN vL w0 w) {w1 : World} {g cap : Nat} (hown : w1.ownsRow base 84 2 (.slice (some ⟨g, 0, none⟩) (x.st.length + 1 : Nat) cap) (x.st.length + 1) (lvCells x.st.reverse ++ [.int .i64 0, .int .i64 0])) (hg : w.grownBy w1 vL.ownBlock) (hat : vL.ownBlock = some g ∨ w.heap.size ≤ g) :
    RdV base R s a ⟨x.l, (0, 0) :: x.st, x.groups⟩ vN (.slice (some ⟨g, 0, none⟩) (x.st.length + 1 : Nat) cap) w0 (w1.setCell ⟨R, 3, none⟩ (.slice (some ⟨g, 0, none⟩) (x.st.length + 1 : Nat) cap)) := by
  have hRg : g ≠ R := by
    rintro rfl
    rcases hat with h1 | h1
    · exact h.lR h1
    · have := h.blk.lt; omega
  have hb : Below base w0 w1 := h.bel.grown hg h.size fun k hk => (h.levels.lt k hk).1
  refine ⟨?_, ?_, ?_, h.nR, ?_, ?_, h.bR, below_set hb h.bR _ _⟩
  · have := (h.blk.kept hg (fun e => h.lR e.symm)).set 3 (.slice (some ⟨g, 0, none⟩) (x.st.length + 1 : Nat) cap)
    simpa using this
  · refine owns_keep (h.nodes.kept hg ?_) fun k hk => Below.heap_setCell _ _ _ _ (fun e => h.nR (by rw [hk, e]))
    rcases h.nl with h1 | h1
    · exact .inl h1
    · exact .inr h1
  · show World.ownsRow _ base _ 2 _ ((0, 0) :: x.st).length (lvCells ((0, 0) :: x.st).reverse)
    rw [List.length_cons, List.reverse_cons, lvCells_app]
    exact owns_keep hown fun k hk => Below.heap_setCell _ _ _ _ (fun e => hRg (by cases hk; exact e))
  · intro e; cases e; exact hRg rfl
  · rcases h.nl with h1 | h1
    · exact .inl h1
    · right
      intro e
      have e' : vN.ownBlock = some g := e
      rcases hat with h2 | h2
      · exact h1 (e'.trans h2.symm)
      · have := owns_lt h.nodes e'; omega
/-- A level less: by slicing. -/
theorem RdV.popL {p : Nat × Nat} {st : List (Nat × Nat)} {g cap : Nat} (h : RdV base R s a x vN (.slice (some ⟨g, 0, none⟩) (st.length + 1 : Nat) cap) w0 w) (hx : x.st = p :: st) :
    RdV base R s a ⟨x.l, st, x.groups⟩ vN (.slice (some ⟨g, 0, none⟩) (st.length : Nat) cap) w0 (w.setCell ⟨R, 3, none⟩ (.slice (some ⟨g, 0, none⟩) (st.length : Nat) cap)) := by
  have hl := h.levels
  rw [hx, List.length_cons, List.reverse_cons] at hl
  refine ⟨by have := h.blk.set 3 (.slice (some ⟨g, 0, none⟩) (st.length : Nat) cap); simpa using this, owns_keep h.nodes fun k hk => Below.heap_setCell _ _ _ _ (fun e => h.nR (by rw [hk, e])), ?_, h.nR, h.lR, h.nl, h.bR, below_set h.bel h.bR _ _⟩
  refine owns_keep (W := w) ⟨by rw [lvCells_len, List.length_reverse], ?_⟩ fun k hk => Below.heap_setCell _ _ _ _ (fun e => h.lR (by cases hk; exact congrArg some e))
  rcases hl.2 with ⟨hv, _⟩ | ⟨g', cap', cur, hv, h1, h2, h3, h4, h5, h6⟩
  · cases hv
  · cases hv
    refine .inr ⟨g, cap, cur, rfl, h1, h2, (by show st.length ≤ cap; omega), h4, h5, ?_⟩
    have := congrArg (List.take (st.length * 2)) h6
    rw [List.take_take, show min (st.length * 2) ((st.length + 1) * 2) = st.length * 2 by omega] at this
    have e := lvCells_take st.reverse p
    rw [List.length_reverse] at e
    rw [e] at this
    exact this
end
end Go.Proofs.YtldaaelmifbbhaaGreat

/- The developers' reading: open, level, add, addPiece, endRow, endRows. Stage 7. -/
namespace Go.Proofs.YtldaaelmifbbhaaGreat
open Go.RowKit BS

set_option maxRecDepth 100000 in
set_option maxHeartbeats 1000000 in
theorem popen_calls (R k : Nat) (ad : Option Addr) (cap : Nat) (w : World) (h3 : w.cell? ⟨R, 3, none⟩ = some (.slice ad (k + 1 : Nat) cap)) (hk : k ≤ 2000000) :
    Calls Tryz.prog 24 #[.pointer (some ⟨R, 0, none⟩)] w fun e w' => e = .returned (.int .i64 k) ∧ w = w' := by
  go_enter Tryz.func24, Tryz.ntmps24
  go_wp2_with fail
  go_ret
  exact ⟨rfl, rfl⟩
set_option maxRecDepth 100000 in
set_option maxHeartbeats 1000000 in
theorem plevel_calls (R g k cap : Nat) (w : World) (h3 : w.cell? ⟨R, 3, none⟩ = some (.slice (some ⟨g, 0, none⟩) (k + 1 : Nat) cap)) (hk : k ≤ 2000000) :
    Calls Tryz.prog 39 #[.pointer (some ⟨R, 0, none⟩)] w fun e w' => e = .returned (.pointer (some ⟨g, k * 2, none⟩)) ∧ Below w.heap.size w w' := by
  have q0 : (0 : Int) ≤ (k : Int) := by omega
  have q1 : (k : Int) < ((k + 1 : Nat) : Int) := by omega
  go_enter Tryz.func39, Tryz.ntmps39
  go_wp2_with fail
  go_quiet (fail)
  go_wp2_with fail
  go_ret
  exact ⟨rfl, below_drN (Below.refl _ _) _⟩

set_option maxRecDepth 100000 in
set_option maxHeartbeats 8000000 in
theorem padd_calls {base R : Nat} {s : ByteArray} {a : Nat} {x : PS} {vN vL : Value} {w0 : World} (nd : NdN) (w : World) (h : RdV base R s a x vN vL w0 w) (hl : x.l.length ≤ 4000000) :
    Calls Tryz.prog 43 #[.pointer (some ⟨R, 0, none⟩), .agg (ndA nd)] w fun e w' => e = .returned (.tuple #[]) ∧ ∃ vN', RdV base R s a ⟨x.l ++ [nd], x.st, x.groups⟩ vN' vL w0 w' := by
  obtain ⟨i0, hi0, hz0, hz1, hz2⟩ := info_parts info8n
  obtain ⟨k, c, n, m, t⟩ := nd
  have hB := Blk.new w (ndI k c n m t) 92
  have hr := h.alloc (.cells (ndI k c n m t) 92)
  have hne : vN.ownBlock ≠ some w.heap.size := fun e => by have := owns_lt h.nodes e; omega
  have hRlt := h.blk.lt
  clear h
  show Calls Tryz.prog 43 #[.pointer (some ⟨R, 0, none⟩), .agg (ndI k c n m t)] w fun e w' => e = .returned (.tuple #[]) ∧ ∃ vN', RdV base R s a ⟨x.l ++ [⟨k, c, n, m, t⟩], x.st, x.groups⟩ vN' vL w0 w'
  go_enter Tryz.func43, Tryz.ntmps43
  go_upto_region 1 with fail
  generalize w.alloc (.cells (ndI k c n m t) 92) = w1 at *
  generalize w.heap.size = B1 at *
  have cR := hr.c.2.2.1
  have c0 := hB.cell 0; have c1 := hB.cell 1; have c2 := hB.cell 2; have c3 := hB.cell 3; have c4 := hB.cell 4; have c5 := hB.cell 5; have c6 := hB.cell 6; have c7 := hB.cell 7
  simp only [List.getElem?_toArray, List.getElem?_cons_zero, List.getElem?_cons_succ] at c0 c1 c2 c3 c4 c5 c6 c7
  have hBlt := hB.lt
  have hRlt1 := hr.blk.lt
  have nR := hr.nR
  have hsz := hr.size
  have HR := Lib.hid hr
  have ffR := hr.blk.frozen 2
  clear hr hB
  go_region_law
    ((refine step_append_lies _ (by rfl) _ _ _ (by rfl) base 92 i0 _ 8 64 Tryz.underlying28 hi0 hz0 hz1 hz2 rfl (by omega) vN x.l.length (ndCells x.l) (by rfl) ((HR.out.alloc _).drew).nodes
        ⟨w1.heap.size, 0, none⟩ 1 1 (ndI k c n m t).toList (by rfl) (by rfl) (World.news_of_block (cs := ndI k c n m t) (t := 92) (fr := (0, 0)) (heap_alloc_new w1 _)) (by simp [Value.oneCell'])
        (by omega) (by simp only [maxLen]; omega) (by omega) (by simp; omega) (w1.heap.size + 1) (by simp) ?_; intro g cap w2 hown hgrow hat hlt; have ff2 : w2.frozen? ⟨R, 2, none⟩ = false := (((HR.out.alloc _).drew).blk.kept hgrow (Ne.symm nR)).frozen 2; have cc2 : w2.cell? ⟨R, 2, none⟩ = some vN := (((HR.out.alloc _).drew).blk.kept hgrow (Ne.symm nR)).cell 2))
  all_goals
    go_wp2_with fail
    go_end0
    exact ⟨rfl, _, ((HR.out.alloc _).drew).pushN hown hgrow (hat.imp id fun e => by rw [e]; simp)⟩
set_option maxRecDepth 100000 in
set_option maxHeartbeats 4000000 in
theorem paddPiece_calls {base R : Nat} {s : ByteArray} {a n r : Nat} {l : List NdN} {st : List (Nat × Nat)} {gr : Nat} {vN vL : Value} {w0 : World} (nd : NdN) (w : World) (h : RdV base R s a ⟨l, (n, r) :: st, gr⟩ vN vL w0 w) (hl : l.length ≤ 4000000) (hst : st.length ≤ 2000000) (hn : n ≤ 2000000) :
    Calls Tryz.prog 59 #[.pointer (some ⟨R, 0, none⟩), .agg (ndA nd)] w fun e w' => e = .returned (.tuple #[]) ∧ ∃ vN', RdV base R s a ⟨l ++ [nd], (n + 1, r) :: st, gr⟩ vN' vL w0 w' := by
  have HA := Lib.hid (fun W vN x (h : RdV base R s a x vN vL w0 W) => padd_calls nd W h)
  obtain ⟨k, c, n', m, t⟩ := nd
  have hB := Blk.new w (ndI k c n' m t) 92
  have hr := h.alloc (.cells (ndI k c n' m t) 92)
  clear h
  show Calls Tryz.prog 59 #[.pointer (some ⟨R, 0, none⟩), .agg (ndI k c n' m t)] w fun e w' => e = .returned (.tuple #[]) ∧ ∃ vN', RdV base R s a ⟨l ++ [⟨k, c, n', m, t⟩], (n + 1, r) :: st, gr⟩ vN' vL w0 w'
  go_enter Tryz.func59, Tryz.ntmps59
  go_upto_region 1 with fail
  generalize w.alloc (.cells (ndI k c n' m t) 92) = w1 at *
  generalize w.heap.size = B1 at *
  have c0 := hB.cell 0; have c1 := hB.cell 1; have c2 := hB.cell 2; have c3 := hB.cell 3; have c4 := hB.cell 4; have c5 := hB.cell 5; have c6 := hB.cell 6; have c7 := hB.cell 7
  simp only [List.getElem?_toArray, List.getElem?_cons_zero, List.getElem?_cons_succ] at c0 c1 c2 c3 c4 c5 c6 c7
  have HR := Lib.hid hr
  clear hr hB
  go_wp2_with fail
  refine (HA.out _ _ _ HR.out hl).mono ?_
  rintro e w2 ⟨rfl, vN', hr⟩
  clear HA HR c0 c1 c2 c3 c4 c5 c6 c7
  obtain ⟨g, cap, rfl, hbg, hgl, hgR, hcap, t0, t1, f0, f1, _⟩ := hr.top rfl
  have HL := Lib.hid (plevel_calls R g st.length cap w2 hr.c.2.2.2.1 hst)
  have HR := Lib.hid hr
  clear t0 t1 f0 f1 hr hgl
  go_wp2_with fail
  refine HL.out.mono ?_
  rintro e w3 ⟨rfl, hb⟩
  clear HL
  have hr := HR.out.below hb
  obtain ⟨_, _, e, _, _, _, _, t0, t1, f0, f1, _⟩ := hr.top rfl
  cases e
  clear HR hb
  have HR := Lib.hid hr
  clear hr
  go_wp2_with fail
  go_end0
  exact ⟨rfl, _, HR.out.put rfl (n + 1)⟩
end Go.Proofs.YtldaaelmifbbhaaGreat

/- The developers' reading: endRow, endRows, openGroup, shutGroup. Stage 7. -/
namespace Go.Proofs.YtldaaelmifbbhaaGreat
open Go.RowKit BS

theorem nd_zero (k c n m : Int) : ndA ⟨k, c, n, m, 0⟩ = #[.int .i64 k, .int .i64 c, .int .i64 n, .int .i64 m, .int .u64 0, .int .u64 0, .int .u64 0, .int .u64 0] := by
  have z0 : wd (0 : BitVec 256) 0 = 0 := by decide
  have z1 : wd (0 : BitVec 256) 1 = 0 := by decide
  have z2 : wd (0 : BitVec 256) 2 = 0 := by decide
  have z3 : wd (0 : BitVec 256) 3 = 0 := by decide
  show ndI k c n m 0 = _
  unfold ndI
  rw [z0, z1, z2, z3]
  rfl
set_option maxRecDepth 100000 in
set_option maxHeartbeats 4000000 in
theorem pendRow_calls {base R : Nat} {s : ByteArray} {a n r : Nat} {l : List NdN} {st : List (Nat × Nat)} {gr : Nat} {vN vL : Value} {w0 : World} (w : World) (h : RdV base R s a ⟨l, (n, r) :: st, gr⟩ vN vL w0 w) (hl : l.length ≤ 4000000) (hst : st.length ≤ 2000000) (hn : n ≤ 2000000) (hr' : r ≤ 2000000) :
    Calls Tryz.prog 42 #[.pointer (some ⟨R, 0, none⟩)] w fun e w' => e = .returned (.tuple #[]) ∧ ∃ vN', RdV base R s a ⟨l ++ rowT n, (0, r + 1) :: st, gr⟩ vN' vL w0 w' := by
  have hA := fun (nd : NdN) W vN x (h : RdV base R s a x vN vL w0 W) => padd_calls nd W h
  obtain ⟨g, cap, rfl, hbg, hgl, hgR, hcap, t0, t1, f0, f1, _⟩ := h.top rfl
  have HL := Lib.hid (plevel_calls R g st.length cap w h.c.2.2.2.1 hst)
  have HR := Lib.hid h
  clear t0 t1 f0 f1 h hgl
  by_cases h0 : n = 0
  · subst h0
    have hA1 := hA nd1
    rw [show nd1 = ⟨1, 0, 0, 0, 0⟩ from rfl, nd_zero] at hA1
    have HA := Lib.hid hA1
    clear hA1 hA
    go_enter Tryz.func42, Tryz.ntmps42
    go_wp2_with fail
    refine HL.out.mono ?_
    rintro e w3 ⟨rfl, hb⟩
    clear HL
    have hr := HR.out.below hb
    obtain ⟨_, _, e, _, _, _, _, t0, t1, f0, f1, _⟩ := hr.top rfl
    cases e
    clear HR hb
    have HR := Lib.hid hr
    clear hr
    go_wp2_with fail
    refine (HA.out _ _ _ HR.out hl).mono ?_
    rintro e w4 ⟨rfl, vN', hr⟩
    clear HA HR t0 t1 f0 f1
    obtain ⟨_, _, e, _, _, _, _, t0, t1, f0, f1, _⟩ := hr.top rfl
    cases e
    have HR := Lib.hid hr
    clear hr
    go_wp2_with fail
    go_end0
    exact ⟨rfl, _, (HR.out.put0 rfl (r + 1)).put rfl 0⟩
  by_cases h1 : n = 1
  · subst h1
    clear hA
    go_enter Tryz.func42, Tryz.ntmps42
    go_wp2_with fail
    refine HL.out.mono ?_
    rintro e w3 ⟨rfl, hb⟩
    clear HL
    have hr := HR.out.below hb
    obtain ⟨_, _, e, _, _, _, _, t0, t1, f0, f1, _⟩ := hr.top rfl
    cases e
    clear HR hb
    have HR := Lib.hid hr
    clear hr
    go_wp2_with fail
    go_end0
    refine ⟨rfl, vN, ?_⟩
    rw [show l ++ rowT 1 = l from List.append_nil l]
    exact (HR.out.put0 rfl (r + 1)).put rfl 0
  · have hA1 := hA (nd5 n)
    rw [show nd5 n = ⟨5, n, 0, 0, 0⟩ from rfl, nd_zero] at hA1
    have HA := Lib.hid hA1
    clear hA1 hA
    have q0 : ((n : Int) == 0) = false := by rw [beq_eq_false_iff_ne]; omega
    have q1 : ((n : Int) == 1) = false := by rw [beq_eq_false_iff_ne]; omega
    have hT : rowT n = [⟨5, n, 0, 0, 0⟩] := by unfold rowT; rw [if_neg h0, if_neg h1]; rfl
    have HT := Lib.hid hT
    clear hT
    go_enter Tryz.func42, Tryz.ntmps42
    go_wp2_with fail
    refine HL.out.mono ?_
    rintro e w3 ⟨rfl, hb⟩
    clear HL
    have hr := HR.out.below hb
    obtain ⟨_, _, e, _, _, _, _, t0, t1, f0, f1, _⟩ := hr.top rfl
    cases e
    clear HR hb
    have HR := Lib.hid hr
    clear hr
    go_wp2_with fail
    refine (HA.out _ _ _ HR.out hl).mono ?_
    rintro e w4 ⟨rfl, vN', hr⟩
    clear HA HR t0 t1 f0 f1
    obtain ⟨_, _, e, _, _, _, _, t0, t1, f0, f1, _⟩ := hr.top rfl
    cases e
    have HR := Lib.hid hr
    clear hr
    go_wp2_with fail
    go_end0
    rw [HT.out]
    exact ⟨rfl, _, (HR.out.put0 rfl (r + 1)).put rfl 0⟩
theorem rowT_len (n : Nat) : (rowT n).length ≤ 1 := by
  unfold rowT
  by_cases h0 : n = 0
  · rw [if_pos h0]; exact Nat.le_refl _
  · rw [if_neg h0]
    by_cases h1 : n = 1
    · rw [if_pos h1]; exact Nat.zero_le _
    · rw [if_neg h1]; exact Nat.le_refl _
theorem rowsT_len (n : Nat) : (rowsT n).length ≤ 1 := by
  unfold rowsT
  by_cases h0 : 1 < n
  · rw [if_pos h0]; exact Nat.le_refl _
  · rw [if_neg h0]; exact Nat.zero_le _
set_option maxRecDepth 100000 in
set_option maxHeartbeats 4000000 in
theorem pendRows_calls {base R : Nat} {s : ByteArray} {a n r : Nat} {l : List NdN} {st : List (Nat × Nat)} {gr : Nat} {vN vL : Value} {w0 : World} (w : World) (h : RdV base R s a ⟨l, (n, r) :: st, gr⟩ vN vL w0 w) (hl : l.length ≤ 3999999) (hst : st.length ≤ 2000000) (hn : n ≤ 2000000) (hr' : r ≤ 2000000) :
    Calls Tryz.prog 25 #[.pointer (some ⟨R, 0, none⟩)] w fun e w' => e = .returned (.tuple #[]) ∧ ∃ vN', RdV base R s a ⟨l ++ rowT n ++ rowsT (r + 1), (0, r + 1) :: st, gr⟩ vN' vL w0 w' := by
  have HE := Lib.hid (pendRow_calls w h (by omega) hst hn hr')
  have hl2 : (l ++ rowT n).length ≤ 4000000 := by
    rw [List.length_append]
    have := rowT_len n
    omega
  have hA := fun (nd : NdN) W vN x (h : RdV base R s a x vN vL w0 W) => padd_calls nd W h
  obtain ⟨g, cap, rfl, hbg, hgl, hgR, hcap, t0, t1, f0, f1, _⟩ := h.top rfl
  have HL := Lib.hid (fun W (h3 : W.cell? ⟨R, 3, none⟩ = some (.slice (some ⟨g, 0, none⟩) (st.length + 1 : Nat) cap)) => plevel_calls R g st.length cap W h3 hst)
  clear t0 t1 f0 f1 h hgl
  generalize l ++ rowT n = l2 at *
  by_cases h1 : 1 < r + 1
  · have hA1 := hA (nd6 (r + 1))
    rw [show nd6 (r + 1) = ⟨6, (r : Int) + 1, 0, 0, 0⟩ from rfl, nd_zero] at hA1
    have HA := Lib.hid hA1
    have hT : rowsT (r + 1) = [⟨6, (r : Int) + 1, 0, 0, 0⟩] := by unfold rowsT; rw [if_pos h1]; rfl
    have HT := Lib.hid hT
    have q : decide ((1 : Int) < (r : Int) + 1) = true := by rw [decide_eq_true_iff]; omega
    clear hT hA hA1
    go_enter Tryz.func25, Tryz.ntmps25
    go_wp2_with fail
    refine HE.out.mono ?_
    rintro e w2 ⟨rfl, vN', hr⟩
    clear HE
    have c3 := hr.c.2.2.2.1
    have HR := Lib.hid hr
    clear hr
    go_wp2_with fail
    refine (HL.out _ c3).mono ?_
    rintro e w3 ⟨rfl, hb⟩
    clear HL
    have hr := HR.out.below hb
    obtain ⟨_, _, e, _, _, _, _, t0, t1, f0, f1, _⟩ := hr.top rfl
    cases e
    clear HR hb c3
    have HR := Lib.hid hr
    clear hr
    go_wp2_with fail
    refine (HA.out _ _ _ HR.out hl2).mono ?_
    rintro e w4 ⟨rfl, vN2, hr⟩
    clear HA HR t0 t1 f0 f1
    have HR := Lib.hid hr
    clear hr
    go_wp2_with fail
    go_end0
    rw [HT.out]
    exact ⟨rfl, _, HR.out⟩
  · have hT : rowsT (r + 1) = [] := by unfold rowsT; rw [if_neg h1]
    have HT := Lib.hid hT
    have q : decide ((1 : Int) < (r : Int) + 1) = false := by rw [decide_eq_false_iff_not]; omega
    clear hT hA
    go_enter Tryz.func25, Tryz.ntmps25
    go_wp2_with fail
    refine HE.out.mono ?_
    rintro e w2 ⟨rfl, vN', hr⟩
    clear HE
    have c3 := hr.c.2.2.2.1
    have HR := Lib.hid hr
    clear hr
    go_wp2_with fail
    refine (HL.out _ c3).mono ?_
    rintro e w3 ⟨rfl, hb⟩
    clear HL
    have hr := HR.out.below hb
    obtain ⟨_, _, e, _, _, _, _, t0, t1, f0, f1, _⟩ := hr.top rfl
    cases e
    clear HR hb c3
    have HR := Lib.hid hr
    clear hr
    go_wp2_with fail
    go_end0
    rw [HT.out, List.append_nil]
    exact ⟨rfl, _, HR.out⟩

/-! ### A group's begin -/
theorem info2r : (Tryz.prog.info? 84).map (fun i => (i.zero, i.size, i.bytes)) = some (some (.agg #[.int .i64 0, .int .i64 0]), 2, 16) := by kernel_rfl
set_option maxRecDepth 100000 in
set_option maxHeartbeats 4000000 in
theorem popenGroup9_calls {R : Nat} (w : World) (c4 : w.cell? ⟨R, 4, none⟩ = some (.int .i64 9)) :
    Calls Tryz.prog 60 #[.pointer (some ⟨R, 0, none⟩)] w fun e w' => e = .returned (.int .i64 9) ∧ w = w' := by
  go_enter Tryz.func60, Tryz.ntmps60
  go_wp2_with fail
  go_ret
  exact ⟨rfl, rfl⟩
set_option maxRecDepth 100000 in
set_option maxHeartbeats 4000000 in
theorem popenGroup_calls {base R : Nat} {s : ByteArray} {a : Nat} {l : List NdN} {st : List (Nat × Nat)} {gr : Nat} {vN vL : Value} {w0 : World} (w : World) (h : RdV base R s a ⟨l, st, gr⟩ vN vL w0 w) (hst : st.length ≤ 2000000) (hg : gr < 9) :
    Calls Tryz.prog 60 #[.pointer (some ⟨R, 0, none⟩)] w fun e w' => e = .returned (.int .i64 0) ∧ ∃ vL', RdV base R s a ⟨l, (0, 0) :: st, gr + 1⟩ vN vL' w0 w' := by
  obtain ⟨i0, hi0, hz0, hz1, hz2⟩ := info_parts info2r
  have c4 : w.cell? ⟨R, 4, none⟩ = some (.int .i64 gr) := h.c.2.2.2.2
  have q : ((gr : Int) == 9) = false := by rw [beq_eq_false_iff_ne]; omega
  have f4 := h.blk.frozen 4
  have HR : Hid (RdV base R s a ⟨l, st, gr + 1⟩ vN vL w0 (w.setCell ⟨R, 4, none⟩ (.int .i64 ((gr + 1 : Nat) : Int)))) := Lib.hid (h.setGroups (gr + 1))
  clear h
  go_enter Tryz.func60, Tryz.ntmps60
  go_upto_region 4 with fail
  rw [show ((gr : Int) + 1) = ((gr + 1 : Nat) : Int) from rfl] at *
  generalize w.setCell ⟨R, 4, none⟩ (.int .i64 ((gr + 1 : Nat) : Int)) = w1 at *
  clear c4 f4
  have hr := HR.out
  have c3 := hr.c.2.2.2.1
  have lR := hr.lR
  have hsz := hr.size
  have hRlt := hr.blk.lt
  clear hr
  go_wp2_with (at_builtin
               go_loud (refine wpList_append_lies _ rfl _ _ 57 rfl base 84 i0 (.agg #[.int .i64 0, .int .i64 0]) 2 16 Tryz.underlying57 hi0 hz0 hz1 hz2 rfl (by decide) vL st.length (lvCells st.reverse) rfl (HR.out.alloc _).levels ⟨w1.heap.size, 0, none⟩ 1 1 [.int .i64 0, .int .i64 0] rfl rfl (World.news_of_block (cs := #[.int .i64 0, .int .i64 0]) (t := 84) (fr := (0, 0)) (heap_alloc_new w1 _)) (by simp [Value.oneCell']) (by omega) (by simp only [maxLen]; omega) (by omega) (by simp; omega) (w1.heap.size + 1) (by simp) ?_)
               intro g cap w2 hown hgrow hat hlt
               have ff2 := ((HR.out.alloc _).blk.kept hgrow (Ne.symm lR)).frozen 3
               have cc2 : w2.cell? ⟨R, 3, none⟩ = some vL := ((HR.out.alloc _).blk.kept hgrow (Ne.symm lR)).cell 3)
  go_ret
  exact ⟨rfl, _, (HR.out.alloc _).pushL hown hgrow (hat.imp id fun e => by rw [e]; simp)⟩
end Go.Proofs.YtldaaelmifbbhaaGreat

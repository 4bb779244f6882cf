/- Texts put together: Hn Fd Fb Fm. -/
import Derived.Test.YtldaaelmifbbhaaGreatPU
import Derived.Test.YtldaaelmifbbhaaGreatPM
import Derived.Test.YtldaaelmifbbhaaGreatPF
import Derived.RegionTactic
import Derived.BigRegion
import Derived.Deep.LoopGhost
/- The document's parse: Parse, Open. Stage 7. -/
namespace Go.Proofs.YtldaaelmifbbhaaGreat
open Go.RowKit BS

set_option maxRecDepth 100000 in
set_option maxHeartbeats 8000000 in
theorem rParse7_calls (s : ByteArray) (hs : s.size ≤ 1000000) (w : World) :
    Calls Tryz.prog 12 #[.string s] w fun e w' => ∃ v, e = .returned (.tuple #[v, .int .i64 (parseN s).2.2.1, .int .i64 (parseN s).2.2.2]) ∧
      w'.ownsRow w.heap.size 92 8 v (parseN s).1.l.length (ndCells (parseN s).1.l) ∧ Below w.heap.size w w' := by
  have hRd := rRead7_calls s hs w
  generalize parseN s = RES at *
  obtain ⟨⟨l, st, gr⟩, op, er, pl⟩ := RES
  have HRd := Lib.hid hRd
  clear hRd
  go_enter Tryz.func12, Tryz.ntmps12
  go_wp2_with fail
  refine HRd.out.mono ?_
  rintro e w1 ⟨vN, aP, nP, cP, aR, nR, cR, g, rfl, hv, hb⟩
  clear HRd
  obtain ⟨aN, cN, rfl⟩ := owns_form hv
  have HB := Lib.hid hb
  have HV := Lib.hid hv
  clear hb hv
  go_upto_region 2 with fail
  have HG := Lib.hid (Blk.new w1 (stW (.slice aN l.length cN) (.slice aP nP cP) (.slice aR nR cR) g) 48)
  have HB2 := Lib.hid ((Below.refl w1.heap.size w1).alloc (Nat.le_refl _) (.cells (stW (.slice aN l.length cN) (.slice aP nP cP) (.slice aR nR cR) g) 48))
  generalize w1.alloc (.cells (stW (.slice aN l.length cN) (.slice aP nP cP) (.slice aR nR cR) g) 48) = w2 at *
  have c0 := HG.out.cell 0
  simp only [List.getElem?_toArray, List.getElem?_cons_zero] at c0
  go_wp2_with fail
  exact bodyPost_ret (v := .tuple #[.slice aN l.length cN, .int .i64 er, .int .i64 pl]) (by simp [results, Tryz.results12, go_sem] <;> rfl) rfl ⟨_, rfl, own_below HV.out HB2.out, HB.out.trans (HB2.out.mono HB.out.size)⟩

end Go.Proofs.YtldaaelmifbbhaaGreat

/- The document's beginnings: Begins, Whole. Stage 8. -/
namespace Go.Proofs.YtldaaelmifbbhaaGreat
open Go.RowKit BS

theorem rParse7_e (s : ByteArray) (hs : s.size ≤ 1000000) (w : World) : Calls Tryz.prog 12 #[.string s] w fun e w' => ∃ v, e = .returned (.tuple #[v, .int .i64 (parseN s).2.2.1, .int .i64 (parseN s).2.2.2]) ∧ Below w.heap.size w w' :=
  (rParse7_calls s hs w).mono fun _ _ ⟨v, h1, _, h3⟩ => ⟨v, h1, h3⟩
set_option maxRecDepth 100000 in
set_option maxHeartbeats 8000000 in
theorem rBegins8_calls (s : ByteArray) (hs : s.size ≤ 1000000) (w : World) : Calls Tryz.prog 10 #[.string s] w fun e w' => e = .returned (.bool (begN s)) ∧ Below w.heap.size w w' := by
  have hP := rParse7_e s hs w
  unfold begN
  generalize (parseN s).2.2.2 = pl at *
  generalize (parseN s).2.2.1 = er at *
  by_cases h0 : er = 0
  · subst h0
    have HP := Lib.hid hP
    clear hP
    go_enter Tryz.func10, Tryz.ntmps10
    go_wp2_with fail
    refine HP.out.mono ?_
    rintro e w1 ⟨v, rfl, hb⟩
    clear HP
    go_wp2_with fail
    go_ret
    exact ⟨rfl, hb⟩
  by_cases h2 : er = 2
  · subst h2
    have HP := Lib.hid hP
    clear hP
    go_enter Tryz.func10, Tryz.ntmps10
    go_wp2_with fail
    refine HP.out.mono ?_
    rintro e w1 ⟨v, rfl, hb⟩
    clear HP
    go_wp2_with fail
    go_ret
    exact ⟨rfl, hb⟩
  · have q0 : ((er : Int) == 0) = false := by rw [beq_eq_false_iff_ne]; omega
    have q2 : ((er : Int) == 2) = false := by rw [beq_eq_false_iff_ne]; omega
    have hd : decide (er = 0 ∨ er = 2) = false := by rw [decide_eq_false_iff_not]; omega
    rw [hd]
    have HP := Lib.hid hP
    clear hP hd h0 h2
    go_enter Tryz.func10, Tryz.ntmps10
    go_wp2_with fail
    refine HP.out.mono ?_
    rintro e w1 ⟨v, rfl, hb⟩
    clear HP
    go_wp2_with fail
    go_ret
    exact ⟨rfl, hb⟩
theorem infoBool : (Tryz.prog.info? 4).map (fun i => (i.zero, i.size, i.bytes)) = some (some (.bool false), 1, 1) := by kernel_rfl
set_option maxRecDepth 100000 in
set_option maxHeartbeats 8000000 in
theorem rWhole8_calls (s : ByteArray) (hs : s.size ≤ 1000000) (w : World) : Calls Tryz.prog 8 #[.string s] w fun e w' => ∃ v, e = .returned v ∧ w'.ownsRow w.heap.size 4 1 v (s.size + 1) (boC (whL s (s.size + 1))) ∧ Below w.heap.size w w' := by
  obtain ⟨i0, hi, hz0, hz1, hz2⟩ := info_parts infoBool
  go_enter Tryz.func8, Tryz.ntmps8
  go_wp2_with fail
  go_loopw [3, 4] (fun v i wr => ∃ k : Nat, k ≤ s.size + 1 ∧ i = .int .i64 k ∧ wr.ownsRow w.heap.size 4 1 v k (boC (whL s k)) ∧ Below w.heap.size w wr) (fun _ i _ => s.size + 1 - (intOf i).toNat)
  case atStart => exact ⟨0, Nat.zero_le _, rfl, World.ownsRow_nil _ _ _ _, Below.refl _ _⟩
  case round =>
    obtain ⟨k, hk, rfl, hr, hB⟩ := hrel
    by_cases hlt : k ≤ s.size
    · have hz : (s.extract 0 k).size = k := by rw [ByteArray.size_extract]; omega
      have hP := rParse7_e (s.extract 0 k) (by omega)
      have hsn := whL_snoc s k
      unfold okP at hsn
      have q1 : decide ((k : Int) ≤ (s.size : Int)) = true := by rw [decide_eq_true_iff]; omega
      have hex : s.extract 0 k = s.extract 0 k := rfl
      generalize (parseN (s.extract 0 k)).2.2.2 = pl at *
      generalize (parseN (s.extract 0 k)).2.2.1 = er at *
      have hbe : ((er : Int) == 0) = decide (er = 0) := by
        by_cases h0 : er = 0
        · subst h0; rfl
        · rw [decide_eq_false h0, beq_eq_false_iff_ne]; omega
      have HSN := Lib.hid hsn
      have HP := Lib.hid hP
      have HB := Lib.hid hB
      clear hsn hP hB hex
      go_wp2_with fail
      refine (HP.out _).mono ?_
      rintro e w2 ⟨v2, rfl, hb⟩
      have hr2 := row_below hr hb
      have hB2 := HB.out.trans (hb.mono HB.out.size)
      clear hr hb HB HP
      have HR2 := Lib.hid hr2
      have HB2 := Lib.hid hB2
      have hbs := hB2.size
      clear hB2
      go_wp2_with (first
        | (at_builtin
           refine wpList_append_own _ rfl _ _ 23 rfl w.heap.size 4 i0 (.bool false) 1 1 Tryz.underlying23 hi hz0 hz1 hz2 rfl (by decide) _ _ _ rfl (hr2.alloc _) ⟨w2.heap.size, 0, none⟩ 1 1 [.bool (decide (er = 0))] rfl rfl (Blk.new w2 _ _).news1 (by simp [Value.oneCell']) (by unfold maxLen; omega) (by omega) (by simp; omega) ?_
           intro v' w4 hown' hgrow _
           have HO := Lib.hid hown'
           have hB4 := (HB2.out.alloc HB2.out.size _).grown hgrow (by have := HB2.out.size; simp; omega) (fun b hb => (HR2.out.lt b hb).1)
           clear hown' hr2 hgrow)
        | fail)
      go_roundw
      case rel => exact ⟨k + 1, by omega, by simp, by rw [HSN.out, boC_snoc]; exact HO.out, hB4⟩
      case measure => simp [intOf]; omega
    · obtain rfl : k = s.size + 1 := by omega
      have q1 : decide (((s.size + 1 : Nat) : Int) ≤ (s.size : Int)) = false := by rw [decide_eq_false_iff_not]; omega
      go_wp2_with fail
      exact bodyPost_ret (v := _) (by simp [results, Tryz.results8, go_sem] <;> rfl) rfl ⟨_, rfl, hr, hB⟩
end Go.Proofs.YtldaaelmifbbhaaGreat

/- The laws of stage 8: FinishTells. -/
namespace Go.Proofs.YtldaaelmifbbhaaGreat
open Go.RowKit BS

/-- Both lists of what the first parts are lie in memory. -/
def BothW (s : ByteArray) (g1 g2 : Nat) (W : World) : Prop :=
  g1 < W.heap.size ∧ g2 < W.heap.size ∧ (∀ i, i < s.size + 1 → W.cell? ⟨g1, i, none⟩ = some (.bool (okP (s.extract 0 i)))) ∧ (∀ i, i < s.size + 1 → W.cell? ⟨g2, i, none⟩ = some (.bool (okP (s.extract 0 i))))
theorem BothW.below {s : ByteArray} {g1 g2 : Nat} {W W' : World} (h : BothW s g1 g2 W) (hb : Below W.heap.size W W') : BothW s g1 g2 W' :=
  ⟨Nat.lt_of_lt_of_le h.1 hb.size, Nat.lt_of_lt_of_le h.2.1 hb.size, fun i hi => (hb.cell (p := ⟨g1, i, none⟩) h.1).trans (h.2.2.1 i hi), fun i hi => (hb.cell (p := ⟨g2, i, none⟩) h.2.1).trans (h.2.2.2 i hi)⟩
set_option maxRecDepth 100000 in
set_option maxHeartbeats 16000000 in
theorem finishTells_calls (C : ParseC) (F : FinishC) (s : ByteArray) (hs : s.size ≤ 9223372036854775807) (w : World) : Calls Tryz.prog 3 #[.string s] w fun e w' => e = .returned (.bool true) ∧ Below w.heap.size w w' := by
  have HSU := Lib.hid (sure8_calls C F)
  by_cases hl : 150 < s.size
  · have q : decide (150 < s.size) = true := by simpa using hl
    clear C F
    go_enter Tryz.func3, Tryz.ntmps3
    go_wp2_with fail
    refine (HSU.out _).mono ?_
    rintro e w1 ⟨rfl, hb⟩
    go_wp2_with fail
    go_ret
    exact ⟨rfl, hb⟩
  have q : decide (150 < s.size) = false := by simpa using hl
  have HW1 := Lib.hid (F.whole s (by omega))
  have HW2 := Lib.hid (rWhole8_calls s (by omega))
  have HB1 := Lib.hid (F.begins s (by omega))
  have HB2 := Lib.hid (rBegins8_calls s (by omega))
  clear C F
  generalize begN s = bg at *
  go_enter Tryz.func3, Tryz.ntmps3
  go_wp2_with fail
  refine (HW1.out _).mono ?_
  rintro e w1 ⟨v1, rfl, hr1, hb1⟩
  have HB := Lib.hid hb1
  clear HW1 hb1
  obtain ⟨g1, cap1, rfl, _, hg1, hc1⟩ := bools_of hr1
  have HC1 := Lib.hid hc1
  clear hr1 hc1
  go_wp2_with fail
  refine (HW2.out _).mono ?_
  rintro e w2 ⟨v2, rfl, hr2, hb2⟩
  obtain ⟨g2, cap2, rfl, _, hg2, hc2⟩ := bools_of hr2
  have HC : Hid (BothW s g1 g2 w2) := Lib.hid ⟨Nat.lt_of_lt_of_le hg1 hb2.size, hg2, fun i hi => (hb2.cell (p := ⟨g1, i, none⟩) hg1).trans (HC1.out i hi), hc2⟩
  replace HB := Lib.hid (HB.out.trans (hb2.mono HB.out.size))
  clear HW2 hb2 hr2 hc2 HC1 hg1 hg2
  go_wp2_with fail
  refine (HB1.out _).mono ?_
  rintro e w3 ⟨rfl, hb⟩
  replace HC := Lib.hid (HC.out.below hb)
  replace HB := Lib.hid (HB.out.trans (hb.mono HB.out.size))
  clear HB1 hb
  go_wp2_with fail
  refine (HB2.out _).mono ?_
  rintro e w4 ⟨rfl, hb⟩
  replace HC := Lib.hid (HC.out.below hb)
  replace HB := Lib.hid (HB.out.trans (hb.mono HB.out.size))
  clear HB2 hb
  have qb : (bg != bg) = false := by simp
  go_wp2_with fail
  go_loopw [5] (fun v wr => ∃ i : Nat, i ≤ s.size + 1 ∧ v = .int .i64 i ∧ BothW s g1 g2 wr ∧ Below w.heap.size w wr) (fun v _ => s.size + 1 - (intOf v).toNat)
  case atStart => exact ⟨0, Nat.zero_le _, rfl, HC.out, HB.out⟩
  case round =>
    clear HC HB
    obtain ⟨i, hi, rfl, hC, hB⟩ := hrel
    by_cases hlt : i < s.size + 1
    · have c1 := hC.2.2.1 i hlt
      have c2 := hC.2.2.2 i hlt
      have HC := Lib.hid hC
      have HB := Lib.hid hB
      have d1 : decide (i < s.size + 1) = true := decide_eq_true hlt
      have dI : (i : Int) < ((s.size + 1 : Nat) : Int) := by omega
      have dI2 : (i : Int) < (s.size : Int) + 1 := by omega
      generalize okP (s.extract 0 i) = ok at *
      have qb : (ok != ok) = false := by simp
      clear hC hB
      go_upto_region 9 with fail
      go_region
      go_wp2_with fail
      go_roundw
      case rel => exact ⟨i + 1, by omega, by simp, HC.out, HB.out.drew⟩
      case measure => simp [intOf]; omega
    · obtain rfl : i = s.size + 1 := by omega
      have HC := Lib.hid hC
      have HB := Lib.hid hB
      clear hC hB
      go_wp2_with fail
      refine (HSU.out _).mono ?_
      rintro e w5 ⟨rfl, hb⟩
      have hBB := HB.out.trans (hb.mono HB.out.size)
      go_wp2_with fail
      exact bodyPost_ret (v := _) (by simp [results, Tryz.results3, go_sem] <;> rfl) rfl ⟨rfl, hBB⟩
end Go.Proofs.YtldaaelmifbbhaaGreat

/- The laws of stage 8: FinishMakes. -/
namespace Go.Proofs.YtldaaelmifbbhaaGreat
open Go.RowKit BS

set_option maxRecDepth 100000 in
set_option maxHeartbeats 16000000 in
theorem finishMakes_calls (C : ParseC) (F : FinishC) (s : ByteArray) (hs : s.size ≤ 9223372036854775807) (w : World) : Calls Tryz.prog 4 #[.string s] w fun e w' => e = .returned (.bool true) ∧ Below w.heap.size w w' := by
  have HSU := Lib.hid (sure8_calls C F)
  have HB := Lib.hid (Below.refl w.heap.size w)
  by_cases hl : 300 < s.size
  · have q : decide (300 < s.size) = true := by simpa using hl
    clear C F
    go_enter Tryz.func4, Tryz.ntmps4
    go_wp2_with fail
    refine (HSU.out _).mono ?_
    rintro e w1 ⟨rfl, hb⟩
    go_wp2_with fail
    go_ret
    exact ⟨rfl, hb⟩
  have q : decide (300 < s.size) = false := by simpa using hl
  obtain ⟨t, ht, h1, h2, hF⟩ := F.finish s (by omega)
  have hP := rParse7_e s (by omega)
  cases hb : begN s with
  | false =>
    obtain ⟨h0, h2'⟩ := begN_not s hb
    have he := h2 hb
    subst he
    rw [hb] at hF
    generalize (parseN s).2.2.2 = pl at *
    generalize (parseN s).2.2.1 = er at *
    have q0 : ((er : Int) != 0) = true := by rw [bne_iff_ne]; omega
    have q2 : ((er : Int) != 2) = true := by rw [bne_iff_ne]; omega
    have HF := Lib.hid hF
    have HP := Lib.hid hP
    clear hF hP h1 h2 hb h0 h2' C F
    go_enter Tryz.func4, Tryz.ntmps4
    go_wp2_with fail
    refine (HF.out _).mono ?_
    rintro e w1 ⟨rfl, hb⟩
    replace HB := Lib.hid (HB.out.trans (hb.mono HB.out.size))
    clear HF hb
    go_wp2_with fail
    refine (HP.out _).mono ?_
    rintro e w2 ⟨v2, rfl, hb⟩
    replace HB := Lib.hid (HB.out.trans (hb.mono HB.out.size))
    clear HP hb
    go_wp2_with fail
    refine (HSU.out _).mono ?_
    rintro e w3 ⟨rfl, hb⟩
    have hBB := HB.out.trans (hb.mono HB.out.size)
    clear HSU hb HB
    go_wp2_with fail
    go_ret
    exact ⟨rfl, hBB⟩
  | true =>
    have hz : (s ++ t).size ≤ 1000000 := by rw [ByteArray.size_append]; omega
    have hP2 := rParse7_e (s ++ t) hz
    rw [(okP_iff _).1 (h1 hb)] at hP2
    rw [hb] at hF
    have hadd : ∀ w, (Op.stringOp .add s t).run Tryz.prog w = .ok (.string (s ++ t)) w := fun w => run_string_add_sum w _ _ (by omega)
    have he := (begN_iff s).1 hb
    generalize (parseN s).2.2.2 = pl at *
    generalize (parseN s).2.2.1 = er at *
    generalize (parseN (s ++ t)).2.2.2 = pl2 at *
    have HF := Lib.hid hF
    have HP := Lib.hid hP
    have HP2 : Hid (∀ w, Calls Tryz.prog 12 #[.string (s ++ t)] w fun e w' => ∃ v, e = .returned (.tuple #[v, .int .i64 0, .int .i64 pl2]) ∧ Below w.heap.size w w') := Lib.hid hP2
    clear hF hP hP2 h1 h2 hb hz C F
    generalize s ++ t = st at *
    rcases he with rfl | rfl
    all_goals
      go_enter Tryz.func4, Tryz.ntmps4
      go_wp2_with fail
      refine (HF.out _).mono ?_
      rintro e w1 ⟨rfl, hb⟩
      replace HB := Lib.hid (HB.out.trans (hb.mono HB.out.size))
      clear HF hb
      go_wp2_with fail
      refine (HP.out _).mono ?_
      rintro e w2 ⟨v2, rfl, hb⟩
      replace HB := Lib.hid (HB.out.trans (hb.mono HB.out.size))
      clear HP hb
      go_wp2_with fail
      refine (HP2.out _).mono ?_
      rintro e w3 ⟨v3, rfl, hb⟩
      replace HB := Lib.hid (HB.out.trans (hb.mono HB.out.size))
      clear HP2 hb
      go_wp2_with fail
      refine (HSU.out _).mono ?_
      rintro e w4 ⟨rfl, hb⟩
      have hBB := HB.out.trans (hb.mono HB.out.size)
      clear HSU hb HB
      go_wp2_with fail
      go_ret
      exact ⟨rfl, hBB⟩
end Go.Proofs.YtldaaelmifbbhaaGreat

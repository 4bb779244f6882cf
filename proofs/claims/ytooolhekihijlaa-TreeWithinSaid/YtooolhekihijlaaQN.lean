/- Texts put together: Trj Tre Trf Trg Trz. -/
import Derived.Test.YtooolhekihijlaaQJ
import Derived.Test.YtooolhekihijlaaQD
import Derived.BigQuiet
import Derived.Deep.QuietTactic
import Derived.Test.YtooolhekihijlaaQK
/- Is a list a parse tree: the document's kids. Stage 14. -/
namespace Go.Proofs.Ytooolhekihijlaa
open Go.RowKit BS

theorem wp_callK {P : Program} {o : Oper} {a : Act} {w : World} {f : FuncId} {args : Array Value} {R : Value → World → Prop} {K : Act → World → Prop} {Q : Exit → Act → World → Prop} (h : (execOp a.eval o).run P w = .ok (.enter f args) w)
    (hc : Calls P f args w fun e w' => ∃ v, e = .returned v ∧ R v w') (hK : ∀ v w', R v w' → K (a.put o.dst v) w') : o.wp P a w K Q := by
  unfold Oper.wp
  rw [h]
  refine Calls.mono hc fun e w' he => ?_
  obtain ⟨v, rfl, hR⟩ := he
  exact hK v w' hR
theorem kids_none {ent : Nat → EnN → Option Nat} {t : List EnN} {a d e : Int} {m i : Nat} {at_ : Int} (hm : e - at_ ≤ m) (hlt : at_ < e) (h : ¬ (i < t.length ∧ at_ < (atE t i).to)) : kidsF ent t a d e m i at_ = none := by
  obtain ⟨m, rfl⟩ : ∃ x, m = x + 1 := ⟨m - 1, by omega⟩
  unfold kidsF
  rw [if_pos hlt, if_neg h]
theorem kids_step {ent : Nat → EnN → Option Nat} {t : List EnN} {a d e : Int} {m i : Nat} {at_ : Int} (hm : e - at_ ≤ m) (hlt : at_ < e) (h : i < t.length ∧ at_ < (atE t i).to) : ∃ m', m = m' + 1 ∧ kidsF ent t a d e m i at_ = (ent i ⟨d, a, at_, (atE t i).to⟩).bind fun j => if (atE t i).to ≤ e then kidsF ent t a d e m' j (atE t i).to else none := by
  obtain ⟨m, rfl⟩ : ∃ x, m = x + 1 := ⟨m - 1, by omega⟩
  refine ⟨m, rfl, ?_⟩
  rw [kidsF, if_pos hlt, if_pos h]
theorem kids_end {ent : Nat → EnN → Option Nat} {t : List EnN} {a d e : Int} {m i : Nat} {at_ : Int} (h : ¬ at_ < e) : kidsF ent t a d e m i at_ = some i := by
  cases m <;> simp [kidsF, h]
set_option maxRecDepth 100000 in
set_option maxHeartbeats 32000000 in
theorem kids_calls (l : List NdN) (w : List Nat) (t : List EnN) (la wa ta : Option Addr) (lc wc tc k : Nat) (hP : PartsOk l) (_hl : l.length ≤ 1000) (_hw : w.length ≤ 1000) (ht : t.length ≤ 1000) (_hk : k ≤ 1000) (HG : EntG l w t la wa ta lc wc tc k)
    (i : Nat) (d : Int) (n f e p : Nat) (W : World) (hn : n < l.length) (hp : (ndE l n).kids = p) (hpk : p < k) (hpl : p < l.length) (hi : i ≤ 100000) (hd0 : 0 ≤ d) (hdk : d + (k + 1 : Nat) ≤ 100000) (_hfe : f ≤ e) (_hel : e ≤ w.length) (hN : NodesAt l la W) (hT : BtsAt w wa W) (hE : EntsAt t ta W) :
    Calls Try.prog 48 #[.slice la l.length lc, .slice wa w.length wc, .slice ta t.length tc, .int .i64 (i : Nat), .agg (enI d n f e)] W fun r W' => r = .returned (.int .i64 (resO (kidsF (entF l w t k) t p (d + 1) e (e - f) i f))) ∧ Below W.heap.size W W' := by
  have HGG := Lib.hid HG
  have HOK := Lib.hid (@ent_ok l w t hP k)
  obtain ⟨gl, ol, rfl, hgl, hcl⟩ := hN (by rintro rfl; simp at hn)
  have HCA := Lib.hid (show ∀ W', Below W.heap.size W W' → W'.cell? ⟨gl, ol + n * 8 + 1, none⟩ = some (.int .i64 (p : Nat)) from fun W' hW => by
    rw [hW.cell (p := ⟨gl, ol + n * 8 + 1, none⟩) hgl, hcl n hn 1 (by decide)]
    have : (ndE l n).kids = l[n].kids := by simp [ndE, hn]
    rw [this] at hp
    simp [ndA, hp])
  have HN := Lib.hid hN
  have HT := Lib.hid hT
  have HE := Lib.hid hE
  have hR := Blk.new W (enI d n f e) 44
  have hB0 := Lib.hid (show Below W.heap.size W (W.alloc (.cells (enI d n f e) 44)) from (Below.refl _ _).alloc (Nat.le_refl _) _)
  have r0 := hR.cell 0; have r1 := hR.cell 1; have r2 := hR.cell 2; have r3 := hR.cell 3
  simp only [List.getElem?_toArray, List.getElem?_cons_zero, List.getElem?_cons_succ] at r0 r1 r2 r3
  have HBK := Lib.hid hR
  have xd : IntKind.i64.wrap (d + 1) = d + 1 := IntWalk.i64_in _ (by omega)
  obtain ⟨KF, hKF⟩ : ∃ KF, KF = kidsF (entF l w t k) t p (d + 1) e := ⟨_, rfl⟩
  have HNO := Lib.hid (fun (m i : Nat) (at_ : Int) (h1 : (e : Int) - at_ ≤ m) (h2 : at_ < e) h3 => hKF ▸ @kids_none (entF l w t k) t p (d + 1) e m i at_ h1 h2 h3)
  have HST := Lib.hid (fun (m i : Nat) (at_ : Int) (h1 : (e : Int) - at_ ≤ m) (h2 : at_ < e) h3 => hKF ▸ @kids_step (entF l w t k) t p (d + 1) e m i at_ h1 h2 h3)
  have HEN := Lib.hid (fun (m i : Nat) (at_ : Int) (h : ¬ at_ < e) => hKF ▸ @kids_end (entF l w t k) t p (d + 1) e m i at_ h)
  rw [← hKF]
  obtain ⟨R, hRR⟩ : ∃ R, R = KF (e - f) i f := ⟨_, rfl⟩
  rw [← hRR]
  clear hN hT hE hcl hp HG hR hKF hP
  go_enter Try.func48, Try.ntmps48
  go_upto_region 1 with fail
  generalize W.alloc (.cells (enI d n f e) 44) = w1 at *
  go_wp2_with fail
  clear r0 r1 r2 r3
  go_loopw [3, 11] (fun vi va wr => ∃ i m at_ : Nat, vi = .int .i64 i ∧ va = .int .i64 at_ ∧ i ≤ 100000 ∧ at_ ≤ e ∧ e - at_ ≤ m ∧ KF m i at_ = R ∧ Blk wr W.heap.size (enI d n f e) 44 ∧ Below W.heap.size W wr) (fun _ va _ => e - (intOf va).toNat)
  case atStart => exact ⟨i, e - f, f, rfl, rfl, hi, by omega, Nat.le_refl _, hRR.symm, HBK.out, hB0.out⟩
  case round =>
    clear hB0 HBK hRR hi
    clear i
    obtain ⟨i, m, at_, rfl, rfl, hi, hat, hm, hkf, hbk, hB⟩ := hrel
    have HBK := Lib.hid hbk
    have HB := Lib.hid hB
    have r0 := hbk.cell 0; have r1 := hbk.cell 1; have r2 := hbk.cell 2; have r3 := hbk.cell 3
    simp only [List.getElem?_toArray, List.getElem?_cons_zero, List.getElem?_cons_succ] at r0 r1 r2 r3
    by_cases hlt : at_ < e
    · have p1 : decide ((at_ : Int) < (e : Int)) = true := by rw [decide_eq_true_iff]; omega
      have p2 : decide (at_ < e) = true := decide_eq_true hlt
      by_cases hil : i < t.length
      · have p3 : decide (t.length ≤ i) = false := by rw [decide_eq_false_iff_not]; omega
        have p4 : decide ((t.length : Int) ≤ (i : Int)) = false := by rw [decide_eq_false_iff_not]; omega
        have hii : (i : Int) < (t.length : Int) := by omega
        have hd2 : decide (i < t.length) = true := decide_eq_true hil
        obtain ⟨g, off, hta, hg, hc⟩ := (HE.out.below hB) (by rintro rfl; simp at hil)
        subst hta
        have d3 := hc i hil 3 (by decide)
        simp only [enA, List.getElem?_toArray, List.getElem?_cons_zero, List.getElem?_cons_succ] at d3
        have hat2 := atE_lt t i hil
        have hno := HNO.out m i at_ (by omega) (by omega)
        have hst := HST.out m i at_ (by omega) (by omega)
        rw [hat2] at hno hst
        generalize t[i].to = xt at *
        by_cases hnx : (at_ : Int) < xt
        · obtain ⟨m2, rfl, hst⟩ := hst ⟨hil, hnx⟩
          obtain ⟨nx, rfl⟩ : ∃ nx : Nat, xt = nx := ⟨xt.toNat, by omega⟩
          have p5 : decide ((nx : Int) ≤ (at_ : Int)) = false := by rw [decide_eq_false_iff_not]; omega
          have p6 : decide (nx ≤ at_) = false := by rw [decide_eq_false_iff_not]; omega
          rw [hkf] at hst
          have HRES := Lib.hid hst
          have hoke := HOK.out i (d + 1) p at_ nx
          have HCL := Lib.hid (HGG.out i (d + 1) p at_ nx wr.drew hpk hpl hi (by omega) (by omega) (HN.out.below hB.drew) (HT.out.below hB.drew) (HE.out.below hB.drew))
          have cA := HCA.out wr hB
          generalize entF l w t k i ⟨d + 1, p, at_, nx⟩ = er at *
          have hjl : ∀ j, er = some j → j ≤ t.length := fun j hj => by
            obtain ⟨_, _, _, _, _, _, _, h9, _⟩ := hoke j hpk hpl hj
            exact h9
          clear hst hno hc hoke hkf hbk hB hat2
          go_upto_region 6 with fail
          refine region_stepsT (S := fun W => W = wr.drew) (m := 16) (n := 16) (k := 1) rfl (by kernel_rfl) rfl ?_
          simp only [List.size_toArray, List.length_cons, List.length_nil, Nat.reduceAdd, Array.replicate_succ, Array.replicate_zero, List.push_toArray, List.nil_append, List.cons_append]
          refine AnyT.nextC (m := 16) (i := 0) (d := some 37) (v := .slice (some ⟨gl, ol, none⟩) l.length lc) [0] rfl rfl (by kernel_rfl) (by kernel_rfl) (by kernel_rfl) (by kernel_rfl) (StepsIf.yield (by kernel_rfl) (fun w' hS => by clear hS; go_simp)) ?_
          intro a' ha'
          simp only [Act.put, List.setIfInBounds_toArray, List.set_cons_zero, List.set_cons_succ] at ha'
          subst ha'
          refine AnyT.nextC (m := 16) (i := 1) (d := some 38) (v := .slice wa w.length wc) [1] rfl rfl (by kernel_rfl) (by kernel_rfl) (by kernel_rfl) (by kernel_rfl) (StepsIf.yield (by kernel_rfl) (fun w' hS => by clear hS; go_simp)) ?_
          intro a' ha'
          simp only [Act.put, List.setIfInBounds_toArray, List.set_cons_zero, List.set_cons_succ] at ha'
          subst ha'
          refine AnyT.nextC (m := 16) (i := 2) (d := some 39) (v := .slice (some ⟨g, off, none⟩) t.length tc) [2] rfl rfl (by kernel_rfl) (by kernel_rfl) (by kernel_rfl) (by kernel_rfl) (StepsIf.yield (by kernel_rfl) (fun w' hS => by clear hS; go_simp)) ?_
          intro a' ha'
          simp only [Act.put, List.setIfInBounds_toArray, List.set_cons_zero, List.set_cons_succ] at ha'
          subst ha'
          refine AnyT.nextC (m := 16) (i := 3) (d := some 40) (v := .int .i64 (i : Nat)) [3] rfl rfl (by kernel_rfl) (by kernel_rfl) (by kernel_rfl) (by kernel_rfl) (StepsIf.yield (by kernel_rfl) (fun w' hS => by clear hS; go_simp)) ?_
          intro a' ha'
          simp only [Act.put, List.setIfInBounds_toArray, List.set_cons_zero, List.set_cons_succ] at ha'
          subst ha'
          refine AnyT.nextC (m := 16) (i := 4) (d := some 41) (v := .pointer (some ⟨W.heap.size, 0, none⟩)) [15, 6, 5, 4] rfl rfl (by kernel_rfl) (by kernel_rfl) (by kernel_rfl) (by kernel_rfl) (StepsIf.yield (by kernel_rfl) (fun w' hS => by clear hS; go_simp)) ?_
          intro a' ha'
          simp only [Act.put, List.setIfInBounds_toArray, List.set_cons_zero, List.set_cons_succ] at ha'
          subst ha'
          refine AnyT.nextC (m := 16) (i := 5) (d := some 42) (v := .int .i64 d) [15, 6, 5] rfl rfl (by kernel_rfl) (by kernel_rfl) (by kernel_rfl) (by kernel_rfl) (StepsIf.yield (by kernel_rfl) (fun w' hS => by rw [hS]; clear hS; go_simp)) ?_
          intro a' ha'
          simp only [Act.put, List.setIfInBounds_toArray, List.set_cons_zero, List.set_cons_succ] at ha'
          subst ha'
          refine AnyT.nextC (m := 16) (i := 6) (d := some 43) (v := .int .i64 (d + 1)) [15, 6] rfl rfl (by kernel_rfl) (by kernel_rfl) (by kernel_rfl) (by kernel_rfl) (StepsIf.yield (by kernel_rfl) (fun w' hS => by clear hS; go_simp)) ?_
          intro a' ha'
          simp only [Act.put, List.setIfInBounds_toArray, List.set_cons_zero, List.set_cons_succ] at ha'
          subst ha'
          refine AnyT.nextC (m := 16) (i := 7) (d := some 44) (v := .slice (some ⟨gl, ol, none⟩) l.length lc) [15, 12, 11, 10, 7] rfl rfl (by kernel_rfl) (by kernel_rfl) (by kernel_rfl) (by kernel_rfl) (StepsIf.yield (by kernel_rfl) (fun w' hS => by clear hS; go_simp)) ?_
          intro a' ha'
          simp only [Act.put, List.setIfInBounds_toArray, List.set_cons_zero, List.set_cons_succ] at ha'
          subst ha'
          refine AnyT.nextC (m := 16) (i := 8) (d := some 45) (v := .pointer (some ⟨W.heap.size, 1, none⟩)) [15, 12, 11, 10, 9, 8] rfl rfl (by kernel_rfl) (by kernel_rfl) (by kernel_rfl) (by kernel_rfl) (StepsIf.yield (by kernel_rfl) (fun w' hS => by clear hS; go_simp)) ?_
          intro a' ha'
          simp only [Act.put, List.setIfInBounds_toArray, List.set_cons_zero, List.set_cons_succ] at ha'
          subst ha'
          refine AnyT.nextC (m := 16) (i := 9) (d := some 46) (v := .int .i64 (n : Nat)) [15, 12, 11, 10, 9] rfl rfl (by kernel_rfl) (by kernel_rfl) (by kernel_rfl) (by kernel_rfl) (StepsIf.yield (by kernel_rfl) (fun w' hS => by rw [hS]; clear hS; go_simp)) ?_
          intro a' ha'
          simp only [Act.put, List.setIfInBounds_toArray, List.set_cons_zero, List.set_cons_succ] at ha'
          subst ha'
          refine AnyT.nextC (m := 16) (i := 10) (d := some 47) (v := .pointer (some ⟨gl, ol + n * 8, none⟩)) [15, 12, 11, 10] rfl rfl (by kernel_rfl) (by kernel_rfl) (by kernel_rfl) (by kernel_rfl) (StepsIf.yield (by kernel_rfl) (fun w' hS => by clear hS; go_simp)) ?_
          intro a' ha'
          simp only [Act.put, List.setIfInBounds_toArray, List.set_cons_zero, List.set_cons_succ] at ha'
          subst ha'
          refine AnyT.nextC (m := 16) (i := 11) (d := some 48) (v := .pointer (some ⟨gl, ol + n * 8 + 1, none⟩)) [15, 12, 11] rfl rfl (by kernel_rfl) (by kernel_rfl) (by kernel_rfl) (by kernel_rfl) (StepsIf.yield (by kernel_rfl) (fun w' hS => by clear hS; go_simp)) ?_
          intro a' ha'
          simp only [Act.put, List.setIfInBounds_toArray, List.set_cons_zero, List.set_cons_succ] at ha'
          subst ha'
          refine AnyT.nextC (m := 16) (i := 12) (d := some 49) (v := .int .i64 (p : Nat)) [15, 12] rfl rfl (by kernel_rfl) (by kernel_rfl) (by kernel_rfl) (by kernel_rfl) (StepsIf.yield (by kernel_rfl) (fun w' hS => by rw [hS]; clear hS; go_simp)) ?_
          intro a' ha'
          simp only [Act.put, List.setIfInBounds_toArray, List.set_cons_zero, List.set_cons_succ] at ha'
          subst ha'
          refine AnyT.nextC (m := 16) (i := 13) (d := some 50) (v := .int .i64 (at_ : Nat)) [15, 13] rfl rfl (by kernel_rfl) (by kernel_rfl) (by kernel_rfl) (by kernel_rfl) (StepsIf.yield (by kernel_rfl) (fun w' hS => by clear hS; go_simp)) ?_
          intro a' ha'
          simp only [Act.put, List.setIfInBounds_toArray, List.set_cons_zero, List.set_cons_succ] at ha'
          subst ha'
          refine AnyT.nextC (m := 16) (i := 14) (d := some 51) (v := .int .i64 (nx : Nat)) [15, 14] rfl rfl (by kernel_rfl) (by kernel_rfl) (by kernel_rfl) (by kernel_rfl) (StepsIf.yield (by kernel_rfl) (fun w' hS => by clear hS; go_simp)) ?_
          intro a' ha'
          simp only [Act.put, List.setIfInBounds_toArray, List.set_cons_zero, List.set_cons_succ] at ha'
          subst ha'
          refine AnyT.nextC (m := 16) (i := 15) (d := some 52) (v := .agg (enI (d + 1) p at_ nx)) [15] rfl rfl (by kernel_rfl) (by kernel_rfl) (by kernel_rfl) (by kernel_rfl) (StepsIf.yield (by kernel_rfl) (fun w' hS => by clear hS; go_simp)) ?_
          intro a' ha'
          simp only [Act.put, List.setIfInBounds_toArray, List.set_cons_zero, List.set_cons_succ] at ha'
          subst ha'
          refine AnyT.endC (by kernel_rfl) (fun w' hS => ?_)
          subst hS
          refine wpAny_one (i := 16) (o := ⟨some 53, _, _, _, _, _⟩) (by kernel_rfl) rfl (by kernel_rfl) ?_
          refine wp_callK (o := ⟨some 53, _, _, _, _, _⟩) (R := fun v w' => v = .int .i64 (resO er) ∧ Below wr.drew.heap.size wr.drew w') (by go_simp) (HCL.out.mono (fun e w' h => ⟨_, h.1, rfl, h.2⟩)) ?_
          rintro v w2 ⟨rfl, hb2⟩
          have hbk2 := HBK.out.drew.below hb2 HBK.out.drew.lt
          have HBK2 := Lib.hid hbk2
          have HB2 := Lib.hid (HB.out.drew.trans (hb2.mono HB.out.size))
          clear r0 r1 r2 r3 cA d3 hb2 HCL
          have r0 := hbk2.cell 0; have r1 := hbk2.cell 1; have r2 := hbk2.cell 2; have r3 := hbk2.cell 3
          simp only [List.getElem?_toArray, List.getElem?_cons_zero, List.getElem?_cons_succ] at r0 r1 r2 r3
          clear hbk2
          refine wpAny_one (i := 17) (o := ⟨some 3, .assign (.tmp 53), _, _, _, _⟩) (by kernel_rfl) rfl (by kernel_rfl) ?_
          show wpAny Try.prog _ _ _ 0 _ (Act.put _ (some 3) (.int .i64 (resO er))) w2
          refine wpAny_none (P := Try.prog) (by kernel_rfl) ?_
          simp only [Act.put, List.setIfInBounds_toArray, List.set_cons_zero, List.set_cons_succ]
          cases er with
          | none =>
            have HRN := Lib.hid (show R = none from HRES.out)
            clear HRES hjl
            simp only [resO]
            go_wp2_with fail
            go_ret
            exact ⟨by rw [HRN.out] <;> rfl, HB2.out⟩
          | some j =>
            have hj := hjl j rfl
            have hres := HRES.out
            simp only [Option.bind_some] at hres
            clear hjl HRES
            simp only [resO]
            have q0 : decide ((j : Int) < 0) = false := by rw [decide_eq_false_iff_not]; omega
            by_cases hne : nx ≤ e
            · have q1 : decide ((e : Int) < (nx : Int)) = false := by rw [decide_eq_false_iff_not]; omega
              have q2 : decide (e < nx) = false := by rw [decide_eq_false_iff_not]; omega
              rw [if_pos (by omega)] at hres
              have HRES := Lib.hid hres.symm
              clear hres
              go_wp2_with fail
              go_roundw
              case rel => exact ⟨j, m2, nx, rfl, rfl, by omega, hne, by omega, HRES.out, HBK2.out, HB2.out⟩
              case measure => simp [intOf]; omega
            · have q1 : decide ((e : Int) < (nx : Int)) = true := by rw [decide_eq_true_iff]; omega
              have q2 : decide (e < nx) = true := by rw [decide_eq_true_iff]; omega
              rw [if_neg (by omega)] at hres
              have HRES := Lib.hid hres
              clear hres
              go_wp2_with fail
              go_ret
              exact ⟨by rw [HRES.out] <;> rfl, HB2.out⟩
        · have p5 : decide (xt ≤ (at_ : Int)) = true := by rw [decide_eq_true_iff]; omega
          have HRN := Lib.hid (hkf.symm.trans (hno (fun hh => hnx hh.2)))
          clear hno hst hkf hbk hB hc hat2
          go_wp2_with fail
          go_ret
          exact ⟨by rw [HRN.out] <;> rfl, HB.out⟩
      · have p3 : decide (t.length ≤ i) = true := by rw [decide_eq_true_iff]; omega
        have p4 : decide ((t.length : Int) ≤ (i : Int)) = true := by rw [decide_eq_true_iff]; omega
        have HRN := Lib.hid (hkf.symm.trans (HNO.out m i at_ (by omega) (by omega) (fun hh => hil hh.1)))
        clear hkf hbk hB
        go_wp2_with fail
        go_ret
        exact ⟨by rw [HRN.out] <;> rfl, HB.out⟩
    · have p1 : decide ((at_ : Int) < (e : Int)) = false := by rw [decide_eq_false_iff_not]; omega
      have p2 : decide (at_ < e) = false := decide_eq_false hlt
      have HRN := Lib.hid (hkf.symm.trans (HEN.out m i at_ (by omega)))
      clear hkf hbk hB
      go_wp2_with fail
      go_ret
      exact ⟨by rw [HRN.out] <;> rfl, HB.out⟩
end Go.Proofs.Ytooolhekihijlaa

/- Frames of parse trees, plainly: rows by places; the list that frames tell. Stage 14. -/
namespace Go.Proofs.Ytooolhekihijlaa
open Go.RowKit

/-- The row of place j. -/
def rowF (ev : List (Int × Int)) (j : Nat) : List Int := (ev.filter fun x => decide (x.1 = (j : Int))).map Prod.snd
def rowsE (ev : List (Int × Int)) (n : Nat) : List (List Int) := (List.range n).map (rowF ev)
theorem rowF_app (a b : List (Int × Int)) (j : Nat) : rowF (a ++ b) j = rowF a j ++ rowF b j := by unfold rowF; rw [List.filter_append, List.map_append]
/-- Places ascend. -/
def ascE (ev : List (Int × Int)) : Prop := ev.Pairwise fun x y => x.1 ≤ y.1
theorem chain_le {p : Nat} : ∀ (R : List (Nat × Nat × Nat)) (f e : Nat), chainR p f e R → f ≤ e
  | [], f, e, h => Nat.le_of_eq h
  | (n, f', m) :: r, f, e, h => by
    obtain ⟨_, _, h1, h2, h3⟩ := h
    have := chain_le r m e h3
    omega
section
variable {l : List NdN} {w : List Nat}
/-- Roots side by side from f to e. -/
def rowR (f e : Nat) : List (Nat × Nat × Nat) → Prop
  | [] => f ≤ e
  | (_, f', m) :: r => f ≤ f' ∧ f' ≤ m ∧ rowR m e r
theorem chain_row {p : Nat} : ∀ (R : List (Nat × Nat × Nat)) (f e : Nat), chainR p f e R → rowR f e R
  | [], _, _, h => Nat.le_of_eq h
  | (n, f', m) :: r, f, e, h => by
    obtain ⟨_, rfl, h1, _, h3⟩ := h
    exact ⟨Nat.le_refl _, by omega, chain_row r m e h3⟩
/-- A node's kids stand side by side within it. -/
theorem node_row {x : NdN} {f e : Nat} {ks : Fo} (h : nodeOk x w f e (rootsO ks)) (hk : okF l w ks) : rowR f e (rootsO ks) := by
  obtain ⟨hfe, _, hc⟩ := h
  have single : ∀ p, rootsO ks = [(p, f, e)] → rowR f e (rootsO ks) := fun p hp => by rw [hp]; exact ⟨Nat.le_refl _, hfe, Nat.le_refl _⟩
  rcases hc with ⟨_, _, hro⟩ | ⟨_, _, _, hro⟩ | ⟨_, p, q, m, _, _, hro⟩ | ⟨_, r, _, hro⟩ | ⟨_, p, _, hch⟩ | ⟨_, ⟨_, hro⟩ | ⟨_, p, _, hro⟩⟩ | ⟨_, p, _, hro⟩
  · rw [hro]; exact hfe
  · rw [hro]; exact hfe
  · cases ks with
    | nil => cases hro
    | cons n1 f1 e1 k1 rest =>
      cases rest with
      | nil => simp only [rootsO, List.cons.injEq] at hro; cases hro.2
      | cons n2 f2 e2 k2 rest2 =>
        rw [hro]
        simp only [rootsO, List.cons.injEq, Prod.mk.injEq] at hro
        have h1 := hk.1.1
        have h2 := hk.2.2.1.1
        refine ⟨Nat.le_refl _, by omega, Nat.le_refl _, by omega, Nat.le_refl _⟩
  · exact single r hro
  · exact chain_row _ _ _ hch
  · rw [hro]; exact hfe
  · exact single p hro
  · exact single p hro
theorem row_le : ∀ (R : List (Nat × Nat × Nat)) (f e : Nat), rowR f e R → f ≤ e
  | [], _, _, h => h
  | (_, f', m) :: r, f, e, h => by
    obtain ⟨h1, h2, h3⟩ := h
    have := row_le r m e h3
    omega
/-- All that a row of trees opens and closes lies between its ends, ascending. -/
theorem ev_asc : ∀ (F : Fo) (f e : Nat), okF l w F → rowR f e (rootsO F) → ascE (evF F) ∧ ∀ x ∈ evF F, (f : Int) ≤ x.1 ∧ x.1 ≤ (e : Int) := by
  intro F
  induction F with
  | nil => intro f e _ _; exact ⟨List.Pairwise.nil, fun x hx => by cases hx⟩
  | cons n f1 e1 ks rest ihk ihr =>
    intro f e hok hrow
    obtain ⟨hno, hkok, hrok⟩ := hok
    obtain ⟨h1, h2, h3⟩ := hrow
    obtain ⟨ak, bk⟩ := ihk f1 e1 hkok (node_row hno hkok)
    obtain ⟨ar, br⟩ := ihr e1 e hrok h3
    have hle := row_le _ _ _ h3
    constructor
    · unfold ascE
      show List.Pairwise _ (((f1 : Int), 2 * (n : Int)) :: (evF ks ++ ((e1 : Int), 2 * (n : Int) + 1) :: evF rest))
      rw [List.pairwise_cons, List.pairwise_append]
      refine ⟨fun x hx => ?_, ak, ?_, fun x hx y hy => ?_⟩
      · rcases List.mem_append.1 hx with hx | hx
        · exact (bk x hx).1
        · rcases List.mem_cons.1 hx with rfl | hx
          · show (f1 : Int) ≤ (e1 : Int); omega
          · have := (br x hx).1; show (f1 : Int) ≤ _; omega
      · rw [List.pairwise_cons]
        exact ⟨fun x hx => (br x hx).1, ar⟩
      · have hb := (bk x hx).2
        rcases List.mem_cons.1 hy with rfl | hy
        · exact hb
        · have := (br y hy).1; omega
    · intro x hx
      have hx' : x ∈ ((f1 : Int), 2 * (n : Int)) :: (evF ks ++ ((e1 : Int), 2 * (n : Int) + 1) :: evF rest) := hx
      rcases List.mem_cons.1 hx' with rfl | hx'
      · show (f : Int) ≤ (f1 : Int) ∧ (f1 : Int) ≤ (e : Int); omega
      · rcases List.mem_append.1 hx' with hx' | hx'
        · have := bk x hx'; omega
        · rcases List.mem_cons.1 hx' with rfl | hx'
          · show (f : Int) ≤ (e1 : Int) ∧ (e1 : Int) ≤ (e : Int); omega
          · have := br x hx'; omega
end
/-- Rows by places, one behind the other, are the steps in their order. -/
theorem rows_flat (ev : List (Int × Int)) (hasc : ascE ev) : ∀ n : Nat, (∀ x ∈ ev, 0 ≤ x.1) → (rowsE ev n).flatten = ((ev.filter fun x => decide (x.1 < (n : Int))).map Prod.snd) := by
  intro n h0
  induction n with
  | zero =>
    have : (ev.filter fun x => decide (x.1 < ((0 : Nat) : Int))) = [] := by
      rw [List.filter_eq_nil_iff]
      intro x hx
      have := h0 x hx
      simp
      omega
    rw [this]
    rfl
  | succ n ih =>
    unfold rowsE at *
    rw [List.range_succ, List.map_append, List.flatten_append, ih]
    show _ ++ [rowF ev n].flatten = _
    rw [List.flatten_singleton]
    unfold rowF
    rw [← List.map_append]
    congr 1
    clear ih h0
    induction ev with
    | nil => rfl
    | cons x r ih =>
      have ha : ascE r := (List.pairwise_cons.1 hasc).2
      have hx : ∀ y ∈ r, x.1 ≤ y.1 := (List.pairwise_cons.1 hasc).1
      have ih := ih ha
      rcases Int.lt_trichotomy x.1 (n : Int) with h1 | h1 | h1
      · rw [List.filter_cons_of_pos (by simpa using h1), List.filter_cons_of_neg (by simp; omega), List.filter_cons_of_pos (by simp; omega), List.cons_append, ih]
      · have hn : (r.filter fun y => decide (y.1 < (n : Int))) = [] := by
          rw [List.filter_eq_nil_iff]
          intro y hy
          have := hx y hy
          simp
          omega
        rw [hn, List.nil_append] at ih
        rw [List.filter_cons_of_neg (by simp; omega), hn, List.nil_append, List.filter_cons_of_pos (by simpa using h1), List.filter_cons_of_pos (by simp; omega), ih]
      · have hn : (r.filter fun y => decide (y.1 < (n : Int))) = [] := by
          rw [List.filter_eq_nil_iff]
          intro y hy
          have := hx y hy
          simp
          omega
        rw [hn, List.nil_append] at ih
        rw [List.filter_cons_of_neg (by simp; omega), hn, List.nil_append, List.filter_cons_of_neg (by simp; omega), List.filter_cons_of_neg (by simp; omega), ih]
end Go.Proofs.Ytooolhekihijlaa

/- The list that frames tell, plainly; of a parse tree's frames it is the tree. Stage 14. -/
namespace Go.Proofs.Ytooolhekihijlaa
open Go.RowKit

structure OfS where
  out : List EnN
  op : List Nat
  done : Bool
/-- One step in frame i. -/
def ofS (i : Int) (st : OfS) (s : Int) : Option OfS :=
  if s < 0 ∨ st.done = true then none
  else if s % 2 = 0 then some ⟨st.out ++ [⟨(st.op.length : Int) + 1, s / 2, i, 0⟩], st.out.length :: st.op, false⟩
  else match st.op with
    | [] => none
    | q :: r => if (atE st.out q).node = s / 2 then some ⟨st.out.set q ⟨(atE st.out q).depth, (atE st.out q).node, (atE st.out q).from_, i⟩, r, r.isEmpty⟩ else none
def ofRow (i : Int) : OfS → List Int → Option OfS
  | st, [] => some st
  | st, s :: r => (ofS i st s).bind fun st' => ofRow i st' r
def ofRows (n : Nat) : Nat → OfS → List (List Int) → Option OfS
  | _, st, [] => some st
  | i, st, row :: r => (ofRow i st row).bind fun st' => if st'.done = true ∧ i + 1 < n then none else ofRows n (i + 1) st' r
def listT (fr : List (List Int)) : List EnN × Bool :=
  match ofRows fr.length 0 ⟨[], [], false⟩ fr with
  | some st => if st.done = true then (st.out, true) else ([], false)
  | none => ([], false)
/-- Steps with their places. -/
def ofSeq : OfS → List (Int × Int) → Option OfS
  | st, [] => some st
  | st, x :: r => (ofS x.1 st x.2).bind fun st' => ofSeq st' r
theorem ofSeq_app : ∀ (a b : List (Int × Int)) (st : OfS), ofSeq st (a ++ b) = (ofSeq st a).bind fun st' => ofSeq st' b
  | [], _, _ => rfl
  | x :: a, b, st => by
    show (ofS x.1 st x.2).bind (fun st' => ofSeq st' (a ++ b)) = ((ofS x.1 st x.2).bind fun st' => ofSeq st' a).bind _
    cases ofS x.1 st x.2 with
    | none => rfl
    | some st' => exact ofSeq_app a b st'
theorem ofRow_seq (i : Int) : ∀ (ev : List (Int × Int)) (st : OfS), (∀ x ∈ ev, x.1 = i) → ofRow i st (ev.map Prod.snd) = ofSeq st ev
  | [], _, _ => rfl
  | x :: r, st, h => by
    show (ofS i st x.2).bind (fun st' => ofRow i st' (r.map Prod.snd)) = (ofS x.1 st x.2).bind fun st' => ofSeq st' r
    rw [h x (List.mem_cons_self ..)]
    congr 1
    funext st'
    exact ofRow_seq i r st' fun y hy => h y (List.mem_cons_of_mem _ hy)
/-- Behind the end no step goes on. -/
theorem ofSeq_done {st : OfS} (h : st.done = true) : ∀ {ev : List (Int × Int)}, ev ≠ [] → ofSeq st ev = none
  | [], hne => absurd rfl hne
  | x :: r, _ => by
    show (ofS x.1 st x.2).bind _ = none
    have : ofS x.1 st x.2 = none := by
      unfold ofS
      rw [if_pos (.inr h)]
    rw [this]
    rfl
theorem asc_split (i : Int) : ∀ ev : List (Int × Int), ascE ev → ev.filter (fun x => decide (i ≤ x.1)) = ev.filter (fun x => decide (x.1 = i)) ++ ev.filter (fun x => decide (i + 1 ≤ x.1))
  | [], _ => rfl
  | x :: r, h => by
    have hx : ∀ y ∈ r, x.1 ≤ y.1 := (List.pairwise_cons.1 h).1
    have ih := asc_split i r (List.pairwise_cons.1 h).2
    rcases Int.lt_trichotomy x.1 i with h1 | h1 | h1
    · rw [List.filter_cons_of_neg (by simp; omega), List.filter_cons_of_neg (by simp; omega), List.filter_cons_of_neg (by simp; omega), ih]
    · rw [List.filter_cons_of_pos (by simp; omega), List.filter_cons_of_pos (by simp; omega), List.filter_cons_of_neg (by simp; omega), ih]
      rfl
    · have hn : (r.filter fun y => decide (y.1 = i)) = [] := by
        rw [List.filter_eq_nil_iff]
        intro y hy
        have := hx y hy
        simp
        omega
      rw [hn, List.nil_append] at ih
      rw [List.filter_cons_of_pos (by simp; omega), List.filter_cons_of_neg (by simp; omega), hn, List.nil_append, List.filter_cons_of_pos (by simp; omega), ih]
/-- Frame by frame, or step by step. -/
theorem rows_run (ev : List (Int × Int)) (hasc : ascE ev) (n : Nat) (hl : ∃ x ∈ ev, x.1 = (n : Int)) (stf : OfS) : ∀ k i st, i + k = n + 1 → ofSeq st (ev.filter fun x => decide ((i : Int) ≤ x.1)) = some stf → (∀ x ∈ ev, x.1 ≤ (n : Int)) →
    ofRows (n + 1) i st ((List.range' i k).map (rowF ev)) = some stf
  | 0, i, st, hi, h, hle => by
    have : (ev.filter fun x => decide ((i : Int) ≤ x.1)) = [] := by
      rw [List.filter_eq_nil_iff]
      intro x hx
      have := hle x hx
      simp
      omega
    rw [this] at h
    exact h
  | k + 1, i, st, hi, h, hle => by
    rw [List.range'_succ, List.map_cons]
    rw [asc_split _ ev hasc, ofSeq_app] at h
    obtain ⟨st', h1, h2⟩ := Option.bind_eq_some_iff.1 h
    show (ofRow (i : Int) st (rowF ev i)).bind _ = _
    have h3 : ofRow (i : Int) st (rowF ev i) = some st' := by
      unfold rowF
      rw [ofRow_seq _ _ _ (fun x hx => by simpa using (List.mem_filter.1 hx).2), h1]
    rw [h3]
    show (if st'.done = true ∧ i + 1 < n + 1 then none else ofRows (n + 1) (i + 1) st' _) = _
    have hnd : ¬ (st'.done = true ∧ i + 1 < n + 1) := by
      rintro ⟨hd, hlt⟩
      obtain ⟨x, hx, hxn⟩ := hl
      have hne : (ev.filter fun x => decide ((i : Int) + 1 ≤ x.1)) ≠ [] := by
        intro h0
        have := List.filter_eq_nil_iff.1 h0 x hx
        simp at this
        omega
      rw [ofSeq_done hd hne] at h2
      cases h2
    rw [if_neg hnd]
    refine rows_run ev hasc n hl stf k (i + 1) st' (by omega) ?_ hle
    rw [show (((i + 1 : Nat)) : Int) = (i : Int) + 1 by omega]
    exact h2
/-- Within an open node: what a row of trees opens and closes tells its entries. -/
theorem seq_inner : ∀ (F : Fo) (out : List EnN) (op : List Nat), op ≠ [] → ofSeq ⟨out, op, false⟩ (evF F) = some ⟨out ++ flF ((op.length : Int) + 1) F, op, false⟩ := by
  intro F
  induction F with
  | nil => intro out op _; simp [evF, flF, ofSeq]
  | cons n f e ks rest ihk ihr =>
    intro out op hop
    show (ofS (f : Int) ⟨out, op, false⟩ (2 * (n : Int))).bind (fun st' => ofSeq st' (evF ks ++ ((e : Int), 2 * (n : Int) + 1) :: evF rest)) = _
    have h1 : ofS (f : Int) ⟨out, op, false⟩ (2 * (n : Int)) = some ⟨out ++ [⟨(op.length : Int) + 1, n, f, 0⟩], out.length :: op, false⟩ := by
      unfold ofS
      rw [if_neg (by simp; omega), if_pos (by omega)]
      simp only [show 2 * (n : Int) / 2 = n by omega]
    rw [h1]
    show ofSeq _ (evF ks ++ _) = _
    rw [ofSeq_app, ihk _ _ (by simp)]
    show (ofS (e : Int) ⟨out ++ [⟨(op.length : Int) + 1, n, f, 0⟩] ++ flF (((out.length :: op).length : Int) + 1) ks, out.length :: op, false⟩ (2 * (n : Int) + 1)).bind (fun st' => ofSeq st' (evF rest)) = _
    have hat : atE (out ++ [⟨(op.length : Int) + 1, n, f, 0⟩] ++ flF (((out.length :: op).length : Int) + 1) ks) out.length = ⟨(op.length : Int) + 1, n, f, 0⟩ := by
      unfold atE
      rw [List.append_assoc, List.getD_eq_getElem?_getD, List.getElem?_append_right (Nat.le_refl _), Nat.sub_self]
      rfl
    have h2 : ofS (e : Int) ⟨out ++ [⟨(op.length : Int) + 1, n, f, 0⟩] ++ flF (((out.length :: op).length : Int) + 1) ks, out.length :: op, false⟩ (2 * (n : Int) + 1) = some ⟨out ++ [⟨(op.length : Int) + 1, n, f, e⟩] ++ flF ((op.length : Int) + 1 + 1) ks, op, false⟩ := by
      unfold ofS
      rw [if_neg (by simp; omega), if_neg (by omega)]
      simp only [hat]
      rw [if_pos (by omega)]
      have hemp : op.isEmpty = false := by cases op with | nil => exact absurd rfl hop | cons _ _ => rfl
      rw [hemp]
      congr 2
      rw [List.append_assoc, List.set_append_right _ _ (Nat.le_refl _), Nat.sub_self]
      simp
    rw [h2]
    show ofSeq _ (evF rest) = _
    rw [ihr _ _ hop]
    simp [flF]
/-- Of a tree's steps: the tree, and done. -/
theorem seq_tree (n f e : Nat) (ks : Fo) : ofSeq ⟨[], [], false⟩ (evF (.cons n f e ks .nil)) = some ⟨flF 1 (.cons n f e ks .nil), [], true⟩ := by
  show (ofS (f : Int) ⟨[], [], false⟩ (2 * (n : Int))).bind (fun st' => ofSeq st' (evF ks ++ [((e : Int), 2 * (n : Int) + 1)])) = _
  have h1 : ofS (f : Int) ⟨[], [], false⟩ (2 * (n : Int)) = some ⟨[⟨1, n, f, 0⟩], [0], false⟩ := by
    unfold ofS
    rw [if_neg (by simp; omega), if_pos (by omega)]
    simp only [show 2 * (n : Int) / 2 = n by omega]
    rfl
  rw [h1]
  show ofSeq _ (evF ks ++ _) = _
  rw [ofSeq_app, seq_inner ks _ _ (by simp)]
  show (ofS (e : Int) ⟨[⟨1, n, f, 0⟩] ++ flF (1 + 1) ks, [0], false⟩ (2 * (n : Int) + 1)).bind (fun st' => ofSeq st' []) = _
  have h2 : ofS (e : Int) ⟨[⟨1, n, f, 0⟩] ++ flF (1 + 1) ks, [0], false⟩ (2 * (n : Int) + 1) = some ⟨⟨1, n, f, e⟩ :: flF (1 + 1) ks, [], true⟩ := by
    unfold ofS
    rw [if_neg (by simp; omega), if_neg (by omega)]
    have hat : atE ([⟨1, (n : Int), f, 0⟩] ++ flF (1 + 1) ks) 0 = ⟨1, n, f, 0⟩ := rfl
    simp only [hat]
    rw [if_pos (by omega)]
    rfl
  rw [h2]
  simp [ofSeq, flF]
/-- Of a parse tree's frames: that tree. -/
theorem of_frames {l : List NdN} {w : List Nat} (n : Nat) (ks : Fo) (hok : okF l w (.cons n 0 w.length ks .nil)) : listT (rowsE (evF (.cons n 0 w.length ks .nil)) (w.length + 1)) = (flF 1 (.cons n 0 w.length ks .nil), true) := by
  obtain ⟨hasc, hb⟩ := ev_asc (.cons n 0 w.length ks .nil) 0 w.length hok ⟨Nat.le_refl _, Nat.zero_le _, Nat.le_refl _⟩
  have hall : (evF (.cons n 0 w.length ks .nil)).filter (fun x => decide (((0 : Nat) : Int) ≤ x.1)) = evF (.cons n 0 w.length ks .nil) := by
    rw [List.filter_eq_self]
    intro x hx
    have := (hb x hx).1
    simpa using this
  have hs := seq_tree n 0 w.length ks
  rw [← hall] at hs
  have hr := rows_run _ hasc w.length ⟨((w.length : Int), 2 * (n : Int) + 1), by simp [evF], rfl⟩ _ (w.length + 1) 0 _ (by omega) hs (fun x hx => (hb x hx).2)
  unfold listT
  have hlen : (rowsE (evF (.cons n 0 w.length ks .nil)) (w.length + 1)).length = w.length + 1 := by simp [rowsE]
  rw [hlen]
  unfold rowsE
  rw [List.range_eq_range', hr]
  rfl
end Go.Proofs.Ytooolhekihijlaa

/- Parse trees, plainly: each entry lies in the one next above it and ahead; nodes are nodes. Stage 14. -/
namespace Go.Proofs.Ytooolhekihijlaa
open Go.RowKit

/-- Entry k is next above entry i, and ahead; entry i lies in it. -/
def AboveE (L : List EnN) (i k : Nat) : Prop := k < i ∧ (atE L k).depth + 1 = (atE L i).depth ∧ (∀ j, k < j → j < i → (atE L i).depth ≤ (atE L j).depth) ∧ (atE L k).from_ ≤ (atE L i).from_ ∧ (atE L i).to ≤ (atE L k).to
/-- Each entry is an uppermost one, between f and e, or lies in one next above it. -/
def NestE (d f e : Int) (L : List EnN) : Prop := ∀ i, i < L.length → d ≤ (atE L i).depth ∧ (((atE L i).depth = d ∧ f ≤ (atE L i).from_ ∧ (atE L i).to ≤ e) ∨ ∃ k, AboveE L i k)
theorem atE_cons (x : EnN) (L : List EnN) (i : Nat) : atE (x :: L) (i + 1) = atE L i := by
  unfold atE
  rw [List.getD_eq_getElem?_getD, List.getD_eq_getElem?_getD, List.getElem?_cons_succ]
theorem atE_zero (x : EnN) (L : List EnN) : atE (x :: L) 0 = x := rfl
theorem atE_left (A B : List EnN) (i : Nat) (h : i < A.length) : atE (A ++ B) i = atE A i := by
  unfold atE
  rw [List.getD_eq_getElem?_getD, List.getD_eq_getElem?_getD, List.getElem?_append_left h]
theorem atE_right (A B : List EnN) (i : Nat) : atE (A ++ B) (A.length + i) = atE B i := by
  unfold atE
  rw [List.getD_eq_getElem?_getD, List.getD_eq_getElem?_getD, List.getElem?_append_right (by omega), Nat.add_sub_cancel_left]
theorem above_right {A B : List EnN} {i k : Nat} (h : AboveE B i k) : AboveE (A ++ B) (A.length + i) (A.length + k) := by
  obtain ⟨h1, h2, h3, h4, h5⟩ := h
  refine ⟨by omega, by rw [atE_right, atE_right]; exact h2, fun j hj1 hj2 => ?_, by rw [atE_right, atE_right]; exact h4, by rw [atE_right, atE_right]; exact h5⟩
  obtain ⟨j', rfl⟩ : ∃ j', j = A.length + j' := ⟨j - A.length, by omega⟩
  rw [atE_right, atE_right]
  exact h3 j' (by omega) (by omega)
theorem above_left {A B : List EnN} {i k : Nat} (hi : i < A.length) (h : AboveE A i k) : AboveE (A ++ B) i k := by
  obtain ⟨h1, h2, h3, h4, h5⟩ := h
  refine ⟨h1, by rw [atE_left A B k (by omega), atE_left A B i hi]; exact h2, fun j hj1 hj2 => ?_, by rw [atE_left A B k (by omega), atE_left A B i hi]; exact h4, by rw [atE_left A B k (by omega), atE_left A B i hi]; exact h5⟩
  rw [atE_left A B i hi, atE_left A B j (by omega)]
  exact h3 j hj1 hj2
section
variable {l : List NdN} {w : List Nat}
theorem nest_forest : ∀ (F : Fo) (d : Int) (f e : Nat), okF l w F → rowR f e (rootsO F) → NestE d f e (flF d F) := by
  intro F
  induction F with
  | nil => intro d f e _ _ i hi; exact absurd hi (by simp [flF])
  | cons n f1 e1 ks rest ihk ihr =>
    intro d f e hok hrow
    obtain ⟨hno, hkok, hrok⟩ := hok
    obtain ⟨h1, h2, h3⟩ := hrow
    have nk := ihk (d + 1) f1 e1 hkok (node_row hno hkok)
    have nr := ihr d e1 e hrok h3
    have hle := row_le _ _ _ h3
    show NestE d f e (⟨d, n, f1, e1⟩ :: (flF (d + 1) ks ++ flF d rest))
    generalize flF (d + 1) ks = K at nk
    generalize flF d rest = R at nr
    intro i hi
    cases i with
    | zero => exact ⟨Int.le_refl _, .inl ⟨rfl, (by show (f : Int) ≤ (f1 : Int); omega), (by show (e1 : Int) ≤ (e : Int); omega)⟩⟩
    | succ i =>
      rw [List.length_cons, List.length_append] at hi
      by_cases hik : i < K.length
      · have hat : atE (⟨d, n, f1, e1⟩ :: (K ++ R)) (i + 1) = atE K i := by rw [atE_cons, atE_left K R i hik]
        obtain ⟨hd, hcase⟩ := nk i hik
        refine ⟨by rw [hat]; omega, .inr ?_⟩
        rcases hcase with ⟨c1, c2, c3⟩ | ⟨k, hk⟩
        · refine ⟨0, Nat.succ_pos _, by rw [hat, atE_zero, c1], fun j hj1 hj2 => ?_, by rw [hat, atE_zero]; exact c2, by rw [hat, atE_zero]; exact c3⟩
          obtain ⟨j', rfl⟩ : ∃ j', j = j' + 1 := ⟨j - 1, by omega⟩
          rw [hat, atE_cons, atE_left K R j' (by omega), c1]
          exact (nk j' (by omega)).1
        · refine ⟨k + 1, ?_⟩
          have := above_right (A := [⟨d, n, f1, e1⟩]) (above_left (B := R) hik hk)
          rw [List.length_singleton, Nat.add_comm 1 i, Nat.add_comm 1 k] at this
          exact this
      · obtain ⟨i', rfl⟩ : ∃ i', i = K.length + i' := ⟨i - K.length, by omega⟩
        have hat : atE (⟨d, n, f1, e1⟩ :: (K ++ R)) (K.length + i' + 1) = atE R i' := by rw [atE_cons, atE_right]
        obtain ⟨hd, hcase⟩ := nr i' (by omega)
        refine ⟨by rw [hat]; exact hd, ?_⟩
        rcases hcase with ⟨c1, c2, c3⟩ | ⟨k, hk⟩
        · exact .inl ⟨by rw [hat]; exact c1, by rw [hat]; omega, by rw [hat]; exact c3⟩
        · refine .inr ⟨K.length + k + 1, ?_⟩
          have := above_right (A := [⟨d, n, f1, e1⟩]) (above_right (A := K) hk)
          rw [List.length_singleton, Nat.add_comm 1 (K.length + i'), Nat.add_comm 1 (K.length + k)] at this
          exact this
theorem nest_tree (n e : Nat) (ks : Fo) (hok : okF l w (.cons n 0 e ks .nil)) : ∀ i, 0 < i → i < (flF 1 (.cons n 0 e ks .nil)).length → 1 < (atE (flF 1 (.cons n 0 e ks .nil)) i).depth ∧ ∃ k, AboveE (flF 1 (.cons n 0 e ks .nil)) i k := by
  intro i h0 hi
  have hn := nest_forest (.cons n 0 e ks .nil) 1 0 e hok ⟨Nat.le_refl _, Nat.zero_le _, Nat.le_refl _⟩
  have hks := nest_forest ks (1 + 1) 0 e hok.2.1 (node_row hok.1 hok.2.1)
  obtain ⟨i, rfl⟩ : ∃ i', i = i' + 1 := ⟨i - 1, by omega⟩
  have hat : atE (flF 1 (.cons n 0 e ks .nil)) (i + 1) = atE (flF (1 + 1) ks) i := by
    show atE (_ :: (flF (1 + 1) ks ++ flF 1 .nil)) (i + 1) = _
    rw [atE_cons]
    simp [flF]
  have hd := (hks i (by simpa [flF] using hi)).1
  have hd2 : 1 < (atE (flF 1 (.cons n 0 e ks .nil)) (i + 1)).depth := by rw [hat]; omega
  refine ⟨hd2, ?_⟩
  rcases (hn (i + 1) hi).2 with ⟨c1, _⟩ | h
  · omega
  · exact h
/-- All nodes are nodes, and all spans are spans of the bytes. -/
theorem nodes_in (hP : PartsOk l) : ∀ (F : Fo) (d : Int) (N : Nat), N ≤ l.length → okF l w F → (∀ r ∈ rootsO F, r.1 < N) → ∀ x ∈ flF d F, 0 ≤ x.node ∧ x.node < N ∧ 0 ≤ x.from_ ∧ x.from_ ≤ x.to ∧ x.to ≤ (w.length : Int) := by
  intro F
  induction F with
  | nil => intro d N _ _ _ x hx; cases hx
  | cons n f e ks rest ihk ihr =>
    intro d N hN hok hro x hx
    obtain ⟨hno, hkok, hrok⟩ := hok
    have hn : n < N := hro (n, f, e) (List.mem_cons_self ..)
    have hx' : x ∈ (⟨d, n, f, e⟩ : EnN) :: (flF (d + 1) ks ++ flF d rest) := hx
    rcases List.mem_cons.1 hx' with rfl | hx'
    · have h1 := hno.1
      have h2 := hno.2.1
      show 0 ≤ (n : Int) ∧ (n : Int) < N ∧ 0 ≤ (f : Int) ∧ (f : Int) ≤ (e : Int) ∧ (e : Int) ≤ (w.length : Int)
      omega
    · rcases List.mem_append.1 hx' with hx' | hx'
      · refine ihk (d + 1) N hN hkok (fun r hr => ?_) x hx'
        have hpa : ∀ p : Nat, 3 ≤ (ndE l n).kind → (ndE l n).kids = (p : Int) → p < N := fun p hk hp => by
          obtain ⟨p', hp', hlt⟩ := hP.a n (by omega) hk
          omega
        have hpb : ∀ p : Nat, (ndE l n).kind = 3 ∨ (ndE l n).kind = 4 → (ndE l n).n = (p : Int) → p < N := fun p hk hp => by
          obtain ⟨p', hp', hlt⟩ := hP.b n (by omega) hk
          omega
        rcases hno.2.2 with ⟨_, _, hro⟩ | ⟨_, _, _, hro⟩ | ⟨k3, p, q, m, hp, hq, hro⟩ | ⟨k4, p, hp, hro⟩ | ⟨k5, p, hp, hch⟩ | ⟨k6, ⟨_, hro⟩ | ⟨_, p, hp, hro⟩⟩ | ⟨k7, p, hp, hro⟩
        · rw [hro] at hr; cases hr
        · rw [hro] at hr; cases hr
        · rw [hro] at hr
          simp only [List.mem_cons, List.not_mem_nil, or_false] at hr
          rcases hr with rfl | rfl
          · exact hpa p (by omega) hp
          · exact hpb q (.inl k3) hq
        · rw [hro, List.mem_singleton] at hr
          subst hr
          rcases hp with hp | hp
          · exact hpa p (by omega) hp
          · exact hpb p (.inr k4) hp
        · have key : ∀ (R : List (Nat × Nat × Nat)) (f e : Nat), chainR p f e R → ∀ r ∈ R, r.1 = p := by
            intro R
            induction R with
            | nil => intro f e _ r hr; cases hr
            | cons y R ih =>
              intro f e h r hr
              obtain ⟨n', f', m'⟩ := y
              obtain ⟨e1, _, _, _, h3⟩ := h
              rcases List.mem_cons.1 hr with rfl | hr
              · exact e1
              · exact ih m' e h3 r hr
          rw [key _ _ _ hch r hr]
          exact hpa p (by omega) hp
        · rw [hro] at hr; cases hr
        · rw [hro, List.mem_singleton] at hr
          subst hr
          exact hpa p (by omega) hp
        · rw [hro, List.mem_singleton] at hr
          subst hr
          exact hpa p (by omega) hp
      · exact ihr d N hN hrok (fun r hr => hro r (List.mem_cons_of_mem _ hr)) x hx'
end
end Go.Proofs.Ytooolhekihijlaa

/- The list that frames tell, as the developers find it: it is the document's. Stage 14. -/
namespace Go.Proofs.Ytooolhekihijlaa
open Go.RowKit

/-- What holds of what was made so far: places that are open are there, the first one is the lowest, and all is done where nothing is open. -/
structure OfInv (st : OfS) : Prop where
  idx : ∀ q ∈ st.op, q < st.out.length
  bot : st.op ≠ [] → st.op.getLast? = some 0
  dn : st.done = true ↔ st.out ≠ [] ∧ st.op = []
theorem inv_init : OfInv ⟨[], [], false⟩ := ⟨fun _ h => (by cases h), fun h => absurd rfl h, by simp⟩
theorem ofS_inv {i : Int} {st st' : OfS} {s : Int} (h : OfInv st) (e : ofS i st s = some st') : OfInv st' ∧ (st'.done = true → (atE st'.out 0).to = i) ∧ st'.out.length ≤ st.out.length + 1 ∧ st'.op.length ≤ st.op.length + 1 := by
  unfold ofS at e
  by_cases h1 : s < 0 ∨ st.done = true
  · rw [if_pos h1] at e; cases e
  rw [if_neg h1] at e
  by_cases h2 : s % 2 = 0
  · rw [if_pos h2] at e
    cases e
    refine ⟨⟨fun q hq => ?_, fun _ => ?_, by simp⟩, fun hd => by simp at hd, by simp, by simp⟩
    · rw [List.length_append, List.length_singleton]
      rcases List.mem_cons.1 hq with rfl | hq
      · omega
      · have := h.idx q hq; omega
    · by_cases ho : st.op = []
      · have hout : st.out = [] := by
          rcases Classical.em (st.out = []) with h9 | h9
          · exact h9
          · exact absurd (.inr (h.dn.2 ⟨h9, ho⟩)) h1
        simp [ho, hout]
      · show (st.out.length :: st.op).getLast? = some 0
        rw [List.getLast?_cons_of_ne_nil ho]
        exact h.bot ho
  · rw [if_neg h2] at e
    have hidx := h.idx
    have hbot := h.bot
    cases hop : st.op with
    | nil => rw [hop] at e; cases e
    | cons q r =>
      rw [hop] at e hidx hbot
      simp only at e
      by_cases h3 : (atE st.out q).node = s / 2
      · rw [if_pos h3] at e
        cases e
        have hq := hidx q (List.mem_cons_self ..)
        refine ⟨⟨fun x hx => ?_, fun hr => ?_, ?_⟩, fun hd => ?_, by simp, by simp; omega⟩
        · rw [List.length_set]; exact hidx x (List.mem_cons_of_mem _ hx)
        · have := hbot (by simp)
          rw [List.getLast?_cons_of_ne_nil hr] at this
          exact this
        · have hne : st.out ≠ [] := by intro e; rw [e] at hq; simp at hq
          simp [List.isEmpty_iff, hne]
        · simp only [List.isEmpty_iff] at hd
          subst hd
          have h0 := hbot (by simp)
          simp at h0
          subst h0
          rw [atE_lt _ 0 (by rw [List.length_set]; exact hq)]
          simp
      · rw [if_neg h3] at e; cases e
theorem ofRow_inv {i : Int} : ∀ (row : List Int) {st st' : OfS}, OfInv st → ofRow i st row = some st' → OfInv st' ∧ (st.done = false → st'.done = true → (atE st'.out 0).to = i) ∧ st'.out.length ≤ st.out.length + row.length ∧ st'.op.length ≤ st.op.length + row.length
  | [], st, st', h, e => by cases e; exact ⟨h, fun h1 h2 => (by rw [h1] at h2; cases h2), Nat.le_refl _, Nat.le_refl _⟩
  | s :: r, st, st', h, e => by
    rw [ofRow] at e
    cases h1 : ofS i st s with
    | none => rw [h1] at e; cases e
    | some s1 =>
      rw [h1] at e
      simp only [Option.bind_some] at e
      obtain ⟨hi1, hd1, hl1, ho1⟩ := ofS_inv h h1
      obtain ⟨hi2, hd2, hl2, ho2⟩ := ofRow_inv r hi1 e
      refine ⟨hi2, fun _ hd => ?_, by simp only [List.length_cons]; omega, by simp only [List.length_cons]; omega⟩
      cases hs1 : s1.done with
      | false => exact hd2 hs1 hd
      | true =>
        cases r with
        | nil => cases e; exact hd1 hd
        | cons s2 r =>
          rw [ofRow, ofS, if_pos (.inr hs1)] at e
          cases e
theorem ofRow_done {i : Int} {st st' : OfS} {row : List Int} (hd : st.done = true) (e : ofRow i st row = some st') : st' = st := by
  cases row with
  | nil => cases e; rfl
  | cons s r =>
    rw [ofRow, ofS, if_pos (.inr hd)] at e
    cases e
/-- As the developers go through the frames. -/
def ofRowsD : Nat → OfS → List (List Int) → Option OfS
  | _, st, [] => some st
  | i, st, row :: r => (ofRow i st row).bind fun st' => ofRowsD (i + 1) st' r
def devL (n : Nat) (o : Option OfS) : List EnN × Bool :=
  match o with
  | some st => if st.done = true ∧ (atE st.out 0).to = (n : Int) - 1 then (st.out, true) else ([], false)
  | none => ([], false)
def docL (o : Option OfS) : List EnN × Bool :=
  match o with
  | some st => if st.done = true then (st.out, true) else ([], false)
  | none => ([], false)
theorem rowsD_done : ∀ (rows : List (List Int)) (i : Nat) {st st' : OfS}, st.done = true → ofRowsD i st rows = some st' → st' = st
  | [], _, st, st', _, e => by cases e; rfl
  | row :: r, i, st, st', hd, e => by
    rw [ofRowsD] at e
    cases h1 : ofRow i st row with
    | none => rw [h1] at e; cases e
    | some s1 =>
      rw [h1] at e
      simp only [Option.bind_some] at e
      obtain rfl := ofRow_done hd h1
      exact rowsD_done r (i + 1) hd e
theorem dev_doc (n : Nat) : ∀ (rows : List (List Int)) (i : Nat) (st : OfS), n = i + rows.length → OfInv st → st.done = false → devL n (ofRowsD i st rows) = docL (ofRows n i st rows)
  | [], i, st, _, _, hd => by simp [ofRowsD, ofRows, devL, docL, hd]
  | row :: r, i, st, hn, hinv, hd => by
    rw [ofRowsD, ofRows]
    cases h1 : ofRow i st row with
    | none => rfl
    | some s1 =>
      obtain ⟨hi1, hd1, _⟩ := ofRow_inv row hinv h1
      simp only [Option.bind_some]
      cases hs1 : s1.done with
      | false =>
        rw [if_neg (fun h => by cases h.1)]
        exact dev_doc n r (i + 1) s1 (by simp at hn; omega) hi1 hs1
      | true =>
        have hto := hd1 hd hs1
        cases r with
        | nil =>
          simp only [List.length_cons, List.length_nil] at hn
          rw [if_neg (fun h => by omega)]
          simp only [ofRowsD, ofRows, devL, docL]
          rw [if_pos ⟨hs1, by rw [hto]; omega⟩, if_pos hs1]
        | cons r2 rs =>
          simp only [List.length_cons] at hn
          rw [if_pos ⟨rfl, by omega⟩]
          show devL n (ofRowsD (i + 1) s1 (r2 :: rs)) = ([], false)
          cases h2 : ofRowsD (i + 1) s1 (r2 :: rs) with
          | none => rfl
          | some s2 =>
            obtain rfl := rowsD_done _ _ hs1 h2
            show (if s2.done = true ∧ (atE s2.out 0).to = (n : Int) - 1 then (s2.out, true) else ([], false)) = ([], false)
            rw [if_neg (fun h => by have := h.2; rw [hto] at this; omega)]
theorem listT_dev (fr : List (List Int)) : devL fr.length (ofRowsD 0 ⟨[], [], false⟩ fr) = listT fr := by
  rw [dev_doc fr.length fr 0 _ (by omega) inv_init rfl]
  rfl
end Go.Proofs.Ytooolhekihijlaa

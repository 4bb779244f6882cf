/- Texts put together: Trj. -/
import Derived.Test.YtooolhekihijlaaPK
import Derived.Test.YtooolhekihijlaaPC
import Derived.BigQuiet
import Derived.Deep.QuietTactic
/- Is a list a parse tree: the document's kids. Stage 14. -/
namespace Go.Proofs.Ytooolhekihijlaa
open Go.RowKit BS

theorem wp_callK {P : Program} {o : Oper} {a : Act} {w : World} {f : FuncId} {args : Array Value} {R : Value → World → Prop} {K : Act → World → Prop} {Q : Exit → Act → World → Prop} (h : (execOp a.eval o).run P w = .ok (.enter f args) w)
    (hc : Calls P f args w fun e w' => ∃ v, e = .returned v ∧ R v w') (hK : ∀ v w', R v w' → K (a.put o.dst v) w') : o.wp P a w K Q := by
  unfold Oper.wp
  rw [h]
  refine Calls.mono hc fun e w' he => ?_
  obtain ⟨v, rfl, hR⟩ := he
  exact hK v w' hR
theorem kids_none {ent : Nat → EnN → Option Nat} {t : List EnN} {a d e : Int} {m i : Nat} {at_ : Int} (hm : e - at_ ≤ m) (hlt : at_ < e) (h : ¬ (i < t.length ∧ at_ < (atE t i).to)) : kidsF ent t a d e m i at_ = none := by
  obtain ⟨m, rfl⟩ : ∃ x, m = x + 1 := ⟨m - 1, by omega⟩
  unfold kidsF
  rw [if_pos hlt, if_neg h]
theorem kids_step {ent : Nat → EnN → Option Nat} {t : List EnN} {a d e : Int} {m i : Nat} {at_ : Int} (hm : e - at_ ≤ m) (hlt : at_ < e) (h : i < t.length ∧ at_ < (atE t i).to) : ∃ m', m = m' + 1 ∧ kidsF ent t a d e m i at_ = (ent i ⟨d, a, at_, (atE t i).to⟩).bind fun j => if (atE t i).to ≤ e then kidsF ent t a d e m' j (atE t i).to else none := by
  obtain ⟨m, rfl⟩ : ∃ x, m = x + 1 := ⟨m - 1, by omega⟩
  refine ⟨m, rfl, ?_⟩
  rw [kidsF, if_pos hlt, if_pos h]
theorem kids_end {ent : Nat → EnN → Option Nat} {t : List EnN} {a d e : Int} {m i : Nat} {at_ : Int} (h : ¬ at_ < e) : kidsF ent t a d e m i at_ = some i := by
  cases m <;> simp [kidsF, h]
set_option maxRecDepth 100000 in
set_option maxHeartbeats 32000000 in
theorem kids_calls (l : List NdN) (w : List Nat) (t : List EnN) (la wa ta : Option Addr) (lc wc tc k : Nat) (hP : PartsOk l) (_hl : l.length ≤ 1000) (_hw : w.length ≤ 1000) (ht : t.length ≤ 1000) (_hk : k ≤ 1000) (HG : EntG l w t la wa ta lc wc tc k)
    (i : Nat) (d : Int) (n f e p : Nat) (W : World) (hn : n < l.length) (hp : (ndE l n).kids = p) (hpk : p < k) (hpl : p < l.length) (hi : i ≤ 100000) (hd0 : 0 ≤ d) (hdk : d + (k + 1 : Nat) ≤ 100000) (_hfe : f ≤ e) (_hel : e ≤ w.length) (hN : NodesAt l la W) (hT : BtsAt w wa W) (hE : EntsAt t ta W) :
    Calls Try.prog 48 #[.slice la l.length lc, .slice wa w.length wc, .slice ta t.length tc, .int .i64 (i : Nat), .agg (enI d n f e)] W fun r W' => r = .returned (.int .i64 (resO (kidsF (entF l w t k) t p (d + 1) e (e - f) i f))) ∧ Below W.heap.size W W' := by
  have HGG := Lib.hid HG
  have HOK := Lib.hid (@ent_ok l w t hP k)
  obtain ⟨gl, ol, rfl, hgl, hcl⟩ := hN (by rintro rfl; simp at hn)
  have HCA := Lib.hid (show ∀ W', Below W.heap.size W W' → W'.cell? ⟨gl, ol + n * 8 + 1, none⟩ = some (.int .i64 (p : Nat)) from fun W' hW => by
    rw [hW.cell (p := ⟨gl, ol + n * 8 + 1, none⟩) hgl, hcl n hn 1 (by decide)]
    have : (ndE l n).kids = l[n].kids := by simp [ndE, hn]
    rw [this] at hp
    simp [ndA, hp])
  have HN := Lib.hid hN
  have HT := Lib.hid hT
  have HE := Lib.hid hE
  have hR := Blk.new W (enI d n f e) 44
  have hB0 := Lib.hid (show Below W.heap.size W (W.alloc (.cells (enI d n f e) 44)) from (Below.refl _ _).alloc (Nat.le_refl _) _)
  have r0 := hR.cell 0; have r1 := hR.cell 1; have r2 := hR.cell 2; have r3 := hR.cell 3
  simp only [List.getElem?_toArray, List.getElem?_cons_zero, List.getElem?_cons_succ] at r0 r1 r2 r3
  have HBK := Lib.hid hR
  have xd : IntKind.i64.wrap (d + 1) = d + 1 := IntWalk.i64_in _ (by omega)
  obtain ⟨KF, hKF⟩ : ∃ KF, KF = kidsF (entF l w t k) t p (d + 1) e := ⟨_, rfl⟩
  have HNO := Lib.hid (fun (m i : Nat) (at_ : Int) (h1 : (e : Int) - at_ ≤ m) (h2 : at_ < e) h3 => hKF ▸ @kids_none (entF l w t k) t p (d + 1) e m i at_ h1 h2 h3)
  have HST := Lib.hid (fun (m i : Nat) (at_ : Int) (h1 : (e : Int) - at_ ≤ m) (h2 : at_ < e) h3 => hKF ▸ @kids_step (entF l w t k) t p (d + 1) e m i at_ h1 h2 h3)
  have HEN := Lib.hid (fun (m i : Nat) (at_ : Int) (h : ¬ at_ < e) => hKF ▸ @kids_end (entF l w t k) t p (d + 1) e m i at_ h)
  rw [← hKF]
  obtain ⟨R, hRR⟩ : ∃ R, R = KF (e - f) i f := ⟨_, rfl⟩
  rw [← hRR]
  clear hN hT hE hcl hp HG hR hKF hP
  go_enter Try.func48, Try.ntmps48
  go_upto_region 1 with fail
  generalize W.alloc (.cells (enI d n f e) 44) = w1 at *
  go_wp2_with fail
  clear r0 r1 r2 r3
  go_loopw [3, 11] (fun vi va wr => ∃ i m at_ : Nat, vi = .int .i64 i ∧ va = .int .i64 at_ ∧ i ≤ 100000 ∧ at_ ≤ e ∧ e - at_ ≤ m ∧ KF m i at_ = R ∧ Blk wr W.heap.size (enI d n f e) 44 ∧ Below W.heap.size W wr) (fun _ va _ => e - (intOf va).toNat)
  case atStart => exact ⟨i, e - f, f, rfl, rfl, hi, by omega, Nat.le_refl _, hRR.symm, HBK.out, hB0.out⟩
  case round =>
    clear hB0 HBK hRR hi
    clear i
    obtain ⟨i, m, at_, rfl, rfl, hi, hat, hm, hkf, hbk, hB⟩ := hrel
    have HBK := Lib.hid hbk
    have HB := Lib.hid hB
    have r0 := hbk.cell 0; have r1 := hbk.cell 1; have r2 := hbk.cell 2; have r3 := hbk.cell 3
    simp only [List.getElem?_toArray, List.getElem?_cons_zero, List.getElem?_cons_succ] at r0 r1 r2 r3
    by_cases hlt : at_ < e
    · have p1 : decide ((at_ : Int) < (e : Int)) = true := by rw [decide_eq_true_iff]; omega
      have p2 : decide (at_ < e) = true := decide_eq_true hlt
      by_cases hil : i < t.length
      · have p3 : decide (t.length ≤ i) = false := by rw [decide_eq_false_iff_not]; omega
        have p4 : decide ((t.length : Int) ≤ (i : Int)) = false := by rw [decide_eq_false_iff_not]; omega
        have hii : (i : Int) < (t.length : Int) := by omega
        have hd2 : decide (i < t.length) = true := decide_eq_true hil
        obtain ⟨g, off, hta, hg, hc⟩ := (HE.out.below hB) (by rintro rfl; simp at hil)
        subst hta
        have d3 := hc i hil 3 (by decide)
        simp only [enA, List.getElem?_toArray, List.getElem?_cons_zero, List.getElem?_cons_succ] at d3
        have hat2 := atE_lt t i hil
        have hno := HNO.out m i at_ (by omega) (by omega)
        have hst := HST.out m i at_ (by omega) (by omega)
        rw [hat2] at hno hst
        generalize t[i].to = xt at *
        by_cases hnx : (at_ : Int) < xt
        · obtain ⟨m2, rfl, hst⟩ := hst ⟨hil, hnx⟩
          obtain ⟨nx, rfl⟩ : ∃ nx : Nat, xt = nx := ⟨xt.toNat, by omega⟩
          have p5 : decide ((nx : Int) ≤ (at_ : Int)) = false := by rw [decide_eq_false_iff_not]; omega
          have p6 : decide (nx ≤ at_) = false := by rw [decide_eq_false_iff_not]; omega
          rw [hkf] at hst
          have HRES := Lib.hid hst
          have hoke := HOK.out i (d + 1) p at_ nx
          have HCL := Lib.hid (HGG.out i (d + 1) p at_ nx wr.drew hpk hpl hi (by omega) (by omega) (HN.out.below hB.drew) (HT.out.below hB.drew) (HE.out.below hB.drew))
          have cA := HCA.out wr hB
          generalize entF l w t k i ⟨d + 1, p, at_, nx⟩ = er at *
          have hjl : ∀ j, er = some j → j ≤ t.length := fun j hj => by
            obtain ⟨_, _, _, _, _, _, _, h9, _⟩ := hoke j hpk hpl hj
            exact h9
          clear hst hno hc hoke hkf hbk hB hat2
          go_upto_region 6 with fail
          refine region_stepsT (S := fun W => W = wr.drew) (m := 16) (n := 16) (k := 1) rfl (by kernel_rfl) rfl ?_
          simp only [List.size_toArray, List.length_cons, List.length_nil, Nat.reduceAdd, Array.replicate_succ, Array.replicate_zero, List.push_toArray, List.nil_append, List.cons_append]
          refine AnyT.nextC (m := 16) (i := 0) (d := some 37) (v := .slice (some ⟨gl, ol, none⟩) l.length lc) [0] rfl rfl (by kernel_rfl) (by kernel_rfl) (by kernel_rfl) (by kernel_rfl) (StepsIf.yield (by kernel_rfl) (fun w' hS => by clear hS; go_simp)) ?_
          intro a' ha'
          simp only [Act.put, List.setIfInBounds_toArray, List.set_cons_zero, List.set_cons_succ] at ha'
          subst ha'
          refine AnyT.nextC (m := 16) (i := 1) (d := some 38) (v := .slice wa w.length wc) [1] rfl rfl (by kernel_rfl) (by kernel_rfl) (by kernel_rfl) (by kernel_rfl) (StepsIf.yield (by kernel_rfl) (fun w' hS => by clear hS; go_simp)) ?_
          intro a' ha'
          simp only [Act.put, List.setIfInBounds_toArray, List.set_cons_zero, List.set_cons_succ] at ha'
          subst ha'
          refine AnyT.nextC (m := 16) (i := 2) (d := some 39) (v := .slice (some ⟨g, off, none⟩) t.length tc) [2] rfl rfl (by kernel_rfl) (by kernel_rfl) (by kernel_rfl) (by kernel_rfl) (StepsIf.yield (by kernel_rfl) (fun w' hS => by clear hS; go_simp)) ?_
          intro a' ha'
          simp only [Act.put, List.setIfInBounds_toArray, List.set_cons_zero, List.set_cons_succ] at ha'
          subst ha'
          refine AnyT.nextC (m := 16) (i := 3) (d := some 40) (v := .int .i64 (i : Nat)) [3] rfl rfl (by kernel_rfl) (by kernel_rfl) (by kernel_rfl) (by kernel_rfl) (StepsIf.yield (by kernel_rfl) (fun w' hS => by clear hS; go_simp)) ?_
          intro a' ha'
          simp only [Act.put, List.setIfInBounds_toArray, List.set_cons_zero, List.set_cons_succ] at ha'
          subst ha'
          refine AnyT.nextC (m := 16) (i := 4) (d := some 41) (v := .pointer (some ⟨W.heap.size, 0, none⟩)) [15, 6, 5, 4] rfl rfl (by kernel_rfl) (by kernel_rfl) (by kernel_rfl) (by kernel_rfl) (StepsIf.yield (by kernel_rfl) (fun w' hS => by clear hS; go_simp)) ?_
          intro a' ha'
          simp only [Act.put, List.setIfInBounds_toArray, List.set_cons_zero, List.set_cons_succ] at ha'
          subst ha'
          refine AnyT.nextC (m := 16) (i := 5) (d := some 42) (v := .int .i64 d) [15, 6, 5] rfl rfl (by kernel_rfl) (by kernel_rfl) (by kernel_rfl) (by kernel_rfl) (StepsIf.yield (by kernel_rfl) (fun w' hS => by rw [hS]; clear hS; go_simp)) ?_
          intro a' ha'
          simp only [Act.put, List.setIfInBounds_toArray, List.set_cons_zero, List.set_cons_succ] at ha'
          subst ha'
          refine AnyT.nextC (m := 16) (i := 6) (d := some 43) (v := .int .i64 (d + 1)) [15, 6] rfl rfl (by kernel_rfl) (by kernel_rfl) (by kernel_rfl) (by kernel_rfl) (StepsIf.yield (by kernel_rfl) (fun w' hS => by clear hS; go_simp)) ?_
          intro a' ha'
          simp only [Act.put, List.setIfInBounds_toArray, List.set_cons_zero, List.set_cons_succ] at ha'
          subst ha'
          refine AnyT.nextC (m := 16) (i := 7) (d := some 44) (v := .slice (some ⟨gl, ol, none⟩) l.length lc) [15, 12, 11, 10, 7] rfl rfl (by kernel_rfl) (by kernel_rfl) (by kernel_rfl) (by kernel_rfl) (StepsIf.yield (by kernel_rfl) (fun w' hS => by clear hS; go_simp)) ?_
          intro a' ha'
          simp only [Act.put, List.setIfInBounds_toArray, List.set_cons_zero, List.set_cons_succ] at ha'
          subst ha'
          refine AnyT.nextC (m := 16) (i := 8) (d := some 45) (v := .pointer (some ⟨W.heap.size, 1, none⟩)) [15, 12, 11, 10, 9, 8] rfl rfl (by kernel_rfl) (by kernel_rfl) (by kernel_rfl) (by kernel_rfl) (StepsIf.yield (by kernel_rfl) (fun w' hS => by clear hS; go_simp)) ?_
          intro a' ha'
          simp only [Act.put, List.setIfInBounds_toArray, List.set_cons_zero, List.set_cons_succ] at ha'
          subst ha'
          refine AnyT.nextC (m := 16) (i := 9) (d := some 46) (v := .int .i64 (n : Nat)) [15, 12, 11, 10, 9] rfl rfl (by kernel_rfl) (by kernel_rfl) (by kernel_rfl) (by kernel_rfl) (StepsIf.yield (by kernel_rfl) (fun w' hS => by rw [hS]; clear hS; go_simp)) ?_
          intro a' ha'
          simp only [Act.put, List.setIfInBounds_toArray, List.set_cons_zero, List.set_cons_succ] at ha'
          subst ha'
          refine AnyT.nextC (m := 16) (i := 10) (d := some 47) (v := .pointer (some ⟨gl, ol + n * 8, none⟩)) [15, 12, 11, 10] rfl rfl (by kernel_rfl) (by kernel_rfl) (by kernel_rfl) (by kernel_rfl) (StepsIf.yield (by kernel_rfl) (fun w' hS => by clear hS; go_simp)) ?_
          intro a' ha'
          simp only [Act.put, List.setIfInBounds_toArray, List.set_cons_zero, List.set_cons_succ] at ha'
          subst ha'
          refine AnyT.nextC (m := 16) (i := 11) (d := some 48) (v := .pointer (some ⟨gl, ol + n * 8 + 1, none⟩)) [15, 12, 11] rfl rfl (by kernel_rfl) (by kernel_rfl) (by kernel_rfl) (by kernel_rfl) (StepsIf.yield (by kernel_rfl) (fun w' hS => by clear hS; go_simp)) ?_
          intro a' ha'
          simp only [Act.put, List.setIfInBounds_toArray, List.set_cons_zero, List.set_cons_succ] at ha'
          subst ha'
          refine AnyT.nextC (m := 16) (i := 12) (d := some 49) (v := .int .i64 (p : Nat)) [15, 12] rfl rfl (by kernel_rfl) (by kernel_rfl) (by kernel_rfl) (by kernel_rfl) (StepsIf.yield (by kernel_rfl) (fun w' hS => by rw [hS]; clear hS; go_simp)) ?_
          intro a' ha'
          simp only [Act.put, List.setIfInBounds_toArray, List.set_cons_zero, List.set_cons_succ] at ha'
          subst ha'
          refine AnyT.nextC (m := 16) (i := 13) (d := some 50) (v := .int .i64 (at_ : Nat)) [15, 13] rfl rfl (by kernel_rfl) (by kernel_rfl) (by kernel_rfl) (by kernel_rfl) (StepsIf.yield (by kernel_rfl) (fun w' hS => by clear hS; go_simp)) ?_
          intro a' ha'
          simp only [Act.put, List.setIfInBounds_toArray, List.set_cons_zero, List.set_cons_succ] at ha'
          subst ha'
          refine AnyT.nextC (m := 16) (i := 14) (d := some 51) (v := .int .i64 (nx : Nat)) [15, 14] rfl rfl (by kernel_rfl) (by kernel_rfl) (by kernel_rfl) (by kernel_rfl) (StepsIf.yield (by kernel_rfl) (fun w' hS => by clear hS; go_simp)) ?_
          intro a' ha'
          simp only [Act.put, List.setIfInBounds_toArray, List.set_cons_zero, List.set_cons_succ] at ha'
          subst ha'
          refine AnyT.nextC (m := 16) (i := 15) (d := some 52) (v := .agg (enI (d + 1) p at_ nx)) [15] rfl rfl (by kernel_rfl) (by kernel_rfl) (by kernel_rfl) (by kernel_rfl) (StepsIf.yield (by kernel_rfl) (fun w' hS => by clear hS; go_simp)) ?_
          intro a' ha'
          simp only [Act.put, List.setIfInBounds_toArray, List.set_cons_zero, List.set_cons_succ] at ha'
          subst ha'
          refine AnyT.endC (by kernel_rfl) (fun w' hS => ?_)
          subst hS
          refine wpAny_one (i := 16) (o := ⟨some 53, _, _, _, _, _⟩) (by kernel_rfl) rfl (by kernel_rfl) ?_
          refine wp_callK (o := ⟨some 53, _, _, _, _, _⟩) (R := fun v w' => v = .int .i64 (resO er) ∧ Below wr.drew.heap.size wr.drew w') (by go_simp) (HCL.out.mono (fun e w' h => ⟨_, h.1, rfl, h.2⟩)) ?_
          rintro v w2 ⟨rfl, hb2⟩
          have hbk2 := HBK.out.drew.below hb2 HBK.out.drew.lt
          have HBK2 := Lib.hid hbk2
          have HB2 := Lib.hid (HB.out.drew.trans (hb2.mono HB.out.size))
          clear r0 r1 r2 r3 cA d3 hb2 HCL
          have r0 := hbk2.cell 0; have r1 := hbk2.cell 1; have r2 := hbk2.cell 2; have r3 := hbk2.cell 3
          simp only [List.getElem?_toArray, List.getElem?_cons_zero, List.getElem?_cons_succ] at r0 r1 r2 r3
          clear hbk2
          refine wpAny_one (i := 17) (o := ⟨some 3, .assign (.tmp 53), _, _, _, _⟩) (by kernel_rfl) rfl (by kernel_rfl) ?_
          show wpAny Try.prog _ _ _ 0 _ (Act.put _ (some 3) (.int .i64 (resO er))) w2
          refine wpAny_none (P := Try.prog) (by kernel_rfl) ?_
          simp only [Act.put, List.setIfInBounds_toArray, List.set_cons_zero, List.set_cons_succ]
          cases er with
          | none =>
            have HRN := Lib.hid (show R = none from HRES.out)
            clear HRES hjl
            simp only [resO]
            go_wp2_with fail
            go_ret
            exact ⟨by rw [HRN.out] <;> rfl, HB2.out⟩
          | some j =>
            have hj := hjl j rfl
            have hres := HRES.out
            simp only [Option.bind_some] at hres
            clear hjl HRES
            simp only [resO]
            have q0 : decide ((j : Int) < 0) = false := by rw [decide_eq_false_iff_not]; omega
            by_cases hne : nx ≤ e
            · have q1 : decide ((e : Int) < (nx : Int)) = false := by rw [decide_eq_false_iff_not]; omega
              have q2 : decide (e < nx) = false := by rw [decide_eq_false_iff_not]; omega
              rw [if_pos (by omega)] at hres
              have HRES := Lib.hid hres.symm
              clear hres
              go_wp2_with fail
              go_roundw
              case rel => exact ⟨j, m2, nx, rfl, rfl, by omega, hne, by omega, HRES.out, HBK2.out, HB2.out⟩
              case measure => simp [intOf]; omega
            · have q1 : decide ((e : Int) < (nx : Int)) = true := by rw [decide_eq_true_iff]; omega
              have q2 : decide (e < nx) = true := by rw [decide_eq_true_iff]; omega
              rw [if_neg (by omega)] at hres
              have HRES := Lib.hid hres
              clear hres
              go_wp2_with fail
              go_ret
              exact ⟨by rw [HRES.out] <;> rfl, HB2.out⟩
        · have p5 : decide (xt ≤ (at_ : Int)) = true := by rw [decide_eq_true_iff]; omega
          have HRN := Lib.hid (hkf.symm.trans (hno (fun hh => hnx hh.2)))
          clear hno hst hkf hbk hB hc hat2
          go_wp2_with fail
          go_ret
          exact ⟨by rw [HRN.out] <;> rfl, HB.out⟩
      · have p3 : decide (t.length ≤ i) = true := by rw [decide_eq_true_iff]; omega
        have p4 : decide ((t.length : Int) ≤ (i : Int)) = true := by rw [decide_eq_true_iff]; omega
        have HRN := Lib.hid (hkf.symm.trans (HNO.out m i at_ (by omega) (by omega) (fun hh => hil hh.1)))
        clear hkf hbk hB
        go_wp2_with fail
        go_ret
        exact ⟨by rw [HRN.out] <;> rfl, HB.out⟩
    · have p1 : decide ((at_ : Int) < (e : Int)) = false := by rw [decide_eq_false_iff_not]; omega
      have p2 : decide (at_ < e) = false := decide_eq_false hlt
      have HRN := Lib.hid (hkf.symm.trans (HEN.out m i at_ (by omega)))
      clear hkf hbk hB
      go_wp2_with fail
      go_ret
      exact ⟨by rw [HRN.out] <;> rfl, HB.out⟩
end Go.Proofs.Ytooolhekihijlaa

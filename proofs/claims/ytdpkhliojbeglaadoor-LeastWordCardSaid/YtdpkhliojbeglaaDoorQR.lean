/- Texts put together: Trj Trk. -/
import Derived.Test.YtdpkhliojbeglaaDoorQO
import Derived.Test.YtdpkhliojbeglaaDoorQC
import Derived.BigQuiet
import Derived.Deep.QuietTactic
/- Is a list a parse tree: the document's kids. Stage 14. -/
namespace Go.Proofs.YtdpkhliojbeglaaDoor
open Go.RowKit BS

theorem wp_callK {P : Program} {o : Oper} {a : Act} {w : World} {f : FuncId} {args : Array Value} {R : Value → World → Prop} {K : Act → World → Prop} {Q : Exit → Act → World → Prop} (h : (execOp a.eval o).run P w = .ok (.enter f args) w)
    (hc : Calls P f args w fun e w' => ∃ v, e = .returned v ∧ R v w') (hK : ∀ v w', R v w' → K (a.put o.dst v) w') : o.wp P a w K Q := by
  unfold Oper.wp
  rw [h]
  refine Calls.mono hc fun e w' he => ?_
  obtain ⟨v, rfl, hR⟩ := he
  exact hK v w' hR
theorem kids_none {ent : Nat → EnN → Option Nat} {t : List EnN} {a d e : Int} {m i : Nat} {at_ : Int} (hm : e - at_ ≤ m) (hlt : at_ < e) (h : ¬ (i < t.length ∧ at_ < (atE t i).to)) : kidsF ent t a d e m i at_ = none := by
  obtain ⟨m, rfl⟩ : ∃ x, m = x + 1 := ⟨m - 1, by omega⟩
  unfold kidsF
  rw [if_pos hlt, if_neg h]
theorem kids_step {ent : Nat → EnN → Option Nat} {t : List EnN} {a d e : Int} {m i : Nat} {at_ : Int} (hm : e - at_ ≤ m) (hlt : at_ < e) (h : i < t.length ∧ at_ < (atE t i).to) : ∃ m', m = m' + 1 ∧ kidsF ent t a d e m i at_ = (ent i ⟨d, a, at_, (atE t i).to⟩).bind fun j => if (atE t i).to ≤ e then kidsF ent t a d e m' j (atE t i).to else none := by
  obtain ⟨m, rfl⟩ : ∃ x, m = x + 1 := ⟨m - 1, by omega⟩
  refine ⟨m, rfl, ?_⟩
  rw [kidsF, if_pos hlt, if_pos h]
theorem kids_end {ent : Nat → EnN → Option Nat} {t : List EnN} {a d e : Int} {m i : Nat} {at_ : Int} (h : ¬ at_ < e) : kidsF ent t a d e m i at_ = some i := by
  cases m <;> simp [kidsF, h]
set_option maxRecDepth 100000 in
set_option maxHeartbeats 32000000 in
theorem kids_calls (l : List NdN) (w : List Nat) (t : List EnN) (la wa ta : Option Addr) (lc wc tc k : Nat) (hP : PartsOk l) (_hl : l.length ≤ 1000) (_hw : w.length ≤ 1000) (ht : t.length ≤ 1000) (_hk : k ≤ 1000) (HG : EntG l w t la wa ta lc wc tc k)
    (i : Nat) (d : Int) (n f e p : Nat) (W : World) (hn : n < l.length) (hp : (ndE l n).kids = p) (hpk : p < k) (hpl : p < l.length) (hi : i ≤ 100000) (hd0 : 0 ≤ d) (hdk : d + (k + 1 : Nat) ≤ 100000) (_hfe : f ≤ e) (_hel : e ≤ w.length) (hN : NodesAt l la W) (hT : BtsAt w wa W) (hE : EntsAt t ta W) :
    Calls Tryd.prog 61 #[.slice la l.length lc, .slice wa w.length wc, .slice ta t.length tc, .int .i64 (i : Nat), .agg (enI d n f e)] W fun r W' => r = .returned (.int .i64 (resO (kidsF (entF l w t k) t p (d + 1) e (e - f) i f))) ∧ Below W.heap.size W W' := by
  have HGG := Lib.hid HG
  have HOK := Lib.hid (@ent_ok l w t hP k)
  obtain ⟨gl, ol, rfl, hgl, hcl⟩ := hN (by rintro rfl; simp at hn)
  have HCA := Lib.hid (show ∀ W', Below W.heap.size W W' → W'.cell? ⟨gl, ol + n * 8 + 1, none⟩ = some (.int .i64 (p : Nat)) from fun W' hW => by
    rw [hW.cell (p := ⟨gl, ol + n * 8 + 1, none⟩) hgl, hcl n hn 1 (by decide)]
    have : (ndE l n).kids = l[n].kids := by simp [ndE, hn]
    rw [this] at hp
    simp [ndA, hp])
  have HN := Lib.hid hN
  have HT := Lib.hid hT
  have HE := Lib.hid hE
  have hR := Blk.new W (enI d n f e) 83
  have hB0 := Lib.hid (show Below W.heap.size W (W.alloc (.cells (enI d n f e) 83)) from (Below.refl _ _).alloc (Nat.le_refl _) _)
  have r0 := hR.cell 0; have r1 := hR.cell 1; have r2 := hR.cell 2; have r3 := hR.cell 3
  simp only [List.getElem?_toArray, List.getElem?_cons_zero, List.getElem?_cons_succ] at r0 r1 r2 r3
  have HBK := Lib.hid hR
  have xd : IntKind.i64.wrap (d + 1) = d + 1 := IntWalk.i64_in _ (by omega)
  obtain ⟨KF, hKF⟩ : ∃ KF, KF = kidsF (entF l w t k) t p (d + 1) e := ⟨_, rfl⟩
  have HNO := Lib.hid (fun (m i : Nat) (at_ : Int) (h1 : (e : Int) - at_ ≤ m) (h2 : at_ < e) h3 => hKF ▸ @kids_none (entF l w t k) t p (d + 1) e m i at_ h1 h2 h3)
  have HST := Lib.hid (fun (m i : Nat) (at_ : Int) (h1 : (e : Int) - at_ ≤ m) (h2 : at_ < e) h3 => hKF ▸ @kids_step (entF l w t k) t p (d + 1) e m i at_ h1 h2 h3)
  have HEN := Lib.hid (fun (m i : Nat) (at_ : Int) (h : ¬ at_ < e) => hKF ▸ @kids_end (entF l w t k) t p (d + 1) e m i at_ h)
  rw [← hKF]
  obtain ⟨R, hRR⟩ : ∃ R, R = KF (e - f) i f := ⟨_, rfl⟩
  rw [← hRR]
  clear hN hT hE hcl hp HG hR hKF hP
  go_enter Tryd.func61, Tryd.ntmps61
  go_upto_region 1 with fail
  generalize W.alloc (.cells (enI d n f e) 83) = w1 at *
  go_wp2_with fail
  clear r0 r1 r2 r3
  go_loopw [3, 11] (fun vi va wr => ∃ i m at_ : Nat, vi = .int .i64 i ∧ va = .int .i64 at_ ∧ i ≤ 100000 ∧ at_ ≤ e ∧ e - at_ ≤ m ∧ KF m i at_ = R ∧ Blk wr W.heap.size (enI d n f e) 83 ∧ Below W.heap.size W wr) (fun _ va _ => e - (intOf va).toNat)
  case atStart => exact ⟨i, e - f, f, rfl, rfl, hi, by omega, Nat.le_refl _, hRR.symm, HBK.out, hB0.out⟩
  case round =>
    clear hB0 HBK hRR hi
    clear i
    obtain ⟨i, m, at_, rfl, rfl, hi, hat, hm, hkf, hbk, hB⟩ := hrel
    have HBK := Lib.hid hbk
    have HB := Lib.hid hB
    have r0 := hbk.cell 0; have r1 := hbk.cell 1; have r2 := hbk.cell 2; have r3 := hbk.cell 3
    simp only [List.getElem?_toArray, List.getElem?_cons_zero, List.getElem?_cons_succ] at r0 r1 r2 r3
    by_cases hlt : at_ < e
    · have p1 : decide ((at_ : Int) < (e : Int)) = true := by rw [decide_eq_true_iff]; omega
      have p2 : decide (at_ < e) = true := decide_eq_true hlt
      by_cases hil : i < t.length
      · have p3 : decide (t.length ≤ i) = false := by rw [decide_eq_false_iff_not]; omega
        have p4 : decide ((t.length : Int) ≤ (i : Int)) = false := by rw [decide_eq_false_iff_not]; omega
        have hii : (i : Int) < (t.length : Int) := by omega
        have hd2 : decide (i < t.length) = true := decide_eq_true hil
        obtain ⟨g, off, hta, hg, hc⟩ := (HE.out.below hB) (by rintro rfl; simp at hil)
        subst hta
        have d3 := hc i hil 3 (by decide)
        simp only [enA, List.getElem?_toArray, List.getElem?_cons_zero, List.getElem?_cons_succ] at d3
        have hat2 := atE_lt t i hil
        have hno := HNO.out m i at_ (by omega) (by omega)
        have hst := HST.out m i at_ (by omega) (by omega)
        rw [hat2] at hno hst
        generalize t[i].to = xt at *
        by_cases hnx : (at_ : Int) < xt
        · obtain ⟨m2, rfl, hst⟩ := hst ⟨hil, hnx⟩
          obtain ⟨nx, rfl⟩ : ∃ nx : Nat, xt = nx := ⟨xt.toNat, by omega⟩
          have p5 : decide ((nx : Int) ≤ (at_ : Int)) = false := by rw [decide_eq_false_iff_not]; omega
          have p6 : decide (nx ≤ at_) = false := by rw [decide_eq_false_iff_not]; omega
          rw [hkf] at hst
          have HRES := Lib.hid hst
          have hoke := HOK.out i (d + 1) p at_ nx
          have HCL := Lib.hid (HGG.out i (d + 1) p at_ nx wr.drew hpk hpl hi (by omega) (by omega) (HN.out.below hB.drew) (HT.out.below hB.drew) (HE.out.below hB.drew))
          have cA := HCA.out wr hB
          generalize entF l w t k i ⟨d + 1, p, at_, nx⟩ = er at *
          have hjl : ∀ j, er = some j → j ≤ t.length := fun j hj => by
            obtain ⟨_, _, _, _, _, _, _, h9, _⟩ := hoke j hpk hpl hj
            exact h9
          clear hst hno hc hoke hkf hbk hB hat2
          go_upto_region 6 with fail
          refine region_stepsT (S := fun W => W = wr.drew) (m := 16) (n := 16) (k := 1) rfl (by kernel_rfl) rfl ?_
          simp only [List.size_toArray, List.length_cons, List.length_nil, Nat.reduceAdd, Array.replicate_succ, Array.replicate_zero, List.push_toArray, List.nil_append, List.cons_append]
          refine AnyT.nextC (m := 16) (i := 0) (d := some 37) (v := .slice (some ⟨gl, ol, none⟩) l.length lc) [0] rfl rfl (by kernel_rfl) (by kernel_rfl) (by kernel_rfl) (by kernel_rfl) (StepsIf.yield (by kernel_rfl) (fun w' hS => by clear hS; go_simp)) ?_
          intro a' ha'
          simp only [Act.put, List.setIfInBounds_toArray, List.set_cons_zero, List.set_cons_succ] at ha'
          subst ha'
          refine AnyT.nextC (m := 16) (i := 1) (d := some 38) (v := .slice wa w.length wc) [1] rfl rfl (by kernel_rfl) (by kernel_rfl) (by kernel_rfl) (by kernel_rfl) (StepsIf.yield (by kernel_rfl) (fun w' hS => by clear hS; go_simp)) ?_
          intro a' ha'
          simp only [Act.put, List.setIfInBounds_toArray, List.set_cons_zero, List.set_cons_succ] at ha'
          subst ha'
          refine AnyT.nextC (m := 16) (i := 2) (d := some 39) (v := .slice (some ⟨g, off, none⟩) t.length tc) [2] rfl rfl (by kernel_rfl) (by kernel_rfl) (by kernel_rfl) (by kernel_rfl) (StepsIf.yield (by kernel_rfl) (fun w' hS => by clear hS; go_simp)) ?_
          intro a' ha'
          simp only [Act.put, List.setIfInBounds_toArray, List.set_cons_zero, List.set_cons_succ] at ha'
          subst ha'
          refine AnyT.nextC (m := 16) (i := 3) (d := some 40) (v := .int .i64 (i : Nat)) [3] rfl rfl (by kernel_rfl) (by kernel_rfl) (by kernel_rfl) (by kernel_rfl) (StepsIf.yield (by kernel_rfl) (fun w' hS => by clear hS; go_simp)) ?_
          intro a' ha'
          simp only [Act.put, List.setIfInBounds_toArray, List.set_cons_zero, List.set_cons_succ] at ha'
          subst ha'
          refine AnyT.nextC (m := 16) (i := 4) (d := some 41) (v := .pointer (some ⟨W.heap.size, 0, none⟩)) [15, 6, 5, 4] rfl rfl (by kernel_rfl) (by kernel_rfl) (by kernel_rfl) (by kernel_rfl) (StepsIf.yield (by kernel_rfl) (fun w' hS => by clear hS; go_simp)) ?_
          intro a' ha'
          simp only [Act.put, List.setIfInBounds_toArray, List.set_cons_zero, List.set_cons_succ] at ha'
          subst ha'
          refine AnyT.nextC (m := 16) (i := 5) (d := some 42) (v := .int .i64 d) [15, 6, 5] rfl rfl (by kernel_rfl) (by kernel_rfl) (by kernel_rfl) (by kernel_rfl) (StepsIf.yield (by kernel_rfl) (fun w' hS => by rw [hS]; clear hS; go_simp)) ?_
          intro a' ha'
          simp only [Act.put, List.setIfInBounds_toArray, List.set_cons_zero, List.set_cons_succ] at ha'
          subst ha'
          refine AnyT.nextC (m := 16) (i := 6) (d := some 43) (v := .int .i64 (d + 1)) [15, 6] rfl rfl (by kernel_rfl) (by kernel_rfl) (by kernel_rfl) (by kernel_rfl) (StepsIf.yield (by kernel_rfl) (fun w' hS => by clear hS; go_simp)) ?_
          intro a' ha'
          simp only [Act.put, List.setIfInBounds_toArray, List.set_cons_zero, List.set_cons_succ] at ha'
          subst ha'
          refine AnyT.nextC (m := 16) (i := 7) (d := some 44) (v := .slice (some ⟨gl, ol, none⟩) l.length lc) [15, 12, 11, 10, 7] rfl rfl (by kernel_rfl) (by kernel_rfl) (by kernel_rfl) (by kernel_rfl) (StepsIf.yield (by kernel_rfl) (fun w' hS => by clear hS; go_simp)) ?_
          intro a' ha'
          simp only [Act.put, List.setIfInBounds_toArray, List.set_cons_zero, List.set_cons_succ] at ha'
          subst ha'
          refine AnyT.nextC (m := 16) (i := 8) (d := some 45) (v := .pointer (some ⟨W.heap.size, 1, none⟩)) [15, 12, 11, 10, 9, 8] rfl rfl (by kernel_rfl) (by kernel_rfl) (by kernel_rfl) (by kernel_rfl) (StepsIf.yield (by kernel_rfl) (fun w' hS => by clear hS; go_simp)) ?_
          intro a' ha'
          simp only [Act.put, List.setIfInBounds_toArray, List.set_cons_zero, List.set_cons_succ] at ha'
          subst ha'
          refine AnyT.nextC (m := 16) (i := 9) (d := some 46) (v := .int .i64 (n : Nat)) [15, 12, 11, 10, 9] rfl rfl (by kernel_rfl) (by kernel_rfl) (by kernel_rfl) (by kernel_rfl) (StepsIf.yield (by kernel_rfl) (fun w' hS => by rw [hS]; clear hS; go_simp)) ?_
          intro a' ha'
          simp only [Act.put, List.setIfInBounds_toArray, List.set_cons_zero, List.set_cons_succ] at ha'
          subst ha'
          refine AnyT.nextC (m := 16) (i := 10) (d := some 47) (v := .pointer (some ⟨gl, ol + n * 8, none⟩)) [15, 12, 11, 10] rfl rfl (by kernel_rfl) (by kernel_rfl) (by kernel_rfl) (by kernel_rfl) (StepsIf.yield (by kernel_rfl) (fun w' hS => by clear hS; go_simp)) ?_
          intro a' ha'
          simp only [Act.put, List.setIfInBounds_toArray, List.set_cons_zero, List.set_cons_succ] at ha'
          subst ha'
          refine AnyT.nextC (m := 16) (i := 11) (d := some 48) (v := .pointer (some ⟨gl, ol + n * 8 + 1, none⟩)) [15, 12, 11] rfl rfl (by kernel_rfl) (by kernel_rfl) (by kernel_rfl) (by kernel_rfl) (StepsIf.yield (by kernel_rfl) (fun w' hS => by clear hS; go_simp)) ?_
          intro a' ha'
          simp only [Act.put, List.setIfInBounds_toArray, List.set_cons_zero, List.set_cons_succ] at ha'
          subst ha'
          refine AnyT.nextC (m := 16) (i := 12) (d := some 49) (v := .int .i64 (p : Nat)) [15, 12] rfl rfl (by kernel_rfl) (by kernel_rfl) (by kernel_rfl) (by kernel_rfl) (StepsIf.yield (by kernel_rfl) (fun w' hS => by rw [hS]; clear hS; go_simp)) ?_
          intro a' ha'
          simp only [Act.put, List.setIfInBounds_toArray, List.set_cons_zero, List.set_cons_succ] at ha'
          subst ha'
          refine AnyT.nextC (m := 16) (i := 13) (d := some 50) (v := .int .i64 (at_ : Nat)) [15, 13] rfl rfl (by kernel_rfl) (by kernel_rfl) (by kernel_rfl) (by kernel_rfl) (StepsIf.yield (by kernel_rfl) (fun w' hS => by clear hS; go_simp)) ?_
          intro a' ha'
          simp only [Act.put, List.setIfInBounds_toArray, List.set_cons_zero, List.set_cons_succ] at ha'
          subst ha'
          refine AnyT.nextC (m := 16) (i := 14) (d := some 51) (v := .int .i64 (nx : Nat)) [15, 14] rfl rfl (by kernel_rfl) (by kernel_rfl) (by kernel_rfl) (by kernel_rfl) (StepsIf.yield (by kernel_rfl) (fun w' hS => by clear hS; go_simp)) ?_
          intro a' ha'
          simp only [Act.put, List.setIfInBounds_toArray, List.set_cons_zero, List.set_cons_succ] at ha'
          subst ha'
          refine AnyT.nextC (m := 16) (i := 15) (d := some 52) (v := .agg (enI (d + 1) p at_ nx)) [15] rfl rfl (by kernel_rfl) (by kernel_rfl) (by kernel_rfl) (by kernel_rfl) (StepsIf.yield (by kernel_rfl) (fun w' hS => by clear hS; go_simp)) ?_
          intro a' ha'
          simp only [Act.put, List.setIfInBounds_toArray, List.set_cons_zero, List.set_cons_succ] at ha'
          subst ha'
          refine AnyT.endC (by kernel_rfl) (fun w' hS => ?_)
          subst hS
          refine wpAny_one (i := 16) (o := ⟨some 53, _, _, _, _, _⟩) (by kernel_rfl) rfl (by kernel_rfl) ?_
          refine wp_callK (o := ⟨some 53, _, _, _, _, _⟩) (R := fun v w' => v = .int .i64 (resO er) ∧ Below wr.drew.heap.size wr.drew w') (by go_simp) (HCL.out.mono (fun e w' h => ⟨_, h.1, rfl, h.2⟩)) ?_
          rintro v w2 ⟨rfl, hb2⟩
          have hbk2 := HBK.out.drew.below hb2 HBK.out.drew.lt
          have HBK2 := Lib.hid hbk2
          have HB2 := Lib.hid (HB.out.drew.trans (hb2.mono HB.out.size))
          clear r0 r1 r2 r3 cA d3 hb2 HCL
          have r0 := hbk2.cell 0; have r1 := hbk2.cell 1; have r2 := hbk2.cell 2; have r3 := hbk2.cell 3
          simp only [List.getElem?_toArray, List.getElem?_cons_zero, List.getElem?_cons_succ] at r0 r1 r2 r3
          clear hbk2
          refine wpAny_one (i := 17) (o := ⟨some 3, .assign (.tmp 53), _, _, _, _⟩) (by kernel_rfl) rfl (by kernel_rfl) ?_
          show wpAny Tryd.prog _ _ _ 0 _ (Act.put _ (some 3) (.int .i64 (resO er))) w2
          refine wpAny_none (P := Tryd.prog) (by kernel_rfl) ?_
          simp only [Act.put, List.setIfInBounds_toArray, List.set_cons_zero, List.set_cons_succ]
          cases er with
          | none =>
            have HRN := Lib.hid (show R = none from HRES.out)
            clear HRES hjl
            simp only [resO]
            go_wp2_with fail
            go_ret
            exact ⟨by rw [HRN.out] <;> rfl, HB2.out⟩
          | some j =>
            have hj := hjl j rfl
            have hres := HRES.out
            simp only [Option.bind_some] at hres
            clear hjl HRES
            simp only [resO]
            have q0 : decide ((j : Int) < 0) = false := by rw [decide_eq_false_iff_not]; omega
            by_cases hne : nx ≤ e
            · have q1 : decide ((e : Int) < (nx : Int)) = false := by rw [decide_eq_false_iff_not]; omega
              have q2 : decide (e < nx) = false := by rw [decide_eq_false_iff_not]; omega
              rw [if_pos (by omega)] at hres
              have HRES := Lib.hid hres.symm
              clear hres
              go_wp2_with fail
              go_roundw
              case rel => exact ⟨j, m2, nx, rfl, rfl, by omega, hne, by omega, HRES.out, HBK2.out, HB2.out⟩
              case measure => simp [intOf]; omega
            · have q1 : decide ((e : Int) < (nx : Int)) = true := by rw [decide_eq_true_iff]; omega
              have q2 : decide (e < nx) = true := by rw [decide_eq_true_iff]; omega
              rw [if_neg (by omega)] at hres
              have HRES := Lib.hid hres
              clear hres
              go_wp2_with fail
              go_ret
              exact ⟨by rw [HRES.out] <;> rfl, HB2.out⟩
        · have p5 : decide (xt ≤ (at_ : Int)) = true := by rw [decide_eq_true_iff]; omega
          have HRN := Lib.hid (hkf.symm.trans (hno (fun hh => hnx hh.2)))
          clear hno hst hkf hbk hB hc hat2
          go_wp2_with fail
          go_ret
          exact ⟨by rw [HRN.out] <;> rfl, HB.out⟩
      · have p3 : decide (t.length ≤ i) = true := by rw [decide_eq_true_iff]; omega
        have p4 : decide ((t.length : Int) ≤ (i : Int)) = true := by rw [decide_eq_true_iff]; omega
        have HRN := Lib.hid (hkf.symm.trans (HNO.out m i at_ (by omega) (by omega) (fun hh => hil hh.1)))
        clear hkf hbk hB
        go_wp2_with fail
        go_ret
        exact ⟨by rw [HRN.out] <;> rfl, HB.out⟩
    · have p1 : decide ((at_ : Int) < (e : Int)) = false := by rw [decide_eq_false_iff_not]; omega
      have p2 : decide (at_ < e) = false := decide_eq_false hlt
      have HRN := Lib.hid (hkf.symm.trans (HEN.out m i at_ (by omega)))
      clear hkf hbk hB
      go_wp2_with fail
      go_ret
      exact ⟨by rw [HRN.out] <;> rfl, HB.out⟩
end Go.Proofs.YtdpkhliojbeglaaDoor

/- Is a list a parse tree: the document's entry. Stage 14. -/
namespace Go.Proofs.YtdpkhliojbeglaaDoor
open Go.RowKit BS

set_option maxRecDepth 100000 in
set_option maxHeartbeats 64000000 in
theorem ent_step (l : List NdN) (w : List Nat) (t : List EnN) (la wa ta : Option Addr) (lc wc tc k : Nat) (hP : PartsOk l) (hl : l.length ≤ 1000) (hw : w.length ≤ 1000) (hw8 : ∀ x ∈ w, x < 256) (ht : t.length ≤ 1000) (hk : k ≤ 1000) (HG : EntG l w t la wa ta lc wc tc k) :
    EntG l w t la wa ta lc wc tc (k + 1) := by
  intro i d n f e W hn hnl hi hd0 hdk hN hT hE
  by_cases hcond : i < t.length ∧ atE t i = ⟨d, n, f, e⟩ ∧ 0 ≤ f ∧ f ≤ e ∧ e ≤ (w.length : Int)
  case neg =>
    have hr : resO (entF l w t (k + 1) i ⟨d, n, f, e⟩) = -1 := by
      unfold entF
      rw [if_neg hcond]; rfl
    rw [hr]
    exact ent_no l w t la wa ta lc wc tc hl hw ht i d n f e W hi hE hcond
  case pos =>
  obtain ⟨F, hF⟩ : ∃ F, entF l w t (k + 1) i ⟨d, n, f, e⟩ = F := ⟨_, rfl⟩
  rw [hF]
  unfold entF at hF
  rw [if_pos hcond] at hF
  obtain ⟨hlt, hat, hf0, hfe, hel⟩ := hcond
  obtain ⟨f, rfl⟩ : ∃ f' : Nat, f = f' := ⟨f.toNat, by omega⟩
  obtain ⟨e, rfl⟩ : ∃ e' : Nat, e = e' := ⟨e.toNat, by omega⟩
  have hk18 := hP.kind n hnl
  have hpa := hP.a n hnl
  have hpb := hP.b n hnl
  have hnd : ndE l n = l[n] := by simp [ndE, hnl]
  simp only [Int.toNat_natCast, hnd] at hF
  rw [hnd] at hk18 hpa hpb
  have HKC := Lib.hid (fun i d p W h1 h2 h3 h4 h5 h6 h7 h8 h9 => kids_calls l w t la wa ta lc wc tc k hP hl hw ht hk HG i d n f e p W hnl (by rw [hnd]; exact h1) h2 h3 h4 h5 h6 (by omega) (by omega) h7 h8 h9)
  have HGG := Lib.hid HG
  have HOK := Lib.hid (@ent_ok l w t hP k)
  have HN := Lib.hid hN
  have HT := Lib.hid hT
  have HE := Lib.hid hE
  obtain ⟨gl, ol, rfl, hgl, hcl⟩ := hN (by rintro rfl; simp at hnl)
  obtain ⟨g, off, rfl, hg, hc⟩ := hE (by rintro rfl; simp at hlt)
  have hR := Blk.new W (enI d n f e) 83
  have hB0 := Lib.hid (show Below W.heap.size W (W.alloc (.cells (enI d n f e) 83)) from (Below.refl _ _).alloc (Nat.le_refl _) _)
  have HBK := Lib.hid hR
  have r0 := hR.cell 0; have r1 := hR.cell 1; have r2 := hR.cell 2; have r3 := hR.cell 3
  simp only [List.getElem?_toArray, List.getElem?_cons_zero, List.getElem?_cons_succ] at r0 r1 r2 r3
  have n0 : decide ((i : Int) < 0) = false := by rw [decide_eq_false_iff_not]; omega
  have hd : decide ((i : Int) < (t.length : Int)) = true := by rw [decide_eq_true_iff]; omega
  have hd2 : decide (i < t.length) = true := by rw [decide_eq_true_iff]; omega
  have hd3 : decide (t.length ≤ i) = false := by rw [decide_eq_false_iff_not]; omega
  have hii : (i : Int) < (t.length : Int) := by omega
  have he := eqEn d n f e d n f e
  rw [decide_eq_true ⟨rfl, rfl, rfl, rfl⟩] at he
  rw [atE_lt t i hlt] at hat
  have dd := fun (j : Nat) (hj : j < 4) => (hB0.out.cell (p := ⟨g, off + i * 4 + j, none⟩) hg).trans (hc i hlt j hj)
  have d0 := dd 0 (by decide); have d1 := dd 1 (by decide); have d2 := dd 2 (by decide); have d3 := dd 3 (by decide)
  rw [hat] at d0 d1 d2 d3
  simp only [enA, List.getElem?_toArray, List.getElem?_cons_zero, List.getElem?_cons_succ, Nat.add_zero] at d0 d1 d2 d3
  have q0 : decide ((f : Int) < 0) = false := by rw [decide_eq_false_iff_not]; omega
  have q1 : decide ((e : Int) < (f : Int)) = false := by rw [decide_eq_false_iff_not]; omega
  have q2 : decide (e < f) = false := by rw [decide_eq_false_iff_not]; omega
  have q3 : decide ((w.length : Int) < (e : Int)) = false := by rw [decide_eq_false_iff_not]; omega
  have q4 : decide (w.length < e) = false := by rw [decide_eq_false_iff_not]; omega
  have xd : IntKind.i64.wrap (d + 1) = d + 1 := IntWalk.i64_in _ (by omega)
  have xi : IntKind.i64.wrap ((i : Int) + 1) = (i : Int) + 1 := IntWalk.i64_in _ (by omega)
  have hnI : (n : Int) < (l.length : Int) := by omega
  have hnd2 : decide (n < l.length) = true := decide_eq_true hnl
  have HCN := Lib.hid (fun W' (hW : Below W.heap.size W W') (j : Nat) (hj : j < 8) => (hW.cell (p := ⟨gl, ol + n * 8 + j, none⟩) hgl).trans (hcl n hnl j hj))
  clear dd hc hcl hR hnd HG hP hN hT hE
  obtain ⟨k0, a, b, m, s, hx⟩ : ∃ k0 a b m s, l[n] = (⟨k0, a, b, m, s⟩ : NdN) := ⟨_, _, _, _, _, rfl⟩
  simp only [hx] at hF
  rw [hx] at hk18 hpa hpb HCN
  simp only [hx] at HKC
  clear hx
  simp only at hk18 hpa hpb
  have HRF := Lib.hid hF
  clear hF
  go_enter Tryd.func40, Tryd.ntmps40
  go_upto_region 1 with fail
  generalize W.alloc (.cells (enI d n f e) 83) = w1 at *
  go_quiet (fail)
  clear r0 r1 r2 r3 d0 d1 d2 d3 he n0 q0 q1 q2 q3 q4
  have HB := Lib.hid (below_drN hB0.out nq)
  have hbk : Blk (w1.drewN nq) W.heap.size (enI d n f e) 83 := HBK.out
  generalize w1.drewN nq = w2 at *
  clear HBK hB0
  have r0 := hbk.cell 0; have r1 := hbk.cell 1; have r2 := hbk.cell 2; have r3 := hbk.cell 3
  simp only [List.getElem?_toArray, List.getElem?_cons_zero, List.getElem?_cons_succ] at r0 r1 r2 r3
  have cc := HCN.out w2 HB.out
  have c0 := cc 0 (by decide); have c1 := cc 1 (by decide); have c2 := cc 2 (by decide); have c3 := cc 3 (by decide); have c4 := cc 4 (by decide); have c5 := cc 5 (by decide); have c6 := cc 6 (by decide); have c7 := cc 7 (by decide)
  simp only [ndA, List.getElem?_toArray, List.getElem?_cons_zero, List.getElem?_cons_succ, Nat.add_zero] at c0 c1 c2 c3 c4 c5 c6 c7
  have HBK := Lib.hid hbk
  clear cc HCN hbk
  have hbx : Blk (w2.alloc (.cells (ndI k0 a b m s) 60)) w2.heap.size (ndI k0 a b m s) 60 := Blk.new _ _ _
  have hb2 := HBK.out.alloc (.cells (ndI k0 a b m s) 60)
  have HB2 := Lib.hid (HB.out.alloc HB.out.size (.cells (ndI k0 a b m s) 60))
  have hsz : W.heap.size < w2.heap.size := HBK.out.lt
  have hsz3 : (w2.alloc (.cells (ndI k0 a b m s) 60)).heap.size = w2.heap.size + 1 := World.size_alloc _ _
  clear HB HBK
  go_upto_region 4 with fail
  clear c0 c1 c2 c3 c4 c5 c6 c7 r0 r1 r2 r3
  generalize w2.alloc (.cells (ndI k0 a b m s) 60) = w3 at *
  generalize w2.heap.size = X at *
  clear w2
  have r0 := hb2.cell 0; have r1 := hb2.cell 1; have r2 := hb2.cell 2; have r3 := hb2.cell 3
  simp only [List.getElem?_toArray, List.getElem?_cons_zero, List.getElem?_cons_succ] at r0 r1 r2 r3
  have x0 := hbx.cell 0; have x1 := hbx.cell 1; have x2 := hbx.cell 2; have x3 := hbx.cell 3; have x4 := hbx.cell 4; have x5 := hbx.cell 5; have x6 := hbx.cell 6; have x7 := hbx.cell 7
  simp only [List.getElem?_toArray, List.getElem?_cons_zero, List.getElem?_cons_succ] at x0 x1 x2 x3 x4 x5 x6 x7
  have HB3 := Lib.hid (HB2.out.alloc HB2.out.size (.cells (enI (d + 1) a f e) 83))
  have HBW := Lib.hid (hb2.alloc (.cells (enI (d + 1) a f e) 83))
  have HBX := Lib.hid (hbx.alloc (.cells (enI (d + 1) a f e) 83))
  have HBY := Lib.hid (show Blk (w3.alloc (.cells (enI (d + 1) a f e) 83)) w3.heap.size (enI (d + 1) a f e) 83 from Blk.new _ _ _)
  clear hb2 hbx HB2
  go_upto_region 5 with fail
  clear r0 r1 r2 r3 x0 x1 x2 x3 x4 x5 x6 x7
  generalize w3.alloc (.cells (enI (d + 1) a f e) 83) = w4 at *
  generalize w3.heap.size = Y at *
  clear w3
  subst hsz3
  have r0 := HBW.out.cell 0; have r1 := HBW.out.cell 1; have r2 := HBW.out.cell 2; have r3 := HBW.out.cell 3
  simp only [List.getElem?_toArray, List.getElem?_cons_zero, List.getElem?_cons_succ] at r0 r1 r2 r3
  have x0 := HBX.out.cell 0; have x1 := HBX.out.cell 1; have x2 := HBX.out.cell 2; have x3 := HBX.out.cell 3; have x4 := HBX.out.cell 4; have x5 := HBX.out.cell 5; have x6 := HBX.out.cell 6; have x7 := HBX.out.cell 7
  simp only [List.getElem?_toArray, List.getElem?_cons_zero, List.getElem?_cons_succ] at x0 x1 x2 x3 x4 x5 x6 x7
  have y0 := HBY.out.cell 0; have y1 := HBY.out.cell 1; have y2 := HBY.out.cell 2; have y3 := HBY.out.cell 3
  simp only [List.getElem?_toArray, List.getElem?_cons_zero, List.getElem?_cons_succ] at y0 y1 y2 y3
  have z0 := HBY.out.frozen 0; have z1 := HBY.out.frozen 1; have z2 := HBY.out.frozen 2; have z3 := HBY.out.frozen 3
  obtain rfl | rfl | rfl | rfl | rfl | rfl | hk78 : k0 = 1 ∨ k0 = 2 ∨ k0 = 3 ∨ k0 = 4 ∨ k0 = 5 ∨ k0 = 6 ∨ (k0 = 7 ∨ k0 = 8) := by omega
  · by_cases hfe' : f = e
    · subst hfe'
      have HRR := Lib.hid (show F = some (i + 1) from by have h9 := HRF.out; simpa using h9.symm)
      clear HRF HKC HGG HOK hpa hpb
      go_wp2_with fail
      go_ret
      exact ⟨by rw [HRR.out] <;> simp [resO], HB3.out⟩
    · have HRR := Lib.hid (show F = none from by have h9 := HRF.out; rw [if_pos rfl, if_neg (by omega)] at h9; exact h9.symm)
      have t1 : ((f : Int) == (e : Int)) = false := beq_eq_false_iff_ne.2 (by omega)
      have t2 : (f == e) = false := beq_eq_false_iff_ne.2 hfe'
      have t3 : decide (f = e) = false := decide_eq_false hfe'
      clear HRF HKC HGG HOK hpa hpb
      go_wp2_with fail
      go_ret
      exact ⟨by rw [HRR.out] <;> rfl, HB3.out⟩
  · have xf : IntKind.i64.wrap ((f : Int) + 1) = (f : Int) + 1 := IntWalk.i64_in _ (by omega)
    by_cases h2 : e = f + 1
    · have t1 : ((e : Int) == (f : Int) + 1) = true := beq_iff_eq.2 (by omega)
      have hfw : f < w.length := by omega
      have hfI : (f : Int) < (w.length : Int) := by omega
      have hfd : decide (f < w.length) = true := decide_eq_true hfw
      have hb8 := hw8 w[f] (List.getElem_mem hfw)
      have hgd : w.getD f 0 = w[f] := by simp [hfw]
      have HRR := Lib.hid (show F = if s.getLsbD w[f] = true then some (i + 1) else none from by
        have h9 := HRF.out
        rw [if_neg (by decide), if_pos rfl, hgd] at h9
        rw [← h9]
        by_cases hbit : s.getLsbD w[f] = true
        · rw [if_pos ⟨by omega, hbit⟩, if_pos hbit]
        · rw [if_neg (fun hh => hbit hh.2), if_neg hbit])
      obtain ⟨gw, ow, rfl, hgw, hcw⟩ := HT.out (by rintro rfl; simp at hfw)
      have cw := (HB3.out.cell (p := ⟨gw, ow + f, none⟩) hgw).trans (hcw f hfw)
      generalize w[f] = bb at *
      have xb : IntKind.i64.wrap (bb : Int) = (bb : Int) := IntWalk.i64_in _ (by omega)
      have hcl := rhas_calls s (bb : Int) w4.drew (by omega) (by omega)
      rw [Int.toNat_natCast] at hcl
      generalize s.getLsbD bb = bit at *
      have HCL := Lib.hid (show Calls Tryd.prog 60 #[.agg #[.int .u64 (wd s 0), .int .u64 (wd s 1), .int .u64 (wd s 2), .int .u64 (wd s 3)], .int .i64 (bb : Int)] w4.drew fun e w' => ∃ v, e = .returned v ∧ (v = .bool bit ∧ Below w4.drew.heap.size w4.drew w') from hcl.mono (fun e w' h => ⟨_, h.1, rfl, h.2⟩))
      clear hcl HRF HKC HGG HOK hpa hpb hcw hgw hgd hfI h2
      go_upto_region 11 with fail
      refine region_stepsT (S := fun W => W = w4.drew) (m := 15) (n := 15) (k := 1) rfl (by kernel_rfl) rfl ?_
      simp only [List.size_toArray, List.length_cons, List.length_nil, Nat.reduceAdd, Array.replicate_succ, Array.replicate_zero, List.push_toArray, List.nil_append, List.cons_append]
      refine AnyT.nextC (m := 15) (i := 0) (d := some 78) (v := .pointer (some ⟨W.heap.size, 3, none⟩)) [6, 5, 1, 0] rfl rfl (by kernel_rfl) (by kernel_rfl) (by kernel_rfl) (by kernel_rfl) (StepsIf.yield (by kernel_rfl) (fun w' hS => by clear hS; go_simp)) ?_
      intro a' ha'
      simp only [Act.put, List.setIfInBounds_toArray, List.set_cons_zero, List.set_cons_succ] at ha'
      subst ha'
      refine AnyT.nextC (m := 15) (i := 1) (d := some 79) (v := .int .i64 (e : Nat)) [6, 5, 1] rfl rfl (by kernel_rfl) (by kernel_rfl) (by kernel_rfl) (by kernel_rfl) (StepsIf.yield (by kernel_rfl) (fun w' hS => by rw [hS]; clear hS; go_simp)) ?_
      intro a' ha'
      simp only [Act.put, List.setIfInBounds_toArray, List.set_cons_zero, List.set_cons_succ] at ha'
      subst ha'
      refine AnyT.nextC (m := 15) (i := 2) (d := some 80) (v := .pointer (some ⟨W.heap.size, 2, none⟩)) [6, 5, 4, 3, 2] rfl rfl (by kernel_rfl) (by kernel_rfl) (by kernel_rfl) (by kernel_rfl) (StepsIf.yield (by kernel_rfl) (fun w' hS => by clear hS; go_simp)) ?_
      intro a' ha'
      simp only [Act.put, List.setIfInBounds_toArray, List.set_cons_zero, List.set_cons_succ] at ha'
      subst ha'
      refine AnyT.nextC (m := 15) (i := 3) (d := some 81) (v := .int .i64 (f : Nat)) [6, 5, 4, 3] rfl rfl (by kernel_rfl) (by kernel_rfl) (by kernel_rfl) (by kernel_rfl) (StepsIf.yield (by kernel_rfl) (fun w' hS => by rw [hS]; clear hS; go_simp)) ?_
      intro a' ha'
      simp only [Act.put, List.setIfInBounds_toArray, List.set_cons_zero, List.set_cons_succ] at ha'
      subst ha'
      refine AnyT.nextC (m := 15) (i := 4) (d := some 82) (v := .int .i64 ((f : Int) + 1)) [6, 5, 4] rfl rfl (by kernel_rfl) (by kernel_rfl) (by kernel_rfl) (by kernel_rfl) (StepsIf.yield (by kernel_rfl) (fun w' hS => by clear hS; go_simp)) ?_
      intro a' ha'
      simp only [Act.put, List.setIfInBounds_toArray, List.set_cons_zero, List.set_cons_succ] at ha'
      subst ha'
      refine AnyT.nextC (m := 15) (i := 5) (d := some 83) (v := .bool true) [6, 5] rfl rfl (by kernel_rfl) (by kernel_rfl) (by kernel_rfl) (by kernel_rfl) (StepsIf.yield (by kernel_rfl) (fun w' hS => by clear hS; go_simp)) ?_
      intro a' ha'
      simp only [Act.put, List.setIfInBounds_toArray, List.set_cons_zero, List.set_cons_succ] at ha'
      subst ha'
      refine AnyT.nextC (m := 15) (i := 6) (d := some 84) (v := .bool true) [6] rfl rfl (by kernel_rfl) (by kernel_rfl) (by kernel_rfl) (by kernel_rfl) (StepsIf.yield (by kernel_rfl) (fun w' hS => by clear hS; go_simp)) ?_
      intro a' ha'
      simp only [Act.put, List.setIfInBounds_toArray, List.set_cons_zero, List.set_cons_succ] at ha'
      subst ha'
      refine AnyT.nextC (m := 15) (i := 7) (d := some 85) (v := .pointer (some ⟨X, 4, none⟩)) [8, 7] rfl rfl (by kernel_rfl) (by kernel_rfl) (by kernel_rfl) (by kernel_rfl) (StepsIf.yield (by kernel_rfl) (fun w' hS => by clear hS; go_simp)) ?_
      intro a' ha'
      simp only [Act.put, List.setIfInBounds_toArray, List.set_cons_zero, List.set_cons_succ] at ha'
      subst ha'
      refine AnyT.nextC (m := 15) (i := 8) (d := some 86) (v := .agg #[.int .u64 (wd s 0), .int .u64 (wd s 1), .int .u64 (wd s 2), .int .u64 (wd s 3)]) [8] rfl rfl (by kernel_rfl) (by kernel_rfl) (by kernel_rfl) (by kernel_rfl) (StepsIf.yield (by kernel_rfl) (fun w' hS => by rw [hS]; clear hS; go_simp)) ?_
      intro a' ha'
      simp only [Act.put, List.setIfInBounds_toArray, List.set_cons_zero, List.set_cons_succ] at ha'
      subst ha'
      refine AnyT.nextC (m := 15) (i := 9) (d := some 87) (v := .slice (some ⟨gw, ow, none⟩) w.length wc) [14, 13, 12, 9] rfl rfl (by kernel_rfl) (by kernel_rfl) (by kernel_rfl) (by kernel_rfl) (StepsIf.yield (by kernel_rfl) (fun w' hS => by clear hS; go_simp)) ?_
      intro a' ha'
      simp only [Act.put, List.setIfInBounds_toArray, List.set_cons_zero, List.set_cons_succ] at ha'
      subst ha'
      refine AnyT.nextC (m := 15) (i := 10) (d := some 88) (v := .pointer (some ⟨W.heap.size, 2, none⟩)) [14, 13, 12, 11, 10] rfl rfl (by kernel_rfl) (by kernel_rfl) (by kernel_rfl) (by kernel_rfl) (StepsIf.yield (by kernel_rfl) (fun w' hS => by clear hS; go_simp)) ?_
      intro a' ha'
      simp only [Act.put, List.setIfInBounds_toArray, List.set_cons_zero, List.set_cons_succ] at ha'
      subst ha'
      refine AnyT.nextC (m := 15) (i := 11) (d := some 89) (v := .int .i64 (f : Nat)) [14, 13, 12, 11] rfl rfl (by kernel_rfl) (by kernel_rfl) (by kernel_rfl) (by kernel_rfl) (StepsIf.yield (by kernel_rfl) (fun w' hS => by rw [hS]; clear hS; go_simp)) ?_
      intro a' ha'
      simp only [Act.put, List.setIfInBounds_toArray, List.set_cons_zero, List.set_cons_succ] at ha'
      subst ha'
      refine AnyT.nextC (m := 15) (i := 12) (d := some 90) (v := .pointer (some ⟨gw, ow + f, none⟩)) [14, 13, 12] rfl rfl (by kernel_rfl) (by kernel_rfl) (by kernel_rfl) (by kernel_rfl) (StepsIf.yield (by kernel_rfl) (fun w' hS => by clear hS; go_simp)) ?_
      intro a' ha'
      simp only [Act.put, List.setIfInBounds_toArray, List.set_cons_zero, List.set_cons_succ] at ha'
      subst ha'
      refine AnyT.nextC (m := 15) (i := 13) (d := some 91) (v := .int .u8 (bb : Nat)) [14, 13] rfl rfl (by kernel_rfl) (by kernel_rfl) (by kernel_rfl) (by kernel_rfl) (StepsIf.yield (by kernel_rfl) (fun w' hS => by rw [hS]; clear hS; go_simp)) ?_
      intro a' ha'
      simp only [Act.put, List.setIfInBounds_toArray, List.set_cons_zero, List.set_cons_succ] at ha'
      subst ha'
      refine AnyT.nextC (m := 15) (i := 14) (d := some 92) (v := .int .i64 (bb : Nat)) [14] rfl rfl (by kernel_rfl) (by kernel_rfl) (by kernel_rfl) (by kernel_rfl) (StepsIf.yield (by kernel_rfl) (fun w' hS => by clear hS; go_simp)) ?_
      intro a' ha'
      simp only [Act.put, List.setIfInBounds_toArray, List.set_cons_zero, List.set_cons_succ] at ha'
      subst ha'
      refine AnyT.endC (by kernel_rfl) (fun w' hS => ?_)
      subst hS
      clear t1 cw xb xf
      refine wpAny_one (i := 15) (o := ⟨some 93, _, _, _, _, _⟩) (by kernel_rfl) rfl (by kernel_rfl) ?_
      refine wp_callK (o := ⟨some 93, _, _, _, _, _⟩) (by go_simp) HCL.out ?_
      rintro v w5 ⟨rfl, hb5⟩
      have HB5 := Lib.hid (HB3.out.drew.trans (hb5.mono HB3.out.size))
      clear hb5 HCL
      refine wpAny_one (i := 16) (o := ⟨some 94, .pick (.tmp 84) (.tmp 93) (.const (.bool false)), _, _, _, _⟩) (by kernel_rfl) rfl (by kernel_rfl) ?_
      show wpAny Tryd.prog _ _ _ 0 _ (Act.put _ (some 94) (.bool bit)) w5
      refine wpAny_none (P := Tryd.prog) (by kernel_rfl) ?_
      simp only [Act.put, List.setIfInBounds_toArray, List.set_cons_zero, List.set_cons_succ]
      cases bit with
      | false =>
        go_wp2_with fail
        go_ret
        exact ⟨by rw [HRR.out] <;> rfl, HB5.out⟩
      | true =>
        go_wp2_with fail
        go_ret
        exact ⟨by rw [HRR.out] <;> simp [resO], HB5.out⟩
    · have t1 : ((e : Int) == (f : Int) + 1) = false := beq_eq_false_iff_ne.2 (by omega)
      have HRR := Lib.hid (show F = none from by
        have h9 := HRF.out
        rw [if_neg (by decide), if_pos rfl, if_neg (fun hh => h2 (by omega))] at h9
        exact h9.symm)
      clear HRF HKC HGG HOK hpa hpb
      go_upto_region 11 with fail
      go_quiet (fail)
      go_wp2_with fail
      go_ret
      exact ⟨by rw [HRR.out] <;> rfl, below_drN HB3.out _⟩
  · obtain ⟨P, rfl, hPn⟩ := hpa (by decide)
    obtain ⟨Q, rfl, hQn⟩ := hpb (by decide)
    by_cases hl1 : i + 1 < t.length
    · have p1 : decide ((t.length : Int) ≤ (i : Int) + 1) = false := by rw [decide_eq_false_iff_not]; omega
      have p2 : decide (t.length ≤ i + 1) = false := by rw [decide_eq_false_iff_not]; omega
      have p3 : (i : Int) + 1 < (t.length : Int) := by omega
      have p4 : decide (i + 1 < t.length) = true := decide_eq_true hl1
      obtain ⟨g', off', e', hg', hc'⟩ := HE.out (by rintro rfl; simp at hl1)
      cases e'
      have d3 := (HB3.out.cell (p := ⟨g, off + (i + 1) * 4 + 3, none⟩) hg').trans (hc' (i + 1) hl1 3 (by decide))
      simp only [enA, List.getElem?_toArray, List.getElem?_cons_zero, List.getElem?_cons_succ] at d3
      have hrf := HRF.out
      rw [if_neg (by decide), if_neg (by decide), if_pos rfl, if_pos hl1, atE_lt t (i + 1) hl1] at hrf
      generalize t[i + 1].to = mid at *
      have hoke := HOK.out (i + 1) (d + 1) P f mid
      have hgc := HGG.out (i + 1) (d + 1) P f mid
      generalize entF l w t k (i + 1) ⟨d + 1, P, f, mid⟩ = er at *
      have HJ := Lib.hid (fun j (hj : er = some j) => (show j ≤ t.length from by
        obtain ⟨_, _, _, _, _, _, _, h9, _⟩ := hoke j (by omega) (by omega) hj
        exact h9))
      have HRR0 := Lib.hid hrf
      have HGC := Lib.hid hgc
      clear hrf hoke hgc HRF HKC HOK hpa hpb hc'
      have hby6 : Blk (w4.setCell ⟨X + 1, 3, none⟩ (.int .i64 mid)) (X + 1) (enI (d + 1) P f mid) 83 := HBY.out.set 3 _
      have hbw6 : Blk (w4.setCell ⟨X + 1, 3, none⟩ (.int .i64 mid)) W.heap.size (enI d n f e) 83 := HBW.out.other (by omega) 3 _
      have hbx6 : Blk (w4.setCell ⟨X + 1, 3, none⟩ (.int .i64 mid)) X (ndI 3 P Q m s) 60 := HBX.out.other (by omega) 3 _
      have HB6 := Lib.hid (below_set HB3.out (show W.heap.size ≤ X + 1 by omega) 3 (.int .i64 mid))
      go_upto_region 19 with fail
      clear r0 r1 r2 r3 x0 x1 x2 x3 x4 x5 x6 x7 y0 y1 y2 y3 z0 z1 z2 z3
      clear d3
      generalize w4.setCell ⟨X + 1, 3, none⟩ (.int .i64 mid) = w6 at *
      have y0 := hby6.cell 0; have y1 := hby6.cell 1; have y2 := hby6.cell 2; have y3 := hby6.cell 3
      simp only [List.getElem?_toArray, List.getElem?_cons_zero, List.getElem?_cons_succ] at y0 y1 y2 y3
      have z0 := hby6.frozen 0; have z1 := hby6.frozen 1; have z2 := hby6.frozen 2; have z3 := hby6.frozen 3
      go_wp2_with fail
      refine (HGC.out w6 (by omega) (by omega) (by omega) (by omega) (by omega) (HN.out.below HB6.out) (HT.out.below HB6.out) (HE.out.below HB6.out)).mono ?_
      rintro r w7 ⟨rfl, hb7⟩
      have HB7 := Lib.hid (HB6.out.trans (hb7.mono HB6.out.size))
      have hbw := hbw6.below hb7 hbw6.lt
      have hbx := hbx6.below hb7 hbx6.lt
      clear y0 y1 y2 y3 z0 z1 z2 z3 hb7 hby6 hbw6 hbx6
      have r0 := hbw.cell 0; have r1 := hbw.cell 1; have r2 := hbw.cell 2; have r3 := hbw.cell 3
      simp only [List.getElem?_toArray, List.getElem?_cons_zero, List.getElem?_cons_succ] at r0 r1 r2 r3
      have x0 := hbx.cell 0; have x1 := hbx.cell 1; have x2 := hbx.cell 2; have x3 := hbx.cell 3; have x4 := hbx.cell 4; have x5 := hbx.cell 5; have x6 := hbx.cell 6; have x7 := hbx.cell 7
      simp only [List.getElem?_toArray, List.getElem?_cons_zero, List.getElem?_cons_succ] at x0 x1 x2 x3 x4 x5 x6 x7
      clear hbw hbx HGC
      cases er with
      | none =>
        have HRR := Lib.hid (show F = none from HRR0.out.symm)
        clear HRR0 HJ
        simp only [resO]
        go_wp2_with fail
        go_ret
        exact ⟨by rw [HRR.out] <;> rfl, HB7.out⟩
      | some j =>
        have hj := HJ.out j rfl
        have hres := HRR0.out
        simp only [Option.bind_some] at hres
        clear HJ HRR0
        simp only [resO]
        have s0 : decide ((j : Int) < 0) = false := by rw [decide_eq_false_iff_not]; omega
        by_cases hme : mid ≤ (e : Int)
        · have s1 : decide ((e : Int) < mid) = false := by rw [decide_eq_false_iff_not]; omega
          rw [if_pos hme] at hres
          have HRR := Lib.hid hres.symm
          clear hres
          go_wp2_with fail
          refine (HGG.out j (d + 1) Q mid e w7 (by omega) (by omega) (by omega) (by omega) (by omega) (HN.out.below HB7.out) (HT.out.below HB7.out) (HE.out.below HB7.out)).mono ?_
          rintro r w8 ⟨rfl, hb8⟩
          have HB8 := Lib.hid (HB7.out.trans (hb8.mono HB7.out.size))
          clear hb8
          go_wp2_with fail
          go_ret
          exact ⟨by rw [HRR.out] <;> rfl, HB8.out⟩
        · have s1 : decide ((e : Int) < mid) = true := by rw [decide_eq_true_iff]; omega
          rw [if_neg hme] at hres
          have HRR := Lib.hid hres.symm
          clear hres
          go_wp2_with fail
          go_ret
          exact ⟨by rw [HRR.out] <;> rfl, HB7.out⟩
    · have p1 : decide ((t.length : Int) ≤ (i : Int) + 1) = true := by rw [decide_eq_true_iff]; omega
      have p2 : decide (t.length ≤ i + 1) = true := by rw [decide_eq_true_iff]; omega
      have HRR := Lib.hid (show F = none from by
        have h9 := HRF.out
        rw [if_neg (by decide), if_neg (by decide), if_pos rfl, if_neg hl1] at h9
        exact h9.symm)
      clear HRF HKC HGG HOK hpa hpb
      go_wp2_with fail
      go_ret
      exact ⟨by rw [HRR.out] <;> rfl, HB3.out⟩
  · obtain ⟨P, rfl, hPn⟩ := hpa (by decide)
    obtain ⟨Q, rfl, hQn⟩ := hpb (by decide)
    have HRR0 := Lib.hid (show F = entF l w t k (i + 1) ⟨d + 1, if i + 1 < t.length ∧ (atE t (i + 1)).node = (Q : Int) then (Q : Int) else (P : Int), f, e⟩ from by
      have h9 := HRF.out
      rw [if_neg (by decide), if_neg (by decide), if_neg (by decide), if_pos rfl] at h9
      exact h9.symm)
    clear HRF HKC HOK hpa hpb
    by_cases hl1 : i + 1 < t.length
    · have p1 : decide ((i : Int) + 1 < (t.length : Int)) = true := by rw [decide_eq_true_iff]; omega
      have p2 : decide (i + 1 < t.length) = true := decide_eq_true hl1
      have p3 : (i : Int) + 1 < (t.length : Int) := by omega
      obtain ⟨g', off', e', hg', hc'⟩ := HE.out (by rintro rfl; simp at hl1)
      cases e'
      have d1 := (HB3.out.cell (p := ⟨g, off + (i + 1) * 4 + 1, none⟩) hg').trans (hc' (i + 1) hl1 1 (by decide))
      simp only [enA, List.getElem?_toArray, List.getElem?_cons_zero, List.getElem?_cons_succ] at d1
      rw [atE_lt t (i + 1) hl1] at HRR0
      generalize t[i + 1].node = nd at *
      clear hc'
      by_cases hq : nd = (Q : Int)
      · subst hq
        have HRR := Lib.hid (show F = entF l w t k (i + 1) ⟨d + 1, Q, f, e⟩ from by rw [HRR0.out, if_pos ⟨hl1, rfl⟩])
        clear HRR0
        go_upto_region 24 with fail
        go_quiet (fail)
        clear r0 r1 r2 r3 x0 x1 x2 x3 x4 x5 x6 x7 y0 y1 y2 y3 z0 z1 z2 z3
        have HB5 := Lib.hid (below_drN HB3.out nq)
        have hby : Blk (w4.drewN nq) (X + 1) (enI (d + 1) P f e) 83 := HBY.out
        have hbw : Blk (w4.drewN nq) W.heap.size (enI d n f e) 83 := HBW.out
        have hbx : Blk (w4.drewN nq) X (ndI 4 P Q m s) 60 := HBX.out
        generalize w4.drewN nq = w5 at *
        have r0 := hbw.cell 0; have r1 := hbw.cell 1; have r2 := hbw.cell 2; have r3 := hbw.cell 3
        simp only [List.getElem?_toArray, List.getElem?_cons_zero, List.getElem?_cons_succ] at r0 r1 r2 r3
        have x0 := hbx.cell 0; have x1 := hbx.cell 1; have x2 := hbx.cell 2; have x3 := hbx.cell 3; have x4 := hbx.cell 4; have x5 := hbx.cell 5; have x6 := hbx.cell 6; have x7 := hbx.cell 7
        simp only [List.getElem?_toArray, List.getElem?_cons_zero, List.getElem?_cons_succ] at x0 x1 x2 x3 x4 x5 x6 x7
        have y0 := hby.cell 0; have y1 := hby.cell 1; have y2 := hby.cell 2; have y3 := hby.cell 3
        simp only [List.getElem?_toArray, List.getElem?_cons_zero, List.getElem?_cons_succ] at y0 y1 y2 y3
        have z0 := hby.frozen 0; have z1 := hby.frozen 1; have z2 := hby.frozen 2; have z3 := hby.frozen 3
        have hby6 : Blk (w5.setCell ⟨X + 1, 1, none⟩ (.int .i64 (Q : Nat))) (X + 1) (enI (d + 1) Q f e) 83 := hby.set 1 _
        have HB6 := Lib.hid (below_set HB5.out (show W.heap.size ≤ X + 1 by omega) 1 (.int .i64 (Q : Nat)))
        go_upto_region 26 with fail
        clear r0 r1 r2 r3 x0 x1 x2 x3 x4 x5 x6 x7 y0 y1 y2 y3 z0 z1 z2 z3
        clear hbw hbx hby d1
        generalize w5.setCell ⟨X + 1, 1, none⟩ (.int .i64 (Q : Nat)) = w6 at *
        have y0 := hby6.cell 0; have y1 := hby6.cell 1; have y2 := hby6.cell 2; have y3 := hby6.cell 3
        simp only [List.getElem?_toArray, List.getElem?_cons_zero, List.getElem?_cons_succ] at y0 y1 y2 y3
        have z0 := hby6.frozen 0; have z1 := hby6.frozen 1; have z2 := hby6.frozen 2; have z3 := hby6.frozen 3
        go_wp2_with fail
        refine (HGG.out (i + 1) (d + 1) Q f e w6 (by omega) (by omega) (by omega) (by omega) (by omega) (HN.out.below HB6.out) (HT.out.below HB6.out) (HE.out.below HB6.out)).mono ?_
        rintro r w7 ⟨rfl, hb7⟩
        have HB7 := Lib.hid (HB6.out.trans (hb7.mono HB6.out.size))
        clear hb7
        go_wp2_with fail
        go_ret
        exact ⟨by rw [HRR.out] <;> rfl, HB7.out⟩
      · have HRR := Lib.hid (show F = entF l w t k (i + 1) ⟨d + 1, P, f, e⟩ from by rw [HRR0.out, if_neg (fun hh => hq hh.2)])
        have t1 : (nd == (Q : Int)) = false := beq_eq_false_iff_ne.2 hq
        have t2 : decide (nd = (Q : Int)) = false := decide_eq_false hq
        clear HRR0
        go_upto_region 24 with fail
        go_quiet (fail)
        clear r0 r1 r2 r3 x0 x1 x2 x3 x4 x5 x6 x7 y0 y1 y2 y3 z0 z1 z2 z3
        have HB5 := Lib.hid (below_drN HB3.out nq)
        have hby : Blk (w4.drewN nq) (X + 1) (enI (d + 1) P f e) 83 := HBY.out
        have hbw : Blk (w4.drewN nq) W.heap.size (enI d n f e) 83 := HBW.out
        have hbx : Blk (w4.drewN nq) X (ndI 4 P Q m s) 60 := HBX.out
        generalize w4.drewN nq = w5 at *
        have r0 := hbw.cell 0; have r1 := hbw.cell 1; have r2 := hbw.cell 2; have r3 := hbw.cell 3
        simp only [List.getElem?_toArray, List.getElem?_cons_zero, List.getElem?_cons_succ] at r0 r1 r2 r3
        have x0 := hbx.cell 0; have x1 := hbx.cell 1; have x2 := hbx.cell 2; have x3 := hbx.cell 3; have x4 := hbx.cell 4; have x5 := hbx.cell 5; have x6 := hbx.cell 6; have x7 := hbx.cell 7
        simp only [List.getElem?_toArray, List.getElem?_cons_zero, List.getElem?_cons_succ] at x0 x1 x2 x3 x4 x5 x6 x7
        have y0 := hby.cell 0; have y1 := hby.cell 1; have y2 := hby.cell 2; have y3 := hby.cell 3
        simp only [List.getElem?_toArray, List.getElem?_cons_zero, List.getElem?_cons_succ] at y0 y1 y2 y3
        have z0 := hby.frozen 0; have z1 := hby.frozen 1; have z2 := hby.frozen 2; have z3 := hby.frozen 3
        go_wp2_with fail
        refine (HGG.out (i + 1) (d + 1) P f e w5 (by omega) (by omega) (by omega) (by omega) (by omega) (HN.out.below HB5.out) (HT.out.below HB5.out) (HE.out.below HB5.out)).mono ?_
        rintro r w7 ⟨rfl, hb7⟩
        have HB7 := Lib.hid (HB5.out.trans (hb7.mono HB5.out.size))
        clear hb7
        go_wp2_with fail
        go_ret
        exact ⟨by rw [HRR.out] <;> rfl, HB7.out⟩
    · have HRR := Lib.hid (show F = entF l w t k (i + 1) ⟨d + 1, P, f, e⟩ from by rw [HRR0.out, if_neg (fun hh => hl1 hh.1)])
      have p1 : decide ((i : Int) + 1 < (t.length : Int)) = false := by rw [decide_eq_false_iff_not]; omega
      have p2 : decide (i + 1 < t.length) = false := decide_eq_false hl1
      clear HRR0
      go_upto_region 24 with fail
      go_quiet (fail)
      clear r0 r1 r2 r3 x0 x1 x2 x3 x4 x5 x6 x7 y0 y1 y2 y3 z0 z1 z2 z3
      have HB5 := Lib.hid (below_drN HB3.out nq)
      have hby : Blk (w4.drewN nq) (X + 1) (enI (d + 1) P f e) 83 := HBY.out
      have hbw : Blk (w4.drewN nq) W.heap.size (enI d n f e) 83 := HBW.out
      have hbx : Blk (w4.drewN nq) X (ndI 4 P Q m s) 60 := HBX.out
      generalize w4.drewN nq = w5 at *
      have r0 := hbw.cell 0; have r1 := hbw.cell 1; have r2 := hbw.cell 2; have r3 := hbw.cell 3
      simp only [List.getElem?_toArray, List.getElem?_cons_zero, List.getElem?_cons_succ] at r0 r1 r2 r3
      have x0 := hbx.cell 0; have x1 := hbx.cell 1; have x2 := hbx.cell 2; have x3 := hbx.cell 3; have x4 := hbx.cell 4; have x5 := hbx.cell 5; have x6 := hbx.cell 6; have x7 := hbx.cell 7
      simp only [List.getElem?_toArray, List.getElem?_cons_zero, List.getElem?_cons_succ] at x0 x1 x2 x3 x4 x5 x6 x7
      have y0 := hby.cell 0; have y1 := hby.cell 1; have y2 := hby.cell 2; have y3 := hby.cell 3
      simp only [List.getElem?_toArray, List.getElem?_cons_zero, List.getElem?_cons_succ] at y0 y1 y2 y3
      have z0 := hby.frozen 0; have z1 := hby.frozen 1; have z2 := hby.frozen 2; have z3 := hby.frozen 3
      go_wp2_with fail
      refine (HGG.out (i + 1) (d + 1) P f e w5 (by omega) (by omega) (by omega) (by omega) (by omega) (HN.out.below HB5.out) (HT.out.below HB5.out) (HE.out.below HB5.out)).mono ?_
      rintro r w7 ⟨rfl, hb7⟩
      have HB7 := Lib.hid (HB5.out.trans (hb7.mono HB5.out.size))
      clear hb7
      go_wp2_with fail
      go_ret
      exact ⟨by rw [HRR.out] <;> rfl, HB7.out⟩
  · obtain ⟨P, rfl, hPn⟩ := hpa (by decide)
    have HRR := Lib.hid (show F = kidsF (entF l w t k) t P (d + 1) e (e - f) (i + 1) f from by
      have h9 := HRF.out
      rw [if_neg (by decide), if_neg (by decide), if_neg (by decide), if_neg (by decide), if_pos rfl, show ((e : Int) - (f : Int)).toNat = e - f by omega] at h9
      exact h9.symm)
    clear HRF HGG HOK hpb hpa
    go_wp2_with fail
    refine (HKC.out (i + 1) d P w4 rfl (by omega) (by omega) (by omega) (by omega) (by omega) (HN.out.below HB3.out) (HT.out.below HB3.out) (HE.out.below HB3.out)).mono ?_
    rintro r w5 ⟨rfl, hb5⟩
    have HB5 := Lib.hid (HB3.out.trans (hb5.mono HB3.out.size))
    clear hb5
    go_wp2_with fail
    go_ret
    exact ⟨by rw [HRR.out] <;> rfl, HB5.out⟩
  · obtain ⟨P, rfl, hPn⟩ := hpa (by decide)
    by_cases hfe' : f = e
    · subst hfe'
      have HRR := Lib.hid (show F = some (i + 1) from by have h9 := HRF.out; simpa using h9.symm)
      clear HRF HKC HGG HOK hpa hpb
      go_wp2_with fail
      go_ret
      exact ⟨by rw [HRR.out] <;> simp [resO], HB3.out⟩
    · have HRR := Lib.hid (show F = entF l w t k (i + 1) ⟨d + 1, P, f, e⟩ from by
        have h9 := HRF.out
        rw [if_neg (by decide), if_neg (by decide), if_neg (by decide), if_neg (by decide), if_neg (by decide), if_neg (fun hh => hfe' (by omega))] at h9
        exact h9.symm)
      have t1 : ((f : Int) == (e : Int)) = false := beq_eq_false_iff_ne.2 (by omega)
      have t2 : (f == e) = false := beq_eq_false_iff_ne.2 hfe'
      have t3 : decide (f = e) = false := decide_eq_false hfe'
      clear HRF HKC HOK hpa hpb
      go_wp2_with fail
      refine (HGG.out (i + 1) (d + 1) P f e w4 (by omega) (by omega) (by omega) (by omega) (by omega) (HN.out.below HB3.out) (HT.out.below HB3.out) (HE.out.below HB3.out)).mono ?_
      rintro r w5 ⟨rfl, hb5⟩
      have HB5 := Lib.hid (HB3.out.trans (hb5.mono HB3.out.size))
      clear hb5
      go_wp2_with fail
      go_ret
      exact ⟨by rw [HRR.out] <;> rfl, HB5.out⟩
  · obtain ⟨P, rfl, hPn⟩ := hpa (by omega)
    have HRR := Lib.hid (show F = entF l w t k (i + 1) ⟨d + 1, P, f, e⟩ from by
      have h9 := HRF.out
      rw [if_neg (by omega), if_neg (by omega), if_neg (by omega), if_neg (by omega), if_neg (by omega), if_neg (by omega)] at h9
      exact h9.symm)
    clear HRF HKC HOK hpa hpb
    obtain rfl | rfl := hk78
    all_goals
      go_wp2_with fail
      refine (HGG.out (i + 1) (d + 1) P f e w4 (by omega) (by omega) (by omega) (by omega) (by omega) (HN.out.below HB3.out) (HT.out.below HB3.out) (HE.out.below HB3.out)).mono ?_
      rintro r w5 ⟨rfl, hb5⟩
      have HB5 := Lib.hid (HB3.out.trans (hb5.mono HB3.out.size))
      clear hb5
      go_wp2_with fail
      go_ret
      exact ⟨by rw [HRR.out] <;> rfl, HB5.out⟩
theorem ent_calls (l : List NdN) (w : List Nat) (t : List EnN) (la wa ta : Option Addr) (lc wc tc : Nat) (hP : PartsOk l) (hl : l.length ≤ 1000) (hw : w.length ≤ 1000) (hw8 : ∀ x ∈ w, x < 256) (ht : t.length ≤ 1000) : ∀ k, k ≤ 1001 → EntG l w t la wa ta lc wc tc k
  | 0, _ => fun i d n f e W hn => absurd hn (by omega)
  | k + 1, hk => ent_step l w t la wa ta lc wc tc k hP hl hw hw8 ht (by omega) (ent_calls l w t la wa ta lc wc tc hP hl hw hw8 ht k (by omega))
end Go.Proofs.YtdpkhliojbeglaaDoor

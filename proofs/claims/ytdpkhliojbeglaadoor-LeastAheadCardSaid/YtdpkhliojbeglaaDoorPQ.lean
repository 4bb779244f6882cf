/- Texts put together: Trk Is Trl Ttc Trn Ir. -/
import Derived.Test.YtdpkhliojbeglaaDoorPM
import Derived.Test.YtdpkhliojbeglaaDoorPL
import Derived.Laws.Slices
import Derived.Test.YtdpkhliojbeglaaDoorPK
import Derived.Test.YtdpkhliojbeglaaDoorPJ
/- Is a list a parse tree: the document's entry. Stage 14. -/
namespace Go.Proofs.YtdpkhliojbeglaaDoor
open Go.RowKit BS

set_option maxRecDepth 100000 in
set_option maxHeartbeats 64000000 in
theorem ent_step (l : List NdN) (w : List Nat) (t : List EnN) (la wa ta : Option Addr) (lc wc tc k : Nat) (hP : PartsOk l) (hl : l.length ≤ 1000) (hw : w.length ≤ 1000) (hw8 : ∀ x ∈ w, x < 256) (ht : t.length ≤ 1000) (hk : k ≤ 1000) (HG : EntG l w t la wa ta lc wc tc k) :
    EntG l w t la wa ta lc wc tc (k + 1) := by
  intro i d n f e W hn hnl hi hd0 hdk hN hT hE
  by_cases hcond : i < t.length ∧ atE t i = ⟨d, n, f, e⟩ ∧ 0 ≤ f ∧ f ≤ e ∧ e ≤ (w.length : Int)
  case neg =>
    have hr : resO (entF l w t (k + 1) i ⟨d, n, f, e⟩) = -1 := by
      unfold entF
      rw [if_neg hcond]; rfl
    rw [hr]
    exact ent_no l w t la wa ta lc wc tc hl hw ht i d n f e W hi hE hcond
  case pos =>
  obtain ⟨F, hF⟩ : ∃ F, entF l w t (k + 1) i ⟨d, n, f, e⟩ = F := ⟨_, rfl⟩
  rw [hF]
  unfold entF at hF
  rw [if_pos hcond] at hF
  obtain ⟨hlt, hat, hf0, hfe, hel⟩ := hcond
  obtain ⟨f, rfl⟩ : ∃ f' : Nat, f = f' := ⟨f.toNat, by omega⟩
  obtain ⟨e, rfl⟩ : ∃ e' : Nat, e = e' := ⟨e.toNat, by omega⟩
  have hk18 := hP.kind n hnl
  have hpa := hP.a n hnl
  have hpb := hP.b n hnl
  have hnd : ndE l n = l[n] := by simp [ndE, hnl]
  simp only [Int.toNat_natCast, hnd] at hF
  rw [hnd] at hk18 hpa hpb
  have HKC := Lib.hid (fun i d p W h1 h2 h3 h4 h5 h6 h7 h8 h9 => kids_calls l w t la wa ta lc wc tc k hP hl hw ht hk HG i d n f e p W hnl (by rw [hnd]; exact h1) h2 h3 h4 h5 h6 (by omega) (by omega) h7 h8 h9)
  have HGG := Lib.hid HG
  have HOK := Lib.hid (@ent_ok l w t hP k)
  have HN := Lib.hid hN
  have HT := Lib.hid hT
  have HE := Lib.hid hE
  obtain ⟨gl, ol, rfl, hgl, hcl⟩ := hN (by rintro rfl; simp at hnl)
  obtain ⟨g, off, rfl, hg, hc⟩ := hE (by rintro rfl; simp at hlt)
  have hR := Blk.new W (enI d n f e) 83
  have hB0 := Lib.hid (show Below W.heap.size W (W.alloc (.cells (enI d n f e) 83)) from (Below.refl _ _).alloc (Nat.le_refl _) _)
  have HBK := Lib.hid hR
  have r0 := hR.cell 0; have r1 := hR.cell 1; have r2 := hR.cell 2; have r3 := hR.cell 3
  simp only [List.getElem?_toArray, List.getElem?_cons_zero, List.getElem?_cons_succ] at r0 r1 r2 r3
  have n0 : decide ((i : Int) < 0) = false := by rw [decide_eq_false_iff_not]; omega
  have hd : decide ((i : Int) < (t.length : Int)) = true := by rw [decide_eq_true_iff]; omega
  have hd2 : decide (i < t.length) = true := by rw [decide_eq_true_iff]; omega
  have hd3 : decide (t.length ≤ i) = false := by rw [decide_eq_false_iff_not]; omega
  have hii : (i : Int) < (t.length : Int) := by omega
  have he := eqEn d n f e d n f e
  rw [decide_eq_true ⟨rfl, rfl, rfl, rfl⟩] at he
  rw [atE_lt t i hlt] at hat
  have dd := fun (j : Nat) (hj : j < 4) => (hB0.out.cell (p := ⟨g, off + i * 4 + j, none⟩) hg).trans (hc i hlt j hj)
  have d0 := dd 0 (by decide); have d1 := dd 1 (by decide); have d2 := dd 2 (by decide); have d3 := dd 3 (by decide)
  rw [hat] at d0 d1 d2 d3
  simp only [enA, List.getElem?_toArray, List.getElem?_cons_zero, List.getElem?_cons_succ, Nat.add_zero] at d0 d1 d2 d3
  have q0 : decide ((f : Int) < 0) = false := by rw [decide_eq_false_iff_not]; omega
  have q1 : decide ((e : Int) < (f : Int)) = false := by rw [decide_eq_false_iff_not]; omega
  have q2 : decide (e < f) = false := by rw [decide_eq_false_iff_not]; omega
  have q3 : decide ((w.length : Int) < (e : Int)) = false := by rw [decide_eq_false_iff_not]; omega
  have q4 : decide (w.length < e) = false := by rw [decide_eq_false_iff_not]; omega
  have xd : IntKind.i64.wrap (d + 1) = d + 1 := IntWalk.i64_in _ (by omega)
  have xi : IntKind.i64.wrap ((i : Int) + 1) = (i : Int) + 1 := IntWalk.i64_in _ (by omega)
  have hnI : (n : Int) < (l.length : Int) := by omega
  have hnd2 : decide (n < l.length) = true := decide_eq_true hnl
  have HCN := Lib.hid (fun W' (hW : Below W.heap.size W W') (j : Nat) (hj : j < 8) => (hW.cell (p := ⟨gl, ol + n * 8 + j, none⟩) hgl).trans (hcl n hnl j hj))
  clear dd hc hcl hR hnd HG hP hN hT hE
  obtain ⟨k0, a, b, m, s, hx⟩ : ∃ k0 a b m s, l[n] = (⟨k0, a, b, m, s⟩ : NdN) := ⟨_, _, _, _, _, rfl⟩
  simp only [hx] at hF
  rw [hx] at hk18 hpa hpb HCN
  simp only [hx] at HKC
  clear hx
  simp only at hk18 hpa hpb
  have HRF := Lib.hid hF
  clear hF
  go_enter Tryd.func40, Tryd.ntmps40
  go_upto_region 1 with fail
  generalize W.alloc (.cells (enI d n f e) 83) = w1 at *
  go_quiet (fail)
  clear r0 r1 r2 r3 d0 d1 d2 d3 he n0 q0 q1 q2 q3 q4
  have HB := Lib.hid (below_drN hB0.out nq)
  have hbk : Blk (w1.drewN nq) W.heap.size (enI d n f e) 83 := HBK.out
  generalize w1.drewN nq = w2 at *
  clear HBK hB0
  have r0 := hbk.cell 0; have r1 := hbk.cell 1; have r2 := hbk.cell 2; have r3 := hbk.cell 3
  simp only [List.getElem?_toArray, List.getElem?_cons_zero, List.getElem?_cons_succ] at r0 r1 r2 r3
  have cc := HCN.out w2 HB.out
  have c0 := cc 0 (by decide); have c1 := cc 1 (by decide); have c2 := cc 2 (by decide); have c3 := cc 3 (by decide); have c4 := cc 4 (by decide); have c5 := cc 5 (by decide); have c6 := cc 6 (by decide); have c7 := cc 7 (by decide)
  simp only [ndA, List.getElem?_toArray, List.getElem?_cons_zero, List.getElem?_cons_succ, Nat.add_zero] at c0 c1 c2 c3 c4 c5 c6 c7
  have HBK := Lib.hid hbk
  clear cc HCN hbk
  have hbx : Blk (w2.alloc (.cells (ndI k0 a b m s) 60)) w2.heap.size (ndI k0 a b m s) 60 := Blk.new _ _ _
  have hb2 := HBK.out.alloc (.cells (ndI k0 a b m s) 60)
  have HB2 := Lib.hid (HB.out.alloc HB.out.size (.cells (ndI k0 a b m s) 60))
  have hsz : W.heap.size < w2.heap.size := HBK.out.lt
  have hsz3 : (w2.alloc (.cells (ndI k0 a b m s) 60)).heap.size = w2.heap.size + 1 := World.size_alloc _ _
  clear HB HBK
  go_upto_region 4 with fail
  clear c0 c1 c2 c3 c4 c5 c6 c7 r0 r1 r2 r3
  generalize w2.alloc (.cells (ndI k0 a b m s) 60) = w3 at *
  generalize w2.heap.size = X at *
  clear w2
  have r0 := hb2.cell 0; have r1 := hb2.cell 1; have r2 := hb2.cell 2; have r3 := hb2.cell 3
  simp only [List.getElem?_toArray, List.getElem?_cons_zero, List.getElem?_cons_succ] at r0 r1 r2 r3
  have x0 := hbx.cell 0; have x1 := hbx.cell 1; have x2 := hbx.cell 2; have x3 := hbx.cell 3; have x4 := hbx.cell 4; have x5 := hbx.cell 5; have x6 := hbx.cell 6; have x7 := hbx.cell 7
  simp only [List.getElem?_toArray, List.getElem?_cons_zero, List.getElem?_cons_succ] at x0 x1 x2 x3 x4 x5 x6 x7
  have HB3 := Lib.hid (HB2.out.alloc HB2.out.size (.cells (enI (d + 1) a f e) 83))
  have HBW := Lib.hid (hb2.alloc (.cells (enI (d + 1) a f e) 83))
  have HBX := Lib.hid (hbx.alloc (.cells (enI (d + 1) a f e) 83))
  have HBY := Lib.hid (show Blk (w3.alloc (.cells (enI (d + 1) a f e) 83)) w3.heap.size (enI (d + 1) a f e) 83 from Blk.new _ _ _)
  clear hb2 hbx HB2
  go_upto_region 5 with fail
  clear r0 r1 r2 r3 x0 x1 x2 x3 x4 x5 x6 x7
  generalize w3.alloc (.cells (enI (d + 1) a f e) 83) = w4 at *
  generalize w3.heap.size = Y at *
  clear w3
  subst hsz3
  have r0 := HBW.out.cell 0; have r1 := HBW.out.cell 1; have r2 := HBW.out.cell 2; have r3 := HBW.out.cell 3
  simp only [List.getElem?_toArray, List.getElem?_cons_zero, List.getElem?_cons_succ] at r0 r1 r2 r3
  have x0 := HBX.out.cell 0; have x1 := HBX.out.cell 1; have x2 := HBX.out.cell 2; have x3 := HBX.out.cell 3; have x4 := HBX.out.cell 4; have x5 := HBX.out.cell 5; have x6 := HBX.out.cell 6; have x7 := HBX.out.cell 7
  simp only [List.getElem?_toArray, List.getElem?_cons_zero, List.getElem?_cons_succ] at x0 x1 x2 x3 x4 x5 x6 x7
  have y0 := HBY.out.cell 0; have y1 := HBY.out.cell 1; have y2 := HBY.out.cell 2; have y3 := HBY.out.cell 3
  simp only [List.getElem?_toArray, List.getElem?_cons_zero, List.getElem?_cons_succ] at y0 y1 y2 y3
  have z0 := HBY.out.frozen 0; have z1 := HBY.out.frozen 1; have z2 := HBY.out.frozen 2; have z3 := HBY.out.frozen 3
  obtain rfl | rfl | rfl | rfl | rfl | rfl | hk78 : k0 = 1 ∨ k0 = 2 ∨ k0 = 3 ∨ k0 = 4 ∨ k0 = 5 ∨ k0 = 6 ∨ (k0 = 7 ∨ k0 = 8) := by omega
  · by_cases hfe' : f = e
    · subst hfe'
      have HRR := Lib.hid (show F = some (i + 1) from by have h9 := HRF.out; simpa using h9.symm)
      clear HRF HKC HGG HOK hpa hpb
      go_wp2_with fail
      go_ret
      exact ⟨by rw [HRR.out] <;> simp [resO], HB3.out⟩
    · have HRR := Lib.hid (show F = none from by have h9 := HRF.out; rw [if_pos rfl, if_neg (by omega)] at h9; exact h9.symm)
      have t1 : ((f : Int) == (e : Int)) = false := beq_eq_false_iff_ne.2 (by omega)
      have t2 : (f == e) = false := beq_eq_false_iff_ne.2 hfe'
      have t3 : decide (f = e) = false := decide_eq_false hfe'
      clear HRF HKC HGG HOK hpa hpb
      go_wp2_with fail
      go_ret
      exact ⟨by rw [HRR.out] <;> rfl, HB3.out⟩
  · have xf : IntKind.i64.wrap ((f : Int) + 1) = (f : Int) + 1 := IntWalk.i64_in _ (by omega)
    by_cases h2 : e = f + 1
    · have t1 : ((e : Int) == (f : Int) + 1) = true := beq_iff_eq.2 (by omega)
      have hfw : f < w.length := by omega
      have hfI : (f : Int) < (w.length : Int) := by omega
      have hfd : decide (f < w.length) = true := decide_eq_true hfw
      have hb8 := hw8 w[f] (List.getElem_mem hfw)
      have hgd : w.getD f 0 = w[f] := by simp [hfw]
      have HRR := Lib.hid (show F = if s.getLsbD w[f] = true then some (i + 1) else none from by
        have h9 := HRF.out
        rw [if_neg (by decide), if_pos rfl, hgd] at h9
        rw [← h9]
        by_cases hbit : s.getLsbD w[f] = true
        · rw [if_pos ⟨by omega, hbit⟩, if_pos hbit]
        · rw [if_neg (fun hh => hbit hh.2), if_neg hbit])
      obtain ⟨gw, ow, rfl, hgw, hcw⟩ := HT.out (by rintro rfl; simp at hfw)
      have cw := (HB3.out.cell (p := ⟨gw, ow + f, none⟩) hgw).trans (hcw f hfw)
      generalize w[f] = bb at *
      have xb : IntKind.i64.wrap (bb : Int) = (bb : Int) := IntWalk.i64_in _ (by omega)
      have hcl := rhas_calls s (bb : Int) w4.drew (by omega) (by omega)
      rw [Int.toNat_natCast] at hcl
      generalize s.getLsbD bb = bit at *
      have HCL := Lib.hid (show Calls Tryd.prog 60 #[.agg #[.int .u64 (wd s 0), .int .u64 (wd s 1), .int .u64 (wd s 2), .int .u64 (wd s 3)], .int .i64 (bb : Int)] w4.drew fun e w' => ∃ v, e = .returned v ∧ (v = .bool bit ∧ Below w4.drew.heap.size w4.drew w') from hcl.mono (fun e w' h => ⟨_, h.1, rfl, h.2⟩))
      clear hcl HRF HKC HGG HOK hpa hpb hcw hgw hgd hfI h2
      go_upto_region 11 with fail
      refine region_stepsT (S := fun W => W = w4.drew) (m := 15) (n := 15) (k := 1) rfl (by kernel_rfl) rfl ?_
      simp only [List.size_toArray, List.length_cons, List.length_nil, Nat.reduceAdd, Array.replicate_succ, Array.replicate_zero, List.push_toArray, List.nil_append, List.cons_append]
      refine AnyT.nextC (m := 15) (i := 0) (d := some 78) (v := .pointer (some ⟨W.heap.size, 3, none⟩)) [6, 5, 1, 0] rfl rfl (by kernel_rfl) (by kernel_rfl) (by kernel_rfl) (by kernel_rfl) (StepsIf.yield (by kernel_rfl) (fun w' hS => by clear hS; go_simp)) ?_
      intro a' ha'
      simp only [Act.put, List.setIfInBounds_toArray, List.set_cons_zero, List.set_cons_succ] at ha'
      subst ha'
      refine AnyT.nextC (m := 15) (i := 1) (d := some 79) (v := .int .i64 (e : Nat)) [6, 5, 1] rfl rfl (by kernel_rfl) (by kernel_rfl) (by kernel_rfl) (by kernel_rfl) (StepsIf.yield (by kernel_rfl) (fun w' hS => by rw [hS]; clear hS; go_simp)) ?_
      intro a' ha'
      simp only [Act.put, List.setIfInBounds_toArray, List.set_cons_zero, List.set_cons_succ] at ha'
      subst ha'
      refine AnyT.nextC (m := 15) (i := 2) (d := some 80) (v := .pointer (some ⟨W.heap.size, 2, none⟩)) [6, 5, 4, 3, 2] rfl rfl (by kernel_rfl) (by kernel_rfl) (by kernel_rfl) (by kernel_rfl) (StepsIf.yield (by kernel_rfl) (fun w' hS => by clear hS; go_simp)) ?_
      intro a' ha'
      simp only [Act.put, List.setIfInBounds_toArray, List.set_cons_zero, List.set_cons_succ] at ha'
      subst ha'
      refine AnyT.nextC (m := 15) (i := 3) (d := some 81) (v := .int .i64 (f : Nat)) [6, 5, 4, 3] rfl rfl (by kernel_rfl) (by kernel_rfl) (by kernel_rfl) (by kernel_rfl) (StepsIf.yield (by kernel_rfl) (fun w' hS => by rw [hS]; clear hS; go_simp)) ?_
      intro a' ha'
      simp only [Act.put, List.setIfInBounds_toArray, List.set_cons_zero, List.set_cons_succ] at ha'
      subst ha'
      refine AnyT.nextC (m := 15) (i := 4) (d := some 82) (v := .int .i64 ((f : Int) + 1)) [6, 5, 4] rfl rfl (by kernel_rfl) (by kernel_rfl) (by kernel_rfl) (by kernel_rfl) (StepsIf.yield (by kernel_rfl) (fun w' hS => by clear hS; go_simp)) ?_
      intro a' ha'
      simp only [Act.put, List.setIfInBounds_toArray, List.set_cons_zero, List.set_cons_succ] at ha'
      subst ha'
      refine AnyT.nextC (m := 15) (i := 5) (d := some 83) (v := .bool true) [6, 5] rfl rfl (by kernel_rfl) (by kernel_rfl) (by kernel_rfl) (by kernel_rfl) (StepsIf.yield (by kernel_rfl) (fun w' hS => by clear hS; go_simp)) ?_
      intro a' ha'
      simp only [Act.put, List.setIfInBounds_toArray, List.set_cons_zero, List.set_cons_succ] at ha'
      subst ha'
      refine AnyT.nextC (m := 15) (i := 6) (d := some 84) (v := .bool true) [6] rfl rfl (by kernel_rfl) (by kernel_rfl) (by kernel_rfl) (by kernel_rfl) (StepsIf.yield (by kernel_rfl) (fun w' hS => by clear hS; go_simp)) ?_
      intro a' ha'
      simp only [Act.put, List.setIfInBounds_toArray, List.set_cons_zero, List.set_cons_succ] at ha'
      subst ha'
      refine AnyT.nextC (m := 15) (i := 7) (d := some 85) (v := .pointer (some ⟨X, 4, none⟩)) [8, 7] rfl rfl (by kernel_rfl) (by kernel_rfl) (by kernel_rfl) (by kernel_rfl) (StepsIf.yield (by kernel_rfl) (fun w' hS => by clear hS; go_simp)) ?_
      intro a' ha'
      simp only [Act.put, List.setIfInBounds_toArray, List.set_cons_zero, List.set_cons_succ] at ha'
      subst ha'
      refine AnyT.nextC (m := 15) (i := 8) (d := some 86) (v := .agg #[.int .u64 (wd s 0), .int .u64 (wd s 1), .int .u64 (wd s 2), .int .u64 (wd s 3)]) [8] rfl rfl (by kernel_rfl) (by kernel_rfl) (by kernel_rfl) (by kernel_rfl) (StepsIf.yield (by kernel_rfl) (fun w' hS => by rw [hS]; clear hS; go_simp)) ?_
      intro a' ha'
      simp only [Act.put, List.setIfInBounds_toArray, List.set_cons_zero, List.set_cons_succ] at ha'
      subst ha'
      refine AnyT.nextC (m := 15) (i := 9) (d := some 87) (v := .slice (some ⟨gw, ow, none⟩) w.length wc) [14, 13, 12, 9] rfl rfl (by kernel_rfl) (by kernel_rfl) (by kernel_rfl) (by kernel_rfl) (StepsIf.yield (by kernel_rfl) (fun w' hS => by clear hS; go_simp)) ?_
      intro a' ha'
      simp only [Act.put, List.setIfInBounds_toArray, List.set_cons_zero, List.set_cons_succ] at ha'
      subst ha'
      refine AnyT.nextC (m := 15) (i := 10) (d := some 88) (v := .pointer (some ⟨W.heap.size, 2, none⟩)) [14, 13, 12, 11, 10] rfl rfl (by kernel_rfl) (by kernel_rfl) (by kernel_rfl) (by kernel_rfl) (StepsIf.yield (by kernel_rfl) (fun w' hS => by clear hS; go_simp)) ?_
      intro a' ha'
      simp only [Act.put, List.setIfInBounds_toArray, List.set_cons_zero, List.set_cons_succ] at ha'
      subst ha'
      refine AnyT.nextC (m := 15) (i := 11) (d := some 89) (v := .int .i64 (f : Nat)) [14, 13, 12, 11] rfl rfl (by kernel_rfl) (by kernel_rfl) (by kernel_rfl) (by kernel_rfl) (StepsIf.yield (by kernel_rfl) (fun w' hS => by rw [hS]; clear hS; go_simp)) ?_
      intro a' ha'
      simp only [Act.put, List.setIfInBounds_toArray, List.set_cons_zero, List.set_cons_succ] at ha'
      subst ha'
      refine AnyT.nextC (m := 15) (i := 12) (d := some 90) (v := .pointer (some ⟨gw, ow + f, none⟩)) [14, 13, 12] rfl rfl (by kernel_rfl) (by kernel_rfl) (by kernel_rfl) (by kernel_rfl) (StepsIf.yield (by kernel_rfl) (fun w' hS => by clear hS; go_simp)) ?_
      intro a' ha'
      simp only [Act.put, List.setIfInBounds_toArray, List.set_cons_zero, List.set_cons_succ] at ha'
      subst ha'
      refine AnyT.nextC (m := 15) (i := 13) (d := some 91) (v := .int .u8 (bb : Nat)) [14, 13] rfl rfl (by kernel_rfl) (by kernel_rfl) (by kernel_rfl) (by kernel_rfl) (StepsIf.yield (by kernel_rfl) (fun w' hS => by rw [hS]; clear hS; go_simp)) ?_
      intro a' ha'
      simp only [Act.put, List.setIfInBounds_toArray, List.set_cons_zero, List.set_cons_succ] at ha'
      subst ha'
      refine AnyT.nextC (m := 15) (i := 14) (d := some 92) (v := .int .i64 (bb : Nat)) [14] rfl rfl (by kernel_rfl) (by kernel_rfl) (by kernel_rfl) (by kernel_rfl) (StepsIf.yield (by kernel_rfl) (fun w' hS => by clear hS; go_simp)) ?_
      intro a' ha'
      simp only [Act.put, List.setIfInBounds_toArray, List.set_cons_zero, List.set_cons_succ] at ha'
      subst ha'
      refine AnyT.endC (by kernel_rfl) (fun w' hS => ?_)
      subst hS
      clear t1 cw xb xf
      refine wpAny_one (i := 15) (o := ⟨some 93, _, _, _, _, _⟩) (by kernel_rfl) rfl (by kernel_rfl) ?_
      refine wp_callK (o := ⟨some 93, _, _, _, _, _⟩) (by go_simp) HCL.out ?_
      rintro v w5 ⟨rfl, hb5⟩
      have HB5 := Lib.hid (HB3.out.drew.trans (hb5.mono HB3.out.size))
      clear hb5 HCL
      refine wpAny_one (i := 16) (o := ⟨some 94, .pick (.tmp 84) (.tmp 93) (.const (.bool false)), _, _, _, _⟩) (by kernel_rfl) rfl (by kernel_rfl) ?_
      show wpAny Tryd.prog _ _ _ 0 _ (Act.put _ (some 94) (.bool bit)) w5
      refine wpAny_none (P := Tryd.prog) (by kernel_rfl) ?_
      simp only [Act.put, List.setIfInBounds_toArray, List.set_cons_zero, List.set_cons_succ]
      cases bit with
      | false =>
        go_wp2_with fail
        go_ret
        exact ⟨by rw [HRR.out] <;> rfl, HB5.out⟩
      | true =>
        go_wp2_with fail
        go_ret
        exact ⟨by rw [HRR.out] <;> simp [resO], HB5.out⟩
    · have t1 : ((e : Int) == (f : Int) + 1) = false := beq_eq_false_iff_ne.2 (by omega)
      have HRR := Lib.hid (show F = none from by
        have h9 := HRF.out
        rw [if_neg (by decide), if_pos rfl, if_neg (fun hh => h2 (by omega))] at h9
        exact h9.symm)
      clear HRF HKC HGG HOK hpa hpb
      go_upto_region 11 with fail
      go_quiet (fail)
      go_wp2_with fail
      go_ret
      exact ⟨by rw [HRR.out] <;> rfl, below_drN HB3.out _⟩
  · obtain ⟨P, rfl, hPn⟩ := hpa (by decide)
    obtain ⟨Q, rfl, hQn⟩ := hpb (by decide)
    by_cases hl1 : i + 1 < t.length
    · have p1 : decide ((t.length : Int) ≤ (i : Int) + 1) = false := by rw [decide_eq_false_iff_not]; omega
      have p2 : decide (t.length ≤ i + 1) = false := by rw [decide_eq_false_iff_not]; omega
      have p3 : (i : Int) + 1 < (t.length : Int) := by omega
      have p4 : decide (i + 1 < t.length) = true := decide_eq_true hl1
      obtain ⟨g', off', e', hg', hc'⟩ := HE.out (by rintro rfl; simp at hl1)
      cases e'
      have d3 := (HB3.out.cell (p := ⟨g, off + (i + 1) * 4 + 3, none⟩) hg').trans (hc' (i + 1) hl1 3 (by decide))
      simp only [enA, List.getElem?_toArray, List.getElem?_cons_zero, List.getElem?_cons_succ] at d3
      have hrf := HRF.out
      rw [if_neg (by decide), if_neg (by decide), if_pos rfl, if_pos hl1, atE_lt t (i + 1) hl1] at hrf
      generalize t[i + 1].to = mid at *
      have hoke := HOK.out (i + 1) (d + 1) P f mid
      have hgc := HGG.out (i + 1) (d + 1) P f mid
      generalize entF l w t k (i + 1) ⟨d + 1, P, f, mid⟩ = er at *
      have HJ := Lib.hid (fun j (hj : er = some j) => (show j ≤ t.length from by
        obtain ⟨_, _, _, _, _, _, _, h9, _⟩ := hoke j (by omega) (by omega) hj
        exact h9))
      have HRR0 := Lib.hid hrf
      have HGC := Lib.hid hgc
      clear hrf hoke hgc HRF HKC HOK hpa hpb hc'
      have hby6 : Blk (w4.setCell ⟨X + 1, 3, none⟩ (.int .i64 mid)) (X + 1) (enI (d + 1) P f mid) 83 := HBY.out.set 3 _
      have hbw6 : Blk (w4.setCell ⟨X + 1, 3, none⟩ (.int .i64 mid)) W.heap.size (enI d n f e) 83 := HBW.out.other (by omega) 3 _
      have hbx6 : Blk (w4.setCell ⟨X + 1, 3, none⟩ (.int .i64 mid)) X (ndI 3 P Q m s) 60 := HBX.out.other (by omega) 3 _
      have HB6 := Lib.hid (below_set HB3.out (show W.heap.size ≤ X + 1 by omega) 3 (.int .i64 mid))
      go_upto_region 19 with fail
      clear r0 r1 r2 r3 x0 x1 x2 x3 x4 x5 x6 x7 y0 y1 y2 y3 z0 z1 z2 z3
      clear d3
      generalize w4.setCell ⟨X + 1, 3, none⟩ (.int .i64 mid) = w6 at *
      have y0 := hby6.cell 0; have y1 := hby6.cell 1; have y2 := hby6.cell 2; have y3 := hby6.cell 3
      simp only [List.getElem?_toArray, List.getElem?_cons_zero, List.getElem?_cons_succ] at y0 y1 y2 y3
      have z0 := hby6.frozen 0; have z1 := hby6.frozen 1; have z2 := hby6.frozen 2; have z3 := hby6.frozen 3
      go_wp2_with fail
      refine (HGC.out w6 (by omega) (by omega) (by omega) (by omega) (by omega) (HN.out.below HB6.out) (HT.out.below HB6.out) (HE.out.below HB6.out)).mono ?_
      rintro r w7 ⟨rfl, hb7⟩
      have HB7 := Lib.hid (HB6.out.trans (hb7.mono HB6.out.size))
      have hbw := hbw6.below hb7 hbw6.lt
      have hbx := hbx6.below hb7 hbx6.lt
      clear y0 y1 y2 y3 z0 z1 z2 z3 hb7 hby6 hbw6 hbx6
      have r0 := hbw.cell 0; have r1 := hbw.cell 1; have r2 := hbw.cell 2; have r3 := hbw.cell 3
      simp only [List.getElem?_toArray, List.getElem?_cons_zero, List.getElem?_cons_succ] at r0 r1 r2 r3
      have x0 := hbx.cell 0; have x1 := hbx.cell 1; have x2 := hbx.cell 2; have x3 := hbx.cell 3; have x4 := hbx.cell 4; have x5 := hbx.cell 5; have x6 := hbx.cell 6; have x7 := hbx.cell 7
      simp only [List.getElem?_toArray, List.getElem?_cons_zero, List.getElem?_cons_succ] at x0 x1 x2 x3 x4 x5 x6 x7
      clear hbw hbx HGC
      cases er with
      | none =>
        have HRR := Lib.hid (show F = none from HRR0.out.symm)
        clear HRR0 HJ
        simp only [resO]
        go_wp2_with fail
        go_ret
        exact ⟨by rw [HRR.out] <;> rfl, HB7.out⟩
      | some j =>
        have hj := HJ.out j rfl
        have hres := HRR0.out
        simp only [Option.bind_some] at hres
        clear HJ HRR0
        simp only [resO]
        have s0 : decide ((j : Int) < 0) = false := by rw [decide_eq_false_iff_not]; omega
        by_cases hme : mid ≤ (e : Int)
        · have s1 : decide ((e : Int) < mid) = false := by rw [decide_eq_false_iff_not]; omega
          rw [if_pos hme] at hres
          have HRR := Lib.hid hres.symm
          clear hres
          go_wp2_with fail
          refine (HGG.out j (d + 1) Q mid e w7 (by omega) (by omega) (by omega) (by omega) (by omega) (HN.out.below HB7.out) (HT.out.below HB7.out) (HE.out.below HB7.out)).mono ?_
          rintro r w8 ⟨rfl, hb8⟩
          have HB8 := Lib.hid (HB7.out.trans (hb8.mono HB7.out.size))
          clear hb8
          go_wp2_with fail
          go_ret
          exact ⟨by rw [HRR.out] <;> rfl, HB8.out⟩
        · have s1 : decide ((e : Int) < mid) = true := by rw [decide_eq_true_iff]; omega
          rw [if_neg hme] at hres
          have HRR := Lib.hid hres.symm
          clear hres
          go_wp2_with fail
          go_ret
          exact ⟨by rw [HRR.out] <;> rfl, HB7.out⟩
    · have p1 : decide ((t.length : Int) ≤ (i : Int) + 1) = true := by rw [decide_eq_true_iff]; omega
      have p2 : decide (t.length ≤ i + 1) = true := by rw [decide_eq_true_iff]; omega
      have HRR := Lib.hid (show F = none from by
        have h9 := HRF.out
        rw [if_neg (by decide), if_neg (by decide), if_pos rfl, if_neg hl1] at h9
        exact h9.symm)
      clear HRF HKC HGG HOK hpa hpb
      go_wp2_with fail
      go_ret
      exact ⟨by rw [HRR.out] <;> rfl, HB3.out⟩
  · obtain ⟨P, rfl, hPn⟩ := hpa (by decide)
    obtain ⟨Q, rfl, hQn⟩ := hpb (by decide)
    have HRR0 := Lib.hid (show F = entF l w t k (i + 1) ⟨d + 1, if i + 1 < t.length ∧ (atE t (i + 1)).node = (Q : Int) then (Q : Int) else (P : Int), f, e⟩ from by
      have h9 := HRF.out
      rw [if_neg (by decide), if_neg (by decide), if_neg (by decide), if_pos rfl] at h9
      exact h9.symm)
    clear HRF HKC HOK hpa hpb
    by_cases hl1 : i + 1 < t.length
    · have p1 : decide ((i : Int) + 1 < (t.length : Int)) = true := by rw [decide_eq_true_iff]; omega
      have p2 : decide (i + 1 < t.length) = true := decide_eq_true hl1
      have p3 : (i : Int) + 1 < (t.length : Int) := by omega
      obtain ⟨g', off', e', hg', hc'⟩ := HE.out (by rintro rfl; simp at hl1)
      cases e'
      have d1 := (HB3.out.cell (p := ⟨g, off + (i + 1) * 4 + 1, none⟩) hg').trans (hc' (i + 1) hl1 1 (by decide))
      simp only [enA, List.getElem?_toArray, List.getElem?_cons_zero, List.getElem?_cons_succ] at d1
      rw [atE_lt t (i + 1) hl1] at HRR0
      generalize t[i + 1].node = nd at *
      clear hc'
      by_cases hq : nd = (Q : Int)
      · subst hq
        have HRR := Lib.hid (show F = entF l w t k (i + 1) ⟨d + 1, Q, f, e⟩ from by rw [HRR0.out, if_pos ⟨hl1, rfl⟩])
        clear HRR0
        go_upto_region 24 with fail
        go_quiet (fail)
        clear r0 r1 r2 r3 x0 x1 x2 x3 x4 x5 x6 x7 y0 y1 y2 y3 z0 z1 z2 z3
        have HB5 := Lib.hid (below_drN HB3.out nq)
        have hby : Blk (w4.drewN nq) (X + 1) (enI (d + 1) P f e) 83 := HBY.out
        have hbw : Blk (w4.drewN nq) W.heap.size (enI d n f e) 83 := HBW.out
        have hbx : Blk (w4.drewN nq) X (ndI 4 P Q m s) 60 := HBX.out
        generalize w4.drewN nq = w5 at *
        have r0 := hbw.cell 0; have r1 := hbw.cell 1; have r2 := hbw.cell 2; have r3 := hbw.cell 3
        simp only [List.getElem?_toArray, List.getElem?_cons_zero, List.getElem?_cons_succ] at r0 r1 r2 r3
        have x0 := hbx.cell 0; have x1 := hbx.cell 1; have x2 := hbx.cell 2; have x3 := hbx.cell 3; have x4 := hbx.cell 4; have x5 := hbx.cell 5; have x6 := hbx.cell 6; have x7 := hbx.cell 7
        simp only [List.getElem?_toArray, List.getElem?_cons_zero, List.getElem?_cons_succ] at x0 x1 x2 x3 x4 x5 x6 x7
        have y0 := hby.cell 0; have y1 := hby.cell 1; have y2 := hby.cell 2; have y3 := hby.cell 3
        simp only [List.getElem?_toArray, List.getElem?_cons_zero, List.getElem?_cons_succ] at y0 y1 y2 y3
        have z0 := hby.frozen 0; have z1 := hby.frozen 1; have z2 := hby.frozen 2; have z3 := hby.frozen 3
        have hby6 : Blk (w5.setCell ⟨X + 1, 1, none⟩ (.int .i64 (Q : Nat))) (X + 1) (enI (d + 1) Q f e) 83 := hby.set 1 _
        have HB6 := Lib.hid (below_set HB5.out (show W.heap.size ≤ X + 1 by omega) 1 (.int .i64 (Q : Nat)))
        go_upto_region 26 with fail
        clear r0 r1 r2 r3 x0 x1 x2 x3 x4 x5 x6 x7 y0 y1 y2 y3 z0 z1 z2 z3
        clear hbw hbx hby d1
        generalize w5.setCell ⟨X + 1, 1, none⟩ (.int .i64 (Q : Nat)) = w6 at *
        have y0 := hby6.cell 0; have y1 := hby6.cell 1; have y2 := hby6.cell 2; have y3 := hby6.cell 3
        simp only [List.getElem?_toArray, List.getElem?_cons_zero, List.getElem?_cons_succ] at y0 y1 y2 y3
        have z0 := hby6.frozen 0; have z1 := hby6.frozen 1; have z2 := hby6.frozen 2; have z3 := hby6.frozen 3
        go_wp2_with fail
        refine (HGG.out (i + 1) (d + 1) Q f e w6 (by omega) (by omega) (by omega) (by omega) (by omega) (HN.out.below HB6.out) (HT.out.below HB6.out) (HE.out.below HB6.out)).mono ?_
        rintro r w7 ⟨rfl, hb7⟩
        have HB7 := Lib.hid (HB6.out.trans (hb7.mono HB6.out.size))
        clear hb7
        go_wp2_with fail
        go_ret
        exact ⟨by rw [HRR.out] <;> rfl, HB7.out⟩
      · have HRR := Lib.hid (show F = entF l w t k (i + 1) ⟨d + 1, P, f, e⟩ from by rw [HRR0.out, if_neg (fun hh => hq hh.2)])
        have t1 : (nd == (Q : Int)) = false := beq_eq_false_iff_ne.2 hq
        have t2 : decide (nd = (Q : Int)) = false := decide_eq_false hq
        clear HRR0
        go_upto_region 24 with fail
        go_quiet (fail)
        clear r0 r1 r2 r3 x0 x1 x2 x3 x4 x5 x6 x7 y0 y1 y2 y3 z0 z1 z2 z3
        have HB5 := Lib.hid (below_drN HB3.out nq)
        have hby : Blk (w4.drewN nq) (X + 1) (enI (d + 1) P f e) 83 := HBY.out
        have hbw : Blk (w4.drewN nq) W.heap.size (enI d n f e) 83 := HBW.out
        have hbx : Blk (w4.drewN nq) X (ndI 4 P Q m s) 60 := HBX.out
        generalize w4.drewN nq = w5 at *
        have r0 := hbw.cell 0; have r1 := hbw.cell 1; have r2 := hbw.cell 2; have r3 := hbw.cell 3
        simp only [List.getElem?_toArray, List.getElem?_cons_zero, List.getElem?_cons_succ] at r0 r1 r2 r3
        have x0 := hbx.cell 0; have x1 := hbx.cell 1; have x2 := hbx.cell 2; have x3 := hbx.cell 3; have x4 := hbx.cell 4; have x5 := hbx.cell 5; have x6 := hbx.cell 6; have x7 := hbx.cell 7
        simp only [List.getElem?_toArray, List.getElem?_cons_zero, List.getElem?_cons_succ] at x0 x1 x2 x3 x4 x5 x6 x7
        have y0 := hby.cell 0; have y1 := hby.cell 1; have y2 := hby.cell 2; have y3 := hby.cell 3
        simp only [List.getElem?_toArray, List.getElem?_cons_zero, List.getElem?_cons_succ] at y0 y1 y2 y3
        have z0 := hby.frozen 0; have z1 := hby.frozen 1; have z2 := hby.frozen 2; have z3 := hby.frozen 3
        go_wp2_with fail
        refine (HGG.out (i + 1) (d + 1) P f e w5 (by omega) (by omega) (by omega) (by omega) (by omega) (HN.out.below HB5.out) (HT.out.below HB5.out) (HE.out.below HB5.out)).mono ?_
        rintro r w7 ⟨rfl, hb7⟩
        have HB7 := Lib.hid (HB5.out.trans (hb7.mono HB5.out.size))
        clear hb7
        go_wp2_with fail
        go_ret
        exact ⟨by rw [HRR.out] <;> rfl, HB7.out⟩
    · have HRR := Lib.hid (show F = entF l w t k (i + 1) ⟨d + 1, P, f, e⟩ from by rw [HRR0.out, if_neg (fun hh => hl1 hh.1)])
      have p1 : decide ((i : Int) + 1 < (t.length : Int)) = false := by rw [decide_eq_false_iff_not]; omega
      have p2 : decide (i + 1 < t.length) = false := decide_eq_false hl1
      clear HRR0
      go_upto_region 24 with fail
      go_quiet (fail)
      clear r0 r1 r2 r3 x0 x1 x2 x3 x4 x5 x6 x7 y0 y1 y2 y3 z0 z1 z2 z3
      have HB5 := Lib.hid (below_drN HB3.out nq)
      have hby : Blk (w4.drewN nq) (X + 1) (enI (d + 1) P f e) 83 := HBY.out
      have hbw : Blk (w4.drewN nq) W.heap.size (enI d n f e) 83 := HBW.out
      have hbx : Blk (w4.drewN nq) X (ndI 4 P Q m s) 60 := HBX.out
      generalize w4.drewN nq = w5 at *
      have r0 := hbw.cell 0; have r1 := hbw.cell 1; have r2 := hbw.cell 2; have r3 := hbw.cell 3
      simp only [List.getElem?_toArray, List.getElem?_cons_zero, List.getElem?_cons_succ] at r0 r1 r2 r3
      have x0 := hbx.cell 0; have x1 := hbx.cell 1; have x2 := hbx.cell 2; have x3 := hbx.cell 3; have x4 := hbx.cell 4; have x5 := hbx.cell 5; have x6 := hbx.cell 6; have x7 := hbx.cell 7
      simp only [List.getElem?_toArray, List.getElem?_cons_zero, List.getElem?_cons_succ] at x0 x1 x2 x3 x4 x5 x6 x7
      have y0 := hby.cell 0; have y1 := hby.cell 1; have y2 := hby.cell 2; have y3 := hby.cell 3
      simp only [List.getElem?_toArray, List.getElem?_cons_zero, List.getElem?_cons_succ] at y0 y1 y2 y3
      have z0 := hby.frozen 0; have z1 := hby.frozen 1; have z2 := hby.frozen 2; have z3 := hby.frozen 3
      go_wp2_with fail
      refine (HGG.out (i + 1) (d + 1) P f e w5 (by omega) (by omega) (by omega) (by omega) (by omega) (HN.out.below HB5.out) (HT.out.below HB5.out) (HE.out.below HB5.out)).mono ?_
      rintro r w7 ⟨rfl, hb7⟩
      have HB7 := Lib.hid (HB5.out.trans (hb7.mono HB5.out.size))
      clear hb7
      go_wp2_with fail
      go_ret
      exact ⟨by rw [HRR.out] <;> rfl, HB7.out⟩
  · obtain ⟨P, rfl, hPn⟩ := hpa (by decide)
    have HRR := Lib.hid (show F = kidsF (entF l w t k) t P (d + 1) e (e - f) (i + 1) f from by
      have h9 := HRF.out
      rw [if_neg (by decide), if_neg (by decide), if_neg (by decide), if_neg (by decide), if_pos rfl, show ((e : Int) - (f : Int)).toNat = e - f by omega] at h9
      exact h9.symm)
    clear HRF HGG HOK hpb hpa
    go_wp2_with fail
    refine (HKC.out (i + 1) d P w4 rfl (by omega) (by omega) (by omega) (by omega) (by omega) (HN.out.below HB3.out) (HT.out.below HB3.out) (HE.out.below HB3.out)).mono ?_
    rintro r w5 ⟨rfl, hb5⟩
    have HB5 := Lib.hid (HB3.out.trans (hb5.mono HB3.out.size))
    clear hb5
    go_wp2_with fail
    go_ret
    exact ⟨by rw [HRR.out] <;> rfl, HB5.out⟩
  · obtain ⟨P, rfl, hPn⟩ := hpa (by decide)
    by_cases hfe' : f = e
    · subst hfe'
      have HRR := Lib.hid (show F = some (i + 1) from by have h9 := HRF.out; simpa using h9.symm)
      clear HRF HKC HGG HOK hpa hpb
      go_wp2_with fail
      go_ret
      exact ⟨by rw [HRR.out] <;> simp [resO], HB3.out⟩
    · have HRR := Lib.hid (show F = entF l w t k (i + 1) ⟨d + 1, P, f, e⟩ from by
        have h9 := HRF.out
        rw [if_neg (by decide), if_neg (by decide), if_neg (by decide), if_neg (by decide), if_neg (by decide), if_neg (fun hh => hfe' (by omega))] at h9
        exact h9.symm)
      have t1 : ((f : Int) == (e : Int)) = false := beq_eq_false_iff_ne.2 (by omega)
      have t2 : (f == e) = false := beq_eq_false_iff_ne.2 hfe'
      have t3 : decide (f = e) = false := decide_eq_false hfe'
      clear HRF HKC HOK hpa hpb
      go_wp2_with fail
      refine (HGG.out (i + 1) (d + 1) P f e w4 (by omega) (by omega) (by omega) (by omega) (by omega) (HN.out.below HB3.out) (HT.out.below HB3.out) (HE.out.below HB3.out)).mono ?_
      rintro r w5 ⟨rfl, hb5⟩
      have HB5 := Lib.hid (HB3.out.trans (hb5.mono HB3.out.size))
      clear hb5
      go_wp2_with fail
      go_ret
      exact ⟨by rw [HRR.out] <;> rfl, HB5.out⟩
  · obtain ⟨P, rfl, hPn⟩ := hpa (by omega)
    have HRR := Lib.hid (show F = entF l w t k (i + 1) ⟨d + 1, P, f, e⟩ from by
      have h9 := HRF.out
      rw [if_neg (by omega), if_neg (by omega), if_neg (by omega), if_neg (by omega), if_neg (by omega), if_neg (by omega)] at h9
      exact h9.symm)
    clear HRF HKC HOK hpa hpb
    obtain rfl | rfl := hk78
    all_goals
      go_wp2_with fail
      refine (HGG.out (i + 1) (d + 1) P f e w4 (by omega) (by omega) (by omega) (by omega) (by omega) (HN.out.below HB3.out) (HT.out.below HB3.out) (HE.out.below HB3.out)).mono ?_
      rintro r w5 ⟨rfl, hb5⟩
      have HB5 := Lib.hid (HB3.out.trans (hb5.mono HB3.out.size))
      clear hb5
      go_wp2_with fail
      go_ret
      exact ⟨by rw [HRR.out] <;> rfl, HB5.out⟩
theorem ent_calls (l : List NdN) (w : List Nat) (t : List EnN) (la wa ta : Option Addr) (lc wc tc : Nat) (hP : PartsOk l) (hl : l.length ≤ 1000) (hw : w.length ≤ 1000) (hw8 : ∀ x ∈ w, x < 256) (ht : t.length ≤ 1000) : ∀ k, k ≤ 1001 → EntG l w t la wa ta lc wc tc k
  | 0, _ => fun i d n f e W hn => absurd hn (by omega)
  | k + 1, hk => ent_step l w t la wa ta lc wc tc k hP hl hw hw8 ht (by omega) (ent_calls l w t la wa ta lc wc tc hP hl hw hw8 ht k (by omega))
end Go.Proofs.YtdpkhliojbeglaaDoor

/- The document's terms: Right, Low, Up. Stage 10. -/
namespace Go.Proofs.YtdpkhliojbeglaaDoor
open Go.RowKit BS

/-- The node whose part x is, of the first i nodes. -/
def upA (l : List NdN) (i x : Nat) : Int := match upF l x with | some j => if j < i then (j : Int) else -1 | none => -1
theorem upA_zero (l : List NdN) (x : Nat) : upA l 0 x = -1 := by
  unfold upA
  cases upF l x with
  | none => rfl
  | some j => exact if_neg (Nat.not_lt_zero j)
theorem upA_end (l : List NdN) (x : Nat) : upA l l.length x = upT l x := by
  unfold upA upT
  cases hu : upF l x with
  | none => rfl
  | some j => exact if_pos (up_some l x j hu).1
theorem upA_step (l : List NdN) (h : TermQ l) (i : Nat) (hi : i < l.length) (x : Nat) : upA l (i + 1) x = if (x : Int) ∈ partsT l i then (i : Int) else upA l i x := by
  by_cases hx : (x : Int) ∈ partsT l i
  · rw [if_pos hx]
    unfold upA
    rw [up_of l h i hi x hx]
    exact if_pos (by omega)
  · rw [if_neg hx]
    unfold upA
    cases hu : upF l x with
    | none => rfl
    | some j =>
      have hj : j ≠ i := fun e => hx (by rw [← e]; exact (up_some l x j hu).2)
      by_cases h1 : j < i
      · show (if j < i + 1 then _ else _) = (if j < i then _ else _)
        rw [if_pos h1, if_pos (by omega)]
      · show (if j < i + 1 then _ else _) = (if j < i then _ else _)
        rw [if_neg h1, if_neg (by omega)]
/-- A node's parts. -/
theorem node_parts (l : List NdN) (h : TermQ l) (i : Nat) (hi : i < l.length) :
    (l[i].kids = -1 ∧ l[i].n = -1 ∧ partsT l i = []) ∨ (∃ a : Nat, l[i].kids = a ∧ a < i ∧ l[i].n = -1 ∧ partsT l i = [(a : Int)]) ∨
    (∃ a b : Nat, l[i].kids = a ∧ a < i ∧ l[i].n = b ∧ b < i ∧ partsT l i = [(a : Int), (b : Int)]) := by
  obtain ⟨s, _, hf⟩ := h.fine i hi
  obtain ⟨hk, _, _, _⟩ := (fineT_iff l s i l[i]).1 hf
  obtain ⟨_, h0, h2⟩ := (kindT_two l[i]).1 hk
  have hp := parts_as l h i hi
  have hlt := part_lt l h i hi
  unfold partsT at hlt ⊢
  rcases pc_kinds l[i].kind with c | c | c
  · rw [c, if_neg (by decide), if_neg (by decide)] at hp
    exact .inl ⟨h0 c, h2 (by omega), hp⟩
  · rw [c, if_neg (by decide), if_pos rfl] at hp
    obtain ⟨h3, h4⟩ := hlt l[i].kids (by rw [hp]; simp)
    exact .inr (.inl ⟨l[i].kids.toNat, by omega, by omega, h2 (by omega), by rw [hp, Int.toNat_of_nonneg h3]⟩)
  · rw [c, if_pos rfl] at hp
    obtain ⟨h3, h4⟩ := hlt l[i].kids (by rw [hp]; simp)
    obtain ⟨h5, h6⟩ := hlt l[i].n (by rw [hp]; simp)
    exact .inr (.inr ⟨l[i].kids.toNat, l[i].n.toNat, by omega, by omega, by omega, by omega, by rw [hp, Int.toNat_of_nonneg h3, Int.toNat_of_nonneg h5]⟩)
def upsT (l : List NdN) : List Int := if rightT l = true then (List.range l.length).map (upT l) else []

set_option maxRecDepth 100000 in
set_option maxHeartbeats 4000000 in
theorem tRight_calls (l : List NdN) (hl : l.length ≤ 1000) (a : Option Addr) (cap : Nat) (w : World) (h : NodesAt l a w) :
    Calls Tryd.prog 9 #[.slice a l.length cap] w fun e w' => e = .returned (.bool (rightT l)) ∧ Below w.heap.size w w' := by
  have HL := Lib.hid (lows_calls l hl a cap w h)
  clear h
  cases hr : rightT l with
  | false =>
    have HR := Lib.hid hr
    clear hr
    go_enter Tryd.func9, Tryd.ntmps9
    go_wp2_with fail
    refine HL.out.mono ?_
    rintro e w1 ⟨b, c, rfl, hi, hn, hb⟩
    obtain ⟨rfl, rfl⟩ := hn HR.out
    rw [lowsT_not l HR.out]
    clear hi hn HL
    go_wp2_with fail
    go_ret
    exact ⟨rfl, hb⟩
  | true =>
    obtain ⟨h1, _, _⟩ := of_decide_eq_true hr
    have hne : lowsT l ≠ [] := by
      rw [lowsT_is l hr]
      intro h0
      have := congrArg List.length h0
      rw [List.length_map, List.length_range, List.length_nil] at this
      rw [this, trT] at h1
      cases h1
    have HNE := Lib.hid hne
    clear hr h1 hne
    go_enter Tryd.func9, Tryd.ntmps9
    go_wp2_with fail
    refine HL.out.mono ?_
    rintro e w1 ⟨b, c, rfl, hi, hn, hb⟩
    obtain ⟨g, o, rfl, _, _, hcc⟩ := hi HNE.out
    clear hn hi HL hcc
    go_wp2_with fail
    go_ret
    exact ⟨rfl, hb⟩
set_option maxRecDepth 100000 in
set_option maxHeartbeats 4000000 in
theorem tLow_calls (l : List NdN) (hl : l.length ≤ 1000) (a : Option Addr) (cap : Nat) (w : World) (h : NodesAt l a w) :
    Calls Tryd.prog 78 #[.slice a l.length cap] w fun e w' => ∃ b c, e = .returned (.slice b (lowsT l).length c) ∧ IntsB w.heap.size (lowsT l) b w' ∧ Below w.heap.size w w' := by
  have HL := Lib.hid (lows_calls l hl a cap w h)
  clear h
  go_enter Tryd.func78, Tryd.ntmps78
  go_wp2_with fail
  refine HL.out.mono ?_
  rintro e w1 ⟨b, c, rfl, hi, hn, hb⟩
  have HI := Lib.hid hi
  clear HL hn hi
  go_wp2_with fail
  go_ret
  exact ⟨b, c, rfl, HI.out, hb⟩
end Go.Proofs.YtdpkhliojbeglaaDoor

/- Is a list a parse tree: the document's Right; what it is plainly. Stage 14. -/
namespace Go.Proofs.YtdpkhliojbeglaaDoor
open Go.RowKit BS

theorem parts_ok (l : List NdN) (hr : rightT l = true) : PartsOk l := by
  have hk : ∀ n (h : n < l.length), 1 ≤ l[n].kind ∧ l[n].kind ≤ 8 := kind_range l hr
  have hnd : ∀ n (h : n < l.length), ndE l n = l[n] := fun n h => by simp [ndE, h]
  refine ⟨fun n h => by rw [hnd n h]; exact hk n h, fun n h h3 => ?_, fun n h h34 => ?_⟩
  · rw [hnd n h] at h3 ⊢
    rcases nodek_parts l hr n h with ⟨h0, _⟩ | ⟨a, h0, h1, h2, h3', _⟩ | ⟨a, b, h0, h1, h2, h3', h4, h5, h6⟩
    · rcases pc_zero h0 (hk n h).1 (hk n h).2 with h' | h' <;> omega
    · exact ⟨a, h1, by omega⟩
    · exact ⟨a, h1, h6⟩
  · rw [hnd n h] at h34 ⊢
    have hp : pcT l[n].kind = 2 := by rcases h34 with e | e <;> rw [e] <;> rfl
    rcases nodek_parts l hr n h with ⟨h0, _⟩ | ⟨a, h0, h1, h2, h3', _⟩ | ⟨a, b, h0, h1, h2, h3', h4, h5, h6⟩
    · rw [hp] at h0; cases h0
    · rw [hp] at h0; cases h0
    · exact ⟨b, h2, by omega⟩
/-- Is it a parse tree? -/
def treeT (l : List NdN) (w : List Nat) (t : List EnN) : Bool := rightT l && decide (entF l w t l.length 0 ⟨1, (l.length : Int) - 1, 0, w.length⟩ = some t.length)
theorem tree_iff (l : List NdN) (w : List Nat) (t : List EnN) : treeT l w t = true ↔ rightT l = true ∧ ∃ ks, okF l w (.cons (l.length - 1) 0 w.length ks .nil) ∧ t = flF 1 (.cons (l.length - 1) 0 w.length ks .nil) := by
  unfold treeT
  rw [Bool.and_eq_true, decide_eq_true_iff]
  refine and_congr_right fun hr => ?_
  have hp := parts_ok l hr
  have hl : 0 < l.length := (rightT_q l hr).pos
  have hc : ((l.length : Int) - 1) = ((l.length - 1 : Nat) : Int) := by omega
  rw [hc]
  constructor
  · intro h
    obtain ⟨f', e', ks, h1, h2, hok, _, _, hd⟩ := ent_ok hp l.length 0 1 (l.length - 1) 0 (w.length : Int) t.length (by omega) (by omega) h
    obtain rfl : f' = 0 := by omega
    obtain rfl : e' = w.length := by omega
    refine ⟨ks, hok, ?_⟩
    rw [List.drop_zero, List.drop_length, List.append_nil] at hd
    exact hd
  · rintro ⟨ks, hok, ht⟩
    have h := ent_of hp l.length 0 1 (l.length - 1) 0 w.length ks [] (by omega) (by omega) hok (by rw [List.drop_zero, List.append_nil]; first | done | exact ht)
    rw [← ht, Nat.zero_add] at h
    exact h
theorem resO_eq (o : Option Nat) (n : Nat) : (resO o == (n : Int)) = decide (o = some n) := by
  cases o with
  | none => simp [resO] <;> omega
  | some j => simp [resO]; by_cases h : j = n <;> simp [h] <;> omega
set_option maxRecDepth 100000 in
set_option maxHeartbeats 8000000 in
theorem rTree_calls (l : List NdN) (hl : l.length ≤ 1000) (w : List Nat) (hw : w.length ≤ 1000) (hw8 : ∀ x ∈ w, x < 256) (t : List EnN) (ht : t.length ≤ 1000) (la wa ta : Option Addr) (lc wc tc : Nat) (W : World) (hN : NodesAt l la W) (hT : BtsAt w wa W) (hE : EntsAt t ta W) :
    Calls Tryd.prog 21 #[.slice la l.length lc, .slice wa w.length wc, .slice ta t.length tc] W fun e W' => e = .returned (.bool (treeT l w t)) ∧ Below W.heap.size W W' := by
  have HR := tRight_calls l hl la lc W hN
  have HN := Lib.hid hN
  have HT := Lib.hid hT
  have HE := Lib.hid hE
  clear hN hT hE
  cases hr : rightT l with
  | false =>
    rw [hr] at HR
    have HX := Lib.hid (show treeT l w t = false by unfold treeT; rw [hr]; rfl)
    clear hr
    go_enter Tryd.func21, Tryd.ntmps21
    go_wp2_with fail
    refine HR.mono ?_
    rintro e w1 ⟨rfl, hb⟩
    go_wp2_with fail
    go_ret
    exact ⟨by rw [HX.out] <;> rfl, hb⟩
  | true =>
    rw [hr] at HR
    have hpos : 0 < l.length := (rightT_q l hr).pos
    have HX := Lib.hid (show treeT l w t = (resO (entF l w t l.length 0 ⟨1, ((l.length - 1 : Nat) : Int), 0, w.length⟩) == (t.length : Int)) by
      rw [resO_eq]; unfold treeT; rw [hr, Bool.true_and, show ((l.length : Int) - 1) = ((l.length - 1 : Nat) : Int) by omega])
    have HEC := Lib.hid (ent_calls l w t la wa ta lc wc tc (parts_ok l hr) hl hw hw8 ht l.length (by omega) 0 1 (l.length - 1) 0 w.length)
    have xl : IntKind.i64.wrap ((l.length : Int) - 1) = ((l.length - 1 : Nat) : Int) := by rw [show ((l.length : Int) - 1) = ((l.length - 1 : Nat) : Int) by omega]; exact IntWalk.i64_in _ (by omega)
    have hlq := (rightT_q l hr).len
    clear hr
    generalize treeT l w t = TR at *
    generalize resO (entF l w t l.length 0 ⟨1, ((l.length - 1 : Nat) : Int), 0, w.length⟩) = re at *
    go_enter Tryd.func21, Tryd.ntmps21
    go_wp2_with fail
    refine HR.mono ?_
    rintro e w1 ⟨rfl, hb⟩
    have HB := Lib.hid hb
    clear HR hb
    go_wp2_with fail
    refine (HEC.out w1 (by omega) (by omega) (by omega) (by omega) (by omega) (HN.out.below HB.out) (HT.out.below HB.out) (HE.out.below HB.out)).mono ?_
    rintro e w2 ⟨rfl, hb2⟩
    have HB2 := Lib.hid (HB.out.trans (hb2.mono HB.out.size))
    clear hb2 HEC
    go_wp2_with fail
    go_ret
    exact ⟨by rw [HX.out] <;> rfl, HB2.out⟩
end Go.Proofs.YtdpkhliojbeglaaDoor

/- Whether a node can span bytes, as it is told; the tree that is told; none is ahead of it (LeastAhead, plainly). Stage 15. -/
namespace Go.Proofs.YtdpkhliojbeglaaDoor
open Go.RowKit

theorem alt_lt (l : List NdN) (hr : rightT l = true) : AltLt l := by
  intro n h h4
  have hnd : ndE l n = l[n] := by simp [ndE, h]
  rw [hnd] at h4 ⊢
  rcases nodek_parts l hr n h with ⟨h0, _⟩ | ⟨a, h0, h1, h2, h3', _⟩ | ⟨a, b, h0, h1, h2, h3', h4', h5, h6⟩
  · rw [h4] at h0; cases h0
  · rw [h4] at h0; cases h0
  · have := lowV_le l b
    omega
section
variable (l : List NdN) (w : List Nat)
/-- A Star, by its A. -/
def starB (g : Nat → Nat → Bool) (j : Nat) : Nat → Nat → Bool
  | 0, i => i == j
  | m + 1, i => i == j || (List.range (j - i)).any fun s => g i (i + 1 + s) && starB g j m (i + 1 + s)
/-- Can a node span these? -/
def canK : Nat → Nat → Nat → Nat → Bool
  | 0, _, _, _ => false
  | k + 1, q, i, j =>
    if (ndE l q).kind = 1 then i == j
    else if (ndE l q).kind = 2 then j == i + 1 && (ndE l q).set.getLsbD (w.getD i 0)
    else if (ndE l q).kind = 3 then (List.range (j + 1 - i)).any fun s => canK k (ndE l q).kids.toNat i (i + s) && canK k (ndE l q).n.toNat (i + s) j
    else if (ndE l q).kind = 4 then canK k (ndE l q).kids.toNat i j || canK k (ndE l q).n.toNat i j
    else if (ndE l q).kind = 5 then starB (canK k (ndE l q).kids.toNat) j (j - i) i
    else if (ndE l q).kind = 6 then i == j || canK k (ndE l q).kids.toNat i j
    else canK k (ndE l q).kids.toNat i j
def canB (q i j : Nat) : Bool := canK l w (q + 1) q i j
/-- The tree of a node that spans bytes. -/
def growB (q i j : Nat) : Fo := .cons q i j (kidsG l (canB l w) (q + 1) q i j) .nil
/-- The tree of a term: its entries, if there is one. -/
def leastT : Option (List EnN) := if canB l w (l.length - 1) 0 w.length = true then some (flF 1 (growB l w (l.length - 1) 0 w.length)) else none
end
section
variable {l : List NdN} {w : List Nat}
theorem star_iff {q p j : Nat} (hk : (ndE l q).kind = 5) (hp : (ndE l q).kids = p) (hj : j ≤ w.length) {g : Nat → Nat → Bool} (ih : ∀ a b, a ≤ b → b ≤ w.length → (g a b = true ↔ canP l w p a b)) : ∀ m i, j - i ≤ m → i ≤ j → (starB g j m i = true ↔ canP l w q i j) := by
  intro m
  induction m with
  | zero =>
    intro i hm hij
    unfold starB
    rw [beq_iff_eq, can_5 hk hp hij hj]
    exact ⟨.inl, fun _ => by omega⟩
  | succ m ihm =>
    intro i hm hij
    unfold starB
    rw [Bool.or_eq_true, beq_iff_eq, can_5 hk hp hij hj, List.any_eq_true]
    refine or_congr_right ?_
    constructor
    · rintro ⟨s, hs, h⟩
      have hs' := List.mem_range.1 hs
      rw [Bool.and_eq_true, ih _ _ (by omega) (by omega), ihm _ (by omega) (by omega)] at h
      exact ⟨i + 1 + s, by omega, h⟩
    · rintro ⟨k, h1, h2, h3⟩
      have h4 := can_le h3
      refine ⟨k - (i + 1), List.mem_range.2 (by omega), ?_⟩
      rw [show i + 1 + (k - (i + 1)) = k by omega, Bool.and_eq_true, ih _ _ (by omega) (by omega), ihm _ (by omega) h4.1]
      exact ⟨h2, h3⟩
theorem canK_iff (hP : PartsOk l) : ∀ k q i j, q < k → q < l.length → i ≤ j → j ≤ w.length → (canK l w k q i j = true ↔ canP l w q i j)
  | 0, _, _, _, h, _, _, _ => absurd h (by omega)
  | k + 1, q, i, j, hqk, hq, hij, hj => by
    have ih := canK_iff hP k
    obtain ⟨k1, k8⟩ := hP.kind q hq
    have ha := hP.a q hq
    have hb := hP.b q hq
    unfold canK
    by_cases e1 : (ndE l q).kind = 1
    · rw [if_pos e1, can_1 e1 hij hj, beq_iff_eq]
    rw [if_neg e1]
    by_cases e2 : (ndE l q).kind = 2
    · rw [if_pos e2, can_2 e2 hij hj, Bool.and_eq_true, beq_iff_eq]
    rw [if_neg e2]
    obtain ⟨p, hp, hpq⟩ := ha (by omega)
    rw [hp, Int.toNat_natCast]
    by_cases e3 : (ndE l q).kind = 3
    · obtain ⟨r, hr, hrq⟩ := hb (.inl e3)
      rw [if_pos e3, hr, Int.toNat_natCast, can_3 e3 hp hr hij hj, List.any_eq_true]
      constructor
      · rintro ⟨s, hs, h⟩
        have hs' := List.mem_range.1 hs
        rw [Bool.and_eq_true, ih p _ _ (by omega) (by omega) (by omega) (by omega), ih r _ _ (by omega) (by omega) (by omega) hj] at h
        exact ⟨i + s, h⟩
      · rintro ⟨m, h1, h2⟩
        have l1 := can_le h1
        have l2 := can_le h2
        refine ⟨m - i, List.mem_range.2 (by omega), ?_⟩
        rw [show i + (m - i) = m by omega, Bool.and_eq_true, ih p _ _ (by omega) (by omega) (by omega) (by omega), ih r _ _ (by omega) (by omega) (by omega) hj]
        exact ⟨h1, h2⟩
    rw [if_neg e3]
    by_cases e4 : (ndE l q).kind = 4
    · obtain ⟨r, hr, hrq⟩ := hb (.inr e4)
      rw [if_pos e4, hr, Int.toNat_natCast, can_4 e4 hp hr hij hj, Bool.or_eq_true, ih p _ _ (by omega) (by omega) hij hj, ih r _ _ (by omega) (by omega) hij hj]
    rw [if_neg e4]
    by_cases e5 : (ndE l q).kind = 5
    · rw [if_pos e5]
      exact star_iff e5 hp hj (fun a b h1 h2 => ih p a b (by omega) (by omega) h1 h2) _ i (Nat.le_refl _) hij
    rw [if_neg e5]
    by_cases e6 : (ndE l q).kind = 6
    · rw [if_pos e6, can_6 e6 hp hij hj, Bool.or_eq_true, beq_iff_eq, ih p _ _ (by omega) (by omega) hij hj]
    rw [if_neg e6, can_7 (by omega) hp hij hj, ih p _ _ (by omega) (by omega) hij hj]
theorem can_iff (hP : PartsOk l) (q i j : Nat) (hq : q < l.length) (hij : i ≤ j) (hj : j ≤ w.length) : canB l w q i j = true ↔ canP l w q i j :=
  canK_iff hP (q + 1) q i j (Nat.lt_succ_self _) hq hij hj
theorem grow_is (hP : PartsOk l) (q i j : Nat) (hq : q < l.length) (h : canP l w q i j) : GoodF l w (growB l w q i j) :=
  grow_good hP (fun q i j h1 h2 h3 => can_iff hP q i j h1 h2 h3) (q + 1) q i j (Nat.lt_succ_self _) hq h
/-- What LeastAhead says. -/
theorem least_ahead (hr : rightT l = true) :
    (∀ a, leastT l w = some a → treeT l w a = true ∧ ∀ t, treeT l w t = true → aheadT a t ≤ 0) ∧ (leastT l w = none → ∀ t, treeT l w t = false) := by
  have hP := parts_ok l hr
  have h0 : 0 < l.length := (rightT_q l hr).pos
  have hi := can_iff (w := w) hP (l.length - 1) 0 w.length (by omega) (Nat.zero_le _) (Nat.le_refl _)
  constructor
  · intro a h
    unfold leastT at h
    split at h
    · rename_i hc
      cases h
      have hg := grow_is hP (l.length - 1) 0 w.length (by omega) (hi.1 hc)
      refine ⟨(tree_iff l w _).2 ⟨hr, _, hg.1, rfl⟩, fun t ht => ?_⟩
      obtain ⟨_, ks, hk, rfl⟩ := (tree_iff l w t).1 ht
      exact best_ahead (alt_lt l hr) 1 hg.2.2 hg.1 hg.2.1 hk
    · cases h
  · intro h t
    rw [Bool.eq_false_iff]
    intro ht
    obtain ⟨_, ks, hk, _⟩ := (tree_iff l w t).1 ht
    unfold leastT at h
    rw [if_pos (hi.2 ⟨ks, hk⟩)] at h
    cases h
end
end Go.Proofs.YtdpkhliojbeglaaDoor

/- What a parse tree's groups span, plainly; TreeWithin's spans. Stage 14. -/
namespace Go.Proofs.YtdpkhliojbeglaaDoor
open Go.RowKit

/-- Groups that span nothing. -/
def offS (o : List (Int × Int)) (g : List Nat) : List (Int × Int) := g.foldl (fun o n => o.set n (-1, -1)) o
/-- One entry more. -/
def spanS (l : List NdN) (o : List (Int × Int)) (x : EnN) : List (Int × Int) :=
  if 0 ≤ x.node ∧ x.node < l.length then
    if (ndE l x.node.toNat).kind = 7 then o.set (ndE l x.node.toNat).m.toNat (x.from_, x.to)
    else if (ndE l x.node.toNat).kind = 8 then offS o (groupsT l x.node) else o
  else o
def spanI (l : List NdN) : List EnN → List (Int × Int)
  | [] => (-1, -1) :: List.replicate (topL l) (-1, -1)
  | x :: _ => (x.from_, x.to) :: List.replicate (topL l) (-1, -1)
def spansT (l : List NdN) (t : List EnN) : List (Int × Int) := if rightT l = true then t.foldl (spanS l) (spanI l t) else []
theorem grp_num (l : List NdN) (hr : rightT l = true) (i : Nat) (hi : i < l.length) (hk : l[i].kind = 7) : ∃ m : Nat, l[i].m = m ∧ 1 ≤ m ∧ m ≤ topL l := by
  obtain ⟨s, hs, hf⟩ := tr_at l hr i hi
  obtain ⟨h7, _⟩ := (fine_go l i s hs hi).1 hf
  unfold kindT at h7
  have h := of_decide_eq_true h7
  obtain ⟨h1, h9⟩ := h.2.2.2.2.1 hk
  refine ⟨l[i].m.toNat, by omega, by omega, (topL_spec l).1 _ (by omega) (by omega) ((hasG_all l _).2 ⟨l[i], List.getElem_mem hi, hk, by omega⟩)⟩
theorem groups_num (l : List NdN) (q : Int) (n : Nat) (h : n ∈ groupsT l q) : 1 ≤ n ∧ n ≤ topL l := by
  unfold groupsT at h
  split at h
  · obtain ⟨h1, h9, hg⟩ := (grpL_mem l _ _ n).1 h
    obtain ⟨i, x, _, _, hx, hk, hm⟩ := (hasG_iff l _ _ n).1 hg
    obtain ⟨hi, rfl⟩ := List.getElem?_eq_some_iff.1 hx
    exact ⟨h1, (topL_spec l).1 n h1 h9 ((hasG_all l n).2 ⟨_, List.getElem_mem hi, hk, hm⟩)⟩
  · cases h
/-- What is told of spans: of the whole, and of each group. -/
def SpOk (l : List NdN) (t : List EnN) (z : Int × Int) (o : List (Int × Int)) : Prop :=
  o.length = topL l + 1 ∧ o[0]? = some z ∧ ∀ g, 1 ≤ g → g < o.length → o[g]? = some (-1, -1) ∨ ∃ x ∈ t, 0 ≤ x.node ∧ x.node < l.length ∧ (ndE l x.node.toNat).kind = 7 ∧ (ndE l x.node.toNat).m = (g : Int) ∧ o[g]? = some (x.from_, x.to)
theorem off_ok (l : List NdN) (t : List EnN) (z : Int × Int) : ∀ (gs : List Nat) (o : List (Int × Int)), (∀ n ∈ gs, 1 ≤ n) → SpOk l t z o → SpOk l t z (offS o gs)
  | [], _, _, h => h
  | n :: gs, o, hn, h => by
    have hn1 := hn n (List.mem_cons_self ..)
    refine off_ok l t z gs (o.set n (-1, -1)) (fun m hm => hn m (List.mem_cons_of_mem _ hm)) ⟨by rw [List.length_set]; exact h.1, by rw [List.getElem?_set_ne (by omega)]; exact h.2.1, fun g hg hl => ?_⟩
    rw [List.length_set] at hl
    by_cases he : n = g
    · subst he
      exact .inl (by rw [List.getElem?_set_self hl])
    · rw [List.getElem?_set_ne he]
      exact h.2.2 g hg hl
theorem span_ok (l : List NdN) (hr : rightT l = true) (t : List EnN) (z : Int × Int) (x : EnN) (hx : x ∈ t) (o : List (Int × Int)) (h : SpOk l t z o) : SpOk l t z (spanS l o x) := by
  unfold spanS
  split
  · rename_i hn
    have hi : x.node.toNat < l.length := by omega
    have hnd : ndE l x.node.toNat = l[x.node.toNat] := by simp [ndE, hi]
    split
    · rename_i h7
      rw [hnd] at h7
      obtain ⟨m, hm, h1, hT⟩ := grp_num l hr _ hi h7
      rw [hnd, hm, Int.toNat_natCast]
      refine ⟨by rw [List.length_set]; exact h.1, by rw [List.getElem?_set_ne (by omega)]; exact h.2.1, fun g hg hl => ?_⟩
      rw [List.length_set] at hl
      by_cases he : m = g
      · subst he
        exact .inr ⟨x, hx, hn.1, hn.2, by rw [hnd]; exact h7, by rw [hnd]; exact hm, by rw [List.getElem?_set_self hl]⟩
      · rw [List.getElem?_set_ne he]
        exact h.2.2 g hg hl
    · split
      · exact off_ok l t z _ o (fun n hn => (groups_num l _ n hn).1) h
      · exact h
  · exact h
theorem spans_run (l : List NdN) (hr : rightT l = true) (t : List EnN) (z : Int × Int) : ∀ (M : List EnN) (o : List (Int × Int)), (∀ x ∈ M, x ∈ t) → SpOk l t z o → SpOk l t z (M.foldl (spanS l) o)
  | [], _, _, h => h
  | x :: M, o, hM, h => spans_run l hr t z M (spanS l o x) (fun y hy => hM y (List.mem_cons_of_mem _ hy)) (span_ok l hr t z x (hM x (List.mem_cons_self ..)) o h)
theorem init_ok (l : List NdN) (t : List EnN) (z : Int × Int) : SpOk l t z (z :: List.replicate (topL l) (-1, -1)) := by
  refine ⟨by simp, rfl, fun g hg hl => .inl ?_⟩
  obtain ⟨g, rfl⟩ : ∃ k, g = k + 1 := ⟨g - 1, by omega⟩
  simp only [List.length_cons, List.length_replicate] at hl
  rw [List.getElem?_cons_succ, List.getElem?_replicate, if_pos (by omega)]
/-- What a parse tree's groups span: the whole, and for each group nothing, or what an entry of it does. -/
theorem spans_tree (l : List NdN) (w : List Nat) (t : List EnN) (h : treeT l w t = true) : SpOk l t (0, (w.length : Int)) (spansT l t) := by
  obtain ⟨hr, ks, hok, ht⟩ := (tree_iff l w t).1 h
  unfold spansT
  rw [if_pos hr]
  refine spans_run l hr t _ t _ (fun _ hx => hx) ?_
  rw [ht]
  exact init_ok l _ _
end Go.Proofs.YtdpkhliojbeglaaDoor

/- The document's terms: Deep. Stage 10. -/
namespace Go.Proofs.YtdpkhliojbeglaaDoor
open Go.RowKit BS

def deepsT (l : List NdN) : List Int := if rightT l = true then (List.range l.length).map (fun x => (deepT l x : Int)) else []
end Go.Proofs.YtdpkhliojbeglaaDoor

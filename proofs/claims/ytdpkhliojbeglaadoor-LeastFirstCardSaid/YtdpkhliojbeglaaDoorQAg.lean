/- Texts put together: Twd. -/
import Derived.Test.YtdpkhliojbeglaaDoorQAi
import Derived.Test.YtdpkhliojbeglaaDoorQAf
import Derived.Test.YtdpkhliojbeglaaDoorQW
import Derived.BigQuiet
/- Stage 15: LeastFirst. -/
namespace Go.Proofs.YtdpkhliojbeglaaDoor
open Go.RowKit BS

set_option maxRecDepth 100000 in
theorem slice_bts (a : Option Addr) (n c lo hi : Nat) (h : lo ≤ hi) (h2 : hi ≤ n) (h3 : n ≤ c) (W : World) : (Instr.sliceAt 23 (.slice a n c) (some (.int .i64 (lo : Int))) (some (.int .i64 (hi : Int))) none).run Tryd.prog W = .ok (.slice (if c = lo then a else a.map (·.add lo)) (hi - lo) (c - lo)) W := by
  have hs : ∀ W, (sizeOf 5).run Tryd.prog W = .ok 1 W := fun W => rfl
  have h4 : hi ≤ c := by omega
  simp [Instr.sliceAt, Instr.slice, Instr.sliceBounds, Instr.sliceBound, asIntOf, run_underlying Tryd.underlying23, hs, h, h4]
theorem BtsAt.cut {w : List Nat} {wd : Option Addr} {W : World} (h : BtsAt w wd W) (a b c : Nat) (hab : a ≤ b) (hb : b ≤ w.length) (hc : w.length ≤ c) : BtsAt (cutL w a b) (if c = a then wd else wd.map (·.add a)) W := fun hne => by
  have hl := cut_len (w := w) hb hab
  have hlt : a < b := by
    rcases Nat.lt_or_ge a b with h1 | h1
    · exact h1
    · exact absurd (List.eq_nil_of_length_eq_zero (by omega)) hne
  obtain ⟨g, o, rfl, hg, hcell⟩ := h (by rintro rfl; simp at hb; omega)
  rw [if_neg (by omega)]
  refine ⟨g, o + a, ?_, hg, fun i hi => ?_⟩
  · show some ((⟨g, o, none⟩ : Addr).add a) = _
    unfold Addr.add
    split
    · rename_i hz
      subst hz
      rfl
    · rfl
  · rw [hl] at hi
    rw [show o + a + i = o + (a + i) by omega, hcell (a + i) (by omega)]
    have h1 : (cutL w a b)[i]? = w[a + i]? := by unfold cutL; rw [List.getElem?_take_of_lt (by omega), List.getElem?_drop]
    rw [List.getElem?_eq_getElem (by omega), List.getElem?_eq_getElem (by omega)] at h1
    rw [Option.some.inj h1]
theorem wp_callY {P : Program} {o : Oper} {a : Act} {w : World} {f : FuncId} {args : Array Value} {R : Value → World → Prop} {K : Act → World → Prop} {Q : Exit → Act → World → Prop} (h : (execOp a.eval o).run P w = .ok (.enter f args) w)
    (hc : Calls P f args w fun e w' => ∃ v, e = .returned v ∧ R v w') (hK : ∀ v w', R v w' → K (a.put o.dst v) w') : o.wp P a w K Q := by
  unfold Oper.wp
  rw [h]
  refine Calls.mono hc fun e w' he => ?_
  obtain ⟨v, rfl, hR⟩ := he
  exact hK v w' hR
set_option maxRecDepth 100000 in
set_option maxHeartbeats 64000000 in
theorem leastFirst_calls (l : List NdN) (hl : l.length ≤ 9223372036854775807) (w : List Nat) (hw : w.length ≤ 9223372036854775807) (hw8 : ∀ x ∈ w, x < 256) (F T : Int)
    (ad wd : Option Addr) (cl cw : Nat) (hcw : w.length ≤ cw) (W : World) (hN : NodesAt l ad W) (hT : BtsAt w wd W) (hG : GTab W) :
    Calls Tryd.prog 6 #[.slice ad l.length cl, .slice wd w.length cw, .agg #[.int .i64 F, .int .i64 T]] W fun e W' => e = .returned (.bool true) ∧ Below W.heap.size W W' := by
  have hb1 : Below W.heap.size W (W.alloc (.cells #[.int .i64 F, .int .i64 T] 25)) := by go_grown
  have HX := Lib.hid (Blk.new W #[.int .i64 F, .int .i64 T] 25)
  have HN := Lib.hid (hN.below hb1)
  have HT := Lib.hid (hT.below hb1)
  have hG1 := hG.keep hb1
  have HW1 := Lib.hid hb1
  have hWs : W.heap.size < (W.alloc (.cells #[.int .i64 F, .int .i64 T] 25)).heap.size := by rw [World.size_alloc]; omega
  clear hN hT hG hb1
  go_enter Tryd.func6, Tryd.ntmps6
  go_upto_region 1 with fail
  generalize W.alloc (.cells #[.int .i64 F, .int .i64 T] 25) = w1 at *
  have HSU := Lib.hid (fun (W' : World) (h : Below w1.heap.size w1 W') => sure15_calls W' (hG1.keep h))
  have HG := Lib.hid hG1
  have HFEW := Lib.hid (few15_calls l.length w.length ad wd cl cw w1 hl hw)
  obtain ⟨FB, hFB⟩ : ∃ FB, FB = decide (l.length ≤ 40 ∧ w.length ≤ 24) := ⟨_, rfl⟩
  rw [← hFB] at HFEW
  have HFB := Lib.hid hFB
  clear hFB hG1
  cases FB with
  | false =>
    go_wp2_with fail
    refine HFEW.out.mono ?_
    rintro e w2 ⟨rfl, rfl⟩
    go_wp2_with fail
    refine (HSU.out _ (Below.refl _ _)).mono ?_
    rintro e w3 ⟨rfl, hb3⟩
    go_wp2_with fail
    go_ret
    exact ⟨rfl, HW1.out.trans (hb3.mono HW1.out.size)⟩
  | true =>
  obtain ⟨hl40, hw24⟩ := of_decide_eq_true HFB.out.symm
  have HRI := tRight_calls l (by omega) ad cl w1 HN.out
  cases hr : rightT l
  · rw [hr] at HRI
    have HRI := Lib.hid HRI
    go_wp2_with fail
    refine HFEW.out.mono ?_
    rintro e w2 ⟨rfl, rfl⟩
    go_wp2_with fail
    refine HRI.out.mono ?_
    rintro e w3 ⟨rfl, hb3⟩
    have HB3 := Lib.hid hb3
    clear hb3
    go_wp2_with fail
    refine (HSU.out _ HB3.out).mono ?_
    rintro e w4 ⟨rfl, hb4⟩
    go_wp2_with fail
    go_ret
    exact ⟨rfl, HW1.out.trans ((HB3.out.trans (hb4.mono HB3.out.size)).mono HW1.out.size)⟩
  rw [hr] at HRI
  have HRI := Lib.hid HRI
  have hpos : 0 < l.length := (rightT_q l hr).pos
  have hmul : l.length * max 1 w.length ≤ 40 * 24 := Nat.mul_le_mul hl40 (by omega)
  have HFI := Lib.hid (fun W' (hW : Below w1.heap.size w1 W') => findL_calls l (by omega) w (by omega) hw8 cl cw ad wd (fun _ _ => by omega) W' (HN.out.below hW) (HT.out.below hW) (HG.out.keep hW).1 (HG.out.keep hW).2)
  have HCA := Lib.hid (fun W' (hW : Below w1.heap.size w1 W') => canL_calls l (by omega) w (by omega) hw8 cl cw ad wd ((l.length : Int) - 1) F T W' (HN.out.below hW) (HT.out.below hW) (HG.out.keep hW).1 (HG.out.keep hW).2)
  have xl : IntKind.i64.wrap ((l.length : Int) - 1) = (l.length : Int) - 1 := IntWalk.i64_in _ (by omega)
  rcases first_cases w hr (by omega) with ⟨hfv, hcv⟩ | ⟨a, b, S, hab, hbn, hfv, hmv, hS0, hS100, hSz, hrg, hcv, htl⟩
  · rw [hfv] at HFI
    rw [hcv F T] at HCA
    clear hfv hcv
    generalize (canV l w ((l.length : Int) - 1) F T).2 = CE at *
    go_wp2_with fail
    refine HFEW.out.mono ?_
    rintro e w2 ⟨rfl, rfl⟩
    go_wp2_with fail
    refine HRI.out.mono ?_
    rintro e w3 ⟨rfl, hb3⟩
    have HB3 := Lib.hid hb3
    clear hb3
    go_wp2_with fail
    refine (HFI.out _ HB3.out).mono ?_
    rintro e w4 ⟨sb, sc, rfl, _, hb4⟩
    have HB4 := Lib.hid (HB3.out.trans (hb4.mono HB3.out.size))
    clear hb4 HB3
    have hx4 := HX.out.below HB4.out hWs
    have x0 := hx4.cell 0; have x1 := hx4.cell 1
    simp only [List.getElem?_toArray, List.getElem?_cons_zero, List.getElem?_cons_succ] at x0 x1
    clear hx4
    go_wp2_with fail
    refine (HCA.out _ HB4.out).mono ?_
    rintro e w5 ⟨rfl, hb5⟩
    have HB5 := Lib.hid (HB4.out.trans (hb5.mono HB4.out.size))
    clear hb5 HB4 x0 x1
    go_wp2_with fail
    refine (HSU.out _ HB5.out).mono ?_
    rintro e w6 ⟨rfl, hb6⟩
    go_wp2_with fail
    go_ret
    exact ⟨rfl, HW1.out.trans ((HB5.out.trans (hb6.mono HB5.out.size)).mono HW1.out.size)⟩
  rw [hfv] at HFI
  have hSl : (S.map (shz a)).length = S.length := List.length_map ..
  have hS0' : (S.map (shz a))[0]? = some ((a : Int), (b : Int)) := by
    rw [List.getElem?_map, hSz]
    show some (shz a _) = _
    unfold shz
    rw [if_pos (Int.le_refl _)]
    exact congrArg some (Prod.ext (by show (0 : Int) + a = a; omega) (by show ((b - a : Nat) : Int) + a = b; omega))
  have HCV := Lib.hid (hcv F T)
  clear hfv hcv hSz
  have HMV := Lib.hid hmv
  clear hmv
  obtain ⟨S', hS'⟩ : ∃ S', S.map (shz a) = S' := ⟨_, rfl⟩
  have HS' := Lib.hid hS'
  rw [hS'] at HFI
  rw [hS'] at hSl hS0'
  clear hS'
  rw [hSl] at HFI
  generalize hcvx : canV l w ((l.length : Int) - 1) F T = CV at *
  clear hcvx
  obtain ⟨cb, ce⟩ := CV
  simp only at HCA HCV
  go_wp2_with fail
  refine HFEW.out.mono ?_
  rintro e w2 ⟨rfl, rfl⟩
  go_wp2_with fail
  refine HRI.out.mono ?_
  rintro e w3 ⟨rfl, hb3⟩
  have HB3 := Lib.hid hb3
  clear hb3
  go_wp2_with fail
  refine (HFI.out _ HB3.out).mono ?_
  rintro e w4 ⟨sb, sc, rfl, hsp, hb4⟩
  have HB4 := Lib.hid (HB3.out.trans (hb4.mono HB3.out.size))
  have HSP4 := Lib.hid hsp
  clear hb4 HB3 hsp
  have hx4 := HX.out.below HB4.out hWs
  have x0 := hx4.cell 0; have x1 := hx4.cell 1
  simp only [List.getElem?_toArray, List.getElem?_cons_zero, List.getElem?_cons_succ] at x0 x1
  clear hx4
  go_wp2_with fail
  refine (HCA.out _ HB4.out).mono ?_
  rintro e w5 ⟨rfl, hb5⟩
  have HB5 := Lib.hid (HB4.out.trans (hb5.mono HB4.out.size))
  have HSP5 := Lib.hid (HSP4.out.below hb5)
  clear hb5 HB4 x0 x1 HSP4
  have hx5 := HX.out.below HB5.out hWs
  have x0 := hx5.cell 0; have x1 := hx5.cell 1
  simp only [List.getElem?_toArray, List.getElem?_cons_zero, List.getElem?_cons_succ] at x0 x1
  clear hx5
  obtain ⟨sg, so, rfl, hsg, hsc⟩ := HSP5.out (by rintro rfl; simp at hSl; omega)
  obtain ⟨s0, s1⟩ := hsc 0 (by omega)
  rw [List.getElem?_eq_getElem (by omega)] at hS0'
  rw [Option.some.inj hS0', Nat.zero_mul, Nat.add_zero] at s0 s1
  simp only at s0 s1
  have HSC := Lib.hid hsc
  clear hsc
  have n1 : decide (S.length = 0) = false := decide_eq_false (by omega)
  have n2 : ((S.length : Int) == 0) = false := by rw [beq_eq_false_iff_ne]; omega
  have n3 : decide ((a : Int) < 0) = false := decide_eq_false (by omega)
  have n4 : decide ((b : Int) < (a : Int)) = false := decide_eq_false (by omega)
  have n4' : decide (b < a) = false := decide_eq_false (by omega)
  have n5 : decide ((w.length : Int) < (b : Int)) = false := decide_eq_false (by omega)
  have n5' : decide (w.length < b) = false := decide_eq_false (by omega)
  have n6 : (0 : Int) < (S.length : Int) := by omega
  have n7 : decide (0 < S.length) = true := decide_eq_true hS0
  go_upto_region 7 with fail
  go_quiet (fail)
  go_upto_region 9 with fail
  have HS7 := Lib.hid (show ∀ W', Below w5.heap.size w5 W' → W'.cell? ⟨sg, so, none⟩ = some (.int .i64 (a : Int)) ∧ W'.cell? ⟨sg, so + 1, none⟩ = some (.int .i64 (b : Int)) from fun W' hW => ⟨(hW.cell (p := ⟨sg, so, none⟩) hsg).trans s0, (hW.cell (p := ⟨sg, so + 1, none⟩) hsg).trans s1⟩)
  have HSLI := Lib.hid (fun W' => slice_bts wd w.length cw a b hab hbn hcw W')
  have HCT := Lib.hid (fun W' (hW : Below w1.heap.size w1 W') => (HT.out.below hW).cut a b cw hab hbn hcw)
  obtain ⟨SA, hSA⟩ : ∃ SA, (if cw = a then wd else wd.map (·.add a)) = SA := ⟨_, rfl⟩
  rw [hSA] at HSLI HCT
  clear hSA
  have hcl := cut_len hbn hab
  have h96 : l.length * max 1 (b - a) ≤ 40 * 24 := Nat.mul_le_mul hl40 (by omega)
  have HMA := fun W' (hW : Below w1.heap.size w1 W') => matchN_calls l (by omega) hr (cutL w a b) (by omega) (fun x hx => hw8 x (List.mem_of_mem_drop (List.mem_of_mem_take hx))) cl (cw - a) ad SA (by omega) S HMV.out W' (HN.out.below hW) (HCT.out W' hW) (HG.out.keep hW).1 (HG.out.keep hW).2
  rw [hcl] at HMA
  have HMA := Lib.hid (fun W' hW => (HMA W' hW).mono fun e w' h => (show ∃ v, e = .returned v ∧ (∃ R c, v = .tuple #[.slice (some ⟨R, 0, none⟩) S.length c, .int .i64 0] ∧ W'.heap.size ≤ R ∧ SpsAt S R w' ∧ Below W'.heap.size W' w') from by obtain ⟨R, c, h1, h2⟩ := h; exact ⟨_, h1, R, c, rfl, h2⟩))
  have HRG := Lib.hid hrg
  clear h96 hrg HFI HCA HFEW HRI htl hmul hcl
  obtain ⟨z1, hz1⟩ : ∃ z, (ce == 0) = z := ⟨_, rfl⟩
  cases z1
  ·
    skip
    go_quiet (fail)
    go_upto_region 11 with fail
    refine region_stepsRT (S := fun W' => Below w5.heap.size w5 W') (U := ULc (fun q' => match q' with | 0 => .slice ad l.length cl | 1 => .slice wd w.length cw | 2 => .slice (some ⟨sg, so, none⟩) S.length sc | 3 => .pointer (some ⟨sg, so, none⟩) | 4 => .pointer (some ⟨sg, so, none⟩) | 5 => .int .i64 (a : Int) | 6 => .slice (some ⟨sg, so, none⟩) S.length sc | 7 => .pointer (some ⟨sg, so, none⟩) | 8 => .pointer (some ⟨sg, so + 1, none⟩) | 9 => .int .i64 (b : Int) | 10 => .slice SA (b - a) (cw - a) | _ => undef)) (V := fun _ _ _ => True) (m := 11) (n := 11) (r := 6) rfl (by kernel_rfl) (fun _ _ hb hs => hs.trans (hb.mono hs.size)) (fun _ _ _ _ _ _ => trivial) (by kernel_rfl) ((below_drN (below_drN (Below.refl _ _) _) _).drew) ?_
    simp only [List.size_toArray, List.length_cons, List.length_nil, Nat.reduceAdd, Array.replicate_succ, Array.replicate_zero, List.push_toArray, List.nil_append, List.cons_append]
    refine AnyRT.step (m := 11) (i := 0) (d := some 114) [0] rfl rfl (by kernel_rfl) (by kernel_rfl) (by kernel_rfl) (by kernel_rfl) (by kernel_rfl) ?_ ?_ ?_
    · exact ⟨_, rfl⟩
    · refine StepsR.yield (.slice ad l.length cl) rfl (by kernel_rfl) (fun w' hS hD => ⟨?_, trivial⟩)
      clear hS hD; go_simp
      try rfl
    intro v' hv' a' ha'
    have hv' : .slice ad l.length cl = v' := Eq.symm hv'
    subst hv'
    simp only [Act.put, List.setIfInBounds_toArray, List.set_cons_zero, List.set_cons_succ] at ha'
    subst ha'
    refine AnyRT.step (m := 11) (i := 1) (d := some 115) [10, 1] rfl rfl (by kernel_rfl) (by kernel_rfl) (by kernel_rfl) (by kernel_rfl) (by kernel_rfl) ?_ ?_ ?_
    · exact ⟨_, rfl⟩
    · refine StepsR.yield (.slice wd w.length cw) rfl (by kernel_rfl) (fun w' hS hD => ⟨?_, trivial⟩)
      clear hS hD; go_simp
      try rfl
    intro v' hv' a' ha'
    have hv' : .slice wd w.length cw = v' := Eq.symm hv'
    subst hv'
    simp only [Act.put, List.setIfInBounds_toArray, List.set_cons_zero, List.set_cons_succ] at ha'
    subst ha'
    refine AnyRT.step (m := 11) (i := 2) (d := some 116) [10, 5, 4, 3, 2] rfl rfl (by kernel_rfl) (by kernel_rfl) (by kernel_rfl) (by kernel_rfl) (by kernel_rfl) ?_ ?_ ?_
    · exact ⟨_, rfl⟩
    · refine StepsR.yield (.slice (some ⟨sg, so, none⟩) S.length sc) rfl (by kernel_rfl) (fun w' hS hD => ⟨?_, trivial⟩)
      clear hS hD; go_simp
      try rfl
    intro v' hv' a' ha'
    have hv' : .slice (some ⟨sg, so, none⟩) S.length sc = v' := Eq.symm hv'
    subst hv'
    simp only [Act.put, List.setIfInBounds_toArray, List.set_cons_zero, List.set_cons_succ] at ha'
    subst ha'
    refine AnyRT.step (m := 11) (i := 3) (d := some 117) [10, 5, 4, 3] rfl rfl (by kernel_rfl) (by kernel_rfl) (by kernel_rfl) (by kernel_rfl) (by kernel_rfl) ?_ ?_ ?_
    · exact ⟨_, rfl⟩
    · refine StepsR.yield (.pointer (some ⟨sg, so, none⟩)) rfl (by kernel_rfl) (fun w' hS hD => ⟨?_, trivial⟩)
      clear hS hD; go_simp
      try rfl
    intro v' hv' a' ha'
    have hv' : .pointer (some ⟨sg, so, none⟩) = v' := Eq.symm hv'
    subst hv'
    simp only [Act.put, List.setIfInBounds_toArray, List.set_cons_zero, List.set_cons_succ] at ha'
    subst ha'
    refine AnyRT.step (m := 11) (i := 4) (d := some 118) [10, 5, 4] rfl rfl (by kernel_rfl) (by kernel_rfl) (by kernel_rfl) (by kernel_rfl) (by kernel_rfl) ?_ ?_ ?_
    · exact ⟨_, rfl⟩
    · refine StepsR.yield (.pointer (some ⟨sg, so, none⟩)) rfl (by kernel_rfl) (fun w' hS hD => ⟨?_, trivial⟩)
      clear hS hD; go_simp
      try rfl
    intro v' hv' a' ha'
    have hv' : .pointer (some ⟨sg, so, none⟩) = v' := Eq.symm hv'
    subst hv'
    simp only [Act.put, List.setIfInBounds_toArray, List.set_cons_zero, List.set_cons_succ] at ha'
    subst ha'
    refine AnyRT.step (m := 11) (i := 5) (d := some 119) [10, 5] rfl rfl (by kernel_rfl) (by kernel_rfl) (by kernel_rfl) (by kernel_rfl) (by kernel_rfl) ?_ ?_ ?_
    · exact ⟨_, rfl⟩
    · refine StepsR.yield (.int .i64 (a : Int)) rfl (by kernel_rfl) (fun w' hS hD => ⟨?_, trivial⟩)
      obtain ⟨s0, s1⟩ := HS7.out w' hS; clear hS hD; go_simp
      try rfl
    intro v' hv' a' ha'
    have hv' : .int .i64 (a : Int) = v' := Eq.symm hv'
    subst hv'
    simp only [Act.put, List.setIfInBounds_toArray, List.set_cons_zero, List.set_cons_succ] at ha'
    subst ha'
    refine AnyRT.step (m := 11) (i := 6) (d := some 120) [10, 9, 8, 7, 6] rfl rfl (by kernel_rfl) (by kernel_rfl) (by kernel_rfl) (by kernel_rfl) (by kernel_rfl) ?_ ?_ ?_
    · exact ⟨_, rfl⟩
    · refine StepsR.yield (.slice (some ⟨sg, so, none⟩) S.length sc) rfl (by kernel_rfl) (fun w' hS hD => ⟨?_, trivial⟩)
      clear hS hD; go_simp
      try rfl
    intro v' hv' a' ha'
    have hv' : .slice (some ⟨sg, so, none⟩) S.length sc = v' := Eq.symm hv'
    subst hv'
    simp only [Act.put, List.setIfInBounds_toArray, List.set_cons_zero, List.set_cons_succ] at ha'
    subst ha'
    refine AnyRT.step (m := 11) (i := 7) (d := some 121) [10, 9, 8, 7] rfl rfl (by kernel_rfl) (by kernel_rfl) (by kernel_rfl) (by kernel_rfl) (by kernel_rfl) ?_ ?_ ?_
    · exact ⟨_, rfl⟩
    · refine StepsR.yield (.pointer (some ⟨sg, so, none⟩)) rfl (by kernel_rfl) (fun w' hS hD => ⟨?_, trivial⟩)
      clear hS hD; go_simp
      try rfl
    intro v' hv' a' ha'
    have hv' : .pointer (some ⟨sg, so, none⟩) = v' := Eq.symm hv'
    subst hv'
    simp only [Act.put, List.setIfInBounds_toArray, List.set_cons_zero, List.set_cons_succ] at ha'
    subst ha'
    refine AnyRT.step (m := 11) (i := 8) (d := some 122) [10, 9, 8] rfl rfl (by kernel_rfl) (by kernel_rfl) (by kernel_rfl) (by kernel_rfl) (by kernel_rfl) ?_ ?_ ?_
    · exact ⟨_, rfl⟩
    · refine StepsR.yield (.pointer (some ⟨sg, so + 1, none⟩)) rfl (by kernel_rfl) (fun w' hS hD => ⟨?_, trivial⟩)
      clear hS hD; go_simp
      try rfl
    intro v' hv' a' ha'
    have hv' : .pointer (some ⟨sg, so + 1, none⟩) = v' := Eq.symm hv'
    subst hv'
    simp only [Act.put, List.setIfInBounds_toArray, List.set_cons_zero, List.set_cons_succ] at ha'
    subst ha'
    refine AnyRT.step (m := 11) (i := 9) (d := some 123) [10, 9] rfl rfl (by kernel_rfl) (by kernel_rfl) (by kernel_rfl) (by kernel_rfl) (by kernel_rfl) ?_ ?_ ?_
    · exact ⟨_, rfl⟩
    · refine StepsR.yield (.int .i64 (b : Int)) rfl (by kernel_rfl) (fun w' hS hD => ⟨?_, trivial⟩)
      obtain ⟨s0, s1⟩ := HS7.out w' hS; clear hS hD; go_simp
      try rfl
    intro v' hv' a' ha'
    have hv' : .int .i64 (b : Int) = v' := Eq.symm hv'
    subst hv'
    simp only [Act.put, List.setIfInBounds_toArray, List.set_cons_zero, List.set_cons_succ] at ha'
    subst ha'
    refine AnyRT.step (m := 11) (i := 10) (d := some 124) [10] rfl rfl (by kernel_rfl) (by kernel_rfl) (by kernel_rfl) (by kernel_rfl) (by kernel_rfl) ?_ ?_ ?_
    · exact ⟨_, rfl⟩
    · refine StepsR.yield (.slice SA (b - a) (cw - a)) rfl (by kernel_rfl) (fun w' hS hD => ⟨?_, trivial⟩)
      have kk := HSLI.out w'; clear hS hD; go_simp
      try rfl
    intro v' hv' a' ha'
    have hv' : .slice SA (b - a) (cw - a) = v' := Eq.symm hv'
    subst hv'
    simp only [Act.put, List.setIfInBounds_toArray, List.set_cons_zero, List.set_cons_succ] at ha'
    subst ha'
    refine AnyRT.last (by kernel_rfl) (fun wx hS hF => ?_)
    clear hF
    have HB9 := Lib.hid (HB5.out.trans (hS.mono HB5.out.size))
    refine wpAny_one (i := 11) (o := ⟨some 125, _, _, _, _, _⟩) (by kernel_rfl) rfl (by kernel_rfl) ?_
    refine wp_callY (o := ⟨some 125, _, _, _, _, _⟩) (by go_simp) (HMA.out wx HB9.out) ?_
    rintro v' wq ⟨R, rc, rfl, hRs, hsps, hbq⟩
    have hRw : w5.heap.size ≤ R := Nat.le_trans hS.size hRs
    have HQ := Lib.hid (hS.trans (hbq.mono hS.size))
    have HSS := Lib.hid hsps
    have hsR : sg < R := Nat.lt_of_lt_of_le hsg hRw
    clear hS hRs hsps hbq HB9 HMA s0 s1 x0 x1 HCV
    simp only [Act.put, List.setIfInBounds_toArray, List.set_cons_zero, List.set_cons_succ]
    refine AnyS.any (S := fun W => W = wq) _ _ _ ?_ _ rfl
    refine AnyS.next (i := 12) (d := some 113) (v := .tuple #[.slice (some ⟨R, 0, none⟩) S.length rc, .int .i64 0]) rfl rfl (by kernel_rfl) (by kernel_rfl) (by kernel_rfl) (StepsIf.yield (by kernel_rfl) (fun w' hS => by clear hS; go_simp)) ?_
    intro a' ha'
    simp only [Act.put, List.setIfInBounds_toArray, List.set_cons_zero, List.set_cons_succ] at ha'
    subst ha'
    refine AnyS.next (i := 13) (d := some 126) (v := .slice (some ⟨R, 0, none⟩) S.length rc) rfl rfl (by kernel_rfl) (by kernel_rfl) (by kernel_rfl) (StepsIf.yield (by kernel_rfl) (fun w' hS => by clear hS; go_simp)) ?_
    intro a' ha'
    simp only [Act.put, List.setIfInBounds_toArray, List.set_cons_zero, List.set_cons_succ] at ha'
    subst ha'
    refine AnyS.next (i := 14) (d := some 127) (v := .int .i64 0) rfl rfl (by kernel_rfl) (by kernel_rfl) (by kernel_rfl) (StepsIf.yield (by kernel_rfl) (fun w' hS => by clear hS; go_simp)) ?_
    intro a' ha'
    simp only [Act.put, List.setIfInBounds_toArray, List.set_cons_zero, List.set_cons_succ] at ha'
    subst ha'
    refine AnyS.next (i := 15) (d := some 11) (v := .slice (some ⟨R, 0, none⟩) S.length rc) rfl rfl (by kernel_rfl) (by kernel_rfl) (by kernel_rfl) (StepsIf.yield (by kernel_rfl) (fun w' hS => by clear hS; go_simp)) ?_
    intro a' ha'
    simp only [Act.put, List.setIfInBounds_toArray, List.set_cons_zero, List.set_cons_succ] at ha'
    subst ha'
    refine AnyS.next (i := 16) (d := some 12) (v := .int .i64 0) rfl rfl (by kernel_rfl) (by kernel_rfl) (by kernel_rfl) (StepsIf.yield (by kernel_rfl) (fun w' hS => by clear hS; go_simp)) ?_
    intro a' ha'
    simp only [Act.put, List.setIfInBounds_toArray, List.set_cons_zero, List.set_cons_succ] at ha'
    subst ha'
    refine AnyS.done (by kernel_rfl) ?_ _
    rintro w12 rfl
    have m1 : ((S.length : Int) != (S.length : Int)) = false := by rw [bne_eq_false_iff_eq]
    go_wp2_with fail
    go_loopw [13] (fun vi wr => ∃ i : Nat, i ≤ S.length ∧ vi = .int .i64 i ∧ SpsAt ((S.take i).map (shz a) ++ S.drop i) R wr ∧ Below w5.heap.size w5 wr) (fun vi _ => S.length - (intOf vi).toNat)
    case atStart => exact ⟨0, Nat.zero_le _, rfl, HSS.out, HQ.out⟩
    case round =>
      obtain ⟨i, hi, rfl, hsp, hB⟩ := hrel
      clear HSS HQ
      by_cases hlt : i < S.length
      · have p2 : decide (i < S.length) = true := decide_eq_true hlt
        have p3 : decide ((i : Int) < (S.length : Int)) = true := by rw [decide_eq_true_iff]; omega
        have p4 : (i : Int) < (S.length : Int) := by omega
        have xi : IntKind.i64.wrap ((i : Int) + 1) = (i : Int) + 1 := IntWalk.i64_in _ (by omega)
        obtain ⟨u1, u2⟩ := upd_at (shz a) S i hlt
        obtain ⟨r1, r2, r3, r4⟩ := HRG.out i hlt
        have hol : ((S.take i).map (shz a) ++ S.drop i).length = S.length := by
          rw [List.length_append, List.length_map, List.length_take, List.length_drop]; omega
        generalize (S.take i).map (shz a) ++ S.drop i = O at *
        obtain ⟨⟨y0, y1⟩, hy⟩ : ∃ y, S[i] = y := ⟨_, rfl⟩
        rw [hy] at u1 u2 r1 r2 r3 r4
        rw [List.getElem?_eq_getElem (by omega)] at u1
        have HU2 := Lib.hid u2
        have HSP := Lib.hid hsp
        have HBq := Lib.hid hB
        have HOI := Lib.hid (Option.some.inj u1)
        simp only at r1 r2 r3 r4
        have hRl := hsp.lt
        obtain ⟨c0, c1⟩ := hsp.cell i (by omega)
        rw [HOI.out] at c0 c1
        simp only at c0 c1
        clear u1 u2 hsp hB hy
        by_cases hy0 : 0 ≤ y0
        · have t1 : decide (0 ≤ y0) = true := decide_eq_true hy0
          have xa : IntKind.i64.wrap (y0 + (a : Int)) = y0 + (a : Int) := IntWalk.i64_in _ (by omega)
          have xb : IntKind.i64.wrap (y1 + (a : Int)) = y1 + (a : Int) := IntWalk.i64_in _ (by omega)
          have HFA := Lib.hid (show ∀ W', Below wr.heap.size wr W' → ((W'.cell? ⟨R, i * 2, none⟩ = some (.int .i64 y0) ∧ W'.cell? ⟨R, i * 2 + 1, none⟩ = some (.int .i64 y1)) ∧ W'.cell? ⟨sg, so, none⟩ = some (.int .i64 (a : Int))) from fun W' hW => by
            have g1 := (HSP.out.below hW).cell i (by omega)
            rw [HOI.out] at g1
            exact ⟨g1, (HS7.out W' (HBq.out.trans (hW.mono HBq.out.size))).1⟩)
          go_upto_region 18 with fail
          clear c0 c1
          refine region_stepsRT (S := fun W' => Below wr.heap.size wr W') (U := ULc (fun q' => match q' with | 0 => .slice (some ⟨R, 0, none⟩) S.length rc | 1 => .int .i64 (i : Int) | 2 => .slice (some ⟨R, 0, none⟩) S.length rc | 3 => .int .i64 (i : Int) | 4 => .pointer (some ⟨R, i * 2, none⟩) | 5 => .pointer (some ⟨R, i * 2, none⟩) | 6 => .int .i64 y0 | 7 => .slice (some ⟨sg, so, none⟩) S.length sc | 8 => .pointer (some ⟨sg, so, none⟩) | 9 => .pointer (some ⟨sg, so, none⟩) | 10 => .int .i64 (a : Int) | 11 => .int .i64 (y0 + (a : Int)) | 12 => .slice (some ⟨R, 0, none⟩) S.length rc | 13 => .int .i64 (i : Int) | 14 => .pointer (some ⟨R, i * 2, none⟩) | 15 => .pointer (some ⟨R, i * 2 + 1, none⟩) | 16 => .int .i64 y1 | 17 => .slice (some ⟨sg, so, none⟩) S.length sc | 18 => .pointer (some ⟨sg, so, none⟩) | 19 => .pointer (some ⟨sg, so, none⟩) | 20 => .int .i64 (a : Int) | 21 => .int .i64 (y1 + (a : Int)) | 22 => .agg #[.int .i64 (y0 + (a : Int)), .int .i64 (y1 + (a : Int))] | 23 => .pointer (some ⟨R, i * 2, none⟩) | _ => undef)) (V := fun _ _ _ => True) (m := 24) (n := 24) (r := 1) rfl (by kernel_rfl) (fun _ _ hb hs => hs.trans (hb.mono hs.size)) (fun _ _ _ _ _ _ => trivial) (by kernel_rfl) ((Below.refl _ _).drew) ?_
          simp only [List.size_toArray, List.length_cons, List.length_nil, Nat.reduceAdd, Array.replicate_succ, Array.replicate_zero, List.push_toArray, List.nil_append, List.cons_append]
          refine AnyRT.step (m := 24) (i := 0) (d := some 149) [23, 0] rfl rfl (by kernel_rfl) (by kernel_rfl) (by kernel_rfl) (by kernel_rfl) (by kernel_rfl) ?_ ?_ ?_
          · exact ⟨_, rfl⟩
          · refine StepsR.yield (.slice (some ⟨R, 0, none⟩) S.length rc) rfl (by kernel_rfl) (fun w' hS hD => ⟨?_, trivial⟩)
            clear hS hD; go_simp
            try rfl
          intro v' hv' a' ha'
          have hv' : .slice (some ⟨R, 0, none⟩) S.length rc = v' := Eq.symm hv'
          subst hv'
          simp only [Act.put, List.setIfInBounds_toArray, List.set_cons_zero, List.set_cons_succ] at ha'
          subst ha'
          refine AnyRT.step (m := 24) (i := 1) (d := some 150) [23, 1] rfl rfl (by kernel_rfl) (by kernel_rfl) (by kernel_rfl) (by kernel_rfl) (by kernel_rfl) ?_ ?_ ?_
          · exact ⟨_, rfl⟩
          · refine StepsR.yield (.int .i64 (i : Int)) rfl (by kernel_rfl) (fun w' hS hD => ⟨?_, trivial⟩)
            clear hS hD; go_simp
            try rfl
          intro v' hv' a' ha'
          have hv' : .int .i64 (i : Int) = v' := Eq.symm hv'
          subst hv'
          simp only [Act.put, List.setIfInBounds_toArray, List.set_cons_zero, List.set_cons_succ] at ha'
          subst ha'
          refine AnyRT.step (m := 24) (i := 2) (d := some 151) [22, 11, 6, 5, 4, 2] rfl rfl (by kernel_rfl) (by kernel_rfl) (by kernel_rfl) (by kernel_rfl) (by kernel_rfl) ?_ ?_ ?_
          · exact ⟨_, rfl⟩
          · refine StepsR.yield (.slice (some ⟨R, 0, none⟩) S.length rc) rfl (by kernel_rfl) (fun w' hS hD => ⟨?_, trivial⟩)
            clear hS hD; go_simp
            try rfl
          intro v' hv' a' ha'
          have hv' : .slice (some ⟨R, 0, none⟩) S.length rc = v' := Eq.symm hv'
          subst hv'
          simp only [Act.put, List.setIfInBounds_toArray, List.set_cons_zero, List.set_cons_succ] at ha'
          subst ha'
          refine AnyRT.step (m := 24) (i := 3) (d := some 152) [22, 11, 6, 5, 4, 3] rfl rfl (by kernel_rfl) (by kernel_rfl) (by kernel_rfl) (by kernel_rfl) (by kernel_rfl) ?_ ?_ ?_
          · exact ⟨_, rfl⟩
          · refine StepsR.yield (.int .i64 (i : Int)) rfl (by kernel_rfl) (fun w' hS hD => ⟨?_, trivial⟩)
            clear hS hD; go_simp
            try rfl
          intro v' hv' a' ha'
          have hv' : .int .i64 (i : Int) = v' := Eq.symm hv'
          subst hv'
          simp only [Act.put, List.setIfInBounds_toArray, List.set_cons_zero, List.set_cons_succ] at ha'
          subst ha'
          refine AnyRT.step (m := 24) (i := 4) (d := some 153) [22, 11, 6, 5, 4] rfl rfl (by kernel_rfl) (by kernel_rfl) (by kernel_rfl) (by kernel_rfl) (by kernel_rfl) ?_ ?_ ?_
          · exact ⟨_, rfl⟩
          · refine StepsR.yield (.pointer (some ⟨R, i * 2, none⟩)) rfl (by kernel_rfl) (fun w' hS hD => ⟨?_, trivial⟩)
            clear hS hD; go_simp
            try rfl
          intro v' hv' a' ha'
          have hv' : .pointer (some ⟨R, i * 2, none⟩) = v' := Eq.symm hv'
          subst hv'
          simp only [Act.put, List.setIfInBounds_toArray, List.set_cons_zero, List.set_cons_succ] at ha'
          subst ha'
          refine AnyRT.step (m := 24) (i := 5) (d := some 154) [22, 11, 6, 5] rfl rfl (by kernel_rfl) (by kernel_rfl) (by kernel_rfl) (by kernel_rfl) (by kernel_rfl) ?_ ?_ ?_
          · exact ⟨_, rfl⟩
          · refine StepsR.yield (.pointer (some ⟨R, i * 2, none⟩)) rfl (by kernel_rfl) (fun w' hS hD => ⟨?_, trivial⟩)
            clear hS hD; go_simp
            try rfl
          intro v' hv' a' ha'
          have hv' : .pointer (some ⟨R, i * 2, none⟩) = v' := Eq.symm hv'
          subst hv'
          simp only [Act.put, List.setIfInBounds_toArray, List.set_cons_zero, List.set_cons_succ] at ha'
          subst ha'
          refine AnyRT.step (m := 24) (i := 6) (d := some 155) [22, 11, 6] rfl rfl (by kernel_rfl) (by kernel_rfl) (by kernel_rfl) (by kernel_rfl) (by kernel_rfl) ?_ ?_ ?_
          · exact ⟨_, rfl⟩
          · refine StepsR.yield (.int .i64 y0) rfl (by kernel_rfl) (fun w' hS hD => ⟨?_, trivial⟩)
            obtain ⟨⟨c0, c1⟩, s0⟩ := HFA.out w' hS; clear hS hD; go_simp
            try rfl
          intro v' hv' a' ha'
          have hv' : .int .i64 y0 = v' := Eq.symm hv'
          subst hv'
          simp only [Act.put, List.setIfInBounds_toArray, List.set_cons_zero, List.set_cons_succ] at ha'
          subst ha'
          refine AnyRT.step (m := 24) (i := 7) (d := some 156) [22, 11, 10, 9, 8, 7] rfl rfl (by kernel_rfl) (by kernel_rfl) (by kernel_rfl) (by kernel_rfl) (by kernel_rfl) ?_ ?_ ?_
          · exact ⟨_, rfl⟩
          · refine StepsR.yield (.slice (some ⟨sg, so, none⟩) S.length sc) rfl (by kernel_rfl) (fun w' hS hD => ⟨?_, trivial⟩)
            clear hS hD; go_simp
            try rfl
          intro v' hv' a' ha'
          have hv' : .slice (some ⟨sg, so, none⟩) S.length sc = v' := Eq.symm hv'
          subst hv'
          simp only [Act.put, List.setIfInBounds_toArray, List.set_cons_zero, List.set_cons_succ] at ha'
          subst ha'
          refine AnyRT.step (m := 24) (i := 8) (d := some 157) [22, 11, 10, 9, 8] rfl rfl (by kernel_rfl) (by kernel_rfl) (by kernel_rfl) (by kernel_rfl) (by kernel_rfl) ?_ ?_ ?_
          · exact ⟨_, rfl⟩
          · refine StepsR.yield (.pointer (some ⟨sg, so, none⟩)) rfl (by kernel_rfl) (fun w' hS hD => ⟨?_, trivial⟩)
            clear hS hD; go_simp
            try rfl
          intro v' hv' a' ha'
          have hv' : .pointer (some ⟨sg, so, none⟩) = v' := Eq.symm hv'
          subst hv'
          simp only [Act.put, List.setIfInBounds_toArray, List.set_cons_zero, List.set_cons_succ] at ha'
          subst ha'
          refine AnyRT.step (m := 24) (i := 9) (d := some 158) [22, 11, 10, 9] rfl rfl (by kernel_rfl) (by kernel_rfl) (by kernel_rfl) (by kernel_rfl) (by kernel_rfl) ?_ ?_ ?_
          · exact ⟨_, rfl⟩
          · refine StepsR.yield (.pointer (some ⟨sg, so, none⟩)) rfl (by kernel_rfl) (fun w' hS hD => ⟨?_, trivial⟩)
            clear hS hD; go_simp
            try rfl
          intro v' hv' a' ha'
          have hv' : .pointer (some ⟨sg, so, none⟩) = v' := Eq.symm hv'
          subst hv'
          simp only [Act.put, List.setIfInBounds_toArray, List.set_cons_zero, List.set_cons_succ] at ha'
          subst ha'
          refine AnyRT.step (m := 24) (i := 10) (d := some 159) [22, 11, 10] rfl rfl (by kernel_rfl) (by kernel_rfl) (by kernel_rfl) (by kernel_rfl) (by kernel_rfl) ?_ ?_ ?_
          · exact ⟨_, rfl⟩
          · refine StepsR.yield (.int .i64 (a : Int)) rfl (by kernel_rfl) (fun w' hS hD => ⟨?_, trivial⟩)
            obtain ⟨⟨c0, c1⟩, s0⟩ := HFA.out w' hS; clear hS hD; go_simp
            try rfl
          intro v' hv' a' ha'
          have hv' : .int .i64 (a : Int) = v' := Eq.symm hv'
          subst hv'
          simp only [Act.put, List.setIfInBounds_toArray, List.set_cons_zero, List.set_cons_succ] at ha'
          subst ha'
          refine AnyRT.step (m := 24) (i := 11) (d := some 160) [22, 11] rfl rfl (by kernel_rfl) (by kernel_rfl) (by kernel_rfl) (by kernel_rfl) (by kernel_rfl) ?_ ?_ ?_
          · exact ⟨_, rfl⟩
          · refine StepsR.yield (.int .i64 (y0 + (a : Int))) rfl (by kernel_rfl) (fun w' hS hD => ⟨?_, trivial⟩)
            clear hS hD; go_simp
            try rfl
          intro v' hv' a' ha'
          have hv' : .int .i64 (y0 + (a : Int)) = v' := Eq.symm hv'
          subst hv'
          simp only [Act.put, List.setIfInBounds_toArray, List.set_cons_zero, List.set_cons_succ] at ha'
          subst ha'
          refine AnyRT.step (m := 24) (i := 12) (d := some 161) [22, 21, 16, 15, 14, 12] rfl rfl (by kernel_rfl) (by kernel_rfl) (by kernel_rfl) (by kernel_rfl) (by kernel_rfl) ?_ ?_ ?_
          · exact ⟨_, rfl⟩
          · refine StepsR.yield (.slice (some ⟨R, 0, none⟩) S.length rc) rfl (by kernel_rfl) (fun w' hS hD => ⟨?_, trivial⟩)
            clear hS hD; go_simp
            try rfl
          intro v' hv' a' ha'
          have hv' : .slice (some ⟨R, 0, none⟩) S.length rc = v' := Eq.symm hv'
          subst hv'
          simp only [Act.put, List.setIfInBounds_toArray, List.set_cons_zero, List.set_cons_succ] at ha'
          subst ha'
          refine AnyRT.step (m := 24) (i := 13) (d := some 162) [22, 21, 16, 15, 14, 13] rfl rfl (by kernel_rfl) (by kernel_rfl) (by kernel_rfl) (by kernel_rfl) (by kernel_rfl) ?_ ?_ ?_
          · exact ⟨_, rfl⟩
          · refine StepsR.yield (.int .i64 (i : Int)) rfl (by kernel_rfl) (fun w' hS hD => ⟨?_, trivial⟩)
            clear hS hD; go_simp
            try rfl
          intro v' hv' a' ha'
          have hv' : .int .i64 (i : Int) = v' := Eq.symm hv'
          subst hv'
          simp only [Act.put, List.setIfInBounds_toArray, List.set_cons_zero, List.set_cons_succ] at ha'
          subst ha'
          refine AnyRT.step (m := 24) (i := 14) (d := some 163) [22, 21, 16, 15, 14] rfl rfl (by kernel_rfl) (by kernel_rfl) (by kernel_rfl) (by kernel_rfl) (by kernel_rfl) ?_ ?_ ?_
          · exact ⟨_, rfl⟩
          · refine StepsR.yield (.pointer (some ⟨R, i * 2, none⟩)) rfl (by kernel_rfl) (fun w' hS hD => ⟨?_, trivial⟩)
            clear hS hD; go_simp
            try rfl
          intro v' hv' a' ha'
          have hv' : .pointer (some ⟨R, i * 2, none⟩) = v' := Eq.symm hv'
          subst hv'
          simp only [Act.put, List.setIfInBounds_toArray, List.set_cons_zero, List.set_cons_succ] at ha'
          subst ha'
          refine AnyRT.step (m := 24) (i := 15) (d := some 164) [22, 21, 16, 15] rfl rfl (by kernel_rfl) (by kernel_rfl) (by kernel_rfl) (by kernel_rfl) (by kernel_rfl) ?_ ?_ ?_
          · exact ⟨_, rfl⟩
          · refine StepsR.yield (.pointer (some ⟨R, i * 2 + 1, none⟩)) rfl (by kernel_rfl) (fun w' hS hD => ⟨?_, trivial⟩)
            clear hS hD; go_simp
            try rfl
          intro v' hv' a' ha'
          have hv' : .pointer (some ⟨R, i * 2 + 1, none⟩) = v' := Eq.symm hv'
          subst hv'
          simp only [Act.put, List.setIfInBounds_toArray, List.set_cons_zero, List.set_cons_succ] at ha'
          subst ha'
          refine AnyRT.step (m := 24) (i := 16) (d := some 165) [22, 21, 16] rfl rfl (by kernel_rfl) (by kernel_rfl) (by kernel_rfl) (by kernel_rfl) (by kernel_rfl) ?_ ?_ ?_
          · exact ⟨_, rfl⟩
          · refine StepsR.yield (.int .i64 y1) rfl (by kernel_rfl) (fun w' hS hD => ⟨?_, trivial⟩)
            obtain ⟨⟨c0, c1⟩, s0⟩ := HFA.out w' hS; clear hS hD; go_simp
            try rfl
          intro v' hv' a' ha'
          have hv' : .int .i64 y1 = v' := Eq.symm hv'
          subst hv'
          simp only [Act.put, List.setIfInBounds_toArray, List.set_cons_zero, List.set_cons_succ] at ha'
          subst ha'
          refine AnyRT.step (m := 24) (i := 17) (d := some 166) [22, 21, 20, 19, 18, 17] rfl rfl (by kernel_rfl) (by kernel_rfl) (by kernel_rfl) (by kernel_rfl) (by kernel_rfl) ?_ ?_ ?_
          · exact ⟨_, rfl⟩
          · refine StepsR.yield (.slice (some ⟨sg, so, none⟩) S.length sc) rfl (by kernel_rfl) (fun w' hS hD => ⟨?_, trivial⟩)
            clear hS hD; go_simp
            try rfl
          intro v' hv' a' ha'
          have hv' : .slice (some ⟨sg, so, none⟩) S.length sc = v' := Eq.symm hv'
          subst hv'
          simp only [Act.put, List.setIfInBounds_toArray, List.set_cons_zero, List.set_cons_succ] at ha'
          subst ha'
          refine AnyRT.step (m := 24) (i := 18) (d := some 167) [22, 21, 20, 19, 18] rfl rfl (by kernel_rfl) (by kernel_rfl) (by kernel_rfl) (by kernel_rfl) (by kernel_rfl) ?_ ?_ ?_
          · exact ⟨_, rfl⟩
          · refine StepsR.yield (.pointer (some ⟨sg, so, none⟩)) rfl (by kernel_rfl) (fun w' hS hD => ⟨?_, trivial⟩)
            clear hS hD; go_simp
            try rfl
          intro v' hv' a' ha'
          have hv' : .pointer (some ⟨sg, so, none⟩) = v' := Eq.symm hv'
          subst hv'
          simp only [Act.put, List.setIfInBounds_toArray, List.set_cons_zero, List.set_cons_succ] at ha'
          subst ha'
          refine AnyRT.step (m := 24) (i := 19) (d := some 168) [22, 21, 20, 19] rfl rfl (by kernel_rfl) (by kernel_rfl) (by kernel_rfl) (by kernel_rfl) (by kernel_rfl) ?_ ?_ ?_
          · exact ⟨_, rfl⟩
          · refine StepsR.yield (.pointer (some ⟨sg, so, none⟩)) rfl (by kernel_rfl) (fun w' hS hD => ⟨?_, trivial⟩)
            clear hS hD; go_simp
            try rfl
          intro v' hv' a' ha'
          have hv' : .pointer (some ⟨sg, so, none⟩) = v' := Eq.symm hv'
          subst hv'
          simp only [Act.put, List.setIfInBounds_toArray, List.set_cons_zero, List.set_cons_succ] at ha'
          subst ha'
          refine AnyRT.step (m := 24) (i := 20) (d := some 169) [22, 21, 20] rfl rfl (by kernel_rfl) (by kernel_rfl) (by kernel_rfl) (by kernel_rfl) (by kernel_rfl) ?_ ?_ ?_
          · exact ⟨_, rfl⟩
          · refine StepsR.yield (.int .i64 (a : Int)) rfl (by kernel_rfl) (fun w' hS hD => ⟨?_, trivial⟩)
            obtain ⟨⟨c0, c1⟩, s0⟩ := HFA.out w' hS; clear hS hD; go_simp
            try rfl
          intro v' hv' a' ha'
          have hv' : .int .i64 (a : Int) = v' := Eq.symm hv'
          subst hv'
          simp only [Act.put, List.setIfInBounds_toArray, List.set_cons_zero, List.set_cons_succ] at ha'
          subst ha'
          refine AnyRT.step (m := 24) (i := 21) (d := some 170) [22, 21] rfl rfl (by kernel_rfl) (by kernel_rfl) (by kernel_rfl) (by kernel_rfl) (by kernel_rfl) ?_ ?_ ?_
          · exact ⟨_, rfl⟩
          · refine StepsR.yield (.int .i64 (y1 + (a : Int))) rfl (by kernel_rfl) (fun w' hS hD => ⟨?_, trivial⟩)
            clear hS hD; go_simp
            try rfl
          intro v' hv' a' ha'
          have hv' : .int .i64 (y1 + (a : Int)) = v' := Eq.symm hv'
          subst hv'
          simp only [Act.put, List.setIfInBounds_toArray, List.set_cons_zero, List.set_cons_succ] at ha'
          subst ha'
          refine AnyRT.step (m := 24) (i := 22) (d := some 171) [22] rfl rfl (by kernel_rfl) (by kernel_rfl) (by kernel_rfl) (by kernel_rfl) (by kernel_rfl) ?_ ?_ ?_
          · exact ⟨_, rfl⟩
          · refine StepsR.yield (.agg #[.int .i64 (y0 + (a : Int)), .int .i64 (y1 + (a : Int))]) rfl (by kernel_rfl) (fun w' hS hD => ⟨?_, trivial⟩)
            clear hS hD; go_simp
            try rfl
          intro v' hv' a' ha'
          have hv' : .agg #[.int .i64 (y0 + (a : Int)), .int .i64 (y1 + (a : Int))] = v' := Eq.symm hv'
          subst hv'
          simp only [Act.put, List.setIfInBounds_toArray, List.set_cons_zero, List.set_cons_succ] at ha'
          subst ha'
          refine AnyRT.step (m := 24) (i := 23) (d := some 172) [23] rfl rfl (by kernel_rfl) (by kernel_rfl) (by kernel_rfl) (by kernel_rfl) (by kernel_rfl) ?_ ?_ ?_
          · exact ⟨_, rfl⟩
          · refine StepsR.yield (.pointer (some ⟨R, i * 2, none⟩)) rfl (by kernel_rfl) (fun w' hS hD => ⟨?_, trivial⟩)
            clear hS hD; go_simp
            try rfl
          intro v' hv' a' ha'
          have hv' : .pointer (some ⟨R, i * 2, none⟩) = v' := Eq.symm hv'
          subst hv'
          simp only [Act.put, List.setIfInBounds_toArray, List.set_cons_zero, List.set_cons_succ] at ha'
          subst ha'
          refine AnyRT.last (by kernel_rfl) (fun ws hS hF => ?_)
          clear hF
          have hsx := HSP.out.below hS
          have HSX := Lib.hid (hsx.set i (by omega) (y0 + a) (y1 + a))
          have HBX := Lib.hid (below_set (below_set (HBq.out.trans (hS.mono HBq.out.size)) hRw (i * 2) (.int .i64 (y0 + a))) hRw (i * 2 + 1) (.int .i64 (y1 + a)))
          obtain ⟨c0, c1⟩ := hsx.cell i (by omega)
          have f0 := hsx.fr (i * 2); have f1 := hsx.fr (i * 2 + 1)
          clear hsx hS
          refine wpAny_one (i := 24) (o := ⟨none, _, _, _, _, _⟩) (by kernel_rfl) rfl (by kernel_rfl) ?_
          go_simp
          refine wpAny_none (P := Tryd.prog) (by kernel_rfl) ?_
          try simp only [Act.put]
          clear c0 c1 f0 f1
          go_wp2_with fail
          go_roundw
          case rel => exact ⟨i + 1, by omega, rfl, by rw [HU2.out, show shz a (y0, y1) = (y0 + (a : Int), y1 + (a : Int)) from if_pos hy0]; exact HSX.out, HBX.out⟩
          case measure => simp [intOf]; omega
        · have t1 : decide (0 ≤ y0) = false := decide_eq_false hy0
          go_wp2_with fail
          go_roundw
          case rel =>
            refine ⟨i + 1, by omega, rfl, ?_, HBq.out⟩
            rw [HU2.out, show shz a (y0, y1) = (y0, y1) from if_neg hy0]
            have : O.set i (y0, y1) = O := by rw [← HOI.out, List.set_getElem_self]
            rw [this]
            exact HSP.out
          case measure => simp [intOf]; omega
      · obtain rfl : i = S.length := by omega
        rw [List.take_length, List.drop_length, List.append_nil, HS'.out] at hsp
        have HSP := Lib.hid (HSP5.out.below hB)
        have HBq := Lib.hid (HB5.out.trans (hB.mono HB5.out.size))
        have hspn := spanned_calls S' S' (by omega) (by omega) (some ⟨sg, so, none⟩) (some ⟨R, 0, none⟩) sc rc wr HSP.out hsp.at
        rw [decide_eq_true rfl, hSl] at hspn
        have HSPN := Lib.hid hspn
        clear hsp hB hspn
        go_wp2_with fail
        refine HSPN.out.mono ?_
        rintro e wt ⟨rfl, hbt⟩
        have HBt := Lib.hid (HBq.out.trans (hbt.mono HBq.out.size))
        clear hbt
        go_wp2_with fail
        refine (HSU.out _ HBt.out).mono ?_
        rintro e wu ⟨rfl, hbu⟩
        go_wp2_with fail
        go_ret
        exact ⟨rfl, HW1.out.trans ((HBt.out.trans (hbu.mono HBt.out.size)).mono HW1.out.size)⟩
  · have hce : ce = 0 := by rwa [beq_iff_eq] at hz1
    subst hce
    clear hz1
    cases cb
    ·
      skip
      go_quiet (fail)
      go_upto_region 11 with fail
      refine region_stepsRT (S := fun W' => Below w5.heap.size w5 W') (U := ULc (fun q' => match q' with | 0 => .slice ad l.length cl | 1 => .slice wd w.length cw | 2 => .slice (some ⟨sg, so, none⟩) S.length sc | 3 => .pointer (some ⟨sg, so, none⟩) | 4 => .pointer (some ⟨sg, so, none⟩) | 5 => .int .i64 (a : Int) | 6 => .slice (some ⟨sg, so, none⟩) S.length sc | 7 => .pointer (some ⟨sg, so, none⟩) | 8 => .pointer (some ⟨sg, so + 1, none⟩) | 9 => .int .i64 (b : Int) | 10 => .slice SA (b - a) (cw - a) | _ => undef)) (V := fun _ _ _ => True) (m := 11) (n := 11) (r := 6) rfl (by kernel_rfl) (fun _ _ hb hs => hs.trans (hb.mono hs.size)) (fun _ _ _ _ _ _ => trivial) (by kernel_rfl) ((below_drN (below_drN (Below.refl _ _) _) _).drew) ?_
      simp only [List.size_toArray, List.length_cons, List.length_nil, Nat.reduceAdd, Array.replicate_succ, Array.replicate_zero, List.push_toArray, List.nil_append, List.cons_append]
      refine AnyRT.step (m := 11) (i := 0) (d := some 114) [0] rfl rfl (by kernel_rfl) (by kernel_rfl) (by kernel_rfl) (by kernel_rfl) (by kernel_rfl) ?_ ?_ ?_
      · exact ⟨_, rfl⟩
      · refine StepsR.yield (.slice ad l.length cl) rfl (by kernel_rfl) (fun w' hS hD => ⟨?_, trivial⟩)
        clear hS hD; go_simp
        try rfl
      intro v' hv' a' ha'
      have hv' : .slice ad l.length cl = v' := Eq.symm hv'
      subst hv'
      simp only [Act.put, List.setIfInBounds_toArray, List.set_cons_zero, List.set_cons_succ] at ha'
      subst ha'
      refine AnyRT.step (m := 11) (i := 1) (d := some 115) [10, 1] rfl rfl (by kernel_rfl) (by kernel_rfl) (by kernel_rfl) (by kernel_rfl) (by kernel_rfl) ?_ ?_ ?_
      · exact ⟨_, rfl⟩
      · refine StepsR.yield (.slice wd w.length cw) rfl (by kernel_rfl) (fun w' hS hD => ⟨?_, trivial⟩)
        clear hS hD; go_simp
        try rfl
      intro v' hv' a' ha'
      have hv' : .slice wd w.length cw = v' := Eq.symm hv'
      subst hv'
      simp only [Act.put, List.setIfInBounds_toArray, List.set_cons_zero, List.set_cons_succ] at ha'
      subst ha'
      refine AnyRT.step (m := 11) (i := 2) (d := some 116) [10, 5, 4, 3, 2] rfl rfl (by kernel_rfl) (by kernel_rfl) (by kernel_rfl) (by kernel_rfl) (by kernel_rfl) ?_ ?_ ?_
      · exact ⟨_, rfl⟩
      · refine StepsR.yield (.slice (some ⟨sg, so, none⟩) S.length sc) rfl (by kernel_rfl) (fun w' hS hD => ⟨?_, trivial⟩)
        clear hS hD; go_simp
        try rfl
      intro v' hv' a' ha'
      have hv' : .slice (some ⟨sg, so, none⟩) S.length sc = v' := Eq.symm hv'
      subst hv'
      simp only [Act.put, List.setIfInBounds_toArray, List.set_cons_zero, List.set_cons_succ] at ha'
      subst ha'
      refine AnyRT.step (m := 11) (i := 3) (d := some 117) [10, 5, 4, 3] rfl rfl (by kernel_rfl) (by kernel_rfl) (by kernel_rfl) (by kernel_rfl) (by kernel_rfl) ?_ ?_ ?_
      · exact ⟨_, rfl⟩
      · refine StepsR.yield (.pointer (some ⟨sg, so, none⟩)) rfl (by kernel_rfl) (fun w' hS hD => ⟨?_, trivial⟩)
        clear hS hD; go_simp
        try rfl
      intro v' hv' a' ha'
      have hv' : .pointer (some ⟨sg, so, none⟩) = v' := Eq.symm hv'
      subst hv'
      simp only [Act.put, List.setIfInBounds_toArray, List.set_cons_zero, List.set_cons_succ] at ha'
      subst ha'
      refine AnyRT.step (m := 11) (i := 4) (d := some 118) [10, 5, 4] rfl rfl (by kernel_rfl) (by kernel_rfl) (by kernel_rfl) (by kernel_rfl) (by kernel_rfl) ?_ ?_ ?_
      · exact ⟨_, rfl⟩
      · refine StepsR.yield (.pointer (some ⟨sg, so, none⟩)) rfl (by kernel_rfl) (fun w' hS hD => ⟨?_, trivial⟩)
        clear hS hD; go_simp
        try rfl
      intro v' hv' a' ha'
      have hv' : .pointer (some ⟨sg, so, none⟩) = v' := Eq.symm hv'
      subst hv'
      simp only [Act.put, List.setIfInBounds_toArray, List.set_cons_zero, List.set_cons_succ] at ha'
      subst ha'
      refine AnyRT.step (m := 11) (i := 5) (d := some 119) [10, 5] rfl rfl (by kernel_rfl) (by kernel_rfl) (by kernel_rfl) (by kernel_rfl) (by kernel_rfl) ?_ ?_ ?_
      · exact ⟨_, rfl⟩
      · refine StepsR.yield (.int .i64 (a : Int)) rfl (by kernel_rfl) (fun w' hS hD => ⟨?_, trivial⟩)
        obtain ⟨s0, s1⟩ := HS7.out w' hS; clear hS hD; go_simp
        try rfl
      intro v' hv' a' ha'
      have hv' : .int .i64 (a : Int) = v' := Eq.symm hv'
      subst hv'
      simp only [Act.put, List.setIfInBounds_toArray, List.set_cons_zero, List.set_cons_succ] at ha'
      subst ha'
      refine AnyRT.step (m := 11) (i := 6) (d := some 120) [10, 9, 8, 7, 6] rfl rfl (by kernel_rfl) (by kernel_rfl) (by kernel_rfl) (by kernel_rfl) (by kernel_rfl) ?_ ?_ ?_
      · exact ⟨_, rfl⟩
      · refine StepsR.yield (.slice (some ⟨sg, so, none⟩) S.length sc) rfl (by kernel_rfl) (fun w' hS hD => ⟨?_, trivial⟩)
        clear hS hD; go_simp
        try rfl
      intro v' hv' a' ha'
      have hv' : .slice (some ⟨sg, so, none⟩) S.length sc = v' := Eq.symm hv'
      subst hv'
      simp only [Act.put, List.setIfInBounds_toArray, List.set_cons_zero, List.set_cons_succ] at ha'
      subst ha'
      refine AnyRT.step (m := 11) (i := 7) (d := some 121) [10, 9, 8, 7] rfl rfl (by kernel_rfl) (by kernel_rfl) (by kernel_rfl) (by kernel_rfl) (by kernel_rfl) ?_ ?_ ?_
      · exact ⟨_, rfl⟩
      · refine StepsR.yield (.pointer (some ⟨sg, so, none⟩)) rfl (by kernel_rfl) (fun w' hS hD => ⟨?_, trivial⟩)
        clear hS hD; go_simp
        try rfl
      intro v' hv' a' ha'
      have hv' : .pointer (some ⟨sg, so, none⟩) = v' := Eq.symm hv'
      subst hv'
      simp only [Act.put, List.setIfInBounds_toArray, List.set_cons_zero, List.set_cons_succ] at ha'
      subst ha'
      refine AnyRT.step (m := 11) (i := 8) (d := some 122) [10, 9, 8] rfl rfl (by kernel_rfl) (by kernel_rfl) (by kernel_rfl) (by kernel_rfl) (by kernel_rfl) ?_ ?_ ?_
      · exact ⟨_, rfl⟩
      · refine StepsR.yield (.pointer (some ⟨sg, so + 1, none⟩)) rfl (by kernel_rfl) (fun w' hS hD => ⟨?_, trivial⟩)
        clear hS hD; go_simp
        try rfl
      intro v' hv' a' ha'
      have hv' : .pointer (some ⟨sg, so + 1, none⟩) = v' := Eq.symm hv'
      subst hv'
      simp only [Act.put, List.setIfInBounds_toArray, List.set_cons_zero, List.set_cons_succ] at ha'
      subst ha'
      refine AnyRT.step (m := 11) (i := 9) (d := some 123) [10, 9] rfl rfl (by kernel_rfl) (by kernel_rfl) (by kernel_rfl) (by kernel_rfl) (by kernel_rfl) ?_ ?_ ?_
      · exact ⟨_, rfl⟩
      · refine StepsR.yield (.int .i64 (b : Int)) rfl (by kernel_rfl) (fun w' hS hD => ⟨?_, trivial⟩)
        obtain ⟨s0, s1⟩ := HS7.out w' hS; clear hS hD; go_simp
        try rfl
      intro v' hv' a' ha'
      have hv' : .int .i64 (b : Int) = v' := Eq.symm hv'
      subst hv'
      simp only [Act.put, List.setIfInBounds_toArray, List.set_cons_zero, List.set_cons_succ] at ha'
      subst ha'
      refine AnyRT.step (m := 11) (i := 10) (d := some 124) [10] rfl rfl (by kernel_rfl) (by kernel_rfl) (by kernel_rfl) (by kernel_rfl) (by kernel_rfl) ?_ ?_ ?_
      · exact ⟨_, rfl⟩
      · refine StepsR.yield (.slice SA (b - a) (cw - a)) rfl (by kernel_rfl) (fun w' hS hD => ⟨?_, trivial⟩)
        have kk := HSLI.out w'; clear hS hD; go_simp
        try rfl
      intro v' hv' a' ha'
      have hv' : .slice SA (b - a) (cw - a) = v' := Eq.symm hv'
      subst hv'
      simp only [Act.put, List.setIfInBounds_toArray, List.set_cons_zero, List.set_cons_succ] at ha'
      subst ha'
      refine AnyRT.last (by kernel_rfl) (fun wx hS hF => ?_)
      clear hF
      have HB9 := Lib.hid (HB5.out.trans (hS.mono HB5.out.size))
      refine wpAny_one (i := 11) (o := ⟨some 125, _, _, _, _, _⟩) (by kernel_rfl) rfl (by kernel_rfl) ?_
      refine wp_callY (o := ⟨some 125, _, _, _, _, _⟩) (by go_simp) (HMA.out wx HB9.out) ?_
      rintro v' wq ⟨R, rc, rfl, hRs, hsps, hbq⟩
      have hRw : w5.heap.size ≤ R := Nat.le_trans hS.size hRs
      have HQ := Lib.hid (hS.trans (hbq.mono hS.size))
      have HSS := Lib.hid hsps
      have hsR : sg < R := Nat.lt_of_lt_of_le hsg hRw
      clear hS hRs hsps hbq HB9 HMA s0 s1 x0 x1 HCV
      simp only [Act.put, List.setIfInBounds_toArray, List.set_cons_zero, List.set_cons_succ]
      refine AnyS.any (S := fun W => W = wq) _ _ _ ?_ _ rfl
      refine AnyS.next (i := 12) (d := some 113) (v := .tuple #[.slice (some ⟨R, 0, none⟩) S.length rc, .int .i64 0]) rfl rfl (by kernel_rfl) (by kernel_rfl) (by kernel_rfl) (StepsIf.yield (by kernel_rfl) (fun w' hS => by clear hS; go_simp)) ?_
      intro a' ha'
      simp only [Act.put, List.setIfInBounds_toArray, List.set_cons_zero, List.set_cons_succ] at ha'
      subst ha'
      refine AnyS.next (i := 13) (d := some 126) (v := .slice (some ⟨R, 0, none⟩) S.length rc) rfl rfl (by kernel_rfl) (by kernel_rfl) (by kernel_rfl) (StepsIf.yield (by kernel_rfl) (fun w' hS => by clear hS; go_simp)) ?_
      intro a' ha'
      simp only [Act.put, List.setIfInBounds_toArray, List.set_cons_zero, List.set_cons_succ] at ha'
      subst ha'
      refine AnyS.next (i := 14) (d := some 127) (v := .int .i64 0) rfl rfl (by kernel_rfl) (by kernel_rfl) (by kernel_rfl) (StepsIf.yield (by kernel_rfl) (fun w' hS => by clear hS; go_simp)) ?_
      intro a' ha'
      simp only [Act.put, List.setIfInBounds_toArray, List.set_cons_zero, List.set_cons_succ] at ha'
      subst ha'
      refine AnyS.next (i := 15) (d := some 11) (v := .slice (some ⟨R, 0, none⟩) S.length rc) rfl rfl (by kernel_rfl) (by kernel_rfl) (by kernel_rfl) (StepsIf.yield (by kernel_rfl) (fun w' hS => by clear hS; go_simp)) ?_
      intro a' ha'
      simp only [Act.put, List.setIfInBounds_toArray, List.set_cons_zero, List.set_cons_succ] at ha'
      subst ha'
      refine AnyS.next (i := 16) (d := some 12) (v := .int .i64 0) rfl rfl (by kernel_rfl) (by kernel_rfl) (by kernel_rfl) (StepsIf.yield (by kernel_rfl) (fun w' hS => by clear hS; go_simp)) ?_
      intro a' ha'
      simp only [Act.put, List.setIfInBounds_toArray, List.set_cons_zero, List.set_cons_succ] at ha'
      subst ha'
      refine AnyS.done (by kernel_rfl) ?_ _
      rintro w12 rfl
      have m1 : ((S.length : Int) != (S.length : Int)) = false := by rw [bne_eq_false_iff_eq]
      go_wp2_with fail
      go_loopw [13] (fun vi wr => ∃ i : Nat, i ≤ S.length ∧ vi = .int .i64 i ∧ SpsAt ((S.take i).map (shz a) ++ S.drop i) R wr ∧ Below w5.heap.size w5 wr) (fun vi _ => S.length - (intOf vi).toNat)
      case atStart => exact ⟨0, Nat.zero_le _, rfl, HSS.out, HQ.out⟩
      case round =>
        obtain ⟨i, hi, rfl, hsp, hB⟩ := hrel
        clear HSS HQ
        by_cases hlt : i < S.length
        · have p2 : decide (i < S.length) = true := decide_eq_true hlt
          have p3 : decide ((i : Int) < (S.length : Int)) = true := by rw [decide_eq_true_iff]; omega
          have p4 : (i : Int) < (S.length : Int) := by omega
          have xi : IntKind.i64.wrap ((i : Int) + 1) = (i : Int) + 1 := IntWalk.i64_in _ (by omega)
          obtain ⟨u1, u2⟩ := upd_at (shz a) S i hlt
          obtain ⟨r1, r2, r3, r4⟩ := HRG.out i hlt
          have hol : ((S.take i).map (shz a) ++ S.drop i).length = S.length := by
            rw [List.length_append, List.length_map, List.length_take, List.length_drop]; omega
          generalize (S.take i).map (shz a) ++ S.drop i = O at *
          obtain ⟨⟨y0, y1⟩, hy⟩ : ∃ y, S[i] = y := ⟨_, rfl⟩
          rw [hy] at u1 u2 r1 r2 r3 r4
          rw [List.getElem?_eq_getElem (by omega)] at u1
          have HU2 := Lib.hid u2
          have HSP := Lib.hid hsp
          have HBq := Lib.hid hB
          have HOI := Lib.hid (Option.some.inj u1)
          simp only at r1 r2 r3 r4
          have hRl := hsp.lt
          obtain ⟨c0, c1⟩ := hsp.cell i (by omega)
          rw [HOI.out] at c0 c1
          simp only at c0 c1
          clear u1 u2 hsp hB hy
          by_cases hy0 : 0 ≤ y0
          · have t1 : decide (0 ≤ y0) = true := decide_eq_true hy0
            have xa : IntKind.i64.wrap (y0 + (a : Int)) = y0 + (a : Int) := IntWalk.i64_in _ (by omega)
            have xb : IntKind.i64.wrap (y1 + (a : Int)) = y1 + (a : Int) := IntWalk.i64_in _ (by omega)
            have HFA := Lib.hid (show ∀ W', Below wr.heap.size wr W' → ((W'.cell? ⟨R, i * 2, none⟩ = some (.int .i64 y0) ∧ W'.cell? ⟨R, i * 2 + 1, none⟩ = some (.int .i64 y1)) ∧ W'.cell? ⟨sg, so, none⟩ = some (.int .i64 (a : Int))) from fun W' hW => by
              have g1 := (HSP.out.below hW).cell i (by omega)
              rw [HOI.out] at g1
              exact ⟨g1, (HS7.out W' (HBq.out.trans (hW.mono HBq.out.size))).1⟩)
            go_upto_region 18 with fail
            clear c0 c1
            refine region_stepsRT (S := fun W' => Below wr.heap.size wr W') (U := ULc (fun q' => match q' with | 0 => .slice (some ⟨R, 0, none⟩) S.length rc | 1 => .int .i64 (i : Int) | 2 => .slice (some ⟨R, 0, none⟩) S.length rc | 3 => .int .i64 (i : Int) | 4 => .pointer (some ⟨R, i * 2, none⟩) | 5 => .pointer (some ⟨R, i * 2, none⟩) | 6 => .int .i64 y0 | 7 => .slice (some ⟨sg, so, none⟩) S.length sc | 8 => .pointer (some ⟨sg, so, none⟩) | 9 => .pointer (some ⟨sg, so, none⟩) | 10 => .int .i64 (a : Int) | 11 => .int .i64 (y0 + (a : Int)) | 12 => .slice (some ⟨R, 0, none⟩) S.length rc | 13 => .int .i64 (i : Int) | 14 => .pointer (some ⟨R, i * 2, none⟩) | 15 => .pointer (some ⟨R, i * 2 + 1, none⟩) | 16 => .int .i64 y1 | 17 => .slice (some ⟨sg, so, none⟩) S.length sc | 18 => .pointer (some ⟨sg, so, none⟩) | 19 => .pointer (some ⟨sg, so, none⟩) | 20 => .int .i64 (a : Int) | 21 => .int .i64 (y1 + (a : Int)) | 22 => .agg #[.int .i64 (y0 + (a : Int)), .int .i64 (y1 + (a : Int))] | 23 => .pointer (some ⟨R, i * 2, none⟩) | _ => undef)) (V := fun _ _ _ => True) (m := 24) (n := 24) (r := 1) rfl (by kernel_rfl) (fun _ _ hb hs => hs.trans (hb.mono hs.size)) (fun _ _ _ _ _ _ => trivial) (by kernel_rfl) ((Below.refl _ _).drew) ?_
            simp only [List.size_toArray, List.length_cons, List.length_nil, Nat.reduceAdd, Array.replicate_succ, Array.replicate_zero, List.push_toArray, List.nil_append, List.cons_append]
            refine AnyRT.step (m := 24) (i := 0) (d := some 149) [23, 0] rfl rfl (by kernel_rfl) (by kernel_rfl) (by kernel_rfl) (by kernel_rfl) (by kernel_rfl) ?_ ?_ ?_
            · exact ⟨_, rfl⟩
            · refine StepsR.yield (.slice (some ⟨R, 0, none⟩) S.length rc) rfl (by kernel_rfl) (fun w' hS hD => ⟨?_, trivial⟩)
              clear hS hD; go_simp
              try rfl
            intro v' hv' a' ha'
            have hv' : .slice (some ⟨R, 0, none⟩) S.length rc = v' := Eq.symm hv'
            subst hv'
            simp only [Act.put, List.setIfInBounds_toArray, List.set_cons_zero, List.set_cons_succ] at ha'
            subst ha'
            refine AnyRT.step (m := 24) (i := 1) (d := some 150) [23, 1] rfl rfl (by kernel_rfl) (by kernel_rfl) (by kernel_rfl) (by kernel_rfl) (by kernel_rfl) ?_ ?_ ?_
            · exact ⟨_, rfl⟩
            · refine StepsR.yield (.int .i64 (i : Int)) rfl (by kernel_rfl) (fun w' hS hD => ⟨?_, trivial⟩)
              clear hS hD; go_simp
              try rfl
            intro v' hv' a' ha'
            have hv' : .int .i64 (i : Int) = v' := Eq.symm hv'
            subst hv'
            simp only [Act.put, List.setIfInBounds_toArray, List.set_cons_zero, List.set_cons_succ] at ha'
            subst ha'
            refine AnyRT.step (m := 24) (i := 2) (d := some 151) [22, 11, 6, 5, 4, 2] rfl rfl (by kernel_rfl) (by kernel_rfl) (by kernel_rfl) (by kernel_rfl) (by kernel_rfl) ?_ ?_ ?_
            · exact ⟨_, rfl⟩
            · refine StepsR.yield (.slice (some ⟨R, 0, none⟩) S.length rc) rfl (by kernel_rfl) (fun w' hS hD => ⟨?_, trivial⟩)
              clear hS hD; go_simp
              try rfl
            intro v' hv' a' ha'
            have hv' : .slice (some ⟨R, 0, none⟩) S.length rc = v' := Eq.symm hv'
            subst hv'
            simp only [Act.put, List.setIfInBounds_toArray, List.set_cons_zero, List.set_cons_succ] at ha'
            subst ha'
            refine AnyRT.step (m := 24) (i := 3) (d := some 152) [22, 11, 6, 5, 4, 3] rfl rfl (by kernel_rfl) (by kernel_rfl) (by kernel_rfl) (by kernel_rfl) (by kernel_rfl) ?_ ?_ ?_
            · exact ⟨_, rfl⟩
            · refine StepsR.yield (.int .i64 (i : Int)) rfl (by kernel_rfl) (fun w' hS hD => ⟨?_, trivial⟩)
              clear hS hD; go_simp
              try rfl
            intro v' hv' a' ha'
            have hv' : .int .i64 (i : Int) = v' := Eq.symm hv'
            subst hv'
            simp only [Act.put, List.setIfInBounds_toArray, List.set_cons_zero, List.set_cons_succ] at ha'
            subst ha'
            refine AnyRT.step (m := 24) (i := 4) (d := some 153) [22, 11, 6, 5, 4] rfl rfl (by kernel_rfl) (by kernel_rfl) (by kernel_rfl) (by kernel_rfl) (by kernel_rfl) ?_ ?_ ?_
            · exact ⟨_, rfl⟩
            · refine StepsR.yield (.pointer (some ⟨R, i * 2, none⟩)) rfl (by kernel_rfl) (fun w' hS hD => ⟨?_, trivial⟩)
              clear hS hD; go_simp
              try rfl
            intro v' hv' a' ha'
            have hv' : .pointer (some ⟨R, i * 2, none⟩) = v' := Eq.symm hv'
            subst hv'
            simp only [Act.put, List.setIfInBounds_toArray, List.set_cons_zero, List.set_cons_succ] at ha'
            subst ha'
            refine AnyRT.step (m := 24) (i := 5) (d := some 154) [22, 11, 6, 5] rfl rfl (by kernel_rfl) (by kernel_rfl) (by kernel_rfl) (by kernel_rfl) (by kernel_rfl) ?_ ?_ ?_
            · exact ⟨_, rfl⟩
            · refine StepsR.yield (.pointer (some ⟨R, i * 2, none⟩)) rfl (by kernel_rfl) (fun w' hS hD => ⟨?_, trivial⟩)
              clear hS hD; go_simp
              try rfl
            intro v' hv' a' ha'
            have hv' : .pointer (some ⟨R, i * 2, none⟩) = v' := Eq.symm hv'
            subst hv'
            simp only [Act.put, List.setIfInBounds_toArray, List.set_cons_zero, List.set_cons_succ] at ha'
            subst ha'
            refine AnyRT.step (m := 24) (i := 6) (d := some 155) [22, 11, 6] rfl rfl (by kernel_rfl) (by kernel_rfl) (by kernel_rfl) (by kernel_rfl) (by kernel_rfl) ?_ ?_ ?_
            · exact ⟨_, rfl⟩
            · refine StepsR.yield (.int .i64 y0) rfl (by kernel_rfl) (fun w' hS hD => ⟨?_, trivial⟩)
              obtain ⟨⟨c0, c1⟩, s0⟩ := HFA.out w' hS; clear hS hD; go_simp
              try rfl
            intro v' hv' a' ha'
            have hv' : .int .i64 y0 = v' := Eq.symm hv'
            subst hv'
            simp only [Act.put, List.setIfInBounds_toArray, List.set_cons_zero, List.set_cons_succ] at ha'
            subst ha'
            refine AnyRT.step (m := 24) (i := 7) (d := some 156) [22, 11, 10, 9, 8, 7] rfl rfl (by kernel_rfl) (by kernel_rfl) (by kernel_rfl) (by kernel_rfl) (by kernel_rfl) ?_ ?_ ?_
            · exact ⟨_, rfl⟩
            · refine StepsR.yield (.slice (some ⟨sg, so, none⟩) S.length sc) rfl (by kernel_rfl) (fun w' hS hD => ⟨?_, trivial⟩)
              clear hS hD; go_simp
              try rfl
            intro v' hv' a' ha'
            have hv' : .slice (some ⟨sg, so, none⟩) S.length sc = v' := Eq.symm hv'
            subst hv'
            simp only [Act.put, List.setIfInBounds_toArray, List.set_cons_zero, List.set_cons_succ] at ha'
            subst ha'
            refine AnyRT.step (m := 24) (i := 8) (d := some 157) [22, 11, 10, 9, 8] rfl rfl (by kernel_rfl) (by kernel_rfl) (by kernel_rfl) (by kernel_rfl) (by kernel_rfl) ?_ ?_ ?_
            · exact ⟨_, rfl⟩
            · refine StepsR.yield (.pointer (some ⟨sg, so, none⟩)) rfl (by kernel_rfl) (fun w' hS hD => ⟨?_, trivial⟩)
              clear hS hD; go_simp
              try rfl
            intro v' hv' a' ha'
            have hv' : .pointer (some ⟨sg, so, none⟩) = v' := Eq.symm hv'
            subst hv'
            simp only [Act.put, List.setIfInBounds_toArray, List.set_cons_zero, List.set_cons_succ] at ha'
            subst ha'
            refine AnyRT.step (m := 24) (i := 9) (d := some 158) [22, 11, 10, 9] rfl rfl (by kernel_rfl) (by kernel_rfl) (by kernel_rfl) (by kernel_rfl) (by kernel_rfl) ?_ ?_ ?_
            · exact ⟨_, rfl⟩
            · refine StepsR.yield (.pointer (some ⟨sg, so, none⟩)) rfl (by kernel_rfl) (fun w' hS hD => ⟨?_, trivial⟩)
              clear hS hD; go_simp
              try rfl
            intro v' hv' a' ha'
            have hv' : .pointer (some ⟨sg, so, none⟩) = v' := Eq.symm hv'
            subst hv'
            simp only [Act.put, List.setIfInBounds_toArray, List.set_cons_zero, List.set_cons_succ] at ha'
            subst ha'
            refine AnyRT.step (m := 24) (i := 10) (d := some 159) [22, 11, 10] rfl rfl (by kernel_rfl) (by kernel_rfl) (by kernel_rfl) (by kernel_rfl) (by kernel_rfl) ?_ ?_ ?_
            · exact ⟨_, rfl⟩
            · refine StepsR.yield (.int .i64 (a : Int)) rfl (by kernel_rfl) (fun w' hS hD => ⟨?_, trivial⟩)
              obtain ⟨⟨c0, c1⟩, s0⟩ := HFA.out w' hS; clear hS hD; go_simp
              try rfl
            intro v' hv' a' ha'
            have hv' : .int .i64 (a : Int) = v' := Eq.symm hv'
            subst hv'
            simp only [Act.put, List.setIfInBounds_toArray, List.set_cons_zero, List.set_cons_succ] at ha'
            subst ha'
            refine AnyRT.step (m := 24) (i := 11) (d := some 160) [22, 11] rfl rfl (by kernel_rfl) (by kernel_rfl) (by kernel_rfl) (by kernel_rfl) (by kernel_rfl) ?_ ?_ ?_
            · exact ⟨_, rfl⟩
            · refine StepsR.yield (.int .i64 (y0 + (a : Int))) rfl (by kernel_rfl) (fun w' hS hD => ⟨?_, trivial⟩)
              clear hS hD; go_simp
              try rfl
            intro v' hv' a' ha'
            have hv' : .int .i64 (y0 + (a : Int)) = v' := Eq.symm hv'
            subst hv'
            simp only [Act.put, List.setIfInBounds_toArray, List.set_cons_zero, List.set_cons_succ] at ha'
            subst ha'
            refine AnyRT.step (m := 24) (i := 12) (d := some 161) [22, 21, 16, 15, 14, 12] rfl rfl (by kernel_rfl) (by kernel_rfl) (by kernel_rfl) (by kernel_rfl) (by kernel_rfl) ?_ ?_ ?_
            · exact ⟨_, rfl⟩
            · refine StepsR.yield (.slice (some ⟨R, 0, none⟩) S.length rc) rfl (by kernel_rfl) (fun w' hS hD => ⟨?_, trivial⟩)
              clear hS hD; go_simp
              try rfl
            intro v' hv' a' ha'
            have hv' : .slice (some ⟨R, 0, none⟩) S.length rc = v' := Eq.symm hv'
            subst hv'
            simp only [Act.put, List.setIfInBounds_toArray, List.set_cons_zero, List.set_cons_succ] at ha'
            subst ha'
            refine AnyRT.step (m := 24) (i := 13) (d := some 162) [22, 21, 16, 15, 14, 13] rfl rfl (by kernel_rfl) (by kernel_rfl) (by kernel_rfl) (by kernel_rfl) (by kernel_rfl) ?_ ?_ ?_
            · exact ⟨_, rfl⟩
            · refine StepsR.yield (.int .i64 (i : Int)) rfl (by kernel_rfl) (fun w' hS hD => ⟨?_, trivial⟩)
              clear hS hD; go_simp
              try rfl
            intro v' hv' a' ha'
            have hv' : .int .i64 (i : Int) = v' := Eq.symm hv'
            subst hv'
            simp only [Act.put, List.setIfInBounds_toArray, List.set_cons_zero, List.set_cons_succ] at ha'
            subst ha'
            refine AnyRT.step (m := 24) (i := 14) (d := some 163) [22, 21, 16, 15, 14] rfl rfl (by kernel_rfl) (by kernel_rfl) (by kernel_rfl) (by kernel_rfl) (by kernel_rfl) ?_ ?_ ?_
            · exact ⟨_, rfl⟩
            · refine StepsR.yield (.pointer (some ⟨R, i * 2, none⟩)) rfl (by kernel_rfl) (fun w' hS hD => ⟨?_, trivial⟩)
              clear hS hD; go_simp
              try rfl
            intro v' hv' a' ha'
            have hv' : .pointer (some ⟨R, i * 2, none⟩) = v' := Eq.symm hv'
            subst hv'
            simp only [Act.put, List.setIfInBounds_toArray, List.set_cons_zero, List.set_cons_succ] at ha'
            subst ha'
            refine AnyRT.step (m := 24) (i := 15) (d := some 164) [22, 21, 16, 15] rfl rfl (by kernel_rfl) (by kernel_rfl) (by kernel_rfl) (by kernel_rfl) (by kernel_rfl) ?_ ?_ ?_
            · exact ⟨_, rfl⟩
            · refine StepsR.yield (.pointer (some ⟨R, i * 2 + 1, none⟩)) rfl (by kernel_rfl) (fun w' hS hD => ⟨?_, trivial⟩)
              clear hS hD; go_simp
              try rfl
            intro v' hv' a' ha'
            have hv' : .pointer (some ⟨R, i * 2 + 1, none⟩) = v' := Eq.symm hv'
            subst hv'
            simp only [Act.put, List.setIfInBounds_toArray, List.set_cons_zero, List.set_cons_succ] at ha'
            subst ha'
            refine AnyRT.step (m := 24) (i := 16) (d := some 165) [22, 21, 16] rfl rfl (by kernel_rfl) (by kernel_rfl) (by kernel_rfl) (by kernel_rfl) (by kernel_rfl) ?_ ?_ ?_
            · exact ⟨_, rfl⟩
            · refine StepsR.yield (.int .i64 y1) rfl (by kernel_rfl) (fun w' hS hD => ⟨?_, trivial⟩)
              obtain ⟨⟨c0, c1⟩, s0⟩ := HFA.out w' hS; clear hS hD; go_simp
              try rfl
            intro v' hv' a' ha'
            have hv' : .int .i64 y1 = v' := Eq.symm hv'
            subst hv'
            simp only [Act.put, List.setIfInBounds_toArray, List.set_cons_zero, List.set_cons_succ] at ha'
            subst ha'
            refine AnyRT.step (m := 24) (i := 17) (d := some 166) [22, 21, 20, 19, 18, 17] rfl rfl (by kernel_rfl) (by kernel_rfl) (by kernel_rfl) (by kernel_rfl) (by kernel_rfl) ?_ ?_ ?_
            · exact ⟨_, rfl⟩
            · refine StepsR.yield (.slice (some ⟨sg, so, none⟩) S.length sc) rfl (by kernel_rfl) (fun w' hS hD => ⟨?_, trivial⟩)
              clear hS hD; go_simp
              try rfl
            intro v' hv' a' ha'
            have hv' : .slice (some ⟨sg, so, none⟩) S.length sc = v' := Eq.symm hv'
            subst hv'
            simp only [Act.put, List.setIfInBounds_toArray, List.set_cons_zero, List.set_cons_succ] at ha'
            subst ha'
            refine AnyRT.step (m := 24) (i := 18) (d := some 167) [22, 21, 20, 19, 18] rfl rfl (by kernel_rfl) (by kernel_rfl) (by kernel_rfl) (by kernel_rfl) (by kernel_rfl) ?_ ?_ ?_
            · exact ⟨_, rfl⟩
            · refine StepsR.yield (.pointer (some ⟨sg, so, none⟩)) rfl (by kernel_rfl) (fun w' hS hD => ⟨?_, trivial⟩)
              clear hS hD; go_simp
              try rfl
            intro v' hv' a' ha'
            have hv' : .pointer (some ⟨sg, so, none⟩) = v' := Eq.symm hv'
            subst hv'
            simp only [Act.put, List.setIfInBounds_toArray, List.set_cons_zero, List.set_cons_succ] at ha'
            subst ha'
            refine AnyRT.step (m := 24) (i := 19) (d := some 168) [22, 21, 20, 19] rfl rfl (by kernel_rfl) (by kernel_rfl) (by kernel_rfl) (by kernel_rfl) (by kernel_rfl) ?_ ?_ ?_
            · exact ⟨_, rfl⟩
            · refine StepsR.yield (.pointer (some ⟨sg, so, none⟩)) rfl (by kernel_rfl) (fun w' hS hD => ⟨?_, trivial⟩)
              clear hS hD; go_simp
              try rfl
            intro v' hv' a' ha'
            have hv' : .pointer (some ⟨sg, so, none⟩) = v' := Eq.symm hv'
            subst hv'
            simp only [Act.put, List.setIfInBounds_toArray, List.set_cons_zero, List.set_cons_succ] at ha'
            subst ha'
            refine AnyRT.step (m := 24) (i := 20) (d := some 169) [22, 21, 20] rfl rfl (by kernel_rfl) (by kernel_rfl) (by kernel_rfl) (by kernel_rfl) (by kernel_rfl) ?_ ?_ ?_
            · exact ⟨_, rfl⟩
            · refine StepsR.yield (.int .i64 (a : Int)) rfl (by kernel_rfl) (fun w' hS hD => ⟨?_, trivial⟩)
              obtain ⟨⟨c0, c1⟩, s0⟩ := HFA.out w' hS; clear hS hD; go_simp
              try rfl
            intro v' hv' a' ha'
            have hv' : .int .i64 (a : Int) = v' := Eq.symm hv'
            subst hv'
            simp only [Act.put, List.setIfInBounds_toArray, List.set_cons_zero, List.set_cons_succ] at ha'
            subst ha'
            refine AnyRT.step (m := 24) (i := 21) (d := some 170) [22, 21] rfl rfl (by kernel_rfl) (by kernel_rfl) (by kernel_rfl) (by kernel_rfl) (by kernel_rfl) ?_ ?_ ?_
            · exact ⟨_, rfl⟩
            · refine StepsR.yield (.int .i64 (y1 + (a : Int))) rfl (by kernel_rfl) (fun w' hS hD => ⟨?_, trivial⟩)
              clear hS hD; go_simp
              try rfl
            intro v' hv' a' ha'
            have hv' : .int .i64 (y1 + (a : Int)) = v' := Eq.symm hv'
            subst hv'
            simp only [Act.put, List.setIfInBounds_toArray, List.set_cons_zero, List.set_cons_succ] at ha'
            subst ha'
            refine AnyRT.step (m := 24) (i := 22) (d := some 171) [22] rfl rfl (by kernel_rfl) (by kernel_rfl) (by kernel_rfl) (by kernel_rfl) (by kernel_rfl) ?_ ?_ ?_
            · exact ⟨_, rfl⟩
            · refine StepsR.yield (.agg #[.int .i64 (y0 + (a : Int)), .int .i64 (y1 + (a : Int))]) rfl (by kernel_rfl) (fun w' hS hD => ⟨?_, trivial⟩)
              clear hS hD; go_simp
              try rfl
            intro v' hv' a' ha'
            have hv' : .agg #[.int .i64 (y0 + (a : Int)), .int .i64 (y1 + (a : Int))] = v' := Eq.symm hv'
            subst hv'
            simp only [Act.put, List.setIfInBounds_toArray, List.set_cons_zero, List.set_cons_succ] at ha'
            subst ha'
            refine AnyRT.step (m := 24) (i := 23) (d := some 172) [23] rfl rfl (by kernel_rfl) (by kernel_rfl) (by kernel_rfl) (by kernel_rfl) (by kernel_rfl) ?_ ?_ ?_
            · exact ⟨_, rfl⟩
            · refine StepsR.yield (.pointer (some ⟨R, i * 2, none⟩)) rfl (by kernel_rfl) (fun w' hS hD => ⟨?_, trivial⟩)
              clear hS hD; go_simp
              try rfl
            intro v' hv' a' ha'
            have hv' : .pointer (some ⟨R, i * 2, none⟩) = v' := Eq.symm hv'
            subst hv'
            simp only [Act.put, List.setIfInBounds_toArray, List.set_cons_zero, List.set_cons_succ] at ha'
            subst ha'
            refine AnyRT.last (by kernel_rfl) (fun ws hS hF => ?_)
            clear hF
            have hsx := HSP.out.below hS
            have HSX := Lib.hid (hsx.set i (by omega) (y0 + a) (y1 + a))
            have HBX := Lib.hid (below_set (below_set (HBq.out.trans (hS.mono HBq.out.size)) hRw (i * 2) (.int .i64 (y0 + a))) hRw (i * 2 + 1) (.int .i64 (y1 + a)))
            obtain ⟨c0, c1⟩ := hsx.cell i (by omega)
            have f0 := hsx.fr (i * 2); have f1 := hsx.fr (i * 2 + 1)
            clear hsx hS
            refine wpAny_one (i := 24) (o := ⟨none, _, _, _, _, _⟩) (by kernel_rfl) rfl (by kernel_rfl) ?_
            go_simp
            refine wpAny_none (P := Tryd.prog) (by kernel_rfl) ?_
            try simp only [Act.put]
            clear c0 c1 f0 f1
            go_wp2_with fail
            go_roundw
            case rel => exact ⟨i + 1, by omega, rfl, by rw [HU2.out, show shz a (y0, y1) = (y0 + (a : Int), y1 + (a : Int)) from if_pos hy0]; exact HSX.out, HBX.out⟩
            case measure => simp [intOf]; omega
          · have t1 : decide (0 ≤ y0) = false := decide_eq_false hy0
            go_wp2_with fail
            go_roundw
            case rel =>
              refine ⟨i + 1, by omega, rfl, ?_, HBq.out⟩
              rw [HU2.out, show shz a (y0, y1) = (y0, y1) from if_neg hy0]
              have : O.set i (y0, y1) = O := by rw [← HOI.out, List.set_getElem_self]
              rw [this]
              exact HSP.out
            case measure => simp [intOf]; omega
        · obtain rfl : i = S.length := by omega
          rw [List.take_length, List.drop_length, List.append_nil, HS'.out] at hsp
          have HSP := Lib.hid (HSP5.out.below hB)
          have HBq := Lib.hid (HB5.out.trans (hB.mono HB5.out.size))
          have hspn := spanned_calls S' S' (by omega) (by omega) (some ⟨sg, so, none⟩) (some ⟨R, 0, none⟩) sc rc wr HSP.out hsp.at
          rw [decide_eq_true rfl, hSl] at hspn
          have HSPN := Lib.hid hspn
          clear hsp hB hspn
          go_wp2_with fail
          refine HSPN.out.mono ?_
          rintro e wt ⟨rfl, hbt⟩
          have HBt := Lib.hid (HBq.out.trans (hbt.mono HBq.out.size))
          clear hbt
          go_wp2_with fail
          refine (HSU.out _ HBt.out).mono ?_
          rintro e wu ⟨rfl, hbu⟩
          go_wp2_with fail
          go_ret
          exact ⟨rfl, HW1.out.trans ((HBt.out.trans (hbu.mono HBt.out.size)).mono HW1.out.size)⟩
    · have hno := HCV.out rfl
      have e1 : decide (F < (a : Int)) = false := decide_eq_false (fun h => hno (.inl h))
      by_cases hFa : F = (a : Int)
      · have e2 : (F == (a : Int)) = true := by rw [beq_iff_eq]; exact hFa
        have e3 : decide ((b : Int) < T) = false := decide_eq_false (fun h => hno (.inr ⟨hFa, h⟩))
        clear hno hFa
        skip
        go_quiet (fail)
        go_upto_region 11 with fail
        refine region_stepsRT (S := fun W' => Below w5.heap.size w5 W') (U := ULc (fun q' => match q' with | 0 => .slice ad l.length cl | 1 => .slice wd w.length cw | 2 => .slice (some ⟨sg, so, none⟩) S.length sc | 3 => .pointer (some ⟨sg, so, none⟩) | 4 => .pointer (some ⟨sg, so, none⟩) | 5 => .int .i64 (a : Int) | 6 => .slice (some ⟨sg, so, none⟩) S.length sc | 7 => .pointer (some ⟨sg, so, none⟩) | 8 => .pointer (some ⟨sg, so + 1, none⟩) | 9 => .int .i64 (b : Int) | 10 => .slice SA (b - a) (cw - a) | _ => undef)) (V := fun _ _ _ => True) (m := 11) (n := 11) (r := 6) rfl (by kernel_rfl) (fun _ _ hb hs => hs.trans (hb.mono hs.size)) (fun _ _ _ _ _ _ => trivial) (by kernel_rfl) ((below_drN (below_drN (Below.refl _ _) _) _).drew) ?_
        simp only [List.size_toArray, List.length_cons, List.length_nil, Nat.reduceAdd, Array.replicate_succ, Array.replicate_zero, List.push_toArray, List.nil_append, List.cons_append]
        refine AnyRT.step (m := 11) (i := 0) (d := some 114) [0] rfl rfl (by kernel_rfl) (by kernel_rfl) (by kernel_rfl) (by kernel_rfl) (by kernel_rfl) ?_ ?_ ?_
        · exact ⟨_, rfl⟩
        · refine StepsR.yield (.slice ad l.length cl) rfl (by kernel_rfl) (fun w' hS hD => ⟨?_, trivial⟩)
          clear hS hD; go_simp
          try rfl
        intro v' hv' a' ha'
        have hv' : .slice ad l.length cl = v' := Eq.symm hv'
        subst hv'
        simp only [Act.put, List.setIfInBounds_toArray, List.set_cons_zero, List.set_cons_succ] at ha'
        subst ha'
        refine AnyRT.step (m := 11) (i := 1) (d := some 115) [10, 1] rfl rfl (by kernel_rfl) (by kernel_rfl) (by kernel_rfl) (by kernel_rfl) (by kernel_rfl) ?_ ?_ ?_
        · exact ⟨_, rfl⟩
        · refine StepsR.yield (.slice wd w.length cw) rfl (by kernel_rfl) (fun w' hS hD => ⟨?_, trivial⟩)
          clear hS hD; go_simp
          try rfl
        intro v' hv' a' ha'
        have hv' : .slice wd w.length cw = v' := Eq.symm hv'
        subst hv'
        simp only [Act.put, List.setIfInBounds_toArray, List.set_cons_zero, List.set_cons_succ] at ha'
        subst ha'
        refine AnyRT.step (m := 11) (i := 2) (d := some 116) [10, 5, 4, 3, 2] rfl rfl (by kernel_rfl) (by kernel_rfl) (by kernel_rfl) (by kernel_rfl) (by kernel_rfl) ?_ ?_ ?_
        · exact ⟨_, rfl⟩
        · refine StepsR.yield (.slice (some ⟨sg, so, none⟩) S.length sc) rfl (by kernel_rfl) (fun w' hS hD => ⟨?_, trivial⟩)
          clear hS hD; go_simp
          try rfl
        intro v' hv' a' ha'
        have hv' : .slice (some ⟨sg, so, none⟩) S.length sc = v' := Eq.symm hv'
        subst hv'
        simp only [Act.put, List.setIfInBounds_toArray, List.set_cons_zero, List.set_cons_succ] at ha'
        subst ha'
        refine AnyRT.step (m := 11) (i := 3) (d := some 117) [10, 5, 4, 3] rfl rfl (by kernel_rfl) (by kernel_rfl) (by kernel_rfl) (by kernel_rfl) (by kernel_rfl) ?_ ?_ ?_
        · exact ⟨_, rfl⟩
        · refine StepsR.yield (.pointer (some ⟨sg, so, none⟩)) rfl (by kernel_rfl) (fun w' hS hD => ⟨?_, trivial⟩)
          clear hS hD; go_simp
          try rfl
        intro v' hv' a' ha'
        have hv' : .pointer (some ⟨sg, so, none⟩) = v' := Eq.symm hv'
        subst hv'
        simp only [Act.put, List.setIfInBounds_toArray, List.set_cons_zero, List.set_cons_succ] at ha'
        subst ha'
        refine AnyRT.step (m := 11) (i := 4) (d := some 118) [10, 5, 4] rfl rfl (by kernel_rfl) (by kernel_rfl) (by kernel_rfl) (by kernel_rfl) (by kernel_rfl) ?_ ?_ ?_
        · exact ⟨_, rfl⟩
        · refine StepsR.yield (.pointer (some ⟨sg, so, none⟩)) rfl (by kernel_rfl) (fun w' hS hD => ⟨?_, trivial⟩)
          clear hS hD; go_simp
          try rfl
        intro v' hv' a' ha'
        have hv' : .pointer (some ⟨sg, so, none⟩) = v' := Eq.symm hv'
        subst hv'
        simp only [Act.put, List.setIfInBounds_toArray, List.set_cons_zero, List.set_cons_succ] at ha'
        subst ha'
        refine AnyRT.step (m := 11) (i := 5) (d := some 119) [10, 5] rfl rfl (by kernel_rfl) (by kernel_rfl) (by kernel_rfl) (by kernel_rfl) (by kernel_rfl) ?_ ?_ ?_
        · exact ⟨_, rfl⟩
        · refine StepsR.yield (.int .i64 (a : Int)) rfl (by kernel_rfl) (fun w' hS hD => ⟨?_, trivial⟩)
          obtain ⟨s0, s1⟩ := HS7.out w' hS; clear hS hD; go_simp
          try rfl
        intro v' hv' a' ha'
        have hv' : .int .i64 (a : Int) = v' := Eq.symm hv'
        subst hv'
        simp only [Act.put, List.setIfInBounds_toArray, List.set_cons_zero, List.set_cons_succ] at ha'
        subst ha'
        refine AnyRT.step (m := 11) (i := 6) (d := some 120) [10, 9, 8, 7, 6] rfl rfl (by kernel_rfl) (by kernel_rfl) (by kernel_rfl) (by kernel_rfl) (by kernel_rfl) ?_ ?_ ?_
        · exact ⟨_, rfl⟩
        · refine StepsR.yield (.slice (some ⟨sg, so, none⟩) S.length sc) rfl (by kernel_rfl) (fun w' hS hD => ⟨?_, trivial⟩)
          clear hS hD; go_simp
          try rfl
        intro v' hv' a' ha'
        have hv' : .slice (some ⟨sg, so, none⟩) S.length sc = v' := Eq.symm hv'
        subst hv'
        simp only [Act.put, List.setIfInBounds_toArray, List.set_cons_zero, List.set_cons_succ] at ha'
        subst ha'
        refine AnyRT.step (m := 11) (i := 7) (d := some 121) [10, 9, 8, 7] rfl rfl (by kernel_rfl) (by kernel_rfl) (by kernel_rfl) (by kernel_rfl) (by kernel_rfl) ?_ ?_ ?_
        · exact ⟨_, rfl⟩
        · refine StepsR.yield (.pointer (some ⟨sg, so, none⟩)) rfl (by kernel_rfl) (fun w' hS hD => ⟨?_, trivial⟩)
          clear hS hD; go_simp
          try rfl
        intro v' hv' a' ha'
        have hv' : .pointer (some ⟨sg, so, none⟩) = v' := Eq.symm hv'
        subst hv'
        simp only [Act.put, List.setIfInBounds_toArray, List.set_cons_zero, List.set_cons_succ] at ha'
        subst ha'
        refine AnyRT.step (m := 11) (i := 8) (d := some 122) [10, 9, 8] rfl rfl (by kernel_rfl) (by kernel_rfl) (by kernel_rfl) (by kernel_rfl) (by kernel_rfl) ?_ ?_ ?_
        · exact ⟨_, rfl⟩
        · refine StepsR.yield (.pointer (some ⟨sg, so + 1, none⟩)) rfl (by kernel_rfl) (fun w' hS hD => ⟨?_, trivial⟩)
          clear hS hD; go_simp
          try rfl
        intro v' hv' a' ha'
        have hv' : .pointer (some ⟨sg, so + 1, none⟩) = v' := Eq.symm hv'
        subst hv'
        simp only [Act.put, List.setIfInBounds_toArray, List.set_cons_zero, List.set_cons_succ] at ha'
        subst ha'
        refine AnyRT.step (m := 11) (i := 9) (d := some 123) [10, 9] rfl rfl (by kernel_rfl) (by kernel_rfl) (by kernel_rfl) (by kernel_rfl) (by kernel_rfl) ?_ ?_ ?_
        · exact ⟨_, rfl⟩
        · refine StepsR.yield (.int .i64 (b : Int)) rfl (by kernel_rfl) (fun w' hS hD => ⟨?_, trivial⟩)
          obtain ⟨s0, s1⟩ := HS7.out w' hS; clear hS hD; go_simp
          try rfl
        intro v' hv' a' ha'
        have hv' : .int .i64 (b : Int) = v' := Eq.symm hv'
        subst hv'
        simp only [Act.put, List.setIfInBounds_toArray, List.set_cons_zero, List.set_cons_succ] at ha'
        subst ha'
        refine AnyRT.step (m := 11) (i := 10) (d := some 124) [10] rfl rfl (by kernel_rfl) (by kernel_rfl) (by kernel_rfl) (by kernel_rfl) (by kernel_rfl) ?_ ?_ ?_
        · exact ⟨_, rfl⟩
        · refine StepsR.yield (.slice SA (b - a) (cw - a)) rfl (by kernel_rfl) (fun w' hS hD => ⟨?_, trivial⟩)
          have kk := HSLI.out w'; clear hS hD; go_simp
          try rfl
        intro v' hv' a' ha'
        have hv' : .slice SA (b - a) (cw - a) = v' := Eq.symm hv'
        subst hv'
        simp only [Act.put, List.setIfInBounds_toArray, List.set_cons_zero, List.set_cons_succ] at ha'
        subst ha'
        refine AnyRT.last (by kernel_rfl) (fun wx hS hF => ?_)
        clear hF
        have HB9 := Lib.hid (HB5.out.trans (hS.mono HB5.out.size))
        refine wpAny_one (i := 11) (o := ⟨some 125, _, _, _, _, _⟩) (by kernel_rfl) rfl (by kernel_rfl) ?_
        refine wp_callY (o := ⟨some 125, _, _, _, _, _⟩) (by go_simp) (HMA.out wx HB9.out) ?_
        rintro v' wq ⟨R, rc, rfl, hRs, hsps, hbq⟩
        have hRw : w5.heap.size ≤ R := Nat.le_trans hS.size hRs
        have HQ := Lib.hid (hS.trans (hbq.mono hS.size))
        have HSS := Lib.hid hsps
        have hsR : sg < R := Nat.lt_of_lt_of_le hsg hRw
        clear hS hRs hsps hbq HB9 HMA s0 s1 x0 x1 HCV
        simp only [Act.put, List.setIfInBounds_toArray, List.set_cons_zero, List.set_cons_succ]
        refine AnyS.any (S := fun W => W = wq) _ _ _ ?_ _ rfl
        refine AnyS.next (i := 12) (d := some 113) (v := .tuple #[.slice (some ⟨R, 0, none⟩) S.length rc, .int .i64 0]) rfl rfl (by kernel_rfl) (by kernel_rfl) (by kernel_rfl) (StepsIf.yield (by kernel_rfl) (fun w' hS => by clear hS; go_simp)) ?_
        intro a' ha'
        simp only [Act.put, List.setIfInBounds_toArray, List.set_cons_zero, List.set_cons_succ] at ha'
        subst ha'
        refine AnyS.next (i := 13) (d := some 126) (v := .slice (some ⟨R, 0, none⟩) S.length rc) rfl rfl (by kernel_rfl) (by kernel_rfl) (by kernel_rfl) (StepsIf.yield (by kernel_rfl) (fun w' hS => by clear hS; go_simp)) ?_
        intro a' ha'
        simp only [Act.put, List.setIfInBounds_toArray, List.set_cons_zero, List.set_cons_succ] at ha'
        subst ha'
        refine AnyS.next (i := 14) (d := some 127) (v := .int .i64 0) rfl rfl (by kernel_rfl) (by kernel_rfl) (by kernel_rfl) (StepsIf.yield (by kernel_rfl) (fun w' hS => by clear hS; go_simp)) ?_
        intro a' ha'
        simp only [Act.put, List.setIfInBounds_toArray, List.set_cons_zero, List.set_cons_succ] at ha'
        subst ha'
        refine AnyS.next (i := 15) (d := some 11) (v := .slice (some ⟨R, 0, none⟩) S.length rc) rfl rfl (by kernel_rfl) (by kernel_rfl) (by kernel_rfl) (StepsIf.yield (by kernel_rfl) (fun w' hS => by clear hS; go_simp)) ?_
        intro a' ha'
        simp only [Act.put, List.setIfInBounds_toArray, List.set_cons_zero, List.set_cons_succ] at ha'
        subst ha'
        refine AnyS.next (i := 16) (d := some 12) (v := .int .i64 0) rfl rfl (by kernel_rfl) (by kernel_rfl) (by kernel_rfl) (StepsIf.yield (by kernel_rfl) (fun w' hS => by clear hS; go_simp)) ?_
        intro a' ha'
        simp only [Act.put, List.setIfInBounds_toArray, List.set_cons_zero, List.set_cons_succ] at ha'
        subst ha'
        refine AnyS.done (by kernel_rfl) ?_ _
        rintro w12 rfl
        have m1 : ((S.length : Int) != (S.length : Int)) = false := by rw [bne_eq_false_iff_eq]
        go_wp2_with fail
        go_loopw [13] (fun vi wr => ∃ i : Nat, i ≤ S.length ∧ vi = .int .i64 i ∧ SpsAt ((S.take i).map (shz a) ++ S.drop i) R wr ∧ Below w5.heap.size w5 wr) (fun vi _ => S.length - (intOf vi).toNat)
        case atStart => exact ⟨0, Nat.zero_le _, rfl, HSS.out, HQ.out⟩
        case round =>
          obtain ⟨i, hi, rfl, hsp, hB⟩ := hrel
          clear HSS HQ
          by_cases hlt : i < S.length
          · have p2 : decide (i < S.length) = true := decide_eq_true hlt
            have p3 : decide ((i : Int) < (S.length : Int)) = true := by rw [decide_eq_true_iff]; omega
            have p4 : (i : Int) < (S.length : Int) := by omega
            have xi : IntKind.i64.wrap ((i : Int) + 1) = (i : Int) + 1 := IntWalk.i64_in _ (by omega)
            obtain ⟨u1, u2⟩ := upd_at (shz a) S i hlt
            obtain ⟨r1, r2, r3, r4⟩ := HRG.out i hlt
            have hol : ((S.take i).map (shz a) ++ S.drop i).length = S.length := by
              rw [List.length_append, List.length_map, List.length_take, List.length_drop]; omega
            generalize (S.take i).map (shz a) ++ S.drop i = O at *
            obtain ⟨⟨y0, y1⟩, hy⟩ : ∃ y, S[i] = y := ⟨_, rfl⟩
            rw [hy] at u1 u2 r1 r2 r3 r4
            rw [List.getElem?_eq_getElem (by omega)] at u1
            have HU2 := Lib.hid u2
            have HSP := Lib.hid hsp
            have HBq := Lib.hid hB
            have HOI := Lib.hid (Option.some.inj u1)
            simp only at r1 r2 r3 r4
            have hRl := hsp.lt
            obtain ⟨c0, c1⟩ := hsp.cell i (by omega)
            rw [HOI.out] at c0 c1
            simp only at c0 c1
            clear u1 u2 hsp hB hy
            by_cases hy0 : 0 ≤ y0
            · have t1 : decide (0 ≤ y0) = true := decide_eq_true hy0
              have xa : IntKind.i64.wrap (y0 + (a : Int)) = y0 + (a : Int) := IntWalk.i64_in _ (by omega)
              have xb : IntKind.i64.wrap (y1 + (a : Int)) = y1 + (a : Int) := IntWalk.i64_in _ (by omega)
              have HFA := Lib.hid (show ∀ W', Below wr.heap.size wr W' → ((W'.cell? ⟨R, i * 2, none⟩ = some (.int .i64 y0) ∧ W'.cell? ⟨R, i * 2 + 1, none⟩ = some (.int .i64 y1)) ∧ W'.cell? ⟨sg, so, none⟩ = some (.int .i64 (a : Int))) from fun W' hW => by
                have g1 := (HSP.out.below hW).cell i (by omega)
                rw [HOI.out] at g1
                exact ⟨g1, (HS7.out W' (HBq.out.trans (hW.mono HBq.out.size))).1⟩)
              go_upto_region 18 with fail
              clear c0 c1
              refine region_stepsRT (S := fun W' => Below wr.heap.size wr W') (U := ULc (fun q' => match q' with | 0 => .slice (some ⟨R, 0, none⟩) S.length rc | 1 => .int .i64 (i : Int) | 2 => .slice (some ⟨R, 0, none⟩) S.length rc | 3 => .int .i64 (i : Int) | 4 => .pointer (some ⟨R, i * 2, none⟩) | 5 => .pointer (some ⟨R, i * 2, none⟩) | 6 => .int .i64 y0 | 7 => .slice (some ⟨sg, so, none⟩) S.length sc | 8 => .pointer (some ⟨sg, so, none⟩) | 9 => .pointer (some ⟨sg, so, none⟩) | 10 => .int .i64 (a : Int) | 11 => .int .i64 (y0 + (a : Int)) | 12 => .slice (some ⟨R, 0, none⟩) S.length rc | 13 => .int .i64 (i : Int) | 14 => .pointer (some ⟨R, i * 2, none⟩) | 15 => .pointer (some ⟨R, i * 2 + 1, none⟩) | 16 => .int .i64 y1 | 17 => .slice (some ⟨sg, so, none⟩) S.length sc | 18 => .pointer (some ⟨sg, so, none⟩) | 19 => .pointer (some ⟨sg, so, none⟩) | 20 => .int .i64 (a : Int) | 21 => .int .i64 (y1 + (a : Int)) | 22 => .agg #[.int .i64 (y0 + (a : Int)), .int .i64 (y1 + (a : Int))] | 23 => .pointer (some ⟨R, i * 2, none⟩) | _ => undef)) (V := fun _ _ _ => True) (m := 24) (n := 24) (r := 1) rfl (by kernel_rfl) (fun _ _ hb hs => hs.trans (hb.mono hs.size)) (fun _ _ _ _ _ _ => trivial) (by kernel_rfl) ((Below.refl _ _).drew) ?_
              simp only [List.size_toArray, List.length_cons, List.length_nil, Nat.reduceAdd, Array.replicate_succ, Array.replicate_zero, List.push_toArray, List.nil_append, List.cons_append]
              refine AnyRT.step (m := 24) (i := 0) (d := some 149) [23, 0] rfl rfl (by kernel_rfl) (by kernel_rfl) (by kernel_rfl) (by kernel_rfl) (by kernel_rfl) ?_ ?_ ?_
              · exact ⟨_, rfl⟩
              · refine StepsR.yield (.slice (some ⟨R, 0, none⟩) S.length rc) rfl (by kernel_rfl) (fun w' hS hD => ⟨?_, trivial⟩)
                clear hS hD; go_simp
                try rfl
              intro v' hv' a' ha'
              have hv' : .slice (some ⟨R, 0, none⟩) S.length rc = v' := Eq.symm hv'
              subst hv'
              simp only [Act.put, List.setIfInBounds_toArray, List.set_cons_zero, List.set_cons_succ] at ha'
              subst ha'
              refine AnyRT.step (m := 24) (i := 1) (d := some 150) [23, 1] rfl rfl (by kernel_rfl) (by kernel_rfl) (by kernel_rfl) (by kernel_rfl) (by kernel_rfl) ?_ ?_ ?_
              · exact ⟨_, rfl⟩
              · refine StepsR.yield (.int .i64 (i : Int)) rfl (by kernel_rfl) (fun w' hS hD => ⟨?_, trivial⟩)
                clear hS hD; go_simp
                try rfl
              intro v' hv' a' ha'
              have hv' : .int .i64 (i : Int) = v' := Eq.symm hv'
              subst hv'
              simp only [Act.put, List.setIfInBounds_toArray, List.set_cons_zero, List.set_cons_succ] at ha'
              subst ha'
              refine AnyRT.step (m := 24) (i := 2) (d := some 151) [22, 11, 6, 5, 4, 2] rfl rfl (by kernel_rfl) (by kernel_rfl) (by kernel_rfl) (by kernel_rfl) (by kernel_rfl) ?_ ?_ ?_
              · exact ⟨_, rfl⟩
              · refine StepsR.yield (.slice (some ⟨R, 0, none⟩) S.length rc) rfl (by kernel_rfl) (fun w' hS hD => ⟨?_, trivial⟩)
                clear hS hD; go_simp
                try rfl
              intro v' hv' a' ha'
              have hv' : .slice (some ⟨R, 0, none⟩) S.length rc = v' := Eq.symm hv'
              subst hv'
              simp only [Act.put, List.setIfInBounds_toArray, List.set_cons_zero, List.set_cons_succ] at ha'
              subst ha'
              refine AnyRT.step (m := 24) (i := 3) (d := some 152) [22, 11, 6, 5, 4, 3] rfl rfl (by kernel_rfl) (by kernel_rfl) (by kernel_rfl) (by kernel_rfl) (by kernel_rfl) ?_ ?_ ?_
              · exact ⟨_, rfl⟩
              · refine StepsR.yield (.int .i64 (i : Int)) rfl (by kernel_rfl) (fun w' hS hD => ⟨?_, trivial⟩)
                clear hS hD; go_simp
                try rfl
              intro v' hv' a' ha'
              have hv' : .int .i64 (i : Int) = v' := Eq.symm hv'
              subst hv'
              simp only [Act.put, List.setIfInBounds_toArray, List.set_cons_zero, List.set_cons_succ] at ha'
              subst ha'
              refine AnyRT.step (m := 24) (i := 4) (d := some 153) [22, 11, 6, 5, 4] rfl rfl (by kernel_rfl) (by kernel_rfl) (by kernel_rfl) (by kernel_rfl) (by kernel_rfl) ?_ ?_ ?_
              · exact ⟨_, rfl⟩
              · refine StepsR.yield (.pointer (some ⟨R, i * 2, none⟩)) rfl (by kernel_rfl) (fun w' hS hD => ⟨?_, trivial⟩)
                clear hS hD; go_simp
                try rfl
              intro v' hv' a' ha'
              have hv' : .pointer (some ⟨R, i * 2, none⟩) = v' := Eq.symm hv'
              subst hv'
              simp only [Act.put, List.setIfInBounds_toArray, List.set_cons_zero, List.set_cons_succ] at ha'
              subst ha'
              refine AnyRT.step (m := 24) (i := 5) (d := some 154) [22, 11, 6, 5] rfl rfl (by kernel_rfl) (by kernel_rfl) (by kernel_rfl) (by kernel_rfl) (by kernel_rfl) ?_ ?_ ?_
              · exact ⟨_, rfl⟩
              · refine StepsR.yield (.pointer (some ⟨R, i * 2, none⟩)) rfl (by kernel_rfl) (fun w' hS hD => ⟨?_, trivial⟩)
                clear hS hD; go_simp
                try rfl
              intro v' hv' a' ha'
              have hv' : .pointer (some ⟨R, i * 2, none⟩) = v' := Eq.symm hv'
              subst hv'
              simp only [Act.put, List.setIfInBounds_toArray, List.set_cons_zero, List.set_cons_succ] at ha'
              subst ha'
              refine AnyRT.step (m := 24) (i := 6) (d := some 155) [22, 11, 6] rfl rfl (by kernel_rfl) (by kernel_rfl) (by kernel_rfl) (by kernel_rfl) (by kernel_rfl) ?_ ?_ ?_
              · exact ⟨_, rfl⟩
              · refine StepsR.yield (.int .i64 y0) rfl (by kernel_rfl) (fun w' hS hD => ⟨?_, trivial⟩)
                obtain ⟨⟨c0, c1⟩, s0⟩ := HFA.out w' hS; clear hS hD; go_simp
                try rfl
              intro v' hv' a' ha'
              have hv' : .int .i64 y0 = v' := Eq.symm hv'
              subst hv'
              simp only [Act.put, List.setIfInBounds_toArray, List.set_cons_zero, List.set_cons_succ] at ha'
              subst ha'
              refine AnyRT.step (m := 24) (i := 7) (d := some 156) [22, 11, 10, 9, 8, 7] rfl rfl (by kernel_rfl) (by kernel_rfl) (by kernel_rfl) (by kernel_rfl) (by kernel_rfl) ?_ ?_ ?_
              · exact ⟨_, rfl⟩
              · refine StepsR.yield (.slice (some ⟨sg, so, none⟩) S.length sc) rfl (by kernel_rfl) (fun w' hS hD => ⟨?_, trivial⟩)
                clear hS hD; go_simp
                try rfl
              intro v' hv' a' ha'
              have hv' : .slice (some ⟨sg, so, none⟩) S.length sc = v' := Eq.symm hv'
              subst hv'
              simp only [Act.put, List.setIfInBounds_toArray, List.set_cons_zero, List.set_cons_succ] at ha'
              subst ha'
              refine AnyRT.step (m := 24) (i := 8) (d := some 157) [22, 11, 10, 9, 8] rfl rfl (by kernel_rfl) (by kernel_rfl) (by kernel_rfl) (by kernel_rfl) (by kernel_rfl) ?_ ?_ ?_
              · exact ⟨_, rfl⟩
              · refine StepsR.yield (.pointer (some ⟨sg, so, none⟩)) rfl (by kernel_rfl) (fun w' hS hD => ⟨?_, trivial⟩)
                clear hS hD; go_simp
                try rfl
              intro v' hv' a' ha'
              have hv' : .pointer (some ⟨sg, so, none⟩) = v' := Eq.symm hv'
              subst hv'
              simp only [Act.put, List.setIfInBounds_toArray, List.set_cons_zero, List.set_cons_succ] at ha'
              subst ha'
              refine AnyRT.step (m := 24) (i := 9) (d := some 158) [22, 11, 10, 9] rfl rfl (by kernel_rfl) (by kernel_rfl) (by kernel_rfl) (by kernel_rfl) (by kernel_rfl) ?_ ?_ ?_
              · exact ⟨_, rfl⟩
              · refine StepsR.yield (.pointer (some ⟨sg, so, none⟩)) rfl (by kernel_rfl) (fun w' hS hD => ⟨?_, trivial⟩)
                clear hS hD; go_simp
                try rfl
              intro v' hv' a' ha'
              have hv' : .pointer (some ⟨sg, so, none⟩) = v' := Eq.symm hv'
              subst hv'
              simp only [Act.put, List.setIfInBounds_toArray, List.set_cons_zero, List.set_cons_succ] at ha'
              subst ha'
              refine AnyRT.step (m := 24) (i := 10) (d := some 159) [22, 11, 10] rfl rfl (by kernel_rfl) (by kernel_rfl) (by kernel_rfl) (by kernel_rfl) (by kernel_rfl) ?_ ?_ ?_
              · exact ⟨_, rfl⟩
              · refine StepsR.yield (.int .i64 (a : Int)) rfl (by kernel_rfl) (fun w' hS hD => ⟨?_, trivial⟩)
                obtain ⟨⟨c0, c1⟩, s0⟩ := HFA.out w' hS; clear hS hD; go_simp
                try rfl
              intro v' hv' a' ha'
              have hv' : .int .i64 (a : Int) = v' := Eq.symm hv'
              subst hv'
              simp only [Act.put, List.setIfInBounds_toArray, List.set_cons_zero, List.set_cons_succ] at ha'
              subst ha'
              refine AnyRT.step (m := 24) (i := 11) (d := some 160) [22, 11] rfl rfl (by kernel_rfl) (by kernel_rfl) (by kernel_rfl) (by kernel_rfl) (by kernel_rfl) ?_ ?_ ?_
              · exact ⟨_, rfl⟩
              · refine StepsR.yield (.int .i64 (y0 + (a : Int))) rfl (by kernel_rfl) (fun w' hS hD => ⟨?_, trivial⟩)
                clear hS hD; go_simp
                try rfl
              intro v' hv' a' ha'
              have hv' : .int .i64 (y0 + (a : Int)) = v' := Eq.symm hv'
              subst hv'
              simp only [Act.put, List.setIfInBounds_toArray, List.set_cons_zero, List.set_cons_succ] at ha'
              subst ha'
              refine AnyRT.step (m := 24) (i := 12) (d := some 161) [22, 21, 16, 15, 14, 12] rfl rfl (by kernel_rfl) (by kernel_rfl) (by kernel_rfl) (by kernel_rfl) (by kernel_rfl) ?_ ?_ ?_
              · exact ⟨_, rfl⟩
              · refine StepsR.yield (.slice (some ⟨R, 0, none⟩) S.length rc) rfl (by kernel_rfl) (fun w' hS hD => ⟨?_, trivial⟩)
                clear hS hD; go_simp
                try rfl
              intro v' hv' a' ha'
              have hv' : .slice (some ⟨R, 0, none⟩) S.length rc = v' := Eq.symm hv'
              subst hv'
              simp only [Act.put, List.setIfInBounds_toArray, List.set_cons_zero, List.set_cons_succ] at ha'
              subst ha'
              refine AnyRT.step (m := 24) (i := 13) (d := some 162) [22, 21, 16, 15, 14, 13] rfl rfl (by kernel_rfl) (by kernel_rfl) (by kernel_rfl) (by kernel_rfl) (by kernel_rfl) ?_ ?_ ?_
              · exact ⟨_, rfl⟩
              · refine StepsR.yield (.int .i64 (i : Int)) rfl (by kernel_rfl) (fun w' hS hD => ⟨?_, trivial⟩)
                clear hS hD; go_simp
                try rfl
              intro v' hv' a' ha'
              have hv' : .int .i64 (i : Int) = v' := Eq.symm hv'
              subst hv'
              simp only [Act.put, List.setIfInBounds_toArray, List.set_cons_zero, List.set_cons_succ] at ha'
              subst ha'
              refine AnyRT.step (m := 24) (i := 14) (d := some 163) [22, 21, 16, 15, 14] rfl rfl (by kernel_rfl) (by kernel_rfl) (by kernel_rfl) (by kernel_rfl) (by kernel_rfl) ?_ ?_ ?_
              · exact ⟨_, rfl⟩
              · refine StepsR.yield (.pointer (some ⟨R, i * 2, none⟩)) rfl (by kernel_rfl) (fun w' hS hD => ⟨?_, trivial⟩)
                clear hS hD; go_simp
                try rfl
              intro v' hv' a' ha'
              have hv' : .pointer (some ⟨R, i * 2, none⟩) = v' := Eq.symm hv'
              subst hv'
              simp only [Act.put, List.setIfInBounds_toArray, List.set_cons_zero, List.set_cons_succ] at ha'
              subst ha'
              refine AnyRT.step (m := 24) (i := 15) (d := some 164) [22, 21, 16, 15] rfl rfl (by kernel_rfl) (by kernel_rfl) (by kernel_rfl) (by kernel_rfl) (by kernel_rfl) ?_ ?_ ?_
              · exact ⟨_, rfl⟩
              · refine StepsR.yield (.pointer (some ⟨R, i * 2 + 1, none⟩)) rfl (by kernel_rfl) (fun w' hS hD => ⟨?_, trivial⟩)
                clear hS hD; go_simp
                try rfl
              intro v' hv' a' ha'
              have hv' : .pointer (some ⟨R, i * 2 + 1, none⟩) = v' := Eq.symm hv'
              subst hv'
              simp only [Act.put, List.setIfInBounds_toArray, List.set_cons_zero, List.set_cons_succ] at ha'
              subst ha'
              refine AnyRT.step (m := 24) (i := 16) (d := some 165) [22, 21, 16] rfl rfl (by kernel_rfl) (by kernel_rfl) (by kernel_rfl) (by kernel_rfl) (by kernel_rfl) ?_ ?_ ?_
              · exact ⟨_, rfl⟩
              · refine StepsR.yield (.int .i64 y1) rfl (by kernel_rfl) (fun w' hS hD => ⟨?_, trivial⟩)
                obtain ⟨⟨c0, c1⟩, s0⟩ := HFA.out w' hS; clear hS hD; go_simp
                try rfl
              intro v' hv' a' ha'
              have hv' : .int .i64 y1 = v' := Eq.symm hv'
              subst hv'
              simp only [Act.put, List.setIfInBounds_toArray, List.set_cons_zero, List.set_cons_succ] at ha'
              subst ha'
              refine AnyRT.step (m := 24) (i := 17) (d := some 166) [22, 21, 20, 19, 18, 17] rfl rfl (by kernel_rfl) (by kernel_rfl) (by kernel_rfl) (by kernel_rfl) (by kernel_rfl) ?_ ?_ ?_
              · exact ⟨_, rfl⟩
              · refine StepsR.yield (.slice (some ⟨sg, so, none⟩) S.length sc) rfl (by kernel_rfl) (fun w' hS hD => ⟨?_, trivial⟩)
                clear hS hD; go_simp
                try rfl
              intro v' hv' a' ha'
              have hv' : .slice (some ⟨sg, so, none⟩) S.length sc = v' := Eq.symm hv'
              subst hv'
              simp only [Act.put, List.setIfInBounds_toArray, List.set_cons_zero, List.set_cons_succ] at ha'
              subst ha'
              refine AnyRT.step (m := 24) (i := 18) (d := some 167) [22, 21, 20, 19, 18] rfl rfl (by kernel_rfl) (by kernel_rfl) (by kernel_rfl) (by kernel_rfl) (by kernel_rfl) ?_ ?_ ?_
              · exact ⟨_, rfl⟩
              · refine StepsR.yield (.pointer (some ⟨sg, so, none⟩)) rfl (by kernel_rfl) (fun w' hS hD => ⟨?_, trivial⟩)
                clear hS hD; go_simp
                try rfl
              intro v' hv' a' ha'
              have hv' : .pointer (some ⟨sg, so, none⟩) = v' := Eq.symm hv'
              subst hv'
              simp only [Act.put, List.setIfInBounds_toArray, List.set_cons_zero, List.set_cons_succ] at ha'
              subst ha'
              refine AnyRT.step (m := 24) (i := 19) (d := some 168) [22, 21, 20, 19] rfl rfl (by kernel_rfl) (by kernel_rfl) (by kernel_rfl) (by kernel_rfl) (by kernel_rfl) ?_ ?_ ?_
              · exact ⟨_, rfl⟩
              · refine StepsR.yield (.pointer (some ⟨sg, so, none⟩)) rfl (by kernel_rfl) (fun w' hS hD => ⟨?_, trivial⟩)
                clear hS hD; go_simp
                try rfl
              intro v' hv' a' ha'
              have hv' : .pointer (some ⟨sg, so, none⟩) = v' := Eq.symm hv'
              subst hv'
              simp only [Act.put, List.setIfInBounds_toArray, List.set_cons_zero, List.set_cons_succ] at ha'
              subst ha'
              refine AnyRT.step (m := 24) (i := 20) (d := some 169) [22, 21, 20] rfl rfl (by kernel_rfl) (by kernel_rfl) (by kernel_rfl) (by kernel_rfl) (by kernel_rfl) ?_ ?_ ?_
              · exact ⟨_, rfl⟩
              · refine StepsR.yield (.int .i64 (a : Int)) rfl (by kernel_rfl) (fun w' hS hD => ⟨?_, trivial⟩)
                obtain ⟨⟨c0, c1⟩, s0⟩ := HFA.out w' hS; clear hS hD; go_simp
                try rfl
              intro v' hv' a' ha'
              have hv' : .int .i64 (a : Int) = v' := Eq.symm hv'
              subst hv'
              simp only [Act.put, List.setIfInBounds_toArray, List.set_cons_zero, List.set_cons_succ] at ha'
              subst ha'
              refine AnyRT.step (m := 24) (i := 21) (d := some 170) [22, 21] rfl rfl (by kernel_rfl) (by kernel_rfl) (by kernel_rfl) (by kernel_rfl) (by kernel_rfl) ?_ ?_ ?_
              · exact ⟨_, rfl⟩
              · refine StepsR.yield (.int .i64 (y1 + (a : Int))) rfl (by kernel_rfl) (fun w' hS hD => ⟨?_, trivial⟩)
                clear hS hD; go_simp
                try rfl
              intro v' hv' a' ha'
              have hv' : .int .i64 (y1 + (a : Int)) = v' := Eq.symm hv'
              subst hv'
              simp only [Act.put, List.setIfInBounds_toArray, List.set_cons_zero, List.set_cons_succ] at ha'
              subst ha'
              refine AnyRT.step (m := 24) (i := 22) (d := some 171) [22] rfl rfl (by kernel_rfl) (by kernel_rfl) (by kernel_rfl) (by kernel_rfl) (by kernel_rfl) ?_ ?_ ?_
              · exact ⟨_, rfl⟩
              · refine StepsR.yield (.agg #[.int .i64 (y0 + (a : Int)), .int .i64 (y1 + (a : Int))]) rfl (by kernel_rfl) (fun w' hS hD => ⟨?_, trivial⟩)
                clear hS hD; go_simp
                try rfl
              intro v' hv' a' ha'
              have hv' : .agg #[.int .i64 (y0 + (a : Int)), .int .i64 (y1 + (a : Int))] = v' := Eq.symm hv'
              subst hv'
              simp only [Act.put, List.setIfInBounds_toArray, List.set_cons_zero, List.set_cons_succ] at ha'
              subst ha'
              refine AnyRT.step (m := 24) (i := 23) (d := some 172) [23] rfl rfl (by kernel_rfl) (by kernel_rfl) (by kernel_rfl) (by kernel_rfl) (by kernel_rfl) ?_ ?_ ?_
              · exact ⟨_, rfl⟩
              · refine StepsR.yield (.pointer (some ⟨R, i * 2, none⟩)) rfl (by kernel_rfl) (fun w' hS hD => ⟨?_, trivial⟩)
                clear hS hD; go_simp
                try rfl
              intro v' hv' a' ha'
              have hv' : .pointer (some ⟨R, i * 2, none⟩) = v' := Eq.symm hv'
              subst hv'
              simp only [Act.put, List.setIfInBounds_toArray, List.set_cons_zero, List.set_cons_succ] at ha'
              subst ha'
              refine AnyRT.last (by kernel_rfl) (fun ws hS hF => ?_)
              clear hF
              have hsx := HSP.out.below hS
              have HSX := Lib.hid (hsx.set i (by omega) (y0 + a) (y1 + a))
              have HBX := Lib.hid (below_set (below_set (HBq.out.trans (hS.mono HBq.out.size)) hRw (i * 2) (.int .i64 (y0 + a))) hRw (i * 2 + 1) (.int .i64 (y1 + a)))
              obtain ⟨c0, c1⟩ := hsx.cell i (by omega)
              have f0 := hsx.fr (i * 2); have f1 := hsx.fr (i * 2 + 1)
              clear hsx hS
              refine wpAny_one (i := 24) (o := ⟨none, _, _, _, _, _⟩) (by kernel_rfl) rfl (by kernel_rfl) ?_
              go_simp
              refine wpAny_none (P := Tryd.prog) (by kernel_rfl) ?_
              try simp only [Act.put]
              clear c0 c1 f0 f1
              go_wp2_with fail
              go_roundw
              case rel => exact ⟨i + 1, by omega, rfl, by rw [HU2.out, show shz a (y0, y1) = (y0 + (a : Int), y1 + (a : Int)) from if_pos hy0]; exact HSX.out, HBX.out⟩
              case measure => simp [intOf]; omega
            · have t1 : decide (0 ≤ y0) = false := decide_eq_false hy0
              go_wp2_with fail
              go_roundw
              case rel =>
                refine ⟨i + 1, by omega, rfl, ?_, HBq.out⟩
                rw [HU2.out, show shz a (y0, y1) = (y0, y1) from if_neg hy0]
                have : O.set i (y0, y1) = O := by rw [← HOI.out, List.set_getElem_self]
                rw [this]
                exact HSP.out
              case measure => simp [intOf]; omega
          · obtain rfl : i = S.length := by omega
            rw [List.take_length, List.drop_length, List.append_nil, HS'.out] at hsp
            have HSP := Lib.hid (HSP5.out.below hB)
            have HBq := Lib.hid (HB5.out.trans (hB.mono HB5.out.size))
            have hspn := spanned_calls S' S' (by omega) (by omega) (some ⟨sg, so, none⟩) (some ⟨R, 0, none⟩) sc rc wr HSP.out hsp.at
            rw [decide_eq_true rfl, hSl] at hspn
            have HSPN := Lib.hid hspn
            clear hsp hB hspn
            go_wp2_with fail
            refine HSPN.out.mono ?_
            rintro e wt ⟨rfl, hbt⟩
            have HBt := Lib.hid (HBq.out.trans (hbt.mono HBq.out.size))
            clear hbt
            go_wp2_with fail
            refine (HSU.out _ HBt.out).mono ?_
            rintro e wu ⟨rfl, hbu⟩
            go_wp2_with fail
            go_ret
            exact ⟨rfl, HW1.out.trans ((HBt.out.trans (hbu.mono HBt.out.size)).mono HW1.out.size)⟩
      · have e2 : (F == (a : Int)) = false := by rw [beq_eq_false_iff_ne]; exact hFa
        clear hno hFa
        skip
        go_quiet (fail)
        go_upto_region 11 with fail
        refine region_stepsRT (S := fun W' => Below w5.heap.size w5 W') (U := ULc (fun q' => match q' with | 0 => .slice ad l.length cl | 1 => .slice wd w.length cw | 2 => .slice (some ⟨sg, so, none⟩) S.length sc | 3 => .pointer (some ⟨sg, so, none⟩) | 4 => .pointer (some ⟨sg, so, none⟩) | 5 => .int .i64 (a : Int) | 6 => .slice (some ⟨sg, so, none⟩) S.length sc | 7 => .pointer (some ⟨sg, so, none⟩) | 8 => .pointer (some ⟨sg, so + 1, none⟩) | 9 => .int .i64 (b : Int) | 10 => .slice SA (b - a) (cw - a) | _ => undef)) (V := fun _ _ _ => True) (m := 11) (n := 11) (r := 6) rfl (by kernel_rfl) (fun _ _ hb hs => hs.trans (hb.mono hs.size)) (fun _ _ _ _ _ _ => trivial) (by kernel_rfl) ((below_drN (below_drN (Below.refl _ _) _) _).drew) ?_
        simp only [List.size_toArray, List.length_cons, List.length_nil, Nat.reduceAdd, Array.replicate_succ, Array.replicate_zero, List.push_toArray, List.nil_append, List.cons_append]
        refine AnyRT.step (m := 11) (i := 0) (d := some 114) [0] rfl rfl (by kernel_rfl) (by kernel_rfl) (by kernel_rfl) (by kernel_rfl) (by kernel_rfl) ?_ ?_ ?_
        · exact ⟨_, rfl⟩
        · refine StepsR.yield (.slice ad l.length cl) rfl (by kernel_rfl) (fun w' hS hD => ⟨?_, trivial⟩)
          clear hS hD; go_simp
          try rfl
        intro v' hv' a' ha'
        have hv' : .slice ad l.length cl = v' := Eq.symm hv'
        subst hv'
        simp only [Act.put, List.setIfInBounds_toArray, List.set_cons_zero, List.set_cons_succ] at ha'
        subst ha'
        refine AnyRT.step (m := 11) (i := 1) (d := some 115) [10, 1] rfl rfl (by kernel_rfl) (by kernel_rfl) (by kernel_rfl) (by kernel_rfl) (by kernel_rfl) ?_ ?_ ?_
        · exact ⟨_, rfl⟩
        · refine StepsR.yield (.slice wd w.length cw) rfl (by kernel_rfl) (fun w' hS hD => ⟨?_, trivial⟩)
          clear hS hD; go_simp
          try rfl
        intro v' hv' a' ha'
        have hv' : .slice wd w.length cw = v' := Eq.symm hv'
        subst hv'
        simp only [Act.put, List.setIfInBounds_toArray, List.set_cons_zero, List.set_cons_succ] at ha'
        subst ha'
        refine AnyRT.step (m := 11) (i := 2) (d := some 116) [10, 5, 4, 3, 2] rfl rfl (by kernel_rfl) (by kernel_rfl) (by kernel_rfl) (by kernel_rfl) (by kernel_rfl) ?_ ?_ ?_
        · exact ⟨_, rfl⟩
        · refine StepsR.yield (.slice (some ⟨sg, so, none⟩) S.length sc) rfl (by kernel_rfl) (fun w' hS hD => ⟨?_, trivial⟩)
          clear hS hD; go_simp
          try rfl
        intro v' hv' a' ha'
        have hv' : .slice (some ⟨sg, so, none⟩) S.length sc = v' := Eq.symm hv'
        subst hv'
        simp only [Act.put, List.setIfInBounds_toArray, List.set_cons_zero, List.set_cons_succ] at ha'
        subst ha'
        refine AnyRT.step (m := 11) (i := 3) (d := some 117) [10, 5, 4, 3] rfl rfl (by kernel_rfl) (by kernel_rfl) (by kernel_rfl) (by kernel_rfl) (by kernel_rfl) ?_ ?_ ?_
        · exact ⟨_, rfl⟩
        · refine StepsR.yield (.pointer (some ⟨sg, so, none⟩)) rfl (by kernel_rfl) (fun w' hS hD => ⟨?_, trivial⟩)
          clear hS hD; go_simp
          try rfl
        intro v' hv' a' ha'
        have hv' : .pointer (some ⟨sg, so, none⟩) = v' := Eq.symm hv'
        subst hv'
        simp only [Act.put, List.setIfInBounds_toArray, List.set_cons_zero, List.set_cons_succ] at ha'
        subst ha'
        refine AnyRT.step (m := 11) (i := 4) (d := some 118) [10, 5, 4] rfl rfl (by kernel_rfl) (by kernel_rfl) (by kernel_rfl) (by kernel_rfl) (by kernel_rfl) ?_ ?_ ?_
        · exact ⟨_, rfl⟩
        · refine StepsR.yield (.pointer (some ⟨sg, so, none⟩)) rfl (by kernel_rfl) (fun w' hS hD => ⟨?_, trivial⟩)
          clear hS hD; go_simp
          try rfl
        intro v' hv' a' ha'
        have hv' : .pointer (some ⟨sg, so, none⟩) = v' := Eq.symm hv'
        subst hv'
        simp only [Act.put, List.setIfInBounds_toArray, List.set_cons_zero, List.set_cons_succ] at ha'
        subst ha'
        refine AnyRT.step (m := 11) (i := 5) (d := some 119) [10, 5] rfl rfl (by kernel_rfl) (by kernel_rfl) (by kernel_rfl) (by kernel_rfl) (by kernel_rfl) ?_ ?_ ?_
        · exact ⟨_, rfl⟩
        · refine StepsR.yield (.int .i64 (a : Int)) rfl (by kernel_rfl) (fun w' hS hD => ⟨?_, trivial⟩)
          obtain ⟨s0, s1⟩ := HS7.out w' hS; clear hS hD; go_simp
          try rfl
        intro v' hv' a' ha'
        have hv' : .int .i64 (a : Int) = v' := Eq.symm hv'
        subst hv'
        simp only [Act.put, List.setIfInBounds_toArray, List.set_cons_zero, List.set_cons_succ] at ha'
        subst ha'
        refine AnyRT.step (m := 11) (i := 6) (d := some 120) [10, 9, 8, 7, 6] rfl rfl (by kernel_rfl) (by kernel_rfl) (by kernel_rfl) (by kernel_rfl) (by kernel_rfl) ?_ ?_ ?_
        · exact ⟨_, rfl⟩
        · refine StepsR.yield (.slice (some ⟨sg, so, none⟩) S.length sc) rfl (by kernel_rfl) (fun w' hS hD => ⟨?_, trivial⟩)
          clear hS hD; go_simp
          try rfl
        intro v' hv' a' ha'
        have hv' : .slice (some ⟨sg, so, none⟩) S.length sc = v' := Eq.symm hv'
        subst hv'
        simp only [Act.put, List.setIfInBounds_toArray, List.set_cons_zero, List.set_cons_succ] at ha'
        subst ha'
        refine AnyRT.step (m := 11) (i := 7) (d := some 121) [10, 9, 8, 7] rfl rfl (by kernel_rfl) (by kernel_rfl) (by kernel_rfl) (by kernel_rfl) (by kernel_rfl) ?_ ?_ ?_
        · exact ⟨_, rfl⟩
        · refine StepsR.yield (.pointer (some ⟨sg, so, none⟩)) rfl (by kernel_rfl) (fun w' hS hD => ⟨?_, trivial⟩)
          clear hS hD; go_simp
          try rfl
        intro v' hv' a' ha'
        have hv' : .pointer (some ⟨sg, so, none⟩) = v' := Eq.symm hv'
        subst hv'
        simp only [Act.put, List.setIfInBounds_toArray, List.set_cons_zero, List.set_cons_succ] at ha'
        subst ha'
        refine AnyRT.step (m := 11) (i := 8) (d := some 122) [10, 9, 8] rfl rfl (by kernel_rfl) (by kernel_rfl) (by kernel_rfl) (by kernel_rfl) (by kernel_rfl) ?_ ?_ ?_
        · exact ⟨_, rfl⟩
        · refine StepsR.yield (.pointer (some ⟨sg, so + 1, none⟩)) rfl (by kernel_rfl) (fun w' hS hD => ⟨?_, trivial⟩)
          clear hS hD; go_simp
          try rfl
        intro v' hv' a' ha'
        have hv' : .pointer (some ⟨sg, so + 1, none⟩) = v' := Eq.symm hv'
        subst hv'
        simp only [Act.put, List.setIfInBounds_toArray, List.set_cons_zero, List.set_cons_succ] at ha'
        subst ha'
        refine AnyRT.step (m := 11) (i := 9) (d := some 123) [10, 9] rfl rfl (by kernel_rfl) (by kernel_rfl) (by kernel_rfl) (by kernel_rfl) (by kernel_rfl) ?_ ?_ ?_
        · exact ⟨_, rfl⟩
        · refine StepsR.yield (.int .i64 (b : Int)) rfl (by kernel_rfl) (fun w' hS hD => ⟨?_, trivial⟩)
          obtain ⟨s0, s1⟩ := HS7.out w' hS; clear hS hD; go_simp
          try rfl
        intro v' hv' a' ha'
        have hv' : .int .i64 (b : Int) = v' := Eq.symm hv'
        subst hv'
        simp only [Act.put, List.setIfInBounds_toArray, List.set_cons_zero, List.set_cons_succ] at ha'
        subst ha'
        refine AnyRT.step (m := 11) (i := 10) (d := some 124) [10] rfl rfl (by kernel_rfl) (by kernel_rfl) (by kernel_rfl) (by kernel_rfl) (by kernel_rfl) ?_ ?_ ?_
        · exact ⟨_, rfl⟩
        · refine StepsR.yield (.slice SA (b - a) (cw - a)) rfl (by kernel_rfl) (fun w' hS hD => ⟨?_, trivial⟩)
          have kk := HSLI.out w'; clear hS hD; go_simp
          try rfl
        intro v' hv' a' ha'
        have hv' : .slice SA (b - a) (cw - a) = v' := Eq.symm hv'
        subst hv'
        simp only [Act.put, List.setIfInBounds_toArray, List.set_cons_zero, List.set_cons_succ] at ha'
        subst ha'
        refine AnyRT.last (by kernel_rfl) (fun wx hS hF => ?_)
        clear hF
        have HB9 := Lib.hid (HB5.out.trans (hS.mono HB5.out.size))
        refine wpAny_one (i := 11) (o := ⟨some 125, _, _, _, _, _⟩) (by kernel_rfl) rfl (by kernel_rfl) ?_
        refine wp_callY (o := ⟨some 125, _, _, _, _, _⟩) (by go_simp) (HMA.out wx HB9.out) ?_
        rintro v' wq ⟨R, rc, rfl, hRs, hsps, hbq⟩
        have hRw : w5.heap.size ≤ R := Nat.le_trans hS.size hRs
        have HQ := Lib.hid (hS.trans (hbq.mono hS.size))
        have HSS := Lib.hid hsps
        have hsR : sg < R := Nat.lt_of_lt_of_le hsg hRw
        clear hS hRs hsps hbq HB9 HMA s0 s1 x0 x1 HCV
        simp only [Act.put, List.setIfInBounds_toArray, List.set_cons_zero, List.set_cons_succ]
        refine AnyS.any (S := fun W => W = wq) _ _ _ ?_ _ rfl
        refine AnyS.next (i := 12) (d := some 113) (v := .tuple #[.slice (some ⟨R, 0, none⟩) S.length rc, .int .i64 0]) rfl rfl (by kernel_rfl) (by kernel_rfl) (by kernel_rfl) (StepsIf.yield (by kernel_rfl) (fun w' hS => by clear hS; go_simp)) ?_
        intro a' ha'
        simp only [Act.put, List.setIfInBounds_toArray, List.set_cons_zero, List.set_cons_succ] at ha'
        subst ha'
        refine AnyS.next (i := 13) (d := some 126) (v := .slice (some ⟨R, 0, none⟩) S.length rc) rfl rfl (by kernel_rfl) (by kernel_rfl) (by kernel_rfl) (StepsIf.yield (by kernel_rfl) (fun w' hS => by clear hS; go_simp)) ?_
        intro a' ha'
        simp only [Act.put, List.setIfInBounds_toArray, List.set_cons_zero, List.set_cons_succ] at ha'
        subst ha'
        refine AnyS.next (i := 14) (d := some 127) (v := .int .i64 0) rfl rfl (by kernel_rfl) (by kernel_rfl) (by kernel_rfl) (StepsIf.yield (by kernel_rfl) (fun w' hS => by clear hS; go_simp)) ?_
        intro a' ha'
        simp only [Act.put, List.setIfInBounds_toArray, List.set_cons_zero, List.set_cons_succ] at ha'
        subst ha'
        refine AnyS.next (i := 15) (d := some 11) (v := .slice (some ⟨R, 0, none⟩) S.length rc) rfl rfl (by kernel_rfl) (by kernel_rfl) (by kernel_rfl) (StepsIf.yield (by kernel_rfl) (fun w' hS => by clear hS; go_simp)) ?_
        intro a' ha'
        simp only [Act.put, List.setIfInBounds_toArray, List.set_cons_zero, List.set_cons_succ] at ha'
        subst ha'
        refine AnyS.next (i := 16) (d := some 12) (v := .int .i64 0) rfl rfl (by kernel_rfl) (by kernel_rfl) (by kernel_rfl) (StepsIf.yield (by kernel_rfl) (fun w' hS => by clear hS; go_simp)) ?_
        intro a' ha'
        simp only [Act.put, List.setIfInBounds_toArray, List.set_cons_zero, List.set_cons_succ] at ha'
        subst ha'
        refine AnyS.done (by kernel_rfl) ?_ _
        rintro w12 rfl
        have m1 : ((S.length : Int) != (S.length : Int)) = false := by rw [bne_eq_false_iff_eq]
        go_wp2_with fail
        go_loopw [13] (fun vi wr => ∃ i : Nat, i ≤ S.length ∧ vi = .int .i64 i ∧ SpsAt ((S.take i).map (shz a) ++ S.drop i) R wr ∧ Below w5.heap.size w5 wr) (fun vi _ => S.length - (intOf vi).toNat)
        case atStart => exact ⟨0, Nat.zero_le _, rfl, HSS.out, HQ.out⟩
        case round =>
          obtain ⟨i, hi, rfl, hsp, hB⟩ := hrel
          clear HSS HQ
          by_cases hlt : i < S.length
          · have p2 : decide (i < S.length) = true := decide_eq_true hlt
            have p3 : decide ((i : Int) < (S.length : Int)) = true := by rw [decide_eq_true_iff]; omega
            have p4 : (i : Int) < (S.length : Int) := by omega
            have xi : IntKind.i64.wrap ((i : Int) + 1) = (i : Int) + 1 := IntWalk.i64_in _ (by omega)
            obtain ⟨u1, u2⟩ := upd_at (shz a) S i hlt
            obtain ⟨r1, r2, r3, r4⟩ := HRG.out i hlt
            have hol : ((S.take i).map (shz a) ++ S.drop i).length = S.length := by
              rw [List.length_append, List.length_map, List.length_take, List.length_drop]; omega
            generalize (S.take i).map (shz a) ++ S.drop i = O at *
            obtain ⟨⟨y0, y1⟩, hy⟩ : ∃ y, S[i] = y := ⟨_, rfl⟩
            rw [hy] at u1 u2 r1 r2 r3 r4
            rw [List.getElem?_eq_getElem (by omega)] at u1
            have HU2 := Lib.hid u2
            have HSP := Lib.hid hsp
            have HBq := Lib.hid hB
            have HOI := Lib.hid (Option.some.inj u1)
            simp only at r1 r2 r3 r4
            have hRl := hsp.lt
            obtain ⟨c0, c1⟩ := hsp.cell i (by omega)
            rw [HOI.out] at c0 c1
            simp only at c0 c1
            clear u1 u2 hsp hB hy
            by_cases hy0 : 0 ≤ y0
            · have t1 : decide (0 ≤ y0) = true := decide_eq_true hy0
              have xa : IntKind.i64.wrap (y0 + (a : Int)) = y0 + (a : Int) := IntWalk.i64_in _ (by omega)
              have xb : IntKind.i64.wrap (y1 + (a : Int)) = y1 + (a : Int) := IntWalk.i64_in _ (by omega)
              have HFA := Lib.hid (show ∀ W', Below wr.heap.size wr W' → ((W'.cell? ⟨R, i * 2, none⟩ = some (.int .i64 y0) ∧ W'.cell? ⟨R, i * 2 + 1, none⟩ = some (.int .i64 y1)) ∧ W'.cell? ⟨sg, so, none⟩ = some (.int .i64 (a : Int))) from fun W' hW => by
                have g1 := (HSP.out.below hW).cell i (by omega)
                rw [HOI.out] at g1
                exact ⟨g1, (HS7.out W' (HBq.out.trans (hW.mono HBq.out.size))).1⟩)
              go_upto_region 18 with fail
              clear c0 c1
              refine region_stepsRT (S := fun W' => Below wr.heap.size wr W') (U := ULc (fun q' => match q' with | 0 => .slice (some ⟨R, 0, none⟩) S.length rc | 1 => .int .i64 (i : Int) | 2 => .slice (some ⟨R, 0, none⟩) S.length rc | 3 => .int .i64 (i : Int) | 4 => .pointer (some ⟨R, i * 2, none⟩) | 5 => .pointer (some ⟨R, i * 2, none⟩) | 6 => .int .i64 y0 | 7 => .slice (some ⟨sg, so, none⟩) S.length sc | 8 => .pointer (some ⟨sg, so, none⟩) | 9 => .pointer (some ⟨sg, so, none⟩) | 10 => .int .i64 (a : Int) | 11 => .int .i64 (y0 + (a : Int)) | 12 => .slice (some ⟨R, 0, none⟩) S.length rc | 13 => .int .i64 (i : Int) | 14 => .pointer (some ⟨R, i * 2, none⟩) | 15 => .pointer (some ⟨R, i * 2 + 1, none⟩) | 16 => .int .i64 y1 | 17 => .slice (some ⟨sg, so, none⟩) S.length sc | 18 => .pointer (some ⟨sg, so, none⟩) | 19 => .pointer (some ⟨sg, so, none⟩) | 20 => .int .i64 (a : Int) | 21 => .int .i64 (y1 + (a : Int)) | 22 => .agg #[.int .i64 (y0 + (a : Int)), .int .i64 (y1 + (a : Int))] | 23 => .pointer (some ⟨R, i * 2, none⟩) | _ => undef)) (V := fun _ _ _ => True) (m := 24) (n := 24) (r := 1) rfl (by kernel_rfl) (fun _ _ hb hs => hs.trans (hb.mono hs.size)) (fun _ _ _ _ _ _ => trivial) (by kernel_rfl) ((Below.refl _ _).drew) ?_
              simp only [List.size_toArray, List.length_cons, List.length_nil, Nat.reduceAdd, Array.replicate_succ, Array.replicate_zero, List.push_toArray, List.nil_append, List.cons_append]
              refine AnyRT.step (m := 24) (i := 0) (d := some 149) [23, 0] rfl rfl (by kernel_rfl) (by kernel_rfl) (by kernel_rfl) (by kernel_rfl) (by kernel_rfl) ?_ ?_ ?_
              · exact ⟨_, rfl⟩
              · refine StepsR.yield (.slice (some ⟨R, 0, none⟩) S.length rc) rfl (by kernel_rfl) (fun w' hS hD => ⟨?_, trivial⟩)
                clear hS hD; go_simp
                try rfl
              intro v' hv' a' ha'
              have hv' : .slice (some ⟨R, 0, none⟩) S.length rc = v' := Eq.symm hv'
              subst hv'
              simp only [Act.put, List.setIfInBounds_toArray, List.set_cons_zero, List.set_cons_succ] at ha'
              subst ha'
              refine AnyRT.step (m := 24) (i := 1) (d := some 150) [23, 1] rfl rfl (by kernel_rfl) (by kernel_rfl) (by kernel_rfl) (by kernel_rfl) (by kernel_rfl) ?_ ?_ ?_
              · exact ⟨_, rfl⟩
              · refine StepsR.yield (.int .i64 (i : Int)) rfl (by kernel_rfl) (fun w' hS hD => ⟨?_, trivial⟩)
                clear hS hD; go_simp
                try rfl
              intro v' hv' a' ha'
              have hv' : .int .i64 (i : Int) = v' := Eq.symm hv'
              subst hv'
              simp only [Act.put, List.setIfInBounds_toArray, List.set_cons_zero, List.set_cons_succ] at ha'
              subst ha'
              refine AnyRT.step (m := 24) (i := 2) (d := some 151) [22, 11, 6, 5, 4, 2] rfl rfl (by kernel_rfl) (by kernel_rfl) (by kernel_rfl) (by kernel_rfl) (by kernel_rfl) ?_ ?_ ?_
              · exact ⟨_, rfl⟩
              · refine StepsR.yield (.slice (some ⟨R, 0, none⟩) S.length rc) rfl (by kernel_rfl) (fun w' hS hD => ⟨?_, trivial⟩)
                clear hS hD; go_simp
                try rfl
              intro v' hv' a' ha'
              have hv' : .slice (some ⟨R, 0, none⟩) S.length rc = v' := Eq.symm hv'
              subst hv'
              simp only [Act.put, List.setIfInBounds_toArray, List.set_cons_zero, List.set_cons_succ] at ha'
              subst ha'
              refine AnyRT.step (m := 24) (i := 3) (d := some 152) [22, 11, 6, 5, 4, 3] rfl rfl (by kernel_rfl) (by kernel_rfl) (by kernel_rfl) (by kernel_rfl) (by kernel_rfl) ?_ ?_ ?_
              · exact ⟨_, rfl⟩
              · refine StepsR.yield (.int .i64 (i : Int)) rfl (by kernel_rfl) (fun w' hS hD => ⟨?_, trivial⟩)
                clear hS hD; go_simp
                try rfl
              intro v' hv' a' ha'
              have hv' : .int .i64 (i : Int) = v' := Eq.symm hv'
              subst hv'
              simp only [Act.put, List.setIfInBounds_toArray, List.set_cons_zero, List.set_cons_succ] at ha'
              subst ha'
              refine AnyRT.step (m := 24) (i := 4) (d := some 153) [22, 11, 6, 5, 4] rfl rfl (by kernel_rfl) (by kernel_rfl) (by kernel_rfl) (by kernel_rfl) (by kernel_rfl) ?_ ?_ ?_
              · exact ⟨_, rfl⟩
              · refine StepsR.yield (.pointer (some ⟨R, i * 2, none⟩)) rfl (by kernel_rfl) (fun w' hS hD => ⟨?_, trivial⟩)
                clear hS hD; go_simp
                try rfl
              intro v' hv' a' ha'
              have hv' : .pointer (some ⟨R, i * 2, none⟩) = v' := Eq.symm hv'
              subst hv'
              simp only [Act.put, List.setIfInBounds_toArray, List.set_cons_zero, List.set_cons_succ] at ha'
              subst ha'
              refine AnyRT.step (m := 24) (i := 5) (d := some 154) [22, 11, 6, 5] rfl rfl (by kernel_rfl) (by kernel_rfl) (by kernel_rfl) (by kernel_rfl) (by kernel_rfl) ?_ ?_ ?_
              · exact ⟨_, rfl⟩
              · refine StepsR.yield (.pointer (some ⟨R, i * 2, none⟩)) rfl (by kernel_rfl) (fun w' hS hD => ⟨?_, trivial⟩)
                clear hS hD; go_simp
                try rfl
              intro v' hv' a' ha'
              have hv' : .pointer (some ⟨R, i * 2, none⟩) = v' := Eq.symm hv'
              subst hv'
              simp only [Act.put, List.setIfInBounds_toArray, List.set_cons_zero, List.set_cons_succ] at ha'
              subst ha'
              refine AnyRT.step (m := 24) (i := 6) (d := some 155) [22, 11, 6] rfl rfl (by kernel_rfl) (by kernel_rfl) (by kernel_rfl) (by kernel_rfl) (by kernel_rfl) ?_ ?_ ?_
              · exact ⟨_, rfl⟩
              · refine StepsR.yield (.int .i64 y0) rfl (by kernel_rfl) (fun w' hS hD => ⟨?_, trivial⟩)
                obtain ⟨⟨c0, c1⟩, s0⟩ := HFA.out w' hS; clear hS hD; go_simp
                try rfl
              intro v' hv' a' ha'
              have hv' : .int .i64 y0 = v' := Eq.symm hv'
              subst hv'
              simp only [Act.put, List.setIfInBounds_toArray, List.set_cons_zero, List.set_cons_succ] at ha'
              subst ha'
              refine AnyRT.step (m := 24) (i := 7) (d := some 156) [22, 11, 10, 9, 8, 7] rfl rfl (by kernel_rfl) (by kernel_rfl) (by kernel_rfl) (by kernel_rfl) (by kernel_rfl) ?_ ?_ ?_
              · exact ⟨_, rfl⟩
              · refine StepsR.yield (.slice (some ⟨sg, so, none⟩) S.length sc) rfl (by kernel_rfl) (fun w' hS hD => ⟨?_, trivial⟩)
                clear hS hD; go_simp
                try rfl
              intro v' hv' a' ha'
              have hv' : .slice (some ⟨sg, so, none⟩) S.length sc = v' := Eq.symm hv'
              subst hv'
              simp only [Act.put, List.setIfInBounds_toArray, List.set_cons_zero, List.set_cons_succ] at ha'
              subst ha'
              refine AnyRT.step (m := 24) (i := 8) (d := some 157) [22, 11, 10, 9, 8] rfl rfl (by kernel_rfl) (by kernel_rfl) (by kernel_rfl) (by kernel_rfl) (by kernel_rfl) ?_ ?_ ?_
              · exact ⟨_, rfl⟩
              · refine StepsR.yield (.pointer (some ⟨sg, so, none⟩)) rfl (by kernel_rfl) (fun w' hS hD => ⟨?_, trivial⟩)
                clear hS hD; go_simp
                try rfl
              intro v' hv' a' ha'
              have hv' : .pointer (some ⟨sg, so, none⟩) = v' := Eq.symm hv'
              subst hv'
              simp only [Act.put, List.setIfInBounds_toArray, List.set_cons_zero, List.set_cons_succ] at ha'
              subst ha'
              refine AnyRT.step (m := 24) (i := 9) (d := some 158) [22, 11, 10, 9] rfl rfl (by kernel_rfl) (by kernel_rfl) (by kernel_rfl) (by kernel_rfl) (by kernel_rfl) ?_ ?_ ?_
              · exact ⟨_, rfl⟩
              · refine StepsR.yield (.pointer (some ⟨sg, so, none⟩)) rfl (by kernel_rfl) (fun w' hS hD => ⟨?_, trivial⟩)
                clear hS hD; go_simp
                try rfl
              intro v' hv' a' ha'
              have hv' : .pointer (some ⟨sg, so, none⟩) = v' := Eq.symm hv'
              subst hv'
              simp only [Act.put, List.setIfInBounds_toArray, List.set_cons_zero, List.set_cons_succ] at ha'
              subst ha'
              refine AnyRT.step (m := 24) (i := 10) (d := some 159) [22, 11, 10] rfl rfl (by kernel_rfl) (by kernel_rfl) (by kernel_rfl) (by kernel_rfl) (by kernel_rfl) ?_ ?_ ?_
              · exact ⟨_, rfl⟩
              · refine StepsR.yield (.int .i64 (a : Int)) rfl (by kernel_rfl) (fun w' hS hD => ⟨?_, trivial⟩)
                obtain ⟨⟨c0, c1⟩, s0⟩ := HFA.out w' hS; clear hS hD; go_simp
                try rfl
              intro v' hv' a' ha'
              have hv' : .int .i64 (a : Int) = v' := Eq.symm hv'
              subst hv'
              simp only [Act.put, List.setIfInBounds_toArray, List.set_cons_zero, List.set_cons_succ] at ha'
              subst ha'
              refine AnyRT.step (m := 24) (i := 11) (d := some 160) [22, 11] rfl rfl (by kernel_rfl) (by kernel_rfl) (by kernel_rfl) (by kernel_rfl) (by kernel_rfl) ?_ ?_ ?_
              · exact ⟨_, rfl⟩
              · refine StepsR.yield (.int .i64 (y0 + (a : Int))) rfl (by kernel_rfl) (fun w' hS hD => ⟨?_, trivial⟩)
                clear hS hD; go_simp
                try rfl
              intro v' hv' a' ha'
              have hv' : .int .i64 (y0 + (a : Int)) = v' := Eq.symm hv'
              subst hv'
              simp only [Act.put, List.setIfInBounds_toArray, List.set_cons_zero, List.set_cons_succ] at ha'
              subst ha'
              refine AnyRT.step (m := 24) (i := 12) (d := some 161) [22, 21, 16, 15, 14, 12] rfl rfl (by kernel_rfl) (by kernel_rfl) (by kernel_rfl) (by kernel_rfl) (by kernel_rfl) ?_ ?_ ?_
              · exact ⟨_, rfl⟩
              · refine StepsR.yield (.slice (some ⟨R, 0, none⟩) S.length rc) rfl (by kernel_rfl) (fun w' hS hD => ⟨?_, trivial⟩)
                clear hS hD; go_simp
                try rfl
              intro v' hv' a' ha'
              have hv' : .slice (some ⟨R, 0, none⟩) S.length rc = v' := Eq.symm hv'
              subst hv'
              simp only [Act.put, List.setIfInBounds_toArray, List.set_cons_zero, List.set_cons_succ] at ha'
              subst ha'
              refine AnyRT.step (m := 24) (i := 13) (d := some 162) [22, 21, 16, 15, 14, 13] rfl rfl (by kernel_rfl) (by kernel_rfl) (by kernel_rfl) (by kernel_rfl) (by kernel_rfl) ?_ ?_ ?_
              · exact ⟨_, rfl⟩
              · refine StepsR.yield (.int .i64 (i : Int)) rfl (by kernel_rfl) (fun w' hS hD => ⟨?_, trivial⟩)
                clear hS hD; go_simp
                try rfl
              intro v' hv' a' ha'
              have hv' : .int .i64 (i : Int) = v' := Eq.symm hv'
              subst hv'
              simp only [Act.put, List.setIfInBounds_toArray, List.set_cons_zero, List.set_cons_succ] at ha'
              subst ha'
              refine AnyRT.step (m := 24) (i := 14) (d := some 163) [22, 21, 16, 15, 14] rfl rfl (by kernel_rfl) (by kernel_rfl) (by kernel_rfl) (by kernel_rfl) (by kernel_rfl) ?_ ?_ ?_
              · exact ⟨_, rfl⟩
              · refine StepsR.yield (.pointer (some ⟨R, i * 2, none⟩)) rfl (by kernel_rfl) (fun w' hS hD => ⟨?_, trivial⟩)
                clear hS hD; go_simp
                try rfl
              intro v' hv' a' ha'
              have hv' : .pointer (some ⟨R, i * 2, none⟩) = v' := Eq.symm hv'
              subst hv'
              simp only [Act.put, List.setIfInBounds_toArray, List.set_cons_zero, List.set_cons_succ] at ha'
              subst ha'
              refine AnyRT.step (m := 24) (i := 15) (d := some 164) [22, 21, 16, 15] rfl rfl (by kernel_rfl) (by kernel_rfl) (by kernel_rfl) (by kernel_rfl) (by kernel_rfl) ?_ ?_ ?_
              · exact ⟨_, rfl⟩
              · refine StepsR.yield (.pointer (some ⟨R, i * 2 + 1, none⟩)) rfl (by kernel_rfl) (fun w' hS hD => ⟨?_, trivial⟩)
                clear hS hD; go_simp
                try rfl
              intro v' hv' a' ha'
              have hv' : .pointer (some ⟨R, i * 2 + 1, none⟩) = v' := Eq.symm hv'
              subst hv'
              simp only [Act.put, List.setIfInBounds_toArray, List.set_cons_zero, List.set_cons_succ] at ha'
              subst ha'
              refine AnyRT.step (m := 24) (i := 16) (d := some 165) [22, 21, 16] rfl rfl (by kernel_rfl) (by kernel_rfl) (by kernel_rfl) (by kernel_rfl) (by kernel_rfl) ?_ ?_ ?_
              · exact ⟨_, rfl⟩
              · refine StepsR.yield (.int .i64 y1) rfl (by kernel_rfl) (fun w' hS hD => ⟨?_, trivial⟩)
                obtain ⟨⟨c0, c1⟩, s0⟩ := HFA.out w' hS; clear hS hD; go_simp
                try rfl
              intro v' hv' a' ha'
              have hv' : .int .i64 y1 = v' := Eq.symm hv'
              subst hv'
              simp only [Act.put, List.setIfInBounds_toArray, List.set_cons_zero, List.set_cons_succ] at ha'
              subst ha'
              refine AnyRT.step (m := 24) (i := 17) (d := some 166) [22, 21, 20, 19, 18, 17] rfl rfl (by kernel_rfl) (by kernel_rfl) (by kernel_rfl) (by kernel_rfl) (by kernel_rfl) ?_ ?_ ?_
              · exact ⟨_, rfl⟩
              · refine StepsR.yield (.slice (some ⟨sg, so, none⟩) S.length sc) rfl (by kernel_rfl) (fun w' hS hD => ⟨?_, trivial⟩)
                clear hS hD; go_simp
                try rfl
              intro v' hv' a' ha'
              have hv' : .slice (some ⟨sg, so, none⟩) S.length sc = v' := Eq.symm hv'
              subst hv'
              simp only [Act.put, List.setIfInBounds_toArray, List.set_cons_zero, List.set_cons_succ] at ha'
              subst ha'
              refine AnyRT.step (m := 24) (i := 18) (d := some 167) [22, 21, 20, 19, 18] rfl rfl (by kernel_rfl) (by kernel_rfl) (by kernel_rfl) (by kernel_rfl) (by kernel_rfl) ?_ ?_ ?_
              · exact ⟨_, rfl⟩
              · refine StepsR.yield (.pointer (some ⟨sg, so, none⟩)) rfl (by kernel_rfl) (fun w' hS hD => ⟨?_, trivial⟩)
                clear hS hD; go_simp
                try rfl
              intro v' hv' a' ha'
              have hv' : .pointer (some ⟨sg, so, none⟩) = v' := Eq.symm hv'
              subst hv'
              simp only [Act.put, List.setIfInBounds_toArray, List.set_cons_zero, List.set_cons_succ] at ha'
              subst ha'
              refine AnyRT.step (m := 24) (i := 19) (d := some 168) [22, 21, 20, 19] rfl rfl (by kernel_rfl) (by kernel_rfl) (by kernel_rfl) (by kernel_rfl) (by kernel_rfl) ?_ ?_ ?_
              · exact ⟨_, rfl⟩
              · refine StepsR.yield (.pointer (some ⟨sg, so, none⟩)) rfl (by kernel_rfl) (fun w' hS hD => ⟨?_, trivial⟩)
                clear hS hD; go_simp
                try rfl
              intro v' hv' a' ha'
              have hv' : .pointer (some ⟨sg, so, none⟩) = v' := Eq.symm hv'
              subst hv'
              simp only [Act.put, List.setIfInBounds_toArray, List.set_cons_zero, List.set_cons_succ] at ha'
              subst ha'
              refine AnyRT.step (m := 24) (i := 20) (d := some 169) [22, 21, 20] rfl rfl (by kernel_rfl) (by kernel_rfl) (by kernel_rfl) (by kernel_rfl) (by kernel_rfl) ?_ ?_ ?_
              · exact ⟨_, rfl⟩
              · refine StepsR.yield (.int .i64 (a : Int)) rfl (by kernel_rfl) (fun w' hS hD => ⟨?_, trivial⟩)
                obtain ⟨⟨c0, c1⟩, s0⟩ := HFA.out w' hS; clear hS hD; go_simp
                try rfl
              intro v' hv' a' ha'
              have hv' : .int .i64 (a : Int) = v' := Eq.symm hv'
              subst hv'
              simp only [Act.put, List.setIfInBounds_toArray, List.set_cons_zero, List.set_cons_succ] at ha'
              subst ha'
              refine AnyRT.step (m := 24) (i := 21) (d := some 170) [22, 21] rfl rfl (by kernel_rfl) (by kernel_rfl) (by kernel_rfl) (by kernel_rfl) (by kernel_rfl) ?_ ?_ ?_
              · exact ⟨_, rfl⟩
              · refine StepsR.yield (.int .i64 (y1 + (a : Int))) rfl (by kernel_rfl) (fun w' hS hD => ⟨?_, trivial⟩)
                clear hS hD; go_simp
                try rfl
              intro v' hv' a' ha'
              have hv' : .int .i64 (y1 + (a : Int)) = v' := Eq.symm hv'
              subst hv'
              simp only [Act.put, List.setIfInBounds_toArray, List.set_cons_zero, List.set_cons_succ] at ha'
              subst ha'
              refine AnyRT.step (m := 24) (i := 22) (d := some 171) [22] rfl rfl (by kernel_rfl) (by kernel_rfl) (by kernel_rfl) (by kernel_rfl) (by kernel_rfl) ?_ ?_ ?_
              · exact ⟨_, rfl⟩
              · refine StepsR.yield (.agg #[.int .i64 (y0 + (a : Int)), .int .i64 (y1 + (a : Int))]) rfl (by kernel_rfl) (fun w' hS hD => ⟨?_, trivial⟩)
                clear hS hD; go_simp
                try rfl
              intro v' hv' a' ha'
              have hv' : .agg #[.int .i64 (y0 + (a : Int)), .int .i64 (y1 + (a : Int))] = v' := Eq.symm hv'
              subst hv'
              simp only [Act.put, List.setIfInBounds_toArray, List.set_cons_zero, List.set_cons_succ] at ha'
              subst ha'
              refine AnyRT.step (m := 24) (i := 23) (d := some 172) [23] rfl rfl (by kernel_rfl) (by kernel_rfl) (by kernel_rfl) (by kernel_rfl) (by kernel_rfl) ?_ ?_ ?_
              · exact ⟨_, rfl⟩
              · refine StepsR.yield (.pointer (some ⟨R, i * 2, none⟩)) rfl (by kernel_rfl) (fun w' hS hD => ⟨?_, trivial⟩)
                clear hS hD; go_simp
                try rfl
              intro v' hv' a' ha'
              have hv' : .pointer (some ⟨R, i * 2, none⟩) = v' := Eq.symm hv'
              subst hv'
              simp only [Act.put, List.setIfInBounds_toArray, List.set_cons_zero, List.set_cons_succ] at ha'
              subst ha'
              refine AnyRT.last (by kernel_rfl) (fun ws hS hF => ?_)
              clear hF
              have hsx := HSP.out.below hS
              have HSX := Lib.hid (hsx.set i (by omega) (y0 + a) (y1 + a))
              have HBX := Lib.hid (below_set (below_set (HBq.out.trans (hS.mono HBq.out.size)) hRw (i * 2) (.int .i64 (y0 + a))) hRw (i * 2 + 1) (.int .i64 (y1 + a)))
              obtain ⟨c0, c1⟩ := hsx.cell i (by omega)
              have f0 := hsx.fr (i * 2); have f1 := hsx.fr (i * 2 + 1)
              clear hsx hS
              refine wpAny_one (i := 24) (o := ⟨none, _, _, _, _, _⟩) (by kernel_rfl) rfl (by kernel_rfl) ?_
              go_simp
              refine wpAny_none (P := Tryd.prog) (by kernel_rfl) ?_
              try simp only [Act.put]
              clear c0 c1 f0 f1
              go_wp2_with fail
              go_roundw
              case rel => exact ⟨i + 1, by omega, rfl, by rw [HU2.out, show shz a (y0, y1) = (y0 + (a : Int), y1 + (a : Int)) from if_pos hy0]; exact HSX.out, HBX.out⟩
              case measure => simp [intOf]; omega
            · have t1 : decide (0 ≤ y0) = false := decide_eq_false hy0
              go_wp2_with fail
              go_roundw
              case rel =>
                refine ⟨i + 1, by omega, rfl, ?_, HBq.out⟩
                rw [HU2.out, show shz a (y0, y1) = (y0, y1) from if_neg hy0]
                have : O.set i (y0, y1) = O := by rw [← HOI.out, List.set_getElem_self]
                rw [this]
                exact HSP.out
              case measure => simp [intOf]; omega
          · obtain rfl : i = S.length := by omega
            rw [List.take_length, List.drop_length, List.append_nil, HS'.out] at hsp
            have HSP := Lib.hid (HSP5.out.below hB)
            have HBq := Lib.hid (HB5.out.trans (hB.mono HB5.out.size))
            have hspn := spanned_calls S' S' (by omega) (by omega) (some ⟨sg, so, none⟩) (some ⟨R, 0, none⟩) sc rc wr HSP.out hsp.at
            rw [decide_eq_true rfl, hSl] at hspn
            have HSPN := Lib.hid hspn
            clear hsp hB hspn
            go_wp2_with fail
            refine HSPN.out.mono ?_
            rintro e wt ⟨rfl, hbt⟩
            have HBt := Lib.hid (HBq.out.trans (hbt.mono HBq.out.size))
            clear hbt
            go_wp2_with fail
            refine (HSU.out _ HBt.out).mono ?_
            rintro e wu ⟨rfl, hbu⟩
            go_wp2_with fail
            go_ret
            exact ⟨rfl, HW1.out.trans ((HBt.out.trans (hbu.mono HBt.out.size)).mono HW1.out.size)⟩
end Go.Proofs.YtdpkhliojbeglaaDoor

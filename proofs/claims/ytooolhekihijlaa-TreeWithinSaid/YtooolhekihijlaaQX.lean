/- Texts put together: Tsi. -/
import Derived.Test.YtooolhekihijlaaQV
import Derived.Test.YtooolhekihijlaaQO
/- What opens and closes: the document's Frames. Stage 14. -/
namespace Go.Proofs.Ytooolhekihijlaa
open Go.RowKit BS

theorem wpList_valX {P : Program} {ops : Array Oper} {rest : List Oper} {o : Oper} {a : Act} {w w' : World} {v : Value} {Q : Exit → Act → World → Prop} (hgd : o.guard = none) (h : (execOp a.eval o).run P w = .ok (.value v) w') (H : wpList P ops Q rest (a.put o.dst v) w') : wpList P ops Q (o :: rest) a w :=
  wpList_plain hgd fun _ hK => by
    unfold Oper.wp
    rw [h]
    exact hK _ _ H
/-- The document's state ahead of entry i, and behind all. -/
def stI (t : List EnN) (i : Nat) : List (Int × Int) × List EnN := if i ≤ t.length then frRun ([], []) (t.take i) else (frEvents t, (closeT 0 (frRun ([], []) t).2).2)
theorem stI_len (t : List EnN) (i : Nat) (h : i ≤ t.length) : (stI t i).1.length + (stI t i).2.length = 2 * i := by
  unfold stI
  rw [if_pos h]
  have := frRun_len (t.take i) ([], [])
  rw [List.length_take, Nat.min_eq_left h] at this
  simpa using this
theorem stI_step (t : List EnN) (i : Nat) (h : i < t.length) : stI t (i + 1) = ((stI t i).1 ++ (closeT (atE t i).depth (stI t i).2).1 ++ [((atE t i).from_, 2 * (atE t i).node)], atE t i :: (closeT (atE t i).depth (stI t i).2).2) := by
  unfold stI
  rw [if_pos (by omega), if_pos (by omega), List.take_succ_eq_append_getElem h, frRun_app, atE_lt t i h]
  rfl
theorem stI_last (t : List EnN) : stI t (t.length + 1) = ((stI t t.length).1 ++ (closeT (atE t t.length).depth (stI t t.length).2).1, (closeT (atE t t.length).depth (stI t t.length).2).2) := by
  unfold stI
  rw [if_neg (by omega), if_pos (Nat.le_refl _), List.take_of_length_le (Nat.le_refl _), atE_ge t t.length (Nat.le_refl _)]
  rfl
theorem fieldE0 (d n f e : Int) (w : World) : (Instr.field 44 (.agg #[.int .i64 d, .int .i64 n, .int .i64 f, .int .i64 e]) 0).run Try.prog w = .ok (.int .i64 d) w := by kernel_rfl
set_option maxRecDepth 100000 in
set_option maxHeartbeats 64000000 in
theorem rFrames_calls (l : List NdN) (hl : l.length ≤ 1000) (w : List Nat) (hw : w.length ≤ 1000) (hw8 : ∀ x ∈ w, x < 256) (t : List EnN) (ht : t.length ≤ 1000) (la wa ta : Option Addr) (lc wc tc : Nat) (W : World) (hN : NodesAt l la W) (hT : BtsAt w wa W) (hE : EntsAt t ta W) :
    Calls Try.prog 12 #[.slice la l.length lc, .slice wa w.length wc, .slice ta t.length tc] W fun e W' => ∃ b c, e = .returned (.slice b (framesT l w t).length c) ∧ RowsAt (framesT l w t) b W' ∧ Below W.heap.size W W' := by
  have HR := rTree_calls l hl w hw hw8 t ht la wa ta lc wc tc W hN hT hE
  cases hr : treeT l w t with
  | false =>
    rw [hr] at HR
    have HX := Lib.hid (show framesT l w t = [] by unfold framesT; rw [hr]; rfl)
    clear hr hN hT hE
    go_enter Try.func12, Try.ntmps12
    go_wp2_with fail
    refine HR.mono ?_
    rintro e w1 ⟨rfl, hb⟩
    go_wp2_with fail
    go_ret
    rw [HX.out]
    exact ⟨_, _, rfl, fun h => absurd rfl h, hb⟩
  | true =>
    rw [hr] at HR
    obtain ⟨hrt, ks, hok, hteq⟩ := (tree_iff l w t).1 hr
    have hpos : 0 < l.length := (rightT_q l hrt).pos
    have HIN := Lib.hid (show ∀ x ∈ t, ∃ q p f : Nat, x.node = q ∧ q < l.length ∧ x.from_ = f ∧ x.to = p ∧ f ≤ w.length ∧ p ≤ w.length from fun x hx => by
      rw [hteq] at hx
      obtain ⟨h1, h2, h3, h4, h5⟩ := nodes_in (parts_ok l hrt) _ 1 l.length (Nat.le_refl _) hok (fun r hr => by simp [rootsO] at hr; rw [hr]; simp; omega) x hx
      exact ⟨x.node.toNat, x.to.toNat, x.from_.toNat, by omega, by omega, by omega, by omega, by omega, by omega⟩)
    have HFL := Lib.hid (frames_len l w t hr)
    have HFT := Lib.hid (show framesT l w t = (List.range (w.length + 1)).map (rowF (frEvents t)) by unfold framesT rowsE; rw [if_pos hr])
    have HE := Lib.hid hE
    have HATC := Lib.hid (fun (i : Nat) (hi : i ≤ 1000000) W' (hW : Below W.heap.size W W') => at_calls t (by omega) i hi ta tc W' (hE.below hW))
    have HS0 := Lib.hid (show stI t 0 = ([], []) by unfold stI; rw [if_pos (Nat.zero_le _)]; rfl)
    have HSL := Lib.hid (stI_len t)
    have HSS := Lib.hid (stI_step t)
    have HSE := Lib.hid (stI_last t)
    have HSF := Lib.hid (show (stI t (t.length + 1)).1 = frEvents t by unfold stI; rw [if_neg (by omega)])
    have HAL := Lib.hid (show ∀ i (h : i < t.length), atE t i = t[i] from fun i h => atE_lt t i h)
    clear hN hT hE hrt hok hteq hr
    generalize stI t = SI at *
    have hmk := fun W => run_make_row' (P := Try.prog) 29 35 (.slice none 0 0) 24 Try.underlying29 infoR12 rfl .i64 .i64 (w.length + 1) (by omega) (by omega) W
    have xw : IntKind.i64.wrap ((w.length : Int) + 1) = (w.length : Int) + 1 := IntWalk.i64_in _ (by omega)
    rw [show ((w.length + 1 : Nat) : Int) = (w.length : Int) + 1 from rfl] at hmk
    go_enter Try.func12, Try.ntmps12
    go_wp2_with fail
    refine HR.mono ?_
    rintro e w1 ⟨rfl, hb⟩
    have HB := Lib.hid hb
    clear HR hb
    go_upto_region 4 with fail
    have HB1 := Lib.hid (HB.out.alloc HB.out.size (.cells (madeCells #[.slice none 0 0] (w.length + 1)) 35))
    have HR0 := Lib.hid (RowsI.new w1 (w.length + 1) W.heap.size HB.out.size)
    have hWT : W.heap.size ≤ w1.heap.size := HB.out.size
    clear hmk xw HB
    generalize w1.alloc (.cells (madeCells #[.slice none 0 0] (w.length + 1)) 35) = w2 at *
    generalize w1.heap.size = T at *
    go_wp2_with fail
    go_loopw [8, 9] (fun vo vi wr => ∃ (i : Nat) (a : Option Addr) (c : Nat) (S : Nat → Prop), i ≤ t.length + 1 ∧ vi = .int .i64 i ∧ vo = .slice a (SI i).2.length c ∧ FrS W.heap.size (w.length + 1) T S (SI i).1 (SI i).2 (.slice a (SI i).2.length c) wr ∧ (∀ k, S k → W.heap.size ≤ k) ∧ Below W.heap.size W wr) (fun _ vi _ => t.length + 1 - (intOf vi).toNat)
    case atStart =>
      refine ⟨0, none, 0, fun g => g = T, Nat.zero_le _, rfl, by rw [HS0.out]; rfl, ?_, fun k hk => by subst hk; exact hWT, HB1.out⟩
      rw [HS0.out]
      exact ⟨HR0.out, OwE.nil _ _, fun g hg => (by cases hg), fun x hx => (by cases hx)⟩
    case round =>
      obtain ⟨i, a, c, S, hi, rfl, rfl, hf, hS, hB⟩ := hrel
      clear HR0 HB1
      by_cases hlt : i ≤ t.length
      · have hlen := HSL.out i hlt
        have g1 : decide ((i : Int) ≤ (t.length : Int)) = true := by rw [decide_eq_true_iff]; omega
        have g2 : decide (i ≤ t.length) = true := decide_eq_true hlt
        have xi : IntKind.i64.wrap ((i : Int) + 1) = (i : Int) + 1 := IntWalk.i64_in _ (by omega)
        have HATI := Lib.hid (fun W' hW => HATC.out i (by omega) W' hW)
        have hst := HSS.out i
        have hse := HSE.out
        generalize hxx : atE t i = x at *
        obtain ⟨EV, hEV⟩ : ∃ EV, EV = (SI i).1 ++ (closeT x.depth (SI i).2).1 := ⟨_, rfl⟩
        obtain ⟨ST, hST⟩ : ∃ ST, ST = (closeT x.depth (SI i).2).2 := ⟨_, rfl⟩
        have hEVl : EV.length + ST.length = 2 * i := by
          have := close_len x.depth (SI i).2
          rw [hEV, hST, List.length_append]; omega
        have HEV0 := Lib.hid hEV
        have HST0 := Lib.hid hST
        have HNX := Lib.hid (show ∀ h : i < t.length, SI (i + 1) = (EV ++ [(x.from_, 2 * x.node)], x :: ST) from fun h => by rw [hst h, hEV, hST])
        have HNL := Lib.hid (show i = t.length → SI (t.length + 1) = (EV, ST) from fun h => by
          subst h
          rw [hse, hxx, hEV, hST])
        have HF0 := Lib.hid hf
        have HB0 := Lib.hid hB
        have HSW := Lib.hid hS
        clear hst hse hEV hST hf hB hS
        go_wp2_with fail
        go_loopw [8] (fun vo wq => ∃ (a1 : Option Addr) (c1 : Nat) (S1 : Nat → Prop) (ev1 : List (Int × Int)) (st1 : List EnN), vo = .slice a1 st1.length c1 ∧ FrS W.heap.size (w.length + 1) T S1 ev1 st1 (.slice a1 st1.length c1) wq ∧ EV = ev1 ++ (closeT x.depth st1).1 ∧ ST = (closeT x.depth st1).2 ∧ ev1.length + st1.length = 2 * i ∧ (∀ k, S1 k → W.heap.size ≤ k) ∧ Below W.heap.size W wq) (fun vo _ => lenF vo)
        case atStart => exact ⟨a, c, S, _, _, rfl, HF0.out, HEV0.out, HST0.out, hlen, HSW.out, HB0.out⟩
        case round =>
          obtain ⟨a1, c1, S1, ev1, st1, rfl, hf0, hEV, hST, hlen1, hS1, hB⟩ := hrel
          clear HF0 HEV0 HST0 HSW HB0
          have HSB := Lib.hid hB
          cases st1 with
          | nil =>
            have hcs : closeT x.depth [] = ([], []) := rfl
            rw [hcs] at hEV hST
            simp only [List.append_nil] at hEV
            obtain rfl : ST = [] := hST
            obtain rfl : EV = ev1 := hEV
            go_upto_region 8 with fail
            refine region_steps (S := fun w' => Below wr.heap.size wr w') (by kernel_rfl) ((Below.refl _ _).drew) ?_
            simp only [List.size_toArray, List.length_cons, List.length_nil, Nat.reduceAdd, Array.replicate_succ, Array.replicate_zero, List.push_toArray, List.nil_append, List.cons_append]
            refine AnyS.next (i := 0) (d := some 26) (v := .slice a1 0 c1) rfl rfl (by kernel_rfl) (by kernel_rfl) (by kernel_rfl) (StepsIf.yield (by kernel_rfl) (fun w' hS => by clear hS; go_simp)) ?_
            intro a' ha'
            simp only [Act.put, List.setIfInBounds_toArray, List.set_cons_zero, List.set_cons_succ] at ha'
            subst ha'
            refine AnyS.next (i := 1) (d := some 27) (v := .int .i64 0) rfl rfl (by kernel_rfl) (by kernel_rfl) (by kernel_rfl) (StepsIf.yield (by kernel_rfl) (fun w' hS => by clear hS; go_simp)) ?_
            intro a' ha'
            simp only [Act.put, List.setIfInBounds_toArray, List.set_cons_zero, List.set_cons_succ] at ha'
            subst ha'
            refine AnyS.next (i := 2) (d := some 28) (v := .bool false) rfl rfl (by kernel_rfl) (by kernel_rfl) (by kernel_rfl) (StepsIf.yield (by kernel_rfl) (fun w' hS => by clear hS; go_simp)) ?_
            intro a' ha'
            simp only [Act.put, List.setIfInBounds_toArray, List.set_cons_zero, List.set_cons_succ] at ha'
            subst ha'
            refine AnyS.next (i := 3) (d := some 29) (v := .bool false) rfl rfl (by kernel_rfl) (by kernel_rfl) (by kernel_rfl) (StepsIf.yield (by kernel_rfl) (fun w' hS => by clear hS; go_simp)) ?_
            intro a' ha'
            simp only [Act.put, List.setIfInBounds_toArray, List.set_cons_zero, List.set_cons_succ] at ha'
            subst ha'
            refine AnyS.next (i := 4) (d := some 30) (v := undef) rfl rfl (by kernel_rfl) (by kernel_rfl) (by kernel_rfl) (StepsIf.no (by kernel_rfl)) ?_
            intro a' ha'
            simp only [Act.put, List.setIfInBounds_toArray, List.set_cons_zero, List.set_cons_succ] at ha'
            subst ha'
            refine AnyS.next (i := 5) (d := some 31) (v := undef) rfl rfl (by kernel_rfl) (by kernel_rfl) (by kernel_rfl) (StepsIf.no (by kernel_rfl)) ?_
            intro a' ha'
            simp only [Act.put, List.setIfInBounds_toArray, List.set_cons_zero, List.set_cons_succ] at ha'
            subst ha'
            refine AnyS.next (i := 6) (d := some 32) (v := undef) rfl rfl (by kernel_rfl) (by kernel_rfl) (by kernel_rfl) (StepsIf.no (by kernel_rfl)) ?_
            intro a' ha'
            simp only [Act.put, List.setIfInBounds_toArray, List.set_cons_zero, List.set_cons_succ] at ha'
            subst ha'
            refine AnyS.next (i := 7) (d := some 33) (v := undef) rfl rfl (by kernel_rfl) (by kernel_rfl) (by kernel_rfl) (StepsIf.no (by kernel_rfl)) ?_
            intro a' ha'
            simp only [Act.put, List.setIfInBounds_toArray, List.set_cons_zero, List.set_cons_succ] at ha'
            subst ha'
            refine AnyS.next (i := 8) (d := some 34) (v := undef) rfl rfl (by kernel_rfl) (by kernel_rfl) (by kernel_rfl) (StepsIf.no (by kernel_rfl)) ?_
            intro a' ha'
            simp only [Act.put, List.setIfInBounds_toArray, List.set_cons_zero, List.set_cons_succ] at ha'
            subst ha'
            refine AnyS.next (i := 9) (d := some 35) (v := undef) rfl rfl (by kernel_rfl) (by kernel_rfl) (by kernel_rfl) (StepsIf.no (by kernel_rfl)) ?_
            intro a' ha'
            simp only [Act.put, List.setIfInBounds_toArray, List.set_cons_zero, List.set_cons_succ] at ha'
            subst ha'
            refine AnyS.next (i := 10) (d := some 36) (v := undef) rfl rfl (by kernel_rfl) (by kernel_rfl) (by kernel_rfl) (StepsIf.no (by kernel_rfl)) ?_
            intro a' ha'
            simp only [Act.put, List.setIfInBounds_toArray, List.set_cons_zero, List.set_cons_succ] at ha'
            subst ha'
            refine AnyS.next (i := 11) (d := some 37) (v := undef) rfl rfl (by kernel_rfl) (by kernel_rfl) (by kernel_rfl) (StepsIf.no (by kernel_rfl)) ?_
            intro a' ha'
            simp only [Act.put, List.setIfInBounds_toArray, List.set_cons_zero, List.set_cons_succ] at ha'
            subst ha'
            refine AnyS.next (i := 12) (d := some 38) (v := undef) rfl rfl (by kernel_rfl) (by kernel_rfl) (by kernel_rfl) (StepsIf.no (by kernel_rfl)) ?_
            intro a' ha'
            simp only [Act.put, List.setIfInBounds_toArray, List.set_cons_zero, List.set_cons_succ] at ha'
            subst ha'
            refine AnyS.next (i := 13) (d := some 39) (v := undef) rfl rfl (by kernel_rfl) (by kernel_rfl) (by kernel_rfl) (StepsIf.no (by kernel_rfl)) ?_
            intro a' ha'
            simp only [Act.put, List.setIfInBounds_toArray, List.set_cons_zero, List.set_cons_succ] at ha'
            subst ha'
            refine AnyS.next (i := 14) (d := some 40) (v := undef) rfl rfl (by kernel_rfl) (by kernel_rfl) (by kernel_rfl) (StepsIf.no (by kernel_rfl)) ?_
            intro a' ha'
            simp only [Act.put, List.setIfInBounds_toArray, List.set_cons_zero, List.set_cons_succ] at ha'
            subst ha'
            refine AnyS.next (i := 15) (d := some 41) (v := undef) rfl rfl (by kernel_rfl) (by kernel_rfl) (by kernel_rfl) (StepsIf.no (by kernel_rfl)) ?_
            intro a' ha'
            simp only [Act.put, List.setIfInBounds_toArray, List.set_cons_zero, List.set_cons_succ] at ha'
            subst ha'
            refine AnyS.next (i := 16) (d := some 42) (v := .bool false) rfl rfl (by kernel_rfl) (by kernel_rfl) (by kernel_rfl) (StepsIf.yield (by kernel_rfl) (fun w' hS => by clear hS; go_simp)) ?_
            intro a' ha'
            simp only [Act.put, List.setIfInBounds_toArray, List.set_cons_zero, List.set_cons_succ] at ha'
            subst ha'
            refine AnyS.done (by kernel_rfl) ?_ _
            intro w5 hS5
            have HF5 := Lib.hid (hf0.below hS5)
            have HB5 := Lib.hid (hB.trans (hS5.mono hB.size))
            have HS5 := Lib.hid hS1
            clear hS5 hf0 hB HSB hS1
            by_cases hilt : i < t.length
            · obtain ⟨q, p, f, hq1, hq, hf1, hp1, hfw, hpw⟩ := HIN.out t[i] (List.getElem_mem hilt)
              rw [← HAL.out i hilt, hxx] at hq1 hf1 hp1
              have h1 : decide ((i : Int) < (t.length : Int)) = true := by rw [decide_eq_true_iff]; omega
              have h2 : decide (i < t.length) = true := decide_eq_true hilt
              have h4 : (i : Int) < (t.length : Int) := by omega
              obtain ⟨g, off, rfl, hg, hc⟩ := HE.out (by rintro rfl; simp at hilt)
              have hbt := fun W' (hW : Below W.heap.size W W') (j : Nat) (hj : j < 4) => (hW.cell (p := ⟨g, off + i * 4 + j, none⟩) hg).trans (hc i hilt j hj)
              rw [← HAL.out i hilt, hxx] at hbt
              have hnx := HNX.out hilt
              obtain ⟨xd, xn, xf, xt⟩ := x
              simp only at hq1 hf1 hp1
              subst hq1 hf1 hp1
              simp only at hnx
              have HNX2 := Lib.hid hnx
              have HBT := Lib.hid hbt
              have hev : EV.length ≤ 1000000 := by omega
              have fI : (f : Int) < (w.length : Int) + 1 := by omega
              have fN : f < w.length + 1 := by omega
              clear hc hbt hnx HNX HNL
              go_upto_region 13 with fail
              have hSlt := HF5.out.rows.lt
              have hf := HF5.out.below ((Below.refl _ _).drew)
              have hbw := HB5.out.drew
              obtain ⟨w6, hw6⟩ : ∃ w6, w6 = w5.drew := ⟨_, rfl⟩
              rw [← hw6] at hf hbw
              have HWD := Lib.hid hw6
              clear hw6
              have hgW : g < W.heap.size := hg
              obtain ⟨b, cb, gg, cap, W2, k1, k2, k3, k4, k5, k6, S', k7, k8, k9⟩ := hf.push f fN hev (2 * (q : Int)) 35
              have HW2 := Lib.hid k2
              have HKP := Lib.hid (show ∀ k W', lvl [w6, w6.alloc (.cells #[.int .i64 (2 * (q : Int))] 3), W2] k W' → KpA (fun k => (Value.slice b (rowF EV f).length cb).ownBlock = some k) w6 W' from fun k W' hl => by
                have hm := hl.mem
                simp only [List.mem_cons, List.not_mem_nil, or_false] at hm
                rcases hm with rfl | rfl | rfl
                · exact KpA.refl _ _
                · exact k4
                · exact k3)
              have HTC := Lib.hid (show ∀ k W', lvl [w6, w6.alloc (.cells #[.int .i64 (2 * (q : Int))] 3), W2] k W' → W'.cell? ⟨T, f, none⟩ = some (.slice b (rowF EV f).length cb) from fun k W' hl => ((HKP.out k W' hl).cell hf.rows.tl (fun hh => (k5 T hh).2 rfl) f).trans k1)
              have HXC := Lib.hid (show ∀ k W', lvl [w6, w6.alloc (.cells #[.int .i64 (2 * (q : Int))] 3), W2] k W' → W'.cell? ⟨g, off + i * 4 + 1, none⟩ = some (.int .i64 (q : Nat)) ∧ W'.cell? ⟨g, off + i * 4 + 2, none⟩ = some (.int .i64 (f : Nat)) from fun k W' hl => by
                have hb2 := hbw.trans ((HKP.out k W' hl).toBelow hbw.size (fun k hk => HS5.out k (k5 k hk).1))
                exact ⟨HBT.out W' hb2 1 (by decide), HBT.out W' hb2 2 (by decide)⟩)
              have HS7 := Lib.hid k7
              have HS8 := Lib.hid k8
              have HS9 := Lib.hid k9
              have HBW := Lib.hid hbw
              have fT := k6
              have cT : W2.cell? ⟨T, f, none⟩ = some (.slice b (rowF EV f).length cb) := (k3.cell hf.rows.tl (fun hh => (k5 T hh).2 rfl) f).trans k1
              have xq : IntKind.i64.wrap (2 * (q : Int)) = 2 * (q : Int) := IntWalk.i64_in _ (by omega)
              clear k1 k2 k3 k4 k5 k6 k7 k8 k9 hf HKP hbw
              generalize (rowF EV f).length = len at *
              refine region_stepsD (S := lvl [w6, w6.alloc (.cells #[.int .i64 (2 * (q : Int))] 3), W2]) (m := 23) (n := 23) (k := 0) [20, 21] rfl (by kernel_rfl) (by kernel_rfl) (by rw [← HWD.out]; rfl) ?_
              simp only [List.size_toArray, List.length_cons, List.length_nil, Nat.reduceAdd, Array.replicate_succ, Array.replicate_zero, List.push_toArray, List.nil_append, List.cons_append]
              refine AnyD.next (m := 23) (i := 0) (d := some 73) (v := .slice (some ⟨T, 0, none⟩) (w.length + 1) (w.length + 1)) [22, 0] rfl rfl (by kernel_rfl) (by kernel_rfl) (by kernel_rfl) (by kernel_rfl) (by kernel_rfl) (fun k => StepsIf.yield (by kernel_rfl) (fun w' hS => by clear hS; go_simp)) ?_
              intro a' ha'
              simp only [Act.put, List.setIfInBounds_toArray, List.set_cons_zero, List.set_cons_succ] at ha'
              subst ha'
              refine AnyD.next (m := 23) (i := 1) (d := some 74) (v := .slice (some ⟨g, off, none⟩) t.length tc) [22, 5, 4, 3, 1] rfl rfl (by kernel_rfl) (by kernel_rfl) (by kernel_rfl) (by kernel_rfl) (by kernel_rfl) (fun k => StepsIf.yield (by kernel_rfl) (fun w' hS => by clear hS; go_simp)) ?_
              intro a' ha'
              simp only [Act.put, List.setIfInBounds_toArray, List.set_cons_zero, List.set_cons_succ] at ha'
              subst ha'
              refine AnyD.next (m := 23) (i := 2) (d := some 75) (v := .int .i64 (i : Nat)) [22, 5, 4, 3, 2] rfl rfl (by kernel_rfl) (by kernel_rfl) (by kernel_rfl) (by kernel_rfl) (by kernel_rfl) (fun k => StepsIf.yield (by kernel_rfl) (fun w' hS => by clear hS; go_simp)) ?_
              intro a' ha'
              simp only [Act.put, List.setIfInBounds_toArray, List.set_cons_zero, List.set_cons_succ] at ha'
              subst ha'
              refine AnyD.next (m := 23) (i := 3) (d := some 76) (v := .pointer (some ⟨g, off + i * 4, none⟩)) [22, 5, 4, 3] rfl rfl (by kernel_rfl) (by kernel_rfl) (by kernel_rfl) (by kernel_rfl) (by kernel_rfl) (fun k => StepsIf.yield (by kernel_rfl) (fun w' hS => by clear hS; go_simp)) ?_
              intro a' ha'
              simp only [Act.put, List.setIfInBounds_toArray, List.set_cons_zero, List.set_cons_succ] at ha'
              subst ha'
              refine AnyD.next (m := 23) (i := 4) (d := some 77) (v := .pointer (some ⟨g, off + i * 4 + 2, none⟩)) [22, 5, 4] rfl rfl (by kernel_rfl) (by kernel_rfl) (by kernel_rfl) (by kernel_rfl) (by kernel_rfl) (fun k => StepsIf.yield (by kernel_rfl) (fun w' hS => by clear hS; go_simp)) ?_
              intro a' ha'
              simp only [Act.put, List.setIfInBounds_toArray, List.set_cons_zero, List.set_cons_succ] at ha'
              subst ha'
              refine AnyD.next (m := 23) (i := 5) (d := some 78) (v := .int .i64 (f : Nat)) [22, 5] rfl rfl (by kernel_rfl) (by kernel_rfl) (by kernel_rfl) (by kernel_rfl) (by kernel_rfl) (fun k => StepsIf.yield (by kernel_rfl) (fun w' hS => by obtain ⟨e1, e2⟩ := HXC.out k w' hS; clear hS; go_simp)) ?_
              intro a' ha'
              simp only [Act.put, List.setIfInBounds_toArray, List.set_cons_zero, List.set_cons_succ] at ha'
              subst ha'
              refine AnyD.next (m := 23) (i := 6) (d := some 79) (v := .slice (some ⟨T, 0, none⟩) (w.length + 1) (w.length + 1)) [21, 13, 12, 6] rfl rfl (by kernel_rfl) (by kernel_rfl) (by kernel_rfl) (by kernel_rfl) (by kernel_rfl) (fun k => StepsIf.yield (by kernel_rfl) (fun w' hS => by clear hS; go_simp)) ?_
              intro a' ha'
              simp only [Act.put, List.setIfInBounds_toArray, List.set_cons_zero, List.set_cons_succ] at ha'
              subst ha'
              refine AnyD.next (m := 23) (i := 7) (d := some 80) (v := .slice (some ⟨g, off, none⟩) t.length tc) [21, 13, 12, 11, 10, 9, 7] rfl rfl (by kernel_rfl) (by kernel_rfl) (by kernel_rfl) (by kernel_rfl) (by kernel_rfl) (fun k => StepsIf.yield (by kernel_rfl) (fun w' hS => by clear hS; go_simp)) ?_
              intro a' ha'
              simp only [Act.put, List.setIfInBounds_toArray, List.set_cons_zero, List.set_cons_succ] at ha'
              subst ha'
              refine AnyD.next (m := 23) (i := 8) (d := some 81) (v := .int .i64 (i : Nat)) [21, 13, 12, 11, 10, 9, 8] rfl rfl (by kernel_rfl) (by kernel_rfl) (by kernel_rfl) (by kernel_rfl) (by kernel_rfl) (fun k => StepsIf.yield (by kernel_rfl) (fun w' hS => by clear hS; go_simp)) ?_
              intro a' ha'
              simp only [Act.put, List.setIfInBounds_toArray, List.set_cons_zero, List.set_cons_succ] at ha'
              subst ha'
              refine AnyD.next (m := 23) (i := 9) (d := some 82) (v := .pointer (some ⟨g, off + i * 4, none⟩)) [21, 13, 12, 11, 10, 9] rfl rfl (by kernel_rfl) (by kernel_rfl) (by kernel_rfl) (by kernel_rfl) (by kernel_rfl) (fun k => StepsIf.yield (by kernel_rfl) (fun w' hS => by clear hS; go_simp)) ?_
              intro a' ha'
              simp only [Act.put, List.setIfInBounds_toArray, List.set_cons_zero, List.set_cons_succ] at ha'
              subst ha'
              refine AnyD.next (m := 23) (i := 10) (d := some 83) (v := .pointer (some ⟨g, off + i * 4 + 2, none⟩)) [21, 13, 12, 11, 10] rfl rfl (by kernel_rfl) (by kernel_rfl) (by kernel_rfl) (by kernel_rfl) (by kernel_rfl) (fun k => StepsIf.yield (by kernel_rfl) (fun w' hS => by clear hS; go_simp)) ?_
              intro a' ha'
              simp only [Act.put, List.setIfInBounds_toArray, List.set_cons_zero, List.set_cons_succ] at ha'
              subst ha'
              refine AnyD.next (m := 23) (i := 11) (d := some 84) (v := .int .i64 (f : Nat)) [21, 13, 12, 11] rfl rfl (by kernel_rfl) (by kernel_rfl) (by kernel_rfl) (by kernel_rfl) (by kernel_rfl) (fun k => StepsIf.yield (by kernel_rfl) (fun w' hS => by obtain ⟨e1, e2⟩ := HXC.out k w' hS; clear hS; go_simp)) ?_
              intro a' ha'
              simp only [Act.put, List.setIfInBounds_toArray, List.set_cons_zero, List.set_cons_succ] at ha'
              subst ha'
              refine AnyD.next (m := 23) (i := 12) (d := some 85) (v := .pointer (some ⟨T, f, none⟩)) [21, 13, 12] rfl rfl (by kernel_rfl) (by kernel_rfl) (by kernel_rfl) (by kernel_rfl) (by kernel_rfl) (fun k => StepsIf.yield (by kernel_rfl) (fun w' hS => by clear hS; go_simp)) ?_
              intro a' ha'
              simp only [Act.put, List.setIfInBounds_toArray, List.set_cons_zero, List.set_cons_succ] at ha'
              subst ha'
              refine AnyD.next (m := 23) (i := 13) (d := some 86) (v := .slice b len cb) [21, 13] rfl rfl (by kernel_rfl) (by kernel_rfl) (by kernel_rfl) (by kernel_rfl) (by kernel_rfl) (fun k => StepsIf.yield (by kernel_rfl) (fun w' hS => by have e7 := HTC.out k w' hS; clear hS; go_simp)) ?_
              intro a' ha'
              simp only [Act.put, List.setIfInBounds_toArray, List.set_cons_zero, List.set_cons_succ] at ha'
              subst ha'
              refine AnyD.next (m := 23) (i := 14) (d := some 87) (v := .slice (some ⟨g, off, none⟩) t.length tc) [21, 20, 19, 18, 17, 16, 14] rfl rfl (by kernel_rfl) (by kernel_rfl) (by kernel_rfl) (by kernel_rfl) (by kernel_rfl) (fun k => StepsIf.yield (by kernel_rfl) (fun w' hS => by clear hS; go_simp)) ?_
              intro a' ha'
              simp only [Act.put, List.setIfInBounds_toArray, List.set_cons_zero, List.set_cons_succ] at ha'
              subst ha'
              refine AnyD.next (m := 23) (i := 15) (d := some 88) (v := .int .i64 (i : Nat)) [21, 20, 19, 18, 17, 16, 15] rfl rfl (by kernel_rfl) (by kernel_rfl) (by kernel_rfl) (by kernel_rfl) (by kernel_rfl) (fun k => StepsIf.yield (by kernel_rfl) (fun w' hS => by clear hS; go_simp)) ?_
              intro a' ha'
              simp only [Act.put, List.setIfInBounds_toArray, List.set_cons_zero, List.set_cons_succ] at ha'
              subst ha'
              refine AnyD.next (m := 23) (i := 16) (d := some 89) (v := .pointer (some ⟨g, off + i * 4, none⟩)) [21, 20, 19, 18, 17, 16] rfl rfl (by kernel_rfl) (by kernel_rfl) (by kernel_rfl) (by kernel_rfl) (by kernel_rfl) (fun k => StepsIf.yield (by kernel_rfl) (fun w' hS => by clear hS; go_simp)) ?_
              intro a' ha'
              simp only [Act.put, List.setIfInBounds_toArray, List.set_cons_zero, List.set_cons_succ] at ha'
              subst ha'
              refine AnyD.next (m := 23) (i := 17) (d := some 90) (v := .pointer (some ⟨g, off + i * 4 + 1, none⟩)) [21, 20, 19, 18, 17] rfl rfl (by kernel_rfl) (by kernel_rfl) (by kernel_rfl) (by kernel_rfl) (by kernel_rfl) (fun k => StepsIf.yield (by kernel_rfl) (fun w' hS => by clear hS; go_simp)) ?_
              intro a' ha'
              simp only [Act.put, List.setIfInBounds_toArray, List.set_cons_zero, List.set_cons_succ] at ha'
              subst ha'
              refine AnyD.next (m := 23) (i := 18) (d := some 91) (v := .int .i64 (q : Nat)) [21, 20, 19, 18] rfl rfl (by kernel_rfl) (by kernel_rfl) (by kernel_rfl) (by kernel_rfl) (by kernel_rfl) (fun k => StepsIf.yield (by kernel_rfl) (fun w' hS => by obtain ⟨e1, e2⟩ := HXC.out k w' hS; clear hS; go_simp)) ?_
              intro a' ha'
              simp only [Act.put, List.setIfInBounds_toArray, List.set_cons_zero, List.set_cons_succ] at ha'
              subst ha'
              refine AnyD.next (m := 23) (i := 19) (d := some 92) (v := .int .i64 (2 * (q : Int))) [21, 20, 19] rfl rfl (by kernel_rfl) (by kernel_rfl) (by kernel_rfl) (by kernel_rfl) (by kernel_rfl) (fun k => StepsIf.yield (by kernel_rfl) (fun w' hS => by clear hS; go_simp)) ?_
              intro a' ha'
              simp only [Act.put, List.setIfInBounds_toArray, List.set_cons_zero, List.set_cons_succ] at ha'
              subst ha'
              refine AnyD.turn (m := 23) (i := 20) (d := some 93) (k := 0) (v := .slice (some ⟨w6.heap.size, 0, none⟩) 1 1) rfl rfl (by kernel_rfl) (by kernel_rfl) (by kernel_rfl) (StepsL.lev rfl rfl (by kernel_rfl) (by go_simp)) ?_
              intro a' ha'
              simp only [Act.put, List.setIfInBounds_toArray, List.set_cons_zero, List.set_cons_succ] at ha'
              subst ha'
              refine AnyD.turn (m := 23) (i := 21) (d := some 94) (k := 1) (v := .slice (some ⟨gg, 0, none⟩) (len + 1) cap) rfl rfl (by kernel_rfl) (by kernel_rfl) (by kernel_rfl) (StepsL.lev rfl rfl (by kernel_rfl) (exec_appI rfl rfl rfl HW2.out)) ?_
              intro a' ha'
              simp only [Act.put, List.setIfInBounds_toArray, List.set_cons_zero, List.set_cons_succ] at ha'
              subst ha'
              refine AnyD.next (m := 23) (i := 22) (d := some 95) (v := .pointer (some ⟨T, f, none⟩)) [22] rfl rfl (by kernel_rfl) (by kernel_rfl) (by kernel_rfl) (by kernel_rfl) (by kernel_rfl) (fun k => StepsIf.yield (by kernel_rfl) (fun w' hS => by clear hS; go_simp)) ?_
              intro a' ha'
              simp only [Act.put, List.setIfInBounds_toArray, List.set_cons_zero, List.set_cons_succ] at ha'
              subst ha'
              refine AnyD.endC (n := 2) (by kernel_rfl) (by kernel_rfl) (fun w' hS => ?_)
              obtain rfl := hS.is rfl
              refine wpAny_one (i := 23) (o := ⟨none, .store 35 (.tmp 95) (.tmp 94), _, _, _, _⟩) (by kernel_rfl) rfl (by kernel_rfl) ?_
              refine wp_absX (fun K hK => ?_)
              go_simp
              refine hK _ _ ?_
              clear hK K
              refine wpAny_none (P := Try.prog) (by kernel_rfl) ?_
              have HF8 := Lib.hid HS7.out
              have HB8 := Lib.hid (HBW.out.trans (HS9.out.toBelow HBW.out.size HS5.out))
              have hz6 : W.heap.size ≤ w6.heap.size := HBW.out.size
              have HSN := Lib.hid (show ∀ k, S' k → W.heap.size ≤ k from fun k hk => (HS8.out k hk).elim (HS5.out k) (fun h => Nat.le_trans hz6 h))
              clear fT cT HTC HXC HW2 HWD HS7 HS8 HS9 HBW
              generalize w'.setCell ⟨T, f, none⟩ (.slice (some ⟨gg, 0, none⟩) (len + 1) cap) = w8 at *
              have hbt8 := fun j hj => HBT.out w8 HB8.out j hj
              have d0 := hbt8 0 (by decide); have d1 := hbt8 1 (by decide); have d2 := hbt8 2 (by decide); have d3 := hbt8 3 (by decide)
              simp only [enA, List.getElem?_toArray, List.getElem?_cons_zero, List.getElem?_cons_succ, Nat.add_zero] at d0 d1 d2 d3
              have hba : Below w8.heap.size w8 (w8.alloc (.cells (enI xd q f p) 44)) := (Below.refl _ _).alloc (Nat.le_refl _) _
              have hz8 := HB8.out.size
              have hlw := fun (k : Nat) hk => (HF8.out.ow.lt (g := k) hk).1
              obtain ⟨g6, cap6, w9, hr6, hf6, hk6⟩ := (HF8.out.below hba).opened (by first | omega | simp) xd f p q (by omega) (by omega) w8.heap.size (Blk.new w8 _ _) 22
              have HA6 := Lib.hid hr6
              have HF6 := Lib.hid hf6
              have HB6 := Lib.hid ((HB8.out.trans (hba.mono HB8.out.size)).trans (hk6.toBelow (Nat.le_trans HB8.out.size hba.size) (fun k hk => hlw k hk)))
              clear hbt8 hba hr6 hf6 hk6 hlw
              go_wp2_with (at_builtin; refine wpList_valX rfl (exec_appN rfl rfl rfl HA6.out) ?_)
              go_roundw
              case rel =>
                refine ⟨i + 1, some ⟨g6, 0, none⟩, cap6, S', by omega, by simp, ?_, ?_, HSN.out, HB6.out⟩
                · rw [HNX2.out]; rfl
                · rw [HNX2.out]; exact HF6.out
              case measure => simp [intOf]; omega
            · obtain rfl : i = t.length := by omega
              have h1 : decide ((t.length : Int) < (t.length : Int)) = false := by rw [decide_eq_false_iff_not]; omega
              have h2 : decide (t.length < t.length) = false := by rw [decide_eq_false_iff_not]; omega
              go_wp2_with fail
              go_roundw
              case rel =>
                refine ⟨t.length + 1, a1, c1, S1, by omega, by simp, ?_, ?_, HS5.out, HB5.out⟩
                · rw [HNL.out rfl] <;> rfl
                · rw [HNL.out rfl]; exact HF5.out
              case measure => simp [intOf]

          | cons y r =>
            have lc2 : (y :: r).length = r.length + 1 := rfl
            rw [lc2] at hf0 hlen1
            obtain ⟨g0, c2, e, _, hg0, hcap⟩ := hf0.ow.blk (by simp)
            rw [List.length_reverse, lc2] at e hcap
            cases e
            obtain ⟨g1, o1, e, _, hc⟩ := hf0.ow.ents (by simp)
            cases e
            have hl0 : r.length < (y :: r).reverse.length := by simp
            have dd := fun (j : Nat) (hj : j < 4) => hc r.length hl0 j hj
            rw [rev_top] at dd
            have d0 := dd 0 (by decide); have d1 := dd 1 (by decide); have d2 := dd 2 (by decide); have d3 := dd 3 (by decide)
            simp only [enA, List.getElem?_toArray, List.getElem?_cons_zero, List.getElem?_cons_succ, Nat.zero_add, Nat.add_zero] at d0 d1 d2 d3
            have xs : IntKind.i64.wrap ((r.length : Int) + 1 - 1) = (r.length : Int) := by rw [show (r.length : Int) + 1 - 1 = (r.length : Int) by omega]; exact IntWalk.i64_in _ (by omega)
            have xs2 : IntKind.i64.wrap (r.length : Int) = (r.length : Int) := IntWalk.i64_in _ (by omega)
            have rI : (r.length : Int) < (r.length : Int) + 1 := by omega
            have rG : decide ((0 : Int) < (r.length : Int) + 1) = true := by rw [decide_eq_true_iff]; omega
            have HYC := Lib.hid (show ∀ W', Below wr.heap.size wr W' → W'.cell? ⟨g0, r.length * 4, none⟩ = some (.int .i64 y.depth) from fun W' hb => (hb.cell (p := ⟨g0, r.length * 4, none⟩) hg0).trans d0)
            have HYB := Lib.hid (show ∀ W', Below wr.heap.size wr W' → W'.cell? ⟨g0, r.length * 4, none⟩ = some (.int .i64 y.depth) ∧ W'.cell? ⟨g0, r.length * 4 + 1, none⟩ = some (.int .i64 y.node) ∧ W'.cell? ⟨g0, r.length * 4 + 2, none⟩ = some (.int .i64 y.from_) ∧ W'.cell? ⟨g0, r.length * 4 + 3, none⟩ = some (.int .i64 y.to) from fun W' hb => ⟨(hb.cell (p := ⟨g0, r.length * 4, none⟩) hg0).trans d0, (hb.cell (p := ⟨g0, r.length * 4 + 1, none⟩) hg0).trans d1, (hb.cell (p := ⟨g0, r.length * 4 + 2, none⟩) hg0).trans d2, (hb.cell (p := ⟨g0, r.length * 4 + 3, none⟩) hg0).trans d3⟩)
            obtain ⟨bb, hbb⟩ : ∃ bb, decide (x.depth ≤ y.depth) = bb := ⟨_, rfl⟩
            clear dd hc d0 d1 d2 d3
            go_upto_region 8 with fail
            refine region_steps (S := fun w' => Below wr.heap.size wr w') (by kernel_rfl) ((Below.refl _ _).drew) ?_
            simp only [List.size_toArray, List.length_cons, List.length_nil, Nat.reduceAdd, Array.replicate_succ, Array.replicate_zero, List.push_toArray, List.nil_append, List.cons_append]
            refine AnyS.next (i := 0) (d := some 26) (v := .slice (some ⟨g0, 0, none⟩) (r.length + 1) c1) rfl rfl (by kernel_rfl) (by kernel_rfl) (by kernel_rfl) (StepsIf.yield (by kernel_rfl) (fun w' hS => by clear hS; go_simp)) ?_
            intro a' ha'
            simp only [Act.put, List.setIfInBounds_toArray, List.set_cons_zero, List.set_cons_succ] at ha'
            subst ha'
            refine AnyS.next (i := 1) (d := some 27) (v := .int .i64 ((r.length : Int) + 1)) rfl rfl (by kernel_rfl) (by kernel_rfl) (by kernel_rfl) (StepsIf.yield (by kernel_rfl) (fun w' hS => by clear hS; go_simp)) ?_
            intro a' ha'
            simp only [Act.put, List.setIfInBounds_toArray, List.set_cons_zero, List.set_cons_succ] at ha'
            subst ha'
            refine AnyS.next (i := 2) (d := some 28) (v := .bool true) rfl rfl (by kernel_rfl) (by kernel_rfl) (by kernel_rfl) (StepsIf.yield (by kernel_rfl) (fun w' hS => by clear hS; go_simp)) ?_
            intro a' ha'
            simp only [Act.put, List.setIfInBounds_toArray, List.set_cons_zero, List.set_cons_succ] at ha'
            subst ha'
            refine AnyS.next (i := 3) (d := some 29) (v := .bool true) rfl rfl (by kernel_rfl) (by kernel_rfl) (by kernel_rfl) (StepsIf.yield (by kernel_rfl) (fun w' hS => by clear hS; go_simp)) ?_
            intro a' ha'
            simp only [Act.put, List.setIfInBounds_toArray, List.set_cons_zero, List.set_cons_succ] at ha'
            subst ha'
            refine AnyS.next (i := 4) (d := some 30) (v := .slice ta t.length tc) rfl rfl (by kernel_rfl) (by kernel_rfl) (by kernel_rfl) (StepsIf.yield (by kernel_rfl) (fun w' hS => by clear hS; go_simp)) ?_
            intro a' ha'
            simp only [Act.put, List.setIfInBounds_toArray, List.set_cons_zero, List.set_cons_succ] at ha'
            subst ha'
            refine AnyS.next (i := 5) (d := some 31) (v := .int .i64 (i : Nat)) rfl rfl (by kernel_rfl) (by kernel_rfl) (by kernel_rfl) (StepsIf.yield (by kernel_rfl) (fun w' hS => by clear hS; go_simp)) ?_
            intro a' ha'
            simp only [Act.put, List.setIfInBounds_toArray, List.set_cons_zero, List.set_cons_succ] at ha'
            subst ha'
            refine AnyS.next (i := 6) (d := some 32) (v := .agg (enI x.depth x.node x.from_ x.to)) rfl rfl (by kernel_rfl) (by kernel_rfl) (by kernel_rfl) (StepsIf.call (by kernel_rfl) (fun w' hS => by clear hS; go_simp) (fun w' hS => (HATI.out w' (HSB.out.trans (hS.mono HSB.out.size))).mono fun e1 w'' hh => ⟨hh.1, hS.trans (hh.2.mono hS.size)⟩)) ?_
            intro a' ha'
            simp only [Act.put, List.setIfInBounds_toArray, List.set_cons_zero, List.set_cons_succ] at ha'
            subst ha'
            refine AnyS.next (i := 7) (d := some 33) (v := .int .i64 x.depth) rfl rfl (by kernel_rfl) (by kernel_rfl) (by kernel_rfl) (StepsIf.yield (by kernel_rfl) (fun w' hS => by have hfl := fieldE0 x.depth x.node x.from_ x.to; clear hS; go_simp)) ?_
            intro a' ha'
            simp only [Act.put, List.setIfInBounds_toArray, List.set_cons_zero, List.set_cons_succ] at ha'
            subst ha'
            refine AnyS.next (i := 8) (d := some 34) (v := .slice (some ⟨g0, 0, none⟩) (r.length + 1) c1) rfl rfl (by kernel_rfl) (by kernel_rfl) (by kernel_rfl) (StepsIf.yield (by kernel_rfl) (fun w' hS => by clear hS; go_simp)) ?_
            intro a' ha'
            simp only [Act.put, List.setIfInBounds_toArray, List.set_cons_zero, List.set_cons_succ] at ha'
            subst ha'
            refine AnyS.next (i := 9) (d := some 35) (v := .slice (some ⟨g0, 0, none⟩) (r.length + 1) c1) rfl rfl (by kernel_rfl) (by kernel_rfl) (by kernel_rfl) (StepsIf.yield (by kernel_rfl) (fun w' hS => by clear hS; go_simp)) ?_
            intro a' ha'
            simp only [Act.put, List.setIfInBounds_toArray, List.set_cons_zero, List.set_cons_succ] at ha'
            subst ha'
            refine AnyS.next (i := 10) (d := some 36) (v := .int .i64 ((r.length : Int) + 1)) rfl rfl (by kernel_rfl) (by kernel_rfl) (by kernel_rfl) (StepsIf.yield (by kernel_rfl) (fun w' hS => by clear hS; go_simp)) ?_
            intro a' ha'
            simp only [Act.put, List.setIfInBounds_toArray, List.set_cons_zero, List.set_cons_succ] at ha'
            subst ha'
            refine AnyS.next (i := 11) (d := some 37) (v := .int .i64 (r.length : Nat)) rfl rfl (by kernel_rfl) (by kernel_rfl) (by kernel_rfl) (StepsIf.yield (by kernel_rfl) (fun w' hS => by clear hS; go_simp)) ?_
            intro a' ha'
            simp only [Act.put, List.setIfInBounds_toArray, List.set_cons_zero, List.set_cons_succ] at ha'
            subst ha'
            refine AnyS.next (i := 12) (d := some 38) (v := .pointer (some ⟨g0, r.length * 4, none⟩)) rfl rfl (by kernel_rfl) (by kernel_rfl) (by kernel_rfl) (StepsIf.yield (by kernel_rfl) (fun w' hS => by clear hS; go_simp)) ?_
            intro a' ha'
            simp only [Act.put, List.setIfInBounds_toArray, List.set_cons_zero, List.set_cons_succ] at ha'
            subst ha'
            refine AnyS.next (i := 13) (d := some 39) (v := .pointer (some ⟨g0, r.length * 4, none⟩)) rfl rfl (by kernel_rfl) (by kernel_rfl) (by kernel_rfl) (StepsIf.yield (by kernel_rfl) (fun w' hS => by clear hS; go_simp)) ?_
            intro a' ha'
            simp only [Act.put, List.setIfInBounds_toArray, List.set_cons_zero, List.set_cons_succ] at ha'
            subst ha'
            refine AnyS.next (i := 14) (d := some 40) (v := .int .i64 y.depth) rfl rfl (by kernel_rfl) (by kernel_rfl) (by kernel_rfl) (StepsIf.yield (by kernel_rfl) (fun w' hS => by have e1 := HYC.out w' hS; clear hS; go_simp)) ?_
            intro a' ha'
            simp only [Act.put, List.setIfInBounds_toArray, List.set_cons_zero, List.set_cons_succ] at ha'
            subst ha'
            refine AnyS.next (i := 15) (d := some 41) (v := .bool bb) rfl rfl (by kernel_rfl) (by kernel_rfl) (by kernel_rfl) (StepsIf.yield (by kernel_rfl) (fun w' hS => by clear hS; go_simp)) ?_
            intro a' ha'
            simp only [Act.put, List.setIfInBounds_toArray, List.set_cons_zero, List.set_cons_succ] at ha'
            subst ha'
            refine AnyS.next (i := 16) (d := some 42) (v := .bool bb) rfl rfl (by kernel_rfl) (by kernel_rfl) (by kernel_rfl) (StepsIf.yield (by kernel_rfl) (fun w' hS => by clear hS; go_simp)) ?_
            intro a' ha'
            simp only [Act.put, List.setIfInBounds_toArray, List.set_cons_zero, List.set_cons_succ] at ha'
            subst ha'
            refine AnyS.done (by kernel_rfl) ?_ _
            intro w5 hS5
            have hyb := HYB.out w5 hS5
            have HF5 := Lib.hid (hf0.below hS5)
            have HB5 := Lib.hid (hB.trans (hS5.mono hB.size))
            have HS5 := Lib.hid hS1
            clear hS5 hf0 hB HSB hS1 HYC HYB
            cases bb with
            | false =>
              have hnd : ¬ x.depth ≤ y.depth := of_decide_eq_false hbb
              have hcs : closeT x.depth (y :: r) = ([], y :: r) := by rw [closeT, if_neg hnd]
              rw [hcs] at hEV hST
              simp only [List.append_nil] at hEV
              obtain rfl : ST = y :: r := hST
              obtain rfl : EV = ev1 := hEV
              clear hcs hnd hbb hyb xs xs2 rI rG hg0 hcap
              by_cases hilt : i < t.length
              · obtain ⟨q, p, f, hq1, hq, hf1, hp1, hfw, hpw⟩ := HIN.out t[i] (List.getElem_mem hilt)
                rw [← HAL.out i hilt, hxx] at hq1 hf1 hp1
                have h1 : decide ((i : Int) < (t.length : Int)) = true := by rw [decide_eq_true_iff]; omega
                have h2 : decide (i < t.length) = true := decide_eq_true hilt
                have h4 : (i : Int) < (t.length : Int) := by omega
                obtain ⟨g, off, rfl, hg, hc⟩ := HE.out (by rintro rfl; simp at hilt)
                have hbt := fun W' (hW : Below W.heap.size W W') (j : Nat) (hj : j < 4) => (hW.cell (p := ⟨g, off + i * 4 + j, none⟩) hg).trans (hc i hilt j hj)
                rw [← HAL.out i hilt, hxx] at hbt
                have hnx := HNX.out hilt
                obtain ⟨xd, xn, xf, xt⟩ := x
                simp only at hq1 hf1 hp1
                subst hq1 hf1 hp1
                simp only at hnx
                have HNX2 := Lib.hid hnx
                have HBT := Lib.hid hbt
                have hev : EV.length ≤ 1000000 := by omega
                have fI : (f : Int) < (w.length : Int) + 1 := by omega
                have fN : f < w.length + 1 := by omega
                clear hc hbt hnx HNX HNL
                go_upto_region 13 with fail
                have hSlt := HF5.out.rows.lt
                have hf := HF5.out.below ((Below.refl _ _).drew)
                have hbw := HB5.out.drew
                obtain ⟨w6, hw6⟩ : ∃ w6, w6 = w5.drew := ⟨_, rfl⟩
                rw [← hw6] at hf hbw
                have HWD := Lib.hid hw6
                clear hw6
                have hgW : g < W.heap.size := hg
                obtain ⟨b, cb, gg, cap, W2, k1, k2, k3, k4, k5, k6, S', k7, k8, k9⟩ := hf.push f fN hev (2 * (q : Int)) 35
                have HW2 := Lib.hid k2
                have HKP := Lib.hid (show ∀ k W', lvl [w6, w6.alloc (.cells #[.int .i64 (2 * (q : Int))] 3), W2] k W' → KpA (fun k => (Value.slice b (rowF EV f).length cb).ownBlock = some k) w6 W' from fun k W' hl => by
                  have hm := hl.mem
                  simp only [List.mem_cons, List.not_mem_nil, or_false] at hm
                  rcases hm with rfl | rfl | rfl
                  · exact KpA.refl _ _
                  · exact k4
                  · exact k3)
                have HTC := Lib.hid (show ∀ k W', lvl [w6, w6.alloc (.cells #[.int .i64 (2 * (q : Int))] 3), W2] k W' → W'.cell? ⟨T, f, none⟩ = some (.slice b (rowF EV f).length cb) from fun k W' hl => ((HKP.out k W' hl).cell hf.rows.tl (fun hh => (k5 T hh).2 rfl) f).trans k1)
                have HXC := Lib.hid (show ∀ k W', lvl [w6, w6.alloc (.cells #[.int .i64 (2 * (q : Int))] 3), W2] k W' → W'.cell? ⟨g, off + i * 4 + 1, none⟩ = some (.int .i64 (q : Nat)) ∧ W'.cell? ⟨g, off + i * 4 + 2, none⟩ = some (.int .i64 (f : Nat)) from fun k W' hl => by
                  have hb2 := hbw.trans ((HKP.out k W' hl).toBelow hbw.size (fun k hk => HS5.out k (k5 k hk).1))
                  exact ⟨HBT.out W' hb2 1 (by decide), HBT.out W' hb2 2 (by decide)⟩)
                have HS7 := Lib.hid k7
                have HS8 := Lib.hid k8
                have HS9 := Lib.hid k9
                have HBW := Lib.hid hbw
                have fT := k6
                have cT : W2.cell? ⟨T, f, none⟩ = some (.slice b (rowF EV f).length cb) := (k3.cell hf.rows.tl (fun hh => (k5 T hh).2 rfl) f).trans k1
                have xq : IntKind.i64.wrap (2 * (q : Int)) = 2 * (q : Int) := IntWalk.i64_in _ (by omega)
                clear k1 k2 k3 k4 k5 k6 k7 k8 k9 hf HKP hbw
                generalize (rowF EV f).length = len at *
                refine region_stepsD (S := lvl [w6, w6.alloc (.cells #[.int .i64 (2 * (q : Int))] 3), W2]) (m := 23) (n := 23) (k := 0) [20, 21] rfl (by kernel_rfl) (by kernel_rfl) (by rw [← HWD.out]; rfl) ?_
                simp only [List.size_toArray, List.length_cons, List.length_nil, Nat.reduceAdd, Array.replicate_succ, Array.replicate_zero, List.push_toArray, List.nil_append, List.cons_append]
                refine AnyD.next (m := 23) (i := 0) (d := some 73) (v := .slice (some ⟨T, 0, none⟩) (w.length + 1) (w.length + 1)) [22, 0] rfl rfl (by kernel_rfl) (by kernel_rfl) (by kernel_rfl) (by kernel_rfl) (by kernel_rfl) (fun k => StepsIf.yield (by kernel_rfl) (fun w' hS => by clear hS; go_simp)) ?_
                intro a' ha'
                simp only [Act.put, List.setIfInBounds_toArray, List.set_cons_zero, List.set_cons_succ] at ha'
                subst ha'
                refine AnyD.next (m := 23) (i := 1) (d := some 74) (v := .slice (some ⟨g, off, none⟩) t.length tc) [22, 5, 4, 3, 1] rfl rfl (by kernel_rfl) (by kernel_rfl) (by kernel_rfl) (by kernel_rfl) (by kernel_rfl) (fun k => StepsIf.yield (by kernel_rfl) (fun w' hS => by clear hS; go_simp)) ?_
                intro a' ha'
                simp only [Act.put, List.setIfInBounds_toArray, List.set_cons_zero, List.set_cons_succ] at ha'
                subst ha'
                refine AnyD.next (m := 23) (i := 2) (d := some 75) (v := .int .i64 (i : Nat)) [22, 5, 4, 3, 2] rfl rfl (by kernel_rfl) (by kernel_rfl) (by kernel_rfl) (by kernel_rfl) (by kernel_rfl) (fun k => StepsIf.yield (by kernel_rfl) (fun w' hS => by clear hS; go_simp)) ?_
                intro a' ha'
                simp only [Act.put, List.setIfInBounds_toArray, List.set_cons_zero, List.set_cons_succ] at ha'
                subst ha'
                refine AnyD.next (m := 23) (i := 3) (d := some 76) (v := .pointer (some ⟨g, off + i * 4, none⟩)) [22, 5, 4, 3] rfl rfl (by kernel_rfl) (by kernel_rfl) (by kernel_rfl) (by kernel_rfl) (by kernel_rfl) (fun k => StepsIf.yield (by kernel_rfl) (fun w' hS => by clear hS; go_simp)) ?_
                intro a' ha'
                simp only [Act.put, List.setIfInBounds_toArray, List.set_cons_zero, List.set_cons_succ] at ha'
                subst ha'
                refine AnyD.next (m := 23) (i := 4) (d := some 77) (v := .pointer (some ⟨g, off + i * 4 + 2, none⟩)) [22, 5, 4] rfl rfl (by kernel_rfl) (by kernel_rfl) (by kernel_rfl) (by kernel_rfl) (by kernel_rfl) (fun k => StepsIf.yield (by kernel_rfl) (fun w' hS => by clear hS; go_simp)) ?_
                intro a' ha'
                simp only [Act.put, List.setIfInBounds_toArray, List.set_cons_zero, List.set_cons_succ] at ha'
                subst ha'
                refine AnyD.next (m := 23) (i := 5) (d := some 78) (v := .int .i64 (f : Nat)) [22, 5] rfl rfl (by kernel_rfl) (by kernel_rfl) (by kernel_rfl) (by kernel_rfl) (by kernel_rfl) (fun k => StepsIf.yield (by kernel_rfl) (fun w' hS => by obtain ⟨e1, e2⟩ := HXC.out k w' hS; clear hS; go_simp)) ?_
                intro a' ha'
                simp only [Act.put, List.setIfInBounds_toArray, List.set_cons_zero, List.set_cons_succ] at ha'
                subst ha'
                refine AnyD.next (m := 23) (i := 6) (d := some 79) (v := .slice (some ⟨T, 0, none⟩) (w.length + 1) (w.length + 1)) [21, 13, 12, 6] rfl rfl (by kernel_rfl) (by kernel_rfl) (by kernel_rfl) (by kernel_rfl) (by kernel_rfl) (fun k => StepsIf.yield (by kernel_rfl) (fun w' hS => by clear hS; go_simp)) ?_
                intro a' ha'
                simp only [Act.put, List.setIfInBounds_toArray, List.set_cons_zero, List.set_cons_succ] at ha'
                subst ha'
                refine AnyD.next (m := 23) (i := 7) (d := some 80) (v := .slice (some ⟨g, off, none⟩) t.length tc) [21, 13, 12, 11, 10, 9, 7] rfl rfl (by kernel_rfl) (by kernel_rfl) (by kernel_rfl) (by kernel_rfl) (by kernel_rfl) (fun k => StepsIf.yield (by kernel_rfl) (fun w' hS => by clear hS; go_simp)) ?_
                intro a' ha'
                simp only [Act.put, List.setIfInBounds_toArray, List.set_cons_zero, List.set_cons_succ] at ha'
                subst ha'
                refine AnyD.next (m := 23) (i := 8) (d := some 81) (v := .int .i64 (i : Nat)) [21, 13, 12, 11, 10, 9, 8] rfl rfl (by kernel_rfl) (by kernel_rfl) (by kernel_rfl) (by kernel_rfl) (by kernel_rfl) (fun k => StepsIf.yield (by kernel_rfl) (fun w' hS => by clear hS; go_simp)) ?_
                intro a' ha'
                simp only [Act.put, List.setIfInBounds_toArray, List.set_cons_zero, List.set_cons_succ] at ha'
                subst ha'
                refine AnyD.next (m := 23) (i := 9) (d := some 82) (v := .pointer (some ⟨g, off + i * 4, none⟩)) [21, 13, 12, 11, 10, 9] rfl rfl (by kernel_rfl) (by kernel_rfl) (by kernel_rfl) (by kernel_rfl) (by kernel_rfl) (fun k => StepsIf.yield (by kernel_rfl) (fun w' hS => by clear hS; go_simp)) ?_
                intro a' ha'
                simp only [Act.put, List.setIfInBounds_toArray, List.set_cons_zero, List.set_cons_succ] at ha'
                subst ha'
                refine AnyD.next (m := 23) (i := 10) (d := some 83) (v := .pointer (some ⟨g, off + i * 4 + 2, none⟩)) [21, 13, 12, 11, 10] rfl rfl (by kernel_rfl) (by kernel_rfl) (by kernel_rfl) (by kernel_rfl) (by kernel_rfl) (fun k => StepsIf.yield (by kernel_rfl) (fun w' hS => by clear hS; go_simp)) ?_
                intro a' ha'
                simp only [Act.put, List.setIfInBounds_toArray, List.set_cons_zero, List.set_cons_succ] at ha'
                subst ha'
                refine AnyD.next (m := 23) (i := 11) (d := some 84) (v := .int .i64 (f : Nat)) [21, 13, 12, 11] rfl rfl (by kernel_rfl) (by kernel_rfl) (by kernel_rfl) (by kernel_rfl) (by kernel_rfl) (fun k => StepsIf.yield (by kernel_rfl) (fun w' hS => by obtain ⟨e1, e2⟩ := HXC.out k w' hS; clear hS; go_simp)) ?_
                intro a' ha'
                simp only [Act.put, List.setIfInBounds_toArray, List.set_cons_zero, List.set_cons_succ] at ha'
                subst ha'
                refine AnyD.next (m := 23) (i := 12) (d := some 85) (v := .pointer (some ⟨T, f, none⟩)) [21, 13, 12] rfl rfl (by kernel_rfl) (by kernel_rfl) (by kernel_rfl) (by kernel_rfl) (by kernel_rfl) (fun k => StepsIf.yield (by kernel_rfl) (fun w' hS => by clear hS; go_simp)) ?_
                intro a' ha'
                simp only [Act.put, List.setIfInBounds_toArray, List.set_cons_zero, List.set_cons_succ] at ha'
                subst ha'
                refine AnyD.next (m := 23) (i := 13) (d := some 86) (v := .slice b len cb) [21, 13] rfl rfl (by kernel_rfl) (by kernel_rfl) (by kernel_rfl) (by kernel_rfl) (by kernel_rfl) (fun k => StepsIf.yield (by kernel_rfl) (fun w' hS => by have e7 := HTC.out k w' hS; clear hS; go_simp)) ?_
                intro a' ha'
                simp only [Act.put, List.setIfInBounds_toArray, List.set_cons_zero, List.set_cons_succ] at ha'
                subst ha'
                refine AnyD.next (m := 23) (i := 14) (d := some 87) (v := .slice (some ⟨g, off, none⟩) t.length tc) [21, 20, 19, 18, 17, 16, 14] rfl rfl (by kernel_rfl) (by kernel_rfl) (by kernel_rfl) (by kernel_rfl) (by kernel_rfl) (fun k => StepsIf.yield (by kernel_rfl) (fun w' hS => by clear hS; go_simp)) ?_
                intro a' ha'
                simp only [Act.put, List.setIfInBounds_toArray, List.set_cons_zero, List.set_cons_succ] at ha'
                subst ha'
                refine AnyD.next (m := 23) (i := 15) (d := some 88) (v := .int .i64 (i : Nat)) [21, 20, 19, 18, 17, 16, 15] rfl rfl (by kernel_rfl) (by kernel_rfl) (by kernel_rfl) (by kernel_rfl) (by kernel_rfl) (fun k => StepsIf.yield (by kernel_rfl) (fun w' hS => by clear hS; go_simp)) ?_
                intro a' ha'
                simp only [Act.put, List.setIfInBounds_toArray, List.set_cons_zero, List.set_cons_succ] at ha'
                subst ha'
                refine AnyD.next (m := 23) (i := 16) (d := some 89) (v := .pointer (some ⟨g, off + i * 4, none⟩)) [21, 20, 19, 18, 17, 16] rfl rfl (by kernel_rfl) (by kernel_rfl) (by kernel_rfl) (by kernel_rfl) (by kernel_rfl) (fun k => StepsIf.yield (by kernel_rfl) (fun w' hS => by clear hS; go_simp)) ?_
                intro a' ha'
                simp only [Act.put, List.setIfInBounds_toArray, List.set_cons_zero, List.set_cons_succ] at ha'
                subst ha'
                refine AnyD.next (m := 23) (i := 17) (d := some 90) (v := .pointer (some ⟨g, off + i * 4 + 1, none⟩)) [21, 20, 19, 18, 17] rfl rfl (by kernel_rfl) (by kernel_rfl) (by kernel_rfl) (by kernel_rfl) (by kernel_rfl) (fun k => StepsIf.yield (by kernel_rfl) (fun w' hS => by clear hS; go_simp)) ?_
                intro a' ha'
                simp only [Act.put, List.setIfInBounds_toArray, List.set_cons_zero, List.set_cons_succ] at ha'
                subst ha'
                refine AnyD.next (m := 23) (i := 18) (d := some 91) (v := .int .i64 (q : Nat)) [21, 20, 19, 18] rfl rfl (by kernel_rfl) (by kernel_rfl) (by kernel_rfl) (by kernel_rfl) (by kernel_rfl) (fun k => StepsIf.yield (by kernel_rfl) (fun w' hS => by obtain ⟨e1, e2⟩ := HXC.out k w' hS; clear hS; go_simp)) ?_
                intro a' ha'
                simp only [Act.put, List.setIfInBounds_toArray, List.set_cons_zero, List.set_cons_succ] at ha'
                subst ha'
                refine AnyD.next (m := 23) (i := 19) (d := some 92) (v := .int .i64 (2 * (q : Int))) [21, 20, 19] rfl rfl (by kernel_rfl) (by kernel_rfl) (by kernel_rfl) (by kernel_rfl) (by kernel_rfl) (fun k => StepsIf.yield (by kernel_rfl) (fun w' hS => by clear hS; go_simp)) ?_
                intro a' ha'
                simp only [Act.put, List.setIfInBounds_toArray, List.set_cons_zero, List.set_cons_succ] at ha'
                subst ha'
                refine AnyD.turn (m := 23) (i := 20) (d := some 93) (k := 0) (v := .slice (some ⟨w6.heap.size, 0, none⟩) 1 1) rfl rfl (by kernel_rfl) (by kernel_rfl) (by kernel_rfl) (StepsL.lev rfl rfl (by kernel_rfl) (by go_simp)) ?_
                intro a' ha'
                simp only [Act.put, List.setIfInBounds_toArray, List.set_cons_zero, List.set_cons_succ] at ha'
                subst ha'
                refine AnyD.turn (m := 23) (i := 21) (d := some 94) (k := 1) (v := .slice (some ⟨gg, 0, none⟩) (len + 1) cap) rfl rfl (by kernel_rfl) (by kernel_rfl) (by kernel_rfl) (StepsL.lev rfl rfl (by kernel_rfl) (exec_appI rfl rfl rfl HW2.out)) ?_
                intro a' ha'
                simp only [Act.put, List.setIfInBounds_toArray, List.set_cons_zero, List.set_cons_succ] at ha'
                subst ha'
                refine AnyD.next (m := 23) (i := 22) (d := some 95) (v := .pointer (some ⟨T, f, none⟩)) [22] rfl rfl (by kernel_rfl) (by kernel_rfl) (by kernel_rfl) (by kernel_rfl) (by kernel_rfl) (fun k => StepsIf.yield (by kernel_rfl) (fun w' hS => by clear hS; go_simp)) ?_
                intro a' ha'
                simp only [Act.put, List.setIfInBounds_toArray, List.set_cons_zero, List.set_cons_succ] at ha'
                subst ha'
                refine AnyD.endC (n := 2) (by kernel_rfl) (by kernel_rfl) (fun w' hS => ?_)
                obtain rfl := hS.is rfl
                refine wpAny_one (i := 23) (o := ⟨none, .store 35 (.tmp 95) (.tmp 94), _, _, _, _⟩) (by kernel_rfl) rfl (by kernel_rfl) ?_
                refine wp_absX (fun K hK => ?_)
                go_simp
                refine hK _ _ ?_
                clear hK K
                refine wpAny_none (P := Try.prog) (by kernel_rfl) ?_
                have HF8 := Lib.hid HS7.out
                have HB8 := Lib.hid (HBW.out.trans (HS9.out.toBelow HBW.out.size HS5.out))
                have hz6 : W.heap.size ≤ w6.heap.size := HBW.out.size
                have HSN := Lib.hid (show ∀ k, S' k → W.heap.size ≤ k from fun k hk => (HS8.out k hk).elim (HS5.out k) (fun h => Nat.le_trans hz6 h))
                clear fT cT HTC HXC HW2 HWD HS7 HS8 HS9 HBW
                generalize w'.setCell ⟨T, f, none⟩ (.slice (some ⟨gg, 0, none⟩) (len + 1) cap) = w8 at *
                have hbt8 := fun j hj => HBT.out w8 HB8.out j hj
                have d0 := hbt8 0 (by decide); have d1 := hbt8 1 (by decide); have d2 := hbt8 2 (by decide); have d3 := hbt8 3 (by decide)
                simp only [enA, List.getElem?_toArray, List.getElem?_cons_zero, List.getElem?_cons_succ, Nat.add_zero] at d0 d1 d2 d3
                have hba : Below w8.heap.size w8 (w8.alloc (.cells (enI xd q f p) 44)) := (Below.refl _ _).alloc (Nat.le_refl _) _
                have hz8 := HB8.out.size
                have hlw := fun (k : Nat) hk => (HF8.out.ow.lt (g := k) hk).1
                obtain ⟨g6, cap6, w9, hr6, hf6, hk6⟩ := (HF8.out.below hba).opened (by first | omega | simp) xd f p q (by omega) (by omega) w8.heap.size (Blk.new w8 _ _) 22
                have HA6 := Lib.hid hr6
                have HF6 := Lib.hid hf6
                have HB6 := Lib.hid ((HB8.out.trans (hba.mono HB8.out.size)).trans (hk6.toBelow (Nat.le_trans HB8.out.size hba.size) (fun k hk => hlw k hk)))
                clear hbt8 hba hr6 hf6 hk6 hlw
                go_wp2_with (at_builtin; refine wpList_valX rfl (exec_appN rfl rfl rfl HA6.out) ?_)
                go_roundw
                case rel =>
                  refine ⟨i + 1, some ⟨g6, 0, none⟩, cap6, S', by omega, by simp, ?_, ?_, HSN.out, HB6.out⟩
                  · rw [HNX2.out]; rfl
                  · rw [HNX2.out]; exact HF6.out
                case measure => simp [intOf]; omega
              · obtain rfl : i = t.length := by omega
                have h1 : decide ((t.length : Int) < (t.length : Int)) = false := by rw [decide_eq_false_iff_not]; omega
                have h2 : decide (t.length < t.length) = false := by rw [decide_eq_false_iff_not]; omega
                go_wp2_with fail
                go_roundw
                case rel =>
                  refine ⟨t.length + 1, some ⟨g0, 0, none⟩, c1, S1, by omega, by simp, ?_, ?_, HS5.out, HB5.out⟩
                  · rw [HNL.out rfl] <;> rfl
                  · rw [HNL.out rfl]; exact HF5.out
                case measure => simp [intOf]
            | true =>
              have hyd : x.depth ≤ y.depth := of_decide_eq_true hbb
              have hcs : closeT x.depth (y :: r) = ((y.to, 2 * y.node + 1) :: (closeT x.depth r).1, (closeT x.depth r).2) := by rw [closeT, if_pos hyd]
              rw [hcs] at hEV hST
              simp only at hEV hST
              obtain ⟨p, q, hp1, hp, hq1, hq⟩ := HF5.out.bnd y (List.mem_cons_self ..)
              obtain ⟨yd, yn, yf, yt⟩ := y
              simp only at hp1 hq1 hyb
              subst hp1 hq1
              simp only at hEV
              have hev : ev1.length ≤ 1000000 := by omega
              obtain ⟨d0, d1, d2, d3⟩ := hyb
              have pI : (p : Int) < (w.length : Int) + 1 := by omega
              have hbd : Below w5.heap.size w5 (w5.alloc (.cells (enI yd q yf p) 44)).drew := ((Below.refl _ _).alloc (Nat.le_refl _) _).drew
              have bE : Blk (w5.alloc (.cells (enI yd q yf p) 44)).drew w5.heap.size (enI yd q yf p) 44 := Blk.new w5 _ _
              have hsz : (w5.alloc (.cells (enI yd q yf p) 44)).drew.heap.size = w5.heap.size + 1 := World.size_alloc _ _
              have hf := HF5.out.below hbd
              have hSlt := HF5.out.rows.lt
              have hbw := HB5.out.trans (hbd.mono HB5.out.size)
              have hz5 : W.heap.size ≤ w5.heap.size := HB5.out.size
              clear hbd hcs hbb hyd
              go_upto_region 10 with fail
              clear d0 d1 d2 d3
              obtain ⟨w6, hw6⟩ : ∃ w6, w6 = (w5.alloc (.cells (enI yd q yf p) 44)).drew := ⟨_, rfl⟩
              rw [← hw6] at hf bE hsz hbw
              have HWD := Lib.hid hw6
              clear hw6
              have t1 := bE.cell 1; have t3 := bE.cell 3
              simp only [List.getElem?_toArray, List.getElem?_cons_zero, List.getElem?_cons_succ] at t1 t3
              obtain ⟨b, cb, gg, cap, W2, k1, k2, k3, k4, k5, k6, S', k7, k8, k9⟩ := hf.push p hp hev (2 * (q : Int) + 1) 35
              have HW2 := Lib.hid k2
              have HKP := Lib.hid (show ∀ k W', lvl [w6, w6.alloc (.cells #[.int .i64 (2 * (q : Int) + 1)] 3), W2] k W' → KpA (fun k => (Value.slice b (rowF ev1 p).length cb).ownBlock = some k) w6 W' from fun k W' hl => by
                have hm := hl.mem
                simp only [List.mem_cons, List.not_mem_nil, or_false] at hm
                rcases hm with rfl | rfl | rfl
                · exact KpA.refl _ _
                · exact k4
                · exact k3)
              have HTC := Lib.hid (show ∀ k W', lvl [w6, w6.alloc (.cells #[.int .i64 (2 * (q : Int) + 1)] 3), W2] k W' → W'.cell? ⟨T, p, none⟩ = some (.slice b (rowF ev1 p).length cb) from fun k W' hl => ((HKP.out k W' hl).cell hf.rows.tl (fun hh => (k5 T hh).2 rfl) p).trans k1)
              have HEC := Lib.hid (show ∀ k W' j, lvl [w6, w6.alloc (.cells #[.int .i64 (2 * (q : Int) + 1)] 3), W2] k W' → W'.cell? ⟨w5.heap.size, j, none⟩ = w6.cell? ⟨w5.heap.size, j, none⟩ from fun k W' j hl => (HKP.out k W' hl).cell bE.lt (fun hh => by have := hSlt _ (k5 _ hh).1; omega) j)
              have HS7 := Lib.hid k7
              have HS8 := Lib.hid k8
              have HS9 := Lib.hid k9
              have HBW := Lib.hid hbw
              have fT := k6
              have cT : W2.cell? ⟨T, p, none⟩ = some (.slice b (rowF ev1 p).length cb) := (k3.cell hf.rows.tl (fun hh => (k5 T hh).2 rfl) p).trans k1
              have xq : IntKind.i64.wrap (2 * (q : Int)) = 2 * (q : Int) := IntWalk.i64_in _ (by omega)
              have xq1 : IntKind.i64.wrap (2 * (q : Int) + 1) = 2 * (q : Int) + 1 := IntWalk.i64_in _ (by omega)
              clear k1 k2 k3 k4 k5 k6 k7 k8 k9 hf HKP hbw
              generalize (rowF ev1 p).length = len at *
              refine region_stepsD (S := lvl [w6, w6.alloc (.cells #[.int .i64 (2 * (q : Int) + 1)] 3), W2]) (m := 15) (n := 15) (k := 0) [12, 13] rfl (by kernel_rfl) (by kernel_rfl) (by rw [← HWD.out]; rfl) ?_
              simp only [List.size_toArray, List.length_cons, List.length_nil, Nat.reduceAdd, Array.replicate_succ, Array.replicate_zero, List.push_toArray, List.nil_append, List.cons_append]
              refine AnyD.next (m := 15) (i := 0) (d := some 49) (v := .slice (some ⟨T, 0, none⟩) (w.length + 1) (w.length + 1)) [14, 0] rfl rfl (by kernel_rfl) (by kernel_rfl) (by kernel_rfl) (by kernel_rfl) (by kernel_rfl) (fun k => StepsIf.yield (by kernel_rfl) (fun w' hS => by clear hS; go_simp)) ?_
              intro a' ha'
              simp only [Act.put, List.setIfInBounds_toArray, List.set_cons_zero, List.set_cons_succ] at ha'
              subst ha'
              refine AnyD.stepE (m := 15) (i := 1) (d := some 50) [14, 2, 1] rfl rfl (by kernel_rfl) (by kernel_rfl) (by kernel_rfl) (by kernel_rfl) (by kernel_rfl) ?_
              apply Exists.intro
              apply And.intro
              · intro k
                apply StepsIf.yield
                · kernel_rfl
                intro w' hS
                clear hS; go_simp
                rfl
              intro a' ha'
              simp only [Act.put, List.setIfInBounds_toArray, List.set_cons_zero, List.set_cons_succ] at ha'
              subst ha'
              refine AnyD.next (m := 15) (i := 2) (d := some 51) (v := .int .i64 (p : Nat)) [14, 2] rfl rfl (by kernel_rfl) (by kernel_rfl) (by kernel_rfl) (by kernel_rfl) (by kernel_rfl) (fun k => StepsIf.yield (by kernel_rfl) (fun w' hS => by have e3 := (HEC.out k w' 3 hS).trans t3; clear hS; go_simp)) ?_
              intro a' ha'
              simp only [Act.put, List.setIfInBounds_toArray, List.set_cons_zero, List.set_cons_succ] at ha'
              subst ha'
              refine AnyD.next (m := 15) (i := 3) (d := some 52) (v := .slice (some ⟨T, 0, none⟩) (w.length + 1) (w.length + 1)) [13, 7, 6, 3] rfl rfl (by kernel_rfl) (by kernel_rfl) (by kernel_rfl) (by kernel_rfl) (by kernel_rfl) (fun k => StepsIf.yield (by kernel_rfl) (fun w' hS => by clear hS; go_simp)) ?_
              intro a' ha'
              simp only [Act.put, List.setIfInBounds_toArray, List.set_cons_zero, List.set_cons_succ] at ha'
              subst ha'
              refine AnyD.stepE (m := 15) (i := 4) (d := some 53) [13, 7, 6, 5, 4] rfl rfl (by kernel_rfl) (by kernel_rfl) (by kernel_rfl) (by kernel_rfl) (by kernel_rfl) ?_
              apply Exists.intro
              apply And.intro
              · intro k
                apply StepsIf.yield
                · kernel_rfl
                intro w' hS
                clear hS; go_simp
                rfl
              intro a' ha'
              simp only [Act.put, List.setIfInBounds_toArray, List.set_cons_zero, List.set_cons_succ] at ha'
              subst ha'
              refine AnyD.next (m := 15) (i := 5) (d := some 54) (v := .int .i64 (p : Nat)) [13, 7, 6, 5] rfl rfl (by kernel_rfl) (by kernel_rfl) (by kernel_rfl) (by kernel_rfl) (by kernel_rfl) (fun k => StepsIf.yield (by kernel_rfl) (fun w' hS => by have e3 := (HEC.out k w' 3 hS).trans t3; clear hS; go_simp)) ?_
              intro a' ha'
              simp only [Act.put, List.setIfInBounds_toArray, List.set_cons_zero, List.set_cons_succ] at ha'
              subst ha'
              refine AnyD.next (m := 15) (i := 6) (d := some 55) (v := .pointer (some ⟨T, p, none⟩)) [13, 7, 6] rfl rfl (by kernel_rfl) (by kernel_rfl) (by kernel_rfl) (by kernel_rfl) (by kernel_rfl) (fun k => StepsIf.yield (by kernel_rfl) (fun w' hS => by clear hS; go_simp)) ?_
              intro a' ha'
              simp only [Act.put, List.setIfInBounds_toArray, List.set_cons_zero, List.set_cons_succ] at ha'
              subst ha'
              refine AnyD.next (m := 15) (i := 7) (d := some 56) (v := .slice b len cb) [13, 7] rfl rfl (by kernel_rfl) (by kernel_rfl) (by kernel_rfl) (by kernel_rfl) (by kernel_rfl) (fun k => StepsIf.yield (by kernel_rfl) (fun w' hS => by have e7 := HTC.out k w' hS; clear hS; go_simp)) ?_
              intro a' ha'
              simp only [Act.put, List.setIfInBounds_toArray, List.set_cons_zero, List.set_cons_succ] at ha'
              subst ha'
              refine AnyD.stepE (m := 15) (i := 8) (d := some 57) [13, 12, 11, 10, 9, 8] rfl rfl (by kernel_rfl) (by kernel_rfl) (by kernel_rfl) (by kernel_rfl) (by kernel_rfl) ?_
              apply Exists.intro
              apply And.intro
              · intro k
                apply StepsIf.yield
                · kernel_rfl
                intro w' hS
                clear hS; go_simp
                rfl
              intro a' ha'
              simp only [Act.put, List.setIfInBounds_toArray, List.set_cons_zero, List.set_cons_succ] at ha'
              subst ha'
              refine AnyD.next (m := 15) (i := 9) (d := some 58) (v := .int .i64 (q : Nat)) [13, 12, 11, 10, 9] rfl rfl (by kernel_rfl) (by kernel_rfl) (by kernel_rfl) (by kernel_rfl) (by kernel_rfl) (fun k => StepsIf.yield (by kernel_rfl) (fun w' hS => by have e1 := (HEC.out k w' 1 hS).trans t1; clear hS; go_simp)) ?_
              intro a' ha'
              simp only [Act.put, List.setIfInBounds_toArray, List.set_cons_zero, List.set_cons_succ] at ha'
              subst ha'
              refine AnyD.next (m := 15) (i := 10) (d := some 59) (v := .int .i64 (2 * (q : Int))) [13, 12, 11, 10] rfl rfl (by kernel_rfl) (by kernel_rfl) (by kernel_rfl) (by kernel_rfl) (by kernel_rfl) (fun k => StepsIf.yield (by kernel_rfl) (fun w' hS => by clear hS; go_simp)) ?_
              intro a' ha'
              simp only [Act.put, List.setIfInBounds_toArray, List.set_cons_zero, List.set_cons_succ] at ha'
              subst ha'
              refine AnyD.next (m := 15) (i := 11) (d := some 60) (v := .int .i64 (2 * (q : Int) + 1)) [13, 12, 11] rfl rfl (by kernel_rfl) (by kernel_rfl) (by kernel_rfl) (by kernel_rfl) (by kernel_rfl) (fun k => StepsIf.yield (by kernel_rfl) (fun w' hS => by clear hS; go_simp)) ?_
              intro a' ha'
              simp only [Act.put, List.setIfInBounds_toArray, List.set_cons_zero, List.set_cons_succ] at ha'
              subst ha'
              refine AnyD.turn (m := 15) (i := 12) (d := some 61) (k := 0) (v := .slice (some ⟨w6.heap.size, 0, none⟩) 1 1) rfl rfl (by kernel_rfl) (by kernel_rfl) (by kernel_rfl) (StepsL.lev rfl rfl (by kernel_rfl) (by go_simp)) ?_
              intro a' ha'
              simp only [Act.put, List.setIfInBounds_toArray, List.set_cons_zero, List.set_cons_succ] at ha'
              subst ha'
              refine AnyD.turn (m := 15) (i := 13) (d := some 62) (k := 1) (v := .slice (some ⟨gg, 0, none⟩) (len + 1) cap) rfl rfl (by kernel_rfl) (by kernel_rfl) (by kernel_rfl) (StepsL.lev rfl rfl (by kernel_rfl) (exec_appI rfl rfl rfl HW2.out)) ?_
              intro a' ha'
              simp only [Act.put, List.setIfInBounds_toArray, List.set_cons_zero, List.set_cons_succ] at ha'
              subst ha'
              refine AnyD.next (m := 15) (i := 14) (d := some 63) (v := .pointer (some ⟨T, p, none⟩)) [14] rfl rfl (by kernel_rfl) (by kernel_rfl) (by kernel_rfl) (by kernel_rfl) (by kernel_rfl) (fun k => StepsIf.yield (by kernel_rfl) (fun w' hS => by clear hS; go_simp)) ?_
              intro a' ha'
              simp only [Act.put, List.setIfInBounds_toArray, List.set_cons_zero, List.set_cons_succ] at ha'
              subst ha'
              refine AnyD.endC (n := 2) (by kernel_rfl) (by kernel_rfl) (fun w' hS => ?_)
              obtain rfl := hS.is rfl
              refine wpAny_one (i := 15) (o := ⟨none, .store 35 (.tmp 63) (.tmp 62), _, _, _, _⟩) (by kernel_rfl) rfl (by kernel_rfl) ?_
              refine wp_absX (fun K hK => ?_)
              go_simp
              refine hK _ _ ?_
              clear hK K
              refine wpAny_none (P := Try.prog) (by kernel_rfl) ?_
              have HDR := Lib.hid (HS7.out.drop rfl)
              have HB8 := Lib.hid (HBW.out.trans (HS9.out.toBelow HBW.out.size HS5.out))
              have hz6 : W.heap.size ≤ w6.heap.size := HBW.out.size
              have HSN := Lib.hid (show ∀ k, S' k → W.heap.size ≤ k from fun k hk => (HS8.out k hk).elim (HS5.out k) (fun h => Nat.le_trans hz6 h))
              have HEV2 := Lib.hid (show EV = (ev1 ++ [((p : Int), 2 * (q : Int) + 1)]) ++ (closeT x.depth r).1 by rw [hEV, List.append_assoc]; rfl)
              have HST2 := Lib.hid hST
              clear fT cT t1 t3 bE HEC HTC HW2 HWD HS7 HS8 HS9 HBW hEV hST
              generalize w'.setCell ⟨T, p, none⟩ (.slice (some ⟨gg, 0, none⟩) (len + 1) cap) = w8 at *
              go_wp2_with fail
              go_roundw
              case rel => exact ⟨some ⟨g0, 0, none⟩, c1, S', ev1 ++ [((p : Int), 2 * (q : Int) + 1)], r, rfl, HDR.out, HEV2.out, HST2.out, by rw [List.length_append, List.length_singleton]; omega, HSN.out, HB8.out⟩
              case measure => simp [lenF]

      · obtain rfl : i = t.length + 1 := by omega
        have g1 : decide (((t.length + 1 : Nat) : Int) ≤ (t.length : Int)) = false := by rw [decide_eq_false_iff_not]; omega
        have g2 : decide (t.length + 1 ≤ t.length) = false := by rw [decide_eq_false_iff_not]; omega
        have g3 : decide ((t.length : Int) + 1 ≤ (t.length : Int)) = false := by rw [decide_eq_false_iff_not]; omega
        have HR9 := Lib.hid hf.rows.at
        have HB9 := Lib.hid hB
        clear hf hB
        go_wp2_with fail
        go_ret
        refine ⟨some ⟨T, 0, none⟩, w.length + 1, by rw [HFL.out] <;> rfl, ?_, HB9.out⟩
        rw [HFT.out, ← HSF.out]
        exact HR9.out
end Go.Proofs.Ytooolhekihijlaa

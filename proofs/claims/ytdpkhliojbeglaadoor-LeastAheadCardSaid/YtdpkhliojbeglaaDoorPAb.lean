/- Texts put together: Tru Trv. -/
import Derived.Test.YtdpkhliojbeglaaDoorPV
import Derived.Test.YtdpkhliojbeglaaDoorPX
/- How the developers read a parse tree: kids, read, Right. Stage 14. -/
namespace Go.Proofs.YtdpkhliojbeglaaDoor
open Go.RowKit BS

section
variable {l : List NdN} {w : List Nat} {t : List EnN} {la wa : Option Addr} {lc wc : Nat} {W0 : World} {R : Nat}
set_option maxRecDepth 100000 in
set_option maxHeartbeats 64000000 in
theorem kidsR_calls (hP : PartsOk l) (hl : l.length ≤ 1000) (hw : w.length ≤ 1000) (hw8 : ∀ x ∈ w, x < 256) (ht : t.length ≤ 1000) (hN : NodesAt l la W0) (hT : BtsAt w wa W0) {k : Nat} (HG : RdG l w t la lc wa wc W0 R k) (n : Nat) (hnl : n < l.length) (hn : n ≤ k)
    (i : Nat) (d T : Int) (f : Nat) (hd : 0 ≤ d) (hdk : d + 1 + k ≤ 100000) (hi : i ≤ t.length) (hf : f ≤ w.length) (W : World) (h : RdX l w t la lc wa wc W0 R i W) :
    Calls Tryd.prog 63 #[.pointer (some ⟨R, 0, none⟩), .agg (enI d n f T)] W fun e W' => ResD (RdX l w t la lc wa wc W0 R) (kdD (rdF l w t k) (ndE l n) w t i d f T) e W' ∧ KpA (fun g => g = R) W W' := by
  have hRW := h.lt
  have hk18 := hP.kind n hnl
  have hpa := hP.a n hnl
  have hpb := hP.b n hnl
  have hnd : ndE l n = l[n] := by simp [ndE, hnl]
  have bE := Blk.new W (enI d n f T) 83
  have HK := Lib.hid ((KpA.refl (fun g => g = R) W).alloc (.cells (enI d n f T) 83))
  have hx := h.below ((Below.refl _ _).alloc (Nat.le_refl _) (.cells (enI d n f T) 83))
  have hzE : W.heap.size < (W.alloc (.cells (enI d n f T) 83)).heap.size := by rw [World.size_alloc]; omega
  obtain ⟨g, off, rfl, hg, hc⟩ := hN (by rintro rfl; simp at hnl)
  have cc := fun (j : Nat) (hj : j < 8) => (hx.old.cell (p := ⟨g, off + n * 8 + j, none⟩) hg).trans (hc n hnl j hj)
  have HX := Lib.hid hx
  obtain ⟨a0, c0', _, _, hb⟩ := hx.left
  have q0 := hb.cell 0
  simp only [List.getElem?_toArray, List.getElem?_cons_zero] at q0
  have hR1 := hx.lt
  have hg1 := Nat.lt_of_lt_of_le hg hx.old.size
  have xd : IntKind.i64.wrap (d + 1) = d + 1 := IntWalk.i64_in _ (by omega)
  have hnI : (n : Int) < (l.length : Int) := by omega
  have hnI0 : (0 : Int) ≤ (n : Int) := by omega
  have hnd2 : decide (n < l.length) = true := decide_eq_true hnl
  rw [hnd] at hk18 hpa hpb ⊢
  obtain ⟨k0, p, q, m, s, hxx⟩ : ∃ k0 a b m s, l[n] = (⟨k0, a, b, m, s⟩ : NdN) := ⟨_, _, _, _, _, rfl⟩
  rw [hxx] at cc hk18 hpa hpb ⊢
  clear hxx hnd
  simp only at hk18 hpa hpb
  have c0 := cc 0 (by decide); have c1 := cc 1 (by decide); have c2 := cc 2 (by decide); have c3 := cc 3 (by decide); have c4 := cc 4 (by decide); have c5 := cc 5 (by decide); have c6 := cc 6 (by decide); have c7 := cc 7 (by decide)
  simp only [ndA, List.getElem?_toArray, List.getElem?_cons_zero, List.getElem?_cons_succ, Nat.add_zero] at c0 c1 c2 c3 c4 c5 c6 c7
  have t0 := bE.cell 0; have t1 := bE.cell 1; have t2 := bE.cell 2; have t3 := bE.cell 3
  simp only [List.getElem?_toArray, List.getElem?_cons_zero, List.getElem?_cons_succ] at t0 t1 t2 t3
  have HBY := Lib.hid (fun W1 (h1 : RdX l w t (some ⟨g, off, none⟩) lc wa wc W0 R i W1) => byteOf_calls (lc := lc) (la := some ⟨g, off, none⟩) hw8 hw hT s i f hf W1 h1)
  have HCH := Lib.hid (fun W1 (h1 : RdX l w t (some ⟨g, off, none⟩) lc wa wc W0 R i W1) => chosen_calls ht k0 p q m s i hi W1 h1)
  have HBO := Lib.hid (fun (p' q' : Nat) (hp' : p' < n) (hq' : q' < n) W1 h1 => both_calls hP hw HG k0 m p' q' s (Nat.lt_of_lt_of_le hp' hn) (Nat.lt_of_lt_of_le hq' hn) (Nat.lt_trans hp' hnl) (Nat.lt_trans hq' hnl) i d n T f hd hdk hi hf W1 h1)
  have HAG := Lib.hid (fun (p' : Nat) (hp' : p' < n) W1 h1 => again_calls hP hw HG k0 q m p' s (Nat.lt_of_lt_of_le hp' hn) (Nat.lt_trans hp' hnl) i d n T f hd hdk hi hf W1 h1)
  have HRD := Lib.hid (fun (p' : Nat) (hp' : p' < n) W1 h1 => HG i (d + 1) p' f W1 (Nat.lt_of_lt_of_le hp' hn) (Nat.lt_trans hp' hnl) hi hf (by omega) (by omega) h1)
  obtain ⟨O, hO⟩ : ∃ O, O = kdD (rdF l w t k) ⟨k0, p, q, m, s⟩ w t i d f T := ⟨_, rfl⟩
  rw [← hO]
  have HO := Lib.hid hO
  clear h hx hb cc hc hN hT HG hP hw8 hO
  go_enter Tryd.func63, Tryd.ntmps63
  go_upto_region 1 with fail
  have HBE := Lib.hid bE
  clear bE
  generalize W.alloc (.cells (enI d n f T) 83) = w1 at *
  go_region
  have hsz : (w1.alloc (.cells (ndI k0 p q m s) 60)).drew.heap.size = w1.heap.size + 1 := World.size_alloc _ _
  have bN : Blk (w1.alloc (.cells (ndI k0 p q m s) 60)).drew w1.heap.size (ndI k0 p q m s) 60 := Blk.new w1 (ndI k0 p q m s) 60
  have hbd : Below w1.heap.size w1 (w1.alloc (.cells (ndI k0 p q m s) 60)).drew := ((Below.refl _ _).alloc (Nat.le_refl _) _).drew
  have bE := HBE.out.below hbd hzE
  have HX2 := Lib.hid (HX.out.below hbd)
  have HK2 := Lib.hid (HK.out.below hbd)
  clear c0 c1 c2 c3 c4 c5 c6 c7 t0 t1 t2 t3 q0 HX HK HBE hbd
  have e1 : (w1.alloc (.cells #[.int .i64 k0, .int .i64 p, .int .i64 q, .int .i64 m, .int .u64 ((wd s 0 : Nat) : Int), .int .u64 ((wd s 1 : Nat) : Int), .int .u64 ((wd s 2 : Nat) : Int), .int .u64 ((wd s 3 : Nat) : Int)] 60)).drew = (w1.alloc (.cells (ndI k0 p q m s) 60)).drew := rfl
  rw [e1]
  clear e1
  generalize (w1.alloc (.cells (ndI k0 p q m s) 60)).drew = w2 at *
  generalize w1.heap.size = E1 at *
  clear w1
  have c0 := bN.cell 0; have c1 := bN.cell 1; have c2 := bN.cell 2; have c3 := bN.cell 3; have c4 := bN.cell 4; have c5 := bN.cell 5; have c6 := bN.cell 6; have c7 := bN.cell 7
  have t0 := bE.cell 0; have t1 := bE.cell 1; have t2 := bE.cell 2; have t3 := bE.cell 3
  simp only [List.getElem?_toArray, List.getElem?_cons_zero, List.getElem?_cons_succ] at c0 c1 c2 c3 c4 c5 c6 c7 t0 t1 t2 t3
  have HXW := Lib.hid (fun W1 (hb : Below w2.heap.size w2 W1) => HX2.out.below hb)
  have HBN := Lib.hid bN
  have HBE := Lib.hid bE
  clear bN bE
  rcases (by omega : k0 = 1 ∨ k0 = 2 ∨ k0 = 3 ∨ k0 = 4 ∨ k0 = 5 ∨ k0 = 6 ∨ k0 = 7 ∨ k0 = 8) with rfl | rfl | rfl | rfl | rfl | rfl | rfl | rfl
  · have ho : O = some (f, i) := HO.out
    clear HO
    have HO := Lib.hid ho
    clear ho
    go_wp2_with fail
    go_ret2
    rw [HO.out]
    exact ⟨⟨rfl, HX2.out⟩, HK2.out⟩
  · have hby := HBY.out w2 HX2.out
    rw [show (if f < w.length ∧ s.getLsbD (w.getD f 0) = true then some (f + 1, i) else none) = O from HO.out.symm] at hby
    clear HO
    go_wp2_with fail
    refine hby.mono ?_
    rintro e w3 ⟨hr, hk⟩
    obtain ⟨x, b, rfl, hr⟩ := hr.tuple
    have HK3 := Lib.hid (HK2.out.trans hk)
    clear c0 c1 c2 c3 c4 c5 c6 c7 t0 t1 t2 t3 hk hby HRD HK2 HX2 HXW HBN HBE HBY HCH HBO HAG
    go_wp2_with fail
    go_ret2
    exact ⟨hr, HK3.out⟩
  · obtain ⟨p', hp1, hp2⟩ := hpa (by omega)
    obtain ⟨q', hq1, hq2⟩ := hpb (.inl rfl)
    subst hp1 hq1
    have hby := HBO.out p' q' hp2 hq2 w2 HX2.out
    rw [show ((rdF l w t k i (d + 1) p' f).bind fun r => rdF l w t k r.2 (d + 1) q' r.1) = O from HO.out.symm] at hby
    clear HO
    go_wp2_with fail
    refine hby.mono ?_
    rintro e w3 ⟨hr, hk⟩
    obtain ⟨x, b, rfl, hr⟩ := hr.tuple
    have HK3 := Lib.hid (HK2.out.trans hk)
    clear c0 c1 c2 c3 c4 c5 c6 c7 t0 t1 t2 t3 hk hby HRD HK2 HX2 HXW HBN HBE HBY HCH HBO HAG
    go_wp2_with fail
    go_ret2
    exact ⟨hr, HK3.out⟩
  · obtain ⟨p', hp1, hp2⟩ := hpa (by omega)
    obtain ⟨q', hq1, hq2⟩ := hpb (.inr rfl)
    subst hp1 hq1
    obtain ⟨c', hc1, hc2, hc3⟩ : ∃ c' : Nat, c' < n ∧ (if i < t.length ∧ (atE t i).node = (q' : Int) then (q' : Int) else (p' : Int)) = (c' : Int) ∧ rdF l w t k i (d + 1) c' f = O := by
      by_cases hcc : i < t.length ∧ (atE t i).node = (q' : Int)
      · refine ⟨q', hq2, if_pos hcc, ?_⟩
        rw [HO.out]
        show _ = rdF l w t k i (d + 1) (chF ⟨4, p', q', m, s⟩ t i) f
        unfold chF
        rw [if_pos hcc, Int.toNat_natCast]
      · refine ⟨p', hp2, if_neg hcc, ?_⟩
        rw [HO.out]
        show _ = rdF l w t k i (d + 1) (chF ⟨4, p', q', m, s⟩ t i) f
        unfold chF
        rw [if_neg hcc, Int.toNat_natCast]
    have HCH2 := Lib.hid (fun W1 (hb : Below w2.heap.size w2 W1) => (HCH.out W1 (HXW.out W1 hb)).mono fun e w'' hh => (show e = .returned (.int .i64 (c' : Int)) ∧ Below w2.heap.size w2 w'' from ⟨by rw [hh.1, hc2], hb.trans (hh.2.mono hb.size)⟩))
    have HRR := Lib.hid (fun W1 (hb : Below w2.heap.size w2 W1) => HRD.out c' hc1 W1 (HXW.out W1 hb))
    rw [hc3] at HRR
    have HCE := Lib.hid (show ∀ W', Below w2.heap.size w2 W' → W'.cell? ⟨W.heap.size, 0, none⟩ = some (.int .i64 d) ∧ W'.cell? ⟨W.heap.size, 2, none⟩ = some (.int .i64 (f : Nat)) ∧ Blk W' E1 (ndI 4 p' q' m s) 60 from fun W' hb => ⟨(hb.cell (p := ⟨W.heap.size, 0, none⟩) HBE.out.lt).trans t0, (hb.cell (p := ⟨W.heap.size, 2, none⟩) HBE.out.lt).trans t2, HBN.out.below hb HBN.out.lt⟩)
    clear HO HCH HBO HAG HBY HRD hc2 hc3
    go_upto_region 8 with fail
    clear c0 c1 c2 c3 c4 c5 c6 c7 t0 t1 t2 t3
    refine region_stepsD (S := fun _ W' => Below w2.heap.size w2 W') (m := 9) (n := 9) (k := 4) [] rfl (by kernel_rfl) (by kernel_rfl) ((Below.refl _ _).drew) ?_
    simp only [List.size_toArray, List.length_cons, List.length_nil, Nat.reduceAdd, Array.replicate_succ, Array.replicate_zero, List.push_toArray, List.nil_append, List.cons_append]
    refine AnyD.stepE (m := 9) (i := 0) (d := some 37) [0] rfl rfl (by kernel_rfl) (by kernel_rfl) (by kernel_rfl) (by kernel_rfl) (by kernel_rfl) ?_
    apply Exists.intro
    apply And.intro
    · intro k
      apply StepsIf.yield
      · kernel_rfl
      intro w' hS
      clear hS; go_simp
      rfl
    intro a' ha'
    simp only [Act.put, List.setIfInBounds_toArray, List.set_cons_zero, List.set_cons_succ] at ha'
    subst ha'
    refine AnyD.stepE (m := 9) (i := 1) (d := some 38) [3, 1] rfl rfl (by kernel_rfl) (by kernel_rfl) (by kernel_rfl) (by kernel_rfl) (by kernel_rfl) ?_
    apply Exists.intro
    apply And.intro
    · intro k
      apply StepsIf.yield
      · kernel_rfl
      intro w' hS
      clear hS; go_simp
      rfl
    intro a' ha'
    simp only [Act.put, List.setIfInBounds_toArray, List.set_cons_zero, List.set_cons_succ] at ha'
    subst ha'
    refine AnyD.next (m := 9) (i := 2) (d := some 39) (v := .agg (ndI 4 p' q' m s)) [3, 2] rfl rfl (by kernel_rfl) (by kernel_rfl) (by kernel_rfl) (by kernel_rfl) (by kernel_rfl) (fun k => StepsIf.yield (by kernel_rfl) (fun w' hS => by obtain ⟨_, _, hbn⟩ := HCE.out w' hS; have c0 := hbn.cell 0; have c1 := hbn.cell 1; have c2 := hbn.cell 2; have c3 := hbn.cell 3; have c4 := hbn.cell 4; have c5 := hbn.cell 5; have c6 := hbn.cell 6; have c7 := hbn.cell 7; simp only [List.getElem?_toArray, List.getElem?_cons_zero, List.getElem?_cons_succ] at c0 c1 c2 c3 c4 c5 c6 c7; clear hbn; clear hS; go_simp)) ?_
    intro a' ha'
    simp only [Act.put, List.setIfInBounds_toArray, List.set_cons_zero, List.set_cons_succ] at ha'
    subst ha'
    refine AnyD.next (m := 9) (i := 3) (d := some 40) (v := .int .i64 (c' : Nat)) [3] rfl rfl (by kernel_rfl) (by kernel_rfl) (by kernel_rfl) (by kernel_rfl) (by kernel_rfl) (fun k => StepsIf.call (by kernel_rfl) (fun w' hS => by clear hS; go_simp) (fun w' hS => HCH2.out w' hS)) ?_
    intro a' ha'
    simp only [Act.put, List.setIfInBounds_toArray, List.set_cons_zero, List.set_cons_succ] at ha'
    subst ha'
    refine AnyD.stepE (m := 9) (i := 4) (d := some 41) [6, 5, 4] rfl rfl (by kernel_rfl) (by kernel_rfl) (by kernel_rfl) (by kernel_rfl) (by kernel_rfl) ?_
    apply Exists.intro
    apply And.intro
    · intro k
      apply StepsIf.yield
      · kernel_rfl
      intro w' hS
      clear hS; go_simp
      rfl
    intro a' ha'
    simp only [Act.put, List.setIfInBounds_toArray, List.set_cons_zero, List.set_cons_succ] at ha'
    subst ha'
    refine AnyD.next (m := 9) (i := 5) (d := some 42) (v := .int .i64 d) [6, 5] rfl rfl (by kernel_rfl) (by kernel_rfl) (by kernel_rfl) (by kernel_rfl) (by kernel_rfl) (fun k => StepsIf.yield (by kernel_rfl) (fun w' hS => by obtain ⟨f0, f2, hbn⟩ := HCE.out w' hS; clear hbn; clear hS; go_simp)) ?_
    intro a' ha'
    simp only [Act.put, List.setIfInBounds_toArray, List.set_cons_zero, List.set_cons_succ] at ha'
    subst ha'
    refine AnyD.next (m := 9) (i := 6) (d := some 43) (v := .int .i64 (d + 1)) [6] rfl rfl (by kernel_rfl) (by kernel_rfl) (by kernel_rfl) (by kernel_rfl) (by kernel_rfl) (fun k => StepsIf.yield (by kernel_rfl) (fun w' hS => by clear hS; go_simp)) ?_
    intro a' ha'
    simp only [Act.put, List.setIfInBounds_toArray, List.set_cons_zero, List.set_cons_succ] at ha'
    subst ha'
    refine AnyD.stepE (m := 9) (i := 7) (d := some 44) [8, 7] rfl rfl (by kernel_rfl) (by kernel_rfl) (by kernel_rfl) (by kernel_rfl) (by kernel_rfl) ?_
    apply Exists.intro
    apply And.intro
    · intro k
      apply StepsIf.yield
      · kernel_rfl
      intro w' hS
      clear hS; go_simp
      rfl
    intro a' ha'
    simp only [Act.put, List.setIfInBounds_toArray, List.set_cons_zero, List.set_cons_succ] at ha'
    subst ha'
    refine AnyD.next (m := 9) (i := 8) (d := some 45) (v := .int .i64 (f : Nat)) [8] rfl rfl (by kernel_rfl) (by kernel_rfl) (by kernel_rfl) (by kernel_rfl) (by kernel_rfl) (fun k => StepsIf.yield (by kernel_rfl) (fun w' hS => by obtain ⟨f0, f2, hbn⟩ := HCE.out w' hS; clear hbn; clear hS; go_simp)) ?_
    intro a' ha'
    simp only [Act.put, List.setIfInBounds_toArray, List.set_cons_zero, List.set_cons_succ] at ha'
    subst ha'
    refine AnyD.endC (n := 0) (by kernel_rfl) (by kernel_rfl) (fun w' hS => ?_)
    have hrr := HRR.out w' hS
    have HK4 := Lib.hid (HK2.out.below hS)
    clear hS HRR HCH2 HCE HXW HBN HBE HX2
    refine wpAny_one (i := 9) (o := ⟨some 46, _, _, _, _, _⟩) (by kernel_rfl) rfl (by kernel_rfl) ?_
    refine wp_callK (o := ⟨some 46, _, _, _, _, _⟩) (R := fun v W' => ∃ (x : Int) (b : Bool), v = .tuple #[.int .i64 x, .bool b] ∧ ResD (RdX l w t (some ⟨g, off, none⟩) lc wa wc W0 R) O (.returned (.tuple #[.int .i64 x, .bool b])) W' ∧ KpA (fun g => g = R) w' W') (by go_simp) (hrr.mono (fun e w' h => by obtain ⟨x, b, rfl, h2⟩ := h.1.tuple; exact ⟨_, rfl, x, b, rfl, h2, h.2⟩)) ?_
    rintro v w3 ⟨x, b, rfl, hr, hk⟩
    have HK5 := Lib.hid (HK4.out.trans hk)
    clear hk hrr HK4 HK2
    simp only [Act.put, List.setIfInBounds_toArray, List.set_cons_zero, List.set_cons_succ]
    refine AnyS.any (S := fun W => W = w3) _ _ _ ?_ _ rfl
    refine AnyS.next (i := 10) (d := some 47) (v := .int .i64 x) rfl rfl (by kernel_rfl) (by kernel_rfl) (by kernel_rfl) (StepsIf.yield (by kernel_rfl) (fun w' hS => by clear hS; go_simp)) ?_
    intro a' ha'
    simp only [Act.put, List.setIfInBounds_toArray, List.set_cons_zero, List.set_cons_succ] at ha'
    subst ha'
    refine AnyS.next (i := 11) (d := some 48) (v := .bool b) rfl rfl (by kernel_rfl) (by kernel_rfl) (by kernel_rfl) (StepsIf.yield (by kernel_rfl) (fun w' hS => by clear hS; go_simp)) ?_
    intro a' ha'
    simp only [Act.put, List.setIfInBounds_toArray, List.set_cons_zero, List.set_cons_succ] at ha'
    subst ha'
    refine AnyS.next (i := 12) (d := some 4) (v := .int .i64 x) rfl rfl (by kernel_rfl) (by kernel_rfl) (by kernel_rfl) (StepsIf.yield (by kernel_rfl) (fun w' hS => by clear hS; go_simp)) ?_
    intro a' ha'
    simp only [Act.put, List.setIfInBounds_toArray, List.set_cons_zero, List.set_cons_succ] at ha'
    subst ha'
    refine AnyS.next (i := 13) (d := some 5) (v := .bool b) rfl rfl (by kernel_rfl) (by kernel_rfl) (by kernel_rfl) (StepsIf.yield (by kernel_rfl) (fun w' hS => by clear hS; go_simp)) ?_
    intro a' ha'
    simp only [Act.put, List.setIfInBounds_toArray, List.set_cons_zero, List.set_cons_succ] at ha'
    subst ha'
    refine AnyS.done (by kernel_rfl) ?_ _
    rintro w4 rfl
    go_wp2_with fail
    go_ret2
    exact ⟨hr, HK5.out⟩
  · obtain ⟨p', hp1, hp2⟩ := hpa (by omega)
    subst hp1
    have hby := HAG.out p' hp2 w2 HX2.out
    rw [show (agF (fun i at_ => rdF l w t k i (d + 1) p' at_) T (w.length + 1) i f) = O from HO.out.symm] at hby
    clear HO
    go_wp2_with fail
    refine hby.mono ?_
    rintro e w3 ⟨hr, hk⟩
    obtain ⟨x, b, rfl, hr⟩ := hr.tuple
    have HK3 := Lib.hid (HK2.out.trans hk)
    clear c0 c1 c2 c3 c4 c5 c6 c7 t0 t1 t2 t3 hk hby HRD HK2 HX2 HXW HBN HBE HBY HCH HBO HAG
    go_wp2_with fail
    go_ret2
    exact ⟨hr, HK3.out⟩
  · obtain ⟨p', hp1, hp2⟩ := hpa (by omega)
    subst hp1
    have ho : O = if T = f then some (f, i) else rdF l w t k i (d + 1) p' f := HO.out
    by_cases hT : T = (f : Int)
    · subst hT
      rw [if_pos rfl] at ho
      clear HO
      have HO := Lib.hid ho
      clear ho
      go_wp2_with fail
      go_ret2
      rw [HO.out]
      exact ⟨⟨rfl, HX2.out⟩, HK2.out⟩
    · rw [if_neg hT] at ho
      have qT : (T == (f : Int)) = false := beq_eq_false_iff_ne.2 hT
      have hby := HRD.out p' hp2 w2 HX2.out
      rw [← ho] at hby
      clear HO ho hT
      go_wp2_with fail
      refine hby.mono ?_
      rintro e w3 ⟨hr, hk⟩
      obtain ⟨x, b, rfl, hr⟩ := hr.tuple
      have HK3 := Lib.hid (HK2.out.trans hk)
      clear c0 c1 c2 c3 c4 c5 c6 c7 t0 t1 t2 t3 hk hby HRD HK2 HX2 HXW HBN HBE HBY HCH HBO HAG
      go_wp2_with fail
      go_ret2
      exact ⟨hr, HK3.out⟩
  · obtain ⟨p', hp1, hp2⟩ := hpa (by omega)
    subst hp1
    have hby := HRD.out p' hp2 w2 HX2.out
    rw [show rdF l w t k i (d + 1) p' f = O from HO.out.symm] at hby
    clear HO
    go_wp2_with fail
    refine hby.mono ?_
    rintro e w3 ⟨hr, hk⟩
    obtain ⟨x, b, rfl, hr⟩ := hr.tuple
    have HK3 := Lib.hid (HK2.out.trans hk)
    clear c0 c1 c2 c3 c4 c5 c6 c7 t0 t1 t2 t3 hk hby HRD HK2 HX2 HXW HBN HBE HBY HCH HBO HAG
    go_wp2_with fail
    go_ret2
    exact ⟨hr, HK3.out⟩
  · obtain ⟨p', hp1, hp2⟩ := hpa (by omega)
    subst hp1
    have hby := HRD.out p' hp2 w2 HX2.out
    rw [show rdF l w t k i (d + 1) p' f = O from HO.out.symm] at hby
    clear HO
    go_wp2_with fail
    refine hby.mono ?_
    rintro e w3 ⟨hr, hk⟩
    obtain ⟨x, b, rfl, hr⟩ := hr.tuple
    have HK3 := Lib.hid (HK2.out.trans hk)
    clear c0 c1 c2 c3 c4 c5 c6 c7 t0 t1 t2 t3 hk hby HRD HK2 HX2 HXW HBN HBE HBY HCH HBO HAG
    go_wp2_with fail
    go_ret2
    exact ⟨hr, HK3.out⟩
end
end Go.Proofs.YtdpkhliojbeglaaDoor

/- How the developers read a parse tree: read, Right. Stage 14. -/
namespace Go.Proofs.YtdpkhliojbeglaaDoor
open Go.RowKit BS

section
variable {l : List NdN} {w : List Nat} {t : List EnN} {la wa : Option Addr} {lc wc : Nat} {W0 : World} {R : Nat}
set_option maxRecDepth 100000 in
set_option maxHeartbeats 32000000 in
theorem read_step (hP : PartsOk l) (hl : l.length ≤ 1000) (hw : w.length ≤ 1000) (hw8 : ∀ x ∈ w, x < 256) (ht : t.length ≤ 1000) (hN : NodesAt l la W0) (hT : BtsAt w wa W0) {k : Nat} (HG : RdG l w t la lc wa wc W0 R k) : RdG l w t la lc wa wc W0 R (k + 1) := by
  intro i d n f W hn hnl hi hf hd hdk h
  obtain ⟨O, hO⟩ : ∃ O, O = rdF l w t (k + 1) i d n f := ⟨_, rfl⟩
  rw [← hO]
  rw [rdF] at hO
  obtain ⟨a, c, hcap, hE, hb⟩ := h.left
  have c2 := hb.cell 2
  have f2 := hb.frozen 2
  simp only [List.getElem?_toArray, List.getElem?_cons_zero, List.getElem?_cons_succ] at c2
  by_cases hlt : i < t.length
  case neg =>
    have hz : t.length - i = 0 := by omega
    rw [hz] at c2
    rw [if_neg (fun h => hlt h.1)] at hO
    have HO := Lib.hid hO
    clear hE hO HG h f2 hb
    go_enter Tryd.func42, Tryd.ntmps42
    go_wp2_with fail
    go_ret2
    rw [HO.out]
    exact ⟨⟨_, rfl⟩, KpA.refl _ _⟩
  case pos =>
  have hne : t.drop i ≠ [] := fun e => by have := congrArg List.length e; simp at this; omega
  obtain ⟨g, off, rfl, hg, hc⟩ := hE hne
  have hl0 : 0 < (t.drop i).length := by simp; omega
  have dd := fun (j : Nat) (hj : j < 4) => (h.old.cell (p := ⟨g, off + 0 * 4 + j, none⟩) hg).trans (hc 0 hl0 j hj)
  have hat : (t.drop i)[0] = atE t i := by rw [atE_lt t i hlt]; simp
  rw [hat] at dd
  have hE2 : EntsAt (t.drop (i + 1)) (some ⟨g, off + 4, none⟩) W0 := fun _ => ⟨g, off + 4, rfl, hg, fun j hj j' hj' => by
    have hj2 : j + 1 < (t.drop i).length := by simp at hj ⊢; omega
    have := hc (j + 1) hj2 j' hj'
    rw [show off + 4 + j * 4 + j' = off + (j + 1) * 4 + j' by omega, this]
    simp only [List.getElem_drop]
    congr 2
    simp only [Nat.add_assoc, Nat.add_comm 1 j]⟩
  have gl1 : ((t.length - i : Nat) : Int) ≠ 0 := by omega
  have gl2 : (((t.length - i : Nat) : Int) == 0) = false := beq_eq_false_iff_ne.2 gl1
  have gl3 : ((t.length - i) == 0) = false := beq_eq_false_iff_ne.2 (by omega)
  have gl4 : (0 : Int) < ((t.length - i : Nat) : Int) := by omega
  have gl5 : 0 < t.length - i := by omega
  have gl6 : 1 ≤ t.length - i := by omega
  have hgR : g ≠ R := fun e => by have := h.new; omega
  have hRW := h.lt
  have hgW := Nat.lt_of_lt_of_le hg h.old.size
  have hsub : t.length - i - 1 = t.length - (i + 1) := by omega
  generalize hxx : atE t i = x at *
  obtain ⟨xd, xn, xf, xt⟩ := x
  have d0 := dd 0 (by decide); have d1 := dd 1 (by decide); have d2 := dd 2 (by decide); have d3 := dd 3 (by decide)
  simp only [enA, List.getElem?_toArray, List.getElem?_cons_zero, List.getElem?_cons_succ, Nat.zero_mul, Nat.add_zero] at d0 d1 d2 d3
  simp only at hO
  have bE := Blk.new W (enI xd xn xf xt) 83
  have hbd : Below W.heap.size W (W.alloc (.cells (enI xd xn xf xt) 83)) := (Below.refl _ _).alloc (Nat.le_refl _) _
  have HK := Lib.hid ((KpA.refl (fun g => g = R) W).alloc (.cells (enI xd xn xf xt) 83))
  have hb1 := hb.below hbd hRW
  have HOLD := Lib.hid (h.old.trans (hbd.mono h.old.size))
  have hNEW := h.new
  have he := eqEn xd xn xf xt d n f xt
  have hkd := fun T (hd' : 0 ≤ d) W1 h1 => kidsR_calls hP hl hw hw8 ht hN hT HG n hnl (by omega) (i + 1) d T f hd' (by omega) (by omega) hf W1 h1
  clear hc dd hE hat hne hl0 hbd hb HG hN hT hP hw8 h
  by_cases hx : xd = d ∧ xn = n ∧ xf = f
  · obtain ⟨rfl, rfl, rfl⟩ := hx
    rw [decide_eq_true ⟨rfl, rfl, rfl, rfl⟩] at he
    rw [if_pos ⟨hlt, rfl, rfl, rfl⟩] at hO
    obtain ⟨O2, hO2⟩ : ∃ O2, O2 = kdD (rdF l w t k) (ndE l n) w t (i + 1) xd f xt := ⟨_, rfl⟩
    rw [← hO2] at hO
    have HO := Lib.hid hO
    have hkd2 := hkd xt hd
    rw [← hO2] at hkd2
    have HKD := Lib.hid hkd2
    clear hO hkd hkd2 hO2
    go_enter Tryd.func42, Tryd.ntmps42
    go_upto_region 4 with fail
    clear d0 d1 d2 d3 c2 f2
    have hRz : R ≠ W.heap.size := by omega
    have hWz : W.heap.size < (W.alloc (.cells (enI xd n f xt) 83)).heap.size := by rw [World.size_alloc]; omega
    generalize W.alloc (.cells (enI xd n f xt) 83) = w1 at *
    have t0 := bE.cell 0; have t1 := bE.cell 1; have t2 := bE.cell 2; have t3 := bE.cell 3
    have c2 := hb1.cell 2
    have f2 := hb1.frozen 2
    simp only [List.getElem?_toArray, List.getElem?_cons_zero, List.getElem?_cons_succ] at t0 t1 t2 t3 c2
    go_upto_region 7 with fail
    clear c2 f2 t0 t1 t2 t3 he
    have hE3 : EntsAt (t.drop (i + 1)) (if c = 1 then some ⟨g, off, none⟩ else some ⟨g, off + 4, none⟩) W0 := by
      by_cases hc1 : c = 1
      · intro hne
        exact absurd (List.drop_eq_nil_of_le (by omega)) hne
      · rw [if_neg hc1]; exact hE2
    have HX := Lib.hid (show RdX l w t la lc wa wc W0 R (i + 1) (w1.setCell ⟨R, 2, none⟩ (.slice (if c = 1 then some ⟨g, off, none⟩ else some ⟨g, off + 4, none⟩) (t.length - (i + 1)) (c - 1))) from ⟨⟨_, c - 1, by omega, hE3, hb1.set 2 _⟩, below_set HOLD.out hNEW 2 _, hNEW⟩)
    have HK2 := Lib.hid (HK.out.set (g := R) (.inl rfl) 2 (.slice (if c = 1 then some ⟨g, off, none⟩ else some ⟨g, off + 4, none⟩) (t.length - (i + 1)) (c - 1)))
    have bE2 := bE.other (Ne.symm hRz) 2 (.slice (if c = 1 then some ⟨g, off, none⟩ else some ⟨g, off + 4, none⟩) (t.length - (i + 1)) (c - 1))
    clear hb1 bE HOLD HK hE3 hE2 hWz
    generalize (if c = 1 then some (⟨g, off, none⟩ : Addr) else some ⟨g, off + 4, none⟩) = a2 at *
    generalize w1.setCell ⟨R, 2, none⟩ (.slice a2 (t.length - (i + 1)) (c - 1)) = w2 at *
    clear w1
    have t0 := bE2.cell 0; have t1 := bE2.cell 1; have t2 := bE2.cell 2; have t3 := bE2.cell 3
    simp only [List.getElem?_toArray, List.getElem?_cons_zero, List.getElem?_cons_succ] at t0 t1 t2 t3
    go_wp2_with fail
    refine (HKD.out w2 HX.out).mono ?_
    rintro e w3 ⟨hr, hk⟩
    have HK3 := Lib.hid (HK2.out.trans hk)
    have bE3 := bE2.kpR hk (Ne.symm hRz)
    clear t0 t1 t2 t3 hk HK2 HX bE2 HKD
    have t3 := bE3.cell 3
    simp only [List.getElem?_toArray, List.getElem?_cons_zero, List.getElem?_cons_succ] at t3
    clear bE3
    cases O2 with
    | none =>
      obtain ⟨v, rfl⟩ := hr
      have ho : O = none := HO.out
      have HO2 := Lib.hid ho
      clear HO ho
      go_wp2_with fail
      go_quiet (fail)
      go_wp2_with fail
      go_ret2
      rw [HO2.out]
      exact ⟨⟨_, rfl⟩, HK3.out.drewN nq⟩
    | some r =>
      obtain ⟨e2, j2⟩ := r
      obtain ⟨rfl, hx2⟩ := hr
      have ho := HO.out
      rw [Option.bind_some] at ho
      simp only at ho hx2
      clear HO
      by_cases he2 : (e2 : Int) = xt
      · subst he2
        rw [if_pos rfl] at ho
        have HO2 := Lib.hid ho
        have HX2 := Lib.hid hx2
        clear ho hx2
        go_wp2_with fail
        go_quiet (fail)
        go_wp2_with fail
        go_ret2
        rw [HO2.out]
        exact ⟨⟨rfl, HX2.out.below (below_drN (Below.refl _ _) nq)⟩, HK3.out.drewN nq⟩
      · rw [if_neg he2] at ho
        have q1 : ((e2 : Int) == xt) = false := beq_eq_false_iff_ne.2 he2
        have HO2 := Lib.hid ho
        clear ho hx2 he2
        go_wp2_with fail
        go_quiet (fail)
        go_wp2_with fail
        go_ret2
        rw [HO2.out]
        exact ⟨⟨_, rfl⟩, HK3.out.drewN nq⟩
  · rw [decide_eq_false (fun h => hx ⟨h.1, h.2.1, h.2.2.1⟩)] at he
    rw [if_neg (fun h => hx ⟨h.2.1, h.2.2.1, h.2.2.2⟩)] at hO
    have HO := Lib.hid hO
    clear hO hkd hb1
    go_enter Tryd.func42, Tryd.ntmps42
    go_upto_region 4 with fail
    clear d0 d1 d2 d3 c2 f2
    generalize W.alloc (.cells (enI xd xn xf xt) 83) = w1 at *
    have t0 := bE.cell 0; have t1 := bE.cell 1; have t2 := bE.cell 2; have t3 := bE.cell 3
    simp only [List.getElem?_toArray, List.getElem?_cons_zero, List.getElem?_cons_succ] at t0 t1 t2 t3
    go_wp2_with fail
    go_ret2
    rw [HO.out]
    exact ⟨⟨_, rfl⟩, HK.out⟩
theorem read_all (hP : PartsOk l) (hl : l.length ≤ 1000) (hw : w.length ≤ 1000) (hw8 : ∀ x ∈ w, x < 256) (ht : t.length ≤ 1000) (hN : NodesAt l la W0) (hT : BtsAt w wa W0) : ∀ k, RdG l w t la lc wa wc W0 R k
  | 0 => fun _ _ _ _ _ h => absurd h (Nat.not_lt_zero _)
  | k + 1 => read_step hP hl hw hw8 ht hN hT (read_all hP hl hw hw8 ht hN hT k)
end
theorem infoRd : (Tryd.prog.info? 85).map (·.size) = some 3 := by kernel_rfl
set_option maxRecDepth 100000 in
set_option maxHeartbeats 16000000 in
theorem treeRight_calls (l : List NdN) (hl : l.length ≤ 1000) (w : List Nat) (hw : w.length ≤ 1000) (hw8 : ∀ x ∈ w, x < 256) (t : List EnN) (ht : t.length ≤ 1000) (la wa ta : Option Addr) (lc wc tc : Nat) (htc : t.length ≤ tc) (W : World) (hN : NodesAt l la W) (hT : BtsAt w wa W) (hE : EntsAt t ta W) :
    Calls Tryd.prog 22 #[.slice la l.length lc, .slice wa w.length wc, .slice ta t.length tc] W fun e W' => e = .returned (.bool (treeT l w t)) ∧ Below W.heap.size W W' := by
  have HR := tmright_calls l hl la lc W hN
  cases hr : rightT l with
  | false =>
    rw [hr] at HR
    have HX := Lib.hid (show treeT l w t = false by unfold treeT; rw [hr]; rfl)
    clear hr hN hT hE
    go_enter Tryd.func22, Tryd.ntmps22
    go_wp2_with fail
    refine HR.mono ?_
    rintro e w1 ⟨rfl, hb⟩
    go_wp2_with fail
    go_ret
    exact ⟨by rw [HX.out] <;> rfl, hb⟩
  | true =>
    rw [hr] at HR
    have hpos : 0 < l.length := (rightT_q l hr).pos
    have hlq := (rightT_q l hr).len
    have HX := Lib.hid (tree_dev l w t hr)
    have hP := parts_ok l hr
    have HRB := Lib.hid (fun e j => @rd_bound l w t hP l.length 0 1 (l.length - 1) 0 e j (by omega) (by omega) (Nat.zero_le _))
    have xl : IntKind.i64.wrap ((l.length : Int) - 1) = ((l.length - 1 : Nat) : Int) := by rw [show ((l.length : Int) - 1) = ((l.length - 1 : Nat) : Int) by omega]; exact IntWalk.i64_in _ (by omega)
    have HRA := Lib.hid (fun W0 R (h1 : NodesAt l la W0) (h2 : BtsAt w wa W0) => @read_all l w t la wa lc wc W0 R hP hl hw hw8 ht h1 h2 l.length 0 1 (l.length - 1) 0)
    have HN := Lib.hid hN
    have HT := Lib.hid hT
    have HE := Lib.hid hE
    clear hN hT hE hr hP
    generalize treeT l w t = TR at *
    obtain ⟨O, hO⟩ : ∃ O, O = rdF l w t l.length 0 1 (l.length - 1) 0 := ⟨_, rfl⟩
    rw [← hO] at HX HRB
    rw [← hO] at HRA
    clear hO
    go_enter Tryd.func22, Tryd.ntmps22
    go_wp2_with fail
    refine HR.mono ?_
    rintro e w1 ⟨rfl, hb⟩
    have HB := Lib.hid hb
    clear HR hb
    have HBA := Lib.hid (HB.out.alloc HB.out.size (.cells (rdC la l.length lc wa w.length wc (.slice ta t.length tc)) 85))
    have bR := Blk.new w1 (rdC la l.length lc wa w.length wc (.slice ta t.length tc)) 85
    go_upto_region 4 with fail
    have HX0 := Lib.hid (show RdX l w t la lc wa wc w1 w1.heap.size 0 (w1.alloc (.cells (rdC la l.length lc wa w.length wc (.slice ta t.length tc)) 85)) from ⟨⟨ta, tc, by omega, by rw [List.drop_zero]; exact HE.out.below HB.out, bR⟩, (Below.refl _ _).alloc (Nat.le_refl _) _, Nat.le_refl _⟩)
    clear bR
    have hra := HRA.out w1 w1.heap.size (HN.out.below HB.out) (HT.out.below HB.out) _ (by omega) (by omega) (by omega) (by omega) (by omega) (by omega) HX0.out
    have HSZ := Lib.hid HB.out.size
    generalize w1.alloc (.cells (rdC la l.length lc wa w.length wc (.slice ta t.length tc)) 85) = w2 at *
    go_wp2_with fail
    refine hra.mono ?_
    rintro e w3 ⟨hr, hk⟩
    have HBF := Lib.hid (HBA.out.trans (hk.toBelow HBA.out.size (fun k h => by subst h; exact HSZ.out)))
    clear HRA hra hk HX0 HBA
    cases O with
    | none =>
      obtain ⟨v, rfl⟩ := hr
      have HX2 := Lib.hid (show TR = false by rw [HX.out]; rfl)
      clear HX
      go_wp2_with fail
      try go_quiet (fail)
      try go_wp2_with fail
      go_ret
      exact ⟨by rw [HX2.out] <;> rfl, HBF.out⟩
    | some r =>
      obtain ⟨e2, j2⟩ := r
      obtain ⟨rfl, hx⟩ := hr
      obtain ⟨b1, b2, b3, b4⟩ := HRB.out e2 j2 rfl
      simp only at hx
      obtain ⟨a, c, _, _, hb⟩ := hx.left
      have c2 := hb.cell 2
      simp only [List.getElem?_toArray, List.getElem?_cons_zero, List.getElem?_cons_succ] at c2
      clear hx hb HRB
      have HX2 := Lib.hid (show TR = (decide (e2 = w.length) && decide (j2 = t.length)) by
        rw [HX.out, Bool.eq_iff_iff]; simp)
      clear HX
      by_cases h1 : e2 = w.length
      · subst h1
        have HX3 := Lib.hid (show TR = decide (j2 = t.length) by rw [HX2.out]; simp)
        clear HX2
        by_cases h2 : j2 = t.length
        · have g1 : t.length - j2 = 0 := by omega
          rw [g1] at c2
          rw [decide_eq_true h2] at HX3
          go_wp2_with fail
          try go_quiet (fail)
          try go_wp2_with fail
          go_ret
          exact ⟨by rw [HX3.out] <;> rfl, HBF.out⟩
        · rw [decide_eq_false h2] at HX3
          have g1 : (((t.length - j2 : Nat) : Int) == 0) = false := beq_eq_false_iff_ne.2 (by omega)
          have g2 : ((t.length - j2) == 0) = false := beq_eq_false_iff_ne.2 (by omega)
          go_wp2_with fail
          try go_quiet (fail)
          try go_wp2_with fail
          go_ret
          exact ⟨by rw [HX3.out] <;> rfl, HBF.out⟩
      · have g1 : ((e2 : Int) == (w.length : Int)) = false := beq_eq_false_iff_ne.2 (by omega)
        have g2 : (e2 == w.length) = false := beq_eq_false_iff_ne.2 h1
        have HX3 := Lib.hid (show TR = false by rw [HX2.out, decide_eq_false h1]; rfl)
        clear HX2
        go_wp2_with fail
        try go_quiet (fail)
        try go_wp2_with fail
        go_ret
        exact ⟨by rw [HX3.out] <;> rfl, HBF.out⟩
end Go.Proofs.YtdpkhliojbeglaaDoor

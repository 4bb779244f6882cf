/- Texts put together: Tru Trv Try. -/
import Derived.Test.YtooolhekihijlaaQT
import Derived.Test.YtooolhekihijlaaQU
import Derived.Test.YtooolhekihijlaaQR
import Derived.Test.YtooolhekihijlaaQN
import Derived.Test.YtooolhekihijlaaQE
/- How the developers read a parse tree: kids, read, Right. Stage 14. -/
namespace Go.Proofs.Ytooolhekihijlaa
open Go.RowKit BS

section
variable {l : List NdN} {w : List Nat} {t : List EnN} {la wa : Option Addr} {lc wc : Nat} {W0 : World} {R : Nat}
set_option maxRecDepth 100000 in
set_option maxHeartbeats 64000000 in
theorem kidsR_calls (hP : PartsOk l) (hl : l.length ≤ 1000) (hw : w.length ≤ 1000) (hw8 : ∀ x ∈ w, x < 256) (ht : t.length ≤ 1000) (hN : NodesAt l la W0) (hT : BtsAt w wa W0) {k : Nat} (HG : RdG l w t la lc wa wc W0 R k) (n : Nat) (hnl : n < l.length) (hn : n ≤ k)
    (i : Nat) (d T : Int) (f : Nat) (hd : 0 ≤ d) (hdk : d + 1 + k ≤ 100000) (hi : i ≤ t.length) (hf : f ≤ w.length) (W : World) (h : RdX l w t la lc wa wc W0 R i W) :
    Calls Try.prog 45 #[.pointer (some ⟨R, 0, none⟩), .agg (enI d n f T)] W fun e W' => ResD (RdX l w t la lc wa wc W0 R) (kdD (rdF l w t k) (ndE l n) w t i d f T) e W' ∧ KpA (fun g => g = R) W W' := by
  have hRW := h.lt
  have hk18 := hP.kind n hnl
  have hpa := hP.a n hnl
  have hpb := hP.b n hnl
  have hnd : ndE l n = l[n] := by simp [ndE, hnl]
  have bE := Blk.new W (enI d n f T) 44
  have HK := Lib.hid ((KpA.refl (fun g => g = R) W).alloc (.cells (enI d n f T) 44))
  have hx := h.below ((Below.refl _ _).alloc (Nat.le_refl _) (.cells (enI d n f T) 44))
  have hzE : W.heap.size < (W.alloc (.cells (enI d n f T) 44)).heap.size := by rw [World.size_alloc]; omega
  obtain ⟨g, off, rfl, hg, hc⟩ := hN (by rintro rfl; simp at hnl)
  have cc := fun (j : Nat) (hj : j < 8) => (hx.old.cell (p := ⟨g, off + n * 8 + j, none⟩) hg).trans (hc n hnl j hj)
  have HX := Lib.hid hx
  obtain ⟨a0, c0', _, _, hb⟩ := hx.left
  have q0 := hb.cell 0
  simp only [List.getElem?_toArray, List.getElem?_cons_zero] at q0
  have hR1 := hx.lt
  have hg1 := Nat.lt_of_lt_of_le hg hx.old.size
  have xd : IntKind.i64.wrap (d + 1) = d + 1 := IntWalk.i64_in _ (by omega)
  have hnI : (n : Int) < (l.length : Int) := by omega
  have hnI0 : (0 : Int) ≤ (n : Int) := by omega
  have hnd2 : decide (n < l.length) = true := decide_eq_true hnl
  rw [hnd] at hk18 hpa hpb ⊢
  obtain ⟨k0, p, q, m, s, hxx⟩ : ∃ k0 a b m s, l[n] = (⟨k0, a, b, m, s⟩ : NdN) := ⟨_, _, _, _, _, rfl⟩
  rw [hxx] at cc hk18 hpa hpb ⊢
  clear hxx hnd
  simp only at hk18 hpa hpb
  have c0 := cc 0 (by decide); have c1 := cc 1 (by decide); have c2 := cc 2 (by decide); have c3 := cc 3 (by decide); have c4 := cc 4 (by decide); have c5 := cc 5 (by decide); have c6 := cc 6 (by decide); have c7 := cc 7 (by decide)
  simp only [ndA, List.getElem?_toArray, List.getElem?_cons_zero, List.getElem?_cons_succ, Nat.add_zero] at c0 c1 c2 c3 c4 c5 c6 c7
  have t0 := bE.cell 0; have t1 := bE.cell 1; have t2 := bE.cell 2; have t3 := bE.cell 3
  simp only [List.getElem?_toArray, List.getElem?_cons_zero, List.getElem?_cons_succ] at t0 t1 t2 t3
  have HBY := Lib.hid (fun W1 (h1 : RdX l w t (some ⟨g, off, none⟩) lc wa wc W0 R i W1) => byteOf_calls (lc := lc) (la := some ⟨g, off, none⟩) hw8 hw hT s i f hf W1 h1)
  have HCH := Lib.hid (fun W1 (h1 : RdX l w t (some ⟨g, off, none⟩) lc wa wc W0 R i W1) => chosen_calls ht k0 p q m s i hi W1 h1)
  have HBO := Lib.hid (fun (p' q' : Nat) (hp' : p' < n) (hq' : q' < n) W1 h1 => both_calls hP hw HG k0 m p' q' s (Nat.lt_of_lt_of_le hp' hn) (Nat.lt_of_lt_of_le hq' hn) (Nat.lt_trans hp' hnl) (Nat.lt_trans hq' hnl) i d n T f hd hdk hi hf W1 h1)
  have HAG := Lib.hid (fun (p' : Nat) (hp' : p' < n) W1 h1 => again_calls hP hw HG k0 q m p' s (Nat.lt_of_lt_of_le hp' hn) (Nat.lt_trans hp' hnl) i d n T f hd hdk hi hf W1 h1)
  have HRD := Lib.hid (fun (p' : Nat) (hp' : p' < n) W1 h1 => HG i (d + 1) p' f W1 (Nat.lt_of_lt_of_le hp' hn) (Nat.lt_trans hp' hnl) hi hf (by omega) (by omega) h1)
  obtain ⟨O, hO⟩ : ∃ O, O = kdD (rdF l w t k) ⟨k0, p, q, m, s⟩ w t i d f T := ⟨_, rfl⟩
  rw [← hO]
  have HO := Lib.hid hO
  clear h hx hb cc hc hN hT HG hP hw8 hO
  go_enter Try.func45, Try.ntmps45
  go_upto_region 1 with fail
  have HBE := Lib.hid bE
  clear bE
  generalize W.alloc (.cells (enI d n f T) 44) = w1 at *
  go_region
  have hsz : (w1.alloc (.cells (ndI k0 p q m s) 49)).drew.heap.size = w1.heap.size + 1 := World.size_alloc _ _
  have bN : Blk (w1.alloc (.cells (ndI k0 p q m s) 49)).drew w1.heap.size (ndI k0 p q m s) 49 := Blk.new w1 (ndI k0 p q m s) 49
  have hbd : Below w1.heap.size w1 (w1.alloc (.cells (ndI k0 p q m s) 49)).drew := ((Below.refl _ _).alloc (Nat.le_refl _) _).drew
  have bE := HBE.out.below hbd hzE
  have HX2 := Lib.hid (HX.out.below hbd)
  have HK2 := Lib.hid (HK.out.below hbd)
  clear c0 c1 c2 c3 c4 c5 c6 c7 t0 t1 t2 t3 q0 HX HK HBE hbd
  have e1 : (w1.alloc (.cells #[.int .i64 k0, .int .i64 p, .int .i64 q, .int .i64 m, .int .u64 ((wd s 0 : Nat) : Int), .int .u64 ((wd s 1 : Nat) : Int), .int .u64 ((wd s 2 : Nat) : Int), .int .u64 ((wd s 3 : Nat) : Int)] 49)).drew = (w1.alloc (.cells (ndI k0 p q m s) 49)).drew := rfl
  rw [e1]
  clear e1
  generalize (w1.alloc (.cells (ndI k0 p q m s) 49)).drew = w2 at *
  generalize w1.heap.size = E1 at *
  clear w1
  have c0 := bN.cell 0; have c1 := bN.cell 1; have c2 := bN.cell 2; have c3 := bN.cell 3; have c4 := bN.cell 4; have c5 := bN.cell 5; have c6 := bN.cell 6; have c7 := bN.cell 7
  have t0 := bE.cell 0; have t1 := bE.cell 1; have t2 := bE.cell 2; have t3 := bE.cell 3
  simp only [List.getElem?_toArray, List.getElem?_cons_zero, List.getElem?_cons_succ] at c0 c1 c2 c3 c4 c5 c6 c7 t0 t1 t2 t3
  have HXW := Lib.hid (fun W1 (hb : Below w2.heap.size w2 W1) => HX2.out.below hb)
  have HBN := Lib.hid bN
  have HBE := Lib.hid bE
  clear bN bE
  rcases (by omega : k0 = 1 ∨ k0 = 2 ∨ k0 = 3 ∨ k0 = 4 ∨ k0 = 5 ∨ k0 = 6 ∨ k0 = 7 ∨ k0 = 8) with rfl | rfl | rfl | rfl | rfl | rfl | rfl | rfl
  · have ho : O = some (f, i) := HO.out
    clear HO
    have HO := Lib.hid ho
    clear ho
    go_wp2_with fail
    go_ret2
    rw [HO.out]
    exact ⟨⟨rfl, HX2.out⟩, HK2.out⟩
  · have hby := HBY.out w2 HX2.out
    rw [show (if f < w.length ∧ s.getLsbD (w.getD f 0) = true then some (f + 1, i) else none) = O from HO.out.symm] at hby
    clear HO
    go_wp2_with fail
    refine hby.mono ?_
    rintro e w3 ⟨hr, hk⟩
    obtain ⟨x, b, rfl, hr⟩ := hr.tuple
    have HK3 := Lib.hid (HK2.out.trans hk)
    clear c0 c1 c2 c3 c4 c5 c6 c7 t0 t1 t2 t3 hk hby HRD HK2 HX2 HXW HBN HBE HBY HCH HBO HAG
    go_wp2_with fail
    go_ret2
    exact ⟨hr, HK3.out⟩
  · obtain ⟨p', hp1, hp2⟩ := hpa (by omega)
    obtain ⟨q', hq1, hq2⟩ := hpb (.inl rfl)
    subst hp1 hq1
    have hby := HBO.out p' q' hp2 hq2 w2 HX2.out
    rw [show ((rdF l w t k i (d + 1) p' f).bind fun r => rdF l w t k r.2 (d + 1) q' r.1) = O from HO.out.symm] at hby
    clear HO
    go_wp2_with fail
    refine hby.mono ?_
    rintro e w3 ⟨hr, hk⟩
    obtain ⟨x, b, rfl, hr⟩ := hr.tuple
    have HK3 := Lib.hid (HK2.out.trans hk)
    clear c0 c1 c2 c3 c4 c5 c6 c7 t0 t1 t2 t3 hk hby HRD HK2 HX2 HXW HBN HBE HBY HCH HBO HAG
    go_wp2_with fail
    go_ret2
    exact ⟨hr, HK3.out⟩
  · obtain ⟨p', hp1, hp2⟩ := hpa (by omega)
    obtain ⟨q', hq1, hq2⟩ := hpb (.inr rfl)
    subst hp1 hq1
    obtain ⟨c', hc1, hc2, hc3⟩ : ∃ c' : Nat, c' < n ∧ (if i < t.length ∧ (atE t i).node = (q' : Int) then (q' : Int) else (p' : Int)) = (c' : Int) ∧ rdF l w t k i (d + 1) c' f = O := by
      by_cases hcc : i < t.length ∧ (atE t i).node = (q' : Int)
      · refine ⟨q', hq2, if_pos hcc, ?_⟩
        rw [HO.out]
        show _ = rdF l w t k i (d + 1) (chF ⟨4, p', q', m, s⟩ t i) f
        unfold chF
        rw [if_pos hcc, Int.toNat_natCast]
      · refine ⟨p', hp2, if_neg hcc, ?_⟩
        rw [HO.out]
        show _ = rdF l w t k i (d + 1) (chF ⟨4, p', q', m, s⟩ t i) f
        unfold chF
        rw [if_neg hcc, Int.toNat_natCast]
    have HCH2 := Lib.hid (fun W1 (hb : Below w2.heap.size w2 W1) => (HCH.out W1 (HXW.out W1 hb)).mono fun e w'' hh => (show e = .returned (.int .i64 (c' : Int)) ∧ Below w2.heap.size w2 w'' from ⟨by rw [hh.1, hc2], hb.trans (hh.2.mono hb.size)⟩))
    have HRR := Lib.hid (fun W1 (hb : Below w2.heap.size w2 W1) => HRD.out c' hc1 W1 (HXW.out W1 hb))
    rw [hc3] at HRR
    have HCE := Lib.hid (show ∀ W', Below w2.heap.size w2 W' → W'.cell? ⟨W.heap.size, 0, none⟩ = some (.int .i64 d) ∧ W'.cell? ⟨W.heap.size, 2, none⟩ = some (.int .i64 (f : Nat)) ∧ Blk W' E1 (ndI 4 p' q' m s) 49 from fun W' hb => ⟨(hb.cell (p := ⟨W.heap.size, 0, none⟩) HBE.out.lt).trans t0, (hb.cell (p := ⟨W.heap.size, 2, none⟩) HBE.out.lt).trans t2, HBN.out.below hb HBN.out.lt⟩)
    clear HO HCH HBO HAG HBY HRD hc2 hc3
    go_upto_region 8 with fail
    clear c0 c1 c2 c3 c4 c5 c6 c7 t0 t1 t2 t3
    refine region_stepsD (S := fun _ W' => Below w2.heap.size w2 W') (m := 9) (n := 9) (k := 4) [] rfl (by kernel_rfl) (by kernel_rfl) ((Below.refl _ _).drew) ?_
    simp only [List.size_toArray, List.length_cons, List.length_nil, Nat.reduceAdd, Array.replicate_succ, Array.replicate_zero, List.push_toArray, List.nil_append, List.cons_append]
    refine AnyD.stepE (m := 9) (i := 0) (d := some 37) [0] rfl rfl (by kernel_rfl) (by kernel_rfl) (by kernel_rfl) (by kernel_rfl) (by kernel_rfl) ?_
    apply Exists.intro
    apply And.intro
    · intro k
      apply StepsIf.yield
      · kernel_rfl
      intro w' hS
      clear hS; go_simp
      rfl
    intro a' ha'
    simp only [Act.put, List.setIfInBounds_toArray, List.set_cons_zero, List.set_cons_succ] at ha'
    subst ha'
    refine AnyD.stepE (m := 9) (i := 1) (d := some 38) [3, 1] rfl rfl (by kernel_rfl) (by kernel_rfl) (by kernel_rfl) (by kernel_rfl) (by kernel_rfl) ?_
    apply Exists.intro
    apply And.intro
    · intro k
      apply StepsIf.yield
      · kernel_rfl
      intro w' hS
      clear hS; go_simp
      rfl
    intro a' ha'
    simp only [Act.put, List.setIfInBounds_toArray, List.set_cons_zero, List.set_cons_succ] at ha'
    subst ha'
    refine AnyD.next (m := 9) (i := 2) (d := some 39) (v := .agg (ndI 4 p' q' m s)) [3, 2] rfl rfl (by kernel_rfl) (by kernel_rfl) (by kernel_rfl) (by kernel_rfl) (by kernel_rfl) (fun k => StepsIf.yield (by kernel_rfl) (fun w' hS => by obtain ⟨_, _, hbn⟩ := HCE.out w' hS; have c0 := hbn.cell 0; have c1 := hbn.cell 1; have c2 := hbn.cell 2; have c3 := hbn.cell 3; have c4 := hbn.cell 4; have c5 := hbn.cell 5; have c6 := hbn.cell 6; have c7 := hbn.cell 7; simp only [List.getElem?_toArray, List.getElem?_cons_zero, List.getElem?_cons_succ] at c0 c1 c2 c3 c4 c5 c6 c7; clear hbn; clear hS; go_simp)) ?_
    intro a' ha'
    simp only [Act.put, List.setIfInBounds_toArray, List.set_cons_zero, List.set_cons_succ] at ha'
    subst ha'
    refine AnyD.next (m := 9) (i := 3) (d := some 40) (v := .int .i64 (c' : Nat)) [3] rfl rfl (by kernel_rfl) (by kernel_rfl) (by kernel_rfl) (by kernel_rfl) (by kernel_rfl) (fun k => StepsIf.call (by kernel_rfl) (fun w' hS => by clear hS; go_simp) (fun w' hS => HCH2.out w' hS)) ?_
    intro a' ha'
    simp only [Act.put, List.setIfInBounds_toArray, List.set_cons_zero, List.set_cons_succ] at ha'
    subst ha'
    refine AnyD.stepE (m := 9) (i := 4) (d := some 41) [6, 5, 4] rfl rfl (by kernel_rfl) (by kernel_rfl) (by kernel_rfl) (by kernel_rfl) (by kernel_rfl) ?_
    apply Exists.intro
    apply And.intro
    · intro k
      apply StepsIf.yield
      · kernel_rfl
      intro w' hS
      clear hS; go_simp
      rfl
    intro a' ha'
    simp only [Act.put, List.setIfInBounds_toArray, List.set_cons_zero, List.set_cons_succ] at ha'
    subst ha'
    refine AnyD.next (m := 9) (i := 5) (d := some 42) (v := .int .i64 d) [6, 5] rfl rfl (by kernel_rfl) (by kernel_rfl) (by kernel_rfl) (by kernel_rfl) (by kernel_rfl) (fun k => StepsIf.yield (by kernel_rfl) (fun w' hS => by obtain ⟨f0, f2, hbn⟩ := HCE.out w' hS; clear hbn; clear hS; go_simp)) ?_
    intro a' ha'
    simp only [Act.put, List.setIfInBounds_toArray, List.set_cons_zero, List.set_cons_succ] at ha'
    subst ha'
    refine AnyD.next (m := 9) (i := 6) (d := some 43) (v := .int .i64 (d + 1)) [6] rfl rfl (by kernel_rfl) (by kernel_rfl) (by kernel_rfl) (by kernel_rfl) (by kernel_rfl) (fun k => StepsIf.yield (by kernel_rfl) (fun w' hS => by clear hS; go_simp)) ?_
    intro a' ha'
    simp only [Act.put, List.setIfInBounds_toArray, List.set_cons_zero, List.set_cons_succ] at ha'
    subst ha'
    refine AnyD.stepE (m := 9) (i := 7) (d := some 44) [8, 7] rfl rfl (by kernel_rfl) (by kernel_rfl) (by kernel_rfl) (by kernel_rfl) (by kernel_rfl) ?_
    apply Exists.intro
    apply And.intro
    · intro k
      apply StepsIf.yield
      · kernel_rfl
      intro w' hS
      clear hS; go_simp
      rfl
    intro a' ha'
    simp only [Act.put, List.setIfInBounds_toArray, List.set_cons_zero, List.set_cons_succ] at ha'
    subst ha'
    refine AnyD.next (m := 9) (i := 8) (d := some 45) (v := .int .i64 (f : Nat)) [8] rfl rfl (by kernel_rfl) (by kernel_rfl) (by kernel_rfl) (by kernel_rfl) (by kernel_rfl) (fun k => StepsIf.yield (by kernel_rfl) (fun w' hS => by obtain ⟨f0, f2, hbn⟩ := HCE.out w' hS; clear hbn; clear hS; go_simp)) ?_
    intro a' ha'
    simp only [Act.put, List.setIfInBounds_toArray, List.set_cons_zero, List.set_cons_succ] at ha'
    subst ha'
    refine AnyD.endC (n := 0) (by kernel_rfl) (by kernel_rfl) (fun w' hS => ?_)
    have hrr := HRR.out w' hS
    have HK4 := Lib.hid (HK2.out.below hS)
    clear hS HRR HCH2 HCE HXW HBN HBE HX2
    refine wpAny_one (i := 9) (o := ⟨some 46, _, _, _, _, _⟩) (by kernel_rfl) rfl (by kernel_rfl) ?_
    refine wp_callK (o := ⟨some 46, _, _, _, _, _⟩) (R := fun v W' => ∃ (x : Int) (b : Bool), v = .tuple #[.int .i64 x, .bool b] ∧ ResD (RdX l w t (some ⟨g, off, none⟩) lc wa wc W0 R) O (.returned (.tuple #[.int .i64 x, .bool b])) W' ∧ KpA (fun g => g = R) w' W') (by go_simp) (hrr.mono (fun e w' h => by obtain ⟨x, b, rfl, h2⟩ := h.1.tuple; exact ⟨_, rfl, x, b, rfl, h2, h.2⟩)) ?_
    rintro v w3 ⟨x, b, rfl, hr, hk⟩
    have HK5 := Lib.hid (HK4.out.trans hk)
    clear hk hrr HK4 HK2
    simp only [Act.put, List.setIfInBounds_toArray, List.set_cons_zero, List.set_cons_succ]
    refine AnyS.any (S := fun W => W = w3) _ _ _ ?_ _ rfl
    refine AnyS.next (i := 10) (d := some 47) (v := .int .i64 x) rfl rfl (by kernel_rfl) (by kernel_rfl) (by kernel_rfl) (StepsIf.yield (by kernel_rfl) (fun w' hS => by clear hS; go_simp)) ?_
    intro a' ha'
    simp only [Act.put, List.setIfInBounds_toArray, List.set_cons_zero, List.set_cons_succ] at ha'
    subst ha'
    refine AnyS.next (i := 11) (d := some 48) (v := .bool b) rfl rfl (by kernel_rfl) (by kernel_rfl) (by kernel_rfl) (StepsIf.yield (by kernel_rfl) (fun w' hS => by clear hS; go_simp)) ?_
    intro a' ha'
    simp only [Act.put, List.setIfInBounds_toArray, List.set_cons_zero, List.set_cons_succ] at ha'
    subst ha'
    refine AnyS.next (i := 12) (d := some 4) (v := .int .i64 x) rfl rfl (by kernel_rfl) (by kernel_rfl) (by kernel_rfl) (StepsIf.yield (by kernel_rfl) (fun w' hS => by clear hS; go_simp)) ?_
    intro a' ha'
    simp only [Act.put, List.setIfInBounds_toArray, List.set_cons_zero, List.set_cons_succ] at ha'
    subst ha'
    refine AnyS.next (i := 13) (d := some 5) (v := .bool b) rfl rfl (by kernel_rfl) (by kernel_rfl) (by kernel_rfl) (StepsIf.yield (by kernel_rfl) (fun w' hS => by clear hS; go_simp)) ?_
    intro a' ha'
    simp only [Act.put, List.setIfInBounds_toArray, List.set_cons_zero, List.set_cons_succ] at ha'
    subst ha'
    refine AnyS.done (by kernel_rfl) ?_ _
    rintro w4 rfl
    go_wp2_with fail
    go_ret2
    exact ⟨hr, HK5.out⟩
  · obtain ⟨p', hp1, hp2⟩ := hpa (by omega)
    subst hp1
    have hby := HAG.out p' hp2 w2 HX2.out
    rw [show (agF (fun i at_ => rdF l w t k i (d + 1) p' at_) T (w.length + 1) i f) = O from HO.out.symm] at hby
    clear HO
    go_wp2_with fail
    refine hby.mono ?_
    rintro e w3 ⟨hr, hk⟩
    obtain ⟨x, b, rfl, hr⟩ := hr.tuple
    have HK3 := Lib.hid (HK2.out.trans hk)
    clear c0 c1 c2 c3 c4 c5 c6 c7 t0 t1 t2 t3 hk hby HRD HK2 HX2 HXW HBN HBE HBY HCH HBO HAG
    go_wp2_with fail
    go_ret2
    exact ⟨hr, HK3.out⟩
  · obtain ⟨p', hp1, hp2⟩ := hpa (by omega)
    subst hp1
    have ho : O = if T = f then some (f, i) else rdF l w t k i (d + 1) p' f := HO.out
    by_cases hT : T = (f : Int)
    · subst hT
      rw [if_pos rfl] at ho
      clear HO
      have HO := Lib.hid ho
      clear ho
      go_wp2_with fail
      go_ret2
      rw [HO.out]
      exact ⟨⟨rfl, HX2.out⟩, HK2.out⟩
    · rw [if_neg hT] at ho
      have qT : (T == (f : Int)) = false := beq_eq_false_iff_ne.2 hT
      have hby := HRD.out p' hp2 w2 HX2.out
      rw [← ho] at hby
      clear HO ho hT
      go_wp2_with fail
      refine hby.mono ?_
      rintro e w3 ⟨hr, hk⟩
      obtain ⟨x, b, rfl, hr⟩ := hr.tuple
      have HK3 := Lib.hid (HK2.out.trans hk)
      clear c0 c1 c2 c3 c4 c5 c6 c7 t0 t1 t2 t3 hk hby HRD HK2 HX2 HXW HBN HBE HBY HCH HBO HAG
      go_wp2_with fail
      go_ret2
      exact ⟨hr, HK3.out⟩
  · obtain ⟨p', hp1, hp2⟩ := hpa (by omega)
    subst hp1
    have hby := HRD.out p' hp2 w2 HX2.out
    rw [show rdF l w t k i (d + 1) p' f = O from HO.out.symm] at hby
    clear HO
    go_wp2_with fail
    refine hby.mono ?_
    rintro e w3 ⟨hr, hk⟩
    obtain ⟨x, b, rfl, hr⟩ := hr.tuple
    have HK3 := Lib.hid (HK2.out.trans hk)
    clear c0 c1 c2 c3 c4 c5 c6 c7 t0 t1 t2 t3 hk hby HRD HK2 HX2 HXW HBN HBE HBY HCH HBO HAG
    go_wp2_with fail
    go_ret2
    exact ⟨hr, HK3.out⟩
  · obtain ⟨p', hp1, hp2⟩ := hpa (by omega)
    subst hp1
    have hby := HRD.out p' hp2 w2 HX2.out
    rw [show rdF l w t k i (d + 1) p' f = O from HO.out.symm] at hby
    clear HO
    go_wp2_with fail
    refine hby.mono ?_
    rintro e w3 ⟨hr, hk⟩
    obtain ⟨x, b, rfl, hr⟩ := hr.tuple
    have HK3 := Lib.hid (HK2.out.trans hk)
    clear c0 c1 c2 c3 c4 c5 c6 c7 t0 t1 t2 t3 hk hby HRD HK2 HX2 HXW HBN HBE HBY HCH HBO HAG
    go_wp2_with fail
    go_ret2
    exact ⟨hr, HK3.out⟩
end
end Go.Proofs.Ytooolhekihijlaa

/- How the developers read a parse tree: read, Right. Stage 14. -/
namespace Go.Proofs.Ytooolhekihijlaa
open Go.RowKit BS

section
variable {l : List NdN} {w : List Nat} {t : List EnN} {la wa : Option Addr} {lc wc : Nat} {W0 : World} {R : Nat}
set_option maxRecDepth 100000 in
set_option maxHeartbeats 32000000 in
theorem read_step (hP : PartsOk l) (hl : l.length ≤ 1000) (hw : w.length ≤ 1000) (hw8 : ∀ x ∈ w, x < 256) (ht : t.length ≤ 1000) (hN : NodesAt l la W0) (hT : BtsAt w wa W0) {k : Nat} (HG : RdG l w t la lc wa wc W0 R k) : RdG l w t la lc wa wc W0 R (k + 1) := by
  intro i d n f W hn hnl hi hf hd hdk h
  obtain ⟨O, hO⟩ : ∃ O, O = rdF l w t (k + 1) i d n f := ⟨_, rfl⟩
  rw [← hO]
  rw [rdF] at hO
  obtain ⟨a, c, hcap, hE, hb⟩ := h.left
  have c2 := hb.cell 2
  have f2 := hb.frozen 2
  simp only [List.getElem?_toArray, List.getElem?_cons_zero, List.getElem?_cons_succ] at c2
  by_cases hlt : i < t.length
  case neg =>
    have hz : t.length - i = 0 := by omega
    rw [hz] at c2
    rw [if_neg (fun h => hlt h.1)] at hO
    have HO := Lib.hid hO
    clear hE hO HG h f2 hb
    go_enter Try.func30, Try.ntmps30
    go_wp2_with fail
    go_ret2
    rw [HO.out]
    exact ⟨⟨_, rfl⟩, KpA.refl _ _⟩
  case pos =>
  have hne : t.drop i ≠ [] := fun e => by have := congrArg List.length e; simp at this; omega
  obtain ⟨g, off, rfl, hg, hc⟩ := hE hne
  have hl0 : 0 < (t.drop i).length := by simp; omega
  have dd := fun (j : Nat) (hj : j < 4) => (h.old.cell (p := ⟨g, off + 0 * 4 + j, none⟩) hg).trans (hc 0 hl0 j hj)
  have hat : (t.drop i)[0] = atE t i := by rw [atE_lt t i hlt]; simp
  rw [hat] at dd
  have hE2 : EntsAt (t.drop (i + 1)) (some ⟨g, off + 4, none⟩) W0 := fun _ => ⟨g, off + 4, rfl, hg, fun j hj j' hj' => by
    have hj2 : j + 1 < (t.drop i).length := by simp at hj ⊢; omega
    have := hc (j + 1) hj2 j' hj'
    rw [show off + 4 + j * 4 + j' = off + (j + 1) * 4 + j' by omega, this]
    simp only [List.getElem_drop]
    congr 2
    simp only [Nat.add_assoc, Nat.add_comm 1 j]⟩
  have gl1 : ((t.length - i : Nat) : Int) ≠ 0 := by omega
  have gl2 : (((t.length - i : Nat) : Int) == 0) = false := beq_eq_false_iff_ne.2 gl1
  have gl3 : ((t.length - i) == 0) = false := beq_eq_false_iff_ne.2 (by omega)
  have gl4 : (0 : Int) < ((t.length - i : Nat) : Int) := by omega
  have gl5 : 0 < t.length - i := by omega
  have gl6 : 1 ≤ t.length - i := by omega
  have hgR : g ≠ R := fun e => by have := h.new; omega
  have hRW := h.lt
  have hgW := Nat.lt_of_lt_of_le hg h.old.size
  have hsub : t.length - i - 1 = t.length - (i + 1) := by omega
  generalize hxx : atE t i = x at *
  obtain ⟨xd, xn, xf, xt⟩ := x
  have d0 := dd 0 (by decide); have d1 := dd 1 (by decide); have d2 := dd 2 (by decide); have d3 := dd 3 (by decide)
  simp only [enA, List.getElem?_toArray, List.getElem?_cons_zero, List.getElem?_cons_succ, Nat.zero_mul, Nat.add_zero] at d0 d1 d2 d3
  simp only at hO
  have bE := Blk.new W (enI xd xn xf xt) 44
  have hbd : Below W.heap.size W (W.alloc (.cells (enI xd xn xf xt) 44)) := (Below.refl _ _).alloc (Nat.le_refl _) _
  have HK := Lib.hid ((KpA.refl (fun g => g = R) W).alloc (.cells (enI xd xn xf xt) 44))
  have hb1 := hb.below hbd hRW
  have HOLD := Lib.hid (h.old.trans (hbd.mono h.old.size))
  have hNEW := h.new
  have he := eqEn xd xn xf xt d n f xt
  have hkd := fun T (hd' : 0 ≤ d) W1 h1 => kidsR_calls hP hl hw hw8 ht hN hT HG n hnl (by omega) (i + 1) d T f hd' (by omega) (by omega) hf W1 h1
  clear hc dd hE hat hne hl0 hbd hb HG hN hT hP hw8 h
  by_cases hx : xd = d ∧ xn = n ∧ xf = f
  · obtain ⟨rfl, rfl, rfl⟩ := hx
    rw [decide_eq_true ⟨rfl, rfl, rfl, rfl⟩] at he
    rw [if_pos ⟨hlt, rfl, rfl, rfl⟩] at hO
    obtain ⟨O2, hO2⟩ : ∃ O2, O2 = kdD (rdF l w t k) (ndE l n) w t (i + 1) xd f xt := ⟨_, rfl⟩
    rw [← hO2] at hO
    have HO := Lib.hid hO
    have hkd2 := hkd xt hd
    rw [← hO2] at hkd2
    have HKD := Lib.hid hkd2
    clear hO hkd hkd2 hO2
    go_enter Try.func30, Try.ntmps30
    go_upto_region 4 with fail
    clear d0 d1 d2 d3 c2 f2
    have hRz : R ≠ W.heap.size := by omega
    have hWz : W.heap.size < (W.alloc (.cells (enI xd n f xt) 44)).heap.size := by rw [World.size_alloc]; omega
    generalize W.alloc (.cells (enI xd n f xt) 44) = w1 at *
    have t0 := bE.cell 0; have t1 := bE.cell 1; have t2 := bE.cell 2; have t3 := bE.cell 3
    have c2 := hb1.cell 2
    have f2 := hb1.frozen 2
    simp only [List.getElem?_toArray, List.getElem?_cons_zero, List.getElem?_cons_succ] at t0 t1 t2 t3 c2
    go_upto_region 7 with fail
    clear c2 f2 t0 t1 t2 t3 he
    have hE3 : EntsAt (t.drop (i + 1)) (if c = 1 then some ⟨g, off, none⟩ else some ⟨g, off + 4, none⟩) W0 := by
      by_cases hc1 : c = 1
      · intro hne
        exact absurd (List.drop_eq_nil_of_le (by omega)) hne
      · rw [if_neg hc1]; exact hE2
    have HX := Lib.hid (show RdX l w t la lc wa wc W0 R (i + 1) (w1.setCell ⟨R, 2, none⟩ (.slice (if c = 1 then some ⟨g, off, none⟩ else some ⟨g, off + 4, none⟩) (t.length - (i + 1)) (c - 1))) from ⟨⟨_, c - 1, by omega, hE3, hb1.set 2 _⟩, below_set HOLD.out hNEW 2 _, hNEW⟩)
    have HK2 := Lib.hid (HK.out.set (g := R) (.inl rfl) 2 (.slice (if c = 1 then some ⟨g, off, none⟩ else some ⟨g, off + 4, none⟩) (t.length - (i + 1)) (c - 1)))
    have bE2 := bE.other (Ne.symm hRz) 2 (.slice (if c = 1 then some ⟨g, off, none⟩ else some ⟨g, off + 4, none⟩) (t.length - (i + 1)) (c - 1))
    clear hb1 bE HOLD HK hE3 hE2 hWz
    generalize (if c = 1 then some (⟨g, off, none⟩ : Addr) else some ⟨g, off + 4, none⟩) = a2 at *
    generalize w1.setCell ⟨R, 2, none⟩ (.slice a2 (t.length - (i + 1)) (c - 1)) = w2 at *
    clear w1
    have t0 := bE2.cell 0; have t1 := bE2.cell 1; have t2 := bE2.cell 2; have t3 := bE2.cell 3
    simp only [List.getElem?_toArray, List.getElem?_cons_zero, List.getElem?_cons_succ] at t0 t1 t2 t3
    go_wp2_with fail
    refine (HKD.out w2 HX.out).mono ?_
    rintro e w3 ⟨hr, hk⟩
    have HK3 := Lib.hid (HK2.out.trans hk)
    have bE3 := bE2.kpR hk (Ne.symm hRz)
    clear t0 t1 t2 t3 hk HK2 HX bE2 HKD
    have t3 := bE3.cell 3
    simp only [List.getElem?_toArray, List.getElem?_cons_zero, List.getElem?_cons_succ] at t3
    clear bE3
    cases O2 with
    | none =>
      obtain ⟨v, rfl⟩ := hr
      have ho : O = none := HO.out
      have HO2 := Lib.hid ho
      clear HO ho
      go_wp2_with fail
      go_quiet (fail)
      go_wp2_with fail
      go_ret2
      rw [HO2.out]
      exact ⟨⟨_, rfl⟩, HK3.out.drewN nq⟩
    | some r =>
      obtain ⟨e2, j2⟩ := r
      obtain ⟨rfl, hx2⟩ := hr
      have ho := HO.out
      rw [Option.bind_some] at ho
      simp only at ho hx2
      clear HO
      by_cases he2 : (e2 : Int) = xt
      · subst he2
        rw [if_pos rfl] at ho
        have HO2 := Lib.hid ho
        have HX2 := Lib.hid hx2
        clear ho hx2
        go_wp2_with fail
        go_quiet (fail)
        go_wp2_with fail
        go_ret2
        rw [HO2.out]
        exact ⟨⟨rfl, HX2.out.below (below_drN (Below.refl _ _) nq)⟩, HK3.out.drewN nq⟩
      · rw [if_neg he2] at ho
        have q1 : ((e2 : Int) == xt) = false := beq_eq_false_iff_ne.2 he2
        have HO2 := Lib.hid ho
        clear ho hx2 he2
        go_wp2_with fail
        go_quiet (fail)
        go_wp2_with fail
        go_ret2
        rw [HO2.out]
        exact ⟨⟨_, rfl⟩, HK3.out.drewN nq⟩
  · rw [decide_eq_false (fun h => hx ⟨h.1, h.2.1, h.2.2.1⟩)] at he
    rw [if_neg (fun h => hx ⟨h.2.1, h.2.2.1, h.2.2.2⟩)] at hO
    have HO := Lib.hid hO
    clear hO hkd hb1
    go_enter Try.func30, Try.ntmps30
    go_upto_region 4 with fail
    clear d0 d1 d2 d3 c2 f2
    generalize W.alloc (.cells (enI xd xn xf xt) 44) = w1 at *
    have t0 := bE.cell 0; have t1 := bE.cell 1; have t2 := bE.cell 2; have t3 := bE.cell 3
    simp only [List.getElem?_toArray, List.getElem?_cons_zero, List.getElem?_cons_succ] at t0 t1 t2 t3
    go_wp2_with fail
    go_ret2
    rw [HO.out]
    exact ⟨⟨_, rfl⟩, HK.out⟩
theorem read_all (hP : PartsOk l) (hl : l.length ≤ 1000) (hw : w.length ≤ 1000) (hw8 : ∀ x ∈ w, x < 256) (ht : t.length ≤ 1000) (hN : NodesAt l la W0) (hT : BtsAt w wa W0) : ∀ k, RdG l w t la lc wa wc W0 R k
  | 0 => fun _ _ _ _ _ h => absurd h (Nat.not_lt_zero _)
  | k + 1 => read_step hP hl hw hw8 ht hN hT (read_all hP hl hw hw8 ht hN hT k)
end
theorem infoRd : (Try.prog.info? 64).map (·.size) = some 3 := by kernel_rfl
set_option maxRecDepth 100000 in
set_option maxHeartbeats 16000000 in
theorem treeRight_calls (l : List NdN) (hl : l.length ≤ 1000) (w : List Nat) (hw : w.length ≤ 1000) (hw8 : ∀ x ∈ w, x < 256) (t : List EnN) (ht : t.length ≤ 1000) (la wa ta : Option Addr) (lc wc tc : Nat) (htc : t.length ≤ tc) (W : World) (hN : NodesAt l la W) (hT : BtsAt w wa W) (hE : EntsAt t ta W) :
    Calls Try.prog 17 #[.slice la l.length lc, .slice wa w.length wc, .slice ta t.length tc] W fun e W' => e = .returned (.bool (treeT l w t)) ∧ Below W.heap.size W W' := by
  have HR := tmright_calls l hl la lc W hN
  cases hr : rightT l with
  | false =>
    rw [hr] at HR
    have HX := Lib.hid (show treeT l w t = false by unfold treeT; rw [hr]; rfl)
    clear hr hN hT hE
    go_enter Try.func17, Try.ntmps17
    go_wp2_with fail
    refine HR.mono ?_
    rintro e w1 ⟨rfl, hb⟩
    go_wp2_with fail
    go_ret
    exact ⟨by rw [HX.out] <;> rfl, hb⟩
  | true =>
    rw [hr] at HR
    have hpos : 0 < l.length := (rightT_q l hr).pos
    have hlq := (rightT_q l hr).len
    have HX := Lib.hid (tree_dev l w t hr)
    have hP := parts_ok l hr
    have HRB := Lib.hid (fun e j => @rd_bound l w t hP l.length 0 1 (l.length - 1) 0 e j (by omega) (by omega) (Nat.zero_le _))
    have xl : IntKind.i64.wrap ((l.length : Int) - 1) = ((l.length - 1 : Nat) : Int) := by rw [show ((l.length : Int) - 1) = ((l.length - 1 : Nat) : Int) by omega]; exact IntWalk.i64_in _ (by omega)
    have HRA := Lib.hid (fun W0 R (h1 : NodesAt l la W0) (h2 : BtsAt w wa W0) => @read_all l w t la wa lc wc W0 R hP hl hw hw8 ht h1 h2 l.length 0 1 (l.length - 1) 0)
    have HN := Lib.hid hN
    have HT := Lib.hid hT
    have HE := Lib.hid hE
    clear hN hT hE hr hP
    generalize treeT l w t = TR at *
    obtain ⟨O, hO⟩ : ∃ O, O = rdF l w t l.length 0 1 (l.length - 1) 0 := ⟨_, rfl⟩
    rw [← hO] at HX HRB
    rw [← hO] at HRA
    clear hO
    go_enter Try.func17, Try.ntmps17
    go_wp2_with fail
    refine HR.mono ?_
    rintro e w1 ⟨rfl, hb⟩
    have HB := Lib.hid hb
    clear HR hb
    have HBA := Lib.hid (HB.out.alloc HB.out.size (.cells (rdC la l.length lc wa w.length wc (.slice ta t.length tc)) 64))
    have bR := Blk.new w1 (rdC la l.length lc wa w.length wc (.slice ta t.length tc)) 64
    go_upto_region 4 with fail
    have HX0 := Lib.hid (show RdX l w t la lc wa wc w1 w1.heap.size 0 (w1.alloc (.cells (rdC la l.length lc wa w.length wc (.slice ta t.length tc)) 64)) from ⟨⟨ta, tc, by omega, by rw [List.drop_zero]; exact HE.out.below HB.out, bR⟩, (Below.refl _ _).alloc (Nat.le_refl _) _, Nat.le_refl _⟩)
    clear bR
    have hra := HRA.out w1 w1.heap.size (HN.out.below HB.out) (HT.out.below HB.out) _ (by omega) (by omega) (by omega) (by omega) (by omega) (by omega) HX0.out
    have HSZ := Lib.hid HB.out.size
    generalize w1.alloc (.cells (rdC la l.length lc wa w.length wc (.slice ta t.length tc)) 64) = w2 at *
    go_wp2_with fail
    refine hra.mono ?_
    rintro e w3 ⟨hr, hk⟩
    have HBF := Lib.hid (HBA.out.trans (hk.toBelow HBA.out.size (fun k h => by subst h; exact HSZ.out)))
    clear HRA hra hk HX0 HBA
    cases O with
    | none =>
      obtain ⟨v, rfl⟩ := hr
      have HX2 := Lib.hid (show TR = false by rw [HX.out]; rfl)
      clear HX
      go_wp2_with fail
      try go_quiet (fail)
      try go_wp2_with fail
      go_ret
      exact ⟨by rw [HX2.out] <;> rfl, HBF.out⟩
    | some r =>
      obtain ⟨e2, j2⟩ := r
      obtain ⟨rfl, hx⟩ := hr
      obtain ⟨b1, b2, b3, b4⟩ := HRB.out e2 j2 rfl
      simp only at hx
      obtain ⟨a, c, _, _, hb⟩ := hx.left
      have c2 := hb.cell 2
      simp only [List.getElem?_toArray, List.getElem?_cons_zero, List.getElem?_cons_succ] at c2
      clear hx hb HRB
      have HX2 := Lib.hid (show TR = (decide (e2 = w.length) && decide (j2 = t.length)) by
        rw [HX.out, Bool.eq_iff_iff]; simp)
      clear HX
      by_cases h1 : e2 = w.length
      · subst h1
        have HX3 := Lib.hid (show TR = decide (j2 = t.length) by rw [HX2.out]; simp)
        clear HX2
        by_cases h2 : j2 = t.length
        · have g1 : t.length - j2 = 0 := by omega
          rw [g1] at c2
          rw [decide_eq_true h2] at HX3
          go_wp2_with fail
          try go_quiet (fail)
          try go_wp2_with fail
          go_ret
          exact ⟨by rw [HX3.out] <;> rfl, HBF.out⟩
        · rw [decide_eq_false h2] at HX3
          have g1 : (((t.length - j2 : Nat) : Int) == 0) = false := beq_eq_false_iff_ne.2 (by omega)
          have g2 : ((t.length - j2) == 0) = false := beq_eq_false_iff_ne.2 (by omega)
          go_wp2_with fail
          try go_quiet (fail)
          try go_wp2_with fail
          go_ret
          exact ⟨by rw [HX3.out] <;> rfl, HBF.out⟩
      · have g1 : ((e2 : Int) == (w.length : Int)) = false := beq_eq_false_iff_ne.2 (by omega)
        have g2 : (e2 == w.length) = false := beq_eq_false_iff_ne.2 h1
        have HX3 := Lib.hid (show TR = false by rw [HX2.out, decide_eq_false h1]; rfl)
        clear HX2
        go_wp2_with fail
        try go_quiet (fail)
        try go_wp2_with fail
        go_ret
        exact ⟨by rw [HX3.out] <;> rfl, HBF.out⟩
end Go.Proofs.Ytooolhekihijlaa

/- What opens and closes: the developers' Frames. Stage 14. -/
namespace Go.Proofs.Ytooolhekihijlaa
open Go.RowKit BS

/-- The frames of a list: of a parse tree what opens and closes, else none. -/
def framesT (l : List NdN) (w : List Nat) (t : List EnN) : List (List Int) := if treeT l w t = true then rowsE (frEvents t) (w.length + 1) else []
theorem frames_len (l : List NdN) (w : List Nat) (t : List EnN) (h : treeT l w t = true) : (framesT l w t).length = w.length + 1 := by
  unfold framesT rowsE
  rw [if_pos h]; simp
theorem deps_getH {md : Region.Mode} {ops : Array Oper} {V : Nat → Value → World → Prop} {o oj : Oper} {a : Act} {w : World} {k d : Nat} (h : Deps md ops V o a w) (hk : (o.after.any fun e => Region.binds md e && e.on == k) = true) (hj : ops[k]? = some oj) (hd : oj.dst = some d) : V k (a.tmps.getD d undef) w := by
  simp only [Array.any_eq_true', Bool.and_eq_true, beq_iff_eq] at hk
  obtain ⟨e, he, hb, rfl⟩ := hk
  exact h e he hb oj d hj hd
theorem frStep_len (s : List (Int × Int) × List EnN) (x : EnN) : (frStep s x).1.length + (frStep s x).2.length = s.1.length + s.2.length + 2 := by
  have := close_len x.depth s.2
  unfold frStep
  simp only [List.length_append, List.length_cons, List.length_nil]
  omega
theorem frRun_len : ∀ (L : List EnN) (s : List (Int × Int) × List EnN), (frRun s L).1.length + (frRun s L).2.length = s.1.length + s.2.length + 2 * L.length
  | [], _ => rfl
  | x :: L, s => by
    rw [frRun_cons, frRun_len L, frStep_len]
    simp only [List.length_cons]; omega
/-- Where a step's row is made: a call with what it hands back. -/
theorem step_callX {P : Program} {ops : Array Oper} {o : Oper} {a : Act} {w : World} {f : FuncId} {args : Array Value} {R : Value → World → Prop} {K : Act → World → Prop} {Q : Exit → Act → World → Prop} {E : Prop} (hgd : o.guard = none) (h : (execOp a.eval o).run P w = .ok (.enter f args) w)
    (hc : Calls P f args w fun e w' => ∃ v, e = .returned v ∧ R v w') (hK : ∀ v w', R v w' → K (a.put o.dst v) w') : if Region.wanted o (yielded ops a.tmps) = true then Oper.wp P o a w K Q else E := by
  have hw : Region.wanted o (yielded ops a.tmps) = true := by simp [Region.wanted, hgd]
  rw [if_pos hw]
  exact wp_callK h hc hK
theorem step_valX {P : Program} {ops : Array Oper} {o : Oper} {a : Act} {w w' : World} {v : Value} {K : Act → World → Prop} {Q : Exit → Act → World → Prop} {E : Prop} (hgd : o.guard = none) (h : (execOp a.eval o).run P w = .ok (.value v) w') (hK : K (a.put o.dst v) w') : if Region.wanted o (yielded ops a.tmps) = true then Oper.wp P o a w K Q else E := by
  have hw : Region.wanted o (yielded ops a.tmps) = true := by simp [Region.wanted, hgd]
  rw [if_pos hw]
  unfold Oper.wp
  rw [h]
  exact hK
/-- One entry more, wherever it stands. -/
theorem push_entG {base : Nat} {v : Value} {L : List EnN} {W : World} (h : OwE base v L W) (hb : base ≤ W.heap.size) (hn : L.length ≤ 1000000) (d n f e : Int) (ad : Nat) (hc : Blk W ad (enI d n f e) 44) (ty : TypeId) :
    ∃ g cap W2, (Builtin.append_ #[22, 22] ty #[v, .slice (some ⟨ad, 0, none⟩) 1 1]).run Try.prog W = .ok (.slice (some ⟨g, 0, none⟩) (L.length + 1) cap) W2 ∧
      OwE base (.slice (some ⟨g, 0, none⟩) (L.length + 1) cap) (L ++ [⟨d, n, f, e⟩]) W2 ∧ W.grownBy W2 v.ownBlock ∧ (v.ownBlock = some g ∨ g = W.heap.size) ∧ g < W2.heap.size := by
  obtain ⟨i0, hinf, hzz⟩ := Option.map_eq_some_iff.1 infoE12
  simp only [Prod.mk.injEq] at hzz
  obtain ⟨hz0, hz1, hz2⟩ := hzz
  obtain ⟨g, cap, W2, hr, h2, h3, h4, h5⟩ := run_append_lies (P := Try.prog) W 22 ty base 44 i0 (.agg (enI 0 0 0 0)) 4 32 Try.underlying22 hinf hz0 hz1 hz2 rfl (by decide) v L.length _ h ⟨ad, 0, none⟩ 1 1 [.int .i64 d, .int .i64 n, .int .i64 f, .int .i64 e] rfl hc.newsL (by simp [Value.oneCell']) (by decide) (by unfold maxLen; omega) (by omega) hb W.heap.size rfl
  exact ⟨g, cap, W2, hr, by unfold OwE; rw [List.length_append, enCells_app]; exact h2, h3, h4, h5⟩
section
variable {base n T : Nat} {S : Nat → Prop} {ev : List (Int × Int)} {st : List EnN} {a : Option Addr} {c : Nat} {W : World}
/-- One that is open more. -/
theorem FrS.opened (h : FrS base n T S ev st (.slice a st.length c) W) (hlen : st.length ≤ 1000000) (d f : Int) (p q : Nat) (hp : p < n) (hq : q ≤ 100000) (ad : Nat) (hc : Blk W ad (enI d q f p) 44) (ty : TypeId) :
    ∃ g cap W2, (Builtin.append_ #[22, 22] ty #[.slice a st.length c, .slice (some ⟨ad, 0, none⟩) 1 1]).run Try.prog W = .ok (.slice (some ⟨g, 0, none⟩) (st.length + 1) cap) W2 ∧
      FrS base n T S ev (⟨d, q, f, p⟩ :: st) (.slice (some ⟨g, 0, none⟩) (st.length + 1) cap) W2 ∧ KpA (fun k => (Value.slice a st.length c).ownBlock = some k) W W2 := by
  have hlr : st.reverse.length = st.length := List.length_reverse
  obtain ⟨g, cap, W2, h1, h2, h3, h4, h5⟩ := push_entG h.ow (Nat.le_trans h.rows.lo (Nat.le_of_lt h.rows.tl)) (by omega) d q f p ad hc ty
  rw [hlr] at h1 h2
  have hk : KpA (fun k => (Value.slice a st.length c).ownBlock = some k) W W2 := (KpA.refl _ W).grown h3 (fun k hk => .inl hk)
  refine ⟨g, cap, W2, h1, ⟨h.rows.kp hk (fun k hs hk' => h.ap k hk' hs), by rw [List.reverse_cons]; exact h2, fun k hk' => ?_, fun x hx => ?_⟩, hk⟩
  · cases hk'
    rcases h4 with h4 | h4
    · exact h.ap g h4
    · intro hs
      have := h.rows.lt g hs
      omega
  · rcases List.mem_cons.1 hx with rfl | hx
    · exact ⟨p, q, rfl, hp, rfl, hq⟩
    · exact h.bnd x hx
end
def U8 (rv ov ev sv : Value) (d : Int) (E0 n5 : Nat) : Nat → List Value → Value → Prop
  | 0, _, v => v = rv
  | 1, _, v => v = ov
  | 2, _, v => v = .pointer (some ⟨E0, 0, none⟩)
  | 3, _, v => v = .int .i64 d
  | 4, _, v => v = sv
  | 5, _, v => v = ev
  | 6, _, v => ∃ g, v = .slice (some ⟨g, 0, none⟩) 1 1
  | 7, _, v => ∃ g cap, v = .slice (some ⟨g, 0, none⟩) (n5 + 1) cap
  | _, l, v => l.head? = some v
def V8 (S own : Nat → Prop) (cells : Array Value) (F : Value → World → Prop) : Nat → Value → World → Prop
  | 6, v, w => ∃ g, v = .slice (some ⟨g, 0, none⟩) 1 1 ∧ Blk w g cells 44 ∧ ¬ S g ∧ ¬ own g
  | 7, v, w => F v w
  | _, _, _ => True
def T8 (S own : Nat → Prop) : Nat → World → World → Prop
  | 4, w, w' => ∀ g, g < w.heap.size → ¬ S g → w'.heap[g]? = w.heap[g]?
  | 6, w, w' => Below w.heap.size w w'
  | 7, w, w' => ∀ g, g < w.heap.size → ¬ own g → w'.heap[g]? = w.heap[g]?
  | _, w, w' => w = w'
theorem keep8 {md : Region.Mode} {ops : Array Oper} {S own : Nat → Prop} {cells : Array Value} {F : Value → World → Prop} (h1 : waits md ops 7 4 = true) (h2 : waits md ops 7 6 = true) (i j : Nat) (v : Value) (w w' : World) (hij : i ≠ j) (hw : waits md ops j i = false) (ht : T8 S own i w w') (hv : V8 S own cells F j v w) : V8 S own cells F j v w' := by
  by_cases h6 : j = 6
  · subst h6
    obtain ⟨g, e, hb, hs, ho⟩ := hv
    refine ⟨g, e, ?_, hs, ho⟩
    by_cases i4 : i = 4
    · subst i4; exact (ht g hb.lt hs).trans hb
    by_cases i7 : i = 7
    · subst i7; exact (ht g hb.lt ho).trans hb
    by_cases i6 : i = 6
    · exact absurd i6 hij
    · have e2 : w = w' := by
        unfold T8 at ht
        split at ht <;> first | exact ht | exact absurd rfl i4 | exact absurd rfl i6 | exact absurd rfl i7
      subst e2; exact hb
  by_cases h7 : j = 7
  · subst h7
    by_cases i4 : i = 4
    · subst i4; rw [h1] at hw; cases hw
    by_cases i6 : i = 6
    · subst i6; rw [h2] at hw; cases hw
    by_cases i7 : i = 7
    · exact absurd i7 hij
    · have e2 : w = w' := by
        unfold T8 at ht
        split at ht <;> first | exact ht | exact absurd rfl i4 | exact absurd rfl i6 | exact absurd rfl i7
      subst e2; exact hv
  · unfold V8
    split
    · exact absurd rfl h6
    · exact absurd rfl h7
    · trivial
set_option maxRecDepth 100000 in
set_option maxHeartbeats 64000000 in
theorem framesD_calls (l : List NdN) (hl : l.length ≤ 1000) (w : List Nat) (hw : w.length ≤ 1000) (hw8 : ∀ x ∈ w, x < 256) (t : List EnN) (ht : t.length ≤ 1000) (la wa ta : Option Addr) (lc wc tc : Nat) (htc : t.length ≤ tc) (W : World) (hN : NodesAt l la W) (hT : BtsAt w wa W) (hE : EntsAt t ta W) :
    Calls Try.prog 11 #[.slice la l.length lc, .slice wa w.length wc, .slice ta t.length tc] W fun e W' => ∃ b c, e = .returned (.slice b (framesT l w t).length c) ∧ RowsAt (framesT l w t) b W' ∧ Below W.heap.size W W' := by
  have HR := treeRight_calls l hl w hw hw8 t ht la wa ta lc wc tc htc W hN hT hE
  cases hr : treeT l w t with
  | false =>
    rw [hr] at HR
    have HX := Lib.hid (show framesT l w t = [] by unfold framesT; rw [hr]; rfl)
    clear hr hN hT hE
    go_enter Try.func11, Try.ntmps11
    go_wp2_with fail
    refine HR.mono ?_
    rintro e w1 ⟨rfl, hb⟩
    go_wp2_with fail
    go_ret
    rw [HX.out]
    exact ⟨_, _, rfl, fun h => absurd rfl h, hb⟩
  | true =>
    rw [hr] at HR
    obtain ⟨hrt, ks, hok, hteq⟩ := (tree_iff l w t).1 hr
    have hpos : 0 < l.length := (rightT_q l hrt).pos
    have HIN := Lib.hid (show ∀ x ∈ t, ∃ q p f : Nat, x.node = q ∧ q < l.length ∧ x.from_ = f ∧ x.to = p ∧ f ≤ w.length ∧ p ≤ w.length from fun x hx => by
      rw [hteq] at hx
      obtain ⟨h1, h2, h3, h4, h5⟩ := nodes_in (parts_ok l hrt) _ 1 l.length (Nat.le_refl _) hok (fun r hr => by simp [rootsO] at hr; rw [hr]; simp; omega) x hx
      exact ⟨x.node.toNat, x.to.toNat, x.from_.toNat, by omega, by omega, by omega, by omega, by omega, by omega⟩)
    have hstep : stepOk 0 t := by
      have := step_forest (.cons (l.length - 1) 0 w.length ks .nil) 1 0 [] (by omega) (by omega) (fun _ _ => trivial)
      rw [List.append_nil, ← hteq] at this
      exact this
    have HFL := Lib.hid (frames_len l w t hr)
    have HFT := Lib.hid (show framesT l w t = (List.range (w.length + 1)).map (rowF (frEvents t)) by unfold framesT rowsE; rw [if_pos hr])
    have HE := Lib.hid hE
    clear hN hT hE hrt hok hteq hr
    have hmk := fun W => run_make_row' (P := Try.prog) 56 35 (.slice none 0 0) 24 Try.underlying56 infoR12 rfl .i64 .i64 (w.length + 1) (by omega) (by omega) W
    have xw : IntKind.i64.wrap ((w.length : Int) + 1) = (w.length : Int) + 1 := IntWalk.i64_in _ (by omega)
    rw [show ((w.length + 1 : Nat) : Int) = (w.length : Int) + 1 from rfl] at hmk
    go_enter Try.func11, Try.ntmps11
    go_wp2_with fail
    refine HR.mono ?_
    rintro e w1 ⟨rfl, hb⟩
    have HB := Lib.hid hb
    clear HR hb
    go_upto_region 4 with fail
    have HB1 := Lib.hid (HB.out.alloc HB.out.size (.cells (madeCells #[.slice none 0 0] (w.length + 1)) 35))
    have HR0 := Lib.hid (RowsI.new w1 (w.length + 1) W.heap.size HB.out.size)
    have hWT : W.heap.size ≤ w1.heap.size := HB.out.size
    clear hmk xw HB
    generalize w1.alloc (.cells (madeCells #[.slice none 0 0] (w.length + 1)) 35) = w2 at *
    generalize w1.heap.size = T at *
    go_wp2_with fail
    go_loopw [8, 22] (fun vo vi wr => ∃ (i : Nat) (a : Option Addr) (c : Nat) (S : Nat → Prop), i ≤ t.length ∧ vi = .int .i64 i ∧ vo = .slice a (frRun ([], []) (t.take i)).2.length c ∧ FrS W.heap.size (w.length + 1) T S (frRun ([], []) (t.take i)).1 (frRun ([], []) (t.take i)).2 vo wr ∧ depthsOk (frRun ([], []) (t.take i)).2 ∧ stepOk (frRun ([], []) (t.take i)).2.length (t.drop i) ∧ (∀ k, S k → W.heap.size ≤ k) ∧ Below W.heap.size W wr) (fun _ vi _ => t.length - (intOf vi).toNat)
    case atStart => exact ⟨0, none, 0, fun g => g = T, Nat.zero_le _, rfl, rfl, ⟨HR0.out, OwE.nil _ _, fun g hg => (by cases hg), fun x hx => (by cases hx)⟩, trivial, hstep, fun k hk => by subst hk; exact hWT, HB1.out⟩
    case round =>
      obtain ⟨i, a, c, S, hi, rfl, rfl, hf, hok, hst, hS, hB⟩ := hrel
      have hlen := frRun_len (t.take i) ([], [])
      rw [List.length_take, Nat.min_eq_left hi] at hlen
      simp only [List.length_nil] at hlen
      clear HR0 HB1
      by_cases hlt : i < t.length
      · have hstepE : frRun ([], []) (t.take (i + 1)) = frStep (frRun ([], []) (t.take i)) t[i] := by
          rw [List.take_succ_eq_append_getElem hlt, frRun_app]; rfl
        rw [List.drop_eq_getElem_cons hlt] at hst
        obtain ⟨q, p, f, hq1, hq, hf1, hp1, hfw, hpw⟩ := HIN.out t[i] (List.getElem_mem hlt)
        obtain ⟨g, off, rfl, hg, hc⟩ := HE.out (by rintro rfl; simp at hlt)
        have dd := fun (j : Nat) (hj : j < 4) => (hB.cell (p := ⟨g, off + i * 4 + j, none⟩) hg).trans (hc i hlt j hj)
        generalize t[i] = x at *
        obtain ⟨xd, xn, xf, xt⟩ := x
        simp only at hq1 hf1 hp1
        subst hq1 hf1 hp1
        obtain ⟨hs1, hs2, hs3⟩ := hst
        simp only at hs1 hs2 hs3
        generalize frRun ([], []) (t.take i) = s at *
        obtain ⟨ev, st⟩ := s
        simp only at hf hok hs1 hlen ⊢
        unfold frStep at hstepE
        simp only at hstepE
        have d0 := dd 0 (by decide); have d1 := dd 1 (by decide); have d2 := dd 2 (by decide); have d3 := dd 3 (by decide)
        simp only [enA, List.getElem?_toArray, List.getElem?_cons_zero, List.getElem?_cons_succ, Nat.add_zero] at d0 d1 d2 d3
        have p2 : decide (i < t.length) = true := decide_eq_true hlt
        have p3 : decide ((i : Int) < (t.length : Int)) = true := by rw [decide_eq_true_iff]; omega
        have p4 : (i : Int) < (t.length : Int) := by omega
        have xi : IntKind.i64.wrap ((i : Int) + 1) = (i : Int) + 1 := IntWalk.i64_in _ (by omega)
        have hcl := close_left hs2 hok (by omega)
        have hcn := close_len xd st
        have hco := close_ok (d := xd) hok
        have HFF := Lib.hid hf
        have HBW := Lib.hid hB
        clear dd hc hf hB
        have bE0 : Blk (wr.alloc (.cells (enI xd q f p) 44)) wr.heap.size (enI xd q f p) 44 := Blk.new wr _ _
        have hbd : Below wr.heap.size wr (wr.alloc (.cells (enI xd q f p) 44)) := (Below.refl _ _).alloc (Nat.le_refl _) _
        have hsz : (wr.alloc (.cells (enI xd q f p) 44)).heap.size = wr.heap.size + 1 := World.size_alloc _ _
        have HB0 := Lib.hid (HBW.out.trans (hbd.mono HBW.out.size))
        have HF0 := Lib.hid (HFF.out.below hbd)
        have hSlt := HFF.out.rows.lt
        have hOlt := fun g h => (HFF.out.ow.lt (g := g) h).2
        have hWr : W.heap.size ≤ wr.heap.size := HBW.out.size
        clear hbd HBW HFF
        go_upto_region 8 with fail
        clear d0 d1 d2 d3
        generalize wr.alloc (.cells (enI xd q f p) 44) = w3 at *
        generalize wr.heap.size = E0 at *
        clear wr
        obtain ⟨ST, hST⟩ : ∃ ST, ST = (closeT xd st).2 := ⟨_, rfl⟩
        obtain ⟨EV, hEV⟩ : ∃ EV, EV = ev ++ (closeT xd st).1 := ⟨_, rfl⟩
        rw [← hST, ← hEV] at hstepE
        rw [← hST] at hcl hcn hco
        have hEVl : EV.length + ST.length = ev.length + st.length := by rw [hEV, List.length_append]; omega
        have HSH := Lib.hid (show ∀ W', FrS W.heap.size (w.length + 1) T S ev st (.slice a st.length c) W' → w3.drew.heap.size ≤ W'.heap.size → Calls Try.prog 25 #[.slice (some ⟨T, 0, none⟩) (w.length + 1) (w.length + 1), .slice a st.length c, .int .i64 xd] W' fun e w'' => ∃ v, e = .returned v ∧ ∃ S5 : Nat → Prop, v = .slice a ST.length c ∧ FrS W.heap.size (w.length + 1) T S5 EV ST v w'' ∧ (∀ k, S5 k → W.heap.size ≤ k) ∧ (∀ g, g < W'.heap.size → ¬ S g → w''.heap[g]? = W'.heap[g]?) ∧ KpA S W' w'' from fun W' hb hz => by
          refine (shut_calls a c xd hs2 hok (by omega) W' hb).mono ?_
          rintro e w'' ⟨S5, rfl, h1, h2, h3⟩
          rw [← hST, ← hEV] at h1
          rw [← hST]
          exact ⟨_, rfl, S5, rfl, h1, fun k hk => (h2 k hk).elim (hS k) (fun h => Nat.le_trans HB0.out.size (Nat.le_trans hz h)), fun g hg hs => h3.block g hg hs, h3⟩)
        have hSz : ¬ S w3.heap.size := fun h => by have := hSlt _ h; omega
        have hSE : ¬ S E0 := fun h => by have := hSlt _ h; omega
        have t0 := bE0.cell 0; have t1 := bE0.cell 1; have t2 := bE0.cell 2; have t3 := bE0.cell 3
        simp only [List.getElem?_toArray, List.getElem?_cons_zero, List.getElem?_cons_succ] at t0 t1 t2 t3
        have HBE := Lib.hid bE0
        have hpn : p < w.length + 1 := by omega
        have hq5 : q ≤ 100000 := by omega
        have hST1 : ST.length ≤ 1000000 := by omega
        clear bE0 hST hEV
        go_cut [8] from 26 to 33 (fun v wx => ∃ (a6 : Option Addr) (c6 : Nat) (S6 : Nat → Prop), v = .slice a6 (ST.length + 1) c6 ∧ FrS W.heap.size (w.length + 1) T S6 EV (⟨xd, q, f, p⟩ :: ST) v wx ∧ (∀ k, S6 k → W.heap.size ≤ k) ∧ Blk wx E0 (enI xd q f p) 44 ∧ Below W.heap.size W wx)
        case first =>
          have HSW := Lib.hid hS
          have hOw : ∀ g, (Value.slice a st.length c).ownBlock = some g → g < E0 := hOlt
          refine region_stepsH (S := fun k w' => (Blk w' E0 (enI xd q f p) 44 ∧ Below W.heap.size W w' ∧ w3.drew.heap.size ≤ w'.heap.size) ∧ (k = 0 → FrS W.heap.size (w.length + 1) T S ev st (.slice a st.length c) w') ∧ (k = 1 → ∃ S5 : Nat → Prop, FrS W.heap.size (w.length + 1) T S5 EV ST (.slice a ST.length c) w' ∧ ∀ k, S5 k → W.heap.size ≤ k))
            (U := U8 (.slice (some ⟨T, 0, none⟩) (w.length + 1) (w.length + 1)) (.slice a st.length c) (.agg (enI xd q f p)) (.slice a ST.length c) xd E0 ST.length)
            (V := V8 S (fun g => (Value.slice a ST.length c).ownBlock = some g) (enI xd q f p) (fun v w' => ∃ (a6 : Option Addr) (c6 : Nat) (S6 : Nat → Prop), v = .slice a6 (ST.length + 1) c6 ∧ FrS W.heap.size (w.length + 1) T S6 EV (⟨xd, q, f, p⟩ :: ST) v w' ∧ (∀ k, S6 k → W.heap.size ≤ k)))
            (T := T8 S (fun g => (Value.slice a ST.length c).ownBlock = some g)) [4, 7] (by kernel_rfl) (keep8 (by kernel_rfl) (by kernel_rfl)) (by kernel_rfl) (by kernel_rfl) ⟨⟨HBE.out.drew, HB0.out.drew, Nat.le_refl _⟩, fun _ => HF0.out.below ((Below.refl _ _).drew), fun h => by cases h⟩ ?_
          simp only [List.size_toArray, List.length_cons, List.length_nil, Nat.reduceAdd, Array.replicate_succ, Array.replicate_zero, List.push_toArray, List.nil_append, List.cons_append]
          refine AnyH.step (i := 0) (d := some 26) rfl rfl (by kernel_rfl) (by kernel_rfl) (by kernel_rfl) (by kernel_rfl) (by kernel_rfl) ⟨_, rfl⟩ (fun k => StepsH.run (by kernel_rfl) (fun w' hS hD => ⟨.slice (some ⟨T, 0, none⟩) (w.length + 1) (w.length + 1), w', ?_, rfl, trivial, rfl, hS⟩)) ?_
          · clear hS hD; go_simp
            try rfl
          rintro v' rfl a' ha'
          simp only [Act.put, List.setIfInBounds_toArray, List.set_cons_zero, List.set_cons_succ] at ha'
          subst ha'
          refine AnyH.step (i := 1) (d := some 27) rfl rfl (by kernel_rfl) (by kernel_rfl) (by kernel_rfl) (by kernel_rfl) (by kernel_rfl) ⟨_, rfl⟩ (fun k => StepsH.run (by kernel_rfl) (fun w' hS hD => ⟨.slice a st.length c, w', ?_, rfl, trivial, rfl, hS⟩)) ?_
          · clear hS hD; go_simp
            try rfl
          rintro v' rfl a' ha'
          simp only [Act.put, List.setIfInBounds_toArray, List.set_cons_zero, List.set_cons_succ] at ha'
          subst ha'
          refine AnyH.step (i := 2) (d := some 28) rfl rfl (by kernel_rfl) (by kernel_rfl) (by kernel_rfl) (by kernel_rfl) (by kernel_rfl) ⟨_, rfl⟩ (fun k => StepsH.run (by kernel_rfl) (fun w' hS hD => ⟨.pointer (some ⟨E0, 0, none⟩), w', ?_, rfl, trivial, rfl, hS⟩)) ?_
          · clear hS hD; go_simp
            try rfl
          rintro v' rfl a' ha'
          simp only [Act.put, List.setIfInBounds_toArray, List.set_cons_zero, List.set_cons_succ] at ha'
          subst ha'
          refine AnyH.step (i := 3) (d := some 29) rfl rfl (by kernel_rfl) (by kernel_rfl) (by kernel_rfl) (by kernel_rfl) (by kernel_rfl) ⟨_, rfl⟩ (fun k => StepsH.run (by kernel_rfl) (fun w' hS hD => ⟨.int .i64 xd, w', ?_, rfl, trivial, rfl, hS⟩)) ?_
          · have u0 := hS.1.1.cell 0; have u1 := hS.1.1.cell 1; have u2 := hS.1.1.cell 2; have u3 := hS.1.1.cell 3
            simp only [List.getElem?_toArray, List.getElem?_cons_zero, List.getElem?_cons_succ] at u0 u1 u2 u3
            clear hS hD; go_simp
            try rfl
          rintro v' rfl a' ha'
          simp only [Act.put, List.setIfInBounds_toArray, List.set_cons_zero, List.set_cons_succ] at ha'
          subst ha'
          refine AnyH.step (i := 5) (d := some 31) rfl rfl (by kernel_rfl) (by kernel_rfl) (by kernel_rfl) (by kernel_rfl) (by kernel_rfl) ⟨_, rfl⟩ (fun k => StepsH.run (by kernel_rfl) (fun w' hS hD => ⟨.agg (enI xd q f p), w', ?_, rfl, trivial, rfl, hS⟩)) ?_
          · have u0 := hS.1.1.cell 0; have u1 := hS.1.1.cell 1; have u2 := hS.1.1.cell 2; have u3 := hS.1.1.cell 3
            simp only [List.getElem?_toArray, List.getElem?_cons_zero, List.getElem?_cons_succ] at u0 u1 u2 u3
            clear hS hD; go_simp
            try rfl
          rintro v' rfl a' ha'
          simp only [Act.put, List.setIfInBounds_toArray, List.set_cons_zero, List.set_cons_succ] at ha'
          subst ha'
          refine AnyH.step (i := 6) (d := some 32) rfl rfl (by kernel_rfl) (by kernel_rfl) (by kernel_rfl) (by kernel_rfl) (by kernel_rfl) ⟨_, 0, rfl⟩ (fun k => StepsH.run (by kernel_rfl) (fun w' hS hD => ?_)) ?_
          · have hbw : Below w'.heap.size w' (w'.alloc (.cells (enI xd q f p) 44)) := (Below.refl _ _).alloc (Nat.le_refl _) _
            refine ⟨.slice (some ⟨w'.heap.size, 0, none⟩) 1 1, w'.alloc (.cells (enI xd q f p) 44), ?_, ⟨_, rfl⟩, ⟨w'.heap.size, rfl, Blk.new w' _ _, fun hs => ?_, fun ho => ?_⟩, hbw, ⟨hS.1.1.below hbw hS.1.1.lt, hS.1.2.1.trans (hbw.mono hS.1.2.1.size), Nat.le_trans hS.1.2.2 hbw.size⟩, fun h => (hS.2.1 h).below hbw, fun h => ?_⟩
            · clear hS hD hbw
              go_simp
              try rfl
            · have := hSlt _ hs; have := hS.1.2.2; simp at this; omega
            · have h9 := hOw w'.heap.size (by cases a with | none => cases ho | some ad => exact ho)
              have := hS.1.2.2; simp at this; omega
            · obtain ⟨S5, h5, h6⟩ := hS.2.2 h
              exact ⟨S5, h5.below hbw, h6⟩
          rintro v' ⟨g6, rfl⟩ a' ha'
          simp only [Act.put, List.setIfInBounds_toArray, List.set_cons_zero, List.set_cons_succ] at ha'
          subst ha'
          refine AnyH.turn (i := 4) (k := 0) (d := some 30) rfl rfl (by kernel_rfl) (by kernel_rfl) ⟨_, rfl⟩ (StepsH.call (f := 25) (args := #[.slice (some ⟨T, 0, none⟩) (w.length + 1) (w.length + 1), .slice a st.length c, .int .i64 xd]) (by kernel_rfl) (fun w' hS => by clear hS; go_simp) (fun w' hS hD => ?_)) ?_
          · refine (HSH.out w' (hS.2.1 rfl) hS.1.2.2).mono ?_
            rintro e w'' ⟨v, rfl, S5, rfl, h1, h2, h3, h4⟩
            exact ⟨_, rfl, rfl, trivial, h3, ⟨hS.1.1.kpA h4 hSE, hS.1.2.1.trans (h4.toBelow hS.1.2.1.size HSW.out), Nat.le_trans hS.1.2.2 h4.size⟩, fun h => (by cases h), fun _ => ⟨S5, h1, h2⟩⟩
          rintro v' rfl a' ha'
          simp only [Act.put, List.setIfInBounds_toArray, List.set_cons_zero, List.set_cons_succ] at ha'
          subst ha'
          refine AnyH.turn (i := 7) (k := 1) (d := some 33) rfl rfl (by kernel_rfl) (by kernel_rfl) ⟨_, 0, 0, rfl⟩ (StepsH.run (by kernel_rfl) (fun w' hS hD => ?_)) ?_
          · obtain ⟨S5, h5, h5s⟩ := hS.2.2 rfl
            obtain ⟨g, e, hbg, hsg, hog⟩ : V8 S (fun g => (Value.slice a ST.length c).ownBlock = some g) (enI xd q f p) _ 6 (.slice (some ⟨g6, 0, none⟩) 1 1) w' := deps_getH hD (k := 6) (by kernel_rfl) rfl rfl
            cases e
            obtain ⟨g7, cap7, w7, hr7, hf7, hk7⟩ := h5.opened hST1 xd f p q hpn hq5 g6 hbg 22
            have hO2 : ∀ g, (Value.slice a ST.length c).ownBlock = some g → g < E0 ∧ W.heap.size ≤ g := fun g hg => ⟨hOw g (by cases a with | none => cases hg | some ad => exact hg), (h5.ow.lt hg).1⟩
            refine ⟨_, w7, exec_appN rfl rfl rfl hr7, ⟨g7, cap7, rfl⟩, ⟨_, _, S5, rfl, hf7, h5s⟩, fun g hg ho => hk7.block g hg ho, ⟨hS.1.1.kpA hk7 (fun hh => by have := (hO2 _ hh).1; omega), hS.1.2.1.trans (hk7.toBelow hS.1.2.1.size (fun g hg => (hO2 g hg).2)), Nat.le_trans hS.1.2.2 hk7.size⟩, fun h => (by cases h), fun h => (by cases h)⟩
          rintro v' ⟨g7, cap7, rfl⟩ a' ha'
          simp only [Act.put, List.setIfInBounds_toArray, List.set_cons_zero, List.set_cons_succ] at ha'
          subst ha'
          refine AnyH.step (i := 8) (d := some 8) rfl rfl (by kernel_rfl) (by kernel_rfl) (by kernel_rfl) (by kernel_rfl) (by kernel_rfl) ⟨.slice (some ⟨g7, 0, none⟩) (ST.length + 1) cap7, show List.head? _ = some _ from by kernel_rfl⟩ (fun k => StepsH.run (by kernel_rfl) (fun w' hS hD => ⟨.slice (some ⟨g7, 0, none⟩) (ST.length + 1) cap7, w', ?_, show List.head? _ = some _ from by kernel_rfl, trivial, rfl, hS⟩)) ?_
          · clear hS hD; go_simp
            try rfl
          rintro v' hv' a' ha'
          have hv1 : some (Value.slice (some ⟨g7, 0, none⟩) (ST.length + 1) cap7) = some v' := hv'
          have hv2 := Option.some.inj hv1
          subst hv2
          simp only [Act.put, List.setIfInBounds_toArray, List.set_cons_zero, List.set_cons_succ] at ha'
          subst ha'
          refine AnyH.done (k := 2) (by kernel_rfl) (by kernel_rfl) (fun w9 hS hF => ?_) _
          have h7 := hF 7 _ 33 rfl rfl rfl
          obtain ⟨a6, c6, S6, e6, hf6, hs6⟩ : ∃ (a6 : Option Addr) (c6 : Nat) (S6 : Nat → Prop), (Value.slice (some ⟨g7, 0, none⟩) (ST.length + 1) cap7) = .slice a6 (ST.length + 1) c6 ∧ FrS W.heap.size (w.length + 1) T S6 EV (⟨xd, q, f, p⟩ :: ST) (.slice (some ⟨g7, 0, none⟩) (ST.length + 1) cap7) w9 ∧ (∀ k, S6 k → W.heap.size ≤ k) := h7
          clear hF
          have HRES := Lib.hid (show FrS W.heap.size (w.length + 1) T S6 EV (⟨xd, q, f, p⟩ :: ST) (.slice (some ⟨g7, 0, none⟩) (ST.length + 1) cap7) w9 ∧ Blk w9 E0 (enI xd q f p) 44 ∧ Below W.heap.size W w9 from ⟨hf6, hS.1.1, hS.1.2.1⟩)
          clear hf6 hS e6
          try go_wp2_with fail
          go_meet
          exact ⟨_, _, S6, rfl, HRES.out.1, hs6, HRES.out.2.1, HRES.out.2.2⟩
        case rest =>
          obtain ⟨a6, c6, S6, rfl, hf6, hs6, hb6, hB6⟩ := hcut
          have u0 := hb6.cell 0; have u1 := hb6.cell 1; have u2 := hb6.cell 2; have u3 := hb6.cell 3
          simp only [List.getElem?_toArray, List.getElem?_cons_zero, List.getElem?_cons_succ] at u0 u1 u2 u3
          have hev6 : EV.length ≤ 1000000 := by omega
          have HRO := Lib.hid (recOpen_calls hev6 xd p f q (by omega) hq5 _ hf6)
          have HBB := Lib.hid hB6
          have hst2 : frRun ([], []) (t.take (i + 1)) = (EV ++ [((f : Int), 2 * (q : Int))], ⟨xd, q, f, p⟩ :: ST) := hstepE
          have HST2 := Lib.hid hst2
          have hlen2 := frRun_len (t.take (i + 1)) ([], [])
          have hok3 : depthsOk (⟨xd, q, f, p⟩ :: ST) := ⟨by simp only; omega, hco⟩
          clear t0 t1 t2 t3 hf6 hb6 hB6 hst2 hstepE HSH HBE HF0 HB0
          go_wp2_with fail
          refine HRO.out.mono ?_
          rintro e w9 ⟨rfl, S9, hf9, hs9, hk9⟩
          have HF9 := Lib.hid hf9
          have HB9 := Lib.hid (HBB.out.trans (hk9.toBelow HBB.out.size hs6))
          have HS9 := Lib.hid (show ∀ k, S9 k → W.heap.size ≤ k from fun k hk => (hs9 k hk).elim (hs6 k) (fun h => Nat.le_trans HBB.out.size h))
          clear u0 u1 u2 u3 hf9 hk9 hs9 HRO
          go_wp2_with fail
          go_roundw
          case rel =>
            refine ⟨i + 1, a6, c6, S9, by omega, by simp, ?_, ?_, ?_, ?_, HS9.out, HB9.out⟩
            · rw [HST2.out]; rfl
            · rw [HST2.out]; exact HF9.out
            · rw [HST2.out]; exact hok3
            · rw [HST2.out]
              have e : ((⟨xd, q, f, p⟩ :: ST : List EnN).length : Int) = xd := by rw [List.length_cons]; push_cast; omega
              rw [e]
              exact hs3
          case measure => simp [intOf]; omega
      · obtain rfl : i = t.length := by omega
        have p1 : decide (t.length < t.length) = false := by rw [decide_eq_false_iff_not]; omega
        rw [List.take_of_length_le (Nat.le_refl _)] at hf hok hlen ⊢
        have HCO := Lib.hid (close_one hok)
        have HEVF := Lib.hid (show frEvents t = (frRun ([], []) t).1 ++ (closeT 0 (frRun ([], []) t).2).1 from rfl)
        generalize frRun ([], []) t = s at *
        obtain ⟨ev, st⟩ := s
        simp only at hf hok hlen ⊢
        have HSH := Lib.hid (shut_calls a c 1 (by omega) hok (by omega) wr hf)
        have HBB := Lib.hid hB
        have HSS := Lib.hid hS
        clear hf hB hst hS
        go_wp2_with fail
        refine HSH.out.mono ?_
        rintro e w9 ⟨S9, rfl, hf9, hs9, hk9⟩
        have HR9 := Lib.hid hf9.rows.at
        have HB9 := Lib.hid (HBB.out.trans (hk9.toBelow HBB.out.size HSS.out))
        clear hf9 hs9 hk9 HSH
        go_wp2_with fail
        go_ret
        refine ⟨some ⟨T, 0, none⟩, w.length + 1, by rw [HFL.out] <;> rfl, ?_, HB9.out⟩
        rw [HFT.out]
        have e1 : frEvents t = ev ++ (closeT 1 st).1 := by
          rw [HEVF.out]
          have h9 : closeT 1 st = closeT 0 st := HCO.out
          rw [h9]
        rw [e1]
        exact HR9.out
end Go.Proofs.Ytooolhekihijlaa

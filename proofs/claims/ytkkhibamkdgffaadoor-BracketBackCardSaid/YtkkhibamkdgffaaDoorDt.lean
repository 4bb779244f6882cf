/- The developers' brackets: things, whole, Read, Lack. -/
import Derived.Test.YtkkhibamkdgffaaDoorDs
import Derived.Test.YtkkhibamkdgffaaDoorRx
namespace Go.Proofs.YtkkhibamkdgffaaDoor
open Go.RowKit Go.Shelf BS

def SLo (w : World) (t : BitVec 256) (B : Nat) (c : Array Value) (W : World) : Prop := (Blk W w.heap.size (ptI 0 0 0 eT) 47 ∧ Blk W (w.heap.size + 1) (setA t) 24 ∧ Blk W B c 47 ∧ w.heap.size + 2 ≤ B) ∧ Below w.heap.size w W
theorem SLo.keep {w W W' : World} {t : BitVec 256} {B : Nat} {c : Array Value} (h : SLo w t B c W) (hb : Below W.heap.size W W') : SLo w t B c W' := ⟨⟨h.1.1.below hb h.1.1.lt, h.1.2.1.below hb h.1.2.1.lt, h.1.2.2.1.below hb h.1.2.2.1.lt, h.1.2.2.2⟩, h.2.trans (hb.mono h.2.size)⟩
theorem SLo.drewS {w W : World} {t : BitVec 256} {B : Nat} {c : Array Value} (h : SLo w t B c W) : SLo w t B c W.drew := ⟨⟨h.1.1, h.1.2.1, h.1.2.2.1, h.1.2.2.2⟩, h.2.drew⟩

theorem SLo.store {w W : World} {t : BitVec 256} {B : Nat} {c : Array Value} (h : SLo w t B c W) (r : BitVec 256) :
    SLo w r B c ((((W.setCell ⟨w.heap.size + 1, 0, none⟩ (.int .u64 (wd r 0))).setCell ⟨w.heap.size + 1, 1, none⟩ (.int .u64 (wd r 1))).setCell ⟨w.heap.size + 1, 2, none⟩ (.int .u64 (wd r 2))).setCell ⟨w.heap.size + 1, 3, none⟩ (.int .u64 (wd r 3))) := by
  have hne : w.heap.size ≠ w.heap.size + 1 := by omega
  have hnB : B ≠ w.heap.size + 1 := by have := h.1.2.2.2; omega
  exact ⟨⟨(((h.1.1.other hne 0 _).other hne 1 _).other hne 2 _).other hne 3 _, (((h.1.2.1.set 0 (.int .u64 (wd r 0))).set 1 (.int .u64 (wd r 1))).set 2 (.int .u64 (wd r 2))).set 3 (.int .u64 (wd r 3)),
    (((h.1.2.2.1.other hnB 0 _).other hnB 1 _).other hnB 2 _).other hnB 3 _, h.1.2.2.2⟩,
    below_set (below_set (below_set (below_set h.2 (show w.heap.size ≤ w.heap.size + 1 by omega) 0 _) (show w.heap.size ≤ w.heap.size + 1 by omega) 1 _) (show w.heap.size ≤ w.heap.size + 1 by omega) 2 _) (show w.heap.size ≤ w.heap.size + 1 by omega) 3 _⟩

set_option maxRecDepth 100000 in
set_option maxHeartbeats 16000000 in
theorem thingsD_calls (s : ByteArray) (hs : s.size ≤ 60000) (first : Nat) (hf : first ≤ s.size) (w : World) :
    Calls Tryd.prog 26 #[.string s, .int .i64 first] w fun en w' => en = .returned (.agg (ptA (thingsD s first))) ∧ Below w.heap.size w w' := by
  have HR := Lib.hid ((Blk.new w (ptI 0 0 0 eT) 47).alloc (.cells (setA 0) 24))
  have HS := Blk.new (w.alloc (.cells (ptI 0 0 0 eT) 47)) (setA 0) 24
  rw [World.size_alloc] at HS
  replace HS := Lib.hid HS
  have HB : Hid (Below w.heap.size w ((w.alloc (.cells (ptI 0 0 0 eT) 47)).alloc (.cells (setA 0) 24))) := Lib.hid (by go_grown)
  have hz : w.heap.size + 2 ≤ ((w.alloc (.cells (ptI 0 0 0 eT) 47)).alloc (.cells (setA 0) 24)).heap.size := by simp
  generalize hR : thingsD s first = R
  have HRR := Lib.hid hR
  clear hR
  go_enter Tryd.func26, Tryd.ntmps26
  go_wp2_with fail
  go_step3
  go_wp2_with fail
  go_step3
  go_wp2_with fail
  have e0 : (w.alloc (.cells #[.int .u64 0, .int .u64 0, .int .u64 0, .int .u64 0, .int .i64 0, .int .i64 0, .string ⟨#[]⟩] 47)).alloc (.cells #[.int .u64 0, .int .u64 0, .int .u64 0, .int .u64 0] 24) = (w.alloc (.cells (ptI 0 0 0 eT) 47)).alloc (.cells (setA 0) 24) := rfl
  rw [e0]
  clear e0
  generalize (w.alloc (.cells (ptI 0 0 0 eT) 47)).alloc (.cells (setA 0) 24) = w1 at *
  go_loopw [6] (fun v wr => ∃ (n : Nat) (t : BitVec 256) (i : Nat), s.size + 1 ≤ n + i ∧ first ≤ i ∧ i ≤ s.size ∧ v = .int .i64 i ∧ loopD s first n t i = R ∧ Blk wr w.heap.size (ptI 0 0 0 eT) 47 ∧ Blk wr (w.heap.size + 1) (setA t) 24 ∧ Below w.heap.size w wr ∧ w.heap.size + 2 ≤ wr.heap.size) (fun v _ => s.size - (intOf v).toNat)
  case atStart => exact ⟨s.size + 1 - first, 0, first, by omega, Nat.le_refl _, hf, rfl, HRR.out, HR.out, HS.out, HB.out, hz⟩
  case round =>
    clear HR HS HB HRR hz
    obtain ⟨n, t, i, hn, hi1, hi2, rfl, hres, hR, hS, hB, hz⟩ := hrel
    obtain ⟨n, rfl⟩ : ∃ m, n = m + 1 := ⟨n - 1, by omega⟩
    have HR := Lib.hid hR
    have HS := Lib.hid hS
    have HB := Lib.hid hB
    clear hR hS hB
    rw [loopD] at hres
    by_cases h1 : i = s.size
    · have q1 : ((i : Int) == (s.size : Int)) = true := by rw [beq_iff_eq]; omega
      by_cases h2 : i = first
      · have q2 : ((i : Int) == (first : Int)) = true := by rw [beq_iff_eq]; omega
        rw [if_pos ⟨h1, h2⟩] at hres
        have HRES := Lib.hid hres
        clear hres h1 h2
        go_wp2_with fail
        refine (short_calls _ _ _).mono ?_
        rintro e w5 ⟨rfl, hb⟩
        have HR2 := Lib.hid (HR.out.below hb (Blk.lt HR.out))
        have HS2 := Lib.hid (HS.out.below hb (Blk.lt HS.out))
        have HB2 := Lib.hid (HB.out.trans (hb.mono (by omega)))
        have hz2 := Nat.le_trans hz hb.size
        clear HR HS HB hz hb
        have HR := HR2
        have HS := HS2
        have HB := HB2
        have hz := hz2
        clear HR2 HS2 HB2 hz2
        go_wp2_with ((with_reducible refine wpList_store_st (o := ⟨none, .store 47 _ _, _, _, _, _⟩) rfl 47 _ _ rfl w.heap.size rfl rfl (run_storeAt_row _ w.heap.size 47 47 (ptI 0 0 0 eT) (ptI 0 s.size 2 twoT) ?_ ?_ ?_ ?_) ?_); exact HR.out; exact infoPt; rfl; exact pt_one _ _ _ _)
        first | rw [Exit.noGoto_ret] | skip
        exact bodyPost_ret (v := .agg (ptI 0 s.size 2 twoT)) (results_cell_row rfl _ _ w.heap.size 47 (ptI 0 s.size 2 twoT) (0, 0) _ rfl (Blk.setRow HR.out) Tryd.underlying47 rfl infoPt) rfl ⟨by rw [← HRES.out] <;> rfl, below_row HB.out (by omega) _⟩
      · have q2 : ((i : Int) == (first : Int)) = false := by rw [beq_eq_false_iff_ne]; omega
        rw [if_neg (fun h => h2 h.2), if_pos h1] at hres
        have HRES := Lib.hid hres
        clear hres h1 h2
        go_wp2_with fail
        refine (short_calls _ _ _).mono ?_
        rintro e w5 ⟨rfl, hb⟩
        have HR2 := Lib.hid (HR.out.below hb (Blk.lt HR.out))
        have HS2 := Lib.hid (HS.out.below hb (Blk.lt HS.out))
        have HB2 := Lib.hid (HB.out.trans (hb.mono (by omega)))
        have hz2 := Nat.le_trans hz hb.size
        clear HR HS HB hz hb
        have HR := HR2
        have HS := HS2
        have HB := HB2
        have hz := hz2
        clear HR2 HS2 HB2 hz2
        go_wp2_with ((with_reducible refine wpList_store_st (o := ⟨none, .store 47 _ _, _, _, _, _⟩) rfl 47 _ _ rfl w.heap.size rfl rfl (run_storeAt_row _ w.heap.size 47 47 (ptI 0 0 0 eT) (ptI 0 s.size 2 oneT) ?_ ?_ ?_ ?_) ?_); exact HR.out; exact infoPt; rfl; exact pt_one _ _ _ _)
        first | rw [Exit.noGoto_ret] | skip
        exact bodyPost_ret (v := .agg (ptI 0 s.size 2 oneT)) (results_cell_row rfl _ _ w.heap.size 47 (ptI 0 s.size 2 oneT) (0, 0) _ rfl (Blk.setRow HR.out) Tryd.underlying47 rfl infoPt) rfl ⟨by rw [← HRES.out] <;> rfl, below_row HB.out (by omega) _⟩
    have q1 : ((i : Int) == (s.size : Int)) = false := by rw [beq_eq_false_iff_ne]; omega
    rw [if_neg (fun h => h1 h.1), if_neg h1] at hres
    have hi3 : i < s.size := by omega
    have b0 : s[i].toNat = bt s i := (bt_eq s i hi3).symm
    go_upto_region 7 with fail
    go_cut [28] from 29 to 37 (fun x wx => x = .bool (decide (bt s i = 93 ∧ first < i)) ∧ wr = wx)
    case first =>
      cases hc : decide (bt s i = 93) with
      | true =>
        have hc' : bt s i = 93 := of_decide_eq_true hc
        have q2 : ((bt s i : Int) == 93) = true := by rw [beq_iff_eq]; omega
        have HC := Lib.hid hc'
        clear hc hc' hres
        go_wp2_with fail
        go_meet
        exact ⟨by simp [HC.out], rfl⟩
      | false =>
        have hc' : ¬ bt s i = 93 := of_decide_eq_false hc
        have q2 : ((bt s i : Int) == 93) = false := by rw [beq_eq_false_iff_ne]; omega
        have HC := Lib.hid hc'
        clear hc hc' hres
        go_wp2_with fail
        go_meet
        exact ⟨by simp [HC.out], rfl⟩
    case rest =>
    obtain ⟨rfl, rfl⟩ := hcut
    by_cases h3 : bt s i = 93 ∧ first < i
    · have q2 : decide (bt s i = 93 ∧ first < i) = true := decide_eq_true h3
      rw [if_pos h3] at hres
      rw [q2]
      have HRES := Lib.hid hres
      clear hres h1 h3 q2
      obtain ⟨⟨c0, c1, c2, c3⟩, _⟩ := HS.out.cells4
      go_wp2_with ((with_reducible refine wpList_store_st (o := ⟨none, .store 47 _ _, _, _, _, _⟩) rfl 47 _ _ rfl w.heap.size rfl rfl (run_storeAt_row _ w.heap.size 47 47 (ptI 0 0 0 eT) (ptI t ((i : Int) + 1) 0 eT) ?_ ?_ ?_ ?_) ?_); exact HR.out; exact infoPt; rfl; exact pt_one _ _ _ _)
      first | rw [Exit.noGoto_ret] | skip
      exact bodyPost_ret (v := .agg (ptI t ((i : Int) + 1) 0 eT)) (results_cell_row rfl _ _ w.heap.size 47 (ptI t ((i : Int) + 1) 0 eT) (0, 0) _ rfl (Blk.setRow HR.out) Tryd.underlying47 rfl infoPt) rfl ⟨by rw [← HRES.out] <;> rfl, below_row HB.out (by omega) _⟩
    have q2 : decide (bt s i = 93 ∧ first < i) = false := decide_eq_false h3
    rw [if_neg h3] at hres
    rw [q2]
    have hok := thingD_ok s i hi3
    have HTC := Lib.hid (thingD_calls s hs i hi3)
    generalize thingD s i = X at hres hok HTC
    obtain ⟨t', p', e', l'⟩ := X
    replace HTC : Hid (∀ w, Calls Tryd.prog 32 #[.string s, .int .i64 i] w fun en w' => en = .returned (.agg (ptI t' p' e' l')) ∧ Below w.heap.size w w') := HTC
    have HOK := Lib.hid hok
    have HRS := Lib.hid hres
    clear q2 h3 h1 hok hres
    go_wp2_with fail
    refine (HTC.out _).mono ?_
    rintro e w2 ⟨rfl, hb⟩
    have HR2 := Lib.hid (HR.out.below hb (Blk.lt HR.out))
    have HS2 := Lib.hid (HS.out.below hb (Blk.lt HS.out))
    have HB2 := Lib.hid (HB.out.trans (hb.mono (by omega)))
    have hz2 := Nat.le_trans hz hb.size
    clear HR HS HB hz hb
    have HR := HR2
    have HS := HS2
    have HB := HB2
    have hz := hz2
    clear HR2 HS2 HB2 hz2
    clear HTC
    go_upto_region 9 with fail
    have HP := Lib.hid (Blk.new w2 (ptI t' p' e' l') 47)
    have hz2 : w.heap.size + 2 ≤ (w2.alloc (.cells (ptI t' p' e' l') 47)).heap.size := by simp; omega
    replace HR := Lib.hid (HR.out.alloc (.cells (ptI t' p' e' l') 47))
    replace HS := Lib.hid (HS.out.alloc (.cells (ptI t' p' e' l') 47))
    replace HB := Lib.hid (HB.out.alloc (by omega) (.cells (ptI t' p' e' l') 47))
    generalize w2.alloc (.cells (ptI t' p' e' l') 47) = w3 at *
    have hzB : w.heap.size + 2 ≤ w2.heap.size := hz
    generalize w2.heap.size = B at *
    clear hz
    have hz := hz2
    clear hz2
    have c5 := HP.out.cell 5
    simp only [List.getElem?_toArray, List.getElem?_cons_zero, List.getElem?_cons_succ] at c5
    by_cases he : e' = 0
    · subst he
      have hok := HOK.out rfl
      simp only at hok
      go_wp2_with fail
      clear c5
      generalize hr : t ||| t' = r
      have hor : ∀ w', Calls Tryd.prog 33 #[setV t, setV t'] w' fun e w'' => e = .returned (setV r) ∧ Below w'.heap.size w' w'' := by rw [← hr]; exact or_calls t t'
      have HOR := Lib.hid hor
      have hres : loopD s first n r p' = R := by have := HRS.out; rwa [if_neg (by decide), hr] at this
      have HRES := Lib.hid hres
      clear hor hres hr HRS HOK
      have h0 : SLo w t B (ptI t' p' (0 : Nat) l') w3 := ⟨⟨HR.out, HS.out, HP.out, hzB⟩, HB.out⟩
      clear HR HS HP HB
      refine region_stepsL (S0 := SLo w t B (ptI t' p' (0 : Nat) l')) (S1 := SLo w r B (ptI t' p' (0 : Nat) l')) (m := 6) (by kernel_rfl) (by kernel_rfl) (SLo.drewS h0) ?_
      clear h0 hz
      simp only [List.size_toArray, List.length_cons, List.length_nil, Nat.reduceAdd, Array.replicate_succ, Array.replicate_zero, List.push_toArray, List.nil_append, List.cons_append]
      refine AnyL.next (m := 6) (i := 0) (d := some 45) (v := setV t) rfl rfl (by kernel_rfl) (by kernel_rfl) (by kernel_rfl) (by kernel_rfl) (StepsIf.yield (by kernel_rfl) (fun w' hS => by have c0 := hS.1.2.1.cell 0; have c1 := hS.1.2.1.cell 1; have c2 := hS.1.2.1.cell 2; have c3 := hS.1.2.1.cell 3; simp only [setA, List.getElem?_toArray, List.getElem?_cons_zero, List.getElem?_cons_succ] at c0 c1 c2 c3; clear hS; go_simp)) ?_
      intro a' ha'
      simp only [Act.put, List.setIfInBounds_toArray, List.set_cons_zero, List.set_cons_succ] at ha'
      subst ha'
      refine AnyL.next (m := 6) (i := 1) (d := some 46) (v := .pointer (some ⟨B, 0, none⟩)) rfl rfl (by kernel_rfl) (by kernel_rfl) (by kernel_rfl) (by kernel_rfl) (StepsIf.yield (by kernel_rfl) (fun w' hS => by clear hS; go_simp)) ?_
      intro a' ha'
      simp only [Act.put, List.setIfInBounds_toArray, List.set_cons_zero, List.set_cons_succ] at ha'
      subst ha'
      refine AnyL.next (m := 6) (i := 2) (d := some 47) (v := setV t') rfl rfl (by kernel_rfl) (by kernel_rfl) (by kernel_rfl) (by kernel_rfl) (StepsIf.yield (by kernel_rfl) (fun w' hS => by have c0 := hS.1.2.2.1.cell 0; have c1 := hS.1.2.2.1.cell 1; have c2 := hS.1.2.2.1.cell 2; have c3 := hS.1.2.2.1.cell 3; simp only [List.getElem?_toArray, List.getElem?_cons_zero, List.getElem?_cons_succ] at c0 c1 c2 c3; clear hS; go_simp)) ?_
      intro a' ha'
      simp only [Act.put, List.setIfInBounds_toArray, List.set_cons_zero, List.set_cons_succ] at ha'
      subst ha'
      refine AnyL.next (m := 6) (i := 3) (d := some 48) (v := setV r) rfl rfl (by kernel_rfl) (by kernel_rfl) (by kernel_rfl) (by kernel_rfl) (StepsIf.call (by kernel_rfl) (fun w' hS => by clear hS; go_simp) (fun w' hS => (HOR.out w').mono fun e w'' h => ⟨h.1, SLo.keep hS h.2⟩)) ?_
      intro a' ha'
      simp only [Act.put, List.setIfInBounds_toArray, List.set_cons_zero, List.set_cons_succ] at ha'
      subst ha'
      refine AnyL.both (m := 6) (i := 4) (d := some 49) (v := .pointer (some ⟨B, 4, none⟩)) rfl rfl (by kernel_rfl) (by kernel_rfl) (by kernel_rfl) (by kernel_rfl) (StepsIf.yield (by kernel_rfl) (fun w' hS => by clear hS; go_simp)) (StepsIf.yield (by kernel_rfl) (fun w' hS => by clear hS; go_simp)) ?_
      intro a' ha'
      simp only [Act.put, List.setIfInBounds_toArray, List.set_cons_zero, List.set_cons_succ] at ha'
      subst ha'
      refine AnyL.both (m := 6) (i := 5) (d := some 50) (v := .int .i64 p') rfl rfl (by kernel_rfl) (by kernel_rfl) (by kernel_rfl) (by kernel_rfl) (StepsIf.yield (by kernel_rfl) (fun w' hS => by have c4 := hS.1.2.2.1.cell 4; simp only [List.getElem?_toArray, List.getElem?_cons_zero, List.getElem?_cons_succ] at c4; clear hS; go_simp)) (StepsIf.yield (by kernel_rfl) (fun w' hS => by have c4 := hS.1.2.2.1.cell 4; simp only [List.getElem?_toArray, List.getElem?_cons_zero, List.getElem?_cons_succ] at c4; clear hS; go_simp)) ?_
      intro a' ha'
      simp only [Act.put, List.setIfInBounds_toArray, List.set_cons_zero, List.set_cons_succ] at ha'
      subst ha'
      refine AnyL.store (m := 6) (d := none) (v := undef) rfl rfl (by kernel_rfl) (by kernel_rfl) (by kernel_rfl) (fun w' hS K Q hK => by have c0 := hS.1.2.1.cell 0; have c1 := hS.1.2.1.cell 1; have c2 := hS.1.2.1.cell 2; have c3 := hS.1.2.1.cell 3; have f0 := hS.1.2.1.frozen 0; have f1 := hS.1.2.1.frozen 1; have f2 := hS.1.2.1.frozen 2; have f3 := hS.1.2.1.frozen 3; simp only [setA, List.getElem?_toArray, List.getElem?_cons_zero, List.getElem?_cons_succ] at c0 c1 c2 c3; have HSS := Lib.hid hS; clear hS; go_simp; exact hK _ (SLo.store HSS.out r)) ?_
      intro a' ha'
      simp only [Act.put] at ha'
      subst ha'
      refine AnyL.after (m := 6) (i := 7) (d := some 6) (v := .int .i64 p') rfl rfl (by kernel_rfl) (by kernel_rfl) (by kernel_rfl) (by kernel_rfl) (StepsIf.yield (by kernel_rfl) (fun w' hS => by clear hS; go_simp)) ?_
      intro a' ha'
      simp only [Act.put, List.setIfInBounds_toArray, List.set_cons_zero, List.set_cons_succ] at ha'
      subst ha'
      refine AnyL.done (by kernel_rfl) (by kernel_rfl) (fun w' hS => ?_) _
      have HR := Lib.hid hS.1.1
      have HS := Lib.hid hS.1.2.1
      have HB := Lib.hid hS.2
      have hz5 : w.heap.size + 2 ≤ w'.heap.size := by have := hS.1.2.2.1.lt; have := hS.1.2.2.2; omega
      clear hS
      go_wp2_with fail
      go_roundw
      case rel => exact ⟨n, r, p', by omega, by omega, by omega, rfl, HRES.out, HR.out, HS.out, HB.out, hz5⟩
      case measure => simp [intOf]; omega
    · have q3 : ((e' : Int) != 0) = true := by rw [bne_iff_ne]; omega
      have HRES := Lib.hid (show (⟨t', p', e', l'⟩ : DP) = R by have := HRS.out; rwa [if_pos he] at this)
      clear HOK HRS he
      go_wp2_with (first
        | ((with_reducible refine wpList_load_row (o := ⟨_, .load 47 _, _, _, _, _⟩) rfl 47 _ rfl B rfl 47 (ptI t' p' e' l') (0, 0) _ ?_ Tryd.underlying47 rfl ?_ ?_); exact HP.out; exact infoPt)
        | ((with_reducible refine wpList_store_st (o := ⟨none, .store 47 _ _, _, _, _, _⟩) rfl 47 _ _ rfl w.heap.size rfl rfl (run_storeAt_row _ w.heap.size 47 47 (ptI 0 0 0 eT) (ptI t' p' e' l') ?_ ?_ ?_ ?_) ?_); exact HR.out; exact infoPt; rfl; exact pt_one _ _ _ _))
      first | rw [Exit.noGoto_ret] | skip
      exact bodyPost_ret (v := .agg (ptI t' p' e' l')) (results_cell_row rfl _ _ w.heap.size 47 (ptI t' p' e' l') (0, 0) _ rfl (Blk.setRow HR.out) Tryd.underlying47 rfl infoPt) rfl ⟨by rw [← HRES.out] <;> rfl, below_row HB.out (by omega) _⟩

set_option maxRecDepth 100000 in
set_option maxHeartbeats 8000000 in
theorem wholeD_calls (s : ByteArray) (hs : s.size ≤ 60000) (at' : Int) (w : World) :
    Calls Tryd.prog 19 #[.string s, .int .i64 at'] w fun en w' => en = .returned (.agg (ptA (wholeD s at'))) ∧ Below w.heap.size w w' := by
  have HR := Lib.hid (Blk.new w (ptI 0 0 0 eT) 47)
  have HB : Hid (Below w.heap.size w (w.alloc (.cells (ptI 0 0 0 eT) 47))) := Lib.hid (by go_grown)
  have hz : w.heap.size + 1 ≤ (w.alloc (.cells (ptI 0 0 0 eT) 47)).heap.size := by simp
  have HA := isAt_calls s hs at' [91] (by decide)
  rw [show ofT [91] = ⟨#[91]⟩ from rfl] at HA
  cases hc : isI s at' [91] with
  | false =>
    rw [hc] at HA
    have HA2 := Lib.hid HA
    have HRES := Lib.hid (show wholeD s at' = badD 1 0 by
      unfold wholeD isI at *
      by_cases h0 : at' < 0
      · rw [if_pos h0]
      · rw [if_neg h0] at hc; rw [if_neg h0, if_pos hc])
    clear HA hc
    go_enter Tryd.func19, Tryd.ntmps19
    go_upto_region 1 with fail
    have e0 : w.alloc (.cells #[.int .u64 0, .int .u64 0, .int .u64 0, .int .u64 0, .int .i64 0, .int .i64 0, .string ⟨#[]⟩] 47) = w.alloc (.cells (ptI 0 0 0 eT) 47) := rfl
    rw [e0]
    clear e0
    generalize w.alloc (.cells (ptI 0 0 0 eT) 47) = w1 at *
    go_wp2_with (first
      | (go_at_call 25; refine (HA2.out _).mono ?_; rintro e w' ⟨rfl, rfl⟩)
      | ((with_reducible refine wpList_store_st (o := ⟨none, .store 47 _ _, _, _, _, _⟩) rfl 47 _ _ rfl w.heap.size rfl rfl (run_storeAt_row _ w.heap.size 47 47 (ptI 0 0 0 eT) (ptI 0 0 1 eT) ?_ ?_ ?_ ?_) ?_); exact HR.out; exact infoPt; rfl; exact pt_one _ _ _ _))
    exact bodyPost_ret (v := .agg (ptI 0 0 1 eT)) (results_cell_row rfl _ _ w.heap.size 47 (ptI 0 0 1 eT) (0, 0) _ rfl (Blk.setRow HR.out) Tryd.underlying47 rfl infoPt) rfl ⟨by rw [HRES.out] <;> rfl, below_row HB.out (by omega) _⟩
  | true =>
    rw [hc] at HA
    have h0 : ¬ at' < 0 := fun h => by unfold isI at hc; rw [if_pos h] at hc; cases hc
    obtain ⟨k, rfl⟩ : ∃ k : Nat, at' = k := ⟨at'.toNat, by omega⟩
    have hc' : isN s k [91] = true := by unfold isI at hc; rwa [if_neg h0] at hc
    have hlt := isN_lt hc'
    have hg : wholeD s k = if isN s (k + 1) [94] = false then thingsD s (k + 1) else negD (thingsD s (k + 2)) := by
      unfold wholeD
      rw [if_neg h0, show (k : Int).toNat = k from rfl, if_neg (by rw [hc']; decide)]
    have HB2 := isNat_calls s hs (k + 1) [94] (by decide)
    rw [show ((k + 1 : Nat) : Int) = (k : Int) + 1 from rfl, show ofT [94] = ⟨#[94]⟩ from rfl] at HB2
    have HA2 := Lib.hid HA
    clear HA hc hc' h0
    cases hd : isN s (k + 1) [94] with
    | false =>
      rw [hd] at HB2 hg
      rw [if_pos rfl] at hg
      have HN := Lib.hid HB2
      have HTC := Lib.hid (thingsD_calls s hs (k + 1) (by omega))
      generalize thingsD s (k + 1) = X at hg HTC
      obtain ⟨t', p', e', l'⟩ := X
      replace HTC : Hid (∀ w, Calls Tryd.prog 26 #[.string s, .int .i64 ((k : Int) + 1)] w fun en w' => en = .returned (.agg (ptI t' p' e' l')) ∧ Below w.heap.size w w') := HTC
      have HRES := Lib.hid hg
      clear HB2 hd hg
      go_enter Tryd.func19, Tryd.ntmps19
      go_upto_region 1 with fail
      have e0 : w.alloc (.cells #[.int .u64 0, .int .u64 0, .int .u64 0, .int .u64 0, .int .i64 0, .int .i64 0, .string ⟨#[]⟩] 47) = w.alloc (.cells (ptI 0 0 0 eT) 47) := rfl
      rw [e0]
      clear e0
      generalize w.alloc (.cells (ptI 0 0 0 eT) 47) = w1 at *
      go_upto_region 3 with (go_at_call 25; refine (HA2.out _).mono ?_; rintro e w' ⟨rfl, rfl⟩)
      go_upto_region 4 with (go_at_call 25; refine (HN.out _).mono ?_; rintro e w' ⟨rfl, rfl⟩)
      go_wp2_with fail
      refine (HTC.out _).mono ?_
      rintro e w2 ⟨rfl, hb⟩
      have HR2 := Lib.hid (HR.out.below hb (Blk.lt HR.out))
      have HB2 := Lib.hid (HB.out.trans (hb.mono (by omega)))
      have hz2 := Nat.le_trans hz hb.size
      clear HR HB hz hb
      have HR := HR2
      have HB := HB2
      have hz := hz2
      clear HR2 HB2 hz2
      go_wp2_with ((with_reducible refine wpList_store_st (o := ⟨none, .store 47 _ _, _, _, _, _⟩) rfl 47 _ _ rfl w.heap.size rfl rfl (run_storeAt_row _ w.heap.size 47 47 (ptI 0 0 0 eT) (ptI t' p' e' l') ?_ ?_ ?_ ?_) ?_); exact HR.out; exact infoPt; rfl; exact pt_one _ _ _ _)
      exact bodyPost_ret (v := .agg (ptI t' p' e' l')) (results_cell_row rfl _ _ w.heap.size 47 (ptI t' p' e' l') (0, 0) _ rfl (Blk.setRow HR.out) Tryd.underlying47 rfl infoPt) rfl ⟨by rw [HRES.out] <;> rfl, below_row HB.out (by omega) _⟩
    | true =>
      rw [hd] at HB2 hg
      rw [if_neg (by decide)] at hg
      have hlt2 := isN_lt hd
      have HN := Lib.hid HB2
      have HTC := Lib.hid (thingsD_calls s hs (k + 2) (by omega))
      generalize thingsD s (k + 2) = X at hg HTC
      obtain ⟨t', p', e', l'⟩ := X
      replace HTC : Hid (∀ w, Calls Tryd.prog 26 #[.string s, .int .i64 ((k : Int) + 2)] w fun en w' => en = .returned (.agg (ptI t' p' e' l')) ∧ Below w.heap.size w w') := HTC
      have hg2 : wholeD s k = ⟨~~~t', p', e', l'⟩ := hg
      have hnt := not_calls t'
      generalize ~~~t' = r at hg2 hnt
      have HRES := Lib.hid hg2
      have HNT := Lib.hid hnt
      clear HB2 hd hg hg2 hnt
      go_enter Tryd.func19, Tryd.ntmps19
      go_upto_region 1 with fail
      have e0 : w.alloc (.cells #[.int .u64 0, .int .u64 0, .int .u64 0, .int .u64 0, .int .i64 0, .int .i64 0, .string ⟨#[]⟩] 47) = w.alloc (.cells (ptI 0 0 0 eT) 47) := rfl
      rw [e0]
      clear e0
      generalize w.alloc (.cells (ptI 0 0 0 eT) 47) = w1 at *
      go_upto_region 3 with (go_at_call 25; refine (HA2.out _).mono ?_; rintro e w' ⟨rfl, rfl⟩)
      go_upto_region 5 with (go_at_call 25; refine (HN.out _).mono ?_; rintro e w' ⟨rfl, rfl⟩)
      go_wp2_with fail
      refine (HTC.out _).mono ?_
      rintro e w2 ⟨rfl, hb⟩
      have HR2 := Lib.hid (HR.out.below hb (Blk.lt HR.out))
      have HB2 := Lib.hid (HB.out.trans (hb.mono (by omega)))
      have hz2 := Nat.le_trans hz hb.size
      clear HR HB hz hb
      have HR := HR2
      have HB := HB2
      have hz := hz2
      clear HR2 HB2 hz2
      go_upto_region 6 with fail
      have HP := Lib.hid (Blk.new w2 (ptI t' p' e' l') 47)
      have hz2 : w.heap.size + 1 ≤ (w2.alloc (.cells (ptI t' p' e' l') 47)).heap.size := by simp; omega
      replace HR := Lib.hid (HR.out.alloc (.cells (ptI t' p' e' l') 47))
      replace HB := Lib.hid (HB.out.alloc (by omega) (.cells (ptI t' p' e' l') 47))
      generalize w2.alloc (.cells (ptI t' p' e' l') 47) = w3 at *
      have hzB : w.heap.size + 1 ≤ w2.heap.size := hz
      generalize w2.heap.size = B at *
      clear hz
      have hz := hz2
      clear hz2
      have c0 := HP.out.cell 0; have c1 := HP.out.cell 1; have c2 := HP.out.cell 2; have c3 := HP.out.cell 3
      simp only [List.getElem?_toArray, List.getElem?_cons_zero, List.getElem?_cons_succ] at c0 c1 c2 c3
      go_wp2_with fail
      refine (HNT.out _).mono ?_
      rintro e w4 ⟨rfl, hb⟩
      clear c0 c1 c2 c3
      replace HP := Lib.hid (HP.out.below hb HP.out.lt)
      have HR2 := Lib.hid (HR.out.below hb (Blk.lt HR.out))
      have HB2 := Lib.hid (HB.out.trans (hb.mono (by omega)))
      have hz2 := Nat.le_trans hz hb.size
      clear HR HB hz hb
      have HR := HR2
      have HB := HB2
      have hz := hz2
      clear HR2 HB2 hz2
      have c0 := HP.out.cell 0; have c1 := HP.out.cell 1; have c2 := HP.out.cell 2; have c3 := HP.out.cell 3
      simp only [List.getElem?_toArray, List.getElem?_cons_zero, List.getElem?_cons_succ] at c0 c1 c2 c3
      have f0 := HP.out.frozen 0; have f1 := HP.out.frozen 1; have f2 := HP.out.frozen 2; have f3 := HP.out.frozen 3
      have HP2 := Lib.hid ((((HP.out.set 0 (.int .u64 (wd r 0))).set 1 (.int .u64 (wd r 1))).set 2 (.int .u64 (wd r 2))).set 3 (.int .u64 (wd r 3)) : Blk _ _ (ptI r p' e' l') 47)
      have hne : w.heap.size ≠ B := by omega
      have hB' : w.heap.size ≤ B := by omega
      have HR2 := Lib.hid ((((HR.out.other hne 0 (.int .u64 (wd r 0))).other hne 1 (.int .u64 (wd r 1))).other hne 2 (.int .u64 (wd r 2))).other hne 3 (.int .u64 (wd r 3)))
      have HB2 := Lib.hid (below_set (below_set (below_set (below_set HB.out hB' 0 (.int .u64 (wd r 0))) hB' 1 (.int .u64 (wd r 1))) hB' 2 (.int .u64 (wd r 2))) hB' 3 (.int .u64 (wd r 3)))
      clear HP HR HB hne hB'
      have HR := HR2
      have HB := HB2
      clear HR2 HB2
      go_wp2_with (first
        | ((with_reducible refine wpList_load_row (o := ⟨_, .load 47 _, _, _, _, _⟩) rfl 47 _ rfl B rfl 47 (ptI r p' e' l') (0, 0) _ ?_ Tryd.underlying47 rfl ?_ ?_); exact HP2.out; exact infoPt)
        | ((with_reducible refine wpList_store_st (o := ⟨none, .store 47 _ _, _, _, _, _⟩) rfl 47 _ _ rfl w.heap.size rfl rfl (run_storeAt_row _ w.heap.size 47 47 (ptI 0 0 0 eT) (ptI r p' e' l') ?_ ?_ ?_ ?_) ?_); exact HR.out; exact infoPt; rfl; exact pt_one _ _ _ _))
      exact bodyPost_ret (v := .agg (ptI r p' e' l')) (results_cell_row rfl _ _ w.heap.size 47 (ptI r p' e' l') (0, 0) _ rfl (Blk.setRow HR.out) Tryd.underlying47 rfl infoPt) rfl ⟨by rw [HRES.out] <;> rfl, below_row HB.out (by omega) _⟩

theorem lackF (t : BitVec 256) (p e : Int) (l : ByteArray) (w : World) : (Instr.field 47 (.agg (ptI t p e l)) 3).run Tryd.prog w = .ok (.string l) w := by kernel_rfl
end Go.Proofs.YtkkhibamkdgffaaDoor

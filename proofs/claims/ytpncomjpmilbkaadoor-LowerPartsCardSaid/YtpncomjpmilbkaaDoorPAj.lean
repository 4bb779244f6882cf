/- Texts put together: Qp. -/
import Derived.Test.YtpncomjpmilbkaaDoorPAi
import Derived.Test.YtpncomjpmilbkaaDoorPAe
import Derived.Deep.RegionHeld3
/- The developers' lower: Null, Size, Lower. Stage 11. -/
namespace Go.Proofs.YtpncomjpmilbkaaDoor
open Go.RowKit BS

set_option maxRecDepth 100000 in
set_option maxHeartbeats 8000000 in
theorem lNull_calls (l : List NdN) (hl : l.length ≤ 1000) (a : Option Addr) (ca : Nat) (w : World) (h : NodesAt l a w) :
    Calls Tryd.prog 8 #[.slice a l.length ca] w fun e w' => ∃ b c, e = .returned (.slice b (nullsR l).length c) ∧ BoolsB w.heap.size (nullsR l) b w' ∧ Below w.heap.size w w' := by
  cases hr : rightR l with
  | false =>
    have HC := Lib.hid (ltreeOf_no l hl hr a ca w h)
    have hn : nullsR l = [] := by unfold nullsR; rw [hr]; rfl
    rw [hn]
    clear h hr hn
    go_enter Tryd.func8, Tryd.ntmps8
    go_wp2_with fail
    refine HC.out.mono ?_
    rintro e w2 ⟨rfl, hb⟩
    have HB := Lib.hid (hb.alloc hb.size (.cells zTr 52))
    clear hb HC
    go_wp2_with fail
    go_ret
    exact ⟨_, _, rfl, fun hne => absurd rfl hne, HB.out⟩
  | true =>
    have HC := Lib.hid (ltreeOf_yes l hl hr a ca w h)
    have hn := nullsR_is l hr
    have hnl : (nullsR l).length = l.length := by rw [hn]; simp
    have HN := Lib.hid hn
    rw [hnl]
    clear h hr hn
    go_enter Tryd.func8, Tryd.ntmps8
    go_wp2_with fail
    refine HC.out.mono ?_
    rintro e w2 ⟨G, am, cm, Z, rfl, hT, hZ, hb⟩
    have HB := Lib.hid (hb.alloc hb.size (.cells (treeC l.length a ca G am cm Z) 52))
    have HT := Lib.hid (hT.below ((Below.refl w2.heap.size w2).alloc (Nat.le_refl _) (.cells (treeC l.length a ca G am cm Z) 52)))
    clear hb HC hT
    go_wp2_with fail
    go_ret
    refine ⟨_, _, rfl, fun _ => ⟨Z, 0, rfl, hZ, HT.out.zl, fun i hi => ?_⟩, HB.out⟩
    rw [hnl] at hi
    rw [Nat.zero_add]
    refine (HT.out.nulls i hi).trans ?_
    simp only [HN.out, List.getElem_map, List.getElem_range]
set_option maxRecDepth 100000 in
set_option maxHeartbeats 8000000 in
theorem lSize_calls (l : List NdN) (hl : l.length ≤ 1000) (a : Option Addr) (ca : Nat) (w : World) (h : NodesAt l a w) :
    Calls Tryd.prog 10 #[.slice a l.length ca] w fun e w' => e = .returned (.tuple #[.int .i64 (sizeN l : Nat), .int .i64 (sizeL l : Nat)]) ∧ Below w.heap.size w w' := by
  cases hr : rightR l with
  | false =>
    have HC := Lib.hid (ltreeOf_no l hl hr a ca w h)
    have hn : sizeN l = 0 := by unfold sizeN; rw [hr]; rfl
    have hm : sizeL l = 0 := by unfold sizeL; rw [hr]; rfl
    rw [hn, hm]
    clear h hr hn hm
    go_enter Tryd.func10, Tryd.ntmps10
    go_wp2_with fail
    refine HC.out.mono ?_
    rintro e w2 ⟨rfl, hb⟩
    have HB := Lib.hid (hb.alloc hb.size (.cells zTr 52))
    clear hb HC
    go_wp2_with fail
    go_ret2
    exact ⟨rfl, HB.out⟩
  | true =>
    have HC := Lib.hid (ltreeOf_yes l hl hr a ca w h)
    have hn : sizeN l = mn (rootS l) := by unfold sizeN; rw [if_pos hr]
    have hm : sizeL l = mn (rootL l) := by unfold sizeL; rw [if_pos hr]
    have HS := Lib.hid (fun G am cm Z W hT => lsize_calls l hl hr a ca G am cm Z W hT)
    rw [hn, hm]
    clear h hr hn hm
    generalize mn (rootS l) = n at *
    generalize mn (rootL l) = m at *
    go_enter Tryd.func10, Tryd.ntmps10
    go_wp2_with fail
    refine HC.out.mono ?_
    rintro e w2 ⟨G, am, cm, Z, rfl, hT, hZ, hb⟩
    have HB := Lib.hid (hb.alloc hb.size (.cells (treeC l.length a ca G am cm Z) 52))
    have HT := Lib.hid (hT.below ((Below.refl w2.heap.size w2).alloc (Nat.le_refl _) (.cells (treeC l.length a ca G am cm Z) 52)))
    clear hb HC hT
    go_wp2_with fail
    refine (HS.out G am cm Z _ HT.out).mono ?_
    rintro e w3 ⟨rfl, hb⟩
    have hb3 := HB.out.trans (hb.mono HB.out.size)
    have HB3 := Lib.hid (hb3.alloc hb3.size (.cells #[.int .i64 n, .int .i64 m] 57))
    have BS2 := Blk.new w3 #[.int .i64 n, .int .i64 m] 57
    have s0 := BS2.cell 0; have s1 := BS2.cell 1
    simp only [List.getElem?_toArray, List.getElem?_cons_zero, List.getElem?_cons_succ] at s0 s1
    clear hb hb3 HB HS BS2
    go_upto_region 5 with fail
    generalize w3.alloc (.cells #[.int .i64 n, .int .i64 m] 57) = w4 at *
    go_quiet (fail)
    go_wp2_with fail
    go_ret2
    exact ⟨rfl, below_drN HB3.out _⟩
theorem lpart_all (l : List NdN) (hl : l.length ≤ 1000) (hr : rightR l = true) (a : Option Addr) (ca gk : Nat) (am : Option Addr) (cm gz : Nat) : ∀ i, i < l.length → PSpec l a ca gk am cm gz i := fun i => by
  induction i using Nat.strongRecOn with
  | ind i ih => exact fun hi => lpart_step l hl hr a ca gk am cm gz i hi fun q hq => ih q hq (Nat.lt_trans hq hi)
theorem makeT (n : Nat) (hn : n ≤ 1000) : ∃ Z : Array Value, Z.size = n * 8 ∧ ∀ W : World, (Instr.makeSlice 31 (.int .i64 0) (.int .i64 (n : Int))).run Tryd.prog W = .ok (.slice (some ⟨W.heap.size, 0, none⟩) 0 n) (W.alloc (.cells Z 44)) := by
  obtain ⟨i, hi, hzz⟩ := Option.map_eq_some_iff.1 info8u
  simp only [Prod.mk.injEq] at hzz
  obtain ⟨hz, hs, hb⟩ := hzz
  have key : ∀ W : World, _ := fun W => run_make (P := Tryd.prog) W 31 44 i _ Tryd.underlying31 hi hz .i64 .i64 0 n (by omega) (by omega) (by rw [hb]; omega) (by omega)
  rw [hs] at key
  exact ⟨_, size_madeCells _ _, fun W => (key W).trans (by rw [Int.toNat_natCast, Int.toNat_zero])⟩
/-- What the last node's part puts behind an empty list of the call's own. -/
theorem lower_part (l : List NdN) (hl : l.length ≤ 1000) (hr : rightR l = true) (h4 : rootS l ≤ 400) (a : Option Addr) (ca G : Nat) (am : Option Addr) (cm Z n : Nat) (w4 Wc : World) (hb : Below w4.heap.size w4 Wc) (hT : TreeN l l.length l.length a G am Z w4) :
    Calls Tryd.prog 25 #[.agg (treeC l.length a ca G am cm Z), .int .i64 ((l.length : Int) - 1)] Wc fun e w' => ∃ gf caps, e = .returned (.func (.func gf) #[] caps) ∧ (∀ args w, (callFunc gf args).run Tryd.prog w = .ok (.enter gf args) w) ∧
      (∀ W S, Below w'.heap.size w' W → w4.heap.size ≤ S → (S < Wc.heap.size ∨ w'.heap.size ≤ S) → OwT w4.heap.size (.slice (some ⟨S, 0, none⟩) 0 n) [] W →
        Calls Tryd.prog gf (#[.slice (some ⟨S, 0, none⟩) 0 n] ++ caps) W fun e w2 => ∃ g cap, e = .returned (.slice (some ⟨g, 0, none⟩) (enc (tmV l (l.length - 1))).length cap) ∧ NodesAt (enc (tmV l (l.length - 1))) (some ⟨g, 0, none⟩) w2 ∧ Below w4.heap.size w4 w2) ∧ Below Wc.heap.size Wc w' := by
  have hp := formed_pos l (right_formed l hr)
  have e : (l.length : Int) - 1 = ((l.length - 1 : Nat) : Int) := by omega
  rw [e]
  refine (lpart_all l hl hr a ca G am cm Z (l.length - 1) (by omega) (fun k => w4.heap.size ≤ k ∧ k < Wc.heap.size) Wc (fun k h => h.2) ((TreeS.of hT).more (kp_of_below hb) (fun x hx => .inr hx.1))).mono ?_
  rintro e w' ⟨v, rfl, ⟨gf, caps, rfl, eg, hpp⟩, hb'⟩
  refine ⟨gf, caps, rfl, eg, fun W S hW hS hs ho => ?_, hb'⟩
  have hsz : (enc (tmV l (l.length - 1))).length ≤ 400 := by rw [enc_len]; exact h4
  have h4W : Below w4.heap.size w4 W := (hb.trans (hb'.mono hb.size)).trans (hW.mono (Nat.le_trans hb.size hb'.size))
  refine (hpp W (kp_of_below hW) w4.heap.size _ [] h4W.size ho (by rw [List.length_nil]; omega) (fun b hbb => ?_)).mono ?_
  · obtain rfl : S = b := by simpa [Value.ownBlock] using hbb
    exact hs.imp (fun h => ⟨hS, h⟩) id
  rintro e w2 ⟨g, cap, rfl, ho2, hk, hg⟩
  rw [behL_nil] at ho2
  rw [List.length_nil, Nat.zero_add] at ho2 ⊢
  obtain ⟨g2, cap2, e2, -, -, hN⟩ := ho2.nodes (enc_ne _)
  cases e2
  refine ⟨g, cap, rfl, hN, h4W.trans (hk.toBelow h4W.size fun k hk => ?_)⟩
  obtain rfl : S = k := by simpa [Value.ownBlock] using hk
  exact hS
set_option maxRecDepth 100000 in
set_option maxHeartbeats 16000000 in
theorem lLower_calls (l : List NdN) (hl : l.length ≤ 1000) (a : Option Addr) (ca : Nat) (terms places states : Int) (w : World) (h : NodesAt l a w) :
    Calls Tryd.prog 12 #[.slice a l.length ca, .agg #[.int .i64 terms, .int .i64 places, .int .i64 states]] w fun e w' => ∃ b c, e = .returned (.tuple #[.slice b (lwT l terms places).length c, .int .i64 (lwE l terms places : Nat)]) ∧ NodesAt (lwT l terms places) b w' ∧ Below w.heap.size w w' := by
  have hb1 : Below w.heap.size w (w.alloc (.cells #[.int .i64 terms, .int .i64 places, .int .i64 states] 30)) := (Below.refl _ _).alloc (Nat.le_refl _) _
  have BL := Blk.new w #[.int .i64 terms, .int .i64 places, .int .i64 states] 30
  have h1 := h.below hb1
  have HB1 := Lib.hid hb1
  have HBL := Lib.hid BL
  clear hb1 BL h
  cases hr : rightR l with
  | false =>
    have hE : lwE l terms places = 11 := by unfold lwE; rw [hr]; rfl
    have hT : lwT l terms places = [] := by unfold lwT; rw [hE]; rfl
    have HC := Lib.hid (ltreeOf_no l hl hr a ca _ h1)
    rw [hE, hT]
    clear h1 hr hE hT
    go_enter Tryd.func12, Tryd.ntmps12
    go_wp2_with fail
    refine HC.out.mono ?_
    rintro e w2 ⟨rfl, hb⟩
    have hb2 := HB1.out.trans (hb.mono HB1.out.size)
    have HB := Lib.hid (hb2.alloc hb2.size (.cells zTr 52))
    clear hb hb2 HC HB1
    go_wp2_with fail
    go_ret2
    exact ⟨none, 0, rfl, fun hne => absurd rfl hne, HB.out⟩
  | true =>
    have hn : sizeN l = mn (rootS l) := by unfold sizeN; rw [if_pos hr]
    have hm : sizeL l = mn (rootL l) := by unfold sizeL; rw [if_pos hr]
    have hE : lwE l terms places = if largeB l terms places = true then 10 else 0 := if_pos hr
    have hL : largeB l terms places = (decide (min terms 400 < (mn (rootS l) : Int)) || (decide (min places 64 < (mn (rootL l) : Int)) && decide (0 < mn (rootL l)))) := by unfold largeB; rw [hn, hm]
    have HZ0 := Lib.hid (lw_zero l terms places)
    have hn1 : 1 ≤ mn (rootS l) := by
      have h1 : 0 < rootS l := szT_pos _
      unfold mn
      omega
    have HC := Lib.hid (ltreeOf_yes l hl hr a ca _ h1)
    have HS := Lib.hid (fun G am cm Z W hT => lsize_calls l hl hr a ca G am cm Z W hT)
    have HR := Lib.hid hr
    generalize mn (rootS l) = n at *
    generalize mn (rootL l) = m at *
    have HLB := Lib.hid (And.intro hE hL)
    clear h1 hr hn hm hE hL
    go_enter Tryd.func12, Tryd.ntmps12
    go_wp2_with fail
    refine HC.out.mono ?_
    rintro e w2 ⟨G, am, cm, Z, rfl, hT, hZ, hb⟩
    have hb2 := HB1.out.trans (hb.mono HB1.out.size)
    have HB := Lib.hid (hb2.alloc hb2.size (.cells (treeC l.length a ca G am cm Z) 52))
    have hba : Below w2.heap.size w2 (w2.alloc (.cells (treeC l.length a ca G am cm Z) 52)) := (Below.refl _ _).alloc (Nat.le_refl _) _
    have HT := Lib.hid (hT.below hba)
    have BT := Blk.new w2 (treeC l.length a ca G am cm Z) 52
    have HBT0 := Lib.hid BT
    have HBL2 := Lib.hid ((HBL.out.below hb HBL.out.lt).below hba (Nat.lt_of_lt_of_le HBL.out.lt hb.size))
    have hwl : w.heap.size < w2.heap.size := Nat.lt_of_lt_of_le HBL.out.lt hb.size
    clear hb hb2 HC hT hba BT HBL HB1
    go_upto_region 4 with fail
    generalize w2.alloc (.cells (treeC l.length a ca G am cm Z) 52) = w3 at *
    have t0 := HBT0.out.cell 0; have t1 := HBT0.out.cell 1; have t2 := HBT0.out.cell 2; have t3 := HBT0.out.cell 3
    simp only [List.getElem?_toArray, List.getElem?_cons_zero, List.getElem?_cons_succ] at t0 t1 t2 t3
    go_wp2_with fail
    refine (HS.out G am cm Z _ HT.out).mono ?_
    rintro e w3b ⟨rfl, hb⟩
    have hb3 := HB.out.trans (hb.mono HB.out.size)
    have hba : Below w3b.heap.size w3b (w3b.alloc (.cells #[.int .i64 n, .int .i64 m] 57)) := (Below.refl _ _).alloc (Nat.le_refl _) _
    have HB4 := Lib.hid (hb3.trans (hba.mono hb3.size))
    have HT4 := Lib.hid ((HT.out.below hb).below hba)
    have HBT4 := Lib.hid ((HBT0.out.below hb HBT0.out.lt).below hba (Nat.lt_of_lt_of_le HBT0.out.lt hb.size))
    have HBL4 := Lib.hid ((HBL2.out.below hb HBL2.out.lt).below hba (Nat.lt_of_lt_of_le HBL2.out.lt hb.size))
    have HBS := Lib.hid (Blk.new w3b #[.int .i64 n, .int .i64 m] 57)
    clear hb hb3 hba HB HT HBT0 HBL2 HS t0 t1 t2 t3
    go_upto_region 5 with fail
    generalize w3b.alloc (.cells #[.int .i64 n, .int .i64 m] 57) = w4 at *
    obtain ⟨C, hC⟩ : ∃ C, C = w3b.heap.size := ⟨_, rfl⟩
    rw [← hC] at HBS ⊢
    clear hC
    have s0 := HBS.out.cell 0; have s1 := HBS.out.cell 1; have l0 := HBL4.out.cell 0; have l1 := HBL4.out.cell 1
    simp only [List.getElem?_toArray, List.getElem?_cons_zero, List.getElem?_cons_succ] at s0 s1 l0 l1
    obtain ⟨x4, hx4⟩ : ∃ x, x = min (max terms 0) ((400 : Nat) : Int) := ⟨_, rfl⟩
    obtain ⟨x6, hx6⟩ : ∃ x, x = min (max places 0) ((64 : Nat) : Int) := ⟨_, rfl⟩
    have hx4l : x4 ≤ 400 := by omega
    have HBT := Lib.hid (fun W => bounded_calls terms 400 (by omega) W)
    have HBP := Lib.hid (fun W => bounded_calls places 64 (by omega) W)
    rw [← hx4] at HBT
    rw [← hx6] at HBP
    have hbig : largeB l terms places = true ↔ (x4 < (n : Int) ∨ x6 < (m : Int)) := by
      rw [HLB.out.2]
      simp only [Bool.or_eq_true, Bool.and_eq_true, decide_eq_true_eq]
      omega
    have HBIG := Lib.hid hbig
    clear hx4 hx6 hbig
    by_cases q1 : x4 < (n : Int)
    · have HE := Lib.hid (show lwE l terms places = 10 from by rw [HLB.out.1, if_pos (HBIG.out.2 (.inl q1))])
      have HT0 := Lib.hid (show lwT l terms places = [] from if_neg (by rw [HE.out]; decide))
      clear HLB HBIG HZ0
      have h0s : (fun W : World => W = w4.drew) w4.drew := rfl
      refine region_steps (S := fun W : World => W = w4.drew) (by kernel_rfl) h0s ?_
      clear h0s
      simp only [List.size_toArray, List.length_cons, List.length_nil, Nat.reduceAdd, Array.replicate_succ, Array.replicate_zero, List.push_toArray, List.nil_append, List.cons_append]
      refine AnyS.next (i := 0) (d := some 18) (v := .pointer (some ⟨C, 0, none⟩)) rfl rfl (by kernel_rfl) (by kernel_rfl) (by kernel_rfl) (StepsIf.yield (by kernel_rfl) (fun w' hS => by clear hS; go_simp)) ?_
      intro a' ha'
      simp only [Act.put, List.setIfInBounds_toArray, List.set_cons_zero, List.set_cons_succ] at ha'
      subst ha'
      refine AnyS.next (i := 1) (d := some 19) (v := .int .i64 (n : Nat)) rfl rfl (by kernel_rfl) (by kernel_rfl) (by kernel_rfl) (StepsIf.yield (by kernel_rfl) (fun w' hS => by obtain rfl := hS; have hS := trivial; clear hS; go_simp)) ?_
      intro a' ha'
      simp only [Act.put, List.setIfInBounds_toArray, List.set_cons_zero, List.set_cons_succ] at ha'
      subst ha'
      refine AnyS.next (i := 2) (d := some 20) (v := .pointer (some ⟨w.heap.size, 0, none⟩)) rfl rfl (by kernel_rfl) (by kernel_rfl) (by kernel_rfl) (StepsIf.yield (by kernel_rfl) (fun w' hS => by clear hS; go_simp)) ?_
      intro a' ha'
      simp only [Act.put, List.setIfInBounds_toArray, List.set_cons_zero, List.set_cons_succ] at ha'
      subst ha'
      refine AnyS.next (i := 3) (d := some 21) (v := .int .i64 terms) rfl rfl (by kernel_rfl) (by kernel_rfl) (by kernel_rfl) (StepsIf.yield (by kernel_rfl) (fun w' hS => by obtain rfl := hS; have hS := trivial; clear hS; go_simp)) ?_
      intro a' ha'
      simp only [Act.put, List.setIfInBounds_toArray, List.set_cons_zero, List.set_cons_succ] at ha'
      subst ha'
      refine AnyS.next (i := 4) (d := some 22) (v := .int .i64 x4) rfl rfl (by kernel_rfl) (by kernel_rfl) (by kernel_rfl) (StepsIf.call (by kernel_rfl) (fun w' hS => by clear hS; go_simp) (fun w' hS => ((HBT.out w').mono fun e w2 ⟨h1, h2⟩ => ⟨h1, by rw [h2]; exact hS⟩))) ?_
      intro a' ha'
      simp only [Act.put, List.setIfInBounds_toArray, List.set_cons_zero, List.set_cons_succ] at ha'
      subst ha'
      refine AnyS.next (i := 5) (d := some 23) (v := .bool true) rfl rfl (by kernel_rfl) (by kernel_rfl) (by kernel_rfl) (StepsIf.yield (by kernel_rfl) (fun w' hS => by clear hS; go_simp)) ?_
      intro a' ha'
      simp only [Act.put, List.setIfInBounds_toArray, List.set_cons_zero, List.set_cons_succ] at ha'
      subst ha'
      refine AnyS.next (i := 6) (d := some 24) (v := .bool true) rfl rfl (by kernel_rfl) (by kernel_rfl) (by kernel_rfl) (StepsIf.yield (by kernel_rfl) (fun w' hS => by clear hS; go_simp)) ?_
      intro a' ha'
      simp only [Act.put, List.setIfInBounds_toArray, List.set_cons_zero, List.set_cons_succ] at ha'
      subst ha'
      refine AnyS.next (i := 7) (d := some 25) (v := undef) rfl rfl (by kernel_rfl) (by kernel_rfl) (by kernel_rfl) (StepsIf.no (by kernel_rfl)) ?_
      intro a' ha'
      simp only [Act.put, List.setIfInBounds_toArray, List.set_cons_zero, List.set_cons_succ] at ha'
      subst ha'
      refine AnyS.next (i := 8) (d := some 26) (v := undef) rfl rfl (by kernel_rfl) (by kernel_rfl) (by kernel_rfl) (StepsIf.no (by kernel_rfl)) ?_
      intro a' ha'
      simp only [Act.put, List.setIfInBounds_toArray, List.set_cons_zero, List.set_cons_succ] at ha'
      subst ha'
      refine AnyS.next (i := 9) (d := some 27) (v := undef) rfl rfl (by kernel_rfl) (by kernel_rfl) (by kernel_rfl) (StepsIf.no (by kernel_rfl)) ?_
      intro a' ha'
      simp only [Act.put, List.setIfInBounds_toArray, List.set_cons_zero, List.set_cons_succ] at ha'
      subst ha'
      refine AnyS.next (i := 10) (d := some 28) (v := undef) rfl rfl (by kernel_rfl) (by kernel_rfl) (by kernel_rfl) (StepsIf.no (by kernel_rfl)) ?_
      intro a' ha'
      simp only [Act.put, List.setIfInBounds_toArray, List.set_cons_zero, List.set_cons_succ] at ha'
      subst ha'
      refine AnyS.next (i := 11) (d := some 29) (v := undef) rfl rfl (by kernel_rfl) (by kernel_rfl) (by kernel_rfl) (StepsIf.no (by kernel_rfl)) ?_
      intro a' ha'
      simp only [Act.put, List.setIfInBounds_toArray, List.set_cons_zero, List.set_cons_succ] at ha'
      subst ha'
      refine AnyS.next (i := 12) (d := some 30) (v := undef) rfl rfl (by kernel_rfl) (by kernel_rfl) (by kernel_rfl) (StepsIf.no (by kernel_rfl)) ?_
      intro a' ha'
      simp only [Act.put, List.setIfInBounds_toArray, List.set_cons_zero, List.set_cons_succ] at ha'
      subst ha'
      refine AnyS.next (i := 13) (d := some 31) (v := .bool true) rfl rfl (by kernel_rfl) (by kernel_rfl) (by kernel_rfl) (StepsIf.yield (by kernel_rfl) (fun w' hS => by clear hS; go_simp)) ?_
      intro a' ha'
      simp only [Act.put, List.setIfInBounds_toArray, List.set_cons_zero, List.set_cons_succ] at ha'
      subst ha'
      refine AnyS.done (by kernel_rfl) (fun w6 hS => ?_) _
      subst hS
      go_wp2_with fail
      go_ret2
      rw [HT0.out, HE.out]
      first | exact ⟨none, 0, rfl, fun hne => absurd rfl hne, HB4.out.drew⟩ | exact ⟨none, ⟨0, rfl⟩, fun hne => absurd rfl hne, HB4.out.drew⟩
    · by_cases q2 : x6 < (m : Int)
      · have HE := Lib.hid (show lwE l terms places = 10 from by rw [HLB.out.1, if_pos (HBIG.out.2 (.inr q2))])
        have HT0 := Lib.hid (show lwT l terms places = [] from if_neg (by rw [HE.out]; decide))
        clear HLB HBIG HZ0
        have h0s : (fun W : World => W = w4.drew) w4.drew := rfl
        refine region_steps (S := fun W : World => W = w4.drew) (by kernel_rfl) h0s ?_
        clear h0s
        simp only [List.size_toArray, List.length_cons, List.length_nil, Nat.reduceAdd, Array.replicate_succ, Array.replicate_zero, List.push_toArray, List.nil_append, List.cons_append]
        refine AnyS.next (i := 0) (d := some 18) (v := .pointer (some ⟨C, 0, none⟩)) rfl rfl (by kernel_rfl) (by kernel_rfl) (by kernel_rfl) (StepsIf.yield (by kernel_rfl) (fun w' hS => by clear hS; go_simp)) ?_
        intro a' ha'
        simp only [Act.put, List.setIfInBounds_toArray, List.set_cons_zero, List.set_cons_succ] at ha'
        subst ha'
        refine AnyS.next (i := 1) (d := some 19) (v := .int .i64 (n : Nat)) rfl rfl (by kernel_rfl) (by kernel_rfl) (by kernel_rfl) (StepsIf.yield (by kernel_rfl) (fun w' hS => by obtain rfl := hS; have hS := trivial; clear hS; go_simp)) ?_
        intro a' ha'
        simp only [Act.put, List.setIfInBounds_toArray, List.set_cons_zero, List.set_cons_succ] at ha'
        subst ha'
        refine AnyS.next (i := 2) (d := some 20) (v := .pointer (some ⟨w.heap.size, 0, none⟩)) rfl rfl (by kernel_rfl) (by kernel_rfl) (by kernel_rfl) (StepsIf.yield (by kernel_rfl) (fun w' hS => by clear hS; go_simp)) ?_
        intro a' ha'
        simp only [Act.put, List.setIfInBounds_toArray, List.set_cons_zero, List.set_cons_succ] at ha'
        subst ha'
        refine AnyS.next (i := 3) (d := some 21) (v := .int .i64 terms) rfl rfl (by kernel_rfl) (by kernel_rfl) (by kernel_rfl) (StepsIf.yield (by kernel_rfl) (fun w' hS => by obtain rfl := hS; have hS := trivial; clear hS; go_simp)) ?_
        intro a' ha'
        simp only [Act.put, List.setIfInBounds_toArray, List.set_cons_zero, List.set_cons_succ] at ha'
        subst ha'
        refine AnyS.next (i := 4) (d := some 22) (v := .int .i64 x4) rfl rfl (by kernel_rfl) (by kernel_rfl) (by kernel_rfl) (StepsIf.call (by kernel_rfl) (fun w' hS => by clear hS; go_simp) (fun w' hS => ((HBT.out w').mono fun e w2 ⟨h1, h2⟩ => ⟨h1, by rw [h2]; exact hS⟩))) ?_
        intro a' ha'
        simp only [Act.put, List.setIfInBounds_toArray, List.set_cons_zero, List.set_cons_succ] at ha'
        subst ha'
        refine AnyS.next (i := 5) (d := some 23) (v := .bool false) rfl rfl (by kernel_rfl) (by kernel_rfl) (by kernel_rfl) (StepsIf.yield (by kernel_rfl) (fun w' hS => by clear hS; go_simp)) ?_
        intro a' ha'
        simp only [Act.put, List.setIfInBounds_toArray, List.set_cons_zero, List.set_cons_succ] at ha'
        subst ha'
        refine AnyS.next (i := 6) (d := some 24) (v := .bool false) rfl rfl (by kernel_rfl) (by kernel_rfl) (by kernel_rfl) (StepsIf.yield (by kernel_rfl) (fun w' hS => by clear hS; go_simp)) ?_
        intro a' ha'
        simp only [Act.put, List.setIfInBounds_toArray, List.set_cons_zero, List.set_cons_succ] at ha'
        subst ha'
        refine AnyS.next (i := 7) (d := some 25) (v := .pointer (some ⟨C, 1, none⟩)) rfl rfl (by kernel_rfl) (by kernel_rfl) (by kernel_rfl) (StepsIf.yield (by kernel_rfl) (fun w' hS => by clear hS; go_simp)) ?_
        intro a' ha'
        simp only [Act.put, List.setIfInBounds_toArray, List.set_cons_zero, List.set_cons_succ] at ha'
        subst ha'
        refine AnyS.next (i := 8) (d := some 26) (v := .int .i64 (m : Nat)) rfl rfl (by kernel_rfl) (by kernel_rfl) (by kernel_rfl) (StepsIf.yield (by kernel_rfl) (fun w' hS => by obtain rfl := hS; have hS := trivial; clear hS; go_simp)) ?_
        intro a' ha'
        simp only [Act.put, List.setIfInBounds_toArray, List.set_cons_zero, List.set_cons_succ] at ha'
        subst ha'
        refine AnyS.next (i := 9) (d := some 27) (v := .pointer (some ⟨w.heap.size, 1, none⟩)) rfl rfl (by kernel_rfl) (by kernel_rfl) (by kernel_rfl) (StepsIf.yield (by kernel_rfl) (fun w' hS => by clear hS; go_simp)) ?_
        intro a' ha'
        simp only [Act.put, List.setIfInBounds_toArray, List.set_cons_zero, List.set_cons_succ] at ha'
        subst ha'
        refine AnyS.next (i := 10) (d := some 28) (v := .int .i64 places) rfl rfl (by kernel_rfl) (by kernel_rfl) (by kernel_rfl) (StepsIf.yield (by kernel_rfl) (fun w' hS => by obtain rfl := hS; have hS := trivial; clear hS; go_simp)) ?_
        intro a' ha'
        simp only [Act.put, List.setIfInBounds_toArray, List.set_cons_zero, List.set_cons_succ] at ha'
        subst ha'
        refine AnyS.next (i := 11) (d := some 29) (v := .int .i64 x6) rfl rfl (by kernel_rfl) (by kernel_rfl) (by kernel_rfl) (StepsIf.call (by kernel_rfl) (fun w' hS => by clear hS; go_simp) (fun w' hS => ((HBP.out w').mono fun e w2 ⟨h1, h2⟩ => ⟨h1, by rw [h2]; exact hS⟩))) ?_
        intro a' ha'
        simp only [Act.put, List.setIfInBounds_toArray, List.set_cons_zero, List.set_cons_succ] at ha'
        subst ha'
        refine AnyS.next (i := 12) (d := some 30) (v := .bool true) rfl rfl (by kernel_rfl) (by kernel_rfl) (by kernel_rfl) (StepsIf.yield (by kernel_rfl) (fun w' hS => by clear hS; go_simp)) ?_
        intro a' ha'
        simp only [Act.put, List.setIfInBounds_toArray, List.set_cons_zero, List.set_cons_succ] at ha'
        subst ha'
        refine AnyS.next (i := 13) (d := some 31) (v := .bool true) rfl rfl (by kernel_rfl) (by kernel_rfl) (by kernel_rfl) (StepsIf.yield (by kernel_rfl) (fun w' hS => by clear hS; go_simp)) ?_
        intro a' ha'
        simp only [Act.put, List.setIfInBounds_toArray, List.set_cons_zero, List.set_cons_succ] at ha'
        subst ha'
        refine AnyS.done (by kernel_rfl) (fun w6 hS => ?_) _
        subst hS
        go_wp2_with fail
        go_ret2
        rw [HT0.out, HE.out]
        first | exact ⟨none, 0, rfl, fun hne => absurd rfl hne, HB4.out.drew⟩ | exact ⟨none, ⟨0, rfl⟩, fun hne => absurd rfl hne, HB4.out.drew⟩
      · have hE0 : lwE l terms places = 0 := by rw [HLB.out.1, if_neg (fun h => (HBIG.out.1 h).elim q1 q2)]
        obtain ⟨_, hr400, _, hTT⟩ := HZ0.out hE0
        have HE := Lib.hid hE0
        have HTT := Lib.hid hTT
        clear HLB HBIG HZ0 hE0 hTT
        have h0s : (fun W : World => W = w4.drew) w4.drew := rfl
        refine region_steps (S := fun W : World => W = w4.drew) (by kernel_rfl) h0s ?_
        clear h0s
        simp only [List.size_toArray, List.length_cons, List.length_nil, Nat.reduceAdd, Array.replicate_succ, Array.replicate_zero, List.push_toArray, List.nil_append, List.cons_append]
        refine AnyS.next (i := 0) (d := some 18) (v := .pointer (some ⟨C, 0, none⟩)) rfl rfl (by kernel_rfl) (by kernel_rfl) (by kernel_rfl) (StepsIf.yield (by kernel_rfl) (fun w' hS => by clear hS; go_simp)) ?_
        intro a' ha'
        simp only [Act.put, List.setIfInBounds_toArray, List.set_cons_zero, List.set_cons_succ] at ha'
        subst ha'
        refine AnyS.next (i := 1) (d := some 19) (v := .int .i64 (n : Nat)) rfl rfl (by kernel_rfl) (by kernel_rfl) (by kernel_rfl) (StepsIf.yield (by kernel_rfl) (fun w' hS => by obtain rfl := hS; have hS := trivial; clear hS; go_simp)) ?_
        intro a' ha'
        simp only [Act.put, List.setIfInBounds_toArray, List.set_cons_zero, List.set_cons_succ] at ha'
        subst ha'
        refine AnyS.next (i := 2) (d := some 20) (v := .pointer (some ⟨w.heap.size, 0, none⟩)) rfl rfl (by kernel_rfl) (by kernel_rfl) (by kernel_rfl) (StepsIf.yield (by kernel_rfl) (fun w' hS => by clear hS; go_simp)) ?_
        intro a' ha'
        simp only [Act.put, List.setIfInBounds_toArray, List.set_cons_zero, List.set_cons_succ] at ha'
        subst ha'
        refine AnyS.next (i := 3) (d := some 21) (v := .int .i64 terms) rfl rfl (by kernel_rfl) (by kernel_rfl) (by kernel_rfl) (StepsIf.yield (by kernel_rfl) (fun w' hS => by obtain rfl := hS; have hS := trivial; clear hS; go_simp)) ?_
        intro a' ha'
        simp only [Act.put, List.setIfInBounds_toArray, List.set_cons_zero, List.set_cons_succ] at ha'
        subst ha'
        refine AnyS.next (i := 4) (d := some 22) (v := .int .i64 x4) rfl rfl (by kernel_rfl) (by kernel_rfl) (by kernel_rfl) (StepsIf.call (by kernel_rfl) (fun w' hS => by clear hS; go_simp) (fun w' hS => ((HBT.out w').mono fun e w2 ⟨h1, h2⟩ => ⟨h1, by rw [h2]; exact hS⟩))) ?_
        intro a' ha'
        simp only [Act.put, List.setIfInBounds_toArray, List.set_cons_zero, List.set_cons_succ] at ha'
        subst ha'
        refine AnyS.next (i := 5) (d := some 23) (v := .bool false) rfl rfl (by kernel_rfl) (by kernel_rfl) (by kernel_rfl) (StepsIf.yield (by kernel_rfl) (fun w' hS => by clear hS; go_simp)) ?_
        intro a' ha'
        simp only [Act.put, List.setIfInBounds_toArray, List.set_cons_zero, List.set_cons_succ] at ha'
        subst ha'
        refine AnyS.next (i := 6) (d := some 24) (v := .bool false) rfl rfl (by kernel_rfl) (by kernel_rfl) (by kernel_rfl) (StepsIf.yield (by kernel_rfl) (fun w' hS => by clear hS; go_simp)) ?_
        intro a' ha'
        simp only [Act.put, List.setIfInBounds_toArray, List.set_cons_zero, List.set_cons_succ] at ha'
        subst ha'
        refine AnyS.next (i := 7) (d := some 25) (v := .pointer (some ⟨C, 1, none⟩)) rfl rfl (by kernel_rfl) (by kernel_rfl) (by kernel_rfl) (StepsIf.yield (by kernel_rfl) (fun w' hS => by clear hS; go_simp)) ?_
        intro a' ha'
        simp only [Act.put, List.setIfInBounds_toArray, List.set_cons_zero, List.set_cons_succ] at ha'
        subst ha'
        refine AnyS.next (i := 8) (d := some 26) (v := .int .i64 (m : Nat)) rfl rfl (by kernel_rfl) (by kernel_rfl) (by kernel_rfl) (StepsIf.yield (by kernel_rfl) (fun w' hS => by obtain rfl := hS; have hS := trivial; clear hS; go_simp)) ?_
        intro a' ha'
        simp only [Act.put, List.setIfInBounds_toArray, List.set_cons_zero, List.set_cons_succ] at ha'
        subst ha'
        refine AnyS.next (i := 9) (d := some 27) (v := .pointer (some ⟨w.heap.size, 1, none⟩)) rfl rfl (by kernel_rfl) (by kernel_rfl) (by kernel_rfl) (StepsIf.yield (by kernel_rfl) (fun w' hS => by clear hS; go_simp)) ?_
        intro a' ha'
        simp only [Act.put, List.setIfInBounds_toArray, List.set_cons_zero, List.set_cons_succ] at ha'
        subst ha'
        refine AnyS.next (i := 10) (d := some 28) (v := .int .i64 places) rfl rfl (by kernel_rfl) (by kernel_rfl) (by kernel_rfl) (StepsIf.yield (by kernel_rfl) (fun w' hS => by obtain rfl := hS; have hS := trivial; clear hS; go_simp)) ?_
        intro a' ha'
        simp only [Act.put, List.setIfInBounds_toArray, List.set_cons_zero, List.set_cons_succ] at ha'
        subst ha'
        refine AnyS.next (i := 11) (d := some 29) (v := .int .i64 x6) rfl rfl (by kernel_rfl) (by kernel_rfl) (by kernel_rfl) (StepsIf.call (by kernel_rfl) (fun w' hS => by clear hS; go_simp) (fun w' hS => ((HBP.out w').mono fun e w2 ⟨h1, h2⟩ => ⟨h1, by rw [h2]; exact hS⟩))) ?_
        intro a' ha'
        simp only [Act.put, List.setIfInBounds_toArray, List.set_cons_zero, List.set_cons_succ] at ha'
        subst ha'
        refine AnyS.next (i := 12) (d := some 30) (v := .bool false) rfl rfl (by kernel_rfl) (by kernel_rfl) (by kernel_rfl) (StepsIf.yield (by kernel_rfl) (fun w' hS => by clear hS; go_simp)) ?_
        intro a' ha'
        simp only [Act.put, List.setIfInBounds_toArray, List.set_cons_zero, List.set_cons_succ] at ha'
        subst ha'
        refine AnyS.next (i := 13) (d := some 31) (v := .bool false) rfl rfl (by kernel_rfl) (by kernel_rfl) (by kernel_rfl) (StepsIf.yield (by kernel_rfl) (fun w' hS => by clear hS; go_simp)) ?_
        intro a' ha'
        simp only [Act.put, List.setIfInBounds_toArray, List.set_cons_zero, List.set_cons_succ] at ha'
        subst ha'
        refine AnyS.done (by kernel_rfl) (fun w6 hS => ?_) _
        subst hS
        clear HBT HBP s1 l0 l1 q2
        have hn4 : n ≤ 400 := by omega
        obtain ⟨ZT, hZT, hmk⟩ := makeT n (by omega)
        have HPT := Lib.hid (fun Wc hb => lower_part l hl HR.out hr400 a ca G am cm Z n w4 Wc hb HT4.out)
        have HRT := Lib.hid (fun W => lroot_calls l.length hl a ca G am cm Z W)
        have HOW := Lib.hid (show ∀ W : World, Below w4.heap.size w4 W → OwT w4.heap.size (.slice (some ⟨W.heap.size, 0, none⟩) 0 n) [] (W.alloc (.cells ZT 44)) from fun W hb => World.ownsRow_made W ZT n hb.size (by unfold maxLen; omega) hZT)
        have HKP := Lib.hid (show ∀ W : World, Below w4.heap.size w4 W → Below w4.heap.size w4 W ∧ W.cell? ⟨w2.heap.size, 0, none⟩ = some (.slice a l.length ca) ∧ W.cell? ⟨w2.heap.size, 1, none⟩ = some (.slice (some ⟨G, 0, none⟩) l.length l.length) ∧ W.cell? ⟨w2.heap.size, 2, none⟩ = some (.slice am l.length cm) ∧ W.cell? ⟨w2.heap.size, 3, none⟩ = some (.slice (some ⟨Z, 0, none⟩) l.length l.length) ∧ W.cell? ⟨C, 0, none⟩ = some (.int .i64 (n : Nat)) from fun W hb => by
          have h1 := HBT4.out.below hb HBT4.out.lt
          have h2 := HBS.out.below hb HBS.out.lt
          have t0 := h1.cell 0; have t1 := h1.cell 1; have t2 := h1.cell 2; have t3 := h1.cell 3; have s0 := h2.cell 0
          simp only [List.getElem?_toArray, List.getElem?_cons_zero, List.getElem?_cons_succ] at t0 t1 t2 t3 s0
          exact ⟨hb, t0, t1, t2, t3, s0⟩)
        clear q1 hn4 hZT s0
        go_upto_region 7 with fail
        go_region_held3 (fun w' => Below w4.heap.size w4 w' ∧ w'.cell? ⟨w2.heap.size, 0, none⟩ = some (.slice a l.length ca) ∧ w'.cell? ⟨w2.heap.size, 1, none⟩ = some (.slice (some ⟨G, 0, none⟩) l.length l.length) ∧ w'.cell? ⟨w2.heap.size, 2, none⟩ = some (.slice am l.length cm) ∧ w'.cell? ⟨w2.heap.size, 3, none⟩ = some (.slice (some ⟨Z, 0, none⟩) l.length l.length) ∧ w'.cell? ⟨C, 0, none⟩ = some (.int .i64 (n : Nat))) (first
            | exact HKP.out _ (Below.refl _ _).drew.drew
            | (have h := hB5; exact HKP.out _ h)
            | (obtain ⟨hSb, -⟩ := ‹Below w4.heap.size w4 _ ∧ _›; first | exact HKP.out _ (hSb.alloc hSb.size _) | exact HKP.out _ (hSb.trans (hb1.mono hSb.size)) | exact HKP.out _ (hSb.trans (hb3.mono hSb.size)))) (first
            | (go_at_call 26; obtain ⟨hSr, -⟩ := ‹Below w4.heap.size w4 _ ∧ _›; refine (HRT.out _).mono ?_; rintro e w5 ⟨rfl, hb1⟩; have hS5 := hSr.trans (hb1.mono hSr.size))
            | (go_at_call 25; obtain ⟨hSp, -⟩ := ‹Below w4.heap.size w4 _ ∧ _›; refine (HPT.out _ hSp).mono ?_; rintro e w6 ⟨gf, caps, rfl, eg, h7, hb3⟩; have hS6 := hSp.trans (hb3.mono hSp.size); have H7 := Lib.hid h7; clear h7)
            | (refine (H7.out (w6.alloc _) w6.heap.size ((Below.refl _ _).alloc (Nat.le_refl _) _) hS6.size (.inr (Nat.le_refl _)) (HOW.out w6 hS6)).mono ?_; rintro e w7 ⟨g7, c7, rfl, hN7, hB5⟩; have HN7 := Lib.hid hN7; have HB7 := Lib.hid hB5; clear hN7)
            | (refine (H7.out w6 w5.heap.size (Below.refl _ _) hS5.size (.inl (by rw [World.size_alloc]; omega)) ((HOW.out w5 hS5).below hb3)).mono ?_; rintro e w7 ⟨g7, c7, rfl, hN7, hB5⟩; have HN7 := Lib.hid hN7; have HB7 := Lib.hid hB5; clear hN7)
            | (refine (H7.out w6 w4.drew.drew.heap.size (Below.refl _ _) (Nat.le_refl _) (.inl (Nat.lt_of_lt_of_le (by change w4.heap.size < (w4.alloc _).heap.size; rw [World.size_alloc]; omega) hb1.size)) (((HOW.out w4.drew.drew (Below.refl _ _).drew.drew).below hb1).below hb3)).mono ?_; rintro e w7 ⟨g7, c7, rfl, hN7, hB5⟩; have HN7 := Lib.hid hN7; have HB7 := Lib.hid hB5; clear hN7))
        all_goals go_wp2_with fail
        all_goals go_ret2
        all_goals rw [HE.out, HTT.out]
        all_goals exact ⟨_, _, rfl, HN7.out, HB4.out.trans (HB7.out.mono HB4.out.size)⟩
end Go.Proofs.YtpncomjpmilbkaaDoor

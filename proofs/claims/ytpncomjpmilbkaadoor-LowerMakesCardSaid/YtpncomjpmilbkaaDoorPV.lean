/- Texts put together: Qc. -/
import Derived.Test.YtpncomjpmilbkaaDoorPU
import Derived.Laws.EntriesVeiled
/- Parts of a term, the developers': node and the function that it makes. Stage 11. -/
namespace Go.Proofs.YtpncomjpmilbkaaDoor
open Go.RowKit BS

theorem info_fn : (Tryd.prog.info? 63).map (fun i => (i.zero, i.size, i.bytes)) = some (some .nilFunc, 1, 8) := by kernel_rfl
theorem rt_set (L : List NdN) (Ts : List (List NdN)) (i : Nat) (hi : i < Ts.length) (h2 : Ts.length ≤ 2) (len : Int) (hl : len = ((accL L (Ts.take (i + 1))).length : Int)) :
    (#[Value.int .i64 (rtT L Ts i 0), .int .i64 (rtT L Ts i 1)]).setIfInBounds i (.int .i64 (len - 1)) = #[.int .i64 (rtT L Ts (i + 1) 0), .int .i64 (rtT L Ts (i + 1) 1)] := by
  subst hl
  obtain rfl | rfl : i = 0 ∨ i = 1 := by omega
  · have e0 : rtT L Ts (0 + 1) 0 = ((accL L (Ts.take (0 + 1))).length : Int) - 1 := by unfold rtT; rw [if_pos (by omega)]
    have e1 : rtT L Ts (0 + 1) 1 = rtT L Ts 0 1 := by unfold rtT; rw [if_neg (by omega), if_neg (by omega)]
    rw [e0, e1]
    rfl
  · have e0 : rtT L Ts (1 + 1) 1 = ((accL L (Ts.take (1 + 1))).length : Int) - 1 := by unfold rtT; rw [if_pos (by omega)]
    have e1 : rtT L Ts (1 + 1) 0 = rtT L Ts 1 0 := by unfold rtT; rw [if_pos (by omega), if_pos (by omega)]
    rw [e0, e1]
    rfl
set_option maxRecDepth 100000 in
set_option maxHeartbeats 8000000 in
theorem lnode1_calls (A : Nat → Prop) (k x1 x2 n : Int) (t : BitVec 256) (Ts : List (List NdN)) (h2 : Ts.length ≤ 2) (hne : ∀ T ∈ Ts, T ≠ []) (gn gp : Nat) (a : Option Addr) (c : Nat) (W0 : World)
    (hgn : Blk W0 gn #[.int .i64 k, .int .i64 x1, .int .i64 x2, .int .i64 n, .int .u64 (wd t 0), .int .u64 (wd t 1), .int .u64 (wd t 2), .int .u64 (wd t 3)] 44) (hgp : Blk W0 gp #[.slice a Ts.length c] 84) (hAn : ¬ A gn) (hAp : ¬ A gp) (hpts : PtsAt A Ts a W0)
    (w : World) (hk : KpA A W0 w) (base : Nat) (s : Value) (L : List NdN) (hb : base ≤ w.heap.size) (ho : OwT base s L w) (hl : L.length + (sumL Ts + 1) ≤ 1000) (hs : ∀ b, s.ownBlock = some b → A b ∨ W0.heap.size ≤ b) :
    Calls Tryd.prog 71 #[s, .pointer (some ⟨gp, 0, none⟩), .pointer (some ⟨gn, 0, none⟩)] w fun e w' => ∃ g cap, e = .returned (.slice (some ⟨g, 0, none⟩) (L.length + (sumL Ts + 1)) cap) ∧ OwT base (.slice (some ⟨g, 0, none⟩) (L.length + (sumL Ts + 1)) cap) (behL L (ndT k n t Ts)) w' ∧ KpA (fun x => s.ownBlock = some x) w w' ∧ (s.ownBlock = some g ∨ w.heap.size ≤ g) := by
  have HPT := Lib.hid hpts
  have HNE := Lib.hid hne
  have HS := Lib.hid hs
  have HK := Lib.hid hk
  have HO := Lib.hid ho
  have HSLT : Hid (∀ b, s.ownBlock = some b → b < w.heap.size) := Lib.hid fun b hb => (World.ownsRow.lt ho b hb).2
  have HN := Lib.hid (hgn.kpA hk hAn)
  have hw0 : W0.heap.size ≤ w.heap.size := hk.size
  have p0 := (hgp.kpA hk hAp).cell 0
  simp only [List.getElem?_toArray, List.getElem?_cons_zero] at p0
  have BR : Blk (w.alloc (.cells #[.int .i64 (-1), .int .i64 (-1)] 111)) w.heap.size #[.int .i64 (-1), .int .i64 (-1)] 111 := Blk.new w _ _
  have HB1 : Hid (Below w.heap.size w (w.alloc (.cells #[.int .i64 (-1), .int .i64 (-1)] 111))) := Lib.hid ((Below.refl _ _).alloc (Nat.le_refl _) _)
  have hgpl : gp < w.heap.size := Nat.lt_of_lt_of_le hgp.lt hw0
  have p1 := (HB1.out.cell (p := ⟨gp, 0, none⟩) hgpl).trans p0
  have hsz1 : w.heap.size < (w.alloc (.cells #[.int .i64 (-1), .int .i64 (-1)] 111)).heap.size := by rw [World.size_alloc]; omega
  have HLN := Lib.hid hl
  have hgnl : gn < W0.heap.size := hgn.lt
  clear hpts hne hs hk ho hgn hgp p0 hl
  go_enter Tryd.func71, Tryd.ntmps71
  go_upto_region 2 with fail
  generalize w.alloc (.cells #[.int .i64 (-1), .int .i64 (-1)] 111) = w1 at *
  have HK1 : Hid (KpA (fun x => s.ownBlock = some x) w w1) := Lib.hid (kp_of_below HB1.out)
  have HO1 := Lib.hid (HO.out.below HB1.out)
  obtain ⟨ms, hms⟩ : ∃ ms, ms = Ts.length := ⟨_, rfl⟩
  rw [← hms] at p1
  have HMS := Lib.hid hms
  clear hms
  go_wp2_with fail
  go_loopw [0, 11] (fun vl vi wr => ∃ i : Nat, i ≤ ms ∧ vi = .int .i64 i ∧ OwT base vl (accL L (Ts.take i)) wr ∧ KpA (fun x => s.ownBlock = some x) w wr ∧ (∀ b, vl.ownBlock = some b → s.ownBlock = some b ∨ w.heap.size < b) ∧ (0 < i → ∃ g cap, vl = .slice (some ⟨g, 0, none⟩) (accL L (Ts.take i)).length cap) ∧ Blk wr w.heap.size #[.int .i64 (rtT L Ts i 0), .int .i64 (rtT L Ts i 1)] 111) (fun _ vi _ => ms - (intOf vi).toNat)
  case atStart => exact ⟨0, Nat.zero_le _, rfl, HO1.out, HK1.out, fun b hb => .inl hb, fun h => absurd h (by omega), by have e0 : rtT L Ts 0 0 = -1 := by { unfold rtT; rw [if_neg (by omega)] }; have e1 : rtT L Ts 0 1 = -1 := by { unfold rtT; rw [if_neg (by omega)] }; rw [e0, e1]; exact BR⟩
  case round =>
    obtain ⟨i, hi, rfl, hown, hkw, hvl, hform, hR⟩ := hrel
    by_cases hlt : i < ms
    · have hltT : i < Ts.length := by rw [← HMS.out]; exact hlt
      obtain ⟨g, o, rfl, hg, hgA, hc⟩ := HPT.out (by intro e; rw [e] at hltT; simp at hltT)
      obtain ⟨vp, hc1, hpart⟩ := hc i hltT
      have hkr := kp_in HK.out HS.out hkw
      have d0 := (hkr.cell hg hgA (o + i)).trans hc1
      obtain ⟨gf, caps, rfl, eg, hp⟩ := hpart
      have hii : (i : Int) < (ms : Int) := by omega
      have xi : IntKind.i64.wrap ((i : Int) + 1) = (i : Int) + 1 := IntWalk.i64_in _ (by omega)
      have HC := Lib.hid hp
      have HOW := Lib.hid hown
      have HKW := Lib.hid hkw
      have HVL := Lib.hid hvl
      have HKR := Lib.hid hkr
      have HBR := Lib.hid hR
      clear hc hc1 hp hown hkw hvl hkr hform hR
      go_wp2_with fail
      have hsum := sum_take Ts i hltT
      have hsle := sum_take_le Ts (i + 1)
      have hal := accL_len L (Ts.take i)
      refine (HC.out wr HKR.out base u0 (accL L (Ts.take i)) (Nat.le_trans hb HKW.out.size) HOW.out (by have := HLN.out; omega) (fun b hb2 => (HVL.out b hb2).elim (HS.out b) (fun h => .inr (by omega)))).mono ?_
      rintro e w2 ⟨g2, cap2, rfl, ho2, hk2, hat2⟩
      have hTs := accL_snoc L (Ts.take i) Ts[i]
      rw [← List.take_succ_eq_append_getElem hltT] at hTs
      rw [← hTs] at ho2
      have hal2 := accL_len L (Ts.take (i + 1))
      have hln2 : (accL L (Ts.take i)).length + Ts[i].length = (accL L (Ts.take (i + 1))).length := by omega
      rw [hln2] at ho2 ⊢
      have HKW2 := Lib.hid (kp_in (A := fun x => s.ownBlock = some x) (s := u0) HKW.out (fun b hb2 => (HVL.out b hb2).imp id Nat.le_of_lt) hk2)
      have HBR2 := HBR.out.kpA hk2 (fun hb2 => (HVL.out _ hb2).elim (fun h => by have := HSLT.out _ h; omega) (fun h => by omega))
      have hwr := HBR.out.lt
      have HVL2 : Hid (∀ b, (Value.slice (some ⟨g2, 0, none⟩) (accL L (Ts.take (i + 1))).length cap2).ownBlock = some b → s.ownBlock = some b ∨ w.heap.size < b) := Lib.hid fun b hb2 => by
        cases hb2
        rcases hat2 with h | h
        · exact HVL.out _ h
        · exact .inr (Nat.lt_of_lt_of_le hwr h)
      have HO2 := Lib.hid ho2
      have r0 := HBR2.frozen i
      obtain ⟨vr, r1⟩ : ∃ v, w2.cell? ⟨w.heap.size, i, none⟩ = some v := by
        rw [HBR2.cell i]
        obtain rfl | rfl : i = 0 ∨ i = 1 := by omega
        · exact ⟨_, rfl⟩
        · exact ⟨_, rfl⟩
      have hbig : (accL L (Ts.take (i + 1))).length ≤ 1000 := by have := HLN.out; omega
      have xl : IntKind.i64.wrap (((accL L (Ts.take (i + 1))).length : Int) - 1) = ((accL L (Ts.take (i + 1))).length : Int) - 1 := IntWalk.i64_in _ (by omega)
      have hst := HBR2.set i (.int .i64 (((accL L (Ts.take (i + 1))).length : Int) - 1))
      rw [rt_set L Ts i hltT h2 _ rfl] at hst
      have HST := Lib.hid hst
      have hi2 : (i : Int) < 2 := by omega
      have hHO := Lib.hid (show OwT base (.slice (some ⟨g2, 0, none⟩) (accL L (Ts.take (i + 1))).length cap2) (accL L (Ts.take (i + 1))) (w2.setCell ⟨w.heap.size, i, none⟩ (.int .i64 (((accL L (Ts.take (i + 1))).length : Int) - 1))) from owns_keep ho2 fun b hb2 => Below.heap_setCell w2 ⟨w.heap.size, i, none⟩ _ b (by cases hb2; show g2 ≠ w.heap.size; rintro rfl; exact (HVL2.out w.heap.size rfl).elim (fun h => by have := HSLT.out _ h; omega) (fun h => by omega)))
      have hHK := Lib.hid (HKW2.out.set (g := w.heap.size) (.inr (Nat.le_refl _)) i (.int .i64 (((accL L (Ts.take (i + 1))).length : Int) - 1)))
      generalize hlq : (accL L (Ts.take (i + 1))).length = ln at *
      have HLQ := Lib.hid hlq
      clear hlq
      clear HC HOW HKW HVL HKR HBR hsum hsle hal ho2 hk2 hat2 hTs hal2 hln2 HBR2 d0 eg hst HKW2 HO2
      go_wp2_with fail
      go_roundw
      case rel => exact ⟨i + 1, by omega, by simp, hHO.out, hHK.out, HVL2.out, fun _ => ⟨g2, cap2, by rw [HLQ.out]⟩, HST.out⟩
      case measure => simp [intOf]; omega
    · obtain rfl : i = ms := by omega
      have htk : Ts.take i = Ts := List.take_of_length_le (by rw [HMS.out]; exact Nat.le_refl _)
      rw [htk] at hown
      have hms := HMS.out
      have hN := HN.out.kpA hkw (fun e => (HS.out gn e).elim hAn (fun h => by omega))
      have n0 := hN.cell 0; have n3 := hN.cell 3; have n4 := hN.cell 4; have n5 := hN.cell 5; have n6 := hN.cell 6; have n7 := hN.cell 7
      have r0 := hR.cell 0; have r1 := hR.cell 1
      simp only [List.getElem?_toArray, List.getElem?_cons_zero, List.getElem?_cons_succ] at n0 n3 n4 n5 n6 n7 r0 r1
      have hnd := nd_acc L k n t Ts h2 HNE.out
      rw [← hms] at hnd
      have hal := accL_len L Ts
      obtain ⟨i0, hinf, hz0, hz1, hz2⟩ := info_parts info8u
      obtain ⟨ra, hra⟩ : ∃ r, r = rtT L Ts i 0 := ⟨_, rfl⟩
      obtain ⟨rb, hrb⟩ : ∃ r, r = rtT L Ts i 1 := ⟨_, rfl⟩
      rw [← hra, ← hrb] at hnd
      rw [← hra] at r0
      rw [← hrb] at r1
      have hsz : base ≤ (wr.alloc (.cells (ndI k ra rb n t) 44)).heap.size := by rw [World.size_alloc]; have := hkw.size; omega
      have HKA := Lib.hid (hkw.alloc (.cells (ndI k ra rb n t) 44))
      have HAFT := Lib.hid (show ∀ g cap W, W.ownsRow base 44 8 (.slice (some ⟨g, 0, none⟩) ((accL L Ts).length + 1) cap) ((accL L Ts).length + 1) (ndCells (accL L Ts) ++ (ndI k ra rb n t).toList) → (wr.alloc (.cells (ndI k ra rb n t) 44)).grownBy W u0.ownBlock → (u0.ownBlock = some g ∨ g = wr.heap.size + 1) → OwT base (.slice (some ⟨g, 0, none⟩) (L.length + (sumL Ts + 1)) cap) (behL L (ndT k n t Ts)) W ∧ KpA (fun x => s.ownBlock = some x) w W ∧ (s.ownBlock = some g ∨ w.heap.size ≤ g) from fun g cap W h1 h2 h3 => by
        refine ⟨?_, HKA.out.grown h2 (fun k hk => (hvl k hk).imp id (fun h => by omega)), h3.elim (fun h => (hvl g h).imp id (fun h => by omega)) (fun h => .inr (by have := hkw.size; omega))⟩
        unfold OwT
        rw [← hnd, ndCells_app, cells_one, List.length_append, List.length_singleton, show L.length + (sumL Ts + 1) = (accL L Ts).length + 1 by omega]
        exact h1)
      obtain ⟨ao, co, hvo⟩ := owns_form hown
      have HO2 := Lib.hid hown
      have hbig : (accL L Ts).length + 1 ≤ 1000 := by have := HLN.out; omega
      subst hvo
      clear hN hR hkw hvl hform hown hnd hal hra hrb
      go_wp2_with (at_builtin; refine wpList_append_lies _ rfl _ _ 31 rfl base 44 i0 (.agg #[.int .i64 0, .int .i64 0, .int .i64 0, .int .i64 0, .int .u64 0, .int .u64 0, .int .u64 0, .int .u64 0]) 8 64 Tryd.underlying31 hinf hz0 hz1 hz2 rfl (by decide) _ (accL L Ts).length (ndCells (accL L Ts)) rfl (HO2.out.alloc _) ⟨wr.heap.size, 0, none⟩ 1 1 (ndI k ra rb n t).toList rfl rfl (Blk.new wr (ndI k ra rb n t) _).newsL (by simp [Value.oneCell']) (by decide) (by unfold maxLen; omega) (by omega) hsz (wr.heap.size + 1) (World.size_alloc ..) ?_; intro g7 cap7 w7 hown2 hgrow2 hat2 hlt7; obtain ⟨hr1, hr2, hr3⟩ := HAFT.out g7 cap7 w7 hown2 hgrow2 hat2; have HR1 := Lib.hid hr1; have HR2 := Lib.hid hr2; have HR3 := Lib.hid hr3; clear hown2 hgrow2 hat2 hr1 hr2 hr3)
      go_ret
      have hfin := accL_len L Ts
      have hfin2 : (accL L Ts).length + 1 = L.length + (sumL Ts + 1) := by omega
      rw [hfin2]
      exact ⟨g7, cap7, rfl, HR1.out, HR2.out, HR3.out⟩
set_option maxRecDepth 100000 in
set_option maxHeartbeats 8000000 in
theorem lnode_calls (A : Nat → Prop) (k x1 x2 n : Int) (t : BitVec 256) (Ts : List (List NdN)) (h2 : Ts.length ≤ 2) (hne : ∀ T ∈ Ts, T ≠ []) (a : Option Addr) (c : Nat) (w : World) (hA : ∀ k, A k → k < w.heap.size) (hpts : PtsAt A Ts a w) :
    Calls Tryd.prog 45 #[.agg #[.int .i64 k, .int .i64 x1, .int .i64 x2, .int .i64 n, .int .u64 (wd t 0), .int .u64 (wd t 1), .int .u64 (wd t 2), .int .u64 (wd t 3)], .slice a Ts.length c] w fun e w' => ∃ v, e = .returned v ∧ PartAt A v (ndT k n t Ts) w' ∧ Below w.heap.size w w' := by
  have hmf : ∀ (fn : Fn) (first cap : Array Value) (w : World), (Instr.makeFunc fn first cap).run Tryd.prog w = .ok (.func fn first cap) w := fun _ _ _ _ => rfl
  have hB : Below w.heap.size w ((w.alloc (.cells #[.int .i64 k, .int .i64 x1, .int .i64 x2, .int .i64 n, .int .u64 (wd t 0), .int .u64 (wd t 1), .int .u64 (wd t 2), .int .u64 (wd t 3)] 44)).alloc (.cells #[.slice a Ts.length c] 84)) := ((Below.refl _ _).alloc (Nat.le_refl _) _).alloc (by rw [World.size_alloc]; omega) _
  have hn := (Blk.new w #[.int .i64 k, .int .i64 x1, .int .i64 x2, .int .i64 n, .int .u64 (wd t 0), .int .u64 (wd t 1), .int .u64 (wd t 2), .int .u64 (wd t 3)] 44).alloc (.cells #[.slice a Ts.length c] 84)
  have hp := Blk.new (w.alloc (.cells #[.int .i64 k, .int .i64 x1, .int .i64 x2, .int .i64 n, .int .u64 (wd t 0), .int .u64 (wd t 1), .int .u64 (wd t 2), .int .u64 (wd t 3)] 44)) #[.slice a Ts.length c] 84
  have HR := Lib.hid (show PartAt A (.func (.func 71) #[] #[.pointer (some ⟨w.heap.size + 1, 0, none⟩), .pointer (some ⟨w.heap.size, 0, none⟩)]) (ndT k n t Ts) ((w.alloc (.cells #[.int .i64 k, .int .i64 x1, .int .i64 x2, .int .i64 n, .int .u64 (wd t 0), .int .u64 (wd t 1), .int .u64 (wd t 2), .int .u64 (wd t 3)] 44)).alloc (.cells #[.slice a Ts.length c] 84)) from by
    refine ⟨_, _, rfl, fun _ _ => rfl, fun W' hk base s L hb ho hl hs => ?_⟩
    rw [World.size_alloc] at hp
    rw [ndT_len k n t Ts h2] at hl ⊢
    exact lnode1_calls A k x1 x2 n t Ts h2 hne w.heap.size (w.heap.size + 1) a c _ hn hp (fun h => by have := hA _ h; omega) (fun h => by have := hA _ h; omega) (hpts.below hB) W' hk base s L hb ho hl hs)
  have HB := Lib.hid hB
  clear hB hn hp hpts
  go_enter Tryd.func45, Tryd.ntmps45
  go_wp2_with fail
  go_ret
  exact ⟨_, rfl, HR.out, HB.out⟩
end Go.Proofs.YtpncomjpmilbkaaDoor

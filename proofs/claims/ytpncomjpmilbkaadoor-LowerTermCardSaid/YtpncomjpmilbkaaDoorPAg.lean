/- Texts put together: Tt. -/
import Derived.Test.YtpncomjpmilbkaaDoorPAe
/- The laws of stage 11: LowerTerm. -/
namespace Go.Proofs.YtpncomjpmilbkaaDoor
open Go.RowKit BS

/-- What LowerTerm wants of the package term, and of the document's Right. -/
structure TermD : Prop where
  right : ∀ (l : List NdN), l.length ≤ 1000 → ∀ (a : Option Addr) (cap : Nat) (w : World), NodesAt l a w → Calls Tryd.prog 16 #[.slice a l.length cap] w fun e w' => e = .returned (.bool (rightT l)) ∧ Below w.heap.size w w'
  right10 : ∀ (l : List NdN), l.length ≤ 1000 → ∀ (a : Option Addr) (cap : Nat) (w : World), NodesAt l a w → Calls Tryd.prog 17 #[.slice a l.length cap] w fun e w' => e = .returned (.bool (rightT l)) ∧ Below w.heap.size w w'
  top : ∀ (l : List NdN), l.length ≤ 1000 → ∀ (a : Option Addr) (cap : Nat) (w : World), NodesAt l a w → Calls Tryd.prog 18 #[.slice a l.length cap] w fun e w' => e = .returned (.int .i64 (topT l : Nat)) ∧ Below w.heap.size w w'
theorem lfs_step (X : List NdN) (i : Nat) (h : i < X.length) : lfT (X.take (i + 1)) = lfT (X.take i) + if X[i].kind = 2 then 1 else 0 := by
  unfold lfT
  rw [List.take_succ_eq_append_getElem h, List.map_append, List.countP_append]
  simp [List.countP_cons]
theorem lw_ok (l : List NdN) (hr : rightR l = true) (h1 : sizeN l ≤ 400) (h2 : sizeL l ≤ 64) : lwE l (sizeN l : Nat) (sizeL l : Nat) = 0 := by
  have : largeB l (sizeN l : Nat) (sizeL l : Nat) = false := by
    unfold largeB
    rw [decide_eq_false (by omega), decide_eq_false (p := min ((sizeL l : Nat) : Int) 64 < _) (by omega)]
    rfl
  rw [lwE, if_pos hr, this]; rfl
theorem lw_less (l : List NdN) (hr : rightR l = true) (h1 : sizeN l ≤ 400) : lwE l ((sizeN l : Nat) - 1) (sizeL l : Nat) = 10 := by
  have : largeB l ((sizeN l : Nat) - 1) (sizeL l : Nat) = true := by
    unfold largeB
    rw [decide_eq_true (by omega)]
    rfl
  rw [lwE, if_pos hr, this]; rfl
theorem lw_few (l : List NdN) (hr : rightR l = true) (h1 : sizeN l ≤ 400) (h2 : sizeL l ≤ 64) : lwE l (sizeN l : Nat) ((sizeL l : Nat) - 1) = if 0 < sizeL l then 10 else 0 := by
  by_cases h0 : 0 < sizeL l
  · have : largeB l (sizeN l : Nat) ((sizeL l : Nat) - 1) = true := by
      unfold largeB
      rw [decide_eq_true (p := min (((sizeL l : Nat) : Int) - 1) 64 < _) (by omega), decide_eq_true h0]
      simp
    rw [lwE, if_pos hr, this, if_pos h0]; rfl
  · have : largeB l (sizeN l : Nat) ((sizeL l : Nat) - 1) = false := by
      unfold largeB
      rw [decide_eq_false (by omega), decide_eq_false h0]
      simp
    rw [lwE, if_pos hr, this, if_neg h0]; rfl
theorem lw_bad (l : List NdN) (h : 400 < sizeN l ∨ 64 < sizeL l ∨ rightR l = false) : lwE l (sizeN l : Nat) (sizeL l : Nat) = 10 ∨ lwE l (sizeN l : Nat) (sizeL l : Nat) = 11 := by
  cases hr : rightR l with
  | false => right; rw [lwE, hr]; rfl
  | true =>
    left
    have : largeB l (sizeN l : Nat) (sizeL l : Nat) = true := by
      unfold largeB
      rcases h with h | h | h
      · rw [decide_eq_true (p := min ((sizeN l : Nat) : Int) 400 < _) (by omega)]; rfl
      · rw [decide_eq_true (p := min ((sizeL l : Nat) : Int) 64 < _) (by omega), decide_eq_true (p := 0 < sizeL l) (by omega)]; simp
      · rw [hr] at h; cases h
    rw [lwE, if_pos hr, this]; rfl
theorem lw_void (l : List NdN) (t p : Int) (h : lwE l t p = 10 ∨ lwE l t p = 11) : lwT l t p = [] := by
  rw [lwT, if_neg (by rcases h with h | h <;> rw [h] <;> decide)]
theorem sm_get {X : List NdN} {i : Nat} (hi : i < X.length) (h : SMn X i) : 
    (X[i].kind = 5 → ∃ (a : Nat) (ha : a < X.length), X[i].kids = a ∧ X[a].kind = 8) ∧
    (X[i].kind = 6 → ∃ (a : Nat) (ha : a < X.length), X[i].kids = a ∧ (X[a].kind = 8 ∨ (X[a].kind = 3 ∧ ∃ (b : Nat) (hb : b < X.length), X[a].kids = b ∧ X[b].kind = 8))) := by
  obtain ⟨h1, h2⟩ := h X[i] (List.getElem?_eq_getElem hi)
  refine ⟨fun hk => ?_, fun hk => ?_⟩
  · obtain ⟨a, y, e1, e2, e3⟩ := h1 hk
    obtain ⟨ha, e4⟩ := List.getElem?_eq_some_iff.1 e2
    exact ⟨a, ha, e1, by rw [e4]; exact e3⟩
  · obtain ⟨a, y, e1, e2, e3⟩ := h2 hk
    obtain ⟨ha, e4⟩ := List.getElem?_eq_some_iff.1 e2
    refine ⟨a, ha, e1, ?_⟩
    rw [e4]
    rcases e3 with e3 | ⟨e3, b, z, f1, f2, f3⟩
    · exact .inl e3
    · obtain ⟨hb, f4⟩ := List.getElem?_eq_some_iff.1 f2
      exact .inr ⟨e3, b, hb, f1, by rw [f4]; exact f3⟩
set_option maxRecDepth 100000 in
set_option maxHeartbeats 32000000 in
theorem lowerTerm_calls (C : LowC) (D : TermD) (l : List NdN) (hl : l.length ≤ 9223372036854775807) (a : Option Addr) (cap : Nat) (w : World) (h : NodesAt l a w) :
    Calls Tryd.prog 5 #[.slice a l.length cap] w fun e w' => e = .returned (.bool true) ∧ Below w.heap.size w w' := by
  have HSU := Lib.hid (sure11_calls C)
  have HN := Lib.hid h
  clear h
  by_cases h5 : 60 < l.length
  · have q : decide (60 < l.length) = true := decide_eq_true h5
    have q' : decide ((60 : Int) < (l.length : Int)) = true := by rw [decide_eq_true_iff]; omega
    clear C D h5
    go_enter Tryd.func5, Tryd.ntmps5
    go_wp2_with fail
    refine (HSU.out _).mono ?_
    rintro e wz ⟨rfl, hb⟩
    go_wp2_with fail
    go_ret
    exact ⟨rfl, hb⟩
  have q : decide (60 < l.length) = false := decide_eq_false h5
  have q' : decide ((60 : Int) < (l.length : Int)) = false := by rw [decide_eq_false_iff_not]; omega
  have HO1 := Lib.hid (fun W h => C.size l (by omega) a cap W h)
  have HRI := Lib.hid (fun W h => rRight_calls l (by omega) a cap W h)
  have hlo := fun t p W h => C.lower l (by omega) a cap t p 0 W h
  have HLO := Lib.hid hlo
  by_cases hbad : 400 < sizeN l ∨ 64 < sizeL l ∨ rightR l = false
  · have hE := lw_bad l hbad
    have hV := lw_void l _ _ hE
    have h1 := HLO.out (sizeN l : Nat) (sizeL l : Nat)
    rw [hV] at h1
    generalize lwE l (sizeN l : Nat) (sizeL l : Nat) = ee at *
    generalize sizeN l = sn at *
    generalize sizeL l = sl at *
    have H1 : Hid (∀ W, NodesAt l a W → Calls Tryd.prog 12 #[.slice a l.length cap, .agg #[.int .i64 (sn : Nat), .int .i64 (sl : Nat), .int .i64 0]] W fun e W' => ∃ b c, e = .returned (.tuple #[.slice b 0 c, .int .i64 (ee : Nat)]) ∧ NodesAt [] b W' ∧ Below W.heap.size W W') := Lib.hid h1
    have q1 : (400 < sn ∧ decide ((400 : Int) < (sn : Int)) = true) ∨ decide ((400 : Int) < (sn : Int)) = false := by
      by_cases h : 400 < sn
      · exact .inl ⟨h, by rw [decide_eq_true_iff]; omega⟩
      · exact .inr (by rw [decide_eq_false_iff_not]; omega)
    have q2 : (64 < sl ∧ decide ((64 : Int) < (sl : Int)) = true) ∨ (¬ 64 < sl ∧ decide ((64 : Int) < (sl : Int)) = false) := by
      by_cases h : 64 < sl
      · exact .inl ⟨h, by rw [decide_eq_true_iff]; omega⟩
      · exact .inr ⟨h, by rw [decide_eq_false_iff_not]; omega⟩
    have q3 : decide ((400 : Int) < (sn : Int)) = false → decide ((64 : Int) < (sl : Int)) = false → rightR l = false := fun a1 a2 => by
      rw [decide_eq_false_iff_not] at a1 a2
      rcases hbad with h | h | h
      · omega
      · omega
      · exact h
    clear C D HLO hlo hbad hV h5 h1
    have HQ3 := Lib.hid q3
    have HE := Lib.hid hE
    clear q3 hE
    go_enter Tryd.func5, Tryd.ntmps5
    go_wp2_with fail
    refine (HO1.out _ HN.out).mono ?_
    rintro e w1 ⟨rfl, hb⟩
    replace HN := Lib.hid (HN.out.below hb)
    have HB := Lib.hid hb
    clear hb HO1
    go_wp2_with fail
    refine (H1.out _ HN.out).mono ?_
    rintro e w2 ⟨b2, c2, rfl, _, hb⟩
    replace HN := Lib.hid (HN.out.below hb)
    replace HB := Lib.hid (HB.out.trans (hb.mono HB.out.size))
    clear hb H1
    have hee : ee = 10 ∨ ee = 11 := HE.out
    rcases q1 with ⟨p1, q1⟩ | q1
    · clear HQ3 q2
      go_wp2_with fail
      rcases hee with rfl | rfl
      all_goals
        go_wp2_with fail
        refine (HSU.out _).mono ?_
        rintro e wz ⟨rfl, hb⟩
        have HZ := Lib.hid (HB.out.trans (hb.mono HB.out.size))
        clear hb
        go_wp2_with fail
        go_ret
        exact ⟨rfl, HZ.out⟩
    · rcases q2 with ⟨p2, q2⟩ | ⟨p2, q2⟩
      · clear HQ3
        go_wp2_with fail
        rcases hee with rfl | rfl
        all_goals
          go_wp2_with fail
          refine (HSU.out _).mono ?_
          rintro e wz ⟨rfl, hb⟩
          have HZ := Lib.hid (HB.out.trans (hb.mono HB.out.size))
          clear hb
          go_wp2_with fail
          go_ret
          exact ⟨rfl, HZ.out⟩
      · have hr := HQ3.out q1 q2
        rw [hr] at HRI
        go_wp2_with fail
        refine (HRI.out _ HN.out).mono ?_
        rintro e w3 ⟨rfl, hb⟩
        replace HB := Lib.hid (HB.out.trans (hb.mono HB.out.size))
        clear hb HRI
        go_wp2_with fail
        rcases hee with rfl | rfl
        all_goals
          go_wp2_with fail
          refine (HSU.out _).mono ?_
          rintro e wz ⟨rfl, hb⟩
          have HZ := Lib.hid (HB.out.trans (hb.mono HB.out.size))
          clear hb
          go_wp2_with fail
          go_ret
          exact ⟨rfl, HZ.out⟩
  · have hr : rightR l = true := by
      cases h : rightR l with
      | false => exact absurd (.inr (.inr h)) hbad
      | true => rfl
    have h1 : sizeN l ≤ 400 := Nat.le_of_not_lt fun h => hbad (.inl h)
    have h2 : sizeL l ≤ 64 := Nat.le_of_not_lt fun h => hbad (.inr (.inl h))
    have hz := lw_ok l hr h1 h2
    obtain ⟨hX1, hX2, hX3, hX4, hX5⟩ := lw_right l (sizeN l : Nat) (sizeL l : Nat) hz
    have eS : sizeN l = min (rootS l) 1000000 := by unfold sizeN mn; rw [if_pos hr]
    have eL : sizeL l = min (rootL l) 1000000 := by unfold sizeL mn; rw [if_pos hr]
    rw [show rootS l = sizeN l by omega] at hX2
    rw [show rootL l = sizeL l by omega] at hX3
    have c1 := HLO.out (sizeN l : Nat) (sizeL l : Nat)
    rw [hz] at c1
    have c2 : ∀ W, NodesAt l a W → Calls Tryd.prog 12 #[.slice a l.length cap, .agg #[.int .i64 ((sizeN l : Nat) - 1), .int .i64 (sizeL l : Nat), .int .i64 0]] W fun e W' => ∃ v, e = .returned (.tuple #[v, .int .i64 10]) ∧ Below W.heap.size W W' := fun W hW => by
      refine (HLO.out ((sizeN l : Nat) - 1) (sizeL l : Nat) W hW).mono ?_
      rw [lw_less l hr h1]
      rintro e W' ⟨b, c, rfl, _, hb⟩
      exact ⟨_, rfl, hb⟩
    have c3 : ∀ W, NodesAt l a W → Calls Tryd.prog 12 #[.slice a l.length cap, .agg #[.int .i64 (sizeN l : Nat), .int .i64 ((sizeL l : Nat) - 1), .int .i64 0]] W fun e W' => ∃ v, e = .returned (.tuple #[v, .int .i64 ((if 0 < sizeL l then 10 else 0 : Nat) : Int)]) ∧ Below W.heap.size W W' := fun W hW => by
      refine (HLO.out (sizeN l : Nat) ((sizeL l : Nat) - 1) W hW).mono ?_
      rw [lw_few l hr h1 h2]
      rintro e W' ⟨b, c, rfl, _, hb⟩
      exact ⟨_, rfl, hb⟩
    have hrun := fun W h => HRI.out W h
    rw [hr] at hrun
    have HRUN := Lib.hid hrun
    clear HLO hlo hbad HRI hz eS eL hrun
    generalize lwT l (sizeN l : Nat) (sizeL l : Nat) = X at *
    generalize sizeN l = sn at *
    generalize sizeL l = sl at *
    subst hX2
    have ht1 := fun b c W h => D.right X (by omega) b c W h
    rw [hX1] at ht1
    have ht2 := fun b c W h => D.right10 X (by omega) b c W h
    rw [hX1] at ht2
    have ht3 := fun b c W h => D.top X (by omega) b c W h
    rw [show topT X = topL X from if_pos hX1] at ht3
    have HT1 := Lib.hid ht1
    have HT2 := Lib.hid ht2
    have HT3 := Lib.hid ht3
    have HC1 := Lib.hid c1
    have HC2 := Lib.hid c2
    have HC3 := Lib.hid c3
    have HSM := Lib.hid hX4
    have HTG := Lib.hid hX5
    have HLS := Lib.hid (lfs_step X)
    have HLF := Lib.hid hX3
    have q1 : decide ((400 : Int) < (X.length : Int)) = false := by rw [decide_eq_false_iff_not]; omega
    have q2 : decide ((64 : Int) < (sl : Int)) = false := by rw [decide_eq_false_iff_not]; omega
    have xa : IntKind.i64.wrap ((X.length : Int) - 1) = (X.length : Int) - 1 := IntWalk.i64_in _ (by omega)
    have xb : IntKind.i64.wrap ((sl : Int) - 1) = (sl : Int) - 1 := IntWalk.i64_in _ (by omega)
    clear C D c1 c2 c3 ht1 ht2 ht3 hX1 hX3 hX4 hX5 h5
    go_enter Tryd.func5, Tryd.ntmps5
    go_wp2_with fail
    refine (HO1.out _ HN.out).mono ?_
    rintro e w1 ⟨rfl, hb⟩
    replace HN := Lib.hid (HN.out.below hb)
    have HB := Lib.hid hb
    clear hb HO1
    go_wp2_with fail
    refine (HC1.out _ HN.out).mono ?_
    rintro e w2 ⟨b2, k2, rfl, hx, hb⟩
    replace HN := Lib.hid (HN.out.below hb)
    replace HB := Lib.hid (HB.out.trans (hb.mono HB.out.size))
    have HX := Lib.hid hx
    clear hb HC1 hx
    go_wp2_with fail
    refine (HRUN.out _ HN.out).mono ?_
    rintro e w3 ⟨rfl, hb⟩
    replace HN := Lib.hid (HN.out.below hb)
    replace HX := Lib.hid (HX.out.below hb)
    replace HB := Lib.hid (HB.out.trans (hb.mono HB.out.size))
    clear hb HRUN
    go_wp2_with fail
    refine (HT1.out _ _ _ HX.out).mono ?_
    rintro e w4 ⟨rfl, hb⟩
    replace HN := Lib.hid (HN.out.below hb)
    replace HX := Lib.hid (HX.out.below hb)
    replace HB := Lib.hid (HB.out.trans (hb.mono HB.out.size))
    clear hb HT1
    go_wp2_with fail
    refine (HT2.out _ _ _ HX.out).mono ?_
    rintro e w5 ⟨rfl, hb⟩
    replace HN := Lib.hid (HN.out.below hb)
    replace HX := Lib.hid (HX.out.below hb)
    replace HB := Lib.hid (HB.out.trans (hb.mono HB.out.size))
    clear hb HT2
    go_upto_region 11 with fail
    go_loopw [7, 9] (fun v7 v9 wr => ∃ i : Nat, i ≤ X.length ∧ v9 = .int .i64 i ∧ v7 = .int .i64 (lfT (X.take i) : Nat) ∧ Below w5.heap.size w5 wr) (fun _ v9 _ => X.length - (intOf v9).toNat)
    case atStart => exact ⟨0, Nat.zero_le _, rfl, rfl, Below.refl _ _⟩
    case round =>
      obtain ⟨i, hi, rfl, rfl, hW⟩ := hrel
      by_cases hlt : i < X.length
      · have q0 : (0 : Int) ≤ (i : Int) := by omega
        have q3 : (i : Int) < (X.length : Int) := by omega
        have q4 : decide ((i : Int) < (X.length : Int)) = true := by rw [decide_eq_true_iff]; omega
        have q5 : decide (i < X.length) = true := decide_eq_true hlt
        have xj : IntKind.i64.wrap ((i : Int) + 1) = (i : Int) + 1 := IntWalk.i64_in _ (by omega)
        have hle : lfT (X.take i) ≤ i := by
          unfold lfT
          refine Nat.le_trans List.countP_le_length ?_
          rw [List.length_map, List.length_take]; omega
        have xl : IntKind.i64.wrap ((lfT (X.take i) : Int) + 1) = (lfT (X.take i) : Int) + 1 := IntWalk.i64_in _ (by omega)
        have hls := HLS.out i hlt
        obtain ⟨hs5, hs6⟩ := sm_get hlt (HSM.out i hlt)
        obtain ⟨g, off, rfl, hg, hc⟩ := HX.out.below hW (by rintro rfl; simp at hlt)
        have c0 := hc i hlt 0 (by decide)
        have c1 := hc i hlt 1 (by decide)
        have hca : ∀ x (hx : x < X.length), wr.cell? ⟨g, off + x * 8, none⟩ = some (.int .i64 X[x].kind) ∧ wr.cell? ⟨g, off + x * 8 + 1, none⟩ = some (.int .i64 X[x].kids) ∧ wr.cell? ⟨g, off + x * 8 + 2, none⟩ = some (.int .i64 X[x].n) ∧ wr.cell? ⟨g, off + x * 8 + 3, none⟩ = some (.int .i64 X[x].m) ∧ wr.cell? ⟨g, off + x * 8 + 4, none⟩ = some (.int .u64 (wd X[x].set 0)) ∧ wr.cell? ⟨g, off + x * 8 + 5, none⟩ = some (.int .u64 (wd X[x].set 1)) ∧ wr.cell? ⟨g, off + x * 8 + 6, none⟩ = some (.int .u64 (wd X[x].set 2)) ∧ wr.cell? ⟨g, off + x * 8 + 7, none⟩ = some (.int .u64 (wd X[x].set 3)) := fun x hx =>
          ⟨hc x hx 0 (by decide), hc x hx 1 (by decide), hc x hx 2 (by decide), hc x hx 3 (by decide), hc x hx 4 (by decide), hc x hx 5 (by decide), hc x hx 6 (by decide), hc x hx 7 (by decide)⟩
        have HCA := Lib.hid hca
        have HWW := Lib.hid hW
        simp only [ndA, List.getElem?_toArray, List.getElem?_cons_zero, List.getElem?_cons_succ, Nat.add_zero] at c0 c1
        generalize X[i].kind = k at *
        generalize X[i].kids = kc at *
        generalize lfT (X.take i) = lf at *
        clear hc hW hca
        by_cases k2 : k = 2
        · subst k2
          have HL2 := Lib.hid hls
          clear hs5 hs6 hls
          go_wp2_with fail
          go_roundw
          case rel => exact ⟨i + 1, by omega, by simp, by rw [HL2.out]; rfl, HWW.out⟩
          case measure => simp [intOf]; omega
        by_cases k5 : k = 5
        · subst k5
          obtain ⟨x, hx, rfl, ek⟩ := hs5 rfl
          have d0 := (HCA.out x hx).1
          rw [ek] at d0
          have p0 : (x : Int) < (X.length : Int) := by omega
          have p1 : decide (x < X.length) = true := decide_eq_true hx
          have HL2 := Lib.hid hls
          clear hs5 hs6 hls ek
          go_wp2_with fail
          go_roundw
          case rel => exact ⟨i + 1, by omega, by simp, by rw [HL2.out]; rfl, HWW.out⟩
          case measure => simp [intOf]; omega
        by_cases k6 : k = 6
        · subst k6
          obtain ⟨x, hx, rfl, ek⟩ := hs6 rfl
          obtain ⟨d0, d1, d2, d3, d4, d5, d6, d7⟩ := HCA.out x hx
          have p0 : (x : Int) < (X.length : Int) := by omega
          have p1 : decide (x < X.length) = true := decide_eq_true hx
          have HL2 := Lib.hid hls
          clear hs5 hs6 hls
          rcases ek with ek | ⟨ek, y, hy, ey, ek2⟩
          · rw [ek] at d0
            clear ek
            go_wp2_with fail
            go_roundw
            case rel => exact ⟨i + 1, by omega, by simp, by rw [HL2.out]; rfl, HWW.out.alloc HWW.out.size _⟩
            case measure => simp [intOf]; omega
          · rw [ek] at d0
            rw [ey] at d1
            have p2 : (y : Int) < (X.length : Int) := by omega
            have p3 : decide (y < X.length) = true := decide_eq_true hy
            have hga : ∀ o, (wr.alloc o).cell? ⟨g, off + y * 8, none⟩ = some (.int .i64 8) := fun o => by
              have f0 := (HCA.out y hy).1
              rw [ek2] at f0
              exact (((Below.refl wr.heap.size wr).alloc (Nat.le_refl _) o).cell (p := ⟨g, off + y * 8, none⟩) hg).trans f0
            have hgb := hga (.cells #[.int .i64 3, .int .i64 (y : Nat), .int .i64 X[x].n, .int .i64 X[x].m, .int .u64 (wd X[x].set 0), .int .u64 (wd X[x].set 1), .int .u64 (wd X[x].set 2), .int .u64 (wd X[x].set 3)] 44)
            clear ek ey ek2 hga
            go_wp2_with fail
            go_roundw
            case rel => exact ⟨i + 1, by omega, by simp, by rw [HL2.out]; rfl, HWW.out.alloc HWW.out.size _⟩
            case measure => simp [intOf]; omega
        have e2 : decide (k = 2) = false := decide_eq_false k2
        have e5 : decide (k = 5) = false := decide_eq_false k5
        have e6 : decide (k = 6) = false := decide_eq_false k6
        have f2 : (k == 2) = false := beq_eq_false_iff_ne.2 k2
        have f5 : (k == 5) = false := beq_eq_false_iff_ne.2 k5
        have f6 : (k == 6) = false := beq_eq_false_iff_ne.2 k6
        rw [if_neg k2] at hls
        have HL2 := Lib.hid hls
        clear hs5 hs6 hls
        go_wp2_with fail
        go_roundw
        case rel => exact ⟨i + 1, by omega, by simp, by rw [HL2.out]; rfl, HWW.out⟩
        case measure => simp [intOf]; omega
      · obtain rfl : i = X.length := by omega
        have hq : lfT (X.take X.length) = sl := by rw [List.take_length]; exact HLF.out
        rw [hq]
        replace HN := Lib.hid (HN.out.below hW)
        replace HX := Lib.hid (HX.out.below hW)
        replace HB := Lib.hid (HB.out.trans (hW.mono HB.out.size))
        clear hW hq HSM HLS HLF hi hlt q1 q2
        go_upto_region 24 with fail
        go_loopw [8, 11] (fun v8 v11 ws => ∃ i : Nat, i ≤ l.length ∧ v11 = .int .i64 i ∧ v8 = .int .i64 (grpN l i : Nat) ∧ Below wr.heap.size wr ws) (fun _ v11 _ => l.length - (intOf v11).toNat)
        case atStart => exact ⟨0, Nat.zero_le _, rfl, rfl, Below.refl _ _⟩
        case round =>
          obtain ⟨i, hi, rfl, rfl, hW⟩ := hrel
          by_cases hlt : i < l.length
          · obtain ⟨g, off, rfl, hg, hc⟩ := HN.out.below hW (by rintro rfl; simp at hlt)
            have q0 : (0 : Int) ≤ (i : Int) := by omega
            have q3 : (i : Int) < (l.length : Int) := by omega
            have q4 : decide ((i : Int) < (l.length : Int)) = true := by rw [decide_eq_true_iff]; omega
            have q5 : decide (i < l.length) = true := decide_eq_true hlt
            have xj : IntKind.i64.wrap ((i : Int) + 1) = (i : Int) + 1 := IntWalk.i64_in _ (by omega)
            have hgl := grpN_le l i
            have xg : IntKind.i64.wrap ((grpN l i : Int) + 1) = (grpN l i : Int) + 1 := IntWalk.i64_in _ (by omega)
            have hgs := grpN_step l i
            rw [kdN_get l i hlt] at hgs
            have c0 := hc i hlt 0 (by decide)
            simp only [ndA, List.getElem?_toArray, List.getElem?_cons_zero, Nat.add_zero] at c0
            have HWW := Lib.hid hW
            generalize l[i].kind = k at *
            generalize hgn : grpN l i = gn at *
            clear hc hW hgn
            by_cases k3 : k = 3
            · subst k3
              have HGS := Lib.hid hgs
              clear hgs
              go_wp2_with fail
              go_roundw
              case rel => exact ⟨i + 1, by omega, by simp, by rw [HGS.out]; rfl, HWW.out⟩
              case measure => simp [intOf]; omega
            · have e3 : decide (k = 3) = false := decide_eq_false k3
              have f3 : (k == 3) = false := beq_eq_false_iff_ne.2 k3
              rw [f3] at hgs
              have HGS := Lib.hid hgs
              clear hgs
              go_wp2_with fail
              go_roundw
              case rel => exact ⟨i + 1, by omega, by simp, by rw [HGS.out]; rfl, HWW.out⟩
              case measure => simp [intOf]; omega
          · obtain rfl : i = l.length := by omega
            replace HN := Lib.hid (HN.out.below hW)
            replace HX := Lib.hid (HX.out.below hW)
            replace HB := Lib.hid (HB.out.trans (hW.mono HB.out.size))
            have qt : decide ((topL X : Int) ≤ (grpN l l.length : Int)) = true := by have := HTG.out; rw [decide_eq_true_iff]; omega
            have qt2 : decide (topL X ≤ grpN l l.length) = true := decide_eq_true HTG.out
            clear hW hi hlt
            by_cases hs : 0 < sl
            · rw [if_pos hs] at HC3
              have qs : decide ((0 : Int) < (sl : Int)) = true := by rw [decide_eq_true_iff]; omega
              have qs2 : decide (0 < sl) = true := decide_eq_true hs
              go_wp2_with fail
              refine (HC2.out _ HN.out).mono ?_
              rintro e w6 ⟨v6, rfl, hb⟩
              replace HN := Lib.hid (HN.out.below hb)
              replace HX := Lib.hid (HX.out.below hb)
              replace HB := Lib.hid (HB.out.trans (hb.mono HB.out.size))
              clear hb HC2
              go_wp2_with fail
              refine (HC3.out _ HN.out).mono ?_
              rintro e w7 ⟨v7, rfl, hb⟩
              replace HX := Lib.hid (HX.out.below hb)
              replace HB := Lib.hid (HB.out.trans (hb.mono HB.out.size))
              clear hb HC3
              go_wp2_with fail
              refine (HT3.out _ _ _ HX.out).mono ?_
              rintro e w8 ⟨rfl, hb⟩
              replace HB := Lib.hid (HB.out.trans (hb.mono HB.out.size))
              clear hb HT3
              go_wp2_with fail
              refine (HSU.out _).mono ?_
              rintro e w9 ⟨rfl, hb⟩
              replace HB := Lib.hid (HB.out.trans (hb.mono HB.out.size))
              clear hb HSU
              go_wp2_with fail
              go_ret
              exact ⟨rfl, HB.out⟩
            · rw [if_neg hs] at HC3
              have qs : decide ((0 : Int) < (sl : Int)) = false := by rw [decide_eq_false_iff_not]; omega
              have qs2 : decide (0 < sl) = false := decide_eq_false hs
              go_wp2_with fail
              refine (HC2.out _ HN.out).mono ?_
              rintro e w6 ⟨v6, rfl, hb⟩
              replace HN := Lib.hid (HN.out.below hb)
              replace HX := Lib.hid (HX.out.below hb)
              replace HB := Lib.hid (HB.out.trans (hb.mono HB.out.size))
              clear hb HC2
              go_wp2_with fail
              refine (HC3.out _ HN.out).mono ?_
              rintro e w7 ⟨v7, rfl, hb⟩
              replace HX := Lib.hid (HX.out.below hb)
              replace HB := Lib.hid (HB.out.trans (hb.mono HB.out.size))
              clear hb HC3
              go_wp2_with fail
              refine (HT3.out _ _ _ HX.out).mono ?_
              rintro e w8 ⟨rfl, hb⟩
              replace HB := Lib.hid (HB.out.trans (hb.mono HB.out.size))
              clear hb HT3
              go_wp2_with fail
              refine (HSU.out _).mono ?_
              rintro e w9 ⟨rfl, hb⟩
              replace HB := Lib.hid (HB.out.trans (hb.mono HB.out.size))
              clear hb HSU
              go_wp2_with fail
              go_ret
              exact ⟨rfl, HB.out⟩
end Go.Proofs.YtpncomjpmilbkaaDoor

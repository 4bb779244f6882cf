/- Texts put together: Tu. -/
import Derived.Test.YtpncomjpmilbkaaDoorPAe
import Derived.Test.YtpncomjpmilbkaaDoorPO
/- The laws of stage 11: LowerParts. -/
namespace Go.Proofs.YtpncomjpmilbkaaDoor
open Go.RowKit BS

theorem ndL_cells11 : ndCells [ndL] = [.int .i64 6, .int .i64 2, .int .i64 0, .int .i64 0, .int .u64 0, .int .u64 0, .int .u64 0, .int .u64 0] := by
  have z1 : wd (0 : BitVec 256) 1 = 0 := by decide
  have z2 : wd (0 : BitVec 256) 2 = 0 := by decide
  have z3 : wd (0 : BitVec 256) 3 = 0 := by decide
  show [Value.int .i64 6, .int .i64 2, .int .i64 0, .int .i64 0, .int .u64 ((wd (0 : BitVec 256) 0 : Nat) : Int), .int .u64 ((wd (0 : BitVec 256) 1 : Nat) : Int), .int .u64 ((wd (0 : BitVec 256) 2 : Nat) : Int), .int .u64 ((wd (0 : BitVec 256) 3 : Nat) : Int)] = _
  rw [z1, z2, z3]
  rfl
theorem parts_size (l m : List NdN) (hl : rightR l = true) (hm : rightR m = true) (hJ : rightR (altL l m) = true) :
    (sizeN l + sizeN m + 1 < 1000000 → sizeN (altL l m) = sizeN l + sizeN m + 1) ∧ (sizeL l + sizeL m < 1000000 → sizeL (altL l m) = sizeL l + sizeL m) := by
  obtain ⟨h1, h2, _⟩ := alt_sizes l m hl hm hJ
  unfold sizeN sizeL mn
  rw [if_pos hl, if_pos hm, if_pos hJ, if_pos hl, if_pos hm, if_pos hJ, h1, h2]
  omega
theorem sizeL_le (l : List NdN) : sizeN l ≤ 1000000 ∧ sizeL l ≤ 1000000 := by
  unfold sizeN sizeL mn
  constructor <;> split <;> omega
theorem last_kind (l : List NdN) (hl : rightR l = true) : ∃ h : l.length - 1 < l.length, 0 < l.length ∧ l[l.length - 1] = l[l.length - 1] := by
  have := formed_pos l (right_formed l hl)
  exact ⟨by omega, this, rfl⟩
set_option maxRecDepth 100000 in
set_option maxHeartbeats 64000000 in
theorem lowerParts_calls (C : LowC) (l m : List NdN) (hl : l.length ≤ 9223372036854775807) (hm : m.length ≤ 9223372036854775807) (a a2 : Option Addr) (cap cap2 : Nat) (w : World) (h : NodesAt l a w) (h' : NodesAt m a2 w) :
    Calls Tryd.prog 6 #[.slice a l.length cap, .slice a2 m.length cap2] w fun e w' => e = .returned (.bool true) ∧ Below w.heap.size w w' := by
  have HSU := Lib.hid (sure11_calls C)
  have HN := Lib.hid h
  have HM := Lib.hid h'
  have HRI := Lib.hid (fun (l : List NdN) (hl : l.length ≤ 1000) a cap W h => rRight_calls l (by omega) a cap W h)
  have HSI := Lib.hid C.size
  have HNU := Lib.hid C.null
  clear h h' C
  go_enter Tryd.func6, Tryd.ntmps6
  go_upto_region 1 with fail
  go_cut [53] from 16 to 53 (fun v wx => ∃ bb, v = .bool bb ∧ (bb = false → l.length ≤ 40 ∧ m.length ≤ 40 ∧ rightR l = true ∧ rightR m = true) ∧ Below w.heap.size w wx)
  case first =>
    by_cases h1 : 40 < l.length
    · have q1 : decide ((40 : Int) < (l.length : Int)) = true := by rw [decide_eq_true_iff]; omega
      have q2 : decide (40 < l.length) = true := decide_eq_true h1
      go_wp2_with fail
      go_meet
      exact ⟨true, rfl, fun h => (by cases h), Below.refl _ _⟩
    have q1 : decide ((40 : Int) < (l.length : Int)) = false := by rw [decide_eq_false_iff_not]; omega
    have q2 : decide (40 < l.length) = false := decide_eq_false h1
    by_cases h2 : 40 < m.length
    · have q3 : decide ((40 : Int) < (m.length : Int)) = true := by rw [decide_eq_true_iff]; omega
      have q4 : decide (40 < m.length) = true := decide_eq_true h2
      go_wp2_with fail
      go_meet
      exact ⟨true, rfl, fun h => (by cases h), Below.refl _ _⟩
    have q3 : decide ((40 : Int) < (m.length : Int)) = false := by rw [decide_eq_false_iff_not]; omega
    have q4 : decide (40 < m.length) = false := decide_eq_false h2
    have HR1 := Lib.hid (HRI.out l (by omega) a cap w HN.out)
    have HR2 := Lib.hid (fun W h => HRI.out m (by omega) a2 cap2 W h)
    cases hr1 : rightR l with
    | false =>
      rw [hr1] at HR1
      go_wp2_with fail
      refine HR1.out.mono ?_
      rintro e w1 ⟨rfl, hb⟩
      go_wp2_with fail
      go_meet
      exact ⟨true, rfl, fun h => (by cases h), hb⟩
    | true =>
    rw [hr1] at HR1
    cases hr2 : rightR m with
    | false =>
      rw [hr2] at HR2
      go_wp2_with fail
      refine HR1.out.mono ?_
      rintro e w1 ⟨rfl, hb⟩
      have HB1 := Lib.hid hb
      have HM1 := Lib.hid (HM.out.below hb)
      clear hb
      go_wp2_with fail
      refine (HR2.out _ HM1.out).mono ?_
      rintro e w2 ⟨rfl, hb⟩
      have HB2 := Lib.hid (HB1.out.trans (hb.mono HB1.out.size))
      clear hb
      go_wp2_with fail
      go_meet
      exact ⟨true, rfl, fun h => (by cases h), HB2.out⟩
    | true =>
    rw [hr2] at HR2
    have p1 := formed_pos l (right_formed l hr1)
    have p2 := formed_pos m (right_formed m hr2)
    have x1 : IntKind.i64.wrap ((l.length : Int) - 1) = ((l.length - 1 : Nat) : Int) := by rw [IntWalk.i64_in _ (by omega)]; omega
    have x2 : IntKind.i64.wrap ((m.length : Int) - 1) = ((m.length - 1 : Nat) : Int) := by rw [IntWalk.i64_in _ (by omega)]; omega
    have y1 : ((l.length - 1 : Nat) : Int) < (l.length : Int) := by omega
    have y2 : ((m.length - 1 : Nat) : Int) < (m.length : Int) := by omega
    have y3 : decide (l.length - 1 < l.length) = true := by rw [decide_eq_true_iff]; omega
    have y4 : decide (m.length - 1 < m.length) = true := by rw [decide_eq_true_iff]; omega
    have P1 := Lib.hid p1
    have P2 := Lib.hid p2
    clear p1 p2
    go_wp2_with fail
    refine HR1.out.mono ?_
    rintro e w1 ⟨rfl, hb⟩
    have HB1 := Lib.hid hb
    have HM1 := Lib.hid (HM.out.below hb)
    have HN1 := Lib.hid (HN.out.below hb)
    clear hb
    go_wp2_with fail
    refine (HR2.out _ HM1.out).mono ?_
    rintro e w2 ⟨rfl, hb⟩
    have HB2 := Lib.hid (HB1.out.trans (hb.mono HB1.out.size))
    obtain ⟨g, off, rfl, _, hc⟩ := HN1.out.below hb (by have := P1.out; rintro rfl; simp at this)
    obtain ⟨g2, off2, rfl, _, hc2⟩ := HM1.out.below hb (by have := P2.out; rintro rfl; simp at this)
    have c0 := hc (l.length - 1) (by have := P1.out; omega) 0 (by decide)
    have d0 := hc2 (m.length - 1) (by have := P2.out; omega) 0 (by decide)
    simp only [ndA, List.getElem?_toArray, List.getElem?_cons_zero, Nat.add_zero] at c0 d0
    generalize (l[l.length - 1]'_).kind = k1 at c0
    generalize (m[m.length - 1]'_).kind = k2 at d0
    clear hb hc hc2 HN1 HM1 HR1 HR2
    by_cases h3 : k1 = 6
    · subst h3
      go_wp2_with fail
      go_meet
      exact ⟨true, rfl, fun h => (by cases h), HB2.out⟩
    have e1 : decide (k1 = 6) = false := decide_eq_false h3
    have f1 : (k1 == 6) = false := beq_eq_false_iff_ne.2 h3
    by_cases h4 : k2 = 6
    · subst h4
      go_wp2_with fail
      go_meet
      exact ⟨true, rfl, fun h => (by cases h), HB2.out⟩
    have e2 : decide (k2 = 6) = false := decide_eq_false h4
    have f2 : (k2 == 6) = false := beq_eq_false_iff_ne.2 h4
    go_wp2_with fail
    go_meet
    exact ⟨false, rfl, fun _ => ⟨by omega, by omega, hr1, hr2⟩, HB2.out⟩
  case rest =>
  obtain ⟨bb, rfl, hgood, hbw⟩ := hcut
  cases bb with
  | true =>
    go_wp2_with fail
    refine (HSU.out _).mono ?_
    rintro e wz ⟨rfl, hb⟩
    have HZ := Lib.hid (hbw.trans (hb.mono hbw.size))
    clear hb hbw hgood
    go_wp2_with fail
    go_ret
    exact ⟨rfl, HZ.out⟩
  | false =>
  obtain ⟨hl4, hm4, hr1, hr2⟩ := hgood rfl
  have p1 := formed_pos l (right_formed l hr1)
  have p2 := formed_pos m (right_formed m hr2)
  have hall : (altL l m).length = l.length + m.length + 1 := altL_len l m
  have HPS := Lib.hid (parts_size l m hr1 hr2)
  have HAZ := Lib.hid (alt_sizes l m hr1 hr2)
  have HAA := Lib.hid (altA l m hr1 hr2)
  have hra := fun a c W h => HRI.out (altL l m) (by omega) a c W h
  rw [hall] at hra
  have HRA := Lib.hid hra
  have hs3 := fun a c W h => HSI.out (altL l m) (by omega) a c W h
  rw [hall] at hs3
  have HS3 := Lib.hid hs3
  have HS1 := Lib.hid (HSI.out l (by omega) a cap)
  have HS2 := Lib.hid (HSI.out m (by omega) a2 cap2)
  have hn3 := fun a c W h => HNU.out (altL l m) (by omega) a c W h
  have HNN3 := Lib.hid hn3
  have HNN1 := Lib.hid (HNU.out l (by omega) a cap)
  have HNN2 := Lib.hid (HNU.out m (by omega) a2 cap2)
  have HLE := Lib.hid sizeL_le
  have HR12 := Lib.hid (And.intro hr1 hr2)
  replace HN := Lib.hid (HN.out.below hbw)
  replace HM := Lib.hid (HM.out.below hbw)
  have HB := Lib.hid hbw
  clear hbw hra hs3 hn3 HRI HSI HNU hr1 hr2 hgood
  obtain ⟨g, off, rfl, _, _⟩ := HN.out (by rintro rfl; simp at p1)
  obtain ⟨gm, offm, rfl, _, _⟩ := HM.out (by rintro rfl; simp at p2)
  obtain ⟨i0, hinf, hz0, hz1, hz2⟩ := info_parts info8n
  have hown0 := owns_empty wc wc.heap.size (Nat.le_refl _)
  have hnews := nodes_news (HN.out.alloc (.cells #[] 46))
  have BW : Below wc.heap.size wc (wc.alloc (.cells #[] 46)) := (Below.refl _ _).alloc (Nat.le_refl _) _
  go_wp2_with (at_builtin
               first
               | (refine wpList_append_own _ rfl _ _ 22 rfl wc.heap.size 46 i0 (.agg #[.int .i64 0, .int .i64 0, .int .i64 0, .int .i64 0, .int .u64 0, .int .u64 0, .int .u64 0, .int .u64 0]) 8 64 Tryd.underlying22 hinf hz0 hz1 hz2 rfl (by decide) _ 0 [] rfl hown0 ⟨g, off, none⟩ l.length cap (ndCells l) rfl (ndCells_len l) hnews (ndCells_one l) (by unfold maxLen; omega) (by omega) BW.size ?_
                  intro v1 w10 hown1 hgrow1 _
                  rw [Nat.zero_add, List.nil_append] at hown1
                  have BW4 := BW.grown hgrow1 BW.size (fun b hb => (hown0.lt b hb).1)
                  have hnewm := nodes_news (HM.out.below BW4)
                  clear hown0 hnews BW hgrow1
                  have HO1 := Lib.hid hown1)
               | (refine wpList_append_own _ rfl _ _ 22 rfl wc.heap.size 46 i0 (.agg #[.int .i64 0, .int .i64 0, .int .i64 0, .int .i64 0, .int .u64 0, .int .u64 0, .int .u64 0, .int .u64 0]) 8 64 Tryd.underlying22 hinf hz0 hz1 hz2 rfl (by decide) _ l.length (ndCells l) rfl HO1.out ⟨gm, offm, none⟩ m.length cap2 (ndCells m) rfl (ndCells_len m) hnewm (ndCells_one m) (by unfold maxLen; omega) (by omega) BW4.size ?_
                  intro v2 w11 hown2 hgrow2 _
                  have BW5 := BW4.grown hgrow2 BW4.size (fun b hb => (HO1.out.lt b hb).1)
                  clear hnewm HO1 BW4 hgrow2
                  have HO2 := Lib.hid hown2)
               | (refine wpList_append_own _ rfl _ _ 22 rfl wc.heap.size 46 i0 (.agg #[.int .i64 0, .int .i64 0, .int .i64 0, .int .i64 0, .int .u64 0, .int .u64 0, .int .u64 0, .int .u64 0]) 8 64 Tryd.underlying22 hinf hz0 hz1 hz2 rfl (by decide) _ (l.length + m.length) (ndCells l ++ ndCells m) rfl (HO2.out.alloc _) ⟨w11.heap.size, 0, none⟩ 1 1 [.int .i64 6, .int .i64 2, .int .i64 0, .int .i64 0, .int .u64 0, .int .u64 0, .int .u64 0, .int .u64 0] rfl rfl (Blk.new w11 _ _).newsL (by simp [Value.oneCell']) (by unfold maxLen; omega) (by omega) (by have := BW5.size; simp; omega) ?_
                  intro v3 w12 hown3 hgrow3 _
                  have hown4 : w12.ownsRow wc.heap.size 46 8 v3 (altL l m).length (ndCells (altL l m)) := by
                    unfold altL
                    rw [ndCells_app, ndCells_app, ndL_cells11, List.length_append, List.length_append]; exact hown3
                  have BW6 := (BW5.alloc BW5.size _).grown hgrow3 (by have := BW5.size; simp; omega) (fun b hb => (HO2.out.lt b hb).1)
                  obtain ⟨g3, cap3, hv3, _, hnt⟩ := nodes_of_owns hown4 (by intro h0; rw [h0] at hall; simp at hall)
                  rw [hall] at hv3
                  subst hv3
                  have HTW := Lib.hid hnt
                  replace HN := Lib.hid (HN.out.below BW6)
                  replace HM := Lib.hid (HM.out.below BW6)
                  replace HB := Lib.hid (HB.out.trans (BW6.mono HB.out.size))
                  clear hown3 hown4 hgrow3 hnt BW5 BW6 HO2))
  refine (HRA.out _ _ _ HTW.out).mono ?_
  rintro e w13 ⟨rfl, hb⟩
  replace HN := Lib.hid (HN.out.below hb)
  replace HM := Lib.hid (HM.out.below hb)
  replace HTW := Lib.hid (HTW.out.below hb)
  replace HB := Lib.hid (HB.out.trans (hb.mono HB.out.size))
  clear hb HRA
  cases hJ : rightR (altL l m) with
  | false =>
    go_wp2_with fail
    refine (HSU.out _).mono ?_
    rintro e wz ⟨rfl, hb⟩
    have HZ := Lib.hid (HB.out.trans (hb.mono HB.out.size))
    clear hb
    go_wp2_with fail
    go_ret
    exact ⟨rfl, HZ.out⟩
  | true =>
  have hps := HPS.out hJ
  obtain ⟨_, _, haz⟩ := HAZ.out hJ
  have haa := HAA.out hJ
  have HAI := Lib.hid (fun i (hi : i < l.length) => (haa i i (Nat.le_refl _) hi).1)
  have hl1 : (nullsR l).length = l.length := by rw [nullsR_is l HR12.out.1, List.length_map, List.length_range]
  have hl2 : (nullsR m).length = m.length := by rw [nullsR_is m HR12.out.2, List.length_map, List.length_range]
  have hl3 : (nullsR (altL l m)).length = l.length + m.length + 1 := by rw [nullsR_is _ hJ, List.length_map, List.length_range, hall]
  have hg1 : ∀ i (h : i < (nullsR l).length), (nullsR l)[i] = nulV l i := fun i h => by simp [nullsR_is l HR12.out.1]
  have hg2 : ∀ i (h : i < (nullsR m).length), (nullsR m)[i] = nulV m i := fun i h => by simp [nullsR_is m HR12.out.2]
  have hg3 : ∀ i (h : i < (nullsR (altL l m)).length), (nullsR (altL l m))[i] = nulV (altL l m) i := fun i h => by simp [nullsR_is _ hJ]
  have hn1 := HNN1.out
  rw [hl1] at hn1
  have hn2 := HNN2.out
  rw [hl2] at hn2
  have hn3 := HNN3.out
  rw [hl3, hall] at hn3
  have HX1 := Lib.hid hn1
  have HX2 := Lib.hid hn2
  have HX3 := Lib.hid hn3
  have le1 := HLE.out l
  have le2 := HLE.out m
  have HG1 := Lib.hid hg1
  have HG2 := Lib.hid hg2
  have HG3 := Lib.hid hg3
  have L1 := Lib.hid hl1
  have L2 := Lib.hid hl2
  have L3 := Lib.hid hl3
  clear haa HPS HAZ HAA HNN1 HNN2 HNN3 HLE hn1 hn2 hn3 hg1 hg2 hg3 hl1 hl2 hl3 hJ HR12 hall
  generalize nullsR l = N1 at *
  generalize nullsR m = N2 at *
  generalize nullsR (altL l m) = N3 at *
  generalize sizeN l = A at *
  generalize sizeL l = B at *
  generalize sizeN m = C at *
  generalize sizeL m = D at *
  generalize sizeN (altL l m) = n at *
  generalize sizeL (altL l m) = k at *
  have HPS := Lib.hid hps
  have HAZ := Lib.hid haz
  clear hps haz
  go_wp2_with fail
  refine (HS1.out _ HN.out).mono ?_
  rintro e w14 ⟨rfl, hb⟩
  replace HN := Lib.hid (HN.out.below hb)
  replace HM := Lib.hid (HM.out.below hb)
  replace HTW := Lib.hid (HTW.out.below hb)
  replace HB := Lib.hid (HB.out.trans (hb.mono HB.out.size))
  clear hb HS1
  go_wp2_with fail
  refine (HS2.out _ HM.out).mono ?_
  rintro e w15 ⟨rfl, hb⟩
  replace HN := Lib.hid (HN.out.below hb)
  replace HM := Lib.hid (HM.out.below hb)
  replace HTW := Lib.hid (HTW.out.below hb)
  replace HB := Lib.hid (HB.out.trans (hb.mono HB.out.size))
  clear hb HS2
  go_wp2_with fail
  refine (HS3.out _ _ _ HTW.out).mono ?_
  rintro e w16 ⟨rfl, hb⟩
  replace HN := Lib.hid (HN.out.below hb)
  replace HM := Lib.hid (HM.out.below hb)
  replace HTW := Lib.hid (HTW.out.below hb)
  replace HB := Lib.hid (HB.out.trans (hb.mono HB.out.size))
  clear hb HS3
  go_upto_region 9 with fail
  go_cut [107] from 82 to 107 (fun v wx => v = .bool false ∧ w16 = wx)
  case first =>
    have xs1 : IntKind.i64.wrap ((A : Int) + (C : Int)) = (A : Int) + (C : Int) := IntWalk.i64_in _ (by omega)
    obtain ⟨hp1, hp2⟩ := HPS.out
    by_cases h1 : A + C + 1 < 1000000
    · have hn := hp1 h1
      have xs2 : IntKind.i64.wrap ((A : Int) + (C : Int) + 1) = (n : Int) := by rw [IntWalk.i64_in _ (by omega)]; omega
      have q1 : decide ((n : Int) < 1000000) = true := by rw [decide_eq_true_iff]; omega
      by_cases h2 : B + D < 1000000
      · have xs3 : IntKind.i64.wrap ((B : Int) + (D : Int)) = (k : Int) := by have := hp2 h2; rw [IntWalk.i64_in _ (by omega)]; omega
        clear hp1 hp2 hn
        go_wp2_with fail
        go_meet
        exact ⟨rfl, rfl⟩
      · obtain ⟨s, hs⟩ : ∃ s : Int, (B : Int) + (D : Int) = s := ⟨_, rfl⟩
        have xs3 : IntKind.i64.wrap ((B : Int) + (D : Int)) = s := by rw [IntWalk.i64_in _ (by omega)]; omega
        have q2 : decide (s < 1000000) = false := by rw [decide_eq_false_iff_not]; omega
        clear hp1 hp2 hn
        by_cases h3 : (k : Int) = s
        · rw [← h3] at xs3
          clear hs h3
          go_wp2_with fail
          go_meet
          exact ⟨rfl, rfl⟩
        · have q3 : decide ((k : Int) = s) = false := decide_eq_false h3
          have q4 : ((k : Int) == s) = false := beq_eq_false_iff_ne.2 h3
          clear hs
          go_wp2_with fail
          go_meet
          exact ⟨rfl, rfl⟩
    · have xs2 : IntKind.i64.wrap ((A : Int) + (C : Int) + 1) = (A : Int) + (C : Int) + 1 := IntWalk.i64_in _ (by omega)
      have q1 : decide ((A : Int) + (C : Int) + 1 < 1000000) = false := by rw [decide_eq_false_iff_not]; omega
      clear hp1 hp2
      go_wp2_with fail
      go_meet
      exact ⟨rfl, rfl⟩
  case rest =>
  obtain ⟨rfl, rfl⟩ := hcut
  clear HPS le1 le2
  go_wp2_with fail
  refine (HX1.out _ HN.out).mono ?_
  rintro e w17 ⟨b1, k1, rfl, hx, hb⟩
  have HY1 := Lib.hid hx
  clear hx
  replace HN := Lib.hid (HN.out.below hb)
  replace HM := Lib.hid (HM.out.below hb)
  replace HTW := Lib.hid (HTW.out.below hb)
  replace HB := Lib.hid (HB.out.trans (hb.mono HB.out.size))
  clear hb HX1
  go_wp2_with fail
  refine (HX2.out _ HM.out).mono ?_
  rintro e w18 ⟨b2, k2, rfl, hx, hb⟩
  have HY2 := Lib.hid hx
  replace HY1 := Lib.hid (HY1.out.below hb)
  clear hx
  replace HN := Lib.hid (HN.out.below hb)
  replace HM := Lib.hid (HM.out.below hb)
  replace HTW := Lib.hid (HTW.out.below hb)
  replace HB := Lib.hid (HB.out.trans (hb.mono HB.out.size))
  clear hb HX2
  go_wp2_with fail
  refine (HX3.out _ _ _ HTW.out).mono ?_
  rintro e w19 ⟨b3, k3, rfl, hx, hb⟩
  have HY3 := Lib.hid hx
  replace HY1 := Lib.hid (HY1.out.below hb)
  replace HY2 := Lib.hid (HY2.out.below hb)
  clear hx
  replace HN := Lib.hid (HN.out.below hb)
  replace HM := Lib.hid (HM.out.below hb)
  replace HTW := Lib.hid (HTW.out.below hb)
  replace HB := Lib.hid (HB.out.trans (hb.mono HB.out.size))
  clear hb HX3
  have P1 := Lib.hid p1
  have P2 := Lib.hid p2
  obtain ⟨ga, oa, rfl, _, hga, hca⟩ := HY1.out (by have := L1.out; rintro rfl; simp at this; omega)
  obtain ⟨gb, ob, rfl, _, hgb, hcb⟩ := HY2.out (by have := L2.out; rintro rfl; simp at this; omega)
  obtain ⟨gc, oc, rfl, _, hgc, hcc⟩ := HY3.out (by have := L3.out; rintro rfl; simp at this)
  have z0 := hcc (l.length + m.length) (by rw [L3.out]; omega)
  rw [HG3.out _ (by rw [L3.out]; omega), HAZ.out] at z0
  have x0 := hca (l.length - 1) (by rw [L1.out]; omega)
  rw [HG1.out _ (by rw [L1.out]; omega)] at x0
  have y0 := hcb (m.length - 1) (by rw [L2.out]; omega)
  rw [HG2.out _ (by rw [L2.out]; omega)] at y0
  have HCA := Lib.hid (fun i (hi : i < l.length) => (hca i (by rw [L1.out]; omega)).trans (congrArg (fun b => some (Value.bool b)) (HG1.out i (by rw [L1.out]; omega))))
  have HCC := Lib.hid (fun i (hi : i < l.length) => (hcc i (by rw [L3.out]; omega)).trans (congrArg (fun b => some (Value.bool b)) ((HG3.out i (by rw [L3.out]; omega)).trans (HAI.out i hi))))
  generalize nulV l (l.length - 1) = nl at x0 z0
  generalize nulV m (m.length - 1) = nm at y0 z0
  clear hca hcb hcc HG1 HG2 HG3 HAZ HAI HY1 HY2 HY3 L1 L2 L3
  generalize hj : l.length + m.length = j at *
  have x1 : IntKind.i64.wrap ((l.length : Int) - 1) = ((l.length - 1 : Nat) : Int) := by rw [IntWalk.i64_in _ (by omega)]; omega
  have x2 : IntKind.i64.wrap ((m.length : Int) - 1) = ((m.length - 1 : Nat) : Int) := by rw [IntWalk.i64_in _ (by omega)]; omega
  have x3 : IntKind.i64.wrap ((j : Int) + 1 - 1) = (j : Int) := by rw [IntWalk.i64_in _ (by omega)]; omega
  have x4 : IntKind.i64.wrap (j : Int) = (j : Int) := IntWalk.i64_in _ (by omega)
  have y1 : ((l.length - 1 : Nat) : Int) < (l.length : Int) := by omega
  have y2 : ((m.length - 1 : Nat) : Int) < (m.length : Int) := by omega
  have y3 : decide (l.length - 1 < l.length) = true := by rw [decide_eq_true_iff]; omega
  have y4 : decide (m.length - 1 < m.length) = true := by rw [decide_eq_true_iff]; omega
  have y5 : (j : Int) < (j : Int) + 1 := by omega
  have hjl : l.length ≤ j := by omega
  clear p1 p2 hj
  go_upto_region 12 with fail
  go_cut [155] from 114 to 155 (fun v wx => v = .bool false ∧ Below w19.heap.size w19 wx)
  case first =>
    obtain ⟨nz, hnz⟩ : ∃ nz, (nl || nm) = nz := ⟨_, rfl⟩
    rw [hnz] at z0
    cases nl <;> cases nm <;> cases nz
    all_goals first
      | exact absurd hnz (by decide)
      | (clear hnz
         go_quiet (fail)
         go_wp2_with fail
         go_meet
         exact ⟨rfl, below_drN (Below.refl _ _) _⟩)
  case rest =>
  obtain ⟨rfl, hwc⟩ := hcut
  go_upto_region 15 with fail
  go_loopw [15] (fun v wr => ∃ i : Nat, i ≤ l.length ∧ v = .int .i64 i ∧ Below w19.heap.size w19 wr) (fun v _ => l.length - (intOf v).toNat)
  case atStart => exact ⟨0, Nat.zero_le _, rfl, hwc⟩
  case round =>
    obtain ⟨i, hi, rfl, hW⟩ := hrel
    clear x0 y0 z0 x1 x2 x3 x4 y1 y2 y3 y4 y5 hwc
    by_cases hlt : i < l.length
    · have c0 := (hW.cell (p := ⟨ga, oa + i, none⟩) hga).trans (HCA.out i hlt)
      have d0 := (hW.cell (p := ⟨gc, oc + i, none⟩) hgc).trans (HCC.out i hlt)
      generalize nulV l i = bv at c0 d0
      have q0 : (0 : Int) ≤ (i : Int) := by omega
      have q1 : (i : Int) < (l.length : Int) := by omega
      have q2 : decide ((i : Int) < (l.length : Int)) = true := by rw [decide_eq_true_iff]; omega
      have q3 : decide (i < l.length) = true := decide_eq_true hlt
      have q4 : (i : Int) < (j : Int) + 1 := by omega
      have q5 : i < j + 1 := by omega
      have xj : IntKind.i64.wrap ((i : Int) + 1) = (i : Int) + 1 := IntWalk.i64_in _ (by omega)
      have HWW := Lib.hid hW
      clear hW hga hgb hgc
      go_wp2_with fail
      go_quiet (fail)
      go_wp2_with fail
      go_roundw
      case rel => exact ⟨i + 1, by omega, by simp, below_drN HWW.out _⟩
      case measure => simp [intOf]; omega
    · obtain rfl : i = l.length := by omega
      replace HB := Lib.hid (HB.out.trans (hW.mono HB.out.size))
      clear hW hlt
      go_wp2_with fail
      refine (HSU.out _).mono ?_
      rintro e w20 ⟨rfl, hb⟩
      replace HB := Lib.hid (HB.out.trans (hb.mono HB.out.size))
      clear hb
      go_wp2_with fail
      go_ret
      exact ⟨rfl, HB.out⟩
end Go.Proofs.YtpncomjpmilbkaaDoor

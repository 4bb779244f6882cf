/- Texts put together: Tsn. -/
import Derived.Test.YtdpkhliojbeglaaDoorQAa
/- What groups span: the developers' Spans. Stage 14. -/
namespace Go.Proofs.YtdpkhliojbeglaaDoor
open Go.RowKit BS

theorem RowG.other {n G R : Nat} {f : Nat → List Int} {W : World} (h : RowG n G f W) (hR : R < G) (x : Nat) (v : Value) : RowG n G f (W.setCell ⟨R, x, none⟩ v) := by
  obtain ⟨vs, h1, h2, h3⟩ := h
  exact ⟨vs, h1, h2.other (by omega) x v, fun y hy => by
    obtain ⟨b, c, e, hi⟩ := h3 y hy
    exact ⟨b, c, e, hi.set (by omega) x v⟩⟩
theorem RowG.cell {n G : Nat} {f : Nat → List Int} {W : World} (h : RowG n G f W) (x : Nat) (hx : x < n) : ∃ b c, W.cell? ⟨G, x, none⟩ = some (.slice b (f x).length c) ∧ IntsB (G + 1) (f x) b W := by
  obtain ⟨vs, h1, h2, h3⟩ := h
  obtain ⟨b, c, e, hi⟩ := h3 x hx
  exact ⟨b, c, (h2.cell x).trans e, hi⟩
/-- Behind i entries. -/
def stS (l : List NdN) (t : List EnN) (i : Nat) : List (Int × Int) := if i = 0 then (-1, -1) :: List.replicate (topL l) (-1, -1) else (t.take i).foldl (spanS l) (spanI l t)
/-- The node's group, and the groups of an Iter. -/
def setG (kk km : Int) (o : List (Int × Int)) (z : Int × Int) : List (Int × Int) := if kk = 7 then o.set km.toNat z else o
def grG (l : List NdN) (kk : Int) (q : Nat) : List Nat := if kk = 8 then groupsT l q else []
theorem spanS_split (l : List NdN) (o : List (Int × Int)) (d f e : Int) (q : Nat) (hq : q < l.length) : spanS l o ⟨d, q, f, e⟩ = offS (setG l[q].kind l[q].m o (f, e)) (grG l l[q].kind q) := by
  have hnd : ndE l q = l[q] := by simp [ndE, hq]
  unfold spanS setG grG
  simp only
  rw [if_pos ⟨by omega, by omega⟩, Int.toNat_natCast, hnd]
  by_cases h7 : l[q].kind = 7
  · rw [if_pos h7, if_pos h7, if_neg (by omega)]; rfl
  · rw [if_neg h7, if_neg h7]
    by_cases h8 : l[q].kind = 8
    · rw [if_pos h8, if_pos h8]
    · rw [if_neg h8, if_neg h8]; rfl
theorem gIn_gr (l : List NdN) (q : Nat) (hq : q < l.length) : gIn l l.length q = (grG l l[q].kind q).map fun n : Nat => (n : Int) := by
  have hnd : ndE l q = l[q] := by simp [ndE, hq]
  unfold gIn grG
  rw [hnd]
  by_cases h8 : l[q].kind = 8
  · rw [if_pos ⟨hq, h8⟩, if_pos h8]; rfl
  · rw [if_neg (fun h => h8 h.2), if_neg h8]; rfl
set_option maxRecDepth 100000 in
set_option maxHeartbeats 64000000 in
theorem spansX_calls (l : List NdN) (hl : l.length ≤ 1000) (t : List EnN) (ht : t.length ≤ 1000) (la ta : Option Addr) (lc tc : Nat) (W : World) (hN : NodesAt l la W) (hE : EntsAt t ta W) :
    Calls Tryd.prog 37 #[.slice la l.length lc, .slice ta t.length tc] W fun e W' => ∃ b c, e = .returned (.slice b (spansT l t).length c) ∧ SpnAt (spansT l t) b W' ∧ Below W.heap.size W W' ∧ (rightT l = true → ∃ R, b = some ⟨R, 0, none⟩ ∧ W.heap.size ≤ R ∧ SpsAt (spansT l t) R W') := by
  have HR := tmright_calls l hl la lc W hN
  have HN := Lib.hid hN
  have HE := Lib.hid hE
  clear hN hE
  cases hr : rightT l with
  | false =>
    rw [hr] at HR
    have HX := Lib.hid (show spansT l t = [] by unfold spansT; rw [hr]; rfl)
    clear hr
    go_enter Tryd.func37, Tryd.ntmps37
    go_wp2_with fail
    refine HR.mono ?_
    rintro e w1 ⟨rfl, hb⟩
    go_wp2_with fail
    go_ret
    rw [HX.out]
    exact ⟨_, _, rfl, fun hh => absurd rfl hh, hb, fun h => by cases h⟩
  | true =>
  rw [hr] at HR
  have HX := Lib.hid (show spansT l t = stS l t t.length by
    unfold spansT stS
    rw [if_pos hr]
    by_cases h0 : t.length = 0
    · rw [if_pos h0, List.eq_nil_of_length_eq_zero h0]; rfl
    · rw [if_neg h0, List.take_of_length_le (Nat.le_refl _)])
  have HTC := Lib.hid (fun W' (hW : Below W.heap.size W W') => top_calls l hl la lc W' (HN.out.below hW))
  have HGI := Lib.hid (fun W' (hW : Below W.heap.size W W') => groupsIn_calls l hl la lc W' (HN.out.below hW))
  have hTT : topT l = topL l := by unfold topT; rw [if_pos hr]
  rw [hTT] at HTC
  have hT9 : topL l ≤ 9 := by rcases (topL_spec l).2 with h | h <;> omega
  have HGN := Lib.hid (grp_num l hr)
  have HGS := Lib.hid (groups_num l)
  have HS0 := Lib.hid (show stS l t 0 = (-1, -1) :: List.replicate (topL l) (-1, -1) from if_pos rfl)
  have HS1 := Lib.hid (show ∀ i (h : i < t.length), stS l t (i + 1) = spanS l (if i = 0 then (stS l t i).set 0 (t[i].from_, t[i].to) else stS l t i) t[i] from fun i h => by
    unfold stS
    rw [if_neg (by omega), List.take_succ_eq_append_getElem h, List.foldl_append]
    by_cases h0 : i = 0
    · subst h0
      rw [if_pos rfl, if_pos rfl]
      cases t with
      | nil => simp at h
      | cons x r => rfl
    · rw [if_neg h0, if_neg h0]; rfl)
  have HLEN := Lib.hid (show ∀ i, (stS l t i).length = topL l + 1 from fun i => by
    unfold stS
    split
    · simp
    · rw [spanR_len]
      cases t <;> simp [spanI])
  have HSP := Lib.hid (spanS_split l)
  have HGG := Lib.hid (gIn_gr l)
  clear hTT hr
  generalize stS l t = SS at *
  generalize topL l = T at *
  have xT : IntKind.i64.wrap (1 + (T : Int)) = (T : Int) + 1 := by rw [show 1 + (T : Int) = (T : Int) + 1 by omega]; exact IntWalk.i64_in _ (by omega)
  have hmk := fun W => makeSp (T + 1) (by omega) W
  rw [show ((T + 1 : Nat) : Int) = (T : Int) + 1 from rfl] at hmk
  go_enter Tryd.func37, Tryd.ntmps37
  go_wp2_with fail
  refine HR.mono ?_
  rintro e w1 ⟨rfl, hb⟩
  have HB1 := Lib.hid hb
  clear HR hb
  go_wp2_with fail
  refine (HTC.out w1 HB1.out).mono ?_
  rintro e w2 ⟨rfl, hb2⟩
  have HB2 := Lib.hid (HB1.out.trans (hb2.mono HB1.out.size))
  clear HTC hb2 HB1
  go_upto_region 4 with fail
  have HSN := Lib.hid (SpsAt.new (T + 1) w2)
  have HB3 := Lib.hid (HB2.out.alloc HB2.out.size (.cells (spZ (T + 1)) 25))
  have hRW : W.heap.size ≤ w2.heap.size := HB2.out.size
  clear HB2 hmk xT
  generalize w2.alloc (.cells (spZ (T + 1)) 25) = w3 at *
  generalize w2.heap.size = R at *
  clear w2
  go_wp2_with fail
  go_loopw [23] (fun vi wr => ∃ i : Nat, i ≤ T + 1 ∧ vi = .int .i64 i ∧ (∃ o : List (Int × Int), o.length = T + 1 ∧ (∀ x, x < i → o[x]? = some (-1, -1)) ∧ SpsAt o R wr) ∧ Below W.heap.size W wr) (fun vi _ => T + 1 - (intOf vi).toNat)
  case atStart => exact ⟨0, Nat.zero_le _, rfl, ⟨_, List.length_replicate .., fun x hx => absurd hx (by omega), HSN.out⟩, HB3.out⟩
  case round =>
    obtain ⟨i, hi, rfl, ⟨o, hol, hom, hs⟩, hB⟩ := hrel
    clear HSN HB3
    by_cases hlt : i < T + 1
    · have p1 : decide ((i : Int) < ((T + 1 : Nat) : Int)) = true := by rw [decide_eq_true_iff]; omega
      have p2 : decide (i < T + 1) = true := decide_eq_true hlt
      have p3 : (i : Int) < ((T + 1 : Nat) : Int) := by omega
      have p4 : (i : Int) < (T : Int) + 1 := by omega
      have p5 : decide ((i : Int) < (T : Int) + 1) = true := decide_eq_true p4
      have xi : IntKind.i64.wrap ((i : Int) + 1) = (i : Int) + 1 := IntWalk.i64_in _ (by omega)
      have HS := Lib.hid hs
      have HB := Lib.hid hB
      have HOM := Lib.hid hom
      clear hs hB hom
      go_wp2_with fail
      refine (nowhere_calls _).mono ?_
      rintro e w5 ⟨rfl, hb5⟩
      have hs5 := HS.out.below hb5
      have hB5 := HB.out.trans (hb5.mono HB.out.size)
      obtain ⟨c0, c1⟩ := hs5.cell i (by omega)
      have f0 := hs5.fr (i * 2); have f1 := hs5.fr (i * 2 + 1)
      have HS2 := Lib.hid (hs5.set i (by omega) (-1) (-1))
      have HB4 := Lib.hid (below_set (below_set hB5 (show W.heap.size ≤ R from hRW) (i * 2) (.int .i64 (-1))) (show W.heap.size ≤ R from hRW) (i * 2 + 1) (.int .i64 (-1)))
      clear hs5 hB5 hb5 HS HB
      go_wp2_with fail
      go_roundw
      case rel =>
        refine ⟨i + 1, by omega, by simp, ⟨o.set i (-1, -1), by rw [List.length_set]; exact hol, fun x hx => ?_, HS2.out⟩, HB4.out⟩
        by_cases he : i = x
        · subst he; rw [List.getElem?_set_self (by omega)]
        · rw [List.getElem?_set_ne he]; exact HOM.out x (by omega)
      case measure => simp [intOf]; omega
    · obtain rfl : i = T + 1 := by omega
      have p1 : decide ((T : Int) + 1 < ((T + 1 : Nat) : Int)) = false := by rw [decide_eq_false_iff_not]; omega
      have ho := all_minus hol hom
      rw [← HS0.out] at ho
      clear hol hom
      subst ho
      have HS := Lib.hid hs
      have HB := Lib.hid hB
      clear hs hB
      go_wp2_with fail
      refine (HGI.out _ HB.out).mono ?_
      rintro e w5 ⟨G, rfl, hG, hrg, hb5⟩
      have HS5 := Lib.hid (HS.out.below hb5)
      have HG5 := Lib.hid hrg
      have HB5 := Lib.hid (HB.out.trans (hb5.mono HB.out.size))
      have hRG : R < G := Nat.lt_of_lt_of_le HS.out.lt hG
      have HWG := Lib.hid (show W.heap.size ≤ G from Nat.le_trans HB.out.size hG)
      clear hrg hb5 hG HS HB HGI
      go_wp2_with fail
      go_loopw [35] (fun vi wq => ∃ i : Nat, i ≤ t.length ∧ vi = .int .i64 i ∧ SpsAt (SS i) R wq ∧ RowG l.length G (gIn l l.length) wq ∧ Below W.heap.size W wq) (fun vi _ => t.length - (intOf vi).toNat)
      case atStart => exact ⟨0, Nat.zero_le _, rfl, HS5.out, HG5.out, HB5.out⟩
      case round =>
        obtain ⟨i, hi, rfl, hs, hgr, hB⟩ := hrel
        clear HS5 HG5 HB5 p1
        by_cases hlt : i < t.length
        · have p2 : decide (i < t.length) = true := decide_eq_true hlt
          have p3 : decide ((i : Int) < (t.length : Int)) = true := by rw [decide_eq_true_iff]; omega
          have p4 : (i : Int) < (t.length : Int) := by omega
          have xi : IntKind.i64.wrap ((i : Int) + 1) = (i : Int) + 1 := IntWalk.i64_in _ (by omega)
          obtain ⟨g, off, rfl, hg, hc⟩ := HE.out (by rintro rfl; simp at hlt)
          have dd := fun (j : Nat) (hj : j < 4) => (hB.cell (p := ⟨g, off + i * 4 + j, none⟩) hg).trans (hc i hlt j hj)
          have hst := HS1.out i hlt
          have hol := HLEN.out i
          generalize t[i] = x at *
          obtain ⟨xd, xn, xf, xt⟩ := x
          simp only at hst
          have d0 := dd 0 (by decide); have d1 := dd 1 (by decide); have d2 := dd 2 (by decide); have d3 := dd 3 (by decide)
          simp only [enA, List.getElem?_toArray, List.getElem?_cons_zero, List.getElem?_cons_succ, Nat.add_zero] at d0 d1 d2 d3
          generalize SS i = o at *
          have hRwr := hs.lt
          have bE0 := Blk.new wr (enI xd xn xf xt) 83
          have hba : Below wr.heap.size wr (wr.alloc (.cells (enI xd xn xf xt) 83)) := (Below.refl _ _).alloc (Nat.le_refl _) _
          have hs1 := hs.below hba
          have hg1 := hgr.below hba
          have hB1 := hB.trans (hba.mono hB.size)
          clear dd hc hs hgr hB hba
          go_upto_region 13 with fail
          clear d0 d1 d2 d3
          generalize wr.alloc (.cells (enI xd xn xf xt) 83) = w6 at *
          generalize wr.heap.size = E0 at *
          have t0 := bE0.cell 0; have t1 := bE0.cell 1; have t2 := bE0.cell 2; have t3 := bE0.cell 3
          simp only [List.getElem?_toArray, List.getElem?_cons_zero, List.getElem?_cons_succ] at t0 t1 t2 t3
          have hba : Below w6.heap.size w6 (w6.alloc (.cells (spC xf xt) 25)) := (Below.refl _ _).alloc (Nat.le_refl _) _
          have bS := Blk.new w6 (spC xf xt) 25
          have bE := bE0.below hba bE0.lt
          have HS := Lib.hid (hs1.below hba)
          have HG := Lib.hid (hg1.below hba)
          have HB := Lib.hid (hB1.trans (hba.mono hB1.size))
          have hRE : R ≠ w6.heap.size := by have := hs1.lt; omega
          have hRE0 : R ≠ E0 := by omega
          have hNL := HN.out
          obtain ⟨o1, ho1⟩ : ∃ o1, o1 = (if i = 0 then o.set 0 (xf, xt) else o) := ⟨_, rfl⟩
          rw [← ho1] at hst
          have hol1 : o1.length = T + 1 := by rw [ho1]; split <;> simp [hol]
          clear hs1 hg1 hB1 hba bE0
          go_upto_region 14 with fail
          clear t0 t1 t2 t3
          generalize w6.alloc (.cells (spC xf xt) 25) = w7 at *
          generalize w6.heap.size = S0 at *
          obtain ⟨z, hz⟩ : ∃ z, ((i : Int) == 0) = z := ⟨_, rfl⟩
          have hz2 : (i == 0) = z := by rw [← hz, Bool.eq_iff_iff]; simp
          have hz3 : decide (i = 0) = z := by rw [← hz, Bool.eq_iff_iff]; simp
          have hz4 : decide ((i : Int) = 0) = z := by rw [← hz, Bool.eq_iff_iff]; simp
          go_upto_if 46 with fail
          go_cut [] from 47 to 49 (fun wx => SpsAt o1 R wx ∧ RowG l.length G (gIn l l.length) wx ∧ Below W.heap.size W wx ∧ Blk wx E0 (enI xd xn xf xt) 83 ∧ Blk wx S0 (spC xf xt) 25)
          case first =>
            have v0 := bS.cell 0; have v1 := bS.cell 1
            simp only [List.getElem?_toArray, List.getElem?_cons_zero, List.getElem?_cons_succ] at v0 v1
            cases z
            case true =>
              have h0 : i = 0 := of_decide_eq_true hz3
              obtain ⟨c0, c1⟩ := HS.out.cell 0 (by omega)
              have f0 := HS.out.fr 0; have f1 := HS.out.fr 1
              simp only [Nat.zero_mul, Nat.zero_add] at c0 c1
              have hs2 := HS.out.set 0 (by omega) xf xt
              simp only [Nat.zero_mul, Nat.zero_add] at hs2
              have HS2 := Lib.hid hs2
              have HG2 := Lib.hid ((HG.out.other hRG 0 (.int .i64 xf)).other hRG 1 (.int .i64 xt))
              have HB2 := Lib.hid (below_set (below_set HB.out (show W.heap.size ≤ R from hRW) 0 (.int .i64 xf)) (show W.heap.size ≤ R from hRW) 1 (.int .i64 xt))
              have HE2 := Lib.hid ((bE.other (Ne.symm hRE0) 0 (.int .i64 xf)).other (Ne.symm hRE0) 1 (.int .i64 xt))
              have HV2 := Lib.hid ((bS.other (Ne.symm hRE) 0 (.int .i64 xf)).other (Ne.symm hRE) 1 (.int .i64 xt))
              have HO1 := Lib.hid (show o1 = o.set 0 (xf, xt) by rw [ho1, if_pos h0])
              clear hs2 hz hz2 hz3 hz4 HS HG HB h0 ho1 hst
              go_wp2_with fail
              go_meet
              exact ⟨by rw [HO1.out]; exact HS2.out, HG2.out, HB2.out, HE2.out, HV2.out⟩
            case false =>
              have h0 : ¬ i = 0 := of_decide_eq_false hz3
              have HO1 := Lib.hid (show o1 = o by rw [ho1, if_neg h0])
              clear hz hz2 hz3 hz4 h0 ho1 hst
              go_wp2_with fail
              go_meet
              exact ⟨by rw [HO1.out]; exact HS.out, HG.out, HB.out, bE, bS⟩
          case rest =>
          obtain ⟨hs2, hg2, hB2, bE2, bS2⟩ := hcut
          clear hz hz2 hz3 hz4 HS HG HB ho1 bE bS hol
          have t1 := bE2.cell 1
          simp only [List.getElem?_toArray, List.getElem?_cons_zero, List.getElem?_cons_succ] at t1
          by_cases hq : 0 ≤ xn ∧ xn < l.length
          case neg =>
            have hsk : spanS l o1 ⟨xd, xn, xf, xt⟩ = o1 := if_neg hq
            rw [hsk] at hst
            have HST := Lib.hid hst
            have HS := Lib.hid hs2
            have HG := Lib.hid hg2
            have HB := Lib.hid hB2
            clear hs2 hg2 hB2 bE2 bS2 hst hsk
            rcases Int.lt_or_le xn 0 with h0 | h0
            · have q1 : decide (xn < 0) = true := decide_eq_true h0
              clear hq h0
              go_wp2_with fail
              go_roundw
              case rel => exact ⟨i + 1, by omega, by simp, by rw [HST.out]; exact HS.out, HG.out, HB.out⟩
              case measure => simp [intOf]; omega
            · have q1 : decide (xn < 0) = false := by rw [decide_eq_false_iff_not]; omega
              have q2 : decide ((l.length : Int) ≤ xn) = true := by rw [decide_eq_true_iff]; omega
              clear hq h0
              go_wp2_with fail
              go_roundw
              case rel => exact ⟨i + 1, by omega, by simp, by rw [HST.out]; exact HS.out, HG.out, HB.out⟩
              case measure => simp [intOf]; omega
          case pos =>
          obtain ⟨q, rfl⟩ : ∃ q : Nat, xn = q := ⟨xn.toNat, by omega⟩
          have hql : q < l.length := by omega
          have q1 : decide ((q : Int) < 0) = false := by rw [decide_eq_false_iff_not]; omega
          have q2 : decide ((l.length : Int) ≤ (q : Int)) = false := by rw [decide_eq_false_iff_not]; omega
          have q3 : decide (l.length ≤ q) = false := by rw [decide_eq_false_iff_not]; omega
          have q4 : (q : Int) < (l.length : Int) := by omega
          have q5 : decide (q < l.length) = true := decide_eq_true hql
          obtain ⟨gl, ol, rfl, hgl, hcl⟩ := HN.out (by rintro rfl; simp at hql)
          have cc := fun (j : Nat) (hj : j < 8) => (hB2.cell (p := ⟨gl, ol + q * 8 + j, none⟩) hgl).trans (hcl q hql j hj)
          rw [HSP.out o1 xd xf xt q hql] at hst
          have hgq := HGG.out q hql
          have hgn := HGN.out q hql
          generalize l[q] = nd at *
          obtain ⟨kk, ka, kb, km, ks⟩ := nd
          simp only at hst hgq hgn
          have c0 := cc 0 (by decide); have c1 := cc 1 (by decide); have c2 := cc 2 (by decide); have c3 := cc 3 (by decide); have c4 := cc 4 (by decide); have c5 := cc 5 (by decide); have c6 := cc 6 (by decide); have c7 := cc 7 (by decide)
          simp only [ndA, List.getElem?_toArray, List.getElem?_cons_zero, List.getElem?_cons_succ, Nat.add_zero] at c0 c1 c2 c3 c4 c5 c6 c7
          have hRx := hs2.lt
          have bN0 := Blk.new wc (ndI kk ka kb km ks) 60
          have hba : Below wc.heap.size wc (wc.alloc (.cells (ndI kk ka kb km ks) 60)) := (Below.refl _ _).alloc (Nat.le_refl _) _
          have HS := Lib.hid (hs2.below hba)
          have HG := Lib.hid (hg2.below hba)
          have HB := Lib.hid (hB2.trans (hba.mono hB2.size))
          have bE3 := bE2.below hba bE2.lt
          have bS3 := bS2.below hba bS2.lt
          have hRN : R ≠ wc.heap.size := by omega
          clear hs2 hg2 hB2 hba cc hcl bE2 bS2
          go_upto_region 18 with fail
          clear c0 c1 c2 c3 c4 c5 c6 c7 t1
          generalize wc.alloc (.cells (ndI kk ka kb km ks) 60) = w8 at *
          generalize wc.heap.size = N0 at *
          have n0 := bN0.cell 0; have n3 := bN0.cell 3
          have t1 := bE3.cell 1
          simp only [List.getElem?_toArray, List.getElem?_cons_zero, List.getElem?_cons_succ] at n0 n3 t1
          obtain ⟨o2, ho2⟩ : ∃ o2, o2 = setG kk km o1 (xf, xt) := ⟨_, rfl⟩
          rw [← ho2] at hst
          have hol2 : o2.length = T + 1 := by rw [ho2]; unfold setG; split <;> simp [hol1]
          obtain ⟨z, hz⟩ : ∃ z, (kk == 7) = z := ⟨_, rfl⟩
          have hz3 : decide (kk = 7) = z := by rw [← hz, Bool.eq_iff_iff]; simp
          go_upto_if 67 with fail
          go_cut [] from 68 to 72 (fun wx => SpsAt o2 R wx ∧ RowG l.length G (gIn l l.length) wx ∧ Below W.heap.size W wx ∧ Blk wx E0 (enI xd q xf xt) 83)
          case first =>
            have v0 := bS3.cell 0; have v1 := bS3.cell 1
            simp only [List.getElem?_toArray, List.getElem?_cons_zero, List.getElem?_cons_succ] at v0 v1
            cases z
            case true =>
              have h0 : kk = 7 := of_decide_eq_true hz3
              obtain ⟨m, rfl, hm1, hmT⟩ := hgn h0
              have hmI : (m : Int) < (T : Int) + 1 := by omega
              have hmd : decide (m < T + 1) = true := by rw [decide_eq_true_iff]; omega
              obtain ⟨c0, c1⟩ := HS.out.cell m (by omega)
              have f0 := HS.out.fr (m * 2); have f1 := HS.out.fr (m * 2 + 1)
              have HS2 := Lib.hid (HS.out.set m (by omega) xf xt)
              have HG2 := Lib.hid ((HG.out.other hRG (m * 2) (.int .i64 xf)).other hRG (m * 2 + 1) (.int .i64 xt))
              have HB2 := Lib.hid (below_set (below_set HB.out (show W.heap.size ≤ R from hRW) (m * 2) (.int .i64 xf)) (show W.heap.size ≤ R from hRW) (m * 2 + 1) (.int .i64 xt))
              have HE2 := Lib.hid ((bE3.other (Ne.symm hRE0) (m * 2) (.int .i64 xf)).other (Ne.symm hRE0) (m * 2 + 1) (.int .i64 xt))
              have HO2 := Lib.hid (show o2 = o1.set m (xf, xt) by rw [ho2]; unfold setG; rw [if_pos h0, Int.toNat_natCast])
              clear hz hz3 HS HG HB h0 ho2 hst hgq
              go_wp2_with fail
              go_meet
              exact ⟨by rw [HO2.out]; exact HS2.out, HG2.out, HB2.out, HE2.out⟩
            case false =>
              have h0 : ¬ kk = 7 := of_decide_eq_false hz3
              have HO2 := Lib.hid (show o2 = o1 by rw [ho2]; unfold setG; rw [if_neg h0])
              clear hz hz3 h0 ho2 hst hgq
              go_wp2_with fail
              go_meet
              exact ⟨by rw [HO2.out]; exact HS.out, HG.out, HB.out, bE3⟩
          case rest =>
          obtain ⟨hs4, hg4, hB4, bE4⟩ := hcut
          clear hz hz3 HS HG HB ho2 bE3 bS3 bN0 n0 n3 t1 hgn hol1
          have t1 := bE4.cell 1
          simp only [List.getElem?_toArray, List.getElem?_cons_zero, List.getElem?_cons_succ] at t1
          obtain ⟨gb, gc, cG, _⟩ := hg4.cell q hql
          rw [hgq, List.length_map] at cG
          have HGQ := Lib.hid (show ∀ n ∈ grG l kk q, 1 ≤ n ∧ n ≤ T from fun n hn => by
            unfold grG at hn
            split at hn
            · exact HGS.out q n hn
            · cases hn)
          have HGI2 := Lib.hid (show ∀ w', RowG l.length G (gIn l l.length) w' → w'.cell? ⟨G, q, none⟩ = some (.slice gb (grG l kk q).length gc) → IntsB (G + 1) ((grG l kk q).map fun n : Nat => (n : Int)) gb w' from fun w' h1 h2 => by
            obtain ⟨b', c', e1, e2⟩ := h1.cell q hql
            rw [hgq, List.length_map] at e1
            rw [h2] at e1
            simp only [Option.some.injEq, Value.slice.injEq, true_and] at e1
            rw [hgq] at e2
            rw [e1.1]
            exact e2)
          have hg4i := HGI2.out _ hg4 cG
          have hGl : (grG l kk q).length ≤ 9 := by
            unfold grG
            split
            · exact groups_len l q
            · exact Nat.zero_le _
          generalize grG l kk q = Gl at *
          have HST := Lib.hid hst
          have HS4 := Lib.hid hs4
          have HG4 := Lib.hid hg4
          have HI4 := Lib.hid hg4i
          have HB4 := Lib.hid hB4
          clear hst hs4 hg4 hB4 hg4i bE4 hgq HGI2
          go_wp2_with fail
          go_loopw [79] (fun vj wq => ∃ j : Nat, j ≤ Gl.length ∧ vj = .int .i64 j ∧ SpsAt (offS o2 (Gl.take j)) R wq ∧ RowG l.length G (gIn l l.length) wq ∧ IntsB (G + 1) (Gl.map fun n : Nat => (n : Int)) gb wq ∧ Below W.heap.size W wq) (fun vj _ => Gl.length - (intOf vj).toNat)
          case atStart => exact ⟨0, Nat.zero_le _, rfl, HS4.out, HG4.out, HI4.out, HB4.out⟩
          case round =>
            obtain ⟨j, hj, rfl, hs, hgr, hG, hB⟩ := hrel
            clear HS4 HG4 HI4 HB4
            by_cases hjl : j < Gl.length
            · have j2 : decide (j < Gl.length) = true := decide_eq_true hjl
              have j3 : decide ((j : Int) < (Gl.length : Int)) = true := by rw [decide_eq_true_iff]; omega
              have j4 : (j : Int) < (Gl.length : Int) := by omega
              have xj : IntKind.i64.wrap ((j : Int) + 1) = (j : Int) + 1 := IntWalk.i64_in _ (by omega)
              obtain ⟨gg, og, rfl, hgb, hgs, hgc⟩ := hG (by intro e; rw [List.map_eq_nil_iff] at e; rw [e] at hjl; simp at hjl)
              have cg := hgc j (by rw [List.length_map]; exact hjl)
              rw [List.getElem_map] at cg
              have hn := HGQ.out Gl[j] (List.getElem_mem hjl)
              have hol3 : (offS o2 (Gl.take j)).length = T + 1 := by rw [off_len]; exact hol2
              have hsn : offS o2 (Gl.take (j + 1)) = (offS o2 (Gl.take j)).set Gl[j] (-1, -1) := by rw [List.take_succ_eq_append_getElem hjl, off_snoc]
              generalize Gl[j] = gn at *
              have hmI : (gn : Int) < (T : Int) + 1 := by omega
              have hmd : decide (gn < T + 1) = true := by rw [decide_eq_true_iff]; omega
              have HS := Lib.hid hs
              have HGR := Lib.hid hgr
              have HGI3 := Lib.hid hG
              have HB := Lib.hid hB
              have HSN := Lib.hid hsn
              clear hs hgr hG hB hsn hgc
              go_wp2_with fail
              refine (nowhere_calls _).mono ?_
              rintro e w9 ⟨rfl, hb9⟩
              have hs9 := HS.out.below hb9
              have hB9 := HB.out.trans (hb9.mono HB.out.size)
              obtain ⟨c0, c1⟩ := hs9.cell gn (by omega)
              have f0 := hs9.fr (gn * 2); have f1 := hs9.fr (gn * 2 + 1)
              have HS5 := Lib.hid (hs9.set gn (by omega) (-1) (-1))
              have HGR5 := Lib.hid (((HGR.out.below hb9).other hRG (gn * 2) (.int .i64 (-1))).other hRG (gn * 2 + 1) (.int .i64 (-1)))
              have HG5 := Lib.hid (((HGI3.out.below hb9).set (show R < G + 1 by omega) (gn * 2) (.int .i64 (-1))).set (show R < G + 1 by omega) (gn * 2 + 1) (.int .i64 (-1)))
              have HB5 := Lib.hid (below_set (below_set hB9 (show W.heap.size ≤ R from hRW) (gn * 2) (.int .i64 (-1))) (show W.heap.size ≤ R from hRW) (gn * 2 + 1) (.int .i64 (-1)))
              clear hs9 hB9 hb9 HS HGR HGI3 HB
              go_wp2_with fail
              go_roundw
              case rel => exact ⟨j + 1, by omega, by simp, by rw [HSN.out]; exact HS5.out, HGR5.out, HG5.out, HB5.out⟩
              case measure => simp [intOf]; omega
            · obtain rfl : j = Gl.length := by omega
              rw [List.take_length] at hs
              have HS5 := Lib.hid hs
              have HGR5 := Lib.hid hgr
              have HB5 := Lib.hid hB
              clear hs hgr hG hB
              go_wp2_with fail
              go_roundw
              case rel =>
                first
                  | exact ⟨i + 1, by omega, by simp, by rw [HST.out]; exact HS5.out, HGR5.out, HB5.out⟩
                  | (iterate 69 apply Exists.intro
                     exact ⟨⟨i + 1, by omega, by simp, by rw [HST.out]; exact HS5.out, HGR5.out, HB5.out⟩, rfl⟩)
              case measure => simp [intOf]; omega
        · obtain rfl : i = t.length := by omega
          have p2 : decide ((t.length : Int) < (t.length : Int)) = false := by rw [decide_eq_false_iff_not]; omega
          rw [← HX.out] at hs
          have HSL := Lib.hid (show (spansT l t).length = T + 1 by rw [HX.out]; exact HLEN.out _)
          have HS := Lib.hid hs
          have HB := Lib.hid hB
          clear hs hB
          go_wp2_with fail
          go_ret
          exact ⟨some ⟨R, 0, none⟩, T + 1, by rw [HSL.out] <;> rfl, HS.out.at, HB.out, fun _ => ⟨R, rfl, hRW, HS.out⟩⟩
theorem spansD_calls (l : List NdN) (hl : l.length ≤ 1000) (t : List EnN) (ht : t.length ≤ 1000) (la ta : Option Addr) (lc tc : Nat) (W : World) (hN : NodesAt l la W) (hE : EntsAt t ta W) :
    Calls Tryd.prog 37 #[.slice la l.length lc, .slice ta t.length tc] W fun e W' => ∃ b c, e = .returned (.slice b (spansT l t).length c) ∧ SpnAt (spansT l t) b W' ∧ Below W.heap.size W W' := by
  refine (spansX_calls l hl t ht la ta lc tc W hN hE).mono ?_
  rintro e W' ⟨b, c, h1, h2, h3, _⟩
  exact ⟨b, c, h1, h2, h3⟩
end Go.Proofs.YtdpkhliojbeglaaDoor

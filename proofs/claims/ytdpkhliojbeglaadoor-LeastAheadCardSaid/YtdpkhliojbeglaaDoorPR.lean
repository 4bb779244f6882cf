/- Texts put together: Iq. -/
import Derived.Test.YtdpkhliojbeglaaDoorPQ
import Derived.Laws.AppendOwn
/- The document's terms: Groups, Top. Stage 10. -/
namespace Go.Proofs.YtdpkhliojbeglaaDoor
open Go.RowKit BS

theorem infoInt10 : (Tryd.prog.info? 3).map (fun i => (i.zero, i.size, i.bytes)) = some (some (.int .i64 0), 1, 8) := by kernel_rfl
/-- Is a Group of number n among the nodes from lo on, ahead of i? -/
def anyG (l : List NdN) (lo n i : Nat) : Bool := (List.range i).any fun j => decide (lo ≤ j) && (match l[j]? with | some x => decide (x.kind = 7 ∧ x.m = (n : Int)) | none => false)
theorem anyG_lo (l : List NdN) (lo n : Nat) : anyG l lo n lo = false := by
  unfold anyG
  rw [List.any_eq_false]
  intro j hj
  have := List.mem_range.1 hj
  rw [decide_eq_false (by omega), Bool.false_and]
  exact Bool.false_ne_true
theorem anyG_step (l : List NdN) (lo n i : Nat) (h : lo ≤ i) (hi : i < l.length) : anyG l lo n (i + 1) = (anyG l lo n i || ((l[i].kind == 7) && (l[i].m == (n : Int)))) := by
  unfold anyG
  rw [List.range_succ, List.any_append]
  congr 1
  simp only [List.any_cons, List.any_nil, Bool.or_false, List.getElem?_eq_getElem hi]
  rw [decide_eq_true h, Bool.true_and, Bool.decide_and]
  rfl
theorem hasG_any (l : List NdN) (lo q n : Nat) : hasG l lo q n = anyG l lo n (q + 1) := rfl
def gK (l : List NdN) (lo q k : Nat) : List Nat := ((List.range k).map (· + 1)).filter (hasG l lo q)
theorem gK_nine (l : List NdN) (lo q : Nat) : gK l lo q 9 = grpL l lo q := rfl
theorem gK_step (l : List NdN) (lo q k : Nat) : gK l lo q (k + 1) = gK l lo q k ++ (if hasG l lo q (k + 1) = true then [k + 1] else []) := by
  unfold gK
  rw [List.range_succ, List.map_append, List.filter_append]
  congr 1
  show List.filter (hasG l lo q) [k + 1] = _
  cases hh : hasG l lo q (k + 1) with
  | true => rw [List.filter_cons_of_pos hh]; rfl
  | false => rw [List.filter_cons_of_neg (by rw [hh]; exact Bool.false_ne_true)]; rfl
theorem gK_len (l : List NdN) (lo q k : Nat) : (gK l lo q k).length ≤ k := by
  unfold gK
  refine Nat.le_trans (List.length_filter_le _ _) ?_
  simp
def gV (L : List Nat) : List Value := L.map fun n : Nat => Value.int .i64 (n : Int)
theorem gV_len (L : List Nat) : (gV L).length = L.length := by simp [gV]
theorem ints_of_owns {base : Nat} {v : Value} {L : List Nat} {W : World} (h : W.ownsRow base 3 1 v L.length (gV L)) : ∃ b c, v = .slice b L.length c ∧ IntsB base (L.map fun n : Nat => (n : Int)) b W := by
  rcases h.2 with ⟨hv, h0⟩ | ⟨g, cap, cur, hv, hb, hg, _⟩
  · have hL : L = [] := List.length_eq_zero_iff.1 h0
    subst hL
    exact ⟨none, 0, hv, fun hne => absurd rfl hne⟩
  · subst hv
    refine ⟨some ⟨g, 0, none⟩, cap, rfl, fun _ => ⟨g, 0, rfl, hb, (Array.getElem?_eq_some_iff.1 hg).1, fun i hi => ?_⟩⟩
    rw [List.length_map] at hi
    rw [Nat.zero_add, World.ownsRow.cellAt h i (by omega)]
    simp [gV, hi]
/-- What Groups tells. -/
def groupsL (l : List NdN) (q : Int) : List Int := (groupsT l q).map fun n : Nat => (n : Int)

set_option maxRecDepth 100000 in
set_option maxHeartbeats 16000000 in
theorem tGroups_calls (l : List NdN) (hl : l.length ≤ 1000) (q : Int) (a : Option Addr) (cap : Nat) (w : World) (h : NodesAt l a w) :
    Calls Tryd.prog 57 #[.slice a l.length cap, .int .i64 q] w fun e w' => ∃ b c, e = .returned (.slice b (groupsL l q).length c) ∧ IntsB w.heap.size (groupsL l q) b w' ∧ Below w.heap.size w w' := by
  have HL := Lib.hid (tLow_calls l hl a cap w h)
  have HN := Lib.hid h
  clear h
  have hnone : (¬ (rightT l = true ∧ 0 ≤ q ∧ q < l.length)) → groupsL l q = [] := fun hn => by
    unfold groupsL groupsT
    rw [if_neg hn]; rfl
  by_cases hq0 : q < 0
  · have qd : decide (q < 0) = true := decide_eq_true hq0
    rw [hnone (by omega)]
    clear hnone hq0
    generalize (lowsT l).length = n at *
    go_enter Tryd.func57, Tryd.ntmps57
    go_wp2_with fail
    refine HL.out.mono ?_
    rintro e w1 ⟨b, c, rfl, _, hb⟩
    clear HL
    go_wp2_with fail
    go_ret
    exact ⟨none, 0, rfl, fun h => absurd rfl h, hb⟩
  have qd : decide (q < 0) = false := decide_eq_false hq0
  obtain ⟨Q, rfl⟩ : ∃ Q : Nat, q = Q := ⟨q.toNat, by omega⟩
  by_cases hlen : (lowsT l).length ≤ Q
  · have qd2 : decide (((lowsT l).length : Int) ≤ (Q : Int)) = true := by rw [decide_eq_true_iff]; omega
    have qd3 : decide ((lowsT l).length ≤ Q) = true := decide_eq_true hlen
    rw [hnone (fun h => by
      have := lowsT_is l h.1
      have h2 := congrArg List.length this
      rw [List.length_map, List.length_range] at h2
      omega)]
    clear hnone hq0
    generalize (lowsT l).length = n at *
    go_enter Tryd.func57, Tryd.ntmps57
    go_wp2_with fail
    refine HL.out.mono ?_
    rintro e w1 ⟨b, c, rfl, _, hb⟩
    clear HL
    go_wp2_with fail
    go_ret
    exact ⟨none, 0, rfl, fun h => absurd rfl h, hb⟩
  have hr : rightT l = true := by
    cases hr : rightT l with
    | true => rfl
    | false => rw [lowsT_not l hr] at hlen; simp at hlen
  have hlw := lowsT_is l hr
  have hll : (lowsT l).length = l.length := by rw [hlw]; simp
  have hQ : Q < l.length := by omega
  have hge : groupsL l Q = (grpL l (lowV l Q) Q).map (fun n : Nat => (n : Int)) := by
    unfold groupsL groupsT
    rw [if_pos ⟨hr, by omega, by omega⟩, Int.toNat_natCast, lowT_V l (rightT_q l hr) Q hQ, Int.toNat_natCast]
  have hle := lowV_le l Q
  rw [hll] at HL
  have HLW := Lib.hid hlw
  have HLL := Lib.hid hll
  have HGE := Lib.hid hge
  have qd2 : decide ((l.length : Int) ≤ (Q : Int)) = false := by rw [decide_eq_false_iff_not]; omega
  have qd3 : decide (l.length ≤ Q) = false := decide_eq_false (by omega)
  have hQI : (Q : Int) < (l.length : Int) := by omega
  have hQd : decide (Q < l.length) = true := decide_eq_true hQ
  obtain ⟨i0, hinf, hza, hzb, hzc⟩ := info_parts infoInt10
  clear hnone hlen hr hlw hll hge hq0
  go_enter Tryd.func57, Tryd.ntmps57
  go_wp2_with fail
  refine HL.out.mono ?_
  rintro e w1 ⟨b, c, rfl, hib, hb⟩
  obtain ⟨gl, ol, rfl, _, hgl, hcl⟩ := hib (by intro h0; have := HLL.out; rw [h0] at this; simp at this; omega)
  have HCL := Lib.hid (show ∀ W, Below w1.heap.size w1 W → W.cell? ⟨gl, ol + Q, none⟩ = some (.int .i64 (lowV l Q : Nat)) from fun W hW => by
    have h1 := hcl Q (by rw [HLL.out]; exact hQ)
    refine (hW.cell (p := ⟨gl, ol + Q, none⟩) hgl).trans (h1.trans ?_)
    simp only [HLW.out, List.getElem_map, List.getElem_range])
  have HCE := Lib.hid (fun W (hW : Below w1.heap.size w1 W) => HN.out.below (hb.trans (hW.mono hb.size)))
  have HBW := Lib.hid hb
  have hz1 := hb.size
  clear HL hib hcl hb HLW HLL
  generalize lowV l Q = lo at *
  go_upto_region 6 with fail
  go_loopw [6, 7] (fun vo vn wr => ∃ k : Nat, k ≤ 9 ∧ vn = .int .i64 ((k : Int) + 1) ∧ wr.ownsRow w1.heap.size 3 1 vo (gK l lo Q k).length (gV (gK l lo Q k)) ∧ Below w1.heap.size w1 wr) (fun _ vn _ => 10 - (intOf vn).toNat)
  case atStart => exact ⟨0, by omega, rfl, World.ownsRow_nil _ _ _ _, Below.refl _ _⟩
  case round =>
    obtain ⟨k, hk, rfl, hown, hB⟩ := hrel
    have HOW := Lib.hid hown
    have HB := Lib.hid hB
    have hgk := gK_len l lo Q k
    clear hown hB
    by_cases hk9 : k < 9
    · have hk9d : decide ((k : Int) + 1 ≤ 9) = true := by rw [decide_eq_true_iff]; omega
      have xk : IntKind.i64.wrap ((k : Int) + 1 + 1) = ((k + 1 : Nat) : Int) + 1 := by rw [IntWalk.i64_in _ (by omega)]; omega
      have cl := HCL.out _ HB.out
      obtain ⟨g, off, rfl, hg, hcc⟩ := HCE.out _ HB.out (by rintro rfl; simp at hQ)
      have HCC := Lib.hid hcc
      have hst0 := anyG_lo l lo (k + 1)
      have HST0 := Lib.hid hst0
      have HSTEP := Lib.hid (anyG_step l lo (k + 1))
      have HHG := Lib.hid (hasG_any l lo Q (k + 1))
      have HGK := Lib.hid (gK_step l lo Q k)
      clear hcc hst0
      go_upto_region 10 with fail
      clear cl
      go_loop [8, 9] (fun vb vi => ∃ i : Nat, lo ≤ i ∧ i ≤ Q + 1 ∧ vi = .int .i64 i ∧ vb = .bool (anyG l lo (k + 1) i)) (fun _ vi => Q + 1 - (intOf vi).toNat)
      case atStart => exact ⟨lo, Nat.le_refl _, by omega, rfl, by rw [HST0.out]⟩
      case round =>
        obtain ⟨i, hi1, hi2, rfl, rfl⟩ := hrel
        by_cases hiQ : i ≤ Q
        · have hid : decide ((i : Int) ≤ (Q : Int)) = true := by rw [decide_eq_true_iff]; omega
          have hil : i < l.length := by omega
          have hiI : (i : Int) < (l.length : Int) := by omega
          have hild : decide (i < l.length) = true := decide_eq_true hil
          have xi : IntKind.i64.wrap ((i : Int) + 1) = (i : Int) + 1 := IntWalk.i64_in _ (by omega)
          have c0 := HCC.out i hil 0 (by decide)
          have c3 := HCC.out i hil 3 (by decide)
          have hs := HSTEP.out i hi1 hil
          generalize l[i] = x at *
          simp only [ndA, List.getElem?_toArray, List.getElem?_cons_zero, List.getElem?_cons_succ, Nat.add_zero] at c0 c3
          have HS := Lib.hid hs
          clear hs
          generalize anyG l lo (k + 1) i = b at *
          cases b with
          | true =>
            rw [Bool.true_or] at HS
            go_wp2_with fail
            go_round
            case rel => exact ⟨i + 1, by omega, by omega, by simp, by rw [HS.out]⟩
            case measure => simp [intOf]; omega
          | false =>
            rw [Bool.false_or] at HS
            by_cases z7 : x.kind = 7
            · have qz : (x.kind == 7) = true := by rw [z7]; rfl
              rw [qz, Bool.true_and] at HS
              by_cases zm : x.m = (k : Int) + 1
              · have qm : (x.m == (k : Int) + 1) = true := by rw [zm]; simp
                have HS2 := Lib.hid (show anyG l lo (k + 1) (i + 1) = true by rw [HS.out, zm, show ((k + 1 : Nat) : Int) = (k : Int) + 1 from rfl]; simp)
                clear z7 zm
                go_wp2_with fail
                go_round
                case rel => exact ⟨i + 1, by omega, by omega, by simp, by rw [HS2.out]⟩
                case measure => simp [intOf]; omega
              · have qm : (x.m == (k : Int) + 1) = false := by rw [beq_eq_false_iff_ne]; exact zm
                have HS2 := Lib.hid (show anyG l lo (k + 1) (i + 1) = false by rw [HS.out, show ((k + 1 : Nat) : Int) = (k : Int) + 1 from rfl]; exact qm)
                clear z7 zm
                go_wp2_with fail
                go_round
                case rel => exact ⟨i + 1, by omega, by omega, by simp, by rw [HS2.out]⟩
                case measure => simp [intOf]; omega
            · have qz : (x.kind == 7) = false := by rw [beq_eq_false_iff_ne]; exact z7
              rw [qz, Bool.false_and] at HS
              clear z7
              go_wp2_with fail
              go_round
              case rel => exact ⟨i + 1, by omega, by omega, by simp, by rw [HS.out]⟩
              case measure => simp [intOf]; omega
        · obtain rfl : i = Q + 1 := by omega
          have hid : decide (((Q + 1 : Nat) : Int) ≤ (Q : Int)) = false := by rw [decide_eq_false_iff_not]; omega
          have hid2 : decide ((Q : Int) + 1 ≤ (Q : Int)) = false := by rw [decide_eq_false_iff_not]; omega
          rw [← HHG.out]
          have hgk2 := HGK.out
          cases hh : hasG l lo Q (k + 1) with
          | false =>
            rw [hh, if_neg Bool.false_ne_true, List.append_nil] at hgk2
            have HE := Lib.hid hgk2
            clear hgk2 hh HSTEP HST0 HHG HGK HCC
            go_wp2_with fail
            go_roundw
            case rel => exact ⟨k + 1, by omega, by simp, by rw [HE.out]; exact HOW.out, HB.out⟩
            case measure => simp [intOf]; omega
          | true =>
            rw [hh, if_pos rfl] at hgk2
            have HE := Lib.hid hgk2
            clear hgk2 hh HSTEP HST0 HHG HGK HCC
            have hbs := HB.out.size
            have BWA : Below w1.heap.size w1 (wr.alloc (.cells #[.int .i64 ((k : Int) + 1)] 3)) := HB.out.alloc hbs _
            go_wp2_with (at_builtin; refine wpList_append_own _ rfl _ _ 54 rfl w1.heap.size 3 i0 (.int .i64 0) 1 8 Tryd.underlying54 hinf hza hzb hzc rfl (by decide) _ (gK l lo Q k).length (gV (gK l lo Q k)) rfl (HOW.out.alloc _) ⟨wr.heap.size, 0, none⟩ 1 1 [.int .i64 ((k : Int) + 1)] rfl rfl (Blk.new wr _ _).newsL (by simp [Value.oneCell']) (by unfold maxLen; omega) (by omega) (by have := BWA.size; exact this) ?_; intro v2 w3 hown2 hgrow2 _)
            have hown3 : w3.ownsRow w1.heap.size 3 1 v2 (gK l lo Q (k + 1)).length (gV (gK l lo Q (k + 1))) := by
              rw [HE.out, List.length_append]
              have e : gV (gK l lo Q k ++ [k + 1]) = gV (gK l lo Q k) ++ [.int .i64 ((k : Int) + 1)] := by simp [gV]
              rw [e]
              exact hown2
            have HO3 := Lib.hid hown3
            have HB3 := Lib.hid (BWA.grown hgrow2 BWA.size (fun b hb => (HOW.out.lt b hb).1))
            clear hown2 hown3 hgrow2 BWA hbs
            go_wp2_with fail
            go_roundw
            case rel => exact ⟨k + 1, by omega, by simp, HO3.out, HB3.out⟩
            case measure => simp [intOf]; omega
    · obtain rfl : k = 9 := by omega
      have hk9d : decide (((9 : Nat) : Int) + 1 ≤ 9) = false := by decide
      obtain ⟨b, c, rfl, hI⟩ := ints_of_owns HOW.out
      rw [gK_nine] at hI ⊢
      have HI := Lib.hid (show IntsB w.heap.size (groupsL l (Q : Int)) b wr from by
        rw [HGE.out]
        intro hne
        obtain ⟨g, o, e, h1, h2, h3⟩ := hI hne
        exact ⟨g, o, e, Nat.le_trans hz1 h1, h2, h3⟩)
      have HGL := Lib.hid (show (groupsL l (Q : Int)).length = (grpL l lo Q).length by rw [HGE.out, List.length_map])
      clear hI HOW hgk
      go_wp2_with fail
      go_ret
      exact ⟨b, c, by rw [HGL.out] <;> rfl, HI.out, HBW.out.trans (HB.out.mono hz1)⟩
theorem groupsT_len (l : List NdN) (q : Int) : (groupsT l q).length ≤ 9 := by
  unfold groupsT
  split
  · exact gK_len l _ _ 9
  · exact Nat.zero_le _
theorem groups_root (l : List NdN) (hr : rightT l = true) : groupsT l ((l.length : Int) - 1) = grpL l 0 (l.length - 1) := by
  have hq := rightT_q l hr
  have hp := hq.pos
  obtain ⟨h1, _, _⟩ := of_decide_eq_true hr
  have hz := (trT_root l _ h1 hp).1 rfl
  unfold groupsT
  rw [if_pos ⟨hr, by omega, by omega⟩, show ((l.length : Int) - 1).toNat = l.length - 1 by omega, lowT_V l hq _ (by omega), hz]
  rfl
set_option maxRecDepth 100000 in
set_option maxHeartbeats 4000000 in
theorem tTop_calls (l : List NdN) (hl : l.length ≤ 1000) (a : Option Addr) (cap : Nat) (w : World) (h : NodesAt l a w) :
    Calls Tryd.prog 56 #[.slice a l.length cap] w fun e w' => e = .returned (.int .i64 (topT l : Nat)) ∧ Below w.heap.size w w' := by
  have HG := Lib.hid (tGroups_calls l hl ((l.length : Int) - 1) a cap w h)
  have xl : IntKind.i64.wrap ((l.length : Int) - 1) = (l.length : Int) - 1 := IntWalk.i64_in _ (by omega)
  clear h
  have hT : topT l = ((groupsT l ((l.length : Int) - 1)).getLast?).getD 0 := by
    unfold topT
    cases hr : rightT l with
    | false =>
      unfold groupsT
      rw [if_neg Bool.false_ne_true, hr, if_neg (fun h => Bool.false_ne_true h.1)]
      rfl
    | true =>
      rw [if_pos rfl, groups_root l hr]
      rfl
  unfold groupsL at HG
  have hg9 := groupsT_len l ((l.length : Int) - 1)
  generalize groupsT l ((l.length : Int) - 1) = G at *
  generalize topT l = T at *
  rw [List.length_map] at HG
  rcases Nat.eq_zero_or_pos G.length with h0 | h0
  · have hG : G = [] := List.length_eq_zero_iff.1 h0
    subst hG
    subst hT
    rw [List.length_nil] at HG
    clear h0
    go_enter Tryd.func56, Tryd.ntmps56
    go_wp2_with fail
    refine HG.out.mono ?_
    rintro e w1 ⟨b, c, rfl, _, hb⟩
    clear HG
    go_wp2_with fail
    go_ret
    exact ⟨rfl, hb⟩
  · have hlt : G.length - 1 < G.length := by omega
    have hT2 : T = G[G.length - 1] := by
      rw [hT, List.getLast?_eq_getElem?, List.getElem?_eq_getElem hlt, Option.getD_some]
    have q0 : ((G.length : Int) == 0) = false := by rw [beq_eq_false_iff_ne]; omega
    have hne : G.map (fun n : Nat => (n : Int)) ≠ [] := by intro h; have := congrArg List.length h; rw [List.length_map, List.length_nil] at this; omega
    have HNE := Lib.hid hne
    have HT2 := Lib.hid hT2
    clear hT hT2 hne
    go_enter Tryd.func56, Tryd.ntmps56
    go_wp2_with fail
    refine HG.out.mono ?_
    rintro e w1 ⟨b, c, rfl, hI, hb⟩
    obtain ⟨g, o, rfl, _, hg, hc⟩ := hI HNE.out
    have ck : w1.cell? ⟨g, o + (G.length - 1), none⟩ = some (.int .i64 (T : Nat)) := by
      rw [hc (G.length - 1) (by rw [List.length_map]; exact hlt), HT2.out]
      simp only [List.getElem_map]
    clear HG hI hc HNE HT2
    generalize hGn : G.length = n at *
    have xn : IntKind.i64.wrap ((n : Int) - 1) = ((n - 1 : Nat) : Int) := by rw [IntWalk.i64_in _ (by omega)]; omega
    have bl' : ((n - 1 : Nat) : Int) < (n : Int) := by omega
    have dl : decide (n - 1 < n) = true := decide_eq_true hlt
    go_wp2_with fail
    go_ret
    exact ⟨rfl, hb⟩
end Go.Proofs.YtdpkhliojbeglaaDoor

/- Texts put together: Iq Oe Ttd. -/
import Derived.Test.YtdpkhliojbeglaaDoorQW
import Derived.Laws.AppendOwn
import Derived.Test.YtdpkhliojbeglaaDoorQT
import Derived.RegionTactic
import Derived.BigRegion
import Derived.Laws.MakeOwn
/- The document's terms: Groups, Top. Stage 10. -/
namespace Go.Proofs.YtdpkhliojbeglaaDoor
open Go.RowKit BS

theorem infoInt10 : (Tryd.prog.info? 3).map (fun i => (i.zero, i.size, i.bytes)) = some (some (.int .i64 0), 1, 8) := by kernel_rfl
/-- Is a Group of number n among the nodes from lo on, ahead of i? -/
def anyG (l : List NdN) (lo n i : Nat) : Bool := (List.range i).any fun j => decide (lo ≤ j) && (match l[j]? with | some x => decide (x.kind = 7 ∧ x.m = (n : Int)) | none => false)
theorem anyG_lo (l : List NdN) (lo n : Nat) : anyG l lo n lo = false := by
  unfold anyG
  rw [List.any_eq_false]
  intro j hj
  have := List.mem_range.1 hj
  rw [decide_eq_false (by omega), Bool.false_and]
  exact Bool.false_ne_true
theorem anyG_step (l : List NdN) (lo n i : Nat) (h : lo ≤ i) (hi : i < l.length) : anyG l lo n (i + 1) = (anyG l lo n i || ((l[i].kind == 7) && (l[i].m == (n : Int)))) := by
  unfold anyG
  rw [List.range_succ, List.any_append]
  congr 1
  simp only [List.any_cons, List.any_nil, Bool.or_false, List.getElem?_eq_getElem hi]
  rw [decide_eq_true h, Bool.true_and, Bool.decide_and]
  rfl
theorem hasG_any (l : List NdN) (lo q n : Nat) : hasG l lo q n = anyG l lo n (q + 1) := rfl
def gK (l : List NdN) (lo q k : Nat) : List Nat := ((List.range k).map (· + 1)).filter (hasG l lo q)
theorem gK_nine (l : List NdN) (lo q : Nat) : gK l lo q 9 = grpL l lo q := rfl
theorem gK_step (l : List NdN) (lo q k : Nat) : gK l lo q (k + 1) = gK l lo q k ++ (if hasG l lo q (k + 1) = true then [k + 1] else []) := by
  unfold gK
  rw [List.range_succ, List.map_append, List.filter_append]
  congr 1
  show List.filter (hasG l lo q) [k + 1] = _
  cases hh : hasG l lo q (k + 1) with
  | true => rw [List.filter_cons_of_pos hh]; rfl
  | false => rw [List.filter_cons_of_neg (by rw [hh]; exact Bool.false_ne_true)]; rfl
theorem gK_len (l : List NdN) (lo q k : Nat) : (gK l lo q k).length ≤ k := by
  unfold gK
  refine Nat.le_trans (List.length_filter_le _ _) ?_
  simp
def gV (L : List Nat) : List Value := L.map fun n : Nat => Value.int .i64 (n : Int)
theorem gV_len (L : List Nat) : (gV L).length = L.length := by simp [gV]
theorem ints_of_owns {base : Nat} {v : Value} {L : List Nat} {W : World} (h : W.ownsRow base 3 1 v L.length (gV L)) : ∃ b c, v = .slice b L.length c ∧ IntsB base (L.map fun n : Nat => (n : Int)) b W := by
  rcases h.2 with ⟨hv, h0⟩ | ⟨g, cap, cur, hv, hb, hg, _⟩
  · have hL : L = [] := List.length_eq_zero_iff.1 h0
    subst hL
    exact ⟨none, 0, hv, fun hne => absurd rfl hne⟩
  · subst hv
    refine ⟨some ⟨g, 0, none⟩, cap, rfl, fun _ => ⟨g, 0, rfl, hb, (Array.getElem?_eq_some_iff.1 hg).1, fun i hi => ?_⟩⟩
    rw [List.length_map] at hi
    rw [Nat.zero_add, World.ownsRow.cellAt h i (by omega)]
    simp [gV, hi]
/-- What Groups tells. -/
def groupsL (l : List NdN) (q : Int) : List Int := (groupsT l q).map fun n : Nat => (n : Int)

set_option maxRecDepth 100000 in
set_option maxHeartbeats 16000000 in
theorem tGroups_calls (l : List NdN) (hl : l.length ≤ 1000) (q : Int) (a : Option Addr) (cap : Nat) (w : World) (h : NodesAt l a w) :
    Calls Tryd.prog 57 #[.slice a l.length cap, .int .i64 q] w fun e w' => ∃ b c, e = .returned (.slice b (groupsL l q).length c) ∧ IntsB w.heap.size (groupsL l q) b w' ∧ Below w.heap.size w w' := by
  have HL := Lib.hid (tLow_calls l hl a cap w h)
  have HN := Lib.hid h
  clear h
  have hnone : (¬ (rightT l = true ∧ 0 ≤ q ∧ q < l.length)) → groupsL l q = [] := fun hn => by
    unfold groupsL groupsT
    rw [if_neg hn]; rfl
  by_cases hq0 : q < 0
  · have qd : decide (q < 0) = true := decide_eq_true hq0
    rw [hnone (by omega)]
    clear hnone hq0
    generalize (lowsT l).length = n at *
    go_enter Tryd.func57, Tryd.ntmps57
    go_wp2_with fail
    refine HL.out.mono ?_
    rintro e w1 ⟨b, c, rfl, _, hb⟩
    clear HL
    go_wp2_with fail
    go_ret
    exact ⟨none, 0, rfl, fun h => absurd rfl h, hb⟩
  have qd : decide (q < 0) = false := decide_eq_false hq0
  obtain ⟨Q, rfl⟩ : ∃ Q : Nat, q = Q := ⟨q.toNat, by omega⟩
  by_cases hlen : (lowsT l).length ≤ Q
  · have qd2 : decide (((lowsT l).length : Int) ≤ (Q : Int)) = true := by rw [decide_eq_true_iff]; omega
    have qd3 : decide ((lowsT l).length ≤ Q) = true := decide_eq_true hlen
    rw [hnone (fun h => by
      have := lowsT_is l h.1
      have h2 := congrArg List.length this
      rw [List.length_map, List.length_range] at h2
      omega)]
    clear hnone hq0
    generalize (lowsT l).length = n at *
    go_enter Tryd.func57, Tryd.ntmps57
    go_wp2_with fail
    refine HL.out.mono ?_
    rintro e w1 ⟨b, c, rfl, _, hb⟩
    clear HL
    go_wp2_with fail
    go_ret
    exact ⟨none, 0, rfl, fun h => absurd rfl h, hb⟩
  have hr : rightT l = true := by
    cases hr : rightT l with
    | true => rfl
    | false => rw [lowsT_not l hr] at hlen; simp at hlen
  have hlw := lowsT_is l hr
  have hll : (lowsT l).length = l.length := by rw [hlw]; simp
  have hQ : Q < l.length := by omega
  have hge : groupsL l Q = (grpL l (lowV l Q) Q).map (fun n : Nat => (n : Int)) := by
    unfold groupsL groupsT
    rw [if_pos ⟨hr, by omega, by omega⟩, Int.toNat_natCast, lowT_V l (rightT_q l hr) Q hQ, Int.toNat_natCast]
  have hle := lowV_le l Q
  rw [hll] at HL
  have HLW := Lib.hid hlw
  have HLL := Lib.hid hll
  have HGE := Lib.hid hge
  have qd2 : decide ((l.length : Int) ≤ (Q : Int)) = false := by rw [decide_eq_false_iff_not]; omega
  have qd3 : decide (l.length ≤ Q) = false := decide_eq_false (by omega)
  have hQI : (Q : Int) < (l.length : Int) := by omega
  have hQd : decide (Q < l.length) = true := decide_eq_true hQ
  obtain ⟨i0, hinf, hza, hzb, hzc⟩ := info_parts infoInt10
  clear hnone hlen hr hlw hll hge hq0
  go_enter Tryd.func57, Tryd.ntmps57
  go_wp2_with fail
  refine HL.out.mono ?_
  rintro e w1 ⟨b, c, rfl, hib, hb⟩
  obtain ⟨gl, ol, rfl, _, hgl, hcl⟩ := hib (by intro h0; have := HLL.out; rw [h0] at this; simp at this; omega)
  have HCL := Lib.hid (show ∀ W, Below w1.heap.size w1 W → W.cell? ⟨gl, ol + Q, none⟩ = some (.int .i64 (lowV l Q : Nat)) from fun W hW => by
    have h1 := hcl Q (by rw [HLL.out]; exact hQ)
    refine (hW.cell (p := ⟨gl, ol + Q, none⟩) hgl).trans (h1.trans ?_)
    simp only [HLW.out, List.getElem_map, List.getElem_range])
  have HCE := Lib.hid (fun W (hW : Below w1.heap.size w1 W) => HN.out.below (hb.trans (hW.mono hb.size)))
  have HBW := Lib.hid hb
  have hz1 := hb.size
  clear HL hib hcl hb HLW HLL
  generalize lowV l Q = lo at *
  go_upto_region 6 with fail
  go_loopw [6, 7] (fun vo vn wr => ∃ k : Nat, k ≤ 9 ∧ vn = .int .i64 ((k : Int) + 1) ∧ wr.ownsRow w1.heap.size 3 1 vo (gK l lo Q k).length (gV (gK l lo Q k)) ∧ Below w1.heap.size w1 wr) (fun _ vn _ => 10 - (intOf vn).toNat)
  case atStart => exact ⟨0, by omega, rfl, World.ownsRow_nil _ _ _ _, Below.refl _ _⟩
  case round =>
    obtain ⟨k, hk, rfl, hown, hB⟩ := hrel
    have HOW := Lib.hid hown
    have HB := Lib.hid hB
    have hgk := gK_len l lo Q k
    clear hown hB
    by_cases hk9 : k < 9
    · have hk9d : decide ((k : Int) + 1 ≤ 9) = true := by rw [decide_eq_true_iff]; omega
      have xk : IntKind.i64.wrap ((k : Int) + 1 + 1) = ((k + 1 : Nat) : Int) + 1 := by rw [IntWalk.i64_in _ (by omega)]; omega
      have cl := HCL.out _ HB.out
      obtain ⟨g, off, rfl, hg, hcc⟩ := HCE.out _ HB.out (by rintro rfl; simp at hQ)
      have HCC := Lib.hid hcc
      have hst0 := anyG_lo l lo (k + 1)
      have HST0 := Lib.hid hst0
      have HSTEP := Lib.hid (anyG_step l lo (k + 1))
      have HHG := Lib.hid (hasG_any l lo Q (k + 1))
      have HGK := Lib.hid (gK_step l lo Q k)
      clear hcc hst0
      go_upto_region 10 with fail
      clear cl
      go_loop [8, 9] (fun vb vi => ∃ i : Nat, lo ≤ i ∧ i ≤ Q + 1 ∧ vi = .int .i64 i ∧ vb = .bool (anyG l lo (k + 1) i)) (fun _ vi => Q + 1 - (intOf vi).toNat)
      case atStart => exact ⟨lo, Nat.le_refl _, by omega, rfl, by rw [HST0.out]⟩
      case round =>
        obtain ⟨i, hi1, hi2, rfl, rfl⟩ := hrel
        by_cases hiQ : i ≤ Q
        · have hid : decide ((i : Int) ≤ (Q : Int)) = true := by rw [decide_eq_true_iff]; omega
          have hil : i < l.length := by omega
          have hiI : (i : Int) < (l.length : Int) := by omega
          have hild : decide (i < l.length) = true := decide_eq_true hil
          have xi : IntKind.i64.wrap ((i : Int) + 1) = (i : Int) + 1 := IntWalk.i64_in _ (by omega)
          have c0 := HCC.out i hil 0 (by decide)
          have c3 := HCC.out i hil 3 (by decide)
          have hs := HSTEP.out i hi1 hil
          generalize l[i] = x at *
          simp only [ndA, List.getElem?_toArray, List.getElem?_cons_zero, List.getElem?_cons_succ, Nat.add_zero] at c0 c3
          have HS := Lib.hid hs
          clear hs
          generalize anyG l lo (k + 1) i = b at *
          cases b with
          | true =>
            rw [Bool.true_or] at HS
            go_wp2_with fail
            go_round
            case rel => exact ⟨i + 1, by omega, by omega, by simp, by rw [HS.out]⟩
            case measure => simp [intOf]; omega
          | false =>
            rw [Bool.false_or] at HS
            by_cases z7 : x.kind = 7
            · have qz : (x.kind == 7) = true := by rw [z7]; rfl
              rw [qz, Bool.true_and] at HS
              by_cases zm : x.m = (k : Int) + 1
              · have qm : (x.m == (k : Int) + 1) = true := by rw [zm]; simp
                have HS2 := Lib.hid (show anyG l lo (k + 1) (i + 1) = true by rw [HS.out, zm, show ((k + 1 : Nat) : Int) = (k : Int) + 1 from rfl]; simp)
                clear z7 zm
                go_wp2_with fail
                go_round
                case rel => exact ⟨i + 1, by omega, by omega, by simp, by rw [HS2.out]⟩
                case measure => simp [intOf]; omega
              · have qm : (x.m == (k : Int) + 1) = false := by rw [beq_eq_false_iff_ne]; exact zm
                have HS2 := Lib.hid (show anyG l lo (k + 1) (i + 1) = false by rw [HS.out, show ((k + 1 : Nat) : Int) = (k : Int) + 1 from rfl]; exact qm)
                clear z7 zm
                go_wp2_with fail
                go_round
                case rel => exact ⟨i + 1, by omega, by omega, by simp, by rw [HS2.out]⟩
                case measure => simp [intOf]; omega
            · have qz : (x.kind == 7) = false := by rw [beq_eq_false_iff_ne]; exact z7
              rw [qz, Bool.false_and] at HS
              clear z7
              go_wp2_with fail
              go_round
              case rel => exact ⟨i + 1, by omega, by omega, by simp, by rw [HS.out]⟩
              case measure => simp [intOf]; omega
        · obtain rfl : i = Q + 1 := by omega
          have hid : decide (((Q + 1 : Nat) : Int) ≤ (Q : Int)) = false := by rw [decide_eq_false_iff_not]; omega
          have hid2 : decide ((Q : Int) + 1 ≤ (Q : Int)) = false := by rw [decide_eq_false_iff_not]; omega
          rw [← HHG.out]
          have hgk2 := HGK.out
          cases hh : hasG l lo Q (k + 1) with
          | false =>
            rw [hh, if_neg Bool.false_ne_true, List.append_nil] at hgk2
            have HE := Lib.hid hgk2
            clear hgk2 hh HSTEP HST0 HHG HGK HCC
            go_wp2_with fail
            go_roundw
            case rel => exact ⟨k + 1, by omega, by simp, by rw [HE.out]; exact HOW.out, HB.out⟩
            case measure => simp [intOf]; omega
          | true =>
            rw [hh, if_pos rfl] at hgk2
            have HE := Lib.hid hgk2
            clear hgk2 hh HSTEP HST0 HHG HGK HCC
            have hbs := HB.out.size
            have BWA : Below w1.heap.size w1 (wr.alloc (.cells #[.int .i64 ((k : Int) + 1)] 3)) := HB.out.alloc hbs _
            go_wp2_with (at_builtin; refine wpList_append_own _ rfl _ _ 54 rfl w1.heap.size 3 i0 (.int .i64 0) 1 8 Tryd.underlying54 hinf hza hzb hzc rfl (by decide) _ (gK l lo Q k).length (gV (gK l lo Q k)) rfl (HOW.out.alloc _) ⟨wr.heap.size, 0, none⟩ 1 1 [.int .i64 ((k : Int) + 1)] rfl rfl (Blk.new wr _ _).newsL (by simp [Value.oneCell']) (by unfold maxLen; omega) (by omega) (by have := BWA.size; exact this) ?_; intro v2 w3 hown2 hgrow2 _)
            have hown3 : w3.ownsRow w1.heap.size 3 1 v2 (gK l lo Q (k + 1)).length (gV (gK l lo Q (k + 1))) := by
              rw [HE.out, List.length_append]
              have e : gV (gK l lo Q k ++ [k + 1]) = gV (gK l lo Q k) ++ [.int .i64 ((k : Int) + 1)] := by simp [gV]
              rw [e]
              exact hown2
            have HO3 := Lib.hid hown3
            have HB3 := Lib.hid (BWA.grown hgrow2 BWA.size (fun b hb => (HOW.out.lt b hb).1))
            clear hown2 hown3 hgrow2 BWA hbs
            go_wp2_with fail
            go_roundw
            case rel => exact ⟨k + 1, by omega, by simp, HO3.out, HB3.out⟩
            case measure => simp [intOf]; omega
    · obtain rfl : k = 9 := by omega
      have hk9d : decide (((9 : Nat) : Int) + 1 ≤ 9) = false := by decide
      obtain ⟨b, c, rfl, hI⟩ := ints_of_owns HOW.out
      rw [gK_nine] at hI ⊢
      have HI := Lib.hid (show IntsB w.heap.size (groupsL l (Q : Int)) b wr from by
        rw [HGE.out]
        intro hne
        obtain ⟨g, o, e, h1, h2, h3⟩ := hI hne
        exact ⟨g, o, e, Nat.le_trans hz1 h1, h2, h3⟩)
      have HGL := Lib.hid (show (groupsL l (Q : Int)).length = (grpL l lo Q).length by rw [HGE.out, List.length_map])
      clear hI HOW hgk
      go_wp2_with fail
      go_ret
      exact ⟨b, c, by rw [HGL.out] <;> rfl, HI.out, HBW.out.trans (HB.out.mono hz1)⟩
theorem groupsT_len (l : List NdN) (q : Int) : (groupsT l q).length ≤ 9 := by
  unfold groupsT
  split
  · exact gK_len l _ _ 9
  · exact Nat.zero_le _
theorem groups_root (l : List NdN) (hr : rightT l = true) : groupsT l ((l.length : Int) - 1) = grpL l 0 (l.length - 1) := by
  have hq := rightT_q l hr
  have hp := hq.pos
  obtain ⟨h1, _, _⟩ := of_decide_eq_true hr
  have hz := (trT_root l _ h1 hp).1 rfl
  unfold groupsT
  rw [if_pos ⟨hr, by omega, by omega⟩, show ((l.length : Int) - 1).toNat = l.length - 1 by omega, lowT_V l hq _ (by omega), hz]
  rfl
set_option maxRecDepth 100000 in
set_option maxHeartbeats 4000000 in
theorem tTop_calls (l : List NdN) (hl : l.length ≤ 1000) (a : Option Addr) (cap : Nat) (w : World) (h : NodesAt l a w) :
    Calls Tryd.prog 56 #[.slice a l.length cap] w fun e w' => e = .returned (.int .i64 (topT l : Nat)) ∧ Below w.heap.size w w' := by
  have HG := Lib.hid (tGroups_calls l hl ((l.length : Int) - 1) a cap w h)
  have xl : IntKind.i64.wrap ((l.length : Int) - 1) = (l.length : Int) - 1 := IntWalk.i64_in _ (by omega)
  clear h
  have hT : topT l = ((groupsT l ((l.length : Int) - 1)).getLast?).getD 0 := by
    unfold topT
    cases hr : rightT l with
    | false =>
      unfold groupsT
      rw [if_neg Bool.false_ne_true, hr, if_neg (fun h => Bool.false_ne_true h.1)]
      rfl
    | true =>
      rw [if_pos rfl, groups_root l hr]
      rfl
  unfold groupsL at HG
  have hg9 := groupsT_len l ((l.length : Int) - 1)
  generalize groupsT l ((l.length : Int) - 1) = G at *
  generalize topT l = T at *
  rw [List.length_map] at HG
  rcases Nat.eq_zero_or_pos G.length with h0 | h0
  · have hG : G = [] := List.length_eq_zero_iff.1 h0
    subst hG
    subst hT
    rw [List.length_nil] at HG
    clear h0
    go_enter Tryd.func56, Tryd.ntmps56
    go_wp2_with fail
    refine HG.out.mono ?_
    rintro e w1 ⟨b, c, rfl, _, hb⟩
    clear HG
    go_wp2_with fail
    go_ret
    exact ⟨rfl, hb⟩
  · have hlt : G.length - 1 < G.length := by omega
    have hT2 : T = G[G.length - 1] := by
      rw [hT, List.getLast?_eq_getElem?, List.getElem?_eq_getElem hlt, Option.getD_some]
    have q0 : ((G.length : Int) == 0) = false := by rw [beq_eq_false_iff_ne]; omega
    have hne : G.map (fun n : Nat => (n : Int)) ≠ [] := by intro h; have := congrArg List.length h; rw [List.length_map, List.length_nil] at this; omega
    have HNE := Lib.hid hne
    have HT2 := Lib.hid hT2
    clear hT hT2 hne
    go_enter Tryd.func56, Tryd.ntmps56
    go_wp2_with fail
    refine HG.out.mono ?_
    rintro e w1 ⟨b, c, rfl, hI, hb⟩
    obtain ⟨g, o, rfl, _, hg, hc⟩ := hI HNE.out
    have ck : w1.cell? ⟨g, o + (G.length - 1), none⟩ = some (.int .i64 (T : Nat)) := by
      rw [hc (G.length - 1) (by rw [List.length_map]; exact hlt), HT2.out]
      simp only [List.getElem_map]
    clear HG hI hc HNE HT2
    generalize hGn : G.length = n at *
    have xn : IntKind.i64.wrap ((n : Int) - 1) = ((n - 1 : Nat) : Int) := by rw [IntWalk.i64_in _ (by omega)]; omega
    have bl' : ((n - 1 : Nat) : Int) < (n : Int) := by omega
    have dl : decide (n - 1 < n) = true := decide_eq_true hlt
    go_wp2_with fail
    go_ret
    exact ⟨rfl, hb⟩
end Go.Proofs.YtdpkhliojbeglaaDoor

/- The developers' terms: termOf. Stage 10. -/
namespace Go.Proofs.YtdpkhliojbeglaaDoor
open Go.RowKit BS

theorem infoMkF : (Tryd.prog.info? 152).map (fun i => (i.zero, i.size, i.bytes)) = some (some (.agg (mkV fun _ => false)), 10, 10) := by kernel_rfl
def gsZ (n : Nat) : Array Value := madeCells (mkV fun _ => false) (n * 10)
theorem gsZ_size (n : Nat) : (gsZ n).size = n * 10 := size_madeCells _ _
theorem gsZ_get (n k : Nat) (h : k < n * 10) : (gsZ n)[k]? = some (.bool false) := by
  have h2 : k % 10 < 10 := Nat.mod_lt _ (by decide)
  have e : (mkV fun _ => false)[k % 10]! = .bool false := by
    rw [getElem!_def, mkV_get _ _ h2]
  unfold gsZ madeCells
  rw [Array.getElem?_map, Array.getElem?_range, if_pos h]
  show some ((mkV fun _ => false)[k % 10]!) = _
  rw [e]
theorem makeMk (n : Nat) (hn : n ≤ 1000) (W : World) : (Instr.makeSlice 118 (.int .i64 (n : Int)) (.int .i64 (n : Int))).run Tryd.prog W = .ok (.slice (some ⟨W.heap.size, 0, none⟩) n n) (W.alloc (.cells (gsZ n) 152)) := by
  obtain ⟨i, hi, hzz⟩ := Option.map_eq_some_iff.1 infoMkF
  simp only [Prod.mk.injEq] at hzz
  obtain ⟨hz, hs, hb⟩ := hzz
  have := run_make (P := Tryd.prog) W 118 152 i _ Tryd.underlying118 hi hz .i64 .i64 n n (by omega) (by omega) (by rw [hb]; omega) (by omega)
  rw [hs, Int.toNat_natCast] at this
  exact this
theorem intZ_get (n k : Nat) (h : k < n) : (madeCells #[Value.int .i64 0] n)[k]? = some (.int .i64 ((0 : Nat) : Int)) := by
  unfold madeCells
  rw [Array.getElem?_map, Array.getElem?_range, if_pos h]
  show some (#[Value.int .i64 0][k % 1]!) = _
  rw [Nat.mod_one]
  rfl
/-! ### What the developers ask of a node is what the document asks -/
theorem anyG_split (l : List NdN) (lo n k : Nat) (h : lo ≤ k) : ∀ i, k ≤ i → i ≤ l.length → anyG l lo n i = (anyG l lo n k || anyG l k n i)
  | 0, h1, _ => by
    have : k = 0 := by omega
    subst this
    rw [show anyG l 0 n 0 = false from anyG_lo l 0 n, Bool.or_false]
  | i + 1, h1, h2 => by
    by_cases hk : k = i + 1
    · subst hk
      rw [anyG_lo, Bool.or_false]
    · rw [anyG_step l lo n i (by omega) (by omega), anyG_step l k n i (by omega) (by omega), anyG_split l lo n k h i (by omega) (by omega), Bool.or_assoc]
def mkG (l : List NdN) (x m : Nat) : Bool := anyG l (lowV l x) m (x + 1)
theorem loT_le (l : List NdN) (i : Nat) : loT l i ≤ i := by
  unfold loT
  split
  · exact Nat.le_refl _
  · have h1 := lowV_le l (atT l i).toNat
    have h2 : atT l i ≤ (i : Int) := by
      unfold atT
      split
      · have := lowV_le l (i - 1); omega
      · omega
    omega
theorem dev_parts (l : List NdN) (i : Nat) (hi : i < l.length) (hst : stB (lowV l) i l[i].kind l[i].kids l[i].n = true) :
    ∃ ps : List Nat, pK l[i].kids l[i].n 2 = ps.map (fun p : Nat => (p : Int)) ∧ (∀ p ∈ ps, p < i) ∧ loF (lowV l) i ps = loT l i ∧ ∀ m, mkF (mkG l) ps m = anyG l (loT l i) m i := by
  unfold loT atT
  rw [pcT_get l i hi]
  generalize l[i].kind = k at *
  generalize l[i].kids = c at *
  generalize l[i].n = n at *
  unfold stB at hst
  by_cases c12 : k = 1 ∨ k = 2
  · rw [if_pos c12, Bool.and_eq_true, beq_iff_eq, beq_iff_eq] at hst
    obtain ⟨rfl, rfl⟩ := hst
    refine ⟨[], rfl, fun p hp => by simp at hp, ?_, fun m => ?_⟩
    · rcases c12 with rfl | rfl <;> rfl
    · have : (if pcT k = 0 then i else lowV l (if pcT k = 2 then (lowV l (i - 1) : Int) - 1 else (i : Int) - 1).toNat) = i := by rcases c12 with rfl | rfl <;> rfl
      rw [this, anyG_lo]; rfl
  rw [if_neg c12] at hst
  by_cases c58 : k = 5 ∨ k = 6 ∨ k = 7 ∨ k = 8
  · rw [if_pos c58, Bool.and_eq_true, Bool.and_eq_true, beq_iff_eq, beq_iff_eq, decide_eq_true_iff] at hst
    obtain ⟨h0, rfl, rfl⟩ := hst
    have e : (if pcT k = 0 then i else lowV l (if pcT k = 2 then (lowV l (i - 1) : Int) - 1 else (i : Int) - 1).toNat) = lowV l (i - 1) := by
      have : ((i : Int) - 1).toNat = i - 1 := by omega
      rcases c58 with rfl | rfl | rfl | rfl <;> exact congrArg (lowV l) this
    rw [e]
    have hle := lowV_le l (i - 1)
    refine ⟨[i - 1], ?_, fun p hp => by rw [List.mem_singleton] at hp; omega, ?_, fun m => ?_⟩
    · unfold pK
      show (if (i : Int) - 1 = -1 then [] else [(i : Int) - 1]) ++ _ = _
      rw [if_neg (by omega), if_pos rfl, List.append_nil, List.map_cons, List.map_nil]
      congr 1
      omega
    · show min i (lowV l (i - 1)) = _
      omega
    · show (mkG l (i - 1) m || false) = _
      rw [Bool.or_false]
      unfold mkG
      rw [Nat.sub_add_cancel h0]
  rw [if_neg c58] at hst
  by_cases c34 : k = 3 ∨ k = 4
  · rw [if_pos c34, Bool.and_eq_true, Bool.and_eq_true, Bool.and_eq_true, beq_iff_eq, beq_iff_eq, decide_eq_true_iff, decide_eq_true_iff] at hst
    obtain ⟨h0, h1, rfl, rfl⟩ := hst
    have e : (if pcT k = 0 then i else lowV l (if pcT k = 2 then (lowV l (i - 1) : Int) - 1 else (i : Int) - 1).toNat) = lowV l (lowV l (i - 1) - 1) := by
      have : ((lowV l (i - 1) : Int) - 1).toNat = lowV l (i - 1) - 1 := by omega
      rcases c34 with rfl | rfl <;> exact congrArg (lowV l) this
    rw [e]
    have hle := lowV_le l (i - 1)
    have hle2 := lowV_le l (lowV l (i - 1) - 1)
    refine ⟨[lowV l (i - 1) - 1, i - 1], ?_, fun p hp => by simp at hp; omega, ?_, fun m => ?_⟩
    · unfold pK
      show (if (lowV l (i - 1) : Int) - 1 = -1 then [] else [(lowV l (i - 1) : Int) - 1]) ++ (if (i : Int) - 1 = -1 then [] else [(i : Int) - 1]) = _
      rw [if_neg (by omega), if_neg (by omega)]
      show [_, _] = [((lowV l (i - 1) - 1 : Nat) : Int), ((i - 1 : Nat) : Int)]
      rw [show ((lowV l (i - 1) - 1 : Nat) : Int) = (lowV l (i - 1) : Int) - 1 by omega, show ((i - 1 : Nat) : Int) = (i : Int) - 1 by omega]
    · show min (min i (lowV l (lowV l (i - 1) - 1))) (lowV l (i - 1)) = _
      omega
    · show (mkG l (lowV l (i - 1) - 1) m || (mkG l (i - 1) m || false)) = _
      rw [Bool.or_false]
      unfold mkG
      rw [Nat.sub_add_cancel h0, Nat.sub_add_cancel h1]
      exact (anyG_split l _ m (lowV l (i - 1)) (by omega) i (by omega) (by omega)).symm
  · rw [if_neg c34] at hst; cases hst
theorem dev_fine (l : List NdN) (i : Nat) (s : List Nat) (h : trT l i = some s) (hi : i < l.length) :
    fineT l s i l[i] = true ↔ namB l[i].kind l[i].m l[i].set = true ∧ stB (lowV l) i l[i].kind l[i].kids l[i].n = true ∧ noT l l[i] (loT l i) i = true := by
  rw [fine_go l i s h hi, kindT_two]
  unfold atT
  rw [pcT_get l i hi]
  generalize noT l l[i] (loT l i) i = z
  generalize l[i] = x
  obtain ⟨k, c, n, m, t⟩ := x
  simp only
  have hse : ∀ lo, lowV l (i - 1) = lo → (stB (fun _ => lo) i k c n = stB (lowV l) i k c n) := fun lo hlo => by unfold stB; rw [hlo]
  have hse2 := hse _ rfl
  generalize lowV l (i - 1) = lo at *
  clear hse
  have hnm : namB k m t = true ↔ (k = 2 ∨ t = 0) ∧ (k = 7 → 1 ≤ m ∧ m ≤ 9) ∧ (k = 7 ∨ m = 0) := by
    unfold namB
    rw [Bool.and_eq_true, Bool.or_eq_true, beq_iff_eq, decide_eq_true_iff]
    by_cases h7 : k = 7
    · rw [if_pos h7, Bool.and_eq_true, decide_eq_true_iff, decide_eq_true_iff]
      exact ⟨fun ⟨a, b⟩ => ⟨a, fun _ => b, .inl h7⟩, fun ⟨a, b, _⟩ => ⟨a, b h7⟩⟩
    · rw [if_neg h7, beq_iff_eq]
      exact ⟨fun ⟨a, b⟩ => ⟨a, fun h => absurd h h7, .inr b⟩, fun ⟨a, _, b⟩ => ⟨a, b.resolve_left h7⟩⟩
  rw [hnm]
  unfold kindA
  have hss : (1 ≤ k ∧ k ≤ 8) ∧ (pcT k = 0 → c = -1) ∧ (pcT k ≠ 2 → n = -1) ∧ (pcT k = 2 → 0 < i ∧ n = (i : Int) - 1) ∧ (pcT k ≠ 0 → 0 ≤ (if pcT k = 2 then (lo : Int) - 1 else (i : Int) - 1) ∧ c = (if pcT k = 2 then (lo : Int) - 1 else (i : Int) - 1)) ↔ stB (fun _ => lo) i k c n = true := by
    show _ ↔ (if k = 1 ∨ k = 2 then (c == -1) && (n == -1) else if k = 5 ∨ k = 6 ∨ k = 7 ∨ k = 8 then decide (0 < i) && ((c == (i : Int) - 1) && (n == -1)) else if k = 3 ∨ k = 4 then decide (0 < i) && (decide (0 < lo) && ((n == (i : Int) - 1) && (c == (lo : Int) - 1))) else false) = true
    by_cases c12 : k = 1 ∨ k = 2
    · have e : pcT k = 0 := by rcases c12 with rfl | rfl <;> rfl
      rw [if_pos c12, e, Bool.and_eq_true, beq_iff_eq, beq_iff_eq]
      constructor
      · rintro ⟨_, h1, h2, _⟩; exact ⟨h1 rfl, h2 (by decide)⟩
      · rintro ⟨h1, h2⟩; exact ⟨by omega, fun _ => h1, fun _ => h2, fun h => by omega, fun h => absurd rfl h⟩
    rw [if_neg c12]
    by_cases c58 : k = 5 ∨ k = 6 ∨ k = 7 ∨ k = 8
    · have e : pcT k = 1 := by rcases c58 with rfl | rfl | rfl | rfl <;> rfl
      rw [if_pos c58, e, Bool.and_eq_true, Bool.and_eq_true, beq_iff_eq, beq_iff_eq, decide_eq_true_iff, if_neg (by decide)]
      constructor
      · rintro ⟨_, _, h2, _, h4⟩
        obtain ⟨h5, h6⟩ := h4 (by decide)
        exact ⟨by omega, h6, h2 (by decide)⟩
      · rintro ⟨h1, h2, h3⟩
        exact ⟨by omega, fun h => by omega, fun _ => h3, fun h => by omega, fun _ => ⟨by omega, h2⟩⟩
    rw [if_neg c58]
    by_cases c34 : k = 3 ∨ k = 4
    · have e : pcT k = 2 := by rcases c34 with rfl | rfl <;> rfl
      rw [if_pos c34, e, Bool.and_eq_true, Bool.and_eq_true, Bool.and_eq_true, beq_iff_eq, beq_iff_eq, decide_eq_true_iff, decide_eq_true_iff, if_pos rfl]
      constructor
      · rintro ⟨_, _, _, h3, h4⟩
        obtain ⟨h5, h6⟩ := h4 (by decide)
        obtain ⟨h7, h8⟩ := h3 rfl
        exact ⟨h7, by omega, h8, h6⟩
      · rintro ⟨h1, h2, h3, h4⟩
        exact ⟨by omega, fun h => by omega, fun h => absurd rfl h, fun _ => ⟨h1, h3⟩, fun _ => ⟨by omega, h4⟩⟩
    · rw [if_neg c34]
      constructor
      · rintro ⟨⟨h1, h2⟩, _⟩; exact absurd (show k = 3 ∨ k = 4 by omega) c34
      · intro h; cases h
  rw [← hse2, ← hss]
  constructor
  · rintro ⟨⟨⟨a1, a2, a3, a4, a5⟩, b1, b2⟩, b3, b4, b5⟩
    exact ⟨⟨a3, a5, a4⟩, ⟨⟨a1, a2⟩, b1, b2, b3, b4⟩, b5⟩
  · rintro ⟨⟨a3, a5, a4⟩, ⟨⟨a1, a2⟩, b1, b2, b3, b4⟩, b5⟩
    exact ⟨⟨⟨a1, a2, a3, a4, a5⟩, b1, b2⟩, b3, b4, b5⟩
/-- A node's number is new, if no Group ahead in it has it. -/
theorem noT_new (l : List NdN) (x : NdN) (lo i : Nat) (hi : i ≤ l.length) (h7 : x.kind = 7) (K : Nat) (hK : x.m = K) : noT l x lo i = !anyG l lo K i := by
  unfold noT anyG
  rw [Bool.eq_iff_iff, decide_eq_true_iff, Bool.not_eq_true', ← Bool.not_eq_true, List.any_eq_true]
  constructor
  · rintro h ⟨j, hj, hj2⟩
    rw [Bool.and_eq_true, decide_eq_true_iff] at hj2
    obtain ⟨h1, h2⟩ := hj2
    have hj3 := List.mem_range.1 hj
    rw [List.getElem?_eq_getElem (by omega)] at h2
    have h3 := of_decide_eq_true h2
    exact h h7 j hj3 h1 _ (List.getElem?_eq_getElem (by omega)) ⟨h3.1, by rw [hK]; exact h3.2⟩
  · intro h _ j hj hlo y hy hy2
    refine h ⟨j, List.mem_range.2 hj, ?_⟩
    rw [hy, Bool.and_eq_true, decide_eq_true_iff]
    exact ⟨hlo, decide_eq_true ⟨hy2.1, by rw [hy2.2, hK]⟩⟩

/-! ### By walks -/
theorem infoTm : (Tryd.prog.info? 120).map (·.size) = some 3 := by kernel_rfl
theorem results_tm (tmps : Array Value) (w : World) (R : Nat) (cs : Array Value) (hb : Blk w R cs 120) {b : Value} (hp : tmps.getD 2 undef = .pointer (some ⟨R, 0, none⟩)) (hs : cs.size = 3) (hq : tmps.getD 3 undef = b := by rfl) :
    (results Tryd.f62 tmps).run Tryd.prog w = .ok (.tuple #[.agg cs, b]) w := by
  rw [results_cell_tmp Tryd.results62]
  rw [hp, hq]
  have h1 := run_loadVar_row (P := Tryd.prog) w R 120 120 cs (0, 0) _ hb Tryd.underlying120 rfl (by rw [hs]; exact infoTm)
  simp [asAddr, h1]
theorem alloc3 (w1 : World) (c1 c2 c3 : Array Value) (t1 t2 t3 : TypeId) (W : World) (hW : W = (((w1.alloc (.cells c1 t1)).alloc (.cells c2 t2)).alloc (.cells c3 t3)).drew) :
    Blk W w1.heap.size c1 t1 ∧ Blk W (w1.heap.size + 1) c2 t2 ∧ Blk W (w1.heap.size + 1 + 1) c3 t3 ∧ Below w1.heap.size w1 W := by
  subst hW
  have b1 := ((Blk.new w1 c1 t1).alloc (.cells c2 t2)).alloc (.cells c3 t3)
  have b2 := (Blk.new (w1.alloc (.cells c1 t1)) c2 t2).alloc (.cells c3 t3)
  have b3 := Blk.new ((w1.alloc (.cells c1 t1)).alloc (.cells c2 t2)) c3 t3
  rw [World.size_alloc] at b2
  rw [World.size_alloc, World.size_alloc] at b3
  refine ⟨b1, b2, b3, ?_⟩
  have hb : Below w1.heap.size w1 (((w1.alloc (.cells c1 t1)).alloc (.cells c2 t2)).alloc (.cells c3 t3)) := by go_grown
  exact ⟨hb.os, hb.tape, hb.output, hb.size, hb.block⟩
def vI (l : List NdN) (i x : Nat) : Nat := if x < i then lowV l x else 0
def mI (l : List NdN) (i x m : Nat) : Bool := if x < i then mkG l x m else false
theorem loF_congr (V V' : Nat → Nat) (i : Nat) (ps : List Nat) (h : ∀ p ∈ ps, V p = V' p) : loF V i ps = loF V' i ps := by
  unfold loF
  have : ∀ (ps : List Nat) (a : Nat), (∀ p ∈ ps, V p = V' p) → ps.foldl (fun a p => min a (V p)) a = ps.foldl (fun a p => min a (V' p)) a := fun ps => by
    induction ps with
    | nil => intro a _; rfl
    | cons p ps ih =>
      intro a hp
      rw [List.foldl_cons, List.foldl_cons, hp p (List.mem_cons_self ..)]
      exact ih _ fun q hq => hp q (List.mem_cons_of_mem _ hq)
  exact this ps i h
theorem mkF_congr (M M' : Nat → Nat → Bool) (ps : List Nat) (h : ∀ p ∈ ps, M p = M' p) : mkF M ps = mkF M' ps := by
  funext m
  unfold mkF
  induction ps with
  | nil => rfl
  | cons p ps ih => rw [List.any_cons, List.any_cons, h p (List.mem_cons_self ..), ih fun q hq => h q (List.mem_cons_of_mem _ hq)]
/-- What learn tells of node i is what the document says of it. -/
theorem dev_step (l : List NdN) (i : Nat) (s : List Nat) (h : trT l i = some s) (hi : i < l.length) (hf : fineT l s i l[i] = true) (ps : List Nat) (hpi : ∀ p ∈ ps, p < i) (h1 : loF (lowV l) i ps = loT l i) (h2 : ∀ m, mkF (mkG l) ps m = anyG l (loT l i) m i) (K : Nat) (hm : l[i].kind = 7 → l[i].m = K) :
    (∀ x, upV (vI l i) i (loF (vI l i) i ps) x = vI l (i + 1) x) ∧ ∀ x m, upM (mI l i) i (lnM l[i].kind (mkF (mI l i) ps) K) x m = mI l (i + 1) x m := by
  have e1 : loF (vI l i) i ps = loF (lowV l) i ps := loF_congr _ _ _ _ fun p hp => if_pos (hpi p hp)
  have e2 : mkF (mI l i) ps = mkF (mkG l) ps := mkF_congr _ _ _ fun p hp => by funext m; exact if_pos (hpi p hp)
  have hlo := lowV_lo l i s h hi hf
  rw [e1, e2, h1, ← hlo]
  constructor
  · intro x
    unfold upV vI
    by_cases hx : x = i
    · rw [if_pos hx, if_pos (by omega), hx]
    · rw [if_neg hx]
      by_cases hx2 : x < i
      · rw [if_pos hx2, if_pos (by omega)]
      · rw [if_neg hx2, if_neg (by omega)]
  · intro x m
    unfold upM mI
    by_cases hx : x = i
    · rw [if_pos hx, if_pos (by omega), hx]
      unfold lnM
      show _ = anyG l (lowV l i) m (i + 1)
      rw [anyG_step l _ m i (lowV_le l i) hi, h2 m, ← hlo]
      by_cases h7 : l[i].kind = 7
      · have h7b : (l[i].kind == 7) = true := by rw [h7]; rfl
        rw [h7b, Bool.true_and, hm h7]
        by_cases hmk : m = K
        · rw [if_pos ⟨h7, hmk⟩, hmk, show ((K : Int) == (K : Int)) = true from by simp, Bool.or_true]
        · rw [if_neg (fun h => hmk h.2), show ((K : Int) == (m : Int)) = false from by rw [beq_eq_false_iff_ne]; omega, Bool.or_false]
      · have h7b : (l[i].kind == 7) = false := by rw [beq_eq_false_iff_ne]; exact h7
        rw [if_neg (fun h => h7 h.1), h7b, Bool.false_and, Bool.or_false]
    · rw [if_neg hx]
      by_cases hx2 : x < i
      · rw [if_pos hx2, if_pos (by omega)]
      · rw [if_neg hx2, if_neg (by omega)]

set_option maxRecDepth 100000 in
set_option maxHeartbeats 32000000 in
theorem termOf_calls (l : List NdN) (hl : l.length ≤ 1000) (a : Option Addr) (cap : Nat) (w : World) (h : NodesAt l a w) :
    Calls Tryd.prog 62 #[.slice a l.length cap] w fun e w' => Below w.heap.size w w' ∧ ((rightT l = false ∧ ∃ a' n' c' L G, e = .returned (.tuple #[.agg (tmC a' n' c' L G), .bool false])) ∨
      (rightT l = true ∧ ∃ L G, e = .returned (.tuple #[.agg (tmC a l.length cap (some ⟨L, 0, none⟩) (some ⟨G, 0, none⟩)), .bool true]) ∧ w.heap.size ≤ L ∧ w.heap.size ≤ G ∧ L < w'.heap.size ∧ G < w'.heap.size ∧ TmS l.length L G (vI l l.length) (mI l l.length) w')) := by
  have hmk := fun W => run_make_row' (P := Tryd.prog) 54 3 (.int .i64 0) 8 Tryd.underlying54 (by kernel_rfl) rfl .i64 .i64 l.length (by omega) (by omega) W
  have hmz : (madeCells #[Value.int .i64 0] l.length).size = l.length := by simp [madeCells]
  have hmg := intZ_get l.length
  have hmk2 := makeMk l.length hl
  have hgz := gsZ_size l.length
  have hgg := gsZ_get l.length
  generalize madeCells #[Value.int .i64 0] l.length = vs0 at *
  generalize gsZ l.length = gs0 at *
  have HMG := Lib.hid hmg
  have HGG := Lib.hid hgg
  have HN := Lib.hid h
  clear hmg hgg h
  have hB0 : Below w.heap.size w (w.alloc (.cells #[.slice none 0 0, .slice none 0 0, .slice none 0 0] 120)) := by go_grown
  have hR := Blk.new w #[.slice none 0 0, .slice none 0 0, .slice none 0 0] 120
  have hz1 : (w.alloc (.cells #[.slice none 0 0, .slice none 0 0, .slice none 0 0] 120)).heap.size = w.heap.size + 1 := World.size_alloc ..
  by_cases h1 : l.length < 1 ∨ 400 < l.length
  · have HF := Lib.hid (show rightT l = false from by
      refine decide_eq_false fun h => ?_
      rcases h1 with h1 | h1
      · have : l.length = 0 := by omega
        rw [this, trT] at h; cases h.1
      · omega)
    clear hmk hmk2
    rcases h1 with h1 | h1
    · have hd1 : decide (l.length < 1) = true := decide_eq_true h1
      have hd3 : decide ((l.length : Int) < 1) = true := by rw [decide_eq_true_iff]; omega
      go_enter Tryd.func62, Tryd.ntmps62
      go_upto_region 2 with fail
      have HR := Lib.hid hR
      have HBW := Lib.hid hB0
      clear hR hB0 hz1
      generalize w.alloc (.cells #[.slice none 0 0, .slice none 0 0, .slice none 0 0] 120) = w1 at *
      have r0 := HR.out.cell 0; have r1 := HR.out.cell 1; have r2 := HR.out.cell 2
      have s0 := HR.out.frozen 0; have s1 := HR.out.frozen 1; have s2 := HR.out.frozen 2
      simp only [List.getElem?_toArray, List.getElem?_cons_zero, List.getElem?_cons_succ] at r0 r1 r2
      have HR2 := Lib.hid (((HR.out.set 0 (.slice none 0 0)).set 1 (.slice none 0 0)).set 2 (.slice none 0 0))
      have HB2 := Lib.hid (below_set (below_set (below_set HBW.out (Nat.le_refl _) 0 (.slice none 0 0)) (Nat.le_refl _) 1 (.slice none 0 0)) (Nat.le_refl _) 2 (.slice none 0 0))
      clear HR HBW
      go_wp2_with fail
      exact bodyPost_ret (v := .tuple #[.agg (tmC none 0 0 none none), .bool false]) (results_tm _ _ w.heap.size (tmC none 0 0 none none) HR2.out rfl rfl) rfl ⟨HB2.out, .inl ⟨HF.out, none, 0, 0, none, none, rfl⟩⟩
    · have hd1 : decide (l.length < 1) = false := by rw [decide_eq_false_iff_not]; omega
      have hd3 : decide ((l.length : Int) < 1) = false := by rw [decide_eq_false_iff_not]; omega
      have hd2 : decide (400 < l.length) = true := decide_eq_true h1
      have hd4 : decide (400 < (l.length : Int)) = true := by rw [decide_eq_true_iff]; omega
      go_enter Tryd.func62, Tryd.ntmps62
      go_upto_region 2 with fail
      have HR := Lib.hid hR
      have HBW := Lib.hid hB0
      clear hR hB0 hz1
      generalize w.alloc (.cells #[.slice none 0 0, .slice none 0 0, .slice none 0 0] 120) = w1 at *
      have r0 := HR.out.cell 0; have r1 := HR.out.cell 1; have r2 := HR.out.cell 2
      have s0 := HR.out.frozen 0; have s1 := HR.out.frozen 1; have s2 := HR.out.frozen 2
      simp only [List.getElem?_toArray, List.getElem?_cons_zero, List.getElem?_cons_succ] at r0 r1 r2
      have HR2 := Lib.hid (((HR.out.set 0 (.slice none 0 0)).set 1 (.slice none 0 0)).set 2 (.slice none 0 0))
      have HB2 := Lib.hid (below_set (below_set (below_set HBW.out (Nat.le_refl _) 0 (.slice none 0 0)) (Nat.le_refl _) 1 (.slice none 0 0)) (Nat.le_refl _) 2 (.slice none 0 0))
      clear HR HBW
      go_wp2_with fail
      exact bodyPost_ret (v := .tuple #[.agg (tmC none 0 0 none none), .bool false]) (results_tm _ _ w.heap.size (tmC none 0 0 none none) HR2.out rfl rfl) rfl ⟨HB2.out, .inl ⟨HF.out, none, 0, 0, none, none, rfl⟩⟩
  have hd1 : decide (l.length < 1) = false := by rw [decide_eq_false_iff_not]; omega
  have hd2 : decide (400 < l.length) = false := by rw [decide_eq_false_iff_not]; omega
  have hd3 : decide ((l.length : Int) < 1) = false := by rw [decide_eq_false_iff_not]; omega
  have hd4 : decide (400 < (l.length : Int)) = false := by rw [decide_eq_false_iff_not]; omega
  go_enter Tryd.func62, Tryd.ntmps62
  go_upto_region 3 with fail
  generalize w.alloc (.cells #[.slice none 0 0, .slice none 0 0, .slice none 0 0] 120) = w1 at *
  have HZ1 := Lib.hid hz1
  clear hz1
  go_cut [4] from 17 to 24 (fun v wx => ∃ T L G : Nat, v = .pointer (some ⟨T, 0, none⟩) ∧ w1.heap.size ≤ T ∧ w1.heap.size ≤ L ∧ w1.heap.size ≤ G ∧ T ≠ L ∧ T ≠ G ∧ L ≠ G ∧ Blk wx T (tmC a l.length cap (some ⟨L, 0, none⟩) (some ⟨G, 0, none⟩)) 120 ∧ Blk wx L vs0 3 ∧ Blk wx G gs0 152 ∧ Below w1.heap.size w1 wx)
  case first =>
    go_region
    all_goals
      go_wp2_with fail
      go_meet
      obtain ⟨b1, b2, b3, b4⟩ := alloc3 w1 _ _ _ _ _ _ _ rfl
      first
        | exact ⟨_, _, _, rfl, by omega, by omega, by omega, by omega, by omega, by omega, b1, b2, b3, b4⟩
        | exact ⟨_, _, _, rfl, by omega, by omega, by omega, by omega, by omega, by omega, b1, b3, b2, b4⟩
        | exact ⟨_, _, _, rfl, by omega, by omega, by omega, by omega, by omega, by omega, b2, b1, b3, b4⟩
        | exact ⟨_, _, _, rfl, by omega, by omega, by omega, by omega, by omega, by omega, b2, b3, b1, b4⟩
        | exact ⟨_, _, _, rfl, by omega, by omega, by omega, by omega, by omega, by omega, b3, b1, b2, b4⟩
        | exact ⟨_, _, _, rfl, by omega, by omega, by omega, by omega, by omega, by omega, b3, b2, b1, b4⟩
  case rest =>
  obtain ⟨T, L, G, rfl, hT1, hL1, hG1, hTL, hTG, hLG, hT, hLb, hGb, hB1⟩ := hcut
  have HBc := Lib.hid (hB0.trans (hB1.mono (by have := HZ1.out; omega)))
  have HRc := Lib.hid (hR.below hB1 (by have := HZ1.out; omega))
  have HTc := Lib.hid hT
  have HTS := Lib.hid (show TmS l.length L G (vI l 0) (mI l 0) wc from ⟨vs0, gs0, hmz, fun x hx => HMG.out x hx, hLb, hgz, fun x m hx hm => HGG.out (x * 10 + m) (by omega), hGb⟩)
  have hTz := hT.lt; have hLz := hLb.lt; have hGz := hGb.lt
  have hwT : w.heap.size < T := by have := HZ1.out; omega
  have hwL : w.heap.size < L := by have := HZ1.out; omega
  have hwG : w.heap.size < G := by have := HZ1.out; omega
  clear hmk hmk2 hmz hgz HMG HGG hR hB0 hT hLb hGb hB1 HZ1 hT1 hL1 hG1
  go_upto_region 6 with fail
  go_loopw [5, 27] (fun vf vi wr => ∃ i : Nat, i ≤ l.length ∧ vi = .int .i64 i ∧ vf = .int .i64 (lfT (l.take i) : Nat) ∧ (∃ s, trT l i = some s) ∧ TmS l.length L G (vI l i) (mI l i) wr ∧ KpA (fun k => k = L ∨ k = G) wc wr) (fun _ vi _ => l.length - (intOf vi).toNat)
  case atStart => exact ⟨0, Nat.zero_le _, rfl, rfl, ⟨[], rfl⟩, HTS.out, KpA.refl _ _⟩
  case round =>
    clear HTS
    obtain ⟨i, hi, rfl, rfl, ⟨s, hs⟩, hS, hKp⟩ := hrel
    by_cases hlt : i < l.length
    · have hii : (i : Int) < (l.length : Int) := by omega
      have hd : decide (i < l.length) = true := by rw [decide_eq_true_iff]; omega
      have hdI : decide ((i : Int) < (l.length : Int)) = true := by rw [decide_eq_true_iff]; omega
      have xi : IntKind.i64.wrap ((i : Int) + 1) = (i : Int) + 1 := IntWalk.i64_in _ (by omega)
      have hne : l ≠ [] := by rintro rfl; simp at hlt
      have hNw : NodesAt l a wr := HN.out.below (HBc.out.trans (hKp.toBelow (n := w.heap.size) HBc.out.size (by rintro k (h | h) <;> omega)))
      obtain ⟨g, off, rfl, hg, hc⟩ := hNw hne
      have d0 := hc i hlt 0 (by decide); have d1 := hc i hlt 1 (by decide); have d2 := hc i hlt 2 (by decide); have d3 := hc i hlt 3 (by decide); have d4 := hc i hlt 4 (by decide); have d5 := hc i hlt 5 (by decide); have d6 := hc i hlt 6 (by decide); have d7 := hc i hlt 7 (by decide)
      simp only [ndA, List.getElem?_toArray, List.getElem?_cons_zero, List.getElem?_cons_succ, Nat.add_zero] at d0 d1 d2 d3 d4 d5 d6 d7
      have hfine := dev_fine l i s hs hlt
      have hbad := right_bad l i s hs hlt
      have HNW := Lib.hid hNw
      have HST := Lib.hid (fun W (hW : NodesAt l (some ⟨g, off, none⟩) W) h1 h2 => stands_calls l hl i hlt (some ⟨g, off, none⟩) cap L (some ⟨G, 0, none⟩) (lowV l) (by have := lowV_le l (i - 1); omega) W hW h1 h2)
      have HLE := Lib.hid (fun ps h1 h2 K h3 h4 W (hW : NodesAt l (some ⟨g, off, none⟩) W) h5 h6 h7 => learn_calls l hl i hlt (some ⟨g, off, none⟩) cap L G hLG (vI l i) (mI l i) (fun m _ => if_neg (Nat.lt_irrefl i)) ps h1 h2 K h3 h4 W hW h5 h6 h7)
      have HDP := Lib.hid (dev_parts l i hlt)
      have HDS := Lib.hid (dev_step l i s hs hlt)
      have HMORE := Lib.hid (trT_more l i s hs hlt)
      have HLF := Lib.hid (lf_step l i hlt)
      have HNEW := Lib.hid (noT_new l l[i] (loT l i) i (by omega))
      generalize l[i] = x at *
      obtain ⟨k, kc, kn, km, t⟩ := x
      simp only at d0 d1 d2 d3 d4 d5 d6 d7 hfine
      have HFINE := Lib.hid hfine
      have HBAD := Lib.hid hbad
      have hB2 : Below wr.heap.size wr (wr.alloc (.cells (ndI k kc kn km t) 60)) := (Below.refl _ _).alloc (Nat.le_refl _) _
      have HS2 := Lib.hid (hS.below hB2)
      have HKp2 := Lib.hid (hKp.below hB2)
      have hX := Blk.new wr (ndI k kc kn km t) 60
      have HNW2 := Lib.hid (HNW.out.below hB2)
      have hwcr := hKp.size
      clear hfine hbad hS hKp hNw hc hne HNW hB2
      go_upto_region 8 with fail
      clear d0 d1 d2 d3 d4 d5 d6 d7
      generalize wr.alloc (.cells (ndI k kc kn km t) 60) = w3 at *
      generalize wr.heap.size = xb at *
      have HX := Lib.hid hX
      have n0 := hX.cell 0; have n1 := hX.cell 1; have n2 := hX.cell 2; have n3 := hX.cell 3; have n4 := hX.cell 4; have n5 := hX.cell 5; have n6 := hX.cell 6; have n7 := hX.cell 7
      simp only [List.getElem?_toArray, List.getElem?_cons_zero, List.getElem?_cons_succ] at n0 n1 n2 n3 n4 n5 n6 n7
      clear hX
      go_wp2_with fail
      refine (named_calls k kc kn km t _).mono ?_
      rintro e w4 ⟨rfl, hb⟩
      clear n0 n1 n2 n3 n4 n5 n6 n7
      have HX4 := Lib.hid (HX.out.below hb HX.out.lt)
      have HS4 := Lib.hid (HS2.out.below hb)
      have HKp4 := Lib.hid (HKp2.out.below hb)
      have HN4 := Lib.hid (HNW2.out.below hb)
      clear HX HS2 HKp2 HNW2 hb
      cases hnm : namB k km t with
      | false =>
        have HF := Lib.hid (HBAD.out (by
          cases hf : fineT l s i ⟨k, kc, kn, km, t⟩ with
          | false => rfl
          | true => have := (HFINE.out.1 hf).1; rw [hnm] at this; cases this))
        have HR := Lib.hid (HRc.out.kpA HKp4.out (by rintro (h | h) <;> omega))
        have HBW := Lib.hid (HBc.out.trans (HKp4.out.toBelow (n := w.heap.size) HBc.out.size (by rintro k (h | h) <;> omega)))
        clear HST HLE HDP HDS HMORE HLF HNEW HFINE HBAD HS4 HX4 HN4 HKp4 hnm
        have r0 := HR.out.cell 0; have r1 := HR.out.cell 1; have r2 := HR.out.cell 2
        have s0 := HR.out.frozen 0; have s1 := HR.out.frozen 1; have s2 := HR.out.frozen 2
        simp only [List.getElem?_toArray, List.getElem?_cons_zero, List.getElem?_cons_succ] at r0 r1 r2
        have HR2 := Lib.hid (((HR.out.set 0 (.slice none 0 0)).set 1 (.slice none 0 0)).set 2 (.slice none 0 0))
        have HB2 := Lib.hid (below_set (below_set (below_set HBW.out (Nat.le_refl _) 0 (.slice none 0 0)) (Nat.le_refl _) 1 (.slice none 0 0)) (Nat.le_refl _) 2 (.slice none 0 0))
        clear HR HBW
        go_wp2_with fail
        exact bodyPost_ret (v := .tuple #[.agg (tmC none 0 0 none none), .bool false]) (results_tm _ _ w.heap.size (tmC none 0 0 none none) HR2.out rfl rfl) rfl ⟨HB2.out, .inl ⟨HF.out, none, 0, 0, none, none, rfl⟩⟩
      | true =>
      have hT4 := HTc.out.kpA HKp4.out (by rintro (h | h) <;> omega)
      have t0 := hT4.cell 0; have t1 := hT4.cell 1; have t2 := hT4.cell 2
      simp only [List.getElem?_toArray, List.getElem?_cons_zero, List.getElem?_cons_succ] at t0 t1 t2
      clear hT4
      go_wp2_with fail
      refine (HST.out _ HN4.out (Nat.lt_of_lt_of_le hLz HKp4.out.size) (fun h0 => by rw [(HS4.out.low (i - 1) (by omega)).1, vI, if_pos (by omega)])).mono ?_
      rintro e w5 ⟨rfl, hb⟩
      clear t0 t1 t2 HST
      have HX5 := Lib.hid (HX4.out.below hb HX4.out.lt)
      have HS5 := Lib.hid (HS4.out.below hb)
      have HKp5 := Lib.hid (HKp4.out.below hb)
      have HN5 := Lib.hid (HN4.out.below hb)
      clear HX4 HS4 HKp4 HN4 hb
      cases hst : stB (lowV l) i k kc kn with
      | false =>
        have HF := Lib.hid (HBAD.out (by
          cases hf : fineT l s i ⟨k, kc, kn, km, t⟩ with
          | false => rfl
          | true => have := (HFINE.out.1 hf).2.1; rw [hst] at this; cases this))
        have HR := Lib.hid (HRc.out.kpA HKp5.out (by rintro (h | h) <;> omega))
        have HBW := Lib.hid (HBc.out.trans (HKp5.out.toBelow (n := w.heap.size) HBc.out.size (by rintro k (h | h) <;> omega)))
        clear HLE HDP HDS HMORE HLF HNEW HFINE HBAD HS5 HX5 HN5 HKp5 hnm hst
        have r0 := HR.out.cell 0; have r1 := HR.out.cell 1; have r2 := HR.out.cell 2
        have s0 := HR.out.frozen 0; have s1 := HR.out.frozen 1; have s2 := HR.out.frozen 2
        simp only [List.getElem?_toArray, List.getElem?_cons_zero, List.getElem?_cons_succ] at r0 r1 r2
        have HR2 := Lib.hid (((HR.out.set 0 (.slice none 0 0)).set 1 (.slice none 0 0)).set 2 (.slice none 0 0))
        have HB2 := Lib.hid (below_set (below_set (below_set HBW.out (Nat.le_refl _) 0 (.slice none 0 0)) (Nat.le_refl _) 1 (.slice none 0 0)) (Nat.le_refl _) 2 (.slice none 0 0))
        clear HR HBW
        go_wp2_with fail
        exact bodyPost_ret (v := .tuple #[.agg (tmC none 0 0 none none), .bool false]) (results_tm _ _ w.heap.size (tmC none 0 0 none none) HR2.out rfl rfl) rfl ⟨HB2.out, .inl ⟨HF.out, none, 0, 0, none, none, rfl⟩⟩
      | true =>
      obtain ⟨ps, hp1, hp2, hp3, hp4⟩ := HDP.out hst
      obtain ⟨K, hK, hKm⟩ : ∃ K : Nat, K < 10 ∧ (k = 7 → km = K) := by
        by_cases h7 : k = 7
        · have h := hnm
          unfold namB at h
          rw [if_pos h7, Bool.and_eq_true, Bool.and_eq_true, decide_eq_true_iff, decide_eq_true_iff] at h
          exact ⟨km.toNat, by omega, fun _ => by omega⟩
        · exact ⟨0, by omega, fun h => absurd h h7⟩
      have HLE2 := Lib.hid (HLE.out ps hp1 hp2 K hK hKm)
      have HDS2 := Lib.hid (fun hf => HDS.out hf ps hp2 hp3 hp4 K hKm)
      have HLN : Hid (lnB k (mkF (mI l i) ps) K = true ↔ noT l ⟨k, kc, kn, km, t⟩ (loT l i) i = true) := Lib.hid (by
        have e2 : mkF (mI l i) ps = mkF (mkG l) ps := mkF_congr _ _ _ fun p hp => by funext m; exact if_pos (hp2 p hp)
        rw [e2]
        unfold lnB
        by_cases h7 : k = 7
        · rw [if_pos h7, hp4 K, HNEW.out h7 K (hKm h7)]
        · rw [if_neg h7]
          exact ⟨fun _ => decide_eq_true (fun h => absurd h h7), fun _ => rfl⟩)
      have hT5 := HTc.out.kpA HKp5.out (by rintro (h | h) <;> omega)
      have t0 := hT5.cell 0; have t1 := hT5.cell 1; have t2 := hT5.cell 2
      simp only [List.getElem?_toArray, List.getElem?_cons_zero, List.getElem?_cons_succ] at t0 t1 t2
      clear hT5 HLE HDP HDS HNEW hp1 hp2 hp3 hp4
      go_wp2_with fail
      refine (HLE2.out _ HN5.out (Nat.lt_of_lt_of_le hLz HKp5.out.size) (Nat.lt_of_lt_of_le hGz HKp5.out.size) HS5.out).mono ?_
      rintro e w6 ⟨rfl, hS6, hk6⟩
      clear t0 t1 t2 HLE2
      have HX6 := Lib.hid (HX5.out.kpA hk6 (by rintro (h | h) <;> omega))
      have HKp6 := Lib.hid (HKp5.out.trans hk6)
      clear HX5 HS5 HKp5 HN5 hk6
      cases hln : lnB k (mkF (mI l i) ps) K with
      | false =>
        have HF := Lib.hid (HBAD.out (by
          cases hf : fineT l s i ⟨k, kc, kn, km, t⟩ with
          | false => rfl
          | true => have := HLN.out.2 (HFINE.out.1 hf).2.2; rw [hln] at this; cases this))
        have HR := Lib.hid (HRc.out.kpA HKp6.out (by rintro (h | h) <;> omega))
        have HBW := Lib.hid (HBc.out.trans (HKp6.out.toBelow (n := w.heap.size) HBc.out.size (by rintro k (h | h) <;> omega)))
        clear HDS2 HMORE HLF HLN HFINE HBAD hS6 HX6 HKp6 hnm hst hln
        have r0 := HR.out.cell 0; have r1 := HR.out.cell 1; have r2 := HR.out.cell 2
        have s0 := HR.out.frozen 0; have s1 := HR.out.frozen 1; have s2 := HR.out.frozen 2
        simp only [List.getElem?_toArray, List.getElem?_cons_zero, List.getElem?_cons_succ] at r0 r1 r2
        have HR2 := Lib.hid (((HR.out.set 0 (.slice none 0 0)).set 1 (.slice none 0 0)).set 2 (.slice none 0 0))
        have HB2 := Lib.hid (below_set (below_set (below_set HBW.out (Nat.le_refl _) 0 (.slice none 0 0)) (Nat.le_refl _) 1 (.slice none 0 0)) (Nat.le_refl _) 2 (.slice none 0 0))
        clear HR HBW
        go_wp2_with fail
        exact bodyPost_ret (v := .tuple #[.agg (tmC none 0 0 none none), .bool false]) (results_tm _ _ w.heap.size (tmC none 0 0 none none) HR2.out rfl rfl) rfl ⟨HB2.out, .inl ⟨HF.out, none, 0, 0, none, none, rfl⟩⟩
      | true =>
      have hf := HFINE.out.2 ⟨hnm, hst, HLN.out.1 hln⟩
      have HTR := Lib.hid (HMORE.out hf)
      obtain ⟨q1, q2⟩ := HDS2.out hf
      have HS7 := Lib.hid (hS6.congr (fun x _ => q1 x) (fun x m _ _ => q2 x m))
      have n0 := HX6.out.cell 0
      simp only [List.getElem?_toArray, List.getElem?_cons_zero] at n0
      have hlfb : lfT (l.take i) ≤ i := by
        unfold lfT
        refine Nat.le_trans List.countP_le_length ?_
        rw [List.length_map, List.length_take]
        omega
      have HLF2 := Lib.hid HLF.out
      clear hf hS6 q1 q2 HDS2 HMORE HLN HFINE HBAD HX6 hnm hst hln HLF
      by_cases hk2 : k = 2
      · subst hk2
        have xl : IntKind.i64.wrap ((lfT (l.take i) : Int) + 1) = ((lfT (l.take i) + 1 : Nat) : Int) := by rw [IntWalk.i64_in _ (by omega)]; omega
        have HLF3 := Lib.hid (show lfT (l.take (i + 1)) = lfT (l.take i) + 1 from HLF2.out)
        clear HLF2
        go_wp2_with fail
        go_roundw
        case rel => exact ⟨i + 1, by omega, by simp, by rw [HLF3.out]; rfl, ⟨_, HTR.out⟩, HS7.out, HKp6.out⟩
        case measure => simp [intOf]; omega
      · have qk2 : (k == 2) = false := by rw [beq_eq_false_iff_ne]; exact hk2
        have HLF3 := Lib.hid (show lfT (l.take (i + 1)) = lfT (l.take i) from by rw [HLF2.out, if_neg (by rw [qk2]; decide)]; rfl)
        clear HLF2
        go_wp2_with fail
        go_roundw
        case rel => exact ⟨i + 1, by omega, by simp, by rw [HLF3.out], ⟨_, HTR.out⟩, HS7.out, HKp6.out⟩
        case measure => simp [intOf]; omega
    · obtain rfl : i = l.length := by omega
      have hdI : decide ((l.length : Int) < (l.length : Int)) = false := by simp
      have HRT := Lib.hid (right_end l s hs (by omega))
      rw [List.take_of_length_le (Nat.le_refl _)]
      have HRw := Lib.hid (HRc.out.kpA hKp (by rintro (h | h) <;> omega))
      have hTw := HTc.out.kpA hKp (by rintro (h | h) <;> omega)
      have HBW := Lib.hid (HBc.out.trans (hKp.toBelow (n := w.heap.size) HBc.out.size (by rintro k (h | h) <;> omega)))
      have t0 := hTw.cell 0; have t1 := hTw.cell 1; have t2 := hTw.cell 2
      simp only [List.getElem?_toArray, List.getElem?_cons_zero, List.getElem?_cons_succ] at t0 t1 t2
      have hlp : 0 < l.length := by omega
      have cl := (hS.low (l.length - 1) (by omega)).1
      rw [vI, if_pos (by omega)] at cl
      have HSw := Lib.hid hS
      have HKw := Lib.hid hKp
      have r0 := HRw.out.cell 0; have r1 := HRw.out.cell 1; have r2 := HRw.out.cell 2
      have s0 := HRw.out.frozen 0; have s1 := HRw.out.frozen 1; have s2 := HRw.out.frozen 2
      simp only [List.getElem?_toArray, List.getElem?_cons_zero, List.getElem?_cons_succ] at r0 r1 r2
      have x1 : IntKind.i64.wrap ((l.length : Int) - 1) = ((l.length - 1 : Nat) : Int) := by rw [IntWalk.i64_in _ (by omega)]; omega
      have hiI : ((l.length - 1 : Nat) : Int) < (l.length : Int) := by omega
      have hid : decide (l.length - 1 < l.length) = true := by rw [decide_eq_true_iff]; omega
      have HR2 := Lib.hid (((HRw.out.set 0 (.slice a l.length cap)).set 1 (.slice (some ⟨L, 0, none⟩) l.length l.length)).set 2 (.slice (some ⟨G, 0, none⟩) l.length l.length)).drew
      have HB2 := Lib.hid (below_set (below_set (below_set HBW.out (Nat.le_refl _) 0 (.slice a l.length cap)) (Nat.le_refl _) 1 (.slice (some ⟨L, 0, none⟩) l.length l.length)) (Nat.le_refl _) 2 (.slice (some ⟨G, 0, none⟩) l.length l.length))
      have hk1 := (KpA.refl (fun k => k = w.heap.size) wr).set (g := w.heap.size) (.inl rfl) 0 (.slice a l.length cap)
      have hk2 := hk1.set (g := w.heap.size) (.inl rfl) 1 (.slice (some ⟨L, 0, none⟩) l.length l.length)
      have hk3 := hk2.set (g := w.heap.size) (.inl rfl) 2 (.slice (some ⟨G, 0, none⟩) l.length l.length)
      have HS2 := Lib.hid (HSw.out.kp hk3 (show ¬ L = w.heap.size by omega) (show ¬ G = w.heap.size by omega))
      clear hk1 hk2 hk3
      have hwl := hKp.size
      generalize hlv : lowV l (l.length - 1) = lo at *
      clear hS hKp hTw HRw HBW
      generalize hlf : lfT l = lf at *
      clear hlf hlv
      by_cases h64 : lf ≤ 64
      · have hq : decide (lf ≤ 64) = true := decide_eq_true h64
        have hqI : decide ((lf : Int) ≤ 64) = true := by rw [decide_eq_true_iff]; omega
        go_upto_region 13 with fail
        go_region
        have HB3 := Lib.hid (show Below w.heap.size w (((wr.setCell ⟨w.heap.size, 0, none⟩ (.slice a l.length cap)).setCell ⟨w.heap.size, 1, none⟩ (.slice (some ⟨L, 0, none⟩) l.length l.length)).setCell ⟨w.heap.size, 2, none⟩ (.slice (some ⟨G, 0, none⟩) l.length l.length)).drew from ⟨HB2.out.os, HB2.out.tape, HB2.out.output, HB2.out.size, HB2.out.block⟩)
        have HS3 := Lib.hid HS2.out.drew
        have hzL : L < (((wr.setCell ⟨w.heap.size, 0, none⟩ (.slice a l.length cap)).setCell ⟨w.heap.size, 1, none⟩ (.slice (some ⟨L, 0, none⟩) l.length l.length)).setCell ⟨w.heap.size, 2, none⟩ (.slice (some ⟨G, 0, none⟩) l.length l.length)).drew.heap.size := by simpa using (show L < wr.heap.size by omega)
        have hzG : G < (((wr.setCell ⟨w.heap.size, 0, none⟩ (.slice a l.length cap)).setCell ⟨w.heap.size, 1, none⟩ (.slice (some ⟨L, 0, none⟩) l.length l.length)).setCell ⟨w.heap.size, 2, none⟩ (.slice (some ⟨G, 0, none⟩) l.length l.length)).drew.heap.size := by simpa using (show G < wr.heap.size by omega)
        clear HB2 HS2 HSw HKw r0 r1 r2 s0 s1 s2 t0 t1 t2 cl
        generalize (((wr.setCell ⟨w.heap.size, 0, none⟩ (.slice a l.length cap)).setCell ⟨w.heap.size, 1, none⟩ (.slice (some ⟨L, 0, none⟩) l.length l.length)).setCell ⟨w.heap.size, 2, none⟩ (.slice (some ⟨G, 0, none⟩) l.length l.length)).drew = w9 at *
        by_cases h0 : lo = 0
        · subst h0
          have HT := Lib.hid (show rightT l = true from by rw [HRT.out]; exact decide_eq_true ⟨by omega, h64, rfl⟩)
          clear HRT
          go_wp2_with fail
          exact bodyPost_ret (v := .tuple #[.agg (tmC a l.length cap (some ⟨L, 0, none⟩) (some ⟨G, 0, none⟩)), .bool true]) (results_tm _ _ w.heap.size _ HR2.out rfl rfl) rfl ⟨HB3.out, .inr ⟨HT.out, L, G, rfl, by omega, by omega, hzL, hzG, HS3.out⟩⟩
        · have q0 : ((lo : Int) == 0) = false := by rw [beq_eq_false_iff_ne]; omega
          have HF := Lib.hid (show rightT l = false from by rw [HRT.out]; exact decide_eq_false fun h => h0 h.2.2)
          clear HRT
          rw [q0]
          go_wp2_with fail
          exact bodyPost_ret (v := .tuple #[.agg (tmC a l.length cap (some ⟨L, 0, none⟩) (some ⟨G, 0, none⟩)), .bool false]) (results_tm _ _ w.heap.size _ HR2.out rfl rfl) rfl ⟨HB3.out, .inl ⟨HF.out, _, _, _, _, _, rfl⟩⟩
      · have hq : decide (lf ≤ 64) = false := decide_eq_false h64
        have hqI : decide ((lf : Int) ≤ 64) = false := by rw [decide_eq_false_iff_not]; omega
        go_upto_region 13 with fail
        go_region
        have HB3 := Lib.hid (show Below w.heap.size w (((wr.setCell ⟨w.heap.size, 0, none⟩ (.slice a l.length cap)).setCell ⟨w.heap.size, 1, none⟩ (.slice (some ⟨L, 0, none⟩) l.length l.length)).setCell ⟨w.heap.size, 2, none⟩ (.slice (some ⟨G, 0, none⟩) l.length l.length)).drew from ⟨HB2.out.os, HB2.out.tape, HB2.out.output, HB2.out.size, HB2.out.block⟩)
        have HF := Lib.hid (show rightT l = false from by rw [HRT.out]; exact decide_eq_false fun h => h64 h.2.1)
        clear HB2 HS2 HSw HKw HRT r0 r1 r2 s0 s1 s2 t0 t1 t2 cl
        generalize (((wr.setCell ⟨w.heap.size, 0, none⟩ (.slice a l.length cap)).setCell ⟨w.heap.size, 1, none⟩ (.slice (some ⟨L, 0, none⟩) l.length l.length)).setCell ⟨w.heap.size, 2, none⟩ (.slice (some ⟨G, 0, none⟩) l.length l.length)).drew = w9 at *
        go_wp2_with fail
        exact bodyPost_ret (v := .tuple #[.agg (tmC a l.length cap (some ⟨L, 0, none⟩) (some ⟨G, 0, none⟩)), .bool false]) (results_tm _ _ w.heap.size _ HR2.out rfl rfl) rfl ⟨HB3.out, .inl ⟨HF.out, _, _, _, _, _, rfl⟩⟩
end Go.Proofs.YtdpkhliojbeglaaDoor

/- What is found, plainly: the first beginning, the farthest end. Stage 15. -/
namespace Go.Proofs.YtdpkhliojbeglaaDoor
open Go.RowKit

/-- The greatest number from i to j of which something holds. -/
def lastO (P : Nat → Bool) (i : Nat) : Nat → Option Nat
  | 0 => if i = 0 ∧ P 0 = true then some 0 else none
  | j + 1 => if j + 1 < i then none else if P (j + 1) = true then some (j + 1) else lastO P i j
theorem last_some (P : Nat → Bool) (i : Nat) : ∀ j k, lastO P i j = some k → i ≤ k ∧ k ≤ j ∧ P k = true ∧ ∀ m, m ≤ j → i ≤ m → P m = true → m ≤ k
  | 0, k, h => by
    unfold lastO at h
    split at h
    · rename_i hc; cases h; exact ⟨by omega, Nat.le_refl _, hc.2, fun m h1 _ _ => h1⟩
    · cases h
  | j + 1, k, h => by
    unfold lastO at h
    split at h
    · cases h
    · split at h
      · rename_i h1 h2; cases h; exact ⟨by omega, Nat.le_refl _, h2, fun m h1 _ _ => h1⟩
      · rename_i h1 h2
        obtain ⟨a, b, c, d⟩ := last_some P i j k h
        refine ⟨a, by omega, c, fun m m1 m2 m3 => ?_⟩
        by_cases hm : m = j + 1
        · subst hm; exact absurd m3 h2
        · exact d m (by omega) m2 m3
theorem last_none (P : Nat → Bool) (i : Nat) : ∀ j, lastO P i j = none → ∀ m, m ≤ j → i ≤ m → P m = false
  | 0, h, m, h1, h2 => by
    unfold lastO at h
    split at h
    · cases h
    · rename_i hc
      obtain rfl : m = 0 := by omega
      exact Bool.eq_false_iff.2 fun h3 => hc ⟨by omega, h3⟩
  | j + 1, h, m, h1, h2 => by
    unfold lastO at h
    split at h
    · omega
    · split at h
      · cases h
      · rename_i _ h3
        by_cases hm : m = j + 1
        · subst hm; exact Bool.eq_false_iff.2 h3
        · exact last_none P i j h m (by omega) h2
/-- The first place from i on at which something begins; the last one to which it goes. -/
def findF (c : Nat → Nat → Bool) (n : Nat) : Nat → Nat → Option (Nat × Nat)
  | 0, _ => none
  | m + 1, i => match lastO (c i) i n with
    | some j => some (i, j)
    | none => findF c n m (i + 1)
theorem find_some (c : Nat → Nat → Bool) (n : Nat) : ∀ m i a b, findF c n m i = some (a, b) → i ≤ a ∧ a ≤ b ∧ b ≤ n ∧ c a b = true ∧ ∀ x y, i ≤ x → x ≤ y → y ≤ n → c x y = true → a < x ∨ a = x ∧ y ≤ b
  | 0, _, _, _, h => by cases h
  | m + 1, i, a, b, h => by
    unfold findF at h
    cases hl : lastO (c i) i n with
    | some j =>
      rw [hl] at h
      cases h
      obtain ⟨h1, h2, h3, h4⟩ := last_some _ _ _ _ hl
      refine ⟨Nat.le_refl _, h1, h2, h3, fun x y x1 x2 x3 x4 => ?_⟩
      by_cases hx : x = i
      · subst hx; exact .inr ⟨rfl, h4 y x3 x2 x4⟩
      · exact .inl (by omega)
    | none =>
      rw [hl] at h
      obtain ⟨h1, h2, h3, h4, h5⟩ := find_some c n m (i + 1) a b h
      refine ⟨by omega, h2, h3, h4, fun x y x1 x2 x3 x4 => ?_⟩
      by_cases hx : x = i
      · subst hx
        rw [last_none _ _ _ hl y x3 x2] at x4
        cases x4
      · exact h5 x y (by omega) x2 x3 x4
theorem find_none (c : Nat → Nat → Bool) (n : Nat) : ∀ m i, n < i + m → findF c n m i = none → ∀ x y, i ≤ x → x ≤ y → y ≤ n → c x y = false
  | 0, i, hm, _, x, y, x1, x2, x3 => by omega
  | m + 1, i, hm, h, x, y, x1, x2, x3 => by
    unfold findF at h
    cases hl : lastO (c i) i n with
    | some j => rw [hl] at h; cases h
    | none =>
      rw [hl] at h
      by_cases hx : x = i
      · subst hx; exact last_none _ _ _ hl y x3 x2
      · exact find_none c n m (i + 1) (by omega) h x y (by omega) x2 x3
/-- What is found of a term. -/
def findT (l : List NdN) (w : List Nat) : Option (Nat × Nat) := findF (canB l w (l.length - 1)) w.length (w.length + 1) 0

/-- All places moved on. -/
def shF (a : Nat) : Fo → Fo
  | .nil => .nil
  | .cons n f e ks rest => .cons n (f + a) (e + a) (shF a ks) (shF a rest)
theorem roots_sh (a : Nat) : ∀ ks, rootsO (shF a ks) = (rootsO ks).map fun r => (r.1, r.2.1 + a, r.2.2 + a)
  | .nil => rfl
  | .cons n f e ks rest => by simp only [shF, rootsO, List.map_cons, roots_sh a rest]
theorem fl_sh (a : Nat) : ∀ (ks : Fo) (d : Int), flF d (shF a ks) = (flF d ks).map fun x => ⟨x.depth, x.node, x.from_ + a, x.to + a⟩
  | .nil, _ => rfl
  | .cons n f e ks rest, d => by
    simp only [shF, flF, List.map_cons, List.map_append, fl_sh a ks, fl_sh a rest, List.cons.injEq, and_true]
    simp
/-- Bytes that stand in others from a on. -/
def CutW (w v : List Nat) (a : Nat) : Prop := a + v.length ≤ w.length ∧ ∀ i, i < v.length → v.getD i 0 = w.getD (i + a) 0
theorem chain_sh (p a : Nat) : ∀ (R : List (Nat × Nat × Nat)) (f e : Nat), chainR p f e R → chainR p (f + a) (e + a) (R.map fun r => (r.1, r.2.1 + a, r.2.2 + a))
  | [], f, e, h => by have h' : f = e := h; show f + a = e + a; omega
  | (n, f', m) :: R, f, e, h => by
    obtain ⟨h1, h2, h3, h4, h5⟩ := h
    exact ⟨h1, by show f' + a = f + a; omega, by show f + a < m + a; omega, by show m + a ≤ e + a; omega, chain_sh p a R m e h5⟩
theorem node_sh {x : NdN} {w v : List Nat} {a : Nat} (hc : CutW w v a) {f e : Nat} {R : List (Nat × Nat × Nat)} (h : nodeOk x v f e R) : nodeOk x w (f + a) (e + a) (R.map fun r => (r.1, r.2.1 + a, r.2.2 + a)) := by
  obtain ⟨h1, h2, c⟩ := h
  obtain ⟨hl, hw⟩ := hc
  refine ⟨by omega, by omega, ?_⟩
  rcases c with ⟨k, h, r⟩ | ⟨k, h, h', r⟩ | ⟨k, p, q, m, hp, hq, r⟩ | ⟨k, p, hp, r⟩ | ⟨k, p, hp, r⟩ | ⟨k, r⟩ | ⟨k, p, hp, r⟩
  · exact .inl ⟨k, by omega, by rw [r]; rfl⟩
  · exact .inr (.inl ⟨k, by omega, by rw [← hw f (by omega)]; exact h', by rw [r]; rfl⟩)
  · exact .inr (.inr (.inl ⟨k, p, q, m + a, hp, hq, by rw [r]; rfl⟩))
  · exact .inr (.inr (.inr (.inl ⟨k, p, hp, by rw [r]; rfl⟩)))
  · exact .inr (.inr (.inr (.inr (.inl ⟨k, p, hp, chain_sh p a R f e r⟩))))
  · refine .inr (.inr (.inr (.inr (.inr (.inl ⟨k, ?_⟩)))))
    rcases r with ⟨h, r⟩ | ⟨h, p, hp, r⟩
    · exact .inl ⟨by omega, by rw [r]; rfl⟩
    · exact .inr ⟨by omega, p, hp, by rw [r]; rfl⟩
  · exact .inr (.inr (.inr (.inr (.inr (.inr ⟨k, p, hp, by rw [r]; rfl⟩)))))
theorem ok_sh {l : List NdN} {w v : List Nat} {a : Nat} (hc : CutW w v a) : ∀ ks, okF l v ks → okF l w (shF a ks)
  | .nil, _ => trivial
  | .cons n f e ks rest, h => ⟨by rw [roots_sh]; exact node_sh hc h.1, ok_sh hc ks h.2.1, ok_sh hc rest h.2.2⟩
end Go.Proofs.YtdpkhliojbeglaaDoor

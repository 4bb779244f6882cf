/- Texts put together: Tp Qi. -/
import Derived.Test.YtpncomjpmilbkaaDoorPU
import Derived.Test.YtpncomjpmilbkaaDoorPQ
import Derived.Test.YtpncomjpmilbkaaDoorPO
import Derived.Test.YtpncomjpmilbkaaDoorPJ
import Derived.Test.YtpncomjpmilbkaaDoorPY
/- The document's Lower. Stage 11. -/
namespace Go.Proofs.YtpncomjpmilbkaaDoor
open Go.RowKit BS

set_option maxRecDepth 100000 in
set_option maxHeartbeats 16000000 in
theorem rLower_calls (l : List NdN) (hl : l.length ≤ 1000) (a : Option Addr) (cap : Nat) (terms places states : Int) (w : World) (h : NodesAt l a w) :
    Calls Tryd.prog 13 #[.slice a l.length cap, .agg #[.int .i64 terms, .int .i64 places, .int .i64 states]] w fun e w' => ∃ v, e = .returned (.tuple #[v, .int .i64 (lwE l terms places : Nat)]) ∧ OwT w.heap.size v (lwT l terms places) w' ∧ Below w.heap.size w w' := by
  have hBA : Below w.heap.size w (w.alloc (.cells #[.int .i64 terms, .int .i64 places, .int .i64 states] 30)) := (Below.refl _ _).alloc (Nat.le_refl _) _
  have b0 := Blk.new w #[.int .i64 terms, .int .i64 places, .int .i64 states] 30
  have HN := Lib.hid h
  have hNA : NodesAt l a (w.alloc (.cells #[.int .i64 terms, .int .i64 places, .int .i64 states] 30)) := h.below hBA
  have HNA := Lib.hid hNA
  have HBA := Lib.hid hBA
  clear h hBA hNA
  generalize hw1 : w.alloc (.cells #[.int .i64 terms, .int .i64 places, .int .i64 states] 30) = w1 at *
  have HR := Lib.hid (rRight_calls l (by omega) a cap w1 HNA.out)
  cases hr : rightR l with
  | false =>
    have HE : lwE l terms places = 11 := by unfold lwE; rw [hr]; rfl
    have HT : lwT l terms places = [] := by unfold lwT; rw [HE]; rfl
    have HE' := Lib.hid HE
    have HT' := Lib.hid HT
    rw [hr] at HR
    clear HE HT hr
    go_enter Tryd.func13, Tryd.ntmps13
    go_upto_region 1 with fail
    clear hw1
    go_wp2_with fail
    refine HR.out.mono ?_
    rintro e w2 ⟨rfl, hb⟩
    have HB := Lib.hid (HBA.out.trans (hb.mono HBA.out.size))
    clear hb HR
    go_wp2_with fail
    exact bodyPost_ret (v := .tuple #[.slice none 0 0, .int .i64 11]) (by simp [results, Tryd.results13, go_sem]) rfl (by rw [HE'.out, HT'.out]; exact ⟨_, rfl, World.ownsRow_nil _ _ _ _, HB.out⟩)
  | true =>
    rw [hr] at HR
    have HLE := Lib.hid least_calls
    have hf := right_formed l hr
    have hpos := formed_pos l hf
    have hNL : (nullsR l).length = l.length := by rw [nullsR_is l hr, List.length_map, List.length_range]
    have hML : (numsR l).length = l.length := by rw [numsR_len, (formed_stack l hf).2.2.1]
    have x1 : IntKind.i64.wrap ((l.length : Int) - 1) = ((l.length - 1 : Nat) : Int) := by rw [IntWalk.i64_in _ (by omega)]; omega
    have hE : lwE l terms places = if largeB l terms places = true then 10 else 0 := if_pos hr
    have hsize : ∀ W, NodesAt l a W → Calls Tryd.prog 11 #[.slice a l.length cap] W fun e W' => e = .returned (.tuple #[.int .i64 (sizeN l : Nat), .int .i64 (sizeL l : Nat)]) ∧ Below W.heap.size W W' := fun W hW => rSize_calls l hl a cap W hW
    obtain ⟨n, hn⟩ : ∃ n, sizeN l = n := ⟨_, rfl⟩
    obtain ⟨m, hm⟩ : ∃ m, sizeL l = m := ⟨_, rfl⟩
    have hL : largeB l terms places = (decide (min terms 400 < (n : Int)) || (decide (min places 64 < (m : Int)) && decide (0 < m))) := by unfold largeB; rw [hn, hm]
    rw [hn, hm] at hsize
    have HSZ := Lib.hid hsize
    clear hsize
    go_enter Tryd.func13, Tryd.ntmps13
    go_upto_region 1 with fail
    clear hw1
    go_wp2_with fail
    refine HR.out.mono ?_
    rintro e w2 ⟨rfl, hb⟩
    have hs1 : w.heap.size < w1.heap.size := b0.lt
    have HB2 := Lib.hid (HBA.out.trans (hb.mono HBA.out.size))
    have HN2 := Lib.hid (HNA.out.below hb)
    have b2 := b0.below hb hs1
    clear hb HR b0
    go_wp2_with fail
    refine (HSZ.out w2 HN2.out).mono ?_
    rintro e w3 ⟨rfl, hb⟩
    have b3 := b2.below hb b2.lt
    have HB3 := Lib.hid (HB2.out.trans (hb.mono HB2.out.size))
    have HN3 := Lib.hid (HN2.out.below hb)
    have k0 := b3.cell 0
    have k1 := b3.cell 1
    have k2 := b3.lt
    clear hb b2 b3 HB2 HN2 HNA
    by_cases h1 : min terms 400 < (n : Int)
    · have q1 : decide (min terms 400 < (n : Int)) = true := decide_eq_true h1
      have HE := Lib.hid (show lwE l terms places = 10 from by rw [hE, hL, q1]; rfl)
      have HT := Lib.hid (show lwT l terms places = [] from if_neg (by rw [HE.out]; decide))
      clear hE hL hn hm HSZ
      go_wp2_with fail
      refine (HLE.out _ _ _).mono ?_
      rintro e wq ⟨rfl, rfl⟩
      go_wp2_with fail
      exact bodyPost_ret (v := .tuple #[.slice none 0 0, .int .i64 10]) (by simp [results, Tryd.results13, go_sem]) rfl (by rw [HE.out, HT.out]; exact ⟨_, rfl, World.ownsRow_nil _ _ _ _, HB3.out⟩)
    · have q1 : decide (min terms 400 < (n : Int)) = false := decide_eq_false h1
      by_cases h2 : min places 64 < (m : Int)
      · have q2 : decide (min places 64 < (m : Int)) = true := decide_eq_true h2
        by_cases h3 : 0 < m
        · have q3 : decide (0 < m) = true := decide_eq_true h3
          have q4 : decide ((0 : Int) < (m : Int)) = true := by rw [decide_eq_true_iff]; omega
          have HE := Lib.hid (show lwE l terms places = 10 from by rw [hE, hL, q1, q2, q3]; rfl)
          have HT := Lib.hid (show lwT l terms places = [] from if_neg (by rw [HE.out]; decide))
          clear hE hL hn hm HSZ
          go_wp2_with fail
          refine (HLE.out _ _ _).mono ?_
          rintro e wq ⟨rfl, rfl⟩
          go_wp2_with fail
          refine (HLE.out _ _ _).mono ?_
          rintro e wq ⟨rfl, rfl⟩
          go_wp2_with fail
          exact bodyPost_ret (v := .tuple #[.slice none 0 0, .int .i64 10]) (by simp [results, Tryd.results13, go_sem]) rfl (by rw [HE.out, HT.out]; exact ⟨_, rfl, World.ownsRow_nil _ _ _ _, HB3.out⟩)
        · have q3 : decide (0 < m) = false := decide_eq_false h3
          have q4 : decide ((0 : Int) < (m : Int)) = false := by rw [decide_eq_false_iff_not]; omega
          have HE0 := Lib.hid (show lwE l terms places = 0 from by rw [hE, hL, q1, q2, q3]; rfl)
          obtain ⟨_, hS4, _, hT0⟩ := lw_zero l terms places HE0.out
          have HT0 := Lib.hid hT0
          clear hE hL hn hm HSZ hT0
          go_wp2_with fail
          refine (HLE.out _ _ _).mono ?_
          rintro e wq ⟨rfl, rfl⟩
          go_wp2_with fail
          refine (HLE.out _ _ _).mono ?_
          rintro e wq ⟨rfl, rfl⟩
          have hnull := rNull_calls l hl a cap w3 HN3.out
          rw [hNL] at hnull
          have HNULL := Lib.hid hnull
          clear hnull
          go_wp2_with fail
          refine HNULL.out.mono ?_
          rintro e w4 ⟨b4, c4, rfl, hbo, hb4⟩
          have hnum := rNumbers_calls l (by omega) a cap w4 (HN3.out.below hb4)
          rw [hML] at hnum
          have HNUM := Lib.hid hnum
          have HBO := Lib.hid hbo
          have HB4 := Lib.hid (HB3.out.trans (hb4.mono HB3.out.size))
          have HN4 := Lib.hid (HN3.out.below hb4)
          clear hnum hbo hb4 HNULL
          go_wp2_with fail
          refine HNUM.out.mono ?_
          rintro e w5 ⟨b5, c5, rfl, hin, hb5⟩
          obtain ⟨gn, on, rfl, _, hgn, hcn⟩ := HBO.out (by intro h0; rw [h0] at hNL; simp at hNL; omega)
          obtain ⟨gm, rfl, hgm, hcm⟩ := hin (by intro h0; rw [h0] at hML; simp at hML; omega)
          have hnd : NdArg l a gn on gm 0 w5 := ⟨HN4.out.below hb5, Nat.lt_of_lt_of_le hgn hb5.size, fun x hx => by
            rw [hb5.cell (p := ⟨gn, on + x, none⟩) hgn, hcn x (by omega)]
            simp [nullsR_is l hr], hgm, fun x hx => by
            rw [Nat.zero_add, hcm x (by omega), List.getD_eq_getElem?_getD, List.getElem?_eq_getElem (by omega), Option.getD_some]⟩
          have HND := Lib.hid (rNode_calls l hr hl a cap gn on c4 gm 0 c5 l.length (l.length - 1) (by omega) (by omega) hS4 w5 hnd)
          have HB5 := Lib.hid (HB4.out.trans (hb5.mono HB4.out.size))
          clear hnd hb5 hcn hcm hin HNUM HBO
          go_wp2_with fail
          refine HND.out.mono ?_
          rintro e w6 ⟨g6, c6, rfl, ho6, hb6⟩
          have HO6 := Lib.hid (ho6.mono HB5.out.size)
          have HB6 := Lib.hid (HB5.out.trans (hb6.mono HB5.out.size))
          clear ho6 hb6 HND
          go_wp2_with fail
          exact bodyPost_ret (v := .tuple #[.slice (some ⟨g6, 0, none⟩) (enc (tmV l (l.length - 1))).length c6, .int .i64 0]) (by simp [results, Tryd.results13, go_sem]) rfl (by rw [HE0.out, HT0.out]; exact ⟨_, rfl, HO6.out, HB6.out⟩)
      · have q2 : decide (min places 64 < (m : Int)) = false := decide_eq_false h2
        have HE0 := Lib.hid (show lwE l terms places = 0 from by rw [hE, hL, q1, q2]; rfl)
        obtain ⟨_, hS4, _, hT0⟩ := lw_zero l terms places HE0.out
        have HT0 := Lib.hid hT0
        clear hE hL hn hm HSZ hT0
        go_wp2_with fail
        refine (HLE.out _ _ _).mono ?_
        rintro e wq ⟨rfl, rfl⟩
        go_wp2_with fail
        refine (HLE.out _ _ _).mono ?_
        rintro e wq ⟨rfl, rfl⟩
        have hnull := rNull_calls l hl a cap w3 HN3.out
        rw [hNL] at hnull
        have HNULL := Lib.hid hnull
        clear hnull
        go_wp2_with fail
        refine HNULL.out.mono ?_
        rintro e w4 ⟨b4, c4, rfl, hbo, hb4⟩
        have hnum := rNumbers_calls l (by omega) a cap w4 (HN3.out.below hb4)
        rw [hML] at hnum
        have HNUM := Lib.hid hnum
        have HBO := Lib.hid hbo
        have HB4 := Lib.hid (HB3.out.trans (hb4.mono HB3.out.size))
        have HN4 := Lib.hid (HN3.out.below hb4)
        clear hnum hbo hb4 HNULL
        go_wp2_with fail
        refine HNUM.out.mono ?_
        rintro e w5 ⟨b5, c5, rfl, hin, hb5⟩
        obtain ⟨gn, on, rfl, _, hgn, hcn⟩ := HBO.out (by intro h0; rw [h0] at hNL; simp at hNL; omega)
        obtain ⟨gm, rfl, hgm, hcm⟩ := hin (by intro h0; rw [h0] at hML; simp at hML; omega)
        have hnd : NdArg l a gn on gm 0 w5 := ⟨HN4.out.below hb5, Nat.lt_of_lt_of_le hgn hb5.size, fun x hx => by
          rw [hb5.cell (p := ⟨gn, on + x, none⟩) hgn, hcn x (by omega)]
          simp [nullsR_is l hr], hgm, fun x hx => by
          rw [Nat.zero_add, hcm x (by omega), List.getD_eq_getElem?_getD, List.getElem?_eq_getElem (by omega), Option.getD_some]⟩
        have HND := Lib.hid (rNode_calls l hr hl a cap gn on c4 gm 0 c5 l.length (l.length - 1) (by omega) (by omega) hS4 w5 hnd)
        have HB5 := Lib.hid (HB4.out.trans (hb5.mono HB4.out.size))
        clear hnd hb5 hcn hcm hin HNUM HBO
        go_wp2_with fail
        refine HND.out.mono ?_
        rintro e w6 ⟨g6, c6, rfl, ho6, hb6⟩
        have HO6 := Lib.hid (ho6.mono HB5.out.size)
        have HB6 := Lib.hid (HB5.out.trans (hb6.mono HB5.out.size))
        clear ho6 hb6 HND
        go_wp2_with fail
        exact bodyPost_ret (v := .tuple #[.slice (some ⟨g6, 0, none⟩) (enc (tmV l (l.length - 1))).length c6, .int .i64 0]) (by simp [results, Tryd.results13, go_sem]) rfl (by rw [HE0.out, HT0.out]; exact ⟨_, rfl, HO6.out, HB6.out⟩)
end Go.Proofs.YtpncomjpmilbkaaDoor

/- The developers' lower: may a node be nothing. Stage 11. -/
namespace Go.Proofs.YtpncomjpmilbkaaDoor
open Go.RowKit BS

/-- How many of the first kids may be nothing. -/
def cnN (l : List NdN) (K : List Int) (j : Nat) : Nat := (K.take j).countP fun k => nulV l k.toNat
theorem cn_step (l : List NdN) (K : List Int) (j : Nat) (h : j < K.length) : cnN l K (j + 1) = cnN l K j + (if nulV l K[j].toNat = true then 1 else 0) := by
  unfold cnN
  rw [List.take_succ_eq_append_getElem h, List.countP_append, List.countP_singleton]
theorem cn_le (l : List NdN) (K : List Int) (j : Nat) : cnN l K j ≤ K.length := Nat.le_trans List.countP_le_length (by rw [List.length_take]; omega)
theorem cn_any (l : List NdN) (K : List Int) : (0 < cnN l K K.length) ↔ ((K.map fun k => nulV l k.toNat).any id = true) := by
  unfold cnN
  rw [List.take_of_length_le (Nat.le_refl _), List.countP_pos_iff]
  simp
theorem cn_all (l : List NdN) (K : List Int) : (cnN l K K.length = K.length) ↔ ((K.map fun k => nulV l k.toNat).all id = true) := by
  unfold cnN
  rw [List.take_of_length_le (Nat.le_refl _), List.countP_eq_length]
  simp
/-- What the developers ask is what the document asks. -/
theorem nl_dev (l : List NdN) (hr : rightR l = true) (i : Nat) (hi : i < l.length) :
    (l[i].kind = 1 → nulV l i = true) ∧ (l[i].kind = 2 → nulV l i = false) ∧
    (l[i].kind = 4 → nulV l i = (decide (l[i].n = 0) || decide (0 < cnN l (kidsR l i) (kidsR l i).length))) ∧
    ((l[i].kind = 3 ∨ l[i].kind = 6) → nulV l i = decide (0 < cnN l (kidsR l i) (kidsR l i).length)) ∧
    (l[i].kind = 5 → nulV l i = decide ((cnN l (kidsR l i) (kidsR l i).length : Int) = l[i].kids)) := by
  have hf := right_formed l hr
  have e := nul_eq l hf i hi
  unfold nlN at e
  simp only [getD_z l i hi] at e
  have hkl := kids_len l hf i hi
  have h1 := cn_any l (kidsR l i)
  have h2 := cn_all l (kidsR l i)
  have h12 : (kidsR l i).length = 1 → ((((kidsR l i).map fun k => nulV l k.toNat).all id = true) ↔ (0 < cnN l (kidsR l i) (kidsR l i).length)) := fun h => by
    rw [h1]
    obtain ⟨y, hy⟩ := List.length_eq_one_iff.1 h
    rw [hy]
    simp
  refine ⟨fun h => ?_, fun h => ?_, fun h => ?_, fun h => ?_, fun h => ?_⟩
  · rw [e, h, if_pos rfl]
  · rw [e, h, if_neg (by omega), if_neg (by omega), if_neg (by omega), if_neg (by omega)]
  · rw [e, h, if_neg (by omega), if_neg (by omega), if_pos rfl]
    rcases node_right l hr i hi with ⟨hk, _⟩ | ⟨hk, _⟩ | ⟨_, hk, _⟩ | ⟨b, _, hK, hb, hn⟩ | ⟨hk, _⟩
    · omega
    · omega
    · omega
    · have hl1 : (kidsR l i).length = 1 := by rw [hK]; rfl
      obtain ⟨g1, g2, g3⟩ := (rightN_iff _ _).1 hn
      rw [Bool.eq_iff_iff]
      simp only [Bool.or_eq_true, beq_iff_eq, decide_eq_true_eq]
      rw [h12 hl1]
      constructor
      · rintro (h | h | h)
        · exact .inl (by omega)
        · exact .inl h
        · exact .inr h
      · rintro (h | h)
        · exact .inr (.inl h)
        · exact .inr (.inr h)
    · omega
  · rcases h with h | h
    · rw [e, h, if_neg (by omega), if_pos (.inl rfl)]
      rcases node_right l hr i hi with ⟨hk, _⟩ | ⟨hk, _⟩ | ⟨_, hk, hK, _⟩ | ⟨b, hk, _⟩ | ⟨hk, _⟩
      · omega
      · omega
      · rw [Bool.eq_iff_iff, decide_eq_true_eq, h12 (by rw [hK]; rfl)]
      · omega
      · omega
    · rw [e, h, if_neg (by omega), if_neg (by omega), if_neg (by omega), if_pos rfl, Bool.eq_iff_iff, decide_eq_true_eq, h1]
  · rw [e, h, if_neg (by omega), if_pos (.inr rfl), Bool.eq_iff_iff, decide_eq_true_eq, ← h2, ← hkl]
    omega
set_option maxRecDepth 100000 in
set_option maxHeartbeats 16000000 in
theorem mayBe_calls (l : List NdN) (hl : l.length ≤ 1000) (hr : rightR l = true) (nk i : Nat) (hi : i < l.length) (hik : i < nk) (a : Option Addr) (ca gk : Nat) (am : Option Addr) (cm gz : Nat) (w : World) (h : TreeN l nk i a gk am gz w) :
    Calls Tryd.prog 39 #[.agg (treeC l.length a ca gk am cm gz), .int .i64 i] w fun e w' => e = .returned (.bool (nulV l i)) ∧ Below w.heap.size w w' := by
  have hf := right_formed l hr
  obtain ⟨D1, D2, D4, D36, D5⟩ := nl_dev l hr i hi
  obtain ⟨g, off, rfl, hg, hc⟩ := h.nodes (by intro e; subst e; simp at hi)
  obtain ⟨kb, kcap, hq1, hq2⟩ := h.kids i hik
  have HT := Lib.hid h
  have hkl := kids_len l hf i hi
  have HKLT := Lib.hid (kid_lt l hf i hi)
  have HCS := Lib.hid (cn_step l (kidsR l i))
  have HCL := Lib.hid (cn_le l (kidsR l i))
  have hgk := h.kl
  have hgz := h.zl
  have d0 := hc i hi 0 (by decide); have d1 := hc i hi 1 (by decide); have d2 := hc i hi 2 (by decide)
  clear hc h
  have HK := Lib.hid hq2
  have hKl : (kidsR l i).length ≤ 1000 := Nat.le_trans (kids_le l i) hl
  have HK2 := Lib.hid (show ¬ l[i].kind = 1 → ¬ l[i].kind = 3 → ¬ l[i].kind = 4 → ¬ l[i].kind = 5 → ¬ l[i].kind = 6 → l[i].kind = 2 from fun h1 h3 h4 h5 h6 => by
    rcases node_right l hr i hi with ⟨hk, _⟩ | ⟨hk, _⟩ | ⟨_, hk, _⟩ | ⟨_, hk, _⟩ | ⟨hk, _⟩ <;> first | exact hk | omega)
  generalize kidsR l i = K at *
  obtain ⟨nv, hnv⟩ : ∃ b, b = nulV l i := ⟨_, rfl⟩
  rw [← hnv] at D1 D2 D4 D36 D5 ⊢
  clear hnv
  generalize l[i] = x at *
  obtain ⟨xk, xc, xn, xm, xt⟩ := x
  simp only [ndA, List.getElem?_toArray, List.getElem?_cons_zero, List.getElem?_cons_succ, Nat.add_zero] at d0 d1 d2
  simp only at D1 D2 D4 D36 D5 hkl
  have HD := Lib.hid (⟨D1, D2, D4, D36, D5⟩ : _ ∧ _ ∧ _ ∧ _ ∧ _)
  clear D1 D2 D4 D36 D5
  have hb1 : Below w.heap.size w (w.alloc (.cells (treeC l.length (some ⟨g, off, none⟩) ca gk am cm gz) 52)) := (Below.refl _ _).alloc (Nat.le_refl _) _
  have BT := Blk.new w (treeC l.length (some ⟨g, off, none⟩) ca gk am cm gz) 52
  have hii : (i : Int) < (l.length : Int) := by omega
  have q1 := (hb1.cell (p := ⟨gk, i, none⟩) hgk).trans hq1
  have HQ := Lib.hid (And.intro (And.intro d0 d1) d2)
  have HB := Lib.hid hb1
  have HBT := Lib.hid BT
  have t1 := BT.cell 1
  simp only [List.getElem?_toArray, List.getElem?_cons_zero, List.getElem?_cons_succ] at t1
  obtain ⟨KN, hKN⟩ : ∃ n, n = K.length := ⟨_, rfl⟩
  rw [← hKN] at q1 hq1 hKl hkl
  have HKN := Lib.hid hKN
  have hBlt := BT.lt
  clear hb1 BT d0 d1 d2 hKN
  go_enter Tryd.func39, Tryd.ntmps39
  go_upto_region 2 with fail
  generalize w.alloc (.cells (treeC l.length (some ⟨g, off, none⟩) ca gk am cm gz) 52) = w1 at *
  go_wp2_with fail
  go_loopw [5, 14] (fun vn vj wr => ∃ j : Nat, j ≤ KN ∧ vj = .int .i64 j ∧ vn = .int .i64 (cnN l K j : Nat) ∧ Below w1.heap.size w1 wr) (fun _ vj _ => KN - (intOf vj).toNat)
  case atStart => exact ⟨0, Nat.zero_le _, rfl, rfl, Below.refl _ _⟩
  case round =>
    obtain ⟨j, hj, rfl, rfl, hbr⟩ := hrel
    have HBR := Lib.hid (HBT.out.below hbr hBlt)
    have HBL := Lib.hid (HB.out.trans (hbr.mono HB.out.size))
    have t0 := HBR.out.cell 0; have t3 := HBR.out.cell 3
    simp only [List.getElem?_toArray, List.getElem?_cons_zero, List.getElem?_cons_succ] at t0 t3
    have HB0 := Lib.hid hbr
    clear hbr q1 t1
    by_cases hlt : j < KN
    · have hltK : j < K.length := by rw [← HKN.out]; exact hlt
      obtain ⟨kg, ko, rfl, hkg, hkc⟩ := HK.out (by intro e; rw [e] at hltK; simp at hltK)
      obtain ⟨hk1, hk2⟩ := HKLT.out K[j] (List.getElem_mem hltK)
      obtain ⟨kid, hkid⟩ : ∃ n : Nat, K[j] = (n : Int) := ⟨K[j].toNat, by omega⟩
      have r0 := (HBL.out.cell (p := ⟨kg, ko + j, none⟩) hkg).trans (hkc j hltK)
      have hki : kid < i := by omega
      have r1 := (HBL.out.cell (p := ⟨gz, kid, none⟩) hgz).trans (HT.out.nulls kid hki)
      have hcs := HCS.out j hltK
      rw [hkid] at r0 hcs
      rw [Int.toNat_natCast] at hcs
      have hcl := HCL.out j
      have hjj : (j : Int) < (KN : Int) := by omega
      have hkl2 : (kid : Int) < (l.length : Int) := by omega
      have hkl3 : kid < l.length := by omega
      have xj : IntKind.i64.wrap ((j : Int) + 1) = (j : Int) + 1 := IntWalk.i64_in _ (by omega)
      have xn1 : IntKind.i64.wrap ((cnN l K j : Int) + 1) = (cnN l K j : Int) + 1 := IntWalk.i64_in _ (by rw [← HKN.out] at hcl; omega)
      clear hkc hcl hk1 hk2 hkid t0
      cases hnk : nulV l kid with
      | true =>
        rw [hnk] at r1
        rw [hnk, if_pos rfl] at hcs
        have HC1 := Lib.hid hcs
        clear hcs hnk
        go_wp2_with fail
        go_roundw
        case rel => exact ⟨j + 1, by omega, by simp, by rw [HC1.out]; simp, HB0.out⟩
        case measure => simp [intOf]; omega
      | false =>
        rw [hnk] at r1
        rw [hnk, if_neg (by decide)] at hcs
        have HC1 := Lib.hid hcs
        clear hcs hnk
        go_wp2_with fail
        go_roundw
        case rel => exact ⟨j + 1, by omega, by simp, by rw [HC1.out]; simp, HB0.out⟩
        case measure => simp [intOf]; omega
    · obtain rfl : j = KN := by omega
      have hcl := HCL.out j
      rw [← HKN.out] at hcl
      obtain ⟨cn, hcn⟩ : ∃ c, c = cnN l K j := ⟨_, rfl⟩
      have hDD := HD.out
      rw [← HKN.out] at hDD
      rw [← hcn] at hcl hDD ⊢
      have HDD := Lib.hid hDD
      have z0 := (HBL.out.cell (p := ⟨g, off + i * 8, none⟩) hg).trans HQ.out.1.1
      have z1 := (HBL.out.cell (p := ⟨g, off + i * 8 + 1, none⟩) hg).trans HQ.out.1.2
      have z2 := (HBL.out.cell (p := ⟨g, off + i * 8 + 2, none⟩) hg).trans HQ.out.2
      clear hDD HD t3 hcn HCL HCS
      go_upto_region 9 with fail
      by_cases h1 : xk = 1
      · subst h1
        have HP := Lib.hid (show nv = true from HDD.out.1 rfl)
        clear HDD
        go_wp2_with fail
        go_ret
        exact ⟨by rw [HP.out]; rfl, HBL.out⟩
      have e1 : (xk == 1) = false := by rw [beq_eq_false_iff_ne]; exact h1
      by_cases h4 : xk = 4
      · subst h4
        by_cases hn : xn = 0
        · subst hn
          have HP := Lib.hid (show nv = true from HDD.out.2.2.1 rfl)
          clear HDD
          go_wp2_with fail
          go_ret
          exact ⟨by rw [HP.out]; rfl, HBL.out⟩
        · have en : (xn == 0) = false := by rw [beq_eq_false_iff_ne]; exact hn
          by_cases hc0 : 0 < cn
          · have hci : (0 : Int) < (cn : Int) := by omega
            have HP := Lib.hid (show nv = true from by have h := HDD.out.2.2.1 rfl; rw [decide_eq_false hn, Bool.false_or, decide_eq_true hc0] at h; exact h)
            clear HDD
            go_wp2_with fail
            go_ret
            exact ⟨by rw [HP.out]; rfl, HBL.out⟩
          · obtain rfl : cn = 0 := by omega
            have HP := Lib.hid (show nv = false from by have h := HDD.out.2.2.1 rfl; rw [decide_eq_false hn, Bool.false_or, decide_eq_false hc0] at h; exact h)
            clear HDD
            go_wp2_with fail
            go_ret
            exact ⟨by rw [HP.out]; rfl, HBL.out⟩
      have e4 : (xk == 4) = false := by rw [beq_eq_false_iff_ne]; exact h4
      by_cases h3 : xk = 3
      · subst h3
        by_cases hc0 : 0 < cn
        · have hci : (0 : Int) < (cn : Int) := by omega
          have HP := Lib.hid (show nv = true from by have h := HDD.out.2.2.2.1 (.inl rfl); rw [decide_eq_true hc0] at h; exact h)
          clear HDD
          go_wp2_with fail
          go_ret
          exact ⟨by rw [HP.out]; rfl, HBL.out⟩
        · obtain rfl : cn = 0 := by omega
          have HP := Lib.hid (show nv = false from by have h := HDD.out.2.2.2.1 (.inl rfl); rw [decide_eq_false hc0] at h; exact h)
          clear HDD
          go_wp2_with fail
          go_ret
          exact ⟨by rw [HP.out]; rfl, HBL.out⟩
      have e3 : (xk == 3) = false := by rw [beq_eq_false_iff_ne]; exact h3
      by_cases h6 : xk = 6
      · subst h6
        by_cases hc0 : 0 < cn
        · have hci : (0 : Int) < (cn : Int) := by omega
          have HP := Lib.hid (show nv = true from by have h := HDD.out.2.2.2.1 (.inr rfl); rw [decide_eq_true hc0] at h; exact h)
          clear HDD
          go_wp2_with fail
          go_ret
          exact ⟨by rw [HP.out]; rfl, HBL.out⟩
        · obtain rfl : cn = 0 := by omega
          have HP := Lib.hid (show nv = false from by have h := HDD.out.2.2.2.1 (.inr rfl); rw [decide_eq_false hc0] at h; exact h)
          clear HDD
          go_wp2_with fail
          go_ret
          exact ⟨by rw [HP.out]; rfl, HBL.out⟩
      have e6 : (xk == 6) = false := by rw [beq_eq_false_iff_ne]; exact h6
      by_cases h5 : xk = 5
      · subst h5
        by_cases hck : (cn : Int) = xc
        · subst hck
          have HP := Lib.hid (show nv = true from by have h := HDD.out.2.2.2.2 rfl; rw [decide_eq_true rfl] at h; exact h)
          clear HDD
          go_wp2_with fail
          go_ret
          exact ⟨by rw [HP.out]; rfl, HBL.out⟩
        · have ec : ((cn : Int) == xc) = false := by rw [beq_eq_false_iff_ne]; exact hck
          have HP := Lib.hid (show nv = false from by have h := HDD.out.2.2.2.2 rfl; rw [decide_eq_false hck] at h; exact h)
          clear HDD
          go_wp2_with fail
          go_ret
          exact ⟨by rw [HP.out]; rfl, HBL.out⟩
      have e5 : (xk == 5) = false := by rw [beq_eq_false_iff_ne]; exact h5
      have HP := Lib.hid (show nv = false from HDD.out.2.1 (HK2.out h1 h3 h4 h5 h6))
      clear HDD
      go_wp2_with fail
      go_ret
      exact ⟨by rw [HP.out]; rfl, HBL.out⟩
end Go.Proofs.YtpncomjpmilbkaaDoor

/- The developers' terms: Up, Deep. Stage 10. -/
import Derived.Test.YtlhlgohgmbkaoaaOf
namespace Go.Proofs.Ytlhlgohgmbkaoaa
open Go.RowKit BS

theorem parts_pK (l : List NdN) (h : TermQ l) (i : Nat) (hi : i < l.length) : pK l[i].kids l[i].n 2 = partsT l i := by
  rcases node_parts l h i hi with ⟨e1, e2, e3⟩ | ⟨a, e1, _, e2, e3⟩ | ⟨a, b, e1, _, e2, _, e3⟩
  · rw [e1, e2, e3]; rfl
  · rw [e1, e2, e3]
    show (if (a : Int) = -1 then [] else [(a : Int)]) ++ (if (-1 : Int) = -1 then [] else [-1]) = _
    rw [if_neg (by omega), if_pos rfl]; rfl
  · rw [e1, e2, e3]
    show (if (a : Int) = -1 then [] else [(a : Int)]) ++ (if (b : Int) = -1 then [] else [(b : Int)]) = _
    rw [if_neg (by omega), if_neg (by omega)]; rfl
/-- A part, as a number. -/
theorem part_nat (l : List NdN) (h : TermQ l) (i : Nat) (hi : i < l.length) (j : Nat) (hj : j < (partsT l i).length) : ∃ p : Nat, (partsT l i)[j] = p ∧ p < i := by
  obtain ⟨h1, h2⟩ := part_lt l h i hi _ (List.getElem_mem hj)
  exact ⟨((partsT l i)[j]).toNat, by omega, by omega⟩
/-- The node whose part x is, of the first i nodes; 0, if none of them is. -/
def upB (l : List NdN) (i x : Nat) : Int := match upF l x with | some j => if j < i then (j : Int) else 0 | none => -1
theorem upB_end (l : List NdN) (x : Nat) : upB l l.length x = upT l x := by
  unfold upB upT
  cases hu : upF l x with
  | none => rfl
  | some j => exact if_pos (up_some l x j hu).1
theorem upB_zero (l : List NdN) (h : TermQ l) (x : Nat) (hx : x < l.length) : upB l 0 x = if x = l.length - 1 then -1 else 0 := by
  unfold upB
  cases hu : upF l x with
  | none => rw [if_pos ((up_none l h x hx).1 hu)]
  | some j =>
    rw [if_neg (fun e => by rw [(up_none l h x hx).2 e] at hu; cases hu)]
    exact if_neg (Nat.not_lt_zero j)
theorem upB_step (l : List NdN) (h : TermQ l) (i : Nat) (hi : i < l.length) (x : Nat) : upB l (i + 1) x = if (x : Int) ∈ partsT l i then (i : Int) else upB l i x := by
  by_cases hx : (x : Int) ∈ partsT l i
  · rw [if_pos hx]
    unfold upB
    rw [up_of l h i hi x hx]
    exact if_pos (by omega)
  · rw [if_neg hx]
    unfold upB
    cases hu : upF l x with
    | none => rfl
    | some j =>
      have hj : j ≠ i := fun e => hx (by rw [← e]; exact (up_some l x j hu).2)
      by_cases h1 : j < i
      · show (if j < i + 1 then _ else _) = (if j < i then _ else _)
        rw [if_pos h1, if_pos (by omega)]
      · show (if j < i + 1 then _ else _) = (if j < i then _ else _)
        rw [if_neg h1, if_neg (by omega)]
set_option maxRecDepth 100000 in
set_option maxHeartbeats 16000000 in
theorem up_calls (l : List NdN) (hl : l.length ≤ 1000) (a : Option Addr) (cap : Nat) (w : World) (h : NodesAt l a w) :
    Calls Try.prog 13 #[.slice a l.length cap] w fun e w' => ∃ b c, e = .returned (.slice b (upsT l).length c) ∧ IntsB w.heap.size (upsT l) b w' ∧ Below w.heap.size w w' := by
  have HR := Lib.hid (right_calls l hl a cap w h)
  have HN := Lib.hid h
  clear h
  cases hr : rightT l with
  | false =>
    rw [hr] at HR
    have HU := Lib.hid (show upsT l = [] by unfold upsT; rw [hr]; rfl)
    clear hr
    go_enter Try.func13, Try.ntmps13
    go_wp2_with fail
    refine HR.out.mono ?_
    rintro e w1 ⟨rfl, hb⟩
    clear HR
    go_wp2_with fail
    go_ret
    exact ⟨none, 0, by rw [HU.out]; rfl, fun h => absurd HU.out h, hb⟩
  | true =>
  rw [hr] at HR
  have hq := rightT_q l hr
  have HU := Lib.hid (show upsT l = (List.range l.length).map (upT l) by unfold upsT; rw [hr]; rfl)
  have hmk := fun W => run_make_row' (P := Try.prog) 26 3 (.int .i64 0) 8 Try.underlying26 (by kernel_rfl) rfl .i64 .i64 l.length (by omega) (by omega) W
  have hmz : (madeCells #[Value.int .i64 0] l.length).size = l.length := by simp [madeCells]
  have HMG := Lib.hid (intZ_get l.length)
  generalize madeCells #[Value.int .i64 0] l.length = vs0 at *
  have HPK := Lib.hid (parts_pK l hq)
  have HPN := Lib.hid (part_nat l hq)
  have HST := Lib.hid (upB_step l hq)
  have HUE := Lib.hid (upB_end l)
  have HUZ := Lib.hid (upB_zero l hq)
  have hlp := hq.pos
  clear hr hq
  go_enter Try.func13, Try.ntmps13
  go_wp2_with fail
  refine HR.out.mono ?_
  rintro e w1 ⟨rfl, hb⟩
  have HN1 := Lib.hid (HN.out.below hb)
  have hS0 := Blk.new w1 vs0 3
  have HBW := Lib.hid hb
  have hz1 := hb.size
  have HW0 := Lib.hid ((Below.refl w1.heap.size w1).alloc (Nat.le_refl _) (.cells vs0 3))
  clear HR hb HN
  go_upto_region 4 with fail
  generalize w1.alloc (.cells vs0 3) = w2 at *
  clear hmk
  have x1 : IntKind.i64.wrap ((l.length : Int) - 1) = ((l.length - 1 : Nat) : Int) := by rw [IntWalk.i64_in _ (by omega)]; omega
  have hiI : ((l.length - 1 : Nat) : Int) < (l.length : Int) := by omega
  have hid : decide (l.length - 1 < l.length) = true := by rw [decide_eq_true_iff]; omega
  have c0 := (hS0.cell (l.length - 1)).trans (HMG.out _ (by omega))
  have f0 := hS0.frozen (l.length - 1)
  go_upto_region 5 with fail
  have HS1 := Lib.hid (hS0.set (l.length - 1) (.int .i64 (-1)))
  have HB1 := Lib.hid (below_set HW0.out (Nat.le_refl _) (l.length - 1) (.int .i64 (-1)))
  clear hS0 HW0 c0 f0 x1 hiI hid
  generalize w2.setCell ⟨w1.heap.size, l.length - 1, none⟩ (.int .i64 (-1)) = w3 at *
  go_upto_region 6 with fail
  go_loopw [21] (fun vi wr => ∃ i : Nat, i ≤ l.length ∧ vi = .int .i64 i ∧ (∃ vs : Array Value, vs.size = l.length ∧ (∀ x, x < l.length → vs[x]? = some (.int .i64 (upB l i x))) ∧ Blk wr w1.heap.size vs 3) ∧ Below w1.heap.size w1 wr) (fun vi _ => l.length - (intOf vi).toNat)
  case atStart => exact ⟨0, Nat.zero_le _, rfl, ⟨_, by simp [hmz], fun x hx => by
    rw [HUZ.out x hx]
    by_cases hxl : x = l.length - 1
    · rw [if_pos hxl, hxl, Array.getElem?_setIfInBounds_self_of_lt (by omega)]
    · rw [if_neg hxl, Array.getElem?_setIfInBounds_ne (Ne.symm hxl)]; exact HMG.out x hx, HS1.out⟩, HB1.out⟩
  case round =>
    clear HS1 HB1 hmz
    obtain ⟨i, hi, rfl, ⟨us, hus, hno, hS⟩, hB⟩ := hrel
    by_cases hlt : i < l.length
    · have hii : (i : Int) < (l.length : Int) := by omega
      have hd : decide (i < l.length) = true := by rw [decide_eq_true_iff]; omega
      have hdI : decide ((i : Int) < (l.length : Int)) = true := by rw [decide_eq_true_iff]; omega
      have xi : IntKind.i64.wrap ((i : Int) + 1) = (i : Int) + 1 := IntWalk.i64_in _ (by omega)
      have hNw : NodesAt l a wr := HN1.out.below hB
      obtain ⟨g, off, rfl, hg, hc⟩ := hNw (by rintro rfl; simp at hlt)
      have d0 := hc i hlt 0 (by decide); have d1 := hc i hlt 1 (by decide); have d2 := hc i hlt 2 (by decide); have d3 := hc i hlt 3 (by decide); have d4 := hc i hlt 4 (by decide); have d5 := hc i hlt 5 (by decide); have d6 := hc i hlt 6 (by decide); have d7 := hc i hlt 7 (by decide)
      simp only [ndA, List.getElem?_toArray, List.getElem?_cons_zero, List.getElem?_cons_succ, Nat.add_zero] at d0 d1 d2 d3 d4 d5 d6 d7
      have hpk := HPK.out i hlt
      have hst := HST.out i hlt
      have hpn := HPN.out i hlt
      generalize partsT l i = ps at *
      generalize l[i] = x at *
      obtain ⟨k, kc, kn, km, t⟩ := x
      simp only at d0 d1 d2 d3 d4 d5 d6 d7 hpk
      have HPK2 := Lib.hid hpk
      have HST2 := Lib.hid hst
      have HPN2 := Lib.hid hpn
      have HNO := Lib.hid hno
      have hB2 := hB.alloc hB.size (.cells (ndI k kc kn km t) 35)
      have hS2 := hS.alloc (.cells (ndI k kc kn km t) 35)
      have hX := Blk.new wr (ndI k kc kn km t) 35
      clear hpk hst hpn hno hB hS hNw hc
      go_upto_region 8 with fail
      clear d0 d1 d2 d3 d4 d5 d6 d7
      generalize wr.alloc (.cells (ndI k kc kn km t) 35) = w4 at *
      generalize wr.heap.size = xb at *
      have n0 := hX.cell 0; have n1 := hX.cell 1; have n2 := hX.cell 2; have n3 := hX.cell 3; have n4 := hX.cell 4; have n5 := hX.cell 5; have n6 := hX.cell 6; have n7 := hX.cell 7
      simp only [List.getElem?_toArray, List.getElem?_cons_zero, List.getElem?_cons_succ] at n0 n1 n2 n3 n4 n5 n6 n7
      clear hX
      go_wp2_with fail
      clear n0 n1 n2 n3 n4 n5 n6 n7
      refine (parts_calls k kc kn km t _).mono ?_
      rintro e w5 ⟨b, q, rfl, hib, hb⟩
      rw [HPK2.out] at hib ⊢
      have HIB := Lib.hid hib
      have HS5 := Lib.hid (hS2.below hb hS2.lt)
      have HB5 := Lib.hid (hB2.trans (hb.mono hB2.size))
      have h45 := hS2.lt
      have hz5 := hb.size
      clear hib hb hS2 hB2
      go_upto_region 9 with fail
      go_loopw [29] (fun vi wq => ∃ j : Nat, j ≤ ps.length ∧ vi = .int .i64 j ∧ (∃ vs : Array Value, vs.size = l.length ∧ (∀ x : Nat, x < l.length → vs[x]? = some (.int .i64 (if (x : Int) ∈ ps.take j then (i : Int) else upB l i x))) ∧ Blk wq w1.heap.size vs 3) ∧ Below w1.heap.size w1 wq ∧ IntsB w4.heap.size ps b wq) (fun vi _ => ps.length - (intOf vi).toNat)
      case atStart => exact ⟨0, Nat.zero_le _, rfl, ⟨us, hus, fun x hx => by rw [if_neg (by simp)]; exact HNO.out x hx, HS5.out⟩, HB5.out, HIB.out⟩
      case round =>
        clear HS5 HB5 HIB HNO hus
        obtain ⟨j, hj, rfl, ⟨vs, hvs, hnv, hS⟩, hB, hI⟩ := hrel
        by_cases hjl : j < ps.length
        · have hjd : decide ((j : Int) < (ps.length : Int)) = true := by rw [decide_eq_true_iff]; omega
          have hjd2 : decide (j < ps.length) = true := decide_eq_true hjl
          have hjI : (j : Int) < (ps.length : Int) := by omega
          have hpl : ps.length ≤ 2 := by have := pK_len kc kn 2; rw [HPK2.out] at this; exact this
          have xj : IntKind.i64.wrap ((j : Int) + 1) = (j : Int) + 1 := IntWalk.i64_in _ (by omega)
          obtain ⟨gp, op, rfl, hgp, _, hcp⟩ := hI (by rintro rfl; simp at hjl)
          have cp := hcp j hjl
          obtain ⟨p, hp1, hp2⟩ := HPN2.out j hjl
          have HTK := Lib.hid (List.take_succ_eq_append_getElem hjl)
          rw [hp1] at cp HTK
          have hpx : (p : Int) < (l.length : Int) := by omega
          have hpd : decide (p < l.length) = true := by rw [decide_eq_true_iff]; omega
          have ci := (hS.cell p).trans (hnv p (by omega))
          have fi := hS.frozen p
          have HNV := Lib.hid hnv
          have HS := Lib.hid (hS.set p (.int .i64 (i : Int)))
          have HB := Lib.hid (below_set hB (Nat.le_refl _) p (.int .i64 (i : Int)))
          have HI := Lib.hid (hI.set (B := w1.heap.size) (by omega) p (.int .i64 (i : Int)))
          clear hS hB hI hnv hcp hp1
          go_wp2_with fail
          go_roundw
          case rel => exact ⟨j + 1, by omega, by simp, ⟨vs.setIfInBounds p (.int .i64 (i : Int)), by simp [hvs], fun x hx => by
            rw [HTK.out]
            by_cases hxp : x = p
            · subst hxp
              rw [if_pos (by simp), Array.getElem?_setIfInBounds_self_of_lt (by omega)]
            · rw [Array.getElem?_setIfInBounds_ne (Ne.symm hxp), HNV.out x hx]
              congr 2
              have : ((x : Int) ∈ ps.take j ++ [(p : Int)]) = ((x : Int) ∈ ps.take j) := by
                rw [List.mem_append, List.mem_singleton, eq_iff_iff]
                exact ⟨fun h => h.resolve_right (by omega), .inl⟩
              simp only [this], HS.out⟩, HB.out, HI.out⟩
          case measure => simp [intOf]; omega
        · obtain rfl : j = ps.length := by omega
          have hjd : decide ((ps.length : Int) < (ps.length : Int)) = false := by simp
          rw [List.take_of_length_le (Nat.le_refl _)] at hnv
          have HNV := Lib.hid hnv
          have HS := Lib.hid hS
          have HB := Lib.hid hB
          clear hS hB hI hnv
          go_wp2_with fail
          go_roundw
          case rel => exact ⟨i + 1, by omega, by simp, ⟨vs, hvs, fun x hx => by rw [HST2.out x]; exact HNV.out x hx, HS.out⟩, HB.out⟩
          case measure => simp [intOf]; omega
    · obtain rfl : i = l.length := by omega
      have hdI : decide ((l.length : Int) < (l.length : Int)) = false := by simp
      have HI := Lib.hid (show IntsB w.heap.size (upsT l) (some ⟨w1.heap.size, 0, none⟩) wr from fun _ => ⟨w1.heap.size, 0, rfl, hz1, hS.lt, fun j hj => by
        have hj2 : j < l.length := by rw [HU.out] at hj; simpa using hj
        rw [Nat.zero_add, hS.cell j, hno j hj2, HUE.out]
        simp only [HU.out, List.getElem_map, List.getElem_range]⟩)
      have HLL := Lib.hid (show (upsT l).length = l.length by rw [HU.out]; simp)
      have HB := Lib.hid hB
      clear hS hB hno
      go_wp2_with fail
      go_ret
      exact ⟨some ⟨w1.heap.size, 0, none⟩, l.length, by rw [HLL.out] <;> rfl, HI.out, HBW.out.trans (HB.out.mono hz1)⟩
/-- Nodes whose depth is told: those from k on, and all that are parts of them. -/
def toldD (l : List NdN) (k x : Nat) : Prop := ∀ j, upF l x = some j → k ≤ j
set_option maxRecDepth 100000 in
set_option maxHeartbeats 16000000 in
theorem deep_calls (l : List NdN) (hl : l.length ≤ 1000) (a : Option Addr) (cap : Nat) (w : World) (h : NodesAt l a w) :
    Calls Try.prog 15 #[.slice a l.length cap] w fun e w' => ∃ b c, e = .returned (.slice b (deepsT l).length c) ∧ IntsB w.heap.size (deepsT l) b w' ∧ Below w.heap.size w w' := by
  have HR := Lib.hid (right_calls l hl a cap w h)
  have HN := Lib.hid h
  clear h
  cases hr : rightT l with
  | false =>
    rw [hr] at HR
    have HU := Lib.hid (show deepsT l = [] by unfold deepsT; rw [hr]; rfl)
    clear hr
    go_enter Try.func15, Try.ntmps15
    go_wp2_with fail
    refine HR.out.mono ?_
    rintro e w1 ⟨rfl, hb⟩
    clear HR
    go_wp2_with fail
    go_ret
    exact ⟨none, 0, by rw [HU.out]; rfl, fun h => absurd HU.out h, hb⟩
  | true =>
  rw [hr] at HR
  have hq := rightT_q l hr
  have HU := Lib.hid (show deepsT l = (List.range l.length).map (fun x => (deepT l x : Int)) by unfold deepsT; rw [hr]; rfl)
  have hmk := fun W => run_make_row' (P := Try.prog) 26 3 (.int .i64 0) 8 Try.underlying26 (by kernel_rfl) rfl .i64 .i64 l.length (by omega) (by omega) W
  have hmz : (madeCells #[Value.int .i64 0] l.length).size = l.length := by simp [madeCells]
  generalize madeCells #[Value.int .i64 0] l.length = vs0 at *
  have HPK := Lib.hid (parts_pK l hq)
  have HPN := Lib.hid (part_nat l hq)
  have HNONE := Lib.hid (up_none l hq)
  have HGT := Lib.hid (up_gt l hq)
  have HUP := Lib.hid (up_some l)
  have HOF := Lib.hid (up_of l hq)
  have HDU := Lib.hid (deep_up l hq)
  have HDR := Lib.hid (deep_root l hq)
  have HDL := Lib.hid (deep_le l)
  have hlp := hq.pos
  clear hr hq
  go_enter Try.func15, Try.ntmps15
  go_wp2_with fail
  refine HR.out.mono ?_
  rintro e w1 ⟨rfl, hb⟩
  have HN1 := Lib.hid (HN.out.below hb)
  have hS0 := Blk.new w1 vs0 3
  have HBW := Lib.hid hb
  have hz1 := hb.size
  have HW0 := Lib.hid ((Below.refl w1.heap.size w1).alloc (Nat.le_refl _) (.cells vs0 3))
  clear HR hb HN
  go_upto_region 4 with fail
  generalize w1.alloc (.cells vs0 3) = w2 at *
  clear hmk
  have x1 : IntKind.i64.wrap ((l.length : Int) - 1) = ((l.length - 1 : Nat) : Int) := by rw [IntWalk.i64_in _ (by omega)]; omega
  have hiI : ((l.length - 1 : Nat) : Int) < (l.length : Int) := by omega
  have hid : decide (l.length - 1 < l.length) = true := by rw [decide_eq_true_iff]; omega
  obtain ⟨old, hold⟩ : ∃ old, vs0[l.length - 1]? = some old := ⟨vs0[l.length - 1]'(by omega), by simp [show l.length - 1 < vs0.size by omega]⟩
  have c0 := (hS0.cell (l.length - 1)).trans hold
  have f0 := hS0.frozen (l.length - 1)
  go_upto_region 5 with fail
  have HS1 := Lib.hid (hS0.set (l.length - 1) (.int .i64 1))
  have HB1 := Lib.hid (below_set HW0.out (Nat.le_refl _) (l.length - 1) (.int .i64 1))
  clear hS0 HW0 c0 f0 hold
  generalize w2.setCell ⟨w1.heap.size, l.length - 1, none⟩ (.int .i64 1) = w3 at *
  go_upto_region 6 with fail
  clear x1 hiI hid
  go_loopw [4] (fun vi wr => ∃ k : Nat, k ≤ l.length ∧ vi = .int .i64 ((k : Int) - 1) ∧ (∃ vs : Array Value, vs.size = l.length ∧ (∀ x, x < l.length → toldD l k x → vs[x]? = some (.int .i64 (deepT l x : Nat))) ∧ Blk wr w1.heap.size vs 3) ∧ Below w1.heap.size w1 wr) (fun vi _ => (intOf vi + 1).toNat)
  case atStart => exact ⟨l.length, Nat.le_refl _, by congr 1; omega, ⟨_, by simp [hmz], fun x hx ht => by
    have hxl : x = l.length - 1 := by
      refine (HNONE.out x hx).1 ?_
      cases hu : upF l x with
      | none => rfl
      | some j => have := ht j hu; have := (HUP.out x j hu).1; omega
    rw [hxl, Array.getElem?_setIfInBounds_self_of_lt (by omega), HDR.out]; rfl, HS1.out⟩, HB1.out⟩
  case round =>
    clear HS1 HB1 hmz
    obtain ⟨k, hk, rfl, ⟨us, hus, hno, hS⟩, hB⟩ := hrel
    by_cases hk0 : k = 0
    · subst hk0
      have HI := Lib.hid (show IntsB w.heap.size (deepsT l) (some ⟨w1.heap.size, 0, none⟩) wr from fun _ => ⟨w1.heap.size, 0, rfl, hz1, hS.lt, fun j hj => by
        have hj2 : j < l.length := by rw [HU.out] at hj; simpa using hj
        rw [Nat.zero_add, hS.cell j, hno j hj2 (fun _ _ => Nat.zero_le _)]
        simp only [HU.out, List.getElem_map, List.getElem_range]⟩)
      have HLL := Lib.hid (show (deepsT l).length = l.length by rw [HU.out]; simp)
      have HB := Lib.hid hB
      clear hS hB hno
      go_wp2_with fail
      go_ret
      exact ⟨some ⟨w1.heap.size, 0, none⟩, l.length, by rw [HLL.out] <;> rfl, HI.out, HBW.out.trans (HB.out.mono hz1)⟩
    · obtain ⟨i, rfl⟩ : ∃ i, k = i + 1 := ⟨k - 1, by omega⟩
      have hlt : i < l.length := by omega
      rw [show ((i + 1 : Nat) : Int) - 1 = (i : Int) by omega]
      have hi0 : decide ((0 : Int) ≤ (i : Int)) = true := by rw [decide_eq_true_iff]; omega
      have hii : (i : Int) < (l.length : Int) := by omega
      have hd : decide (i < l.length) = true := by rw [decide_eq_true_iff]; omega
      have xi : IntKind.i64.wrap ((i : Int) - 1) = (i : Int) - 1 := IntWalk.i64_in _ (by omega)
      have hNw : NodesAt l a wr := HN1.out.below hB
      obtain ⟨g, off, rfl, hg, hc⟩ := hNw (by rintro rfl; simp at hlt)
      have d0 := hc i hlt 0 (by decide); have d1 := hc i hlt 1 (by decide); have d2 := hc i hlt 2 (by decide); have d3 := hc i hlt 3 (by decide); have d4 := hc i hlt 4 (by decide); have d5 := hc i hlt 5 (by decide); have d6 := hc i hlt 6 (by decide); have d7 := hc i hlt 7 (by decide)
      simp only [ndA, List.getElem?_toArray, List.getElem?_cons_zero, List.getElem?_cons_succ, Nat.add_zero] at d0 d1 d2 d3 d4 d5 d6 d7
      have hpk := HPK.out i hlt
      have hpn := HPN.out i hlt
      have hof := HOF.out i hlt
      have hpo := fun x (h : upF l x = some i) => (HUP.out x i h).2
      have htold : toldD l (i + 1) i := fun j hj => (HGT.out i j hj).1
      generalize partsT l i = ps at *
      generalize l[i] = x at *
      obtain ⟨kk, kc, kn, km, t⟩ := x
      simp only at d0 d1 d2 d3 d4 d5 d6 d7 hpk
      have HPK2 := Lib.hid hpk
      have HPN2 := Lib.hid hpn
      have HOF2 := Lib.hid hof
      have HPO := Lib.hid hpo
      have HTD := Lib.hid htold
      have HNO := Lib.hid hno
      have HS := Lib.hid hS
      have HB := Lib.hid hB
      clear hpk hpn hof hpo htold hno hB hS hNw hc
      go_wp2_with fail
      clear d0 d1 d2 d3 d4 d5 d6 d7
      refine (parts_calls kk kc kn km t _).mono ?_
      rintro e w5 ⟨b, q, rfl, hib, hb⟩
      rw [HPK2.out] at hib ⊢
      have HIB := Lib.hid hib
      have HS5 := Lib.hid (HS.out.below hb HS.out.lt)
      have HB5 := Lib.hid (HB.out.trans (hb.mono HB.out.size))
      have h45 := HS.out.lt
      clear hib hb HS HB
      go_upto_region 9 with fail
      go_loopw [31] (fun vi wq => ∃ j : Nat, j ≤ ps.length ∧ vi = .int .i64 j ∧ (∃ vs : Array Value, vs.size = l.length ∧ (∀ x : Nat, x < l.length → (toldD l (i + 1) x ∨ (x : Int) ∈ ps.take j) → vs[x]? = some (.int .i64 (deepT l x : Nat))) ∧ Blk wq w1.heap.size vs 3) ∧ Below w1.heap.size w1 wq ∧ IntsB wr.heap.size ps b wq) (fun vi _ => ps.length - (intOf vi).toNat)
      case atStart => exact ⟨0, Nat.zero_le _, rfl, ⟨us, hus, fun x hx hh => HNO.out x hx (hh.resolve_right (by simp)), HS5.out⟩, HB5.out, HIB.out⟩
      case round =>
        clear HS5 HB5 HIB HNO hus
        obtain ⟨j, hj, rfl, ⟨vs, hvs, hnv, hS⟩, hB, hI⟩ := hrel
        by_cases hjl : j < ps.length
        · have hjd : decide ((j : Int) < (ps.length : Int)) = true := by rw [decide_eq_true_iff]; omega
          have hjd2 : decide (j < ps.length) = true := decide_eq_true hjl
          have hjI : (j : Int) < (ps.length : Int) := by omega
          have hpl : ps.length ≤ 2 := by have := pK_len kc kn 2; rw [HPK2.out] at this; exact this
          have xj : IntKind.i64.wrap ((j : Int) + 1) = (j : Int) + 1 := IntWalk.i64_in _ (by omega)
          obtain ⟨gp, op, rfl, hgp, _, hcp⟩ := hI (by rintro rfl; simp at hjl)
          have cp := hcp j hjl
          obtain ⟨p, hp1, hp2⟩ := HPN2.out j hjl
          have HTK := Lib.hid (List.take_succ_eq_append_getElem hjl)
          have hmem : (p : Int) ∈ ps := by rw [← hp1]; exact List.getElem_mem hjl
          have HDP := Lib.hid (HDU.out p i (HOF2.out p hmem))
          rw [hp1] at cp HTK
          have hpx : (p : Int) < (l.length : Int) := by omega
          have hpd : decide (p < l.length) = true := by rw [decide_eq_true_iff]; omega
          obtain ⟨old, hold⟩ : ∃ old, vs[p]? = some old := ⟨vs[p]'(by omega), by simp [show p < vs.size by omega]⟩
          have ci := (hS.cell i).trans (hnv i hlt (.inl HTD.out))
          have cq := (hS.cell p).trans hold
          have fi := hS.frozen p
          have hdl := HDL.out i
          have xd : IntKind.i64.wrap ((deepT l i : Int) + 1) = (deepT l p : Nat) := by rw [IntWalk.i64_in _ (by omega), HDP.out]; rfl
          have HNV := Lib.hid hnv
          have HS := Lib.hid (hS.set p (.int .i64 (deepT l p : Nat)))
          have HB := Lib.hid (below_set hB (Nat.le_refl _) p (.int .i64 (deepT l p : Nat)))
          have HI := Lib.hid (hI.set (B := w1.heap.size) (by omega) p (.int .i64 (deepT l p : Nat)))
          clear hS hB hI hnv hcp hp1 hmem hold hdl
          go_upto_region 11 with fail
          go_wp2_with fail
          go_roundw
          case rel => exact ⟨j + 1, by omega, by simp, ⟨vs.setIfInBounds p (.int .i64 (deepT l p : Nat)), by simp [hvs], fun x hx hh => by
            rw [HTK.out] at hh
            by_cases hxp : x = p
            · subst hxp
              rw [Array.getElem?_setIfInBounds_self_of_lt (by omega)]
            · rw [Array.getElem?_setIfInBounds_ne (Ne.symm hxp)]
              refine HNV.out x hx (hh.imp id fun hm => ?_)
              rw [List.mem_append, List.mem_singleton] at hm
              exact hm.resolve_right (by omega), HS.out⟩, HB.out, HI.out⟩
          case measure => simp [intOf]; omega
        · obtain rfl : j = ps.length := by omega
          have hjd : decide ((ps.length : Int) < (ps.length : Int)) = false := by simp
          rw [List.take_of_length_le (Nat.le_refl _)] at hnv
          have HNV := Lib.hid hnv
          have HS := Lib.hid hS
          have HB := Lib.hid hB
          clear hS hB hI hnv
          go_wp2_with fail
          go_roundw
          case rel => exact ⟨i, by omega, by simp, ⟨vs, hvs, fun x hx hh => HNV.out x hx (by
            by_cases hxi : upF l x = some i
            · exact .inr (HPO.out x hxi)
            · refine .inl fun j hj => ?_
              have h1 := hh j hj
              have h2 : j ≠ i := by rintro rfl; exact hxi hj
              omega), HS.out⟩, HB.out⟩
          case measure => simp [intOf]
end Go.Proofs.Ytlhlgohgmbkaoaa

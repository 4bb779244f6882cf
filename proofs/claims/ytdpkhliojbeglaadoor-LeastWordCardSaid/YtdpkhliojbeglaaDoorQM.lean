/- Texts put together: It Trd Oa Xg. -/
import Derived.Test.YtdpkhliojbeglaaDoorQL
import Derived.Test.YtdpkhliojbeglaaDoorQK
import Derived.Test.YtdpkhliojbeglaaDoorQB
import Derived.Outline
import Derived.Deep.DeepCutAuto
import Derived.Laws.AppendOwn
import Derived.BigQuiet
import Derived.Test.YtdpkhliojbeglaaDoorQF
import Derived.WalkLawsBesides
/- The document's terms: lows. Stage 10. -/
namespace Go.Proofs.YtdpkhliojbeglaaDoor
open Go.RowKit BS

/-- Where each node begins; nothing, if it is no term. -/
def lowsT (l : List NdN) : List Int := if rightT l = true then (List.range l.length).map (fun i => (lowV l i : Int)) else []
theorem lowsT_not (l : List NdN) (h : rightT l = false) : lowsT l = [] := by unfold lowsT; rw [h]; rfl
theorem lowsT_is (l : List NdN) (h : rightT l = true) : lowsT l = (List.range l.length).map (fun i => (lowV l i : Int)) := if_pos h
theorem lf_step (l : List NdN) (i : Nat) (h : i < l.length) : lfT (l.take (i + 1)) = lfT (l.take i) + if (l[i].kind == 2) = true then 1 else 0 := by
  rw [List.take_succ_eq_append_getElem h, lfT_app]
  unfold lfT
  simp only [List.map_cons, List.map_nil, List.countP_cons, List.countP_nil, Nat.zero_add]
theorem right_bad (l : List NdN) (i : Nat) (s : List Nat) (h : trT l i = some s) (hi : i < l.length) (hf : fineT l s i l[i] = false) : rightT l = false := by
  have h1 := trT_none l (i + 1) (trT_stop l i s h hi hf) l.length hi
  unfold rightT
  rw [h1]
  exact decide_eq_false (fun h => by cases h.1)
theorem right_end (l : List NdN) (s : List Nat) (h : trT l l.length = some s) (hl : 0 < l.length) : rightT l = decide (l.length ≤ 400 ∧ lfT l ≤ 64 ∧ lowV l (l.length - 1) = 0) := by
  unfold rightT
  rw [h]
  have := trT_root l s h hl
  rw [decide_eq_decide]
  constructor
  · rintro ⟨h1, h2, h3⟩; exact ⟨h2, h3, this.1 (Option.some.inj h1)⟩
  · rintro ⟨h2, h3, h1⟩; exact ⟨congrArg some (this.2 h1), h2, h3⟩
theorem pcT_get (l : List NdN) (i : Nat) (h : i < l.length) : (psT l).getD i 0 = pcT l[i].kind := by
  rw [List.getD_eq_getElem?_getD, List.getElem?_eq_getElem (by rw [psT_len]; exact h), Option.getD_some, psT_get l i h]
/-- The first half of what a node may have. -/
def kindA (k m : Int) (t : BitVec 256) : Prop := 1 ≤ k ∧ k ≤ 8 ∧ (k = 2 ∨ t = 0) ∧ (k = 7 ∨ m = 0) ∧ (k = 7 → 1 ≤ m ∧ m ≤ 9)
theorem kindT_two (x : NdN) : kindT x = true ↔ kindA x.kind x.m x.set ∧ (pcT x.kind = 0 → x.kids = -1) ∧ (pcT x.kind ≠ 2 → x.n = -1) := by
  unfold kindT kindA
  rw [decide_eq_true_iff]
  constructor
  · rintro ⟨a, b, c, d, e, f, g⟩; exact ⟨⟨a, b, c, d, e⟩, f, g⟩
  · rintro ⟨⟨a, b, c, d, e⟩, f, g⟩; exact ⟨a, b, c, d, e, f, g⟩

set_option maxRecDepth 100000 in
set_option maxHeartbeats 32000000 in
theorem lows_calls (l : List NdN) (hl : l.length ≤ 1000) (a : Option Addr) (cap : Nat) (w : World) (h : NodesAt l a w) :
    Calls Tryd.prog 26 #[.slice a l.length cap] w fun e w' => ∃ b c, e = .returned (.slice b (lowsT l).length c) ∧ IntsB w.heap.size (lowsT l) b w' ∧ (rightT l = false → b = none ∧ c = 0) ∧ Below w.heap.size w w' := by
  have hmk := fun W => run_make_row' (P := Tryd.prog) 54 3 (.int .i64 0) 8 Tryd.underlying54 (by kernel_rfl) rfl .i64 .i64 l.length (by omega) (by omega) W
  have hmz : (madeCells #[Value.int .i64 0] l.length).size = l.length := by simp [madeCells]
  generalize madeCells #[Value.int .i64 0] l.length = vs0 at *
  have HN := Lib.hid h
  have hfail : rightT l = false → ∀ (w' : World), Below w.heap.size w w' → (∃ b c, Ending.returned (.slice none 0 0) = .returned (.slice b (lowsT l).length c) ∧ IntsB w.heap.size (lowsT l) b w' ∧ (rightT l = false → b = none ∧ c = 0) ∧ Below w.heap.size w w') := fun hr w' hb => by
    rw [lowsT_not l hr]
    exact ⟨none, 0, rfl, fun h => absurd rfl h, fun _ => ⟨rfl, rfl⟩, hb⟩
  have HFAIL := Lib.hid hfail
  clear h hfail
  go_enter Tryd.func26, Tryd.ntmps26
  have hS0 := Blk.new w vs0 3
  have hB0 : Below w.heap.size w (w.alloc (.cells vs0 3)) := (Below.refl _ _).alloc (Nat.le_refl _) _
  go_upto_region 2 with fail
  generalize w.alloc (.cells vs0 3) = w1 at *
  clear hmk
  go_upto_region 4 with fail
  go_loopw [4, 5] (fun vl vi wr => ∃ i : Nat, i ≤ l.length ∧ vi = .int .i64 i ∧ vl = .int .i64 (lfT (l.take i) : Nat) ∧ (∃ s, trT l i = some s) ∧ (∃ vs : Array Value, vs.size = l.length ∧ (∀ j, j < i → vs[j]? = some (.int .i64 (lowV l j : Nat))) ∧ Blk wr w.heap.size vs 3) ∧ Below w.heap.size w wr) (fun _ vi _ => l.length - (intOf vi).toNat)
  case atStart => exact ⟨0, Nat.zero_le _, rfl, rfl, ⟨[], rfl⟩, ⟨vs0, hmz, fun j hj => by omega, hS0⟩, hB0⟩
  case round =>
    clear hS0 hB0 hmz
    obtain ⟨i, hi, rfl, rfl, ⟨s, hs⟩, ⟨vs, hvs, hno, hS⟩, hB⟩ := hrel
    by_cases hlt : i < l.length
    · have hne : l ≠ [] := by rintro rfl; simp at hlt
      obtain ⟨g, off, rfl, hg, hc⟩ := HN.out hne
      have hcell := fun (j : Nat) (hj : j < 8) => (hB.cell (p := ⟨g, off + i * 8 + j, none⟩) hg).trans (hc i hlt j hj)
      have hgo := fine_go l i s hs hlt
      have hlo := lowV_lo l i s hs hlt
      have hbad := right_bad l i s hs hlt
      have hmore := trT_more l i s hs hlt
      have hlf := lf_step l i hlt
      rw [kindT_two] at hgo
      unfold loT atT noT at hgo
      unfold loT atT at hlo
      rw [pcT_get l i hlt] at hgo hlo
      have d0 := hcell 0 (by decide); have d1 := hcell 1 (by decide); have d2 := hcell 2 (by decide); have d3 := hcell 3 (by decide); have d4 := hcell 4 (by decide); have d5 := hcell 5 (by decide); have d6 := hcell 6 (by decide); have d7 := hcell 7 (by decide)
      simp only [ndA, List.getElem?_toArray, List.getElem?_cons_zero, List.getElem?_cons_succ, Nat.add_zero] at d0 d1 d2 d3 d4 d5 d6 d7
      generalize l[i] = x at *
      obtain ⟨k, kc, kn, km, t⟩ := x
      simp only at hgo hlo hbad hmore hlf d0 d1 d2 d3 d4 d5 d6 d7
      have hnf : ¬ (fineT l s i ⟨k, kc, kn, km, t⟩ = true) → rightT l = false := fun h => hbad (by simpa using h)
      have HNF := Lib.hid hnf
      have HGO := Lib.hid hgo
      have HLO := Lib.hid hlo
      have HMORE := Lib.hid hmore
      have HLF := Lib.hid hlf
      have HNO := Lib.hid hno
      have HCE := Lib.hid (fun W (hW : Below w.heap.size w W) => HN.out.below hW)
      have hii : (i : Int) < (l.length : Int) := by omega
      have hd : decide (i < l.length) = true := by rw [decide_eq_true_iff]; omega
      have hdI : decide ((i : Int) < (l.length : Int)) = true := by rw [decide_eq_true_iff]; omega
      have hN := Blk.new wr (ndI k kc kn km t) 60
      have HS2 := Lib.hid (hS.alloc (.cells (ndI k kc kn km t) 60))
      have HB2 := Lib.hid (hB.alloc hB.size (.cells (ndI k kc kn km t) 60))
      have hxb : w.heap.size < wr.heap.size := hS.lt
      clear hS hB hno hgo hlo hbad hmore hlf hnf hcell hc hne
      go_upto_region 7 with fail
      clear d0 d1 d2 d3 d4 d5 d6 d7
      generalize wr.alloc (.cells (ndI k kc kn km t) 60) = wn at *
      generalize wr.heap.size = xb at *
      have n0 := hN.cell 0
      simp only [List.getElem?_toArray, List.getElem?_cons_zero] at n0
      have HX := Lib.hid hN
      clear hN
      go_wp2_with fail
      obtain ⟨b0, hb0⟩ : ∃ b, decide (pcT k ≠ 0) = b := ⟨_, rfl⟩
      obtain ⟨b2, hb2⟩ : ∃ b, decide (pcT k = 2) = b := ⟨_, rfl⟩
      have hpc := part_calls k
      rw [hb0, hb2] at hpc
      refine (hpc _).mono ?_
      rintro e w2 ⟨rfl, rfl⟩
      have HB0 := Lib.hid (show b0 = true ↔ pcT k ≠ 0 from by rw [← hb0]; exact decide_eq_true_iff)
      have HB22 := Lib.hid (show b2 = true ↔ pcT k = 2 from by rw [← hb2]; exact decide_eq_true_iff)
      clear hb0 hb2 hpc
      have hz := (HS2.out.lt)
      obtain ⟨old, hold⟩ : ∃ old, vs[i]? = some old := ⟨vs[i]'(by omega), by simp [show i < vs.size by omega]⟩
      have hci := (HS2.out.cell i).trans hold
      have hfi := HS2.out.frozen i
      go_upto_region 9 with fail
      have HS3 := Lib.hid (HS2.out.set i (.int .i64 (i : Int)))
      have HB3 := Lib.hid (below_set HB2.out (Nat.le_refl _) i (.int .i64 (i : Int)))
      have HX3 := Lib.hid (HX.out.other (show xb ≠ w.heap.size by omega) i (.int .i64 (i : Int)))
      clear HS2 HB2 HX n0 hci hfi hold
      generalize wn.setCell ⟨w.heap.size, i, none⟩ (.int .i64 (i : Int)) = w3 at *
      have n0 := HX3.out.cell 0; have n1 := HX3.out.cell 1; have n2 := HX3.out.cell 2; have n3 := HX3.out.cell 3; have n4 := HX3.out.cell 4; have n5 := HX3.out.cell 5; have n6 := HX3.out.cell 6; have n7 := HX3.out.cell 7
      simp only [List.getElem?_toArray, List.getElem?_cons_zero, List.getElem?_cons_succ] at n0 n1 n2 n3 n4 n5 n6 n7
      go_cut [77] (fun v wx => ∃ bb : Bool, v = .bool bb ∧ (bb = true ↔ ¬ kindA k km t) ∧ w3 = wx)
      case first => as_aux_lemma =>
        have hee0 : ∀ w', (Op.equalIn 10000 58 (setV t) (.agg #[.int .u64 0, .int .u64 0, .int .u64 0, .int .u64 0])).run Tryd.prog w' = .ok (decide (t = 0)) w' := eq_set t 0
        by_cases c1 : k < 1
        · have q1 : decide (k < 1) = true := decide_eq_true c1
          have HK := Lib.hid (show ¬ kindA k km t from fun h => by have := h.1; omega)
          clear hee0 c1
          go_wp2_with fail
          go_meet
          exact ⟨true, rfl, ⟨fun _ => HK.out, fun _ => rfl⟩, rfl⟩
        have q1 : decide (k < 1) = false := decide_eq_false c1
        by_cases c8 : 8 < k
        · have q8 : decide (8 < k) = true := decide_eq_true c8
          have HK := Lib.hid (show ¬ kindA k km t from fun h => by have := h.2.1; omega)
          clear hee0 c1 c8
          go_wp2_with fail
          go_meet
          exact ⟨true, rfl, ⟨fun _ => HK.out, fun _ => rfl⟩, rfl⟩
        have q8 : decide (8 < k) = false := decide_eq_false c8
        by_cases k2 : k = 2
        · have q2 : (k != 2) = false := by rw [k2]; rfl
          have q7 : (k != 7) = true := by rw [k2]; rfl
          have q7' : (k == 7) = false := by rw [k2]; rfl
          by_cases m0 : km = 0
          · have qm : (km != 0) = false := by rw [m0]; rfl
            have HK := Lib.hid (show kindA k km t from ⟨by omega, by omega, .inl k2, .inr m0, fun h => by omega⟩)
            clear hee0 k2 m0 c1 c8
            go_wp2_with fail
            go_meet
            exact ⟨false, rfl, ⟨fun h => Bool.noConfusion h, fun h => absurd HK.out h⟩, rfl⟩
          · have qm : (km != 0) = true := by rw [bne_iff_ne]; exact m0
            have HK := Lib.hid (show ¬ kindA k km t from fun h => by have := h.2.2.2.1; omega)
            clear hee0 k2 m0 c1 c8
            go_wp2_with fail
            go_meet
            exact ⟨true, rfl, ⟨fun _ => HK.out, fun _ => rfl⟩, rfl⟩
        have q2 : (k != 2) = true := by rw [bne_iff_ne]; exact k2
        by_cases t0 : t = 0
        · have qt := fun w' => (hee0 w').trans (by rw [decide_eq_true t0])
          clear hee0
          by_cases k7 : k = 7
          · have q7 : (k != 7) = false := by rw [k7]; rfl
            have q7' : (k == 7) = true := by rw [k7]; rfl
            by_cases m1 : km < 1
            · have qm : decide (km < 1) = true := decide_eq_true m1
              have HK := Lib.hid (show ¬ kindA k km t from fun h => by have := h.2.2.2.2 k7; omega)
              clear k7 t0 m1 c1 c8 k2
              go_wp2_with fail
              go_meet
              exact ⟨true, rfl, ⟨fun _ => HK.out, fun _ => rfl⟩, rfl⟩
            have qm : decide (km < 1) = false := decide_eq_false m1
            by_cases m9 : 9 < km
            · have qm9 : decide (9 < km) = true := decide_eq_true m9
              have HK := Lib.hid (show ¬ kindA k km t from fun h => by have := h.2.2.2.2 k7; omega)
              clear k7 t0 m1 m9 c1 c8 k2
              go_wp2_with fail
              go_meet
              exact ⟨true, rfl, ⟨fun _ => HK.out, fun _ => rfl⟩, rfl⟩
            have qm9 : decide (9 < km) = false := decide_eq_false m9
            have HK := Lib.hid (show kindA k km t from ⟨by omega, by omega, .inr t0, .inl k7, fun h => by omega⟩)
            clear k7 t0 m1 m9 c1 c8 k2
            go_wp2_with fail
            go_meet
            exact ⟨false, rfl, ⟨fun h => Bool.noConfusion h, fun h => absurd HK.out h⟩, rfl⟩
          · have q7 : (k != 7) = true := by rw [bne_iff_ne]; exact k7
            have q7' : (k == 7) = false := by rw [beq_eq_false_iff_ne]; exact k7
            by_cases m0 : km = 0
            · have qm : (km != 0) = false := by rw [m0]; rfl
              have HK := Lib.hid (show kindA k km t from ⟨by omega, by omega, .inr t0, .inr m0, fun h => absurd h k7⟩)
              clear k7 t0 m0 c1 c8 k2
              go_wp2_with fail
              go_meet
              exact ⟨false, rfl, ⟨fun h => Bool.noConfusion h, fun h => absurd HK.out h⟩, rfl⟩
            · have qm : (km != 0) = true := by rw [bne_iff_ne]; exact m0
              have HK := Lib.hid (show ¬ kindA k km t from fun h => by have := h.2.2.2.1; omega)
              clear k7 t0 m0 c1 c8 k2
              go_wp2_with fail
              go_meet
              exact ⟨true, rfl, ⟨fun _ => HK.out, fun _ => rfl⟩, rfl⟩
        · have qt := fun w' => (hee0 w').trans (by rw [decide_eq_false t0])
          clear hee0
          have HK := Lib.hid (show ¬ kindA k km t from fun h => by rcases h.2.2.1 with h | h <;> contradiction)
          clear t0 c1 c8 k2
          go_wp2_with fail
          go_meet
          exact ⟨true, rfl, ⟨fun _ => HK.out, fun _ => rfl⟩, rfl⟩
      case rest =>
      obtain ⟨bb, rfl, hka, rfl⟩ := hcut
      cases bb with
      | true =>
        have HR := Lib.hid (HNF.out (fun h => hka.1 rfl (HGO.out.1 h).1.1))
        clear hka n0 n1 n2 n3 n4 n5 n6 n7
        go_wp2_with fail
        go_ret
        exact HFAIL.out HR.out _ HB3.out
      | false =>
      have HKA := Lib.hid (show kindA k km t from Classical.byContradiction fun h => Bool.noConfusion (hka.2 h))
      clear hka
      go_upto_region 11 with fail
      have n1 := HX3.out.cell 1; have n2 := HX3.out.cell 2
      simp only [List.getElem?_toArray, List.getElem?_cons_zero, List.getElem?_cons_succ] at n1 n2
      go_cut [93] (fun v wx => ∃ bb : Bool, v = .bool bb ∧ (bb = true ↔ ¬ ((pcT k = 0 → kc = -1) ∧ (pcT k ≠ 2 → kn = -1))) ∧ w3 = wx)
      case first => as_aux_lemma =>
        have hq0 := HB0.out
        have hq2 := HB22.out
        cases b0 with
        | false =>
          have p0 : pcT k = 0 := Classical.byContradiction fun h => Bool.noConfusion (hq0.2 h)
          cases b2 with
          | true => exact absurd (hq2.1 rfl) (by omega)
          | false =>
          clear hq0 hq2 HB0 HB22
          by_cases a1 : kc = -1
          · have qa : (kc != -1) = false := by rw [a1]; rfl
            by_cases b1 : kn = -1
            · have qb : (kn != -1) = false := by rw [b1]; rfl
              have HK := Lib.hid (show (pcT k = 0 → kc = -1) ∧ (pcT k ≠ 2 → kn = -1) from ⟨fun _ => a1, fun _ => b1⟩)
              clear a1 b1 p0
              go_wp2_with fail
              go_meet
              exact ⟨false, rfl, ⟨fun h => Bool.noConfusion h, fun h => absurd HK.out h⟩, rfl⟩
            · have qb : (kn != -1) = true := by rw [bne_iff_ne]; exact b1
              have HK := Lib.hid (show ¬ ((pcT k = 0 → kc = -1) ∧ (pcT k ≠ 2 → kn = -1)) from fun h => b1 (h.2 (by omega)))
              clear a1 b1 p0
              go_wp2_with fail
              go_meet
              exact ⟨true, rfl, ⟨fun _ => HK.out, fun _ => rfl⟩, rfl⟩
          · have qa : (kc != -1) = true := by rw [bne_iff_ne]; exact a1
            have HK := Lib.hid (show ¬ ((pcT k = 0 → kc = -1) ∧ (pcT k ≠ 2 → kn = -1)) from fun h => a1 (h.1 p0))
            clear a1 p0
            go_wp2_with fail
            go_meet
            exact ⟨true, rfl, ⟨fun _ => HK.out, fun _ => rfl⟩, rfl⟩
        | true =>
          have p0 : pcT k ≠ 0 := hq0.1 rfl
          cases b2 with
          | true =>
            have p2 : pcT k = 2 := hq2.1 rfl
            clear hq0 hq2 HB0 HB22
            have HK := Lib.hid (show (pcT k = 0 → kc = -1) ∧ (pcT k ≠ 2 → kn = -1) from ⟨fun h => absurd h p0, fun h => absurd p2 h⟩)
            clear p0 p2
            go_wp2_with fail
            go_meet
            exact ⟨false, rfl, ⟨fun h => Bool.noConfusion h, fun h => absurd HK.out h⟩, rfl⟩
          | false =>
            have p2 : pcT k ≠ 2 := fun h => Bool.noConfusion (hq2.2 h)
            clear hq0 hq2 HB0 HB22
            by_cases b1 : kn = -1
            · have qb : (kn != -1) = false := by rw [b1]; rfl
              have HK := Lib.hid (show (pcT k = 0 → kc = -1) ∧ (pcT k ≠ 2 → kn = -1) from ⟨fun h => absurd h p0, fun _ => b1⟩)
              clear b1 p0 p2
              go_wp2_with fail
              go_meet
              exact ⟨false, rfl, ⟨fun h => Bool.noConfusion h, fun h => absurd HK.out h⟩, rfl⟩
            · have qb : (kn != -1) = true := by rw [bne_iff_ne]; exact b1
              have HK := Lib.hid (show ¬ ((pcT k = 0 → kc = -1) ∧ (pcT k ≠ 2 → kn = -1)) from fun h => b1 (h.2 p2))
              clear b1 p0 p2
              go_wp2_with fail
              go_meet
              exact ⟨true, rfl, ⟨fun _ => HK.out, fun _ => rfl⟩, rfl⟩
      case rest =>
      obtain ⟨bb, rfl, hkb, rfl⟩ := hcut
      cases bb with
      | true =>
        have HR := Lib.hid (HNF.out (fun h => hkb.1 rfl (HGO.out.1 h).1.2))
        clear hkb n1 n2
        go_wp2_with fail
        go_ret
        exact HFAIL.out HR.out _ HB3.out
      | false =>
      have HKB := Lib.hid (show (pcT k = 0 → kc = -1) ∧ (pcT k ≠ 2 → kn = -1) from Classical.byContradiction fun h => Bool.noConfusion (hkb.2 h))
      clear hkb n1 n2
      have hlfb : lfT (l.take i) ≤ i := by
        unfold lfT
        have h1 := List.countP_le_length (p := fun x => x == (2 : Int)) (l := (l.take i).map NdN.kind)
        rw [List.length_map, List.length_take] at h1
        omega
      have HLFB := Lib.hid hlfb
      clear hlfb
      go_upto_if 96 with fail
      go_cut [4] (fun v wx => v = .int .i64 (lfT (l.take (i + 1)) : Nat) ∧ w3 = wx)
      case first => as_aux_lemma =>
        have hlf := HLF.out
        have hlb := HLFB.out
        by_cases h2 : k = 2
        · have q : (k == 2) = true := by rw [h2]; rfl
          rw [q, if_pos rfl] at hlf
          have x4 : IntKind.i64.wrap ((lfT (l.take i) : Int) + 1) = (lfT (l.take (i + 1)) : Int) := by rw [IntWalk.i64_in _ (by omega), hlf]; rfl
          clear hlf h2 hlb
          go_wp2_with fail
          go_meet
          exact ⟨rfl, rfl⟩
        · have q : (k == 2) = false := by rw [beq_eq_false_iff_ne]; exact h2
          rw [q, if_neg (by decide), Nat.add_zero] at hlf
          have HE := Lib.hid hlf
          clear hlf h2 hlb
          go_wp2_with fail
          go_meet
          exact ⟨by rw [HE.out] <;> rfl, rfl⟩
      case rest =>
      obtain ⟨rfl, rfl⟩ := hcut
      clear HLF HLFB
      obtain ⟨z, hz9⟩ : ∃ z : Int, z = (i : Int) - 1 := ⟨_, rfl⟩
      have x9 : IntKind.i64.wrap ((i : Int) - 1) = z := by rw [IntWalk.i64_in _ (by omega), hz9]
      have HZ9 := Lib.hid hz9
      clear hz9
      go_upto_if 101 with fail
      go_cut [9] (fun v wx => v = .int .i64 (if pcT k = 2 then (lowV l (i - 1) : Int) - 1 else (i : Int) - 1) ∧ (pcT k = 2 → 0 < i ∧ kn = (i : Int) - 1) ∧ w3 = wx)
      case first => as_aux_lemma =>
        have hq2 := HB22.out
        cases b2 with
        | true =>
          have p2 : pcT k = 2 := hq2.1 rfl
          clear hq2 HB22
          by_cases b1 : kn = z
          · have qb : (kn != z) = false := by rw [b1]; simp
            by_cases i0 : i = 0
            · have hzn : decide (z < 0) = true := decide_eq_true (by have := HZ9.out; omega)
              have HR := Lib.hid (HNF.out (fun h => by have := ((HGO.out.1 h).2.1 p2).1; omega))
              clear p2 b1 i0
              go_wp2_with fail
              go_ret
              exact HFAIL.out HR.out _ HB3.out
            · have hzn : decide (z < 0) = false := decide_eq_false (by have := HZ9.out; omega)
              obtain ⟨j, rfl⟩ : ∃ j : Nat, z = j := ⟨i - 1, by have := HZ9.out; omega⟩
              have hj : j = i - 1 := by have := HZ9.out; omega
              have ck : w3.cell? ⟨w.heap.size, j, none⟩ = some (.int .i64 (lowV l j : Nat)) := (HS3.out.cell j).trans (by rw [Array.getElem?_setIfInBounds_ne (by omega)]; exact HNO.out j (by omega))
              have hjl : j < l.length := by omega
              have hjd : decide (j < l.length) = true := decide_eq_true hjl
              have hjI : (j : Int) < (l.length : Int) := by omega
              have hlv := lowV_le l j
              have xv : IntKind.i64.wrap ((lowV l j : Int) - 1) = (lowV l j : Int) - 1 := IntWalk.i64_in _ (by omega)
              have HK := Lib.hid (show (lowV l j : Int) - 1 = (if pcT k = 2 then (lowV l (i - 1) : Int) - 1 else (i : Int) - 1) ∧ (pcT k = 2 → 0 < i ∧ kn = (i : Int) - 1) from ⟨by rw [if_pos p2, hj], fun _ => ⟨by omega, by omega⟩⟩)
              clear p2 b1 i0 hj hlv
              go_wp2_with fail
              go_meet
              exact ⟨by rw [HK.out.1], HK.out.2, rfl⟩
          · have qb : (kn != z) = true := by rw [bne_iff_ne]; exact b1
            have HR := Lib.hid (HNF.out (fun h => b1 (by have := ((HGO.out.1 h).2.1 p2).2; have := HZ9.out; omega)))
            clear p2 b1
            go_wp2_with fail
            go_ret
            exact HFAIL.out HR.out _ HB3.out
        | false =>
          have p2 : pcT k ≠ 2 := fun h => Bool.noConfusion (hq2.2 h)
          clear hq2 HB22
          have HK := Lib.hid (show z = (if pcT k = 2 then (lowV l (i - 1) : Int) - 1 else (i : Int) - 1) ∧ (pcT k = 2 → 0 < i ∧ kn = (i : Int) - 1) from ⟨by rw [if_neg p2, HZ9.out], fun h => absurd h p2⟩)
          clear p2
          go_wp2_with fail
          go_meet
          exact ⟨by rw [HK.out.1], HK.out.2, rfl⟩
      case rest =>
      obtain ⟨rfl, h9, rfl⟩ := hcut
      have HK9 := Lib.hid h9
      clear h9 x9 HZ9
      obtain ⟨y, hy⟩ : ∃ y : Int, y = (if pcT k = 2 then (lowV l (i - 1) : Int) - 1 else (i : Int) - 1) := ⟨_, rfl⟩
      rw [← hy]
      have HY := Lib.hid hy
      clear hy
      have hyi : y < (i : Int) := by
        have h1 := HY.out
        have h2 := lowV_le l (i - 1)
        by_cases h : pcT k = 2
        · rw [if_pos h] at h1
          have := (HK9.out h).1
          omega
        · rw [if_neg h] at h1; omega
      go_upto_if 115 with fail
      go_cut [9] (fun v wx => v = .int .i64 y ∧ (pcT k ≠ 0 → 0 ≤ y ∧ kc = y) ∧ (∃ vs' : Array Value, vs'.size = l.length ∧ (∀ j, j < i → vs'[j]? = some (.int .i64 (lowV l j : Nat))) ∧ vs'[i]? = some (.int .i64 ((if pcT k = 0 then i else lowV l y.toNat) : Nat)) ∧ Blk wx w.heap.size vs' 3) ∧ Blk wx xb (ndI k kc kn km t) 60 ∧ Below w.heap.size w wx)
      case first => as_aux_lemma =>
        have hq0 := HB0.out
        have hvs1 : (vs.setIfInBounds i (.int .i64 (i : Int))).size = l.length := by simp [hvs]
        have hno1 : ∀ j, j < i → (vs.setIfInBounds i (.int .i64 (i : Int)))[j]? = some (.int .i64 (lowV l j : Nat)) := fun j hj => by
          rw [Array.getElem?_setIfInBounds_ne (by omega)]; exact HNO.out j hj
        have hat1 : (vs.setIfInBounds i (.int .i64 (i : Int)))[i]? = some (.int .i64 (i : Int)) := by simp [hvs, hlt]
        cases b0 with
        | false =>
          have p0 : pcT k = 0 := Classical.byContradiction fun h => Bool.noConfusion (hq0.2 h)
          have HE := Lib.hid (show (pcT k ≠ 0 → 0 ≤ y ∧ kc = y) ∧ (∃ vs' : Array Value, vs'.size = l.length ∧ (∀ j, j < i → vs'[j]? = some (.int .i64 (lowV l j : Nat))) ∧ vs'[i]? = some (.int .i64 ((if pcT k = 0 then i else lowV l y.toNat) : Nat)) ∧ Blk w3 w.heap.size vs' 3) from ⟨fun h => absurd p0 h, _, hvs1, hno1, by rw [if_pos p0]; exact hat1, HS3.out⟩)
          clear hq0 HB0 p0 hvs1 hno1 hat1
          go_wp2_with fail
          go_meet
          exact ⟨rfl, HE.out.1, HE.out.2, HX3.out, HB3.out⟩
        | true =>
          have p0 : pcT k ≠ 0 := hq0.1 rfl
          have n1 := HX3.out.cell 1
          simp only [List.getElem?_toArray, List.getElem?_cons_zero, List.getElem?_cons_succ] at n1
          by_cases a1 : kc = y
          · have qa : (kc != y) = false := by rw [a1]; simp
            by_cases y0 : y < 0
            · have hyn : decide (y < 0) = true := decide_eq_true y0
              have HR := Lib.hid (HNF.out (fun h => by
                have h1 := ((HGO.out.1 h).2.2.1 p0).1
                rw [← HY.out] at h1
                omega))
              clear p0 a1 y0 hq0 HB0 hvs1 hno1 hat1
              go_wp2_with fail
              go_ret
              exact HFAIL.out HR.out _ HB3.out
            · have hyn : decide (y < 0) = false := decide_eq_false y0
              obtain ⟨j, rfl⟩ : ∃ j : Nat, y = j := ⟨y.toNat, by omega⟩
              have ck : w3.cell? ⟨w.heap.size, j, none⟩ = some (.int .i64 (lowV l j : Nat)) := (HS3.out.cell j).trans (hno1 j (by omega))
              have ci : w3.cell? ⟨w.heap.size, i, none⟩ = some (.int .i64 (i : Int)) := (HS3.out.cell i).trans hat1
              have fi := HS3.out.frozen i
              have hjl : j < l.length := by omega
              have hjd : decide (j < l.length) = true := decide_eq_true hjl
              have hjI : (j : Int) < (l.length : Int) := by omega
              have HE := Lib.hid (show (pcT k ≠ 0 → 0 ≤ (j : Int) ∧ kc = (j : Int)) ∧ (∃ vs' : Array Value, vs'.size = l.length ∧ (∀ j, j < i → vs'[j]? = some (.int .i64 (lowV l j : Nat))) ∧ vs'[i]? = some (.int .i64 ((if pcT k = 0 then i else lowV l ((j : Int)).toNat) : Nat)) ∧ Blk (w3.setCell ⟨w.heap.size, i, none⟩ (.int .i64 (lowV l j : Nat))) w.heap.size vs' 3) from ⟨fun _ => ⟨by omega, a1⟩, (vs.setIfInBounds i (.int .i64 (i : Int))).setIfInBounds i (.int .i64 (lowV l j : Nat)), by simp [hvs], fun j' hj' => by rw [Array.getElem?_setIfInBounds_ne (by omega)]; exact hno1 j' hj', by rw [if_neg p0, Int.toNat_natCast]; simp [hvs, hlt], HS3.out.set i _⟩)
              have HX4 := Lib.hid (HX3.out.other (show xb ≠ w.heap.size by omega) i (.int .i64 (lowV l j : Nat)))
              have HB4 := Lib.hid (below_set HB3.out (Nat.le_refl _) i (.int .i64 (lowV l j : Nat)))
              clear p0 a1 y0 hq0 HB0 hvs1 hno1 hat1
              go_wp2_with fail
              go_meet
              exact ⟨rfl, HE.out.1, HE.out.2, HX4.out, HB4.out⟩
          · have qa : (kc != y) = true := by rw [bne_iff_ne]; exact a1
            have HR := Lib.hid (HNF.out (fun h => a1 (by
              have h1 := ((HGO.out.1 h).2.2.1 p0).2
              rw [← HY.out] at h1
              exact h1)))
            clear p0 a1 hq0 HB0 hvs1 hno1 hat1
            go_wp2_with fail
            go_ret
            exact HFAIL.out HR.out _ HB3.out
      case rest =>
      obtain ⟨rfl, hp1, ⟨vs', hvs', hno', hat', hS4⟩, hX4, hB4⟩ := hcut
      have HP1 := Lib.hid hp1
      have HY2 := HY.out
      have hlo2 := HLO.out
      have hgo2 := HGO.out
      rw [← HY2] at hlo2 hgo2
      obtain ⟨lo, hlo⟩ : ∃ lo : Nat, lo = (if pcT k = 0 then i else lowV l y.toNat) := ⟨_, rfl⟩
      rw [← hlo] at hlo2 hgo2 hat'
      have hloi : lo ≤ i := by
        rw [hlo]
        split
        · exact Nat.le_refl _
        · have := lowV_le l y.toNat; omega
      have hfin : (∀ h7 : k = 7, ∀ j, lo ≤ j → j < i → ∀ z, l[j]? = some z → ¬ (z.kind = 7 ∧ z.m = km)) → fineT l s i ⟨k, kc, kn, km, t⟩ = true := fun h => hgo2.2 ⟨⟨HKA.out, HKB.out⟩, HK9.out, HP1.out, decide_eq_true (fun h7 j hj hl z hz => h h7 j hl hj z hz)⟩
      have hnof : ∀ j z, k = 7 → lo ≤ j → j < i → l[j]? = some z → z.kind = 7 → z.m = km → rightT l = false := fun j z h7 h1 h2 h3 h4 h5 => HNF.out (fun h => (of_decide_eq_true (hgo2.1 h).2.2.2) h7 j h2 h1 z h3 ⟨h4, h5⟩)
      have HFIN := Lib.hid hfin
      have HNOF := Lib.hid hnof
      have HLO2 := Lib.hid hlo2
      have HNO2 := Lib.hid hno'
      have HAT2 := Lib.hid hat'
      have ci := (hS4.cell i).trans hat'
      have HS4 := Lib.hid hS4
      have HX4 := Lib.hid hX4
      have HB4 := Lib.hid hB4
      clear hp1 HY2 hlo2 hgo2 hlo hfin hnof hno' hat' hS4 hX4 hB4 HGO HLO HKA HKB HK9 HP1 HY hyi HS3 HX3 HB3 HNO HB0 HB22
      go_upto_region 25 with fail
      go_loopw [10] (fun vk wq => ∃ q : Nat, lo ≤ q ∧ q ≤ i ∧ vk = .int .i64 q ∧ (k = 7 → ∀ j, lo ≤ j → j < q → ∀ z, l[j]? = some z → ¬ (z.kind = 7 ∧ z.m = km)) ∧ Blk wq w.heap.size vs' 3 ∧ Blk wq xb (ndI k kc kn km t) 60 ∧ Below w.heap.size w wq) (fun vk _ => i - (intOf vk).toNat)
      case atStart => exact ⟨lo, Nat.le_refl _, hloi, rfl, fun _ j h1 h2 => by omega, HS4.out, HX4.out, HB4.out⟩
      case round => as_aux_lemma =>
        clear HS4 HX4 HB4
        obtain ⟨q, hq1, hq2, rfl, hnq, hSq, hXq, hBq⟩ := hrel
        have HNQ := Lib.hid hnq
        have HSq := Lib.hid hSq
        have HXq := Lib.hid hXq
        have HBq := Lib.hid hBq
        clear hnq hSq hXq hBq
        by_cases hqi : q < i
        · have hdq : decide ((q : Int) < (i : Int)) = true := by rw [decide_eq_true_iff]; omega
          have xq : IntKind.i64.wrap ((q : Int) + 1) = (q : Int) + 1 := IntWalk.i64_in _ (by omega)
          have hql : q < l.length := by omega
          have hqd : decide (q < l.length) = true := decide_eq_true hql
          have hqI : (q : Int) < (l.length : Int) := by omega
          obtain ⟨g', o', eg, hgg, hcc⟩ := HCE.out _ HBq.out (by rintro rfl; simp at hql)
          cases eg
          have c0 := hcc q hql 0 (by decide)
          have c3 := hcc q hql 3 (by decide)
          have hgz : l[q]? = some l[q] := List.getElem?_eq_getElem hql
          generalize l[q] = z at *
          simp only [ndA, List.getElem?_toArray, List.getElem?_cons_zero, List.getElem?_cons_succ, Nat.add_zero] at c0 c3
          have HGZ := Lib.hid hgz
          have n0 := HXq.out.cell 0; have n3 := HXq.out.cell 3
          simp only [List.getElem?_toArray, List.getElem?_cons_zero, List.getElem?_cons_succ] at n0 n3
          clear hgz hcc hgg
          by_cases k7 : k = 7
          · have qk : (k == 7) = true := by rw [k7]; rfl
            by_cases z7 : z.kind = 7
            · have qz : (z.kind == 7) = true := by rw [z7]; rfl
              by_cases zm : z.m = km
              · have qm : (z.m == km) = true := by rw [zm]; simp
                have HR := Lib.hid (HNOF.out q z k7 hq1 hqi HGZ.out z7 zm)
                clear k7 z7 zm
                go_upto_region 27 with fail
                go_region
                go_wp2_with fail
                go_ret
                exact HFAIL.out HR.out _ HBq.out.drew
              · have qm : (z.m == km) = false := by rw [beq_eq_false_iff_ne]; exact zm
                have HE := Lib.hid (show k = 7 → ∀ j, lo ≤ j → j < q + 1 → ∀ z, l[j]? = some z → ¬ (z.kind = 7 ∧ z.m = km) from fun h7 j h1 h2 z' hz' h => by
                  by_cases hj : j = q
                  · subst hj; rw [HGZ.out] at hz'; cases hz'; exact zm h.2
                  · exact HNQ.out h7 j h1 (by omega) z' hz' h)
                clear k7 z7 zm
                go_upto_region 27 with fail
                go_region
                go_wp2_with fail
                go_roundw
                case rel => exact ⟨q + 1, by omega, by omega, by simp, HE.out, HSq.out.drew, HXq.out.drew, HBq.out.drew⟩
                case measure => simp [intOf]; omega
            · have qz : (z.kind == 7) = false := by rw [beq_eq_false_iff_ne]; exact z7
              have HE := Lib.hid (show k = 7 → ∀ j, lo ≤ j → j < q + 1 → ∀ z, l[j]? = some z → ¬ (z.kind = 7 ∧ z.m = km) from fun h7 j h1 h2 z' hz' h => by
                by_cases hj : j = q
                · subst hj; rw [HGZ.out] at hz'; cases hz'; exact z7 h.1
                · exact HNQ.out h7 j h1 (by omega) z' hz' h)
              clear k7 z7
              go_upto_region 27 with fail
              go_region
              go_wp2_with fail
              go_roundw
              case rel => exact ⟨q + 1, by omega, by omega, by simp, HE.out, HSq.out.drew, HXq.out.drew, HBq.out.drew⟩
              case measure => simp [intOf]; omega
          · have qk : (k == 7) = false := by rw [beq_eq_false_iff_ne]; exact k7
            have HE := Lib.hid (show k = 7 → ∀ j, lo ≤ j → j < q + 1 → ∀ z, l[j]? = some z → ¬ (z.kind = 7 ∧ z.m = km) from fun h7 => absurd h7 k7)
            clear k7
            go_upto_region 27 with fail
            go_region
            go_wp2_with fail
            go_roundw
            case rel => exact ⟨q + 1, by omega, by omega, by simp, HE.out, HSq.out.drew, HXq.out.drew, HBq.out.drew⟩
            case measure => simp [intOf]; omega
        · obtain rfl : q = i := by omega
          have hdq : decide ((q : Int) < (q : Int)) = false := by simp
          have HF := Lib.hid (HFIN.out HNQ.out)
          have xq : IntKind.i64.wrap ((q : Int) + 1) = (q : Int) + 1 := IntWalk.i64_in _ (by omega)
          go_wp2_with fail
          go_roundw
          case rel => exact ⟨q + 1, by omega, by simp, rfl, ⟨_, HMORE.out HF.out⟩, ⟨vs', hvs', fun j hj => by
            by_cases hji : j = q
            · subst hji; rw [HLO2.out HF.out]; exact HAT2.out
            · exact HNO2.out j (by omega), HSq.out⟩, HBq.out⟩
          case measure => simp [intOf]; omega
    · as_aux_lemma =>
      obtain rfl : i = l.length := by omega
      have hdI : decide ((l.length : Int) < (l.length : Int)) = false := by simp
      rw [List.take_length]
      have HB5 := Lib.hid hB
      have HS5 := Lib.hid hS
      have HNO5 := Lib.hid hno
      by_cases l0 : l.length = 0
      · have hl0 : l = [] := List.length_eq_zero_iff.1 l0
        have HR := Lib.hid (show rightT l = false from by rw [hl0]; rfl)
        have q0 : ((l.length : Int) == 0) = true := by rw [l0]; rfl
        clear hl0 l0 hS hB hno hs
        generalize l.length = len at *
        go_wp2_with fail
        go_ret
        exact HFAIL.out HR.out _ HB5.out
      have q0 : ((l.length : Int) == 0) = false := by rw [beq_eq_false_iff_ne]; omega
      have hre := right_end l s hs (by omega)
      by_cases l4 : 400 < l.length
      · have q4 : decide (400 < l.length) = true := decide_eq_true l4
        have q4' : decide ((400 : Int) < (l.length : Int)) = true := by rw [decide_eq_true_iff]; omega
        have HR := Lib.hid (show rightT l = false from by rw [hre]; exact decide_eq_false (fun h => by omega))
        clear hre hS hB hno hs
        go_wp2_with fail
        go_ret
        exact HFAIL.out HR.out _ HB5.out
      have q4 : decide (400 < l.length) = false := decide_eq_false l4
      have q4' : decide ((400 : Int) < (l.length : Int)) = false := by rw [decide_eq_false_iff_not]; omega
      by_cases l6 : 64 < lfT l
      · have q6 : decide (64 < lfT l) = true := decide_eq_true l6
        have q6' : decide ((64 : Int) < (lfT l : Int)) = true := by rw [decide_eq_true_iff]; omega
        have HR := Lib.hid (show rightT l = false from by rw [hre]; exact decide_eq_false (fun h => by omega))
        clear hre hS hB hno hs
        go_wp2_with fail
        go_ret
        exact HFAIL.out HR.out _ HB5.out
      have q6 : decide (64 < lfT l) = false := decide_eq_false l6
      have q6' : decide ((64 : Int) < (lfT l : Int)) = false := by rw [decide_eq_false_iff_not]; omega
      have xl : IntKind.i64.wrap ((l.length : Int) - 1) = ((l.length - 1 : Nat) : Int) := by rw [IntWalk.i64_in _ (by omega)]; omega
      have bl : l.length - 1 < l.length := by omega
      have dl : decide (l.length - 1 < l.length) = true := decide_eq_true bl
      have bl' : ((l.length - 1 : Nat) : Int) < (l.length : Int) := by omega
      have ck : wr.cell? ⟨w.heap.size, l.length - 1, none⟩ = some (.int .i64 (lowV l (l.length - 1) : Nat)) := (hS.cell _).trans (hno _ bl)
      by_cases z0 : lowV l (l.length - 1) = 0
      · have qz : ((lowV l (l.length - 1) : Int) != 0) = false := by rw [z0]; rfl
        have hr : rightT l = true := by rw [hre]; exact decide_eq_true ⟨by omega, by omega, z0⟩
        have hlo := lowsT_is l hr
        have HLL := Lib.hid (show (lowsT l).length = l.length by rw [hlo]; simp)
        have HI := Lib.hid (show IntsB w.heap.size (lowsT l) (some ⟨w.heap.size, 0, none⟩) wr from fun _ => ⟨w.heap.size, 0, rfl, Nat.le_refl _, hS.lt, fun j hj => by
          have hj2 : j < l.length := by rw [hlo] at hj; simpa using hj
          rw [Nat.zero_add, hS.cell j, hno j hj2]
          simp only [hlo, List.getElem_map, List.getElem_range]⟩)
        have HRT := Lib.hid hr
        clear hre hr hlo hS hB hno hs z0
        go_wp2_with fail
        go_ret
        exact ⟨some ⟨w.heap.size, 0, none⟩, l.length, by rw [HLL.out] <;> rfl, HI.out, (fun (h : rightT l = false) => by rw [HRT.out] at h; cases h), HB5.out⟩
      · have qz : ((lowV l (l.length - 1) : Int) != 0) = true := by rw [bne_iff_ne]; omega
        have HR := Lib.hid (show rightT l = false from by rw [hre]; exact decide_eq_false (fun h => z0 h.2.2))
        clear hre hS hB hno hs z0
        go_wp2_with fail
        go_ret
        exact HFAIL.out HR.out _ HB5.out
end Go.Proofs.YtdpkhliojbeglaaDoor

/- Frames of parse trees, plainly: what opens and closes, by the document's stack. Stage 14. -/
namespace Go.Proofs.YtdpkhliojbeglaaDoor
open Go.RowKit

/-- What opens and closes, in order: the place, the step. -/
def evF : Fo → List (Int × Int)
  | .nil => []
  | .cons n f e ks rest => ((f : Int), 2 * (n : Int)) :: (evF ks ++ ((e : Int), 2 * (n : Int) + 1) :: evF rest)
/-- What is closed ahead of an entry of depth d, and what stays open. -/
def closeT (d : Int) : List EnN → List (Int × Int) × List EnN
  | [] => ([], [])
  | x :: st => if d ≤ x.depth then ((x.to, 2 * x.node + 1) :: (closeT d st).1, (closeT d st).2) else ([], x :: st)
/-- One entry more. -/
def frStep (s : List (Int × Int) × List EnN) (x : EnN) : List (Int × Int) × List EnN :=
  (s.1 ++ (closeT x.depth s.2).1 ++ [(x.from_, 2 * x.node)], x :: (closeT x.depth s.2).2)
def frRun (s : List (Int × Int) × List EnN) (L : List EnN) : List (Int × Int) × List EnN := L.foldl frStep s
theorem frRun_app (s : List (Int × Int) × List EnN) (L M : List EnN) : frRun s (L ++ M) = frRun (frRun s L) M := by unfold frRun; rw [List.foldl_append]
theorem frRun_cons (s : List (Int × Int) × List EnN) (x : EnN) (M : List EnN) : frRun s (x :: M) = frRun (frStep s x) M := rfl
/-- All that is open lies less deep. -/
def shallow (d : Int) (st : List EnN) : Prop := ∀ x ∈ st, x.depth < d
theorem close_none {d : Int} : ∀ {st : List EnN}, shallow d st → closeT d st = ([], st)
  | [], _ => rfl
  | x :: st, h => by
    unfold closeT
    rw [if_neg (by have := h x (List.mem_cons_self ..); omega)]
/-- Behind the entries of a row of trees: what is closed at depth d or above completes what they open and close. -/
theorem frRun_forest : ∀ (F : Fo) (d : Int) (ev : List (Int × Int)) (st : List EnN), shallow d st → ∀ d', d' ≤ d →
    (frRun (ev, st) (flF d F)).1 ++ (closeT d' (frRun (ev, st) (flF d F)).2).1 = ev ++ evF F ++ (closeT d' st).1 ∧ (closeT d' (frRun (ev, st) (flF d F)).2).2 = (closeT d' st).2 := by
  intro F
  induction F with
  | nil => intro d ev st _ d' _; simp [flF, frRun, evF]
  | cons n f e ks rest ihk ihr =>
    intro d ev st hs d' hd
    have hs2 : shallow (d + 1) (⟨d, n, f, e⟩ :: st) := by
      intro x hx
      rcases List.mem_cons.1 hx with rfl | hx
      · show d < d + 1; omega
      · have := hs x hx; omega
    have h1 : frStep (ev, st) ⟨d, n, f, e⟩ = (ev ++ [((f : Int), 2 * (n : Int))], ⟨d, n, f, e⟩ :: st) := by
      unfold frStep
      simp only [close_none hs, List.append_nil]
    have hrun : frRun (ev, st) (flF d (.cons n f e ks rest)) = frRun (frRun (ev ++ [((f : Int), 2 * (n : Int))], ⟨d, n, f, e⟩ :: st) (flF (d + 1) ks)) (flF d rest) := by
      show frRun (ev, st) (⟨d, n, f, e⟩ :: (flF (d + 1) ks ++ flF d rest)) = _
      rw [frRun_cons, frRun_app, h1]
    rw [hrun]
    have ik := ihk (d + 1) (ev ++ [((f : Int), 2 * (n : Int))]) (⟨d, n, f, e⟩ :: st) hs2
    generalize frRun (ev ++ [((f : Int), 2 * (n : Int))], ⟨d, n, f, e⟩ :: st) (flF (d + 1) ks) = S at ik ⊢
    cases rest with
    | nil =>
      obtain ⟨i1, i2⟩ := ik d' (by omega)
      have hc : closeT d' (⟨d, n, f, e⟩ :: st) = (((e : Int), 2 * (n : Int) + 1) :: (closeT d' st).1, (closeT d' st).2) := by
        rw [closeT, if_pos hd]
      rw [hc] at i1 i2
      show (frRun S []).1 ++ (closeT d' (frRun S []).2).1 = _ ∧ (closeT d' (frRun S []).2).2 = _
      refine ⟨?_, i2⟩
      show S.1 ++ (closeT d' S.2).1 = _
      rw [i1]
      simp [evF]
    | cons n2 f2 e2 ks2 rest2 =>
      obtain ⟨i1, i2⟩ := ik d (by omega)
      have hc : closeT d (⟨d, n, f, e⟩ :: st) = ([((e : Int), 2 * (n : Int) + 1)], st) := by
        rw [closeT, if_pos (Int.le_refl _), close_none hs]
      rw [hc] at i1 i2
      have hS : frRun S (flF d (.cons n2 f2 e2 ks2 rest2)) = frRun (ev ++ ((f : Int), 2 * (n : Int)) :: evF ks ++ [((e : Int), 2 * (n : Int) + 1)], st) (flF d (.cons n2 f2 e2 ks2 rest2)) := by
        show frRun S (⟨d, n2, f2, e2⟩ :: _) = frRun _ (⟨d, n2, f2, e2⟩ :: _)
        rw [frRun_cons, frRun_cons]
        congr 1
        unfold frStep
        simp only [close_none hs]
        rw [i1, i2]
        simp
      rw [hS]
      obtain ⟨r1, r2⟩ := ihr d (ev ++ ((f : Int), 2 * (n : Int)) :: evF ks ++ [((e : Int), 2 * (n : Int) + 1)]) st hs d' hd
      refine ⟨?_, r2⟩
      rw [r1]
      simp [evF]
/-- All of a list's steps, by the document. -/
def frEvents (t : List EnN) : List (Int × Int) := (frRun ([], []) t).1 ++ (closeT 0 (frRun ([], []) t).2).1
theorem fr_tree (F : Fo) (d : Int) (h : 0 ≤ d) : frEvents (flF d F) = evF F := by
  have h1 := (frRun_forest F d [] [] (fun x hx => by cases hx) 0 h).1
  unfold frEvents
  rw [h1]
  simp [closeT]
end Go.Proofs.YtdpkhliojbeglaaDoor

/- The developers' terms: named, parts. Stage 10. -/
namespace Go.Proofs.YtdpkhliojbeglaaDoor
open Go.RowKit BS

/-- No number and no set but those that the kind names. -/
def namB (k m : Int) (t : BitVec 256) : Bool := ((k == 2) || decide (t = 0)) && (if k = 7 then decide (1 ≤ m) && decide (m ≤ 9) else m == 0)
set_option maxRecDepth 100000 in
set_option maxHeartbeats 4000000 in
theorem named_calls (k c n m : Int) (t : BitVec 256) (w : World) : Calls Tryd.prog 80 #[.agg (ndI k c n m t)] w fun e w' => e = .returned (.bool (namB k m t)) ∧ Below w.heap.size w w' := by
  have hB : Below w.heap.size w (w.alloc (.cells (ndI k c n m t) 60)) := by go_grown
  have b0 := Blk.new w (ndI k c n m t) 60
  have hee0 : ∀ w', (Op.equalIn 10000 58 (setV t) (.agg #[.int .u64 0, .int .u64 0, .int .u64 0, .int .u64 0])).run Tryd.prog w' = .ok (decide (t = 0)) w' := eq_set t 0
  have hR : ∃ R, namB k m t = R := ⟨_, rfl⟩
  obtain ⟨R, hR⟩ := hR
  rw [hR]
  unfold namB at hR
  generalize decide (t = 0) = r at *
  have HR := Lib.hid hR
  clear hR
  go_enter Tryd.func80, Tryd.ntmps80
  go_upto_region 1 with fail
  generalize w.alloc (.cells (ndI k c n m t) 60) = w1 at *
  have c0 := b0.cell 0; have c3 := b0.cell 3; have c4 := b0.cell 4; have c5 := b0.cell 5; have c6 := b0.cell 6; have c7 := b0.cell 7
  simp only [List.getElem?_toArray, List.getElem?_cons_zero, List.getElem?_cons_succ] at c0 c3 c4 c5 c6 c7
  clear b0
  by_cases h2 : k = 2
  · subst h2
    have HR2 := Lib.hid (show (m == 0) = R from by rw [← HR.out]; rfl)
    clear HR hee0
    go_wp2_with fail
    go_ret
    exact ⟨by rw [← HR2.out] <;> rfl, hB⟩
  · have q2 : (k == 2) = false := by rw [beq_eq_false_iff_ne]; exact h2
    have q2n : (k != 2) = true := by rw [bne, q2]; rfl
    rw [q2, Bool.false_or] at HR
    clear h2
    cases r with
    | false =>
      have HR2 := Lib.hid (show false = R from by rw [← HR.out]; rfl)
      clear HR
      go_wp2_with fail
      go_ret
      exact ⟨by rw [← HR2.out] <;> rfl, hB⟩
    | true =>
      rw [Bool.true_and] at HR
      by_cases h7 : k = 7
      · subst h7
        rw [if_pos rfl] at HR
        cases h1 : decide (1 ≤ m) with
        | false =>
          rw [h1, Bool.false_and] at HR
          go_wp2_with fail
          go_ret
          exact ⟨by rw [← HR.out] <;> rfl, hB⟩
        | true =>
          rw [h1, Bool.true_and] at HR
          go_wp2_with fail
          go_ret
          exact ⟨by rw [← HR.out] <;> rfl, hB⟩
      · rw [if_neg h7] at HR
        have q7 : (k == 7) = false := by rw [beq_eq_false_iff_ne]; exact h7
        clear h7
        go_wp2_with fail
        go_ret
        exact ⟨by rw [← HR.out] <;> rfl, hB⟩

/-- The parts that two numbers tell. -/
def pK (c n : Int) : Nat → List Int
  | 0 => []
  | 1 => if c = -1 then [] else [c]
  | _ => (if c = -1 then [] else [c]) ++ (if n = -1 then [] else [n])
def iV (L : List Int) : List Value := L.map (Value.int .i64)
theorem iV_len (L : List Int) : (iV L).length = L.length := by simp [iV]
theorem ints_of_own {base : Nat} {v : Value} {L : List Int} {W : World} (h : W.ownsRow base 3 1 v L.length (iV L)) : ∃ b c, v = .slice b L.length c ∧ IntsB base L b W := by
  rcases h.2 with ⟨hv, h0⟩ | ⟨g, cap, cur, hv, hb, hg, _⟩
  · have hL : L = [] := List.length_eq_zero_iff.1 h0
    subst hL
    exact ⟨none, 0, hv, fun hne => absurd rfl hne⟩
  · subst hv
    refine ⟨some ⟨g, 0, none⟩, cap, rfl, fun _ => ⟨g, 0, rfl, hb, (Array.getElem?_eq_some_iff.1 hg).1, fun i hi => ?_⟩⟩
    rw [Nat.zero_add, World.ownsRow.cellAt h i (by omega)]
    simp [iV, hi]
theorem infoIntO : (Tryd.prog.info? 3).map (fun i => (i.zero, i.size, i.bytes)) = some (some (.int .i64 0), 1, 8) := by kernel_rfl
theorem pK_len (c n : Int) (j : Nat) : (pK c n j).length ≤ 2 := by
  unfold pK
  split
  · simp
  · split <;> simp
  · split <;> split <;> simp
theorem pK_step (c n : Int) (j : Nat) (h : j < 2) : pK c n (j + 1) = pK c n j ++ (if (if j = 0 then c else n) = -1 then [] else [if j = 0 then c else n]) := by
  obtain rfl | rfl : j = 0 ∨ j = 1 := by omega
  · rfl
  · rfl
set_option maxRecDepth 100000 in
set_option maxHeartbeats 8000000 in
theorem parts_calls (k c n m : Int) (t : BitVec 256) (w : World) : Calls Tryd.prog 98 #[.agg (ndI k c n m t)] w fun e w' => ∃ b q, e = .returned (.slice b (pK c n 2).length q) ∧ IntsB w.heap.size (pK c n 2) b w' ∧ Below w.heap.size w w' := by
  have hB : Below w.heap.size w (w.alloc (.cells (ndI k c n m t) 60)) := by go_grown
  have b0 := Blk.new w (ndI k c n m t) 60
  have hz : w.heap.size ≤ (w.alloc (.cells (ndI k c n m t) 60)).heap.size := by simp
  obtain ⟨i0, hinf, hza, hzb, hzc⟩ := info_parts infoIntO
  go_enter Tryd.func98, Tryd.ntmps98
  go_upto_region 1 with fail
  generalize w.alloc (.cells (ndI k c n m t) 60) = w1 at *
  have c1 := b0.cell 1; have c2 := b0.cell 2
  simp only [List.getElem?_toArray, List.getElem?_cons_zero, List.getElem?_cons_succ] at c1 c2
  clear b0
  go_upto_region 3 with fail
  clear c1 c2
  have hx : ∀ (j : Nat), j < 2 → ∀ w', (Instr.index 164 (.agg #[.int .i64 c, .int .i64 n]) (.int .i64 (j : Int))).run Tryd.prog w' = .ok (.int .i64 (if j = 0 then c else n)) w' := fun j hj w' => by
    obtain rfl | rfl : j = 0 ∨ j = 1 := by omega
    · kernel_rfl
    · kernel_rfl
  go_loopw [3, 11] (fun vl vi wr => ∃ j : Nat, j ≤ 2 ∧ vi = .int .i64 j ∧ wr.ownsRow w.heap.size 3 1 vl (pK c n j).length (iV (pK c n j)) ∧ Below w.heap.size w wr) (fun _ vi _ => 2 - (intOf vi).toNat)
  case atStart => exact ⟨0, by omega, rfl, World.ownsRow_nil _ _ _ _, hB⟩
  case round =>
    clear hB hz
    obtain ⟨j, hj, rfl, hown, hB⟩ := hrel
    have HOW := Lib.hid hown
    have HB := Lib.hid hB
    have hpl := pK_len c n j
    clear hown hB
    by_cases hj2 : j < 2
    · have hjd : decide ((j : Int) < 2) = true := by rw [decide_eq_true_iff]; omega
      have hxx := hx j hj2
      have hst := pK_step c n j hj2
      have xj : IntKind.i64.wrap ((j : Int) + 1) = (j : Int) + 1 := IntWalk.i64_in _ (by omega)
      generalize (if j = 0 then c else n) = y at *
      clear hx
      by_cases hy : y = -1
      · have qy : (y == -1) = true := by rw [hy]; rfl
        rw [if_pos hy, List.append_nil] at hst
        have HST := Lib.hid hst
        clear hst hy
        go_wp2_with fail
        go_roundw
        case rel => exact ⟨j + 1, by omega, by simp, by rw [HST.out]; exact HOW.out, HB.out⟩
        case measure => simp [intOf]; omega
      · have qy : (y == -1) = false := by rw [beq_eq_false_iff_ne]; exact hy
        rw [if_neg hy] at hst
        have HST := Lib.hid hst
        clear hst hy
        have BWA : Below w.heap.size w (wr.alloc (.cells #[.int .i64 y] 3)) := HB.out.alloc HB.out.size _
        go_wp2_with (at_builtin; refine wpList_append_own _ rfl _ _ 54 rfl w.heap.size 3 i0 (.int .i64 0) 1 8 Tryd.underlying54 hinf hza hzb hzc rfl (by decide) _ (pK c n j).length (iV (pK c n j)) rfl (HOW.out.alloc _) ⟨wr.heap.size, 0, none⟩ 1 1 [.int .i64 y] rfl rfl (Blk.new wr _ _).newsL (by simp [Value.oneCell']) (by unfold maxLen; omega) (by omega) (by have := BWA.size; exact this) ?_; intro v2 w3 hown2 hgrow2 _)
        have hown3 : w3.ownsRow w.heap.size 3 1 v2 (pK c n (j + 1)).length (iV (pK c n (j + 1))) := by
          rw [HST.out, List.length_append]
          have e : iV (pK c n j ++ [y]) = iV (pK c n j) ++ [.int .i64 y] := by simp [iV]
          rw [e]
          exact hown2
        have HO3 := Lib.hid hown3
        have HB3 := Lib.hid (BWA.grown hgrow2 BWA.size (fun b hb => (HOW.out.lt b hb).1))
        clear hown2 hown3 hgrow2 BWA
        go_wp2_with fail
        go_roundw
        case rel => exact ⟨j + 1, by omega, by simp, HO3.out, HB3.out⟩
        case measure => simp [intOf]; omega
    · obtain rfl : j = 2 := by omega
      have hjd : decide (((2 : Nat) : Int) < 2) = false := by decide
      obtain ⟨b, q, rfl, hI⟩ := ints_of_own HOW.out
      have HI := Lib.hid hI
      clear hI HOW hx
      go_wp2_with fail
      go_ret
      exact ⟨b, q, rfl, HI.out, HB.out⟩
end Go.Proofs.YtdpkhliojbeglaaDoor

/- Words, plainly: they are bytes, no longer than there are nodes; which one is less. Stage 12. -/
namespace Go.Proofs.YtdpkhliojbeglaaDoor
open Go.RowKit BS

theorem nx_lt {t : BitVec 256} {b : Nat} (h : nxB t = some b) : b < 256 := by
  unfold nxB at h
  exact List.mem_range.1 (List.mem_of_find?_eq_some h)
theorem next_nx (t : BitVec 256) : nextOf t.getLsbD 0 = match nxB t with | some b => (b : Int) | none => -1 := by
  unfold nextOf nxB
  have e : (fun j => decide (0 ≤ j) && t.getLsbD j) = fun j => t.getLsbD j := by funext j; simp
  rw [e]
  cases List.find? (fun j => t.getLsbD j) (List.range 256) <;> rfl
theorem wd_small (l : List NdN) (hr : rightT l = true) : ∀ i, i < l.length → ∀ L, wdF l i = some L → (∀ x ∈ L, x < 256) ∧ L.length ≤ i + 1 - lowV l i := fun i => by
  induction i using Nat.strongRecOn with
  | ind i ih =>
    intro hi L hL
    rw [wd_eq l hr i hi] at hL
    obtain ⟨k1, k8⟩ := kind_range l hr i hi
    have hlow := lowV_le l i
    unfold wdE at hL
    rcases nodek_parts l hr i hi with ⟨h0, _⟩ | ⟨a, h0, h1, h2, h3, h4⟩ | ⟨a, b, h0, h1, h2, h3, h4, h5, h6⟩
    · rcases pc_zero h0 k1 k8 with h | h
      · rw [if_pos (.inl h)] at hL
        obtain rfl := Option.some.inj hL
        exact ⟨by simp, by simp⟩
      · rw [if_neg (by omega), if_pos h] at hL
        obtain ⟨b, hb, rfl⟩ := Option.map_eq_some_iff.1 hL
        refine ⟨fun x hx => ?_, by simp; omega⟩
        rw [List.mem_singleton.1 hx]
        exact nx_lt hb
    · have e : l[i].kids.toNat = a := by rw [h1]; omega
      have hla := lowV_le l a
      rcases pc_one h0 with h | h | h | h
      · rw [if_pos (by omega)] at hL
        obtain rfl := Option.some.inj hL
        exact ⟨by simp, by simp⟩
      · rw [if_pos (by omega)] at hL
        obtain rfl := Option.some.inj hL
        exact ⟨by simp, by simp⟩
      all_goals
        rw [if_neg (by omega), if_neg (by omega), if_neg (by omega), if_neg (by omega), if_pos (by omega), e] at hL
        obtain ⟨h5, h6⟩ := ih a (by omega) (by omega) L hL
        exact ⟨h5, by omega⟩
    · have ea : l[i].kids.toNat = a := by rw [h1]; omega
      have eb : l[i].n.toNat = b := by rw [h2]; omega
      have hla := lowV_le l a
      have hlb := lowV_le l b
      rcases pc_two h0 with h | h
      · rw [if_neg (by omega), if_neg (by omega), if_pos h, ea, eb] at hL
        obtain ⟨A, hA, hL⟩ := Option.bind_eq_some_iff.1 hL
        obtain ⟨B, hB, rfl⟩ := Option.map_eq_some_iff.1 hL
        obtain ⟨p1, p2⟩ := ih a h6 (by omega) A hA
        obtain ⟨q1, q2⟩ := ih b (by omega) (by omega) B hB
        refine ⟨fun x hx => (List.mem_append.1 hx).elim (p1 x) (q1 x), ?_⟩
        rw [List.length_append]
        omega
      · rw [if_neg (by omega), if_neg (by omega), if_neg (by omega), if_pos h, ea, eb] at hL
        have fa : ∀ A, wdF l a = some A → (∀ x ∈ A, x < 256) ∧ A.length ≤ i + 1 - lowV l i := fun A hA => by
          obtain ⟨p1, p2⟩ := ih a h6 (by omega) A hA
          exact ⟨p1, by omega⟩
        have fb : ∀ B, wdF l b = some B → (∀ x ∈ B, x < 256) ∧ B.length ≤ i + 1 - lowV l i := fun B hB => by
          obtain ⟨p1, p2⟩ := ih b (by omega) (by omega) B hB
          exact ⟨p1, by omega⟩
        cases hA : wdF l a with
        | none =>
          rw [hA] at hL
          exact fb L hL
        | some A =>
          rw [hA] at hL
          cases hB : wdF l b with
          | none =>
            rw [hB] at hL
            obtain rfl := Option.some.inj hL
            exact fa _ hA
          | some B =>
            rw [hB] at hL
            simp only at hL
            split at hL
            · obtain rfl := Option.some.inj hL
              exact fb _ hB
            · obtain rfl := Option.some.inj hL
              exact fa _ hA
/-- What node i's word is, if there is one. -/
def wdL (l : List NdN) (i : Nat) : List Nat := (wdF l i).getD []
def wdI (l : List NdN) (i : Nat) : Bool := (wdF l i).isSome
theorem wdL_len (l : List NdN) (hr : rightT l = true) (i : Nat) (hi : i < l.length) : (wdL l i).length ≤ l.length := by
  unfold wdL
  cases h : wdF l i with
  | none => simp
  | some L =>
    have := (wd_small l hr i hi L h).2
    show L.length ≤ _
    omega
theorem wdL_lt (l : List NdN) (hr : rightT l = true) (i : Nat) (hi : i < l.length) : ∀ x ∈ wdL l i, x < 256 := by
  unfold wdL
  cases h : wdF l i with
  | none => simp
  | some L => exact (wd_small l hr i hi L h).1
theorem wd_none (l : List NdN) (i : Nat) (h : wdI l i = false) : wdL l i = [] := by
  unfold wdI at h
  unfold wdL
  cases hw : wdF l i with
  | none => rfl
  | some L => rw [hw] at h; cases h
theorem wd_some (l : List NdN) (i : Nat) (h : wdI l i = true) : wdF l i = some (wdL l i) := by
  unfold wdI at h
  unfold wdL
  cases hw : wdF l i with
  | none => rw [hw] at h; cases h
  | some L => rfl
/-- By a node's kind: what its word is. -/
theorem wd_nil (l : List NdN) (hr : rightT l = true) (i : Nat) (hi : i < l.length) (h : l[i].kind = 1 ∨ l[i].kind = 5 ∨ l[i].kind = 6) : wdL l i = [] ∧ wdI l i = true := by
  unfold wdL wdI
  rw [wd_eq l hr i hi]
  unfold wdE
  rw [if_pos h]
  exact ⟨rfl, rfl⟩
theorem wd_leaf (l : List NdN) (hr : rightT l = true) (i : Nat) (hi : i < l.length) (h : l[i].kind = 2) : (∃ b, nxB l[i].set = some b ∧ b < 256 ∧ wdL l i = [b] ∧ wdI l i = true) ∨ (nxB l[i].set = none ∧ wdL l i = [] ∧ wdI l i = false) := by
  unfold wdL wdI
  rw [wd_eq l hr i hi]
  unfold wdE
  rw [if_neg (by omega), if_pos h]
  cases hn : nxB l[i].set with
  | none => exact .inr ⟨rfl, rfl, rfl⟩
  | some b => exact .inl ⟨b, rfl, nx_lt hn, rfl, rfl⟩
theorem wd_same (l : List NdN) (hr : rightT l = true) (i : Nat) (hi : i < l.length) (h : l[i].kind = 7 ∨ l[i].kind = 8) (a : Nat) (ha : l[i].kids = a) : wdL l i = wdL l a ∧ wdI l i = wdI l a := by
  unfold wdL wdI
  rw [wd_eq l hr i hi]
  unfold wdE
  rw [if_neg (by omega), if_neg (by omega), if_neg (by omega), if_neg (by omega), if_pos h, ha, Int.toNat_natCast]
  exact ⟨rfl, rfl⟩
theorem wd_cat (l : List NdN) (hr : rightT l = true) (i : Nat) (hi : i < l.length) (h : l[i].kind = 3) (a b : Nat) (ha : l[i].kids = a) (hb : l[i].n = b) : wdI l i = (wdI l a && wdI l b) ∧ wdL l i = (if wdI l a = true ∧ wdI l b = true then wdL l a ++ wdL l b else []) := by
  unfold wdL wdI
  rw [wd_eq l hr i hi]
  unfold wdE
  rw [if_neg (by omega), if_neg (by omega), if_pos h, ha, hb, Int.toNat_natCast, Int.toNat_natCast]
  cases wdF l a <;> cases wdF l b <;> simp
theorem wd_alt (l : List NdN) (hr : rightT l = true) (i : Nat) (hi : i < l.length) (h : l[i].kind = 4) (a b : Nat) (ha : l[i].kids = a) (hb : l[i].n = b) :
    wdI l i = (wdI l a || wdI l b) ∧ wdL l i = (if wdI l b = true ∧ (wdI l a = false ∨ btr (wdL l b) (wdL l a) = true) then wdL l b else wdL l a) := by
  unfold wdL wdI
  rw [wd_eq l hr i hi]
  unfold wdE
  rw [if_neg (by omega), if_neg (by omega), if_neg (by omega), if_pos h, ha, hb, Int.toNat_natCast, Int.toNat_natCast]
  cases wdF l a <;> cases hB : wdF l b <;> simp
  rename_i A B
  cases hbt : btr B A <;> simp
/-- Of rows of bytes as texts: which one is less. -/
theorem less_ofT : ∀ (L M : List Nat), (∀ x ∈ L, x < 256) → (∀ x ∈ M, x < 256) → Op.bytesLess (L.map UInt8.ofNat) (M.map UInt8.ofNat) = decide (L < M)
  | [], [], _, _ => by simp [Op.bytesLess]
  | x :: L, [], _, _ => by simp [Op.bytesLess]
  | [], y :: M, _, _ => by simp [Op.bytesLess]
  | x :: L, y :: M, hL, hM => by
    have ih := less_ofT L M (fun z hz => hL z (List.mem_cons_of_mem _ hz)) (fun z hz => hM z (List.mem_cons_of_mem _ hz))
    have hx := hL x List.mem_cons_self
    have hy := hM y List.mem_cons_self
    rw [List.map_cons, List.map_cons, Op.bytesLess, ih]
    have e1 : (UInt8.ofNat x < UInt8.ofNat y) ↔ x < y := by
      rw [UInt8.lt_iff_toNat_lt]
      simp
      omega
    have e2 : (UInt8.ofNat x = UInt8.ofNat y) ↔ x = y := by
      rw [← UInt8.toNat_inj]
      simp
      omega
    rw [Bool.eq_iff_iff]
    simp only [Bool.or_eq_true, Bool.and_eq_true, decide_eq_true_eq, beq_iff_eq, e1, e2, List.cons_lt_cons_iff]
theorem toL_ofT (L : List Nat) : (ofT L).toList = L.map UInt8.ofNat := by
  rw [ByteArray.toList_eq]
  unfold ofT
  simp
end Go.Proofs.YtdpkhliojbeglaaDoor

/- The laws of stage 10: TermParts, the walk. -/
import Derived.Test.YtlhlgohgmbkaoaaIo
import Derived.Outline
namespace Go.Proofs.Ytlhlgohgmbkaoaa
open Go.RowKit BS

set_option maxRecDepth 100000 in
set_option maxHeartbeats 32000000 in
theorem termParts_calls (C : TermC) (l : List NdN) (hl : l.length ≤ 9223372036854775807) (a : Option Addr) (cap : Nat) (w : World) (h : NodesAt l a w) :
    Calls Try.prog 5 #[.slice a l.length cap] w fun e w' => e = .returned (.bool true) ∧ Below w.heap.size w w' := by
  have HSU := Lib.hid (sure10_calls C)
  have HB := Lib.hid (Below.refl w.heap.size w)
  have HN := Lib.hid h
  clear h
  by_cases h5 : 500 < l.length
  · have q : decide (500 < l.length) = true := decide_eq_true h5
    have q' : decide ((500 : Int) < (l.length : Int)) = true := by rw [decide_eq_true_iff]; omega
    clear C h5
    go_enter Try.func5, Try.ntmps5
    go_wp2_with fail
    refine (HSU.out _).mono ?_
    rintro e wz ⟨rfl, hb⟩
    have hBB := HB.out.trans (hb.mono HB.out.size)
    clear HSU hb
    go_wp2_with fail
    go_ret
    exact ⟨rfl, hBB⟩
  have q : decide (500 < l.length) = false := decide_eq_false h5
  have q' : decide ((500 : Int) < (l.length : Int)) = false := by rw [decide_eq_false_iff_not]; omega
  have h1 := fun W h => C.right l (by omega) a cap W h
  cases hr : rightT l with
  | false =>
    rw [hr] at h1
    have H1 := Lib.hid h1
    clear C h1 hr h5
    go_enter Try.func5, Try.ntmps5
    go_wp2_with fail
    refine (H1.out _ HN.out).mono ?_
    rintro e w1 ⟨rfl, hb⟩
    replace HN := Lib.hid (HN.out.below hb)
    replace HB := Lib.hid (HB.out.trans (hb.mono HB.out.size))
    clear hb H1
    go_wp2_with fail
    refine (HSU.out _).mono ?_
    rintro e wz ⟨rfl, hb⟩
    have hBB := HB.out.trans (hb.mono HB.out.size)
    clear HSU hb
    go_wp2_with fail
    go_ret
    exact ⟨rfl, hBB⟩
  | true =>
  rw [hr] at h1
  have H1 := Lib.hid h1
  have hq := rightT_q l hr
  have hpos := hq.pos
  have hlow := lowsT_is l hr
  have hups : upsT l = (List.range l.length).map (upT l) := by unfold upsT; rw [hr]; rfl
  have hdps : deepsT l = (List.range l.length).map (fun x => (deepT l x : Int)) := by unfold deepsT; rw [hr]; rfl
  have hll : (lowsT l).length = l.length := by rw [hlow]; simp
  have hul : (upsT l).length = l.length := by rw [hups]; simp
  have hdl : (deepsT l).length = l.length := by rw [hdps]; simp
  have h2 := fun W h => C.low l (by omega) a cap W h
  have h3 := fun W h => C.up l (by omega) a cap W h
  have h4 := fun W h => C.deep l (by omega) a cap W h
  rw [hll] at h2
  rw [hul] at h3
  rw [hdl] at h4
  have H2 := Lib.hid h2
  have H3 := Lib.hid h3
  have H4 := Lib.hid h4
  have HNP := Lib.hid (low_parts l hr)
  have HIN := Lib.hid (hdA_in l hq)
  have HOUT := Lib.hid (hdA_out l)
  have HEND := Lib.hid (hdA_end l hq)
  have HZ := Lib.hid (hdA_zero l)
  have HUPO := Lib.hid (fun i (hi : i < l.length) (x : Nat) (hx : (x : Int) ∈ partsT l i) => (show upT l x = i ∧ deepT l x = deepT l i + 1 from ⟨by unfold upT; rw [up_of l hq i hi x hx], deep_up l hq x i (up_of l hq i hi x hx)⟩))
  have HRT := Lib.hid (show upT l (l.length - 1) = -1 ∧ deepT l (l.length - 1) = 1 from ⟨by unfold upT; rw [(up_none l hq (l.length - 1) (by omega)).2 rfl], deep_root l hq⟩)
  have HDLE := Lib.hid (deep_le l)
  have HLVE := Lib.hid (lowV_le l)
  have HLW := Lib.hid hlow
  have HUW := Lib.hid hups
  have HDW := Lib.hid hdps
  have HLL := Lib.hid hll
  have HUL := Lib.hid hul
  have HDL := Lib.hid hdl
  have hmk := fun W => run_make_row' (P := Try.prog) 26 3 (.int .i64 0) 8 Try.underlying26 (by kernel_rfl) rfl .i64 .i64 l.length (by omega) (by omega) W
  have hmz : (madeCells #[Value.int .i64 0] l.length).size = l.length := by simp [madeCells]
  have hmg : ∀ x, x < l.length → (madeCells #[Value.int .i64 0] l.length)[x]? = some (.int .i64 0) := fun x hx => by simp [madeCells, hx, Nat.mod_one]
  generalize madeCells #[Value.int .i64 0] l.length = vs0 at *
  clear C hr hq hlow hups hdps hll hul hdl h1 h2 h3 h4
  go_enter Try.func5, Try.ntmps5
  go_wp2_with fail
  refine (H1.out _ HN.out).mono ?_
  rintro e w1 ⟨rfl, hb⟩
  replace HN := Lib.hid (HN.out.below hb)
  replace HB := Lib.hid (HB.out.trans (hb.mono HB.out.size))
  clear hb H1
  go_wp2_with fail
  refine (H2.out _ HN.out).mono ?_
  rintro e w2 ⟨bl, kl, rfl, hi, hb⟩
  obtain ⟨gl, ol, rfl, _, hgl, hcl⟩ := hi (by intro h0; have := HLL.out; rw [h0] at this; simp at this; omega)
  have HIL := Lib.hid (show ∀ W, Below w2.heap.size w2 W → ∀ x, x < l.length → W.cell? ⟨gl, ol + x, none⟩ = some (.int .i64 (lowV l x : Nat)) from fun W hW x hx => by
    refine (hW.cell (p := ⟨gl, ol + x, none⟩) hgl).trans ((hcl x (by rw [HLL.out]; exact hx)).trans ?_)
    simp only [HLW.out, List.getElem_map, List.getElem_range])
  replace HN := Lib.hid (HN.out.below hb)
  replace HB := Lib.hid (HB.out.trans (hb.mono HB.out.size))
  clear hb H2 hi hcl
  go_wp2_with fail
  refine (H3.out _ HN.out).mono ?_
  rintro e w3 ⟨bu, ku, rfl, hi, hb⟩
  obtain ⟨gu, ou, rfl, _, hgu, hcu⟩ := hi (by intro h0; have := HUL.out; rw [h0] at this; simp at this; omega)
  have HIU := Lib.hid (show ∀ W, Below w3.heap.size w3 W → ∀ x, x < l.length → W.cell? ⟨gu, ou + x, none⟩ = some (.int .i64 (upT l x)) from fun W hW x hx => by
    refine (hW.cell (p := ⟨gu, ou + x, none⟩) hgu).trans ((hcu x (by rw [HUL.out]; exact hx)).trans ?_)
    simp only [HUW.out, List.getElem_map, List.getElem_range])
  have HIL3 := Lib.hid (fun W (hW : Below w3.heap.size w3 W) => HIL.out W (hb.trans (hW.mono hb.size)))
  have hgl3 : gl < w3.heap.size := Nat.lt_of_lt_of_le hgl hb.size
  replace HN := Lib.hid (HN.out.below hb)
  replace HB := Lib.hid (HB.out.trans (hb.mono HB.out.size))
  clear hb H3 hi hcu HIL hgl
  go_wp2_with fail
  refine (H4.out _ HN.out).mono ?_
  rintro e w4 ⟨bd, kd, rfl, hi, hb⟩
  obtain ⟨gd, od, rfl, _, hgd, hcd⟩ := hi (by intro h0; have := HDL.out; rw [h0] at this; simp at this; omega)
  have HID := Lib.hid (show ∀ W, Below w4.heap.size w4 W → ∀ x, x < l.length → W.cell? ⟨gd, od + x, none⟩ = some (.int .i64 (deepT l x : Nat)) from fun W hW x hx => by
    refine (hW.cell (p := ⟨gd, od + x, none⟩) hgd).trans ((hcd x (by rw [HDL.out]; exact hx)).trans ?_)
    simp only [HDW.out, List.getElem_map, List.getElem_range])
  have HIL := Lib.hid (fun W (hW : Below w4.heap.size w4 W) => HIL3.out W (hb.trans (hW.mono hb.size)))
  have HIU4 := Lib.hid (fun W (hW : Below w4.heap.size w4 W) => HIU.out W (hb.trans (hW.mono hb.size)))
  replace HN := Lib.hid (HN.out.below hb)
  replace HB := Lib.hid (HB.out.trans (hb.mono HB.out.size))
  clear hb H4 hi hcd HIL3 HIU hgl3 hgu hgd HLL HUL HDL HLW HUW HDW
  have HCE := Lib.hid (fun W (hW : Below w4.heap.size w4 W) => HN.out.below hW)
  have hS0 := Blk.new w4 vs0 3
  have HW0 := Lib.hid ((Below.refl w4.heap.size w4).alloc (Nat.le_refl _) (.cells vs0 3))
  go_upto_region 7 with fail
  generalize w4.alloc (.cells vs0 3) = w5 at *
  clear hmk
  go_upto_region 8 with fail
  go_loopw [7] (fun vi wr => ∃ i : Nat, i ≤ l.length ∧ vi = .int .i64 i ∧ (∃ vs : Array Value, vs.size = l.length ∧ (∀ x, x < l.length → vs[x]? = some (.int .i64 (hdA l i x : Nat))) ∧ Blk wr w4.heap.size vs 3) ∧ Below w4.heap.size w4 wr) (fun vi _ => l.length - (intOf vi).toNat)
  case atStart => exact ⟨0, Nat.zero_le _, rfl, ⟨vs0, hmz, fun x hx => by rw [HZ.out]; exact hmg x hx, hS0⟩, HW0.out⟩
  case round =>
    clear hS0 HW0 hmz hmg
    obtain ⟨i, hi, rfl, ⟨vs, hvs, hno, hS⟩, hBr⟩ := hrel
    have HNO := Lib.hid hno
    clear hno
    by_cases hlt : i < l.length
    · have hdI : decide ((i : Int) < (l.length : Int)) = true := by rw [decide_eq_true_iff]; omega
      have hd : decide (i < l.length) = true := decide_eq_true hlt
      have hii : (i : Int) < (l.length : Int) := by omega
      have xq : IntKind.i64.wrap ((i : Int) + 1) = (i : Int) + 1 := IntWalk.i64_in _ (by omega)
      obtain ⟨g, off, rfl, hg, hcc⟩ := HCE.out _ hBr (by rintro rfl; simp at hlt)
      have c1 := hcc i hlt 1 (by decide)
      have c2 := hcc i hlt 2 (by decide)
      simp only [ndA, List.getElem?_toArray, List.getElem?_cons_zero, List.getElem?_cons_succ] at c1 c2
      have cl := HIL.out _ hBr i hlt
      rcases HNP.out i hlt with ⟨e1, e2, e3, e4⟩ | ⟨a, e1, e2, e3, e4, e5⟩ | ⟨a, b, e1, e2, e3, e4, e5, e6, e7⟩
      · as_aux_lemma =>
        rw [e1] at c1
        rw [e2] at c2
        have hp0 := (Blk.new wr #[.int .i64 (-1), .int .i64 (-1)] 3).drewN 1
        have HS1 := Lib.hid ((hS.alloc (.cells #[.int .i64 (-1), .int .i64 (-1)] 3)).drewN 1)
        have HB1 := Lib.hid ((hBr.alloc hBr.size (.cells #[.int .i64 (-1), .int .i64 (-1)] 3)).drew)
        have hpb : w4.heap.size < wr.heap.size := hS.lt
        have HP1 := Lib.hid (show Blk (wr.alloc (.cells #[.int .i64 (-1), .int .i64 (-1)] 3)).drew wr.heap.size #[.int .i64 (-1), .int .i64 (-1)] 3 from hp0)
        clear hcc hS hBr hp0
        go_upto_region 11 with fail
        clear cl
        go_region
        clear c1 c2
        generalize hwp : (wr.alloc (.cells #[.int .i64 (-1), .int .i64 (-1)] 3)).drew = wp at *
        replace HS1 := Lib.hid (show Blk wp w4.heap.size vs 3 from by rw [← hwp]; exact HS1.out)
        clear hwp
        generalize wr.heap.size = pb at *
        go_upto_region 13 with fail
        go_loopw [8, 10] (fun vat vk wr => ((vk = .int .i64 0 ∧ vat = .int .i64 ((lowV l i : Nat) : Int) ∧ Blk wr w4.heap.size (vs) 3) ∨ (vk = .int .i64 1 ∧ vat = .int .i64 ((lowV l i : Nat) : Int) ∧ Blk wr w4.heap.size (vs) 3) ∨ (vk = .int .i64 2 ∧ vat = .int .i64 ((lowV l i : Nat) : Int) ∧ Blk wr w4.heap.size (vs) 3)) ∧ Blk wr pb #[.int .i64 (-1), .int .i64 (-1)] 3 ∧ Below w4.heap.size w4 wr) (fun _ vk _ => 2 - (intOf vk).toNat)
        case atStart => exact ⟨.inl ⟨rfl, congrArg (Value.int IntKind.i64) (by omega), HS1.out⟩, HP1.out, HB1.out⟩
        case round =>
          clear HS1 HP1 HB1
          obtain ⟨hk, hPq, hBq⟩ := hrel
          have HPq := Lib.hid hPq
          have HBq := Lib.hid hBq
          clear hPq hBq
          rcases hk with ⟨rfl, rfl, hSq⟩ | ⟨rfl, rfl, hSq⟩ | ⟨rfl, rfl, hSq⟩
          · have p0 := HPq.out.cell 0
            simp only [List.getElem?_toArray, List.getElem?_cons_zero] at p0
            have HSq := Lib.hid hSq
            clear hSq
            go_wp2_with fail
            go_roundw
            case rel => exact ⟨.inr (.inl ⟨rfl, congrArg (Value.int IntKind.i64) (by omega), HSq.out⟩), HPq.out, HBq.out⟩
            case measure => simp [intOf]
          · have p1 := HPq.out.cell 1
            simp only [List.getElem?_toArray, List.getElem?_cons_zero, List.getElem?_cons_succ] at p1
            have HSq := Lib.hid hSq
            clear hSq
            go_wp2_with fail
            go_roundw
            case rel => exact ⟨.inr (.inr ⟨rfl, congrArg (Value.int IntKind.i64) (by omega), HSq.out⟩), HPq.out, HBq.out⟩
            case measure => simp [intOf]
          · have hav : ((lowV l i : Nat) : Int) = (i : Int) := by omega
            have HV := Lib.hid (show (vs).size = l.length ∧ ∀ x, x < l.length → (vs)[x]? = some (.int .i64 (hdA l (i + 1) x : Nat)) from by
              refine ⟨hvs, fun x hx => ?_⟩
              rw [HOUT.out i x (by rw [e3]; exact List.not_mem_nil)]
              exact HNO.out x hx)
            have HSq := Lib.hid hSq
            have qe : (((lowV l i : Nat) : Int) != (i : Int)) = false := by rw [hav]; simp
            clear hSq hav
            go_wp2_with fail
            go_roundw
            case rel => exact ⟨i + 1, by omega, by simp, ⟨_, HV.out.1, HV.out.2, HSq.out⟩, HBq.out⟩
            case measure => simp [intOf]; omega
      · as_aux_lemma =>
        rw [e1] at c1
        rw [e2] at c2
        have hp0 := (Blk.new wr #[.int .i64 (a : Int), .int .i64 (-1)] 3).drewN 1
        have HS1 := Lib.hid ((hS.alloc (.cells #[.int .i64 (a : Int), .int .i64 (-1)] 3)).drewN 1)
        have HB1 := Lib.hid ((hBr.alloc hBr.size (.cells #[.int .i64 (a : Int), .int .i64 (-1)] 3)).drew)
        have hpb : w4.heap.size < wr.heap.size := hS.lt
        have HP1 := Lib.hid (show Blk (wr.alloc (.cells #[.int .i64 (a : Int), .int .i64 (-1)] 3)).drew wr.heap.size #[.int .i64 (a : Int), .int .i64 (-1)] 3 from hp0)
        clear hcc hS hBr hp0
        go_upto_region 11 with fail
        clear cl
        go_region
        clear c1 c2
        generalize hwp : (wr.alloc (.cells #[.int .i64 (a : Int), .int .i64 (-1)] 3)).drew = wp at *
        replace HS1 := Lib.hid (show Blk wp w4.heap.size vs 3 from by rw [← hwp]; exact HS1.out)
        clear hwp
        generalize wr.heap.size = pb at *
        go_upto_region 13 with fail
        go_loopw [8, 10] (fun vat vk wr => ((vk = .int .i64 0 ∧ vat = .int .i64 ((lowV l i : Nat) : Int) ∧ Blk wr w4.heap.size (vs) 3) ∨ (vk = .int .i64 1 ∧ vat = .int .i64 ((a + 1 : Nat) : Int) ∧ Blk wr w4.heap.size (vs.setIfInBounds a (.int .i64 1)) 3) ∨ (vk = .int .i64 2 ∧ vat = .int .i64 ((a + 1 : Nat) : Int) ∧ Blk wr w4.heap.size (vs.setIfInBounds a (.int .i64 1)) 3)) ∧ Blk wr pb #[.int .i64 (a : Int), .int .i64 (-1)] 3 ∧ Below w4.heap.size w4 wr) (fun _ vk _ => 2 - (intOf vk).toNat)
        case atStart => exact ⟨.inl ⟨rfl, congrArg (Value.int IntKind.i64) (by omega), HS1.out⟩, HP1.out, HB1.out⟩
        case round =>
          clear HS1 HP1 HB1
          obtain ⟨hk, hPq, hBq⟩ := hrel
          have HPq := Lib.hid hPq
          have HBq := Lib.hid hBq
          clear hPq hBq
          rcases hk with ⟨rfl, rfl, hSq⟩ | ⟨rfl, rfl, hSq⟩ | ⟨rfl, rfl, hSq⟩
          · have p0 := HPq.out.cell 0
            simp only [List.getElem?_toArray, List.getElem?_cons_zero] at p0
            have hxi : a < i := by omega
            have hxl : a < l.length := by omega
            have hxI : (a : Int) < (l.length : Int) := by omega
            have hxd : decide (a < l.length) = true := decide_eq_true hxl
            have qm : ((a : Int) == -1) = false := by rw [beq_eq_false_iff_ne]; omega
            have qn : decide ((a : Int) < 0) = false := by rw [decide_eq_false_iff_not]; omega
            have qi : decide ((i : Int) ≤ (a : Int)) = false := by rw [decide_eq_false_iff_not]; omega
            have qi2 : decide (i ≤ a) = false := decide_eq_false (by omega)
            have dl := HIL.out _ HBq.out a hxl
            have du := HIU4.out _ HBq.out a hxl
            have dd := HID.out _ HBq.out a hxl
            have di := HID.out _ HBq.out i hlt
            obtain ⟨u1, u2⟩ := HUPO.out i hlt a (by rw [e3]; simp)
            rw [u1] at du
            rw [u2] at dd
            rw [show lowV l a = (lowV l i : Nat) from by omega] at dl
            have hdl := HDLE.out i
            have xd : IntKind.i64.wrap ((deepT l i : Int) + 1) = ((deepT l i + 1 : Nat) : Int) := by rw [IntWalk.i64_in _ (by omega)]; rfl
            have qa : (((lowV l i : Nat) : Nat) : Int) = (((lowV l i : Nat) : Nat) : Int) := rfl
            have hv0 : (vs)[a]? = some (.int .i64 0) := by
              rw [HNO.out a (by omega), (HIN.out i hlt a (by rw [e3]; simp)).1]; rfl
            have hci := (hSq.cell a).trans hv0
            have hfi := hSq.frozen a
            have x01 : IntKind.i64.wrap ((0 : Int) + 1) = 1 := by decide
            have xa : IntKind.i64.wrap ((a : Int) + 1) = ((a + 1 : Nat) : Int) := by rw [IntWalk.i64_in _ (by omega)]; rfl
            have HSq := Lib.hid ((hSq.drewN 1).set a (.int .i64 1))
            have HPq2 := Lib.hid ((HPq.out.drewN 1).other (show pb ≠ w4.heap.size by omega) a (.int .i64 1))
            have HBq2 := Lib.hid (below_set HBq.out.drew (Nat.le_refl _) a (.int .i64 1))
            clear hSq u1 u2 hv0 hdl qa
            go_upto_region 17 with fail
            refine region_steps (S := fun W => (W.cell? ⟨gl, ol + a, none⟩ = some (.int .i64 (((lowV l i : Nat) : Nat) : Int)) ∧ W.cell? ⟨gu, ou + a, none⟩ = some (.int .i64 (i : Int)) ∧ W.cell? ⟨gd, od + a, none⟩ = some (.int .i64 ((deepT l i + 1 : Nat) : Int)) ∧ W.cell? ⟨gd, od + i, none⟩ = some (.int .i64 ((deepT l i : Nat) : Int))) ∧ W = wr.drew) (by kernel_rfl) ⟨⟨dl, du, dd, di⟩, rfl⟩ ?_
            clear dl du dd di p0
            simp only [List.size_toArray, List.length_cons, List.length_nil, Nat.reduceAdd, Array.replicate_succ, Array.replicate_zero, List.push_toArray, List.nil_append, List.cons_append]
            refine AnyS.stepE (i := 0) (d := some 81) rfl rfl (by kernel_rfl) (by kernel_rfl) (by kernel_rfl) ?_
            apply Exists.intro
            apply And.intro
            · apply StepsIf.yield
              · kernel_rfl
              intro w' hS
              clear hS; go_simp
              rfl
            intro a' ha'
            simp only [Act.put, List.setIfInBounds_toArray, List.set_cons_zero, List.set_cons_succ] at ha'
            subst ha'
            refine AnyS.stepE (i := 1) (d := some 82) rfl rfl (by kernel_rfl) (by kernel_rfl) (by kernel_rfl) ?_
            apply Exists.intro
            apply And.intro
            · apply StepsIf.yield
              · kernel_rfl
              intro w' hS
              clear hS; go_simp
              rfl
            intro a' ha'
            simp only [Act.put, List.setIfInBounds_toArray, List.set_cons_zero, List.set_cons_succ] at ha'
            subst ha'
            refine AnyS.stepE (i := 2) (d := some 83) rfl rfl (by kernel_rfl) (by kernel_rfl) (by kernel_rfl) ?_
            apply Exists.intro
            apply And.intro
            · apply StepsIf.yield
              · kernel_rfl
              intro w' hS
              clear hS; go_simp
              rfl
            intro a' ha'
            simp only [Act.put, List.setIfInBounds_toArray, List.set_cons_zero, List.set_cons_succ] at ha'
            subst ha'
            refine AnyS.stepE (i := 3) (d := some 84) rfl rfl (by kernel_rfl) (by kernel_rfl) (by kernel_rfl) ?_
            apply Exists.intro
            apply And.intro
            · apply StepsIf.yield
              · kernel_rfl
              intro w' hS
              clear hS; go_simp
              rfl
            intro a' ha'
            simp only [Act.put, List.setIfInBounds_toArray, List.set_cons_zero, List.set_cons_succ] at ha'
            subst ha'
            refine AnyS.stepE (i := 4) (d := some 85) rfl rfl (by kernel_rfl) (by kernel_rfl) (by kernel_rfl) ?_
            apply Exists.intro
            apply And.intro
            · apply StepsIf.yield
              · kernel_rfl
              intro w' hS
              clear hS; go_simp
              rfl
            intro a' ha'
            simp only [Act.put, List.setIfInBounds_toArray, List.set_cons_zero, List.set_cons_succ] at ha'
            subst ha'
            refine AnyS.stepE (i := 5) (d := some 86) rfl rfl (by kernel_rfl) (by kernel_rfl) (by kernel_rfl) ?_
            apply Exists.intro
            apply And.intro
            · apply StepsIf.yield
              · kernel_rfl
              intro w' hS
              clear hS; go_simp
              rfl
            intro a' ha'
            simp only [Act.put, List.setIfInBounds_toArray, List.set_cons_zero, List.set_cons_succ] at ha'
            subst ha'
            refine AnyS.stepE (i := 6) (d := some 87) rfl rfl (by kernel_rfl) (by kernel_rfl) (by kernel_rfl) ?_
            apply Exists.intro
            apply And.intro
            · apply StepsIf.yield
              · kernel_rfl
              intro w' hS
              clear hS; go_simp
              rfl
            intro a' ha'
            simp only [Act.put, List.setIfInBounds_toArray, List.set_cons_zero, List.set_cons_succ] at ha'
            subst ha'
            refine AnyS.stepE (i := 7) (d := some 88) rfl rfl (by kernel_rfl) (by kernel_rfl) (by kernel_rfl) ?_
            apply Exists.intro
            apply And.intro
            · apply StepsIf.yield
              · kernel_rfl
              intro w' hS
              clear hS; go_simp
              rfl
            intro a' ha'
            simp only [Act.put, List.setIfInBounds_toArray, List.set_cons_zero, List.set_cons_succ] at ha'
            subst ha'
            refine AnyS.stepE (i := 8) (d := some 89) rfl rfl (by kernel_rfl) (by kernel_rfl) (by kernel_rfl) ?_
            apply Exists.intro
            apply And.intro
            · apply StepsIf.yield
              · kernel_rfl
              intro w' hS
              clear hS; go_simp
              rfl
            intro a' ha'
            simp only [Act.put, List.setIfInBounds_toArray, List.set_cons_zero, List.set_cons_succ] at ha'
            subst ha'
            refine AnyS.stepE (i := 9) (d := some 90) rfl rfl (by kernel_rfl) (by kernel_rfl) (by kernel_rfl) ?_
            apply Exists.intro
            apply And.intro
            · apply StepsIf.yield
              · kernel_rfl
              intro w' hS
              clear hS; go_simp
              rfl
            intro a' ha'
            simp only [Act.put, List.setIfInBounds_toArray, List.set_cons_zero, List.set_cons_succ] at ha'
            subst ha'
            refine AnyS.stepE (i := 10) (d := some 91) rfl rfl (by kernel_rfl) (by kernel_rfl) (by kernel_rfl) ?_
            apply Exists.intro
            apply And.intro
            · apply StepsIf.yield
              · kernel_rfl
              intro w' hS
              clear hS; go_simp
              rfl
            intro a' ha'
            simp only [Act.put, List.setIfInBounds_toArray, List.set_cons_zero, List.set_cons_succ] at ha'
            subst ha'
            refine AnyS.stepE (i := 11) (d := some 92) rfl rfl (by kernel_rfl) (by kernel_rfl) (by kernel_rfl) ?_
            apply Exists.intro
            apply And.intro
            · apply StepsIf.yield
              · kernel_rfl
              intro w' hS
              have s := hS.1.1; clear hS; go_simp
              rfl
            intro a' ha'
            simp only [Act.put, List.setIfInBounds_toArray, List.set_cons_zero, List.set_cons_succ] at ha'
            subst ha'
            refine AnyS.stepE (i := 12) (d := some 93) rfl rfl (by kernel_rfl) (by kernel_rfl) (by kernel_rfl) ?_
            apply Exists.intro
            apply And.intro
            · apply StepsIf.yield
              · kernel_rfl
              intro w' hS
              clear hS; go_simp
              rfl
            intro a' ha'
            simp only [Act.put, List.setIfInBounds_toArray, List.set_cons_zero, List.set_cons_succ] at ha'
            subst ha'
            refine AnyS.stepE (i := 13) (d := some 94) rfl rfl (by kernel_rfl) (by kernel_rfl) (by kernel_rfl) ?_
            apply Exists.intro
            apply And.intro
            · apply StepsIf.yield
              · kernel_rfl
              intro w' hS
              clear hS; go_simp
              rfl
            intro a' ha'
            simp only [Act.put, List.setIfInBounds_toArray, List.set_cons_zero, List.set_cons_succ] at ha'
            subst ha'
            refine AnyS.stepE (i := 14) (d := some 95) rfl rfl (by kernel_rfl) (by kernel_rfl) (by kernel_rfl) ?_
            apply Exists.intro
            apply And.intro
            · apply StepsIf.yield
              · kernel_rfl
              intro w' hS
              clear hS; go_simp
              rfl
            intro a' ha'
            simp only [Act.put, List.setIfInBounds_toArray, List.set_cons_zero, List.set_cons_succ] at ha'
            subst ha'
            refine AnyS.stepE (i := 15) (d := some 96) rfl rfl (by kernel_rfl) (by kernel_rfl) (by kernel_rfl) ?_
            apply Exists.intro
            apply And.intro
            · apply StepsIf.yield
              · kernel_rfl
              intro w' hS
              clear hS; go_simp
              rfl
            intro a' ha'
            simp only [Act.put, List.setIfInBounds_toArray, List.set_cons_zero, List.set_cons_succ] at ha'
            subst ha'
            refine AnyS.stepE (i := 16) (d := some 97) rfl rfl (by kernel_rfl) (by kernel_rfl) (by kernel_rfl) ?_
            apply Exists.intro
            apply And.intro
            · apply StepsIf.yield
              · kernel_rfl
              intro w' hS
              clear hS; go_simp
              rfl
            intro a' ha'
            simp only [Act.put, List.setIfInBounds_toArray, List.set_cons_zero, List.set_cons_succ] at ha'
            subst ha'
            refine AnyS.stepE (i := 17) (d := some 98) rfl rfl (by kernel_rfl) (by kernel_rfl) (by kernel_rfl) ?_
            apply Exists.intro
            apply And.intro
            · apply StepsIf.yield
              · kernel_rfl
              intro w' hS
              clear hS; go_simp
              rfl
            intro a' ha'
            simp only [Act.put, List.setIfInBounds_toArray, List.set_cons_zero, List.set_cons_succ] at ha'
            subst ha'
            refine AnyS.stepE (i := 18) (d := some 99) rfl rfl (by kernel_rfl) (by kernel_rfl) (by kernel_rfl) ?_
            apply Exists.intro
            apply And.intro
            · apply StepsIf.yield
              · kernel_rfl
              intro w' hS
              clear hS; go_simp
              rfl
            intro a' ha'
            simp only [Act.put, List.setIfInBounds_toArray, List.set_cons_zero, List.set_cons_succ] at ha'
            subst ha'
            refine AnyS.stepE (i := 19) (d := some 100) rfl rfl (by kernel_rfl) (by kernel_rfl) (by kernel_rfl) ?_
            apply Exists.intro
            apply And.intro
            · apply StepsIf.yield
              · kernel_rfl
              intro w' hS
              have s := hS.1.2.1; clear hS; go_simp
              rfl
            intro a' ha'
            simp only [Act.put, List.setIfInBounds_toArray, List.set_cons_zero, List.set_cons_succ] at ha'
            subst ha'
            refine AnyS.stepE (i := 20) (d := some 101) rfl rfl (by kernel_rfl) (by kernel_rfl) (by kernel_rfl) ?_
            apply Exists.intro
            apply And.intro
            · apply StepsIf.yield
              · kernel_rfl
              intro w' hS
              clear hS; go_simp
              rfl
            intro a' ha'
            simp only [Act.put, List.setIfInBounds_toArray, List.set_cons_zero, List.set_cons_succ] at ha'
            subst ha'
            refine AnyS.stepE (i := 21) (d := some 102) rfl rfl (by kernel_rfl) (by kernel_rfl) (by kernel_rfl) ?_
            apply Exists.intro
            apply And.intro
            · apply StepsIf.yield
              · kernel_rfl
              intro w' hS
              clear hS; go_simp
              rfl
            intro a' ha'
            simp only [Act.put, List.setIfInBounds_toArray, List.set_cons_zero, List.set_cons_succ] at ha'
            subst ha'
            refine AnyS.stepE (i := 22) (d := some 103) rfl rfl (by kernel_rfl) (by kernel_rfl) (by kernel_rfl) ?_
            apply Exists.intro
            apply And.intro
            · apply StepsIf.yield
              · kernel_rfl
              intro w' hS
              clear hS; go_simp
              rfl
            intro a' ha'
            simp only [Act.put, List.setIfInBounds_toArray, List.set_cons_zero, List.set_cons_succ] at ha'
            subst ha'
            refine AnyS.stepE (i := 23) (d := some 104) rfl rfl (by kernel_rfl) (by kernel_rfl) (by kernel_rfl) ?_
            apply Exists.intro
            apply And.intro
            · apply StepsIf.yield
              · kernel_rfl
              intro w' hS
              clear hS; go_simp
              rfl
            intro a' ha'
            simp only [Act.put, List.setIfInBounds_toArray, List.set_cons_zero, List.set_cons_succ] at ha'
            subst ha'
            refine AnyS.stepE (i := 24) (d := some 105) rfl rfl (by kernel_rfl) (by kernel_rfl) (by kernel_rfl) ?_
            apply Exists.intro
            apply And.intro
            · apply StepsIf.yield
              · kernel_rfl
              intro w' hS
              clear hS; go_simp
              rfl
            intro a' ha'
            simp only [Act.put, List.setIfInBounds_toArray, List.set_cons_zero, List.set_cons_succ] at ha'
            subst ha'
            refine AnyS.stepE (i := 25) (d := some 106) rfl rfl (by kernel_rfl) (by kernel_rfl) (by kernel_rfl) ?_
            apply Exists.intro
            apply And.intro
            · apply StepsIf.yield
              · kernel_rfl
              intro w' hS
              clear hS; go_simp
              rfl
            intro a' ha'
            simp only [Act.put, List.setIfInBounds_toArray, List.set_cons_zero, List.set_cons_succ] at ha'
            subst ha'
            refine AnyS.stepE (i := 26) (d := some 107) rfl rfl (by kernel_rfl) (by kernel_rfl) (by kernel_rfl) ?_
            apply Exists.intro
            apply And.intro
            · apply StepsIf.yield
              · kernel_rfl
              intro w' hS
              clear hS; go_simp
              rfl
            intro a' ha'
            simp only [Act.put, List.setIfInBounds_toArray, List.set_cons_zero, List.set_cons_succ] at ha'
            subst ha'
            refine AnyS.stepE (i := 27) (d := some 108) rfl rfl (by kernel_rfl) (by kernel_rfl) (by kernel_rfl) ?_
            apply Exists.intro
            apply And.intro
            · apply StepsIf.yield
              · kernel_rfl
              intro w' hS
              have s := hS.1.2.2.1; clear hS; go_simp
              rfl
            intro a' ha'
            simp only [Act.put, List.setIfInBounds_toArray, List.set_cons_zero, List.set_cons_succ] at ha'
            subst ha'
            refine AnyS.stepE (i := 28) (d := some 109) rfl rfl (by kernel_rfl) (by kernel_rfl) (by kernel_rfl) ?_
            apply Exists.intro
            apply And.intro
            · apply StepsIf.yield
              · kernel_rfl
              intro w' hS
              clear hS; go_simp
              rfl
            intro a' ha'
            simp only [Act.put, List.setIfInBounds_toArray, List.set_cons_zero, List.set_cons_succ] at ha'
            subst ha'
            refine AnyS.stepE (i := 29) (d := some 110) rfl rfl (by kernel_rfl) (by kernel_rfl) (by kernel_rfl) ?_
            apply Exists.intro
            apply And.intro
            · apply StepsIf.yield
              · kernel_rfl
              intro w' hS
              clear hS; go_simp
              rfl
            intro a' ha'
            simp only [Act.put, List.setIfInBounds_toArray, List.set_cons_zero, List.set_cons_succ] at ha'
            subst ha'
            refine AnyS.stepE (i := 30) (d := some 111) rfl rfl (by kernel_rfl) (by kernel_rfl) (by kernel_rfl) ?_
            apply Exists.intro
            apply And.intro
            · apply StepsIf.yield
              · kernel_rfl
              intro w' hS
              clear hS; go_simp
              rfl
            intro a' ha'
            simp only [Act.put, List.setIfInBounds_toArray, List.set_cons_zero, List.set_cons_succ] at ha'
            subst ha'
            refine AnyS.stepE (i := 31) (d := some 112) rfl rfl (by kernel_rfl) (by kernel_rfl) (by kernel_rfl) ?_
            apply Exists.intro
            apply And.intro
            · apply StepsIf.yield
              · kernel_rfl
              intro w' hS
              have s := hS.1.2.2.2; clear hS; go_simp
              rfl
            intro a' ha'
            simp only [Act.put, List.setIfInBounds_toArray, List.set_cons_zero, List.set_cons_succ] at ha'
            subst ha'
            refine AnyS.stepE (i := 32) (d := some 113) rfl rfl (by kernel_rfl) (by kernel_rfl) (by kernel_rfl) ?_
            apply Exists.intro
            apply And.intro
            · apply StepsIf.yield
              · kernel_rfl
              intro w' hS
              clear hS; go_simp
              rfl
            intro a' ha'
            simp only [Act.put, List.setIfInBounds_toArray, List.set_cons_zero, List.set_cons_succ] at ha'
            subst ha'
            refine AnyS.stepE (i := 33) (d := some 114) rfl rfl (by kernel_rfl) (by kernel_rfl) (by kernel_rfl) ?_
            apply Exists.intro
            apply And.intro
            · apply StepsIf.yield
              · kernel_rfl
              intro w' hS
              clear hS; go_simp
              rfl
            intro a' ha'
            simp only [Act.put, List.setIfInBounds_toArray, List.set_cons_zero, List.set_cons_succ] at ha'
            subst ha'
            refine AnyS.stepE (i := 34) (d := some 115) rfl rfl (by kernel_rfl) (by kernel_rfl) (by kernel_rfl) ?_
            apply Exists.intro
            apply And.intro
            · apply StepsIf.yield
              · kernel_rfl
              intro w' hS
              clear hS; go_simp
              rfl
            intro a' ha'
            simp only [Act.put, List.setIfInBounds_toArray, List.set_cons_zero, List.set_cons_succ] at ha'
            subst ha'
            refine AnyS.done (by kernel_rfl) (fun w9 hS => ?_) _
            obtain ⟨_, rfl⟩ := hS
            go_wp2_with fail
            go_roundw
            case rel => exact ⟨.inr (.inl ⟨rfl, congrArg (Value.int IntKind.i64) (by omega), HSq.out⟩), HPq2.out, HBq2.out⟩
            case measure => simp [intOf]
          · have p1 := HPq.out.cell 1
            simp only [List.getElem?_toArray, List.getElem?_cons_zero, List.getElem?_cons_succ] at p1
            have HSq := Lib.hid hSq
            clear hSq
            go_wp2_with fail
            go_roundw
            case rel => exact ⟨.inr (.inr ⟨rfl, congrArg (Value.int IntKind.i64) (by omega), HSq.out⟩), HPq.out, HBq.out⟩
            case measure => simp [intOf]
          · have hav : ((a + 1 : Nat) : Int) = (i : Int) := by omega
            have HV := Lib.hid (show (vs.setIfInBounds a (.int .i64 1)).size = l.length ∧ ∀ x, x < l.length → (vs.setIfInBounds a (.int .i64 1))[x]? = some (.int .i64 (hdA l (i + 1) x : Nat)) from by
              refine ⟨by simp [hvs], fun x hx => ?_⟩
              by_cases hxa : x = a
              · subst hxa
                rw [(HIN.out i hlt x (by rw [e3]; simp)).2]
                simp [hvs, hx]
              · rw [HOUT.out i x (by rw [e3]; simp; omega), Array.getElem?_setIfInBounds_ne (by omega)]
                exact HNO.out x hx)
            have HSq := Lib.hid hSq
            have qe : (((a + 1 : Nat) : Int) != (i : Int)) = false := by rw [hav]; simp
            clear hSq hav
            go_wp2_with fail
            go_roundw
            case rel => exact ⟨i + 1, by omega, by simp, ⟨_, HV.out.1, HV.out.2, HSq.out⟩, HBq.out⟩
            case measure => simp [intOf]; omega
      · as_aux_lemma =>
        rw [e1] at c1
        rw [e2] at c2
        have hab : a < b := by have := HLVE.out b; omega
        have hp0 := (Blk.new wr #[.int .i64 (a : Int), .int .i64 (b : Int)] 3).drewN 1
        have HS1 := Lib.hid ((hS.alloc (.cells #[.int .i64 (a : Int), .int .i64 (b : Int)] 3)).drewN 1)
        have HB1 := Lib.hid ((hBr.alloc hBr.size (.cells #[.int .i64 (a : Int), .int .i64 (b : Int)] 3)).drew)
        have hpb : w4.heap.size < wr.heap.size := hS.lt
        have HP1 := Lib.hid (show Blk (wr.alloc (.cells #[.int .i64 (a : Int), .int .i64 (b : Int)] 3)).drew wr.heap.size #[.int .i64 (a : Int), .int .i64 (b : Int)] 3 from hp0)
        clear hcc hS hBr hp0
        go_upto_region 11 with fail
        clear cl
        go_region
        clear c1 c2
        generalize hwp : (wr.alloc (.cells #[.int .i64 (a : Int), .int .i64 (b : Int)] 3)).drew = wp at *
        replace HS1 := Lib.hid (show Blk wp w4.heap.size vs 3 from by rw [← hwp]; exact HS1.out)
        clear hwp
        generalize wr.heap.size = pb at *
        go_upto_region 13 with fail
        go_loopw [8, 10] (fun vat vk wr => ((vk = .int .i64 0 ∧ vat = .int .i64 ((lowV l i : Nat) : Int) ∧ Blk wr w4.heap.size (vs) 3) ∨ (vk = .int .i64 1 ∧ vat = .int .i64 ((a + 1 : Nat) : Int) ∧ Blk wr w4.heap.size (vs.setIfInBounds a (.int .i64 1)) 3) ∨ (vk = .int .i64 2 ∧ vat = .int .i64 ((b + 1 : Nat) : Int) ∧ Blk wr w4.heap.size ((vs.setIfInBounds a (.int .i64 1)).setIfInBounds b (.int .i64 1)) 3)) ∧ Blk wr pb #[.int .i64 (a : Int), .int .i64 (b : Int)] 3 ∧ Below w4.heap.size w4 wr) (fun _ vk _ => 2 - (intOf vk).toNat)
        case atStart => exact ⟨.inl ⟨rfl, congrArg (Value.int IntKind.i64) (by omega), HS1.out⟩, HP1.out, HB1.out⟩
        case round =>
          clear HS1 HP1 HB1
          obtain ⟨hk, hPq, hBq⟩ := hrel
          have HPq := Lib.hid hPq
          have HBq := Lib.hid hBq
          clear hPq hBq
          rcases hk with ⟨rfl, rfl, hSq⟩ | ⟨rfl, rfl, hSq⟩ | ⟨rfl, rfl, hSq⟩
          · have p0 := HPq.out.cell 0
            simp only [List.getElem?_toArray, List.getElem?_cons_zero] at p0
            have hxi : a < i := by omega
            have hxl : a < l.length := by omega
            have hxI : (a : Int) < (l.length : Int) := by omega
            have hxd : decide (a < l.length) = true := decide_eq_true hxl
            have qm : ((a : Int) == -1) = false := by rw [beq_eq_false_iff_ne]; omega
            have qn : decide ((a : Int) < 0) = false := by rw [decide_eq_false_iff_not]; omega
            have qi : decide ((i : Int) ≤ (a : Int)) = false := by rw [decide_eq_false_iff_not]; omega
            have qi2 : decide (i ≤ a) = false := decide_eq_false (by omega)
            have dl := HIL.out _ HBq.out a hxl
            have du := HIU4.out _ HBq.out a hxl
            have dd := HID.out _ HBq.out a hxl
            have di := HID.out _ HBq.out i hlt
            obtain ⟨u1, u2⟩ := HUPO.out i hlt a (by rw [e3]; simp)
            rw [u1] at du
            rw [u2] at dd
            rw [show lowV l a = (lowV l i : Nat) from by omega] at dl
            have hdl := HDLE.out i
            have xd : IntKind.i64.wrap ((deepT l i : Int) + 1) = ((deepT l i + 1 : Nat) : Int) := by rw [IntWalk.i64_in _ (by omega)]; rfl
            have qa : (((lowV l i : Nat) : Nat) : Int) = (((lowV l i : Nat) : Nat) : Int) := rfl
            have hv0 : (vs)[a]? = some (.int .i64 0) := by
              rw [HNO.out a (by omega), (HIN.out i hlt a (by rw [e3]; simp)).1]; rfl
            have hci := (hSq.cell a).trans hv0
            have hfi := hSq.frozen a
            have x01 : IntKind.i64.wrap ((0 : Int) + 1) = 1 := by decide
            have xa : IntKind.i64.wrap ((a : Int) + 1) = ((a + 1 : Nat) : Int) := by rw [IntWalk.i64_in _ (by omega)]; rfl
            have HSq := Lib.hid ((hSq.drewN 1).set a (.int .i64 1))
            have HPq2 := Lib.hid ((HPq.out.drewN 1).other (show pb ≠ w4.heap.size by omega) a (.int .i64 1))
            have HBq2 := Lib.hid (below_set HBq.out.drew (Nat.le_refl _) a (.int .i64 1))
            clear hSq u1 u2 hv0 hdl qa
            go_upto_region 17 with fail
            refine region_steps (S := fun W => (W.cell? ⟨gl, ol + a, none⟩ = some (.int .i64 (((lowV l i : Nat) : Nat) : Int)) ∧ W.cell? ⟨gu, ou + a, none⟩ = some (.int .i64 (i : Int)) ∧ W.cell? ⟨gd, od + a, none⟩ = some (.int .i64 ((deepT l i + 1 : Nat) : Int)) ∧ W.cell? ⟨gd, od + i, none⟩ = some (.int .i64 ((deepT l i : Nat) : Int))) ∧ W = wr.drew) (by kernel_rfl) ⟨⟨dl, du, dd, di⟩, rfl⟩ ?_
            clear dl du dd di p0
            simp only [List.size_toArray, List.length_cons, List.length_nil, Nat.reduceAdd, Array.replicate_succ, Array.replicate_zero, List.push_toArray, List.nil_append, List.cons_append]
            refine AnyS.stepE (i := 0) (d := some 81) rfl rfl (by kernel_rfl) (by kernel_rfl) (by kernel_rfl) ?_
            apply Exists.intro
            apply And.intro
            · apply StepsIf.yield
              · kernel_rfl
              intro w' hS
              clear hS; go_simp
              rfl
            intro a' ha'
            simp only [Act.put, List.setIfInBounds_toArray, List.set_cons_zero, List.set_cons_succ] at ha'
            subst ha'
            refine AnyS.stepE (i := 1) (d := some 82) rfl rfl (by kernel_rfl) (by kernel_rfl) (by kernel_rfl) ?_
            apply Exists.intro
            apply And.intro
            · apply StepsIf.yield
              · kernel_rfl
              intro w' hS
              clear hS; go_simp
              rfl
            intro a' ha'
            simp only [Act.put, List.setIfInBounds_toArray, List.set_cons_zero, List.set_cons_succ] at ha'
            subst ha'
            refine AnyS.stepE (i := 2) (d := some 83) rfl rfl (by kernel_rfl) (by kernel_rfl) (by kernel_rfl) ?_
            apply Exists.intro
            apply And.intro
            · apply StepsIf.yield
              · kernel_rfl
              intro w' hS
              clear hS; go_simp
              rfl
            intro a' ha'
            simp only [Act.put, List.setIfInBounds_toArray, List.set_cons_zero, List.set_cons_succ] at ha'
            subst ha'
            refine AnyS.stepE (i := 3) (d := some 84) rfl rfl (by kernel_rfl) (by kernel_rfl) (by kernel_rfl) ?_
            apply Exists.intro
            apply And.intro
            · apply StepsIf.yield
              · kernel_rfl
              intro w' hS
              clear hS; go_simp
              rfl
            intro a' ha'
            simp only [Act.put, List.setIfInBounds_toArray, List.set_cons_zero, List.set_cons_succ] at ha'
            subst ha'
            refine AnyS.stepE (i := 4) (d := some 85) rfl rfl (by kernel_rfl) (by kernel_rfl) (by kernel_rfl) ?_
            apply Exists.intro
            apply And.intro
            · apply StepsIf.yield
              · kernel_rfl
              intro w' hS
              clear hS; go_simp
              rfl
            intro a' ha'
            simp only [Act.put, List.setIfInBounds_toArray, List.set_cons_zero, List.set_cons_succ] at ha'
            subst ha'
            refine AnyS.stepE (i := 5) (d := some 86) rfl rfl (by kernel_rfl) (by kernel_rfl) (by kernel_rfl) ?_
            apply Exists.intro
            apply And.intro
            · apply StepsIf.yield
              · kernel_rfl
              intro w' hS
              clear hS; go_simp
              rfl
            intro a' ha'
            simp only [Act.put, List.setIfInBounds_toArray, List.set_cons_zero, List.set_cons_succ] at ha'
            subst ha'
            refine AnyS.stepE (i := 6) (d := some 87) rfl rfl (by kernel_rfl) (by kernel_rfl) (by kernel_rfl) ?_
            apply Exists.intro
            apply And.intro
            · apply StepsIf.yield
              · kernel_rfl
              intro w' hS
              clear hS; go_simp
              rfl
            intro a' ha'
            simp only [Act.put, List.setIfInBounds_toArray, List.set_cons_zero, List.set_cons_succ] at ha'
            subst ha'
            refine AnyS.stepE (i := 7) (d := some 88) rfl rfl (by kernel_rfl) (by kernel_rfl) (by kernel_rfl) ?_
            apply Exists.intro
            apply And.intro
            · apply StepsIf.yield
              · kernel_rfl
              intro w' hS
              clear hS; go_simp
              rfl
            intro a' ha'
            simp only [Act.put, List.setIfInBounds_toArray, List.set_cons_zero, List.set_cons_succ] at ha'
            subst ha'
            refine AnyS.stepE (i := 8) (d := some 89) rfl rfl (by kernel_rfl) (by kernel_rfl) (by kernel_rfl) ?_
            apply Exists.intro
            apply And.intro
            · apply StepsIf.yield
              · kernel_rfl
              intro w' hS
              clear hS; go_simp
              rfl
            intro a' ha'
            simp only [Act.put, List.setIfInBounds_toArray, List.set_cons_zero, List.set_cons_succ] at ha'
            subst ha'
            refine AnyS.stepE (i := 9) (d := some 90) rfl rfl (by kernel_rfl) (by kernel_rfl) (by kernel_rfl) ?_
            apply Exists.intro
            apply And.intro
            · apply StepsIf.yield
              · kernel_rfl
              intro w' hS
              clear hS; go_simp
              rfl
            intro a' ha'
            simp only [Act.put, List.setIfInBounds_toArray, List.set_cons_zero, List.set_cons_succ] at ha'
            subst ha'
            refine AnyS.stepE (i := 10) (d := some 91) rfl rfl (by kernel_rfl) (by kernel_rfl) (by kernel_rfl) ?_
            apply Exists.intro
            apply And.intro
            · apply StepsIf.yield
              · kernel_rfl
              intro w' hS
              clear hS; go_simp
              rfl
            intro a' ha'
            simp only [Act.put, List.setIfInBounds_toArray, List.set_cons_zero, List.set_cons_succ] at ha'
            subst ha'
            refine AnyS.stepE (i := 11) (d := some 92) rfl rfl (by kernel_rfl) (by kernel_rfl) (by kernel_rfl) ?_
            apply Exists.intro
            apply And.intro
            · apply StepsIf.yield
              · kernel_rfl
              intro w' hS
              have s := hS.1.1; clear hS; go_simp
              rfl
            intro a' ha'
            simp only [Act.put, List.setIfInBounds_toArray, List.set_cons_zero, List.set_cons_succ] at ha'
            subst ha'
            refine AnyS.stepE (i := 12) (d := some 93) rfl rfl (by kernel_rfl) (by kernel_rfl) (by kernel_rfl) ?_
            apply Exists.intro
            apply And.intro
            · apply StepsIf.yield
              · kernel_rfl
              intro w' hS
              clear hS; go_simp
              rfl
            intro a' ha'
            simp only [Act.put, List.setIfInBounds_toArray, List.set_cons_zero, List.set_cons_succ] at ha'
            subst ha'
            refine AnyS.stepE (i := 13) (d := some 94) rfl rfl (by kernel_rfl) (by kernel_rfl) (by kernel_rfl) ?_
            apply Exists.intro
            apply And.intro
            · apply StepsIf.yield
              · kernel_rfl
              intro w' hS
              clear hS; go_simp
              rfl
            intro a' ha'
            simp only [Act.put, List.setIfInBounds_toArray, List.set_cons_zero, List.set_cons_succ] at ha'
            subst ha'
            refine AnyS.stepE (i := 14) (d := some 95) rfl rfl (by kernel_rfl) (by kernel_rfl) (by kernel_rfl) ?_
            apply Exists.intro
            apply And.intro
            · apply StepsIf.yield
              · kernel_rfl
              intro w' hS
              clear hS; go_simp
              rfl
            intro a' ha'
            simp only [Act.put, List.setIfInBounds_toArray, List.set_cons_zero, List.set_cons_succ] at ha'
            subst ha'
            refine AnyS.stepE (i := 15) (d := some 96) rfl rfl (by kernel_rfl) (by kernel_rfl) (by kernel_rfl) ?_
            apply Exists.intro
            apply And.intro
            · apply StepsIf.yield
              · kernel_rfl
              intro w' hS
              clear hS; go_simp
              rfl
            intro a' ha'
            simp only [Act.put, List.setIfInBounds_toArray, List.set_cons_zero, List.set_cons_succ] at ha'
            subst ha'
            refine AnyS.stepE (i := 16) (d := some 97) rfl rfl (by kernel_rfl) (by kernel_rfl) (by kernel_rfl) ?_
            apply Exists.intro
            apply And.intro
            · apply StepsIf.yield
              · kernel_rfl
              intro w' hS
              clear hS; go_simp
              rfl
            intro a' ha'
            simp only [Act.put, List.setIfInBounds_toArray, List.set_cons_zero, List.set_cons_succ] at ha'
            subst ha'
            refine AnyS.stepE (i := 17) (d := some 98) rfl rfl (by kernel_rfl) (by kernel_rfl) (by kernel_rfl) ?_
            apply Exists.intro
            apply And.intro
            · apply StepsIf.yield
              · kernel_rfl
              intro w' hS
              clear hS; go_simp
              rfl
            intro a' ha'
            simp only [Act.put, List.setIfInBounds_toArray, List.set_cons_zero, List.set_cons_succ] at ha'
            subst ha'
            refine AnyS.stepE (i := 18) (d := some 99) rfl rfl (by kernel_rfl) (by kernel_rfl) (by kernel_rfl) ?_
            apply Exists.intro
            apply And.intro
            · apply StepsIf.yield
              · kernel_rfl
              intro w' hS
              clear hS; go_simp
              rfl
            intro a' ha'
            simp only [Act.put, List.setIfInBounds_toArray, List.set_cons_zero, List.set_cons_succ] at ha'
            subst ha'
            refine AnyS.stepE (i := 19) (d := some 100) rfl rfl (by kernel_rfl) (by kernel_rfl) (by kernel_rfl) ?_
            apply Exists.intro
            apply And.intro
            · apply StepsIf.yield
              · kernel_rfl
              intro w' hS
              have s := hS.1.2.1; clear hS; go_simp
              rfl
            intro a' ha'
            simp only [Act.put, List.setIfInBounds_toArray, List.set_cons_zero, List.set_cons_succ] at ha'
            subst ha'
            refine AnyS.stepE (i := 20) (d := some 101) rfl rfl (by kernel_rfl) (by kernel_rfl) (by kernel_rfl) ?_
            apply Exists.intro
            apply And.intro
            · apply StepsIf.yield
              · kernel_rfl
              intro w' hS
              clear hS; go_simp
              rfl
            intro a' ha'
            simp only [Act.put, List.setIfInBounds_toArray, List.set_cons_zero, List.set_cons_succ] at ha'
            subst ha'
            refine AnyS.stepE (i := 21) (d := some 102) rfl rfl (by kernel_rfl) (by kernel_rfl) (by kernel_rfl) ?_
            apply Exists.intro
            apply And.intro
            · apply StepsIf.yield
              · kernel_rfl
              intro w' hS
              clear hS; go_simp
              rfl
            intro a' ha'
            simp only [Act.put, List.setIfInBounds_toArray, List.set_cons_zero, List.set_cons_succ] at ha'
            subst ha'
            refine AnyS.stepE (i := 22) (d := some 103) rfl rfl (by kernel_rfl) (by kernel_rfl) (by kernel_rfl) ?_
            apply Exists.intro
            apply And.intro
            · apply StepsIf.yield
              · kernel_rfl
              intro w' hS
              clear hS; go_simp
              rfl
            intro a' ha'
            simp only [Act.put, List.setIfInBounds_toArray, List.set_cons_zero, List.set_cons_succ] at ha'
            subst ha'
            refine AnyS.stepE (i := 23) (d := some 104) rfl rfl (by kernel_rfl) (by kernel_rfl) (by kernel_rfl) ?_
            apply Exists.intro
            apply And.intro
            · apply StepsIf.yield
              · kernel_rfl
              intro w' hS
              clear hS; go_simp
              rfl
            intro a' ha'
            simp only [Act.put, List.setIfInBounds_toArray, List.set_cons_zero, List.set_cons_succ] at ha'
            subst ha'
            refine AnyS.stepE (i := 24) (d := some 105) rfl rfl (by kernel_rfl) (by kernel_rfl) (by kernel_rfl) ?_
            apply Exists.intro
            apply And.intro
            · apply StepsIf.yield
              · kernel_rfl
              intro w' hS
              clear hS; go_simp
              rfl
            intro a' ha'
            simp only [Act.put, List.setIfInBounds_toArray, List.set_cons_zero, List.set_cons_succ] at ha'
            subst ha'
            refine AnyS.stepE (i := 25) (d := some 106) rfl rfl (by kernel_rfl) (by kernel_rfl) (by kernel_rfl) ?_
            apply Exists.intro
            apply And.intro
            · apply StepsIf.yield
              · kernel_rfl
              intro w' hS
              clear hS; go_simp
              rfl
            intro a' ha'
            simp only [Act.put, List.setIfInBounds_toArray, List.set_cons_zero, List.set_cons_succ] at ha'
            subst ha'
            refine AnyS.stepE (i := 26) (d := some 107) rfl rfl (by kernel_rfl) (by kernel_rfl) (by kernel_rfl) ?_
            apply Exists.intro
            apply And.intro
            · apply StepsIf.yield
              · kernel_rfl
              intro w' hS
              clear hS; go_simp
              rfl
            intro a' ha'
            simp only [Act.put, List.setIfInBounds_toArray, List.set_cons_zero, List.set_cons_succ] at ha'
            subst ha'
            refine AnyS.stepE (i := 27) (d := some 108) rfl rfl (by kernel_rfl) (by kernel_rfl) (by kernel_rfl) ?_
            apply Exists.intro
            apply And.intro
            · apply StepsIf.yield
              · kernel_rfl
              intro w' hS
              have s := hS.1.2.2.1; clear hS; go_simp
              rfl
            intro a' ha'
            simp only [Act.put, List.setIfInBounds_toArray, List.set_cons_zero, List.set_cons_succ] at ha'
            subst ha'
            refine AnyS.stepE (i := 28) (d := some 109) rfl rfl (by kernel_rfl) (by kernel_rfl) (by kernel_rfl) ?_
            apply Exists.intro
            apply And.intro
            · apply StepsIf.yield
              · kernel_rfl
              intro w' hS
              clear hS; go_simp
              rfl
            intro a' ha'
            simp only [Act.put, List.setIfInBounds_toArray, List.set_cons_zero, List.set_cons_succ] at ha'
            subst ha'
            refine AnyS.stepE (i := 29) (d := some 110) rfl rfl (by kernel_rfl) (by kernel_rfl) (by kernel_rfl) ?_
            apply Exists.intro
            apply And.intro
            · apply StepsIf.yield
              · kernel_rfl
              intro w' hS
              clear hS; go_simp
              rfl
            intro a' ha'
            simp only [Act.put, List.setIfInBounds_toArray, List.set_cons_zero, List.set_cons_succ] at ha'
            subst ha'
            refine AnyS.stepE (i := 30) (d := some 111) rfl rfl (by kernel_rfl) (by kernel_rfl) (by kernel_rfl) ?_
            apply Exists.intro
            apply And.intro
            · apply StepsIf.yield
              · kernel_rfl
              intro w' hS
              clear hS; go_simp
              rfl
            intro a' ha'
            simp only [Act.put, List.setIfInBounds_toArray, List.set_cons_zero, List.set_cons_succ] at ha'
            subst ha'
            refine AnyS.stepE (i := 31) (d := some 112) rfl rfl (by kernel_rfl) (by kernel_rfl) (by kernel_rfl) ?_
            apply Exists.intro
            apply And.intro
            · apply StepsIf.yield
              · kernel_rfl
              intro w' hS
              have s := hS.1.2.2.2; clear hS; go_simp
              rfl
            intro a' ha'
            simp only [Act.put, List.setIfInBounds_toArray, List.set_cons_zero, List.set_cons_succ] at ha'
            subst ha'
            refine AnyS.stepE (i := 32) (d := some 113) rfl rfl (by kernel_rfl) (by kernel_rfl) (by kernel_rfl) ?_
            apply Exists.intro
            apply And.intro
            · apply StepsIf.yield
              · kernel_rfl
              intro w' hS
              clear hS; go_simp
              rfl
            intro a' ha'
            simp only [Act.put, List.setIfInBounds_toArray, List.set_cons_zero, List.set_cons_succ] at ha'
            subst ha'
            refine AnyS.stepE (i := 33) (d := some 114) rfl rfl (by kernel_rfl) (by kernel_rfl) (by kernel_rfl) ?_
            apply Exists.intro
            apply And.intro
            · apply StepsIf.yield
              · kernel_rfl
              intro w' hS
              clear hS; go_simp
              rfl
            intro a' ha'
            simp only [Act.put, List.setIfInBounds_toArray, List.set_cons_zero, List.set_cons_succ] at ha'
            subst ha'
            refine AnyS.stepE (i := 34) (d := some 115) rfl rfl (by kernel_rfl) (by kernel_rfl) (by kernel_rfl) ?_
            apply Exists.intro
            apply And.intro
            · apply StepsIf.yield
              · kernel_rfl
              intro w' hS
              clear hS; go_simp
              rfl
            intro a' ha'
            simp only [Act.put, List.setIfInBounds_toArray, List.set_cons_zero, List.set_cons_succ] at ha'
            subst ha'
            refine AnyS.done (by kernel_rfl) (fun w9 hS => ?_) _
            obtain ⟨_, rfl⟩ := hS
            go_wp2_with fail
            go_roundw
            case rel => exact ⟨.inr (.inl ⟨rfl, congrArg (Value.int IntKind.i64) (by omega), HSq.out⟩), HPq2.out, HBq2.out⟩
            case measure => simp [intOf]
          · have p1 := HPq.out.cell 1
            simp only [List.getElem?_toArray, List.getElem?_cons_zero, List.getElem?_cons_succ] at p1
            have hxi : b < i := by omega
            have hxl : b < l.length := by omega
            have hxI : (b : Int) < (l.length : Int) := by omega
            have hxd : decide (b < l.length) = true := decide_eq_true hxl
            have qm : ((b : Int) == -1) = false := by rw [beq_eq_false_iff_ne]; omega
            have qn : decide ((b : Int) < 0) = false := by rw [decide_eq_false_iff_not]; omega
            have qi : decide ((i : Int) ≤ (b : Int)) = false := by rw [decide_eq_false_iff_not]; omega
            have qi2 : decide (i ≤ b) = false := decide_eq_false (by omega)
            have dl := HIL.out _ HBq.out b hxl
            have du := HIU4.out _ HBq.out b hxl
            have dd := HID.out _ HBq.out b hxl
            have di := HID.out _ HBq.out i hlt
            obtain ⟨u1, u2⟩ := HUPO.out i hlt b (by rw [e3]; simp)
            rw [u1] at du
            rw [u2] at dd
            rw [show lowV l b = (a + 1 : Nat) from by omega] at dl
            have hdl := HDLE.out i
            have xd : IntKind.i64.wrap ((deepT l i : Int) + 1) = ((deepT l i + 1 : Nat) : Int) := by rw [IntWalk.i64_in _ (by omega)]; rfl
            have qa : (((a + 1 : Nat) : Nat) : Int) = (((a + 1 : Nat) : Nat) : Int) := rfl
            have hv0 : (vs.setIfInBounds a (.int .i64 1))[b]? = some (.int .i64 0) := by
              rw [Array.getElem?_setIfInBounds_ne (by omega), HNO.out b (by omega), (HIN.out i hlt b (by rw [e3]; simp)).1]; rfl
            have hci := (hSq.cell b).trans hv0
            have hfi := hSq.frozen b
            have x01 : IntKind.i64.wrap ((0 : Int) + 1) = 1 := by decide
            have xa : IntKind.i64.wrap ((b : Int) + 1) = ((b + 1 : Nat) : Int) := by rw [IntWalk.i64_in _ (by omega)]; rfl
            have HSq := Lib.hid ((hSq.drewN 1).set b (.int .i64 1))
            have HPq2 := Lib.hid ((HPq.out.drewN 1).other (show pb ≠ w4.heap.size by omega) b (.int .i64 1))
            have HBq2 := Lib.hid (below_set HBq.out.drew (Nat.le_refl _) b (.int .i64 1))
            clear hSq u1 u2 hv0 hdl qa
            go_upto_region 17 with fail
            refine region_steps (S := fun W => (W.cell? ⟨gl, ol + b, none⟩ = some (.int .i64 (((a + 1 : Nat) : Nat) : Int)) ∧ W.cell? ⟨gu, ou + b, none⟩ = some (.int .i64 (i : Int)) ∧ W.cell? ⟨gd, od + b, none⟩ = some (.int .i64 ((deepT l i + 1 : Nat) : Int)) ∧ W.cell? ⟨gd, od + i, none⟩ = some (.int .i64 ((deepT l i : Nat) : Int))) ∧ W = wr.drew) (by kernel_rfl) ⟨⟨dl, du, dd, di⟩, rfl⟩ ?_
            clear dl du dd di p1
            simp only [List.size_toArray, List.length_cons, List.length_nil, Nat.reduceAdd, Array.replicate_succ, Array.replicate_zero, List.push_toArray, List.nil_append, List.cons_append]
            refine AnyS.stepE (i := 0) (d := some 81) rfl rfl (by kernel_rfl) (by kernel_rfl) (by kernel_rfl) ?_
            apply Exists.intro
            apply And.intro
            · apply StepsIf.yield
              · kernel_rfl
              intro w' hS
              clear hS; go_simp
              rfl
            intro a' ha'
            simp only [Act.put, List.setIfInBounds_toArray, List.set_cons_zero, List.set_cons_succ] at ha'
            subst ha'
            refine AnyS.stepE (i := 1) (d := some 82) rfl rfl (by kernel_rfl) (by kernel_rfl) (by kernel_rfl) ?_
            apply Exists.intro
            apply And.intro
            · apply StepsIf.yield
              · kernel_rfl
              intro w' hS
              clear hS; go_simp
              rfl
            intro a' ha'
            simp only [Act.put, List.setIfInBounds_toArray, List.set_cons_zero, List.set_cons_succ] at ha'
            subst ha'
            refine AnyS.stepE (i := 2) (d := some 83) rfl rfl (by kernel_rfl) (by kernel_rfl) (by kernel_rfl) ?_
            apply Exists.intro
            apply And.intro
            · apply StepsIf.yield
              · kernel_rfl
              intro w' hS
              clear hS; go_simp
              rfl
            intro a' ha'
            simp only [Act.put, List.setIfInBounds_toArray, List.set_cons_zero, List.set_cons_succ] at ha'
            subst ha'
            refine AnyS.stepE (i := 3) (d := some 84) rfl rfl (by kernel_rfl) (by kernel_rfl) (by kernel_rfl) ?_
            apply Exists.intro
            apply And.intro
            · apply StepsIf.yield
              · kernel_rfl
              intro w' hS
              clear hS; go_simp
              rfl
            intro a' ha'
            simp only [Act.put, List.setIfInBounds_toArray, List.set_cons_zero, List.set_cons_succ] at ha'
            subst ha'
            refine AnyS.stepE (i := 4) (d := some 85) rfl rfl (by kernel_rfl) (by kernel_rfl) (by kernel_rfl) ?_
            apply Exists.intro
            apply And.intro
            · apply StepsIf.yield
              · kernel_rfl
              intro w' hS
              clear hS; go_simp
              rfl
            intro a' ha'
            simp only [Act.put, List.setIfInBounds_toArray, List.set_cons_zero, List.set_cons_succ] at ha'
            subst ha'
            refine AnyS.stepE (i := 5) (d := some 86) rfl rfl (by kernel_rfl) (by kernel_rfl) (by kernel_rfl) ?_
            apply Exists.intro
            apply And.intro
            · apply StepsIf.yield
              · kernel_rfl
              intro w' hS
              clear hS; go_simp
              rfl
            intro a' ha'
            simp only [Act.put, List.setIfInBounds_toArray, List.set_cons_zero, List.set_cons_succ] at ha'
            subst ha'
            refine AnyS.stepE (i := 6) (d := some 87) rfl rfl (by kernel_rfl) (by kernel_rfl) (by kernel_rfl) ?_
            apply Exists.intro
            apply And.intro
            · apply StepsIf.yield
              · kernel_rfl
              intro w' hS
              clear hS; go_simp
              rfl
            intro a' ha'
            simp only [Act.put, List.setIfInBounds_toArray, List.set_cons_zero, List.set_cons_succ] at ha'
            subst ha'
            refine AnyS.stepE (i := 7) (d := some 88) rfl rfl (by kernel_rfl) (by kernel_rfl) (by kernel_rfl) ?_
            apply Exists.intro
            apply And.intro
            · apply StepsIf.yield
              · kernel_rfl
              intro w' hS
              clear hS; go_simp
              rfl
            intro a' ha'
            simp only [Act.put, List.setIfInBounds_toArray, List.set_cons_zero, List.set_cons_succ] at ha'
            subst ha'
            refine AnyS.stepE (i := 8) (d := some 89) rfl rfl (by kernel_rfl) (by kernel_rfl) (by kernel_rfl) ?_
            apply Exists.intro
            apply And.intro
            · apply StepsIf.yield
              · kernel_rfl
              intro w' hS
              clear hS; go_simp
              rfl
            intro a' ha'
            simp only [Act.put, List.setIfInBounds_toArray, List.set_cons_zero, List.set_cons_succ] at ha'
            subst ha'
            refine AnyS.stepE (i := 9) (d := some 90) rfl rfl (by kernel_rfl) (by kernel_rfl) (by kernel_rfl) ?_
            apply Exists.intro
            apply And.intro
            · apply StepsIf.yield
              · kernel_rfl
              intro w' hS
              clear hS; go_simp
              rfl
            intro a' ha'
            simp only [Act.put, List.setIfInBounds_toArray, List.set_cons_zero, List.set_cons_succ] at ha'
            subst ha'
            refine AnyS.stepE (i := 10) (d := some 91) rfl rfl (by kernel_rfl) (by kernel_rfl) (by kernel_rfl) ?_
            apply Exists.intro
            apply And.intro
            · apply StepsIf.yield
              · kernel_rfl
              intro w' hS
              clear hS; go_simp
              rfl
            intro a' ha'
            simp only [Act.put, List.setIfInBounds_toArray, List.set_cons_zero, List.set_cons_succ] at ha'
            subst ha'
            refine AnyS.stepE (i := 11) (d := some 92) rfl rfl (by kernel_rfl) (by kernel_rfl) (by kernel_rfl) ?_
            apply Exists.intro
            apply And.intro
            · apply StepsIf.yield
              · kernel_rfl
              intro w' hS
              have s := hS.1.1; clear hS; go_simp
              rfl
            intro a' ha'
            simp only [Act.put, List.setIfInBounds_toArray, List.set_cons_zero, List.set_cons_succ] at ha'
            subst ha'
            refine AnyS.stepE (i := 12) (d := some 93) rfl rfl (by kernel_rfl) (by kernel_rfl) (by kernel_rfl) ?_
            apply Exists.intro
            apply And.intro
            · apply StepsIf.yield
              · kernel_rfl
              intro w' hS
              clear hS; go_simp
              rfl
            intro a' ha'
            simp only [Act.put, List.setIfInBounds_toArray, List.set_cons_zero, List.set_cons_succ] at ha'
            subst ha'
            refine AnyS.stepE (i := 13) (d := some 94) rfl rfl (by kernel_rfl) (by kernel_rfl) (by kernel_rfl) ?_
            apply Exists.intro
            apply And.intro
            · apply StepsIf.yield
              · kernel_rfl
              intro w' hS
              clear hS; go_simp
              rfl
            intro a' ha'
            simp only [Act.put, List.setIfInBounds_toArray, List.set_cons_zero, List.set_cons_succ] at ha'
            subst ha'
            refine AnyS.stepE (i := 14) (d := some 95) rfl rfl (by kernel_rfl) (by kernel_rfl) (by kernel_rfl) ?_
            apply Exists.intro
            apply And.intro
            · apply StepsIf.yield
              · kernel_rfl
              intro w' hS
              clear hS; go_simp
              rfl
            intro a' ha'
            simp only [Act.put, List.setIfInBounds_toArray, List.set_cons_zero, List.set_cons_succ] at ha'
            subst ha'
            refine AnyS.stepE (i := 15) (d := some 96) rfl rfl (by kernel_rfl) (by kernel_rfl) (by kernel_rfl) ?_
            apply Exists.intro
            apply And.intro
            · apply StepsIf.yield
              · kernel_rfl
              intro w' hS
              clear hS; go_simp
              rfl
            intro a' ha'
            simp only [Act.put, List.setIfInBounds_toArray, List.set_cons_zero, List.set_cons_succ] at ha'
            subst ha'
            refine AnyS.stepE (i := 16) (d := some 97) rfl rfl (by kernel_rfl) (by kernel_rfl) (by kernel_rfl) ?_
            apply Exists.intro
            apply And.intro
            · apply StepsIf.yield
              · kernel_rfl
              intro w' hS
              clear hS; go_simp
              rfl
            intro a' ha'
            simp only [Act.put, List.setIfInBounds_toArray, List.set_cons_zero, List.set_cons_succ] at ha'
            subst ha'
            refine AnyS.stepE (i := 17) (d := some 98) rfl rfl (by kernel_rfl) (by kernel_rfl) (by kernel_rfl) ?_
            apply Exists.intro
            apply And.intro
            · apply StepsIf.yield
              · kernel_rfl
              intro w' hS
              clear hS; go_simp
              rfl
            intro a' ha'
            simp only [Act.put, List.setIfInBounds_toArray, List.set_cons_zero, List.set_cons_succ] at ha'
            subst ha'
            refine AnyS.stepE (i := 18) (d := some 99) rfl rfl (by kernel_rfl) (by kernel_rfl) (by kernel_rfl) ?_
            apply Exists.intro
            apply And.intro
            · apply StepsIf.yield
              · kernel_rfl
              intro w' hS
              clear hS; go_simp
              rfl
            intro a' ha'
            simp only [Act.put, List.setIfInBounds_toArray, List.set_cons_zero, List.set_cons_succ] at ha'
            subst ha'
            refine AnyS.stepE (i := 19) (d := some 100) rfl rfl (by kernel_rfl) (by kernel_rfl) (by kernel_rfl) ?_
            apply Exists.intro
            apply And.intro
            · apply StepsIf.yield
              · kernel_rfl
              intro w' hS
              have s := hS.1.2.1; clear hS; go_simp
              rfl
            intro a' ha'
            simp only [Act.put, List.setIfInBounds_toArray, List.set_cons_zero, List.set_cons_succ] at ha'
            subst ha'
            refine AnyS.stepE (i := 20) (d := some 101) rfl rfl (by kernel_rfl) (by kernel_rfl) (by kernel_rfl) ?_
            apply Exists.intro
            apply And.intro
            · apply StepsIf.yield
              · kernel_rfl
              intro w' hS
              clear hS; go_simp
              rfl
            intro a' ha'
            simp only [Act.put, List.setIfInBounds_toArray, List.set_cons_zero, List.set_cons_succ] at ha'
            subst ha'
            refine AnyS.stepE (i := 21) (d := some 102) rfl rfl (by kernel_rfl) (by kernel_rfl) (by kernel_rfl) ?_
            apply Exists.intro
            apply And.intro
            · apply StepsIf.yield
              · kernel_rfl
              intro w' hS
              clear hS; go_simp
              rfl
            intro a' ha'
            simp only [Act.put, List.setIfInBounds_toArray, List.set_cons_zero, List.set_cons_succ] at ha'
            subst ha'
            refine AnyS.stepE (i := 22) (d := some 103) rfl rfl (by kernel_rfl) (by kernel_rfl) (by kernel_rfl) ?_
            apply Exists.intro
            apply And.intro
            · apply StepsIf.yield
              · kernel_rfl
              intro w' hS
              clear hS; go_simp
              rfl
            intro a' ha'
            simp only [Act.put, List.setIfInBounds_toArray, List.set_cons_zero, List.set_cons_succ] at ha'
            subst ha'
            refine AnyS.stepE (i := 23) (d := some 104) rfl rfl (by kernel_rfl) (by kernel_rfl) (by kernel_rfl) ?_
            apply Exists.intro
            apply And.intro
            · apply StepsIf.yield
              · kernel_rfl
              intro w' hS
              clear hS; go_simp
              rfl
            intro a' ha'
            simp only [Act.put, List.setIfInBounds_toArray, List.set_cons_zero, List.set_cons_succ] at ha'
            subst ha'
            refine AnyS.stepE (i := 24) (d := some 105) rfl rfl (by kernel_rfl) (by kernel_rfl) (by kernel_rfl) ?_
            apply Exists.intro
            apply And.intro
            · apply StepsIf.yield
              · kernel_rfl
              intro w' hS
              clear hS; go_simp
              rfl
            intro a' ha'
            simp only [Act.put, List.setIfInBounds_toArray, List.set_cons_zero, List.set_cons_succ] at ha'
            subst ha'
            refine AnyS.stepE (i := 25) (d := some 106) rfl rfl (by kernel_rfl) (by kernel_rfl) (by kernel_rfl) ?_
            apply Exists.intro
            apply And.intro
            · apply StepsIf.yield
              · kernel_rfl
              intro w' hS
              clear hS; go_simp
              rfl
            intro a' ha'
            simp only [Act.put, List.setIfInBounds_toArray, List.set_cons_zero, List.set_cons_succ] at ha'
            subst ha'
            refine AnyS.stepE (i := 26) (d := some 107) rfl rfl (by kernel_rfl) (by kernel_rfl) (by kernel_rfl) ?_
            apply Exists.intro
            apply And.intro
            · apply StepsIf.yield
              · kernel_rfl
              intro w' hS
              clear hS; go_simp
              rfl
            intro a' ha'
            simp only [Act.put, List.setIfInBounds_toArray, List.set_cons_zero, List.set_cons_succ] at ha'
            subst ha'
            refine AnyS.stepE (i := 27) (d := some 108) rfl rfl (by kernel_rfl) (by kernel_rfl) (by kernel_rfl) ?_
            apply Exists.intro
            apply And.intro
            · apply StepsIf.yield
              · kernel_rfl
              intro w' hS
              have s := hS.1.2.2.1; clear hS; go_simp
              rfl
            intro a' ha'
            simp only [Act.put, List.setIfInBounds_toArray, List.set_cons_zero, List.set_cons_succ] at ha'
            subst ha'
            refine AnyS.stepE (i := 28) (d := some 109) rfl rfl (by kernel_rfl) (by kernel_rfl) (by kernel_rfl) ?_
            apply Exists.intro
            apply And.intro
            · apply StepsIf.yield
              · kernel_rfl
              intro w' hS
              clear hS; go_simp
              rfl
            intro a' ha'
            simp only [Act.put, List.setIfInBounds_toArray, List.set_cons_zero, List.set_cons_succ] at ha'
            subst ha'
            refine AnyS.stepE (i := 29) (d := some 110) rfl rfl (by kernel_rfl) (by kernel_rfl) (by kernel_rfl) ?_
            apply Exists.intro
            apply And.intro
            · apply StepsIf.yield
              · kernel_rfl
              intro w' hS
              clear hS; go_simp
              rfl
            intro a' ha'
            simp only [Act.put, List.setIfInBounds_toArray, List.set_cons_zero, List.set_cons_succ] at ha'
            subst ha'
            refine AnyS.stepE (i := 30) (d := some 111) rfl rfl (by kernel_rfl) (by kernel_rfl) (by kernel_rfl) ?_
            apply Exists.intro
            apply And.intro
            · apply StepsIf.yield
              · kernel_rfl
              intro w' hS
              clear hS; go_simp
              rfl
            intro a' ha'
            simp only [Act.put, List.setIfInBounds_toArray, List.set_cons_zero, List.set_cons_succ] at ha'
            subst ha'
            refine AnyS.stepE (i := 31) (d := some 112) rfl rfl (by kernel_rfl) (by kernel_rfl) (by kernel_rfl) ?_
            apply Exists.intro
            apply And.intro
            · apply StepsIf.yield
              · kernel_rfl
              intro w' hS
              have s := hS.1.2.2.2; clear hS; go_simp
              rfl
            intro a' ha'
            simp only [Act.put, List.setIfInBounds_toArray, List.set_cons_zero, List.set_cons_succ] at ha'
            subst ha'
            refine AnyS.stepE (i := 32) (d := some 113) rfl rfl (by kernel_rfl) (by kernel_rfl) (by kernel_rfl) ?_
            apply Exists.intro
            apply And.intro
            · apply StepsIf.yield
              · kernel_rfl
              intro w' hS
              clear hS; go_simp
              rfl
            intro a' ha'
            simp only [Act.put, List.setIfInBounds_toArray, List.set_cons_zero, List.set_cons_succ] at ha'
            subst ha'
            refine AnyS.stepE (i := 33) (d := some 114) rfl rfl (by kernel_rfl) (by kernel_rfl) (by kernel_rfl) ?_
            apply Exists.intro
            apply And.intro
            · apply StepsIf.yield
              · kernel_rfl
              intro w' hS
              clear hS; go_simp
              rfl
            intro a' ha'
            simp only [Act.put, List.setIfInBounds_toArray, List.set_cons_zero, List.set_cons_succ] at ha'
            subst ha'
            refine AnyS.stepE (i := 34) (d := some 115) rfl rfl (by kernel_rfl) (by kernel_rfl) (by kernel_rfl) ?_
            apply Exists.intro
            apply And.intro
            · apply StepsIf.yield
              · kernel_rfl
              intro w' hS
              clear hS; go_simp
              rfl
            intro a' ha'
            simp only [Act.put, List.setIfInBounds_toArray, List.set_cons_zero, List.set_cons_succ] at ha'
            subst ha'
            refine AnyS.done (by kernel_rfl) (fun w9 hS => ?_) _
            obtain ⟨_, rfl⟩ := hS
            go_wp2_with fail
            go_roundw
            case rel => exact ⟨.inr (.inr ⟨rfl, congrArg (Value.int IntKind.i64) (by omega), HSq.out⟩), HPq2.out, HBq2.out⟩
            case measure => simp [intOf]
          · have hav : ((b + 1 : Nat) : Int) = (i : Int) := by omega
            have HV := Lib.hid (show ((vs.setIfInBounds a (.int .i64 1)).setIfInBounds b (.int .i64 1)).size = l.length ∧ ∀ x, x < l.length → ((vs.setIfInBounds a (.int .i64 1)).setIfInBounds b (.int .i64 1))[x]? = some (.int .i64 (hdA l (i + 1) x : Nat)) from by
              refine ⟨by simp [hvs], fun x hx => ?_⟩
              by_cases hxb : x = b
              · subst hxb
                rw [(HIN.out i hlt x (by rw [e3]; simp)).2]
                simp [hvs, hx]
              · rw [Array.getElem?_setIfInBounds_ne (by omega)]
                by_cases hxa : x = a
                · subst hxa
                  rw [(HIN.out i hlt x (by rw [e3]; simp)).2]
                  simp [hvs, hx]
                · rw [HOUT.out i x (by rw [e3]; simp; omega), Array.getElem?_setIfInBounds_ne (by omega)]
                  exact HNO.out x hx)
            have HSq := Lib.hid hSq
            have qe : (((b + 1 : Nat) : Int) != (i : Int)) = false := by rw [hav]; simp
            clear hSq hav
            go_wp2_with fail
            go_roundw
            case rel => exact ⟨i + 1, by omega, by simp, ⟨_, HV.out.1, HV.out.2, HSq.out⟩, HBq.out⟩
            case measure => simp [intOf]; omega
    · as_aux_lemma =>
      obtain rfl : i = l.length := by omega
      have hdI : decide ((l.length : Int) < (l.length : Int)) = false := by simp
      have hb1 : l.length - 1 < l.length := by omega
      have HH := Lib.hid (show ∀ x, x < l.length → wr.cell? ⟨w4.heap.size, x, none⟩ = some (.int .i64 ((if x = l.length - 1 then 0 else 1 : Nat) : Int)) from fun x hx => by
        rw [← HEND.out x hx]
        exact (hS.cell x).trans (HNO.out x hx))
      have cu := HIU4.out _ hBr (l.length - 1) hb1
      have cd := HID.out _ hBr (l.length - 1) hb1
      rw [HRT.out.1] at cu
      rw [HRT.out.2] at cd
      have CU := Lib.hid cu
      have CD := Lib.hid cd
      replace HB := Lib.hid (HB.out.trans (hBr.mono HB.out.size))
      have xl : IntKind.i64.wrap ((l.length : Int) - 1) = ((l.length - 1 : Nat) : Int) := by rw [IntWalk.i64_in _ (by omega)]; omega
      clear hS hBr HNO cu cd HNP HIN HOUT HEND HZ HUPO HRT HDLE HLVE HIL HIU4 HID HCE
      go_upto_region 24 with fail
      go_loop [12] (fun v => ∃ j : Nat, j ≤ l.length - 1 ∧ v = .int .i64 j) (fun v => l.length - (intOf v).toNat)
      case atStart => exact ⟨0, Nat.zero_le _, rfl⟩
      case round =>
        obtain ⟨j, hj, rfl⟩ := hrel
        by_cases hjl : j < l.length - 1
        · have ck := HH.out j (by omega)
          rw [if_neg (by omega)] at ck
          have hdj : decide ((j : Int) < ((l.length - 1 : Nat) : Int)) = true := by rw [decide_eq_true_iff]; omega
          have hdj2 : decide (j < l.length - 1) = true := decide_eq_true hjl
          have hjn : j < l.length := by omega
          have hjd : decide (j < l.length) = true := decide_eq_true hjn
          have hjI : (j : Int) < (l.length : Int) := by omega
          have xj : IntKind.i64.wrap ((j : Int) + 1) = (j : Int) + 1 := IntWalk.i64_in _ (by omega)
          go_wp2_with fail
          go_round
          case rel => exact ⟨j + 1, by omega, by simp⟩
          case measure => simp [intOf]; omega
        · obtain rfl : j = l.length - 1 := by omega
          have ck := HH.out (l.length - 1) hb1
          rw [if_pos rfl] at ck
          have cu := CU.out
          have cd := CD.out
          have hdj : decide (((l.length - 1 : Nat) : Int) < ((l.length - 1 : Nat) : Int)) = false := by simp
          have hdj2 : decide (l.length - 1 < l.length - 1) = false := by simp
          have hjd : decide (l.length - 1 < l.length) = true := decide_eq_true hb1
          have hjI : ((l.length - 1 : Nat) : Int) < (l.length : Int) := by omega
          clear CU CD HH
          go_wp2_with fail
          refine (HSU.out _).mono ?_
          rintro e wz ⟨rfl, hb⟩
          have hBB := HB.out.trans (hb.mono HB.out.size)
          clear HSU hb
          go_wp2_with fail
          go_ret
          exact ⟨rfl, hBB⟩
end Go.Proofs.Ytlhlgohgmbkaoaa

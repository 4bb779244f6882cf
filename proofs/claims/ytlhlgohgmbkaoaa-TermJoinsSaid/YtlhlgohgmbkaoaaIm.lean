/- The laws of stage 10: TermJoins. -/
import Derived.Test.YtlhlgohgmbkaoaaIp
import Derived.Test.YtlhlgohgmbkaoaaIw
import Derived.Test.YtlhlgohgmbkaoaaOw
import Derived.Test.YtlhlgohgmbkaoaaBa
import Derived.Outline
import Derived.Deep.DeepCutAuto
import Derived.Laws.AppendOwn
import Derived.BigQuiet
namespace Go.Proofs.Ytlhlgohgmbkaoaa
open Go.RowKit BS

theorem info8t : (Try.prog.info? 35).map (fun i => (i.zero, i.size, i.bytes)) = some (some (.agg #[.int .i64 0, .int .i64 0, .int .i64 0, .int .i64 0, .int .u64 0, .int .u64 0, .int .u64 0, .int .u64 0]), 8, 64) := by kernel_rfl
theorem nodes_of_ownsT {l : List NdN} {v : Value} {base : Nat} {W : World} (h : W.ownsRow base 35 8 v l.length (ndCells l)) (hne : l ≠ []) : ∃ g cap, v = .slice (some ⟨g, 0, none⟩) l.length cap ∧ base ≤ g ∧ NodesAt l (some ⟨g, 0, none⟩) W := by
  rcases h.2 with ⟨_, h0⟩ | ⟨g, cap, cur, rfl, hb, hg, _, _, _, _⟩
  · exact absurd (List.eq_nil_of_length_eq_zero h0) hne
  · refine ⟨g, cap, rfl, hb, fun _ => ⟨g, 0, rfl, (Array.getElem?_eq_some_iff.1 hg).1, fun i hi j hj => ?_⟩⟩
    rw [Nat.zero_add]
    have hjj : i * 8 + j < (ndCells l).length := by rw [ndCells_len]; omega
    exact (h.cellAt (i * 8 + j) (by omega)).trans (ndCells_get l i j hi hj)
theorem owns_emptyT (W : World) (base : Nat) (hb : base ≤ W.heap.size) : (W.alloc (.cells #[] 35)).ownsRow base 35 8 (.slice (some ⟨W.heap.size, 0, none⟩) 0 0) 0 [] :=
  ⟨rfl, .inr ⟨W.heap.size, 0, #[], rfl, hb, Blk.new W #[] 35, Nat.le_refl _, Nat.zero_le _, rfl, rfl⟩⟩
theorem ndCells_single (x : NdN) : ndCells [x] = (ndA x).toList := by simp [ndCells]
/-- The node above two terms, in cells. -/
theorem ndCells_top (k u v : Int) : ndCells [⟨k, u, v, 0, 0⟩] = [.int .i64 k, .int .i64 u, .int .i64 v, .int .i64 0, .int .u64 0, .int .u64 0, .int .u64 0, .int .u64 0] := by
  have z1 : wd (0 : BitVec 256) 1 = 0 := by decide
  have z2 : wd (0 : BitVec 256) 2 = 0 := by decide
  have z3 : wd (0 : BitVec 256) 3 = 0 := by decide
  rw [ndCells_single]
  show [Value.int .i64 k, .int .i64 u, .int .i64 v, .int .i64 0, .int .u64 ((wd (0 : BitVec 256) 0 : Nat) : Int), .int .u64 ((wd (0 : BitVec 256) 1 : Nat) : Int), .int .u64 ((wd (0 : BitVec 256) 2 : Nat) : Int), .int .u64 ((wd (0 : BitVec 256) 3 : Nat) : Int)] = _
  rw [z1, z2, z3]
  rfl
/-- The nodes of two terms, ahead of the node above. -/
def twoT (a b : List NdN) (i : Nat) : List NdN := a ++ (b.take i).map (shN a.length)
theorem twoT_len (a b : List NdN) (i : Nat) (h : i ≤ b.length) : (twoT a b i).length = a.length + i := by simp [twoT]; omega
theorem twoT_zero (a b : List NdN) : twoT a b 0 = a := by simp [twoT]
theorem twoT_step (a b : List NdN) (i : Nat) (h : i < b.length) : twoT a b (i + 1) = twoT a b i ++ [shN a.length b[i]] := by
  unfold twoT
  rw [List.take_succ_eq_append_getElem h, List.map_append, List.append_assoc]
  rfl
theorem joinT_two (a b : List NdN) (k : Int) : joinT a b k = twoT a b b.length ++ [⟨k, (a.length : Int) - 1, (a.length : Int) + b.length - 1, 0, 0⟩] := by
  unfold joinT twoT
  rw [List.take_of_length_le (Nat.le_refl _)]
theorem lf_two (a b : List NdN) : lfT (twoT a b b.length) = lfT a + lfT b := by
  unfold twoT
  rw [lfT_app, lfT_sh, List.take_of_length_le (Nat.le_refl _)]
theorem deeps_is (l : List NdN) (h : rightT l = true) : (deepsT l).length = l.length ∧ ∀ i (hi : i < (deepsT l).length), (deepsT l)[i] = (deepT l i : Int) := by
  have e : deepsT l = (List.range l.length).map (fun x => (deepT l x : Int)) := if_pos h
  refine ⟨by rw [e]; simp, fun i hi => ?_⟩
  simp only [e, List.getElem_map, List.getElem_range]
set_option maxRecDepth 100000 in
set_option maxHeartbeats 32000000 in
theorem termJoins_calls (C : TermC) (l m : List NdN) (hn : l.length ≤ 9223372036854775807) (hnm : m.length ≤ 9223372036854775807) (n0 : Int) (a b : Option Addr) (cap capm : Nat) (w : World) (h : NodesAt l a w) (hm : NodesAt m b w) :
    Calls Try.prog 6 #[.slice a l.length cap, .slice b m.length capm, .int .i64 n0] w fun e w' => e = .returned (.bool true) ∧ Below w.heap.size w w' := by
  have HSU := Lib.hid (sure10_calls C)
  have HN := Lib.hid h
  have HM := Lib.hid hm
  have HB := Lib.hid (Below.refl w.heap.size w)
  have HN0 := HN
  have HM0 := HM
  clear h hm
  by_cases hl : 60 < l.length
  · have q : decide (60 < l.length) = true := decide_eq_true hl
    have q' : decide (60 < (l.length : Int)) = true := by rw [decide_eq_true_iff]; omega
    clear C hl
    go_enter Try.func6, Try.ntmps6
    go_wp2_with fail
    refine (HSU.out _).mono ?_
    rintro e wz ⟨rfl, hb⟩
    have hBB := HB.out.trans (hb.mono HB.out.size)
    clear HSU hb
    go_wp2_with fail
    go_ret
    exact ⟨rfl, hBB⟩
  have q : decide (60 < l.length) = false := decide_eq_false hl
  have q' : decide (60 < (l.length : Int)) = false := by rw [decide_eq_false_iff_not]; omega
  by_cases hl2 : 60 < m.length
  · have p : decide (60 < m.length) = true := decide_eq_true hl2
    have p' : decide (60 < (m.length : Int)) = true := by rw [decide_eq_true_iff]; omega
    clear C hl hl2
    go_enter Try.func6, Try.ntmps6
    go_wp2_with fail
    refine (HSU.out _).mono ?_
    rintro e wz ⟨rfl, hb⟩
    have hBB := HB.out.trans (hb.mono HB.out.size)
    clear HSU hb
    go_wp2_with fail
    go_ret
    exact ⟨rfl, hBB⟩
  have p : decide (60 < m.length) = false := decide_eq_false hl2
  have p' : decide (60 < (m.length : Int)) = false := by rw [decide_eq_false_iff_not]; omega
  have hl6 : l.length ≤ 60 := by omega
  have hm6 : m.length ≤ 60 := by omega
  clear hl hl2
  have r1 := fun W h => C.right l (by omega) a cap W h
  have r2 := fun W h => C.right m (by omega) b capm W h
  cases hr1 : rightT l with
  | false =>
    rw [hr1] at r1
    have HR1 := Lib.hid r1
    clear C r1 r2 hr1
    go_enter Try.func6, Try.ntmps6
    go_wp2_with fail
    refine (HR1.out _ HN.out).mono ?_
    rintro e w1 ⟨rfl, hb⟩
    replace HN := Lib.hid (HN.out.below hb)
    replace HM := Lib.hid (HM.out.below hb)
    replace HB := Lib.hid (HB.out.trans (hb.mono HB.out.size))
    clear hb HR1
    go_wp2_with fail
    refine (HSU.out _).mono ?_
    rintro e wz ⟨rfl, hb⟩
    have hBB := HB.out.trans (hb.mono HB.out.size)
    clear HSU hb
    go_wp2_with fail
    go_ret
    exact ⟨rfl, hBB⟩
  | true =>
  rw [hr1] at r1
  have HR1 := Lib.hid r1
  cases hr2 : rightT m with
  | false =>
    rw [hr2] at r2
    have HR2 := Lib.hid r2
    clear C r1 r2 hr1 hr2
    go_enter Try.func6, Try.ntmps6
    go_wp2_with fail
    refine (HR1.out _ HN.out).mono ?_
    rintro e w1 ⟨rfl, hb⟩
    replace HN := Lib.hid (HN.out.below hb)
    replace HM := Lib.hid (HM.out.below hb)
    replace HB := Lib.hid (HB.out.trans (hb.mono HB.out.size))
    clear hb HR1
    go_wp2_with fail
    refine (HR2.out _ HM.out).mono ?_
    rintro e w2 ⟨rfl, hb⟩
    replace HN := Lib.hid (HN.out.below hb)
    replace HM := Lib.hid (HM.out.below hb)
    replace HB := Lib.hid (HB.out.trans (hb.mono HB.out.size))
    clear hb HR2
    go_wp2_with fail
    refine (HSU.out _).mono ?_
    rintro e wz ⟨rfl, hb⟩
    have hBB := HB.out.trans (hb.mono HB.out.size)
    clear HSU hb
    go_wp2_with fail
    go_ret
    exact ⟨rfl, hBB⟩
  | true =>
  rw [hr2] at r2
  have HR2 := Lib.hid r2
  have r3 := fun W h => tRight_calls l (by omega) a cap W h
  have r4 := fun W h => tRight_calls m (by omega) b capm W h
  rw [hr1] at r3
  rw [hr2] at r4
  have HR3 := Lib.hid r3
  have HR4 := Lib.hid r4
  have hql := rightT_q l hr1
  have hqm := rightT_q m hr2
  have hpl := hql.pos
  have hpm := hqm.pos
  have hnel : l ≠ [] := by rintro rfl; simp at hpl
  have hnem : m ≠ [] := by rintro rfl; simp at hpm
  obtain ⟨k, hkd⟩ : ∃ k : Int, (if n0 < 0 then (4 : Int) else 3) = k := ⟨_, rfl⟩
  have hk : k = 3 ∨ k = 4 := by rw [← hkd]; split <;> simp
  have HK := Lib.hid hkd
  have hjl : (joinT l m k).length = l.length + m.length + 1 := joinT_len l m k
  have hjlf : lfT (joinT l m k) = lfT l + lfT m := lfT_join l m k (by omega)
  have hqj := fun (h64 : lfT l + lfT m ≤ 64) => join_q l m k hk hql hqm (by omega) h64
  have HNOJ := Lib.hid (show ¬ (lfT l + lfT m ≤ 64) → rightT (joinT l m k) = false from fun h => decide_eq_false fun h2 => h (by rw [← hjlf]; exact h2.2.2))
  have HYES := Lib.hid (fun h64 => q_right _ (hqj h64))
  have HDA := Lib.hid (fun h64 => deep_joinA l m k hk hql hqm (hqj h64))
  have HDB := Lib.hid (fun h64 => deep_joinB l m k hk hql hqm (hqj h64))
  have HDR := Lib.hid (fun h64 => deep_root _ (hqj h64))
  have HTJ := Lib.hid (top_join l m k hk)
  have HDL := Lib.hid (deeps_is l hr1)
  have HDM := Lib.hid (deeps_is m hr2)
  have HDJ := Lib.hid (fun h64 => deeps_is _ (q_right _ (hqj h64)))
  have HTL := Lib.hid (show topT l = topL l from if_pos hr1)
  have HTM := Lib.hid (show topT m = topL m from if_pos hr2)
  have HTJ2 := Lib.hid (fun h64 => show topT (joinT l m k) = topL (joinT l m k) from if_pos (q_right _ (hqj h64)))
  have HRJ := Lib.hid (fun a cap W h => by have := C.right (joinT l m k) (by omega) a cap W h; rw [hjl] at this; exact this)
  have HDEJ := Lib.hid (fun a cap W h => by have := C.deep (joinT l m k) (by omega) a cap W h; rw [hjl] at this; exact this)
  have HDEL := Lib.hid (fun W h => C.deep l (by omega) a cap W h)
  have HDEM := Lib.hid (fun W h => C.deep m (by omega) b capm W h)
  have HTOL := Lib.hid (fun W h => C.top l (by omega) a cap W h)
  have HTOM := Lib.hid (fun W h => C.top m (by omega) b capm W h)
  have HTOJ := Lib.hid (fun a cap W h => by have := C.top (joinT l m k) (by omega) a cap W h; rw [hjl] at this; exact this)
  have HLFJ := Lib.hid (lf_two l m)
  have HLFS := Lib.hid (lf_step (twoT l m m.length))
  have HSTEP := Lib.hid (twoT_step l m)
  have HJ2 := Lib.hid (joinT_two l m k)
  have hlen := twoT_len l m
  have HLEN := Lib.hid hlen
  have HKB := Lib.hid (show ∀ i (h : i < m.length), m[i].kids < 1000 ∧ m[i].n < 1000 from fun i h => by
    rcases node_parts m hqm i h with ⟨e1, e2, _⟩ | ⟨x, e1, hx, e2, _⟩ | ⟨x, y, e1, hx, e2, hy, _⟩
    · rw [e1, e2]; omega
    · rw [e1, e2]; omega
    · rw [e1, e2]; omega)
  have h2ne : twoT l m m.length ≠ [] := by intro h0; have := hlen m.length (Nat.le_refl _); rw [h0] at this; simp at this; omega
  obtain ⟨i0, hinf, hz0, hz1, hz2⟩ := info_parts info8t
  clear C r1 r2 r3 r4 hr1 hr2 hql hqm hqj hjl hjlf hlen
  go_enter Try.func6, Try.ntmps6
  go_wp2_with fail
  refine (HR1.out _ HN.out).mono ?_
  rintro e w1 ⟨rfl, hb⟩
  replace HN := Lib.hid (HN.out.below hb)
  replace HM := Lib.hid (HM.out.below hb)
  replace HB := Lib.hid (HB.out.trans (hb.mono HB.out.size))
  clear hb HR1
  go_wp2_with fail
  refine (HR2.out _ HM.out).mono ?_
  rintro e w2 ⟨rfl, hb⟩
  replace HN := Lib.hid (HN.out.below hb)
  replace HM := Lib.hid (HM.out.below hb)
  replace HB := Lib.hid (HB.out.trans (hb.mono HB.out.size))
  clear hb HR2
  go_wp2_with fail
  refine (HR3.out _ HN.out).mono ?_
  rintro e w3 ⟨rfl, hb⟩
  replace HN := Lib.hid (HN.out.below hb)
  replace HM := Lib.hid (HM.out.below hb)
  replace HB := Lib.hid (HB.out.trans (hb.mono HB.out.size))
  clear hb HR3
  go_wp2_with fail
  refine (HR4.out _ HM.out).mono ?_
  rintro e w4 ⟨rfl, hb⟩
  replace HN := Lib.hid (HN.out.below hb)
  replace HM := Lib.hid (HM.out.below hb)
  replace HB := Lib.hid (HB.out.trans (hb.mono HB.out.size))
  clear hb HR4
  go_upto_if 49 with fail
  go_cut [7] (fun v wx => v = .int .i64 k ∧ w4 = wx)
  case first =>
    have hkd := HK.out
    by_cases hn0 : n0 < 0
    · have qn : decide (n0 < 0) = true := decide_eq_true hn0
      rw [if_pos hn0] at hkd
      subst hkd
      go_wp2_with fail
      go_meet
      exact ⟨rfl, rfl⟩
    · have qn : decide (n0 < 0) = false := decide_eq_false hn0
      rw [if_neg hn0] at hkd
      subst hkd
      go_wp2_with fail
      go_meet
      exact ⟨rfl, rfl⟩
  case rest =>
  obtain ⟨rfl, rfl⟩ := hcut
  clear HK
  obtain ⟨g, off, rfl, _, _⟩ := HN.out hnel
  obtain ⟨gm, offm, rfl, _, _⟩ := HM.out hnem
  have hw4 := HB.out.size
  have hown0 := owns_emptyT w4 w4.heap.size (Nat.le_refl _)
  have hnews := nodes_news (HN.out.alloc (.cells #[] 35))
  have BW : Below w4.heap.size w4 (w4.alloc (.cells #[] 35)) := (Below.refl _ _).alloc (Nat.le_refl _) _
  go_upto_region 6 with fail
  go_wp2_with (at_builtin; refine wpList_append_own _ rfl _ _ 22 rfl w4.heap.size 35 i0 (.agg #[.int .i64 0, .int .i64 0, .int .i64 0, .int .i64 0, .int .u64 0, .int .u64 0, .int .u64 0, .int .u64 0]) 8 64 Try.underlying22 hinf hz0 hz1 hz2 rfl (by decide) _ 0 [] rfl hown0 ⟨g, off, none⟩ l.length cap (ndCells l) rfl (ndCells_len l) hnews (ndCells_one l) (by unfold maxLen; omega) (by omega) BW.size ?_; intro v1 w5 hown1 hgrow1 _)
  rw [Nat.zero_add, List.nil_append] at hown1
  have hb5 : Below w4.heap.size w4 w5 := BW.grown hgrow1 BW.size (fun b hb => (hown0.lt b hb).1)
  have HO1 := Lib.hid hown1
  have HN5 := Lib.hid (HN.out.below hb5)
  have HM5 := Lib.hid (HM.out.below hb5)
  have HB5 := Lib.hid hb5
  clear hown0 hnews BW hgrow1 hown1 hb5
  go_loopw [8, 10] (fun vl vi wr => ∃ i : Nat, i ≤ m.length ∧ vi = .int .i64 i ∧ wr.ownsRow w4.heap.size 35 8 vl (twoT l m i).length (ndCells (twoT l m i)) ∧ Below w4.heap.size w4 wr) (fun _ vi _ => m.length - (intOf vi).toNat)
  case atStart => exact ⟨0, Nat.zero_le _, rfl, by rw [twoT_zero]; exact HO1.out, HB5.out⟩
  case round =>
    clear HO1 HB5 HN5 HM5
    obtain ⟨i, hi, rfl, hown, hB⟩ := hrel
    by_cases hlt : i < m.length
    · have hii : (i : Int) < (m.length : Int) := by omega
      have hd : decide (i < m.length) = true := by rw [decide_eq_true_iff]; omega
      have hdI : decide ((i : Int) < (m.length : Int)) = true := by rw [decide_eq_true_iff]; omega
      have xi : IntKind.i64.wrap ((i : Int) + 1) = (i : Int) + 1 := IntWalk.i64_in _ (by omega)
      obtain ⟨gm', om', e, hgm, hc⟩ := (HM.out.below hB) hnem
      cases e
      have d0 := hc i hlt 0 (by decide); have d1 := hc i hlt 1 (by decide); have d2 := hc i hlt 2 (by decide); have d3 := hc i hlt 3 (by decide); have d4 := hc i hlt 4 (by decide); have d5 := hc i hlt 5 (by decide); have d6 := hc i hlt 6 (by decide); have d7 := hc i hlt 7 (by decide)
      simp only [ndA, List.getElem?_toArray, List.getElem?_cons_zero, List.getElem?_cons_succ, Nat.add_zero] at d0 d1 d2 d3 d4 d5 d6 d7
      have hst := HSTEP.out i hlt
      have hkb := HKB.out i hlt
      generalize m[i] = x at *
      obtain ⟨xk, xc, xn, xm, t⟩ := x
      simp only at d0 d1 d2 d3 d4 d5 d6 d7 hkb
      have hlt2 := HLEN.out i (by omega)
      have HST := Lib.hid hst
      have HOW := Lib.hid (hown.alloc (.cells (ndI xk xc xn xm t) 35))
      have hB4 := hB.alloc hB.size (.cells (ndI xk xc xn xm t) 35)
      have hX := Blk.new wr (ndI xk xc xn xm t) 35
      have hlo := fun b hb => (hown.lt b hb).2
      clear hst hown hc
      go_upto_region 12 with fail
      clear d0 d1 d2 d3 d4 d5 d6 d7
      have hxz := hB.size
      clear hB
      generalize wr.alloc (.cells (ndI xk xc xn xm t) 35) = wa at *
      generalize wr.heap.size = xb at *
      by_cases hqa : 0 ≤ xc
      · have qa : decide (0 ≤ xc) = true := decide_eq_true hqa
        have HQA := Lib.hid hqa
        have xa : IntKind.i64.wrap (xc + (l.length : Int)) = xc + (l.length : Int) := IntWalk.i64_in _ (by have := hkb.1; omega)
        clear hqa
        by_cases hqn : 0 ≤ xn
        · have qn : decide (0 ≤ xn) = true := decide_eq_true hqn
          have HQN := Lib.hid hqn
          have xnn : IntKind.i64.wrap (xn + (l.length : Int)) = xn + (l.length : Int) := IntWalk.i64_in _ (by have := hkb.2; omega)
          clear hqn
          have n1 := hX.cell 1
          have f1 := hX.frozen 1
          simp only [List.getElem?_toArray, List.getElem?_cons_zero, List.getElem?_cons_succ] at n1
          have hX2 : Blk (wa.setCell ⟨xb, 1, none⟩ (.int .i64 (xc + (l.length : Int)))) xb (ndI xk (xc + (l.length : Int)) xn xm t) 35 := hX.set 1 _
          have HOW2 := Lib.hid (owns_keep HOW.out (W' := wa.setCell ⟨xb, 1, none⟩ (.int .i64 (xc + (l.length : Int)))) (fun g hg => Below.heap_setCell wa ⟨xb, 1, none⟩ _ g (Nat.ne_of_lt (hlo g hg))))
          have HB2 := Lib.hid (below_set hB4 hxz 1 (.int .i64 (xc + (l.length : Int))))
          go_upto_region 14 with fail
          clear n1 f1 hX hB4 HOW
          generalize wa.setCell ⟨xb, 1, none⟩ (.int .i64 (xc + (l.length : Int))) = wb at *
          have n2 := hX2.cell 2
          have f2 := hX2.frozen 2
          simp only [List.getElem?_toArray, List.getElem?_cons_zero, List.getElem?_cons_succ] at n2
          have hX3 : Blk (wb.setCell ⟨xb, 2, none⟩ (.int .i64 (xn + (l.length : Int)))) xb (ndI xk (xc + (l.length : Int)) (xn + (l.length : Int)) xm t) 35 := hX2.set 2 _
          have HOW3 := Lib.hid (owns_keep HOW2.out (W' := wb.setCell ⟨xb, 2, none⟩ (.int .i64 (xn + (l.length : Int)))) (fun g hg => Below.heap_setCell wb ⟨xb, 2, none⟩ _ g (Nat.ne_of_lt (hlo g hg))))
          have HB3 := Lib.hid (below_set HB2.out hxz 2 (.int .i64 (xn + (l.length : Int))))
          go_upto_region 16 with fail
          clear n2 f2 hX2 HB2 HOW2
          generalize wb.setCell ⟨xb, 2, none⟩ (.int .i64 (xn + (l.length : Int))) = wd at *
          have n0 := hX3.cell 0; have n1 := hX3.cell 1; have n2 := hX3.cell 2; have n3 := hX3.cell 3; have n4 := hX3.cell 4; have n5 := hX3.cell 5; have n6 := hX3.cell 6; have n7 := hX3.cell 7
          simp only [List.getElem?_toArray, List.getElem?_cons_zero, List.getElem?_cons_succ] at n0 n1 n2 n3 n4 n5 n6 n7
          have hws := HB3.out.size
          have BWA : Below w4.heap.size w4 (wd.alloc (.cells (ndI xk (xc + (l.length : Int)) (xn + (l.length : Int)) xm t) 35)) := HB3.out.alloc hws _
          clear hX3
          go_wp2_with (at_builtin; refine wpList_append_own _ rfl _ _ 22 rfl w4.heap.size 35 i0 (.agg #[.int .i64 0, .int .i64 0, .int .i64 0, .int .i64 0, .int .u64 0, .int .u64 0, .int .u64 0, .int .u64 0]) 8 64 Try.underlying22 hinf hz0 hz1 hz2 rfl (by decide) _ (twoT l m i).length (ndCells (twoT l m i)) rfl (HOW3.out.alloc _) ⟨wd.heap.size, 0, none⟩ 1 1 (ndI xk (xc + (l.length : Int)) (xn + (l.length : Int)) xm t).toList rfl rfl (Blk.new wd (ndI xk (xc + (l.length : Int)) (xn + (l.length : Int)) xm t) _).newsL (by simp [Value.oneCell']) (by rw [hlt2]; unfold maxLen; omega) (by omega) (by have := BWA.size; exact this) ?_; intro v2 w7 hown2 hgrow2 _)
          have hown3 : w7.ownsRow w4.heap.size 35 8 v2 (twoT l m (i + 1)).length (ndCells (twoT l m (i + 1))) := by
            rw [HST.out, ndCells_app, ndCells_single, List.length_append]
            have e : shN l.length ⟨xk, xc, xn, xm, t⟩ = ⟨xk, (xc + (l.length : Int)), (xn + (l.length : Int)), xm, t⟩ := by
              unfold shN
              simp only [if_pos HQA.out, if_pos HQN.out]
            rw [e]
            exact hown2
          have HO3 := Lib.hid hown3
          have HB7 := Lib.hid (BWA.grown hgrow2 BWA.size (fun b hb => (HOW3.out.lt b hb).1))
          clear hown2 hown3 hgrow2 BWA hws n0 n1 n2 n3 n4 n5 n6 n7 HOW3 HB3
          go_wp2_with fail
          go_roundw
          case rel => exact ⟨i + 1, by omega, by simp, HO3.out, HB7.out⟩
          case measure => simp [intOf]; omega
        · have qn : decide (0 ≤ xn) = false := decide_eq_false hqn
          have HQN := Lib.hid hqn
          clear hqn
          have n1 := hX.cell 1
          have f1 := hX.frozen 1
          simp only [List.getElem?_toArray, List.getElem?_cons_zero, List.getElem?_cons_succ] at n1
          have hX2 : Blk (wa.setCell ⟨xb, 1, none⟩ (.int .i64 (xc + (l.length : Int)))) xb (ndI xk (xc + (l.length : Int)) xn xm t) 35 := hX.set 1 _
          have HOW2 := Lib.hid (owns_keep HOW.out (W' := wa.setCell ⟨xb, 1, none⟩ (.int .i64 (xc + (l.length : Int)))) (fun g hg => Below.heap_setCell wa ⟨xb, 1, none⟩ _ g (Nat.ne_of_lt (hlo g hg))))
          have HB2 := Lib.hid (below_set hB4 hxz 1 (.int .i64 (xc + (l.length : Int))))
          go_upto_region 14 with fail
          clear n1 f1 hX hB4 HOW
          generalize wa.setCell ⟨xb, 1, none⟩ (.int .i64 (xc + (l.length : Int))) = wb at *
          have n2 := hX2.cell 2
          have f2 := hX2.frozen 2
          simp only [List.getElem?_toArray, List.getElem?_cons_zero, List.getElem?_cons_succ] at n2
          have hX3 := hX2
          have HOW3 := HOW2
          have HB3 := HB2
          go_upto_region 16 with fail
          clear n2 f2 hX2 HB2 HOW2
          have n0 := hX3.cell 0; have n1 := hX3.cell 1; have n2 := hX3.cell 2; have n3 := hX3.cell 3; have n4 := hX3.cell 4; have n5 := hX3.cell 5; have n6 := hX3.cell 6; have n7 := hX3.cell 7
          simp only [List.getElem?_toArray, List.getElem?_cons_zero, List.getElem?_cons_succ] at n0 n1 n2 n3 n4 n5 n6 n7
          have hws := HB3.out.size
          have BWA : Below w4.heap.size w4 (wb.alloc (.cells (ndI xk (xc + (l.length : Int)) xn xm t) 35)) := HB3.out.alloc hws _
          clear hX3
          go_wp2_with (at_builtin; refine wpList_append_own _ rfl _ _ 22 rfl w4.heap.size 35 i0 (.agg #[.int .i64 0, .int .i64 0, .int .i64 0, .int .i64 0, .int .u64 0, .int .u64 0, .int .u64 0, .int .u64 0]) 8 64 Try.underlying22 hinf hz0 hz1 hz2 rfl (by decide) _ (twoT l m i).length (ndCells (twoT l m i)) rfl (HOW3.out.alloc _) ⟨wb.heap.size, 0, none⟩ 1 1 (ndI xk (xc + (l.length : Int)) xn xm t).toList rfl rfl (Blk.new wb (ndI xk (xc + (l.length : Int)) xn xm t) _).newsL (by simp [Value.oneCell']) (by rw [hlt2]; unfold maxLen; omega) (by omega) (by have := BWA.size; exact this) ?_; intro v2 w7 hown2 hgrow2 _)
          have hown3 : w7.ownsRow w4.heap.size 35 8 v2 (twoT l m (i + 1)).length (ndCells (twoT l m (i + 1))) := by
            rw [HST.out, ndCells_app, ndCells_single, List.length_append]
            have e : shN l.length ⟨xk, xc, xn, xm, t⟩ = ⟨xk, (xc + (l.length : Int)), xn, xm, t⟩ := by
              unfold shN
              simp only [if_pos HQA.out, if_neg HQN.out]
            rw [e]
            exact hown2
          have HO3 := Lib.hid hown3
          have HB7 := Lib.hid (BWA.grown hgrow2 BWA.size (fun b hb => (HOW3.out.lt b hb).1))
          clear hown2 hown3 hgrow2 BWA hws n0 n1 n2 n3 n4 n5 n6 n7 HOW3 HB3
          go_wp2_with fail
          go_roundw
          case rel => exact ⟨i + 1, by omega, by simp, HO3.out, HB7.out⟩
          case measure => simp [intOf]; omega
      · have qa : decide (0 ≤ xc) = false := decide_eq_false hqa
        have HQA := Lib.hid hqa
        clear hqa
        by_cases hqn : 0 ≤ xn
        · have qn : decide (0 ≤ xn) = true := decide_eq_true hqn
          have HQN := Lib.hid hqn
          have xnn : IntKind.i64.wrap (xn + (l.length : Int)) = xn + (l.length : Int) := IntWalk.i64_in _ (by have := hkb.2; omega)
          clear hqn
          have n1 := hX.cell 1
          have f1 := hX.frozen 1
          simp only [List.getElem?_toArray, List.getElem?_cons_zero, List.getElem?_cons_succ] at n1
          have hX2 := hX
          have HOW2 := HOW
          have HB2 := Lib.hid hB4
          go_upto_region 14 with fail
          clear n1 f1 hX hB4 HOW
          have n2 := hX2.cell 2
          have f2 := hX2.frozen 2
          simp only [List.getElem?_toArray, List.getElem?_cons_zero, List.getElem?_cons_succ] at n2
          have hX3 : Blk (wa.setCell ⟨xb, 2, none⟩ (.int .i64 (xn + (l.length : Int)))) xb (ndI xk xc (xn + (l.length : Int)) xm t) 35 := hX2.set 2 _
          have HOW3 := Lib.hid (owns_keep HOW2.out (W' := wa.setCell ⟨xb, 2, none⟩ (.int .i64 (xn + (l.length : Int)))) (fun g hg => Below.heap_setCell wa ⟨xb, 2, none⟩ _ g (Nat.ne_of_lt (hlo g hg))))
          have HB3 := Lib.hid (below_set HB2.out hxz 2 (.int .i64 (xn + (l.length : Int))))
          go_upto_region 16 with fail
          clear n2 f2 hX2 HB2 HOW2
          generalize wa.setCell ⟨xb, 2, none⟩ (.int .i64 (xn + (l.length : Int))) = wd at *
          have n0 := hX3.cell 0; have n1 := hX3.cell 1; have n2 := hX3.cell 2; have n3 := hX3.cell 3; have n4 := hX3.cell 4; have n5 := hX3.cell 5; have n6 := hX3.cell 6; have n7 := hX3.cell 7
          simp only [List.getElem?_toArray, List.getElem?_cons_zero, List.getElem?_cons_succ] at n0 n1 n2 n3 n4 n5 n6 n7
          have hws := HB3.out.size
          have BWA : Below w4.heap.size w4 (wd.alloc (.cells (ndI xk xc (xn + (l.length : Int)) xm t) 35)) := HB3.out.alloc hws _
          clear hX3
          go_wp2_with (at_builtin; refine wpList_append_own _ rfl _ _ 22 rfl w4.heap.size 35 i0 (.agg #[.int .i64 0, .int .i64 0, .int .i64 0, .int .i64 0, .int .u64 0, .int .u64 0, .int .u64 0, .int .u64 0]) 8 64 Try.underlying22 hinf hz0 hz1 hz2 rfl (by decide) _ (twoT l m i).length (ndCells (twoT l m i)) rfl (HOW3.out.alloc _) ⟨wd.heap.size, 0, none⟩ 1 1 (ndI xk xc (xn + (l.length : Int)) xm t).toList rfl rfl (Blk.new wd (ndI xk xc (xn + (l.length : Int)) xm t) _).newsL (by simp [Value.oneCell']) (by rw [hlt2]; unfold maxLen; omega) (by omega) (by have := BWA.size; exact this) ?_; intro v2 w7 hown2 hgrow2 _)
          have hown3 : w7.ownsRow w4.heap.size 35 8 v2 (twoT l m (i + 1)).length (ndCells (twoT l m (i + 1))) := by
            rw [HST.out, ndCells_app, ndCells_single, List.length_append]
            have e : shN l.length ⟨xk, xc, xn, xm, t⟩ = ⟨xk, xc, (xn + (l.length : Int)), xm, t⟩ := by
              unfold shN
              simp only [if_neg HQA.out, if_pos HQN.out]
            rw [e]
            exact hown2
          have HO3 := Lib.hid hown3
          have HB7 := Lib.hid (BWA.grown hgrow2 BWA.size (fun b hb => (HOW3.out.lt b hb).1))
          clear hown2 hown3 hgrow2 BWA hws n0 n1 n2 n3 n4 n5 n6 n7 HOW3 HB3
          go_wp2_with fail
          go_roundw
          case rel => exact ⟨i + 1, by omega, by simp, HO3.out, HB7.out⟩
          case measure => simp [intOf]; omega
        · have qn : decide (0 ≤ xn) = false := decide_eq_false hqn
          have HQN := Lib.hid hqn
          clear hqn
          have n1 := hX.cell 1
          have f1 := hX.frozen 1
          simp only [List.getElem?_toArray, List.getElem?_cons_zero, List.getElem?_cons_succ] at n1
          have hX2 := hX
          have HOW2 := HOW
          have HB2 := Lib.hid hB4
          go_upto_region 14 with fail
          clear n1 f1 hX hB4 HOW
          have n2 := hX2.cell 2
          have f2 := hX2.frozen 2
          simp only [List.getElem?_toArray, List.getElem?_cons_zero, List.getElem?_cons_succ] at n2
          have hX3 := hX2
          have HOW3 := HOW2
          have HB3 := HB2
          go_upto_region 16 with fail
          clear n2 f2 hX2 HB2 HOW2
          have n0 := hX3.cell 0; have n1 := hX3.cell 1; have n2 := hX3.cell 2; have n3 := hX3.cell 3; have n4 := hX3.cell 4; have n5 := hX3.cell 5; have n6 := hX3.cell 6; have n7 := hX3.cell 7
          simp only [List.getElem?_toArray, List.getElem?_cons_zero, List.getElem?_cons_succ] at n0 n1 n2 n3 n4 n5 n6 n7
          have hws := HB3.out.size
          have BWA : Below w4.heap.size w4 (wa.alloc (.cells (ndI xk xc xn xm t) 35)) := HB3.out.alloc hws _
          clear hX3
          go_wp2_with (at_builtin; refine wpList_append_own _ rfl _ _ 22 rfl w4.heap.size 35 i0 (.agg #[.int .i64 0, .int .i64 0, .int .i64 0, .int .i64 0, .int .u64 0, .int .u64 0, .int .u64 0, .int .u64 0]) 8 64 Try.underlying22 hinf hz0 hz1 hz2 rfl (by decide) _ (twoT l m i).length (ndCells (twoT l m i)) rfl (HOW3.out.alloc _) ⟨wa.heap.size, 0, none⟩ 1 1 (ndI xk xc xn xm t).toList rfl rfl (Blk.new wa (ndI xk xc xn xm t) _).newsL (by simp [Value.oneCell']) (by rw [hlt2]; unfold maxLen; omega) (by omega) (by have := BWA.size; exact this) ?_; intro v2 w7 hown2 hgrow2 _)
          have hown3 : w7.ownsRow w4.heap.size 35 8 v2 (twoT l m (i + 1)).length (ndCells (twoT l m (i + 1))) := by
            rw [HST.out, ndCells_app, ndCells_single, List.length_append]
            have e : shN l.length ⟨xk, xc, xn, xm, t⟩ = ⟨xk, xc, xn, xm, t⟩ := by
              unfold shN
              simp only [if_neg HQA.out, if_neg HQN.out]
            rw [e]
            exact hown2
          have HO3 := Lib.hid hown3
          have HB7 := Lib.hid (BWA.grown hgrow2 BWA.size (fun b hb => (HOW3.out.lt b hb).1))
          clear hown2 hown3 hgrow2 BWA hws n0 n1 n2 n3 n4 n5 n6 n7 HOW3 HB3
          go_wp2_with fail
          go_roundw
          case rel => exact ⟨i + 1, by omega, by simp, HO3.out, HB7.out⟩
          case measure => simp [intOf]; omega
    · obtain rfl : i = m.length := by omega
      have hdI : decide ((m.length : Int) < (m.length : Int)) = false := by simp
      have HO := Lib.hid hown
      obtain ⟨gt, ct, rfl, hgt, hnt⟩ := nodes_of_ownsT hown h2ne
      have HLEN2 := Lib.hid (HLEN.out m.length (Nat.le_refl _))
      rw [HLEN2.out] at HO ⊢
      have HSZ := Lib.hid hB.size
      replace HN := Lib.hid (HN.out.below hB)
      replace HM := Lib.hid (HM.out.below hB)
      replace HB := Lib.hid (HB.out.trans (hB.mono HB.out.size))
      have HLT := Lib.hid hnt
      clear hown hB HSTEP HKB HLEN hnt
      go_upto_region 18 with fail
      go_loop [9, 12] (fun vf vi => ∃ i : Nat, i ≤ l.length + m.length ∧ vi = .int .i64 i ∧ vf = .int .i64 (lfT ((twoT l m m.length).take i) : Nat)) (fun _ vi => l.length + m.length - (intOf vi).toNat)
      case atStart => exact ⟨0, Nat.zero_le _, rfl, rfl⟩
      case round =>
        obtain ⟨i, hi, rfl, rfl⟩ := hrel
        by_cases hlt : i < l.length + m.length
        · have hlt3 : i < (twoT l m m.length).length := by rw [HLEN2.out]; exact hlt
          have hii : (i : Int) < (l.length : Int) + (m.length : Int) := by omega
          have hd : decide (i < l.length + m.length) = true := by rw [decide_eq_true_iff]; omega
          have hdI2 : decide ((i : Int) < (l.length : Int) + (m.length : Int)) = true := by rw [decide_eq_true_iff]; omega
          have xi : IntKind.i64.wrap ((i : Int) + 1) = (i : Int) + 1 := IntWalk.i64_in _ (by omega)
          obtain ⟨g', o', e, _, hc⟩ := HLT.out h2ne
          cases e
          have d0 := hc i hlt3 0 (by decide)
          simp only [ndA, List.getElem?_toArray, List.getElem?_cons_zero, Nat.add_zero, Nat.zero_add] at d0
          have hlf := HLFS.out i hlt3
          have hlfb : lfT ((twoT l m m.length).take i) ≤ i := by
            unfold lfT
            refine Nat.le_trans List.countP_le_length ?_
            rw [List.length_map, List.length_take]
            omega
          generalize (twoT l m m.length)[i] = x at *
          obtain ⟨xk, xc, xn, xm, t⟩ := x
          simp only at d0 hlf
          have HLF := Lib.hid hlf
          clear hc hlf
          generalize lfT ((twoT l m m.length).take i) = lf at *
          by_cases h2 : xk = 2
          · subst h2
            have xl : IntKind.i64.wrap ((lf : Int) + 1) = (lf : Int) + 1 := IntWalk.i64_in _ (by omega)
            have HLF2 := Lib.hid (show lfT ((twoT l m m.length).take (i + 1)) = lf + 1 from HLF.out)
            clear HLF
            go_wp2_with fail
            go_round
            case rel => exact ⟨i + 1, by omega, by simp, by rw [HLF2.out]; rfl⟩
            case measure => simp [intOf]; omega
          · have q2 : (xk == 2) = false := by rw [beq_eq_false_iff_ne]; exact h2
            have HLF2 := Lib.hid (show lfT ((twoT l m m.length).take (i + 1)) = lf from by rw [HLF.out, if_neg (by rw [q2]; decide)]; rfl)
            clear HLF h2
            go_wp2_with fail
            go_round
            case rel => exact ⟨i + 1, by omega, by simp, by rw [HLF2.out]⟩
            case measure => simp [intOf]; omega
        · obtain rfl : i = l.length + m.length := by omega
          have hdI2 : decide (((l.length + m.length : Nat) : Int) < (l.length : Int) + (m.length : Int)) = false := by rw [decide_eq_false_iff_not]; omega
          have hdI3 : decide ((l.length : Int) + (m.length : Int) < (l.length : Int) + (m.length : Int)) = false := by simp
          rw [List.take_of_length_le (by rw [HLEN2.out]; exact Nat.le_refl _), HLFJ.out]
          have hws := HB.out.size
          have x1 : IntKind.i64.wrap ((l.length : Int) - 1) = (l.length : Int) - 1 := IntWalk.i64_in _ (by omega)
          have x2 : IntKind.i64.wrap ((l.length : Int) + (m.length : Int) - 1) = (l.length : Int) + (m.length : Int) - 1 := IntWalk.i64_in _ (by omega)
          have hsz : w4.heap.size ≤ (wr.alloc (.cells #[.int .i64 k, .int .i64 ((l.length : Int) - 1), .int .i64 ((l.length : Int) + (m.length : Int) - 1), .int .i64 0, .int .u64 0, .int .u64 0, .int .u64 0, .int .u64 0] 35)).heap.size := by rw [World.size_alloc]; have := HSZ.out; omega
          have HAFT := Lib.hid (show ∀ v W r, W.ownsRow w4.heap.size 35 8 v (l.length + m.length + 1) (ndCells (twoT l m m.length) ++ [.int .i64 k, .int .i64 ((l.length : Int) - 1), .int .i64 ((l.length : Int) + (m.length : Int) - 1), .int .i64 0, .int .u64 0, .int .u64 0, .int .u64 0, .int .u64 0]) → (wr.alloc (.cells #[.int .i64 k, .int .i64 ((l.length : Int) - 1), .int .i64 ((l.length : Int) + (m.length : Int) - 1), .int .i64 0, .int .u64 0, .int .u64 0, .int .u64 0, .int .u64 0] 35)).grownBy W r → (∀ b, r = some b → w4.heap.size ≤ b) → ∃ g c, v = .slice (some ⟨g, 0, none⟩) (l.length + m.length + 1) c ∧ NodesAt (joinT l m k) (some ⟨g, 0, none⟩) W ∧ Below w.heap.size w W from fun v W r h1 h2 h3 => by
            have h4 : W.ownsRow w4.heap.size 35 8 v (joinT l m k).length (ndCells (joinT l m k)) := by
              rw [HJ2.out, ndCells_app, ndCells_top, List.length_append, HLEN2.out]
              exact h1
            obtain ⟨g, c, hv, _, hn⟩ := nodes_of_ownsT h4 (by intro h; have := congrArg List.length h; rw [joinT_len] at this; simp at this)
            rw [joinT_len] at hv
            exact ⟨g, c, hv, hn, (HB.out.alloc hws _).grown h2 (by rw [World.size_alloc]; omega) (fun b hb => Nat.le_trans hw4 (h3 b hb))⟩)
          clear HLT HLFJ HLFS HJ2 HLEN2 HSZ h2ne
          by_cases h64 : lfT l + lfT m ≤ 64
          · have q64 : decide (64 < lfT l + lfT m) = false := by rw [decide_eq_false_iff_not]; omega
            have q64I : decide (64 < (lfT l : Int) + (lfT m : Int)) = false := by rw [decide_eq_false_iff_not]; omega
            have hyes := HYES.out h64
            have hdj := HDJ.out h64
            rw [joinT_len] at hdj
            have hda := HDA.out h64
            have hdb := HDB.out h64
            have hdr := HDR.out h64
            have htj2 := HTJ2.out h64
            rw [HTJ.out] at htj2
            have hdlb := deep_le (joinT l m k)
            have hdll := deep_le l
            have hdlm := deep_le m
            rw [joinT_len] at hdlb
            rw [show (joinT l m k).length - 1 = l.length + m.length by rw [joinT_len]; omega] at hdr
            simp only [hyes] at HRJ
            clear HYES HDJ HDA HDB HDR HTJ2 HTJ HNOJ hyes h64
            go_upto_region 22 with fail
            go_wp2_with (at_builtin; refine wpList_append_own _ rfl _ _ 22 rfl w4.heap.size 35 i0 (.agg #[.int .i64 0, .int .i64 0, .int .i64 0, .int .i64 0, .int .u64 0, .int .u64 0, .int .u64 0, .int .u64 0]) 8 64 Try.underlying22 hinf hz0 hz1 hz2 rfl (by decide) _ (l.length + m.length) (ndCells (twoT l m m.length)) rfl (HO.out.alloc _) ⟨wr.heap.size, 0, none⟩ 1 1 [.int .i64 k, .int .i64 ((l.length : Int) - 1), .int .i64 ((l.length : Int) + (m.length : Int) - 1), .int .i64 0, .int .u64 0, .int .u64 0, .int .u64 0, .int .u64 0] rfl rfl (Blk.new wr _ _).newsL (by simp [Value.oneCell']) (by unfold maxLen; omega) (by omega) hsz ?_; intro v2 w7 hown2 hgrow2 _; obtain ⟨gj, cj, hv2, hnj, hb7⟩ := HAFT.out v2 w7 _ hown2 hgrow2 (fun b hb => (HO.out.lt b hb).1); subst hv2; have HJN := Lib.hid hnj; have HB7 := Lib.hid hb7; clear hown2 hgrow2 hnj hb7)
            have HN7 := Lib.hid (HN0.out.below HB7.out)
            have HM7 := Lib.hid (HM0.out.below HB7.out)
            clear HN HM HB HAFT HO
            have HN := HN7
            have HM := HM7
            have HB := HB7
            clear HN7 HM7 HB7
            refine (HDEJ.out _ _ _ HJN.out).mono ?_
            rintro e w8 ⟨bj, kj, rfl, hij, hb⟩
            have HIJ := Lib.hid hij
            rw [hdj.1]
            replace HN := Lib.hid (HN.out.below hb)
            replace HM := Lib.hid (HM.out.below hb)
            replace HJN := Lib.hid (HJN.out.below hb)
            replace HB := Lib.hid (HB.out.trans (hb.mono HB.out.size))
            clear hb hij HDEJ
            go_wp2_with fail
            refine (HDEL.out _ HN.out).mono ?_
            rintro e w9 ⟨bl, kl, rfl, hil, hb⟩
            have HIL := Lib.hid hil
            rw [HDL.out.1]
            replace HN := Lib.hid (HN.out.below hb)
            replace HM := Lib.hid (HM.out.below hb)
            replace HJN := Lib.hid (HJN.out.below hb)
            replace HIJ := Lib.hid (HIJ.out.below hb)
            replace HB := Lib.hid (HB.out.trans (hb.mono HB.out.size))
            clear hb hil HDEL
            go_wp2_with fail
            refine (HDEM.out _ HM.out).mono ?_
            rintro e w10 ⟨bm, km, rfl, him, hb⟩
            have HIM := Lib.hid him
            rw [HDM.out.1]
            replace HN := Lib.hid (HN.out.below hb)
            replace HM := Lib.hid (HM.out.below hb)
            replace HJN := Lib.hid (HJN.out.below hb)
            replace HIJ := Lib.hid (HIJ.out.below hb)
            replace HIL := Lib.hid (HIL.out.below hb)
            replace HB := Lib.hid (HB.out.trans (hb.mono HB.out.size))
            clear hb him HDEM
            go_wp2_with fail
            refine (HRJ.out _ _ _ HJN.out).mono ?_
            rintro e w11 ⟨rfl, hb⟩
            replace HN := Lib.hid (HN.out.below hb)
            replace HM := Lib.hid (HM.out.below hb)
            replace HJN := Lib.hid (HJN.out.below hb)
            replace HIJ := Lib.hid (HIJ.out.below hb)
            replace HIL := Lib.hid (HIL.out.below hb)
            replace HIM := Lib.hid (HIM.out.below hb)
            replace HB := Lib.hid (HB.out.trans (hb.mono HB.out.size))
            clear hb HRJ
            have hneJ : deepsT (joinT l m k) ≠ [] := by intro h; have := hdj.1; rw [h] at this; simp at this
            obtain ⟨gd, od, rfl, _, hgd, hcd⟩ := HIJ.out hneJ
            have hneL : deepsT l ≠ [] := by intro h; have := HDL.out.1; rw [h] at this; simp at this; omega
            obtain ⟨gl, ol, rfl, _, hgl, hcl⟩ := HIL.out hneL
            have hneM : deepsT m ≠ [] := by intro h; have := HDM.out.1; rw [h] at this; simp at this; omega
            obtain ⟨ge, oe, rfl, _, hge, hce⟩ := HIM.out hneM
            have HCJ := Lib.hid (show ∀ W, Below w11.heap.size w11 W → ∀ i, i < l.length + m.length + 1 → W.cell? ⟨gd, od + i, none⟩ = some (.int .i64 (deepT (joinT l m k) i : Nat)) from fun W hW i hi => by
              have hi2 : i < (deepsT (joinT l m k)).length := by rw [hdj.1]; exact hi
              rw [← hdj.2 i hi2]
              exact (hW.cell (p := ⟨gd, od + i, none⟩) hgd).trans (hcd i hi2))
            have HCL := Lib.hid (show ∀ W, Below w11.heap.size w11 W → ∀ i, i < l.length → W.cell? ⟨gl, ol + i, none⟩ = some (.int .i64 (deepT l i : Nat)) from fun W hW i hi => by
              have hi2 : i < (deepsT l).length := by rw [HDL.out.1]; exact hi
              rw [← HDL.out.2 i hi2]
              exact (hW.cell (p := ⟨gl, ol + i, none⟩) hgl).trans (hcl i hi2))
            have HCE := Lib.hid (show ∀ W, Below w11.heap.size w11 W → ∀ i, i < m.length → W.cell? ⟨ge, oe + i, none⟩ = some (.int .i64 (deepT m i : Nat)) from fun W hW i hi => by
              have hi2 : i < (deepsT m).length := by rw [HDM.out.1]; exact hi
              rw [← HDM.out.2 i hi2]
              exact (hW.cell (p := ⟨ge, oe + i, none⟩) hge).trans (hce i hi2))
            have cr := HCJ.out w11 (Below.refl _ _) (l.length + m.length) (by omega)
            rw [hdr] at cr
            have HDAX := Lib.hid hda
            have HDBX := Lib.hid hdb
            have HBJ := Lib.hid hdlb
            have HBL := Lib.hid hdll
            have HBM := Lib.hid hdlm
            have HTJX := Lib.hid htj2
            have x3 : IntKind.i64.wrap ((l.length : Int) + (m.length : Int)) = (l.length : Int) + (m.length : Int) := IntWalk.i64_in _ (by omega)
            have ba : (l.length : Int) + (m.length : Int) < (l.length : Int) + (m.length : Int) + 1 := by omega
            have bb : decide (l.length + m.length < l.length + m.length + 1) = true := by rw [decide_eq_true_iff]; omega
            have bc : (0 : Int) ≤ (l.length : Int) + (m.length : Int) := by omega
            have bd : ((l.length : Int) + (m.length : Int)).toNat = l.length + m.length := by omega
            clear HIJ HIL HIM hcd hcl hce hgd hgl hge hneJ hneL hneM hdj hdr hda hdb hdlb hdll hdlm htj2 HDL HDM x1 x2 hws
            go_wp2_with fail
            go_loopw [16] (fun vi wr => ∃ i : Nat, i ≤ l.length ∧ vi = .int .i64 i ∧ Below w11.heap.size w11 wr) (fun vi _ => l.length - (intOf vi).toNat)
            case atStart => exact ⟨0, Nat.zero_le _, rfl, Below.refl _ _⟩
            case round =>
              clear cr x3 ba bb bc bd
              obtain ⟨i, hi, rfl, hB⟩ := hrel
              by_cases hlt : i < l.length
              · have hii : (i : Int) < (l.length : Int) := by omega
                have hd : decide (i < l.length) = true := by rw [decide_eq_true_iff]; omega
                have hdI2 : decide ((i : Int) < (l.length : Int)) = true := by rw [decide_eq_true_iff]; omega
                have hd3 : decide (i < l.length + m.length + 1) = true := by rw [decide_eq_true_iff]; omega
                have hi3 : (i : Int) < (l.length : Int) + (m.length : Int) + 1 := by omega
                have xi : IntKind.i64.wrap ((i : Int) + 1) = (i : Int) + 1 := IntWalk.i64_in _ (by omega)
                have c1 := HCJ.out _ hB i (by omega)
                have c2 := HCL.out _ hB i hlt
                have hdx := HDAX.out i hlt
                have hbx := HBL.out i
                rw [hdx] at c1
                generalize deepT l i = d at *
                have xd : IntKind.i64.wrap ((d : Int) + 1) = (d : Int) + 1 := IntWalk.i64_in _ (by omega)
                have HBr := Lib.hid hB
                clear hB hdx hbx
                go_upto_region 31 with fail
                go_quiet (fail)
                go_wp2_with fail
                go_roundw
                case rel => exact ⟨i + 1, by omega, by simp, below_drN HBr.out _⟩
                case measure => simp [intOf]; omega
              · obtain rfl : i = l.length := by omega
                have hdI2 : decide ((l.length : Int) < (l.length : Int)) = false := by simp
                replace HN := Lib.hid (HN.out.below hB)
                replace HM := Lib.hid (HM.out.below hB)
                replace HJN := Lib.hid (HJN.out.below hB)
                replace HB := Lib.hid (HB.out.trans (hB.mono HB.out.size))
                have HBr := Lib.hid hB
                clear hB
                go_upto_region 34 with fail
                go_loopw [17] (fun vi wq => ∃ i : Nat, i ≤ m.length ∧ vi = .int .i64 i ∧ Below wr.heap.size wr wq) (fun vi _ => m.length - (intOf vi).toNat)
                case atStart => exact ⟨0, Nat.zero_le _, rfl, Below.refl _ _⟩
                case round =>
                  obtain ⟨i, hi, rfl, hB⟩ := hrel
                  by_cases hlt : i < m.length
                  · have hii : (i : Int) < (m.length : Int) := by omega
                    have hd : decide (i < m.length) = true := by rw [decide_eq_true_iff]; omega
                    have hdI2 : decide ((i : Int) < (m.length : Int)) = true := by rw [decide_eq_true_iff]; omega
                    have hd3 : decide (l.length + i < l.length + m.length + 1) = true := by rw [decide_eq_true_iff]; omega
                    have hi3 : (l.length : Int) + (i : Int) < (l.length : Int) + (m.length : Int) + 1 := by omega
                    have hi4 : (0 : Int) ≤ (l.length : Int) + (i : Int) := by omega
                    have hi5 : ((l.length : Int) + (i : Int)).toNat = l.length + i := by omega
                    have xi : IntKind.i64.wrap ((i : Int) + 1) = (i : Int) + 1 := IntWalk.i64_in _ (by omega)
                    have xli : IntKind.i64.wrap ((l.length : Int) + (i : Int)) = (l.length : Int) + (i : Int) := IntWalk.i64_in _ (by omega)
                    have hBB := HBr.out.trans (hB.mono HBr.out.size)
                    have c1 := HCJ.out _ hBB (l.length + i) (by omega)
                    have c2 := HCE.out _ hBB i hlt
                    have hdx := HDBX.out i hlt
                    have hbx := HBM.out i
                    rw [hdx] at c1
                    generalize deepT m i = d at *
                    have xd : IntKind.i64.wrap ((d : Int) + 1) = (d : Int) + 1 := IntWalk.i64_in _ (by omega)
                    have HBq := Lib.hid hB
                    clear hB hdx hbx hBB
                    go_upto_region 36 with fail
                    go_quiet (fail)
                    go_wp2_with fail
                    go_roundw
                    case rel => exact ⟨i + 1, by omega, by simp, below_drN HBq.out _⟩
                    case measure => simp [intOf]; omega
                  · obtain rfl : i = m.length := by omega
                    have hdI3 : decide ((m.length : Int) < (m.length : Int)) = false := by simp
                    replace HN := Lib.hid (HN.out.below hB)
                    replace HM := Lib.hid (HM.out.below hB)
                    replace HJN := Lib.hid (HJN.out.below hB)
                    replace HB := Lib.hid (HB.out.trans (hB.mono HB.out.size))
                    clear hB HBr HCJ HCL HCE HDAX HDBX HBJ HBL HBM
                    simp only [HTL.out] at HTOL
                    simp only [HTM.out] at HTOM
                    simp only [HTJX.out] at HTOJ
                    clear HTL HTM HTJX
                    generalize topL l = tl at *
                    generalize topL m = tm at *
                    go_wp2_with fail
                    refine (HTOL.out _ HN.out).mono ?_
                    rintro e w20 ⟨rfl, hb⟩
                    replace HM := Lib.hid (HM.out.below hb)
                    replace HJN := Lib.hid (HJN.out.below hb)
                    replace HB := Lib.hid (HB.out.trans (hb.mono HB.out.size))
                    clear hb HTOL HN
                    go_wp2_with fail
                    refine (HTOM.out _ HM.out).mono ?_
                    rintro e w21 ⟨rfl, hb⟩
                    replace HM := Lib.hid (HM.out.below hb)
                    replace HJN := Lib.hid (HJN.out.below hb)
                    replace HB := Lib.hid (HB.out.trans (hb.mono HB.out.size))
                    clear hb
                    by_cases ht : tl < tm
                    · have qt : decide (tl < tm) = true := decide_eq_true ht
                      have qtI : decide ((tl : Int) < (tm : Int)) = true := by rw [decide_eq_true_iff]; omega
                      simp only [if_pos ht] at HTOJ
                      clear ht
                      go_wp2_with fail
                      refine (HTOM.out _ HM.out).mono ?_
                      rintro e w22 ⟨rfl, hb⟩
                      replace HJN := Lib.hid (HJN.out.below hb)
                      replace HB := Lib.hid (HB.out.trans (hb.mono HB.out.size))
                      clear hb HTOM HM
                      go_wp2_with fail
                      refine (HTOJ.out _ _ _ HJN.out).mono ?_
                      rintro e w23 ⟨rfl, hb⟩
                      replace HB := Lib.hid (HB.out.trans (hb.mono HB.out.size))
                      clear hb HTOJ HJN
                      go_wp2_with fail
                      refine (HSU.out _).mono ?_
                      rintro e wz ⟨rfl, hb⟩
                      have hBB := HB.out.trans (hb.mono HB.out.size)
                      clear HSU hb
                      go_wp2_with fail
                      go_ret
                      exact ⟨rfl, hBB⟩
                    · have qt : decide (tl < tm) = false := decide_eq_false ht
                      have qtI : decide ((tl : Int) < (tm : Int)) = false := by rw [decide_eq_false_iff_not]; omega
                      simp only [if_neg ht] at HTOJ
                      clear ht HTOM HM
                      go_wp2_with fail
                      refine (HTOJ.out _ _ _ HJN.out).mono ?_
                      rintro e w23 ⟨rfl, hb⟩
                      replace HB := Lib.hid (HB.out.trans (hb.mono HB.out.size))
                      clear hb HTOJ HJN
                      go_wp2_with fail
                      refine (HSU.out _).mono ?_
                      rintro e wz ⟨rfl, hb⟩
                      have hBB := HB.out.trans (hb.mono HB.out.size)
                      clear HSU hb
                      go_wp2_with fail
                      go_ret
                      exact ⟨rfl, hBB⟩
          · have q64 : decide (64 < lfT l + lfT m) = true := by rw [decide_eq_true_iff]; omega
            have q64I : decide (64 < (lfT l : Int) + (lfT m : Int)) = true := by rw [decide_eq_true_iff]; omega
            have hno := HNOJ.out h64
            simp only [hno] at HRJ
            clear HYES HDJ HDA HDB HDR HTJ2 HTJ HNOJ hno h64 HDEJ HDEL HDEM HTOL HTOM HTOJ HDL HDM HTL HTM
            go_upto_region 22 with fail
            go_wp2_with (at_builtin; refine wpList_append_own _ rfl _ _ 22 rfl w4.heap.size 35 i0 (.agg #[.int .i64 0, .int .i64 0, .int .i64 0, .int .i64 0, .int .u64 0, .int .u64 0, .int .u64 0, .int .u64 0]) 8 64 Try.underlying22 hinf hz0 hz1 hz2 rfl (by decide) _ (l.length + m.length) (ndCells (twoT l m m.length)) rfl (HO.out.alloc _) ⟨wr.heap.size, 0, none⟩ 1 1 [.int .i64 k, .int .i64 ((l.length : Int) - 1), .int .i64 ((l.length : Int) + (m.length : Int) - 1), .int .i64 0, .int .u64 0, .int .u64 0, .int .u64 0, .int .u64 0] rfl rfl (Blk.new wr _ _).newsL (by simp [Value.oneCell']) (by unfold maxLen; omega) (by omega) hsz ?_; intro v2 w7 hown2 hgrow2 _; obtain ⟨gj, cj, hv2, hnj, hb7⟩ := HAFT.out v2 w7 _ hown2 hgrow2 (fun b hb => (HO.out.lt b hb).1); subst hv2; have HJN := Lib.hid hnj; have HB7 := Lib.hid hb7; clear hown2 hgrow2 hnj hb7)
            have HN7 := Lib.hid (HN0.out.below HB7.out)
            have HM7 := Lib.hid (HM0.out.below HB7.out)
            clear HN HM HB HAFT HO
            have HN := HN7
            have HM := HM7
            have HB := HB7
            clear HN7 HM7 HB7
            refine (HRJ.out _ _ _ HJN.out).mono ?_
            rintro e w8 ⟨rfl, hb⟩
            replace HB := Lib.hid (HB.out.trans (hb.mono HB.out.size))
            clear hb HRJ HJN HN HM
            go_wp2_with fail
            refine (HSU.out _).mono ?_
            rintro e wz ⟨rfl, hb⟩
            have hBB := HB.out.trans (hb.mono HB.out.size)
            clear HSU hb
            go_wp2_with fail
            go_ret
            exact ⟨rfl, hBB⟩
end Go.Proofs.Ytlhlgohgmbkaoaa

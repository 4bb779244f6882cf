/- Texts put together: Try Tsf Tsg. -/
import Derived.Test.YtooolhekihijlaaPR
import Derived.Test.YtooolhekihijlaaPU
import Derived.Test.YtooolhekihijlaaPN
import Derived.Test.YtooolhekihijlaaPD
import Derived.Test.YtooolhekihijlaaPV
import Derived.Test.YtooolhekihijlaaPT
import Derived.Test.YtooolhekihijlaaPL
import Derived.BigQuiet
import Derived.Lib.SlBytesConst
/- What opens and closes: the developers' Frames. Stage 14. -/
namespace Go.Proofs.Ytooolhekihijlaa
open Go.RowKit BS

/-- The frames of a list: of a parse tree what opens and closes, else none. -/
def framesT (l : List NdN) (w : List Nat) (t : List EnN) : List (List Int) := if treeT l w t = true then rowsE (frEvents t) (w.length + 1) else []
theorem frames_len (l : List NdN) (w : List Nat) (t : List EnN) (h : treeT l w t = true) : (framesT l w t).length = w.length + 1 := by
  unfold framesT rowsE
  rw [if_pos h]; simp
theorem deps_getH {md : Region.Mode} {ops : Array Oper} {V : Nat → Value → World → Prop} {o oj : Oper} {a : Act} {w : World} {k d : Nat} (h : Deps md ops V o a w) (hk : (o.after.any fun e => Region.binds md e && e.on == k) = true) (hj : ops[k]? = some oj) (hd : oj.dst = some d) : V k (a.tmps.getD d undef) w := by
  simp only [Array.any_eq_true', Bool.and_eq_true, beq_iff_eq] at hk
  obtain ⟨e, he, hb, rfl⟩ := hk
  exact h e he hb oj d hj hd
theorem frStep_len (s : List (Int × Int) × List EnN) (x : EnN) : (frStep s x).1.length + (frStep s x).2.length = s.1.length + s.2.length + 2 := by
  have := close_len x.depth s.2
  unfold frStep
  simp only [List.length_append, List.length_cons, List.length_nil]
  omega
theorem frRun_len : ∀ (L : List EnN) (s : List (Int × Int) × List EnN), (frRun s L).1.length + (frRun s L).2.length = s.1.length + s.2.length + 2 * L.length
  | [], _ => rfl
  | x :: L, s => by
    rw [frRun_cons, frRun_len L, frStep_len]
    simp only [List.length_cons]; omega
/-- Where a step's row is made: a call with what it hands back. -/
theorem step_callX {P : Program} {ops : Array Oper} {o : Oper} {a : Act} {w : World} {f : FuncId} {args : Array Value} {R : Value → World → Prop} {K : Act → World → Prop} {Q : Exit → Act → World → Prop} {E : Prop} (hgd : o.guard = none) (h : (execOp a.eval o).run P w = .ok (.enter f args) w)
    (hc : Calls P f args w fun e w' => ∃ v, e = .returned v ∧ R v w') (hK : ∀ v w', R v w' → K (a.put o.dst v) w') : if Region.wanted o (yielded ops a.tmps) = true then Oper.wp P o a w K Q else E := by
  have hw : Region.wanted o (yielded ops a.tmps) = true := by simp [Region.wanted, hgd]
  rw [if_pos hw]
  exact wp_callK h hc hK
theorem step_valX {P : Program} {ops : Array Oper} {o : Oper} {a : Act} {w w' : World} {v : Value} {K : Act → World → Prop} {Q : Exit → Act → World → Prop} {E : Prop} (hgd : o.guard = none) (h : (execOp a.eval o).run P w = .ok (.value v) w') (hK : K (a.put o.dst v) w') : if Region.wanted o (yielded ops a.tmps) = true then Oper.wp P o a w K Q else E := by
  have hw : Region.wanted o (yielded ops a.tmps) = true := by simp [Region.wanted, hgd]
  rw [if_pos hw]
  unfold Oper.wp
  rw [h]
  exact hK
/-- One entry more, wherever it stands. -/
theorem push_entG {base : Nat} {v : Value} {L : List EnN} {W : World} (h : OwE base v L W) (hb : base ≤ W.heap.size) (hn : L.length ≤ 1000000) (d n f e : Int) (ad : Nat) (hc : Blk W ad (enI d n f e) 44) (ty : TypeId) :
    ∃ g cap W2, (Builtin.append_ #[22, 22] ty #[v, .slice (some ⟨ad, 0, none⟩) 1 1]).run Try.prog W = .ok (.slice (some ⟨g, 0, none⟩) (L.length + 1) cap) W2 ∧
      OwE base (.slice (some ⟨g, 0, none⟩) (L.length + 1) cap) (L ++ [⟨d, n, f, e⟩]) W2 ∧ W.grownBy W2 v.ownBlock ∧ (v.ownBlock = some g ∨ g = W.heap.size) ∧ g < W2.heap.size := by
  obtain ⟨i0, hinf, hzz⟩ := Option.map_eq_some_iff.1 infoE12
  simp only [Prod.mk.injEq] at hzz
  obtain ⟨hz0, hz1, hz2⟩ := hzz
  obtain ⟨g, cap, W2, hr, h2, h3, h4, h5⟩ := run_append_lies (P := Try.prog) W 22 ty base 44 i0 (.agg (enI 0 0 0 0)) 4 32 Try.underlying22 hinf hz0 hz1 hz2 rfl (by decide) v L.length _ h ⟨ad, 0, none⟩ 1 1 [.int .i64 d, .int .i64 n, .int .i64 f, .int .i64 e] rfl hc.newsL (by simp [Value.oneCell']) (by decide) (by unfold maxLen; omega) (by omega) hb W.heap.size rfl
  exact ⟨g, cap, W2, hr, by unfold OwE; rw [List.length_append, enCells_app]; exact h2, h3, h4, h5⟩
section
variable {base n T : Nat} {S : Nat → Prop} {ev : List (Int × Int)} {st : List EnN} {a : Option Addr} {c : Nat} {W : World}
/-- One that is open more. -/
theorem FrS.opened (h : FrS base n T S ev st (.slice a st.length c) W) (hlen : st.length ≤ 1000000) (d f : Int) (p q : Nat) (hp : p < n) (hq : q ≤ 100000) (ad : Nat) (hc : Blk W ad (enI d q f p) 44) (ty : TypeId) :
    ∃ g cap W2, (Builtin.append_ #[22, 22] ty #[.slice a st.length c, .slice (some ⟨ad, 0, none⟩) 1 1]).run Try.prog W = .ok (.slice (some ⟨g, 0, none⟩) (st.length + 1) cap) W2 ∧
      FrS base n T S ev (⟨d, q, f, p⟩ :: st) (.slice (some ⟨g, 0, none⟩) (st.length + 1) cap) W2 ∧ KpA (fun k => (Value.slice a st.length c).ownBlock = some k) W W2 := by
  have hlr : st.reverse.length = st.length := List.length_reverse
  obtain ⟨g, cap, W2, h1, h2, h3, h4, h5⟩ := push_entG h.ow (Nat.le_trans h.rows.lo (Nat.le_of_lt h.rows.tl)) (by omega) d q f p ad hc ty
  rw [hlr] at h1 h2
  have hk : KpA (fun k => (Value.slice a st.length c).ownBlock = some k) W W2 := (KpA.refl _ W).grown h3 (fun k hk => .inl hk)
  refine ⟨g, cap, W2, h1, ⟨h.rows.kp hk (fun k hs hk' => h.ap k hk' hs), by rw [List.reverse_cons]; exact h2, fun k hk' => ?_, fun x hx => ?_⟩, hk⟩
  · cases hk'
    rcases h4 with h4 | h4
    · exact h.ap g h4
    · intro hs
      have := h.rows.lt g hs
      omega
  · rcases List.mem_cons.1 hx with rfl | hx
    · exact ⟨p, q, rfl, hp, rfl, hq⟩
    · exact h.bnd x hx
end
def U8 (rv ov ev sv : Value) (d : Int) (E0 n5 : Nat) : Nat → List Value → Value → Prop
  | 0, _, v => v = rv
  | 1, _, v => v = ov
  | 2, _, v => v = .pointer (some ⟨E0, 0, none⟩)
  | 3, _, v => v = .int .i64 d
  | 4, _, v => v = sv
  | 5, _, v => v = ev
  | 6, _, v => ∃ g, v = .slice (some ⟨g, 0, none⟩) 1 1
  | 7, _, v => ∃ g cap, v = .slice (some ⟨g, 0, none⟩) (n5 + 1) cap
  | _, l, v => l.head? = some v
def V8 (S own : Nat → Prop) (cells : Array Value) (F : Value → World → Prop) : Nat → Value → World → Prop
  | 6, v, w => ∃ g, v = .slice (some ⟨g, 0, none⟩) 1 1 ∧ Blk w g cells 44 ∧ ¬ S g ∧ ¬ own g
  | 7, v, w => F v w
  | _, _, _ => True
def T8 (S own : Nat → Prop) : Nat → World → World → Prop
  | 4, w, w' => ∀ g, g < w.heap.size → ¬ S g → w'.heap[g]? = w.heap[g]?
  | 6, w, w' => Below w.heap.size w w'
  | 7, w, w' => ∀ g, g < w.heap.size → ¬ own g → w'.heap[g]? = w.heap[g]?
  | _, w, w' => w = w'
theorem keep8 {md : Region.Mode} {ops : Array Oper} {S own : Nat → Prop} {cells : Array Value} {F : Value → World → Prop} (h1 : waits md ops 7 4 = true) (h2 : waits md ops 7 6 = true) (i j : Nat) (v : Value) (w w' : World) (hij : i ≠ j) (hw : waits md ops j i = false) (ht : T8 S own i w w') (hv : V8 S own cells F j v w) : V8 S own cells F j v w' := by
  by_cases h6 : j = 6
  · subst h6
    obtain ⟨g, e, hb, hs, ho⟩ := hv
    refine ⟨g, e, ?_, hs, ho⟩
    by_cases i4 : i = 4
    · subst i4; exact (ht g hb.lt hs).trans hb
    by_cases i7 : i = 7
    · subst i7; exact (ht g hb.lt ho).trans hb
    by_cases i6 : i = 6
    · exact absurd i6 hij
    · have e2 : w = w' := by
        unfold T8 at ht
        split at ht <;> first | exact ht | exact absurd rfl i4 | exact absurd rfl i6 | exact absurd rfl i7
      subst e2; exact hb
  by_cases h7 : j = 7
  · subst h7
    by_cases i4 : i = 4
    · subst i4; rw [h1] at hw; cases hw
    by_cases i6 : i = 6
    · subst i6; rw [h2] at hw; cases hw
    by_cases i7 : i = 7
    · exact absurd i7 hij
    · have e2 : w = w' := by
        unfold T8 at ht
        split at ht <;> first | exact ht | exact absurd rfl i4 | exact absurd rfl i6 | exact absurd rfl i7
      subst e2; exact hv
  · unfold V8
    split
    · exact absurd rfl h6
    · exact absurd rfl h7
    · trivial
set_option maxRecDepth 100000 in
set_option maxHeartbeats 64000000 in
theorem framesD_calls (l : List NdN) (hl : l.length ≤ 1000) (w : List Nat) (hw : w.length ≤ 1000) (hw8 : ∀ x ∈ w, x < 256) (t : List EnN) (ht : t.length ≤ 1000) (la wa ta : Option Addr) (lc wc tc : Nat) (htc : t.length ≤ tc) (W : World) (hN : NodesAt l la W) (hT : BtsAt w wa W) (hE : EntsAt t ta W) :
    Calls Try.prog 11 #[.slice la l.length lc, .slice wa w.length wc, .slice ta t.length tc] W fun e W' => ∃ b c, e = .returned (.slice b (framesT l w t).length c) ∧ RowsAt (framesT l w t) b W' ∧ Below W.heap.size W W' := by
  have HR := treeRight_calls l hl w hw hw8 t ht la wa ta lc wc tc htc W hN hT hE
  cases hr : treeT l w t with
  | false =>
    rw [hr] at HR
    have HX := Lib.hid (show framesT l w t = [] by unfold framesT; rw [hr]; rfl)
    clear hr hN hT hE
    go_enter Try.func11, Try.ntmps11
    go_wp2_with fail
    refine HR.mono ?_
    rintro e w1 ⟨rfl, hb⟩
    go_wp2_with fail
    go_ret
    rw [HX.out]
    exact ⟨_, _, rfl, fun h => absurd rfl h, hb⟩
  | true =>
    rw [hr] at HR
    obtain ⟨hrt, ks, hok, hteq⟩ := (tree_iff l w t).1 hr
    have hpos : 0 < l.length := (rightT_q l hrt).pos
    have HIN := Lib.hid (show ∀ x ∈ t, ∃ q p f : Nat, x.node = q ∧ q < l.length ∧ x.from_ = f ∧ x.to = p ∧ f ≤ w.length ∧ p ≤ w.length from fun x hx => by
      rw [hteq] at hx
      obtain ⟨h1, h2, h3, h4, h5⟩ := nodes_in (parts_ok l hrt) _ 1 l.length (Nat.le_refl _) hok (fun r hr => by simp [rootsO] at hr; rw [hr]; simp; omega) x hx
      exact ⟨x.node.toNat, x.to.toNat, x.from_.toNat, by omega, by omega, by omega, by omega, by omega, by omega⟩)
    have hstep : stepOk 0 t := by
      have := step_forest (.cons (l.length - 1) 0 w.length ks .nil) 1 0 [] (by omega) (by omega) (fun _ _ => trivial)
      rw [List.append_nil, ← hteq] at this
      exact this
    have HFL := Lib.hid (frames_len l w t hr)
    have HFT := Lib.hid (show framesT l w t = (List.range (w.length + 1)).map (rowF (frEvents t)) by unfold framesT rowsE; rw [if_pos hr])
    have HE := Lib.hid hE
    clear hN hT hE hrt hok hteq hr
    have hmk := fun W => run_make_row' (P := Try.prog) 56 35 (.slice none 0 0) 24 Try.underlying56 infoR12 rfl .i64 .i64 (w.length + 1) (by omega) (by omega) W
    have xw : IntKind.i64.wrap ((w.length : Int) + 1) = (w.length : Int) + 1 := IntWalk.i64_in _ (by omega)
    rw [show ((w.length + 1 : Nat) : Int) = (w.length : Int) + 1 from rfl] at hmk
    go_enter Try.func11, Try.ntmps11
    go_wp2_with fail
    refine HR.mono ?_
    rintro e w1 ⟨rfl, hb⟩
    have HB := Lib.hid hb
    clear HR hb
    go_upto_region 4 with fail
    have HB1 := Lib.hid (HB.out.alloc HB.out.size (.cells (madeCells #[.slice none 0 0] (w.length + 1)) 35))
    have HR0 := Lib.hid (RowsI.new w1 (w.length + 1) W.heap.size HB.out.size)
    have hWT : W.heap.size ≤ w1.heap.size := HB.out.size
    clear hmk xw HB
    generalize w1.alloc (.cells (madeCells #[.slice none 0 0] (w.length + 1)) 35) = w2 at *
    generalize w1.heap.size = T at *
    go_wp2_with fail
    go_loopw [8, 22] (fun vo vi wr => ∃ (i : Nat) (a : Option Addr) (c : Nat) (S : Nat → Prop), i ≤ t.length ∧ vi = .int .i64 i ∧ vo = .slice a (frRun ([], []) (t.take i)).2.length c ∧ FrS W.heap.size (w.length + 1) T S (frRun ([], []) (t.take i)).1 (frRun ([], []) (t.take i)).2 vo wr ∧ depthsOk (frRun ([], []) (t.take i)).2 ∧ stepOk (frRun ([], []) (t.take i)).2.length (t.drop i) ∧ (∀ k, S k → W.heap.size ≤ k) ∧ Below W.heap.size W wr) (fun _ vi _ => t.length - (intOf vi).toNat)
    case atStart => exact ⟨0, none, 0, fun g => g = T, Nat.zero_le _, rfl, rfl, ⟨HR0.out, OwE.nil _ _, fun g hg => (by cases hg), fun x hx => (by cases hx)⟩, trivial, hstep, fun k hk => by subst hk; exact hWT, HB1.out⟩
    case round =>
      obtain ⟨i, a, c, S, hi, rfl, rfl, hf, hok, hst, hS, hB⟩ := hrel
      have hlen := frRun_len (t.take i) ([], [])
      rw [List.length_take, Nat.min_eq_left hi] at hlen
      simp only [List.length_nil] at hlen
      clear HR0 HB1
      by_cases hlt : i < t.length
      · have hstepE : frRun ([], []) (t.take (i + 1)) = frStep (frRun ([], []) (t.take i)) t[i] := by
          rw [List.take_succ_eq_append_getElem hlt, frRun_app]; rfl
        rw [List.drop_eq_getElem_cons hlt] at hst
        obtain ⟨q, p, f, hq1, hq, hf1, hp1, hfw, hpw⟩ := HIN.out t[i] (List.getElem_mem hlt)
        obtain ⟨g, off, rfl, hg, hc⟩ := HE.out (by rintro rfl; simp at hlt)
        have dd := fun (j : Nat) (hj : j < 4) => (hB.cell (p := ⟨g, off + i * 4 + j, none⟩) hg).trans (hc i hlt j hj)
        generalize t[i] = x at *
        obtain ⟨xd, xn, xf, xt⟩ := x
        simp only at hq1 hf1 hp1
        subst hq1 hf1 hp1
        obtain ⟨hs1, hs2, hs3⟩ := hst
        simp only at hs1 hs2 hs3
        generalize frRun ([], []) (t.take i) = s at *
        obtain ⟨ev, st⟩ := s
        simp only at hf hok hs1 hlen ⊢
        unfold frStep at hstepE
        simp only at hstepE
        have d0 := dd 0 (by decide); have d1 := dd 1 (by decide); have d2 := dd 2 (by decide); have d3 := dd 3 (by decide)
        simp only [enA, List.getElem?_toArray, List.getElem?_cons_zero, List.getElem?_cons_succ, Nat.add_zero] at d0 d1 d2 d3
        have p2 : decide (i < t.length) = true := decide_eq_true hlt
        have p3 : decide ((i : Int) < (t.length : Int)) = true := by rw [decide_eq_true_iff]; omega
        have p4 : (i : Int) < (t.length : Int) := by omega
        have xi : IntKind.i64.wrap ((i : Int) + 1) = (i : Int) + 1 := IntWalk.i64_in _ (by omega)
        have hcl := close_left hs2 hok (by omega)
        have hcn := close_len xd st
        have hco := close_ok (d := xd) hok
        have HFF := Lib.hid hf
        have HBW := Lib.hid hB
        clear dd hc hf hB
        have bE0 : Blk (wr.alloc (.cells (enI xd q f p) 44)) wr.heap.size (enI xd q f p) 44 := Blk.new wr _ _
        have hbd : Below wr.heap.size wr (wr.alloc (.cells (enI xd q f p) 44)) := (Below.refl _ _).alloc (Nat.le_refl _) _
        have hsz : (wr.alloc (.cells (enI xd q f p) 44)).heap.size = wr.heap.size + 1 := World.size_alloc _ _
        have HB0 := Lib.hid (HBW.out.trans (hbd.mono HBW.out.size))
        have HF0 := Lib.hid (HFF.out.below hbd)
        have hSlt := HFF.out.rows.lt
        have hOlt := fun g h => (HFF.out.ow.lt (g := g) h).2
        have hWr : W.heap.size ≤ wr.heap.size := HBW.out.size
        clear hbd HBW HFF
        go_upto_region 8 with fail
        clear d0 d1 d2 d3
        generalize wr.alloc (.cells (enI xd q f p) 44) = w3 at *
        generalize wr.heap.size = E0 at *
        clear wr
        obtain ⟨ST, hST⟩ : ∃ ST, ST = (closeT xd st).2 := ⟨_, rfl⟩
        obtain ⟨EV, hEV⟩ : ∃ EV, EV = ev ++ (closeT xd st).1 := ⟨_, rfl⟩
        rw [← hST, ← hEV] at hstepE
        rw [← hST] at hcl hcn hco
        have hEVl : EV.length + ST.length = ev.length + st.length := by rw [hEV, List.length_append]; omega
        have HSH := Lib.hid (show ∀ W', FrS W.heap.size (w.length + 1) T S ev st (.slice a st.length c) W' → w3.drew.heap.size ≤ W'.heap.size → Calls Try.prog 25 #[.slice (some ⟨T, 0, none⟩) (w.length + 1) (w.length + 1), .slice a st.length c, .int .i64 xd] W' fun e w'' => ∃ v, e = .returned v ∧ ∃ S5 : Nat → Prop, v = .slice a ST.length c ∧ FrS W.heap.size (w.length + 1) T S5 EV ST v w'' ∧ (∀ k, S5 k → W.heap.size ≤ k) ∧ (∀ g, g < W'.heap.size → ¬ S g → w''.heap[g]? = W'.heap[g]?) ∧ KpA S W' w'' from fun W' hb hz => by
          refine (shut_calls a c xd hs2 hok (by omega) W' hb).mono ?_
          rintro e w'' ⟨S5, rfl, h1, h2, h3⟩
          rw [← hST, ← hEV] at h1
          rw [← hST]
          exact ⟨_, rfl, S5, rfl, h1, fun k hk => (h2 k hk).elim (hS k) (fun h => Nat.le_trans HB0.out.size (Nat.le_trans hz h)), fun g hg hs => h3.block g hg hs, h3⟩)
        have hSz : ¬ S w3.heap.size := fun h => by have := hSlt _ h; omega
        have hSE : ¬ S E0 := fun h => by have := hSlt _ h; omega
        have t0 := bE0.cell 0; have t1 := bE0.cell 1; have t2 := bE0.cell 2; have t3 := bE0.cell 3
        simp only [List.getElem?_toArray, List.getElem?_cons_zero, List.getElem?_cons_succ] at t0 t1 t2 t3
        have HBE := Lib.hid bE0
        have hpn : p < w.length + 1 := by omega
        have hq5 : q ≤ 100000 := by omega
        have hST1 : ST.length ≤ 1000000 := by omega
        clear bE0 hST hEV
        go_cut [8] from 26 to 33 (fun v wx => ∃ (a6 : Option Addr) (c6 : Nat) (S6 : Nat → Prop), v = .slice a6 (ST.length + 1) c6 ∧ FrS W.heap.size (w.length + 1) T S6 EV (⟨xd, q, f, p⟩ :: ST) v wx ∧ (∀ k, S6 k → W.heap.size ≤ k) ∧ Blk wx E0 (enI xd q f p) 44 ∧ Below W.heap.size W wx)
        case first =>
          have HSW := Lib.hid hS
          have hOw : ∀ g, (Value.slice a st.length c).ownBlock = some g → g < E0 := hOlt
          refine region_stepsH (S := fun k w' => (Blk w' E0 (enI xd q f p) 44 ∧ Below W.heap.size W w' ∧ w3.drew.heap.size ≤ w'.heap.size) ∧ (k = 0 → FrS W.heap.size (w.length + 1) T S ev st (.slice a st.length c) w') ∧ (k = 1 → ∃ S5 : Nat → Prop, FrS W.heap.size (w.length + 1) T S5 EV ST (.slice a ST.length c) w' ∧ ∀ k, S5 k → W.heap.size ≤ k))
            (U := U8 (.slice (some ⟨T, 0, none⟩) (w.length + 1) (w.length + 1)) (.slice a st.length c) (.agg (enI xd q f p)) (.slice a ST.length c) xd E0 ST.length)
            (V := V8 S (fun g => (Value.slice a ST.length c).ownBlock = some g) (enI xd q f p) (fun v w' => ∃ (a6 : Option Addr) (c6 : Nat) (S6 : Nat → Prop), v = .slice a6 (ST.length + 1) c6 ∧ FrS W.heap.size (w.length + 1) T S6 EV (⟨xd, q, f, p⟩ :: ST) v w' ∧ (∀ k, S6 k → W.heap.size ≤ k)))
            (T := T8 S (fun g => (Value.slice a ST.length c).ownBlock = some g)) [4, 7] (by kernel_rfl) (keep8 (by kernel_rfl) (by kernel_rfl)) (by kernel_rfl) (by kernel_rfl) ⟨⟨HBE.out.drew, HB0.out.drew, Nat.le_refl _⟩, fun _ => HF0.out.below ((Below.refl _ _).drew), fun h => by cases h⟩ ?_
          simp only [List.size_toArray, List.length_cons, List.length_nil, Nat.reduceAdd, Array.replicate_succ, Array.replicate_zero, List.push_toArray, List.nil_append, List.cons_append]
          refine AnyH.step (i := 0) (d := some 26) rfl rfl (by kernel_rfl) (by kernel_rfl) (by kernel_rfl) (by kernel_rfl) (by kernel_rfl) ⟨_, rfl⟩ (fun k => StepsH.run (by kernel_rfl) (fun w' hS hD => ⟨.slice (some ⟨T, 0, none⟩) (w.length + 1) (w.length + 1), w', ?_, rfl, trivial, rfl, hS⟩)) ?_
          · clear hS hD; go_simp
            try rfl
          rintro v' rfl a' ha'
          simp only [Act.put, List.setIfInBounds_toArray, List.set_cons_zero, List.set_cons_succ] at ha'
          subst ha'
          refine AnyH.step (i := 1) (d := some 27) rfl rfl (by kernel_rfl) (by kernel_rfl) (by kernel_rfl) (by kernel_rfl) (by kernel_rfl) ⟨_, rfl⟩ (fun k => StepsH.run (by kernel_rfl) (fun w' hS hD => ⟨.slice a st.length c, w', ?_, rfl, trivial, rfl, hS⟩)) ?_
          · clear hS hD; go_simp
            try rfl
          rintro v' rfl a' ha'
          simp only [Act.put, List.setIfInBounds_toArray, List.set_cons_zero, List.set_cons_succ] at ha'
          subst ha'
          refine AnyH.step (i := 2) (d := some 28) rfl rfl (by kernel_rfl) (by kernel_rfl) (by kernel_rfl) (by kernel_rfl) (by kernel_rfl) ⟨_, rfl⟩ (fun k => StepsH.run (by kernel_rfl) (fun w' hS hD => ⟨.pointer (some ⟨E0, 0, none⟩), w', ?_, rfl, trivial, rfl, hS⟩)) ?_
          · clear hS hD; go_simp
            try rfl
          rintro v' rfl a' ha'
          simp only [Act.put, List.setIfInBounds_toArray, List.set_cons_zero, List.set_cons_succ] at ha'
          subst ha'
          refine AnyH.step (i := 3) (d := some 29) rfl rfl (by kernel_rfl) (by kernel_rfl) (by kernel_rfl) (by kernel_rfl) (by kernel_rfl) ⟨_, rfl⟩ (fun k => StepsH.run (by kernel_rfl) (fun w' hS hD => ⟨.int .i64 xd, w', ?_, rfl, trivial, rfl, hS⟩)) ?_
          · have u0 := hS.1.1.cell 0; have u1 := hS.1.1.cell 1; have u2 := hS.1.1.cell 2; have u3 := hS.1.1.cell 3
            simp only [List.getElem?_toArray, List.getElem?_cons_zero, List.getElem?_cons_succ] at u0 u1 u2 u3
            clear hS hD; go_simp
            try rfl
          rintro v' rfl a' ha'
          simp only [Act.put, List.setIfInBounds_toArray, List.set_cons_zero, List.set_cons_succ] at ha'
          subst ha'
          refine AnyH.step (i := 5) (d := some 31) rfl rfl (by kernel_rfl) (by kernel_rfl) (by kernel_rfl) (by kernel_rfl) (by kernel_rfl) ⟨_, rfl⟩ (fun k => StepsH.run (by kernel_rfl) (fun w' hS hD => ⟨.agg (enI xd q f p), w', ?_, rfl, trivial, rfl, hS⟩)) ?_
          · have u0 := hS.1.1.cell 0; have u1 := hS.1.1.cell 1; have u2 := hS.1.1.cell 2; have u3 := hS.1.1.cell 3
            simp only [List.getElem?_toArray, List.getElem?_cons_zero, List.getElem?_cons_succ] at u0 u1 u2 u3
            clear hS hD; go_simp
            try rfl
          rintro v' rfl a' ha'
          simp only [Act.put, List.setIfInBounds_toArray, List.set_cons_zero, List.set_cons_succ] at ha'
          subst ha'
          refine AnyH.step (i := 6) (d := some 32) rfl rfl (by kernel_rfl) (by kernel_rfl) (by kernel_rfl) (by kernel_rfl) (by kernel_rfl) ⟨_, 0, rfl⟩ (fun k => StepsH.run (by kernel_rfl) (fun w' hS hD => ?_)) ?_
          · have hbw : Below w'.heap.size w' (w'.alloc (.cells (enI xd q f p) 44)) := (Below.refl _ _).alloc (Nat.le_refl _) _
            refine ⟨.slice (some ⟨w'.heap.size, 0, none⟩) 1 1, w'.alloc (.cells (enI xd q f p) 44), ?_, ⟨_, rfl⟩, ⟨w'.heap.size, rfl, Blk.new w' _ _, fun hs => ?_, fun ho => ?_⟩, hbw, ⟨hS.1.1.below hbw hS.1.1.lt, hS.1.2.1.trans (hbw.mono hS.1.2.1.size), Nat.le_trans hS.1.2.2 hbw.size⟩, fun h => (hS.2.1 h).below hbw, fun h => ?_⟩
            · clear hS hD hbw
              go_simp
              try rfl
            · have := hSlt _ hs; have := hS.1.2.2; simp at this; omega
            · have h9 := hOw w'.heap.size (by cases a with | none => cases ho | some ad => exact ho)
              have := hS.1.2.2; simp at this; omega
            · obtain ⟨S5, h5, h6⟩ := hS.2.2 h
              exact ⟨S5, h5.below hbw, h6⟩
          rintro v' ⟨g6, rfl⟩ a' ha'
          simp only [Act.put, List.setIfInBounds_toArray, List.set_cons_zero, List.set_cons_succ] at ha'
          subst ha'
          refine AnyH.turn (i := 4) (k := 0) (d := some 30) rfl rfl (by kernel_rfl) (by kernel_rfl) ⟨_, rfl⟩ (StepsH.call (f := 25) (args := #[.slice (some ⟨T, 0, none⟩) (w.length + 1) (w.length + 1), .slice a st.length c, .int .i64 xd]) (by kernel_rfl) (fun w' hS => by clear hS; go_simp) (fun w' hS hD => ?_)) ?_
          · refine (HSH.out w' (hS.2.1 rfl) hS.1.2.2).mono ?_
            rintro e w'' ⟨v, rfl, S5, rfl, h1, h2, h3, h4⟩
            exact ⟨_, rfl, rfl, trivial, h3, ⟨hS.1.1.kpA h4 hSE, hS.1.2.1.trans (h4.toBelow hS.1.2.1.size HSW.out), Nat.le_trans hS.1.2.2 h4.size⟩, fun h => (by cases h), fun _ => ⟨S5, h1, h2⟩⟩
          rintro v' rfl a' ha'
          simp only [Act.put, List.setIfInBounds_toArray, List.set_cons_zero, List.set_cons_succ] at ha'
          subst ha'
          refine AnyH.turn (i := 7) (k := 1) (d := some 33) rfl rfl (by kernel_rfl) (by kernel_rfl) ⟨_, 0, 0, rfl⟩ (StepsH.run (by kernel_rfl) (fun w' hS hD => ?_)) ?_
          · obtain ⟨S5, h5, h5s⟩ := hS.2.2 rfl
            obtain ⟨g, e, hbg, hsg, hog⟩ : V8 S (fun g => (Value.slice a ST.length c).ownBlock = some g) (enI xd q f p) _ 6 (.slice (some ⟨g6, 0, none⟩) 1 1) w' := deps_getH hD (k := 6) (by kernel_rfl) rfl rfl
            cases e
            obtain ⟨g7, cap7, w7, hr7, hf7, hk7⟩ := h5.opened hST1 xd f p q hpn hq5 g6 hbg 22
            have hO2 : ∀ g, (Value.slice a ST.length c).ownBlock = some g → g < E0 ∧ W.heap.size ≤ g := fun g hg => ⟨hOw g (by cases a with | none => cases hg | some ad => exact hg), (h5.ow.lt hg).1⟩
            refine ⟨_, w7, exec_appN rfl rfl rfl hr7, ⟨g7, cap7, rfl⟩, ⟨_, _, S5, rfl, hf7, h5s⟩, fun g hg ho => hk7.block g hg ho, ⟨hS.1.1.kpA hk7 (fun hh => by have := (hO2 _ hh).1; omega), hS.1.2.1.trans (hk7.toBelow hS.1.2.1.size (fun g hg => (hO2 g hg).2)), Nat.le_trans hS.1.2.2 hk7.size⟩, fun h => (by cases h), fun h => (by cases h)⟩
          rintro v' ⟨g7, cap7, rfl⟩ a' ha'
          simp only [Act.put, List.setIfInBounds_toArray, List.set_cons_zero, List.set_cons_succ] at ha'
          subst ha'
          refine AnyH.step (i := 8) (d := some 8) rfl rfl (by kernel_rfl) (by kernel_rfl) (by kernel_rfl) (by kernel_rfl) (by kernel_rfl) ⟨.slice (some ⟨g7, 0, none⟩) (ST.length + 1) cap7, show List.head? _ = some _ from by kernel_rfl⟩ (fun k => StepsH.run (by kernel_rfl) (fun w' hS hD => ⟨.slice (some ⟨g7, 0, none⟩) (ST.length + 1) cap7, w', ?_, show List.head? _ = some _ from by kernel_rfl, trivial, rfl, hS⟩)) ?_
          · clear hS hD; go_simp
            try rfl
          rintro v' hv' a' ha'
          have hv1 : some (Value.slice (some ⟨g7, 0, none⟩) (ST.length + 1) cap7) = some v' := hv'
          have hv2 := Option.some.inj hv1
          subst hv2
          simp only [Act.put, List.setIfInBounds_toArray, List.set_cons_zero, List.set_cons_succ] at ha'
          subst ha'
          refine AnyH.done (k := 2) (by kernel_rfl) (by kernel_rfl) (fun w9 hS hF => ?_) _
          have h7 := hF 7 _ 33 rfl rfl rfl
          obtain ⟨a6, c6, S6, e6, hf6, hs6⟩ : ∃ (a6 : Option Addr) (c6 : Nat) (S6 : Nat → Prop), (Value.slice (some ⟨g7, 0, none⟩) (ST.length + 1) cap7) = .slice a6 (ST.length + 1) c6 ∧ FrS W.heap.size (w.length + 1) T S6 EV (⟨xd, q, f, p⟩ :: ST) (.slice (some ⟨g7, 0, none⟩) (ST.length + 1) cap7) w9 ∧ (∀ k, S6 k → W.heap.size ≤ k) := h7
          clear hF
          have HRES := Lib.hid (show FrS W.heap.size (w.length + 1) T S6 EV (⟨xd, q, f, p⟩ :: ST) (.slice (some ⟨g7, 0, none⟩) (ST.length + 1) cap7) w9 ∧ Blk w9 E0 (enI xd q f p) 44 ∧ Below W.heap.size W w9 from ⟨hf6, hS.1.1, hS.1.2.1⟩)
          clear hf6 hS e6
          try go_wp2_with fail
          go_meet
          exact ⟨_, _, S6, rfl, HRES.out.1, hs6, HRES.out.2.1, HRES.out.2.2⟩
        case rest =>
          obtain ⟨a6, c6, S6, rfl, hf6, hs6, hb6, hB6⟩ := hcut
          have u0 := hb6.cell 0; have u1 := hb6.cell 1; have u2 := hb6.cell 2; have u3 := hb6.cell 3
          simp only [List.getElem?_toArray, List.getElem?_cons_zero, List.getElem?_cons_succ] at u0 u1 u2 u3
          have hev6 : EV.length ≤ 1000000 := by omega
          have HRO := Lib.hid (recOpen_calls hev6 xd p f q (by omega) hq5 _ hf6)
          have HBB := Lib.hid hB6
          have hst2 : frRun ([], []) (t.take (i + 1)) = (EV ++ [((f : Int), 2 * (q : Int))], ⟨xd, q, f, p⟩ :: ST) := hstepE
          have HST2 := Lib.hid hst2
          have hlen2 := frRun_len (t.take (i + 1)) ([], [])
          have hok3 : depthsOk (⟨xd, q, f, p⟩ :: ST) := ⟨by simp only; omega, hco⟩
          clear t0 t1 t2 t3 hf6 hb6 hB6 hst2 hstepE HSH HBE HF0 HB0
          go_wp2_with fail
          refine HRO.out.mono ?_
          rintro e w9 ⟨rfl, S9, hf9, hs9, hk9⟩
          have HF9 := Lib.hid hf9
          have HB9 := Lib.hid (HBB.out.trans (hk9.toBelow HBB.out.size hs6))
          have HS9 := Lib.hid (show ∀ k, S9 k → W.heap.size ≤ k from fun k hk => (hs9 k hk).elim (hs6 k) (fun h => Nat.le_trans HBB.out.size h))
          clear u0 u1 u2 u3 hf9 hk9 hs9 HRO
          go_wp2_with fail
          go_roundw
          case rel =>
            refine ⟨i + 1, a6, c6, S9, by omega, by simp, ?_, ?_, ?_, ?_, HS9.out, HB9.out⟩
            · rw [HST2.out]; rfl
            · rw [HST2.out]; exact HF9.out
            · rw [HST2.out]; exact hok3
            · rw [HST2.out]
              have e : ((⟨xd, q, f, p⟩ :: ST : List EnN).length : Int) = xd := by rw [List.length_cons]; push_cast; omega
              rw [e]
              exact hs3
          case measure => simp [intOf]; omega
      · obtain rfl : i = t.length := by omega
        have p1 : decide (t.length < t.length) = false := by rw [decide_eq_false_iff_not]; omega
        rw [List.take_of_length_le (Nat.le_refl _)] at hf hok hlen ⊢
        have HCO := Lib.hid (close_one hok)
        have HEVF := Lib.hid (show frEvents t = (frRun ([], []) t).1 ++ (closeT 0 (frRun ([], []) t).2).1 from rfl)
        generalize frRun ([], []) t = s at *
        obtain ⟨ev, st⟩ := s
        simp only at hf hok hlen ⊢
        have HSH := Lib.hid (shut_calls a c 1 (by omega) hok (by omega) wr hf)
        have HBB := Lib.hid hB
        have HSS := Lib.hid hS
        clear hf hB hst hS
        go_wp2_with fail
        refine HSH.out.mono ?_
        rintro e w9 ⟨S9, rfl, hf9, hs9, hk9⟩
        have HR9 := Lib.hid hf9.rows.at
        have HB9 := Lib.hid (HBB.out.trans (hk9.toBelow HBB.out.size HSS.out))
        clear hf9 hs9 hk9 HSH
        go_wp2_with fail
        go_ret
        refine ⟨some ⟨T, 0, none⟩, w.length + 1, by rw [HFL.out] <;> rfl, ?_, HB9.out⟩
        rw [HFT.out]
        have e1 : frEvents t = ev ++ (closeT 1 st).1 := by
          rw [HEVF.out]
          have h9 : closeT 1 st = closeT 0 st := HCO.out
          rw [h9]
        rw [e1]
        exact HR9.out
end Go.Proofs.Ytooolhekihijlaa

/- Stage 14: sure; TreeAhead. -/
namespace Go.Proofs.Ytooolhekihijlaa
open Go.RowKit BS

def s14 : BitVec 256 := BitVec.ofNat 256 (2 ^ 97)
theorem wd14 : wd s14 0 = 0 ∧ wd s14 1 = 8589934592 ∧ wd s14 2 = 0 ∧ wd s14 3 = 0 := by decide +kernel
def l14 : List NdN := [⟨2, -1, -1, 0, s14⟩, ⟨8, 0, -1, 0, 0⟩, ⟨5, 1, -1, 0, 0⟩]
@[reducible] def c14 : Array Value := #[.int .i64 2, .int .i64 (-1), .int .i64 (-1), .int .i64 0, .int .u64 0, .int .u64 8589934592, .int .u64 0, .int .u64 0, .int .i64 8, .int .i64 0, .int .i64 (-1), .int .i64 0, .int .u64 0, .int .u64 0, .int .u64 0, .int .u64 0, .int .i64 5, .int .i64 1, .int .i64 (-1), .int .i64 0, .int .u64 0, .int .u64 0, .int .u64 0, .int .u64 0]
def t14 : List EnN := [⟨1, 2, 0, 2⟩, ⟨2, 1, 0, 1⟩, ⟨3, 0, 0, 1⟩, ⟨2, 1, 1, 2⟩, ⟨3, 0, 1, 2⟩]
@[reducible] def e14 : Array Value := #[.int .i64 1, .int .i64 2, .int .i64 0, .int .i64 2, .int .i64 2, .int .i64 1, .int .i64 0, .int .i64 1, .int .i64 3, .int .i64 0, .int .i64 0, .int .i64 1, .int .i64 2, .int .i64 1, .int .i64 1, .int .i64 2, .int .i64 3, .int .i64 0, .int .i64 1, .int .i64 2]
theorem t14_yes : treeT l14 [97, 97] t14 = true := by decide +kernel
theorem t14_no : treeT l14 [97, 98] t14 = false := by decide +kernel
theorem t14_ahead : aheadT t14 (t14.take 3) = -1 := by decide +kernel
def f14 : List (List Int) := [[4, 2, 0], [1, 3, 2, 0], [1, 3, 5]]
theorem f14_is : framesT l14 [97, 97] t14 = f14 := by decide +kernel
theorem f14_of : listT f14 = (t14, true) := by
  have h1 : (listT f14).1 = t14 := by decide +kernel
  have h2 : (listT f14).2 = true := by decide +kernel
  exact Prod.ext h1 h2
theorem f14_range : rangeR f14 := by
  intro row hr s hs
  simp only [f14, List.mem_cons, List.not_mem_nil, or_false] at hr
  rcases hr with rfl | rfl | rfl <;> simp only [List.mem_cons, List.not_mem_nil, or_false] at hs <;> rcases hs with rfl | rfl | rfl | rfl <;> decide
theorem nd14_a : ndA ⟨2, -1, -1, 0, s14⟩ = #[.int .i64 2, .int .i64 (-1), .int .i64 (-1), .int .i64 0, .int .u64 0, .int .u64 8589934592, .int .u64 0, .int .u64 0] := by
  obtain ⟨y0, y1, y2, y3⟩ := wd14
  generalize s14 = s at *
  show #[Value.int .i64 2, .int .i64 (-1), .int .i64 (-1), .int .i64 0, .int .u64 ((wd s 0 : Nat) : Int), .int .u64 ((wd s 1 : Nat) : Int), .int .u64 ((wd s 2 : Nat) : Int), .int .u64 ((wd s 3 : Nat) : Int)] = _
  rw [y0, y1, y2, y3]
  rfl
theorem nd14_b (k a : Int) : ndA ⟨k, a, -1, 0, 0⟩ = #[.int .i64 k, .int .i64 a, .int .i64 (-1), .int .i64 0, .int .u64 0, .int .u64 0, .int .u64 0, .int .u64 0] := by
  have z0 : wd (0 : BitVec 256) 0 = 0 := by decide
  have z1 : wd (0 : BitVec 256) 1 = 0 := by decide
  have z2 : wd (0 : BitVec 256) 2 = 0 := by decide
  have z3 : wd (0 : BitVec 256) 3 = 0 := by decide
  generalize (0 : BitVec 256) = s at *
  show #[Value.int .i64 k, .int .i64 a, .int .i64 (-1), .int .i64 0, .int .u64 ((wd s 0 : Nat) : Int), .int .u64 ((wd s 1 : Nat) : Int), .int .u64 ((wd s 2 : Nat) : Int), .int .u64 ((wd s 3 : Nat) : Int)] = _
  rw [z0, z1, z2, z3]
  rfl
theorem l14_at (W : World) : NodesAt l14 (some ⟨W.heap.size, 0, none⟩) (W.alloc (.cells c14 49)) := fun _ => by
  have hb := Blk.new W c14 49
  refine ⟨W.heap.size, 0, rfl, hb.lt, fun i hi j hj => ?_⟩
  have hi' : i < 3 := hi
  rw [hb.cell]
  obtain rfl | rfl | rfl : i = 0 ∨ i = 1 ∨ i = 2 := by omega
  · rw [show l14[0] = ⟨2, -1, -1, 0, s14⟩ from rfl, nd14_a]
    obtain rfl | rfl | rfl | rfl | rfl | rfl | rfl | rfl : j = 0 ∨ j = 1 ∨ j = 2 ∨ j = 3 ∨ j = 4 ∨ j = 5 ∨ j = 6 ∨ j = 7 := by omega
    all_goals rfl
  · rw [show l14[1] = ⟨8, 0, -1, 0, 0⟩ from rfl, nd14_b]
    obtain rfl | rfl | rfl | rfl | rfl | rfl | rfl | rfl : j = 0 ∨ j = 1 ∨ j = 2 ∨ j = 3 ∨ j = 4 ∨ j = 5 ∨ j = 6 ∨ j = 7 := by omega
    all_goals rfl
  · rw [show l14[2] = ⟨5, 1, -1, 0, 0⟩ from rfl, nd14_b]
    obtain rfl | rfl | rfl | rfl | rfl | rfl | rfl | rfl : j = 0 ∨ j = 1 ∨ j = 2 ∨ j = 3 ∨ j = 4 ∨ j = 5 ∨ j = 6 ∨ j = 7 := by omega
    all_goals rfl
theorem t14_at (W : World) : EntsAt t14 (some ⟨W.heap.size, 0, none⟩) (W.alloc (.cells e14 44)) := fun _ => by
  have hb := Blk.new W e14 44
  refine ⟨W.heap.size, 0, rfl, hb.lt, fun i hi j hj => ?_⟩
  have hi' : i < 5 := hi
  rw [hb.cell]
  obtain rfl | rfl | rfl | rfl | rfl : i = 0 ∨ i = 1 ∨ i = 2 ∨ i = 3 ∨ i = 4 := by omega
  all_goals
    obtain rfl | rfl | rfl | rfl : j = 0 ∨ j = 1 ∨ j = 2 ∨ j = 3 := by omega
    all_goals rfl
theorem two_at (W : World) (x y : Nat) (m : Nat × Nat) : BtsAt [x, y] (some ⟨W.heap.size, 0, none⟩) (W.alloc (.cells #[.int .u8 (x : Nat), .int .u8 (y : Nat)] 5 m)) := fun _ => by
  have hb : (W.alloc (.cells #[.int .u8 (x : Nat), .int .u8 (y : Nat)] 5 m)).heap[W.heap.size]? = some (.cells #[.int .u8 (x : Nat), .int .u8 (y : Nat)] 5 m) := heap_alloc_new W _
  refine ⟨W.heap.size, 0, rfl, by simp, fun i hi => ?_⟩
  have hi' : i < 2 := hi
  unfold World.cell?
  simp only [Nat.zero_add]
  rw [hb]
  obtain rfl | rfl : i = 0 ∨ i = 1 := by omega
  all_goals rfl
theorem ents_take {t : List EnN} {a : Option Addr} {W : World} (k : Nat) (h : EntsAt t a W) : EntsAt (t.take k) a W := fun hne => by
  have hl : t ≠ [] := by rintro rfl; simp at hne
  obtain ⟨g, o, e, hg, hc⟩ := h hl
  refine ⟨g, o, e, hg, fun i hi j hj => ?_⟩
  rw [List.length_take] at hi
  rw [hc i (by omega) j hj]
  simp
set_option maxRecDepth 100000 in
set_option maxHeartbeats 4000000 in
theorem star_calls (w : World) : Calls Try.prog 20 #[] w fun e w' => ∃ g, e = .returned (.slice (some ⟨g, 0, none⟩) 3 3) ∧ NodesAt l14 (some ⟨g, 0, none⟩) w' ∧ Below w.heap.size w w' := by
  have HN := Lib.hid (l14_at w)
  have HB : Hid (Below w.heap.size w (w.alloc (.cells c14 49))) := Lib.hid ((Below.refl _ _).alloc (Nat.le_refl _) _)
  go_enter Try.func20, Try.ntmps20
  go_wp2_with fail
  go_ret
  exact ⟨_, rfl, HN.out, HB.out⟩
set_option maxRecDepth 100000 in
set_option maxHeartbeats 32000000 in
theorem sure14_calls (w : World) : Calls Try.prog 7 #[] w fun e w' => e = .returned (.bool true) ∧ Below w.heap.size w w' := by
  have b97 : ∀ x ∈ [97, 97], x < 256 := by decide
  have b98 : ∀ x ∈ [97, 98], x < 256 := by decide
  have hfr := fun la wa ta W (h1 : NodesAt l14 la W) (h2 : BtsAt [97, 97] wa W) (h3 : EntsAt t14 ta W) => framesD_calls l14 (by decide) [97, 97] (by decide) b97 t14 (by decide) la wa ta 3 2 5 (by decide) W h1 h2 h3
  rw [f14_is] at hfr
  have HFR : Hid (∀ la wa ta W, NodesAt l14 la W → BtsAt [97, 97] wa W → EntsAt t14 ta W → Calls Try.prog 11 #[.slice la 3 3, .slice wa 2 2, .slice ta 5 5] W fun e W' => ∃ b c, e = .returned (.slice b 3 c) ∧ RowsAt f14 b W' ∧ Below W.heap.size W W') := Lib.hid hfr
  have hof := fun a cp W (h : RowsAt f14 a W) => ofD_calls f14 (by decide) (by decide) f14_range a cp W h
  rw [f14_of] at hof
  have HOF : Hid (∀ a cp W, RowsAt f14 a W → Calls Try.prog 14 #[.slice a 3 cp] W fun e W' => ∃ b c, e = .returned (.tuple #[.slice b 5 c, .bool true]) ∧ EntsAt t14 b W' ∧ Below W.heap.size W W') := Lib.hid hof
  have hr1 := fun la wa ta W (h1 : NodesAt l14 la W) (h2 : BtsAt [97, 97] wa W) (h3 : EntsAt t14 ta W) => treeRight_calls l14 (by decide) [97, 97] (by decide) b97 t14 (by decide) la wa ta 3 2 5 (by decide) W h1 h2 h3
  rw [t14_yes] at hr1
  have HR1 : Hid (∀ la wa ta W, NodesAt l14 la W → BtsAt [97, 97] wa W → EntsAt t14 ta W → Calls Try.prog 17 #[.slice la 3 3, .slice wa 2 2, .slice ta 5 5] W fun e W' => e = .returned (.bool true) ∧ Below W.heap.size W W') := Lib.hid hr1
  have hr2 := fun la wa ta W (h1 : NodesAt l14 la W) (h2 : BtsAt [97, 98] wa W) (h3 : EntsAt t14 ta W) => treeRight_calls l14 (by decide) [97, 98] (by decide) b98 t14 (by decide) la wa ta 3 2 5 (by decide) W h1 h2 h3
  rw [t14_no] at hr2
  have HR2 : Hid (∀ la wa ta W, NodesAt l14 la W → BtsAt [97, 98] wa W → EntsAt t14 ta W → Calls Try.prog 17 #[.slice la 3 3, .slice wa 2 2, .slice ta 5 5] W fun e W' => e = .returned (.bool false) ∧ Below W.heap.size W W') := Lib.hid hr2
  have hah := fun ta tb W (h1 : EntsAt t14 ta W) (h2 : EntsAt (t14.take 3) tb W) => aheadD_calls t14 (t14.take 3) (by decide) (by decide) ta tb 5 5 W h1 h2
  rw [t14_ahead] at hah
  have HAH : Hid (∀ ta tb W, EntsAt t14 ta W → EntsAt (t14.take 3) tb W → Calls Try.prog 8 #[.slice ta 5 5, .slice tb 3 5] W fun e W' => e = .returned (.int .i64 (-1)) ∧ Below W.heap.size W W') := Lib.hid hah
  have hin := fun a b c1 c2 W (h1 : IntsO [1, 3, 2, 0] a W) (h2 : IntsO [1, 3, 2, 0] b W) => ints_same [1, 3, 2, 0] (by decide) a b c1 c2 W h1 h2
  have HIN : Hid (∀ a b c1 c2 W, IntsO [1, 3, 2, 0] a W → IntsO [1, 3, 2, 0] b W → Calls Try.prog 13 #[.slice a 4 c1, .slice b 4 c2] W fun e W' => e = .returned (.bool true) ∧ Below W.heap.size W W') := Lib.hid hin
  have hsa := fun ta tb ca cb W (h1 : EntsAt t14 ta W) (h2 : EntsAt t14 tb W) => sameE_calls t14 t14 (by decide) (by decide) ta tb ca cb W h1 h2
  rw [decide_eq_true rfl] at hsa
  have HSA : Hid (∀ ta tb ca cb W, EntsAt t14 ta W → EntsAt t14 tb W → Calls Try.prog 15 #[.slice ta 5 ca, .slice tb 5 cb] W fun e W' => e = .returned (.bool true) ∧ Below W.heap.size W W') := Lib.hid hsa
  have HST := Lib.hid (fun W => star_calls W)
  have HT := Lib.hid (t14_at w)
  have HB : Hid (Below w.heap.size w (w.alloc (.cells e14 44))) := Lib.hid ((Below.refl _ _).alloc (Nat.le_refl _) _)
  clear hfr hof hr1 hr2 hah hin hsa b97 b98
  have hcv : ∀ W : World, (convert 28 28 (.slice (some ⟨W.heap.size, 0, none⟩) 2 2)).run Try.prog (W.alloc (.cells #[.int .u8 97, .int .u8 97] 5)) = .ok (.slice (some ⟨W.heap.size, 0, none⟩) 2 2) (W.alloc (.cells #[.int .u8 97, .int .u8 97] 5 (2, 3))) := fun W => Lib.run_convert_bytes_const W 28 5 #[.int .u8 97, .int .u8 97] 2 2 Try.underlying28 Try.underlying5
  have hcw : ∀ W : World, (convert 28 28 (.slice (some ⟨W.heap.size, 0, none⟩) 2 2)).run Try.prog (W.alloc (.cells #[.int .u8 97, .int .u8 98] 5)) = .ok (.slice (some ⟨W.heap.size, 0, none⟩) 2 2) (W.alloc (.cells #[.int .u8 97, .int .u8 98] 5 (2, 3))) := fun W => Lib.run_convert_bytes_const W 28 5 #[.int .u8 97, .int .u8 98] 2 2 Try.underlying28 Try.underlying5
  go_enter Try.func7, Try.ntmps7
  go_upto_region 2 with fail
  have hEs : w.heap.size < (w.alloc (.cells e14 44)).heap.size := by rw [World.size_alloc]; omega
  generalize w.alloc (.cells e14 44) = w1 at *
  go_wp2_with fail
  refine (HST.out _).mono ?_
  rintro e w2 ⟨g2, rfl, hn2, hb2⟩
  have HB2 := Lib.hid (HB.out.trans (hb2.mono HB.out.size))
  have hbb : Below w2.heap.size w2 (w2.alloc (.cells #[.int .u8 97, .int .u8 97] 5 (2, 3))) := (Below.refl _ _).alloc (Nat.le_refl _) _
  have HF3 := Lib.hid (HFR.out _ _ _ _ (hn2.below hbb) (two_at w2 97 97 (2, 3)) ((HT.out.below hb2).below hbb))
  have HT3 := Lib.hid ((HT.out.below hb2).below hbb)
  have HB3 := Lib.hid (HB2.out.trans (hbb.mono HB2.out.size))
  clear hn2 hb2 hbb HT HB HB2 hEs
  go_wp2_with fail
  refine HF3.out.mono ?_
  rintro e w4 ⟨bf, cf, rfl, hrf, hb4⟩
  have HB4 := Lib.hid (HB3.out.trans (hb4.mono HB3.out.size))
  have HT4 := Lib.hid (HT3.out.below hb4)
  have HRF := Lib.hid hrf
  clear hrf hb4 HF3 HT3 HB3 HFR
  go_wp2_with fail
  refine (HOF.out _ _ _ HRF.out).mono ?_
  rintro e w5 ⟨bu, cu, rfl, hu5, hb5⟩
  have HB5 := Lib.hid (HB4.out.trans (hb5.mono HB4.out.size))
  have HT5 := Lib.hid (HT4.out.below hb5)
  have HRF5 := Lib.hid (HRF.out.below hb5)
  have HU5 := Lib.hid hu5
  clear hu5 hb5 HT4 HRF HB4 HOF
  go_wp2_with fail
  refine (HST.out _).mono ?_
  rintro e w6 ⟨g6, rfl, hn6, hb6⟩
  have hbb : Below w6.heap.size w6 (w6.alloc (.cells #[.int .u8 97, .int .u8 97] 5 (2, 3))) := (Below.refl _ _).alloc (Nat.le_refl _) _
  have hb7 := hb6.trans (hbb.mono hb6.size)
  have HR6 := Lib.hid (HR1.out _ _ _ _ (hn6.below hbb) (two_at w6 97 97 (2, 3)) (HT5.out.below hb7))
  have HB6 := Lib.hid (HB5.out.trans (hb7.mono HB5.out.size))
  have HT6 := Lib.hid (HT5.out.below hb7)
  have HRF6 := Lib.hid (HRF5.out.below hb7)
  have HU6 := Lib.hid (HU5.out.below hb7)
  clear hn6 hb6 hbb hb7 HT5 HRF5 HU5 HB5 HR1
  go_wp2_with fail
  refine HR6.out.mono ?_
  rintro e w7 ⟨rfl, hb7⟩
  have HB7 := Lib.hid (HB6.out.trans (hb7.mono HB6.out.size))
  have HT7 := Lib.hid (HT6.out.below hb7)
  have HRF7 := Lib.hid (HRF6.out.below hb7)
  have HU7 := Lib.hid (HU6.out.below hb7)
  clear hb7 HT6 HRF6 HU6 HB6 HR6
  go_wp2_with fail
  refine (HST.out _).mono ?_
  rintro e w8 ⟨g8, rfl, hn8, hb8⟩
  have hbb : Below w8.heap.size w8 (w8.alloc (.cells #[.int .u8 97, .int .u8 98] 5 (2, 3))) := (Below.refl _ _).alloc (Nat.le_refl _) _
  have hb9 := hb8.trans (hbb.mono hb8.size)
  have HR8 := Lib.hid (HR2.out _ _ _ _ (hn8.below hbb) (two_at w8 97 98 (2, 3)) (HT7.out.below hb9))
  have HB8 := Lib.hid (HB7.out.trans (hb9.mono HB7.out.size))
  have HT8 := Lib.hid (HT7.out.below hb9)
  have HRF8 := Lib.hid (HRF7.out.below hb9)
  have HU8 := Lib.hid (HU7.out.below hb9)
  clear hn8 hb8 hbb hb9 HT7 HRF7 HU7 HB7 HR2
  go_wp2_with fail
  refine HR8.out.mono ?_
  rintro e w9 ⟨rfl, hb9⟩
  have HB9 := Lib.hid (HB8.out.trans (hb9.mono HB8.out.size))
  have HT9 := Lib.hid (HT8.out.below hb9)
  have HRF9 := Lib.hid (HRF8.out.below hb9)
  have HU9 := Lib.hid (HU8.out.below hb9)
  clear hb9 HT8 HRF8 HU8 HB8 HR8
  go_wp2_with fail
  refine (HAH.out _ _ _ HT9.out (ents_take 3 HT9.out)).mono ?_
  rintro e wa ⟨rfl, hba⟩
  have HBa := Lib.hid (HB9.out.trans (hba.mono HB9.out.size))
  have HTa := Lib.hid (HT9.out.below hba)
  have HUa := Lib.hid (HU9.out.below hba)
  obtain ⟨gf, of, ef, hgf, hcf⟩ := (HRF9.out.below hba) (by decide)
  subst ef
  obtain ⟨b1, cb1, hc1, hi1⟩ := hcf 1 (by decide)
  have hi1' : IntsO [1, 3, 2, 0] b1 wa := hi1
  have hc1' : wa.cell? ⟨gf, of + 1, none⟩ = some (.slice b1 4 cb1) := hc1
  have hbb : Below wa.heap.size wa (wa.alloc (.cells #[.int .i64 1, .int .i64 3, .int .i64 2, .int .i64 0] 3)) := (Below.refl _ _).alloc (Nat.le_refl _) _
  have hx4 : IntsO [1, 3, 2, 0] (some ⟨wa.heap.size, 0, none⟩) (wa.alloc (.cells #[.int .i64 1, .int .i64 3, .int .i64 2, .int .i64 0] 3)) := IntsO.of_blk (Blk.new wa _ _)
  have HIN2 := Lib.hid (HIN.out _ _ cb1 4 _ (hi1'.below hbb) hx4)
  have HBb := Lib.hid (HBa.out.trans (hbb.mono HBa.out.size))
  have HTb := Lib.hid (HTa.out.below hbb)
  have HUb := Lib.hid (HUa.out.below hbb)
  clear hba hcf hc1 hi1 hi1' hbb hx4 HT9 HRF9 HU9 HB9 HAH HTa HUa HBa HIN
  go_wp2_with fail
  refine HIN2.out.mono ?_
  rintro e wc ⟨rfl, hbc⟩
  have HBc := Lib.hid (HBb.out.trans (hbc.mono HBb.out.size))
  have HSA2 := Lib.hid (HSA.out _ _ 5 cu _ (HTb.out.below hbc) (HUb.out.below hbc))
  clear hbc HTb HUb HBb HIN2 HSA hc1'
  go_wp2_with fail
  refine HSA2.out.mono ?_
  rintro e wd ⟨rfl, hbd⟩
  go_wp2_with fail
  go_ret
  exact ⟨rfl, HBc.out.trans (hbd.mono HBc.out.size)⟩
end Go.Proofs.Ytooolhekihijlaa

/- TreeAhead, TreeOrder. Stage 14. -/
namespace Go.Proofs.Ytooolhekihijlaa
open Go.RowKit BS

set_option maxRecDepth 100000 in
set_option maxHeartbeats 16000000 in
theorem treeAhead_calls (a b : List EnN) (ha : a.length ≤ 9223372036854775807) (hb : b.length ≤ 9223372036854775807) (ad bd : Option Addr) (ca cb : Nat) (w : World) (h : EntsAt a ad w) (k : EntsAt b bd w) :
    Calls Try.prog 3 #[.slice ad a.length ca, .slice bd b.length cb] w fun e w' => e = .returned (.bool true) ∧ Below w.heap.size w w' := by
  have HSU := Lib.hid (fun (W : World) => sure14_calls W)
  have HE := Lib.hid h
  have HF := Lib.hid k
  clear h k
  by_cases h1 : 600 < a.length
  · have q1 : decide (600 < a.length) = true := decide_eq_true h1
    have q2 : decide ((600 : Int) < (a.length : Int)) = true := by rw [decide_eq_true_iff]; omega
    clear h1
    go_enter Try.func3, Try.ntmps3
    go_wp2_with fail
    refine (HSU.out _).mono ?_
    rintro e wz ⟨rfl, hb⟩
    go_wp2_with fail
    go_ret
    exact ⟨rfl, hb⟩
  have q1 : decide (600 < a.length) = false := decide_eq_false h1
  have q2 : decide ((600 : Int) < (a.length : Int)) = false := by rw [decide_eq_false_iff_not]; omega
  by_cases h2 : 600 < b.length
  · have r1 : decide (600 < b.length) = true := decide_eq_true h2
    have r2 : decide ((600 : Int) < (b.length : Int)) = true := by rw [decide_eq_true_iff]; omega
    clear h1 h2
    go_enter Try.func3, Try.ntmps3
    go_wp2_with fail
    refine (HSU.out _).mono ?_
    rintro e wz ⟨rfl, hb⟩
    go_wp2_with fail
    go_ret
    exact ⟨rfl, hb⟩
  have r1 : decide (600 < b.length) = false := decide_eq_false h2
  have r2 : decide ((600 : Int) < (b.length : Int)) = false := by rw [decide_eq_false_iff_not]; omega
  have H1 := Lib.hid (fun W h1 h2 => aheadD_calls a b (by omega) (by omega) ad bd ca cb W h1 h2)
  have H2 := Lib.hid (fun W h1 h2 => rAhead_calls a b (by omega) (by omega) ad bd ca cb W h1 h2)
  clear h1 h2
  generalize aheadT a b = X at *
  go_enter Try.func3, Try.ntmps3
  go_wp2_with fail
  refine (H1.out _ HE.out HF.out).mono ?_
  rintro e w1 ⟨rfl, hb1⟩
  have HB1 := Lib.hid hb1
  clear hb1
  go_wp2_with fail
  refine (H2.out _ (HE.out.below HB1.out) (HF.out.below HB1.out)).mono ?_
  rintro e w2 ⟨rfl, hb2⟩
  have HB2 := Lib.hid (HB1.out.trans (hb2.mono HB1.out.size))
  clear hb2
  go_wp2_with fail
  refine (HSU.out _).mono ?_
  rintro e w3 ⟨rfl, hb3⟩
  go_wp2_with fail
  go_ret
  exact ⟨rfl, HB2.out.trans (hb3.mono HB2.out.size)⟩
theorem orderCases (a b c : List EnN) : ∃ X Y Z : Int, aheadT a b = X ∧ aheadT b c = Y ∧ aheadT a c = Z ∧ aheadT b a = -X ∧ aheadT a a = 0 ∧ (X = 1 ∨ (X = 0 ∧ Y = Z) ∨ (X = -1 ∧ Y = -1 ∧ Z = -1) ∨ (X = -1 ∧ Y = 0) ∨ (X = -1 ∧ Y = 1)) := by
  obtain ⟨h1, h2, h3, h4, h5, h6⟩ := order_holds a b c
  refine ⟨_, _, _, rfl, rfl, rfl, by omega, h4, ?_⟩
  have rx := ahead_range a b
  have ry := ahead_range b c
  have rz := ahead_range a c
  rcases rx with rx | rx | rx
  · rcases ry with ry | ry | ry
    · exact .inr (.inr (.inl ⟨rx, ry, by have := h5 (by omega) (by omega); omega⟩))
    · exact .inr (.inr (.inr (.inl ⟨rx, ry⟩)))
    · exact .inr (.inr (.inr (.inr ⟨rx, ry⟩)))
  · exact .inr (.inl ⟨rx, h6 rx⟩)
  · exact .inl rx
set_option maxRecDepth 100000 in
set_option maxHeartbeats 32000000 in
theorem treeOrder_calls (a b c : List EnN) (ha : a.length ≤ 9223372036854775807) (hb : b.length ≤ 9223372036854775807) (hc : c.length ≤ 9223372036854775807) (ad bd cd : Option Addr) (ca cb cc : Nat) (w : World) (h : EntsAt a ad w) (k : EntsAt b bd w) (m : EntsAt c cd w) :
    Calls Try.prog 4 #[.slice ad a.length ca, .slice bd b.length cb, .slice cd c.length cc] w fun e w' => e = .returned (.bool true) ∧ Below w.heap.size w w' := by
  have HSU := Lib.hid (fun (W : World) => sure14_calls W)
  by_cases hl : a.length ≤ 200 ∧ b.length ≤ 200 ∧ c.length ≤ 200
  case neg =>
    have hcond : (decide (200 < a.length) = true ∧ decide ((200 : Int) < (a.length : Int)) = true) ∨ (decide (200 < a.length) = false ∧ decide ((200 : Int) < (a.length : Int)) = false ∧ decide (200 < b.length) = true ∧ decide ((200 : Int) < (b.length : Int)) = true) ∨ (decide (200 < a.length) = false ∧ decide ((200 : Int) < (a.length : Int)) = false ∧ decide (200 < b.length) = false ∧ decide ((200 : Int) < (b.length : Int)) = false ∧ decide (200 < c.length) = true ∧ decide ((200 : Int) < (c.length : Int)) = true) := by
      by_cases h1 : 200 < a.length
      · exact .inl ⟨decide_eq_true h1, by rw [decide_eq_true_iff]; omega⟩
      · by_cases h2 : 200 < b.length
        · exact .inr (.inl ⟨decide_eq_false h1, by rw [decide_eq_false_iff_not]; omega, decide_eq_true h2, by rw [decide_eq_true_iff]; omega⟩)
        · exact .inr (.inr ⟨decide_eq_false h1, by rw [decide_eq_false_iff_not]; omega, decide_eq_false h2, by rw [decide_eq_false_iff_not]; omega, by rw [decide_eq_true_iff]; omega, by rw [decide_eq_true_iff]; omega⟩)
    clear h k m hl
    rcases hcond with ⟨q1, q2⟩ | ⟨q1, q2, q3, q4⟩ | ⟨q1, q2, q3, q4, q5, q6⟩
    all_goals
      go_enter Try.func4, Try.ntmps4
      go_wp2_with fail
      refine (HSU.out _).mono ?_
      rintro e wz ⟨rfl, hb⟩
      go_wp2_with fail
      go_ret
      exact ⟨rfl, hb⟩
  case pos =>
    obtain ⟨l1, l2, l3⟩ := hl
    have q1 : decide (200 < a.length) = false := by rw [decide_eq_false_iff_not]; omega
    have q2 : decide ((200 : Int) < (a.length : Int)) = false := by rw [decide_eq_false_iff_not]; omega
    have q3 : decide (200 < b.length) = false := by rw [decide_eq_false_iff_not]; omega
    have q4 : decide ((200 : Int) < (b.length : Int)) = false := by rw [decide_eq_false_iff_not]; omega
    have q5 : decide (200 < c.length) = false := by rw [decide_eq_false_iff_not]; omega
    have q6 : decide ((200 : Int) < (c.length : Int)) = false := by rw [decide_eq_false_iff_not]; omega
    have H1 := aheadD_calls a b (by omega) (by omega) ad bd ca cb w h k
    have H2 := fun W (hW : Below w.heap.size w W) => aheadD_calls b c (by omega) (by omega) bd cd cb cc W (k.below hW) (m.below hW)
    have H3 := fun W (hW : Below w.heap.size w W) => aheadD_calls a c (by omega) (by omega) ad cd ca cc W (h.below hW) (m.below hW)
    have H4 := fun W (hW : Below w.heap.size w W) => aheadD_calls b a (by omega) (by omega) bd ad cb ca W (k.below hW) (h.below hW)
    have H5 := fun W (hW : Below w.heap.size w W) => aheadD_calls a a (by omega) (by omega) ad ad ca ca W (h.below hW) (h.below hW)
    obtain ⟨X, Y, Z, e1, e2, e3, e4, e5, hcase⟩ := orderCases a b c
    rw [e1] at H1
    rw [e2] at H2
    rw [e3] at H3
    rw [e4] at H4
    rw [e5] at H5
    have HH1 := Lib.hid H1
    have HH2 := Lib.hid H2
    have HH3 := Lib.hid H3
    have HH4 := Lib.hid H4
    have HH5 := Lib.hid H5
    clear H1 H2 H3 H4 H5 e1 e2 e3 e4 e5 h k m ha hb hc
    have wA := hcase
    clear hcase
    have HC := Lib.hid wA
    clear wA
    go_enter Try.func4, Try.ntmps4
    go_wp2_with fail
    refine HH1.out.mono ?_
    rintro e w1 ⟨rfl, hb1⟩
    have HB1 := Lib.hid hb1
    clear hb1
    go_wp2_with fail
    refine (HH2.out _ HB1.out).mono ?_
    rintro e w2 ⟨rfl, hb2⟩
    have HB2 := Lib.hid (HB1.out.trans (hb2.mono HB1.out.size))
    clear hb2 HB1
    go_wp2_with fail
    refine (HH3.out _ HB2.out).mono ?_
    rintro e w3 ⟨rfl, hb3⟩
    have HB3 := Lib.hid (HB2.out.trans (hb3.mono HB2.out.size))
    clear hb3 HB2
    go_wp2_with fail
    refine (HH4.out _ HB3.out).mono ?_
    rintro e w4 ⟨rfl, hb4⟩
    have HB4 := Lib.hid (HB3.out.trans (hb4.mono HB3.out.size))
    clear hb4 HB3
    rcases HC.out with rfl | ⟨rfl, rfl⟩ | ⟨rfl, rfl, rfl⟩ | ⟨rfl, rfl⟩ | ⟨rfl, rfl⟩
    all_goals
      clear HC HH1 HH2 HH3 HH4
      go_wp2_with fail
      refine (HH5.out _ HB4.out).mono ?_
      rintro e w5 ⟨rfl, hb5⟩
      have HB5 := Lib.hid (HB4.out.trans (hb5.mono HB4.out.size))
      clear hb5 HB4
      go_wp2_with fail
      refine (HSU.out _).mono ?_
      rintro e w6 ⟨rfl, hb6⟩
      go_wp2_with fail
      go_ret
      exact ⟨rfl, HB5.out.trans (hb6.mono HB5.out.size)⟩
end Go.Proofs.Ytooolhekihijlaa

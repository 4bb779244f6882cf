/- Texts put together: Tum Tun Tuo Tup Twa. -/
import Derived.Test.YtdpkhliojbeglaaDoorQAd
import Derived.Test.YtdpkhliojbeglaaDoorQY
import Derived.Test.YtdpkhliojbeglaaDoorQAe
import Derived.Test.YtdpkhliojbeglaaDoorQAa
import Derived.BigQuiet
import Derived.Lib.SlBytesConst
/- The developers' grow, best. Stage 15. -/
namespace Go.Proofs.YtdpkhliojbeglaaDoor
open Go.RowKit BS

/-- What grow does with nodes below k. -/
def GrowS (l : List NdN) (w : List Nat) (B lcp wcp : Nat) (la wa : Option Addr) (k : Nat) : Prop :=
  ∀ (q i j : Nat) (d : Int) (base : Nat) (v : Value) (T : List EnN) (W : World), q < k → q < l.length → canP l w q i j → 0 ≤ d → d + q ≤ 10000 → base ≤ W.heap.size → B < base → (∀ g o, l ≠ [] → la = some ⟨g, o, none⟩ → g < base) →
    T.length + (flF d (growB l w q i j)).length ≤ 1000000 → NodesAt l la W → RowD l.length B (stQ l w l.length) W → OwE base v T W →
    Calls Tryd.prog 51 #[.agg (chA l.length w.length B lcp wcp la wa), v, .agg (enI d (q : Nat) (i : Nat) (j : Nat))] W fun e W' => ∃ v', e = .returned v' ∧ OwE base v' (T ++ flF d (growB l w q i j)) W' ∧ KpA (fun k => v.ownBlock = some k) W W' ∧ (∀ k, v'.ownBlock = some k → v.ownBlock = some k ∨ W.heap.size ≤ k)
theorem flat_take {α β : Type} (g : α → List β) (R : List α) (x : Nat) (hx : x < R.length) : (R.take (x + 1)).flatMap g = (R.take x).flatMap g ++ g R[x] := by
  rw [List.take_succ_eq_append_getElem hx, List.flatMap_append]; simp
theorem flat_take_len {α β : Type} (g : α → List β) (R : List α) (x : Nat) (hx : x < R.length) : ((R.take x).flatMap g).length + (g R[x]).length ≤ (R.flatMap g).length := by
  have h : R.flatMap g = (R.take (x + 1)).flatMap g ++ (R.drop (x + 1)).flatMap g := by rw [← List.flatMap_append, List.take_append_drop]
  rw [h, flat_take g R x hx]
  simp
theorem flat_len {α β : Type} (g : α → List β) (hg : ∀ r, 1 ≤ (g r).length) : ∀ R : List α, R.length ≤ (R.flatMap g).length
  | [] => Nat.le_refl _
  | r :: R => by
    have h1 := hg r
    have h2 := flat_len g hg R
    rw [List.flatMap_cons, List.length_append, List.length_cons]; omega
theorem wpList_made {P : Program} {ops : Array Oper} {rest : List Oper} {o : Oper} {a : Act} {w w' : World} {v : Value} {Q : Exit → Act → World → Prop} (hgd : o.guard = none) (hr : (execOp a.eval o).run P w = .ok (.value v) w') (h : wpList P ops Q rest (a.put o.dst v) w') : wpList P ops Q (o :: rest) a w :=
  wpList_plain hgd fun _ hK => wp_made hr (hK _ _ h)
set_option maxRecDepth 100000 in
set_option maxHeartbeats 64000000 in
theorem grow_step (l : List NdN) (hr : rightT l = true) (hl : l.length ≤ 1000) (w : List Nat) (hw : w.length ≤ 64) (B lcp wcp : Nat) (la wa : Option Addr) (k : Nat) (ih : GrowS l w B lcp wcp la wa k) : GrowS l w B lcp wcp la wa (k + 1) := by
  intro q i j d base v T W hqk hq hcan hd hdq hbase hBb hla hlen hN hR hO
  have hP := parts_ok l hr
  have hok := (grow_is (w := w) hP q i j hq hcan).1.2.1
  have hgr := kids_gr l (canB l w) hP q hq i j
  have hfl := gr_flat l (canB l w) q (d + 1) _ hgr
  have hlt := gr_lt l (canB l w) q _ hgr
  have hcr := roots_can hok
  have eT : flF d (growB l w q i j) = (⟨d, q, i, j⟩ : EnN) :: flF (d + 1) (kidsG l (canB l w) (q + 1) q i j) := by unfold growB; simp [flF]
  rw [eT, hfl] at hlen
  rw [eT, hfl]
  have HKC := Lib.hid (fun W' h1 h2 => kidsC_calls l hr hl w hw B lcp wcp la wa q i j d ⟨hd, by omega⟩ hq hcan W' h1 h2)
  obtain ⟨R, hRR⟩ : ∃ R, rootsO (kidsG l (canB l w) (q + 1) q i j) = R := ⟨_, rfl⟩
  rw [hRR] at hlen HKC hlt hcr ⊢
  have hG : (fun r : Nat × Nat × Nat => flF (d + 1) (.cons r.1 r.2.1 r.2.2 (kidsG l (canB l w) (r.1 + 1) r.1 r.2.1 r.2.2) .nil)) = fun r => flF (d + 1) (growB l w r.1 r.2.1 r.2.2) := rfl
  rw [hG] at hlen ⊢
  have HLT := Lib.hid hlt
  have HCR := Lib.hid hcr
  have HLN := Lib.hid hlen
  have HLA := Lib.hid hla
  have hTl : T.length ≤ 1000000 := by simp only [List.length_cons] at hlen; omega
  have hRl : R.length ≤ 1000000 := by
    have h1 := flat_len (fun r : Nat × Nat × Nat => flF (d + 1) (growB l w r.1 r.2.1 r.2.2)) (fun r => by unfold growB; simp [flF]) R
    simp only [List.length_cons] at hlen; omega
  clear hfl hgr hok hRR hG eT hcr hlt hlen
  have HB := Lib.hid (show Below W.heap.size W ((W.alloc (.cells (chA l.length w.length B lcp wcp la wa) 64)).alloc (.cells (enI d (q : Nat) (i : Nat) (j : Nat)) 83)) by go_grown)
  have b0 := (Blk.new W (chA l.length w.length B lcp wcp la wa) 64).alloc (.cells (enI d (q : Nat) (i : Nat) (j : Nat)) 83)
  have b1 := Blk.new (W.alloc (.cells (chA l.length w.length B lcp wcp la wa) 64)) (enI d (q : Nat) (i : Nat) (j : Nat)) 83
  rw [World.size_alloc] at b1
  have hz : ((W.alloc (.cells (chA l.length w.length B lcp wcp la wa) 64)).alloc (.cells (enI d (q : Nat) (i : Nat) (j : Nat)) 83)).heap.size = W.heap.size + 1 + 1 := by simp only [World.size_alloc]
  have HO := Lib.hid (hO.below HB.out)
  have HR := Lib.hid (hR.below HB.out)
  have HN := Lib.hid (hN.below HB.out)
  have HVL := Lib.hid (show ∀ g, v.ownBlock = some g → base ≤ g ∧ g < W.heap.size from fun g hg => hO.lt hg)
  have hN0 := hN; have hR0 := hR
  clear hO hR hN
  go_enter Tryd.func51, Tryd.ntmps51
  go_upto_region 1 with fail
  generalize (W.alloc (.cells (chA l.length w.length B lcp wcp la wa) 64)).alloc (.cells (enI d (q : Nat) (i : Nat) (j : Nat)) 83) = w1 at *
  have e0 := b1.cell 0; have e1 := b1.cell 1; have e2 := b1.cell 2; have e3 := b1.cell 3
  simp only [List.getElem?_toArray, List.getElem?_cons_zero, List.getElem?_cons_succ] at e0 e1 e2 e3
  obtain ⟨va, vc, rfl⟩ := HO.out.form
  obtain ⟨gg, cap, W2, hrun, ho2, hgw, hat, hgl⟩ := push_ent HO.out (by omega) hTl d (q : Nat) (i : Nat) (j : Nat) 31
  rw [hz] at hrun
  have hk1 : KpA (fun k => (Value.slice va T.length vc).ownBlock = some k) W w1 := (KpA.refl _ W).below HB.out
  have hk2 : KpA (fun k => (Value.slice va T.length vc).ownBlock = some k) W W2 := (hk1.alloc (.cells (enI d (q : Nat) (i : Nat) (j : Nat)) 83)).grown hgw (fun k e => .inl e)
  have hAB : ∀ k, (Value.slice va T.length vc).ownBlock = some k → base ≤ k ∧ k < W.heap.size := HVL.out
  have HP02 := Lib.hid ((b0.alloc (.cells (enI d (q : Nat) (i : Nat) (j : Nat)) 83)).kept hgw (fun e => by have := (hAB _ e.symm).2; omega))
  have HP12 := Lib.hid ((b1.alloc (.cells (enI d (q : Nat) (i : Nat) (j : Nat)) 83)).kept hgw (fun e => by have := (hAB _ e.symm).2; omega))
  have hz2 : W.heap.size + 2 ≤ W2.heap.size := by have := hgw.size; rw [World.size_alloc] at this; omega
  have HW0 := Lib.hid (fun (W' : World) (h : KpA (fun k => (Value.slice va T.length vc).ownBlock = some k) W W') => (show NodesAt l la W' ∧ RowD l.length B (stQ l w l.length) W' from ⟨hN0.kpA h (fun g o hne e hk => by have := HLA.out g o hne e; have := (hAB g hk).1; omega), hR0.keep (h.block B hR0.lt (fun hk => by have := (hAB B hk).1; omega))⟩))
  have HK2 := Lib.hid hk2
  have HO2 := Lib.hid ho2
  have HAT := Lib.hid (show ∀ k, (Value.slice (some ⟨gg, 0, none⟩) (T.length + 1) cap).ownBlock = some k → (Value.slice va T.length vc).ownBlock = some k ∨ W.heap.size + 2 ≤ k from fun k hk => by
    have ek : k = gg := by simp only [Value.ownBlock, Option.some.injEq] at hk; exact hk.symm
    subst ek
    rcases hat with h | h
    · exact .inl h
    · exact .inr (by omega))
  have HAB := Lib.hid hAB
  obtain ⟨u0, u1, u2⟩ := blk3 HP02.out
  have f0 := HP12.out.cell 0; have f1 := HP12.out.cell 1; have f2 := HP12.out.cell 2; have f3 := HP12.out.cell 3
  simp only [List.getElem?_toArray, List.getElem?_cons_zero, List.getElem?_cons_succ] at f0 f1 f2 f3
  clear hk1 hk2 hgw hat ho2 hAB b0 b1 hN0 hR0
  go_wp2_with (at_builtin; refine wpList_made rfl (exec_appN rfl rfl rfl hrun) ?_)
  clear hrun e0 e1 e2 e3
  refine (HKC.out W2 (HW0.out W2 HK2.out).1 (HW0.out W2 HK2.out).2).mono ?_
  rintro e w3 ⟨vk, rfl, hok, hb3⟩
  have HK3 := Lib.hid (HK2.out.below hb3)
  have HP03 := Lib.hid (HP02.out.below hb3 (by omega))
  have HO3 := Lib.hid (HO2.out.below hb3)
  have hg3 := HO2.out.lt (g := gg) rfl
  obtain ⟨ka, kc, rfl⟩ := hok.form
  have hlR : (kidE (d + 1) R).length = R.length := by simp [kidE]
  rw [hlR] at hok
  have HOK := Lib.hid hok
  have HNE := Lib.hid (show ∀ k, (Value.slice (some ⟨gg, 0, none⟩) (T.length + 1) cap).ownBlock = some k → (Value.slice ka R.length kc).ownBlock ≠ some k from fun k h1 h2 => by
    have ek : k = gg := by simp only [Value.ownBlock, Option.some.injEq] at h1; exact h1.symm
    have := (hok.lt h2).1
    omega)
  have hz3 : W.heap.size + 2 ≤ w3.heap.size := Nat.le_trans hz2 hb3.size
  clear hok hb3 HKC
  rw [hlR]
  go_wp2_with fail
  go_loopw [1, 17] (fun v1 v17 wr => ∃ x : Nat, x ≤ R.length ∧ v17 = .int .i64 x ∧ OwE base v1 (T ++ (⟨d, q, i, j⟩ : EnN) :: (R.take x).flatMap fun r => flF (d + 1) (growB l w r.1 r.2.1 r.2.2)) wr ∧ OwE W2.heap.size (.slice ka R.length kc) (kidE (d + 1) R) wr ∧
      KpA (fun k => (Value.slice va T.length vc).ownBlock = some k) W wr ∧ (∀ k, v1.ownBlock = some k → (Value.slice va T.length vc).ownBlock = some k ∨ W.heap.size + 2 ≤ k) ∧ (∀ k, v1.ownBlock = some k → (Value.slice ka R.length kc).ownBlock ≠ some k) ∧
      Blk wr W.heap.size (chA l.length w.length B lcp wcp la wa) 64 ∧ W.heap.size + 2 ≤ wr.heap.size) (fun _ v17 _ => R.length - (intOf v17).toNat)
  case atStart =>
    exact ⟨0, Nat.zero_le _, rfl, HO3.out, HOK.out, HK3.out, HAT.out, HNE.out, HP03.out, hz3⟩
  case round =>
    obtain ⟨V, hV⟩ : ∃ V, u1 = V := ⟨_, rfl⟩
    rw [hV] at hrel ⊢
    clear hV
    obtain ⟨x, hx, rfl, ho, hok, hK, hat, hne, hP0, hzr⟩ := hrel
    have HOr := Lib.hid ho
    have HOKr := Lib.hid hok
    have HKr := Lib.hid hK
    have HATr := Lib.hid hat
    have HNEr := Lib.hid hne
    have HPr := Lib.hid hP0
    clear ho hok hK hat hne hP0 HO3 HOK HK3 HAT HNE HP03
    by_cases hlt : x < R.length
    · have p2 : decide (x < R.length) = true := decide_eq_true hlt
      have p4 : (x : Int) < (R.length : Int) := by omega
      have xi : IntKind.i64.wrap ((x : Int) + 1) = (x : Int) + 1 := IntWalk.i64_in _ (by omega)
      have hrx : R[x] ∈ R := List.getElem_mem hlt
      have hpk := HLT.out _ hrx
      have hpc := HCR.out _ hrx
      have hft := flat_take (fun r : Nat × Nat × Nat => flF (d + 1) (growB l w r.1 r.2.1 r.2.2)) R x hlt
      have hfl := flat_take_len (fun r : Nat × Nat × Nat => flF (d + 1) (growB l w r.1 r.2.1 r.2.2)) R x hlt
      have hke : (kidE (d + 1) R)[x]'(by rw [hlR]; exact hlt) = ⟨d + 1, R[x].1, R[x].2.1, R[x].2.2⟩ := by simp [kidE]
      obtain ⟨gk, ok, rfl, hgk, hcell⟩ := HOKr.out.ents (by intro h0; rw [h0] at hlR; simp only [List.length_nil] at hlR; omega)
      have cc := fun (y : Nat) (hy : y < 4) => hcell x (by rw [hlR]; exact hlt) y hy
      rw [hke] at cc
      have c0 := cc 0 (by decide); have c1 := cc 1 (by decide); have c2 := cc 2 (by decide); have c3 := cc 3 (by decide)
      simp only [enA, enI, List.getElem?_toArray, List.getElem?_cons_zero, List.getElem?_cons_succ, Nat.add_zero] at c0 c1 c2 c3
      obtain ⟨⟨p, f, m⟩, hpfm⟩ : ∃ y, R[x] = y := ⟨_, rfl⟩
      rw [hpfm] at hpk hpc hft hfl c1 c2 c3
      simp only at hpk hpc hft hfl c1 c2 c3
      have HFT := Lib.hid hft
      obtain ⟨y0, y1, y2⟩ := blk3 HPr.out
      have hs1 : W.heap.size < wr.heap.size := by omega
      have hb8 : Below wr.heap.size wr (wr.alloc (.cells (enI (d + 1) (p : Nat) (f : Nat) (m : Nat)) 83)) := by go_grown
      have HK8 := Lib.hid (HKr.out.below hb8)
      have hln := HLN.out
      have hlen8 : (T ++ (⟨d, q, i, j⟩ : EnN) :: (R.take x).flatMap fun r => flF (d + 1) (growB l w r.1 r.2.1 r.2.2)).length + (flF (d + 1) (growB l w p f m)).length ≤ 1000000 := by
        simp only [List.length_append, List.length_cons] at hln ⊢
        omega
      have hq2 := HW0.out _ HK8.out
      have HIH := Lib.hid (ih p f m (d + 1) base V _ _ (by omega) (by omega) hpc (by omega) (by omega) (by rw [World.size_alloc]; omega) hBb HLA.out hlen8 hq2.1 hq2.2 (HOr.out.below hb8))
      have HO8 := Lib.hid (HOKr.out.below hb8)
      have HP8 := Lib.hid (HPr.out.below hb8 (by omega))
      have hz8 : (wr.alloc (.cells (enI (d + 1) (p : Nat) (f : Nat) (m : Nat)) 83)).heap.size = wr.heap.size + 1 := World.size_alloc ..
      have HVR := Lib.hid (show ∀ k, V.ownBlock = some k → k < wr.heap.size from fun k hk => (HOr.out.lt hk).2)
      clear cc hcell hke hft hfl hpfm hrx hq2 hb8 hlen8 hln hpk hpc
      go_wp2_with fail
      refine HIH.out.mono ?_
      rintro e w5 ⟨v5, rfl, ho5, hk5, ha5⟩
      have hne5 : ∀ k, v5.ownBlock = some k → (Value.slice (some ⟨gk, ok, none⟩) R.length kc).ownBlock ≠ some k := fun k h1 h2 => by
        rcases ha5 k h1 with h3 | h3
        · exact HNEr.out k h3 h2
        · have := (HOKr.out.lt h2).2; omega
      have hat5 : ∀ k, v5.ownBlock = some k → (Value.slice va T.length vc).ownBlock = some k ∨ W.heap.size + 2 ≤ k := fun k h1 => by
        rcases ha5 k h1 with h3 | h3
        · exact HATr.out k h3
        · exact .inr (by omega)
      have hK5 : KpA (fun k => (Value.slice va T.length vc).ownBlock = some k) W w5 := kp_chain HK8.out hk5 (fun k hk => (HATr.out k hk).imp id (fun h => by omega))
      have hok5 : OwE W2.heap.size (.slice (some ⟨gk, ok, none⟩) R.length kc) (kidE (d + 1) R) w5 := HO8.out.keep fun g hg => hk5.block g (by have := (HO8.out.lt hg).2; omega) (fun h => HNEr.out g h hg)
      have hP5 : Blk w5 W.heap.size (chA l.length w.length B lcp wcp la wa) 64 := HP8.out.kpA hk5 (fun h => by
        rcases HATr.out _ h with h3 | h3
        · have := (HVL.out _ h3).2; omega
        · omega)
      have hz5 : W.heap.size + 2 ≤ w5.heap.size := Nat.le_trans (by omega) hk5.size
      have ho6 : OwE base v5 (T ++ (⟨d, q, i, j⟩ : EnN) :: (R.take (x + 1)).flatMap fun r => flF (d + 1) (growB l w r.1 r.2.1 r.2.2)) w5 := by
        rw [HFT.out, ← List.cons_append, ← List.append_assoc]; exact ho5
      have H5 := Lib.hid (And.intro ho6 (And.intro hok5 (And.intro hK5 (And.intro hat5 (And.intro hne5 (And.intro hP5 hz5))))))
      clear hne5 hat5 hK5 hok5 hP5 hz5 ho6 ho5 hk5 ha5
      go_wp2_with fail
      go_roundw
      case rel => exact ⟨x + 1, by omega, rfl, H5.out⟩
      case measure => simp [intOf]; omega
    · obtain rfl : x = R.length := by omega
      rw [List.take_length] at HOr
      go_wp2_with fail
      go_ret
      exact ⟨_, rfl, HOr.out, HKr.out, fun k hk => (HATr.out k hk).imp id (fun h => by omega)⟩
end Go.Proofs.YtdpkhliojbeglaaDoor

/- The developers' best. Stage 15. -/
namespace Go.Proofs.YtdpkhliojbeglaaDoor
open Go.RowKit BS

theorem grow_all (l : List NdN) (hr : rightT l = true) (hl : l.length ≤ 1000) (w : List Nat) (hw : w.length ≤ 64) (B lcp wcp : Nat) (la wa : Option Addr) : ∀ k, GrowS l w B lcp wcp la wa k
  | 0 => fun _ _ _ _ _ _ _ _ h => absurd h (by omega)
  | k + 1 => grow_step l hr hl w hw B lcp wcp la wa k (grow_all l hr hl w hw B lcp wcp la wa k)
theorem wp_callX {P : Program} {o : Oper} {a : Act} {w : World} {f : FuncId} {args : Array Value} {R : Value → World → Prop} {K : Act → World → Prop} {Q : Exit → Act → World → Prop} (h : (execOp a.eval o).run P w = .ok (.enter f args) w)
    (hc : Calls P f args w fun e w' => ∃ v, e = .returned v ∧ R v w') (hK : ∀ v w', R v w' → K (a.put o.dst v) w') : o.wp P a w K Q := by
  unfold Oper.wp
  rw [h]
  refine Calls.mono hc fun e w' he => ?_
  obtain ⟨v, rfl, hR⟩ := he
  exact hK v w' hR
set_option maxRecDepth 100000 in
set_option maxHeartbeats 16000000 in
theorem best_ch (l : List NdN) (hr : rightT l = true) (hl : l.length ≤ 1000) (w : List Nat) (hw : w.length ≤ 64) (B lcp wcp : Nat) (la wa : Option Addr) (i j : Nat) (hcan : canP l w (l.length - 1) i j) (W : World) (hN : NodesAt l la W) (hR : RowD l.length B (stQ l w l.length) W) :
    Calls Tryd.prog 31 #[.agg (chA l.length w.length B lcp wcp la wa), .agg #[.int .i64 (i : Nat), .int .i64 (j : Nat)]] W fun e W' => ∃ v, e = .returned v ∧ OwE W.heap.size v (flF 1 (growB l w (l.length - 1) i j)) W' ∧ Below W.heap.size W W' := by
  have h0 : 0 < l.length := (rightT_q l hr).pos
  have hlen : (flF 1 (growB l w (l.length - 1) i j)).length ≤ 100000 := by
    have h1 := grow_bound (w := w) hr (l.length - 1) i j 1 (by omega) hcan
    have h2 : l.length * max 1 w.length ≤ 1000 * 64 := Nat.mul_le_mul hl (by omega)
    omega
  obtain ⟨q, hq⟩ : ∃ q, l.length - 1 = q := ⟨_, rfl⟩
  rw [hq] at hcan hlen ⊢
  have HB := Lib.hid (show Below W.heap.size W ((W.alloc (.cells (chA l.length w.length B lcp wcp la wa) 64)).alloc (.cells #[.int .i64 (i : Nat), .int .i64 (j : Nat)] 25)) by go_grown)
  have b0 := (Blk.new W (chA l.length w.length B lcp wcp la wa) 64).alloc (.cells #[.int .i64 (i : Nat), .int .i64 (j : Nat)] 25)
  have b1 := Blk.new (W.alloc (.cells (chA l.length w.length B lcp wcp la wa) 64)) #[.int .i64 (i : Nat), .int .i64 (j : Nat)] 25
  rw [World.size_alloc] at b1
  have hz : ((W.alloc (.cells (chA l.length w.length B lcp wcp la wa) 64)).alloc (.cells #[.int .i64 (i : Nat), .int .i64 (j : Nat)] 25)).heap.size = W.heap.size + 2 := by simp only [World.size_alloc]
  have hcast : ((q : Nat) : Int) = (l.length : Int) - 1 := by omega
  have HRT0 := Lib.hid (fun W => root_calls l.length w.length B lcp wcp la wa hl W)
  rw [← hcast] at HRT0
  have HP0 := Lib.hid b0
  have HP1 := Lib.hid b1
  have HR := Lib.hid (hR.below HB.out)
  have HN := Lib.hid (hN.below HB.out)
  have hBW := hR.lt
  have HLA := Lib.hid (show ∀ g o, l ≠ [] → la = some ⟨g, o, none⟩ → g < W.heap.size from fun g o hne e => by
    obtain ⟨g', o', e', h1, _⟩ := hN hne; rw [e] at e'; cases e'; exact h1)
  clear b0 b1 hR hN hcast
  go_enter Tryd.func31, Tryd.ntmps31
  go_upto_region 1 with fail
  generalize (W.alloc (.cells (chA l.length w.length B lcp wcp la wa) 64)).alloc (.cells #[.int .i64 (i : Nat), .int .i64 (j : Nat)] 25) = w1 at *
  have HFA := Lib.hid (show ∀ W', Below w1.heap.size w1 W' → (W'.cell? ⟨W.heap.size, 0, none⟩ = some (.slice la l.length lcp) ∧ W'.cell? ⟨W.heap.size, 1, none⟩ = some (.slice wa w.length wcp) ∧ W'.cell? ⟨W.heap.size, 2, none⟩ = some (.slice (some ⟨B, 0, none⟩) l.length l.length)) ∧
      W'.cell? ⟨W.heap.size + 1, 0, none⟩ = some (.int .i64 (i : Nat)) ∧ W'.cell? ⟨W.heap.size + 1, 1, none⟩ = some (.int .i64 (j : Nat)) from fun W' hW => by
    have g1 := HP1.out.below hW (by omega)
    exact ⟨blk3 (HP0.out.below hW (by omega)), g1.cell 0, g1.cell 1⟩)
  have HRT := Lib.hid (fun (W' : World) (_ : Below w1.heap.size w1 W') => HRT0.out W')
  have HGR := Lib.hid (fun (W' : World) (hS : Below w1.heap.size w1 W') => grow_all l hr hl w hw B lcp wcp la wa l.length q i j 1 W.heap.size (.slice none 0 0) [] W' (by omega) (by omega) hcan (by omega) (by omega) (by have := hS.size; omega) hBW HLA.out (by simp only [List.length_nil]; omega) (HN.out.below hS) (HR.out.below hS) (OwE.nil _ _))
  clear HRT0 h0
  refine region_stepsRT (S := fun W' => Below w1.heap.size w1 W') (U := ULc (fun q' => match q' with | 0 => .agg (chA l.length w.length B lcp wcp la wa) | 1 => .agg (chA l.length w.length B lcp wcp la wa) | 2 => .int .i64 (q : Nat) | 3 => .pointer (some ⟨W.heap.size + 1, 0, none⟩) | 4 => .int .i64 (i : Nat) | 5 => .pointer (some ⟨W.heap.size + 1, 1, none⟩) | 6 => .int .i64 (j : Nat) | 7 => .agg (enI 1 (q : Nat) (i : Nat) (j : Nat)) | _ => undef)) (V := fun _ _ _ => True) (m := 8) (n := 8) (r := 2) rfl (by kernel_rfl) (fun _ _ hb hs => hs.trans (hb.mono hs.size)) (fun _ _ _ _ _ _ => trivial) (by kernel_rfl) ((Below.refl _ _).drew) ?_
  simp only [List.size_toArray, List.length_cons, List.length_nil, Nat.reduceAdd, Array.replicate_succ, Array.replicate_zero, List.push_toArray, List.nil_append, List.cons_append]
  refine AnyRT.step (m := 8) (i := 0) (d := some 5) [0] rfl rfl (by kernel_rfl) (by kernel_rfl) (by kernel_rfl) (by kernel_rfl) (by kernel_rfl) ?_ ?_ ?_
  · exact ⟨_, rfl⟩
  · refine StepsR.yield (.agg (chA l.length w.length B lcp wcp la wa)) rfl (by kernel_rfl) (fun w' hS hD => ⟨?_, trivial⟩)
    obtain ⟨⟨u0, u1, u2⟩, e0, e1⟩ := HFA.out w' hS; clear hS hD; go_simp
    try rfl
  intro v' hv' a' ha'
  have hv' : .agg (chA l.length w.length B lcp wcp la wa) = v' := Eq.symm hv'
  subst hv'
  simp only [Act.put, List.setIfInBounds_toArray, List.set_cons_zero, List.set_cons_succ] at ha'
  subst ha'
  refine AnyRT.step (m := 8) (i := 1) (d := some 6) [7, 2, 1] rfl rfl (by kernel_rfl) (by kernel_rfl) (by kernel_rfl) (by kernel_rfl) (by kernel_rfl) ?_ ?_ ?_
  · exact ⟨_, rfl⟩
  · refine StepsR.yield (.agg (chA l.length w.length B lcp wcp la wa)) rfl (by kernel_rfl) (fun w' hS hD => ⟨?_, trivial⟩)
    obtain ⟨⟨u0, u1, u2⟩, e0, e1⟩ := HFA.out w' hS; clear hS hD; go_simp
    try rfl
  intro v' hv' a' ha'
  have hv' : .agg (chA l.length w.length B lcp wcp la wa) = v' := Eq.symm hv'
  subst hv'
  simp only [Act.put, List.setIfInBounds_toArray, List.set_cons_zero, List.set_cons_succ] at ha'
  subst ha'
  refine AnyRT.step (m := 8) (i := 2) (d := some 7) [7, 2] rfl rfl (by kernel_rfl) (by kernel_rfl) (by kernel_rfl) (by kernel_rfl) (by kernel_rfl) ?_ ?_ ?_
  · exact ⟨_, rfl⟩
  · refine StepsR.call (by kernel_rfl) (fun w' hS => by clear hS; go_simp) (fun w' hS hD => (HRT.out w' hS).mono ?_)
    rintro e w'' ⟨rfl, hb⟩
    exact ⟨_, rfl, rfl, trivial, hb⟩
  intro v' hv' a' ha'
  have hv' : .int .i64 (q : Nat) = v' := Eq.symm hv'
  subst hv'
  simp only [Act.put, List.setIfInBounds_toArray, List.set_cons_zero, List.set_cons_succ] at ha'
  subst ha'
  refine AnyRT.step (m := 8) (i := 3) (d := some 8) [7, 4, 3] rfl rfl (by kernel_rfl) (by kernel_rfl) (by kernel_rfl) (by kernel_rfl) (by kernel_rfl) ?_ ?_ ?_
  · exact ⟨_, rfl⟩
  · refine StepsR.yield (.pointer (some ⟨W.heap.size + 1, 0, none⟩)) rfl (by kernel_rfl) (fun w' hS hD => ⟨?_, trivial⟩)
    clear hS hD; go_simp
    try rfl
  intro v' hv' a' ha'
  have hv' : .pointer (some ⟨W.heap.size + 1, 0, none⟩) = v' := Eq.symm hv'
  subst hv'
  simp only [Act.put, List.setIfInBounds_toArray, List.set_cons_zero, List.set_cons_succ] at ha'
  subst ha'
  refine AnyRT.step (m := 8) (i := 4) (d := some 9) [7, 4] rfl rfl (by kernel_rfl) (by kernel_rfl) (by kernel_rfl) (by kernel_rfl) (by kernel_rfl) ?_ ?_ ?_
  · exact ⟨_, rfl⟩
  · refine StepsR.yield (.int .i64 (i : Nat)) rfl (by kernel_rfl) (fun w' hS hD => ⟨?_, trivial⟩)
    obtain ⟨⟨u0, u1, u2⟩, e0, e1⟩ := HFA.out w' hS; clear hS hD; go_simp
    try rfl
  intro v' hv' a' ha'
  have hv' : .int .i64 (i : Nat) = v' := Eq.symm hv'
  subst hv'
  simp only [Act.put, List.setIfInBounds_toArray, List.set_cons_zero, List.set_cons_succ] at ha'
  subst ha'
  refine AnyRT.step (m := 8) (i := 5) (d := some 10) [7, 6, 5] rfl rfl (by kernel_rfl) (by kernel_rfl) (by kernel_rfl) (by kernel_rfl) (by kernel_rfl) ?_ ?_ ?_
  · exact ⟨_, rfl⟩
  · refine StepsR.yield (.pointer (some ⟨W.heap.size + 1, 1, none⟩)) rfl (by kernel_rfl) (fun w' hS hD => ⟨?_, trivial⟩)
    clear hS hD; go_simp
    try rfl
  intro v' hv' a' ha'
  have hv' : .pointer (some ⟨W.heap.size + 1, 1, none⟩) = v' := Eq.symm hv'
  subst hv'
  simp only [Act.put, List.setIfInBounds_toArray, List.set_cons_zero, List.set_cons_succ] at ha'
  subst ha'
  refine AnyRT.step (m := 8) (i := 6) (d := some 11) [7, 6] rfl rfl (by kernel_rfl) (by kernel_rfl) (by kernel_rfl) (by kernel_rfl) (by kernel_rfl) ?_ ?_ ?_
  · exact ⟨_, rfl⟩
  · refine StepsR.yield (.int .i64 (j : Nat)) rfl (by kernel_rfl) (fun w' hS hD => ⟨?_, trivial⟩)
    obtain ⟨⟨u0, u1, u2⟩, e0, e1⟩ := HFA.out w' hS; clear hS hD; go_simp
    try rfl
  intro v' hv' a' ha'
  have hv' : .int .i64 (j : Nat) = v' := Eq.symm hv'
  subst hv'
  simp only [Act.put, List.setIfInBounds_toArray, List.set_cons_zero, List.set_cons_succ] at ha'
  subst ha'
  refine AnyRT.step (m := 8) (i := 7) (d := some 12) [7] rfl rfl (by kernel_rfl) (by kernel_rfl) (by kernel_rfl) (by kernel_rfl) (by kernel_rfl) ?_ ?_ ?_
  · exact ⟨_, rfl⟩
  · refine StepsR.yield (.agg (enI 1 (q : Nat) (i : Nat) (j : Nat))) rfl (by kernel_rfl) (fun w' hS hD => ⟨?_, trivial⟩)
    clear hS hD; go_simp
    try rfl
  intro v' hv' a' ha'
  have hv' : .agg (enI 1 (q : Nat) (i : Nat) (j : Nat)) = v' := Eq.symm hv'
  subst hv'
  simp only [Act.put, List.setIfInBounds_toArray, List.set_cons_zero, List.set_cons_succ] at ha'
  subst ha'
  refine AnyRT.last (by kernel_rfl) (fun w9 hS hF => ?_)
  clear hF
  have HB9 := Lib.hid (HB.out.trans (hS.mono (by omega)))
  refine wpAny_one (i := 8) (o := ⟨some 13, _, _, _, _, _⟩) (by kernel_rfl) rfl (by kernel_rfl) ?_
  refine wp_callX (o := ⟨some 13, _, _, _, _, _⟩) (by go_simp) (HGR.out w9 hS) ?_
  rintro v' wq ⟨ho, hk, _⟩
  have HO := Lib.hid ho
  have HBB := Lib.hid (HB9.out.trans ((hk.toBelow (n := W.heap.size) HB9.out.size (fun k hk => by cases hk))))
  clear ho hk hS
  refine wpAny_one (i := 9) (o := ⟨some 4, .assign (.tmp 13), _, _, _, _⟩) (by kernel_rfl) rfl (by kernel_rfl) ?_
  show wpAny Tryd.prog _ _ _ 0 _ (Act.put _ (some 4) v') wq
  refine wpAny_none (P := Tryd.prog) (by kernel_rfl) ?_
  simp only [Act.put, List.setIfInBounds_toArray, List.set_cons_zero, List.set_cons_succ]
  go_wp2_with fail
  go_ret
  exact ⟨_, rfl, HO.out, HBB.out⟩
end Go.Proofs.YtdpkhliojbeglaaDoor

/- The developers' Tree, Can, Match, Find. Stage 15. -/
namespace Go.Proofs.YtdpkhliojbeglaaDoor
open Go.RowKit BS

/-! ### What is answered, plainly -/
def treeV (l : List NdN) (w : List Nat) : List EnN × Int := if rightT l = false then ([], 11) else if 64 < w.length then ([], 12) else match leastT l w with
  | some t => (t, 0)
  | none => ([], 7)
def canV (l : List NdN) (w : List Nat) (q F T : Int) : Bool × Int := if rightT l = false then (false, 11) else if 64 < w.length then (false, 12) else
  if decide (0 ≤ q ∧ q < l.length ∧ 0 ≤ F ∧ F ≤ T ∧ T ≤ w.length) = true then (canB l w q.toNat F.toNat T.toNat, 0) else (false, 1)
def matchV (l : List NdN) (w : List Nat) : List (Int × Int) × Int := if (treeV l w).2 ≠ 0 then ([], (treeV l w).2) else (spansT l (treeV l w).1, 0)
def fndM (l : List NdN) (w : List Nat) : Option (Nat × Nat) → List (Int × Int) × Int
  | some (a, b) => (spansT l (flF 1 (growB l w (l.length - 1) a b)), 0)
  | none => ([], 7)
def foundV (l : List NdN) (w : List Nat) : List (Int × Int) × Int := if rightT l = false then ([], 11) else if 64 < w.length then ([], 12) else fndM l w (findT l w)
theorem treeV_1 {l : List NdN} {w : List Nat} (h : rightT l = false) : treeV l w = ([], 11) := by unfold treeV; rw [if_pos h]
theorem treeV_2 {l : List NdN} {w : List Nat} (h : rightT l = true) (h2 : 64 < w.length) : treeV l w = ([], 12) := by unfold treeV; rw [if_neg (by rw [h]; simp), if_pos h2]
theorem treeV_3 {l : List NdN} {w : List Nat} (h : rightT l = true) (h2 : ¬ 64 < w.length) : treeV l w = if canB l w (l.length - 1) 0 w.length = true then (flF 1 (growB l w (l.length - 1) 0 w.length), 0) else ([], 7) := by
  unfold treeV leastT
  rw [if_neg (by rw [h]; simp), if_neg h2]
  by_cases hc : canB l w (l.length - 1) 0 w.length = true
  · rw [if_pos hc, if_pos hc]
  · rw [if_neg hc, if_neg hc]
theorem canV_1 {l : List NdN} {w : List Nat} {q F T : Int} (h : rightT l = false) : canV l w q F T = (false, 11) := by unfold canV; rw [if_pos h]
theorem canV_2 {l : List NdN} {w : List Nat} {q F T : Int} (h : rightT l = true) (h2 : 64 < w.length) : canV l w q F T = (false, 12) := by unfold canV; rw [if_neg (by rw [h]; simp), if_pos h2]
theorem canV_3 {l : List NdN} {w : List Nat} {q F T : Int} (h : rightT l = true) (h2 : ¬ 64 < w.length) : canV l w q F T = if decide (0 ≤ q ∧ q < l.length ∧ 0 ≤ F ∧ F ≤ T ∧ T ≤ w.length) = true then (canB l w q.toNat F.toNat T.toNat, 0) else (false, 1) := by
  unfold canV; rw [if_neg (by rw [h]; simp), if_neg h2]
theorem foundV_1 {l : List NdN} {w : List Nat} (h : rightT l = false) : foundV l w = ([], 11) := by unfold foundV; rw [if_pos h]
theorem foundV_2 {l : List NdN} {w : List Nat} (h : rightT l = true) (h2 : 64 < w.length) : foundV l w = ([], 12) := by unfold foundV; rw [if_neg (by rw [h]; simp), if_pos h2]
theorem foundV_3 {l : List NdN} {w : List Nat} (h : rightT l = true) (h2 : ¬ 64 < w.length) : foundV l w = fndM l w (findT l w) := by
  unfold foundV; rw [if_neg (by rw [h]; simp), if_neg h2]
/-! ### By walks -/
set_option maxRecDepth 100000 in
set_option maxHeartbeats 16000000 in
theorem treeL_calls (l : List NdN) (hl : l.length ≤ 1000) (w : List Nat) (hwn : w.length ≤ 1000000) (hw8 : ∀ x ∈ w, x < 256) (lcp wcp : Nat) (la wa : Option Addr) (W : World) (hN : NodesAt l la W) (hT : BtsAt w wa W) (hTab : Tab W) (hg : 0 < W.heap.size) :
    Calls Tryd.prog 11 #[.slice la l.length lcp, .slice wa w.length wcp] W fun e W' => ∃ v, e = .returned (.tuple #[v, .int .i64 (treeV l w).2]) ∧ OwE W.heap.size v (treeV l w).1 W' ∧ Below W.heap.size W W' := by
  have HCO := Lib.hid (chartOf_calls l hl w hwn hw8 lcp wcp la wa W hN hT hTab hg)
  have HN := Lib.hid hN
  clear hN hT hTab hw8
  unfold ChR at HCO
  cases hr : rightT l
  · rw [treeV_1 hr]
    simp only [hr, if_true] at HCO
    go_enter Tryd.func11, Tryd.ntmps11
    go_wp2_with fail
    refine HCO.out.mono ?_
    rintro e w2 ⟨rfl, hb2⟩
    have HB2 := Lib.hid (hb2.alloc hb2.size (.cells chZ 64))
    clear hb2
    go_wp2_with fail
    go_ret2
    exact ⟨_, rfl, OwE.nil _ _, HB2.out⟩
  · by_cases hlen : 64 < w.length
    · rw [treeV_2 hr hlen]
      simp only [hr, hlen, if_true, Bool.true_eq_false, if_false] at HCO
      go_enter Tryd.func11, Tryd.ntmps11
      go_wp2_with fail
      refine HCO.out.mono ?_
      rintro e w2 ⟨rfl, hb2⟩
      have HB2 := Lib.hid (hb2.alloc hb2.size (.cells chZ 64))
      clear hb2
      go_wp2_with fail
      go_ret2
      exact ⟨_, rfl, OwE.nil _ _, HB2.out⟩
    · have h0 : 0 < l.length := (rightT_q l hr).pos
      have hP := parts_ok l hr
      have hci := can_iff (w := w) hP (l.length - 1) 0 w.length (by omega) (Nat.zero_le _) (Nat.le_refl _)
      rw [treeV_3 hr hlen]
      simp only [hr, hlen, Bool.true_eq_false, if_false] at HCO
      obtain ⟨q, hq⟩ : ∃ q, l.length - 1 = q := ⟨_, rfl⟩
      have HBE := Lib.hid (fun B (hcan : canP l w (l.length - 1) 0 w.length) W' h1 h2 => show Calls Tryd.prog 31 #[.agg (chA l.length w.length B lcp wcp la wa), .agg #[.int .i64 0, .int .i64 (w.length : Nat)]] W' _ from best_ch l hr hl w (by omega) B lcp wcp la wa 0 w.length hcan W' h1 h2)
      rw [hq] at hci HBE ⊢
      obtain ⟨z, hz⟩ : ∃ z, canB l w q 0 w.length = z := ⟨_, rfl⟩
      rw [hz] at hci ⊢
      have HCI := Lib.hid hci
      obtain ⟨TV, hTV⟩ : ∃ TV : List EnN × Int, (if z = true then (flF 1 (growB l w q 0 w.length), 0) else ([], 7)) = TV := ⟨_, rfl⟩
      rw [hTV]
      have HTV := Lib.hid hTV
      clear hci hTV
      go_enter Tryd.func11, Tryd.ntmps11
      go_wp2_with fail
      refine HCO.out.mono ?_
      rintro e w2 ⟨⟨B, hBW, rfl, hr2⟩, hb2⟩
      have HN2 := Lib.hid (HN.out.below hb2)
      have HB2 := Lib.hid hb2
      have HR2 := Lib.hid hr2
      have hw2 := hb2.size
      clear hb2 hr2
      go_upto_region 2 with fail
      have HC3 := Lib.hid (Blk.new w2 (chA l.length w.length B lcp wcp la wa) 64)
      have hb3 : Below w2.heap.size w2 (w2.alloc (.cells (chA l.length w.length B lcp wcp la wa) 64)) := by go_grown
      have hz3 : (w2.alloc (.cells (chA l.length w.length B lcp wcp la wa) 64)).heap.size = w2.heap.size + 1 := World.size_alloc ..
      have HB3 := Lib.hid (HB2.out.trans (hb3.mono hw2))
      have HN3 := Lib.hid (HN2.out.below hb3)
      have HR3 := Lib.hid (HR2.out.below hb3)
      clear hb3 HB2 HN2 HR2
      generalize w2.alloc (.cells (chA l.length w.length B lcp wcp la wa) 64) = w3 at *
      have hcast : ((q : Nat) : Int) = (l.length : Int) - 1 := by omega
      have HRT := Lib.hid (fun W => root_calls l.length w.length B lcp wcp la wa hl W)
      rw [← hcast] at HRT
      have HCN := Lib.hid (fun (W' : World) (hS : Below w3.heap.size w3 W') => show Calls Tryd.prog 29 #[.agg (chA l.length w.length B lcp wcp la wa), .int .i64 (q : Nat), .int .i64 0, .int .i64 (w.length : Nat)] W' (fun e w' => e = .returned (.bool z) ∧ Below W'.heap.size W' w') from by
        have h := canC_calls l.length w.length B lcp wcp q 0 w.length la wa (stQ l w l.length) (by omega) (by omega) (by omega) W' (HR3.out.below hS)
        rw [can_all l w (by omega) q 0 w.length (by omega) (by omega) (Nat.le_refl _), hz] at h
        exact h)
      clear hcast hz
      go_upto_region 4 with fail
      refine region_steps (S := fun w' => Below w3.heap.size w3 w') (by kernel_rfl) ((Below.refl _ _).drew) ?_
      simp only [List.size_toArray, List.length_cons, List.length_nil, Nat.reduceAdd, Array.replicate_succ, Array.replicate_zero, List.push_toArray, List.nil_append, List.cons_append]
      refine AnyS.next (i := 0) (d := some 17) (v := .agg (chA l.length w.length B lcp wcp la wa)) rfl rfl (by kernel_rfl) (by kernel_rfl) (by kernel_rfl) (StepsIf.yield (by kernel_rfl) (fun w' hS => by obtain ⟨u0, u1, u2⟩ := blk3 (HC3.out.below hS (by omega)); clear hS; go_simp)) ?_
      intro a' ha'
      simp only [Act.put, List.setIfInBounds_toArray, List.set_cons_zero, List.set_cons_succ] at ha'
      subst ha'
      refine AnyS.next (i := 1) (d := some 18) (v := .agg (chA l.length w.length B lcp wcp la wa)) rfl rfl (by kernel_rfl) (by kernel_rfl) (by kernel_rfl) (StepsIf.yield (by kernel_rfl) (fun w' hS => by obtain ⟨u0, u1, u2⟩ := blk3 (HC3.out.below hS (by omega)); clear hS; go_simp)) ?_
      intro a' ha'
      simp only [Act.put, List.setIfInBounds_toArray, List.set_cons_zero, List.set_cons_succ] at ha'
      subst ha'
      refine AnyS.next (i := 2) (d := some 19) (v := .int .i64 (q : Nat)) rfl rfl (by kernel_rfl) (by kernel_rfl) (by kernel_rfl) (StepsIf.call (by kernel_rfl) (fun w' hS => by clear hS; go_simp) (fun w' hS => (HRT.out w').mono fun e w'' h => ⟨h.1, hS.trans (h.2.mono hS.size)⟩)) ?_
      intro a' ha'
      simp only [Act.put, List.setIfInBounds_toArray, List.set_cons_zero, List.set_cons_succ] at ha'
      subst ha'
      refine AnyS.next (i := 3) (d := some 20) (v := .slice wa w.length wcp) rfl rfl (by kernel_rfl) (by kernel_rfl) (by kernel_rfl) (StepsIf.yield (by kernel_rfl) (fun w' hS => by clear hS; go_simp)) ?_
      intro a' ha'
      simp only [Act.put, List.setIfInBounds_toArray, List.set_cons_zero, List.set_cons_succ] at ha'
      subst ha'
      refine AnyS.next (i := 4) (d := some 21) (v := .int .i64 (w.length : Nat)) rfl rfl (by kernel_rfl) (by kernel_rfl) (by kernel_rfl) (StepsIf.yield (by kernel_rfl) (fun w' hS => by clear hS; go_simp)) ?_
      intro a' ha'
      simp only [Act.put, List.setIfInBounds_toArray, List.set_cons_zero, List.set_cons_succ] at ha'
      subst ha'
      refine AnyS.next (i := 5) (d := some 22) (v := .bool z) rfl rfl (by kernel_rfl) (by kernel_rfl) (by kernel_rfl) (StepsIf.call (by kernel_rfl) (fun w' hS => by clear hS; go_simp) (fun w' hS => (HCN.out w' hS).mono fun e w'' h => ⟨h.1, hS.trans (h.2.mono hS.size)⟩)) ?_
      intro a' ha'
      simp only [Act.put, List.setIfInBounds_toArray, List.set_cons_zero, List.set_cons_succ] at ha'
      subst ha'
      refine AnyS.next (i := 6) (d := some 23) (v := .bool (!z)) rfl rfl (by kernel_rfl) (by kernel_rfl) (by kernel_rfl) (StepsIf.yield (by kernel_rfl) (fun w' hS => by clear hS; go_simp)) ?_
      intro a' ha'
      simp only [Act.put, List.setIfInBounds_toArray, List.set_cons_zero, List.set_cons_succ] at ha'
      subst ha'
      refine AnyS.done (by kernel_rfl) (fun w4 hS => ?_) _
      have HB4 := Lib.hid (HB3.out.trans (hS.mono HB3.out.size))
      have HN4 := Lib.hid (HN3.out.below hS)
      have HR4 := Lib.hid (HR3.out.below hS)
      obtain ⟨u0, u1, u2⟩ := blk3 (HC3.out.below hS (by omega))
      clear hS
      cases z
      · go_wp2_with fail
        go_ret2
        rw [← HTV.out]
        exact ⟨_, rfl, OwE.nil _ _, HB4.out⟩
      · go_wp2_with fail
        refine (HBE.out B (by have h := HCI.out; simpa using h) w4 HN4.out HR4.out).mono ?_
        rintro e w5 ⟨v, rfl, ho, hb5⟩
        have HO5 := Lib.hid (ho.mono HB4.out.size)
        have HB5 := Lib.hid (HB4.out.trans (hb5.mono HB4.out.size))
        clear ho hb5
        go_wp2_with fail
        go_ret2
        rw [← HTV.out]
        exact ⟨_, rfl, HO5.out, HB5.out⟩
end Go.Proofs.YtdpkhliojbeglaaDoor

/- The developers' Can, Match, Find. Stage 15. -/
namespace Go.Proofs.YtdpkhliojbeglaaDoor
open Go.RowKit BS

set_option maxRecDepth 100000 in
set_option maxHeartbeats 16000000 in
theorem canL_calls (l : List NdN) (hl : l.length ≤ 1000) (w : List Nat) (hwn : w.length ≤ 1000000) (hw8 : ∀ x ∈ w, x < 256) (lcp wcp : Nat) (la wa : Option Addr) (q F T : Int) (W : World) (hN : NodesAt l la W) (hT : BtsAt w wa W) (hTab : Tab W) (hg : 0 < W.heap.size) :
    Calls Tryd.prog 13 #[.slice la l.length lcp, .slice wa w.length wcp, .int .i64 q, .agg #[.int .i64 F, .int .i64 T]] W fun e W' => e = .returned (.tuple #[.bool (canV l w q F T).1, .int .i64 (canV l w q F T).2]) ∧ Below W.heap.size W W' := by
  have hb1 : Below W.heap.size W (W.alloc (.cells #[.int .i64 F, .int .i64 T] 25)) := by go_grown
  have hz1 : (W.alloc (.cells #[.int .i64 F, .int .i64 T] 25)).heap.size = W.heap.size + 1 := World.size_alloc ..
  have HX := Lib.hid (Blk.new W #[.int .i64 F, .int .i64 T] 25)
  have HCO := Lib.hid (chartOf_calls l hl w hwn hw8 lcp wcp la wa (W.alloc (.cells #[.int .i64 F, .int .i64 T] 25)) (hN.below hb1) (hT.below hb1) (hTab.keep hb1 hg) (by omega))
  have HB1 := Lib.hid hb1
  clear hN hT hTab hw8 hb1
  unfold ChR at HCO
  cases hr : rightT l
  · rw [canV_1 hr]
    simp only [hr, if_true] at HCO
    go_enter Tryd.func13, Tryd.ntmps13
    go_upto_region 1 with fail
    generalize W.alloc (.cells #[.int .i64 F, .int .i64 T] 25) = w1 at *
    go_wp2_with fail
    refine HCO.out.mono ?_
    rintro e w2 ⟨rfl, hb2⟩
    have HB2 := Lib.hid ((HB1.out.trans (hb2.mono HB1.out.size)).alloc (Nat.le_trans HB1.out.size hb2.size) (.cells chZ 64))
    clear hb2
    go_wp2_with fail
    go_ret2
    exact ⟨rfl, HB2.out⟩
  · by_cases hlen : 64 < w.length
    · rw [canV_2 hr hlen]
      simp only [hr, hlen, if_true, Bool.true_eq_false, if_false] at HCO
      go_enter Tryd.func13, Tryd.ntmps13
      go_upto_region 1 with fail
      generalize W.alloc (.cells #[.int .i64 F, .int .i64 T] 25) = w1 at *
      go_wp2_with fail
      refine HCO.out.mono ?_
      rintro e w2 ⟨rfl, hb2⟩
      have HB2 := Lib.hid ((HB1.out.trans (hb2.mono HB1.out.size)).alloc (Nat.le_trans HB1.out.size hb2.size) (.cells chZ 64))
      clear hb2
      go_wp2_with fail
      go_ret2
      exact ⟨rfl, HB2.out⟩
    · rw [canV_3 hr hlen]
      simp only [hr, hlen, Bool.true_eq_false, if_false] at HCO
      obtain ⟨CV, hCV⟩ : ∃ CV : Bool × Int, (if decide (0 ≤ q ∧ q < l.length ∧ 0 ≤ F ∧ F ≤ T ∧ T ≤ w.length) = true then (canB l w q.toNat F.toNat T.toNat, 0) else (false, 1)) = CV := ⟨_, rfl⟩
      rw [hCV]
      have HCV := Lib.hid hCV
      clear hCV
      go_enter Tryd.func13, Tryd.ntmps13
      go_upto_region 1 with fail
      generalize W.alloc (.cells #[.int .i64 F, .int .i64 T] 25) = w1 at *
      go_wp2_with fail
      refine HCO.out.mono ?_
      rintro e w2 ⟨⟨B, hBW, rfl, hr2⟩, hb2⟩
      have HB2 := Lib.hid (HB1.out.trans (hb2.mono HB1.out.size))
      have HR2 := Lib.hid hr2
      have HX2 := Lib.hid (HX.out.below hb2 (by omega))
      have hw2 := hb2.size
      clear hb2 hr2
      go_upto_region 2 with fail
      have HC3 := Lib.hid (Blk.new w2 (chA l.length w.length B lcp wcp la wa) 64)
      have hb3 : Below w2.heap.size w2 (w2.alloc (.cells (chA l.length w.length B lcp wcp la wa) 64)) := by go_grown
      have hz3 : (w2.alloc (.cells (chA l.length w.length B lcp wcp la wa) 64)).heap.size = w2.heap.size + 1 := World.size_alloc ..
      have HB3 := Lib.hid (HB2.out.trans (hb3.mono (by omega)))
      have HR3 := Lib.hid (HR2.out.below hb3)
      have HX3 := Lib.hid (HX2.out.below hb3 (by omega))
      clear hb3 HB2 HR2 HX2
      generalize w2.alloc (.cells (chA l.length w.length B lcp wcp la wa) 64) = w3 at *
      obtain ⟨u0, u1, u2⟩ := blk3 HC3.out
      have x0 := HX3.out.cell 0; have x1 := HX3.out.cell 1
      simp only [List.getElem?_toArray, List.getElem?_cons_zero, List.getElem?_cons_succ] at x0 x1
      have HHS := Lib.hid (fun W => has_ch l.length w.length B lcp wcp la wa q F T hl W)
      obtain ⟨z, hz⟩ : ∃ z, decide (0 ≤ q ∧ q < l.length ∧ 0 ≤ F ∧ F ≤ T ∧ T ≤ w.length) = z := ⟨_, rfl⟩
      rw [hz] at HHS HCV
      have HZ := Lib.hid hz
      clear hz
      go_wp2_with fail
      refine (HHS.out w3).mono ?_
      rintro e w4 ⟨rfl, hb4⟩
      have HB4 := Lib.hid (HB3.out.trans (hb4.mono (by omega)))
      have HR4 := Lib.hid (HR3.out.below hb4)
      have HC4 := Lib.hid (HC3.out.below hb4 (by omega))
      have HX4 := Lib.hid (HX3.out.below hb4 (by omega))
      clear hb4 u0 u1 u2 x0 x1
      obtain ⟨u0, u1, u2⟩ := blk3 HC4.out
      have x0 := HX4.out.cell 0; have x1 := HX4.out.cell 1
      simp only [List.getElem?_toArray, List.getElem?_cons_zero, List.getElem?_cons_succ] at x0 x1
      cases z
      · go_wp2_with fail
        go_ret2
        rw [← HCV.out]
        exact ⟨rfl, HB4.out⟩
      · obtain ⟨h1, h2, h3, h4, h5⟩ := of_decide_eq_true HZ.out
        obtain ⟨q', rfl⟩ := Int.eq_ofNat_of_zero_le h1
        obtain ⟨F', rfl⟩ := Int.eq_ofNat_of_zero_le h3
        obtain ⟨T', rfl⟩ := Int.eq_ofNat_of_zero_le (Int.le_trans h3 h4)
        have HCN := Lib.hid (canC_calls l.length w.length B lcp wcp q' F' T' la wa (stQ l w l.length) (by omega) (by omega) (by omega) w4 HR4.out)
        rw [can_all l w (by omega) q' F' T' (by omega) (by omega) (by omega)] at HCN
        go_wp2_with fail
        refine HCN.out.mono ?_
        rintro e w5 ⟨rfl, hb5⟩
        have HB5 := Lib.hid (HB4.out.trans (hb5.mono HB4.out.size))
        clear hb5
        go_wp2_with fail
        go_ret2
        rw [← HCV.out]
        exact ⟨rfl, HB5.out⟩
set_option maxRecDepth 100000 in
set_option maxHeartbeats 16000000 in
theorem matchL_calls (l : List NdN) (hl : l.length ≤ 1000) (w : List Nat) (hwn : w.length ≤ 1000000) (hw8 : ∀ x ∈ w, x < 256) (lcp wcp : Nat) (la wa : Option Addr) (hf : (treeV l w).1.length ≤ 1000) (W : World) (hN : NodesAt l la W) (hT : BtsAt w wa W) (hTab : Tab W) (hg : 0 < W.heap.size) :
    Calls Tryd.prog 16 #[.slice la l.length lcp, .slice wa w.length wcp] W fun e W' => ∃ b c, e = .returned (.tuple #[.slice b (matchV l w).1.length c, .int .i64 (matchV l w).2]) ∧ SpnAt (matchV l w).1 b W' ∧ Below W.heap.size W W' := by
  have HTR := Lib.hid (treeL_calls l hl w hwn hw8 lcp wcp la wa W hN hT hTab hg)
  have HN := Lib.hid hN
  clear hN hT hTab hw8
  unfold matchV
  generalize treeV l w = TV at *
  obtain ⟨t, er⟩ := TV
  simp only at hf HTR
  by_cases he : er = 0
  · subst he
    obtain ⟨MV, hMV⟩ : ∃ MV : List (Int × Int) × Int, (if (([] : List EnN), (0 : Int)).2 ≠ 0 then ([], 0) else (spansT l t, 0)) = MV := ⟨_, rfl⟩
    have hMV2 : (if ((t, (0 : Int)) : List EnN × Int).2 ≠ 0 then ([], ((t, (0 : Int)) : List EnN × Int).2) else (spansT l (t, (0 : Int)).1, 0)) = MV := hMV
    rw [hMV2]
    have HMV : Hid (MV = (spansT l t, 0)) := Lib.hid (by rw [← hMV]; rfl)
    clear hMV hMV2
    go_enter Tryd.func16, Tryd.ntmps16
    go_wp2_with fail
    refine HTR.out.mono ?_
    rintro e w2 ⟨v, rfl, ho, hb⟩
    obtain ⟨ta, tc, rfl⟩ := ho.form
    have HSP := Lib.hid (spansD_calls l hl t hf la ta lcp tc w2 (HN.out.below hb) ho.ents)
    have HB := Lib.hid hb
    clear ho hb
    go_wp2_with fail
    refine HSP.out.mono ?_
    rintro e w3 ⟨b, c, rfl, hs, hb3⟩
    have HS := Lib.hid hs
    have HB3 := Lib.hid (HB.out.trans (hb3.mono HB.out.size))
    clear hs hb3
    go_wp2_with fail
    go_ret2
    rw [HMV.out]
    exact ⟨_, _, rfl, HS.out, HB3.out⟩
  · obtain ⟨MV, hMV⟩ : ∃ MV : List (Int × Int) × Int, (if ((t, er) : List EnN × Int).2 ≠ 0 then ([], ((t, er) : List EnN × Int).2) else (spansT l (t, er).1, 0)) = MV := ⟨_, rfl⟩
    rw [hMV]
    have HMV : Hid (MV = ([], er)) := Lib.hid (by rw [← hMV]; exact if_pos he)
    have q1 : (er != 0) = true := by rw [bne_iff_ne]; exact he
    clear hMV
    go_enter Tryd.func16, Tryd.ntmps16
    go_wp2_with fail
    refine HTR.out.mono ?_
    rintro e w2 ⟨v, rfl, ho, hb⟩
    have HB := Lib.hid hb
    clear ho hb
    go_wp2_with fail
    go_ret2
    rw [HMV.out]
    exact ⟨_, _, rfl, fun h => absurd rfl h, HB.out⟩
set_option maxRecDepth 100000 in
set_option maxHeartbeats 16000000 in
theorem findL_calls (l : List NdN) (hl : l.length ≤ 1000) (w : List Nat) (hwn : w.length ≤ 1000000) (hw8 : ∀ x ∈ w, x < 256) (lcp wcp : Nat) (la wa : Option Addr) (hf : rightT l = true → w.length ≤ 64 → l.length * max 1 w.length ≤ 1000) (W : World) (hN : NodesAt l la W) (hT : BtsAt w wa W) (hTab : Tab W) (hg : 0 < W.heap.size) :
    Calls Tryd.prog 18 #[.slice la l.length lcp, .slice wa w.length wcp] W fun e W' => ∃ b c, e = .returned (.tuple #[.slice b (foundV l w).1.length c, .int .i64 (foundV l w).2]) ∧ SpnAt (foundV l w).1 b W' ∧ Below W.heap.size W W' := by
  have HCO := Lib.hid (chartOf_calls l hl w hwn hw8 lcp wcp la wa W hN hT hTab hg)
  have HN := Lib.hid hN
  have HTB := Lib.hid hTab
  clear hN hT hTab hw8
  unfold ChR at HCO
  cases hr : rightT l
  · rw [foundV_1 hr]
    simp only [hr, if_true] at HCO
    go_enter Tryd.func18, Tryd.ntmps18
    go_wp2_with fail
    refine HCO.out.mono ?_
    rintro e w2 ⟨rfl, hb2⟩
    have HB2 := Lib.hid (hb2.alloc hb2.size (.cells chZ 64))
    clear hb2
    go_wp2_with fail
    go_ret2
    exact ⟨_, _, rfl, fun h => absurd rfl h, HB2.out⟩
  · by_cases hlen : 64 < w.length
    · rw [foundV_2 hr hlen]
      simp only [hr, hlen, if_true, Bool.true_eq_false, if_false] at HCO
      go_enter Tryd.func18, Tryd.ntmps18
      go_wp2_with fail
      refine HCO.out.mono ?_
      rintro e w2 ⟨rfl, hb2⟩
      have HB2 := Lib.hid (hb2.alloc hb2.size (.cells chZ 64))
      clear hb2
      go_wp2_with fail
      go_ret2
      exact ⟨_, _, rfl, fun h => absurd rfl h, HB2.out⟩
    · have h0 : 0 < l.length := (rightT_q l hr).pos
      have hP := parts_ok l hr
      rw [foundV_3 hr hlen]
      simp only [hr, hlen, Bool.true_eq_false, if_false] at HCO
      have hf2 := hf hr (by omega)
      obtain ⟨FV, hFV⟩ : ∃ FV : List (Int × Int) × Int, fndM l w (findT l w) = FV := ⟨_, rfl⟩
      rw [hFV]
      have HFV := Lib.hid hFV
      have HFC := Lib.hid (show ∀ a b, findT l w = some (a, b) → canP l w (l.length - 1) a b from fun a b h => by
        obtain ⟨_, h1, h2, h3, _⟩ := find_some _ _ _ _ _ _ h
        exact (can_iff (w := w) hP (l.length - 1) a b (by omega) h1 h2).1 h3)
      have HFO := Lib.hid (fun B W' h1 h2 h3 => found_ch l hl h0 w (by omega) B lcp wcp la wa W' h1 h2 h3)
      have HBE := Lib.hid (fun B a b (hcan : canP l w (l.length - 1) a b) W' h1 h2 => best_ch l hr hl w (by omega) B lcp wcp la wa a b hcan W' h1 h2)
      have HGL := Lib.hid (show ∀ a b, canP l w (l.length - 1) a b → (flF 1 (growB l w (l.length - 1) a b)).length ≤ 1000 from fun a b h => Nat.le_trans (grow_bound hr (l.length - 1) a b 1 (by omega) h) hf2)
      clear hFV hP
      generalize findT l w = FT at *
      go_enter Tryd.func18, Tryd.ntmps18
      go_wp2_with fail
      refine HCO.out.mono ?_
      rintro e w2 ⟨⟨B, hBW, rfl, hr2⟩, hb2⟩
      have HN2 := Lib.hid (HN.out.below hb2)
      have HB2 := Lib.hid hb2
      have HR2 := Lib.hid hr2
      have HTB2 := Lib.hid (HTB.out.keep hb2 hg)
      have hw2 := hb2.size
      clear hb2 hr2
      go_upto_region 2 with fail
      have HC3 := Lib.hid (Blk.new w2 (chA l.length w.length B lcp wcp la wa) 64)
      have hb3 : Below w2.heap.size w2 (w2.alloc (.cells (chA l.length w.length B lcp wcp la wa) 64)) := by go_grown
      have hz3 : (w2.alloc (.cells (chA l.length w.length B lcp wcp la wa) 64)).heap.size = w2.heap.size + 1 := World.size_alloc ..
      have HB3 := Lib.hid (HB2.out.trans (hb3.mono hw2))
      have HN3 := Lib.hid (HN2.out.below hb3)
      have HR3 := Lib.hid (HR2.out.below hb3)
      have HTB3 := Lib.hid (HTB2.out.keep hb3 (by omega))
      clear hb3 HB2 HN2 HR2 HTB2
      generalize w2.alloc (.cells (chA l.length w.length B lcp wcp la wa) 64) = w3 at *
      obtain ⟨u0, u1, u2⟩ := blk3 HC3.out
      go_wp2_with fail
      refine (HFO.out B w3 HR3.out HTB3.out (by omega)).mono ?_
      rintro e w4 ⟨rfl, hb4⟩
      have HB4 := Lib.hid (HB3.out.trans (hb4.mono HB3.out.size))
      have HN4 := Lib.hid (HN3.out.below hb4)
      have HR4 := Lib.hid (HR3.out.below hb4)
      have HC4 := Lib.hid (HC3.out.below hb4 (by omega))
      have hz4 : w2.heap.size + 1 ≤ w4.heap.size := by have := hb4.size; omega
      clear hb4 u0 u1 u2
      obtain ⟨u0, u1, u2⟩ := blk3 HC4.out
      cases FT with
      | none =>
        unfold fndV
        have HB5 := Lib.hid (HB4.out.alloc HB4.out.size (.cells #[.int .i64 0, .int .i64 0] 25))
        go_wp2_with fail
        go_ret2
        rw [← HFV.out]
        exact ⟨_, _, rfl, fun h => absurd rfl h, HB5.out⟩
      | some ab =>
        obtain ⟨a, b⟩ := ab
        unfold fndV
        have hcan := HFC.out a b rfl
        have hb5 : Below w4.heap.size w4 (w4.alloc (.cells #[.int .i64 (a : Nat), .int .i64 (b : Nat)] 25)) := by go_grown
        have hs4 : w2.heap.size < w4.heap.size := by omega
        have HB5 := Lib.hid (HB4.out.trans (hb5.mono HB4.out.size))
        have HN5 := Lib.hid (HN4.out.below hb5)
        have HR5 := Lib.hid (HR4.out.below hb5)
        have HB6 := Lib.hid (HBE.out B a b hcan _ HN5.out HR5.out)
        have HG6 := Lib.hid (HGL.out a b hcan)
        clear hb5
        go_wp2_with fail
        refine HB6.out.mono ?_
        rintro e w6 ⟨v, rfl, ho, hb6⟩
        obtain ⟨ta, tc, rfl⟩ := ho.form
        have HSP := Lib.hid (spansD_calls l hl (flF 1 (growB l w (l.length - 1) a b)) HG6.out la ta lcp tc w6 (HN5.out.below hb6) ho.ents)
        have HB7 := Lib.hid (HB5.out.trans (hb6.mono HB5.out.size))
        clear ho hb6
        go_wp2_with fail
        refine HSP.out.mono ?_
        rintro e w7 ⟨b', c', rfl, hs, hb7⟩
        have HS := Lib.hid hs
        have HB8 := Lib.hid (HB7.out.trans (hb7.mono HB7.out.size))
        clear hs hb7
        go_wp2_with fail
        go_ret2
        rw [← HFV.out]
        exact ⟨_, _, rfl, HS.out, HB8.out⟩
end Go.Proofs.YtdpkhliojbeglaaDoor

/- Stage 15: few, letter, Spanned; what the laws call. -/
namespace Go.Proofs.YtdpkhliojbeglaaDoor
open Go.RowKit BS

set_option maxRecDepth 100000 in
set_option maxHeartbeats 4000000 in
theorem few15_calls (l w : Nat) (a b : Option Addr) (ca cb : Nat) (W : World) (hl : l ≤ 9223372036854775807) (hw : w ≤ 9223372036854775807) :
    Calls Tryd.prog 8 #[.slice a l ca, .slice b w cb] W fun e W' => e = .returned (.bool (decide (l ≤ 40 ∧ w ≤ 24))) ∧ W = W' := by
  obtain ⟨E, hE⟩ : ∃ E, E = decide (l ≤ 40 ∧ w ≤ 24) := ⟨_, rfl⟩
  rw [← hE]
  by_cases h1 : l ≤ 40
  · have q1 : decide (l ≤ 40) = true := decide_eq_true h1
    have q2 : decide ((l : Int) ≤ 40) = true := by rw [decide_eq_true_iff]; omega
    by_cases h2 : w ≤ 24
    · have q3 : decide (w ≤ 24) = true := decide_eq_true h2
      have q4 : decide ((w : Int) ≤ 24) = true := by rw [decide_eq_true_iff]; omega
      have HX := Lib.hid (show E = true by rw [hE, decide_eq_true ⟨h1, h2⟩])
      clear hE h1 h2
      go_enter Tryd.func8, Tryd.ntmps8
      go_wp2_with fail
      go_ret
      exact ⟨by rw [HX.out] <;> rfl, rfl⟩
    · have q3 : decide (w ≤ 24) = false := decide_eq_false h2
      have q4 : decide ((w : Int) ≤ 24) = false := by rw [decide_eq_false_iff_not]; omega
      have HX := Lib.hid (show E = false by rw [hE]; exact decide_eq_false (fun h => h2 h.2))
      clear hE h1 h2
      go_enter Tryd.func8, Tryd.ntmps8
      go_wp2_with fail
      go_ret
      exact ⟨by rw [HX.out] <;> rfl, rfl⟩
  · have q1 : decide (l ≤ 40) = false := decide_eq_false h1
    have q2 : decide ((l : Int) ≤ 40) = false := by rw [decide_eq_false_iff_not]; omega
    have HX := Lib.hid (show E = false by rw [hE]; exact decide_eq_false (fun h => h1 h.1))
    clear hE h1
    go_enter Tryd.func8, Tryd.ntmps8
    go_wp2_with fail
    go_ret
    exact ⟨by rw [HX.out] <;> rfl, rfl⟩
set_option maxRecDepth 100000 in
set_option maxHeartbeats 2000000 in
theorem eqSpn (a b c d : Int) (w : World) :
    (Op.equalIn 10000 25 (.agg #[.int .i64 a, .int .i64 b]) (.agg #[.int .i64 c, .int .i64 d])).run Tryd.prog w = .ok (decide (a = c ∧ b = d)) w := by
  go_simp
  by_cases h1 : a = c <;> by_cases h2 : b = d <;> simp [h1, h2]
set_option maxRecDepth 100000 in
set_option maxHeartbeats 8000000 in
theorem spanned_calls (x y : List (Int × Int)) (hx : x.length ≤ 1000) (hy : y.length ≤ 1000) (a b : Option Addr) (ca cb : Nat) (W : World) (h1 : SpnAt x a W) (h2 : SpnAt y b W) :
    Calls Tryd.prog 20 #[.slice a x.length ca, .slice b y.length cb] W fun e W' => e = .returned (.bool (decide (x = y))) ∧ Below W.heap.size W W' := by
  obtain ⟨E, hE⟩ : ∃ E, E = decide (x = y) := ⟨_, rfl⟩
  rw [← hE]
  have HE := Lib.hid hE
  clear hE
  by_cases hl : x.length = y.length
  · have q1 : ((x.length : Int) != (y.length : Int)) = false := by rw [bne_eq_false_iff_eq]; omega
    have q0 : (x.length != y.length) = false := by rw [bne_eq_false_iff_eq]; exact hl
    have H1 := Lib.hid h1
    have H2 := Lib.hid h2
    have HEQ := Lib.hid eqSpn
    clear h1 h2
    rw [← hl]
    have q2 : ((x.length : Int) != (x.length : Int)) = false := by rw [bne_eq_false_iff_eq]
    go_enter Tryd.func20, Tryd.ntmps20
    go_wp2_with fail
    go_loopw [5] (fun vi wr => ∃ i : Nat, i ≤ x.length ∧ vi = .int .i64 i ∧ (∀ k, k < i → x[k]? = y[k]?) ∧ Below W.heap.size W wr) (fun vi _ => x.length - (intOf vi).toNat)
    case atStart => exact ⟨0, Nat.zero_le _, rfl, fun k h => absurd h (by omega), Below.refl _ _⟩
    case round =>
      obtain ⟨i, hi, rfl, hall, hB⟩ := hrel
      have HA := Lib.hid hall
      have HB := Lib.hid hB
      by_cases hlt : i < x.length
      · have p2 : decide (i < x.length) = true := decide_eq_true hlt
        have p4 : (i : Int) < (x.length : Int) := by omega
        have xi : IntKind.i64.wrap ((i : Int) + 1) = (i : Int) + 1 := IntWalk.i64_in _ (by omega)
        obtain ⟨g1, o1, rfl, hg1, hc1⟩ := (H1.out.below hB) (by intro h0; rw [h0] at hlt; simp at hlt)
        obtain ⟨g2, o2, rfl, hg2, hc2⟩ := (H2.out.below hB) (by intro h0; rw [h0] at hl; simp only [List.length_nil] at hl; omega)
        obtain ⟨c0, c1⟩ := hc1 i hlt
        obtain ⟨d0, d1⟩ := hc2 i (by omega)
        have hxi : x[i]? = some x[i] := List.getElem?_eq_getElem hlt
        have hyi : y[i]? = some (y[i]'(by omega)) := List.getElem?_eq_getElem (by omega)
        obtain ⟨⟨xa, xb⟩, hxx⟩ : ∃ z, x[i] = z := ⟨_, rfl⟩
        obtain ⟨⟨ya, yb⟩, hyy⟩ : ∃ z, y[i]'(by omega) = z := ⟨_, rfl⟩
        rw [hxx] at c0 c1 hxi
        rw [hyy] at d0 d1 hyi
        simp only at c0 c1 d0 d1
        have heq := HEQ.out xa xb ya yb
        have HXI := Lib.hid hxi
        have HYI := Lib.hid hyi
        obtain ⟨z, hz⟩ : ∃ z, decide (xa = ya ∧ xb = yb) = z := ⟨_, rfl⟩
        rw [hz] at heq
        have HZ := Lib.hid hz
        have hef : z = false → E = false := fun hz0 => by
          rw [HE.out]
          refine decide_eq_false fun hxy => ?_
          have h3 := HXI.out
          subst hxy
          rw [HYI.out] at h3
          have h4 := of_decide_eq_false (HZ.out.trans hz0)
          cases h3
          exact h4 ⟨rfl, rfl⟩
        clear hall hc1 hc2 hB hxi hyi hxx hyy hz
        cases z
        · have HEF : Hid (E = false) := Lib.hid (hef rfl)
          clear hef
          go_upto_region 6 with fail
          go_quiet (fail)
          go_wp2_with fail
          go_ret
          exact ⟨by rw [HEF.out]; rfl, below_drN HB.out _⟩
        · clear hef
          go_upto_region 6 with fail
          go_quiet (fail)
          go_wp2_with fail
          go_roundw
          case rel =>
            refine ⟨i + 1, by omega, rfl, fun k hk => ?_, below_drN HB.out _⟩
            by_cases hki : k = i
            · subst hki
              rw [HXI.out, HYI.out]
              obtain ⟨h5, h6⟩ := of_decide_eq_true HZ.out
              rw [h5, h6]
            · exact HA.out k (by omega)
          case measure => simp [intOf]; omega
      · obtain rfl : i = x.length := by omega
        have HXY := Lib.hid (show x = y from List.ext_getElem? fun k => by
          by_cases hk : k < x.length
          · exact hall k hk
          · rw [List.getElem?_eq_none (by omega), List.getElem?_eq_none (by omega)])
        clear hall hB
        go_wp2_with fail
        go_ret
        exact ⟨by rw [HE.out, decide_eq_true HXY.out]; rfl, HB.out⟩
  · have q1 : ((x.length : Int) != (y.length : Int)) = true := by rw [bne_iff_ne]; omega
    have q0 : (x.length != y.length) = true := by rw [bne_iff_ne]; exact hl
    have HX := Lib.hid (show E = false by rw [HE.out]; exact decide_eq_false (fun h => hl (by rw [h])))
    go_enter Tryd.func20, Tryd.ntmps20
    go_wp2_with fail
    go_ret
    exact ⟨by rw [HX.out]; rfl, Below.refl _ _⟩
@[reducible] def c97 : Array Value := #[.int .i64 2, .int .i64 (-1), .int .i64 (-1), .int .i64 0, .int .u64 0, .int .u64 8589934592, .int .u64 0, .int .u64 0]
@[reducible] def c98 : Array Value := #[.int .i64 2, .int .i64 (-1), .int .i64 (-1), .int .i64 0, .int .u64 0, .int .u64 17179869184, .int .u64 0, .int .u64 0]
set_option maxRecDepth 100000 in
set_option maxHeartbeats 4000000 in
theorem letter97 (W : World) : Calls Tryd.prog 27 #[.int .i64 97] W fun e W' => e = .returned (.agg c97) ∧ Below W.heap.size W W' := by
  go_enter Tryd.func27, Tryd.ntmps27
  go_wp2_with fail
  exact bodyPost_ret (results_cell_row rfl _ _ W.heap.size 60 c97 (0, 0) _ rfl ((Blk.new W c97 60).alloc _) Tryd.underlying60 rfl (by kernel_rfl)) rfl ⟨rfl, by go_grown⟩
set_option maxRecDepth 100000 in
set_option maxHeartbeats 4000000 in
theorem letter98 (W : World) : Calls Tryd.prog 27 #[.int .i64 98] W fun e W' => e = .returned (.agg c98) ∧ Below W.heap.size W W' := by
  go_enter Tryd.func27, Tryd.ntmps27
  go_wp2_with fail
  exact bodyPost_ret (results_cell_row rfl _ _ W.heap.size 60 c98 (0, 0) _ rfl ((Blk.new W c98 60).alloc _) Tryd.underlying60 rfl (by kernel_rfl)) rfl ⟨rfl, by go_grown⟩
/-! ### What must come -/
def sA : BitVec 256 := BitVec.ofNat 256 (2 ^ 97)
def sB : BitVec 256 := BitVec.ofNat 256 (2 ^ 98)
def l15 : List NdN := [⟨2, -1, -1, 0, sA⟩, ⟨2, -1, -1, 0, sA⟩, ⟨2, -1, -1, 0, sB⟩, ⟨3, 1, 2, 0, 0⟩, ⟨4, 0, 3, 0, 0⟩, ⟨7, 4, -1, 1, 0⟩, ⟨2, -1, -1, 0, sB⟩, ⟨6, 6, -1, 0, 0⟩, ⟨3, 5, 7, 0, 0⟩]
theorem m15 : matchV l15 [97, 98] = ([(0, 2), (0, 2)], 0) := by
  have h1 : (matchV l15 [97, 98]).1 = [(0, 2), (0, 2)] := by decide +kernel
  have h2 : (matchV l15 [97, 98]).2 = 0 := by decide +kernel
  exact Prod.ext h1 h2
theorem f15 : foundV l15 [99, 97, 98, 97] = ([(1, 3), (1, 3)], 0) := by
  have h1 : (foundV l15 [99, 97, 98, 97]).1 = [(1, 3), (1, 3)] := by decide +kernel
  have h2 : (foundV l15 [99, 97, 98, 97]).2 = 0 := by decide +kernel
  exact Prod.ext h1 h2
theorem t15 : (treeV l15 [98]).2 = 7 := by decide +kernel
theorem n15 : (treeV l15 [97, 98]).1.length ≤ 1000 := by decide +kernel
@[reducible] def k15 (k a b m : Int) : Array Value := #[.int .i64 k, .int .i64 a, .int .i64 b, .int .i64 m, .int .u64 0, .int .u64 0, .int .u64 0, .int .u64 0]
@[reducible] def d15 : Array Value := #[.int .i64 2, .int .i64 (-1), .int .i64 (-1), .int .i64 0, .int .u64 0, .int .u64 8589934592, .int .u64 0, .int .u64 0, .int .i64 2, .int .i64 (-1), .int .i64 (-1), .int .i64 0, .int .u64 0, .int .u64 8589934592, .int .u64 0, .int .u64 0, .int .i64 2, .int .i64 (-1), .int .i64 (-1), .int .i64 0, .int .u64 0, .int .u64 17179869184, .int .u64 0, .int .u64 0,
  .int .i64 3, .int .i64 1, .int .i64 2, .int .i64 0, .int .u64 0, .int .u64 0, .int .u64 0, .int .u64 0, .int .i64 4, .int .i64 0, .int .i64 3, .int .i64 0, .int .u64 0, .int .u64 0, .int .u64 0, .int .u64 0, .int .i64 7, .int .i64 4, .int .i64 (-1), .int .i64 1, .int .u64 0, .int .u64 0, .int .u64 0, .int .u64 0,
  .int .i64 2, .int .i64 (-1), .int .i64 (-1), .int .i64 0, .int .u64 0, .int .u64 17179869184, .int .u64 0, .int .u64 0, .int .i64 6, .int .i64 6, .int .i64 (-1), .int .i64 0, .int .u64 0, .int .u64 0, .int .u64 0, .int .u64 0, .int .i64 3, .int .i64 5, .int .i64 7, .int .i64 0, .int .u64 0, .int .u64 0, .int .u64 0, .int .u64 0]
theorem wdA : wd sA 0 = 0 ∧ wd sA 1 = 8589934592 ∧ wd sA 2 = 0 ∧ wd sA 3 = 0 := by decide +kernel
theorem wdB : wd sB 0 = 0 ∧ wd sB 1 = 17179869184 ∧ wd sB 2 = 0 ∧ wd sB 3 = 0 := by decide +kernel
theorem ndSA : ndA ⟨2, -1, -1, 0, sA⟩ = c97 := by
  obtain ⟨y0, y1, y2, y3⟩ := wdA
  generalize sA = s at *
  show #[Value.int .i64 2, .int .i64 (-1), .int .i64 (-1), .int .i64 0, .int .u64 ((wd s 0 : Nat) : Int), .int .u64 ((wd s 1 : Nat) : Int), .int .u64 ((wd s 2 : Nat) : Int), .int .u64 ((wd s 3 : Nat) : Int)] = _
  rw [y0, y1, y2, y3]; rfl
theorem ndSB : ndA ⟨2, -1, -1, 0, sB⟩ = c98 := by
  obtain ⟨y0, y1, y2, y3⟩ := wdB
  generalize sB = s at *
  show #[Value.int .i64 2, .int .i64 (-1), .int .i64 (-1), .int .i64 0, .int .u64 ((wd s 0 : Nat) : Int), .int .u64 ((wd s 1 : Nat) : Int), .int .u64 ((wd s 2 : Nat) : Int), .int .u64 ((wd s 3 : Nat) : Int)] = _
  rw [y0, y1, y2, y3]; rfl
theorem ndS0 (k a b m : Int) : ndA ⟨k, a, b, m, 0⟩ = k15 k a b m := by
  have z0 : wd (0 : BitVec 256) 0 = 0 := by decide
  have z1 : wd (0 : BitVec 256) 1 = 0 := by decide
  have z2 : wd (0 : BitVec 256) 2 = 0 := by decide
  have z3 : wd (0 : BitVec 256) 3 = 0 := by decide
  generalize (0 : BitVec 256) = s at *
  show #[Value.int .i64 k, .int .i64 a, .int .i64 b, .int .i64 m, .int .u64 ((wd s 0 : Nat) : Int), .int .u64 ((wd s 1 : Nat) : Int), .int .u64 ((wd s 2 : Nat) : Int), .int .u64 ((wd s 3 : Nat) : Int)] = _
  rw [z0, z1, z2, z3]; rfl
theorem l15_at (W : World) : NodesAt l15 (some ⟨W.heap.size, 0, none⟩) (W.alloc (.cells d15 60)) := fun _ => by
  have hb := Blk.new W d15 60
  refine ⟨W.heap.size, 0, rfl, hb.lt, fun i hi j hj => ?_⟩
  have hi' : i < 9 := hi
  rw [hb.cell]
  have hjj : j = 0 ∨ j = 1 ∨ j = 2 ∨ j = 3 ∨ j = 4 ∨ j = 5 ∨ j = 6 ∨ j = 7 := by omega
  obtain rfl | rfl | rfl | rfl | rfl | rfl | rfl | rfl | rfl : i = 0 ∨ i = 1 ∨ i = 2 ∨ i = 3 ∨ i = 4 ∨ i = 5 ∨ i = 6 ∨ i = 7 ∨ i = 8 := by omega
  · rw [show l15[0] = ⟨2, -1, -1, 0, sA⟩ from rfl, ndSA]; rcases hjj with rfl | rfl | rfl | rfl | rfl | rfl | rfl | rfl <;> rfl
  · rw [show l15[1] = ⟨2, -1, -1, 0, sA⟩ from rfl, ndSA]; rcases hjj with rfl | rfl | rfl | rfl | rfl | rfl | rfl | rfl <;> rfl
  · rw [show l15[2] = ⟨2, -1, -1, 0, sB⟩ from rfl, ndSB]; rcases hjj with rfl | rfl | rfl | rfl | rfl | rfl | rfl | rfl <;> rfl
  · rw [show l15[3] = ⟨3, 1, 2, 0, 0⟩ from rfl, ndS0]; rcases hjj with rfl | rfl | rfl | rfl | rfl | rfl | rfl | rfl <;> rfl
  · rw [show l15[4] = ⟨4, 0, 3, 0, 0⟩ from rfl, ndS0]; rcases hjj with rfl | rfl | rfl | rfl | rfl | rfl | rfl | rfl <;> rfl
  · rw [show l15[5] = ⟨7, 4, -1, 1, 0⟩ from rfl, ndS0]; rcases hjj with rfl | rfl | rfl | rfl | rfl | rfl | rfl | rfl <;> rfl
  · rw [show l15[6] = ⟨2, -1, -1, 0, sB⟩ from rfl, ndSB]; rcases hjj with rfl | rfl | rfl | rfl | rfl | rfl | rfl | rfl <;> rfl
  · rw [show l15[7] = ⟨6, 6, -1, 0, 0⟩ from rfl, ndS0]; rcases hjj with rfl | rfl | rfl | rfl | rfl | rfl | rfl | rfl <;> rfl
  · rw [show l15[8] = ⟨3, 5, 7, 0, 0⟩ from rfl, ndS0]; rcases hjj with rfl | rfl | rfl | rfl | rfl | rfl | rfl | rfl <;> rfl
theorem bts_at (xs : List Nat) (cs : Array Value) (hc : ∀ i (h : i < xs.length), cs[i]? = some (.int .u8 (xs[i] : Nat))) (W : World) (m : Nat × Nat) : BtsAt xs (some ⟨W.heap.size, 0, none⟩) (W.alloc (.cells cs 5 m)) := fun _ => by
  have hb : (W.alloc (.cells cs 5 m)).heap[W.heap.size]? = some (.cells cs 5 m) := heap_alloc_new W _
  refine ⟨W.heap.size, 0, rfl, by simp, fun i hi => ?_⟩
  unfold World.cell?
  simp only [Nat.zero_add]
  rw [hb]
  exact hc i hi
theorem spn_at (a b : Int) (W : World) : SpnAt [(a, b), (a, b)] (some ⟨W.heap.size, 0, none⟩) (W.alloc (.cells #[.int .i64 a, .int .i64 b, .int .i64 a, .int .i64 b] 25)) := fun _ => by
  have hb := Blk.new W #[.int .i64 a, .int .i64 b, .int .i64 a, .int .i64 b] 25
  refine ⟨W.heap.size, 0, rfl, hb.lt, fun i hi => ?_⟩
  have hi' : i < 2 := hi
  rw [hb.cell, hb.cell]
  obtain rfl | rfl : i = 0 ∨ i = 1 := by omega
  · exact ⟨rfl, rfl⟩
  · exact ⟨rfl, rfl⟩
end Go.Proofs.YtdpkhliojbeglaaDoor

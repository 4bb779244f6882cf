/- Texts put together: Ql. -/
import Derived.Test.YtpncomjpmilbkaaDoorPAa
/- The developers' lower: parts of nodes, each made when it is asked. Stage 11. -/
namespace Go.Proofs.YtpncomjpmilbkaaDoor
open Go.RowKit BS

/-- A tree that stays, whatever becomes of the blocks of A, and of new ones. -/
def TreeS (A : Nat → Prop) (l : List NdN) (a : Option Addr) (gk : Nat) (am : Option Addr) (gz : Nat) (W : World) : Prop := ∀ W', KpA A W W' → TreeN l l.length l.length a gk am gz W'
theorem TreeS.at {A : Nat → Prop} {l : List NdN} {a : Option Addr} {gk : Nat} {am : Option Addr} {gz : Nat} {W : World} (h : TreeS A l a gk am gz W) : TreeN l l.length l.length a gk am gz W := h W (KpA.refl _ _)
theorem TreeS.more {A A' : Nat → Prop} {l : List NdN} {a : Option Addr} {gk : Nat} {am : Option Addr} {gz : Nat} {W0 W : World} (h : TreeS A l a gk am gz W0) (k : KpA A W0 W) (hA : ∀ x, A' x → A x ∨ W0.heap.size ≤ x) : TreeS A' l a gk am gz W :=
  fun W2 k2 => h W2 ⟨k2.os.trans k.os, k2.tape.trans k.tape, k2.output.trans k.output, Nat.le_trans k.size k2.size, fun i hi hn => (k2.block i (Nat.lt_of_lt_of_le hi k.size) fun e => (hA i e).elim hn (fun h => by omega)).trans (k.block i hi hn)⟩
theorem TreeS.below {A : Nat → Prop} {l : List NdN} {a : Option Addr} {gk : Nat} {am : Option Addr} {gz : Nat} {W W' : World} (h : TreeS A l a gk am gz W) (hb : Below W.heap.size W W') : TreeS A l a gk am gz W' := h.more (kp_of_below hb) fun _ h => .inl h
theorem TreeS.of {l : List NdN} {a : Option Addr} {gk : Nat} {am : Option Addr} {gz : Nat} {W : World} (h : TreeN l l.length l.length a gk am gz W) : TreeS (fun _ => False) l a gk am gz W :=
  fun _ k => h.below (k.toBelow (Nat.le_refl _) fun _ h => h.elim)
/-- What a node of the tree is made into. -/
def PSpec (l : List NdN) (a : Option Addr) (ca gk : Nat) (am : Option Addr) (cm gz i : Nat) : Prop := ∀ (A : Nat → Prop) (W : World), (∀ k, A k → k < W.heap.size) → TreeS A l a gk am gz W →
  Calls Tryd.prog 25 #[.agg (treeC l.length a ca gk am cm gz), .int .i64 i] W fun e w' => ∃ v, e = .returned v ∧ PartAt A v (enc (tmV l i)) w' ∧ Below W.heap.size W w'
set_option maxRecDepth 100000 in
set_option maxHeartbeats 8000000 in
theorem clo_part (l : List NdN) (a : Option Addr) (ca gk : Nat) (am : Option Addr) (cm gz i : Nat) (hP : PSpec l a ca gk am cm gz i) (A : Nat → Prop) (bt bi : Nat) (W0 : World) (hA1 : ¬ A bt) (hA2 : ¬ A bi) (hT : TreeS A l a gk am gz W0)
    (hbt : Blk W0 bt (treeC l.length a ca gk am cm gz) 52) (hbi : Blk W0 bi #[.int .i64 i] 3) :
    PartAt A (.func (.func 70) #[] #[.pointer (some ⟨bt, 0, none⟩), .pointer (some ⟨bi, 0, none⟩)]) (enc (tmV l i)) W0 := by
  refine ⟨_, _, rfl, fun _ _ => rfl, fun W hk base s L hb ho hl hs => ?_⟩
  have BT := hbt.kpA hk hA1
  have BI := hbi.kpA hk hA2
  have t0 := BT.cell 0; have t1 := BT.cell 1; have t2 := BT.cell 2; have t3 := BT.cell 3; have i0 := BI.cell 0
  simp only [List.getElem?_toArray, List.getElem?_cons_zero, List.getElem?_cons_succ] at t0 t1 t2 t3 i0
  have HC := Lib.hid (hP (fun x => s.ownBlock = some x) W (fun k hk => (World.ownsRow.lt ho k hk).2) (hT.more hk hs))
  have HO := Lib.hid ho
  have HL := Lib.hid hl
  clear hk hs BT BI hbt hbi hT hP ho hl
  show Calls Tryd.prog 70 #[s, .pointer (some ⟨bt, 0, none⟩), .pointer (some ⟨bi, 0, none⟩)] W _
  go_enter Tryd.func70, Tryd.ntmps70
  go_wp2_with fail
  refine HC.out.mono ?_
  rintro e w2 ⟨v, rfl, hp, hb2⟩
  obtain ⟨gf, caps, rfl, eg, hpp⟩ := hp
  have HPP := Lib.hid (hpp w2 (KpA.refl _ _) base s L (Nat.le_trans hb hb2.size) (HO.out.below hb2) HL.out (fun b hb => .inl hb))
  have HB2 := Lib.hid hb2
  clear hpp hb2 HC t0 t1 t2 t3 i0
  go_wp2_with fail
  refine HPP.out.mono ?_
  rintro e w3 ⟨g, cap, rfl, ho3, hk3, hat3⟩
  have HO3 := Lib.hid ho3
  have HK3 := Lib.hid (show KpA (fun x => s.ownBlock = some x) W w3 from (kp_of_below HB2.out).trans hk3)
  have HAT : Hid (s.ownBlock = some g ∨ W.heap.size ≤ g) := Lib.hid (hat3.imp id fun h => Nat.le_trans HB2.out.size h)
  clear ho3 hk3 hat3
  go_wp2_with fail
  go_ret
  exact ⟨g, cap, rfl, HO3.out, HK3.out, HAT.out⟩
/-- No block of nodes lies above. -/
def NoN (B : Nat) (W : World) : Prop := ∀ k vs, Blk W k vs 46 → k < B
theorem NoN.at (W : World) : NoN W.heap.size W := fun _ _ h => h.lt
theorem NoN.alloc {B : Nat} {W : World} (h : NoN B W) (cs : Array Value) (t : TypeId) (ht : t ≠ 46) : NoN B (W.alloc (.cells cs t)) := fun k vs hk => by
  rcases Nat.lt_or_ge k W.heap.size with h1 | h1
  · have hb : Below W.heap.size W (W.alloc (.cells cs t)) := (Below.refl _ _).alloc (Nat.le_refl _) _
    exact h k vs ((hb.block k h1).symm.trans hk)
  · have h2 := hk.lt
    rw [World.size_alloc] at h2
    obtain rfl : k = W.heap.size := by omega
    have := (show (W.alloc (.cells cs t)).heap[W.heap.size]? = _ from Blk.new W cs t).symm.trans hk
    simp only [Option.some.injEq, Obj.cells.injEq] at this
    exact absurd this.2.1 ht
theorem NoN.set {B : Nat} {W : World} (h : NoN B W) {g : Nat} {us : Array Value} {t : TypeId} (hg : Blk W g us t) (ht : t ≠ 46) (o : Nat) (v : Value) : NoN B (W.setCell ⟨g, o, none⟩ v) := fun k vs hk => by
  by_cases e : k = g
  · subst e
    have := (show (W.setCell ⟨k, o, none⟩ v).heap[k]? = _ from hg.set o v).symm.trans hk
    simp only [Option.some.injEq, Obj.cells.injEq] at this
    exact absurd this.2.1 ht
  · exact h k vs ((Below.heap_setCell W ⟨g, o, none⟩ v k e).symm.trans hk)
theorem rep_set (vs : List Value) (u z : Value) (n : Nat) (h : vs.length < n) : ((vs ++ List.replicate (n - vs.length) z).toArray).setIfInBounds vs.length u = (vs ++ [u] ++ List.replicate (n - (vs.length + 1)) z).toArray := by
  rw [List.setIfInBounds_toArray]
  congr 1
  rw [List.set_append_right _ _ (Nat.le_refl _), Nat.sub_self, show n - vs.length = (n - (vs.length + 1)) + 1 by omega, List.replicate_succ, List.set_cons_zero, List.append_assoc]
  rfl
set_option maxRecDepth 100000 in
set_option maxHeartbeats 8000000 in
theorem lparts_calls (l : List NdN) (a : Option Addr) (ca gk : Nat) (am : Option Addr) (cm gz : Nat) (K : List Int) (hKl : K.length ≤ 1000) (kb : Option Addr) (kcap : Nat) (hP : ∀ x ∈ K, 0 ≤ x ∧ PSpec l a ca gk am cm gz x.toNat) (A : Nat → Prop) (w : World) (hA : ∀ k, A k → k < w.heap.size) (hT : TreeS A l a gk am gz w) (hI : IntsO K kb w) :
    Calls Tryd.prog 44 #[.agg (treeC l.length a ca gk am cm gz), .slice kb K.length kcap] w fun e w' => ∃ R, e = .returned (.slice (some ⟨R, 0, none⟩) K.length K.length) ∧ PtsAt A (K.map fun k => enc (tmV l k.toNat)) (some ⟨R, 0, none⟩) w' ∧ Below w.heap.size w w' ∧ NoN w.heap.size w' := by
  have hmf : ∀ (fn : Fn) (first cap : Array Value) (w : World), (Instr.makeFunc fn first cap).run Tryd.prog w = .ok (.func fn first cap) w := fun _ _ _ _ => rfl
  have HA := Lib.hid hA
  have HT := Lib.hid hT
  have HI := Lib.hid hI
  have HP := Lib.hid hP
  obtain ⟨n, hn⟩ : ∃ n, n = K.length := ⟨_, rfl⟩
  rw [← hn] at hKl ⊢
  obtain ⟨Z, hZ⟩ : ∃ Z, Z = (List.replicate n Value.nilFunc).toArray := ⟨_, rfl⟩
  have hmk := makeFn n hKl
  rw [← hZ] at hmk
  have hb1 : Below w.heap.size w ((w.alloc (.cells (treeC l.length a ca gk am cm gz) 52)).alloc (.cells Z 63)) := ((Below.refl _ _).alloc (Nat.le_refl _) _).alloc (by rw [World.size_alloc]; omega) _
  have BT := (Blk.new w (treeC l.length a ca gk am cm gz) 52).alloc (.cells Z 63)
  have BZ := Blk.new (w.alloc (.cells (treeC l.length a ca gk am cm gz) 52)) Z 63
  rw [World.size_alloc] at BZ
  have BZ2 : Blk ((w.alloc (.cells (treeC l.length a ca gk am cm gz) 52)).alloc (.cells Z 63)) (w.heap.size + 1) (([] : List Value) ++ List.replicate (n - ([] : List Value).length) Value.nilFunc).toArray 63 := by
    have e : (([] : List Value) ++ List.replicate (n - ([] : List Value).length) Value.nilFunc).toArray = Z := by rw [hZ]; rfl
    rw [e]
    exact BZ
  have HB := Lib.hid hb1
  have HBT := Lib.hid BT
  have HBZ := Lib.hid BZ2
  have HNN := Lib.hid (((NoN.at w).alloc (treeC l.length a ca gk am cm gz) 52 (by decide)).alloc Z 63 (by decide))
  have HN := Lib.hid hn
  clear hb1 BT BZ BZ2 hZ hn hA hT hI hP
  go_enter Tryd.func44, Tryd.ntmps44
  go_upto_region 2 with fail
  clear hmk
  generalize (w.alloc (.cells (treeC l.length a ca gk am cm gz) 52)).alloc (.cells Z 63) = w1 at *
  have hBTl := HBT.out.lt
  have hBZl := HBZ.out.lt
  go_wp2_with fail
  go_loopw [13] (fun vi wr => ∃ vals : List Value, vals.length ≤ n ∧ vi = .int .i64 vals.length ∧ Blk wr (w.heap.size + 1) (vals ++ List.replicate (n - vals.length) Value.nilFunc).toArray 63 ∧ (∀ q (_ : q < vals.length), ∃ hq : q < K.length, PartAt (fun k => A k ∨ k = w.heap.size + 1) vals[q] (enc (tmV l K[q].toNat)) wr) ∧ KpA (fun k => k = w.heap.size + 1) w1 wr ∧ NoN w.heap.size wr) (fun vi _ => n - (intOf vi).toNat)
  case atStart => exact ⟨[], Nat.zero_le _, rfl, HBZ.out, fun q hq => absurd hq (Nat.not_lt_zero q), KpA.refl _ _, HNN.out⟩
  case round =>
    obtain ⟨vals, hv, rfl, hR, hps, hkp, hnn⟩ := hrel
    have hbw : Below w.heap.size w wr := HB.out.trans (hkp.toBelow HB.out.size (fun k hk => by subst hk; omega))
    by_cases hlt : vals.length < n
    · have hltK : vals.length < K.length := by rw [← HN.out]; exact hlt
      obtain ⟨kg, ko, rfl, hkg, hkc⟩ := HI.out (by intro e; rw [e] at hltK; simp at hltK)
      obtain ⟨hk0, hPS⟩ := HP.out K[vals.length] (List.getElem_mem hltK)
      have r0 := (hbw.cell (p := ⟨kg, ko + vals.length, none⟩) hkg).trans (hkc vals.length hltK)
      obtain ⟨kid, hkid⟩ : ∃ m : Nat, K[vals.length] = (m : Int) := ⟨K[vals.length].toNat, by omega⟩
      have hstep : ∀ cl W, PartAt (fun k => A k ∨ k = w.heap.size + 1) cl (enc (tmV l kid)) W → KpA (fun k => k = w.heap.size + 1) wr W → ∀ q (_ : q < (vals ++ [cl]).length), ∃ hq : q < K.length, PartAt (fun k => A k ∨ k = w.heap.size + 1) (vals ++ [cl])[q] (enc (tmV l K[q].toNat)) W := fun cl W hcl hkW q hq => by
        rw [List.length_append, List.length_singleton] at hq
        rcases Nat.lt_or_ge q vals.length with h1 | h1
        · obtain ⟨h2, h3⟩ := hps q h1
          refine ⟨h2, ?_⟩
          rw [List.getElem_append_left h1]
          exact h3.kp (hkW.mono fun k hk => .inr hk)
        · obtain rfl : q = vals.length := by omega
          refine ⟨hltK, ?_⟩
          rw [List.getElem_append_right (Nat.le_refl _), hkid, Int.toNat_natCast]
          simpa using hcl
      rw [hkid, Int.toNat_natCast] at hPS
      rw [hkid] at r0
      obtain ⟨j, hj⟩ : ∃ j, j = vals.length := ⟨_, rfl⟩
      have HPS := Lib.hid hPS
      have HST := Lib.hid hstep
      have HJ := Lib.hid hj
      have HRS := Lib.hid (rep_set vals)
      have BTr := HBT.out.kpA hkp (by omega)
      have HKP := Lib.hid hkp
      have HBW := Lib.hid hbw
      have c0 := hR.cell j
      have f0 := hR.frozen j
      obtain ⟨cv, hcv⟩ : ∃ v, wr.cell? ⟨w.heap.size + 1, j, none⟩ = some v := by
        rw [c0, List.getElem?_toArray]
        rw [List.getElem?_append_right (by omega), List.getElem?_replicate, if_pos (by omega)]
        exact ⟨_, rfl⟩
      have hwr := hkp.size
      have HRR := Lib.hid hR
      have HNW := Lib.hid hnn
      have HBTr := Lib.hid BTr
      have hjj : (j : Int) < (n : Int) := by omega
      have hjn : j < n := by omega
      have xj : IntKind.i64.wrap ((j : Int) + 1) = (j : Int) + 1 := IntWalk.i64_in _ (by omega)
      rw [← hj] at r0 ⊢
      clear hkc hk0 hkid hPS hstep hj BTr hkp hbw c0 hR hps hv hlt hltK hnn
      go_upto_region 5 with fail
      have BI := Blk.new wr #[.int .i64 kid] 3
      have BTa := HBTr.out.alloc (.cells #[.int .i64 kid] 3)
      have BRa := HRR.out.alloc (.cells #[.int .i64 kid] 3)
      have hcva : (wr.alloc (.cells #[.int .i64 kid] 3)).cell? ⟨w.heap.size + 1, j, none⟩ = some cv := by
        have hb : Below wr.heap.size wr (wr.alloc (.cells #[.int .i64 kid] 3)) := (Below.refl _ _).alloc (Nat.le_refl _) _
        exact (hb.cell (p := ⟨w.heap.size + 1, j, none⟩) HRR.out.lt).trans hcv
      have hfa := BRa.frozen j
      have hKa := HKP.out.alloc (.cells #[.int .i64 kid] 3)
      have hwa : (wr.alloc (.cells #[.int .i64 kid] 3)).heap.size = wr.heap.size + 1 := World.size_alloc ..
      obtain ⟨bi, hbi⟩ : ∃ b, b = wr.heap.size := ⟨_, rfl⟩
      rw [← hbi] at BI hwa ⊢
      have HX := Lib.hid (And.intro BI (And.intro BTa (And.intro BRa hKa)))
      have HNA := Lib.hid (HNW.out.alloc #[.int .i64 kid] 3 (by decide))
      have hbi2 : w1.heap.size ≤ bi := by omega
      have hkrw : KpA (fun k => k = w.heap.size + 1) wr (wr.alloc (.cells #[.int .i64 kid] 3)) := (KpA.refl _ _).alloc _
      have HKR := Lib.hid hkrw
      have HBI := Lib.hid hbi
      clear BI BTa BRa hKa hcv f0 hwa hbi hkrw
      generalize wr.alloc (.cells #[.int .i64 kid] 3) = wa at *
      have HFIN := Lib.hid (show ∀ W, W = wa.setCell ⟨w.heap.size + 1, j, none⟩ (.func (.func 70) #[] #[.pointer (some ⟨w.heap.size, 0, none⟩), .pointer (some ⟨bi, 0, none⟩)]) → (∃ vals : List Value, vals.length ≤ n ∧ Value.int .i64 ((j : Int) + 1) = .int .i64 vals.length ∧ Blk W (w.heap.size + 1) (vals ++ List.replicate (n - vals.length) Value.nilFunc).toArray 63 ∧ (∀ q (_ : q < vals.length), ∃ hq : q < K.length, PartAt (fun k => A k ∨ k = w.heap.size + 1) vals[q] (enc (tmV l K[q].toNat)) W) ∧ KpA (fun k => k = w.heap.size + 1) w1 W ∧ NoN w.heap.size W) from fun W hW => by
        have hJ := HJ.out
        have hKW : KpA (fun k => k = w.heap.size + 1) w1 W := by rw [hW]; exact HX.out.2.2.2.set (g := w.heap.size + 1) (.inl rfl) j _
        have hKWr : KpA (fun k => k = w.heap.size + 1) wr W := by rw [hW]; exact HKR.out.set (g := w.heap.size + 1) (.inl rfl) j _
        have hBTW : Blk W w.heap.size (treeC l.length a ca gk am cm gz) 52 := by rw [hW]; exact HX.out.2.1.other (by omega) j _
        have hBIW : Blk W bi #[.int .i64 kid] 3 := by rw [hW]; exact HX.out.1.other (by omega) j _
        have hKwW2 : KpA A w W := kp_of_below (HB.out.trans (hKW.toBelow HB.out.size (fun k hk => by subst hk; omega)))
        have hcl := clo_part l a ca gk am cm gz kid HPS.out (fun k => A k ∨ k = w.heap.size + 1) w.heap.size bi W (fun h => h.elim (fun h => by have := HA.out _ h; omega) (fun h => by omega)) (fun h => h.elim (fun h => by have := HA.out _ h; omega) (fun h => by omega)) (HT.out.more hKwW2 (fun x hx => hx.imp id (fun h => by omega))) hBTW hBIW
        refine ⟨vals ++ [_], by rw [List.length_append, List.length_singleton]; omega, by rw [List.length_append, List.length_singleton, hJ]; simp, ?_, HST.out _ _ hcl hKWr, hKW, by rw [hW]; exact HNA.out.set HX.out.2.2.1 (by decide) j _⟩
        rw [hW, List.length_append, List.length_singleton, ← HRS.out _ _ n (by omega), hJ]
        exact HX.out.2.2.1.set _ _)
      go_wp2_with fail
      go_roundw
      case rel => exact HFIN.out _ rfl
      case measure => simp [intOf]; omega
    · have hlen : vals.length = n := by omega
      have hln := HN.out
      have HPT := Lib.hid (show PtsAt A (K.map fun k => enc (tmV l k.toNat)) (some ⟨w.heap.size + 1, 0, none⟩) wr from fun _ => by
        refine ⟨w.heap.size + 1, 0, rfl, hR.lt, fun h => by have := HA.out _ h; omega, fun q hq => ?_⟩
        rw [List.length_map] at hq
        obtain ⟨hq2, hpq⟩ := hps q (by omega)
        refine ⟨vals[q]'(by omega), ?_, ?_⟩
        · rw [Nat.zero_add, hR.cell q, List.getElem?_toArray, List.getElem?_append_left (by omega), List.getElem?_eq_getElem (by omega)]
        · rw [List.getElem_map]
          exact hpq.more (KpA.refl _ _) (fun x hx => .inl (.inl hx)))
      have HBW := Lib.hid hbw
      have HNW := Lib.hid hnn
      clear hR hps hkp hbw hnn
      rw [hlen]
      go_wp2_with fail
      go_ret
      exact ⟨_, rfl, HPT.out, HBW.out, HNW.out⟩
end Go.Proofs.YtpncomjpmilbkaaDoor

/- Texts put together: Qm. -/
import Derived.Test.YtpncomjpmilbkaaDoorPAb
import Derived.Test.YtpncomjpmilbkaaDoorPB
/- The developers' lower: what a node of the tree is made into. Stage 11. -/
namespace Go.Proofs.YtpncomjpmilbkaaDoor
open Go.RowKit BS

theorem wp_callE {P : Program} {o : Oper} {a : Act} {w : World} {f : FuncId} {args : Array Value} {R : Value → World → Prop} {K : Act → World → Prop} {Q : Exit → Act → World → Prop} (h : (execOp a.eval o).run P w = .ok (.enter f args) w)
    (hc : Calls P f args w fun e w' => ∃ v, e = .returned v ∧ R v w') (hK : ∀ v w', R v w' → K (a.put o.dst v) w') : o.wp P a w K Q := by
  unfold Oper.wp
  rw [h]
  refine Calls.mono hc fun e w' he => ?_
  obtain ⟨v, rfl, hR⟩ := he
  exact hK v w' hR
@[reducible] def zNd : Array Value := #[.int .i64 0, .int .i64 0, .int .i64 0, .int .i64 0, .int .u64 0, .int .u64 0, .int .u64 0, .int .u64 0]
/-- What the operations of part's first region leave: the kids' parts (11), a new node (12), values that are known (all others). -/
def UPt (KN : Nat) (c : Nat → Value) : Nat → List Value → Value → Prop
  | 11, _, v => ∃ R : Nat, v = .slice (some ⟨R, 0, none⟩) KN KN
  | 12, _, v => ∃ B : Nat, v = .pointer (some ⟨B, 0, none⟩)
  | i, _, v => v = c i
def UPc (c : Nat → Value) : Nat → List Value → Value → Prop := fun i _ v => v = c i
def VPt (A : Nat → Prop) (Ts : List (List NdN)) (n1 : Nat) : Nat → Value → World → Prop
  | 11, v, W => ∃ (R KN sz : Nat) (W3 : World), v = .slice (some ⟨R, 0, none⟩) KN KN ∧ n1 ≤ sz ∧ sz ≤ W3.heap.size ∧ PtsAt (fun k => A k ∨ (n1 ≤ k ∧ k < sz)) Ts (some ⟨R, 0, none⟩) W3 ∧ NoN sz W3 ∧ Below W3.heap.size W3 W
  | 12, v, W => ∃ B : Nat, v = .pointer (some ⟨B, 0, none⟩) ∧ n1 ≤ B ∧ Blk W B zNd 46
  | _, _, _ => True
theorem keepVPt (A : Nat → Prop) (Ts : List (List NdN)) (n1 : Nat) : ∀ i v w w', Below w.heap.size w w' → VPt A Ts n1 i v w → VPt A Ts n1 i v w' := by
  intro i v w w' hb h
  unfold VPt at *
  split <;> simp only at h
  · obtain ⟨R, KN, sz, W3, h1, h2, h3, h4, h5, h6⟩ := h
    exact ⟨R, KN, sz, W3, h1, h2, h3, h4, h5, h6.trans (hb.mono h6.size)⟩
  · obtain ⟨B, h1, h2, h3⟩ := h
    exact ⟨B, h1, h2, h3.below hb h3.lt⟩
  · trivial
/-- Parts that bear all blocks made ahead of them bear that a node is written. -/
theorem pts_out {A : Nat → Prop} {Ts : List (List NdN)} {n1 sz R B : Nat} {W3 W W' : World} {cs : Array Value} (h4 : PtsAt (fun k => A k ∨ (n1 ≤ k ∧ k < sz)) Ts (some ⟨R, 0, none⟩) W3) (h5 : NoN sz W3) (h6 : Below W3.heap.size W3 W) (hB : n1 ≤ B) (hb : Blk W B zNd 46) (hW : W' = W.setRow B cs) :
    PtsAt A Ts (some ⟨R, 0, none⟩) W' := fun hne => by
  have hk : KpA (fun k => A k ∨ (n1 ≤ k ∧ k < sz)) W3 W' := by
    rw [hW]
    refine KpA.row (kp_of_below h6) (g := B) ?_ cs
    rcases Nat.lt_or_ge B W3.heap.size with h | h
    · exact .inl (.inr ⟨hB, h5 B zNd ((h6.block B h).symm.trans hb)⟩)
    · exact .inr h
  obtain ⟨g, o, e, h7, h8, h9⟩ := h4 hne
  refine ⟨g, o, e, Nat.lt_of_lt_of_le h7 hk.size, fun h => h8 (.inl h), fun i hi => ?_⟩
  obtain ⟨v, h10, h11⟩ := h9 i hi
  exact ⟨v, (hk.cell h7 h8 (o + i)).trans h10, h11.more hk (fun x hx => .inl (.inl hx))⟩
set_option maxRecDepth 100000 in
set_option maxHeartbeats 16000000 in
theorem lpart_step (l : List NdN) (hl : l.length ≤ 1000) (hr : rightR l = true) (a : Option Addr) (ca gk : Nat) (am : Option Addr) (cm gz i : Nat) (hi : i < l.length) (ih : ∀ q, q < i → PSpec l a ca gk am cm gz q) : PSpec l a ca gk am cm gz i := by
  intro A w hA hT
  have hf := right_formed l hr
  have h := hT.at
  obtain ⟨g, off, rfl, hg, hc⟩ := h.nodes (by intro e; subst e; simp at hi)
  obtain ⟨kb, kcap, hq1, hq2⟩ := h.kids i hi
  have hNM := Lib.hid h.nums
  have hNL : (numsR l).length = l.length := by rw [numsR_len]; exact (formed_stack l hf).2.2.1
  have HCP := Lib.hid (fun hk W hW => lcopies_calls l hl hr i hi hk (some ⟨g, off, none⟩) ca gk am cm gz W hW)
  have HNR := Lib.hid (node_right l hr i hi)
  have HTE := Lib.hid (tm_eps l hr i hi)
  have HTL := Lib.hid (tm_leaf l hr i hi)
  have HTG := Lib.hid (tm_grp l hr i hi)
  have HTO := Lib.hid (tm_of l hr i hi)
  have HTC := Lib.hid (tm_cat l hr i hi)
  have HTA := Lib.hid (tm_alt l hr i hi)
  have hkb := kids_le l i
  have HPK := Lib.hid (fun A W hA hT hI => lparts_calls l (some ⟨g, off, none⟩) ca gk am cm gz (kidsR l i) (Nat.le_trans hkb hl) kb kcap (fun x hx => by
    obtain ⟨h1, h2⟩ := kid_lt l hf i hi x hx
    exact ⟨h1, ih x.toNat (by omega)⟩) A W hA hT hI)
  have hgk := h.kl
  have d0 := hc i hi 0 (by decide); have d1 := hc i hi 1 (by decide); have d2 := hc i hi 2 (by decide); have d3 := hc i hi 3 (by decide); have d4 := hc i hi 4 (by decide); have d5 := hc i hi 5 (by decide); have d6 := hc i hi 6 (by decide); have d7 := hc i hi 7 (by decide)
  obtain ⟨tv, htv⟩ : ∃ t, t = tmV l i := ⟨_, rfl⟩
  rw [← htv] at HTE HTL HTG HTO HTC HTA ⊢
  clear hc htv ih
  generalize kidsR l i = K at *
  generalize l[i] = x at *
  obtain ⟨k, kc, n, m, t⟩ := x
  simp only [ndA, List.getElem?_toArray, List.getElem?_cons_zero, List.getElem?_cons_succ, Nat.add_zero] at d0 d1 d2 d3 d4 d5 d6 d7
  obtain ⟨KN, hKN⟩ : ∃ n, n = K.length := ⟨_, rfl⟩
  have HKN := Lib.hid hKN
  rw [← hKN] at hq1 HPK hkb
  have hKNb : KN ≤ 1000 := Nat.le_trans hkb hl
  have hb1 : Below w.heap.size w (w.alloc (.cells (treeC l.length (some ⟨g, off, none⟩) ca gk am cm gz) 52)) := (Below.refl _ _).alloc (Nat.le_refl _) _
  have BT := Blk.new w (treeC l.length (some ⟨g, off, none⟩) ca gk am cm gz) 52
  have HB := Lib.hid hb1
  have HBT := Lib.hid BT
  have HD := Lib.hid (And.intro hq1 (And.intro d0 (And.intro d1 (And.intro d2 (And.intro d3 (And.intro d4 (And.intro d5 (And.intro d6 d7))))))))
  have HA := Lib.hid hA
  have HT := Lib.hid hT
  have HI := Lib.hid hq2
  have hii : (i : Int) < (l.length : Int) := by omega
  clear hb1 BT d0 d1 d2 d3 d4 d5 d6 d7 hq1 hq2 hA hT h hKN hkb
  go_enter Tryd.func25, Tryd.ntmps25
  go_upto_region 1 with fail
  generalize w.alloc (.cells (treeC l.length (some ⟨g, off, none⟩) ca gk am cm gz) 52) = w1 at *
  have hBl := HBT.out.lt
  have HFA := Lib.hid (show ∀ W, Below w1.heap.size w1 W → W.cell? ⟨w.heap.size, 0, none⟩ = some (.slice (some ⟨g, off, none⟩) l.length ca) ∧ W.cell? ⟨w.heap.size, 1, none⟩ = some (.slice (some ⟨gk, 0, none⟩) l.length l.length) ∧ W.cell? ⟨gk, i, none⟩ = some (.slice kb KN kcap) ∧ W.cell? ⟨g, off + i * 8, none⟩ = some (.int .i64 k) ∧ W.cell? ⟨g, off + i * 8 + 1, none⟩ = some (.int .i64 kc) ∧ W.cell? ⟨g, off + i * 8 + 2, none⟩ = some (.int .i64 n) ∧ W.cell? ⟨g, off + i * 8 + 3, none⟩ = some (.int .i64 m) ∧ W.cell? ⟨g, off + i * 8 + 4, none⟩ = some (.int .u64 (wd t 0)) ∧ W.cell? ⟨g, off + i * 8 + 5, none⟩ = some (.int .u64 (wd t 1)) ∧ W.cell? ⟨g, off + i * 8 + 6, none⟩ = some (.int .u64 (wd t 2)) ∧ W.cell? ⟨g, off + i * 8 + 7, none⟩ = some (.int .u64 (wd t 3)) ∧ W.cell? ⟨w.heap.size, 2, none⟩ = some (.slice am l.length cm) ∧ W.cell? ⟨w.heap.size, 3, none⟩ = some (.slice (some ⟨gz, 0, none⟩) l.length l.length) from fun W hW => by
    have hBW := HBT.out.below hW hBl
    have hwW := HB.out.trans (hW.mono HB.out.size)
    have t0 := hBW.cell 0; have t1 := hBW.cell 1; have t2 := hBW.cell 2; have t3 := hBW.cell 3
    simp only [List.getElem?_toArray, List.getElem?_cons_zero, List.getElem?_cons_succ] at t0 t1 t2 t3
    obtain ⟨hq1, d0, d1, d2, d3, d4, d5, d6, d7⟩ := HD.out
    exact ⟨t0, t1, (hwW.cell (p := ⟨gk, i, none⟩) hgk).trans hq1, (hwW.cell (p := ⟨g, off + i * 8, none⟩) hg).trans d0, (hwW.cell (p := ⟨g, off + i * 8 + 1, none⟩) hg).trans d1, (hwW.cell (p := ⟨g, off + i * 8 + 2, none⟩) hg).trans d2, (hwW.cell (p := ⟨g, off + i * 8 + 3, none⟩) hg).trans d3, (hwW.cell (p := ⟨g, off + i * 8 + 4, none⟩) hg).trans d4, (hwW.cell (p := ⟨g, off + i * 8 + 5, none⟩) hg).trans d5, (hwW.cell (p := ⟨g, off + i * 8 + 6, none⟩) hg).trans d6, (hwW.cell (p := ⟨g, off + i * 8 + 7, none⟩) hg).trans d7, t2, t3⟩)
  have HPA := Lib.hid (show ∀ W, Below w1.heap.size w1 W → Calls Tryd.prog 44 #[.agg (treeC l.length (some ⟨g, off, none⟩) ca gk am cm gz), .slice kb KN kcap] W fun e w' => ∃ v, e = .returned v ∧ (∃ R : Nat, v = .slice (some ⟨R, 0, none⟩) KN KN) ∧ VPt A (K.map fun k => enc (tmV l k.toNat)) w1.heap.size 11 v w' ∧ Below W.heap.size W w' from fun W hW => by
    refine (HPK.out (fun k => A k ∨ (w1.heap.size ≤ k ∧ k < W.heap.size)) W (fun k hk => hk.elim (fun h => by have := HA.out k h; have := HB.out.size; have := hW.size; omega) (fun h => h.2)) (HT.out.more (kp_of_below (HB.out.trans (hW.mono HB.out.size))) (fun x hx => hx.imp id (fun h => by have := HB.out.size; omega))) (HI.out.below (HB.out.trans (hW.mono HB.out.size)))).mono ?_
    rintro e w3 ⟨R, rfl, h1, h2, h3⟩
    exact ⟨_, rfl, ⟨R, rfl⟩, ⟨R, KN, W.heap.size, w3, rfl, hW.size, h2.size, h1, h3, Below.refl _ _⟩, h2⟩)
  have hni : (Tryd.prog.info? 46).map (·.size) = some 8 := by kernel_rfl
  go_cut [5, 6] from 7 to 18 (fun v5 v6 wx => ∃ B5 R : Nat, v5 = .pointer (some ⟨B5, 0, none⟩) ∧ v6 = .slice (some ⟨R, 0, none⟩) KN KN ∧ Blk wx B5 (ndI k kc n m t) 46 ∧ w1.heap.size ≤ B5 ∧ PtsAt A (K.map fun k => enc (tmV l k.toNat)) (some ⟨R, 0, none⟩) wx ∧ Below w1.heap.size w1 wx)
  case first =>
    have hS0 : Below w1.heap.size w1 w1.drew := (Below.refl _ _).drew
    refine region_stepsRT (S := fun W => Below w1.heap.size w1 W) (U := UPt KN (fun q => match q with | 0 => .pointer (some ⟨w.heap.size, 0, none⟩) | 1 => .slice (some ⟨g, off, none⟩) l.length ca | 2 => .int .i64 (i : Nat) | 3 => .pointer (some ⟨g, off + i * 8, none⟩) | 4 => .agg (ndI k kc n m t) | 5 => .agg (treeC l.length (some ⟨g, off, none⟩) ca gk am cm gz) | 6 => .pointer (some ⟨w.heap.size, 1, none⟩) | 7 => .slice (some ⟨gk, 0, none⟩) l.length l.length | 8 => .int .i64 (i : Nat) | 9 => .pointer (some ⟨gk, i, none⟩) | 10 => .slice kb KN kcap | _ => undef)) (V := VPt A (K.map fun k => enc (tmV l k.toNat)) w1.heap.size) (m := 13) (n := 13) (r := 2) rfl (by kernel_rfl) (fun _ _ hb hs => hs.trans (hb.mono hs.size)) (keepVPt _ _ _) (by kernel_rfl) hS0 ?_
    clear hS0
    simp only [List.size_toArray, List.length_cons, List.length_nil, Nat.reduceAdd, Array.replicate_succ, Array.replicate_zero, List.push_toArray, List.nil_append, List.cons_append]
    refine AnyRT.step (m := 13) (i := 0) (d := some 7) [0] rfl rfl (by kernel_rfl) (by kernel_rfl) (by kernel_rfl) (by kernel_rfl) (by kernel_rfl) ?_ ?_ ?_
    · exact ⟨_, rfl⟩
    · refine StepsR.yield (.pointer (some ⟨w.heap.size, 0, none⟩)) rfl (by kernel_rfl) (fun w' hS hD => ⟨?_, trivial⟩)
      obtain ⟨t0, t1, q1, d0, d1, d2, d3, d4, d5, d6, d7, t2, t3⟩ := HFA.out w' hS; clear hS hD; go_simp
      try rfl
    intro v' hv' a' ha'
    have hv' : .pointer (some ⟨w.heap.size, 0, none⟩) = v' := Eq.symm hv'
    subst hv'
    simp only [Act.put, List.setIfInBounds_toArray, List.set_cons_zero, List.set_cons_succ] at ha'
    subst ha'
    refine AnyRT.step (m := 13) (i := 1) (d := some 8) [1] rfl rfl (by kernel_rfl) (by kernel_rfl) (by kernel_rfl) (by kernel_rfl) (by kernel_rfl) ?_ ?_ ?_
    · exact ⟨_, rfl⟩
    · refine StepsR.yield (.slice (some ⟨g, off, none⟩) l.length ca) rfl (by kernel_rfl) (fun w' hS hD => ⟨?_, trivial⟩)
      obtain ⟨t0, t1, q1, d0, d1, d2, d3, d4, d5, d6, d7, t2, t3⟩ := HFA.out w' hS; clear hS hD; go_simp
      try rfl
    intro v' hv' a' ha'
    have hv' : .slice (some ⟨g, off, none⟩) l.length ca = v' := Eq.symm hv'
    subst hv'
    simp only [Act.put, List.setIfInBounds_toArray, List.set_cons_zero, List.set_cons_succ] at ha'
    subst ha'
    refine AnyRT.step (m := 13) (i := 2) (d := some 9) [2] rfl rfl (by kernel_rfl) (by kernel_rfl) (by kernel_rfl) (by kernel_rfl) (by kernel_rfl) ?_ ?_ ?_
    · exact ⟨_, rfl⟩
    · refine StepsR.yield (.int .i64 (i : Nat)) rfl (by kernel_rfl) (fun w' hS hD => ⟨?_, trivial⟩)
      obtain ⟨t0, t1, q1, d0, d1, d2, d3, d4, d5, d6, d7, t2, t3⟩ := HFA.out w' hS; clear hS hD; go_simp
      try rfl
    intro v' hv' a' ha'
    have hv' : .int .i64 (i : Nat) = v' := Eq.symm hv'
    subst hv'
    simp only [Act.put, List.setIfInBounds_toArray, List.set_cons_zero, List.set_cons_succ] at ha'
    subst ha'
    refine AnyRT.step (m := 13) (i := 3) (d := some 10) [3] rfl rfl (by kernel_rfl) (by kernel_rfl) (by kernel_rfl) (by kernel_rfl) (by kernel_rfl) ?_ ?_ ?_
    · exact ⟨_, rfl⟩
    · refine StepsR.yield (.pointer (some ⟨g, off + i * 8, none⟩)) rfl (by kernel_rfl) (fun w' hS hD => ⟨?_, trivial⟩)
      obtain ⟨t0, t1, q1, d0, d1, d2, d3, d4, d5, d6, d7, t2, t3⟩ := HFA.out w' hS; clear hS hD; go_simp
      try rfl
    intro v' hv' a' ha'
    have hv' : .pointer (some ⟨g, off + i * 8, none⟩) = v' := Eq.symm hv'
    subst hv'
    simp only [Act.put, List.setIfInBounds_toArray, List.set_cons_zero, List.set_cons_succ] at ha'
    subst ha'
    refine AnyRT.step (m := 13) (i := 4) (d := some 11) [4] rfl rfl (by kernel_rfl) (by kernel_rfl) (by kernel_rfl) (by kernel_rfl) (by kernel_rfl) ?_ ?_ ?_
    · exact ⟨_, rfl⟩
    · refine StepsR.yield (.agg (ndI k kc n m t)) rfl (by kernel_rfl) (fun w' hS hD => ⟨?_, trivial⟩)
      obtain ⟨t0, t1, q1, d0, d1, d2, d3, d4, d5, d6, d7, t2, t3⟩ := HFA.out w' hS; clear hS hD; go_simp
      try rfl
    intro v' hv' a' ha'
    have hv' : .agg (ndI k kc n m t) = v' := Eq.symm hv'
    subst hv'
    simp only [Act.put, List.setIfInBounds_toArray, List.set_cons_zero, List.set_cons_succ] at ha'
    subst ha'
    refine AnyRT.step (m := 13) (i := 5) (d := some 12) [11, 5] rfl rfl (by kernel_rfl) (by kernel_rfl) (by kernel_rfl) (by kernel_rfl) (by kernel_rfl) ?_ ?_ ?_
    · exact ⟨_, rfl⟩
    · refine StepsR.yield (.agg (treeC l.length (some ⟨g, off, none⟩) ca gk am cm gz)) rfl (by kernel_rfl) (fun w' hS hD => ⟨?_, trivial⟩)
      obtain ⟨t0, t1, q1, d0, d1, d2, d3, d4, d5, d6, d7, t2, t3⟩ := HFA.out w' hS; clear hS hD; go_simp
      try rfl
    intro v' hv' a' ha'
    have hv' : .agg (treeC l.length (some ⟨g, off, none⟩) ca gk am cm gz) = v' := Eq.symm hv'
    subst hv'
    simp only [Act.put, List.setIfInBounds_toArray, List.set_cons_zero, List.set_cons_succ] at ha'
    subst ha'
    refine AnyRT.step (m := 13) (i := 6) (d := some 13) [11, 10, 9, 7, 6] rfl rfl (by kernel_rfl) (by kernel_rfl) (by kernel_rfl) (by kernel_rfl) (by kernel_rfl) ?_ ?_ ?_
    · exact ⟨_, rfl⟩
    · refine StepsR.yield (.pointer (some ⟨w.heap.size, 1, none⟩)) rfl (by kernel_rfl) (fun w' hS hD => ⟨?_, trivial⟩)
      obtain ⟨t0, t1, q1, d0, d1, d2, d3, d4, d5, d6, d7, t2, t3⟩ := HFA.out w' hS; clear hS hD; go_simp
      try rfl
    intro v' hv' a' ha'
    have hv' : .pointer (some ⟨w.heap.size, 1, none⟩) = v' := Eq.symm hv'
    subst hv'
    simp only [Act.put, List.setIfInBounds_toArray, List.set_cons_zero, List.set_cons_succ] at ha'
    subst ha'
    refine AnyRT.step (m := 13) (i := 7) (d := some 14) [11, 10, 9, 7] rfl rfl (by kernel_rfl) (by kernel_rfl) (by kernel_rfl) (by kernel_rfl) (by kernel_rfl) ?_ ?_ ?_
    · exact ⟨_, rfl⟩
    · refine StepsR.yield (.slice (some ⟨gk, 0, none⟩) l.length l.length) rfl (by kernel_rfl) (fun w' hS hD => ⟨?_, trivial⟩)
      obtain ⟨t0, t1, q1, d0, d1, d2, d3, d4, d5, d6, d7, t2, t3⟩ := HFA.out w' hS; clear hS hD; go_simp
      try rfl
    intro v' hv' a' ha'
    have hv' : .slice (some ⟨gk, 0, none⟩) l.length l.length = v' := Eq.symm hv'
    subst hv'
    simp only [Act.put, List.setIfInBounds_toArray, List.set_cons_zero, List.set_cons_succ] at ha'
    subst ha'
    refine AnyRT.step (m := 13) (i := 8) (d := some 15) [11, 10, 9, 8] rfl rfl (by kernel_rfl) (by kernel_rfl) (by kernel_rfl) (by kernel_rfl) (by kernel_rfl) ?_ ?_ ?_
    · exact ⟨_, rfl⟩
    · refine StepsR.yield (.int .i64 (i : Nat)) rfl (by kernel_rfl) (fun w' hS hD => ⟨?_, trivial⟩)
      obtain ⟨t0, t1, q1, d0, d1, d2, d3, d4, d5, d6, d7, t2, t3⟩ := HFA.out w' hS; clear hS hD; go_simp
      try rfl
    intro v' hv' a' ha'
    have hv' : .int .i64 (i : Nat) = v' := Eq.symm hv'
    subst hv'
    simp only [Act.put, List.setIfInBounds_toArray, List.set_cons_zero, List.set_cons_succ] at ha'
    subst ha'
    refine AnyRT.step (m := 13) (i := 9) (d := some 16) [11, 10, 9] rfl rfl (by kernel_rfl) (by kernel_rfl) (by kernel_rfl) (by kernel_rfl) (by kernel_rfl) ?_ ?_ ?_
    · exact ⟨_, rfl⟩
    · refine StepsR.yield (.pointer (some ⟨gk, i, none⟩)) rfl (by kernel_rfl) (fun w' hS hD => ⟨?_, trivial⟩)
      obtain ⟨t0, t1, q1, d0, d1, d2, d3, d4, d5, d6, d7, t2, t3⟩ := HFA.out w' hS; clear hS hD; go_simp
      try rfl
    intro v' hv' a' ha'
    have hv' : .pointer (some ⟨gk, i, none⟩) = v' := Eq.symm hv'
    subst hv'
    simp only [Act.put, List.setIfInBounds_toArray, List.set_cons_zero, List.set_cons_succ] at ha'
    subst ha'
    refine AnyRT.step (m := 13) (i := 10) (d := some 17) [11, 10] rfl rfl (by kernel_rfl) (by kernel_rfl) (by kernel_rfl) (by kernel_rfl) (by kernel_rfl) ?_ ?_ ?_
    · exact ⟨_, rfl⟩
    · refine StepsR.yield (.slice kb KN kcap) rfl (by kernel_rfl) (fun w' hS hD => ⟨?_, trivial⟩)
      obtain ⟨t0, t1, q1, d0, d1, d2, d3, d4, d5, d6, d7, t2, t3⟩ := HFA.out w' hS; clear hS hD; go_simp
      try rfl
    intro v' hv' a' ha'
    have hv' : .slice kb KN kcap = v' := Eq.symm hv'
    subst hv'
    simp only [Act.put, List.setIfInBounds_toArray, List.set_cons_zero, List.set_cons_succ] at ha'
    subst ha'
    refine AnyRT.step (m := 13) (i := 11) (d := some 18) [11] rfl rfl (by kernel_rfl) (by kernel_rfl) (by kernel_rfl) (by kernel_rfl) (by kernel_rfl) ?_ ?_ ?_
    · exact ⟨.slice (some ⟨0, 0, none⟩) KN KN, 0, rfl⟩
    · exact StepsR.call (by kernel_rfl) (fun w' hS => by clear hS; go_simp) (fun w' hS hD => HPA.out w' hS)
    rintro v' ⟨R11, rfl⟩ a' ha'
    simp only [Act.put, List.setIfInBounds_toArray, List.set_cons_zero, List.set_cons_succ] at ha'
    subst ha'
    refine AnyRT.step (m := 13) (i := 12) (d := some 5) [12] rfl rfl (by kernel_rfl) (by kernel_rfl) (by kernel_rfl) (by kernel_rfl) (by kernel_rfl) ?_ ?_ ?_
    · exact ⟨.pointer (some ⟨0, 0, none⟩), 0, rfl⟩
    · refine StepsR.made (by kernel_rfl) (fun w' hS hD => ?_)
      refine ⟨.pointer (some ⟨w'.heap.size, 0, none⟩), w'.alloc (.cells zNd 46), ?_, ⟨_, rfl⟩, ⟨_, rfl, hS.size, Blk.new w' _ _⟩, (Below.refl _ _).alloc (Nat.le_refl _) _⟩
      clear hS hD
      go_simp
      try rfl
    rintro v' ⟨B12, rfl⟩ a' ha'
    simp only [Act.put, List.setIfInBounds_toArray, List.set_cons_zero, List.set_cons_succ] at ha'
    subst ha'
    refine AnyRT.last (by kernel_rfl) (fun w9 hS hF => ?_)
    have h11 := hF 11 _ 18 (by kernel_rfl) rfl rfl
    have h12 := hF 12 _ 5 (by kernel_rfl) rfl rfl
    obtain ⟨R', KN', sz, W3, e11, g1, g2, g3, g4, g5⟩ := h11
    obtain ⟨B', e12, k1, k2⟩ := h12
    have e11' : Value.slice (some ⟨R11, 0, none⟩) KN KN = .slice (some ⟨R', 0, none⟩) KN' KN' := e11
    have e12' : Value.pointer (some ⟨B12, 0, none⟩) = .pointer (some ⟨B', 0, none⟩) := e12
    cases e11'
    cases e12'
    have hPO := Lib.hid (pts_out (cs := ndI k kc n m t) g3 g4 g5 k1 k2 rfl)
    have HBX := Lib.hid (Blk.setRow (cs := ndI k kc n m t) k2)
    have HBB := Lib.hid (below_row hS k1 (ndI k kc n m t))
    refine wpAny_one (i := 13) (o := ⟨none, .store 46 (.tmp 5) (.tmp 11), _, _, _, _⟩) (by kernel_rfl) rfl (by kernel_rfl) ?_
    refine wp_store_row 46 _ _ rfl B12 rfl rfl (run_storeAt_row w9 B12 46 46 zNd (ndI k kc n m t) k2 hni rfl (by simp [Value.oneCell'])) ?_
    clear hS hF g1 g2 g3 g4 g5 k2 e11 e12
    have hb12 := k1
    refine wpAny_one (i := 14) (o := ⟨some 6, .assign (.tmp 18), _, _, _, _⟩) (by kernel_rfl) rfl (by kernel_rfl) ?_
    generalize w9.setRow B12 (ndI k kc n m t) = wq at *
    show wpAny Tryd.prog _ _ _ 0 _ (Act.put _ (some 6) (.slice (some ⟨R11, 0, none⟩) KN KN)) wq
    refine wpAny_none (P := Tryd.prog) (by kernel_rfl) ?_
    simp only [Act.put, List.setIfInBounds_toArray, List.set_cons_zero, List.set_cons_succ]
    go_wp2_with fail
    go_meet
    exact ⟨_, _, rfl, rfl, HBX.out, hb12, hPO.out, HBB.out⟩
  case rest =>
  obtain ⟨B5, R, rfl, rfl, hX, hB5, hpts, hbc⟩ := hcut
  have HPT := Lib.hid hpts
  have HBW := Lib.hid (HB.out.trans (hbc.mono HB.out.size))
  have HAW : Hid (∀ q, A q → q < wc.heap.size) := Lib.hid fun q hq => Nat.lt_of_lt_of_le (HA.out q hq) HBW.out.size
  have HBC := Lib.hid hbc
  obtain ⟨t0, t1, -, -, -, -, -, -, -, -, -, t2, t3⟩ := HFA.out wc hbc
  have x0 := hX.cell 0
  simp only [List.getElem?_toArray, List.getElem?_cons_zero] at x0
  have HXB := Lib.hid hX
  have hwl : w.heap.size < wc.heap.size := Nat.lt_of_lt_of_le hBl hbc.size
  clear hX hpts hbc HPA HPK HFA HD HBT
  rcases HNR.out with ⟨hk, hK⟩ | ⟨hk, hK⟩ | ⟨kd, hk, hK, ha⟩ | ⟨kd, hk, hK, ha, hrn⟩ | ⟨hk, hK⟩
  · have hk' : k = 1 := hk
    subst hk'
    have HTV := Lib.hid (HTE.out (.inl rfl))
    clear HNR HTE HTL HTG HTO HTC HTA hK HCP
    go_wp2_with fail
    refine (eps_calls A wc HAW.out).mono ?_
    rintro e w2 ⟨v, rfl, hp, hb⟩
    have HP := Lib.hid hp
    have HBB := Lib.hid (HBW.out.trans (hb.mono HBW.out.size))
    clear hp hb
    go_wp2_with fail
    go_ret
    exact ⟨_, rfl, by rw [HTV.out]; exact HP.out, HBB.out⟩
  · have hk' : k = 2 := hk
    subst hk'
    have HTV := Lib.hid (HTL.out rfl)
    have x4 := HXB.out.cell 4; have x5 := HXB.out.cell 5; have x6 := HXB.out.cell 6; have x7 := HXB.out.cell 7
    simp only [List.getElem?_toArray, List.getElem?_cons_zero, List.getElem?_cons_succ] at x4 x5 x6 x7
    clear HNR HTE HTL HTG HTO HTC HTA hK HCP
    have HC := Lib.hid (lnode_calls A 2 0 0 0 t [] (by simp) (by simp) none 0 wc HAW.out (PtsAt.nil _ _ _))
    go_wp2_with fail
    refine HC.out.mono ?_
    rintro e w2 ⟨v, rfl, hp, hb⟩
    have HP := Lib.hid hp
    have HBB := Lib.hid (HBW.out.trans (hb.mono HBW.out.size))
    clear hp hb HC
    go_wp2_with fail
    go_ret
    exact ⟨_, rfl, by rw [HTV.out]; exact HP.out, HBB.out⟩
  · have hk' : k = 3 := hk
    subst hk'
    have HTV := Lib.hid (HTG.out rfl kd hK)
    have hKN1 : KN = 1 := by rw [HKN.out, hK]; rfl
    have hpt := HPT.out
    rw [hK] at hpt
    have HPT1 := Lib.hid hpt
    obtain ⟨ng, no, rfl, hng, hnc⟩ := hNM.out (by intro e; rw [e] at hNL; simp at hNL; omega)
    have y0 := (HBW.out.cell (p := ⟨ng, no + i, none⟩) hng).trans (hnc i (by omega))
    obtain ⟨nu, hnu⟩ : ∃ q, q = (numsR l)[i]'(by omega) := ⟨_, rfl⟩
    rw [← hnu] at y0
    have hTV := HTV.out
    rw [List.getD_eq_getElem?_getD, List.getElem?_eq_getElem (by omega), Option.getD_some, ← hnu] at hTV
    have HTV2 := Lib.hid hTV
    have hil : i < l.length := hi
    clear HNR HTE HTL HTG HTO HTC HTA hK HCP HTV hTV hnc hnu hpt HPT
    subst hKN1
    have HC := Lib.hid (lnode_z A 7 nu [enc (tmV l kd)] (by simp) (by simp [enc_ne]) (some ⟨R, 0, none⟩) 1 1 rfl wc HAW.out HPT1.out)
    go_wp2_with fail
    refine HC.out.mono ?_
    rintro e w2 ⟨v, rfl, hp, hb⟩
    have HP := Lib.hid hp
    have HBB := Lib.hid (HBW.out.trans (hb.mono HBW.out.size))
    clear hp hb HC
    go_wp2_with fail
    go_ret
    exact ⟨_, rfl, by rw [HTV2.out]; exact HP.out, HBB.out⟩
  · have hk' : k = 4 := hk
    subst hk'
    have HTV := Lib.hid (HTO.out rfl kd hK hrn)
    have hKN1 : KN = 1 := by rw [HKN.out, hK]; rfl
    have hpt := HPT.out
    rw [hK] at hpt
    obtain ⟨hs, hlk, hst, hsl⟩ := cSLT_le ⟨4, kc, n, m, t⟩ (nulV l kd) hrn
    have hcs := HCP.out rfl
    rw [hK, show (([(kd : Int)] : List Int).headD 0).toNat = kd from rfl] at hcs
    obtain ⟨gR, oR, eR, hgR, hAR, hcR⟩ := hpt (by simp)
    cases eR
    obtain ⟨vq, hvq1, hvq2⟩ := hcR 0 (by simp)
    have hvq3 : PartAt A vq (enc (tmV l kd)) wc := hvq2
    have hTV := HTV.out
    generalize cS ⟨4, kc, n, m, t⟩ (nulV l kd) = s at *
    generalize cL ⟨4, kc, n, m, t⟩ (nulV l kd) = lk at *
    generalize cT ⟨4, kc, n, m, t⟩ = st at *
    have HTV2 := Lib.hid hTV
    have HVQ := Lib.hid hvq3
    obtain ⟨gq, cq, rfl, -⟩ := hvq3
    have HCS := Lib.hid (show ∀ W, Below wc.heap.size wc W → Calls Tryd.prog 46 #[.agg (treeC l.length (some ⟨g, off, none⟩) ca gk am cm gz), .int .i64 i] W fun e w' => e = .returned (.agg #[.int .i64 s, .int .i64 lk, .int .i64 st]) ∧ Below W.heap.size W w' from fun W hW => hcs W (HT.out.below (HBW.out.trans (hW.mono HBW.out.size))).at)
    have HF8 := Lib.hid (show ∀ W, Below wc.heap.size wc W → W.cell? ⟨w.heap.size, 0, none⟩ = some (.slice (some ⟨g, off, none⟩) l.length ca) ∧ W.cell? ⟨w.heap.size, 1, none⟩ = some (.slice (some ⟨gk, 0, none⟩) l.length l.length) ∧ W.cell? ⟨w.heap.size, 2, none⟩ = some (.slice am l.length cm) ∧ W.cell? ⟨w.heap.size, 3, none⟩ = some (.slice (some ⟨gz, 0, none⟩) l.length l.length) from fun W hW => ⟨(hW.cell (p := ⟨w.heap.size, 0, none⟩) hwl).trans t0, (hW.cell (p := ⟨w.heap.size, 1, none⟩) hwl).trans t1, (hW.cell (p := ⟨w.heap.size, 2, none⟩) hwl).trans t2, (hW.cell (p := ⟨w.heap.size, 3, none⟩) hwl).trans t3⟩)
    have HZ8 := Lib.hid (show ∀ W, Below wc.heap.size wc W → W.cell? ⟨R, 0, none⟩ = some (.func (.func gq) #[] cq) from fun W hW => (hW.cell (p := ⟨R, 0, none⟩) hgR).trans (by simpa using hvq1))
    have HOF := Lib.hid (show ∀ W, Below wc.heap.size wc W → Calls Tryd.prog 47 #[.agg #[.int .i64 s, .int .i64 lk, .int .i64 st], .func (.func gq) #[] cq] W fun e w' => ∃ v, e = .returned v ∧ (PartAt A v (enc (ofC (tmV l kd) s lk st)) w' ∧ Below wc.heap.size wc w') from fun W hW => by
      refine (of_calls A s lk st (by omega) (by omega) (by omega) hsl _ (tmV l kd) W (fun q hq => Nat.lt_of_lt_of_le (HAW.out q hq) hW.size) (HVQ.out.below hW)).mono ?_
      rintro e w' ⟨v, rfl, h1, h2⟩
      exact ⟨v, rfl, h1, hW.trans (h2.mono hW.size)⟩)
    clear HNR HTE HTL HTG HTO HTC HTA hK HCP HTV hTV hpt hcs hcR hvq1 hvq2 t0 t1 t2 t3
    subst hKN1
    go_upto_region 8 with fail
    have hS0 : Below wc.heap.size wc wc.drew := (Below.refl _ _).drew
    refine region_stepsRT (S := fun W => Below wc.heap.size wc W) (U := UPc (fun q => match q with | 0 => .agg (treeC l.length (some ⟨g, off, none⟩) ca gk am cm gz) | 1 => .int .i64 (i : Nat) | 2 => .agg #[.int .i64 s, .int .i64 lk, .int .i64 st] | 3 => .slice (some ⟨R, 0, none⟩) 1 1 | 4 => .pointer (some ⟨R, 0, none⟩) | 5 => .func (.func gq) #[] cq | _ => undef)) (V := fun _ _ _ => True) (m := 6) (n := 6) (r := 2) rfl (by kernel_rfl) (fun _ _ hb hs => hs.trans (hb.mono hs.size)) (fun _ _ _ _ _ _ => trivial) (by kernel_rfl) hS0 ?_
    clear hS0
    simp only [List.size_toArray, List.length_cons, List.length_nil, Nat.reduceAdd, Array.replicate_succ, Array.replicate_zero, List.push_toArray, List.nil_append, List.cons_append]
    refine AnyRT.step (m := 6) (i := 0) (d := some 39) [2, 0] rfl rfl (by kernel_rfl) (by kernel_rfl) (by kernel_rfl) (by kernel_rfl) (by kernel_rfl) ?_ ?_ ?_
    · exact ⟨_, rfl⟩
    · refine StepsR.yield (.agg (treeC l.length (some ⟨g, off, none⟩) ca gk am cm gz)) rfl (by kernel_rfl) (fun w' hS hD => ⟨?_, trivial⟩)
      obtain ⟨t0, t1, t2, t3⟩ := HF8.out w' hS; clear hS hD; go_simp
      try rfl
    intro v' hv' a' ha'
    have hv' : .agg (treeC l.length (some ⟨g, off, none⟩) ca gk am cm gz) = v' := Eq.symm hv'
    subst hv'
    simp only [Act.put, List.setIfInBounds_toArray, List.set_cons_zero, List.set_cons_succ] at ha'
    subst ha'
    refine AnyRT.step (m := 6) (i := 1) (d := some 40) [2, 1] rfl rfl (by kernel_rfl) (by kernel_rfl) (by kernel_rfl) (by kernel_rfl) (by kernel_rfl) ?_ ?_ ?_
    · exact ⟨_, rfl⟩
    · refine StepsR.yield (.int .i64 (i : Nat)) rfl (by kernel_rfl) (fun w' hS hD => ⟨?_, trivial⟩)
      clear hS hD; go_simp
      try rfl
    intro v' hv' a' ha'
    have hv' : .int .i64 (i : Nat) = v' := Eq.symm hv'
    subst hv'
    simp only [Act.put, List.setIfInBounds_toArray, List.set_cons_zero, List.set_cons_succ] at ha'
    subst ha'
    refine AnyRT.step (m := 6) (i := 2) (d := some 41) [2] rfl rfl (by kernel_rfl) (by kernel_rfl) (by kernel_rfl) (by kernel_rfl) (by kernel_rfl) ?_ ?_ ?_
    · exact ⟨_, rfl⟩
    · refine StepsR.call (by kernel_rfl) (fun w' hS => by clear hS; go_simp) (fun w' hS hD => (HCS.out w' hS).mono ?_)
      rintro e w'' ⟨rfl, hb⟩
      exact ⟨_, rfl, rfl, trivial, hb⟩
    intro v' hv' a' ha'
    have hv' : .agg #[.int .i64 s, .int .i64 lk, .int .i64 st] = v' := Eq.symm hv'
    subst hv'
    simp only [Act.put, List.setIfInBounds_toArray, List.set_cons_zero, List.set_cons_succ] at ha'
    subst ha'
    refine AnyRT.step (m := 6) (i := 3) (d := some 42) [5, 4, 3] rfl rfl (by kernel_rfl) (by kernel_rfl) (by kernel_rfl) (by kernel_rfl) (by kernel_rfl) ?_ ?_ ?_
    · exact ⟨_, rfl⟩
    · refine StepsR.yield (.slice (some ⟨R, 0, none⟩) 1 1) rfl (by kernel_rfl) (fun w' hS hD => ⟨?_, trivial⟩)
      clear hS hD; go_simp
      try rfl
    intro v' hv' a' ha'
    have hv' : .slice (some ⟨R, 0, none⟩) 1 1 = v' := Eq.symm hv'
    subst hv'
    simp only [Act.put, List.setIfInBounds_toArray, List.set_cons_zero, List.set_cons_succ] at ha'
    subst ha'
    refine AnyRT.step (m := 6) (i := 4) (d := some 43) [5, 4] rfl rfl (by kernel_rfl) (by kernel_rfl) (by kernel_rfl) (by kernel_rfl) (by kernel_rfl) ?_ ?_ ?_
    · exact ⟨_, rfl⟩
    · refine StepsR.yield (.pointer (some ⟨R, 0, none⟩)) rfl (by kernel_rfl) (fun w' hS hD => ⟨?_, trivial⟩)
      clear hS hD; go_simp
      try rfl
    intro v' hv' a' ha'
    have hv' : .pointer (some ⟨R, 0, none⟩) = v' := Eq.symm hv'
    subst hv'
    simp only [Act.put, List.setIfInBounds_toArray, List.set_cons_zero, List.set_cons_succ] at ha'
    subst ha'
    refine AnyRT.step (m := 6) (i := 5) (d := some 44) [5] rfl rfl (by kernel_rfl) (by kernel_rfl) (by kernel_rfl) (by kernel_rfl) (by kernel_rfl) ?_ ?_ ?_
    · exact ⟨_, rfl⟩
    · refine StepsR.yield (.func (.func gq) #[] cq) rfl (by kernel_rfl) (fun w' hS hD => ⟨?_, trivial⟩)
      have z0 := HZ8.out w' hS; clear hS hD; go_simp
      try rfl
    intro v' hv' a' ha'
    have hv' : .func (.func gq) #[] cq = v' := Eq.symm hv'
    subst hv'
    simp only [Act.put, List.setIfInBounds_toArray, List.set_cons_zero, List.set_cons_succ] at ha'
    subst ha'
    refine AnyRT.last (by kernel_rfl) (fun w9 hS hF => ?_)
    clear hF
    refine wpAny_one (i := 6) (o := ⟨some 45, _, _, _, _, _⟩) (by kernel_rfl) rfl (by kernel_rfl) ?_
    refine wp_callE (o := ⟨some 45, _, _, _, _, _⟩) (by go_simp) (HOF.out w9 hS) ?_
    rintro v wq ⟨hp, hb⟩
    have HP := Lib.hid hp
    have HBB := Lib.hid (HBW.out.trans (hb.mono HBW.out.size))
    clear hp hb hS
    refine wpAny_one (i := 7) (o := ⟨some 4, .assign (.tmp 45), _, _, _, _⟩) (by kernel_rfl) rfl (by kernel_rfl) ?_
    show wpAny Tryd.prog _ _ _ 0 _ (Act.put _ (some 4) v) wq
    refine wpAny_none (P := Tryd.prog) (by kernel_rfl) ?_
    simp only [Act.put, List.setIfInBounds_toArray, List.set_cons_zero, List.set_cons_succ]
    go_wp2_with fail
    go_ret
    exact ⟨_, rfl, by rw [HTV2.out]; exact HP.out, HBB.out⟩
  · have hK2 : 0 < (K.map fun k => tmV l k.toNat).length := by rw [List.length_map]; omega
    have hKNl : KN = (K.map fun k => tmV l k.toNat).length := by rw [List.length_map]; exact HKN.out
    have hpt := HPT.out
    have hmm : (K.map fun k => enc (tmV l k.toNat)) = (K.map fun k => tmV l k.toNat).map enc := by rw [List.map_map]; rfl
    rw [hmm] at hpt
    have hbg : (K.map fun k => tmV l k.toNat).length ≤ 1000000 := by omega
    rcases hk with hk | hk
    · have hk' : k = 5 := hk
      subst hk'
      have HTV := Lib.hid (HTC.out rfl)
      have HC := Lib.hid (row_calls _ .cat cat_ok A (K.map fun k => tmV l k.toNat) hK2 hbg (some ⟨R, 0, none⟩) KN KN hKNl wc HAW.out hpt)
      clear HNR HTE HTL HTG HTO HTC HTA hK HCP hpt hmm hbg hKNl hK2
      go_wp2_with fail
      refine HC.out.mono ?_
      rintro e w2 ⟨v, rfl, hp, hb⟩
      have HP := Lib.hid hp
      have HBB := Lib.hid (HBW.out.trans (hb.mono HBW.out.size))
      clear hp hb HC
      go_wp2_with fail
      go_ret
      exact ⟨_, rfl, by rw [HTV.out]; exact HP.out, HBB.out⟩
    · have hk' : k = 6 := hk
      subst hk'
      have HTV := Lib.hid (HTA.out rfl)
      have HC := Lib.hid (row_calls _ .alt alt_ok A (K.map fun k => tmV l k.toNat) hK2 hbg (some ⟨R, 0, none⟩) KN KN hKNl wc HAW.out hpt)
      clear HNR HTE HTL HTG HTO HTC HTA hK HCP hpt hmm hbg hKNl hK2
      go_wp2_with fail
      refine HC.out.mono ?_
      rintro e w2 ⟨v, rfl, hp, hb⟩
      have HP := Lib.hid hp
      have HBB := Lib.hid (HBW.out.trans (hb.mono HBW.out.size))
      clear hp hb HC
      go_wp2_with fail
      go_ret
      exact ⟨_, rfl, by rw [HTV.out]; exact HP.out, HBB.out⟩
end Go.Proofs.YtpncomjpmilbkaaDoor

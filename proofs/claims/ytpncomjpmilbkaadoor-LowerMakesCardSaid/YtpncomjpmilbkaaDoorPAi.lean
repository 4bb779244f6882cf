/- Texts put together: Qo. -/
import Derived.Test.YtpncomjpmilbkaaDoorPAh
import Derived.Test.YtpncomjpmilbkaaDoorPB
/- The developers' lower: a tree, from its first node on. Stage 11. -/
namespace Go.Proofs.YtpncomjpmilbkaaDoor
open Go.RowKit BS

theorem info_sl : (Tryd.prog.info? 50).map (fun i => (i.zero, i.size, i.bytes)) = some (some (.slice none 0 0), 1, 24) := by kernel_rfl
theorem info_bo : (Tryd.prog.info? 4).map (fun i => (i.zero, i.size, i.bytes)) = some (some (.bool false), 1, 1) := by kernel_rfl
theorem made_rep (z : Value) (n : Nat) : madeCells #[z] n = (List.replicate n z).toArray := by
  apply Array.ext
  · simp [madeCells]
  · intro k h1 h2
    have hk : k < n := by simpa using h2
    have : (madeCells #[z] n)[k]? = some z := by
      unfold madeCells
      rw [Array.getElem?_map, Array.getElem?_range, if_pos (by simpa using hk)]
      show some (#[z][k % 1]!) = _
      rw [Nat.mod_one]
      rfl
    rw [Array.getElem?_eq_getElem h1] at this
    rw [Option.some.inj this]
    simp
def gsZl (n : Nat) : Array Value := (List.replicate n (Value.slice none 0 0)).toArray
def zsZl (n : Nat) : Array Value := (List.replicate n (Value.bool false)).toArray
theorem makeGs (n : Nat) (hn : n ≤ 1000) (W : World) : (Instr.makeSlice 49 (.int .i64 (n : Int)) (.int .i64 (n : Int))).run Tryd.prog W = .ok (.slice (some ⟨W.heap.size, 0, none⟩) n n) (W.alloc (.cells (gsZl n) 50)) := by
  obtain ⟨i, hi, hzz⟩ := Option.map_eq_some_iff.1 info_sl
  simp only [Prod.mk.injEq] at hzz
  obtain ⟨hz, hs, hb⟩ := hzz
  have := run_make (P := Tryd.prog) W 49 50 i _ Tryd.underlying49 hi hz .i64 .i64 n n (by omega) (by omega) (by rw [hb]; omega) (by omega)
  rw [hs, Int.toNat_natCast] at this
  rw [show (Value.slice none 0 0).cells = #[Value.slice none 0 0] from rfl, made_rep, Nat.mul_one] at this
  exact this
theorem makeZs (n : Nat) (hn : n ≤ 1000) (W : World) : (Instr.makeSlice 24 (.int .i64 (n : Int)) (.int .i64 (n : Int))).run Tryd.prog W = .ok (.slice (some ⟨W.heap.size, 0, none⟩) n n) (W.alloc (.cells (zsZl n) 4)) := by
  obtain ⟨i, hi, hzz⟩ := Option.map_eq_some_iff.1 info_bo
  simp only [Prod.mk.injEq] at hzz
  obtain ⟨hz, hs, hb⟩ := hzz
  have := run_make (P := Tryd.prog) W 24 4 i _ Tryd.underlying24 hi hz .i64 .i64 n n (by omega) (by omega) (by rw [hb]; omega) (by omega)
  rw [hs, Int.toNat_natCast] at this
  rw [show (Value.bool false).cells = #[Value.bool false] from rfl, made_rep, Nat.mul_one] at this
  exact this
/-- What the operations of treeOf's third region leave. -/
def UTr (n : Nat) (c : Nat → Value) : Nat → List Value → Value → Prop
  | 3, _, v => ∃ G : Nat, v = .slice (some ⟨G, 0, none⟩) n n
  | 5, _, v => ∃ (b : Option Addr) (q : Nat), v = .slice b n q
  | 8, _, v => ∃ Z : Nat, v = .slice (some ⟨Z, 0, none⟩) n n
  | 9, ds, v => v = .agg ds.toArray
  | 10, _, v => ∃ T : Nat, v = .pointer (some ⟨T, 0, none⟩)
  | i, _, v => v = c i
@[reducible] def zTr : Array Value := #[.slice none 0 0, .slice none 0 0, .slice none 0 0, .slice none 0 0]
def VTr (l : List NdN) (n base : Nat) : Nat → Value → World → Prop
  | 3, v, W => ∃ G : Nat, v = .slice (some ⟨G, 0, none⟩) n n ∧ base ≤ G ∧ Blk W G (gsZl n) 50
  | 5, v, W => ∃ (b : Option Addr) (q : Nat), v = .slice b n q ∧ IntsB base (numsR l) b W
  | 8, v, W => ∃ Z : Nat, v = .slice (some ⟨Z, 0, none⟩) n n ∧ base ≤ Z ∧ Blk W Z (zsZl n) 4
  | 10, v, W => ∃ T : Nat, v = .pointer (some ⟨T, 0, none⟩) ∧ base ≤ T ∧ Blk W T zTr 52
  | _, _, _ => True
theorem keepVTr (l : List NdN) (n base : Nat) : ∀ i v w w', Below w.heap.size w w' → VTr l n base i v w → VTr l n base i v w' := by
  intro i v w w' hb h
  unfold VTr at *
  split <;> simp only at h
  · obtain ⟨G, h1, h2, h3⟩ := h; exact ⟨G, h1, h2, h3.below hb h3.lt⟩
  · obtain ⟨b, q, h1, h2⟩ := h; exact ⟨b, q, h1, h2.below hb⟩
  · obtain ⟨G, h1, h2, h3⟩ := h; exact ⟨G, h1, h2, h3.below hb h3.lt⟩
  · obtain ⟨G, h1, h2, h3⟩ := h; exact ⟨G, h1, h2, h3.below hb h3.lt⟩
  · trivial
/-- Whole numbers lie in no block that has none. -/
theorem ints_ne {base : Nat} {l : List Int} {b : Option Addr} {W : World} {B : Nat} {vs : Array Value} {t : TypeId} (h : IntsB base l b W) (hb : Blk W B vs t) (hvs : ∀ (q : Nat) (x : Int), vs[q]? ≠ some (.int .i64 x)) (hne : l ≠ []) : ∀ g o, b = some ⟨g, o, none⟩ → g ≠ B := by
  obtain ⟨g, o, e, h1, h2, h3⟩ := h hne
  intro g' o' e'
  rw [e] at e'
  cases e'
  rintro rfl
  have := h3 0 (List.length_pos_iff.2 hne)
  rw [hb.cell] at this
  exact hvs _ _ this
theorem rep_no (z : Value) (n q : Nat) (x : Int) (hz : z ≠ .int .i64 x) : ((List.replicate n z).toArray)[q]? ≠ some (.int .i64 x) := by
  rw [List.getElem?_toArray, List.getElem?_replicate]
  split
  · intro h; exact hz (Option.some.inj h)
  · intro h; cases h
theorem no_int (q : Nat) (x : Int) : zTr[q]? ≠ some (.int .i64 x) := by
  obtain _ | _ | _ | _ | q := q <;> simp [zTr]
theorem IntsO.row {L : List Int} {a : Option Addr} {W : World} {R : Nat} {cs : Array Value} {t : TypeId} (h : IntsO L a W) (hb : Blk W R zTr t) : IntsO L a (W.setRow R cs) := fun hne => by
  obtain ⟨g, o, e, hg, hc⟩ := h hne
  have hR : g ≠ R := by
    rintro rfl
    have h0 := hc 0 (List.length_pos_iff.2 hne)
    rw [hb.cell] at h0
    exact no_int _ _ h0
  exact ⟨g, o, e, by simpa [World.setRow] using hg, fun i hi => (World.cell?_of_block (w := W) (a := ⟨g, o + i, none⟩) (setRow_other W R g cs hR)).trans (hc i hi)⟩
theorem TreeN.row {l : List NdN} {nk nz : Nat} {a : Option Addr} {gk : Nat} {am : Option Addr} {gz R : Nat} {W : World} {t : TypeId} (h : TreeN l nk nz a gk am gz W) (hb : Blk W R zTr t) (hG : gk ≠ R) (hZ : gz ≠ R) (cs : Array Value) : TreeN l nk nz a gk am gz (W.setRow R cs) := by
  refine ⟨fun hne => ?_, by simpa [World.setRow] using h.kl, fun i hi => ?_, h.nums.row hb, by simpa [World.setRow] using h.zl, fun i hi => ?_⟩
  · obtain ⟨g, o, e, hg, hc⟩ := h.nodes hne
    have hR : g ≠ R := by
      rintro rfl
      have h0 := hc 0 (List.length_pos_iff.2 hne) 0 (by decide)
      rw [hb.cell] at h0
      exact no_int _ _ h0
    exact ⟨g, o, e, by simpa [World.setRow] using hg, fun i hi j hj => (World.cell?_of_block (w := W) (a := ⟨g, o + i * 8 + j, none⟩) (setRow_other W R g cs hR)).trans (hc i hi j hj)⟩
  · obtain ⟨b, c, h1, h2⟩ := h.kids i hi
    exact ⟨b, c, (World.cell?_of_block (w := W) (a := ⟨gk, i, none⟩) (setRow_other W R gk cs hG)).trans h1, h2.row hb⟩
  · exact (World.cell?_of_block (w := W) (a := ⟨gz, i, none⟩) (setRow_other W R gz cs hZ)).trans (h.nulls i hi)
/-- What treeOf keeps from round to round. -/
structure TrI (l : List NdN) (si nk nz G Z : Nat) (vt : Value) (w3 W : World) : Prop where
  own : OwI w3.heap.size vt (stkP l si) W
  kp : KpA (fun k => k = G ∨ k = Z) w3 W
  kids : ∃ gs, Blk W G gs 50 ∧ gs.size = l.length ∧ ∀ q, q < nk → ∃ vk, gs[q]? = some vk ∧ OwI w3.heap.size vk (kidsR l q) W ∧ ∀ b, vk.ownBlock = some b → vt.ownBlock ≠ some b
  nulls : ∃ zs, Blk W Z zs 4 ∧ zs.size = l.length ∧ ∀ q, q < nz → zs[q]? = some (.bool (nulV l q))
theorem TrI.below {l : List NdN} {si nk nz G Z : Nat} {vt : Value} {w3 W W' : World} (h : TrI l si nk nz G Z vt w3 W) (hb : Below W.heap.size W W') : TrI l si nk nz G Z vt w3 W' := by
  obtain ⟨h1, h2, ⟨gs, g1, g2, g3⟩, ⟨zs, z1, z2, z3⟩⟩ := h
  refine ⟨h1.below hb, h2.below hb, ⟨gs, g1.below hb g1.lt, g2, fun q hq => ?_⟩, ⟨zs, z1.below hb z1.lt, z2, z3⟩⟩
  obtain ⟨vk, k1, k2, k3⟩ := g3 q hq
  exact ⟨vk, k1, k2.below hb, k3⟩
theorem own_not {B base : Nat} {vs : Array Value} {t : TypeId} {v : Value} {L : List Int} {W : World} (hb : Blk W B vs t) (ht : t ≠ 3) (h : OwI base v L W) : ∀ g, v.ownBlock = some g → g ≠ B := fun g hg e => Blk.not_own hb ht h (by rw [hg, e])
theorem OwI.other {base B : Nat} {vs : Array Value} {t : TypeId} {v : Value} {L : List Int} {W : World} (h : OwI base v L W) (hb : Blk W B vs t) (ht : t ≠ 3) (o : Nat) (u : Value) : OwI base v L (W.setCell ⟨B, o, none⟩ u) :=
  h.keep fun g hg => Below.heap_setCell W ⟨B, o, none⟩ u g (own_not hb ht h g hg)
theorem TrI.setKid {l : List NdN} {si i nz G Z : Nat} {vt vk : Value} {w3 W : World} (h : TrI l si i nz G Z vt w3 W) (hi : i < l.length) (hGZ : G ≠ Z) (hv : OwI w3.heap.size vk (kidsR l i) W) (hne : ∀ b, vk.ownBlock = some b → vt.ownBlock ≠ some b) : TrI l si (i + 1) nz G Z vt w3 (W.setCell ⟨G, i, none⟩ vk) := by
  obtain ⟨h1, h2, ⟨gs, g1, g2, g3⟩, ⟨zs, z1, z2, z3⟩⟩ := h
  refine ⟨h1.other g1 (by decide) _ _, h2.set (g := G) (.inl (.inl rfl)) _ _, ⟨_, g1.set i vk, by simp [g2], fun q hq => ?_⟩, ⟨zs, z1.other (Ne.symm hGZ) _ _, z2, z3⟩⟩
  by_cases e : q = i
  · subst e
    exact ⟨vk, by rw [Array.getElem?_setIfInBounds_self_of_lt (by omega)], hv.other g1 (by decide) _ _, hne⟩
  · obtain ⟨vq, k1, k2, k3⟩ := g3 q (by omega)
    exact ⟨vq, by rw [Array.getElem?_setIfInBounds_ne (Ne.symm e)]; exact k1, k2.other g1 (by decide) _ _, k3⟩
theorem TrI.setNull {l : List NdN} {si nk i G Z : Nat} {vt : Value} {w3 W : World} (h : TrI l si nk i G Z vt w3 W) (hi : i < l.length) (hGZ : G ≠ Z) : TrI l si nk (i + 1) G Z vt w3 (W.setCell ⟨Z, i, none⟩ (.bool (nulV l i))) := by
  obtain ⟨h1, h2, ⟨gs, g1, g2, g3⟩, ⟨zs, z1, z2, z3⟩⟩ := h
  refine ⟨h1.other z1 (by decide) _ _, h2.set (g := Z) (.inl (.inr rfl)) _ _, ⟨gs, g1.other hGZ _ _, g2, fun q hq => ?_⟩, ⟨_, z1.set i _, by simp [z2], fun q hq => ?_⟩⟩
  · obtain ⟨vq, k1, k2, k3⟩ := g3 q hq
    exact ⟨vq, k1, k2.other z1 (by decide) _ _, k3⟩
  · by_cases e : q = i
    · subst e
      rw [Array.getElem?_setIfInBounds_self_of_lt (by omega)]
    · rw [Array.getElem?_setIfInBounds_ne (Ne.symm e)]
      exact z3 q (by omega)
theorem TrI.grow {l : List NdN} {i nk nz G Z : Nat} {vt : Value} {w3 W W' : World} {g cap n : Nat} (h : TrI l i nk nz G Z vt w3 W) (hg : W.grownBy W' vt.ownBlock) (ho : OwI w3.heap.size (.slice (some ⟨g, 0, none⟩) n cap) (stkP l (i + 1)) W') (hat : vt.ownBlock = some g ∨ W.heap.size ≤ g) : TrI l (i + 1) nk nz G Z (.slice (some ⟨g, 0, none⟩) n cap) w3 W' := by
  obtain ⟨h1, h2, ⟨gs, g1, g2, g3⟩, ⟨zs, z1, z2, z3⟩⟩ := h
  have hlt := fun b (hb : vt.ownBlock = some b) => World.ownsRow.lt h1 b hb
  refine ⟨ho, h2.grown hg (fun k hk => .inr (hlt k hk).1), ⟨gs, g1.kept hg (fun e => own_not g1 (by decide) h1 G e.symm rfl), g2, fun q hq => ?_⟩, ⟨zs, z1.kept hg (fun e => own_not z1 (by decide) h1 Z e.symm rfl), z2, z3⟩⟩
  obtain ⟨vk, k1, k2, k3⟩ := g3 q hq
  refine ⟨vk, k1, k2.keep fun b hb => hg.block b (World.ownsRow.lt k2 b hb).2 (fun e => k3 b hb e.symm), fun b hb e => ?_⟩
  have e2 : g = b := by simpa [Value.ownBlock] using e
  rcases hat with h | h
  · exact k3 b hb (by rw [h, e2])
  · have := (World.ownsRow.lt k2 b hb).2
    omega
/-- What mayBeNothing and the callers are handed. -/
theorem TrI.tree {l : List NdN} {si nk nz G Z : Nat} {vt : Value} {a am : Option Addr} {base0 : Nat} {w w3 W : World} (h : TrI l si nk nz G Z vt w3 W) (hn : NodesAt l a w) (hw : Below w.heap.size w W) (hi : IntsB base0 (numsR l) am w3) (hne : ∀ g o, am = some ⟨g, o, none⟩ → g ≠ G ∧ g ≠ Z) : TreeN l nk nz a G am Z W := by
  obtain ⟨h1, h2, ⟨gs, g1, g2, g3⟩, ⟨zs, z1, z2, z3⟩⟩ := h
  refine ⟨hn.below hw, g1.lt, fun q hq => ?_, fun hnn => ?_, z1.lt, fun q hq => (z1.cell q).trans (z3 q hq)⟩
  · obtain ⟨vk, k1, k2, _⟩ := g3 q hq
    obtain ⟨b, c, e, k3⟩ := k2.ints
    exact ⟨b, c, (g1.cell q).trans (k1.trans (by rw [e])), k3⟩
  · obtain ⟨g, o, e, _, k1, k2⟩ := hi hnn
    obtain ⟨n1, n2⟩ := hne g o e
    exact ⟨g, o, e, Nat.lt_of_lt_of_le k1 h2.size, fun q hq => (h2.cell k1 (by rintro (h | h); exact n1 h; exact n2 h) (o + q)).trans (k2 q hq)⟩
set_option maxRecDepth 100000 in
theorem slice_lo (a : Option Addr) (n c lo : Nat) (h : lo ≤ n) (W : World) : (Instr.sliceAt 50 (.slice a n c) (some (.int .i64 (lo : Int))) none none).run Tryd.prog W = .ok (.slice (if c = lo then a else a.map (·.add lo)) (n - lo) (c - lo)) W := by
  have hs : ∀ W, (sizeOf 3).run Tryd.prog W = .ok 1 W := fun W => rfl
  simp [Instr.sliceAt, Instr.slice, Instr.sliceBounds, Instr.sliceBound, asIntOf, run_underlying Tryd.underlying50, hs, h]
def UR9 (c : Nat → Value) : Nat → List Value → Value → Prop
  | 6, _, _ => True
  | i, _, v => v = c i
def VR9 (l : List NdN) (i base : Nat) : Nat → Value → World → Prop
  | 6, v, W => OwI base v (kidsR l i) W
  | _, _, _ => True
theorem keepVR9 (l : List NdN) (i base : Nat) : ∀ q v w w', Below w.heap.size w w' → VR9 l i base q v w → VR9 l i base q v w' := by
  intro q v w w' hb h
  unfold VR9 at *
  split <;> simp only at h
  · exact h.below hb
  · trivial
set_option maxRecDepth 100000 in
set_option maxHeartbeats 16000000 in
theorem ltreeOf_no (l : List NdN) (hl : l.length ≤ 1000) (hr : rightR l = false) (a : Option Addr) (ca : Nat) (w : World) (h : NodesAt l a w) :
    Calls Tryd.prog 19 #[.slice a l.length ca] w fun e w' => e = .returned (.tuple #[.agg zTr, .bool false]) ∧ Below w.heap.size w w' := by
  have hsi : (Tryd.prog.info? 52).map (·.size) = some 4 := by kernel_rfl
  have hb1 : Below w.heap.size w (w.alloc (.cells zTr 52)) := (Below.refl _ _).alloc (Nat.le_refl _) _
  have BR := Blk.new w zTr 52
  have HR := Lib.hid BR
  have HB := Lib.hid hb1
  have HC := Lib.hid (show Calls Tryd.prog 36 #[.slice a l.length ca] (w.alloc (.cells zTr 52)) fun e w' => e = .returned (.bool false) ∧ Below (w.alloc (.cells zTr 52)).heap.size (w.alloc (.cells zTr 52)) w' from by have h2 := aRight_calls l (by omega) a ca _ (h.below hb1); rw [hr] at h2; exact h2)
  clear hb1 BR h
  go_enter Tryd.func19, Tryd.ntmps19
  go_wp2_with fail
  refine HC.out.mono ?_
  rintro e w2 ⟨rfl, hb⟩
  have HR2 := Lib.hid (HR.out.below hb HR.out.lt)
  have HB2 := Lib.hid (HB.out.trans (hb.mono HB.out.size))
  clear hb HR HB HC
  go_wp2_with ((with_reducible refine wpList_store_st (o := ⟨none, .store 52 _ _, _, _, _, _⟩) rfl 52 _ _ rfl w.heap.size rfl rfl (run_storeAt_row _ w.heap.size 52 52 zTr zTr ?_ ?_ ?_ ?_) ?_); exact HR2.out; exact hsi; rfl; simp [Value.oneCell'])
  exact bodyPost_ret (results_cell1 rfl _ _ w.heap.size 52 zTr (0, 0) _ rfl (Blk.setRow HR2.out) Tryd.underlying52 rfl (by kernel_rfl)) rfl ⟨rfl, below_row HB2.out (Nat.le_refl _) _⟩
set_option maxRecDepth 100000 in
set_option maxHeartbeats 32000000 in
theorem ltreeOf_yes (l : List NdN) (hl : l.length ≤ 1000) (hr : rightR l = true) (a : Option Addr) (ca : Nat) (w : World) (h : NodesAt l a w) :
    Calls Tryd.prog 19 #[.slice a l.length ca] w fun e w' => ∃ (gk : Nat) (am : Option Addr) (cm gz : Nat), e = .returned (.tuple #[.agg (treeC l.length a ca gk am cm gz), .bool true]) ∧ TreeN l l.length l.length a gk am gz w' ∧ w.heap.size ≤ gz ∧ Below w.heap.size w w' := by
  have hf := right_formed l hr
  have hpos : 0 < l.length := formed_pos l hf
  have hsi : (Tryd.prog.info? 52).map (·.size) = some 4 := by kernel_rfl
  have hnl : (numsR l).length = l.length := by rw [numsR_len]; exact (formed_stack l hf).2.2.1
  obtain ⟨g, off, rfl, hg, hc⟩ := h (by intro e; rw [e] at hpos; simp at hpos)
  have HND := Lib.hid h
  have hb1 : Below w.heap.size w (w.alloc (.cells zTr 52)) := (Below.refl _ _).alloc (Nat.le_refl _) _
  have BR := Blk.new w zTr 52
  have HR := Lib.hid BR
  have HB := Lib.hid hb1
  have HC := Lib.hid (show Calls Tryd.prog 36 #[.slice (some ⟨g, off, none⟩) l.length ca] (w.alloc (.cells zTr 52)) fun e w' => e = .returned (.bool true) ∧ Below (w.alloc (.cells zTr 52)).heap.size (w.alloc (.cells zTr 52)) w' from by have h2 := aRight_calls l (by omega) (some ⟨g, off, none⟩) ca _ (h.below hb1); rw [hr] at h2; exact h2)
  have HMG := Lib.hid (makeGs l.length hl)
  have HMZ := Lib.hid (makeZs l.length hl)
  have HAN := Lib.hid (fun W hW => aNumbers_calls l (by omega) (some ⟨g, off, none⟩) ca W hW)
  have HCC := Lib.hid hc
  have HF := Lib.hid hf
  have HRT := Lib.hid hr
  clear hb1 BR h hc hf hr
  go_enter Tryd.func19, Tryd.ntmps19
  go_wp2_with fail
  refine HC.out.mono ?_
  rintro e w2 ⟨rfl, hb⟩
  have HR2 := Lib.hid (HR.out.below hb HR.out.lt)
  have HB2 := Lib.hid (HB.out.trans (hb.mono HB.out.size))
  clear hb HR HB HC
  go_upto_region 3 with fail
  have HNU := Lib.hid (show ∀ W, Below w2.heap.size w2 W → Calls Tryd.prog 37 #[.slice (some ⟨g, off, none⟩) l.length ca] W fun e w' => ∃ v, e = .returned v ∧ (∃ (b : Option Addr) (q : Nat), v = .slice b l.length q) ∧ VTr l l.length w2.heap.size 5 v w' ∧ Below W.heap.size W w' from fun W hW => by
    refine (HAN.out W (HND.out.below (HB2.out.trans (hW.mono HB2.out.size)))).mono ?_
    rintro e w' ⟨b, q, rfl, h1, h2⟩
    rw [hnl]
    refine ⟨_, rfl, ⟨b, q, rfl⟩, ⟨b, q, rfl, fun hne => ?_⟩, h2⟩
    obtain ⟨g', o', e', h3, h4⟩ := h1 hne
    exact ⟨g', o', e', Nat.le_trans hW.size h3, h4⟩)
  go_cut [4] from 13 to 22 (fun v4 wx => ∃ (T G Z : Nat) (b : Option Addr) (q : Nat), v4 = .pointer (some ⟨T, 0, none⟩) ∧ (w2.heap.size ≤ T ∧ w2.heap.size ≤ G ∧ w2.heap.size ≤ Z) ∧ Blk wx T (treeC l.length (some ⟨g, off, none⟩) ca G b q Z) 52 ∧ Blk wx G (gsZl l.length) 50 ∧ Blk wx Z (zsZl l.length) 4 ∧ IntsB w2.heap.size (numsR l) b wx ∧ (∀ g o, b = some ⟨g, o, none⟩ → g ≠ G ∧ g ≠ Z) ∧ Below w2.heap.size w2 wx)
  case first =>
    have hS0 : Below w2.heap.size w2 w2.drew := (Below.refl _ _).drew
    refine region_stepsRM (S := fun W => Below w2.heap.size w2 W) (U := UTr l.length (fun q => match q with | 0 => .slice (some ⟨g, off, none⟩) l.length ca | 1 => .slice (some ⟨g, off, none⟩) l.length ca | 2 => .int .i64 (l.length : Nat) | 4 => .slice (some ⟨g, off, none⟩) l.length ca | 6 => .slice (some ⟨g, off, none⟩) l.length ca | 7 => .int .i64 (l.length : Nat) | _ => undef)) (V := VTr l l.length w2.heap.size) (m := 11) (n := 11) rfl (by kernel_rfl) (fun _ _ hb hs => hs.trans (hb.mono hs.size)) (keepVTr _ _ _) (by kernel_rfl) hS0 ?_
    clear hS0
    simp only [List.size_toArray, List.length_cons, List.length_nil, Nat.reduceAdd, Array.replicate_succ, Array.replicate_zero, List.push_toArray, List.nil_append, List.cons_append]
    refine AnyRM.step (m := 11) (i := 0) (d := some 13) rfl rfl (by kernel_rfl) (by kernel_rfl) (by kernel_rfl) (by kernel_rfl) (by kernel_rfl) ?_ ?_ ?_
    · exact ⟨_, rfl⟩
    · refine StepsR.yield (.slice (some ⟨g, off, none⟩) l.length ca) (by first | rfl | kernel_rfl) (by kernel_rfl) (fun w' hS hD => ⟨?_, trivial⟩)
      clear hS hD; go_simp
      try rfl
    intro v' hv' a' ha'
    have hv' : .slice (some ⟨g, off, none⟩) l.length ca = v' := Eq.symm hv'
    subst hv'
    simp only [Act.put, List.setIfInBounds_toArray, List.set_cons_zero, List.set_cons_succ] at ha'
    subst ha'
    refine AnyRM.step (m := 11) (i := 1) (d := some 14) rfl rfl (by kernel_rfl) (by kernel_rfl) (by kernel_rfl) (by kernel_rfl) (by kernel_rfl) ?_ ?_ ?_
    · exact ⟨_, rfl⟩
    · refine StepsR.yield (.slice (some ⟨g, off, none⟩) l.length ca) (by first | rfl | kernel_rfl) (by kernel_rfl) (fun w' hS hD => ⟨?_, trivial⟩)
      clear hS hD; go_simp
      try rfl
    intro v' hv' a' ha'
    have hv' : .slice (some ⟨g, off, none⟩) l.length ca = v' := Eq.symm hv'
    subst hv'
    simp only [Act.put, List.setIfInBounds_toArray, List.set_cons_zero, List.set_cons_succ] at ha'
    subst ha'
    refine AnyRM.step (m := 11) (i := 2) (d := some 15) rfl rfl (by kernel_rfl) (by kernel_rfl) (by kernel_rfl) (by kernel_rfl) (by kernel_rfl) ?_ ?_ ?_
    · exact ⟨_, rfl⟩
    · refine StepsR.yield (.int .i64 (l.length : Nat)) (by first | rfl | kernel_rfl) (by kernel_rfl) (fun w' hS hD => ⟨?_, trivial⟩)
      clear hS hD; go_simp
      try rfl
    intro v' hv' a' ha'
    have hv' : .int .i64 (l.length : Nat) = v' := Eq.symm hv'
    subst hv'
    simp only [Act.put, List.setIfInBounds_toArray, List.set_cons_zero, List.set_cons_succ] at ha'
    subst ha'
    refine AnyRM.step (m := 11) (i := 3) (d := some 16) rfl rfl (by kernel_rfl) (by kernel_rfl) (by kernel_rfl) (by kernel_rfl) (by kernel_rfl) ?_ ?_ ?_
    · exact ⟨.slice (some ⟨0, 0, none⟩) l.length l.length, 0, rfl⟩
    · refine StepsR.made (by kernel_rfl) (fun w' hS hD => ?_)
      refine ⟨.slice (some ⟨w'.heap.size, 0, none⟩) l.length l.length, w'.alloc (.cells (gsZl l.length) 50), ?_, ⟨_, rfl⟩, ⟨_, rfl, hS.size, Blk.new w' _ _⟩, (Below.refl _ _).alloc (Nat.le_refl _) _⟩
      have hmk := HMG.out w'
      clear hS hD
      go_simp
      try rfl
    rintro v' ⟨G3, rfl⟩ a' ha'
    simp only [Act.put, List.setIfInBounds_toArray, List.set_cons_zero, List.set_cons_succ] at ha'
    subst ha'
    refine AnyRM.step (m := 11) (i := 4) (d := some 17) rfl rfl (by kernel_rfl) (by kernel_rfl) (by kernel_rfl) (by kernel_rfl) (by kernel_rfl) ?_ ?_ ?_
    · exact ⟨_, rfl⟩
    · refine StepsR.yield (.slice (some ⟨g, off, none⟩) l.length ca) (by first | rfl | kernel_rfl) (by kernel_rfl) (fun w' hS hD => ⟨?_, trivial⟩)
      clear hS hD; go_simp
      try rfl
    intro v' hv' a' ha'
    have hv' : .slice (some ⟨g, off, none⟩) l.length ca = v' := Eq.symm hv'
    subst hv'
    simp only [Act.put, List.setIfInBounds_toArray, List.set_cons_zero, List.set_cons_succ] at ha'
    subst ha'
    refine AnyRM.step (m := 11) (i := 5) (d := some 18) rfl rfl (by kernel_rfl) (by kernel_rfl) (by kernel_rfl) (by kernel_rfl) (by kernel_rfl) ?_ ?_ ?_
    · exact ⟨.slice none l.length 0, none, 0, rfl⟩
    · exact StepsR.call (by kernel_rfl) (fun w' hS => by clear hS; go_simp) (fun w' hS hD => HNU.out w' hS)
    rintro v' ⟨b3, q3, rfl⟩ a' ha'
    simp only [Act.put, List.setIfInBounds_toArray, List.set_cons_zero, List.set_cons_succ] at ha'
    subst ha'
    refine AnyRM.step (m := 11) (i := 6) (d := some 19) rfl rfl (by kernel_rfl) (by kernel_rfl) (by kernel_rfl) (by kernel_rfl) (by kernel_rfl) ?_ ?_ ?_
    · exact ⟨_, rfl⟩
    · refine StepsR.yield (.slice (some ⟨g, off, none⟩) l.length ca) (by first | rfl | kernel_rfl) (by kernel_rfl) (fun w' hS hD => ⟨?_, trivial⟩)
      clear hS hD; go_simp
      try rfl
    intro v' hv' a' ha'
    have hv' : .slice (some ⟨g, off, none⟩) l.length ca = v' := Eq.symm hv'
    subst hv'
    simp only [Act.put, List.setIfInBounds_toArray, List.set_cons_zero, List.set_cons_succ] at ha'
    subst ha'
    refine AnyRM.step (m := 11) (i := 7) (d := some 20) rfl rfl (by kernel_rfl) (by kernel_rfl) (by kernel_rfl) (by kernel_rfl) (by kernel_rfl) ?_ ?_ ?_
    · exact ⟨_, rfl⟩
    · refine StepsR.yield (.int .i64 (l.length : Nat)) (by first | rfl | kernel_rfl) (by kernel_rfl) (fun w' hS hD => ⟨?_, trivial⟩)
      clear hS hD; go_simp
      try rfl
    intro v' hv' a' ha'
    have hv' : .int .i64 (l.length : Nat) = v' := Eq.symm hv'
    subst hv'
    simp only [Act.put, List.setIfInBounds_toArray, List.set_cons_zero, List.set_cons_succ] at ha'
    subst ha'
    refine AnyRM.step (m := 11) (i := 8) (d := some 21) rfl rfl (by kernel_rfl) (by kernel_rfl) (by kernel_rfl) (by kernel_rfl) (by kernel_rfl) ?_ ?_ ?_
    · exact ⟨.slice (some ⟨0, 0, none⟩) l.length l.length, 0, rfl⟩
    · refine StepsR.made (by kernel_rfl) (fun w' hS hD => ?_)
      refine ⟨.slice (some ⟨w'.heap.size, 0, none⟩) l.length l.length, w'.alloc (.cells (zsZl l.length) 4), ?_, ⟨_, rfl⟩, ⟨_, rfl, hS.size, Blk.new w' _ _⟩, (Below.refl _ _).alloc (Nat.le_refl _) _⟩
      have hmk := HMZ.out w'
      clear hS hD
      go_simp
      try rfl
    rintro v' ⟨Z3, rfl⟩ a' ha'
    simp only [Act.put, List.setIfInBounds_toArray, List.set_cons_zero, List.set_cons_succ] at ha'
    subst ha'
    refine AnyRM.step (m := 11) (i := 9) (d := some 22) rfl rfl (by kernel_rfl) (by kernel_rfl) (by kernel_rfl) (by kernel_rfl) (by kernel_rfl) ?_ ?_ ?_
    · exact ⟨_, rfl⟩
    · refine StepsR.yield (.agg (treeC l.length (some ⟨g, off, none⟩) ca G3 b3 q3 Z3)) (by first | rfl | kernel_rfl) (by kernel_rfl) (fun w' hS hD => ⟨?_, trivial⟩)
      clear hS hD; go_simp
      try rfl
    intro v' hv' a' ha'
    have hv' : .agg (treeC l.length (some ⟨g, off, none⟩) ca G3 b3 q3 Z3) = v' := Eq.symm hv'
    subst hv'
    simp only [Act.put, List.setIfInBounds_toArray, List.set_cons_zero, List.set_cons_succ] at ha'
    subst ha'
    refine AnyRM.step (m := 11) (i := 10) (d := some 4) rfl rfl (by kernel_rfl) (by kernel_rfl) (by kernel_rfl) (by kernel_rfl) (by kernel_rfl) ?_ ?_ ?_
    · exact ⟨.pointer (some ⟨0, 0, none⟩), 0, rfl⟩
    · refine StepsR.made (by kernel_rfl) (fun w' hS hD => ?_)
      refine ⟨.pointer (some ⟨w'.heap.size, 0, none⟩), w'.alloc (.cells zTr 52), ?_, ⟨_, rfl⟩, ⟨_, rfl, hS.size, Blk.new w' _ _⟩, (Below.refl _ _).alloc (Nat.le_refl _) _⟩
      clear hS hD
      go_simp
      try rfl
    rintro v' ⟨T3, rfl⟩ a' ha'
    simp only [Act.put, List.setIfInBounds_toArray, List.set_cons_zero, List.set_cons_succ] at ha'
    subst ha'
    refine AnyRM.last rfl (by kernel_rfl) (by kernel_rfl) (by kernel_rfl) (fun w9 hS hF K hK => ?_)
    have h3 := hF 3 _ 16 (by kernel_rfl) rfl rfl
    have h5 := hF 5 _ 18 (by kernel_rfl) rfl rfl
    have h8 := hF 8 _ 21 (by kernel_rfl) rfl rfl
    have h10 := hF 10 _ 4 (by kernel_rfl) rfl rfl
    obtain ⟨G', eG, k1, k2⟩ := h3
    obtain ⟨b', q', eb, k3⟩ := h5
    obtain ⟨Z', eZ, k4, k5⟩ := h8
    obtain ⟨T', eT, k6, k7⟩ := h10
    have eG' : Value.slice (some ⟨G3, 0, none⟩) l.length l.length = .slice (some ⟨G', 0, none⟩) l.length l.length := eG
    have eb' : Value.slice b3 l.length q3 = .slice b' l.length q' := eb
    have eZ' : Value.slice (some ⟨Z3, 0, none⟩) l.length l.length = .slice (some ⟨Z', 0, none⟩) l.length l.length := eZ
    have eT' : Value.pointer (some ⟨T3, 0, none⟩) = .pointer (some ⟨T', 0, none⟩) := eT
    cases eG'
    cases eb'
    cases eZ'
    cases eT'
    have hne : numsR l ≠ [] := by intro e; rw [e] at hnl; simp at hnl; omega
    have hnT := ints_ne k3 k7 (fun q x => by
      obtain _ | _ | _ | _ | q := q <;> simp [zTr]) hne
    have hnG := ints_ne k3 k2 (fun q x => rep_no _ _ q x (by simp)) hne
    have hnZ := ints_ne k3 k5 (fun q x => rep_no _ _ q x (by simp)) hne
    have hTG : G3 ≠ T3 := by rintro rfl; have := k2.symm.trans k7; simp at this
    have hTZ : Z3 ≠ T3 := by rintro rfl; have := k5.symm.trans k7; simp at this
    have hOut := Lib.hid (show ∀ W, W = w9.setRow T3 (treeC l.length (some ⟨g, off, none⟩) ca G3 b3 q3 Z3) → (w2.heap.size ≤ T3 ∧ w2.heap.size ≤ G3 ∧ w2.heap.size ≤ Z3) ∧ Blk W T3 (treeC l.length (some ⟨g, off, none⟩) ca G3 b3 q3 Z3) 52 ∧ Blk W G3 (gsZl l.length) 50 ∧ Blk W Z3 (zsZl l.length) 4 ∧ IntsB w2.heap.size (numsR l) b3 W ∧ (∀ g o, b3 = some ⟨g, o, none⟩ → g ≠ G3 ∧ g ≠ Z3) ∧ Below w2.heap.size w2 W from fun W hW => by
      subst hW
      refine ⟨⟨k6, k1, k4⟩, Blk.setRow k7, (setRow_other w9 T3 G3 _ hTG).trans k2, (setRow_other w9 T3 Z3 _ hTZ).trans k5, fun hne2 => ?_, fun g o e => ⟨hnG g o e, hnZ g o e⟩, below_row hS k6 _⟩
      obtain ⟨g', o', e', h1, h2, h4⟩ := k3 hne2
      refine ⟨g', o', e', h1, by simpa [World.setRow] using h2, fun i hi => ?_⟩
      exact (World.cell?_of_block (w := w9) (a := ⟨g', o' + i, none⟩) (setRow_other w9 T3 g' _ (hnT g' o' e'))).trans (h4 i hi))
    refine wp_store_row 52 _ _ rfl T3 rfl rfl (run_storeAt_row w9 T3 52 52 zTr (treeC l.length (some ⟨g, off, none⟩) ca G3 b3 q3 Z3) k7 hsi rfl (by simp [Value.oneCell'])) ?_
    clear hS hF eG eb eZ eT k1 k2 k3 k4 k5 k6 k7 hnT hnG hnZ
    refine hK _ _ ?_
    clear hK K
    have hO2 := Lib.hid (hOut.out _ rfl)
    clear hOut
    generalize w9.setRow T3 (treeC l.length (some ⟨g, off, none⟩) ca G3 b3 q3 Z3) = wq at *
    go_wp2_with fail
    go_meet
    exact ⟨T3, G3, Z3, b3, q3, rfl, hO2.out⟩
  case rest =>
  obtain ⟨T, G, Z, am, cm, rfl, ⟨hT2, hG2, hZ2⟩, hBT, hBG, hBZ, hNI, hNE, hb⟩ := hcut
  have hTG : T ≠ G := by rintro rfl; have := hBT.symm.trans hBG; simp at this
  have hTZ : T ≠ Z := by rintro rfl; have := hBT.symm.trans hBZ; simp at this
  have hGZ : G ≠ Z := by rintro rfl; have := hBG.symm.trans hBZ; simp at this
  have HBC := Lib.hid (HB2.out.trans (hb.mono HB2.out.size))
  have HRC := Lib.hid (HR2.out.below hb HR2.out.lt)
  have HTC := Lib.hid hBT
  have HNI := Lib.hid (And.intro hNI hNE)
  have HI0 := Lib.hid (show TrI l 0 0 0 G Z (.slice none 0 0) wc wc from ⟨OwI.nil _ _, KpA.refl _ _, ⟨_, hBG, by simp [gsZl], fun q hq => absurd hq (Nat.not_lt_zero q)⟩, ⟨_, hBZ, by simp [zsZl], fun q hq => absurd hq (Nat.not_lt_zero q)⟩⟩)
  have hw2 : w.heap.size < w2.heap.size := HR2.out.lt
  have HTNS := Lib.hid (show ∀ W, TreeN l l.length l.length (some ⟨g, off, none⟩) G am Z W → Below w.heap.size w W → Blk W w.heap.size zTr 52 → TreeN l l.length l.length (some ⟨g, off, none⟩) G am Z (W.setRow w.heap.size (treeC l.length (some ⟨g, off, none⟩) ca G am cm Z)) from fun W hW hbW hbR => hW.row hbR (by omega) (by omega) _)
  have HGL : Hid (G < wc.heap.size ∧ Z < wc.heap.size ∧ T < wc.heap.size) := Lib.hid ⟨hBG.lt, hBZ.lt, hBT.lt⟩
  clear hBT hBG hBZ hNI hNE hb HR2 HMG HMZ HAN HNU
  go_wp2_with fail
  go_loopw [5, 25] (fun vt vi wr => ∃ i : Nat, i ≤ l.length ∧ vi = .int .i64 i ∧ TrI l i i i G Z vt wc wr) (fun _ vi _ => l.length - (intOf vi).toNat)
  case atStart => exact ⟨0, Nat.zero_le _, rfl, HI0.out⟩
  case round =>
    obtain ⟨i, hi, rfl, hI⟩ := hrel
    clear HI0
    have HI := Lib.hid hI
    have hbw : Below w.heap.size w wr := HBC.out.trans (hI.kp.toBelow HBC.out.size (fun k hk => by rcases hk with rfl | rfl <;> omega))
    have HBW := Lib.hid hbw
    clear hI hbw
    by_cases hlt : i < l.length
    · have hii : (i : Int) < (l.length : Int) := by omega
      have xi : IntKind.i64.wrap ((i : Int) + 1) = (i : Int) + 1 := IntWalk.i64_in _ (by omega)
      obtain ⟨kn, hkn, hkl, hsl, hK, hST⟩ := stk_kids l HF.out i hlt
      obtain ⟨cut, hcut⟩ : ∃ c, c = (stkP l i).length - kn := ⟨_, rfl⟩
      rw [← hcut] at hK hST
      have hc := HCC.out
      have d0 := (HBW.out.cell (p := ⟨g, off + i * 8 + 0, none⟩) hg).trans (hc i hlt 0 (by decide)); have d1 := (HBW.out.cell (p := ⟨g, off + i * 8 + 1, none⟩) hg).trans (hc i hlt 1 (by decide)); have d2 := (HBW.out.cell (p := ⟨g, off + i * 8 + 2, none⟩) hg).trans (hc i hlt 2 (by decide)); have d3 := (HBW.out.cell (p := ⟨g, off + i * 8 + 3, none⟩) hg).trans (hc i hlt 3 (by decide)); have d4 := (HBW.out.cell (p := ⟨g, off + i * 8 + 4, none⟩) hg).trans (hc i hlt 4 (by decide)); have d5 := (HBW.out.cell (p := ⟨g, off + i * 8 + 5, none⟩) hg).trans (hc i hlt 5 (by decide)); have d6 := (HBW.out.cell (p := ⟨g, off + i * 8 + 6, none⟩) hg).trans (hc i hlt 6 (by decide)); have d7 := (HBW.out.cell (p := ⟨g, off + i * 8 + 7, none⟩) hg).trans (hc i hlt 7 (by decide))
      have HKN := Lib.hid (And.intro hK hST)
      have HMB := Lib.hid (fun nk hnk W hW => mayBe_calls l hl HRT.out nk i hlt hnk (some ⟨g, off, none⟩) ca G am cm Z W hW)
      clear hc hK hST
      generalize l[i] = x at *
      obtain ⟨xk, xc, xn, xm, xt⟩ := x
      simp only [ndA, List.getElem?_toArray, List.getElem?_cons_zero, List.getElem?_cons_succ, Nat.add_zero] at d0 d1 d2 d3 d4 d5 d6 d7
      simp only at hkn
      subst hkn
      obtain ⟨st, hst⟩ : ∃ n, n = (stkP l i).length := ⟨_, rfl⟩
      rw [← hst] at hcut hkl hsl
      have HSL := Lib.hid hst
      have xcut : IntKind.i64.wrap ((st : Int) - (kn : Int)) = (cut : Int) := by rw [IntWalk.i64_in _ (by omega)]; omega
      have hct : cut ≤ st := by omega
      obtain ⟨vb, vc, hvt, _⟩ := HI.out.own.ints
      rw [← hst] at hvt
      have HVT := Lib.hid hvt
      have HKB := Lib.hid (show (kidsR l i).length = kn from by rw [HKN.out.1, List.length_drop, ← hst]; omega)
      clear hst hcut
      have wa0 : Below wr.heap.size wr (wr.alloc (.cells (ndI xk (kn : Int) xn xm xt) 46)) := (Below.refl _ _).alloc (Nat.le_refl _) _
      have BXa := Blk.new wr (ndI xk (kn : Int) xn xm xt) 46
      have HWA := Lib.hid wa0
      have x1 := BXa.cell 1
      simp only [List.getElem?_toArray, List.getElem?_cons_zero, List.getElem?_cons_succ] at x1
      clear wa0 BXa
      subst hvt
      go_upto_region 9 with fail
      have wa1 := HWA.out
      have hXl : wr.heap.size < (wr.alloc (.cells (ndI xk (kn : Int) xn xm xt) 46)).heap.size := by rw [World.size_alloc]; omega
      clear HWA d0 d1 d2 d3 d4 d5 d6 d7 x1
      generalize wr.alloc (.cells (ndI xk (kn : Int) xn xm xt) 46) = wa at *
      have hTl : T < wr.heap.size := by have := HGL.out; have := HI.out.kp.size; omega
      have hTa := (HTC.out.kpA HI.out.kp (by rintro (h | h) <;> omega)).below wa1 hTl
      obtain ⟨gs, hGs, hgsz, hgsk⟩ := HI.out.kids
      obtain ⟨zs, hZs, hzsz, hzsk⟩ := HI.out.nulls
      have hGa := hGs.below wa1 hGs.lt
      have hZa := hZs.below wa1 hZs.lt
      have hIa := HI.out.own.below wa1
      have hckn : cut + kn = (stkP l i).length := by have h := HKB.out; rw [HKN.out.1, List.length_drop] at h; have := HSL.out; omega
      have HCKN := Lib.hid hckn
      clear hckn
      have HSV := Lib.hid (show ∀ W, Below wa.heap.size wa W → Calls Tryd.prog 38 #[.slice (if vc = cut then vb else vb.map (·.add cut)) kn (vc - cut)] W fun e w' => ∃ v, e = .returned v ∧ True ∧ OwI wa.heap.size v (kidsR l i) w' ∧ Below W.heap.size W w' from fun W hW => by
        have hKI : IntsO (kidsR l i) (if vc = cut then vb else vb.map (·.add cut)) W := fun hne => by
          have hk0 : 0 < (kidsR l i).length := List.length_pos_iff.2 hne
          rw [HKB.out] at hk0
          rcases HI.out.own.2 with ⟨_, h0⟩ | ⟨g0, cap0, cur0, e0, hb0, hg0, hcap, _⟩
          · have := HCKN.out; omega
          · have e1 := HVT.out.symm.trans e0
            cases e1
            have hlt0 : g0 < wr.heap.size := (Array.getElem?_eq_some_iff.1 hg0).1
            refine ⟨g0, cut, ?_, Nat.lt_of_lt_of_le hlt0 (Nat.le_trans wa1.size hW.size), fun q hq => ?_⟩
            · rw [if_neg (by have := HCKN.out; omega)]
              show some ((⟨g0, 0, none⟩ : Addr).add cut) = _
              unfold Addr.add
              split
              · subst cut; rfl
              · rw [Nat.zero_add]
            · rw [HKB.out] at hq
              have hcell := World.ownsRow.cellAt (hIa.below hW) (cut + q) (by have := HCKN.out; omega)
              refine hcell.trans ?_
              have hqs : cut + q < (stkP l i).length := by have := HCKN.out; omega
              rw [List.getElem?_map, List.getElem?_eq_getElem hqs]
              simp only [HKN.out.1, List.getElem_drop]
              rfl
        have h := clone_calls (kidsR l i) (by rw [HKB.out]; omega) (if vc = cut then vb else vb.map (·.add cut)) (vc - cut) W hKI
        rw [HKB.out] at h
        refine h.mono ?_
        rintro e w' ⟨v, rfl, h1, h2⟩
        exact ⟨v, rfl, trivial, OwI.mono h1 hW.size, h2⟩)
      have hslo := slice_lo vb st vc cut hct
      have hskn : st - cut = kn := by rw [← HKB.out, HKN.out.1, List.length_drop, ← HSL.out]
      rw [hskn] at hslo
      have t1 := hTa.cell 1
      simp only [List.getElem?_toArray, List.getElem?_cons_zero, List.getElem?_cons_succ] at t1
      have HTA := Lib.hid hTa
      have HGA := Lib.hid hGa
      have HZA := Lib.hid hZa
      have HIA := Lib.hid hIa
      have HGK := Lib.hid (And.intro hgsz hgsk)
      have HZK := Lib.hid (And.intro hzsz hzsk)
      have HWA := Lib.hid wa1
      have hbwa := HBW.out.trans (wa1.mono HBW.out.size)
      have hGw : w.heap.size ≤ G := by omega
      have hTlt := hTa.lt
      have hS0 : Below wa.heap.size wa wa.drew := (Below.refl _ _).drew
      clear hTa hGs hGa hZs hZa hIa hgsk hzsk wa1 hskn t1
      refine region_stepsRM (S := fun W => Below wa.heap.size wa W) (U := UR9 (fun q => match q with | 0 => .pointer (some ⟨T, 1, none⟩) | 1 => .slice (some ⟨G, 0, none⟩) l.length l.length | 2 => .int .i64 (i : Nat) | 3 => .slice vb st vc | 4 => .int .i64 (cut : Nat) | 5 => .slice (if vc = cut then vb else vb.map (·.add cut)) kn (vc - cut) | 7 => .pointer (some ⟨G, i, none⟩) | _ => undef)) (V := VR9 l i wa.heap.size) (m := 8) (n := 8) rfl (by kernel_rfl) (fun _ _ hb hs => hs.trans (hb.mono hs.size)) (keepVR9 _ _ _) (by kernel_rfl) hS0 ?_
      clear hS0
      simp only [List.size_toArray, List.length_cons, List.length_nil, Nat.reduceAdd, Array.replicate_succ, Array.replicate_zero, List.push_toArray, List.nil_append, List.cons_append]
      refine AnyRM.step (m := 8) (i := 0) (d := some 35) rfl rfl (by kernel_rfl) (by kernel_rfl) (by kernel_rfl) (by kernel_rfl) (by kernel_rfl) ?_ ?_ ?_
      · exact ⟨_, rfl⟩
      · refine StepsR.yield (.pointer (some ⟨T, 1, none⟩)) (by first | rfl | kernel_rfl) (by kernel_rfl) (fun w' hS hD => ⟨?_, trivial⟩)
        clear hS hD; go_simp
        try rfl
      intro v' hv' a' ha'
      have hv' : .pointer (some ⟨T, 1, none⟩) = v' := Eq.symm hv'
      subst hv'
      simp only [Act.put, List.setIfInBounds_toArray, List.set_cons_zero, List.set_cons_succ] at ha'
      subst ha'
      refine AnyRM.step (m := 8) (i := 1) (d := some 36) rfl rfl (by kernel_rfl) (by kernel_rfl) (by kernel_rfl) (by kernel_rfl) (by kernel_rfl) ?_ ?_ ?_
      · exact ⟨_, rfl⟩
      · refine StepsR.yield (.slice (some ⟨G, 0, none⟩) l.length l.length) (by first | rfl | kernel_rfl) (by kernel_rfl) (fun w' hS hD => ⟨?_, trivial⟩)
        have t1 := (HTA.out.below hS hTlt).cell 1; simp only [List.getElem?_toArray, List.getElem?_cons_zero, List.getElem?_cons_succ] at t1; clear hS hD; go_simp
        try rfl
      intro v' hv' a' ha'
      have hv' : .slice (some ⟨G, 0, none⟩) l.length l.length = v' := Eq.symm hv'
      subst hv'
      simp only [Act.put, List.setIfInBounds_toArray, List.set_cons_zero, List.set_cons_succ] at ha'
      subst ha'
      refine AnyRM.step (m := 8) (i := 2) (d := some 37) rfl rfl (by kernel_rfl) (by kernel_rfl) (by kernel_rfl) (by kernel_rfl) (by kernel_rfl) ?_ ?_ ?_
      · exact ⟨_, rfl⟩
      · refine StepsR.yield (.int .i64 (i : Nat)) (by first | rfl | kernel_rfl) (by kernel_rfl) (fun w' hS hD => ⟨?_, trivial⟩)
        clear hS hD; go_simp
        try rfl
      intro v' hv' a' ha'
      have hv' : .int .i64 (i : Nat) = v' := Eq.symm hv'
      subst hv'
      simp only [Act.put, List.setIfInBounds_toArray, List.set_cons_zero, List.set_cons_succ] at ha'
      subst ha'
      refine AnyRM.step (m := 8) (i := 3) (d := some 38) rfl rfl (by kernel_rfl) (by kernel_rfl) (by kernel_rfl) (by kernel_rfl) (by kernel_rfl) ?_ ?_ ?_
      · exact ⟨_, rfl⟩
      · refine StepsR.yield (.slice vb st vc) (by first | rfl | kernel_rfl) (by kernel_rfl) (fun w' hS hD => ⟨?_, trivial⟩)
        clear hS hD; go_simp
        try rfl
      intro v' hv' a' ha'
      have hv' : .slice vb st vc = v' := Eq.symm hv'
      subst hv'
      simp only [Act.put, List.setIfInBounds_toArray, List.set_cons_zero, List.set_cons_succ] at ha'
      subst ha'
      refine AnyRM.step (m := 8) (i := 4) (d := some 39) rfl rfl (by kernel_rfl) (by kernel_rfl) (by kernel_rfl) (by kernel_rfl) (by kernel_rfl) ?_ ?_ ?_
      · exact ⟨_, rfl⟩
      · refine StepsR.yield (.int .i64 (cut : Nat)) (by first | rfl | kernel_rfl) (by kernel_rfl) (fun w' hS hD => ⟨?_, trivial⟩)
        clear hS hD; go_simp
        try rfl
      intro v' hv' a' ha'
      have hv' : .int .i64 (cut : Nat) = v' := Eq.symm hv'
      subst hv'
      simp only [Act.put, List.setIfInBounds_toArray, List.set_cons_zero, List.set_cons_succ] at ha'
      subst ha'
      refine AnyRM.step (m := 8) (i := 5) (d := some 40) rfl rfl (by kernel_rfl) (by kernel_rfl) (by kernel_rfl) (by kernel_rfl) (by kernel_rfl) ?_ ?_ ?_
      · exact ⟨_, rfl⟩
      · refine StepsR.yield (.slice (if vc = cut then vb else vb.map (·.add cut)) kn (vc - cut)) rfl (by kernel_rfl) (fun w' hS hD => ⟨?_, trivial⟩)
        clear hS hD; go_simp
        first | exact hslo w' | (rw [hslo]; rfl) | trace_state
      intro v' hv' a' ha'
      have hv' : .slice (if vc = cut then vb else vb.map (·.add cut)) kn (vc - cut) = v' := Eq.symm hv'
      subst hv'
      simp only [Act.put, List.setIfInBounds_toArray, List.set_cons_zero, List.set_cons_succ] at ha'
      subst ha'
      refine AnyRM.step (m := 8) (i := 6) (d := some 41) rfl rfl (by kernel_rfl) (by kernel_rfl) (by kernel_rfl) (by kernel_rfl) (by kernel_rfl) ?_ ?_ ?_
      · exact ⟨undef, trivial⟩
      · exact StepsR.call (by kernel_rfl) (fun w' hS => by clear hS; go_simp) (fun w' hS hD => HSV.out w' hS)
      rintro v41 - a' ha'
      simp only [Act.put, List.setIfInBounds_toArray, List.set_cons_zero, List.set_cons_succ] at ha'
      subst ha'
      refine AnyRM.step (m := 8) (i := 7) (d := some 42) rfl rfl (by kernel_rfl) (by kernel_rfl) (by kernel_rfl) (by kernel_rfl) (by kernel_rfl) ?_ ?_ ?_
      · exact ⟨_, rfl⟩
      · refine StepsR.yield (.pointer (some ⟨G, i, none⟩)) (by first | rfl | kernel_rfl) (by kernel_rfl) (fun w' hS hD => ⟨?_, trivial⟩)
        clear hS hD; go_simp
        try rfl
      intro v' hv' a' ha'
      have hv' : .pointer (some ⟨G, i, none⟩) = v' := Eq.symm hv'
      subst hv'
      simp only [Act.put, List.setIfInBounds_toArray, List.set_cons_zero, List.set_cons_succ] at ha'
      subst ha'
      refine AnyRM.last rfl (by kernel_rfl) (by kernel_rfl) (by kernel_rfl) (fun w9 hS hF K hK => ?_)
      have h6 : OwI wa.heap.size v41 (kidsR l i) w9 := hF 6 _ 41 (by kernel_rfl) rfl rfl
      have hG9 := HGA.out.below hS HGA.out.lt
      have hI9 := (HI.out.below HWA.out).below hS
      have hkid := hI9.setKid hlt hGZ (h6.mono (Nat.le_trans HI.out.kp.size (Nat.le_trans HWA.out.size (Nat.le_refl _)))) (fun b hb e => by have h1 := (World.ownsRow.lt h6 b hb).1; have h2 := (World.ownsRow.lt HI.out.own b e).2; omega)
      have HI10 := Lib.hid hkid
      have HT10 := Lib.hid ((HTA.out.below hS hTlt).other hTG i v41)
      have HB10 := Lib.hid (below_set (hbwa.trans (hS.mono (Nat.le_trans HBW.out.size HWA.out.size))) hGw i v41)
      obtain ⟨kb, kc, rfl, -⟩ := h6.ints
      obtain ⟨gv, hgv⟩ : ∃ v, gs[i]? = some v := ⟨gs[i]'(by have := HGK.out.1; omega), Array.getElem?_eq_getElem (by have := HGK.out.1; omega)⟩
      have c9 := (hG9.cell i).trans hgv
      have f9 := hG9.frozen i
      clear hF hG9 hI9 hkid h6 hgv hS HSV HGK HZK HGA HZA HIA HTA hslo
      go_simp
      refine hK _ _ ?_
      clear hK K c9 f9
      generalize w9.setCell ⟨G, i, none⟩ (.slice kb (kidsR l i).length kc) = w10 at *
      obtain ⟨i0, hinf, hz0, hz1, hz2⟩ := info_parts info_int
      obtain ⟨xs, hxs⟩ : ∃ xs, xs = ((stkP l i).take cut).map (Value.int .i64) := ⟨_, rfl⟩
      have HXS := Lib.hid hxs
      have HSZ : Hid (wc.heap.size ≤ w10.heap.size) := Lib.hid HI10.out.kp.size
      have hTw : T < wc.heap.size := HGL.out.2.2
      have hTown : ∀ b, (Value.slice vb st vc).ownBlock = some b → b ≠ T := fun b hb e => by have := (World.ownsRow.lt HI10.out.own b hb).1; omega
      have HTOWN := Lib.hid hTown
      have HTB := Lib.hid (show ∀ W, World.grownBy (w10.alloc (.cells #[.int .i64 i] 3)) W (Value.slice vb st vc).ownBlock → Blk W T (treeC l.length (some ⟨g, off, none⟩) ca G am cm Z) 52 from fun W hW => (HT10.out.alloc _).kept hW (fun e => HTOWN.out T e.symm rfl))
      have HTG := Lib.hid (show ∀ W, World.grownBy (w10.alloc (.cells #[.int .i64 i] 3)) W (Value.slice vb st vc).ownBlock → W.cell? ⟨T, 0, none⟩ = some (.slice (some ⟨g, off, none⟩) l.length ca) ∧ W.cell? ⟨T, 1, none⟩ = some (.slice (some ⟨G, 0, none⟩) l.length l.length) ∧ W.cell? ⟨T, 2, none⟩ = some (.slice am l.length cm) ∧ W.cell? ⟨T, 3, none⟩ = some (.slice (some ⟨Z, 0, none⟩) l.length l.length) from fun W hW => by
        have hb := HTB.out W hW
        exact ⟨hb.cell 0, hb.cell 1, hb.cell 2, hb.cell 3⟩)
      have HSTK := Lib.hid (show ∀ W v, W.ownsRow wc.heap.size 3 1 v (cut + 1) (xs ++ [.int .i64 i]) → OwI wc.heap.size v (stkP l (i + 1)) W from fun W v hW => by
        have e : (stkP l (i + 1)).length = cut + 1 := by rw [HKN.out.2, List.length_append, List.length_take, List.length_singleton]; have := HCKN.out; omega
        unfold OwI
        rw [e, HKN.out.2, List.map_append, ← HXS.out]
        exact hW)
      have howL := HI10.out.own.2
      have hown0 := HI10.out.own
      clear hxs hTown
      rcases howL with ⟨eN, h0⟩ | ⟨g0, cap0, cur0, eS, hb0, hg0, hcap, _⟩
      · cases eN
        have hc0 : cut = 0 := by have := HCKN.out; omega
        subst hc0
        have HROW := Lib.hid (show w10.ownsRow wc.heap.size 3 1 (.slice none 0 0) 0 xs from by rw [HXS.out, List.take_zero]; exact World.ownsRow_nil _ _ _ _)
        clear hown0 h0
        go_wp2_with (at_builtin; refine wpList_append_lies _ rfl _ _ 50 rfl wc.heap.size 3 i0 (.int .i64 0) 1 8 Tryd.underlying50 hinf hz0 hz1 hz2 rfl (by decide) (.slice none 0 0) 0 xs rfl (HROW.out.alloc _) ⟨w10.heap.size, 0, none⟩ 1 1 [.int .i64 i] rfl rfl (Blk.new w10 #[.int .i64 i] _).newsL (by simp [Value.oneCell']) (by decide) (by unfold maxLen; omega) (by omega) (by rw [World.size_alloc]; have := HSZ.out; omega) (w10.heap.size + 1) (World.size_alloc ..) ?_; intro g7 cap7 w11 hown hgrow hat hlt7; have HO7 := Lib.hid hown; have HG7 := Lib.hid (show World.grownBy _ w11 (Value.slice none 0 0).ownBlock from hgrow); have HT7 := Lib.hid (show (Value.slice none 0 0).ownBlock = some g7 ∨ g7 = w10.heap.size + 1 from hat); clear hown hgrow hat hlt7; have t0 := HTG.out w11 HG7.out; obtain ⟨t0, t1, t2, t3⟩ := t0)
        all_goals
          have hI11 := (HI10.out.below ((Below.refl w10.heap.size w10).alloc (Nat.le_refl _) (.cells #[.int .i64 i] 3))).grow HG7.out (show OwI wc.heap.size (.slice (some ⟨g7, 0, none⟩) (0 + 1) cap7) (stkP l (i + 1)) w11 from HSTK.out w11 _ HO7.out) (HT7.out.imp id (fun h => by rw [World.size_alloc]; omega))
          have hT11 := HTB.out w11 HG7.out
          have hB11 : Below w.heap.size w w11 := (HB10.out.alloc HB10.out.size (.cells #[.int .i64 i] 3)).grown HG7.out (by rw [World.size_alloc]; have := HB10.out.size; omega) (fun b hb => by have := (World.ownsRow.lt HI10.out.own b hb).1; have := HBC.out.size; omega)
          have HI11 := Lib.hid hI11
          have HT11 := Lib.hid hT11
          have HB11 := Lib.hid hB11
          obtain ⟨zs, hZs, hzsz, hzsk⟩ := hI11.nulls
          have HZ11 := Lib.hid hZs
          obtain ⟨zv, hzv⟩ : ∃ v, zs[i]? = some v := ⟨zs[i]'(by omega), Array.getElem?_eq_getElem (by omega)⟩
          have HZV := Lib.hid hzv
          have HMC := Lib.hid (show ∀ W, Below w11.heap.size w11 W → Calls Tryd.prog 39 #[.agg (treeC l.length (some ⟨g, off, none⟩) ca G am cm Z), .int .i64 i] W fun e w' => e = .returned (.bool (nulV l i)) ∧ Below w11.heap.size w11 w' from fun W hW => by
            refine (HMB.out (i + 1) (Nat.lt_succ_self i) W ((hI11.below hW).tree HND.out (hB11.trans (hW.mono hB11.size)) HNI.out.1 HNI.out.2)).mono ?_
            rintro e w' ⟨rfl, h2⟩
            exact ⟨rfl, hW.trans (h2.mono hW.size)⟩)
          have hT11l := hT11.lt
          have hZ11l := hZs.lt
          obtain ⟨nu, hnu⟩ : ∃ b, b = nulV l i := ⟨_, rfl⟩
          rw [← hnu] at HMC
          have HNU2 := Lib.hid hnu
          clear hI11 hT11 hB11 hZs hzsz hzsk hzv hnu HO7 HG7 HT7 HI10 HT10 HTG HTB HSTK HROW HB10 t0 t1 t2 t3
          have hS0 : Below w11.heap.size w11 w11.drew := (Below.refl _ _).drew
          refine region_stepsM (S := fun W => Below w11.heap.size w11 W) (m := 7) rfl (by kernel_rfl) hS0 ?_
          clear hS0
          simp only [List.size_toArray, List.length_cons, List.length_nil, Nat.reduceAdd, Array.replicate_succ, Array.replicate_zero, List.push_toArray, List.nil_append, List.cons_append]
          refine AnyM.next (m := 7) (i := 0) (d := some 49) (v := .pointer (some ⟨T, 3, none⟩)) rfl rfl (by kernel_rfl) (by kernel_rfl) (by kernel_rfl) (by kernel_rfl) (StepsIf.yield (by kernel_rfl) (fun w' hS => by clear hS; go_simp)) ?_
          intro a' ha'
          simp only [Act.put, List.setIfInBounds_toArray, List.set_cons_zero, List.set_cons_succ] at ha'
          subst ha'
          refine AnyM.next (m := 7) (i := 1) (d := some 50) (v := .slice (some ⟨Z, 0, none⟩) l.length l.length) rfl rfl (by kernel_rfl) (by kernel_rfl) (by kernel_rfl) (by kernel_rfl) (StepsIf.yield (by kernel_rfl) (fun w' hS => by have hT := HT11.out.below hS hT11l; have t0 := hT.cell 0; have t1 := hT.cell 1; have t2 := hT.cell 2; have t3 := hT.cell 3; clear hT; simp only [List.getElem?_toArray, List.getElem?_cons_zero, List.getElem?_cons_succ] at t0 t1 t2 t3; clear hS; go_simp)) ?_
          intro a' ha'
          simp only [Act.put, List.setIfInBounds_toArray, List.set_cons_zero, List.set_cons_succ] at ha'
          subst ha'
          refine AnyM.next (m := 7) (i := 2) (d := some 51) (v := .int .i64 (i : Nat)) rfl rfl (by kernel_rfl) (by kernel_rfl) (by kernel_rfl) (by kernel_rfl) (StepsIf.yield (by kernel_rfl) (fun w' hS => by clear hS; go_simp)) ?_
          intro a' ha'
          simp only [Act.put, List.setIfInBounds_toArray, List.set_cons_zero, List.set_cons_succ] at ha'
          subst ha'
          refine AnyM.next (m := 7) (i := 3) (d := some 52) (v := .agg (treeC l.length (some ⟨g, off, none⟩) ca G am cm Z)) rfl rfl (by kernel_rfl) (by kernel_rfl) (by kernel_rfl) (by kernel_rfl) (StepsIf.yield (by kernel_rfl) (fun w' hS => by have hT := HT11.out.below hS hT11l; have t0 := hT.cell 0; have t1 := hT.cell 1; have t2 := hT.cell 2; have t3 := hT.cell 3; clear hT; simp only [List.getElem?_toArray, List.getElem?_cons_zero, List.getElem?_cons_succ] at t0 t1 t2 t3; clear hS; go_simp)) ?_
          intro a' ha'
          simp only [Act.put, List.setIfInBounds_toArray, List.set_cons_zero, List.set_cons_succ] at ha'
          subst ha'
          refine AnyM.next (m := 7) (i := 4) (d := some 53) (v := .int .i64 (i : Nat)) rfl rfl (by kernel_rfl) (by kernel_rfl) (by kernel_rfl) (by kernel_rfl) (StepsIf.yield (by kernel_rfl) (fun w' hS => by clear hS; go_simp)) ?_
          intro a' ha'
          simp only [Act.put, List.setIfInBounds_toArray, List.set_cons_zero, List.set_cons_succ] at ha'
          subst ha'
          refine AnyM.next (m := 7) (i := 5) (d := some 54) (v := .bool nu) rfl rfl (by kernel_rfl) (by kernel_rfl) (by kernel_rfl) (by kernel_rfl) (StepsIf.call (by kernel_rfl) (fun w' hS => by clear hS; go_simp) (fun w' hS => HMC.out w' hS)) ?_
          intro a' ha'
          simp only [Act.put, List.setIfInBounds_toArray, List.set_cons_zero, List.set_cons_succ] at ha'
          subst ha'
          refine AnyM.next (m := 7) (i := 6) (d := some 55) (v := .pointer (some ⟨Z, i, none⟩)) rfl rfl (by kernel_rfl) (by kernel_rfl) (by kernel_rfl) (by kernel_rfl) (StepsIf.yield (by kernel_rfl) (fun w' hS => by clear hS; go_simp)) ?_
          intro a' ha'
          simp only [Act.put, List.setIfInBounds_toArray, List.set_cons_zero, List.set_cons_succ] at ha'
          subst ha'
          refine AnyM.last rfl (by kernel_rfl) (by kernel_rfl) (by kernel_rfl) (fun w12 hS K hK => ?_)
          have c9 := ((HZ11.out.below hS hZ11l).cell i).trans HZV.out
          have f9 := (HZ11.out.below hS hZ11l).frozen i
          have HI12 := Lib.hid ((HI11.out.below hS).setNull hlt hGZ)
          rw [← HNU2.out] at HI12
          clear hS HI11 HT11 HB11 HZ11 HZV HMC
          go_simp
          refine hK _ _ ?_
          clear hK K c9 f9
          generalize w12.setCell ⟨Z, i, none⟩ (.bool nu) = w13 at *
          go_wp2_with fail
          go_roundw
          case rel => exact ⟨i + 1, by omega, by simp, HI12.out⟩
          case measure => simp [intOf]; omega
      · have e1 : vb = some ⟨g0, 0, none⟩ := by injection eS
        have e3 : vc = cap0 := by injection eS
        subst e1
        subst e3
        clear eS
        have hstl : st = (stkP l i).length := HSL.out
        have hcv : cut ≤ vc := by omega
        have HROW := Lib.hid (show w10.ownsRow wc.heap.size 3 1 (.slice (some ⟨g0, 0, none⟩) cut vc) cut xs from by
          rw [HXS.out]
          have h := hown0
          unfold OwI at h
          rw [← hstl] at h
          exact own_cutI h hct)
        have hcvi : (cut : Int) ≤ (vc : Int) := by omega
        have hci0 : (0 : Int) ≤ (cut : Int) := by omega
        clear hown0 hb0 hg0 hcap hstl
        go_wp2_with (at_builtin; refine wpList_append_lies _ rfl _ _ 50 rfl wc.heap.size 3 i0 (.int .i64 0) 1 8 Tryd.underlying50 hinf hz0 hz1 hz2 rfl (by decide) (.slice (some ⟨g0, 0, none⟩) cut vc) cut xs rfl (HROW.out.alloc _) ⟨w10.heap.size, 0, none⟩ 1 1 [.int .i64 i] rfl rfl (Blk.new w10 #[.int .i64 i] _).newsL (by simp [Value.oneCell']) (by decide) (by unfold maxLen; omega) (by omega) (by rw [World.size_alloc]; have := HSZ.out; omega) (w10.heap.size + 1) (World.size_alloc ..) ?_; intro g7 cap7 w11 hown hgrow hat hlt7; have HO7 := Lib.hid hown; have HG7 := Lib.hid (show World.grownBy _ w11 (Value.slice (some ⟨g0, 0, none⟩) st vc).ownBlock from hgrow); have HT7 := Lib.hid (show (Value.slice (some ⟨g0, 0, none⟩) st vc).ownBlock = some g7 ∨ g7 = w10.heap.size + 1 from hat); clear hown hgrow hat hlt7; have t0 := HTG.out w11 HG7.out; obtain ⟨t0, t1, t2, t3⟩ := t0)
        all_goals
          have hI11 := (HI10.out.below ((Below.refl w10.heap.size w10).alloc (Nat.le_refl _) (.cells #[.int .i64 i] 3))).grow HG7.out (show OwI wc.heap.size (.slice (some ⟨g7, 0, none⟩) (cut + 1) cap7) (stkP l (i + 1)) w11 from HSTK.out w11 _ HO7.out) (HT7.out.imp id (fun h => by rw [World.size_alloc]; omega))
          have hT11 := HTB.out w11 HG7.out
          have hB11 : Below w.heap.size w w11 := (HB10.out.alloc HB10.out.size (.cells #[.int .i64 i] 3)).grown HG7.out (by rw [World.size_alloc]; have := HB10.out.size; omega) (fun b hb => by have := (World.ownsRow.lt HI10.out.own b hb).1; have := HBC.out.size; omega)
          have HI11 := Lib.hid hI11
          have HT11 := Lib.hid hT11
          have HB11 := Lib.hid hB11
          obtain ⟨zs, hZs, hzsz, hzsk⟩ := hI11.nulls
          have HZ11 := Lib.hid hZs
          obtain ⟨zv, hzv⟩ : ∃ v, zs[i]? = some v := ⟨zs[i]'(by omega), Array.getElem?_eq_getElem (by omega)⟩
          have HZV := Lib.hid hzv
          have HMC := Lib.hid (show ∀ W, Below w11.heap.size w11 W → Calls Tryd.prog 39 #[.agg (treeC l.length (some ⟨g, off, none⟩) ca G am cm Z), .int .i64 i] W fun e w' => e = .returned (.bool (nulV l i)) ∧ Below w11.heap.size w11 w' from fun W hW => by
            refine (HMB.out (i + 1) (Nat.lt_succ_self i) W ((hI11.below hW).tree HND.out (hB11.trans (hW.mono hB11.size)) HNI.out.1 HNI.out.2)).mono ?_
            rintro e w' ⟨rfl, h2⟩
            exact ⟨rfl, hW.trans (h2.mono hW.size)⟩)
          have hT11l := hT11.lt
          have hZ11l := hZs.lt
          obtain ⟨nu, hnu⟩ : ∃ b, b = nulV l i := ⟨_, rfl⟩
          rw [← hnu] at HMC
          have HNU2 := Lib.hid hnu
          clear hI11 hT11 hB11 hZs hzsz hzsk hzv hnu HO7 HG7 HT7 HI10 HT10 HTG HTB HSTK HROW HB10 t0 t1 t2 t3
          have hS0 : Below w11.heap.size w11 w11.drew := (Below.refl _ _).drew
          refine region_stepsM (S := fun W => Below w11.heap.size w11 W) (m := 7) rfl (by kernel_rfl) hS0 ?_
          clear hS0
          simp only [List.size_toArray, List.length_cons, List.length_nil, Nat.reduceAdd, Array.replicate_succ, Array.replicate_zero, List.push_toArray, List.nil_append, List.cons_append]
          refine AnyM.next (m := 7) (i := 0) (d := some 49) (v := .pointer (some ⟨T, 3, none⟩)) rfl rfl (by kernel_rfl) (by kernel_rfl) (by kernel_rfl) (by kernel_rfl) (StepsIf.yield (by kernel_rfl) (fun w' hS => by clear hS; go_simp)) ?_
          intro a' ha'
          simp only [Act.put, List.setIfInBounds_toArray, List.set_cons_zero, List.set_cons_succ] at ha'
          subst ha'
          refine AnyM.next (m := 7) (i := 1) (d := some 50) (v := .slice (some ⟨Z, 0, none⟩) l.length l.length) rfl rfl (by kernel_rfl) (by kernel_rfl) (by kernel_rfl) (by kernel_rfl) (StepsIf.yield (by kernel_rfl) (fun w' hS => by have hT := HT11.out.below hS hT11l; have t0 := hT.cell 0; have t1 := hT.cell 1; have t2 := hT.cell 2; have t3 := hT.cell 3; clear hT; simp only [List.getElem?_toArray, List.getElem?_cons_zero, List.getElem?_cons_succ] at t0 t1 t2 t3; clear hS; go_simp)) ?_
          intro a' ha'
          simp only [Act.put, List.setIfInBounds_toArray, List.set_cons_zero, List.set_cons_succ] at ha'
          subst ha'
          refine AnyM.next (m := 7) (i := 2) (d := some 51) (v := .int .i64 (i : Nat)) rfl rfl (by kernel_rfl) (by kernel_rfl) (by kernel_rfl) (by kernel_rfl) (StepsIf.yield (by kernel_rfl) (fun w' hS => by clear hS; go_simp)) ?_
          intro a' ha'
          simp only [Act.put, List.setIfInBounds_toArray, List.set_cons_zero, List.set_cons_succ] at ha'
          subst ha'
          refine AnyM.next (m := 7) (i := 3) (d := some 52) (v := .agg (treeC l.length (some ⟨g, off, none⟩) ca G am cm Z)) rfl rfl (by kernel_rfl) (by kernel_rfl) (by kernel_rfl) (by kernel_rfl) (StepsIf.yield (by kernel_rfl) (fun w' hS => by have hT := HT11.out.below hS hT11l; have t0 := hT.cell 0; have t1 := hT.cell 1; have t2 := hT.cell 2; have t3 := hT.cell 3; clear hT; simp only [List.getElem?_toArray, List.getElem?_cons_zero, List.getElem?_cons_succ] at t0 t1 t2 t3; clear hS; go_simp)) ?_
          intro a' ha'
          simp only [Act.put, List.setIfInBounds_toArray, List.set_cons_zero, List.set_cons_succ] at ha'
          subst ha'
          refine AnyM.next (m := 7) (i := 4) (d := some 53) (v := .int .i64 (i : Nat)) rfl rfl (by kernel_rfl) (by kernel_rfl) (by kernel_rfl) (by kernel_rfl) (StepsIf.yield (by kernel_rfl) (fun w' hS => by clear hS; go_simp)) ?_
          intro a' ha'
          simp only [Act.put, List.setIfInBounds_toArray, List.set_cons_zero, List.set_cons_succ] at ha'
          subst ha'
          refine AnyM.next (m := 7) (i := 5) (d := some 54) (v := .bool nu) rfl rfl (by kernel_rfl) (by kernel_rfl) (by kernel_rfl) (by kernel_rfl) (StepsIf.call (by kernel_rfl) (fun w' hS => by clear hS; go_simp) (fun w' hS => HMC.out w' hS)) ?_
          intro a' ha'
          simp only [Act.put, List.setIfInBounds_toArray, List.set_cons_zero, List.set_cons_succ] at ha'
          subst ha'
          refine AnyM.next (m := 7) (i := 6) (d := some 55) (v := .pointer (some ⟨Z, i, none⟩)) rfl rfl (by kernel_rfl) (by kernel_rfl) (by kernel_rfl) (by kernel_rfl) (StepsIf.yield (by kernel_rfl) (fun w' hS => by clear hS; go_simp)) ?_
          intro a' ha'
          simp only [Act.put, List.setIfInBounds_toArray, List.set_cons_zero, List.set_cons_succ] at ha'
          subst ha'
          refine AnyM.last rfl (by kernel_rfl) (by kernel_rfl) (by kernel_rfl) (fun w12 hS K hK => ?_)
          have c9 := ((HZ11.out.below hS hZ11l).cell i).trans HZV.out
          have f9 := (HZ11.out.below hS hZ11l).frozen i
          have HI12 := Lib.hid ((HI11.out.below hS).setNull hlt hGZ)
          rw [← HNU2.out] at HI12
          clear hS HI11 HT11 HB11 HZ11 HZV HMC
          go_simp
          refine hK _ _ ?_
          clear hK K c9 f9
          generalize w12.setCell ⟨Z, i, none⟩ (.bool nu) = w13 at *
          go_wp2_with fail
          go_roundw
          case rel => exact ⟨i + 1, by omega, by simp, HI12.out⟩
          case measure => simp [intOf]; omega
    · obtain rfl : i = l.length := by omega
      have hTr := HTC.out.kpA HI.out.kp (by rintro (h | h) <;> omega)
      have t0 := hTr.cell 0; have t1 := hTr.cell 1; have t2 := hTr.cell 2; have t3 := hTr.cell 3
      simp only [List.getElem?_toArray, List.getElem?_cons_zero, List.getElem?_cons_succ] at t0 t1 t2 t3
      have hRr := HRC.out.kpA HI.out.kp (by rintro (h | h) <;> omega)
      have HRR := Lib.hid hRr
      have hTN := HI.out.tree HND.out HBW.out HNI.out.1 HNI.out.2
      have HTN := Lib.hid (show TreeN l l.length l.length (some ⟨g, off, none⟩) G am Z (wr.setRow w.heap.size (treeC l.length (some ⟨g, off, none⟩) ca G am cm Z)) from HTNS.out wr hTN HBW.out HRR.out)
      clear hTr hRr hTN
      go_wp2_with ((with_reducible refine wpList_store_st (o := ⟨none, .store 52 _ _, _, _, _, _⟩) rfl 52 _ _ rfl w.heap.size rfl rfl (run_storeAt_row _ w.heap.size 52 52 zTr (treeC l.length (some ⟨g, off, none⟩) ca G am cm Z) ?_ ?_ ?_ ?_) ?_); exact HRR.out; exact hsi; rfl; simp [Value.oneCell'])
      exact bodyPost_ret (results_cell1 rfl _ _ w.heap.size 52 _ (0, 0) _ rfl (Blk.setRow HRR.out) Tryd.underlying52 rfl (by kernel_rfl)) rfl ⟨G, am, cm, Z, rfl, HTN.out, by omega, below_row HBW.out (Nat.le_refl _) _⟩
end Go.Proofs.YtpncomjpmilbkaaDoor

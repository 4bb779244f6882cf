/- Texts put together: Tuh. -/
import Derived.Test.YtdpkhliojbeglaaDoorPZ
import Derived.Test.YtdpkhliojbeglaaDoorPC
/- The developers' learn. Stage 15. -/
namespace Go.Proofs.YtdpkhliojbeglaaDoor
open Go.RowKit BS

/-- The rows behind the first q nodes. -/
def stQ (l : List NdN) (w : List Nat) (q : Nat) : Nat → Nat → BitVec 256 := fun q' i => if q' < q ∧ i ≤ w.length then rowS l w q' i else 0
theorem fin_row (l : List NdN) (w : List Nat) (q : Nat) (f : Nat → Nat → BitVec 256) (g : Nat → BitVec 256) (h1 : ∀ q' i, q' ≠ q → f q' i = stQ l w q q' i) (h2 : ∀ i, w.length < i → f q i = 0) (h3 : ∀ i, i ≤ w.length → g i = rowS l w q i) :
    ∀ q' i, putR f q (w.length + 1) g q' i = stQ l w (q + 1) q' i := by
  intro q' i
  unfold putR
  by_cases h : q' = q ∧ i < w.length + 1
  · obtain ⟨rfl, h⟩ := h
    rw [if_pos ⟨rfl, h⟩, h3 i (by omega)]
    unfold stQ; rw [if_pos ⟨by omega, by omega⟩]
  · rw [if_neg h]
    by_cases hq : q' = q
    · subst hq
      rw [h2 i (by omega)]
      unfold stQ; rw [if_neg (by omega)]
    · rw [h1 q' i hq]
      unfold stQ
      by_cases h4 : q' < q ∧ i ≤ w.length
      · rw [if_pos h4, if_pos ⟨by omega, h4.2⟩]
      · rw [if_neg h4, if_neg (by omega)]
theorem fin_leaf (l : List NdN) (w : List Nat) (q : Nat) (s : BitVec 256) (hP : PartsOk l) (hw : w.length < 256) (hq : q < l.length) (hk : (ndE l q).kind = 2) (hs : (ndE l q).set = s) :
    ∀ q' i, putR (stQ l w q) q w.length (stepG (stQ l w q) s w q) q' i = stQ l w (q + 1) q' i := by
  intro q' i
  have hz : ∀ i, stQ l w q q i = 0 := fun i => by unfold stQ; rw [if_neg (by omega)]
  unfold putR
  by_cases h : q' = q ∧ i < w.length
  · obtain ⟨rfl, h⟩ := h
    rw [if_pos ⟨rfl, h⟩]
    unfold stepG
    rw [hz]
    have e : stQ l w (q' + 1) q' i = rowS l w q' i := by unfold stQ; rw [if_pos ⟨by omega, by omega⟩]
    rw [e, row_2 hP hw hq hk, hs]
    by_cases h2 : s.getLsbD (w.getD i 0) = true
    · rw [if_pos h2, if_pos ⟨h, h2⟩]; simp
    · rw [if_neg h2, if_neg (fun h3 => h2 h3.2)]
  · rw [if_neg h]
    by_cases hqq : q' = q
    · subst hqq
      rw [hz]
      unfold stQ
      by_cases h4 : i ≤ w.length
      · rw [if_pos ⟨by omega, h4⟩, row_2 hP hw hq hk, if_neg (by omega)]
      · rw [if_neg (by omega)]
    · unfold stQ
      by_cases h4 : q' < q ∧ i ≤ w.length
      · rw [if_pos h4, if_pos ⟨by omega, h4.2⟩]
      · rw [if_neg h4, if_neg (by omega)]
theorem blk8 {W : World} {G : Nat} {k a b m : Int} {s : BitVec 256} {t : TypeId} (h : Blk W G (ndI k a b m s) t) : W.cell? ⟨G, 0, none⟩ = some (.int .i64 k) ∧ W.cell? ⟨G, 1, none⟩ = some (.int .i64 a) ∧ W.cell? ⟨G, 2, none⟩ = some (.int .i64 b) ∧ W.cell? ⟨G, 3, none⟩ = some (.int .i64 m) ∧
    W.cell? ⟨G, 4, none⟩ = some (.int .u64 (wd s 0)) ∧ W.cell? ⟨G, 5, none⟩ = some (.int .u64 (wd s 1)) ∧ W.cell? ⟨G, 6, none⟩ = some (.int .u64 (wd s 2)) ∧ W.cell? ⟨G, 7, none⟩ = some (.int .u64 (wd s 3)) :=
  ⟨h.cell 0, h.cell 1, h.cell 2, h.cell 3, h.cell 4, h.cell 5, h.cell 6, h.cell 7⟩
theorem blk3 {W : World} {G : Nat} {x y z : Value} {t : TypeId} (h : Blk W G #[x, y, z] t) : W.cell? ⟨G, 0, none⟩ = some x ∧ W.cell? ⟨G, 1, none⟩ = some y ∧ W.cell? ⟨G, 2, none⟩ = some z := ⟨h.cell 0, h.cell 1, h.cell 2⟩
@[reducible] def zTm : Array Value := #[.int .i64 0, .int .i64 0, .int .i64 0, .int .i64 0, .int .u64 0, .int .u64 0, .int .u64 0, .int .u64 0]
def ULn (c : Nat → Value) : Nat → List Value → Value → Prop
  | 8, _, v => ∃ G : Nat, v = .pointer (some ⟨G, 0, none⟩)
  | i, _, v => v = c i
def VLn (n1 : Nat) : Nat → Value → World → Prop
  | 8, v, W => ∃ G : Nat, v = .pointer (some ⟨G, 0, none⟩) ∧ n1 ≤ G ∧ Blk W G zTm 60
  | _, _, _ => True
theorem keepVLn (n1 : Nat) : ∀ i v w w', Below w.heap.size w w' → VLn n1 i v w → VLn n1 i v w' := by
  intro i v w w' hb h
  unfold VLn at *
  split <;> simp only at h
  · obtain ⟨G, h1, h2, h3⟩ := h
    exact ⟨G, h1, h2, h3.below hb h3.lt⟩
  · trivial
set_option maxRecDepth 100000 in
set_option maxHeartbeats 64000000 in
theorem learnL_calls (l : List NdN) (hr : rightT l = true) (hl : l.length ≤ 1000) (w : List Nat) (hw : w.length ≤ 64) (hw8 : ∀ x ∈ w, x < 256) (B lcp wcp q : Nat) (la wa : Option Addr) (hq : q < l.length) (W : World) (hN : NodesAt l la W) (hT : BtsAt w wa W)
    (hla : ∀ g o, la = some ⟨g, o, none⟩ → g ≠ B) (hwa : ∀ g o, w ≠ [] → wa = some ⟨g, o, none⟩ → g ≠ B) (hR : RowD l.length B (stQ l w q) W) (hTab : Tab W) (hgB : 0 < B) :
    Calls Tryd.prog 49 #[.agg (chA l.length w.length B lcp wcp la wa), .int .i64 (q : Nat)] W fun e W' => (∃ v, e = .returned v) ∧ RowD l.length B (stQ l w (q + 1)) W' ∧ KpA (fun k => k = B) W W' := by
  have hP := parts_ok l hr
  have hnd : ndE l q = l[q] := by simp [ndE, hq]
  have hBW := hR.lt
  have b0 := Blk.new W (chA l.length w.length B lcp wcp la wa) 64
  have hB : Below W.heap.size W (W.alloc (.cells (chA l.length w.length B lcp wcp la wa) 64)) := by go_grown
  have hz : (W.alloc (.cells (chA l.length w.length B lcp wcp la wa) 64)).heap.size = W.heap.size + 1 := World.size_alloc ..
  have HN := Lib.hid hN
  have HT := Lib.hid hT
  have HR := Lib.hid hR
  have HTB := Lib.hid hTab
  have HWA := Lib.hid hwa
  have HW8 := Lib.hid hw8
  obtain ⟨g, off, rfl, hg, hc⟩ := hN (by rintro rfl; simp at hq)
  have hgB2 : g ≠ B := hla g off rfl
  have cc := fun (j : Nat) (hj : j < 8) => (hB.cell (p := ⟨g, off + q * 8 + j, none⟩) hg).trans (hc q hq j hj)
  obtain ⟨k, a, b, m, s, hx⟩ : ∃ k a b m s, l[q] = (⟨k, a, b, m, s⟩ : NdN) := ⟨_, _, _, _, _, rfl⟩
  rw [hx] at cc hnd
  have c0 := cc 0 (by decide); have c1 := cc 1 (by decide); have c2 := cc 2 (by decide); have c3 := cc 3 (by decide); have c4 := cc 4 (by decide); have c5 := cc 5 (by decide); have c6 := cc 6 (by decide); have c7 := cc 7 (by decide)
  simp only [ndA, List.getElem?_toArray, List.getElem?_cons_zero, List.getElem?_cons_succ, Nat.add_zero] at c0 c1 c2 c3 c4 c5 c6 c7
  have hnI : (q : Int) < (l.length : Int) := by omega
  have hnd2 : decide (q < l.length) = true := decide_eq_true hq
  have HND := Lib.hid hnd
  have HX := Lib.hid hx
  have HC := Lib.hid hc
  have HKN := Lib.hid (fun (q' : Nat) (h : q' < l.length) W => known_calls l.length w.length B lcp wcp q' (some ⟨g, off, none⟩) wa hw h W)
  clear hc cc hN hT hR hTab hwa hw8 hnd hx
  go_enter Tryd.func49, Tryd.ntmps49
  go_upto_region 1 with fail
  have HB := Lib.hid hB
  have hS1 : W.heap.size < (W.alloc (.cells (chA l.length w.length B lcp wcp (some ⟨g, off, none⟩) wa) 64)).heap.size := by omega
  have hg1 : g < (W.alloc (.cells (chA l.length w.length B lcp wcp (some ⟨g, off, none⟩) wa) 64)).heap.size := by omega
  generalize W.alloc (.cells (chA l.length w.length B lcp wcp (some ⟨g, off, none⟩) wa) 64) = w1 at *
  have B0 := Lib.hid b0
  have d0 := b0.cell 0; have d1 := b0.cell 1; have d2 := b0.cell 2
  simp only [chA, List.getElem?_toArray, List.getElem?_cons_zero, List.getElem?_cons_succ] at d0 d1 d2
  have HD := Lib.hid (And.intro d0 (And.intro d1 (And.intro d2 (And.intro c0 (And.intro c1 (And.intro c2 (And.intro c3 (And.intro c4 (And.intro c5 (And.intro c6 c7))))))))))
  clear b0 hB d0 d1 d2 c0 c1 c2 c3 c4 c5 c6 c7
  have HFA := Lib.hid (show ∀ W', Below w1.heap.size w1 W' → W'.cell? ⟨W.heap.size, 0, none⟩ = some (.slice (some ⟨g, off, none⟩) l.length lcp) ∧ W'.cell? ⟨W.heap.size, 1, none⟩ = some (.slice wa w.length wcp) ∧ W'.cell? ⟨W.heap.size, 2, none⟩ = some (.slice (some ⟨B, 0, none⟩) l.length l.length) ∧
      W'.cell? ⟨g, off + q * 8, none⟩ = some (.int .i64 k) ∧ W'.cell? ⟨g, off + q * 8 + 1, none⟩ = some (.int .i64 a) ∧ W'.cell? ⟨g, off + q * 8 + 2, none⟩ = some (.int .i64 b) ∧ W'.cell? ⟨g, off + q * 8 + 3, none⟩ = some (.int .i64 m) ∧
      W'.cell? ⟨g, off + q * 8 + 4, none⟩ = some (.int .u64 (wd s 0)) ∧ W'.cell? ⟨g, off + q * 8 + 5, none⟩ = some (.int .u64 (wd s 1)) ∧ W'.cell? ⟨g, off + q * 8 + 6, none⟩ = some (.int .u64 (wd s 2)) ∧ W'.cell? ⟨g, off + q * 8 + 7, none⟩ = some (.int .u64 (wd s 3)) from fun W' hW => by
    obtain ⟨d0, d1, d2, c0, c1, c2, c3, c4, c5, c6, c7⟩ := HD.out
    exact ⟨(hW.cell (p := ⟨W.heap.size, 0, none⟩) hS1).trans d0, (hW.cell (p := ⟨W.heap.size, 1, none⟩) hS1).trans d1, (hW.cell (p := ⟨W.heap.size, 2, none⟩) hS1).trans d2, (hW.cell (p := ⟨g, off + q * 8, none⟩) hg1).trans c0, (hW.cell (p := ⟨g, off + q * 8 + 1, none⟩) hg1).trans c1, (hW.cell (p := ⟨g, off + q * 8 + 2, none⟩) hg1).trans c2, (hW.cell (p := ⟨g, off + q * 8 + 3, none⟩) hg1).trans c3, (hW.cell (p := ⟨g, off + q * 8 + 4, none⟩) hg1).trans c4, (hW.cell (p := ⟨g, off + q * 8 + 5, none⟩) hg1).trans c5, (hW.cell (p := ⟨g, off + q * 8 + 6, none⟩) hg1).trans c6, (hW.cell (p := ⟨g, off + q * 8 + 7, none⟩) hg1).trans c7⟩)
  clear HD
  have hni : (Tryd.prog.info? 60).map (·.size) = some 8 := by kernel_rfl
  go_cut [4, 5] from 6 to 13 (fun v4 v5 wx => ∃ G : Nat, v4 = .pointer (some ⟨G, 0, none⟩) ∧ v5 = .slice (some ⟨B, q * 260, none⟩) (w.length + 1) 65 ∧ w1.heap.size ≤ G ∧ Blk wx G (ndI k a b m s) 60 ∧ Below w1.heap.size w1 wx)
  case first =>
    have hS0 : Below w1.heap.size w1 w1.drew := (Below.refl _ _).drew
    refine region_stepsRT (S := fun W => Below w1.heap.size w1 W) (U := ULn (fun q' => match q' with | 0 => .pointer (some ⟨W.heap.size, 0, none⟩) | 1 => .slice (some ⟨g, off, none⟩) l.length lcp | 2 => .int .i64 (q : Nat) | 3 => .pointer (some ⟨g, off + q * 8, none⟩) | 4 => .agg (ndI k a b m s) | 5 => .agg (chA l.length w.length B lcp wcp (some ⟨g, off, none⟩) wa) | 6 => .int .i64 (q : Nat) | 7 => .slice (some ⟨B, q * 260, none⟩) (w.length + 1) 65 | _ => undef)) (V := VLn w1.heap.size) (m := 9) (n := 9) (r := 2) rfl (by kernel_rfl) (fun _ _ hb hs => hs.trans (hb.mono hs.size)) (keepVLn _) (by kernel_rfl) hS0 ?_
    clear hS0
    simp only [List.size_toArray, List.length_cons, List.length_nil, Nat.reduceAdd, Array.replicate_succ, Array.replicate_zero, List.push_toArray, List.nil_append, List.cons_append]
    refine AnyRT.step (m := 9) (i := 0) (d := some 6) [4, 3, 1, 0] rfl rfl (by kernel_rfl) (by kernel_rfl) (by kernel_rfl) (by kernel_rfl) (by kernel_rfl) ?_ ?_ ?_
    · exact ⟨_, rfl⟩
    · refine StepsR.yield (.pointer (some ⟨W.heap.size, 0, none⟩)) rfl (by kernel_rfl) (fun w' hS hD => ⟨?_, trivial⟩)
      obtain ⟨d0, d1, d2, c0, c1, c2, c3, c4, c5, c6, c7⟩ := HFA.out w' hS; clear hS hD; go_simp
      try rfl
    intro v' hv' a' ha'
    have hv' : .pointer (some ⟨W.heap.size, 0, none⟩) = v' := Eq.symm hv'
    subst hv'
    simp only [Act.put, List.setIfInBounds_toArray, List.set_cons_zero, List.set_cons_succ] at ha'
    subst ha'
    refine AnyRT.step (m := 9) (i := 1) (d := some 7) [4, 3, 1] rfl rfl (by kernel_rfl) (by kernel_rfl) (by kernel_rfl) (by kernel_rfl) (by kernel_rfl) ?_ ?_ ?_
    · exact ⟨_, rfl⟩
    · refine StepsR.yield (.slice (some ⟨g, off, none⟩) l.length lcp) rfl (by kernel_rfl) (fun w' hS hD => ⟨?_, trivial⟩)
      obtain ⟨d0, d1, d2, c0, c1, c2, c3, c4, c5, c6, c7⟩ := HFA.out w' hS; clear hS hD; go_simp
      try rfl
    intro v' hv' a' ha'
    have hv' : .slice (some ⟨g, off, none⟩) l.length lcp = v' := Eq.symm hv'
    subst hv'
    simp only [Act.put, List.setIfInBounds_toArray, List.set_cons_zero, List.set_cons_succ] at ha'
    subst ha'
    refine AnyRT.step (m := 9) (i := 2) (d := some 8) [4, 3, 2] rfl rfl (by kernel_rfl) (by kernel_rfl) (by kernel_rfl) (by kernel_rfl) (by kernel_rfl) ?_ ?_ ?_
    · exact ⟨_, rfl⟩
    · refine StepsR.yield (.int .i64 (q : Nat)) rfl (by kernel_rfl) (fun w' hS hD => ⟨?_, trivial⟩)
      obtain ⟨d0, d1, d2, c0, c1, c2, c3, c4, c5, c6, c7⟩ := HFA.out w' hS; clear hS hD; go_simp
      try rfl
    intro v' hv' a' ha'
    have hv' : .int .i64 (q : Nat) = v' := Eq.symm hv'
    subst hv'
    simp only [Act.put, List.setIfInBounds_toArray, List.set_cons_zero, List.set_cons_succ] at ha'
    subst ha'
    refine AnyRT.step (m := 9) (i := 3) (d := some 9) [4, 3] rfl rfl (by kernel_rfl) (by kernel_rfl) (by kernel_rfl) (by kernel_rfl) (by kernel_rfl) ?_ ?_ ?_
    · exact ⟨_, rfl⟩
    · refine StepsR.yield (.pointer (some ⟨g, off + q * 8, none⟩)) rfl (by kernel_rfl) (fun w' hS hD => ⟨?_, trivial⟩)
      obtain ⟨d0, d1, d2, c0, c1, c2, c3, c4, c5, c6, c7⟩ := HFA.out w' hS; clear hS hD; go_simp
      try rfl
    intro v' hv' a' ha'
    have hv' : .pointer (some ⟨g, off + q * 8, none⟩) = v' := Eq.symm hv'
    subst hv'
    simp only [Act.put, List.setIfInBounds_toArray, List.set_cons_zero, List.set_cons_succ] at ha'
    subst ha'
    refine AnyRT.step (m := 9) (i := 4) (d := some 10) [4] rfl rfl (by kernel_rfl) (by kernel_rfl) (by kernel_rfl) (by kernel_rfl) (by kernel_rfl) ?_ ?_ ?_
    · exact ⟨_, rfl⟩
    · refine StepsR.yield (.agg (ndI k a b m s)) rfl (by kernel_rfl) (fun w' hS hD => ⟨?_, trivial⟩)
      obtain ⟨d0, d1, d2, c0, c1, c2, c3, c4, c5, c6, c7⟩ := HFA.out w' hS; clear hS hD; go_simp
      try rfl
    intro v' hv' a' ha'
    have hv' : .agg (ndI k a b m s) = v' := Eq.symm hv'
    subst hv'
    simp only [Act.put, List.setIfInBounds_toArray, List.set_cons_zero, List.set_cons_succ] at ha'
    subst ha'
    refine AnyRT.step (m := 9) (i := 5) (d := some 11) [7, 5] rfl rfl (by kernel_rfl) (by kernel_rfl) (by kernel_rfl) (by kernel_rfl) (by kernel_rfl) ?_ ?_ ?_
    · exact ⟨_, rfl⟩
    · refine StepsR.yield (.agg (chA l.length w.length B lcp wcp (some ⟨g, off, none⟩) wa)) rfl (by kernel_rfl) (fun w' hS hD => ⟨?_, trivial⟩)
      obtain ⟨d0, d1, d2, c0, c1, c2, c3, c4, c5, c6, c7⟩ := HFA.out w' hS; clear hS hD; go_simp
      try rfl
    intro v' hv' a' ha'
    have hv' : .agg (chA l.length w.length B lcp wcp (some ⟨g, off, none⟩) wa) = v' := Eq.symm hv'
    subst hv'
    simp only [Act.put, List.setIfInBounds_toArray, List.set_cons_zero, List.set_cons_succ] at ha'
    subst ha'
    refine AnyRT.step (m := 9) (i := 6) (d := some 12) [7, 6] rfl rfl (by kernel_rfl) (by kernel_rfl) (by kernel_rfl) (by kernel_rfl) (by kernel_rfl) ?_ ?_ ?_
    · exact ⟨_, rfl⟩
    · refine StepsR.yield (.int .i64 (q : Nat)) rfl (by kernel_rfl) (fun w' hS hD => ⟨?_, trivial⟩)
      obtain ⟨d0, d1, d2, c0, c1, c2, c3, c4, c5, c6, c7⟩ := HFA.out w' hS; clear hS hD; go_simp
      try rfl
    intro v' hv' a' ha'
    have hv' : .int .i64 (q : Nat) = v' := Eq.symm hv'
    subst hv'
    simp only [Act.put, List.setIfInBounds_toArray, List.set_cons_zero, List.set_cons_succ] at ha'
    subst ha'
    refine AnyRT.step (m := 9) (i := 7) (d := some 13) [7] rfl rfl (by kernel_rfl) (by kernel_rfl) (by kernel_rfl) (by kernel_rfl) (by kernel_rfl) ?_ ?_ ?_
    · exact ⟨_, rfl⟩
    · refine StepsR.call (by kernel_rfl) (fun w' hS => by clear hS; go_simp) (fun w' hS hD => (HKN.out q hq w').mono ?_)
      rintro e w'' ⟨rfl, hb⟩
      exact ⟨_, rfl, rfl, trivial, hb⟩
    intro v' hv' a' ha'
    have hv' : .slice (some ⟨B, q * 260, none⟩) (w.length + 1) 65 = v' := Eq.symm hv'
    subst hv'
    simp only [Act.put, List.setIfInBounds_toArray, List.set_cons_zero, List.set_cons_succ] at ha'
    subst ha'
    refine AnyRT.step (m := 9) (i := 8) (d := some 4) [8] rfl rfl (by kernel_rfl) (by kernel_rfl) (by kernel_rfl) (by kernel_rfl) (by kernel_rfl) ?_ ?_ ?_
    · exact ⟨.pointer (some ⟨0, 0, none⟩), 0, rfl⟩
    · refine StepsR.made (by kernel_rfl) (fun w' hS hD => ?_)
      refine ⟨.pointer (some ⟨w'.heap.size, 0, none⟩), w'.alloc (.cells zTm 60), ?_, ⟨_, rfl⟩, ⟨_, rfl, hS.size, Blk.new w' _ _⟩, (Below.refl _ _).alloc (Nat.le_refl _) _⟩
      clear hS hD
      go_simp
      try rfl
    rintro v' ⟨G8, rfl⟩ a' ha'
    simp only [Act.put, List.setIfInBounds_toArray, List.set_cons_zero, List.set_cons_succ] at ha'
    subst ha'
    refine AnyRT.last (by kernel_rfl) (fun w9 hS hF => ?_)
    have h8 := hF 8 _ 4 (by kernel_rfl) rfl rfl
    obtain ⟨G', e8, k1, k2⟩ := h8
    have e8' : Value.pointer (some ⟨G8, 0, none⟩) = .pointer (some ⟨G', 0, none⟩) := e8
    cases e8'
    have HBX := Lib.hid (Blk.setRow (cs := ndI k a b m s) k2)
    have HBB := Lib.hid (below_row hS k1 (ndI k a b m s))
    refine wpAny_one (i := 9) (o := ⟨none, .store 60 (.tmp 4) (.tmp 10), _, _, _, _⟩) (by kernel_rfl) rfl (by kernel_rfl) ?_
    refine wp_store_row 60 _ _ rfl G8 rfl rfl (run_storeAt_row w9 G8 60 60 zTm (ndI k a b m s) k2 hni rfl (by simp [Value.oneCell'])) ?_
    clear hS hF k2 e8
    have hb8 := k1
    refine wpAny_one (i := 10) (o := ⟨some 5, .assign (.tmp 13), _, _, _, _⟩) (by kernel_rfl) rfl (by kernel_rfl) ?_
    generalize w9.setRow G8 (ndI k a b m s) = wq at *
    show wpAny Tryd.prog _ _ _ 0 _ (Act.put _ (some 5) (.slice (some ⟨B, q * 260, none⟩) (w.length + 1) 65)) wq
    refine wpAny_none (P := Tryd.prog) (by kernel_rfl) ?_
    simp only [Act.put, List.setIfInBounds_toArray, List.set_cons_zero, List.set_cons_succ]
    go_wp2_with fail
    go_meet
    exact ⟨_, rfl, rfl, hb8, HBX.out, HBB.out⟩
  case rest =>
  obtain ⟨G, rfl, rfl, hG1, hGb, hbc⟩ := hcut
  have HBC := Lib.hid (HB.out.trans (hbc.mono (by omega)))
  have HKC := Lib.hid ((KpA.refl (fun k => k = B) W).below HBC.out)
  have hWc : W.heap.size ≤ wc.heap.size := HBC.out.size
  have hGW : W.heap.size < G := by omega
  have HRc := Lib.hid (HR.out.below HBC.out)
  have HB0c := Lib.hid (B0.out.below hbc hS1)
  have HGc := Lib.hid hGb
  have HTBc := Lib.hid (HTB.out.kpA HKC.out (by omega) (by omega))
  have HTW := Lib.hid (HT.out.below HBC.out)
  have HPP := Lib.hid hP
  have hkk := hP.kind q hq
  rw [HND.out] at hkk
  simp only at hkk
  have hnp := nodek_parts l hr q hq
  rw [HX.out] at hnp
  simp only at hnp
  have HST := Lib.hid (show ∀ p i, p < q → i ≤ w.length → stQ l w q p i = rowS l w p i from fun p i h1 h2 => by unfold stQ; rw [if_pos ⟨h1, h2⟩])
  have HSZ := Lib.hid (show ∀ i, stQ l w q q i = 0 from fun i => by unfold stQ; rw [if_neg (by omega)])
  have hw256 : w.length < 256 := by omega
  clear hbc hGb HFA HR B0 HTB HB HN HC hgB2 hnI hnd2 hg hg1 hni hP HBC hG1 hS1 HT
  -- Eps and Leaf
  have t0 := HGc.out.cell 0; have t1 := HGc.out.cell 1; have t2 := HGc.out.cell 2
  have t4 := HGc.out.cell 4; have t5 := HGc.out.cell 5; have t6 := HGc.out.cell 6; have t7 := HGc.out.cell 7
  simp only [List.getElem?_toArray, List.getElem?_cons_zero, List.getElem?_cons_succ] at t0 t1 t2 t4 t5 t6 t7
  have u0 := HB0c.out.cell 0; have u1 := HB0c.out.cell 1; have u2 := HB0c.out.cell 2
  simp only [chA, List.getElem?_toArray, List.getElem?_cons_zero, List.getElem?_cons_succ] at u0 u1 u2
  rcases hnp with ⟨hpc, rfl, rfl, _⟩ | ⟨a', hpc, rfl, rfl, ha, _⟩ | ⟨a', b', hpc, rfl, rfl, hb, _, _, ha⟩
  · have h12 : k = 1 ∨ k = 2 := by
      unfold pcT at hpc
      split at hpc
      · omega
      · split at hpc <;> omega
    rcases h12 with rfl | rfl
    · have HF := Lib.hid (fin_row l w q (stQ l w q) (fun i => stQ l w q q i ||| one i) (fun _ _ _ => rfl) (fun i _ => HSZ.out i) (fun i hi => by
        show stQ l w q q i ||| one i = _
        rw [HSZ.out, row_1 HPP.out hw256 hq (by rw [HND.out]) hi]; simp))
      go_wp2_with fail
      refine (stay_calls l.length w.length B q _ hw hq wc HRc.out).mono ?_
      rintro e w3 ⟨⟨v, rfl⟩, hr3, hk3⟩
      have HR3 := Lib.hid (hr3.congr fun q' i h1 h2 => HF.out q' i)
      have HK3 := Lib.hid (HKC.out.trans hk3)
      clear hr3 hk3
      go_wp2_with fail
      go_end0
      exact ⟨⟨_, rfl⟩, HR3.out, HK3.out⟩
    · have HF := Lib.hid (fin_leaf l w q s HPP.out hw256 hq (by rw [HND.out]) (by rw [HND.out]))
      go_wp2_with fail
      refine (stepE_calls l.length B q _ s w wa wcp hw HW8.out hq wc HRc.out HTW.out HWA.out).mono ?_
      rintro e w3 ⟨⟨v, rfl⟩, hr3, hk3⟩
      have HR3 := Lib.hid (hr3.congr fun q' i h1 h2 => HF.out q' i)
      have HK3 := Lib.hid (HKC.out.trans hk3)
      clear hr3 hk3
      go_wp2_with fail
      go_end0
      exact ⟨⟨_, rfl⟩, HR3.out, HK3.out⟩
  · have h58 : k = 5 ∨ k = 6 ∨ k = 7 ∨ k = 8 := by
      unfold pcT at hpc
      split at hpc
      · omega
      · split at hpc <;> omega
    have p1 : decide (0 ≤ (a' : Int)) = true := by simp
    go_wp2_with fail
    refine (HKN.out a' (by omega) _).mono ?_
    rintro e w3 ⟨rfl, hb3⟩
    have hr3 := HRc.out.below hb3
    have hcp := fun ty => copy_sets hr3 q a' w.length hq (by omega) hw ty
    have HR4 := Lib.hid (hr3.copied q (w.length + 1) (stQ l w q a') hq (by omega))
    have hk34 : KpA (fun k => k = B) wc (w3.setCells B (q * 260) (setsL (stQ l w q a') (w.length + 1))) := ((KpA.refl (fun k => k = B) wc).below hb3).setCells (g := B) (.inl rfl) _ _
    have HK4 := Lib.hid (HKC.out.trans hk34)
    have HG4 := Lib.hid (HGc.out.kpA hk34 (by omega))
    have HB04 := Lib.hid (HB0c.out.kpA hk34 (by omega))
    have HTB4 := Lib.hid (HTBc.out.kpA hk34 (by have := HKC.out.size; omega) (by omega))
    have hWc4 : W.heap.size ≤ (w3.setCells B (q * 260) (setsL (stQ l w q a') (w.length + 1))).heap.size := HK4.out.size
    obtain ⟨t0, t1, t2, _, t4, t5, t6, t7⟩ := blk8 HG4.out
    obtain ⟨u0, u1, u2⟩ := blk3 HB04.out
    clear hr3 hb3 hk34
    generalize w3.setCells B (q * 260) (setsL (stQ l w q a') (w.length + 1)) = w4 at *
    clear HRc HKC HGc HB0c HTBc
    have HF1 := Lib.hid (show ∀ q' i, q' ≠ q → putR (stQ l w q) q (w.length + 1) (stQ l w q a') q' i = stQ l w q q' i from fun q' i h => by unfold putR; rw [if_neg (fun h2 => h h2.1)])
    have HF2 := Lib.hid (show ∀ i, w.length < i → putR (stQ l w q) q (w.length + 1) (stQ l w q a') q i = 0 from fun i h => by unfold putR; rw [if_neg (by omega)]; exact HSZ.out i)
    have HF3 := Lib.hid (show ∀ i, i ≤ w.length → putR (stQ l w q) q (w.length + 1) (stQ l w q a') q i = rowS l w a' i from fun i h => by unfold putR; rw [if_pos ⟨rfl, by omega⟩]; exact HST.out a' i (by omega) h)
    generalize hf1 : putR (stQ l w q) q (w.length + 1) (stQ l w q a') = f1 at *
    rcases h58 with rfl | rfl | rfl | rfl
    · -- Star
      have HS1 := Lib.hid (fun i (h : i ≤ w.length) => row_5 HPP.out hw256 hq (p := a') (i := i) (by rw [HND.out]) (by rw [HND.out]) (by omega) h)
      go_wp2_with fail
      refine (stay_calls l.length w.length B q _ hw hq w4 HR4.out).mono ?_
      rintro e w5 ⟨⟨v, rfl⟩, hr5, hk5⟩
      have HR5 := Lib.hid hr5
      have HK5 := Lib.hid (HK4.out.trans hk5)
      have HTB5 := Lib.hid (HTB4.out.kpA hk5 (by omega) (by omega))
      have HG5 := Lib.hid (show ∀ i, i ≤ w.length → putR f1 q (w.length + 1) (fun i => f1 q i ||| one i) q i = rowS l w a' i ||| one i from fun i h => by unfold putR; rw [if_pos ⟨rfl, by omega⟩]; show f1 q i ||| one i = _; rw [HF3.out i h])
      have HF := Lib.hid (fin_row l w q (putR f1 q (w.length + 1) (fun i => f1 q i ||| one i)) (rowS l w q) (fun q' i h => by unfold putR; rw [if_neg (fun h2 => h h2.1)]; exact HF1.out q' i h) (fun i h => by unfold putR; rw [if_neg (by omega)]; exact HF2.out i h) (fun _ _ => rfl))
      clear hr5 hk5
      generalize putR f1 q (w.length + 1) (fun i => f1 q i ||| one i) = f2 at *
      go_wp2_with fail
      refine (then_calls l.length w.length B q q f2 (rowS l w q) hw hq hq (fun i hi m hm => ?_) (fun i hi => ?_) w5 HR5.out HTB5.out hgB).mono ?_
      · rw [HG5.out i hi, BitVec.getLsbD_or, Bool.or_eq_true] at hm
        rcases hm with hm | hm
        · have := (row_iff HPP.out hw256 (by omega : a' < l.length)).1 hm
          exact ⟨this.1, this.2.1⟩
        · by_cases hm2 : m < 256
          · rw [get_one _ _ hm2, decide_eq_true_iff] at hm; omega
          · rw [BitVec.getLsbD_of_ge _ _ (by omega)] at hm; cases hm
      · rw [HS1.out i hi, HG5.out i hi]
        refine uni_congr fun m _ => ?_
        unfold nxR
        rw [if_pos rfl]
        by_cases hmi : m = i
        · rw [if_pos hmi, if_pos hmi, HG5.out i hi]
        · rw [if_neg hmi, if_neg hmi]
      rintro e w6 ⟨⟨v, rfl⟩, hr6, hk6⟩
      have HR6 := Lib.hid (hr6.congr fun q' i h1 h2 => HF.out q' i)
      have HK6 := Lib.hid (HK5.out.trans hk6)
      clear hr6 hk6
      go_wp2_with fail
      go_end0
      exact ⟨⟨_, rfl⟩, HR6.out, HK6.out⟩
    · -- Maybe
      have HF := Lib.hid (fin_row l w q f1 (fun i => f1 q i ||| one i) HF1.out HF2.out (fun i hi => by
        show f1 q i ||| one i = _
        rw [HF3.out i hi, row_6 HPP.out hw256 hq (p := a') (by rw [HND.out]) (by rw [HND.out]) (by omega) hi]))
      go_wp2_with fail
      refine (stay_calls l.length w.length B q _ hw hq w4 HR4.out).mono ?_
      rintro e w5 ⟨⟨v, rfl⟩, hr5, hk5⟩
      have HR5 := Lib.hid (hr5.congr fun q' i h1 h2 => HF.out q' i)
      have HK5 := Lib.hid (HK4.out.trans hk5)
      clear hr5 hk5
      go_wp2_with fail
      go_end0
      exact ⟨⟨_, rfl⟩, HR5.out, HK5.out⟩
    all_goals
      have HF := Lib.hid (fin_row l w q (stQ l w q) (stQ l w q a') (fun _ _ _ => rfl) (fun i _ => HSZ.out i) (fun i hi => by
        rw [HST.out a' i (by omega) hi, row_7 HPP.out hw256 hq (p := a') (by rw [HND.out]; first | exact .inl rfl | exact .inr rfl) (by rw [HND.out]) (by omega)]))
      rw [← hf1] at HR4
      have HR5 := Lib.hid (HR4.out.congr fun q' i h1 h2 => HF.out q' i)
      go_wp2_with fail
      go_end0
      exact ⟨⟨_, rfl⟩, HR5.out, HK4.out⟩
  · have h34 : k = 3 ∨ k = 4 := by
      unfold pcT at hpc
      split at hpc
      · assumption
      · split at hpc <;> omega
    have p1 : decide (0 ≤ (a' : Int)) = true := by simp
    go_wp2_with fail
    refine (HKN.out a' (by omega) _).mono ?_
    rintro e w3 ⟨rfl, hb3⟩
    have hr3 := HRc.out.below hb3
    have hcp := fun ty => copy_sets hr3 q a' w.length hq (by omega) hw ty
    have HR4 := Lib.hid (hr3.copied q (w.length + 1) (stQ l w q a') hq (by omega))
    have hk34 : KpA (fun k => k = B) wc (w3.setCells B (q * 260) (setsL (stQ l w q a') (w.length + 1))) := ((KpA.refl (fun k => k = B) wc).below hb3).setCells (g := B) (.inl rfl) _ _
    have HK4 := Lib.hid (HKC.out.trans hk34)
    have HG4 := Lib.hid (HGc.out.kpA hk34 (by omega))
    have HB04 := Lib.hid (HB0c.out.kpA hk34 (by omega))
    have HTB4 := Lib.hid (HTBc.out.kpA hk34 (by have := HKC.out.size; omega) (by omega))
    have hWc4 : W.heap.size ≤ (w3.setCells B (q * 260) (setsL (stQ l w q a') (w.length + 1))).heap.size := HK4.out.size
    obtain ⟨t0, t1, t2, _, t4, t5, t6, t7⟩ := blk8 HG4.out
    obtain ⟨u0, u1, u2⟩ := blk3 HB04.out
    clear hr3 hb3 hk34
    generalize w3.setCells B (q * 260) (setsL (stQ l w q a') (w.length + 1)) = w4 at *
    clear HRc HKC HGc HB0c HTBc
    have HF1 := Lib.hid (show ∀ q' i, q' ≠ q → putR (stQ l w q) q (w.length + 1) (stQ l w q a') q' i = stQ l w q q' i from fun q' i h => by unfold putR; rw [if_neg (fun h2 => h h2.1)])
    have HF2 := Lib.hid (show ∀ i, w.length < i → putR (stQ l w q) q (w.length + 1) (stQ l w q a') q i = 0 from fun i h => by unfold putR; rw [if_neg (by omega)]; exact HSZ.out i)
    have HF3 := Lib.hid (show ∀ i, i ≤ w.length → putR (stQ l w q) q (w.length + 1) (stQ l w q a') q i = rowS l w a' i from fun i h => by unfold putR; rw [if_pos ⟨rfl, by omega⟩]; exact HST.out a' i (by omega) h)
    have HF4 := Lib.hid (show ∀ p i, p < q → i ≤ w.length → putR (stQ l w q) q (w.length + 1) (stQ l w q a') p i = rowS l w p i from fun p i h1 h2 => by rw [HF1.out p i (by omega)]; exact HST.out p i h1 h2)
    generalize putR (stQ l w q) q (w.length + 1) (stQ l w q a') = f1 at *
    have p2 : decide (0 ≤ (b' : Int)) = true := by simp
    rcases h34 with rfl | rfl
    · -- Cat
      have HF := Lib.hid (fin_row l w q f1 (rowS l w q) HF1.out HF2.out (fun _ _ => rfl))
      go_wp2_with fail
      refine (HKN.out b' (by omega) _).mono ?_
      rintro e w5 ⟨rfl, hb5⟩
      have HR5 := Lib.hid (HR4.out.below hb5)
      have HK5 := Lib.hid (HK4.out.below hb5)
      have HTB5 := Lib.hid (HTB4.out.keep hb5 (by omega))
      clear hb5
      go_wp2_with fail
      refine (then_calls l.length w.length B q b' f1 (rowS l w q) hw hq (by omega) (fun i hi m hm => ?_) (fun i hi => ?_) w5 HR5.out HTB5.out hgB).mono ?_
      · rw [HF3.out i hi] at hm
        have := (row_iff HPP.out hw256 (by omega : a' < l.length)).1 hm
        exact ⟨this.1, this.2.1⟩
      · rw [row_3 HPP.out hw256 hq (p := a') (r := b') (by rw [HND.out]) (by rw [HND.out]) (by rw [HND.out]) (by omega) (by omega), HF3.out i hi]
        refine uni_congr fun m hm => ?_
        have hm2 := ((mem_el _ _ _).1 hm).2
        have := (row_iff HPP.out hw256 (by omega : a' < l.length)).1 hm2
        unfold nxR
        rw [if_neg (by omega), HF4.out b' m (by omega) this.2.1]
      rintro e w6 ⟨⟨v, rfl⟩, hr6, hk6⟩
      have HR6 := Lib.hid (hr6.congr fun q' i h1 h2 => HF.out q' i)
      have HK6 := Lib.hid (HK5.out.trans hk6)
      clear hr6 hk6
      go_wp2_with fail
      go_end0
      exact ⟨⟨_, rfl⟩, HR6.out, HK6.out⟩
    · -- Alt
      have HF := Lib.hid (fin_row l w q f1 (fun i => f1 q i ||| f1 b' i) HF1.out HF2.out (fun i hi => by
        show f1 q i ||| f1 b' i = _
        rw [HF3.out i hi, HF4.out b' i (by omega) hi, row_4 HPP.out hw256 hq (p := a') (r := b') (by rw [HND.out]) (by rw [HND.out]) (by rw [HND.out]) (by omega) (by omega)]))
      go_wp2_with fail
      refine (HKN.out b' (by omega) _).mono ?_
      rintro e w5 ⟨rfl, hb5⟩
      have HR5 := Lib.hid (HR4.out.below hb5)
      have HK5 := Lib.hid (HK4.out.below hb5)
      clear hb5
      go_wp2_with fail
      refine (orE_calls l.length w.length B q b' f1 hw hq (by omega) (by omega) w5 HR5.out).mono ?_
      rintro e w6 ⟨⟨v, rfl⟩, hr6, hk6⟩
      have HR6 := Lib.hid (hr6.congr fun q' i h1 h2 => HF.out q' i)
      have HK6 := Lib.hid (HK5.out.trans hk6)
      clear hr6 hk6
      go_wp2_with fail
      go_end0
      exact ⟨⟨_, rfl⟩, HR6.out, HK6.out⟩

end Go.Proofs.YtdpkhliojbeglaaDoor

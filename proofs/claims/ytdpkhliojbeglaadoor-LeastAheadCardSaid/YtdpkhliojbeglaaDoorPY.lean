/- Texts put together: Tsm. -/
import Derived.Test.YtdpkhliojbeglaaDoorPX
import Derived.Test.YtdpkhliojbeglaaDoorPT
/- What groups span: the developers' nowhere, groupsIn. Stage 14. -/
namespace Go.Proofs.YtdpkhliojbeglaaDoor
open Go.RowKit BS

theorem infoSp2 : (Tryd.prog.info? 25).map (·.size) = some 2 := by kernel_rfl
set_option maxRecDepth 100000 in
set_option maxHeartbeats 4000000 in
theorem nowhere_calls (w : World) : Calls Tryd.prog 54 #[] w fun e w' => e = .returned (.agg (spC (-1) (-1))) ∧ Below w.heap.size w w' := by
  have hR := Blk.new w (spC 0 0) 25
  have hB0 : Below w.heap.size w (w.alloc (.cells (spC 0 0) 25)) := (Below.refl _ _).alloc (Nat.le_refl _) _
  have HR3 := Lib.hid ((hR.set 0 (.int .i64 (-1))).set 1 (.int .i64 (-1)))
  have HB3 := Lib.hid (below_set (below_set hB0 (Nat.le_refl _) 0 (.int .i64 (-1))) (Nat.le_refl _) 1 (.int .i64 (-1)))
  have r0 := hR.cell 0; have r1 := hR.cell 1
  have s0 := hR.frozen 0; have s1 := hR.frozen 1
  simp only [List.getElem?_toArray, List.getElem?_cons_zero, List.getElem?_cons_succ] at r0 r1
  clear hR hB0
  go_enter Tryd.func54, Tryd.ntmps54
  go_upto_region 1 with fail
  generalize w.alloc (.cells (spC 0 0) 25) = w1 at *
  go_wp2_with fail
  exact bodyPost_ret (v := .agg (spC (-1) (-1))) (results_cell_row rfl _ _ w.heap.size 25 (spC (-1) (-1)) (0, 0) _ rfl HR3.out Tryd.underlying25 rfl infoSp2) rfl ⟨rfl, HB3.out⟩
/-- The groups in each Iter of the first i nodes. -/
def gIn (l : List NdN) (i x : Nat) : List Int := if x < i ∧ (ndE l x).kind = 8 then groupsL l x else []
/-- Rows that were stored one by one. -/
def RowG (n G : Nat) (f : Nat → List Int) (W : World) : Prop := ∃ vs : Array Value, vs.size = n ∧ Blk W G vs 54 ∧ ∀ x, x < n → ∃ b c, vs[x]? = some (.slice b (f x).length c) ∧ IntsB (G + 1) (f x) b W
theorem RowG.below {n G : Nat} {f : Nat → List Int} {W W' : World} (h : RowG n G f W) (hb : Below W.heap.size W W') : RowG n G f W' := by
  obtain ⟨vs, h1, h2, h3⟩ := h
  exact ⟨vs, h1, h2.below hb h2.lt, fun x hx => by
    obtain ⟨b, c, e, hi⟩ := h3 x hx
    exact ⟨b, c, e, hi.below hb⟩⟩
theorem RowG.set {n G : Nat} {f : Nat → List Int} {W : World} (h : RowG n G f W) (i : Nat) {L : List Int} {b : Option Addr} (c : Nat) (hL : IntsB (G + 1) L b W) : RowG n G (fun x => if x = i then L else f x) (W.setCell ⟨G, i, none⟩ (.slice b L.length c)) := by
  obtain ⟨vs, h1, h2, h3⟩ := h
  refine ⟨vs.setIfInBounds i (.slice b L.length c), by simp [h1], h2.set i _, fun x hx => ?_⟩
  by_cases hxi : x = i
  · subst hxi
    simp only [if_true]
    exact ⟨b, c, by rw [Array.getElem?_setIfInBounds_self_of_lt (by omega)], ints_set hL _ _⟩
  · simp only [if_neg hxi]
    obtain ⟨b2, c2, e, hi⟩ := h3 x hx
    exact ⟨b2, c2, by rw [Array.getElem?_setIfInBounds_ne (Ne.symm hxi)]; exact e, ints_set hi _ _⟩
theorem RowG.congr {n G : Nat} {f g : Nat → List Int} {W : World} (h : RowG n G f W) (he : ∀ x, x < n → f x = g x) : RowG n G g W := by
  obtain ⟨vs, h1, h2, h3⟩ := h
  exact ⟨vs, h1, h2, fun x hx => by rw [← he x hx]; exact h3 x hx⟩
theorem RowG.at {n G : Nat} {f : Nat → List Int} {W : World} (h : RowG n G f W) : RowsAt ((List.range n).map f) (some ⟨G, 0, none⟩) W := fun _ => by
  obtain ⟨vs, h1, h2, h3⟩ := h
  refine ⟨G, 0, rfl, h2.lt, fun i hi => ?_⟩
  have hi2 : i < n := by simpa using hi
  obtain ⟨b, c, e1, e2⟩ := h3 i hi2
  have e : ((List.range n).map f)[i] = f i := by simp
  rw [e, Nat.zero_add]
  exact ⟨b, c, (h2.cell i).trans e1, e2.o⟩
theorem RowG.new (W : World) (n : Nat) : RowG n W.heap.size (fun _ => []) (W.alloc (.cells (madeCells #[.slice none 0 0] n) 54)) := by
  refine ⟨_, size_madeCells _ _, Blk.new W _ _, fun x hx => ⟨none, 0, ?_, fun h => absurd rfl h⟩⟩
  unfold madeCells
  rw [Array.getElem?_map, Array.getElem?_range, if_pos hx]
  have e : x % 1 = 0 := Nat.mod_one x
  show some ((#[Value.slice none 0 0])[x % 1]!) = _
  rw [e]; rfl
theorem ints_more {b b' : Nat} {L : List Int} {a : Option Addr} {W : World} (h : IntsB b L a W) (hb : b' ≤ b) : IntsB b' L a W := fun hne => by
  obtain ⟨g, o, e, h1, h2, h3⟩ := h hne
  exact ⟨g, o, e, Nat.le_trans hb h1, h2, h3⟩
set_option maxRecDepth 100000 in
set_option maxHeartbeats 16000000 in
theorem groupsIn_calls (l : List NdN) (hl : l.length ≤ 1000) (la : Option Addr) (lc : Nat) (W : World) (hN : NodesAt l la W) :
    Calls Tryd.prog 55 #[.slice la l.length lc] W fun e W' => ∃ G, e = .returned (.slice (some ⟨G, 0, none⟩) l.length l.length) ∧ W.heap.size ≤ G ∧ RowG l.length G (gIn l l.length) W' ∧ Below W.heap.size W W' := by
  have HN := Lib.hid hN
  have HGC := Lib.hid (fun (q : Int) W' (hW : Below W.heap.size W W') => groups_calls l hl q la lc W' (HN.out.below hW))
  have hmk := fun W => run_make_row' (P := Tryd.prog) 108 54 (.slice none 0 0) 24 Tryd.underlying108 infoR12 rfl .i64 .i64 l.length (by omega) (by omega) W
  have HB0 := Lib.hid ((Below.refl W.heap.size W).alloc (Nat.le_refl _) (.cells (madeCells #[.slice none 0 0] l.length) 54))
  have HR0 := Lib.hid (RowG.new W l.length)
  have hz0 : W.heap.size < (W.alloc (.cells (madeCells #[.slice none 0 0] l.length) 54)).heap.size := by rw [World.size_alloc]; omega
  clear hN
  go_enter Tryd.func55, Tryd.ntmps55
  go_upto_region 2 with fail
  clear hmk
  generalize W.alloc (.cells (madeCells #[.slice none 0 0] l.length) 54) = w1 at *
  go_wp2_with fail
  go_loopw [11] (fun vi wr => ∃ i : Nat, i ≤ l.length ∧ vi = .int .i64 i ∧ RowG l.length W.heap.size (gIn l i) wr ∧ Below W.heap.size W wr ∧ w1.heap.size ≤ wr.heap.size) (fun vi _ => l.length - (intOf vi).toNat)
  case atStart => exact ⟨0, Nat.zero_le _, rfl, HR0.out.congr (fun x _ => by unfold gIn; rw [if_neg (fun h => absurd h.1 (Nat.not_lt_zero _))]), HB0.out, Nat.le_refl _⟩
  case round =>
    obtain ⟨i, hi, rfl, hs, hB, hz⟩ := hrel
    clear HR0 HB0
    by_cases hlt : i < l.length
    · have p1 : decide ((i : Int) < (l.length : Int)) = true := by rw [decide_eq_true_iff]; omega
      have p2 : decide (i < l.length) = true := decide_eq_true hlt
      have p4 : (i : Int) < (l.length : Int) := by omega
      have xi : IntKind.i64.wrap ((i : Int) + 1) = (i : Int) + 1 := IntWalk.i64_in _ (by omega)
      obtain ⟨gl, ol, rfl, hgl, hcl⟩ := HN.out (by rintro rfl; simp at hlt)
      have cc := fun (j : Nat) (hj : j < 8) => (hB.cell (p := ⟨gl, ol + i * 8 + j, none⟩) hgl).trans (hcl i hlt j hj)
      have hstep : ∀ x, gIn l (i + 1) x = if x = i then (if (ndE l i).kind = 8 then groupsL l i else []) else gIn l i x := fun x => by
        unfold gIn
        by_cases hx : x = i
        · subst hx
          rw [if_pos rfl]
          by_cases h8 : (ndE l x).kind = 8
          · rw [if_pos ⟨by omega, h8⟩, if_pos h8]
          · rw [if_neg (fun h => h8 h.2), if_neg h8]
        · rw [if_neg hx]
          by_cases h8 : x < i ∧ (ndE l x).kind = 8
          · rw [if_pos h8, if_pos ⟨by omega, h8.2⟩]
          · rw [if_neg h8, if_neg (fun h => h8 ⟨by omega, h.2⟩)]
      have hold : gIn l i i = [] := by unfold gIn; rw [if_neg (fun h => absurd h.1 (Nat.lt_irrefl i))]
      have hnd : ndE l i = l[i] := by simp [ndE, hlt]
      rw [hnd] at hstep
      generalize l[i] = x at *
      obtain ⟨k0, a, b, m, s⟩ := x
      simp only at hstep
      have c0 := cc 0 (by decide); have c1 := cc 1 (by decide); have c2 := cc 2 (by decide); have c3 := cc 3 (by decide); have c4 := cc 4 (by decide); have c5 := cc 5 (by decide); have c6 := cc 6 (by decide); have c7 := cc 7 (by decide)
      simp only [ndA, List.getElem?_toArray, List.getElem?_cons_zero, List.getElem?_cons_succ, Nat.add_zero] at c0 c1 c2 c3 c4 c5 c6 c7
      have bN := Blk.new wr (ndI k0 a b m s) 60
      have hba : Below wr.heap.size wr (wr.alloc (.cells (ndI k0 a b m s) 60)) := (Below.refl _ _).alloc (Nat.le_refl _) _
      have HS := Lib.hid (hs.below hba)
      have HB := Lib.hid (hB.trans (hba.mono hB.size))
      have HST := Lib.hid hstep
      have hz2 := Nat.le_trans hz hba.size
      clear cc hcl hs hB hba hnd hstep
      go_upto_region 5 with fail
      clear c0 c1 c2 c3 c4 c5 c6 c7
      generalize wr.alloc (.cells (ndI k0 a b m s) 60) = w2 at *
      have d0 := bN.cell 0
      simp only [List.getElem?_toArray, List.getElem?_cons_zero] at d0
      clear bN
      by_cases h8 : k0 = 8
      · subst h8
        go_wp2_with fail
        refine (HGC.out i w2 HB.out).mono ?_
        rintro e w3 ⟨gb, gc, rfl, hgi, hb3⟩
        have hs3 := HS.out.below hb3
        have HS4 := Lib.hid (hs3.set i gc (ints_more hgi (by omega)))
        obtain ⟨vs, v1, v2, v3⟩ := hs3
        have hvi : vs[i]? ≠ none := by rw [Array.getElem?_eq_getElem (by omega)]; simp
        obtain ⟨ob, oc, ov, _⟩ := v3 i hlt
        have cS := (v2.cell i).trans ov
        have fS := v2.frozen i
        have HB4 := Lib.hid (below_set (HB.out.trans (hb3.mono HB.out.size)) (Nat.le_refl _) i (.slice gb (groupsL l i).length gc))
        have hz4 := Nat.le_trans hz2 hb3.size
        clear v1 v2 v3 hvi ov hgi hb3 HS HB d0
        go_wp2_with fail
        go_roundw
        case rel => exact ⟨i + 1, by omega, by simp, HS4.out.congr (fun x _ => by rw [HST.out x]; by_cases hx : x = i <;> simp [hx]), HB4.out, by simpa using hz4⟩
        case measure => simp [intOf]; omega
      · have q8 : (k0 == 8) = false := beq_eq_false_iff_ne.2 h8
        have HST2 := Lib.hid (show ∀ x, gIn l (i + 1) x = gIn l i x from fun x => by
          rw [HST.out x]
          by_cases hx : x = i
          · subst hx; rw [if_pos rfl, if_neg h8, hold]
          · rw [if_neg hx])
        clear HST h8
        go_wp2_with fail
        go_roundw
        case rel => exact ⟨i + 1, by omega, by simp, HS.out.congr (fun x _ => (HST2.out x).symm), HB.out, hz2⟩
        case measure => simp [intOf]; omega
    · obtain rfl : i = l.length := by omega
      have p1 : decide ((l.length : Int) < (l.length : Int)) = false := by rw [decide_eq_false_iff_not]; omega
      have HS := Lib.hid hs
      have HB := Lib.hid hB
      clear hs hB
      go_wp2_with fail
      go_ret
      exact ⟨_, rfl, Nat.le_refl _, HS.out, HB.out⟩
end Go.Proofs.YtdpkhliojbeglaaDoor

/- Texts put together: Ob Oc Od. -/
import Derived.Test.YtooolhekihijlaaPK
import Derived.Test.YtooolhekihijlaaPE
/- The developers' terms: marks: with, numbers. Stage 10. -/
namespace Go.Proofs.Ytooolhekihijlaa
open Go.RowKit BS

@[reducible] def mkV (f : Nat → Bool) : Array Value := #[.bool (f 0), .bool (f 1), .bool (f 2), .bool (f 3), .bool (f 4), .bool (f 5), .bool (f 6), .bool (f 7), .bool (f 8), .bool (f 9)]
theorem mkV_get (f : Nat → Bool) (k : Nat) (h : k < 10) : (mkV f)[k]? = some (.bool (f k)) := by
  obtain rfl | rfl | rfl | rfl | rfl | rfl | rfl | rfl | rfl | rfl : k = 0 ∨ k = 1 ∨ k = 2 ∨ k = 3 ∨ k = 4 ∨ k = 5 ∨ k = 6 ∨ k = 7 ∨ k = 8 ∨ k = 9 := by omega
  all_goals rfl
theorem mkV_set (f : Nat → Bool) (k : Nat) (h : k < 10) (b : Bool) : (mkV f).setIfInBounds k (.bool b) = mkV (fun n => if n = k then b else f n) := by
  obtain rfl | rfl | rfl | rfl | rfl | rfl | rfl | rfl | rfl | rfl : k = 0 ∨ k = 1 ∨ k = 2 ∨ k = 3 ∨ k = 4 ∨ k = 5 ∨ k = 6 ∨ k = 7 ∨ k = 8 ∨ k = 9 := by omega
  all_goals rfl
theorem mkV_one (f : Nat → Bool) : ((mkV f).all fun x => x.oneCell') = true := by simp [Value.oneCell']
def orK (f g : Nat → Bool) (k : Nat) (n : Nat) : Bool := if n < k then f n || g n else f n
theorem orK_zero (f g : Nat → Bool) : mkV (orK f g 0) = mkV f := rfl
theorem orK_ten (f g : Nat → Bool) : mkV (orK f g 10) = mkV (fun n => f n || g n) := rfl
theorem orK_step (f g : Nat → Bool) (k : Nat) (h : k < 10) : (mkV (orK f g k)).setIfInBounds k (.bool (f k || g k)) = mkV (orK f g (k + 1)) := by
  rw [mkV_set _ k h]
  congr 1
  funext n
  unfold orK
  by_cases h1 : n = k
  · subst h1; rw [if_pos rfl, if_pos (by omega)]
  · rw [if_neg h1]
    by_cases h2 : n < k
    · rw [if_pos h2, if_pos (by omega)]
    · rw [if_neg h2, if_neg (by omega)]
theorem infoMk : (Try.prog.info? 94).map (·.size) = some 10 := by kernel_rfl
set_option maxRecDepth 100000 in
set_option maxHeartbeats 8000000 in
theorem with_core (f g h : Nat → Bool) (hh : (fun n => f n || g n) = h) (w : World) : Calls Try.prog 62 #[.agg (mkV f), .agg (mkV g)] w fun e w' => e = .returned (.agg (mkV h)) ∧ Below w.heap.size w w' := by
  have HH := Lib.hid hh
  clear hh
  have hB : Below w.heap.size w (((w.alloc (.cells (mkV f) 94)).alloc (.cells (mkV g) 94)).alloc (.cells (mkV fun _ => false) 94)) := by go_grown
  have bM := ((Blk.new w (mkV f) 94).alloc (.cells (mkV g) 94)).alloc (.cells (mkV fun _ => false) 94)
  have bO := ((Blk.new (w.alloc (.cells (mkV f) 94)) (mkV g) 94)).alloc (.cells (mkV fun _ => false) 94)
  have bR := Blk.new ((w.alloc (.cells (mkV f) 94)).alloc (.cells (mkV g) 94)) (mkV fun _ => false) 94
  rw [World.size_alloc] at bO
  rw [World.size_alloc, World.size_alloc] at bR
  go_enter Try.func62, Try.ntmps62
  go_upto_region 1 with fail
  generalize ((w.alloc (.cells (mkV f) 94)).alloc (.cells (mkV g) 94)).alloc (.cells (mkV fun _ => false) 94) = w1 at *
  go_upto_region 2 with fail
  rw [← orK_zero f g] at bM
  go_loopw [6] (fun vi wr => ∃ k : Nat, k ≤ 10 ∧ vi = .int .i64 k ∧ Blk wr w.heap.size (mkV (orK f g k)) 94 ∧ Blk wr (w.heap.size + 1) (mkV g) 94 ∧ Blk wr (w.heap.size + 1 + 1) (mkV fun _ => false) 94 ∧ Below w.heap.size w wr) (fun vi _ => 10 - (intOf vi).toNat)
  case atStart => exact ⟨0, by omega, rfl, bM, bO, bR, hB⟩
  case round =>
    clear bM bO bR hB
    obtain ⟨k, hk, rfl, bM, bO, bR, hB⟩ := hrel
    by_cases hk9 : k < 10
    · have hkd : decide ((k : Int) < 10) = true := by rw [decide_eq_true_iff]; omega
      have hkd2 : decide (k < 10) = true := decide_eq_true hk9
      have xk : IntKind.i64.wrap ((k : Int) + 1) = (k : Int) + 1 := IntWalk.i64_in _ (by omega)
      have e0 : orK f g k k = f k := if_neg (Nat.lt_irrefl k)
      have cM := (bM.cell k).trans (mkV_get _ k hk9)
      rw [e0] at cM
      have cO := (bO.cell k).trans (mkV_get _ k hk9)
      have fM := bM.frozen k
      have bM2 := bM.set k (.bool (f k || g k))
      rw [orK_step f g k hk9] at bM2
      have BM := Lib.hid bM2
      have BO := Lib.hid (bO.other (show w.heap.size + 1 ≠ w.heap.size by omega) k (.bool (f k || g k)))
      have BR := Lib.hid (bR.other (show w.heap.size + 1 + 1 ≠ w.heap.size by omega) k (.bool (f k || g k)))
      have HB := Lib.hid (below_set hB (Nat.le_refl _) k (.bool (f k || g k)))
      clear bM bO bR bM2 hB e0
      generalize f k = a at *
      generalize g k = b at *
      cases a with
      | true =>
        rw [Bool.true_or] at *
        go_wp2_with fail
        go_roundw
        case rel => exact ⟨k + 1, by omega, by simp, BM.out, BO.out, BR.out, HB.out⟩
        case measure => simp [intOf]; omega
      | false =>
        rw [Bool.false_or] at *
        go_wp2_with fail
        go_roundw
        case rel => exact ⟨k + 1, by omega, by simp, BM.out, BO.out, BR.out, HB.out⟩
        case measure => simp [intOf]; omega
    · obtain rfl : k = 10 := by omega
      have hkd : decide (((10 : Nat) : Int) < 10) = false := by decide
      rw [orK_ten] at bM
      have BM := Lib.hid bM
      have BR := Lib.hid bR
      have HB := Lib.hid hB
      clear bM bO bR hB
      rw [HH.out] at BM
      have hBM : wr.heap[w.heap.size]? = some (.cells (mkV h) 94 (0, 0)) := BM.out
      have hIM : (Try.prog.info? 94).map (·.size) = some (mkV h).size := infoMk
      have hST := run_storeAt_row wr (w.heap.size + 1 + 1) 94 94 (mkV fun _ => false) (mkV h) BR.out infoMk rfl (mkV_one _)
      go_wp2_with (first
        | (with_reducible refine wpList_load_row (o := ⟨_, .load 94 _, _, _, _, _⟩) rfl 94 _ rfl w.heap.size rfl 94 (mkV h) (0, 0) _ hBM Try.underlying94 rfl hIM ?_)
        | (with_reducible refine wpList_store_st (o := ⟨none, .store 94 _ _, _, _, _, _⟩) rfl 94 _ _ rfl (w.heap.size + 1 + 1) rfl rfl hST ?_))
      exact bodyPost_ret (v := .agg (mkV h)) (results_cell_row rfl _ _ (w.heap.size + 1 + 1) 94 (mkV h) (0, 0) _ rfl (Blk.setRow BR.out) Try.underlying94 rfl infoMk) rfl ⟨rfl, below_row HB.out (by omega) _⟩
theorem with_calls (f g : Nat → Bool) (w : World) : Calls Try.prog 62 #[.agg (mkV f), .agg (mkV g)] w fun e w' => e = .returned (.agg (mkV fun n => f n || g n)) ∧ Below w.heap.size w w' := with_core f g _ rfl w
/-- The numbers of what is marked. -/
def nmL (f : Nat → Bool) (k : Nat) : List Int := ((List.range k).filter f).map fun n : Nat => (n : Int)
theorem nmL_step (f : Nat → Bool) (k : Nat) : nmL f (k + 1) = nmL f k ++ (if f k = true then [(k : Int)] else []) := by
  unfold nmL
  rw [List.range_succ, List.filter_append, List.map_append]
  congr 1
  cases h : f k with
  | true => rw [List.filter_cons_of_pos h]; rfl
  | false => rw [List.filter_cons_of_neg (by rw [h]; exact Bool.false_ne_true)]; rfl
theorem nmL_len (f : Nat → Bool) (k : Nat) : (nmL f k).length ≤ k := by
  unfold nmL
  rw [List.length_map]
  refine Nat.le_trans (List.length_filter_le _ _) ?_
  simp
set_option maxRecDepth 100000 in
set_option maxHeartbeats 8000000 in
theorem numbers_calls (f : Nat → Bool) (w : World) : Calls Try.prog 59 #[.agg (mkV f)] w fun e w' => ∃ b q, e = .returned (.slice b (nmL f 10).length q) ∧ IntsB w.heap.size (nmL f 10) b w' ∧ Below w.heap.size w w' := by
  have hB : Below w.heap.size w (w.alloc (.cells (mkV f) 94)) := by go_grown
  have hB1 := Below.refl (w.heap.size + 1) (w.alloc (.cells (mkV f) 94))
  have hz : (w.alloc (.cells (mkV f) 94)).heap.size = w.heap.size + 1 := World.size_alloc ..
  have bM := Blk.new w (mkV f) 94
  obtain ⟨i0, hinf, hza, hzb, hzc⟩ := info_parts infoIntO
  go_enter Try.func59, Try.ntmps59
  go_upto_region 1 with fail
  generalize w.alloc (.cells (mkV f) 94) = w1 at *
  go_upto_region 3 with fail
  have HCE := Lib.hid (fun W (hW : Below (w.heap.size + 1) w1 W) => bM.below hW (Nat.lt_succ_self _))
  have HBW := Lib.hid hB
  have HZ := Lib.hid hz
  clear hB hz bM
  go_loopw [3, 5] (fun vl vi wr => ∃ j : Nat, j ≤ 10 ∧ vi = .int .i64 j ∧ wr.ownsRow (w.heap.size + 1) 3 1 vl (nmL f j).length (iV (nmL f j)) ∧ Below (w.heap.size + 1) w1 wr) (fun _ vi _ => 10 - (intOf vi).toNat)
  case atStart => exact ⟨0, by omega, rfl, World.ownsRow_nil _ _ _ _, hB1⟩
  case round =>
    clear hB1
    obtain ⟨j, hj, rfl, hown, hB⟩ := hrel
    have HOW := Lib.hid hown
    have HB := Lib.hid hB
    have hpl := nmL_len f j
    clear hown hB
    by_cases hj2 : j < 10
    · have hjd : decide ((j : Int) < 10) = true := by rw [decide_eq_true_iff]; omega
      have hkd2 : decide (j < 10) = true := decide_eq_true hj2
      have hst := nmL_step f j
      have xj : IntKind.i64.wrap ((j : Int) + 1) = (j : Int) + 1 := IntWalk.i64_in _ (by omega)
      have cM := ((HCE.out _ HB.out).cell j).trans (mkV_get _ j hj2)
      cases hf : f j with
      | false =>
        rw [hf] at cM hst
        rw [if_neg Bool.false_ne_true, List.append_nil] at hst
        have HST := Lib.hid hst
        clear hst hf
        go_wp2_with fail
        go_roundw
        case rel => exact ⟨j + 1, by omega, by simp, by rw [HST.out]; exact HOW.out, HB.out⟩
        case measure => simp [intOf]; omega
      | true =>
        rw [hf] at cM hst
        rw [if_pos rfl] at hst
        have HST := Lib.hid hst
        clear hst hf
        have hws : w.heap.size + 1 ≤ wr.heap.size := by have := HB.out.size; have := HZ.out; omega
        have BWA : Below (w.heap.size + 1) w1 (wr.alloc (.cells #[.int .i64 (j : Int)] 3)) := HB.out.alloc hws _
        go_wp2_with (at_builtin; refine wpList_append_own _ rfl _ _ 35 rfl (w.heap.size + 1) 3 i0 (.int .i64 0) 1 8 Try.underlying35 hinf hza hzb hzc rfl (by decide) _ (nmL f j).length (iV (nmL f j)) rfl (HOW.out.alloc _) ⟨wr.heap.size, 0, none⟩ 1 1 [.int .i64 (j : Int)] rfl rfl (Blk.new wr _ _).newsL (by simp [Value.oneCell']) (by unfold maxLen; omega) (by omega) (by have := BWA.size; simp; omega) ?_; intro v2 w3 hown2 hgrow2 _)
        have hown3 : w3.ownsRow (w.heap.size + 1) 3 1 v2 (nmL f (j + 1)).length (iV (nmL f (j + 1))) := by
          rw [HST.out, List.length_append]
          have e : iV (nmL f j ++ [(j : Int)]) = iV (nmL f j) ++ [.int .i64 (j : Int)] := by simp [iV]
          rw [e]
          exact hown2
        have HO3 := Lib.hid hown3
        have HB3 := Lib.hid (BWA.grown hgrow2 (by simp; omega) (fun b hb => (HOW.out.lt b hb).1))
        clear hown2 hown3 hgrow2 BWA hws
        go_wp2_with fail
        go_roundw
        case rel => exact ⟨j + 1, by omega, by simp, HO3.out, HB3.out⟩
        case measure => simp [intOf]; omega
    · obtain rfl : j = 10 := by omega
      have hjd : decide (((10 : Nat) : Int) < 10) = false := by decide
      obtain ⟨b, q, rfl, hI⟩ := ints_of_own HOW.out
      have HI := Lib.hid (show IntsB w.heap.size (nmL f 10) b wr from fun hne => by
        obtain ⟨g, o, e, h0, h1, h2⟩ := hI hne
        exact ⟨g, o, e, by omega, h1, h2⟩)
      clear hI HOW
      go_wp2_with fail
      go_ret
      exact ⟨b, q, rfl, HI.out, HBW.out.trans (HB.out.mono (by omega))⟩
end Go.Proofs.Ytooolhekihijlaa

/- The developers' terms: stands. Stage 10. -/
namespace Go.Proofs.Ytooolhekihijlaa
open Go.RowKit BS

/-- A list of nodes with where each begins, and its marks. -/
@[reducible] def tmC (a : Option Addr) (n cap : Nat) (L G : Option Addr) : Array Value := #[.slice a n cap, .slice L n n, .slice G n n]
/-- Does a node stand right behind its parts? -/
def stB (lw : Nat → Nat) (i : Nat) (k c n : Int) : Bool :=
  if k = 1 ∨ k = 2 then (c == -1) && (n == -1)
  else if k = 5 ∨ k = 6 ∨ k = 7 ∨ k = 8 then decide (0 < i) && ((c == (i : Int) - 1) && (n == -1))
  else if k = 3 ∨ k = 4 then decide (0 < i) && (decide (0 < lw (i - 1)) && ((n == (i : Int) - 1) && (c == (lw (i - 1) : Int) - 1)))
  else false
set_option maxRecDepth 100000 in
set_option maxHeartbeats 32000000 in
theorem stands_calls (l : List NdN) (hl : l.length ≤ 1000) (i : Nat) (hi : i < l.length) (a : Option Addr) (cap L : Nat) (G : Option Addr) (lw : Nat → Nat) (hlb : lw (i - 1) ≤ 1000) (w : World) (h : NodesAt l a w) (hL : L < w.heap.size) (hlw : 0 < i → w.cell? ⟨L, i - 1, none⟩ = some (.int .i64 (lw (i - 1) : Nat))) :
    Calls Try.prog 52 #[.agg (tmC a l.length cap (some ⟨L, 0, none⟩) G), .int .i64 i] w fun e w' => e = .returned (.bool (stB lw i l[i].kind l[i].kids l[i].n)) ∧ Below w.heap.size w w' := by
  have hne : l ≠ [] := by rintro rfl; simp at hi
  obtain ⟨g, off, rfl, hg, hc⟩ := h hne
  have hB0 : Below w.heap.size w (w.alloc (.cells (tmC (some ⟨g, off, none⟩) l.length cap (some ⟨L, 0, none⟩) G) 78)) := by go_grown
  have hT := Blk.new w (tmC (some ⟨g, off, none⟩) l.length cap (some ⟨L, 0, none⟩) G) 78
  have hz : (w.alloc (.cells (tmC (some ⟨g, off, none⟩) l.length cap (some ⟨L, 0, none⟩) G) 78)).heap.size = w.heap.size + 1 := World.size_alloc ..
  have hcell := fun (j : Nat) (hj : j < 8) => (hB0.cell (p := ⟨g, off + i * 8 + j, none⟩) hg).trans (hc i hi j hj)
  have hlc := fun h0 => (hB0.cell (p := ⟨L, i - 1, none⟩) hL).trans (hlw h0)
  have d0 := hcell 0 (by decide); have d1 := hcell 1 (by decide); have d2 := hcell 2 (by decide); have d3 := hcell 3 (by decide); have d4 := hcell 4 (by decide); have d5 := hcell 5 (by decide); have d6 := hcell 6 (by decide); have d7 := hcell 7 (by decide)
  simp only [ndA, List.getElem?_toArray, List.getElem?_cons_zero, List.getElem?_cons_succ, Nat.add_zero] at d0 d1 d2 d3 d4 d5 d6 d7
  generalize l[i] = x at *
  obtain ⟨k, kc, kn, km, t⟩ := x
  simp only at d0 d1 d2 d3 d4 d5 d6 d7
  obtain ⟨R, hR⟩ : ∃ R, stB lw i k kc kn = R := ⟨_, rfl⟩
  show Calls _ _ _ _ fun e w' => e = .returned (.bool (stB lw i k kc kn)) ∧ Below w.heap.size w w'
  rw [hR]
  unfold stB at hR
  have HR := Lib.hid hR
  have hii : (i : Int) < (l.length : Int) := by omega
  have hd : decide (i < l.length) = true := by rw [decide_eq_true_iff]; omega
  clear hR hcell hlw hc hne h
  go_enter Try.func52, Try.ntmps52
  go_upto_region 1 with fail
  generalize w.alloc (.cells (tmC (some ⟨g, off, none⟩) l.length cap (some ⟨L, 0, none⟩) G) 78) = w1 at *
  have t0 := hT.cell 0; have t1 := hT.cell 1
  simp only [List.getElem?_toArray, List.getElem?_cons_zero, List.getElem?_cons_succ] at t0 t1
  have hN := Blk.new w1 (ndI k kc kn km t) 49
  have hB2 := hB0.alloc hB0.size (.cells (ndI k kc kn km t) 49)
  have hT2 := hT.alloc (.cells (ndI k kc kn km t) 49)
  have hlc2 := fun h0 => (((Below.refl w1.heap.size w1).alloc (Nat.le_refl _) (.cells (ndI k kc kn km t) 49)).cell (p := ⟨L, i - 1, none⟩) (show L < w1.heap.size by omega)).trans (hlc h0)
  rw [hz] at hN
  go_upto_region 2 with fail
  clear d0 d1 d2 d3 d4 d5 d6 d7 hT t0 t1 hB0 hlc
  generalize w1.alloc (.cells (ndI k kc kn km t) 49) = w2 at *
  have n0 := hN.cell 0; have n1 := hN.cell 1; have n2 := hN.cell 2
  have t1 := hT2.cell 1
  simp only [List.getElem?_toArray, List.getElem?_cons_zero, List.getElem?_cons_succ] at n0 n1 n2 t1
  clear hN hT2 hz
  have HB := Lib.hid hB2
  clear hB2
  by_cases c12 : k = 1 ∨ k = 2
  · rw [if_pos c12] at HR
    clear hlc2 t1
    cases hA : (kc == -1) with
    | false =>
      rw [hA, Bool.false_and] at HR
      rcases c12 with rfl | rfl
      all_goals
        go_wp2_with fail
        go_ret
        exact ⟨by rw [← HR.out] <;> rfl, HB.out⟩
    | true =>
      rw [hA, Bool.true_and] at HR
      rcases c12 with rfl | rfl
      all_goals
        go_wp2_with fail
        go_ret
        exact ⟨by rw [← HR.out] <;> rfl, HB.out⟩
  rw [if_neg c12] at HR
  have q1 : (k == 1) = false := by rw [beq_eq_false_iff_ne]; omega
  have q2 : (k == 2) = false := by rw [beq_eq_false_iff_ne]; omega
  by_cases c58 : k = 5 ∨ k = 6 ∨ k = 7 ∨ k = 8
  · rw [if_pos c58] at HR
    clear hlc2 t1 q1 q2 c12
    have xi : IntKind.i64.wrap ((i : Int) - 1) = (i : Int) - 1 := IntWalk.i64_in _ (by omega)
    by_cases h0 : 0 < i
    · have hp : decide ((0 : Int) < (i : Int)) = true := by rw [decide_eq_true_iff]; omega
      have hp' : decide (0 < i) = true := decide_eq_true h0
      rw [hp', Bool.true_and] at HR
      clear h0
      cases hA : (kc == (i : Int) - 1) with
      | false =>
        rw [hA, Bool.false_and] at HR
        rcases c58 with rfl | rfl | rfl | rfl
        all_goals
          go_wp2_with fail
          go_ret
          exact ⟨by rw [← HR.out] <;> rfl, HB.out⟩
      | true =>
        rw [hA, Bool.true_and] at HR
        rcases c58 with rfl | rfl | rfl | rfl
        all_goals
          go_wp2_with fail
          go_ret
          exact ⟨by rw [← HR.out] <;> rfl, HB.out⟩
    · obtain rfl : i = 0 := by omega
      have HR2 := Lib.hid (show false = R from by rw [← HR.out]; rfl)
      clear HR h0
      rcases c58 with rfl | rfl | rfl | rfl
      all_goals
        go_wp2_with fail
        go_ret
        exact ⟨by rw [← HR2.out] <;> rfl, HB.out⟩
  rw [if_neg c58] at HR
  by_cases c34 : k = 3 ∨ k = 4
  · rw [if_pos c34] at HR
    clear q1 q2 c12 c58
    by_cases h0 : 0 < i
    · have xi : IntKind.i64.wrap ((i : Int) - 1) = ((i - 1 : Nat) : Int) := by rw [IntWalk.i64_in _ (by omega)]; omega
      have hp : decide ((0 : Int) < (i : Int)) = true := by rw [decide_eq_true_iff]; omega
      have hp' : decide (0 < i) = true := decide_eq_true h0
      have ei : (i : Int) - 1 = ((i - 1 : Nat) : Int) := by omega
      have hl1 := hlc2 h0
      rw [hp', Bool.true_and, ei] at HR
      have hiI : ((i - 1 : Nat) : Int) < (l.length : Int) := by omega
      have hid : decide (i - 1 < l.length) = true := by rw [decide_eq_true_iff]; omega
      generalize lw (i - 1) = lo at *
      have xl : IntKind.i64.wrap ((lo : Int) - 1) = (lo : Int) - 1 := IntWalk.i64_in _ (by omega)
      generalize i - 1 = j at *
      clear hlc2 ei
      by_cases hlo : 0 < lo
      · have hq : decide ((0 : Int) < (lo : Int)) = true := by rw [decide_eq_true_iff]; omega
        have hq' : decide (0 < lo) = true := decide_eq_true hlo
        rw [hq', Bool.true_and] at HR
        clear h0 hlo
        cases hA : (kn == (j : Int)) with
        | false =>
          rw [hA, Bool.false_and] at HR
          rcases c34 with rfl | rfl
          all_goals
            go_upto_region 13 with fail
            go_quiet (fail)
            go_wp2_with fail
            go_ret
            exact ⟨by rw [← HR.out] <;> rfl, below_drN HB.out _⟩
        | true =>
          rw [hA, Bool.true_and] at HR
          rcases c34 with rfl | rfl
          all_goals
            go_upto_region 13 with fail
            go_quiet (fail)
            go_wp2_with fail
            go_ret
            exact ⟨by rw [← HR.out] <;> rfl, below_drN HB.out _⟩
      · obtain rfl : lo = 0 := by omega
        have hq : decide ((0 : Int) < ((0 : Nat) : Int)) = false := by decide
        have HR2 := Lib.hid (show false = R from by rw [← HR.out]; rfl)
        clear HR h0 hlo
        rcases c34 with rfl | rfl
        all_goals
          go_upto_region 13 with fail
          go_quiet (fail)
          go_wp2_with fail
          go_ret
          exact ⟨by rw [← HR2.out] <;> rfl, below_drN HB.out _⟩
    · obtain rfl : i = 0 := by omega
      have HR2 := Lib.hid (show false = R from by rw [← HR.out]; rfl)
      clear HR h0 hlc2
      rcases c34 with rfl | rfl
      all_goals
        go_upto_region 13 with fail
        go_quiet (fail)
        go_wp2_with fail
        go_ret
        exact ⟨by rw [← HR2.out] <;> rfl, below_drN HB.out _⟩
  · rw [if_neg c34] at HR
    have q3 : (k == 3) = false := by rw [beq_eq_false_iff_ne]; omega
    have q4 : (k == 4) = false := by rw [beq_eq_false_iff_ne]; omega
    have q5 : (k == 5) = false := by rw [beq_eq_false_iff_ne]; omega
    have q6 : (k == 6) = false := by rw [beq_eq_false_iff_ne]; omega
    have q7 : (k == 7) = false := by rw [beq_eq_false_iff_ne]; omega
    have q8 : (k == 8) = false := by rw [beq_eq_false_iff_ne]; omega
    clear c12 c58 c34 hlc2 t1
    go_wp2_with fail
    go_ret
    exact ⟨by rw [← HR.out] <;> rfl, HB.out⟩
end Go.Proofs.Ytooolhekihijlaa

/- The developers' terms: learn. Stage 10. -/
namespace Go.Proofs.Ytooolhekihijlaa
open Go.RowKit BS

/-- Where nodes begin, and which groups are in them, in blocks. -/
def TmS (n L G : Nat) (V : Nat → Nat) (M : Nat → Nat → Bool) (W : World) : Prop := ∃ vs gs : Array Value, vs.size = n ∧ (∀ x, x < n → vs[x]? = some (.int .i64 (V x : Nat))) ∧ Blk W L vs 3 ∧ gs.size = n * 10 ∧ (∀ x m, x < n → m < 10 → gs[x * 10 + m]? = some (.bool (M x m))) ∧ Blk W G gs 94
theorem TmS.kp {n L G : Nat} {V : Nat → Nat} {M : Nat → Nat → Bool} {W W' : World} {A : Nat → Prop} (h : TmS n L G V M W) (k : KpA A W W') (h1 : ¬ A L) (h2 : ¬ A G) : TmS n L G V M W' := by
  obtain ⟨vs, gs, a, b, c, d, e, f⟩ := h
  exact ⟨vs, gs, a, b, c.kpA k h1, d, e, f.kpA k h2⟩
theorem TmS.below {n L G : Nat} {V : Nat → Nat} {M : Nat → Nat → Bool} {W W' : World} (h : TmS n L G V M W) (k : Below W.heap.size W W') : TmS n L G V M W' :=
  h.kp ((KpA.refl (fun _ => False) W).below k) id id
theorem TmS.drew {n L G : Nat} {V : Nat → Nat} {M : Nat → Nat → Bool} {W : World} (h : TmS n L G V M W) : TmS n L G V M W.drew := h
theorem TmS.drewN {n L G : Nat} {V : Nat → Nat} {M : Nat → Nat → Bool} {W : World} (h : TmS n L G V M W) (k : Nat) : TmS n L G V M (W.drewN k) := by
  obtain ⟨vs, gs, a, b, c, d, e, f⟩ := h
  exact ⟨vs, gs, a, b, c.drewN k, d, e, f.drewN k⟩
theorem TmS.low {n L G : Nat} {V : Nat → Nat} {M : Nat → Nat → Bool} {W : World} (h : TmS n L G V M W) (x : Nat) (hx : x < n) : W.cell? ⟨L, x, none⟩ = some (.int .i64 (V x : Nat)) ∧ W.frozen? ⟨L, x, none⟩ = false := by
  obtain ⟨vs, gs, a, b, c, d, e, f⟩ := h
  exact ⟨(c.cell x).trans (b x hx), c.frozen x⟩
theorem TmS.mark {n L G : Nat} {V : Nat → Nat} {M : Nat → Nat → Bool} {W : World} (h : TmS n L G V M W) (x m : Nat) (hx : x < n) (hm : m < 10) : W.cell? ⟨G, x * 10 + m, none⟩ = some (.bool (M x m)) ∧ W.frozen? ⟨G, x * 10 + m, none⟩ = false := by
  obtain ⟨vs, gs, a, b, c, d, e, f⟩ := h
  exact ⟨(f.cell _).trans (e x m hx hm), f.frozen _⟩
theorem TmS.row {n L G : Nat} {V : Nat → Nat} {M : Nat → Nat → Bool} {W : World} (h : TmS n L G V M W) (x : Nat) (hx : x < n) : W.rangeAt G (x * 10) (mkV (M x)).toList := fun j v hv => by
  have hj : j < 10 := (List.getElem?_eq_some_iff.1 hv).1
  rw [(h.mark x j hx hj).1]
  rw [Array.getElem?_toList, mkV_get (M x) j hj] at hv
  exact hv
theorem TmS.there {n L G : Nat} {V : Nat → Nat} {M : Nat → Nat → Bool} {W : World} (h : TmS n L G V M W) (x : Nat) (hx : x < n) : W.there G (x * 10) 10 := by
  obtain ⟨vs, gs, a, b, c, d, e, f⟩ := h
  exact f.there _ _ (by omega)
def upV (V : Nat → Nat) (i v : Nat) (x : Nat) : Nat := if x = i then v else V x
def upM (M : Nat → Nat → Bool) (i : Nat) (f : Nat → Bool) (x : Nat) : Nat → Bool := if x = i then f else M x
theorem TmS.setLow {n L G : Nat} {V : Nat → Nat} {M : Nat → Nat → Bool} {W : World} (h : TmS n L G V M W) (hLG : L ≠ G) (i : Nat) (hi : i < n) (v : Nat) : TmS n L G (upV V i v) M (W.setCell ⟨L, i, none⟩ (.int .i64 (v : Nat))) := by
  obtain ⟨vs, gs, a, b, c, d, e, f⟩ := h
  refine ⟨vs.setIfInBounds i (.int .i64 (v : Nat)), gs, by simp [a], fun x hx => ?_, c.set i _, d, e, f.other (Ne.symm hLG) i _⟩
  unfold upV
  by_cases hxi : x = i
  · subst hxi; rw [if_pos rfl]; simp [a, hx]
  · rw [if_neg hxi, Array.getElem?_setIfInBounds_ne (Ne.symm hxi)]; exact b x hx
theorem TmS.setRow {n L G : Nat} {V : Nat → Nat} {M : Nat → Nat → Bool} {W : World} (h : TmS n L G V M W) (hLG : L ≠ G) (i : Nat) (hi : i < n) (g : Nat → Bool) : TmS n L G V (upM M i g) (W.setCells G (i * 10) (mkV g).toList) := by
  obtain ⟨vs, gs, a, b, c, d, e, f⟩ := h
  refine ⟨vs, setL gs (i * 10) (mkV g).toList, a, b, c.otherCells hLG _ _, by rw [setL_size, d], fun x m hx hm => ?_, f.setCells _ _⟩
  rw [setL_get _ _ _ _ (by show i * 10 + 10 ≤ gs.size; omega)]
  unfold upM
  by_cases hxi : x = i
  · subst hxi
    rw [if_pos (by refine ⟨by omega, ?_⟩; show x * 10 + m < x * 10 + 10; omega), if_pos rfl, show x * 10 + m - x * 10 = m by omega, Array.getElem?_toList]
    exact mkV_get g m hm
  · rw [if_neg (by rintro ⟨h1, h2⟩; change x * 10 + m < i * 10 + 10 at h2; omega), if_neg hxi]
    exact e x m hx hm
theorem TmS.setMark {n L G : Nat} {V : Nat → Nat} {M : Nat → Nat → Bool} {W : World} (h : TmS n L G V M W) (hLG : L ≠ G) (i : Nat) (hi : i < n) (k : Nat) (hk : k < 10) (b : Bool) : TmS n L G V (upM M i fun m => if m = k then b else M i m) (W.setCell ⟨G, i * 10 + k, none⟩ (.bool b)) := by
  obtain ⟨vs, gs, a, b', c, d, e, f⟩ := h
  refine ⟨vs, gs.setIfInBounds (i * 10 + k) (.bool b), a, b', c.other hLG _ _, by simp [d], fun x m hx hm => ?_, f.set _ _⟩
  unfold upM
  by_cases hxi : x = i
  · subst hxi
    rw [if_pos rfl]
    by_cases hmk : m = k
    · subst hmk; rw [if_pos rfl, Array.getElem?_setIfInBounds_self_of_lt (by omega)]
    · rw [if_neg hmk, Array.getElem?_setIfInBounds_ne (by omega)]; exact e x m hx hm
  · rw [if_neg hxi, Array.getElem?_setIfInBounds_ne (by omega)]; exact e x m hx hm
theorem TmS.congr {n L G : Nat} {V V' : Nat → Nat} {M M' : Nat → Nat → Bool} {W : World} (h : TmS n L G V M W) (hV : ∀ x, x < n → V x = V' x) (hM : ∀ x m, x < n → m < 10 → M x m = M' x m) : TmS n L G V' M' W := by
  obtain ⟨vs, gs, a, b, c, d, e, f⟩ := h
  exact ⟨vs, gs, a, fun x hx => by rw [← hV x hx]; exact b x hx, c, d, fun x m hx hm => by rw [← hM x m hx hm]; exact e x m hx hm, f⟩
/-- What a node begins at, and what is in it, by its first parts. -/
def loF (V : Nat → Nat) (i : Nat) (ps : List Nat) : Nat := ps.foldl (fun a p => min a (V p)) i
def mkF (M : Nat → Nat → Bool) (ps : List Nat) (m : Nat) : Bool := ps.any fun p => M p m
theorem loF_le (V : Nat → Nat) (i : Nat) : ∀ ps : List Nat, loF V i ps ≤ i := by
  have h : ∀ (ps : List Nat) (a : Nat), ps.foldl (fun a p => min a (V p)) a ≤ a := fun ps => by
    induction ps with
    | nil => intro a; exact Nat.le_refl _
    | cons p ps ih => intro a; exact Nat.le_trans (ih _) (Nat.min_le_left _ _)
  exact fun ps => h ps i
theorem loF_snoc (V : Nat → Nat) (i : Nat) (ps : List Nat) (p : Nat) : loF V i (ps ++ [p]) = min (loF V i ps) (V p) := by simp [loF]
theorem mkF_snoc (M : Nat → Nat → Bool) (ps : List Nat) (p : Nat) (m : Nat) : mkF M (ps ++ [p]) m = (mkF M ps m || M p m) := by simp [mkF]
/-- Whether a node's number is new; what is in it. -/
def lnB (k : Int) (f : Nat → Bool) (K : Nat) : Bool := if k = 7 then !f K else true
def lnM (k : Int) (f : Nat → Bool) (K n : Nat) : Bool := if k = 7 ∧ n = K then true else f n
/-! ### By walks -/
theorem minI (x y : Nat) : (if y < x then (y : Int) else (x : Int)) = ((min x y : Nat) : Int) := by
  by_cases h : y < x
  · rw [if_pos h, Nat.min_eq_right (by omega)]
  · rw [if_neg h, Nat.min_eq_left (by omega)]
set_option maxRecDepth 100000 in
set_option maxHeartbeats 32000000 in
theorem learn_calls (l : List NdN) (hl : l.length ≤ 1000) (i : Nat) (hi : i < l.length) (a : Option Addr) (cap L G : Nat) (hLG : L ≠ G) (V : Nat → Nat) (M : Nat → Nat → Bool) (hM0 : ∀ m, m < 10 → M i m = false) (ps : List Nat) (hps : pK l[i].kids l[i].n 2 = ps.map fun p : Nat => (p : Int)) (hpi : ∀ p ∈ ps, p < i)
    (K : Nat) (hK : K < 10) (hm : l[i].kind = 7 → l[i].m = K) (w : World) (h : NodesAt l a w) (hL : L < w.heap.size) (hG : G < w.heap.size) (hS : TmS l.length L G V M w) :
    Calls Try.prog 53 #[.agg (tmC a l.length cap (some ⟨L, 0, none⟩) (some ⟨G, 0, none⟩)), .int .i64 i] w fun e w' => e = .returned (.bool (lnB l[i].kind (mkF M ps) K)) ∧
      TmS l.length L G (upV V i (loF V i ps)) (upM M i (lnM l[i].kind (mkF M ps) K)) w' ∧ KpA (fun k => k = L ∨ k = G) w w' := by
  have HM0 := Lib.hid hM0
  clear hM0
  have hne : l ≠ [] := by rintro rfl; simp at hi
  obtain ⟨g, off, rfl, hg, hc⟩ := h hne
  have hB0 : Below w.heap.size w (w.alloc (.cells (tmC (some ⟨g, off, none⟩) l.length cap (some ⟨L, 0, none⟩) (some ⟨G, 0, none⟩)) 78)) := by go_grown
  have hT := Blk.new w (tmC (some ⟨g, off, none⟩) l.length cap (some ⟨L, 0, none⟩) (some ⟨G, 0, none⟩)) 78
  have hz : (w.alloc (.cells (tmC (some ⟨g, off, none⟩) l.length cap (some ⟨L, 0, none⟩) (some ⟨G, 0, none⟩)) 78)).heap.size = w.heap.size + 1 := World.size_alloc ..
  have hcell := fun (j : Nat) (hj : j < 8) => (hB0.cell (p := ⟨g, off + i * 8 + j, none⟩) hg).trans (hc i hi j hj)
  have d0 := hcell 0 (by decide); have d1 := hcell 1 (by decide); have d2 := hcell 2 (by decide); have d3 := hcell 3 (by decide); have d4 := hcell 4 (by decide); have d5 := hcell 5 (by decide); have d6 := hcell 6 (by decide); have d7 := hcell 7 (by decide)
  simp only [ndA, List.getElem?_toArray, List.getElem?_cons_zero, List.getElem?_cons_succ, Nat.add_zero] at d0 d1 d2 d3 d4 d5 d6 d7
  generalize l[i] = x at *
  obtain ⟨k, kc, kn, km, t⟩ := x
  simp only at d0 d1 d2 d3 d4 d5 d6 d7 hps hm
  show Calls _ _ _ _ fun e w' => e = .returned (.bool (lnB k (mkF M ps) K)) ∧ TmS l.length L G (upV V i (loF V i ps)) (upM M i (lnM k (mkF M ps) K)) w' ∧ KpA (fun k => k = L ∨ k = G) w w'
  have hii : (i : Int) < (l.length : Int) := by omega
  have hd : decide (i < l.length) = true := by rw [decide_eq_true_iff]; omega
  have HKP := Lib.hid ((KpA.refl (fun k => k = L ∨ k = G) w).below hB0)
  have HTS := Lib.hid (hS.below hB0)
  clear hcell hc hne h hB0 hS
  go_enter Try.func53, Try.ntmps53
  go_upto_region 1 with fail
  generalize w.alloc (.cells (tmC (some ⟨g, off, none⟩) l.length cap (some ⟨L, 0, none⟩) (some ⟨G, 0, none⟩)) 78) = w1 at *
  have t0 := hT.cell 0; have t1 := hT.cell 1
  simp only [List.getElem?_toArray, List.getElem?_cons_zero, List.getElem?_cons_succ] at t0 t1
  have hN := Blk.new w1 (ndI k kc kn km t) 49
  rw [hz] at hN
  have hT2 := hT.alloc (.cells (ndI k kc kn km t) 49)
  have HKP2 := Lib.hid (HKP.out.alloc (.cells (ndI k kc kn km t) 49))
  have HTS2 := Lib.hid (HTS.out.below ((Below.refl w1.heap.size w1).alloc (Nat.le_refl _) (.cells (ndI k kc kn km t) 49)))
  have hz2 : (w1.alloc (.cells (ndI k kc kn km t) 49)).heap.size = w.heap.size + 2 := by rw [World.size_alloc, hz]
  go_upto_region 2 with fail
  clear d0 d1 d2 d3 d4 d5 d6 d7 hT t0 t1 HKP HTS hz
  generalize w1.alloc (.cells (ndI k kc kn km t) 49) = w2 at *
  have t1 := hT2.cell 1
  simp only [List.getElem?_toArray, List.getElem?_cons_zero, List.getElem?_cons_succ] at t1
  obtain ⟨cl, fl⟩ := HTS2.out.low i hi
  go_upto_region 3 with fail
  clear cl fl t1
  have hN3 := hN.other (show w.heap.size + 1 ≠ L by omega) i (.int .i64 (i : Nat))
  have hT3 := hT2.other (show w.heap.size ≠ L by omega) i (.int .i64 (i : Nat))
  have HKP3 := Lib.hid (HKP2.out.set (g := L) (.inl (.inl rfl)) i (.int .i64 (i : Nat)))
  have HTS3 := Lib.hid (HTS2.out.setLow hLG i hi i)
  have hz3 : (w2.setCell ⟨L, i, none⟩ (.int .i64 (i : Nat))).heap.size = w.heap.size + 2 := by simpa using hz2
  clear hN hT2 HKP2 HTS2 hz2
  generalize w2.setCell ⟨L, i, none⟩ (.int .i64 (i : Nat)) = w3 at *
  have n0 := hN3.cell 0; have n1 := hN3.cell 1; have n2 := hN3.cell 2; have n3 := hN3.cell 3; have n4 := hN3.cell 4; have n5 := hN3.cell 5; have n6 := hN3.cell 6; have n7 := hN3.cell 7
  simp only [List.getElem?_toArray, List.getElem?_cons_zero, List.getElem?_cons_succ] at n0 n1 n2 n3 n4 n5 n6 n7
  go_wp2_with fail
  clear n0 n1 n2 n3 n4 n5 n6 n7
  refine (parts_calls k kc kn km t _).mono ?_
  rintro e w4 ⟨b, q, rfl, hib, hb⟩
  rw [hps] at hib ⊢
  rw [List.length_map]
  have HIB := Lib.hid hib
  have hN4 := hN3.below hb (by omega)
  have hT4 := hT3.below hb (by omega)
  have HKP4 := Lib.hid (HKP3.out.below hb)
  have HTS4 := Lib.hid (HTS3.out.below hb)
  have hz4 : w.heap.size + 2 ≤ w4.heap.size := by have := hb.size; omega
  have HPL2 := Lib.hid (show ps.length ≤ 2 from by have := pK_len kc kn 2; rw [hps, List.length_map] at this; exact this)
  clear hib hb hN3 hT3 HKP3 HTS3 hps
  have HCT := Lib.hid (show ∀ W, KpA (fun k => k = L ∨ k = G) w4 W → W.cell? ⟨w.heap.size, 1, none⟩ = some (.slice (some ⟨L, 0, none⟩) l.length l.length) ∧ W.cell? ⟨w.heap.size, 2, none⟩ = some (.slice (some ⟨G, 0, none⟩) l.length l.length) from fun W hW => by
    have e := hT4.kpA hW (by rintro (h | h) <;> omega)
    exact ⟨e.cell 1, e.cell 2⟩)
  have HCN := Lib.hid (show ∀ W, KpA (fun k => k = L ∨ k = G) w4 W → Blk W (w.heap.size + 1) (ndI k kc kn km t) 49 from fun W hW => hN4.kpA hW (by rintro (h | h) <;> omega))
  have hpl2 : ps.length ≤ 2 := HPL2.out
  have HCP := Lib.hid (show ∀ W, KpA (fun k => k = L ∨ k = G) w4 W → ∀ j (hj : j < ps.length), ∃ gp op, b = some ⟨gp, op, none⟩ ∧ W.cell? ⟨gp, op + j, none⟩ = some (.int .i64 (ps[j] : Nat)) from fun W hW j hj => by
    obtain ⟨gp, op, e, h0, h1, h2⟩ := HIB.out (by intro h0; have := congrArg List.length h0; simp at this; rw [this] at hj; simp at hj)
    refine ⟨gp, op, e, (hW.cell h1 (by rintro (h | h) <;> omega) _).trans ?_⟩
    have := h2 j (by simpa using hj)
    simpa using this)
  clear HIB hT4 hN4
  go_upto_region 4 with fail
  go_loopw [22] (fun vi wr => ∃ j : Nat, j ≤ ps.length ∧ vi = .int .i64 j ∧ TmS l.length L G (upV V i (loF V i (ps.take j))) (upM M i (mkF M (ps.take j))) wr ∧ KpA (fun k => k = L ∨ k = G) w4 wr) (fun vi _ => ps.length - (intOf vi).toNat)
  case atStart => exact ⟨0, Nat.zero_le _, rfl, HTS4.out.congr (fun _ _ => rfl) (fun x m hx hm => by unfold upM; split <;> first | (rename_i hx2; rw [hx2]; exact HM0.out m hm) | rfl), KpA.refl _ _⟩
  case round =>
    clear HTS4
    obtain ⟨j, hj, rfl, hS, hKp⟩ := hrel
    by_cases hjl : j < ps.length
    · have hjd : decide ((j : Int) < (ps.length : Int)) = true := by rw [decide_eq_true_iff]; omega
      have hjd2 : decide (j < ps.length) = true := decide_eq_true hjl
      have hjI : (j : Int) < (ps.length : Int) := by omega
      have xj : IntKind.i64.wrap ((j : Int) + 1) = (j : Int) + 1 := IntWalk.i64_in _ (by omega)
      obtain ⟨gp, op, rfl, cp⟩ := HCP.out _ hKp j hjl
      have hpp := hpi _ (List.getElem_mem hjl)
      have HTK := Lib.hid (List.take_succ_eq_append_getElem hjl)
      generalize ps[j] = p at *
      have hpl : p < l.length := by omega
      have hpI : (p : Int) < (l.length : Int) := by omega
      have hpd : decide (p < l.length) = true := decide_eq_true hpl
      obtain ⟨ci, fi⟩ := hS.low i hi
      obtain ⟨cv, fv⟩ := hS.low p hpl
      rw [upV, if_pos rfl] at ci
      rw [upV, if_neg (by omega)] at cv
      have t1 := (HCT.out _ hKp).1
      have hmin := minI (loF V i (ps.take j)) (V p)
      rw [← loF_snoc, ← HTK.out] at hmin
      have hmk : (fun n => mkF M (ps.take j) n || M p n) = mkF M (ps.take (j + 1)) := by funext n; rw [HTK.out, mkF_snoc]
      have HS := Lib.hid hS
      have HKp := Lib.hid hKp
      have hM1 : upM M i (mkF M (ps.take j)) i = mkF M (ps.take j) := if_pos rfl
      have hM2 : upM M i (mkF M (ps.take j)) p = M p := if_neg (by omega)
      have HU : ∀ v, upV (upV V i (loF V i (ps.take j))) i v = upV V i v := fun v => by funext x; unfold upV; split <;> rfl
      have HUM : ∀ f, upM (upM M i (mkF M (ps.take j))) i f = upM M i f := fun f => by funext x; unfold upM; split <;> rfl
      clear hS hKp
      obtain ⟨lo2, hlo2⟩ : ∃ v, loF V i (ps.take (j + 1)) = v := ⟨_, rfl⟩
      obtain ⟨f3, hf3⟩ : ∃ v, mkF M (ps.take (j + 1)) = v := ⟨_, rfl⟩
      rw [hlo2] at hmin
      rw [hf3] at hmk
      have HLO2 := Lib.hid hlo2
      have HF3 := Lib.hid hf3
      clear hlo2 hf3
      generalize loF V i (ps.take j) = lo at *
      generalize V p = vp at *
      generalize mkF M (ps.take j) = f1 at *
      generalize M p = f2 at *
      go_upto_region 6 with fail
      refine region_stepsM (S := fun w' => w' = wr.drew) (m := 15) rfl (by kernel_rfl) rfl ?_
      simp only [List.size_toArray, List.length_cons, List.length_nil, Nat.reduceAdd, Array.replicate_succ, Array.replicate_zero, List.push_toArray, List.nil_append, List.cons_append]
      refine AnyM.next (m := 15) (i := 0) (d := some 26) (v := .pointer (some ⟨w.heap.size, 1, none⟩)) rfl rfl (by kernel_rfl) (by kernel_rfl) (by kernel_rfl) (by kernel_rfl) (StepsIf.yield (by kernel_rfl) (fun w' hS => by rw [hS]; clear hS; go_simp)) ?_
      intro a' ha'
      simp only [Act.put, List.setIfInBounds_toArray, List.set_cons_zero, List.set_cons_succ] at ha'
      subst ha'
      refine AnyM.next (m := 15) (i := 1) (d := some 27) (v := .slice (some ⟨L, 0, none⟩) l.length l.length) rfl rfl (by kernel_rfl) (by kernel_rfl) (by kernel_rfl) (by kernel_rfl) (StepsIf.yield (by kernel_rfl) (fun w' hS => by rw [hS]; clear hS; go_simp)) ?_
      intro a' ha'
      simp only [Act.put, List.setIfInBounds_toArray, List.set_cons_zero, List.set_cons_succ] at ha'
      subst ha'
      refine AnyM.next (m := 15) (i := 2) (d := some 28) (v := .int .i64 (i : Nat)) rfl rfl (by kernel_rfl) (by kernel_rfl) (by kernel_rfl) (by kernel_rfl) (StepsIf.yield (by kernel_rfl) (fun w' hS => by rw [hS]; clear hS; go_simp)) ?_
      intro a' ha'
      simp only [Act.put, List.setIfInBounds_toArray, List.set_cons_zero, List.set_cons_succ] at ha'
      subst ha'
      refine AnyM.next (m := 15) (i := 3) (d := some 29) (v := .pointer (some ⟨w.heap.size, 1, none⟩)) rfl rfl (by kernel_rfl) (by kernel_rfl) (by kernel_rfl) (by kernel_rfl) (StepsIf.yield (by kernel_rfl) (fun w' hS => by rw [hS]; clear hS; go_simp)) ?_
      intro a' ha'
      simp only [Act.put, List.setIfInBounds_toArray, List.set_cons_zero, List.set_cons_succ] at ha'
      subst ha'
      refine AnyM.next (m := 15) (i := 4) (d := some 30) (v := .slice (some ⟨L, 0, none⟩) l.length l.length) rfl rfl (by kernel_rfl) (by kernel_rfl) (by kernel_rfl) (by kernel_rfl) (StepsIf.yield (by kernel_rfl) (fun w' hS => by rw [hS]; clear hS; go_simp)) ?_
      intro a' ha'
      simp only [Act.put, List.setIfInBounds_toArray, List.set_cons_zero, List.set_cons_succ] at ha'
      subst ha'
      refine AnyM.next (m := 15) (i := 5) (d := some 31) (v := .int .i64 (i : Nat)) rfl rfl (by kernel_rfl) (by kernel_rfl) (by kernel_rfl) (by kernel_rfl) (StepsIf.yield (by kernel_rfl) (fun w' hS => by rw [hS]; clear hS; go_simp)) ?_
      intro a' ha'
      simp only [Act.put, List.setIfInBounds_toArray, List.set_cons_zero, List.set_cons_succ] at ha'
      subst ha'
      refine AnyM.next (m := 15) (i := 6) (d := some 32) (v := .pointer (some ⟨L, i, none⟩)) rfl rfl (by kernel_rfl) (by kernel_rfl) (by kernel_rfl) (by kernel_rfl) (StepsIf.yield (by kernel_rfl) (fun w' hS => by rw [hS]; clear hS; go_simp)) ?_
      intro a' ha'
      simp only [Act.put, List.setIfInBounds_toArray, List.set_cons_zero, List.set_cons_succ] at ha'
      subst ha'
      refine AnyM.next (m := 15) (i := 7) (d := some 33) (v := .int .i64 (lo : Nat)) rfl rfl (by kernel_rfl) (by kernel_rfl) (by kernel_rfl) (by kernel_rfl) (StepsIf.yield (by kernel_rfl) (fun w' hS => by rw [hS]; clear hS; go_simp)) ?_
      intro a' ha'
      simp only [Act.put, List.setIfInBounds_toArray, List.set_cons_zero, List.set_cons_succ] at ha'
      subst ha'
      refine AnyM.next (m := 15) (i := 8) (d := some 34) (v := .pointer (some ⟨w.heap.size, 1, none⟩)) rfl rfl (by kernel_rfl) (by kernel_rfl) (by kernel_rfl) (by kernel_rfl) (StepsIf.yield (by kernel_rfl) (fun w' hS => by rw [hS]; clear hS; go_simp)) ?_
      intro a' ha'
      simp only [Act.put, List.setIfInBounds_toArray, List.set_cons_zero, List.set_cons_succ] at ha'
      subst ha'
      refine AnyM.next (m := 15) (i := 9) (d := some 35) (v := .slice (some ⟨L, 0, none⟩) l.length l.length) rfl rfl (by kernel_rfl) (by kernel_rfl) (by kernel_rfl) (by kernel_rfl) (StepsIf.yield (by kernel_rfl) (fun w' hS => by rw [hS]; clear hS; go_simp)) ?_
      intro a' ha'
      simp only [Act.put, List.setIfInBounds_toArray, List.set_cons_zero, List.set_cons_succ] at ha'
      subst ha'
      refine AnyM.next (m := 15) (i := 10) (d := some 36) (v := .int .i64 (p : Nat)) rfl rfl (by kernel_rfl) (by kernel_rfl) (by kernel_rfl) (by kernel_rfl) (StepsIf.yield (by kernel_rfl) (fun w' hS => by rw [hS]; clear hS; go_simp)) ?_
      intro a' ha'
      simp only [Act.put, List.setIfInBounds_toArray, List.set_cons_zero, List.set_cons_succ] at ha'
      subst ha'
      refine AnyM.next (m := 15) (i := 11) (d := some 37) (v := .pointer (some ⟨L, p, none⟩)) rfl rfl (by kernel_rfl) (by kernel_rfl) (by kernel_rfl) (by kernel_rfl) (StepsIf.yield (by kernel_rfl) (fun w' hS => by rw [hS]; clear hS; go_simp)) ?_
      intro a' ha'
      simp only [Act.put, List.setIfInBounds_toArray, List.set_cons_zero, List.set_cons_succ] at ha'
      subst ha'
      refine AnyM.next (m := 15) (i := 12) (d := some 38) (v := .int .i64 (vp : Nat)) rfl rfl (by kernel_rfl) (by kernel_rfl) (by kernel_rfl) (by kernel_rfl) (StepsIf.yield (by kernel_rfl) (fun w' hS => by rw [hS]; clear hS; go_simp)) ?_
      intro a' ha'
      simp only [Act.put, List.setIfInBounds_toArray, List.set_cons_zero, List.set_cons_succ] at ha'
      subst ha'
      refine AnyM.next (m := 15) (i := 13) (d := some 39) (v := .int .i64 (lo2 : Nat)) rfl rfl (by kernel_rfl) (by kernel_rfl) (by kernel_rfl) (by kernel_rfl) (StepsIf.yield (by kernel_rfl) (fun w' hS => by rw [hS]; clear hS; go_simp)) ?_
      intro a' ha'
      simp only [Act.put, List.setIfInBounds_toArray, List.set_cons_zero, List.set_cons_succ] at ha'
      subst ha'
      refine AnyM.next (m := 15) (i := 14) (d := some 40) (v := .pointer (some ⟨L, i, none⟩)) rfl rfl (by kernel_rfl) (by kernel_rfl) (by kernel_rfl) (by kernel_rfl) (StepsIf.yield (by kernel_rfl) (fun w' hS => by rw [hS]; clear hS; go_simp)) ?_
      intro a' ha'
      simp only [Act.put, List.setIfInBounds_toArray, List.set_cons_zero, List.set_cons_succ] at ha'
      subst ha'
      refine AnyM.last rfl (by kernel_rfl) (by kernel_rfl) (by kernel_rfl) (fun w5 hS K hK => ?_)
      subst hS
      go_simp
      refine hK _ _ ?_
      clear hK K
      skip
      have HS5 := Lib.hid ((HS.out.setLow hLG i hi lo2).drew)
      have HKp5 := Lib.hid ((HKp.out.set (g := L) (.inl (.inl rfl)) i (.int .i64 (lo2 : Nat))).drew)
      rw [HU] at HS5
      clear HS HKp t1 ci fi cv fv cp
      generalize (wr.setCell ⟨L, i, none⟩ (.int .i64 (lo2 : Nat))).drew = w5 at *
      have hrow1 : ∀ W, TmS l.length L G (upV V i lo2) (upM M i f1) W → W.rangeAt G (i * 10) (mkV f1).toList := fun W hW => by
        have := hW.row i hi
        rw [hM1] at this
        exact this
      have hrow2 : ∀ W, TmS l.length L G (upV V i lo2) (upM M i f1) W → W.rangeAt G (p * 10) (mkV f2).toList := fun W hW => by
        have := hW.row p hpl
        rw [hM2] at this
        exact this
      go_upto_region 7 with fail
      refine region_stepsM (S := fun w' => KpA (fun k => k = L ∨ k = G) w4 w' ∧ TmS l.length L G (upV V i lo2) (upM M i f1) w') (m := 15) rfl (by kernel_rfl) ⟨HKp5.out.drew, HS5.out.drew⟩ ?_
      simp only [List.size_toArray, List.length_cons, List.length_nil, Nat.reduceAdd, Array.replicate_succ, Array.replicate_zero, List.push_toArray, List.nil_append, List.cons_append]
      refine AnyM.next (m := 15) (i := 0) (d := some 41) (v := .pointer (some ⟨w.heap.size, 2, none⟩)) rfl rfl (by kernel_rfl) (by kernel_rfl) (by kernel_rfl) (by kernel_rfl) (StepsIf.yield (by kernel_rfl) (fun w' hS => by have t2 := (HCT.out _ hS.1).2; clear hS; go_simp)) ?_
      intro a' ha'
      simp only [Act.put, List.setIfInBounds_toArray, List.set_cons_zero, List.set_cons_succ] at ha'
      subst ha'
      refine AnyM.next (m := 15) (i := 1) (d := some 42) (v := .slice (some ⟨G, 0, none⟩) l.length l.length) rfl rfl (by kernel_rfl) (by kernel_rfl) (by kernel_rfl) (by kernel_rfl) (StepsIf.yield (by kernel_rfl) (fun w' hS => by have t2 := (HCT.out _ hS.1).2; clear hS; go_simp)) ?_
      intro a' ha'
      simp only [Act.put, List.setIfInBounds_toArray, List.set_cons_zero, List.set_cons_succ] at ha'
      subst ha'
      refine AnyM.next (m := 15) (i := 2) (d := some 43) (v := .int .i64 (i : Nat)) rfl rfl (by kernel_rfl) (by kernel_rfl) (by kernel_rfl) (by kernel_rfl) (StepsIf.yield (by kernel_rfl) (fun w' hS => by have t2 := (HCT.out _ hS.1).2; clear hS; go_simp)) ?_
      intro a' ha'
      simp only [Act.put, List.setIfInBounds_toArray, List.set_cons_zero, List.set_cons_succ] at ha'
      subst ha'
      refine AnyM.next (m := 15) (i := 3) (d := some 44) (v := .pointer (some ⟨w.heap.size, 2, none⟩)) rfl rfl (by kernel_rfl) (by kernel_rfl) (by kernel_rfl) (by kernel_rfl) (StepsIf.yield (by kernel_rfl) (fun w' hS => by have t2 := (HCT.out _ hS.1).2; clear hS; go_simp)) ?_
      intro a' ha'
      simp only [Act.put, List.setIfInBounds_toArray, List.set_cons_zero, List.set_cons_succ] at ha'
      subst ha'
      refine AnyM.next (m := 15) (i := 4) (d := some 45) (v := .slice (some ⟨G, 0, none⟩) l.length l.length) rfl rfl (by kernel_rfl) (by kernel_rfl) (by kernel_rfl) (by kernel_rfl) (StepsIf.yield (by kernel_rfl) (fun w' hS => by have t2 := (HCT.out _ hS.1).2; clear hS; go_simp)) ?_
      intro a' ha'
      simp only [Act.put, List.setIfInBounds_toArray, List.set_cons_zero, List.set_cons_succ] at ha'
      subst ha'
      refine AnyM.next (m := 15) (i := 5) (d := some 46) (v := .int .i64 (i : Nat)) rfl rfl (by kernel_rfl) (by kernel_rfl) (by kernel_rfl) (by kernel_rfl) (StepsIf.yield (by kernel_rfl) (fun w' hS => by have t2 := (HCT.out _ hS.1).2; clear hS; go_simp)) ?_
      intro a' ha'
      simp only [Act.put, List.setIfInBounds_toArray, List.set_cons_zero, List.set_cons_succ] at ha'
      subst ha'
      refine AnyM.next (m := 15) (i := 6) (d := some 47) (v := .pointer (some ⟨G, i * 10, none⟩)) rfl rfl (by kernel_rfl) (by kernel_rfl) (by kernel_rfl) (by kernel_rfl) (StepsIf.yield (by kernel_rfl) (fun w' hS => by have t2 := (HCT.out _ hS.1).2; clear hS; go_simp)) ?_
      intro a' ha'
      simp only [Act.put, List.setIfInBounds_toArray, List.set_cons_zero, List.set_cons_succ] at ha'
      subst ha'
      refine AnyM.next (m := 15) (i := 7) (d := some 48) (v := .agg (mkV f1)) rfl rfl (by kernel_rfl) (by kernel_rfl) (by kernel_rfl) (by kernel_rfl) (StepsIf.load_mid (by kernel_rfl) 94 _ rfl G (i * 10) rfl (mkV f1).toList _ rfl _ (fun w' hS => hrow1 _ hS.2) Try.underlying94 rfl infoMk) ?_
      intro a' ha'
      simp only [Act.put, List.setIfInBounds_toArray, List.set_cons_zero, List.set_cons_succ] at ha'
      subst ha'
      refine AnyM.next (m := 15) (i := 8) (d := some 49) (v := .pointer (some ⟨w.heap.size, 2, none⟩)) rfl rfl (by kernel_rfl) (by kernel_rfl) (by kernel_rfl) (by kernel_rfl) (StepsIf.yield (by kernel_rfl) (fun w' hS => by have t2 := (HCT.out _ hS.1).2; clear hS; go_simp)) ?_
      intro a' ha'
      simp only [Act.put, List.setIfInBounds_toArray, List.set_cons_zero, List.set_cons_succ] at ha'
      subst ha'
      refine AnyM.next (m := 15) (i := 9) (d := some 50) (v := .slice (some ⟨G, 0, none⟩) l.length l.length) rfl rfl (by kernel_rfl) (by kernel_rfl) (by kernel_rfl) (by kernel_rfl) (StepsIf.yield (by kernel_rfl) (fun w' hS => by have t2 := (HCT.out _ hS.1).2; clear hS; go_simp)) ?_
      intro a' ha'
      simp only [Act.put, List.setIfInBounds_toArray, List.set_cons_zero, List.set_cons_succ] at ha'
      subst ha'
      refine AnyM.next (m := 15) (i := 10) (d := some 51) (v := .int .i64 (p : Nat)) rfl rfl (by kernel_rfl) (by kernel_rfl) (by kernel_rfl) (by kernel_rfl) (StepsIf.yield (by kernel_rfl) (fun w' hS => by have t2 := (HCT.out _ hS.1).2; clear hS; go_simp)) ?_
      intro a' ha'
      simp only [Act.put, List.setIfInBounds_toArray, List.set_cons_zero, List.set_cons_succ] at ha'
      subst ha'
      refine AnyM.next (m := 15) (i := 11) (d := some 52) (v := .pointer (some ⟨G, p * 10, none⟩)) rfl rfl (by kernel_rfl) (by kernel_rfl) (by kernel_rfl) (by kernel_rfl) (StepsIf.yield (by kernel_rfl) (fun w' hS => by have t2 := (HCT.out _ hS.1).2; clear hS; go_simp)) ?_
      intro a' ha'
      simp only [Act.put, List.setIfInBounds_toArray, List.set_cons_zero, List.set_cons_succ] at ha'
      subst ha'
      refine AnyM.next (m := 15) (i := 12) (d := some 53) (v := .agg (mkV f2)) rfl rfl (by kernel_rfl) (by kernel_rfl) (by kernel_rfl) (by kernel_rfl) (StepsIf.load_mid (by kernel_rfl) 94 _ rfl G (p * 10) rfl (mkV f2).toList _ rfl _ (fun w' hS => hrow2 _ hS.2) Try.underlying94 rfl infoMk) ?_
      intro a' ha'
      simp only [Act.put, List.setIfInBounds_toArray, List.set_cons_zero, List.set_cons_succ] at ha'
      subst ha'
      refine AnyM.next (m := 15) (i := 13) (d := some 54) (v := .agg (mkV f3)) rfl rfl (by kernel_rfl) (by kernel_rfl) (by kernel_rfl) (by kernel_rfl) (StepsIf.call (by kernel_rfl) (fun w' hS => by clear hS; go_simp) (fun w' hS => (with_core f1 f2 f3 hmk w').mono fun e w'' h => ⟨h.1, hS.1.below h.2, hS.2.below h.2⟩)) ?_
      intro a' ha'
      simp only [Act.put, List.setIfInBounds_toArray, List.set_cons_zero, List.set_cons_succ] at ha'
      subst ha'
      refine AnyM.next (m := 15) (i := 14) (d := some 55) (v := .pointer (some ⟨G, i * 10, none⟩)) rfl rfl (by kernel_rfl) (by kernel_rfl) (by kernel_rfl) (by kernel_rfl) (StepsIf.yield (by kernel_rfl) (fun w' hS => by have t2 := (HCT.out _ hS.1).2; clear hS; go_simp)) ?_
      intro a' ha'
      simp only [Act.put, List.setIfInBounds_toArray, List.set_cons_zero, List.set_cons_succ] at ha'
      subst ha'
      refine AnyM.last rfl (by kernel_rfl) (by kernel_rfl) (by kernel_rfl) (fun w6 hS K hK => ?_)
      refine wp_store_mid 94 _ _ rfl G (i * 10) (mkV f3) rfl rfl (hS.2.there i hi) infoMk (mkV_one _) ?_
      refine hK _ _ ?_
      have HS7 := Lib.hid (hS.2.setRow hLG i hi f3)
      have HKp7 := Lib.hid (hS.1.setCells (g := G) (.inl (.inr rfl)) (i * 10) (mkV f3).toList)
      rw [HUM] at HS7
      clear hK K hS HS5 HKp5 hrow1 hrow2
      generalize w6.setCells G (i * 10) (mkV f3).toList = w7 at *
      go_wp2_with fail
      go_roundw
      case rel => exact ⟨j + 1, by omega, by simp, by rw [HLO2.out, HF3.out]; exact HS7.out, HKp7.out⟩
      case measure => simp [intOf]; omega
    · obtain rfl : j = ps.length := by omega
      have hjd : decide ((ps.length : Int) < (ps.length : Int)) = false := by simp
      rw [List.take_of_length_le (Nat.le_refl _)] at hS
      have HKw := Lib.hid (HKP4.out.trans hKp)
      have hb3 := HCN.out _ hKp
      have n0 := hb3.cell 0; have n3 := hb3.cell 3
      simp only [List.getElem?_toArray, List.getElem?_cons_zero, List.getElem?_cons_succ] at n0 n3
      have t2 := (HCT.out _ hKp).2
      by_cases h7 : k = 7
      · have hm7 := hm h7
        subst h7 hm7
        obtain ⟨cm, fm⟩ := hS.mark i K hi hK
        rw [upM, if_pos rfl] at cm
        have HS := Lib.hid hS
        have HKp := Lib.hid hKp
        have hKI : (K : Int) < 10 := by omega
        have hKd : decide (K < 10) = true := decide_eq_true hK
        clear hS hKp hb3
        go_upto_region 11 with fail
        go_quiet (fail)
        have HS2 := Lib.hid (HS.out.drewN nq)
        have HKp2 := Lib.hid (HKp.out.drewN nq)
        have hb5 := HCN.out _ HKp2.out
        have n3 := hb5.cell 3
        simp only [List.getElem?_toArray, List.getElem?_cons_zero, List.getElem?_cons_succ] at n3
        obtain ⟨cm, fm⟩ := HS2.out.mark i K hi hK
        have t2 := (HCT.out _ HKp2.out).2
        have HKw2 := Lib.hid (HKw.out.drewN nq)
        clear HS HKp hb5 HKw
        generalize wr.drewN nq = w5 at *
        go_upto_region 12 with fail
        go_region
        have HS3 := Lib.hid ((HS2.out.setMark hLG i hi K hK true).drew)
        have HKw3 := Lib.hid ((HKw2.out.set (g := G) (.inl (.inr rfl)) (i * 10 + K) (.bool true)).drew)
        have HS4 := Lib.hid (HS3.out.congr (V' := upV V i (loF V i ps)) (M' := upM M i (lnM 7 (mkF M ps) K)) (fun _ _ => rfl) (fun x m _ _ => by
          unfold upM lnM
          by_cases hx : x = i
          · rw [if_pos hx, if_pos hx]
            by_cases hmk : m = K
            · rw [if_pos hmk, if_pos ⟨rfl, hmk⟩]
            · rw [if_neg hmk, if_pos rfl, if_neg (fun h => hmk h.2)]
          · rw [if_neg hx, if_neg hx, if_neg hx]))
        clear HS2 HS3 HKw2 cm fm n3 t2
        generalize (w5.setCell ⟨G, i * 10 + K, none⟩ (.bool true)).drew = w8 at *
        have H7 := Lib.hid (show lnB 7 (mkF M ps) K = !mkF M ps K from if_pos rfl)
        go_wp2_with fail
        go_ret
        exact ⟨by rw [H7.out] <;> rfl, HS4.out, HKw3.out⟩
      · have q7 : (k == 7) = false := by rw [beq_eq_false_iff_ne]; exact h7
        have q7n : (k != 7) = true := by rw [bne, q7]; rfl
        have HS := Lib.hid (hS.congr (V' := upV V i (loF V i ps)) (M' := upM M i (lnM k (mkF M ps) K)) (fun _ _ => rfl) (fun x m _ _ => by
          unfold upM
          by_cases hx : x = i
          · rw [if_pos hx, if_pos hx]; exact (if_neg (fun h => h7 h.1)).symm
          · rw [if_neg hx, if_neg hx]))
        have H7 := Lib.hid (show lnB k (mkF M ps) K = true from if_neg h7)
        clear hS hKp hb3 h7
        go_wp2_with fail
        go_ret
        exact ⟨by rw [H7.out] <;> rfl, HS.out, HKw.out⟩
end Go.Proofs.Ytooolhekihijlaa

/- Texts put together: Ob Oc. -/
import Derived.Test.YtdpkhliojbeglaaDoorQM
import Derived.Test.YtdpkhliojbeglaaDoorQE
/- The developers' terms: marks: with, numbers. Stage 10. -/
namespace Go.Proofs.YtdpkhliojbeglaaDoor
open Go.RowKit BS

@[reducible] def mkV (f : Nat → Bool) : Array Value := #[.bool (f 0), .bool (f 1), .bool (f 2), .bool (f 3), .bool (f 4), .bool (f 5), .bool (f 6), .bool (f 7), .bool (f 8), .bool (f 9)]
theorem mkV_get (f : Nat → Bool) (k : Nat) (h : k < 10) : (mkV f)[k]? = some (.bool (f k)) := by
  obtain rfl | rfl | rfl | rfl | rfl | rfl | rfl | rfl | rfl | rfl : k = 0 ∨ k = 1 ∨ k = 2 ∨ k = 3 ∨ k = 4 ∨ k = 5 ∨ k = 6 ∨ k = 7 ∨ k = 8 ∨ k = 9 := by omega
  all_goals rfl
theorem mkV_set (f : Nat → Bool) (k : Nat) (h : k < 10) (b : Bool) : (mkV f).setIfInBounds k (.bool b) = mkV (fun n => if n = k then b else f n) := by
  obtain rfl | rfl | rfl | rfl | rfl | rfl | rfl | rfl | rfl | rfl : k = 0 ∨ k = 1 ∨ k = 2 ∨ k = 3 ∨ k = 4 ∨ k = 5 ∨ k = 6 ∨ k = 7 ∨ k = 8 ∨ k = 9 := by omega
  all_goals rfl
theorem mkV_one (f : Nat → Bool) : ((mkV f).all fun x => x.oneCell') = true := by simp [Value.oneCell']
def orK (f g : Nat → Bool) (k : Nat) (n : Nat) : Bool := if n < k then f n || g n else f n
theorem orK_zero (f g : Nat → Bool) : mkV (orK f g 0) = mkV f := rfl
theorem orK_ten (f g : Nat → Bool) : mkV (orK f g 10) = mkV (fun n => f n || g n) := rfl
theorem orK_step (f g : Nat → Bool) (k : Nat) (h : k < 10) : (mkV (orK f g k)).setIfInBounds k (.bool (f k || g k)) = mkV (orK f g (k + 1)) := by
  rw [mkV_set _ k h]
  congr 1
  funext n
  unfold orK
  by_cases h1 : n = k
  · subst h1; rw [if_pos rfl, if_pos (by omega)]
  · rw [if_neg h1]
    by_cases h2 : n < k
    · rw [if_pos h2, if_pos (by omega)]
    · rw [if_neg h2, if_neg (by omega)]
theorem infoMk : (Tryd.prog.info? 152).map (·.size) = some 10 := by kernel_rfl
set_option maxRecDepth 100000 in
set_option maxHeartbeats 8000000 in
theorem with_core (f g h : Nat → Bool) (hh : (fun n => f n || g n) = h) (w : World) : Calls Tryd.prog 99 #[.agg (mkV f), .agg (mkV g)] w fun e w' => e = .returned (.agg (mkV h)) ∧ Below w.heap.size w w' := by
  have HH := Lib.hid hh
  clear hh
  have hB : Below w.heap.size w (((w.alloc (.cells (mkV f) 152)).alloc (.cells (mkV g) 152)).alloc (.cells (mkV fun _ => false) 152)) := by go_grown
  have bM := ((Blk.new w (mkV f) 152).alloc (.cells (mkV g) 152)).alloc (.cells (mkV fun _ => false) 152)
  have bO := ((Blk.new (w.alloc (.cells (mkV f) 152)) (mkV g) 152)).alloc (.cells (mkV fun _ => false) 152)
  have bR := Blk.new ((w.alloc (.cells (mkV f) 152)).alloc (.cells (mkV g) 152)) (mkV fun _ => false) 152
  rw [World.size_alloc] at bO
  rw [World.size_alloc, World.size_alloc] at bR
  go_enter Tryd.func99, Tryd.ntmps99
  go_upto_region 1 with fail
  generalize ((w.alloc (.cells (mkV f) 152)).alloc (.cells (mkV g) 152)).alloc (.cells (mkV fun _ => false) 152) = w1 at *
  go_upto_region 2 with fail
  rw [← orK_zero f g] at bM
  go_loopw [6] (fun vi wr => ∃ k : Nat, k ≤ 10 ∧ vi = .int .i64 k ∧ Blk wr w.heap.size (mkV (orK f g k)) 152 ∧ Blk wr (w.heap.size + 1) (mkV g) 152 ∧ Blk wr (w.heap.size + 1 + 1) (mkV fun _ => false) 152 ∧ Below w.heap.size w wr) (fun vi _ => 10 - (intOf vi).toNat)
  case atStart => exact ⟨0, by omega, rfl, bM, bO, bR, hB⟩
  case round =>
    clear bM bO bR hB
    obtain ⟨k, hk, rfl, bM, bO, bR, hB⟩ := hrel
    by_cases hk9 : k < 10
    · have hkd : decide ((k : Int) < 10) = true := by rw [decide_eq_true_iff]; omega
      have hkd2 : decide (k < 10) = true := decide_eq_true hk9
      have xk : IntKind.i64.wrap ((k : Int) + 1) = (k : Int) + 1 := IntWalk.i64_in _ (by omega)
      have e0 : orK f g k k = f k := if_neg (Nat.lt_irrefl k)
      have cM := (bM.cell k).trans (mkV_get _ k hk9)
      rw [e0] at cM
      have cO := (bO.cell k).trans (mkV_get _ k hk9)
      have fM := bM.frozen k
      have bM2 := bM.set k (.bool (f k || g k))
      rw [orK_step f g k hk9] at bM2
      have BM := Lib.hid bM2
      have BO := Lib.hid (bO.other (show w.heap.size + 1 ≠ w.heap.size by omega) k (.bool (f k || g k)))
      have BR := Lib.hid (bR.other (show w.heap.size + 1 + 1 ≠ w.heap.size by omega) k (.bool (f k || g k)))
      have HB := Lib.hid (below_set hB (Nat.le_refl _) k (.bool (f k || g k)))
      clear bM bO bR bM2 hB e0
      generalize f k = a at *
      generalize g k = b at *
      cases a with
      | true =>
        rw [Bool.true_or] at *
        go_wp2_with fail
        go_roundw
        case rel => exact ⟨k + 1, by omega, by simp, BM.out, BO.out, BR.out, HB.out⟩
        case measure => simp [intOf]; omega
      | false =>
        rw [Bool.false_or] at *
        go_wp2_with fail
        go_roundw
        case rel => exact ⟨k + 1, by omega, by simp, BM.out, BO.out, BR.out, HB.out⟩
        case measure => simp [intOf]; omega
    · obtain rfl : k = 10 := by omega
      have hkd : decide (((10 : Nat) : Int) < 10) = false := by decide
      rw [orK_ten] at bM
      have BM := Lib.hid bM
      have BR := Lib.hid bR
      have HB := Lib.hid hB
      clear bM bO bR hB
      rw [HH.out] at BM
      have hBM : wr.heap[w.heap.size]? = some (.cells (mkV h) 152 (0, 0)) := BM.out
      have hIM : (Tryd.prog.info? 152).map (·.size) = some (mkV h).size := infoMk
      have hST := run_storeAt_row wr (w.heap.size + 1 + 1) 152 152 (mkV fun _ => false) (mkV h) BR.out infoMk rfl (mkV_one _)
      go_wp2_with (first
        | (with_reducible refine wpList_load_row (o := ⟨_, .load 152 _, _, _, _, _⟩) rfl 152 _ rfl w.heap.size rfl 152 (mkV h) (0, 0) _ hBM Tryd.underlying152 rfl hIM ?_)
        | (with_reducible refine wpList_store_st (o := ⟨none, .store 152 _ _, _, _, _, _⟩) rfl 152 _ _ rfl (w.heap.size + 1 + 1) rfl rfl hST ?_))
      exact bodyPost_ret (v := .agg (mkV h)) (results_cell_row rfl _ _ (w.heap.size + 1 + 1) 152 (mkV h) (0, 0) _ rfl (Blk.setRow BR.out) Tryd.underlying152 rfl infoMk) rfl ⟨rfl, below_row HB.out (by omega) _⟩
theorem with_calls (f g : Nat → Bool) (w : World) : Calls Tryd.prog 99 #[.agg (mkV f), .agg (mkV g)] w fun e w' => e = .returned (.agg (mkV fun n => f n || g n)) ∧ Below w.heap.size w w' := with_core f g _ rfl w
/-- The numbers of what is marked. -/
def nmL (f : Nat → Bool) (k : Nat) : List Int := ((List.range k).filter f).map fun n : Nat => (n : Int)
theorem nmL_step (f : Nat → Bool) (k : Nat) : nmL f (k + 1) = nmL f k ++ (if f k = true then [(k : Int)] else []) := by
  unfold nmL
  rw [List.range_succ, List.filter_append, List.map_append]
  congr 1
  cases h : f k with
  | true => rw [List.filter_cons_of_pos h]; rfl
  | false => rw [List.filter_cons_of_neg (by rw [h]; exact Bool.false_ne_true)]; rfl
theorem nmL_len (f : Nat → Bool) (k : Nat) : (nmL f k).length ≤ k := by
  unfold nmL
  rw [List.length_map]
  refine Nat.le_trans (List.length_filter_le _ _) ?_
  simp
set_option maxRecDepth 100000 in
set_option maxHeartbeats 8000000 in
theorem numbers_calls (f : Nat → Bool) (w : World) : Calls Tryd.prog 96 #[.agg (mkV f)] w fun e w' => ∃ b q, e = .returned (.slice b (nmL f 10).length q) ∧ IntsB w.heap.size (nmL f 10) b w' ∧ Below w.heap.size w w' := by
  have hB : Below w.heap.size w (w.alloc (.cells (mkV f) 152)) := by go_grown
  have hB1 := Below.refl (w.heap.size + 1) (w.alloc (.cells (mkV f) 152))
  have hz : (w.alloc (.cells (mkV f) 152)).heap.size = w.heap.size + 1 := World.size_alloc ..
  have bM := Blk.new w (mkV f) 152
  obtain ⟨i0, hinf, hza, hzb, hzc⟩ := info_parts infoIntO
  go_enter Tryd.func96, Tryd.ntmps96
  go_upto_region 1 with fail
  generalize w.alloc (.cells (mkV f) 152) = w1 at *
  go_upto_region 3 with fail
  have HCE := Lib.hid (fun W (hW : Below (w.heap.size + 1) w1 W) => bM.below hW (Nat.lt_succ_self _))
  have HBW := Lib.hid hB
  have HZ := Lib.hid hz
  clear hB hz bM
  go_loopw [3, 5] (fun vl vi wr => ∃ j : Nat, j ≤ 10 ∧ vi = .int .i64 j ∧ wr.ownsRow (w.heap.size + 1) 3 1 vl (nmL f j).length (iV (nmL f j)) ∧ Below (w.heap.size + 1) w1 wr) (fun _ vi _ => 10 - (intOf vi).toNat)
  case atStart => exact ⟨0, by omega, rfl, World.ownsRow_nil _ _ _ _, hB1⟩
  case round =>
    clear hB1
    obtain ⟨j, hj, rfl, hown, hB⟩ := hrel
    have HOW := Lib.hid hown
    have HB := Lib.hid hB
    have hpl := nmL_len f j
    clear hown hB
    by_cases hj2 : j < 10
    · have hjd : decide ((j : Int) < 10) = true := by rw [decide_eq_true_iff]; omega
      have hkd2 : decide (j < 10) = true := decide_eq_true hj2
      have hst := nmL_step f j
      have xj : IntKind.i64.wrap ((j : Int) + 1) = (j : Int) + 1 := IntWalk.i64_in _ (by omega)
      have cM := ((HCE.out _ HB.out).cell j).trans (mkV_get _ j hj2)
      cases hf : f j with
      | false =>
        rw [hf] at cM hst
        rw [if_neg Bool.false_ne_true, List.append_nil] at hst
        have HST := Lib.hid hst
        clear hst hf
        go_wp2_with fail
        go_roundw
        case rel => exact ⟨j + 1, by omega, by simp, by rw [HST.out]; exact HOW.out, HB.out⟩
        case measure => simp [intOf]; omega
      | true =>
        rw [hf] at cM hst
        rw [if_pos rfl] at hst
        have HST := Lib.hid hst
        clear hst hf
        have hws : w.heap.size + 1 ≤ wr.heap.size := by have := HB.out.size; have := HZ.out; omega
        have BWA : Below (w.heap.size + 1) w1 (wr.alloc (.cells #[.int .i64 (j : Int)] 3)) := HB.out.alloc hws _
        go_wp2_with (at_builtin; refine wpList_append_own _ rfl _ _ 54 rfl (w.heap.size + 1) 3 i0 (.int .i64 0) 1 8 Tryd.underlying54 hinf hza hzb hzc rfl (by decide) _ (nmL f j).length (iV (nmL f j)) rfl (HOW.out.alloc _) ⟨wr.heap.size, 0, none⟩ 1 1 [.int .i64 (j : Int)] rfl rfl (Blk.new wr _ _).newsL (by simp [Value.oneCell']) (by unfold maxLen; omega) (by omega) (by have := BWA.size; simp; omega) ?_; intro v2 w3 hown2 hgrow2 _)
        have hown3 : w3.ownsRow (w.heap.size + 1) 3 1 v2 (nmL f (j + 1)).length (iV (nmL f (j + 1))) := by
          rw [HST.out, List.length_append]
          have e : iV (nmL f j ++ [(j : Int)]) = iV (nmL f j) ++ [.int .i64 (j : Int)] := by simp [iV]
          rw [e]
          exact hown2
        have HO3 := Lib.hid hown3
        have HB3 := Lib.hid (BWA.grown hgrow2 (by simp; omega) (fun b hb => (HOW.out.lt b hb).1))
        clear hown2 hown3 hgrow2 BWA hws
        go_wp2_with fail
        go_roundw
        case rel => exact ⟨j + 1, by omega, by simp, HO3.out, HB3.out⟩
        case measure => simp [intOf]; omega
    · obtain rfl : j = 10 := by omega
      have hjd : decide (((10 : Nat) : Int) < 10) = false := by decide
      obtain ⟨b, q, rfl, hI⟩ := ints_of_own HOW.out
      have HI := Lib.hid (show IntsB w.heap.size (nmL f 10) b wr from fun hne => by
        obtain ⟨g, o, e, h0, h1, h2⟩ := hI hne
        exact ⟨g, o, e, by omega, h1, h2⟩)
      clear hI HOW
      go_wp2_with fail
      go_ret
      exact ⟨b, q, rfl, HI.out, HBW.out.trans (HB.out.mono (by omega))⟩
end Go.Proofs.YtdpkhliojbeglaaDoor

/- The developers' terms: stands. Stage 10. -/
namespace Go.Proofs.YtdpkhliojbeglaaDoor
open Go.RowKit BS

/-- A list of nodes with where each begins, and its marks. -/
@[reducible] def tmC (a : Option Addr) (n cap : Nat) (L G : Option Addr) : Array Value := #[.slice a n cap, .slice L n n, .slice G n n]
/-- Does a node stand right behind its parts? -/
def stB (lw : Nat → Nat) (i : Nat) (k c n : Int) : Bool :=
  if k = 1 ∨ k = 2 then (c == -1) && (n == -1)
  else if k = 5 ∨ k = 6 ∨ k = 7 ∨ k = 8 then decide (0 < i) && ((c == (i : Int) - 1) && (n == -1))
  else if k = 3 ∨ k = 4 then decide (0 < i) && (decide (0 < lw (i - 1)) && ((n == (i : Int) - 1) && (c == (lw (i - 1) : Int) - 1)))
  else false
set_option maxRecDepth 100000 in
set_option maxHeartbeats 32000000 in
theorem stands_calls (l : List NdN) (hl : l.length ≤ 1000) (i : Nat) (hi : i < l.length) (a : Option Addr) (cap L : Nat) (G : Option Addr) (lw : Nat → Nat) (hlb : lw (i - 1) ≤ 1000) (w : World) (h : NodesAt l a w) (hL : L < w.heap.size) (hlw : 0 < i → w.cell? ⟨L, i - 1, none⟩ = some (.int .i64 (lw (i - 1) : Nat))) :
    Calls Tryd.prog 81 #[.agg (tmC a l.length cap (some ⟨L, 0, none⟩) G), .int .i64 i] w fun e w' => e = .returned (.bool (stB lw i l[i].kind l[i].kids l[i].n)) ∧ Below w.heap.size w w' := by
  have hne : l ≠ [] := by rintro rfl; simp at hi
  obtain ⟨g, off, rfl, hg, hc⟩ := h hne
  have hB0 : Below w.heap.size w (w.alloc (.cells (tmC (some ⟨g, off, none⟩) l.length cap (some ⟨L, 0, none⟩) G) 120)) := by go_grown
  have hT := Blk.new w (tmC (some ⟨g, off, none⟩) l.length cap (some ⟨L, 0, none⟩) G) 120
  have hz : (w.alloc (.cells (tmC (some ⟨g, off, none⟩) l.length cap (some ⟨L, 0, none⟩) G) 120)).heap.size = w.heap.size + 1 := World.size_alloc ..
  have hcell := fun (j : Nat) (hj : j < 8) => (hB0.cell (p := ⟨g, off + i * 8 + j, none⟩) hg).trans (hc i hi j hj)
  have hlc := fun h0 => (hB0.cell (p := ⟨L, i - 1, none⟩) hL).trans (hlw h0)
  have d0 := hcell 0 (by decide); have d1 := hcell 1 (by decide); have d2 := hcell 2 (by decide); have d3 := hcell 3 (by decide); have d4 := hcell 4 (by decide); have d5 := hcell 5 (by decide); have d6 := hcell 6 (by decide); have d7 := hcell 7 (by decide)
  simp only [ndA, List.getElem?_toArray, List.getElem?_cons_zero, List.getElem?_cons_succ, Nat.add_zero] at d0 d1 d2 d3 d4 d5 d6 d7
  generalize l[i] = x at *
  obtain ⟨k, kc, kn, km, t⟩ := x
  simp only at d0 d1 d2 d3 d4 d5 d6 d7
  obtain ⟨R, hR⟩ : ∃ R, stB lw i k kc kn = R := ⟨_, rfl⟩
  show Calls _ _ _ _ fun e w' => e = .returned (.bool (stB lw i k kc kn)) ∧ Below w.heap.size w w'
  rw [hR]
  unfold stB at hR
  have HR := Lib.hid hR
  have hii : (i : Int) < (l.length : Int) := by omega
  have hd : decide (i < l.length) = true := by rw [decide_eq_true_iff]; omega
  clear hR hcell hlw hc hne h
  go_enter Tryd.func81, Tryd.ntmps81
  go_upto_region 1 with fail
  generalize w.alloc (.cells (tmC (some ⟨g, off, none⟩) l.length cap (some ⟨L, 0, none⟩) G) 120) = w1 at *
  have t0 := hT.cell 0; have t1 := hT.cell 1
  simp only [List.getElem?_toArray, List.getElem?_cons_zero, List.getElem?_cons_succ] at t0 t1
  have hN := Blk.new w1 (ndI k kc kn km t) 60
  have hB2 := hB0.alloc hB0.size (.cells (ndI k kc kn km t) 60)
  have hT2 := hT.alloc (.cells (ndI k kc kn km t) 60)
  have hlc2 := fun h0 => (((Below.refl w1.heap.size w1).alloc (Nat.le_refl _) (.cells (ndI k kc kn km t) 60)).cell (p := ⟨L, i - 1, none⟩) (show L < w1.heap.size by omega)).trans (hlc h0)
  rw [hz] at hN
  go_upto_region 2 with fail
  clear d0 d1 d2 d3 d4 d5 d6 d7 hT t0 t1 hB0 hlc
  generalize w1.alloc (.cells (ndI k kc kn km t) 60) = w2 at *
  have n0 := hN.cell 0; have n1 := hN.cell 1; have n2 := hN.cell 2
  have t1 := hT2.cell 1
  simp only [List.getElem?_toArray, List.getElem?_cons_zero, List.getElem?_cons_succ] at n0 n1 n2 t1
  clear hN hT2 hz
  have HB := Lib.hid hB2
  clear hB2
  by_cases c12 : k = 1 ∨ k = 2
  · rw [if_pos c12] at HR
    clear hlc2 t1
    cases hA : (kc == -1) with
    | false =>
      rw [hA, Bool.false_and] at HR
      rcases c12 with rfl | rfl
      all_goals
        go_wp2_with fail
        go_ret
        exact ⟨by rw [← HR.out] <;> rfl, HB.out⟩
    | true =>
      rw [hA, Bool.true_and] at HR
      rcases c12 with rfl | rfl
      all_goals
        go_wp2_with fail
        go_ret
        exact ⟨by rw [← HR.out] <;> rfl, HB.out⟩
  rw [if_neg c12] at HR
  have q1 : (k == 1) = false := by rw [beq_eq_false_iff_ne]; omega
  have q2 : (k == 2) = false := by rw [beq_eq_false_iff_ne]; omega
  by_cases c58 : k = 5 ∨ k = 6 ∨ k = 7 ∨ k = 8
  · rw [if_pos c58] at HR
    clear hlc2 t1 q1 q2 c12
    have xi : IntKind.i64.wrap ((i : Int) - 1) = (i : Int) - 1 := IntWalk.i64_in _ (by omega)
    by_cases h0 : 0 < i
    · have hp : decide ((0 : Int) < (i : Int)) = true := by rw [decide_eq_true_iff]; omega
      have hp' : decide (0 < i) = true := decide_eq_true h0
      rw [hp', Bool.true_and] at HR
      clear h0
      cases hA : (kc == (i : Int) - 1) with
      | false =>
        rw [hA, Bool.false_and] at HR
        rcases c58 with rfl | rfl | rfl | rfl
        all_goals
          go_wp2_with fail
          go_ret
          exact ⟨by rw [← HR.out] <;> rfl, HB.out⟩
      | true =>
        rw [hA, Bool.true_and] at HR
        rcases c58 with rfl | rfl | rfl | rfl
        all_goals
          go_wp2_with fail
          go_ret
          exact ⟨by rw [← HR.out] <;> rfl, HB.out⟩
    · obtain rfl : i = 0 := by omega
      have HR2 := Lib.hid (show false = R from by rw [← HR.out]; rfl)
      clear HR h0
      rcases c58 with rfl | rfl | rfl | rfl
      all_goals
        go_wp2_with fail
        go_ret
        exact ⟨by rw [← HR2.out] <;> rfl, HB.out⟩
  rw [if_neg c58] at HR
  by_cases c34 : k = 3 ∨ k = 4
  · rw [if_pos c34] at HR
    clear q1 q2 c12 c58
    by_cases h0 : 0 < i
    · have xi : IntKind.i64.wrap ((i : Int) - 1) = ((i - 1 : Nat) : Int) := by rw [IntWalk.i64_in _ (by omega)]; omega
      have hp : decide ((0 : Int) < (i : Int)) = true := by rw [decide_eq_true_iff]; omega
      have hp' : decide (0 < i) = true := decide_eq_true h0
      have ei : (i : Int) - 1 = ((i - 1 : Nat) : Int) := by omega
      have hl1 := hlc2 h0
      rw [hp', Bool.true_and, ei] at HR
      have hiI : ((i - 1 : Nat) : Int) < (l.length : Int) := by omega
      have hid : decide (i - 1 < l.length) = true := by rw [decide_eq_true_iff]; omega
      generalize lw (i - 1) = lo at *
      have xl : IntKind.i64.wrap ((lo : Int) - 1) = (lo : Int) - 1 := IntWalk.i64_in _ (by omega)
      generalize i - 1 = j at *
      clear hlc2 ei
      by_cases hlo : 0 < lo
      · have hq : decide ((0 : Int) < (lo : Int)) = true := by rw [decide_eq_true_iff]; omega
        have hq' : decide (0 < lo) = true := decide_eq_true hlo
        rw [hq', Bool.true_and] at HR
        clear h0 hlo
        cases hA : (kn == (j : Int)) with
        | false =>
          rw [hA, Bool.false_and] at HR
          rcases c34 with rfl | rfl
          all_goals
            go_upto_region 13 with fail
            go_quiet (fail)
            go_wp2_with fail
            go_ret
            exact ⟨by rw [← HR.out] <;> rfl, below_drN HB.out _⟩
        | true =>
          rw [hA, Bool.true_and] at HR
          rcases c34 with rfl | rfl
          all_goals
            go_upto_region 13 with fail
            go_quiet (fail)
            go_wp2_with fail
            go_ret
            exact ⟨by rw [← HR.out] <;> rfl, below_drN HB.out _⟩
      · obtain rfl : lo = 0 := by omega
        have hq : decide ((0 : Int) < ((0 : Nat) : Int)) = false := by decide
        have HR2 := Lib.hid (show false = R from by rw [← HR.out]; rfl)
        clear HR h0 hlo
        rcases c34 with rfl | rfl
        all_goals
          go_upto_region 13 with fail
          go_quiet (fail)
          go_wp2_with fail
          go_ret
          exact ⟨by rw [← HR2.out] <;> rfl, below_drN HB.out _⟩
    · obtain rfl : i = 0 := by omega
      have HR2 := Lib.hid (show false = R from by rw [← HR.out]; rfl)
      clear HR h0 hlc2
      rcases c34 with rfl | rfl
      all_goals
        go_upto_region 13 with fail
        go_quiet (fail)
        go_wp2_with fail
        go_ret
        exact ⟨by rw [← HR2.out] <;> rfl, below_drN HB.out _⟩
  · rw [if_neg c34] at HR
    have q3 : (k == 3) = false := by rw [beq_eq_false_iff_ne]; omega
    have q4 : (k == 4) = false := by rw [beq_eq_false_iff_ne]; omega
    have q5 : (k == 5) = false := by rw [beq_eq_false_iff_ne]; omega
    have q6 : (k == 6) = false := by rw [beq_eq_false_iff_ne]; omega
    have q7 : (k == 7) = false := by rw [beq_eq_false_iff_ne]; omega
    have q8 : (k == 8) = false := by rw [beq_eq_false_iff_ne]; omega
    clear c12 c58 c34 hlc2 t1
    go_wp2_with fail
    go_ret
    exact ⟨by rw [← HR.out] <;> rfl, HB.out⟩
end Go.Proofs.YtdpkhliojbeglaaDoor

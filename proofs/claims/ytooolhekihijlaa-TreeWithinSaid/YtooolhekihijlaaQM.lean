/- Texts put together: Ob. -/
import Derived.Test.YtooolhekihijlaaQK
import Derived.Test.YtooolhekihijlaaQG
/- The developers' terms: marks: with, numbers. Stage 10. -/
namespace Go.Proofs.Ytooolhekihijlaa
open Go.RowKit BS

@[reducible] def mkV (f : Nat → Bool) : Array Value := #[.bool (f 0), .bool (f 1), .bool (f 2), .bool (f 3), .bool (f 4), .bool (f 5), .bool (f 6), .bool (f 7), .bool (f 8), .bool (f 9)]
theorem mkV_get (f : Nat → Bool) (k : Nat) (h : k < 10) : (mkV f)[k]? = some (.bool (f k)) := by
  obtain rfl | rfl | rfl | rfl | rfl | rfl | rfl | rfl | rfl | rfl : k = 0 ∨ k = 1 ∨ k = 2 ∨ k = 3 ∨ k = 4 ∨ k = 5 ∨ k = 6 ∨ k = 7 ∨ k = 8 ∨ k = 9 := by omega
  all_goals rfl
theorem mkV_set (f : Nat → Bool) (k : Nat) (h : k < 10) (b : Bool) : (mkV f).setIfInBounds k (.bool b) = mkV (fun n => if n = k then b else f n) := by
  obtain rfl | rfl | rfl | rfl | rfl | rfl | rfl | rfl | rfl | rfl : k = 0 ∨ k = 1 ∨ k = 2 ∨ k = 3 ∨ k = 4 ∨ k = 5 ∨ k = 6 ∨ k = 7 ∨ k = 8 ∨ k = 9 := by omega
  all_goals rfl
theorem mkV_one (f : Nat → Bool) : ((mkV f).all fun x => x.oneCell') = true := by simp [Value.oneCell']
def orK (f g : Nat → Bool) (k : Nat) (n : Nat) : Bool := if n < k then f n || g n else f n
theorem orK_zero (f g : Nat → Bool) : mkV (orK f g 0) = mkV f := rfl
theorem orK_ten (f g : Nat → Bool) : mkV (orK f g 10) = mkV (fun n => f n || g n) := rfl
theorem orK_step (f g : Nat → Bool) (k : Nat) (h : k < 10) : (mkV (orK f g k)).setIfInBounds k (.bool (f k || g k)) = mkV (orK f g (k + 1)) := by
  rw [mkV_set _ k h]
  congr 1
  funext n
  unfold orK
  by_cases h1 : n = k
  · subst h1; rw [if_pos rfl, if_pos (by omega)]
  · rw [if_neg h1]
    by_cases h2 : n < k
    · rw [if_pos h2, if_pos (by omega)]
    · rw [if_neg h2, if_neg (by omega)]
theorem infoMk : (Try.prog.info? 94).map (·.size) = some 10 := by kernel_rfl
set_option maxRecDepth 100000 in
set_option maxHeartbeats 8000000 in
theorem with_core (f g h : Nat → Bool) (hh : (fun n => f n || g n) = h) (w : World) : Calls Try.prog 62 #[.agg (mkV f), .agg (mkV g)] w fun e w' => e = .returned (.agg (mkV h)) ∧ Below w.heap.size w w' := by
  have HH := Lib.hid hh
  clear hh
  have hB : Below w.heap.size w (((w.alloc (.cells (mkV f) 94)).alloc (.cells (mkV g) 94)).alloc (.cells (mkV fun _ => false) 94)) := by go_grown
  have bM := ((Blk.new w (mkV f) 94).alloc (.cells (mkV g) 94)).alloc (.cells (mkV fun _ => false) 94)
  have bO := ((Blk.new (w.alloc (.cells (mkV f) 94)) (mkV g) 94)).alloc (.cells (mkV fun _ => false) 94)
  have bR := Blk.new ((w.alloc (.cells (mkV f) 94)).alloc (.cells (mkV g) 94)) (mkV fun _ => false) 94
  rw [World.size_alloc] at bO
  rw [World.size_alloc, World.size_alloc] at bR
  go_enter Try.func62, Try.ntmps62
  go_upto_region 1 with fail
  generalize ((w.alloc (.cells (mkV f) 94)).alloc (.cells (mkV g) 94)).alloc (.cells (mkV fun _ => false) 94) = w1 at *
  go_upto_region 2 with fail
  rw [← orK_zero f g] at bM
  go_loopw [6] (fun vi wr => ∃ k : Nat, k ≤ 10 ∧ vi = .int .i64 k ∧ Blk wr w.heap.size (mkV (orK f g k)) 94 ∧ Blk wr (w.heap.size + 1) (mkV g) 94 ∧ Blk wr (w.heap.size + 1 + 1) (mkV fun _ => false) 94 ∧ Below w.heap.size w wr) (fun vi _ => 10 - (intOf vi).toNat)
  case atStart => exact ⟨0, by omega, rfl, bM, bO, bR, hB⟩
  case round =>
    clear bM bO bR hB
    obtain ⟨k, hk, rfl, bM, bO, bR, hB⟩ := hrel
    by_cases hk9 : k < 10
    · have hkd : decide ((k : Int) < 10) = true := by rw [decide_eq_true_iff]; omega
      have hkd2 : decide (k < 10) = true := decide_eq_true hk9
      have xk : IntKind.i64.wrap ((k : Int) + 1) = (k : Int) + 1 := IntWalk.i64_in _ (by omega)
      have e0 : orK f g k k = f k := if_neg (Nat.lt_irrefl k)
      have cM := (bM.cell k).trans (mkV_get _ k hk9)
      rw [e0] at cM
      have cO := (bO.cell k).trans (mkV_get _ k hk9)
      have fM := bM.frozen k
      have bM2 := bM.set k (.bool (f k || g k))
      rw [orK_step f g k hk9] at bM2
      have BM := Lib.hid bM2
      have BO := Lib.hid (bO.other (show w.heap.size + 1 ≠ w.heap.size by omega) k (.bool (f k || g k)))
      have BR := Lib.hid (bR.other (show w.heap.size + 1 + 1 ≠ w.heap.size by omega) k (.bool (f k || g k)))
      have HB := Lib.hid (below_set hB (Nat.le_refl _) k (.bool (f k || g k)))
      clear bM bO bR bM2 hB e0
      generalize f k = a at *
      generalize g k = b at *
      cases a with
      | true =>
        rw [Bool.true_or] at *
        go_wp2_with fail
        go_roundw
        case rel => exact ⟨k + 1, by omega, by simp, BM.out, BO.out, BR.out, HB.out⟩
        case measure => simp [intOf]; omega
      | false =>
        rw [Bool.false_or] at *
        go_wp2_with fail
        go_roundw
        case rel => exact ⟨k + 1, by omega, by simp, BM.out, BO.out, BR.out, HB.out⟩
        case measure => simp [intOf]; omega
    · obtain rfl : k = 10 := by omega
      have hkd : decide (((10 : Nat) : Int) < 10) = false := by decide
      rw [orK_ten] at bM
      have BM := Lib.hid bM
      have BR := Lib.hid bR
      have HB := Lib.hid hB
      clear bM bO bR hB
      rw [HH.out] at BM
      have hBM : wr.heap[w.heap.size]? = some (.cells (mkV h) 94 (0, 0)) := BM.out
      have hIM : (Try.prog.info? 94).map (·.size) = some (mkV h).size := infoMk
      have hST := run_storeAt_row wr (w.heap.size + 1 + 1) 94 94 (mkV fun _ => false) (mkV h) BR.out infoMk rfl (mkV_one _)
      go_wp2_with (first
        | (with_reducible refine wpList_load_row (o := ⟨_, .load 94 _, _, _, _, _⟩) rfl 94 _ rfl w.heap.size rfl 94 (mkV h) (0, 0) _ hBM Try.underlying94 rfl hIM ?_)
        | (with_reducible refine wpList_store_st (o := ⟨none, .store 94 _ _, _, _, _, _⟩) rfl 94 _ _ rfl (w.heap.size + 1 + 1) rfl rfl hST ?_))
      exact bodyPost_ret (v := .agg (mkV h)) (results_cell_row rfl _ _ (w.heap.size + 1 + 1) 94 (mkV h) (0, 0) _ rfl (Blk.setRow BR.out) Try.underlying94 rfl infoMk) rfl ⟨rfl, below_row HB.out (by omega) _⟩
theorem with_calls (f g : Nat → Bool) (w : World) : Calls Try.prog 62 #[.agg (mkV f), .agg (mkV g)] w fun e w' => e = .returned (.agg (mkV fun n => f n || g n)) ∧ Below w.heap.size w w' := with_core f g _ rfl w
/-- The numbers of what is marked. -/
def nmL (f : Nat → Bool) (k : Nat) : List Int := ((List.range k).filter f).map fun n : Nat => (n : Int)
theorem nmL_step (f : Nat → Bool) (k : Nat) : nmL f (k + 1) = nmL f k ++ (if f k = true then [(k : Int)] else []) := by
  unfold nmL
  rw [List.range_succ, List.filter_append, List.map_append]
  congr 1
  cases h : f k with
  | true => rw [List.filter_cons_of_pos h]; rfl
  | false => rw [List.filter_cons_of_neg (by rw [h]; exact Bool.false_ne_true)]; rfl
theorem nmL_len (f : Nat → Bool) (k : Nat) : (nmL f k).length ≤ k := by
  unfold nmL
  rw [List.length_map]
  refine Nat.le_trans (List.length_filter_le _ _) ?_
  simp
set_option maxRecDepth 100000 in
set_option maxHeartbeats 8000000 in
theorem numbers_calls (f : Nat → Bool) (w : World) : Calls Try.prog 59 #[.agg (mkV f)] w fun e w' => ∃ b q, e = .returned (.slice b (nmL f 10).length q) ∧ IntsB w.heap.size (nmL f 10) b w' ∧ Below w.heap.size w w' := by
  have hB : Below w.heap.size w (w.alloc (.cells (mkV f) 94)) := by go_grown
  have hB1 := Below.refl (w.heap.size + 1) (w.alloc (.cells (mkV f) 94))
  have hz : (w.alloc (.cells (mkV f) 94)).heap.size = w.heap.size + 1 := World.size_alloc ..
  have bM := Blk.new w (mkV f) 94
  obtain ⟨i0, hinf, hza, hzb, hzc⟩ := info_parts infoIntO
  go_enter Try.func59, Try.ntmps59
  go_upto_region 1 with fail
  generalize w.alloc (.cells (mkV f) 94) = w1 at *
  go_upto_region 3 with fail
  have HCE := Lib.hid (fun W (hW : Below (w.heap.size + 1) w1 W) => bM.below hW (Nat.lt_succ_self _))
  have HBW := Lib.hid hB
  have HZ := Lib.hid hz
  clear hB hz bM
  go_loopw [3, 5] (fun vl vi wr => ∃ j : Nat, j ≤ 10 ∧ vi = .int .i64 j ∧ wr.ownsRow (w.heap.size + 1) 3 1 vl (nmL f j).length (iV (nmL f j)) ∧ Below (w.heap.size + 1) w1 wr) (fun _ vi _ => 10 - (intOf vi).toNat)
  case atStart => exact ⟨0, by omega, rfl, World.ownsRow_nil _ _ _ _, hB1⟩
  case round =>
    clear hB1
    obtain ⟨j, hj, rfl, hown, hB⟩ := hrel
    have HOW := Lib.hid hown
    have HB := Lib.hid hB
    have hpl := nmL_len f j
    clear hown hB
    by_cases hj2 : j < 10
    · have hjd : decide ((j : Int) < 10) = true := by rw [decide_eq_true_iff]; omega
      have hkd2 : decide (j < 10) = true := decide_eq_true hj2
      have hst := nmL_step f j
      have xj : IntKind.i64.wrap ((j : Int) + 1) = (j : Int) + 1 := IntWalk.i64_in _ (by omega)
      have cM := ((HCE.out _ HB.out).cell j).trans (mkV_get _ j hj2)
      cases hf : f j with
      | false =>
        rw [hf] at cM hst
        rw [if_neg Bool.false_ne_true, List.append_nil] at hst
        have HST := Lib.hid hst
        clear hst hf
        go_wp2_with fail
        go_roundw
        case rel => exact ⟨j + 1, by omega, by simp, by rw [HST.out]; exact HOW.out, HB.out⟩
        case measure => simp [intOf]; omega
      | true =>
        rw [hf] at cM hst
        rw [if_pos rfl] at hst
        have HST := Lib.hid hst
        clear hst hf
        have hws : w.heap.size + 1 ≤ wr.heap.size := by have := HB.out.size; have := HZ.out; omega
        have BWA : Below (w.heap.size + 1) w1 (wr.alloc (.cells #[.int .i64 (j : Int)] 3)) := HB.out.alloc hws _
        go_wp2_with (at_builtin; refine wpList_append_own _ rfl _ _ 35 rfl (w.heap.size + 1) 3 i0 (.int .i64 0) 1 8 Try.underlying35 hinf hza hzb hzc rfl (by decide) _ (nmL f j).length (iV (nmL f j)) rfl (HOW.out.alloc _) ⟨wr.heap.size, 0, none⟩ 1 1 [.int .i64 (j : Int)] rfl rfl (Blk.new wr _ _).newsL (by simp [Value.oneCell']) (by unfold maxLen; omega) (by omega) (by have := BWA.size; simp; omega) ?_; intro v2 w3 hown2 hgrow2 _)
        have hown3 : w3.ownsRow (w.heap.size + 1) 3 1 v2 (nmL f (j + 1)).length (iV (nmL f (j + 1))) := by
          rw [HST.out, List.length_append]
          have e : iV (nmL f j ++ [(j : Int)]) = iV (nmL f j) ++ [.int .i64 (j : Int)] := by simp [iV]
          rw [e]
          exact hown2
        have HO3 := Lib.hid hown3
        have HB3 := Lib.hid (BWA.grown hgrow2 (by simp; omega) (fun b hb => (HOW.out.lt b hb).1))
        clear hown2 hown3 hgrow2 BWA hws
        go_wp2_with fail
        go_roundw
        case rel => exact ⟨j + 1, by omega, by simp, HO3.out, HB3.out⟩
        case measure => simp [intOf]; omega
    · obtain rfl : j = 10 := by omega
      have hjd : decide (((10 : Nat) : Int) < 10) = false := by decide
      obtain ⟨b, q, rfl, hI⟩ := ints_of_own HOW.out
      have HI := Lib.hid (show IntsB w.heap.size (nmL f 10) b wr from fun hne => by
        obtain ⟨g, o, e, h0, h1, h2⟩ := hI hne
        exact ⟨g, o, e, by omega, h1, h2⟩)
      clear hI HOW
      go_wp2_with fail
      go_ret
      exact ⟨b, q, rfl, HI.out, HBW.out.trans (HB.out.mono (by omega))⟩
end Go.Proofs.Ytooolhekihijlaa

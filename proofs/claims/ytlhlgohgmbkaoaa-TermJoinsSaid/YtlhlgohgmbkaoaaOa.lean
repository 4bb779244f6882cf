/- The developers' terms: named, parts. Stage 10. -/
import Derived.Test.YtlhlgohgmbkaoaaIv
import Derived.Test.YtlhlgohgmbkaoaaAs
import Derived.Test.YtlhlgohgmbkaoaaEs
import Derived.Test.YtlhlgohgmbkaoaaRs
import Derived.Outline
import Derived.Deep.DeepCutAuto
import Derived.Laws.AppendOwn
import Derived.BigQuiet
namespace Go.Proofs.Ytlhlgohgmbkaoaa
open Go.RowKit BS

/-- No number and no set but those that the kind names. -/
def namB (k m : Int) (t : BitVec 256) : Bool := ((k == 2) || decide (t = 0)) && (if k = 7 then decide (1 ≤ m) && decide (m ≤ 9) else m == 0)
set_option maxRecDepth 100000 in
set_option maxHeartbeats 4000000 in
theorem named_calls (k c n m : Int) (t : BitVec 256) (w : World) : Calls Try.prog 25 #[.agg (ndI k c n m t)] w fun e w' => e = .returned (.bool (namB k m t)) ∧ Below w.heap.size w w' := by
  have hB : Below w.heap.size w (w.alloc (.cells (ndI k c n m t) 35)) := by go_grown
  have b0 := Blk.new w (ndI k c n m t) 35
  have hee0 : ∀ w', (Op.equalIn 10000 33 (setV t) (.agg #[.int .u64 0, .int .u64 0, .int .u64 0, .int .u64 0])).run Try.prog w' = .ok (decide (t = 0)) w' := eq_set t 0
  have hR : ∃ R, namB k m t = R := ⟨_, rfl⟩
  obtain ⟨R, hR⟩ := hR
  rw [hR]
  unfold namB at hR
  generalize decide (t = 0) = r at *
  have HR := Lib.hid hR
  clear hR
  go_enter Try.func25, Try.ntmps25
  go_upto_region 1 with fail
  generalize w.alloc (.cells (ndI k c n m t) 35) = w1 at *
  have c0 := b0.cell 0; have c3 := b0.cell 3; have c4 := b0.cell 4; have c5 := b0.cell 5; have c6 := b0.cell 6; have c7 := b0.cell 7
  simp only [List.getElem?_toArray, List.getElem?_cons_zero, List.getElem?_cons_succ] at c0 c3 c4 c5 c6 c7
  clear b0
  by_cases h2 : k = 2
  · subst h2
    have HR2 := Lib.hid (show (m == 0) = R from by rw [← HR.out]; rfl)
    clear HR hee0
    go_wp2_with fail
    go_ret
    exact ⟨by rw [← HR2.out] <;> rfl, hB⟩
  · have q2 : (k == 2) = false := by rw [beq_eq_false_iff_ne]; exact h2
    have q2n : (k != 2) = true := by rw [bne, q2]; rfl
    rw [q2, Bool.false_or] at HR
    clear h2
    cases r with
    | false =>
      have HR2 := Lib.hid (show false = R from by rw [← HR.out]; rfl)
      clear HR
      go_wp2_with fail
      go_ret
      exact ⟨by rw [← HR2.out] <;> rfl, hB⟩
    | true =>
      rw [Bool.true_and] at HR
      by_cases h7 : k = 7
      · subst h7
        rw [if_pos rfl] at HR
        cases h1 : decide (1 ≤ m) with
        | false =>
          rw [h1, Bool.false_and] at HR
          go_wp2_with fail
          go_ret
          exact ⟨by rw [← HR.out] <;> rfl, hB⟩
        | true =>
          rw [h1, Bool.true_and] at HR
          go_wp2_with fail
          go_ret
          exact ⟨by rw [← HR.out] <;> rfl, hB⟩
      · rw [if_neg h7] at HR
        have q7 : (k == 7) = false := by rw [beq_eq_false_iff_ne]; exact h7
        clear h7
        go_wp2_with fail
        go_ret
        exact ⟨by rw [← HR.out] <;> rfl, hB⟩

/-- The parts that two numbers tell. -/
def pK (c n : Int) : Nat → List Int
  | 0 => []
  | 1 => if c = -1 then [] else [c]
  | _ => (if c = -1 then [] else [c]) ++ (if n = -1 then [] else [n])
def iV (L : List Int) : List Value := L.map (Value.int .i64)
theorem iV_len (L : List Int) : (iV L).length = L.length := by simp [iV]
theorem ints_of_own {base : Nat} {v : Value} {L : List Int} {W : World} (h : W.ownsRow base 3 1 v L.length (iV L)) : ∃ b c, v = .slice b L.length c ∧ IntsB base L b W := by
  rcases h.2 with ⟨hv, h0⟩ | ⟨g, cap, cur, hv, hb, hg, _⟩
  · have hL : L = [] := List.length_eq_zero_iff.1 h0
    subst hL
    exact ⟨none, 0, hv, fun hne => absurd rfl hne⟩
  · subst hv
    refine ⟨some ⟨g, 0, none⟩, cap, rfl, fun _ => ⟨g, 0, rfl, hb, (Array.getElem?_eq_some_iff.1 hg).1, fun i hi => ?_⟩⟩
    rw [Nat.zero_add, World.ownsRow.cellAt h i (by omega)]
    simp [iV, hi]
theorem infoIntO : (Try.prog.info? 3).map (fun i => (i.zero, i.size, i.bytes)) = some (some (.int .i64 0), 1, 8) := by kernel_rfl
theorem pK_len (c n : Int) (j : Nat) : (pK c n j).length ≤ 2 := by
  unfold pK
  split
  · simp
  · split <;> simp
  · split <;> split <;> simp
theorem pK_step (c n : Int) (j : Nat) (h : j < 2) : pK c n (j + 1) = pK c n j ++ (if (if j = 0 then c else n) = -1 then [] else [if j = 0 then c else n]) := by
  obtain rfl | rfl : j = 0 ∨ j = 1 := by omega
  · rfl
  · rfl
set_option maxRecDepth 100000 in
set_option maxHeartbeats 8000000 in
theorem parts_calls (k c n m : Int) (t : BitVec 256) (w : World) : Calls Try.prog 23 #[.agg (ndI k c n m t)] w fun e w' => ∃ b q, e = .returned (.slice b (pK c n 2).length q) ∧ IntsB w.heap.size (pK c n 2) b w' ∧ Below w.heap.size w w' := by
  have hB : Below w.heap.size w (w.alloc (.cells (ndI k c n m t) 35)) := by go_grown
  have b0 := Blk.new w (ndI k c n m t) 35
  have hz : w.heap.size ≤ (w.alloc (.cells (ndI k c n m t) 35)).heap.size := by simp
  obtain ⟨i0, hinf, hza, hzb, hzc⟩ := info_parts infoIntO
  go_enter Try.func23, Try.ntmps23
  go_upto_region 1 with fail
  generalize w.alloc (.cells (ndI k c n m t) 35) = w1 at *
  have c1 := b0.cell 1; have c2 := b0.cell 2
  simp only [List.getElem?_toArray, List.getElem?_cons_zero, List.getElem?_cons_succ] at c1 c2
  clear b0
  go_upto_region 3 with fail
  clear c1 c2
  have hx : ∀ (j : Nat), j < 2 → ∀ w', (Instr.index 50 (.agg #[.int .i64 c, .int .i64 n]) (.int .i64 (j : Int))).run Try.prog w' = .ok (.int .i64 (if j = 0 then c else n)) w' := fun j hj w' => by
    obtain rfl | rfl : j = 0 ∨ j = 1 := by omega
    · kernel_rfl
    · kernel_rfl
  go_loopw [3, 11] (fun vl vi wr => ∃ j : Nat, j ≤ 2 ∧ vi = .int .i64 j ∧ wr.ownsRow w.heap.size 3 1 vl (pK c n j).length (iV (pK c n j)) ∧ Below w.heap.size w wr) (fun _ vi _ => 2 - (intOf vi).toNat)
  case atStart => exact ⟨0, by omega, rfl, World.ownsRow_nil _ _ _ _, hB⟩
  case round =>
    clear hB hz
    obtain ⟨j, hj, rfl, hown, hB⟩ := hrel
    have HOW := Lib.hid hown
    have HB := Lib.hid hB
    have hpl := pK_len c n j
    clear hown hB
    by_cases hj2 : j < 2
    · have hjd : decide ((j : Int) < 2) = true := by rw [decide_eq_true_iff]; omega
      have hxx := hx j hj2
      have hst := pK_step c n j hj2
      have xj : IntKind.i64.wrap ((j : Int) + 1) = (j : Int) + 1 := IntWalk.i64_in _ (by omega)
      generalize (if j = 0 then c else n) = y at *
      clear hx
      by_cases hy : y = -1
      · have qy : (y == -1) = true := by rw [hy]; rfl
        rw [if_pos hy, List.append_nil] at hst
        have HST := Lib.hid hst
        clear hst hy
        go_wp2_with fail
        go_roundw
        case rel => exact ⟨j + 1, by omega, by simp, by rw [HST.out]; exact HOW.out, HB.out⟩
        case measure => simp [intOf]; omega
      · have qy : (y == -1) = false := by rw [beq_eq_false_iff_ne]; exact hy
        rw [if_neg hy] at hst
        have HST := Lib.hid hst
        clear hst hy
        have BWA : Below w.heap.size w (wr.alloc (.cells #[.int .i64 y] 3)) := HB.out.alloc HB.out.size _
        go_wp2_with (at_builtin; refine wpList_append_own _ rfl _ _ 26 rfl w.heap.size 3 i0 (.int .i64 0) 1 8 Try.underlying26 hinf hza hzb hzc rfl (by decide) _ (pK c n j).length (iV (pK c n j)) rfl (HOW.out.alloc _) ⟨wr.heap.size, 0, none⟩ 1 1 [.int .i64 y] rfl rfl (Blk.new wr _ _).newsL (by simp [Value.oneCell']) (by unfold maxLen; omega) (by omega) (by have := BWA.size; exact this) ?_; intro v2 w3 hown2 hgrow2 _)
        have hown3 : w3.ownsRow w.heap.size 3 1 v2 (pK c n (j + 1)).length (iV (pK c n (j + 1))) := by
          rw [HST.out, List.length_append]
          have e : iV (pK c n j ++ [y]) = iV (pK c n j) ++ [.int .i64 y] := by simp [iV]
          rw [e]
          exact hown2
        have HO3 := Lib.hid hown3
        have HB3 := Lib.hid (BWA.grown hgrow2 BWA.size (fun b hb => (HOW.out.lt b hb).1))
        clear hown2 hown3 hgrow2 BWA
        go_wp2_with fail
        go_roundw
        case rel => exact ⟨j + 1, by omega, by simp, HO3.out, HB3.out⟩
        case measure => simp [intOf]; omega
    · obtain rfl : j = 2 := by omega
      have hjd : decide (((2 : Nat) : Int) < 2) = false := by decide
      obtain ⟨b, q, rfl, hI⟩ := ints_of_own HOW.out
      have HI := Lib.hid hI
      clear hI HOW hx
      go_wp2_with fail
      go_ret
      exact ⟨b, q, rfl, HI.out, HB.out⟩
end Go.Proofs.Ytlhlgohgmbkaoaa

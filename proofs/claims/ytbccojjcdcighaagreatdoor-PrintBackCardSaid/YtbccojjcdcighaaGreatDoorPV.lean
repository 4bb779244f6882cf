/- Texts put together: Ci Md. -/
import Derived.Test.YtbccojjcdcighaaGreatDoorPR
import Derived.Deep.DeepCutAuto
import Derived.Lib.Hide
import Derived.Test.YtbccojjcdcighaaGreatDoorPS
import Derived.Test.YtbccojjcdcighaaGreatDoorPL
import Derived.Test.YtbccojjcdcighaaGreatDoorPO
import Derived.Test.YtbccojjcdcighaaGreatDoorPG
namespace Go.Proofs.YtbccojjcdcighaaGreatDoor
open Go.RowKit Go.Shelf BS
end Go.Proofs.YtbccojjcdcighaaGreatDoor

namespace Go.Proofs.YtbccojjcdcighaaGreatDoor
open Go.RowKit
theorem rightN_true (n m : Int) (h : rightN n m = true) : 0 ≤ n ∧ n ≤ 99 ∧ (m = -1 ∨ (n ≤ m ∧ m ≤ 99)) := by
  unfold rightN at h
  simp only [Bool.and_eq_true, Bool.or_eq_true, decide_eq_true_eq, beq_iff_eq] at h
  omega
theorem digL_le (n : Nat) : (digL n).length ≤ 2 := by unfold digL; split <;> simp
set_option maxRecDepth 100000 in
set_option maxHeartbeats 8000000 in
theorem bText_calls (n m : Int) (w : World) : Calls Tryz.prog 59 #[.int .i64 n, .int .i64 m] w fun e w' => e = .returned (.string (ofT (textN n m))) ∧ Below w.heap.size w w' := by
  have hS := Blk.new w (spI n m) 121
  have hB : Below w.heap.size w (w.alloc (.cells (spI n m) 121)) := by go_grown
  have hz : w.heap.size + 1 ≤ (w.alloc (.cells (spI n m) 121)).heap.size := by simp
  have HSG := Lib.hid signs_calls
  have hg : textN n m = textN n m := rfl
  conv at hg => rhs; unfold textN
  have hRI := right_calls n m
  cases hr : rightN n m with
  | false =>
    rw [hr, if_pos rfl] at hg
    rw [hr] at hRI
    rw [hg]
    have HRI := Lib.hid hRI
    clear hg hr hRI
    go_enter Tryz.func59, Tryz.ntmps59
    go_wp2_with fail
    refine (HRI.out _).mono ?_
    rintro e w2 ⟨rfl, hb⟩
    have hB2 := hB.trans (hb.mono (Nat.le_of_succ_le hz))
    clear hB hb hS hz HRI HSG
    go_wp2_with fail
    go_ret
    exact ⟨rfl, hB2⟩
  | true =>
    rw [hr, if_neg (by decide)] at hg
    rw [hr] at hRI
    have HRI := Lib.hid hRI
    obtain ⟨r0, r1, r2⟩ := rightN_true n m hr
    generalize textN n m = Y at *
    have HG := Lib.hid hg
    clear hg hr hRI
    go_enter Tryz.func59, Tryz.ntmps59
    go_wp2_with fail
    refine (HRI.out _).mono ?_
    rintro e w2 ⟨rfl, hb⟩
    have hS2 := hS.below hb hS.lt
    have hB2 := hB.trans (hb.mono (Nat.le_of_succ_le hz))
    have hz2 := Nat.le_trans hz hb.size
    clear hB hb hS hz HRI
    go_wp2_with fail
    refine (HSG.out _).mono ?_
    rintro e w3 ⟨rfl, hb⟩
    have hS3 := hS2.below hb hS2.lt
    have hB3 := hB2.trans (hb.mono (Nat.le_of_succ_le hz2))
    have hz3 := Nat.le_trans hz2 hb.size
    clear hB2 hb hS2 hz2 HSG
    go_wp2_with fail
    go_loopw [15] (fun x wr => ∃ k : Nat, k ≤ 3 ∧ x = .int .i64 k ∧ (1 ≤ k → ¬ (n = 0 ∧ m = -1)) ∧ (2 ≤ k → ¬ (n = 1 ∧ m = -1)) ∧ (3 ≤ k → ¬ (n = 0 ∧ m = 1)) ∧ Blk wr w.heap.size (spI n m) 121 ∧ Below w.heap.size w wr ∧ w.heap.size + 1 ≤ wr.heap.size) (fun x _ => 3 - (intOf x).toNat)
    case atStart => exact ⟨0, by omega, rfl, fun h => by omega, fun h => by omega, fun h => by omega, hS3, hB3, hz3⟩
    case round =>
      clear hS3 hB3 hz3
      obtain ⟨k, hk, rfl, k1, k2, k3, hS, hB, hz⟩ := hrel
      rcases (by omega : k = 0 ∨ k = 1 ∨ k = 2 ∨ k = 3) with rfl | rfl | rfl | rfl
      · have hX := Blk.new wr #[.int .u8 42, .int .i64 0, .int .i64 (-1)] 124
        have hS2 := hS.alloc (.cells #[.int .u8 42, .int .i64 0, .int .i64 (-1)] 124)
        have hB2 := hB.alloc (by omega) (.cells #[.int .u8 42, .int .i64 0, .int .i64 (-1)] 124)
        have hz2 : w.heap.size + 1 ≤ (wr.alloc (.cells #[.int .u8 42, .int .i64 0, .int .i64 (-1)] 124)).heap.size := by simp; omega
        clear hS hB
        have hix : ∀ w', (Instr.index 125 (.agg sgI) (.int .i64 0)).run Tryz.prog w' = .ok (.agg #[.int .u8 42, .int .i64 0, .int .i64 (-1)]) w' := fun w' => by kernel_rfl
        go_upto_region 7 with fail
        clear hix
        generalize wr.alloc (.cells #[.int .u8 42, .int .i64 0, .int .i64 (-1)] 124) = w5 at *
        generalize wr.heap.size = B at *
        have c0 := hX.cell 0; have c1 := hX.cell 1; have c2 := hX.cell 2; have d0 := hS2.cell 0; have d1 := hS2.cell 1
        simp only [List.getElem?_toArray, List.getElem?_cons_zero, List.getElem?_cons_succ] at c0 c1 c2 d0 d1
        by_cases hnm : n = 0 ∧ m = -1
        · obtain ⟨rfl, rfl⟩ := hnm
          obtain rfl : Y = [42] := by rw [HG.out, if_pos ⟨rfl, rfl⟩]
          have hcv : (convert 70 9 (.slice (some ⟨w5.heap.size, 0, none⟩) 1 1)).run Tryz.prog (w5.alloc (.cells #[.int .u8 42] 5)) = .ok (.string (ofT [42])) (w5.alloc (.cells #[.int .u8 42] 5)) := cv1 w5 5 42
          clear HG k1 k2 k3
          go_wp2_with fail
          go_ret
          exact ⟨rfl, hB2.alloc (Nat.le_of_succ_le hz2) _⟩
        have HN := Lib.hid hnm
        clear hnm c0 hX
        by_cases hn : n = 0
        · subst hn
          have hm : ¬ m = -1 := fun h => HN.out ⟨rfl, h⟩
          have qm : ((-1 : Int) == m) = false := by rw [beq_eq_false_iff_ne]; exact fun h => hm h.symm
          have qm2 : ¬ (-1 : Int) = m := fun h => hm h.symm
          clear hm
          go_wp2_with fail
          go_roundw
          case rel => exact ⟨1, by omega, rfl, fun _ => by first | exact HN.out | exact k1 (by omega) | exact fun h => k1 (by omega) ⟨rfl, h.2⟩, fun h => by first | omega | exact HN.out | exact k2 (by omega), fun h => by first | omega | exact HN.out, hS2, hB2, hz2⟩
          case measure => simp [intOf]
        · have qn : ((0 : Int) == n) = false := by rw [beq_eq_false_iff_ne]; exact fun h => hn h.symm
          have qn2 : ¬ (0 : Int) = n := fun h => hn h.symm
          clear hn
          go_wp2_with fail
          go_roundw
          case rel => exact ⟨1, by omega, rfl, fun _ => by first | exact HN.out | exact k1 (by omega) | exact fun h => k1 (by omega) ⟨rfl, h.2⟩, fun h => by first | omega | exact HN.out | exact k2 (by omega), fun h => by first | omega | exact HN.out, hS2, hB2, hz2⟩
          case measure => simp [intOf]
      · have hX := Blk.new wr #[.int .u8 43, .int .i64 1, .int .i64 (-1)] 124
        have hS2 := hS.alloc (.cells #[.int .u8 43, .int .i64 1, .int .i64 (-1)] 124)
        have hB2 := hB.alloc (by omega) (.cells #[.int .u8 43, .int .i64 1, .int .i64 (-1)] 124)
        have hz2 : w.heap.size + 1 ≤ (wr.alloc (.cells #[.int .u8 43, .int .i64 1, .int .i64 (-1)] 124)).heap.size := by simp; omega
        clear hS hB
        have hix : ∀ w', (Instr.index 125 (.agg sgI) (.int .i64 1)).run Tryz.prog w' = .ok (.agg #[.int .u8 43, .int .i64 1, .int .i64 (-1)]) w' := fun w' => by kernel_rfl
        go_upto_region 7 with fail
        clear hix
        generalize wr.alloc (.cells #[.int .u8 43, .int .i64 1, .int .i64 (-1)] 124) = w5 at *
        generalize wr.heap.size = B at *
        have c0 := hX.cell 0; have c1 := hX.cell 1; have c2 := hX.cell 2; have d0 := hS2.cell 0; have d1 := hS2.cell 1
        simp only [List.getElem?_toArray, List.getElem?_cons_zero, List.getElem?_cons_succ] at c0 c1 c2 d0 d1
        by_cases hnm : n = 1 ∧ m = -1
        · obtain ⟨rfl, rfl⟩ := hnm
          obtain rfl : Y = [43] := by rw [HG.out, if_neg (fun h => absurd h.1 (by decide)), if_pos ⟨rfl, rfl⟩]
          have hcv : (convert 70 9 (.slice (some ⟨w5.heap.size, 0, none⟩) 1 1)).run Tryz.prog (w5.alloc (.cells #[.int .u8 43] 5)) = .ok (.string (ofT [43])) (w5.alloc (.cells #[.int .u8 43] 5)) := cv1 w5 5 43
          clear HG k1 k2 k3
          go_wp2_with fail
          go_ret
          exact ⟨rfl, hB2.alloc (Nat.le_of_succ_le hz2) _⟩
        have HN := Lib.hid hnm
        clear hnm c0 hX
        by_cases hn : n = 1
        · subst hn
          have hm : ¬ m = -1 := fun h => HN.out ⟨rfl, h⟩
          have qm : ((-1 : Int) == m) = false := by rw [beq_eq_false_iff_ne]; exact fun h => hm h.symm
          have qm2 : ¬ (-1 : Int) = m := fun h => hm h.symm
          clear hm
          go_wp2_with fail
          go_roundw
          case rel => exact ⟨2, by omega, rfl, fun _ => by first | exact HN.out | exact k1 (by omega) | exact fun h => k1 (by omega) ⟨rfl, h.2⟩, fun h => by first | omega | exact HN.out | exact k2 (by omega), fun h => by first | omega | exact HN.out, hS2, hB2, hz2⟩
          case measure => simp [intOf]
        · have qn : ((1 : Int) == n) = false := by rw [beq_eq_false_iff_ne]; exact fun h => hn h.symm
          have qn2 : ¬ (1 : Int) = n := fun h => hn h.symm
          clear hn
          go_wp2_with fail
          go_roundw
          case rel => exact ⟨2, by omega, rfl, fun _ => by first | exact HN.out | exact k1 (by omega) | exact fun h => k1 (by omega) ⟨rfl, h.2⟩, fun h => by first | omega | exact HN.out | exact k2 (by omega), fun h => by first | omega | exact HN.out, hS2, hB2, hz2⟩
          case measure => simp [intOf]
      · have hX := Blk.new wr #[.int .u8 63, .int .i64 0, .int .i64 (1)] 124
        have hS2 := hS.alloc (.cells #[.int .u8 63, .int .i64 0, .int .i64 (1)] 124)
        have hB2 := hB.alloc (by omega) (.cells #[.int .u8 63, .int .i64 0, .int .i64 (1)] 124)
        have hz2 : w.heap.size + 1 ≤ (wr.alloc (.cells #[.int .u8 63, .int .i64 0, .int .i64 (1)] 124)).heap.size := by simp; omega
        clear hS hB
        have hix : ∀ w', (Instr.index 125 (.agg sgI) (.int .i64 2)).run Tryz.prog w' = .ok (.agg #[.int .u8 63, .int .i64 0, .int .i64 (1)]) w' := fun w' => by kernel_rfl
        go_upto_region 7 with fail
        clear hix
        generalize wr.alloc (.cells #[.int .u8 63, .int .i64 0, .int .i64 (1)] 124) = w5 at *
        generalize wr.heap.size = B at *
        have c0 := hX.cell 0; have c1 := hX.cell 1; have c2 := hX.cell 2; have d0 := hS2.cell 0; have d1 := hS2.cell 1
        simp only [List.getElem?_toArray, List.getElem?_cons_zero, List.getElem?_cons_succ] at c0 c1 c2 d0 d1
        by_cases hnm : n = 0 ∧ m = 1
        · obtain ⟨rfl, rfl⟩ := hnm
          obtain rfl : Y = [63] := by rw [HG.out, if_neg (fun h => absurd h.2 (by decide)), if_neg (fun h => absurd h.1 (by decide)), if_pos ⟨rfl, rfl⟩]
          have hcv : (convert 70 9 (.slice (some ⟨w5.heap.size, 0, none⟩) 1 1)).run Tryz.prog (w5.alloc (.cells #[.int .u8 63] 5)) = .ok (.string (ofT [63])) (w5.alloc (.cells #[.int .u8 63] 5)) := cv1 w5 5 63
          clear HG k1 k2 k3
          go_wp2_with fail
          go_ret
          exact ⟨rfl, hB2.alloc (Nat.le_of_succ_le hz2) _⟩
        have HN := Lib.hid hnm
        clear hnm c0 hX
        by_cases hn : n = 0
        · subst hn
          have hm : ¬ m = 1 := fun h => HN.out ⟨rfl, h⟩
          have qm : ((1 : Int) == m) = false := by rw [beq_eq_false_iff_ne]; exact fun h => hm h.symm
          have qm2 : ¬ (1 : Int) = m := fun h => hm h.symm
          clear hm
          go_wp2_with fail
          go_roundw
          case rel => exact ⟨3, by omega, rfl, fun _ => by first | exact HN.out | exact k1 (by omega) | exact fun h => k1 (by omega) ⟨rfl, h.2⟩, fun h => by first | omega | exact HN.out | exact k2 (by omega), fun h => by first | omega | exact HN.out, hS2, hB2, hz2⟩
          case measure => simp [intOf]
        · have qn : ((0 : Int) == n) = false := by rw [beq_eq_false_iff_ne]; exact fun h => hn h.symm
          have qn2 : ¬ (0 : Int) = n := fun h => hn h.symm
          clear hn
          go_wp2_with fail
          go_roundw
          case rel => exact ⟨3, by omega, rfl, fun _ => by first | exact HN.out | exact k1 (by omega) | exact fun h => k1 (by omega) ⟨rfl, h.2⟩, fun h => by first | omega | exact HN.out | exact k2 (by omega), fun h => by first | omega | exact HN.out, hS2, hB2, hz2⟩
          case measure => simp [intOf]
      · obtain ⟨N, rfl⟩ : ∃ N : Nat, n = N := ⟨n.toNat, by omega⟩
        have hg := HG.out
        rw [if_neg (k1 (by omega)), if_neg (k2 (by omega)), if_neg (k3 (by omega)), show (N : Int).toNat = N from rfl] at hg
        have HI := Lib.hid (itoa_calls N (by omega))
        have hl := digL_le N
        clear HG k1 k2 k3 hS hz
        by_cases h1 : (N : Int) = m
        · subst h1
          rw [if_pos rfl] at hg
          have a1 := addT [123] (digL N) (by simp; omega)
          have a2 := addT ([123] ++ digL N) [125] (by simp; omega)
          rw [show ofT [123] = ⟨#[123]⟩ from rfl] at a1
          rw [show ofT [125] = ⟨#[125]⟩ from rfl] at a2
          have e1 : 123 :: (digL N ++ [125]) = [123] ++ digL N ++ [125] := by simp
          have hY : ofT Y = ofT ([123] ++ digL N ++ [125]) := by rw [hg, e1]
          clear hg
          generalize ofT ([123] ++ digL N ++ [125]) = t2 at *
          generalize ofT ([123] ++ digL N) = t1 at *
          generalize ofT (digL N) = t0 at *
          have HY := Lib.hid hY
          clear hl e1 r2 hY
          go_wp2_with fail
          refine (HI.out _).mono ?_
          rintro e w' ⟨rfl, rfl⟩
          go_wp2_with fail
          go_ret
          exact ⟨by rw [HY.out] <;> rfl, hB⟩
        rw [if_neg h1] at hg
        have q1 : (m == (N : Int)) = false := by rw [beq_eq_false_iff_ne]; omega
        by_cases h2 : m = -1
        · subst h2
          rw [if_pos rfl] at hg
          have a1 := addT [123] (digL N) (by simp; omega)
          have a2 := addT ([123] ++ digL N) [44, 125] (by simp; omega)
          rw [show ofT [123] = ⟨#[123]⟩ from rfl] at a1
          rw [show ofT [44, 125] = ⟨#[44, 125]⟩ from rfl] at a2
          have e1 : 123 :: (digL N ++ [44, 125]) = [123] ++ digL N ++ [44, 125] := by simp
          have hY : ofT Y = ofT ([123] ++ digL N ++ [44, 125]) := by rw [hg, e1]
          clear hg
          generalize ofT ([123] ++ digL N ++ [44, 125]) = t2 at *
          generalize ofT ([123] ++ digL N) = t1 at *
          generalize ofT (digL N) = t0 at *
          have HY := Lib.hid hY
          clear hl e1 r2 hY
          go_wp2_with fail
          refine (HI.out _).mono ?_
          rintro e w' ⟨rfl, rfl⟩
          go_wp2_with fail
          go_ret
          exact ⟨by rw [HY.out] <;> rfl, hB⟩
        rw [if_neg h2] at hg
        have q2 : (m == -1) = false := by rw [beq_eq_false_iff_ne]; omega
        obtain ⟨M, rfl⟩ : ∃ M : Nat, m = M := ⟨m.toNat, by omega⟩
        rw [show (M : Int).toNat = M from rfl] at hg
        have HJ := Lib.hid (itoa_calls M (by omega))
        have hl2 := digL_le M
        have a1 := addT [123] (digL N) (by simp; omega)
        have a2 := addT ([123] ++ digL N) [44] (by simp; omega)
        have a3 := addT ([123] ++ digL N ++ [44]) (digL M) (by simp; omega)
        have a4 := addT ([123] ++ digL N ++ [44] ++ digL M) [125] (by simp; omega)
        rw [show ofT [123] = ⟨#[123]⟩ from rfl] at a1
        rw [show ofT [44] = ⟨#[44]⟩ from rfl] at a2
        rw [show ofT [125] = ⟨#[125]⟩ from rfl] at a4
        have e1 : 123 :: (digL N ++ (44 :: (digL M ++ [125]))) = [123] ++ digL N ++ [44] ++ digL M ++ [125] := by simp
        have hY : ofT Y = ofT ([123] ++ digL N ++ [44] ++ digL M ++ [125]) := by rw [hg, e1]
        clear hg
        generalize ofT ([123] ++ digL N ++ [44] ++ digL M ++ [125]) = t4 at *
        generalize ofT ([123] ++ digL N ++ [44] ++ digL M) = t3 at *
        generalize ofT ([123] ++ digL N ++ [44]) = t2 at *
        generalize ofT ([123] ++ digL N) = t1 at *
        generalize ofT (digL N) = t0 at *
        generalize ofT (digL M) = s0 at *
        have HY := Lib.hid hY
        clear hl hl2 e1 r2 hY
        go_wp2_with fail
        refine (HI.out _).mono ?_
        rintro e w' ⟨rfl, rfl⟩
        go_wp2_with fail
        refine (HJ.out _).mono ?_
        rintro e w' ⟨rfl, rfl⟩
        go_wp2_with fail
        go_ret
        exact ⟨by rw [HY.out] <;> rfl, hB⟩
end Go.Proofs.YtbccojjcdcighaaGreatDoor

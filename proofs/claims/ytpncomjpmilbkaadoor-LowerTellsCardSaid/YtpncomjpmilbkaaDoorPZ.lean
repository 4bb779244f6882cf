/- Texts put together: Md Yc. -/
import Derived.Test.YtpncomjpmilbkaaDoorPL
import Derived.Test.YtpncomjpmilbkaaDoorPB
import Derived.Test.YtpncomjpmilbkaaDoorPH
import Derived.Test.YtpncomjpmilbkaaDoorPS
/- The developers' counts: Text. -/
namespace Go.Proofs.YtpncomjpmilbkaaDoor
open Go.RowKit

theorem rightN_true (n m : Int) (h : rightN n m = true) : 0 ≤ n ∧ n ≤ 99 ∧ (m = -1 ∨ (n ≤ m ∧ m ≤ 99)) := by
  unfold rightN at h
  simp only [Bool.and_eq_true, Bool.or_eq_true, decide_eq_true_eq, beq_iff_eq] at h
  omega
theorem digL_le (n : Nat) : (digL n).length ≤ 2 := by unfold digL; split <;> simp

set_option maxRecDepth 100000 in
set_option maxHeartbeats 8000000 in
theorem bText_calls (n m : Int) (w : World) : Calls Tryd.prog 86 #[.int .i64 n, .int .i64 m] w fun e w' => e = .returned (.string (ofT (textN n m))) ∧ Below w.heap.size w w' := by
  have hS := Blk.new w (spI n m) 127
  have hB : Below w.heap.size w (w.alloc (.cells (spI n m) 127)) := by go_grown
  have hz : w.heap.size + 1 ≤ (w.alloc (.cells (spI n m) 127)).heap.size := by simp
  have HSG := Lib.hid signs_calls
  have hg : textN n m = textN n m := rfl
  conv at hg => rhs; unfold textN
  have hRI := right_calls n m
  cases hr : rightN n m with
  | false =>
    rw [hr, if_pos rfl] at hg
    rw [hr] at hRI
    rw [hg]
    have HRI := Lib.hid hRI
    clear hg hr hRI
    go_enter Tryd.func86, Tryd.ntmps86
    go_wp2_with fail
    refine (HRI.out _).mono ?_
    rintro e w2 ⟨rfl, hb⟩
    have hB2 := hB.trans (hb.mono (Nat.le_of_succ_le hz))
    clear hB hb hS hz HRI HSG
    go_wp2_with fail
    go_ret
    exact ⟨rfl, hB2⟩
  | true =>
    rw [hr, if_neg (by decide)] at hg
    rw [hr] at hRI
    have HRI := Lib.hid hRI
    obtain ⟨r0, r1, r2⟩ := rightN_true n m hr
    generalize textN n m = Y at *
    have HG := Lib.hid hg
    clear hg hr hRI
    go_enter Tryd.func86, Tryd.ntmps86
    go_wp2_with fail
    refine (HRI.out _).mono ?_
    rintro e w2 ⟨rfl, hb⟩
    have hS2 := hS.below hb hS.lt
    have hB2 := hB.trans (hb.mono (Nat.le_of_succ_le hz))
    have hz2 := Nat.le_trans hz hb.size
    clear hB hb hS hz HRI
    go_wp2_with fail
    refine (HSG.out _).mono ?_
    rintro e w3 ⟨rfl, hb⟩
    have hS3 := hS2.below hb hS2.lt
    have hB3 := hB2.trans (hb.mono (Nat.le_of_succ_le hz2))
    have hz3 := Nat.le_trans hz2 hb.size
    clear hB2 hb hS2 hz2 HSG
    go_wp2_with fail
    go_loopw [15] (fun x wr => ∃ k : Nat, k ≤ 3 ∧ x = .int .i64 k ∧ (1 ≤ k → ¬ (n = 0 ∧ m = -1)) ∧ (2 ≤ k → ¬ (n = 1 ∧ m = -1)) ∧ (3 ≤ k → ¬ (n = 0 ∧ m = 1)) ∧ Blk wr w.heap.size (spI n m) 127 ∧ Below w.heap.size w wr ∧ w.heap.size + 1 ≤ wr.heap.size) (fun x _ => 3 - (intOf x).toNat)
    case atStart => exact ⟨0, by omega, rfl, fun h => by omega, fun h => by omega, fun h => by omega, hS3, hB3, hz3⟩
    case round =>
      clear hS3 hB3 hz3
      obtain ⟨k, hk, rfl, k1, k2, k3, hS, hB, hz⟩ := hrel
      rcases (by omega : k = 0 ∨ k = 1 ∨ k = 2 ∨ k = 3) with rfl | rfl | rfl | rfl
      · have hX := Blk.new wr #[.int .u8 42, .int .i64 0, .int .i64 (-1)] 130
        have hS2 := hS.alloc (.cells #[.int .u8 42, .int .i64 0, .int .i64 (-1)] 130)
        have hB2 := hB.alloc (by omega) (.cells #[.int .u8 42, .int .i64 0, .int .i64 (-1)] 130)
        have hz2 : w.heap.size + 1 ≤ (wr.alloc (.cells #[.int .u8 42, .int .i64 0, .int .i64 (-1)] 130)).heap.size := by simp; omega
        clear hS hB
        have hix : ∀ w', (Instr.index 131 (.agg sgI) (.int .i64 0)).run Tryd.prog w' = .ok (.agg #[.int .u8 42, .int .i64 0, .int .i64 (-1)]) w' := fun w' => by kernel_rfl
        go_upto_region 7 with fail
        clear hix
        generalize wr.alloc (.cells #[.int .u8 42, .int .i64 0, .int .i64 (-1)] 130) = w5 at *
        generalize wr.heap.size = B at *
        have c0 := hX.cell 0; have c1 := hX.cell 1; have c2 := hX.cell 2; have d0 := hS2.cell 0; have d1 := hS2.cell 1
        simp only [List.getElem?_toArray, List.getElem?_cons_zero, List.getElem?_cons_succ] at c0 c1 c2 d0 d1
        by_cases hnm : n = 0 ∧ m = -1
        · obtain ⟨rfl, rfl⟩ := hnm
          obtain rfl : Y = [42] := by rw [HG.out, if_pos ⟨rfl, rfl⟩]
          have hcv : (convert 133 9 (.slice (some ⟨w5.heap.size, 0, none⟩) 1 1)).run Tryd.prog (w5.alloc (.cells #[.int .u8 42] 5)) = .ok (.string (ofT [42])) (w5.alloc (.cells #[.int .u8 42] 5)) := cv1 w5 5 42
          clear HG k1 k2 k3
          go_wp2_with fail
          go_ret
          exact ⟨rfl, hB2.alloc (Nat.le_of_succ_le hz2) _⟩
        have HN := Lib.hid hnm
        clear hnm c0 hX
        by_cases hn : n = 0
        · subst hn
          have hm : ¬ m = -1 := fun h => HN.out ⟨rfl, h⟩
          have qm : ((-1 : Int) == m) = false := by rw [beq_eq_false_iff_ne]; exact fun h => hm h.symm
          have qm2 : ¬ (-1 : Int) = m := fun h => hm h.symm
          clear hm
          go_wp2_with fail
          go_roundw
          case rel => exact ⟨1, by omega, rfl, fun _ => by first | exact HN.out | exact k1 (by omega) | exact fun h => k1 (by omega) ⟨rfl, h.2⟩, fun h => by first | omega | exact HN.out | exact k2 (by omega), fun h => by first | omega | exact HN.out, hS2, hB2, hz2⟩
          case measure => simp [intOf]
        · have qn : ((0 : Int) == n) = false := by rw [beq_eq_false_iff_ne]; exact fun h => hn h.symm
          have qn2 : ¬ (0 : Int) = n := fun h => hn h.symm
          clear hn
          go_wp2_with fail
          go_roundw
          case rel => exact ⟨1, by omega, rfl, fun _ => by first | exact HN.out | exact k1 (by omega) | exact fun h => k1 (by omega) ⟨rfl, h.2⟩, fun h => by first | omega | exact HN.out | exact k2 (by omega), fun h => by first | omega | exact HN.out, hS2, hB2, hz2⟩
          case measure => simp [intOf]
      · have hX := Blk.new wr #[.int .u8 43, .int .i64 1, .int .i64 (-1)] 130
        have hS2 := hS.alloc (.cells #[.int .u8 43, .int .i64 1, .int .i64 (-1)] 130)
        have hB2 := hB.alloc (by omega) (.cells #[.int .u8 43, .int .i64 1, .int .i64 (-1)] 130)
        have hz2 : w.heap.size + 1 ≤ (wr.alloc (.cells #[.int .u8 43, .int .i64 1, .int .i64 (-1)] 130)).heap.size := by simp; omega
        clear hS hB
        have hix : ∀ w', (Instr.index 131 (.agg sgI) (.int .i64 1)).run Tryd.prog w' = .ok (.agg #[.int .u8 43, .int .i64 1, .int .i64 (-1)]) w' := fun w' => by kernel_rfl
        go_upto_region 7 with fail
        clear hix
        generalize wr.alloc (.cells #[.int .u8 43, .int .i64 1, .int .i64 (-1)] 130) = w5 at *
        generalize wr.heap.size = B at *
        have c0 := hX.cell 0; have c1 := hX.cell 1; have c2 := hX.cell 2; have d0 := hS2.cell 0; have d1 := hS2.cell 1
        simp only [List.getElem?_toArray, List.getElem?_cons_zero, List.getElem?_cons_succ] at c0 c1 c2 d0 d1
        by_cases hnm : n = 1 ∧ m = -1
        · obtain ⟨rfl, rfl⟩ := hnm
          obtain rfl : Y = [43] := by rw [HG.out, if_neg (fun h => absurd h.1 (by decide)), if_pos ⟨rfl, rfl⟩]
          have hcv : (convert 133 9 (.slice (some ⟨w5.heap.size, 0, none⟩) 1 1)).run Tryd.prog (w5.alloc (.cells #[.int .u8 43] 5)) = .ok (.string (ofT [43])) (w5.alloc (.cells #[.int .u8 43] 5)) := cv1 w5 5 43
          clear HG k1 k2 k3
          go_wp2_with fail
          go_ret
          exact ⟨rfl, hB2.alloc (Nat.le_of_succ_le hz2) _⟩
        have HN := Lib.hid hnm
        clear hnm c0 hX
        by_cases hn : n = 1
        · subst hn
          have hm : ¬ m = -1 := fun h => HN.out ⟨rfl, h⟩
          have qm : ((-1 : Int) == m) = false := by rw [beq_eq_false_iff_ne]; exact fun h => hm h.symm
          have qm2 : ¬ (-1 : Int) = m := fun h => hm h.symm
          clear hm
          go_wp2_with fail
          go_roundw
          case rel => exact ⟨2, by omega, rfl, fun _ => by first | exact HN.out | exact k1 (by omega) | exact fun h => k1 (by omega) ⟨rfl, h.2⟩, fun h => by first | omega | exact HN.out | exact k2 (by omega), fun h => by first | omega | exact HN.out, hS2, hB2, hz2⟩
          case measure => simp [intOf]
        · have qn : ((1 : Int) == n) = false := by rw [beq_eq_false_iff_ne]; exact fun h => hn h.symm
          have qn2 : ¬ (1 : Int) = n := fun h => hn h.symm
          clear hn
          go_wp2_with fail
          go_roundw
          case rel => exact ⟨2, by omega, rfl, fun _ => by first | exact HN.out | exact k1 (by omega) | exact fun h => k1 (by omega) ⟨rfl, h.2⟩, fun h => by first | omega | exact HN.out | exact k2 (by omega), fun h => by first | omega | exact HN.out, hS2, hB2, hz2⟩
          case measure => simp [intOf]
      · have hX := Blk.new wr #[.int .u8 63, .int .i64 0, .int .i64 (1)] 130
        have hS2 := hS.alloc (.cells #[.int .u8 63, .int .i64 0, .int .i64 (1)] 130)
        have hB2 := hB.alloc (by omega) (.cells #[.int .u8 63, .int .i64 0, .int .i64 (1)] 130)
        have hz2 : w.heap.size + 1 ≤ (wr.alloc (.cells #[.int .u8 63, .int .i64 0, .int .i64 (1)] 130)).heap.size := by simp; omega
        clear hS hB
        have hix : ∀ w', (Instr.index 131 (.agg sgI) (.int .i64 2)).run Tryd.prog w' = .ok (.agg #[.int .u8 63, .int .i64 0, .int .i64 (1)]) w' := fun w' => by kernel_rfl
        go_upto_region 7 with fail
        clear hix
        generalize wr.alloc (.cells #[.int .u8 63, .int .i64 0, .int .i64 (1)] 130) = w5 at *
        generalize wr.heap.size = B at *
        have c0 := hX.cell 0; have c1 := hX.cell 1; have c2 := hX.cell 2; have d0 := hS2.cell 0; have d1 := hS2.cell 1
        simp only [List.getElem?_toArray, List.getElem?_cons_zero, List.getElem?_cons_succ] at c0 c1 c2 d0 d1
        by_cases hnm : n = 0 ∧ m = 1
        · obtain ⟨rfl, rfl⟩ := hnm
          obtain rfl : Y = [63] := by rw [HG.out, if_neg (fun h => absurd h.2 (by decide)), if_neg (fun h => absurd h.1 (by decide)), if_pos ⟨rfl, rfl⟩]
          have hcv : (convert 133 9 (.slice (some ⟨w5.heap.size, 0, none⟩) 1 1)).run Tryd.prog (w5.alloc (.cells #[.int .u8 63] 5)) = .ok (.string (ofT [63])) (w5.alloc (.cells #[.int .u8 63] 5)) := cv1 w5 5 63
          clear HG k1 k2 k3
          go_wp2_with fail
          go_ret
          exact ⟨rfl, hB2.alloc (Nat.le_of_succ_le hz2) _⟩
        have HN := Lib.hid hnm
        clear hnm c0 hX
        by_cases hn : n = 0
        · subst hn
          have hm : ¬ m = 1 := fun h => HN.out ⟨rfl, h⟩
          have qm : ((1 : Int) == m) = false := by rw [beq_eq_false_iff_ne]; exact fun h => hm h.symm
          have qm2 : ¬ (1 : Int) = m := fun h => hm h.symm
          clear hm
          go_wp2_with fail
          go_roundw
          case rel => exact ⟨3, by omega, rfl, fun _ => by first | exact HN.out | exact k1 (by omega) | exact fun h => k1 (by omega) ⟨rfl, h.2⟩, fun h => by first | omega | exact HN.out | exact k2 (by omega), fun h => by first | omega | exact HN.out, hS2, hB2, hz2⟩
          case measure => simp [intOf]
        · have qn : ((0 : Int) == n) = false := by rw [beq_eq_false_iff_ne]; exact fun h => hn h.symm
          have qn2 : ¬ (0 : Int) = n := fun h => hn h.symm
          clear hn
          go_wp2_with fail
          go_roundw
          case rel => exact ⟨3, by omega, rfl, fun _ => by first | exact HN.out | exact k1 (by omega) | exact fun h => k1 (by omega) ⟨rfl, h.2⟩, fun h => by first | omega | exact HN.out | exact k2 (by omega), fun h => by first | omega | exact HN.out, hS2, hB2, hz2⟩
          case measure => simp [intOf]
      · obtain ⟨N, rfl⟩ : ∃ N : Nat, n = N := ⟨n.toNat, by omega⟩
        have hg := HG.out
        rw [if_neg (k1 (by omega)), if_neg (k2 (by omega)), if_neg (k3 (by omega)), show (N : Int).toNat = N from rfl] at hg
        have HI := Lib.hid (itoa_calls N (by omega))
        have hl := digL_le N
        clear HG k1 k2 k3 hS hz
        by_cases h1 : (N : Int) = m
        · subst h1
          rw [if_pos rfl] at hg
          have a1 := addT [123] (digL N) (by simp; omega)
          have a2 := addT ([123] ++ digL N) [125] (by simp; omega)
          rw [show ofT [123] = ⟨#[123]⟩ from rfl] at a1
          rw [show ofT [125] = ⟨#[125]⟩ from rfl] at a2
          have e1 : 123 :: (digL N ++ [125]) = [123] ++ digL N ++ [125] := by simp
          have hY : ofT Y = ofT ([123] ++ digL N ++ [125]) := by rw [hg, e1]
          clear hg
          generalize ofT ([123] ++ digL N ++ [125]) = t2 at *
          generalize ofT ([123] ++ digL N) = t1 at *
          generalize ofT (digL N) = t0 at *
          have HY := Lib.hid hY
          clear hl e1 r2 hY
          go_wp2_with fail
          refine (HI.out _).mono ?_
          rintro e w' ⟨rfl, rfl⟩
          go_wp2_with fail
          go_ret
          exact ⟨by rw [HY.out] <;> rfl, hB⟩
        rw [if_neg h1] at hg
        have q1 : (m == (N : Int)) = false := by rw [beq_eq_false_iff_ne]; omega
        by_cases h2 : m = -1
        · subst h2
          rw [if_pos rfl] at hg
          have a1 := addT [123] (digL N) (by simp; omega)
          have a2 := addT ([123] ++ digL N) [44, 125] (by simp; omega)
          rw [show ofT [123] = ⟨#[123]⟩ from rfl] at a1
          rw [show ofT [44, 125] = ⟨#[44, 125]⟩ from rfl] at a2
          have e1 : 123 :: (digL N ++ [44, 125]) = [123] ++ digL N ++ [44, 125] := by simp
          have hY : ofT Y = ofT ([123] ++ digL N ++ [44, 125]) := by rw [hg, e1]
          clear hg
          generalize ofT ([123] ++ digL N ++ [44, 125]) = t2 at *
          generalize ofT ([123] ++ digL N) = t1 at *
          generalize ofT (digL N) = t0 at *
          have HY := Lib.hid hY
          clear hl e1 r2 hY
          go_wp2_with fail
          refine (HI.out _).mono ?_
          rintro e w' ⟨rfl, rfl⟩
          go_wp2_with fail
          go_ret
          exact ⟨by rw [HY.out] <;> rfl, hB⟩
        rw [if_neg h2] at hg
        have q2 : (m == -1) = false := by rw [beq_eq_false_iff_ne]; omega
        obtain ⟨M, rfl⟩ : ∃ M : Nat, m = M := ⟨m.toNat, by omega⟩
        rw [show (M : Int).toNat = M from rfl] at hg
        have HJ := Lib.hid (itoa_calls M (by omega))
        have hl2 := digL_le M
        have a1 := addT [123] (digL N) (by simp; omega)
        have a2 := addT ([123] ++ digL N) [44] (by simp; omega)
        have a3 := addT ([123] ++ digL N ++ [44]) (digL M) (by simp; omega)
        have a4 := addT ([123] ++ digL N ++ [44] ++ digL M) [125] (by simp; omega)
        rw [show ofT [123] = ⟨#[123]⟩ from rfl] at a1
        rw [show ofT [44] = ⟨#[44]⟩ from rfl] at a2
        rw [show ofT [125] = ⟨#[125]⟩ from rfl] at a4
        have e1 : 123 :: (digL N ++ (44 :: (digL M ++ [125]))) = [123] ++ digL N ++ [44] ++ digL M ++ [125] := by simp
        have hY : ofT Y = ofT ([123] ++ digL N ++ [44] ++ digL M ++ [125]) := by rw [hg, e1]
        clear hg
        generalize ofT ([123] ++ digL N ++ [44] ++ digL M ++ [125]) = t4 at *
        generalize ofT ([123] ++ digL N ++ [44] ++ digL M) = t3 at *
        generalize ofT ([123] ++ digL N ++ [44]) = t2 at *
        generalize ofT ([123] ++ digL N) = t1 at *
        generalize ofT (digL N) = t0 at *
        generalize ofT (digL M) = s0 at *
        have HY := Lib.hid hY
        clear hl hl2 e1 r2 hY
        go_wp2_with fail
        refine (HI.out _).mono ?_
        rintro e w' ⟨rfl, rfl⟩
        go_wp2_with fail
        refine (HJ.out _).mono ?_
        rintro e w' ⟨rfl, rfl⟩
        go_wp2_with fail
        go_ret
        exact ⟨by rw [HY.out] <;> rfl, hB⟩
end Go.Proofs.YtpncomjpmilbkaaDoor

/- The developers' trees: right nodes, right kids; Right. -/
namespace Go.Proofs.YtpncomjpmilbkaaDoor
open Go.RowKit BS

set_option maxHeartbeats 1000000 in
theorem mayHold_calls (o k : Int) (w : World) : Calls Tryd.prog 83 #[.int .i64 o, .int .i64 k] w fun e w' => e = .returned (.bool (kidF o k)) ∧ w = w' := by
  have hg : kidF o k = kidF o k := rfl
  conv at hg => rhs; unfold kidF pieceF
  generalize kidF o k = R at *
  have HG := Lib.hid hg
  clear hg
  by_cases h3 : o = 3
  · subst h3
    go_enter Tryd.func83, Tryd.ntmps83
    go_wp2_with fail
    go_ret
    exact ⟨by rw [HG.out] <;> rfl, rfl⟩
  have q3 : (o == 3) = false := by rw [beq_eq_false_iff_ne]; omega
  by_cases h4 : o = 4 ∨ o = 5
  · have HR := Lib.hid (show R = (k == 2 || k == 3 || k == 4) by rw [HG.out, if_neg h3, if_pos h4])
    clear HG h3
    cases hk2 : (k == 2) with
    | true =>
      rw [hk2] at HR
      rcases h4 with rfl | rfl
      all_goals
        go_enter Tryd.func83, Tryd.ntmps83
        go_wp2_with fail
        go_ret
        exact ⟨by rw [HR.out] <;> rfl, rfl⟩
    | false =>
      rw [hk2] at HR
      cases hk3 : (k == 3) with
      | true =>
        rw [hk3] at HR
        rcases h4 with rfl | rfl
        all_goals
          go_enter Tryd.func83, Tryd.ntmps83
          go_wp2_with fail
          go_ret
          exact ⟨by rw [HR.out] <;> rfl, rfl⟩
      | false =>
        rw [hk3] at HR
        generalize hk : (k == 4) = z at HR
        rcases h4 with rfl | rfl
        all_goals
          go_enter Tryd.func83, Tryd.ntmps83
          go_wp2_with fail
          go_ret
          exact ⟨by rw [HR.out] <;> simp, rfl⟩
  have q4 : (o == 4) = false := by rw [beq_eq_false_iff_ne]; omega
  have q5 : (o == 5) = false := by rw [beq_eq_false_iff_ne]; omega
  by_cases h6 : o = 6
  · subst h6
    have HR := Lib.hid (show R = (k != 6) by rw [HG.out]; rfl)
    clear HG h3 h4
    go_enter Tryd.func83, Tryd.ntmps83
    go_wp2_with fail
    go_ret
    exact ⟨by rw [HR.out] <;> rfl, rfl⟩
  have q6 : (o == 6) = false := by rw [beq_eq_false_iff_ne]; omega
  have HR := Lib.hid (show R = false by rw [HG.out, if_neg h3, if_neg h4, if_neg h6])
  clear HG h3 h4 h6
  go_enter Tryd.func83, Tryd.ntmps83
  go_wp2_with fail
  go_ret
  exact ⟨by rw [HR.out] <;> rfl, rfl⟩

set_option maxRecDepth 100000 in
set_option maxHeartbeats 4000000 in
theorem noCounts_calls (k c n m : Int) (t : BitVec 256) (w : World) : Calls Tryd.prog 79 #[.agg (ndI k c n m t)] w fun e w' => e = .returned (.bool (n == 0 && m == 0)) ∧ Below w.heap.size w w' := by
  have hB : Below w.heap.size w (w.alloc (.cells (ndI k c n m t) 46)) := by go_grown
  have b0 := Blk.new w (ndI k c n m t) 46
  generalize hR : (n == 0 && m == 0) = R
  have HR := Lib.hid hR
  clear hR
  go_enter Tryd.func79, Tryd.ntmps79
  go_upto_region 1 with fail
  generalize w.alloc (.cells (ndI k c n m t) 46) = w1 at *
  have c2 := b0.cell 2; have c3 := b0.cell 3
  simp only [List.getElem?_toArray, List.getElem?_cons_zero, List.getElem?_cons_succ] at c2 c3
  clear b0
  cases hn : (n == 0) with
  | true =>
    rw [hn, Bool.true_and] at HR
    generalize hm : (m == 0) = z at *
    go_wp2_with fail
    go_ret
    exact ⟨by rw [← HR.out] <;> rfl, hB⟩
  | false =>
    rw [hn, Bool.false_and] at HR
    go_wp2_with fail
    go_ret
    exact ⟨by rw [← HR.out] <;> rfl, hB⟩
set_option maxRecDepth 100000 in
set_option maxHeartbeats 4000000 in
theorem noSet_calls (k c n m : Int) (t : BitVec 256) (w : World) : Calls Tryd.prog 80 #[.agg (ndI k c n m t)] w fun e w' => e = .returned (.bool (decide (t = 0))) ∧ Below w.heap.size w w' := by
  have hB : Below w.heap.size w (w.alloc (.cells (ndI k c n m t) 46)) := by go_grown
  have b0 := Blk.new w (ndI k c n m t) 46
  have hee0 : ∀ w', (Op.equalIn 10000 42 (setV t) (.agg #[.int .u64 0, .int .u64 0, .int .u64 0, .int .u64 0])).run Tryd.prog w' = .ok (decide (t = 0)) w' := eq_set t 0
  generalize decide (t = 0) = r at *
  go_enter Tryd.func80, Tryd.ntmps80
  go_upto_region 1 with fail
  generalize w.alloc (.cells (ndI k c n m t) 46) = w1 at *
  have c4 := b0.cell 4; have c5 := b0.cell 5; have c6 := b0.cell 6; have c7 := b0.cell 7
  simp only [List.getElem?_toArray, List.getElem?_cons_zero, List.getElem?_cons_succ] at c4 c5 c6 c7
  clear b0
  go_wp2_with fail
  go_ret
  exact ⟨rfl, hB⟩
theorem textN_nil (n m : Int) : (!(ofT (textN n m)).toList.isEmpty) = rightN n m := by
  rw [toL, List.isEmpty_map]
  unfold textN
  cases rightN n m with
  | false => rfl
  | true =>
    rw [if_neg (by decide)]
    repeat' split
    all_goals rfl
set_option maxRecDepth 100000 in
set_option maxHeartbeats 4000000 in
theorem hasCounts_calls (k c n m : Int) (t : BitVec 256) (w : World) : Calls Tryd.prog 81 #[.agg (ndI k c n m t)] w fun e w' => e = .returned (.bool (rightN n m)) ∧ Below w.heap.size w w' := by
  have hB : Below w.heap.size w (w.alloc (.cells (ndI k c n m t) 46)) := by go_grown
  have b0 := Blk.new w (ndI k c n m t) 46
  have HT := Lib.hid (bText_calls n m)
  have HL := textN_nil n m
  generalize rightN n m = R at *
  generalize textN n m = T at *
  go_enter Tryd.func81, Tryd.ntmps81
  go_upto_region 1 with fail
  generalize w.alloc (.cells (ndI k c n m t) 46) = w1 at *
  have c2 := b0.cell 2; have c3 := b0.cell 3
  simp only [List.getElem?_toArray, List.getElem?_cons_zero, List.getElem?_cons_succ] at c2 c3
  clear b0
  go_wp2_with fail
  refine (HT.out _).mono ?_
  rintro e w2 ⟨rfl, hb⟩
  have hB2 := hB.trans (hb.mono hB.size)
  clear HT hB hb
  go_wp2_with fail
  go_ret
  exact ⟨by rw [← HL] <;> rfl, hB2⟩
set_option maxRecDepth 100000 in
set_option maxHeartbeats 16000000 in
theorem aright_calls (k c n m : Int) (t : BitVec 256) (w : World) : Calls Tryd.prog 64 #[.agg (ndI k c n m t)] w fun e w' => e = .returned (.bool (nodeF ⟨k, c, n, m, t⟩)) ∧ Below w.heap.size w w' := by
  have hB : Below w.heap.size w (w.alloc (.cells (ndI k c n m t) 46)) := by go_grown
  have hb := Blk.new w (ndI k c n m t) 46
  have hz : w.heap.size < (w.alloc (.cells (ndI k c n m t) 46)).heap.size := by simp
  have HNC := Lib.hid (noCounts_calls k c n m t)
  have HNS := Lib.hid (noSet_calls k c n m t)
  have HHC := Lib.hid (hasCounts_calls k c n m t)
  have HF := Lib.hid (show nodeF ⟨k, c, n, m, t⟩ = if k ≠ 2 ∧ t ≠ 0 then false else if k ≠ 4 ∧ (n ≠ 0 ∨ m ≠ 0) then false else if k = 1 ∨ k = 2 then c == 0 else if k = 3 then c == 1 else if k = 4 then c == 1 && rightN n m else if k = 5 ∨ k = 6 then decide (2 ≤ c) else false from rfl)
  generalize nodeF ⟨k, c, n, m, t⟩ = R at *
  have HNN := Lib.hid (show (n == 0 && m == 0) = true ↔ ¬ (n ≠ 0 ∨ m ≠ 0) by simp)
  have HTT := Lib.hid (show decide (t = 0) = true ↔ ¬ (t ≠ 0) by simp)
  generalize (n == 0 && m == 0) = A at *
  generalize decide (t = 0) = B at *
  generalize rightN n m = C at *
  have HR : Hid (R = if k = 1 then (c == 0) && A && B else if k = 2 then (c == 0) && A else if k = 3 then (c == 1) && A && B else if k = 4 then (c == 1) && C && B else if k = 5 ∨ k = 6 then decide (2 ≤ c) && A && B else false) := Lib.hid (by
    have h1 := HNN.out
    have h2 := HTT.out
    rw [HF.out]
    by_cases k2 : k = 2
    · subst k2
      rw [if_neg (by simp)]
      by_cases hn : n ≠ 0 ∨ m ≠ 0
      · have hA : A = false := by cases A with | false => rfl | true => exact absurd hn (h1.1 rfl)
        rw [if_pos ⟨by decide, hn⟩, hA]; simp
      · rw [if_neg (fun h => hn h.2), h1.2 hn]; simp
    · by_cases ht : t ≠ 0
      · have hBf : B = false := by cases B with | false => rfl | true => exact absurd ht (h2.1 rfl)
        rw [if_pos ⟨k2, ht⟩, hBf]; simp [k2]
      · rw [if_neg (fun h => ht h.2), h2.2 ht]
        by_cases k4 : k = 4
        · subst k4; simp
        · by_cases hn : n ≠ 0 ∨ m ≠ 0
          · have hA : A = false := by cases A with | false => rfl | true => exact absurd hn (h1.1 rfl)
            rw [if_pos ⟨k4, hn⟩, hA]; simp [k2, k4]
          · rw [if_neg (fun h => hn h.2), h1.2 hn]; simp [k2, k4])
  clear HF HNN HTT
  go_enter Tryd.func64, Tryd.ntmps64
  go_upto_region 1 with fail
  generalize w.alloc (.cells (ndI k c n m t) 46) = w1 at *
  have HC : Hid (∀ W, Below w1.heap.size w1 W → ∀ j, j < 8 → W.cell? ⟨w.heap.size, j, none⟩ = (ndI k c n m t)[j]?) := Lib.hid fun W hW j _ => (hb.below hW hz).cell j
  have b0 := HC.out w1 (Below.refl _ _) 0 (by decide); have b1 := HC.out w1 (Below.refl _ _) 1 (by decide); have b2 := HC.out w1 (Below.refl _ _) 2 (by decide); have b3 := HC.out w1 (Below.refl _ _) 3 (by decide); have b4 := HC.out w1 (Below.refl _ _) 4 (by decide); have b5 := HC.out w1 (Below.refl _ _) 5 (by decide); have b6 := HC.out w1 (Below.refl _ _) 6 (by decide); have b7 := HC.out w1 (Below.refl _ _) 7 (by decide)
  simp only [List.getElem?_toArray, List.getElem?_cons_zero, List.getElem?_cons_succ] at b0 b1 b2 b3 b4 b5 b6 b7
  have hB0 : Below w1.heap.size w1 w1 := Below.refl _ _
  clear hb
  by_cases k1 : k = 1
  · subst k1
    replace HR : Hid (R = ((c == 0) && A && B)) := Lib.hid (by rw [HR.out]; rfl)
    cases hc : (c == 0) with
    | false =>
      rw [hc] at HR
      go_wp2_with fail
      go_ret
      exact ⟨by rw [HR.out] <;> rfl, hB.trans (hB0.mono hB.size)⟩
    | true =>
      rw [hc] at HR
      cases A with
      | false =>
        go_wp2_with fail
        refine (HNC.out _).mono ?_
        rintro e wq ⟨rfl, hq⟩
        have hB1 := hB0.trans (hq.mono hB0.size)
        clear hq b0 b1 b2 b3 b4 b5 b6 b7 hB0
        have b0 := HC.out _ hB1 0 (by decide); have b1 := HC.out _ hB1 1 (by decide); have b2 := HC.out _ hB1 2 (by decide); have b3 := HC.out _ hB1 3 (by decide); have b4 := HC.out _ hB1 4 (by decide); have b5 := HC.out _ hB1 5 (by decide); have b6 := HC.out _ hB1 6 (by decide); have b7 := HC.out _ hB1 7 (by decide)
        simp only [List.getElem?_toArray, List.getElem?_cons_zero, List.getElem?_cons_succ] at b0 b1 b2 b3 b4 b5 b6 b7
        go_wp2_with fail
        go_ret
        exact ⟨by rw [HR.out] <;> rfl, hB.trans (hB1.mono hB.size)⟩
      | true =>
        go_wp2_with fail
        refine (HNC.out _).mono ?_
        rintro e wq ⟨rfl, hq⟩
        have hB1 := hB0.trans (hq.mono hB0.size)
        clear hq b0 b1 b2 b3 b4 b5 b6 b7 hB0
        have b0 := HC.out _ hB1 0 (by decide); have b1 := HC.out _ hB1 1 (by decide); have b2 := HC.out _ hB1 2 (by decide); have b3 := HC.out _ hB1 3 (by decide); have b4 := HC.out _ hB1 4 (by decide); have b5 := HC.out _ hB1 5 (by decide); have b6 := HC.out _ hB1 6 (by decide); have b7 := HC.out _ hB1 7 (by decide)
        simp only [List.getElem?_toArray, List.getElem?_cons_zero, List.getElem?_cons_succ] at b0 b1 b2 b3 b4 b5 b6 b7
        go_wp2_with fail
        refine (HNS.out _).mono ?_
        rintro e wq ⟨rfl, hq⟩
        have hB2 := hB1.trans (hq.mono hB1.size)
        clear hq b0 b1 b2 b3 b4 b5 b6 b7 hB1
        have b0 := HC.out _ hB2 0 (by decide); have b1 := HC.out _ hB2 1 (by decide); have b2 := HC.out _ hB2 2 (by decide); have b3 := HC.out _ hB2 3 (by decide); have b4 := HC.out _ hB2 4 (by decide); have b5 := HC.out _ hB2 5 (by decide); have b6 := HC.out _ hB2 6 (by decide); have b7 := HC.out _ hB2 7 (by decide)
        simp only [List.getElem?_toArray, List.getElem?_cons_zero, List.getElem?_cons_succ] at b0 b1 b2 b3 b4 b5 b6 b7
        go_wp2_with fail
        go_ret
        exact ⟨by rw [HR.out] <;> rfl, hB.trans (hB2.mono hB.size)⟩
  have q1 : (k == 1) = false := by rw [beq_eq_false_iff_ne]; exact k1
  by_cases k2 : k = 2
  · subst k2
    replace HR : Hid (R = ((c == 0) && A)) := Lib.hid (by rw [HR.out]; rfl)
    cases hc : (c == 0) with
    | false =>
      rw [hc] at HR
      go_wp2_with fail
      go_ret
      exact ⟨by rw [HR.out] <;> rfl, hB.trans (hB0.mono hB.size)⟩
    | true =>
      rw [hc] at HR
      cases A with
      | false =>
        go_wp2_with fail
        refine (HNC.out _).mono ?_
        rintro e wq ⟨rfl, hq⟩
        have hB1 := hB0.trans (hq.mono hB0.size)
        clear hq b0 b1 b2 b3 b4 b5 b6 b7 hB0
        have b0 := HC.out _ hB1 0 (by decide); have b1 := HC.out _ hB1 1 (by decide); have b2 := HC.out _ hB1 2 (by decide); have b3 := HC.out _ hB1 3 (by decide); have b4 := HC.out _ hB1 4 (by decide); have b5 := HC.out _ hB1 5 (by decide); have b6 := HC.out _ hB1 6 (by decide); have b7 := HC.out _ hB1 7 (by decide)
        simp only [List.getElem?_toArray, List.getElem?_cons_zero, List.getElem?_cons_succ] at b0 b1 b2 b3 b4 b5 b6 b7
        go_wp2_with fail
        go_ret
        exact ⟨by rw [HR.out] <;> rfl, hB.trans (hB1.mono hB.size)⟩
      | true =>
        go_wp2_with fail
        refine (HNC.out _).mono ?_
        rintro e wq ⟨rfl, hq⟩
        have hB1 := hB0.trans (hq.mono hB0.size)
        clear hq b0 b1 b2 b3 b4 b5 b6 b7 hB0
        have b0 := HC.out _ hB1 0 (by decide); have b1 := HC.out _ hB1 1 (by decide); have b2 := HC.out _ hB1 2 (by decide); have b3 := HC.out _ hB1 3 (by decide); have b4 := HC.out _ hB1 4 (by decide); have b5 := HC.out _ hB1 5 (by decide); have b6 := HC.out _ hB1 6 (by decide); have b7 := HC.out _ hB1 7 (by decide)
        simp only [List.getElem?_toArray, List.getElem?_cons_zero, List.getElem?_cons_succ] at b0 b1 b2 b3 b4 b5 b6 b7
        go_wp2_with fail
        go_ret
        exact ⟨by rw [HR.out] <;> rfl, hB.trans (hB1.mono hB.size)⟩
  have q2 : (k == 2) = false := by rw [beq_eq_false_iff_ne]; exact k2
  by_cases k3 : k = 3
  · subst k3
    replace HR : Hid (R = ((c == 1) && A && B)) := Lib.hid (by rw [HR.out]; rfl)
    cases hc : (c == 1) with
    | false =>
      rw [hc] at HR
      go_wp2_with fail
      go_ret
      exact ⟨by rw [HR.out] <;> rfl, hB.trans (hB0.mono hB.size)⟩
    | true =>
      rw [hc] at HR
      cases A with
      | false =>
        go_wp2_with fail
        refine (HNC.out _).mono ?_
        rintro e wq ⟨rfl, hq⟩
        have hB1 := hB0.trans (hq.mono hB0.size)
        clear hq b0 b1 b2 b3 b4 b5 b6 b7 hB0
        have b0 := HC.out _ hB1 0 (by decide); have b1 := HC.out _ hB1 1 (by decide); have b2 := HC.out _ hB1 2 (by decide); have b3 := HC.out _ hB1 3 (by decide); have b4 := HC.out _ hB1 4 (by decide); have b5 := HC.out _ hB1 5 (by decide); have b6 := HC.out _ hB1 6 (by decide); have b7 := HC.out _ hB1 7 (by decide)
        simp only [List.getElem?_toArray, List.getElem?_cons_zero, List.getElem?_cons_succ] at b0 b1 b2 b3 b4 b5 b6 b7
        go_wp2_with fail
        go_ret
        exact ⟨by rw [HR.out] <;> rfl, hB.trans (hB1.mono hB.size)⟩
      | true =>
        go_wp2_with fail
        refine (HNC.out _).mono ?_
        rintro e wq ⟨rfl, hq⟩
        have hB1 := hB0.trans (hq.mono hB0.size)
        clear hq b0 b1 b2 b3 b4 b5 b6 b7 hB0
        have b0 := HC.out _ hB1 0 (by decide); have b1 := HC.out _ hB1 1 (by decide); have b2 := HC.out _ hB1 2 (by decide); have b3 := HC.out _ hB1 3 (by decide); have b4 := HC.out _ hB1 4 (by decide); have b5 := HC.out _ hB1 5 (by decide); have b6 := HC.out _ hB1 6 (by decide); have b7 := HC.out _ hB1 7 (by decide)
        simp only [List.getElem?_toArray, List.getElem?_cons_zero, List.getElem?_cons_succ] at b0 b1 b2 b3 b4 b5 b6 b7
        go_wp2_with fail
        refine (HNS.out _).mono ?_
        rintro e wq ⟨rfl, hq⟩
        have hB2 := hB1.trans (hq.mono hB1.size)
        clear hq b0 b1 b2 b3 b4 b5 b6 b7 hB1
        have b0 := HC.out _ hB2 0 (by decide); have b1 := HC.out _ hB2 1 (by decide); have b2 := HC.out _ hB2 2 (by decide); have b3 := HC.out _ hB2 3 (by decide); have b4 := HC.out _ hB2 4 (by decide); have b5 := HC.out _ hB2 5 (by decide); have b6 := HC.out _ hB2 6 (by decide); have b7 := HC.out _ hB2 7 (by decide)
        simp only [List.getElem?_toArray, List.getElem?_cons_zero, List.getElem?_cons_succ] at b0 b1 b2 b3 b4 b5 b6 b7
        go_wp2_with fail
        go_ret
        exact ⟨by rw [HR.out] <;> rfl, hB.trans (hB2.mono hB.size)⟩
  have q3 : (k == 3) = false := by rw [beq_eq_false_iff_ne]; exact k3
  by_cases k4 : k = 4
  · subst k4
    replace HR : Hid (R = ((c == 1) && C && B)) := Lib.hid (by rw [HR.out]; rfl)
    cases hc : (c == 1) with
    | false =>
      rw [hc] at HR
      go_wp2_with fail
      go_ret
      exact ⟨by rw [HR.out] <;> rfl, hB.trans (hB0.mono hB.size)⟩
    | true =>
      rw [hc] at HR
      cases C with
      | false =>
        go_wp2_with fail
        refine (HHC.out _).mono ?_
        rintro e wq ⟨rfl, hq⟩
        have hB1 := hB0.trans (hq.mono hB0.size)
        clear hq b0 b1 b2 b3 b4 b5 b6 b7 hB0
        have b0 := HC.out _ hB1 0 (by decide); have b1 := HC.out _ hB1 1 (by decide); have b2 := HC.out _ hB1 2 (by decide); have b3 := HC.out _ hB1 3 (by decide); have b4 := HC.out _ hB1 4 (by decide); have b5 := HC.out _ hB1 5 (by decide); have b6 := HC.out _ hB1 6 (by decide); have b7 := HC.out _ hB1 7 (by decide)
        simp only [List.getElem?_toArray, List.getElem?_cons_zero, List.getElem?_cons_succ] at b0 b1 b2 b3 b4 b5 b6 b7
        go_wp2_with fail
        go_ret
        exact ⟨by rw [HR.out] <;> rfl, hB.trans (hB1.mono hB.size)⟩
      | true =>
        go_wp2_with fail
        refine (HHC.out _).mono ?_
        rintro e wq ⟨rfl, hq⟩
        have hB1 := hB0.trans (hq.mono hB0.size)
        clear hq b0 b1 b2 b3 b4 b5 b6 b7 hB0
        have b0 := HC.out _ hB1 0 (by decide); have b1 := HC.out _ hB1 1 (by decide); have b2 := HC.out _ hB1 2 (by decide); have b3 := HC.out _ hB1 3 (by decide); have b4 := HC.out _ hB1 4 (by decide); have b5 := HC.out _ hB1 5 (by decide); have b6 := HC.out _ hB1 6 (by decide); have b7 := HC.out _ hB1 7 (by decide)
        simp only [List.getElem?_toArray, List.getElem?_cons_zero, List.getElem?_cons_succ] at b0 b1 b2 b3 b4 b5 b6 b7
        go_wp2_with fail
        refine (HNS.out _).mono ?_
        rintro e wq ⟨rfl, hq⟩
        have hB2 := hB1.trans (hq.mono hB1.size)
        clear hq b0 b1 b2 b3 b4 b5 b6 b7 hB1
        have b0 := HC.out _ hB2 0 (by decide); have b1 := HC.out _ hB2 1 (by decide); have b2 := HC.out _ hB2 2 (by decide); have b3 := HC.out _ hB2 3 (by decide); have b4 := HC.out _ hB2 4 (by decide); have b5 := HC.out _ hB2 5 (by decide); have b6 := HC.out _ hB2 6 (by decide); have b7 := HC.out _ hB2 7 (by decide)
        simp only [List.getElem?_toArray, List.getElem?_cons_zero, List.getElem?_cons_succ] at b0 b1 b2 b3 b4 b5 b6 b7
        go_wp2_with fail
        go_ret
        exact ⟨by rw [HR.out] <;> rfl, hB.trans (hB2.mono hB.size)⟩
  have q4 : (k == 4) = false := by rw [beq_eq_false_iff_ne]; exact k4
  by_cases k5 : k = 5
  · subst k5
    replace HR : Hid (R = (decide (2 ≤ c) && A && B)) := Lib.hid (by rw [HR.out]; rfl)
    cases hc : decide (2 ≤ c) with
    | false =>
      rw [hc] at HR
      go_wp2_with fail
      go_ret
      exact ⟨by rw [HR.out] <;> rfl, hB.trans (hB0.mono hB.size)⟩
    | true =>
      rw [hc] at HR
      cases A with
      | false =>
        go_wp2_with fail
        refine (HNC.out _).mono ?_
        rintro e wq ⟨rfl, hq⟩
        have hB1 := hB0.trans (hq.mono hB0.size)
        clear hq b0 b1 b2 b3 b4 b5 b6 b7 hB0
        have b0 := HC.out _ hB1 0 (by decide); have b1 := HC.out _ hB1 1 (by decide); have b2 := HC.out _ hB1 2 (by decide); have b3 := HC.out _ hB1 3 (by decide); have b4 := HC.out _ hB1 4 (by decide); have b5 := HC.out _ hB1 5 (by decide); have b6 := HC.out _ hB1 6 (by decide); have b7 := HC.out _ hB1 7 (by decide)
        simp only [List.getElem?_toArray, List.getElem?_cons_zero, List.getElem?_cons_succ] at b0 b1 b2 b3 b4 b5 b6 b7
        go_wp2_with fail
        go_ret
        exact ⟨by rw [HR.out] <;> rfl, hB.trans (hB1.mono hB.size)⟩
      | true =>
        go_wp2_with fail
        refine (HNC.out _).mono ?_
        rintro e wq ⟨rfl, hq⟩
        have hB1 := hB0.trans (hq.mono hB0.size)
        clear hq b0 b1 b2 b3 b4 b5 b6 b7 hB0
        have b0 := HC.out _ hB1 0 (by decide); have b1 := HC.out _ hB1 1 (by decide); have b2 := HC.out _ hB1 2 (by decide); have b3 := HC.out _ hB1 3 (by decide); have b4 := HC.out _ hB1 4 (by decide); have b5 := HC.out _ hB1 5 (by decide); have b6 := HC.out _ hB1 6 (by decide); have b7 := HC.out _ hB1 7 (by decide)
        simp only [List.getElem?_toArray, List.getElem?_cons_zero, List.getElem?_cons_succ] at b0 b1 b2 b3 b4 b5 b6 b7
        go_wp2_with fail
        refine (HNS.out _).mono ?_
        rintro e wq ⟨rfl, hq⟩
        have hB2 := hB1.trans (hq.mono hB1.size)
        clear hq b0 b1 b2 b3 b4 b5 b6 b7 hB1
        have b0 := HC.out _ hB2 0 (by decide); have b1 := HC.out _ hB2 1 (by decide); have b2 := HC.out _ hB2 2 (by decide); have b3 := HC.out _ hB2 3 (by decide); have b4 := HC.out _ hB2 4 (by decide); have b5 := HC.out _ hB2 5 (by decide); have b6 := HC.out _ hB2 6 (by decide); have b7 := HC.out _ hB2 7 (by decide)
        simp only [List.getElem?_toArray, List.getElem?_cons_zero, List.getElem?_cons_succ] at b0 b1 b2 b3 b4 b5 b6 b7
        go_wp2_with fail
        go_ret
        exact ⟨by rw [HR.out] <;> rfl, hB.trans (hB2.mono hB.size)⟩
  have q5 : (k == 5) = false := by rw [beq_eq_false_iff_ne]; exact k5
  by_cases k6 : k = 6
  · subst k6
    replace HR : Hid (R = (decide (2 ≤ c) && A && B)) := Lib.hid (by rw [HR.out]; rfl)
    cases hc : decide (2 ≤ c) with
    | false =>
      rw [hc] at HR
      go_wp2_with fail
      go_ret
      exact ⟨by rw [HR.out] <;> rfl, hB.trans (hB0.mono hB.size)⟩
    | true =>
      rw [hc] at HR
      cases A with
      | false =>
        go_wp2_with fail
        refine (HNC.out _).mono ?_
        rintro e wq ⟨rfl, hq⟩
        have hB1 := hB0.trans (hq.mono hB0.size)
        clear hq b0 b1 b2 b3 b4 b5 b6 b7 hB0
        have b0 := HC.out _ hB1 0 (by decide); have b1 := HC.out _ hB1 1 (by decide); have b2 := HC.out _ hB1 2 (by decide); have b3 := HC.out _ hB1 3 (by decide); have b4 := HC.out _ hB1 4 (by decide); have b5 := HC.out _ hB1 5 (by decide); have b6 := HC.out _ hB1 6 (by decide); have b7 := HC.out _ hB1 7 (by decide)
        simp only [List.getElem?_toArray, List.getElem?_cons_zero, List.getElem?_cons_succ] at b0 b1 b2 b3 b4 b5 b6 b7
        go_wp2_with fail
        go_ret
        exact ⟨by rw [HR.out] <;> rfl, hB.trans (hB1.mono hB.size)⟩
      | true =>
        go_wp2_with fail
        refine (HNC.out _).mono ?_
        rintro e wq ⟨rfl, hq⟩
        have hB1 := hB0.trans (hq.mono hB0.size)
        clear hq b0 b1 b2 b3 b4 b5 b6 b7 hB0
        have b0 := HC.out _ hB1 0 (by decide); have b1 := HC.out _ hB1 1 (by decide); have b2 := HC.out _ hB1 2 (by decide); have b3 := HC.out _ hB1 3 (by decide); have b4 := HC.out _ hB1 4 (by decide); have b5 := HC.out _ hB1 5 (by decide); have b6 := HC.out _ hB1 6 (by decide); have b7 := HC.out _ hB1 7 (by decide)
        simp only [List.getElem?_toArray, List.getElem?_cons_zero, List.getElem?_cons_succ] at b0 b1 b2 b3 b4 b5 b6 b7
        go_wp2_with fail
        refine (HNS.out _).mono ?_
        rintro e wq ⟨rfl, hq⟩
        have hB2 := hB1.trans (hq.mono hB1.size)
        clear hq b0 b1 b2 b3 b4 b5 b6 b7 hB1
        have b0 := HC.out _ hB2 0 (by decide); have b1 := HC.out _ hB2 1 (by decide); have b2 := HC.out _ hB2 2 (by decide); have b3 := HC.out _ hB2 3 (by decide); have b4 := HC.out _ hB2 4 (by decide); have b5 := HC.out _ hB2 5 (by decide); have b6 := HC.out _ hB2 6 (by decide); have b7 := HC.out _ hB2 7 (by decide)
        simp only [List.getElem?_toArray, List.getElem?_cons_zero, List.getElem?_cons_succ] at b0 b1 b2 b3 b4 b5 b6 b7
        go_wp2_with fail
        go_ret
        exact ⟨by rw [HR.out] <;> rfl, hB.trans (hB2.mono hB.size)⟩
  have q6 : (k == 6) = false := by rw [beq_eq_false_iff_ne]; exact k6
  replace HR : Hid (R = false) := Lib.hid (by rw [HR.out, if_neg k1, if_neg k2, if_neg k3, if_neg k4, if_neg (by omega)])
  clear k1 k2 k3 k4 k5 k6
  go_wp2_with fail
  go_ret
  exact ⟨by rw [HR.out] <;> rfl, hB.trans (hB0.mono hB.size)⟩

def SRy (w0 : World) (tb g off i x n cap : Nat) (A B : Int) (W : World) : Prop :=
  (W.cell? ⟨tb, 0, none⟩ = some (.slice (some ⟨g, off, none⟩) n cap) ∧ W.cell? ⟨g, off + i * 8, none⟩ = some (.int .i64 A) ∧ W.cell? ⟨g, off + x * 8, none⟩ = some (.int .i64 B)) ∧ W = w0
set_option maxRecDepth 100000 in
set_option maxHeartbeats 16000000 in
theorem rightKids_calls (l : List NdN) (hl : l.length ≤ 1000000) (hf : manyF 0 (l.map NdN.kids) = some 1) (i : Nat) (hlt : i < l.length) (a : Option Addr) (cap g2 : Nat) (w : World) (h : NodesAt l a w) (hZ : SzAt l g2 w) :
    Calls Tryd.prog 65 #[.agg (trC a l.length cap (some ⟨g2, 0, none⟩) l.length l.length), .int .i64 i] w fun e w' => e = .returned (.bool (kidsOkB l i)) ∧ Below w.heap.size w w' := by
  have HKC := Lib.hid (fun W h1 h2 => tKids_calls l hl hf i hlt a cap g2 W h1 h2)
  have HMH := Lib.hid mayHold_calls
  have hne : l ≠ [] := by rintro rfl; simp at hlt
  obtain ⟨g, off, rfl, hg, hc⟩ := h hne
  have HC := Lib.hid hc
  have HKB1 := Lib.hid (kidsR_bound l i)
  have hkrl := kidsR_len l i
  have HKD := Lib.hid (kdN_get l)
  have HKO1 : Hid (kidsOkB l i = (kidsR l i).all fun x => kidF (kdN l i) (kdN l x.toNat)) := Lib.hid rfl
  have hki := kdN_get l i hlt
  have HKK := Lib.hid hki
  have di : decide (i < l.length) = true := by rw [decide_eq_true_iff]; exact hlt
  have hT := Blk.new w (trC (some ⟨g, off, none⟩) l.length cap (some ⟨g2, 0, none⟩) l.length l.length) 106
  have hB : Below w.heap.size w (w.alloc (.cells (trC (some ⟨g, off, none⟩) l.length cap (some ⟨g2, 0, none⟩) l.length l.length) 106)) := by go_grown
  have hz : w.heap.size < (w.alloc (.cells (trC (some ⟨g, off, none⟩) l.length cap (some ⟨g2, 0, none⟩) l.length l.length) 106)).heap.size := by simp
  have HN := Lib.hid h
  have HZ := Lib.hid hZ
  clear hc hne hki h hZ hf
  generalize hKI : kdN l i = K at *
  generalize kidsOkB l i = R at *
  go_enter Tryd.func65, Tryd.ntmps65
  go_upto_region 1 with fail
  generalize w.alloc (.cells (trC (some ⟨g, off, none⟩) l.length cap (some ⟨g2, 0, none⟩) l.length l.length) 106) = w1 at *
  have t0 := hT.cell 0; have t1 := hT.cell 1
  simp only [List.getElem?_toArray, List.getElem?_cons_zero, List.getElem?_cons_succ] at t0 t1
  have HB := Lib.hid hB
  have HT := Lib.hid hT
  clear hB hT
  go_wp2_with fail
  refine (HKC.out _ (HN.out.below HB.out) (HZ.out.below HB.out)).mono ?_
  rintro e w3 ⟨b, rfl, hbb, hbl, hb⟩
  have HT3 := Lib.hid (HT.out.below hb hz)
  replace HB := Lib.hid (HB.out.trans (hb.mono HB.out.size))
  have HBL := Lib.hid hbl
  have hz3 := Nat.lt_of_lt_of_le hz hb.size
  clear hb hbl HT t0 t1 HKC
  generalize hKR : kidsR l i = kr at *
  clear hKR
  go_upto_region 2 with fail
  go_loopw [11] (fun x wr => ∃ k : Nat, k ≤ kr.length ∧ x = .int .i64 k ∧ (∀ j (h : j < kr.length), j < k → kidF K (kdN l (kr[j]).toNat) = true) ∧ Below w3.heap.size w3 wr) (fun x _ => kr.length - (intOf x).toNat)
  case atStart => exact ⟨0, Nat.zero_le _, rfl, fun j _ hj => by omega, Below.refl _ _⟩
  case round =>
    obtain ⟨k, hk, rfl, hkk, hB3⟩ := hrel
    have HB3 := Lib.hid hB3
    have HKS := Lib.hid hkk
    clear hB3 hkk
    by_cases hkl : k < kr.length
    · have hdk : decide ((k : Int) < (kr.length : Int)) = true := by rw [decide_eq_true_iff]; omega
      have hdk2 : decide (k < kr.length) = true := by rw [decide_eq_true_iff]; omega
      have xk1 : IntKind.i64.wrap ((k : Int) + 1) = (k : Int) + 1 := IntWalk.i64_in _ (by omega)
      have hbx := HKB1.out kr[k] (List.getElem_mem hkl)
      have cx := (HBL.out.below HB3.out HBL.out.lt).cell k
      rw [intsV_get _ _ hkl] at cx
      obtain ⟨x, hx⟩ := Int.eq_ofNat_of_zero_le hbx.1
      have hkx := HKD.out x (by omega)
      have hxl : x < l.length := by omega
      have hdx : decide (x < l.length) = true := by rw [decide_eq_true_iff]; omega
      have hBW := HB.out.trans (HB3.out.mono HB.out.size)
      have ci := (hBW.cell (p := ⟨g, off + i * 8, none⟩) hg).trans (HC.out i hlt 0 (by decide))
      have cxk := (hBW.cell (p := ⟨g, off + x * 8, none⟩) hg).trans (HC.out x hxl 0 (by decide))
      have ct := (HT3.out.below HB3.out hz3).cell 0
      simp only [List.getElem?_toArray, List.getElem?_cons_zero] at ct
      have e0 : (ndA l[i])[0]? = some (.int .i64 K) := by rw [HKK.out]; rfl
      have e1 : (ndA l[x])[0]? = some (.int .i64 (kdN l x)) := by rw [hkx]; rfl
      rw [e0] at ci
      rw [e1] at cxk
      rw [hx] at cx
      have HXX := Lib.hid (show kr[k] = (x : Int) from hx)
      generalize hKX : kdN l x = X at *
      have HKX := Lib.hid hKX
      have HKID := HMH.out K X
      generalize hr : kidF K X = r at *
      have HRR := Lib.hid hr
      have h0 : SRy wr.drew w.heap.size g off i x l.length cap K X wr.drew := ⟨⟨ct, ci, cxk⟩, rfl⟩
      replace HB3 : Hid (Below w3.heap.size w3 wr.drew) := Lib.hid HB3.out.drew
      clear hbx hx hkx hBW ci cxk e0 e1 hKX hr ct
      go_upto_region 4 with fail
      refine region_steps (S := SRy wr.drew w.heap.size g off i x l.length cap K X) (by kernel_rfl) h0 ?_
      clear h0 cx
      simp only [List.size_toArray, List.length_cons, List.length_nil, Nat.reduceAdd, Array.replicate_succ, Array.replicate_zero, List.push_toArray, List.nil_append, List.cons_append]
      refine AnyS.stepE (i := 0) (d := some 15) rfl rfl (by kernel_rfl) (by kernel_rfl) (by kernel_rfl) ?_
      apply Exists.intro
      apply And.intro
      · apply StepsIf.yield
        · kernel_rfl
        intro w' hS
        clear hS; go_simp
        rfl
      intro a' ha'
      simp only [Act.put, List.setIfInBounds_toArray, List.set_cons_zero, List.set_cons_succ] at ha'
      subst ha'
      refine AnyS.next (i := 1) (d := some 16) (v := .slice (some ⟨g, off, none⟩) l.length cap) rfl rfl (by kernel_rfl) (by kernel_rfl) (by kernel_rfl) (StepsIf.yield (by kernel_rfl) (fun w' hS => by have s := hS.1.1; clear hS; go_simp)) ?_
      intro a' ha'
      simp only [Act.put, List.setIfInBounds_toArray, List.set_cons_zero, List.set_cons_succ] at ha'
      subst ha'
      refine AnyS.stepE (i := 2) (d := some 17) rfl rfl (by kernel_rfl) (by kernel_rfl) (by kernel_rfl) ?_
      apply Exists.intro
      apply And.intro
      · apply StepsIf.yield
        · kernel_rfl
        intro w' hS
        clear hS; go_simp
        rfl
      intro a' ha'
      simp only [Act.put, List.setIfInBounds_toArray, List.set_cons_zero, List.set_cons_succ] at ha'
      subst ha'
      refine AnyS.next (i := 3) (d := some 18) (v := .pointer (some ⟨g, off + i * 8, none⟩)) rfl rfl (by kernel_rfl) (by kernel_rfl) (by kernel_rfl) (StepsIf.yield (by kernel_rfl) (fun w' hS => by clear hS; go_simp)) ?_
      intro a' ha'
      simp only [Act.put, List.setIfInBounds_toArray, List.set_cons_zero, List.set_cons_succ] at ha'
      subst ha'
      refine AnyS.next (i := 4) (d := some 19) (v := .pointer (some ⟨g, off + i * 8, none⟩)) rfl rfl (by kernel_rfl) (by kernel_rfl) (by kernel_rfl) (StepsIf.yield (by kernel_rfl) (fun w' hS => by clear hS; go_simp)) ?_
      intro a' ha'
      simp only [Act.put, List.setIfInBounds_toArray, List.set_cons_zero, List.set_cons_succ] at ha'
      subst ha'
      refine AnyS.next (i := 5) (d := some 20) (v := .int .i64 K) rfl rfl (by kernel_rfl) (by kernel_rfl) (by kernel_rfl) (StepsIf.yield (by kernel_rfl) (fun w' hS => by have s := hS.1.2.1; clear hS; go_simp)) ?_
      intro a' ha'
      simp only [Act.put, List.setIfInBounds_toArray, List.set_cons_zero, List.set_cons_succ] at ha'
      subst ha'
      refine AnyS.stepE (i := 6) (d := some 21) rfl rfl (by kernel_rfl) (by kernel_rfl) (by kernel_rfl) ?_
      apply Exists.intro
      apply And.intro
      · apply StepsIf.yield
        · kernel_rfl
        intro w' hS
        clear hS; go_simp
        rfl
      intro a' ha'
      simp only [Act.put, List.setIfInBounds_toArray, List.set_cons_zero, List.set_cons_succ] at ha'
      subst ha'
      refine AnyS.next (i := 7) (d := some 22) (v := .slice (some ⟨g, off, none⟩) l.length cap) rfl rfl (by kernel_rfl) (by kernel_rfl) (by kernel_rfl) (StepsIf.yield (by kernel_rfl) (fun w' hS => by have s := hS.1.1; clear hS; go_simp)) ?_
      intro a' ha'
      simp only [Act.put, List.setIfInBounds_toArray, List.set_cons_zero, List.set_cons_succ] at ha'
      subst ha'
      refine AnyS.stepE (i := 8) (d := some 23) rfl rfl (by kernel_rfl) (by kernel_rfl) (by kernel_rfl) ?_
      apply Exists.intro
      apply And.intro
      · apply StepsIf.yield
        · kernel_rfl
        intro w' hS
        clear hS; go_simp
        rfl
      intro a' ha'
      simp only [Act.put, List.setIfInBounds_toArray, List.set_cons_zero, List.set_cons_succ] at ha'
      subst ha'
      refine AnyS.next (i := 9) (d := some 24) (v := .pointer (some ⟨g, off + x * 8, none⟩)) rfl rfl (by kernel_rfl) (by kernel_rfl) (by kernel_rfl) (StepsIf.yield (by kernel_rfl) (fun w' hS => by clear hS; go_simp)) ?_
      intro a' ha'
      simp only [Act.put, List.setIfInBounds_toArray, List.set_cons_zero, List.set_cons_succ] at ha'
      subst ha'
      refine AnyS.next (i := 10) (d := some 25) (v := .pointer (some ⟨g, off + x * 8, none⟩)) rfl rfl (by kernel_rfl) (by kernel_rfl) (by kernel_rfl) (StepsIf.yield (by kernel_rfl) (fun w' hS => by clear hS; go_simp)) ?_
      intro a' ha'
      simp only [Act.put, List.setIfInBounds_toArray, List.set_cons_zero, List.set_cons_succ] at ha'
      subst ha'
      refine AnyS.next (i := 11) (d := some 26) (v := .int .i64 X) rfl rfl (by kernel_rfl) (by kernel_rfl) (by kernel_rfl) (StepsIf.yield (by kernel_rfl) (fun w' hS => by have s := hS.1.2.2; clear hS; go_simp)) ?_
      intro a' ha'
      simp only [Act.put, List.setIfInBounds_toArray, List.set_cons_zero, List.set_cons_succ] at ha'
      subst ha'
      refine AnyS.next (i := 12) (d := some 27) (v := .bool r) rfl rfl (by kernel_rfl) (by kernel_rfl) (by kernel_rfl) (StepsIf.call (by kernel_rfl) (fun w' hS => by clear hS; go_simp) (fun w' hS => (HKID w').mono fun e w'' h => ⟨h.1, h.2 ▸ hS⟩)) ?_
      intro a' ha'
      simp only [Act.put, List.setIfInBounds_toArray, List.set_cons_zero, List.set_cons_succ] at ha'
      subst ha'
      refine AnyS.next (i := 13) (d := some 28) (v := .bool (!r)) rfl rfl (by kernel_rfl) (by kernel_rfl) (by kernel_rfl) (StepsIf.yield (by kernel_rfl) (fun w' hS => by clear hS; go_simp)) ?_
      intro a' ha'
      simp only [Act.put, List.setIfInBounds_toArray, List.set_cons_zero, List.set_cons_succ] at ha'
      subst ha'
      refine AnyS.done (by kernel_rfl) (fun w6 hS => ?_) _
      obtain ⟨_, rfl⟩ := hS
      clear HKID
      generalize wr.drew = w7 at *
      cases r with
      | true =>
        go_wp2_with fail
        go_roundw
        case rel =>
          refine ⟨k + 1, by omega, by simp, fun j hj hjk => ?_, HB3.out⟩
          by_cases hje : j = k
          · subst hje
            rw [HXX.out, show ((x : Int)).toNat = x from rfl, HKX.out]
            exact HRR.out
          · exact HKS.out j hj (by omega)
        case measure => simp [intOf]; omega
      | false =>
        have HRES := Lib.hid (show R = false by
          rw [HKO1.out, List.all_eq_false]
          refine ⟨kr[k], List.getElem_mem hkl, ?_⟩
          rw [HXX.out, show ((x : Int)).toNat = x from rfl, HKX.out, HRR.out]
          decide)
        go_wp2_with fail
        go_ret
        exact ⟨by rw [HRES.out] <;> rfl, HB.out.trans (HB3.out.mono HB.out.size)⟩
    · obtain rfl : k = kr.length := by omega
      have hdk : decide ((kr.length : Int) < (kr.length : Int)) = false := by simp
      have hdk2 : decide (kr.length < kr.length) = false := by simp
      have HRES := Lib.hid (show R = true by
        rw [HKO1.out, List.all_eq_true]
        intro y hy
        obtain ⟨j, hj, rfl⟩ := List.getElem_of_mem hy
        exact HKS.out j hj hj)
      go_wp2_with fail
      go_ret
      exact ⟨by rw [HRES.out] <;> rfl, HB.out.trans (HB3.out.mono HB.out.size)⟩

set_option maxRecDepth 100000 in
set_option maxHeartbeats 16000000 in
theorem aRight_calls (l : List NdN) (hl : l.length ≤ 1000000) (a : Option Addr) (cap : Nat) (w : World) (h : NodesAt l a w) :
    Calls Tryd.prog 36 #[.slice a l.length cap] w fun e w' => e = .returned (.bool (rightR l)) ∧ Below w.heap.size w w' := by
  have HTO := Lib.hid (treeOf_calls l hl a cap w h)
  have HN := Lib.hid h
  clear h
  go_enter Tryd.func36, Tryd.ntmps36
  go_wp2_with fail
  refine HTO.out.mono ?_
  rintro e w1 ⟨hb, ⟨hf, rfl⟩ | ⟨hf, b, rfl, hi⟩⟩
  · clear HTO
    have HRR := Lib.hid (show rightR l = false by unfold rightR; rw [decide_eq_false hf]; rfl)
    have hB := Lib.hid (hb.alloc hb.size (.cells (trC none 0 0 none 0 0) 106))
    clear hf
    go_wp2_with fail
    go_ret
    exact ⟨by rw [HRR.out] <;> rfl, hB.out⟩
  · clear HTO
    obtain ⟨hz, hwb⟩ := SzAt.of (formed_ne hf) hi
    have hB1 := hb.alloc hb.size (.cells (trC a l.length cap (some ⟨b, 0, none⟩) l.length l.length) 106)
    have hZ1 := hz.below ((Below.refl _ _).alloc (Nat.le_refl _) (.cells (trC a l.length cap (some ⟨b, 0, none⟩) l.length l.length) 106))
    have hT1 := Blk.new w1 (trC a l.length cap (some ⟨b, 0, none⟩) l.length l.length) 106
    have hsz1 : w1.heap.size < (w1.alloc (.cells (trC a l.length cap (some ⟨b, 0, none⟩) l.length l.length) 106)).heap.size := by simp
    clear hi hz hb
    have HRK := Lib.hid (fun i hlt W h1 h2 => rightKids_calls l hl hf i hlt a cap b W h1 h2)
    have HND := Lib.hid aright_calls
    have HOK := Lib.hid (okN_split l)
    have HNO := Lib.hid (rightR_no l)
    have HKD := Lib.hid (kdN_get l)
    have HGS := Lib.hid (grpN_step l)
    have HGL := Lib.hid (grpN_le l)
    have HR := Lib.hid (show rightR l = ((List.range l.length).all (okN l) && decide (grpN l l.length ≤ 9)) by unfold rightR; rw [decide_eq_true hf]; rfl)
    clear hf
    go_upto_region 5 with fail
    generalize w1.alloc (.cells (trC a l.length cap (some ⟨b, 0, none⟩) l.length l.length) 106) = w2 at *
    have hwb2 : b < w2.heap.size := hZ1.1
    go_upto_region 6 with fail
    go_loopw [5, 17] (fun v x wr => ∃ i : Nat, i ≤ l.length ∧ x = .int .i64 i ∧ v = .int .i64 (grpN l i : Nat) ∧ (∀ j, j < i → okN l j = true) ∧ Below w.heap.size w wr ∧ Blk wr w1.heap.size (trC a l.length cap (some ⟨b, 0, none⟩) l.length l.length) 106 ∧ SzAt l b wr) (fun _ x _ => l.length - (intOf x).toNat)
    case atStart => exact ⟨0, Nat.zero_le _, rfl, rfl, fun j hj => by omega, hB1, hT1, hZ1⟩
    case round =>
      clear hB1 hT1 hZ1
      obtain ⟨i, hi, rfl, rfl, hok, hB, hT, hZ⟩ := hrel
      have HB := Lib.hid hB
      have HOKS := Lib.hid hok
      have HZ := Lib.hid hZ
      by_cases hlt : i < l.length
      · have hd : decide ((i : Int) < (l.length : Int)) = true := by rw [decide_eq_true_iff]; omega
        have hd2 : decide (i < l.length) = true := by rw [decide_eq_true_iff]; omega
        have hne : l ≠ [] := by rintro rfl; simp at hlt
        obtain ⟨g, off, rfl, hg, hc⟩ := HN.out hne
        have hcell := fun (j : Nat) (hj : j < 8) => (hB.cell (p := ⟨g, off + i * 8 + j, none⟩) hg).trans (hc i hlt j hj)
        have hki := HKD.out i hlt
        have hoki := HOK.out i hlt
        have hgl := HGL.out i
        have hgs := HGS.out i
        have HNO1 := Lib.hid (HNO.out i hlt)
        have HNDD := Lib.hid (HND.out l[i].kind l[i].kids l[i].n l[i].m l[i].set)
        rw [show nodeF ⟨l[i].kind, l[i].kids, l[i].n, l[i].m, l[i].set⟩ = nodeF l[i] from rfl] at HNDD
        have d0 := hcell 0 (by decide); have d1 := hcell 1 (by decide); have d2 := hcell 2 (by decide); have d3 := hcell 3 (by decide); have d4 := hcell 4 (by decide); have d5 := hcell 5 (by decide); have d6 := hcell 6 (by decide); have d7 := hcell 7 (by decide)
        simp only [ndA, List.getElem?_toArray, List.getElem?_cons_zero, List.getElem?_cons_succ, Nat.add_zero] at d0 d1 d2 d3 d4 d5 d6 d7
        rw [hki] at hgs
        clear hcell hc hne hki hok
        generalize l[i].kind = k at *
        generalize l[i].kids = kc at *
        generalize l[i].n = kn at *
        generalize l[i].m = km at *
        generalize l[i].set = kt at *
        generalize nodeF l[i] = nf at *
        have hN := Blk.new wr (ndI k kc kn km kt) 46
        have hT2 := hT.alloc (.cells (ndI k kc kn km kt) 46)
        have hB2 := hB.alloc hB.size (.cells (ndI k kc kn km kt) 46)
        have hsn : wr.heap.size < (wr.alloc (.cells (ndI k kc kn km kt) 46)).heap.size := by simp
        have hs1 : w1.heap.size < wr.heap.size := hT.lt
        have hZ2 := hZ.below ((Below.refl _ _).alloc (Nat.le_refl _) (.cells (ndI k kc kn km kt) 46))
        clear hB hT hZ HB HZ
        go_upto_region 8 with fail
        clear d0 d1 d2 d3 d4 d5 d6 d7
        generalize wr.alloc (.cells (ndI k kc kn km kt) 46) = wn at *
        have c0 := hN.cell 0; have c1 := hN.cell 1; have c2 := hN.cell 2; have c3 := hN.cell 3; have c4 := hN.cell 4; have c5 := hN.cell 5; have c6 := hN.cell 6; have c7 := hN.cell 7
        simp only [List.getElem?_toArray, List.getElem?_cons_zero, List.getElem?_cons_succ] at c0 c1 c2 c3 c4 c5 c6 c7
        go_wp2_with fail
        refine (HNDD.out _).mono ?_
        rintro e w3 ⟨rfl, hb3⟩
        have hB3 := hB2.trans (hb3.mono hB2.size)
        have hT3 := hT2.below hb3 hT2.lt
        have hZ3 := hZ2.below hb3
        have hN3 := hN.below hb3 hN.lt
        clear c0 c1 c2 c3 c4 c5 c6 c7 hb3 hB2 hT2 hZ2 hN HNDD
        cases nf with
        | false =>
          have HRR := Lib.hid (HNO1.out (by rw [hoki]; rfl))
          clear hoki
          go_wp2_with fail
          go_ret
          exact ⟨by rw [HRR.out] <;> rfl, hB3⟩
        | true =>
          rw [Bool.true_and] at hoki
          have t0 := hT3.cell 0; have t1 := hT3.cell 1
          simp only [List.getElem?_toArray, List.getElem?_cons_zero, List.getElem?_cons_succ] at t0 t1
          have HRKI := Lib.hid (HRK.out i hlt)
          generalize kidsOkB l i = ko at *
          go_wp2_with fail
          refine (HRKI.out _ (HN.out.below hB3) hZ3).mono ?_
          rintro e w4 ⟨rfl, hb4⟩
          have hB4 := hB3.trans (hb4.mono hB3.size)
          have hT4 := hT3.below hb4 hT3.lt
          have hZ4 := hZ3.below hb4
          have hN4 := hN3.below hb4 hN3.lt
          clear t0 t1 hb4 hB3 hT3 hZ3 hN3 HRKI
          cases ko with
          | false =>
            have HRR := Lib.hid (HNO1.out hoki)
            clear hoki
            go_wp2_with fail
            go_ret
            exact ⟨by rw [HRR.out] <;> rfl, hB4⟩
          | true =>
            have c0 := hN4.cell 0
            simp only [List.getElem?_toArray, List.getElem?_cons_zero] at c0
            have HOKI := Lib.hid hoki
            have xg : IntKind.i64.wrap ((grpN l i : Nat) + 1 : Int) = ((grpN l i : Nat) : Int) + 1 := IntWalk.i64_in _ (by omega)
            have xi : IntKind.i64.wrap ((i : Int) + 1) = (i : Int) + 1 := IntWalk.i64_in _ (by omega)
            clear hoki hN4
            by_cases h3 : k = 3
            · have q : (k == 3) = true := by rw [h3]; rfl
              rw [q, if_pos rfl] at hgs
              have HGG := Lib.hid hgs
              clear hgs h3
              generalize grpN l i = G at *
              go_wp2_with fail
              go_roundw
              case rel =>
                refine ⟨i + 1, by omega, by simp, by rw [HGG.out] <;> rfl, fun j hj => ?_, hB4, hT4, hZ4⟩
                by_cases hji : j = i
                · subst hji; exact HOKI.out
                · exact HOKS.out j (by omega)
              case measure => simp [intOf]; omega
            · have q : (k == 3) = false := by rw [beq_eq_false_iff_ne]; exact h3
              rw [q] at hgs
              have HGG := Lib.hid hgs
              clear hgs h3
              generalize grpN l i = G at *
              go_wp2_with fail
              go_roundw
              case rel =>
                refine ⟨i + 1, by omega, by simp, by rw [HGG.out] <;> rfl, fun j hj => ?_, hB4, hT4, hZ4⟩
                by_cases hji : j = i
                · subst hji; exact HOKI.out
                · exact HOKS.out j (by omega)
              case measure => simp [intOf]; omega
      · obtain rfl : i = l.length := by omega
        have hd : decide ((l.length : Int) < (l.length : Int)) = false := by simp
        have hd2 : decide (l.length < l.length) = false := by simp
        have hall : (List.range l.length).all (okN l) = true := by
          rw [List.all_eq_true]
          exact fun x hx => HOKS.out x (List.mem_range.1 hx)
        have HRR := Lib.hid (show rightR l = decide (grpN l l.length ≤ 9) by rw [HR.out, hall]; rfl)
        clear hall hok hB hT hZ
        have q9 : decide (((grpN l l.length : Nat) : Int) ≤ 9) = decide (grpN l l.length ≤ 9) := by rw [Bool.eq_iff_iff, decide_eq_true_iff, decide_eq_true_iff]; omega
        generalize grpN l l.length = G at *
        go_wp2_with fail
        go_ret
        exact ⟨by rw [HRR.out] <;> simp, HB.out⟩
end Go.Proofs.YtpncomjpmilbkaaDoor

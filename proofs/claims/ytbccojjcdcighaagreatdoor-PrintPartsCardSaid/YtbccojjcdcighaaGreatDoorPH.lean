/- Texts put together: Ma. -/
import Derived.Test.YtbccojjcdcighaaGreatDoorPB
import Derived.Test.YtbccojjcdcighaaGreatDoorPC
import Derived.Lib.Hide
import Derived.LoopTactic
import Derived.Handy
import Derived.WalkLawsBesides
import Derived.IntWalk
import Derived.BigQuiet
import Derived.Outline
import Derived.Deep.QuietTactic
import Derived.Deep.DeepCutAuto
import Derived.Laws.ResultCell
namespace Go.Proofs.YtbccojjcdcighaaGreatDoor
open Go.RowKit
def fullD (v d : Nat) : Bool := d == 2 || (decide (0 < d) && v == 0)
def mostD (v d : Nat) : Nat := if fullD v d = true then v else 10 * v + 9
def digD (s : ByteArray) (least : Nat) : Nat → Nat → Nat → Nat → Nat × Nat × Nat × Nat
  | 0, i, v, d => (v, d, i, 0)
  | k + 1, i, v, d =>
    if 48 ≤ bt s i ∧ bt s i ≤ 57 then
      if fullD v d = true then (0, 0, i + 1, 6)
      else if mostD (10 * v + (bt s i - 48)) (d + 1) < least then (0, 0, i + 1, 6)
      else digD s least k (i + 1) (10 * v + (bt s i - 48)) (d + 1)
    else (v, d, i, 0)
def digsD (s : ByteArray) (i least : Nat) : Nat × Nat × Nat × Nat := digD s least (s.size - i) i 0 0
structure RD where
  n : Nat
  m : Int
  fin : Nat
  lack : List Nat
  err : Nat
def badC (e p : Nat) : RD := ⟨0, 0, p, [], e⟩
def shortR (s : ByteArray) (l : List Nat) : RD := ⟨0, 0, s.size, l, 2⟩
def okR (n : Nat) (m : Int) (p : Nat) : RD := ⟨n, m, p, [], 0⟩
def lessD (v d n : Nat) : Bool := decide (0 < d) && decide (v < n)
def commaD (s : ByteArray) (i n : Nat) : RD :=
  match digsD s i n with
  | (v, d, p, e) =>
    if e ≠ 0 then badC e p
    else if p = s.size ∧ lessD v d n = true then shortR s [57, 125]
    else if p = s.size then shortR s [125]
    else if bt s p ≠ 125 then badC 3 (p + 1)
    else if lessD v d n = true then badC 6 (p + 1)
    else if d = 0 then okR n (-1) (p + 1)
    else okR n v (p + 1)
def bracesD (s : ByteArray) (i : Nat) : RD :=
  match digsD s i 0 with
  | (v, d, p, e) =>
    if e ≠ 0 then badC e p
    else if p = s.size ∧ d = 0 then shortR s [48, 125]
    else if p = s.size then shortR s [125]
    else if 0 < d ∧ bt s p = 125 then okR v v (p + 1)
    else if 0 < d ∧ bt s p = 44 then commaD s (p + 1) v
    else badC 3 (p + 1)
def readD4 (s : ByteArray) (at' : Int) : RD :=
  if at' < 0 ∨ (s.size : Int) ≤ at' then badC 1 0
  else if bt s at'.toNat = 123 then bracesD s (at'.toNat + 1)
  else if bt s at'.toNat = 42 then okR 0 (-1) (at'.toNat + 1)
  else if bt s at'.toNat = 43 then okR 1 (-1) (at'.toNat + 1)
  else if bt s at'.toNat = 63 then okR 0 1 (at'.toNat + 1)
  else badC 1 0
@[reducible] def rdI (n m p : Int) (l : ByteArray) (e : Int) : Array Value := #[.int .i64 n, .int .i64 m, .int .i64 p, .string l, .int .i64 e]
def rdA (r : RD) : Array Value := rdI r.n r.m r.fin (ofT r.lack) r.err
theorem infoRd : (Tryz.prog.info? 215).map (·.size) = some 5 := by kernel_rfl
theorem rdC_one (n m p : Int) (l : ByteArray) (e : Int) : ((rdI n m p l e).all fun x => x.oneCell') = true := by simp [Value.oneCell']
theorem infoNu : (Tryz.prog.info? 219).map (·.size) = some 2 := by kernel_rfl
set_option maxRecDepth 100000 in
set_option maxHeartbeats 1000000 in
theorem faultD_calls (e p : Int) (w : World) : Calls Tryz.prog 177 #[.int .i64 e, .int .i64 p] w fun en w' => en = .returned (.agg (rdI 0 0 p eT e)) ∧ Below w.heap.size w w' := by
  go_enter Tryz.func177, Tryz.ntmps177
  go_wp2
  have hR := Blk.new w (rdI 0 0 p eT e) 215
  have hB : Below w.heap.size w (w.alloc (.cells (rdI 0 0 p eT e) 215)) := by go_grown
  exact bodyPost_ret (v := .agg (rdI 0 0 p eT e)) (results_cell_row rfl _ _ w.heap.size 215 (rdI 0 0 p eT e) (0, 0) _ rfl hR Tryz.underlying215 rfl infoRd) rfl ⟨rfl, hB⟩
@[reducible] def sgI : Array Value := #[.int .u8 42, .int .i64 0, .int .i64 (-1), .int .u8 43, .int .i64 1, .int .i64 (-1), .int .u8 63, .int .i64 0, .int .i64 1]
theorem infoSg : (Tryz.prog.info? 125).map (·.size) = some 9 := by kernel_rfl
set_option maxRecDepth 100000 in
set_option maxHeartbeats 1000000 in
theorem signs_calls (w : World) : Calls Tryz.prog 83 #[] w fun en w' => en = .returned (.agg sgI) ∧ Below w.heap.size w w' := by
  go_enter Tryz.func83, Tryz.ntmps83
  go_wp2
  have hR := Blk.new w sgI 125
  have hB : Below w.heap.size w (w.alloc (.cells sgI 125)) := by go_grown
  exact bodyPost_ret (v := .agg sgI) (results_cell_row rfl _ _ w.heap.size 125 sgI (0, 0) _ rfl hR Tryz.underlying125 rfl infoSg) rfl ⟨rfl, hB⟩
set_option maxHeartbeats 1000000 in
theorem full_calls (v d : Nat) (w : World) : Calls Tryz.prog 182 #[.agg #[.int .i64 v, .int .i64 d]] w fun en w' => en = .returned (.bool (fullD v d)) ∧ Below w.heap.size w w' := by
  have q1 : ((d : Int) == 2) = (d == 2) := by rw [Bool.eq_iff_iff, beq_iff_eq, beq_iff_eq]; omega
  have q3 : ((v : Int) == 0) = (v == 0) := by rw [Bool.eq_iff_iff, beq_iff_eq, beq_iff_eq]; omega
  have q2 : decide (0 < (d : Int)) = decide (0 < d) := by rw [Bool.eq_iff_iff, decide_eq_true_iff, decide_eq_true_iff]; omega
  have HF := Lib.hid (show fullD v d = (d == 2 || (decide (0 < d) && v == 0)) from rfl)
  cases h1 : (d == 2) with
  | true =>
    rw [h1] at HF q1
    go_enter Tryz.func182, Tryz.ntmps182
    go_wp2
    go_ret
    exact ⟨by rw [HF.out] <;> simp, by go_grown⟩
  | false =>
    rw [h1] at HF q1
    cases h2 : decide (0 < d) with
    | false =>
      rw [h2] at HF q2
      go_enter Tryz.func182, Tryz.ntmps182
      go_wp2
      go_ret
      exact ⟨by rw [HF.out] <;> simp, by go_grown⟩
    | true =>
      rw [h2] at HF q2
      go_enter Tryz.func182, Tryz.ntmps182
      go_wp2
      go_ret
      exact ⟨by rw [HF.out] <;> simp, by go_grown⟩
set_option maxHeartbeats 1000000 in
theorem most_calls (v d : Nat) (hv : v ≤ 999) (w : World) : Calls Tryz.prog 183 #[.agg #[.int .i64 v, .int .i64 d]] w fun en w' => en = .returned (.int .i64 (mostD v d)) ∧ Below w.heap.size w w' := by
  have HF := Lib.hid (full_calls v d)
  have HM := Lib.hid (show mostD v d = if fullD v d = true then v else 10 * v + 9 from rfl)
  generalize mostD v d = M at *
  have hC := Blk.new w #[.int .i64 v, .int .i64 d] 219
  have hB : Below w.heap.size w (w.alloc (.cells #[.int .i64 v, .int .i64 d] 219)) := by go_grown
  have hz : w.heap.size ≤ (w.alloc (.cells #[.int .i64 v, .int .i64 d] 219)).heap.size := by simp
  cases h : fullD v d with
  | true =>
    rw [h] at HF HM
    obtain rfl : M = v := HM.out
    clear HM h
    go_enter Tryz.func183, Tryz.ntmps183
    go_wp2_with fail
    refine (HF.out _).mono ?_
    rintro e w1 ⟨rfl, hb⟩
    have c0 := (hC.below hb hC.lt).cell 0
    simp only [List.getElem?_toArray, List.getElem?_cons_zero] at c0
    have hB2 := hB.trans (hb.mono hz)
    clear hB hC hb HF
    go_wp2_with fail
    go_ret
    exact ⟨rfl, hB2⟩
  | false =>
    rw [h] at HF HM
    obtain rfl : M = 10 * v + 9 := HM.out
    clear HM h
    go_enter Tryz.func183, Tryz.ntmps183
    go_wp2_with fail
    refine (HF.out _).mono ?_
    rintro e w1 ⟨rfl, hb⟩
    have c0 := (hC.below hb hC.lt).cell 0
    simp only [List.getElem?_toArray, List.getElem?_cons_zero] at c0
    have hB2 := hB.trans (hb.mono hz)
    clear hB hC hb HF
    go_wp2_with fail
    go_ret
    exact ⟨by simp, hB2⟩
theorem rightN_nat (n m : Int) : rightN n m = (decide (0 ≤ n) && decide (n ≤ 99) && (m == -1 || (decide (n ≤ m) && decide (m ≤ 99)))) := rfl
set_option maxHeartbeats 1000000 in
theorem right_calls (n m : Int) (w : World) : Calls Tryz.prog 82 #[.agg #[.int .i64 n, .int .i64 m]] w fun en w' => en = .returned (.bool (rightN n m)) ∧ Below w.heap.size w w' := by
  have HF := Lib.hid (rightN_nat n m)
  generalize rightN n m = R at *
  by_cases h1 : n < 0
  · have q : decide (n < 0) = true := by simpa using h1
    have q0 : decide (0 ≤ n) = false := by rw [decide_eq_false_iff_not]; omega
    have hR : R = false := by rw [HF.out, q0]; rfl
    subst hR
    clear HF q0 h1
    go_enter Tryz.func82, Tryz.ntmps82
    go_wp2
    go_ret
    exact ⟨rfl, by go_grown⟩
  have q0 : decide (0 ≤ n) = true := by rw [decide_eq_true_iff]; omega
  rw [q0] at HF
  have q : decide (n < 0) = false := by rw [decide_eq_false_iff_not]; omega
  by_cases h2 : 99 < n
  · have q1 : decide (99 < n) = true := by simpa using h2
    have q3 : decide (n ≤ 99) = false := by rw [decide_eq_false_iff_not]; omega
    have hR : R = false := by rw [HF.out, q3]; rfl
    subst hR
    clear HF q0 h1 q3
    go_enter Tryz.func82, Tryz.ntmps82
    go_wp2
    go_ret
    exact ⟨rfl, by go_grown⟩
  have q1 : decide (99 < n) = false := by rw [decide_eq_false_iff_not]; omega
  have q3 : decide (n ≤ 99) = true := by rw [decide_eq_true_iff]; omega
  rw [q3] at HF
  clear q3 q0
  cases e1 : (m == -1) with
  | true =>
    rw [e1] at HF
    have hR : R = true := by rw [HF.out]; rfl
    subst hR
    clear HF h1 h2
    go_enter Tryz.func82, Tryz.ntmps82
    go_wp2
    go_ret
    exact ⟨rfl, by go_grown⟩
  | false =>
    rw [e1] at HF
    cases e2 : decide (n ≤ m) with
    | false =>
      rw [e2] at HF
      have hR : R = false := by rw [HF.out]; rfl
      subst hR
      clear HF h1 h2
      go_enter Tryz.func82, Tryz.ntmps82
      go_wp2
      go_ret
      exact ⟨rfl, by go_grown⟩
    | true =>
      rw [e2] at HF
      have hR : R = decide (m ≤ 99) := by rw [HF.out]; simp
      subst hR
      clear HF h1 h2
      go_enter Tryz.func82, Tryz.ntmps82
      go_wp2
      go_ret
      exact ⟨rfl, by go_grown⟩
set_option maxRecDepth 100000 in
set_option maxHeartbeats 1000000 in
theorem shortR_calls (s l : ByteArray) (w : World) : Calls Tryz.prog 180 #[.string s, .string l] w fun en w' => en = .returned (.agg (rdI 0 0 s.size l 2)) ∧ Below w.heap.size w w' := by
  have HF := Lib.hid (faultD_calls 2 s.size)
  have hC := Blk.new w (rdI 0 0 0 eT 0) 215
  have hB : Below w.heap.size w (w.alloc (.cells (rdI 0 0 0 eT 0) 215)) := by go_grown
  have hz : w.heap.size + 1 ≤ (w.alloc (.cells (rdI 0 0 0 eT 0) 215)).heap.size := by simp
  go_enter Tryz.func180, Tryz.ntmps180
  go_upto_region 1 with fail
  have e0 : w.alloc (.cells #[.int .i64 0, .int .i64 0, .int .i64 0, .string ⟨#[]⟩, .int .i64 0] 215) = w.alloc (.cells (rdI 0 0 0 eT 0) 215) := rfl
  rw [e0]
  clear e0
  generalize w.alloc (.cells (rdI 0 0 0 eT 0) 215) = w1 at *
  go_wp2_with fail
  refine (HF.out _).mono ?_
  rintro e w2 ⟨rfl, hb⟩
  have HR := Lib.hid ((hC.below hb hC.lt).alloc (.cells (rdI 0 0 s.size eT 2) 215))
  have HS := Lib.hid (Blk.new w2 (rdI 0 0 s.size eT 2) 215)
  have hz2 := Nat.le_trans hz hb.size
  have HB := Lib.hid ((hB.trans (hb.mono (by omega))).alloc (by omega) (.cells (rdI 0 0 s.size eT 2) 215))
  clear hC hB hz hb HF
  go_upto_region 2 with fail
  have e0 : w2.alloc (.cells #[.int .i64 0, .int .i64 0, .int .i64 s.size, .string ⟨#[]⟩, .int .i64 2] 215) = w2.alloc (.cells (rdI 0 0 s.size eT 2) 215) := rfl
  try rw [e0]
  clear e0
  generalize w2.alloc (.cells (rdI 0 0 s.size eT 2) 215) = w3 at *
  generalize w2.heap.size = B at *
  have c3 := HS.out.cell 3
  have f3 := HS.out.frozen 3
  simp only [List.getElem?_toArray, List.getElem?_cons_zero, List.getElem?_cons_succ] at c3
  go_upto_region 3 with fail
  clear c3 f3
  have hne : w.heap.size ≠ B := by omega
  have HR2 := Lib.hid (HR.out.other hne 3 (.string l))
  have hS2 : Blk (w3.setCell ⟨B, 3, none⟩ (.string l)) B (rdI 0 0 s.size l 2) 215 := HS.out.set 3 (.string l)
  have HB2 := Lib.hid (below_set HB.out (show w.heap.size ≤ B by omega) 3 (.string l))
  clear HR HS HB
  generalize w3.setCell ⟨B, 3, none⟩ (.string l) = w4 at *
  have c0 := hS2.cell 0
  have c1 := hS2.cell 1
  have c2 := hS2.cell 2
  have c3 := hS2.cell 3
  have c4 := hS2.cell 4
  simp only [List.getElem?_toArray, List.getElem?_cons_zero, List.getElem?_cons_succ] at c0 c1 c2 c3 c4
  clear hS2
  have HR := HR2
  go_wp2_with ((with_reducible refine wpList_store_st (o := ⟨none, .store 215 _ _, _, _, _, _⟩) rfl 215 _ _ rfl w.heap.size rfl rfl (run_storeAt_row _ w.heap.size 215 215 (rdI 0 0 0 eT 0) (rdI 0 0 s.size l 2) ?_ ?_ ?_ ?_) ?_); exact HR.out; exact infoRd; rfl; exact rdC_one _ _ _ _ _)
  exact bodyPost_ret (v := .agg (rdI 0 0 s.size l 2)) (results_cell_row rfl _ _ w.heap.size 215 (rdI 0 0 s.size l 2) (0, 0) _ rfl (Blk.setRow HR.out) Tryz.underlying215 rfl infoRd) rfl ⟨rfl, below_row HB2.out (by omega) _⟩
end Go.Proofs.YtbccojjcdcighaaGreatDoor

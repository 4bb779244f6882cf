/- The developers' counts: plainly; fault, short, signs, right, full, most. -/
import Derived.Test.YtjgokhhpfgnceaaDoorNp
import Derived.Test.YtjgokhhpfgnceaaDoorBl
import Derived.Lib.Hide
import Derived.LoopTactic
import Derived.Handy
import Derived.WalkLawsBesides
import Derived.IntWalk
import Derived.BigQuiet
import Derived.Outline
import Derived.Deep.QuietTactic
import Derived.Deep.DeepCutAuto
import Derived.Laws.ResultCell
namespace Go.Proofs.YtjgokhhpfgnceaaDoor
open Go.RowKit

/-! ### Plainly -/
def fullD (v d : Nat) : Bool := d == 2 || (decide (0 < d) && v == 0)
def mostD (v d : Nat) : Nat := if fullD v d = true then v else 10 * v + 9
/-- Value, digits, place, error. -/
def digD (s : ByteArray) (least : Nat) : Nat → Nat → Nat → Nat → Nat × Nat × Nat × Nat
  | 0, i, v, d => (v, d, i, 0)
  | k + 1, i, v, d =>
    if 48 ≤ bt s i ∧ bt s i ≤ 57 then
      if fullD v d = true then (0, 0, i + 1, 6)
      else if mostD (10 * v + (bt s i - 48)) (d + 1) < least then (0, 0, i + 1, 6)
      else digD s least k (i + 1) (10 * v + (bt s i - 48)) (d + 1)
    else (v, d, i, 0)
def digsD (s : ByteArray) (i least : Nat) : Nat × Nat × Nat × Nat := digD s least (s.size - i) i 0 0
structure RD where
  n : Nat
  m : Int
  fin : Nat
  lack : List Nat
  err : Nat
def badC (e p : Nat) : RD := ⟨0, 0, p, [], e⟩
def shortR (s : ByteArray) (l : List Nat) : RD := ⟨0, 0, s.size, l, 2⟩
def okR (n : Nat) (m : Int) (p : Nat) : RD := ⟨n, m, p, [], 0⟩
def lessD (v d n : Nat) : Bool := decide (0 < d) && decide (v < n)
def commaD (s : ByteArray) (i n : Nat) : RD :=
  match digsD s i n with
  | (v, d, p, e) =>
    if e ≠ 0 then badC e p
    else if p = s.size ∧ lessD v d n = true then shortR s [57, 125]
    else if p = s.size then shortR s [125]
    else if bt s p ≠ 125 then badC 3 (p + 1)
    else if lessD v d n = true then badC 6 (p + 1)
    else if d = 0 then okR n (-1) (p + 1)
    else okR n v (p + 1)
def bracesD (s : ByteArray) (i : Nat) : RD :=
  match digsD s i 0 with
  | (v, d, p, e) =>
    if e ≠ 0 then badC e p
    else if p = s.size ∧ d = 0 then shortR s [48, 125]
    else if p = s.size then shortR s [125]
    else if 0 < d ∧ bt s p = 125 then okR v v (p + 1)
    else if 0 < d ∧ bt s p = 44 then commaD s (p + 1) v
    else badC 3 (p + 1)
def readD4 (s : ByteArray) (at' : Int) : RD :=
  if at' < 0 ∨ (s.size : Int) ≤ at' then badC 1 0
  else if bt s at'.toNat = 123 then bracesD s (at'.toNat + 1)
  else if bt s at'.toNat = 42 then okR 0 (-1) (at'.toNat + 1)
  else if bt s at'.toNat = 43 then okR 1 (-1) (at'.toNat + 1)
  else if bt s at'.toNat = 63 then okR 0 1 (at'.toNat + 1)
  else badC 1 0

/-! ### Small functions -/
@[reducible] def rdI (n m p : Int) (l : ByteArray) (e : Int) : Array Value := #[.int .i64 n, .int .i64 m, .int .i64 p, .string l, .int .i64 e]
def rdA (r : RD) : Array Value := rdI r.n r.m r.fin (ofT r.lack) r.err
theorem rdC_one (n m p : Int) (l : ByteArray) (e : Int) : ((rdI n m p l e).all fun x => x.oneCell') = true := by simp [Value.oneCell']
@[reducible] def sgI : Array Value := #[.int .u8 42, .int .i64 0, .int .i64 (-1), .int .u8 43, .int .i64 1, .int .i64 (-1), .int .u8 63, .int .i64 0, .int .i64 1]
theorem infoSg : (Tryd.prog.info? 53).map (·.size) = some 9 := by kernel_rfl
set_option maxRecDepth 100000 in
set_option maxHeartbeats 1000000 in
theorem signs_calls (w : World) : Calls Tryd.prog 38 #[] w fun en w' => en = .returned (.agg sgI) ∧ Below w.heap.size w w' := by
  go_enter Tryd.func38, Tryd.ntmps38
  go_wp2
  have hR := Blk.new w sgI 53
  have hB : Below w.heap.size w (w.alloc (.cells sgI 53)) := by go_grown
  exact bodyPost_ret (v := .agg sgI) (results_cell_row rfl _ _ w.heap.size 53 sgI (0, 0) _ rfl hR Tryd.underlying53 rfl infoSg) rfl ⟨rfl, hB⟩

theorem rightN_nat (n m : Int) : rightN n m = (decide (0 ≤ n) && decide (n ≤ 99) && (m == -1 || (decide (n ≤ m) && decide (m ≤ 99)))) := rfl
set_option maxHeartbeats 1000000 in
theorem right_calls (n m : Int) (w : World) : Calls Tryd.prog 37 #[.agg #[.int .i64 n, .int .i64 m]] w fun en w' => en = .returned (.bool (rightN n m)) ∧ Below w.heap.size w w' := by
  have HF := Lib.hid (rightN_nat n m)
  generalize rightN n m = R at *
  by_cases h1 : n < 0
  · have q : decide (n < 0) = true := by simpa using h1
    have q0 : decide (0 ≤ n) = false := by rw [decide_eq_false_iff_not]; omega
    have hR : R = false := by rw [HF.out, q0]; rfl
    subst hR
    clear HF q0 h1
    go_enter Tryd.func37, Tryd.ntmps37
    go_wp2
    go_ret
    exact ⟨rfl, by go_grown⟩
  have q0 : decide (0 ≤ n) = true := by rw [decide_eq_true_iff]; omega
  rw [q0] at HF
  have q : decide (n < 0) = false := by rw [decide_eq_false_iff_not]; omega
  by_cases h2 : 99 < n
  · have q1 : decide (99 < n) = true := by simpa using h2
    have q3 : decide (n ≤ 99) = false := by rw [decide_eq_false_iff_not]; omega
    have hR : R = false := by rw [HF.out, q3]; rfl
    subst hR
    clear HF q0 h1 q3
    go_enter Tryd.func37, Tryd.ntmps37
    go_wp2
    go_ret
    exact ⟨rfl, by go_grown⟩
  have q1 : decide (99 < n) = false := by rw [decide_eq_false_iff_not]; omega
  have q3 : decide (n ≤ 99) = true := by rw [decide_eq_true_iff]; omega
  rw [q3] at HF
  clear q3 q0
  cases e1 : (m == -1) with
  | true =>
    rw [e1] at HF
    have hR : R = true := by rw [HF.out]; rfl
    subst hR
    clear HF h1 h2
    go_enter Tryd.func37, Tryd.ntmps37
    go_wp2
    go_ret
    exact ⟨rfl, by go_grown⟩
  | false =>
    rw [e1] at HF
    cases e2 : decide (n ≤ m) with
    | false =>
      rw [e2] at HF
      have hR : R = false := by rw [HF.out]; rfl
      subst hR
      clear HF h1 h2
      go_enter Tryd.func37, Tryd.ntmps37
      go_wp2
      go_ret
      exact ⟨rfl, by go_grown⟩
    | true =>
      rw [e2] at HF
      have hR : R = decide (m ≤ 99) := by rw [HF.out]; simp
      subst hR
      clear HF h1 h2
      go_enter Tryd.func37, Tryd.ntmps37
      go_wp2
      go_ret
      exact ⟨rfl, by go_grown⟩

end Go.Proofs.YtjgokhhpfgnceaaDoor

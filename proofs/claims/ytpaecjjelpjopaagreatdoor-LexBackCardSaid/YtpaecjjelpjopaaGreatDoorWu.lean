/- The developers' words: Print. -/
import Derived.Test.YtpaecjjelpjopaaGreatDoorWs
import Derived.Test.YtpaecjjelpjopaaGreatDoorMd
import Derived.Test.YtpaecjjelpjopaaGreatDoorVt
namespace Go.Proofs.YtpaecjjelpjopaaGreatDoor
open Go.RowKit Go.Shelf BS

set_option maxRecDepth 100000 in
set_option maxHeartbeats 8000000 in
theorem openNumber_calls (w : World) : Calls Tryz.prog 88 #[.agg #[]] w fun en w' => en = .returned (.int .i64 2) ∧ Below w.heap.size w w' := by
  go_enter Tryz.func88, Tryz.ntmps88
  go_wp2_with fail
  go_ret
  exact ⟨rfl, by go_grown⟩
set_option maxRecDepth 100000 in
set_option maxHeartbeats 8000000 in
theorem openPrint_calls (k a e : Int) (t : BitVec 256) (n m : Int) (w : World) : Calls Tryz.prog 89 #[.agg #[], .agg (woI k a e t n m)] w fun en w' => en = .returned (.string (ofT [40])) ∧ Below w.heap.size w w' := by
  go_enter Tryz.func89, Tryz.ntmps89
  go_wp2_with fail
  go_ret
  exact ⟨rfl, by go_grown⟩
set_option maxRecDepth 100000 in
set_option maxHeartbeats 8000000 in
theorem shutNumber_calls (w : World) : Calls Tryz.prog 93 #[.agg #[]] w fun en w' => en = .returned (.int .i64 3) ∧ Below w.heap.size w w' := by
  go_enter Tryz.func93, Tryz.ntmps93
  go_wp2_with fail
  go_ret
  exact ⟨rfl, by go_grown⟩
set_option maxRecDepth 100000 in
set_option maxHeartbeats 8000000 in
theorem shutPrint_calls (k a e : Int) (t : BitVec 256) (n m : Int) (w : World) : Calls Tryz.prog 94 #[.agg #[], .agg (woI k a e t n m)] w fun en w' => en = .returned (.string (ofT [41])) ∧ Below w.heap.size w w' := by
  go_enter Tryz.func94, Tryz.ntmps94
  go_wp2_with fail
  go_ret
  exact ⟨rfl, by go_grown⟩
set_option maxRecDepth 100000 in
set_option maxHeartbeats 8000000 in
theorem barNumber_calls (w : World) : Calls Tryz.prog 97 #[.agg #[]] w fun en w' => en = .returned (.int .i64 4) ∧ Below w.heap.size w w' := by
  go_enter Tryz.func97, Tryz.ntmps97
  go_wp2_with fail
  go_ret
  exact ⟨rfl, by go_grown⟩
set_option maxRecDepth 100000 in
set_option maxHeartbeats 8000000 in
theorem barPrint_calls (k a e : Int) (t : BitVec 256) (n m : Int) (w : World) : Calls Tryz.prog 98 #[.agg #[], .agg (woI k a e t n m)] w fun en w' => en = .returned (.string (ofT [124])) ∧ Below w.heap.size w w' := by
  go_enter Tryz.func98, Tryz.ntmps98
  go_wp2_with fail
  go_ret
  exact ⟨rfl, by go_grown⟩
set_option maxRecDepth 100000 in
set_option maxHeartbeats 8000000 in
theorem repNumber_calls (w : World) : Calls Tryz.prog 101 #[.agg #[]] w fun en w' => en = .returned (.int .i64 5) ∧ Below w.heap.size w w' := by
  go_enter Tryz.func101, Tryz.ntmps101
  go_wp2_with fail
  go_ret
  exact ⟨rfl, by go_grown⟩
set_option maxRecDepth 100000 in
set_option maxHeartbeats 8000000 in
theorem repPrint_calls (k a e : Int) (t : BitVec 256) (n m : Int) (w : World) : Calls Tryz.prog 102 #[.agg #[], .agg (woI k a e t n m)] w fun en w' => en = .returned (.string (ofT (textN n m))) ∧ Below w.heap.size w w' := by
  have HC := Lib.hid (Blk.new (w.alloc (.cells #[] 91)) (woI k a e t n m) 27)
  rw [World.size_alloc] at HC
  have HB : Hid (Below w.heap.size w ((w.alloc (.cells #[] 91)).alloc (.cells (woI k a e t n m) 27))) := Lib.hid (by go_grown)
  have hz : w.heap.size + 2 ≤ ((w.alloc (.cells #[] 91)).alloc (.cells (woI k a e t n m) 27)).heap.size := by simp
  have HX := Lib.hid (bText_calls n m)
  go_enter Tryz.func102, Tryz.ntmps102
  go_upto_region 1 with fail
  have e0 : (w.alloc (.cells #[] 91)).alloc (.cells #[.int .i64 k, .int .i64 a, .int .i64 e, .int .u64 (wd t 0), .int .u64 (wd t 1), .int .u64 (wd t 2), .int .u64 (wd t 3), .int .i64 n, .int .i64 m] 27) = (w.alloc (.cells #[] 91)).alloc (.cells (woI k a e t n m) 27) := rfl
  try rw [e0]
  clear e0
  generalize (w.alloc (.cells #[] 91)).alloc (.cells (woI k a e t n m) 27) = w1 at *
  have c7 := HC.out.cell 7; have c8 := HC.out.cell 8
  simp only [List.getElem?_toArray, List.getElem?_cons_zero, List.getElem?_cons_succ] at c7 c8
  generalize hTX : (textN n m) = L at HX
  have HTX := Lib.hid hTX
  clear hTX
  go_wp2_with fail
  refine (HX.out _).mono ?_
  rintro en w2 ⟨rfl, hb⟩
  have hB2 := HB.out.trans (hb.mono (by omega))
  clear hb HX HB HC hz
  go_wp2_with fail
  go_ret
  exact ⟨by rw [HTX.out] <;> rfl, hB2⟩
set_option maxRecDepth 100000 in
set_option maxHeartbeats 8000000 in
theorem oneNumber_calls (w : World) : Calls Tryz.prog 131 #[.agg #[]] w fun en w' => en = .returned (.int .i64 1) ∧ Below w.heap.size w w' := by
  go_enter Tryz.func131, Tryz.ntmps131
  go_wp2_with fail
  go_ret
  exact ⟨rfl, by go_grown⟩
set_option maxRecDepth 100000 in
set_option maxHeartbeats 8000000 in
theorem onePrint_calls (k a e : Int) (t : BitVec 256) (n m : Int) (w : World) (hT : Tab w) (hgT : 0 < w.heap.size) : Calls Tryz.prog 132 #[.agg #[], .agg (woI k a e t n m)] w fun en w' => en = .returned (.string (ofT (textW t))) ∧ Below w.heap.size w w' := by
  have HC := Lib.hid (Blk.new (w.alloc (.cells #[] 92)) (woI k a e t n m) 27)
  rw [World.size_alloc] at HC
  have HB : Hid (Below w.heap.size w ((w.alloc (.cells #[] 92)).alloc (.cells (woI k a e t n m) 27))) := Lib.hid (by go_grown)
  have hz : w.heap.size + 2 ≤ ((w.alloc (.cells #[] 92)).alloc (.cells (woI k a e t n m) 27)).heap.size := by simp
  have HX := Lib.hid (text5_dev t _ (hT.keep HB.out hgT) (Nat.lt_of_lt_of_le hgT HB.out.size))
  clear hT hgT
  go_enter Tryz.func132, Tryz.ntmps132
  go_upto_region 1 with fail
  have e0 : (w.alloc (.cells #[] 92)).alloc (.cells #[.int .i64 k, .int .i64 a, .int .i64 e, .int .u64 (wd t 0), .int .u64 (wd t 1), .int .u64 (wd t 2), .int .u64 (wd t 3), .int .i64 n, .int .i64 m] 27) = (w.alloc (.cells #[] 92)).alloc (.cells (woI k a e t n m) 27) := rfl
  try rw [e0]
  clear e0
  generalize (w.alloc (.cells #[] 92)).alloc (.cells (woI k a e t n m) 27) = w1 at *
  have c3 := HC.out.cell 3; have c4 := HC.out.cell 4; have c5 := HC.out.cell 5; have c6 := HC.out.cell 6
  simp only [List.getElem?_toArray, List.getElem?_cons_zero, List.getElem?_cons_succ] at c3 c4 c5 c6
  generalize hTX : (textW t) = L at HX
  have HTX := Lib.hid hTX
  clear hTX
  go_wp2_with fail
  refine (HX.out).mono ?_
  rintro en w2 ⟨rfl, hb⟩
  have hB2 := HB.out.trans (hb.mono (by omega))
  clear hb HX HB HC hz
  go_wp2_with fail
  go_ret
  exact ⟨by rw [HTX.out] <;> rfl, hB2⟩
theorem m_open_number (n : Nat) (w : World) : (method (n + 1) 88 (.agg #[]) "gimlet/lex.number").run Tryz.prog w = .ok (88, .agg #[]) w := by kernel_rfl
theorem m_open_print (n : Nat) (w : World) : (method (n + 1) 88 (.agg #[]) "gimlet/lex.print").run Tryz.prog w = .ok (89, .agg #[]) w := by kernel_rfl
theorem m_shut_number (n : Nat) (w : World) : (method (n + 1) 89 (.agg #[]) "gimlet/lex.number").run Tryz.prog w = .ok (93, .agg #[]) w := by kernel_rfl
theorem m_shut_print (n : Nat) (w : World) : (method (n + 1) 89 (.agg #[]) "gimlet/lex.print").run Tryz.prog w = .ok (94, .agg #[]) w := by kernel_rfl
theorem m_bar_number (n : Nat) (w : World) : (method (n + 1) 90 (.agg #[]) "gimlet/lex.number").run Tryz.prog w = .ok (97, .agg #[]) w := by kernel_rfl
theorem m_bar_print (n : Nat) (w : World) : (method (n + 1) 90 (.agg #[]) "gimlet/lex.print").run Tryz.prog w = .ok (98, .agg #[]) w := by kernel_rfl
theorem m_rep_number (n : Nat) (w : World) : (method (n + 1) 91 (.agg #[]) "gimlet/lex.number").run Tryz.prog w = .ok (101, .agg #[]) w := by kernel_rfl
theorem m_rep_print (n : Nat) (w : World) : (method (n + 1) 91 (.agg #[]) "gimlet/lex.print").run Tryz.prog w = .ok (102, .agg #[]) w := by kernel_rfl
theorem m_one_number (n : Nat) (w : World) : (method (n + 1) 92 (.agg #[]) "gimlet/lex.number").run Tryz.prog w = .ok (131, .agg #[]) w := by kernel_rfl
theorem m_one_print (n : Nat) (w : World) : (method (n + 1) 92 (.agg #[]) "gimlet/lex.print").run Tryz.prog w = .ok (132, .agg #[]) w := by kernel_rfl

def SP5 (w : World) (d : Array Value) (W : World) : Prop := (Blk W w.heap.size d 27 ∧ w.heap.size + 1 ≤ W.heap.size) ∧ Below w.heap.size w W
theorem SP5.drewS {w W : World} {d : Array Value} (h : SP5 w d W) : SP5 w d W.drew := ⟨⟨h.1.1, h.1.2⟩, h.2.drew⟩
theorem SP5.go {w W W' : World} {d : Array Value} (h : SP5 w d W) (hb : Below W.heap.size W W') : SP5 w d W' := ⟨⟨h.1.1.below hb h.1.1.lt, Nat.le_trans h.1.2 hb.size⟩, h.2.trans (hb.mono (by have := h.1.2; omega))⟩
def TabH (W : World) : Prop := Tab W ∧ 0 < W.heap.size
theorem TabH.below {W W' : World} (h : TabH W) (hb : Below W.heap.size W W') : TabH W' := ⟨h.1.keep hb h.2, Nat.lt_of_lt_of_le h.2 hb.size⟩
def numK (j : Nat) : Int := if j = 0 then 2 else if j = 1 then 3 else if j = 2 then 4 else if j = 3 then 5 else 1
set_option maxRecDepth 100000 in
set_option maxHeartbeats 16000000 in
theorem print5_dev (k a e : Int) (t : BitVec 256) (n m : Int) (w : World) (hT : TabH w) : Calls Tryz.prog 15 #[.agg (woI k a e t n m)] w fun en w' => en = .returned (.string (ofT (printV k t n m))) ∧ Below w.heap.size w w' := by
  have HK := Lib.hid kinds_calls
  have HS := Lib.hid (show SP5 w (woI k a e t n m) (w.alloc (.cells (woI k a e t n m) 27)) from ⟨⟨Blk.new w _ _, by simp⟩, by go_grown⟩)
  have HT := Lib.hid hT
  clear hT
  go_enter Tryz.func15, Tryz.ntmps15
  go_upto_region 1 with fail
  have e0 : w.alloc (.cells #[.int .i64 k, .int .i64 a, .int .i64 e, .int .u64 (wd t 0), .int .u64 (wd t 1), .int .u64 (wd t 2), .int .u64 (wd t 3), .int .i64 n, .int .i64 m] 27) = w.alloc (.cells (woI k a e t n m) 27) := rfl
  try rw [e0]
  clear e0
  generalize w.alloc (.cells (woI k a e t n m) 27) = w1 at *
  go_wp2_with fail
  refine (HK.out _).mono ?_
  rintro en w2 ⟨rfl, hb⟩
  replace HS := Lib.hid (HS.out.go hb)
  clear hb HK
  go_wp2_with fail
  go_loopw [6] (fun i wr => ∃ j : Nat, j ≤ 5 ∧ i = .int .i64 j ∧ (∀ i, i < j → k ≠ numK i) ∧ SP5 w (woI k a e t n m) wr) (fun i _ => 5 - (intOf i).toNat)
  case atStart => exact ⟨0, by omega, rfl, fun j hj => by omega, HS.out⟩
  case round =>
  clear HS
  obtain ⟨j, hj, rfl, hno, hS0⟩ := hrel
  obtain rfl | rfl | rfl | rfl | rfl | rfl : j = 0 ∨ j = 1 ∨ j = 2 ∨ j = 3 ∨ j = 4 ∨ j = 5 := by omega
  · -- open
    have hnu := openNumber_calls
    have HPR := Lib.hid (openPrint_calls k a e t n m)
    have m1 := m_open_number
    have m2 := m_open_print
    have m4 := ix_open
    have HP : Hid (k = 2 → printV k t n m = [40]) := Lib.hid (fun h => by subst h; rfl)
    generalize [40] = L at HPR HP
    generalize hx : ((2 : Int) == k) = x
    have HX := Lib.hid hx
    have HNO := Lib.hid hno
    clear hno
    go_upto_region 4 with fail
    refine region_steps (S := SP5 w (woI k a e t n m)) (by kernel_rfl) (SP5.drewS hS0) ?_
    clear hS0
    simp only [List.size_toArray, List.length_cons, List.length_nil, Nat.reduceAdd, Array.replicate_succ, Array.replicate_zero, List.push_toArray, List.nil_append, List.cons_append]
    refine AnyS.stepE (i := 0) (d := some 9) rfl rfl (by kernel_rfl) (by kernel_rfl) (by kernel_rfl) ?_
    apply Exists.intro
    apply And.intro
    · apply StepsIf.yield
      · kernel_rfl
      intro w' hS
      clear hS; go_simp
      rfl
    intro a' ha'
    simp only [Act.put, List.setIfInBounds_toArray, List.set_cons_zero, List.set_cons_succ] at ha'
    subst ha'
    refine AnyS.next (i := 1) (d := some 10) (v := .int .i64 2) rfl rfl (by kernel_rfl) (by kernel_rfl) (by kernel_rfl) (StepsIf.call (by kernel_rfl) (fun w' hS => by clear hS; go_simp) (fun w' hS => (hnu w').mono fun e w'' h => ⟨h.1, hS.go h.2⟩)) ?_
    intro a' ha'
    simp only [Act.put, List.setIfInBounds_toArray, List.set_cons_zero, List.set_cons_succ] at ha'
    subst ha'
    refine AnyS.stepE (i := 2) (d := some 11) rfl rfl (by kernel_rfl) (by kernel_rfl) (by kernel_rfl) ?_
    apply Exists.intro
    apply And.intro
    · apply StepsIf.yield
      · kernel_rfl
      intro w' hS
      clear hS; go_simp
      rfl
    intro a' ha'
    simp only [Act.put, List.setIfInBounds_toArray, List.set_cons_zero, List.set_cons_succ] at ha'
    subst ha'
    refine AnyS.next (i := 3) (d := some 12) (v := .int .i64 k) rfl rfl (by kernel_rfl) (by kernel_rfl) (by kernel_rfl) (StepsIf.yield (by kernel_rfl) (fun w' hS => by have c0 := hS.1.1.cell 0; simp only [List.getElem?_toArray, List.getElem?_cons_zero] at c0; clear hS; go_simp)) ?_
    intro a' ha'
    simp only [Act.put, List.setIfInBounds_toArray, List.set_cons_zero, List.set_cons_succ] at ha'
    subst ha'
    refine AnyS.next (i := 4) (d := some 13) (v := .bool x) rfl rfl (by kernel_rfl) (by kernel_rfl) (by kernel_rfl) (StepsIf.yield (by kernel_rfl) (fun w' hS => by clear hS; go_simp)) ?_
    intro a' ha'
    simp only [Act.put, List.setIfInBounds_toArray, List.set_cons_zero, List.set_cons_succ] at ha'
    subst ha'
    refine AnyS.done (by kernel_rfl) ?_ _
    intro w2 hS2
    clear hnu m1 m4 hx
    cases x with
    | true =>
      have hk : k = 2 := by have := HX.out; rw [beq_iff_eq] at this; omega
      have HR := Lib.hid (HP.out hk)
      clear HP HX HNO hk
      have c0 := hS2.1.1.cell 0; have c1 := hS2.1.1.cell 1; have c2 := hS2.1.1.cell 2; have c3 := hS2.1.1.cell 3; have c4 := hS2.1.1.cell 4; have c5 := hS2.1.1.cell 5; have c6 := hS2.1.1.cell 6; have c7 := hS2.1.1.cell 7; have c8 := hS2.1.1.cell 8
      simp only [List.getElem?_toArray, List.getElem?_cons_zero, List.getElem?_cons_succ] at c0 c1 c2 c3 c4 c5 c6 c7 c8
      have HS2 := Lib.hid hS2
      clear hS2
      go_wp2_with fail
      refine (HPR.out _).mono ?_
      rintro en w3 ⟨rfl, hb⟩
      have hS3 := HS2.out.go hb
      clear hb HPR HS2 c0 c1 c2 c3 c4 c5 c6 c7 c8
      go_wp2_with fail
      go_ret
      exact ⟨by rw [HR.out] <;> rfl, hS3.2⟩
    | false =>
      have hk : k ≠ 2 := by have := HX.out; rw [beq_eq_false_iff_ne] at this; omega
      clear HP HPR m2
      go_wp2_with fail
      go_roundw
      case rel =>
        refine ⟨1, by omega, by simp, fun i hi => ?_, hS2⟩
        by_cases hij : i = 0
        · subst hij; exact hk
        · exact HNO.out i (by omega)
      case measure => simp [intOf]
  · -- shut
    have hnu := shutNumber_calls
    have HPR := Lib.hid (shutPrint_calls k a e t n m)
    have m1 := m_shut_number
    have m2 := m_shut_print
    have m4 := ix_shut
    have HP : Hid (k = 3 → printV k t n m = [41]) := Lib.hid (fun h => by subst h; rfl)
    generalize [41] = L at HPR HP
    generalize hx : ((3 : Int) == k) = x
    have HX := Lib.hid hx
    have HNO := Lib.hid hno
    clear hno
    go_upto_region 4 with fail
    refine region_steps (S := SP5 w (woI k a e t n m)) (by kernel_rfl) (SP5.drewS hS0) ?_
    clear hS0
    simp only [List.size_toArray, List.length_cons, List.length_nil, Nat.reduceAdd, Array.replicate_succ, Array.replicate_zero, List.push_toArray, List.nil_append, List.cons_append]
    refine AnyS.stepE (i := 0) (d := some 9) rfl rfl (by kernel_rfl) (by kernel_rfl) (by kernel_rfl) ?_
    apply Exists.intro
    apply And.intro
    · apply StepsIf.yield
      · kernel_rfl
      intro w' hS
      clear hS; go_simp
      rfl
    intro a' ha'
    simp only [Act.put, List.setIfInBounds_toArray, List.set_cons_zero, List.set_cons_succ] at ha'
    subst ha'
    refine AnyS.next (i := 1) (d := some 10) (v := .int .i64 3) rfl rfl (by kernel_rfl) (by kernel_rfl) (by kernel_rfl) (StepsIf.call (by kernel_rfl) (fun w' hS => by clear hS; go_simp) (fun w' hS => (hnu w').mono fun e w'' h => ⟨h.1, hS.go h.2⟩)) ?_
    intro a' ha'
    simp only [Act.put, List.setIfInBounds_toArray, List.set_cons_zero, List.set_cons_succ] at ha'
    subst ha'
    refine AnyS.stepE (i := 2) (d := some 11) rfl rfl (by kernel_rfl) (by kernel_rfl) (by kernel_rfl) ?_
    apply Exists.intro
    apply And.intro
    · apply StepsIf.yield
      · kernel_rfl
      intro w' hS
      clear hS; go_simp
      rfl
    intro a' ha'
    simp only [Act.put, List.setIfInBounds_toArray, List.set_cons_zero, List.set_cons_succ] at ha'
    subst ha'
    refine AnyS.next (i := 3) (d := some 12) (v := .int .i64 k) rfl rfl (by kernel_rfl) (by kernel_rfl) (by kernel_rfl) (StepsIf.yield (by kernel_rfl) (fun w' hS => by have c0 := hS.1.1.cell 0; simp only [List.getElem?_toArray, List.getElem?_cons_zero] at c0; clear hS; go_simp)) ?_
    intro a' ha'
    simp only [Act.put, List.setIfInBounds_toArray, List.set_cons_zero, List.set_cons_succ] at ha'
    subst ha'
    refine AnyS.next (i := 4) (d := some 13) (v := .bool x) rfl rfl (by kernel_rfl) (by kernel_rfl) (by kernel_rfl) (StepsIf.yield (by kernel_rfl) (fun w' hS => by clear hS; go_simp)) ?_
    intro a' ha'
    simp only [Act.put, List.setIfInBounds_toArray, List.set_cons_zero, List.set_cons_succ] at ha'
    subst ha'
    refine AnyS.done (by kernel_rfl) ?_ _
    intro w2 hS2
    clear hnu m1 m4 hx
    cases x with
    | true =>
      have hk : k = 3 := by have := HX.out; rw [beq_iff_eq] at this; omega
      have HR := Lib.hid (HP.out hk)
      clear HP HX HNO hk
      have c0 := hS2.1.1.cell 0; have c1 := hS2.1.1.cell 1; have c2 := hS2.1.1.cell 2; have c3 := hS2.1.1.cell 3; have c4 := hS2.1.1.cell 4; have c5 := hS2.1.1.cell 5; have c6 := hS2.1.1.cell 6; have c7 := hS2.1.1.cell 7; have c8 := hS2.1.1.cell 8
      simp only [List.getElem?_toArray, List.getElem?_cons_zero, List.getElem?_cons_succ] at c0 c1 c2 c3 c4 c5 c6 c7 c8
      have HS2 := Lib.hid hS2
      clear hS2
      go_wp2_with fail
      refine (HPR.out _).mono ?_
      rintro en w3 ⟨rfl, hb⟩
      have hS3 := HS2.out.go hb
      clear hb HPR HS2 c0 c1 c2 c3 c4 c5 c6 c7 c8
      go_wp2_with fail
      go_ret
      exact ⟨by rw [HR.out] <;> rfl, hS3.2⟩
    | false =>
      have hk : k ≠ 3 := by have := HX.out; rw [beq_eq_false_iff_ne] at this; omega
      clear HP HPR m2
      go_wp2_with fail
      go_roundw
      case rel =>
        refine ⟨2, by omega, by simp, fun i hi => ?_, hS2⟩
        by_cases hij : i = 1
        · subst hij; exact hk
        · exact HNO.out i (by omega)
      case measure => simp [intOf]
  · -- bar
    have hnu := barNumber_calls
    have HPR := Lib.hid (barPrint_calls k a e t n m)
    have m1 := m_bar_number
    have m2 := m_bar_print
    have m4 := ix_bar
    have HP : Hid (k = 4 → printV k t n m = [124]) := Lib.hid (fun h => by subst h; rfl)
    generalize [124] = L at HPR HP
    generalize hx : ((4 : Int) == k) = x
    have HX := Lib.hid hx
    have HNO := Lib.hid hno
    clear hno
    go_upto_region 4 with fail
    refine region_steps (S := SP5 w (woI k a e t n m)) (by kernel_rfl) (SP5.drewS hS0) ?_
    clear hS0
    simp only [List.size_toArray, List.length_cons, List.length_nil, Nat.reduceAdd, Array.replicate_succ, Array.replicate_zero, List.push_toArray, List.nil_append, List.cons_append]
    refine AnyS.stepE (i := 0) (d := some 9) rfl rfl (by kernel_rfl) (by kernel_rfl) (by kernel_rfl) ?_
    apply Exists.intro
    apply And.intro
    · apply StepsIf.yield
      · kernel_rfl
      intro w' hS
      clear hS; go_simp
      rfl
    intro a' ha'
    simp only [Act.put, List.setIfInBounds_toArray, List.set_cons_zero, List.set_cons_succ] at ha'
    subst ha'
    refine AnyS.next (i := 1) (d := some 10) (v := .int .i64 4) rfl rfl (by kernel_rfl) (by kernel_rfl) (by kernel_rfl) (StepsIf.call (by kernel_rfl) (fun w' hS => by clear hS; go_simp) (fun w' hS => (hnu w').mono fun e w'' h => ⟨h.1, hS.go h.2⟩)) ?_
    intro a' ha'
    simp only [Act.put, List.setIfInBounds_toArray, List.set_cons_zero, List.set_cons_succ] at ha'
    subst ha'
    refine AnyS.stepE (i := 2) (d := some 11) rfl rfl (by kernel_rfl) (by kernel_rfl) (by kernel_rfl) ?_
    apply Exists.intro
    apply And.intro
    · apply StepsIf.yield
      · kernel_rfl
      intro w' hS
      clear hS; go_simp
      rfl
    intro a' ha'
    simp only [Act.put, List.setIfInBounds_toArray, List.set_cons_zero, List.set_cons_succ] at ha'
    subst ha'
    refine AnyS.next (i := 3) (d := some 12) (v := .int .i64 k) rfl rfl (by kernel_rfl) (by kernel_rfl) (by kernel_rfl) (StepsIf.yield (by kernel_rfl) (fun w' hS => by have c0 := hS.1.1.cell 0; simp only [List.getElem?_toArray, List.getElem?_cons_zero] at c0; clear hS; go_simp)) ?_
    intro a' ha'
    simp only [Act.put, List.setIfInBounds_toArray, List.set_cons_zero, List.set_cons_succ] at ha'
    subst ha'
    refine AnyS.next (i := 4) (d := some 13) (v := .bool x) rfl rfl (by kernel_rfl) (by kernel_rfl) (by kernel_rfl) (StepsIf.yield (by kernel_rfl) (fun w' hS => by clear hS; go_simp)) ?_
    intro a' ha'
    simp only [Act.put, List.setIfInBounds_toArray, List.set_cons_zero, List.set_cons_succ] at ha'
    subst ha'
    refine AnyS.done (by kernel_rfl) ?_ _
    intro w2 hS2
    clear hnu m1 m4 hx
    cases x with
    | true =>
      have hk : k = 4 := by have := HX.out; rw [beq_iff_eq] at this; omega
      have HR := Lib.hid (HP.out hk)
      clear HP HX HNO hk
      have c0 := hS2.1.1.cell 0; have c1 := hS2.1.1.cell 1; have c2 := hS2.1.1.cell 2; have c3 := hS2.1.1.cell 3; have c4 := hS2.1.1.cell 4; have c5 := hS2.1.1.cell 5; have c6 := hS2.1.1.cell 6; have c7 := hS2.1.1.cell 7; have c8 := hS2.1.1.cell 8
      simp only [List.getElem?_toArray, List.getElem?_cons_zero, List.getElem?_cons_succ] at c0 c1 c2 c3 c4 c5 c6 c7 c8
      have HS2 := Lib.hid hS2
      clear hS2
      go_wp2_with fail
      refine (HPR.out _).mono ?_
      rintro en w3 ⟨rfl, hb⟩
      have hS3 := HS2.out.go hb
      clear hb HPR HS2 c0 c1 c2 c3 c4 c5 c6 c7 c8
      go_wp2_with fail
      go_ret
      exact ⟨by rw [HR.out] <;> rfl, hS3.2⟩
    | false =>
      have hk : k ≠ 4 := by have := HX.out; rw [beq_eq_false_iff_ne] at this; omega
      clear HP HPR m2
      go_wp2_with fail
      go_roundw
      case rel =>
        refine ⟨3, by omega, by simp, fun i hi => ?_, hS2⟩
        by_cases hij : i = 2
        · subst hij; exact hk
        · exact HNO.out i (by omega)
      case measure => simp [intOf]
  · -- rep
    have hnu := repNumber_calls
    have HPR := Lib.hid (repPrint_calls k a e t n m)
    have m1 := m_rep_number
    have m2 := m_rep_print
    have m4 := ix_rep
    have HP : Hid (k = 5 → printV k t n m = (textN n m)) := Lib.hid (fun h => by subst h; rfl)
    generalize (textN n m) = L at HPR HP
    generalize hx : ((5 : Int) == k) = x
    have HX := Lib.hid hx
    have HNO := Lib.hid hno
    clear hno
    go_upto_region 4 with fail
    refine region_steps (S := SP5 w (woI k a e t n m)) (by kernel_rfl) (SP5.drewS hS0) ?_
    clear hS0
    simp only [List.size_toArray, List.length_cons, List.length_nil, Nat.reduceAdd, Array.replicate_succ, Array.replicate_zero, List.push_toArray, List.nil_append, List.cons_append]
    refine AnyS.stepE (i := 0) (d := some 9) rfl rfl (by kernel_rfl) (by kernel_rfl) (by kernel_rfl) ?_
    apply Exists.intro
    apply And.intro
    · apply StepsIf.yield
      · kernel_rfl
      intro w' hS
      clear hS; go_simp
      rfl
    intro a' ha'
    simp only [Act.put, List.setIfInBounds_toArray, List.set_cons_zero, List.set_cons_succ] at ha'
    subst ha'
    refine AnyS.next (i := 1) (d := some 10) (v := .int .i64 5) rfl rfl (by kernel_rfl) (by kernel_rfl) (by kernel_rfl) (StepsIf.call (by kernel_rfl) (fun w' hS => by clear hS; go_simp) (fun w' hS => (hnu w').mono fun e w'' h => ⟨h.1, hS.go h.2⟩)) ?_
    intro a' ha'
    simp only [Act.put, List.setIfInBounds_toArray, List.set_cons_zero, List.set_cons_succ] at ha'
    subst ha'
    refine AnyS.stepE (i := 2) (d := some 11) rfl rfl (by kernel_rfl) (by kernel_rfl) (by kernel_rfl) ?_
    apply Exists.intro
    apply And.intro
    · apply StepsIf.yield
      · kernel_rfl
      intro w' hS
      clear hS; go_simp
      rfl
    intro a' ha'
    simp only [Act.put, List.setIfInBounds_toArray, List.set_cons_zero, List.set_cons_succ] at ha'
    subst ha'
    refine AnyS.next (i := 3) (d := some 12) (v := .int .i64 k) rfl rfl (by kernel_rfl) (by kernel_rfl) (by kernel_rfl) (StepsIf.yield (by kernel_rfl) (fun w' hS => by have c0 := hS.1.1.cell 0; simp only [List.getElem?_toArray, List.getElem?_cons_zero] at c0; clear hS; go_simp)) ?_
    intro a' ha'
    simp only [Act.put, List.setIfInBounds_toArray, List.set_cons_zero, List.set_cons_succ] at ha'
    subst ha'
    refine AnyS.next (i := 4) (d := some 13) (v := .bool x) rfl rfl (by kernel_rfl) (by kernel_rfl) (by kernel_rfl) (StepsIf.yield (by kernel_rfl) (fun w' hS => by clear hS; go_simp)) ?_
    intro a' ha'
    simp only [Act.put, List.setIfInBounds_toArray, List.set_cons_zero, List.set_cons_succ] at ha'
    subst ha'
    refine AnyS.done (by kernel_rfl) ?_ _
    intro w2 hS2
    clear hnu m1 m4 hx
    cases x with
    | true =>
      have hk : k = 5 := by have := HX.out; rw [beq_iff_eq] at this; omega
      have HR := Lib.hid (HP.out hk)
      clear HP HX HNO hk
      have c0 := hS2.1.1.cell 0; have c1 := hS2.1.1.cell 1; have c2 := hS2.1.1.cell 2; have c3 := hS2.1.1.cell 3; have c4 := hS2.1.1.cell 4; have c5 := hS2.1.1.cell 5; have c6 := hS2.1.1.cell 6; have c7 := hS2.1.1.cell 7; have c8 := hS2.1.1.cell 8
      simp only [List.getElem?_toArray, List.getElem?_cons_zero, List.getElem?_cons_succ] at c0 c1 c2 c3 c4 c5 c6 c7 c8
      have HS2 := Lib.hid hS2
      clear hS2
      go_wp2_with fail
      refine (HPR.out _).mono ?_
      rintro en w3 ⟨rfl, hb⟩
      have hS3 := HS2.out.go hb
      clear hb HPR HS2 c0 c1 c2 c3 c4 c5 c6 c7 c8
      go_wp2_with fail
      go_ret
      exact ⟨by rw [HR.out] <;> rfl, hS3.2⟩
    | false =>
      have hk : k ≠ 5 := by have := HX.out; rw [beq_eq_false_iff_ne] at this; omega
      clear HP HPR m2
      go_wp2_with fail
      go_roundw
      case rel =>
        refine ⟨4, by omega, by simp, fun i hi => ?_, hS2⟩
        by_cases hij : i = 3
        · subst hij; exact hk
        · exact HNO.out i (by omega)
      case measure => simp [intOf]
  · -- one
    have hnu := oneNumber_calls
    have HPR := Lib.hid (onePrint_calls k a e t n m)
    have m1 := m_one_number
    have m2 := m_one_print
    have m4 := ix_one
    have HP : Hid (k = 1 → printV k t n m = (textW t)) := Lib.hid (fun h => by subst h; rfl)
    generalize (textW t) = L at HPR HP
    generalize hx : ((1 : Int) == k) = x
    have HX := Lib.hid hx
    have HNO := Lib.hid hno
    clear hno
    go_upto_region 4 with fail
    refine region_steps (S := SP5 w (woI k a e t n m)) (by kernel_rfl) (SP5.drewS hS0) ?_
    clear hS0
    simp only [List.size_toArray, List.length_cons, List.length_nil, Nat.reduceAdd, Array.replicate_succ, Array.replicate_zero, List.push_toArray, List.nil_append, List.cons_append]
    refine AnyS.stepE (i := 0) (d := some 9) rfl rfl (by kernel_rfl) (by kernel_rfl) (by kernel_rfl) ?_
    apply Exists.intro
    apply And.intro
    · apply StepsIf.yield
      · kernel_rfl
      intro w' hS
      clear hS; go_simp
      rfl
    intro a' ha'
    simp only [Act.put, List.setIfInBounds_toArray, List.set_cons_zero, List.set_cons_succ] at ha'
    subst ha'
    refine AnyS.next (i := 1) (d := some 10) (v := .int .i64 1) rfl rfl (by kernel_rfl) (by kernel_rfl) (by kernel_rfl) (StepsIf.call (by kernel_rfl) (fun w' hS => by clear hS; go_simp) (fun w' hS => (hnu w').mono fun e w'' h => ⟨h.1, hS.go h.2⟩)) ?_
    intro a' ha'
    simp only [Act.put, List.setIfInBounds_toArray, List.set_cons_zero, List.set_cons_succ] at ha'
    subst ha'
    refine AnyS.stepE (i := 2) (d := some 11) rfl rfl (by kernel_rfl) (by kernel_rfl) (by kernel_rfl) ?_
    apply Exists.intro
    apply And.intro
    · apply StepsIf.yield
      · kernel_rfl
      intro w' hS
      clear hS; go_simp
      rfl
    intro a' ha'
    simp only [Act.put, List.setIfInBounds_toArray, List.set_cons_zero, List.set_cons_succ] at ha'
    subst ha'
    refine AnyS.next (i := 3) (d := some 12) (v := .int .i64 k) rfl rfl (by kernel_rfl) (by kernel_rfl) (by kernel_rfl) (StepsIf.yield (by kernel_rfl) (fun w' hS => by have c0 := hS.1.1.cell 0; simp only [List.getElem?_toArray, List.getElem?_cons_zero] at c0; clear hS; go_simp)) ?_
    intro a' ha'
    simp only [Act.put, List.setIfInBounds_toArray, List.set_cons_zero, List.set_cons_succ] at ha'
    subst ha'
    refine AnyS.next (i := 4) (d := some 13) (v := .bool x) rfl rfl (by kernel_rfl) (by kernel_rfl) (by kernel_rfl) (StepsIf.yield (by kernel_rfl) (fun w' hS => by clear hS; go_simp)) ?_
    intro a' ha'
    simp only [Act.put, List.setIfInBounds_toArray, List.set_cons_zero, List.set_cons_succ] at ha'
    subst ha'
    refine AnyS.done (by kernel_rfl) ?_ _
    intro w2 hS2
    clear hnu m1 m4 hx
    cases x with
    | true =>
      have hk : k = 1 := by have := HX.out; rw [beq_iff_eq] at this; omega
      have HR := Lib.hid (HP.out hk)
      clear HP HX HNO hk
      have c0 := hS2.1.1.cell 0; have c1 := hS2.1.1.cell 1; have c2 := hS2.1.1.cell 2; have c3 := hS2.1.1.cell 3; have c4 := hS2.1.1.cell 4; have c5 := hS2.1.1.cell 5; have c6 := hS2.1.1.cell 6; have c7 := hS2.1.1.cell 7; have c8 := hS2.1.1.cell 8
      simp only [List.getElem?_toArray, List.getElem?_cons_zero, List.getElem?_cons_succ] at c0 c1 c2 c3 c4 c5 c6 c7 c8
      have HS2 := Lib.hid hS2
      clear hS2
      go_wp2_with fail
      refine (HPR.out _ (HT.out.below HS2.out.2).1 (HT.out.below HS2.out.2).2).mono ?_
      rintro en w3 ⟨rfl, hb⟩
      have hS3 := HS2.out.go hb
      clear hb HPR HS2 c0 c1 c2 c3 c4 c5 c6 c7 c8
      go_wp2_with fail
      go_ret
      exact ⟨by rw [HR.out] <;> rfl, hS3.2⟩
    | false =>
      have hk : k ≠ 1 := by have := HX.out; rw [beq_eq_false_iff_ne] at this; omega
      clear HP HPR m2
      go_wp2_with fail
      go_roundw
      case rel =>
        refine ⟨5, by omega, by simp, fun i hi => ?_, hS2⟩
        by_cases hij : i = 4
        · subst hij; exact hk
        · exact HNO.out i (by omega)
      case measure => simp [intOf]
  · have HR : Hid (printV k t n m = []) := Lib.hid (by
      have n0 : k ≠ 2 := hno 0 (by omega)
      have n1 : k ≠ 3 := hno 1 (by omega)
      have n2 : k ≠ 4 := hno 2 (by omega)
      have n3 : k ≠ 5 := hno 3 (by omega)
      have n4 : k ≠ 1 := hno 4 (by omega)
      unfold printV
      rw [if_neg n4, if_neg n0, if_neg n1, if_neg n2, if_neg n3])
    clear hno
    go_wp2_with fail
    go_ret
    exact ⟨by rw [HR.out] <;> rfl, hS0.2⟩
end Go.Proofs.YtpaecjjelpjopaaGreatDoor

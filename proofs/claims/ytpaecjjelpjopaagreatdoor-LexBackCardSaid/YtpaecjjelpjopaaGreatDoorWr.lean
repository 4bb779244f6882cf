/- The developers' words: all kinds; the word at a place, whatever kind it is of. -/
import Derived.Test.YtpaecjjelpjopaaGreatDoorWq
import Derived.Test.YtpaecjjelpjopaaGreatDoorP1
namespace Go.Proofs.YtpaecjjelpjopaaGreatDoor
open Go.RowKit Go.Shelf BS

@[reducible] def kdV (T : TypeId) : Value := .iface T (.agg #[])
@[reducible] def kdA : Array Value := #[.iface 88 (.agg #[]), .iface 89 (.agg #[]), .iface 90 (.agg #[]), .iface 91 (.agg #[]), .iface 92 (.agg #[])]
@[reducible] def kdZ : Array Value := #[.nilIface, .nilIface, .nilIface, .nilIface, .nilIface]
theorem infoKd : (Tryz.prog.info? 63).map (·.size) = some 5 := by kernel_rfl
set_option maxRecDepth 100000 in
set_option maxHeartbeats 1000000 in
theorem kinds_calls (w : World) : Calls Tryz.prog 31 #[] w fun en w' => en = .returned (.agg kdA) ∧ Below w.heap.size w w' := by
  go_enter Tryz.func31, Tryz.ntmps31
  go_wp2
  have hR := Blk.new w kdA 63
  have hB : Below w.heap.size w (w.alloc (.cells kdA 63)) := by go_grown
  exact bodyPost_ret (v := .agg kdA) (results_cell_row rfl _ _ w.heap.size 63 kdA (0, 0) _ rfl hR Tryz.underlying63 rfl infoKd) rfl ⟨rfl, hB⟩

/-- May a word of kind j begin with byte b. -/
def begK (j b : Nat) : Bool := if j = 0 then b == 40 else if j = 1 then b == 41 else if j = 2 then b == 124 else if j = 3 then [42, 43, 63, 123].contains b else b != 94 && b != 36
/-- What lacks at a place. -/
def lackA (s : ByteArray) (a : Nat) : ByteArray :=
  if bt s a = 42 ∨ bt s a = 43 ∨ bt s a = 63 ∨ bt s a = 123 then ofT (readD4 s a).lack else oneL s a
def lackG5 (s : ByteArray) (at' : Int) : ByteArray := if at' < 0 ∨ (s.size : Int) ≤ at' then eT else lackA s at'.toNat
theorem contains4 (b : Nat) : ([42, 43, 63, 123].contains b) = true ↔ (b = 42 ∨ b = 43 ∨ b = 63 ∨ b = 123) := by simp
/-- Kind j's reading at a place. -/
def readK (s : ByteArray) (a j : Nat) : WN × Nat × Nat :=
  if j = 0 then (⟨2, a, a + 1, 0, 0, 0⟩, 0, 0) else if j = 1 then (⟨3, a, a + 1, 0, 0, 0⟩, 0, 0) else if j = 2 then (⟨4, a, a + 1, 0, 0, 0⟩, 0, 0) else if j = 3 then cntW s a else oneR s a
def lackK (s : ByteArray) (a j : Nat) : ByteArray := if j = 3 then ofT (readD4 s a).lack else if j = 4 then oneL s a else eT
theorem next_kind (s : ByteArray) (a j : Nat) (hj : j < 5) (hb : begK j (bt s a) = true) (hno : ∀ i, i < j → begK i (bt s a) = false) : nextA s a = readK s a j ∧ lackA s a = lackK s a j := by
  have n0 := hno 0; have n1 := hno 1; have n2 := hno 2; have n3 := hno 3
  clear hno
  have c4 := contains4 (bt s a)
  obtain rfl | rfl | rfl | rfl | rfl : j = 0 ∨ j = 1 ∨ j = 2 ∨ j = 3 ∨ j = 4 := by omega
  · have e : bt s a = 40 := by simpa [begK] using hb
    constructor
    · unfold nextA readK
      rw [if_pos e, if_pos rfl]
    · unfold lackA lackK oneL
      rw [if_neg (by omega), if_neg (by omega), if_neg (by omega), if_neg (by omega), if_neg (by omega)]
  · have e : bt s a = 41 := by simpa [begK] using hb
    constructor
    · unfold nextA readK
      rw [if_neg (by omega), if_pos e, if_neg (by omega), if_pos rfl]
    · unfold lackA lackK oneL
      rw [if_neg (by omega), if_neg (by omega), if_neg (by omega), if_neg (by omega), if_neg (by omega)]
  · have e : bt s a = 124 := by simpa [begK] using hb
    constructor
    · unfold nextA readK
      rw [if_neg (by omega), if_neg (by omega), if_pos e, if_neg (by omega), if_neg (by omega), if_pos rfl]
    · unfold lackA lackK oneL
      rw [if_neg (by omega), if_neg (by omega), if_neg (by omega), if_neg (by omega), if_neg (by omega)]
  · have e : [42, 43, 63, 123].contains (bt s a) = true := by simpa [begK] using hb
    have e2 := c4.1 e
    constructor
    · unfold nextA readK
      rw [if_neg (by omega), if_neg (by omega), if_neg (by omega), if_pos e2, if_neg (by omega), if_neg (by omega), if_neg (by omega), if_pos rfl]
    · unfold lackA lackK
      rw [if_pos e2, if_pos rfl]
  · have e : bt s a ≠ 94 ∧ bt s a ≠ 36 := by simpa [begK] using hb
    have e0 : bt s a ≠ 40 := by simpa [begK] using n0 (by omega)
    have e1 : bt s a ≠ 41 := by simpa [begK] using n1 (by omega)
    have e2 : bt s a ≠ 124 := by simpa [begK] using n2 (by omega)
    have e3 : ¬ (bt s a = 42 ∨ bt s a = 43 ∨ bt s a = 63 ∨ bt s a = 123) := fun h => by
      have h1 := c4.2 h
      have h2 : [42, 43, 63, 123].contains (bt s a) = false := by simpa [begK] using n3 (by omega)
      rw [h1] at h2; cases h2
    constructor
    · rw [show readK s a 4 = oneR s a from rfl]
      unfold nextA oneR
      rw [if_neg e0, if_neg e1, if_neg e2, if_neg e3]
      by_cases h1 : bt s a = 91
      · rw [if_pos h1, if_pos h1]
      rw [if_neg h1, if_neg h1]
      by_cases h2 : bt s a = 46
      · rw [if_pos h2, if_neg (show ¬ bt s a = 92 by omega), if_pos h2]
      rw [if_neg h2, if_neg (show ¬ (bt s a = 94 ∨ bt s a = 36) by omega)]
      by_cases h3 : bt s a = 92
      · rw [if_pos h3, if_pos h3]
      · rw [if_neg h3, if_neg h3, if_neg h2]
    · rw [show lackK s a 4 = oneL s a from rfl]
      unfold lackA
      rw [if_neg e3]
theorem next_none (s : ByteArray) (a : Nat) (hno : ∀ i, i < 5 → begK i (bt s a) = false) : nextA s a = (zWN, 3, a + 1) ∧ lackA s a = eT := by
  have n4 : bt s a = 94 ∨ bt s a = 36 := by
    have := hno 4 (by omega)
    simp only [begK] at this
    simp at this
    omega
  constructor
  · unfold nextA
    rw [if_neg (by omega), if_neg (by omega), if_neg (by omega), if_neg (by omega), if_neg (by omega), if_neg (by omega), if_pos n4]
  · unfold lackA oneL
    rw [if_neg (by omega), if_neg (by omega), if_neg (by omega)]
/-- What lacks is what the document asks. -/
theorem lackG5_ok (s : ByteArray) (at' : Int) : LackW s at' (lackG5 s at') := by
  by_cases h : at' < 0 ∨ (s.size : Int) ≤ at'
  · unfold lackG5
    rw [if_pos h]
    exact lackW_far s at' h
  · obtain ⟨a, rfl⟩ := Int.eq_ofNat_of_zero_le (show 0 ≤ at' by omega)
    have ha : a < s.size := by omega
    unfold lackG5
    rw [if_neg h]
    show LackW s a (lackA s a)
    unfold lackA
    by_cases h1 : bt s a = 42 ∨ bt s a = 43 ∨ bt s a = 63 ∨ bt s a = 123
    · rw [if_pos h1]
      exact lackW_cnt s a ha h1
    rw [if_neg h1]
    unfold oneL
    by_cases h2 : bt s a = 91
    · rw [if_pos h2]
      exact lackW_brk s a ha h2
    rw [if_neg h2]
    have hno : ¬ (bt s a = 92 ∧ a + 1 = s.size) → LackW s a eT := fun h3 => by
      refine lackW_none s a fun h4 => ?_
      rcases next_err2 s a ha h4 with h | h | h
      · exact h2 h
      · exact h1 (by omega)
      · exact h3 h
    by_cases h3 : bt s a = 92
    · rw [if_pos h3]
      unfold lackS
      by_cases h4 : s.size ≤ a + 1
      · rw [if_pos h4]
        exact lackW_slash s a 46 (by omega) h3 (by decide) (by decide)
      · rw [if_neg h4]
        exact hno (by omega)
    · rw [if_neg h3]
      exact hno (by omega)

/-! ### The walk -/
theorem m_open_begins (n : Nat) (w : World) : (method (n + 1) 88 (.agg #[]) "gimlet/lex.begins").run Tryz.prog w = .ok (87, .agg #[]) w := by kernel_rfl
theorem m_open_read (n : Nat) (w : World) : (method (n + 1) 88 (.agg #[]) "gimlet/lex.read").run Tryz.prog w = .ok (90, .agg #[]) w := by kernel_rfl
theorem ix_open (w : World) : (Instr.index 63 (.agg kdA) (.int .i64 0)).run Tryz.prog w = .ok (.iface 88 (.agg #[])) w := by kernel_rfl
theorem n_open_begins (n : Nat) (w : World) : (nilAhead (n + 1) 88 (.agg #[]) "gimlet/lex.begins").run Tryz.prog w = .ok (some false) w := by kernel_rfl
theorem m_shut_begins (n : Nat) (w : World) : (method (n + 1) 89 (.agg #[]) "gimlet/lex.begins").run Tryz.prog w = .ok (92, .agg #[]) w := by kernel_rfl
theorem m_shut_read (n : Nat) (w : World) : (method (n + 1) 89 (.agg #[]) "gimlet/lex.read").run Tryz.prog w = .ok (95, .agg #[]) w := by kernel_rfl
theorem ix_shut (w : World) : (Instr.index 63 (.agg kdA) (.int .i64 1)).run Tryz.prog w = .ok (.iface 89 (.agg #[])) w := by kernel_rfl
theorem n_shut_begins (n : Nat) (w : World) : (nilAhead (n + 1) 89 (.agg #[]) "gimlet/lex.begins").run Tryz.prog w = .ok (some false) w := by kernel_rfl
theorem m_bar_begins (n : Nat) (w : World) : (method (n + 1) 90 (.agg #[]) "gimlet/lex.begins").run Tryz.prog w = .ok (96, .agg #[]) w := by kernel_rfl
theorem m_bar_read (n : Nat) (w : World) : (method (n + 1) 90 (.agg #[]) "gimlet/lex.read").run Tryz.prog w = .ok (99, .agg #[]) w := by kernel_rfl
theorem ix_bar (w : World) : (Instr.index 63 (.agg kdA) (.int .i64 2)).run Tryz.prog w = .ok (.iface 90 (.agg #[])) w := by kernel_rfl
theorem n_bar_begins (n : Nat) (w : World) : (nilAhead (n + 1) 90 (.agg #[]) "gimlet/lex.begins").run Tryz.prog w = .ok (some false) w := by kernel_rfl
theorem m_rep_begins (n : Nat) (w : World) : (method (n + 1) 91 (.agg #[]) "gimlet/lex.begins").run Tryz.prog w = .ok (100, .agg #[]) w := by kernel_rfl
theorem m_rep_read (n : Nat) (w : World) : (method (n + 1) 91 (.agg #[]) "gimlet/lex.read").run Tryz.prog w = .ok (103, .agg #[]) w := by kernel_rfl
theorem ix_rep (w : World) : (Instr.index 63 (.agg kdA) (.int .i64 3)).run Tryz.prog w = .ok (.iface 91 (.agg #[])) w := by kernel_rfl
theorem n_rep_begins (n : Nat) (w : World) : (nilAhead (n + 1) 91 (.agg #[]) "gimlet/lex.begins").run Tryz.prog w = .ok (some false) w := by kernel_rfl
theorem m_one_begins (n : Nat) (w : World) : (method (n + 1) 92 (.agg #[]) "gimlet/lex.begins").run Tryz.prog w = .ok (130, .agg #[]) w := by kernel_rfl
theorem m_one_read (n : Nat) (w : World) : (method (n + 1) 92 (.agg #[]) "gimlet/lex.read").run Tryz.prog w = .ok (133, .agg #[]) w := by kernel_rfl
theorem ix_one (w : World) : (Instr.index 63 (.agg kdA) (.int .i64 4)).run Tryz.prog w = .ok (.iface 92 (.agg #[])) w := by kernel_rfl
theorem n_one_begins (n : Nat) (w : World) : (nilAhead (n + 1) 92 (.agg #[]) "gimlet/lex.begins").run Tryz.prog w = .ok (some false) w := by kernel_rfl

/-- What holds while the kinds are asked. -/
def SR5 (w W : World) : Prop := (Blk W w.heap.size (rgZ 0 0 0 0 0 0 0 eT) 45 ∧ w.heap.size + 1 ≤ W.heap.size) ∧ Below w.heap.size w W
theorem SR5.drewS {w W : World} (h : SR5 w W) : SR5 w W.drew := ⟨⟨h.1.1, h.1.2⟩, h.2.drew⟩
theorem SR5.go {w W W' : World} (h : SR5 w W) (hb : Below W.heap.size W W') : SR5 w W' := ⟨⟨h.1.1.below hb h.1.1.lt, Nat.le_trans h.1.2 hb.size⟩, h.2.trans (hb.mono (by have := h.1.2; omega))⟩
set_option maxRecDepth 100000 in
set_option maxHeartbeats 8000000 in
theorem read5_in (s : ByteArray) (hs : s.size ≤ 1000000) (a : Nat) (ha : a < s.size) (w : World) : Calls Tryz.prog 17 #[.string s, .int .i64 a] w fun en w' => en = .returned (.agg (rgA (nextA s a) (lackA s a))) ∧ Below w.heap.size w w' := by
  have x1 : IntKind.i64.wrap ((a : Int) + 1) = (a : Int) + 1 := IntWalk.i64_in _ (by omega)
  have q0 : decide ((a : Int) < 0) = false := by rw [decide_eq_false_iff_not]; omega
  have q1 : decide ((s.size : Int) ≤ (a : Int)) = false := by rw [decide_eq_false_iff_not]; omega
  have h0 : s[a].toNat = bt s a := (bt_eq s a ha).symm
  have hl0 := bt_lt s a
  have HK := Lib.hid kinds_calls
  have HEND := Lib.hid (next_none s a)
  have HR := Lib.hid (Blk.new w (rgZ 0 0 0 0 0 0 0 eT) 45)
  have HB : Hid (Below w.heap.size w (w.alloc (.cells (rgZ 0 0 0 0 0 0 0 eT) 45))) := Lib.hid (by go_grown)
  have hz : w.heap.size + 1 ≤ (w.alloc (.cells (rgZ 0 0 0 0 0 0 0 eT) 45)).heap.size := by simp
  go_enter Tryz.func17, Tryz.ntmps17
  go_upto_region 1 with fail
  have e0 : w.alloc (.cells #[.int .i64 0, .int .i64 0, .int .i64 0, .int .u64 0, .int .u64 0, .int .u64 0, .int .u64 0, .int .i64 0, .int .i64 0, .int .i64 0, .int .i64 0, .string ⟨#[]⟩] 45) = w.alloc (.cells (rgZ 0 0 0 0 0 0 0 eT) 45) := rfl
  try rw [e0]
  clear e0
  generalize w.alloc (.cells (rgZ 0 0 0 0 0 0 0 eT) 45) = w1 at *
  go_wp2_with fail
  refine (HK.out _).mono ?_
  rintro en w2 ⟨rfl, hb⟩
  replace HR := Lib.hid (HR.out.below hb (Blk.lt HR.out))
  replace HB := Lib.hid (HB.out.trans (hb.mono (by omega)))
  replace hz := Nat.le_trans hz hb.size
  clear hb HK
  have HS := Lib.hid (show SR5 w w2 from ⟨⟨HR.out, hz⟩, HB.out⟩)
  clear HR HB hz
  go_wp2_with fail
  go_loopw [17] (fun i wr => ∃ k : Nat, k ≤ 5 ∧ i = .int .i64 k ∧ (∀ j, j < k → begK j (bt s a) = false) ∧ SR5 w wr) (fun i _ => 5 - (intOf i).toNat)
  case atStart => exact ⟨0, by omega, rfl, fun j hj => by omega, HS.out⟩
  case round =>
  clear HS
  obtain ⟨k, hk, rfl, hno, hS0⟩ := hrel
  obtain rfl | rfl | rfl | rfl | rfl | rfl : k = 0 ∨ k = 1 ∨ k = 2 ∨ k = 3 ∨ k = 4 ∨ k = 5 := by omega
  · -- open
    have hbg : ∀ w, Calls Tryz.prog 87 #[.agg #[], .int .u8 (bt s a)] w fun en w' => en = .returned (.bool (begK 0 (bt s a))) ∧ Below w.heap.size w w' := openBegins_calls (bt s a)
    have HRD : Hid (∀ w, Calls Tryz.prog 90 #[.agg #[], .string s, .int .i64 a] w fun en w' => en = .returned (.agg (rgA (readK s a 0) (lackK s a 0))) ∧ Below w.heap.size w w') := Lib.hid (openRead_calls s hs a ha)
    have HG := Lib.hid (next_kind s a 0 (by omega))
    have m1 := m_open_begins
    have m2 := m_open_read
    have m3 := n_open_begins
    have m4 := ix_open
    generalize bt s a = b at *
    generalize readK s a 0 = Z at *
    generalize lackK s a 0 = z at *
    generalize hx : begK 0 b = x at *
    have HX := Lib.hid hx
    have HNO := Lib.hid hno
    clear hx hno
    go_upto_region 6 with fail
    refine region_steps (S := SR5 w) (by kernel_rfl) (SR5.drewS hS0) ?_
    clear hS0
    simp only [List.size_toArray, List.length_cons, List.length_nil, Nat.reduceAdd, Array.replicate_succ, Array.replicate_zero, List.push_toArray, List.nil_append, List.cons_append]
    refine AnyS.stepE (i := 0) (d := some 20) rfl rfl (by kernel_rfl) (by kernel_rfl) (by kernel_rfl) ?_
    apply Exists.intro
    apply And.intro
    · apply StepsIf.yield
      · kernel_rfl
      intro w' hS
      clear hS; go_simp
      rfl
    intro a' ha'
    simp only [Act.put, List.setIfInBounds_toArray, List.set_cons_zero, List.set_cons_succ] at ha'
    subst ha'
    refine AnyS.stepE (i := 1) (d := some 21) rfl rfl (by kernel_rfl) (by kernel_rfl) (by kernel_rfl) ?_
    apply Exists.intro
    apply And.intro
    · apply StepsIf.yield
      · kernel_rfl
      intro w' hS
      clear hS; go_simp
      rfl
    intro a' ha'
    simp only [Act.put, List.setIfInBounds_toArray, List.set_cons_zero, List.set_cons_succ] at ha'
    subst ha'
    refine AnyS.stepE (i := 2) (d := some 22) rfl rfl (by kernel_rfl) (by kernel_rfl) (by kernel_rfl) ?_
    apply Exists.intro
    apply And.intro
    · apply StepsIf.yield
      · kernel_rfl
      intro w' hS
      clear hS; go_simp
      rfl
    intro a' ha'
    simp only [Act.put, List.setIfInBounds_toArray, List.set_cons_zero, List.set_cons_succ] at ha'
    subst ha'
    refine AnyS.stepE (i := 3) (d := some 23) rfl rfl (by kernel_rfl) (by kernel_rfl) (by kernel_rfl) ?_
    apply Exists.intro
    apply And.intro
    · apply StepsIf.yield
      · kernel_rfl
      intro w' hS
      clear hS; go_simp
      rfl
    intro a' ha'
    simp only [Act.put, List.setIfInBounds_toArray, List.set_cons_zero, List.set_cons_succ] at ha'
    subst ha'
    refine AnyS.stepE (i := 4) (d := some 24) rfl rfl (by kernel_rfl) (by kernel_rfl) (by kernel_rfl) ?_
    apply Exists.intro
    apply And.intro
    · apply StepsIf.yield
      · kernel_rfl
      intro w' hS
      clear hS; go_simp
      rfl
    intro a' ha'
    simp only [Act.put, List.setIfInBounds_toArray, List.set_cons_zero, List.set_cons_succ] at ha'
    subst ha'
    refine AnyS.stepE (i := 5) (d := some 25) rfl rfl (by kernel_rfl) (by kernel_rfl) (by kernel_rfl) ?_
    apply Exists.intro
    apply And.intro
    · apply StepsIf.yield
      · kernel_rfl
      intro w' hS
      clear hS; go_simp
      rfl
    intro a' ha'
    simp only [Act.put, List.setIfInBounds_toArray, List.set_cons_zero, List.set_cons_succ] at ha'
    subst ha'
    refine AnyS.stepE (i := 6) (d := some 26) rfl rfl (by kernel_rfl) (by kernel_rfl) (by kernel_rfl) ?_
    apply Exists.intro
    apply And.intro
    · apply StepsIf.yield
      · kernel_rfl
      intro w' hS
      clear hS; go_simp
      rfl
    intro a' ha'
    simp only [Act.put, List.setIfInBounds_toArray, List.set_cons_zero, List.set_cons_succ] at ha'
    subst ha'
    refine AnyS.next (i := 7) (d := some 27) (v := .bool x) rfl rfl (by kernel_rfl) (by kernel_rfl) (by kernel_rfl) (StepsIf.call (by kernel_rfl) (fun w' hS => by clear hS; go_simp) (fun w' hS => (hbg w').mono fun e w'' h => ⟨h.1, hS.go h.2⟩)) ?_
    intro a' ha'
    simp only [Act.put, List.setIfInBounds_toArray, List.set_cons_zero, List.set_cons_succ] at ha'
    subst ha'
    refine AnyS.done (by kernel_rfl) ?_ _
    intro w2 hS2
    clear hbg m1 m3 m4
    cases x with
    | true =>
      have hN := Lib.hid (HG.out rfl HNO.out).1
      have hL := Lib.hid (HG.out rfl HNO.out).2
      clear HG HX HNO HEND
      obtain ⟨⟨zk, zp, ze, zt, zn, zm⟩, er, pl⟩ := Z
      go_wp2_with fail
      refine (HRD.out _).mono ?_
      rintro en w3 ⟨rfl, hb⟩
      have hS3 := hS2.go hb
      have HR := Lib.hid hS3.1.1
      have hB3 := hS3.2
      clear hb HRD hS2 hS3
      go_wp2_with ((with_reducible refine wpList_store_st (o := ⟨none, .store 45 _ _, _, _, _, _⟩) rfl 45 _ _ rfl w.heap.size rfl rfl (run_storeAt_row _ w.heap.size 45 45 (rgZ 0 0 0 0 0 0 0 eT) (rgI zk zp ze zt zn zm er pl z) ?_ ?_ ?_ ?_) ?_); exact HR.out; exact infoRg; rfl; exact rg_one _ _ _ _ _ _ _ _ _)
      exact bodyPost_ret (v := .agg (rgI zk zp ze zt zn zm er pl z)) (results_cell_row rfl _ _ w.heap.size 45 (rgI zk zp ze zt zn zm er pl z) (0, 0) _ rfl (Blk.setRow HR.out) Tryz.underlying45 rfl infoRg) rfl ⟨by rw [hN.out, hL.out], below_row hB3 (Nat.le_refl _) _⟩
    | false =>
      clear HG HEND HRD
      go_wp2_with fail
      go_roundw
      case rel =>
        refine ⟨1, by omega, by simp, fun i hi => ?_, hS2⟩
        by_cases hij : i = 0
        · subst hij; exact HX.out
        · exact HNO.out i (by omega)
      case measure => simp [intOf]
  · -- shut
    have hbg : ∀ w, Calls Tryz.prog 92 #[.agg #[], .int .u8 (bt s a)] w fun en w' => en = .returned (.bool (begK 1 (bt s a))) ∧ Below w.heap.size w w' := shutBegins_calls (bt s a)
    have HRD : Hid (∀ w, Calls Tryz.prog 95 #[.agg #[], .string s, .int .i64 a] w fun en w' => en = .returned (.agg (rgA (readK s a 1) (lackK s a 1))) ∧ Below w.heap.size w w') := Lib.hid (shutRead_calls s hs a ha)
    have HG := Lib.hid (next_kind s a 1 (by omega))
    have m1 := m_shut_begins
    have m2 := m_shut_read
    have m3 := n_shut_begins
    have m4 := ix_shut
    generalize bt s a = b at *
    generalize readK s a 1 = Z at *
    generalize lackK s a 1 = z at *
    generalize hx : begK 1 b = x at *
    have HX := Lib.hid hx
    have HNO := Lib.hid hno
    clear hx hno
    go_upto_region 6 with fail
    refine region_steps (S := SR5 w) (by kernel_rfl) (SR5.drewS hS0) ?_
    clear hS0
    simp only [List.size_toArray, List.length_cons, List.length_nil, Nat.reduceAdd, Array.replicate_succ, Array.replicate_zero, List.push_toArray, List.nil_append, List.cons_append]
    refine AnyS.stepE (i := 0) (d := some 20) rfl rfl (by kernel_rfl) (by kernel_rfl) (by kernel_rfl) ?_
    apply Exists.intro
    apply And.intro
    · apply StepsIf.yield
      · kernel_rfl
      intro w' hS
      clear hS; go_simp
      rfl
    intro a' ha'
    simp only [Act.put, List.setIfInBounds_toArray, List.set_cons_zero, List.set_cons_succ] at ha'
    subst ha'
    refine AnyS.stepE (i := 1) (d := some 21) rfl rfl (by kernel_rfl) (by kernel_rfl) (by kernel_rfl) ?_
    apply Exists.intro
    apply And.intro
    · apply StepsIf.yield
      · kernel_rfl
      intro w' hS
      clear hS; go_simp
      rfl
    intro a' ha'
    simp only [Act.put, List.setIfInBounds_toArray, List.set_cons_zero, List.set_cons_succ] at ha'
    subst ha'
    refine AnyS.stepE (i := 2) (d := some 22) rfl rfl (by kernel_rfl) (by kernel_rfl) (by kernel_rfl) ?_
    apply Exists.intro
    apply And.intro
    · apply StepsIf.yield
      · kernel_rfl
      intro w' hS
      clear hS; go_simp
      rfl
    intro a' ha'
    simp only [Act.put, List.setIfInBounds_toArray, List.set_cons_zero, List.set_cons_succ] at ha'
    subst ha'
    refine AnyS.stepE (i := 3) (d := some 23) rfl rfl (by kernel_rfl) (by kernel_rfl) (by kernel_rfl) ?_
    apply Exists.intro
    apply And.intro
    · apply StepsIf.yield
      · kernel_rfl
      intro w' hS
      clear hS; go_simp
      rfl
    intro a' ha'
    simp only [Act.put, List.setIfInBounds_toArray, List.set_cons_zero, List.set_cons_succ] at ha'
    subst ha'
    refine AnyS.stepE (i := 4) (d := some 24) rfl rfl (by kernel_rfl) (by kernel_rfl) (by kernel_rfl) ?_
    apply Exists.intro
    apply And.intro
    · apply StepsIf.yield
      · kernel_rfl
      intro w' hS
      clear hS; go_simp
      rfl
    intro a' ha'
    simp only [Act.put, List.setIfInBounds_toArray, List.set_cons_zero, List.set_cons_succ] at ha'
    subst ha'
    refine AnyS.stepE (i := 5) (d := some 25) rfl rfl (by kernel_rfl) (by kernel_rfl) (by kernel_rfl) ?_
    apply Exists.intro
    apply And.intro
    · apply StepsIf.yield
      · kernel_rfl
      intro w' hS
      clear hS; go_simp
      rfl
    intro a' ha'
    simp only [Act.put, List.setIfInBounds_toArray, List.set_cons_zero, List.set_cons_succ] at ha'
    subst ha'
    refine AnyS.stepE (i := 6) (d := some 26) rfl rfl (by kernel_rfl) (by kernel_rfl) (by kernel_rfl) ?_
    apply Exists.intro
    apply And.intro
    · apply StepsIf.yield
      · kernel_rfl
      intro w' hS
      clear hS; go_simp
      rfl
    intro a' ha'
    simp only [Act.put, List.setIfInBounds_toArray, List.set_cons_zero, List.set_cons_succ] at ha'
    subst ha'
    refine AnyS.next (i := 7) (d := some 27) (v := .bool x) rfl rfl (by kernel_rfl) (by kernel_rfl) (by kernel_rfl) (StepsIf.call (by kernel_rfl) (fun w' hS => by clear hS; go_simp) (fun w' hS => (hbg w').mono fun e w'' h => ⟨h.1, hS.go h.2⟩)) ?_
    intro a' ha'
    simp only [Act.put, List.setIfInBounds_toArray, List.set_cons_zero, List.set_cons_succ] at ha'
    subst ha'
    refine AnyS.done (by kernel_rfl) ?_ _
    intro w2 hS2
    clear hbg m1 m3 m4
    cases x with
    | true =>
      have hN := Lib.hid (HG.out rfl HNO.out).1
      have hL := Lib.hid (HG.out rfl HNO.out).2
      clear HG HX HNO HEND
      obtain ⟨⟨zk, zp, ze, zt, zn, zm⟩, er, pl⟩ := Z
      go_wp2_with fail
      refine (HRD.out _).mono ?_
      rintro en w3 ⟨rfl, hb⟩
      have hS3 := hS2.go hb
      have HR := Lib.hid hS3.1.1
      have hB3 := hS3.2
      clear hb HRD hS2 hS3
      go_wp2_with ((with_reducible refine wpList_store_st (o := ⟨none, .store 45 _ _, _, _, _, _⟩) rfl 45 _ _ rfl w.heap.size rfl rfl (run_storeAt_row _ w.heap.size 45 45 (rgZ 0 0 0 0 0 0 0 eT) (rgI zk zp ze zt zn zm er pl z) ?_ ?_ ?_ ?_) ?_); exact HR.out; exact infoRg; rfl; exact rg_one _ _ _ _ _ _ _ _ _)
      exact bodyPost_ret (v := .agg (rgI zk zp ze zt zn zm er pl z)) (results_cell_row rfl _ _ w.heap.size 45 (rgI zk zp ze zt zn zm er pl z) (0, 0) _ rfl (Blk.setRow HR.out) Tryz.underlying45 rfl infoRg) rfl ⟨by rw [hN.out, hL.out], below_row hB3 (Nat.le_refl _) _⟩
    | false =>
      clear HG HEND HRD
      go_wp2_with fail
      go_roundw
      case rel =>
        refine ⟨2, by omega, by simp, fun i hi => ?_, hS2⟩
        by_cases hij : i = 1
        · subst hij; exact HX.out
        · exact HNO.out i (by omega)
      case measure => simp [intOf]
  · -- bar
    have hbg : ∀ w, Calls Tryz.prog 96 #[.agg #[], .int .u8 (bt s a)] w fun en w' => en = .returned (.bool (begK 2 (bt s a))) ∧ Below w.heap.size w w' := barBegins_calls (bt s a)
    have HRD : Hid (∀ w, Calls Tryz.prog 99 #[.agg #[], .string s, .int .i64 a] w fun en w' => en = .returned (.agg (rgA (readK s a 2) (lackK s a 2))) ∧ Below w.heap.size w w') := Lib.hid (barRead_calls s hs a ha)
    have HG := Lib.hid (next_kind s a 2 (by omega))
    have m1 := m_bar_begins
    have m2 := m_bar_read
    have m3 := n_bar_begins
    have m4 := ix_bar
    generalize bt s a = b at *
    generalize readK s a 2 = Z at *
    generalize lackK s a 2 = z at *
    generalize hx : begK 2 b = x at *
    have HX := Lib.hid hx
    have HNO := Lib.hid hno
    clear hx hno
    go_upto_region 6 with fail
    refine region_steps (S := SR5 w) (by kernel_rfl) (SR5.drewS hS0) ?_
    clear hS0
    simp only [List.size_toArray, List.length_cons, List.length_nil, Nat.reduceAdd, Array.replicate_succ, Array.replicate_zero, List.push_toArray, List.nil_append, List.cons_append]
    refine AnyS.stepE (i := 0) (d := some 20) rfl rfl (by kernel_rfl) (by kernel_rfl) (by kernel_rfl) ?_
    apply Exists.intro
    apply And.intro
    · apply StepsIf.yield
      · kernel_rfl
      intro w' hS
      clear hS; go_simp
      rfl
    intro a' ha'
    simp only [Act.put, List.setIfInBounds_toArray, List.set_cons_zero, List.set_cons_succ] at ha'
    subst ha'
    refine AnyS.stepE (i := 1) (d := some 21) rfl rfl (by kernel_rfl) (by kernel_rfl) (by kernel_rfl) ?_
    apply Exists.intro
    apply And.intro
    · apply StepsIf.yield
      · kernel_rfl
      intro w' hS
      clear hS; go_simp
      rfl
    intro a' ha'
    simp only [Act.put, List.setIfInBounds_toArray, List.set_cons_zero, List.set_cons_succ] at ha'
    subst ha'
    refine AnyS.stepE (i := 2) (d := some 22) rfl rfl (by kernel_rfl) (by kernel_rfl) (by kernel_rfl) ?_
    apply Exists.intro
    apply And.intro
    · apply StepsIf.yield
      · kernel_rfl
      intro w' hS
      clear hS; go_simp
      rfl
    intro a' ha'
    simp only [Act.put, List.setIfInBounds_toArray, List.set_cons_zero, List.set_cons_succ] at ha'
    subst ha'
    refine AnyS.stepE (i := 3) (d := some 23) rfl rfl (by kernel_rfl) (by kernel_rfl) (by kernel_rfl) ?_
    apply Exists.intro
    apply And.intro
    · apply StepsIf.yield
      · kernel_rfl
      intro w' hS
      clear hS; go_simp
      rfl
    intro a' ha'
    simp only [Act.put, List.setIfInBounds_toArray, List.set_cons_zero, List.set_cons_succ] at ha'
    subst ha'
    refine AnyS.stepE (i := 4) (d := some 24) rfl rfl (by kernel_rfl) (by kernel_rfl) (by kernel_rfl) ?_
    apply Exists.intro
    apply And.intro
    · apply StepsIf.yield
      · kernel_rfl
      intro w' hS
      clear hS; go_simp
      rfl
    intro a' ha'
    simp only [Act.put, List.setIfInBounds_toArray, List.set_cons_zero, List.set_cons_succ] at ha'
    subst ha'
    refine AnyS.stepE (i := 5) (d := some 25) rfl rfl (by kernel_rfl) (by kernel_rfl) (by kernel_rfl) ?_
    apply Exists.intro
    apply And.intro
    · apply StepsIf.yield
      · kernel_rfl
      intro w' hS
      clear hS; go_simp
      rfl
    intro a' ha'
    simp only [Act.put, List.setIfInBounds_toArray, List.set_cons_zero, List.set_cons_succ] at ha'
    subst ha'
    refine AnyS.stepE (i := 6) (d := some 26) rfl rfl (by kernel_rfl) (by kernel_rfl) (by kernel_rfl) ?_
    apply Exists.intro
    apply And.intro
    · apply StepsIf.yield
      · kernel_rfl
      intro w' hS
      clear hS; go_simp
      rfl
    intro a' ha'
    simp only [Act.put, List.setIfInBounds_toArray, List.set_cons_zero, List.set_cons_succ] at ha'
    subst ha'
    refine AnyS.next (i := 7) (d := some 27) (v := .bool x) rfl rfl (by kernel_rfl) (by kernel_rfl) (by kernel_rfl) (StepsIf.call (by kernel_rfl) (fun w' hS => by clear hS; go_simp) (fun w' hS => (hbg w').mono fun e w'' h => ⟨h.1, hS.go h.2⟩)) ?_
    intro a' ha'
    simp only [Act.put, List.setIfInBounds_toArray, List.set_cons_zero, List.set_cons_succ] at ha'
    subst ha'
    refine AnyS.done (by kernel_rfl) ?_ _
    intro w2 hS2
    clear hbg m1 m3 m4
    cases x with
    | true =>
      have hN := Lib.hid (HG.out rfl HNO.out).1
      have hL := Lib.hid (HG.out rfl HNO.out).2
      clear HG HX HNO HEND
      obtain ⟨⟨zk, zp, ze, zt, zn, zm⟩, er, pl⟩ := Z
      go_wp2_with fail
      refine (HRD.out _).mono ?_
      rintro en w3 ⟨rfl, hb⟩
      have hS3 := hS2.go hb
      have HR := Lib.hid hS3.1.1
      have hB3 := hS3.2
      clear hb HRD hS2 hS3
      go_wp2_with ((with_reducible refine wpList_store_st (o := ⟨none, .store 45 _ _, _, _, _, _⟩) rfl 45 _ _ rfl w.heap.size rfl rfl (run_storeAt_row _ w.heap.size 45 45 (rgZ 0 0 0 0 0 0 0 eT) (rgI zk zp ze zt zn zm er pl z) ?_ ?_ ?_ ?_) ?_); exact HR.out; exact infoRg; rfl; exact rg_one _ _ _ _ _ _ _ _ _)
      exact bodyPost_ret (v := .agg (rgI zk zp ze zt zn zm er pl z)) (results_cell_row rfl _ _ w.heap.size 45 (rgI zk zp ze zt zn zm er pl z) (0, 0) _ rfl (Blk.setRow HR.out) Tryz.underlying45 rfl infoRg) rfl ⟨by rw [hN.out, hL.out], below_row hB3 (Nat.le_refl _) _⟩
    | false =>
      clear HG HEND HRD
      go_wp2_with fail
      go_roundw
      case rel =>
        refine ⟨3, by omega, by simp, fun i hi => ?_, hS2⟩
        by_cases hij : i = 2
        · subst hij; exact HX.out
        · exact HNO.out i (by omega)
      case measure => simp [intOf]
  · -- rep
    have hbg : ∀ w, Calls Tryz.prog 100 #[.agg #[], .int .u8 (bt s a)] w fun en w' => en = .returned (.bool (begK 3 (bt s a))) ∧ Below w.heap.size w w' := repBegins_calls (bt s a) hl0
    have HRD : Hid (∀ w, Calls Tryz.prog 103 #[.agg #[], .string s, .int .i64 a] w fun en w' => en = .returned (.agg (rgA (readK s a 3) (lackK s a 3))) ∧ Below w.heap.size w w') := Lib.hid (repRead_calls s hs a)
    have HG := Lib.hid (next_kind s a 3 (by omega))
    have m1 := m_rep_begins
    have m2 := m_rep_read
    have m3 := n_rep_begins
    have m4 := ix_rep
    generalize bt s a = b at *
    generalize readK s a 3 = Z at *
    generalize lackK s a 3 = z at *
    generalize hx : begK 3 b = x at *
    have HX := Lib.hid hx
    have HNO := Lib.hid hno
    clear hx hno
    go_upto_region 6 with fail
    refine region_steps (S := SR5 w) (by kernel_rfl) (SR5.drewS hS0) ?_
    clear hS0
    simp only [List.size_toArray, List.length_cons, List.length_nil, Nat.reduceAdd, Array.replicate_succ, Array.replicate_zero, List.push_toArray, List.nil_append, List.cons_append]
    refine AnyS.stepE (i := 0) (d := some 20) rfl rfl (by kernel_rfl) (by kernel_rfl) (by kernel_rfl) ?_
    apply Exists.intro
    apply And.intro
    · apply StepsIf.yield
      · kernel_rfl
      intro w' hS
      clear hS; go_simp
      rfl
    intro a' ha'
    simp only [Act.put, List.setIfInBounds_toArray, List.set_cons_zero, List.set_cons_succ] at ha'
    subst ha'
    refine AnyS.stepE (i := 1) (d := some 21) rfl rfl (by kernel_rfl) (by kernel_rfl) (by kernel_rfl) ?_
    apply Exists.intro
    apply And.intro
    · apply StepsIf.yield
      · kernel_rfl
      intro w' hS
      clear hS; go_simp
      rfl
    intro a' ha'
    simp only [Act.put, List.setIfInBounds_toArray, List.set_cons_zero, List.set_cons_succ] at ha'
    subst ha'
    refine AnyS.stepE (i := 2) (d := some 22) rfl rfl (by kernel_rfl) (by kernel_rfl) (by kernel_rfl) ?_
    apply Exists.intro
    apply And.intro
    · apply StepsIf.yield
      · kernel_rfl
      intro w' hS
      clear hS; go_simp
      rfl
    intro a' ha'
    simp only [Act.put, List.setIfInBounds_toArray, List.set_cons_zero, List.set_cons_succ] at ha'
    subst ha'
    refine AnyS.stepE (i := 3) (d := some 23) rfl rfl (by kernel_rfl) (by kernel_rfl) (by kernel_rfl) ?_
    apply Exists.intro
    apply And.intro
    · apply StepsIf.yield
      · kernel_rfl
      intro w' hS
      clear hS; go_simp
      rfl
    intro a' ha'
    simp only [Act.put, List.setIfInBounds_toArray, List.set_cons_zero, List.set_cons_succ] at ha'
    subst ha'
    refine AnyS.stepE (i := 4) (d := some 24) rfl rfl (by kernel_rfl) (by kernel_rfl) (by kernel_rfl) ?_
    apply Exists.intro
    apply And.intro
    · apply StepsIf.yield
      · kernel_rfl
      intro w' hS
      clear hS; go_simp
      rfl
    intro a' ha'
    simp only [Act.put, List.setIfInBounds_toArray, List.set_cons_zero, List.set_cons_succ] at ha'
    subst ha'
    refine AnyS.stepE (i := 5) (d := some 25) rfl rfl (by kernel_rfl) (by kernel_rfl) (by kernel_rfl) ?_
    apply Exists.intro
    apply And.intro
    · apply StepsIf.yield
      · kernel_rfl
      intro w' hS
      clear hS; go_simp
      rfl
    intro a' ha'
    simp only [Act.put, List.setIfInBounds_toArray, List.set_cons_zero, List.set_cons_succ] at ha'
    subst ha'
    refine AnyS.stepE (i := 6) (d := some 26) rfl rfl (by kernel_rfl) (by kernel_rfl) (by kernel_rfl) ?_
    apply Exists.intro
    apply And.intro
    · apply StepsIf.yield
      · kernel_rfl
      intro w' hS
      clear hS; go_simp
      rfl
    intro a' ha'
    simp only [Act.put, List.setIfInBounds_toArray, List.set_cons_zero, List.set_cons_succ] at ha'
    subst ha'
    refine AnyS.next (i := 7) (d := some 27) (v := .bool x) rfl rfl (by kernel_rfl) (by kernel_rfl) (by kernel_rfl) (StepsIf.call (by kernel_rfl) (fun w' hS => by clear hS; go_simp) (fun w' hS => (hbg w').mono fun e w'' h => ⟨h.1, hS.go h.2⟩)) ?_
    intro a' ha'
    simp only [Act.put, List.setIfInBounds_toArray, List.set_cons_zero, List.set_cons_succ] at ha'
    subst ha'
    refine AnyS.done (by kernel_rfl) ?_ _
    intro w2 hS2
    clear hbg m1 m3 m4
    cases x with
    | true =>
      have hN := Lib.hid (HG.out rfl HNO.out).1
      have hL := Lib.hid (HG.out rfl HNO.out).2
      clear HG HX HNO HEND
      obtain ⟨⟨zk, zp, ze, zt, zn, zm⟩, er, pl⟩ := Z
      go_wp2_with fail
      refine (HRD.out _).mono ?_
      rintro en w3 ⟨rfl, hb⟩
      have hS3 := hS2.go hb
      have HR := Lib.hid hS3.1.1
      have hB3 := hS3.2
      clear hb HRD hS2 hS3
      go_wp2_with ((with_reducible refine wpList_store_st (o := ⟨none, .store 45 _ _, _, _, _, _⟩) rfl 45 _ _ rfl w.heap.size rfl rfl (run_storeAt_row _ w.heap.size 45 45 (rgZ 0 0 0 0 0 0 0 eT) (rgI zk zp ze zt zn zm er pl z) ?_ ?_ ?_ ?_) ?_); exact HR.out; exact infoRg; rfl; exact rg_one _ _ _ _ _ _ _ _ _)
      exact bodyPost_ret (v := .agg (rgI zk zp ze zt zn zm er pl z)) (results_cell_row rfl _ _ w.heap.size 45 (rgI zk zp ze zt zn zm er pl z) (0, 0) _ rfl (Blk.setRow HR.out) Tryz.underlying45 rfl infoRg) rfl ⟨by rw [hN.out, hL.out], below_row hB3 (Nat.le_refl _) _⟩
    | false =>
      clear HG HEND HRD
      go_wp2_with fail
      go_roundw
      case rel =>
        refine ⟨4, by omega, by simp, fun i hi => ?_, hS2⟩
        by_cases hij : i = 3
        · subst hij; exact HX.out
        · exact HNO.out i (by omega)
      case measure => simp [intOf]
  · -- one
    have hbg : ∀ w, Calls Tryz.prog 130 #[.agg #[], .int .u8 (bt s a)] w fun en w' => en = .returned (.bool (begK 4 (bt s a))) ∧ Below w.heap.size w w' := oneBegins_calls (bt s a)
    have HRD : Hid (∀ w, Calls Tryz.prog 133 #[.agg #[], .string s, .int .i64 a] w fun en w' => en = .returned (.agg (rgA (readK s a 4) (lackK s a 4))) ∧ Below w.heap.size w w') := Lib.hid (oneRead_calls s hs a ha)
    have HG := Lib.hid (next_kind s a 4 (by omega))
    have m1 := m_one_begins
    have m2 := m_one_read
    have m3 := n_one_begins
    have m4 := ix_one
    generalize bt s a = b at *
    generalize readK s a 4 = Z at *
    generalize lackK s a 4 = z at *
    generalize hx : begK 4 b = x at *
    have HX := Lib.hid hx
    have HNO := Lib.hid hno
    clear hx hno
    go_upto_region 6 with fail
    refine region_steps (S := SR5 w) (by kernel_rfl) (SR5.drewS hS0) ?_
    clear hS0
    simp only [List.size_toArray, List.length_cons, List.length_nil, Nat.reduceAdd, Array.replicate_succ, Array.replicate_zero, List.push_toArray, List.nil_append, List.cons_append]
    refine AnyS.stepE (i := 0) (d := some 20) rfl rfl (by kernel_rfl) (by kernel_rfl) (by kernel_rfl) ?_
    apply Exists.intro
    apply And.intro
    · apply StepsIf.yield
      · kernel_rfl
      intro w' hS
      clear hS; go_simp
      rfl
    intro a' ha'
    simp only [Act.put, List.setIfInBounds_toArray, List.set_cons_zero, List.set_cons_succ] at ha'
    subst ha'
    refine AnyS.stepE (i := 1) (d := some 21) rfl rfl (by kernel_rfl) (by kernel_rfl) (by kernel_rfl) ?_
    apply Exists.intro
    apply And.intro
    · apply StepsIf.yield
      · kernel_rfl
      intro w' hS
      clear hS; go_simp
      rfl
    intro a' ha'
    simp only [Act.put, List.setIfInBounds_toArray, List.set_cons_zero, List.set_cons_succ] at ha'
    subst ha'
    refine AnyS.stepE (i := 2) (d := some 22) rfl rfl (by kernel_rfl) (by kernel_rfl) (by kernel_rfl) ?_
    apply Exists.intro
    apply And.intro
    · apply StepsIf.yield
      · kernel_rfl
      intro w' hS
      clear hS; go_simp
      rfl
    intro a' ha'
    simp only [Act.put, List.setIfInBounds_toArray, List.set_cons_zero, List.set_cons_succ] at ha'
    subst ha'
    refine AnyS.stepE (i := 3) (d := some 23) rfl rfl (by kernel_rfl) (by kernel_rfl) (by kernel_rfl) ?_
    apply Exists.intro
    apply And.intro
    · apply StepsIf.yield
      · kernel_rfl
      intro w' hS
      clear hS; go_simp
      rfl
    intro a' ha'
    simp only [Act.put, List.setIfInBounds_toArray, List.set_cons_zero, List.set_cons_succ] at ha'
    subst ha'
    refine AnyS.stepE (i := 4) (d := some 24) rfl rfl (by kernel_rfl) (by kernel_rfl) (by kernel_rfl) ?_
    apply Exists.intro
    apply And.intro
    · apply StepsIf.yield
      · kernel_rfl
      intro w' hS
      clear hS; go_simp
      rfl
    intro a' ha'
    simp only [Act.put, List.setIfInBounds_toArray, List.set_cons_zero, List.set_cons_succ] at ha'
    subst ha'
    refine AnyS.stepE (i := 5) (d := some 25) rfl rfl (by kernel_rfl) (by kernel_rfl) (by kernel_rfl) ?_
    apply Exists.intro
    apply And.intro
    · apply StepsIf.yield
      · kernel_rfl
      intro w' hS
      clear hS; go_simp
      rfl
    intro a' ha'
    simp only [Act.put, List.setIfInBounds_toArray, List.set_cons_zero, List.set_cons_succ] at ha'
    subst ha'
    refine AnyS.stepE (i := 6) (d := some 26) rfl rfl (by kernel_rfl) (by kernel_rfl) (by kernel_rfl) ?_
    apply Exists.intro
    apply And.intro
    · apply StepsIf.yield
      · kernel_rfl
      intro w' hS
      clear hS; go_simp
      rfl
    intro a' ha'
    simp only [Act.put, List.setIfInBounds_toArray, List.set_cons_zero, List.set_cons_succ] at ha'
    subst ha'
    refine AnyS.next (i := 7) (d := some 27) (v := .bool x) rfl rfl (by kernel_rfl) (by kernel_rfl) (by kernel_rfl) (StepsIf.call (by kernel_rfl) (fun w' hS => by clear hS; go_simp) (fun w' hS => (hbg w').mono fun e w'' h => ⟨h.1, hS.go h.2⟩)) ?_
    intro a' ha'
    simp only [Act.put, List.setIfInBounds_toArray, List.set_cons_zero, List.set_cons_succ] at ha'
    subst ha'
    refine AnyS.done (by kernel_rfl) ?_ _
    intro w2 hS2
    clear hbg m1 m3 m4
    cases x with
    | true =>
      have hN := Lib.hid (HG.out rfl HNO.out).1
      have hL := Lib.hid (HG.out rfl HNO.out).2
      clear HG HX HNO HEND
      obtain ⟨⟨zk, zp, ze, zt, zn, zm⟩, er, pl⟩ := Z
      go_wp2_with fail
      refine (HRD.out _).mono ?_
      rintro en w3 ⟨rfl, hb⟩
      have hS3 := hS2.go hb
      have HR := Lib.hid hS3.1.1
      have hB3 := hS3.2
      clear hb HRD hS2 hS3
      go_wp2_with ((with_reducible refine wpList_store_st (o := ⟨none, .store 45 _ _, _, _, _, _⟩) rfl 45 _ _ rfl w.heap.size rfl rfl (run_storeAt_row _ w.heap.size 45 45 (rgZ 0 0 0 0 0 0 0 eT) (rgI zk zp ze zt zn zm er pl z) ?_ ?_ ?_ ?_) ?_); exact HR.out; exact infoRg; rfl; exact rg_one _ _ _ _ _ _ _ _ _)
      exact bodyPost_ret (v := .agg (rgI zk zp ze zt zn zm er pl z)) (results_cell_row rfl _ _ w.heap.size 45 (rgI zk zp ze zt zn zm er pl z) (0, 0) _ rfl (Blk.setRow HR.out) Tryz.underlying45 rfl infoRg) rfl ⟨by rw [hN.out, hL.out], below_row hB3 (Nat.le_refl _) _⟩
    | false =>
      clear HG HEND HRD
      go_wp2_with fail
      go_roundw
      case rel =>
        refine ⟨5, by omega, by simp, fun i hi => ?_, hS2⟩
        by_cases hij : i = 4
        · subst hij; exact HX.out
        · exact HNO.out i (by omega)
      case measure => simp [intOf]
  · have hN := Lib.hid (HEND.out hno).1
    have hL := Lib.hid (HEND.out hno).2
    have HF := Lib.hid (fun w => fault5_calls 3 ((a : Int) + 1) w)
    clear HEND hno
    go_wp2_with fail
    refine (HF.out _).mono ?_
    rintro en w3 ⟨rfl, hb⟩
    have hS3 := hS0.go hb
    have HR := Lib.hid hS3.1.1
    have hB3 := hS3.2
    clear hb HF hS0 hS3
    go_wp2_with ((with_reducible refine wpList_store_st (o := ⟨none, .store 45 _ _, _, _, _, _⟩) rfl 45 _ _ rfl w.heap.size rfl rfl (run_storeAt_row _ w.heap.size 45 45 (rgZ 0 0 0 0 0 0 0 eT) (rgZ 0 0 0 0 0 3 ((a : Int) + 1) eT) ?_ ?_ ?_ ?_) ?_); exact HR.out; exact infoRg; rfl; exact rg_one _ _ _ 0 _ _ _ _ _)
    exact bodyPost_ret (v := .agg (rgZ 0 0 0 0 0 3 ((a : Int) + 1) eT)) (results_cell_row rfl _ _ w.heap.size 45 (rgZ 0 0 0 0 0 3 ((a : Int) + 1) eT) (0, 0) _ rfl (Blk.setRow HR.out) Tryz.underlying45 rfl infoRg) rfl ⟨by rw [hN.out, hL.out, rgZ_eq]; rfl, below_row hB3 (Nat.le_refl _) _⟩
end Go.Proofs.YtpaecjjelpjopaaGreatDoor

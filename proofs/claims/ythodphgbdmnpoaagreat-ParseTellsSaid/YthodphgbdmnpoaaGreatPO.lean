/- Texts put together: Wr Ws Jf Jg Hl. -/
import Derived.Test.YthodphgbdmnpoaaGreatPN
import Derived.Test.YthodphgbdmnpoaaGreatPB
import Derived.Test.YthodphgbdmnpoaaGreatPK
import Derived.Test.YthodphgbdmnpoaaGreatPC
import Derived.Test.YthodphgbdmnpoaaGreatPJ
import Derived.Test.YthodphgbdmnpoaaGreatPG
/- The developers' words: all kinds; the word at a place, whatever kind it is of. -/
namespace Go.Proofs.YthodphgbdmnpoaaGreat
open Go.RowKit Go.Shelf BS

@[reducible] def kdV (T : TypeId) : Value := .iface T (.agg #[])
@[reducible] def kdA : Array Value := #[.iface 97 (.agg #[]), .iface 98 (.agg #[]), .iface 99 (.agg #[]), .iface 100 (.agg #[]), .iface 101 (.agg #[])]
@[reducible] def kdZ : Array Value := #[.nilIface, .nilIface, .nilIface, .nilIface, .nilIface]
theorem infoKd : (Tryz.prog.info? 90).map (·.size) = some 5 := by kernel_rfl
set_option maxRecDepth 100000 in
set_option maxHeartbeats 1000000 in
theorem kinds_calls (w : World) : Calls Tryz.prog 43 #[] w fun en w' => en = .returned (.agg kdA) ∧ Below w.heap.size w w' := by
  go_enter Tryz.func43, Tryz.ntmps43
  go_wp2
  have hR := Blk.new w kdA 90
  have hB : Below w.heap.size w (w.alloc (.cells kdA 90)) := by go_grown
  exact bodyPost_ret (v := .agg kdA) (results_cell_row rfl _ _ w.heap.size 90 kdA (0, 0) _ rfl hR Tryz.underlying90 rfl infoKd) rfl ⟨rfl, hB⟩

/-- May a word of kind j begin with byte b. -/
def begK (j b : Nat) : Bool := if j = 0 then b == 40 else if j = 1 then b == 41 else if j = 2 then b == 124 else if j = 3 then [42, 43, 63, 123].contains b else b != 94 && b != 36
/-- What lacks at a place. -/
def lackA (s : ByteArray) (a : Nat) : ByteArray :=
  if bt s a = 42 ∨ bt s a = 43 ∨ bt s a = 63 ∨ bt s a = 123 then ofT (readD4 s a).lack else oneL s a
def lackG5 (s : ByteArray) (at' : Int) : ByteArray := if at' < 0 ∨ (s.size : Int) ≤ at' then eT else lackA s at'.toNat
theorem contains4 (b : Nat) : ([42, 43, 63, 123].contains b) = true ↔ (b = 42 ∨ b = 43 ∨ b = 63 ∨ b = 123) := by simp
/-- Kind j's reading at a place. -/
def readK (s : ByteArray) (a j : Nat) : WN × Nat × Nat :=
  if j = 0 then (⟨2, a, a + 1, 0, 0, 0⟩, 0, 0) else if j = 1 then (⟨3, a, a + 1, 0, 0, 0⟩, 0, 0) else if j = 2 then (⟨4, a, a + 1, 0, 0, 0⟩, 0, 0) else if j = 3 then cntW s a else oneR s a
def lackK (s : ByteArray) (a j : Nat) : ByteArray := if j = 3 then ofT (readD4 s a).lack else if j = 4 then oneL s a else eT
theorem next_kind (s : ByteArray) (a j : Nat) (hj : j < 5) (hb : begK j (bt s a) = true) (hno : ∀ i, i < j → begK i (bt s a) = false) : nextA s a = readK s a j ∧ lackA s a = lackK s a j := by
  have n0 := hno 0; have n1 := hno 1; have n2 := hno 2; have n3 := hno 3
  clear hno
  have c4 := contains4 (bt s a)
  obtain rfl | rfl | rfl | rfl | rfl : j = 0 ∨ j = 1 ∨ j = 2 ∨ j = 3 ∨ j = 4 := by omega
  · have e : bt s a = 40 := by simpa [begK] using hb
    constructor
    · unfold nextA readK
      rw [if_pos e, if_pos rfl]
    · unfold lackA lackK oneL
      rw [if_neg (by omega), if_neg (by omega), if_neg (by omega), if_neg (by omega), if_neg (by omega)]
  · have e : bt s a = 41 := by simpa [begK] using hb
    constructor
    · unfold nextA readK
      rw [if_neg (by omega), if_pos e, if_neg (by omega), if_pos rfl]
    · unfold lackA lackK oneL
      rw [if_neg (by omega), if_neg (by omega), if_neg (by omega), if_neg (by omega), if_neg (by omega)]
  · have e : bt s a = 124 := by simpa [begK] using hb
    constructor
    · unfold nextA readK
      rw [if_neg (by omega), if_neg (by omega), if_pos e, if_neg (by omega), if_neg (by omega), if_pos rfl]
    · unfold lackA lackK oneL
      rw [if_neg (by omega), if_neg (by omega), if_neg (by omega), if_neg (by omega), if_neg (by omega)]
  · have e : [42, 43, 63, 123].contains (bt s a) = true := by simpa [begK] using hb
    have e2 := c4.1 e
    constructor
    · unfold nextA readK
      rw [if_neg (by omega), if_neg (by omega), if_neg (by omega), if_pos e2, if_neg (by omega), if_neg (by omega), if_neg (by omega), if_pos rfl]
    · unfold lackA lackK
      rw [if_pos e2, if_pos rfl]
  · have e : bt s a ≠ 94 ∧ bt s a ≠ 36 := by simpa [begK] using hb
    have e0 : bt s a ≠ 40 := by simpa [begK] using n0 (by omega)
    have e1 : bt s a ≠ 41 := by simpa [begK] using n1 (by omega)
    have e2 : bt s a ≠ 124 := by simpa [begK] using n2 (by omega)
    have e3 : ¬ (bt s a = 42 ∨ bt s a = 43 ∨ bt s a = 63 ∨ bt s a = 123) := fun h => by
      have h1 := c4.2 h
      have h2 : [42, 43, 63, 123].contains (bt s a) = false := by simpa [begK] using n3 (by omega)
      rw [h1] at h2; cases h2
    constructor
    · rw [show readK s a 4 = oneR s a from rfl]
      unfold nextA oneR
      rw [if_neg e0, if_neg e1, if_neg e2, if_neg e3]
      by_cases h1 : bt s a = 91
      · rw [if_pos h1, if_pos h1]
      rw [if_neg h1, if_neg h1]
      by_cases h2 : bt s a = 46
      · rw [if_pos h2, if_neg (show ¬ bt s a = 92 by omega), if_pos h2]
      rw [if_neg h2, if_neg (show ¬ (bt s a = 94 ∨ bt s a = 36) by omega)]
      by_cases h3 : bt s a = 92
      · rw [if_pos h3, if_pos h3]
      · rw [if_neg h3, if_neg h3, if_neg h2]
    · rw [show lackK s a 4 = oneL s a from rfl]
      unfold lackA
      rw [if_neg e3]
theorem next_none (s : ByteArray) (a : Nat) (hno : ∀ i, i < 5 → begK i (bt s a) = false) : nextA s a = (zWN, 3, a + 1) ∧ lackA s a = eT := by
  have n4 : bt s a = 94 ∨ bt s a = 36 := by
    have := hno 4 (by omega)
    simp only [begK] at this
    simp at this
    omega
  constructor
  · unfold nextA
    rw [if_neg (by omega), if_neg (by omega), if_neg (by omega), if_neg (by omega), if_neg (by omega), if_neg (by omega), if_pos n4]
  · unfold lackA oneL
    rw [if_neg (by omega), if_neg (by omega), if_neg (by omega)]
/-- What lacks is what the document asks. -/
theorem lackG5_ok (s : ByteArray) (at' : Int) : LackW s at' (lackG5 s at') := by
  by_cases h : at' < 0 ∨ (s.size : Int) ≤ at'
  · unfold lackG5
    rw [if_pos h]
    exact lackW_far s at' h
  · obtain ⟨a, rfl⟩ := Int.eq_ofNat_of_zero_le (show 0 ≤ at' by omega)
    have ha : a < s.size := by omega
    unfold lackG5
    rw [if_neg h]
    show LackW s a (lackA s a)
    unfold lackA
    by_cases h1 : bt s a = 42 ∨ bt s a = 43 ∨ bt s a = 63 ∨ bt s a = 123
    · rw [if_pos h1]
      exact lackW_cnt s a ha h1
    rw [if_neg h1]
    unfold oneL
    by_cases h2 : bt s a = 91
    · rw [if_pos h2]
      exact lackW_brk s a ha h2
    rw [if_neg h2]
    have hno : ¬ (bt s a = 92 ∧ a + 1 = s.size) → LackW s a eT := fun h3 => by
      refine lackW_none s a fun h4 => ?_
      rcases next_err2 s a ha h4 with h | h | h
      · exact h2 h
      · exact h1 (by omega)
      · exact h3 h
    by_cases h3 : bt s a = 92
    · rw [if_pos h3]
      unfold lackS
      by_cases h4 : s.size ≤ a + 1
      · rw [if_pos h4]
        exact lackW_slash s a 46 (by omega) h3 (by decide) (by decide)
      · rw [if_neg h4]
        exact hno (by omega)
    · rw [if_neg h3]
      exact hno (by omega)

/-! ### The walk -/
theorem m_open_begins (n : Nat) (w : World) : (method (n + 1) 97 (.agg #[]) "gimlet/lex.begins").run Tryz.prog w = .ok (71, .agg #[]) w := by kernel_rfl
theorem m_open_read (n : Nat) (w : World) : (method (n + 1) 97 (.agg #[]) "gimlet/lex.read").run Tryz.prog w = .ok (74, .agg #[]) w := by kernel_rfl
theorem ix_open (w : World) : (Instr.index 90 (.agg kdA) (.int .i64 0)).run Tryz.prog w = .ok (.iface 97 (.agg #[])) w := by kernel_rfl
theorem n_open_begins (n : Nat) (w : World) : (nilAhead (n + 1) 97 (.agg #[]) "gimlet/lex.begins").run Tryz.prog w = .ok (some false) w := by kernel_rfl
theorem m_shut_begins (n : Nat) (w : World) : (method (n + 1) 98 (.agg #[]) "gimlet/lex.begins").run Tryz.prog w = .ok (76, .agg #[]) w := by kernel_rfl
theorem m_shut_read (n : Nat) (w : World) : (method (n + 1) 98 (.agg #[]) "gimlet/lex.read").run Tryz.prog w = .ok (79, .agg #[]) w := by kernel_rfl
theorem ix_shut (w : World) : (Instr.index 90 (.agg kdA) (.int .i64 1)).run Tryz.prog w = .ok (.iface 98 (.agg #[])) w := by kernel_rfl
theorem n_shut_begins (n : Nat) (w : World) : (nilAhead (n + 1) 98 (.agg #[]) "gimlet/lex.begins").run Tryz.prog w = .ok (some false) w := by kernel_rfl
theorem m_bar_begins (n : Nat) (w : World) : (method (n + 1) 99 (.agg #[]) "gimlet/lex.begins").run Tryz.prog w = .ok (80, .agg #[]) w := by kernel_rfl
theorem m_bar_read (n : Nat) (w : World) : (method (n + 1) 99 (.agg #[]) "gimlet/lex.read").run Tryz.prog w = .ok (83, .agg #[]) w := by kernel_rfl
theorem ix_bar (w : World) : (Instr.index 90 (.agg kdA) (.int .i64 2)).run Tryz.prog w = .ok (.iface 99 (.agg #[])) w := by kernel_rfl
theorem n_bar_begins (n : Nat) (w : World) : (nilAhead (n + 1) 99 (.agg #[]) "gimlet/lex.begins").run Tryz.prog w = .ok (some false) w := by kernel_rfl
theorem m_rep_begins (n : Nat) (w : World) : (method (n + 1) 100 (.agg #[]) "gimlet/lex.begins").run Tryz.prog w = .ok (84, .agg #[]) w := by kernel_rfl
theorem m_rep_read (n : Nat) (w : World) : (method (n + 1) 100 (.agg #[]) "gimlet/lex.read").run Tryz.prog w = .ok (87, .agg #[]) w := by kernel_rfl
theorem ix_rep (w : World) : (Instr.index 90 (.agg kdA) (.int .i64 3)).run Tryz.prog w = .ok (.iface 100 (.agg #[])) w := by kernel_rfl
theorem n_rep_begins (n : Nat) (w : World) : (nilAhead (n + 1) 100 (.agg #[]) "gimlet/lex.begins").run Tryz.prog w = .ok (some false) w := by kernel_rfl
theorem m_one_begins (n : Nat) (w : World) : (method (n + 1) 101 (.agg #[]) "gimlet/lex.begins").run Tryz.prog w = .ok (100, .agg #[]) w := by kernel_rfl
theorem m_one_read (n : Nat) (w : World) : (method (n + 1) 101 (.agg #[]) "gimlet/lex.read").run Tryz.prog w = .ok (103, .agg #[]) w := by kernel_rfl
theorem ix_one (w : World) : (Instr.index 90 (.agg kdA) (.int .i64 4)).run Tryz.prog w = .ok (.iface 101 (.agg #[])) w := by kernel_rfl
theorem n_one_begins (n : Nat) (w : World) : (nilAhead (n + 1) 101 (.agg #[]) "gimlet/lex.begins").run Tryz.prog w = .ok (some false) w := by kernel_rfl

/-- What holds while the kinds are asked. -/
def SR5 (w W : World) : Prop := (Blk W w.heap.size (rgZ 0 0 0 0 0 0 0 eT) 79 ∧ w.heap.size + 1 ≤ W.heap.size) ∧ Below w.heap.size w W
theorem SR5.drewS {w W : World} (h : SR5 w W) : SR5 w W.drew := ⟨⟨h.1.1, h.1.2⟩, h.2.drew⟩
theorem SR5.go {w W W' : World} (h : SR5 w W) (hb : Below W.heap.size W W') : SR5 w W' := ⟨⟨h.1.1.below hb h.1.1.lt, Nat.le_trans h.1.2 hb.size⟩, h.2.trans (hb.mono (by have := h.1.2; omega))⟩
set_option maxRecDepth 100000 in
set_option maxHeartbeats 8000000 in
theorem read5_in (s : ByteArray) (hs : s.size ≤ 1000000) (a : Nat) (ha : a < s.size) (w : World) : Calls Tryz.prog 37 #[.string s, .int .i64 a] w fun en w' => en = .returned (.agg (rgA (nextA s a) (lackA s a))) ∧ Below w.heap.size w w' := by
  have x1 : IntKind.i64.wrap ((a : Int) + 1) = (a : Int) + 1 := IntWalk.i64_in _ (by omega)
  have q0 : decide ((a : Int) < 0) = false := by rw [decide_eq_false_iff_not]; omega
  have q1 : decide ((s.size : Int) ≤ (a : Int)) = false := by rw [decide_eq_false_iff_not]; omega
  have h0 : s[a].toNat = bt s a := (bt_eq s a ha).symm
  have hl0 := bt_lt s a
  have HK := Lib.hid kinds_calls
  have HEND := Lib.hid (next_none s a)
  have HR := Lib.hid (Blk.new w (rgZ 0 0 0 0 0 0 0 eT) 79)
  have HB : Hid (Below w.heap.size w (w.alloc (.cells (rgZ 0 0 0 0 0 0 0 eT) 79))) := Lib.hid (by go_grown)
  have hz : w.heap.size + 1 ≤ (w.alloc (.cells (rgZ 0 0 0 0 0 0 0 eT) 79)).heap.size := by simp
  go_enter Tryz.func37, Tryz.ntmps37
  go_upto_region 1 with fail
  have e0 : w.alloc (.cells #[.int .i64 0, .int .i64 0, .int .i64 0, .int .u64 0, .int .u64 0, .int .u64 0, .int .u64 0, .int .i64 0, .int .i64 0, .int .i64 0, .int .i64 0, .string ⟨#[]⟩] 79) = w.alloc (.cells (rgZ 0 0 0 0 0 0 0 eT) 79) := rfl
  try rw [e0]
  clear e0
  generalize w.alloc (.cells (rgZ 0 0 0 0 0 0 0 eT) 79) = w1 at *
  go_wp2_with fail
  refine (HK.out _).mono ?_
  rintro en w2 ⟨rfl, hb⟩
  replace HR := Lib.hid (HR.out.below hb (Blk.lt HR.out))
  replace HB := Lib.hid (HB.out.trans (hb.mono (by omega)))
  replace hz := Nat.le_trans hz hb.size
  clear hb HK
  have HS := Lib.hid (show SR5 w w2 from ⟨⟨HR.out, hz⟩, HB.out⟩)
  clear HR HB hz
  go_wp2_with fail
  go_loopw [17] (fun i wr => ∃ k : Nat, k ≤ 5 ∧ i = .int .i64 k ∧ (∀ j, j < k → begK j (bt s a) = false) ∧ SR5 w wr) (fun i _ => 5 - (intOf i).toNat)
  case atStart => exact ⟨0, by omega, rfl, fun j hj => by omega, HS.out⟩
  case round =>
  clear HS
  obtain ⟨k, hk, rfl, hno, hS0⟩ := hrel
  obtain rfl | rfl | rfl | rfl | rfl | rfl : k = 0 ∨ k = 1 ∨ k = 2 ∨ k = 3 ∨ k = 4 ∨ k = 5 := by omega
  · -- open
    have hbg : ∀ w, Calls Tryz.prog 71 #[.agg #[], .int .u8 (bt s a)] w fun en w' => en = .returned (.bool (begK 0 (bt s a))) ∧ Below w.heap.size w w' := openBegins_calls (bt s a)
    have HRD : Hid (∀ w, Calls Tryz.prog 74 #[.agg #[], .string s, .int .i64 a] w fun en w' => en = .returned (.agg (rgA (readK s a 0) (lackK s a 0))) ∧ Below w.heap.size w w') := Lib.hid (openRead_calls s hs a ha)
    have HG := Lib.hid (next_kind s a 0 (by omega))
    have m1 := m_open_begins
    have m2 := m_open_read
    have m3 := n_open_begins
    have m4 := ix_open
    generalize bt s a = b at *
    generalize readK s a 0 = Z at *
    generalize lackK s a 0 = z at *
    generalize hx : begK 0 b = x at *
    have HX := Lib.hid hx
    have HNO := Lib.hid hno
    clear hx hno
    go_upto_region 6 with fail
    refine region_steps (S := SR5 w) (by kernel_rfl) (SR5.drewS hS0) ?_
    clear hS0
    simp only [List.size_toArray, List.length_cons, List.length_nil, Nat.reduceAdd, Array.replicate_succ, Array.replicate_zero, List.push_toArray, List.nil_append, List.cons_append]
    refine AnyS.stepE (i := 0) (d := some 20) rfl rfl (by kernel_rfl) (by kernel_rfl) (by kernel_rfl) ?_
    apply Exists.intro
    apply And.intro
    · apply StepsIf.yield
      · kernel_rfl
      intro w' hS
      clear hS; go_simp
      rfl
    intro a' ha'
    simp only [Act.put, List.setIfInBounds_toArray, List.set_cons_zero, List.set_cons_succ] at ha'
    subst ha'
    refine AnyS.stepE (i := 1) (d := some 21) rfl rfl (by kernel_rfl) (by kernel_rfl) (by kernel_rfl) ?_
    apply Exists.intro
    apply And.intro
    · apply StepsIf.yield
      · kernel_rfl
      intro w' hS
      clear hS; go_simp
      rfl
    intro a' ha'
    simp only [Act.put, List.setIfInBounds_toArray, List.set_cons_zero, List.set_cons_succ] at ha'
    subst ha'
    refine AnyS.stepE (i := 2) (d := some 22) rfl rfl (by kernel_rfl) (by kernel_rfl) (by kernel_rfl) ?_
    apply Exists.intro
    apply And.intro
    · apply StepsIf.yield
      · kernel_rfl
      intro w' hS
      clear hS; go_simp
      rfl
    intro a' ha'
    simp only [Act.put, List.setIfInBounds_toArray, List.set_cons_zero, List.set_cons_succ] at ha'
    subst ha'
    refine AnyS.stepE (i := 3) (d := some 23) rfl rfl (by kernel_rfl) (by kernel_rfl) (by kernel_rfl) ?_
    apply Exists.intro
    apply And.intro
    · apply StepsIf.yield
      · kernel_rfl
      intro w' hS
      clear hS; go_simp
      rfl
    intro a' ha'
    simp only [Act.put, List.setIfInBounds_toArray, List.set_cons_zero, List.set_cons_succ] at ha'
    subst ha'
    refine AnyS.stepE (i := 4) (d := some 24) rfl rfl (by kernel_rfl) (by kernel_rfl) (by kernel_rfl) ?_
    apply Exists.intro
    apply And.intro
    · apply StepsIf.yield
      · kernel_rfl
      intro w' hS
      clear hS; go_simp
      rfl
    intro a' ha'
    simp only [Act.put, List.setIfInBounds_toArray, List.set_cons_zero, List.set_cons_succ] at ha'
    subst ha'
    refine AnyS.stepE (i := 5) (d := some 25) rfl rfl (by kernel_rfl) (by kernel_rfl) (by kernel_rfl) ?_
    apply Exists.intro
    apply And.intro
    · apply StepsIf.yield
      · kernel_rfl
      intro w' hS
      clear hS; go_simp
      rfl
    intro a' ha'
    simp only [Act.put, List.setIfInBounds_toArray, List.set_cons_zero, List.set_cons_succ] at ha'
    subst ha'
    refine AnyS.stepE (i := 6) (d := some 26) rfl rfl (by kernel_rfl) (by kernel_rfl) (by kernel_rfl) ?_
    apply Exists.intro
    apply And.intro
    · apply StepsIf.yield
      · kernel_rfl
      intro w' hS
      clear hS; go_simp
      rfl
    intro a' ha'
    simp only [Act.put, List.setIfInBounds_toArray, List.set_cons_zero, List.set_cons_succ] at ha'
    subst ha'
    refine AnyS.next (i := 7) (d := some 27) (v := .bool x) rfl rfl (by kernel_rfl) (by kernel_rfl) (by kernel_rfl) (StepsIf.call (by kernel_rfl) (fun w' hS => by clear hS; go_simp) (fun w' hS => (hbg w').mono fun e w'' h => ⟨h.1, hS.go h.2⟩)) ?_
    intro a' ha'
    simp only [Act.put, List.setIfInBounds_toArray, List.set_cons_zero, List.set_cons_succ] at ha'
    subst ha'
    refine AnyS.done (by kernel_rfl) ?_ _
    intro w2 hS2
    clear hbg m1 m3 m4
    cases x with
    | true =>
      have hN := Lib.hid (HG.out rfl HNO.out).1
      have hL := Lib.hid (HG.out rfl HNO.out).2
      clear HG HX HNO HEND
      obtain ⟨⟨zk, zp, ze, zt, zn, zm⟩, er, pl⟩ := Z
      go_wp2_with fail
      refine (HRD.out _).mono ?_
      rintro en w3 ⟨rfl, hb⟩
      have hS3 := hS2.go hb
      have HR := Lib.hid hS3.1.1
      have hB3 := hS3.2
      clear hb HRD hS2 hS3
      go_wp2_with ((with_reducible refine wpList_store_st (o := ⟨none, .store 79 _ _, _, _, _, _⟩) rfl 79 _ _ rfl w.heap.size rfl rfl (run_storeAt_row _ w.heap.size 79 79 (rgZ 0 0 0 0 0 0 0 eT) (rgI zk zp ze zt zn zm er pl z) ?_ ?_ ?_ ?_) ?_); exact HR.out; exact infoRg; rfl; exact rg_one _ _ _ _ _ _ _ _ _)
      exact bodyPost_ret (v := .agg (rgI zk zp ze zt zn zm er pl z)) (results_cell_row rfl _ _ w.heap.size 79 (rgI zk zp ze zt zn zm er pl z) (0, 0) _ rfl (Blk.setRow HR.out) Tryz.underlying79 rfl infoRg) rfl ⟨by rw [hN.out, hL.out], below_row hB3 (Nat.le_refl _) _⟩
    | false =>
      clear HG HEND HRD
      go_wp2_with fail
      go_roundw
      case rel =>
        refine ⟨1, by omega, by simp, fun i hi => ?_, hS2⟩
        by_cases hij : i = 0
        · subst hij; exact HX.out
        · exact HNO.out i (by omega)
      case measure => simp [intOf]
  · -- shut
    have hbg : ∀ w, Calls Tryz.prog 76 #[.agg #[], .int .u8 (bt s a)] w fun en w' => en = .returned (.bool (begK 1 (bt s a))) ∧ Below w.heap.size w w' := shutBegins_calls (bt s a)
    have HRD : Hid (∀ w, Calls Tryz.prog 79 #[.agg #[], .string s, .int .i64 a] w fun en w' => en = .returned (.agg (rgA (readK s a 1) (lackK s a 1))) ∧ Below w.heap.size w w') := Lib.hid (shutRead_calls s hs a ha)
    have HG := Lib.hid (next_kind s a 1 (by omega))
    have m1 := m_shut_begins
    have m2 := m_shut_read
    have m3 := n_shut_begins
    have m4 := ix_shut
    generalize bt s a = b at *
    generalize readK s a 1 = Z at *
    generalize lackK s a 1 = z at *
    generalize hx : begK 1 b = x at *
    have HX := Lib.hid hx
    have HNO := Lib.hid hno
    clear hx hno
    go_upto_region 6 with fail
    refine region_steps (S := SR5 w) (by kernel_rfl) (SR5.drewS hS0) ?_
    clear hS0
    simp only [List.size_toArray, List.length_cons, List.length_nil, Nat.reduceAdd, Array.replicate_succ, Array.replicate_zero, List.push_toArray, List.nil_append, List.cons_append]
    refine AnyS.stepE (i := 0) (d := some 20) rfl rfl (by kernel_rfl) (by kernel_rfl) (by kernel_rfl) ?_
    apply Exists.intro
    apply And.intro
    · apply StepsIf.yield
      · kernel_rfl
      intro w' hS
      clear hS; go_simp
      rfl
    intro a' ha'
    simp only [Act.put, List.setIfInBounds_toArray, List.set_cons_zero, List.set_cons_succ] at ha'
    subst ha'
    refine AnyS.stepE (i := 1) (d := some 21) rfl rfl (by kernel_rfl) (by kernel_rfl) (by kernel_rfl) ?_
    apply Exists.intro
    apply And.intro
    · apply StepsIf.yield
      · kernel_rfl
      intro w' hS
      clear hS; go_simp
      rfl
    intro a' ha'
    simp only [Act.put, List.setIfInBounds_toArray, List.set_cons_zero, List.set_cons_succ] at ha'
    subst ha'
    refine AnyS.stepE (i := 2) (d := some 22) rfl rfl (by kernel_rfl) (by kernel_rfl) (by kernel_rfl) ?_
    apply Exists.intro
    apply And.intro
    · apply StepsIf.yield
      · kernel_rfl
      intro w' hS
      clear hS; go_simp
      rfl
    intro a' ha'
    simp only [Act.put, List.setIfInBounds_toArray, List.set_cons_zero, List.set_cons_succ] at ha'
    subst ha'
    refine AnyS.stepE (i := 3) (d := some 23) rfl rfl (by kernel_rfl) (by kernel_rfl) (by kernel_rfl) ?_
    apply Exists.intro
    apply And.intro
    · apply StepsIf.yield
      · kernel_rfl
      intro w' hS
      clear hS; go_simp
      rfl
    intro a' ha'
    simp only [Act.put, List.setIfInBounds_toArray, List.set_cons_zero, List.set_cons_succ] at ha'
    subst ha'
    refine AnyS.stepE (i := 4) (d := some 24) rfl rfl (by kernel_rfl) (by kernel_rfl) (by kernel_rfl) ?_
    apply Exists.intro
    apply And.intro
    · apply StepsIf.yield
      · kernel_rfl
      intro w' hS
      clear hS; go_simp
      rfl
    intro a' ha'
    simp only [Act.put, List.setIfInBounds_toArray, List.set_cons_zero, List.set_cons_succ] at ha'
    subst ha'
    refine AnyS.stepE (i := 5) (d := some 25) rfl rfl (by kernel_rfl) (by kernel_rfl) (by kernel_rfl) ?_
    apply Exists.intro
    apply And.intro
    · apply StepsIf.yield
      · kernel_rfl
      intro w' hS
      clear hS; go_simp
      rfl
    intro a' ha'
    simp only [Act.put, List.setIfInBounds_toArray, List.set_cons_zero, List.set_cons_succ] at ha'
    subst ha'
    refine AnyS.stepE (i := 6) (d := some 26) rfl rfl (by kernel_rfl) (by kernel_rfl) (by kernel_rfl) ?_
    apply Exists.intro
    apply And.intro
    · apply StepsIf.yield
      · kernel_rfl
      intro w' hS
      clear hS; go_simp
      rfl
    intro a' ha'
    simp only [Act.put, List.setIfInBounds_toArray, List.set_cons_zero, List.set_cons_succ] at ha'
    subst ha'
    refine AnyS.next (i := 7) (d := some 27) (v := .bool x) rfl rfl (by kernel_rfl) (by kernel_rfl) (by kernel_rfl) (StepsIf.call (by kernel_rfl) (fun w' hS => by clear hS; go_simp) (fun w' hS => (hbg w').mono fun e w'' h => ⟨h.1, hS.go h.2⟩)) ?_
    intro a' ha'
    simp only [Act.put, List.setIfInBounds_toArray, List.set_cons_zero, List.set_cons_succ] at ha'
    subst ha'
    refine AnyS.done (by kernel_rfl) ?_ _
    intro w2 hS2
    clear hbg m1 m3 m4
    cases x with
    | true =>
      have hN := Lib.hid (HG.out rfl HNO.out).1
      have hL := Lib.hid (HG.out rfl HNO.out).2
      clear HG HX HNO HEND
      obtain ⟨⟨zk, zp, ze, zt, zn, zm⟩, er, pl⟩ := Z
      go_wp2_with fail
      refine (HRD.out _).mono ?_
      rintro en w3 ⟨rfl, hb⟩
      have hS3 := hS2.go hb
      have HR := Lib.hid hS3.1.1
      have hB3 := hS3.2
      clear hb HRD hS2 hS3
      go_wp2_with ((with_reducible refine wpList_store_st (o := ⟨none, .store 79 _ _, _, _, _, _⟩) rfl 79 _ _ rfl w.heap.size rfl rfl (run_storeAt_row _ w.heap.size 79 79 (rgZ 0 0 0 0 0 0 0 eT) (rgI zk zp ze zt zn zm er pl z) ?_ ?_ ?_ ?_) ?_); exact HR.out; exact infoRg; rfl; exact rg_one _ _ _ _ _ _ _ _ _)
      exact bodyPost_ret (v := .agg (rgI zk zp ze zt zn zm er pl z)) (results_cell_row rfl _ _ w.heap.size 79 (rgI zk zp ze zt zn zm er pl z) (0, 0) _ rfl (Blk.setRow HR.out) Tryz.underlying79 rfl infoRg) rfl ⟨by rw [hN.out, hL.out], below_row hB3 (Nat.le_refl _) _⟩
    | false =>
      clear HG HEND HRD
      go_wp2_with fail
      go_roundw
      case rel =>
        refine ⟨2, by omega, by simp, fun i hi => ?_, hS2⟩
        by_cases hij : i = 1
        · subst hij; exact HX.out
        · exact HNO.out i (by omega)
      case measure => simp [intOf]
  · -- bar
    have hbg : ∀ w, Calls Tryz.prog 80 #[.agg #[], .int .u8 (bt s a)] w fun en w' => en = .returned (.bool (begK 2 (bt s a))) ∧ Below w.heap.size w w' := barBegins_calls (bt s a)
    have HRD : Hid (∀ w, Calls Tryz.prog 83 #[.agg #[], .string s, .int .i64 a] w fun en w' => en = .returned (.agg (rgA (readK s a 2) (lackK s a 2))) ∧ Below w.heap.size w w') := Lib.hid (barRead_calls s hs a ha)
    have HG := Lib.hid (next_kind s a 2 (by omega))
    have m1 := m_bar_begins
    have m2 := m_bar_read
    have m3 := n_bar_begins
    have m4 := ix_bar
    generalize bt s a = b at *
    generalize readK s a 2 = Z at *
    generalize lackK s a 2 = z at *
    generalize hx : begK 2 b = x at *
    have HX := Lib.hid hx
    have HNO := Lib.hid hno
    clear hx hno
    go_upto_region 6 with fail
    refine region_steps (S := SR5 w) (by kernel_rfl) (SR5.drewS hS0) ?_
    clear hS0
    simp only [List.size_toArray, List.length_cons, List.length_nil, Nat.reduceAdd, Array.replicate_succ, Array.replicate_zero, List.push_toArray, List.nil_append, List.cons_append]
    refine AnyS.stepE (i := 0) (d := some 20) rfl rfl (by kernel_rfl) (by kernel_rfl) (by kernel_rfl) ?_
    apply Exists.intro
    apply And.intro
    · apply StepsIf.yield
      · kernel_rfl
      intro w' hS
      clear hS; go_simp
      rfl
    intro a' ha'
    simp only [Act.put, List.setIfInBounds_toArray, List.set_cons_zero, List.set_cons_succ] at ha'
    subst ha'
    refine AnyS.stepE (i := 1) (d := some 21) rfl rfl (by kernel_rfl) (by kernel_rfl) (by kernel_rfl) ?_
    apply Exists.intro
    apply And.intro
    · apply StepsIf.yield
      · kernel_rfl
      intro w' hS
      clear hS; go_simp
      rfl
    intro a' ha'
    simp only [Act.put, List.setIfInBounds_toArray, List.set_cons_zero, List.set_cons_succ] at ha'
    subst ha'
    refine AnyS.stepE (i := 2) (d := some 22) rfl rfl (by kernel_rfl) (by kernel_rfl) (by kernel_rfl) ?_
    apply Exists.intro
    apply And.intro
    · apply StepsIf.yield
      · kernel_rfl
      intro w' hS
      clear hS; go_simp
      rfl
    intro a' ha'
    simp only [Act.put, List.setIfInBounds_toArray, List.set_cons_zero, List.set_cons_succ] at ha'
    subst ha'
    refine AnyS.stepE (i := 3) (d := some 23) rfl rfl (by kernel_rfl) (by kernel_rfl) (by kernel_rfl) ?_
    apply Exists.intro
    apply And.intro
    · apply StepsIf.yield
      · kernel_rfl
      intro w' hS
      clear hS; go_simp
      rfl
    intro a' ha'
    simp only [Act.put, List.setIfInBounds_toArray, List.set_cons_zero, List.set_cons_succ] at ha'
    subst ha'
    refine AnyS.stepE (i := 4) (d := some 24) rfl rfl (by kernel_rfl) (by kernel_rfl) (by kernel_rfl) ?_
    apply Exists.intro
    apply And.intro
    · apply StepsIf.yield
      · kernel_rfl
      intro w' hS
      clear hS; go_simp
      rfl
    intro a' ha'
    simp only [Act.put, List.setIfInBounds_toArray, List.set_cons_zero, List.set_cons_succ] at ha'
    subst ha'
    refine AnyS.stepE (i := 5) (d := some 25) rfl rfl (by kernel_rfl) (by kernel_rfl) (by kernel_rfl) ?_
    apply Exists.intro
    apply And.intro
    · apply StepsIf.yield
      · kernel_rfl
      intro w' hS
      clear hS; go_simp
      rfl
    intro a' ha'
    simp only [Act.put, List.setIfInBounds_toArray, List.set_cons_zero, List.set_cons_succ] at ha'
    subst ha'
    refine AnyS.stepE (i := 6) (d := some 26) rfl rfl (by kernel_rfl) (by kernel_rfl) (by kernel_rfl) ?_
    apply Exists.intro
    apply And.intro
    · apply StepsIf.yield
      · kernel_rfl
      intro w' hS
      clear hS; go_simp
      rfl
    intro a' ha'
    simp only [Act.put, List.setIfInBounds_toArray, List.set_cons_zero, List.set_cons_succ] at ha'
    subst ha'
    refine AnyS.next (i := 7) (d := some 27) (v := .bool x) rfl rfl (by kernel_rfl) (by kernel_rfl) (by kernel_rfl) (StepsIf.call (by kernel_rfl) (fun w' hS => by clear hS; go_simp) (fun w' hS => (hbg w').mono fun e w'' h => ⟨h.1, hS.go h.2⟩)) ?_
    intro a' ha'
    simp only [Act.put, List.setIfInBounds_toArray, List.set_cons_zero, List.set_cons_succ] at ha'
    subst ha'
    refine AnyS.done (by kernel_rfl) ?_ _
    intro w2 hS2
    clear hbg m1 m3 m4
    cases x with
    | true =>
      have hN := Lib.hid (HG.out rfl HNO.out).1
      have hL := Lib.hid (HG.out rfl HNO.out).2
      clear HG HX HNO HEND
      obtain ⟨⟨zk, zp, ze, zt, zn, zm⟩, er, pl⟩ := Z
      go_wp2_with fail
      refine (HRD.out _).mono ?_
      rintro en w3 ⟨rfl, hb⟩
      have hS3 := hS2.go hb
      have HR := Lib.hid hS3.1.1
      have hB3 := hS3.2
      clear hb HRD hS2 hS3
      go_wp2_with ((with_reducible refine wpList_store_st (o := ⟨none, .store 79 _ _, _, _, _, _⟩) rfl 79 _ _ rfl w.heap.size rfl rfl (run_storeAt_row _ w.heap.size 79 79 (rgZ 0 0 0 0 0 0 0 eT) (rgI zk zp ze zt zn zm er pl z) ?_ ?_ ?_ ?_) ?_); exact HR.out; exact infoRg; rfl; exact rg_one _ _ _ _ _ _ _ _ _)
      exact bodyPost_ret (v := .agg (rgI zk zp ze zt zn zm er pl z)) (results_cell_row rfl _ _ w.heap.size 79 (rgI zk zp ze zt zn zm er pl z) (0, 0) _ rfl (Blk.setRow HR.out) Tryz.underlying79 rfl infoRg) rfl ⟨by rw [hN.out, hL.out], below_row hB3 (Nat.le_refl _) _⟩
    | false =>
      clear HG HEND HRD
      go_wp2_with fail
      go_roundw
      case rel =>
        refine ⟨3, by omega, by simp, fun i hi => ?_, hS2⟩
        by_cases hij : i = 2
        · subst hij; exact HX.out
        · exact HNO.out i (by omega)
      case measure => simp [intOf]
  · -- rep
    have hbg : ∀ w, Calls Tryz.prog 84 #[.agg #[], .int .u8 (bt s a)] w fun en w' => en = .returned (.bool (begK 3 (bt s a))) ∧ Below w.heap.size w w' := repBegins_calls (bt s a) hl0
    have HRD : Hid (∀ w, Calls Tryz.prog 87 #[.agg #[], .string s, .int .i64 a] w fun en w' => en = .returned (.agg (rgA (readK s a 3) (lackK s a 3))) ∧ Below w.heap.size w w') := Lib.hid (repRead_calls s hs a)
    have HG := Lib.hid (next_kind s a 3 (by omega))
    have m1 := m_rep_begins
    have m2 := m_rep_read
    have m3 := n_rep_begins
    have m4 := ix_rep
    generalize bt s a = b at *
    generalize readK s a 3 = Z at *
    generalize lackK s a 3 = z at *
    generalize hx : begK 3 b = x at *
    have HX := Lib.hid hx
    have HNO := Lib.hid hno
    clear hx hno
    go_upto_region 6 with fail
    refine region_steps (S := SR5 w) (by kernel_rfl) (SR5.drewS hS0) ?_
    clear hS0
    simp only [List.size_toArray, List.length_cons, List.length_nil, Nat.reduceAdd, Array.replicate_succ, Array.replicate_zero, List.push_toArray, List.nil_append, List.cons_append]
    refine AnyS.stepE (i := 0) (d := some 20) rfl rfl (by kernel_rfl) (by kernel_rfl) (by kernel_rfl) ?_
    apply Exists.intro
    apply And.intro
    · apply StepsIf.yield
      · kernel_rfl
      intro w' hS
      clear hS; go_simp
      rfl
    intro a' ha'
    simp only [Act.put, List.setIfInBounds_toArray, List.set_cons_zero, List.set_cons_succ] at ha'
    subst ha'
    refine AnyS.stepE (i := 1) (d := some 21) rfl rfl (by kernel_rfl) (by kernel_rfl) (by kernel_rfl) ?_
    apply Exists.intro
    apply And.intro
    · apply StepsIf.yield
      · kernel_rfl
      intro w' hS
      clear hS; go_simp
      rfl
    intro a' ha'
    simp only [Act.put, List.setIfInBounds_toArray, List.set_cons_zero, List.set_cons_succ] at ha'
    subst ha'
    refine AnyS.stepE (i := 2) (d := some 22) rfl rfl (by kernel_rfl) (by kernel_rfl) (by kernel_rfl) ?_
    apply Exists.intro
    apply And.intro
    · apply StepsIf.yield
      · kernel_rfl
      intro w' hS
      clear hS; go_simp
      rfl
    intro a' ha'
    simp only [Act.put, List.setIfInBounds_toArray, List.set_cons_zero, List.set_cons_succ] at ha'
    subst ha'
    refine AnyS.stepE (i := 3) (d := some 23) rfl rfl (by kernel_rfl) (by kernel_rfl) (by kernel_rfl) ?_
    apply Exists.intro
    apply And.intro
    · apply StepsIf.yield
      · kernel_rfl
      intro w' hS
      clear hS; go_simp
      rfl
    intro a' ha'
    simp only [Act.put, List.setIfInBounds_toArray, List.set_cons_zero, List.set_cons_succ] at ha'
    subst ha'
    refine AnyS.stepE (i := 4) (d := some 24) rfl rfl (by kernel_rfl) (by kernel_rfl) (by kernel_rfl) ?_
    apply Exists.intro
    apply And.intro
    · apply StepsIf.yield
      · kernel_rfl
      intro w' hS
      clear hS; go_simp
      rfl
    intro a' ha'
    simp only [Act.put, List.setIfInBounds_toArray, List.set_cons_zero, List.set_cons_succ] at ha'
    subst ha'
    refine AnyS.stepE (i := 5) (d := some 25) rfl rfl (by kernel_rfl) (by kernel_rfl) (by kernel_rfl) ?_
    apply Exists.intro
    apply And.intro
    · apply StepsIf.yield
      · kernel_rfl
      intro w' hS
      clear hS; go_simp
      rfl
    intro a' ha'
    simp only [Act.put, List.setIfInBounds_toArray, List.set_cons_zero, List.set_cons_succ] at ha'
    subst ha'
    refine AnyS.stepE (i := 6) (d := some 26) rfl rfl (by kernel_rfl) (by kernel_rfl) (by kernel_rfl) ?_
    apply Exists.intro
    apply And.intro
    · apply StepsIf.yield
      · kernel_rfl
      intro w' hS
      clear hS; go_simp
      rfl
    intro a' ha'
    simp only [Act.put, List.setIfInBounds_toArray, List.set_cons_zero, List.set_cons_succ] at ha'
    subst ha'
    refine AnyS.next (i := 7) (d := some 27) (v := .bool x) rfl rfl (by kernel_rfl) (by kernel_rfl) (by kernel_rfl) (StepsIf.call (by kernel_rfl) (fun w' hS => by clear hS; go_simp) (fun w' hS => (hbg w').mono fun e w'' h => ⟨h.1, hS.go h.2⟩)) ?_
    intro a' ha'
    simp only [Act.put, List.setIfInBounds_toArray, List.set_cons_zero, List.set_cons_succ] at ha'
    subst ha'
    refine AnyS.done (by kernel_rfl) ?_ _
    intro w2 hS2
    clear hbg m1 m3 m4
    cases x with
    | true =>
      have hN := Lib.hid (HG.out rfl HNO.out).1
      have hL := Lib.hid (HG.out rfl HNO.out).2
      clear HG HX HNO HEND
      obtain ⟨⟨zk, zp, ze, zt, zn, zm⟩, er, pl⟩ := Z
      go_wp2_with fail
      refine (HRD.out _).mono ?_
      rintro en w3 ⟨rfl, hb⟩
      have hS3 := hS2.go hb
      have HR := Lib.hid hS3.1.1
      have hB3 := hS3.2
      clear hb HRD hS2 hS3
      go_wp2_with ((with_reducible refine wpList_store_st (o := ⟨none, .store 79 _ _, _, _, _, _⟩) rfl 79 _ _ rfl w.heap.size rfl rfl (run_storeAt_row _ w.heap.size 79 79 (rgZ 0 0 0 0 0 0 0 eT) (rgI zk zp ze zt zn zm er pl z) ?_ ?_ ?_ ?_) ?_); exact HR.out; exact infoRg; rfl; exact rg_one _ _ _ _ _ _ _ _ _)
      exact bodyPost_ret (v := .agg (rgI zk zp ze zt zn zm er pl z)) (results_cell_row rfl _ _ w.heap.size 79 (rgI zk zp ze zt zn zm er pl z) (0, 0) _ rfl (Blk.setRow HR.out) Tryz.underlying79 rfl infoRg) rfl ⟨by rw [hN.out, hL.out], below_row hB3 (Nat.le_refl _) _⟩
    | false =>
      clear HG HEND HRD
      go_wp2_with fail
      go_roundw
      case rel =>
        refine ⟨4, by omega, by simp, fun i hi => ?_, hS2⟩
        by_cases hij : i = 3
        · subst hij; exact HX.out
        · exact HNO.out i (by omega)
      case measure => simp [intOf]
  · -- one
    have hbg : ∀ w, Calls Tryz.prog 100 #[.agg #[], .int .u8 (bt s a)] w fun en w' => en = .returned (.bool (begK 4 (bt s a))) ∧ Below w.heap.size w w' := oneBegins_calls (bt s a)
    have HRD : Hid (∀ w, Calls Tryz.prog 103 #[.agg #[], .string s, .int .i64 a] w fun en w' => en = .returned (.agg (rgA (readK s a 4) (lackK s a 4))) ∧ Below w.heap.size w w') := Lib.hid (oneRead_calls s hs a ha)
    have HG := Lib.hid (next_kind s a 4 (by omega))
    have m1 := m_one_begins
    have m2 := m_one_read
    have m3 := n_one_begins
    have m4 := ix_one
    generalize bt s a = b at *
    generalize readK s a 4 = Z at *
    generalize lackK s a 4 = z at *
    generalize hx : begK 4 b = x at *
    have HX := Lib.hid hx
    have HNO := Lib.hid hno
    clear hx hno
    go_upto_region 6 with fail
    refine region_steps (S := SR5 w) (by kernel_rfl) (SR5.drewS hS0) ?_
    clear hS0
    simp only [List.size_toArray, List.length_cons, List.length_nil, Nat.reduceAdd, Array.replicate_succ, Array.replicate_zero, List.push_toArray, List.nil_append, List.cons_append]
    refine AnyS.stepE (i := 0) (d := some 20) rfl rfl (by kernel_rfl) (by kernel_rfl) (by kernel_rfl) ?_
    apply Exists.intro
    apply And.intro
    · apply StepsIf.yield
      · kernel_rfl
      intro w' hS
      clear hS; go_simp
      rfl
    intro a' ha'
    simp only [Act.put, List.setIfInBounds_toArray, List.set_cons_zero, List.set_cons_succ] at ha'
    subst ha'
    refine AnyS.stepE (i := 1) (d := some 21) rfl rfl (by kernel_rfl) (by kernel_rfl) (by kernel_rfl) ?_
    apply Exists.intro
    apply And.intro
    · apply StepsIf.yield
      · kernel_rfl
      intro w' hS
      clear hS; go_simp
      rfl
    intro a' ha'
    simp only [Act.put, List.setIfInBounds_toArray, List.set_cons_zero, List.set_cons_succ] at ha'
    subst ha'
    refine AnyS.stepE (i := 2) (d := some 22) rfl rfl (by kernel_rfl) (by kernel_rfl) (by kernel_rfl) ?_
    apply Exists.intro
    apply And.intro
    · apply StepsIf.yield
      · kernel_rfl
      intro w' hS
      clear hS; go_simp
      rfl
    intro a' ha'
    simp only [Act.put, List.setIfInBounds_toArray, List.set_cons_zero, List.set_cons_succ] at ha'
    subst ha'
    refine AnyS.stepE (i := 3) (d := some 23) rfl rfl (by kernel_rfl) (by kernel_rfl) (by kernel_rfl) ?_
    apply Exists.intro
    apply And.intro
    · apply StepsIf.yield
      · kernel_rfl
      intro w' hS
      clear hS; go_simp
      rfl
    intro a' ha'
    simp only [Act.put, List.setIfInBounds_toArray, List.set_cons_zero, List.set_cons_succ] at ha'
    subst ha'
    refine AnyS.stepE (i := 4) (d := some 24) rfl rfl (by kernel_rfl) (by kernel_rfl) (by kernel_rfl) ?_
    apply Exists.intro
    apply And.intro
    · apply StepsIf.yield
      · kernel_rfl
      intro w' hS
      clear hS; go_simp
      rfl
    intro a' ha'
    simp only [Act.put, List.setIfInBounds_toArray, List.set_cons_zero, List.set_cons_succ] at ha'
    subst ha'
    refine AnyS.stepE (i := 5) (d := some 25) rfl rfl (by kernel_rfl) (by kernel_rfl) (by kernel_rfl) ?_
    apply Exists.intro
    apply And.intro
    · apply StepsIf.yield
      · kernel_rfl
      intro w' hS
      clear hS; go_simp
      rfl
    intro a' ha'
    simp only [Act.put, List.setIfInBounds_toArray, List.set_cons_zero, List.set_cons_succ] at ha'
    subst ha'
    refine AnyS.stepE (i := 6) (d := some 26) rfl rfl (by kernel_rfl) (by kernel_rfl) (by kernel_rfl) ?_
    apply Exists.intro
    apply And.intro
    · apply StepsIf.yield
      · kernel_rfl
      intro w' hS
      clear hS; go_simp
      rfl
    intro a' ha'
    simp only [Act.put, List.setIfInBounds_toArray, List.set_cons_zero, List.set_cons_succ] at ha'
    subst ha'
    refine AnyS.next (i := 7) (d := some 27) (v := .bool x) rfl rfl (by kernel_rfl) (by kernel_rfl) (by kernel_rfl) (StepsIf.call (by kernel_rfl) (fun w' hS => by clear hS; go_simp) (fun w' hS => (hbg w').mono fun e w'' h => ⟨h.1, hS.go h.2⟩)) ?_
    intro a' ha'
    simp only [Act.put, List.setIfInBounds_toArray, List.set_cons_zero, List.set_cons_succ] at ha'
    subst ha'
    refine AnyS.done (by kernel_rfl) ?_ _
    intro w2 hS2
    clear hbg m1 m3 m4
    cases x with
    | true =>
      have hN := Lib.hid (HG.out rfl HNO.out).1
      have hL := Lib.hid (HG.out rfl HNO.out).2
      clear HG HX HNO HEND
      obtain ⟨⟨zk, zp, ze, zt, zn, zm⟩, er, pl⟩ := Z
      go_wp2_with fail
      refine (HRD.out _).mono ?_
      rintro en w3 ⟨rfl, hb⟩
      have hS3 := hS2.go hb
      have HR := Lib.hid hS3.1.1
      have hB3 := hS3.2
      clear hb HRD hS2 hS3
      go_wp2_with ((with_reducible refine wpList_store_st (o := ⟨none, .store 79 _ _, _, _, _, _⟩) rfl 79 _ _ rfl w.heap.size rfl rfl (run_storeAt_row _ w.heap.size 79 79 (rgZ 0 0 0 0 0 0 0 eT) (rgI zk zp ze zt zn zm er pl z) ?_ ?_ ?_ ?_) ?_); exact HR.out; exact infoRg; rfl; exact rg_one _ _ _ _ _ _ _ _ _)
      exact bodyPost_ret (v := .agg (rgI zk zp ze zt zn zm er pl z)) (results_cell_row rfl _ _ w.heap.size 79 (rgI zk zp ze zt zn zm er pl z) (0, 0) _ rfl (Blk.setRow HR.out) Tryz.underlying79 rfl infoRg) rfl ⟨by rw [hN.out, hL.out], below_row hB3 (Nat.le_refl _) _⟩
    | false =>
      clear HG HEND HRD
      go_wp2_with fail
      go_roundw
      case rel =>
        refine ⟨5, by omega, by simp, fun i hi => ?_, hS2⟩
        by_cases hij : i = 4
        · subst hij; exact HX.out
        · exact HNO.out i (by omega)
      case measure => simp [intOf]
  · have hN := Lib.hid (HEND.out hno).1
    have hL := Lib.hid (HEND.out hno).2
    have HF := Lib.hid (fun w => fault5_calls 3 ((a : Int) + 1) w)
    clear HEND hno
    go_wp2_with fail
    refine (HF.out _).mono ?_
    rintro en w3 ⟨rfl, hb⟩
    have hS3 := hS0.go hb
    have HR := Lib.hid hS3.1.1
    have hB3 := hS3.2
    clear hb HF hS0 hS3
    go_wp2_with ((with_reducible refine wpList_store_st (o := ⟨none, .store 79 _ _, _, _, _, _⟩) rfl 79 _ _ rfl w.heap.size rfl rfl (run_storeAt_row _ w.heap.size 79 79 (rgZ 0 0 0 0 0 0 0 eT) (rgZ 0 0 0 0 0 3 ((a : Int) + 1) eT) ?_ ?_ ?_ ?_) ?_); exact HR.out; exact infoRg; rfl; exact rg_one _ _ _ 0 _ _ _ _ _)
    exact bodyPost_ret (v := .agg (rgZ 0 0 0 0 0 3 ((a : Int) + 1) eT)) (results_cell_row rfl _ _ w.heap.size 79 (rgZ 0 0 0 0 0 3 ((a : Int) + 1) eT) (0, 0) _ rfl (Blk.setRow HR.out) Tryz.underlying79 rfl infoRg) rfl ⟨by rw [hN.out, hL.out, rgZ_eq]; rfl, below_row hB3 (Nat.le_refl _) _⟩
end Go.Proofs.YthodphgbdmnpoaaGreat

/- The developers' words: read at any place, Next, Lack, Text. -/
namespace Go.Proofs.YthodphgbdmnpoaaGreat
open Go.RowKit Go.Shelf BS

theorem next_in (s : ByteArray) (a : Nat) (ha : a < s.size) : nextA s a = nextN s a ∧ lackA s a = lackG5 s a := by
  unfold nextN lackG5
  rw [if_neg (by omega), if_neg (by omega)]
  exact ⟨rfl, rfl⟩
theorem next_far (s : ByteArray) (at' : Int) (h : at' < 0 ∨ (s.size : Int) ≤ at') : nextN s at' = (zWN, 1, 0) ∧ lackG5 s at' = eT := by
  unfold nextN lackG5
  rw [if_pos h, if_pos h]
  exact ⟨rfl, rfl⟩
set_option maxRecDepth 100000 in
set_option maxHeartbeats 8000000 in
theorem read5_calls (s : ByteArray) (hs : s.size ≤ 1000000) (at' : Int) (w : World) : Calls Tryz.prog 37 #[.string s, .int .i64 at'] w fun en w' => en = .returned (.agg (rgA (nextN s at') (lackG5 s at'))) ∧ Below w.heap.size w w' := by
  by_cases hin : 0 ≤ at' ∧ at' < s.size
  · obtain ⟨a, rfl⟩ := Int.eq_ofNat_of_zero_le hin.1
    have h := next_in s a (by omega)
    rw [← h.1, ← h.2]
    exact read5_in s hs a (by omega) w
  have hfar := next_far s at' (by omega)
  rw [hfar.1, hfar.2]
  have HF := Lib.hid (fun w => fault5_calls 1 0 w)
  have HR := Lib.hid (Blk.new w (rgZ 0 0 0 0 0 0 0 eT) 79)
  have HB : Hid (Below w.heap.size w (w.alloc (.cells (rgZ 0 0 0 0 0 0 0 eT) 79))) := Lib.hid (by go_grown)
  have hz : w.heap.size + 1 ≤ (w.alloc (.cells (rgZ 0 0 0 0 0 0 0 eT) 79)).heap.size := by simp
  go_enter Tryz.func37, Tryz.ntmps37
  go_upto_region 1 with fail
  have e0 : w.alloc (.cells #[.int .i64 0, .int .i64 0, .int .i64 0, .int .u64 0, .int .u64 0, .int .u64 0, .int .u64 0, .int .i64 0, .int .i64 0, .int .i64 0, .int .i64 0, .string ⟨#[]⟩] 79) = w.alloc (.cells (rgZ 0 0 0 0 0 0 0 eT) 79) := rfl
  try rw [e0]
  clear e0
  generalize w.alloc (.cells (rgZ 0 0 0 0 0 0 0 eT) 79) = w1 at *
  by_cases hneg : at' < 0
  · have q : decide (at' < 0) = true := by simpa using hneg
    clear hin hfar hneg
    go_wp2_with fail
    refine (HF.out _).mono ?_
    rintro en w2 ⟨rfl, hb⟩
    replace HR := Lib.hid (HR.out.below hb (Blk.lt HR.out))
    replace HB := Lib.hid (HB.out.trans (hb.mono (by omega)))
    replace hz := Nat.le_trans hz hb.size
    clear hb HF
    go_wp2_with ((with_reducible refine wpList_store_st (o := ⟨none, .store 79 _ _, _, _, _, _⟩) rfl 79 _ _ rfl w.heap.size rfl rfl (run_storeAt_row _ w.heap.size 79 79 (rgZ 0 0 0 0 0 0 0 eT) (rgZ 0 0 0 0 0 1 0 eT) ?_ ?_ ?_ ?_) ?_); exact HR.out; exact infoRg; rfl; exact rg_one _ _ _ 0 _ _ _ _ _)
    exact bodyPost_ret (v := .agg (rgZ 0 0 0 0 0 1 0 eT)) (results_cell_row rfl _ _ w.heap.size 79 (rgZ 0 0 0 0 0 1 0 eT) (0, 0) _ rfl (Blk.setRow HR.out) Tryz.underlying79 rfl infoRg) rfl ⟨by rw [rgZ_eq]; rfl, below_row HB.out (Nat.le_refl _) _⟩
  · have q : decide (at' < 0) = false := by rw [decide_eq_false_iff_not]; omega
    have q1 : decide ((s.size : Int) ≤ at') = true := by rw [decide_eq_true_iff]; omega
    clear hin hfar hneg
    go_wp2_with fail
    refine (HF.out _).mono ?_
    rintro en w2 ⟨rfl, hb⟩
    replace HR := Lib.hid (HR.out.below hb (Blk.lt HR.out))
    replace HB := Lib.hid (HB.out.trans (hb.mono (by omega)))
    replace hz := Nat.le_trans hz hb.size
    clear hb HF
    go_wp2_with ((with_reducible refine wpList_store_st (o := ⟨none, .store 79 _ _, _, _, _, _⟩) rfl 79 _ _ rfl w.heap.size rfl rfl (run_storeAt_row _ w.heap.size 79 79 (rgZ 0 0 0 0 0 0 0 eT) (rgZ 0 0 0 0 0 1 0 eT) ?_ ?_ ?_ ?_) ?_); exact HR.out; exact infoRg; rfl; exact rg_one _ _ _ 0 _ _ _ _ _)
    exact bodyPost_ret (v := .agg (rgZ 0 0 0 0 0 1 0 eT)) (results_cell_row rfl _ _ w.heap.size 79 (rgZ 0 0 0 0 0 1 0 eT) (0, 0) _ rfl (Blk.setRow HR.out) Tryz.underlying79 rfl infoRg) rfl ⟨by rw [rgZ_eq]; rfl, below_row HB.out (Nat.le_refl _) _⟩
/-! ### Next -/
theorem Blk.otherRow {W : World} {B B' : Nat} {vs cs : Array Value} {t : TypeId} (h : Blk W B vs t) (hne : B' ≠ B) : Blk (W.setRow B' cs) B vs t := by
  show (W.heap.modify B' _)[B]? = _
  rw [Array.getElem?_modify]
  rw [if_neg hne]
  exact h
def SN5 (w : World) (B : Nat) (d c : Array Value) (W : World) : Prop := (Blk W w.heap.size d 57 ∧ Blk W B c 79 ∧ w.heap.size + 1 ≤ B) ∧ Below w.heap.size w W
theorem SN5.drewS {w W : World} {B : Nat} {d c : Array Value} (h : SN5 w B d c W) : SN5 w B d c W.drew := ⟨⟨h.1.1, h.1.2.1, h.1.2.2⟩, h.2.drew⟩
theorem SN5.store {w W : World} {B : Nat} {d c : Array Value} (h : SN5 w B d c W) (cs : Array Value) : SN5 w B cs c (W.setRow w.heap.size cs) :=
  ⟨⟨Blk.setRow h.1.1, h.1.2.1.otherRow (by have := h.1.2.2; omega), h.1.2.2⟩, below_row h.2 (Nat.le_refl _) _⟩
@[reducible] def woZ : Array Value := #[.int .i64 0, .int .i64 0, .int .i64 0, .int .u64 0, .int .u64 0, .int .u64 0, .int .u64 0, .int .i64 0, .int .i64 0]
set_option maxRecDepth 100000 in
set_option maxHeartbeats 8000000 in
theorem next5_dev (s : ByteArray) (hs : s.size ≤ 1000000) (at' : Int) (w : World) : Calls Tryz.prog 25 #[.string s, .int .i64 at'] w fun en w' => en = .returned (.tuple #[.agg (woA (nextN s at').1), .int .i64 (nextN s at').2.1, .int .i64 (nextN s at').2.2]) ∧ Below w.heap.size w w' := by
  have HR := Lib.hid (Blk.new w woZ 57)
  have HB : Hid (Below w.heap.size w (w.alloc (.cells woZ 57))) := Lib.hid (by go_grown)
  have hz : w.heap.size + 1 ≤ (w.alloc (.cells woZ 57)).heap.size := by simp
  have HW := read5_calls s hs at'
  generalize lackG5 s at' = l at *
  generalize nextN s at' = X at *
  obtain ⟨⟨k, p, e, t, n, m⟩, er, pl⟩ := X
  replace HW : Hid (∀ w, Calls Tryz.prog 37 #[.string s, .int .i64 at'] w fun en w' => en = .returned (.agg (rgI k p e t n m er pl l)) ∧ Below w.heap.size w w') := Lib.hid HW
  show Calls Tryz.prog 25 #[.string s, .int .i64 at'] w fun en w' => en = .returned (.tuple #[.agg (woI k p e t n m), .int .i64 er, .int .i64 pl]) ∧ Below w.heap.size w w'
  go_enter Tryz.func25, Tryz.ntmps25
  go_upto_region 1 with fail
  have e0 : w.alloc (.cells #[.int .i64 0, .int .i64 0, .int .i64 0, .int .u64 0, .int .u64 0, .int .u64 0, .int .u64 0, .int .i64 0, .int .i64 0] 57) = w.alloc (.cells woZ 57) := rfl
  try rw [e0]
  clear e0
  generalize w.alloc (.cells woZ 57) = w1 at *
  go_wp2_with fail
  refine (HW.out _).mono ?_
  rintro en w2 ⟨rfl, hb⟩
  replace HR := Lib.hid (HR.out.below hb (Blk.lt HR.out))
  replace HB := Lib.hid (HB.out.trans (hb.mono (by omega)))
  replace hz := Nat.le_trans hz hb.size
  clear hb HW
  go_upto_region 2 with fail
  have HP := Lib.hid (Blk.new w2 (rgI k p e t n m er pl l) 79)
  replace HR := Lib.hid (HR.out.alloc (.cells (rgI k p e t n m er pl l) 79))
  replace HB := Lib.hid (HB.out.alloc (by omega) (.cells (rgI k p e t n m er pl l) 79))
  generalize w2.alloc (.cells (rgI k p e t n m er pl l) 79) = w3 at *
  generalize w2.heap.size = B at *
  have H0 := Lib.hid (show SN5 w B woZ (rgI k p e t n m er pl l) w3 from ⟨⟨HR.out, HP.out, hz⟩, HB.out⟩)
  clear HR HB HP hz
  refine region_stepsL (S0 := SN5 w B woZ (rgI k p e t n m er pl l)) (S1 := SN5 w B (woI k p e t n m) (rgI k p e t n m er pl l)) (m := 6) (by kernel_rfl) (by kernel_rfl) (SN5.drewS H0.out) ?_
  clear H0
  simp only [List.size_toArray, List.length_cons, List.length_nil, Nat.reduceAdd, Array.replicate_succ, Array.replicate_zero, List.push_toArray, List.nil_append, List.cons_append]
  refine AnyL.next (m := 6) (i := 0) (d := some 11) (v := .pointer (some ⟨B, 0, none⟩)) rfl rfl (by kernel_rfl) (by kernel_rfl) (by kernel_rfl) (by kernel_rfl) (StepsIf.yield (by kernel_rfl) (fun w' hS => by clear hS; go_simp)) ?_
  intro a' ha'
  simp only [Act.put, List.setIfInBounds_toArray, List.set_cons_zero, List.set_cons_succ] at ha'
  subst ha'
  refine AnyL.next (m := 6) (i := 1) (d := some 12) (v := .agg (woI k p e t n m)) rfl rfl (by kernel_rfl) (by kernel_rfl) (by kernel_rfl) (by kernel_rfl) (StepsIf.yield (by kernel_rfl) (fun w' hS => by have c0 := hS.1.2.1.cell 0; have c1 := hS.1.2.1.cell 1; have c2 := hS.1.2.1.cell 2; have c3 := hS.1.2.1.cell 3; have c4 := hS.1.2.1.cell 4; have c5 := hS.1.2.1.cell 5; have c6 := hS.1.2.1.cell 6; have c7 := hS.1.2.1.cell 7; have c8 := hS.1.2.1.cell 8; simp only [List.getElem?_toArray, List.getElem?_cons_zero, List.getElem?_cons_succ] at c0 c1 c2 c3 c4 c5 c6 c7 c8; clear hS; go_simp)) ?_
  intro a' ha'
  simp only [Act.put, List.setIfInBounds_toArray, List.set_cons_zero, List.set_cons_succ] at ha'
  subst ha'
  refine AnyL.both (m := 6) (i := 2) (d := some 13) (v := .pointer (some ⟨B, 9, none⟩)) rfl rfl (by kernel_rfl) (by kernel_rfl) (by kernel_rfl) (by kernel_rfl) (StepsIf.yield (by kernel_rfl) (fun w' hS => by clear hS; go_simp)) (StepsIf.yield (by kernel_rfl) (fun w' hS => by clear hS; go_simp)) ?_
  intro a' ha'
  simp only [Act.put, List.setIfInBounds_toArray, List.set_cons_zero, List.set_cons_succ] at ha'
  subst ha'
  refine AnyL.both (m := 6) (i := 3) (d := some 14) (v := .int .i64 er) rfl rfl (by kernel_rfl) (by kernel_rfl) (by kernel_rfl) (by kernel_rfl) (StepsIf.yield (by kernel_rfl) (fun w' hS => by have c9 := hS.1.2.1.cell 9; simp only [List.getElem?_toArray, List.getElem?_cons_zero, List.getElem?_cons_succ] at c9; clear hS; go_simp)) (StepsIf.yield (by kernel_rfl) (fun w' hS => by have c9 := hS.1.2.1.cell 9; simp only [List.getElem?_toArray, List.getElem?_cons_zero, List.getElem?_cons_succ] at c9; clear hS; go_simp)) ?_
  intro a' ha'
  simp only [Act.put, List.setIfInBounds_toArray, List.set_cons_zero, List.set_cons_succ] at ha'
  subst ha'
  refine AnyL.both (m := 6) (i := 4) (d := some 15) (v := .pointer (some ⟨B, 10, none⟩)) rfl rfl (by kernel_rfl) (by kernel_rfl) (by kernel_rfl) (by kernel_rfl) (StepsIf.yield (by kernel_rfl) (fun w' hS => by clear hS; go_simp)) (StepsIf.yield (by kernel_rfl) (fun w' hS => by clear hS; go_simp)) ?_
  intro a' ha'
  simp only [Act.put, List.setIfInBounds_toArray, List.set_cons_zero, List.set_cons_succ] at ha'
  subst ha'
  refine AnyL.both (m := 6) (i := 5) (d := some 16) (v := .int .i64 pl) rfl rfl (by kernel_rfl) (by kernel_rfl) (by kernel_rfl) (by kernel_rfl) (StepsIf.yield (by kernel_rfl) (fun w' hS => by have c10 := hS.1.2.1.cell 10; simp only [List.getElem?_toArray, List.getElem?_cons_zero, List.getElem?_cons_succ] at c10; clear hS; go_simp)) (StepsIf.yield (by kernel_rfl) (fun w' hS => by have c10 := hS.1.2.1.cell 10; simp only [List.getElem?_toArray, List.getElem?_cons_zero, List.getElem?_cons_succ] at c10; clear hS; go_simp)) ?_
  intro a' ha'
  simp only [Act.put, List.setIfInBounds_toArray, List.set_cons_zero, List.set_cons_succ] at ha'
  subst ha'
  refine AnyL.store (m := 6) (d := none) (v := undef) rfl rfl (by kernel_rfl) (by kernel_rfl) (by kernel_rfl) (fun w' hS K Q hK => by exact wp_store_row 57 _ _ rfl w.heap.size rfl rfl (run_storeAt_row _ w.heap.size 57 57 woZ (woI k p e t n m) hS.1.1 infoWo rfl (wo_one _ _ _ _ _ _)) (hK _ (SN5.store hS _))) ?_
  intro a' ha'
  simp only [Act.put] at ha'
  subst ha'
  refine AnyL.after (m := 6) (i := 7) (d := some 5) (v := .int .i64 er) rfl rfl (by kernel_rfl) (by kernel_rfl) (by kernel_rfl) (by kernel_rfl) (StepsIf.yield (by kernel_rfl) (fun w' hS => by clear hS; go_simp)) ?_
  intro a' ha'
  simp only [Act.put, List.setIfInBounds_toArray, List.set_cons_zero, List.set_cons_succ] at ha'
  subst ha'
  refine AnyL.after (m := 6) (i := 8) (d := some 6) (v := .int .i64 pl) rfl rfl (by kernel_rfl) (by kernel_rfl) (by kernel_rfl) (by kernel_rfl) (StepsIf.yield (by kernel_rfl) (fun w' hS => by clear hS; go_simp)) ?_
  intro a' ha'
  simp only [Act.put, List.setIfInBounds_toArray, List.set_cons_zero, List.set_cons_succ] at ha'
  subst ha'
  refine AnyL.done (by kernel_rfl) (by kernel_rfl) (fun w' hS => ?_) _
  have hR := hS.1.1
  have hB := hS.2
  clear hS
  go_wp2_with fail
  exact bodyPost_ret (v := .tuple #[.agg (woI k p e t n m), .int .i64 er, .int .i64 pl]) (results_cell2 Tryz.results25 _ _ w.heap.size 57 (woI k p e t n m) (0, 0) _ rfl hR Tryz.underlying57 rfl infoWo) rfl ⟨rfl, hB⟩

/-! ### Text -/
theorem cnt_el (g : Nat → Bool) : ∀ k, cnt g k = (el g k).length
  | 0 => rfl
  | k + 1 => by
    have h : el g (k + 1) = el g k ++ (if g k then [k] else []) := by
      unfold el
      rw [List.range_succ, List.filter_append]
      congr 1
      cases hg : g k <;> simp [hg]
    rw [cnt, cnt_el g k, h, List.length_append]
    cases g k <;> rfl
theorem any_len (t : BitVec 256) : t = ~~~0 ↔ (el t.getLsbD 256).length = 256 := by
  constructor
  · rintro rfl
    decide +kernel
  · intro h
    have hf : ∀ x ∈ List.range 256, t.getLsbD x = true := by
      have e : (el t.getLsbD 256).length = (List.range 256).length := by rw [h, List.length_range]
      unfold el at e
      exact List.length_filter_eq_length_iff.1 e
    apply BitVec.eq_of_getLsbD_eq
    intro i hi
    rw [hf i (List.mem_range.2 hi)]
    symm
    rw [BitVec.getLsbD_not]
    simp [hi]
theorem next_el (t : BitVec 256) (b : Nat) (l : List Nat) (h : el t.getLsbD 256 = b :: l) : nextOf t.getLsbD 0 = b := by
  have hf : (List.range 256).find? (fun j => decide (0 ≤ j) && t.getLsbD j) = some b := by
    have e : (fun j => decide (0 ≤ j) && t.getLsbD j) = t.getLsbD := by funext j; simp
    rw [e]
    have := List.head?_filter (p := t.getLsbD) (l := List.range 256)
    rw [← this]
    unfold el at h
    rw [h]; rfl
  unfold nextOf
  rw [hf]
theorem textW_cases (t : BitVec 256) : (t = ~~~0 ∧ textW t = [46]) ∨ (t ≠ ~~~0 ∧ cnt t.getLsbD 256 = 1 ∧ ∃ b : Nat, b < 256 ∧ nextOf t.getLsbD 0 = b ∧ textW t = textB b) ∨ (t ≠ ~~~0 ∧ cnt t.getLsbD 256 ≠ 1 ∧ textW t = textT t) := by
  have h1 := any_len t
  have h2 := cnt_el t.getLsbD 256
  have h3 := next_el t
  have h4 : ∀ b l, el t.getLsbD 256 = b :: l → b < 256 := fun b l h => by
    have : b ∈ el t.getLsbD 256 := by rw [h]; exact List.mem_cons_self ..
    unfold el at this
    simp at this
    exact this.1
  unfold textW
  by_cases hA : (el t.getLsbD 256).length = 256
  · exact .inl ⟨h1.2 hA, by rw [if_pos hA]⟩
  by_cases hO : (el t.getLsbD 256).length = 1
  · obtain ⟨b, hb⟩ := List.length_eq_one_iff.1 hO
    refine .inr (.inl ⟨fun h => hA (h1.1 h), by rw [h2, hO], b, h4 b [] hb, h3 b [] hb, ?_⟩)
    rw [if_neg hA, if_neg (by omega), hb]
    rfl
  · exact .inr (.inr ⟨fun h => hA (h1.1 h), by rw [h2]; exact hO, by rw [if_neg hA, if_pos hO]⟩)
end Go.Proofs.YthodphgbdmnpoaaGreat

/- The developers' reading: next. Stage 7. -/
namespace Go.Proofs.YthodphgbdmnpoaaGreat
open Go.RowKit BS

@[reducible] def set9 (W : World) (B : Nat) (b0 b1 b2 b3 b4 b5 b6 b7 b8 : Value) : World :=
  ((((((((W.setCell ⟨B, 0, none⟩ b0).setCell ⟨B, 1, none⟩ b1).setCell ⟨B, 2, none⟩ b2).setCell ⟨B, 3, none⟩ b3).setCell ⟨B, 4, none⟩ b4).setCell ⟨B, 5, none⟩ b5).setCell ⟨B, 6, none⟩ b6).setCell ⟨B, 7, none⟩ b7).setCell ⟨B, 8, none⟩ b8
theorem Blk.set9 {W : World} {B : Nat} {a0 a1 a2 a3 a4 a5 a6 a7 a8 : Value} {T : TypeId} (h : Blk W B #[a0, a1, a2, a3, a4, a5, a6, a7, a8] T) (b0 b1 b2 b3 b4 b5 b6 b7 b8 : Value) : Blk (_root_.Go.Proofs.YthodphgbdmnpoaaGreat.set9 W B b0 b1 b2 b3 b4 b5 b6 b7 b8) B #[b0, b1, b2, b3, b4, b5, b6, b7, b8] T := by
  have := ((((((((h.set 0 b0).set 1 b1).set 2 b2).set 3 b3).set 4 b4).set 5 b5).set 6 b6).set 7 b7).set 8 b8
  simpa using this
theorem RdV.other {base R : Nat} {s : ByteArray} {a : Nat} {x : PS} {vN vL : Value} {w0 w : World} (h : RdV base R s a x vN vL w0 w) {g : Nat} (hg : base ≤ g) (hR : R ≠ g) (hN : vN.ownBlock ≠ some g) (hL : vL.ownBlock ≠ some g) (i : Nat) (v : Value) : RdV base R s a x vN vL w0 (w.setCell ⟨g, i, none⟩ v) :=
  ⟨h.blk.other hR _ _, owns_keep h.nodes fun _ hk => Below.heap_setCell _ _ _ _ (fun e => hN (by rw [hk, e])), owns_keep h.levels fun _ hk => Below.heap_setCell _ _ _ _ (fun e => hL (by rw [hk, e])), h.nR, h.lR, h.nl, h.bR, below_set h.bel hg _ _⟩
theorem RdV.other9 {base R : Nat} {s : ByteArray} {a : Nat} {x : PS} {vN vL : Value} {w0 w : World} (h : RdV base R s a x vN vL w0 w) {g : Nat} (hg : base ≤ g) (hR : R ≠ g) (hN : vN.ownBlock ≠ some g) (hL : vL.ownBlock ≠ some g) (b0 b1 b2 b3 b4 b5 b6 b7 b8 : Value) : RdV base R s a x vN vL w0 (set9 w g b0 b1 b2 b3 b4 b5 b6 b7 b8) :=
  (((((((((h.other hg hR hN hL _ _).other hg hR hN hL _ _).other hg hR hN hL _ _).other hg hR hN hL _ _).other hg hR hN hL _ _).other hg hR hN hL _ _).other hg hR hN hL _ _).other hg hR hN hL _ _).other hg hR hN hL _ _)
theorem Blk.other9 {W : World} {B g : Nat} {vs : Array Value} {T : TypeId} (h : Blk W B vs T) (hne : B ≠ g) (b0 b1 b2 b3 b4 b5 b6 b7 b8 : Value) : Blk (_root_.Go.Proofs.YthodphgbdmnpoaaGreat.set9 W g b0 b1 b2 b3 b4 b5 b6 b7 b8) B vs T :=
  ((((((((h.other hne _ _).other hne _ _).other hne _ _).other hne _ _).other hne _ _).other hne _ _).other hne _ _).other hne _ _).other hne _ _
theorem row_kept (W : World) (B : Nat) (cs : Array Value) (k : Nat) (h : k ≠ B) : (W.setRow B cs).heap[k]? = W.heap[k]? := by
  show (W.heap.modify B _)[k]? = _
  rw [Array.getElem?_modify, if_neg (Ne.symm h)]
theorem RdV.rowOther {base R : Nat} {s : ByteArray} {a : Nat} {x : PS} {vN vL : Value} {w0 w : World} (h : RdV base R s a x vN vL w0 w) {g : Nat} (hg : base ≤ g) (hR : R ≠ g) (hN : vN.ownBlock ≠ some g) (hL : vL.ownBlock ≠ some g) (cs : Array Value) : RdV base R s a x vN vL w0 (w.setRow g cs) :=
  ⟨(row_kept w g cs R hR).trans h.blk, owns_keep h.nodes fun _ hk => row_kept _ _ _ _ (fun e => hN (by rw [hk, e])), owns_keep h.levels fun _ hk => row_kept _ _ _ _ (fun e => hL (by rw [hk, e])), h.nR, h.lR, h.nl, h.bR, below_row h.bel hg _⟩
set_option maxRecDepth 100000 in
set_option maxHeartbeats 8000000 in
theorem pnext_calls {base R : Nat} {s : ByteArray} (hs : s.size ≤ 1000000) {a : Nat} {x : PS} {vN vL : Value} {w0 : World} (k p e' : Nat) (t : BitVec 256) (n : Nat) (m : Int) (er pl : Nat) (hX : nextN s a = (⟨k, p, e', t, n, m⟩, er, pl)) (w : World) (h : RdV base R s a x vN vL w0 w) :
    Calls Tryz.prog 16 #[.pointer (some ⟨R, 0, none⟩)] w fun e w' => e = .returned (.tuple #[.agg (woI k p e' t n m), .int .i64 er, .int .i64 pl]) ∧
      RdV base R s (if er = 0 then e' else a) x vN vL w0 w' := by
  have hn := next5_dev s hs a
  rw [hX] at hn
  have HN : Hid (∀ w, Calls Tryz.prog 25 #[.string s, .int .i64 a] w fun en w' => en = .returned (.tuple #[.agg (woI k p e' t n m), .int .i64 er, .int .i64 pl]) ∧ Below w.heap.size w w') := Lib.hid hn
  clear hn hX
  have hB := Blk.new w woZ 57
  have hr := h.alloc (.cells woZ 57)
  have hRB : R < w.heap.size := h.blk.lt
  have hN0 : vN.ownBlock ≠ some w.heap.size := fun e => by have := owns_lt h.nodes e; omega
  have hL0 : vL.ownBlock ≠ some w.heap.size := fun e => by have := owns_lt h.levels e; omega
  have hb0 := h.size
  clear h
  go_enter Tryz.func16, Tryz.ntmps16
  go_upto_region 1 with fail
  have e0 : w.alloc (.cells #[.int .i64 0, .int .i64 0, .int .i64 0, .int .u64 0, .int .u64 0, .int .u64 0, .int .u64 0, .int .i64 0, .int .i64 0] 57) = w.alloc (.cells woZ 57) := rfl
  try rw [e0]
  clear e0
  generalize w.alloc (.cells woZ 57) = w1 at *
  generalize w.heap.size = B0 at *
  have cR0 := hr.c.1
  have cR1 := hr.c.2.1
  have HR := Lib.hid hr
  have HB := Lib.hid hB
  have n0 := World.new_ne w1 ⟨R, 0, none⟩ cR0
  have n1 := World.new_ne w1 ⟨R, 1, none⟩ cR1
  have hlt := hr.blk.lt
  have hN1 : vN.ownBlock ≠ some w1.heap.size := fun e => by have := owns_lt hr.nodes e; omega
  have hL1 : vL.ownBlock ≠ some w1.heap.size := fun e => by have := owns_lt hr.levels e; omega
  have hB1 := hB.lt
  have hbs := hr.size
  clear hr hB
  go_cut [5, 6, 7] from 8 to 20 (fun v5 v6 v7 wx => ∃ g : Nat, v5 = .pointer (some ⟨g, 0, none⟩) ∧ v6 = .int .i64 er ∧ v7 = .int .i64 pl ∧ RdV base R s a x vN vL w0 wx ∧ Blk wx B0 woZ 57 ∧ Blk wx g (woI k p e' t n m) 57 ∧ B0 ≠ g ∧ R ≠ g ∧ base ≤ g)
  case first =>
    go_region_held3 (fun w' => w'.cell? ⟨R, 0, none⟩ = some (.string s) ∧ w'.cell? ⟨R, 1, none⟩ = some (.int .i64 a))
      (first
        | go_keep
        | exact ⟨k0, k1⟩
        | exact ⟨((hb.alloc hb.size _).cell (p := ⟨R, 0, none⟩) hlt).trans cR0, ((hb.alloc hb.size _).cell (p := ⟨R, 1, none⟩) hlt).trans cR1⟩
        | (go_split_ands; refine ⟨by go_keep, by go_keep⟩))
      ((go_at_call 25; refine (HN.out _).mono ?_; rintro en w3 ⟨rfl, hb⟩
        have k0 : w3.cell? ⟨R, 0, none⟩ = some (.string s) := by first | exact (hb.cell (p := ⟨R, 0, none⟩) hlt).trans cR0 | exact (hb.cell (p := ⟨R, 0, none⟩) (by simp; omega)).trans (by go_keep)
        have k1 : w3.cell? ⟨R, 1, none⟩ = some (.int .i64 a) := by first | exact (hb.cell (p := ⟨R, 1, none⟩) hlt).trans cR1 | exact (hb.cell (p := ⟨R, 1, none⟩) (by simp; omega)).trans (by go_keep)
        try (have hg := (Blk.new w1 woZ 57).drew.below hb (by simp)
             have z0 := hg.cell 0; have z1 := hg.cell 1; have z2 := hg.cell 2; have z3 := hg.cell 3; have z4 := hg.cell 4; have z5 := hg.cell 5; have z6 := hg.cell 6; have z7 := hg.cell 7; have z8 := hg.cell 8
             simp only [List.getElem?_toArray, List.getElem?_cons_zero, List.getElem?_cons_succ] at z0 z1 z2 z3 z4 z5 z6 z7 z8
             have y0 := hg.frozen 0; have y1 := hg.frozen 1; have y2 := hg.frozen 2; have y3 := hg.frozen 3; have y4 := hg.frozen 4; have y5 := hg.frozen 5; have y6 := hg.frozen 6; have y7 := hg.frozen 7; have y8 := hg.frozen 8
             have HG := Lib.hid hg
             clear hg)))
    · have hsz : w1.heap.size ≤ w3.heap.size := hb.size
      go_wp2_with fail
      go_meet
      exact ⟨w3.heap.size, rfl, rfl, rfl, (HR.out.drew.below hb).alloc _, (HB.out.drew.below hb hB1).alloc _, Blk.new w3 (woI k p e' t n m) _, by omega, by omega, by omega⟩
    · go_wp2_with fail
      go_meet
      have hB2 : B0 < (w1.alloc (.cells woZ 57)).drew.heap.size := by simp; omega
      exact ⟨w1.heap.size, rfl, rfl, rfl, ((HR.out.alloc _).drew.below hb).other9 hbs (by omega) hN1 hL1 _ _ _ _ _ _ _ _ _, (((HB.out.alloc _).drew).below hb hB2).other9 (by omega) _ _ _ _ _ _ _ _ _, Blk.set9 HG.out _ _ _ _ _ _ _ _ _, by omega, by omega, by omega⟩
  case rest =>
  clear HR HB cR0 cR1 n0 n1 hlt hN1 hL1 hB1 hbs
  obtain ⟨g, rfl, rfl, rfl, hr, hB, hG, hBg, hRg, hbg⟩ := hcut
  have g0 := hG.cell 0; have g1 := hG.cell 1; have g2 := hG.cell 2; have g3 := hG.cell 3; have g4 := hG.cell 4; have g5 := hG.cell 5; have g6 := hG.cell 6; have g7 := hG.cell 7; have g8 := hG.cell 8
  simp only [List.getElem?_toArray, List.getElem?_cons_zero, List.getElem?_cons_succ] at g0 g1 g2 g3 g4 g5 g6 g7 g8
  by_cases he : er = 0
  · subst he
    have cR1 := hr.c.2.1
    have fR1 := hr.blk.frozen 1
    have HR := Lib.hid (hr.setAt e')
    have HB2 := Lib.hid (hB.other (show B0 ≠ R by omega) 1 (.int .i64 e'))
    have q0 : R ≠ g := hRg
    clear hr hB hG
    go_wp2_with ((with_reducible refine wpList_store_st (o := ⟨none, .store 57 _ _, _, _, _, _⟩) rfl 57 _ _ rfl B0 rfl rfl (run_storeAt_row _ B0 57 57 woZ (woI k p e' t n m) ?_ ?_ ?_ ?_) ?_); exact HB2.out; exact infoWo; rfl; exact wo_one _ _ _ _ _ _)
    exact bodyPost_ret (v := .tuple #[.agg (woI k p e' t n m), .int .i64 0, .int .i64 pl]) (results_cell2 Tryz.results16 _ _ B0 57 (woI k p e' t n m) (0, 0) _ rfl (Blk.setRow HB2.out) Tryz.underlying57 rfl infoWo) rfl ⟨rfl, HR.out.rowOther hb0 (by omega) hN0 hL0 _⟩
  · have qe : ((er : Int) == 0) = false := by rw [beq_eq_false_iff_ne]; omega
    have HR := Lib.hid hr
    have HB2 := Lib.hid hB
    clear hr hB hG
    go_wp2_with ((with_reducible refine wpList_store_st (o := ⟨none, .store 57 _ _, _, _, _, _⟩) rfl 57 _ _ rfl B0 rfl rfl (run_storeAt_row _ B0 57 57 woZ (woI k p e' t n m) ?_ ?_ ?_ ?_) ?_); exact HB2.out; exact infoWo; rfl; exact wo_one _ _ _ _ _ _)
    exact bodyPost_ret (v := .tuple #[.agg (woI k p e' t n m), .int .i64 er, .int .i64 pl]) (results_cell2 Tryz.results16 _ _ B0 57 (woI k p e' t n m) (0, 0) _ rfl (Blk.setRow HB2.out) Tryz.underlying57 rfl infoWo) rfl ⟨rfl, HR.out.rowOther hb0 (by omega) hN0 hL0 _⟩
end Go.Proofs.YthodphgbdmnpoaaGreat

/- The developers' reading: the words one by one, plainly; take, in one. Stage 7. -/
namespace Go.Proofs.YthodphgbdmnpoaaGreat
open Go.RowKit BS

/-- What is read up to the end of the text, or the error and its place. -/
def readM (s : ByteArray) : Nat → Nat → PS → PS × Nat × Nat
  | 0, _, _ => (zPS, 0, 0)
  | k + 1, a, x =>
    if s.size ≤ a then (x, 0, 0)
    else if firstP x (bt s a) ≠ 0 then (zPS, firstP x (bt s a), a + 1)
    else match nextA s a with
      | (w, e, p) => if e ≠ 0 then (zPS, e, p) else readM s k w.fin (takeP x w)
def finM (s : ByteArray) (r : PS × Nat × Nat) : PS × Nat × Nat × Nat :=
  if r.2.1 ≠ 0 then (zPS, 0, r.2.1, r.2.2) else if 1 < r.1.st.length then (zPS, r.1.st.length - 1, 2, s.size) else (rowsP r.1, 0, 0, 0)
theorem readP_D (s : ByteArray) : ∀ k a x, readP s k a x = finM s (readM s k a x)
  | 0, a, x => rfl
  | k + 1, a, x => by
    rw [readP, readM]
    by_cases h0 : s.size ≤ a
    · rw [if_pos h0, if_pos h0]
      unfold finM
      rw [if_neg (show ¬ (0 : Nat) ≠ 0 by decide)]
    rw [if_neg h0, if_neg h0]
    by_cases h1 : firstP x (bt s a) ≠ 0
    · rw [if_pos h1, if_pos h1]
      unfold finM
      rw [if_pos h1]
    rw [if_neg h1, if_neg h1]
    generalize nextA s a = X
    obtain ⟨w, e, p⟩ := X
    simp only
    by_cases h2 : e ≠ 0
    · rw [if_pos h2, if_pos h2]
      unfold finM
      rw [if_pos h2]
    · rw [if_neg h2, if_neg h2]
      exact readP_D s k _ _
theorem readM_end (s : ByteArray) (k : Nat) (x : PS) : readM s (k + 1) s.size x = (x, 0, 0) := by
  rw [readM, if_pos (Nat.le_refl _)]
theorem readM_first (s : ByteArray) (k a : Nat) (x : PS) (e : Nat) (ha : a < s.size) (h : firstP x (bt s a) = e) (he : e ≠ 0) : readM s (k + 1) a x = (zPS, e, a + 1) := by
  rw [readM, if_neg (by omega), h, if_pos he]
theorem readM_err (s : ByteArray) (k a : Nat) (x : PS) (w : WN) (e p : Nat) (ha : a < s.size) (h : firstP x (bt s a) = 0) (hX : nextA s a = (w, e, p)) (he : e ≠ 0) : readM s (k + 1) a x = (zPS, e, p) := by
  rw [readM, if_neg (by omega), h, if_neg (by decide), hX]
  simp only
  rw [if_pos he]
theorem readM_step (s : ByteArray) (k a : Nat) (x : PS) (w : WN) (p : Nat) (ha : a < s.size) (h : firstP x (bt s a) = 0) (hX : nextA s a = (w, 0, p)) : readM s (k + 1) a x = readM s k w.fin (takeP x w) := by
  rw [readM, if_neg (by omega), h, if_neg (by decide), hX]
  simp only
  rw [if_neg (by decide)]

/-- What a word tells when it is taken: an error, or 0. -/
def tkE (x : PS) (w : WN) : Nat := if w.kind = 2 ∧ x.groups = 9 then 9 else if w.kind = 3 ∧ x.st.length = 1 then 8 else 0
/-- Where the byte is not a Rep's that has no piece ahead, the byte tells just what the word does. -/
theorem first_tk (s : ByteArray) (a : Nat) (x : PS) (n r : Nat) (st : List (Nat × Nat)) (w : WN) (hx : x.st = (n, r) :: st) (hX : nextA s a = (w, 0, 0)) (hc : bt s a = 42 ∨ bt s a = 43 ∨ bt s a = 63 ∨ bt s a = 123 → n ≠ 0) : firstP x (bt s a) = tkE x w := by
  obtain ⟨k2, k3, k5⟩ := next_kinds s a w hX
  have hk40 : bt s a = 40 → w.kind = 2 := fun h => by
    unfold nextA at hX
    rw [if_pos h] at hX
    have := (Prod.mk.inj hX).1
    rw [← this]
  have hk41 : bt s a = 41 → w.kind = 3 := fun h => by
    unfold nextA at hX
    rw [if_neg (by omega), if_pos h] at hX
    have := (Prod.mk.inj hX).1
    rw [← this]
  unfold firstP tkE
  rw [hx]
  simp only [List.length_cons]
  by_cases h1 : bt s a = 42 ∨ bt s a = 43 ∨ bt s a = 63 ∨ bt s a = 123
  · rw [if_pos h1, if_neg (hc h1), if_neg (fun h => by have := k2 h.1; omega), if_neg (fun h => by have := k3 h.1; omega)]
  rw [if_neg h1]
  by_cases h2 : bt s a = 41
  · have hk := hk41 h2
    rw [if_pos h2, if_neg (show ¬ (w.kind = 2 ∧ x.groups = 9) from fun h => by omega)]
    by_cases h3 : st = []
    · rw [if_pos h3, if_pos ⟨hk, by rw [h3]; rfl⟩]
    · rw [if_neg h3, if_neg (fun h => h3 (List.eq_nil_of_length_eq_zero (by omega)))]
  rw [if_neg h2]
  by_cases h3 : bt s a = 40
  · have hk := hk40 h3
    rw [if_pos h3]
    by_cases h4 : x.groups = 9
    · rw [if_pos h4, if_pos ⟨hk, h4⟩]
    · rw [if_neg h4, if_neg (fun h => h4 h.2), if_neg (show ¬ (w.kind = 3 ∧ st.length + 1 = 1) from fun h => by omega)]
  · rw [if_neg h3, if_neg (fun h => h3 (k2 h.1)), if_neg (fun h => h2 (k3 h.1))]
theorem first_err (s : ByteArray) (a : Nat) (x : PS) (n r : Nat) (st : List (Nat × Nat)) (w : WN) (e p : Nat) (hx : x.st = (n, r) :: st) (hX : nextA s a = (w, e, p)) (he : e ≠ 0) (hc : bt s a = 42 ∨ bt s a = 43 ∨ bt s a = 63 ∨ bt s a = 123 → n ≠ 0) : firstP x (bt s a) = 0 := by
  have h40 : bt s a ≠ 40 := fun h => by
    unfold nextA at hX
    rw [if_pos h] at hX
    exact he (Prod.mk.inj (Prod.mk.inj hX).2).1.symm
  have h41 : bt s a ≠ 41 := fun h => by
    unfold nextA at hX
    rw [if_neg (by omega), if_pos h] at hX
    exact he (Prod.mk.inj (Prod.mk.inj hX).2).1.symm
  unfold firstP
  rw [hx]
  simp only
  by_cases h1 : bt s a = 42 ∨ bt s a = 43 ∨ bt s a = 63 ∨ bt s a = 123
  · rw [if_pos h1, if_neg (hc h1)]
  · rw [if_neg h1, if_neg h41, if_neg h40]

/-- How great it all may be. -/
def Bnd (a : Nat) (x : PS) : Prop := x.l.length ≤ 3 * a ∧ x.st.length ≤ a + 1 ∧ ∀ p ∈ x.st, p.1 ≤ a ∧ p.2 ≤ a
theorem sPS_bnd : Bnd 0 sPS := ⟨by decide, by decide, fun p hp => by simp [sPS] at hp; subst hp; exact ⟨Nat.le_refl _, Nat.le_refl _⟩⟩
theorem take_bnd (a b : Nat) (x : PS) (w : WN) (h : Bnd a x) (hb : a < b) : Bnd b (takeP x w) := by
  obtain ⟨l, st, g⟩ := x
  obtain ⟨h1, h2, h3⟩ := h
  simp only at h1 h2 h3
  have bump : ∀ (st : List (Nat × Nat)), (∀ p ∈ st, p.1 ≤ a ∧ p.2 ≤ a) → ∀ p ∈ bumpP st, p.1 ≤ b ∧ p.2 ≤ b := by
    intro st h3 p hp
    obtain _ | ⟨⟨n, r⟩, st⟩ := st
    · cases hp
    · rcases List.mem_cons.1 hp with rfl | hp
      · have := h3 (n, r) (List.mem_cons_self ..); exact ⟨by simp only at this ⊢; omega, by simp only at this ⊢; omega⟩
      · have := h3 p (List.mem_cons_of_mem _ hp); exact ⟨by omega, by omega⟩
  have blen : ∀ (st : List (Nat × Nat)), (bumpP st).length = st.length := fun st => by
    obtain _ | ⟨⟨n, r⟩, st⟩ := st
    · rfl
    · rfl
  have more : ∀ p ∈ st, p.1 ≤ b ∧ p.2 ≤ b := fun p hp => by have := h3 p hp; exact ⟨by omega, by omega⟩
  unfold takeP
  by_cases c1 : w.kind = 1
  · rw [if_pos c1]
    exact ⟨by simp; omega, by simp only [blen]; omega, bump st h3⟩
  rw [if_neg c1]
  by_cases c2 : w.kind = 2
  · rw [if_pos c2]
    refine ⟨by simp only; omega, by simp only [List.length_cons]; omega, fun p hp => ?_⟩
    rcases List.mem_cons.1 hp with rfl | hp
    · exact ⟨Nat.zero_le _, Nat.zero_le _⟩
    · exact more p hp
  rw [if_neg c2]
  by_cases c3 : w.kind = 3
  · rw [if_pos c3]
    obtain _ | ⟨⟨n, r⟩, st⟩ := st
    · exact ⟨by simp [rowsP]; omega, by simp [rowsP, bumpP], fun p hp => by simp [rowsP, bumpP] at hp⟩
    · have e1 := rowT_len n
      have e2 := rowsT_len (r + 1)
      simp only [List.length_cons] at h2
      refine ⟨?_, ?_, ?_⟩
      · show (l ++ rowT n ++ rowsT (r + 1) ++ [ndG]).length ≤ _
        rw [List.length_append, List.length_append, List.length_append, List.length_singleton]; omega
      · show (bumpP st).length ≤ _
        rw [blen]; omega
      · exact bump st (fun p hp => h3 p (List.mem_cons_of_mem _ hp))
  rw [if_neg c3]
  by_cases c4 : w.kind = 4
  · rw [if_pos c4]
    obtain _ | ⟨⟨n, r⟩, st⟩ := st
    · exact ⟨by simp only [rowP]; omega, by simp [rowP], fun p hp => by simp [rowP] at hp⟩
    · have e1 := rowT_len n
      refine ⟨?_, ?_, fun p hp => ?_⟩
      · show (l ++ rowT n).length ≤ _
        rw [List.length_append]; omega
      · show st.length + 1 ≤ _
        simp only [List.length_cons] at h2; omega
      · rcases List.mem_cons.1 hp with rfl | hp
        · have := (h3 (n, r) (List.mem_cons_self ..)).2; exact ⟨Nat.zero_le _, by simp only at this ⊢; omega⟩
        · exact more p (List.mem_cons_of_mem _ hp)
  rw [if_neg c4]
  by_cases c5 : w.kind = 5
  · rw [if_pos c5]
    exact ⟨by simp; omega, by simp only; omega, more⟩
  · rw [if_neg c5]
    exact ⟨by simp only; omega, by simp only; omega, more⟩
/-- take, whatever the word is. -/
theorem ptake_calls {base R : Nat} {s : ByteArray} (hs : s.size ≤ 1000000) {a c : Nat} (x : PS) {vN vL : Value} {w0 : World} (wd' : WN) (hok : OkW wd') (hb : Bnd a x) (hne : x.st ≠ []) (ha : a ≤ s.size) (hg : x.groups ≤ 9) (w : World) (h : RdV base R s c x vN vL w0 w) :
    Calls Tryz.prog 17 #[.pointer (some ⟨R, 0, none⟩), .agg (woA wd')] w fun e w' => e = .returned (.int .i64 (tkE x wd')) ∧ (tkE x wd' = 0 → ∃ vN' vL', RdV base R s c (takeP x wd') vN' vL' w0 w') ∧ (tkE x wd' ≠ 0 → Below w.heap.size w w') := by
  obtain ⟨l, st, gr⟩ := x
  obtain _ | ⟨⟨n, r⟩, st⟩ := st
  · exact absurd rfl hne
  obtain ⟨b1, b2, b3⟩ := hb
  have b4 := b3 (n, r) (List.mem_cons_self ..)
  simp only [List.length_cons] at b1 b2 b4 hg
  obtain ⟨k, p, f, t, n', m'⟩ := wd'
  have hk := okW_kind _ hok
  simp only at hk
  rcases hk with rfl | rfl | rfl | rfl | rfl
  · have e0 : tkE ⟨l, (n, r) :: st, gr⟩ ⟨1, p, f, t, n', m'⟩ = 0 := by unfold tkE; simp
    rw [e0]
    refine (ptake1 p f t n' m' w h (by omega) (by omega) (by omega)).mono ?_
    rintro e w' ⟨rfl, vN', hr⟩
    exact ⟨rfl, fun _ => ⟨_, _, hr⟩, fun h => absurd rfl h⟩
  · by_cases h9 : gr = 9
    · subst h9
      have e0 : tkE ⟨l, (n, r) :: st, 9⟩ ⟨2, p, f, t, n', m'⟩ = 9 := by unfold tkE; simp
      rw [e0]
      refine (ptake2_9 p f t n' m' w h).mono ?_
      rintro e w' ⟨rfl, hbw⟩
      exact ⟨rfl, (fun h => by cases h), fun _ => hbw⟩
    · have e0 : tkE ⟨l, (n, r) :: st, gr⟩ ⟨2, p, f, t, n', m'⟩ = 0 := by unfold tkE; simp [h9]
      rw [e0]
      refine (ptake2 p f t n' m' w h (by omega) (by omega)).mono ?_
      rintro e w' ⟨rfl, vL', hr⟩
      exact ⟨rfl, fun _ => ⟨_, _, hr⟩, fun h => absurd rfl h⟩
  · obtain _ | ⟨⟨n2, r2⟩, st⟩ := st
    · have e0 : tkE ⟨l, [(n, r)], gr⟩ ⟨3, p, f, t, n', m'⟩ = 8 := by unfold tkE; simp
      rw [e0]
      refine (ptake3_8 p f t n' m' w h).mono ?_
      rintro e w' ⟨rfl, hbw⟩
      exact ⟨rfl, (fun h => by cases h), fun _ => hbw⟩
    · have e0 : tkE ⟨l, (n, r) :: (n2, r2) :: st, gr⟩ ⟨3, p, f, t, n', m'⟩ = 0 := by unfold tkE; simp
      have b5 := b3 (n2, r2) (by simp)
      simp only [List.length_cons] at b2 b5
      rw [e0]
      refine (ptake3 p f t n' m' w h (by omega) (by omega) (by omega) (by omega) (by omega)).mono ?_
      rintro e w' ⟨rfl, vN', vL', hr⟩
      exact ⟨rfl, fun _ => ⟨_, _, hr⟩, fun h => absurd rfl h⟩
  · have e0 : tkE ⟨l, (n, r) :: st, gr⟩ ⟨4, p, f, t, n', m'⟩ = 0 := by unfold tkE; simp
    rw [e0]
    refine (ptake4 p f t n' m' w h (by omega) (by omega) (by omega) (by omega)).mono ?_
    rintro e w' ⟨rfl, vN', hr⟩
    exact ⟨rfl, fun _ => ⟨_, _, hr⟩, fun h => absurd rfl h⟩
  · have e0 : tkE ⟨l, (n, r) :: st, gr⟩ ⟨5, p, f, t, n', m'⟩ = 0 := by unfold tkE; simp
    rw [e0]
    refine (ptake5 p f t n' m' w h (by omega)).mono ?_
    rintro e w' ⟨rfl, vN', hr⟩
    exact ⟨rfl, fun _ => ⟨_, _, hr⟩, fun h => absurd rfl h⟩
end Go.Proofs.YthodphgbdmnpoaaGreat

/- The document's parse: take, whatever the word is. Stage 7. -/
namespace Go.Proofs.YthodphgbdmnpoaaGreat
open Go.RowKit BS

theorem rtake_calls {base N : Nat} {A : Nat → Prop} {s : ByteArray} (hs : s.size ≤ 1000000) {a : Nat} (x : PS) {vN vP vR : Value} (wd' : WN) (hok : OkW wd') (hb : Bnd a x) (hne : x.st ≠ []) (ha : a ≤ s.size) (hg : x.groups ≤ 9) (ht : tkE x wd' = 0) (w : World) (h : SV base N A x.l (pS x.st) (rS x.st) vN vP vR w) :
    Calls Tryz.prog 22 #[.agg (stW vN vP vR x.groups), .agg (woA wd')] w fun e w' => ∃ vN' vP' vR', e = .returned (.agg (stW vN' vP' vR' (takeP x wd').groups)) ∧ SV base N A (takeP x wd').l (pS (takeP x wd').st) (rS (takeP x wd').st) vN' vP' vR' w' ∧ KpA A w w' := by
  obtain ⟨l, st, gr⟩ := x
  obtain _ | ⟨⟨n, r⟩, st⟩ := st
  · exact absurd rfl hne
  obtain ⟨b1, b2, b3⟩ := hb
  have b4 := b3 (n, r) (List.mem_cons_self ..)
  simp only [List.length_cons] at b1 b2 b4 hg
  obtain ⟨k, p, f, t, n', m'⟩ := wd'
  have hk := okW_kind _ hok
  simp only at hk
  simp only [pS_cons, rS_cons] at h
  rcases hk with rfl | rfl | rfl | rfl | rfl
  · refine (rtake1 p f t n' m' w h (pS_len st) (rS_len st) (by omega) (by omega) (by omega)).mono ?_
    rintro e w' ⟨vN', vP', vR', he, hr, hk⟩
    exact ⟨vN', vP', vR', he, by show SV base N A (l ++ [⟨2, 0, 0, 0, t⟩]) (pS ((n + 1, r) :: st)) (rS ((n + 1, r) :: st)) vN' vP' vR' w'; rw [pS_cons, rS_cons]; exact hr, hk⟩
  · have h9 : gr < 9 := by
      rcases Nat.lt_or_ge gr 9 with h9 | h9
      · exact h9
      · have : gr = 9 := by omega
        subst this
        unfold tkE at ht
        simp at ht
    refine (rtake2 p f t n' m' w h (pS_len st) (rS_len st) h9 (by omega)).mono ?_
    rintro e w' ⟨vN', vP', vR', he, hr, hk⟩
    exact ⟨vN', vP', vR', he, by show SV base N A l (pS ((0, 0) :: (n, r) :: st)) (rS ((0, 0) :: (n, r) :: st)) vN' vP' vR' w'; rw [pS_cons, rS_cons, pS_cons, rS_cons]; exact hr, hk⟩
  · obtain _ | ⟨⟨n2, r2⟩, st⟩ := st
    · unfold tkE at ht
      simp at ht
    · have b5 := b3 (n2, r2) (by simp)
      simp only [List.length_cons] at b2 b5
      rw [pS_cons, rS_cons] at h
      refine (rtake3 p f t n' m' w h (len_snoc (pS_len st)) (len_snoc (rS_len st)) (pS_len st) (rS_len st) rfl (by omega) (by omega) (by omega) (by omega) (by omega)).mono ?_
      rintro e w' ⟨vN', vP', vR', he, hr, hk⟩
      exact ⟨vN', vP', vR', he, by show SV base N A (l ++ rowT n ++ rowsT (r + 1) ++ [ndG]) (pS ((n2 + 1, r2) :: st)) (rS ((n2 + 1, r2) :: st)) vN' vP' vR' w'; rw [pS_cons, rS_cons]; exact hr, hk⟩
  · refine (rtake4 p f t n' m' w h (pS_len st) (rS_len st) (by omega) (by omega) (by omega) (by omega)).mono ?_
    rintro e w' ⟨vN', vP', vR', he, hr, hk⟩
    exact ⟨vN', vP', vR', he, by show SV base N A (l ++ rowT n) (pS ((0, r + 1) :: st)) (rS ((0, r + 1) :: st)) vN' vP' vR' w'; rw [pS_cons, rS_cons]; exact hr, hk⟩
  · refine (rtake5 p f t n' m' w h (pS_len st) (rS_len st) (by omega) (by omega)).mono ?_
    rintro e w' ⟨vN', vP', vR', he, hr, hk⟩
    exact ⟨vN', vP', vR', he, by show SV base N A (l ++ [⟨4, 1, n', m', 0⟩]) (pS ((n, r) :: st)) (rS ((n, r) :: st)) vN' vP' vR' w'; rw [pS_cons, rS_cons]; exact hr, hk⟩
end Go.Proofs.YthodphgbdmnpoaaGreat

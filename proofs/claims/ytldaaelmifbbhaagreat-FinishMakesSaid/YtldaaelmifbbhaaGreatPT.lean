/- Texts put together: Wl Wq Wr. -/
import Derived.Test.YtldaaelmifbbhaaGreatPR
import Derived.Test.YtldaaelmifbbhaaGreatPS
import Derived.Test.YtldaaelmifbbhaaGreatPK
import Derived.Test.YtldaaelmifbbhaaGreatPP
import Derived.Test.YtldaaelmifbbhaaGreatPB
/- What lacks makes a word: by a bracket's lack, by counts' lack, by a byte behind a backslash. -/
namespace Go.Proofs.YtldaaelmifbbhaaGreat
open Go.RowKit BS

theorem next_at (s : ByteArray) (a : Nat) (h : a < s.size) : nextN s a = nextA s a := by
  unfold nextN
  rw [if_neg (by omega)]; rfl
theorem lackW_far (s : ByteArray) (at' : Int) (h : at' < 0 ∨ (s.size : Int) ≤ at') : LackW s at' eT := by
  have e : nextN s at' = (zWN, 1, 0) := by unfold nextN; rw [if_pos h]
  exact ⟨fun _ => rfl, fun h => by rw [e] at h; cases h⟩
/-- Where nothing lacks. -/
theorem lackW_none (s : ByteArray) (at' : Int) (h : (nextN s at').2.1 ≠ 2) : LackW s at' eT := ⟨fun _ => rfl, fun h2 => absurd h2 h⟩
theorem next_brk (s : ByteArray) (a : Nat) (h : bt s a = 91) : nextA s a = brkW s a := by
  unfold nextA
  rw [if_neg (by omega), if_neg (by omega), if_neg (by omega), if_neg (by omega), if_pos h]
theorem next_cnt (s : ByteArray) (a : Nat) (h : bt s a = 42 ∨ bt s a = 43 ∨ bt s a = 63 ∨ bt s a = 123) : nextA s a = cntW s a := by
  unfold nextA
  rw [if_neg (by omega), if_neg (by omega), if_neg (by omega), if_pos h]
/-- A bracket. -/
theorem lackW_brk (s : ByteArray) (a : Nat) (ha : a < s.size) (h : bt s a = 91) : LackW s a (wholeD s a).lack := by
  obtain ⟨t, p, e, k, hR⟩ : ∃ t p e k, readR s a = (t, p, e, k) := ⟨_, _, _, _, rfl⟩
  have hL := lackE s a t p e k _ hR rfl
  generalize (wholeD s a).lack = l at *
  have hn : nextN s a = brkW s a := by rw [next_at s a ha, next_brk s a h]
  have he : (nextN s a).2.1 = e := by
    rw [hn]; unfold brkW; rw [hR]; simp only
    by_cases h0 : e = 0
    · rw [if_neg (by omega), h0]
    · rw [if_pos h0]
  unfold LackW
  rw [he]
  rcases hL with ⟨h1, rfl⟩ | ⟨h1, h2, h3, t', ht⟩
  · exact ⟨fun _ => rfl, fun h => absurd h h1⟩
  · refine ⟨fun h => absurd h1 h, fun _ => ⟨h2, by omega, oneW t' a (s ++ l).size, ?_, rfl, rfl⟩⟩
    have hz : (s ++ l).size = s.size + l.size := ByteArray.size_append
    have hb : bt (s ++ l) a = 91 := by rw [bt_app, if_pos ha]; exact h
    rw [next_at _ a (by omega), next_brk _ a hb]
    unfold brkW
    rw [ht, hz]
    rfl
/-- Counts. -/
theorem lackW_cnt (s : ByteArray) (a : Nat) (ha : a < s.size) (h : bt s a = 42 ∨ bt s a = 43 ∨ bt s a = 63 ∨ bt s a = 123) : LackW s a (ofT (readD4 s a).lack) := by
  obtain ⟨n, m, p, e, k, hR⟩ : ∃ n m p e k, readN s a = (n, m, p, e, k) := ⟨_, _, _, _, _, rfl⟩
  obtain ⟨l1, l2⟩ := lackN_read s a
  generalize ofT (readD4 s a).lack = l at *
  have hn : nextN s a = cntW s a := by rw [next_at s a ha, next_cnt s a h]
  have he : (nextN s a).2.1 = e := by
    rw [hn]; unfold cntW; rw [hR]; simp only
    by_cases h0 : e = 0
    · rw [if_neg (by omega), h0]
    · rw [if_pos h0]
  rw [hR] at l1 l2
  simp only at l1 l2
  unfold LackW
  rw [he]
  refine ⟨l1, fun h2 => ?_⟩
  obtain ⟨g1, g2, n', m', g3⟩ := l2 h2
  refine ⟨g1, g2, ⟨5, a, (s ++ l).size, 0, n', m'⟩, ?_, rfl, rfl⟩
  have hz : (s ++ l).size = s.size + l.size := ByteArray.size_append
  have hb : bt (s ++ l) a = bt s a := by rw [bt_app, if_pos ha]
  rw [next_at _ a (by omega), next_cnt _ a (by rw [hb]; exact h)]
  unfold cntW
  rw [g3]
  rfl
/-- A backslash at the end: any of the fourteen makes a word. -/
theorem lackW_slash (s : ByteArray) (a c : Nat) (ha : a + 1 = s.size) (h : bt s a = 92) (hc : four14 c = true) (hlt : c < 256) : LackW s a (ofT [c]) := by
  have hn : nextN s a = (zWN, 2, s.size) := by
    rw [next_at s a (by omega)]
    unfold nextA
    rw [if_neg (by omega), if_neg (by omega), if_neg (by omega), if_neg (by omega), if_neg (by omega), if_neg (by omega), if_neg (by omega), if_pos h]
    unfold slashW
    rw [if_pos (by omega)]
  unfold LackW
  rw [hn]
  have hz : (s ++ ofT [c]).size = s.size + 1 := by rw [ByteArray.size_append, size_ofT]; rfl
  refine ⟨fun h => absurd rfl h, fun _ => ⟨by rw [size_ofT]; simp, by rw [size_ofT]; simp, oneW (range c c) a (a + 2), ?_, rfl, by rw [hz]; show a + 2 = _; omega⟩⟩
  rw [next_at _ a (by omega)]
  refine next_slash _ a c (by rw [bt_app, if_pos (by omega)]; exact h) (by omega) ?_ hc
  rw [ha, bt_app, if_neg (by omega), Nat.sub_self]
  have := bt_ofT [c] (by simpa using hlt) 0 (by simp)
  simpa using this
/-- A backslash that has a byte behind it, or a byte that is none of these, lacks nothing. -/
theorem next_err2 (s : ByteArray) (a : Nat) (ha : a < s.size) (h : (nextN s a).2.1 = 2) : bt s a = 91 ∨ bt s a = 123 ∨ (bt s a = 92 ∧ a + 1 = s.size) := by
  rw [next_at s a ha] at h
  unfold nextA at h
  by_cases h1 : bt s a = 40
  · rw [if_pos h1] at h; cases h
  rw [if_neg h1] at h
  by_cases h2 : bt s a = 41
  · rw [if_pos h2] at h; cases h
  rw [if_neg h2] at h
  by_cases h3 : bt s a = 124
  · rw [if_pos h3] at h; cases h
  rw [if_neg h3] at h
  by_cases h4 : bt s a = 42 ∨ bt s a = 43 ∨ bt s a = 63 ∨ bt s a = 123
  · rw [if_pos h4] at h
    rcases h4 with e | e | e | e
    · exfalso
      unfold cntW readN at h
      rw [if_neg (by omega), show (a : Int).toNat = a from rfl] at h
      unfold signN at h
      rw [if_pos e] at h; cases h
    · exfalso
      unfold cntW readN at h
      rw [if_neg (by omega), show (a : Int).toNat = a from rfl] at h
      unfold signN at h
      rw [if_neg (by omega), if_pos e] at h; cases h
    · exfalso
      unfold cntW readN at h
      rw [if_neg (by omega), show (a : Int).toNat = a from rfl] at h
      unfold signN at h
      rw [if_neg (by omega), if_neg (by omega), if_pos e] at h; cases h
    · exact .inr (.inl e)
  rw [if_neg h4] at h
  by_cases h5 : bt s a = 91
  · exact .inl h5
  rw [if_neg h5] at h
  by_cases h6 : bt s a = 46
  · rw [if_pos h6] at h; cases h
  rw [if_neg h6] at h
  by_cases h7 : bt s a = 94 ∨ bt s a = 36
  · rw [if_pos h7] at h; cases h
  rw [if_neg h7] at h
  by_cases h8 : bt s a = 92
  · rw [if_pos h8] at h
    unfold slashW at h
    by_cases h9 : s.size ≤ a + 1
    · exact .inr (.inr ⟨h8, by omega⟩)
    · rw [if_neg h9] at h
      by_cases h10 : four14 (bt s (a + 1)) = false
      · rw [if_pos h10] at h; cases h
      · rw [if_neg h10] at h; cases h
  · rw [if_neg h8] at h; cases h
end Go.Proofs.YtldaaelmifbbhaaGreat

/- The developers' words: what each kind reads, what it begins with. -/
namespace Go.Proofs.YtldaaelmifbbhaaGreat
open Go.RowKit Go.Shelf BS

/-- A reading of a word, or an error and its place, and what lacks. -/
@[reducible] def rgA (X : WN × Nat × Nat) (l : ByteArray) : Array Value := rgI X.1.kind X.1.pos X.1.fin X.1.set X.1.n X.1.m X.2.1 X.2.2 l
theorem rgA_one (t : BitVec 256) (a : Nat) (l : ByteArray) : rgA (oneW t a (a + 1), 0, 0) l = rgI 1 a ((a : Int) + 1) t 0 0 0 0 l := by
  have e : ((a + 1 : Nat) : Int) = (a : Int) + 1 := by omega
  show rgI 1 a ((a + 1 : Nat) : Int) t 0 0 0 0 l = _
  rw [e]
theorem rgA_two (t : BitVec 256) (a : Nat) (l : ByteArray) : rgA (oneW t a (a + 2), 0, 0) l = rgI 1 a ((a : Int) + 2) t 0 0 0 0 l := by
  have e : ((a + 2 : Nat) : Int) = (a : Int) + 2 := by omega
  show rgI 1 a ((a + 2 : Nat) : Int) t 0 0 0 0 l = _
  rw [e]
set_option maxRecDepth 100000 in
set_option maxHeartbeats 8000000 in
theorem inB5_calls (s : ByteArray) (hs : s.size ≤ 1000000) (a : Nat) (w : World) : Calls Tryz.prog 130 #[.string s, .int .i64 a] w fun en w' => en = .returned (.agg (rgA (brkW s a) (wholeD s a).lack)) ∧ Below w.heap.size w w' := by
  obtain ⟨t, p, e, k, hR⟩ : ∃ t p e k, readR s a = (t, p, e, k) := ⟨_, _, _, _, rfl⟩
  have hL := lackE s a t p e k _ hR rfl
  have HRD := Lib.hid (fun w => dRead s hs a t p e k hR w)
  have HLK := Lib.hid (fun w => lackD_calls s hs a w)
  have hY : brkW s a = if e ≠ 0 then (zWN, e, k) else (oneW t a p, 0, 0) := by unfold brkW; rw [hR]
  generalize (wholeD s a).lack = l at *
  generalize brkW s a = Y at *
  clear hR
  have HL := Lib.hid hL
  have HY := Lib.hid hY
  clear hL hY
  have HR := Lib.hid (Blk.new w (rgZ 0 0 0 0 0 0 0 eT) 61)
  have HB : Hid (Below w.heap.size w (w.alloc (.cells (rgZ 0 0 0 0 0 0 0 eT) 61))) := Lib.hid (by go_grown)
  have hz : w.heap.size + 1 ≤ (w.alloc (.cells (rgZ 0 0 0 0 0 0 0 eT) 61)).heap.size := by simp
  go_enter Tryz.func130, Tryz.ntmps130
  go_upto_region 1 with fail
  have e0 : w.alloc (.cells #[.int .i64 0, .int .i64 0, .int .i64 0, .int .u64 0, .int .u64 0, .int .u64 0, .int .u64 0, .int .i64 0, .int .i64 0, .int .i64 0, .int .i64 0, .string ⟨#[]⟩] 61) = w.alloc (.cells (rgZ 0 0 0 0 0 0 0 eT) 61) := rfl
  try rw [e0]
  clear e0
  generalize w.alloc (.cells (rgZ 0 0 0 0 0 0 0 eT) 61) = w1 at *
  go_wp2_with fail
  refine (HRD.out _).mono ?_
  rintro en w2 ⟨rfl, hb⟩
  replace HR := Lib.hid (HR.out.below hb (Blk.lt HR.out))
  replace HB := Lib.hid (HB.out.trans (hb.mono (by omega)))
  replace hz := Nat.le_trans hz hb.size
  clear hb HRD
  go_upto_region 2 with fail
  have HC := Lib.hid (Blk.new w2 (setA t) 38)
  have hwB : w.heap.size < w2.heap.size := by omega
  replace HR := Lib.hid (HR.out.alloc (.cells (setA t) 38))
  replace HB := Lib.hid (HB.out.alloc (by omega) (.cells (setA t) 38))
  have e0 : w2.alloc (.cells #[.int .u64 (wd t 0), .int .u64 (wd t 1), .int .u64 (wd t 2), .int .u64 (wd t 3)] 38) = w2.alloc (.cells (setA t) 38) := rfl
  try rw [e0]
  clear e0
  have hz3 : w.heap.size + 1 ≤ (w2.alloc (.cells (setA t) 38)).heap.size := by simp; omega
  generalize w2.alloc (.cells (setA t) 38) = w3 at *
  generalize w2.heap.size = B at *
  by_cases he : e = 0
  · subst he
    have hl : l = eT := by
      rcases HL.out with h | h
      · exact h.2
      · exact absurd h.1 (by decide)
    have hY : Y = (oneW t a p, 0, 0) := by rw [HY.out, if_neg (by decide)]
    subst hl hY
    have HO := Lib.hid (fun w => oneOf5_calls t a p w)
    obtain ⟨⟨c0, c1, c2, c3⟩, _⟩ := HC.out.cells4
    clear HL HY HLK hz
    go_wp2_with fail
    refine (HO.out _).mono ?_
    rintro en w4 ⟨rfl, hb⟩
    replace HR := Lib.hid (HR.out.below hb (Blk.lt HR.out))
    replace HB := Lib.hid (HB.out.trans (hb.mono (by omega)))
    clear hb HO c0 c1 c2 c3 HC
    go_wp2_with ((with_reducible refine wpList_store_st (o := ⟨none, .store 61 _ _, _, _, _, _⟩) rfl 61 _ _ rfl w.heap.size rfl rfl (run_storeAt_row _ w.heap.size 61 61 (rgZ 0 0 0 0 0 0 0 eT) (rgI 1 a p t 0 0 0 0 eT) ?_ ?_ ?_ ?_) ?_); exact HR.out; exact infoRg; rfl; exact rg_one _ _ _ _ _ _ _ _ _)
    exact bodyPost_ret (v := .agg (rgI 1 a p t 0 0 0 0 eT)) (results_cell_row rfl _ _ w.heap.size 61 (rgI 1 a p t 0 0 0 0 eT) (0, 0) _ rfl (Blk.setRow HR.out) Tryz.underlying61 rfl infoRg) rfl ⟨rfl, below_row HB.out (Nat.le_refl _) _⟩
  · have q : ((e : Int) != 0) = true := by rw [bne_iff_ne]; omega
    have hY : Y = (zWN, e, k) := by rw [HY.out, if_pos he]
    subst hY
    clear HL HY HC hz he
    go_wp2_with fail
    refine (HLK.out _).mono ?_
    rintro en w4 ⟨rfl, hb⟩
    replace HR := Lib.hid (HR.out.below hb (Blk.lt HR.out))
    replace HB := Lib.hid (HB.out.trans (hb.mono (by omega)))
    clear hb HLK
    go_wp2_with ((with_reducible refine wpList_store_st (o := ⟨none, .store 61 _ _, _, _, _, _⟩) rfl 61 _ _ rfl w.heap.size rfl rfl (run_storeAt_row _ w.heap.size 61 61 (rgZ 0 0 0 0 0 0 0 eT) (rgZ 0 0 0 0 0 e k l) ?_ ?_ ?_ ?_) ?_); exact HR.out; exact infoRg; rfl; exact rg_one _ _ _ 0 _ _ _ _ _)
    exact bodyPost_ret (v := .agg (rgZ 0 0 0 0 0 e k l)) (results_cell_row rfl _ _ w.heap.size 61 (rgZ 0 0 0 0 0 e k l) (0, 0) _ rfl (Blk.setRow HR.out) Tryz.underlying61 rfl infoRg) rfl ⟨by rw [rgZ_eq]; rfl, below_row HB.out (Nat.le_refl _) _⟩

/-- What lacks to a backslash. -/
def lackS (s : ByteArray) (a : Nat) : ByteArray := if s.size ≤ a + 1 then ofT [46] else eT
set_option maxRecDepth 100000 in
set_option maxHeartbeats 8000000 in
theorem esc5_calls (s : ByteArray) (hs : s.size ≤ 1000000) (a : Nat) (ha : a < s.size) (w : World) : Calls Tryz.prog 131 #[.string s, .int .i64 a] w fun en w' => en = .returned (.agg (rgA (slashW s a) (lackS s a))) ∧ Below w.heap.size w w' := by
  have x2 : IntKind.i64.wrap ((a : Int) + 2) = (a : Int) + 2 := IntWalk.i64_in _ (by omega)
  have x1 : IntKind.i64.wrap ((a : Int) + 1) = (a : Int) + 1 := IntWalk.i64_in _ (by omega)
  have xs : IntKind.i64.wrap (s.size : Int) = s.size := IntWalk.i64_in _ (by omega)
  have HY := Lib.hid (show slashW s a = if s.size ≤ a + 1 then (zWN, 2, s.size) else if four14 (bt s (a + 1)) = false then (zWN, 3, a + 2) else (oneW (range (bt s (a + 1)) (bt s (a + 1))) a (a + 2), 0, 0) from rfl)
  have HL := Lib.hid (show lackS s a = if s.size ≤ a + 1 then ofT [46] else eT from rfl)
  generalize slashW s a = Y at *
  generalize lackS s a = l at *
  have HR := Lib.hid (Blk.new w (rgZ 0 0 0 0 0 0 0 eT) 61)
  have HB : Hid (Below w.heap.size w (w.alloc (.cells (rgZ 0 0 0 0 0 0 0 eT) 61))) := Lib.hid (by go_grown)
  have hz : w.heap.size + 1 ≤ (w.alloc (.cells (rgZ 0 0 0 0 0 0 0 eT) 61)).heap.size := by simp
  go_enter Tryz.func131, Tryz.ntmps131
  go_upto_region 1 with fail
  have e0 : w.alloc (.cells #[.int .i64 0, .int .i64 0, .int .i64 0, .int .u64 0, .int .u64 0, .int .u64 0, .int .u64 0, .int .i64 0, .int .i64 0, .int .i64 0, .int .i64 0, .string ⟨#[]⟩] 61) = w.alloc (.cells (rgZ 0 0 0 0 0 0 0 eT) 61) := rfl
  try rw [e0]
  clear e0
  generalize w.alloc (.cells (rgZ 0 0 0 0 0 0 0 eT) 61) = w1 at *
  by_cases hs1 : s.size ≤ a + 1
  · have q : decide ((s.size : Int) < (a : Int) + 2) = true := by rw [decide_eq_true_iff]; omega
    have hY : Y = (zWN, 2, s.size) := by rw [HY.out, if_pos hs1]
    have hl : l = ofT [46] := by rw [HL.out, if_pos hs1]
    subst hY hl
    clear HY HL hs1
    have hsl : ∀ w', (Instr.slice 9 (.string ⟨#[46, 91, 93, 92, 40, 41, 42, 43, 63, 123, 125, 124, 94, 36]⟩) none (some (.int .i64 1)) none).run Tryz.prog w' = .ok (.string (ofT [46])) w' := fun w' => by kernel_rfl
    go_wp2_with ((with_reducible refine wpList_store_st (o := ⟨none, .store 61 _ _, _, _, _, _⟩) rfl 61 _ _ rfl w.heap.size rfl rfl (run_storeAt_row _ w.heap.size 61 61 (rgZ 0 0 0 0 0 0 0 eT) (rgZ 0 0 0 0 0 2 s.size (ofT [46])) ?_ ?_ ?_ ?_) ?_); exact HR.out; exact infoRg; rfl; exact rg_one _ _ _ 0 _ _ _ _ _)
    exact bodyPost_ret (v := .agg (rgZ 0 0 0 0 0 2 s.size (ofT [46]))) (results_cell_row rfl _ _ w.heap.size 61 (rgZ 0 0 0 0 0 2 s.size (ofT [46])) (0, 0) _ rfl (Blk.setRow HR.out) Tryz.underlying61 rfl infoRg) rfl ⟨by rw [rgZ_eq]; rfl, below_row HB.out (Nat.le_refl _) _⟩
  have q : decide ((s.size : Int) < (a : Int) + 2) = false := by rw [decide_eq_false_iff_not]; omega
  have hl : l = eT := by rw [HL.out, if_neg hs1]
  subst hl
  clear HL
  have hlt : a + 1 < s.size := by omega
  have h0 : s[a + 1].toNat = bt s (a + 1) := (bt_eq s (a + 1) hlt).symm
  have hl0 := bt_lt s (a + 1)
  have HSG := Lib.hid (isSign_calls (bt s (a + 1)) hl0)
  generalize bt s (a + 1) = b at *
  cases hf : four14 b with
  | false =>
    have hY : Y = (zWN, 3, a + 2) := by rw [HY.out, if_neg hs1, if_pos hf]
    subst hY
    rw [hf] at HSG
    have HF := Lib.hid (fun w => fault5_calls 3 ((a : Int) + 2) w)
    clear HY hs1 hf
    go_wp2_with fail
    refine (HSG.out _).mono ?_
    rintro en w2 ⟨rfl, rfl⟩
    go_wp2_with fail
    refine (HF.out _).mono ?_
    rintro en w4 ⟨rfl, hb⟩
    replace HR := Lib.hid (HR.out.below hb (Blk.lt HR.out))
    replace HB := Lib.hid (HB.out.trans (hb.mono (by omega)))
    replace hz := Nat.le_trans hz hb.size
    clear hb HF
    go_wp2_with ((with_reducible refine wpList_store_st (o := ⟨none, .store 61 _ _, _, _, _, _⟩) rfl 61 _ _ rfl w.heap.size rfl rfl (run_storeAt_row _ w.heap.size 61 61 (rgZ 0 0 0 0 0 0 0 eT) (rgZ 0 0 0 0 0 3 ((a : Int) + 2) eT) ?_ ?_ ?_ ?_) ?_); exact HR.out; exact infoRg; rfl; exact rg_one _ _ _ 0 _ _ _ _ _)
    exact bodyPost_ret (v := .agg (rgZ 0 0 0 0 0 3 ((a : Int) + 2) eT)) (results_cell_row rfl _ _ w.heap.size 61 (rgZ 0 0 0 0 0 3 ((a : Int) + 2) eT) (0, 0) _ rfl (Blk.setRow HR.out) Tryz.underlying61 rfl infoRg) rfl ⟨by rw [rgZ_eq]; rfl, below_row HB.out (Nat.le_refl _) _⟩
  | true =>
    have hY : Y = (oneW (range b b) a (a + 2), 0, 0) := by rw [HY.out, if_neg hs1, if_neg (by rw [hf]; decide)]
    subst hY
    rw [hf] at HSG
    have HWT := Lib.hid (fun W t => dWith_calls W t b hl0)
    generalize hT : range b b = t at *
    have HTT := Lib.hid hT
    clear hT
    have HO := Lib.hid (fun w => oneOf5_calls t a ((a : Int) + 2) w)
    clear HY hs1 hf
    go_wp2_with fail
    refine (HSG.out _).mono ?_
    rintro en w2 ⟨rfl, rfl⟩
    clear HSG
    go_wp2_with fail
    replace HR := Lib.hid (HR.out.alloc (.cells #[.int .u8 b] 5))
    replace HB := Lib.hid (HB.out.alloc (by omega) (.cells #[.int .u8 b] 5))
    have hz3 : w.heap.size + 1 ≤ (w1.alloc (.cells #[.int .u8 b] 5)).heap.size := by simp; omega
    clear hz
    have hz := hz3
    clear hz3
    refine Calls.mono (HWT.out w1 _) ?_
    rintro en w4 ⟨rfl, hb⟩
    replace HR := Lib.hid (HR.out.below hb (Blk.lt HR.out))
    replace HB := Lib.hid (HB.out.trans (hb.mono (by omega)))
    replace hz := Nat.le_trans hz hb.size
    clear hb HWT
    go_wp2_with fail
    refine (HO.out _).mono ?_
    rintro en w5 ⟨rfl, hb⟩
    replace HR := Lib.hid (HR.out.below hb (Blk.lt HR.out))
    replace HB := Lib.hid (HB.out.trans (hb.mono (by omega)))
    replace hz := Nat.le_trans hz hb.size
    clear hb HO
    go_wp2_with ((with_reducible refine wpList_store_st (o := ⟨none, .store 61 _ _, _, _, _, _⟩) rfl 61 _ _ rfl w.heap.size rfl rfl (run_storeAt_row _ w.heap.size 61 61 (rgZ 0 0 0 0 0 0 0 eT) (rgI 1 a ((a : Int) + 2) t 0 0 0 0 eT) ?_ ?_ ?_ ?_) ?_); exact HR.out; exact infoRg; rfl; exact rg_one _ _ _ _ _ _ _ _ _)
    exact bodyPost_ret (v := .agg (rgI 1 a ((a : Int) + 2) t 0 0 0 0 eT)) (results_cell_row rfl _ _ w.heap.size 61 (rgI 1 a ((a : Int) + 2) t 0 0 0 0 eT) (0, 0) _ rfl (Blk.setRow HR.out) Tryz.underlying61 rfl infoRg) rfl ⟨by rw [rgA_two, HTT.out], below_row HB.out (Nat.le_refl _) _⟩
set_option maxRecDepth 100000 in
set_option maxHeartbeats 8000000 in
theorem openBegins_calls (b : Nat) (w : World) : Calls Tryz.prog 97 #[.agg #[], .int .u8 b] w fun en w' => en = .returned (.bool (b == 40)) ∧ Below w.heap.size w w' := by
  have q : ((b : Int) == 40) = (b == 40) := by rw [Bool.eq_iff_iff, beq_iff_eq, beq_iff_eq]; omega
  go_enter Tryz.func97, Tryz.ntmps97
  go_wp2_with fail
  go_ret
  exact ⟨rfl, by go_grown⟩
set_option maxRecDepth 100000 in
set_option maxHeartbeats 8000000 in
theorem openRead_calls (s : ByteArray) (hs : s.size ≤ 1000000) (a : Nat) (ha : a < s.size) (w : World) : Calls Tryz.prog 100 #[.agg #[], .string s, .int .i64 a] w fun en w' => en = .returned (.agg (rgA ((⟨2, a, a + 1, 0, 0, 0⟩, 0, 0)) eT)) ∧ Below w.heap.size w w' := by
  have HS := Lib.hid (fun w => sign5_calls 2 a (by omega) w)
  have HR := Lib.hid (Blk.new (w.alloc (.cells #[] 115)) (rgZ 0 0 0 0 0 0 0 eT) 61)
  rw [World.size_alloc] at HR
  have HB : Hid (Below w.heap.size w ((w.alloc (.cells #[] 115)).alloc (.cells (rgZ 0 0 0 0 0 0 0 eT) 61))) := Lib.hid (by go_grown)
  have hz : w.heap.size + 2 ≤ ((w.alloc (.cells #[] 115)).alloc (.cells (rgZ 0 0 0 0 0 0 0 eT) 61)).heap.size := by simp
  go_enter Tryz.func100, Tryz.ntmps100
  go_upto_region 1 with fail
  have e0 : (w.alloc (.cells #[] 115)).alloc (.cells #[.int .i64 0, .int .i64 0, .int .i64 0, .int .u64 0, .int .u64 0, .int .u64 0, .int .u64 0, .int .i64 0, .int .i64 0, .int .i64 0, .int .i64 0, .string ⟨#[]⟩] 61) = (w.alloc (.cells #[] 115)).alloc (.cells (rgZ 0 0 0 0 0 0 0 eT) 61) := rfl
  try rw [e0]
  clear e0
  generalize (w.alloc (.cells #[] 115)).alloc (.cells (rgZ 0 0 0 0 0 0 0 eT) 61) = w1 at *
  generalize hBB : w.heap.size + 1 = BB at HR
  have hBB2 : w.heap.size ≤ BB := by omega
  go_wp2_with fail
  refine (HS.out _).mono ?_
  rintro en w2 ⟨rfl, hb⟩
  replace HR := Lib.hid (HR.out.below hb (Blk.lt HR.out))
  replace HB := Lib.hid (HB.out.trans (hb.mono (by omega)))
  replace hz := Nat.le_trans hz hb.size
  clear hb HS
  go_wp2_with ((with_reducible refine wpList_store_st (o := ⟨none, .store 61 _ _, _, _, _, _⟩) rfl 61 _ _ rfl BB rfl rfl (run_storeAt_row _ BB 61 61 (rgZ 0 0 0 0 0 0 0 eT) (rgZ 2 a ((a : Int) + 1) 0 0 0 0 eT) ?_ ?_ ?_ ?_) ?_); exact HR.out; exact infoRg; rfl; exact rg_one _ _ _ 0 _ _ _ _ _)
  exact bodyPost_ret (v := .agg (rgZ 2 a ((a : Int) + 1) 0 0 0 0 eT)) (results_cell_row rfl _ _ BB 61 (rgZ 2 a ((a : Int) + 1) 0 0 0 0 eT) (0, 0) _ rfl (Blk.setRow HR.out) Tryz.underlying61 rfl infoRg) rfl ⟨by rw [rgZ_eq]; rfl, below_row HB.out hBB2 _⟩
set_option maxRecDepth 100000 in
set_option maxHeartbeats 8000000 in
theorem shutBegins_calls (b : Nat) (w : World) : Calls Tryz.prog 102 #[.agg #[], .int .u8 b] w fun en w' => en = .returned (.bool (b == 41)) ∧ Below w.heap.size w w' := by
  have q : ((b : Int) == 41) = (b == 41) := by rw [Bool.eq_iff_iff, beq_iff_eq, beq_iff_eq]; omega
  go_enter Tryz.func102, Tryz.ntmps102
  go_wp2_with fail
  go_ret
  exact ⟨rfl, by go_grown⟩
set_option maxRecDepth 100000 in
set_option maxHeartbeats 8000000 in
theorem shutRead_calls (s : ByteArray) (hs : s.size ≤ 1000000) (a : Nat) (ha : a < s.size) (w : World) : Calls Tryz.prog 105 #[.agg #[], .string s, .int .i64 a] w fun en w' => en = .returned (.agg (rgA ((⟨3, a, a + 1, 0, 0, 0⟩, 0, 0)) eT)) ∧ Below w.heap.size w w' := by
  have HS := Lib.hid (fun w => sign5_calls 3 a (by omega) w)
  have HR := Lib.hid (Blk.new (w.alloc (.cells #[] 116)) (rgZ 0 0 0 0 0 0 0 eT) 61)
  rw [World.size_alloc] at HR
  have HB : Hid (Below w.heap.size w ((w.alloc (.cells #[] 116)).alloc (.cells (rgZ 0 0 0 0 0 0 0 eT) 61))) := Lib.hid (by go_grown)
  have hz : w.heap.size + 2 ≤ ((w.alloc (.cells #[] 116)).alloc (.cells (rgZ 0 0 0 0 0 0 0 eT) 61)).heap.size := by simp
  go_enter Tryz.func105, Tryz.ntmps105
  go_upto_region 1 with fail
  have e0 : (w.alloc (.cells #[] 116)).alloc (.cells #[.int .i64 0, .int .i64 0, .int .i64 0, .int .u64 0, .int .u64 0, .int .u64 0, .int .u64 0, .int .i64 0, .int .i64 0, .int .i64 0, .int .i64 0, .string ⟨#[]⟩] 61) = (w.alloc (.cells #[] 116)).alloc (.cells (rgZ 0 0 0 0 0 0 0 eT) 61) := rfl
  try rw [e0]
  clear e0
  generalize (w.alloc (.cells #[] 116)).alloc (.cells (rgZ 0 0 0 0 0 0 0 eT) 61) = w1 at *
  generalize hBB : w.heap.size + 1 = BB at HR
  have hBB2 : w.heap.size ≤ BB := by omega
  go_wp2_with fail
  refine (HS.out _).mono ?_
  rintro en w2 ⟨rfl, hb⟩
  replace HR := Lib.hid (HR.out.below hb (Blk.lt HR.out))
  replace HB := Lib.hid (HB.out.trans (hb.mono (by omega)))
  replace hz := Nat.le_trans hz hb.size
  clear hb HS
  go_wp2_with ((with_reducible refine wpList_store_st (o := ⟨none, .store 61 _ _, _, _, _, _⟩) rfl 61 _ _ rfl BB rfl rfl (run_storeAt_row _ BB 61 61 (rgZ 0 0 0 0 0 0 0 eT) (rgZ 3 a ((a : Int) + 1) 0 0 0 0 eT) ?_ ?_ ?_ ?_) ?_); exact HR.out; exact infoRg; rfl; exact rg_one _ _ _ 0 _ _ _ _ _)
  exact bodyPost_ret (v := .agg (rgZ 3 a ((a : Int) + 1) 0 0 0 0 eT)) (results_cell_row rfl _ _ BB 61 (rgZ 3 a ((a : Int) + 1) 0 0 0 0 eT) (0, 0) _ rfl (Blk.setRow HR.out) Tryz.underlying61 rfl infoRg) rfl ⟨by rw [rgZ_eq]; rfl, below_row HB.out hBB2 _⟩
set_option maxRecDepth 100000 in
set_option maxHeartbeats 8000000 in
theorem barBegins_calls (b : Nat) (w : World) : Calls Tryz.prog 106 #[.agg #[], .int .u8 b] w fun en w' => en = .returned (.bool (b == 124)) ∧ Below w.heap.size w w' := by
  have q : ((b : Int) == 124) = (b == 124) := by rw [Bool.eq_iff_iff, beq_iff_eq, beq_iff_eq]; omega
  go_enter Tryz.func106, Tryz.ntmps106
  go_wp2_with fail
  go_ret
  exact ⟨rfl, by go_grown⟩
set_option maxRecDepth 100000 in
set_option maxHeartbeats 8000000 in
theorem barRead_calls (s : ByteArray) (hs : s.size ≤ 1000000) (a : Nat) (ha : a < s.size) (w : World) : Calls Tryz.prog 109 #[.agg #[], .string s, .int .i64 a] w fun en w' => en = .returned (.agg (rgA ((⟨4, a, a + 1, 0, 0, 0⟩, 0, 0)) eT)) ∧ Below w.heap.size w w' := by
  have HS := Lib.hid (fun w => sign5_calls 4 a (by omega) w)
  have HR := Lib.hid (Blk.new (w.alloc (.cells #[] 117)) (rgZ 0 0 0 0 0 0 0 eT) 61)
  rw [World.size_alloc] at HR
  have HB : Hid (Below w.heap.size w ((w.alloc (.cells #[] 117)).alloc (.cells (rgZ 0 0 0 0 0 0 0 eT) 61))) := Lib.hid (by go_grown)
  have hz : w.heap.size + 2 ≤ ((w.alloc (.cells #[] 117)).alloc (.cells (rgZ 0 0 0 0 0 0 0 eT) 61)).heap.size := by simp
  go_enter Tryz.func109, Tryz.ntmps109
  go_upto_region 1 with fail
  have e0 : (w.alloc (.cells #[] 117)).alloc (.cells #[.int .i64 0, .int .i64 0, .int .i64 0, .int .u64 0, .int .u64 0, .int .u64 0, .int .u64 0, .int .i64 0, .int .i64 0, .int .i64 0, .int .i64 0, .string ⟨#[]⟩] 61) = (w.alloc (.cells #[] 117)).alloc (.cells (rgZ 0 0 0 0 0 0 0 eT) 61) := rfl
  try rw [e0]
  clear e0
  generalize (w.alloc (.cells #[] 117)).alloc (.cells (rgZ 0 0 0 0 0 0 0 eT) 61) = w1 at *
  generalize hBB : w.heap.size + 1 = BB at HR
  have hBB2 : w.heap.size ≤ BB := by omega
  go_wp2_with fail
  refine (HS.out _).mono ?_
  rintro en w2 ⟨rfl, hb⟩
  replace HR := Lib.hid (HR.out.below hb (Blk.lt HR.out))
  replace HB := Lib.hid (HB.out.trans (hb.mono (by omega)))
  replace hz := Nat.le_trans hz hb.size
  clear hb HS
  go_wp2_with ((with_reducible refine wpList_store_st (o := ⟨none, .store 61 _ _, _, _, _, _⟩) rfl 61 _ _ rfl BB rfl rfl (run_storeAt_row _ BB 61 61 (rgZ 0 0 0 0 0 0 0 eT) (rgZ 4 a ((a : Int) + 1) 0 0 0 0 eT) ?_ ?_ ?_ ?_) ?_); exact HR.out; exact infoRg; rfl; exact rg_one _ _ _ 0 _ _ _ _ _)
  exact bodyPost_ret (v := .agg (rgZ 4 a ((a : Int) + 1) 0 0 0 0 eT)) (results_cell_row rfl _ _ BB 61 (rgZ 4 a ((a : Int) + 1) 0 0 0 0 eT) (0, 0) _ rfl (Blk.setRow HR.out) Tryz.underlying61 rfl infoRg) rfl ⟨by rw [rgZ_eq]; rfl, below_row HB.out hBB2 _⟩
set_option maxRecDepth 100000 in
set_option maxHeartbeats 8000000 in
theorem repBegins_calls (b : Nat) (hb : b < 256) (w : World) : Calls Tryz.prog 110 #[.agg #[], .int .u8 b] w fun en w' => en = .returned (.bool ([42, 43, 63, 123].contains b)) ∧ Below w.heap.size w w' := by
  have HS := Lib.hid (isRep_calls b hb)
  generalize ([42, 43, 63, 123].contains b) = x at *
  go_enter Tryz.func110, Tryz.ntmps110
  go_wp2_with fail
  refine (HS.out _).mono ?_
  rintro en w2 ⟨rfl, rfl⟩
  clear HS
  go_wp2_with fail
  go_ret
  exact ⟨rfl, by go_grown⟩
set_option maxRecDepth 100000 in
set_option maxHeartbeats 8000000 in
theorem oneBegins_calls (b : Nat) (w : World) : Calls Tryz.prog 126 #[.agg #[], .int .u8 b] w fun en w' => en = .returned (.bool (b != 94 && b != 36)) ∧ Below w.heap.size w w' := by
  have q : ((b : Int) != 94) = (b != 94) := by rw [Bool.eq_iff_iff, bne_iff_ne, bne_iff_ne]; omega
  have q2 : ((b : Int) != 36) = (b != 36) := by rw [Bool.eq_iff_iff, bne_iff_ne, bne_iff_ne]; omega
  cases h : (b != 94) with
  | false =>
    rw [h] at q
    clear h
    go_enter Tryz.func126, Tryz.ntmps126
    go_wp2_with fail
    go_ret
    exact ⟨rfl, by go_grown⟩
  | true =>
    rw [h] at q
    clear h
    go_enter Tryz.func126, Tryz.ntmps126
    go_wp2_with fail
    go_ret
    exact ⟨rfl, by go_grown⟩
set_option maxRecDepth 100000 in
set_option maxHeartbeats 8000000 in
theorem repRead_calls (s : ByteArray) (hs : s.size ≤ 1000000) (a : Nat) (w : World) : Calls Tryz.prog 113 #[.agg #[], .string s, .int .i64 a] w fun en w' => en = .returned (.agg (rgA (cntW s a) (ofT (readD4 s a).lack))) ∧ Below w.heap.size w w' := by
  have h1 := bRead_calls s hs a
  have hL := (lackN_read s a).1
  have HLK := Lib.hid (fun w => lackD4_calls s hs a w)
  have hY : cntW s a = if (readN s a).2.2.2.1 ≠ 0 then (zWN, (readN s a).2.2.2.1, (readN s a).2.2.2.2) else (⟨5, a, (readN s a).2.2.1, 0, (readN s a).1, (readN s a).2.1⟩, 0, 0) := rfl
  generalize readN s a = R at *
  obtain ⟨n, m, p, e, k⟩ := R
  have HRD : Hid (∀ w, Calls Tryz.prog 115 #[.string s, .int .i64 a] w fun e' w' => e' = .returned (.tuple #[.agg #[.int .i64 n, .int .i64 m], .int .i64 p, .int .i64 e, .int .i64 k]) ∧ Below w.heap.size w w') := Lib.hid h1
  clear h1
  have HY : Hid (cntW s a = if e ≠ 0 then (zWN, e, k) else (⟨5, a, p, 0, n, m⟩, 0, 0)) := Lib.hid hY
  have HL : Hid (e ≠ 2 → ofT (readD4 s a).lack = eT) := Lib.hid hL
  clear hL hY
  generalize ofT (readD4 s a).lack = l at *
  generalize cntW s a = Y at *
  have HR := Lib.hid (Blk.new (w.alloc (.cells #[] 118)) (rgZ 0 0 0 0 0 0 0 eT) 61)
  rw [World.size_alloc] at HR
  have HB : Hid (Below w.heap.size w ((w.alloc (.cells #[] 118)).alloc (.cells (rgZ 0 0 0 0 0 0 0 eT) 61))) := Lib.hid (by go_grown)
  have hz : w.heap.size + 2 ≤ ((w.alloc (.cells #[] 118)).alloc (.cells (rgZ 0 0 0 0 0 0 0 eT) 61)).heap.size := by simp
  go_enter Tryz.func113, Tryz.ntmps113
  go_upto_region 1 with fail
  have e0 : (w.alloc (.cells #[] 118)).alloc (.cells #[.int .i64 0, .int .i64 0, .int .i64 0, .int .u64 0, .int .u64 0, .int .u64 0, .int .u64 0, .int .i64 0, .int .i64 0, .int .i64 0, .int .i64 0, .string ⟨#[]⟩] 61) = (w.alloc (.cells #[] 118)).alloc (.cells (rgZ 0 0 0 0 0 0 0 eT) 61) := rfl
  try rw [e0]
  clear e0
  generalize (w.alloc (.cells #[] 118)).alloc (.cells (rgZ 0 0 0 0 0 0 0 eT) 61) = w1 at *
  generalize hBB : w.heap.size + 1 = BB at HR
  have hBB2 : w.heap.size ≤ BB := by omega
  go_wp2_with fail
  refine (HRD.out _).mono ?_
  rintro en w2 ⟨rfl, hb⟩
  replace HR := Lib.hid (HR.out.below hb (Blk.lt HR.out))
  replace HB := Lib.hid (HB.out.trans (hb.mono (by omega)))
  replace hz := Nat.le_trans hz hb.size
  clear hb HRD
  go_upto_region 2 with fail
  have HC := Lib.hid (Blk.new w2 (spI n m) 155)
  replace HR := Lib.hid (HR.out.alloc (.cells (spI n m) 155))
  replace HB := Lib.hid (HB.out.alloc (by omega) (.cells (spI n m) 155))
  have hz3 : w.heap.size + 1 ≤ (w2.alloc (.cells (spI n m) 155)).heap.size := by simp; omega
  generalize w2.alloc (.cells (spI n m) 155) = w3 at *
  generalize w2.heap.size = B at *
  by_cases he : e = 0
  · subst he
    have hl : l = eT := HL.out (by decide)
    have hY : Y = (⟨5, a, p, 0, n, m⟩, 0, 0) := by rw [HY.out, if_neg (by decide)]
    subst hl hY
    have c0 := HC.out.cell 0
    have c1 := HC.out.cell 1
    simp only [List.getElem?_toArray, List.getElem?_cons_zero, List.getElem?_cons_succ] at c0 c1
    clear HL HY HLK hz HC
    go_wp2_with ((with_reducible refine wpList_store_st (o := ⟨none, .store 61 _ _, _, _, _, _⟩) rfl 61 _ _ rfl BB rfl rfl (run_storeAt_row _ BB 61 61 (rgZ 0 0 0 0 0 0 0 eT) (rgZ 5 a p n m 0 0 eT) ?_ ?_ ?_ ?_) ?_); exact HR.out; exact infoRg; rfl; exact rg_one _ _ _ 0 _ _ _ _ _)
    exact bodyPost_ret (v := .agg (rgZ 5 a p n m 0 0 eT)) (results_cell_row rfl _ _ BB 61 (rgZ 5 a p n m 0 0 eT) (0, 0) _ rfl (Blk.setRow HR.out) Tryz.underlying61 rfl infoRg) rfl ⟨by rw [rgZ_eq]; rfl, below_row HB.out hBB2 _⟩
  · have q : ((e : Int) != 0) = true := by rw [bne_iff_ne]; omega
    have hY : Y = (zWN, e, k) := by rw [HY.out, if_pos he]
    subst hY
    clear HL HY HC hz he
    go_wp2_with fail
    refine (HLK.out _).mono ?_
    rintro en w4 ⟨rfl, hb⟩
    replace HR := Lib.hid (HR.out.below hb (Blk.lt HR.out))
    replace HB := Lib.hid (HB.out.trans (hb.mono (by omega)))
    clear hb HLK
    go_wp2_with ((with_reducible refine wpList_store_st (o := ⟨none, .store 61 _ _, _, _, _, _⟩) rfl 61 _ _ rfl BB rfl rfl (run_storeAt_row _ BB 61 61 (rgZ 0 0 0 0 0 0 0 eT) (rgZ 0 0 0 0 0 e k l) ?_ ?_ ?_ ?_) ?_); exact HR.out; exact infoRg; rfl; exact rg_one _ _ _ 0 _ _ _ _ _)
    exact bodyPost_ret (v := .agg (rgZ 0 0 0 0 0 e k l)) (results_cell_row rfl _ _ BB 61 (rgZ 0 0 0 0 0 e k l) (0, 0) _ rfl (Blk.setRow HR.out) Tryz.underlying61 rfl infoRg) rfl ⟨by rw [rgZ_eq]; rfl, below_row HB.out hBB2 _⟩

/-- What One reads at a byte that begins no other kind, and what lacks there. -/
def oneR (s : ByteArray) (a : Nat) : WN × Nat × Nat :=
  if bt s a = 91 then brkW s a else if bt s a = 92 then slashW s a else if bt s a = 46 then (oneW (range 0 255) a (a + 1), 0, 0) else (oneW (range (bt s a) (bt s a)) a (a + 1), 0, 0)
def oneL (s : ByteArray) (a : Nat) : ByteArray := if bt s a = 91 then (wholeD s a).lack else if bt s a = 92 then lackS s a else eT
theorem anyS : (~~~(0 : BitVec 256)) = range 0 255 := by decide +kernel
set_option maxRecDepth 100000 in
set_option maxHeartbeats 8000000 in
theorem oneRead_calls (s : ByteArray) (hs : s.size ≤ 1000000) (a : Nat) (ha : a < s.size) (w : World) : Calls Tryz.prog 129 #[.agg #[], .string s, .int .i64 a] w fun en w' => en = .returned (.agg (rgA (oneR s a) (oneL s a))) ∧ Below w.heap.size w w' := by
  have x1 : IntKind.i64.wrap ((a : Int) + 1) = (a : Int) + 1 := IntWalk.i64_in _ (by omega)
  have h0 : s[a].toNat = bt s a := (bt_eq s a ha).symm
  have hl0 := bt_lt s a
  have HB1 := Lib.hid (fun w => inB5_calls s hs a w)
  have HE1 := Lib.hid (fun w => esc5_calls s hs a ha w)
  have HY := Lib.hid (show oneR s a = if bt s a = 91 then brkW s a else if bt s a = 92 then slashW s a else if bt s a = 46 then (oneW (range 0 255) a (a + 1), 0, 0) else (oneW (range (bt s a) (bt s a)) a (a + 1), 0, 0) from rfl)
  have HL := Lib.hid (show oneL s a = if bt s a = 91 then (wholeD s a).lack else if bt s a = 92 then lackS s a else eT from rfl)
  generalize oneR s a = Y at *
  generalize oneL s a = l at *
  generalize brkW s a = YB at *
  generalize (wholeD s a).lack = lB at *
  generalize slashW s a = YS at *
  generalize lackS s a = lS at *
  have HR := Lib.hid (Blk.new (w.alloc (.cells #[] 119)) (rgZ 0 0 0 0 0 0 0 eT) 61)
  rw [World.size_alloc] at HR
  have HB : Hid (Below w.heap.size w ((w.alloc (.cells #[] 119)).alloc (.cells (rgZ 0 0 0 0 0 0 0 eT) 61))) := Lib.hid (by go_grown)
  have hz : w.heap.size + 2 ≤ ((w.alloc (.cells #[] 119)).alloc (.cells (rgZ 0 0 0 0 0 0 0 eT) 61)).heap.size := by simp
  go_enter Tryz.func129, Tryz.ntmps129
  go_upto_region 1 with fail
  have e0 : (w.alloc (.cells #[] 119)).alloc (.cells #[.int .i64 0, .int .i64 0, .int .i64 0, .int .u64 0, .int .u64 0, .int .u64 0, .int .u64 0, .int .i64 0, .int .i64 0, .int .i64 0, .int .i64 0, .string ⟨#[]⟩] 61) = (w.alloc (.cells #[] 119)).alloc (.cells (rgZ 0 0 0 0 0 0 0 eT) 61) := rfl
  try rw [e0]
  clear e0
  generalize (w.alloc (.cells #[] 119)).alloc (.cells (rgZ 0 0 0 0 0 0 0 eT) 61) = w1 at *
  generalize hBB : w.heap.size + 1 = BB at HR
  have hBB2 : w.heap.size ≤ BB := by omega
  generalize bt s a = b at *
  by_cases h1 : b = 91
  · have q : ((b : Int) == 91) = true := by rw [beq_iff_eq]; omega
    obtain rfl : Y = YB := by rw [HY.out, if_pos h1]
    obtain rfl : l = lB := by rw [HL.out, if_pos h1]
    clear HY HL HE1 h1
    obtain ⟨⟨k, p, e, t, n, m⟩, er, pl⟩ := Y
    go_wp2_with fail
    refine (HB1.out _).mono ?_
    rintro en w2 ⟨rfl, hb⟩
    replace HR := Lib.hid (HR.out.below hb (Blk.lt HR.out))
    replace HB := Lib.hid (HB.out.trans (hb.mono (by omega)))
    replace hz := Nat.le_trans hz hb.size
    clear hb HB1
    go_wp2_with ((with_reducible refine wpList_store_st (o := ⟨none, .store 61 _ _, _, _, _, _⟩) rfl 61 _ _ rfl BB rfl rfl (run_storeAt_row _ BB 61 61 (rgZ 0 0 0 0 0 0 0 eT) (rgI k p e t n m er pl l) ?_ ?_ ?_ ?_) ?_); exact HR.out; exact infoRg; rfl; exact rg_one _ _ _ _ _ _ _ _ _)
    exact bodyPost_ret (v := .agg (rgI k p e t n m er pl l)) (results_cell_row rfl _ _ BB 61 (rgI k p e t n m er pl l) (0, 0) _ rfl (Blk.setRow HR.out) Tryz.underlying61 rfl infoRg) rfl ⟨rfl, below_row HB.out hBB2 _⟩
  have q : ((b : Int) == 91) = false := by rw [beq_eq_false_iff_ne]; omega
  by_cases h2 : b = 92
  · have q2 : ((b : Int) == 92) = true := by rw [beq_iff_eq]; omega
    obtain rfl : Y = YS := by rw [HY.out, if_neg h1, if_pos h2]
    obtain rfl : l = lS := by rw [HL.out, if_neg h1, if_pos h2]
    clear HY HL HB1 h1 h2
    obtain ⟨⟨k, p, e, t, n, m⟩, er, pl⟩ := Y
    go_wp2_with fail
    refine (HE1.out _).mono ?_
    rintro en w2 ⟨rfl, hb⟩
    replace HR := Lib.hid (HR.out.below hb (Blk.lt HR.out))
    replace HB := Lib.hid (HB.out.trans (hb.mono (by omega)))
    replace hz := Nat.le_trans hz hb.size
    clear hb HE1
    go_wp2_with ((with_reducible refine wpList_store_st (o := ⟨none, .store 61 _ _, _, _, _, _⟩) rfl 61 _ _ rfl BB rfl rfl (run_storeAt_row _ BB 61 61 (rgZ 0 0 0 0 0 0 0 eT) (rgI k p e t n m er pl l) ?_ ?_ ?_ ?_) ?_); exact HR.out; exact infoRg; rfl; exact rg_one _ _ _ _ _ _ _ _ _)
    exact bodyPost_ret (v := .agg (rgI k p e t n m er pl l)) (results_cell_row rfl _ _ BB 61 (rgI k p e t n m er pl l) (0, 0) _ rfl (Blk.setRow HR.out) Tryz.underlying61 rfl infoRg) rfl ⟨rfl, below_row HB.out hBB2 _⟩
  have q2 : ((b : Int) == 92) = false := by rw [beq_eq_false_iff_ne]; omega
  obtain rfl : l = eT := by rw [HL.out, if_neg h1, if_neg h2]
  by_cases h3 : b = 46
  · have q3 : ((b : Int) == 46) = true := by rw [beq_iff_eq]; omega
    obtain rfl : Y = (oneW (range 0 255) a (a + 1), 0, 0) := by rw [HY.out, if_neg h1, if_neg h2, if_pos h3]
    have hAN := cAny_calls
    rw [anyS] at hAN
    have HAN := Lib.hid hAN
    clear hAN
    generalize hT : range 0 255 = t at *
    have HTT := Lib.hid hT
    clear hT
    have HO := Lib.hid (fun w => oneOf5_calls t a ((a : Int) + 1) w)
    clear HY HL HB1 HE1 h1 h2 h3
    go_wp2_with fail
    refine (HAN.out _).mono ?_
    rintro en w2 ⟨rfl, hb⟩
    replace HR := Lib.hid (HR.out.below hb (Blk.lt HR.out))
    replace HB := Lib.hid (HB.out.trans (hb.mono (by omega)))
    replace hz := Nat.le_trans hz hb.size
    clear hb HAN
    go_wp2_with fail
    refine (HO.out _).mono ?_
    rintro en w3 ⟨rfl, hb⟩
    replace HR := Lib.hid (HR.out.below hb (Blk.lt HR.out))
    replace HB := Lib.hid (HB.out.trans (hb.mono (by omega)))
    replace hz := Nat.le_trans hz hb.size
    clear hb HO
    go_wp2_with ((with_reducible refine wpList_store_st (o := ⟨none, .store 61 _ _, _, _, _, _⟩) rfl 61 _ _ rfl BB rfl rfl (run_storeAt_row _ BB 61 61 (rgZ 0 0 0 0 0 0 0 eT) (rgI 1 a ((a : Int) + 1) t 0 0 0 0 eT) ?_ ?_ ?_ ?_) ?_); exact HR.out; exact infoRg; rfl; exact rg_one _ _ _ _ _ _ _ _ _)
    exact bodyPost_ret (v := .agg (rgI 1 a ((a : Int) + 1) t 0 0 0 0 eT)) (results_cell_row rfl _ _ BB 61 (rgI 1 a ((a : Int) + 1) t 0 0 0 0 eT) (0, 0) _ rfl (Blk.setRow HR.out) Tryz.underlying61 rfl infoRg) rfl ⟨by rw [rgA_one, HTT.out], below_row HB.out hBB2 _⟩
  have q3 : ((b : Int) == 46) = false := by rw [beq_eq_false_iff_ne]; omega
  obtain rfl : Y = (oneW (range b b) a (a + 1), 0, 0) := by rw [HY.out, if_neg h1, if_neg h2, if_neg h3]
  have HWT := Lib.hid (fun W t => dWith_calls W t b hl0)
  generalize hT : range b b = t at *
  have HTT := Lib.hid hT
  clear hT
  have HO := Lib.hid (fun w => oneOf5_calls t a ((a : Int) + 1) w)
  clear HY HL HB1 HE1 h1 h2 h3
  go_wp2_with fail
  replace HR := Lib.hid (HR.out.alloc (.cells #[.int .u8 b] 5))
  replace HB := Lib.hid (HB.out.alloc (by omega) (.cells #[.int .u8 b] 5))
  have hz3 : w.heap.size + 2 ≤ (w1.alloc (.cells #[.int .u8 b] 5)).heap.size := by simp; omega
  clear hz
  have hz := hz3
  clear hz3
  refine Calls.mono (HWT.out w1 _) ?_
  rintro en w4 ⟨rfl, hb⟩
  replace HR := Lib.hid (HR.out.below hb (Blk.lt HR.out))
  replace HB := Lib.hid (HB.out.trans (hb.mono (by omega)))
  replace hz := Nat.le_trans hz hb.size
  clear hb HWT
  go_wp2_with fail
  refine (HO.out _).mono ?_
  rintro en w5 ⟨rfl, hb⟩
  replace HR := Lib.hid (HR.out.below hb (Blk.lt HR.out))
  replace HB := Lib.hid (HB.out.trans (hb.mono (by omega)))
  replace hz := Nat.le_trans hz hb.size
  clear hb HO
  go_wp2_with ((with_reducible refine wpList_store_st (o := ⟨none, .store 61 _ _, _, _, _, _⟩) rfl 61 _ _ rfl BB rfl rfl (run_storeAt_row _ BB 61 61 (rgZ 0 0 0 0 0 0 0 eT) (rgI 1 a ((a : Int) + 1) t 0 0 0 0 eT) ?_ ?_ ?_ ?_) ?_); exact HR.out; exact infoRg; rfl; exact rg_one _ _ _ _ _ _ _ _ _)
  exact bodyPost_ret (v := .agg (rgI 1 a ((a : Int) + 1) t 0 0 0 0 eT)) (results_cell_row rfl _ _ BB 61 (rgI 1 a ((a : Int) + 1) t 0 0 0 0 eT) (0, 0) _ rfl (Blk.setRow HR.out) Tryz.underlying61 rfl infoRg) rfl ⟨by rw [rgA_one, HTT.out], below_row HB.out hBB2 _⟩
end Go.Proofs.YtldaaelmifbbhaaGreat

/- The developers' words: all kinds; the word at a place, whatever kind it is of. -/
namespace Go.Proofs.YtldaaelmifbbhaaGreat
open Go.RowKit Go.Shelf BS

@[reducible] def kdV (T : TypeId) : Value := .iface T (.agg #[])
@[reducible] def kdA : Array Value := #[.iface 115 (.agg #[]), .iface 116 (.agg #[]), .iface 117 (.agg #[]), .iface 118 (.agg #[]), .iface 119 (.agg #[])]
@[reducible] def kdZ : Array Value := #[.nilIface, .nilIface, .nilIface, .nilIface, .nilIface]
theorem infoKd : (Tryz.prog.info? 96).map (·.size) = some 5 := by kernel_rfl
set_option maxRecDepth 100000 in
set_option maxHeartbeats 1000000 in
theorem kinds_calls (w : World) : Calls Tryz.prog 45 #[] w fun en w' => en = .returned (.agg kdA) ∧ Below w.heap.size w w' := by
  go_enter Tryz.func45, Tryz.ntmps45
  go_wp2
  have hR := Blk.new w kdA 96
  have hB : Below w.heap.size w (w.alloc (.cells kdA 96)) := by go_grown
  exact bodyPost_ret (v := .agg kdA) (results_cell_row rfl _ _ w.heap.size 96 kdA (0, 0) _ rfl hR Tryz.underlying96 rfl infoKd) rfl ⟨rfl, hB⟩

/-- May a word of kind j begin with byte b. -/
def begK (j b : Nat) : Bool := if j = 0 then b == 40 else if j = 1 then b == 41 else if j = 2 then b == 124 else if j = 3 then [42, 43, 63, 123].contains b else b != 94 && b != 36
/-- What lacks at a place. -/
def lackA (s : ByteArray) (a : Nat) : ByteArray :=
  if bt s a = 42 ∨ bt s a = 43 ∨ bt s a = 63 ∨ bt s a = 123 then ofT (readD4 s a).lack else oneL s a
def lackG5 (s : ByteArray) (at' : Int) : ByteArray := if at' < 0 ∨ (s.size : Int) ≤ at' then eT else lackA s at'.toNat
theorem contains4 (b : Nat) : ([42, 43, 63, 123].contains b) = true ↔ (b = 42 ∨ b = 43 ∨ b = 63 ∨ b = 123) := by simp
/-- Kind j's reading at a place. -/
def readK (s : ByteArray) (a j : Nat) : WN × Nat × Nat :=
  if j = 0 then (⟨2, a, a + 1, 0, 0, 0⟩, 0, 0) else if j = 1 then (⟨3, a, a + 1, 0, 0, 0⟩, 0, 0) else if j = 2 then (⟨4, a, a + 1, 0, 0, 0⟩, 0, 0) else if j = 3 then cntW s a else oneR s a
def lackK (s : ByteArray) (a j : Nat) : ByteArray := if j = 3 then ofT (readD4 s a).lack else if j = 4 then oneL s a else eT
theorem next_kind (s : ByteArray) (a j : Nat) (hj : j < 5) (hb : begK j (bt s a) = true) (hno : ∀ i, i < j → begK i (bt s a) = false) : nextA s a = readK s a j ∧ lackA s a = lackK s a j := by
  have n0 := hno 0; have n1 := hno 1; have n2 := hno 2; have n3 := hno 3
  clear hno
  have c4 := contains4 (bt s a)
  obtain rfl | rfl | rfl | rfl | rfl : j = 0 ∨ j = 1 ∨ j = 2 ∨ j = 3 ∨ j = 4 := by omega
  · have e : bt s a = 40 := by simpa [begK] using hb
    constructor
    · unfold nextA readK
      rw [if_pos e, if_pos rfl]
    · unfold lackA lackK oneL
      rw [if_neg (by omega), if_neg (by omega), if_neg (by omega), if_neg (by omega), if_neg (by omega)]
  · have e : bt s a = 41 := by simpa [begK] using hb
    constructor
    · unfold nextA readK
      rw [if_neg (by omega), if_pos e, if_neg (by omega), if_pos rfl]
    · unfold lackA lackK oneL
      rw [if_neg (by omega), if_neg (by omega), if_neg (by omega), if_neg (by omega), if_neg (by omega)]
  · have e : bt s a = 124 := by simpa [begK] using hb
    constructor
    · unfold nextA readK
      rw [if_neg (by omega), if_neg (by omega), if_pos e, if_neg (by omega), if_neg (by omega), if_pos rfl]
    · unfold lackA lackK oneL
      rw [if_neg (by omega), if_neg (by omega), if_neg (by omega), if_neg (by omega), if_neg (by omega)]
  · have e : [42, 43, 63, 123].contains (bt s a) = true := by simpa [begK] using hb
    have e2 := c4.1 e
    constructor
    · unfold nextA readK
      rw [if_neg (by omega), if_neg (by omega), if_neg (by omega), if_pos e2, if_neg (by omega), if_neg (by omega), if_neg (by omega), if_pos rfl]
    · unfold lackA lackK
      rw [if_pos e2, if_pos rfl]
  · have e : bt s a ≠ 94 ∧ bt s a ≠ 36 := by simpa [begK] using hb
    have e0 : bt s a ≠ 40 := by simpa [begK] using n0 (by omega)
    have e1 : bt s a ≠ 41 := by simpa [begK] using n1 (by omega)
    have e2 : bt s a ≠ 124 := by simpa [begK] using n2 (by omega)
    have e3 : ¬ (bt s a = 42 ∨ bt s a = 43 ∨ bt s a = 63 ∨ bt s a = 123) := fun h => by
      have h1 := c4.2 h
      have h2 : [42, 43, 63, 123].contains (bt s a) = false := by simpa [begK] using n3 (by omega)
      rw [h1] at h2; cases h2
    constructor
    · rw [show readK s a 4 = oneR s a from rfl]
      unfold nextA oneR
      rw [if_neg e0, if_neg e1, if_neg e2, if_neg e3]
      by_cases h1 : bt s a = 91
      · rw [if_pos h1, if_pos h1]
      rw [if_neg h1, if_neg h1]
      by_cases h2 : bt s a = 46
      · rw [if_pos h2, if_neg (show ¬ bt s a = 92 by omega), if_pos h2]
      rw [if_neg h2, if_neg (show ¬ (bt s a = 94 ∨ bt s a = 36) by omega)]
      by_cases h3 : bt s a = 92
      · rw [if_pos h3, if_pos h3]
      · rw [if_neg h3, if_neg h3, if_neg h2]
    · rw [show lackK s a 4 = oneL s a from rfl]
      unfold lackA
      rw [if_neg e3]
theorem next_none (s : ByteArray) (a : Nat) (hno : ∀ i, i < 5 → begK i (bt s a) = false) : nextA s a = (zWN, 3, a + 1) ∧ lackA s a = eT := by
  have n4 : bt s a = 94 ∨ bt s a = 36 := by
    have := hno 4 (by omega)
    simp only [begK] at this
    simp at this
    omega
  constructor
  · unfold nextA
    rw [if_neg (by omega), if_neg (by omega), if_neg (by omega), if_neg (by omega), if_neg (by omega), if_neg (by omega), if_pos n4]
  · unfold lackA oneL
    rw [if_neg (by omega), if_neg (by omega), if_neg (by omega)]
/-- What lacks is what the document asks. -/
theorem lackG5_ok (s : ByteArray) (at' : Int) : LackW s at' (lackG5 s at') := by
  by_cases h : at' < 0 ∨ (s.size : Int) ≤ at'
  · unfold lackG5
    rw [if_pos h]
    exact lackW_far s at' h
  · obtain ⟨a, rfl⟩ := Int.eq_ofNat_of_zero_le (show 0 ≤ at' by omega)
    have ha : a < s.size := by omega
    unfold lackG5
    rw [if_neg h]
    show LackW s a (lackA s a)
    unfold lackA
    by_cases h1 : bt s a = 42 ∨ bt s a = 43 ∨ bt s a = 63 ∨ bt s a = 123
    · rw [if_pos h1]
      exact lackW_cnt s a ha h1
    rw [if_neg h1]
    unfold oneL
    by_cases h2 : bt s a = 91
    · rw [if_pos h2]
      exact lackW_brk s a ha h2
    rw [if_neg h2]
    have hno : ¬ (bt s a = 92 ∧ a + 1 = s.size) → LackW s a eT := fun h3 => by
      refine lackW_none s a fun h4 => ?_
      rcases next_err2 s a ha h4 with h | h | h
      · exact h2 h
      · exact h1 (by omega)
      · exact h3 h
    by_cases h3 : bt s a = 92
    · rw [if_pos h3]
      unfold lackS
      by_cases h4 : s.size ≤ a + 1
      · rw [if_pos h4]
        exact lackW_slash s a 46 (by omega) h3 (by decide) (by decide)
      · rw [if_neg h4]
        exact hno (by omega)
    · rw [if_neg h3]
      exact hno (by omega)

/-! ### The walk -/
theorem m_open_begins (n : Nat) (w : World) : (method (n + 1) 115 (.agg #[]) "gimlet/lex.begins").run Tryz.prog w = .ok (97, .agg #[]) w := by kernel_rfl
theorem m_open_read (n : Nat) (w : World) : (method (n + 1) 115 (.agg #[]) "gimlet/lex.read").run Tryz.prog w = .ok (100, .agg #[]) w := by kernel_rfl
theorem ix_open (w : World) : (Instr.index 96 (.agg kdA) (.int .i64 0)).run Tryz.prog w = .ok (.iface 115 (.agg #[])) w := by kernel_rfl
theorem n_open_begins (n : Nat) (w : World) : (nilAhead (n + 1) 115 (.agg #[]) "gimlet/lex.begins").run Tryz.prog w = .ok (some false) w := by kernel_rfl
theorem m_shut_begins (n : Nat) (w : World) : (method (n + 1) 116 (.agg #[]) "gimlet/lex.begins").run Tryz.prog w = .ok (102, .agg #[]) w := by kernel_rfl
theorem m_shut_read (n : Nat) (w : World) : (method (n + 1) 116 (.agg #[]) "gimlet/lex.read").run Tryz.prog w = .ok (105, .agg #[]) w := by kernel_rfl
theorem ix_shut (w : World) : (Instr.index 96 (.agg kdA) (.int .i64 1)).run Tryz.prog w = .ok (.iface 116 (.agg #[])) w := by kernel_rfl
theorem n_shut_begins (n : Nat) (w : World) : (nilAhead (n + 1) 116 (.agg #[]) "gimlet/lex.begins").run Tryz.prog w = .ok (some false) w := by kernel_rfl
theorem m_bar_begins (n : Nat) (w : World) : (method (n + 1) 117 (.agg #[]) "gimlet/lex.begins").run Tryz.prog w = .ok (106, .agg #[]) w := by kernel_rfl
theorem m_bar_read (n : Nat) (w : World) : (method (n + 1) 117 (.agg #[]) "gimlet/lex.read").run Tryz.prog w = .ok (109, .agg #[]) w := by kernel_rfl
theorem ix_bar (w : World) : (Instr.index 96 (.agg kdA) (.int .i64 2)).run Tryz.prog w = .ok (.iface 117 (.agg #[])) w := by kernel_rfl
theorem n_bar_begins (n : Nat) (w : World) : (nilAhead (n + 1) 117 (.agg #[]) "gimlet/lex.begins").run Tryz.prog w = .ok (some false) w := by kernel_rfl
theorem m_rep_begins (n : Nat) (w : World) : (method (n + 1) 118 (.agg #[]) "gimlet/lex.begins").run Tryz.prog w = .ok (110, .agg #[]) w := by kernel_rfl
theorem m_rep_read (n : Nat) (w : World) : (method (n + 1) 118 (.agg #[]) "gimlet/lex.read").run Tryz.prog w = .ok (113, .agg #[]) w := by kernel_rfl
theorem ix_rep (w : World) : (Instr.index 96 (.agg kdA) (.int .i64 3)).run Tryz.prog w = .ok (.iface 118 (.agg #[])) w := by kernel_rfl
theorem n_rep_begins (n : Nat) (w : World) : (nilAhead (n + 1) 118 (.agg #[]) "gimlet/lex.begins").run Tryz.prog w = .ok (some false) w := by kernel_rfl
theorem m_one_begins (n : Nat) (w : World) : (method (n + 1) 119 (.agg #[]) "gimlet/lex.begins").run Tryz.prog w = .ok (126, .agg #[]) w := by kernel_rfl
theorem m_one_read (n : Nat) (w : World) : (method (n + 1) 119 (.agg #[]) "gimlet/lex.read").run Tryz.prog w = .ok (129, .agg #[]) w := by kernel_rfl
theorem ix_one (w : World) : (Instr.index 96 (.agg kdA) (.int .i64 4)).run Tryz.prog w = .ok (.iface 119 (.agg #[])) w := by kernel_rfl
theorem n_one_begins (n : Nat) (w : World) : (nilAhead (n + 1) 119 (.agg #[]) "gimlet/lex.begins").run Tryz.prog w = .ok (some false) w := by kernel_rfl

/-- What holds while the kinds are asked. -/
def SR5 (w W : World) : Prop := (Blk W w.heap.size (rgZ 0 0 0 0 0 0 0 eT) 61 ∧ w.heap.size + 1 ≤ W.heap.size) ∧ Below w.heap.size w W
theorem SR5.drewS {w W : World} (h : SR5 w W) : SR5 w W.drew := ⟨⟨h.1.1, h.1.2⟩, h.2.drew⟩
theorem SR5.go {w W W' : World} (h : SR5 w W) (hb : Below W.heap.size W W') : SR5 w W' := ⟨⟨h.1.1.below hb h.1.1.lt, Nat.le_trans h.1.2 hb.size⟩, h.2.trans (hb.mono (by have := h.1.2; omega))⟩
set_option maxRecDepth 100000 in
set_option maxHeartbeats 8000000 in
theorem read5_in (s : ByteArray) (hs : s.size ≤ 1000000) (a : Nat) (ha : a < s.size) (w : World) : Calls Tryz.prog 26 #[.string s, .int .i64 a] w fun en w' => en = .returned (.agg (rgA (nextA s a) (lackA s a))) ∧ Below w.heap.size w w' := by
  have x1 : IntKind.i64.wrap ((a : Int) + 1) = (a : Int) + 1 := IntWalk.i64_in _ (by omega)
  have q0 : decide ((a : Int) < 0) = false := by rw [decide_eq_false_iff_not]; omega
  have q1 : decide ((s.size : Int) ≤ (a : Int)) = false := by rw [decide_eq_false_iff_not]; omega
  have h0 : s[a].toNat = bt s a := (bt_eq s a ha).symm
  have hl0 := bt_lt s a
  have HK := Lib.hid kinds_calls
  have HEND := Lib.hid (next_none s a)
  have HR := Lib.hid (Blk.new w (rgZ 0 0 0 0 0 0 0 eT) 61)
  have HB : Hid (Below w.heap.size w (w.alloc (.cells (rgZ 0 0 0 0 0 0 0 eT) 61))) := Lib.hid (by go_grown)
  have hz : w.heap.size + 1 ≤ (w.alloc (.cells (rgZ 0 0 0 0 0 0 0 eT) 61)).heap.size := by simp
  go_enter Tryz.func26, Tryz.ntmps26
  go_upto_region 1 with fail
  have e0 : w.alloc (.cells #[.int .i64 0, .int .i64 0, .int .i64 0, .int .u64 0, .int .u64 0, .int .u64 0, .int .u64 0, .int .i64 0, .int .i64 0, .int .i64 0, .int .i64 0, .string ⟨#[]⟩] 61) = w.alloc (.cells (rgZ 0 0 0 0 0 0 0 eT) 61) := rfl
  try rw [e0]
  clear e0
  generalize w.alloc (.cells (rgZ 0 0 0 0 0 0 0 eT) 61) = w1 at *
  go_wp2_with fail
  refine (HK.out _).mono ?_
  rintro en w2 ⟨rfl, hb⟩
  replace HR := Lib.hid (HR.out.below hb (Blk.lt HR.out))
  replace HB := Lib.hid (HB.out.trans (hb.mono (by omega)))
  replace hz := Nat.le_trans hz hb.size
  clear hb HK
  have HS := Lib.hid (show SR5 w w2 from ⟨⟨HR.out, hz⟩, HB.out⟩)
  clear HR HB hz
  go_wp2_with fail
  go_loopw [17] (fun i wr => ∃ k : Nat, k ≤ 5 ∧ i = .int .i64 k ∧ (∀ j, j < k → begK j (bt s a) = false) ∧ SR5 w wr) (fun i _ => 5 - (intOf i).toNat)
  case atStart => exact ⟨0, by omega, rfl, fun j hj => by omega, HS.out⟩
  case round =>
  clear HS
  obtain ⟨k, hk, rfl, hno, hS0⟩ := hrel
  obtain rfl | rfl | rfl | rfl | rfl | rfl : k = 0 ∨ k = 1 ∨ k = 2 ∨ k = 3 ∨ k = 4 ∨ k = 5 := by omega
  · -- open
    have hbg : ∀ w, Calls Tryz.prog 97 #[.agg #[], .int .u8 (bt s a)] w fun en w' => en = .returned (.bool (begK 0 (bt s a))) ∧ Below w.heap.size w w' := openBegins_calls (bt s a)
    have HRD : Hid (∀ w, Calls Tryz.prog 100 #[.agg #[], .string s, .int .i64 a] w fun en w' => en = .returned (.agg (rgA (readK s a 0) (lackK s a 0))) ∧ Below w.heap.size w w') := Lib.hid (openRead_calls s hs a ha)
    have HG := Lib.hid (next_kind s a 0 (by omega))
    have m1 := m_open_begins
    have m2 := m_open_read
    have m3 := n_open_begins
    have m4 := ix_open
    generalize bt s a = b at *
    generalize readK s a 0 = Z at *
    generalize lackK s a 0 = z at *
    generalize hx : begK 0 b = x at *
    have HX := Lib.hid hx
    have HNO := Lib.hid hno
    clear hx hno
    go_upto_region 6 with fail
    refine region_steps (S := SR5 w) (by kernel_rfl) (SR5.drewS hS0) ?_
    clear hS0
    simp only [List.size_toArray, List.length_cons, List.length_nil, Nat.reduceAdd, Array.replicate_succ, Array.replicate_zero, List.push_toArray, List.nil_append, List.cons_append]
    refine AnyS.stepE (i := 0) (d := some 20) rfl rfl (by kernel_rfl) (by kernel_rfl) (by kernel_rfl) ?_
    apply Exists.intro
    apply And.intro
    · apply StepsIf.yield
      · kernel_rfl
      intro w' hS
      clear hS; go_simp
      rfl
    intro a' ha'
    simp only [Act.put, List.setIfInBounds_toArray, List.set_cons_zero, List.set_cons_succ] at ha'
    subst ha'
    refine AnyS.stepE (i := 1) (d := some 21) rfl rfl (by kernel_rfl) (by kernel_rfl) (by kernel_rfl) ?_
    apply Exists.intro
    apply And.intro
    · apply StepsIf.yield
      · kernel_rfl
      intro w' hS
      clear hS; go_simp
      rfl
    intro a' ha'
    simp only [Act.put, List.setIfInBounds_toArray, List.set_cons_zero, List.set_cons_succ] at ha'
    subst ha'
    refine AnyS.stepE (i := 2) (d := some 22) rfl rfl (by kernel_rfl) (by kernel_rfl) (by kernel_rfl) ?_
    apply Exists.intro
    apply And.intro
    · apply StepsIf.yield
      · kernel_rfl
      intro w' hS
      clear hS; go_simp
      rfl
    intro a' ha'
    simp only [Act.put, List.setIfInBounds_toArray, List.set_cons_zero, List.set_cons_succ] at ha'
    subst ha'
    refine AnyS.stepE (i := 3) (d := some 23) rfl rfl (by kernel_rfl) (by kernel_rfl) (by kernel_rfl) ?_
    apply Exists.intro
    apply And.intro
    · apply StepsIf.yield
      · kernel_rfl
      intro w' hS
      clear hS; go_simp
      rfl
    intro a' ha'
    simp only [Act.put, List.setIfInBounds_toArray, List.set_cons_zero, List.set_cons_succ] at ha'
    subst ha'
    refine AnyS.stepE (i := 4) (d := some 24) rfl rfl (by kernel_rfl) (by kernel_rfl) (by kernel_rfl) ?_
    apply Exists.intro
    apply And.intro
    · apply StepsIf.yield
      · kernel_rfl
      intro w' hS
      clear hS; go_simp
      rfl
    intro a' ha'
    simp only [Act.put, List.setIfInBounds_toArray, List.set_cons_zero, List.set_cons_succ] at ha'
    subst ha'
    refine AnyS.stepE (i := 5) (d := some 25) rfl rfl (by kernel_rfl) (by kernel_rfl) (by kernel_rfl) ?_
    apply Exists.intro
    apply And.intro
    · apply StepsIf.yield
      · kernel_rfl
      intro w' hS
      clear hS; go_simp
      rfl
    intro a' ha'
    simp only [Act.put, List.setIfInBounds_toArray, List.set_cons_zero, List.set_cons_succ] at ha'
    subst ha'
    refine AnyS.stepE (i := 6) (d := some 26) rfl rfl (by kernel_rfl) (by kernel_rfl) (by kernel_rfl) ?_
    apply Exists.intro
    apply And.intro
    · apply StepsIf.yield
      · kernel_rfl
      intro w' hS
      clear hS; go_simp
      rfl
    intro a' ha'
    simp only [Act.put, List.setIfInBounds_toArray, List.set_cons_zero, List.set_cons_succ] at ha'
    subst ha'
    refine AnyS.next (i := 7) (d := some 27) (v := .bool x) rfl rfl (by kernel_rfl) (by kernel_rfl) (by kernel_rfl) (StepsIf.call (by kernel_rfl) (fun w' hS => by clear hS; go_simp) (fun w' hS => (hbg w').mono fun e w'' h => ⟨h.1, hS.go h.2⟩)) ?_
    intro a' ha'
    simp only [Act.put, List.setIfInBounds_toArray, List.set_cons_zero, List.set_cons_succ] at ha'
    subst ha'
    refine AnyS.done (by kernel_rfl) ?_ _
    intro w2 hS2
    clear hbg m1 m3 m4
    cases x with
    | true =>
      have hN := Lib.hid (HG.out rfl HNO.out).1
      have hL := Lib.hid (HG.out rfl HNO.out).2
      clear HG HX HNO HEND
      obtain ⟨⟨zk, zp, ze, zt, zn, zm⟩, er, pl⟩ := Z
      go_wp2_with fail
      refine (HRD.out _).mono ?_
      rintro en w3 ⟨rfl, hb⟩
      have hS3 := hS2.go hb
      have HR := Lib.hid hS3.1.1
      have hB3 := hS3.2
      clear hb HRD hS2 hS3
      go_wp2_with ((with_reducible refine wpList_store_st (o := ⟨none, .store 61 _ _, _, _, _, _⟩) rfl 61 _ _ rfl w.heap.size rfl rfl (run_storeAt_row _ w.heap.size 61 61 (rgZ 0 0 0 0 0 0 0 eT) (rgI zk zp ze zt zn zm er pl z) ?_ ?_ ?_ ?_) ?_); exact HR.out; exact infoRg; rfl; exact rg_one _ _ _ _ _ _ _ _ _)
      exact bodyPost_ret (v := .agg (rgI zk zp ze zt zn zm er pl z)) (results_cell_row rfl _ _ w.heap.size 61 (rgI zk zp ze zt zn zm er pl z) (0, 0) _ rfl (Blk.setRow HR.out) Tryz.underlying61 rfl infoRg) rfl ⟨by rw [hN.out, hL.out], below_row hB3 (Nat.le_refl _) _⟩
    | false =>
      clear HG HEND HRD
      go_wp2_with fail
      go_roundw
      case rel =>
        refine ⟨1, by omega, by simp, fun i hi => ?_, hS2⟩
        by_cases hij : i = 0
        · subst hij; exact HX.out
        · exact HNO.out i (by omega)
      case measure => simp [intOf]
  · -- shut
    have hbg : ∀ w, Calls Tryz.prog 102 #[.agg #[], .int .u8 (bt s a)] w fun en w' => en = .returned (.bool (begK 1 (bt s a))) ∧ Below w.heap.size w w' := shutBegins_calls (bt s a)
    have HRD : Hid (∀ w, Calls Tryz.prog 105 #[.agg #[], .string s, .int .i64 a] w fun en w' => en = .returned (.agg (rgA (readK s a 1) (lackK s a 1))) ∧ Below w.heap.size w w') := Lib.hid (shutRead_calls s hs a ha)
    have HG := Lib.hid (next_kind s a 1 (by omega))
    have m1 := m_shut_begins
    have m2 := m_shut_read
    have m3 := n_shut_begins
    have m4 := ix_shut
    generalize bt s a = b at *
    generalize readK s a 1 = Z at *
    generalize lackK s a 1 = z at *
    generalize hx : begK 1 b = x at *
    have HX := Lib.hid hx
    have HNO := Lib.hid hno
    clear hx hno
    go_upto_region 6 with fail
    refine region_steps (S := SR5 w) (by kernel_rfl) (SR5.drewS hS0) ?_
    clear hS0
    simp only [List.size_toArray, List.length_cons, List.length_nil, Nat.reduceAdd, Array.replicate_succ, Array.replicate_zero, List.push_toArray, List.nil_append, List.cons_append]
    refine AnyS.stepE (i := 0) (d := some 20) rfl rfl (by kernel_rfl) (by kernel_rfl) (by kernel_rfl) ?_
    apply Exists.intro
    apply And.intro
    · apply StepsIf.yield
      · kernel_rfl
      intro w' hS
      clear hS; go_simp
      rfl
    intro a' ha'
    simp only [Act.put, List.setIfInBounds_toArray, List.set_cons_zero, List.set_cons_succ] at ha'
    subst ha'
    refine AnyS.stepE (i := 1) (d := some 21) rfl rfl (by kernel_rfl) (by kernel_rfl) (by kernel_rfl) ?_
    apply Exists.intro
    apply And.intro
    · apply StepsIf.yield
      · kernel_rfl
      intro w' hS
      clear hS; go_simp
      rfl
    intro a' ha'
    simp only [Act.put, List.setIfInBounds_toArray, List.set_cons_zero, List.set_cons_succ] at ha'
    subst ha'
    refine AnyS.stepE (i := 2) (d := some 22) rfl rfl (by kernel_rfl) (by kernel_rfl) (by kernel_rfl) ?_
    apply Exists.intro
    apply And.intro
    · apply StepsIf.yield
      · kernel_rfl
      intro w' hS
      clear hS; go_simp
      rfl
    intro a' ha'
    simp only [Act.put, List.setIfInBounds_toArray, List.set_cons_zero, List.set_cons_succ] at ha'
    subst ha'
    refine AnyS.stepE (i := 3) (d := some 23) rfl rfl (by kernel_rfl) (by kernel_rfl) (by kernel_rfl) ?_
    apply Exists.intro
    apply And.intro
    · apply StepsIf.yield
      · kernel_rfl
      intro w' hS
      clear hS; go_simp
      rfl
    intro a' ha'
    simp only [Act.put, List.setIfInBounds_toArray, List.set_cons_zero, List.set_cons_succ] at ha'
    subst ha'
    refine AnyS.stepE (i := 4) (d := some 24) rfl rfl (by kernel_rfl) (by kernel_rfl) (by kernel_rfl) ?_
    apply Exists.intro
    apply And.intro
    · apply StepsIf.yield
      · kernel_rfl
      intro w' hS
      clear hS; go_simp
      rfl
    intro a' ha'
    simp only [Act.put, List.setIfInBounds_toArray, List.set_cons_zero, List.set_cons_succ] at ha'
    subst ha'
    refine AnyS.stepE (i := 5) (d := some 25) rfl rfl (by kernel_rfl) (by kernel_rfl) (by kernel_rfl) ?_
    apply Exists.intro
    apply And.intro
    · apply StepsIf.yield
      · kernel_rfl
      intro w' hS
      clear hS; go_simp
      rfl
    intro a' ha'
    simp only [Act.put, List.setIfInBounds_toArray, List.set_cons_zero, List.set_cons_succ] at ha'
    subst ha'
    refine AnyS.stepE (i := 6) (d := some 26) rfl rfl (by kernel_rfl) (by kernel_rfl) (by kernel_rfl) ?_
    apply Exists.intro
    apply And.intro
    · apply StepsIf.yield
      · kernel_rfl
      intro w' hS
      clear hS; go_simp
      rfl
    intro a' ha'
    simp only [Act.put, List.setIfInBounds_toArray, List.set_cons_zero, List.set_cons_succ] at ha'
    subst ha'
    refine AnyS.next (i := 7) (d := some 27) (v := .bool x) rfl rfl (by kernel_rfl) (by kernel_rfl) (by kernel_rfl) (StepsIf.call (by kernel_rfl) (fun w' hS => by clear hS; go_simp) (fun w' hS => (hbg w').mono fun e w'' h => ⟨h.1, hS.go h.2⟩)) ?_
    intro a' ha'
    simp only [Act.put, List.setIfInBounds_toArray, List.set_cons_zero, List.set_cons_succ] at ha'
    subst ha'
    refine AnyS.done (by kernel_rfl) ?_ _
    intro w2 hS2
    clear hbg m1 m3 m4
    cases x with
    | true =>
      have hN := Lib.hid (HG.out rfl HNO.out).1
      have hL := Lib.hid (HG.out rfl HNO.out).2
      clear HG HX HNO HEND
      obtain ⟨⟨zk, zp, ze, zt, zn, zm⟩, er, pl⟩ := Z
      go_wp2_with fail
      refine (HRD.out _).mono ?_
      rintro en w3 ⟨rfl, hb⟩
      have hS3 := hS2.go hb
      have HR := Lib.hid hS3.1.1
      have hB3 := hS3.2
      clear hb HRD hS2 hS3
      go_wp2_with ((with_reducible refine wpList_store_st (o := ⟨none, .store 61 _ _, _, _, _, _⟩) rfl 61 _ _ rfl w.heap.size rfl rfl (run_storeAt_row _ w.heap.size 61 61 (rgZ 0 0 0 0 0 0 0 eT) (rgI zk zp ze zt zn zm er pl z) ?_ ?_ ?_ ?_) ?_); exact HR.out; exact infoRg; rfl; exact rg_one _ _ _ _ _ _ _ _ _)
      exact bodyPost_ret (v := .agg (rgI zk zp ze zt zn zm er pl z)) (results_cell_row rfl _ _ w.heap.size 61 (rgI zk zp ze zt zn zm er pl z) (0, 0) _ rfl (Blk.setRow HR.out) Tryz.underlying61 rfl infoRg) rfl ⟨by rw [hN.out, hL.out], below_row hB3 (Nat.le_refl _) _⟩
    | false =>
      clear HG HEND HRD
      go_wp2_with fail
      go_roundw
      case rel =>
        refine ⟨2, by omega, by simp, fun i hi => ?_, hS2⟩
        by_cases hij : i = 1
        · subst hij; exact HX.out
        · exact HNO.out i (by omega)
      case measure => simp [intOf]
  · -- bar
    have hbg : ∀ w, Calls Tryz.prog 106 #[.agg #[], .int .u8 (bt s a)] w fun en w' => en = .returned (.bool (begK 2 (bt s a))) ∧ Below w.heap.size w w' := barBegins_calls (bt s a)
    have HRD : Hid (∀ w, Calls Tryz.prog 109 #[.agg #[], .string s, .int .i64 a] w fun en w' => en = .returned (.agg (rgA (readK s a 2) (lackK s a 2))) ∧ Below w.heap.size w w') := Lib.hid (barRead_calls s hs a ha)
    have HG := Lib.hid (next_kind s a 2 (by omega))
    have m1 := m_bar_begins
    have m2 := m_bar_read
    have m3 := n_bar_begins
    have m4 := ix_bar
    generalize bt s a = b at *
    generalize readK s a 2 = Z at *
    generalize lackK s a 2 = z at *
    generalize hx : begK 2 b = x at *
    have HX := Lib.hid hx
    have HNO := Lib.hid hno
    clear hx hno
    go_upto_region 6 with fail
    refine region_steps (S := SR5 w) (by kernel_rfl) (SR5.drewS hS0) ?_
    clear hS0
    simp only [List.size_toArray, List.length_cons, List.length_nil, Nat.reduceAdd, Array.replicate_succ, Array.replicate_zero, List.push_toArray, List.nil_append, List.cons_append]
    refine AnyS.stepE (i := 0) (d := some 20) rfl rfl (by kernel_rfl) (by kernel_rfl) (by kernel_rfl) ?_
    apply Exists.intro
    apply And.intro
    · apply StepsIf.yield
      · kernel_rfl
      intro w' hS
      clear hS; go_simp
      rfl
    intro a' ha'
    simp only [Act.put, List.setIfInBounds_toArray, List.set_cons_zero, List.set_cons_succ] at ha'
    subst ha'
    refine AnyS.stepE (i := 1) (d := some 21) rfl rfl (by kernel_rfl) (by kernel_rfl) (by kernel_rfl) ?_
    apply Exists.intro
    apply And.intro
    · apply StepsIf.yield
      · kernel_rfl
      intro w' hS
      clear hS; go_simp
      rfl
    intro a' ha'
    simp only [Act.put, List.setIfInBounds_toArray, List.set_cons_zero, List.set_cons_succ] at ha'
    subst ha'
    refine AnyS.stepE (i := 2) (d := some 22) rfl rfl (by kernel_rfl) (by kernel_rfl) (by kernel_rfl) ?_
    apply Exists.intro
    apply And.intro
    · apply StepsIf.yield
      · kernel_rfl
      intro w' hS
      clear hS; go_simp
      rfl
    intro a' ha'
    simp only [Act.put, List.setIfInBounds_toArray, List.set_cons_zero, List.set_cons_succ] at ha'
    subst ha'
    refine AnyS.stepE (i := 3) (d := some 23) rfl rfl (by kernel_rfl) (by kernel_rfl) (by kernel_rfl) ?_
    apply Exists.intro
    apply And.intro
    · apply StepsIf.yield
      · kernel_rfl
      intro w' hS
      clear hS; go_simp
      rfl
    intro a' ha'
    simp only [Act.put, List.setIfInBounds_toArray, List.set_cons_zero, List.set_cons_succ] at ha'
    subst ha'
    refine AnyS.stepE (i := 4) (d := some 24) rfl rfl (by kernel_rfl) (by kernel_rfl) (by kernel_rfl) ?_
    apply Exists.intro
    apply And.intro
    · apply StepsIf.yield
      · kernel_rfl
      intro w' hS
      clear hS; go_simp
      rfl
    intro a' ha'
    simp only [Act.put, List.setIfInBounds_toArray, List.set_cons_zero, List.set_cons_succ] at ha'
    subst ha'
    refine AnyS.stepE (i := 5) (d := some 25) rfl rfl (by kernel_rfl) (by kernel_rfl) (by kernel_rfl) ?_
    apply Exists.intro
    apply And.intro
    · apply StepsIf.yield
      · kernel_rfl
      intro w' hS
      clear hS; go_simp
      rfl
    intro a' ha'
    simp only [Act.put, List.setIfInBounds_toArray, List.set_cons_zero, List.set_cons_succ] at ha'
    subst ha'
    refine AnyS.stepE (i := 6) (d := some 26) rfl rfl (by kernel_rfl) (by kernel_rfl) (by kernel_rfl) ?_
    apply Exists.intro
    apply And.intro
    · apply StepsIf.yield
      · kernel_rfl
      intro w' hS
      clear hS; go_simp
      rfl
    intro a' ha'
    simp only [Act.put, List.setIfInBounds_toArray, List.set_cons_zero, List.set_cons_succ] at ha'
    subst ha'
    refine AnyS.next (i := 7) (d := some 27) (v := .bool x) rfl rfl (by kernel_rfl) (by kernel_rfl) (by kernel_rfl) (StepsIf.call (by kernel_rfl) (fun w' hS => by clear hS; go_simp) (fun w' hS => (hbg w').mono fun e w'' h => ⟨h.1, hS.go h.2⟩)) ?_
    intro a' ha'
    simp only [Act.put, List.setIfInBounds_toArray, List.set_cons_zero, List.set_cons_succ] at ha'
    subst ha'
    refine AnyS.done (by kernel_rfl) ?_ _
    intro w2 hS2
    clear hbg m1 m3 m4
    cases x with
    | true =>
      have hN := Lib.hid (HG.out rfl HNO.out).1
      have hL := Lib.hid (HG.out rfl HNO.out).2
      clear HG HX HNO HEND
      obtain ⟨⟨zk, zp, ze, zt, zn, zm⟩, er, pl⟩ := Z
      go_wp2_with fail
      refine (HRD.out _).mono ?_
      rintro en w3 ⟨rfl, hb⟩
      have hS3 := hS2.go hb
      have HR := Lib.hid hS3.1.1
      have hB3 := hS3.2
      clear hb HRD hS2 hS3
      go_wp2_with ((with_reducible refine wpList_store_st (o := ⟨none, .store 61 _ _, _, _, _, _⟩) rfl 61 _ _ rfl w.heap.size rfl rfl (run_storeAt_row _ w.heap.size 61 61 (rgZ 0 0 0 0 0 0 0 eT) (rgI zk zp ze zt zn zm er pl z) ?_ ?_ ?_ ?_) ?_); exact HR.out; exact infoRg; rfl; exact rg_one _ _ _ _ _ _ _ _ _)
      exact bodyPost_ret (v := .agg (rgI zk zp ze zt zn zm er pl z)) (results_cell_row rfl _ _ w.heap.size 61 (rgI zk zp ze zt zn zm er pl z) (0, 0) _ rfl (Blk.setRow HR.out) Tryz.underlying61 rfl infoRg) rfl ⟨by rw [hN.out, hL.out], below_row hB3 (Nat.le_refl _) _⟩
    | false =>
      clear HG HEND HRD
      go_wp2_with fail
      go_roundw
      case rel =>
        refine ⟨3, by omega, by simp, fun i hi => ?_, hS2⟩
        by_cases hij : i = 2
        · subst hij; exact HX.out
        · exact HNO.out i (by omega)
      case measure => simp [intOf]
  · -- rep
    have hbg : ∀ w, Calls Tryz.prog 110 #[.agg #[], .int .u8 (bt s a)] w fun en w' => en = .returned (.bool (begK 3 (bt s a))) ∧ Below w.heap.size w w' := repBegins_calls (bt s a) hl0
    have HRD : Hid (∀ w, Calls Tryz.prog 113 #[.agg #[], .string s, .int .i64 a] w fun en w' => en = .returned (.agg (rgA (readK s a 3) (lackK s a 3))) ∧ Below w.heap.size w w') := Lib.hid (repRead_calls s hs a)
    have HG := Lib.hid (next_kind s a 3 (by omega))
    have m1 := m_rep_begins
    have m2 := m_rep_read
    have m3 := n_rep_begins
    have m4 := ix_rep
    generalize bt s a = b at *
    generalize readK s a 3 = Z at *
    generalize lackK s a 3 = z at *
    generalize hx : begK 3 b = x at *
    have HX := Lib.hid hx
    have HNO := Lib.hid hno
    clear hx hno
    go_upto_region 6 with fail
    refine region_steps (S := SR5 w) (by kernel_rfl) (SR5.drewS hS0) ?_
    clear hS0
    simp only [List.size_toArray, List.length_cons, List.length_nil, Nat.reduceAdd, Array.replicate_succ, Array.replicate_zero, List.push_toArray, List.nil_append, List.cons_append]
    refine AnyS.stepE (i := 0) (d := some 20) rfl rfl (by kernel_rfl) (by kernel_rfl) (by kernel_rfl) ?_
    apply Exists.intro
    apply And.intro
    · apply StepsIf.yield
      · kernel_rfl
      intro w' hS
      clear hS; go_simp
      rfl
    intro a' ha'
    simp only [Act.put, List.setIfInBounds_toArray, List.set_cons_zero, List.set_cons_succ] at ha'
    subst ha'
    refine AnyS.stepE (i := 1) (d := some 21) rfl rfl (by kernel_rfl) (by kernel_rfl) (by kernel_rfl) ?_
    apply Exists.intro
    apply And.intro
    · apply StepsIf.yield
      · kernel_rfl
      intro w' hS
      clear hS; go_simp
      rfl
    intro a' ha'
    simp only [Act.put, List.setIfInBounds_toArray, List.set_cons_zero, List.set_cons_succ] at ha'
    subst ha'
    refine AnyS.stepE (i := 2) (d := some 22) rfl rfl (by kernel_rfl) (by kernel_rfl) (by kernel_rfl) ?_
    apply Exists.intro
    apply And.intro
    · apply StepsIf.yield
      · kernel_rfl
      intro w' hS
      clear hS; go_simp
      rfl
    intro a' ha'
    simp only [Act.put, List.setIfInBounds_toArray, List.set_cons_zero, List.set_cons_succ] at ha'
    subst ha'
    refine AnyS.stepE (i := 3) (d := some 23) rfl rfl (by kernel_rfl) (by kernel_rfl) (by kernel_rfl) ?_
    apply Exists.intro
    apply And.intro
    · apply StepsIf.yield
      · kernel_rfl
      intro w' hS
      clear hS; go_simp
      rfl
    intro a' ha'
    simp only [Act.put, List.setIfInBounds_toArray, List.set_cons_zero, List.set_cons_succ] at ha'
    subst ha'
    refine AnyS.stepE (i := 4) (d := some 24) rfl rfl (by kernel_rfl) (by kernel_rfl) (by kernel_rfl) ?_
    apply Exists.intro
    apply And.intro
    · apply StepsIf.yield
      · kernel_rfl
      intro w' hS
      clear hS; go_simp
      rfl
    intro a' ha'
    simp only [Act.put, List.setIfInBounds_toArray, List.set_cons_zero, List.set_cons_succ] at ha'
    subst ha'
    refine AnyS.stepE (i := 5) (d := some 25) rfl rfl (by kernel_rfl) (by kernel_rfl) (by kernel_rfl) ?_
    apply Exists.intro
    apply And.intro
    · apply StepsIf.yield
      · kernel_rfl
      intro w' hS
      clear hS; go_simp
      rfl
    intro a' ha'
    simp only [Act.put, List.setIfInBounds_toArray, List.set_cons_zero, List.set_cons_succ] at ha'
    subst ha'
    refine AnyS.stepE (i := 6) (d := some 26) rfl rfl (by kernel_rfl) (by kernel_rfl) (by kernel_rfl) ?_
    apply Exists.intro
    apply And.intro
    · apply StepsIf.yield
      · kernel_rfl
      intro w' hS
      clear hS; go_simp
      rfl
    intro a' ha'
    simp only [Act.put, List.setIfInBounds_toArray, List.set_cons_zero, List.set_cons_succ] at ha'
    subst ha'
    refine AnyS.next (i := 7) (d := some 27) (v := .bool x) rfl rfl (by kernel_rfl) (by kernel_rfl) (by kernel_rfl) (StepsIf.call (by kernel_rfl) (fun w' hS => by clear hS; go_simp) (fun w' hS => (hbg w').mono fun e w'' h => ⟨h.1, hS.go h.2⟩)) ?_
    intro a' ha'
    simp only [Act.put, List.setIfInBounds_toArray, List.set_cons_zero, List.set_cons_succ] at ha'
    subst ha'
    refine AnyS.done (by kernel_rfl) ?_ _
    intro w2 hS2
    clear hbg m1 m3 m4
    cases x with
    | true =>
      have hN := Lib.hid (HG.out rfl HNO.out).1
      have hL := Lib.hid (HG.out rfl HNO.out).2
      clear HG HX HNO HEND
      obtain ⟨⟨zk, zp, ze, zt, zn, zm⟩, er, pl⟩ := Z
      go_wp2_with fail
      refine (HRD.out _).mono ?_
      rintro en w3 ⟨rfl, hb⟩
      have hS3 := hS2.go hb
      have HR := Lib.hid hS3.1.1
      have hB3 := hS3.2
      clear hb HRD hS2 hS3
      go_wp2_with ((with_reducible refine wpList_store_st (o := ⟨none, .store 61 _ _, _, _, _, _⟩) rfl 61 _ _ rfl w.heap.size rfl rfl (run_storeAt_row _ w.heap.size 61 61 (rgZ 0 0 0 0 0 0 0 eT) (rgI zk zp ze zt zn zm er pl z) ?_ ?_ ?_ ?_) ?_); exact HR.out; exact infoRg; rfl; exact rg_one _ _ _ _ _ _ _ _ _)
      exact bodyPost_ret (v := .agg (rgI zk zp ze zt zn zm er pl z)) (results_cell_row rfl _ _ w.heap.size 61 (rgI zk zp ze zt zn zm er pl z) (0, 0) _ rfl (Blk.setRow HR.out) Tryz.underlying61 rfl infoRg) rfl ⟨by rw [hN.out, hL.out], below_row hB3 (Nat.le_refl _) _⟩
    | false =>
      clear HG HEND HRD
      go_wp2_with fail
      go_roundw
      case rel =>
        refine ⟨4, by omega, by simp, fun i hi => ?_, hS2⟩
        by_cases hij : i = 3
        · subst hij; exact HX.out
        · exact HNO.out i (by omega)
      case measure => simp [intOf]
  · -- one
    have hbg : ∀ w, Calls Tryz.prog 126 #[.agg #[], .int .u8 (bt s a)] w fun en w' => en = .returned (.bool (begK 4 (bt s a))) ∧ Below w.heap.size w w' := oneBegins_calls (bt s a)
    have HRD : Hid (∀ w, Calls Tryz.prog 129 #[.agg #[], .string s, .int .i64 a] w fun en w' => en = .returned (.agg (rgA (readK s a 4) (lackK s a 4))) ∧ Below w.heap.size w w') := Lib.hid (oneRead_calls s hs a ha)
    have HG := Lib.hid (next_kind s a 4 (by omega))
    have m1 := m_one_begins
    have m2 := m_one_read
    have m3 := n_one_begins
    have m4 := ix_one
    generalize bt s a = b at *
    generalize readK s a 4 = Z at *
    generalize lackK s a 4 = z at *
    generalize hx : begK 4 b = x at *
    have HX := Lib.hid hx
    have HNO := Lib.hid hno
    clear hx hno
    go_upto_region 6 with fail
    refine region_steps (S := SR5 w) (by kernel_rfl) (SR5.drewS hS0) ?_
    clear hS0
    simp only [List.size_toArray, List.length_cons, List.length_nil, Nat.reduceAdd, Array.replicate_succ, Array.replicate_zero, List.push_toArray, List.nil_append, List.cons_append]
    refine AnyS.stepE (i := 0) (d := some 20) rfl rfl (by kernel_rfl) (by kernel_rfl) (by kernel_rfl) ?_
    apply Exists.intro
    apply And.intro
    · apply StepsIf.yield
      · kernel_rfl
      intro w' hS
      clear hS; go_simp
      rfl
    intro a' ha'
    simp only [Act.put, List.setIfInBounds_toArray, List.set_cons_zero, List.set_cons_succ] at ha'
    subst ha'
    refine AnyS.stepE (i := 1) (d := some 21) rfl rfl (by kernel_rfl) (by kernel_rfl) (by kernel_rfl) ?_
    apply Exists.intro
    apply And.intro
    · apply StepsIf.yield
      · kernel_rfl
      intro w' hS
      clear hS; go_simp
      rfl
    intro a' ha'
    simp only [Act.put, List.setIfInBounds_toArray, List.set_cons_zero, List.set_cons_succ] at ha'
    subst ha'
    refine AnyS.stepE (i := 2) (d := some 22) rfl rfl (by kernel_rfl) (by kernel_rfl) (by kernel_rfl) ?_
    apply Exists.intro
    apply And.intro
    · apply StepsIf.yield
      · kernel_rfl
      intro w' hS
      clear hS; go_simp
      rfl
    intro a' ha'
    simp only [Act.put, List.setIfInBounds_toArray, List.set_cons_zero, List.set_cons_succ] at ha'
    subst ha'
    refine AnyS.stepE (i := 3) (d := some 23) rfl rfl (by kernel_rfl) (by kernel_rfl) (by kernel_rfl) ?_
    apply Exists.intro
    apply And.intro
    · apply StepsIf.yield
      · kernel_rfl
      intro w' hS
      clear hS; go_simp
      rfl
    intro a' ha'
    simp only [Act.put, List.setIfInBounds_toArray, List.set_cons_zero, List.set_cons_succ] at ha'
    subst ha'
    refine AnyS.stepE (i := 4) (d := some 24) rfl rfl (by kernel_rfl) (by kernel_rfl) (by kernel_rfl) ?_
    apply Exists.intro
    apply And.intro
    · apply StepsIf.yield
      · kernel_rfl
      intro w' hS
      clear hS; go_simp
      rfl
    intro a' ha'
    simp only [Act.put, List.setIfInBounds_toArray, List.set_cons_zero, List.set_cons_succ] at ha'
    subst ha'
    refine AnyS.stepE (i := 5) (d := some 25) rfl rfl (by kernel_rfl) (by kernel_rfl) (by kernel_rfl) ?_
    apply Exists.intro
    apply And.intro
    · apply StepsIf.yield
      · kernel_rfl
      intro w' hS
      clear hS; go_simp
      rfl
    intro a' ha'
    simp only [Act.put, List.setIfInBounds_toArray, List.set_cons_zero, List.set_cons_succ] at ha'
    subst ha'
    refine AnyS.stepE (i := 6) (d := some 26) rfl rfl (by kernel_rfl) (by kernel_rfl) (by kernel_rfl) ?_
    apply Exists.intro
    apply And.intro
    · apply StepsIf.yield
      · kernel_rfl
      intro w' hS
      clear hS; go_simp
      rfl
    intro a' ha'
    simp only [Act.put, List.setIfInBounds_toArray, List.set_cons_zero, List.set_cons_succ] at ha'
    subst ha'
    refine AnyS.next (i := 7) (d := some 27) (v := .bool x) rfl rfl (by kernel_rfl) (by kernel_rfl) (by kernel_rfl) (StepsIf.call (by kernel_rfl) (fun w' hS => by clear hS; go_simp) (fun w' hS => (hbg w').mono fun e w'' h => ⟨h.1, hS.go h.2⟩)) ?_
    intro a' ha'
    simp only [Act.put, List.setIfInBounds_toArray, List.set_cons_zero, List.set_cons_succ] at ha'
    subst ha'
    refine AnyS.done (by kernel_rfl) ?_ _
    intro w2 hS2
    clear hbg m1 m3 m4
    cases x with
    | true =>
      have hN := Lib.hid (HG.out rfl HNO.out).1
      have hL := Lib.hid (HG.out rfl HNO.out).2
      clear HG HX HNO HEND
      obtain ⟨⟨zk, zp, ze, zt, zn, zm⟩, er, pl⟩ := Z
      go_wp2_with fail
      refine (HRD.out _).mono ?_
      rintro en w3 ⟨rfl, hb⟩
      have hS3 := hS2.go hb
      have HR := Lib.hid hS3.1.1
      have hB3 := hS3.2
      clear hb HRD hS2 hS3
      go_wp2_with ((with_reducible refine wpList_store_st (o := ⟨none, .store 61 _ _, _, _, _, _⟩) rfl 61 _ _ rfl w.heap.size rfl rfl (run_storeAt_row _ w.heap.size 61 61 (rgZ 0 0 0 0 0 0 0 eT) (rgI zk zp ze zt zn zm er pl z) ?_ ?_ ?_ ?_) ?_); exact HR.out; exact infoRg; rfl; exact rg_one _ _ _ _ _ _ _ _ _)
      exact bodyPost_ret (v := .agg (rgI zk zp ze zt zn zm er pl z)) (results_cell_row rfl _ _ w.heap.size 61 (rgI zk zp ze zt zn zm er pl z) (0, 0) _ rfl (Blk.setRow HR.out) Tryz.underlying61 rfl infoRg) rfl ⟨by rw [hN.out, hL.out], below_row hB3 (Nat.le_refl _) _⟩
    | false =>
      clear HG HEND HRD
      go_wp2_with fail
      go_roundw
      case rel =>
        refine ⟨5, by omega, by simp, fun i hi => ?_, hS2⟩
        by_cases hij : i = 4
        · subst hij; exact HX.out
        · exact HNO.out i (by omega)
      case measure => simp [intOf]
  · have hN := Lib.hid (HEND.out hno).1
    have hL := Lib.hid (HEND.out hno).2
    have HF := Lib.hid (fun w => fault5_calls 3 ((a : Int) + 1) w)
    clear HEND hno
    go_wp2_with fail
    refine (HF.out _).mono ?_
    rintro en w3 ⟨rfl, hb⟩
    have hS3 := hS0.go hb
    have HR := Lib.hid hS3.1.1
    have hB3 := hS3.2
    clear hb HF hS0 hS3
    go_wp2_with ((with_reducible refine wpList_store_st (o := ⟨none, .store 61 _ _, _, _, _, _⟩) rfl 61 _ _ rfl w.heap.size rfl rfl (run_storeAt_row _ w.heap.size 61 61 (rgZ 0 0 0 0 0 0 0 eT) (rgZ 0 0 0 0 0 3 ((a : Int) + 1) eT) ?_ ?_ ?_ ?_) ?_); exact HR.out; exact infoRg; rfl; exact rg_one _ _ _ 0 _ _ _ _ _)
    exact bodyPost_ret (v := .agg (rgZ 0 0 0 0 0 3 ((a : Int) + 1) eT)) (results_cell_row rfl _ _ w.heap.size 61 (rgZ 0 0 0 0 0 3 ((a : Int) + 1) eT) (0, 0) _ rfl (Blk.setRow HR.out) Tryz.underlying61 rfl infoRg) rfl ⟨by rw [hN.out, hL.out, rgZ_eq]; rfl, below_row hB3 (Nat.le_refl _) _⟩
end Go.Proofs.YtldaaelmifbbhaaGreat

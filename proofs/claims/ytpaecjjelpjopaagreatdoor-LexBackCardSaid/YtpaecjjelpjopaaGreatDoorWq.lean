/- The developers' words: what each kind reads, what it begins with. -/
import Derived.Test.YtpaecjjelpjopaaGreatDoorWp
import Derived.Test.YtpaecjjelpjopaaGreatDoorWl
import Derived.Test.YtpaecjjelpjopaaGreatDoorP9
import Derived.Test.YtpaecjjelpjopaaGreatDoorP6
namespace Go.Proofs.YtpaecjjelpjopaaGreatDoor
open Go.RowKit Go.Shelf BS

/-- A reading of a word, or an error and its place, and what lacks. -/
@[reducible] def rgA (X : WN × Nat × Nat) (l : ByteArray) : Array Value := rgI X.1.kind X.1.pos X.1.fin X.1.set X.1.n X.1.m X.2.1 X.2.2 l
theorem rgA_one (t : BitVec 256) (a : Nat) (l : ByteArray) : rgA (oneW t a (a + 1), 0, 0) l = rgI 1 a ((a : Int) + 1) t 0 0 0 0 l := by
  have e : ((a + 1 : Nat) : Int) = (a : Int) + 1 := by omega
  show rgI 1 a ((a + 1 : Nat) : Int) t 0 0 0 0 l = _
  rw [e]
theorem rgA_two (t : BitVec 256) (a : Nat) (l : ByteArray) : rgA (oneW t a (a + 2), 0, 0) l = rgI 1 a ((a : Int) + 2) t 0 0 0 0 l := by
  have e : ((a + 2 : Nat) : Int) = (a : Int) + 2 := by omega
  show rgI 1 a ((a + 2 : Nat) : Int) t 0 0 0 0 l = _
  rw [e]
set_option maxRecDepth 100000 in
set_option maxHeartbeats 8000000 in
theorem inB5_calls (s : ByteArray) (hs : s.size ≤ 1000000) (a : Nat) (w : World) : Calls Tryz.prog 134 #[.string s, .int .i64 a] w fun en w' => en = .returned (.agg (rgA (brkW s a) (wholeD s a).lack)) ∧ Below w.heap.size w w' := by
  obtain ⟨t, p, e, k, hR⟩ : ∃ t p e k, readR s a = (t, p, e, k) := ⟨_, _, _, _, rfl⟩
  have hL := lackE s a t p e k _ hR rfl
  have HRD := Lib.hid (fun w => dRead s hs a t p e k hR w)
  have HLK := Lib.hid (fun w => lackD_calls s hs a w)
  have hY : brkW s a = if e ≠ 0 then (zWN, e, k) else (oneW t a p, 0, 0) := by unfold brkW; rw [hR]
  generalize (wholeD s a).lack = l at *
  generalize brkW s a = Y at *
  clear hR
  have HL := Lib.hid hL
  have HY := Lib.hid hY
  clear hL hY
  have HR := Lib.hid (Blk.new w (rgZ 0 0 0 0 0 0 0 eT) 45)
  have HB : Hid (Below w.heap.size w (w.alloc (.cells (rgZ 0 0 0 0 0 0 0 eT) 45))) := Lib.hid (by go_grown)
  have hz : w.heap.size + 1 ≤ (w.alloc (.cells (rgZ 0 0 0 0 0 0 0 eT) 45)).heap.size := by simp
  go_enter Tryz.func134, Tryz.ntmps134
  go_upto_region 1 with fail
  have e0 : w.alloc (.cells #[.int .i64 0, .int .i64 0, .int .i64 0, .int .u64 0, .int .u64 0, .int .u64 0, .int .u64 0, .int .i64 0, .int .i64 0, .int .i64 0, .int .i64 0, .string ⟨#[]⟩] 45) = w.alloc (.cells (rgZ 0 0 0 0 0 0 0 eT) 45) := rfl
  try rw [e0]
  clear e0
  generalize w.alloc (.cells (rgZ 0 0 0 0 0 0 0 eT) 45) = w1 at *
  go_wp2_with fail
  refine (HRD.out _).mono ?_
  rintro en w2 ⟨rfl, hb⟩
  replace HR := Lib.hid (HR.out.below hb (Blk.lt HR.out))
  replace HB := Lib.hid (HB.out.trans (hb.mono (by omega)))
  replace hz := Nat.le_trans hz hb.size
  clear hb HRD
  go_upto_region 2 with fail
  have HC := Lib.hid (Blk.new w2 (setA t) 25)
  have hwB : w.heap.size < w2.heap.size := by omega
  replace HR := Lib.hid (HR.out.alloc (.cells (setA t) 25))
  replace HB := Lib.hid (HB.out.alloc (by omega) (.cells (setA t) 25))
  have e0 : w2.alloc (.cells #[.int .u64 (wd t 0), .int .u64 (wd t 1), .int .u64 (wd t 2), .int .u64 (wd t 3)] 25) = w2.alloc (.cells (setA t) 25) := rfl
  try rw [e0]
  clear e0
  have hz3 : w.heap.size + 1 ≤ (w2.alloc (.cells (setA t) 25)).heap.size := by simp; omega
  generalize w2.alloc (.cells (setA t) 25) = w3 at *
  generalize w2.heap.size = B at *
  by_cases he : e = 0
  · subst he
    have hl : l = eT := by
      rcases HL.out with h | h
      · exact h.2
      · exact absurd h.1 (by decide)
    have hY : Y = (oneW t a p, 0, 0) := by rw [HY.out, if_neg (by decide)]
    subst hl hY
    have HO := Lib.hid (fun w => oneOf5_calls t a p w)
    obtain ⟨⟨c0, c1, c2, c3⟩, _⟩ := HC.out.cells4
    clear HL HY HLK hz
    go_wp2_with fail
    refine (HO.out _).mono ?_
    rintro en w4 ⟨rfl, hb⟩
    replace HR := Lib.hid (HR.out.below hb (Blk.lt HR.out))
    replace HB := Lib.hid (HB.out.trans (hb.mono (by omega)))
    clear hb HO c0 c1 c2 c3 HC
    go_wp2_with ((with_reducible refine wpList_store_st (o := ⟨none, .store 45 _ _, _, _, _, _⟩) rfl 45 _ _ rfl w.heap.size rfl rfl (run_storeAt_row _ w.heap.size 45 45 (rgZ 0 0 0 0 0 0 0 eT) (rgI 1 a p t 0 0 0 0 eT) ?_ ?_ ?_ ?_) ?_); exact HR.out; exact infoRg; rfl; exact rg_one _ _ _ _ _ _ _ _ _)
    exact bodyPost_ret (v := .agg (rgI 1 a p t 0 0 0 0 eT)) (results_cell_row rfl _ _ w.heap.size 45 (rgI 1 a p t 0 0 0 0 eT) (0, 0) _ rfl (Blk.setRow HR.out) Tryz.underlying45 rfl infoRg) rfl ⟨rfl, below_row HB.out (Nat.le_refl _) _⟩
  · have q : ((e : Int) != 0) = true := by rw [bne_iff_ne]; omega
    have hY : Y = (zWN, e, k) := by rw [HY.out, if_pos he]
    subst hY
    clear HL HY HC hz he
    go_wp2_with fail
    refine (HLK.out _).mono ?_
    rintro en w4 ⟨rfl, hb⟩
    replace HR := Lib.hid (HR.out.below hb (Blk.lt HR.out))
    replace HB := Lib.hid (HB.out.trans (hb.mono (by omega)))
    clear hb HLK
    go_wp2_with ((with_reducible refine wpList_store_st (o := ⟨none, .store 45 _ _, _, _, _, _⟩) rfl 45 _ _ rfl w.heap.size rfl rfl (run_storeAt_row _ w.heap.size 45 45 (rgZ 0 0 0 0 0 0 0 eT) (rgZ 0 0 0 0 0 e k l) ?_ ?_ ?_ ?_) ?_); exact HR.out; exact infoRg; rfl; exact rg_one _ _ _ 0 _ _ _ _ _)
    exact bodyPost_ret (v := .agg (rgZ 0 0 0 0 0 e k l)) (results_cell_row rfl _ _ w.heap.size 45 (rgZ 0 0 0 0 0 e k l) (0, 0) _ rfl (Blk.setRow HR.out) Tryz.underlying45 rfl infoRg) rfl ⟨by rw [rgZ_eq]; rfl, below_row HB.out (Nat.le_refl _) _⟩

/-- What lacks to a backslash. -/
def lackS (s : ByteArray) (a : Nat) : ByteArray := if s.size ≤ a + 1 then ofT [46] else eT
set_option maxRecDepth 100000 in
set_option maxHeartbeats 8000000 in
theorem esc5_calls (s : ByteArray) (hs : s.size ≤ 1000000) (a : Nat) (ha : a < s.size) (w : World) : Calls Tryz.prog 135 #[.string s, .int .i64 a] w fun en w' => en = .returned (.agg (rgA (slashW s a) (lackS s a))) ∧ Below w.heap.size w w' := by
  have x2 : IntKind.i64.wrap ((a : Int) + 2) = (a : Int) + 2 := IntWalk.i64_in _ (by omega)
  have x1 : IntKind.i64.wrap ((a : Int) + 1) = (a : Int) + 1 := IntWalk.i64_in _ (by omega)
  have xs : IntKind.i64.wrap (s.size : Int) = s.size := IntWalk.i64_in _ (by omega)
  have HY := Lib.hid (show slashW s a = if s.size ≤ a + 1 then (zWN, 2, s.size) else if four14 (bt s (a + 1)) = false then (zWN, 3, a + 2) else (oneW (range (bt s (a + 1)) (bt s (a + 1))) a (a + 2), 0, 0) from rfl)
  have HL := Lib.hid (show lackS s a = if s.size ≤ a + 1 then ofT [46] else eT from rfl)
  generalize slashW s a = Y at *
  generalize lackS s a = l at *
  have HR := Lib.hid (Blk.new w (rgZ 0 0 0 0 0 0 0 eT) 45)
  have HB : Hid (Below w.heap.size w (w.alloc (.cells (rgZ 0 0 0 0 0 0 0 eT) 45))) := Lib.hid (by go_grown)
  have hz : w.heap.size + 1 ≤ (w.alloc (.cells (rgZ 0 0 0 0 0 0 0 eT) 45)).heap.size := by simp
  go_enter Tryz.func135, Tryz.ntmps135
  go_upto_region 1 with fail
  have e0 : w.alloc (.cells #[.int .i64 0, .int .i64 0, .int .i64 0, .int .u64 0, .int .u64 0, .int .u64 0, .int .u64 0, .int .i64 0, .int .i64 0, .int .i64 0, .int .i64 0, .string ⟨#[]⟩] 45) = w.alloc (.cells (rgZ 0 0 0 0 0 0 0 eT) 45) := rfl
  try rw [e0]
  clear e0
  generalize w.alloc (.cells (rgZ 0 0 0 0 0 0 0 eT) 45) = w1 at *
  by_cases hs1 : s.size ≤ a + 1
  · have q : decide ((s.size : Int) < (a : Int) + 2) = true := by rw [decide_eq_true_iff]; omega
    have hY : Y = (zWN, 2, s.size) := by rw [HY.out, if_pos hs1]
    have hl : l = ofT [46] := by rw [HL.out, if_pos hs1]
    subst hY hl
    clear HY HL hs1
    have hsl : ∀ w', (Instr.slice 9 (.string ⟨#[46, 91, 93, 92, 40, 41, 42, 43, 63, 123, 125, 124, 94, 36]⟩) none (some (.int .i64 1)) none).run Tryz.prog w' = .ok (.string (ofT [46])) w' := fun w' => by kernel_rfl
    go_wp2_with ((with_reducible refine wpList_store_st (o := ⟨none, .store 45 _ _, _, _, _, _⟩) rfl 45 _ _ rfl w.heap.size rfl rfl (run_storeAt_row _ w.heap.size 45 45 (rgZ 0 0 0 0 0 0 0 eT) (rgZ 0 0 0 0 0 2 s.size (ofT [46])) ?_ ?_ ?_ ?_) ?_); exact HR.out; exact infoRg; rfl; exact rg_one _ _ _ 0 _ _ _ _ _)
    exact bodyPost_ret (v := .agg (rgZ 0 0 0 0 0 2 s.size (ofT [46]))) (results_cell_row rfl _ _ w.heap.size 45 (rgZ 0 0 0 0 0 2 s.size (ofT [46])) (0, 0) _ rfl (Blk.setRow HR.out) Tryz.underlying45 rfl infoRg) rfl ⟨by rw [rgZ_eq]; rfl, below_row HB.out (Nat.le_refl _) _⟩
  have q : decide ((s.size : Int) < (a : Int) + 2) = false := by rw [decide_eq_false_iff_not]; omega
  have hl : l = eT := by rw [HL.out, if_neg hs1]
  subst hl
  clear HL
  have hlt : a + 1 < s.size := by omega
  have h0 : s[a + 1].toNat = bt s (a + 1) := (bt_eq s (a + 1) hlt).symm
  have hl0 := bt_lt s (a + 1)
  have HSG := Lib.hid (isSign_calls (bt s (a + 1)) hl0)
  generalize bt s (a + 1) = b at *
  cases hf : four14 b with
  | false =>
    have hY : Y = (zWN, 3, a + 2) := by rw [HY.out, if_neg hs1, if_pos hf]
    subst hY
    rw [hf] at HSG
    have HF := Lib.hid (fun w => fault5_calls 3 ((a : Int) + 2) w)
    clear HY hs1 hf
    go_wp2_with fail
    refine (HSG.out _).mono ?_
    rintro en w2 ⟨rfl, rfl⟩
    go_wp2_with fail
    refine (HF.out _).mono ?_
    rintro en w4 ⟨rfl, hb⟩
    replace HR := Lib.hid (HR.out.below hb (Blk.lt HR.out))
    replace HB := Lib.hid (HB.out.trans (hb.mono (by omega)))
    replace hz := Nat.le_trans hz hb.size
    clear hb HF
    go_wp2_with ((with_reducible refine wpList_store_st (o := ⟨none, .store 45 _ _, _, _, _, _⟩) rfl 45 _ _ rfl w.heap.size rfl rfl (run_storeAt_row _ w.heap.size 45 45 (rgZ 0 0 0 0 0 0 0 eT) (rgZ 0 0 0 0 0 3 ((a : Int) + 2) eT) ?_ ?_ ?_ ?_) ?_); exact HR.out; exact infoRg; rfl; exact rg_one _ _ _ 0 _ _ _ _ _)
    exact bodyPost_ret (v := .agg (rgZ 0 0 0 0 0 3 ((a : Int) + 2) eT)) (results_cell_row rfl _ _ w.heap.size 45 (rgZ 0 0 0 0 0 3 ((a : Int) + 2) eT) (0, 0) _ rfl (Blk.setRow HR.out) Tryz.underlying45 rfl infoRg) rfl ⟨by rw [rgZ_eq]; rfl, below_row HB.out (Nat.le_refl _) _⟩
  | true =>
    have hY : Y = (oneW (range b b) a (a + 2), 0, 0) := by rw [HY.out, if_neg hs1, if_neg (by rw [hf]; decide)]
    subst hY
    rw [hf] at HSG
    have HWT := Lib.hid (fun W t => dWith_calls W t b hl0)
    generalize hT : range b b = t at *
    have HTT := Lib.hid hT
    clear hT
    have HO := Lib.hid (fun w => oneOf5_calls t a ((a : Int) + 2) w)
    clear HY hs1 hf
    go_wp2_with fail
    refine (HSG.out _).mono ?_
    rintro en w2 ⟨rfl, rfl⟩
    clear HSG
    go_wp2_with fail
    replace HR := Lib.hid (HR.out.alloc (.cells #[.int .u8 b] 5))
    replace HB := Lib.hid (HB.out.alloc (by omega) (.cells #[.int .u8 b] 5))
    have hz3 : w.heap.size + 1 ≤ (w1.alloc (.cells #[.int .u8 b] 5)).heap.size := by simp; omega
    clear hz
    have hz := hz3
    clear hz3
    refine Calls.mono (HWT.out w1 _) ?_
    rintro en w4 ⟨rfl, hb⟩
    replace HR := Lib.hid (HR.out.below hb (Blk.lt HR.out))
    replace HB := Lib.hid (HB.out.trans (hb.mono (by omega)))
    replace hz := Nat.le_trans hz hb.size
    clear hb HWT
    go_wp2_with fail
    refine (HO.out _).mono ?_
    rintro en w5 ⟨rfl, hb⟩
    replace HR := Lib.hid (HR.out.below hb (Blk.lt HR.out))
    replace HB := Lib.hid (HB.out.trans (hb.mono (by omega)))
    replace hz := Nat.le_trans hz hb.size
    clear hb HO
    go_wp2_with ((with_reducible refine wpList_store_st (o := ⟨none, .store 45 _ _, _, _, _, _⟩) rfl 45 _ _ rfl w.heap.size rfl rfl (run_storeAt_row _ w.heap.size 45 45 (rgZ 0 0 0 0 0 0 0 eT) (rgI 1 a ((a : Int) + 2) t 0 0 0 0 eT) ?_ ?_ ?_ ?_) ?_); exact HR.out; exact infoRg; rfl; exact rg_one _ _ _ _ _ _ _ _ _)
    exact bodyPost_ret (v := .agg (rgI 1 a ((a : Int) + 2) t 0 0 0 0 eT)) (results_cell_row rfl _ _ w.heap.size 45 (rgI 1 a ((a : Int) + 2) t 0 0 0 0 eT) (0, 0) _ rfl (Blk.setRow HR.out) Tryz.underlying45 rfl infoRg) rfl ⟨by rw [rgA_two, HTT.out], below_row HB.out (Nat.le_refl _) _⟩
set_option maxRecDepth 100000 in
set_option maxHeartbeats 8000000 in
theorem openBegins_calls (b : Nat) (w : World) : Calls Tryz.prog 87 #[.agg #[], .int .u8 b] w fun en w' => en = .returned (.bool (b == 40)) ∧ Below w.heap.size w w' := by
  have q : ((b : Int) == 40) = (b == 40) := by rw [Bool.eq_iff_iff, beq_iff_eq, beq_iff_eq]; omega
  go_enter Tryz.func87, Tryz.ntmps87
  go_wp2_with fail
  go_ret
  exact ⟨rfl, by go_grown⟩
set_option maxRecDepth 100000 in
set_option maxHeartbeats 8000000 in
theorem openRead_calls (s : ByteArray) (hs : s.size ≤ 1000000) (a : Nat) (ha : a < s.size) (w : World) : Calls Tryz.prog 90 #[.agg #[], .string s, .int .i64 a] w fun en w' => en = .returned (.agg (rgA ((⟨2, a, a + 1, 0, 0, 0⟩, 0, 0)) eT)) ∧ Below w.heap.size w w' := by
  have HS := Lib.hid (fun w => sign5_calls 2 a (by omega) w)
  have HR := Lib.hid (Blk.new (w.alloc (.cells #[] 88)) (rgZ 0 0 0 0 0 0 0 eT) 45)
  rw [World.size_alloc] at HR
  have HB : Hid (Below w.heap.size w ((w.alloc (.cells #[] 88)).alloc (.cells (rgZ 0 0 0 0 0 0 0 eT) 45))) := Lib.hid (by go_grown)
  have hz : w.heap.size + 2 ≤ ((w.alloc (.cells #[] 88)).alloc (.cells (rgZ 0 0 0 0 0 0 0 eT) 45)).heap.size := by simp
  go_enter Tryz.func90, Tryz.ntmps90
  go_upto_region 1 with fail
  have e0 : (w.alloc (.cells #[] 88)).alloc (.cells #[.int .i64 0, .int .i64 0, .int .i64 0, .int .u64 0, .int .u64 0, .int .u64 0, .int .u64 0, .int .i64 0, .int .i64 0, .int .i64 0, .int .i64 0, .string ⟨#[]⟩] 45) = (w.alloc (.cells #[] 88)).alloc (.cells (rgZ 0 0 0 0 0 0 0 eT) 45) := rfl
  try rw [e0]
  clear e0
  generalize (w.alloc (.cells #[] 88)).alloc (.cells (rgZ 0 0 0 0 0 0 0 eT) 45) = w1 at *
  generalize hBB : w.heap.size + 1 = BB at HR
  have hBB2 : w.heap.size ≤ BB := by omega
  go_wp2_with fail
  refine (HS.out _).mono ?_
  rintro en w2 ⟨rfl, hb⟩
  replace HR := Lib.hid (HR.out.below hb (Blk.lt HR.out))
  replace HB := Lib.hid (HB.out.trans (hb.mono (by omega)))
  replace hz := Nat.le_trans hz hb.size
  clear hb HS
  go_wp2_with ((with_reducible refine wpList_store_st (o := ⟨none, .store 45 _ _, _, _, _, _⟩) rfl 45 _ _ rfl BB rfl rfl (run_storeAt_row _ BB 45 45 (rgZ 0 0 0 0 0 0 0 eT) (rgZ 2 a ((a : Int) + 1) 0 0 0 0 eT) ?_ ?_ ?_ ?_) ?_); exact HR.out; exact infoRg; rfl; exact rg_one _ _ _ 0 _ _ _ _ _)
  exact bodyPost_ret (v := .agg (rgZ 2 a ((a : Int) + 1) 0 0 0 0 eT)) (results_cell_row rfl _ _ BB 45 (rgZ 2 a ((a : Int) + 1) 0 0 0 0 eT) (0, 0) _ rfl (Blk.setRow HR.out) Tryz.underlying45 rfl infoRg) rfl ⟨by rw [rgZ_eq]; rfl, below_row HB.out hBB2 _⟩
set_option maxRecDepth 100000 in
set_option maxHeartbeats 8000000 in
theorem shutBegins_calls (b : Nat) (w : World) : Calls Tryz.prog 92 #[.agg #[], .int .u8 b] w fun en w' => en = .returned (.bool (b == 41)) ∧ Below w.heap.size w w' := by
  have q : ((b : Int) == 41) = (b == 41) := by rw [Bool.eq_iff_iff, beq_iff_eq, beq_iff_eq]; omega
  go_enter Tryz.func92, Tryz.ntmps92
  go_wp2_with fail
  go_ret
  exact ⟨rfl, by go_grown⟩
set_option maxRecDepth 100000 in
set_option maxHeartbeats 8000000 in
theorem shutRead_calls (s : ByteArray) (hs : s.size ≤ 1000000) (a : Nat) (ha : a < s.size) (w : World) : Calls Tryz.prog 95 #[.agg #[], .string s, .int .i64 a] w fun en w' => en = .returned (.agg (rgA ((⟨3, a, a + 1, 0, 0, 0⟩, 0, 0)) eT)) ∧ Below w.heap.size w w' := by
  have HS := Lib.hid (fun w => sign5_calls 3 a (by omega) w)
  have HR := Lib.hid (Blk.new (w.alloc (.cells #[] 89)) (rgZ 0 0 0 0 0 0 0 eT) 45)
  rw [World.size_alloc] at HR
  have HB : Hid (Below w.heap.size w ((w.alloc (.cells #[] 89)).alloc (.cells (rgZ 0 0 0 0 0 0 0 eT) 45))) := Lib.hid (by go_grown)
  have hz : w.heap.size + 2 ≤ ((w.alloc (.cells #[] 89)).alloc (.cells (rgZ 0 0 0 0 0 0 0 eT) 45)).heap.size := by simp
  go_enter Tryz.func95, Tryz.ntmps95
  go_upto_region 1 with fail
  have e0 : (w.alloc (.cells #[] 89)).alloc (.cells #[.int .i64 0, .int .i64 0, .int .i64 0, .int .u64 0, .int .u64 0, .int .u64 0, .int .u64 0, .int .i64 0, .int .i64 0, .int .i64 0, .int .i64 0, .string ⟨#[]⟩] 45) = (w.alloc (.cells #[] 89)).alloc (.cells (rgZ 0 0 0 0 0 0 0 eT) 45) := rfl
  try rw [e0]
  clear e0
  generalize (w.alloc (.cells #[] 89)).alloc (.cells (rgZ 0 0 0 0 0 0 0 eT) 45) = w1 at *
  generalize hBB : w.heap.size + 1 = BB at HR
  have hBB2 : w.heap.size ≤ BB := by omega
  go_wp2_with fail
  refine (HS.out _).mono ?_
  rintro en w2 ⟨rfl, hb⟩
  replace HR := Lib.hid (HR.out.below hb (Blk.lt HR.out))
  replace HB := Lib.hid (HB.out.trans (hb.mono (by omega)))
  replace hz := Nat.le_trans hz hb.size
  clear hb HS
  go_wp2_with ((with_reducible refine wpList_store_st (o := ⟨none, .store 45 _ _, _, _, _, _⟩) rfl 45 _ _ rfl BB rfl rfl (run_storeAt_row _ BB 45 45 (rgZ 0 0 0 0 0 0 0 eT) (rgZ 3 a ((a : Int) + 1) 0 0 0 0 eT) ?_ ?_ ?_ ?_) ?_); exact HR.out; exact infoRg; rfl; exact rg_one _ _ _ 0 _ _ _ _ _)
  exact bodyPost_ret (v := .agg (rgZ 3 a ((a : Int) + 1) 0 0 0 0 eT)) (results_cell_row rfl _ _ BB 45 (rgZ 3 a ((a : Int) + 1) 0 0 0 0 eT) (0, 0) _ rfl (Blk.setRow HR.out) Tryz.underlying45 rfl infoRg) rfl ⟨by rw [rgZ_eq]; rfl, below_row HB.out hBB2 _⟩
set_option maxRecDepth 100000 in
set_option maxHeartbeats 8000000 in
theorem barBegins_calls (b : Nat) (w : World) : Calls Tryz.prog 96 #[.agg #[], .int .u8 b] w fun en w' => en = .returned (.bool (b == 124)) ∧ Below w.heap.size w w' := by
  have q : ((b : Int) == 124) = (b == 124) := by rw [Bool.eq_iff_iff, beq_iff_eq, beq_iff_eq]; omega
  go_enter Tryz.func96, Tryz.ntmps96
  go_wp2_with fail
  go_ret
  exact ⟨rfl, by go_grown⟩
set_option maxRecDepth 100000 in
set_option maxHeartbeats 8000000 in
theorem barRead_calls (s : ByteArray) (hs : s.size ≤ 1000000) (a : Nat) (ha : a < s.size) (w : World) : Calls Tryz.prog 99 #[.agg #[], .string s, .int .i64 a] w fun en w' => en = .returned (.agg (rgA ((⟨4, a, a + 1, 0, 0, 0⟩, 0, 0)) eT)) ∧ Below w.heap.size w w' := by
  have HS := Lib.hid (fun w => sign5_calls 4 a (by omega) w)
  have HR := Lib.hid (Blk.new (w.alloc (.cells #[] 90)) (rgZ 0 0 0 0 0 0 0 eT) 45)
  rw [World.size_alloc] at HR
  have HB : Hid (Below w.heap.size w ((w.alloc (.cells #[] 90)).alloc (.cells (rgZ 0 0 0 0 0 0 0 eT) 45))) := Lib.hid (by go_grown)
  have hz : w.heap.size + 2 ≤ ((w.alloc (.cells #[] 90)).alloc (.cells (rgZ 0 0 0 0 0 0 0 eT) 45)).heap.size := by simp
  go_enter Tryz.func99, Tryz.ntmps99
  go_upto_region 1 with fail
  have e0 : (w.alloc (.cells #[] 90)).alloc (.cells #[.int .i64 0, .int .i64 0, .int .i64 0, .int .u64 0, .int .u64 0, .int .u64 0, .int .u64 0, .int .i64 0, .int .i64 0, .int .i64 0, .int .i64 0, .string ⟨#[]⟩] 45) = (w.alloc (.cells #[] 90)).alloc (.cells (rgZ 0 0 0 0 0 0 0 eT) 45) := rfl
  try rw [e0]
  clear e0
  generalize (w.alloc (.cells #[] 90)).alloc (.cells (rgZ 0 0 0 0 0 0 0 eT) 45) = w1 at *
  generalize hBB : w.heap.size + 1 = BB at HR
  have hBB2 : w.heap.size ≤ BB := by omega
  go_wp2_with fail
  refine (HS.out _).mono ?_
  rintro en w2 ⟨rfl, hb⟩
  replace HR := Lib.hid (HR.out.below hb (Blk.lt HR.out))
  replace HB := Lib.hid (HB.out.trans (hb.mono (by omega)))
  replace hz := Nat.le_trans hz hb.size
  clear hb HS
  go_wp2_with ((with_reducible refine wpList_store_st (o := ⟨none, .store 45 _ _, _, _, _, _⟩) rfl 45 _ _ rfl BB rfl rfl (run_storeAt_row _ BB 45 45 (rgZ 0 0 0 0 0 0 0 eT) (rgZ 4 a ((a : Int) + 1) 0 0 0 0 eT) ?_ ?_ ?_ ?_) ?_); exact HR.out; exact infoRg; rfl; exact rg_one _ _ _ 0 _ _ _ _ _)
  exact bodyPost_ret (v := .agg (rgZ 4 a ((a : Int) + 1) 0 0 0 0 eT)) (results_cell_row rfl _ _ BB 45 (rgZ 4 a ((a : Int) + 1) 0 0 0 0 eT) (0, 0) _ rfl (Blk.setRow HR.out) Tryz.underlying45 rfl infoRg) rfl ⟨by rw [rgZ_eq]; rfl, below_row HB.out hBB2 _⟩
set_option maxRecDepth 100000 in
set_option maxHeartbeats 8000000 in
theorem repBegins_calls (b : Nat) (hb : b < 256) (w : World) : Calls Tryz.prog 100 #[.agg #[], .int .u8 b] w fun en w' => en = .returned (.bool ([42, 43, 63, 123].contains b)) ∧ Below w.heap.size w w' := by
  have HS := Lib.hid (isRep_calls b hb)
  generalize ([42, 43, 63, 123].contains b) = x at *
  go_enter Tryz.func100, Tryz.ntmps100
  go_wp2_with fail
  refine (HS.out _).mono ?_
  rintro en w2 ⟨rfl, rfl⟩
  clear HS
  go_wp2_with fail
  go_ret
  exact ⟨rfl, by go_grown⟩
set_option maxRecDepth 100000 in
set_option maxHeartbeats 8000000 in
theorem oneBegins_calls (b : Nat) (w : World) : Calls Tryz.prog 130 #[.agg #[], .int .u8 b] w fun en w' => en = .returned (.bool (b != 94 && b != 36)) ∧ Below w.heap.size w w' := by
  have q : ((b : Int) != 94) = (b != 94) := by rw [Bool.eq_iff_iff, bne_iff_ne, bne_iff_ne]; omega
  have q2 : ((b : Int) != 36) = (b != 36) := by rw [Bool.eq_iff_iff, bne_iff_ne, bne_iff_ne]; omega
  cases h : (b != 94) with
  | false =>
    rw [h] at q
    clear h
    go_enter Tryz.func130, Tryz.ntmps130
    go_wp2_with fail
    go_ret
    exact ⟨rfl, by go_grown⟩
  | true =>
    rw [h] at q
    clear h
    go_enter Tryz.func130, Tryz.ntmps130
    go_wp2_with fail
    go_ret
    exact ⟨rfl, by go_grown⟩
set_option maxRecDepth 100000 in
set_option maxHeartbeats 8000000 in
theorem repRead_calls (s : ByteArray) (hs : s.size ≤ 1000000) (a : Nat) (w : World) : Calls Tryz.prog 103 #[.agg #[], .string s, .int .i64 a] w fun en w' => en = .returned (.agg (rgA (cntW s a) (ofT (readD4 s a).lack))) ∧ Below w.heap.size w w' := by
  have h1 := bRead_calls s hs a
  have hL := (lackN_read s a).1
  have HLK := Lib.hid (fun w => lackD4_calls s hs a w)
  have hY : cntW s a = if (readN s a).2.2.2.1 ≠ 0 then (zWN, (readN s a).2.2.2.1, (readN s a).2.2.2.2) else (⟨5, a, (readN s a).2.2.1, 0, (readN s a).1, (readN s a).2.1⟩, 0, 0) := rfl
  generalize readN s a = R at *
  obtain ⟨n, m, p, e, k⟩ := R
  have HRD : Hid (∀ w, Calls Tryz.prog 105 #[.string s, .int .i64 a] w fun e' w' => e' = .returned (.tuple #[.agg #[.int .i64 n, .int .i64 m], .int .i64 p, .int .i64 e, .int .i64 k]) ∧ Below w.heap.size w w') := Lib.hid h1
  clear h1
  have HY : Hid (cntW s a = if e ≠ 0 then (zWN, e, k) else (⟨5, a, p, 0, n, m⟩, 0, 0)) := Lib.hid hY
  have HL : Hid (e ≠ 2 → ofT (readD4 s a).lack = eT) := Lib.hid hL
  clear hL hY
  generalize ofT (readD4 s a).lack = l at *
  generalize cntW s a = Y at *
  have HR := Lib.hid (Blk.new (w.alloc (.cells #[] 91)) (rgZ 0 0 0 0 0 0 0 eT) 45)
  rw [World.size_alloc] at HR
  have HB : Hid (Below w.heap.size w ((w.alloc (.cells #[] 91)).alloc (.cells (rgZ 0 0 0 0 0 0 0 eT) 45))) := Lib.hid (by go_grown)
  have hz : w.heap.size + 2 ≤ ((w.alloc (.cells #[] 91)).alloc (.cells (rgZ 0 0 0 0 0 0 0 eT) 45)).heap.size := by simp
  go_enter Tryz.func103, Tryz.ntmps103
  go_upto_region 1 with fail
  have e0 : (w.alloc (.cells #[] 91)).alloc (.cells #[.int .i64 0, .int .i64 0, .int .i64 0, .int .u64 0, .int .u64 0, .int .u64 0, .int .u64 0, .int .i64 0, .int .i64 0, .int .i64 0, .int .i64 0, .string ⟨#[]⟩] 45) = (w.alloc (.cells #[] 91)).alloc (.cells (rgZ 0 0 0 0 0 0 0 eT) 45) := rfl
  try rw [e0]
  clear e0
  generalize (w.alloc (.cells #[] 91)).alloc (.cells (rgZ 0 0 0 0 0 0 0 eT) 45) = w1 at *
  generalize hBB : w.heap.size + 1 = BB at HR
  have hBB2 : w.heap.size ≤ BB := by omega
  go_wp2_with fail
  refine (HRD.out _).mono ?_
  rintro en w2 ⟨rfl, hb⟩
  replace HR := Lib.hid (HR.out.below hb (Blk.lt HR.out))
  replace HB := Lib.hid (HB.out.trans (hb.mono (by omega)))
  replace hz := Nat.le_trans hz hb.size
  clear hb HRD
  go_upto_region 2 with fail
  have HC := Lib.hid (Blk.new w2 (spI n m) 128)
  replace HR := Lib.hid (HR.out.alloc (.cells (spI n m) 128))
  replace HB := Lib.hid (HB.out.alloc (by omega) (.cells (spI n m) 128))
  have hz3 : w.heap.size + 1 ≤ (w2.alloc (.cells (spI n m) 128)).heap.size := by simp; omega
  generalize w2.alloc (.cells (spI n m) 128) = w3 at *
  generalize w2.heap.size = B at *
  by_cases he : e = 0
  · subst he
    have hl : l = eT := HL.out (by decide)
    have hY : Y = (⟨5, a, p, 0, n, m⟩, 0, 0) := by rw [HY.out, if_neg (by decide)]
    subst hl hY
    have c0 := HC.out.cell 0
    have c1 := HC.out.cell 1
    simp only [List.getElem?_toArray, List.getElem?_cons_zero, List.getElem?_cons_succ] at c0 c1
    clear HL HY HLK hz HC
    go_wp2_with ((with_reducible refine wpList_store_st (o := ⟨none, .store 45 _ _, _, _, _, _⟩) rfl 45 _ _ rfl BB rfl rfl (run_storeAt_row _ BB 45 45 (rgZ 0 0 0 0 0 0 0 eT) (rgZ 5 a p n m 0 0 eT) ?_ ?_ ?_ ?_) ?_); exact HR.out; exact infoRg; rfl; exact rg_one _ _ _ 0 _ _ _ _ _)
    exact bodyPost_ret (v := .agg (rgZ 5 a p n m 0 0 eT)) (results_cell_row rfl _ _ BB 45 (rgZ 5 a p n m 0 0 eT) (0, 0) _ rfl (Blk.setRow HR.out) Tryz.underlying45 rfl infoRg) rfl ⟨by rw [rgZ_eq]; rfl, below_row HB.out hBB2 _⟩
  · have q : ((e : Int) != 0) = true := by rw [bne_iff_ne]; omega
    have hY : Y = (zWN, e, k) := by rw [HY.out, if_pos he]
    subst hY
    clear HL HY HC hz he
    go_wp2_with fail
    refine (HLK.out _).mono ?_
    rintro en w4 ⟨rfl, hb⟩
    replace HR := Lib.hid (HR.out.below hb (Blk.lt HR.out))
    replace HB := Lib.hid (HB.out.trans (hb.mono (by omega)))
    clear hb HLK
    go_wp2_with ((with_reducible refine wpList_store_st (o := ⟨none, .store 45 _ _, _, _, _, _⟩) rfl 45 _ _ rfl BB rfl rfl (run_storeAt_row _ BB 45 45 (rgZ 0 0 0 0 0 0 0 eT) (rgZ 0 0 0 0 0 e k l) ?_ ?_ ?_ ?_) ?_); exact HR.out; exact infoRg; rfl; exact rg_one _ _ _ 0 _ _ _ _ _)
    exact bodyPost_ret (v := .agg (rgZ 0 0 0 0 0 e k l)) (results_cell_row rfl _ _ BB 45 (rgZ 0 0 0 0 0 e k l) (0, 0) _ rfl (Blk.setRow HR.out) Tryz.underlying45 rfl infoRg) rfl ⟨by rw [rgZ_eq]; rfl, below_row HB.out hBB2 _⟩

/-- What One reads at a byte that begins no other kind, and what lacks there. -/
def oneR (s : ByteArray) (a : Nat) : WN × Nat × Nat :=
  if bt s a = 91 then brkW s a else if bt s a = 92 then slashW s a else if bt s a = 46 then (oneW (range 0 255) a (a + 1), 0, 0) else (oneW (range (bt s a) (bt s a)) a (a + 1), 0, 0)
def oneL (s : ByteArray) (a : Nat) : ByteArray := if bt s a = 91 then (wholeD s a).lack else if bt s a = 92 then lackS s a else eT
theorem anyS : (~~~(0 : BitVec 256)) = range 0 255 := by decide +kernel
set_option maxRecDepth 100000 in
set_option maxHeartbeats 8000000 in
theorem oneRead_calls (s : ByteArray) (hs : s.size ≤ 1000000) (a : Nat) (ha : a < s.size) (w : World) : Calls Tryz.prog 133 #[.agg #[], .string s, .int .i64 a] w fun en w' => en = .returned (.agg (rgA (oneR s a) (oneL s a))) ∧ Below w.heap.size w w' := by
  have x1 : IntKind.i64.wrap ((a : Int) + 1) = (a : Int) + 1 := IntWalk.i64_in _ (by omega)
  have h0 : s[a].toNat = bt s a := (bt_eq s a ha).symm
  have hl0 := bt_lt s a
  have HB1 := Lib.hid (fun w => inB5_calls s hs a w)
  have HE1 := Lib.hid (fun w => esc5_calls s hs a ha w)
  have HY := Lib.hid (show oneR s a = if bt s a = 91 then brkW s a else if bt s a = 92 then slashW s a else if bt s a = 46 then (oneW (range 0 255) a (a + 1), 0, 0) else (oneW (range (bt s a) (bt s a)) a (a + 1), 0, 0) from rfl)
  have HL := Lib.hid (show oneL s a = if bt s a = 91 then (wholeD s a).lack else if bt s a = 92 then lackS s a else eT from rfl)
  generalize oneR s a = Y at *
  generalize oneL s a = l at *
  generalize brkW s a = YB at *
  generalize (wholeD s a).lack = lB at *
  generalize slashW s a = YS at *
  generalize lackS s a = lS at *
  have HR := Lib.hid (Blk.new (w.alloc (.cells #[] 92)) (rgZ 0 0 0 0 0 0 0 eT) 45)
  rw [World.size_alloc] at HR
  have HB : Hid (Below w.heap.size w ((w.alloc (.cells #[] 92)).alloc (.cells (rgZ 0 0 0 0 0 0 0 eT) 45))) := Lib.hid (by go_grown)
  have hz : w.heap.size + 2 ≤ ((w.alloc (.cells #[] 92)).alloc (.cells (rgZ 0 0 0 0 0 0 0 eT) 45)).heap.size := by simp
  go_enter Tryz.func133, Tryz.ntmps133
  go_upto_region 1 with fail
  have e0 : (w.alloc (.cells #[] 92)).alloc (.cells #[.int .i64 0, .int .i64 0, .int .i64 0, .int .u64 0, .int .u64 0, .int .u64 0, .int .u64 0, .int .i64 0, .int .i64 0, .int .i64 0, .int .i64 0, .string ⟨#[]⟩] 45) = (w.alloc (.cells #[] 92)).alloc (.cells (rgZ 0 0 0 0 0 0 0 eT) 45) := rfl
  try rw [e0]
  clear e0
  generalize (w.alloc (.cells #[] 92)).alloc (.cells (rgZ 0 0 0 0 0 0 0 eT) 45) = w1 at *
  generalize hBB : w.heap.size + 1 = BB at HR
  have hBB2 : w.heap.size ≤ BB := by omega
  generalize bt s a = b at *
  by_cases h1 : b = 91
  · have q : ((b : Int) == 91) = true := by rw [beq_iff_eq]; omega
    obtain rfl : Y = YB := by rw [HY.out, if_pos h1]
    obtain rfl : l = lB := by rw [HL.out, if_pos h1]
    clear HY HL HE1 h1
    obtain ⟨⟨k, p, e, t, n, m⟩, er, pl⟩ := Y
    go_wp2_with fail
    refine (HB1.out _).mono ?_
    rintro en w2 ⟨rfl, hb⟩
    replace HR := Lib.hid (HR.out.below hb (Blk.lt HR.out))
    replace HB := Lib.hid (HB.out.trans (hb.mono (by omega)))
    replace hz := Nat.le_trans hz hb.size
    clear hb HB1
    go_wp2_with ((with_reducible refine wpList_store_st (o := ⟨none, .store 45 _ _, _, _, _, _⟩) rfl 45 _ _ rfl BB rfl rfl (run_storeAt_row _ BB 45 45 (rgZ 0 0 0 0 0 0 0 eT) (rgI k p e t n m er pl l) ?_ ?_ ?_ ?_) ?_); exact HR.out; exact infoRg; rfl; exact rg_one _ _ _ _ _ _ _ _ _)
    exact bodyPost_ret (v := .agg (rgI k p e t n m er pl l)) (results_cell_row rfl _ _ BB 45 (rgI k p e t n m er pl l) (0, 0) _ rfl (Blk.setRow HR.out) Tryz.underlying45 rfl infoRg) rfl ⟨rfl, below_row HB.out hBB2 _⟩
  have q : ((b : Int) == 91) = false := by rw [beq_eq_false_iff_ne]; omega
  by_cases h2 : b = 92
  · have q2 : ((b : Int) == 92) = true := by rw [beq_iff_eq]; omega
    obtain rfl : Y = YS := by rw [HY.out, if_neg h1, if_pos h2]
    obtain rfl : l = lS := by rw [HL.out, if_neg h1, if_pos h2]
    clear HY HL HB1 h1 h2
    obtain ⟨⟨k, p, e, t, n, m⟩, er, pl⟩ := Y
    go_wp2_with fail
    refine (HE1.out _).mono ?_
    rintro en w2 ⟨rfl, hb⟩
    replace HR := Lib.hid (HR.out.below hb (Blk.lt HR.out))
    replace HB := Lib.hid (HB.out.trans (hb.mono (by omega)))
    replace hz := Nat.le_trans hz hb.size
    clear hb HE1
    go_wp2_with ((with_reducible refine wpList_store_st (o := ⟨none, .store 45 _ _, _, _, _, _⟩) rfl 45 _ _ rfl BB rfl rfl (run_storeAt_row _ BB 45 45 (rgZ 0 0 0 0 0 0 0 eT) (rgI k p e t n m er pl l) ?_ ?_ ?_ ?_) ?_); exact HR.out; exact infoRg; rfl; exact rg_one _ _ _ _ _ _ _ _ _)
    exact bodyPost_ret (v := .agg (rgI k p e t n m er pl l)) (results_cell_row rfl _ _ BB 45 (rgI k p e t n m er pl l) (0, 0) _ rfl (Blk.setRow HR.out) Tryz.underlying45 rfl infoRg) rfl ⟨rfl, below_row HB.out hBB2 _⟩
  have q2 : ((b : Int) == 92) = false := by rw [beq_eq_false_iff_ne]; omega
  obtain rfl : l = eT := by rw [HL.out, if_neg h1, if_neg h2]
  by_cases h3 : b = 46
  · have q3 : ((b : Int) == 46) = true := by rw [beq_iff_eq]; omega
    obtain rfl : Y = (oneW (range 0 255) a (a + 1), 0, 0) := by rw [HY.out, if_neg h1, if_neg h2, if_pos h3]
    have hAN := cAny_calls
    rw [anyS] at hAN
    have HAN := Lib.hid hAN
    clear hAN
    generalize hT : range 0 255 = t at *
    have HTT := Lib.hid hT
    clear hT
    have HO := Lib.hid (fun w => oneOf5_calls t a ((a : Int) + 1) w)
    clear HY HL HB1 HE1 h1 h2 h3
    go_wp2_with fail
    refine (HAN.out _).mono ?_
    rintro en w2 ⟨rfl, hb⟩
    replace HR := Lib.hid (HR.out.below hb (Blk.lt HR.out))
    replace HB := Lib.hid (HB.out.trans (hb.mono (by omega)))
    replace hz := Nat.le_trans hz hb.size
    clear hb HAN
    go_wp2_with fail
    refine (HO.out _).mono ?_
    rintro en w3 ⟨rfl, hb⟩
    replace HR := Lib.hid (HR.out.below hb (Blk.lt HR.out))
    replace HB := Lib.hid (HB.out.trans (hb.mono (by omega)))
    replace hz := Nat.le_trans hz hb.size
    clear hb HO
    go_wp2_with ((with_reducible refine wpList_store_st (o := ⟨none, .store 45 _ _, _, _, _, _⟩) rfl 45 _ _ rfl BB rfl rfl (run_storeAt_row _ BB 45 45 (rgZ 0 0 0 0 0 0 0 eT) (rgI 1 a ((a : Int) + 1) t 0 0 0 0 eT) ?_ ?_ ?_ ?_) ?_); exact HR.out; exact infoRg; rfl; exact rg_one _ _ _ _ _ _ _ _ _)
    exact bodyPost_ret (v := .agg (rgI 1 a ((a : Int) + 1) t 0 0 0 0 eT)) (results_cell_row rfl _ _ BB 45 (rgI 1 a ((a : Int) + 1) t 0 0 0 0 eT) (0, 0) _ rfl (Blk.setRow HR.out) Tryz.underlying45 rfl infoRg) rfl ⟨by rw [rgA_one, HTT.out], below_row HB.out hBB2 _⟩
  have q3 : ((b : Int) == 46) = false := by rw [beq_eq_false_iff_ne]; omega
  obtain rfl : Y = (oneW (range b b) a (a + 1), 0, 0) := by rw [HY.out, if_neg h1, if_neg h2, if_neg h3]
  have HWT := Lib.hid (fun W t => dWith_calls W t b hl0)
  generalize hT : range b b = t at *
  have HTT := Lib.hid hT
  clear hT
  have HO := Lib.hid (fun w => oneOf5_calls t a ((a : Int) + 1) w)
  clear HY HL HB1 HE1 h1 h2 h3
  go_wp2_with fail
  replace HR := Lib.hid (HR.out.alloc (.cells #[.int .u8 b] 5))
  replace HB := Lib.hid (HB.out.alloc (by omega) (.cells #[.int .u8 b] 5))
  have hz3 : w.heap.size + 2 ≤ (w1.alloc (.cells #[.int .u8 b] 5)).heap.size := by simp; omega
  clear hz
  have hz := hz3
  clear hz3
  refine Calls.mono (HWT.out w1 _) ?_
  rintro en w4 ⟨rfl, hb⟩
  replace HR := Lib.hid (HR.out.below hb (Blk.lt HR.out))
  replace HB := Lib.hid (HB.out.trans (hb.mono (by omega)))
  replace hz := Nat.le_trans hz hb.size
  clear hb HWT
  go_wp2_with fail
  refine (HO.out _).mono ?_
  rintro en w5 ⟨rfl, hb⟩
  replace HR := Lib.hid (HR.out.below hb (Blk.lt HR.out))
  replace HB := Lib.hid (HB.out.trans (hb.mono (by omega)))
  replace hz := Nat.le_trans hz hb.size
  clear hb HO
  go_wp2_with ((with_reducible refine wpList_store_st (o := ⟨none, .store 45 _ _, _, _, _, _⟩) rfl 45 _ _ rfl BB rfl rfl (run_storeAt_row _ BB 45 45 (rgZ 0 0 0 0 0 0 0 eT) (rgI 1 a ((a : Int) + 1) t 0 0 0 0 eT) ?_ ?_ ?_ ?_) ?_); exact HR.out; exact infoRg; rfl; exact rg_one _ _ _ _ _ _ _ _ _)
  exact bodyPost_ret (v := .agg (rgI 1 a ((a : Int) + 1) t 0 0 0 0 eT)) (results_cell_row rfl _ _ BB 45 (rgI 1 a ((a : Int) + 1) t 0 0 0 0 eT) (0, 0) _ rfl (Blk.setRow HR.out) Tryz.underlying45 rfl infoRg) rfl ⟨by rw [rgA_one, HTT.out], below_row HB.out hBB2 _⟩
end Go.Proofs.YtpaecjjelpjopaaGreatDoor

/- Texts put together: Wq Wr Ws Jf. -/
import Derived.Test.YthodphgbdmnpoaaGreatDoorPM
import Derived.Test.YthodphgbdmnpoaaGreatDoorPN
import Derived.Test.YthodphgbdmnpoaaGreatDoorPK
import Derived.Test.YthodphgbdmnpoaaGreatDoorPB
import Derived.Test.YthodphgbdmnpoaaGreatDoorPC
import Derived.Test.YthodphgbdmnpoaaGreatDoorPL
/- The developers' words: what each kind reads, what it begins with. -/
namespace Go.Proofs.YthodphgbdmnpoaaGreatDoor
open Go.RowKit Go.Shelf BS

/-- A reading of a word, or an error and its place, and what lacks. -/
@[reducible] def rgA (X : WN × Nat × Nat) (l : ByteArray) : Array Value := rgI X.1.kind X.1.pos X.1.fin X.1.set X.1.n X.1.m X.2.1 X.2.2 l
theorem rgA_one (t : BitVec 256) (a : Nat) (l : ByteArray) : rgA (oneW t a (a + 1), 0, 0) l = rgI 1 a ((a : Int) + 1) t 0 0 0 0 l := by
  have e : ((a + 1 : Nat) : Int) = (a : Int) + 1 := by omega
  show rgI 1 a ((a + 1 : Nat) : Int) t 0 0 0 0 l = _
  rw [e]
theorem rgA_two (t : BitVec 256) (a : Nat) (l : ByteArray) : rgA (oneW t a (a + 2), 0, 0) l = rgI 1 a ((a : Int) + 2) t 0 0 0 0 l := by
  have e : ((a + 2 : Nat) : Int) = (a : Int) + 2 := by omega
  show rgI 1 a ((a + 2 : Nat) : Int) t 0 0 0 0 l = _
  rw [e]
set_option maxRecDepth 100000 in
set_option maxHeartbeats 8000000 in
theorem inB5_calls (s : ByteArray) (hs : s.size ≤ 1000000) (a : Nat) (w : World) : Calls Tryz.prog 122 #[.string s, .int .i64 a] w fun en w' => en = .returned (.agg (rgA (brkW s a) (wholeD s a).lack)) ∧ Below w.heap.size w w' := by
  obtain ⟨t, p, e, k, hR⟩ : ∃ t p e k, readR s a = (t, p, e, k) := ⟨_, _, _, _, rfl⟩
  have hL := lackE s a t p e k _ hR rfl
  have HRD := Lib.hid (fun w => dRead s hs a t p e k hR w)
  have HLK := Lib.hid (fun w => lackD_calls s hs a w)
  have hY : brkW s a = if e ≠ 0 then (zWN, e, k) else (oneW t a p, 0, 0) := by unfold brkW; rw [hR]
  generalize (wholeD s a).lack = l at *
  generalize brkW s a = Y at *
  clear hR
  have HL := Lib.hid hL
  have HY := Lib.hid hY
  clear hL hY
  have HR := Lib.hid (Blk.new w (rgZ 0 0 0 0 0 0 0 eT) 89)
  have HB : Hid (Below w.heap.size w (w.alloc (.cells (rgZ 0 0 0 0 0 0 0 eT) 89))) := Lib.hid (by go_grown)
  have hz : w.heap.size + 1 ≤ (w.alloc (.cells (rgZ 0 0 0 0 0 0 0 eT) 89)).heap.size := by simp
  go_enter Tryz.func122, Tryz.ntmps122
  go_upto_region 1 with fail
  have e0 : w.alloc (.cells #[.int .i64 0, .int .i64 0, .int .i64 0, .int .u64 0, .int .u64 0, .int .u64 0, .int .u64 0, .int .i64 0, .int .i64 0, .int .i64 0, .int .i64 0, .string ⟨#[]⟩] 89) = w.alloc (.cells (rgZ 0 0 0 0 0 0 0 eT) 89) := rfl
  try rw [e0]
  clear e0
  generalize w.alloc (.cells (rgZ 0 0 0 0 0 0 0 eT) 89) = w1 at *
  go_wp2_with fail
  refine (HRD.out _).mono ?_
  rintro en w2 ⟨rfl, hb⟩
  replace HR := Lib.hid (HR.out.below hb (Blk.lt HR.out))
  replace HB := Lib.hid (HB.out.trans (hb.mono (by omega)))
  replace hz := Nat.le_trans hz hb.size
  clear hb HRD
  go_upto_region 2 with fail
  have HC := Lib.hid (Blk.new w2 (setA t) 30)
  have hwB : w.heap.size < w2.heap.size := by omega
  replace HR := Lib.hid (HR.out.alloc (.cells (setA t) 30))
  replace HB := Lib.hid (HB.out.alloc (by omega) (.cells (setA t) 30))
  have e0 : w2.alloc (.cells #[.int .u64 (wd t 0), .int .u64 (wd t 1), .int .u64 (wd t 2), .int .u64 (wd t 3)] 30) = w2.alloc (.cells (setA t) 30) := rfl
  try rw [e0]
  clear e0
  have hz3 : w.heap.size + 1 ≤ (w2.alloc (.cells (setA t) 30)).heap.size := by simp; omega
  generalize w2.alloc (.cells (setA t) 30) = w3 at *
  generalize w2.heap.size = B at *
  by_cases he : e = 0
  · subst he
    have hl : l = eT := by
      rcases HL.out with h | h
      · exact h.2
      · exact absurd h.1 (by decide)
    have hY : Y = (oneW t a p, 0, 0) := by rw [HY.out, if_neg (by decide)]
    subst hl hY
    have HO := Lib.hid (fun w => oneOf5_calls t a p w)
    obtain ⟨⟨c0, c1, c2, c3⟩, _⟩ := HC.out.cells4
    clear HL HY HLK hz
    go_wp2_with fail
    refine (HO.out _).mono ?_
    rintro en w4 ⟨rfl, hb⟩
    replace HR := Lib.hid (HR.out.below hb (Blk.lt HR.out))
    replace HB := Lib.hid (HB.out.trans (hb.mono (by omega)))
    clear hb HO c0 c1 c2 c3 HC
    go_wp2_with ((with_reducible refine wpList_store_st (o := ⟨none, .store 89 _ _, _, _, _, _⟩) rfl 89 _ _ rfl w.heap.size rfl rfl (run_storeAt_row _ w.heap.size 89 89 (rgZ 0 0 0 0 0 0 0 eT) (rgI 1 a p t 0 0 0 0 eT) ?_ ?_ ?_ ?_) ?_); exact HR.out; exact infoRg; rfl; exact rg_one _ _ _ _ _ _ _ _ _)
    exact bodyPost_ret (v := .agg (rgI 1 a p t 0 0 0 0 eT)) (results_cell_row rfl _ _ w.heap.size 89 (rgI 1 a p t 0 0 0 0 eT) (0, 0) _ rfl (Blk.setRow HR.out) Tryz.underlying89 rfl infoRg) rfl ⟨rfl, below_row HB.out (Nat.le_refl _) _⟩
  · have q : ((e : Int) != 0) = true := by rw [bne_iff_ne]; omega
    have hY : Y = (zWN, e, k) := by rw [HY.out, if_pos he]
    subst hY
    clear HL HY HC hz he
    go_wp2_with fail
    refine (HLK.out _).mono ?_
    rintro en w4 ⟨rfl, hb⟩
    replace HR := Lib.hid (HR.out.below hb (Blk.lt HR.out))
    replace HB := Lib.hid (HB.out.trans (hb.mono (by omega)))
    clear hb HLK
    go_wp2_with ((with_reducible refine wpList_store_st (o := ⟨none, .store 89 _ _, _, _, _, _⟩) rfl 89 _ _ rfl w.heap.size rfl rfl (run_storeAt_row _ w.heap.size 89 89 (rgZ 0 0 0 0 0 0 0 eT) (rgZ 0 0 0 0 0 e k l) ?_ ?_ ?_ ?_) ?_); exact HR.out; exact infoRg; rfl; exact rg_one _ _ _ 0 _ _ _ _ _)
    exact bodyPost_ret (v := .agg (rgZ 0 0 0 0 0 e k l)) (results_cell_row rfl _ _ w.heap.size 89 (rgZ 0 0 0 0 0 e k l) (0, 0) _ rfl (Blk.setRow HR.out) Tryz.underlying89 rfl infoRg) rfl ⟨by rw [rgZ_eq]; rfl, below_row HB.out (Nat.le_refl _) _⟩

/-- What lacks to a backslash. -/
def lackS (s : ByteArray) (a : Nat) : ByteArray := if s.size ≤ a + 1 then ofT [46] else eT
set_option maxRecDepth 100000 in
set_option maxHeartbeats 8000000 in
theorem esc5_calls (s : ByteArray) (hs : s.size ≤ 1000000) (a : Nat) (ha : a < s.size) (w : World) : Calls Tryz.prog 123 #[.string s, .int .i64 a] w fun en w' => en = .returned (.agg (rgA (slashW s a) (lackS s a))) ∧ Below w.heap.size w w' := by
  have x2 : IntKind.i64.wrap ((a : Int) + 2) = (a : Int) + 2 := IntWalk.i64_in _ (by omega)
  have x1 : IntKind.i64.wrap ((a : Int) + 1) = (a : Int) + 1 := IntWalk.i64_in _ (by omega)
  have xs : IntKind.i64.wrap (s.size : Int) = s.size := IntWalk.i64_in _ (by omega)
  have HY := Lib.hid (show slashW s a = if s.size ≤ a + 1 then (zWN, 2, s.size) else if four14 (bt s (a + 1)) = false then (zWN, 3, a + 2) else (oneW (range (bt s (a + 1)) (bt s (a + 1))) a (a + 2), 0, 0) from rfl)
  have HL := Lib.hid (show lackS s a = if s.size ≤ a + 1 then ofT [46] else eT from rfl)
  generalize slashW s a = Y at *
  generalize lackS s a = l at *
  have HR := Lib.hid (Blk.new w (rgZ 0 0 0 0 0 0 0 eT) 89)
  have HB : Hid (Below w.heap.size w (w.alloc (.cells (rgZ 0 0 0 0 0 0 0 eT) 89))) := Lib.hid (by go_grown)
  have hz : w.heap.size + 1 ≤ (w.alloc (.cells (rgZ 0 0 0 0 0 0 0 eT) 89)).heap.size := by simp
  go_enter Tryz.func123, Tryz.ntmps123
  go_upto_region 1 with fail
  have e0 : w.alloc (.cells #[.int .i64 0, .int .i64 0, .int .i64 0, .int .u64 0, .int .u64 0, .int .u64 0, .int .u64 0, .int .i64 0, .int .i64 0, .int .i64 0, .int .i64 0, .string ⟨#[]⟩] 89) = w.alloc (.cells (rgZ 0 0 0 0 0 0 0 eT) 89) := rfl
  try rw [e0]
  clear e0
  generalize w.alloc (.cells (rgZ 0 0 0 0 0 0 0 eT) 89) = w1 at *
  by_cases hs1 : s.size ≤ a + 1
  · have q : decide ((s.size : Int) < (a : Int) + 2) = true := by rw [decide_eq_true_iff]; omega
    have hY : Y = (zWN, 2, s.size) := by rw [HY.out, if_pos hs1]
    have hl : l = ofT [46] := by rw [HL.out, if_pos hs1]
    subst hY hl
    clear HY HL hs1
    have hsl : ∀ w', (Instr.slice 9 (.string ⟨#[46, 91, 93, 92, 40, 41, 42, 43, 63, 123, 125, 124, 94, 36]⟩) none (some (.int .i64 1)) none).run Tryz.prog w' = .ok (.string (ofT [46])) w' := fun w' => by kernel_rfl
    go_wp2_with ((with_reducible refine wpList_store_st (o := ⟨none, .store 89 _ _, _, _, _, _⟩) rfl 89 _ _ rfl w.heap.size rfl rfl (run_storeAt_row _ w.heap.size 89 89 (rgZ 0 0 0 0 0 0 0 eT) (rgZ 0 0 0 0 0 2 s.size (ofT [46])) ?_ ?_ ?_ ?_) ?_); exact HR.out; exact infoRg; rfl; exact rg_one _ _ _ 0 _ _ _ _ _)
    exact bodyPost_ret (v := .agg (rgZ 0 0 0 0 0 2 s.size (ofT [46]))) (results_cell_row rfl _ _ w.heap.size 89 (rgZ 0 0 0 0 0 2 s.size (ofT [46])) (0, 0) _ rfl (Blk.setRow HR.out) Tryz.underlying89 rfl infoRg) rfl ⟨by rw [rgZ_eq]; rfl, below_row HB.out (Nat.le_refl _) _⟩
  have q : decide ((s.size : Int) < (a : Int) + 2) = false := by rw [decide_eq_false_iff_not]; omega
  have hl : l = eT := by rw [HL.out, if_neg hs1]
  subst hl
  clear HL
  have hlt : a + 1 < s.size := by omega
  have h0 : s[a + 1].toNat = bt s (a + 1) := (bt_eq s (a + 1) hlt).symm
  have hl0 := bt_lt s (a + 1)
  have HSG := Lib.hid (isSign_calls (bt s (a + 1)) hl0)
  generalize bt s (a + 1) = b at *
  cases hf : four14 b with
  | false =>
    have hY : Y = (zWN, 3, a + 2) := by rw [HY.out, if_neg hs1, if_pos hf]
    subst hY
    rw [hf] at HSG
    have HF := Lib.hid (fun w => fault5_calls 3 ((a : Int) + 2) w)
    clear HY hs1 hf
    go_wp2_with fail
    refine (HSG.out _).mono ?_
    rintro en w2 ⟨rfl, rfl⟩
    go_wp2_with fail
    refine (HF.out _).mono ?_
    rintro en w4 ⟨rfl, hb⟩
    replace HR := Lib.hid (HR.out.below hb (Blk.lt HR.out))
    replace HB := Lib.hid (HB.out.trans (hb.mono (by omega)))
    replace hz := Nat.le_trans hz hb.size
    clear hb HF
    go_wp2_with ((with_reducible refine wpList_store_st (o := ⟨none, .store 89 _ _, _, _, _, _⟩) rfl 89 _ _ rfl w.heap.size rfl rfl (run_storeAt_row _ w.heap.size 89 89 (rgZ 0 0 0 0 0 0 0 eT) (rgZ 0 0 0 0 0 3 ((a : Int) + 2) eT) ?_ ?_ ?_ ?_) ?_); exact HR.out; exact infoRg; rfl; exact rg_one _ _ _ 0 _ _ _ _ _)
    exact bodyPost_ret (v := .agg (rgZ 0 0 0 0 0 3 ((a : Int) + 2) eT)) (results_cell_row rfl _ _ w.heap.size 89 (rgZ 0 0 0 0 0 3 ((a : Int) + 2) eT) (0, 0) _ rfl (Blk.setRow HR.out) Tryz.underlying89 rfl infoRg) rfl ⟨by rw [rgZ_eq]; rfl, below_row HB.out (Nat.le_refl _) _⟩
  | true =>
    have hY : Y = (oneW (range b b) a (a + 2), 0, 0) := by rw [HY.out, if_neg hs1, if_neg (by rw [hf]; decide)]
    subst hY
    rw [hf] at HSG
    have HWT := Lib.hid (fun W t => dWith_calls W t b hl0)
    generalize hT : range b b = t at *
    have HTT := Lib.hid hT
    clear hT
    have HO := Lib.hid (fun w => oneOf5_calls t a ((a : Int) + 2) w)
    clear HY hs1 hf
    go_wp2_with fail
    refine (HSG.out _).mono ?_
    rintro en w2 ⟨rfl, rfl⟩
    clear HSG
    go_wp2_with fail
    replace HR := Lib.hid (HR.out.alloc (.cells #[.int .u8 b] 5))
    replace HB := Lib.hid (HB.out.alloc (by omega) (.cells #[.int .u8 b] 5))
    have hz3 : w.heap.size + 1 ≤ (w1.alloc (.cells #[.int .u8 b] 5)).heap.size := by simp; omega
    clear hz
    have hz := hz3
    clear hz3
    refine Calls.mono (HWT.out w1 _) ?_
    rintro en w4 ⟨rfl, hb⟩
    replace HR := Lib.hid (HR.out.below hb (Blk.lt HR.out))
    replace HB := Lib.hid (HB.out.trans (hb.mono (by omega)))
    replace hz := Nat.le_trans hz hb.size
    clear hb HWT
    go_wp2_with fail
    refine (HO.out _).mono ?_
    rintro en w5 ⟨rfl, hb⟩
    replace HR := Lib.hid (HR.out.below hb (Blk.lt HR.out))
    replace HB := Lib.hid (HB.out.trans (hb.mono (by omega)))
    replace hz := Nat.le_trans hz hb.size
    clear hb HO
    go_wp2_with ((with_reducible refine wpList_store_st (o := ⟨none, .store 89 _ _, _, _, _, _⟩) rfl 89 _ _ rfl w.heap.size rfl rfl (run_storeAt_row _ w.heap.size 89 89 (rgZ 0 0 0 0 0 0 0 eT) (rgI 1 a ((a : Int) + 2) t 0 0 0 0 eT) ?_ ?_ ?_ ?_) ?_); exact HR.out; exact infoRg; rfl; exact rg_one _ _ _ _ _ _ _ _ _)
    exact bodyPost_ret (v := .agg (rgI 1 a ((a : Int) + 2) t 0 0 0 0 eT)) (results_cell_row rfl _ _ w.heap.size 89 (rgI 1 a ((a : Int) + 2) t 0 0 0 0 eT) (0, 0) _ rfl (Blk.setRow HR.out) Tryz.underlying89 rfl infoRg) rfl ⟨by rw [rgA_two, HTT.out], below_row HB.out (Nat.le_refl _) _⟩
set_option maxRecDepth 100000 in
set_option maxHeartbeats 8000000 in
theorem openBegins_calls (b : Nat) (w : World) : Calls Tryz.prog 90 #[.agg #[], .int .u8 b] w fun en w' => en = .returned (.bool (b == 40)) ∧ Below w.heap.size w w' := by
  have q : ((b : Int) == 40) = (b == 40) := by rw [Bool.eq_iff_iff, beq_iff_eq, beq_iff_eq]; omega
  go_enter Tryz.func90, Tryz.ntmps90
  go_wp2_with fail
  go_ret
  exact ⟨rfl, by go_grown⟩
set_option maxRecDepth 100000 in
set_option maxHeartbeats 8000000 in
theorem openRead_calls (s : ByteArray) (hs : s.size ≤ 1000000) (a : Nat) (ha : a < s.size) (w : World) : Calls Tryz.prog 93 #[.agg #[], .string s, .int .i64 a] w fun en w' => en = .returned (.agg (rgA ((⟨2, a, a + 1, 0, 0, 0⟩, 0, 0)) eT)) ∧ Below w.heap.size w w' := by
  have HS := Lib.hid (fun w => sign5_calls 2 a (by omega) w)
  have HR := Lib.hid (Blk.new (w.alloc (.cells #[] 113)) (rgZ 0 0 0 0 0 0 0 eT) 89)
  rw [World.size_alloc] at HR
  have HB : Hid (Below w.heap.size w ((w.alloc (.cells #[] 113)).alloc (.cells (rgZ 0 0 0 0 0 0 0 eT) 89))) := Lib.hid (by go_grown)
  have hz : w.heap.size + 2 ≤ ((w.alloc (.cells #[] 113)).alloc (.cells (rgZ 0 0 0 0 0 0 0 eT) 89)).heap.size := by simp
  go_enter Tryz.func93, Tryz.ntmps93
  go_upto_region 1 with fail
  have e0 : (w.alloc (.cells #[] 113)).alloc (.cells #[.int .i64 0, .int .i64 0, .int .i64 0, .int .u64 0, .int .u64 0, .int .u64 0, .int .u64 0, .int .i64 0, .int .i64 0, .int .i64 0, .int .i64 0, .string ⟨#[]⟩] 89) = (w.alloc (.cells #[] 113)).alloc (.cells (rgZ 0 0 0 0 0 0 0 eT) 89) := rfl
  try rw [e0]
  clear e0
  generalize (w.alloc (.cells #[] 113)).alloc (.cells (rgZ 0 0 0 0 0 0 0 eT) 89) = w1 at *
  generalize hBB : w.heap.size + 1 = BB at HR
  have hBB2 : w.heap.size ≤ BB := by omega
  go_wp2_with fail
  refine (HS.out _).mono ?_
  rintro en w2 ⟨rfl, hb⟩
  replace HR := Lib.hid (HR.out.below hb (Blk.lt HR.out))
  replace HB := Lib.hid (HB.out.trans (hb.mono (by omega)))
  replace hz := Nat.le_trans hz hb.size
  clear hb HS
  go_wp2_with ((with_reducible refine wpList_store_st (o := ⟨none, .store 89 _ _, _, _, _, _⟩) rfl 89 _ _ rfl BB rfl rfl (run_storeAt_row _ BB 89 89 (rgZ 0 0 0 0 0 0 0 eT) (rgZ 2 a ((a : Int) + 1) 0 0 0 0 eT) ?_ ?_ ?_ ?_) ?_); exact HR.out; exact infoRg; rfl; exact rg_one _ _ _ 0 _ _ _ _ _)
  exact bodyPost_ret (v := .agg (rgZ 2 a ((a : Int) + 1) 0 0 0 0 eT)) (results_cell_row rfl _ _ BB 89 (rgZ 2 a ((a : Int) + 1) 0 0 0 0 eT) (0, 0) _ rfl (Blk.setRow HR.out) Tryz.underlying89 rfl infoRg) rfl ⟨by rw [rgZ_eq]; rfl, below_row HB.out hBB2 _⟩
set_option maxRecDepth 100000 in
set_option maxHeartbeats 8000000 in
theorem shutBegins_calls (b : Nat) (w : World) : Calls Tryz.prog 95 #[.agg #[], .int .u8 b] w fun en w' => en = .returned (.bool (b == 41)) ∧ Below w.heap.size w w' := by
  have q : ((b : Int) == 41) = (b == 41) := by rw [Bool.eq_iff_iff, beq_iff_eq, beq_iff_eq]; omega
  go_enter Tryz.func95, Tryz.ntmps95
  go_wp2_with fail
  go_ret
  exact ⟨rfl, by go_grown⟩
set_option maxRecDepth 100000 in
set_option maxHeartbeats 8000000 in
theorem shutRead_calls (s : ByteArray) (hs : s.size ≤ 1000000) (a : Nat) (ha : a < s.size) (w : World) : Calls Tryz.prog 98 #[.agg #[], .string s, .int .i64 a] w fun en w' => en = .returned (.agg (rgA ((⟨3, a, a + 1, 0, 0, 0⟩, 0, 0)) eT)) ∧ Below w.heap.size w w' := by
  have HS := Lib.hid (fun w => sign5_calls 3 a (by omega) w)
  have HR := Lib.hid (Blk.new (w.alloc (.cells #[] 114)) (rgZ 0 0 0 0 0 0 0 eT) 89)
  rw [World.size_alloc] at HR
  have HB : Hid (Below w.heap.size w ((w.alloc (.cells #[] 114)).alloc (.cells (rgZ 0 0 0 0 0 0 0 eT) 89))) := Lib.hid (by go_grown)
  have hz : w.heap.size + 2 ≤ ((w.alloc (.cells #[] 114)).alloc (.cells (rgZ 0 0 0 0 0 0 0 eT) 89)).heap.size := by simp
  go_enter Tryz.func98, Tryz.ntmps98
  go_upto_region 1 with fail
  have e0 : (w.alloc (.cells #[] 114)).alloc (.cells #[.int .i64 0, .int .i64 0, .int .i64 0, .int .u64 0, .int .u64 0, .int .u64 0, .int .u64 0, .int .i64 0, .int .i64 0, .int .i64 0, .int .i64 0, .string ⟨#[]⟩] 89) = (w.alloc (.cells #[] 114)).alloc (.cells (rgZ 0 0 0 0 0 0 0 eT) 89) := rfl
  try rw [e0]
  clear e0
  generalize (w.alloc (.cells #[] 114)).alloc (.cells (rgZ 0 0 0 0 0 0 0 eT) 89) = w1 at *
  generalize hBB : w.heap.size + 1 = BB at HR
  have hBB2 : w.heap.size ≤ BB := by omega
  go_wp2_with fail
  refine (HS.out _).mono ?_
  rintro en w2 ⟨rfl, hb⟩
  replace HR := Lib.hid (HR.out.below hb (Blk.lt HR.out))
  replace HB := Lib.hid (HB.out.trans (hb.mono (by omega)))
  replace hz := Nat.le_trans hz hb.size
  clear hb HS
  go_wp2_with ((with_reducible refine wpList_store_st (o := ⟨none, .store 89 _ _, _, _, _, _⟩) rfl 89 _ _ rfl BB rfl rfl (run_storeAt_row _ BB 89 89 (rgZ 0 0 0 0 0 0 0 eT) (rgZ 3 a ((a : Int) + 1) 0 0 0 0 eT) ?_ ?_ ?_ ?_) ?_); exact HR.out; exact infoRg; rfl; exact rg_one _ _ _ 0 _ _ _ _ _)
  exact bodyPost_ret (v := .agg (rgZ 3 a ((a : Int) + 1) 0 0 0 0 eT)) (results_cell_row rfl _ _ BB 89 (rgZ 3 a ((a : Int) + 1) 0 0 0 0 eT) (0, 0) _ rfl (Blk.setRow HR.out) Tryz.underlying89 rfl infoRg) rfl ⟨by rw [rgZ_eq]; rfl, below_row HB.out hBB2 _⟩
set_option maxRecDepth 100000 in
set_option maxHeartbeats 8000000 in
theorem barBegins_calls (b : Nat) (w : World) : Calls Tryz.prog 99 #[.agg #[], .int .u8 b] w fun en w' => en = .returned (.bool (b == 124)) ∧ Below w.heap.size w w' := by
  have q : ((b : Int) == 124) = (b == 124) := by rw [Bool.eq_iff_iff, beq_iff_eq, beq_iff_eq]; omega
  go_enter Tryz.func99, Tryz.ntmps99
  go_wp2_with fail
  go_ret
  exact ⟨rfl, by go_grown⟩
set_option maxRecDepth 100000 in
set_option maxHeartbeats 8000000 in
theorem barRead_calls (s : ByteArray) (hs : s.size ≤ 1000000) (a : Nat) (ha : a < s.size) (w : World) : Calls Tryz.prog 102 #[.agg #[], .string s, .int .i64 a] w fun en w' => en = .returned (.agg (rgA ((⟨4, a, a + 1, 0, 0, 0⟩, 0, 0)) eT)) ∧ Below w.heap.size w w' := by
  have HS := Lib.hid (fun w => sign5_calls 4 a (by omega) w)
  have HR := Lib.hid (Blk.new (w.alloc (.cells #[] 115)) (rgZ 0 0 0 0 0 0 0 eT) 89)
  rw [World.size_alloc] at HR
  have HB : Hid (Below w.heap.size w ((w.alloc (.cells #[] 115)).alloc (.cells (rgZ 0 0 0 0 0 0 0 eT) 89))) := Lib.hid (by go_grown)
  have hz : w.heap.size + 2 ≤ ((w.alloc (.cells #[] 115)).alloc (.cells (rgZ 0 0 0 0 0 0 0 eT) 89)).heap.size := by simp
  go_enter Tryz.func102, Tryz.ntmps102
  go_upto_region 1 with fail
  have e0 : (w.alloc (.cells #[] 115)).alloc (.cells #[.int .i64 0, .int .i64 0, .int .i64 0, .int .u64 0, .int .u64 0, .int .u64 0, .int .u64 0, .int .i64 0, .int .i64 0, .int .i64 0, .int .i64 0, .string ⟨#[]⟩] 89) = (w.alloc (.cells #[] 115)).alloc (.cells (rgZ 0 0 0 0 0 0 0 eT) 89) := rfl
  try rw [e0]
  clear e0
  generalize (w.alloc (.cells #[] 115)).alloc (.cells (rgZ 0 0 0 0 0 0 0 eT) 89) = w1 at *
  generalize hBB : w.heap.size + 1 = BB at HR
  have hBB2 : w.heap.size ≤ BB := by omega
  go_wp2_with fail
  refine (HS.out _).mono ?_
  rintro en w2 ⟨rfl, hb⟩
  replace HR := Lib.hid (HR.out.below hb (Blk.lt HR.out))
  replace HB := Lib.hid (HB.out.trans (hb.mono (by omega)))
  replace hz := Nat.le_trans hz hb.size
  clear hb HS
  go_wp2_with ((with_reducible refine wpList_store_st (o := ⟨none, .store 89 _ _, _, _, _, _⟩) rfl 89 _ _ rfl BB rfl rfl (run_storeAt_row _ BB 89 89 (rgZ 0 0 0 0 0 0 0 eT) (rgZ 4 a ((a : Int) + 1) 0 0 0 0 eT) ?_ ?_ ?_ ?_) ?_); exact HR.out; exact infoRg; rfl; exact rg_one _ _ _ 0 _ _ _ _ _)
  exact bodyPost_ret (v := .agg (rgZ 4 a ((a : Int) + 1) 0 0 0 0 eT)) (results_cell_row rfl _ _ BB 89 (rgZ 4 a ((a : Int) + 1) 0 0 0 0 eT) (0, 0) _ rfl (Blk.setRow HR.out) Tryz.underlying89 rfl infoRg) rfl ⟨by rw [rgZ_eq]; rfl, below_row HB.out hBB2 _⟩
set_option maxRecDepth 100000 in
set_option maxHeartbeats 8000000 in
theorem repBegins_calls (b : Nat) (hb : b < 256) (w : World) : Calls Tryz.prog 103 #[.agg #[], .int .u8 b] w fun en w' => en = .returned (.bool ([42, 43, 63, 123].contains b)) ∧ Below w.heap.size w w' := by
  have HS := Lib.hid (isRep_calls b hb)
  generalize ([42, 43, 63, 123].contains b) = x at *
  go_enter Tryz.func103, Tryz.ntmps103
  go_wp2_with fail
  refine (HS.out _).mono ?_
  rintro en w2 ⟨rfl, rfl⟩
  clear HS
  go_wp2_with fail
  go_ret
  exact ⟨rfl, by go_grown⟩
set_option maxRecDepth 100000 in
set_option maxHeartbeats 8000000 in
theorem oneBegins_calls (b : Nat) (w : World) : Calls Tryz.prog 118 #[.agg #[], .int .u8 b] w fun en w' => en = .returned (.bool (b != 94 && b != 36)) ∧ Below w.heap.size w w' := by
  have q : ((b : Int) != 94) = (b != 94) := by rw [Bool.eq_iff_iff, bne_iff_ne, bne_iff_ne]; omega
  have q2 : ((b : Int) != 36) = (b != 36) := by rw [Bool.eq_iff_iff, bne_iff_ne, bne_iff_ne]; omega
  cases h : (b != 94) with
  | false =>
    rw [h] at q
    clear h
    go_enter Tryz.func118, Tryz.ntmps118
    go_wp2_with fail
    go_ret
    exact ⟨rfl, by go_grown⟩
  | true =>
    rw [h] at q
    clear h
    go_enter Tryz.func118, Tryz.ntmps118
    go_wp2_with fail
    go_ret
    exact ⟨rfl, by go_grown⟩
set_option maxRecDepth 100000 in
set_option maxHeartbeats 8000000 in
theorem repRead_calls (s : ByteArray) (hs : s.size ≤ 1000000) (a : Nat) (w : World) : Calls Tryz.prog 106 #[.agg #[], .string s, .int .i64 a] w fun en w' => en = .returned (.agg (rgA (cntW s a) (ofT (readD4 s a).lack))) ∧ Below w.heap.size w w' := by
  have h1 := bRead_calls s hs a
  have hL := (lackN_read s a).1
  have HLK := Lib.hid (fun w => lackD4_calls s hs a w)
  have hY : cntW s a = if (readN s a).2.2.2.1 ≠ 0 then (zWN, (readN s a).2.2.2.1, (readN s a).2.2.2.2) else (⟨5, a, (readN s a).2.2.1, 0, (readN s a).1, (readN s a).2.1⟩, 0, 0) := rfl
  generalize readN s a = R at *
  obtain ⟨n, m, p, e, k⟩ := R
  have HRD : Hid (∀ w, Calls Tryz.prog 108 #[.string s, .int .i64 a] w fun e' w' => e' = .returned (.tuple #[.agg #[.int .i64 n, .int .i64 m], .int .i64 p, .int .i64 e, .int .i64 k]) ∧ Below w.heap.size w w') := Lib.hid h1
  clear h1
  have HY : Hid (cntW s a = if e ≠ 0 then (zWN, e, k) else (⟨5, a, p, 0, n, m⟩, 0, 0)) := Lib.hid hY
  have HL : Hid (e ≠ 2 → ofT (readD4 s a).lack = eT) := Lib.hid hL
  clear hL hY
  generalize ofT (readD4 s a).lack = l at *
  generalize cntW s a = Y at *
  have HR := Lib.hid (Blk.new (w.alloc (.cells #[] 116)) (rgZ 0 0 0 0 0 0 0 eT) 89)
  rw [World.size_alloc] at HR
  have HB : Hid (Below w.heap.size w ((w.alloc (.cells #[] 116)).alloc (.cells (rgZ 0 0 0 0 0 0 0 eT) 89))) := Lib.hid (by go_grown)
  have hz : w.heap.size + 2 ≤ ((w.alloc (.cells #[] 116)).alloc (.cells (rgZ 0 0 0 0 0 0 0 eT) 89)).heap.size := by simp
  go_enter Tryz.func106, Tryz.ntmps106
  go_upto_region 1 with fail
  have e0 : (w.alloc (.cells #[] 116)).alloc (.cells #[.int .i64 0, .int .i64 0, .int .i64 0, .int .u64 0, .int .u64 0, .int .u64 0, .int .u64 0, .int .i64 0, .int .i64 0, .int .i64 0, .int .i64 0, .string ⟨#[]⟩] 89) = (w.alloc (.cells #[] 116)).alloc (.cells (rgZ 0 0 0 0 0 0 0 eT) 89) := rfl
  try rw [e0]
  clear e0
  generalize (w.alloc (.cells #[] 116)).alloc (.cells (rgZ 0 0 0 0 0 0 0 eT) 89) = w1 at *
  generalize hBB : w.heap.size + 1 = BB at HR
  have hBB2 : w.heap.size ≤ BB := by omega
  go_wp2_with fail
  refine (HRD.out _).mono ?_
  rintro en w2 ⟨rfl, hb⟩
  replace HR := Lib.hid (HR.out.below hb (Blk.lt HR.out))
  replace HB := Lib.hid (HB.out.trans (hb.mono (by omega)))
  replace hz := Nat.le_trans hz hb.size
  clear hb HRD
  go_upto_region 2 with fail
  have HC := Lib.hid (Blk.new w2 (spI n m) 96)
  replace HR := Lib.hid (HR.out.alloc (.cells (spI n m) 96))
  replace HB := Lib.hid (HB.out.alloc (by omega) (.cells (spI n m) 96))
  have hz3 : w.heap.size + 1 ≤ (w2.alloc (.cells (spI n m) 96)).heap.size := by simp; omega
  generalize w2.alloc (.cells (spI n m) 96) = w3 at *
  generalize w2.heap.size = B at *
  by_cases he : e = 0
  · subst he
    have hl : l = eT := HL.out (by decide)
    have hY : Y = (⟨5, a, p, 0, n, m⟩, 0, 0) := by rw [HY.out, if_neg (by decide)]
    subst hl hY
    have c0 := HC.out.cell 0
    have c1 := HC.out.cell 1
    simp only [List.getElem?_toArray, List.getElem?_cons_zero, List.getElem?_cons_succ] at c0 c1
    clear HL HY HLK hz HC
    go_wp2_with ((with_reducible refine wpList_store_st (o := ⟨none, .store 89 _ _, _, _, _, _⟩) rfl 89 _ _ rfl BB rfl rfl (run_storeAt_row _ BB 89 89 (rgZ 0 0 0 0 0 0 0 eT) (rgZ 5 a p n m 0 0 eT) ?_ ?_ ?_ ?_) ?_); exact HR.out; exact infoRg; rfl; exact rg_one _ _ _ 0 _ _ _ _ _)
    exact bodyPost_ret (v := .agg (rgZ 5 a p n m 0 0 eT)) (results_cell_row rfl _ _ BB 89 (rgZ 5 a p n m 0 0 eT) (0, 0) _ rfl (Blk.setRow HR.out) Tryz.underlying89 rfl infoRg) rfl ⟨by rw [rgZ_eq]; rfl, below_row HB.out hBB2 _⟩
  · have q : ((e : Int) != 0) = true := by rw [bne_iff_ne]; omega
    have hY : Y = (zWN, e, k) := by rw [HY.out, if_pos he]
    subst hY
    clear HL HY HC hz he
    go_wp2_with fail
    refine (HLK.out _).mono ?_
    rintro en w4 ⟨rfl, hb⟩
    replace HR := Lib.hid (HR.out.below hb (Blk.lt HR.out))
    replace HB := Lib.hid (HB.out.trans (hb.mono (by omega)))
    clear hb HLK
    go_wp2_with ((with_reducible refine wpList_store_st (o := ⟨none, .store 89 _ _, _, _, _, _⟩) rfl 89 _ _ rfl BB rfl rfl (run_storeAt_row _ BB 89 89 (rgZ 0 0 0 0 0 0 0 eT) (rgZ 0 0 0 0 0 e k l) ?_ ?_ ?_ ?_) ?_); exact HR.out; exact infoRg; rfl; exact rg_one _ _ _ 0 _ _ _ _ _)
    exact bodyPost_ret (v := .agg (rgZ 0 0 0 0 0 e k l)) (results_cell_row rfl _ _ BB 89 (rgZ 0 0 0 0 0 e k l) (0, 0) _ rfl (Blk.setRow HR.out) Tryz.underlying89 rfl infoRg) rfl ⟨by rw [rgZ_eq]; rfl, below_row HB.out hBB2 _⟩

/-- What One reads at a byte that begins no other kind, and what lacks there. -/
def oneR (s : ByteArray) (a : Nat) : WN × Nat × Nat :=
  if bt s a = 91 then brkW s a else if bt s a = 92 then slashW s a else if bt s a = 46 then (oneW (range 0 255) a (a + 1), 0, 0) else (oneW (range (bt s a) (bt s a)) a (a + 1), 0, 0)
def oneL (s : ByteArray) (a : Nat) : ByteArray := if bt s a = 91 then (wholeD s a).lack else if bt s a = 92 then lackS s a else eT
theorem anyS : (~~~(0 : BitVec 256)) = range 0 255 := by decide +kernel
set_option maxRecDepth 100000 in
set_option maxHeartbeats 8000000 in
theorem oneRead_calls (s : ByteArray) (hs : s.size ≤ 1000000) (a : Nat) (ha : a < s.size) (w : World) : Calls Tryz.prog 121 #[.agg #[], .string s, .int .i64 a] w fun en w' => en = .returned (.agg (rgA (oneR s a) (oneL s a))) ∧ Below w.heap.size w w' := by
  have x1 : IntKind.i64.wrap ((a : Int) + 1) = (a : Int) + 1 := IntWalk.i64_in _ (by omega)
  have h0 : s[a].toNat = bt s a := (bt_eq s a ha).symm
  have hl0 := bt_lt s a
  have HB1 := Lib.hid (fun w => inB5_calls s hs a w)
  have HE1 := Lib.hid (fun w => esc5_calls s hs a ha w)
  have HY := Lib.hid (show oneR s a = if bt s a = 91 then brkW s a else if bt s a = 92 then slashW s a else if bt s a = 46 then (oneW (range 0 255) a (a + 1), 0, 0) else (oneW (range (bt s a) (bt s a)) a (a + 1), 0, 0) from rfl)
  have HL := Lib.hid (show oneL s a = if bt s a = 91 then (wholeD s a).lack else if bt s a = 92 then lackS s a else eT from rfl)
  generalize oneR s a = Y at *
  generalize oneL s a = l at *
  generalize brkW s a = YB at *
  generalize (wholeD s a).lack = lB at *
  generalize slashW s a = YS at *
  generalize lackS s a = lS at *
  have HR := Lib.hid (Blk.new (w.alloc (.cells #[] 117)) (rgZ 0 0 0 0 0 0 0 eT) 89)
  rw [World.size_alloc] at HR
  have HB : Hid (Below w.heap.size w ((w.alloc (.cells #[] 117)).alloc (.cells (rgZ 0 0 0 0 0 0 0 eT) 89))) := Lib.hid (by go_grown)
  have hz : w.heap.size + 2 ≤ ((w.alloc (.cells #[] 117)).alloc (.cells (rgZ 0 0 0 0 0 0 0 eT) 89)).heap.size := by simp
  go_enter Tryz.func121, Tryz.ntmps121
  go_upto_region 1 with fail
  have e0 : (w.alloc (.cells #[] 117)).alloc (.cells #[.int .i64 0, .int .i64 0, .int .i64 0, .int .u64 0, .int .u64 0, .int .u64 0, .int .u64 0, .int .i64 0, .int .i64 0, .int .i64 0, .int .i64 0, .string ⟨#[]⟩] 89) = (w.alloc (.cells #[] 117)).alloc (.cells (rgZ 0 0 0 0 0 0 0 eT) 89) := rfl
  try rw [e0]
  clear e0
  generalize (w.alloc (.cells #[] 117)).alloc (.cells (rgZ 0 0 0 0 0 0 0 eT) 89) = w1 at *
  generalize hBB : w.heap.size + 1 = BB at HR
  have hBB2 : w.heap.size ≤ BB := by omega
  generalize bt s a = b at *
  by_cases h1 : b = 91
  · have q : ((b : Int) == 91) = true := by rw [beq_iff_eq]; omega
    obtain rfl : Y = YB := by rw [HY.out, if_pos h1]
    obtain rfl : l = lB := by rw [HL.out, if_pos h1]
    clear HY HL HE1 h1
    obtain ⟨⟨k, p, e, t, n, m⟩, er, pl⟩ := Y
    go_wp2_with fail
    refine (HB1.out _).mono ?_
    rintro en w2 ⟨rfl, hb⟩
    replace HR := Lib.hid (HR.out.below hb (Blk.lt HR.out))
    replace HB := Lib.hid (HB.out.trans (hb.mono (by omega)))
    replace hz := Nat.le_trans hz hb.size
    clear hb HB1
    go_wp2_with ((with_reducible refine wpList_store_st (o := ⟨none, .store 89 _ _, _, _, _, _⟩) rfl 89 _ _ rfl BB rfl rfl (run_storeAt_row _ BB 89 89 (rgZ 0 0 0 0 0 0 0 eT) (rgI k p e t n m er pl l) ?_ ?_ ?_ ?_) ?_); exact HR.out; exact infoRg; rfl; exact rg_one _ _ _ _ _ _ _ _ _)
    exact bodyPost_ret (v := .agg (rgI k p e t n m er pl l)) (results_cell_row rfl _ _ BB 89 (rgI k p e t n m er pl l) (0, 0) _ rfl (Blk.setRow HR.out) Tryz.underlying89 rfl infoRg) rfl ⟨rfl, below_row HB.out hBB2 _⟩
  have q : ((b : Int) == 91) = false := by rw [beq_eq_false_iff_ne]; omega
  by_cases h2 : b = 92
  · have q2 : ((b : Int) == 92) = true := by rw [beq_iff_eq]; omega
    obtain rfl : Y = YS := by rw [HY.out, if_neg h1, if_pos h2]
    obtain rfl : l = lS := by rw [HL.out, if_neg h1, if_pos h2]
    clear HY HL HB1 h1 h2
    obtain ⟨⟨k, p, e, t, n, m⟩, er, pl⟩ := Y
    go_wp2_with fail
    refine (HE1.out _).mono ?_
    rintro en w2 ⟨rfl, hb⟩
    replace HR := Lib.hid (HR.out.below hb (Blk.lt HR.out))
    replace HB := Lib.hid (HB.out.trans (hb.mono (by omega)))
    replace hz := Nat.le_trans hz hb.size
    clear hb HE1
    go_wp2_with ((with_reducible refine wpList_store_st (o := ⟨none, .store 89 _ _, _, _, _, _⟩) rfl 89 _ _ rfl BB rfl rfl (run_storeAt_row _ BB 89 89 (rgZ 0 0 0 0 0 0 0 eT) (rgI k p e t n m er pl l) ?_ ?_ ?_ ?_) ?_); exact HR.out; exact infoRg; rfl; exact rg_one _ _ _ _ _ _ _ _ _)
    exact bodyPost_ret (v := .agg (rgI k p e t n m er pl l)) (results_cell_row rfl _ _ BB 89 (rgI k p e t n m er pl l) (0, 0) _ rfl (Blk.setRow HR.out) Tryz.underlying89 rfl infoRg) rfl ⟨rfl, below_row HB.out hBB2 _⟩
  have q2 : ((b : Int) == 92) = false := by rw [beq_eq_false_iff_ne]; omega
  obtain rfl : l = eT := by rw [HL.out, if_neg h1, if_neg h2]
  by_cases h3 : b = 46
  · have q3 : ((b : Int) == 46) = true := by rw [beq_iff_eq]; omega
    obtain rfl : Y = (oneW (range 0 255) a (a + 1), 0, 0) := by rw [HY.out, if_neg h1, if_neg h2, if_pos h3]
    have hAN := cAny_calls
    rw [anyS] at hAN
    have HAN := Lib.hid hAN
    clear hAN
    generalize hT : range 0 255 = t at *
    have HTT := Lib.hid hT
    clear hT
    have HO := Lib.hid (fun w => oneOf5_calls t a ((a : Int) + 1) w)
    clear HY HL HB1 HE1 h1 h2 h3
    go_wp2_with fail
    refine (HAN.out _).mono ?_
    rintro en w2 ⟨rfl, hb⟩
    replace HR := Lib.hid (HR.out.below hb (Blk.lt HR.out))
    replace HB := Lib.hid (HB.out.trans (hb.mono (by omega)))
    replace hz := Nat.le_trans hz hb.size
    clear hb HAN
    go_wp2_with fail
    refine (HO.out _).mono ?_
    rintro en w3 ⟨rfl, hb⟩
    replace HR := Lib.hid (HR.out.below hb (Blk.lt HR.out))
    replace HB := Lib.hid (HB.out.trans (hb.mono (by omega)))
    replace hz := Nat.le_trans hz hb.size
    clear hb HO
    go_wp2_with ((with_reducible refine wpList_store_st (o := ⟨none, .store 89 _ _, _, _, _, _⟩) rfl 89 _ _ rfl BB rfl rfl (run_storeAt_row _ BB 89 89 (rgZ 0 0 0 0 0 0 0 eT) (rgI 1 a ((a : Int) + 1) t 0 0 0 0 eT) ?_ ?_ ?_ ?_) ?_); exact HR.out; exact infoRg; rfl; exact rg_one _ _ _ _ _ _ _ _ _)
    exact bodyPost_ret (v := .agg (rgI 1 a ((a : Int) + 1) t 0 0 0 0 eT)) (results_cell_row rfl _ _ BB 89 (rgI 1 a ((a : Int) + 1) t 0 0 0 0 eT) (0, 0) _ rfl (Blk.setRow HR.out) Tryz.underlying89 rfl infoRg) rfl ⟨by rw [rgA_one, HTT.out], below_row HB.out hBB2 _⟩
  have q3 : ((b : Int) == 46) = false := by rw [beq_eq_false_iff_ne]; omega
  obtain rfl : Y = (oneW (range b b) a (a + 1), 0, 0) := by rw [HY.out, if_neg h1, if_neg h2, if_neg h3]
  have HWT := Lib.hid (fun W t => dWith_calls W t b hl0)
  generalize hT : range b b = t at *
  have HTT := Lib.hid hT
  clear hT
  have HO := Lib.hid (fun w => oneOf5_calls t a ((a : Int) + 1) w)
  clear HY HL HB1 HE1 h1 h2 h3
  go_wp2_with fail
  replace HR := Lib.hid (HR.out.alloc (.cells #[.int .u8 b] 5))
  replace HB := Lib.hid (HB.out.alloc (by omega) (.cells #[.int .u8 b] 5))
  have hz3 : w.heap.size + 2 ≤ (w1.alloc (.cells #[.int .u8 b] 5)).heap.size := by simp; omega
  clear hz
  have hz := hz3
  clear hz3
  refine Calls.mono (HWT.out w1 _) ?_
  rintro en w4 ⟨rfl, hb⟩
  replace HR := Lib.hid (HR.out.below hb (Blk.lt HR.out))
  replace HB := Lib.hid (HB.out.trans (hb.mono (by omega)))
  replace hz := Nat.le_trans hz hb.size
  clear hb HWT
  go_wp2_with fail
  refine (HO.out _).mono ?_
  rintro en w5 ⟨rfl, hb⟩
  replace HR := Lib.hid (HR.out.below hb (Blk.lt HR.out))
  replace HB := Lib.hid (HB.out.trans (hb.mono (by omega)))
  replace hz := Nat.le_trans hz hb.size
  clear hb HO
  go_wp2_with ((with_reducible refine wpList_store_st (o := ⟨none, .store 89 _ _, _, _, _, _⟩) rfl 89 _ _ rfl BB rfl rfl (run_storeAt_row _ BB 89 89 (rgZ 0 0 0 0 0 0 0 eT) (rgI 1 a ((a : Int) + 1) t 0 0 0 0 eT) ?_ ?_ ?_ ?_) ?_); exact HR.out; exact infoRg; rfl; exact rg_one _ _ _ _ _ _ _ _ _)
  exact bodyPost_ret (v := .agg (rgI 1 a ((a : Int) + 1) t 0 0 0 0 eT)) (results_cell_row rfl _ _ BB 89 (rgI 1 a ((a : Int) + 1) t 0 0 0 0 eT) (0, 0) _ rfl (Blk.setRow HR.out) Tryz.underlying89 rfl infoRg) rfl ⟨by rw [rgA_one, HTT.out], below_row HB.out hBB2 _⟩
end Go.Proofs.YthodphgbdmnpoaaGreatDoor

/- The developers' words: all kinds; the word at a place, whatever kind it is of. -/
namespace Go.Proofs.YthodphgbdmnpoaaGreatDoor
open Go.RowKit Go.Shelf BS

@[reducible] def kdV (T : TypeId) : Value := .iface T (.agg #[])
@[reducible] def kdA : Array Value := #[.iface 113 (.agg #[]), .iface 114 (.agg #[]), .iface 115 (.agg #[]), .iface 116 (.agg #[]), .iface 117 (.agg #[])]
@[reducible] def kdZ : Array Value := #[.nilIface, .nilIface, .nilIface, .nilIface, .nilIface]
theorem infoKd : (Tryz.prog.info? 107).map (·.size) = some 5 := by kernel_rfl
set_option maxRecDepth 100000 in
set_option maxHeartbeats 1000000 in
theorem kinds_calls (w : World) : Calls Tryz.prog 55 #[] w fun en w' => en = .returned (.agg kdA) ∧ Below w.heap.size w w' := by
  go_enter Tryz.func55, Tryz.ntmps55
  go_wp2
  have hR := Blk.new w kdA 107
  have hB : Below w.heap.size w (w.alloc (.cells kdA 107)) := by go_grown
  exact bodyPost_ret (v := .agg kdA) (results_cell_row rfl _ _ w.heap.size 107 kdA (0, 0) _ rfl hR Tryz.underlying107 rfl infoKd) rfl ⟨rfl, hB⟩

/-- May a word of kind j begin with byte b. -/
def begK (j b : Nat) : Bool := if j = 0 then b == 40 else if j = 1 then b == 41 else if j = 2 then b == 124 else if j = 3 then [42, 43, 63, 123].contains b else b != 94 && b != 36
/-- What lacks at a place. -/
def lackA (s : ByteArray) (a : Nat) : ByteArray :=
  if bt s a = 42 ∨ bt s a = 43 ∨ bt s a = 63 ∨ bt s a = 123 then ofT (readD4 s a).lack else oneL s a
def lackG5 (s : ByteArray) (at' : Int) : ByteArray := if at' < 0 ∨ (s.size : Int) ≤ at' then eT else lackA s at'.toNat
theorem contains4 (b : Nat) : ([42, 43, 63, 123].contains b) = true ↔ (b = 42 ∨ b = 43 ∨ b = 63 ∨ b = 123) := by simp
/-- Kind j's reading at a place. -/
def readK (s : ByteArray) (a j : Nat) : WN × Nat × Nat :=
  if j = 0 then (⟨2, a, a + 1, 0, 0, 0⟩, 0, 0) else if j = 1 then (⟨3, a, a + 1, 0, 0, 0⟩, 0, 0) else if j = 2 then (⟨4, a, a + 1, 0, 0, 0⟩, 0, 0) else if j = 3 then cntW s a else oneR s a
def lackK (s : ByteArray) (a j : Nat) : ByteArray := if j = 3 then ofT (readD4 s a).lack else if j = 4 then oneL s a else eT
theorem next_kind (s : ByteArray) (a j : Nat) (hj : j < 5) (hb : begK j (bt s a) = true) (hno : ∀ i, i < j → begK i (bt s a) = false) : nextA s a = readK s a j ∧ lackA s a = lackK s a j := by
  have n0 := hno 0; have n1 := hno 1; have n2 := hno 2; have n3 := hno 3
  clear hno
  have c4 := contains4 (bt s a)
  obtain rfl | rfl | rfl | rfl | rfl : j = 0 ∨ j = 1 ∨ j = 2 ∨ j = 3 ∨ j = 4 := by omega
  · have e : bt s a = 40 := by simpa [begK] using hb
    constructor
    · unfold nextA readK
      rw [if_pos e, if_pos rfl]
    · unfold lackA lackK oneL
      rw [if_neg (by omega), if_neg (by omega), if_neg (by omega), if_neg (by omega), if_neg (by omega)]
  · have e : bt s a = 41 := by simpa [begK] using hb
    constructor
    · unfold nextA readK
      rw [if_neg (by omega), if_pos e, if_neg (by omega), if_pos rfl]
    · unfold lackA lackK oneL
      rw [if_neg (by omega), if_neg (by omega), if_neg (by omega), if_neg (by omega), if_neg (by omega)]
  · have e : bt s a = 124 := by simpa [begK] using hb
    constructor
    · unfold nextA readK
      rw [if_neg (by omega), if_neg (by omega), if_pos e, if_neg (by omega), if_neg (by omega), if_pos rfl]
    · unfold lackA lackK oneL
      rw [if_neg (by omega), if_neg (by omega), if_neg (by omega), if_neg (by omega), if_neg (by omega)]
  · have e : [42, 43, 63, 123].contains (bt s a) = true := by simpa [begK] using hb
    have e2 := c4.1 e
    constructor
    · unfold nextA readK
      rw [if_neg (by omega), if_neg (by omega), if_neg (by omega), if_pos e2, if_neg (by omega), if_neg (by omega), if_neg (by omega), if_pos rfl]
    · unfold lackA lackK
      rw [if_pos e2, if_pos rfl]
  · have e : bt s a ≠ 94 ∧ bt s a ≠ 36 := by simpa [begK] using hb
    have e0 : bt s a ≠ 40 := by simpa [begK] using n0 (by omega)
    have e1 : bt s a ≠ 41 := by simpa [begK] using n1 (by omega)
    have e2 : bt s a ≠ 124 := by simpa [begK] using n2 (by omega)
    have e3 : ¬ (bt s a = 42 ∨ bt s a = 43 ∨ bt s a = 63 ∨ bt s a = 123) := fun h => by
      have h1 := c4.2 h
      have h2 : [42, 43, 63, 123].contains (bt s a) = false := by simpa [begK] using n3 (by omega)
      rw [h1] at h2; cases h2
    constructor
    · rw [show readK s a 4 = oneR s a from rfl]
      unfold nextA oneR
      rw [if_neg e0, if_neg e1, if_neg e2, if_neg e3]
      by_cases h1 : bt s a = 91
      · rw [if_pos h1, if_pos h1]
      rw [if_neg h1, if_neg h1]
      by_cases h2 : bt s a = 46
      · rw [if_pos h2, if_neg (show ¬ bt s a = 92 by omega), if_pos h2]
      rw [if_neg h2, if_neg (show ¬ (bt s a = 94 ∨ bt s a = 36) by omega)]
      by_cases h3 : bt s a = 92
      · rw [if_pos h3, if_pos h3]
      · rw [if_neg h3, if_neg h3, if_neg h2]
    · rw [show lackK s a 4 = oneL s a from rfl]
      unfold lackA
      rw [if_neg e3]
theorem next_none (s : ByteArray) (a : Nat) (hno : ∀ i, i < 5 → begK i (bt s a) = false) : nextA s a = (zWN, 3, a + 1) ∧ lackA s a = eT := by
  have n4 : bt s a = 94 ∨ bt s a = 36 := by
    have := hno 4 (by omega)
    simp only [begK] at this
    simp at this
    omega
  constructor
  · unfold nextA
    rw [if_neg (by omega), if_neg (by omega), if_neg (by omega), if_neg (by omega), if_neg (by omega), if_neg (by omega), if_pos n4]
  · unfold lackA oneL
    rw [if_neg (by omega), if_neg (by omega), if_neg (by omega)]
/-- What lacks is what the document asks. -/
theorem lackG5_ok (s : ByteArray) (at' : Int) : LackW s at' (lackG5 s at') := by
  by_cases h : at' < 0 ∨ (s.size : Int) ≤ at'
  · unfold lackG5
    rw [if_pos h]
    exact lackW_far s at' h
  · obtain ⟨a, rfl⟩ := Int.eq_ofNat_of_zero_le (show 0 ≤ at' by omega)
    have ha : a < s.size := by omega
    unfold lackG5
    rw [if_neg h]
    show LackW s a (lackA s a)
    unfold lackA
    by_cases h1 : bt s a = 42 ∨ bt s a = 43 ∨ bt s a = 63 ∨ bt s a = 123
    · rw [if_pos h1]
      exact lackW_cnt s a ha h1
    rw [if_neg h1]
    unfold oneL
    by_cases h2 : bt s a = 91
    · rw [if_pos h2]
      exact lackW_brk s a ha h2
    rw [if_neg h2]
    have hno : ¬ (bt s a = 92 ∧ a + 1 = s.size) → LackW s a eT := fun h3 => by
      refine lackW_none s a fun h4 => ?_
      rcases next_err2 s a ha h4 with h | h | h
      · exact h2 h
      · exact h1 (by omega)
      · exact h3 h
    by_cases h3 : bt s a = 92
    · rw [if_pos h3]
      unfold lackS
      by_cases h4 : s.size ≤ a + 1
      · rw [if_pos h4]
        exact lackW_slash s a 46 (by omega) h3 (by decide) (by decide)
      · rw [if_neg h4]
        exact hno (by omega)
    · rw [if_neg h3]
      exact hno (by omega)

/-! ### The walk -/
theorem m_open_begins (n : Nat) (w : World) : (method (n + 1) 113 (.agg #[]) "gimlet/lex.begins").run Tryz.prog w = .ok (90, .agg #[]) w := by kernel_rfl
theorem m_open_read (n : Nat) (w : World) : (method (n + 1) 113 (.agg #[]) "gimlet/lex.read").run Tryz.prog w = .ok (93, .agg #[]) w := by kernel_rfl
theorem ix_open (w : World) : (Instr.index 107 (.agg kdA) (.int .i64 0)).run Tryz.prog w = .ok (.iface 113 (.agg #[])) w := by kernel_rfl
theorem n_open_begins (n : Nat) (w : World) : (nilAhead (n + 1) 113 (.agg #[]) "gimlet/lex.begins").run Tryz.prog w = .ok (some false) w := by kernel_rfl
theorem m_shut_begins (n : Nat) (w : World) : (method (n + 1) 114 (.agg #[]) "gimlet/lex.begins").run Tryz.prog w = .ok (95, .agg #[]) w := by kernel_rfl
theorem m_shut_read (n : Nat) (w : World) : (method (n + 1) 114 (.agg #[]) "gimlet/lex.read").run Tryz.prog w = .ok (98, .agg #[]) w := by kernel_rfl
theorem ix_shut (w : World) : (Instr.index 107 (.agg kdA) (.int .i64 1)).run Tryz.prog w = .ok (.iface 114 (.agg #[])) w := by kernel_rfl
theorem n_shut_begins (n : Nat) (w : World) : (nilAhead (n + 1) 114 (.agg #[]) "gimlet/lex.begins").run Tryz.prog w = .ok (some false) w := by kernel_rfl
theorem m_bar_begins (n : Nat) (w : World) : (method (n + 1) 115 (.agg #[]) "gimlet/lex.begins").run Tryz.prog w = .ok (99, .agg #[]) w := by kernel_rfl
theorem m_bar_read (n : Nat) (w : World) : (method (n + 1) 115 (.agg #[]) "gimlet/lex.read").run Tryz.prog w = .ok (102, .agg #[]) w := by kernel_rfl
theorem ix_bar (w : World) : (Instr.index 107 (.agg kdA) (.int .i64 2)).run Tryz.prog w = .ok (.iface 115 (.agg #[])) w := by kernel_rfl
theorem n_bar_begins (n : Nat) (w : World) : (nilAhead (n + 1) 115 (.agg #[]) "gimlet/lex.begins").run Tryz.prog w = .ok (some false) w := by kernel_rfl
theorem m_rep_begins (n : Nat) (w : World) : (method (n + 1) 116 (.agg #[]) "gimlet/lex.begins").run Tryz.prog w = .ok (103, .agg #[]) w := by kernel_rfl
theorem m_rep_read (n : Nat) (w : World) : (method (n + 1) 116 (.agg #[]) "gimlet/lex.read").run Tryz.prog w = .ok (106, .agg #[]) w := by kernel_rfl
theorem ix_rep (w : World) : (Instr.index 107 (.agg kdA) (.int .i64 3)).run Tryz.prog w = .ok (.iface 116 (.agg #[])) w := by kernel_rfl
theorem n_rep_begins (n : Nat) (w : World) : (nilAhead (n + 1) 116 (.agg #[]) "gimlet/lex.begins").run Tryz.prog w = .ok (some false) w := by kernel_rfl
theorem m_one_begins (n : Nat) (w : World) : (method (n + 1) 117 (.agg #[]) "gimlet/lex.begins").run Tryz.prog w = .ok (118, .agg #[]) w := by kernel_rfl
theorem m_one_read (n : Nat) (w : World) : (method (n + 1) 117 (.agg #[]) "gimlet/lex.read").run Tryz.prog w = .ok (121, .agg #[]) w := by kernel_rfl
theorem ix_one (w : World) : (Instr.index 107 (.agg kdA) (.int .i64 4)).run Tryz.prog w = .ok (.iface 117 (.agg #[])) w := by kernel_rfl
theorem n_one_begins (n : Nat) (w : World) : (nilAhead (n + 1) 117 (.agg #[]) "gimlet/lex.begins").run Tryz.prog w = .ok (some false) w := by kernel_rfl

/-- What holds while the kinds are asked. -/
def SR5 (w W : World) : Prop := (Blk W w.heap.size (rgZ 0 0 0 0 0 0 0 eT) 89 ∧ w.heap.size + 1 ≤ W.heap.size) ∧ Below w.heap.size w W
theorem SR5.drewS {w W : World} (h : SR5 w W) : SR5 w W.drew := ⟨⟨h.1.1, h.1.2⟩, h.2.drew⟩
theorem SR5.go {w W W' : World} (h : SR5 w W) (hb : Below W.heap.size W W') : SR5 w W' := ⟨⟨h.1.1.below hb h.1.1.lt, Nat.le_trans h.1.2 hb.size⟩, h.2.trans (hb.mono (by have := h.1.2; omega))⟩
set_option maxRecDepth 100000 in
set_option maxHeartbeats 8000000 in
theorem read5_in (s : ByteArray) (hs : s.size ≤ 1000000) (a : Nat) (ha : a < s.size) (w : World) : Calls Tryz.prog 44 #[.string s, .int .i64 a] w fun en w' => en = .returned (.agg (rgA (nextA s a) (lackA s a))) ∧ Below w.heap.size w w' := by
  have x1 : IntKind.i64.wrap ((a : Int) + 1) = (a : Int) + 1 := IntWalk.i64_in _ (by omega)
  have q0 : decide ((a : Int) < 0) = false := by rw [decide_eq_false_iff_not]; omega
  have q1 : decide ((s.size : Int) ≤ (a : Int)) = false := by rw [decide_eq_false_iff_not]; omega
  have h0 : s[a].toNat = bt s a := (bt_eq s a ha).symm
  have hl0 := bt_lt s a
  have HK := Lib.hid kinds_calls
  have HEND := Lib.hid (next_none s a)
  have HR := Lib.hid (Blk.new w (rgZ 0 0 0 0 0 0 0 eT) 89)
  have HB : Hid (Below w.heap.size w (w.alloc (.cells (rgZ 0 0 0 0 0 0 0 eT) 89))) := Lib.hid (by go_grown)
  have hz : w.heap.size + 1 ≤ (w.alloc (.cells (rgZ 0 0 0 0 0 0 0 eT) 89)).heap.size := by simp
  go_enter Tryz.func44, Tryz.ntmps44
  go_upto_region 1 with fail
  have e0 : w.alloc (.cells #[.int .i64 0, .int .i64 0, .int .i64 0, .int .u64 0, .int .u64 0, .int .u64 0, .int .u64 0, .int .i64 0, .int .i64 0, .int .i64 0, .int .i64 0, .string ⟨#[]⟩] 89) = w.alloc (.cells (rgZ 0 0 0 0 0 0 0 eT) 89) := rfl
  try rw [e0]
  clear e0
  generalize w.alloc (.cells (rgZ 0 0 0 0 0 0 0 eT) 89) = w1 at *
  go_wp2_with fail
  refine (HK.out _).mono ?_
  rintro en w2 ⟨rfl, hb⟩
  replace HR := Lib.hid (HR.out.below hb (Blk.lt HR.out))
  replace HB := Lib.hid (HB.out.trans (hb.mono (by omega)))
  replace hz := Nat.le_trans hz hb.size
  clear hb HK
  have HS := Lib.hid (show SR5 w w2 from ⟨⟨HR.out, hz⟩, HB.out⟩)
  clear HR HB hz
  go_wp2_with fail
  go_loopw [17] (fun i wr => ∃ k : Nat, k ≤ 5 ∧ i = .int .i64 k ∧ (∀ j, j < k → begK j (bt s a) = false) ∧ SR5 w wr) (fun i _ => 5 - (intOf i).toNat)
  case atStart => exact ⟨0, by omega, rfl, fun j hj => by omega, HS.out⟩
  case round =>
  clear HS
  obtain ⟨k, hk, rfl, hno, hS0⟩ := hrel
  obtain rfl | rfl | rfl | rfl | rfl | rfl : k = 0 ∨ k = 1 ∨ k = 2 ∨ k = 3 ∨ k = 4 ∨ k = 5 := by omega
  · -- open
    have hbg : ∀ w, Calls Tryz.prog 90 #[.agg #[], .int .u8 (bt s a)] w fun en w' => en = .returned (.bool (begK 0 (bt s a))) ∧ Below w.heap.size w w' := openBegins_calls (bt s a)
    have HRD : Hid (∀ w, Calls Tryz.prog 93 #[.agg #[], .string s, .int .i64 a] w fun en w' => en = .returned (.agg (rgA (readK s a 0) (lackK s a 0))) ∧ Below w.heap.size w w') := Lib.hid (openRead_calls s hs a ha)
    have HG := Lib.hid (next_kind s a 0 (by omega))
    have m1 := m_open_begins
    have m2 := m_open_read
    have m3 := n_open_begins
    have m4 := ix_open
    generalize bt s a = b at *
    generalize readK s a 0 = Z at *
    generalize lackK s a 0 = z at *
    generalize hx : begK 0 b = x at *
    have HX := Lib.hid hx
    have HNO := Lib.hid hno
    clear hx hno
    go_upto_region 6 with fail
    refine region_steps (S := SR5 w) (by kernel_rfl) (SR5.drewS hS0) ?_
    clear hS0
    simp only [List.size_toArray, List.length_cons, List.length_nil, Nat.reduceAdd, Array.replicate_succ, Array.replicate_zero, List.push_toArray, List.nil_append, List.cons_append]
    refine AnyS.stepE (i := 0) (d := some 20) rfl rfl (by kernel_rfl) (by kernel_rfl) (by kernel_rfl) ?_
    apply Exists.intro
    apply And.intro
    · apply StepsIf.yield
      · kernel_rfl
      intro w' hS
      clear hS; go_simp
      rfl
    intro a' ha'
    simp only [Act.put, List.setIfInBounds_toArray, List.set_cons_zero, List.set_cons_succ] at ha'
    subst ha'
    refine AnyS.stepE (i := 1) (d := some 21) rfl rfl (by kernel_rfl) (by kernel_rfl) (by kernel_rfl) ?_
    apply Exists.intro
    apply And.intro
    · apply StepsIf.yield
      · kernel_rfl
      intro w' hS
      clear hS; go_simp
      rfl
    intro a' ha'
    simp only [Act.put, List.setIfInBounds_toArray, List.set_cons_zero, List.set_cons_succ] at ha'
    subst ha'
    refine AnyS.stepE (i := 2) (d := some 22) rfl rfl (by kernel_rfl) (by kernel_rfl) (by kernel_rfl) ?_
    apply Exists.intro
    apply And.intro
    · apply StepsIf.yield
      · kernel_rfl
      intro w' hS
      clear hS; go_simp
      rfl
    intro a' ha'
    simp only [Act.put, List.setIfInBounds_toArray, List.set_cons_zero, List.set_cons_succ] at ha'
    subst ha'
    refine AnyS.stepE (i := 3) (d := some 23) rfl rfl (by kernel_rfl) (by kernel_rfl) (by kernel_rfl) ?_
    apply Exists.intro
    apply And.intro
    · apply StepsIf.yield
      · kernel_rfl
      intro w' hS
      clear hS; go_simp
      rfl
    intro a' ha'
    simp only [Act.put, List.setIfInBounds_toArray, List.set_cons_zero, List.set_cons_succ] at ha'
    subst ha'
    refine AnyS.stepE (i := 4) (d := some 24) rfl rfl (by kernel_rfl) (by kernel_rfl) (by kernel_rfl) ?_
    apply Exists.intro
    apply And.intro
    · apply StepsIf.yield
      · kernel_rfl
      intro w' hS
      clear hS; go_simp
      rfl
    intro a' ha'
    simp only [Act.put, List.setIfInBounds_toArray, List.set_cons_zero, List.set_cons_succ] at ha'
    subst ha'
    refine AnyS.stepE (i := 5) (d := some 25) rfl rfl (by kernel_rfl) (by kernel_rfl) (by kernel_rfl) ?_
    apply Exists.intro
    apply And.intro
    · apply StepsIf.yield
      · kernel_rfl
      intro w' hS
      clear hS; go_simp
      rfl
    intro a' ha'
    simp only [Act.put, List.setIfInBounds_toArray, List.set_cons_zero, List.set_cons_succ] at ha'
    subst ha'
    refine AnyS.stepE (i := 6) (d := some 26) rfl rfl (by kernel_rfl) (by kernel_rfl) (by kernel_rfl) ?_
    apply Exists.intro
    apply And.intro
    · apply StepsIf.yield
      · kernel_rfl
      intro w' hS
      clear hS; go_simp
      rfl
    intro a' ha'
    simp only [Act.put, List.setIfInBounds_toArray, List.set_cons_zero, List.set_cons_succ] at ha'
    subst ha'
    refine AnyS.next (i := 7) (d := some 27) (v := .bool x) rfl rfl (by kernel_rfl) (by kernel_rfl) (by kernel_rfl) (StepsIf.call (by kernel_rfl) (fun w' hS => by clear hS; go_simp) (fun w' hS => (hbg w').mono fun e w'' h => ⟨h.1, hS.go h.2⟩)) ?_
    intro a' ha'
    simp only [Act.put, List.setIfInBounds_toArray, List.set_cons_zero, List.set_cons_succ] at ha'
    subst ha'
    refine AnyS.done (by kernel_rfl) ?_ _
    intro w2 hS2
    clear hbg m1 m3 m4
    cases x with
    | true =>
      have hN := Lib.hid (HG.out rfl HNO.out).1
      have hL := Lib.hid (HG.out rfl HNO.out).2
      clear HG HX HNO HEND
      obtain ⟨⟨zk, zp, ze, zt, zn, zm⟩, er, pl⟩ := Z
      go_wp2_with fail
      refine (HRD.out _).mono ?_
      rintro en w3 ⟨rfl, hb⟩
      have hS3 := hS2.go hb
      have HR := Lib.hid hS3.1.1
      have hB3 := hS3.2
      clear hb HRD hS2 hS3
      go_wp2_with ((with_reducible refine wpList_store_st (o := ⟨none, .store 89 _ _, _, _, _, _⟩) rfl 89 _ _ rfl w.heap.size rfl rfl (run_storeAt_row _ w.heap.size 89 89 (rgZ 0 0 0 0 0 0 0 eT) (rgI zk zp ze zt zn zm er pl z) ?_ ?_ ?_ ?_) ?_); exact HR.out; exact infoRg; rfl; exact rg_one _ _ _ _ _ _ _ _ _)
      exact bodyPost_ret (v := .agg (rgI zk zp ze zt zn zm er pl z)) (results_cell_row rfl _ _ w.heap.size 89 (rgI zk zp ze zt zn zm er pl z) (0, 0) _ rfl (Blk.setRow HR.out) Tryz.underlying89 rfl infoRg) rfl ⟨by rw [hN.out, hL.out], below_row hB3 (Nat.le_refl _) _⟩
    | false =>
      clear HG HEND HRD
      go_wp2_with fail
      go_roundw
      case rel =>
        refine ⟨1, by omega, by simp, fun i hi => ?_, hS2⟩
        by_cases hij : i = 0
        · subst hij; exact HX.out
        · exact HNO.out i (by omega)
      case measure => simp [intOf]
  · -- shut
    have hbg : ∀ w, Calls Tryz.prog 95 #[.agg #[], .int .u8 (bt s a)] w fun en w' => en = .returned (.bool (begK 1 (bt s a))) ∧ Below w.heap.size w w' := shutBegins_calls (bt s a)
    have HRD : Hid (∀ w, Calls Tryz.prog 98 #[.agg #[], .string s, .int .i64 a] w fun en w' => en = .returned (.agg (rgA (readK s a 1) (lackK s a 1))) ∧ Below w.heap.size w w') := Lib.hid (shutRead_calls s hs a ha)
    have HG := Lib.hid (next_kind s a 1 (by omega))
    have m1 := m_shut_begins
    have m2 := m_shut_read
    have m3 := n_shut_begins
    have m4 := ix_shut
    generalize bt s a = b at *
    generalize readK s a 1 = Z at *
    generalize lackK s a 1 = z at *
    generalize hx : begK 1 b = x at *
    have HX := Lib.hid hx
    have HNO := Lib.hid hno
    clear hx hno
    go_upto_region 6 with fail
    refine region_steps (S := SR5 w) (by kernel_rfl) (SR5.drewS hS0) ?_
    clear hS0
    simp only [List.size_toArray, List.length_cons, List.length_nil, Nat.reduceAdd, Array.replicate_succ, Array.replicate_zero, List.push_toArray, List.nil_append, List.cons_append]
    refine AnyS.stepE (i := 0) (d := some 20) rfl rfl (by kernel_rfl) (by kernel_rfl) (by kernel_rfl) ?_
    apply Exists.intro
    apply And.intro
    · apply StepsIf.yield
      · kernel_rfl
      intro w' hS
      clear hS; go_simp
      rfl
    intro a' ha'
    simp only [Act.put, List.setIfInBounds_toArray, List.set_cons_zero, List.set_cons_succ] at ha'
    subst ha'
    refine AnyS.stepE (i := 1) (d := some 21) rfl rfl (by kernel_rfl) (by kernel_rfl) (by kernel_rfl) ?_
    apply Exists.intro
    apply And.intro
    · apply StepsIf.yield
      · kernel_rfl
      intro w' hS
      clear hS; go_simp
      rfl
    intro a' ha'
    simp only [Act.put, List.setIfInBounds_toArray, List.set_cons_zero, List.set_cons_succ] at ha'
    subst ha'
    refine AnyS.stepE (i := 2) (d := some 22) rfl rfl (by kernel_rfl) (by kernel_rfl) (by kernel_rfl) ?_
    apply Exists.intro
    apply And.intro
    · apply StepsIf.yield
      · kernel_rfl
      intro w' hS
      clear hS; go_simp
      rfl
    intro a' ha'
    simp only [Act.put, List.setIfInBounds_toArray, List.set_cons_zero, List.set_cons_succ] at ha'
    subst ha'
    refine AnyS.stepE (i := 3) (d := some 23) rfl rfl (by kernel_rfl) (by kernel_rfl) (by kernel_rfl) ?_
    apply Exists.intro
    apply And.intro
    · apply StepsIf.yield
      · kernel_rfl
      intro w' hS
      clear hS; go_simp
      rfl
    intro a' ha'
    simp only [Act.put, List.setIfInBounds_toArray, List.set_cons_zero, List.set_cons_succ] at ha'
    subst ha'
    refine AnyS.stepE (i := 4) (d := some 24) rfl rfl (by kernel_rfl) (by kernel_rfl) (by kernel_rfl) ?_
    apply Exists.intro
    apply And.intro
    · apply StepsIf.yield
      · kernel_rfl
      intro w' hS
      clear hS; go_simp
      rfl
    intro a' ha'
    simp only [Act.put, List.setIfInBounds_toArray, List.set_cons_zero, List.set_cons_succ] at ha'
    subst ha'
    refine AnyS.stepE (i := 5) (d := some 25) rfl rfl (by kernel_rfl) (by kernel_rfl) (by kernel_rfl) ?_
    apply Exists.intro
    apply And.intro
    · apply StepsIf.yield
      · kernel_rfl
      intro w' hS
      clear hS; go_simp
      rfl
    intro a' ha'
    simp only [Act.put, List.setIfInBounds_toArray, List.set_cons_zero, List.set_cons_succ] at ha'
    subst ha'
    refine AnyS.stepE (i := 6) (d := some 26) rfl rfl (by kernel_rfl) (by kernel_rfl) (by kernel_rfl) ?_
    apply Exists.intro
    apply And.intro
    · apply StepsIf.yield
      · kernel_rfl
      intro w' hS
      clear hS; go_simp
      rfl
    intro a' ha'
    simp only [Act.put, List.setIfInBounds_toArray, List.set_cons_zero, List.set_cons_succ] at ha'
    subst ha'
    refine AnyS.next (i := 7) (d := some 27) (v := .bool x) rfl rfl (by kernel_rfl) (by kernel_rfl) (by kernel_rfl) (StepsIf.call (by kernel_rfl) (fun w' hS => by clear hS; go_simp) (fun w' hS => (hbg w').mono fun e w'' h => ⟨h.1, hS.go h.2⟩)) ?_
    intro a' ha'
    simp only [Act.put, List.setIfInBounds_toArray, List.set_cons_zero, List.set_cons_succ] at ha'
    subst ha'
    refine AnyS.done (by kernel_rfl) ?_ _
    intro w2 hS2
    clear hbg m1 m3 m4
    cases x with
    | true =>
      have hN := Lib.hid (HG.out rfl HNO.out).1
      have hL := Lib.hid (HG.out rfl HNO.out).2
      clear HG HX HNO HEND
      obtain ⟨⟨zk, zp, ze, zt, zn, zm⟩, er, pl⟩ := Z
      go_wp2_with fail
      refine (HRD.out _).mono ?_
      rintro en w3 ⟨rfl, hb⟩
      have hS3 := hS2.go hb
      have HR := Lib.hid hS3.1.1
      have hB3 := hS3.2
      clear hb HRD hS2 hS3
      go_wp2_with ((with_reducible refine wpList_store_st (o := ⟨none, .store 89 _ _, _, _, _, _⟩) rfl 89 _ _ rfl w.heap.size rfl rfl (run_storeAt_row _ w.heap.size 89 89 (rgZ 0 0 0 0 0 0 0 eT) (rgI zk zp ze zt zn zm er pl z) ?_ ?_ ?_ ?_) ?_); exact HR.out; exact infoRg; rfl; exact rg_one _ _ _ _ _ _ _ _ _)
      exact bodyPost_ret (v := .agg (rgI zk zp ze zt zn zm er pl z)) (results_cell_row rfl _ _ w.heap.size 89 (rgI zk zp ze zt zn zm er pl z) (0, 0) _ rfl (Blk.setRow HR.out) Tryz.underlying89 rfl infoRg) rfl ⟨by rw [hN.out, hL.out], below_row hB3 (Nat.le_refl _) _⟩
    | false =>
      clear HG HEND HRD
      go_wp2_with fail
      go_roundw
      case rel =>
        refine ⟨2, by omega, by simp, fun i hi => ?_, hS2⟩
        by_cases hij : i = 1
        · subst hij; exact HX.out
        · exact HNO.out i (by omega)
      case measure => simp [intOf]
  · -- bar
    have hbg : ∀ w, Calls Tryz.prog 99 #[.agg #[], .int .u8 (bt s a)] w fun en w' => en = .returned (.bool (begK 2 (bt s a))) ∧ Below w.heap.size w w' := barBegins_calls (bt s a)
    have HRD : Hid (∀ w, Calls Tryz.prog 102 #[.agg #[], .string s, .int .i64 a] w fun en w' => en = .returned (.agg (rgA (readK s a 2) (lackK s a 2))) ∧ Below w.heap.size w w') := Lib.hid (barRead_calls s hs a ha)
    have HG := Lib.hid (next_kind s a 2 (by omega))
    have m1 := m_bar_begins
    have m2 := m_bar_read
    have m3 := n_bar_begins
    have m4 := ix_bar
    generalize bt s a = b at *
    generalize readK s a 2 = Z at *
    generalize lackK s a 2 = z at *
    generalize hx : begK 2 b = x at *
    have HX := Lib.hid hx
    have HNO := Lib.hid hno
    clear hx hno
    go_upto_region 6 with fail
    refine region_steps (S := SR5 w) (by kernel_rfl) (SR5.drewS hS0) ?_
    clear hS0
    simp only [List.size_toArray, List.length_cons, List.length_nil, Nat.reduceAdd, Array.replicate_succ, Array.replicate_zero, List.push_toArray, List.nil_append, List.cons_append]
    refine AnyS.stepE (i := 0) (d := some 20) rfl rfl (by kernel_rfl) (by kernel_rfl) (by kernel_rfl) ?_
    apply Exists.intro
    apply And.intro
    · apply StepsIf.yield
      · kernel_rfl
      intro w' hS
      clear hS; go_simp
      rfl
    intro a' ha'
    simp only [Act.put, List.setIfInBounds_toArray, List.set_cons_zero, List.set_cons_succ] at ha'
    subst ha'
    refine AnyS.stepE (i := 1) (d := some 21) rfl rfl (by kernel_rfl) (by kernel_rfl) (by kernel_rfl) ?_
    apply Exists.intro
    apply And.intro
    · apply StepsIf.yield
      · kernel_rfl
      intro w' hS
      clear hS; go_simp
      rfl
    intro a' ha'
    simp only [Act.put, List.setIfInBounds_toArray, List.set_cons_zero, List.set_cons_succ] at ha'
    subst ha'
    refine AnyS.stepE (i := 2) (d := some 22) rfl rfl (by kernel_rfl) (by kernel_rfl) (by kernel_rfl) ?_
    apply Exists.intro
    apply And.intro
    · apply StepsIf.yield
      · kernel_rfl
      intro w' hS
      clear hS; go_simp
      rfl
    intro a' ha'
    simp only [Act.put, List.setIfInBounds_toArray, List.set_cons_zero, List.set_cons_succ] at ha'
    subst ha'
    refine AnyS.stepE (i := 3) (d := some 23) rfl rfl (by kernel_rfl) (by kernel_rfl) (by kernel_rfl) ?_
    apply Exists.intro
    apply And.intro
    · apply StepsIf.yield
      · kernel_rfl
      intro w' hS
      clear hS; go_simp
      rfl
    intro a' ha'
    simp only [Act.put, List.setIfInBounds_toArray, List.set_cons_zero, List.set_cons_succ] at ha'
    subst ha'
    refine AnyS.stepE (i := 4) (d := some 24) rfl rfl (by kernel_rfl) (by kernel_rfl) (by kernel_rfl) ?_
    apply Exists.intro
    apply And.intro
    · apply StepsIf.yield
      · kernel_rfl
      intro w' hS
      clear hS; go_simp
      rfl
    intro a' ha'
    simp only [Act.put, List.setIfInBounds_toArray, List.set_cons_zero, List.set_cons_succ] at ha'
    subst ha'
    refine AnyS.stepE (i := 5) (d := some 25) rfl rfl (by kernel_rfl) (by kernel_rfl) (by kernel_rfl) ?_
    apply Exists.intro
    apply And.intro
    · apply StepsIf.yield
      · kernel_rfl
      intro w' hS
      clear hS; go_simp
      rfl
    intro a' ha'
    simp only [Act.put, List.setIfInBounds_toArray, List.set_cons_zero, List.set_cons_succ] at ha'
    subst ha'
    refine AnyS.stepE (i := 6) (d := some 26) rfl rfl (by kernel_rfl) (by kernel_rfl) (by kernel_rfl) ?_
    apply Exists.intro
    apply And.intro
    · apply StepsIf.yield
      · kernel_rfl
      intro w' hS
      clear hS; go_simp
      rfl
    intro a' ha'
    simp only [Act.put, List.setIfInBounds_toArray, List.set_cons_zero, List.set_cons_succ] at ha'
    subst ha'
    refine AnyS.next (i := 7) (d := some 27) (v := .bool x) rfl rfl (by kernel_rfl) (by kernel_rfl) (by kernel_rfl) (StepsIf.call (by kernel_rfl) (fun w' hS => by clear hS; go_simp) (fun w' hS => (hbg w').mono fun e w'' h => ⟨h.1, hS.go h.2⟩)) ?_
    intro a' ha'
    simp only [Act.put, List.setIfInBounds_toArray, List.set_cons_zero, List.set_cons_succ] at ha'
    subst ha'
    refine AnyS.done (by kernel_rfl) ?_ _
    intro w2 hS2
    clear hbg m1 m3 m4
    cases x with
    | true =>
      have hN := Lib.hid (HG.out rfl HNO.out).1
      have hL := Lib.hid (HG.out rfl HNO.out).2
      clear HG HX HNO HEND
      obtain ⟨⟨zk, zp, ze, zt, zn, zm⟩, er, pl⟩ := Z
      go_wp2_with fail
      refine (HRD.out _).mono ?_
      rintro en w3 ⟨rfl, hb⟩
      have hS3 := hS2.go hb
      have HR := Lib.hid hS3.1.1
      have hB3 := hS3.2
      clear hb HRD hS2 hS3
      go_wp2_with ((with_reducible refine wpList_store_st (o := ⟨none, .store 89 _ _, _, _, _, _⟩) rfl 89 _ _ rfl w.heap.size rfl rfl (run_storeAt_row _ w.heap.size 89 89 (rgZ 0 0 0 0 0 0 0 eT) (rgI zk zp ze zt zn zm er pl z) ?_ ?_ ?_ ?_) ?_); exact HR.out; exact infoRg; rfl; exact rg_one _ _ _ _ _ _ _ _ _)
      exact bodyPost_ret (v := .agg (rgI zk zp ze zt zn zm er pl z)) (results_cell_row rfl _ _ w.heap.size 89 (rgI zk zp ze zt zn zm er pl z) (0, 0) _ rfl (Blk.setRow HR.out) Tryz.underlying89 rfl infoRg) rfl ⟨by rw [hN.out, hL.out], below_row hB3 (Nat.le_refl _) _⟩
    | false =>
      clear HG HEND HRD
      go_wp2_with fail
      go_roundw
      case rel =>
        refine ⟨3, by omega, by simp, fun i hi => ?_, hS2⟩
        by_cases hij : i = 2
        · subst hij; exact HX.out
        · exact HNO.out i (by omega)
      case measure => simp [intOf]
  · -- rep
    have hbg : ∀ w, Calls Tryz.prog 103 #[.agg #[], .int .u8 (bt s a)] w fun en w' => en = .returned (.bool (begK 3 (bt s a))) ∧ Below w.heap.size w w' := repBegins_calls (bt s a) hl0
    have HRD : Hid (∀ w, Calls Tryz.prog 106 #[.agg #[], .string s, .int .i64 a] w fun en w' => en = .returned (.agg (rgA (readK s a 3) (lackK s a 3))) ∧ Below w.heap.size w w') := Lib.hid (repRead_calls s hs a)
    have HG := Lib.hid (next_kind s a 3 (by omega))
    have m1 := m_rep_begins
    have m2 := m_rep_read
    have m3 := n_rep_begins
    have m4 := ix_rep
    generalize bt s a = b at *
    generalize readK s a 3 = Z at *
    generalize lackK s a 3 = z at *
    generalize hx : begK 3 b = x at *
    have HX := Lib.hid hx
    have HNO := Lib.hid hno
    clear hx hno
    go_upto_region 6 with fail
    refine region_steps (S := SR5 w) (by kernel_rfl) (SR5.drewS hS0) ?_
    clear hS0
    simp only [List.size_toArray, List.length_cons, List.length_nil, Nat.reduceAdd, Array.replicate_succ, Array.replicate_zero, List.push_toArray, List.nil_append, List.cons_append]
    refine AnyS.stepE (i := 0) (d := some 20) rfl rfl (by kernel_rfl) (by kernel_rfl) (by kernel_rfl) ?_
    apply Exists.intro
    apply And.intro
    · apply StepsIf.yield
      · kernel_rfl
      intro w' hS
      clear hS; go_simp
      rfl
    intro a' ha'
    simp only [Act.put, List.setIfInBounds_toArray, List.set_cons_zero, List.set_cons_succ] at ha'
    subst ha'
    refine AnyS.stepE (i := 1) (d := some 21) rfl rfl (by kernel_rfl) (by kernel_rfl) (by kernel_rfl) ?_
    apply Exists.intro
    apply And.intro
    · apply StepsIf.yield
      · kernel_rfl
      intro w' hS
      clear hS; go_simp
      rfl
    intro a' ha'
    simp only [Act.put, List.setIfInBounds_toArray, List.set_cons_zero, List.set_cons_succ] at ha'
    subst ha'
    refine AnyS.stepE (i := 2) (d := some 22) rfl rfl (by kernel_rfl) (by kernel_rfl) (by kernel_rfl) ?_
    apply Exists.intro
    apply And.intro
    · apply StepsIf.yield
      · kernel_rfl
      intro w' hS
      clear hS; go_simp
      rfl
    intro a' ha'
    simp only [Act.put, List.setIfInBounds_toArray, List.set_cons_zero, List.set_cons_succ] at ha'
    subst ha'
    refine AnyS.stepE (i := 3) (d := some 23) rfl rfl (by kernel_rfl) (by kernel_rfl) (by kernel_rfl) ?_
    apply Exists.intro
    apply And.intro
    · apply StepsIf.yield
      · kernel_rfl
      intro w' hS
      clear hS; go_simp
      rfl
    intro a' ha'
    simp only [Act.put, List.setIfInBounds_toArray, List.set_cons_zero, List.set_cons_succ] at ha'
    subst ha'
    refine AnyS.stepE (i := 4) (d := some 24) rfl rfl (by kernel_rfl) (by kernel_rfl) (by kernel_rfl) ?_
    apply Exists.intro
    apply And.intro
    · apply StepsIf.yield
      · kernel_rfl
      intro w' hS
      clear hS; go_simp
      rfl
    intro a' ha'
    simp only [Act.put, List.setIfInBounds_toArray, List.set_cons_zero, List.set_cons_succ] at ha'
    subst ha'
    refine AnyS.stepE (i := 5) (d := some 25) rfl rfl (by kernel_rfl) (by kernel_rfl) (by kernel_rfl) ?_
    apply Exists.intro
    apply And.intro
    · apply StepsIf.yield
      · kernel_rfl
      intro w' hS
      clear hS; go_simp
      rfl
    intro a' ha'
    simp only [Act.put, List.setIfInBounds_toArray, List.set_cons_zero, List.set_cons_succ] at ha'
    subst ha'
    refine AnyS.stepE (i := 6) (d := some 26) rfl rfl (by kernel_rfl) (by kernel_rfl) (by kernel_rfl) ?_
    apply Exists.intro
    apply And.intro
    · apply StepsIf.yield
      · kernel_rfl
      intro w' hS
      clear hS; go_simp
      rfl
    intro a' ha'
    simp only [Act.put, List.setIfInBounds_toArray, List.set_cons_zero, List.set_cons_succ] at ha'
    subst ha'
    refine AnyS.next (i := 7) (d := some 27) (v := .bool x) rfl rfl (by kernel_rfl) (by kernel_rfl) (by kernel_rfl) (StepsIf.call (by kernel_rfl) (fun w' hS => by clear hS; go_simp) (fun w' hS => (hbg w').mono fun e w'' h => ⟨h.1, hS.go h.2⟩)) ?_
    intro a' ha'
    simp only [Act.put, List.setIfInBounds_toArray, List.set_cons_zero, List.set_cons_succ] at ha'
    subst ha'
    refine AnyS.done (by kernel_rfl) ?_ _
    intro w2 hS2
    clear hbg m1 m3 m4
    cases x with
    | true =>
      have hN := Lib.hid (HG.out rfl HNO.out).1
      have hL := Lib.hid (HG.out rfl HNO.out).2
      clear HG HX HNO HEND
      obtain ⟨⟨zk, zp, ze, zt, zn, zm⟩, er, pl⟩ := Z
      go_wp2_with fail
      refine (HRD.out _).mono ?_
      rintro en w3 ⟨rfl, hb⟩
      have hS3 := hS2.go hb
      have HR := Lib.hid hS3.1.1
      have hB3 := hS3.2
      clear hb HRD hS2 hS3
      go_wp2_with ((with_reducible refine wpList_store_st (o := ⟨none, .store 89 _ _, _, _, _, _⟩) rfl 89 _ _ rfl w.heap.size rfl rfl (run_storeAt_row _ w.heap.size 89 89 (rgZ 0 0 0 0 0 0 0 eT) (rgI zk zp ze zt zn zm er pl z) ?_ ?_ ?_ ?_) ?_); exact HR.out; exact infoRg; rfl; exact rg_one _ _ _ _ _ _ _ _ _)
      exact bodyPost_ret (v := .agg (rgI zk zp ze zt zn zm er pl z)) (results_cell_row rfl _ _ w.heap.size 89 (rgI zk zp ze zt zn zm er pl z) (0, 0) _ rfl (Blk.setRow HR.out) Tryz.underlying89 rfl infoRg) rfl ⟨by rw [hN.out, hL.out], below_row hB3 (Nat.le_refl _) _⟩
    | false =>
      clear HG HEND HRD
      go_wp2_with fail
      go_roundw
      case rel =>
        refine ⟨4, by omega, by simp, fun i hi => ?_, hS2⟩
        by_cases hij : i = 3
        · subst hij; exact HX.out
        · exact HNO.out i (by omega)
      case measure => simp [intOf]
  · -- one
    have hbg : ∀ w, Calls Tryz.prog 118 #[.agg #[], .int .u8 (bt s a)] w fun en w' => en = .returned (.bool (begK 4 (bt s a))) ∧ Below w.heap.size w w' := oneBegins_calls (bt s a)
    have HRD : Hid (∀ w, Calls Tryz.prog 121 #[.agg #[], .string s, .int .i64 a] w fun en w' => en = .returned (.agg (rgA (readK s a 4) (lackK s a 4))) ∧ Below w.heap.size w w') := Lib.hid (oneRead_calls s hs a ha)
    have HG := Lib.hid (next_kind s a 4 (by omega))
    have m1 := m_one_begins
    have m2 := m_one_read
    have m3 := n_one_begins
    have m4 := ix_one
    generalize bt s a = b at *
    generalize readK s a 4 = Z at *
    generalize lackK s a 4 = z at *
    generalize hx : begK 4 b = x at *
    have HX := Lib.hid hx
    have HNO := Lib.hid hno
    clear hx hno
    go_upto_region 6 with fail
    refine region_steps (S := SR5 w) (by kernel_rfl) (SR5.drewS hS0) ?_
    clear hS0
    simp only [List.size_toArray, List.length_cons, List.length_nil, Nat.reduceAdd, Array.replicate_succ, Array.replicate_zero, List.push_toArray, List.nil_append, List.cons_append]
    refine AnyS.stepE (i := 0) (d := some 20) rfl rfl (by kernel_rfl) (by kernel_rfl) (by kernel_rfl) ?_
    apply Exists.intro
    apply And.intro
    · apply StepsIf.yield
      · kernel_rfl
      intro w' hS
      clear hS; go_simp
      rfl
    intro a' ha'
    simp only [Act.put, List.setIfInBounds_toArray, List.set_cons_zero, List.set_cons_succ] at ha'
    subst ha'
    refine AnyS.stepE (i := 1) (d := some 21) rfl rfl (by kernel_rfl) (by kernel_rfl) (by kernel_rfl) ?_
    apply Exists.intro
    apply And.intro
    · apply StepsIf.yield
      · kernel_rfl
      intro w' hS
      clear hS; go_simp
      rfl
    intro a' ha'
    simp only [Act.put, List.setIfInBounds_toArray, List.set_cons_zero, List.set_cons_succ] at ha'
    subst ha'
    refine AnyS.stepE (i := 2) (d := some 22) rfl rfl (by kernel_rfl) (by kernel_rfl) (by kernel_rfl) ?_
    apply Exists.intro
    apply And.intro
    · apply StepsIf.yield
      · kernel_rfl
      intro w' hS
      clear hS; go_simp
      rfl
    intro a' ha'
    simp only [Act.put, List.setIfInBounds_toArray, List.set_cons_zero, List.set_cons_succ] at ha'
    subst ha'
    refine AnyS.stepE (i := 3) (d := some 23) rfl rfl (by kernel_rfl) (by kernel_rfl) (by kernel_rfl) ?_
    apply Exists.intro
    apply And.intro
    · apply StepsIf.yield
      · kernel_rfl
      intro w' hS
      clear hS; go_simp
      rfl
    intro a' ha'
    simp only [Act.put, List.setIfInBounds_toArray, List.set_cons_zero, List.set_cons_succ] at ha'
    subst ha'
    refine AnyS.stepE (i := 4) (d := some 24) rfl rfl (by kernel_rfl) (by kernel_rfl) (by kernel_rfl) ?_
    apply Exists.intro
    apply And.intro
    · apply StepsIf.yield
      · kernel_rfl
      intro w' hS
      clear hS; go_simp
      rfl
    intro a' ha'
    simp only [Act.put, List.setIfInBounds_toArray, List.set_cons_zero, List.set_cons_succ] at ha'
    subst ha'
    refine AnyS.stepE (i := 5) (d := some 25) rfl rfl (by kernel_rfl) (by kernel_rfl) (by kernel_rfl) ?_
    apply Exists.intro
    apply And.intro
    · apply StepsIf.yield
      · kernel_rfl
      intro w' hS
      clear hS; go_simp
      rfl
    intro a' ha'
    simp only [Act.put, List.setIfInBounds_toArray, List.set_cons_zero, List.set_cons_succ] at ha'
    subst ha'
    refine AnyS.stepE (i := 6) (d := some 26) rfl rfl (by kernel_rfl) (by kernel_rfl) (by kernel_rfl) ?_
    apply Exists.intro
    apply And.intro
    · apply StepsIf.yield
      · kernel_rfl
      intro w' hS
      clear hS; go_simp
      rfl
    intro a' ha'
    simp only [Act.put, List.setIfInBounds_toArray, List.set_cons_zero, List.set_cons_succ] at ha'
    subst ha'
    refine AnyS.next (i := 7) (d := some 27) (v := .bool x) rfl rfl (by kernel_rfl) (by kernel_rfl) (by kernel_rfl) (StepsIf.call (by kernel_rfl) (fun w' hS => by clear hS; go_simp) (fun w' hS => (hbg w').mono fun e w'' h => ⟨h.1, hS.go h.2⟩)) ?_
    intro a' ha'
    simp only [Act.put, List.setIfInBounds_toArray, List.set_cons_zero, List.set_cons_succ] at ha'
    subst ha'
    refine AnyS.done (by kernel_rfl) ?_ _
    intro w2 hS2
    clear hbg m1 m3 m4
    cases x with
    | true =>
      have hN := Lib.hid (HG.out rfl HNO.out).1
      have hL := Lib.hid (HG.out rfl HNO.out).2
      clear HG HX HNO HEND
      obtain ⟨⟨zk, zp, ze, zt, zn, zm⟩, er, pl⟩ := Z
      go_wp2_with fail
      refine (HRD.out _).mono ?_
      rintro en w3 ⟨rfl, hb⟩
      have hS3 := hS2.go hb
      have HR := Lib.hid hS3.1.1
      have hB3 := hS3.2
      clear hb HRD hS2 hS3
      go_wp2_with ((with_reducible refine wpList_store_st (o := ⟨none, .store 89 _ _, _, _, _, _⟩) rfl 89 _ _ rfl w.heap.size rfl rfl (run_storeAt_row _ w.heap.size 89 89 (rgZ 0 0 0 0 0 0 0 eT) (rgI zk zp ze zt zn zm er pl z) ?_ ?_ ?_ ?_) ?_); exact HR.out; exact infoRg; rfl; exact rg_one _ _ _ _ _ _ _ _ _)
      exact bodyPost_ret (v := .agg (rgI zk zp ze zt zn zm er pl z)) (results_cell_row rfl _ _ w.heap.size 89 (rgI zk zp ze zt zn zm er pl z) (0, 0) _ rfl (Blk.setRow HR.out) Tryz.underlying89 rfl infoRg) rfl ⟨by rw [hN.out, hL.out], below_row hB3 (Nat.le_refl _) _⟩
    | false =>
      clear HG HEND HRD
      go_wp2_with fail
      go_roundw
      case rel =>
        refine ⟨5, by omega, by simp, fun i hi => ?_, hS2⟩
        by_cases hij : i = 4
        · subst hij; exact HX.out
        · exact HNO.out i (by omega)
      case measure => simp [intOf]
  · have hN := Lib.hid (HEND.out hno).1
    have hL := Lib.hid (HEND.out hno).2
    have HF := Lib.hid (fun w => fault5_calls 3 ((a : Int) + 1) w)
    clear HEND hno
    go_wp2_with fail
    refine (HF.out _).mono ?_
    rintro en w3 ⟨rfl, hb⟩
    have hS3 := hS0.go hb
    have HR := Lib.hid hS3.1.1
    have hB3 := hS3.2
    clear hb HF hS0 hS3
    go_wp2_with ((with_reducible refine wpList_store_st (o := ⟨none, .store 89 _ _, _, _, _, _⟩) rfl 89 _ _ rfl w.heap.size rfl rfl (run_storeAt_row _ w.heap.size 89 89 (rgZ 0 0 0 0 0 0 0 eT) (rgZ 0 0 0 0 0 3 ((a : Int) + 1) eT) ?_ ?_ ?_ ?_) ?_); exact HR.out; exact infoRg; rfl; exact rg_one _ _ _ 0 _ _ _ _ _)
    exact bodyPost_ret (v := .agg (rgZ 0 0 0 0 0 3 ((a : Int) + 1) eT)) (results_cell_row rfl _ _ w.heap.size 89 (rgZ 0 0 0 0 0 3 ((a : Int) + 1) eT) (0, 0) _ rfl (Blk.setRow HR.out) Tryz.underlying89 rfl infoRg) rfl ⟨by rw [hN.out, hL.out, rgZ_eq]; rfl, below_row hB3 (Nat.le_refl _) _⟩
end Go.Proofs.YthodphgbdmnpoaaGreatDoor

/- The developers' words: read at any place, Next, Lack, Text. -/
namespace Go.Proofs.YthodphgbdmnpoaaGreatDoor
open Go.RowKit Go.Shelf BS

theorem next_in (s : ByteArray) (a : Nat) (ha : a < s.size) : nextA s a = nextN s a ∧ lackA s a = lackG5 s a := by
  unfold nextN lackG5
  rw [if_neg (by omega), if_neg (by omega)]
  exact ⟨rfl, rfl⟩
theorem next_far (s : ByteArray) (at' : Int) (h : at' < 0 ∨ (s.size : Int) ≤ at') : nextN s at' = (zWN, 1, 0) ∧ lackG5 s at' = eT := by
  unfold nextN lackG5
  rw [if_pos h, if_pos h]
  exact ⟨rfl, rfl⟩
set_option maxRecDepth 100000 in
set_option maxHeartbeats 8000000 in
theorem read5_calls (s : ByteArray) (hs : s.size ≤ 1000000) (at' : Int) (w : World) : Calls Tryz.prog 44 #[.string s, .int .i64 at'] w fun en w' => en = .returned (.agg (rgA (nextN s at') (lackG5 s at'))) ∧ Below w.heap.size w w' := by
  by_cases hin : 0 ≤ at' ∧ at' < s.size
  · obtain ⟨a, rfl⟩ := Int.eq_ofNat_of_zero_le hin.1
    have h := next_in s a (by omega)
    rw [← h.1, ← h.2]
    exact read5_in s hs a (by omega) w
  have hfar := next_far s at' (by omega)
  rw [hfar.1, hfar.2]
  have HF := Lib.hid (fun w => fault5_calls 1 0 w)
  have HR := Lib.hid (Blk.new w (rgZ 0 0 0 0 0 0 0 eT) 89)
  have HB : Hid (Below w.heap.size w (w.alloc (.cells (rgZ 0 0 0 0 0 0 0 eT) 89))) := Lib.hid (by go_grown)
  have hz : w.heap.size + 1 ≤ (w.alloc (.cells (rgZ 0 0 0 0 0 0 0 eT) 89)).heap.size := by simp
  go_enter Tryz.func44, Tryz.ntmps44
  go_upto_region 1 with fail
  have e0 : w.alloc (.cells #[.int .i64 0, .int .i64 0, .int .i64 0, .int .u64 0, .int .u64 0, .int .u64 0, .int .u64 0, .int .i64 0, .int .i64 0, .int .i64 0, .int .i64 0, .string ⟨#[]⟩] 89) = w.alloc (.cells (rgZ 0 0 0 0 0 0 0 eT) 89) := rfl
  try rw [e0]
  clear e0
  generalize w.alloc (.cells (rgZ 0 0 0 0 0 0 0 eT) 89) = w1 at *
  by_cases hneg : at' < 0
  · have q : decide (at' < 0) = true := by simpa using hneg
    clear hin hfar hneg
    go_wp2_with fail
    refine (HF.out _).mono ?_
    rintro en w2 ⟨rfl, hb⟩
    replace HR := Lib.hid (HR.out.below hb (Blk.lt HR.out))
    replace HB := Lib.hid (HB.out.trans (hb.mono (by omega)))
    replace hz := Nat.le_trans hz hb.size
    clear hb HF
    go_wp2_with ((with_reducible refine wpList_store_st (o := ⟨none, .store 89 _ _, _, _, _, _⟩) rfl 89 _ _ rfl w.heap.size rfl rfl (run_storeAt_row _ w.heap.size 89 89 (rgZ 0 0 0 0 0 0 0 eT) (rgZ 0 0 0 0 0 1 0 eT) ?_ ?_ ?_ ?_) ?_); exact HR.out; exact infoRg; rfl; exact rg_one _ _ _ 0 _ _ _ _ _)
    exact bodyPost_ret (v := .agg (rgZ 0 0 0 0 0 1 0 eT)) (results_cell_row rfl _ _ w.heap.size 89 (rgZ 0 0 0 0 0 1 0 eT) (0, 0) _ rfl (Blk.setRow HR.out) Tryz.underlying89 rfl infoRg) rfl ⟨by rw [rgZ_eq]; rfl, below_row HB.out (Nat.le_refl _) _⟩
  · have q : decide (at' < 0) = false := by rw [decide_eq_false_iff_not]; omega
    have q1 : decide ((s.size : Int) ≤ at') = true := by rw [decide_eq_true_iff]; omega
    clear hin hfar hneg
    go_wp2_with fail
    refine (HF.out _).mono ?_
    rintro en w2 ⟨rfl, hb⟩
    replace HR := Lib.hid (HR.out.below hb (Blk.lt HR.out))
    replace HB := Lib.hid (HB.out.trans (hb.mono (by omega)))
    replace hz := Nat.le_trans hz hb.size
    clear hb HF
    go_wp2_with ((with_reducible refine wpList_store_st (o := ⟨none, .store 89 _ _, _, _, _, _⟩) rfl 89 _ _ rfl w.heap.size rfl rfl (run_storeAt_row _ w.heap.size 89 89 (rgZ 0 0 0 0 0 0 0 eT) (rgZ 0 0 0 0 0 1 0 eT) ?_ ?_ ?_ ?_) ?_); exact HR.out; exact infoRg; rfl; exact rg_one _ _ _ 0 _ _ _ _ _)
    exact bodyPost_ret (v := .agg (rgZ 0 0 0 0 0 1 0 eT)) (results_cell_row rfl _ _ w.heap.size 89 (rgZ 0 0 0 0 0 1 0 eT) (0, 0) _ rfl (Blk.setRow HR.out) Tryz.underlying89 rfl infoRg) rfl ⟨by rw [rgZ_eq]; rfl, below_row HB.out (Nat.le_refl _) _⟩
/-! ### Next -/
theorem Blk.otherRow {W : World} {B B' : Nat} {vs cs : Array Value} {t : TypeId} (h : Blk W B vs t) (hne : B' ≠ B) : Blk (W.setRow B' cs) B vs t := by
  show (W.heap.modify B' _)[B]? = _
  rw [Array.getElem?_modify]
  rw [if_neg hne]
  exact h
def SN5 (w : World) (B : Nat) (d c : Array Value) (W : World) : Prop := (Blk W w.heap.size d 37 ∧ Blk W B c 89 ∧ w.heap.size + 1 ≤ B) ∧ Below w.heap.size w W
theorem SN5.drewS {w W : World} {B : Nat} {d c : Array Value} (h : SN5 w B d c W) : SN5 w B d c W.drew := ⟨⟨h.1.1, h.1.2.1, h.1.2.2⟩, h.2.drew⟩
theorem SN5.store {w W : World} {B : Nat} {d c : Array Value} (h : SN5 w B d c W) (cs : Array Value) : SN5 w B cs c (W.setRow w.heap.size cs) :=
  ⟨⟨Blk.setRow h.1.1, h.1.2.1.otherRow (by have := h.1.2.2; omega), h.1.2.2⟩, below_row h.2 (Nat.le_refl _) _⟩
@[reducible] def woZ : Array Value := #[.int .i64 0, .int .i64 0, .int .i64 0, .int .u64 0, .int .u64 0, .int .u64 0, .int .u64 0, .int .i64 0, .int .i64 0]
set_option maxRecDepth 100000 in
set_option maxHeartbeats 8000000 in
theorem next5_dev (s : ByteArray) (hs : s.size ≤ 1000000) (at' : Int) (w : World) : Calls Tryz.prog 34 #[.string s, .int .i64 at'] w fun en w' => en = .returned (.tuple #[.agg (woA (nextN s at').1), .int .i64 (nextN s at').2.1, .int .i64 (nextN s at').2.2]) ∧ Below w.heap.size w w' := by
  have HR := Lib.hid (Blk.new w woZ 37)
  have HB : Hid (Below w.heap.size w (w.alloc (.cells woZ 37))) := Lib.hid (by go_grown)
  have hz : w.heap.size + 1 ≤ (w.alloc (.cells woZ 37)).heap.size := by simp
  have HW := read5_calls s hs at'
  generalize lackG5 s at' = l at *
  generalize nextN s at' = X at *
  obtain ⟨⟨k, p, e, t, n, m⟩, er, pl⟩ := X
  replace HW : Hid (∀ w, Calls Tryz.prog 44 #[.string s, .int .i64 at'] w fun en w' => en = .returned (.agg (rgI k p e t n m er pl l)) ∧ Below w.heap.size w w') := Lib.hid HW
  show Calls Tryz.prog 34 #[.string s, .int .i64 at'] w fun en w' => en = .returned (.tuple #[.agg (woI k p e t n m), .int .i64 er, .int .i64 pl]) ∧ Below w.heap.size w w'
  go_enter Tryz.func34, Tryz.ntmps34
  go_upto_region 1 with fail
  have e0 : w.alloc (.cells #[.int .i64 0, .int .i64 0, .int .i64 0, .int .u64 0, .int .u64 0, .int .u64 0, .int .u64 0, .int .i64 0, .int .i64 0] 37) = w.alloc (.cells woZ 37) := rfl
  try rw [e0]
  clear e0
  generalize w.alloc (.cells woZ 37) = w1 at *
  go_wp2_with fail
  refine (HW.out _).mono ?_
  rintro en w2 ⟨rfl, hb⟩
  replace HR := Lib.hid (HR.out.below hb (Blk.lt HR.out))
  replace HB := Lib.hid (HB.out.trans (hb.mono (by omega)))
  replace hz := Nat.le_trans hz hb.size
  clear hb HW
  go_upto_region 2 with fail
  have HP := Lib.hid (Blk.new w2 (rgI k p e t n m er pl l) 89)
  replace HR := Lib.hid (HR.out.alloc (.cells (rgI k p e t n m er pl l) 89))
  replace HB := Lib.hid (HB.out.alloc (by omega) (.cells (rgI k p e t n m er pl l) 89))
  generalize w2.alloc (.cells (rgI k p e t n m er pl l) 89) = w3 at *
  generalize w2.heap.size = B at *
  have H0 := Lib.hid (show SN5 w B woZ (rgI k p e t n m er pl l) w3 from ⟨⟨HR.out, HP.out, hz⟩, HB.out⟩)
  clear HR HB HP hz
  refine region_stepsL (S0 := SN5 w B woZ (rgI k p e t n m er pl l)) (S1 := SN5 w B (woI k p e t n m) (rgI k p e t n m er pl l)) (m := 6) (by kernel_rfl) (by kernel_rfl) (SN5.drewS H0.out) ?_
  clear H0
  simp only [List.size_toArray, List.length_cons, List.length_nil, Nat.reduceAdd, Array.replicate_succ, Array.replicate_zero, List.push_toArray, List.nil_append, List.cons_append]
  refine AnyL.next (m := 6) (i := 0) (d := some 11) (v := .pointer (some ⟨B, 0, none⟩)) rfl rfl (by kernel_rfl) (by kernel_rfl) (by kernel_rfl) (by kernel_rfl) (StepsIf.yield (by kernel_rfl) (fun w' hS => by clear hS; go_simp)) ?_
  intro a' ha'
  simp only [Act.put, List.setIfInBounds_toArray, List.set_cons_zero, List.set_cons_succ] at ha'
  subst ha'
  refine AnyL.next (m := 6) (i := 1) (d := some 12) (v := .agg (woI k p e t n m)) rfl rfl (by kernel_rfl) (by kernel_rfl) (by kernel_rfl) (by kernel_rfl) (StepsIf.yield (by kernel_rfl) (fun w' hS => by have c0 := hS.1.2.1.cell 0; have c1 := hS.1.2.1.cell 1; have c2 := hS.1.2.1.cell 2; have c3 := hS.1.2.1.cell 3; have c4 := hS.1.2.1.cell 4; have c5 := hS.1.2.1.cell 5; have c6 := hS.1.2.1.cell 6; have c7 := hS.1.2.1.cell 7; have c8 := hS.1.2.1.cell 8; simp only [List.getElem?_toArray, List.getElem?_cons_zero, List.getElem?_cons_succ] at c0 c1 c2 c3 c4 c5 c6 c7 c8; clear hS; go_simp)) ?_
  intro a' ha'
  simp only [Act.put, List.setIfInBounds_toArray, List.set_cons_zero, List.set_cons_succ] at ha'
  subst ha'
  refine AnyL.both (m := 6) (i := 2) (d := some 13) (v := .pointer (some ⟨B, 9, none⟩)) rfl rfl (by kernel_rfl) (by kernel_rfl) (by kernel_rfl) (by kernel_rfl) (StepsIf.yield (by kernel_rfl) (fun w' hS => by clear hS; go_simp)) (StepsIf.yield (by kernel_rfl) (fun w' hS => by clear hS; go_simp)) ?_
  intro a' ha'
  simp only [Act.put, List.setIfInBounds_toArray, List.set_cons_zero, List.set_cons_succ] at ha'
  subst ha'
  refine AnyL.both (m := 6) (i := 3) (d := some 14) (v := .int .i64 er) rfl rfl (by kernel_rfl) (by kernel_rfl) (by kernel_rfl) (by kernel_rfl) (StepsIf.yield (by kernel_rfl) (fun w' hS => by have c9 := hS.1.2.1.cell 9; simp only [List.getElem?_toArray, List.getElem?_cons_zero, List.getElem?_cons_succ] at c9; clear hS; go_simp)) (StepsIf.yield (by kernel_rfl) (fun w' hS => by have c9 := hS.1.2.1.cell 9; simp only [List.getElem?_toArray, List.getElem?_cons_zero, List.getElem?_cons_succ] at c9; clear hS; go_simp)) ?_
  intro a' ha'
  simp only [Act.put, List.setIfInBounds_toArray, List.set_cons_zero, List.set_cons_succ] at ha'
  subst ha'
  refine AnyL.both (m := 6) (i := 4) (d := some 15) (v := .pointer (some ⟨B, 10, none⟩)) rfl rfl (by kernel_rfl) (by kernel_rfl) (by kernel_rfl) (by kernel_rfl) (StepsIf.yield (by kernel_rfl) (fun w' hS => by clear hS; go_simp)) (StepsIf.yield (by kernel_rfl) (fun w' hS => by clear hS; go_simp)) ?_
  intro a' ha'
  simp only [Act.put, List.setIfInBounds_toArray, List.set_cons_zero, List.set_cons_succ] at ha'
  subst ha'
  refine AnyL.both (m := 6) (i := 5) (d := some 16) (v := .int .i64 pl) rfl rfl (by kernel_rfl) (by kernel_rfl) (by kernel_rfl) (by kernel_rfl) (StepsIf.yield (by kernel_rfl) (fun w' hS => by have c10 := hS.1.2.1.cell 10; simp only [List.getElem?_toArray, List.getElem?_cons_zero, List.getElem?_cons_succ] at c10; clear hS; go_simp)) (StepsIf.yield (by kernel_rfl) (fun w' hS => by have c10 := hS.1.2.1.cell 10; simp only [List.getElem?_toArray, List.getElem?_cons_zero, List.getElem?_cons_succ] at c10; clear hS; go_simp)) ?_
  intro a' ha'
  simp only [Act.put, List.setIfInBounds_toArray, List.set_cons_zero, List.set_cons_succ] at ha'
  subst ha'
  refine AnyL.store (m := 6) (d := none) (v := undef) rfl rfl (by kernel_rfl) (by kernel_rfl) (by kernel_rfl) (fun w' hS K Q hK => by exact wp_store_row 37 _ _ rfl w.heap.size rfl rfl (run_storeAt_row _ w.heap.size 37 37 woZ (woI k p e t n m) hS.1.1 infoWo rfl (wo_one _ _ _ _ _ _)) (hK _ (SN5.store hS _))) ?_
  intro a' ha'
  simp only [Act.put] at ha'
  subst ha'
  refine AnyL.after (m := 6) (i := 7) (d := some 5) (v := .int .i64 er) rfl rfl (by kernel_rfl) (by kernel_rfl) (by kernel_rfl) (by kernel_rfl) (StepsIf.yield (by kernel_rfl) (fun w' hS => by clear hS; go_simp)) ?_
  intro a' ha'
  simp only [Act.put, List.setIfInBounds_toArray, List.set_cons_zero, List.set_cons_succ] at ha'
  subst ha'
  refine AnyL.after (m := 6) (i := 8) (d := some 6) (v := .int .i64 pl) rfl rfl (by kernel_rfl) (by kernel_rfl) (by kernel_rfl) (by kernel_rfl) (StepsIf.yield (by kernel_rfl) (fun w' hS => by clear hS; go_simp)) ?_
  intro a' ha'
  simp only [Act.put, List.setIfInBounds_toArray, List.set_cons_zero, List.set_cons_succ] at ha'
  subst ha'
  refine AnyL.done (by kernel_rfl) (by kernel_rfl) (fun w' hS => ?_) _
  have hR := hS.1.1
  have hB := hS.2
  clear hS
  go_wp2_with fail
  exact bodyPost_ret (v := .tuple #[.agg (woI k p e t n m), .int .i64 er, .int .i64 pl]) (results_cell2 Tryz.results34 _ _ w.heap.size 37 (woI k p e t n m) (0, 0) _ rfl hR Tryz.underlying37 rfl infoWo) rfl ⟨rfl, hB⟩

/-! ### Text -/
theorem cnt_el (g : Nat → Bool) : ∀ k, cnt g k = (el g k).length
  | 0 => rfl
  | k + 1 => by
    have h : el g (k + 1) = el g k ++ (if g k then [k] else []) := by
      unfold el
      rw [List.range_succ, List.filter_append]
      congr 1
      cases hg : g k <;> simp [hg]
    rw [cnt, cnt_el g k, h, List.length_append]
    cases g k <;> rfl
theorem any_len (t : BitVec 256) : t = ~~~0 ↔ (el t.getLsbD 256).length = 256 := by
  constructor
  · rintro rfl
    decide +kernel
  · intro h
    have hf : ∀ x ∈ List.range 256, t.getLsbD x = true := by
      have e : (el t.getLsbD 256).length = (List.range 256).length := by rw [h, List.length_range]
      unfold el at e
      exact List.length_filter_eq_length_iff.1 e
    apply BitVec.eq_of_getLsbD_eq
    intro i hi
    rw [hf i (List.mem_range.2 hi)]
    symm
    rw [BitVec.getLsbD_not]
    simp [hi]
theorem next_el (t : BitVec 256) (b : Nat) (l : List Nat) (h : el t.getLsbD 256 = b :: l) : nextOf t.getLsbD 0 = b := by
  have hf : (List.range 256).find? (fun j => decide (0 ≤ j) && t.getLsbD j) = some b := by
    have e : (fun j => decide (0 ≤ j) && t.getLsbD j) = t.getLsbD := by funext j; simp
    rw [e]
    have := List.head?_filter (p := t.getLsbD) (l := List.range 256)
    rw [← this]
    unfold el at h
    rw [h]; rfl
  unfold nextOf
  rw [hf]
theorem textW_cases (t : BitVec 256) : (t = ~~~0 ∧ textW t = [46]) ∨ (t ≠ ~~~0 ∧ cnt t.getLsbD 256 = 1 ∧ ∃ b : Nat, b < 256 ∧ nextOf t.getLsbD 0 = b ∧ textW t = textB b) ∨ (t ≠ ~~~0 ∧ cnt t.getLsbD 256 ≠ 1 ∧ textW t = textT t) := by
  have h1 := any_len t
  have h2 := cnt_el t.getLsbD 256
  have h3 := next_el t
  have h4 : ∀ b l, el t.getLsbD 256 = b :: l → b < 256 := fun b l h => by
    have : b ∈ el t.getLsbD 256 := by rw [h]; exact List.mem_cons_self ..
    unfold el at this
    simp at this
    exact this.1
  unfold textW
  by_cases hA : (el t.getLsbD 256).length = 256
  · exact .inl ⟨h1.2 hA, by rw [if_pos hA]⟩
  by_cases hO : (el t.getLsbD 256).length = 1
  · obtain ⟨b, hb⟩ := List.length_eq_one_iff.1 hO
    refine .inr (.inl ⟨fun h => hA (h1.1 h), by rw [h2, hO], b, h4 b [] hb, h3 b [] hb, ?_⟩)
    rw [if_neg hA, if_neg (by omega), hb]
    rfl
  · exact .inr (.inr ⟨fun h => hA (h1.1 h), by rw [h2]; exact hO, by rw [if_neg hA, if_pos hO]⟩)
end Go.Proofs.YthodphgbdmnpoaaGreatDoor

/- The developers' reading: next. Stage 7. -/
namespace Go.Proofs.YthodphgbdmnpoaaGreatDoor
open Go.RowKit BS

@[reducible] def set9 (W : World) (B : Nat) (b0 b1 b2 b3 b4 b5 b6 b7 b8 : Value) : World :=
  ((((((((W.setCell ⟨B, 0, none⟩ b0).setCell ⟨B, 1, none⟩ b1).setCell ⟨B, 2, none⟩ b2).setCell ⟨B, 3, none⟩ b3).setCell ⟨B, 4, none⟩ b4).setCell ⟨B, 5, none⟩ b5).setCell ⟨B, 6, none⟩ b6).setCell ⟨B, 7, none⟩ b7).setCell ⟨B, 8, none⟩ b8
theorem Blk.set9 {W : World} {B : Nat} {a0 a1 a2 a3 a4 a5 a6 a7 a8 : Value} {T : TypeId} (h : Blk W B #[a0, a1, a2, a3, a4, a5, a6, a7, a8] T) (b0 b1 b2 b3 b4 b5 b6 b7 b8 : Value) : Blk (_root_.Go.Proofs.YthodphgbdmnpoaaGreatDoor.set9 W B b0 b1 b2 b3 b4 b5 b6 b7 b8) B #[b0, b1, b2, b3, b4, b5, b6, b7, b8] T := by
  have := ((((((((h.set 0 b0).set 1 b1).set 2 b2).set 3 b3).set 4 b4).set 5 b5).set 6 b6).set 7 b7).set 8 b8
  simpa using this
theorem RdV.other {base R : Nat} {s : ByteArray} {a : Nat} {x : PS} {vN vL : Value} {w0 w : World} (h : RdV base R s a x vN vL w0 w) {g : Nat} (hg : base ≤ g) (hR : R ≠ g) (hN : vN.ownBlock ≠ some g) (hL : vL.ownBlock ≠ some g) (i : Nat) (v : Value) : RdV base R s a x vN vL w0 (w.setCell ⟨g, i, none⟩ v) :=
  ⟨h.blk.other hR _ _, owns_keep h.nodes fun _ hk => Below.heap_setCell _ _ _ _ (fun e => hN (by rw [hk, e])), owns_keep h.levels fun _ hk => Below.heap_setCell _ _ _ _ (fun e => hL (by rw [hk, e])), h.nR, h.lR, h.nl, h.bR, below_set h.bel hg _ _⟩
theorem RdV.other9 {base R : Nat} {s : ByteArray} {a : Nat} {x : PS} {vN vL : Value} {w0 w : World} (h : RdV base R s a x vN vL w0 w) {g : Nat} (hg : base ≤ g) (hR : R ≠ g) (hN : vN.ownBlock ≠ some g) (hL : vL.ownBlock ≠ some g) (b0 b1 b2 b3 b4 b5 b6 b7 b8 : Value) : RdV base R s a x vN vL w0 (set9 w g b0 b1 b2 b3 b4 b5 b6 b7 b8) :=
  (((((((((h.other hg hR hN hL _ _).other hg hR hN hL _ _).other hg hR hN hL _ _).other hg hR hN hL _ _).other hg hR hN hL _ _).other hg hR hN hL _ _).other hg hR hN hL _ _).other hg hR hN hL _ _).other hg hR hN hL _ _)
theorem Blk.other9 {W : World} {B g : Nat} {vs : Array Value} {T : TypeId} (h : Blk W B vs T) (hne : B ≠ g) (b0 b1 b2 b3 b4 b5 b6 b7 b8 : Value) : Blk (_root_.Go.Proofs.YthodphgbdmnpoaaGreatDoor.set9 W g b0 b1 b2 b3 b4 b5 b6 b7 b8) B vs T :=
  ((((((((h.other hne _ _).other hne _ _).other hne _ _).other hne _ _).other hne _ _).other hne _ _).other hne _ _).other hne _ _).other hne _ _
theorem row_kept (W : World) (B : Nat) (cs : Array Value) (k : Nat) (h : k ≠ B) : (W.setRow B cs).heap[k]? = W.heap[k]? := by
  show (W.heap.modify B _)[k]? = _
  rw [Array.getElem?_modify, if_neg (Ne.symm h)]
theorem RdV.rowOther {base R : Nat} {s : ByteArray} {a : Nat} {x : PS} {vN vL : Value} {w0 w : World} (h : RdV base R s a x vN vL w0 w) {g : Nat} (hg : base ≤ g) (hR : R ≠ g) (hN : vN.ownBlock ≠ some g) (hL : vL.ownBlock ≠ some g) (cs : Array Value) : RdV base R s a x vN vL w0 (w.setRow g cs) :=
  ⟨(row_kept w g cs R hR).trans h.blk, owns_keep h.nodes fun _ hk => row_kept _ _ _ _ (fun e => hN (by rw [hk, e])), owns_keep h.levels fun _ hk => row_kept _ _ _ _ (fun e => hL (by rw [hk, e])), h.nR, h.lR, h.nl, h.bR, below_row h.bel hg _⟩
set_option maxRecDepth 100000 in
set_option maxHeartbeats 8000000 in
theorem pnext_calls {base R : Nat} {s : ByteArray} (hs : s.size ≤ 1000000) {a : Nat} {x : PS} {vN vL : Value} {w0 : World} (k p e' : Nat) (t : BitVec 256) (n : Nat) (m : Int) (er pl : Nat) (hX : nextN s a = (⟨k, p, e', t, n, m⟩, er, pl)) (w : World) (h : RdV base R s a x vN vL w0 w) :
    Calls Tryz.prog 18 #[.pointer (some ⟨R, 0, none⟩)] w fun e w' => e = .returned (.tuple #[.agg (woI k p e' t n m), .int .i64 er, .int .i64 pl]) ∧
      RdV base R s (if er = 0 then e' else a) x vN vL w0 w' := by
  have hn := next5_dev s hs a
  rw [hX] at hn
  have HN : Hid (∀ w, Calls Tryz.prog 34 #[.string s, .int .i64 a] w fun en w' => en = .returned (.tuple #[.agg (woI k p e' t n m), .int .i64 er, .int .i64 pl]) ∧ Below w.heap.size w w') := Lib.hid hn
  clear hn hX
  have hB := Blk.new w woZ 37
  have hr := h.alloc (.cells woZ 37)
  have hRB : R < w.heap.size := h.blk.lt
  have hN0 : vN.ownBlock ≠ some w.heap.size := fun e => by have := owns_lt h.nodes e; omega
  have hL0 : vL.ownBlock ≠ some w.heap.size := fun e => by have := owns_lt h.levels e; omega
  have hb0 := h.size
  clear h
  go_enter Tryz.func18, Tryz.ntmps18
  go_upto_region 1 with fail
  have e0 : w.alloc (.cells #[.int .i64 0, .int .i64 0, .int .i64 0, .int .u64 0, .int .u64 0, .int .u64 0, .int .u64 0, .int .i64 0, .int .i64 0] 37) = w.alloc (.cells woZ 37) := rfl
  try rw [e0]
  clear e0
  generalize w.alloc (.cells woZ 37) = w1 at *
  generalize w.heap.size = B0 at *
  have cR0 := hr.c.1
  have cR1 := hr.c.2.1
  have HR := Lib.hid hr
  have HB := Lib.hid hB
  have n0 := World.new_ne w1 ⟨R, 0, none⟩ cR0
  have n1 := World.new_ne w1 ⟨R, 1, none⟩ cR1
  have hlt := hr.blk.lt
  have hN1 : vN.ownBlock ≠ some w1.heap.size := fun e => by have := owns_lt hr.nodes e; omega
  have hL1 : vL.ownBlock ≠ some w1.heap.size := fun e => by have := owns_lt hr.levels e; omega
  have hB1 := hB.lt
  have hbs := hr.size
  clear hr hB
  go_cut [5, 6, 7] from 8 to 20 (fun v5 v6 v7 wx => ∃ g : Nat, v5 = .pointer (some ⟨g, 0, none⟩) ∧ v6 = .int .i64 er ∧ v7 = .int .i64 pl ∧ RdV base R s a x vN vL w0 wx ∧ Blk wx B0 woZ 37 ∧ Blk wx g (woI k p e' t n m) 37 ∧ B0 ≠ g ∧ R ≠ g ∧ base ≤ g)
  case first =>
    go_region_held3 (fun w' => w'.cell? ⟨R, 0, none⟩ = some (.string s) ∧ w'.cell? ⟨R, 1, none⟩ = some (.int .i64 a))
      (first
        | go_keep
        | exact ⟨k0, k1⟩
        | exact ⟨((hb.alloc hb.size _).cell (p := ⟨R, 0, none⟩) hlt).trans cR0, ((hb.alloc hb.size _).cell (p := ⟨R, 1, none⟩) hlt).trans cR1⟩
        | (go_split_ands; refine ⟨by go_keep, by go_keep⟩))
      ((go_at_call 34; refine (HN.out _).mono ?_; rintro en w3 ⟨rfl, hb⟩
        have k0 : w3.cell? ⟨R, 0, none⟩ = some (.string s) := by first | exact (hb.cell (p := ⟨R, 0, none⟩) hlt).trans cR0 | exact (hb.cell (p := ⟨R, 0, none⟩) (by simp; omega)).trans (by go_keep)
        have k1 : w3.cell? ⟨R, 1, none⟩ = some (.int .i64 a) := by first | exact (hb.cell (p := ⟨R, 1, none⟩) hlt).trans cR1 | exact (hb.cell (p := ⟨R, 1, none⟩) (by simp; omega)).trans (by go_keep)
        try (have hg := (Blk.new w1 woZ 37).drew.below hb (by simp)
             have z0 := hg.cell 0; have z1 := hg.cell 1; have z2 := hg.cell 2; have z3 := hg.cell 3; have z4 := hg.cell 4; have z5 := hg.cell 5; have z6 := hg.cell 6; have z7 := hg.cell 7; have z8 := hg.cell 8
             simp only [List.getElem?_toArray, List.getElem?_cons_zero, List.getElem?_cons_succ] at z0 z1 z2 z3 z4 z5 z6 z7 z8
             have y0 := hg.frozen 0; have y1 := hg.frozen 1; have y2 := hg.frozen 2; have y3 := hg.frozen 3; have y4 := hg.frozen 4; have y5 := hg.frozen 5; have y6 := hg.frozen 6; have y7 := hg.frozen 7; have y8 := hg.frozen 8
             have HG := Lib.hid hg
             clear hg)))
    · have hsz : w1.heap.size ≤ w3.heap.size := hb.size
      go_wp2_with fail
      go_meet
      exact ⟨w3.heap.size, rfl, rfl, rfl, (HR.out.drew.below hb).alloc _, (HB.out.drew.below hb hB1).alloc _, Blk.new w3 (woI k p e' t n m) _, by omega, by omega, by omega⟩
    · go_wp2_with fail
      go_meet
      have hB2 : B0 < (w1.alloc (.cells woZ 37)).drew.heap.size := by simp; omega
      exact ⟨w1.heap.size, rfl, rfl, rfl, ((HR.out.alloc _).drew.below hb).other9 hbs (by omega) hN1 hL1 _ _ _ _ _ _ _ _ _, (((HB.out.alloc _).drew).below hb hB2).other9 (by omega) _ _ _ _ _ _ _ _ _, Blk.set9 HG.out _ _ _ _ _ _ _ _ _, by omega, by omega, by omega⟩
  case rest =>
  clear HR HB cR0 cR1 n0 n1 hlt hN1 hL1 hB1 hbs
  obtain ⟨g, rfl, rfl, rfl, hr, hB, hG, hBg, hRg, hbg⟩ := hcut
  have g0 := hG.cell 0; have g1 := hG.cell 1; have g2 := hG.cell 2; have g3 := hG.cell 3; have g4 := hG.cell 4; have g5 := hG.cell 5; have g6 := hG.cell 6; have g7 := hG.cell 7; have g8 := hG.cell 8
  simp only [List.getElem?_toArray, List.getElem?_cons_zero, List.getElem?_cons_succ] at g0 g1 g2 g3 g4 g5 g6 g7 g8
  by_cases he : er = 0
  · subst he
    have cR1 := hr.c.2.1
    have fR1 := hr.blk.frozen 1
    have HR := Lib.hid (hr.setAt e')
    have HB2 := Lib.hid (hB.other (show B0 ≠ R by omega) 1 (.int .i64 e'))
    have q0 : R ≠ g := hRg
    clear hr hB hG
    go_wp2_with ((with_reducible refine wpList_store_st (o := ⟨none, .store 37 _ _, _, _, _, _⟩) rfl 37 _ _ rfl B0 rfl rfl (run_storeAt_row _ B0 37 37 woZ (woI k p e' t n m) ?_ ?_ ?_ ?_) ?_); exact HB2.out; exact infoWo; rfl; exact wo_one _ _ _ _ _ _)
    exact bodyPost_ret (v := .tuple #[.agg (woI k p e' t n m), .int .i64 0, .int .i64 pl]) (results_cell2 Tryz.results18 _ _ B0 37 (woI k p e' t n m) (0, 0) _ rfl (Blk.setRow HB2.out) Tryz.underlying37 rfl infoWo) rfl ⟨rfl, HR.out.rowOther hb0 (by omega) hN0 hL0 _⟩
  · have qe : ((er : Int) == 0) = false := by rw [beq_eq_false_iff_ne]; omega
    have HR := Lib.hid hr
    have HB2 := Lib.hid hB
    clear hr hB hG
    go_wp2_with ((with_reducible refine wpList_store_st (o := ⟨none, .store 37 _ _, _, _, _, _⟩) rfl 37 _ _ rfl B0 rfl rfl (run_storeAt_row _ B0 37 37 woZ (woI k p e' t n m) ?_ ?_ ?_ ?_) ?_); exact HB2.out; exact infoWo; rfl; exact wo_one _ _ _ _ _ _)
    exact bodyPost_ret (v := .tuple #[.agg (woI k p e' t n m), .int .i64 er, .int .i64 pl]) (results_cell2 Tryz.results18 _ _ B0 37 (woI k p e' t n m) (0, 0) _ rfl (Blk.setRow HB2.out) Tryz.underlying37 rfl infoWo) rfl ⟨rfl, HR.out.rowOther hb0 (by omega) hN0 hL0 _⟩
end Go.Proofs.YthodphgbdmnpoaaGreatDoor

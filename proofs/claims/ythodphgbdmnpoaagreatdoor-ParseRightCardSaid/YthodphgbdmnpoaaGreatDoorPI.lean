/- Texts put together: Vr Vs Rc Vu Ya. -/
import Derived.Test.YthodphgbdmnpoaaGreatDoorPG
import Derived.Test.YthodphgbdmnpoaaGreatDoorPH
import Derived.Test.YthodphgbdmnpoaaGreatDoorPB
import Derived.Test.YthodphgbdmnpoaaGreatDoorPD
import Derived.BigQuiet
import Derived.Outline
import Derived.Deep.QuietTactic
import Derived.Deep.DeepCutAuto
import Derived.Test.YthodphgbdmnpoaaGreatDoorPF
/- The document's words: fourteen, one, Byte, Next. -/
namespace Go.Proofs.YthodphgbdmnpoaaGreatDoor
open Go.RowKit BS

@[reducible] def woI (k a e : Int) (t : BitVec 256) (n m : Int) : Array Value := #[.int .i64 k, .int .i64 a, .int .i64 e, .int .u64 (wd t 0), .int .u64 (wd t 1), .int .u64 (wd t 2), .int .u64 (wd t 3), .int .i64 n, .int .i64 m]
def woA (w : WN) : Array Value := woI w.kind w.pos w.fin w.set w.n w.m
theorem infoWo : (Tryz.prog.info? 37).map (·.size) = some 9 := by kernel_rfl
theorem wo_one (k a e : Int) (t : BitVec 256) (n m : Int) : ((woI k a e t n m).all fun x => x.oneCell') = true := by simp [Value.oneCell']
theorem infoSe : (Tryz.prog.info? 30).map (·.size) = some 4 := by kernel_rfl
theorem se_one (t : BitVec 256) : ((setA t).all fun x => x.oneCell') = true := by simp [setA, Value.oneCell']
theorem results_cell2 {P : Program} {fn : Func} {p a b : Tmp} {ty : TypeId} (h : fn.results = #[.cell p ty, .tmp a, .tmp b]) (tmps : Array Value) (w : World) (g : Nat) (t : TypeId) (cs : Array Value) (fr : Nat × Nat) (d : TypeDesc)
    (hp : tmps.getD p undef = .pointer (some ⟨g, 0, none⟩)) (hg : w.heap[g]? = some (.cells cs t fr))
    (hu : P.underlying ty = some d) (hd : (match d with | .struct _ | .array _ _ => true | _ => false) = true) (hi : (P.info? ty).map (·.size) = some cs.size) :
    (results fn tmps).run P w = .ok (.tuple #[.agg cs, tmps.getD a undef, tmps.getD b undef]) w := by
  have hp' : tmps[p]?.getD undef = .pointer (some ⟨g, 0, none⟩) := by simpa using hp
  simp [results, h, hp', asAddr, run_loadVar_row w g t ty cs fr d hg hu hd hi]

theorem four14_no (b k : Nat) (hk : 14 ≤ k) (h : ∀ j, j < k → bt (ofT l14) j ≠ b) : four14 b = false := by
  unfold four14
  rw [Bool.eq_false_iff]
  intro hc
  have hm := List.contains_iff_mem.1 hc
  obtain ⟨j, hj, e⟩ := List.getElem_of_mem hm
  have hj' : j < 14 := hj
  exact h j (by omega) (by rw [bt_ofT l14 (by decide) j hj, e])
theorem four14_yes (b k : Nat) (hk : k < 14) (h : bt (ofT l14) k = b) : four14 b = true := by
  unfold four14
  rw [bt_ofT l14 (by decide) k hk] at h
  exact List.contains_iff_mem.2 (h ▸ List.getElem_mem hk)
set_option maxRecDepth 100000 in
set_option maxHeartbeats 2000000 in
theorem fourteen_calls (b : Nat) (w : World) : Calls Tryz.prog 26 #[.int .u8 b] w fun en w' => en = .returned (.bool (four14 b)) ∧ w = w' := by
  have hz : (ofT l14).size = 14 := rfl
  have HN := Lib.hid (four14_no b)
  have HY := Lib.hid (four14_yes b)
  go_enter Tryz.func26, Tryz.ntmps26
  go_wp2_with fail
  have e0 : (⟨#[46, 91, 93, 92, 40, 41, 42, 43, 63, 123, 125, 124, 94, 36]⟩ : ByteArray) = ofT l14 := rfl
  rw [e0]
  clear e0
  generalize ofT l14 = L at *
  go_loop [4] (fun x => ∃ k : Nat, k ≤ 14 ∧ x = .int .i64 k ∧ ∀ j, j < k → bt L j ≠ b) (fun x => 14 - (intOf x).toNat)
  case atStart => exact ⟨0, by omega, rfl, fun j hj => by omega⟩
  case round =>
    obtain ⟨k, hk, rfl, hno⟩ := hrel
    have HO := Lib.hid hno
    clear hno
    by_cases hlt : k < 14
    · have hd : decide (k < 14) = true := by simpa using hlt
      have hb : L[k].toNat = bt L k := (bt_eq L k (by omega)).symm
      by_cases he : bt L k = b
      · have HR := Lib.hid (HY.out k hlt he)
        have q : ((bt L k : Int) == (b : Int)) = true := by rw [beq_iff_eq]; omega
        clear HN HY he
        go_wp2_with fail
        go_ret
        exact ⟨by rw [HR.out] <;> rfl, rfl⟩
      · have q : ((bt L k : Int) == (b : Int)) = false := by rw [beq_eq_false_iff_ne]; omega
        have HE := Lib.hid he
        clear he
        go_wp2_with fail
        go_round
        case rel =>
          refine ⟨k + 1, by omega, by simp, fun j hj => ?_⟩
          by_cases hjk : j = k
          · subst hjk; exact HE.out
          · exact HO.out j (by omega)
        case measure => simp [intOf]; omega
    · have HR := Lib.hid (HN.out k (by omega) HO.out)
      have hd : decide (k < 14) = false := by simpa using hlt
      clear HN HY
      go_wp2_with fail
      go_ret
      exact ⟨by rw [HR.out] <;> rfl, rfl⟩

set_option maxRecDepth 100000 in
set_option maxHeartbeats 1000000 in
theorem oneW_calls (t : BitVec 256) (a e : Int) (w : World) : Calls Tryz.prog 24 #[setV t, .int .i64 a, .int .i64 e] w fun en w' => en = .returned (.agg (woI 1 a e t 0 0)) ∧ Below w.heap.size w w' := by
  have HC := Blk.new w (setA t) 30
  have HR := Blk.new (w.alloc (.cells (setA t) 30)) (woI 0 0 0 0 0 0) 37
  rw [World.size_alloc] at HR
  have HC2 := HC.alloc (.cells (woI 0 0 0 0 0 0) 37)
  have HB : Below w.heap.size w ((w.alloc (.cells (setA t) 30)).alloc (.cells (woI 0 0 0 0 0 0) 37)) := by go_grown
  go_enter Tryz.func24, Tryz.ntmps24
  go_upto_region 1 with fail
  have e0 : (w.alloc (.cells #[.int .u64 (wd t 0), .int .u64 (wd t 1), .int .u64 (wd t 2), .int .u64 (wd t 3)] 30)).alloc (.cells #[.int .i64 0, .int .i64 0, .int .i64 0, .int .u64 0, .int .u64 0, .int .u64 0, .int .u64 0, .int .i64 0, .int .i64 0] 37) = (w.alloc (.cells (setA t) 30)).alloc (.cells (woI 0 0 0 0 0 0) 37) := rfl
  rw [e0]
  clear e0 HC
  generalize (w.alloc (.cells (setA t) 30)).alloc (.cells (woI 0 0 0 0 0 0) 37) = w1 at *
  obtain ⟨⟨c0, c1, c2, c3⟩, _⟩ := HC2.cells4
  go_wp2_with ((with_reducible refine wpList_store_st (o := ⟨none, .store 37 _ _, _, _, _, _⟩) rfl 37 _ _ rfl (w.heap.size + 1) rfl rfl (run_storeAt_row _ (w.heap.size + 1) 37 37 (woI 0 0 0 0 0 0) (woI 1 a e t 0 0) ?_ ?_ ?_ ?_) ?_); exact HR; exact infoWo; rfl; exact wo_one _ _ _ _ _ _)
  exact bodyPost_ret (v := .agg (woI 1 a e t 0 0)) (results_cell_row rfl _ _ (w.heap.size + 1) 37 (woI 1 a e t 0 0) (0, 0) _ rfl (Blk.setRow HR) Tryz.underlying37 rfl infoWo) rfl ⟨rfl, below_row HB (by omega) _⟩
set_option maxRecDepth 100000 in
set_option maxHeartbeats 1000000 in
theorem byteW_calls (b : Nat) (hb : b < 256) (w : World) : Calls Tryz.prog 27 #[.int .u8 b] w fun en w' => en = .returned (setV (range b b)) ∧ Below w.heap.size w w' := by
  have HR := Lib.hid (fun w => rrange_calls b b w hb hb)
  generalize range b b = t at *
  have x : IntKind.i64.wrap (b : Int) = b := IntWalk.i64_in _ (by omega)
  go_enter Tryz.func27, Tryz.ntmps27
  go_upto_region 1 with fail
  have e0 : w.alloc (.cells #[.int .u64 0, .int .u64 0, .int .u64 0, .int .u64 0] 30) = w.alloc (.cells (setA 0) 30) := rfl
  rw [e0]
  clear e0
  have HC := Blk.new w (setA 0) 30
  have HB : Below w.heap.size w (w.alloc (.cells (setA 0) 30)) := by go_grown
  have hz : w.heap.size + 1 ≤ (w.alloc (.cells (setA 0) 30)).heap.size := by simp
  generalize w.alloc (.cells (setA 0) 30) = w1 at *
  go_wp2_with fail
  refine (HR.out _).mono ?_
  rintro en w2 ⟨rfl, hb2⟩
  have HC2 := HC.below hb2 HC.lt
  have HB2 := HB.trans (hb2.mono (by omega))
  clear HC HB hz HR
  go_wp2_with ((with_reducible refine wpList_store_st (o := ⟨none, .store 30 _ _, _, _, _, _⟩) rfl 30 _ _ rfl w.heap.size rfl rfl (run_storeAt_row _ w.heap.size 30 30 (setA 0) (setA t) ?_ ?_ ?_ ?_) ?_); exact HC2; exact infoSe; rfl; exact se_one _)
  exact bodyPost_ret (v := .agg (setA t)) (results_cell_row rfl _ _ w.heap.size 30 (setA t) (0, 0) _ rfl (Blk.setRow HC2) Tryz.underlying30 rfl infoSe) rfl ⟨rfl, below_row HB2 (Nat.le_refl _) _⟩

set_option maxRecDepth 100000 in
set_option maxHeartbeats 16000000 in
theorem rNext_calls (s : ByteArray) (hs : s.size ≤ 1000000) (at' : Int) (w : World) :
    Calls Tryz.prog 12 #[.string s, .int .i64 at'] w fun en w' => en = .returned (.tuple #[.agg (woA (nextN s at').1), .int .i64 (nextN s at').2.1, .int .i64 (nextN s at').2.2]) ∧ Below w.heap.size w w' := by
  have HR := Lib.hid (Blk.new w (woI 0 0 0 0 0 0) 37)
  have HB : Hid (Below w.heap.size w (w.alloc (.cells (woI 0 0 0 0 0 0) 37))) := Lib.hid (by go_grown)
  have hz : w.heap.size + 1 ≤ (w.alloc (.cells (woI 0 0 0 0 0 0) 37)).heap.size := by simp
  have hg : nextN s at' = nextN s at' := rfl
  conv at hg => rhs; unfold nextN
  by_cases hat : at' < 0 ∨ (s.size : Int) ≤ at'
  · rw [if_pos hat] at hg
    rw [hg]
    clear hg
    by_cases h0 : at' < 0
    · have q0 : decide (at' < 0) = true := by simpa using h0
      clear hat h0
      go_enter Tryz.func12, Tryz.ntmps12
      go_upto_region 1 with fail
      have e0 : w.alloc (.cells #[.int .i64 0, .int .i64 0, .int .i64 0, .int .u64 0, .int .u64 0, .int .u64 0, .int .u64 0, .int .i64 0, .int .i64 0] 37) = w.alloc (.cells (woI 0 0 0 0 0 0) 37) := rfl
      rw [e0]
      clear e0
      generalize w.alloc (.cells (woI 0 0 0 0 0 0) 37) = w1 at *
      go_wp2_with ((with_reducible refine wpList_store_st (o := ⟨none, .store 37 _ _, _, _, _, _⟩) rfl 37 _ _ rfl w.heap.size rfl rfl (run_storeAt_row _ w.heap.size 37 37 (woI 0 0 0 0 0 0) (woI 0 0 0 0 0 0) ?_ ?_ ?_ ?_) ?_); exact HR.out; exact infoWo; rfl; exact wo_one _ _ _ _ _ _)
      exact bodyPost_ret (v := .tuple #[.agg (woI 0 0 0 0 0 0), .int .i64 1, .int .i64 0]) (results_cell2 Tryz.results12 _ _ w.heap.size 37 (woI 0 0 0 0 0 0) (0, 0) _ rfl (Blk.setRow HR.out) Tryz.underlying37 rfl infoWo) rfl ⟨rfl, below_row HB.out (Nat.le_refl _) _⟩
    · have q0 : decide (at' < 0) = false := by simpa using h0
      have q1 : decide ((s.size : Int) ≤ at') = true := by rw [decide_eq_true_iff]; omega
      clear hat
      go_enter Tryz.func12, Tryz.ntmps12
      go_upto_region 1 with fail
      have e0 : w.alloc (.cells #[.int .i64 0, .int .i64 0, .int .i64 0, .int .u64 0, .int .u64 0, .int .u64 0, .int .u64 0, .int .i64 0, .int .i64 0] 37) = w.alloc (.cells (woI 0 0 0 0 0 0) 37) := rfl
      rw [e0]
      clear e0
      generalize w.alloc (.cells (woI 0 0 0 0 0 0) 37) = w1 at *
      go_wp2_with ((with_reducible refine wpList_store_st (o := ⟨none, .store 37 _ _, _, _, _, _⟩) rfl 37 _ _ rfl w.heap.size rfl rfl (run_storeAt_row _ w.heap.size 37 37 (woI 0 0 0 0 0 0) (woI 0 0 0 0 0 0) ?_ ?_ ?_ ?_) ?_); exact HR.out; exact infoWo; rfl; exact wo_one _ _ _ _ _ _)
      exact bodyPost_ret (v := .tuple #[.agg (woI 0 0 0 0 0 0), .int .i64 1, .int .i64 0]) (results_cell2 Tryz.results12 _ _ w.heap.size 37 (woI 0 0 0 0 0 0) (0, 0) _ rfl (Blk.setRow HR.out) Tryz.underlying37 rfl infoWo) rfl ⟨rfl, below_row HB.out (Nat.le_refl _) _⟩
  rw [if_neg hat] at hg
  obtain ⟨a, rfl⟩ : ∃ a : Nat, at' = a := ⟨at'.toNat, by omega⟩
  rw [show (a : Int).toNat = a from rfl] at hg
  rw [hg]
  have hlt : a < s.size := by omega
  clear hat hg
  have b0 : s[a].toNat = bt s a := (bt_eq s a hlt).symm
  have hb256 := bt_lt s a
  have hg : nextA s a = nextA s a := rfl
  conv at hg => rhs; unfold nextA
  generalize hB : bt s a = b at *
  generalize nextA s a = Y at *
  by_cases h40 : b = 40
  · subst h40
    obtain rfl : Y = (⟨2, a, a + 1, 0, 0, 0⟩, 0, 0) := hg.trans (if_pos rfl)
    clear hg
    go_enter Tryz.func12, Tryz.ntmps12
    go_upto_region 1 with fail
    have e0 : w.alloc (.cells #[.int .i64 0, .int .i64 0, .int .i64 0, .int .u64 0, .int .u64 0, .int .u64 0, .int .u64 0, .int .i64 0, .int .i64 0] 37) = w.alloc (.cells (woI 0 0 0 0 0 0) 37) := rfl
    rw [e0]
    clear e0
    generalize w.alloc (.cells (woI 0 0 0 0 0 0) 37) = w1 at *
    go_wp2_with ((with_reducible refine wpList_store_st (o := ⟨none, .store 37 _ _, _, _, _, _⟩) rfl 37 _ _ rfl w.heap.size rfl rfl (run_storeAt_row _ w.heap.size 37 37 (woI 0 0 0 0 0 0) (woI 2 a ((a : Int) + 1) 0 0 0) ?_ ?_ ?_ ?_) ?_); exact HR.out; exact infoWo; rfl; exact wo_one _ _ _ _ _ _)
    exact bodyPost_ret (v := .tuple #[.agg (woI 2 a ((a : Int) + 1) 0 0 0), .int .i64 0, .int .i64 0]) (results_cell2 Tryz.results12 _ _ w.heap.size 37 (woI 2 a ((a : Int) + 1) 0 0 0) (0, 0) _ rfl (Blk.setRow HR.out) Tryz.underlying37 rfl infoWo) rfl ⟨rfl, below_row HB.out (Nat.le_refl _) _⟩
  rw [if_neg h40] at hg
  have q40 : ((b : Int) == 40) = false := by rw [beq_eq_false_iff_ne]; omega
  by_cases h41 : b = 41
  · subst h41
    obtain rfl : Y = (⟨3, a, a + 1, 0, 0, 0⟩, 0, 0) := hg.trans (if_pos rfl)
    clear hg
    go_enter Tryz.func12, Tryz.ntmps12
    go_upto_region 1 with fail
    have e0 : w.alloc (.cells #[.int .i64 0, .int .i64 0, .int .i64 0, .int .u64 0, .int .u64 0, .int .u64 0, .int .u64 0, .int .i64 0, .int .i64 0] 37) = w.alloc (.cells (woI 0 0 0 0 0 0) 37) := rfl
    rw [e0]
    clear e0
    generalize w.alloc (.cells (woI 0 0 0 0 0 0) 37) = w1 at *
    go_wp2_with ((with_reducible refine wpList_store_st (o := ⟨none, .store 37 _ _, _, _, _, _⟩) rfl 37 _ _ rfl w.heap.size rfl rfl (run_storeAt_row _ w.heap.size 37 37 (woI 0 0 0 0 0 0) (woI 3 a ((a : Int) + 1) 0 0 0) ?_ ?_ ?_ ?_) ?_); exact HR.out; exact infoWo; rfl; exact wo_one _ _ _ _ _ _)
    exact bodyPost_ret (v := .tuple #[.agg (woI 3 a ((a : Int) + 1) 0 0 0), .int .i64 0, .int .i64 0]) (results_cell2 Tryz.results12 _ _ w.heap.size 37 (woI 3 a ((a : Int) + 1) 0 0 0) (0, 0) _ rfl (Blk.setRow HR.out) Tryz.underlying37 rfl infoWo) rfl ⟨rfl, below_row HB.out (Nat.le_refl _) _⟩
  rw [if_neg h41] at hg
  have q41 : ((b : Int) == 41) = false := by rw [beq_eq_false_iff_ne]; omega
  by_cases h124 : b = 124
  · subst h124
    obtain rfl : Y = (⟨4, a, a + 1, 0, 0, 0⟩, 0, 0) := hg.trans (if_pos rfl)
    clear hg
    go_enter Tryz.func12, Tryz.ntmps12
    go_upto_region 1 with fail
    have e0 : w.alloc (.cells #[.int .i64 0, .int .i64 0, .int .i64 0, .int .u64 0, .int .u64 0, .int .u64 0, .int .u64 0, .int .i64 0, .int .i64 0] 37) = w.alloc (.cells (woI 0 0 0 0 0 0) 37) := rfl
    rw [e0]
    clear e0
    generalize w.alloc (.cells (woI 0 0 0 0 0 0) 37) = w1 at *
    go_wp2_with ((with_reducible refine wpList_store_st (o := ⟨none, .store 37 _ _, _, _, _, _⟩) rfl 37 _ _ rfl w.heap.size rfl rfl (run_storeAt_row _ w.heap.size 37 37 (woI 0 0 0 0 0 0) (woI 4 a ((a : Int) + 1) 0 0 0) ?_ ?_ ?_ ?_) ?_); exact HR.out; exact infoWo; rfl; exact wo_one _ _ _ _ _ _)
    exact bodyPost_ret (v := .tuple #[.agg (woI 4 a ((a : Int) + 1) 0 0 0), .int .i64 0, .int .i64 0]) (results_cell2 Tryz.results12 _ _ w.heap.size 37 (woI 4 a ((a : Int) + 1) 0 0 0) (0, 0) _ rfl (Blk.setRow HR.out) Tryz.underlying37 rfl infoWo) rfl ⟨rfl, below_row HB.out (Nat.le_refl _) _⟩
  rw [if_neg h124] at hg
  have q124 : ((b : Int) == 124) = false := by rw [beq_eq_false_iff_ne]; omega
  by_cases h4 : b = 42 ∨ b = 43 ∨ b = 63 ∨ b = 123
  · rw [if_pos h4] at hg
    have hC := readN_calls s hs a
    unfold cntW at hg
    generalize readN s a = Z at *
    obtain ⟨n, m, p, e, k⟩ := Z
    simp only at hg
    have HC : Hid (∀ w, Calls Tryz.prog 22 #[.string s, .int .i64 a] w fun e' w' => e' = .returned (.tuple #[.int .i64 n, .int .i64 m, .int .i64 p, .int .i64 e, .int .i64 k]) ∧ w = w') := Lib.hid hC
    clear hC hB
    rcases (by omega : b = 42 ∨ b = 43 ∨ b = 63 ∨ b = 123) with rfl | rfl | rfl | rfl
    · by_cases he : e = 0
      · subst he
        obtain rfl : Y = (⟨5, a, p, 0, n, m⟩, 0, 0) := hg.trans (if_neg (by decide))
        clear hg
        go_enter Tryz.func12, Tryz.ntmps12
        go_upto_region 1 with fail
        have e0 : w.alloc (.cells #[.int .i64 0, .int .i64 0, .int .i64 0, .int .u64 0, .int .u64 0, .int .u64 0, .int .u64 0, .int .i64 0, .int .i64 0] 37) = w.alloc (.cells (woI 0 0 0 0 0 0) 37) := rfl
        rw [e0]
        clear e0
        generalize w.alloc (.cells (woI 0 0 0 0 0 0) 37) = w1 at *
        go_wp2_with fail
        refine (HC.out _).mono ?_
        rintro en w2 ⟨rfl, rfl⟩
        clear HC
        go_wp2_with ((with_reducible refine wpList_store_st (o := ⟨none, .store 37 _ _, _, _, _, _⟩) rfl 37 _ _ rfl w.heap.size rfl rfl (run_storeAt_row _ w.heap.size 37 37 (woI 0 0 0 0 0 0) (woI 5 a p 0 n m) ?_ ?_ ?_ ?_) ?_); exact HR.out; exact infoWo; rfl; exact wo_one _ _ _ _ _ _)
        exact bodyPost_ret (v := .tuple #[.agg (woI 5 a p 0 n m), .int .i64 0, .int .i64 0]) (results_cell2 Tryz.results12 _ _ w.heap.size 37 (woI 5 a p 0 n m) (0, 0) _ rfl (Blk.setRow HR.out) Tryz.underlying37 rfl infoWo) rfl ⟨rfl, below_row HB.out (Nat.le_refl _) _⟩
      · have qe : ((e : Int) != 0) = true := by rw [bne_iff_ne]; omega
        obtain rfl : Y = (zWN, e, k) := hg.trans (if_pos he)
        clear hg
        go_enter Tryz.func12, Tryz.ntmps12
        go_upto_region 1 with fail
        have e0 : w.alloc (.cells #[.int .i64 0, .int .i64 0, .int .i64 0, .int .u64 0, .int .u64 0, .int .u64 0, .int .u64 0, .int .i64 0, .int .i64 0] 37) = w.alloc (.cells (woI 0 0 0 0 0 0) 37) := rfl
        rw [e0]
        clear e0
        generalize w.alloc (.cells (woI 0 0 0 0 0 0) 37) = w1 at *
        go_wp2_with fail
        refine (HC.out _).mono ?_
        rintro en w2 ⟨rfl, rfl⟩
        clear HC
        go_wp2_with ((with_reducible refine wpList_store_st (o := ⟨none, .store 37 _ _, _, _, _, _⟩) rfl 37 _ _ rfl w.heap.size rfl rfl (run_storeAt_row _ w.heap.size 37 37 (woI 0 0 0 0 0 0) (woI 0 0 0 0 0 0) ?_ ?_ ?_ ?_) ?_); exact HR.out; exact infoWo; rfl; exact wo_one _ _ _ _ _ _)
        exact bodyPost_ret (v := .tuple #[.agg (woI 0 0 0 0 0 0), .int .i64 e, .int .i64 k]) (results_cell2 Tryz.results12 _ _ w.heap.size 37 (woI 0 0 0 0 0 0) (0, 0) _ rfl (Blk.setRow HR.out) Tryz.underlying37 rfl infoWo) rfl ⟨rfl, below_row HB.out (Nat.le_refl _) _⟩
    · by_cases he : e = 0
      · subst he
        obtain rfl : Y = (⟨5, a, p, 0, n, m⟩, 0, 0) := hg.trans (if_neg (by decide))
        clear hg
        go_enter Tryz.func12, Tryz.ntmps12
        go_upto_region 1 with fail
        have e0 : w.alloc (.cells #[.int .i64 0, .int .i64 0, .int .i64 0, .int .u64 0, .int .u64 0, .int .u64 0, .int .u64 0, .int .i64 0, .int .i64 0] 37) = w.alloc (.cells (woI 0 0 0 0 0 0) 37) := rfl
        rw [e0]
        clear e0
        generalize w.alloc (.cells (woI 0 0 0 0 0 0) 37) = w1 at *
        go_wp2_with fail
        refine (HC.out _).mono ?_
        rintro en w2 ⟨rfl, rfl⟩
        clear HC
        go_wp2_with ((with_reducible refine wpList_store_st (o := ⟨none, .store 37 _ _, _, _, _, _⟩) rfl 37 _ _ rfl w.heap.size rfl rfl (run_storeAt_row _ w.heap.size 37 37 (woI 0 0 0 0 0 0) (woI 5 a p 0 n m) ?_ ?_ ?_ ?_) ?_); exact HR.out; exact infoWo; rfl; exact wo_one _ _ _ _ _ _)
        exact bodyPost_ret (v := .tuple #[.agg (woI 5 a p 0 n m), .int .i64 0, .int .i64 0]) (results_cell2 Tryz.results12 _ _ w.heap.size 37 (woI 5 a p 0 n m) (0, 0) _ rfl (Blk.setRow HR.out) Tryz.underlying37 rfl infoWo) rfl ⟨rfl, below_row HB.out (Nat.le_refl _) _⟩
      · have qe : ((e : Int) != 0) = true := by rw [bne_iff_ne]; omega
        obtain rfl : Y = (zWN, e, k) := hg.trans (if_pos he)
        clear hg
        go_enter Tryz.func12, Tryz.ntmps12
        go_upto_region 1 with fail
        have e0 : w.alloc (.cells #[.int .i64 0, .int .i64 0, .int .i64 0, .int .u64 0, .int .u64 0, .int .u64 0, .int .u64 0, .int .i64 0, .int .i64 0] 37) = w.alloc (.cells (woI 0 0 0 0 0 0) 37) := rfl
        rw [e0]
        clear e0
        generalize w.alloc (.cells (woI 0 0 0 0 0 0) 37) = w1 at *
        go_wp2_with fail
        refine (HC.out _).mono ?_
        rintro en w2 ⟨rfl, rfl⟩
        clear HC
        go_wp2_with ((with_reducible refine wpList_store_st (o := ⟨none, .store 37 _ _, _, _, _, _⟩) rfl 37 _ _ rfl w.heap.size rfl rfl (run_storeAt_row _ w.heap.size 37 37 (woI 0 0 0 0 0 0) (woI 0 0 0 0 0 0) ?_ ?_ ?_ ?_) ?_); exact HR.out; exact infoWo; rfl; exact wo_one _ _ _ _ _ _)
        exact bodyPost_ret (v := .tuple #[.agg (woI 0 0 0 0 0 0), .int .i64 e, .int .i64 k]) (results_cell2 Tryz.results12 _ _ w.heap.size 37 (woI 0 0 0 0 0 0) (0, 0) _ rfl (Blk.setRow HR.out) Tryz.underlying37 rfl infoWo) rfl ⟨rfl, below_row HB.out (Nat.le_refl _) _⟩
    · by_cases he : e = 0
      · subst he
        obtain rfl : Y = (⟨5, a, p, 0, n, m⟩, 0, 0) := hg.trans (if_neg (by decide))
        clear hg
        go_enter Tryz.func12, Tryz.ntmps12
        go_upto_region 1 with fail
        have e0 : w.alloc (.cells #[.int .i64 0, .int .i64 0, .int .i64 0, .int .u64 0, .int .u64 0, .int .u64 0, .int .u64 0, .int .i64 0, .int .i64 0] 37) = w.alloc (.cells (woI 0 0 0 0 0 0) 37) := rfl
        rw [e0]
        clear e0
        generalize w.alloc (.cells (woI 0 0 0 0 0 0) 37) = w1 at *
        go_wp2_with fail
        refine (HC.out _).mono ?_
        rintro en w2 ⟨rfl, rfl⟩
        clear HC
        go_wp2_with ((with_reducible refine wpList_store_st (o := ⟨none, .store 37 _ _, _, _, _, _⟩) rfl 37 _ _ rfl w.heap.size rfl rfl (run_storeAt_row _ w.heap.size 37 37 (woI 0 0 0 0 0 0) (woI 5 a p 0 n m) ?_ ?_ ?_ ?_) ?_); exact HR.out; exact infoWo; rfl; exact wo_one _ _ _ _ _ _)
        exact bodyPost_ret (v := .tuple #[.agg (woI 5 a p 0 n m), .int .i64 0, .int .i64 0]) (results_cell2 Tryz.results12 _ _ w.heap.size 37 (woI 5 a p 0 n m) (0, 0) _ rfl (Blk.setRow HR.out) Tryz.underlying37 rfl infoWo) rfl ⟨rfl, below_row HB.out (Nat.le_refl _) _⟩
      · have qe : ((e : Int) != 0) = true := by rw [bne_iff_ne]; omega
        obtain rfl : Y = (zWN, e, k) := hg.trans (if_pos he)
        clear hg
        go_enter Tryz.func12, Tryz.ntmps12
        go_upto_region 1 with fail
        have e0 : w.alloc (.cells #[.int .i64 0, .int .i64 0, .int .i64 0, .int .u64 0, .int .u64 0, .int .u64 0, .int .u64 0, .int .i64 0, .int .i64 0] 37) = w.alloc (.cells (woI 0 0 0 0 0 0) 37) := rfl
        rw [e0]
        clear e0
        generalize w.alloc (.cells (woI 0 0 0 0 0 0) 37) = w1 at *
        go_wp2_with fail
        refine (HC.out _).mono ?_
        rintro en w2 ⟨rfl, rfl⟩
        clear HC
        go_wp2_with ((with_reducible refine wpList_store_st (o := ⟨none, .store 37 _ _, _, _, _, _⟩) rfl 37 _ _ rfl w.heap.size rfl rfl (run_storeAt_row _ w.heap.size 37 37 (woI 0 0 0 0 0 0) (woI 0 0 0 0 0 0) ?_ ?_ ?_ ?_) ?_); exact HR.out; exact infoWo; rfl; exact wo_one _ _ _ _ _ _)
        exact bodyPost_ret (v := .tuple #[.agg (woI 0 0 0 0 0 0), .int .i64 e, .int .i64 k]) (results_cell2 Tryz.results12 _ _ w.heap.size 37 (woI 0 0 0 0 0 0) (0, 0) _ rfl (Blk.setRow HR.out) Tryz.underlying37 rfl infoWo) rfl ⟨rfl, below_row HB.out (Nat.le_refl _) _⟩
    · by_cases he : e = 0
      · subst he
        obtain rfl : Y = (⟨5, a, p, 0, n, m⟩, 0, 0) := hg.trans (if_neg (by decide))
        clear hg
        go_enter Tryz.func12, Tryz.ntmps12
        go_upto_region 1 with fail
        have e0 : w.alloc (.cells #[.int .i64 0, .int .i64 0, .int .i64 0, .int .u64 0, .int .u64 0, .int .u64 0, .int .u64 0, .int .i64 0, .int .i64 0] 37) = w.alloc (.cells (woI 0 0 0 0 0 0) 37) := rfl
        rw [e0]
        clear e0
        generalize w.alloc (.cells (woI 0 0 0 0 0 0) 37) = w1 at *
        go_wp2_with fail
        refine (HC.out _).mono ?_
        rintro en w2 ⟨rfl, rfl⟩
        clear HC
        go_wp2_with ((with_reducible refine wpList_store_st (o := ⟨none, .store 37 _ _, _, _, _, _⟩) rfl 37 _ _ rfl w.heap.size rfl rfl (run_storeAt_row _ w.heap.size 37 37 (woI 0 0 0 0 0 0) (woI 5 a p 0 n m) ?_ ?_ ?_ ?_) ?_); exact HR.out; exact infoWo; rfl; exact wo_one _ _ _ _ _ _)
        exact bodyPost_ret (v := .tuple #[.agg (woI 5 a p 0 n m), .int .i64 0, .int .i64 0]) (results_cell2 Tryz.results12 _ _ w.heap.size 37 (woI 5 a p 0 n m) (0, 0) _ rfl (Blk.setRow HR.out) Tryz.underlying37 rfl infoWo) rfl ⟨rfl, below_row HB.out (Nat.le_refl _) _⟩
      · have qe : ((e : Int) != 0) = true := by rw [bne_iff_ne]; omega
        obtain rfl : Y = (zWN, e, k) := hg.trans (if_pos he)
        clear hg
        go_enter Tryz.func12, Tryz.ntmps12
        go_upto_region 1 with fail
        have e0 : w.alloc (.cells #[.int .i64 0, .int .i64 0, .int .i64 0, .int .u64 0, .int .u64 0, .int .u64 0, .int .u64 0, .int .i64 0, .int .i64 0] 37) = w.alloc (.cells (woI 0 0 0 0 0 0) 37) := rfl
        rw [e0]
        clear e0
        generalize w.alloc (.cells (woI 0 0 0 0 0 0) 37) = w1 at *
        go_wp2_with fail
        refine (HC.out _).mono ?_
        rintro en w2 ⟨rfl, rfl⟩
        clear HC
        go_wp2_with ((with_reducible refine wpList_store_st (o := ⟨none, .store 37 _ _, _, _, _, _⟩) rfl 37 _ _ rfl w.heap.size rfl rfl (run_storeAt_row _ w.heap.size 37 37 (woI 0 0 0 0 0 0) (woI 0 0 0 0 0 0) ?_ ?_ ?_ ?_) ?_); exact HR.out; exact infoWo; rfl; exact wo_one _ _ _ _ _ _)
        exact bodyPost_ret (v := .tuple #[.agg (woI 0 0 0 0 0 0), .int .i64 e, .int .i64 k]) (results_cell2 Tryz.results12 _ _ w.heap.size 37 (woI 0 0 0 0 0 0) (0, 0) _ rfl (Blk.setRow HR.out) Tryz.underlying37 rfl infoWo) rfl ⟨rfl, below_row HB.out (Nat.le_refl _) _⟩
  rw [if_neg h4] at hg
  have q42 : ((b : Int) == 42) = false := by rw [beq_eq_false_iff_ne]; omega
  have q43 : ((b : Int) == 43) = false := by rw [beq_eq_false_iff_ne]; omega
  have q63 : ((b : Int) == 63) = false := by rw [beq_eq_false_iff_ne]; omega
  have q123 : ((b : Int) == 123) = false := by rw [beq_eq_false_iff_ne]; omega
  by_cases h91 : b = 91
  · subst h91
    rw [if_pos rfl] at hg
    have hC := rRead_calls s hs a
    unfold brkW at hg
    generalize readR s a = Z at *
    obtain ⟨t, p, e, k⟩ := Z
    simp only at hg
    have HC : Hid (∀ w, Calls Tryz.prog 23 #[.string s, .int .i64 a] w fun e' w' => e' = .returned (.tuple #[setV t, .int .i64 p, .int .i64 e, .int .i64 k]) ∧ Below w.heap.size w w') := Lib.hid hC
    have HO := Lib.hid (oneW_calls t a p)
    clear hC hB
    by_cases he : e = 0
    · subst he
      obtain rfl : Y = (oneW t a p, 0, 0) := hg.trans (if_neg (by decide))
      clear hg
      go_enter Tryz.func12, Tryz.ntmps12
      go_upto_region 1 with fail
      have e0 : w.alloc (.cells #[.int .i64 0, .int .i64 0, .int .i64 0, .int .u64 0, .int .u64 0, .int .u64 0, .int .u64 0, .int .i64 0, .int .i64 0] 37) = w.alloc (.cells (woI 0 0 0 0 0 0) 37) := rfl
      rw [e0]
      clear e0
      generalize w.alloc (.cells (woI 0 0 0 0 0 0) 37) = w1 at *
      go_wp2_with fail
      refine (HC.out _).mono ?_
      rintro en w2 ⟨rfl, hb⟩
      have HR2 := Lib.hid (HR.out.below hb (Blk.lt HR.out))
      have HB2 := Lib.hid (HB.out.trans (hb.mono (by omega)))
      have hz2 := Nat.le_trans hz hb.size
      clear HR HB hz hb
      have HR := HR2
      have HB := HB2
      have hz := hz2
      clear HR2 HB2 hz2
      clear HC
      go_upto_region 20 with fail
      have HP := Blk.new w2 (setA t) 30
      replace HR := Lib.hid (HR.out.alloc (.cells (setA t) 30))
      replace HB := Lib.hid (HB.out.alloc (by omega) (.cells (setA t) 30))
      have hz2 : w.heap.size + 1 ≤ (w2.alloc (.cells (setA t) 30)).heap.size := by simp; omega
      clear hz
      have hz := hz2
      clear hz2
      have e0 : w2.alloc (.cells #[.int .u64 (wd t 0), .int .u64 (wd t 1), .int .u64 (wd t 2), .int .u64 (wd t 3)] 30) = w2.alloc (.cells (setA t) 30) := rfl
      try rw [e0]
      clear e0
      generalize w2.alloc (.cells (setA t) 30) = w3 at *
      generalize w2.heap.size = B at *
      obtain ⟨⟨c0, c1, c2, c3⟩, _⟩ := HP.cells4
      clear HP
      go_wp2_with fail
      refine (HO.out _).mono ?_
      rintro en w4 ⟨rfl, hb⟩
      have HR2 := Lib.hid (HR.out.below hb (Blk.lt HR.out))
      have HB2 := Lib.hid (HB.out.trans (hb.mono (by omega)))
      have hz2 := Nat.le_trans hz hb.size
      clear HR HB hz hb
      have HR := HR2
      have HB := HB2
      have hz := hz2
      clear HR2 HB2 hz2
      clear HO c0 c1 c2 c3
      go_wp2_with ((with_reducible refine wpList_store_st (o := ⟨none, .store 37 _ _, _, _, _, _⟩) rfl 37 _ _ rfl w.heap.size rfl rfl (run_storeAt_row _ w.heap.size 37 37 (woI 0 0 0 0 0 0) (woI 1 a p t 0 0) ?_ ?_ ?_ ?_) ?_); exact HR.out; exact infoWo; rfl; exact wo_one _ _ _ _ _ _)
      exact bodyPost_ret (v := .tuple #[.agg (woI 1 a p t 0 0), .int .i64 0, .int .i64 0]) (results_cell2 Tryz.results12 _ _ w.heap.size 37 (woI 1 a p t 0 0) (0, 0) _ rfl (Blk.setRow HR.out) Tryz.underlying37 rfl infoWo) rfl ⟨rfl, below_row HB.out (Nat.le_refl _) _⟩
    · have qe : ((e : Int) != 0) = true := by rw [bne_iff_ne]; omega
      obtain rfl : Y = (zWN, e, k) := hg.trans (if_pos he)
      clear hg HO
      go_enter Tryz.func12, Tryz.ntmps12
      go_upto_region 1 with fail
      have e0 : w.alloc (.cells #[.int .i64 0, .int .i64 0, .int .i64 0, .int .u64 0, .int .u64 0, .int .u64 0, .int .u64 0, .int .i64 0, .int .i64 0] 37) = w.alloc (.cells (woI 0 0 0 0 0 0) 37) := rfl
      rw [e0]
      clear e0
      generalize w.alloc (.cells (woI 0 0 0 0 0 0) 37) = w1 at *
      go_wp2_with fail
      refine (HC.out _).mono ?_
      rintro en w2 ⟨rfl, hb⟩
      have HR2 := Lib.hid (HR.out.below hb (Blk.lt HR.out))
      have HB2 := Lib.hid (HB.out.trans (hb.mono (by omega)))
      have hz2 := Nat.le_trans hz hb.size
      clear HR HB hz hb
      have HR := HR2
      have HB := HB2
      have hz := hz2
      clear HR2 HB2 hz2
      clear HC
      go_upto_region 20 with fail
      have HP := Blk.new w2 (setA t) 30
      replace HR := Lib.hid (HR.out.alloc (.cells (setA t) 30))
      replace HB := Lib.hid (HB.out.alloc (by omega) (.cells (setA t) 30))
      have hz2 : w.heap.size + 1 ≤ (w2.alloc (.cells (setA t) 30)).heap.size := by simp; omega
      clear hz
      have hz := hz2
      clear hz2
      have e0 : w2.alloc (.cells #[.int .u64 (wd t 0), .int .u64 (wd t 1), .int .u64 (wd t 2), .int .u64 (wd t 3)] 30) = w2.alloc (.cells (setA t) 30) := rfl
      try rw [e0]
      clear e0
      generalize w2.alloc (.cells (setA t) 30) = w3 at *
      generalize w2.heap.size = B at *
      obtain ⟨⟨c0, c1, c2, c3⟩, _⟩ := HP.cells4
      clear HP
      clear c0 c1 c2 c3
      go_wp2_with ((with_reducible refine wpList_store_st (o := ⟨none, .store 37 _ _, _, _, _, _⟩) rfl 37 _ _ rfl w.heap.size rfl rfl (run_storeAt_row _ w.heap.size 37 37 (woI 0 0 0 0 0 0) (woI 0 0 0 0 0 0) ?_ ?_ ?_ ?_) ?_); exact HR.out; exact infoWo; rfl; exact wo_one _ _ _ _ _ _)
      exact bodyPost_ret (v := .tuple #[.agg (woI 0 0 0 0 0 0), .int .i64 e, .int .i64 k]) (results_cell2 Tryz.results12 _ _ w.heap.size 37 (woI 0 0 0 0 0 0) (0, 0) _ rfl (Blk.setRow HR.out) Tryz.underlying37 rfl infoWo) rfl ⟨rfl, below_row HB.out (Nat.le_refl _) _⟩
  rw [if_neg h91] at hg
  have q91 : ((b : Int) == 91) = false := by rw [beq_eq_false_iff_ne]; omega
  by_cases h46 : b = 46
  · subst h46
    rw [if_pos rfl] at hg
    have HA := Lib.hid (fun w => rrange_calls 0 255 w (by decide) (by decide))
    have HO : Hid (∀ w, Calls Tryz.prog 24 #[setV (range 0 255), .int .i64 a, .int .i64 ((a : Int) + 1)] w fun en w' => en = .returned (.agg (woI 1 a ((a : Int) + 1) (range 0 255) 0 0)) ∧ Below w.heap.size w w') := Lib.hid (oneW_calls (range 0 255) a ((a : Int) + 1))
    generalize range 0 255 = t at *
    subst hg
    go_enter Tryz.func12, Tryz.ntmps12
    go_upto_region 1 with fail
    have e0 : w.alloc (.cells #[.int .i64 0, .int .i64 0, .int .i64 0, .int .u64 0, .int .u64 0, .int .u64 0, .int .u64 0, .int .i64 0, .int .i64 0] 37) = w.alloc (.cells (woI 0 0 0 0 0 0) 37) := rfl
    rw [e0]
    clear e0
    generalize w.alloc (.cells (woI 0 0 0 0 0 0) 37) = w1 at *
    go_wp2_with fail
    refine (HA.out _).mono ?_
    rintro en w2 ⟨rfl, hb⟩
    have HR2 := Lib.hid (HR.out.below hb (Blk.lt HR.out))
    have HB2 := Lib.hid (HB.out.trans (hb.mono (by omega)))
    have hz2 := Nat.le_trans hz hb.size
    clear HR HB hz hb
    have HR := HR2
    have HB := HB2
    have hz := hz2
    clear HR2 HB2 hz2
    clear HA
    go_wp2_with fail
    refine (HO.out _).mono ?_
    rintro en w4 ⟨rfl, hb⟩
    have HR2 := Lib.hid (HR.out.below hb (Blk.lt HR.out))
    have HB2 := Lib.hid (HB.out.trans (hb.mono (by omega)))
    have hz2 := Nat.le_trans hz hb.size
    clear HR HB hz hb
    have HR := HR2
    have HB := HB2
    have hz := hz2
    clear HR2 HB2 hz2
    clear HO
    go_wp2_with ((with_reducible refine wpList_store_st (o := ⟨none, .store 37 _ _, _, _, _, _⟩) rfl 37 _ _ rfl w.heap.size rfl rfl (run_storeAt_row _ w.heap.size 37 37 (woI 0 0 0 0 0 0) (woI 1 a ((a : Int) + 1) t 0 0) ?_ ?_ ?_ ?_) ?_); exact HR.out; exact infoWo; rfl; exact wo_one _ _ _ _ _ _)
    exact bodyPost_ret (v := .tuple #[.agg (woI 1 a ((a : Int) + 1) t 0 0), .int .i64 0, .int .i64 0]) (results_cell2 Tryz.results12 _ _ w.heap.size 37 (woI 1 a ((a : Int) + 1) t 0 0) (0, 0) _ rfl (Blk.setRow HR.out) Tryz.underlying37 rfl infoWo) rfl ⟨rfl, below_row HB.out (Nat.le_refl _) _⟩
  rw [if_neg h46] at hg
  have q46 : ((b : Int) == 46) = false := by rw [beq_eq_false_iff_ne]; omega
  by_cases h94 : b = 94 ∨ b = 36
  · rw [if_pos h94] at hg
    subst hg
    clear hB
    rcases h94 with rfl | rfl
    · go_enter Tryz.func12, Tryz.ntmps12
      go_upto_region 1 with fail
      have e0 : w.alloc (.cells #[.int .i64 0, .int .i64 0, .int .i64 0, .int .u64 0, .int .u64 0, .int .u64 0, .int .u64 0, .int .i64 0, .int .i64 0] 37) = w.alloc (.cells (woI 0 0 0 0 0 0) 37) := rfl
      rw [e0]
      clear e0
      generalize w.alloc (.cells (woI 0 0 0 0 0 0) 37) = w1 at *
      go_wp2_with ((with_reducible refine wpList_store_st (o := ⟨none, .store 37 _ _, _, _, _, _⟩) rfl 37 _ _ rfl w.heap.size rfl rfl (run_storeAt_row _ w.heap.size 37 37 (woI 0 0 0 0 0 0) (woI 0 0 0 0 0 0) ?_ ?_ ?_ ?_) ?_); exact HR.out; exact infoWo; rfl; exact wo_one _ _ _ _ _ _)
      exact bodyPost_ret (v := .tuple #[.agg (woI 0 0 0 0 0 0), .int .i64 3, .int .i64 ((a : Int) + 1)]) (results_cell2 Tryz.results12 _ _ w.heap.size 37 (woI 0 0 0 0 0 0) (0, 0) _ rfl (Blk.setRow HR.out) Tryz.underlying37 rfl infoWo) rfl ⟨rfl, below_row HB.out (Nat.le_refl _) _⟩
    · go_enter Tryz.func12, Tryz.ntmps12
      go_upto_region 1 with fail
      have e0 : w.alloc (.cells #[.int .i64 0, .int .i64 0, .int .i64 0, .int .u64 0, .int .u64 0, .int .u64 0, .int .u64 0, .int .i64 0, .int .i64 0] 37) = w.alloc (.cells (woI 0 0 0 0 0 0) 37) := rfl
      rw [e0]
      clear e0
      generalize w.alloc (.cells (woI 0 0 0 0 0 0) 37) = w1 at *
      go_wp2_with ((with_reducible refine wpList_store_st (o := ⟨none, .store 37 _ _, _, _, _, _⟩) rfl 37 _ _ rfl w.heap.size rfl rfl (run_storeAt_row _ w.heap.size 37 37 (woI 0 0 0 0 0 0) (woI 0 0 0 0 0 0) ?_ ?_ ?_ ?_) ?_); exact HR.out; exact infoWo; rfl; exact wo_one _ _ _ _ _ _)
      exact bodyPost_ret (v := .tuple #[.agg (woI 0 0 0 0 0 0), .int .i64 3, .int .i64 ((a : Int) + 1)]) (results_cell2 Tryz.results12 _ _ w.heap.size 37 (woI 0 0 0 0 0 0) (0, 0) _ rfl (Blk.setRow HR.out) Tryz.underlying37 rfl infoWo) rfl ⟨rfl, below_row HB.out (Nat.le_refl _) _⟩
  rw [if_neg h94] at hg
  have q94 : ((b : Int) == 94) = false := by rw [beq_eq_false_iff_ne]; omega
  have q36 : ((b : Int) == 36) = false := by rw [beq_eq_false_iff_ne]; omega
  by_cases h92 : b = 92
  · subst h92
    rw [if_pos rfl] at hg
    clear hB
    unfold slashW at hg
    by_cases h1 : s.size ≤ a + 1
    · rw [if_pos h1] at hg
      subst hg
      have qs : decide ((s.size : Int) ≤ (a : Int) + 1) = true := by rw [decide_eq_true_iff]; omega
      go_enter Tryz.func12, Tryz.ntmps12
      go_upto_region 1 with fail
      have e0 : w.alloc (.cells #[.int .i64 0, .int .i64 0, .int .i64 0, .int .u64 0, .int .u64 0, .int .u64 0, .int .u64 0, .int .i64 0, .int .i64 0] 37) = w.alloc (.cells (woI 0 0 0 0 0 0) 37) := rfl
      rw [e0]
      clear e0
      generalize w.alloc (.cells (woI 0 0 0 0 0 0) 37) = w1 at *
      go_wp2_with ((with_reducible refine wpList_store_st (o := ⟨none, .store 37 _ _, _, _, _, _⟩) rfl 37 _ _ rfl w.heap.size rfl rfl (run_storeAt_row _ w.heap.size 37 37 (woI 0 0 0 0 0 0) (woI 0 0 0 0 0 0) ?_ ?_ ?_ ?_) ?_); exact HR.out; exact infoWo; rfl; exact wo_one _ _ _ _ _ _)
      exact bodyPost_ret (v := .tuple #[.agg (woI 0 0 0 0 0 0), .int .i64 2, .int .i64 s.size]) (results_cell2 Tryz.results12 _ _ w.heap.size 37 (woI 0 0 0 0 0 0) (0, 0) _ rfl (Blk.setRow HR.out) Tryz.underlying37 rfl infoWo) rfl ⟨rfl, below_row HB.out (Nat.le_refl _) _⟩
    rw [if_neg h1] at hg
    have qs : decide ((s.size : Int) ≤ (a : Int) + 1) = false := by rw [decide_eq_false_iff_not]; omega
    have hlt1 : a + 1 < s.size := by omega
    have b1 : s[a + 1].toNat = bt s (a + 1) := (bt_eq s (a + 1) hlt1).symm
    have hc256 := bt_lt s (a + 1)
    have u1 : (0 : Int) ≤ (a : Int) + 1 := by omega
    have u2 : ((a : Int) + 1).toNat = a + 1 := by omega
    have u3 : (a : Int) + 1 < (s.size : Int) := by omega
    generalize bt s (a + 1) = c at *
    have HF := Lib.hid (fourteen_calls c)
    cases hf : four14 c with
    | false =>
      rw [hf, if_pos rfl] at hg
      rw [hf] at HF
      subst hg
      go_enter Tryz.func12, Tryz.ntmps12
      go_upto_region 1 with fail
      have e0 : w.alloc (.cells #[.int .i64 0, .int .i64 0, .int .i64 0, .int .u64 0, .int .u64 0, .int .u64 0, .int .u64 0, .int .i64 0, .int .i64 0] 37) = w.alloc (.cells (woI 0 0 0 0 0 0) 37) := rfl
      rw [e0]
      clear e0
      generalize w.alloc (.cells (woI 0 0 0 0 0 0) 37) = w1 at *
      go_wp2_with fail
      refine (HF.out _).mono ?_
      rintro en w2 ⟨rfl, rfl⟩
      clear HF
      go_wp2_with ((with_reducible refine wpList_store_st (o := ⟨none, .store 37 _ _, _, _, _, _⟩) rfl 37 _ _ rfl w.heap.size rfl rfl (run_storeAt_row _ w.heap.size 37 37 (woI 0 0 0 0 0 0) (woI 0 0 0 0 0 0) ?_ ?_ ?_ ?_) ?_); exact HR.out; exact infoWo; rfl; exact wo_one _ _ _ _ _ _)
      exact bodyPost_ret (v := .tuple #[.agg (woI 0 0 0 0 0 0), .int .i64 3, .int .i64 ((a : Int) + 2)]) (results_cell2 Tryz.results12 _ _ w.heap.size 37 (woI 0 0 0 0 0 0) (0, 0) _ rfl (Blk.setRow HR.out) Tryz.underlying37 rfl infoWo) rfl ⟨rfl, below_row HB.out (Nat.le_refl _) _⟩
    | true =>
      rw [hf, if_neg (by decide)] at hg
      rw [hf] at HF
      have HA := Lib.hid (byteW_calls c hc256)
      have HO : Hid (∀ w, Calls Tryz.prog 24 #[setV (range c c), .int .i64 a, .int .i64 ((a : Int) + 2)] w fun en w' => en = .returned (.agg (woI 1 a ((a : Int) + 2) (range c c) 0 0)) ∧ Below w.heap.size w w') := Lib.hid (oneW_calls (range c c) a ((a : Int) + 2))
      generalize range c c = t at *
      subst hg
      go_enter Tryz.func12, Tryz.ntmps12
      go_upto_region 1 with fail
      have e0 : w.alloc (.cells #[.int .i64 0, .int .i64 0, .int .i64 0, .int .u64 0, .int .u64 0, .int .u64 0, .int .u64 0, .int .i64 0, .int .i64 0] 37) = w.alloc (.cells (woI 0 0 0 0 0 0) 37) := rfl
      rw [e0]
      clear e0
      generalize w.alloc (.cells (woI 0 0 0 0 0 0) 37) = w1 at *
      go_wp2_with fail
      refine (HF.out _).mono ?_
      rintro en w2 ⟨rfl, rfl⟩
      clear HF
      go_wp2_with fail
      refine (HA.out _).mono ?_
      rintro en w2 ⟨rfl, hb⟩
      have HR2 := Lib.hid (HR.out.below hb (Blk.lt HR.out))
      have HB2 := Lib.hid (HB.out.trans (hb.mono (by omega)))
      have hz2 := Nat.le_trans hz hb.size
      clear HR HB hz hb
      have HR := HR2
      have HB := HB2
      have hz := hz2
      clear HR2 HB2 hz2
      clear HA
      go_wp2_with fail
      refine (HO.out _).mono ?_
      rintro en w4 ⟨rfl, hb⟩
      have HR2 := Lib.hid (HR.out.below hb (Blk.lt HR.out))
      have HB2 := Lib.hid (HB.out.trans (hb.mono (by omega)))
      have hz2 := Nat.le_trans hz hb.size
      clear HR HB hz hb
      have HR := HR2
      have HB := HB2
      have hz := hz2
      clear HR2 HB2 hz2
      clear HO
      go_wp2_with ((with_reducible refine wpList_store_st (o := ⟨none, .store 37 _ _, _, _, _, _⟩) rfl 37 _ _ rfl w.heap.size rfl rfl (run_storeAt_row _ w.heap.size 37 37 (woI 0 0 0 0 0 0) (woI 1 a ((a : Int) + 2) t 0 0) ?_ ?_ ?_ ?_) ?_); exact HR.out; exact infoWo; rfl; exact wo_one _ _ _ _ _ _)
      exact bodyPost_ret (v := .tuple #[.agg (woI 1 a ((a : Int) + 2) t 0 0), .int .i64 0, .int .i64 0]) (results_cell2 Tryz.results12 _ _ w.heap.size 37 (woI 1 a ((a : Int) + 2) t 0 0) (0, 0) _ rfl (Blk.setRow HR.out) Tryz.underlying37 rfl infoWo) rfl ⟨rfl, below_row HB.out (Nat.le_refl _) _⟩
  rw [if_neg h92] at hg
  have q92 : ((b : Int) == 92) = false := by rw [beq_eq_false_iff_ne]; omega
  have HA := Lib.hid (byteW_calls b hb256)
  have HO : Hid (∀ w, Calls Tryz.prog 24 #[setV (range b b), .int .i64 a, .int .i64 ((a : Int) + 1)] w fun en w' => en = .returned (.agg (woI 1 a ((a : Int) + 1) (range b b) 0 0)) ∧ Below w.heap.size w w') := Lib.hid (oneW_calls (range b b) a ((a : Int) + 1))
  generalize range b b = t at *
  subst hg
  clear hB h40 h41 h124 h4 h91 h46 h94 h92
  go_enter Tryz.func12, Tryz.ntmps12
  go_upto_region 1 with fail
  have e0 : w.alloc (.cells #[.int .i64 0, .int .i64 0, .int .i64 0, .int .u64 0, .int .u64 0, .int .u64 0, .int .u64 0, .int .i64 0, .int .i64 0] 37) = w.alloc (.cells (woI 0 0 0 0 0 0) 37) := rfl
  rw [e0]
  clear e0
  generalize w.alloc (.cells (woI 0 0 0 0 0 0) 37) = w1 at *
  go_wp2_with fail
  refine (HA.out _).mono ?_
  rintro en w2 ⟨rfl, hb⟩
  have HR2 := Lib.hid (HR.out.below hb (Blk.lt HR.out))
  have HB2 := Lib.hid (HB.out.trans (hb.mono (by omega)))
  have hz2 := Nat.le_trans hz hb.size
  clear HR HB hz hb
  have HR := HR2
  have HB := HB2
  have hz := hz2
  clear HR2 HB2 hz2
  clear HA
  go_wp2_with fail
  refine (HO.out _).mono ?_
  rintro en w4 ⟨rfl, hb⟩
  have HR2 := Lib.hid (HR.out.below hb (Blk.lt HR.out))
  have HB2 := Lib.hid (HB.out.trans (hb.mono (by omega)))
  have hz2 := Nat.le_trans hz hb.size
  clear HR HB hz hb
  have HR := HR2
  have HB := HB2
  have hz := hz2
  clear HR2 HB2 hz2
  clear HO
  go_wp2_with ((with_reducible refine wpList_store_st (o := ⟨none, .store 37 _ _, _, _, _, _⟩) rfl 37 _ _ rfl w.heap.size rfl rfl (run_storeAt_row _ w.heap.size 37 37 (woI 0 0 0 0 0 0) (woI 1 a ((a : Int) + 1) t 0 0) ?_ ?_ ?_ ?_) ?_); exact HR.out; exact infoWo; rfl; exact wo_one _ _ _ _ _ _)
  exact bodyPost_ret (v := .tuple #[.agg (woI 1 a ((a : Int) + 1) t 0 0), .int .i64 0, .int .i64 0]) (results_cell2 Tryz.results12 _ _ w.heap.size 37 (woI 1 a ((a : Int) + 1) t 0 0) (0, 0) _ rfl (Blk.setRow HR.out) Tryz.underlying37 rfl infoWo) rfl ⟨rfl, below_row HB.out (Nat.le_refl _) _⟩
end Go.Proofs.YthodphgbdmnpoaaGreatDoor

/- Words of a pattern, plainly: the text of a word is read as it; so are texts, one behind the other. -/
namespace Go.Proofs.YthodphgbdmnpoaaGreatDoor
open Go.RowKit BS

theorem bt_mid (p q : ByteArray) (T : List Nat) (hT : ∀ x ∈ T, x < 256) (i : Nat) (h : i < T.length) : bt (p ++ ofT T ++ q) (p.size + i) = T[i] := by
  rw [bt_app, if_pos (by rw [ByteArray.size_append, size_ofT]; omega), bt_off, bt_ofT T hT i h]
theorem size_mid (p q : ByteArray) (T : List Nat) : (p ++ ofT T ++ q).size = p.size + T.length + q.size := by rw [ByteArray.size_append, ByteArray.size_append, size_ofT]

theorem el_all (f : Nat → Bool) : ∀ k, (el f k).length = k → ∀ j, j < k → f j = true
  | 0, _, j, hj => by omega
  | k + 1, h, j, hj => by
    have hl : (el f k).length ≤ k := by unfold el; exact Nat.le_trans (List.length_filter_le _ _) (by simp)
    rw [el_succ] at h
    cases hf : f k with
    | false => rw [hf] at h; simp at h; omega
    | true =>
      rw [hf] at h
      simp at h
      by_cases hjk : j = k
      · subst hjk; exact hf
      · exact el_all f k h j (by omega)
theorem set_all (t : BitVec 256) (h : (el t.getLsbD 256).length = 256) : t = range 0 255 := by
  have := el_all _ 256 h
  apply BitVec.eq_of_getLsbD_eq
  intro j hj
  rw [this j hj, range, get_ofFn]
  simp
  omega
theorem set_one (t : BitVec 256) (b : Nat) (h : el t.getLsbD 256 = [b]) : b < 256 ∧ t = range b b := by
  have hm : ∀ j, j < 256 → (t.getLsbD j = true ↔ j = b) := fun j hj => by
    have : j ∈ el t.getLsbD 256 ↔ j = b := by rw [h]; simp
    rw [← this]
    unfold el
    simp [hj]
  have hb : b < 256 := by
    have : b ∈ el t.getLsbD 256 := by rw [h]; simp
    unfold el at this
    simp at this
    exact this.1
  refine ⟨hb, ?_⟩
  apply BitVec.eq_of_getLsbD_eq
  intro j hj
  rw [range, get_ofFn, Bool.eq_iff_iff, hm j hj]
  simp
  omega
theorem range94_one : (el (range 94 94).getLsbD 256).length = 1 := by decide +kernel
/-- How the text of a set is read. -/
def BackT (t : BitVec 256) (T : List Nat) : Prop := T ≠ [] ∧ (∀ x ∈ T, x < 256) ∧ T.length ≤ 800 ∧ ∀ p q : ByteArray, nextA (p ++ ofT T ++ q) p.size = (oneW t p.size (p.size + T.length), 0, 0)
theorem next_byte (s : ByteArray) (a b : Nat) (h : bt s a = b) (hb : four14 b = false ∨ b = 93 ∨ b = 125) : nextA s a = (oneW (range b b) a (a + 1), 0, 0) := by
  have key : ∀ c, c ∈ [40, 41, 124, 42, 43, 63, 123, 91, 46, 94, 36, 92] → b ≠ c := by
    rintro c hc rfl
    rcases hb with hb | hb | hb
    · have h4 : ∀ x ∈ [40, 41, 124, 42, 43, 63, 123, 91, 46, 94, 36, 92], four14 x = true := by decide
      rw [h4 b hc] at hb; cases hb
    · subst hb; revert hc; decide
    · subst hb; revert hc; decide
  unfold nextA
  rw [h, if_neg (key 40 (by decide)), if_neg (key 41 (by decide)), if_neg (key 124 (by decide)),
    if_neg (fun h => by rcases h with h | h | h | h; exact key 42 (by decide) h; exact key 43 (by decide) h; exact key 63 (by decide) h; exact key 123 (by decide) h),
    if_neg (key 91 (by decide)), if_neg (key 46 (by decide)), if_neg (fun h => by rcases h with h | h; exact key 94 (by decide) h; exact key 36 (by decide) h), if_neg (key 92 (by decide))]
theorem next_slash (s : ByteArray) (a b : Nat) (h0 : bt s a = 92) (hz : a + 1 < s.size) (h1 : bt s (a + 1) = b) (hb : four14 b = true) : nextA s a = (oneW (range b b) a (a + 2), 0, 0) := by
  unfold nextA
  rw [h0, if_neg (by decide), if_neg (by decide), if_neg (by decide), if_neg (by decide), if_neg (by decide), if_neg (by decide), if_neg (by decide), if_pos rfl]
  unfold slashW
  rw [if_neg (by omega), h1, if_neg (by rw [hb]; decide)]
theorem back_set (t : BitVec 256) : BackT t (textW t) := by
  unfold textW
  by_cases h256 : (el t.getLsbD 256).length = 256
  · rw [if_pos h256]
    obtain rfl := set_all t h256
    refine ⟨by decide, by decide, by decide, fun p q => ?_⟩
    have hb : bt (p ++ ofT [46] ++ q) p.size = 46 := bt_mid p q [46] (by decide) 0 (by decide)
    unfold nextA
    rw [hb, if_neg (by decide), if_neg (by decide), if_neg (by decide), if_neg (by decide), if_neg (by decide), if_pos rfl]
    rfl
  rw [if_neg h256]
  by_cases h1 : (el t.getLsbD 256).length ≠ 1
  · rw [if_pos h1]
    have hn : t ≠ range 94 94 := by rintro rfl; exact h1 range94_one
    refine ⟨fun h => hn ((text_nil t).1 h), text_lt t, text_len t, fun p q => ?_⟩
    have hr := readR_back p q t hn
    have h91 : bt (p ++ ofT (textT t) ++ q) p.size = 91 := by
      rcases readR_end (p ++ ofT (textT t) ++ q) p.size with ⟨h, _⟩ | ⟨_, _, h, _⟩
      · rw [hr] at h; cases h
      · exact h
    unfold nextA
    rw [h91, if_neg (by decide), if_neg (by decide), if_neg (by decide), if_neg (by decide), if_pos rfl]
    unfold brkW
    rw [hr]
    rfl
  rw [if_neg h1]
  obtain ⟨b, hb⟩ : ∃ b, el t.getLsbD 256 = [b] := List.length_eq_one_iff.1 (Decidable.not_not.1 h1)
  obtain ⟨hlt, rfl⟩ := set_one t b hb
  rw [hb]
  simp only
  by_cases hf : four14 b = true ∧ b ≠ 93 ∧ b ≠ 125
  · rw [if_pos hf]
    refine ⟨by simp, by simp; omega, by simp, fun p q => ?_⟩
    have hT : ∀ x ∈ [92, b], x < 256 := by simp; omega
    exact next_slash _ p.size b (bt_mid p q [92, b] hT 0 (by simp)) (by rw [size_mid]; simp; omega) (bt_mid p q [92, b] hT 1 (by simp)) hf.1
  · rw [if_neg hf]
    refine ⟨by simp, by simp; omega, by simp, fun p q => ?_⟩
    have hT : ∀ x ∈ [b], x < 256 := by simp; omega
    refine next_byte _ p.size b (bt_mid p q [b] hT 0 (by simp)) ?_
    by_cases h4 : four14 b = true
    · right
      by_cases h93 : b = 93
      · exact .inl h93
      · exact .inr (Decidable.not_not.1 fun h => hf ⟨h4, h93, h⟩)
    · exact .inl (by simpa using h4)

/-- The word at another place. -/
def atW (w : WN) (p l : Nat) : WN := ⟨w.kind, p, p + l, w.set, w.n, w.m⟩
theorem textN_lt (n m : Int) (h : rightN n m = true) : (∀ x ∈ textN n m, x < 256) ∧ (textN n m).length ≤ 7 := by
  have hd : ∀ k, k ≤ 99 → (∀ x ∈ digL k, x < 256) ∧ (digL k).length ≤ 2 := fun k hk => by
    unfold digL
    split
    · simp; omega
    · simp; omega
  have hc : 0 ≤ n ∧ n ≤ 99 ∧ (m = -1 ∨ (n ≤ m ∧ m ≤ 99)) := by
    unfold rightN at h
    simp only [Bool.and_eq_true, Bool.or_eq_true, decide_eq_true_eq, beq_iff_eq] at h
    omega
  have h1 := hd n.toNat (by omega)
  have h2 : m ≠ -1 → _ := fun hm => hd m.toNat (by omega)
  unfold textN
  rw [if_neg (by rw [h]; decide)]
  split
  · simp
  split
  · simp
  split
  · simp
  split
  · refine ⟨fun x hx => ?_, by simp; omega⟩
    simp at hx
    rcases hx with rfl | hx | rfl
    · decide
    · exact h1.1 x hx
    · decide
  split
  · refine ⟨fun x hx => ?_, by simp; omega⟩
    simp at hx
    rcases hx with rfl | hx | rfl | rfl
    · decide
    · exact h1.1 x hx
    · decide
    · decide
  · rename_i hm
    have h2 := h2 hm
    refine ⟨fun x hx => ?_, by simp; omega⟩
    simp at hx
    rcases hx with rfl | hx | rfl | hx | rfl
    · decide
    · exact h1.1 x hx
    · decide
    · exact h2.1 x hx
    · decide
/-- **The text of a word is read as it, whatever stands ahead of it, and behind.** -/
theorem back_word (w : WN) (hw : OkW w) : printW w ≠ [] ∧ (∀ x ∈ printW w, x < 256) ∧ (printW w).length ≤ 800 ∧ ∀ p q : ByteArray, nextA (p ++ ofT (printW w) ++ q) p.size = (atW w p.size (printW w).length, 0, 0) := by
  obtain ⟨k, a, e, t, n, m⟩ := w
  rcases hw with ⟨rfl, rfl, rfl⟩ | ⟨hk, rfl, rfl, rfl⟩ | ⟨rfl, rfl, hr⟩
  · exact back_set t
  · have key : ∀ c : Nat, ∀ k, c < 256 → (∀ s a, bt s a = c → nextA s a = (⟨k, a, a + 1, 0, 0, 0⟩, 0, 0)) → ([c] ≠ [] ∧ (∀ x ∈ [c], x < 256) ∧ [c].length ≤ 800 ∧ ∀ p q : ByteArray, nextA (p ++ ofT [c] ++ q) p.size = (⟨k, p.size, p.size + [c].length, 0, 0, 0⟩, 0, 0)) := fun c k hc h =>
      ⟨by simp, by simpa using hc, by simp, fun p q => h _ _ (bt_mid p q [c] (by simpa using hc) 0 (by simp))⟩
    simp only at hk
    rcases hk with rfl | rfl | rfl
    · exact key 40 2 (by decide) (fun s a h => by unfold nextA; rw [if_pos h])
    · exact key 41 3 (by decide) (fun s a h => by unfold nextA; rw [if_neg (by omega), if_pos h])
    · exact key 124 4 (by decide) (fun s a h => by unfold nextA; rw [if_neg (by omega), if_neg (by omega), if_pos h])
  · have hlt := textN_lt n m hr
    simp only at hr
    refine ⟨(readN_back eT eT n m hr).1, hlt.1, Nat.le_trans hlt.2 (by decide), fun p q => ?_⟩
    show nextA (p ++ ofT (textN n m) ++ q) p.size = (⟨5, p.size, p.size + (textN n m).length, 0, n, m⟩, 0, 0)
    have hb := (readN_back p q n m hr).2
    have hne := (readN_back p q n m hr).1
    have hl : 0 < (textN n m).length := List.length_pos_iff.2 hne
    have hz := size_mid p q (textN n m)
    have hfour : bt (p ++ ofT (textN n m) ++ q) p.size = 42 ∨ bt (p ++ ofT (textN n m) ++ q) p.size = 43 ∨ bt (p ++ ofT (textN n m) ++ q) p.size = 63 ∨ bt (p ++ ofT (textN n m) ++ q) p.size = 123 := by
      have hb2 := hb
      unfold readN at hb2
      rw [if_neg (by omega), show (p.size : Int).toNat = p.size from rfl] at hb2
      unfold signN at hb2
      by_cases g1 : bt (p ++ ofT (textN n m) ++ q) p.size = 42
      · exact .inl g1
      by_cases g2 : bt (p ++ ofT (textN n m) ++ q) p.size = 43
      · exact .inr (.inl g2)
      by_cases g3 : bt (p ++ ofT (textN n m) ++ q) p.size = 63
      · exact .inr (.inr (.inl g3))
      by_cases g4 : bt (p ++ ofT (textN n m) ++ q) p.size = 123
      · exact .inr (.inr (.inr g4))
      rw [if_neg g1, if_neg g2, if_neg g3, if_neg g4] at hb2
      cases hb2
    unfold nextA
    rw [if_neg (by omega), if_neg (by omega), if_neg (by omega), if_pos hfour]
    unfold cntW
    rw [hb]
    rfl

/-- The words, one behind the other, from a place on. -/
def layW : Nat → List WN → List WN
  | _, [] => []
  | p, w :: l => atW w p (printW w).length :: layW (p + (printW w).length) l
def catW (l : List WN) : List Nat := l.flatMap printW
theorem allN_back : ∀ (l : List WN) (p : ByteArray) (k : Nat) (acc : List WN), (∀ w ∈ l, OkW w) → l.length < k → allN (p ++ ofT (catW l)) k p.size acc = (acc ++ layW p.size l, 0, 0)
  | [], p, k + 1, acc, _, _ => by
    rw [allN, if_pos (by rw [show catW [] = [] from rfl, ByteArray.size_append, size_ofT]; simp)]
    simp [layW]
  | w :: l, p, k + 1, acc, hok, hk => by
    obtain ⟨h1, h2, h3, h4⟩ := back_word w (hok w (List.mem_cons_self ..))
    have e : ofT (catW (w :: l)) = ofT (printW w) ++ ofT (catW l) := by rw [ofT_append]; rfl
    have hl : 0 < (printW w).length := List.length_pos_iff.2 h1
    have hn := h4 p (ofT (catW l))
    rw [allN, e, ← ByteArray.append_assoc, if_neg (by rw [size_mid]; omega), hn]
    simp only
    rw [if_neg (by decide)]
    have hz : p.size + (printW w).length = (p ++ ofT (printW w)).size := by rw [ByteArray.size_append, size_ofT]
    show allN _ k (p.size + (printW w).length) _ = _
    rw [hz, allN_back l (p ++ ofT (printW w)) k _ (fun x hx => hok x (List.mem_cons_of_mem _ hx)) (by simp at hk; omega)]
    simp only [layW, List.append_assoc, List.cons_append, List.nil_append]
    rw [← hz]
/-- All words of a text lie side by side, and are words. -/
def SideW : Nat → Nat → List WN → Prop
  | a, e, [] => a = e
  | a, e, w :: l => w.pos = a ∧ a < w.fin ∧ OkW w ∧ SideW w.fin e l
theorem side_snoc (w : WN) : ∀ (l : List WN) (a e : Nat), SideW a e l → w.pos = e → e < w.fin → OkW w → SideW a w.fin (l ++ [w])
  | [], a, e, h, h1, h2, h3 => by
    have h' : a = e := h
    subst h'
    exact ⟨h1, h2, h3, rfl⟩
  | x :: l, a, e, h, h1, h2, h3 => ⟨h.1, h.2.1, h.2.2.1, side_snoc w l _ _ h.2.2.2 h1 h2 h3⟩
theorem allN_side (s : ByteArray) : ∀ k a acc, a ≤ s.size → s.size < k + a → SideW 0 a acc → ((allN s k a acc).2.1 = 0 ∧ (allN s k a acc).2.2 = 0 ∧ SideW 0 s.size (allN s k a acc).1) ∨ ((allN s k a acc).2.1 ≠ 0 ∧ (allN s k a acc).1 = [])
  | 0, a, acc, ha, hk, _ => by omega
  | k + 1, a, acc, ha, hk, hs => by
    rw [allN]
    by_cases h : s.size ≤ a
    · rw [if_pos h]
      obtain rfl : a = s.size := by omega
      exact .inl ⟨rfl, rfl, hs⟩
    · rw [if_neg h]
      have hE := nextA_end s a (by omega)
      generalize nextA s a = X at *
      obtain ⟨w, e, p⟩ := X
      simp only
      rcases hE with ⟨h1, h2, h3, h4, h5, h6⟩ | ⟨h1, _⟩
      · rw [if_neg (by simp only at h1; omega)]
        exact allN_side s k w.fin _ h6 (by simp only at h5; omega) (side_snoc w acc 0 a hs h4 h5 h3)
      · simp only at h1
        rw [if_pos h1]
        exact .inr ⟨h1, rfl⟩
end Go.Proofs.YthodphgbdmnpoaaGreatDoor

/- The document's sets, by the reference's own calls: Next, All, Runs. -/
namespace Go.Proofs.YthodphgbdmnpoaaGreatDoor
open Go.RowKit BS

theorem rhasN' (a : BitVec 256) (x : Nat) (w : World) (hx : x < 256) : Calls Tryz.prog 58 #[setV a, .int .i64 x] w fun e w' => e = .returned (.bool (a.getLsbD x)) ∧ Below w.heap.size w w' := by
  have h := rhas_calls a x w (by omega) (by omega)
  rw [Int.toNat_natCast] at h; exact h

theorem row_below {W W' : World} {base : Nat} {e : TypeId} {size : Nat} {v : Value} {n : Nat} {xs : List Value} (h : W.ownsRow base e size v n xs) (hb : Below W.heap.size W W') : W'.ownsRow base e size v n xs := by
  refine h.kept (row := none) ⟨hb.os, hb.tape, hb.output, hb.size, fun k hk _ => hb.block k hk⟩ ?_
  by_cases hv : v.ownBlock = none
  · exact .inl hv
  · exact .inr hv

theorem info1b : (Tryz.prog.info? 5).map (fun i => (i.zero, i.size, i.bytes)) = some (some (.int .u8 0), 1, 1) := by kernel_rfl
theorem Blk.news1 {W : World} {B : Nat} {a : Value} {t : TypeId} (h : Blk W B #[a] t) : ∀ j u, [a][j]? = some u → W.cell? ((⟨B, 0, none⟩ : Addr).add j) = some u := by
  intro j u hu
  rw [Addr.add_mid, Nat.zero_add, h.cell j]
  simpa using hu
def byteCells (l : List Nat) : List Value := l.map fun (x : Nat) => Value.int .u8 (x : Int)
theorem byteCells_snoc (l : List Nat) (x : Nat) : byteCells (l ++ [x]) = byteCells l ++ [.int .u8 (x : Int)] := by simp [byteCells]

end Go.Proofs.YthodphgbdmnpoaaGreatDoor

/- The document's words: All. -/
namespace Go.Proofs.YthodphgbdmnpoaaGreatDoor
open Go.RowKit BS

theorem info9w : (Tryz.prog.info? 37).map (fun i => (i.zero, i.size, i.bytes)) = some (some (.agg #[.int .i64 0, .int .i64 0, .int .i64 0, .int .u64 0, .int .u64 0, .int .u64 0, .int .u64 0, .int .i64 0, .int .i64 0]), 9, 72) := by kernel_rfl
def woCells (l : List WN) : List Value := l.flatMap fun w => (woA w).toList
theorem woCells_snoc (l : List WN) (w : WN) : woCells (l ++ [w]) = woCells l ++ (woA w).toList := by simp [woCells]
theorem woA_len (w : WN) : (woA w).toList.length = 9 := rfl
theorem woCells_len (l : List WN) : (woCells l).length = l.length * 9 := by
  induction l with
  | nil => rfl
  | cons w l ih => rw [woCells, List.flatMap_cons, List.length_append, woA_len]; unfold woCells at ih; rw [ih]; simp; omega
theorem woCells_get (l : List WN) (i j : Nat) (h : i < l.length) (hj : j < 9) : (woCells l)[i * 9 + j]? = (woA l[i])[j]? := by
  induction l generalizing i with
  | nil => simp at h
  | cons w l ih =>
    rw [woCells, List.flatMap_cons]
    cases i with
    | zero =>
      rw [List.getElem?_append_left (by rw [woA_len]; omega)]
      simp
    | succ i =>
      rw [List.getElem?_append_right (by rw [woA_len]; omega), woA_len, show (i + 1) * 9 + j - 9 = i * 9 + j by omega]
      have := ih i (by simpa using h)
      unfold woCells at this
      rw [this]
      rfl
set_option maxRecDepth 100000 in
set_option maxHeartbeats 8000000 in
theorem rAllW_calls (s : ByteArray) (hs : s.size ≤ 1000000) (w : World) :
    Calls Tryz.prog 6 #[.string s] w fun e w' => ∃ v, e = .returned (.tuple #[v, .int .i64 (wordsN s).2.1, .int .i64 (wordsN s).2.2]) ∧ w'.ownsRow w.heap.size 37 9 v (wordsN s).1.length (woCells (wordsN s).1) ∧ Below w.heap.size w w' := by
  obtain ⟨i0, hi, hz0, hz1, hz2⟩ := info_parts info9w
  have hg : allN s (s.size + 1) 0 [] = wordsN s := rfl
  generalize wordsN s = R at *
  have HG := Lib.hid hg
  clear hg
  go_enter Tryz.func6, Tryz.ntmps6
  go_wp2_with fail
  go_loopw [5, 6] (fun v i wr => ∃ (k a : Nat) (l : List WN), a ≤ s.size ∧ l.length ≤ a ∧ s.size < k + a ∧ i = .int .i64 a ∧ allN s k a l = R ∧ wr.ownsRow w.heap.size 37 9 v l.length (woCells l) ∧ Below w.heap.size w wr) (fun _ i _ => s.size - (intOf i).toNat)
  case atStart => exact ⟨s.size + 1, 0, [], Nat.zero_le _, Nat.le_refl _, by omega, rfl, HG.out, World.ownsRow_nil _ _ _ _, Below.refl _ _⟩
  case round =>
    clear HG
    obtain ⟨k, a, l, ha, hl, hk, rfl, hres, hr, hB⟩ := hrel
    obtain ⟨k, rfl⟩ : ∃ m, k = m + 1 := ⟨k - 1, by omega⟩
    by_cases hlt : a < s.size
    · have hE := nextA_end s a hlt
      have hN := rNext_calls s hs a
      have hn : nextN s a = nextA s a := by unfold nextN; rw [if_neg (by omega)]; rfl
      rw [hn] at hN
      clear hn
      have hmore := allN_more s k a l
      have hstop := allN_stop s k a l
      generalize hX : nextA s a = X at *
      obtain ⟨x, e, p⟩ := X
      obtain ⟨xk, xa, xf, xs, xn, xm⟩ := x
      have HN : Hid (∀ w, Calls Tryz.prog 12 #[.string s, .int .i64 a] w fun en w' => en = .returned (.tuple #[.agg (woI xk xa xf xs xn xm), .int .i64 e, .int .i64 p]) ∧ Below w.heap.size w w') := Lib.hid hN
      clear hN
      rcases hE with ⟨h1, h2, h3, h4, h5, h6⟩ | ⟨h1, _⟩
      · simp only at h1 h2 h4 h5 h6
        subst h1
        subst h2
        replace h4 := h4.symm
        subst h4
        rw [hmore _ hlt rfl] at hres
        have HRES := Lib.hid hres
        have HB := Lib.hid hB
        clear hres hmore hstop h3 hX hB
        have hla : l.length ≤ 1000000 := by omega
        go_wp2_with fail
        refine (HN.out _).mono ?_
        rintro en w2 ⟨rfl, hb2⟩
        have hr2 := row_below hr hb2
        have hB2 := HB.out.trans (hb2.mono HB.out.size)
        clear hr hb2 HB HN
        go_upto_region 5 with fail
        have BA := Blk.new w2 (woI xk a xf xs xn xm) 37
        have hr3 := hr2.alloc (.cells (woI xk a xf xs xn xm) 37)
        have hB3 := hB2.alloc hB2.size (.cells (woI xk a xf xs xn xm) 37)
        have hgA : w.heap.size ≤ w2.heap.size := hB2.size
        have hneA := fun k e => Nat.ne_of_lt (hr2.lt k e).2
        clear hr2 hB2
        have e0 : w2.alloc (.cells #[.int .i64 xk, .int .i64 a, .int .i64 xf, .int .u64 (wd xs 0), .int .u64 (wd xs 1), .int .u64 (wd xs 2), .int .u64 (wd xs 3), .int .i64 xn, .int .i64 xm] 37) = w2.alloc (.cells (woI xk a xf xs xn xm) 37) := rfl
        try rw [e0]
        clear e0
        generalize w2.alloc (.cells (woI xk a xf xs xn xm) 37) = w3 at *
        generalize w2.heap.size = gA at *
        have c0 := BA.cell 0; have c1 := BA.cell 1; have c2 := BA.cell 2; have c3 := BA.cell 3; have c4 := BA.cell 4; have c5 := BA.cell 5; have c6 := BA.cell 6; have c7 := BA.cell 7; have c8 := BA.cell 8
        simp only [List.getElem?_toArray, List.getElem?_cons_zero, List.getElem?_cons_succ] at c0 c1 c2 c3 c4 c5 c6 c7 c8
        have HBA := Lib.hid BA
        clear BA
        go_wp2_with (at_builtin
                     go_loud (refine wpList_append_own _ rfl _ _ 33 rfl w.heap.size 37 i0 (.agg #[.int .i64 0, .int .i64 0, .int .i64 0, .int .u64 0, .int .u64 0, .int .u64 0, .int .u64 0, .int .i64 0, .int .i64 0]) 9 72 Tryz.underlying33 hi hz0 hz1 hz2 rfl (by decide) _ _ _ rfl (hr3.alloc _) ⟨w3.heap.size, 0, none⟩ 1 1 (woI xk a xf xs xn xm).toList rfl rfl (Blk.new w3 _ _).newsL (by simp [Value.oneCell']) (by unfold maxLen; omega) (by omega) (by have := hB3.size; simp; omega) ?_)
                     intro v' w4 hown' hgrow _
                     have HO := Lib.hid hown'
                     have hBA4 := (HBA.out.alloc _).kept hgrow (fun e => hneA _ e.symm rfl)
                     have hB4 := (hB3.alloc hB3.size _).grown hgrow (by have := hB3.size; simp; omega) (fun b hb => (hr3.lt b hb).1)
                     clear hown' hr3 hB3 hgrow c0 c1 c2 c3 c4 c5 c6 c7 c8
                     have c2 := hBA4.cell 2
                     simp only [List.getElem?_toArray, List.getElem?_cons_zero, List.getElem?_cons_succ] at c2)
        skip
        go_roundw
        case rel => exact ⟨k, xf, l ++ [⟨xk, a, xf, xs, xn, xm⟩], h6, by simp; omega, by omega, rfl, HRES.out, by rw [woCells_snoc, List.length_append]; exact HO.out, hB4⟩
        case measure => simp [intOf]; omega
      · simp only at h1
        rw [hstop _ _ _ hlt rfl h1] at hres
        have qe : ((e : Int) != 0) = true := by rw [bne_iff_ne]; omega
        have HB := Lib.hid hB
        subst hres
        clear hmore hstop hX hB hr h1
        go_wp2_with fail
        refine (HN.out _).mono ?_
        rintro en w2 ⟨rfl, hb2⟩
        have hB2 := (HB.out.trans (hb2.mono HB.out.size))
        clear hb2 HB HN
        go_wp2_with fail
        exact bodyPost_ret (v := .tuple #[.slice none 0 0, .int .i64 e, .int .i64 p]) (by simp [results, Tryz.results6, go_sem]) rfl ⟨_, rfl, World.ownsRow_nil _ _ _ _, hB2.alloc hB2.size _⟩
    · obtain rfl : a = s.size := by omega
      rw [allN_end] at hres
      subst hres
      go_wp2_with fail
      exact bodyPost_ret (v := .tuple #[_, .int .i64 0, .int .i64 0]) (by simp [results, Tryz.results6, go_sem] <;> rfl) rfl ⟨_, rfl, hr, hB⟩
end Go.Proofs.YthodphgbdmnpoaaGreatDoor

/- The developers' trees: treeOf. -/
namespace Go.Proofs.YthodphgbdmnpoaaGreatDoor
open Go.RowKit BS

@[reducible] def trC (a : Option Addr) (n cap : Nat) (b : Option Addr) (m c : Nat) : Array Value := #[.slice a n cap, .slice b m c]
/-- What treeOf answers. -/
def TreeQ (l : List NdN) (a : Option Addr) (cap : Nat) (w : World) (e : Ending) (w' : World) : Prop :=
  Below w.heap.size w w' ∧ ((manyF 0 (l.map NdN.kids) ≠ some 1 ∧ e = .returned (.tuple #[.agg (trC none 0 0 none 0 0), .bool false])) ∨
    (manyF 0 (l.map NdN.kids) = some 1 ∧ ∃ b, e = .returned (.tuple #[.agg (trC a l.length cap (some ⟨b, 0, none⟩) l.length l.length), .bool true]) ∧ IntsB w.heap.size (sizesR l) (some ⟨b, 0, none⟩) w'))
theorem infoTr : (Tryz.prog.info? 54).map (·.size) = some 2 := by kernel_rfl
theorem kids_pos (l : List NdN) (h : ∀ j (h : j < l.length), 0 ≤ l[j].kids) : ∀ k ∈ l.map NdN.kids, 0 ≤ k := fun k hk => by
  obtain ⟨x, hx, rfl⟩ := List.mem_map.1 hk
  obtain ⟨j, hj, rfl⟩ := List.getElem_of_mem hx
  exact h j hj
/-- A list is a tree just if the last node's size is that of all. -/
theorem formed_last (l : List NdN) (st : List Nat) (hk : ∀ j (h : j < l.length), 0 ≤ l[j].kids) (hs : stackF [] (ksN l) = some st) (hn : 0 < l.length) (h' : l.length - 1 < (sizesF [] (ksN l)).length) :
    manyF 0 (l.map NdN.kids) = some 1 ↔ (sizesF [] (ksN l))[l.length - 1] = l.length := by
  have hkl : (ksN l).length = l.length := by simp [ksN]
  have hsum := stackF_sum _ _ _ hs
  have hpos := stackF_pos (ksN l) [] st (by simp) hs
  have hr := roots_all (ksN l) [] [] st (by simp) (by intro j hj; simp at hj) hs
  rw [List.nil_append] at hr
  rw [List.sum_nil, Nat.zero_add, hkl] at hsum
  have hl : (sizesF [] (ksN l)).length = l.length := by rw [sizesF_len, hkl]
  rw [formed_iff, List.length_map, show (l.map NdN.kids).map Int.toNat = ksN l from rfl, hs]
  cases st with
  | nil => simp at hsum; omega
  | cons x st =>
    obtain ⟨_, h2⟩ := hr 0 (by simp)
    rw [List.take_zero, List.sum_nil, Nat.sub_zero, hl, List.getElem?_eq_getElem h', List.getElem_cons_zero] at h2
    rw [Option.some.inj h2]
    constructor
    · rintro ⟨_, h⟩
      cases h; rfl
    · rintro rfl
      refine ⟨kids_pos l hk, ?_⟩
      rw [List.sum_cons] at hsum
      cases st with
      | nil => rfl
      | cons y st =>
        have := hpos y (by simp)
        rw [List.sum_cons] at hsum
        omega

theorem Blk.rowOther {W : World} {B B' : Nat} {vs : Array Value} {t : TypeId} (h : Blk W B vs t) (hne : B ≠ B') (cs : Array Value) : Blk (W.setRow B' cs) B vs t := by
  show (W.heap.modify B' _)[B]? = _
  rw [Array.getElem?_modify, if_neg (fun h => hne h.symm)]
  exact h
set_option maxRecDepth 100000 in
set_option maxHeartbeats 16000000 in
theorem treeOf_calls (l : List NdN) (hl : l.length ≤ 1000000) (a : Option Addr) (cap : Nat) (w : World) (h : NodesAt l a w) :
    Calls Tryz.prog 13 #[.slice a l.length cap] w (TreeQ l a cap w) := by
  have HN := Lib.hid h
  have hkl : (ksN l).length = l.length := by simp [ksN]
  have hsl : (sizesF [] (ksN l)).length = l.length := by rw [sizesF_len, hkl]
  have hmk := fun W => run_make_row' (P := Tryz.prog) 52 3 (.int .i64 0) 8 Tryz.underlying52 (by kernel_rfl) rfl .i64 .i64 l.length (by omega) (by omega) W
  have hmz : (madeCells #[Value.int .i64 0] l.length).size = l.length := by simp [madeCells]
  generalize madeCells #[Value.int .i64 0] l.length = vs0 at *
  have HFL := Lib.hid (formed_last l)
  have HRO := Lib.hid (roots_at (ksN l))
  have HPO := Lib.hid (fun i s (hs : stackF [] ((ksN l).take i) = some s) => stackF_pos ((ksN l).take i) [] s (by simp) hs)
  have HFI := Lib.hid (fun hf : manyF 0 (l.map NdN.kids) = some 1 => (formed_iff (l.map NdN.kids)).1 hf)
  generalize hsz : sizesF [] (ksN l) = sz at *
  have HSZ := Lib.hid hsz
  have HKL := Lib.hid hkl
  clear hsz hkl h
  go_enter Tryz.func13, Tryz.ntmps13
  go_wp2_with fail
  clear hmk
  have hR : Blk (((w.alloc (.cells #[.slice none 0 0, .slice none 0 0] 54)).alloc (.cells vs0 3)).alloc (.cells #[.slice a l.length cap, .slice (some ⟨w.heap.size + 1, 0, none⟩) l.length l.length] 54)) w.heap.size (trC none 0 0 none 0 0) 54 := ((Blk.new w _ _).alloc _).alloc _
  have hS : Blk (((w.alloc (.cells #[.slice none 0 0, .slice none 0 0] 54)).alloc (.cells vs0 3)).alloc (.cells #[.slice a l.length cap, .slice (some ⟨w.heap.size + 1, 0, none⟩) l.length l.length] 54)) (w.heap.size + 1) vs0 3 := by
    have := (Blk.new (w.alloc (.cells #[.slice none 0 0, .slice none 0 0] 54)) vs0 3).alloc (.cells #[.slice a l.length cap, .slice (some ⟨w.heap.size + 1, 0, none⟩) l.length l.length] 54)
    simpa using this
  have hT : Blk (((w.alloc (.cells #[.slice none 0 0, .slice none 0 0] 54)).alloc (.cells vs0 3)).alloc (.cells #[.slice a l.length cap, .slice (some ⟨w.heap.size + 1, 0, none⟩) l.length l.length] 54)) (w.heap.size + 1 + 1) (trC a l.length cap (some ⟨w.heap.size + 1, 0, none⟩) l.length l.length) 54 := by
    have := Blk.new ((w.alloc (.cells #[.slice none 0 0, .slice none 0 0] 54)).alloc (.cells vs0 3)) #[.slice a l.length cap, .slice (some ⟨w.heap.size + 1, 0, none⟩) l.length l.length] 54
    simpa using this
  have hB : Below w.heap.size w (((w.alloc (.cells #[.slice none 0 0, .slice none 0 0] 54)).alloc (.cells vs0 3)).alloc (.cells #[.slice a l.length cap, .slice (some ⟨w.heap.size + 1, 0, none⟩) l.length l.length] 54)) := by go_grown
  generalize (((w.alloc (.cells #[.slice none 0 0, .slice none 0 0] 54)).alloc (.cells vs0 3)).alloc (.cells #[.slice a l.length cap, .slice (some ⟨w.heap.size + 1, 0, none⟩) l.length l.length] 54)) = w3 at *
  go_loopw [15] (fun x wr => ∃ i : Nat, i ≤ l.length ∧ x = .int .i64 i ∧ (∃ st, stackF [] ((ksN l).take i) = some st) ∧ (∀ j (h : j < l.length), j < i → 0 ≤ l[j].kids) ∧ (∃ vs : Array Value, vs.size = l.length ∧ (∀ j (h : j < sz.length), j < i → vs[j]? = some (.int .i64 (sz[j] : Int))) ∧ Blk wr (w.heap.size + 1) vs 3) ∧ Blk wr w.heap.size (trC none 0 0 none 0 0) 54 ∧ Blk wr (w.heap.size + 1 + 1) (trC a l.length cap (some ⟨w.heap.size + 1, 0, none⟩) l.length l.length) 54 ∧ Below w.heap.size w wr) (fun x _ => l.length - (intOf x).toNat)
  case atStart => exact ⟨0, Nat.zero_le _, rfl, ⟨[], rfl⟩, fun j _ hj => by omega, ⟨vs0, hmz, fun j _ hj => by omega, hS⟩, hR, hT, hB⟩
  case round =>
    clear hR hS hT hB hmz
    obtain ⟨i, hi, rfl, ⟨s, hs⟩, hk0, ⟨vs, hvs, hno, hS⟩, hR, hT, hB⟩ := hrel
    by_cases hlt : i < l.length
    · have hne : l ≠ [] := by rintro rfl; simp at hlt
      have hlk : i < (ksN l).length := by rw [HKL.out]; exact hlt
      obtain ⟨g, off, rfl, hg, hc⟩ := HN.out hne
      have hd : decide ((i : Int) < (l.length : Int)) = true := by rw [decide_eq_true_iff]; omega
      have hd2 : decide (i < l.length) = true := by rw [decide_eq_true_iff]; omega
      have hcell := fun (j : Nat) (hj : j < 8) => (hB.cell (p := ⟨g, off + i * 8 + j, none⟩) hg).trans (hc i hlt j hj)
      have d0 := hcell 0 (by decide); have d1 := hcell 1 (by decide); have d2 := hcell 2 (by decide); have d3 := hcell 3 (by decide); have d4 := hcell 4 (by decide); have d5 := hcell 5 (by decide); have d6 := hcell 6 (by decide); have d7 := hcell 7 (by decide)
      simp only [ndA, List.getElem?_toArray, List.getElem?_cons_zero, List.getElem?_cons_succ, Nat.add_zero] at d0 d1 d2 d3 d4 d5 d6 d7
      have hkk : (ksN l)[i] = l[i].kids.toNat := by simp [ksN]
      have HSUM := Lib.hid (show s.sum = i by
        have := stackF_sum _ _ _ hs
        rw [List.sum_nil, Nat.zero_add, List.length_take] at this
        omega)
      have HS0 := Lib.hid hs
      obtain ⟨hr, ht, hsi⟩ := HRO.out i hlk s hs
      have hps := HPO.out i s hs
      have hNF : ¬ (0 ≤ l[i].kids) → manyF 0 (l.map NdN.kids) ≠ some 1 := fun h hf => h ((HFI.out hf).1 _ (List.mem_map_of_mem (List.getElem_mem hlt)))
      have hNS : s.length < (ksN l)[i] → manyF 0 (l.map NdN.kids) ≠ some 1 := fun h hf => by
        obtain ⟨s2, hs2, h2, _⟩ := stack_at (ksN l) [] _ (HFI.out hf).2 i hlk
        rw [hs] at hs2; cases hs2; omega
      have hnx : (ksN l)[i] ≤ s.length → stackF [] ((ksN l).take (i + 1)) = some (stepF s (ksN l)[i]) := fun h => by
        rw [List.take_add_one, List.getElem?_eq_getElem hlk]
        show stackF [] ((ksN l).take i ++ [(ksN l)[i]]) = _
        rw [stackF_snoc, hs]
        show (if (ksN l)[i] ≤ s.length then some (stepF s (ksN l)[i]) else none) = _
        rw [if_pos h]
      rw [hkk] at hNS hnx hsi
      have HK0 := Lib.hid hk0
      have HNO := Lib.hid hno
      have HRT := Lib.hid hr
      have HTT := Lib.hid ht
      have HSI := Lib.hid hsi
      have HNF := Lib.hid hNF
      have HNS := Lib.hid hNS
      have HNX := Lib.hid hnx
      have HPS := Lib.hid hps
      have HLI := Lib.hid (show l[i].kids = l[i].kids from rfl)
      conv at HLI => arg 1; lhs; rw [show l[i].kids = l[i].kids from rfl]
      clear hk0 hno hr ht hsi hNF hNS hnx hps hcell hc hne hkk hs hlk
      generalize hkc : l[i].kids = kc at *
      have HKC := Lib.hid hkc
      clear hkc HLI
      generalize l[i].kind = k at *
      generalize l[i].n = kn at *
      generalize l[i].m = km at *
      generalize l[i].set = kt at *
      have hN := Blk.new wr (ndI k kc kn km kt) 32
      have HR := Lib.hid (hR.alloc (.cells (ndI k kc kn km kt) 32))
      have hT2 := hT.alloc (.cells (ndI k kc kn km kt) 32)
      have hS2 := hS.alloc (.cells (ndI k kc kn km kt) 32)
      have HB := Lib.hid (hB.alloc hB.size (.cells (ndI k kc kn km kt) 32))
      clear hR hT hS hB
      go_upto_region 5 with fail
      clear d0 d1 d2 d3 d4 d5 d6 d7
      generalize wr.alloc (.cells (ndI k kc kn km kt) 32) = wn at *
      have c1 := hN.cell 1
      simp only [List.getElem?_toArray, List.getElem?_cons_zero, List.getElem?_cons_succ] at c1
      by_cases h0 : kc < 0
      · have q0 : decide (kc < 0) = true := decide_eq_true h0
        have HW := Lib.hid (HNF.out (by omega))
        clear h0
        have f0 := HR.out.frozen 0; have f1 := HR.out.frozen 1; have r0 := HR.out.cell 0; have r1 := HR.out.cell 1
        simp only [List.getElem?_toArray, List.getElem?_cons_zero, List.getElem?_cons_succ] at r0 r1
        go_wp2_with fail
        have hRS := (HR.out.set 0 (.slice none 0 0)).set 1 (.slice none 0 0)
        have e0 : ((wn.setCell ⟨w.heap.size, 0, none⟩ (.slice none 0 0)).setCell ⟨w.heap.size, 1, none⟩ (.slice none 0 0)).cell? ⟨w.heap.size, 0, none⟩ = some (.slice none 0 0) := (hRS.cell 0).trans rfl
        have e1 : ((wn.setCell ⟨w.heap.size, 0, none⟩ (.slice none 0 0)).setCell ⟨w.heap.size, 1, none⟩ (.slice none 0 0)).cell? ⟨w.heap.size, 1, none⟩ = some (.slice none 0 0) := (hRS.cell 1).trans rfl
        refine bodyPost_ret (v := .tuple #[.agg #[.slice none 0 0, .slice none 0 0], .bool false]) ?_ (by rfl) ?_
        · simp [results, Tryz.results13, go_sem, e0, e1]
        · exact ⟨below_set (below_set HB.out (Nat.le_refl _) 0 _) (Nat.le_refl _) 1 _, .inl ⟨HW.out, rfl⟩⟩
      have q0 : decide (kc < 0) = false := decide_eq_false h0
      obtain ⟨K, rfl⟩ : ∃ K : Nat, kc = K := ⟨kc.toNat, by omega⟩
      rw [Int.toNat_natCast] at HSI HNS HNX
      have HTB := Lib.hid hT2
      have HSB := Lib.hid hS2
      have t1 := hT2.cell 1
      simp only [List.getElem?_toArray, List.getElem?_cons_zero, List.getElem?_cons_succ] at t1
      clear h0 hT2 hS2 hN
      have hls : s.length ≤ i := by have := len_le_sum s HPS.out; have := HSUM.out; omega
      go_upto_region 9 with fail
      go_loop [7, 27] (fun ve vk => ∃ k : Nat, k ≤ K ∧ k ≤ s.length ∧ ve = .int .i64 ((i : Int) - ((s.take k).sum : Nat)) ∧ vk = .int .i64 k) (fun _ vk => K - (intOf vk).toNat)
      case atStart => exact ⟨0, Nat.zero_le _, Nat.zero_le _, by simp, rfl⟩
      case round =>
        obtain ⟨k, hk, hks, rfl, rfl⟩ := hrel
        have hle := take_sum_le s k
        have hsum := HSUM.out
        by_cases hkl : k < K
        · have hq : decide ((k : Int) < (K : Int)) = true := by rw [decide_eq_true_iff]; omega
          have hq2 : decide (k < K) = true := by rw [decide_eq_true_iff]; omega
          by_cases hE : (s.take k).sum = i
          · have qe : ((i : Int) - ((s.take k).sum : Nat) == 0) = true := by rw [beq_iff_eq]; omega
            have HW := Lib.hid (HNS.out (by
              rcases Nat.lt_or_ge k s.length with h | h
              · have h1 := take_sum s k h
                have h2 := take_sum_le s (k + 1)
                have h3 := HPS.out s[k] (List.getElem_mem h)
                omega
              · omega))
            clear hle hE hsum
            generalize (s.take k).sum = S at *
            have f0 := HR.out.frozen 0; have f1 := HR.out.frozen 1; have r0 := HR.out.cell 0; have r1 := HR.out.cell 1
            simp only [List.getElem?_toArray, List.getElem?_cons_zero, List.getElem?_cons_succ] at r0 r1
            go_wp2_with fail
            have hRS := (HR.out.set 0 (.slice none 0 0)).set 1 (.slice none 0 0)
            have e0 : ((wn.setCell ⟨w.heap.size, 0, none⟩ (.slice none 0 0)).setCell ⟨w.heap.size, 1, none⟩ (.slice none 0 0)).cell? ⟨w.heap.size, 0, none⟩ = some (.slice none 0 0) := (hRS.cell 0).trans rfl
            have e1 : ((wn.setCell ⟨w.heap.size, 0, none⟩ (.slice none 0 0)).setCell ⟨w.heap.size, 1, none⟩ (.slice none 0 0)).cell? ⟨w.heap.size, 1, none⟩ = some (.slice none 0 0) := (hRS.cell 1).trans rfl
            refine bodyPost_ret (v := .tuple #[.agg #[.slice none 0 0, .slice none 0 0], .bool false]) ?_ (by rfl) ?_
            · simp [results, Tryz.results13, go_sem, e0, e1]
            · exact ⟨below_set (below_set HB.out (Nat.le_refl _) 0 _) (Nat.le_refl _) 1 _, .inl ⟨HW.out, rfl⟩⟩
          · have hks2 : k < s.length := by
              rcases Nat.lt_or_ge k s.length with h | h
              · exact h
              · rw [List.take_of_length_le h] at hE; omega
            obtain ⟨h1, h2⟩ := HRT.out k hks2
            have htl : (sizesF [] ((ksN l).take i)).length = i := by rw [sizesF_len, List.length_take, HKL.out]; omega
            rw [htl] at h1 h2
            rw [← HTT.out] at h2
            have hts := take_sum s k hks2
            have hle2 := take_sum_le s (k + 1)
            generalize hS : (s.take k).sum = S at *
            generalize hS1 : (s.take (k + 1)).sum = S1 at *
            generalize s[k] = z at *
            have hpz : (i - 1 - S) < sz.length := by omega
            have hz : sz[i - 1 - S] = z := by
              rw [List.getElem?_take, if_pos (by omega), List.getElem?_eq_getElem hpz] at h2
              exact Option.some.inj h2
            have cp := (HSB.out.cell (i - 1 - S)).trans (HNO.out (i - 1 - S) hpz (by omega))
            rw [hz] at cp
            have hat : (i : Int) - (S : Int) = ((i - S : Nat) : Int) := by omega
            have qe : (((i - S : Nat) : Int) == 0) = false := by rw [beq_eq_false_iff_ne]; omega
            have xm : IntKind.i64.wrap (((i - S : Nat) : Int) - 1) = ((i - 1 - S : Nat) : Int) := by rw [show ((i - S : Nat) : Int) - 1 = ((i - 1 - S : Nat) : Int) by omega]; exact IntWalk.i64_in _ (by omega)
            have xz : IntKind.i64.wrap (((i - S : Nat) : Int) - (z : Int)) = ((i - S1 : Nat) : Int) := by rw [show ((i - S : Nat) : Int) - (z : Int) = ((i - S1 : Nat) : Int) by omega]; exact IntWalk.i64_in _ (by omega)
            have xk : IntKind.i64.wrap ((k : Int) + 1) = (k : Int) + 1 := IntWalk.i64_in _ (by omega)
            have hpn : i - 1 - S < l.length := by omega
            have HS1 := Lib.hid (show S1 ≤ i by omega)
            have HE1 := Lib.hid hS1
            have HK1 := Lib.hid (show k + 1 ≤ s.length from hks2)
            rw [hat]
            clear h1 h2 hz hpz hts hle2 hat hS hS1 hle hE htl hks2 hsum
            generalize hP : i - 1 - S = p at *
            generalize hE : i - S = e at *
            clear hP hE
            go_wp2_with fail
            go_round
            case rel => exact ⟨k + 1, by omega, HK1.out, by rw [HE1.out]; congr 1; have := HS1.out; omega, by simp⟩
            case measure => simp [intOf]; omega
        · obtain rfl : k = K := by omega
          have hq : decide ((k : Int) < (k : Int)) = false := by simp
          have hq2 : decide (k < k) = false := by simp
          have HNX2 := Lib.hid (HNX.out hks)
          generalize hS : (s.take k).sum = S at *
          have xa : IntKind.i64.wrap ((i : Int) - ((i : Int) - (S : Int))) = (S : Int) := by rw [show (i : Int) - ((i : Int) - (S : Int)) = (S : Int) by omega]; exact IntWalk.i64_in _ (by omega)
          have hxa : (i : Int) - ((i : Int) - (S : Int)) = (S : Int) := by omega
          have xb : IntKind.i64.wrap ((S : Int) + 1) = (S : Int) + 1 := IntWalk.i64_in _ (by omega)
          have xi : IntKind.i64.wrap ((i : Int) + 1) = (i : Int) + 1 := IntWalk.i64_in _ (by omega)
          obtain ⟨old, hold⟩ : ∃ old, vs[i]? = some old := ⟨vs[i]'(by omega), by simp [show i < vs.size by omega]⟩
          have hci := (HSB.out.cell i).trans hold
          have hfi := HSB.out.frozen i
          clear hold hS HNS HRT HNX
          go_wp2_with fail
          go_roundw
          case rel =>
            refine ⟨i + 1, by omega, by simp, ⟨_, HNX2.out⟩, fun j hj hji => ?_, ⟨vs.setIfInBounds i (.int .i64 ((S : Int) + 1)), by simp [hvs], fun j h hj => ?_, HSB.out.set i _⟩, HR.out.other (by omega) i _, HTB.out.other (by omega) i _, below_set HB.out (by omega) i _⟩
            · by_cases hje : j = i
              · subst hje; rw [HKC.out]; omega
              · exact HK0.out j hj (by omega)
            · by_cases hje : j = i
              · subst hje
                have e1 := HSI.out
                rw [List.getElem?_eq_getElem h] at e1
                rw [Option.some.inj e1]
                simp [hvs, hlt]
                omega
              · rw [Array.getElem?_setIfInBounds_ne (Ne.symm hje)]
                exact HNO.out j h (by omega)
          case measure => simp [intOf]; omega
    · obtain rfl : i = l.length := by omega
      have hd : decide ((l.length : Int) < (l.length : Int)) = false := by simp
      have hd2 : decide (l.length < l.length) = false := by simp
      rw [List.take_of_length_le (by rw [HKL.out]; exact Nat.le_refl _)] at hs
      have HR := Lib.hid hR
      have HB := Lib.hid hB
      have HSB := Lib.hid hS
      have HTB := Lib.hid hT
      have HNO := Lib.hid hno
      have t0 := hT.cell 0
      have t1 := hT.cell 1
      simp only [List.getElem?_toArray, List.getElem?_cons_zero, List.getElem?_cons_succ] at t0 t1
      clear hR hB hS hT hno
      by_cases hz : l.length = 0
      · have q : ((l.length : Int) == 0) = true := by rw [beq_iff_eq]; omega
        have HW : Hid (manyF 0 (l.map NdN.kids) ≠ some 1) := Lib.hid (by rw [List.length_eq_zero_iff.1 hz]; decide)
        clear hz hs
        have f0 := HR.out.frozen 0; have f1 := HR.out.frozen 1; have r0 := HR.out.cell 0; have r1 := HR.out.cell 1
        simp only [List.getElem?_toArray, List.getElem?_cons_zero, List.getElem?_cons_succ] at r0 r1
        go_wp2_with fail
        have hRS := (HR.out.set 0 (.slice none 0 0)).set 1 (.slice none 0 0)
        have e0 : ((wr.setCell ⟨w.heap.size, 0, none⟩ (.slice none 0 0)).setCell ⟨w.heap.size, 1, none⟩ (.slice none 0 0)).cell? ⟨w.heap.size, 0, none⟩ = some (.slice none 0 0) := (hRS.cell 0).trans rfl
        have e1 : ((wr.setCell ⟨w.heap.size, 0, none⟩ (.slice none 0 0)).setCell ⟨w.heap.size, 1, none⟩ (.slice none 0 0)).cell? ⟨w.heap.size, 1, none⟩ = some (.slice none 0 0) := (hRS.cell 1).trans rfl
        refine bodyPost_ret (v := .tuple #[.agg #[.slice none 0 0, .slice none 0 0], .bool false]) ?_ (by rfl) ?_
        · simp [results, Tryz.results13, go_sem, e0, e1]
        · exact ⟨below_set (below_set HB.out (Nat.le_refl _) 0 _) (Nat.le_refl _) 1 _, .inl ⟨HW.out, rfl⟩⟩
      · have q : ((l.length : Int) == 0) = false := by rw [beq_eq_false_iff_ne]; omega
        obtain ⟨z, hz1⟩ : ∃ z, sz[l.length - 1]'(by omega) = z := ⟨_, rfl⟩
        have hFL : manyF 0 (l.map NdN.kids) = some 1 ↔ z = l.length := hz1 ▸ HFL.out s (fun j hj => hk0 j hj hj) hs (by omega) (by omega)
        have cp : wr.cell? ⟨w.heap.size + 1, l.length - 1, none⟩ = some (.int .i64 (z : Int)) := hz1 ▸ (HSB.out.cell (l.length - 1)).trans (HNO.out (l.length - 1) (by omega) (by omega))
        have xm : IntKind.i64.wrap ((l.length : Int) - 1) = ((l.length - 1 : Nat) : Int) := by rw [show (l.length : Int) - 1 = ((l.length - 1 : Nat) : Int) by omega]; exact IntWalk.i64_in _ (by omega)
        have hpn : l.length - 1 < l.length := by omega
        clear HFL hz1
        generalize hP : l.length - 1 = p at *
        have hzn : ¬ l.length = 0 := hz
        by_cases hE : z = l.length
        · have qe : ((z : Int) != (l.length : Int)) = false := by rw [hE]; simp
          have qe2 : ((l.length : Int) != (l.length : Int)) = false := by simp
          have HW := Lib.hid (hFL.2 hE)
          clear hFL hE hP hs hk0 hz
          have f0 := HR.out.frozen 0; have f1 := HR.out.frozen 1; have r0 := HR.out.cell 0; have r1 := HR.out.cell 1
          simp only [List.getElem?_toArray, List.getElem?_cons_zero, List.getElem?_cons_succ] at r0 r1
          go_wp2_with fail
          have hRS := (HR.out.set 0 (.slice a l.length cap)).set 1 (.slice (some ⟨w.heap.size + 1, 0, none⟩) l.length l.length)
          have e0 : ((wr.setCell ⟨w.heap.size, 0, none⟩ (.slice a l.length cap)).setCell ⟨w.heap.size, 1, none⟩ (.slice (some ⟨w.heap.size + 1, 0, none⟩) l.length l.length)).cell? ⟨w.heap.size, 0, none⟩ = some (.slice a l.length cap) := (hRS.cell 0).trans rfl
          have e1 : ((wr.setCell ⟨w.heap.size, 0, none⟩ (.slice a l.length cap)).setCell ⟨w.heap.size, 1, none⟩ (.slice (some ⟨w.heap.size + 1, 0, none⟩) l.length l.length)).cell? ⟨w.heap.size, 1, none⟩ = some (.slice (some ⟨w.heap.size + 1, 0, none⟩) l.length l.length) := (hRS.cell 1).trans rfl
          refine bodyPost_ret (v := .tuple #[.agg #[.slice a l.length cap, .slice (some ⟨w.heap.size + 1, 0, none⟩) l.length l.length], .bool true]) ?_ (by rfl) ?_
          · simp [results, Tryz.results13, go_sem, e0, e1]
          · have hRl : sizesR l = sz.map (fun x : Nat => (x : Int)) := by unfold sizesR; rw [if_pos HW.out, HSZ.out]
            refine ⟨below_set (below_set HB.out (Nat.le_refl _) 0 _) (Nat.le_refl _) 1 _, .inr ⟨HW.out, w.heap.size + 1, rfl, fun _ => ⟨w.heap.size + 1, 0, rfl, by omega, by have := HSB.out.lt; simpa using this, fun j hj => ?_⟩⟩⟩
            have hjl : j < sz.length := by rw [hRl, List.length_map] at hj; exact hj
            have h1 := ((HSB.out.other (by omega : w.heap.size + 1 ≠ w.heap.size) 0 (.slice a l.length cap)).other (by omega : w.heap.size + 1 ≠ w.heap.size) 1 (.slice (some ⟨w.heap.size + 1, 0, none⟩) l.length l.length)).cell j
            rw [Nat.zero_add, h1, HNO.out j hjl (by omega)]
            simp only [hRl, List.getElem_map]
        · have qe : ((z : Int) != (l.length : Int)) = true := by rw [bne_iff_ne]; omega
          have HW := Lib.hid (fun h => hE (hFL.1 h))
          clear hFL hE hP hs hk0 hz
          have f0 := HR.out.frozen 0; have f1 := HR.out.frozen 1; have r0 := HR.out.cell 0; have r1 := HR.out.cell 1
          simp only [List.getElem?_toArray, List.getElem?_cons_zero, List.getElem?_cons_succ] at r0 r1
          go_wp2_with fail
          have hRS := (HR.out.set 0 (.slice none 0 0)).set 1 (.slice none 0 0)
          have e0 : ((wr.setCell ⟨w.heap.size, 0, none⟩ (.slice none 0 0)).setCell ⟨w.heap.size, 1, none⟩ (.slice none 0 0)).cell? ⟨w.heap.size, 0, none⟩ = some (.slice none 0 0) := (hRS.cell 0).trans rfl
          have e1 : ((wr.setCell ⟨w.heap.size, 0, none⟩ (.slice none 0 0)).setCell ⟨w.heap.size, 1, none⟩ (.slice none 0 0)).cell? ⟨w.heap.size, 1, none⟩ = some (.slice none 0 0) := (hRS.cell 1).trans rfl
          refine bodyPost_ret (v := .tuple #[.agg #[.slice none 0 0, .slice none 0 0], .bool false]) ?_ (by rfl) ?_
          · simp [results, Tryz.results13, go_sem, e0, e1]
          · exact ⟨below_set (below_set HB.out (Nat.le_refl _) 0 _) (Nat.le_refl _) 1 _, .inl ⟨HW.out, rfl⟩⟩
end Go.Proofs.YthodphgbdmnpoaaGreatDoor

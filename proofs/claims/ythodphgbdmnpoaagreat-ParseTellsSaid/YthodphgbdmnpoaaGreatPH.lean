/- Texts put together: Gr Ta Lt Gs. -/
import Derived.Test.YthodphgbdmnpoaaGreatPF
import Derived.Test.YthodphgbdmnpoaaGreatPD
import Derived.Laws.Rows
import Derived.Laws.Tables
import Derived.Test.YthodphgbdmnpoaaGreatPB
import Derived.Deep.DeepCutAuto
import Derived.Laws.ResultCell
/- The document's brackets: bad, special, add, name, thing, Read. -/
namespace Go.Proofs.YthodphgbdmnpoaaGreat
open Go.RowKit Go.Shelf BS

/-- A state's cells. -/
@[reducible] def stI (t : BitVec 256) (pos err place : Int) (fin neg : Bool) : Array Value := #[.int .u64 (wd t 0), .int .u64 (wd t 1), .int .u64 (wd t 2), .int .u64 (wd t 3), .int .i64 pos, .int .i64 err, .int .i64 place, .bool fin, .bool neg]
def stA (x : BR) : Array Value := stI x.set x.pos x.err x.place x.fin x.neg
theorem infoSt : (Tryz.prog.info? 82).map (·.size) = some 9 := by kernel_rfl
def zSt : BitVec 256 := 0

set_option maxRecDepth 100000 in
set_option maxHeartbeats 1000000 in
theorem bad_calls (e p : Int) (w : World) : Calls Tryz.prog 45 #[.int .i64 e, .int .i64 p] w fun en w' => en = .returned (.agg (stI 0 0 e p false false)) ∧ Below w.heap.size w w' := by
  go_enter Tryz.func45, Tryz.ntmps45
  go_wp2
  have hR := Blk.new w (stI 0 0 e p false false) 82
  have hB : Below w.heap.size w (w.alloc (.cells (stI 0 0 e p false false) 82)) := by go_grown
  exact bodyPost_ret (v := .agg (stI 0 0 e p false false)) (results_cell_row rfl _ _ w.heap.size 82 (stI 0 0 e p false false) (0, 0) _ rfl hR Tryz.underlying82 rfl infoSt) rfl ⟨rfl, hB⟩

set_option maxHeartbeats 1000000 in
theorem special_calls (b : Nat) (w : World) : Calls Tryz.prog 47 #[.int .u8 b] w fun e w' => e = .returned (.bool (spec3 b)) ∧ w = w' := by
  have e1 : ((b : Int) == 58) = (b == 58) := by rw [Bool.eq_iff_iff, beq_iff_eq, beq_iff_eq]; omega
  have e2 : ((b : Int) == 46) = (b == 46) := by rw [Bool.eq_iff_iff, beq_iff_eq, beq_iff_eq]; omega
  have e3 : ((b : Int) == 61) = (b == 61) := by rw [Bool.eq_iff_iff, beq_iff_eq, beq_iff_eq]; omega
  have HS := Lib.hid (show spec3 b = (b == 58 || b == 46 || b == 61) from rfl)
  generalize (b == 58) = x at *
  generalize (b == 46) = y at *
  generalize (b == 61) = z at *
  cases x <;> cases y <;>
  · go_enter Tryz.func47, Tryz.ntmps47
    go_wp2
    go_ret
    exact ⟨by rw [HS.out] <;> simp, rfl⟩

def SAd (w : World) (c : Array Value) (W : World) : Prop := (Blk W w.heap.size c 82 ∧ Blk W (w.heap.size + 1) (stI 0 0 0 0 false false) 82) ∧ Below w.heap.size w W
theorem keepAd {w W W' : World} {c : Array Value} (h : SAd w c W) (hb : Below W.heap.size W W') : SAd w c W' := ⟨⟨h.1.1.below hb h.1.1.lt, h.1.2.below hb h.1.2.lt⟩, h.2.trans (hb.mono h.2.size)⟩
theorem drewAd {w W : World} {c : Array Value} (h : SAd w c W) : SAd w c W.drew := ⟨⟨h.1.1, h.1.2⟩, h.2.drew⟩
theorem st_one (t : BitVec 256) (pos err place : Int) (fin neg : Bool) : ((stI t pos err place fin neg).all fun x => x.oneCell') = true := by simp [Value.oneCell']

set_option maxRecDepth 100000 in
set_option maxHeartbeats 4000000 in
theorem add_calls (t : BitVec 256) (pos err place : Int) (fin neg : Bool) (lo hi : Nat) (hlo : lo < 256) (hhi : hi < 256) (q : Int) (w : World) :
    Calls Tryz.prog 48 #[.agg (stI t pos err place fin neg), .int .i64 lo, .int .i64 hi, .int .i64 q] w fun e w' => e = .returned (.agg (stI (t ||| range lo hi) q err place fin neg)) ∧ Below w.heap.size w w' := by
  have h0 : SAd w (stI t pos err place fin neg) ((w.alloc (.cells (stI t pos err place fin neg) 82)).alloc (.cells (stI 0 0 0 0 false false) 82)) := by
    refine ⟨⟨(Blk.new w _ _).alloc _, ?_⟩, by go_grown⟩
    have := Blk.new (w.alloc (.cells (stI t pos err place fin neg) 82)) (stI 0 0 0 0 false false) 82
    rwa [World.size_alloc] at this
  generalize hr : t ||| range lo hi = r
  have hor : ∀ w', Calls Tryz.prog 49 #[setV t, setV (range lo hi), .int .i64 1] w' fun e w'' => e = .returned (setV r) ∧ Below w'.heap.size w' w'' := by rw [← hr]; exact ror_calls t (range lo hi)
  have HOR := Lib.hid hor
  clear hor
  clear hr
  generalize hg : range lo hi = rg at HOR
  have hrr : ∀ w', Calls Tryz.prog 32 #[.int .i64 lo, .int .i64 hi] w' fun e w'' => e = .returned (setV rg) ∧ Below w'.heap.size w' w'' := by rw [← hg]; exact fun w' => rrange_calls lo hi w' hlo hhi
  have HRR := Lib.hid hrr
  clear hrr hg
  go_enter Tryz.func48, Tryz.ntmps48
  go_wp2_with fail
  refine region_stepsM (S := SAd w (stI t pos err place fin neg)) (m := 7) rfl (by kernel_rfl) (drewAd h0) ?_
  simp only [List.size_toArray, List.length_cons, List.length_nil, Nat.reduceAdd, Array.replicate_succ, Array.replicate_zero, List.push_toArray, List.nil_append, List.cons_append]
  refine AnyM.next (m := 7) (i := 0) (d := some 9) (v := .pointer (some ⟨w.heap.size, 0, none⟩)) rfl rfl (by kernel_rfl) (by kernel_rfl) (by kernel_rfl) (by kernel_rfl) (StepsIf.yield (by kernel_rfl) (fun w' hS => by clear hS; go_simp)) ?_
  intro a' ha'
  simp only [Act.put, List.setIfInBounds_toArray, List.set_cons_zero, List.set_cons_succ] at ha'
  subst ha'
  refine AnyM.next (m := 7) (i := 1) (d := some 10) (v := setV t) rfl rfl (by kernel_rfl) (by kernel_rfl) (by kernel_rfl) (by kernel_rfl) (StepsIf.yield (by kernel_rfl) (fun w' hS => by have c0 := hS.1.1.cell 0; have c1 := hS.1.1.cell 1; have c2 := hS.1.1.cell 2; have c3 := hS.1.1.cell 3; simp only [List.getElem?_toArray, List.getElem?_cons_zero, List.getElem?_cons_succ] at c0 c1 c2 c3; clear hS; go_simp)) ?_
  intro a' ha'
  simp only [Act.put, List.setIfInBounds_toArray, List.set_cons_zero, List.set_cons_succ] at ha'
  subst ha'
  refine AnyM.next (m := 7) (i := 2) (d := some 11) (v := .int .i64 lo) rfl rfl (by kernel_rfl) (by kernel_rfl) (by kernel_rfl) (by kernel_rfl) (StepsIf.yield (by kernel_rfl) (fun w' hS => by clear hS; go_simp)) ?_
  intro a' ha'
  simp only [Act.put, List.setIfInBounds_toArray, List.set_cons_zero, List.set_cons_succ] at ha'
  subst ha'
  refine AnyM.next (m := 7) (i := 3) (d := some 12) (v := .int .i64 hi) rfl rfl (by kernel_rfl) (by kernel_rfl) (by kernel_rfl) (by kernel_rfl) (StepsIf.yield (by kernel_rfl) (fun w' hS => by clear hS; go_simp)) ?_
  intro a' ha'
  simp only [Act.put, List.setIfInBounds_toArray, List.set_cons_zero, List.set_cons_succ] at ha'
  subst ha'
  refine AnyM.next (m := 7) (i := 4) (d := some 13) (v := setV rg) rfl rfl (by kernel_rfl) (by kernel_rfl) (by kernel_rfl) (by kernel_rfl) (StepsIf.call (by kernel_rfl) (fun w' hS => by clear hS; go_simp) (fun w' hS => (HRR.out w').mono fun e w'' h => ⟨h.1, keepAd hS h.2⟩)) ?_
  intro a' ha'
  simp only [Act.put, List.setIfInBounds_toArray, List.set_cons_zero, List.set_cons_succ] at ha'
  subst ha'
  refine AnyM.next (m := 7) (i := 5) (d := some 14) (v := setV r) rfl rfl (by kernel_rfl) (by kernel_rfl) (by kernel_rfl) (by kernel_rfl) (StepsIf.call (by kernel_rfl) (fun w' hS => by clear hS; go_simp) (fun w' hS => (HOR.out w').mono fun e w'' h => ⟨h.1, keepAd hS h.2⟩)) ?_
  intro a' ha'
  simp only [Act.put, List.setIfInBounds_toArray, List.set_cons_zero, List.set_cons_succ] at ha'
  subst ha'
  refine AnyM.next (m := 7) (i := 6) (d := some 15) (v := .pointer (some ⟨w.heap.size, 0, none⟩)) rfl rfl (by kernel_rfl) (by kernel_rfl) (by kernel_rfl) (by kernel_rfl) (StepsIf.yield (by kernel_rfl) (fun w' hS => by clear hS; go_simp)) ?_
  intro a' ha'
  simp only [Act.put, List.setIfInBounds_toArray, List.set_cons_zero, List.set_cons_succ] at ha'
  subst ha'
  clear h0
  refine AnyM.last rfl (by kernel_rfl) (by kernel_rfl) (by kernel_rfl) (fun w3 hS K hK => ?_)
  have c0 := hS.1.1.cell 0; have c1 := hS.1.1.cell 1; have c2 := hS.1.1.cell 2; have c3 := hS.1.1.cell 3
  have f0 := hS.1.1.frozen 0; have f1 := hS.1.1.frozen 1; have f2 := hS.1.1.frozen 2; have f3 := hS.1.1.frozen 3
  simp only [List.getElem?_toArray, List.getElem?_cons_zero, List.getElem?_cons_succ] at c0 c1 c2 c3
  have HS := Lib.hid hS
  clear hS
  go_simp
  refine hK _ _ ?_
  clear hK K c0 c1 c2 c3 f0 f1 f2 f3
  have hX := (((HS.out.1.1.set 0 (.int .u64 (wd r 0))).set 1 (.int .u64 (wd r 1))).set 2 (.int .u64 (wd r 2))).set 3 (.int .u64 (wd r 3))
  have hR := (((HS.out.1.2.other (show w.heap.size + 1 ≠ w.heap.size by omega) 0 (.int .u64 (wd r 0))).other (show w.heap.size + 1 ≠ w.heap.size by omega) 1 (.int .u64 (wd r 1))).other (show w.heap.size + 1 ≠ w.heap.size by omega) 2 (.int .u64 (wd r 2))).other (show w.heap.size + 1 ≠ w.heap.size by omega) 3 (.int .u64 (wd r 3))
  have hB := below_set (below_set (below_set (below_set HS.out.2 (Nat.le_refl _) 0 (.int .u64 (wd r 0))) (Nat.le_refl _) 1 (.int .u64 (wd r 1))) (Nat.le_refl _) 2 (.int .u64 (wd r 2))) (Nat.le_refl _) 3 (.int .u64 (wd r 3))
  clear HS
  generalize (((w3.setCell ⟨w.heap.size, 0, none⟩ (.int .u64 (wd r 0))).setCell ⟨w.heap.size, 1, none⟩ (.int .u64 (wd r 1))).setCell ⟨w.heap.size, 2, none⟩ (.int .u64 (wd r 2))).setCell ⟨w.heap.size, 3, none⟩ (.int .u64 (wd r 3)) = w4 at *
  replace hX : Blk w4 w.heap.size (stI r pos err place fin neg) 82 := hX
  have c4 := hX.cell 4
  have f4 := hX.frozen 4
  simp only [List.getElem?_toArray, List.getElem?_cons_zero, List.getElem?_cons_succ] at c4
  have HX := Lib.hid ((hX.set 4 (.int .i64 q) : Blk _ _ (stI r q err place fin neg) 82))
  have HRr := Lib.hid (hR.other (show w.heap.size + 1 ≠ w.heap.size by omega) 4 (.int .i64 q))
  have HB := Lib.hid (below_set hB (Nat.le_refl _) 4 (.int .i64 q))
  clear hX hR hB
  go_wp2_with (first
    | (with_reducible refine wpList_load_row (o := ⟨some 18, _, _, _, _, _⟩) rfl 82 _ rfl w.heap.size rfl 82 (stI r q err place fin neg) (0, 0) _ ?_ Tryz.underlying82 rfl ?_ ?_
       · exact HX.out
       · exact infoSt)
    | (with_reducible refine wpList_store_st (o := ⟨none, .store 82 _ _, _, _, _, _⟩) rfl 82 _ _ rfl (w.heap.size + 1) rfl rfl (run_storeAt_row _ (w.heap.size + 1) 82 82 (stI 0 0 0 0 false false) (stI r q err place fin neg) ?_ ?_ ?_ ?_) ?_
       · exact HRr.out
       · exact infoSt
       · rfl
       · exact st_one _ _ _ _ _ _))

  exact bodyPost_ret (v := .agg (stI r q err place fin neg)) (results_cell_row rfl _ _ (w.heap.size + 1) 82 (stI r q err place fin neg) (0, 0) _ rfl (Blk.setRow HRr.out) Tryz.underlying82 rfl infoSt) rfl ⟨rfl, below_row HB.out (by omega) _⟩


theorem badZ (e p : Int) (w : World) : Calls Tryz.prog 45 #[.int .i64 e, .int .i64 p] w fun en w' => en = .returned (.agg (stI zSt 0 e p false false)) ∧ Below w.heap.size w w' := bad_calls e p w


theorem nameR_col (s : ByteArray) (fr : Nat) (x : BR) (n j : Nat) (h : bt s j = 58) : nameR s fr x (n + 1) j =
    if ofB (s.extract fr j).toList = false then badR 5 (j + 1)
      else if s.size ≤ j + 1 then badR 2 s.size
      else if bt s (j + 1) ≠ 93 then badR 3 (j + 2)
      else ⟨x.set ||| ofS (s.extract fr j).toList, j + 2, x.err, x.place, x.fin, x.neg⟩ := by rw [nameR, if_pos h]
theorem nameR_not (s : ByteArray) (fr : Nat) (x : BR) (n j : Nat) (h : ¬ bt s j = 58) : nameR s fr x (n + 1) j = if begB (s.extract fr (j + 1)) = false then badR 5 (j + 1) else nameR s fr x n (j + 1) := by rw [nameR, if_neg h]

set_option maxRecDepth 100000 in
set_option maxHeartbeats 8000000 in
theorem name_calls (s : ByteArray) (hs : s.size ≤ 1000000) (t : BitVec 256) (pos : Nat) (err place : Nat) (fin neg : Bool) (hp : pos + 2 ≤ s.size) (w : World) :
    Calls Tryz.prog 46 #[.string s, .agg (stI t pos err place fin neg)] w fun e w' => e = .returned (.agg (stA (nameR s (pos + 2) ⟨t, pos, err, place, fin, neg⟩ (s.size - (pos + 2)) (pos + 2)))) ∧ Below w.heap.size w w' := by
  have HX := Lib.hid ((Blk.new w (stI t pos err place fin neg) 82).alloc (.cells (stI 0 0 0 0 false false) 82))
  have HR := Blk.new (w.alloc (.cells (stI t pos err place fin neg) 82)) (stI 0 0 0 0 false false) 82
  rw [World.size_alloc] at HR
  replace HR := Lib.hid HR
  have HB : Hid (Below w.heap.size w ((w.alloc (.cells (stI t pos err place fin neg) 82)).alloc (.cells (stI 0 0 0 0 false false) 82))) := Lib.hid (by go_grown)
  have hz : w.heap.size + 2 ≤ ((w.alloc (.cells (stI t pos err place fin neg) 82)).alloc (.cells (stI 0 0 0 0 false false) 82)).heap.size := by simp
  have cx := HX.out.cell 4
  simp only [List.getElem?_toArray, List.getElem?_cons_zero, List.getElem?_cons_succ] at cx
  generalize hr : nameR s (pos + 2) ⟨t, pos, err, place, fin, neg⟩ (s.size - (pos + 2)) (pos + 2) = R
  have HRES := Lib.hid hr
  clear hr
  go_enter Tryz.func46, Tryz.ntmps46
  go_upto_region 2 with fail
  have e0 : ((w.alloc (.cells (stI t pos err place fin neg) 82)).alloc (.cells #[.int .u64 0, .int .u64 0, .int .u64 0, .int .u64 0, .int .i64 0, .int .i64 0, .int .i64 0, .bool false, .bool false] 82)) = (w.alloc (.cells (stI t pos err place fin neg) 82)).alloc (.cells (stI 0 0 0 0 false false) 82) := rfl
  rw [e0]
  clear e0 cx
  generalize (w.alloc (.cells (stI t pos err place fin neg) 82)).alloc (.cells (stI 0 0 0 0 false false) 82) = w1 at *
  go_wp2_with fail
  go_loopw [6] (fun v wr => ∃ j : Nat, pos + 2 ≤ j ∧ j ≤ s.size ∧ v = .int .i64 j ∧ nameR s (pos + 2) ⟨t, pos, err, place, fin, neg⟩ (s.size - j) j = R ∧ Blk wr w.heap.size (stI t pos err place fin neg) 82 ∧ Blk wr (w.heap.size + 1) (stI 0 0 0 0 false false) 82 ∧ Below w.heap.size w wr ∧ w.heap.size + 2 ≤ wr.heap.size) (fun v _ => s.size - (intOf v).toNat)
  case atStart => exact ⟨pos + 2, Nat.le_refl _, hp, by simp, HRES.out, HX.out, HR.out, HB.out, hz⟩
  case round =>
    clear HX HR HB HRES hz
    obtain ⟨j, hj1, hj2, rfl, hres, hX, hR, hB, hz⟩ := hrel
    have HX := Lib.hid hX
    have HR := Lib.hid hR
    have HB := Lib.hid hB
    clear hX hR hB
    by_cases hjl : j < s.size
    · have b0 : s[j].toNat = bt s j := (bt_eq s j hjl).symm
      obtain ⟨n, hn⟩ : ∃ n, s.size - j = n + 1 := ⟨s.size - j - 1, by omega⟩
      have hn' : n = s.size - (j + 1) := by omega
      rw [hn] at hres
      clear hn
      by_cases hc : bt s j = 58
      · rw [nameR_col _ _ _ _ _ hc] at hres
        have q : ((bt s j : Int) == 58) = true := by rw [beq_iff_eq]; omega
        have HOF := Lib.hid (rOf_calls (s.extract (pos + 2) j))
        clear hc hn'
        generalize ofS (s.extract (pos + 2) j).toList = c at hres HOF
        generalize ofB (s.extract (pos + 2) j).toList = ok at hres HOF
        have HRS := Lib.hid hres
        clear hres
        go_wp2_with fail
        refine (HOF.out _).mono ?_
        rintro e w2 ⟨rfl, hb⟩
        have hz := Nat.le_trans hz hb.size; have HX2 := Lib.hid (HX.out.below hb (Blk.lt HX.out)); have HR2 := Lib.hid (HR.out.below hb (Blk.lt HR.out)); have HB2 := Lib.hid (HB.out.trans (hb.mono (by omega))); clear HX HR HB hb; have HX := HX2; have HR := HR2; have HB := HB2; clear HX2 HR2 HB2
        have HC := Lib.hid (Blk.new w2 (setA c) 34)
        have hz2 := hz
        replace HX := Lib.hid (HX.out.alloc (.cells #[.int .u64 (wd c 0), .int .u64 (wd c 1), .int .u64 (wd c 2), .int .u64 (wd c 3)] 34))
        replace HR := Lib.hid (HR.out.alloc (.cells #[.int .u64 (wd c 0), .int .u64 (wd c 1), .int .u64 (wd c 2), .int .u64 (wd c 3)] 34))
        replace HB := Lib.hid (HB.out.alloc (by omega) (.cells #[.int .u64 (wd c 0), .int .u64 (wd c 1), .int .u64 (wd c 2), .int .u64 (wd c 3)] 34))
        have hz : w.heap.size + 2 ≤ (w2.alloc (.cells #[.int .u64 (wd c 0), .int .u64 (wd c 1), .int .u64 (wd c 2), .int .u64 (wd c 3)] 34)).heap.size := by simp; omega
        cases ok with
        | false =>
          have HRES := Lib.hid (show badR 5 (j + 1) = R by rw [← HRS.out, if_pos rfl])
          go_wp2_with (first
            | (go_at_call 45; refine (badZ _ _ _).mono ?_; rintro e w' ⟨rfl, hb⟩; have hz := Nat.le_trans hz hb.size; have HX2 := Lib.hid (HX.out.below hb (Blk.lt HX.out)); have HR2 := Lib.hid (HR.out.below hb (Blk.lt HR.out)); have HB2 := Lib.hid (HB.out.trans (hb.mono (by omega))); clear HX HR HB hb; have HX := HX2; have HR := HR2; have HB := HB2; clear HX2 HR2 HB2)
            | ((with_reducible refine wpList_store_st (o := ⟨none, .store 82 _ _, _, _, _, _⟩) rfl 82 _ _ rfl (w.heap.size + 1) rfl rfl (run_storeAt_row _ (w.heap.size + 1) 82 82 (stI 0 0 0 0 false false) (stI zSt 0 5 ((j : Int) + 1) false false) ?_ ?_ ?_ ?_) ?_); exact HR.out; exact infoSt; rfl; exact st_one _ _ _ _ _ _))
          exact bodyPost_ret (v := .agg (stI zSt 0 5 ((j : Int) + 1) false false)) (results_cell_row rfl _ _ (w.heap.size + 1) 82 (stI zSt 0 5 ((j : Int) + 1) false false) (0, 0) _ rfl (Blk.setRow HR.out) Tryz.underlying82 rfl infoSt) rfl ⟨by rw [← HRES.out] <;> rfl, below_row HB.out (by omega) _⟩
        | true =>
          by_cases h1 : s.size ≤ j + 1
          · have q1 : decide ((s.size : Int) ≤ (j : Int) + 1) = true := by rw [decide_eq_true_eq]; omega
            have HRES := Lib.hid (show badR 2 s.size = R by rw [← HRS.out, if_neg (by decide), if_pos h1])
            go_wp2_with (first
              | (go_at_call 45; refine (badZ _ _ _).mono ?_; rintro e w' ⟨rfl, hb⟩; have hz := Nat.le_trans hz hb.size; have HX2 := Lib.hid (HX.out.below hb (Blk.lt HX.out)); have HR2 := Lib.hid (HR.out.below hb (Blk.lt HR.out)); have HB2 := Lib.hid (HB.out.trans (hb.mono (by omega))); clear HX HR HB hb; have HX := HX2; have HR := HR2; have HB := HB2; clear HX2 HR2 HB2)
              | ((with_reducible refine wpList_store_st (o := ⟨none, .store 82 _ _, _, _, _, _⟩) rfl 82 _ _ rfl (w.heap.size + 1) rfl rfl (run_storeAt_row _ (w.heap.size + 1) 82 82 (stI 0 0 0 0 false false) (stI zSt 0 2 (s.size : Int) false false) ?_ ?_ ?_ ?_) ?_); exact HR.out; exact infoSt; rfl; exact st_one _ _ _ _ _ _))
            exact bodyPost_ret (v := .agg (stI zSt 0 2 (s.size : Int) false false)) (results_cell_row rfl _ _ (w.heap.size + 1) 82 (stI zSt 0 2 (s.size : Int) false false) (0, 0) _ rfl (Blk.setRow HR.out) Tryz.underlying82 rfl infoSt) rfl ⟨by rw [← HRES.out] <;> rfl, below_row HB.out (by omega) _⟩
          · have q1 : decide ((s.size : Int) ≤ (j : Int) + 1) = false := by rw [decide_eq_false_iff_not]; omega
            have hlt1 : j + 1 < s.size := by omega
            have b1 : s[j + 1].toNat = bt s (j + 1) := (bt_eq s (j + 1) hlt1).symm
            by_cases h2 : bt s (j + 1) ≠ 93
            · have q2 : ((bt s (j + 1) : Int) != 93) = true := by rw [bne_iff_ne]; omega
              have HRES := Lib.hid (show badR 3 (j + 2) = R by rw [← HRS.out, if_neg (by decide), if_neg h1, if_pos h2])
              go_wp2_with (first
                | (go_at_call 45; refine (badZ _ _ _).mono ?_; rintro e w' ⟨rfl, hb⟩; have hz := Nat.le_trans hz hb.size; have HX2 := Lib.hid (HX.out.below hb (Blk.lt HX.out)); have HR2 := Lib.hid (HR.out.below hb (Blk.lt HR.out)); have HB2 := Lib.hid (HB.out.trans (hb.mono (by omega))); clear HX HR HB hb; have HX := HX2; have HR := HR2; have HB := HB2; clear HX2 HR2 HB2)
                | ((with_reducible refine wpList_store_st (o := ⟨none, .store 82 _ _, _, _, _, _⟩) rfl 82 _ _ rfl (w.heap.size + 1) rfl rfl (run_storeAt_row _ (w.heap.size + 1) 82 82 (stI 0 0 0 0 false false) (stI zSt 0 3 ((j : Int) + 2) false false) ?_ ?_ ?_ ?_) ?_); exact HR.out; exact infoSt; rfl; exact st_one _ _ _ _ _ _))
              exact bodyPost_ret (v := .agg (stI zSt 0 3 ((j : Int) + 2) false false)) (results_cell_row rfl _ _ (w.heap.size + 1) 82 (stI zSt 0 3 ((j : Int) + 2) false false) (0, 0) _ rfl (Blk.setRow HR.out) Tryz.underlying82 rfl infoSt) rfl ⟨by rw [← HRES.out] <;> rfl, below_row HB.out (by omega) _⟩
            · have q2 : ((bt s (j + 1) : Int) != 93) = false := by have : bt s (j + 1) = 93 := Decidable.not_not.1 h2; rw [this]; rfl
              have hrr : (⟨t ||| c, j + 2, err, place, fin, neg⟩ : BR) = R := by rw [← HRS.out, if_neg (by decide), if_neg h1, if_neg h2]
              have hor := ror_calls t c
              generalize t ||| c = r at hrr hor
              have HRES := Lib.hid hrr
              have HOR := Lib.hid hor
              clear hrr hor
              obtain ⟨⟨d0, d1, d2, d3⟩, _⟩ := (show Blk (w2.alloc (.cells #[.int .u64 (wd c 0), .int .u64 (wd c 1), .int .u64 (wd c 2), .int .u64 (wd c 3)] 34)) w2.heap.size (setA c) 34 from HC.out).cells4
              have c0 := HX.out.cell 0; have c1 := HX.out.cell 1; have c2 := HX.out.cell 2; have c3 := HX.out.cell 3
              simp only [List.getElem?_toArray, List.getElem?_cons_zero, List.getElem?_cons_succ] at c0 c1 c2 c3
              go_wp2_with fail
              refine (HOR.out _).mono ?_
              rintro e w3 ⟨rfl, hb⟩
              clear c0 c1 c2 c3 d0 d1 d2 d3
              have hz := Nat.le_trans hz hb.size; have HX2 := Lib.hid (HX.out.below hb (Blk.lt HX.out)); have HR2 := Lib.hid (HR.out.below hb (Blk.lt HR.out)); have HB2 := Lib.hid (HB.out.trans (hb.mono (by omega))); clear HX HR HB hb; have HX := HX2; have HR := HR2; have HB := HB2; clear HX2 HR2 HB2
              have c0 := HX.out.cell 0; have c1 := HX.out.cell 1; have c2 := HX.out.cell 2; have c3 := HX.out.cell 3; have c4 := HX.out.cell 4
              simp only [List.getElem?_toArray, List.getElem?_cons_zero, List.getElem?_cons_succ] at c0 c1 c2 c3 c4
              have f0 := HX.out.frozen 0; have f1 := HX.out.frozen 1; have f2 := HX.out.frozen 2; have f3 := HX.out.frozen 3; have f4 := HX.out.frozen 4
              have HX5 := Lib.hid (((((HX.out.set 0 (.int .u64 (wd r 0))).set 1 (.int .u64 (wd r 1))).set 2 (.int .u64 (wd r 2))).set 3 (.int .u64 (wd r 3))).set 4 (.int .i64 ((j : Int) + 2)) : Blk _ _ (stI r ((j : Int) + 2) err place fin neg) 82)
              have hne : w.heap.size + 1 ≠ w.heap.size := by omega
              have HR5 := Lib.hid (((((HR.out.other hne 0 (.int .u64 (wd r 0))).other hne 1 (.int .u64 (wd r 1))).other hne 2 (.int .u64 (wd r 2))).other hne 3 (.int .u64 (wd r 3))).other hne 4 (.int .i64 ((j : Int) + 2)))
              have HB5 := Lib.hid (below_set (below_set (below_set (below_set (below_set HB.out (Nat.le_refl _) 0 (.int .u64 (wd r 0))) (Nat.le_refl _) 1 (.int .u64 (wd r 1))) (Nat.le_refl _) 2 (.int .u64 (wd r 2))) (Nat.le_refl _) 3 (.int .u64 (wd r 3))) (Nat.le_refl _) 4 (.int .i64 ((j : Int) + 2)))
              clear HR HB hne
              have HR := HR5
              have HB := HB5
              clear HR5 HB5
              go_wp2_with (first
                | ((with_reducible refine wpList_load_row (o := ⟨_, .load 82 _, _, _, _, _⟩) rfl 82 _ rfl w.heap.size rfl 82 (stI r ((j : Int) + 2) err place fin neg) (0, 0) _ ?_ Tryz.underlying82 rfl ?_ ?_); exact HX5.out; exact infoSt)
                | ((with_reducible refine wpList_store_st (o := ⟨none, .store 82 _ _, _, _, _, _⟩) rfl 82 _ _ rfl (w.heap.size + 1) rfl rfl (run_storeAt_row _ (w.heap.size + 1) 82 82 (stI 0 0 0 0 false false) (stI r ((j : Int) + 2) err place fin neg) ?_ ?_ ?_ ?_) ?_); exact HR.out; exact infoSt; rfl; exact st_one _ _ _ _ _ _))
              exact bodyPost_ret (v := .agg (stI r ((j : Int) + 2) err place fin neg)) (results_cell_row rfl _ _ (w.heap.size + 1) 82 (stI r ((j : Int) + 2) err place fin neg) (0, 0) _ rfl (Blk.setRow HR.out) Tryz.underlying82 rfl infoSt) rfl ⟨by rw [← HRES.out] <;> rfl, below_row HB.out (by omega) _⟩
      · rw [nameR_not _ _ _ _ _ hc] at hres
        have q : ((bt s j : Int) == 58) = false := by rw [beq_eq_false_iff_ne]; omega
        have HBE := Lib.hid (rBegins_calls (s.extract (pos + 2) (j + 1)) (by simp; omega))
        clear hc
        cases hbb : begB (s.extract (pos + 2) (j + 1)) with
        | false =>
          rw [hbb] at hres HBE
          rw [if_pos rfl] at hres
          have HRES := Lib.hid hres
          clear hres hbb hn'
          go_wp2_with (first
            | (go_at_call 51; refine (HBE.out _).mono ?_; rintro e w' ⟨rfl, hb⟩; have hz := Nat.le_trans hz hb.size; have HX2 := Lib.hid (HX.out.below hb (Blk.lt HX.out)); have HR2 := Lib.hid (HR.out.below hb (Blk.lt HR.out)); have HB2 := Lib.hid (HB.out.trans (hb.mono (by omega))); clear HX HR HB hb; have HX := HX2; have HR := HR2; have HB := HB2; clear HX2 HR2 HB2)
            | (go_at_call 45; refine (badZ _ _ _).mono ?_; rintro e w' ⟨rfl, hb⟩; have hz := Nat.le_trans hz hb.size; have HX2 := Lib.hid (HX.out.below hb (Blk.lt HX.out)); have HR2 := Lib.hid (HR.out.below hb (Blk.lt HR.out)); have HB2 := Lib.hid (HB.out.trans (hb.mono (by omega))); clear HX HR HB hb; have HX := HX2; have HR := HR2; have HB := HB2; clear HX2 HR2 HB2)
            | ((with_reducible refine wpList_store_st (o := ⟨none, .store 82 _ _, _, _, _, _⟩) rfl 82 _ _ rfl (w.heap.size + 1) rfl rfl (run_storeAt_row _ (w.heap.size + 1) 82 82 (stI 0 0 0 0 false false) (stI zSt 0 5 ((j : Int) + 1) false false) ?_ ?_ ?_ ?_) ?_); exact HR.out; exact infoSt; rfl; exact st_one _ _ _ _ _ _))
          exact bodyPost_ret (v := .agg (stI zSt 0 5 ((j : Int) + 1) false false)) (results_cell_row rfl _ _ (w.heap.size + 1) 82 (stI zSt 0 5 ((j : Int) + 1) false false) (0, 0) _ rfl (Blk.setRow HR.out) Tryz.underlying82 rfl infoSt) rfl ⟨by rw [← HRES.out] <;> rfl, below_row HB.out (by omega) _⟩
        | true =>
          rw [hbb] at hres HBE
          rw [if_neg (by decide)] at hres
          have HRES := Lib.hid hres
          clear hres hbb
          go_wp2_with (go_at_call 51; refine (HBE.out _).mono ?_; rintro e w' ⟨rfl, hb⟩; have hz := Nat.le_trans hz hb.size; have HX2 := Lib.hid (HX.out.below hb (Blk.lt HX.out)); have HR2 := Lib.hid (HR.out.below hb (Blk.lt HR.out)); have HB2 := Lib.hid (HB.out.trans (hb.mono (by omega))); clear HX HR HB hb; have HX := HX2; have HR := HR2; have HB := HB2; clear HX2 HR2 HB2)
          go_roundw
          case rel => exact ⟨j + 1, by omega, by omega, by simp, by rw [← hn']; exact HRES.out, HX.out, HR.out, HB.out, hz⟩
          case measure => simp [intOf]; omega
    · obtain rfl : j = s.size := by omega
      rw [Nat.sub_self] at hres
      have HRES := Lib.hid (show badR 2 s.size = R from hres)
      clear hres
      go_wp2_with (first
        | (go_at_call 45; refine (badZ _ _ _).mono ?_; rintro e w' ⟨rfl, hb⟩; have hz := Nat.le_trans hz hb.size; have HX2 := Lib.hid (HX.out.below hb (Blk.lt HX.out)); have HR2 := Lib.hid (HR.out.below hb (Blk.lt HR.out)); have HB2 := Lib.hid (HB.out.trans (hb.mono (by omega))); clear HX HR HB hb; have HX := HX2; have HR := HR2; have HB := HB2; clear HX2 HR2 HB2)
        | ((with_reducible refine wpList_store_st (o := ⟨none, .store 82 _ _, _, _, _, _⟩) rfl 82 _ _ rfl (w.heap.size + 1) rfl rfl (run_storeAt_row _ (w.heap.size + 1) 82 82 (stI 0 0 0 0 false false) (stI zSt 0 2 (s.size : Int) false false) ?_ ?_ ?_ ?_) ?_); exact HR.out; exact infoSt; rfl; exact st_one _ _ _ _ _ _))
      exact bodyPost_ret (v := .agg (stI zSt 0 2 (s.size : Int) false false)) (results_cell_row rfl _ _ (w.heap.size + 1) 82 (stI zSt 0 2 (s.size : Int) false false) (0, 0) _ rfl (Blk.setRow HR.out) Tryz.underlying82 rfl infoSt) rfl ⟨by rw [← HRES.out] <;> rfl, below_row HB.out (by omega) _⟩


set_option maxRecDepth 100000 in
set_option maxHeartbeats 16000000 in
theorem thing_calls (s : ByteArray) (hs : s.size ≤ 1000000) (t : BitVec 256) (i : Nat) (err place : Nat) (fin neg first : Bool) (w : World) :
    Calls Tryz.prog 39 #[.string s, .agg (stI t i err place fin neg), .bool first] w fun e w' => e = .returned (.agg (stA (thingR s ⟨t, i, err, place, fin, neg⟩ first))) ∧ Below w.heap.size w w' := by
  have HX := Lib.hid ((Blk.new w (stI t i err place fin neg) 82).alloc (.cells (stI 0 0 0 0 false false) 82))
  have HR := Blk.new (w.alloc (.cells (stI t i err place fin neg) 82)) (stI 0 0 0 0 false false) 82
  rw [World.size_alloc] at HR
  replace HR := Lib.hid HR
  have HB : Hid (Below w.heap.size w ((w.alloc (.cells (stI t i err place fin neg) 82)).alloc (.cells (stI 0 0 0 0 false false) 82))) := Lib.hid (by go_grown)
  have hz : w.heap.size + 2 ≤ ((w.alloc (.cells (stI t i err place fin neg) 82)).alloc (.cells (stI 0 0 0 0 false false) 82)).heap.size := by simp
  have cx := HX.out.cell 4
  simp only [List.getElem?_toArray, List.getElem?_cons_zero, List.getElem?_cons_succ] at cx
  go_enter Tryz.func39, Tryz.ntmps39
  go_upto_region 2 with fail
  have e0 : ((w.alloc (.cells (stI t i err place fin neg) 82)).alloc (.cells #[.int .u64 0, .int .u64 0, .int .u64 0, .int .u64 0, .int .i64 0, .int .i64 0, .int .i64 0, .bool false, .bool false] 82)) = (w.alloc (.cells (stI t i err place fin neg) 82)).alloc (.cells (stI 0 0 0 0 false false) 82) := rfl
  rw [e0]
  clear e0
  generalize (w.alloc (.cells (stI t i err place fin neg) 82)).alloc (.cells (stI 0 0 0 0 false false) 82) = w1 at *
  by_cases hA : s.size ≤ i
  · have q1 : decide (s.size ≤ i) = true := by simpa using hA
    have hres : thingR s ⟨t, i, err, place, fin, neg⟩ first = badR 2 s.size := by unfold thingR; simp only [if_pos hA]
    have HRES := Lib.hid hres
    clear hres
    go_wp2_with (first
      | (go_at_call 45; refine (badZ _ _ _).mono ?_; rintro e w' ⟨rfl, hb⟩; have HX2 := Lib.hid (HX.out.below hb (Blk.lt HX.out)); have HR2 := Lib.hid (HR.out.below hb (Blk.lt HR.out)); have HB2 := Lib.hid (HB.out.trans (hb.mono (by omega))); clear HX HR HB hb; have HX := HX2; have HR := HR2; have HB := HB2; clear HX2 HR2 HB2)
      | ((with_reducible refine wpList_load_row (o := ⟨_, .load 82 _, _, _, _, _⟩) rfl 82 _ rfl w.heap.size rfl 82 (stI t i err place fin neg) (0, 0) _ ?_ Tryz.underlying82 rfl ?_ ?_); exact HX.out; exact infoSt)
      | ((with_reducible refine wpList_store_st (o := ⟨none, .store 82 _ _, _, _, _, _⟩) rfl 82 _ _ rfl (w.heap.size + 1) rfl rfl (run_storeAt_row _ (w.heap.size + 1) 82 82 (stI 0 0 0 0 false false) (stI zSt 0 2 (s.size : Int) false false) ?_ ?_ ?_ ?_) ?_); exact HR.out; exact infoSt; rfl; exact st_one _ _ _ _ _ _)
      )
    exact bodyPost_ret (v := .agg (stI zSt 0 2 (s.size : Int) false false)) (results_cell_row rfl _ _ (w.heap.size + 1) 82 (stI zSt 0 2 (s.size : Int) false false) (0, 0) _ rfl (Blk.setRow HR.out) Tryz.underlying82 rfl infoSt) rfl ⟨by rw [HRES.out] <;> rfl, below_row HB.out (by omega) _⟩
  have hlt : i < s.size := by omega
  have q1 : decide (s.size ≤ i) = false := by simpa using hA
  have b0 : s[i].toNat = bt s i := (bt_eq s i hlt).symm
  go_upto_region 5 with fail
  go_cut [27] from 22 to 26 (fun s27 wx => s27 = .bool (decide (bt s i = 93 ∧ first = false)) ∧ w1 = wx)
  case first =>
    cases hc : decide (bt s i = 93) with
    | true =>
      have hc' : bt s i = 93 := of_decide_eq_true hc
      have q : ((bt s i : Int) == 93) = true := by rw [beq_iff_eq]; omega
      have HC := Lib.hid hc'
      clear hc hc'
      cases first <;> (go_wp2_with fail; go_meet; exact ⟨by simp [HC.out], rfl⟩)
    | false =>
      have hc' : ¬ bt s i = 93 := of_decide_eq_false hc
      have q : ((bt s i : Int) == 93) = false := by rw [beq_eq_false_iff_ne]; omega
      have HC := Lib.hid hc'
      clear hc hc'
      go_wp2_with fail
      go_meet
      exact ⟨by simp [HC.out], rfl⟩
  case rest =>
  obtain ⟨rfl, rfl⟩ := hcut
  by_cases hB : bt s i = 93 ∧ first = false
  · have q2 : decide (bt s i = 93 ∧ first = false) = true := decide_eq_true hB
    have cf := HX.out.cell 7
    simp only [List.getElem?_toArray, List.getElem?_cons_zero, List.getElem?_cons_succ] at cf
    have f7 := HX.out.frozen 7
    have f4 := HX.out.frozen 4
    have HX2 := Lib.hid (((HX.out.set 7 (.bool true)).set 4 (.int .i64 ((i : Int) + 1)) : Blk _ _ (stI t ((i : Int) + 1) err place true neg) 82))
    have HR2 := Lib.hid ((HR.out.other (show w.heap.size + 1 ≠ w.heap.size by omega) 7 (.bool true)).other (show w.heap.size + 1 ≠ w.heap.size by omega) 4 (.int .i64 ((i : Int) + 1)))
    have HB2 := Lib.hid (below_set (below_set HB.out (Nat.le_refl _) 7 (.bool true)) (Nat.le_refl _) 4 (.int .i64 ((i : Int) + 1)))
    have hres : thingR s ⟨t, i, err, place, fin, neg⟩ first = ⟨t, i + 1, err, place, true, neg⟩ := by unfold thingR; simp only [if_neg hA, if_pos hB]
    have HRES := Lib.hid hres
    clear hres HX HR HB
    have HR := HR2
    have HB := HB2
    clear HR2 HB2
    go_wp2_with (first
      | ((with_reducible refine wpList_load_row (o := ⟨_, .load 82 _, _, _, _, _⟩) rfl 82 _ rfl w.heap.size rfl 82 (stI t ((i : Int) + 1) err place true neg) (0, 0) _ ?_ Tryz.underlying82 rfl ?_ ?_); exact HX2.out; exact infoSt)
      | ((with_reducible refine wpList_store_st (o := ⟨none, .store 82 _ _, _, _, _, _⟩) rfl 82 _ _ rfl (w.heap.size + 1) rfl rfl (run_storeAt_row _ (w.heap.size + 1) 82 82 (stI 0 0 0 0 false false) (stI t ((i : Int) + 1) err place true neg) ?_ ?_ ?_ ?_) ?_); exact HR.out; exact infoSt; rfl; exact st_one _ _ _ _ _ _))
    exact bodyPost_ret (v := .agg (stI t ((i : Int) + 1) err place true neg)) (results_cell_row rfl _ _ (w.heap.size + 1) 82 (stI t ((i : Int) + 1) err place true neg) (0, 0) _ rfl (Blk.setRow HR.out) Tryz.underlying82 rfl infoSt) rfl ⟨by rw [HRES.out] <;> rfl, below_row HB.out (by omega) _⟩
  have q2 : decide (bt s i = 93 ∧ first = false) = false := decide_eq_false hB
  rw [q2]
  by_cases hC : s.size ≤ i + 1
  · have q3 : decide ((s.size : Int) ≤ (i : Int) + 1) = true := by rw [decide_eq_true_eq]; omega
    have hres : thingR s ⟨t, i, err, place, fin, neg⟩ first = badR 2 s.size := by unfold thingR; simp only [if_neg hA, if_neg hB, if_pos hC]
    have HRES := Lib.hid hres
    clear hres
    go_wp2_with (first
      | (go_at_call 45; refine (badZ _ _ _).mono ?_; rintro e w' ⟨rfl, hb⟩; have HX2 := Lib.hid (HX.out.below hb (Blk.lt HX.out)); have HR2 := Lib.hid (HR.out.below hb (Blk.lt HR.out)); have HB2 := Lib.hid (HB.out.trans (hb.mono (by omega))); clear HX HR HB hb; have HX := HX2; have HR := HR2; have HB := HB2; clear HX2 HR2 HB2)
      | ((with_reducible refine wpList_load_row (o := ⟨_, .load 82 _, _, _, _, _⟩) rfl 82 _ rfl w.heap.size rfl 82 (stI t i err place fin neg) (0, 0) _ ?_ Tryz.underlying82 rfl ?_ ?_); exact HX.out; exact infoSt)
      | ((with_reducible refine wpList_store_st (o := ⟨none, .store 82 _ _, _, _, _, _⟩) rfl 82 _ _ rfl (w.heap.size + 1) rfl rfl (run_storeAt_row _ (w.heap.size + 1) 82 82 (stI 0 0 0 0 false false) (stI zSt 0 2 (s.size : Int) false false) ?_ ?_ ?_ ?_) ?_); exact HR.out; exact infoSt; rfl; exact st_one _ _ _ _ _ _)
      )
    exact bodyPost_ret (v := .agg (stI zSt 0 2 (s.size : Int) false false)) (results_cell_row rfl _ _ (w.heap.size + 1) 82 (stI zSt 0 2 (s.size : Int) false false) (0, 0) _ rfl (Blk.setRow HR.out) Tryz.underlying82 rfl infoSt) rfl ⟨by rw [HRES.out] <;> rfl, below_row HB.out (by omega) _⟩
  have q3 : decide ((s.size : Int) ≤ (i : Int) + 1) = false := by rw [decide_eq_false_iff_not]; omega
  have hlt1 : i + 1 < s.size := by omega
  have b1 : s[i + 1].toNat = bt s (i + 1) := (bt_eq s (i + 1) hlt1).symm
  go_upto_region 11 with fail
  go_cut [49] from 41 to 48 (fun s49 wx => s49 = .bool (decide (bt s i = 91 ∧ bt s (i + 1) = 58)) ∧ w1 = wx)
  case first =>
    by_cases hc : bt s i = 91
    · have q : ((bt s i : Int) == 91) = true := by rw [beq_iff_eq]; omega
      by_cases hd : bt s (i + 1) = 58
      · have q' : ((bt s (i + 1) : Int) == 58) = true := by rw [beq_iff_eq]; omega
        have HC := Lib.hid hc
        have HD := Lib.hid hd
        clear hc hd
        go_wp2_with fail
        go_meet
        exact ⟨by simp [HC.out, HD.out], rfl⟩
      · have q' : ((bt s (i + 1) : Int) == 58) = false := by rw [beq_eq_false_iff_ne]; omega
        have HC := Lib.hid hc
        have HD := Lib.hid hd
        clear hc hd
        go_wp2_with fail
        go_meet
        exact ⟨by simp [HD.out], rfl⟩
    · have q : ((bt s i : Int) == 91) = false := by rw [beq_eq_false_iff_ne]; omega
      have HC := Lib.hid hc
      clear hc
      go_wp2_with fail
      go_meet
      exact ⟨by simp [HC.out], rfl⟩
  case rest =>
  obtain ⟨rfl, rfl⟩ := hcut
  by_cases hD : bt s i = 91 ∧ bt s (i + 1) = 58
  · have q4 : decide (bt s i = 91 ∧ bt s (i + 1) = 58) = true := decide_eq_true hD
    have hnm := name_calls s hs t i err place fin neg (by omega)
    generalize hR0 : nameR s (i + 2) ⟨t, i, err, place, fin, neg⟩ (s.size - (i + 2)) (i + 2) = R0 at hnm
    have HNM := Lib.hid hnm
    clear hnm
    have hres : thingR s ⟨t, i, err, place, fin, neg⟩ first = R0 := by unfold thingR; simp only [if_neg hA, if_neg hB, if_neg hC, if_pos hD]; exact hR0
    have HRES := Lib.hid hres
    clear hres hR0
    obtain ⟨t', i', err', place', fin', neg'⟩ := R0
    replace HNM : Hid (∀ w, Calls Tryz.prog 46 #[.string s, .agg (stI t i err place fin neg)] w fun e w' => e = .returned (.agg (stI t' i' err' place' fin' neg')) ∧ Below w.heap.size w w') := HNM
    go_wp2_with (first
      | (go_at_call 46; refine (HNM.out _).mono ?_; rintro e w' ⟨rfl, hb⟩; have HX2 := Lib.hid (HX.out.below hb (Blk.lt HX.out)); have HR2 := Lib.hid (HR.out.below hb (Blk.lt HR.out)); have HB2 := Lib.hid (HB.out.trans (hb.mono (by omega))); clear HX HR HB hb; have HX := HX2; have HR := HR2; have HB := HB2; clear HX2 HR2 HB2)
      | ((with_reducible refine wpList_load_row (o := ⟨_, .load 82 _, _, _, _, _⟩) rfl 82 _ rfl w.heap.size rfl 82 (stI t i err place fin neg) (0, 0) _ ?_ Tryz.underlying82 rfl ?_ ?_); exact HX.out; exact infoSt)
      | ((with_reducible refine wpList_store_st (o := ⟨none, .store 82 _ _, _, _, _, _⟩) rfl 82 _ _ rfl (w.heap.size + 1) rfl rfl (run_storeAt_row _ (w.heap.size + 1) 82 82 (stI 0 0 0 0 false false) (stI t' i' err' place' fin' neg') ?_ ?_ ?_ ?_) ?_); exact HR.out; exact infoSt; rfl; exact st_one _ _ _ _ _ _))
    exact bodyPost_ret (v := .agg (stI t' i' err' place' fin' neg')) (results_cell_row rfl _ _ (w.heap.size + 1) 82 (stI t' i' err' place' fin' neg') (0, 0) _ rfl (Blk.setRow HR.out) Tryz.underlying82 rfl infoSt) rfl ⟨by rw [HRES.out] <;> rfl, below_row HB.out (by omega) _⟩
  have q4 : decide (bt s i = 91 ∧ bt s (i + 1) = 58) = false := decide_eq_false hD
  rw [q4]
  go_upto_region 13 with fail
  go_cut [61] from 53 to 60 (fun s61 wx => s61 = .bool (decide (bt s i = 91 ∧ spec3 (bt s (i + 1)) = true)) ∧ w1 = wx)
  case first =>
    by_cases hc : bt s i = 91
    · have q : ((bt s i : Int) == 91) = true := by rw [beq_iff_eq]; omega
      have HC := Lib.hid hc
      clear hc
      go_wp2_with (go_at_call 47; refine (special_calls _ _).mono ?_; rintro e w' ⟨rfl, rfl⟩)
      go_meet
      exact ⟨by simp [HC.out], rfl⟩
    · have q : ((bt s i : Int) == 91) = false := by rw [beq_eq_false_iff_ne]; omega
      have HC := Lib.hid hc
      clear hc
      go_wp2_with fail
      go_meet
      exact ⟨by simp [HC.out], rfl⟩
  case rest =>
  obtain ⟨rfl, rfl⟩ := hcut
  by_cases hE : bt s i = 91 ∧ spec3 (bt s (i + 1)) = true
  · have q5 : decide (bt s i = 91 ∧ spec3 (bt s (i + 1)) = true) = true := decide_eq_true hE
    have hres : thingR s ⟨t, i, err, place, fin, neg⟩ first = badR 3 (i + 2) := by unfold thingR; simp only [if_neg hA, if_neg hB, if_neg hC, if_neg hD, if_pos hE]
    have HRES := Lib.hid hres
    clear hres
    go_wp2_with (first
      | (go_at_call 45; refine (badZ _ _ _).mono ?_; rintro e w' ⟨rfl, hb⟩; have HX2 := Lib.hid (HX.out.below hb (Blk.lt HX.out)); have HR2 := Lib.hid (HR.out.below hb (Blk.lt HR.out)); have HB2 := Lib.hid (HB.out.trans (hb.mono (by omega))); clear HX HR HB hb; have HX := HX2; have HR := HR2; have HB := HB2; clear HX2 HR2 HB2)
      | ((with_reducible refine wpList_load_row (o := ⟨_, .load 82 _, _, _, _, _⟩) rfl 82 _ rfl w.heap.size rfl 82 (stI t i err place fin neg) (0, 0) _ ?_ Tryz.underlying82 rfl ?_ ?_); exact HX.out; exact infoSt)
      | ((with_reducible refine wpList_store_st (o := ⟨none, .store 82 _ _, _, _, _, _⟩) rfl 82 _ _ rfl (w.heap.size + 1) rfl rfl (run_storeAt_row _ (w.heap.size + 1) 82 82 (stI 0 0 0 0 false false) (stI zSt 0 3 ((i : Int) + 2) false false) ?_ ?_ ?_ ?_) ?_); exact HR.out; exact infoSt; rfl; exact st_one _ _ _ _ _ _)
      )
    exact bodyPost_ret (v := .agg (stI zSt 0 3 ((i : Int) + 2) false false)) (results_cell_row rfl _ _ (w.heap.size + 1) 82 (stI zSt 0 3 ((i : Int) + 2) false false) (0, 0) _ rfl (Blk.setRow HR.out) Tryz.underlying82 rfl infoSt) rfl ⟨by rw [HRES.out] <;> rfl, below_row HB.out (by omega) _⟩
  have q5 : decide (bt s i = 91 ∧ spec3 (bt s (i + 1)) = true) = false := decide_eq_false hE
  rw [q5]
  have hbl := bt_lt s i
  by_cases hF : bt s (i + 1) ≠ 45
  · have q6 : ((bt s (i + 1) : Int) != 45) = true := by rw [bne_iff_ne]; omega
    have hadd := add_calls t i err place fin neg (bt s i) (bt s i) hbl hbl ((i : Int) + 1)
    generalize hR0 : t ||| range (bt s i) (bt s i) = t' at hadd
    have HAD := Lib.hid hadd
    clear hadd
    have hre : addR ⟨t, i, err, place, fin, neg⟩ (bt s i) (bt s i) (i + 1) = ⟨t', i + 1, err, place, fin, neg⟩ := by rw [← hR0]; rfl
    have HRE := Lib.hid hre
    clear hre hR0
    have hres : thingR s ⟨t, i, err, place, fin, neg⟩ first = ⟨t', i + 1, err, place, fin, neg⟩ := by unfold thingR; simp only [if_neg hA, if_neg hB, if_neg hC, if_neg hD, if_neg hE, if_pos hF]; exact HRE.out
    have HRES := Lib.hid hres
    clear hres
    go_wp2_with (first
      | (go_at_call 48; refine (HAD.out _).mono ?_; rintro e w' ⟨rfl, hb⟩; have HX2 := Lib.hid (HX.out.below hb (Blk.lt HX.out)); have HR2 := Lib.hid (HR.out.below hb (Blk.lt HR.out)); have HB2 := Lib.hid (HB.out.trans (hb.mono (by omega))); clear HX HR HB hb; have HX := HX2; have HR := HR2; have HB := HB2; clear HX2 HR2 HB2)
      | ((with_reducible refine wpList_load_row (o := ⟨_, .load 82 _, _, _, _, _⟩) rfl 82 _ rfl w.heap.size rfl 82 (stI t i err place fin neg) (0, 0) _ ?_ Tryz.underlying82 rfl ?_ ?_); exact HX.out; exact infoSt)
      | ((with_reducible refine wpList_store_st (o := ⟨none, .store 82 _ _, _, _, _, _⟩) rfl 82 _ _ rfl (w.heap.size + 1) rfl rfl (run_storeAt_row _ (w.heap.size + 1) 82 82 (stI 0 0 0 0 false false) (stI t' ((i : Int) + 1) err place fin neg) ?_ ?_ ?_ ?_) ?_); exact HR.out; exact infoSt; rfl; exact st_one _ _ _ _ _ _))
    exact bodyPost_ret (v := .agg (stI t' ((i : Int) + 1) err place fin neg)) (results_cell_row rfl _ _ (w.heap.size + 1) 82 (stI t' ((i : Int) + 1) err place fin neg) (0, 0) _ rfl (Blk.setRow HR.out) Tryz.underlying82 rfl infoSt) rfl ⟨by rw [HRES.out] <;> rfl, below_row HB.out (by omega) _⟩
  have q6 : ((bt s (i + 1) : Int) != 45) = false := by have : bt s (i + 1) = 45 := Decidable.not_not.1 hF; rw [this]; rfl
  by_cases hG : s.size ≤ i + 2
  · have q7 : decide ((s.size : Int) ≤ (i : Int) + 2) = true := by rw [decide_eq_true_eq]; omega
    have hres : thingR s ⟨t, i, err, place, fin, neg⟩ first = badR 2 s.size := by unfold thingR; simp only [if_neg hA, if_neg hB, if_neg hC, if_neg hD, if_neg hE, if_neg hF, if_pos hG]
    have HRES := Lib.hid hres
    clear hres
    go_wp2_with (first
      | (go_at_call 45; refine (badZ _ _ _).mono ?_; rintro e w' ⟨rfl, hb⟩; have HX2 := Lib.hid (HX.out.below hb (Blk.lt HX.out)); have HR2 := Lib.hid (HR.out.below hb (Blk.lt HR.out)); have HB2 := Lib.hid (HB.out.trans (hb.mono (by omega))); clear HX HR HB hb; have HX := HX2; have HR := HR2; have HB := HB2; clear HX2 HR2 HB2)
      | ((with_reducible refine wpList_load_row (o := ⟨_, .load 82 _, _, _, _, _⟩) rfl 82 _ rfl w.heap.size rfl 82 (stI t i err place fin neg) (0, 0) _ ?_ Tryz.underlying82 rfl ?_ ?_); exact HX.out; exact infoSt)
      | ((with_reducible refine wpList_store_st (o := ⟨none, .store 82 _ _, _, _, _, _⟩) rfl 82 _ _ rfl (w.heap.size + 1) rfl rfl (run_storeAt_row _ (w.heap.size + 1) 82 82 (stI 0 0 0 0 false false) (stI zSt 0 2 (s.size : Int) false false) ?_ ?_ ?_ ?_) ?_); exact HR.out; exact infoSt; rfl; exact st_one _ _ _ _ _ _)
      )
    exact bodyPost_ret (v := .agg (stI zSt 0 2 (s.size : Int) false false)) (results_cell_row rfl _ _ (w.heap.size + 1) 82 (stI zSt 0 2 (s.size : Int) false false) (0, 0) _ rfl (Blk.setRow HR.out) Tryz.underlying82 rfl infoSt) rfl ⟨by rw [HRES.out] <;> rfl, below_row HB.out (by omega) _⟩
  have q7 : decide ((s.size : Int) ≤ (i : Int) + 2) = false := by rw [decide_eq_false_iff_not]; omega
  have hlt2 : i + 2 < s.size := by omega
  have b2 : s[i + 2].toNat = bt s (i + 2) := (bt_eq s (i + 2) hlt2).symm
  by_cases hH : bt s (i + 2) = 93
  · have q8 : ((bt s (i + 2) : Int) == 93) = true := by rw [beq_iff_eq]; omega
    have hadd := add_calls t i err place fin neg (bt s i) (bt s i) hbl hbl ((i : Int) + 1)
    generalize hR0 : t ||| range (bt s i) (bt s i) = t' at hadd
    have HAD := Lib.hid hadd
    clear hadd
    have hre : addR ⟨t, i, err, place, fin, neg⟩ (bt s i) (bt s i) (i + 1) = ⟨t', i + 1, err, place, fin, neg⟩ := by rw [← hR0]; rfl
    have HRE := Lib.hid hre
    clear hre hR0
    have HH := Lib.hid hH
    clear hH
    have hres : thingR s ⟨t, i, err, place, fin, neg⟩ first = ⟨t', i + 1, err, place, fin, neg⟩ := by unfold thingR; simp only [if_neg hA, if_neg hB, if_neg hC, if_neg hD, if_neg hE, if_neg hF, if_neg hG, if_pos HH.out]; exact HRE.out
    have HRES := Lib.hid hres
    clear hres
    go_wp2_with (first
      | (go_at_call 48; refine (HAD.out _).mono ?_; rintro e w' ⟨rfl, hb⟩; have HX2 := Lib.hid (HX.out.below hb (Blk.lt HX.out)); have HR2 := Lib.hid (HR.out.below hb (Blk.lt HR.out)); have HB2 := Lib.hid (HB.out.trans (hb.mono (by omega))); clear HX HR HB hb; have HX := HX2; have HR := HR2; have HB := HB2; clear HX2 HR2 HB2)
      | ((with_reducible refine wpList_load_row (o := ⟨_, .load 82 _, _, _, _, _⟩) rfl 82 _ rfl w.heap.size rfl 82 (stI t i err place fin neg) (0, 0) _ ?_ Tryz.underlying82 rfl ?_ ?_); exact HX.out; exact infoSt)
      | ((with_reducible refine wpList_store_st (o := ⟨none, .store 82 _ _, _, _, _, _⟩) rfl 82 _ _ rfl (w.heap.size + 1) rfl rfl (run_storeAt_row _ (w.heap.size + 1) 82 82 (stI 0 0 0 0 false false) (stI t' ((i : Int) + 1) err place fin neg) ?_ ?_ ?_ ?_) ?_); exact HR.out; exact infoSt; rfl; exact st_one _ _ _ _ _ _))
    exact bodyPost_ret (v := .agg (stI t' ((i : Int) + 1) err place fin neg)) (results_cell_row rfl _ _ (w.heap.size + 1) 82 (stI t' ((i : Int) + 1) err place fin neg) (0, 0) _ rfl (Blk.setRow HR.out) Tryz.underlying82 rfl infoSt) rfl ⟨by rw [HRES.out] <;> rfl, below_row HB.out (by omega) _⟩
  have q8 : ((bt s (i + 2) : Int) == 93) = false := by rw [beq_eq_false_iff_ne]; omega
  have hyl := bt_lt s (i + 2)
  by_cases hI : bt s (i + 2) < bt s i
  · have q9 : decide (bt s (i + 2) < bt s i) = true := by simpa using hI
    have hres : thingR s ⟨t, i, err, place, fin, neg⟩ first = badR 4 (i + 3) := by unfold thingR; simp only [if_neg hA, if_neg hB, if_neg hC, if_neg hD, if_neg hE, if_neg hF, if_neg hG, if_neg hH, if_pos hI]
    have HRES := Lib.hid hres
    clear hres
    go_wp2_with (first
      | (go_at_call 45; refine (badZ _ _ _).mono ?_; rintro e w' ⟨rfl, hb⟩; have HX2 := Lib.hid (HX.out.below hb (Blk.lt HX.out)); have HR2 := Lib.hid (HR.out.below hb (Blk.lt HR.out)); have HB2 := Lib.hid (HB.out.trans (hb.mono (by omega))); clear HX HR HB hb; have HX := HX2; have HR := HR2; have HB := HB2; clear HX2 HR2 HB2)
      | ((with_reducible refine wpList_load_row (o := ⟨_, .load 82 _, _, _, _, _⟩) rfl 82 _ rfl w.heap.size rfl 82 (stI t i err place fin neg) (0, 0) _ ?_ Tryz.underlying82 rfl ?_ ?_); exact HX.out; exact infoSt)
      | ((with_reducible refine wpList_store_st (o := ⟨none, .store 82 _ _, _, _, _, _⟩) rfl 82 _ _ rfl (w.heap.size + 1) rfl rfl (run_storeAt_row _ (w.heap.size + 1) 82 82 (stI 0 0 0 0 false false) (stI zSt 0 4 ((i : Int) + 3) false false) ?_ ?_ ?_ ?_) ?_); exact HR.out; exact infoSt; rfl; exact st_one _ _ _ _ _ _)
      )
    exact bodyPost_ret (v := .agg (stI zSt 0 4 ((i : Int) + 3) false false)) (results_cell_row rfl _ _ (w.heap.size + 1) 82 (stI zSt 0 4 ((i : Int) + 3) false false) (0, 0) _ rfl (Blk.setRow HR.out) Tryz.underlying82 rfl infoSt) rfl ⟨by rw [HRES.out] <;> rfl, below_row HB.out (by omega) _⟩
  have q9 : decide (bt s (i + 2) < bt s i) = false := by simpa using hI
  go_upto_region 24 with fail
  go_cut [114] from 106 to 113 (fun s114 wx => s114 = .bool (decide (bt s (i + 2) = 91 ∧ s.size ≤ i + 3)) ∧ w1 = wx)
  case first =>
    by_cases hc : bt s (i + 2) = 91
    · have q : ((bt s (i + 2) : Int) == 91) = true := by rw [beq_iff_eq]; omega
      have HC := Lib.hid hc
      clear hc
      by_cases hd : s.size ≤ i + 3
      · have qd : decide ((s.size : Int) ≤ (i : Int) + 3) = true := by rw [decide_eq_true_eq]; omega
        have HD := Lib.hid hd
        clear hd
        go_wp2_with fail
        go_meet
        exact ⟨by simp [HC.out, HD.out], rfl⟩
      · have qd : decide ((s.size : Int) ≤ (i : Int) + 3) = false := by rw [decide_eq_false_iff_not]; omega
        have HD := Lib.hid hd
        clear hd
        go_wp2_with fail
        go_meet
        exact ⟨by simp [HD.out], rfl⟩
    · have q : ((bt s (i + 2) : Int) == 91) = false := by rw [beq_eq_false_iff_ne]; omega
      have HC := Lib.hid hc
      clear hc
      go_wp2_with fail
      go_meet
      exact ⟨by simp [HC.out], rfl⟩
  case rest =>
  obtain ⟨rfl, rfl⟩ := hcut
  by_cases hJ : bt s (i + 2) = 91 ∧ s.size ≤ i + 3
  · have q10 : decide (bt s (i + 2) = 91 ∧ s.size ≤ i + 3) = true := decide_eq_true hJ
    have hres : thingR s ⟨t, i, err, place, fin, neg⟩ first = badR 2 s.size := by unfold thingR; simp only [if_neg hA, if_neg hB, if_neg hC, if_neg hD, if_neg hE, if_neg hF, if_neg hG, if_neg hH, if_neg hI, if_pos hJ]
    have HRES := Lib.hid hres
    clear hres
    go_wp2_with (first
      | (go_at_call 45; refine (badZ _ _ _).mono ?_; rintro e w' ⟨rfl, hb⟩; have HX2 := Lib.hid (HX.out.below hb (Blk.lt HX.out)); have HR2 := Lib.hid (HR.out.below hb (Blk.lt HR.out)); have HB2 := Lib.hid (HB.out.trans (hb.mono (by omega))); clear HX HR HB hb; have HX := HX2; have HR := HR2; have HB := HB2; clear HX2 HR2 HB2)
      | ((with_reducible refine wpList_load_row (o := ⟨_, .load 82 _, _, _, _, _⟩) rfl 82 _ rfl w.heap.size rfl 82 (stI t i err place fin neg) (0, 0) _ ?_ Tryz.underlying82 rfl ?_ ?_); exact HX.out; exact infoSt)
      | ((with_reducible refine wpList_store_st (o := ⟨none, .store 82 _ _, _, _, _, _⟩) rfl 82 _ _ rfl (w.heap.size + 1) rfl rfl (run_storeAt_row _ (w.heap.size + 1) 82 82 (stI 0 0 0 0 false false) (stI zSt 0 2 (s.size : Int) false false) ?_ ?_ ?_ ?_) ?_); exact HR.out; exact infoSt; rfl; exact st_one _ _ _ _ _ _)
      )
    exact bodyPost_ret (v := .agg (stI zSt 0 2 (s.size : Int) false false)) (results_cell_row rfl _ _ (w.heap.size + 1) 82 (stI zSt 0 2 (s.size : Int) false false) (0, 0) _ rfl (Blk.setRow HR.out) Tryz.underlying82 rfl infoSt) rfl ⟨by rw [HRES.out] <;> rfl, below_row HB.out (by omega) _⟩
  have q10 : decide (bt s (i + 2) = 91 ∧ s.size ≤ i + 3) = false := decide_eq_false hJ
  rw [q10]
  go_upto_region 26 with fail
  go_cut [126] from 118 to 125 (fun s126 wx => s126 = .bool (decide (bt s (i + 2) = 91 ∧ spec3 (bt s (i + 3)) = true)) ∧ w1 = wx)
  case first =>
    by_cases hc : bt s (i + 2) = 91
    · have hlt3 : i + 3 < s.size := Nat.lt_of_not_le (fun h => hJ ⟨hc, h⟩)
      have b3 : s[i + 3].toNat = bt s (i + 3) := (bt_eq s (i + 3) hlt3).symm
      have q : ((bt s (i + 2) : Int) == 91) = true := by rw [beq_iff_eq]; omega
      have HC := Lib.hid hc
      clear hc
      go_wp2_with (go_at_call 47; refine (special_calls _ _).mono ?_; rintro e w' ⟨rfl, rfl⟩)
      go_meet
      exact ⟨by simp [HC.out], rfl⟩
    · have q : ((bt s (i + 2) : Int) == 91) = false := by rw [beq_eq_false_iff_ne]; omega
      have HC := Lib.hid hc
      clear hc
      go_wp2_with fail
      go_meet
      exact ⟨by simp [HC.out], rfl⟩
  case rest =>
  obtain ⟨rfl, rfl⟩ := hcut
  by_cases hK : bt s (i + 2) = 91 ∧ spec3 (bt s (i + 3)) = true
  · have q11 : decide (bt s (i + 2) = 91 ∧ spec3 (bt s (i + 3)) = true) = true := decide_eq_true hK
    have hres : thingR s ⟨t, i, err, place, fin, neg⟩ first = badR 3 (i + 4) := by unfold thingR; simp only [if_neg hA, if_neg hB, if_neg hC, if_neg hD, if_neg hE, if_neg hF, if_neg hG, if_neg hH, if_neg hI, if_neg hJ, if_pos hK]
    have HRES := Lib.hid hres
    clear hres
    go_wp2_with (first
      | (go_at_call 45; refine (badZ _ _ _).mono ?_; rintro e w' ⟨rfl, hb⟩; have HX2 := Lib.hid (HX.out.below hb (Blk.lt HX.out)); have HR2 := Lib.hid (HR.out.below hb (Blk.lt HR.out)); have HB2 := Lib.hid (HB.out.trans (hb.mono (by omega))); clear HX HR HB hb; have HX := HX2; have HR := HR2; have HB := HB2; clear HX2 HR2 HB2)
      | ((with_reducible refine wpList_load_row (o := ⟨_, .load 82 _, _, _, _, _⟩) rfl 82 _ rfl w.heap.size rfl 82 (stI t i err place fin neg) (0, 0) _ ?_ Tryz.underlying82 rfl ?_ ?_); exact HX.out; exact infoSt)
      | ((with_reducible refine wpList_store_st (o := ⟨none, .store 82 _ _, _, _, _, _⟩) rfl 82 _ _ rfl (w.heap.size + 1) rfl rfl (run_storeAt_row _ (w.heap.size + 1) 82 82 (stI 0 0 0 0 false false) (stI zSt 0 3 ((i : Int) + 4) false false) ?_ ?_ ?_ ?_) ?_); exact HR.out; exact infoSt; rfl; exact st_one _ _ _ _ _ _)
      )
    exact bodyPost_ret (v := .agg (stI zSt 0 3 ((i : Int) + 4) false false)) (results_cell_row rfl _ _ (w.heap.size + 1) 82 (stI zSt 0 3 ((i : Int) + 4) false false) (0, 0) _ rfl (Blk.setRow HR.out) Tryz.underlying82 rfl infoSt) rfl ⟨by rw [HRES.out] <;> rfl, below_row HB.out (by omega) _⟩
  have q11 : decide (bt s (i + 2) = 91 ∧ spec3 (bt s (i + 3)) = true) = false := decide_eq_false hK
  rw [q11]
  have hadd := add_calls t i err place fin neg (bt s i) (bt s (i + 2)) hbl hyl ((i : Int) + 3)
  generalize hR0 : t ||| range (bt s i) (bt s (i + 2)) = t' at hadd
  have HAD := Lib.hid hadd
  clear hadd
  have hre : addR ⟨t, i, err, place, fin, neg⟩ (bt s i) (bt s (i + 2)) (i + 3) = ⟨t', i + 3, err, place, fin, neg⟩ := by rw [← hR0]; rfl
  have HRE := Lib.hid hre
  clear hre hR0
  have hres : thingR s ⟨t, i, err, place, fin, neg⟩ first = ⟨t', i + 3, err, place, fin, neg⟩ := by unfold thingR; simp only [if_neg hA, if_neg hB, if_neg hC, if_neg hD, if_neg hE, if_neg hF, if_neg hG, if_neg hH, if_neg hI, if_neg hJ, if_neg hK]; exact HRE.out
  have HRES := Lib.hid hres
  clear hres
  go_wp2_with (first
    | (go_at_call 48; refine (HAD.out _).mono ?_; rintro e w' ⟨rfl, hb⟩; have HX2 := Lib.hid (HX.out.below hb (Blk.lt HX.out)); have HR2 := Lib.hid (HR.out.below hb (Blk.lt HR.out)); have HB2 := Lib.hid (HB.out.trans (hb.mono (by omega))); clear HX HR HB hb; have HX := HX2; have HR := HR2; have HB := HB2; clear HX2 HR2 HB2)
    | ((with_reducible refine wpList_load_row (o := ⟨_, .load 82 _, _, _, _, _⟩) rfl 82 _ rfl w.heap.size rfl 82 (stI t i err place fin neg) (0, 0) _ ?_ Tryz.underlying82 rfl ?_ ?_); exact HX.out; exact infoSt)
    | ((with_reducible refine wpList_store_st (o := ⟨none, .store 82 _ _, _, _, _, _⟩) rfl 82 _ _ rfl (w.heap.size + 1) rfl rfl (run_storeAt_row _ (w.heap.size + 1) 82 82 (stI 0 0 0 0 false false) (stI t' ((i : Int) + 3) err place fin neg) ?_ ?_ ?_ ?_) ?_); exact HR.out; exact infoSt; rfl; exact st_one _ _ _ _ _ _))
  exact bodyPost_ret (v := .agg (stI t' ((i : Int) + 3) err place fin neg)) (results_cell_row rfl _ _ (w.heap.size + 1) 82 (stI t' ((i : Int) + 3) err place fin neg) (0, 0) _ rfl (Blk.setRow HR.out) Tryz.underlying82 rfl infoSt) rfl ⟨by rw [HRES.out] <;> rfl, below_row HB.out (by omega) _⟩
end Go.Proofs.YthodphgbdmnpoaaGreat

/- sure: what must come whatever the input is. -/
namespace Go.Proofs.YthodphgbdmnpoaaGreat
open Go.RowKit Go.Shelf BS

def s0 : BitVec 256 := withL (range 97 99) [120]
theorem s0_98 : s0.getLsbD 98 = true := by decide +kernel
theorem s0_100 : s0.getLsbD 100 = false := by decide +kernel
theorem s0_cnt : cnt s0.getLsbD 256 = 4 := by decide +kernel
theorem s0_n1 : nextOf s0.getLsbD 100 = 120 := by decide +kernel
theorem s0_n2 : nextOf s0.getLsbD 121 = -1 := by decide +kernel
theorem s0_runs : runsOf (el s0.getLsbD 256) = [(97, 99), (120, 120)] := by decide +kernel

theorem with_calls (s : BitVec 256) (a : Option Addr) (len cap : Nat) (l : List (Fin 256)) (hreach : l.length ≤ 9223372036854775807) (w : World) (hI : BytesAt w.heap.size w (.slice a len cap) l) :
    Calls Tryz.prog 108 #[setV s, .slice a len cap] w fun e W' => e = .returned (setV (withL s l)) ∧ Below w.heap.size w W' :=
  callsIn_wide.1 (with_in 3 (by omega) s _ a len cap rfl l hreach w hI)
theorem bytes_one (W : World) (t : TypeId) (n : Int) (x : Fin 256) (hn : n = (x.val : Int)) : BytesAt (W.alloc (.cells #[.int .u8 n] t)).heap.size (W.alloc (.cells #[.int .u8 n] t)) (.slice (some ⟨W.heap.size, 0, none⟩) 1 1) [x] := by
  subst hn
  refine ⟨_, 1, rfl, fun _ => ⟨W.heap.size, 0, rfl, by simp, ?_⟩⟩
  intro j hj
  obtain rfl : j = 0 := by simpa using hj
  exact (Blk.new W _ t).cell 0

end Go.Proofs.YthodphgbdmnpoaaGreat

/- BsetTells: whether any byte is in any set, sets with more bytes, ranges, and what comes of any two sets. -/
namespace Go.Proofs.YthodphgbdmnpoaaGreat
open Go.RowKit Go.Shelf BS

def SN (w : World) (s : BitVec 256) (W : World) : Prop := (Blk W w.heap.size (setA s) 34 ∧ Blk W (w.heap.size + 1) (setA 0) 34) ∧ Below w.heap.size w W
theorem keepN {w W W' : World} {s : BitVec 256} (h : SN w s W) (hb : Below W.heap.size W W') : SN w s W' := ⟨⟨h.1.1.below hb h.1.1.lt, h.1.2.below hb h.1.2.lt⟩, h.2.trans (hb.mono h.2.size)⟩
theorem drewN {w W : World} {s : BitVec 256} (h : SN w s W) : SN w s W.drew := ⟨⟨h.1.1, h.1.2⟩, h.2.drew⟩

set_option maxRecDepth 100000 in
set_option maxHeartbeats 2000000 in
/-- Not, by the document. -/
theorem rnot_calls (s : BitVec 256) (w : World) : Calls Tryz.prog 40 #[setV s] w fun e w' => e = .returned (setV (~~~s)) ∧ Below w.heap.size w w' := by
  have h0 : SN w s ((w.alloc (.cells (setA s) 34)).alloc (.cells (setA 0) 34)) := by
    refine ⟨⟨(Blk.new w _ _).alloc _, ?_⟩, by go_grown⟩
    have := Blk.new (w.alloc (.cells (setA s) 34)) (setA 0) 34
    rwa [World.size_alloc] at this
  rw [← full_not s]
  have e255 : ((255 : Nat) : Int) = 255 := rfl
  go_enter Tryz.func40, Tryz.ntmps40
  go_wp2_with fail
  refine region_stepsM (S := SN w s) (m := 3) rfl (by kernel_rfl) (drewN h0) ?_
  simp only [List.size_toArray, List.length_cons, List.length_nil, Nat.reduceAdd, Array.replicate_succ, Array.replicate_zero, List.push_toArray, List.nil_append, List.cons_append]
  refine AnyM.next (m := 3) (i := 0) (d := some 3) (v := setV (range 0 255)) rfl rfl (by kernel_rfl) (by kernel_rfl) (by kernel_rfl) (by kernel_rfl) (StepsIf.call (by kernel_rfl) (fun w' hS => by clear hS; go_simp) (fun w' hS => (rrange_calls 0 255 w' (by decide) (by decide)).mono fun e w'' h => ⟨h.1, keepN hS h.2⟩)) ?_
  intro a' ha'
  simp only [Act.put, List.setIfInBounds_toArray, List.set_cons_zero, List.set_cons_succ] at ha'
  subst ha'
  refine AnyM.next (m := 3) (i := 1) (d := some 4) (v := setV s) rfl rfl (by kernel_rfl) (by kernel_rfl) (by kernel_rfl) (by kernel_rfl) (StepsIf.yield (by kernel_rfl) (fun w' hS => by obtain ⟨⟨c0, c1, c2, c3⟩, _⟩ := hS.1.1.cells4; clear hS; go_simp)) ?_
  intro a' ha'
  simp only [Act.put, List.setIfInBounds_toArray, List.set_cons_zero, List.set_cons_succ] at ha'
  subst ha'
  refine AnyM.next (m := 3) (i := 2) (d := some 5) (v := setV (range 0 255 &&& ~~~s)) rfl rfl (by kernel_rfl) (by kernel_rfl) (by kernel_rfl) (by kernel_rfl) (StepsIf.call (by kernel_rfl) (fun w' hS => by clear hS; go_simp) (fun w' hS => (rless_calls (range 0 255) s w').mono fun e w'' h => ⟨h.1, keepN hS h.2⟩)) ?_
  intro a' ha'
  simp only [Act.put, List.setIfInBounds_toArray, List.set_cons_zero, List.set_cons_succ] at ha'
  subst ha'
  clear h0
  refine AnyM.last rfl (by kernel_rfl) (by kernel_rfl) (by kernel_rfl) (fun w3 hU K hK => ?_)
  obtain ⟨⟨c0, c1, c2, c3⟩, f0, f1, f2, f3⟩ := hU.1.2.cells4
  have HU := Lib.hid hU
  clear hU
  generalize ht : (range 0 255 &&& ~~~s) = t at *
  have HT := Lib.hid ht
  clear ht
  go_simp
  refine hK _ _ ?_
  clear hK K
  go_wp2
  obtain ⟨hR, hB⟩ := fin4 HU.out.1.2 HU.out.2 (by omega) t
  clear c0 c1 c2 c3 f0 f1 f2 f3 HU e255
  generalize (((w3.setCell ⟨w.heap.size + 1, 0, none⟩ (.int .u64 (wd t 0))).setCell ⟨w.heap.size + 1, 1, none⟩ (.int .u64 (wd t 1))).setCell ⟨w.heap.size + 1, 2, none⟩ (.int .u64 (wd t 2))).setCell ⟨w.heap.size + 1, 3, none⟩ (.int .u64 (wd t 3)) = W4 at *
  obtain ⟨⟨e0, e1, e2, e3⟩, _⟩ := hR.cells4
  exact bodyPost_ret (v := setV t) (by simp [results, Tryz.results40, go_sem, e0, e1, e2, e3]) rfl ⟨by rw [HT.out], hB⟩

theorem rhasN (a : BitVec 256) (x : Nat) (w : World) (hx : x < 256) : Calls Tryz.prog 52 #[setV a, .int .i64 x] w fun e w' => e = .returned (.bool (a.getLsbD x)) ∧ Below w.heap.size w w' := by
  have h := rhas_calls a x w (by omega) (by omega)
  rw [Int.toNat_natCast] at h; exact h
theorem rangeN (x y : Nat) (w : World) (hx : x < 256) (hy : y < 256) : Calls Tryz.prog 125 #[.int .u8 x, .int .u8 y] w fun e w' => e = .returned (setV (range x y)) ∧ Below w.heap.size w w' := by
  have h := range_calls x y w (by omega) (by omega) (by omega) (by omega)
  rw [Int.toNat_natCast, Int.toNat_natCast] at h; exact h

theorem BytesAt.mono {n n' : Nat} {W : World} {v : Value} {l : List (Fin 256)} (h : BytesAt n W v l) (hn : n ≤ n') : BytesAt n' W v l := by
  obtain ⟨a, cap, e, h⟩ := h
  refine ⟨a, cap, e, fun hne => ?_⟩
  obtain ⟨b, off, e, hlt, hc⟩ := h hne
  exact ⟨b, off, e, by omega, hc⟩
end Go.Proofs.YthodphgbdmnpoaaGreat

/- The document's brackets: Read. -/
namespace Go.Proofs.YthodphgbdmnpoaaGreat
open Go.RowKit Go.Shelf BS

theorem startR_pos (s : ByteArray) (a : Nat) (h : a < s.size) : (startR s a).pos ≤ s.size ∧ (startR s a).err = 0 ∧ (startR s a).fin = false ∧ (startR s a).place = 0 := by
  unfold startR
  split <;> exact ⟨by simp only; omega, rfl, rfl, rfl⟩
def leftR (n : Nat) (v : Option Value) : Nat := match v with | some (.int _ p) => n - p.toNat | _ => 0
theorem tup4 (fn : Func) (p a b c : Tmp) (ty : TypeId) (h : fn.results = #[.cell p ty, .tmp a, .tmp b, .tmp c]) (tmps : Array Value) (P : Program) (w : World) :
    (results fn tmps).run P w = ((asAddr (tmps.getD p undef)).run P w).andThen fun x w₁ => ((loadVar ty x).run P w₁).andThen fun v w₂ => .ok (.tuple #[v, tmps.getD a undef, tmps.getD b undef, tmps.getD c undef]) w₂ := by
  simp only [results, h]
  simp [Sem.run_bind, Result.andThen]

set_option maxRecDepth 100000 in
set_option maxHeartbeats 8000000 in
theorem rRead_calls (s : ByteArray) (hs : s.size ≤ 1000000) (at' : Int) (w : World) :
    Calls Tryz.prog 30 #[.string s, .int .i64 at'] w fun e w' => e = .returned (.tuple #[setV (readR s at').1, .int .i64 (readR s at').2.1, .int .i64 (readR s at').2.2.1, .int .i64 (readR s at').2.2.2]) ∧ Below w.heap.size w w' := by
  have b0 := Blk.new w (setA 0) 34
  have hB0 : Below w.heap.size w (w.alloc (.cells (setA 0) 34)) := by go_grown
  obtain ⟨⟨c0, c1, c2, c3⟩, f0, f1, f2, f3⟩ := b0.cells4
  by_cases ha : at' < 0
  · have q : decide (at' < 0) = true := by simpa using ha
    have hres : readR s at' = (0, 0, 1, 0) := by unfold readR; rw [if_pos ha]
    rw [hres]
    clear hres
    go_enter Tryz.func30, Tryz.ntmps30
    go_wp2
    exact bodyPost_ret (v := .tuple #[.agg #[.int .u64 0, .int .u64 0, .int .u64 0, .int .u64 0], .int .i64 0, .int .i64 1, .int .i64 0]) (by simp [results, Tryz.results30, go_sem]) rfl ⟨rfl, hB0⟩
  obtain ⟨a, rfl⟩ := Int.eq_ofNat_of_zero_le (show 0 ≤ at' by omega)
  by_cases hb : s.size ≤ a
  · have q : decide (s.size ≤ a) = true := by simpa using hb
    have hres : readR s (a : Int) = (0, 0, 1, 0) := by unfold readR; rw [if_neg ha, if_pos (.inl (by simpa using hb))]
    rw [hres]
    clear hres
    go_enter Tryz.func30, Tryz.ntmps30
    go_wp2
    exact bodyPost_ret (v := .tuple #[.agg #[.int .u64 0, .int .u64 0, .int .u64 0, .int .u64 0], .int .i64 0, .int .i64 1, .int .i64 0]) (by simp [results, Tryz.results30, go_sem]) rfl ⟨rfl, hB0⟩
  have q : decide (s.size ≤ a) = false := by simpa using hb
  have hlt : a < s.size := by omega
  have bb : s[a].toNat = bt s a := (bt_eq s a hlt).symm
  by_cases hc : bt s a ≠ 91
  · have q2 : ((bt s a : Int) != 91) = true := by rw [bne_iff_ne]; omega
    have hres : readR s (a : Int) = (0, 0, 1, 0) := by unfold readR; rw [if_neg ha, if_pos (.inr (by simpa using hc))]
    rw [hres]
    clear hres
    go_enter Tryz.func30, Tryz.ntmps30
    go_wp2
    exact bodyPost_ret (v := .tuple #[.agg #[.int .u64 0, .int .u64 0, .int .u64 0, .int .u64 0], .int .i64 0, .int .i64 1, .int .i64 0]) (by simp [results, Tryz.results30, go_sem]) rfl ⟨rfl, hB0⟩
  have q2 : ((bt s a : Int) != 91) = false := by have : bt s a = 91 := Decidable.not_not.1 hc; rw [this]; rfl
  have hres : readR s (a : Int) = finR (loopR s (s.size + 1) (startR s a) true) := by
    unfold readR
    rw [if_neg ha, if_neg (by simp; omega)]
    simp
  rw [hres]
  obtain ⟨p1, p2, p3, p4⟩ := startR_pos s a hlt
  generalize hL : loopR s (s.size + 1) (startR s a) true = L
  have HL := Lib.hid hL
  clear hres hL hc
  have HS1 : a + 1 < s.size ∧ bt s (a + 1) = 94 → startR s a = ⟨0, a + 2, 0, 0, false, true⟩ := fun h => by unfold startR; rw [if_pos h]
  have HS2 : ¬ (a + 1 < s.size ∧ bt s (a + 1) = 94) → startR s a = ⟨0, a + 1, 0, 0, false, false⟩ := fun h => by unfold startR; rw [if_neg h]
  generalize startR s a = x0 at *
  have HH1 := Lib.hid HS1
  have HH2 := Lib.hid HS2
  clear HS1 HS2
  have bX := Blk.new (w.alloc (.cells (setA 0) 34)) (stI 0 ((a : Int) + 1) 0 0 false false) 82
  rw [World.size_alloc] at bX
  have bR := b0.alloc (.cells (stI 0 ((a : Int) + 1) 0 0 false false) 82)
  have hBX : Below w.heap.size w ((w.alloc (.cells (setA 0) 34)).alloc (.cells (stI 0 ((a : Int) + 1) 0 0 false false) 82)) := hB0.alloc (by simp) _
  clear c0 c1 c2 c3 f0 f1 f2 f3 b0 hB0
  go_enter Tryz.func30, Tryz.ntmps30
  go_upto_region 4 with fail
  have e0 : ((w.alloc (.cells #[.int .u64 0, .int .u64 0, .int .u64 0, .int .u64 0] 34)).alloc (.cells #[.int .u64 0, .int .u64 0, .int .u64 0, .int .u64 0, .int .i64 ((a : Int) + 1), .int .i64 0, .int .i64 0, .bool false, .bool false] 82)) = (w.alloc (.cells (setA 0) 34)).alloc (.cells (stI 0 ((a : Int) + 1) 0 0 false false) 82) := rfl
  rw [e0]
  clear e0
  generalize (w.alloc (.cells (setA 0) 34)).alloc (.cells (stI 0 ((a : Int) + 1) 0 0 false false) 82) = w1 at *
  go_cut [39] from 28 to 38 (fun s39 wx => ∃ b : Bool, s39 = .bool b ∧ Hid (b = true ↔ (a + 1 < s.size ∧ bt s (a + 1) = 94)) ∧ w1 = wx)
  case first =>
    by_cases h1 : a + 1 < s.size
    · have r1 : decide ((a : Int) + 1 < (s.size : Int)) = true := by rw [decide_eq_true_eq]; omega
      have b1 : s[a + 1].toNat = bt s (a + 1) := (bt_eq s (a + 1) h1).symm
      by_cases h2 : bt s (a + 1) = 94
      · have r2 : ((bt s (a + 1) : Int) == 94) = true := by rw [beq_iff_eq]; omega
        have K1 := Lib.hid h1
        have K2 := Lib.hid h2
        clear h2
        go_wp2_with fail
        go_meet
        exact ⟨true, rfl, Lib.hid (by simp [K1.out, K2.out]), rfl⟩
      · have r2 : ((bt s (a + 1) : Int) == 94) = false := by rw [beq_eq_false_iff_ne]; omega
        have K2 := Lib.hid h2
        clear h2
        go_wp2_with fail
        go_meet
        exact ⟨false, rfl, Lib.hid (by simp [K2.out]), rfl⟩
    · have r1 : decide ((a : Int) + 1 < (s.size : Int)) = false := by rw [decide_eq_false_iff_not]; omega
      have K1 := Lib.hid h1
      clear h1
      go_wp2_with fail
      go_meet
      exact ⟨false, rfl, Lib.hid (by simp [K1.out]), rfl⟩
  case rest =>
  obtain ⟨b, rfl, HBB, rfl⟩ := hcut
  have BX := Lib.hid bX
  have BR := Lib.hid bR
  have HBX := Lib.hid hBX
  have hz : w.heap.size + 2 ≤ w1.heap.size := by have := BX.out.lt; omega
  clear bX bR hBX
  go_upto_if 39 with (fail)
  go_cut [40] from 41 to 43 (fun s40 wx => Blk wx (w.heap.size + 1) (stA x0) 82 ∧ Blk wx w.heap.size (setA 0) 34 ∧ Below w.heap.size w wx ∧ w.heap.size + 2 ≤ wx.heap.size)
  case first =>
    cases b with
    | true =>
      have h := HBB.out.1 rfl
      have c4 := BX.out.cell 4; have c8 := BX.out.cell 8; have f4 := BX.out.frozen 4; have f8 := BX.out.frozen 8
      simp only [List.getElem?_toArray, List.getElem?_cons_zero, List.getElem?_cons_succ] at c4 c8
      have hx := HH1.out h
      have HX2 := Lib.hid (show Blk ((w1.setCell ⟨w.heap.size + 1, 8, none⟩ (.bool true)).setCell ⟨w.heap.size + 1, 4, none⟩ (.int .i64 ((a : Int) + 2))) (w.heap.size + 1) (stA x0) 82 by rw [hx]; exact (BX.out.set 8 (.bool true)).set 4 (.int .i64 ((a : Int) + 2)))
      have HR2 := Lib.hid ((BR.out.other (show w.heap.size ≠ w.heap.size + 1 by omega) 8 (.bool true)).other (show w.heap.size ≠ w.heap.size + 1 by omega) 4 (.int .i64 ((a : Int) + 2)))
      have HB2 := Lib.hid (below_set (below_set HBX.out (show w.heap.size ≤ w.heap.size + 1 by omega) 8 (.bool true)) (show w.heap.size ≤ w.heap.size + 1 by omega) 4 (.int .i64 ((a : Int) + 2)))
      clear h hx
      go_wp2_with fail
      go_meet
      exact ⟨HX2.out, HR2.out, HB2.out, by simpa using hz⟩
    | false =>
      have hx := HH2.out (fun h => by have := HBB.out.2 h; cases this)
      have HX2 := Lib.hid (show Blk w1 (w.heap.size + 1) (stA x0) 82 by rw [hx]; exact BX.out)
      clear hx
      go_wp2_with fail
      go_meet
      exact ⟨HX2.out, BR.out, HBX.out, hz⟩
  case rest =>
  obtain ⟨hX, hR, hB, hz2⟩ := hcut
  clear BX BR HBX hz HH1 HH2 bb
  go_wp2_with fail
  go_loopw [9] (fun v wr => ∃ (x : BR) (first : Bool) (n : Nat), v = .bool first ∧ loopR s (n + 1) x first = L ∧ x.err = 0 ∧ x.pos ≤ s.size ∧ s.size ≤ n + x.pos ∧ Blk wr (w.heap.size + 1) (stA x) 82 ∧ Blk wr w.heap.size (setA 0) 34 ∧ Below w.heap.size w wr ∧ w.heap.size + 2 ≤ wr.heap.size)
    (fun _ wr => leftR (s.size + 1) (wr.cell? ⟨w.heap.size + 1, 4, none⟩))
  case atStart => exact ⟨x0, true, s.size, rfl, HL.out, p2, p1, by omega, hX, hR, hB, hz2⟩
  case round =>
    clear hX hR hB hz2 p1 p2 p3 p4
    obtain ⟨x, first, n, rfl, hl, he, hp, hn, hX, hR, hB, hz⟩ := hrel
    obtain ⟨t, i, err, place, fin, neg⟩ := x
    simp only at he hp hn
    subst he
    replace hX : Blk wr (w.heap.size + 1) (stI t i 0 place fin neg) 82 := hX
    have c7 := hX.cell 7
    simp only [List.getElem?_toArray, List.getElem?_cons_zero, List.getElem?_cons_succ] at c7
    have HX := Lib.hid hX
    have HR := Lib.hid hR
    have HB := Lib.hid hB
    have HLL := Lib.hid hl
    clear hX hR hB hl
    cases fin with
    | false =>
      have hth := thing_calls s hs t i 0 place false neg first
      have hok := thingR_ok s ⟨t, i, 0, place, false, neg⟩ first
      have hon := loopR_on s n ⟨t, i, 0, place, false, neg⟩ first rfl
      have her := loopR_err s n ⟨t, i, 0, place, false, neg⟩ first rfl
      generalize thingR s ⟨t, i, 0, place, false, neg⟩ first = y at hth hok hon her
      obtain ⟨t', i', err', place', fin', neg'⟩ := y
      simp only at hok hon her
      have HTH : Hid (∀ w, Calls Tryz.prog 39 #[.string s, .agg (stI t i 0 place false neg), .bool first] w fun e w' => e = .returned (.agg (stI t' i' err' place' fin' neg')) ∧ Below w.heap.size w w') := Lib.hid hth
      have HOK := Lib.hid hok
      have HON := Lib.hid hon
      have HER := Lib.hid her
      clear hth hok hon her
      go_wp2_with (first
        | ((with_reducible refine wpList_load_row (o := ⟨some 48, _, _, _, _, _⟩) rfl 82 _ rfl (w.heap.size + 1) rfl 82 (stI t i 0 place false neg) (0, 0) _ ?_ Tryz.underlying82 rfl ?_ ?_); exact HX.out; exact infoSt)
        | fail)
      refine (HTH.out _).mono ?_
      rintro e w3 ⟨rfl, hb⟩
      have HX3 := Lib.hid (HX.out.below hb (by omega))
      have HR3 := Lib.hid (HR.out.below hb (by omega))
      have HB3 := Lib.hid (HB.out.trans (hb.mono (by omega)))
      have hz3 := Nat.le_trans hz hb.size
      have HXO := HX.out.cell 4
      simp only [List.getElem?_toArray, List.getElem?_cons_zero, List.getElem?_cons_succ] at HXO
      replace HXO := Lib.hid HXO
      clear hb HX HR HB c7
      have HX4 := Lib.hid (Blk.setRow (cs := stI t' i' err' place' fin' neg') HX3.out)
      have HR4 := Lib.hid (show Blk (w3.setRow (w.heap.size + 1) (stI t' i' err' place' fin' neg')) w.heap.size (setA 0) 34 from (Below.block (below_setRow (B := w.heap.size + 1) (Below.refl _ w3) (Nat.le_refl _) _) _ (Nat.lt_succ_self _)).trans HR3.out)
      have HB4 := Lib.hid (below_row HB3.out (show w.heap.size ≤ w.heap.size + 1 by omega) (stI t' i' err' place' fin' neg'))
      have hz4 : w.heap.size + 2 ≤ (w3.setRow (w.heap.size + 1) (stI t' i' err' place' fin' neg')).heap.size := by simpa using hz3
      by_cases he : err' = 0
      · subst he
        have c5 : (w3.setRow (w.heap.size + 1) (stI t' i' 0 place' fin' neg')).cell? ⟨w.heap.size + 1, 5, none⟩ = some (.int .i64 0) := HX4.out.cell 5
        go_wp2_with (first
          | ((with_reducible refine wpList_store_st (o := ⟨none, .store 82 _ _, _, _, _, _⟩) rfl 82 _ _ rfl (w.heap.size + 1) rfl rfl (run_storeAt_row _ (w.heap.size + 1) 82 82 (stI t i 0 place false neg) (stI t' i' 0 place' fin' neg') ?_ ?_ ?_ ?_) ?_); exact HX3.out; exact infoSt; rfl; exact st_one _ _ _ _ _ _)
          | fail)
        have hok := HOK.out (by first | exact trivial | rfl)
        obtain ⟨m, rfl⟩ : ∃ m, n = m + 1 := ⟨n - 1, by omega⟩
        have hl2 := (HON.out (by first | exact trivial | rfl)).symm.trans HLL.out
        have c4 : (w3.setRow (w.heap.size + 1) (stI t' i' 0 place' fin' neg')).cell? ⟨w.heap.size + 1, 4, none⟩ = some (.int .i64 i') := HX4.out.cell 4
        have c4' := HXO.out
        go_roundw
        case rel => exact ⟨⟨t', i', 0, place', fin', neg'⟩, false, m, rfl, hl2, rfl, hok.2.1, by simp only; omega, HX4.out, HR4.out, HB4.out, hz4⟩
        case measure => rw [c4, c4']; simp [leftR]; omega
      · have hL := (HER.out he).symm.trans HLL.out
        have q6 : ((err' : Int) != 0) = true := by rw [bne_iff_ne]; omega
        have c5 : (w3.setRow (w.heap.size + 1) (stI t' i' err' place' fin' neg')).cell? ⟨w.heap.size + 1, 5, none⟩ = some (.int .i64 err') := HX4.out.cell 5
        have hfL : finR L = (0, 0, err', place') := by rw [← hL]; unfold finR; rw [if_pos (show (⟨t', i', err', place', fin', neg'⟩ : BR).err ≠ 0 from he)]
        have HFL := Lib.hid hfL
        clear hL hfL he
        go_wp2_with (first
          | ((with_reducible refine wpList_store_st (o := ⟨none, .store 82 _ _, _, _, _, _⟩) rfl 82 _ _ rfl (w.heap.size + 1) rfl rfl (run_storeAt_row _ (w.heap.size + 1) 82 82 (stI t i 0 place false neg) (stI t' i' err' place' fin' neg') ?_ ?_ ?_ ?_) ?_); exact HX3.out; exact infoSt; rfl; exact st_one _ _ _ _ _ _)
          | fail)
        have c6 : (w3.setRow (w.heap.size + 1) (stI t' i' err' place' fin' neg')).cell? ⟨w.heap.size + 1, 6, none⟩ = some (.int .i64 place') := HX4.out.cell 6
        clear HX3 HR3 HB3 hz3 HX4 HOK HON HER HTH
        generalize w3.setRow (w.heap.size + 1) (stI t' i' err' place' fin' neg') = w4 at *
        obtain ⟨⟨c0, c1, c2, c3⟩, f0, f1, f2, f3⟩ := HR4.out.cells4
        go_region
        go_wp2
        obtain ⟨hR5, hB5⟩ := fin4 HR4.out HB4.out (Nat.le_refl _) 0
        have e9 : ((((w4.setCell ⟨w.heap.size, 0, none⟩ (.int .u64 0)).setCell ⟨w.heap.size, 1, none⟩ (.int .u64 0)).setCell ⟨w.heap.size, 2, none⟩ (.int .u64 0)).setCell ⟨w.heap.size, 3, none⟩ (.int .u64 0)) = ((((w4.setCell ⟨w.heap.size, 0, none⟩ (.int .u64 (wd 0 0))).setCell ⟨w.heap.size, 1, none⟩ (.int .u64 (wd 0 1))).setCell ⟨w.heap.size, 2, none⟩ (.int .u64 (wd 0 2))).setCell ⟨w.heap.size, 3, none⟩ (.int .u64 (wd 0 3))) := rfl
        rw [e9]
        clear e9 c0 c1 c2 c3 f0 f1 f2 f3 c5 c6
        generalize ((((w4.setCell ⟨w.heap.size, 0, none⟩ (.int .u64 (wd 0 0))).setCell ⟨w.heap.size, 1, none⟩ (.int .u64 (wd 0 1))).setCell ⟨w.heap.size, 2, none⟩ (.int .u64 (wd 0 2))).setCell ⟨w.heap.size, 3, none⟩ (.int .u64 (wd 0 3))) = W5 at *
        obtain ⟨⟨e0, e1, e2, e3⟩, _⟩ := hR5.cells4
        exact bodyPost_ret (v := .tuple #[setV 0, .int .i64 0, .int .i64 err', .int .i64 place']) (by simp [results, Tryz.results30, go_sem, e0, e1, e2, e3]) rfl ⟨by rw [HFL.out] <;> rfl, hB5.drew⟩
    | true =>
      have hfin : (⟨t, i, 0, place, true, neg⟩ : BR) = L := by rw [← HLL.out, loopR_fin _ _ _ _ rfl]
      have hfL : finR L = (if neg = true then ~~~t else t, i, 0, 0) := by rw [← hfin]; rfl
      have HFL := Lib.hid hfL
      clear hfin hfL
      have c8 := HX.out.cell 8
      have c4 := HX.out.cell 4
      have d0 := HX.out.cell 0; have d1 := HX.out.cell 1; have d2 := HX.out.cell 2; have d3 := HX.out.cell 3
      simp only [List.getElem?_toArray, List.getElem?_cons_zero, List.getElem?_cons_succ] at c8 c4 d0 d1 d2 d3
      cases neg with
      | false =>
        obtain ⟨⟨c0, c1, c2, c3⟩, f0, f1, f2, f3⟩ := HR.out.cells4
        go_wp2_with fail
        go_region
        go_wp2
        obtain ⟨hR5, hB5⟩ := fin4 HR.out HB.out (Nat.le_refl _) t
        clear c0 c1 c2 c3 f0 f1 f2 f3 c4 d0 d1 d2 d3 c7 c8
        generalize ((((wr.setCell ⟨w.heap.size, 0, none⟩ (.int .u64 (wd t 0))).setCell ⟨w.heap.size, 1, none⟩ (.int .u64 (wd t 1))).setCell ⟨w.heap.size, 2, none⟩ (.int .u64 (wd t 2))).setCell ⟨w.heap.size, 3, none⟩ (.int .u64 (wd t 3))) = W5 at *
        obtain ⟨⟨e0, e1, e2, e3⟩, _⟩ := hR5.cells4
        exact bodyPost_ret (v := .tuple #[setV t, .int .i64 i, .int .i64 0, .int .i64 0]) (by simp [results, Tryz.results30, go_sem, e0, e1, e2, e3]) rfl ⟨by rw [HFL.out] <;> rfl, hB5.drew⟩
      | true =>
        have hnt := rnot_calls t
        generalize hr : ~~~t = r at hnt
        have HNT := Lib.hid hnt
        have HRR := Lib.hid hr
        clear hnt hr
        go_wp2_with fail
        refine (HNT.out _).mono ?_
        rintro e w3 ⟨rfl, hb⟩
        have HX3 := Lib.hid (HX.out.below hb (by omega))
        have HR3 := Lib.hid (HR.out.below hb (by omega))
        have HB3 := Lib.hid (HB.out.trans (hb.mono (by omega)))
        clear hb HX HR HB c8 c4 d0 d1 d2 d3 c7
        have c0 := HX3.out.cell 0; have c1 := HX3.out.cell 1; have c2 := HX3.out.cell 2; have c3 := HX3.out.cell 3
        have f0 := HX3.out.frozen 0; have f1 := HX3.out.frozen 1; have f2 := HX3.out.frozen 2; have f3 := HX3.out.frozen 3
        simp only [List.getElem?_toArray, List.getElem?_cons_zero, List.getElem?_cons_succ] at c0 c1 c2 c3
        go_upto_region 15 with fail
        have hne : w.heap.size ≠ w.heap.size + 1 := by omega
        have HX4 := Lib.hid (show Blk _ _ (stI r i 0 place true true) 82 from (((HX3.out.set 0 (.int .u64 (wd r 0))).set 1 (.int .u64 (wd r 1))).set 2 (.int .u64 (wd r 2))).set 3 (.int .u64 (wd r 3)))
        have HR4 := Lib.hid ((((HR3.out.other hne 0 (.int .u64 (wd r 0))).other hne 1 (.int .u64 (wd r 1))).other hne 2 (.int .u64 (wd r 2))).other hne 3 (.int .u64 (wd r 3)))
        have hle : w.heap.size ≤ w.heap.size + 1 := by omega
        have HB4 := Lib.hid (below_set (below_set (below_set (below_set HB3.out hle 0 (.int .u64 (wd r 0))) hle 1 (.int .u64 (wd r 1))) hle 2 (.int .u64 (wd r 2))) hle 3 (.int .u64 (wd r 3)))
        clear c0 c1 c2 c3 f0 f1 f2 f3 HX3 HR3 HB3 hne hle
        generalize ((((w3.setCell ⟨w.heap.size + 1, 0, none⟩ (.int .u64 (wd r 0))).setCell ⟨w.heap.size + 1, 1, none⟩ (.int .u64 (wd r 1))).setCell ⟨w.heap.size + 1, 2, none⟩ (.int .u64 (wd r 2))).setCell ⟨w.heap.size + 1, 3, none⟩ (.int .u64 (wd r 3))) = w4 at *
        have c4 := HX4.out.cell 4; have d0 := HX4.out.cell 0; have d1 := HX4.out.cell 1; have d2 := HX4.out.cell 2; have d3 := HX4.out.cell 3
        simp only [List.getElem?_toArray, List.getElem?_cons_zero, List.getElem?_cons_succ] at c4 d0 d1 d2 d3
        obtain ⟨⟨c0, c1, c2, c3⟩, f0, f1, f2, f3⟩ := HR4.out.cells4
        go_region
        go_wp2
        obtain ⟨hR5, hB5⟩ := fin4 HR4.out HB4.out (Nat.le_refl _) r
        clear c0 c1 c2 c3 f0 f1 f2 f3 c4 d0 d1 d2 d3
        generalize ((((w4.setCell ⟨w.heap.size, 0, none⟩ (.int .u64 (wd r 0))).setCell ⟨w.heap.size, 1, none⟩ (.int .u64 (wd r 1))).setCell ⟨w.heap.size, 2, none⟩ (.int .u64 (wd r 2))).setCell ⟨w.heap.size, 3, none⟩ (.int .u64 (wd r 3))) = W5 at *
        obtain ⟨⟨e0, e1, e2, e3⟩, _⟩ := hR5.cells4
        exact bodyPost_ret (v := .tuple #[setV r, .int .i64 i, .int .i64 0, .int .i64 0]) (by simp [results, Tryz.results30, go_sem, e0, e1, e2, e3]) rfl ⟨by rw [HFL.out, if_pos trivial, HRR.out] <;> rfl, hB5.drew⟩
end Go.Proofs.YthodphgbdmnpoaaGreat

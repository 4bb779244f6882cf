/- The developers' counts: what digits end in; behindComma, inBraces. -/
import Derived.Test.YtfpipiegncoamaaDoorMb
namespace Go.Proofs.YtfpipiegncoamaaDoor
open Go.RowKit

theorem invD_start : InvD 0 0 := ⟨by omega, fun _ => rfl, fun _ => by omega, by omega⟩
theorem invD_step (v d b : Nat) (h : InvD v d) (hb : 48 ≤ b ∧ b ≤ 57) (hf : fullD v d = false) : InvD (10 * v + (b - 48)) (d + 1) := by
  obtain ⟨i1, i2, i3, i4⟩ := h
  have h2 : ¬ (d = 2) := by rintro rfl; simp [fullD] at hf
  have hv9 : v ≤ 9 := i3 (by omega)
  refine ⟨by omega, fun h => by omega, fun h => ?_, by omega⟩
  have := i2 (by omega)
  omega
/-- What a number ends in. -/
def EndD (s : ByteArray) (least i : Nat) (r : Nat × Nat × Nat × Nat) : Prop :=
  (r.2.2.2 = 0 ∧ i ≤ r.2.2.1 ∧ r.2.2.1 ≤ s.size ∧ InvD r.1 r.2.1 ∧ (r.2.2.1 = s.size ∨ ¬ (48 ≤ bt s r.2.2.1 ∧ bt s r.2.2.1 ≤ 57)) ∧ (0 < r.2.1 → least ≤ mostD r.1 r.2.1)) ∨
  (∃ p, r = (0, 0, p, 6) ∧ i < p ∧ p ≤ s.size)
theorem digD_end (s : ByteArray) (least a : Nat) : ∀ k i v d, InvD v d → a ≤ i → k + i = s.size → (0 < d → least ≤ mostD v d) → EndD s least a (digD s least k i v d)
  | 0, i, v, d, h, ha, hk, hm => .inl ⟨rfl, ha, by simp only [digD]; omega, h, .inl (by simp only [digD]; omega), hm⟩
  | k + 1, i, v, d, h, ha, hk, hm => by
    rw [digD]
    by_cases hd : 48 ≤ bt s i ∧ bt s i ≤ 57
    · rw [if_pos hd]
      cases hf : fullD v d with
      | true => rw [if_pos rfl]; exact .inr ⟨i + 1, rfl, by omega, by omega⟩
      | false =>
        rw [if_neg (by decide)]
        by_cases hl : mostD (10 * v + (bt s i - 48)) (d + 1) < least
        · rw [if_pos hl]; exact .inr ⟨i + 1, rfl, by omega, by omega⟩
        · rw [if_neg hl]; exact digD_end s least a k (i + 1) _ _ (invD_step v d _ h hd hf) (by omega) (by omega) (fun _ => by omega)
    · rw [if_neg hd]; exact .inl ⟨rfl, ha, by simp only; omega, h, .inr hd, hm⟩
theorem digsD_end (s : ByteArray) (i least : Nat) (hi : i ≤ s.size) : EndD s least i (digsD s i least) := digD_end s least i _ i 0 0 invD_start (Nat.le_refl _) (by omega) (fun h => by omega)

set_option maxRecDepth 100000 in
set_option maxHeartbeats 16000000 in
theorem commaD_calls (s : ByteArray) (hs : s.size ≤ 60000) (i n : Nat) (hi : i ≤ s.size) (w : World) :
    Calls Tryd.prog 28 #[.string s, .int .i64 i, .int .i64 n] w fun en w' => en = .returned (.agg (rdA (commaD s i n))) ∧ Below w.heap.size w w' := by
  have HR := Lib.hid (Blk.new w (rdI 0 0 0 eT 0) 38)
  have HB : Hid (Below w.heap.size w (w.alloc (.cells (rdI 0 0 0 eT 0) 38))) := Lib.hid (by go_grown)
  have hz : w.heap.size + 1 ≤ (w.alloc (.cells (rdI 0 0 0 eT 0) 38)).heap.size := by simp
  have HD := Lib.hid (digsD_calls s hs i n hi)
  have hE := digsD_end s i n hi
  have hg : commaD s i n = commaD s i n := rfl
  conv at hg => rhs; unfold commaD
  generalize digsD s i n = X at *
  obtain ⟨v, d, p, e⟩ := X
  simp only at hg hE
  generalize commaD s i n = Y at *
  replace HD : Hid (∀ w, Calls Tryd.prog 26 #[.string s, .int .i64 i, .int .i64 n] w fun en w' => en = .returned (.tuple #[.agg (nuI v d), .int .i64 p, .int .i64 e]) ∧ Below w.heap.size w w') := HD
  have hp : p ≤ s.size := by
    rcases hE with ⟨_, _, h, _⟩ | ⟨q, h, _, h2⟩
    · exact h
    · cases h; exact h2
  have hv : v ≤ 99 := by
    rcases hE with ⟨_, _, _, h, _⟩ | ⟨q, h, _, h2⟩
    · exact h.2.2.2
    · cases h; omega
  clear hE
  go_enter Tryd.func28, Tryd.ntmps28
  go_upto_region 1 with fail
  have e0 : w.alloc (.cells #[.int .i64 0, .int .i64 0, .int .i64 0, .string ⟨#[]⟩, .int .i64 0] 38) = w.alloc (.cells (rdI 0 0 0 eT 0) 38) := rfl
  try rw [e0]
  clear e0
  generalize w.alloc (.cells (rdI 0 0 0 eT 0) 38) = w1 at *
  go_wp2_with fail
  refine (HD.out _).mono ?_
  rintro en w2 ⟨rfl, hb⟩
  have HR2 := Lib.hid (HR.out.below hb (Blk.lt HR.out))
  have HB2 := Lib.hid (HB.out.trans (hb.mono (by omega)))
  have hz2 := Nat.le_trans hz hb.size
  clear HR HB hz hb
  have HR := HR2
  have HB := HB2
  have hz := hz2
  clear HR2 HB2 hz2
  clear HD
  go_upto_region 2 with fail
  have HP := Lib.hid (Blk.new w2 (nuI v d) 49)
  replace HR := Lib.hid (HR.out.alloc (.cells (nuI v d) 49))
  replace HB := Lib.hid (HB.out.alloc (by omega) (.cells (nuI v d) 49))
  have hz2 : w.heap.size + 1 ≤ (w2.alloc (.cells (nuI v d) 49)).heap.size := by simp; omega
  clear hz
  have hz := hz2
  clear hz2
  generalize w2.alloc (.cells (nuI v d) 49) = w3 at *
  generalize w2.heap.size = B at *
  have c0 := HP.out.cell 0
  have c1 := HP.out.cell 1
  simp only [List.getElem?_toArray, List.getElem?_cons_zero, List.getElem?_cons_succ] at c0 c1
  clear HP
  have HG := Lib.hid hg
  clear hg
  by_cases hd : 0 < d
  · by_cases hv2 : v < n
    · have hxx := hd
      have hls : lessD v d n = true := by simp [lessD, hd, hv2]
      rw [hls] at HG
      clear hls
      have qd : decide (0 < d) = true := by simpa using hd
      have qv : decide (v < n) = true := by simpa using hv2
      by_cases he : e = 0
      · subst he
        have hG := HG.out
        rw [if_neg (show ¬ ((0 : Nat) ≠ 0) from fun h => h rfl)] at hG
        replace HG := Lib.hid hG
        clear hG
        by_cases hps : p = s.size
        · subst hps
          have HRES := Lib.hid (show Y = shortR s [57, 125] by rw [HG.out, if_pos ⟨rfl, rfl⟩])
          clear HG 
          have HFA := Lib.hid (shortR_calls s ⟨#[57, 125]⟩)
          go_wp2_with fail
          refine (HFA.out _).mono ?_
          rintro en w4 ⟨rfl, hb⟩
          have HR2 := Lib.hid (HR.out.below hb (Blk.lt HR.out))
          have HB2 := Lib.hid (HB.out.trans (hb.mono (by omega)))
          have hz2 := Nat.le_trans hz hb.size
          clear HR HB hz hb
          have HR := HR2
          have HB := HB2
          have hz := hz2
          clear HR2 HB2 hz2
          go_wp2_with ((with_reducible refine wpList_store_st (o := ⟨none, .store 38 _ _, _, _, _, _⟩) rfl 38 _ _ rfl w.heap.size rfl rfl (run_storeAt_row _ w.heap.size 38 38 (rdI 0 0 0 eT 0) (rdI 0 0 s.size ⟨#[57, 125]⟩ 2) ?_ ?_ ?_ ?_) ?_); exact HR.out; exact infoRd; rfl; exact rd_one _ _ _ _ _)
          exact bodyPost_ret (v := .agg (rdI 0 0 s.size ⟨#[57, 125]⟩ 2)) (results_cell_row rfl _ _ w.heap.size 38 (rdI 0 0 s.size ⟨#[57, 125]⟩ 2) (0, 0) _ rfl (Blk.setRow HR.out) Tryd.underlying38 rfl infoRd) rfl ⟨by rw [HRES.out] <;> rfl, below_row HB.out (by omega) _⟩
        have hlt : p < s.size := by omega
        have qp : ((p : Int) == (s.size : Int)) = false := by rw [beq_eq_false_iff_ne]; omega
        have b0 : s[p].toNat = bt s p := (bt_eq s p hlt).symm
        generalize bt s p = b at *
        have hG := HG.out
        rw [if_neg (fun h => hps h.1), if_neg hps] at hG
        replace HG := Lib.hid hG
        clear hG hps
        by_cases hb125 : b = 125
        · subst hb125
          have HRES := Lib.hid (show Y = badR 6 (p + 1) by rw [HG.out, if_neg (fun h => h rfl), if_pos rfl])
          clear HG 
          have HFA := Lib.hid (faultD_calls 6 ((p : Int) + 1))
          go_wp2_with fail
          refine (HFA.out _).mono ?_
          rintro en w4 ⟨rfl, hb⟩
          have HR2 := Lib.hid (HR.out.below hb (Blk.lt HR.out))
          have HB2 := Lib.hid (HB.out.trans (hb.mono (by omega)))
          have hz2 := Nat.le_trans hz hb.size
          clear HR HB hz hb
          have HR := HR2
          have HB := HB2
          have hz := hz2
          clear HR2 HB2 hz2
          go_wp2_with ((with_reducible refine wpList_store_st (o := ⟨none, .store 38 _ _, _, _, _, _⟩) rfl 38 _ _ rfl w.heap.size rfl rfl (run_storeAt_row _ w.heap.size 38 38 (rdI 0 0 0 eT 0) (rdI 0 0 ((p : Int) + 1) eT 6) ?_ ?_ ?_ ?_) ?_); exact HR.out; exact infoRd; rfl; exact rd_one _ _ _ _ _)
          exact bodyPost_ret (v := .agg (rdI 0 0 ((p : Int) + 1) eT 6)) (results_cell_row rfl _ _ w.heap.size 38 (rdI 0 0 ((p : Int) + 1) eT 6) (0, 0) _ rfl (Blk.setRow HR.out) Tryd.underlying38 rfl infoRd) rfl ⟨by rw [HRES.out] <;> rfl, below_row HB.out (by omega) _⟩
        · have qb : ((b : Int) != 125) = true := by rw [bne_iff_ne]; omega
          have HRES := Lib.hid (show Y = badR 3 (p + 1) by rw [HG.out, if_pos hb125])
          clear HG 
          have HFA := Lib.hid (faultD_calls 3 ((p : Int) + 1))
          go_wp2_with fail
          refine (HFA.out _).mono ?_
          rintro en w4 ⟨rfl, hb⟩
          have HR2 := Lib.hid (HR.out.below hb (Blk.lt HR.out))
          have HB2 := Lib.hid (HB.out.trans (hb.mono (by omega)))
          have hz2 := Nat.le_trans hz hb.size
          clear HR HB hz hb
          have HR := HR2
          have HB := HB2
          have hz := hz2
          clear HR2 HB2 hz2
          go_wp2_with ((with_reducible refine wpList_store_st (o := ⟨none, .store 38 _ _, _, _, _, _⟩) rfl 38 _ _ rfl w.heap.size rfl rfl (run_storeAt_row _ w.heap.size 38 38 (rdI 0 0 0 eT 0) (rdI 0 0 ((p : Int) + 1) eT 3) ?_ ?_ ?_ ?_) ?_); exact HR.out; exact infoRd; rfl; exact rd_one _ _ _ _ _)
          exact bodyPost_ret (v := .agg (rdI 0 0 ((p : Int) + 1) eT 3)) (results_cell_row rfl _ _ w.heap.size 38 (rdI 0 0 ((p : Int) + 1) eT 3) (0, 0) _ rfl (Blk.setRow HR.out) Tryd.underlying38 rfl infoRd) rfl ⟨by rw [HRES.out] <;> rfl, below_row HB.out (by omega) _⟩
      · have qe : ((e : Int) != 0) = true := by rw [bne_iff_ne]; omega
        have HRES := Lib.hid (show Y = badR e p by rw [HG.out, if_pos he])
        clear HG 
        have HFA := Lib.hid (faultD_calls e p)
        go_wp2_with fail
        refine (HFA.out _).mono ?_
        rintro en w4 ⟨rfl, hb⟩
        have HR2 := Lib.hid (HR.out.below hb (Blk.lt HR.out))
        have HB2 := Lib.hid (HB.out.trans (hb.mono (by omega)))
        have hz2 := Nat.le_trans hz hb.size
        clear HR HB hz hb
        have HR := HR2
        have HB := HB2
        have hz := hz2
        clear HR2 HB2 hz2
        go_wp2_with ((with_reducible refine wpList_store_st (o := ⟨none, .store 38 _ _, _, _, _, _⟩) rfl 38 _ _ rfl w.heap.size rfl rfl (run_storeAt_row _ w.heap.size 38 38 (rdI 0 0 0 eT 0) (rdI 0 0 p eT e) ?_ ?_ ?_ ?_) ?_); exact HR.out; exact infoRd; rfl; exact rd_one _ _ _ _ _)
        exact bodyPost_ret (v := .agg (rdI 0 0 p eT e)) (results_cell_row rfl _ _ w.heap.size 38 (rdI 0 0 p eT e) (0, 0) _ rfl (Blk.setRow HR.out) Tryd.underlying38 rfl infoRd) rfl ⟨by rw [HRES.out] <;> rfl, below_row HB.out (by omega) _⟩
    · have hxx := hd
      have hls : lessD v d n = false := by simp [lessD, hd, hv2]
      rw [hls] at HG
      clear hls
      have qd : decide (0 < d) = true := by simpa using hd
      have qv : decide (v < n) = false := by simpa using hv2
      by_cases he : e = 0
      · subst he
        have hG := HG.out
        rw [if_neg (show ¬ ((0 : Nat) ≠ 0) from fun h => h rfl)] at hG
        replace HG := Lib.hid hG
        clear hG
        by_cases hps : p = s.size
        · subst hps
          have HRES := Lib.hid (show Y = shortR s [125] by rw [HG.out, if_neg (fun h => by cases h.2), if_pos rfl])
          clear HG 
          have HFA := Lib.hid (shortR_calls s ⟨#[125]⟩)
          go_wp2_with fail
          refine (HFA.out _).mono ?_
          rintro en w4 ⟨rfl, hb⟩
          have HR2 := Lib.hid (HR.out.below hb (Blk.lt HR.out))
          have HB2 := Lib.hid (HB.out.trans (hb.mono (by omega)))
          have hz2 := Nat.le_trans hz hb.size
          clear HR HB hz hb
          have HR := HR2
          have HB := HB2
          have hz := hz2
          clear HR2 HB2 hz2
          go_wp2_with ((with_reducible refine wpList_store_st (o := ⟨none, .store 38 _ _, _, _, _, _⟩) rfl 38 _ _ rfl w.heap.size rfl rfl (run_storeAt_row _ w.heap.size 38 38 (rdI 0 0 0 eT 0) (rdI 0 0 s.size ⟨#[125]⟩ 2) ?_ ?_ ?_ ?_) ?_); exact HR.out; exact infoRd; rfl; exact rd_one _ _ _ _ _)
          exact bodyPost_ret (v := .agg (rdI 0 0 s.size ⟨#[125]⟩ 2)) (results_cell_row rfl _ _ w.heap.size 38 (rdI 0 0 s.size ⟨#[125]⟩ 2) (0, 0) _ rfl (Blk.setRow HR.out) Tryd.underlying38 rfl infoRd) rfl ⟨by rw [HRES.out] <;> rfl, below_row HB.out (by omega) _⟩
        have hlt : p < s.size := by omega
        have qp : ((p : Int) == (s.size : Int)) = false := by rw [beq_eq_false_iff_ne]; omega
        have b0 : s[p].toNat = bt s p := (bt_eq s p hlt).symm
        generalize bt s p = b at *
        have hG := HG.out
        rw [if_neg (fun h => hps h.1), if_neg hps] at hG
        replace HG := Lib.hid hG
        clear hG hps
        by_cases hb125 : b = 125
        · subst hb125
          have qz : ((d : Int) == 0) = false := by rw [beq_eq_false_iff_ne]; omega
          have HRES := Lib.hid (show Y = okR n v (p + 1) by rw [HG.out, if_neg (fun h => h rfl), if_neg (by decide), if_neg (by omega)])
          clear HG 
          go_wp2_with ((with_reducible refine wpList_store_st (o := ⟨none, .store 38 _ _, _, _, _, _⟩) rfl 38 _ _ rfl w.heap.size rfl rfl (run_storeAt_row _ w.heap.size 38 38 (rdI 0 0 0 eT 0) (rdI n v ((p : Int) + 1) eT 0) ?_ ?_ ?_ ?_) ?_); exact HR.out; exact infoRd; rfl; exact rd_one _ _ _ _ _)
          exact bodyPost_ret (v := .agg (rdI n v ((p : Int) + 1) eT 0)) (results_cell_row rfl _ _ w.heap.size 38 (rdI n v ((p : Int) + 1) eT 0) (0, 0) _ rfl (Blk.setRow HR.out) Tryd.underlying38 rfl infoRd) rfl ⟨by rw [HRES.out] <;> rfl, below_row HB.out (by omega) _⟩
        · have qb : ((b : Int) != 125) = true := by rw [bne_iff_ne]; omega
          have HRES := Lib.hid (show Y = badR 3 (p + 1) by rw [HG.out, if_pos hb125])
          clear HG 
          have HFA := Lib.hid (faultD_calls 3 ((p : Int) + 1))
          go_wp2_with fail
          refine (HFA.out _).mono ?_
          rintro en w4 ⟨rfl, hb⟩
          have HR2 := Lib.hid (HR.out.below hb (Blk.lt HR.out))
          have HB2 := Lib.hid (HB.out.trans (hb.mono (by omega)))
          have hz2 := Nat.le_trans hz hb.size
          clear HR HB hz hb
          have HR := HR2
          have HB := HB2
          have hz := hz2
          clear HR2 HB2 hz2
          go_wp2_with ((with_reducible refine wpList_store_st (o := ⟨none, .store 38 _ _, _, _, _, _⟩) rfl 38 _ _ rfl w.heap.size rfl rfl (run_storeAt_row _ w.heap.size 38 38 (rdI 0 0 0 eT 0) (rdI 0 0 ((p : Int) + 1) eT 3) ?_ ?_ ?_ ?_) ?_); exact HR.out; exact infoRd; rfl; exact rd_one _ _ _ _ _)
          exact bodyPost_ret (v := .agg (rdI 0 0 ((p : Int) + 1) eT 3)) (results_cell_row rfl _ _ w.heap.size 38 (rdI 0 0 ((p : Int) + 1) eT 3) (0, 0) _ rfl (Blk.setRow HR.out) Tryd.underlying38 rfl infoRd) rfl ⟨by rw [HRES.out] <;> rfl, below_row HB.out (by omega) _⟩
      · have qe : ((e : Int) != 0) = true := by rw [bne_iff_ne]; omega
        have HRES := Lib.hid (show Y = badR e p by rw [HG.out, if_pos he])
        clear HG 
        have HFA := Lib.hid (faultD_calls e p)
        go_wp2_with fail
        refine (HFA.out _).mono ?_
        rintro en w4 ⟨rfl, hb⟩
        have HR2 := Lib.hid (HR.out.below hb (Blk.lt HR.out))
        have HB2 := Lib.hid (HB.out.trans (hb.mono (by omega)))
        have hz2 := Nat.le_trans hz hb.size
        clear HR HB hz hb
        have HR := HR2
        have HB := HB2
        have hz := hz2
        clear HR2 HB2 hz2
        go_wp2_with ((with_reducible refine wpList_store_st (o := ⟨none, .store 38 _ _, _, _, _, _⟩) rfl 38 _ _ rfl w.heap.size rfl rfl (run_storeAt_row _ w.heap.size 38 38 (rdI 0 0 0 eT 0) (rdI 0 0 p eT e) ?_ ?_ ?_ ?_) ?_); exact HR.out; exact infoRd; rfl; exact rd_one _ _ _ _ _)
        exact bodyPost_ret (v := .agg (rdI 0 0 p eT e)) (results_cell_row rfl _ _ w.heap.size 38 (rdI 0 0 p eT e) (0, 0) _ rfl (Blk.setRow HR.out) Tryd.underlying38 rfl infoRd) rfl ⟨by rw [HRES.out] <;> rfl, below_row HB.out (by omega) _⟩
  · have hxx := hd
    have hls : lessD v d n = false := by simp [lessD, hd]
    rw [hls] at HG
    clear hls
    obtain rfl : d = 0 := by omega
    by_cases he : e = 0
    · subst he
      have hG := HG.out
      rw [if_neg (show ¬ ((0 : Nat) ≠ 0) from fun h => h rfl)] at hG
      replace HG := Lib.hid hG
      clear hG
      by_cases hps : p = s.size
      · subst hps
        have HRES := Lib.hid (show Y = shortR s [125] by rw [HG.out, if_neg (fun h => by cases h.2), if_pos rfl])
        clear HG 
        have HFA := Lib.hid (shortR_calls s ⟨#[125]⟩)
        go_wp2_with fail
        refine (HFA.out _).mono ?_
        rintro en w4 ⟨rfl, hb⟩
        have HR2 := Lib.hid (HR.out.below hb (Blk.lt HR.out))
        have HB2 := Lib.hid (HB.out.trans (hb.mono (by omega)))
        have hz2 := Nat.le_trans hz hb.size
        clear HR HB hz hb
        have HR := HR2
        have HB := HB2
        have hz := hz2
        clear HR2 HB2 hz2
        go_wp2_with ((with_reducible refine wpList_store_st (o := ⟨none, .store 38 _ _, _, _, _, _⟩) rfl 38 _ _ rfl w.heap.size rfl rfl (run_storeAt_row _ w.heap.size 38 38 (rdI 0 0 0 eT 0) (rdI 0 0 s.size ⟨#[125]⟩ 2) ?_ ?_ ?_ ?_) ?_); exact HR.out; exact infoRd; rfl; exact rd_one _ _ _ _ _)
        exact bodyPost_ret (v := .agg (rdI 0 0 s.size ⟨#[125]⟩ 2)) (results_cell_row rfl _ _ w.heap.size 38 (rdI 0 0 s.size ⟨#[125]⟩ 2) (0, 0) _ rfl (Blk.setRow HR.out) Tryd.underlying38 rfl infoRd) rfl ⟨by rw [HRES.out] <;> rfl, below_row HB.out (by omega) _⟩
      have hlt : p < s.size := by omega
      have qp : ((p : Int) == (s.size : Int)) = false := by rw [beq_eq_false_iff_ne]; omega
      have b0 : s[p].toNat = bt s p := (bt_eq s p hlt).symm
      generalize bt s p = b at *
      have hG := HG.out
      rw [if_neg (fun h => hps h.1), if_neg hps] at hG
      replace HG := Lib.hid hG
      clear hG hps
      by_cases hb125 : b = 125
      · subst hb125
        have HRES := Lib.hid (show Y = okR n (-1) (p + 1) by rw [HG.out, if_neg (fun h => h rfl), if_neg (by decide), if_pos rfl])
        clear HG 
        go_wp2_with ((with_reducible refine wpList_store_st (o := ⟨none, .store 38 _ _, _, _, _, _⟩) rfl 38 _ _ rfl w.heap.size rfl rfl (run_storeAt_row _ w.heap.size 38 38 (rdI 0 0 0 eT 0) (rdI n (-1) ((p : Int) + 1) eT 0) ?_ ?_ ?_ ?_) ?_); exact HR.out; exact infoRd; rfl; exact rd_one _ _ _ _ _)
        exact bodyPost_ret (v := .agg (rdI n (-1) ((p : Int) + 1) eT 0)) (results_cell_row rfl _ _ w.heap.size 38 (rdI n (-1) ((p : Int) + 1) eT 0) (0, 0) _ rfl (Blk.setRow HR.out) Tryd.underlying38 rfl infoRd) rfl ⟨by rw [HRES.out] <;> rfl, below_row HB.out (by omega) _⟩
      · have qb : ((b : Int) != 125) = true := by rw [bne_iff_ne]; omega
        have HRES := Lib.hid (show Y = badR 3 (p + 1) by rw [HG.out, if_pos hb125])
        clear HG 
        have HFA := Lib.hid (faultD_calls 3 ((p : Int) + 1))
        go_wp2_with fail
        refine (HFA.out _).mono ?_
        rintro en w4 ⟨rfl, hb⟩
        have HR2 := Lib.hid (HR.out.below hb (Blk.lt HR.out))
        have HB2 := Lib.hid (HB.out.trans (hb.mono (by omega)))
        have hz2 := Nat.le_trans hz hb.size
        clear HR HB hz hb
        have HR := HR2
        have HB := HB2
        have hz := hz2
        clear HR2 HB2 hz2
        go_wp2_with ((with_reducible refine wpList_store_st (o := ⟨none, .store 38 _ _, _, _, _, _⟩) rfl 38 _ _ rfl w.heap.size rfl rfl (run_storeAt_row _ w.heap.size 38 38 (rdI 0 0 0 eT 0) (rdI 0 0 ((p : Int) + 1) eT 3) ?_ ?_ ?_ ?_) ?_); exact HR.out; exact infoRd; rfl; exact rd_one _ _ _ _ _)
        exact bodyPost_ret (v := .agg (rdI 0 0 ((p : Int) + 1) eT 3)) (results_cell_row rfl _ _ w.heap.size 38 (rdI 0 0 ((p : Int) + 1) eT 3) (0, 0) _ rfl (Blk.setRow HR.out) Tryd.underlying38 rfl infoRd) rfl ⟨by rw [HRES.out] <;> rfl, below_row HB.out (by omega) _⟩
    · have qe : ((e : Int) != 0) = true := by rw [bne_iff_ne]; omega
      have HRES := Lib.hid (show Y = badR e p by rw [HG.out, if_pos he])
      clear HG 
      have HFA := Lib.hid (faultD_calls e p)
      go_wp2_with fail
      refine (HFA.out _).mono ?_
      rintro en w4 ⟨rfl, hb⟩
      have HR2 := Lib.hid (HR.out.below hb (Blk.lt HR.out))
      have HB2 := Lib.hid (HB.out.trans (hb.mono (by omega)))
      have hz2 := Nat.le_trans hz hb.size
      clear HR HB hz hb
      have HR := HR2
      have HB := HB2
      have hz := hz2
      clear HR2 HB2 hz2
      go_wp2_with ((with_reducible refine wpList_store_st (o := ⟨none, .store 38 _ _, _, _, _, _⟩) rfl 38 _ _ rfl w.heap.size rfl rfl (run_storeAt_row _ w.heap.size 38 38 (rdI 0 0 0 eT 0) (rdI 0 0 p eT e) ?_ ?_ ?_ ?_) ?_); exact HR.out; exact infoRd; rfl; exact rd_one _ _ _ _ _)
      exact bodyPost_ret (v := .agg (rdI 0 0 p eT e)) (results_cell_row rfl _ _ w.heap.size 38 (rdI 0 0 p eT e) (0, 0) _ rfl (Blk.setRow HR.out) Tryd.underlying38 rfl infoRd) rfl ⟨by rw [HRES.out] <;> rfl, below_row HB.out (by omega) _⟩
set_option maxRecDepth 100000 in
set_option maxHeartbeats 16000000 in
theorem bracesD_calls (s : ByteArray) (hs : s.size ≤ 60000) (i : Nat) (hi : i ≤ s.size) (w : World) :
    Calls Tryd.prog 23 #[.string s, .int .i64 i] w fun en w' => en = .returned (.agg (rdA (bracesD s i))) ∧ Below w.heap.size w w' := by
  have HR := Lib.hid (Blk.new w (rdI 0 0 0 eT 0) 38)
  have HB : Hid (Below w.heap.size w (w.alloc (.cells (rdI 0 0 0 eT 0) 38))) := Lib.hid (by go_grown)
  have hz : w.heap.size + 1 ≤ (w.alloc (.cells (rdI 0 0 0 eT 0) 38)).heap.size := by simp
  have HD := Lib.hid (digsD_calls s hs i 0 hi)
  have hE := digsD_end s i 0 hi
  have hg : bracesD s i = bracesD s i := rfl
  conv at hg => rhs; unfold bracesD
  generalize digsD s i 0 = X at *
  obtain ⟨v, d, p, e⟩ := X
  simp only at hg hE
  generalize bracesD s i = Y at *
  replace HD : Hid (∀ w, Calls Tryd.prog 26 #[.string s, .int .i64 i, .int .i64 0] w fun en w' => en = .returned (.tuple #[.agg (nuI v d), .int .i64 p, .int .i64 e]) ∧ Below w.heap.size w w') := HD
  have hp : p ≤ s.size := by
    rcases hE with ⟨_, _, h, _⟩ | ⟨q, h, _, h2⟩
    · exact h
    · cases h; exact h2
  have hv : v ≤ 99 := by
    rcases hE with ⟨_, _, _, h, _⟩ | ⟨q, h, _, h2⟩
    · exact h.2.2.2
    · cases h; omega
  clear hE
  go_enter Tryd.func23, Tryd.ntmps23
  go_upto_region 1 with fail
  have e0 : w.alloc (.cells #[.int .i64 0, .int .i64 0, .int .i64 0, .string ⟨#[]⟩, .int .i64 0] 38) = w.alloc (.cells (rdI 0 0 0 eT 0) 38) := rfl
  try rw [e0]
  clear e0
  generalize w.alloc (.cells (rdI 0 0 0 eT 0) 38) = w1 at *
  go_wp2_with fail
  refine (HD.out _).mono ?_
  rintro en w2 ⟨rfl, hb⟩
  have HR2 := Lib.hid (HR.out.below hb (Blk.lt HR.out))
  have HB2 := Lib.hid (HB.out.trans (hb.mono (by omega)))
  have hz2 := Nat.le_trans hz hb.size
  clear HR HB hz hb
  have HR := HR2
  have HB := HB2
  have hz := hz2
  clear HR2 HB2 hz2
  clear HD
  go_upto_region 2 with fail
  have HP := Lib.hid (Blk.new w2 (nuI v d) 49)
  replace HR := Lib.hid (HR.out.alloc (.cells (nuI v d) 49))
  replace HB := Lib.hid (HB.out.alloc (by omega) (.cells (nuI v d) 49))
  have hz2 : w.heap.size + 1 ≤ (w2.alloc (.cells (nuI v d) 49)).heap.size := by simp; omega
  clear hz
  have hz := hz2
  clear hz2
  generalize w2.alloc (.cells (nuI v d) 49) = w3 at *
  generalize w2.heap.size = B at *
  have c0 := HP.out.cell 0
  have c1 := HP.out.cell 1
  simp only [List.getElem?_toArray, List.getElem?_cons_zero, List.getElem?_cons_succ] at c0 c1
  clear HP
  have HG := Lib.hid hg
  clear hg
  by_cases he : e = 0
  · subst he
    have hG := HG.out
    rw [if_neg (show ¬ ((0 : Nat) ≠ 0) from fun h => h rfl)] at hG
    replace HG := Lib.hid hG
    clear hG
    by_cases hd : d = 0
    · subst hd
      by_cases hps : p = s.size
      · subst hps
        have HRES := Lib.hid (show Y = shortR s [48, 125] by rw [HG.out, if_pos ⟨rfl, rfl⟩])
        clear HG 
        have HFA := Lib.hid (shortR_calls s ⟨#[48, 125]⟩)
        go_wp2_with fail
        refine (HFA.out _).mono ?_
        rintro en w4 ⟨rfl, hb⟩
        have HR2 := Lib.hid (HR.out.below hb (Blk.lt HR.out))
        have HB2 := Lib.hid (HB.out.trans (hb.mono (by omega)))
        have hz2 := Nat.le_trans hz hb.size
        clear HR HB hz hb
        have HR := HR2
        have HB := HB2
        have hz := hz2
        clear HR2 HB2 hz2
        go_wp2_with ((with_reducible refine wpList_store_st (o := ⟨none, .store 38 _ _, _, _, _, _⟩) rfl 38 _ _ rfl w.heap.size rfl rfl (run_storeAt_row _ w.heap.size 38 38 (rdI 0 0 0 eT 0) (rdI 0 0 s.size ⟨#[48, 125]⟩ 2) ?_ ?_ ?_ ?_) ?_); exact HR.out; exact infoRd; rfl; exact rd_one _ _ _ _ _)
        exact bodyPost_ret (v := .agg (rdI 0 0 s.size ⟨#[48, 125]⟩ 2)) (results_cell_row rfl _ _ w.heap.size 38 (rdI 0 0 s.size ⟨#[48, 125]⟩ 2) (0, 0) _ rfl (Blk.setRow HR.out) Tryd.underlying38 rfl infoRd) rfl ⟨by rw [HRES.out] <;> rfl, below_row HB.out (by omega) _⟩
      have qp : ((p : Int) == (s.size : Int)) = false := by rw [beq_eq_false_iff_ne]; omega
      have HRES := Lib.hid (show Y = badR 3 (p + 1) by rw [HG.out, if_neg (fun h => hps h.1), if_neg hps, if_neg (fun h => absurd h.1 (by omega)), if_neg (fun h => absurd h.1 (by omega))])
      clear HG 
      have HFA := Lib.hid (faultD_calls 3 ((p : Int) + 1))
      go_wp2_with fail
      refine (HFA.out _).mono ?_
      rintro en w4 ⟨rfl, hb⟩
      have HR2 := Lib.hid (HR.out.below hb (Blk.lt HR.out))
      have HB2 := Lib.hid (HB.out.trans (hb.mono (by omega)))
      have hz2 := Nat.le_trans hz hb.size
      clear HR HB hz hb
      have HR := HR2
      have HB := HB2
      have hz := hz2
      clear HR2 HB2 hz2
      go_wp2_with ((with_reducible refine wpList_store_st (o := ⟨none, .store 38 _ _, _, _, _, _⟩) rfl 38 _ _ rfl w.heap.size rfl rfl (run_storeAt_row _ w.heap.size 38 38 (rdI 0 0 0 eT 0) (rdI 0 0 ((p : Int) + 1) eT 3) ?_ ?_ ?_ ?_) ?_); exact HR.out; exact infoRd; rfl; exact rd_one _ _ _ _ _)
      exact bodyPost_ret (v := .agg (rdI 0 0 ((p : Int) + 1) eT 3)) (results_cell_row rfl _ _ w.heap.size 38 (rdI 0 0 ((p : Int) + 1) eT 3) (0, 0) _ rfl (Blk.setRow HR.out) Tryd.underlying38 rfl infoRd) rfl ⟨by rw [HRES.out] <;> rfl, below_row HB.out (by omega) _⟩
    have qd : decide (0 < d) = true := by rw [decide_eq_true_iff]; omega
    have qd0 : ((d : Int) == 0) = false := by rw [beq_eq_false_iff_ne]; omega
    have hd0 : 0 < d := by omega
    by_cases hps : p = s.size
    · subst hps
      have HRES := Lib.hid (show Y = shortR s [125] by rw [HG.out, if_neg (fun h => hd h.2), if_pos rfl])
      clear HG 
      have HFA := Lib.hid (shortR_calls s ⟨#[125]⟩)
      go_wp2_with fail
      refine (HFA.out _).mono ?_
      rintro en w4 ⟨rfl, hb⟩
      have HR2 := Lib.hid (HR.out.below hb (Blk.lt HR.out))
      have HB2 := Lib.hid (HB.out.trans (hb.mono (by omega)))
      have hz2 := Nat.le_trans hz hb.size
      clear HR HB hz hb
      have HR := HR2
      have HB := HB2
      have hz := hz2
      clear HR2 HB2 hz2
      go_wp2_with ((with_reducible refine wpList_store_st (o := ⟨none, .store 38 _ _, _, _, _, _⟩) rfl 38 _ _ rfl w.heap.size rfl rfl (run_storeAt_row _ w.heap.size 38 38 (rdI 0 0 0 eT 0) (rdI 0 0 s.size ⟨#[125]⟩ 2) ?_ ?_ ?_ ?_) ?_); exact HR.out; exact infoRd; rfl; exact rd_one _ _ _ _ _)
      exact bodyPost_ret (v := .agg (rdI 0 0 s.size ⟨#[125]⟩ 2)) (results_cell_row rfl _ _ w.heap.size 38 (rdI 0 0 s.size ⟨#[125]⟩ 2) (0, 0) _ rfl (Blk.setRow HR.out) Tryd.underlying38 rfl infoRd) rfl ⟨by rw [HRES.out] <;> rfl, below_row HB.out (by omega) _⟩
    have hlt : p < s.size := by omega
    have qp : ((p : Int) == (s.size : Int)) = false := by rw [beq_eq_false_iff_ne]; omega
    have b0 : s[p].toNat = bt s p := (bt_eq s p hlt).symm
    generalize bt s p = b at *
    have hG := HG.out
    rw [if_neg (fun h => hps h.1), if_neg hps] at hG
    replace HG := Lib.hid hG
    clear hG
    by_cases hb125 : b = 125
    · subst hb125
      have HRES := Lib.hid (show Y = okR v v (p + 1) by rw [HG.out, if_pos ⟨hd0, rfl⟩])
      clear HG 
      go_wp2_with ((with_reducible refine wpList_store_st (o := ⟨none, .store 38 _ _, _, _, _, _⟩) rfl 38 _ _ rfl w.heap.size rfl rfl (run_storeAt_row _ w.heap.size 38 38 (rdI 0 0 0 eT 0) (rdI v v ((p : Int) + 1) eT 0) ?_ ?_ ?_ ?_) ?_); exact HR.out; exact infoRd; rfl; exact rd_one _ _ _ _ _)
      exact bodyPost_ret (v := .agg (rdI v v ((p : Int) + 1) eT 0)) (results_cell_row rfl _ _ w.heap.size 38 (rdI v v ((p : Int) + 1) eT 0) (0, 0) _ rfl (Blk.setRow HR.out) Tryd.underlying38 rfl infoRd) rfl ⟨by rw [HRES.out] <;> rfl, below_row HB.out (by omega) _⟩
    have qb : ((b : Int) == 125) = false := by rw [beq_eq_false_iff_ne]; omega
    by_cases hb44 : b = 44
    · subst hb44
      have hC := commaD_calls s hs (p + 1) v (by omega)
      have hZ : Y = commaD s (p + 1) v := by rw [HG.out, if_neg (fun h => absurd h.2 (by decide)), if_pos ⟨hd0, rfl⟩]
      generalize commaD s (p + 1) v = Z at *
      obtain ⟨zn, zm, zp, zl, ze⟩ := Z
      have HRES := Lib.hid hZ
      clear HG hZ
      have HFA : Hid (∀ w, Calls Tryd.prog 28 #[.string s, .int .i64 ((p : Int) + 1), .int .i64 v] w fun en w' => en = .returned (.agg (rdI zn zm zp (ofT zl) ze)) ∧ Below w.heap.size w w') := Lib.hid hC
      clear hC
      go_wp2_with fail
      refine (HFA.out _).mono ?_
      rintro en w4 ⟨rfl, hb⟩
      have HR2 := Lib.hid (HR.out.below hb (Blk.lt HR.out))
      have HB2 := Lib.hid (HB.out.trans (hb.mono (by omega)))
      have hz2 := Nat.le_trans hz hb.size
      clear HR HB hz hb
      have HR := HR2
      have HB := HB2
      have hz := hz2
      clear HR2 HB2 hz2
      go_wp2_with ((with_reducible refine wpList_store_st (o := ⟨none, .store 38 _ _, _, _, _, _⟩) rfl 38 _ _ rfl w.heap.size rfl rfl (run_storeAt_row _ w.heap.size 38 38 (rdI 0 0 0 eT 0) (rdI zn zm zp (ofT zl) ze) ?_ ?_ ?_ ?_) ?_); exact HR.out; exact infoRd; rfl; exact rd_one _ _ _ _ _)
      exact bodyPost_ret (v := .agg (rdI zn zm zp (ofT zl) ze)) (results_cell_row rfl _ _ w.heap.size 38 (rdI zn zm zp (ofT zl) ze) (0, 0) _ rfl (Blk.setRow HR.out) Tryd.underlying38 rfl infoRd) rfl ⟨by rw [HRES.out] <;> rfl, below_row HB.out (by omega) _⟩
    have qc : ((b : Int) == 44) = false := by rw [beq_eq_false_iff_ne]; omega
    have HRES := Lib.hid (show Y = badR 3 (p + 1) by rw [HG.out, if_neg (fun h => hb125 h.2), if_neg (fun h => hb44 h.2)])
    clear HG 
    have HFA := Lib.hid (faultD_calls 3 ((p : Int) + 1))
    go_wp2_with fail
    refine (HFA.out _).mono ?_
    rintro en w4 ⟨rfl, hb⟩
    have HR2 := Lib.hid (HR.out.below hb (Blk.lt HR.out))
    have HB2 := Lib.hid (HB.out.trans (hb.mono (by omega)))
    have hz2 := Nat.le_trans hz hb.size
    clear HR HB hz hb
    have HR := HR2
    have HB := HB2
    have hz := hz2
    clear HR2 HB2 hz2
    go_wp2_with ((with_reducible refine wpList_store_st (o := ⟨none, .store 38 _ _, _, _, _, _⟩) rfl 38 _ _ rfl w.heap.size rfl rfl (run_storeAt_row _ w.heap.size 38 38 (rdI 0 0 0 eT 0) (rdI 0 0 ((p : Int) + 1) eT 3) ?_ ?_ ?_ ?_) ?_); exact HR.out; exact infoRd; rfl; exact rd_one _ _ _ _ _)
    exact bodyPost_ret (v := .agg (rdI 0 0 ((p : Int) + 1) eT 3)) (results_cell_row rfl _ _ w.heap.size 38 (rdI 0 0 ((p : Int) + 1) eT 3) (0, 0) _ rfl (Blk.setRow HR.out) Tryd.underlying38 rfl infoRd) rfl ⟨by rw [HRES.out] <;> rfl, below_row HB.out (by omega) _⟩
  · have qe : ((e : Int) != 0) = true := by rw [bne_iff_ne]; omega
    have HRES := Lib.hid (show Y = badR e p by rw [HG.out, if_pos he])
    clear HG 
    have HFA := Lib.hid (faultD_calls e p)
    go_wp2_with fail
    refine (HFA.out _).mono ?_
    rintro en w4 ⟨rfl, hb⟩
    have HR2 := Lib.hid (HR.out.below hb (Blk.lt HR.out))
    have HB2 := Lib.hid (HB.out.trans (hb.mono (by omega)))
    have hz2 := Nat.le_trans hz hb.size
    clear HR HB hz hb
    have HR := HR2
    have HB := HB2
    have hz := hz2
    clear HR2 HB2 hz2
    go_wp2_with ((with_reducible refine wpList_store_st (o := ⟨none, .store 38 _ _, _, _, _, _⟩) rfl 38 _ _ rfl w.heap.size rfl rfl (run_storeAt_row _ w.heap.size 38 38 (rdI 0 0 0 eT 0) (rdI 0 0 p eT e) ?_ ?_ ?_ ?_) ?_); exact HR.out; exact infoRd; rfl; exact rd_one _ _ _ _ _)
    exact bodyPost_ret (v := .agg (rdI 0 0 p eT e)) (results_cell_row rfl _ _ w.heap.size 38 (rdI 0 0 p eT e) (0, 0) _ rfl (Blk.setRow HR.out) Tryd.underlying38 rfl infoRd) rfl ⟨by rw [HRES.out] <;> rfl, below_row HB.out (by omega) _⟩
end Go.Proofs.YtfpipiegncoamaaDoor

/- The developers' brackets: thing, things, whole, Read, Lack. -/
import Derived.Test.YtkkhibamkdgffaaDoorDr
import Derived.Test.YtkkhibamkdgffaaDoorRw
import Derived.Test.YtkkhibamkdgffaaDoorSu
import Derived.Test.YtkkhibamkdgffaaDoorCt
namespace Go.Proofs.YtkkhibamkdgffaaDoor
open Go.RowKit Go.Shelf BS

theorem dByte_one (W : World) (t : TypeId) (n : Int) (x : Fin 256) (hn : n = (x.val : Int)) : BytesAt (W.alloc (.cells #[.int .u8 n] t)).heap.size (W.alloc (.cells #[.int .u8 n] t)) (.slice (some ⟨W.heap.size, 0, none⟩) 1 1) [x] := by
  subst hn
  refine ⟨_, 1, rfl, fun _ => ⟨W.heap.size, 0, rfl, by simp, ?_⟩⟩
  intro j hj
  obtain rfl : j = 0 := by simpa using hj
  exact (Blk.new W _ t).cell 0
theorem with_one : ∀ x : Fin 256, withL 0 [x] = range x.val x.val := by decide +kernel
theorem dWith_calls (W : World) (t : TypeId) (b : Nat) (hb : b < 256) : Calls Tryd.prog 7 #[setV 0, .slice (some ⟨W.heap.size, 0, none⟩) 1 1] (W.alloc (.cells #[.int .u8 b] t)) fun e W' => e = .returned (setV (range b b)) ∧ Below (W.alloc (.cells #[.int .u8 b] t)).heap.size (W.alloc (.cells #[.int .u8 b] t)) W' := by
  have h := callsIn_wide.1 (with_in 3 (by omega) 0 _ (some ⟨W.heap.size, 0, none⟩) 1 1 rfl [⟨b, hb⟩] (by simp) _ (dByte_one W t b ⟨b, hb⟩ rfl))
  rw [with_one] at h
  exact h

set_option maxRecDepth 100000 in
set_option maxHeartbeats 8000000 in
theorem thingD_calls (s : ByteArray) (hs : s.size ≤ 60000) (i : Nat) (hi : i < s.size) (w : World) :
    Calls Tryd.prog 32 #[.string s, .int .i64 i] w fun en w' => en = .returned (.agg (ptA (thingD s i))) ∧ Below w.heap.size w w' := by
  have HR := Lib.hid (Blk.new w (ptI 0 0 0 eT) 47)
  have HB : Hid (Below w.heap.size w (w.alloc (.cells (ptI 0 0 0 eT) 47))) := Lib.hid (by go_grown)
  have hz : w.heap.size + 1 ≤ (w.alloc (.cells (ptI 0 0 0 eT) 47)).heap.size := by simp
  have h0 : s[i].toNat = bt s i := (bt_eq s i hi).symm
  have hl0 := bt_lt s i
  go_enter Tryd.func32, Tryd.ntmps32
  go_upto_region 1 with fail
  have e0 : w.alloc (.cells #[.int .u64 0, .int .u64 0, .int .u64 0, .int .u64 0, .int .i64 0, .int .i64 0, .string ⟨#[]⟩] 47) = w.alloc (.cells (ptI 0 0 0 eT) 47) := rfl
  rw [e0]
  clear e0
  generalize w.alloc (.cells (ptI 0 0 0 eT) 47) = w1 at *
  go_cut [5] from 6 to 15 (fun x wx => x = .bool (decide (bt s i = 91 ∧ isN s (i + 1) [58] = true)) ∧ w1 = wx)
  case first =>
    cases hc : decide (bt s i = 91) with
    | true =>
      have hc' : bt s i = 91 := of_decide_eq_true hc
      have q1 : ((bt s i : Int) == 91) = true := by rw [beq_iff_eq]; omega
      have HC := Lib.hid hc'
      clear hc hc'
      have HA := isNat_calls s hs (i + 1) [58] (by decide)
      rw [show ((i + 1 : Nat) : Int) = (i : Int) + 1 from rfl, show ofT [58] = ⟨#[58]⟩ from rfl] at HA
      have HA2 := Lib.hid HA
      clear HA
      go_wp2_with (go_at_call 25; refine (HA2.out _).mono ?_; rintro e w' ⟨rfl, rfl⟩)
      go_meet
      exact ⟨by simp [HC.out], rfl⟩
    | false =>
      have hc' : ¬ bt s i = 91 := of_decide_eq_false hc
      have q1 : ((bt s i : Int) == 91) = false := by rw [beq_eq_false_iff_ne]; omega
      have HC := Lib.hid hc'
      clear hc hc'
      go_wp2_with fail
      go_meet
      exact ⟨by simp [HC.out], rfl⟩
  case rest =>
  obtain ⟨rfl, rfl⟩ := hcut
  by_cases hA : bt s i = 91 ∧ isN s (i + 1) [58] = true
  · have q2 : decide (bt s i = 91 ∧ isN s (i + 1) [58] = true) = true := decide_eq_true hA
    have hg : thingD s i = namedD s (i + 2) := by unfold thingD; rw [if_pos hA]
    rw [q2]
    have hlt := isN_lt hA.2
    clear q2 hA
    have HNC := Lib.hid (named_calls s hs (i + 2) (by omega))
    generalize namedD s (i + 2) = R at hg HNC
    have HRES := Lib.hid hg
    clear hg
    obtain ⟨t', p', e', l'⟩ := R
    replace HNC : Hid (∀ w, Calls Tryd.prog _ _ w fun en w' => en = .returned (.agg (ptI t' p' e' l')) ∧ Below w.heap.size w w') := HNC
    go_wp2_with fail
    refine (HNC.out _).mono ?_
    rintro e w2 ⟨rfl, hb⟩
    have HR2 := Lib.hid (HR.out.below hb (Blk.lt HR.out))
    have HB2 := Lib.hid (HB.out.trans (hb.mono (by omega)))
    have hz2 := Nat.le_trans hz hb.size
    clear HR HB hz hb
    have HR := HR2
    have HB := HB2
    have hz := hz2
    clear HR2 HB2 hz2
    go_wp2_with ((with_reducible refine wpList_store_st (o := ⟨none, .store 47 _ _, _, _, _, _⟩) rfl 47 _ _ rfl w.heap.size rfl rfl (run_storeAt_row _ w.heap.size 47 47 (ptI 0 0 0 eT) (ptI t' p' e' l') ?_ ?_ ?_ ?_) ?_); exact HR.out; exact infoPt; rfl; exact pt_one _ _ _ _)
    exact bodyPost_ret (v := .agg (ptI t' p' e' l')) (results_cell_row rfl _ _ w.heap.size 47 (ptI t' p' e' l') (0, 0) _ rfl (Blk.setRow HR.out) Tryd.underlying47 rfl infoPt) rfl ⟨by rw [HRES.out] <;> rfl, below_row HB.out (by omega) _⟩
  have q2 : decide (bt s i = 91 ∧ isN s (i + 1) [58] = true) = false := decide_eq_false hA
  rw [q2]
  clear q2
  go_upto_region 3 with fail
  go_cut [20] from 21 to 30 (fun x wx => x = .bool (decide (bt s i = 91 ∧ isN s (i + 1) [46, 61] = true)) ∧ w1 = wx)
  case first =>
    cases hc : decide (bt s i = 91) with
    | true =>
      have hc' : bt s i = 91 := of_decide_eq_true hc
      have q1 : ((bt s i : Int) == 91) = true := by rw [beq_iff_eq]; omega
      have HC := Lib.hid hc'
      clear hc hc'
      have HA := isNat_calls s hs (i + 1) [46, 61] (by decide)
      rw [show ((i + 1 : Nat) : Int) = (i : Int) + 1 from rfl, show ofT [46, 61] = ⟨#[46, 61]⟩ from rfl] at HA
      have HA2 := Lib.hid HA
      clear HA
      go_wp2_with (go_at_call 25; refine (HA2.out _).mono ?_; rintro e w' ⟨rfl, rfl⟩)
      go_meet
      exact ⟨by simp [HC.out], rfl⟩
    | false =>
      have hc' : ¬ bt s i = 91 := of_decide_eq_false hc
      have q1 : ((bt s i : Int) == 91) = false := by rw [beq_eq_false_iff_ne]; omega
      have HC := Lib.hid hc'
      clear hc hc'
      go_wp2_with fail
      go_meet
      exact ⟨by simp [HC.out], rfl⟩
  case rest =>
  obtain ⟨rfl, rfl⟩ := hcut
  by_cases hE : bt s i = 91 ∧ isN s (i + 1) [46, 61] = true
  · have q2 : decide (bt s i = 91 ∧ isN s (i + 1) [46, 61] = true) = true := decide_eq_true hE
    have HRES := Lib.hid (show thingD s i = badD 3 (i + 2) by unfold thingD; rw [if_neg hA, if_pos hE])
    rw [q2]
    clear q2 hE hA
    go_wp2_with ((with_reducible refine wpList_store_st (o := ⟨none, .store 47 _ _, _, _, _, _⟩) rfl 47 _ _ rfl w.heap.size rfl rfl (run_storeAt_row _ w.heap.size 47 47 (ptI 0 0 0 eT) (ptI 0 ((i : Int) + 2) 3 eT) ?_ ?_ ?_ ?_) ?_); exact HR.out; exact infoPt; rfl; exact pt_one _ _ _ _)
    exact bodyPost_ret (v := .agg (ptI 0 ((i : Int) + 2) 3 eT)) (results_cell_row rfl _ _ w.heap.size 47 (ptI 0 ((i : Int) + 2) 3 eT) (0, 0) _ rfl (Blk.setRow HR.out) Tryd.underlying47 rfl infoPt) rfl ⟨by rw [HRES.out] <;> rfl, below_row HB.out (by omega) _⟩
  have q2 : decide (bt s i = 91 ∧ isN s (i + 1) [46, 61] = true) = false := decide_eq_false hE
  rw [q2]
  clear q2
  go_upto_region 5 with fail
  go_cut [34] from 35 to 52 (fun x wx => x = .bool (decide ((isN s (i + 1) [45] = true ∧ i + 2 < s.size) ∧ bt s (i + 2) ≠ 93)) ∧ w1 = wx)
  case first =>
    have HA := isNat_calls s hs (i + 1) [45] (by decide)
    rw [show ((i + 1 : Nat) : Int) = (i : Int) + 1 from rfl, show ofT [45] = ⟨#[45]⟩ from rfl] at HA
    cases hc : isN s (i + 1) [45] with
    | false =>
      rw [hc] at HA
      have HA2 := Lib.hid HA
      have HC := Lib.hid hc
      clear HA hc hA hE
      go_wp2_with (go_at_call 25; refine (HA2.out _).mono ?_; rintro e w' ⟨rfl, rfl⟩)
      go_meet
      exact ⟨by simp [HC.out], rfl⟩
    | true =>
      rw [hc] at HA
      have HA2 := Lib.hid HA
      have HC := Lib.hid hc
      clear HA hc hA hE
      by_cases hd : i + 2 < s.size
      · have q1 : decide ((i : Int) + 2 < (s.size : Int)) = true := by rw [decide_eq_true_eq]; omega
        have b2 : s[i + 2].toNat = bt s (i + 2) := (bt_eq s (i + 2) hd).symm
        cases hx : decide (bt s (i + 2) ≠ 93) with
        | true =>
          have hx' : bt s (i + 2) ≠ 93 := of_decide_eq_true hx
          have q3 : ((bt s (i + 2) : Int) != 93) = true := by rw [bne_iff_ne]; omega
          have HX := Lib.hid hx'
          have HD := Lib.hid hd
          clear hx hx'
          go_wp2_with (go_at_call 25; refine (HA2.out _).mono ?_; rintro e w' ⟨rfl, rfl⟩)
          go_meet
          exact ⟨by simp [HX.out, HD.out, HC.out], rfl⟩
        | false =>
          have hx' : bt s (i + 2) = 93 := Decidable.not_not.1 (of_decide_eq_false hx)
          have q3 : ((bt s (i + 2) : Int) != 93) = false := by rw [hx']; rfl
          have HX := Lib.hid hx'
          clear hx hx'
          go_wp2_with (go_at_call 25; refine (HA2.out _).mono ?_; rintro e w' ⟨rfl, rfl⟩)
          go_meet
          exact ⟨by simp [HX.out], rfl⟩
      · have q1 : decide ((i : Int) + 2 < (s.size : Int)) = false := by rw [decide_eq_false_iff_not]; omega
        have HD := Lib.hid hd
        clear hd
        go_wp2_with (go_at_call 25; refine (HA2.out _).mono ?_; rintro e w' ⟨rfl, rfl⟩)
        go_meet
        exact ⟨by simp [HD.out], rfl⟩
  case rest =>
  obtain ⟨rfl, rfl⟩ := hcut
  by_cases hF : (isN s (i + 1) [45] = true ∧ i + 2 < s.size) ∧ bt s (i + 2) ≠ 93
  · have q2 : decide ((isN s (i + 1) [45] = true ∧ i + 2 < s.size) ∧ bt s (i + 2) ≠ 93) = true := decide_eq_true hF
    have hg : thingD s i = betweenD s i := by unfold thingD; rw [if_neg hA, if_neg hE, if_pos hF]
    rw [q2]
    have HNC := Lib.hid (between_calls s hs i hF.1.2)
    clear q2 hF hA hE
    generalize betweenD s i = R at hg HNC
    have HRES := Lib.hid hg
    clear hg
    obtain ⟨t', p', e', l'⟩ := R
    replace HNC : Hid (∀ w, Calls Tryd.prog _ _ w fun en w' => en = .returned (.agg (ptI t' p' e' l')) ∧ Below w.heap.size w w') := HNC
    go_wp2_with fail
    refine (HNC.out _).mono ?_
    rintro e w2 ⟨rfl, hb⟩
    have HR2 := Lib.hid (HR.out.below hb (Blk.lt HR.out))
    have HB2 := Lib.hid (HB.out.trans (hb.mono (by omega)))
    have hz2 := Nat.le_trans hz hb.size
    clear HR HB hz hb
    have HR := HR2
    have HB := HB2
    have hz := hz2
    clear HR2 HB2 hz2
    go_wp2_with ((with_reducible refine wpList_store_st (o := ⟨none, .store 47 _ _, _, _, _, _⟩) rfl 47 _ _ rfl w.heap.size rfl rfl (run_storeAt_row _ w.heap.size 47 47 (ptI 0 0 0 eT) (ptI t' p' e' l') ?_ ?_ ?_ ?_) ?_); exact HR.out; exact infoPt; rfl; exact pt_one _ _ _ _)
    exact bodyPost_ret (v := .agg (ptI t' p' e' l')) (results_cell_row rfl _ _ w.heap.size 47 (ptI t' p' e' l') (0, 0) _ rfl (Blk.setRow HR.out) Tryd.underlying47 rfl infoPt) rfl ⟨by rw [HRES.out] <;> rfl, below_row HB.out (by omega) _⟩
  have q2 : decide ((isN s (i + 1) [45] = true ∧ i + 2 < s.size) ∧ bt s (i + 2) ≠ 93) = false := decide_eq_false hF
  rw [q2]
  have hg : thingD s i = okD (range (bt s i) (bt s i)) (i + 1) := by unfold thingD; rw [if_neg hA, if_neg hE, if_neg hF]
  have HWC := Lib.hid (fun W t => dWith_calls W t (bt s i) hl0)
  clear q2 hA hE hF
  generalize range (bt s i) (bt s i) = r at hg HWC
  have HRES := Lib.hid hg
  clear hg
  go_wp2_with fail
  have hz2 : w.heap.size + 1 ≤ (w1.alloc (.cells #[.int .u8 (bt s i)] 5)).heap.size := by simp; omega
  replace HR := Lib.hid (HR.out.alloc (.cells #[.int .u8 (bt s i)] 5))
  replace HB := Lib.hid (HB.out.alloc (by omega) (.cells #[.int .u8 (bt s i)] 5))
  clear hz
  have hz := hz2
  clear hz2
  refine Calls.mono (HWC.out w1 _) ?_
  rintro e w2 ⟨rfl, hb⟩
  have HR2 := Lib.hid (HR.out.below hb (Blk.lt HR.out))
  have HB2 := Lib.hid (HB.out.trans (hb.mono (by omega)))
  have hz2 := Nat.le_trans hz hb.size
  clear HR HB hz hb
  have HR := HR2
  have HB := HB2
  have hz := hz2
  clear HR2 HB2 hz2
  go_wp2_with ((with_reducible refine wpList_store_st (o := ⟨none, .store 47 _ _, _, _, _, _⟩) rfl 47 _ _ rfl w.heap.size rfl rfl (run_storeAt_row _ w.heap.size 47 47 (ptI 0 0 0 eT) (ptI r ((i : Int) + 1) 0 eT) ?_ ?_ ?_ ?_) ?_); exact HR.out; exact infoPt; rfl; exact pt_one _ _ _ _)
  exact bodyPost_ret (v := .agg (ptI r ((i : Int) + 1) 0 eT)) (results_cell_row rfl _ _ w.heap.size 47 (ptI r ((i : Int) + 1) 0 eT) (0, 0) _ rfl (Blk.setRow HR.out) Tryd.underlying47 rfl infoPt) rfl ⟨by rw [HRES.out] <;> rfl, below_row HB.out (by omega) _⟩

def OkD (s : ByteArray) (i : Nat) (p : DP) : Prop := p.err = 0 → i < p.fin ∧ p.fin ≤ s.size
theorem okD_bad (s : ByteArray) (i e p : Nat) : OkD s i (badD (e + 1) p) := fun h => by simp [badD] at h
theorem okD_short (s l : ByteArray) (i : Nat) : OkD s i (shortD s l) := fun h => by simp [shortD] at h
theorem behindD_ok (s : ByteArray) (a e i : Nat) (he : e ≤ s.size) (hi : i ≤ e) : OkD s i (behindD s a e) := by
  unfold behindD
  refine ite_ok _ (fun _ => okD_short _ _ _) (fun h1 => ?_)
  refine ite_ok _ (fun _ => okD_bad _ _ 4 _) (fun _ => ?_)
  refine ite_ok _ (fun _ => okD_short _ _ _) (fun h2 => ?_)
  refine ite_ok _ (fun _ => okD_bad _ _ 2 _) (fun _ _ => ⟨by simp only [okD]; omega, by simp only [okD]; omega⟩)
theorem namedD_ok (s : ByteArray) (a i : Nat) (ha : a ≤ s.size) (hi : i ≤ a) : OkD s i (namedD s a) := by
  have := nmEnd_le s a (s.size - a) a
  exact behindD_ok s a _ i (by omega) (by omega)
theorem betweenD_ok (s : ByteArray) (i : Nat) (h : i + 2 < s.size) : OkD s i (betweenD s i) := by
  unfold betweenD
  refine ite_ok _ (fun _ => okD_bad _ _ 3 _) (fun _ => ?_)
  exact ite_ok _ (fun _ => okD_bad _ _ 2 _) (fun _ _ => ⟨by simp only [okD]; omega, by simp only [okD]; omega⟩)
theorem thingD_ok (s : ByteArray) (i : Nat) (h : i < s.size) : OkD s i (thingD s i) := by
  unfold thingD
  refine ite_ok _ (fun h1 => namedD_ok _ _ _ (by have := isN_lt h1.2; omega) (by omega)) (fun _ => ?_)
  refine ite_ok _ (fun _ => okD_bad _ _ 2 _) (fun _ => ?_)
  exact ite_ok _ (fun h2 => betweenD_ok _ _ h2.1.2) (fun _ _ => ⟨by simp only [okD]; omega, by simp only [okD]; omega⟩)
end Go.Proofs.YtkkhibamkdgffaaDoor

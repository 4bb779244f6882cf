/- Texts put together: Ds Dt Du Dv Dl. -/
import Derived.Test.YtbccojjcdcighaaGreatDoorPAi
import Derived.Test.YtbccojjcdcighaaGreatDoorPD
import Derived.Test.YtbccojjcdcighaaGreatDoorPR
import Derived.Test.YtbccojjcdcighaaGreatDoorPAc
import Derived.Test.YtbccojjcdcighaaGreatDoorPB
import Derived.Test.YtbccojjcdcighaaGreatDoorPAf
import Derived.Laws.Concat
namespace Go.Proofs.YtbccojjcdcighaaGreatDoor
open Go.RowKit Go.Shelf BS
theorem dByte_one (W : World) (t : TypeId) (n : Int) (x : Fin 256) (hn : n = (x.val : Int)) : BytesAt (W.alloc (.cells #[.int .u8 n] t)).heap.size (W.alloc (.cells #[.int .u8 n] t)) (.slice (some ⟨W.heap.size, 0, none⟩) 1 1) [x] := by
  subst hn
  refine ⟨_, 1, rfl, fun _ => ⟨W.heap.size, 0, rfl, by simp, ?_⟩⟩
  intro j hj
  obtain rfl : j = 0 := by simpa using hj
  exact (Blk.new W _ t).cell 0
theorem with_one : ∀ x : Fin 256, withL 0 [x] = range x.val x.val := by decide +kernel
theorem dWith_calls (W : World) (t : TypeId) (b : Nat) (hb : b < 256) : Calls Tryz.prog 106 #[setV 0, .slice (some ⟨W.heap.size, 0, none⟩) 1 1] (W.alloc (.cells #[.int .u8 b] t)) fun e W' => e = .returned (setV (range b b)) ∧ Below (W.alloc (.cells #[.int .u8 b] t)).heap.size (W.alloc (.cells #[.int .u8 b] t)) W' := by
  have h := callsIn_wide.1 (with_in 3 (by omega) 0 _ (some ⟨W.heap.size, 0, none⟩) 1 1 rfl [⟨b, hb⟩] (by simp) _ (dByte_one W t b ⟨b, hb⟩ rfl))
  rw [with_one] at h
  exact h
set_option maxRecDepth 100000 in
set_option maxHeartbeats 8000000 in
theorem thingD_calls (s : ByteArray) (hs : s.size ≤ 1000000) (i : Nat) (hi : i < s.size) (w : World) :
    Calls Tryz.prog 197 #[.string s, .int .i64 i] w fun en w' => en = .returned (.agg (ptA (thingD s i))) ∧ Below w.heap.size w w' := by
  have HR := Lib.hid (Blk.new w (ptI 0 0 0 eT) 228)
  have HB : Hid (Below w.heap.size w (w.alloc (.cells (ptI 0 0 0 eT) 228))) := Lib.hid (by go_grown)
  have hz : w.heap.size + 1 ≤ (w.alloc (.cells (ptI 0 0 0 eT) 228)).heap.size := by simp
  have h0 : s[i].toNat = bt s i := (bt_eq s i hi).symm
  have hl0 := bt_lt s i
  go_enter Tryz.func197, Tryz.ntmps197
  go_upto_region 1 with fail
  have e0 : w.alloc (.cells #[.int .u64 0, .int .u64 0, .int .u64 0, .int .u64 0, .int .i64 0, .int .i64 0, .string ⟨#[]⟩] 228) = w.alloc (.cells (ptI 0 0 0 eT) 228) := rfl
  rw [e0]
  clear e0
  generalize w.alloc (.cells (ptI 0 0 0 eT) 228) = w1 at *
  go_cut [5] from 6 to 15 (fun x wx => x = .bool (decide (bt s i = 91 ∧ isN s (i + 1) [58] = true)) ∧ w1 = wx)
  case first =>
    cases hc : decide (bt s i = 91) with
    | true =>
      have hc' : bt s i = 91 := of_decide_eq_true hc
      have q1 : ((bt s i : Int) == 91) = true := by rw [beq_iff_eq]; omega
      have HC := Lib.hid hc'
      clear hc hc'
      have HA := isNat_calls s hs (i + 1) [58] (by decide)
      rw [show ((i + 1 : Nat) : Int) = (i : Int) + 1 from rfl, show ofT [58] = ⟨#[58]⟩ from rfl] at HA
      have HA2 := Lib.hid HA
      clear HA
      go_wp2_with (go_at_call 194; refine (HA2.out _).mono ?_; rintro e w' ⟨rfl, rfl⟩)
      go_meet
      exact ⟨by simp [HC.out], rfl⟩
    | false =>
      have hc' : ¬ bt s i = 91 := of_decide_eq_false hc
      have q1 : ((bt s i : Int) == 91) = false := by rw [beq_eq_false_iff_ne]; omega
      have HC := Lib.hid hc'
      clear hc hc'
      go_wp2_with fail
      go_meet
      exact ⟨by simp [HC.out], rfl⟩
  case rest =>
  obtain ⟨rfl, rfl⟩ := hcut
  by_cases hA : bt s i = 91 ∧ isN s (i + 1) [58] = true
  · have q2 : decide (bt s i = 91 ∧ isN s (i + 1) [58] = true) = true := decide_eq_true hA
    have hg : thingD s i = namedD s (i + 2) := by unfold thingD; rw [if_pos hA]
    rw [q2]
    have hlt := isN_lt hA.2
    clear q2 hA
    have HNC := Lib.hid (named_calls s hs (i + 2) (by omega))
    generalize namedD s (i + 2) = R at hg HNC
    have HRES := Lib.hid hg
    clear hg
    obtain ⟨t', p', e', l'⟩ := R
    replace HNC : Hid (∀ w, Calls Tryz.prog _ _ w fun en w' => en = .returned (.agg (ptI t' p' e' l')) ∧ Below w.heap.size w w') := HNC
    go_wp2_with fail
    refine (HNC.out _).mono ?_
    rintro e w2 ⟨rfl, hb⟩
    have HR2 := Lib.hid (HR.out.below hb (Blk.lt HR.out))
    have HB2 := Lib.hid (HB.out.trans (hb.mono (by omega)))
    have hz2 := Nat.le_trans hz hb.size
    clear HR HB hz hb
    have HR := HR2
    have HB := HB2
    have hz := hz2
    clear HR2 HB2 hz2
    go_wp2_with ((with_reducible refine wpList_store_st (o := ⟨none, .store 228 _ _, _, _, _, _⟩) rfl 228 _ _ rfl w.heap.size rfl rfl (run_storeAt_row _ w.heap.size 228 228 (ptI 0 0 0 eT) (ptI t' p' e' l') ?_ ?_ ?_ ?_) ?_); exact HR.out; exact infoPt; rfl; exact pt_one _ _ _ _)
    exact bodyPost_ret (v := .agg (ptI t' p' e' l')) (results_cell_row rfl _ _ w.heap.size 228 (ptI t' p' e' l') (0, 0) _ rfl (Blk.setRow HR.out) Tryz.underlying228 rfl infoPt) rfl ⟨by rw [HRES.out] <;> rfl, below_row HB.out (by omega) _⟩
  have q2 : decide (bt s i = 91 ∧ isN s (i + 1) [58] = true) = false := decide_eq_false hA
  rw [q2]
  clear q2
  go_upto_region 3 with fail
  go_cut [20] from 21 to 30 (fun x wx => x = .bool (decide (bt s i = 91 ∧ isN s (i + 1) [46, 61] = true)) ∧ w1 = wx)
  case first =>
    cases hc : decide (bt s i = 91) with
    | true =>
      have hc' : bt s i = 91 := of_decide_eq_true hc
      have q1 : ((bt s i : Int) == 91) = true := by rw [beq_iff_eq]; omega
      have HC := Lib.hid hc'
      clear hc hc'
      have HA := isNat_calls s hs (i + 1) [46, 61] (by decide)
      rw [show ((i + 1 : Nat) : Int) = (i : Int) + 1 from rfl, show ofT [46, 61] = ⟨#[46, 61]⟩ from rfl] at HA
      have HA2 := Lib.hid HA
      clear HA
      go_wp2_with (go_at_call 194; refine (HA2.out _).mono ?_; rintro e w' ⟨rfl, rfl⟩)
      go_meet
      exact ⟨by simp [HC.out], rfl⟩
    | false =>
      have hc' : ¬ bt s i = 91 := of_decide_eq_false hc
      have q1 : ((bt s i : Int) == 91) = false := by rw [beq_eq_false_iff_ne]; omega
      have HC := Lib.hid hc'
      clear hc hc'
      go_wp2_with fail
      go_meet
      exact ⟨by simp [HC.out], rfl⟩
  case rest =>
  obtain ⟨rfl, rfl⟩ := hcut
  by_cases hE : bt s i = 91 ∧ isN s (i + 1) [46, 61] = true
  · have q2 : decide (bt s i = 91 ∧ isN s (i + 1) [46, 61] = true) = true := decide_eq_true hE
    have HRES := Lib.hid (show thingD s i = badD 3 (i + 2) by unfold thingD; rw [if_neg hA, if_pos hE])
    rw [q2]
    clear q2 hE hA
    go_wp2_with ((with_reducible refine wpList_store_st (o := ⟨none, .store 228 _ _, _, _, _, _⟩) rfl 228 _ _ rfl w.heap.size rfl rfl (run_storeAt_row _ w.heap.size 228 228 (ptI 0 0 0 eT) (ptI 0 ((i : Int) + 2) 3 eT) ?_ ?_ ?_ ?_) ?_); exact HR.out; exact infoPt; rfl; exact pt_one _ _ _ _)
    exact bodyPost_ret (v := .agg (ptI 0 ((i : Int) + 2) 3 eT)) (results_cell_row rfl _ _ w.heap.size 228 (ptI 0 ((i : Int) + 2) 3 eT) (0, 0) _ rfl (Blk.setRow HR.out) Tryz.underlying228 rfl infoPt) rfl ⟨by rw [HRES.out] <;> rfl, below_row HB.out (by omega) _⟩
  have q2 : decide (bt s i = 91 ∧ isN s (i + 1) [46, 61] = true) = false := decide_eq_false hE
  rw [q2]
  clear q2
  go_upto_region 5 with fail
  go_cut [34] from 35 to 52 (fun x wx => x = .bool (decide ((isN s (i + 1) [45] = true ∧ i + 2 < s.size) ∧ bt s (i + 2) ≠ 93)) ∧ w1 = wx)
  case first =>
    have HA := isNat_calls s hs (i + 1) [45] (by decide)
    rw [show ((i + 1 : Nat) : Int) = (i : Int) + 1 from rfl, show ofT [45] = ⟨#[45]⟩ from rfl] at HA
    cases hc : isN s (i + 1) [45] with
    | false =>
      rw [hc] at HA
      have HA2 := Lib.hid HA
      have HC := Lib.hid hc
      clear HA hc hA hE
      go_wp2_with (go_at_call 194; refine (HA2.out _).mono ?_; rintro e w' ⟨rfl, rfl⟩)
      go_meet
      exact ⟨by simp [HC.out], rfl⟩
    | true =>
      rw [hc] at HA
      have HA2 := Lib.hid HA
      have HC := Lib.hid hc
      clear HA hc hA hE
      by_cases hd : i + 2 < s.size
      · have q1 : decide ((i : Int) + 2 < (s.size : Int)) = true := by rw [decide_eq_true_eq]; omega
        have b2 : s[i + 2].toNat = bt s (i + 2) := (bt_eq s (i + 2) hd).symm
        cases hx : decide (bt s (i + 2) ≠ 93) with
        | true =>
          have hx' : bt s (i + 2) ≠ 93 := of_decide_eq_true hx
          have q3 : ((bt s (i + 2) : Int) != 93) = true := by rw [bne_iff_ne]; omega
          have HX := Lib.hid hx'
          have HD := Lib.hid hd
          clear hx hx'
          go_wp2_with (go_at_call 194; refine (HA2.out _).mono ?_; rintro e w' ⟨rfl, rfl⟩)
          go_meet
          exact ⟨by simp [HX.out, HD.out, HC.out], rfl⟩
        | false =>
          have hx' : bt s (i + 2) = 93 := Decidable.not_not.1 (of_decide_eq_false hx)
          have q3 : ((bt s (i + 2) : Int) != 93) = false := by rw [hx']; rfl
          have HX := Lib.hid hx'
          clear hx hx'
          go_wp2_with (go_at_call 194; refine (HA2.out _).mono ?_; rintro e w' ⟨rfl, rfl⟩)
          go_meet
          exact ⟨by simp [HX.out], rfl⟩
      · have q1 : decide ((i : Int) + 2 < (s.size : Int)) = false := by rw [decide_eq_false_iff_not]; omega
        have HD := Lib.hid hd
        clear hd
        go_wp2_with (go_at_call 194; refine (HA2.out _).mono ?_; rintro e w' ⟨rfl, rfl⟩)
        go_meet
        exact ⟨by simp [HD.out], rfl⟩
  case rest =>
  obtain ⟨rfl, rfl⟩ := hcut
  by_cases hF : (isN s (i + 1) [45] = true ∧ i + 2 < s.size) ∧ bt s (i + 2) ≠ 93
  · have q2 : decide ((isN s (i + 1) [45] = true ∧ i + 2 < s.size) ∧ bt s (i + 2) ≠ 93) = true := decide_eq_true hF
    have hg : thingD s i = betweenD s i := by unfold thingD; rw [if_neg hA, if_neg hE, if_pos hF]
    rw [q2]
    have HNC := Lib.hid (between_calls s hs i hF.1.2)
    clear q2 hF hA hE
    generalize betweenD s i = R at hg HNC
    have HRES := Lib.hid hg
    clear hg
    obtain ⟨t', p', e', l'⟩ := R
    replace HNC : Hid (∀ w, Calls Tryz.prog _ _ w fun en w' => en = .returned (.agg (ptI t' p' e' l')) ∧ Below w.heap.size w w') := HNC
    go_wp2_with fail
    refine (HNC.out _).mono ?_
    rintro e w2 ⟨rfl, hb⟩
    have HR2 := Lib.hid (HR.out.below hb (Blk.lt HR.out))
    have HB2 := Lib.hid (HB.out.trans (hb.mono (by omega)))
    have hz2 := Nat.le_trans hz hb.size
    clear HR HB hz hb
    have HR := HR2
    have HB := HB2
    have hz := hz2
    clear HR2 HB2 hz2
    go_wp2_with ((with_reducible refine wpList_store_st (o := ⟨none, .store 228 _ _, _, _, _, _⟩) rfl 228 _ _ rfl w.heap.size rfl rfl (run_storeAt_row _ w.heap.size 228 228 (ptI 0 0 0 eT) (ptI t' p' e' l') ?_ ?_ ?_ ?_) ?_); exact HR.out; exact infoPt; rfl; exact pt_one _ _ _ _)
    exact bodyPost_ret (v := .agg (ptI t' p' e' l')) (results_cell_row rfl _ _ w.heap.size 228 (ptI t' p' e' l') (0, 0) _ rfl (Blk.setRow HR.out) Tryz.underlying228 rfl infoPt) rfl ⟨by rw [HRES.out] <;> rfl, below_row HB.out (by omega) _⟩
  have q2 : decide ((isN s (i + 1) [45] = true ∧ i + 2 < s.size) ∧ bt s (i + 2) ≠ 93) = false := decide_eq_false hF
  rw [q2]
  have hg : thingD s i = okD (range (bt s i) (bt s i)) (i + 1) := by unfold thingD; rw [if_neg hA, if_neg hE, if_neg hF]
  have HWC := Lib.hid (fun W t => dWith_calls W t (bt s i) hl0)
  clear q2 hA hE hF
  generalize range (bt s i) (bt s i) = r at hg HWC
  have HRES := Lib.hid hg
  clear hg
  go_wp2_with fail
  have hz2 : w.heap.size + 1 ≤ (w1.alloc (.cells #[.int .u8 (bt s i)] 5)).heap.size := by simp; omega
  replace HR := Lib.hid (HR.out.alloc (.cells #[.int .u8 (bt s i)] 5))
  replace HB := Lib.hid (HB.out.alloc (by omega) (.cells #[.int .u8 (bt s i)] 5))
  clear hz
  have hz := hz2
  clear hz2
  refine Calls.mono (HWC.out w1 _) ?_
  rintro e w2 ⟨rfl, hb⟩
  have HR2 := Lib.hid (HR.out.below hb (Blk.lt HR.out))
  have HB2 := Lib.hid (HB.out.trans (hb.mono (by omega)))
  have hz2 := Nat.le_trans hz hb.size
  clear HR HB hz hb
  have HR := HR2
  have HB := HB2
  have hz := hz2
  clear HR2 HB2 hz2
  go_wp2_with ((with_reducible refine wpList_store_st (o := ⟨none, .store 228 _ _, _, _, _, _⟩) rfl 228 _ _ rfl w.heap.size rfl rfl (run_storeAt_row _ w.heap.size 228 228 (ptI 0 0 0 eT) (ptI r ((i : Int) + 1) 0 eT) ?_ ?_ ?_ ?_) ?_); exact HR.out; exact infoPt; rfl; exact pt_one _ _ _ _)
  exact bodyPost_ret (v := .agg (ptI r ((i : Int) + 1) 0 eT)) (results_cell_row rfl _ _ w.heap.size 228 (ptI r ((i : Int) + 1) 0 eT) (0, 0) _ rfl (Blk.setRow HR.out) Tryz.underlying228 rfl infoPt) rfl ⟨by rw [HRES.out] <;> rfl, below_row HB.out (by omega) _⟩
def OkD (s : ByteArray) (i : Nat) (p : DP) : Prop := p.err = 0 → i < p.fin ∧ p.fin ≤ s.size
theorem okD_bad (s : ByteArray) (i e p : Nat) : OkD s i (badD (e + 1) p) := fun h => by simp [badD] at h
theorem okD_short (s l : ByteArray) (i : Nat) : OkD s i (shortD s l) := fun h => by simp [shortD] at h
theorem behindD_ok (s : ByteArray) (a e i : Nat) (he : e ≤ s.size) (hi : i ≤ e) : OkD s i (behindD s a e) := by
  unfold behindD
  refine ite_ok _ (fun _ => okD_short _ _ _) (fun h1 => ?_)
  refine ite_ok _ (fun _ => okD_bad _ _ 4 _) (fun _ => ?_)
  refine ite_ok _ (fun _ => okD_short _ _ _) (fun h2 => ?_)
  refine ite_ok _ (fun _ => okD_bad _ _ 2 _) (fun _ _ => ⟨by simp only [okD]; omega, by simp only [okD]; omega⟩)
theorem namedD_ok (s : ByteArray) (a i : Nat) (ha : a ≤ s.size) (hi : i ≤ a) : OkD s i (namedD s a) := by
  have := nmEnd_le s a (s.size - a) a
  exact behindD_ok s a _ i (by omega) (by omega)
theorem betweenD_ok (s : ByteArray) (i : Nat) (h : i + 2 < s.size) : OkD s i (betweenD s i) := by
  unfold betweenD
  refine ite_ok _ (fun _ => okD_bad _ _ 3 _) (fun _ => ?_)
  exact ite_ok _ (fun _ => okD_bad _ _ 2 _) (fun _ _ => ⟨by simp only [okD]; omega, by simp only [okD]; omega⟩)
theorem thingD_ok (s : ByteArray) (i : Nat) (h : i < s.size) : OkD s i (thingD s i) := by
  unfold thingD
  refine ite_ok _ (fun h1 => namedD_ok _ _ _ (by have := isN_lt h1.2; omega) (by omega)) (fun _ => ?_)
  refine ite_ok _ (fun _ => okD_bad _ _ 2 _) (fun _ => ?_)
  exact ite_ok _ (fun h2 => betweenD_ok _ _ h2.1.2) (fun _ _ => ⟨by simp only [okD]; omega, by simp only [okD]; omega⟩)
end Go.Proofs.YtbccojjcdcighaaGreatDoor

namespace Go.Proofs.YtbccojjcdcighaaGreatDoor
open Go.RowKit Go.Shelf BS
def SLo (w : World) (t : BitVec 256) (B : Nat) (c : Array Value) (W : World) : Prop := (Blk W w.heap.size (ptI 0 0 0 eT) 228 ∧ Blk W (w.heap.size + 1) (setA t) 43 ∧ Blk W B c 228 ∧ w.heap.size + 2 ≤ B) ∧ Below w.heap.size w W
theorem SLo.keep {w W W' : World} {t : BitVec 256} {B : Nat} {c : Array Value} (h : SLo w t B c W) (hb : Below W.heap.size W W') : SLo w t B c W' := ⟨⟨h.1.1.below hb h.1.1.lt, h.1.2.1.below hb h.1.2.1.lt, h.1.2.2.1.below hb h.1.2.2.1.lt, h.1.2.2.2⟩, h.2.trans (hb.mono h.2.size)⟩
theorem SLo.drewS {w W : World} {t : BitVec 256} {B : Nat} {c : Array Value} (h : SLo w t B c W) : SLo w t B c W.drew := ⟨⟨h.1.1, h.1.2.1, h.1.2.2.1, h.1.2.2.2⟩, h.2.drew⟩
theorem SLo.store {w W : World} {t : BitVec 256} {B : Nat} {c : Array Value} (h : SLo w t B c W) (r : BitVec 256) :
    SLo w r B c ((((W.setCell ⟨w.heap.size + 1, 0, none⟩ (.int .u64 (wd r 0))).setCell ⟨w.heap.size + 1, 1, none⟩ (.int .u64 (wd r 1))).setCell ⟨w.heap.size + 1, 2, none⟩ (.int .u64 (wd r 2))).setCell ⟨w.heap.size + 1, 3, none⟩ (.int .u64 (wd r 3))) := by
  have hne : w.heap.size ≠ w.heap.size + 1 := by omega
  have hnB : B ≠ w.heap.size + 1 := by have := h.1.2.2.2; omega
  exact ⟨⟨(((h.1.1.other hne 0 _).other hne 1 _).other hne 2 _).other hne 3 _, (((h.1.2.1.set 0 (.int .u64 (wd r 0))).set 1 (.int .u64 (wd r 1))).set 2 (.int .u64 (wd r 2))).set 3 (.int .u64 (wd r 3)),
    (((h.1.2.2.1.other hnB 0 _).other hnB 1 _).other hnB 2 _).other hnB 3 _, h.1.2.2.2⟩,
    below_set (below_set (below_set (below_set h.2 (show w.heap.size ≤ w.heap.size + 1 by omega) 0 _) (show w.heap.size ≤ w.heap.size + 1 by omega) 1 _) (show w.heap.size ≤ w.heap.size + 1 by omega) 2 _) (show w.heap.size ≤ w.heap.size + 1 by omega) 3 _⟩
set_option maxRecDepth 100000 in
set_option maxHeartbeats 16000000 in
theorem thingsD_calls (s : ByteArray) (hs : s.size ≤ 1000000) (first : Nat) (hf : first ≤ s.size) (w : World) :
    Calls Tryz.prog 195 #[.string s, .int .i64 first] w fun en w' => en = .returned (.agg (ptA (thingsD s first))) ∧ Below w.heap.size w w' := by
  have HR := Lib.hid ((Blk.new w (ptI 0 0 0 eT) 228).alloc (.cells (setA 0) 43))
  have HS := Blk.new (w.alloc (.cells (ptI 0 0 0 eT) 228)) (setA 0) 43
  rw [World.size_alloc] at HS
  replace HS := Lib.hid HS
  have HB : Hid (Below w.heap.size w ((w.alloc (.cells (ptI 0 0 0 eT) 228)).alloc (.cells (setA 0) 43))) := Lib.hid (by go_grown)
  have hz : w.heap.size + 2 ≤ ((w.alloc (.cells (ptI 0 0 0 eT) 228)).alloc (.cells (setA 0) 43)).heap.size := by simp
  generalize hR : thingsD s first = R
  have HRR := Lib.hid hR
  clear hR
  go_enter Tryz.func195, Tryz.ntmps195
  go_wp2_with fail
  go_step3
  go_wp2_with fail
  go_step3
  go_wp2_with fail
  have e0 : (w.alloc (.cells #[.int .u64 0, .int .u64 0, .int .u64 0, .int .u64 0, .int .i64 0, .int .i64 0, .string ⟨#[]⟩] 228)).alloc (.cells #[.int .u64 0, .int .u64 0, .int .u64 0, .int .u64 0] 43) = (w.alloc (.cells (ptI 0 0 0 eT) 228)).alloc (.cells (setA 0) 43) := rfl
  rw [e0]
  clear e0
  generalize (w.alloc (.cells (ptI 0 0 0 eT) 228)).alloc (.cells (setA 0) 43) = w1 at *
  go_loopw [6] (fun v wr => ∃ (n : Nat) (t : BitVec 256) (i : Nat), s.size + 1 ≤ n + i ∧ first ≤ i ∧ i ≤ s.size ∧ v = .int .i64 i ∧ loopD s first n t i = R ∧ Blk wr w.heap.size (ptI 0 0 0 eT) 228 ∧ Blk wr (w.heap.size + 1) (setA t) 43 ∧ Below w.heap.size w wr ∧ w.heap.size + 2 ≤ wr.heap.size) (fun v _ => s.size - (intOf v).toNat)
  case atStart => exact ⟨s.size + 1 - first, 0, first, by omega, Nat.le_refl _, hf, rfl, HRR.out, HR.out, HS.out, HB.out, hz⟩
  case round =>
    clear HR HS HB HRR hz
    obtain ⟨n, t, i, hn, hi1, hi2, rfl, hres, hR, hS, hB, hz⟩ := hrel
    obtain ⟨n, rfl⟩ : ∃ m, n = m + 1 := ⟨n - 1, by omega⟩
    have HR := Lib.hid hR
    have HS := Lib.hid hS
    have HB := Lib.hid hB
    clear hR hS hB
    rw [loopD] at hres
    by_cases h1 : i = s.size
    · have q1 : ((i : Int) == (s.size : Int)) = true := by rw [beq_iff_eq]; omega
      by_cases h2 : i = first
      · have q2 : ((i : Int) == (first : Int)) = true := by rw [beq_iff_eq]; omega
        rw [if_pos ⟨h1, h2⟩] at hres
        have HRES := Lib.hid hres
        clear hres h1 h2
        go_wp2_with fail
        refine (short_calls _ _ _).mono ?_
        rintro e w5 ⟨rfl, hb⟩
        have HR2 := Lib.hid (HR.out.below hb (Blk.lt HR.out))
        have HS2 := Lib.hid (HS.out.below hb (Blk.lt HS.out))
        have HB2 := Lib.hid (HB.out.trans (hb.mono (by omega)))
        have hz2 := Nat.le_trans hz hb.size
        clear HR HS HB hz hb
        have HR := HR2
        have HS := HS2
        have HB := HB2
        have hz := hz2
        clear HR2 HS2 HB2 hz2
        go_wp2_with ((with_reducible refine wpList_store_st (o := ⟨none, .store 228 _ _, _, _, _, _⟩) rfl 228 _ _ rfl w.heap.size rfl rfl (run_storeAt_row _ w.heap.size 228 228 (ptI 0 0 0 eT) (ptI 0 s.size 2 twoT) ?_ ?_ ?_ ?_) ?_); exact HR.out; exact infoPt; rfl; exact pt_one _ _ _ _)
        first | rw [Exit.noGoto_ret] | skip
        exact bodyPost_ret (v := .agg (ptI 0 s.size 2 twoT)) (results_cell_row rfl _ _ w.heap.size 228 (ptI 0 s.size 2 twoT) (0, 0) _ rfl (Blk.setRow HR.out) Tryz.underlying228 rfl infoPt) rfl ⟨by rw [← HRES.out] <;> rfl, below_row HB.out (by omega) _⟩
      · have q2 : ((i : Int) == (first : Int)) = false := by rw [beq_eq_false_iff_ne]; omega
        rw [if_neg (fun h => h2 h.2), if_pos h1] at hres
        have HRES := Lib.hid hres
        clear hres h1 h2
        go_wp2_with fail
        refine (short_calls _ _ _).mono ?_
        rintro e w5 ⟨rfl, hb⟩
        have HR2 := Lib.hid (HR.out.below hb (Blk.lt HR.out))
        have HS2 := Lib.hid (HS.out.below hb (Blk.lt HS.out))
        have HB2 := Lib.hid (HB.out.trans (hb.mono (by omega)))
        have hz2 := Nat.le_trans hz hb.size
        clear HR HS HB hz hb
        have HR := HR2
        have HS := HS2
        have HB := HB2
        have hz := hz2
        clear HR2 HS2 HB2 hz2
        go_wp2_with ((with_reducible refine wpList_store_st (o := ⟨none, .store 228 _ _, _, _, _, _⟩) rfl 228 _ _ rfl w.heap.size rfl rfl (run_storeAt_row _ w.heap.size 228 228 (ptI 0 0 0 eT) (ptI 0 s.size 2 oneT) ?_ ?_ ?_ ?_) ?_); exact HR.out; exact infoPt; rfl; exact pt_one _ _ _ _)
        first | rw [Exit.noGoto_ret] | skip
        exact bodyPost_ret (v := .agg (ptI 0 s.size 2 oneT)) (results_cell_row rfl _ _ w.heap.size 228 (ptI 0 s.size 2 oneT) (0, 0) _ rfl (Blk.setRow HR.out) Tryz.underlying228 rfl infoPt) rfl ⟨by rw [← HRES.out] <;> rfl, below_row HB.out (by omega) _⟩
    have q1 : ((i : Int) == (s.size : Int)) = false := by rw [beq_eq_false_iff_ne]; omega
    rw [if_neg (fun h => h1 h.1), if_neg h1] at hres
    have hi3 : i < s.size := by omega
    have b0 : s[i].toNat = bt s i := (bt_eq s i hi3).symm
    go_upto_region 7 with fail
    go_cut [28] from 29 to 37 (fun x wx => x = .bool (decide (bt s i = 93 ∧ first < i)) ∧ wr = wx)
    case first =>
      cases hc : decide (bt s i = 93) with
      | true =>
        have hc' : bt s i = 93 := of_decide_eq_true hc
        have q2 : ((bt s i : Int) == 93) = true := by rw [beq_iff_eq]; omega
        have HC := Lib.hid hc'
        clear hc hc' hres
        go_wp2_with fail
        go_meet
        exact ⟨by simp [HC.out], rfl⟩
      | false =>
        have hc' : ¬ bt s i = 93 := of_decide_eq_false hc
        have q2 : ((bt s i : Int) == 93) = false := by rw [beq_eq_false_iff_ne]; omega
        have HC := Lib.hid hc'
        clear hc hc' hres
        go_wp2_with fail
        go_meet
        exact ⟨by simp [HC.out], rfl⟩
    case rest =>
    obtain ⟨rfl, rfl⟩ := hcut
    by_cases h3 : bt s i = 93 ∧ first < i
    · have q2 : decide (bt s i = 93 ∧ first < i) = true := decide_eq_true h3
      rw [if_pos h3] at hres
      rw [q2]
      have HRES := Lib.hid hres
      clear hres h1 h3 q2
      obtain ⟨⟨c0, c1, c2, c3⟩, _⟩ := HS.out.cells4
      go_wp2_with ((with_reducible refine wpList_store_st (o := ⟨none, .store 228 _ _, _, _, _, _⟩) rfl 228 _ _ rfl w.heap.size rfl rfl (run_storeAt_row _ w.heap.size 228 228 (ptI 0 0 0 eT) (ptI t ((i : Int) + 1) 0 eT) ?_ ?_ ?_ ?_) ?_); exact HR.out; exact infoPt; rfl; exact pt_one _ _ _ _)
      first | rw [Exit.noGoto_ret] | skip
      exact bodyPost_ret (v := .agg (ptI t ((i : Int) + 1) 0 eT)) (results_cell_row rfl _ _ w.heap.size 228 (ptI t ((i : Int) + 1) 0 eT) (0, 0) _ rfl (Blk.setRow HR.out) Tryz.underlying228 rfl infoPt) rfl ⟨by rw [← HRES.out] <;> rfl, below_row HB.out (by omega) _⟩
    have q2 : decide (bt s i = 93 ∧ first < i) = false := decide_eq_false h3
    rw [if_neg h3] at hres
    rw [q2]
    have hok := thingD_ok s i hi3
    have HTC := Lib.hid (thingD_calls s hs i hi3)
    generalize thingD s i = X at hres hok HTC
    obtain ⟨t', p', e', l'⟩ := X
    replace HTC : Hid (∀ w, Calls Tryz.prog 197 #[.string s, .int .i64 i] w fun en w' => en = .returned (.agg (ptI t' p' e' l')) ∧ Below w.heap.size w w') := HTC
    have HOK := Lib.hid hok
    have HRS := Lib.hid hres
    clear q2 h3 h1 hok hres
    go_wp2_with fail
    refine (HTC.out _).mono ?_
    rintro e w2 ⟨rfl, hb⟩
    have HR2 := Lib.hid (HR.out.below hb (Blk.lt HR.out))
    have HS2 := Lib.hid (HS.out.below hb (Blk.lt HS.out))
    have HB2 := Lib.hid (HB.out.trans (hb.mono (by omega)))
    have hz2 := Nat.le_trans hz hb.size
    clear HR HS HB hz hb
    have HR := HR2
    have HS := HS2
    have HB := HB2
    have hz := hz2
    clear HR2 HS2 HB2 hz2
    clear HTC
    go_upto_region 9 with fail
    have HP := Lib.hid (Blk.new w2 (ptI t' p' e' l') 228)
    have hz2 : w.heap.size + 2 ≤ (w2.alloc (.cells (ptI t' p' e' l') 228)).heap.size := by simp; omega
    replace HR := Lib.hid (HR.out.alloc (.cells (ptI t' p' e' l') 228))
    replace HS := Lib.hid (HS.out.alloc (.cells (ptI t' p' e' l') 228))
    replace HB := Lib.hid (HB.out.alloc (by omega) (.cells (ptI t' p' e' l') 228))
    generalize w2.alloc (.cells (ptI t' p' e' l') 228) = w3 at *
    have hzB : w.heap.size + 2 ≤ w2.heap.size := hz
    generalize w2.heap.size = B at *
    clear hz
    have hz := hz2
    clear hz2
    have c5 := HP.out.cell 5
    simp only [List.getElem?_toArray, List.getElem?_cons_zero, List.getElem?_cons_succ] at c5
    by_cases he : e' = 0
    · subst he
      have hok := HOK.out rfl
      simp only at hok
      go_wp2_with fail
      clear c5
      generalize hr : t ||| t' = r
      have hor : ∀ w', Calls Tryz.prog 198 #[setV t, setV t'] w' fun e w'' => e = .returned (setV r) ∧ Below w'.heap.size w' w'' := by rw [← hr]; exact or_calls t t'
      have HOR := Lib.hid hor
      have hres : loopD s first n r p' = R := by have := HRS.out; rwa [if_neg (by decide), hr] at this
      have HRES := Lib.hid hres
      clear hor hres hr HRS HOK
      have h0 : SLo w t B (ptI t' p' (0 : Nat) l') w3 := ⟨⟨HR.out, HS.out, HP.out, hzB⟩, HB.out⟩
      clear HR HS HP HB
      refine region_stepsL (S0 := SLo w t B (ptI t' p' (0 : Nat) l')) (S1 := SLo w r B (ptI t' p' (0 : Nat) l')) (m := 6) (by kernel_rfl) (by kernel_rfl) (SLo.drewS h0) ?_
      clear h0 hz
      simp only [List.size_toArray, List.length_cons, List.length_nil, Nat.reduceAdd, Array.replicate_succ, Array.replicate_zero, List.push_toArray, List.nil_append, List.cons_append]
      refine AnyL.next (m := 6) (i := 0) (d := some 45) (v := setV t) rfl rfl (by kernel_rfl) (by kernel_rfl) (by kernel_rfl) (by kernel_rfl) (StepsIf.yield (by kernel_rfl) (fun w' hS => by have c0 := hS.1.2.1.cell 0; have c1 := hS.1.2.1.cell 1; have c2 := hS.1.2.1.cell 2; have c3 := hS.1.2.1.cell 3; simp only [setA, List.getElem?_toArray, List.getElem?_cons_zero, List.getElem?_cons_succ] at c0 c1 c2 c3; clear hS; go_simp)) ?_
      intro a' ha'
      simp only [Act.put, List.setIfInBounds_toArray, List.set_cons_zero, List.set_cons_succ] at ha'
      subst ha'
      refine AnyL.next (m := 6) (i := 1) (d := some 46) (v := .pointer (some ⟨B, 0, none⟩)) rfl rfl (by kernel_rfl) (by kernel_rfl) (by kernel_rfl) (by kernel_rfl) (StepsIf.yield (by kernel_rfl) (fun w' hS => by clear hS; go_simp)) ?_
      intro a' ha'
      simp only [Act.put, List.setIfInBounds_toArray, List.set_cons_zero, List.set_cons_succ] at ha'
      subst ha'
      refine AnyL.next (m := 6) (i := 2) (d := some 47) (v := setV t') rfl rfl (by kernel_rfl) (by kernel_rfl) (by kernel_rfl) (by kernel_rfl) (StepsIf.yield (by kernel_rfl) (fun w' hS => by have c0 := hS.1.2.2.1.cell 0; have c1 := hS.1.2.2.1.cell 1; have c2 := hS.1.2.2.1.cell 2; have c3 := hS.1.2.2.1.cell 3; simp only [List.getElem?_toArray, List.getElem?_cons_zero, List.getElem?_cons_succ] at c0 c1 c2 c3; clear hS; go_simp)) ?_
      intro a' ha'
      simp only [Act.put, List.setIfInBounds_toArray, List.set_cons_zero, List.set_cons_succ] at ha'
      subst ha'
      refine AnyL.next (m := 6) (i := 3) (d := some 48) (v := setV r) rfl rfl (by kernel_rfl) (by kernel_rfl) (by kernel_rfl) (by kernel_rfl) (StepsIf.call (by kernel_rfl) (fun w' hS => by clear hS; go_simp) (fun w' hS => (HOR.out w').mono fun e w'' h => ⟨h.1, SLo.keep hS h.2⟩)) ?_
      intro a' ha'
      simp only [Act.put, List.setIfInBounds_toArray, List.set_cons_zero, List.set_cons_succ] at ha'
      subst ha'
      refine AnyL.both (m := 6) (i := 4) (d := some 49) (v := .pointer (some ⟨B, 4, none⟩)) rfl rfl (by kernel_rfl) (by kernel_rfl) (by kernel_rfl) (by kernel_rfl) (StepsIf.yield (by kernel_rfl) (fun w' hS => by clear hS; go_simp)) (StepsIf.yield (by kernel_rfl) (fun w' hS => by clear hS; go_simp)) ?_
      intro a' ha'
      simp only [Act.put, List.setIfInBounds_toArray, List.set_cons_zero, List.set_cons_succ] at ha'
      subst ha'
      refine AnyL.both (m := 6) (i := 5) (d := some 50) (v := .int .i64 p') rfl rfl (by kernel_rfl) (by kernel_rfl) (by kernel_rfl) (by kernel_rfl) (StepsIf.yield (by kernel_rfl) (fun w' hS => by have c4 := hS.1.2.2.1.cell 4; simp only [List.getElem?_toArray, List.getElem?_cons_zero, List.getElem?_cons_succ] at c4; clear hS; go_simp)) (StepsIf.yield (by kernel_rfl) (fun w' hS => by have c4 := hS.1.2.2.1.cell 4; simp only [List.getElem?_toArray, List.getElem?_cons_zero, List.getElem?_cons_succ] at c4; clear hS; go_simp)) ?_
      intro a' ha'
      simp only [Act.put, List.setIfInBounds_toArray, List.set_cons_zero, List.set_cons_succ] at ha'
      subst ha'
      refine AnyL.store (m := 6) (d := none) (v := undef) rfl rfl (by kernel_rfl) (by kernel_rfl) (by kernel_rfl) (fun w' hS K Q hK => by have c0 := hS.1.2.1.cell 0; have c1 := hS.1.2.1.cell 1; have c2 := hS.1.2.1.cell 2; have c3 := hS.1.2.1.cell 3; have f0 := hS.1.2.1.frozen 0; have f1 := hS.1.2.1.frozen 1; have f2 := hS.1.2.1.frozen 2; have f3 := hS.1.2.1.frozen 3; simp only [setA, List.getElem?_toArray, List.getElem?_cons_zero, List.getElem?_cons_succ] at c0 c1 c2 c3; have HSS := Lib.hid hS; clear hS; go_simp; exact hK _ (SLo.store HSS.out r)) ?_
      intro a' ha'
      simp only [Act.put] at ha'
      subst ha'
      refine AnyL.after (m := 6) (i := 7) (d := some 6) (v := .int .i64 p') rfl rfl (by kernel_rfl) (by kernel_rfl) (by kernel_rfl) (by kernel_rfl) (StepsIf.yield (by kernel_rfl) (fun w' hS => by clear hS; go_simp)) ?_
      intro a' ha'
      simp only [Act.put, List.setIfInBounds_toArray, List.set_cons_zero, List.set_cons_succ] at ha'
      subst ha'
      refine AnyL.done (by kernel_rfl) (by kernel_rfl) (fun w' hS => ?_) _
      have HR := Lib.hid hS.1.1
      have HS := Lib.hid hS.1.2.1
      have HB := Lib.hid hS.2
      have hz5 : w.heap.size + 2 ≤ w'.heap.size := by have := hS.1.2.2.1.lt; have := hS.1.2.2.2; omega
      clear hS
      go_wp2_with fail
      go_roundw
      case rel => exact ⟨n, r, p', by omega, by omega, by omega, rfl, HRES.out, HR.out, HS.out, HB.out, hz5⟩
      case measure => simp [intOf]; omega
    · have q3 : ((e' : Int) != 0) = true := by rw [bne_iff_ne]; omega
      have HRES := Lib.hid (show (⟨t', p', e', l'⟩ : DP) = R by have := HRS.out; rwa [if_pos he] at this)
      clear HOK HRS he
      go_wp2_with (first
        | ((with_reducible refine wpList_load_row (o := ⟨_, .load 228 _, _, _, _, _⟩) rfl 228 _ rfl B rfl 228 (ptI t' p' e' l') (0, 0) _ ?_ Tryz.underlying228 rfl ?_ ?_); exact HP.out; exact infoPt)
        | ((with_reducible refine wpList_store_st (o := ⟨none, .store 228 _ _, _, _, _, _⟩) rfl 228 _ _ rfl w.heap.size rfl rfl (run_storeAt_row _ w.heap.size 228 228 (ptI 0 0 0 eT) (ptI t' p' e' l') ?_ ?_ ?_ ?_) ?_); exact HR.out; exact infoPt; rfl; exact pt_one _ _ _ _))
      first | rw [Exit.noGoto_ret] | skip
      exact bodyPost_ret (v := .agg (ptI t' p' e' l')) (results_cell_row rfl _ _ w.heap.size 228 (ptI t' p' e' l') (0, 0) _ rfl (Blk.setRow HR.out) Tryz.underlying228 rfl infoPt) rfl ⟨by rw [← HRES.out] <;> rfl, below_row HB.out (by omega) _⟩
set_option maxRecDepth 100000 in
set_option maxHeartbeats 8000000 in
theorem wholeD_calls (s : ByteArray) (hs : s.size ≤ 1000000) (at' : Int) (w : World) :
    Calls Tryz.prog 193 #[.string s, .int .i64 at'] w fun en w' => en = .returned (.agg (ptA (wholeD s at'))) ∧ Below w.heap.size w w' := by
  have HR := Lib.hid (Blk.new w (ptI 0 0 0 eT) 228)
  have HB : Hid (Below w.heap.size w (w.alloc (.cells (ptI 0 0 0 eT) 228))) := Lib.hid (by go_grown)
  have hz : w.heap.size + 1 ≤ (w.alloc (.cells (ptI 0 0 0 eT) 228)).heap.size := by simp
  have HA := isAt_calls s hs at' [91] (by decide)
  rw [show ofT [91] = ⟨#[91]⟩ from rfl] at HA
  cases hc : isI s at' [91] with
  | false =>
    rw [hc] at HA
    have HA2 := Lib.hid HA
    have HRES := Lib.hid (show wholeD s at' = badD 1 0 by
      unfold wholeD isI at *
      by_cases h0 : at' < 0
      · rw [if_pos h0]
      · rw [if_neg h0] at hc; rw [if_neg h0, if_pos hc])
    clear HA hc
    go_enter Tryz.func193, Tryz.ntmps193
    go_upto_region 1 with fail
    have e0 : w.alloc (.cells #[.int .u64 0, .int .u64 0, .int .u64 0, .int .u64 0, .int .i64 0, .int .i64 0, .string ⟨#[]⟩] 228) = w.alloc (.cells (ptI 0 0 0 eT) 228) := rfl
    rw [e0]
    clear e0
    generalize w.alloc (.cells (ptI 0 0 0 eT) 228) = w1 at *
    go_wp2_with (first
      | (go_at_call 194; refine (HA2.out _).mono ?_; rintro e w' ⟨rfl, rfl⟩)
      | ((with_reducible refine wpList_store_st (o := ⟨none, .store 228 _ _, _, _, _, _⟩) rfl 228 _ _ rfl w.heap.size rfl rfl (run_storeAt_row _ w.heap.size 228 228 (ptI 0 0 0 eT) (ptI 0 0 1 eT) ?_ ?_ ?_ ?_) ?_); exact HR.out; exact infoPt; rfl; exact pt_one _ _ _ _))
    exact bodyPost_ret (v := .agg (ptI 0 0 1 eT)) (results_cell_row rfl _ _ w.heap.size 228 (ptI 0 0 1 eT) (0, 0) _ rfl (Blk.setRow HR.out) Tryz.underlying228 rfl infoPt) rfl ⟨by rw [HRES.out] <;> rfl, below_row HB.out (by omega) _⟩
  | true =>
    rw [hc] at HA
    have h0 : ¬ at' < 0 := fun h => by unfold isI at hc; rw [if_pos h] at hc; cases hc
    obtain ⟨k, rfl⟩ : ∃ k : Nat, at' = k := ⟨at'.toNat, by omega⟩
    have hc' : isN s k [91] = true := by unfold isI at hc; rwa [if_neg h0] at hc
    have hlt := isN_lt hc'
    have hg : wholeD s k = if isN s (k + 1) [94] = false then thingsD s (k + 1) else negD (thingsD s (k + 2)) := by
      unfold wholeD
      rw [if_neg h0, show (k : Int).toNat = k from rfl, if_neg (by rw [hc']; decide)]
    have HB2 := isNat_calls s hs (k + 1) [94] (by decide)
    rw [show ((k + 1 : Nat) : Int) = (k : Int) + 1 from rfl, show ofT [94] = ⟨#[94]⟩ from rfl] at HB2
    have HA2 := Lib.hid HA
    clear HA hc hc' h0
    cases hd : isN s (k + 1) [94] with
    | false =>
      rw [hd] at HB2 hg
      rw [if_pos rfl] at hg
      have HN := Lib.hid HB2
      have HTC := Lib.hid (thingsD_calls s hs (k + 1) (by omega))
      generalize thingsD s (k + 1) = X at hg HTC
      obtain ⟨t', p', e', l'⟩ := X
      replace HTC : Hid (∀ w, Calls Tryz.prog 195 #[.string s, .int .i64 ((k : Int) + 1)] w fun en w' => en = .returned (.agg (ptI t' p' e' l')) ∧ Below w.heap.size w w') := HTC
      have HRES := Lib.hid hg
      clear HB2 hd hg
      go_enter Tryz.func193, Tryz.ntmps193
      go_upto_region 1 with fail
      have e0 : w.alloc (.cells #[.int .u64 0, .int .u64 0, .int .u64 0, .int .u64 0, .int .i64 0, .int .i64 0, .string ⟨#[]⟩] 228) = w.alloc (.cells (ptI 0 0 0 eT) 228) := rfl
      rw [e0]
      clear e0
      generalize w.alloc (.cells (ptI 0 0 0 eT) 228) = w1 at *
      go_upto_region 3 with (go_at_call 194; refine (HA2.out _).mono ?_; rintro e w' ⟨rfl, rfl⟩)
      go_upto_region 4 with (go_at_call 194; refine (HN.out _).mono ?_; rintro e w' ⟨rfl, rfl⟩)
      go_wp2_with fail
      refine (HTC.out _).mono ?_
      rintro e w2 ⟨rfl, hb⟩
      have HR2 := Lib.hid (HR.out.below hb (Blk.lt HR.out))
      have HB2 := Lib.hid (HB.out.trans (hb.mono (by omega)))
      have hz2 := Nat.le_trans hz hb.size
      clear HR HB hz hb
      have HR := HR2
      have HB := HB2
      have hz := hz2
      clear HR2 HB2 hz2
      go_wp2_with ((with_reducible refine wpList_store_st (o := ⟨none, .store 228 _ _, _, _, _, _⟩) rfl 228 _ _ rfl w.heap.size rfl rfl (run_storeAt_row _ w.heap.size 228 228 (ptI 0 0 0 eT) (ptI t' p' e' l') ?_ ?_ ?_ ?_) ?_); exact HR.out; exact infoPt; rfl; exact pt_one _ _ _ _)
      exact bodyPost_ret (v := .agg (ptI t' p' e' l')) (results_cell_row rfl _ _ w.heap.size 228 (ptI t' p' e' l') (0, 0) _ rfl (Blk.setRow HR.out) Tryz.underlying228 rfl infoPt) rfl ⟨by rw [HRES.out] <;> rfl, below_row HB.out (by omega) _⟩
    | true =>
      rw [hd] at HB2 hg
      rw [if_neg (by decide)] at hg
      have hlt2 := isN_lt hd
      have HN := Lib.hid HB2
      have HTC := Lib.hid (thingsD_calls s hs (k + 2) (by omega))
      generalize thingsD s (k + 2) = X at hg HTC
      obtain ⟨t', p', e', l'⟩ := X
      replace HTC : Hid (∀ w, Calls Tryz.prog 195 #[.string s, .int .i64 ((k : Int) + 2)] w fun en w' => en = .returned (.agg (ptI t' p' e' l')) ∧ Below w.heap.size w w') := HTC
      have hg2 : wholeD s k = ⟨~~~t', p', e', l'⟩ := hg
      have hnt := not_calls t'
      generalize ~~~t' = r at hg2 hnt
      have HRES := Lib.hid hg2
      have HNT := Lib.hid hnt
      clear HB2 hd hg hg2 hnt
      go_enter Tryz.func193, Tryz.ntmps193
      go_upto_region 1 with fail
      have e0 : w.alloc (.cells #[.int .u64 0, .int .u64 0, .int .u64 0, .int .u64 0, .int .i64 0, .int .i64 0, .string ⟨#[]⟩] 228) = w.alloc (.cells (ptI 0 0 0 eT) 228) := rfl
      rw [e0]
      clear e0
      generalize w.alloc (.cells (ptI 0 0 0 eT) 228) = w1 at *
      go_upto_region 3 with (go_at_call 194; refine (HA2.out _).mono ?_; rintro e w' ⟨rfl, rfl⟩)
      go_upto_region 5 with (go_at_call 194; refine (HN.out _).mono ?_; rintro e w' ⟨rfl, rfl⟩)
      go_wp2_with fail
      refine (HTC.out _).mono ?_
      rintro e w2 ⟨rfl, hb⟩
      have HR2 := Lib.hid (HR.out.below hb (Blk.lt HR.out))
      have HB2 := Lib.hid (HB.out.trans (hb.mono (by omega)))
      have hz2 := Nat.le_trans hz hb.size
      clear HR HB hz hb
      have HR := HR2
      have HB := HB2
      have hz := hz2
      clear HR2 HB2 hz2
      go_upto_region 6 with fail
      have HP := Lib.hid (Blk.new w2 (ptI t' p' e' l') 228)
      have hz2 : w.heap.size + 1 ≤ (w2.alloc (.cells (ptI t' p' e' l') 228)).heap.size := by simp; omega
      replace HR := Lib.hid (HR.out.alloc (.cells (ptI t' p' e' l') 228))
      replace HB := Lib.hid (HB.out.alloc (by omega) (.cells (ptI t' p' e' l') 228))
      generalize w2.alloc (.cells (ptI t' p' e' l') 228) = w3 at *
      have hzB : w.heap.size + 1 ≤ w2.heap.size := hz
      generalize w2.heap.size = B at *
      clear hz
      have hz := hz2
      clear hz2
      have c0 := HP.out.cell 0; have c1 := HP.out.cell 1; have c2 := HP.out.cell 2; have c3 := HP.out.cell 3
      simp only [List.getElem?_toArray, List.getElem?_cons_zero, List.getElem?_cons_succ] at c0 c1 c2 c3
      go_wp2_with fail
      refine (HNT.out _).mono ?_
      rintro e w4 ⟨rfl, hb⟩
      clear c0 c1 c2 c3
      replace HP := Lib.hid (HP.out.below hb HP.out.lt)
      have HR2 := Lib.hid (HR.out.below hb (Blk.lt HR.out))
      have HB2 := Lib.hid (HB.out.trans (hb.mono (by omega)))
      have hz2 := Nat.le_trans hz hb.size
      clear HR HB hz hb
      have HR := HR2
      have HB := HB2
      have hz := hz2
      clear HR2 HB2 hz2
      have c0 := HP.out.cell 0; have c1 := HP.out.cell 1; have c2 := HP.out.cell 2; have c3 := HP.out.cell 3
      simp only [List.getElem?_toArray, List.getElem?_cons_zero, List.getElem?_cons_succ] at c0 c1 c2 c3
      have f0 := HP.out.frozen 0; have f1 := HP.out.frozen 1; have f2 := HP.out.frozen 2; have f3 := HP.out.frozen 3
      have HP2 := Lib.hid ((((HP.out.set 0 (.int .u64 (wd r 0))).set 1 (.int .u64 (wd r 1))).set 2 (.int .u64 (wd r 2))).set 3 (.int .u64 (wd r 3)) : Blk _ _ (ptI r p' e' l') 228)
      have hne : w.heap.size ≠ B := by omega
      have hB' : w.heap.size ≤ B := by omega
      have HR2 := Lib.hid ((((HR.out.other hne 0 (.int .u64 (wd r 0))).other hne 1 (.int .u64 (wd r 1))).other hne 2 (.int .u64 (wd r 2))).other hne 3 (.int .u64 (wd r 3)))
      have HB2 := Lib.hid (below_set (below_set (below_set (below_set HB.out hB' 0 (.int .u64 (wd r 0))) hB' 1 (.int .u64 (wd r 1))) hB' 2 (.int .u64 (wd r 2))) hB' 3 (.int .u64 (wd r 3)))
      clear HP HR HB hne hB'
      have HR := HR2
      have HB := HB2
      clear HR2 HB2
      go_wp2_with (first
        | ((with_reducible refine wpList_load_row (o := ⟨_, .load 228 _, _, _, _, _⟩) rfl 228 _ rfl B rfl 228 (ptI r p' e' l') (0, 0) _ ?_ Tryz.underlying228 rfl ?_ ?_); exact HP2.out; exact infoPt)
        | ((with_reducible refine wpList_store_st (o := ⟨none, .store 228 _ _, _, _, _, _⟩) rfl 228 _ _ rfl w.heap.size rfl rfl (run_storeAt_row _ w.heap.size 228 228 (ptI 0 0 0 eT) (ptI r p' e' l') ?_ ?_ ?_ ?_) ?_); exact HR.out; exact infoPt; rfl; exact pt_one _ _ _ _))
      exact bodyPost_ret (v := .agg (ptI r p' e' l')) (results_cell_row rfl _ _ w.heap.size 228 (ptI r p' e' l') (0, 0) _ rfl (Blk.setRow HR.out) Tryz.underlying228 rfl infoPt) rfl ⟨by rw [HRES.out] <;> rfl, below_row HB.out (by omega) _⟩
theorem lackF (t : BitVec 256) (p e : Int) (l : ByteArray) (w : World) : (Instr.field 228 (.agg (ptI t p e l)) 3).run Tryz.prog w = .ok (.string l) w := by kernel_rfl
set_option maxRecDepth 100000 in
set_option maxHeartbeats 1000000 in
theorem lackD_calls (s : ByteArray) (hs : s.size ≤ 1000000) (at' : Int) (w : World) :
    Calls Tryz.prog 192 #[.string s, .int .i64 at'] w fun en w' => en = .returned (.string (wholeD s at').lack) ∧ Below w.heap.size w w' := by
  have HW := Lib.hid (wholeD_calls s hs at')
  generalize wholeD s at' = X at *
  obtain ⟨t', p', e', l'⟩ := X
  replace HW : Hid (∀ w, Calls Tryz.prog 193 #[.string s, .int .i64 at'] w fun en w' => en = .returned (.agg (ptI t' p' e' l')) ∧ Below w.heap.size w w') := HW
  go_enter Tryz.func192, Tryz.ntmps192
  go_wp2_with fail
  refine (HW.out _).mono ?_
  rintro e w2 ⟨rfl, hb⟩
  have hfl := fun w => lackF t' p' e' l' w
  go_wp2_with fail
  go_ret
  exact ⟨rfl, hb⟩
end Go.Proofs.YtbccojjcdcighaaGreatDoor

namespace Go.Proofs.YtbccojjcdcighaaGreatDoor
open Go.RowKit Go.Shelf BS
def SRd (w : World) (B : Nat) (d c : Array Value) (W : World) : Prop := (Blk W w.heap.size d 43 ∧ Blk W B c 228 ∧ w.heap.size + 1 ≤ B) ∧ Below w.heap.size w W
theorem SRd.drewS {w W : World} {B : Nat} {d c : Array Value} (h : SRd w B d c W) : SRd w B d c W.drew := ⟨⟨h.1.1, h.1.2.1, h.1.2.2⟩, h.2.drew⟩
theorem SRd.store {w W : World} {B : Nat} {c : Array Value} (h : SRd w B (setA 0) c W) (r : BitVec 256) :
    SRd w B (setA r) c ((((W.setCell ⟨w.heap.size, 0, none⟩ (.int .u64 (wd r 0))).setCell ⟨w.heap.size, 1, none⟩ (.int .u64 (wd r 1))).setCell ⟨w.heap.size, 2, none⟩ (.int .u64 (wd r 2))).setCell ⟨w.heap.size, 3, none⟩ (.int .u64 (wd r 3))) := by
  have hnB : B ≠ w.heap.size := by have := h.1.2.2; omega
  exact ⟨⟨(((h.1.1.set 0 (.int .u64 (wd r 0))).set 1 (.int .u64 (wd r 1))).set 2 (.int .u64 (wd r 2))).set 3 (.int .u64 (wd r 3)), (((h.1.2.1.other hnB 0 _).other hnB 1 _).other hnB 2 _).other hnB 3 _, h.1.2.2⟩,
    below_set (below_set (below_set (below_set h.2 (Nat.le_refl _) 0 _) (Nat.le_refl _) 1 _) (Nat.le_refl _) 2 _) (Nat.le_refl _) 3 _⟩
set_option maxRecDepth 100000 in
set_option maxHeartbeats 8000000 in
theorem read_calls (s : ByteArray) (hs : s.size ≤ 1000000) (at' : Int) (w : World) :
    Calls Tryz.prog 191 #[.string s, .int .i64 at'] w fun en w' => en = .returned (.tuple #[setV (readD s at').1, .int .i64 (readD s at').2.1, .int .i64 (readD s at').2.2.1, .int .i64 (readD s at').2.2.2]) ∧ Below w.heap.size w w' := by
  have HR := Lib.hid (Blk.new w (setA 0) 43)
  have HB : Hid (Below w.heap.size w (w.alloc (.cells (setA 0) 43))) := Lib.hid (by go_grown)
  have hz : w.heap.size + 1 ≤ (w.alloc (.cells (setA 0) 43)).heap.size := by simp
  have hg : readD s at' = readD s at' := rfl
  conv at hg => rhs; unfold readD
  have HW := Lib.hid (wholeD_calls s hs at')
  generalize wholeD s at' = X at hg HW
  obtain ⟨t', p', e', l'⟩ := X
  replace HW : Hid (∀ w, Calls Tryz.prog 193 #[.string s, .int .i64 at'] w fun en w' => en = .returned (.agg (ptI t' p' e' l')) ∧ Below w.heap.size w w') := HW
  simp only at hg
  generalize readD s at' = Y at hg
  have HG := Lib.hid hg
  clear hg
  go_enter Tryz.func191, Tryz.ntmps191
  go_upto_region 1 with fail
  have e0 : w.alloc (.cells #[.int .u64 0, .int .u64 0, .int .u64 0, .int .u64 0] 43) = w.alloc (.cells (setA 0) 43) := rfl
  rw [e0]
  clear e0
  generalize w.alloc (.cells (setA 0) 43) = w1 at *
  go_wp2_with fail
  refine (HW.out _).mono ?_
  rintro e w2 ⟨rfl, hb⟩
  have HR2 := Lib.hid (HR.out.below hb (Blk.lt HR.out))
  have HB2 := Lib.hid (HB.out.trans (hb.mono (by omega)))
  have hz2 := Nat.le_trans hz hb.size
  clear HR HB hz hb
  have HR := HR2
  have HB := HB2
  have hz := hz2
  clear HR2 HB2 hz2
  clear HW
  go_upto_region 2 with fail
  have HP := Lib.hid (Blk.new w2 (ptI t' p' e' l') 228)
  replace HR := Lib.hid (HR.out.alloc (.cells (ptI t' p' e' l') 228))
  replace HB := Lib.hid (HB.out.alloc (by omega) (.cells (ptI t' p' e' l') 228))
  generalize w2.alloc (.cells (ptI t' p' e' l') 228) = w3 at *
  generalize w2.heap.size = B at *
  have c5 := HP.out.cell 5
  simp only [List.getElem?_toArray, List.getElem?_cons_zero, List.getElem?_cons_succ] at c5
  have h0 : SRd w B (setA 0) (ptI t' p' e' l') w3 := ⟨⟨HR.out, HP.out, hz⟩, HB.out⟩
  by_cases he : e' = 0
  · subst he
    have hY : Y = (t', p', 0, 0) := by rw [HG.out]; rfl
    subst hY
    clear HG HR HB HP
    have H0 := Lib.hid h0
    clear h0
    go_wp2_with fail
    refine region_stepsL (S0 := SRd w B (setA 0) (ptI t' p' (0 : Nat) l')) (S1 := SRd w B (setA t') (ptI t' p' (0 : Nat) l')) (m := 4) (by kernel_rfl) (by kernel_rfl) (SRd.drewS H0.out) ?_
    clear H0 hz c5
    simp only [List.size_toArray, List.length_cons, List.length_nil, Nat.reduceAdd, Array.replicate_succ, Array.replicate_zero, List.push_toArray, List.nil_append, List.cons_append]
    refine AnyL.next (m := 4) (i := 0) (d := some 20) (v := .pointer (some ⟨B, 0, none⟩)) rfl rfl (by kernel_rfl) (by kernel_rfl) (by kernel_rfl) (by kernel_rfl) (StepsIf.yield (by kernel_rfl) (fun w' hS => by clear hS; go_simp)) ?_
    intro a' ha'
    simp only [Act.put, List.setIfInBounds_toArray, List.set_cons_zero, List.set_cons_succ] at ha'
    subst ha'
    refine AnyL.next (m := 4) (i := 1) (d := some 21) (v := setV t') rfl rfl (by kernel_rfl) (by kernel_rfl) (by kernel_rfl) (by kernel_rfl) (StepsIf.yield (by kernel_rfl) (fun w' hS => by have c0 := hS.1.2.1.cell 0; have c1 := hS.1.2.1.cell 1; have c2 := hS.1.2.1.cell 2; have c3 := hS.1.2.1.cell 3; simp only [List.getElem?_toArray, List.getElem?_cons_zero, List.getElem?_cons_succ] at c0 c1 c2 c3; clear hS; go_simp)) ?_
    intro a' ha'
    simp only [Act.put, List.setIfInBounds_toArray, List.set_cons_zero, List.set_cons_succ] at ha'
    subst ha'
    refine AnyL.both (m := 4) (i := 2) (d := some 22) (v := .pointer (some ⟨B, 4, none⟩)) rfl rfl (by kernel_rfl) (by kernel_rfl) (by kernel_rfl) (by kernel_rfl) (StepsIf.yield (by kernel_rfl) (fun w' hS => by clear hS; go_simp)) (StepsIf.yield (by kernel_rfl) (fun w' hS => by clear hS; go_simp)) ?_
    intro a' ha'
    simp only [Act.put, List.setIfInBounds_toArray, List.set_cons_zero, List.set_cons_succ] at ha'
    subst ha'
    refine AnyL.both (m := 4) (i := 3) (d := some 23) (v := .int .i64 p') rfl rfl (by kernel_rfl) (by kernel_rfl) (by kernel_rfl) (by kernel_rfl) (StepsIf.yield (by kernel_rfl) (fun w' hS => by have c4 := hS.1.2.1.cell 4; simp only [List.getElem?_toArray, List.getElem?_cons_zero, List.getElem?_cons_succ] at c4; clear hS; go_simp)) (StepsIf.yield (by kernel_rfl) (fun w' hS => by have c4 := hS.1.2.1.cell 4; simp only [List.getElem?_toArray, List.getElem?_cons_zero, List.getElem?_cons_succ] at c4; clear hS; go_simp)) ?_
    intro a' ha'
    simp only [Act.put, List.setIfInBounds_toArray, List.set_cons_zero, List.set_cons_succ] at ha'
    subst ha'
    refine AnyL.store (m := 4) (d := none) (v := undef) rfl rfl (by kernel_rfl) (by kernel_rfl) (by kernel_rfl) (fun w' hS K Q hK => by have c0 := hS.1.1.cell 0; have c1 := hS.1.1.cell 1; have c2 := hS.1.1.cell 2; have c3 := hS.1.1.cell 3; have f0 := hS.1.1.frozen 0; have f1 := hS.1.1.frozen 1; have f2 := hS.1.1.frozen 2; have f3 := hS.1.1.frozen 3; simp only [setA, List.getElem?_toArray, List.getElem?_cons_zero, List.getElem?_cons_succ] at c0 c1 c2 c3; have HSS := Lib.hid hS; clear hS; go_simp; exact hK _ (SRd.store HSS.out t')) ?_
    intro a' ha'
    simp only [Act.put] at ha'
    subst ha'
    refine AnyL.after (m := 4) (i := 5) (d := some 5) (v := .int .i64 p') rfl rfl (by kernel_rfl) (by kernel_rfl) (by kernel_rfl) (by kernel_rfl) (StepsIf.yield (by kernel_rfl) (fun w' hS => by clear hS; go_simp)) ?_
    intro a' ha'
    simp only [Act.put, List.setIfInBounds_toArray, List.set_cons_zero, List.set_cons_succ] at ha'
    subst ha'
    refine AnyL.after (m := 4) (i := 6) (d := some 6) (v := .int .i64 0) rfl rfl (by kernel_rfl) (by kernel_rfl) (by kernel_rfl) (by kernel_rfl) (StepsIf.yield (by kernel_rfl) (fun w' hS => by clear hS; go_simp)) ?_
    intro a' ha'
    simp only [Act.put, List.setIfInBounds_toArray, List.set_cons_zero, List.set_cons_succ] at ha'
    subst ha'
    refine AnyL.after (m := 4) (i := 7) (d := some 7) (v := .int .i64 0) rfl rfl (by kernel_rfl) (by kernel_rfl) (by kernel_rfl) (by kernel_rfl) (StepsIf.yield (by kernel_rfl) (fun w' hS => by clear hS; go_simp)) ?_
    intro a' ha'
    simp only [Act.put, List.setIfInBounds_toArray, List.set_cons_zero, List.set_cons_succ] at ha'
    subst ha'
    refine AnyL.done (by kernel_rfl) (by kernel_rfl) (fun w' hS => ?_) _
    obtain ⟨⟨e0, e1, e2, e3⟩, _⟩ := hS.1.1.cells4
    have hB := hS.2
    clear hS
    go_wp2_with fail
    exact bodyPost_ret (v := .tuple #[setV t', .int .i64 p', .int .i64 0, .int .i64 0]) (by simp [results, Tryz.results191, go_sem, e0, e1, e2, e3]) rfl ⟨rfl, hB⟩
  · have q3 : ((e' : Int) != 0) = true := by rw [bne_iff_ne]; omega
    have hY : Y = (0, 0, e', p') := by have := HG.out; rw [if_pos he] at this; exact this
    subst hY
    clear HG HR HB HP he
    have H0 := Lib.hid h0
    clear h0
    go_wp2_with fail
    refine region_stepsL (S0 := SRd w B (setA 0) (ptI t' p' e' l')) (S1 := SRd w B (setA 0) (ptI t' p' e' l')) (m := 5) (by kernel_rfl) (by kernel_rfl) (SRd.drewS H0.out) ?_
    clear H0 hz c5
    simp only [List.size_toArray, List.length_cons, List.length_nil, Nat.reduceAdd, Array.replicate_succ, Array.replicate_zero, List.push_toArray, List.nil_append, List.cons_append]
    refine AnyL.next (m := 5) (i := 0) (d := some 15) (v := .agg #[.int .u64 0, .int .u64 0, .int .u64 0, .int .u64 0]) rfl rfl (by kernel_rfl) (by kernel_rfl) (by kernel_rfl) (by kernel_rfl) (StepsIf.yield (by kernel_rfl) (fun w' hS => by clear hS; go_simp)) ?_
    intro a' ha'
    simp only [Act.put, List.setIfInBounds_toArray, List.set_cons_zero, List.set_cons_succ] at ha'
    subst ha'
    refine AnyL.both (m := 5) (i := 1) (d := some 16) (v := .pointer (some ⟨B, 5, none⟩)) rfl rfl (by kernel_rfl) (by kernel_rfl) (by kernel_rfl) (by kernel_rfl) (StepsIf.yield (by kernel_rfl) (fun w' hS => by clear hS; go_simp)) (StepsIf.yield (by kernel_rfl) (fun w' hS => by clear hS; go_simp)) ?_
    intro a' ha'
    simp only [Act.put, List.setIfInBounds_toArray, List.set_cons_zero, List.set_cons_succ] at ha'
    subst ha'
    refine AnyL.both (m := 5) (i := 2) (d := some 17) (v := .int .i64 e') rfl rfl (by kernel_rfl) (by kernel_rfl) (by kernel_rfl) (by kernel_rfl) (StepsIf.yield (by kernel_rfl) (fun w' hS => by have c5 := hS.1.2.1.cell 5; simp only [List.getElem?_toArray, List.getElem?_cons_zero, List.getElem?_cons_succ] at c5; clear hS; go_simp)) (StepsIf.yield (by kernel_rfl) (fun w' hS => by have c5 := hS.1.2.1.cell 5; simp only [List.getElem?_toArray, List.getElem?_cons_zero, List.getElem?_cons_succ] at c5; clear hS; go_simp)) ?_
    intro a' ha'
    simp only [Act.put, List.setIfInBounds_toArray, List.set_cons_zero, List.set_cons_succ] at ha'
    subst ha'
    refine AnyL.both (m := 5) (i := 3) (d := some 18) (v := .pointer (some ⟨B, 4, none⟩)) rfl rfl (by kernel_rfl) (by kernel_rfl) (by kernel_rfl) (by kernel_rfl) (StepsIf.yield (by kernel_rfl) (fun w' hS => by clear hS; go_simp)) (StepsIf.yield (by kernel_rfl) (fun w' hS => by clear hS; go_simp)) ?_
    intro a' ha'
    simp only [Act.put, List.setIfInBounds_toArray, List.set_cons_zero, List.set_cons_succ] at ha'
    subst ha'
    refine AnyL.both (m := 5) (i := 4) (d := some 19) (v := .int .i64 p') rfl rfl (by kernel_rfl) (by kernel_rfl) (by kernel_rfl) (by kernel_rfl) (StepsIf.yield (by kernel_rfl) (fun w' hS => by have c4 := hS.1.2.1.cell 4; simp only [List.getElem?_toArray, List.getElem?_cons_zero, List.getElem?_cons_succ] at c4; clear hS; go_simp)) (StepsIf.yield (by kernel_rfl) (fun w' hS => by have c4 := hS.1.2.1.cell 4; simp only [List.getElem?_toArray, List.getElem?_cons_zero, List.getElem?_cons_succ] at c4; clear hS; go_simp)) ?_
    intro a' ha'
    simp only [Act.put, List.setIfInBounds_toArray, List.set_cons_zero, List.set_cons_succ] at ha'
    subst ha'
    refine AnyL.store (m := 5) (d := none) (v := undef) rfl rfl (by kernel_rfl) (by kernel_rfl) (by kernel_rfl) (fun w' hS K Q hK => by have c0 := hS.1.1.cell 0; have c1 := hS.1.1.cell 1; have c2 := hS.1.1.cell 2; have c3 := hS.1.1.cell 3; have f0 := hS.1.1.frozen 0; have f1 := hS.1.1.frozen 1; have f2 := hS.1.1.frozen 2; have f3 := hS.1.1.frozen 3; simp only [setA, List.getElem?_toArray, List.getElem?_cons_zero, List.getElem?_cons_succ] at c0 c1 c2 c3; have HSS := Lib.hid hS; clear hS; go_simp; exact hK _ (SRd.store HSS.out 0)) ?_
    intro a' ha'
    simp only [Act.put] at ha'
    subst ha'
    refine AnyL.after (m := 5) (i := 6) (d := some 5) (v := .int .i64 0) rfl rfl (by kernel_rfl) (by kernel_rfl) (by kernel_rfl) (by kernel_rfl) (StepsIf.yield (by kernel_rfl) (fun w' hS => by clear hS; go_simp)) ?_
    intro a' ha'
    simp only [Act.put, List.setIfInBounds_toArray, List.set_cons_zero, List.set_cons_succ] at ha'
    subst ha'
    refine AnyL.after (m := 5) (i := 7) (d := some 6) (v := .int .i64 e') rfl rfl (by kernel_rfl) (by kernel_rfl) (by kernel_rfl) (by kernel_rfl) (StepsIf.yield (by kernel_rfl) (fun w' hS => by clear hS; go_simp)) ?_
    intro a' ha'
    simp only [Act.put, List.setIfInBounds_toArray, List.set_cons_zero, List.set_cons_succ] at ha'
    subst ha'
    refine AnyL.after (m := 5) (i := 8) (d := some 7) (v := .int .i64 p') rfl rfl (by kernel_rfl) (by kernel_rfl) (by kernel_rfl) (by kernel_rfl) (StepsIf.yield (by kernel_rfl) (fun w' hS => by clear hS; go_simp)) ?_
    intro a' ha'
    simp only [Act.put, List.setIfInBounds_toArray, List.set_cons_zero, List.set_cons_succ] at ha'
    subst ha'
    refine AnyL.done (by kernel_rfl) (by kernel_rfl) (fun w' hS => ?_) _
    obtain ⟨⟨e0, e1, e2, e3⟩, _⟩ := hS.1.1.cells4
    have hB := hS.2
    clear hS
    go_wp2_with fail
    exact bodyPost_ret (v := .tuple #[setV 0, .int .i64 0, .int .i64 e', .int .i64 p']) (by simp [results, Tryz.results191, go_sem, e0, e1, e2, e3]) rfl ⟨rfl, hB⟩
end Go.Proofs.YtbccojjcdcighaaGreatDoor

namespace Go.Proofs.YtbccojjcdcighaaGreatDoor
open Go.RowKit BS
def toR (x : BR) (p : DP) : BR := if p.err ≠ 0 then badR p.err p.fin else ⟨x.set ||| p.set, p.fin, x.err, x.place, x.fin, x.neg⟩
theorem toR_bad (x : BR) (e p : Nat) : toR x (badD (e + 1) p) = badR (e + 1) p := by simp [toR, badD]
theorem toR_short (x : BR) (s l : ByteArray) : toR x (shortD s l) = badR 2 s.size := by simp [toR, shortD]
theorem toR_ok (x : BR) (t : BitVec 256) (p : Nat) : toR x (okD t p) = ⟨x.set ||| t, p, x.err, x.place, x.fin, x.neg⟩ := by simp [toR, okD]
theorem behindD_lt (s : ByteArray) (a e : Nat) (h : e < s.size) : behindD s a e = if ofB (s.extract a e).toList = false ∨ bt s e ≠ 58 then badD 5 (e + 1)
  else if e + 1 = s.size then shortD s twoT
  else if bt s (e + 1) ≠ 93 then badD 3 (e + 2)
  else okD (ofS (s.extract a e).toList) (e + 2) := by rw [behindD, if_neg (by omega : ¬ e = s.size)]
theorem nameR_eq (s : ByteArray) (a : Nat) (x : BR) : ∀ n j, n = s.size - j → a ≤ j → j ≤ s.size → nameR s a x n j = toR x (behindD s a (nmEnd s a n j))
  | 0, j, hn, ha, hj => by
    have : j = s.size := by omega
    subst this
    rw [nmEnd, behindD, if_pos rfl, toR_short]; rfl
  | n + 1, j, hn, ha, hj => by
    have hlt : j < s.size := by omega
    by_cases hc : bt s j = 58
    · rw [nmEnd_off _ _ _ _ (beg_colon s a j ha hlt hc), nameR_col _ _ _ _ _ hc, behindD_lt s a j hlt]
      by_cases h1 : ofB (s.extract a j).toList = false
      · rw [if_pos h1, if_pos (.inl h1), toR_bad]
      · have hn1 : ¬ (ofB (s.extract a j).toList = false ∨ bt s j ≠ 58) := by rintro (h | h); exact h1 h; exact h hc
        rw [if_neg h1, if_neg hn1]
        by_cases h2 : j + 1 = s.size
        · rw [if_pos (show s.size ≤ j + 1 by omega), if_pos h2, toR_short]
        · rw [if_neg (show ¬ s.size ≤ j + 1 by omega), if_neg h2]
          by_cases h3 : bt s (j + 1) ≠ 93
          · rw [if_pos h3, if_pos h3, toR_bad]
          · rw [if_neg h3, if_neg h3, toR_ok]
    · rw [nameR_not _ _ _ _ _ hc]
      cases hb : begB (s.extract a (j + 1)) with
      | false => rw [if_pos rfl, nmEnd_off _ _ _ _ hb, behindD_lt s a j hlt, if_pos (.inr hc), toR_bad]
      | true => rw [if_neg (by decide), nmEnd_on _ _ _ _ hb]; exact nameR_eq s a x n (j + 1) (by omega) (by omega) (by omega)
theorem loopD_short (s : ByteArray) (first n : Nat) (t : BitVec 256) (neg : Bool) : finD neg (loopD s first (n + 1) t s.size) = (0, 0, 2, s.size) := by
  rw [loopD]
  by_cases h : s.size = first
  · rw [if_pos ⟨rfl, h⟩]; simp [finD, shortD]
  · rw [if_neg (fun h' => h h'.2), if_pos rfl]; simp [finD, shortD]
theorem loopD_end (s : ByteArray) (first n : Nat) (t : BitVec 256) (i : Nat) (hi : i < s.size) (h : bt s i = 93 ∧ first < i) : loopD s first (n + 1) t i = okD t (i + 1) := by
  rw [loopD, if_neg (by omega), if_neg (by omega), if_pos h]
theorem loopD_bad (s : ByteArray) (first n : Nat) (t : BitVec 256) (i : Nat) (hi : i < s.size) (h : ¬ (bt s i = 93 ∧ first < i)) (he : (thingD s i).err ≠ 0) : loopD s first (n + 1) t i = thingD s i := by
  rw [loopD, if_neg (by omega), if_neg (by omega), if_neg h, if_pos he]
theorem loopD_on (s : ByteArray) (first n : Nat) (t : BitVec 256) (i : Nat) (hi : i < s.size) (h : ¬ (bt s i = 93 ∧ first < i)) (he : (thingD s i).err = 0) : loopD s first (n + 1) t i = loopD s first n (t ||| (thingD s i).set) (thingD s i).fin := by
  rw [loopD, if_neg (by omega), if_neg (by omega), if_neg h, if_neg (by rw [he]; decide)]
theorem isN_far (s : ByteArray) (i : Nat) (L : List Nat) (h : s.size ≤ i) : isN s i L = false := by
  cases hb : isN s i L with
  | false => rfl
  | true => have := isN_lt hb; omega
theorem thingD_byte (s : ByteArray) (i : Nat) (h1 : ¬ (bt s i = 91 ∧ isN s (i + 1) [58] = true)) (h2 : ¬ (bt s i = 91 ∧ isN s (i + 1) [46, 61] = true)) (h3 : ¬ ((isN s (i + 1) [45] = true ∧ i + 2 < s.size) ∧ bt s (i + 2) ≠ 93)) :
    thingD s i = okD (range (bt s i) (bt s i)) (i + 1) := by rw [thingD, if_neg h1, if_neg h2, if_neg h3]
theorem thingD_last (s : ByteArray) (i : Nat) (h : s.size ≤ i + 1) : thingD s i = okD (range (bt s i) (bt s i)) (i + 1) :=
  thingD_byte s i (fun h' => by rw [isN_far s _ _ h] at h'; exact absurd h'.2 (by decide)) (fun h' => by rw [isN_far s _ _ h] at h'; exact absurd h'.2 (by decide)) (fun h' => by omega)
theorem loop_eq (s : ByteArray) (first : Nat) (neg : Bool) : ∀ (m n n' : Nat) (t : BitVec 256) (i : Nat), s.size - i ≤ m → first ≤ i → i ≤ s.size → s.size + 1 ≤ n + i → s.size + 1 ≤ n' + i →
    finR (loopR s n ⟨t, i, 0, 0, false, neg⟩ (decide (i = first))) = finD neg (loopD s first n' t i) := by
  intro m
  induction m with
  | zero =>
    intro n n' t i hm hf hi hn hn'
    obtain ⟨n, rfl⟩ : ∃ k, n = k + 1 := ⟨n - 1, by omega⟩
    obtain ⟨n', rfl⟩ : ∃ k, n' = k + 1 := ⟨n' - 1, by omega⟩
    obtain rfl : i = s.size := by omega
    have ht : thingR s ⟨t, s.size, 0, 0, false, neg⟩ (decide (s.size = first)) = badR 2 s.size := by unfold thingR; rw [if_pos (Nat.le_refl _)]
    rw [loopD_short, loopR_err _ _ _ _ rfl (by rw [ht]; simp [badR]), ht]
    simp [finR, badR]
  | succ m ih =>
    intro n n' t i hm hf hi hn hn'
    by_cases hm' : s.size - i ≤ m
    · exact ih n n' t i hm' hf hi hn hn'
    obtain ⟨n, rfl⟩ : ∃ k, n = k + 1 := ⟨n - 1, by omega⟩
    obtain ⟨n', rfl⟩ : ∃ k, n' = k + 1 := ⟨n' - 1, by omega⟩
    have hlt : i < s.size := by omega
    -- what each kind of step leads to
    have onward : ∀ (u : BitVec 256) (p : Nat), i < p → p ≤ s.size → ¬ (bt s i = 93 ∧ first < i) → thingR s ⟨t, i, 0, 0, false, neg⟩ (decide (i = first)) = ⟨t ||| u, p, 0, 0, false, neg⟩ → thingD s i = okD u p →
        finR (loopR s (n + 1) ⟨t, i, 0, 0, false, neg⟩ (decide (i = first))) = finD neg (loopD s first (n' + 1) t i) := fun u p h1 h2 h3 hR hD => by
      rw [loopR_on _ _ _ _ rfl (by rw [hR]), hR, loopD_on _ _ _ _ _ hlt h3 (by rw [hD]; rfl), hD]
      have := ih n n' (t ||| u) p (by omega) (by omega) h2 (by omega) (by omega)
      rwa [decide_eq_false (by omega : ¬ p = first)] at this
    have wrong : ∀ (e p : Nat), ¬ (bt s i = 93 ∧ first < i) → thingR s ⟨t, i, 0, 0, false, neg⟩ (decide (i = first)) = badR (e + 1) p → (thingD s i).err = e + 1 → (thingD s i).fin = p →
        finR (loopR s (n + 1) ⟨t, i, 0, 0, false, neg⟩ (decide (i = first))) = finD neg (loopD s first (n' + 1) t i) := fun e p h3 hR hD hF => by
      rw [loopR_err _ _ _ _ rfl (by rw [hR]; simp [badR]), hR, loopD_bad _ _ _ _ _ hlt h3 (by rw [hD]; simp)]
      simp [finR, finD, badR, hD, hF]
    have tooShort : thingR s ⟨t, i, 0, 0, false, neg⟩ (decide (i = first)) = badR 2 s.size → finD neg (loopD s first (n' + 1) t i) = (0, 0, 2, s.size) →
        finR (loopR s (n + 1) ⟨t, i, 0, 0, false, neg⟩ (decide (i = first))) = finD neg (loopD s first (n' + 1) t i) := fun hR hD => by
      rw [loopR_err _ _ _ _ rfl (by rw [hR]; simp [badR]), hR, hD]
      simp [finR, badR]
    by_cases hE : bt s i = 93 ∧ first < i
    · have ht : thingR s ⟨t, i, 0, 0, false, neg⟩ (decide (i = first)) = ⟨t, i + 1, 0, 0, true, neg⟩ := by
        unfold thingR; simp only
        rw [if_neg (by omega), if_pos ⟨hE.1, decide_eq_false (by omega)⟩]
      rw [loopR_on _ _ _ _ rfl (by rw [ht]), ht, loopD_end _ _ _ _ _ hlt hE]
      have : loopR s n ⟨t, i + 1, 0, 0, true, neg⟩ false = ⟨t, i + 1, 0, 0, true, neg⟩ := by
        cases n with
        | zero => rfl
        | succ n => exact loopR_fin _ _ _ _ rfl
      rw [this]
      simp [finR, finD, okD]
    have hE' : ¬ (bt s i = 93 ∧ decide (i = first) = false) := fun h => hE ⟨h.1, by have := of_decide_eq_false h.2; omega⟩
    by_cases hL : s.size ≤ i + 1
    · refine tooShort (by unfold thingR; simp only; rw [if_neg (by omega), if_neg hE', if_pos hL]) ?_
      obtain ⟨n', rfl⟩ : ∃ k, n' = k + 1 := ⟨n' - 1, by omega⟩
      rw [loopD_on _ _ _ _ _ hlt hE (by rw [thingD_last s i hL]; rfl), thingD_last s i hL]
      simp only [okD]
      rw [show i + 1 = s.size by omega]
      exact loopD_short ..
    have h1 : i + 1 < s.size := by omega
    have n58 : ∀ b, isN s (i + 1) [b] = true ↔ bt s (i + 1) = b := fun b => by rw [isN_one]; exact ⟨fun h => h.2, fun h => ⟨h1, h⟩⟩
    have n46 : isN s (i + 1) [46, 61] = true ↔ (bt s (i + 1) = 46 ∨ bt s (i + 1) = 61) := by rw [isN_two]; exact ⟨fun h => h.2, fun h => ⟨h1, h⟩⟩
    by_cases hA : bt s i = 91 ∧ bt s (i + 1) = 58
    · have hR : thingR s ⟨t, i, 0, 0, false, neg⟩ (decide (i = first)) = toR ⟨t, i, 0, 0, false, neg⟩ (namedD s (i + 2)) := by
        unfold thingR; simp only
        rw [if_neg (by omega), if_neg hE', if_neg hL, if_pos hA, nameR_eq s (i + 2) _ _ _ rfl (Nat.le_refl _) (by omega)]
        rfl
      have hD : thingD s i = namedD s (i + 2) := by rw [thingD, if_pos ⟨hA.1, (n58 58).2 hA.2⟩]
      by_cases he : (namedD s (i + 2)).err = 0
      · have hok := namedD_ok s (i + 2) i (by omega) (by omega) he
        rw [loopR_on _ _ _ _ rfl (by rw [hR]; simp [toR, he]), hR, loopD_on _ _ _ _ _ hlt hE (by rw [hD]; exact he), hD]
        have := ih n n' (t ||| (namedD s (i + 2)).set) (namedD s (i + 2)).fin (by omega) (by omega) hok.2 (by omega) (by omega)
        rw [decide_eq_false (by omega : ¬ (namedD s (i + 2)).fin = first)] at this
        rw [← this]
        simp [toR, he]
      · obtain ⟨e, he'⟩ : ∃ e, (namedD s (i + 2)).err = e + 1 := ⟨(namedD s (i + 2)).err - 1, by omega⟩
        refine wrong e _ hE ?_ (by rw [hD]; exact he') rfl
        rw [hR, hD, toR, if_pos he, he']
    have hA1 : ¬ (bt s i = 91 ∧ isN s (i + 1) [58] = true) := fun h => hA ⟨h.1, (n58 58).1 h.2⟩
    by_cases hB : bt s i = 91 ∧ spec3 (bt s (i + 1)) = true
    · have h46 : bt s (i + 1) = 46 ∨ bt s (i + 1) = 61 := ((spec3_iff _).1 hB.2).resolve_left (fun h => hA ⟨hB.1, h⟩)
      have hD : thingD s i = badD 3 (i + 2) := by rw [thingD, if_neg hA1, if_pos ⟨hB.1, n46.2 h46⟩]
      refine wrong 2 (i + 2) hE ?_ (by rw [hD]; rfl) (by rw [hD]; rfl)
      unfold thingR; simp only
      rw [if_neg (by omega), if_neg hE', if_neg hL, if_neg hA, if_pos hB]
    have hB1 : ¬ (bt s i = 91 ∧ isN s (i + 1) [46, 61] = true) := fun h => hB ⟨h.1, (spec3_iff _).2 (.inr (n46.1 h.2))⟩
    by_cases hC : bt s (i + 1) ≠ 45
    · refine onward (range (bt s i) (bt s i)) (i + 1) (by omega) (by omega) hE ?_ (thingD_byte s i hA1 hB1 (fun h => hC ((n58 45).1 h.1.1)))
      unfold thingR; simp only
      rw [if_neg (by omega), if_neg hE', if_neg hL, if_neg hA, if_neg hB, if_pos hC]; rfl
    have hC' : bt s (i + 1) = 45 := Decidable.not_not.1 hC
    by_cases hG : s.size ≤ i + 2
    · refine tooShort (by unfold thingR; simp only; rw [if_neg (by omega), if_neg hE', if_neg hL, if_neg hA, if_neg hB, if_neg hC, if_pos hG]) ?_
      have hD := thingD_byte s i hA1 hB1 (fun h => by omega)
      obtain ⟨n', rfl⟩ : ∃ k, n' = k + 2 := ⟨n' - 2, by omega⟩
      rw [loopD_on _ _ _ _ _ hlt hE (by rw [hD]; rfl), hD]
      simp only [okD]
      have hE2 : ¬ (bt s (i + 1) = 93 ∧ first < i + 1) := fun h => by rw [hC'] at h; exact absurd h.1 (by decide)
      rw [loopD_on _ _ _ _ _ h1 hE2 (by rw [thingD_last s (i + 1) (by omega)]; rfl), thingD_last s (i + 1) (by omega)]
      simp only [okD]
      rw [show i + 1 + 1 = s.size by omega]
      exact loopD_short ..
    have h2 : i + 2 < s.size := by omega
    by_cases hH : bt s (i + 2) = 93
    · refine onward (range (bt s i) (bt s i)) (i + 1) (by omega) (by omega) hE ?_ (thingD_byte s i hA1 hB1 (fun h => h.2 hH))
      unfold thingR; simp only
      rw [if_neg (by omega), if_neg hE', if_neg hL, if_neg hA, if_neg hB, if_neg hC, if_neg hG, if_pos hH]; rfl
    have hDb : thingD s i = betweenD s i := by rw [thingD, if_neg hA1, if_neg hB1, if_pos ⟨⟨(n58 45).2 hC', h2⟩, hH⟩]
    by_cases hI : bt s (i + 2) < bt s i
    · have hD : thingD s i = badD 4 (i + 3) := by rw [hDb, betweenD, if_pos hI]
      refine wrong 3 (i + 3) hE ?_ (by rw [hD]; rfl) (by rw [hD]; rfl)
      unfold thingR; simp only
      rw [if_neg (by omega), if_neg hE', if_neg hL, if_neg hA, if_neg hB, if_neg hC, if_neg hG, if_neg hH, if_pos hI]
    by_cases hJ : bt s (i + 2) = 91 ∧ s.size ≤ i + 3
    · refine tooShort (by unfold thingR; simp only; rw [if_neg (by omega), if_neg hE', if_neg hL, if_neg hA, if_neg hB, if_neg hC, if_neg hG, if_neg hH, if_neg hI, if_pos hJ]) ?_
      have hD : thingD s i = okD (range (bt s i) (bt s (i + 2))) (i + 3) := by
        rw [hDb, betweenD, if_neg hI, if_neg (fun h => by rw [isN_far s _ _ hJ.2] at h; exact absurd h.2 (by decide))]
      obtain ⟨n', rfl⟩ : ∃ k, n' = k + 1 := ⟨n' - 1, by omega⟩
      rw [loopD_on _ _ _ _ _ hlt hE (by rw [hD]; rfl), hD]
      simp only [okD]
      rw [show i + 3 = s.size by omega]
      exact loopD_short ..
    by_cases hK : bt s (i + 2) = 91 ∧ spec3 (bt s (i + 3)) = true
    · have h3 : i + 3 < s.size := by
        have := hJ; rw [not_and] at this; have := this hK.1; omega
      have hD : thingD s i = badD 3 (i + 4) := by
        rw [hDb, betweenD, if_neg hI, if_pos ⟨hK.1, (isN_three _ _ _ _ _).2 ⟨h3, (spec3_iff _).1 hK.2⟩⟩]
      refine wrong 2 (i + 4) hE ?_ (by rw [hD]; rfl) (by rw [hD]; rfl)
      unfold thingR; simp only
      rw [if_neg (by omega), if_neg hE', if_neg hL, if_neg hA, if_neg hB, if_neg hC, if_neg hG, if_neg hH, if_neg hI, if_neg hJ, if_pos hK]
    · have hD : thingD s i = okD (range (bt s i) (bt s (i + 2))) (i + 3) := by
        rw [hDb, betweenD, if_neg hI, if_neg (fun h => hK ⟨h.1, (spec3_iff _).2 ((isN_three _ _ _ _ _).1 h.2).2⟩)]
      refine onward _ (i + 3) (by omega) (by omega) hE ?_ hD
      unfold thingR; simp only
      rw [if_neg (by omega), if_neg hE', if_neg hL, if_neg hA, if_neg hB, if_neg hC, if_neg hG, if_neg hH, if_neg hI, if_neg hJ, if_neg hK]; rfl
theorem readD_of (s : ByteArray) (at' : Int) (neg : Bool) (p : DP) (h : wholeD s at' = if neg = true then negD p else p) : readD s at' = finD neg p := by
  unfold readD finD
  rw [h]
  cases neg with
  | false => rfl
  | true => rfl
theorem wholeD_no (s : ByteArray) (k : Nat) (h : isN s k [91] = false) : wholeD s k = badD 1 0 := by
  unfold wholeD
  rw [if_neg (by omega), show (k : Int).toNat = k from rfl, if_pos h]
theorem wholeD_yes (s : ByteArray) (k : Nat) (h : isN s k [91] = true) : wholeD s k = if isN s (k + 1) [94] = false then thingsD s (k + 1) else negD (thingsD s (k + 2)) := by
  unfold wholeD
  rw [if_neg (by omega), show (k : Int).toNat = k from rfl, if_neg (by rw [h]; decide)]
theorem readR_no (s : ByteArray) (k : Nat) (h : isN s k [91] = false) : readR s k = (0, 0, 1, 0) := by
  unfold readR
  rw [if_neg (by omega), show (k : Int).toNat = k from rfl, if_pos]
  refine Decidable.byContradiction fun hc => ?_
  rw [not_or] at hc
  rw [(isN_one s k 91).2 ⟨by omega, Decidable.not_not.1 hc.2⟩] at h
  cases h
theorem readR_yes (s : ByteArray) (k : Nat) (h : isN s k [91] = true) : readR s k = finR (loopR s (s.size + 1) (startR s k) true) := by
  obtain ⟨h1, h2⟩ := (isN_one s k 91).1 h
  unfold readR
  rw [if_neg (by omega), show (k : Int).toNat = k from rfl, if_neg (by rw [h2]; omega)]
theorem readD_eq (s : ByteArray) (at' : Int) : readD s at' = readR s at' := by
  by_cases h0 : at' < 0
  · unfold readD wholeD readR
    rw [if_pos h0, if_pos h0]; simp [badD]
  obtain ⟨k, rfl⟩ : ∃ k : Nat, at' = k := ⟨at'.toNat, by omega⟩
  cases hc : isN s k [91] with
  | false => rw [readR_no s k hc, readD_of s k false (badD 1 0) (wholeD_no s k hc)]; simp [finD, badD]
  | true =>
    obtain ⟨h1, h2⟩ := (isN_one s k 91).1 hc
    rw [readR_yes s k hc]
    cases hd : isN s (k + 1) [94] with
    | false =>
      have hs : startR s k = ⟨0, k + 1, 0, 0, false, false⟩ := by
        rw [startR, if_neg (fun h => by rw [(isN_one s (k + 1) 94).2 h] at hd; cases hd)]
      have := loop_eq s (k + 1) false s.size (s.size + 1) (s.size + 1 - (k + 1)) 0 (k + 1) (by omega) (Nat.le_refl _) (by omega) (by omega) (by omega)
      rw [decide_eq_true rfl] at this
      rw [hs, this]
      exact readD_of s k false _ (by rw [wholeD_yes s k hc, if_pos hd]; rfl)
    | true =>
      have hd' := (isN_one s (k + 1) 94).1 hd
      have hs : startR s k = ⟨0, k + 2, 0, 0, false, true⟩ := by rw [startR, if_pos hd']
      have := loop_eq s (k + 2) true s.size (s.size + 1) (s.size + 1 - (k + 2)) 0 (k + 2) (by omega) (Nat.le_refl _) (by omega) (by omega) (by omega)
      rw [decide_eq_true rfl] at this
      rw [hs, this]
      exact readD_of s k true _ (by rw [wholeD_yes s k hc, if_neg (by rw [hd]; decide)]; rfl)
end Go.Proofs.YtbccojjcdcighaaGreatDoor

namespace Go.Proofs.YtbccojjcdcighaaGreatDoor
open Go.RowKit Go.Shelf BS
theorem dRead (s : ByteArray) (hs : s.size ≤ 1000000) (at' : Int) (t : BitVec 256) (p e k : Nat) (h : readR s at' = (t, p, e, k)) (w : World) :
    Calls Tryz.prog 191 #[.string s, .int .i64 at'] w fun en w' => en = .returned (.tuple #[setV t, .int .i64 p, .int .i64 e, .int .i64 k]) ∧ Below w.heap.size w w' := by
  have h1 := read_calls s hs at' w
  rw [readD_eq, h] at h1
  exact h1
end Go.Proofs.YtbccojjcdcighaaGreatDoor

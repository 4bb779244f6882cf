/- The developers' counts: digits. -/
import Derived.Test.YtfpipiegncoamaaDoorMa
import Derived.Test.YtfpipiegncoamaaDoorRx
namespace Go.Proofs.YtfpipiegncoamaaDoor
open Go.RowKit

@[reducible] def nuI (v d : Int) : Array Value := #[.int .i64 v, .int .i64 d]
theorem nu_one (v d : Int) : ((nuI v d).all fun x => x.oneCell') = true := by simp [Value.oneCell']
def SDi (w : World) (v d : Int) (W : World) : Prop := (Blk W w.heap.size (nuI 0 0) 49 ∧ Blk W (w.heap.size + 1) (nuI v d) 49) ∧ Below w.heap.size w W
theorem SDi.drewS {w W : World} {v d : Int} (h : SDi w v d W) : SDi w v d W.drew := ⟨⟨h.1.1, h.1.2⟩, h.2.drew⟩
theorem SDi.keep {w W W' : World} {v d : Int} (h : SDi w v d W) (hb : Below W.heap.size W W') : SDi w v d W' := ⟨⟨h.1.1.below hb h.1.1.lt, h.1.2.below hb h.1.2.lt⟩, h.2.trans (hb.mono h.2.size)⟩
theorem SDi.set {w W : World} {v d v' d' : Int} (h : SDi w v d W) : SDi w v' d' ((W.setCell ⟨w.heap.size + 1, 0, none⟩ (.int .i64 v')).setCell ⟨w.heap.size + 1, 1, none⟩ (.int .i64 d')) := by
  have hne : w.heap.size ≠ w.heap.size + 1 := by omega
  exact ⟨⟨(h.1.1.other hne 0 _).other hne 1 _, (h.1.2.set 0 _).set 1 _⟩, below_set (below_set h.2 (show w.heap.size ≤ w.heap.size + 1 by omega) 0 _) (show w.heap.size ≤ w.heap.size + 1 by omega) 1 _⟩
def dgV (r : Nat × Nat × Nat × Nat) : Value := .tuple #[.agg (nuI r.1 r.2.1), .int .i64 r.2.2.1, .int .i64 r.2.2.2]
def InvD (v d : Nat) : Prop := d ≤ 2 ∧ (d = 0 → v = 0) ∧ (d ≤ 1 → v ≤ 9) ∧ v ≤ 99

set_option maxRecDepth 100000 in
set_option maxHeartbeats 16000000 in
theorem digsD_calls (s : ByteArray) (hs : s.size ≤ 60000) (i0 least : Nat) (hi0 : i0 ≤ s.size) (w : World) :
    Calls Tryd.prog 26 #[.string s, .int .i64 i0, .int .i64 least] w fun en w' => en = .returned (dgV (digsD s i0 least)) ∧ Below w.heap.size w w' := by
  have hS0 : SDi w 0 0 ((w.alloc (.cells (nuI 0 0) 49)).alloc (.cells (nuI 0 0) 49)) := by
    refine ⟨⟨(Blk.new w _ _).alloc _, ?_⟩, by go_grown⟩
    have := Blk.new (w.alloc (.cells (nuI 0 0) 49)) (nuI 0 0) 49
    rwa [World.size_alloc] at this
  have HS0 := Lib.hid hS0
  clear hS0
  generalize hR : digsD s i0 least = R
  unfold digsD at hR
  have HRR := Lib.hid hR
  clear hR
  go_enter Tryd.func26, Tryd.ntmps26
  go_wp2_with fail
  have e0 : (w.alloc (.cells #[.int .i64 0, .int .i64 0] 49)).alloc (.cells #[.int .i64 0, .int .i64 0] 49) = (w.alloc (.cells (nuI 0 0) 49)).alloc (.cells (nuI 0 0) 49) := rfl
  try rw [e0]
  clear e0
  generalize (w.alloc (.cells (nuI 0 0) 49)).alloc (.cells (nuI 0 0) 49) = w1 at *
  go_loopw [1] (fun x wr => ∃ (v d i : Nat), InvD v d ∧ i ≤ s.size ∧ x = .int .i64 i ∧ digD s least (s.size - i) i v d = R ∧ SDi w v d wr) (fun x _ => s.size - (intOf x).toNat)
  case atStart => exact ⟨0, 0, i0, ⟨by omega, fun _ => rfl, by omega, by omega⟩, hi0, rfl, HRR.out, HS0.out⟩
  case round =>
    clear HRR HS0
    obtain ⟨v, d, i, hI, hi, rfl, hres, hS⟩ := hrel
    obtain ⟨i1, i2, i3, i4⟩ := hI
    by_cases hlt : i < s.size
    · have b0 : s[i].toNat = bt s i := (bt_eq s i hlt).symm
      have hb := bt_lt s i
      rw [show s.size - i = (s.size - (i + 1)) + 1 by omega, digD] at hres
      generalize bt s i = b at *
      by_cases hd : 48 ≤ b ∧ b ≤ 57
      · have hd1 := hd.1
        have hd2 := hd.2
        have q1 : decide ((48 : Int) ≤ (b : Int)) = true := by rw [decide_eq_true_eq]; omega
        have q2 : decide ((b : Int) ≤ 57) = true := by rw [decide_eq_true_eq]; omega
        rw [if_pos hd] at hres
        clear hd
        have HF := Lib.hid (full_calls v d)
        cases hf : fullD v d with
        | true =>
          rw [hf] at hres HF
          rw [if_pos rfl] at hres
          subst hres
          clear hf
          have c0 := hS.1.2.cell 0
          have c1 := hS.1.2.cell 1
          simp only [List.getElem?_toArray, List.getElem?_cons_zero, List.getElem?_cons_succ] at c0 c1
          have HS := Lib.hid hS
          clear hS
          go_wp2_with fail
          refine (HF.out _).mono ?_
          rintro e w2 ⟨rfl, hb2⟩
          have HS2 := Lib.hid (HS.out.keep hb2)
          clear HS hb2 HF c0 c1
          go_wp2_with ((with_reducible refine wpList_store_st (o := ⟨none, .store 49 _ _, _, _, _, _⟩) rfl 49 _ _ rfl w.heap.size rfl rfl (run_storeAt_row _ w.heap.size 49 49 (nuI 0 0) (nuI 0 0) ?_ ?_ ?_ ?_) ?_); exact HS2.out.1.1; exact infoNu; rfl; exact nu_one _ _)
          have hG := Blk.setRow (cs := nuI 0 0) HS2.out.1.1
          have e0 := hG.cell 0; have e1 := hG.cell 1
          simp only [List.getElem?_toArray, List.getElem?_cons_zero, List.getElem?_cons_succ] at e0 e1
          exact bodyPost_ret (v := .tuple #[.agg (nuI 0 0), .int .i64 ((i : Int) + 1), .int .i64 6]) (by simp [results, Tryd.results26, go_sem, e0, e1]) rfl ⟨rfl, below_row HS2.out.2 (Nat.le_refl _) _⟩
        | false =>
          rw [hf] at hres HF
          rw [if_neg (by decide)] at hres
          have hd01 : d ≤ 1 := by
            have h : ¬ (d = 2) := by rintro rfl; simp [fullD] at hf
            omega
          have hv9 : v ≤ 9 := i3 hd01
          have hInv : InvD (10 * v + (b - 48)) (d + 1) := by
            refine ⟨by omega, fun h => by omega, fun h => ?_, by omega⟩
            have h0 : d = 0 := by omega
            have := i2 h0
            omega
          have c0 := hS.1.2.cell 0
          have c1 := hS.1.2.cell 1
          simp only [List.getElem?_toArray, List.getElem?_cons_zero, List.getElem?_cons_succ] at c0 c1
          have HI := Lib.hid hInv
          have HS := Lib.hid hS
          clear hS hf i1 i2 i3 i4 hInv
          go_wp2_with fail
          refine (HF.out _).mono ?_
          rintro e w2 ⟨rfl, hb2⟩
          have HS2 := Lib.hid (HS.out.keep hb2)
          clear HS hb2 HF c0 c1
          have HM := Lib.hid (most_calls (10 * v + (b - 48)) (d + 1) (by omega))
          have HRES := Lib.hid hres
          clear hres
          have hx : 10 * (v : Int) + ((b : Int) - 48) = ((10 * v + (b - 48) : Nat) : Int) := by omega
          have hy : (d : Int) + 1 = ((d + 1 : Nat) : Int) := by omega
          have x1 : IntKind.i64.wrap (10 * (v : Int)) = 10 * (v : Int) := IntWalk.i64_in _ (by omega)
          have x2 : IntKind.u8.wrap ((b : Int) - 48) = (b : Int) - 48 := by rw [IntKind.wrap_u8]; omega
          have x3 : IntKind.i64.wrap ((b : Int) - 48) = (b : Int) - 48 := IntWalk.i64_in _ (by omega)
          have x4 : IntKind.i64.wrap ((10 * v + (b - 48) : Nat) : Int) = ((10 * v + (b - 48) : Nat) : Int) := IntWalk.i64_in _ (by omega)
          have x5 : IntKind.i64.wrap ((d + 1 : Nat) : Int) = ((d + 1 : Nat) : Int) := IntWalk.i64_in _ (by omega)
          generalize hV : 10 * v + (b - 48) = V at *
          generalize hD : d + 1 = D at *
          go_wp2_with fail
          refine region_stepsM (S := SDi w v d) (m := 13) rfl (by kernel_rfl) HS2.out.drewS ?_
          clear HS2
          simp only [List.size_toArray, List.length_cons, List.length_nil, Nat.reduceAdd, Array.replicate_succ, Array.replicate_zero, List.push_toArray, List.nil_append, List.cons_append]
          refine AnyM.next (m := 13) (i := 0) (d := some 31) (v := .pointer (some ⟨w.heap.size + 1, 0, none⟩)) rfl rfl (by kernel_rfl) (by kernel_rfl) (by kernel_rfl) (by kernel_rfl) (StepsIf.yield (by kernel_rfl) (fun w' hS => by clear hS; go_simp)) ?_
          intro a' ha'
          simp only [Act.put, List.setIfInBounds_toArray, List.set_cons_zero, List.set_cons_succ] at ha'
          subst ha'
          refine AnyM.next (m := 13) (i := 1) (d := some 32) (v := .int .i64 v) rfl rfl (by kernel_rfl) (by kernel_rfl) (by kernel_rfl) (by kernel_rfl) (StepsIf.yield (by kernel_rfl) (fun w' hS => by have c0 := hS.1.2.cell 0; have c1 := hS.1.2.cell 1; simp only [List.getElem?_toArray, List.getElem?_cons_zero, List.getElem?_cons_succ] at c0 c1; clear hS; go_simp)) ?_
          intro a' ha'
          simp only [Act.put, List.setIfInBounds_toArray, List.set_cons_zero, List.set_cons_succ] at ha'
          subst ha'
          refine AnyM.next (m := 13) (i := 2) (d := some 33) (v := .int .i64 (10 * v)) rfl rfl (by kernel_rfl) (by kernel_rfl) (by kernel_rfl) (by kernel_rfl) (StepsIf.yield (by kernel_rfl) (fun w' hS => by clear hS; go_simp)) ?_
          intro a' ha'
          simp only [Act.put, List.setIfInBounds_toArray, List.set_cons_zero, List.set_cons_succ] at ha'
          subst ha'
          refine AnyM.next (m := 13) (i := 3) (d := some 34) (v := .string s) rfl rfl (by kernel_rfl) (by kernel_rfl) (by kernel_rfl) (by kernel_rfl) (StepsIf.yield (by kernel_rfl) (fun w' hS => by clear hS; go_simp)) ?_
          intro a' ha'
          simp only [Act.put, List.setIfInBounds_toArray, List.set_cons_zero, List.set_cons_succ] at ha'
          subst ha'
          refine AnyM.next (m := 13) (i := 4) (d := some 35) (v := .int .i64 i) rfl rfl (by kernel_rfl) (by kernel_rfl) (by kernel_rfl) (by kernel_rfl) (StepsIf.yield (by kernel_rfl) (fun w' hS => by clear hS; go_simp)) ?_
          intro a' ha'
          simp only [Act.put, List.setIfInBounds_toArray, List.set_cons_zero, List.set_cons_succ] at ha'
          subst ha'
          refine AnyM.next (m := 13) (i := 5) (d := some 36) (v := .int .u8 b) rfl rfl (by kernel_rfl) (by kernel_rfl) (by kernel_rfl) (by kernel_rfl) (StepsIf.yield (by kernel_rfl) (fun w' hS => by clear hS; go_simp)) ?_
          intro a' ha'
          simp only [Act.put, List.setIfInBounds_toArray, List.set_cons_zero, List.set_cons_succ] at ha'
          subst ha'
          refine AnyM.next (m := 13) (i := 6) (d := some 37) (v := .int .u8 ((b : Int) - 48)) rfl rfl (by kernel_rfl) (by kernel_rfl) (by kernel_rfl) (by kernel_rfl) (StepsIf.yield (by kernel_rfl) (fun w' hS => by clear hS; go_simp)) ?_
          intro a' ha'
          simp only [Act.put, List.setIfInBounds_toArray, List.set_cons_zero, List.set_cons_succ] at ha'
          subst ha'
          refine AnyM.next (m := 13) (i := 7) (d := some 38) (v := .int .i64 ((b : Int) - 48)) rfl rfl (by kernel_rfl) (by kernel_rfl) (by kernel_rfl) (by kernel_rfl) (StepsIf.yield (by kernel_rfl) (fun w' hS => by clear hS; go_simp)) ?_
          intro a' ha'
          simp only [Act.put, List.setIfInBounds_toArray, List.set_cons_zero, List.set_cons_succ] at ha'
          subst ha'
          refine AnyM.next (m := 13) (i := 8) (d := some 39) (v := .int .i64 V) rfl rfl (by kernel_rfl) (by kernel_rfl) (by kernel_rfl) (by kernel_rfl) (StepsIf.yield (by kernel_rfl) (fun w' hS => by clear hS; go_simp)) ?_
          intro a' ha'
          simp only [Act.put, List.setIfInBounds_toArray, List.set_cons_zero, List.set_cons_succ] at ha'
          subst ha'
          refine AnyM.next (m := 13) (i := 9) (d := some 40) (v := .pointer (some ⟨w.heap.size + 1, 1, none⟩)) rfl rfl (by kernel_rfl) (by kernel_rfl) (by kernel_rfl) (by kernel_rfl) (StepsIf.yield (by kernel_rfl) (fun w' hS => by clear hS; go_simp)) ?_
          intro a' ha'
          simp only [Act.put, List.setIfInBounds_toArray, List.set_cons_zero, List.set_cons_succ] at ha'
          subst ha'
          refine AnyM.next (m := 13) (i := 10) (d := some 41) (v := .int .i64 d) rfl rfl (by kernel_rfl) (by kernel_rfl) (by kernel_rfl) (by kernel_rfl) (StepsIf.yield (by kernel_rfl) (fun w' hS => by have c0 := hS.1.2.cell 0; have c1 := hS.1.2.cell 1; simp only [List.getElem?_toArray, List.getElem?_cons_zero, List.getElem?_cons_succ] at c0 c1; clear hS; go_simp)) ?_
          intro a' ha'
          simp only [Act.put, List.setIfInBounds_toArray, List.set_cons_zero, List.set_cons_succ] at ha'
          subst ha'
          refine AnyM.next (m := 13) (i := 11) (d := some 42) (v := .int .i64 D) rfl rfl (by kernel_rfl) (by kernel_rfl) (by kernel_rfl) (by kernel_rfl) (StepsIf.yield (by kernel_rfl) (fun w' hS => by clear hS; go_simp)) ?_
          intro a' ha'
          simp only [Act.put, List.setIfInBounds_toArray, List.set_cons_zero, List.set_cons_succ] at ha'
          subst ha'
          refine AnyM.next (m := 13) (i := 12) (d := some 43) (v := .agg (nuI V D)) rfl rfl (by kernel_rfl) (by kernel_rfl) (by kernel_rfl) (by kernel_rfl) (StepsIf.yield (by kernel_rfl) (fun w' hS => by clear hS; go_simp)) ?_
          intro a' ha'
          simp only [Act.put, List.setIfInBounds_toArray, List.set_cons_zero, List.set_cons_succ] at ha'
          subst ha'
          refine AnyM.last rfl (by kernel_rfl) (by kernel_rfl) (by kernel_rfl) (fun w3 hS K hK => ?_)
          have c0 := hS.1.2.cell 0; have c1 := hS.1.2.cell 1
          have f0 := hS.1.2.frozen 0; have f1 := hS.1.2.frozen 1
          simp only [List.getElem?_toArray, List.getElem?_cons_zero, List.getElem?_cons_succ] at c0 c1
          have HS := Lib.hid (SDi.set (v' := V) (d' := D) hS)
          clear hS
          go_simp
          refine hK _ _ ?_
          clear hK K c0 c1 f0 f1
          generalize (w3.setCell ⟨w.heap.size + 1, 0, none⟩ (.int .i64 V)).setCell ⟨w.heap.size + 1, 1, none⟩ (.int .i64 D) = w4 at *
          have c0 := HS.out.1.2.cell 0; have c1 := HS.out.1.2.cell 1
          simp only [List.getElem?_toArray, List.getElem?_cons_zero, List.getElem?_cons_succ] at c0 c1
          go_wp2_with fail
          refine (HM.out _).mono ?_
          rintro e w5 ⟨rfl, hb5⟩
          have HS2 := Lib.hid (HS.out.keep hb5)
          clear HS hb5 HM c0 c1
          generalize mostD V D = M at *
          by_cases hm : M < least
          · have q : decide (M < least) = true := by simpa using hm
            have hR := HRES.out
            rw [if_pos hm] at hR
            subst hR
            clear HRES hm
            go_wp2_with ((with_reducible refine wpList_store_st (o := ⟨none, .store 49 _ _, _, _, _, _⟩) rfl 49 _ _ rfl w.heap.size rfl rfl (run_storeAt_row _ w.heap.size 49 49 (nuI 0 0) (nuI 0 0) ?_ ?_ ?_ ?_) ?_); exact HS2.out.1.1; exact infoNu; rfl; exact nu_one _ _)
            have hG := Blk.setRow (cs := nuI 0 0) HS2.out.1.1
            have e0 := hG.cell 0; have e1 := hG.cell 1
            simp only [List.getElem?_toArray, List.getElem?_cons_zero, List.getElem?_cons_succ] at e0 e1
            exact bodyPost_ret (v := .tuple #[.agg (nuI 0 0), .int .i64 ((i : Int) + 1), .int .i64 6]) (by simp [results, Tryd.results26, go_sem, e0, e1]) rfl ⟨rfl, below_row HS2.out.2 (Nat.le_refl _) _⟩
          · have q : decide (M < least) = false := by simpa using hm
            have hR := HRES.out
            rw [if_neg hm] at hR
            clear HRES hm
            have HR := Lib.hid hR
            clear hR
            go_wp2_with fail
            go_roundw
            case rel => exact ⟨V, D, i + 1, HI.out, by omega, by simp, HR.out, HS2.out⟩
            case measure => simp [intOf]; omega
      · rw [if_neg hd] at hres
        subst hres
        by_cases hd1 : 48 ≤ b
        · have q1 : decide ((48 : Int) ≤ (b : Int)) = true := by rw [decide_eq_true_eq]; omega
          have q2 : decide ((b : Int) ≤ 57) = false := by rw [decide_eq_false_iff_not]; omega
          clear hd
          have HS2 := Lib.hid hS
          have c0 := hS.1.2.cell 0
          have c1 := hS.1.2.cell 1
          simp only [List.getElem?_toArray, List.getElem?_cons_zero, List.getElem?_cons_succ] at c0 c1
          clear hS i1 i2 i3 i4
          go_wp2_with ((with_reducible refine wpList_store_st (o := ⟨none, .store 49 _ _, _, _, _, _⟩) rfl 49 _ _ rfl w.heap.size rfl rfl (run_storeAt_row _ w.heap.size 49 49 (nuI 0 0) (nuI v d) ?_ ?_ ?_ ?_) ?_); exact HS2.out.1.1; exact infoNu; rfl; exact nu_one _ _)
          have hG := Blk.setRow (cs := nuI v d) HS2.out.1.1
          have e0 := hG.cell 0; have e1 := hG.cell 1
          simp only [List.getElem?_toArray, List.getElem?_cons_zero, List.getElem?_cons_succ] at e0 e1
          exact bodyPost_ret (v := .tuple #[.agg (nuI v d), .int .i64 (i : Int), .int .i64 0]) (by simp [results, Tryd.results26, go_sem, e0, e1]) rfl ⟨rfl, below_row HS2.out.2 (Nat.le_refl _) _⟩
        · have q1 : decide ((48 : Int) ≤ (b : Int)) = false := by rw [decide_eq_false_iff_not]; omega
          clear hd
          have HS2 := Lib.hid hS
          have c0 := hS.1.2.cell 0
          have c1 := hS.1.2.cell 1
          simp only [List.getElem?_toArray, List.getElem?_cons_zero, List.getElem?_cons_succ] at c0 c1
          clear hS i1 i2 i3 i4
          go_wp2_with ((with_reducible refine wpList_store_st (o := ⟨none, .store 49 _ _, _, _, _, _⟩) rfl 49 _ _ rfl w.heap.size rfl rfl (run_storeAt_row _ w.heap.size 49 49 (nuI 0 0) (nuI v d) ?_ ?_ ?_ ?_) ?_); exact HS2.out.1.1; exact infoNu; rfl; exact nu_one _ _)
          have hG := Blk.setRow (cs := nuI v d) HS2.out.1.1
          have e0 := hG.cell 0; have e1 := hG.cell 1
          simp only [List.getElem?_toArray, List.getElem?_cons_zero, List.getElem?_cons_succ] at e0 e1
          exact bodyPost_ret (v := .tuple #[.agg (nuI v d), .int .i64 (i : Int), .int .i64 0]) (by simp [results, Tryd.results26, go_sem, e0, e1]) rfl ⟨rfl, below_row HS2.out.2 (Nat.le_refl _) _⟩
    · obtain rfl : i = s.size := by omega
      rw [Nat.sub_self] at hres
      have hres : (v, d, s.size, 0) = R := hres
      subst hres
      have HS2 := Lib.hid hS
      have c0 := hS.1.2.cell 0
      have c1 := hS.1.2.cell 1
      simp only [List.getElem?_toArray, List.getElem?_cons_zero, List.getElem?_cons_succ] at c0 c1
      clear hS i1 i2 i3 i4
      go_wp2_with ((with_reducible refine wpList_store_st (o := ⟨none, .store 49 _ _, _, _, _, _⟩) rfl 49 _ _ rfl w.heap.size rfl rfl (run_storeAt_row _ w.heap.size 49 49 (nuI 0 0) (nuI v d) ?_ ?_ ?_ ?_) ?_); exact HS2.out.1.1; exact infoNu; rfl; exact nu_one _ _)
      have hG := Blk.setRow (cs := nuI v d) HS2.out.1.1
      have e0 := hG.cell 0; have e1 := hG.cell 1
      simp only [List.getElem?_toArray, List.getElem?_cons_zero, List.getElem?_cons_succ] at e0 e1
      exact bodyPost_ret (v := .tuple #[.agg (nuI v d), .int .i64 (s.size : Int), .int .i64 0]) (by simp [results, Tryd.results26, go_sem, e0, e1]) rfl ⟨rfl, below_row HS2.out.2 (Nat.le_refl _) _⟩
end Go.Proofs.YtfpipiegncoamaaDoor

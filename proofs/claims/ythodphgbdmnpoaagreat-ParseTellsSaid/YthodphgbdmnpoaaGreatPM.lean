/- Texts put together: Mb Mc Mg Wl. -/
import Derived.Test.YthodphgbdmnpoaaGreatPL
import Derived.Test.YthodphgbdmnpoaaGreatPC
import Derived.Test.YthodphgbdmnpoaaGreatPK
/- The developers' counts: digits. -/
namespace Go.Proofs.YthodphgbdmnpoaaGreat
open Go.RowKit

@[reducible] def nuI (v d : Int) : Array Value := #[.int .i64 v, .int .i64 d]
theorem nu_one (v d : Int) : ((nuI v d).all fun x => x.oneCell') = true := by simp [Value.oneCell']
def SDi (w : World) (v d : Int) (W : World) : Prop := (Blk W w.heap.size (nuI 0 0) 141 ∧ Blk W (w.heap.size + 1) (nuI v d) 141) ∧ Below w.heap.size w W
theorem SDi.drewS {w W : World} {v d : Int} (h : SDi w v d W) : SDi w v d W.drew := ⟨⟨h.1.1, h.1.2⟩, h.2.drew⟩
theorem SDi.keep {w W W' : World} {v d : Int} (h : SDi w v d W) (hb : Below W.heap.size W W') : SDi w v d W' := ⟨⟨h.1.1.below hb h.1.1.lt, h.1.2.below hb h.1.2.lt⟩, h.2.trans (hb.mono h.2.size)⟩
theorem SDi.set {w W : World} {v d v' d' : Int} (h : SDi w v d W) : SDi w v' d' ((W.setCell ⟨w.heap.size + 1, 0, none⟩ (.int .i64 v')).setCell ⟨w.heap.size + 1, 1, none⟩ (.int .i64 d')) := by
  have hne : w.heap.size ≠ w.heap.size + 1 := by omega
  exact ⟨⟨(h.1.1.other hne 0 _).other hne 1 _, (h.1.2.set 0 _).set 1 _⟩, below_set (below_set h.2 (show w.heap.size ≤ w.heap.size + 1 by omega) 0 _) (show w.heap.size ≤ w.heap.size + 1 by omega) 1 _⟩
def dgV (r : Nat × Nat × Nat × Nat) : Value := .tuple #[.agg (nuI r.1 r.2.1), .int .i64 r.2.2.1, .int .i64 r.2.2.2]
def InvD (v d : Nat) : Prop := d ≤ 2 ∧ (d = 0 → v = 0) ∧ (d ≤ 1 → v ≤ 9) ∧ v ≤ 99

set_option maxRecDepth 100000 in
set_option maxHeartbeats 16000000 in
theorem digsD_calls (s : ByteArray) (hs : s.size ≤ 1000000) (i0 least : Nat) (hi0 : i0 ≤ s.size) (w : World) :
    Calls Tryz.prog 95 #[.string s, .int .i64 i0, .int .i64 least] w fun en w' => en = .returned (dgV (digsD s i0 least)) ∧ Below w.heap.size w w' := by
  have hS0 : SDi w 0 0 ((w.alloc (.cells (nuI 0 0) 141)).alloc (.cells (nuI 0 0) 141)) := by
    refine ⟨⟨(Blk.new w _ _).alloc _, ?_⟩, by go_grown⟩
    have := Blk.new (w.alloc (.cells (nuI 0 0) 141)) (nuI 0 0) 141
    rwa [World.size_alloc] at this
  have HS0 := Lib.hid hS0
  clear hS0
  generalize hR : digsD s i0 least = R
  unfold digsD at hR
  have HRR := Lib.hid hR
  clear hR
  go_enter Tryz.func95, Tryz.ntmps95
  go_wp2_with fail
  have e0 : (w.alloc (.cells #[.int .i64 0, .int .i64 0] 141)).alloc (.cells #[.int .i64 0, .int .i64 0] 141) = (w.alloc (.cells (nuI 0 0) 141)).alloc (.cells (nuI 0 0) 141) := rfl
  try rw [e0]
  clear e0
  generalize (w.alloc (.cells (nuI 0 0) 141)).alloc (.cells (nuI 0 0) 141) = w1 at *
  go_loopw [1] (fun x wr => ∃ (v d i : Nat), InvD v d ∧ i ≤ s.size ∧ x = .int .i64 i ∧ digD s least (s.size - i) i v d = R ∧ SDi w v d wr) (fun x _ => s.size - (intOf x).toNat)
  case atStart => exact ⟨0, 0, i0, ⟨by omega, fun _ => rfl, by omega, by omega⟩, hi0, rfl, HRR.out, HS0.out⟩
  case round =>
    clear HRR HS0
    obtain ⟨v, d, i, hI, hi, rfl, hres, hS⟩ := hrel
    obtain ⟨i1, i2, i3, i4⟩ := hI
    by_cases hlt : i < s.size
    · have b0 : s[i].toNat = bt s i := (bt_eq s i hlt).symm
      have hb := bt_lt s i
      rw [show s.size - i = (s.size - (i + 1)) + 1 by omega, digD] at hres
      generalize bt s i = b at *
      by_cases hd : 48 ≤ b ∧ b ≤ 57
      · have hd1 := hd.1
        have hd2 := hd.2
        have q1 : decide ((48 : Int) ≤ (b : Int)) = true := by rw [decide_eq_true_eq]; omega
        have q2 : decide ((b : Int) ≤ 57) = true := by rw [decide_eq_true_eq]; omega
        rw [if_pos hd] at hres
        clear hd
        have HF := Lib.hid (full_calls v d)
        cases hf : fullD v d with
        | true =>
          rw [hf] at hres HF
          rw [if_pos rfl] at hres
          subst hres
          clear hf
          have c0 := hS.1.2.cell 0
          have c1 := hS.1.2.cell 1
          simp only [List.getElem?_toArray, List.getElem?_cons_zero, List.getElem?_cons_succ] at c0 c1
          have HS := Lib.hid hS
          clear hS
          go_wp2_with fail
          refine (HF.out _).mono ?_
          rintro e w2 ⟨rfl, hb2⟩
          have HS2 := Lib.hid (HS.out.keep hb2)
          clear HS hb2 HF c0 c1
          go_wp2_with ((with_reducible refine wpList_store_st (o := ⟨none, .store 141 _ _, _, _, _, _⟩) rfl 141 _ _ rfl w.heap.size rfl rfl (run_storeAt_row _ w.heap.size 141 141 (nuI 0 0) (nuI 0 0) ?_ ?_ ?_ ?_) ?_); exact HS2.out.1.1; exact infoNu; rfl; exact nu_one _ _)
          have hG := Blk.setRow (cs := nuI 0 0) HS2.out.1.1
          have e0 := hG.cell 0; have e1 := hG.cell 1
          simp only [List.getElem?_toArray, List.getElem?_cons_zero, List.getElem?_cons_succ] at e0 e1
          exact bodyPost_ret (v := .tuple #[.agg (nuI 0 0), .int .i64 ((i : Int) + 1), .int .i64 6]) (by simp [results, Tryz.results95, go_sem, e0, e1]) rfl ⟨rfl, below_row HS2.out.2 (Nat.le_refl _) _⟩
        | false =>
          rw [hf] at hres HF
          rw [if_neg (by decide)] at hres
          have hd01 : d ≤ 1 := by
            have h : ¬ (d = 2) := by rintro rfl; simp [fullD] at hf
            omega
          have hv9 : v ≤ 9 := i3 hd01
          have hInv : InvD (10 * v + (b - 48)) (d + 1) := by
            refine ⟨by omega, fun h => by omega, fun h => ?_, by omega⟩
            have h0 : d = 0 := by omega
            have := i2 h0
            omega
          have c0 := hS.1.2.cell 0
          have c1 := hS.1.2.cell 1
          simp only [List.getElem?_toArray, List.getElem?_cons_zero, List.getElem?_cons_succ] at c0 c1
          have HI := Lib.hid hInv
          have HS := Lib.hid hS
          clear hS hf i1 i2 i3 i4 hInv
          go_wp2_with fail
          refine (HF.out _).mono ?_
          rintro e w2 ⟨rfl, hb2⟩
          have HS2 := Lib.hid (HS.out.keep hb2)
          clear HS hb2 HF c0 c1
          have HM := Lib.hid (most_calls (10 * v + (b - 48)) (d + 1) (by omega))
          have HRES := Lib.hid hres
          clear hres
          have hx : 10 * (v : Int) + ((b : Int) - 48) = ((10 * v + (b - 48) : Nat) : Int) := by omega
          have hy : (d : Int) + 1 = ((d + 1 : Nat) : Int) := by omega
          have x1 : IntKind.i64.wrap (10 * (v : Int)) = 10 * (v : Int) := IntWalk.i64_in _ (by omega)
          have x2 : IntKind.u8.wrap ((b : Int) - 48) = (b : Int) - 48 := by rw [IntKind.wrap_u8]; omega
          have x3 : IntKind.i64.wrap ((b : Int) - 48) = (b : Int) - 48 := IntWalk.i64_in _ (by omega)
          have x4 : IntKind.i64.wrap ((10 * v + (b - 48) : Nat) : Int) = ((10 * v + (b - 48) : Nat) : Int) := IntWalk.i64_in _ (by omega)
          have x5 : IntKind.i64.wrap ((d + 1 : Nat) : Int) = ((d + 1 : Nat) : Int) := IntWalk.i64_in _ (by omega)
          generalize hV : 10 * v + (b - 48) = V at *
          generalize hD : d + 1 = D at *
          go_wp2_with fail
          refine region_stepsM (S := SDi w v d) (m := 13) rfl (by kernel_rfl) HS2.out.drewS ?_
          clear HS2
          simp only [List.size_toArray, List.length_cons, List.length_nil, Nat.reduceAdd, Array.replicate_succ, Array.replicate_zero, List.push_toArray, List.nil_append, List.cons_append]
          refine AnyM.next (m := 13) (i := 0) (d := some 31) (v := .pointer (some ⟨w.heap.size + 1, 0, none⟩)) rfl rfl (by kernel_rfl) (by kernel_rfl) (by kernel_rfl) (by kernel_rfl) (StepsIf.yield (by kernel_rfl) (fun w' hS => by clear hS; go_simp)) ?_
          intro a' ha'
          simp only [Act.put, List.setIfInBounds_toArray, List.set_cons_zero, List.set_cons_succ] at ha'
          subst ha'
          refine AnyM.next (m := 13) (i := 1) (d := some 32) (v := .int .i64 v) rfl rfl (by kernel_rfl) (by kernel_rfl) (by kernel_rfl) (by kernel_rfl) (StepsIf.yield (by kernel_rfl) (fun w' hS => by have c0 := hS.1.2.cell 0; have c1 := hS.1.2.cell 1; simp only [List.getElem?_toArray, List.getElem?_cons_zero, List.getElem?_cons_succ] at c0 c1; clear hS; go_simp)) ?_
          intro a' ha'
          simp only [Act.put, List.setIfInBounds_toArray, List.set_cons_zero, List.set_cons_succ] at ha'
          subst ha'
          refine AnyM.next (m := 13) (i := 2) (d := some 33) (v := .int .i64 (10 * v)) rfl rfl (by kernel_rfl) (by kernel_rfl) (by kernel_rfl) (by kernel_rfl) (StepsIf.yield (by kernel_rfl) (fun w' hS => by clear hS; go_simp)) ?_
          intro a' ha'
          simp only [Act.put, List.setIfInBounds_toArray, List.set_cons_zero, List.set_cons_succ] at ha'
          subst ha'
          refine AnyM.next (m := 13) (i := 3) (d := some 34) (v := .string s) rfl rfl (by kernel_rfl) (by kernel_rfl) (by kernel_rfl) (by kernel_rfl) (StepsIf.yield (by kernel_rfl) (fun w' hS => by clear hS; go_simp)) ?_
          intro a' ha'
          simp only [Act.put, List.setIfInBounds_toArray, List.set_cons_zero, List.set_cons_succ] at ha'
          subst ha'
          refine AnyM.next (m := 13) (i := 4) (d := some 35) (v := .int .i64 i) rfl rfl (by kernel_rfl) (by kernel_rfl) (by kernel_rfl) (by kernel_rfl) (StepsIf.yield (by kernel_rfl) (fun w' hS => by clear hS; go_simp)) ?_
          intro a' ha'
          simp only [Act.put, List.setIfInBounds_toArray, List.set_cons_zero, List.set_cons_succ] at ha'
          subst ha'
          refine AnyM.next (m := 13) (i := 5) (d := some 36) (v := .int .u8 b) rfl rfl (by kernel_rfl) (by kernel_rfl) (by kernel_rfl) (by kernel_rfl) (StepsIf.yield (by kernel_rfl) (fun w' hS => by clear hS; go_simp)) ?_
          intro a' ha'
          simp only [Act.put, List.setIfInBounds_toArray, List.set_cons_zero, List.set_cons_succ] at ha'
          subst ha'
          refine AnyM.next (m := 13) (i := 6) (d := some 37) (v := .int .u8 ((b : Int) - 48)) rfl rfl (by kernel_rfl) (by kernel_rfl) (by kernel_rfl) (by kernel_rfl) (StepsIf.yield (by kernel_rfl) (fun w' hS => by clear hS; go_simp)) ?_
          intro a' ha'
          simp only [Act.put, List.setIfInBounds_toArray, List.set_cons_zero, List.set_cons_succ] at ha'
          subst ha'
          refine AnyM.next (m := 13) (i := 7) (d := some 38) (v := .int .i64 ((b : Int) - 48)) rfl rfl (by kernel_rfl) (by kernel_rfl) (by kernel_rfl) (by kernel_rfl) (StepsIf.yield (by kernel_rfl) (fun w' hS => by clear hS; go_simp)) ?_
          intro a' ha'
          simp only [Act.put, List.setIfInBounds_toArray, List.set_cons_zero, List.set_cons_succ] at ha'
          subst ha'
          refine AnyM.next (m := 13) (i := 8) (d := some 39) (v := .int .i64 V) rfl rfl (by kernel_rfl) (by kernel_rfl) (by kernel_rfl) (by kernel_rfl) (StepsIf.yield (by kernel_rfl) (fun w' hS => by clear hS; go_simp)) ?_
          intro a' ha'
          simp only [Act.put, List.setIfInBounds_toArray, List.set_cons_zero, List.set_cons_succ] at ha'
          subst ha'
          refine AnyM.next (m := 13) (i := 9) (d := some 40) (v := .pointer (some ⟨w.heap.size + 1, 1, none⟩)) rfl rfl (by kernel_rfl) (by kernel_rfl) (by kernel_rfl) (by kernel_rfl) (StepsIf.yield (by kernel_rfl) (fun w' hS => by clear hS; go_simp)) ?_
          intro a' ha'
          simp only [Act.put, List.setIfInBounds_toArray, List.set_cons_zero, List.set_cons_succ] at ha'
          subst ha'
          refine AnyM.next (m := 13) (i := 10) (d := some 41) (v := .int .i64 d) rfl rfl (by kernel_rfl) (by kernel_rfl) (by kernel_rfl) (by kernel_rfl) (StepsIf.yield (by kernel_rfl) (fun w' hS => by have c0 := hS.1.2.cell 0; have c1 := hS.1.2.cell 1; simp only [List.getElem?_toArray, List.getElem?_cons_zero, List.getElem?_cons_succ] at c0 c1; clear hS; go_simp)) ?_
          intro a' ha'
          simp only [Act.put, List.setIfInBounds_toArray, List.set_cons_zero, List.set_cons_succ] at ha'
          subst ha'
          refine AnyM.next (m := 13) (i := 11) (d := some 42) (v := .int .i64 D) rfl rfl (by kernel_rfl) (by kernel_rfl) (by kernel_rfl) (by kernel_rfl) (StepsIf.yield (by kernel_rfl) (fun w' hS => by clear hS; go_simp)) ?_
          intro a' ha'
          simp only [Act.put, List.setIfInBounds_toArray, List.set_cons_zero, List.set_cons_succ] at ha'
          subst ha'
          refine AnyM.next (m := 13) (i := 12) (d := some 43) (v := .agg (nuI V D)) rfl rfl (by kernel_rfl) (by kernel_rfl) (by kernel_rfl) (by kernel_rfl) (StepsIf.yield (by kernel_rfl) (fun w' hS => by clear hS; go_simp)) ?_
          intro a' ha'
          simp only [Act.put, List.setIfInBounds_toArray, List.set_cons_zero, List.set_cons_succ] at ha'
          subst ha'
          refine AnyM.last rfl (by kernel_rfl) (by kernel_rfl) (by kernel_rfl) (fun w3 hS K hK => ?_)
          have c0 := hS.1.2.cell 0; have c1 := hS.1.2.cell 1
          have f0 := hS.1.2.frozen 0; have f1 := hS.1.2.frozen 1
          simp only [List.getElem?_toArray, List.getElem?_cons_zero, List.getElem?_cons_succ] at c0 c1
          have HS := Lib.hid (SDi.set (v' := V) (d' := D) hS)
          clear hS
          go_simp
          refine hK _ _ ?_
          clear hK K c0 c1 f0 f1
          generalize (w3.setCell ⟨w.heap.size + 1, 0, none⟩ (.int .i64 V)).setCell ⟨w.heap.size + 1, 1, none⟩ (.int .i64 D) = w4 at *
          have c0 := HS.out.1.2.cell 0; have c1 := HS.out.1.2.cell 1
          simp only [List.getElem?_toArray, List.getElem?_cons_zero, List.getElem?_cons_succ] at c0 c1
          go_wp2_with fail
          refine (HM.out _).mono ?_
          rintro e w5 ⟨rfl, hb5⟩
          have HS2 := Lib.hid (HS.out.keep hb5)
          clear HS hb5 HM c0 c1
          generalize mostD V D = M at *
          by_cases hm : M < least
          · have q : decide (M < least) = true := by simpa using hm
            have hR := HRES.out
            rw [if_pos hm] at hR
            subst hR
            clear HRES hm
            go_wp2_with ((with_reducible refine wpList_store_st (o := ⟨none, .store 141 _ _, _, _, _, _⟩) rfl 141 _ _ rfl w.heap.size rfl rfl (run_storeAt_row _ w.heap.size 141 141 (nuI 0 0) (nuI 0 0) ?_ ?_ ?_ ?_) ?_); exact HS2.out.1.1; exact infoNu; rfl; exact nu_one _ _)
            have hG := Blk.setRow (cs := nuI 0 0) HS2.out.1.1
            have e0 := hG.cell 0; have e1 := hG.cell 1
            simp only [List.getElem?_toArray, List.getElem?_cons_zero, List.getElem?_cons_succ] at e0 e1
            exact bodyPost_ret (v := .tuple #[.agg (nuI 0 0), .int .i64 ((i : Int) + 1), .int .i64 6]) (by simp [results, Tryz.results95, go_sem, e0, e1]) rfl ⟨rfl, below_row HS2.out.2 (Nat.le_refl _) _⟩
          · have q : decide (M < least) = false := by simpa using hm
            have hR := HRES.out
            rw [if_neg hm] at hR
            clear HRES hm
            have HR := Lib.hid hR
            clear hR
            go_wp2_with fail
            go_roundw
            case rel => exact ⟨V, D, i + 1, HI.out, by omega, by simp, HR.out, HS2.out⟩
            case measure => simp [intOf]; omega
      · rw [if_neg hd] at hres
        subst hres
        by_cases hd1 : 48 ≤ b
        · have q1 : decide ((48 : Int) ≤ (b : Int)) = true := by rw [decide_eq_true_eq]; omega
          have q2 : decide ((b : Int) ≤ 57) = false := by rw [decide_eq_false_iff_not]; omega
          clear hd
          have HS2 := Lib.hid hS
          have c0 := hS.1.2.cell 0
          have c1 := hS.1.2.cell 1
          simp only [List.getElem?_toArray, List.getElem?_cons_zero, List.getElem?_cons_succ] at c0 c1
          clear hS i1 i2 i3 i4
          go_wp2_with ((with_reducible refine wpList_store_st (o := ⟨none, .store 141 _ _, _, _, _, _⟩) rfl 141 _ _ rfl w.heap.size rfl rfl (run_storeAt_row _ w.heap.size 141 141 (nuI 0 0) (nuI v d) ?_ ?_ ?_ ?_) ?_); exact HS2.out.1.1; exact infoNu; rfl; exact nu_one _ _)
          have hG := Blk.setRow (cs := nuI v d) HS2.out.1.1
          have e0 := hG.cell 0; have e1 := hG.cell 1
          simp only [List.getElem?_toArray, List.getElem?_cons_zero, List.getElem?_cons_succ] at e0 e1
          exact bodyPost_ret (v := .tuple #[.agg (nuI v d), .int .i64 (i : Int), .int .i64 0]) (by simp [results, Tryz.results95, go_sem, e0, e1]) rfl ⟨rfl, below_row HS2.out.2 (Nat.le_refl _) _⟩
        · have q1 : decide ((48 : Int) ≤ (b : Int)) = false := by rw [decide_eq_false_iff_not]; omega
          clear hd
          have HS2 := Lib.hid hS
          have c0 := hS.1.2.cell 0
          have c1 := hS.1.2.cell 1
          simp only [List.getElem?_toArray, List.getElem?_cons_zero, List.getElem?_cons_succ] at c0 c1
          clear hS i1 i2 i3 i4
          go_wp2_with ((with_reducible refine wpList_store_st (o := ⟨none, .store 141 _ _, _, _, _, _⟩) rfl 141 _ _ rfl w.heap.size rfl rfl (run_storeAt_row _ w.heap.size 141 141 (nuI 0 0) (nuI v d) ?_ ?_ ?_ ?_) ?_); exact HS2.out.1.1; exact infoNu; rfl; exact nu_one _ _)
          have hG := Blk.setRow (cs := nuI v d) HS2.out.1.1
          have e0 := hG.cell 0; have e1 := hG.cell 1
          simp only [List.getElem?_toArray, List.getElem?_cons_zero, List.getElem?_cons_succ] at e0 e1
          exact bodyPost_ret (v := .tuple #[.agg (nuI v d), .int .i64 (i : Int), .int .i64 0]) (by simp [results, Tryz.results95, go_sem, e0, e1]) rfl ⟨rfl, below_row HS2.out.2 (Nat.le_refl _) _⟩
    · obtain rfl : i = s.size := by omega
      rw [Nat.sub_self] at hres
      have hres : (v, d, s.size, 0) = R := hres
      subst hres
      have HS2 := Lib.hid hS
      have c0 := hS.1.2.cell 0
      have c1 := hS.1.2.cell 1
      simp only [List.getElem?_toArray, List.getElem?_cons_zero, List.getElem?_cons_succ] at c0 c1
      clear hS i1 i2 i3 i4
      go_wp2_with ((with_reducible refine wpList_store_st (o := ⟨none, .store 141 _ _, _, _, _, _⟩) rfl 141 _ _ rfl w.heap.size rfl rfl (run_storeAt_row _ w.heap.size 141 141 (nuI 0 0) (nuI v d) ?_ ?_ ?_ ?_) ?_); exact HS2.out.1.1; exact infoNu; rfl; exact nu_one _ _)
      have hG := Blk.setRow (cs := nuI v d) HS2.out.1.1
      have e0 := hG.cell 0; have e1 := hG.cell 1
      simp only [List.getElem?_toArray, List.getElem?_cons_zero, List.getElem?_cons_succ] at e0 e1
      exact bodyPost_ret (v := .tuple #[.agg (nuI v d), .int .i64 (s.size : Int), .int .i64 0]) (by simp [results, Tryz.results95, go_sem, e0, e1]) rfl ⟨rfl, below_row HS2.out.2 (Nat.le_refl _) _⟩
end Go.Proofs.YthodphgbdmnpoaaGreat

/- The developers' counts: what digits end in; behindComma, inBraces. -/
namespace Go.Proofs.YthodphgbdmnpoaaGreat
open Go.RowKit

theorem invD_start : InvD 0 0 := ⟨by omega, fun _ => rfl, fun _ => by omega, by omega⟩
theorem invD_step (v d b : Nat) (h : InvD v d) (hb : 48 ≤ b ∧ b ≤ 57) (hf : fullD v d = false) : InvD (10 * v + (b - 48)) (d + 1) := by
  obtain ⟨i1, i2, i3, i4⟩ := h
  have h2 : ¬ (d = 2) := by rintro rfl; simp [fullD] at hf
  have hv9 : v ≤ 9 := i3 (by omega)
  refine ⟨by omega, fun h => by omega, fun h => ?_, by omega⟩
  have := i2 (by omega)
  omega
/-- What a number ends in. -/
def EndD (s : ByteArray) (least i : Nat) (r : Nat × Nat × Nat × Nat) : Prop :=
  (r.2.2.2 = 0 ∧ i ≤ r.2.2.1 ∧ r.2.2.1 ≤ s.size ∧ InvD r.1 r.2.1 ∧ (r.2.2.1 = s.size ∨ ¬ (48 ≤ bt s r.2.2.1 ∧ bt s r.2.2.1 ≤ 57)) ∧ (0 < r.2.1 → least ≤ mostD r.1 r.2.1)) ∨
  (∃ p, r = (0, 0, p, 6) ∧ i < p ∧ p ≤ s.size)
theorem digD_end (s : ByteArray) (least a : Nat) : ∀ k i v d, InvD v d → a ≤ i → k + i = s.size → (0 < d → least ≤ mostD v d) → EndD s least a (digD s least k i v d)
  | 0, i, v, d, h, ha, hk, hm => .inl ⟨rfl, ha, by simp only [digD]; omega, h, .inl (by simp only [digD]; omega), hm⟩
  | k + 1, i, v, d, h, ha, hk, hm => by
    rw [digD]
    by_cases hd : 48 ≤ bt s i ∧ bt s i ≤ 57
    · rw [if_pos hd]
      cases hf : fullD v d with
      | true => rw [if_pos rfl]; exact .inr ⟨i + 1, rfl, by omega, by omega⟩
      | false =>
        rw [if_neg (by decide)]
        by_cases hl : mostD (10 * v + (bt s i - 48)) (d + 1) < least
        · rw [if_pos hl]; exact .inr ⟨i + 1, rfl, by omega, by omega⟩
        · rw [if_neg hl]; exact digD_end s least a k (i + 1) _ _ (invD_step v d _ h hd hf) (by omega) (by omega) (fun _ => by omega)
    · rw [if_neg hd]; exact .inl ⟨rfl, ha, by simp only; omega, h, .inr hd, hm⟩
theorem digsD_end (s : ByteArray) (i least : Nat) (hi : i ≤ s.size) : EndD s least i (digsD s i least) := digD_end s least i _ i 0 0 invD_start (Nat.le_refl _) (by omega) (fun h => by omega)

set_option maxRecDepth 100000 in
set_option maxHeartbeats 16000000 in
theorem commaD_calls (s : ByteArray) (hs : s.size ≤ 1000000) (i n : Nat) (hi : i ≤ s.size) (w : World) :
    Calls Tryz.prog 97 #[.string s, .int .i64 i, .int .i64 n] w fun en w' => en = .returned (.agg (rdA (commaD s i n))) ∧ Below w.heap.size w w' := by
  have HR := Lib.hid (Blk.new w (rdI 0 0 0 eT 0) 133)
  have HB : Hid (Below w.heap.size w (w.alloc (.cells (rdI 0 0 0 eT 0) 133))) := Lib.hid (by go_grown)
  have hz : w.heap.size + 1 ≤ (w.alloc (.cells (rdI 0 0 0 eT 0) 133)).heap.size := by simp
  have HD := Lib.hid (digsD_calls s hs i n hi)
  have hE := digsD_end s i n hi
  have hg : commaD s i n = commaD s i n := rfl
  conv at hg => rhs; unfold commaD
  generalize digsD s i n = X at *
  obtain ⟨v, d, p, e⟩ := X
  simp only at hg hE
  generalize commaD s i n = Y at *
  replace HD : Hid (∀ w, Calls Tryz.prog 95 #[.string s, .int .i64 i, .int .i64 n] w fun en w' => en = .returned (.tuple #[.agg (nuI v d), .int .i64 p, .int .i64 e]) ∧ Below w.heap.size w w') := HD
  have hp : p ≤ s.size := by
    rcases hE with ⟨_, _, h, _⟩ | ⟨q, h, _, h2⟩
    · exact h
    · cases h; exact h2
  have hv : v ≤ 99 := by
    rcases hE with ⟨_, _, _, h, _⟩ | ⟨q, h, _, h2⟩
    · exact h.2.2.2
    · cases h; omega
  clear hE
  go_enter Tryz.func97, Tryz.ntmps97
  go_upto_region 1 with fail
  have e0 : w.alloc (.cells #[.int .i64 0, .int .i64 0, .int .i64 0, .string ⟨#[]⟩, .int .i64 0] 133) = w.alloc (.cells (rdI 0 0 0 eT 0) 133) := rfl
  try rw [e0]
  clear e0
  generalize w.alloc (.cells (rdI 0 0 0 eT 0) 133) = w1 at *
  go_wp2_with fail
  refine (HD.out _).mono ?_
  rintro en w2 ⟨rfl, hb⟩
  have HR2 := Lib.hid (HR.out.below hb (Blk.lt HR.out))
  have HB2 := Lib.hid (HB.out.trans (hb.mono (by omega)))
  have hz2 := Nat.le_trans hz hb.size
  clear HR HB hz hb
  have HR := HR2
  have HB := HB2
  have hz := hz2
  clear HR2 HB2 hz2
  clear HD
  go_upto_region 2 with fail
  have HP := Lib.hid (Blk.new w2 (nuI v d) 141)
  replace HR := Lib.hid (HR.out.alloc (.cells (nuI v d) 141))
  replace HB := Lib.hid (HB.out.alloc (by omega) (.cells (nuI v d) 141))
  have hz2 : w.heap.size + 1 ≤ (w2.alloc (.cells (nuI v d) 141)).heap.size := by simp; omega
  clear hz
  have hz := hz2
  clear hz2
  generalize w2.alloc (.cells (nuI v d) 141) = w3 at *
  generalize w2.heap.size = B at *
  have c0 := HP.out.cell 0
  have c1 := HP.out.cell 1
  simp only [List.getElem?_toArray, List.getElem?_cons_zero, List.getElem?_cons_succ] at c0 c1
  clear HP
  have HG := Lib.hid hg
  clear hg
  by_cases hd : 0 < d
  · by_cases hv2 : v < n
    · have hxx := hd
      have hls : lessD v d n = true := by simp [lessD, hd, hv2]
      rw [hls] at HG
      clear hls
      have qd : decide (0 < d) = true := by simpa using hd
      have qv : decide (v < n) = true := by simpa using hv2
      by_cases he : e = 0
      · subst he
        have hG := HG.out
        rw [if_neg (show ¬ ((0 : Nat) ≠ 0) from fun h => h rfl)] at hG
        replace HG := Lib.hid hG
        clear hG
        by_cases hps : p = s.size
        · subst hps
          have HRES := Lib.hid (show Y = shortR s [57, 125] by rw [HG.out, if_pos ⟨rfl, rfl⟩])
          clear HG 
          have HFA := Lib.hid (shortR_calls s ⟨#[57, 125]⟩)
          go_wp2_with fail
          refine (HFA.out _).mono ?_
          rintro en w4 ⟨rfl, hb⟩
          have HR2 := Lib.hid (HR.out.below hb (Blk.lt HR.out))
          have HB2 := Lib.hid (HB.out.trans (hb.mono (by omega)))
          have hz2 := Nat.le_trans hz hb.size
          clear HR HB hz hb
          have HR := HR2
          have HB := HB2
          have hz := hz2
          clear HR2 HB2 hz2
          go_wp2_with ((with_reducible refine wpList_store_st (o := ⟨none, .store 133 _ _, _, _, _, _⟩) rfl 133 _ _ rfl w.heap.size rfl rfl (run_storeAt_row _ w.heap.size 133 133 (rdI 0 0 0 eT 0) (rdI 0 0 s.size ⟨#[57, 125]⟩ 2) ?_ ?_ ?_ ?_) ?_); exact HR.out; exact infoRd; rfl; exact rdC_one _ _ _ _ _)
          exact bodyPost_ret (v := .agg (rdI 0 0 s.size ⟨#[57, 125]⟩ 2)) (results_cell_row rfl _ _ w.heap.size 133 (rdI 0 0 s.size ⟨#[57, 125]⟩ 2) (0, 0) _ rfl (Blk.setRow HR.out) Tryz.underlying133 rfl infoRd) rfl ⟨by rw [HRES.out] <;> rfl, below_row HB.out (by omega) _⟩
        have hlt : p < s.size := by omega
        have qp : ((p : Int) == (s.size : Int)) = false := by rw [beq_eq_false_iff_ne]; omega
        have b0 : s[p].toNat = bt s p := (bt_eq s p hlt).symm
        generalize bt s p = b at *
        have hG := HG.out
        rw [if_neg (fun h => hps h.1), if_neg hps] at hG
        replace HG := Lib.hid hG
        clear hG hps
        by_cases hb125 : b = 125
        · subst hb125
          have HRES := Lib.hid (show Y = badC 6 (p + 1) by rw [HG.out, if_neg (fun h => h rfl), if_pos rfl])
          clear HG 
          have HFA := Lib.hid (faultD_calls 6 ((p : Int) + 1))
          go_wp2_with fail
          refine (HFA.out _).mono ?_
          rintro en w4 ⟨rfl, hb⟩
          have HR2 := Lib.hid (HR.out.below hb (Blk.lt HR.out))
          have HB2 := Lib.hid (HB.out.trans (hb.mono (by omega)))
          have hz2 := Nat.le_trans hz hb.size
          clear HR HB hz hb
          have HR := HR2
          have HB := HB2
          have hz := hz2
          clear HR2 HB2 hz2
          go_wp2_with ((with_reducible refine wpList_store_st (o := ⟨none, .store 133 _ _, _, _, _, _⟩) rfl 133 _ _ rfl w.heap.size rfl rfl (run_storeAt_row _ w.heap.size 133 133 (rdI 0 0 0 eT 0) (rdI 0 0 ((p : Int) + 1) eT 6) ?_ ?_ ?_ ?_) ?_); exact HR.out; exact infoRd; rfl; exact rdC_one _ _ _ _ _)
          exact bodyPost_ret (v := .agg (rdI 0 0 ((p : Int) + 1) eT 6)) (results_cell_row rfl _ _ w.heap.size 133 (rdI 0 0 ((p : Int) + 1) eT 6) (0, 0) _ rfl (Blk.setRow HR.out) Tryz.underlying133 rfl infoRd) rfl ⟨by rw [HRES.out] <;> rfl, below_row HB.out (by omega) _⟩
        · have qb : ((b : Int) != 125) = true := by rw [bne_iff_ne]; omega
          have HRES := Lib.hid (show Y = badC 3 (p + 1) by rw [HG.out, if_pos hb125])
          clear HG 
          have HFA := Lib.hid (faultD_calls 3 ((p : Int) + 1))
          go_wp2_with fail
          refine (HFA.out _).mono ?_
          rintro en w4 ⟨rfl, hb⟩
          have HR2 := Lib.hid (HR.out.below hb (Blk.lt HR.out))
          have HB2 := Lib.hid (HB.out.trans (hb.mono (by omega)))
          have hz2 := Nat.le_trans hz hb.size
          clear HR HB hz hb
          have HR := HR2
          have HB := HB2
          have hz := hz2
          clear HR2 HB2 hz2
          go_wp2_with ((with_reducible refine wpList_store_st (o := ⟨none, .store 133 _ _, _, _, _, _⟩) rfl 133 _ _ rfl w.heap.size rfl rfl (run_storeAt_row _ w.heap.size 133 133 (rdI 0 0 0 eT 0) (rdI 0 0 ((p : Int) + 1) eT 3) ?_ ?_ ?_ ?_) ?_); exact HR.out; exact infoRd; rfl; exact rdC_one _ _ _ _ _)
          exact bodyPost_ret (v := .agg (rdI 0 0 ((p : Int) + 1) eT 3)) (results_cell_row rfl _ _ w.heap.size 133 (rdI 0 0 ((p : Int) + 1) eT 3) (0, 0) _ rfl (Blk.setRow HR.out) Tryz.underlying133 rfl infoRd) rfl ⟨by rw [HRES.out] <;> rfl, below_row HB.out (by omega) _⟩
      · have qe : ((e : Int) != 0) = true := by rw [bne_iff_ne]; omega
        have HRES := Lib.hid (show Y = badC e p by rw [HG.out, if_pos he])
        clear HG 
        have HFA := Lib.hid (faultD_calls e p)
        go_wp2_with fail
        refine (HFA.out _).mono ?_
        rintro en w4 ⟨rfl, hb⟩
        have HR2 := Lib.hid (HR.out.below hb (Blk.lt HR.out))
        have HB2 := Lib.hid (HB.out.trans (hb.mono (by omega)))
        have hz2 := Nat.le_trans hz hb.size
        clear HR HB hz hb
        have HR := HR2
        have HB := HB2
        have hz := hz2
        clear HR2 HB2 hz2
        go_wp2_with ((with_reducible refine wpList_store_st (o := ⟨none, .store 133 _ _, _, _, _, _⟩) rfl 133 _ _ rfl w.heap.size rfl rfl (run_storeAt_row _ w.heap.size 133 133 (rdI 0 0 0 eT 0) (rdI 0 0 p eT e) ?_ ?_ ?_ ?_) ?_); exact HR.out; exact infoRd; rfl; exact rdC_one _ _ _ _ _)
        exact bodyPost_ret (v := .agg (rdI 0 0 p eT e)) (results_cell_row rfl _ _ w.heap.size 133 (rdI 0 0 p eT e) (0, 0) _ rfl (Blk.setRow HR.out) Tryz.underlying133 rfl infoRd) rfl ⟨by rw [HRES.out] <;> rfl, below_row HB.out (by omega) _⟩
    · have hxx := hd
      have hls : lessD v d n = false := by simp [lessD, hd, hv2]
      rw [hls] at HG
      clear hls
      have qd : decide (0 < d) = true := by simpa using hd
      have qv : decide (v < n) = false := by simpa using hv2
      by_cases he : e = 0
      · subst he
        have hG := HG.out
        rw [if_neg (show ¬ ((0 : Nat) ≠ 0) from fun h => h rfl)] at hG
        replace HG := Lib.hid hG
        clear hG
        by_cases hps : p = s.size
        · subst hps
          have HRES := Lib.hid (show Y = shortR s [125] by rw [HG.out, if_neg (fun h => by cases h.2), if_pos rfl])
          clear HG 
          have HFA := Lib.hid (shortR_calls s ⟨#[125]⟩)
          go_wp2_with fail
          refine (HFA.out _).mono ?_
          rintro en w4 ⟨rfl, hb⟩
          have HR2 := Lib.hid (HR.out.below hb (Blk.lt HR.out))
          have HB2 := Lib.hid (HB.out.trans (hb.mono (by omega)))
          have hz2 := Nat.le_trans hz hb.size
          clear HR HB hz hb
          have HR := HR2
          have HB := HB2
          have hz := hz2
          clear HR2 HB2 hz2
          go_wp2_with ((with_reducible refine wpList_store_st (o := ⟨none, .store 133 _ _, _, _, _, _⟩) rfl 133 _ _ rfl w.heap.size rfl rfl (run_storeAt_row _ w.heap.size 133 133 (rdI 0 0 0 eT 0) (rdI 0 0 s.size ⟨#[125]⟩ 2) ?_ ?_ ?_ ?_) ?_); exact HR.out; exact infoRd; rfl; exact rdC_one _ _ _ _ _)
          exact bodyPost_ret (v := .agg (rdI 0 0 s.size ⟨#[125]⟩ 2)) (results_cell_row rfl _ _ w.heap.size 133 (rdI 0 0 s.size ⟨#[125]⟩ 2) (0, 0) _ rfl (Blk.setRow HR.out) Tryz.underlying133 rfl infoRd) rfl ⟨by rw [HRES.out] <;> rfl, below_row HB.out (by omega) _⟩
        have hlt : p < s.size := by omega
        have qp : ((p : Int) == (s.size : Int)) = false := by rw [beq_eq_false_iff_ne]; omega
        have b0 : s[p].toNat = bt s p := (bt_eq s p hlt).symm
        generalize bt s p = b at *
        have hG := HG.out
        rw [if_neg (fun h => hps h.1), if_neg hps] at hG
        replace HG := Lib.hid hG
        clear hG hps
        by_cases hb125 : b = 125
        · subst hb125
          have qz : ((d : Int) == 0) = false := by rw [beq_eq_false_iff_ne]; omega
          have HRES := Lib.hid (show Y = okR n v (p + 1) by rw [HG.out, if_neg (fun h => h rfl), if_neg (by decide), if_neg (by omega)])
          clear HG 
          go_wp2_with ((with_reducible refine wpList_store_st (o := ⟨none, .store 133 _ _, _, _, _, _⟩) rfl 133 _ _ rfl w.heap.size rfl rfl (run_storeAt_row _ w.heap.size 133 133 (rdI 0 0 0 eT 0) (rdI n v ((p : Int) + 1) eT 0) ?_ ?_ ?_ ?_) ?_); exact HR.out; exact infoRd; rfl; exact rdC_one _ _ _ _ _)
          exact bodyPost_ret (v := .agg (rdI n v ((p : Int) + 1) eT 0)) (results_cell_row rfl _ _ w.heap.size 133 (rdI n v ((p : Int) + 1) eT 0) (0, 0) _ rfl (Blk.setRow HR.out) Tryz.underlying133 rfl infoRd) rfl ⟨by rw [HRES.out] <;> rfl, below_row HB.out (by omega) _⟩
        · have qb : ((b : Int) != 125) = true := by rw [bne_iff_ne]; omega
          have HRES := Lib.hid (show Y = badC 3 (p + 1) by rw [HG.out, if_pos hb125])
          clear HG 
          have HFA := Lib.hid (faultD_calls 3 ((p : Int) + 1))
          go_wp2_with fail
          refine (HFA.out _).mono ?_
          rintro en w4 ⟨rfl, hb⟩
          have HR2 := Lib.hid (HR.out.below hb (Blk.lt HR.out))
          have HB2 := Lib.hid (HB.out.trans (hb.mono (by omega)))
          have hz2 := Nat.le_trans hz hb.size
          clear HR HB hz hb
          have HR := HR2
          have HB := HB2
          have hz := hz2
          clear HR2 HB2 hz2
          go_wp2_with ((with_reducible refine wpList_store_st (o := ⟨none, .store 133 _ _, _, _, _, _⟩) rfl 133 _ _ rfl w.heap.size rfl rfl (run_storeAt_row _ w.heap.size 133 133 (rdI 0 0 0 eT 0) (rdI 0 0 ((p : Int) + 1) eT 3) ?_ ?_ ?_ ?_) ?_); exact HR.out; exact infoRd; rfl; exact rdC_one _ _ _ _ _)
          exact bodyPost_ret (v := .agg (rdI 0 0 ((p : Int) + 1) eT 3)) (results_cell_row rfl _ _ w.heap.size 133 (rdI 0 0 ((p : Int) + 1) eT 3) (0, 0) _ rfl (Blk.setRow HR.out) Tryz.underlying133 rfl infoRd) rfl ⟨by rw [HRES.out] <;> rfl, below_row HB.out (by omega) _⟩
      · have qe : ((e : Int) != 0) = true := by rw [bne_iff_ne]; omega
        have HRES := Lib.hid (show Y = badC e p by rw [HG.out, if_pos he])
        clear HG 
        have HFA := Lib.hid (faultD_calls e p)
        go_wp2_with fail
        refine (HFA.out _).mono ?_
        rintro en w4 ⟨rfl, hb⟩
        have HR2 := Lib.hid (HR.out.below hb (Blk.lt HR.out))
        have HB2 := Lib.hid (HB.out.trans (hb.mono (by omega)))
        have hz2 := Nat.le_trans hz hb.size
        clear HR HB hz hb
        have HR := HR2
        have HB := HB2
        have hz := hz2
        clear HR2 HB2 hz2
        go_wp2_with ((with_reducible refine wpList_store_st (o := ⟨none, .store 133 _ _, _, _, _, _⟩) rfl 133 _ _ rfl w.heap.size rfl rfl (run_storeAt_row _ w.heap.size 133 133 (rdI 0 0 0 eT 0) (rdI 0 0 p eT e) ?_ ?_ ?_ ?_) ?_); exact HR.out; exact infoRd; rfl; exact rdC_one _ _ _ _ _)
        exact bodyPost_ret (v := .agg (rdI 0 0 p eT e)) (results_cell_row rfl _ _ w.heap.size 133 (rdI 0 0 p eT e) (0, 0) _ rfl (Blk.setRow HR.out) Tryz.underlying133 rfl infoRd) rfl ⟨by rw [HRES.out] <;> rfl, below_row HB.out (by omega) _⟩
  · have hxx := hd
    have hls : lessD v d n = false := by simp [lessD, hd]
    rw [hls] at HG
    clear hls
    obtain rfl : d = 0 := by omega
    by_cases he : e = 0
    · subst he
      have hG := HG.out
      rw [if_neg (show ¬ ((0 : Nat) ≠ 0) from fun h => h rfl)] at hG
      replace HG := Lib.hid hG
      clear hG
      by_cases hps : p = s.size
      · subst hps
        have HRES := Lib.hid (show Y = shortR s [125] by rw [HG.out, if_neg (fun h => by cases h.2), if_pos rfl])
        clear HG 
        have HFA := Lib.hid (shortR_calls s ⟨#[125]⟩)
        go_wp2_with fail
        refine (HFA.out _).mono ?_
        rintro en w4 ⟨rfl, hb⟩
        have HR2 := Lib.hid (HR.out.below hb (Blk.lt HR.out))
        have HB2 := Lib.hid (HB.out.trans (hb.mono (by omega)))
        have hz2 := Nat.le_trans hz hb.size
        clear HR HB hz hb
        have HR := HR2
        have HB := HB2
        have hz := hz2
        clear HR2 HB2 hz2
        go_wp2_with ((with_reducible refine wpList_store_st (o := ⟨none, .store 133 _ _, _, _, _, _⟩) rfl 133 _ _ rfl w.heap.size rfl rfl (run_storeAt_row _ w.heap.size 133 133 (rdI 0 0 0 eT 0) (rdI 0 0 s.size ⟨#[125]⟩ 2) ?_ ?_ ?_ ?_) ?_); exact HR.out; exact infoRd; rfl; exact rdC_one _ _ _ _ _)
        exact bodyPost_ret (v := .agg (rdI 0 0 s.size ⟨#[125]⟩ 2)) (results_cell_row rfl _ _ w.heap.size 133 (rdI 0 0 s.size ⟨#[125]⟩ 2) (0, 0) _ rfl (Blk.setRow HR.out) Tryz.underlying133 rfl infoRd) rfl ⟨by rw [HRES.out] <;> rfl, below_row HB.out (by omega) _⟩
      have hlt : p < s.size := by omega
      have qp : ((p : Int) == (s.size : Int)) = false := by rw [beq_eq_false_iff_ne]; omega
      have b0 : s[p].toNat = bt s p := (bt_eq s p hlt).symm
      generalize bt s p = b at *
      have hG := HG.out
      rw [if_neg (fun h => hps h.1), if_neg hps] at hG
      replace HG := Lib.hid hG
      clear hG hps
      by_cases hb125 : b = 125
      · subst hb125
        have HRES := Lib.hid (show Y = okR n (-1) (p + 1) by rw [HG.out, if_neg (fun h => h rfl), if_neg (by decide), if_pos rfl])
        clear HG 
        go_wp2_with ((with_reducible refine wpList_store_st (o := ⟨none, .store 133 _ _, _, _, _, _⟩) rfl 133 _ _ rfl w.heap.size rfl rfl (run_storeAt_row _ w.heap.size 133 133 (rdI 0 0 0 eT 0) (rdI n (-1) ((p : Int) + 1) eT 0) ?_ ?_ ?_ ?_) ?_); exact HR.out; exact infoRd; rfl; exact rdC_one _ _ _ _ _)
        exact bodyPost_ret (v := .agg (rdI n (-1) ((p : Int) + 1) eT 0)) (results_cell_row rfl _ _ w.heap.size 133 (rdI n (-1) ((p : Int) + 1) eT 0) (0, 0) _ rfl (Blk.setRow HR.out) Tryz.underlying133 rfl infoRd) rfl ⟨by rw [HRES.out] <;> rfl, below_row HB.out (by omega) _⟩
      · have qb : ((b : Int) != 125) = true := by rw [bne_iff_ne]; omega
        have HRES := Lib.hid (show Y = badC 3 (p + 1) by rw [HG.out, if_pos hb125])
        clear HG 
        have HFA := Lib.hid (faultD_calls 3 ((p : Int) + 1))
        go_wp2_with fail
        refine (HFA.out _).mono ?_
        rintro en w4 ⟨rfl, hb⟩
        have HR2 := Lib.hid (HR.out.below hb (Blk.lt HR.out))
        have HB2 := Lib.hid (HB.out.trans (hb.mono (by omega)))
        have hz2 := Nat.le_trans hz hb.size
        clear HR HB hz hb
        have HR := HR2
        have HB := HB2
        have hz := hz2
        clear HR2 HB2 hz2
        go_wp2_with ((with_reducible refine wpList_store_st (o := ⟨none, .store 133 _ _, _, _, _, _⟩) rfl 133 _ _ rfl w.heap.size rfl rfl (run_storeAt_row _ w.heap.size 133 133 (rdI 0 0 0 eT 0) (rdI 0 0 ((p : Int) + 1) eT 3) ?_ ?_ ?_ ?_) ?_); exact HR.out; exact infoRd; rfl; exact rdC_one _ _ _ _ _)
        exact bodyPost_ret (v := .agg (rdI 0 0 ((p : Int) + 1) eT 3)) (results_cell_row rfl _ _ w.heap.size 133 (rdI 0 0 ((p : Int) + 1) eT 3) (0, 0) _ rfl (Blk.setRow HR.out) Tryz.underlying133 rfl infoRd) rfl ⟨by rw [HRES.out] <;> rfl, below_row HB.out (by omega) _⟩
    · have qe : ((e : Int) != 0) = true := by rw [bne_iff_ne]; omega
      have HRES := Lib.hid (show Y = badC e p by rw [HG.out, if_pos he])
      clear HG 
      have HFA := Lib.hid (faultD_calls e p)
      go_wp2_with fail
      refine (HFA.out _).mono ?_
      rintro en w4 ⟨rfl, hb⟩
      have HR2 := Lib.hid (HR.out.below hb (Blk.lt HR.out))
      have HB2 := Lib.hid (HB.out.trans (hb.mono (by omega)))
      have hz2 := Nat.le_trans hz hb.size
      clear HR HB hz hb
      have HR := HR2
      have HB := HB2
      have hz := hz2
      clear HR2 HB2 hz2
      go_wp2_with ((with_reducible refine wpList_store_st (o := ⟨none, .store 133 _ _, _, _, _, _⟩) rfl 133 _ _ rfl w.heap.size rfl rfl (run_storeAt_row _ w.heap.size 133 133 (rdI 0 0 0 eT 0) (rdI 0 0 p eT e) ?_ ?_ ?_ ?_) ?_); exact HR.out; exact infoRd; rfl; exact rdC_one _ _ _ _ _)
      exact bodyPost_ret (v := .agg (rdI 0 0 p eT e)) (results_cell_row rfl _ _ w.heap.size 133 (rdI 0 0 p eT e) (0, 0) _ rfl (Blk.setRow HR.out) Tryz.underlying133 rfl infoRd) rfl ⟨by rw [HRES.out] <;> rfl, below_row HB.out (by omega) _⟩
set_option maxRecDepth 100000 in
set_option maxHeartbeats 16000000 in
theorem bracesD_calls (s : ByteArray) (hs : s.size ≤ 1000000) (i : Nat) (hi : i ≤ s.size) (w : World) :
    Calls Tryz.prog 93 #[.string s, .int .i64 i] w fun en w' => en = .returned (.agg (rdA (bracesD s i))) ∧ Below w.heap.size w w' := by
  have HR := Lib.hid (Blk.new w (rdI 0 0 0 eT 0) 133)
  have HB : Hid (Below w.heap.size w (w.alloc (.cells (rdI 0 0 0 eT 0) 133))) := Lib.hid (by go_grown)
  have hz : w.heap.size + 1 ≤ (w.alloc (.cells (rdI 0 0 0 eT 0) 133)).heap.size := by simp
  have HD := Lib.hid (digsD_calls s hs i 0 hi)
  have hE := digsD_end s i 0 hi
  have hg : bracesD s i = bracesD s i := rfl
  conv at hg => rhs; unfold bracesD
  generalize digsD s i 0 = X at *
  obtain ⟨v, d, p, e⟩ := X
  simp only at hg hE
  generalize bracesD s i = Y at *
  replace HD : Hid (∀ w, Calls Tryz.prog 95 #[.string s, .int .i64 i, .int .i64 0] w fun en w' => en = .returned (.tuple #[.agg (nuI v d), .int .i64 p, .int .i64 e]) ∧ Below w.heap.size w w') := HD
  have hp : p ≤ s.size := by
    rcases hE with ⟨_, _, h, _⟩ | ⟨q, h, _, h2⟩
    · exact h
    · cases h; exact h2
  have hv : v ≤ 99 := by
    rcases hE with ⟨_, _, _, h, _⟩ | ⟨q, h, _, h2⟩
    · exact h.2.2.2
    · cases h; omega
  clear hE
  go_enter Tryz.func93, Tryz.ntmps93
  go_upto_region 1 with fail
  have e0 : w.alloc (.cells #[.int .i64 0, .int .i64 0, .int .i64 0, .string ⟨#[]⟩, .int .i64 0] 133) = w.alloc (.cells (rdI 0 0 0 eT 0) 133) := rfl
  try rw [e0]
  clear e0
  generalize w.alloc (.cells (rdI 0 0 0 eT 0) 133) = w1 at *
  go_wp2_with fail
  refine (HD.out _).mono ?_
  rintro en w2 ⟨rfl, hb⟩
  have HR2 := Lib.hid (HR.out.below hb (Blk.lt HR.out))
  have HB2 := Lib.hid (HB.out.trans (hb.mono (by omega)))
  have hz2 := Nat.le_trans hz hb.size
  clear HR HB hz hb
  have HR := HR2
  have HB := HB2
  have hz := hz2
  clear HR2 HB2 hz2
  clear HD
  go_upto_region 2 with fail
  have HP := Lib.hid (Blk.new w2 (nuI v d) 141)
  replace HR := Lib.hid (HR.out.alloc (.cells (nuI v d) 141))
  replace HB := Lib.hid (HB.out.alloc (by omega) (.cells (nuI v d) 141))
  have hz2 : w.heap.size + 1 ≤ (w2.alloc (.cells (nuI v d) 141)).heap.size := by simp; omega
  clear hz
  have hz := hz2
  clear hz2
  generalize w2.alloc (.cells (nuI v d) 141) = w3 at *
  generalize w2.heap.size = B at *
  have c0 := HP.out.cell 0
  have c1 := HP.out.cell 1
  simp only [List.getElem?_toArray, List.getElem?_cons_zero, List.getElem?_cons_succ] at c0 c1
  clear HP
  have HG := Lib.hid hg
  clear hg
  by_cases he : e = 0
  · subst he
    have hG := HG.out
    rw [if_neg (show ¬ ((0 : Nat) ≠ 0) from fun h => h rfl)] at hG
    replace HG := Lib.hid hG
    clear hG
    by_cases hd : d = 0
    · subst hd
      by_cases hps : p = s.size
      · subst hps
        have HRES := Lib.hid (show Y = shortR s [48, 125] by rw [HG.out, if_pos ⟨rfl, rfl⟩])
        clear HG 
        have HFA := Lib.hid (shortR_calls s ⟨#[48, 125]⟩)
        go_wp2_with fail
        refine (HFA.out _).mono ?_
        rintro en w4 ⟨rfl, hb⟩
        have HR2 := Lib.hid (HR.out.below hb (Blk.lt HR.out))
        have HB2 := Lib.hid (HB.out.trans (hb.mono (by omega)))
        have hz2 := Nat.le_trans hz hb.size
        clear HR HB hz hb
        have HR := HR2
        have HB := HB2
        have hz := hz2
        clear HR2 HB2 hz2
        go_wp2_with ((with_reducible refine wpList_store_st (o := ⟨none, .store 133 _ _, _, _, _, _⟩) rfl 133 _ _ rfl w.heap.size rfl rfl (run_storeAt_row _ w.heap.size 133 133 (rdI 0 0 0 eT 0) (rdI 0 0 s.size ⟨#[48, 125]⟩ 2) ?_ ?_ ?_ ?_) ?_); exact HR.out; exact infoRd; rfl; exact rdC_one _ _ _ _ _)
        exact bodyPost_ret (v := .agg (rdI 0 0 s.size ⟨#[48, 125]⟩ 2)) (results_cell_row rfl _ _ w.heap.size 133 (rdI 0 0 s.size ⟨#[48, 125]⟩ 2) (0, 0) _ rfl (Blk.setRow HR.out) Tryz.underlying133 rfl infoRd) rfl ⟨by rw [HRES.out] <;> rfl, below_row HB.out (by omega) _⟩
      have qp : ((p : Int) == (s.size : Int)) = false := by rw [beq_eq_false_iff_ne]; omega
      have HRES := Lib.hid (show Y = badC 3 (p + 1) by rw [HG.out, if_neg (fun h => hps h.1), if_neg hps, if_neg (fun h => absurd h.1 (by omega)), if_neg (fun h => absurd h.1 (by omega))])
      clear HG 
      have HFA := Lib.hid (faultD_calls 3 ((p : Int) + 1))
      go_wp2_with fail
      refine (HFA.out _).mono ?_
      rintro en w4 ⟨rfl, hb⟩
      have HR2 := Lib.hid (HR.out.below hb (Blk.lt HR.out))
      have HB2 := Lib.hid (HB.out.trans (hb.mono (by omega)))
      have hz2 := Nat.le_trans hz hb.size
      clear HR HB hz hb
      have HR := HR2
      have HB := HB2
      have hz := hz2
      clear HR2 HB2 hz2
      go_wp2_with ((with_reducible refine wpList_store_st (o := ⟨none, .store 133 _ _, _, _, _, _⟩) rfl 133 _ _ rfl w.heap.size rfl rfl (run_storeAt_row _ w.heap.size 133 133 (rdI 0 0 0 eT 0) (rdI 0 0 ((p : Int) + 1) eT 3) ?_ ?_ ?_ ?_) ?_); exact HR.out; exact infoRd; rfl; exact rdC_one _ _ _ _ _)
      exact bodyPost_ret (v := .agg (rdI 0 0 ((p : Int) + 1) eT 3)) (results_cell_row rfl _ _ w.heap.size 133 (rdI 0 0 ((p : Int) + 1) eT 3) (0, 0) _ rfl (Blk.setRow HR.out) Tryz.underlying133 rfl infoRd) rfl ⟨by rw [HRES.out] <;> rfl, below_row HB.out (by omega) _⟩
    have qd : decide (0 < d) = true := by rw [decide_eq_true_iff]; omega
    have qd0 : ((d : Int) == 0) = false := by rw [beq_eq_false_iff_ne]; omega
    have hd0 : 0 < d := by omega
    by_cases hps : p = s.size
    · subst hps
      have HRES := Lib.hid (show Y = shortR s [125] by rw [HG.out, if_neg (fun h => hd h.2), if_pos rfl])
      clear HG 
      have HFA := Lib.hid (shortR_calls s ⟨#[125]⟩)
      go_wp2_with fail
      refine (HFA.out _).mono ?_
      rintro en w4 ⟨rfl, hb⟩
      have HR2 := Lib.hid (HR.out.below hb (Blk.lt HR.out))
      have HB2 := Lib.hid (HB.out.trans (hb.mono (by omega)))
      have hz2 := Nat.le_trans hz hb.size
      clear HR HB hz hb
      have HR := HR2
      have HB := HB2
      have hz := hz2
      clear HR2 HB2 hz2
      go_wp2_with ((with_reducible refine wpList_store_st (o := ⟨none, .store 133 _ _, _, _, _, _⟩) rfl 133 _ _ rfl w.heap.size rfl rfl (run_storeAt_row _ w.heap.size 133 133 (rdI 0 0 0 eT 0) (rdI 0 0 s.size ⟨#[125]⟩ 2) ?_ ?_ ?_ ?_) ?_); exact HR.out; exact infoRd; rfl; exact rdC_one _ _ _ _ _)
      exact bodyPost_ret (v := .agg (rdI 0 0 s.size ⟨#[125]⟩ 2)) (results_cell_row rfl _ _ w.heap.size 133 (rdI 0 0 s.size ⟨#[125]⟩ 2) (0, 0) _ rfl (Blk.setRow HR.out) Tryz.underlying133 rfl infoRd) rfl ⟨by rw [HRES.out] <;> rfl, below_row HB.out (by omega) _⟩
    have hlt : p < s.size := by omega
    have qp : ((p : Int) == (s.size : Int)) = false := by rw [beq_eq_false_iff_ne]; omega
    have b0 : s[p].toNat = bt s p := (bt_eq s p hlt).symm
    generalize bt s p = b at *
    have hG := HG.out
    rw [if_neg (fun h => hps h.1), if_neg hps] at hG
    replace HG := Lib.hid hG
    clear hG
    by_cases hb125 : b = 125
    · subst hb125
      have HRES := Lib.hid (show Y = okR v v (p + 1) by rw [HG.out, if_pos ⟨hd0, rfl⟩])
      clear HG 
      go_wp2_with ((with_reducible refine wpList_store_st (o := ⟨none, .store 133 _ _, _, _, _, _⟩) rfl 133 _ _ rfl w.heap.size rfl rfl (run_storeAt_row _ w.heap.size 133 133 (rdI 0 0 0 eT 0) (rdI v v ((p : Int) + 1) eT 0) ?_ ?_ ?_ ?_) ?_); exact HR.out; exact infoRd; rfl; exact rdC_one _ _ _ _ _)
      exact bodyPost_ret (v := .agg (rdI v v ((p : Int) + 1) eT 0)) (results_cell_row rfl _ _ w.heap.size 133 (rdI v v ((p : Int) + 1) eT 0) (0, 0) _ rfl (Blk.setRow HR.out) Tryz.underlying133 rfl infoRd) rfl ⟨by rw [HRES.out] <;> rfl, below_row HB.out (by omega) _⟩
    have qb : ((b : Int) == 125) = false := by rw [beq_eq_false_iff_ne]; omega
    by_cases hb44 : b = 44
    · subst hb44
      have hC := commaD_calls s hs (p + 1) v (by omega)
      have hZ : Y = commaD s (p + 1) v := by rw [HG.out, if_neg (fun h => absurd h.2 (by decide)), if_pos ⟨hd0, rfl⟩]
      generalize commaD s (p + 1) v = Z at *
      obtain ⟨zn, zm, zp, zl, ze⟩ := Z
      have HRES := Lib.hid hZ
      clear HG hZ
      have HFA : Hid (∀ w, Calls Tryz.prog 97 #[.string s, .int .i64 ((p : Int) + 1), .int .i64 v] w fun en w' => en = .returned (.agg (rdI zn zm zp (ofT zl) ze)) ∧ Below w.heap.size w w') := Lib.hid hC
      clear hC
      go_wp2_with fail
      refine (HFA.out _).mono ?_
      rintro en w4 ⟨rfl, hb⟩
      have HR2 := Lib.hid (HR.out.below hb (Blk.lt HR.out))
      have HB2 := Lib.hid (HB.out.trans (hb.mono (by omega)))
      have hz2 := Nat.le_trans hz hb.size
      clear HR HB hz hb
      have HR := HR2
      have HB := HB2
      have hz := hz2
      clear HR2 HB2 hz2
      go_wp2_with ((with_reducible refine wpList_store_st (o := ⟨none, .store 133 _ _, _, _, _, _⟩) rfl 133 _ _ rfl w.heap.size rfl rfl (run_storeAt_row _ w.heap.size 133 133 (rdI 0 0 0 eT 0) (rdI zn zm zp (ofT zl) ze) ?_ ?_ ?_ ?_) ?_); exact HR.out; exact infoRd; rfl; exact rdC_one _ _ _ _ _)
      exact bodyPost_ret (v := .agg (rdI zn zm zp (ofT zl) ze)) (results_cell_row rfl _ _ w.heap.size 133 (rdI zn zm zp (ofT zl) ze) (0, 0) _ rfl (Blk.setRow HR.out) Tryz.underlying133 rfl infoRd) rfl ⟨by rw [HRES.out] <;> rfl, below_row HB.out (by omega) _⟩
    have qc : ((b : Int) == 44) = false := by rw [beq_eq_false_iff_ne]; omega
    have HRES := Lib.hid (show Y = badC 3 (p + 1) by rw [HG.out, if_neg (fun h => hb125 h.2), if_neg (fun h => hb44 h.2)])
    clear HG 
    have HFA := Lib.hid (faultD_calls 3 ((p : Int) + 1))
    go_wp2_with fail
    refine (HFA.out _).mono ?_
    rintro en w4 ⟨rfl, hb⟩
    have HR2 := Lib.hid (HR.out.below hb (Blk.lt HR.out))
    have HB2 := Lib.hid (HB.out.trans (hb.mono (by omega)))
    have hz2 := Nat.le_trans hz hb.size
    clear HR HB hz hb
    have HR := HR2
    have HB := HB2
    have hz := hz2
    clear HR2 HB2 hz2
    go_wp2_with ((with_reducible refine wpList_store_st (o := ⟨none, .store 133 _ _, _, _, _, _⟩) rfl 133 _ _ rfl w.heap.size rfl rfl (run_storeAt_row _ w.heap.size 133 133 (rdI 0 0 0 eT 0) (rdI 0 0 ((p : Int) + 1) eT 3) ?_ ?_ ?_ ?_) ?_); exact HR.out; exact infoRd; rfl; exact rdC_one _ _ _ _ _)
    exact bodyPost_ret (v := .agg (rdI 0 0 ((p : Int) + 1) eT 3)) (results_cell_row rfl _ _ w.heap.size 133 (rdI 0 0 ((p : Int) + 1) eT 3) (0, 0) _ rfl (Blk.setRow HR.out) Tryz.underlying133 rfl infoRd) rfl ⟨by rw [HRES.out] <;> rfl, below_row HB.out (by omega) _⟩
  · have qe : ((e : Int) != 0) = true := by rw [bne_iff_ne]; omega
    have HRES := Lib.hid (show Y = badC e p by rw [HG.out, if_pos he])
    clear HG 
    have HFA := Lib.hid (faultD_calls e p)
    go_wp2_with fail
    refine (HFA.out _).mono ?_
    rintro en w4 ⟨rfl, hb⟩
    have HR2 := Lib.hid (HR.out.below hb (Blk.lt HR.out))
    have HB2 := Lib.hid (HB.out.trans (hb.mono (by omega)))
    have hz2 := Nat.le_trans hz hb.size
    clear HR HB hz hb
    have HR := HR2
    have HB := HB2
    have hz := hz2
    clear HR2 HB2 hz2
    go_wp2_with ((with_reducible refine wpList_store_st (o := ⟨none, .store 133 _ _, _, _, _, _⟩) rfl 133 _ _ rfl w.heap.size rfl rfl (run_storeAt_row _ w.heap.size 133 133 (rdI 0 0 0 eT 0) (rdI 0 0 p eT e) ?_ ?_ ?_ ?_) ?_); exact HR.out; exact infoRd; rfl; exact rdC_one _ _ _ _ _)
    exact bodyPost_ret (v := .agg (rdI 0 0 p eT e)) (results_cell_row rfl _ _ w.heap.size 133 (rdI 0 0 p eT e) (0, 0) _ rfl (Blk.setRow HR.out) Tryz.underlying133 rfl infoRd) rfl ⟨by rw [HRES.out] <;> rfl, below_row HB.out (by omega) _⟩
end Go.Proofs.YthodphgbdmnpoaaGreat

/- The developers' counts are the document's, and what lacks to them makes counts. -/
namespace Go.Proofs.YthodphgbdmnpoaaGreat
open Go.RowKit

def toN (r : RD) : Nat × Int × Nat × Nat × Nat := if r.err = 0 then (r.n, r.m, r.fin, 0, 0) else (0, 0, 0, r.err, r.fin)
theorem toN_bad (e p : Nat) (h : e ≠ 0) : toN (badC e p) = (0, 0, 0, e, p) := by unfold toN badC; rw [if_neg h]
theorem toN_ok (n : Nat) (m : Int) (p : Nat) : toN (okR n m p) = (n, m, p, 0, 0) := rfl
theorem toN_short (s : ByteArray) (l : List Nat) : toN (shortR s l) = (0, 0, 0, 2, s.size) := rfl

/-- How far a number was read: the first one, or the second one behind n. -/
def stD (sec : Bool) (n v d : Nat) : NS := if sec = true then ⟨n, v, d, true⟩ else ⟨v, 0, d, false⟩
def leD (sec : Bool) (n : Nat) : Nat := if sec = true then n else 0
theorem stepD (sec : Bool) (n v d b : Nat) (h : InvD v d) (hb : 48 ≤ b ∧ b ≤ 57) :
    stepN (stD sec n v d) b = if fullD v d = true then .bad 6 else if mostD (10 * v + (b - 48)) (d + 1) < leD sec n then .bad 6 else .on (stD sec n (10 * v + (b - 48)) (d + 1)) := by
  obtain ⟨i1, i2, i3, i4⟩ := h
  have hf : (fullD v d = true) ↔ (d = 2 ∨ (d = 1 ∧ v = 0)) := by
    unfold fullD
    simp only [Bool.or_eq_true, Bool.and_eq_true, beq_iff_eq, decide_eq_true_eq]
    omega
  have hc : curN (stD sec n v d) = v := by cases sec <;> rfl
  have hh : (stD sec n v d).hv = d := by cases sec <;> rfl
  unfold stepN
  rw [if_pos hb, hc, hh]
  by_cases hF : fullD v d = true
  · rw [if_pos hF, if_pos (hf.1 hF)]
  rw [if_neg hF, if_neg (fun h => hF (hf.2 h))]
  generalize hx : 10 * v + (b - 48) = x
  have hm : mostN (stD sec n v d) x = mostD x (d + 1) := by
    unfold mostN mostD
    rw [hh]
    have hg : (fullD x (d + 1) = true) ↔ (d = 1 ∨ x = 0) := by
      unfold fullD
      simp only [Bool.or_eq_true, Bool.and_eq_true, beq_iff_eq, decide_eq_true_eq]
      omega
    have hnF : ¬ (d = 2 ∨ (d = 1 ∧ v = 0)) := fun h => hF (hf.2 h)
    have hd : d = 0 ∨ d = 1 := by omega
    by_cases hq : fullD x (d + 1) = true
    · rw [if_pos hq]
      have := hg.1 hq
      by_cases hz : d + 1 = 1 ∧ 0 < x
      · omega
      · rw [if_neg hz]
    · rw [if_neg hq]
      have hnq : ¬ (d = 1 ∨ x = 0) := fun h => hq (hg.2 h)
      rw [if_pos ⟨by omega, by omega⟩]
  rw [hm]
  cases sec with
  | true =>
    have e : leD true n = n := rfl
    rw [e]
    by_cases hl : mostD x (d + 1) < n
    · rw [if_pos hl, if_pos ⟨rfl, hl⟩]
    · rw [if_neg hl, if_neg (fun h => hl h.2)]; rfl
  | false =>
    have e : leD false n = 0 := rfl
    rw [e, if_neg (fun h => by cases h.1), if_neg (by omega)]; rfl
/-- Digits are read as the document's. -/
theorem runD (s s' : ByteArray) (sec : Bool) (n : Nat) : ∀ k i v d, InvD v d → k + i = s.size → Agr (digD s (leD sec n) k i v d).2.2.1 s s' → i ≤ s'.size →
    runN s' (s'.size - i) i (stD sec n v d) = if (digD s (leD sec n) k i v d).2.2.2 = 0 then runN s' (s'.size - (digD s (leD sec n) k i v d).2.2.1) (digD s (leD sec n) k i v d).2.2.1 (stD sec n (digD s (leD sec n) k i v d).1 (digD s (leD sec n) k i v d).2.1)
      else (0, 0, 0, 6, (digD s (leD sec n) k i v d).2.2.1)
  | 0, i, v, d, _, _, _, _ => rfl
  | k + 1, i, v, d, h, hk, ha, hi => by
    rw [digD] at ha ⊢
    by_cases hd : 48 ≤ bt s i ∧ bt s i ≤ 57
    · rw [if_pos hd] at ha ⊢
      have key : ∀ j, i + 1 ≤ j → Agr j s s' → bt s' i = bt s i ∧ i < s'.size := fun j hj hA => ⟨(hA.2.2 i (by omega)).symm, by have := hA.2.1; omega⟩
      by_cases hF : fullD v d = true
      · rw [if_pos hF] at ha ⊢
        obtain ⟨e, hlt⟩ := key _ (Nat.le_refl _) ha
        rw [show s'.size - i = (s'.size - (i + 1)) + 1 by omega, runN, e, stepD sec n v d _ h hd, if_pos hF]
        rfl
      · rw [if_neg hF] at ha ⊢
        by_cases hl : mostD (10 * v + (bt s i - 48)) (d + 1) < leD sec n
        · rw [if_pos hl] at ha ⊢
          obtain ⟨e, hlt⟩ := key _ (Nat.le_refl _) ha
          rw [show s'.size - i = (s'.size - (i + 1)) + 1 by omega, runN, e, stepD sec n v d _ h hd, if_neg hF, if_pos hl]
          rfl
        · rw [if_neg hl] at ha ⊢
          have hI := invD_step v d _ h hd (by simpa using hF)
          have hge : i + 1 ≤ (digD s (leD sec n) k (i + 1) (10 * v + (bt s i - 48)) (d + 1)).2.2.1 := by
            rcases digD_end s (leD sec n) (i + 1) k (i + 1) (10 * v + (bt s i - 48)) (d + 1) hI (Nat.le_refl _) (by omega) (fun _ => by omega) with h | ⟨p, h, hp, _⟩
            · exact h.2.1
            · rw [h]; simp only; omega
          obtain ⟨e, hlt⟩ := key _ hge ha
          rw [show s'.size - i = (s'.size - (i + 1)) + 1 by omega, runN, e, stepD sec n v d _ h hd, if_neg hF, if_neg hl]
          exact runD s s' sec n k (i + 1) _ _ hI (by omega) ha (by omega)
    · rw [if_neg hd]
      rfl
theorem agr_self (s : ByteArray) (n : Nat) (h : n ≤ s.size) : Agr n s s := ⟨h, h, fun _ _ => rfl⟩
theorem agr_app (s l : ByteArray) (n : Nat) (h : n ≤ s.size) : Agr n s (s ++ l) := ⟨h, by rw [ByteArray.size_append]; omega, fun i hi => by rw [bt_app, if_pos (by omega)]⟩

/-- A reading is the document's, and what lacks makes counts. -/
def GoodR (s : ByteArray) (i : Nat) (st : NS) (r : RD) : Prop :=
  toN r = runN s (s.size - i) i st ∧ (r.err ≠ 2 → r.lack = []) ∧
  (r.err = 2 → r.fin = s.size ∧ 0 < r.lack.length ∧ r.lack.length ≤ 2 ∧ (∀ x ∈ r.lack, x < 256) ∧ ∃ (n : Nat) (m : Int), runN (s ++ ofT r.lack) ((s ++ ofT r.lack).size - i) i st = (n, m, (s ++ ofT r.lack).size, 0, 0))
theorem bt_in (s : ByteArray) (L : List Nat) (k : Nat) (hL : ∀ x ∈ L, x < 256) (hk : k < L.length) : bt (s ++ ofT L) (s.size + k) = L[k] := by
  rw [bt_app, if_neg (by omega), show s.size + k - s.size = k by omega, bt_ofT L hL k hk]
theorem stepN_close (st : NS) (h1 : st.sec = true) (h2 : st.hv = 0 ∨ st.n ≤ st.m) : ∃ m, stepN st 125 = .fin st.n m := by
  unfold stepN
  rw [if_neg (by omega), if_neg (fun h => by cases h.1), if_neg (fun h => by rw [h1] at h; cases h.2.1)]
  by_cases h0 : st.hv = 0
  · rw [if_pos ⟨rfl, h1, h0⟩]; exact ⟨_, rfl⟩
  · rw [if_neg (fun h => h0 h.2.2), if_pos ⟨rfl, h1, by omega⟩]; exact ⟨_, rfl⟩
theorem run_close (s' : ByteArray) (p : Nat) (st : NS) (x : Nat) (m : Int) (hp : p < s'.size) (hb : bt s' p = 125) (hs : stepN st 125 = .fin x m) : runN s' (s'.size - p) p st = (x, m, p + 1, 0, 0) := by
  rw [show s'.size - p = (s'.size - (p + 1)) + 1 by omega, runN, hb, hs]
theorem run_on (s' : ByteArray) (p b : Nat) (st st' : NS) (hp : p < s'.size) (hb : bt s' p = b) (hs : stepN st b = .on st') : runN s' (s'.size - p) p st = runN s' (s'.size - (p + 1)) (p + 1) st' := by
  rw [show s'.size - p = (s'.size - (p + 1)) + 1 by omega, runN, hb, hs]
theorem run_bad (s' : ByteArray) (p b e : Nat) (st : NS) (hp : p < s'.size) (hb : bt s' p = b) (hs : stepN st b = .bad e) : runN s' (s'.size - p) p st = (0, 0, 0, e, p + 1) := by
  rw [show s'.size - p = (s'.size - (p + 1)) + 1 by omega, runN, hb, hs]
theorem run_end (s' : ByteArray) (p : Nat) (st : NS) (hp : p = s'.size) : runN s' (s'.size - p) p st = (0, 0, 0, 2, s'.size) := by
  subst hp; rw [Nat.sub_self]; rfl

theorem goodComma (s : ByteArray) (i n : Nat) (hi : i ≤ s.size) : GoodR s i ⟨n, 0, 0, true⟩ (commaD s i n) := by
  have hE := digsD_end s i n hi
  have hR : ∀ s', Agr (digsD s i n).2.2.1 s s' → i ≤ s'.size → _ := fun s' => runD s s' true n (s.size - i) i 0 0 invD_start (by omega)
  unfold commaD
  unfold digsD at *
  have el : leD true n = n := rfl
  simp only [el] at hR
  generalize digD s n (s.size - i) i 0 0 = X at *
  obtain ⟨v, d, p, e⟩ := X
  simp only [EndD] at hR hE ⊢
  rw [show stD true n 0 0 = ⟨n, 0, 0, true⟩ from rfl, show stD true n v d = ⟨n, v, d, true⟩ from rfl] at hR
  rcases hE with ⟨rfl, h1, h2, hI, h4, h5⟩ | ⟨q, hq, h1, h2⟩
  · rw [if_neg (fun h => h rfl)]
    have hR0 := hR s (agr_self s p h2) hi
    rw [if_pos rfl] at hR0
    have hRl : ∀ L : List Nat, runN (s ++ ofT L) ((s ++ ofT L).size - i) i ⟨n, 0, 0, true⟩ = _ := fun L => (hR (s ++ ofT L) (agr_app s _ p h2) (by rw [ByteArray.size_append]; omega)).trans (if_pos rfl)
    have hsz : ∀ L : List Nat, (s ++ ofT L).size = s.size + L.length := fun L => by rw [ByteArray.size_append, size_ofT]
    obtain ⟨j1, j2, j3, j4⟩ := hI
    by_cases hp : p = s.size
    · subst hp
      have hN : ∀ L : List Nat, toN (shortR s L) = runN s (s.size - i) i ⟨n, 0, 0, true⟩ := fun L => by rw [hR0, run_end s s.size _ rfl, toN_short]
      cases hl : lessD v d n with
      | true =>
        rw [if_pos ⟨rfl, rfl⟩]
        refine ⟨hN _, fun h => absurd rfl h, fun _ => ⟨rfl, (show 0 < 2 by decide), (show 2 ≤ 2 by decide), (show ∀ x ∈ [57, 125], x < 256 by decide), ?_⟩⟩
        have hl2 : 0 < d ∧ v < n := by simpa [lessD] using hl
        have hm := h5 hl2.1
        have hnf : ¬ fullD v d = true := fun hF => by unfold mostD at hm; rw [if_pos hF] at hm; omega
        have hm2 : n ≤ 10 * v + 9 := by unfold mostD at hm; rw [if_neg hnf] at hm; exact hm
        have hd1 : d = 1 ∧ v ≠ 0 := by
          have : ¬ (d = 2 ∨ (0 < d ∧ v = 0)) := fun h => hnf (by unfold fullD; simpa using h)
          omega
        obtain ⟨rfl, hv0⟩ := hd1
        have hs1 : stepN (⟨n, v, 1, true⟩ : NS) 57 = .on ⟨n, 10 * v + 9, 2, true⟩ := by
          have h := stepD true n v 1 57 ⟨j1, j2, j3, j4⟩ (by omega)
          rw [if_neg hnf, if_neg (by show ¬ (mostD (10 * v + 9) 2 < n); have : mostD (10 * v + 9) 2 = 10 * v + 9 := by simp [mostD, fullD]
                                     omega)] at h
          exact h
        obtain ⟨m, hs2⟩ := stepN_close ⟨n, 10 * v + 9, 2, true⟩ rfl (.inr hm2)
        refine ⟨n, m, ?_⟩
        show runN (s ++ ofT [57, 125]) ((s ++ ofT [57, 125]).size - i) i ⟨n, 0, 0, true⟩ = (n, m, (s ++ ofT [57, 125]).size, 0, 0)
        rw [hRl [57, 125], run_on _ s.size 57 _ _ (by rw [hsz]; simp) (bt_in s [57, 125] 0 (by decide) (by decide)) hs1,
          run_close _ (s.size + 1) _ n m (by rw [hsz]; simp) (bt_in s [57, 125] 1 (by decide) (by decide)) hs2, hsz]
        rfl
      | false =>
        rw [if_neg (fun h => by cases h.2), if_pos rfl]
        refine ⟨hN _, fun h => absurd rfl h, fun _ => ⟨rfl, (show 0 < 1 by decide), (show 1 ≤ 2 by decide), (show ∀ x ∈ [125], x < 256 by decide), ?_⟩⟩
        have hl2 : d = 0 ∨ n ≤ v := by
          have : ¬ (0 < d ∧ v < n) := fun h => by rw [lessD, decide_eq_true h.1, decide_eq_true h.2] at hl; cases hl
          omega
        obtain ⟨m, hs2⟩ := stepN_close ⟨n, v, d, true⟩ rfl hl2
        refine ⟨n, m, ?_⟩
        show runN (s ++ ofT [125]) ((s ++ ofT [125]).size - i) i ⟨n, 0, 0, true⟩ = (n, m, (s ++ ofT [125]).size, 0, 0)
        rw [hRl [125], run_close _ s.size _ n m (by rw [hsz]; simp) (bt_in s [125] 0 (by decide) (by decide)) hs2, hsz]
        rfl
    · have hlt : p < s.size := by omega
      have hnd : ¬ (48 ≤ bt s p ∧ bt s p ≤ 57) := by rcases h4 with h | h
                                                     · exact absurd h hp
                                                     · exact h
      rw [if_neg (fun h => hp h.1), if_neg hp]
      generalize hb : bt s p = b at *
      by_cases h125 : b = 125
      · subst h125
        rw [if_neg (fun h => h rfl)]
        cases hl : lessD v d n with
        | true =>
          rw [if_pos rfl]
          have hl2 : 0 < d ∧ v < n := by simpa [lessD] using hl
          refine ⟨?_, fun _ => rfl, fun h => by cases h⟩
          rw [hR0, toN_bad _ _ (by decide), run_bad s p 125 6 _ hlt hb]
          unfold stepN
          rw [if_neg (by omega), if_neg (fun h => by cases h.1), if_neg (fun h => by cases h.2.1), if_neg (fun h => by have := h.2.2; simp only at this; omega), if_neg (fun h => by have := h.2.2; simp only at this; omega), if_pos ⟨rfl, rfl⟩]
        | false =>
          rw [if_neg (by decide)]
          have hl2 : d = 0 ∨ n ≤ v := by
            have : ¬ (0 < d ∧ v < n) := fun h => by rw [lessD, decide_eq_true h.1, decide_eq_true h.2] at hl; cases hl
            omega
          by_cases h0 : d = 0
          · rw [if_pos h0]
            refine ⟨?_, fun _ => rfl, fun h => by cases h⟩
            rw [hR0, toN_ok, run_close s p _ n (-1) hlt hb]
            unfold stepN
            rw [if_neg (by omega), if_neg (fun h => by cases h.1), if_neg (fun h => by cases h.2.1), if_pos ⟨rfl, rfl, h0⟩]
          · rw [if_neg h0]
            refine ⟨?_, fun _ => rfl, fun h => by cases h⟩
            rw [hR0, toN_ok, run_close s p _ n v hlt hb]
            unfold stepN
            rw [if_neg (by omega), if_neg (fun h => by cases h.1), if_neg (fun h => by cases h.2.1), if_neg (fun h => h0 h.2.2), if_pos ⟨rfl, rfl, by simp only; omega⟩]
      · rw [if_pos h125]
        refine ⟨?_, fun _ => rfl, fun h => by cases h⟩
        rw [hR0, toN_bad _ _ (by decide), run_bad s p b 3 _ hlt hb]
        unfold stepN
        rw [if_neg hnd, if_neg (fun h => by cases h.2.1), if_neg (fun h => h125 h.1), if_neg (fun h => h125 h.1), if_neg (fun h => h125 h.1), if_neg (fun h => h125 h.1)]
  · cases hq
    rw [if_pos (by decide)]
    have hR0 := hR s (agr_self s _ h2) hi
    rw [if_neg (by decide)] at hR0
    exact ⟨by rw [hR0, toN_bad _ _ (by decide)], fun _ => rfl, fun h => by cases h⟩

theorem goodBraces (s : ByteArray) (i : Nat) (hi : i ≤ s.size) : GoodR s i ⟨0, 0, 0, false⟩ (bracesD s i) := by
  have hE := digsD_end s i 0 hi
  have hR : ∀ s', Agr (digsD s i 0).2.2.1 s s' → i ≤ s'.size → _ := fun s' => runD s s' false 0 (s.size - i) i 0 0 invD_start (by omega)
  unfold bracesD
  unfold digsD at *
  have el : leD false 0 = 0 := rfl
  simp only [el] at hR
  generalize digD s 0 (s.size - i) i 0 0 = X at *
  obtain ⟨v, d, p, e⟩ := X
  simp only [EndD] at hR hE ⊢
  rw [show stD false 0 0 0 = ⟨0, 0, 0, false⟩ from rfl, show stD false 0 v d = ⟨v, 0, d, false⟩ from rfl] at hR
  rcases hE with ⟨rfl, h1, h2, hI, h4, h5⟩ | ⟨q, hq, h1, h2⟩
  · rw [if_neg (fun h => h rfl)]
    have hR0 := hR s (agr_self s p h2) hi
    rw [if_pos rfl] at hR0
    have hRl : ∀ L : List Nat, runN (s ++ ofT L) ((s ++ ofT L).size - i) i ⟨0, 0, 0, false⟩ = _ := fun L => (hR (s ++ ofT L) (agr_app s _ p h2) (by rw [ByteArray.size_append]; omega)).trans (if_pos rfl)
    have hsz : ∀ L : List Nat, (s ++ ofT L).size = s.size + L.length := fun L => by rw [ByteArray.size_append, size_ofT]
    obtain ⟨j1, j2, j3, j4⟩ := hI
    have hfin : ∀ hv : Nat, ∀ x : Nat, 0 < hv → stepN (⟨x, 0, hv, false⟩ : NS) 125 = .fin x x := fun hv x h => by
      unfold stepN
      rw [if_neg (by omega), if_neg (fun h => by cases h.1), if_pos ⟨rfl, rfl, h⟩]
    by_cases hp : p = s.size
    · subst hp
      have hN : ∀ L : List Nat, toN (shortR s L) = runN s (s.size - i) i ⟨0, 0, 0, false⟩ := fun L => by rw [hR0, run_end s s.size _ rfl, toN_short]
      by_cases hd : d = 0
      · rw [if_pos ⟨rfl, hd⟩]
        obtain rfl := j2 hd
        subst hd
        refine ⟨hN _, fun h => absurd rfl h, fun _ => ⟨rfl, (show 0 < 2 by decide), (show 2 ≤ 2 by decide), (show ∀ x ∈ [48, 125], x < 256 by decide), 0, 0, ?_⟩⟩
        show runN (s ++ ofT [48, 125]) ((s ++ ofT [48, 125]).size - i) i ⟨0, 0, 0, false⟩ = (0, 0, (s ++ ofT [48, 125]).size, 0, 0)
        have hs1 : stepN (⟨0, 0, 0, false⟩ : NS) 48 = .on ⟨0, 0, 1, false⟩ := rfl
        rw [hRl [48, 125], run_on _ s.size 48 _ _ (by rw [hsz]; simp) (bt_in s [48, 125] 0 (by decide) (by decide)) hs1,
          run_close _ (s.size + 1) _ 0 0 (by rw [hsz]; simp) (bt_in s [48, 125] 1 (by decide) (by decide)) (hfin 1 0 (by decide)), hsz]
        rfl
      · rw [if_neg (fun h => hd h.2), if_pos rfl]
        refine ⟨hN _, fun h => absurd rfl h, fun _ => ⟨rfl, (show 0 < 1 by decide), (show 1 ≤ 2 by decide), (show ∀ x ∈ [125], x < 256 by decide), v, v, ?_⟩⟩
        show runN (s ++ ofT [125]) ((s ++ ofT [125]).size - i) i ⟨0, 0, 0, false⟩ = (v, (v : Int), (s ++ ofT [125]).size, 0, 0)
        rw [hRl [125], run_close _ s.size _ v v (by rw [hsz]; simp) (bt_in s [125] 0 (by decide) (by decide)) (hfin d v (by omega)), hsz]
        rfl
    · have hlt : p < s.size := by omega
      have hnd : ¬ (48 ≤ bt s p ∧ bt s p ≤ 57) := by rcases h4 with h | h
                                                     · exact absurd h hp
                                                     · exact h
      rw [if_neg (fun h => hp h.1), if_neg hp]
      generalize hb : bt s p = b at *
      by_cases h125 : 0 < d ∧ b = 125
      · rw [if_pos h125]
        obtain ⟨hd, rfl⟩ := h125
        refine ⟨?_, fun _ => rfl, fun h => by cases h⟩
        rw [hR0, toN_ok, run_close s p _ v v hlt hb (hfin d v hd)]
      · rw [if_neg h125]
        by_cases h44 : 0 < d ∧ b = 44
        · rw [if_pos h44]
          obtain ⟨hd, rfl⟩ := h44
          have hs1 : stepN (⟨v, 0, d, false⟩ : NS) 44 = .on ⟨v, 0, 0, true⟩ := by
            unfold stepN
            rw [if_neg (by omega), if_pos ⟨rfl, rfl, hd⟩]
          have hG := goodComma s (p + 1) v (by omega)
          obtain ⟨g1, g2, g3⟩ := hG
          refine ⟨by rw [g1, hR0, run_on s p 44 _ _ hlt hb hs1], g2, fun h => ?_⟩
          obtain ⟨a1, a2, a3, a4, n', m', a5⟩ := g3 h
          refine ⟨a1, a2, a3, a4, n', m', ?_⟩
          rw [← a5, hRl, run_on _ p 44 _ _ (by rw [hsz]; omega) (by rw [bt_app, if_pos hlt]; exact hb) hs1]
        · rw [if_neg h44]
          refine ⟨?_, fun _ => rfl, fun h => by cases h⟩
          rw [hR0, toN_bad _ _ (by decide), run_bad s p b 3 _ hlt hb]
          unfold stepN
          rw [if_neg hnd, if_neg (fun h => h44 ⟨h.2.2, h.1⟩), if_neg (fun h => h125 ⟨h.2.2, h.1⟩), if_neg (fun h => by cases h.2.1), if_neg (fun h => by cases h.2.1), if_neg (fun h => by cases h.2)]
  · cases hq
    rw [if_pos (by decide)]
    have hR0 := hR s (agr_self s _ h2) hi
    rw [if_neg (by decide)] at hR0
    exact ⟨by rw [hR0, toN_bad _ _ (by decide)], fun _ => rfl, fun h => by cases h⟩

/-- **Read tells what the document tells.** -/
theorem toN_read (s : ByteArray) (at' : Int) : toN (readD4 s at') = readN s at' := by
  unfold readD4 readN
  by_cases h : at' < 0 ∨ (s.size : Int) ≤ at'
  · rw [if_pos h, if_pos h]; rfl
  rw [if_neg h, if_neg h]
  obtain ⟨a, rfl⟩ : ∃ a : Nat, at' = a := ⟨at'.toNat, by omega⟩
  rw [show (a : Int).toNat = a from rfl]
  unfold signN
  have hlt : a < s.size := by omega
  by_cases h4 : bt s a = 123
  · rw [if_pos h4, if_neg (by omega), if_neg (by omega), if_neg (by omega), if_pos h4]
    exact (goodBraces s (a + 1) (by omega)).1
  rw [if_neg h4]
  by_cases h1 : bt s a = 42
  · rw [if_pos h1, if_pos h1]; rfl
  rw [if_neg h1, if_neg h1]
  by_cases h2 : bt s a = 43
  · rw [if_pos h2, if_pos h2]; rfl
  rw [if_neg h2, if_neg h2]
  by_cases h3 : bt s a = 63
  · rw [if_pos h3, if_pos h3]; rfl
  rw [if_neg h3, if_neg h3, if_neg h4]; rfl
theorem read_lack (s : ByteArray) (at' : Int) : ((readD4 s at').err ≠ 2 → (readD4 s at').lack = []) ∧
    ((readD4 s at').err = 2 → ∃ a : Nat, at' = a ∧ a < s.size ∧ bt s a = 123 ∧ readD4 s at' = bracesD s (a + 1)) := by
  unfold readD4
  by_cases h : at' < 0 ∨ (s.size : Int) ≤ at'
  · rw [if_pos h]; exact ⟨fun _ => rfl, fun h => by cases h⟩
  rw [if_neg h]
  obtain ⟨a, rfl⟩ : ∃ a : Nat, at' = a := ⟨at'.toNat, by omega⟩
  rw [show (a : Int).toNat = a from rfl]
  by_cases h4 : bt s a = 123
  · rw [if_pos h4]
    exact ⟨(goodBraces s (a + 1) (by omega)).2.1, fun _ => ⟨a, rfl, by omega, h4, rfl⟩⟩
  rw [if_neg h4]
  by_cases h1 : bt s a = 42
  · rw [if_pos h1]; exact ⟨fun _ => rfl, fun h => by cases h⟩
  rw [if_neg h1]
  by_cases h2 : bt s a = 43
  · rw [if_pos h2]; exact ⟨fun _ => rfl, fun h => by cases h⟩
  rw [if_neg h2]
  by_cases h3 : bt s a = 63
  · rw [if_pos h3]; exact ⟨fun _ => rfl, fun h => by cases h⟩
  rw [if_neg h3]; exact ⟨fun _ => rfl, fun h => by cases h⟩
theorem toN_err (r : RD) : (toN r).2.2.2.1 = r.err := by
  unfold toN
  by_cases h : r.err = 0
  · rw [if_pos h, h]
  · rw [if_neg h]
/-- **What Lack tells makes counts.** -/
theorem lackN_read (s : ByteArray) (at' : Int) : ((readN s at').2.2.2.1 ≠ 2 → ofT (readD4 s at').lack = eT) ∧ ((readN s at').2.2.2.1 = 2 → 0 < (ofT (readD4 s at').lack).size ∧ (ofT (readD4 s at').lack).size ≤ 200 ∧ ∃ n m, readN (s ++ ofT (readD4 s at').lack) at' = (n, m, (s ++ ofT (readD4 s at').lack).size, 0, 0)) := by
  rw [← toN_read, toN_err]
  obtain ⟨h1, h2⟩ := read_lack s at'
  refine ⟨fun h => by rw [h1 h]; rfl, fun h => ?_⟩
  obtain ⟨a, rfl, ha, hb, hr⟩ := h2 h
  rw [hr] at h ⊢
  obtain ⟨_, _, g⟩ := goodBraces s (a + 1) (by omega)
  obtain ⟨a1, a2, a3, a4, n', m', a5⟩ := g h
  generalize (bracesD s (a + 1)).lack = L at *
  refine ⟨by rw [size_ofT]; exact a2, by rw [size_ofT]; omega, n', m', ?_⟩
  have hz : (s ++ ofT L).size = s.size + L.length := by rw [ByteArray.size_append, size_ofT]
  have hb' : bt (s ++ ofT L) a = 123 := by rw [bt_app, if_pos ha]; exact hb
  unfold readN
  rw [if_neg (by omega), show (a : Int).toNat = a from rfl]
  unfold signN
  rw [if_neg (by omega), if_neg (by omega), if_neg (by omega), if_pos hb']
  exact a5
end Go.Proofs.YthodphgbdmnpoaaGreat

/- What lacks makes a word: by a bracket's lack, by counts' lack, by a byte behind a backslash. -/
namespace Go.Proofs.YthodphgbdmnpoaaGreat
open Go.RowKit BS

theorem next_at (s : ByteArray) (a : Nat) (h : a < s.size) : nextN s a = nextA s a := by
  unfold nextN
  rw [if_neg (by omega)]; rfl
theorem lackW_far (s : ByteArray) (at' : Int) (h : at' < 0 ∨ (s.size : Int) ≤ at') : LackW s at' eT := by
  have e : nextN s at' = (zWN, 1, 0) := by unfold nextN; rw [if_pos h]
  exact ⟨fun _ => rfl, fun h => by rw [e] at h; cases h⟩
/-- Where nothing lacks. -/
theorem lackW_none (s : ByteArray) (at' : Int) (h : (nextN s at').2.1 ≠ 2) : LackW s at' eT := ⟨fun _ => rfl, fun h2 => absurd h2 h⟩
theorem next_brk (s : ByteArray) (a : Nat) (h : bt s a = 91) : nextA s a = brkW s a := by
  unfold nextA
  rw [if_neg (by omega), if_neg (by omega), if_neg (by omega), if_neg (by omega), if_pos h]
theorem next_cnt (s : ByteArray) (a : Nat) (h : bt s a = 42 ∨ bt s a = 43 ∨ bt s a = 63 ∨ bt s a = 123) : nextA s a = cntW s a := by
  unfold nextA
  rw [if_neg (by omega), if_neg (by omega), if_neg (by omega), if_pos h]
/-- A bracket. -/
theorem lackW_brk (s : ByteArray) (a : Nat) (ha : a < s.size) (h : bt s a = 91) : LackW s a (wholeD s a).lack := by
  obtain ⟨t, p, e, k, hR⟩ : ∃ t p e k, readR s a = (t, p, e, k) := ⟨_, _, _, _, rfl⟩
  have hL := lackE s a t p e k _ hR rfl
  generalize (wholeD s a).lack = l at *
  have hn : nextN s a = brkW s a := by rw [next_at s a ha, next_brk s a h]
  have he : (nextN s a).2.1 = e := by
    rw [hn]; unfold brkW; rw [hR]; simp only
    by_cases h0 : e = 0
    · rw [if_neg (by omega), h0]
    · rw [if_pos h0]
  unfold LackW
  rw [he]
  rcases hL with ⟨h1, rfl⟩ | ⟨h1, h2, h3, t', ht⟩
  · exact ⟨fun _ => rfl, fun h => absurd h h1⟩
  · refine ⟨fun h => absurd h1 h, fun _ => ⟨h2, by omega, oneW t' a (s ++ l).size, ?_, rfl, rfl⟩⟩
    have hz : (s ++ l).size = s.size + l.size := ByteArray.size_append
    have hb : bt (s ++ l) a = 91 := by rw [bt_app, if_pos ha]; exact h
    rw [next_at _ a (by omega), next_brk _ a hb]
    unfold brkW
    rw [ht, hz]
    rfl
/-- Counts. -/
theorem lackW_cnt (s : ByteArray) (a : Nat) (ha : a < s.size) (h : bt s a = 42 ∨ bt s a = 43 ∨ bt s a = 63 ∨ bt s a = 123) : LackW s a (ofT (readD4 s a).lack) := by
  obtain ⟨n, m, p, e, k, hR⟩ : ∃ n m p e k, readN s a = (n, m, p, e, k) := ⟨_, _, _, _, _, rfl⟩
  obtain ⟨l1, l2⟩ := lackN_read s a
  generalize ofT (readD4 s a).lack = l at *
  have hn : nextN s a = cntW s a := by rw [next_at s a ha, next_cnt s a h]
  have he : (nextN s a).2.1 = e := by
    rw [hn]; unfold cntW; rw [hR]; simp only
    by_cases h0 : e = 0
    · rw [if_neg (by omega), h0]
    · rw [if_pos h0]
  rw [hR] at l1 l2
  simp only at l1 l2
  unfold LackW
  rw [he]
  refine ⟨l1, fun h2 => ?_⟩
  obtain ⟨g1, g2, n', m', g3⟩ := l2 h2
  refine ⟨g1, g2, ⟨5, a, (s ++ l).size, 0, n', m'⟩, ?_, rfl, rfl⟩
  have hz : (s ++ l).size = s.size + l.size := ByteArray.size_append
  have hb : bt (s ++ l) a = bt s a := by rw [bt_app, if_pos ha]
  rw [next_at _ a (by omega), next_cnt _ a (by rw [hb]; exact h)]
  unfold cntW
  rw [g3]
  rfl
/-- A backslash at the end: any of the fourteen makes a word. -/
theorem lackW_slash (s : ByteArray) (a c : Nat) (ha : a + 1 = s.size) (h : bt s a = 92) (hc : four14 c = true) (hlt : c < 256) : LackW s a (ofT [c]) := by
  have hn : nextN s a = (zWN, 2, s.size) := by
    rw [next_at s a (by omega)]
    unfold nextA
    rw [if_neg (by omega), if_neg (by omega), if_neg (by omega), if_neg (by omega), if_neg (by omega), if_neg (by omega), if_neg (by omega), if_pos h]
    unfold slashW
    rw [if_pos (by omega)]
  unfold LackW
  rw [hn]
  have hz : (s ++ ofT [c]).size = s.size + 1 := by rw [ByteArray.size_append, size_ofT]; rfl
  refine ⟨fun h => absurd rfl h, fun _ => ⟨by rw [size_ofT]; simp, by rw [size_ofT]; simp, oneW (range c c) a (a + 2), ?_, rfl, by rw [hz]; show a + 2 = _; omega⟩⟩
  rw [next_at _ a (by omega)]
  refine next_slash _ a c (by rw [bt_app, if_pos (by omega)]; exact h) (by omega) ?_ hc
  rw [ha, bt_app, if_neg (by omega), Nat.sub_self]
  have := bt_ofT [c] (by simpa using hlt) 0 (by simp)
  simpa using this
/-- A backslash that has a byte behind it, or a byte that is none of these, lacks nothing. -/
theorem next_err2 (s : ByteArray) (a : Nat) (ha : a < s.size) (h : (nextN s a).2.1 = 2) : bt s a = 91 ∨ bt s a = 123 ∨ (bt s a = 92 ∧ a + 1 = s.size) := by
  rw [next_at s a ha] at h
  unfold nextA at h
  by_cases h1 : bt s a = 40
  · rw [if_pos h1] at h; cases h
  rw [if_neg h1] at h
  by_cases h2 : bt s a = 41
  · rw [if_pos h2] at h; cases h
  rw [if_neg h2] at h
  by_cases h3 : bt s a = 124
  · rw [if_pos h3] at h; cases h
  rw [if_neg h3] at h
  by_cases h4 : bt s a = 42 ∨ bt s a = 43 ∨ bt s a = 63 ∨ bt s a = 123
  · rw [if_pos h4] at h
    rcases h4 with e | e | e | e
    · exfalso
      unfold cntW readN at h
      rw [if_neg (by omega), show (a : Int).toNat = a from rfl] at h
      unfold signN at h
      rw [if_pos e] at h; cases h
    · exfalso
      unfold cntW readN at h
      rw [if_neg (by omega), show (a : Int).toNat = a from rfl] at h
      unfold signN at h
      rw [if_neg (by omega), if_pos e] at h; cases h
    · exfalso
      unfold cntW readN at h
      rw [if_neg (by omega), show (a : Int).toNat = a from rfl] at h
      unfold signN at h
      rw [if_neg (by omega), if_neg (by omega), if_pos e] at h; cases h
    · exact .inr (.inl e)
  rw [if_neg h4] at h
  by_cases h5 : bt s a = 91
  · exact .inl h5
  rw [if_neg h5] at h
  by_cases h6 : bt s a = 46
  · rw [if_pos h6] at h; cases h
  rw [if_neg h6] at h
  by_cases h7 : bt s a = 94 ∨ bt s a = 36
  · rw [if_pos h7] at h; cases h
  rw [if_neg h7] at h
  by_cases h8 : bt s a = 92
  · rw [if_pos h8] at h
    unfold slashW at h
    by_cases h9 : s.size ≤ a + 1
    · exact .inr (.inr ⟨h8, by omega⟩)
    · rw [if_neg h9] at h
      by_cases h10 : four14 (bt s (a + 1)) = false
      · rw [if_pos h10] at h; cases h
      · rw [if_neg h10] at h; cases h
  · rw [if_neg h8] at h; cases h
end Go.Proofs.YthodphgbdmnpoaaGreat

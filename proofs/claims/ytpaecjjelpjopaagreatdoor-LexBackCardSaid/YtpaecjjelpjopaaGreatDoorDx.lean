/- The developers' brackets: run, those. -/
import Derived.Test.YtpaecjjelpjopaaGreatDoorP1
import Derived.Test.YtpaecjjelpjopaaGreatDoorP3
import Derived.Test.YtpaecjjelpjopaaGreatDoorCt
import Derived.Laws.BytesArg
import Derived.Laws.Concat
import Derived.Deep.DeepCutAuto
import Derived.IntWalk
import Derived.Lib.Hide
namespace Go.Proofs.YtpaecjjelpjopaaGreatDoor
open Go.RowKit Go.Shelf BS

set_option maxRecDepth 100000 in
set_option maxHeartbeats 2000000 in
theorem run_calls (lo hi : Nat) (hl : lo ≤ hi) (hh : hi < 256) (w : World) : Calls Tryz.prog 47 #[.int .u8 lo, .int .u8 hi] w fun e w' => e = .returned (.string (ofT (runT (lo, hi)))) ∧ Below w.heap.size w w' := by
  by_cases h0 : hi = lo
  · have hr : runT (lo, hi) = [lo] := by unfold runT; rw [if_neg (by simp only; omega), if_neg (by simp only; omega)]; rfl
    have q : ((hi : Int) - (lo : Int) == 0) = true := by rw [beq_iff_eq]; omega
    have hcv : ∀ W : World, (convert 59 9 (.slice (some ⟨W.heap.size, 0, none⟩) 1 1)).run Tryz.prog (W.alloc (.cells #[.int .u8 lo] 5)) = .ok (.string (ofT [lo])) (W.alloc (.cells #[.int .u8 lo] 5)) := fun W => cv1 W _ lo
    rw [hr]
    clear hr h0
    go_enter Tryz.func47, Tryz.ntmps47
    go_wp2_with fail
    go_ret
    exact ⟨rfl, by go_grown⟩
  have q : ((hi : Int) - (lo : Int) == 0) = false := by rw [beq_eq_false_iff_ne]; omega
  by_cases h1 : hi = lo + 1
  · have hr : runT (lo, hi) = [lo, hi] := by unfold runT; rw [if_neg (by simp only; omega), if_pos (by simp only; omega)]; rfl
    have q1 : ((hi : Int) - (lo : Int) == 1) = true := by rw [beq_iff_eq]; omega
    have hcv : ∀ W : World, (convert 59 9 (.slice (some ⟨W.heap.size, 0, none⟩) 2 2)).run Tryz.prog (W.alloc (.cells #[.int .u8 lo, .int .u8 hi] 5)) = .ok (.string (ofT [lo, hi])) (W.alloc (.cells #[.int .u8 lo, .int .u8 hi] 5)) := fun W => cv2 W _ lo hi
    rw [hr]
    clear hr h0 h1
    go_enter Tryz.func47, Tryz.ntmps47
    go_wp2_with fail
    go_ret
    exact ⟨rfl, by go_grown⟩
  have q1 : ((hi : Int) - (lo : Int) == 1) = false := by rw [beq_eq_false_iff_ne]; omega
  have hr : runT (lo, hi) = [lo, 45, hi] := by unfold runT; rw [if_pos (by simp only; omega), if_pos (by simp only; omega)]; rfl
  have hcv : ∀ W : World, (convert 59 9 (.slice (some ⟨W.heap.size, 0, none⟩) 3 3)).run Tryz.prog (W.alloc (.cells #[.int .u8 lo, .int .u8 45, .int .u8 hi] 5)) = .ok (.string (ofT [lo, 45, hi])) (W.alloc (.cells #[.int .u8 lo, .int .u8 45, .int .u8 hi] 5)) := fun W => cv3 W _ lo 45 hi
  rw [hr]
  clear hr h0 h1
  go_enter Tryz.func47, Tryz.ntmps47
  go_wp2_with fail
  go_ret
  exact ⟨rfl, by go_grown⟩

/-- The bytes of B that are in s, up to k. -/
def acc (s : BitVec 256) (B : ByteArray) : Nat → ByteArray
  | 0 => eT
  | k + 1 => if s.getLsbD (bt B k) = true then acc s B k ++ B.extract k (k + 1) else acc s B k
theorem acc_size (s : BitVec 256) (B : ByteArray) : ∀ k, (acc s B k).size ≤ k
  | 0 => Nat.le_refl _
  | k + 1 => by
    have h := acc_size s B k
    rw [acc]
    split
    · rw [ByteArray.size_append, ByteArray.size_extract]; omega
    · omega
theorem acc_yes (s : BitVec 256) (B : ByteArray) (k : Nat) (h : s.getLsbD (bt B k) = true) : acc s B (k + 1) = acc s B k ++ B.extract k (k + 1) := by rw [acc, if_pos h]
theorem acc_no (s : BitVec 256) (B : ByteArray) (k : Nat) (h : s.getLsbD (bt B k) = false) : acc s B (k + 1) = acc s B k := by rw [acc, if_neg (by rw [h]; decide)]
def STh (w : World) (s : BitVec 256) (W : World) : Prop := Blk W w.heap.size (setA s) 25 ∧ Below w.heap.size w W
theorem STh.keep {w W W' : World} {s : BitVec 256} (h : STh w s W) (hb : Below W.heap.size W W') : STh w s W' := ⟨h.1.below hb h.1.lt, h.2.trans (hb.mono h.2.size)⟩
theorem STh.drewS {w W : World} {s : BitVec 256} (h : STh w s W) : STh w s W.drew := ⟨h.1, h.2.drew⟩

set_option maxRecDepth 100000 in
set_option maxHeartbeats 4000000 in
theorem those_calls (s : BitVec 256) (B : ByteArray) (hB : B.size ≤ 1000000) (w : World) : Calls Tryz.prog 44 #[setV s, .string B] w fun e w' => e = .returned (.string (acc s B B.size)) ∧ Below w.heap.size w w' := by
  have h0 : STh w s (w.alloc (.cells (setA s) 25)) := ⟨Blk.new w _ _, by go_grown⟩
  go_enter Tryz.func44, Tryz.ntmps44
  go_wp2_with fail
  have e0 : w.alloc (.cells #[.int .u64 (wd s 0), .int .u64 (wd s 1), .int .u64 (wd s 2), .int .u64 (wd s 3)] 25) = w.alloc (.cells (setA s) 25) := rfl
  rw [e0]
  clear e0
  generalize w.alloc (.cells (setA s) 25) = w1 at *
  go_loopw [5, 9] (fun t v wr => ∃ k : Nat, k ≤ B.size ∧ v = .int .i64 k ∧ t = .string (acc s B k) ∧ STh w s wr) (fun _ v _ => B.size - (intOf v).toNat)
  case atStart => exact ⟨0, Nat.zero_le _, rfl, rfl, h0⟩
  case round =>
    clear h0
    obtain ⟨k, hk, rfl, rfl, hS⟩ := hrel
    by_cases hkl : k < B.size
    · have b0 : B[k].toNat = bt B k := (bt_eq B k hkl).symm
      have hlb := bt_lt B k
      have hz := acc_size s B k
      have hh := fun w' => has_calls s (bt B k) w' (by omega) (by omega)
      rw [show ((bt B k : Int)).toNat = bt B k from rfl] at hh
      cases hc : s.getLsbD (bt B k) with
      | false =>
        have HA := Lib.hid (acc_no s B k hc)
        rw [hc] at hh
        have HH := Lib.hid hh
        clear hh hc
        generalize acc s B k = t at *
        go_upto_region 5 with fail
        refine region_steps (S := STh w s) (by kernel_rfl) (STh.drewS hS) ?_
        clear hS
        simp only [List.size_toArray, List.length_cons, List.length_nil, Nat.reduceAdd, Array.replicate_succ, Array.replicate_zero, List.push_toArray, List.nil_append, List.cons_append]
        refine AnyS.next (i := 0) (d := some 12) (v := setV s) rfl rfl (by kernel_rfl) (by kernel_rfl) (by kernel_rfl) (StepsIf.yield (by kernel_rfl) (fun w' hS => by obtain ⟨⟨c0, c1, c2, c3⟩, _⟩ := hS.1.cells4; clear hS; go_simp)) ?_
        intro a' ha'
        simp only [Act.put, List.setIfInBounds_toArray, List.set_cons_zero, List.set_cons_succ] at ha'
        subst ha'
        refine AnyS.stepE (i := 1) (d := some 13) rfl rfl (by kernel_rfl) (by kernel_rfl) (by kernel_rfl) ?_
        apply Exists.intro
        apply And.intro
        · apply StepsIf.yield
          · kernel_rfl
          intro w' hS
          clear hS; go_simp
          rfl
        intro a' ha'
        simp only [Act.put, List.setIfInBounds_toArray, List.set_cons_zero, List.set_cons_succ] at ha'
        subst ha'
        refine AnyS.stepE (i := 2) (d := some 14) rfl rfl (by kernel_rfl) (by kernel_rfl) (by kernel_rfl) ?_
        apply Exists.intro
        apply And.intro
        · apply StepsIf.yield
          · kernel_rfl
          intro w' hS
          clear hS; go_simp
          rfl
        intro a' ha'
        simp only [Act.put, List.setIfInBounds_toArray, List.set_cons_zero, List.set_cons_succ] at ha'
        subst ha'
        refine AnyS.next (i := 3) (d := some 15) (v := .int .u8 (bt B k)) rfl rfl (by kernel_rfl) (by kernel_rfl) (by kernel_rfl) (StepsIf.yield (by kernel_rfl) (fun w' hS => by clear hS; go_simp)) ?_
        intro a' ha'
        simp only [Act.put, List.setIfInBounds_toArray, List.set_cons_zero, List.set_cons_succ] at ha'
        subst ha'
        refine AnyS.next (i := 4) (d := some 16) (v := .bool false) rfl rfl (by kernel_rfl) (by kernel_rfl) (by kernel_rfl) (StepsIf.call (by kernel_rfl) (fun w' hS => by clear hS; go_simp) (fun w' hS => (HH.out w').mono fun e w'' h => ⟨h.1, STh.keep hS h.2⟩)) ?_
        intro a' ha'
        simp only [Act.put, List.setIfInBounds_toArray, List.set_cons_zero, List.set_cons_succ] at ha'
        subst ha'
        refine AnyS.done (by kernel_rfl) (fun w' hS => ?_) _
        go_wp2_with fail
        go_roundw
        case rel => exact ⟨k + 1, by omega, by simp, by rw [HA.out], hS⟩
        case measure => simp [intOf]; omega
      | true =>
        have HA := Lib.hid (acc_yes s B k hc)
        rw [hc] at hh
        have HH := Lib.hid hh
        have hadd : ∀ w, (Op.stringOp .add (acc s B k) (B.extract k (k + 1))).run Tryz.prog w = .ok (.string (acc s B k ++ B.extract k (k + 1))) w := fun w => run_string_add_sum w _ _ (by rw [ByteArray.size_extract]; omega)
        clear hh hc
        generalize acc s B k = t at *
        go_upto_region 5 with fail
        refine region_steps (S := STh w s) (by kernel_rfl) (STh.drewS hS) ?_
        clear hS
        simp only [List.size_toArray, List.length_cons, List.length_nil, Nat.reduceAdd, Array.replicate_succ, Array.replicate_zero, List.push_toArray, List.nil_append, List.cons_append]
        refine AnyS.next (i := 0) (d := some 12) (v := setV s) rfl rfl (by kernel_rfl) (by kernel_rfl) (by kernel_rfl) (StepsIf.yield (by kernel_rfl) (fun w' hS => by obtain ⟨⟨c0, c1, c2, c3⟩, _⟩ := hS.1.cells4; clear hS; go_simp)) ?_
        intro a' ha'
        simp only [Act.put, List.setIfInBounds_toArray, List.set_cons_zero, List.set_cons_succ] at ha'
        subst ha'
        refine AnyS.stepE (i := 1) (d := some 13) rfl rfl (by kernel_rfl) (by kernel_rfl) (by kernel_rfl) ?_
        apply Exists.intro
        apply And.intro
        · apply StepsIf.yield
          · kernel_rfl
          intro w' hS
          clear hS; go_simp
          rfl
        intro a' ha'
        simp only [Act.put, List.setIfInBounds_toArray, List.set_cons_zero, List.set_cons_succ] at ha'
        subst ha'
        refine AnyS.stepE (i := 2) (d := some 14) rfl rfl (by kernel_rfl) (by kernel_rfl) (by kernel_rfl) ?_
        apply Exists.intro
        apply And.intro
        · apply StepsIf.yield
          · kernel_rfl
          intro w' hS
          clear hS; go_simp
          rfl
        intro a' ha'
        simp only [Act.put, List.setIfInBounds_toArray, List.set_cons_zero, List.set_cons_succ] at ha'
        subst ha'
        refine AnyS.next (i := 3) (d := some 15) (v := .int .u8 (bt B k)) rfl rfl (by kernel_rfl) (by kernel_rfl) (by kernel_rfl) (StepsIf.yield (by kernel_rfl) (fun w' hS => by clear hS; go_simp)) ?_
        intro a' ha'
        simp only [Act.put, List.setIfInBounds_toArray, List.set_cons_zero, List.set_cons_succ] at ha'
        subst ha'
        refine AnyS.next (i := 4) (d := some 16) (v := .bool true) rfl rfl (by kernel_rfl) (by kernel_rfl) (by kernel_rfl) (StepsIf.call (by kernel_rfl) (fun w' hS => by clear hS; go_simp) (fun w' hS => (HH.out w').mono fun e w'' h => ⟨h.1, STh.keep hS h.2⟩)) ?_
        intro a' ha'
        simp only [Act.put, List.setIfInBounds_toArray, List.set_cons_zero, List.set_cons_succ] at ha'
        subst ha'
        refine AnyS.done (by kernel_rfl) (fun w' hS => ?_) _
        go_wp2_with fail
        go_roundw
        case rel => exact ⟨k + 1, by omega, by simp, by rw [HA.out], hS⟩
        case measure => simp [intOf]; omega
    · obtain rfl : k = B.size := by omega
      have hB := hS.2
      clear hS
      go_wp2_with fail
      go_ret
      exact ⟨rfl, hB⟩

theorem acc_one (s : BitVec 256) (a : Nat) (ha : a < 256) : acc s (ofT [a]) 1 = ofT (iT (s.getLsbD a) a) := by
  have hb : bt (ofT [a]) 0 = a := bt_ofT [a] (by simpa using ha) 0 (by simp)
  have he : (ofT [a]).extract 0 1 = ofT [a] := by apply ByteArray.ext; simp [ofT]
  rw [acc, hb, acc, eT_app]
  unfold iT
  split
  · rw [he]
  · rfl
theorem acc_two (s : BitVec 256) (a b : Nat) (ha : a < 256) (hb : b < 256) : acc s (ofT [a, b]) 2 = ofT (iT (s.getLsbD a) a ++ iT (s.getLsbD b) b) := by
  have hL : ∀ x ∈ [a, b], x < 256 := by simp; omega
  have h0 : bt (ofT [a, b]) 0 = a := bt_ofT [a, b] hL 0 (by simp)
  have h1 : bt (ofT [a, b]) 1 = b := bt_ofT [a, b] hL 1 (by simp)
  have e0 : (ofT [a, b]).extract 0 1 = ofT [a] := by apply ByteArray.ext; simp [ofT]
  have e1 : (ofT [a, b]).extract 1 2 = ofT [b] := by apply ByteArray.ext; simp [ofT]
  rw [acc, acc, h0, h1, acc, eT_app]
  unfold iT
  rw [← ofT_append]
  by_cases g0 : s.getLsbD a = true <;> by_cases g1 : s.getLsbD b = true <;> simp only [g0, g1, if_true, if_false, Bool.false_eq_true, e0, e1]
  · apply ByteArray.ext; simp [ofT]
  · rfl
  · rfl
end Go.Proofs.YtpaecjjelpjopaaGreatDoor

/- Texts put together: Dx Dy Ry Rz Gz Dz. -/
import Derived.Test.YtkkhibamkdgffaaDoorGx
import Derived.Test.YtkkhibamkdgffaaDoorDp
import Derived.Test.YtkkhibamkdgffaaDoorCt
import Derived.Test.YtkkhibamkdgffaaDoorRs
import Derived.Laws.BytesArg
import Derived.Laws.Concat
import Derived.Deep.DeepCutAuto
import Derived.IntWalk
import Derived.Lib.Hide
import Derived.Test.YtkkhibamkdgffaaDoorGy
import Derived.Test.YtkkhibamkdgffaaDoorRv
import Derived.Deep.CutBlock
import Derived.Test.YtkkhibamkdgffaaDoorBk
import Derived.Lib.SlBytesConst
import Derived.Test.YtkkhibamkdgffaaDoorRd
import Derived.Test.YtkkhibamkdgffaaDoorDl
/- The developers' brackets: run, those. -/
namespace Go.Proofs.YtkkhibamkdgffaaDoor
open Go.RowKit Go.Shelf BS

theorem numsT (L : List Nat) : strOfNums (L.map (fun n : Nat => (n : Int))) = ofT L := by
  unfold strOfNums ofT
  rw [List.map_map]
  rfl
theorem cvL (W : World) (t : TypeId) (L : List Nat) (C : Array Value) (hC : ∀ i (h : i < L.length), C[i]? = some (.int .u8 (L[i] : Int))) (m : Nat × Nat) : (convert 40 9 (.slice (some ⟨W.heap.size, 0, none⟩) L.length L.length)).run Tryd.prog (W.alloc (.cells C t m)) = .ok (.string (ofT L)) (W.alloc (.cells C t m)) := by
  rw [← numsT L]
  refine run_convert_bytes_arg (P := Tryd.prog) (W.alloc (.cells C t m)) 40 5 Tryd.underlying40 Tryd.underlying5 W.heap.size 0 L.length L.length _ (by simp) (fun i hi => ?_) 9 Tryd.underlying9
  rw [Nat.zero_add, World.cell?_alloc_mark]
  rw [hC i hi]
  simp [List.getD_eq_getElem?_getD, List.getElem?_map, List.getElem?_eq_getElem hi]
theorem cv1 (W : World) (t : TypeId) (a : Nat) : (convert 40 9 (.slice (some ⟨W.heap.size, 0, none⟩) 1 1)).run Tryd.prog (W.alloc (.cells #[.int .u8 a] t)) = .ok (.string (ofT [a])) (W.alloc (.cells #[.int .u8 a] t)) := cvL W t [a] _ (fun i h => by
    have h2 : i < 1 := h
    rcases (by omega : i = 0) with rfl
    rfl) (0, 0)
theorem cv2 (W : World) (t : TypeId) (a b : Nat) : (convert 40 9 (.slice (some ⟨W.heap.size, 0, none⟩) 2 2)).run Tryd.prog (W.alloc (.cells #[.int .u8 a, .int .u8 b] t)) = .ok (.string (ofT [a, b])) (W.alloc (.cells #[.int .u8 a, .int .u8 b] t)) := cvL W t [a, b] _ (fun i h => by
    have h2 : i < 2 := h
    rcases (by omega : i = 0 ∨ i = 1) with rfl | rfl <;> rfl) (0, 0)
theorem cv3 (W : World) (t : TypeId) (a b c : Nat) : (convert 40 9 (.slice (some ⟨W.heap.size, 0, none⟩) 3 3)).run Tryd.prog (W.alloc (.cells #[.int .u8 a, .int .u8 b, .int .u8 c] t)) = .ok (.string (ofT [a, b, c])) (W.alloc (.cells #[.int .u8 a, .int .u8 b, .int .u8 c] t)) := cvL W t [a, b, c] _ (fun i h => by
    have h2 : i < 3 := h
    rcases (by omega : i = 0 ∨ i = 1 ∨ i = 2) with rfl | rfl | rfl <;> rfl) (0, 0)

set_option maxRecDepth 100000 in
set_option maxHeartbeats 2000000 in
theorem run_calls (lo hi : Nat) (hl : lo ≤ hi) (hh : hi < 256) (w : World) : Calls Tryd.prog 13 #[.int .u8 lo, .int .u8 hi] w fun e w' => e = .returned (.string (ofT (runT (lo, hi)))) ∧ Below w.heap.size w w' := by
  by_cases h0 : hi = lo
  · have hr : runT (lo, hi) = [lo] := by unfold runT; rw [if_neg (by simp only; omega), if_neg (by simp only; omega)]; rfl
    have q : ((hi : Int) - (lo : Int) == 0) = true := by rw [beq_iff_eq]; omega
    have hcv : ∀ W : World, (convert 40 9 (.slice (some ⟨W.heap.size, 0, none⟩) 1 1)).run Tryd.prog (W.alloc (.cells #[.int .u8 lo] 5)) = .ok (.string (ofT [lo])) (W.alloc (.cells #[.int .u8 lo] 5)) := fun W => cv1 W _ lo
    rw [hr]
    clear hr h0
    go_enter Tryd.func13, Tryd.ntmps13
    go_wp2_with fail
    go_ret
    exact ⟨rfl, by go_grown⟩
  have q : ((hi : Int) - (lo : Int) == 0) = false := by rw [beq_eq_false_iff_ne]; omega
  by_cases h1 : hi = lo + 1
  · have hr : runT (lo, hi) = [lo, hi] := by unfold runT; rw [if_neg (by simp only; omega), if_pos (by simp only; omega)]; rfl
    have q1 : ((hi : Int) - (lo : Int) == 1) = true := by rw [beq_iff_eq]; omega
    have hcv : ∀ W : World, (convert 40 9 (.slice (some ⟨W.heap.size, 0, none⟩) 2 2)).run Tryd.prog (W.alloc (.cells #[.int .u8 lo, .int .u8 hi] 5)) = .ok (.string (ofT [lo, hi])) (W.alloc (.cells #[.int .u8 lo, .int .u8 hi] 5)) := fun W => cv2 W _ lo hi
    rw [hr]
    clear hr h0 h1
    go_enter Tryd.func13, Tryd.ntmps13
    go_wp2_with fail
    go_ret
    exact ⟨rfl, by go_grown⟩
  have q1 : ((hi : Int) - (lo : Int) == 1) = false := by rw [beq_eq_false_iff_ne]; omega
  have hr : runT (lo, hi) = [lo, 45, hi] := by unfold runT; rw [if_pos (by simp only; omega), if_pos (by simp only; omega)]; rfl
  have hcv : ∀ W : World, (convert 40 9 (.slice (some ⟨W.heap.size, 0, none⟩) 3 3)).run Tryd.prog (W.alloc (.cells #[.int .u8 lo, .int .u8 45, .int .u8 hi] 5)) = .ok (.string (ofT [lo, 45, hi])) (W.alloc (.cells #[.int .u8 lo, .int .u8 45, .int .u8 hi] 5)) := fun W => cv3 W _ lo 45 hi
  rw [hr]
  clear hr h0 h1
  go_enter Tryd.func13, Tryd.ntmps13
  go_wp2_with fail
  go_ret
  exact ⟨rfl, by go_grown⟩

/-- The bytes of B that are in s, up to k. -/
def acc (s : BitVec 256) (B : ByteArray) : Nat → ByteArray
  | 0 => eT
  | k + 1 => if s.getLsbD (bt B k) = true then acc s B k ++ B.extract k (k + 1) else acc s B k
theorem acc_size (s : BitVec 256) (B : ByteArray) : ∀ k, (acc s B k).size ≤ k
  | 0 => Nat.le_refl _
  | k + 1 => by
    have h := acc_size s B k
    rw [acc]
    split
    · rw [ByteArray.size_append, ByteArray.size_extract]; omega
    · omega
theorem acc_yes (s : BitVec 256) (B : ByteArray) (k : Nat) (h : s.getLsbD (bt B k) = true) : acc s B (k + 1) = acc s B k ++ B.extract k (k + 1) := by rw [acc, if_pos h]
theorem acc_no (s : BitVec 256) (B : ByteArray) (k : Nat) (h : s.getLsbD (bt B k) = false) : acc s B (k + 1) = acc s B k := by rw [acc, if_neg (by rw [h]; decide)]
def STh (w : World) (s : BitVec 256) (W : World) : Prop := Blk W w.heap.size (setA s) 24 ∧ Below w.heap.size w W
theorem STh.keep {w W W' : World} {s : BitVec 256} (h : STh w s W) (hb : Below W.heap.size W W') : STh w s W' := ⟨h.1.below hb h.1.lt, h.2.trans (hb.mono h.2.size)⟩
theorem STh.drewS {w W : World} {s : BitVec 256} (h : STh w s W) : STh w s W.drew := ⟨h.1, h.2.drew⟩

set_option maxRecDepth 100000 in
set_option maxHeartbeats 4000000 in
theorem those_calls (s : BitVec 256) (B : ByteArray) (hB : B.size ≤ 60000) (w : World) : Calls Tryd.prog 10 #[setV s, .string B] w fun e w' => e = .returned (.string (acc s B B.size)) ∧ Below w.heap.size w w' := by
  have h0 : STh w s (w.alloc (.cells (setA s) 24)) := ⟨Blk.new w _ _, by go_grown⟩
  go_enter Tryd.func10, Tryd.ntmps10
  go_wp2_with fail
  have e0 : w.alloc (.cells #[.int .u64 (wd s 0), .int .u64 (wd s 1), .int .u64 (wd s 2), .int .u64 (wd s 3)] 24) = w.alloc (.cells (setA s) 24) := rfl
  rw [e0]
  clear e0
  generalize w.alloc (.cells (setA s) 24) = w1 at *
  go_loopw [5, 9] (fun t v wr => ∃ k : Nat, k ≤ B.size ∧ v = .int .i64 k ∧ t = .string (acc s B k) ∧ STh w s wr) (fun _ v _ => B.size - (intOf v).toNat)
  case atStart => exact ⟨0, Nat.zero_le _, rfl, rfl, h0⟩
  case round =>
    clear h0
    obtain ⟨k, hk, rfl, rfl, hS⟩ := hrel
    by_cases hkl : k < B.size
    · have b0 : B[k].toNat = bt B k := (bt_eq B k hkl).symm
      have hlb := bt_lt B k
      have hz := acc_size s B k
      have hh := fun w' => has_calls s (bt B k) w' (by omega) (by omega)
      rw [show ((bt B k : Int)).toNat = bt B k from rfl] at hh
      cases hc : s.getLsbD (bt B k) with
      | false =>
        have HA := Lib.hid (acc_no s B k hc)
        rw [hc] at hh
        have HH := Lib.hid hh
        clear hh hc
        generalize acc s B k = t at *
        go_upto_region 5 with fail
        refine region_steps (S := STh w s) (by kernel_rfl) (STh.drewS hS) ?_
        clear hS
        simp only [List.size_toArray, List.length_cons, List.length_nil, Nat.reduceAdd, Array.replicate_succ, Array.replicate_zero, List.push_toArray, List.nil_append, List.cons_append]
        refine AnyS.next (i := 0) (d := some 12) (v := setV s) rfl rfl (by kernel_rfl) (by kernel_rfl) (by kernel_rfl) (StepsIf.yield (by kernel_rfl) (fun w' hS => by obtain ⟨⟨c0, c1, c2, c3⟩, _⟩ := hS.1.cells4; clear hS; go_simp)) ?_
        intro a' ha'
        simp only [Act.put, List.setIfInBounds_toArray, List.set_cons_zero, List.set_cons_succ] at ha'
        subst ha'
        refine AnyS.stepE (i := 1) (d := some 13) rfl rfl (by kernel_rfl) (by kernel_rfl) (by kernel_rfl) ?_
        apply Exists.intro
        apply And.intro
        · apply StepsIf.yield
          · kernel_rfl
          intro w' hS
          clear hS; go_simp
          rfl
        intro a' ha'
        simp only [Act.put, List.setIfInBounds_toArray, List.set_cons_zero, List.set_cons_succ] at ha'
        subst ha'
        refine AnyS.stepE (i := 2) (d := some 14) rfl rfl (by kernel_rfl) (by kernel_rfl) (by kernel_rfl) ?_
        apply Exists.intro
        apply And.intro
        · apply StepsIf.yield
          · kernel_rfl
          intro w' hS
          clear hS; go_simp
          rfl
        intro a' ha'
        simp only [Act.put, List.setIfInBounds_toArray, List.set_cons_zero, List.set_cons_succ] at ha'
        subst ha'
        refine AnyS.next (i := 3) (d := some 15) (v := .int .u8 (bt B k)) rfl rfl (by kernel_rfl) (by kernel_rfl) (by kernel_rfl) (StepsIf.yield (by kernel_rfl) (fun w' hS => by clear hS; go_simp)) ?_
        intro a' ha'
        simp only [Act.put, List.setIfInBounds_toArray, List.set_cons_zero, List.set_cons_succ] at ha'
        subst ha'
        refine AnyS.next (i := 4) (d := some 16) (v := .bool false) rfl rfl (by kernel_rfl) (by kernel_rfl) (by kernel_rfl) (StepsIf.call (by kernel_rfl) (fun w' hS => by clear hS; go_simp) (fun w' hS => (HH.out w').mono fun e w'' h => ⟨h.1, STh.keep hS h.2⟩)) ?_
        intro a' ha'
        simp only [Act.put, List.setIfInBounds_toArray, List.set_cons_zero, List.set_cons_succ] at ha'
        subst ha'
        refine AnyS.done (by kernel_rfl) (fun w' hS => ?_) _
        go_wp2_with fail
        go_roundw
        case rel => exact ⟨k + 1, by omega, by simp, by rw [HA.out], hS⟩
        case measure => simp [intOf]; omega
      | true =>
        have HA := Lib.hid (acc_yes s B k hc)
        rw [hc] at hh
        have HH := Lib.hid hh
        have hadd : ∀ w, (Op.stringOp .add (acc s B k) (B.extract k (k + 1))).run Tryd.prog w = .ok (.string (acc s B k ++ B.extract k (k + 1))) w := fun w => run_string_add_sum w _ _ (by rw [ByteArray.size_extract]; omega)
        clear hh hc
        generalize acc s B k = t at *
        go_upto_region 5 with fail
        refine region_steps (S := STh w s) (by kernel_rfl) (STh.drewS hS) ?_
        clear hS
        simp only [List.size_toArray, List.length_cons, List.length_nil, Nat.reduceAdd, Array.replicate_succ, Array.replicate_zero, List.push_toArray, List.nil_append, List.cons_append]
        refine AnyS.next (i := 0) (d := some 12) (v := setV s) rfl rfl (by kernel_rfl) (by kernel_rfl) (by kernel_rfl) (StepsIf.yield (by kernel_rfl) (fun w' hS => by obtain ⟨⟨c0, c1, c2, c3⟩, _⟩ := hS.1.cells4; clear hS; go_simp)) ?_
        intro a' ha'
        simp only [Act.put, List.setIfInBounds_toArray, List.set_cons_zero, List.set_cons_succ] at ha'
        subst ha'
        refine AnyS.stepE (i := 1) (d := some 13) rfl rfl (by kernel_rfl) (by kernel_rfl) (by kernel_rfl) ?_
        apply Exists.intro
        apply And.intro
        · apply StepsIf.yield
          · kernel_rfl
          intro w' hS
          clear hS; go_simp
          rfl
        intro a' ha'
        simp only [Act.put, List.setIfInBounds_toArray, List.set_cons_zero, List.set_cons_succ] at ha'
        subst ha'
        refine AnyS.stepE (i := 2) (d := some 14) rfl rfl (by kernel_rfl) (by kernel_rfl) (by kernel_rfl) ?_
        apply Exists.intro
        apply And.intro
        · apply StepsIf.yield
          · kernel_rfl
          intro w' hS
          clear hS; go_simp
          rfl
        intro a' ha'
        simp only [Act.put, List.setIfInBounds_toArray, List.set_cons_zero, List.set_cons_succ] at ha'
        subst ha'
        refine AnyS.next (i := 3) (d := some 15) (v := .int .u8 (bt B k)) rfl rfl (by kernel_rfl) (by kernel_rfl) (by kernel_rfl) (StepsIf.yield (by kernel_rfl) (fun w' hS => by clear hS; go_simp)) ?_
        intro a' ha'
        simp only [Act.put, List.setIfInBounds_toArray, List.set_cons_zero, List.set_cons_succ] at ha'
        subst ha'
        refine AnyS.next (i := 4) (d := some 16) (v := .bool true) rfl rfl (by kernel_rfl) (by kernel_rfl) (by kernel_rfl) (StepsIf.call (by kernel_rfl) (fun w' hS => by clear hS; go_simp) (fun w' hS => (HH.out w').mono fun e w'' h => ⟨h.1, STh.keep hS h.2⟩)) ?_
        intro a' ha'
        simp only [Act.put, List.setIfInBounds_toArray, List.set_cons_zero, List.set_cons_succ] at ha'
        subst ha'
        refine AnyS.done (by kernel_rfl) (fun w' hS => ?_) _
        go_wp2_with fail
        go_roundw
        case rel => exact ⟨k + 1, by omega, by simp, by rw [HA.out], hS⟩
        case measure => simp [intOf]; omega
    · obtain rfl : k = B.size := by omega
      have hB := hS.2
      clear hS
      go_wp2_with fail
      go_ret
      exact ⟨rfl, hB⟩

theorem eT_app (a : ByteArray) : eT ++ a = a := by
  apply ByteArray.ext; simp [eT]
theorem acc_one (s : BitVec 256) (a : Nat) (ha : a < 256) : acc s (ofT [a]) 1 = ofT (iT (s.getLsbD a) a) := by
  have hb : bt (ofT [a]) 0 = a := bt_ofT [a] (by simpa using ha) 0 (by simp)
  have he : (ofT [a]).extract 0 1 = ofT [a] := by apply ByteArray.ext; simp [ofT]
  rw [acc, hb, acc, eT_app]
  unfold iT
  split
  · rw [he]
  · rfl
theorem acc_two (s : BitVec 256) (a b : Nat) (ha : a < 256) (hb : b < 256) : acc s (ofT [a, b]) 2 = ofT (iT (s.getLsbD a) a ++ iT (s.getLsbD b) b) := by
  have hL : ∀ x ∈ [a, b], x < 256 := by simp; omega
  have h0 : bt (ofT [a, b]) 0 = a := bt_ofT [a, b] hL 0 (by simp)
  have h1 : bt (ofT [a, b]) 1 = b := bt_ofT [a, b] hL 1 (by simp)
  have e0 : (ofT [a, b]).extract 0 1 = ofT [a] := by apply ByteArray.ext; simp [ofT]
  have e1 : (ofT [a, b]).extract 1 2 = ofT [b] := by apply ByteArray.ext; simp [ofT]
  rw [acc, acc, h0, h1, acc, eT_app]
  unfold iT
  rw [← ofT_append]
  by_cases g0 : s.getLsbD a = true <;> by_cases g1 : s.getLsbD b = true <;> simp only [g0, g1, if_true, if_false, Bool.false_eq_true, e0, e1]
  · apply ByteArray.ext; simp [ofT]
  · rfl
  · rfl
end Go.Proofs.YtkkhibamkdgffaaDoor

/- The developers' brackets: Text. -/
namespace Go.Proofs.YtkkhibamkdgffaaDoor
open Go.RowKit Go.Shelf BS

theorem th_c (s : BitVec 256) (L : List Nat) (M : List Nat) (hL : L.length ≤ 2) (h : acc s (ofT L) L.length = ofT M) (w : World) : Calls Tryd.prog 10 #[setV s, .string (ofT L)] w fun e w' => e = .returned (.string (ofT M)) ∧ Below w.heap.size w w' := by
  have h1 := those_calls s (ofT L) (by rw [size_ofT]; omega) w
  rw [size_ofT, h] at h1
  exact h1
theorem th93 (s : BitVec 256) (w : World) : Calls Tryd.prog 10 #[setV s, .string ⟨#[93]⟩] w fun e w' => e = .returned (.string (ofT (iT (s.getLsbD 93) 93))) ∧ Below w.heap.size w w' := th_c s [93] _ (by decide) (acc_one s 93 (by decide)) w
theorem th91 (s : BitVec 256) (w : World) : Calls Tryd.prog 10 #[setV s, .string ⟨#[91]⟩] w fun e w' => e = .returned (.string (ofT (iT (s.getLsbD 91) 91))) ∧ Below w.heap.size w w' := th_c s [91] _ (by decide) (acc_one s 91 (by decide)) w
theorem thA (s : BitVec 256) (w : World) : Calls Tryd.prog 10 #[setV s, .string ⟨#[94, 45]⟩] w fun e w' => e = .returned (.string (ofT (iT (s.getLsbD 94) 94 ++ iT (s.getLsbD 45) 45))) ∧ Below w.heap.size w w' := th_c s [94, 45] _ (by decide) (acc_two s 94 45 (by decide) (by decide)) w
theorem thB (s : BitVec 256) (w : World) : Calls Tryd.prog 10 #[setV s, .string ⟨#[45, 94]⟩] w fun e w' => e = .returned (.string (ofT (iT (s.getLsbD 45) 45 ++ iT (s.getLsbD 94) 94))) ∧ Below w.heap.size w w' := th_c s [45, 94] _ (by decide) (acc_two s 45 94 (by decide) (by decide)) w
theorem addT (L M : List Nat) (h : L.length + M.length ≤ 9223372036854775807) (w : World) : (Op.stringOp .add (ofT L) (ofT M)).run Tryd.prog w = .ok (.string (ofT (L ++ M))) w := by
  rw [← ofT_append]; exact run_string_add_sum w _ _ (by rw [size_ofT, size_ofT]; exact h)
theorem four_dev (w : World) (a : Option Addr) (h : BytesAt w.heap.size w (.slice a 4 4) [93, 91, 94, 45]) : Calls Tryd.prog 7 #[setV 0, .slice a 4 4] w fun e w' => e = .returned (setV fourS) ∧ Below w.heap.size w w' := by
  have := with_calls' 0 a 4 4 [93, 91, 94, 45] (by decide) w h
  rw [four_eq] at this; exact this

theorem toL (L : List Nat) : (ofT L).toList = L.map UInt8.ofNat := by rw [ByteArray.toList_eq]; simp [ofT]
theorem out_nil (s : BitVec 256) (h : outT s = []) : gT (s.getLsbD 94) 94 ||| (gT (s.getLsbD 45) 45 ||| 0) = s := by
  have hp := set_parts s
  unfold outT at h
  obtain ⟨h1, h2⟩ := List.append_eq_nil_iff.1 h
  obtain ⟨h0, h1⟩ := List.append_eq_nil_iff.1 h1
  have m0 := mid_nil s h1
  have e0 : s.getLsbD 93 = false := by cases hb : s.getLsbD 93 with
    | false => rfl
    | true => rw [hb] at h0; simp [iT] at h0
  have e2 : s.getLsbD 91 = false := by cases hb : s.getLsbD 91 with
    | false => rfl
    | true => rw [hb] at h2; simp [iT] at h2
  rw [e0, e2, m0] at hp
  have g0 : gT false 93 = 0 := rfl
  have g1 : gT false 91 = 0 := rfl
  rw [g0, g1, or_zero, or_zero, or_zero] at hp
  exact hp
theorem out_94 (s : BitVec 256) (h : outT s = []) : s = range 94 94 ↔ (s.getLsbD 45 = false ∧ s.getLsbD 94 = true) := by
  constructor
  · rintro rfl; decide +kernel
  · rintro ⟨h1, h2⟩
    have hp := out_nil s h
    rw [h1, h2] at hp
    rw [← hp]; decide +kernel
theorem nil_94 : outT (range 94 94) = [] := by decide +kernel
theorem txt_q3 (s : BitVec 256) (h : outT s ≠ []) : ((ofT (91 :: outT s)).toList == [91]) = false := by
  rw [beq_eq_false_iff_ne]
  intro h1
  have := congrArg List.length h1
  rw [toL] at this
  simp at this
  exact h this
theorem txt_q4 (s : BitVec 256) (h : outT s ≠ []) (M : List Nat) : ((ofT (91 :: outT s ++ M)).toList == [91, 94]) = false := by
  rw [beq_eq_false_iff_ne]
  intro h1
  obtain ⟨c, L, hL, hc⟩ := out_head s h M
  have hcl : c < 256 := by
    cases ho : outT s with
    | nil => exact absurd ho h
    | cons d l =>
      rw [ho, List.cons_append] at hL
      have := List.cons.inj hL
      have hd := out_lt s d (by rw [ho]; exact List.mem_cons_self ..)
      omega
  rw [toL, List.cons_append, hL] at h1
  simp only [List.map_cons, List.cons.injEq] at h1
  have h2 := congrArg UInt8.toNat h1.2.1
  simp at h2
  omega
theorem txt_q5 (y z : Bool) : ((ofT ([91] ++ (iT z 45 ++ iT y 94))).toList == [91, 94]) = (!z && y) := by rw [toL]; cases y <;> cases z <;> decide

/-- A slice of runs. -/
def RunsAt (rs : List (Nat × Nat)) (v : Value) (W : World) : Prop := ∃ a cap, v = .slice a rs.length cap ∧ (rs ≠ [] → ∃ g, a = some ⟨g, 0, none⟩ ∧ RowAt g rs W)
def UX (s : BitVec 256) (n : Nat) : Nat → List Value → Value → Prop
  | 0, _, v => v = setV s
  | 1, _, v => v = setV 0
  | 2, _, v => ∃ a, v = .slice a 4 4
  | 3, _, v => v = setV fourS
  | 4, _, v => v = setV (s &&& ~~~fourS)
  | 5, _, v => ∃ a cap, v = .slice a n cap
  | 6, _, v => v = .int .i64 n
  | _, _, v => v = .int .i64 0
def VX (rs : List (Nat × Nat)) (i : Nat) (v : Value) (W : World) : Prop := match i with
  | 2 => BytesAt W.heap.size W v [93, 91, 94, 45]
  | 5 => RunsAt rs v W
  | _ => True
theorem keepVX (rs : List (Nat × Nat)) : ∀ i v w w', Below w.heap.size w w' → VX rs i v w → VX rs i v w' := by
  intro i v w w' hb h
  unfold VX at *
  split
  · exact BytesAt.step h hb
  · obtain ⟨a, cap, h1, h2⟩ := h
    refine ⟨a, cap, h1, fun hne => ?_⟩
    obtain ⟨g, h3, h4⟩ := h2 hne
    exact ⟨g, h3, h4.below hb⟩
  · trivial
def SX (w : World) (s : BitVec 256) (W : World) : Prop := STh w s W ∧ Tab W ∧ 0 < W.heap.size
theorem SX.keep {w W W' : World} {s : BitVec 256} (h : SX w s W) (hb : Below W.heap.size W W') : SX w s W' := ⟨h.1.keep hb, h.2.1.keep hb h.2.2, Nat.lt_of_lt_of_le h.2.2 hb.size⟩
theorem SX.drewS {w W : World} {s : BitVec 256} (h : SX w s W) : SX w s W.drew := ⟨h.1.drewS, h.2.1, h.2.2⟩

set_option maxRecDepth 100000 in
set_option maxHeartbeats 16000000 in
theorem dText_calls (s : BitVec 256) (w : World) (hT : Tab w) (hgT : 0 < w.heap.size) : Calls Tryd.prog 5 #[setV s] w fun e w' => e = .returned (.string (ofT (textT s))) ∧ Below w.heap.size w w' := by
  have b0 := Blk.new w (setA s) 24
  have hB0 : Below w.heap.size w (w.alloc (.cells (setA s) 24)) := by go_grown
  have hq := eq_zero s
  by_cases h0 : s = 0
  · have q : decide (s = 0) = true := by simpa using h0
    have hres : textT s = [91, 94, 0, 45, 255, 93] := by unfold textT; rw [if_pos h0]
    rw [hres]
    rw [q] at hq
    clear h0 q hres
    obtain ⟨⟨c0, c1, c2, c3⟩, f0, f1, f2, f3⟩ := b0.cells4
    go_enter Tryd.func5, Tryd.ntmps5
    go_wp2_with fail
    exact bodyPost_ret (v := .string (ofT [91, 94, 0, 45, 255, 93])) (by simp [results, Tryd.results5, go_sem]; rfl) rfl ⟨rfl, hB0⟩
  have q : decide (s = 0) = false := by simpa using h0
  rw [q] at hq
  obtain ⟨⟨c0, c1, c2, c3⟩, _⟩ := b0.cells4
  have hs0 : SX w s (w.alloc (.cells (setA s) 24)) := ⟨⟨b0, hB0⟩, hT.keep hB0 hgT, by simp <;> omega⟩
  have HS0 := Lib.hid hs0
  have H0 := Lib.hid h0
  clear b0 hB0 hs0 hT hgT h0 q
  obtain ⟨rs, hrs⟩ : ∃ rs, rsOf (s &&& ~~~fourS) = rs := ⟨_, rfl⟩
  have hrl := rsOf_len (s &&& ~~~fourS)
  have hok := rsOf_ok (s &&& ~~~fourS)
  rw [hrs] at hrl hok
  have HOKR := Lib.hid hok
  have HRS := Lib.hid hrs
  clear hok hrs
  go_enter Tryd.func5, Tryd.ntmps5
  go_wp2_with fail
  have e0 : w.alloc (.cells #[.int .u64 (wd s 0), .int .u64 (wd s 1), .int .u64 (wd s 2), .int .u64 (wd s 3)] 24) = w.alloc (.cells (setA s) 24) := rfl
  rw [e0]
  clear e0
  generalize w.alloc (.cells (setA s) 24) = w1 at *
  refine (th93 s _).mono ?_
  rintro e w2 ⟨rfl, hb⟩
  replace HS0 := Lib.hid (HS0.out.keep hb)
  clear hb c0 c1 c2 c3 hq
  have ha1 := addT [91] (iT (s.getLsbD 93) 93) (by have := iT_len (s.getLsbD 93) 93; rw [show ([91] : List Nat).length = 1 from rfl]; omega)
  rw [show ofT [91] = ⟨#[91]⟩ from rfl] at ha1
  have hl1 := iT_len (s.getLsbD 93) 93
  generalize hi93 : iT (s.getLsbD 93) 93 = i93 at *
  have HI93 := Lib.hid hi93
  clear hi93
  go_upto_region 4 with fail
  clear ha1
  go_cut [3, 18, 19, 20] from 13 to 20 (fun t v n z wx => t = .string (ofT ([91] ++ i93)) ∧ n = .int .i64 rs.length ∧ z = .int .i64 0 ∧ RunsAt rs v wx ∧ SX w s wx)
  case first =>
    refine region_stepsR (S := SX w s) (U := UX s rs.length) (V := VX rs) (by kernel_rfl) (fun _ _ hb hs => hs.keep hb) (keepVX rs) (by kernel_rfl) (SX.drewS HS0.out) ?_
    clear HS0
    simp only [List.size_toArray, List.length_cons, List.length_nil, Nat.reduceAdd, Array.replicate_succ, Array.replicate_zero, List.push_toArray, List.nil_append, List.cons_append]
    refine AnyR.step (i := 0) (d := some 13) rfl rfl (by kernel_rfl) (by kernel_rfl) (by kernel_rfl) (by kernel_rfl) ?_ ?_ ?_
    · exact ⟨_, rfl⟩
    · refine StepsR.yield (setV s) rfl (by kernel_rfl) (fun w' hS hD => ⟨?_, trivial⟩)
      obtain ⟨⟨c0, c1, c2, c3⟩, _⟩ := hS.1.1.cells4; clear hS hD; go_simp
      try (first | rfl | exact ⟨rfl, rfl, rfl, rfl⟩)
    intro v' hv' a' ha'
    have hv' : setV s = v' := Eq.symm hv'
    subst hv'
    simp only [Act.put, List.setIfInBounds_toArray, List.set_cons_zero, List.set_cons_succ] at ha'
    subst ha'
    refine AnyR.step (i := 1) (d := some 14) rfl rfl (by kernel_rfl) (by kernel_rfl) (by kernel_rfl) (by kernel_rfl) ?_ ?_ ?_
    · exact ⟨_, rfl⟩
    · refine StepsR.yield (setV 0) rfl (by kernel_rfl) (fun w' hS hD => ⟨?_, trivial⟩)
      clear hS hD; go_simp
      try (first | rfl | exact ⟨rfl, rfl, rfl, rfl⟩)
    intro v' hv' a' ha'
    have hv' : setV 0 = v' := Eq.symm hv'
    subst hv'
    simp only [Act.put, List.setIfInBounds_toArray, List.set_cons_zero, List.set_cons_succ] at ha'
    subst ha'
    refine AnyR.step (i := 2) (d := some 15) rfl rfl (by kernel_rfl) (by kernel_rfl) (by kernel_rfl) (by kernel_rfl) ?_ ?_ ?_
    · exact ⟨_, none, rfl⟩
    · refine StepsR.made (by kernel_rfl) (fun w' hS hD => ?_)
      clear hS hD
      refine ⟨.slice (some ⟨w'.heap.size, 0, none⟩) 4 4, w'.alloc (.cells (byW [93, 91, 94, 45]) 5), ?_, ⟨_, rfl⟩, bytes_new w' _ [93, 91, 94, 45], by go_grown⟩
      go_simp
      try rfl
    rintro v' ⟨a2, rfl⟩ a' ha'
    simp only [Act.put, List.setIfInBounds_toArray, List.set_cons_zero, List.set_cons_succ] at ha'
    subst ha'
    refine AnyR.step (i := 3) (d := some 16) rfl rfl (by kernel_rfl) (by kernel_rfl) (by kernel_rfl) (by kernel_rfl) ?_ ?_ ?_
    · exact ⟨_, rfl⟩
    · refine StepsR.call (by kernel_rfl) (fun w' hS => by clear hS; go_simp) (fun w' hS hD => (four_dev w' a2 (hD.get (k := 2) (by kernel_rfl) rfl rfl)).mono ?_)
      rintro e w'' ⟨rfl, hb⟩
      exact ⟨_, rfl, rfl, trivial, hb⟩
    intro v' hv' a' ha'
    have hv' : setV fourS = v' := Eq.symm hv'
    subst hv'
    simp only [Act.put, List.setIfInBounds_toArray, List.set_cons_zero, List.set_cons_succ] at ha'
    subst ha'
    refine AnyR.step (i := 4) (d := some 17) rfl rfl (by kernel_rfl) (by kernel_rfl) (by kernel_rfl) (by kernel_rfl) ?_ ?_ ?_
    · exact ⟨_, rfl⟩
    · refine StepsR.call (by kernel_rfl) (fun w' hS => by clear hS; go_simp) (fun w' hS hD => (less_calls s fourS w').mono ?_)
      rintro e w'' ⟨rfl, hb⟩
      exact ⟨_, rfl, rfl, trivial, hb⟩
    intro v' hv' a' ha'
    have hv' : setV (s &&& ~~~fourS) = v' := Eq.symm hv'
    subst hv'
    simp only [Act.put, List.setIfInBounds_toArray, List.set_cons_zero, List.set_cons_succ] at ha'
    subst ha'
    refine AnyR.step (i := 5) (d := some 18) rfl rfl (by kernel_rfl) (by kernel_rfl) (by kernel_rfl) (by kernel_rfl) ?_ ?_ ?_
    · exact ⟨_, none, 0, rfl⟩
    · refine StepsR.call (by kernel_rfl) (fun w' hS => by clear hS; go_simp) (fun w' hS hD => (runs_calls (s &&& ~~~fourS) w' hS.2.1 hS.2.2).mono ?_)
      rintro e w'' ⟨v, rfl, hr, hb⟩
      have hr' := row_of_owns (rs := rsOf (s &&& ~~~fourS)) hr
      rw [HRS.out] at hr'
      obtain ⟨a, cap, rfl, h⟩ := hr'
      refine ⟨_, rfl, ⟨a, cap, rfl⟩, ⟨a, cap, rfl, fun hne => ?_⟩, hb⟩
      obtain ⟨g, h1, _, h2⟩ := h hne
      exact ⟨g, h1, h2⟩
    rintro v' ⟨a5, cap5, rfl⟩ a' ha'
    simp only [Act.put, List.setIfInBounds_toArray, List.set_cons_zero, List.set_cons_succ] at ha'
    subst ha'
    refine AnyR.step (i := 6) (d := some 19) rfl rfl (by kernel_rfl) (by kernel_rfl) (by kernel_rfl) (by kernel_rfl) ?_ ?_ ?_
    · exact ⟨_, rfl⟩
    · refine StepsR.yield (.int .i64 rs.length) rfl (by kernel_rfl) (fun w' hS hD => ⟨?_, trivial⟩)
      clear hS hD; go_simp
      try (first | rfl | exact ⟨rfl, rfl, rfl, rfl⟩)
    intro v' hv' a' ha'
    have hv' : .int .i64 rs.length = v' := Eq.symm hv'
    subst hv'
    simp only [Act.put, List.setIfInBounds_toArray, List.set_cons_zero, List.set_cons_succ] at ha'
    subst ha'
    refine AnyR.step (i := 7) (d := some 20) rfl rfl (by kernel_rfl) (by kernel_rfl) (by kernel_rfl) (by kernel_rfl) ?_ ?_ ?_
    · exact ⟨_, rfl⟩
    · refine StepsR.yield (.int .i64 0) rfl (by kernel_rfl) (fun w' hS hD => ⟨?_, trivial⟩)
      clear hS hD; go_simp
      try (first | rfl | exact ⟨rfl, rfl, rfl, rfl⟩)
    intro v' hv' a' ha'
    have hv' : .int .i64 0 = v' := Eq.symm hv'
    subst hv'
    simp only [Act.put, List.setIfInBounds_toArray, List.set_cons_zero, List.set_cons_succ] at ha'
    subst ha'
    refine AnyR.done (by kernel_rfl) (fun w' hS hF => ?_) _
    have h5 : RunsAt rs (.slice a5 rs.length cap5) w' := hF 5 _ 18 (by kernel_rfl) rfl rfl
    clear hF
    go_wp2_with fail
    go_meet
    exact ⟨rfl, rfl, rfl, h5, hS⟩
  case rest =>
  obtain ⟨rfl, rfl, rfl, ⟨a5, cap5, rfl, h5⟩, hS⟩ := hcut
  clear HS0
  have H5 := Lib.hid h5
  have HS1 := Lib.hid hS.1
  clear h5 hS
  generalize hX : [91] ++ i93 = X at *
  have hXl : X.length ≤ 2 := by rw [← hX]; simp; omega
  have HX := Lib.hid hX
  clear hX
  go_upto_block 0 with fail
  go_cut [3] from 21 to 31 (fun t wx => t = .string (ofT (X ++ rs.flatMap runT)) ∧ STh w s wx)
  case first =>
    go_wp2_with fail
    go_loopw [3, 20] (fun t v wr => ∃ k : Nat, k ≤ rs.length ∧ v = .int .i64 k ∧ t = .string (ofT (X ++ (rs.take k).flatMap runT)) ∧ STh w s wr ∧ (rs ≠ [] → ∃ g, a5 = some ⟨g, 0, none⟩ ∧ RowAt g rs wr)) (fun _ v _ => rs.length - (intOf v).toNat)
    case atStart => exact ⟨0, Nat.zero_le _, rfl, by simp, HS1.out, H5.out⟩
    case round =>
      clear HS1 H5
      obtain ⟨k, hk, rfl, rfl, hS, h5⟩ := hrel
      by_cases hkl : k < rs.length
      · have hne : rs ≠ [] := fun h => by rw [h] at hkl; simp at hkl
        obtain ⟨g, rfl, hrow⟩ := h5 hne
        obtain ⟨r0, r1⟩ := hrow.2 k hkl
        obtain ⟨o1, o2⟩ := HOKR.out k hkl
        have hts : rs.take (k + 1) = rs.take k ++ [rs[k]] := by rw [List.take_succ_eq_append_getElem hkl]
        have hTX : X ++ (rs.take (k + 1)).flatMap runT = (X ++ (rs.take k).flatMap runT) ++ runT rs[k] := by rw [hts, List.flatMap_append, List.flatMap_singleton, List.append_assoc]
        have hlen : (X ++ (rs.take k).flatMap runT).length ≤ 2 + 3 * 256 := by
          have h1 := runs_txt_len (rs.take k)
          have h2 : (rs.take k).length ≤ 256 := by rw [List.length_take]; omega
          rw [List.length_append]; omega
        have hlr : (runT rs[k]).length ≤ 3 := by unfold runT; split <;> split <;> simp
        have hadd := addT _ _ (show (X ++ (rs.take k).flatMap runT).length + (runT rs[k]).length ≤ 9223372036854775807 by omega)
        rw [← hTX] at hadd
        have HTX := Lib.hid hTX
        generalize X ++ (rs.take k).flatMap runT = T0 at hadd
        clear hts hTX hlen hlr
        generalize hT1 : X ++ (rs.take (k + 1)).flatMap runT = T1 at hadd
        have HT1 := Lib.hid hT1
        clear hT1
        have hpr : (rs[k].1, rs[k].2) = rs[k] := rfl
        rw [← hpr] at hadd
        clear hpr
        generalize rs[k].1 = lo at *
        generalize rs[k].2 = hi at *
        have HRUN := Lib.hid (run_calls lo hi o1 o2)
        have HADD := Lib.hid hadd
        have HST := Lib.hid (hS.1.alloc (.cells #[.int .u8 lo, .int .u8 hi] 37))
        have HB := Lib.hid (hS.2.alloc hS.2.size (.cells #[.int .u8 lo, .int .u8 hi] 37))
        have hrow' : RowAt g rs (wr.alloc (.cells #[.int .u8 lo, .int .u8 hi] 37)) := hrow.below (by go_grown)
        have HROW := Lib.hid hrow'
        have hz := hS.2.size
        clear hrow hrow' hS h5 hadd
        have hgk : (g : Nat) = g := rfl
        clear hgk
        go_wp2_with fail
        refine (HRUN.out _).mono ?_
        rintro e w3 ⟨rfl, hb⟩
        have hz2 := hb.size
        rw [World.size_alloc] at hz2
        replace HST := Lib.hid (HST.out.below hb (by simp; omega))
        replace HB := Lib.hid (HB.out.trans (hb.mono (by simp; omega)))
        replace HROW := Lib.hid (HROW.out.below hb)
        clear hb
        have hadd := HADD.out
        clear r0 r1
        go_wp2_with fail
        go_roundw
        case rel => exact ⟨k + 1, by omega, by simp, by rw [HT1.out], ⟨HST.out, HB.out⟩, fun _ => ⟨g, rfl, HROW.out⟩⟩
        case measure => simp [intOf]; omega
      · obtain rfl : k = rs.length := by omega
        rw [List.take_length]
        go_wp2_with fail
        go_meet
        exact ⟨rfl, hS⟩
  case rest =>
  obtain ⟨rfl, hS⟩ := hcut
  clear HS1 H5
  have hfl : (rs.flatMap runT).length ≤ 768 := by have := runs_txt_len rs; omega
  have hO : (X ++ rs.flatMap runT) ++ iT (s.getLsbD 91) 91 = 91 :: outT s := by
    rw [← HX.out, ← HI93.out, ← HRS.out]; unfold outT midT; simp
  have hl91 := iT_len (s.getLsbD 91) 91
  have hl94 := iT_len (s.getLsbD 94) 94
  have hl45 := iT_len (s.getLsbD 45) 45
  have hXf : (X ++ rs.flatMap runT).length ≤ 770 := by rw [List.length_append]; omega
  have hadd := addT (X ++ rs.flatMap runT) (iT (s.getLsbD 91) 91) (by omega)
  rw [hO] at hadd
  have hOl : (outT s).length ≤ 770 := by
    have := congrArg List.length hO
    rw [List.length_append, List.length_cons] at this; omega
  have ht91 := th91 s
  clear hO
  generalize X ++ rs.flatMap runT = T0 at *
  generalize iT (s.getLsbD 91) 91 = i91 at hadd ht91
  have HADD := Lib.hid hadd
  have HT91 := Lib.hid ht91
  have HST := Lib.hid hS.1
  have HB := Lib.hid hS.2
  have hz := hS.2.size
  clear hadd hS HX HI93 HRS HOKR hfl hXf hXl hl91 ht91
  obtain ⟨⟨c0, c1, c2, c3⟩, _⟩ := HST.out.cells4
  go_wp2_with fail
  refine (HT91.out _).mono ?_
  rintro e w3 ⟨rfl, hb⟩
  replace HST := Lib.hid (HST.out.below hb (Blk.lt HST.out))
  replace HB := Lib.hid (HB.out.trans (hb.mono hz))
  have hzx := Nat.le_trans hz hb.size
  clear hz hb c0 c1 c2 c3
  have hz := hzx
  clear hzx
  clear HT91
  have hadd := HADD.out
  by_cases hne : outT s = []
  · rw [hne] at hadd
    have h94 := out_94 s hne
    have hadd2 := addT [91] (iT (s.getLsbD 45) 45 ++ iT (s.getLsbD 94) 94) (by rw [List.length_append, show ([91] : List Nat).length = 1 from rfl]; omega)
    have hadd3 := addT ([91] ++ (iT (s.getLsbD 45) 45 ++ iT (s.getLsbD 94) 94)) [93] (by rw [List.length_append, List.length_append, show ([91] : List Nat).length = 1 from rfl, show ([93] : List Nat).length = 1 from rfl]; omega)
    rw [show ofT [93] = ⟨#[93]⟩ from rfl] at hadd3
    have q5 := txt_q5 (s.getLsbD 94) (s.getLsbD 45)
    have htx : textT s = if s = range 94 94 then [] else [91] ++ (iT (s.getLsbD 45) 45 ++ iT (s.getLsbD 94) 94) ++ [93] := by
      unfold textT; rw [if_neg H0.out, if_pos hne]; simp
    have hthb := thB s
    have q3 : ((ofT [91]).toList == [91]) = true := by rw [toL]; decide
    generalize iT (s.getLsbD 45) 45 ++ iT (s.getLsbD 94) 94 = M at *
    generalize [91] ++ M ++ [93] = T3 at *
    generalize [91] ++ M = T2 at *
    have HTB := Lib.hid hthb
    have HADD2 := Lib.hid hadd2
    have HADD3 := Lib.hid hadd3
    clear hne HADD hadd2 hadd3 hthb hOl hl94 hl45
    by_cases hs : s = range 94 94
    · rw [if_pos hs] at htx
      obtain ⟨h1, h2⟩ := h94.1 hs
      rw [h1, h2] at q5
      have Q5 := Lib.hid q5
      have HTX := Lib.hid htx
      clear q5 htx h1 h2 h94 hs
      obtain ⟨⟨c0, c1, c2, c3⟩, _⟩ := HST.out.cells4
      go_upto_region 11 with fail
      clear hadd
      go_wp2_with fail
      refine (HTB.out _).mono ?_
      rintro e w4 ⟨rfl, hb⟩
      replace HST := Lib.hid (HST.out.below hb (Blk.lt HST.out))
      replace HB := Lib.hid (HB.out.trans (hb.mono hz))
      have hzx := Nat.le_trans hz hb.size
      clear hz hb c0 c1 c2 c3
      have hz := hzx
      clear hzx
      have hadd2 := HADD2.out
      clear HTB q3
      go_upto_region 14 with fail
      clear hadd2
      have q5 : ((ofT T2).toList == [91, 94]) = true := Q5.out
      clear HADD2 HADD3 Q5
      go_wp2_with fail
      go_ret
      exact ⟨by rw [HTX.out]; rfl, HB.out⟩
    · rw [if_neg hs] at htx
      have hq : (!s.getLsbD 45 && s.getLsbD 94) = false := by
        cases h1 : s.getLsbD 45 <;> cases h2 : s.getLsbD 94 <;> first | rfl | exact absurd (h94.2 ⟨h1, h2⟩) hs
      rw [hq] at q5
      have Q5 := Lib.hid q5
      have HTX := Lib.hid htx
      clear q5 htx hq h94 hs
      obtain ⟨⟨c0, c1, c2, c3⟩, _⟩ := HST.out.cells4
      go_upto_region 11 with fail
      clear hadd
      go_wp2_with fail
      refine (HTB.out _).mono ?_
      rintro e w4 ⟨rfl, hb⟩
      replace HST := Lib.hid (HST.out.below hb (Blk.lt HST.out))
      replace HB := Lib.hid (HB.out.trans (hb.mono hz))
      have hzx := Nat.le_trans hz hb.size
      clear hz hb c0 c1 c2 c3
      have hz := hzx
      clear hzx
      have hadd2 := HADD2.out
      clear HTB q3
      go_upto_region 14 with fail
      clear hadd2
      have q5 : ((ofT T2).toList == [91, 94]) = false := Q5.out
      have hadd3 := HADD3.out
      clear HADD2 HADD3 Q5
      go_wp2_with fail
      go_ret
      exact ⟨by rw [HTX.out] <;> rfl, HB.out⟩
  · have q3 := txt_q3 s hne
    have q5 := txt_q4 s hne (iT (s.getLsbD 94) 94 ++ iT (s.getLsbD 45) 45)
    have hadd2 := addT (91 :: outT s) (iT (s.getLsbD 94) 94 ++ iT (s.getLsbD 45) 45) (by rw [List.length_append, List.length_cons]; omega)
    have hadd3 := addT (91 :: outT s ++ (iT (s.getLsbD 94) 94 ++ iT (s.getLsbD 45) 45)) [93] (by rw [List.length_append, List.length_append, List.length_cons, show ([93] : List Nat).length = 1 from rfl]; omega)
    rw [show ofT [93] = ⟨#[93]⟩ from rfl] at hadd3
    have htx : textT s = 91 :: outT s ++ (iT (s.getLsbD 94) 94 ++ iT (s.getLsbD 45) 45) ++ [93] := by
      unfold textT
      rw [if_neg H0.out, if_neg (fun h => hne (by rw [h]; exact nil_94)), if_neg hne]; simp
    have htha := thA s
    generalize iT (s.getLsbD 94) 94 ++ iT (s.getLsbD 45) 45 = M at *
    generalize 91 :: outT s ++ M ++ [93] = T3 at *
    generalize 91 :: outT s ++ M = T2 at *
    generalize 91 :: outT s = T1 at *
    have HTA := Lib.hid htha
    have HADD2 := Lib.hid hadd2
    have HADD3 := Lib.hid hadd3
    have Q5 := Lib.hid q5
    have HTX := Lib.hid htx
    clear hne HADD hadd2 hadd3 htha hOl hl94 hl45 q5 htx
    obtain ⟨⟨c0, c1, c2, c3⟩, _⟩ := HST.out.cells4
    go_upto_region 11 with fail
    clear hadd
    go_wp2_with fail
    refine (HTA.out _).mono ?_
    rintro e w4 ⟨rfl, hb⟩
    replace HST := Lib.hid (HST.out.below hb (Blk.lt HST.out))
    replace HB := Lib.hid (HB.out.trans (hb.mono hz))
    have hzx := Nat.le_trans hz hb.size
    clear hz hb c0 c1 c2 c3
    have hz := hzx
    clear hzx
    have hadd2 := HADD2.out
    clear HTA q3
    go_upto_region 14 with fail
    clear hadd2
    have q5 : ((ofT T2).toList == [91, 94]) = false := Q5.out
    have hadd3 := HADD3.out
    clear HADD2 HADD3 Q5
    go_wp2_with fail
    go_ret
    exact ⟨by rw [HTX.out] <;> rfl, HB.out⟩
end Go.Proofs.YtkkhibamkdgffaaDoor

/- As Rv (AnyR), where what an operation does to the world is told by a relation T of one's own (Rv: it makes memory). Nothing of the program is used. -/
namespace Go.Proofs.YtkkhibamkdgffaaDoor
open Go Go.RowKit

section
variable {P : Program} {ops : Array Oper} {Q : Exit → Act → World → Prop} {md : Region.Mode} {S : World → Prop} {U : Nat → List Value → Value → Prop} {V : Nat → Value → World → Prop} {T : World → World → Prop}

def StepsG (P : Program) (md : Region.Mode) (ops : Array Oper) (S : World → Prop) (U : Nat → List Value → Value → Prop) (V : Nat → Value → World → Prop) (T : World → World → Prop) (i : Nat) (o : Oper) (a : Act) : Prop :=
  (Region.wanted o (yielded ops a.tmps) = true ∧ ∀ w, S w → Deps md ops V o a w →
    ∀ (K : Act → World → Prop) (Q : Exit → Act → World → Prop), (∀ v w', U i (depVals md ops o a) v → V i v w' → T w w' → K (a.put o.dst v) w') → o.wp P a w K Q) ∨
  (Region.wanted o (yielded ops a.tmps) = false ∧ U i (depVals md ops o a) undef ∧ ∀ w, V i undef w)

def AnyG (P : Program) (md : Region.Mode) (ops : Array Oper) (Q : Exit → Act → World → Prop) (S : World → Prop) (U : Nat → List Value → Value → Prop) (V : Nat → Value → World → Prop) (T : World → World → Prop) : Nat → Array Bool → Act → Prop
  | 0, listed, a => Region.ready md ops listed = [] ∧ ∀ w, S w → Facts ops V listed a w → Q .normal a w
  | fuel + 1, listed, a =>
    (Region.ready md ops listed = [] → ∀ w, S w → Facts ops V listed a w → Q .normal a w) ∧
    ∀ i ∈ Region.ready md ops listed, ∃ o, ops[i]? = some o ∧ (∃ v, U i (depVals md ops o a) v) ∧ StepsG P md ops S U V T i o a ∧ ∀ v, U i (depVals md ops o a) v → AnyG P md ops Q S U V T fuel (listed.setIfInBounds i true) (a.put o.dst v)

theorem AnyG.any (hT : ∀ w, T w w) (hS : ∀ w w', T w w' → S w → S w') (hV : ∀ i v w w', T w w' → V i v w → V i v w') :
    ∀ (fuel : Nat) (listed : Array Bool) (a : Act), fitB ops a.tmps.size = true → AnyG P md ops Q S U V T fuel listed a → ∀ w, S w → Facts ops V listed a w → wpAny P md ops Q fuel listed a w
  | 0, _, _, _, h, w, hs, hf => ⟨h.1, h.2 w hs hf⟩
  | fuel + 1, listed, a, hfit, h, w, hs, hf => ⟨fun h0 => h.1 h0 w hs hf, fun i hi => by
    obtain ⟨o, ho, _, hst, hr⟩ := h.2 i hi
    obtain ⟨hun, o', ho', hall⟩ := mem_ready.1 hi
    obtain rfl : o = o' := Option.some.inj (ho.symm.trans ho')
    have key : ∀ v w', U i (depVals md ops o a) v → V i v w' → T w w' → wpAny P md ops Q fuel (listed.setIfInBounds i true) (a.put o.dst v) w' := by
      intro v w' hu hv hb
      refine AnyG.any hT hS hV fuel _ _ (by rw [put_size]; exact hfit) (hr v hu) w' (hS _ _ hb hs) ?_
      intro j oj d hl hj hd
      by_cases hji : j = i
      · subst hji
        obtain rfl : o = oj := Option.some.inj (ho.symm.trans hj)
        rw [hd, put_getD_same _ _ _ (fitB_lt hfit ho hd)]
        exact hv
      · rw [getD_set_ne true (Ne.symm hji)] at hl
        rw [put_getD_ne _ _ _ _ (fun he => fitB_ne hfit hj ho hd he hji rfl)]
        exact hV _ _ _ _ hb (hf j oj d hl hj hd)
    unfold Go.wpOp
    simp only [ho]
    rcases hst with ⟨hw, hst⟩ | ⟨hw, hu, hv⟩
    · simp only [hw, if_true]
      refine .inl (hst w hs (fun e he hb oj d hj hd => hf e.on oj d ?_ hj hd) _ _ key)
      have h1 := hall e he hb
      rcases Nat.lt_or_ge e.on listed.size with h' | h'
      · simp [h'] at h1 ⊢; exact h1
      · simp [Array.getElem?_eq_none h']
    · simp only [hw, Bool.false_eq_true, if_false]
      exact key undef w hu (hv w) (hT w)⟩

/-- What another operation puts elsewhere changes nothing of it. -/
theorem StepsG.moved {i k : Nat} {o ok : Oper} {a : Act} {y : Value} {n : Nat} (hfit : fitB ops n = true) (hi : ops[i]? = some o) (hk : ops[k]? = some ok) (hik : i ≠ k)
    (hs : ∀ cs b, o.op ≠ .select cs b) (h1 : ∀ d, ok.dst = some d → d ∉ o.looksAt ops) (hnot : ∀ e ∈ o.after, Region.binds md e = true → e.on ≠ k) :
    StepsG P md ops S U V T i o a ↔ StepsG P md ops S U V T i o (a.put ok.dst y) := by
  have h2 : ∀ d, o.dst = some d → ok.dst ≠ some d := fun d hd he => fitB_ne hfit hi hk hd he hik rfl
  have hdep : ∀ w, Deps md ops V o (a.put ok.dst y) w ↔ Deps md ops V o a w := by
    intro w
    have he : ∀ e ∈ o.after, Region.binds md e = true → ∀ oj d, ops[e.on]? = some oj → oj.dst = some d → (a.put ok.dst y).tmps.getD d undef = a.tmps.getD d undef := fun e he hb oj d hj hd =>
      put_getD_ne _ _ _ _ fun hx => fitB_ne hfit hj hk hd hx (hnot e he hb) rfl
    constructor
    · intro h e hm hb oj d hj hd; rw [← he e hm hb oj d hj hd]; exact h e hm hb oj d hj hd
    · intro h e hm hb oj d hj hd; rw [he e hm hb oj d hj hd]; exact h e hm hb oj d hj hd
  have hvals : depVals md ops o (a.put ok.dst y) = depVals md ops o a := depVals_put hfit hk hnot
  have hcan : ∀ u v, (a.put o.dst u = a.put o.dst v) ↔ ((a.put ok.dst y).put o.dst u = (a.put ok.dst y).put o.dst v) := by
    intro u v
    constructor
    · intro he; rw [← Act.put_comm a u y h2, ← Act.put_comm a v y h2, he]
    · intro he; exact put_cancel he
  unfold StepsG
  rw [wanted_put o a ok.dst y h1, hvals]
  generalize U i (depVals md ops o a) = U at *
  have conv : ∀ (b b' : Act), (∀ u v, b.put o.dst u = b.put o.dst v → b'.put o.dst u = b'.put o.dst v) → execOp b.eval o = execOp b'.eval o → ∀ w,
      (∀ (K : Act → World → Prop) (Q : Exit → Act → World → Prop), (∀ v w', U v → V i v w' → T w w' → K (b.put o.dst v) w') → o.wp P b w K Q) →
      (∀ (K : Act → World → Prop) (Q : Exit → Act → World → Prop), (∀ v w', U v → V i v w' → T w w' → K (b'.put o.dst v) w') → o.wp P b' w K Q) := by
    intro b b' hc hx w hv K Q hK
    have h0 := hv (fun a' w' => ∃ v, a' = b.put o.dst v ∧ U v ∧ V i v w' ∧ T w w') (fun _ _ _ => False) (fun v w' h1 h2 h3 => ⟨v, rfl, h1, h2, h3⟩)
    unfold Oper.wp at *
    rw [← hx]
    generalize (execOp b.eval o).run P w = r at *
    have key : ∀ u w', (∃ v, b.put o.dst u = b.put o.dst v ∧ U v ∧ V i v w' ∧ T w w') → K (b'.put o.dst u) w' := fun u w' ⟨v, he, h1, h2, h3⟩ => by
      rw [hc u v he]; exact hK v w' h1 h2 h3
    cases r with
    | ok n w' =>
      cases n <;> simp only [Oper.upon] at h0 ⊢
      case value u => exact key _ _ h0
      case skip => exact key _ _ h0
      case defer d =>
        exfalso
        obtain ⟨v, h0, _⟩ := h0
        have := congrArg (fun b : Act => b.defers.length) h0
        have hp : ∀ (b : Act) (t : Option Tmp) (u : Value), (b.put t u).defers = b.defers := fun b t u => by cases t <;> rfl
        simp [hp] at this
      case enter f args =>
        refine Calls.mono h0 fun e w'' he => ?_
        cases e with
        | returned u => exact key _ _ he
        | panicked c => exact he.elim
        | outgrown => exact he.elim fun _ h => h.elim fun _ h => h.elim
      case row row args => exact Rows.mono h0 fun u w'' he => key _ _ he
    | halt x w' =>
      cases x <;> simp only [Oper.upon] at h0
  have hx := execOp_put o hs a ok.dst y h1
  constructor
  · rintro (⟨hw, h⟩ | h)
    · exact .inl ⟨hw, fun w hS hD => conv a _ (fun u v => (hcan u v).1) hx.symm w (h w hS ((hdep w).1 hD))⟩
    · exact .inr h
  · rintro (⟨hw, h⟩ | h)
    · exact .inl ⟨hw, fun w hS hD => conv _ a (fun u v => (hcan u v).2) hx w (h w hS ((hdep w).2 hD))⟩
    · exact .inr h

theorem AnyG.first {i : Nat} {oi : Oper} (hi : ops[i]? = some oi) (hsel : ∀ (j : Nat) (o : Oper) cs b, ops[j]? = some o → o.op ≠ .select cs b) :
    ∀ (fuel : Nat) (listed : Array Bool) (a : Act), fitB ops a.tmps.size = true →
      (∀ j oj, ops[j]? = some oj → j ≠ i → listed.getD j true = false → (∀ e ∈ oj.after, Region.binds md e = true → e.on ≠ i) → oi.apart ops oj = true) →
      i ∈ Region.ready md ops listed → (∃ v, U i (depVals md ops oi a) v) → StepsG P md ops S U V T i oi a →
      (∀ v, U i (depVals md ops oi a) v → AnyG P md ops Q S U V T fuel (listed.setIfInBounds i true) (a.put oi.dst v)) → AnyG P md ops Q S U V T (fuel + 1) listed a := by
  intro fuel
  induction fuel with
  | zero =>
    intro listed a _ _ hr hU hy H
    refine ⟨fun h => (by rw [h] at hr; cases hr), fun j hj => ?_⟩
    by_cases hji : j = i
    · subst hji; exact ⟨oi, hi, hU, hy, H⟩
    · obtain ⟨v, hv⟩ := hU
      have := ready_mono hj hji
      rw [(H v hv).1] at this
      cases this
  | succ fuel ih =>
    intro listed a hfit hfree hr hU hy H
    refine ⟨fun h => (by rw [h] at hr; cases hr), fun j hj => ?_⟩
    by_cases hji : j = i
    · subst hji; exact ⟨oi, hi, hU, hy, H⟩
    · obtain ⟨v0, hv0⟩ := hU
      obtain ⟨oj, hoj, hUj, hyj, hrest⟩ := (H v0 hv0).2 j (ready_mono hj hji)
      obtain ⟨hjun, oj', hoj', hall⟩ := mem_ready.1 hj
      obtain rfl : oj = oj' := Option.some.inj (hoj.symm.trans hoj')
      have hnl : ∀ k, k ∈ Region.ready md ops listed → ∀ ok, ops[k]? = some ok → ∀ m, m ∈ Region.ready md ops listed → ∀ e ∈ ok.after, Region.binds md e = true → e.on ≠ m := by
        intro k hk ok hok m hm e he hb heq
        obtain ⟨_, o', ho', hall'⟩ := mem_ready.1 hk
        obtain rfl : ok = o' := Option.some.inj (hok.symm.trans ho')
        have h1 := hall' e he hb
        have h0 := (mem_ready.1 hm).1
        rw [heq] at h1
        rcases Nat.lt_or_ge m listed.size with h' | h'
        · simp [h'] at h0 h1; rw [h0] at h1; cases h1
        · simp [Array.getElem?_eq_none h'] at h1
      have hnot := hnl j hj oj hoj i hr
      have hnot' := hnl i hr oi hi j hj
      obtain ⟨h1, h2, h3⟩ := Oper.apart_spec (hfree j oj hoj hji hjun hnot)
      have ej : ∀ v, depVals md ops oj (a.put oi.dst v) = depVals md ops oj a := fun v => depVals_put hfit hi hnot
      have ei : ∀ u, depVals md ops oi (a.put oj.dst u) = depVals md ops oi a := fun u => depVals_put hfit hoj hnot'
      rw [ej] at hUj
      have hyj' : StepsG P md ops S U V T j oj a := (StepsG.moved hfit hoj hi hji (fun cs b => hsel j oj cs b hoj) h1 hnot).2 hyj
      refine ⟨oj, hoj, hUj, hyj', fun u hu => ?_⟩
      refine ih _ _ (by rw [put_size]; exact hfit) ?_ (ready_mono hr (Ne.symm hji)) ⟨v0, by rw [ei]; exact hv0⟩ ?_ ?_
      · intro k ok hk hki hun hno
        refine hfree k ok hk hki ?_ hno
        by_cases hjk : j = k
        · subst hjk; exact hjun
        · rw [getD_set_ne true hjk] at hun; exact hun
      · exact (StepsG.moved hfit hi hoj (Ne.symm hji) (fun cs b => hsel i oi cs b hi) h3 hnot').1 hy
      · intro v hv
        rw [ei] at hv
        rw [Array.setIfInBounds_comm _ _ hji, ← Act.put_comm a v u h2]
        obtain ⟨oj', hoj', _, _, hrest'⟩ := (H v hv).2 j (ready_mono hj hji)
        obtain rfl : oj = oj' := Option.some.inj (hoj.symm.trans hoj')
        exact hrest' u (by rw [ej]; exact hu)

/-- Take number i next. -/
theorem AnyG.step {i : Nat} {d : Option Tmp} {oi : Oper} {fuel : Nat} {listed : Array Bool} {a : Act} (hi : ops[i]? = some oi) (hd : oi.dst = d) (hfit : fitB ops a.tmps.size = true)
    (hs : Region.noSelect ops = true) (hf : Region.free md ops listed i = true) (hr : (Region.ready md ops listed).contains i = true)
    (hU : ∃ v, U i (depVals md ops oi a) v) (hy : StepsG P md ops S U V T i oi a)
    (h : ∀ v, U i (depVals md ops oi a) v → ∀ a', a.put d v = a' → AnyG P md ops Q S U V T fuel (listed.setIfInBounds i true) a') : AnyG P md ops Q S U V T (fuel + 1) listed a :=
  AnyG.first hi (Region.noSelect_spec hs) fuel listed a hfit (Region.free_spec hi hf) (by simpa using hr) hU hy (fun v hv => h v hv _ (by rw [hd]))
theorem AnyG.done {listed : Array Bool} {a : Act} (hr : Region.ready md ops listed = []) (h : ∀ w, S w → Facts ops V listed a w → Q .normal a w) : ∀ fuel, AnyG P md ops Q S U V T fuel listed a
  | 0 => ⟨hr, h⟩
  | _ + 1 => ⟨fun _ => h, by rw [hr]; simp⟩
theorem region_stepsG {id : Nat} {a : Act} {w : World} (hT : ∀ w, T w w) (hm : P.follows .mixedOrders = true) (hS : ∀ w w', T w w' → S w → S w') (hV : ∀ i v w w', T w w' → V i v w → V i v w') (hfit : fitB ops a.tmps.size = true) (h0 : S w.drew)
    (h : AnyG P .any ops Q S U V T ops.size (Array.replicate ops.size false) a) : (Code.region id ops true).wp P Q a w :=
  wp_region_any hm (AnyG.any hT hS hV _ _ _ hfit h _ h0 (fun j oj d hl hj _ => by
    have hlt := (Array.getElem?_eq_some_iff.1 hj).1
    simp [Array.getD, hlt] at hl))
/-- An operation that only yields. -/
theorem StepsG.yield {i : Nat} {o : Oper} {a : Act} (hT : ∀ w, T w w) (v : Value) (hu : U i (depVals md ops o a) v) (hw : Region.wanted o (yielded ops a.tmps) = true)
    (h : ∀ w, S w → Deps md ops V o a w → (execOp a.eval o).run P w = .ok (.value v) w ∧ V i v w) : StepsG P md ops S U V T i o a :=
  .inl ⟨hw, fun w hS hD K Q hK => by unfold Oper.wp; rw [(h w hS hD).1]; exact hK v w hu (h w hS hD).2 (hT w)⟩
/-- A call of a Go function. -/
theorem StepsG.call {i : Nat} {o : Oper} {a : Act} {f : FuncId} {args : Array Value} (hw : Region.wanted o (yielded ops a.tmps) = true) (h : ∀ w, S w → (execOp a.eval o).run P w = .ok (.enter f args) w)
    (hc : ∀ w, S w → Deps md ops V o a w → Calls P f args w fun e w' => ∃ v, e = .returned v ∧ U i (depVals md ops o a) v ∧ V i v w' ∧ T w w') : StepsG P md ops S U V T i o a :=
  .inl ⟨hw, fun w hS hD K Q hK => by
    unfold Oper.wp; rw [h w hS]
    refine Calls.mono (hc w hS hD) fun e w' he => ?_
    obtain ⟨v, rfl, h1, h2, h3⟩ := he
    exact hK v w' h1 h2 h3⟩
theorem StepsG.no {i : Nat} {o : Oper} {a : Act} (hw : Region.wanted o (yielded ops a.tmps) = false) (hu : U i (depVals md ops o a) undef) (hv : ∀ w, V i undef w) : StepsG P md ops S U V T i o a := .inr ⟨hw, hu, hv⟩
/-- An operation that makes memory, or only yields. -/
theorem StepsG.made {i : Nat} {o : Oper} {a : Act} (hw : Region.wanted o (yielded ops a.tmps) = true)
    (h : ∀ w, S w → Deps md ops V o a w → ∃ v w', (execOp a.eval o).run P w = .ok (.value v) w' ∧ U i (depVals md ops o a) v ∧ V i v w' ∧ T w w') : StepsG P md ops S U V T i o a :=
  .inl ⟨hw, fun w hS hD K Q hK => by obtain ⟨v, w', h1, h2, h3, h4⟩ := h w hS hD; unfold Oper.wp; rw [h1]; exact hK v w' h2 h3 h4⟩
end
end Go.Proofs.YtkkhibamkdgffaaDoor

/- A constant's bytes in a region that draws its order: the conversion marks a new block. Nothing of the program is used but two types' facts, handed in. -/
namespace Go.Proofs.YtkkhibamkdgffaaDoor
open Go Go.RowKit

/-- New blocks, and marks on blocks from n0 on. -/
def TM (n0 : Nat) (w w' : World) : Prop := Below n0 w w' ∧ ∀ (b : Nat) C e m, w.heap[b]? = some (Obj.cells C e m) → ∃ m', w'.heap[b]? = some (Obj.cells C e m')
theorem TM.refl (n0 : Nat) (w : World) : TM n0 w w := ⟨Below.refl _ _, fun _ _ _ m h => ⟨m, h⟩⟩
theorem TM.of_below {n0 : Nat} {w w' : World} (h : Below w.heap.size w w') (hn : n0 ≤ w.heap.size) : TM n0 w w' :=
  ⟨h.mono hn, fun b _ _ m hb => ⟨m, (h.block b (Array.getElem?_eq_some_iff.1 hb).1).trans hb⟩⟩
/-- The world with block b's mark. -/
theorem freeze_kept (w : World) (b k : Nat) (n0 : Nat) (hb : n0 ≤ b) : TM n0 w (w.freeze ⟨b, k, none⟩ 1) := by
  have hf : w.freeze ⟨b, k, none⟩ 1 = { w with heap := w.heap.modify b fun
      | .cells c elem (lo, hi) => .cells c elem (if lo == hi then (k, k + 1) else (min lo k, max hi (k + 1)))
      | o => o } := rfl
  rw [hf]
  refine ⟨⟨rfl, rfl, rfl, by simp, fun j hj => ?_⟩, fun c C e m hc => ?_⟩
  · show (w.heap.modify b _)[j]? = _
    rw [Array.getElem?_modify]
    rw [if_neg (by omega)]
  · show ∃ m', (w.heap.modify b _)[c]? = _
    rw [Array.getElem?_modify]
    by_cases h : b = c
    · subst h
      rw [if_pos rfl, hc]
      exact ⟨_, rfl⟩
    · rw [if_neg h]
      exact ⟨m, hc⟩
theorem run_convert_mark {P : Program} (w : World) (t e : TypeId) (b : Nat) (C : Array Value) (m : Nat × Nat) (n c : Nat) (ht : P.underlying t = some (.slice e)) (he : P.underlying e = some (.int .u8)) (hb : w.heap[b]? = some (.cells C e m)) :
    (convert t t (.slice (some ⟨b, 0, none⟩) n c)).run P w = .ok (.slice (some ⟨b, 0, none⟩) n c) (w.freeze ⟨b, C.size, none⟩ 1) := by
  have hsh : w.shape? b = some (e, C.size) := by unfold World.shape?; rw [hb]
  simp [convert, run_underlying ht, run_underlying he, markStringish, hsh]

/-- A slice over a whole new block of bytes, marked or not. -/
def MarkB (n0 : Nat) (u8 : TypeId) (l : List (Fin 256)) (v : Value) (W : World) : Prop := ∃ b m, v = .slice (some ⟨b, 0, none⟩) l.length l.length ∧ n0 ≤ b ∧ W.heap[b]? = some (.cells (byW l) u8 m)
theorem MarkB.kept {n0 : Nat} {u8 : TypeId} {l : List (Fin 256)} {v : Value} {w w' : World} (h : MarkB n0 u8 l v w) (ht : TM n0 w w') : MarkB n0 u8 l v w' := by
  obtain ⟨b, m, h1, h2, h3⟩ := h
  obtain ⟨m', h4⟩ := ht.2 b _ _ _ h3
  exact ⟨b, m', h1, h2, h4⟩
theorem MarkB.new (n0 : Nat) (u8 : TypeId) (l : List (Fin 256)) (W : World) (hn : n0 ≤ W.heap.size) : MarkB n0 u8 l (.slice (some ⟨W.heap.size, 0, none⟩) l.length l.length) (W.alloc (.cells (byW l) u8)) :=
  ⟨_, (0, 0), rfl, hn, World.alloc_heap_new W _⟩
theorem MarkB.bytes {n0 : Nat} {u8 : TypeId} {l : List (Fin 256)} {v : Value} {W : World} (h : MarkB n0 u8 l v W) : BytesAt W.heap.size W v l := by
  obtain ⟨b, m, h1, h2, h3⟩ := h
  refine ⟨_, l.length, h1, fun _ => ⟨b, 0, rfl, (Array.getElem?_eq_some_iff.1 h3).1, fun j hj => ?_⟩⟩
  rw [Nat.zero_add]
  simp [World.cell?, h3, byW, hj]
theorem MarkB.convert {P : Program} {n0 : Nat} {u8 t : TypeId} {l : List (Fin 256)} {v : Value} {W : World} (h : MarkB n0 u8 l v W) (ht : P.underlying t = some (.slice u8)) (he : P.underlying u8 = some (.int .u8)) :
    ∃ W', (Go.convert t t v).run P W = .ok v W' ∧ MarkB n0 u8 l v W' ∧ TM n0 W W' := by
  have hk := h
  obtain ⟨b, m, rfl, h2, h3⟩ := h
  have hT := freeze_kept W b (byW l).size n0 h2
  exact ⟨_, run_convert_mark W t u8 b _ m _ _ ht he h3, hk.kept hT, hT⟩
end Go.Proofs.YtkkhibamkdgffaaDoor

/- The document's brackets: Text. -/
namespace Go.Proofs.YtkkhibamkdgffaaDoor
open Go.RowKit Go.Shelf BS

def UZ (s : BitVec 256) : Nat → List Value → Value → Prop
  | 0, _, v => v = setV s
  | 1, _, v => v = setV 0
  | 2, _, v => ∃ b, v = .slice (some ⟨b, 0, none⟩) 1 1
  | 3, _, v => ∃ b, v = .slice (some ⟨b, 0, none⟩) 1 1
  | 4, _, v => v = setV (range 94 94)
  | _, _, v => v = .bool (decide (s = range 94 94))
def VZ (n0 : Nat) (i : Nat) (v : Value) (W : World) : Prop := match i with
  | 2 => MarkB n0 5 [94] v W
  | 3 => MarkB n0 5 [94] v W
  | _ => True
theorem keepVZ (n0 : Nat) : ∀ i v w w', TM n0 w w' → VZ n0 i v w → VZ n0 i v w' := by
  intro i v w w' hb h
  unfold VZ at *
  split
  · exact MarkB.kept h hb
  · exact MarkB.kept h hb
  · trivial
def SZ (w : World) (n0 gF : Nat) (s : BitVec 256) (W : World) : Prop := (Blk W w.heap.size (setA s) 24 ∧ Blk W gF (setA fourS) 24 ∧ w.heap.size < n0 ∧ gF < n0 ∧ n0 ≤ W.heap.size) ∧ Below w.heap.size w W
theorem SZ.keep {w W W' : World} {n0 gF : Nat} {s : BitVec 256} (h : SZ w n0 gF s W) (hb : TM n0 W W') : SZ w n0 gF s W' :=
  ⟨⟨h.1.1.below hb.1 h.1.2.2.1, h.1.2.1.below hb.1 h.1.2.2.2.1, h.1.2.2.1, h.1.2.2.2.1, Nat.le_trans h.1.2.2.2.2 hb.1.size⟩, h.2.trans (hb.1.mono (by have := h.1.2.2.1; omega))⟩
theorem SZ.drewS {w W : World} {n0 gF : Nat} {s : BitVec 256} (h : SZ w n0 gF s W) : SZ w n0 gF s W.drew := ⟨⟨h.1.1, h.1.2.1, h.1.2.2⟩, h.2.drew⟩
theorem eq94 (s : BitVec 256) (w : World) : (Op.equalIn 10000 24 (setV s) (setV (range 94 94))).run Tryd.prog w = .ok (decide (s = range 94 94)) w := eq_set s (range 94 94) w

theorem out_eq (s : BitVec 256) : (iT (s.getLsbD 93) 93 ++ (rsOf (s &&& ~~~fourS)).flatMap runT) ++ iT (s.getLsbD 91) 91 = outT s := rfl
theorem text_eq (s : BitVec 256) (h0 : ¬ s = 0) (h1 : ¬ s = range 94 94) : textT s = if outT s = [] then [91] ++ iT (s.getLsbD 45) 45 ++ iT (s.getLsbD 94) 94 ++ [93] else [91] ++ outT s ++ iT (s.getLsbD 94) 94 ++ iT (s.getLsbD 45) 45 ++ [93] := by
  unfold textT
  rw [if_neg h0, if_neg h1]
  by_cases h : outT s = []
  · rw [if_pos h, if_pos h]; simp
  · rw [if_neg h, if_neg h]; simp

set_option maxRecDepth 100000 in
set_option maxHeartbeats 16000000 in
theorem rText_calls (s : BitVec 256) (w : World) : Calls Tryd.prog 6 #[setV s] w fun e w' => e = .returned (.string (ofT (textT s))) ∧ Below w.heap.size w w' := by
  by_cases h0 : s = 0
  · exact rText_zero s h0 w
  have b0 := Blk.new w (setA s) 24
  have hB0 : Below w.heap.size w (w.alloc (.cells (setA s) 24)) := by go_grown
  have hq := eq_zero s
  have q : decide (s = 0) = false := by simpa using h0
  rw [q] at hq
  obtain ⟨⟨c0, c1, c2, c3⟩, _⟩ := b0.cells4
  have BS := Lib.hid b0
  have HB := Lib.hid hB0
  have H0 := Lib.hid h0
  have hz : w.heap.size + 1 ≤ (w.alloc (.cells (setA s) 24)).heap.size := by simp
  clear b0 hB0 h0 q
  go_enter Tryd.func6, Tryd.ntmps6
  go_upto_region 1 with fail
  have e0 : w.alloc (.cells #[.int .u64 (wd s 0), .int .u64 (wd s 1), .int .u64 (wd s 2), .int .u64 (wd s 3)] 24) = w.alloc (.cells (setA s) 24) := rfl
  rw [e0]
  clear e0
  generalize w.alloc (.cells (setA s) 24) = w1 at *
  have hcv : ∀ W : World, (convert 40 40 (.slice (some ⟨W.heap.size, 0, none⟩) 4 4)).run Tryd.prog (W.alloc (.cells #[.int .u8 93, .int .u8 91, .int .u8 94, .int .u8 45] 5)) = .ok (.slice (some ⟨W.heap.size, 0, none⟩) 4 4) (W.alloc (.cells #[.int .u8 93, .int .u8 91, .int .u8 94, .int .u8 45] 5 (4, 5))) := fun W => Lib.run_convert_bytes_const W 40 5 #[.int .u8 93, .int .u8 91, .int .u8 94, .int .u8 45] 4 4 Tryd.underlying40 Tryd.underlying5
  go_wp2_with fail
  have hby := bytes_mark w1 5 [93, 91, 94, 45] (4, 5)
  have b1 := BS.out.alloc (.cells #[.int .u8 93, .int .u8 91, .int .u8 94, .int .u8 45] 5 (4, 5))
  have hB1 := HB.out.alloc (show w.heap.size ≤ w1.heap.size by omega) (.cells #[.int .u8 93, .int .u8 91, .int .u8 94, .int .u8 45] 5 (4, 5))
  refine Calls.mono (four_c _ _ (some ⟨w1.heap.size, 0, none⟩) rfl hby) ?_
  rintro e w2 ⟨rfl, hb⟩
  have hz2 := hb.size
  rw [World.size_alloc] at hz2
  replace BS := Lib.hid (b1.below hb b1.lt)
  replace HB := Lib.hid (hB1.trans (hb.mono (by simp; omega)))
  clear hb b1 hB1 hby c0 c1 c2 c3 hq
  have hz3 : w.heap.size + 2 ≤ w2.heap.size := by omega
  clear hz hz2
  go_upto_region 4 with fail
  have BF : Hid (Blk (w2.alloc (.cells #[.int .u64 (wd fourS 0), .int .u64 (wd fourS 1), .int .u64 (wd fourS 2), .int .u64 (wd fourS 3)] 24)) w2.heap.size (setA fourS) 24) := Lib.hid (Blk.new w2 (setA fourS) 24)
  replace BS := Lib.hid (BS.out.alloc (.cells #[.int .u64 (wd fourS 0), .int .u64 (wd fourS 1), .int .u64 (wd fourS 2), .int .u64 (wd fourS 3)] 24))
  replace HB := Lib.hid (HB.out.alloc (show w.heap.size ≤ w2.heap.size by omega) (.cells #[.int .u64 (wd fourS 0), .int .u64 (wd fourS 1), .int .u64 (wd fourS 2), .int .u64 (wd fourS 3)] 24))
  have hz : w2.heap.size + 1 ≤ (w2.alloc (.cells #[.int .u64 (wd fourS 0), .int .u64 (wd fourS 1), .int .u64 (wd fourS 2), .int .u64 (wd fourS 3)] 24)).heap.size := by simp
  generalize w2.alloc (.cells #[.int .u64 (wd fourS 0), .int .u64 (wd fourS 1), .int .u64 (wd fourS 2), .int .u64 (wd fourS 3)] 24) = w3 at *
  generalize w2.heap.size = gF at *
  have hs0 : SZ w w3.heap.size gF s w3 := ⟨⟨BS.out, BF.out, by omega, by omega, Nat.le_refl _⟩, HB.out⟩
  generalize w3.heap.size = n0 at hs0
  have HS0 := Lib.hid hs0
  clear hs0 BS BF HB hz hz3 hcv
  go_cut [23] from 18 to 23 (fun v wx => v = .bool (decide (s = range 94 94)) ∧ SZ w n0 gF s wx)
  case first =>
    refine region_stepsG (S := SZ w n0 gF s) (U := UZ s) (V := VZ n0) (T := TM n0) (TM.refl n0) (by kernel_rfl) (fun _ _ hb hs => hs.keep hb) (keepVZ n0) (by kernel_rfl) (SZ.drewS HS0.out) ?_
    clear HS0
    simp only [List.size_toArray, List.length_cons, List.length_nil, Nat.reduceAdd, Array.replicate_succ, Array.replicate_zero, List.push_toArray, List.nil_append, List.cons_append]
    refine AnyG.step (i := 0) (d := some 18) rfl rfl (by kernel_rfl) (by kernel_rfl) (by kernel_rfl) (by kernel_rfl) ?_ ?_ ?_
    · exact ⟨_, rfl⟩
    · refine StepsG.yield (TM.refl n0) (setV s) rfl (by kernel_rfl) (fun w' hS hD => ⟨?_, trivial⟩)
      obtain ⟨⟨c0, c1, c2, c3⟩, _⟩ := hS.1.1.cells4; clear hS hD; go_simp
      try (first | rfl | exact ⟨rfl, rfl, rfl, rfl⟩)
    intro v' hv' a' ha'
    have hv' : setV s = v' := Eq.symm hv'
    subst hv'
    simp only [Act.put, List.setIfInBounds_toArray, List.set_cons_zero, List.set_cons_succ] at ha'
    subst ha'
    refine AnyG.step (i := 1) (d := some 19) rfl rfl (by kernel_rfl) (by kernel_rfl) (by kernel_rfl) (by kernel_rfl) ?_ ?_ ?_
    · exact ⟨_, rfl⟩
    · refine StepsG.yield (TM.refl n0) (setV 0) rfl (by kernel_rfl) (fun w' hS hD => ⟨?_, trivial⟩)
      clear hS hD; go_simp
      try (first | rfl | exact ⟨rfl, rfl, rfl, rfl⟩)
    intro v' hv' a' ha'
    have hv' : setV 0 = v' := Eq.symm hv'
    subst hv'
    simp only [Act.put, List.setIfInBounds_toArray, List.set_cons_zero, List.set_cons_succ] at ha'
    subst ha'
    refine AnyG.step (i := 2) (d := some 20) rfl rfl (by kernel_rfl) (by kernel_rfl) (by kernel_rfl) (by kernel_rfl) ?_ ?_ ?_
    · exact ⟨_, 0, rfl⟩
    · refine StepsG.made (by kernel_rfl) (fun w' hS hD => ?_)
      have hn := hS.1.2.2.2.2
      clear hS hD
      refine ⟨.slice (some ⟨w'.heap.size, 0, none⟩) 1 1, w'.alloc (.cells (byW [94]) 5), ?_, ⟨_, rfl⟩, MarkB.new n0 _ [94] w' hn, TM.of_below (by go_grown) hn⟩
      clear hn
      go_simp
      try rfl
    rintro v' ⟨a2, rfl⟩ a' ha'
    simp only [Act.put, List.setIfInBounds_toArray, List.set_cons_zero, List.set_cons_succ] at ha'
    subst ha'
    refine AnyG.step (i := 3) (d := some 21) rfl rfl (by kernel_rfl) (by kernel_rfl) (by kernel_rfl) (by kernel_rfl) ?_ ?_ ?_
    · exact ⟨_, 0, rfl⟩
    · refine StepsG.made (by kernel_rfl) (fun w' hS hD => ?_)
      have hm : MarkB n0 5 [94] (.slice (some ⟨a2, 0, none⟩) 1 1) w' := hD.get (k := 2) (by kernel_rfl) rfl rfl
      clear hS hD
      obtain ⟨W', h1, h2, h3⟩ := hm.convert (P := Tryd.prog) Tryd.underlying40 Tryd.underlying5
      refine ⟨_, W', ?_, ⟨a2, rfl⟩, h2, h3⟩
      clear h2 h3 hm
      go_simp
      try rfl
    rintro v' ⟨a3, rfl⟩ a' ha'
    simp only [Act.put, List.setIfInBounds_toArray, List.set_cons_zero, List.set_cons_succ] at ha'
    subst ha'
    refine AnyG.step (i := 4) (d := some 22) rfl rfl (by kernel_rfl) (by kernel_rfl) (by kernel_rfl) (by kernel_rfl) ?_ ?_ ?_
    · exact ⟨_, rfl⟩
    · refine StepsG.call (f := 14) (args := #[setV 0, .slice (some ⟨a3, 0, none⟩) 1 1]) (by kernel_rfl) (fun w' hS => by clear hS; go_simp) (fun w' hS hD => ?_)
      have hm : MarkB n0 5 [94] (.slice (some ⟨a3, 0, none⟩) 1 1) w' := hD.get (k := 3) (by kernel_rfl) rfl rfl
      have hn := hS.1.2.2.2.2
      refine (up_c w' _ (some ⟨a3, 0, none⟩) rfl hm.bytes).mono ?_
      rintro e w'' ⟨rfl, hb⟩
      exact ⟨_, rfl, rfl, trivial, TM.of_below hb hn⟩
    intro v' hv' a' ha'
    have hv' : setV (range 94 94) = v' := Eq.symm hv'
    subst hv'
    simp only [Act.put, List.setIfInBounds_toArray, List.set_cons_zero, List.set_cons_succ] at ha'
    subst ha'
    refine AnyG.step (i := 5) (d := some 23) rfl rfl (by kernel_rfl) (by kernel_rfl) (by kernel_rfl) (by kernel_rfl) ?_ ?_ ?_
    · exact ⟨_, rfl⟩
    · refine StepsG.yield (TM.refl n0) (.bool (decide (s = range 94 94))) rfl (by kernel_rfl) (fun w' hS hD => ⟨?_, trivial⟩)
      have q := eq94 s; clear hS hD; go_simp
      try (first | rfl | exact ⟨rfl, rfl, rfl, rfl⟩)
    intro v' hv' a' ha'
    have hv' : .bool (decide (s = range 94 94)) = v' := Eq.symm hv'
    subst hv'
    simp only [Act.put, List.setIfInBounds_toArray, List.set_cons_zero, List.set_cons_succ] at ha'
    subst ha'
    refine AnyG.done (by kernel_rfl) (fun w' hS hF => ?_) _
    clear hF
    go_wp2_with fail
    go_meet
    exact ⟨rfl, hS⟩
  case rest =>
  obtain ⟨rfl, hS⟩ := hcut
  clear HS0
  by_cases hs : s = range 94 94
  · have hres : textT s = [] := (text_nil s).2 hs
    have q : decide (s = range 94 94) = true := by simpa using hs
    rw [q]
    have HR := Lib.hid hres
    have hB := hS.2
    clear q hres hs hS
    go_wp2_with fail
    go_ret
    exact ⟨by rw [HR.out] <;> rfl, hB⟩
  have q : decide (s = range 94 94) = false := by simpa using hs
  rw [q]
  have HNS := Lib.hid hs
  clear q hs
  have BS := Lib.hid hS.1.1
  have BF := Lib.hid hS.1.2.1
  have HB := Lib.hid hS.2
  have hz := hS.2.size
  clear hS
  have h93 := fun w' => rhas_calls s 93 w' (by omega) (by omega)
  have h91 := fun w' => rhas_calls s 91 w' (by omega) (by omega)
  have h94 := fun w' => rhas_calls s 94 w' (by omega) (by omega)
  have h45 := fun w' => rhas_calls s 45 w' (by omega) (by omega)
  rw [show (93 : Int).toNat = 93 from rfl] at h93
  rw [show (91 : Int).toNat = 91 from rfl] at h91
  rw [show (94 : Int).toNat = 94 from rfl] at h94
  rw [show (45 : Int).toNat = 45 from rfl] at h45
  have hO := out_eq s
  have hTX := text_eq s H0.out HNS.out
  generalize s.getLsbD 93 = x93 at h93 hO hTX
  generalize s.getLsbD 91 = x91 at h91 hO hTX
  generalize s.getLsbD 94 = x94 at h94 hTX
  generalize s.getLsbD 45 = x45 at h45 hTX
  have H93 := Lib.hid h93
  have H91 := Lib.hid h91
  have H94 := Lib.hid h94
  have H45 := Lib.hid h45
  clear h93 h91 h94 h45
  obtain ⟨rs, hrs⟩ : ∃ rs, rsOf (s &&& ~~~fourS) = rs := ⟨_, rfl⟩
  have hrl := rsOf_len (s &&& ~~~fourS)
  have hok := rsOf_ok (s &&& ~~~fourS)
  have hru := rruns_calls (s &&& ~~~fourS)
  rw [hrs] at hrl hok hru hO
  have hle := rless_calls s fourS
  generalize s &&& ~~~fourS = sm at hru hle
  have HOKR := Lib.hid hok
  have HRU := Lib.hid hru
  have HLE := Lib.hid hle
  have HO := Lib.hid hO
  have HTX := Lib.hid hTX
  clear hok hrs hru hle hO hTX
  obtain ⟨⟨c0, c1, c2, c3⟩, _⟩ := BS.out.cells4
  go_wp2_with fail
  refine (H93.out _).mono ?_
  rintro e w4 ⟨rfl, hb⟩
  replace BS := Lib.hid (BS.out.below hb (Blk.lt BS.out))
  replace BF := Lib.hid (BF.out.below hb (Blk.lt BF.out))
  replace HB := Lib.hid (HB.out.trans (hb.mono hz))
  have hzx := Nat.le_trans hz hb.size
  clear hz hb
  have hz := hzx
  clear hzx
  clear c0 c1 c2 c3
  go_upto_if 25 with fail
  go_cut [4] (fun t wx => t = .string (ofT (iT x93 93)) ∧ w4 = wx)
  case first =>
    cases x93 <;> (go_wp2_with fail; go_meet; exact ⟨rfl, rfl⟩)
  case rest =>
  obtain ⟨rfl, rfl⟩ := hcut
  obtain ⟨⟨c0, c1, c2, c3⟩, _⟩ := BS.out.cells4
  obtain ⟨⟨d0, d1, d2, d3⟩, _⟩ := BF.out.cells4
  go_wp2_with fail
  refine (HLE.out _).mono ?_
  rintro e w5 ⟨rfl, hb⟩
  replace BS := Lib.hid (BS.out.below hb (Blk.lt BS.out))
  replace BF := Lib.hid (BF.out.below hb (Blk.lt BF.out))
  replace HB := Lib.hid (HB.out.trans (hb.mono hz))
  have hzx := Nat.le_trans hz hb.size
  clear hz hb
  have hz := hzx
  clear hzx
  clear c0 c1 c2 c3 d0 d1 d2 d3 HLE
  go_wp2_with fail
  refine (HRU.out _).mono ?_
  rintro e w6 ⟨v, rfl, hr, hb⟩
  replace BS := Lib.hid (BS.out.below hb (Blk.lt BS.out))
  replace BF := Lib.hid (BF.out.below hb (Blk.lt BF.out))
  replace HB := Lib.hid (HB.out.trans (hb.mono hz))
  have hzx := Nat.le_trans hz hb.size
  clear hz hb
  have hz := hzx
  clear hzx
  clear HRU BF
  obtain ⟨a5, cap5, rfl, h5'⟩ := row_of_owns hr
  have h5 : rs ≠ [] → ∃ g, a5 = some ⟨g, 0, none⟩ ∧ RowAt g rs w6 := fun hne => by
    obtain ⟨g, g1, _, g2⟩ := h5' hne
    exact ⟨g, g1, g2⟩
  have H5 := Lib.hid h5
  clear hr h5 h5'
  have hl93 := iT_len x93 93
  generalize hX : iT x93 93 = X at *
  have HX := Lib.hid hX
  clear hX
  go_upto_block 0 with fail
  go_cut [4] from 30 to 66 (fun t wx => t = .string (ofT (X ++ rs.flatMap runT)) ∧ STh w s wx)
  case first =>
    go_wp2_with fail
    go_loopw [4, 6] (fun t v wr => ∃ k : Nat, k ≤ rs.length ∧ v = .int .i64 k ∧ t = .string (ofT (X ++ (rs.take k).flatMap runT)) ∧ STh w s wr ∧ (rs ≠ [] → ∃ g, a5 = some ⟨g, 0, none⟩ ∧ RowAt g rs wr)) (fun _ v _ => rs.length - (intOf v).toNat)
    case atStart => exact ⟨0, Nat.zero_le _, rfl, by simp, ⟨BS.out, HB.out⟩, H5.out⟩
    case round =>
      clear BS HB hz H5
      obtain ⟨k, hk, rfl, rfl, hS, h5⟩ := hrel
      by_cases hkl : k < rs.length
      · have hne : rs ≠ [] := fun h => by rw [h] at hkl; simp at hkl
        obtain ⟨g, rfl, hrow⟩ := h5 hne
        obtain ⟨r0, r1⟩ := hrow.2 k hkl
        obtain ⟨o1, o2⟩ := HOKR.out k hkl
        have hts : rs.take (k + 1) = rs.take k ++ [rs[k]] := by rw [List.take_succ_eq_append_getElem hkl]
        have hTT : X ++ (rs.take (k + 1)).flatMap runT = (X ++ (rs.take k).flatMap runT) ++ runT (rs[k].1, rs[k].2) := by rw [hts, List.flatMap_append, List.flatMap_singleton, List.append_assoc]
        have hlen : (X ++ (rs.take k).flatMap runT).length ≤ 2 + 3 * 256 := by
          have h1 := runs_txt_len (rs.take k)
          have h2 : (rs.take k).length ≤ 256 := by rw [List.length_take]; omega
          rw [List.length_append]; omega
        have hrun := fun (W : World) (h : RowAt g rs W) => h.2 k hkl
        generalize X ++ (rs.take k).flatMap runT = T0 at *
        generalize hT1 : X ++ (rs.take (k + 1)).flatMap runT = TE at hTT
        have HT1 := Lib.hid hT1
        clear hT1 hts
        generalize rs[k].1 = lo at *
        generalize rs[k].2 = hi at *
        have HRUN := Lib.hid hrun
        have hlo : lo < 256 := by omega
        clear hrun r0 r1 h5
        have h0 : STh w s wr ∧ RowAt g rs wr := ⟨hS, hrow⟩
        clear hS hrow
        have ad1 := addT T0 [lo] (by rw [show ([lo] : List Nat).length = 1 from rfl]; omega)
        have cvA : ∀ W : World, (convert 40 9 (.slice (some ⟨W.heap.size, 0, none⟩) 1 1)).run Tryd.prog (W.alloc (.cells #[.int .u8 lo] 5)) = .ok (.string (ofT [lo])) (W.alloc (.cells #[.int .u8 lo] 5)) := fun W => cv1 W _ lo
        have cvB : ∀ W : World, (convert 40 9 (.slice (some ⟨W.heap.size, 0, none⟩) 1 1)).run Tryd.prog (W.alloc (.cells #[.int .u8 hi] 5)) = .ok (.string (ofT [hi])) (W.alloc (.cells #[.int .u8 hi] 5)) := fun W => cv1 W _ hi
        have CVA := Lib.hid cvA
        have CVB := Lib.hid cvB
        have AD1 := Lib.hid ad1
        clear cvA cvB ad1
        go_upto_region 13 with fail
        have x1 : (k : Int).toNat = k := rfl
        have xb : (k : Int) < (rs.length : Int) := by omega
        refine region_steps (S := fun W => STh w s W ∧ RowAt g rs W) (by kernel_rfl) (show STh w s wr.drew ∧ RowAt g rs wr.drew from ⟨h0.1.drewS, h0.2⟩) ?_
        clear h0
        simp only [List.size_toArray, List.length_cons, List.length_nil, Nat.reduceAdd, Array.replicate_succ, Array.replicate_zero, List.push_toArray, List.nil_append, List.cons_append]
        refine AnyS.stepE (i := 0) (d := some 36) rfl rfl (by kernel_rfl) (by kernel_rfl) (by kernel_rfl) ?_
        apply Exists.intro
        apply And.intro
        · apply StepsIf.yield
          · kernel_rfl
          intro w' hS
          clear hS; go_simp
          rfl
        intro a' ha'
        simp only [Act.put, List.setIfInBounds_toArray, List.set_cons_zero, List.set_cons_succ] at ha'
        subst ha'
        refine AnyS.stepE (i := 1) (d := some 37) rfl rfl (by kernel_rfl) (by kernel_rfl) (by kernel_rfl) ?_
        apply Exists.intro
        apply And.intro
        · apply StepsIf.yield
          · kernel_rfl
          intro w' hS
          clear hS; go_simp
          rfl
        intro a' ha'
        simp only [Act.put, List.setIfInBounds_toArray, List.set_cons_zero, List.set_cons_succ] at ha'
        subst ha'
        refine AnyS.next (i := 2) (d := some 38) (v := .pointer (some ⟨g, k * 2, none⟩)) rfl rfl (by kernel_rfl) (by kernel_rfl) (by kernel_rfl) (StepsIf.yield (by kernel_rfl) (fun w' hS => by clear hS; go_simp)) ?_
        intro a' ha'
        simp only [Act.put, List.setIfInBounds_toArray, List.set_cons_zero, List.set_cons_succ] at ha'
        subst ha'
        refine AnyS.next (i := 3) (d := some 39) (v := .pointer (some ⟨g, k * 2, none⟩)) rfl rfl (by kernel_rfl) (by kernel_rfl) (by kernel_rfl) (StepsIf.yield (by kernel_rfl) (fun w' hS => by clear hS; go_simp)) ?_
        intro a' ha'
        simp only [Act.put, List.setIfInBounds_toArray, List.set_cons_zero, List.set_cons_succ] at ha'
        subst ha'
        refine AnyS.next (i := 4) (d := some 40) (v := .int .u8 lo) rfl rfl (by kernel_rfl) (by kernel_rfl) (by kernel_rfl) (StepsIf.yield (by kernel_rfl) (fun w' hS => by have hc := HRUN.out w' hS.2; obtain ⟨r0, r1⟩ := hc; clear hS; go_simp)) ?_
        intro a' ha'
        simp only [Act.put, List.setIfInBounds_toArray, List.set_cons_zero, List.set_cons_succ] at ha'
        subst ha'
        refine AnyS.stepE (i := 5) (d := some 41) rfl rfl (by kernel_rfl) (by kernel_rfl) (by kernel_rfl) ?_
        apply Exists.intro
        apply And.intro
        · apply StepsIf.yield
          · kernel_rfl
          intro w' hS
          clear hS; go_simp
          rfl
        intro a' ha'
        simp only [Act.put, List.setIfInBounds_toArray, List.set_cons_zero, List.set_cons_succ] at ha'
        subst ha'
        refine AnyS.stepE (i := 6) (d := some 42) rfl rfl (by kernel_rfl) (by kernel_rfl) (by kernel_rfl) ?_
        apply Exists.intro
        apply And.intro
        · apply StepsIf.yield
          · kernel_rfl
          intro w' hS
          clear hS; go_simp
          rfl
        intro a' ha'
        simp only [Act.put, List.setIfInBounds_toArray, List.set_cons_zero, List.set_cons_succ] at ha'
        subst ha'
        refine AnyS.next (i := 7) (d := some 43) (v := .pointer (some ⟨g, k * 2, none⟩)) rfl rfl (by kernel_rfl) (by kernel_rfl) (by kernel_rfl) (StepsIf.yield (by kernel_rfl) (fun w' hS => by clear hS; go_simp)) ?_
        intro a' ha'
        simp only [Act.put, List.setIfInBounds_toArray, List.set_cons_zero, List.set_cons_succ] at ha'
        subst ha'
        refine AnyS.next (i := 8) (d := some 44) (v := .pointer (some ⟨g, k * 2 + 1, none⟩)) rfl rfl (by kernel_rfl) (by kernel_rfl) (by kernel_rfl) (StepsIf.yield (by kernel_rfl) (fun w' hS => by clear hS; go_simp)) ?_
        intro a' ha'
        simp only [Act.put, List.setIfInBounds_toArray, List.set_cons_zero, List.set_cons_succ] at ha'
        subst ha'
        refine AnyS.next (i := 9) (d := some 45) (v := .int .u8 hi) rfl rfl (by kernel_rfl) (by kernel_rfl) (by kernel_rfl) (StepsIf.yield (by kernel_rfl) (fun w' hS => by have hc := HRUN.out w' hS.2; obtain ⟨r0, r1⟩ := hc; clear hS; go_simp)) ?_
        intro a' ha'
        simp only [Act.put, List.setIfInBounds_toArray, List.set_cons_zero, List.set_cons_succ] at ha'
        subst ha'
        refine AnyS.stepE (i := 10) (d := some 7) rfl rfl (by kernel_rfl) (by kernel_rfl) (by kernel_rfl) ?_
        apply Exists.intro
        apply And.intro
        · apply StepsIf.yield
          · kernel_rfl
          intro w' hS
          clear hS; go_simp
          rfl
        intro a' ha'
        simp only [Act.put, List.setIfInBounds_toArray, List.set_cons_zero, List.set_cons_succ] at ha'
        subst ha'
        refine AnyS.stepE (i := 11) (d := some 8) rfl rfl (by kernel_rfl) (by kernel_rfl) (by kernel_rfl) ?_
        apply Exists.intro
        apply And.intro
        · apply StepsIf.yield
          · kernel_rfl
          intro w' hS
          clear hS; go_simp
          rfl
        intro a' ha'
        simp only [Act.put, List.setIfInBounds_toArray, List.set_cons_zero, List.set_cons_succ] at ha'
        subst ha'
        refine AnyS.done (by kernel_rfl) (fun w7 hS => ?_) _
        clear x1 xb
        have hS1 := hS.1
        have hrow := hS.2
        clear hS HRUN
        have cvA := CVA.out
        have ad1 := AD1.out
        by_cases e1 : hi = lo
        · have hr : runT (lo, hi) = [lo] := by unfold runT; rw [if_neg (by simp only; omega), if_neg (by simp only; omega)]; rfl
          rw [hr] at hTT
          rw [← hTT] at ad1
          have q1 : decide ((lo : Int) + 1 < (hi : Int)) = false := by rw [decide_eq_false_iff_not]; omega
          have q2 : decide (lo < hi) = false := by rw [decide_eq_false_iff_not]; omega
          clear CVA CVB AD1 hr e1 hTT
          go_wp2_with fail
          go_roundw
          case rel => exact ⟨k + 1, by omega, by simp, by rw [HT1.out], ⟨hS1.1.alloc _, hS1.2.alloc hS1.2.size _⟩, fun _ => ⟨g, rfl, hrow.below (by go_grown)⟩⟩
          case measure => simp [intOf]; omega
        by_cases e2 : hi = lo + 1
        · have hr : runT (lo, hi) = [lo, hi] := by unfold runT; rw [if_neg (by simp only; omega), if_pos (by simp only; omega)]; rfl
          rw [hr] at hTT
          have ad2 := addT (T0 ++ [lo]) [hi] (by rw [List.length_append, show ([lo] : List Nat).length = 1 from rfl, show ([hi] : List Nat).length = 1 from rfl]; omega)
          rw [show T0 ++ [lo] ++ [hi] = TE by rw [hTT]; simp] at ad2
          have q1 : decide ((lo : Int) + 1 < (hi : Int)) = false := by rw [decide_eq_false_iff_not]; omega
          have q2 : decide (lo < hi) = true := by rw [decide_eq_true_eq]; omega
          generalize T0 ++ [lo] = T1 at *
          have cvB := CVB.out (w7.alloc (.cells #[.int .u8 lo] 5))
          rw [World.size_alloc] at cvB
          clear CVA CVB AD1 hr e1 e2 hTT
          go_wp2_with fail
          go_roundw
          case rel => exact ⟨k + 1, by omega, by simp, by rw [HT1.out], ⟨(hS1.1.alloc _).alloc _, (hS1.2.alloc hS1.2.size _).alloc (by have := hS1.2.size; simp; omega) _⟩, fun _ => ⟨g, rfl, (hrow.below (by go_grown) : RowAt g rs ((w7.alloc (.cells #[.int .u8 lo] 5)).alloc (.cells #[.int .u8 hi] 5)))⟩⟩
          case measure => simp [intOf]; omega
        · have hr : runT (lo, hi) = [lo, 45, hi] := by unfold runT; rw [if_pos (by simp only; omega), if_pos (by simp only; omega)]; rfl
          rw [hr] at hTT
          have ad2 := addT (T0 ++ [lo]) [45] (by rw [List.length_append, show ([lo] : List Nat).length = 1 from rfl, show ([45] : List Nat).length = 1 from rfl]; omega)
          have ad3 := addT (T0 ++ [lo] ++ [45]) [hi] (by rw [List.length_append, List.length_append, show ([lo] : List Nat).length = 1 from rfl, show ([hi] : List Nat).length = 1 from rfl, show ([45] : List Nat).length = 1 from rfl]; omega)
          rw [show T0 ++ [lo] ++ [45] ++ [hi] = TE by rw [hTT]; simp] at ad3
          rw [show ofT [45] = ⟨#[45]⟩ from rfl] at ad2
          have q1 : decide ((lo : Int) + 1 < (hi : Int)) = true := by rw [decide_eq_true_eq]; omega
          have q2 : decide (lo < hi) = true := by rw [decide_eq_true_eq]; omega
          generalize T0 ++ [lo] ++ [45] = T2 at *
          generalize T0 ++ [lo] = T1 at *
          have cvB := CVB.out (w7.alloc (.cells #[.int .u8 lo] 5))
          rw [World.size_alloc] at cvB
          clear CVA CVB AD1 hr e1 e2 hTT
          go_wp2_with fail
          go_roundw
          case rel => exact ⟨k + 1, by omega, by simp, by rw [HT1.out], ⟨(hS1.1.alloc _).alloc _, (hS1.2.alloc hS1.2.size _).alloc (by have := hS1.2.size; simp; omega) _⟩, fun _ => ⟨g, rfl, (hrow.below (by go_grown) : RowAt g rs ((w7.alloc (.cells #[.int .u8 lo] 5)).alloc (.cells #[.int .u8 hi] 5)))⟩⟩
          case measure => simp [intOf]; omega
      · obtain rfl : k = rs.length := by omega
        rw [List.take_length]
        go_wp2_with fail
        go_meet
        exact ⟨rfl, hS⟩
  case rest =>
  obtain ⟨rfl, hS⟩ := hcut
  clear BS HB hz H5
  have hfl : (rs.flatMap runT).length ≤ 768 := by have := runs_txt_len rs; omega
  have hO := HO.out
  skip
  have hl91 := iT_len x91 91
  have hXf : (X ++ rs.flatMap runT).length ≤ 770 := by rw [List.length_append]; omega
  have hOl : (outT s).length ≤ 771 := by rw [← hO, List.length_append]; omega
  have ad1 := addT (X ++ rs.flatMap runT) [91] (by rw [show ([91] : List Nat).length = 1 from rfl]; omega)
  rw [show ofT [91] = ⟨#[91]⟩ from rfl] at ad1
  generalize X ++ rs.flatMap runT = T0 at *
  have hoT : x91 = true → T0 ++ [91] = outT s := fun h => by rw [← hO, h]; rfl
  have hoF : x91 = false → T0 = outT s := fun h => by rw [← hO, h]; simp [iT]
  have HOT := Lib.hid hoT
  have HOF := Lib.hid hoF
  have AD1 := Lib.hid ad1
  have BS := Lib.hid hS.1
  have HB := Lib.hid hS.2
  have hz := hS.2.size
  clear HO HX HOKR hO hl91 hXf hfl ad1 hoT hoF hS
  obtain ⟨⟨c0, c1, c2, c3⟩, _⟩ := BS.out.cells4
  go_wp2_with fail
  refine (H91.out _).mono ?_
  rintro e w7 ⟨rfl, hb⟩
  replace BS := Lib.hid (BS.out.below hb (Blk.lt BS.out))
  replace HB := Lib.hid (HB.out.trans (hb.mono hz))
  have hzx := Nat.le_trans hz hb.size
  clear hz hb
  have hz := hzx
  clear hzx
  clear c0 c1 c2 c3 H91 H93
  go_upto_if 68 with fail
  go_cut [4] (fun t wx => t = .string (ofT (outT s)) ∧ w7 = wx)
  case first =>
    cases x91 with
    | true =>
      have ad1 := AD1.out
      have hE := HOT.out rfl
      clear AD1 HOT HOF
      rw [hE] at ad1
      clear hE
      go_wp2_with fail
      go_meet
      exact ⟨rfl, rfl⟩
    | false =>
      have hE := HOF.out rfl
      rw [hE]
      clear AD1 HOT HOF hE
      go_wp2_with fail
      go_meet
      exact ⟨rfl, rfl⟩
  case rest =>
  obtain ⟨rfl, rfl⟩ := hcut
  clear AD1 HOT HOF
  obtain ⟨⟨c0, c1, c2, c3⟩, _⟩ := BS.out.cells4
  go_wp2_with fail
  refine (H94.out _).mono ?_
  rintro e w8 ⟨rfl, hb⟩
  replace BS := Lib.hid (BS.out.below hb (Blk.lt BS.out))
  replace HB := Lib.hid (HB.out.trans (hb.mono hz))
  have hzx := Nat.le_trans hz hb.size
  clear hz hb
  have hz := hzx
  clear hzx
  clear c0 c1 c2 c3 H94
  go_upto_if 72 with fail
  go_cut [9] (fun t wx => t = .string (ofT (iT x94 94)) ∧ w8 = wx)
  case first =>
    cases x94 <;> (go_wp2_with fail; go_meet; exact ⟨rfl, rfl⟩)
  case rest =>
  obtain ⟨rfl, rfl⟩ := hcut
  obtain ⟨⟨c0, c1, c2, c3⟩, _⟩ := BS.out.cells4
  go_wp2_with fail
  refine (H45.out _).mono ?_
  rintro e w9 ⟨rfl, hb⟩
  replace BS := Lib.hid (BS.out.below hb (Blk.lt BS.out))
  replace HB := Lib.hid (HB.out.trans (hb.mono hz))
  have hzx := Nat.le_trans hz hb.size
  clear hz hb
  have hz := hzx
  clear hzx
  clear c0 c1 c2 c3 H45
  go_upto_if 74 with fail
  go_cut [10] (fun t wx => t = .string (ofT (iT x45 45)) ∧ w9 = wx)
  case first =>
    cases x45 <;> (go_wp2_with fail; go_meet; exact ⟨rfl, rfl⟩)
  case rest =>
  obtain ⟨rfl, rfl⟩ := hcut
  have hl94 := iT_len x94 94
  have hl45 := iT_len x45 45
  have htx := HTX.out
  generalize iT x94 94 = i94 at *
  generalize iT x45 45 = i45 at *
  have b1 : ([91] : List Nat).length = 1 := rfl
  have b2 : ([93] : List Nat).length = 1 := rfl
  by_cases ho : outT s = []
  · rw [if_pos ho] at htx
    have ad1 := addT [91] i45 (by omega)
    have ad2 := addT ([91] ++ i45) i94 (by rw [List.length_append]; omega)
    have ad3 := addT ([91] ++ i45 ++ i94) [93] (by rw [List.length_append, List.length_append]; omega)
    rw [← htx] at ad3
    rw [show ofT [91] = ⟨#[91]⟩ from rfl] at ad1
    rw [show ofT [93] = ⟨#[93]⟩ from rfl] at ad3
    have q : (ofT (outT s)).toList = [] := by rw [ho, toL]; rfl
    generalize [91] ++ i45 ++ i94 = T2 at *
    generalize [91] ++ i45 = T1 at *
    generalize outT s = O at *
    have hB := HB.out
    clear b1 b2 htx HTX HB BS ho hl94 hl45 hz
    go_wp2_with fail
    go_ret
    exact ⟨rfl, hB⟩
  · rw [if_neg ho] at htx
    have ad1 := addT [91] (outT s) (by omega)
    have ad2 := addT ([91] ++ outT s) i94 (by rw [List.length_append]; omega)
    have ad3 := addT ([91] ++ outT s ++ i94) i45 (by rw [List.length_append, List.length_append]; omega)
    have ad4 := addT ([91] ++ outT s ++ i94 ++ i45) [93] (by rw [List.length_append, List.length_append, List.length_append]; omega)
    rw [← htx] at ad4
    rw [show ofT [91] = ⟨#[91]⟩ from rfl] at ad1
    rw [show ofT [93] = ⟨#[93]⟩ from rfl] at ad4
    have q : (ofT (outT s)).toList.isEmpty = false := by
      rw [toL]
      cases hc : outT s with
      | nil => exact absurd hc ho
      | cons => rfl
    generalize [91] ++ outT s ++ i94 ++ i45 = T3 at *
    generalize [91] ++ outT s ++ i94 = T2 at *
    generalize [91] ++ outT s = T1 at *
    generalize outT s = O at *
    have hB := HB.out
    clear b1 b2 htx HTX HB BS ho hl94 hl45 hz
    go_wp2_with fail
    go_ret
    exact ⟨rfl, hB⟩
end Go.Proofs.YtkkhibamkdgffaaDoor

/- BracketBack's law. -/
namespace Go.Proofs.YtkkhibamkdgffaaDoor
open Go.RowKit Go.Shelf BS

def UB (s : BitVec 256) : Nat → List Value → Value → Prop
  | 0, _, v => v = setV s
  | 1, _, v => v = setV 0
  | 2, _, v => ∃ a, v = .slice a 1 1
  | 3, _, v => v = setV s
  | _, _, v => v = .bool true
def VB (i : Nat) (v : Value) (W : World) : Prop := match i with
  | 2 => BytesAt W.heap.size W v [94]
  | _ => True
theorem keepVB : ∀ i v w w', Below w.heap.size w w' → VB i v w → VB i v w' := by
  intro i v w w' hb h
  unfold VB at *
  split
  · exact BytesAt.step h hb
  · trivial
theorem up_dev (w : World) (a : Option Addr) (h : BytesAt w.heap.size w (.slice a 1 1) [94]) : Calls Tryd.prog 7 #[setV 0, .slice a 1 1] w fun e w' => e = .returned (setV (range 94 94)) ∧ Below w.heap.size w w' := by
  have := with_calls' 0 a 1 1 [94] (by decide) w h
  rw [up_eq] at this; exact this

set_option maxRecDepth 100000 in
set_option maxHeartbeats 16000000 in
theorem back_calls (s : BitVec 256) (x : ByteArray) (hx : x.size ≤ 9223372036854775807) (w : World) (hT : Tab w) (hgT : 0 < w.heap.size) : Calls Tryd.prog 3 #[setV s, .string x] w fun e w' => e = .returned (.bool true) ∧ Below w.heap.size w w' := by
  have hs0 : SX w s (w.alloc (.cells (setA s) 24)) := ⟨⟨Blk.new w _ _, by go_grown⟩, hT.keep (by go_grown : Below w.heap.size w (w.alloc (.cells (setA s) 24))) hgT, by simp <;> omega⟩
  have HS0 := Lib.hid hs0
  clear hs0 hT hgT
  by_cases hl : 100 < x.size
  · have q : decide (100 < x.size) = true := by simpa using hl
    go_enter Tryd.func3, Tryd.ntmps3
    go_upto_region 1 with fail
    have e0 : w.alloc (.cells #[.int .u64 (wd s 0), .int .u64 (wd s 1), .int .u64 (wd s 2), .int .u64 (wd s 3)] 24) = w.alloc (.cells (setA s) 24) := rfl
    rw [e0]
    clear e0
    generalize w.alloc (.cells (setA s) 24) = w1 at *
    go_wp2_with fail
    refine (sure3_calls _).mono ?_
    rintro e w2 ⟨rfl, hb⟩
    have HS1 := Lib.hid (HS0.out.keep hb)
    go_wp2_with fail
    go_ret
    exact ⟨rfl, HS1.out.1.2⟩
  have q : decide (100 < x.size) = false := by simpa using hl
  have hdt := fun (W : World) (h : SX w s W) => dText_calls s W h.2.1 h.2.2
  have hrt := rText_calls s
  have htl := text_len s
  have hnil := text_nil s
  have hbk := readR_back x x s
  have HDT := Lib.hid hdt
  generalize hL : textT s = L at *
  have HRT := Lib.hid hrt
  clear hdt hrt hL
  have hne : ((ofT L).toList != (ofT L).toList) = false := by simp
  have hnn : ((ofT L).toList == (ofT L).toList) = true := by simp
  go_enter Tryd.func3, Tryd.ntmps3
  go_upto_region 1 with fail
  have e0 : w.alloc (.cells #[.int .u64 (wd s 0), .int .u64 (wd s 1), .int .u64 (wd s 2), .int .u64 (wd s 3)] 24) = w.alloc (.cells (setA s) 24) := rfl
  rw [e0]
  clear e0
  generalize w.alloc (.cells (setA s) 24) = w1 at *
  obtain ⟨⟨c0, c1, c2, c3⟩, _⟩ := HS0.out.1.1.cells4
  go_wp2_with fail
  refine (HDT.out _ HS0.out).mono ?_
  rintro e w2 ⟨rfl, hb⟩
  replace HS0 := Lib.hid (HS0.out.keep hb)
  clear hb c0 c1 c2 c3 HDT
  obtain ⟨⟨c0, c1, c2, c3⟩, _⟩ := HS0.out.1.1.cells4
  go_wp2_with fail
  refine (HRT.out _).mono ?_
  rintro e w3 ⟨rfl, hb⟩
  replace HS0 := Lib.hid (HS0.out.keep hb)
  clear hb c0 c1 c2 c3 HRT
  by_cases hs : s = range 94 94
  · have hLn : L = [] := hnil.2 hs
    subst hLn
    have hee := eq_set_same s
    have q2 : (ofT []).toList = [] := by rw [toL]; rfl
    have hse := hs.symm
    clear hnil hbk htl hs
    have HSE := Lib.hid hse
    clear hse
    go_upto_region 7 with fail
    clear hne hnn q2
    refine region_stepsR (S := SX w s) (U := UB s) (V := VB) (by kernel_rfl) (fun _ _ hb hs => hs.keep hb) keepVB (by kernel_rfl) (SX.drewS HS0.out) ?_
    clear HS0
    simp only [List.size_toArray, List.length_cons, List.length_nil, Nat.reduceAdd, Array.replicate_succ, Array.replicate_zero, List.push_toArray, List.nil_append, List.cons_append]
    refine AnyR.step (i := 0) (d := some 22) rfl rfl (by kernel_rfl) (by kernel_rfl) (by kernel_rfl) (by kernel_rfl) ?_ ?_ ?_
    · exact ⟨_, rfl⟩
    · refine StepsR.yield (setV s) rfl (by kernel_rfl) (fun w' hS hD => ⟨?_, trivial⟩)
      obtain ⟨⟨c0, c1, c2, c3⟩, _⟩ := hS.1.1.cells4; clear hS hD; go_simp
      try (first | rfl | exact ⟨rfl, rfl, rfl, rfl⟩)
    intro v' hv' a' ha'
    have hv' : setV s = v' := Eq.symm hv'
    subst hv'
    simp only [Act.put, List.setIfInBounds_toArray, List.set_cons_zero, List.set_cons_succ] at ha'
    subst ha'
    refine AnyR.step (i := 1) (d := some 23) rfl rfl (by kernel_rfl) (by kernel_rfl) (by kernel_rfl) (by kernel_rfl) ?_ ?_ ?_
    · exact ⟨_, rfl⟩
    · refine StepsR.yield (setV 0) rfl (by kernel_rfl) (fun w' hS hD => ⟨?_, trivial⟩)
      clear hS hD; go_simp
      try (first | rfl | exact ⟨rfl, rfl, rfl, rfl⟩)
    intro v' hv' a' ha'
    have hv' : setV 0 = v' := Eq.symm hv'
    subst hv'
    simp only [Act.put, List.setIfInBounds_toArray, List.set_cons_zero, List.set_cons_succ] at ha'
    subst ha'
    refine AnyR.step (i := 2) (d := some 24) rfl rfl (by kernel_rfl) (by kernel_rfl) (by kernel_rfl) (by kernel_rfl) ?_ ?_ ?_
    · exact ⟨_, none, rfl⟩
    · refine StepsR.made (by kernel_rfl) (fun w' hS hD => ?_)
      clear hS hD
      refine ⟨.slice (some ⟨w'.heap.size, 0, none⟩) 1 1, w'.alloc (.cells (byW [94]) 5), ?_, ⟨_, rfl⟩, bytes_new w' _ [94], by go_grown⟩
      go_simp
      try rfl
    rintro v' ⟨a2, rfl⟩ a' ha'
    simp only [Act.put, List.setIfInBounds_toArray, List.set_cons_zero, List.set_cons_succ] at ha'
    subst ha'
    refine AnyR.step (i := 3) (d := some 25) rfl rfl (by kernel_rfl) (by kernel_rfl) (by kernel_rfl) (by kernel_rfl) ?_ ?_ ?_
    · exact ⟨_, rfl⟩
    · refine StepsR.call (f := 7) (args := #[setV 0, .slice a2 1 1]) (by kernel_rfl) (fun w' hS => by clear hS; go_simp) (fun w' hS hD => ((up_dev w' a2 (hD.get (k := 2) (by kernel_rfl) rfl rfl)).mono (fun e w'' h => by rw [HSE.out] at h; exact h)).mono ?_)
      rintro e w'' ⟨rfl, hb⟩
      exact ⟨_, rfl, rfl, trivial, hb⟩
    intro v' hv' a' ha'
    have hv' : setV s = v' := Eq.symm hv'
    subst hv'
    simp only [Act.put, List.setIfInBounds_toArray, List.set_cons_zero, List.set_cons_succ] at ha'
    subst ha'
    refine AnyR.step (i := 4) (d := some 26) rfl rfl (by kernel_rfl) (by kernel_rfl) (by kernel_rfl) (by kernel_rfl) ?_ ?_ ?_
    · exact ⟨_, rfl⟩
    · refine StepsR.yield (.bool true) rfl (by kernel_rfl) (fun w' hS hD => ⟨?_, trivial⟩)
      have q := hee; clear hS hD; go_simp
      try (first | rfl | exact ⟨rfl, rfl, rfl, rfl⟩)
    intro v' hv' a' ha'
    have hv' : .bool true = v' := Eq.symm hv'
    subst hv'
    simp only [Act.put, List.setIfInBounds_toArray, List.set_cons_zero, List.set_cons_succ] at ha'
    subst ha'
    refine AnyR.step (i := 5) (d := some 27) rfl rfl (by kernel_rfl) (by kernel_rfl) (by kernel_rfl) (by kernel_rfl) ?_ ?_ ?_
    · exact ⟨_, rfl⟩
    · refine StepsR.yield (.bool true) rfl (by kernel_rfl) (fun w' hS hD => ⟨?_, trivial⟩)
      clear hS hD; go_simp
      try (first | rfl | exact ⟨rfl, rfl, rfl, rfl⟩)
    intro v' hv' a' ha'
    have hv' : .bool true = v' := Eq.symm hv'
    subst hv'
    simp only [Act.put, List.setIfInBounds_toArray, List.set_cons_zero, List.set_cons_succ] at ha'
    subst ha'
    refine AnyR.step (i := 6) (d := some 28) rfl rfl (by kernel_rfl) (by kernel_rfl) (by kernel_rfl) (by kernel_rfl) ?_ ?_ ?_
    · exact ⟨_, rfl⟩
    · refine StepsR.call (f := 4) (args := #[]) (by kernel_rfl) (fun w' hS => by clear hS; go_simp) (fun w' hS hD => (sure3_calls w').mono ?_)
      rintro e w'' ⟨rfl, hb⟩
      exact ⟨_, rfl, rfl, trivial, hb⟩
    intro v' hv' a' ha'
    have hv' : .bool true = v' := Eq.symm hv'
    subst hv'
    simp only [Act.put, List.setIfInBounds_toArray, List.set_cons_zero, List.set_cons_succ] at ha'
    subst ha'
    refine AnyR.step (i := 7) (d := some 29) rfl rfl (by kernel_rfl) (by kernel_rfl) (by kernel_rfl) (by kernel_rfl) ?_ ?_ ?_
    · exact ⟨_, rfl⟩
    · refine StepsR.yield (.bool true) rfl (by kernel_rfl) (fun w' hS hD => ⟨?_, trivial⟩)
      clear hS hD; go_simp
      try (first | rfl | exact ⟨rfl, rfl, rfl, rfl⟩)
    intro v' hv' a' ha'
    have hv' : .bool true = v' := Eq.symm hv'
    subst hv'
    simp only [Act.put, List.setIfInBounds_toArray, List.set_cons_zero, List.set_cons_succ] at ha'
    subst ha'
    refine AnyR.step (i := 8) (d := some 4) rfl rfl (by kernel_rfl) (by kernel_rfl) (by kernel_rfl) (by kernel_rfl) ?_ ?_ ?_
    · exact ⟨_, rfl⟩
    · refine StepsR.yield (.bool true) rfl (by kernel_rfl) (fun w' hS hD => ⟨?_, trivial⟩)
      clear hS hD; go_simp
      try (first | rfl | exact ⟨rfl, rfl, rfl, rfl⟩)
    intro v' hv' a' ha'
    have hv' : .bool true = v' := Eq.symm hv'
    subst hv'
    simp only [Act.put, List.setIfInBounds_toArray, List.set_cons_zero, List.set_cons_succ] at ha'
    subst ha'
    refine AnyR.done (by kernel_rfl) (fun w' hS hF => ?_) _
    clear hF
    have hB := hS.1.2
    clear hS
    go_wp2_with fail
    go_ret
    exact ⟨rfl, hB⟩
  have hLn : L ≠ [] := fun h => hs (hnil.1 h)
  have hR := hbk hs
  have hz1 : (x ++ ofT L).size = x.size + L.length := by rw [ByteArray.size_append, size_ofT]
  have HRD' := dRead (x ++ ofT L ++ x) (by rw [ByteArray.size_append, hz1]; omega) x.size _ _ _ _ hR
  rw [Int.natCast_add, ← size_ofT L] at HRD'
  have HRD := Lib.hid HRD'
  have a1 : ∀ w, (Op.stringOp .add x (ofT L)).run Tryd.prog w = .ok (.string (x ++ ofT L)) w := fun w => run_string_add_sum w _ _ (by rw [size_ofT]; omega)
  have a2 : ∀ w, (Op.stringOp .add (x ++ ofT L) x).run Tryd.prog w = .ok (.string (x ++ ofT L ++ x)) w := fun w => run_string_add_sum w _ _ (by rw [hz1]; omega)
  have q3 : (ofT L).toList.isEmpty = false := by
    rw [toL]
    cases L with
    | nil => exact absurd rfl hLn
    | cons => rfl
  have hsz : (ofT L).size ≤ 800 := by rw [size_ofT]; exact htl
  clear hnil hbk htl hs hR hz1 HRD' hLn
  generalize x ++ ofT L ++ x = X2 at *
  generalize x ++ ofT L = X1 at *
  generalize ofT L = TL at *
  have hee := eq_set_same s
  go_wp2_with fail
  refine (HRD.out _).mono ?_
  rintro e w4 ⟨rfl, hb⟩
  replace HS0 := Lib.hid (HS0.out.keep hb)
  clear hb HRD a1 a2
  go_upto_region 9 with fail
  have BR : Hid (Blk (w4.alloc (.cells #[.int .u64 (wd s 0), .int .u64 (wd s 1), .int .u64 (wd s 2), .int .u64 (wd s 3)] 24)) w4.heap.size (setA s) 24) := Lib.hid (Blk.new w4 (setA s) 24)
  replace HS0 := Lib.hid (HS0.out.keep (show Below w4.heap.size w4 (w4.alloc (.cells #[.int .u64 (wd s 0), .int .u64 (wd s 1), .int .u64 (wd s 2), .int .u64 (wd s 3)] 24)) by go_grown))
  generalize w4.alloc (.cells #[.int .u64 (wd s 0), .int .u64 (wd s 1), .int .u64 (wd s 2), .int .u64 (wd s 3)] 24) = w5 at *
  generalize w4.heap.size = gR at *
  obtain ⟨⟨c0, c1, c2, c3⟩, _⟩ := HS0.out.1.1.cells4
  obtain ⟨⟨d0, d1, d2, d3⟩, _⟩ := BR.out.cells4
  go_wp2_with fail
  refine (sure3_calls _).mono ?_
  rintro e w6 ⟨rfl, hb⟩
  replace HS0 := Lib.hid (HS0.out.keep hb)
  go_wp2_with fail
  go_ret
  exact ⟨rfl, HS0.out.1.2⟩
end Go.Proofs.YtkkhibamkdgffaaDoor

/- BsetTells: whether any byte is in any set, sets with more bytes, ranges, and what comes of any two sets. -/
import Derived.Test.YtpaecjjelpjopaaGreatDoorRb
import Derived.Test.YtpaecjjelpjopaaGreatDoorTa
namespace Go.Proofs.YtpaecjjelpjopaaGreatDoor
open Go.RowKit Go.Shelf BS

def SN (w : World) (s : BitVec 256) (W : World) : Prop := (Blk W w.heap.size (setA s) 25 ∧ Blk W (w.heap.size + 1) (setA 0) 25) ∧ Below w.heap.size w W
theorem keepN {w W W' : World} {s : BitVec 256} (h : SN w s W) (hb : Below W.heap.size W W') : SN w s W' := ⟨⟨h.1.1.below hb h.1.1.lt, h.1.2.below hb h.1.2.lt⟩, h.2.trans (hb.mono h.2.size)⟩
theorem drewN {w W : World} {s : BitVec 256} (h : SN w s W) : SN w s W.drew := ⟨⟨h.1.1, h.1.2⟩, h.2.drew⟩

set_option maxRecDepth 100000 in
set_option maxHeartbeats 2000000 in
/-- Not, by the document. -/
theorem rnot_calls (s : BitVec 256) (w : World) : Calls Tryz.prog 36 #[setV s] w fun e w' => e = .returned (setV (~~~s)) ∧ Below w.heap.size w w' := by
  have h0 : SN w s ((w.alloc (.cells (setA s) 25)).alloc (.cells (setA 0) 25)) := by
    refine ⟨⟨(Blk.new w _ _).alloc _, ?_⟩, by go_grown⟩
    have := Blk.new (w.alloc (.cells (setA s) 25)) (setA 0) 25
    rwa [World.size_alloc] at this
  rw [← full_not s]
  have e255 : ((255 : Nat) : Int) = 255 := rfl
  go_enter Tryz.func36, Tryz.ntmps36
  go_wp2_with fail
  refine region_stepsM (S := SN w s) (m := 3) rfl (by kernel_rfl) (drewN h0) ?_
  simp only [List.size_toArray, List.length_cons, List.length_nil, Nat.reduceAdd, Array.replicate_succ, Array.replicate_zero, List.push_toArray, List.nil_append, List.cons_append]
  refine AnyM.next (m := 3) (i := 0) (d := some 3) (v := setV (range 0 255)) rfl rfl (by kernel_rfl) (by kernel_rfl) (by kernel_rfl) (by kernel_rfl) (StepsIf.call (by kernel_rfl) (fun w' hS => by clear hS; go_simp) (fun w' hS => (rrange_calls 0 255 w' (by decide) (by decide)).mono fun e w'' h => ⟨h.1, keepN hS h.2⟩)) ?_
  intro a' ha'
  simp only [Act.put, List.setIfInBounds_toArray, List.set_cons_zero, List.set_cons_succ] at ha'
  subst ha'
  refine AnyM.next (m := 3) (i := 1) (d := some 4) (v := setV s) rfl rfl (by kernel_rfl) (by kernel_rfl) (by kernel_rfl) (by kernel_rfl) (StepsIf.yield (by kernel_rfl) (fun w' hS => by obtain ⟨⟨c0, c1, c2, c3⟩, _⟩ := hS.1.1.cells4; clear hS; go_simp)) ?_
  intro a' ha'
  simp only [Act.put, List.setIfInBounds_toArray, List.set_cons_zero, List.set_cons_succ] at ha'
  subst ha'
  refine AnyM.next (m := 3) (i := 2) (d := some 5) (v := setV (range 0 255 &&& ~~~s)) rfl rfl (by kernel_rfl) (by kernel_rfl) (by kernel_rfl) (by kernel_rfl) (StepsIf.call (by kernel_rfl) (fun w' hS => by clear hS; go_simp) (fun w' hS => (rless_calls (range 0 255) s w').mono fun e w'' h => ⟨h.1, keepN hS h.2⟩)) ?_
  intro a' ha'
  simp only [Act.put, List.setIfInBounds_toArray, List.set_cons_zero, List.set_cons_succ] at ha'
  subst ha'
  clear h0
  refine AnyM.last rfl (by kernel_rfl) (by kernel_rfl) (by kernel_rfl) (fun w3 hU K hK => ?_)
  obtain ⟨⟨c0, c1, c2, c3⟩, f0, f1, f2, f3⟩ := hU.1.2.cells4
  have HU := Lib.hid hU
  clear hU
  generalize ht : (range 0 255 &&& ~~~s) = t at *
  have HT := Lib.hid ht
  clear ht
  go_simp
  refine hK _ _ ?_
  clear hK K
  go_wp2
  obtain ⟨hR, hB⟩ := fin4 HU.out.1.2 HU.out.2 (by omega) t
  clear c0 c1 c2 c3 f0 f1 f2 f3 HU e255
  generalize (((w3.setCell ⟨w.heap.size + 1, 0, none⟩ (.int .u64 (wd t 0))).setCell ⟨w.heap.size + 1, 1, none⟩ (.int .u64 (wd t 1))).setCell ⟨w.heap.size + 1, 2, none⟩ (.int .u64 (wd t 2))).setCell ⟨w.heap.size + 1, 3, none⟩ (.int .u64 (wd t 3)) = W4 at *
  obtain ⟨⟨e0, e1, e2, e3⟩, _⟩ := hR.cells4
  exact bodyPost_ret (v := setV t) (by simp [results, Tryz.results36, go_sem, e0, e1, e2, e3]) rfl ⟨by rw [HT.out], hB⟩

theorem hasN (a : BitVec 256) (x : Nat) (w : World) (hx : x < 256) : Calls Tryz.prog 60 #[setV a, .int .u8 x] w fun e w' => e = .returned (.bool (a.getLsbD x)) ∧ Below w.heap.size w w' := by
  have h := has_calls a x w (by omega) (by omega)
  rw [Int.toNat_natCast] at h; exact h
theorem rhasN (a : BitVec 256) (x : Nat) (w : World) (hx : x < 256) : Calls Tryz.prog 48 #[setV a, .int .i64 x] w fun e w' => e = .returned (.bool (a.getLsbD x)) ∧ Below w.heap.size w w' := by
  have h := rhas_calls a x w (by omega) (by omega)
  rw [Int.toNat_natCast] at h; exact h
theorem rangeN (x y : Nat) (w : World) (hx : x < 256) (hy : y < 256) : Calls Tryz.prog 150 #[.int .u8 x, .int .u8 y] w fun e w' => e = .returned (setV (range x y)) ∧ Below w.heap.size w w' := by
  have h := range_calls x y w (by omega) (by omega) (by omega) (by omega)
  rw [Int.toNat_natCast, Int.toNat_natCast] at h; exact h

theorem BytesAt.mono {n n' : Nat} {W : World} {v : Value} {l : List (Fin 256)} (h : BytesAt n W v l) (hn : n ≤ n') : BytesAt n' W v l := by
  obtain ⟨a, cap, e, h⟩ := h
  refine ⟨a, cap, e, fun hne => ?_⟩
  obtain ⟨b, off, e, hlt, hc⟩ := h hne
  exact ⟨b, off, e, by omega, hc⟩
end Go.Proofs.YtpaecjjelpjopaaGreatDoor

/- The document's brackets: Text. -/
import Derived.Test.YtpaecjjelpjopaaGreatDoorP3
import Derived.Test.YtpaecjjelpjopaaGreatDoorLt
import Derived.Test.YtpaecjjelpjopaaGreatDoorRd
import Derived.Test.YtpaecjjelpjopaaGreatDoorCt
import Derived.Test.YtpaecjjelpjopaaGreatDoorP1
import Derived.Deep.DeepCutAuto
import Derived.Laws.ResultCell
import Derived.Lib.SlBytesConst
namespace Go.Proofs.YtpaecjjelpjopaaGreatDoor
open Go.RowKit Go.Shelf BS

theorem four_eq : withL 0 [93, 91, 94, 45] = fourS := by decide +kernel
theorem up_eq : withL 0 [94] = range 94 94 := by decide +kernel
theorem four_c (w : World) (v : Value) (a : Option Addr) (hv : v = .slice a 4 4) (h : BytesAt w.heap.size w v [93, 91, 94, 45]) : Calls Tryz.prog 49 #[setV 0, v] w fun e w' => e = .returned (setV fourS) ∧ Below w.heap.size w w' := by
  subst hv
  have := rwith_calls 0 a 4 4 [93, 91, 94, 45] (by decide) w h
  rw [four_eq] at this; exact this
theorem up_c (w : World) (v : Value) (a : Option Addr) (hv : v = .slice a 1 1) (h : BytesAt w.heap.size w v [94]) : Calls Tryz.prog 49 #[setV 0, v] w fun e w' => e = .returned (setV (range 94 94)) ∧ Below w.heap.size w w' := by
  subst hv
  have := rwith_calls 0 a 1 1 [94] (by decide) w h
  rw [up_eq] at this; exact this
theorem bytes_mark (W : World) (t : TypeId) (l : List (Fin 256)) (m : Nat × Nat) : BytesAt (W.alloc (.cells (byW l) t m)).heap.size (W.alloc (.cells (byW l) t m)) (.slice (some ⟨W.heap.size, 0, none⟩) l.length l.length) l := by
  refine ⟨_, l.length, rfl, fun _ => ⟨W.heap.size, 0, rfl, by simp, fun j hj => ?_⟩⟩
  rw [Nat.zero_add, World.cell?_alloc_mark]
  simp [byW, hj]
theorem eq_zero (s : BitVec 256) (w : World) : (Op.equalIn 10000 25 (setV s) (.agg #[.int .u64 0, .int .u64 0, .int .u64 0, .int .u64 0])).run Tryz.prog w = .ok (decide (s = 0)) w := by rw [empty_set]; exact eq_set s 0 w

set_option maxRecDepth 100000 in
set_option maxHeartbeats 8000000 in
theorem rText_zero (s : BitVec 256) (h0 : s = 0) (w : World) :
    Calls Tryz.prog 30 #[setV s] w fun e w' => e = .returned (.string (ofT (textT s))) ∧ Below w.heap.size w w' := by
  have b0 := Blk.new w (setA s) 25
  have hB0 : Below w.heap.size w (w.alloc (.cells (setA s) 25)) := by go_grown
  have hq := eq_zero s
  have q : decide (s = 0) = true := by simpa using h0
  have hres : textT s = [91, 94, 0, 45, 255, 93] := by unfold textT; rw [if_pos h0]
  rw [hres]
  rw [q] at hq
  clear h0 q hres
  obtain ⟨⟨c0, c1, c2, c3⟩, f0, f1, f2, f3⟩ := b0.cells4
  go_enter Tryz.func30, Tryz.ntmps30
  go_wp2_with fail
  exact bodyPost_ret (v := .string (ofT [91, 94, 0, 45, 255, 93])) (by simp [results, Tryz.results30, go_sem]; rfl) rfl ⟨rfl, hB0⟩

end Go.Proofs.YtpaecjjelpjopaaGreatDoor

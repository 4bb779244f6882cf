/- sure: what must come whatever the input is. -/
import Derived.Test.YtpaecjjelpjopaaGreatDoorP3
import Derived.Test.YtpaecjjelpjopaaGreatDoorP1
namespace Go.Proofs.YtpaecjjelpjopaaGreatDoor
open Go.RowKit Go.Shelf BS

def s0 : BitVec 256 := withL (range 97 99) [120]
theorem s0_98 : s0.getLsbD 98 = true := by decide +kernel
theorem s0_100 : s0.getLsbD 100 = false := by decide +kernel
theorem s0_cnt : cnt s0.getLsbD 256 = 4 := by decide +kernel
theorem s0_n1 : nextOf s0.getLsbD 100 = 120 := by decide +kernel
theorem s0_n2 : nextOf s0.getLsbD 121 = -1 := by decide +kernel
theorem s0_runs : runsOf (el s0.getLsbD 256) = [(97, 99), (120, 120)] := by decide +kernel

theorem with_calls (s : BitVec 256) (a : Option Addr) (len cap : Nat) (l : List (Fin 256)) (hreach : l.length ≤ 9223372036854775807) (w : World) (hI : BytesAt w.heap.size w (.slice a len cap) l) :
    Calls Tryz.prog 46 #[setV s, .slice a len cap] w fun e W' => e = .returned (setV (withL s l)) ∧ Below w.heap.size w W' :=
  callsIn_wide.1 (with_in 3 (by omega) s _ a len cap rfl l hreach w hI)
theorem runs_calls (s : BitVec 256) (w : World) (hT : Tab w) (hg : 0 < w.heap.size) :
    Calls Tryz.prog 45 #[setV s] w fun e W' => ∃ v, e = .returned v ∧ W'.ownsRow w.heap.size 82 2 v (runsOf (el s.getLsbD 256)).length (runCells (runsOf (el s.getLsbD 256))) ∧ Below w.heap.size w W' :=
  callsIn_wide.1 (runs_in 3 (by omega) s w hT hg)

theorem has98 (w : World) : Calls Tryz.prog 60 #[setV s0, .int .u8 98] w fun e W' => e = .returned (.bool true) ∧ Below w.heap.size w W' :=
  (has_calls s0 98 w (by omega) (by omega)).mono fun e W' h => by rw [show (98 : Int).toNat = 98 from rfl, s0_98] at h; exact h
theorem has100 (w : World) : Calls Tryz.prog 60 #[setV s0, .int .u8 100] w fun e W' => e = .returned (.bool false) ∧ Below w.heap.size w W' :=
  (has_calls s0 100 w (by omega) (by omega)).mono fun e W' h => by rw [show (100 : Int).toNat = 100 from rfl, s0_100] at h; exact h
theorem count0 (w : World) : Calls Tryz.prog 25 #[setV s0] w fun e W' => e = .returned (.int .i64 4) ∧ Below w.heap.size w W' :=
  (count_calls s0 w).mono fun e W' h => by rw [s0_cnt] at h; exact h
theorem next100 (w : World) (hT : Tab w) (hg : 0 < w.heap.size) : Calls Tryz.prog 27 #[setV s0, .int .i64 100] w fun e W' => e = .returned (.int .i64 120) ∧ Below w.heap.size w W' :=
  (next_calls s0 100 w (by omega) hT hg).mono fun e W' h => by rw [show (100 : Int).toNat = 100 from rfl, s0_n1] at h; exact h
theorem next121 (w : World) (hT : Tab w) (hg : 0 < w.heap.size) : Calls Tryz.prog 27 #[setV s0, .int .i64 121] w fun e W' => e = .returned (.int .i64 (-1)) ∧ Below w.heap.size w W' :=
  (next_calls s0 121 w (by omega) hT hg).mono fun e W' h => by rw [show (121 : Int).toNat = 121 from rfl, s0_n2] at h; exact h
theorem runs0 (w : World) (hT : Tab w) (hg : 0 < w.heap.size) :
    Calls Tryz.prog 45 #[setV s0] w fun e W' => ∃ g cap : Nat, e = .returned (.slice (some ⟨g, 0, none⟩) 2 cap) ∧ (w.heap.size ≤ g ∧ g < W'.heap.size ∧ W'.cell? ⟨g, 2, none⟩ = some (.int .u8 120) ∧ W'.cell? ⟨g, 3, none⟩ = some (.int .u8 120)) ∧ Below w.heap.size w W' :=
  (runs_calls s0 w hT hg).mono fun e W' h => by
    rw [s0_runs] at h
    obtain ⟨v, rfl, hr, hb⟩ := h
    obtain ⟨g, cap, rfl⟩ := ownsRow_succ (k := 1) hr
    have hl := hr.lt g rfl
    exact ⟨g, cap, rfl, ⟨hl.1, hl.2, hr.cellAt 2 (by decide), hr.cellAt 3 (by decide)⟩, hb⟩

theorem bytes_one (W : World) (t : TypeId) (n : Int) (x : Fin 256) (hn : n = (x.val : Int)) : BytesAt (W.alloc (.cells #[.int .u8 n] t)).heap.size (W.alloc (.cells #[.int .u8 n] t)) (.slice (some ⟨W.heap.size, 0, none⟩) 1 1) [x] := by
  subst hn
  refine ⟨_, 1, rfl, fun _ => ⟨W.heap.size, 0, rfl, by simp, ?_⟩⟩
  intro j hj
  obtain rfl : j = 0 := by simpa using hj
  exact (Blk.new W _ t).cell 0

end Go.Proofs.YtpaecjjelpjopaaGreatDoor

/- sure: what must come whatever the input is. -/
import Derived.Test.YtcccfhpabikbjaaDoorSz
import Derived.Test.YtcccfhpabikbjaaDoorEs
namespace Go.Proofs.YtcccfhpabikbjaaDoor
open Go.RowKit Go.Shelf BS

def s0 : BitVec 256 := withL (range 97 99) [120]
theorem s0_98 : s0.getLsbD 98 = true := by decide +kernel
theorem s0_100 : s0.getLsbD 100 = false := by decide +kernel
theorem s0_cnt : cnt s0.getLsbD 256 = 4 := by decide +kernel
theorem s0_n1 : nextOf s0.getLsbD 100 = 120 := by decide +kernel
theorem s0_n2 : nextOf s0.getLsbD 121 = -1 := by decide +kernel
theorem s0_runs : runsOf (el s0.getLsbD 256) = [(97, 99), (120, 120)] := by decide +kernel

theorem with_calls (s : BitVec 256) (a : Option Addr) (len cap : Nat) (l : List (Fin 256)) (hreach : l.length ≤ 9223372036854775807) (w : World) (hI : BytesAt w.heap.size w (.slice a len cap) l) :
    Calls Tryd.prog 18 #[setV s, .slice a len cap] w fun e W' => e = .returned (setV (withL s l)) ∧ Below w.heap.size w W' :=
  callsIn_wide.1 (with_in 3 (by omega) s _ a len cap rfl l hreach w hI)
theorem runs_calls (s : BitVec 256) (w : World) (hT : Tab w) (hg : 0 < w.heap.size) :
    Calls Tryd.prog 6 #[setV s] w fun e W' => ∃ v, e = .returned v ∧ W'.ownsRow w.heap.size 32 2 v (runsOf (el s.getLsbD 256)).length (runCells (runsOf (el s.getLsbD 256))) ∧ Below w.heap.size w W' :=
  callsIn_wide.1 (runs_in 3 (by omega) s w hT hg)

theorem has98 (w : World) : Calls Tryd.prog 20 #[setV s0, .int .u8 98] w fun e W' => e = .returned (.bool true) ∧ Below w.heap.size w W' :=
  (has_calls s0 98 w (by omega) (by omega)).mono fun e W' h => by rw [show (98 : Int).toNat = 98 from rfl, s0_98] at h; exact h
theorem has100 (w : World) : Calls Tryd.prog 20 #[setV s0, .int .u8 100] w fun e W' => e = .returned (.bool false) ∧ Below w.heap.size w W' :=
  (has_calls s0 100 w (by omega) (by omega)).mono fun e W' h => by rw [show (100 : Int).toNat = 100 from rfl, s0_100] at h; exact h
theorem count0 (w : World) : Calls Tryd.prog 8 #[setV s0] w fun e W' => e = .returned (.int .i64 4) ∧ Below w.heap.size w W' :=
  (count_calls s0 w).mono fun e W' h => by rw [s0_cnt] at h; exact h
theorem next100 (w : World) (hT : Tab w) (hg : 0 < w.heap.size) : Calls Tryd.prog 9 #[setV s0, .int .i64 100] w fun e W' => e = .returned (.int .i64 120) ∧ Below w.heap.size w W' :=
  (next_calls s0 100 w (by omega) hT hg).mono fun e W' h => by rw [show (100 : Int).toNat = 100 from rfl, s0_n1] at h; exact h
theorem next121 (w : World) (hT : Tab w) (hg : 0 < w.heap.size) : Calls Tryd.prog 9 #[setV s0, .int .i64 121] w fun e W' => e = .returned (.int .i64 (-1)) ∧ Below w.heap.size w W' :=
  (next_calls s0 121 w (by omega) hT hg).mono fun e W' h => by rw [show (121 : Int).toNat = 121 from rfl, s0_n2] at h; exact h
theorem runs0 (w : World) (hT : Tab w) (hg : 0 < w.heap.size) :
    Calls Tryd.prog 6 #[setV s0] w fun e W' => ∃ g cap : Nat, e = .returned (.slice (some ⟨g, 0, none⟩) 2 cap) ∧ (w.heap.size ≤ g ∧ g < W'.heap.size ∧ W'.cell? ⟨g, 2, none⟩ = some (.int .u8 120) ∧ W'.cell? ⟨g, 3, none⟩ = some (.int .u8 120)) ∧ Below w.heap.size w W' :=
  (runs_calls s0 w hT hg).mono fun e W' h => by
    rw [s0_runs] at h
    obtain ⟨v, rfl, hr, hb⟩ := h
    obtain ⟨g, cap, rfl⟩ := ownsRow_succ (k := 1) hr
    have hl := hr.lt g rfl
    exact ⟨g, cap, rfl, ⟨hl.1, hl.2, hr.cellAt 2 (by decide), hr.cellAt 3 (by decide)⟩, hb⟩

theorem bytes_one (W : World) (t : TypeId) (n : Int) (x : Fin 256) (hn : n = (x.val : Int)) : BytesAt (W.alloc (.cells #[.int .u8 n] t)).heap.size (W.alloc (.cells #[.int .u8 n] t)) (.slice (some ⟨W.heap.size, 0, none⟩) 1 1) [x] := by
  subst hn
  refine ⟨_, 1, rfl, fun _ => ⟨W.heap.size, 0, rfl, by simp, ?_⟩⟩
  intro j hj
  obtain rfl : j = 0 := by simpa using hj
  exact (Blk.new W _ t).cell 0

set_option maxHeartbeats 1000000 in
theorem sure_calls (w : World) (hT : Tab w) (hg : 0 < w.heap.size) :
    Calls Tryd.prog 11 #[] w fun e W' => e = .returned (.bool true) ∧ Below w.heap.size w W' := by
  have HT := Lib.hid hT
  clear hT
  have hq := eq_pair_same
  go_enter Tryd.func11, Tryd.ntmps11
  go_wp2_with fail
  refine (range_calls 97 99 _ (by omega) (by omega) (by omega) (by omega)).mono ?_
  rintro e w1 ⟨rfl, hb1⟩
  go_wp2_with fail
  refine (with_calls _ _ _ _ [120] (by simp) _ (bytes_one w1 _ 120 120 rfl)).mono ?_
  rintro e w2 ⟨rfl, hb2⟩
  have hB2 := hb1.trans ((upfrom hb2).mono hb1.size)
  clear hb1 hb2
  rw [show withL (range 97 99) [120] = s0 from rfl]
  go_wp2_with fail
  have bS2 : Blk (w2.alloc (.cells #[.int .u64 (wd s0 0), .int .u64 (wd s0 1), .int .u64 (wd s0 2), .int .u64 (wd s0 3)] 24)) w2.heap.size (setA s0) 24 := Blk.new w2 _ _
  have hB2' : Below w.heap.size w (w2.alloc (.cells #[.int .u64 (wd s0 0), .int .u64 (wd s0 1), .int .u64 (wd s0 2), .int .u64 (wd s0 3)] 24)) := hB2.alloc hB2.size _
  clear hB2
  generalize w2.alloc (.cells #[.int .u64 (wd s0 0), .int .u64 (wd s0 1), .int .u64 (wd s0 2), .int .u64 (wd s0 3)] 24) = W2 at *
  generalize w2.heap.size = B at *
  have hz2 : w.heap.size ≤ W2.heap.size := hB2'.size
  have BS2 := Lib.hid bS2
  have HB2 := Lib.hid hB2'
  clear bS2 hB2'
  refine (runs0 _ (HT.out.keep HB2.out hg) (by omega)).mono ?_
  rintro e w3 ⟨g, cap, rfl, ⟨_, hg3, r2, r3⟩, hb3⟩
  have HB3 := Lib.hid (HB2.out.trans (hb3.mono hz2))
  have hz3 : w.heap.size ≤ w3.heap.size := HB3.out.size
  have BS3 := Lib.hid (BS2.out.below hb3 BS2.out.lt)
  obtain ⟨⟨c0, c1, c2, c3⟩, _⟩ := BS3.out.cells4
  clear hb3 HB2 hz2 BS2
  go_wp2_with fail
  refine (has98 _).mono ?_
  rintro e w4 ⟨rfl, hb4⟩
  have HB4 := Lib.hid (HB3.out.trans (hb4.mono hz3))
  have hz4 : w.heap.size ≤ w4.heap.size := HB4.out.size
  have hg4 : g < w4.heap.size := Nat.lt_of_lt_of_le hg3 hb4.size
  have BS4 := Lib.hid (BS3.out.below hb4 BS3.out.lt)
  have p2 := (hb4.cell (p := ⟨g, 2, none⟩) hg3).trans r2
  have p3 := (hb4.cell (p := ⟨g, 3, none⟩) hg3).trans r3
  clear hb4 HB3 hz3 r2 r3 hg3 BS3 c0 c1 c2 c3
  obtain ⟨⟨c0, c1, c2, c3⟩, _⟩ := BS4.out.cells4
  have r2 := p2
  have r3 := p3
  clear p2 p3
  go_wp2_with fail
  refine (has100 _).mono ?_
  rintro e w5 ⟨rfl, hb5⟩
  have HB5 := Lib.hid (HB4.out.trans (hb5.mono hz4))
  have hz5 : w.heap.size ≤ w5.heap.size := HB5.out.size
  have hg5 : g < w5.heap.size := Nat.lt_of_lt_of_le hg4 hb5.size
  have BS5 := Lib.hid (BS4.out.below hb5 BS4.out.lt)
  have p2 := (hb5.cell (p := ⟨g, 2, none⟩) hg4).trans r2
  have p3 := (hb5.cell (p := ⟨g, 3, none⟩) hg4).trans r3
  clear hb5 HB4 hz4 r2 r3 hg4 BS4 c0 c1 c2 c3
  obtain ⟨⟨c0, c1, c2, c3⟩, _⟩ := BS5.out.cells4
  have r2 := p2
  have r3 := p3
  clear p2 p3
  go_wp2_with fail
  refine (count0 _).mono ?_
  rintro e w6 ⟨rfl, hb6⟩
  have HB6 := Lib.hid (HB5.out.trans (hb6.mono hz5))
  have hz6 : w.heap.size ≤ w6.heap.size := HB6.out.size
  have hg6 : g < w6.heap.size := Nat.lt_of_lt_of_le hg5 hb6.size
  have BS6 := Lib.hid (BS5.out.below hb6 BS5.out.lt)
  have p2 := (hb6.cell (p := ⟨g, 2, none⟩) hg5).trans r2
  have p3 := (hb6.cell (p := ⟨g, 3, none⟩) hg5).trans r3
  clear hb6 HB5 hz5 r2 r3 hg5 BS5 c0 c1 c2 c3
  obtain ⟨⟨c0, c1, c2, c3⟩, _⟩ := BS6.out.cells4
  have r2 := p2
  have r3 := p3
  clear p2 p3
  go_wp2_with fail
  refine (next100 _ (HT.out.keep HB6.out hg) (by omega)).mono ?_
  rintro e w7 ⟨rfl, hb7⟩
  have HB7 := Lib.hid (HB6.out.trans (hb7.mono hz6))
  have hz7 : w.heap.size ≤ w7.heap.size := HB7.out.size
  have hg7 : g < w7.heap.size := Nat.lt_of_lt_of_le hg6 hb7.size
  have BS7 := Lib.hid (BS6.out.below hb7 BS6.out.lt)
  have p2 := (hb7.cell (p := ⟨g, 2, none⟩) hg6).trans r2
  have p3 := (hb7.cell (p := ⟨g, 3, none⟩) hg6).trans r3
  clear hb7 HB6 hz6 r2 r3 hg6 BS6 c0 c1 c2 c3
  obtain ⟨⟨c0, c1, c2, c3⟩, _⟩ := BS7.out.cells4
  have r2 := p2
  have r3 := p3
  clear p2 p3
  go_wp2_with fail
  refine (next121 _ (HT.out.keep HB7.out hg) (by omega)).mono ?_
  rintro e w8 ⟨rfl, hb8⟩
  have HB8 := Lib.hid (HB7.out.trans (hb8.mono hz7))
  have hz8 : w.heap.size ≤ w8.heap.size := HB8.out.size
  have hg8 : g < w8.heap.size := Nat.lt_of_lt_of_le hg7 hb8.size
  have BS8 := Lib.hid (BS7.out.below hb8 BS7.out.lt)
  have p2 := (hb8.cell (p := ⟨g, 2, none⟩) hg7).trans r2
  have p3 := (hb8.cell (p := ⟨g, 3, none⟩) hg7).trans r3
  clear hb8 HB7 hz7 r2 r3 hg7 BS7 c0 c1 c2 c3
  obtain ⟨⟨c0, c1, c2, c3⟩, _⟩ := BS8.out.cells4
  have r2 := p2
  have r3 := p3
  clear p2 p3
  go_wp2
  go_ret
  exact ⟨rfl, HB8.out⟩
end Go.Proofs.YtcccfhpabikbjaaDoor

/- Texts put together: Hg Je. -/
import Derived.Test.YtbccojjcdcighaaGreatDoorPM
import Derived.Test.YtbccojjcdcighaaGreatDoorPAc
import Derived.Test.YtbccojjcdcighaaGreatDoorPC
import Derived.Test.YtbccojjcdcighaaGreatDoorPAh
import Derived.Lib.Hide
import Derived.Test.YtbccojjcdcighaaGreatDoorPAg
namespace Go.Proofs.YtbccojjcdcighaaGreatDoor
open Go.RowKit BS
section
variable {base N : Nat} {A : Nat → Prop} {l : List NdN} {ps rs : List Nat} {vN vP vR : Value} {w : World}
end
end Go.Proofs.YtbccojjcdcighaaGreatDoor

namespace Go.Proofs.YtbccojjcdcighaaGreatDoor
open Go.RowKit BS
set_option maxRecDepth 100000 in
set_option maxHeartbeats 4000000 in
theorem ptake1 {base R : Nat} {s : ByteArray} {a n r : Nat} {l : List NdN} {st : List (Nat × Nat)} {gr : Nat} {vN vL : Value} {w0 : World} (p f : Int) (t : BitVec 256) (n' m' : Int) (w : World) (h : RdV base R s a ⟨l, (n, r) :: st, gr⟩ vN vL w0 w) (hl : l.length ≤ 3999990) (hst : st.length ≤ 1999990) (hn : n ≤ 2000000) :
    Calls Tryz.prog 48 #[.pointer (some ⟨R, 0, none⟩), .agg (woI 1 p f t n' m')] w fun e w' => e = .returned (.int .i64 0) ∧ ∃ vN', RdV base R s a ⟨l ++ [⟨2, 0, 0, 0, t⟩], (n + 1, r) :: st, gr⟩ vN' vL w0 w' := by
  have hB := Blk.new w (woI 1 p f t n' m') 91
  have hr := h.alloc (.cells (woI 1 p f t n' m') 91)
  have hb0 : Below w.heap.size w (w.alloc (.cells (woI 1 p f t n' m') 91)) := by go_grown
  clear h
  go_enter Tryz.func48, Tryz.ntmps48
  go_upto_region 1 with fail
  generalize w.alloc (.cells (woI 1 p f t n' m') 91) = w1 at *
  have HB0 := Lib.hid hb0
  clear hb0
  have HW := Lib.hid (Eq.refl w.heap.size)
  clear HW
  have c0 := hB.cell 0; have c3 := hB.cell 3; have c4 := hB.cell 4; have c5 := hB.cell 5; have c6 := hB.cell 6; have c7 := hB.cell 7; have c8 := hB.cell 8
  simp only [List.getElem?_toArray, List.getElem?_cons_zero, List.getElem?_cons_succ] at c0 c3 c4 c5 c6 c7 c8
  have HR := Lib.hid hr
  clear hr hB
  go_wp2_with fail
  refine (paddPiece_calls ⟨2, 0, 0, 0, t⟩ _ HR.out (by omega) (by omega) hn).mono ?_
  rintro e w2 ⟨rfl, vN', hr2⟩
  go_wp2_with fail
  go_ret
  exact ⟨rfl, _, hr2⟩
set_option maxRecDepth 100000 in
set_option maxHeartbeats 4000000 in
theorem ptake2_9 {base R : Nat} {s : ByteArray} {a n r : Nat} {l : List NdN} {st : List (Nat × Nat)} {vN vL : Value} {w0 : World} (p f : Int) (t : BitVec 256) (n' m' : Int) (w : World) (h : RdV base R s a ⟨l, (n, r) :: st, 9⟩ vN vL w0 w) :
    Calls Tryz.prog 48 #[.pointer (some ⟨R, 0, none⟩), .agg (woI 2 p f t n' m')] w fun e w' => e = .returned (.int .i64 9) ∧ Below w.heap.size w w' := by
  have hB := Blk.new w (woI 2 p f t n' m') 91
  have hr := h.alloc (.cells (woI 2 p f t n' m') 91)
  have hb0 : Below w.heap.size w (w.alloc (.cells (woI 2 p f t n' m') 91)) := by go_grown
  clear h
  go_enter Tryz.func48, Tryz.ntmps48
  go_upto_region 1 with fail
  generalize w.alloc (.cells (woI 2 p f t n' m') 91) = w1 at *
  have HB0 := Lib.hid hb0
  clear hb0
  have HW := Lib.hid (Eq.refl w.heap.size)
  clear HW
  have c0 := hB.cell 0; have c3 := hB.cell 3; have c4 := hB.cell 4; have c5 := hB.cell 5; have c6 := hB.cell 6; have c7 := hB.cell 7; have c8 := hB.cell 8
  simp only [List.getElem?_toArray, List.getElem?_cons_zero, List.getElem?_cons_succ] at c0 c3 c4 c5 c6 c7 c8
  have HR := Lib.hid hr
  have cg := hr.c.2.2.2.2
  clear hr hB
  go_wp2_with fail
  refine (popenGroup9_calls _ cg).mono ?_
  rintro e w2 ⟨rfl, rfl⟩
  go_wp2_with fail
  go_ret
  exact ⟨rfl, HB0.out⟩
set_option maxRecDepth 100000 in
set_option maxHeartbeats 4000000 in
theorem ptake2 {base R : Nat} {s : ByteArray} {a n r : Nat} {l : List NdN} {st : List (Nat × Nat)} {gr : Nat} {vN vL : Value} {w0 : World} (p f : Int) (t : BitVec 256) (n' m' : Int) (w : World) (h : RdV base R s a ⟨l, (n, r) :: st, gr⟩ vN vL w0 w) (hst : st.length ≤ 1999990) (hg : gr < 9) :
    Calls Tryz.prog 48 #[.pointer (some ⟨R, 0, none⟩), .agg (woI 2 p f t n' m')] w fun e w' => e = .returned (.int .i64 0) ∧ ∃ vL', RdV base R s a ⟨l, (0, 0) :: (n, r) :: st, gr + 1⟩ vN vL' w0 w' := by
  have hB := Blk.new w (woI 2 p f t n' m') 91
  have hr := h.alloc (.cells (woI 2 p f t n' m') 91)
  have hb0 : Below w.heap.size w (w.alloc (.cells (woI 2 p f t n' m') 91)) := by go_grown
  clear h
  go_enter Tryz.func48, Tryz.ntmps48
  go_upto_region 1 with fail
  generalize w.alloc (.cells (woI 2 p f t n' m') 91) = w1 at *
  have HB0 := Lib.hid hb0
  clear hb0
  have HW := Lib.hid (Eq.refl w.heap.size)
  clear HW
  have c0 := hB.cell 0; have c3 := hB.cell 3; have c4 := hB.cell 4; have c5 := hB.cell 5; have c6 := hB.cell 6; have c7 := hB.cell 7; have c8 := hB.cell 8
  simp only [List.getElem?_toArray, List.getElem?_cons_zero, List.getElem?_cons_succ] at c0 c3 c4 c5 c6 c7 c8
  have HR := Lib.hid hr
  clear hr hB
  go_wp2_with fail
  refine (popenGroup_calls _ HR.out (by simp only [List.length_cons]; omega) hg).mono ?_
  rintro e w2 ⟨rfl, vL', hr2⟩
  go_wp2_with fail
  go_ret
  exact ⟨rfl, _, hr2⟩
set_option maxRecDepth 100000 in
set_option maxHeartbeats 4000000 in
theorem ptake3_8 {base R : Nat} {s : ByteArray} {a n r : Nat} {l : List NdN} {gr : Nat} {vN vL : Value} {w0 : World} (p f : Int) (t : BitVec 256) (n' m' : Int) (w : World) (h : RdV base R s a ⟨l, [(n, r)], gr⟩ vN vL w0 w) :
    Calls Tryz.prog 48 #[.pointer (some ⟨R, 0, none⟩), .agg (woI 3 p f t n' m')] w fun e w' => e = .returned (.int .i64 8) ∧ Below w.heap.size w w' := by
  have hB := Blk.new w (woI 3 p f t n' m') 91
  have hr := h.alloc (.cells (woI 3 p f t n' m') 91)
  have hb0 : Below w.heap.size w (w.alloc (.cells (woI 3 p f t n' m') 91)) := by go_grown
  clear h
  go_enter Tryz.func48, Tryz.ntmps48
  go_upto_region 1 with fail
  generalize w.alloc (.cells (woI 3 p f t n' m') 91) = w1 at *
  have HB0 := Lib.hid hb0
  clear hb0
  have HW := Lib.hid (Eq.refl w.heap.size)
  clear HW
  have c0 := hB.cell 0; have c3 := hB.cell 3; have c4 := hB.cell 4; have c5 := hB.cell 5; have c6 := hB.cell 6; have c7 := hB.cell 7; have c8 := hB.cell 8
  simp only [List.getElem?_toArray, List.getElem?_cons_zero, List.getElem?_cons_succ] at c0 c3 c4 c5 c6 c7 c8
  have HR := Lib.hid hr
  obtain ⟨g, cap, rfl, _⟩ := hr.top rfl
  have cl := hr.c.2.2.2.1
  clear hr hB
  go_wp2_with fail
  refine (pshutGroup8_calls _ cap _ cl).mono ?_
  rintro e w2 ⟨rfl, rfl⟩
  go_wp2_with fail
  go_ret
  exact ⟨rfl, HB0.out⟩
set_option maxRecDepth 100000 in
set_option maxHeartbeats 4000000 in
theorem ptake3 {base R : Nat} {s : ByteArray} {a n r : Nat} {l : List NdN} {st : List (Nat × Nat)} {gr : Nat} {vN vL : Value} {w0 : World} (p f : Int) (t : BitVec 256) (n' m' : Int) (w : World) {n2 r2 : Nat} (h : RdV base R s a ⟨l, (n, r) :: (n2, r2) :: st, gr⟩ vN vL w0 w) (hl : l.length ≤ 3999990) (hst : st.length ≤ 1999990) (hn : n ≤ 2000000) (hr' : r ≤ 2000000) (hn2 : n2 ≤ 2000000) :
    Calls Tryz.prog 48 #[.pointer (some ⟨R, 0, none⟩), .agg (woI 3 p f t n' m')] w fun e w' => e = .returned (.int .i64 0) ∧ ∃ vN' vL', RdV base R s a ⟨l ++ rowT n ++ rowsT (r + 1) ++ [ndG], (n2 + 1, r2) :: st, gr⟩ vN' vL' w0 w' := by
  have hB := Blk.new w (woI 3 p f t n' m') 91
  have hr := h.alloc (.cells (woI 3 p f t n' m') 91)
  have hb0 : Below w.heap.size w (w.alloc (.cells (woI 3 p f t n' m') 91)) := by go_grown
  clear h
  go_enter Tryz.func48, Tryz.ntmps48
  go_upto_region 1 with fail
  generalize w.alloc (.cells (woI 3 p f t n' m') 91) = w1 at *
  have HB0 := Lib.hid hb0
  clear hb0
  have HW := Lib.hid (Eq.refl w.heap.size)
  clear HW
  have c0 := hB.cell 0; have c3 := hB.cell 3; have c4 := hB.cell 4; have c5 := hB.cell 5; have c6 := hB.cell 6; have c7 := hB.cell 7; have c8 := hB.cell 8
  simp only [List.getElem?_toArray, List.getElem?_cons_zero, List.getElem?_cons_succ] at c0 c3 c4 c5 c6 c7 c8
  have HR := Lib.hid hr
  clear hr hB
  go_wp2_with fail
  refine (pshutGroup_calls _ HR.out hl hst hn hr' hn2).mono ?_
  rintro e w2 ⟨rfl, vN', vL', hr2⟩
  go_wp2_with fail
  go_ret
  exact ⟨rfl, _, _, hr2⟩
set_option maxRecDepth 100000 in
set_option maxHeartbeats 4000000 in
theorem ptake4 {base R : Nat} {s : ByteArray} {a n r : Nat} {l : List NdN} {st : List (Nat × Nat)} {gr : Nat} {vN vL : Value} {w0 : World} (p f : Int) (t : BitVec 256) (n' m' : Int) (w : World) (h : RdV base R s a ⟨l, (n, r) :: st, gr⟩ vN vL w0 w) (hl : l.length ≤ 3999990) (hst : st.length ≤ 1999990) (hn : n ≤ 2000000) (hr' : r ≤ 2000000) :
    Calls Tryz.prog 48 #[.pointer (some ⟨R, 0, none⟩), .agg (woI 4 p f t n' m')] w fun e w' => e = .returned (.int .i64 0) ∧ ∃ vN', RdV base R s a ⟨l ++ rowT n, (0, r + 1) :: st, gr⟩ vN' vL w0 w' := by
  have hB := Blk.new w (woI 4 p f t n' m') 91
  have hr := h.alloc (.cells (woI 4 p f t n' m') 91)
  have hb0 : Below w.heap.size w (w.alloc (.cells (woI 4 p f t n' m') 91)) := by go_grown
  clear h
  go_enter Tryz.func48, Tryz.ntmps48
  go_upto_region 1 with fail
  generalize w.alloc (.cells (woI 4 p f t n' m') 91) = w1 at *
  have HB0 := Lib.hid hb0
  clear hb0
  have HW := Lib.hid (Eq.refl w.heap.size)
  clear HW
  have c0 := hB.cell 0; have c3 := hB.cell 3; have c4 := hB.cell 4; have c5 := hB.cell 5; have c6 := hB.cell 6; have c7 := hB.cell 7; have c8 := hB.cell 8
  simp only [List.getElem?_toArray, List.getElem?_cons_zero, List.getElem?_cons_succ] at c0 c3 c4 c5 c6 c7 c8
  have HR := Lib.hid hr
  clear hr hB
  go_wp2_with fail
  refine (pendRow_calls _ HR.out (by omega) (by omega) hn hr').mono ?_
  rintro e w2 ⟨rfl, vN', hr2⟩
  go_wp2_with fail
  go_ret
  exact ⟨rfl, _, hr2⟩
set_option maxRecDepth 100000 in
set_option maxHeartbeats 4000000 in
theorem ptake5 {base R : Nat} {s : ByteArray} {a n r : Nat} {l : List NdN} {st : List (Nat × Nat)} {gr : Nat} {vN vL : Value} {w0 : World} (p f : Int) (t : BitVec 256) (n' m' : Int) (w : World) (h : RdV base R s a ⟨l, (n, r) :: st, gr⟩ vN vL w0 w) (hl : l.length ≤ 3999990) :
    Calls Tryz.prog 48 #[.pointer (some ⟨R, 0, none⟩), .agg (woI 5 p f t n' m')] w fun e w' => e = .returned (.int .i64 0) ∧ ∃ vN', RdV base R s a ⟨l ++ [⟨4, 1, n', m', 0⟩], (n, r) :: st, gr⟩ vN' vL w0 w' := by
  have hB := Blk.new w (woI 5 p f t n' m') 91
  have hr := h.alloc (.cells (woI 5 p f t n' m') 91)
  have hb0 : Below w.heap.size w (w.alloc (.cells (woI 5 p f t n' m') 91)) := by go_grown
  clear h
  have hA := fun W (h : RdV base R s a ⟨l, (n, r) :: st, gr⟩ vN vL w0 W) => padd_calls ⟨4, 1, n', m', 0⟩ W h (by simp only; omega)
  rw [nd_zero] at hA
  have HA := Lib.hid hA
  clear hA
  go_enter Tryz.func48, Tryz.ntmps48
  go_upto_region 1 with fail
  generalize w.alloc (.cells (woI 5 p f t n' m') 91) = w1 at *
  have HB0 := Lib.hid hb0
  clear hb0
  have HW := Lib.hid (Eq.refl w.heap.size)
  clear HW
  have c0 := hB.cell 0; have c3 := hB.cell 3; have c4 := hB.cell 4; have c5 := hB.cell 5; have c6 := hB.cell 6; have c7 := hB.cell 7; have c8 := hB.cell 8
  simp only [List.getElem?_toArray, List.getElem?_cons_zero, List.getElem?_cons_succ] at c0 c3 c4 c5 c6 c7 c8
  have HR := Lib.hid hr
  clear hr hB
  go_wp2_with fail
  refine (HA.out _ HR.out).mono ?_
  rintro e w2 ⟨rfl, vN', hr2⟩
  go_wp2_with fail
  go_ret
  exact ⟨rfl, _, hr2⟩
end Go.Proofs.YtbccojjcdcighaaGreatDoor

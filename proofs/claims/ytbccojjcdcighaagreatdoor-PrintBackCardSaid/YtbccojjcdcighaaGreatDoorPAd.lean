/- Texts put together: Jb Dp Dx Gy Dy Ha Ho. -/
import Derived.Test.YtbccojjcdcighaaGreatDoorPAc
import Derived.RegionTactic
import Derived.BigRegion
import Derived.BigQuiet
import Derived.Outline
import Derived.Deep.QuietTactic
import Derived.Deep.DeepCutAuto
import Derived.Deep.RegionHeld3
import Derived.Deep.RegionLaw
import Derived.Test.YtbccojjcdcighaaGreatDoorPB
import Derived.Test.YtbccojjcdcighaaGreatDoorPR
import Derived.Test.YtbccojjcdcighaaGreatDoorPD
import Derived.Laws.BytesArg
import Derived.Laws.Concat
import Derived.IntWalk
import Derived.Lib.Hide
import Derived.Test.YtbccojjcdcighaaGreatDoorPY
import Derived.Laws.ResultCell
import Derived.Lib.SlBytesConst
import Derived.Deep.CutBlock
import Derived.Test.YtbccojjcdcighaaGreatDoorPM
namespace Go.Proofs.YtbccojjcdcighaaGreatDoor
open Go.RowKit BS
set_option maxRecDepth 100000 in
set_option maxHeartbeats 1000000 in
theorem popen_calls (R k : Nat) (ad : Option Addr) (cap : Nat) (w : World) (h3 : w.cell? ⟨R, 3, none⟩ = some (.slice ad (k + 1 : Nat) cap)) (hk : k ≤ 2000000) :
    Calls Tryz.prog 28 #[.pointer (some ⟨R, 0, none⟩)] w fun e w' => e = .returned (.int .i64 k) ∧ w = w' := by
  go_enter Tryz.func28, Tryz.ntmps28
  go_wp2_with fail
  go_ret
  exact ⟨rfl, rfl⟩
set_option maxRecDepth 100000 in
set_option maxHeartbeats 1000000 in
theorem plevel_calls (R g k cap : Nat) (w : World) (h3 : w.cell? ⟨R, 3, none⟩ = some (.slice (some ⟨g, 0, none⟩) (k + 1 : Nat) cap)) (hk : k ≤ 2000000) :
    Calls Tryz.prog 46 #[.pointer (some ⟨R, 0, none⟩)] w fun e w' => e = .returned (.pointer (some ⟨g, k * 2, none⟩)) ∧ Below w.heap.size w w' := by
  have q0 : (0 : Int) ≤ (k : Int) := by omega
  have q1 : (k : Int) < ((k + 1 : Nat) : Int) := by omega
  go_enter Tryz.func46, Tryz.ntmps46
  go_wp2_with fail
  go_quiet (fail)
  go_wp2_with fail
  go_ret
  exact ⟨rfl, below_drN (Below.refl _ _) _⟩
set_option maxRecDepth 100000 in
set_option maxHeartbeats 8000000 in
theorem padd_calls {base R : Nat} {s : ByteArray} {a : Nat} {x : PS} {vN vL : Value} {w0 : World} (nd : NdN) (w : World) (h : RdV base R s a x vN vL w0 w) (hl : x.l.length ≤ 4000000) :
    Calls Tryz.prog 50 #[.pointer (some ⟨R, 0, none⟩), .agg (ndA nd)] w fun e w' => e = .returned (.tuple #[]) ∧ ∃ vN', RdV base R s a ⟨x.l ++ [nd], x.st, x.groups⟩ vN' vL w0 w' := by
  obtain ⟨i0, hi0, hz0, hz1, hz2⟩ := info_parts info8n
  obtain ⟨k, c, n, m, t⟩ := nd
  have hB := Blk.new w (ndI k c n m t) 45
  have hr := h.alloc (.cells (ndI k c n m t) 45)
  have hne : vN.ownBlock ≠ some w.heap.size := fun e => by have := owns_lt h.nodes e; omega
  have hRlt := h.blk.lt
  clear h
  show Calls Tryz.prog 50 #[.pointer (some ⟨R, 0, none⟩), .agg (ndI k c n m t)] w fun e w' => e = .returned (.tuple #[]) ∧ ∃ vN', RdV base R s a ⟨x.l ++ [⟨k, c, n, m, t⟩], x.st, x.groups⟩ vN' vL w0 w'
  go_enter Tryz.func50, Tryz.ntmps50
  go_upto_region 1 with fail
  generalize w.alloc (.cells (ndI k c n m t) 45) = w1 at *
  generalize w.heap.size = B1 at *
  have cR := hr.c.2.2.1
  have c0 := hB.cell 0; have c1 := hB.cell 1; have c2 := hB.cell 2; have c3 := hB.cell 3; have c4 := hB.cell 4; have c5 := hB.cell 5; have c6 := hB.cell 6; have c7 := hB.cell 7
  simp only [List.getElem?_toArray, List.getElem?_cons_zero, List.getElem?_cons_succ] at c0 c1 c2 c3 c4 c5 c6 c7
  have hBlt := hB.lt
  have hRlt1 := hr.blk.lt
  have nR := hr.nR
  have hsz := hr.size
  have HR := Lib.hid hr
  have ffR := hr.blk.frozen 2
  clear hr hB
  go_region_law
    ((refine step_append_lies _ (by rfl) _ _ _ (by rfl) base 45 i0 _ 8 64 Tryz.underlying22 hi0 hz0 hz1 hz2 rfl (by omega) vN x.l.length (ndCells x.l) (by rfl) ((HR.out.alloc _).drew).nodes
        ⟨w1.heap.size, 0, none⟩ 1 1 (ndI k c n m t).toList (by rfl) (by rfl) (World.news_of_block (cs := ndI k c n m t) (t := 45) (fr := (0, 0)) (heap_alloc_new w1 _)) (by simp [Value.oneCell'])
        (by omega) (by simp only [maxLen]; omega) (by omega) (by simp; omega) (w1.heap.size + 1) (by simp) ?_; intro g cap w2 hown hgrow hat hlt; have ff2 : w2.frozen? ⟨R, 2, none⟩ = false := (((HR.out.alloc _).drew).blk.kept hgrow (Ne.symm nR)).frozen 2; have cc2 : w2.cell? ⟨R, 2, none⟩ = some vN := (((HR.out.alloc _).drew).blk.kept hgrow (Ne.symm nR)).cell 2))
  all_goals
    go_wp2_with fail
    go_end0
    exact ⟨rfl, _, ((HR.out.alloc _).drew).pushN hown hgrow (hat.imp id fun e => by rw [e]; simp)⟩
set_option maxRecDepth 100000 in
set_option maxHeartbeats 4000000 in
theorem paddPiece_calls {base R : Nat} {s : ByteArray} {a n r : Nat} {l : List NdN} {st : List (Nat × Nat)} {gr : Nat} {vN vL : Value} {w0 : World} (nd : NdN) (w : World) (h : RdV base R s a ⟨l, (n, r) :: st, gr⟩ vN vL w0 w) (hl : l.length ≤ 4000000) (hst : st.length ≤ 2000000) (hn : n ≤ 2000000) :
    Calls Tryz.prog 72 #[.pointer (some ⟨R, 0, none⟩), .agg (ndA nd)] w fun e w' => e = .returned (.tuple #[]) ∧ ∃ vN', RdV base R s a ⟨l ++ [nd], (n + 1, r) :: st, gr⟩ vN' vL w0 w' := by
  have HA := Lib.hid (fun W vN x (h : RdV base R s a x vN vL w0 W) => padd_calls nd W h)
  obtain ⟨k, c, n', m, t⟩ := nd
  have hB := Blk.new w (ndI k c n' m t) 45
  have hr := h.alloc (.cells (ndI k c n' m t) 45)
  clear h
  show Calls Tryz.prog 72 #[.pointer (some ⟨R, 0, none⟩), .agg (ndI k c n' m t)] w fun e w' => e = .returned (.tuple #[]) ∧ ∃ vN', RdV base R s a ⟨l ++ [⟨k, c, n', m, t⟩], (n + 1, r) :: st, gr⟩ vN' vL w0 w'
  go_enter Tryz.func72, Tryz.ntmps72
  go_upto_region 1 with fail
  generalize w.alloc (.cells (ndI k c n' m t) 45) = w1 at *
  generalize w.heap.size = B1 at *
  have c0 := hB.cell 0; have c1 := hB.cell 1; have c2 := hB.cell 2; have c3 := hB.cell 3; have c4 := hB.cell 4; have c5 := hB.cell 5; have c6 := hB.cell 6; have c7 := hB.cell 7
  simp only [List.getElem?_toArray, List.getElem?_cons_zero, List.getElem?_cons_succ] at c0 c1 c2 c3 c4 c5 c6 c7
  have HR := Lib.hid hr
  clear hr hB
  go_wp2_with fail
  refine (HA.out _ _ _ HR.out hl).mono ?_
  rintro e w2 ⟨rfl, vN', hr⟩
  clear HA HR c0 c1 c2 c3 c4 c5 c6 c7
  obtain ⟨g, cap, rfl, hbg, hgl, hgR, hcap, t0, t1, f0, f1, _⟩ := hr.top rfl
  have HL := Lib.hid (plevel_calls R g st.length cap w2 hr.c.2.2.2.1 hst)
  have HR := Lib.hid hr
  clear t0 t1 f0 f1 hr hgl
  go_wp2_with fail
  refine HL.out.mono ?_
  rintro e w3 ⟨rfl, hb⟩
  clear HL
  have hr := HR.out.below hb
  obtain ⟨_, _, e, _, _, _, _, t0, t1, f0, f1, _⟩ := hr.top rfl
  cases e
  clear HR hb
  have HR := Lib.hid hr
  clear hr
  go_wp2_with fail
  go_end0
  exact ⟨rfl, _, HR.out.put rfl (n + 1)⟩
end Go.Proofs.YtbccojjcdcighaaGreatDoor

namespace Go.Proofs.YtbccojjcdcighaaGreatDoor
open Go.RowKit BS
structure DP where
  set : BitVec 256
  fin : Nat
  err : Nat
  lack : ByteArray
def isN (s : ByteArray) (i : Nat) (L : List Nat) : Bool := decide (i < s.size) && L.contains (bt s i)
def shortD (s l : ByteArray) : DP := ⟨0, s.size, 2, l⟩
def badD (e p : Nat) : DP := ⟨0, p, e, eT⟩
def okD (t : BitVec 256) (p : Nat) : DP := ⟨t, p, 0, eT⟩
def betweenD (s : ByteArray) (i : Nat) : DP :=
  if bt s (i + 2) < bt s i then badD 4 (i + 3)
  else if bt s (i + 2) = 91 ∧ isN s (i + 3) [58, 46, 61] = true then badD 3 (i + 4)
  else okD (range (bt s i) (bt s (i + 2))) (i + 3)
def nmEnd (s : ByteArray) (a : Nat) : Nat → Nat → Nat
  | 0, e => e
  | n + 1, e => if begB (s.extract a (e + 1)) = true then nmEnd s a n (e + 1) else e
def restD (l : ByteArray) : ByteArray := ((tabL.find? fun e => pfx e.1 l).map (fun e => e.1.extract l.size e.1.size)).getD eT
def colT : ByteArray := ofT [58, 93, 93]
def twoT : ByteArray := ofT [93, 93]
def oneT : ByteArray := ofT [93]
def behindD (s : ByteArray) (a e : Nat) : DP :=
  if e = s.size then shortD s (restD (s.extract a s.size) ++ colT)
  else if ofB (s.extract a e).toList = false ∨ bt s e ≠ 58 then badD 5 (e + 1)
  else if e + 1 = s.size then shortD s twoT
  else if bt s (e + 1) ≠ 93 then badD 3 (e + 2)
  else okD (ofS (s.extract a e).toList) (e + 2)
def namedD (s : ByteArray) (a : Nat) : DP := behindD s a (nmEnd s a (s.size - a) a)
def thingD (s : ByteArray) (i : Nat) : DP :=
  if bt s i = 91 ∧ isN s (i + 1) [58] = true then namedD s (i + 2)
  else if bt s i = 91 ∧ isN s (i + 1) [46, 61] = true then badD 3 (i + 2)
  else if (isN s (i + 1) [45] = true ∧ i + 2 < s.size) ∧ bt s (i + 2) ≠ 93 then betweenD s i
  else okD (range (bt s i) (bt s i)) (i + 1)
def loopD (s : ByteArray) (first : Nat) : Nat → BitVec 256 → Nat → DP
  | 0, t, i => okD t i
  | n + 1, t, i =>
    if i = s.size ∧ i = first then shortD s twoT
    else if i = s.size then shortD s oneT
    else if bt s i = 93 ∧ first < i then okD t (i + 1)
    else if (thingD s i).err ≠ 0 then thingD s i
    else loopD s first n (t ||| (thingD s i).set) (thingD s i).fin
def thingsD (s : ByteArray) (first : Nat) : DP := loopD s first (s.size + 1 - first) 0 first
def negD (p : DP) : DP := ⟨~~~p.set, p.fin, p.err, p.lack⟩
def wholeD (s : ByteArray) (at' : Int) : DP :=
  if at' < 0 then badD 1 0
  else if isN s at'.toNat [91] = false then badD 1 0
  else if isN s (at'.toNat + 1) [94] = false then thingsD s (at'.toNat + 1)
  else negD (thingsD s (at'.toNat + 2))
def readD (s : ByteArray) (at' : Int) : BitVec 256 × Nat × Nat × Nat :=
  if (wholeD s at').err ≠ 0 then (0, 0, (wholeD s at').err, (wholeD s at').fin) else ((wholeD s at').set, (wholeD s at').fin, 0, 0)
theorem isN_lt {s : ByteArray} {i : Nat} {L : List Nat} (h : isN s i L = true) : i < s.size := by
  unfold isN at h; simp at h; exact h.1
theorem isN_one (s : ByteArray) (i b : Nat) : isN s i [b] = true ↔ i < s.size ∧ bt s i = b := by
  unfold isN; simp
theorem isN_two (s : ByteArray) (i b c : Nat) : isN s i [b, c] = true ↔ i < s.size ∧ (bt s i = b ∨ bt s i = c) := by
  unfold isN; simp
theorem isN_three (s : ByteArray) (i b c d : Nat) : isN s i [b, c, d] = true ↔ i < s.size ∧ (bt s i = b ∨ bt s i = c ∨ bt s i = d) := by
  unfold isN; simp
theorem spec3_iff (b : Nat) : spec3 b = true ↔ b = 58 ∨ b = 46 ∨ b = 61 := by
  unfold spec3; simp [or_assoc]
def finD (neg : Bool) (p : DP) : BitVec 256 × Nat × Nat × Nat := if p.err ≠ 0 then (0, 0, p.err, p.fin) else (if neg = true then ~~~p.set else p.set, p.fin, 0, 0)
theorem no_colon : ∀ k, k < 12 → ∀ j, j < 16 → bt (tE k).1 j ≠ 58 := by decide +kernel
theorem name_len : ∀ k, k < 12 → (tE k).1.size ≤ 16 ∧ 0 < (tE k).1.size := by decide +kernel
theorem pfx_bt {nm l : ByteArray} (h : pfx nm l = true) : l.size ≤ nm.size ∧ ∀ i, i < l.size → bt l i = bt nm i := by
  unfold pfx at h
  rw [Bool.and_eq_true, decide_eq_true_eq, beq_iff_eq] at h
  obtain ⟨h1, h2⟩ := h
  refine ⟨h1, fun i hi => ?_⟩
  have e : bt (nm.extract 0 l.size) i = bt nm (0 + i) := bt_extract nm 0 l.size i h1 (by omega)
  rw [Nat.zero_add] at e
  rw [← e]
  have e2 : nm.extract 0 l.size = l := by
    apply ByteArray.ext
    apply Array.toList_inj.1
    have := h2
    rw [ByteArray.toList_eq, ByteArray.toList_eq] at this
    exact this
  rw [e2]
theorem begB_iff (l : ByteArray) : begB l = true ↔ ∃ k, k < 12 ∧ pfx (tE k).1 l = true := by
  constructor
  · intro h
    refine Decidable.byContradiction fun hc => ?_
    rw [begB_not l (fun j hj => ?_)] at h
    · exact absurd h (by decide)
    · cases hp : pfx (tE j).1 l with
      | false => rfl
      | true => exact absurd ⟨j, hj, hp⟩ hc
  · rintro ⟨k, hk, h⟩
    exact begB_at l k hk h
theorem beg_colon (s : ByteArray) (a e : Nat) (ha : a ≤ e) (he : e < s.size) (h : bt s e = 58) : begB (s.extract a (e + 1)) = false := by
  cases hb : begB (s.extract a (e + 1)) with
  | false => rfl
  | true =>
    obtain ⟨k, hk, hp⟩ := (begB_iff _).1 hb
    obtain ⟨h1, h2⟩ := pfx_bt hp
    have hs : (s.extract a (e + 1)).size = e + 1 - a := by rw [ByteArray.size_extract]; omega
    have h3 := h2 (e - a) (by omega)
    rw [bt_extract s a (e + 1) (e - a) (by omega) (by omega), show a + (e - a) = e by omega, h] at h3
    have := (name_len k hk).1
    exact absurd h3.symm (no_colon k hk (e - a) (by omega))
end Go.Proofs.YtbccojjcdcighaaGreatDoor

namespace Go.Proofs.YtbccojjcdcighaaGreatDoor
open Go.RowKit Go.Shelf BS
set_option maxRecDepth 100000 in
set_option maxHeartbeats 2000000 in
theorem run_calls (lo hi : Nat) (hl : lo ≤ hi) (hh : hi < 256) (w : World) : Calls Tryz.prog 107 #[.int .u8 lo, .int .u8 hi] w fun e w' => e = .returned (.string (ofT (runT (lo, hi)))) ∧ Below w.heap.size w w' := by
  by_cases h0 : hi = lo
  · have hr : runT (lo, hi) = [lo] := by unfold runT; rw [if_neg (by simp only; omega), if_neg (by simp only; omega)]; rfl
    have q : ((hi : Int) - (lo : Int) == 0) = true := by rw [beq_iff_eq]; omega
    have hcv : ∀ W : World, (convert 70 9 (.slice (some ⟨W.heap.size, 0, none⟩) 1 1)).run Tryz.prog (W.alloc (.cells #[.int .u8 lo] 5)) = .ok (.string (ofT [lo])) (W.alloc (.cells #[.int .u8 lo] 5)) := fun W => cv1 W _ lo
    rw [hr]
    clear hr h0
    go_enter Tryz.func107, Tryz.ntmps107
    go_wp2_with fail
    go_ret
    exact ⟨rfl, by go_grown⟩
  have q : ((hi : Int) - (lo : Int) == 0) = false := by rw [beq_eq_false_iff_ne]; omega
  by_cases h1 : hi = lo + 1
  · have hr : runT (lo, hi) = [lo, hi] := by unfold runT; rw [if_neg (by simp only; omega), if_pos (by simp only; omega)]; rfl
    have q1 : ((hi : Int) - (lo : Int) == 1) = true := by rw [beq_iff_eq]; omega
    have hcv : ∀ W : World, (convert 70 9 (.slice (some ⟨W.heap.size, 0, none⟩) 2 2)).run Tryz.prog (W.alloc (.cells #[.int .u8 lo, .int .u8 hi] 5)) = .ok (.string (ofT [lo, hi])) (W.alloc (.cells #[.int .u8 lo, .int .u8 hi] 5)) := fun W => cv2 W _ lo hi
    rw [hr]
    clear hr h0 h1
    go_enter Tryz.func107, Tryz.ntmps107
    go_wp2_with fail
    go_ret
    exact ⟨rfl, by go_grown⟩
  have q1 : ((hi : Int) - (lo : Int) == 1) = false := by rw [beq_eq_false_iff_ne]; omega
  have hr : runT (lo, hi) = [lo, 45, hi] := by unfold runT; rw [if_pos (by simp only; omega), if_pos (by simp only; omega)]; rfl
  have hcv : ∀ W : World, (convert 70 9 (.slice (some ⟨W.heap.size, 0, none⟩) 3 3)).run Tryz.prog (W.alloc (.cells #[.int .u8 lo, .int .u8 45, .int .u8 hi] 5)) = .ok (.string (ofT [lo, 45, hi])) (W.alloc (.cells #[.int .u8 lo, .int .u8 45, .int .u8 hi] 5)) := fun W => cv3 W _ lo 45 hi
  rw [hr]
  clear hr h0 h1
  go_enter Tryz.func107, Tryz.ntmps107
  go_wp2_with fail
  go_ret
  exact ⟨rfl, by go_grown⟩
def acc (s : BitVec 256) (B : ByteArray) : Nat → ByteArray
  | 0 => eT
  | k + 1 => if s.getLsbD (bt B k) = true then acc s B k ++ B.extract k (k + 1) else acc s B k
theorem acc_size (s : BitVec 256) (B : ByteArray) : ∀ k, (acc s B k).size ≤ k
  | 0 => Nat.le_refl _
  | k + 1 => by
    have h := acc_size s B k
    rw [acc]
    split
    · rw [ByteArray.size_append, ByteArray.size_extract]; omega
    · omega
theorem acc_yes (s : BitVec 256) (B : ByteArray) (k : Nat) (h : s.getLsbD (bt B k) = true) : acc s B (k + 1) = acc s B k ++ B.extract k (k + 1) := by rw [acc, if_pos h]
theorem acc_no (s : BitVec 256) (B : ByteArray) (k : Nat) (h : s.getLsbD (bt B k) = false) : acc s B (k + 1) = acc s B k := by rw [acc, if_neg (by rw [h]; decide)]
def STh (w : World) (s : BitVec 256) (W : World) : Prop := Blk W w.heap.size (setA s) 43 ∧ Below w.heap.size w W
theorem STh.keep {w W W' : World} {s : BitVec 256} (h : STh w s W) (hb : Below W.heap.size W W') : STh w s W' := ⟨h.1.below hb h.1.lt, h.2.trans (hb.mono h.2.size)⟩
theorem STh.drewS {w W : World} {s : BitVec 256} (h : STh w s W) : STh w s W.drew := ⟨h.1, h.2.drew⟩
set_option maxRecDepth 100000 in
set_option maxHeartbeats 4000000 in
theorem those_calls (s : BitVec 256) (B : ByteArray) (hB : B.size ≤ 1000000) (w : World) : Calls Tryz.prog 104 #[setV s, .string B] w fun e w' => e = .returned (.string (acc s B B.size)) ∧ Below w.heap.size w w' := by
  have h0 : STh w s (w.alloc (.cells (setA s) 43)) := ⟨Blk.new w _ _, by go_grown⟩
  go_enter Tryz.func104, Tryz.ntmps104
  go_wp2_with fail
  have e0 : w.alloc (.cells #[.int .u64 (wd s 0), .int .u64 (wd s 1), .int .u64 (wd s 2), .int .u64 (wd s 3)] 43) = w.alloc (.cells (setA s) 43) := rfl
  rw [e0]
  clear e0
  generalize w.alloc (.cells (setA s) 43) = w1 at *
  go_loopw [5, 9] (fun t v wr => ∃ k : Nat, k ≤ B.size ∧ v = .int .i64 k ∧ t = .string (acc s B k) ∧ STh w s wr) (fun _ v _ => B.size - (intOf v).toNat)
  case atStart => exact ⟨0, Nat.zero_le _, rfl, rfl, h0⟩
  case round =>
    clear h0
    obtain ⟨k, hk, rfl, rfl, hS⟩ := hrel
    by_cases hkl : k < B.size
    · have b0 : B[k].toNat = bt B k := (bt_eq B k hkl).symm
      have hlb := bt_lt B k
      have hz := acc_size s B k
      have hh := fun w' => has_calls s (bt B k) w' (by omega) (by omega)
      rw [show ((bt B k : Int)).toNat = bt B k from rfl] at hh
      cases hc : s.getLsbD (bt B k) with
      | false =>
        have HA := Lib.hid (acc_no s B k hc)
        rw [hc] at hh
        have HH := Lib.hid hh
        clear hh hc
        generalize acc s B k = t at *
        go_upto_region 5 with fail
        refine region_steps (S := STh w s) (by kernel_rfl) (STh.drewS hS) ?_
        clear hS
        simp only [List.size_toArray, List.length_cons, List.length_nil, Nat.reduceAdd, Array.replicate_succ, Array.replicate_zero, List.push_toArray, List.nil_append, List.cons_append]
        refine AnyS.next (i := 0) (d := some 12) (v := setV s) rfl rfl (by kernel_rfl) (by kernel_rfl) (by kernel_rfl) (StepsIf.yield (by kernel_rfl) (fun w' hS => by obtain ⟨⟨c0, c1, c2, c3⟩, _⟩ := hS.1.cells4; clear hS; go_simp)) ?_
        intro a' ha'
        simp only [Act.put, List.setIfInBounds_toArray, List.set_cons_zero, List.set_cons_succ] at ha'
        subst ha'
        refine AnyS.stepE (i := 1) (d := some 13) rfl rfl (by kernel_rfl) (by kernel_rfl) (by kernel_rfl) ?_
        apply Exists.intro
        apply And.intro
        · apply StepsIf.yield
          · kernel_rfl
          intro w' hS
          clear hS; go_simp
          rfl
        intro a' ha'
        simp only [Act.put, List.setIfInBounds_toArray, List.set_cons_zero, List.set_cons_succ] at ha'
        subst ha'
        refine AnyS.stepE (i := 2) (d := some 14) rfl rfl (by kernel_rfl) (by kernel_rfl) (by kernel_rfl) ?_
        apply Exists.intro
        apply And.intro
        · apply StepsIf.yield
          · kernel_rfl
          intro w' hS
          clear hS; go_simp
          rfl
        intro a' ha'
        simp only [Act.put, List.setIfInBounds_toArray, List.set_cons_zero, List.set_cons_succ] at ha'
        subst ha'
        refine AnyS.next (i := 3) (d := some 15) (v := .int .u8 (bt B k)) rfl rfl (by kernel_rfl) (by kernel_rfl) (by kernel_rfl) (StepsIf.yield (by kernel_rfl) (fun w' hS => by clear hS; go_simp)) ?_
        intro a' ha'
        simp only [Act.put, List.setIfInBounds_toArray, List.set_cons_zero, List.set_cons_succ] at ha'
        subst ha'
        refine AnyS.next (i := 4) (d := some 16) (v := .bool false) rfl rfl (by kernel_rfl) (by kernel_rfl) (by kernel_rfl) (StepsIf.call (by kernel_rfl) (fun w' hS => by clear hS; go_simp) (fun w' hS => (HH.out w').mono fun e w'' h => ⟨h.1, STh.keep hS h.2⟩)) ?_
        intro a' ha'
        simp only [Act.put, List.setIfInBounds_toArray, List.set_cons_zero, List.set_cons_succ] at ha'
        subst ha'
        refine AnyS.done (by kernel_rfl) (fun w' hS => ?_) _
        go_wp2_with fail
        go_roundw
        case rel => exact ⟨k + 1, by omega, by simp, by rw [HA.out], hS⟩
        case measure => simp [intOf]; omega
      | true =>
        have HA := Lib.hid (acc_yes s B k hc)
        rw [hc] at hh
        have HH := Lib.hid hh
        have hadd : ∀ w, (Op.stringOp .add (acc s B k) (B.extract k (k + 1))).run Tryz.prog w = .ok (.string (acc s B k ++ B.extract k (k + 1))) w := fun w => run_string_add_sum w _ _ (by rw [ByteArray.size_extract]; omega)
        clear hh hc
        generalize acc s B k = t at *
        go_upto_region 5 with fail
        refine region_steps (S := STh w s) (by kernel_rfl) (STh.drewS hS) ?_
        clear hS
        simp only [List.size_toArray, List.length_cons, List.length_nil, Nat.reduceAdd, Array.replicate_succ, Array.replicate_zero, List.push_toArray, List.nil_append, List.cons_append]
        refine AnyS.next (i := 0) (d := some 12) (v := setV s) rfl rfl (by kernel_rfl) (by kernel_rfl) (by kernel_rfl) (StepsIf.yield (by kernel_rfl) (fun w' hS => by obtain ⟨⟨c0, c1, c2, c3⟩, _⟩ := hS.1.cells4; clear hS; go_simp)) ?_
        intro a' ha'
        simp only [Act.put, List.setIfInBounds_toArray, List.set_cons_zero, List.set_cons_succ] at ha'
        subst ha'
        refine AnyS.stepE (i := 1) (d := some 13) rfl rfl (by kernel_rfl) (by kernel_rfl) (by kernel_rfl) ?_
        apply Exists.intro
        apply And.intro
        · apply StepsIf.yield
          · kernel_rfl
          intro w' hS
          clear hS; go_simp
          rfl
        intro a' ha'
        simp only [Act.put, List.setIfInBounds_toArray, List.set_cons_zero, List.set_cons_succ] at ha'
        subst ha'
        refine AnyS.stepE (i := 2) (d := some 14) rfl rfl (by kernel_rfl) (by kernel_rfl) (by kernel_rfl) ?_
        apply Exists.intro
        apply And.intro
        · apply StepsIf.yield
          · kernel_rfl
          intro w' hS
          clear hS; go_simp
          rfl
        intro a' ha'
        simp only [Act.put, List.setIfInBounds_toArray, List.set_cons_zero, List.set_cons_succ] at ha'
        subst ha'
        refine AnyS.next (i := 3) (d := some 15) (v := .int .u8 (bt B k)) rfl rfl (by kernel_rfl) (by kernel_rfl) (by kernel_rfl) (StepsIf.yield (by kernel_rfl) (fun w' hS => by clear hS; go_simp)) ?_
        intro a' ha'
        simp only [Act.put, List.setIfInBounds_toArray, List.set_cons_zero, List.set_cons_succ] at ha'
        subst ha'
        refine AnyS.next (i := 4) (d := some 16) (v := .bool true) rfl rfl (by kernel_rfl) (by kernel_rfl) (by kernel_rfl) (StepsIf.call (by kernel_rfl) (fun w' hS => by clear hS; go_simp) (fun w' hS => (HH.out w').mono fun e w'' h => ⟨h.1, STh.keep hS h.2⟩)) ?_
        intro a' ha'
        simp only [Act.put, List.setIfInBounds_toArray, List.set_cons_zero, List.set_cons_succ] at ha'
        subst ha'
        refine AnyS.done (by kernel_rfl) (fun w' hS => ?_) _
        go_wp2_with fail
        go_roundw
        case rel => exact ⟨k + 1, by omega, by simp, by rw [HA.out], hS⟩
        case measure => simp [intOf]; omega
    · obtain rfl : k = B.size := by omega
      have hB := hS.2
      clear hS
      go_wp2_with fail
      go_ret
      exact ⟨rfl, hB⟩
theorem acc_one (s : BitVec 256) (a : Nat) (ha : a < 256) : acc s (ofT [a]) 1 = ofT (iT (s.getLsbD a) a) := by
  have hb : bt (ofT [a]) 0 = a := bt_ofT [a] (by simpa using ha) 0 (by simp)
  have he : (ofT [a]).extract 0 1 = ofT [a] := by apply ByteArray.ext; simp [ofT]
  rw [acc, hb, acc, eT_app]
  unfold iT
  split
  · rw [he]
  · rfl
theorem acc_two (s : BitVec 256) (a b : Nat) (ha : a < 256) (hb : b < 256) : acc s (ofT [a, b]) 2 = ofT (iT (s.getLsbD a) a ++ iT (s.getLsbD b) b) := by
  have hL : ∀ x ∈ [a, b], x < 256 := by simp; omega
  have h0 : bt (ofT [a, b]) 0 = a := bt_ofT [a, b] hL 0 (by simp)
  have h1 : bt (ofT [a, b]) 1 = b := bt_ofT [a, b] hL 1 (by simp)
  have e0 : (ofT [a, b]).extract 0 1 = ofT [a] := by apply ByteArray.ext; simp [ofT]
  have e1 : (ofT [a, b]).extract 1 2 = ofT [b] := by apply ByteArray.ext; simp [ofT]
  rw [acc, acc, h0, h1, acc, eT_app]
  unfold iT
  rw [← ofT_append]
  by_cases g0 : s.getLsbD a = true <;> by_cases g1 : s.getLsbD b = true <;> simp only [g0, g1, if_true, if_false, Bool.false_eq_true, e0, e1]
  · apply ByteArray.ext; simp [ofT]
  · rfl
  · rfl
end Go.Proofs.YtbccojjcdcighaaGreatDoor

namespace Go.Proofs.YtbccojjcdcighaaGreatDoor
open Go.RowKit Go.Shelf BS
theorem four_eq : withL 0 [93, 91, 94, 45] = fourS := by decide +kernel
theorem up_eq : withL 0 [94] = range 94 94 := by decide +kernel
theorem four_c (w : World) (v : Value) (a : Option Addr) (hv : v = .slice a 4 4) (h : BytesAt w.heap.size w v [93, 91, 94, 45]) : Calls Tryz.prog 86 #[setV 0, v] w fun e w' => e = .returned (setV fourS) ∧ Below w.heap.size w w' := by
  subst hv
  have := rwith_calls 0 a 4 4 [93, 91, 94, 45] (by decide) w h
  rw [four_eq] at this; exact this
theorem up_c (w : World) (v : Value) (a : Option Addr) (hv : v = .slice a 1 1) (h : BytesAt w.heap.size w v [94]) : Calls Tryz.prog 86 #[setV 0, v] w fun e w' => e = .returned (setV (range 94 94)) ∧ Below w.heap.size w w' := by
  subst hv
  have := rwith_calls 0 a 1 1 [94] (by decide) w h
  rw [up_eq] at this; exact this
theorem bytes_mark (W : World) (t : TypeId) (l : List (Fin 256)) (m : Nat × Nat) : BytesAt (W.alloc (.cells (byW l) t m)).heap.size (W.alloc (.cells (byW l) t m)) (.slice (some ⟨W.heap.size, 0, none⟩) l.length l.length) l := by
  refine ⟨_, l.length, rfl, fun _ => ⟨W.heap.size, 0, rfl, by simp, fun j hj => ?_⟩⟩
  rw [Nat.zero_add, World.cell?_alloc_mark]
  simp [byW, hj]
theorem eq_zero (s : BitVec 256) (w : World) : (Op.equalIn 10000 43 (setV s) (.agg #[.int .u64 0, .int .u64 0, .int .u64 0, .int .u64 0])).run Tryz.prog w = .ok (decide (s = 0)) w := by rw [empty_set]; exact eq_set s 0 w
set_option maxRecDepth 100000 in
set_option maxHeartbeats 8000000 in
theorem rText_zero (s : BitVec 256) (h0 : s = 0) (w : World) :
    Calls Tryz.prog 61 #[setV s] w fun e w' => e = .returned (.string (ofT (textT s))) ∧ Below w.heap.size w w' := by
  have b0 := Blk.new w (setA s) 43
  have hB0 : Below w.heap.size w (w.alloc (.cells (setA s) 43)) := by go_grown
  have hq := eq_zero s
  have q : decide (s = 0) = true := by simpa using h0
  have hres : textT s = [91, 94, 0, 45, 255, 93] := by unfold textT; rw [if_pos h0]
  rw [hres]
  rw [q] at hq
  clear h0 q hres
  obtain ⟨⟨c0, c1, c2, c3⟩, f0, f1, f2, f3⟩ := b0.cells4
  go_enter Tryz.func61, Tryz.ntmps61
  go_wp2_with fail
  exact bodyPost_ret (v := .string (ofT [91, 94, 0, 45, 255, 93])) (by simp [results, Tryz.results61, go_sem]; rfl) rfl ⟨rfl, hB0⟩
end Go.Proofs.YtbccojjcdcighaaGreatDoor

namespace Go.Proofs.YtbccojjcdcighaaGreatDoor
open Go.RowKit Go.Shelf BS
theorem th_c (s : BitVec 256) (L : List Nat) (M : List Nat) (hL : L.length ≤ 2) (h : acc s (ofT L) L.length = ofT M) (w : World) : Calls Tryz.prog 104 #[setV s, .string (ofT L)] w fun e w' => e = .returned (.string (ofT M)) ∧ Below w.heap.size w w' := by
  have h1 := those_calls s (ofT L) (by rw [size_ofT]; omega) w
  rw [size_ofT, h] at h1
  exact h1
theorem th93 (s : BitVec 256) (w : World) : Calls Tryz.prog 104 #[setV s, .string ⟨#[93]⟩] w fun e w' => e = .returned (.string (ofT (iT (s.getLsbD 93) 93))) ∧ Below w.heap.size w w' := th_c s [93] _ (by decide) (acc_one s 93 (by decide)) w
theorem th91 (s : BitVec 256) (w : World) : Calls Tryz.prog 104 #[setV s, .string ⟨#[91]⟩] w fun e w' => e = .returned (.string (ofT (iT (s.getLsbD 91) 91))) ∧ Below w.heap.size w w' := th_c s [91] _ (by decide) (acc_one s 91 (by decide)) w
theorem thA (s : BitVec 256) (w : World) : Calls Tryz.prog 104 #[setV s, .string ⟨#[94, 45]⟩] w fun e w' => e = .returned (.string (ofT (iT (s.getLsbD 94) 94 ++ iT (s.getLsbD 45) 45))) ∧ Below w.heap.size w w' := th_c s [94, 45] _ (by decide) (acc_two s 94 45 (by decide) (by decide)) w
theorem thB (s : BitVec 256) (w : World) : Calls Tryz.prog 104 #[setV s, .string ⟨#[45, 94]⟩] w fun e w' => e = .returned (.string (ofT (iT (s.getLsbD 45) 45 ++ iT (s.getLsbD 94) 94))) ∧ Below w.heap.size w w' := th_c s [45, 94] _ (by decide) (acc_two s 45 94 (by decide) (by decide)) w
theorem four_dev (w : World) (a : Option Addr) (h : BytesAt w.heap.size w (.slice a 4 4) [93, 91, 94, 45]) : Calls Tryz.prog 106 #[setV 0, .slice a 4 4] w fun e w' => e = .returned (setV fourS) ∧ Below w.heap.size w w' := by
  have := with_calls' 0 a 4 4 [93, 91, 94, 45] (by decide) w h
  rw [four_eq] at this; exact this
theorem out_nil (s : BitVec 256) (h : outT s = []) : gT (s.getLsbD 94) 94 ||| (gT (s.getLsbD 45) 45 ||| 0) = s := by
  have hp := set_parts s
  unfold outT at h
  obtain ⟨h1, h2⟩ := List.append_eq_nil_iff.1 h
  obtain ⟨h0, h1⟩ := List.append_eq_nil_iff.1 h1
  have m0 := mid_nil s h1
  have e0 : s.getLsbD 93 = false := by cases hb : s.getLsbD 93 with
    | false => rfl
    | true => rw [hb] at h0; simp [iT] at h0
  have e2 : s.getLsbD 91 = false := by cases hb : s.getLsbD 91 with
    | false => rfl
    | true => rw [hb] at h2; simp [iT] at h2
  rw [e0, e2, m0] at hp
  have g0 : gT false 93 = 0 := rfl
  have g1 : gT false 91 = 0 := rfl
  rw [g0, g1, or_zero, or_zero, or_zero] at hp
  exact hp
theorem out_94 (s : BitVec 256) (h : outT s = []) : s = range 94 94 ↔ (s.getLsbD 45 = false ∧ s.getLsbD 94 = true) := by
  constructor
  · rintro rfl; decide +kernel
  · rintro ⟨h1, h2⟩
    have hp := out_nil s h
    rw [h1, h2] at hp
    rw [← hp]; decide +kernel
theorem nil_94 : outT (range 94 94) = [] := by decide +kernel
theorem txt_q3 (s : BitVec 256) (h : outT s ≠ []) : ((ofT (91 :: outT s)).toList == [91]) = false := by
  rw [beq_eq_false_iff_ne]
  intro h1
  have := congrArg List.length h1
  rw [toL] at this
  simp at this
  exact h this
theorem txt_q4 (s : BitVec 256) (h : outT s ≠ []) (M : List Nat) : ((ofT (91 :: outT s ++ M)).toList == [91, 94]) = false := by
  rw [beq_eq_false_iff_ne]
  intro h1
  obtain ⟨c, L, hL, hc⟩ := out_head s h M
  have hcl : c < 256 := by
    cases ho : outT s with
    | nil => exact absurd ho h
    | cons d l =>
      rw [ho, List.cons_append] at hL
      have := List.cons.inj hL
      have hd := out_lt s d (by rw [ho]; exact List.mem_cons_self ..)
      omega
  rw [toL, List.cons_append, hL] at h1
  simp only [List.map_cons, List.cons.injEq] at h1
  have h2 := congrArg UInt8.toNat h1.2.1
  simp at h2
  omega
theorem txt_q5 (y z : Bool) : ((ofT ([91] ++ (iT z 45 ++ iT y 94))).toList == [91, 94]) = (!z && y) := by rw [toL]; cases y <;> cases z <;> decide
def RunsAt (rs : List (Nat × Nat)) (v : Value) (W : World) : Prop := ∃ a cap, v = .slice a rs.length cap ∧ (rs ≠ [] → ∃ g, a = some ⟨g, 0, none⟩ ∧ RowAt g rs W)
def UX (s : BitVec 256) (n : Nat) : Nat → List Value → Value → Prop
  | 0, _, v => v = setV s
  | 1, _, v => v = setV 0
  | 2, _, v => ∃ a, v = .slice a 4 4
  | 3, _, v => v = setV fourS
  | 4, _, v => v = setV (s &&& ~~~fourS)
  | 5, _, v => ∃ a cap, v = .slice a n cap
  | 6, _, v => v = .int .i64 n
  | _, _, v => v = .int .i64 0
def VX (rs : List (Nat × Nat)) (i : Nat) (v : Value) (W : World) : Prop := match i with
  | 2 => BytesAt W.heap.size W v [93, 91, 94, 45]
  | 5 => RunsAt rs v W
  | _ => True
theorem keepVX (rs : List (Nat × Nat)) : ∀ i v w w', Below w.heap.size w w' → VX rs i v w → VX rs i v w' := by
  intro i v w w' hb h
  unfold VX at *
  split
  · exact BytesAt.step h hb
  · obtain ⟨a, cap, h1, h2⟩ := h
    refine ⟨a, cap, h1, fun hne => ?_⟩
    obtain ⟨g, h3, h4⟩ := h2 hne
    exact ⟨g, h3, h4.below hb⟩
  · trivial
def SX (w : World) (s : BitVec 256) (W : World) : Prop := STh w s W ∧ Tab W ∧ 1 < W.heap.size
theorem SX.keep {w W W' : World} {s : BitVec 256} (h : SX w s W) (hb : Below W.heap.size W W') : SX w s W' := ⟨h.1.keep hb, h.2.1.keep hb h.2.2, Nat.lt_of_lt_of_le h.2.2 hb.size⟩
theorem SX.drewS {w W : World} {s : BitVec 256} (h : SX w s W) : SX w s W.drew := ⟨h.1.drewS, h.2.1, h.2.2⟩
set_option maxRecDepth 100000 in
set_option maxHeartbeats 16000000 in
theorem dText_calls (s : BitVec 256) (w : World) (hT : Tab w) (hgT : 1 < w.heap.size) : Calls Tryz.prog 80 #[setV s] w fun e w' => e = .returned (.string (ofT (textT s))) ∧ Below w.heap.size w w' := by
  have b0 := Blk.new w (setA s) 43
  have hB0 : Below w.heap.size w (w.alloc (.cells (setA s) 43)) := by go_grown
  have hq := eq_zero s
  by_cases h0 : s = 0
  · have q : decide (s = 0) = true := by simpa using h0
    have hres : textT s = [91, 94, 0, 45, 255, 93] := by unfold textT; rw [if_pos h0]
    rw [hres]
    rw [q] at hq
    clear h0 q hres
    obtain ⟨⟨c0, c1, c2, c3⟩, f0, f1, f2, f3⟩ := b0.cells4
    go_enter Tryz.func80, Tryz.ntmps80
    go_wp2_with fail
    exact bodyPost_ret (v := .string (ofT [91, 94, 0, 45, 255, 93])) (by simp [results, Tryz.results80, go_sem]; rfl) rfl ⟨rfl, hB0⟩
  have q : decide (s = 0) = false := by simpa using h0
  rw [q] at hq
  obtain ⟨⟨c0, c1, c2, c3⟩, _⟩ := b0.cells4
  have hs0 : SX w s (w.alloc (.cells (setA s) 43)) := ⟨⟨b0, hB0⟩, hT.keep hB0 hgT, by simp <;> omega⟩
  have HS0 := Lib.hid hs0
  have H0 := Lib.hid h0
  clear b0 hB0 hs0 hT hgT h0 q
  obtain ⟨rs, hrs⟩ : ∃ rs, rsOf (s &&& ~~~fourS) = rs := ⟨_, rfl⟩
  have hrl := rsOf_len (s &&& ~~~fourS)
  have hok := rsOf_ok (s &&& ~~~fourS)
  rw [hrs] at hrl hok
  have HOKR := Lib.hid hok
  have HRS := Lib.hid hrs
  clear hok hrs
  go_enter Tryz.func80, Tryz.ntmps80
  go_wp2_with fail
  have e0 : w.alloc (.cells #[.int .u64 (wd s 0), .int .u64 (wd s 1), .int .u64 (wd s 2), .int .u64 (wd s 3)] 43) = w.alloc (.cells (setA s) 43) := rfl
  rw [e0]
  clear e0
  generalize w.alloc (.cells (setA s) 43) = w1 at *
  refine (th93 s _).mono ?_
  rintro e w2 ⟨rfl, hb⟩
  replace HS0 := Lib.hid (HS0.out.keep hb)
  clear hb c0 c1 c2 c3 hq
  have ha1 := addT [91] (iT (s.getLsbD 93) 93) (by have := iT_len (s.getLsbD 93) 93; rw [show ([91] : List Nat).length = 1 from rfl]; omega)
  rw [show ofT [91] = ⟨#[91]⟩ from rfl] at ha1
  have hl1 := iT_len (s.getLsbD 93) 93
  generalize hi93 : iT (s.getLsbD 93) 93 = i93 at *
  have HI93 := Lib.hid hi93
  clear hi93
  go_upto_region 4 with fail
  clear ha1
  go_cut [3, 18, 19, 20] from 13 to 20 (fun t v n z wx => t = .string (ofT ([91] ++ i93)) ∧ n = .int .i64 rs.length ∧ z = .int .i64 0 ∧ RunsAt rs v wx ∧ SX w s wx)
  case first =>
    refine region_stepsR (S := SX w s) (U := UX s rs.length) (V := VX rs) (by kernel_rfl) (fun _ _ hb hs => hs.keep hb) (keepVX rs) (by kernel_rfl) (SX.drewS HS0.out) ?_
    clear HS0
    simp only [List.size_toArray, List.length_cons, List.length_nil, Nat.reduceAdd, Array.replicate_succ, Array.replicate_zero, List.push_toArray, List.nil_append, List.cons_append]
    refine AnyR.step (i := 0) (d := some 13) rfl rfl (by kernel_rfl) (by kernel_rfl) (by kernel_rfl) (by kernel_rfl) ?_ ?_ ?_
    · exact ⟨_, rfl⟩
    · refine StepsR.yield (setV s) rfl (by kernel_rfl) (fun w' hS hD => ⟨?_, trivial⟩)
      obtain ⟨⟨c0, c1, c2, c3⟩, _⟩ := hS.1.1.cells4; clear hS hD; go_simp
      try (first | rfl | exact ⟨rfl, rfl, rfl, rfl⟩)
    intro v' hv' a' ha'
    have hv' : setV s = v' := Eq.symm hv'
    subst hv'
    simp only [Act.put, List.setIfInBounds_toArray, List.set_cons_zero, List.set_cons_succ] at ha'
    subst ha'
    refine AnyR.step (i := 1) (d := some 14) rfl rfl (by kernel_rfl) (by kernel_rfl) (by kernel_rfl) (by kernel_rfl) ?_ ?_ ?_
    · exact ⟨_, rfl⟩
    · refine StepsR.yield (setV 0) rfl (by kernel_rfl) (fun w' hS hD => ⟨?_, trivial⟩)
      clear hS hD; go_simp
      try (first | rfl | exact ⟨rfl, rfl, rfl, rfl⟩)
    intro v' hv' a' ha'
    have hv' : setV 0 = v' := Eq.symm hv'
    subst hv'
    simp only [Act.put, List.setIfInBounds_toArray, List.set_cons_zero, List.set_cons_succ] at ha'
    subst ha'
    refine AnyR.step (i := 2) (d := some 15) rfl rfl (by kernel_rfl) (by kernel_rfl) (by kernel_rfl) (by kernel_rfl) ?_ ?_ ?_
    · exact ⟨_, none, rfl⟩
    · refine StepsR.made (by kernel_rfl) (fun w' hS hD => ?_)
      clear hS hD
      refine ⟨.slice (some ⟨w'.heap.size, 0, none⟩) 4 4, w'.alloc (.cells (byW [93, 91, 94, 45]) 5), ?_, ⟨_, rfl⟩, bytes_new w' _ [93, 91, 94, 45], by go_grown⟩
      go_simp
      try rfl
    rintro v' ⟨a2, rfl⟩ a' ha'
    simp only [Act.put, List.setIfInBounds_toArray, List.set_cons_zero, List.set_cons_succ] at ha'
    subst ha'
    refine AnyR.step (i := 3) (d := some 16) rfl rfl (by kernel_rfl) (by kernel_rfl) (by kernel_rfl) (by kernel_rfl) ?_ ?_ ?_
    · exact ⟨_, rfl⟩
    · refine StepsR.call (by kernel_rfl) (fun w' hS => by clear hS; go_simp) (fun w' hS hD => (four_dev w' a2 (hD.get (k := 2) (by kernel_rfl) rfl rfl)).mono ?_)
      rintro e w'' ⟨rfl, hb⟩
      exact ⟨_, rfl, rfl, trivial, hb⟩
    intro v' hv' a' ha'
    have hv' : setV fourS = v' := Eq.symm hv'
    subst hv'
    simp only [Act.put, List.setIfInBounds_toArray, List.set_cons_zero, List.set_cons_succ] at ha'
    subst ha'
    refine AnyR.step (i := 4) (d := some 17) rfl rfl (by kernel_rfl) (by kernel_rfl) (by kernel_rfl) (by kernel_rfl) ?_ ?_ ?_
    · exact ⟨_, rfl⟩
    · refine StepsR.call (by kernel_rfl) (fun w' hS => by clear hS; go_simp) (fun w' hS hD => (less_calls s fourS w').mono ?_)
      rintro e w'' ⟨rfl, hb⟩
      exact ⟨_, rfl, rfl, trivial, hb⟩
    intro v' hv' a' ha'
    have hv' : setV (s &&& ~~~fourS) = v' := Eq.symm hv'
    subst hv'
    simp only [Act.put, List.setIfInBounds_toArray, List.set_cons_zero, List.set_cons_succ] at ha'
    subst ha'
    refine AnyR.step (i := 5) (d := some 18) rfl rfl (by kernel_rfl) (by kernel_rfl) (by kernel_rfl) (by kernel_rfl) ?_ ?_ ?_
    · exact ⟨_, none, 0, rfl⟩
    · refine StepsR.call (by kernel_rfl) (fun w' hS => by clear hS; go_simp) (fun w' hS hD => (runs_calls (s &&& ~~~fourS) w' hS.2.1 hS.2.2).mono ?_)
      rintro e w'' ⟨v, rfl, hr, hb⟩
      have hr' := row_of_owns (rs := rsOf (s &&& ~~~fourS)) hr
      rw [HRS.out] at hr'
      obtain ⟨a, cap, rfl, h⟩ := hr'
      refine ⟨_, rfl, ⟨a, cap, rfl⟩, ⟨a, cap, rfl, fun hne => ?_⟩, hb⟩
      obtain ⟨g, h1, _, h2⟩ := h hne
      exact ⟨g, h1, h2⟩
    rintro v' ⟨a5, cap5, rfl⟩ a' ha'
    simp only [Act.put, List.setIfInBounds_toArray, List.set_cons_zero, List.set_cons_succ] at ha'
    subst ha'
    refine AnyR.step (i := 6) (d := some 19) rfl rfl (by kernel_rfl) (by kernel_rfl) (by kernel_rfl) (by kernel_rfl) ?_ ?_ ?_
    · exact ⟨_, rfl⟩
    · refine StepsR.yield (.int .i64 rs.length) rfl (by kernel_rfl) (fun w' hS hD => ⟨?_, trivial⟩)
      clear hS hD; go_simp
      try (first | rfl | exact ⟨rfl, rfl, rfl, rfl⟩)
    intro v' hv' a' ha'
    have hv' : .int .i64 rs.length = v' := Eq.symm hv'
    subst hv'
    simp only [Act.put, List.setIfInBounds_toArray, List.set_cons_zero, List.set_cons_succ] at ha'
    subst ha'
    refine AnyR.step (i := 7) (d := some 20) rfl rfl (by kernel_rfl) (by kernel_rfl) (by kernel_rfl) (by kernel_rfl) ?_ ?_ ?_
    · exact ⟨_, rfl⟩
    · refine StepsR.yield (.int .i64 0) rfl (by kernel_rfl) (fun w' hS hD => ⟨?_, trivial⟩)
      clear hS hD; go_simp
      try (first | rfl | exact ⟨rfl, rfl, rfl, rfl⟩)
    intro v' hv' a' ha'
    have hv' : .int .i64 0 = v' := Eq.symm hv'
    subst hv'
    simp only [Act.put, List.setIfInBounds_toArray, List.set_cons_zero, List.set_cons_succ] at ha'
    subst ha'
    refine AnyR.done (by kernel_rfl) (fun w' hS hF => ?_) _
    have h5 : RunsAt rs (.slice a5 rs.length cap5) w' := hF 5 _ 18 (by kernel_rfl) rfl rfl
    clear hF
    go_wp2_with fail
    go_meet
    exact ⟨rfl, rfl, rfl, h5, hS⟩
  case rest =>
  obtain ⟨rfl, rfl, rfl, ⟨a5, cap5, rfl, h5⟩, hS⟩ := hcut
  clear HS0
  have H5 := Lib.hid h5
  have HS1 := Lib.hid hS.1
  clear h5 hS
  generalize hX : [91] ++ i93 = X at *
  have hXl : X.length ≤ 2 := by rw [← hX]; simp; omega
  have HX := Lib.hid hX
  clear hX
  go_upto_block 0 with fail
  go_cut [3] from 21 to 31 (fun t wx => t = .string (ofT (X ++ rs.flatMap runT)) ∧ STh w s wx)
  case first =>
    go_wp2_with fail
    go_loopw [3, 20] (fun t v wr => ∃ k : Nat, k ≤ rs.length ∧ v = .int .i64 k ∧ t = .string (ofT (X ++ (rs.take k).flatMap runT)) ∧ STh w s wr ∧ (rs ≠ [] → ∃ g, a5 = some ⟨g, 0, none⟩ ∧ RowAt g rs wr)) (fun _ v _ => rs.length - (intOf v).toNat)
    case atStart => exact ⟨0, Nat.zero_le _, rfl, by simp, HS1.out, H5.out⟩
    case round =>
      clear HS1 H5
      obtain ⟨k, hk, rfl, rfl, hS, h5⟩ := hrel
      by_cases hkl : k < rs.length
      · have hne : rs ≠ [] := fun h => by rw [h] at hkl; simp at hkl
        obtain ⟨g, rfl, hrow⟩ := h5 hne
        obtain ⟨r0, r1⟩ := hrow.2 k hkl
        obtain ⟨o1, o2⟩ := HOKR.out k hkl
        have hts : rs.take (k + 1) = rs.take k ++ [rs[k]] := by rw [List.take_succ_eq_append_getElem hkl]
        have hTX : X ++ (rs.take (k + 1)).flatMap runT = (X ++ (rs.take k).flatMap runT) ++ runT rs[k] := by rw [hts, List.flatMap_append, List.flatMap_singleton, List.append_assoc]
        have hlen : (X ++ (rs.take k).flatMap runT).length ≤ 2 + 3 * 256 := by
          have h1 := runs_txt_len (rs.take k)
          have h2 : (rs.take k).length ≤ 256 := by rw [List.length_take]; omega
          rw [List.length_append]; omega
        have hlr : (runT rs[k]).length ≤ 3 := by unfold runT; split <;> split <;> simp
        have hadd := addT _ _ (show (X ++ (rs.take k).flatMap runT).length + (runT rs[k]).length ≤ 9223372036854775807 by omega)
        rw [← hTX] at hadd
        have HTX := Lib.hid hTX
        generalize X ++ (rs.take k).flatMap runT = T0 at hadd
        clear hts hTX hlen hlr
        generalize hT1 : X ++ (rs.take (k + 1)).flatMap runT = T1 at hadd
        have HT1 := Lib.hid hT1
        clear hT1
        have hpr : (rs[k].1, rs[k].2) = rs[k] := rfl
        rw [← hpr] at hadd
        clear hpr
        generalize rs[k].1 = lo at *
        generalize rs[k].2 = hi at *
        have HRUN := Lib.hid (run_calls lo hi o1 o2)
        have HADD := Lib.hid hadd
        have HST := Lib.hid (hS.1.alloc (.cells #[.int .u8 lo, .int .u8 hi] 132))
        have HB := Lib.hid (hS.2.alloc hS.2.size (.cells #[.int .u8 lo, .int .u8 hi] 132))
        have hrow' : RowAt g rs (wr.alloc (.cells #[.int .u8 lo, .int .u8 hi] 132)) := hrow.below (by go_grown)
        have HROW := Lib.hid hrow'
        have hz := hS.2.size
        clear hrow hrow' hS h5 hadd
        have hgk : (g : Nat) = g := rfl
        clear hgk
        go_wp2_with fail
        refine (HRUN.out _).mono ?_
        rintro e w3 ⟨rfl, hb⟩
        have hz2 := hb.size
        rw [World.size_alloc] at hz2
        replace HST := Lib.hid (HST.out.below hb (by simp; omega))
        replace HB := Lib.hid (HB.out.trans (hb.mono (by simp; omega)))
        replace HROW := Lib.hid (HROW.out.below hb)
        clear hb
        have hadd := HADD.out
        clear r0 r1
        go_wp2_with fail
        go_roundw
        case rel => exact ⟨k + 1, by omega, by simp, by rw [HT1.out], ⟨HST.out, HB.out⟩, fun _ => ⟨g, rfl, HROW.out⟩⟩
        case measure => simp [intOf]; omega
      · obtain rfl : k = rs.length := by omega
        rw [List.take_length]
        go_wp2_with fail
        go_meet
        exact ⟨rfl, hS⟩
  case rest =>
  obtain ⟨rfl, hS⟩ := hcut
  clear HS1 H5
  have hfl : (rs.flatMap runT).length ≤ 768 := by have := runs_txt_len rs; omega
  have hO : (X ++ rs.flatMap runT) ++ iT (s.getLsbD 91) 91 = 91 :: outT s := by
    rw [← HX.out, ← HI93.out, ← HRS.out]; unfold outT midT; simp
  have hl91 := iT_len (s.getLsbD 91) 91
  have hl94 := iT_len (s.getLsbD 94) 94
  have hl45 := iT_len (s.getLsbD 45) 45
  have hXf : (X ++ rs.flatMap runT).length ≤ 770 := by rw [List.length_append]; omega
  have hadd := addT (X ++ rs.flatMap runT) (iT (s.getLsbD 91) 91) (by omega)
  rw [hO] at hadd
  have hOl : (outT s).length ≤ 770 := by
    have := congrArg List.length hO
    rw [List.length_append, List.length_cons] at this; omega
  have ht91 := th91 s
  clear hO
  generalize X ++ rs.flatMap runT = T0 at *
  generalize iT (s.getLsbD 91) 91 = i91 at hadd ht91
  have HADD := Lib.hid hadd
  have HT91 := Lib.hid ht91
  have HST := Lib.hid hS.1
  have HB := Lib.hid hS.2
  have hz := hS.2.size
  clear hadd hS HX HI93 HRS HOKR hfl hXf hXl hl91 ht91
  obtain ⟨⟨c0, c1, c2, c3⟩, _⟩ := HST.out.cells4
  go_wp2_with fail
  refine (HT91.out _).mono ?_
  rintro e w3 ⟨rfl, hb⟩
  replace HST := Lib.hid (HST.out.below hb (Blk.lt HST.out))
  replace HB := Lib.hid (HB.out.trans (hb.mono hz))
  have hzx := Nat.le_trans hz hb.size
  clear hz hb c0 c1 c2 c3
  have hz := hzx
  clear hzx
  clear HT91
  have hadd := HADD.out
  by_cases hne : outT s = []
  · rw [hne] at hadd
    have h94 := out_94 s hne
    have hadd2 := addT [91] (iT (s.getLsbD 45) 45 ++ iT (s.getLsbD 94) 94) (by rw [List.length_append, show ([91] : List Nat).length = 1 from rfl]; omega)
    have hadd3 := addT ([91] ++ (iT (s.getLsbD 45) 45 ++ iT (s.getLsbD 94) 94)) [93] (by rw [List.length_append, List.length_append, show ([91] : List Nat).length = 1 from rfl, show ([93] : List Nat).length = 1 from rfl]; omega)
    rw [show ofT [93] = ⟨#[93]⟩ from rfl] at hadd3
    have q5 := txt_q5 (s.getLsbD 94) (s.getLsbD 45)
    have htx : textT s = if s = range 94 94 then [] else [91] ++ (iT (s.getLsbD 45) 45 ++ iT (s.getLsbD 94) 94) ++ [93] := by
      unfold textT; rw [if_neg H0.out, if_pos hne]; simp
    have hthb := thB s
    have q3 : ((ofT [91]).toList == [91]) = true := by rw [toL]; decide
    generalize iT (s.getLsbD 45) 45 ++ iT (s.getLsbD 94) 94 = M at *
    generalize [91] ++ M ++ [93] = T3 at *
    generalize [91] ++ M = T2 at *
    have HTB := Lib.hid hthb
    have HADD2 := Lib.hid hadd2
    have HADD3 := Lib.hid hadd3
    clear hne HADD hadd2 hadd3 hthb hOl hl94 hl45
    by_cases hs : s = range 94 94
    · rw [if_pos hs] at htx
      obtain ⟨h1, h2⟩ := h94.1 hs
      rw [h1, h2] at q5
      have Q5 := Lib.hid q5
      have HTX := Lib.hid htx
      clear q5 htx h1 h2 h94 hs
      obtain ⟨⟨c0, c1, c2, c3⟩, _⟩ := HST.out.cells4
      go_upto_region 11 with fail
      clear hadd
      go_wp2_with fail
      refine (HTB.out _).mono ?_
      rintro e w4 ⟨rfl, hb⟩
      replace HST := Lib.hid (HST.out.below hb (Blk.lt HST.out))
      replace HB := Lib.hid (HB.out.trans (hb.mono hz))
      have hzx := Nat.le_trans hz hb.size
      clear hz hb c0 c1 c2 c3
      have hz := hzx
      clear hzx
      have hadd2 := HADD2.out
      clear HTB q3
      go_upto_region 14 with fail
      clear hadd2
      have q5 : ((ofT T2).toList == [91, 94]) = true := Q5.out
      clear HADD2 HADD3 Q5
      go_wp2_with fail
      go_ret
      exact ⟨by rw [HTX.out]; rfl, HB.out⟩
    · rw [if_neg hs] at htx
      have hq : (!s.getLsbD 45 && s.getLsbD 94) = false := by
        cases h1 : s.getLsbD 45 <;> cases h2 : s.getLsbD 94 <;> first | rfl | exact absurd (h94.2 ⟨h1, h2⟩) hs
      rw [hq] at q5
      have Q5 := Lib.hid q5
      have HTX := Lib.hid htx
      clear q5 htx hq h94 hs
      obtain ⟨⟨c0, c1, c2, c3⟩, _⟩ := HST.out.cells4
      go_upto_region 11 with fail
      clear hadd
      go_wp2_with fail
      refine (HTB.out _).mono ?_
      rintro e w4 ⟨rfl, hb⟩
      replace HST := Lib.hid (HST.out.below hb (Blk.lt HST.out))
      replace HB := Lib.hid (HB.out.trans (hb.mono hz))
      have hzx := Nat.le_trans hz hb.size
      clear hz hb c0 c1 c2 c3
      have hz := hzx
      clear hzx
      have hadd2 := HADD2.out
      clear HTB q3
      go_upto_region 14 with fail
      clear hadd2
      have q5 : ((ofT T2).toList == [91, 94]) = false := Q5.out
      have hadd3 := HADD3.out
      clear HADD2 HADD3 Q5
      go_wp2_with fail
      go_ret
      exact ⟨by rw [HTX.out] <;> rfl, HB.out⟩
  · have q3 := txt_q3 s hne
    have q5 := txt_q4 s hne (iT (s.getLsbD 94) 94 ++ iT (s.getLsbD 45) 45)
    have hadd2 := addT (91 :: outT s) (iT (s.getLsbD 94) 94 ++ iT (s.getLsbD 45) 45) (by rw [List.length_append, List.length_cons]; omega)
    have hadd3 := addT (91 :: outT s ++ (iT (s.getLsbD 94) 94 ++ iT (s.getLsbD 45) 45)) [93] (by rw [List.length_append, List.length_append, List.length_cons, show ([93] : List Nat).length = 1 from rfl]; omega)
    rw [show ofT [93] = ⟨#[93]⟩ from rfl] at hadd3
    have htx : textT s = 91 :: outT s ++ (iT (s.getLsbD 94) 94 ++ iT (s.getLsbD 45) 45) ++ [93] := by
      unfold textT
      rw [if_neg H0.out, if_neg (fun h => hne (by rw [h]; exact nil_94)), if_neg hne]; simp
    have htha := thA s
    generalize iT (s.getLsbD 94) 94 ++ iT (s.getLsbD 45) 45 = M at *
    generalize 91 :: outT s ++ M ++ [93] = T3 at *
    generalize 91 :: outT s ++ M = T2 at *
    generalize 91 :: outT s = T1 at *
    have HTA := Lib.hid htha
    have HADD2 := Lib.hid hadd2
    have HADD3 := Lib.hid hadd3
    have Q5 := Lib.hid q5
    have HTX := Lib.hid htx
    clear hne HADD hadd2 hadd3 htha hOl hl94 hl45 q5 htx
    obtain ⟨⟨c0, c1, c2, c3⟩, _⟩ := HST.out.cells4
    go_upto_region 11 with fail
    clear hadd
    go_wp2_with fail
    refine (HTA.out _).mono ?_
    rintro e w4 ⟨rfl, hb⟩
    replace HST := Lib.hid (HST.out.below hb (Blk.lt HST.out))
    replace HB := Lib.hid (HB.out.trans (hb.mono hz))
    have hzx := Nat.le_trans hz hb.size
    clear hz hb c0 c1 c2 c3
    have hz := hzx
    clear hzx
    have hadd2 := HADD2.out
    clear HTA q3
    go_upto_region 14 with fail
    clear hadd2
    have q5 : ((ofT T2).toList == [91, 94]) = false := Q5.out
    have hadd3 := HADD3.out
    clear HADD2 HADD3 Q5
    go_wp2_with fail
    go_ret
    exact ⟨by rw [HTX.out] <;> rfl, HB.out⟩
end Go.Proofs.YtbccojjcdcighaaGreatDoor

namespace Go.Proofs.YtbccojjcdcighaaGreatDoor
open Go.RowKit BS
end Go.Proofs.YtbccojjcdcighaaGreatDoor

namespace Go.Proofs.YtbccojjcdcighaaGreatDoor
open Go.RowKit BS
theorem readP_len7 (s : ByteArray) : ∀ k a x, a ≤ s.size → x.l.length ≤ 3 * a → (readP s k a x).1.l.length ≤ 3 * s.size + 2
  | 0, _, _, _, _ => by rw [readP]; exact Nat.zero_le _
  | k + 1, a, x, ha, hx => by
    rw [readP]
    by_cases h0 : s.size ≤ a
    · rw [if_pos h0]
      by_cases h1 : 1 < x.st.length
      · rw [if_pos h1]; exact Nat.zero_le _
      · rw [if_neg h1]
        obtain ⟨l, st, g⟩ := x
        obtain _ | ⟨⟨n, r⟩, st⟩ := st
        · show l.length ≤ _
          simp only at hx; omega
        · show (l ++ rowT n ++ rowsT (r + 1)).length ≤ _
          have e1 : (rowT n).length ≤ 1 := by
            unfold rowT
            by_cases h0 : n = 0
            · rw [if_pos h0]; exact Nat.le_refl _
            · rw [if_neg h0]
              by_cases h1 : n = 1
              · rw [if_pos h1]; exact Nat.zero_le _
              · rw [if_neg h1]; exact Nat.le_refl _
          have e2 : (rowsT (r + 1)).length ≤ 1 := by
            unfold rowsT
            by_cases h0 : 1 < r + 1
            · rw [if_pos h0]; exact Nat.le_refl _
            · rw [if_neg h0]; exact Nat.zero_le _
          simp only at hx
          rw [List.length_append, List.length_append]; omega
    rw [if_neg h0]
    by_cases h1 : firstP x (bt s a) ≠ 0
    · rw [if_pos h1]; exact Nat.zero_le _
    rw [if_neg h1]
    have hE := nextA_end s a (by omega)
    generalize nextA s a = X at *
    obtain ⟨w, e, p⟩ := X
    simp only at hE ⊢
    by_cases h2 : e ≠ 0
    · rw [if_pos h2]; exact Nat.zero_le _
    rw [if_neg h2]
    rcases hE with ⟨_, _, _, _, h5, h6⟩ | ⟨h1, _⟩
    · simp only at h5 h6
      refine readP_len7 s k w.fin (takeP x w) h6 ?_
      obtain ⟨l, st, g⟩ := x
      simp only at hx
      have r1 : ∀ n, (rowT n).length ≤ 1 := fun n => by
        unfold rowT
        by_cases h0 : n = 0
        · rw [if_pos h0]; exact Nat.le_refl _
        · rw [if_neg h0]
          by_cases h1 : n = 1
          · rw [if_pos h1]; exact Nat.zero_le _
          · rw [if_neg h1]; exact Nat.le_refl _
      have r2 : ∀ n, (rowsT n).length ≤ 1 := fun n => by
        unfold rowsT
        by_cases h0 : 1 < n
        · rw [if_pos h0]; exact Nat.le_refl _
        · rw [if_neg h0]; exact Nat.zero_le _
      unfold takeP
      by_cases c1 : w.kind = 1
      · rw [if_pos c1]; simp; omega
      rw [if_neg c1]
      by_cases c2 : w.kind = 2
      · rw [if_pos c2]; simp only; omega
      rw [if_neg c2]
      by_cases c3 : w.kind = 3
      · rw [if_pos c3]
        obtain _ | ⟨⟨n, r⟩, st⟩ := st
        · show (l ++ [ndG]).length ≤ _
          rw [List.length_append, List.length_singleton]; omega
        · show (l ++ rowT n ++ rowsT (r + 1) ++ [ndG]).length ≤ _
          have e1 := r1 n
          have e2 := r2 (r + 1)
          rw [List.length_append, List.length_append, List.length_append, List.length_singleton]; omega
      rw [if_neg c3]
      by_cases c4 : w.kind = 4
      · rw [if_pos c4]
        obtain _ | ⟨⟨n, r⟩, st⟩ := st
        · show l.length ≤ _
          omega
        · show (l ++ rowT n).length ≤ _
          have e1 := r1 n
          rw [List.length_append]; omega
      rw [if_neg c4]
      by_cases c5 : w.kind = 5
      · rw [if_pos c5]; simp; omega
      · rw [if_neg c5]; simp only; omega
    · exact absurd h1 h2
theorem right_len (s : ByteArray) : (parseN s).1.l.length ≤ 3 * s.size + 2 := readP_len7 s _ 0 sPS (Nat.zero_le _) (by decide)
end Go.Proofs.YtbccojjcdcighaaGreatDoor

/- Texts put together: Jd Dp Dq Dx Gy Dy Gz Vs Dr Ef Ff. -/
import Derived.Test.YtldaaelmifbbhaaGreatPN
import Derived.Deep.RegionWith
import Derived.Test.YtldaaelmifbbhaaGreatPB
import Derived.Test.YtldaaelmifbbhaaGreatPL
import Derived.Test.YtldaaelmifbbhaaGreatPH
import Derived.Test.YtldaaelmifbbhaaGreatPD
import Derived.Lib.IndexAny
import Derived.Lib.Bytealg
import Derived.Lib.Hide
import Derived.WalkLawsBesides
import Derived.IntWalk
import Derived.BigQuiet
import Derived.Outline
import Derived.Deep.QuietTactic
import Derived.Deep.DeepCutAuto
import Derived.Laws.ResultCell
import Derived.Test.YtldaaelmifbbhaaGreatPE
import Derived.Laws.BytesArg
import Derived.Laws.Concat
import Derived.Test.YtldaaelmifbbhaaGreatPF
import Derived.Lib.SlBytesConst
import Derived.Test.YtldaaelmifbbhaaGreatPC
import Derived.Deep.CutBlock
import Derived.Test.YtldaaelmifbbhaaGreatPM
/- The developers' reading: shutGroup, take. Stage 7. -/
namespace Go.Proofs.YtldaaelmifbbhaaGreat
open Go.RowKit BS

set_option maxRecDepth 100000 in
set_option maxHeartbeats 4000000 in
theorem pshutGroup8_calls {R : Nat} (ad : Option Addr) (cap : Nat) (w : World) (c3 : w.cell? ⟨R, 3, none⟩ = some (.slice ad 1 cap)) :
    Calls Tryz.prog 61 #[.pointer (some ⟨R, 0, none⟩)] w fun e w' => e = .returned (.int .i64 8) ∧ w = w' := by
  have HO := Lib.hid (popen_calls R 0 ad cap w c3 (by omega))
  go_enter Tryz.func61, Tryz.ntmps61
  go_wp2_with fail
  refine HO.out.mono ?_
  rintro e w2 ⟨rfl, rfl⟩
  go_wp2_with fail
  go_ret
  exact ⟨rfl, rfl⟩
set_option maxRecDepth 100000 in
set_option maxHeartbeats 8000000 in
theorem pshutGroup_calls {base R : Nat} {s : ByteArray} {a n r n2 r2 : Nat} {l : List NdN} {st : List (Nat × Nat)} {gr : Nat} {vN vL : Value} {w0 : World} (w : World) (h : RdV base R s a ⟨l, (n, r) :: (n2, r2) :: st, gr⟩ vN vL w0 w) (hl : l.length ≤ 3999990) (hst : st.length ≤ 1999990) (hn : n ≤ 2000000) (hr' : r ≤ 2000000) (hn2 : n2 ≤ 2000000) :
    Calls Tryz.prog 61 #[.pointer (some ⟨R, 0, none⟩)] w fun e w' => e = .returned (.int .i64 0) ∧ ∃ vN' vL', RdV base R s a ⟨l ++ rowT n ++ rowsT (r + 1) ++ [ndG], (n2 + 1, r2) :: st, gr⟩ vN' vL' w0 w' := by
  have HE := Lib.hid (pendRows_calls w h (by omega) (by simp only [List.length_cons]; omega) hn hr')
  have hl2 : (l ++ rowT n ++ rowsT (r + 1)).length ≤ 4000000 := by
    rw [List.length_append, List.length_append]
    have h1 := rowT_len n
    have h2 := rowsT_len (r + 1)
    omega
  obtain ⟨g, cap, rfl, hbg, hgl, hgR, hcap, t0, t1, f0, f1, _⟩ := h.top rfl
  have c3 := h.c.2.2.2.1
  simp only [List.length_cons] at hcap
  rw [show ((n2, r2) :: st).length = st.length + 1 from rfl] at *
  clear t0 t1 f0 f1 h hgl
  have HO := Lib.hid (fun W (h3 : W.cell? ⟨R, 3, none⟩ = some (.slice (some ⟨g, 0, none⟩) (st.length + 1 + 1 : Nat) cap)) => popen_calls R (st.length + 1) (some ⟨g, 0, none⟩) cap W h3 (by omega))
  have HP := Lib.hid (fun W vN vL (h : RdV base R s a ⟨l ++ rowT n ++ rowsT (r + 1), (n2, r2) :: st, gr⟩ vN vL w0 W) => paddPiece_calls ndG W h hl2 (by omega) hn2)
  rw [show ndG = ⟨3, 1, 0, 0, 0⟩ from rfl, nd_zero] at HP
  generalize l ++ rowT n ++ rowsT (r + 1) = l2 at *
  have q : ((st.length : Int) + 1 == 0) = false := by rw [beq_eq_false_iff_ne]; omega
  go_enter Tryz.func61, Tryz.ntmps61
  go_wp2_with fail
  refine (HO.out _ c3).mono ?_
  rintro e w2 ⟨rfl, rfl⟩
  go_wp2_with fail
  refine HE.out.mono ?_
  rintro e w2 ⟨rfl, vN', hr⟩
  clear HE c3
  have c3 : w2.cell? ⟨R, 3, none⟩ = some (.slice (some ⟨g, 0, none⟩) (st.length + 1 + 1 : Nat) cap) := hr.c.2.2.2.1
  have f3 := hr.blk.frozen 3
  have HR := Lib.hid hr
  have q0 : (0 : Int) ≤ (st.length : Int) + 1 := by omega
  have q1 : (st.length : Int) + 1 ≤ (cap : Int) := by omega
  clear hr
  go_wp2_with fail
  go_region_with (go_at_call 24; refine (HO.out w2.drew c3).mono ?_; rintro e w3 ⟨rfl, rfl⟩)
  all_goals
    have hr : RdV base R s a ⟨l2, (n2, r2) :: st, gr⟩ vN' (.slice (some ⟨g, 0, none⟩) (st.length + 1 : Nat) cap) w0 (w2.drew.setCell ⟨R, 3, none⟩ (.slice (some ⟨g, 0, none⟩) (st.length + 1 : Nat) cap)) := RdV.popL (p := (0, r + 1)) (st := (n2, r2) :: st) HR.out.drew rfl
    go_wp2_with fail
    refine (HP.out _ _ _ hr).mono ?_
    rintro e w4 ⟨rfl, vN2, hr2⟩
    go_wp2_with fail
    go_ret
    exact ⟨rfl, _, _, hr2⟩
end Go.Proofs.YtldaaelmifbbhaaGreat

/- Brackets, plainly: how the developers' package reads them. -/
namespace Go.Proofs.YtldaaelmifbbhaaGreat
open Go.RowKit BS

/-- What was read. -/
structure DP where
  set : BitVec 256
  fin : Nat
  err : Nat
  lack : ByteArray

/-- Does one of the bytes L stand at i? -/
def isN (s : ByteArray) (i : Nat) (L : List Nat) : Bool := decide (i < s.size) && L.contains (bt s i)
def shortD (s l : ByteArray) : DP := ⟨0, s.size, 2, l⟩
def badD (e p : Nat) : DP := ⟨0, p, e, eT⟩
def okD (t : BitVec 256) (p : Nat) : DP := ⟨t, p, 0, eT⟩

def betweenD (s : ByteArray) (i : Nat) : DP :=
  if bt s (i + 2) < bt s i then badD 4 (i + 3)
  else if bt s (i + 2) = 91 ∧ isN s (i + 3) [58, 46, 61] = true then badD 3 (i + 4)
  else okD (range (bt s i) (bt s (i + 2))) (i + 3)

/-- How far a name goes. -/
def nmEnd (s : ByteArray) (a : Nat) : Nat → Nat → Nat
  | 0, e => e
  | n + 1, e => if begB (s.extract a (e + 1)) = true then nmEnd s a n (e + 1) else e
/-- How the first name that begins so goes on. -/
def restD (l : ByteArray) : ByteArray := ((tabL.find? fun e => pfx e.1 l).map (fun e => e.1.extract l.size e.1.size)).getD eT
def colT : ByteArray := ofT [58, 93, 93]
def twoT : ByteArray := ofT [93, 93]
def oneT : ByteArray := ofT [93]

def behindD (s : ByteArray) (a e : Nat) : DP :=
  if e = s.size then shortD s (restD (s.extract a s.size) ++ colT)
  else if ofB (s.extract a e).toList = false ∨ bt s e ≠ 58 then badD 5 (e + 1)
  else if e + 1 = s.size then shortD s twoT
  else if bt s (e + 1) ≠ 93 then badD 3 (e + 2)
  else okD (ofS (s.extract a e).toList) (e + 2)
def namedD (s : ByteArray) (a : Nat) : DP := behindD s a (nmEnd s a (s.size - a) a)

def thingD (s : ByteArray) (i : Nat) : DP :=
  if bt s i = 91 ∧ isN s (i + 1) [58] = true then namedD s (i + 2)
  else if bt s i = 91 ∧ isN s (i + 1) [46, 61] = true then badD 3 (i + 2)
  else if (isN s (i + 1) [45] = true ∧ i + 2 < s.size) ∧ bt s (i + 2) ≠ 93 then betweenD s i
  else okD (range (bt s i) (bt s i)) (i + 1)

def loopD (s : ByteArray) (first : Nat) : Nat → BitVec 256 → Nat → DP
  | 0, t, i => okD t i
  | n + 1, t, i =>
    if i = s.size ∧ i = first then shortD s twoT
    else if i = s.size then shortD s oneT
    else if bt s i = 93 ∧ first < i then okD t (i + 1)
    else if (thingD s i).err ≠ 0 then thingD s i
    else loopD s first n (t ||| (thingD s i).set) (thingD s i).fin
def thingsD (s : ByteArray) (first : Nat) : DP := loopD s first (s.size + 1 - first) 0 first

def negD (p : DP) : DP := ⟨~~~p.set, p.fin, p.err, p.lack⟩
def wholeD (s : ByteArray) (at' : Int) : DP :=
  if at' < 0 then badD 1 0
  else if isN s at'.toNat [91] = false then badD 1 0
  else if isN s (at'.toNat + 1) [94] = false then thingsD s (at'.toNat + 1)
  else negD (thingsD s (at'.toNat + 2))
def readD (s : ByteArray) (at' : Int) : BitVec 256 × Nat × Nat × Nat :=
  if (wholeD s at').err ≠ 0 then (0, 0, (wholeD s at').err, (wholeD s at').fin) else ((wholeD s at').set, (wholeD s at').fin, 0, 0)

/-! ### It reads as the document does -/
theorem isN_lt {s : ByteArray} {i : Nat} {L : List Nat} (h : isN s i L = true) : i < s.size := by
  unfold isN at h; simp at h; exact h.1
theorem isN_one (s : ByteArray) (i b : Nat) : isN s i [b] = true ↔ i < s.size ∧ bt s i = b := by
  unfold isN; simp
theorem isN_two (s : ByteArray) (i b c : Nat) : isN s i [b, c] = true ↔ i < s.size ∧ (bt s i = b ∨ bt s i = c) := by
  unfold isN; simp
theorem isN_three (s : ByteArray) (i b c d : Nat) : isN s i [b, c, d] = true ↔ i < s.size ∧ (bt s i = b ∨ bt s i = c ∨ bt s i = d) := by
  unfold isN; simp
theorem spec3_iff (b : Nat) : spec3 b = true ↔ b = 58 ∨ b = 46 ∨ b = 61 := by
  unfold spec3; simp [or_assoc]

/-- What reading ends in, for a bracket with ^ or without. -/
def finD (neg : Bool) (p : DP) : BitVec 256 × Nat × Nat × Nat := if p.err ≠ 0 then (0, 0, p.err, p.fin) else (if neg = true then ~~~p.set else p.set, p.fin, 0, 0)

/-- No name has a : in it. -/
theorem no_colon : ∀ k, k < 12 → ∀ j, j < 16 → bt (tE k).1 j ≠ 58 := by decide +kernel
theorem name_len : ∀ k, k < 12 → (tE k).1.size ≤ 16 ∧ 0 < (tE k).1.size := by decide +kernel
theorem pfx_bt {nm l : ByteArray} (h : pfx nm l = true) : l.size ≤ nm.size ∧ ∀ i, i < l.size → bt l i = bt nm i := by
  unfold pfx at h
  rw [Bool.and_eq_true, decide_eq_true_eq, beq_iff_eq] at h
  obtain ⟨h1, h2⟩ := h
  refine ⟨h1, fun i hi => ?_⟩
  have e : bt (nm.extract 0 l.size) i = bt nm (0 + i) := bt_extract nm 0 l.size i h1 (by omega)
  rw [Nat.zero_add] at e
  rw [← e]
  have e2 : nm.extract 0 l.size = l := by
    apply ByteArray.ext
    apply Array.toList_inj.1
    have := h2
    rw [ByteArray.toList_eq, ByteArray.toList_eq] at this
    exact this
  rw [e2]
theorem begB_iff (l : ByteArray) : begB l = true ↔ ∃ k, k < 12 ∧ pfx (tE k).1 l = true := by
  constructor
  · intro h
    refine Decidable.byContradiction fun hc => ?_
    rw [begB_not l (fun j hj => ?_)] at h
    · exact absurd h (by decide)
    · cases hp : pfx (tE j).1 l with
      | false => rfl
      | true => exact absurd ⟨j, hj, hp⟩ hc
  · rintro ⟨k, hk, h⟩
    exact begB_at l k hk h
theorem beg_colon (s : ByteArray) (a e : Nat) (ha : a ≤ e) (he : e < s.size) (h : bt s e = 58) : begB (s.extract a (e + 1)) = false := by
  cases hb : begB (s.extract a (e + 1)) with
  | false => rfl
  | true =>
    obtain ⟨k, hk, hp⟩ := (begB_iff _).1 hb
    obtain ⟨h1, h2⟩ := pfx_bt hp
    have hs : (s.extract a (e + 1)).size = e + 1 - a := by rw [ByteArray.size_extract]; omega
    have h3 := h2 (e - a) (by omega)
    rw [bt_extract s a (e + 1) (e - a) (by omega) (by omega), show a + (e - a) = e by omega, h] at h3
    have := (name_len k hk).1
    exact absurd h3.symm (no_colon k hk (e - a) (by omega))
end Go.Proofs.YtldaaelmifbbhaaGreat

/- The developers' brackets: isAt, short, between. -/
namespace Go.Proofs.YtldaaelmifbbhaaGreat
open Go.RowKit Go.Shelf BS

set_option maxRecDepth 100000 in
theorem sib_calls (s : ByteArray) (c : Int) (w : World) : Calls Tryz.prog 58 #[.string s, .int .u8 c] w fun e w' => e = .returned (.int .i64 (Lib.indexByte s.data.toList c.toNat.toUInt8)) ∧ w = w' := by
  go_enter Tryz.func58, Tryz.ntmps58
  go_wp2_with fail
  rw [run_callFunc_extern Tryz.func68 (by kernel_rfl) (by kernel_rfl) (by kernel_rfl) (e := Extern.BytealgIndexByte.indexByte) (by kernel_rfl), Lib.run_indexByteString]
  simp only [Result.andThen]
  rw [Oper.upon_value]
  go_wp2_with fail
  go_ret
  exact ⟨rfl, rfl⟩
set_option maxRecDepth 100000 in
theorem ib_calls (s : ByteArray) (c : Int) (w : World) : Calls Tryz.prog 38 #[.string s, .int .u8 c] w fun e w' => e = .returned (.int .i64 (Lib.indexByte s.data.toList c.toNat.toUInt8)) ∧ w = w' := by
  go_enter Tryz.func38, Tryz.ntmps38
  go_wp2_with (go_at_call 58; refine (sib_calls s c _).mono ?_; rintro e w' ⟨rfl, rfl⟩)
  go_ret
  exact ⟨rfl, rfl⟩
/-- Is a byte one of some: by what IndexByte tells. -/
theorem ib_eq (L : List Nat) (hL : ∀ x ∈ L, x < 256) (b : Nat) (hb : b < 256) : decide (0 ≤ Lib.indexByte (ofT L).data.toList ((b : Int)).toNat.toUInt8) = L.contains b := by
  rw [← Lib.contains_iff_indexByte]
  have e : (ofT L).data.toList = L.map UInt8.ofNat := by simp [ofT]
  rw [e]
  induction L with
  | nil => rfl
  | cons a L ih =>
    rw [List.map_cons, List.contains_cons, List.contains_cons, ih (fun x hx => hL x (List.mem_cons_of_mem _ hx)) (by simp [ofT])]
    congr 1
    have ha := hL a (List.mem_cons_self ..)
    rw [Bool.eq_iff_iff, beq_iff_eq, beq_iff_eq]
    constructor
    · intro h
      have h2 := congrArg UInt8.toNat h
      simp at h2
      omega
    · rintro rfl; simp

def isI (s : ByteArray) (i : Int) (L : List Nat) : Bool := if i < 0 then false else isN s i.toNat L
set_option maxRecDepth 100000 in
set_option maxHeartbeats 1000000 in
theorem isAt_calls (s : ByteArray) (_hs : s.size ≤ 1000000) (i : Int) (L : List Nat) (hL : ∀ x ∈ L, x < 256) (w : World) : Calls Tryz.prog 141 #[.string s, .int .i64 i, .string (ofT L)] w fun e w' => e = .returned (.bool (isI s i L)) ∧ w = w' := by
  by_cases h0 : i < 0
  · have q : decide (0 ≤ i) = false := by rw [decide_eq_false_iff_not]; omega
    have hr : isI s i L = false := by unfold isI; rw [if_pos h0]
    rw [hr]
    go_enter Tryz.func141, Tryz.ntmps141
    go_wp2_with fail
    go_ret
    exact ⟨rfl, rfl⟩
  · obtain ⟨k, rfl⟩ : ∃ k : Nat, i = k := ⟨i.toNat, by omega⟩
    have hr : isI s k L = isN s k L := by unfold isI; rw [if_neg h0]; rfl
    rw [hr]
    clear hr h0
    by_cases h1 : k < s.size
    · have hi := ib_eq L hL (bt s k) (bt_lt s k)
      have hb0 : s[k].toNat = bt s k := (bt_eq s k h1).symm
      have hn : isN s k L = L.contains (bt s k) := by unfold isN; simp [h1]
      rw [hn, ← hi]
      have HB := Lib.hid (ib_calls (ofT L) (bt s k))
      generalize Lib.indexByte (ofT L).data.toList ((bt s k : Int)).toNat.toUInt8 = r at *
      clear hn hi hL
      generalize ofT L = t at *
      go_enter Tryz.func141, Tryz.ntmps141
      go_wp2_with (go_at_call 38; refine (HB.out _).mono ?_; rintro e w' ⟨rfl, rfl⟩)
      go_ret
      exact ⟨rfl, rfl⟩
    · have hn : isN s k L = false := by unfold isN; simp [h1]
      rw [hn]
      clear hL hn
      generalize ofT L = t at *
      go_enter Tryz.func141, Tryz.ntmps141
      go_wp2_with fail
      go_ret
      exact ⟨rfl, rfl⟩
theorem isNat_calls (s : ByteArray) (hs : s.size ≤ 1000000) (i : Nat) (L : List Nat) (hL : ∀ x ∈ L, x < 256) (w : World) : Calls Tryz.prog 141 #[.string s, .int .i64 i, .string (ofT L)] w fun e w' => e = .returned (.bool (isN s i L)) ∧ w = w' := by
  have h := isAt_calls s hs i L hL w
  have hr : isI s i L = isN s i L := by unfold isI; rw [if_neg (by omega)]; rfl
  rw [hr] at h
  exact h

/-- What was read, as a value. -/
@[reducible] def ptI (t : BitVec 256) (p e : Int) (l : ByteArray) : Array Value := #[.int .u64 (wd t 0), .int .u64 (wd t 1), .int .u64 (wd t 2), .int .u64 (wd t 3), .int .i64 p, .int .i64 e, .string l]
def ptA (p : DP) : Array Value := ptI p.set p.fin p.err p.lack
theorem infoPt : (Tryz.prog.info? 181).map (·.size) = some 7 := by kernel_rfl

/-! ### By walks -/
theorem pt_one (t : BitVec 256) (p e : Int) (l : ByteArray) : ((ptI t p e l).all fun x => x.oneCell') = true := by simp [Value.oneCell']
set_option maxRecDepth 100000 in
set_option maxHeartbeats 1000000 in
theorem short_calls (s l : ByteArray) (w : World) : Calls Tryz.prog 143 #[.string s, .string l] w fun en w' => en = .returned (.agg (ptA (shortD s l))) ∧ Below w.heap.size w w' := by
  go_enter Tryz.func143, Tryz.ntmps143
  go_wp2
  have hR := Blk.new w (ptI 0 s.size 2 l) 181
  have hB : Below w.heap.size w (w.alloc (.cells (ptI 0 s.size 2 l) 181)) := by go_grown
  exact bodyPost_ret (v := .agg (ptI 0 s.size 2 l)) (results_cell_row rfl _ _ w.heap.size 181 (ptI 0 s.size 2 l) (0, 0) _ rfl hR Tryz.underlying181 rfl infoPt) rfl ⟨rfl, hB⟩

theorem bitB (b n : Nat) : ((b : Int) == (n : Int)) = decide (b = n) := by rw [Bool.eq_iff_iff, beq_iff_eq, decide_eq_true_iff]; omega
set_option maxRecDepth 100000 in
set_option maxHeartbeats 4000000 in
theorem between_calls (s : ByteArray) (hs : s.size ≤ 1000000) (i : Nat) (hi : i + 2 < s.size) (w : World) :
    Calls Tryz.prog 147 #[.string s, .int .i64 i] w fun en w' => en = .returned (.agg (ptA (betweenD s i))) ∧ Below w.heap.size w w' := by
  have HR := Lib.hid (Blk.new w (ptI 0 0 0 eT) 181)
  have HB : Hid (Below w.heap.size w (w.alloc (.cells (ptI 0 0 0 eT) 181))) := Lib.hid (by go_grown)
  have hz : w.heap.size + 1 ≤ (w.alloc (.cells (ptI 0 0 0 eT) 181)).heap.size := by simp
  have h0 : i < s.size := by omega
  have b0 : s[i].toNat = bt s i := (bt_eq s i h0).symm
  have b2 : s[i + 2].toNat = bt s (i + 2) := (bt_eq s (i + 2) hi).symm
  have hl0 := bt_lt s i
  have hl2 := bt_lt s (i + 2)
  go_enter Tryz.func147, Tryz.ntmps147
  go_upto_region 1 with fail
  have e0 : w.alloc (.cells #[.int .u64 0, .int .u64 0, .int .u64 0, .int .u64 0, .int .i64 0, .int .i64 0, .string ⟨#[]⟩] 181) = w.alloc (.cells (ptI 0 0 0 eT) 181) := rfl
  rw [e0]
  clear e0
  generalize w.alloc (.cells (ptI 0 0 0 eT) 181) = w1 at *
  have u0 : (i : Int) < (s.size : Int) := by omega
  have u2 : (i : Int) + 2 < (s.size : Int) := by omega
  have u3 : (0 : Int) ≤ (i : Int) + 2 := by omega
  have u4 : ((i : Int) + 2).toNat = i + 2 := by omega
  have x2 : IntKind.i64.wrap ((i : Int) + 2) = (i : Int) + 2 := IntWalk.i64_in _ (by omega)
  have x3 : IntKind.i64.wrap ((i : Int) + 3) = (i : Int) + 3 := IntWalk.i64_in _ (by omega)
  go_quiet (fail)
  clear u0 u2 u3 u4 x2 x3
  have HR2 := Lib.hid (HR.out.drewN nq)
  have HB2 := Lib.hid (below_drN HB.out nq)
  have hz2 : w.heap.size + 1 ≤ (w1.drewN nq).heap.size := hz
  clear HR HB hz
  have HR := HR2
  have HB := HB2
  have hz := hz2
  clear HR2 HB2 hz2
  generalize w1.drewN nq = w1 at *
  by_cases hI : bt s (i + 2) < bt s i
  · have q : decide (bt s (i + 2) < bt s i) = true := by simpa using hI
    have HRES := Lib.hid (show betweenD s i = badD 4 (i + 3) by unfold betweenD; rw [if_pos hI])
    go_wp2_with ((with_reducible refine wpList_store_st (o := ⟨none, .store 181 _ _, _, _, _, _⟩) rfl 181 _ _ rfl w.heap.size rfl rfl (run_storeAt_row _ w.heap.size 181 181 (ptI 0 0 0 eT) (ptI 0 ((i : Int) + 3) 4 eT) ?_ ?_ ?_ ?_) ?_); exact HR.out; exact infoPt; rfl; exact pt_one _ _ _ _)
    exact bodyPost_ret (v := .agg (ptI 0 ((i : Int) + 3) 4 eT)) (results_cell_row rfl _ _ w.heap.size 181 (ptI 0 ((i : Int) + 3) 4 eT) (0, 0) _ rfl (Blk.setRow HR.out) Tryz.underlying181 rfl infoPt) rfl ⟨by rw [HRES.out] <;> rfl, below_row HB.out (by omega) _⟩
  have q : decide (bt s (i + 2) < bt s i) = false := by simpa using hI
  go_upto_region 4 with fail
  go_cut [23] from 24 to 30 (fun x wx => x = .bool (decide (bt s (i + 2) = 91 ∧ isN s (i + 3) [58, 46, 61] = true)) ∧ w1 = wx)
  case first =>
    cases hc : decide (bt s (i + 2) = 91) with
    | true =>
      have hc' : bt s (i + 2) = 91 := of_decide_eq_true hc
      have q1 : ((bt s (i + 2) : Int) == 91) = true := by rw [beq_iff_eq]; omega
      have HC := Lib.hid hc'
      clear hc hc'
      have HA := isNat_calls s hs (i + 3) [58, 46, 61] (by decide)
      rw [show ((i + 3 : Nat) : Int) = (i : Int) + 3 from rfl, show ofT [58, 46, 61] = ⟨#[58, 46, 61]⟩ from rfl] at HA
      have HA2 := Lib.hid HA
      clear HA
      go_wp2_with (go_at_call 141; refine (HA2.out _).mono ?_; rintro e w' ⟨rfl, rfl⟩)
      go_meet
      exact ⟨by simp [HC.out], rfl⟩
    | false =>
      have hc' : ¬ bt s (i + 2) = 91 := of_decide_eq_false hc
      have q1 : ((bt s (i + 2) : Int) == 91) = false := by rw [beq_eq_false_iff_ne]; omega
      have HC := Lib.hid hc'
      clear hc hc'
      go_wp2_with fail
      go_meet
      exact ⟨by simp [HC.out], rfl⟩
  case rest =>
  obtain ⟨rfl, rfl⟩ := hcut
  by_cases hJ : bt s (i + 2) = 91 ∧ isN s (i + 3) [58, 46, 61] = true
  · have q2 : decide (bt s (i + 2) = 91 ∧ isN s (i + 3) [58, 46, 61] = true) = true := decide_eq_true hJ
    have HRES := Lib.hid (show betweenD s i = badD 3 (i + 4) by unfold betweenD; rw [if_neg hI, if_pos hJ])
    rw [q2]
    clear q2 hJ
    go_wp2_with ((with_reducible refine wpList_store_st (o := ⟨none, .store 181 _ _, _, _, _, _⟩) rfl 181 _ _ rfl w.heap.size rfl rfl (run_storeAt_row _ w.heap.size 181 181 (ptI 0 0 0 eT) (ptI 0 ((i : Int) + 4) 3 eT) ?_ ?_ ?_ ?_) ?_); exact HR.out; exact infoPt; rfl; exact pt_one _ _ _ _)
    exact bodyPost_ret (v := .agg (ptI 0 ((i : Int) + 4) 3 eT)) (results_cell_row rfl _ _ w.heap.size 181 (ptI 0 ((i : Int) + 4) 3 eT) (0, 0) _ rfl (Blk.setRow HR.out) Tryz.underlying181 rfl infoPt) rfl ⟨by rw [HRES.out] <;> rfl, below_row HB.out (by omega) _⟩
  have q2 : decide (bt s (i + 2) = 91 ∧ isN s (i + 3) [58, 46, 61] = true) = false := decide_eq_false hJ
  rw [q2]
  clear q2
  have hg : betweenD s i = okD (range (bt s i) (bt s (i + 2))) (i + 3) := by unfold betweenD; rw [if_neg hI, if_neg hJ]
  have hrg := fun w' => range_calls (bt s i) (bt s (i + 2)) w' (by omega) (by omega) (by omega) (by omega)
  rw [show ((bt s i : Int)).toNat = bt s i from rfl, show ((bt s (i + 2) : Int)).toNat = bt s (i + 2) from rfl] at hrg
  generalize range (bt s i) (bt s (i + 2)) = r at *
  have HRES := Lib.hid hg
  have HRG := Lib.hid hrg
  clear hg hrg hJ
  go_wp2_with fail
  refine (HRG.out _).mono ?_
  rintro e w2 ⟨rfl, hb⟩
  have HR2 := Lib.hid (HR.out.below hb (Blk.lt HR.out))
  have HB2 := Lib.hid (HB.out.trans (hb.mono (by omega)))
  have hz2 := Nat.le_trans hz hb.size
  clear HR HB hz hb
  have HR := HR2
  have HB := HB2
  have hz := hz2
  clear HR2 HB2 hz2
  go_wp2_with ((with_reducible refine wpList_store_st (o := ⟨none, .store 181 _ _, _, _, _, _⟩) rfl 181 _ _ rfl w.heap.size rfl rfl (run_storeAt_row _ w.heap.size 181 181 (ptI 0 0 0 eT) (ptI r ((i : Int) + 3) 0 eT) ?_ ?_ ?_ ?_) ?_); exact HR.out; exact infoPt; rfl; exact pt_one _ _ _ _)
  exact bodyPost_ret (v := .agg (ptI r ((i : Int) + 3) 0 eT)) (results_cell_row rfl _ _ w.heap.size 181 (ptI r ((i : Int) + 3) 0 eT) (0, 0) _ rfl (Blk.setRow HR.out) Tryz.underlying181 rfl infoPt) rfl ⟨by rw [HRES.out] <;> rfl, below_row HB.out (by omega) _⟩
end Go.Proofs.YtldaaelmifbbhaaGreat

/- The developers' brackets: run, those. -/
namespace Go.Proofs.YtldaaelmifbbhaaGreat
open Go.RowKit Go.Shelf BS

/-- The bytes of B that are in s, up to k. -/
def acc (s : BitVec 256) (B : ByteArray) : Nat → ByteArray
  | 0 => eT
  | k + 1 => if s.getLsbD (bt B k) = true then acc s B k ++ B.extract k (k + 1) else acc s B k
theorem acc_size (s : BitVec 256) (B : ByteArray) : ∀ k, (acc s B k).size ≤ k
  | 0 => Nat.le_refl _
  | k + 1 => by
    have h := acc_size s B k
    rw [acc]
    split
    · rw [ByteArray.size_append, ByteArray.size_extract]; omega
    · omega
theorem acc_yes (s : BitVec 256) (B : ByteArray) (k : Nat) (h : s.getLsbD (bt B k) = true) : acc s B (k + 1) = acc s B k ++ B.extract k (k + 1) := by rw [acc, if_pos h]
theorem acc_no (s : BitVec 256) (B : ByteArray) (k : Nat) (h : s.getLsbD (bt B k) = false) : acc s B (k + 1) = acc s B k := by rw [acc, if_neg (by rw [h]; decide)]
def STh (w : World) (s : BitVec 256) (W : World) : Prop := Blk W w.heap.size (setA s) 38 ∧ Below w.heap.size w W
theorem STh.keep {w W W' : World} {s : BitVec 256} (h : STh w s W) (hb : Below W.heap.size W W') : STh w s W' := ⟨h.1.below hb h.1.lt, h.2.trans (hb.mono h.2.size)⟩
theorem STh.drewS {w W : World} {s : BitVec 256} (h : STh w s W) : STh w s W.drew := ⟨h.1, h.2.drew⟩

theorem acc_one (s : BitVec 256) (a : Nat) (ha : a < 256) : acc s (ofT [a]) 1 = ofT (iT (s.getLsbD a) a) := by
  have hb : bt (ofT [a]) 0 = a := bt_ofT [a] (by simpa using ha) 0 (by simp)
  have he : (ofT [a]).extract 0 1 = ofT [a] := by apply ByteArray.ext; simp [ofT]
  rw [acc, hb, acc, eT_app]
  unfold iT
  split
  · rw [he]
  · rfl
theorem acc_two (s : BitVec 256) (a b : Nat) (ha : a < 256) (hb : b < 256) : acc s (ofT [a, b]) 2 = ofT (iT (s.getLsbD a) a ++ iT (s.getLsbD b) b) := by
  have hL : ∀ x ∈ [a, b], x < 256 := by simp; omega
  have h0 : bt (ofT [a, b]) 0 = a := bt_ofT [a, b] hL 0 (by simp)
  have h1 : bt (ofT [a, b]) 1 = b := bt_ofT [a, b] hL 1 (by simp)
  have e0 : (ofT [a, b]).extract 0 1 = ofT [a] := by apply ByteArray.ext; simp [ofT]
  have e1 : (ofT [a, b]).extract 1 2 = ofT [b] := by apply ByteArray.ext; simp [ofT]
  rw [acc, acc, h0, h1, acc, eT_app]
  unfold iT
  rw [← ofT_append]
  by_cases g0 : s.getLsbD a = true <;> by_cases g1 : s.getLsbD b = true <;> simp only [g0, g1, if_true, if_false, Bool.false_eq_true, e0, e1]
  · apply ByteArray.ext; simp [ofT]
  · rfl
  · rfl
end Go.Proofs.YtldaaelmifbbhaaGreat

/- The document's brackets: Text. -/
namespace Go.Proofs.YtldaaelmifbbhaaGreat
open Go.RowKit Go.Shelf BS

theorem four_eq : withL 0 [93, 91, 94, 45] = fourS := by decide +kernel
theorem up_eq : withL 0 [94] = range 94 94 := by decide +kernel
theorem bytes_mark (W : World) (t : TypeId) (l : List (Fin 256)) (m : Nat × Nat) : BytesAt (W.alloc (.cells (byW l) t m)).heap.size (W.alloc (.cells (byW l) t m)) (.slice (some ⟨W.heap.size, 0, none⟩) l.length l.length) l := by
  refine ⟨_, l.length, rfl, fun _ => ⟨W.heap.size, 0, rfl, by simp, fun j hj => ?_⟩⟩
  rw [Nat.zero_add, World.cell?_alloc_mark]
  simp [byW, hj]
theorem eq_zero (s : BitVec 256) (w : World) : (Op.equalIn 10000 38 (setV s) (.agg #[.int .u64 0, .int .u64 0, .int .u64 0, .int .u64 0])).run Tryz.prog w = .ok (decide (s = 0)) w := by rw [empty_set]; exact eq_set s 0 w

end Go.Proofs.YtldaaelmifbbhaaGreat

/- The developers' brackets: Text. -/
namespace Go.Proofs.YtldaaelmifbbhaaGreat
open Go.RowKit Go.Shelf BS

theorem four_dev (w : World) (a : Option Addr) (h : BytesAt w.heap.size w (.slice a 4 4) [93, 91, 94, 45]) : Calls Tryz.prog 134 #[setV 0, .slice a 4 4] w fun e w' => e = .returned (setV fourS) ∧ Below w.heap.size w w' := by
  have := with_calls' 0 a 4 4 [93, 91, 94, 45] (by decide) w h
  rw [four_eq] at this; exact this

theorem out_nil (s : BitVec 256) (h : outT s = []) : gT (s.getLsbD 94) 94 ||| (gT (s.getLsbD 45) 45 ||| 0) = s := by
  have hp := set_parts s
  unfold outT at h
  obtain ⟨h1, h2⟩ := List.append_eq_nil_iff.1 h
  obtain ⟨h0, h1⟩ := List.append_eq_nil_iff.1 h1
  have m0 := mid_nil s h1
  have e0 : s.getLsbD 93 = false := by cases hb : s.getLsbD 93 with
    | false => rfl
    | true => rw [hb] at h0; simp [iT] at h0
  have e2 : s.getLsbD 91 = false := by cases hb : s.getLsbD 91 with
    | false => rfl
    | true => rw [hb] at h2; simp [iT] at h2
  rw [e0, e2, m0] at hp
  have g0 : gT false 93 = 0 := rfl
  have g1 : gT false 91 = 0 := rfl
  rw [g0, g1, or_zero, or_zero, or_zero] at hp
  exact hp
theorem out_94 (s : BitVec 256) (h : outT s = []) : s = range 94 94 ↔ (s.getLsbD 45 = false ∧ s.getLsbD 94 = true) := by
  constructor
  · rintro rfl; decide +kernel
  · rintro ⟨h1, h2⟩
    have hp := out_nil s h
    rw [h1, h2] at hp
    rw [← hp]; decide +kernel
theorem nil_94 : outT (range 94 94) = [] := by decide +kernel
theorem txt_q3 (s : BitVec 256) (h : outT s ≠ []) : ((ofT (91 :: outT s)).toList == [91]) = false := by
  rw [beq_eq_false_iff_ne]
  intro h1
  have := congrArg List.length h1
  rw [toL] at this
  simp at this
  exact h this
theorem txt_q4 (s : BitVec 256) (h : outT s ≠ []) (M : List Nat) : ((ofT (91 :: outT s ++ M)).toList == [91, 94]) = false := by
  rw [beq_eq_false_iff_ne]
  intro h1
  obtain ⟨c, L, hL, hc⟩ := out_head s h M
  have hcl : c < 256 := by
    cases ho : outT s with
    | nil => exact absurd ho h
    | cons d l =>
      rw [ho, List.cons_append] at hL
      have := List.cons.inj hL
      have hd := out_lt s d (by rw [ho]; exact List.mem_cons_self ..)
      omega
  rw [toL, List.cons_append, hL] at h1
  simp only [List.map_cons, List.cons.injEq] at h1
  have h2 := congrArg UInt8.toNat h1.2.1
  simp at h2
  omega
theorem txt_q5 (y z : Bool) : ((ofT ([91] ++ (iT z 45 ++ iT y 94))).toList == [91, 94]) = (!z && y) := by rw [toL]; cases y <;> cases z <;> decide

/-- A slice of runs. -/
def RunsAt (rs : List (Nat × Nat)) (v : Value) (W : World) : Prop := ∃ a cap, v = .slice a rs.length cap ∧ (rs ≠ [] → ∃ g, a = some ⟨g, 0, none⟩ ∧ RowAt g rs W)
def UX (s : BitVec 256) (n : Nat) : Nat → List Value → Value → Prop
  | 0, _, v => v = setV s
  | 1, _, v => v = setV 0
  | 2, _, v => ∃ a, v = .slice a 4 4
  | 3, _, v => v = setV fourS
  | 4, _, v => v = setV (s &&& ~~~fourS)
  | 5, _, v => ∃ a cap, v = .slice a n cap
  | 6, _, v => v = .int .i64 n
  | _, _, v => v = .int .i64 0
def VX (rs : List (Nat × Nat)) (i : Nat) (v : Value) (W : World) : Prop := match i with
  | 2 => BytesAt W.heap.size W v [93, 91, 94, 45]
  | 5 => RunsAt rs v W
  | _ => True
theorem keepVX (rs : List (Nat × Nat)) : ∀ i v w w', Below w.heap.size w w' → VX rs i v w → VX rs i v w' := by
  intro i v w w' hb h
  unfold VX at *
  split
  · exact BytesAt.step h hb
  · obtain ⟨a, cap, h1, h2⟩ := h
    refine ⟨a, cap, h1, fun hne => ?_⟩
    obtain ⟨g, h3, h4⟩ := h2 hne
    exact ⟨g, h3, h4.below hb⟩
  · trivial
end Go.Proofs.YtldaaelmifbbhaaGreat

/- The document's brackets: Text. -/
namespace Go.Proofs.YtldaaelmifbbhaaGreat
open Go.RowKit Go.Shelf BS

def UZ (s : BitVec 256) : Nat → List Value → Value → Prop
  | 0, _, v => v = setV s
  | 1, _, v => v = setV 0
  | 2, _, v => ∃ b, v = .slice (some ⟨b, 0, none⟩) 1 1
  | 3, _, v => ∃ b, v = .slice (some ⟨b, 0, none⟩) 1 1
  | 4, _, v => v = setV (range 94 94)
  | _, _, v => v = .bool (decide (s = range 94 94))
def VZ (n0 : Nat) (i : Nat) (v : Value) (W : World) : Prop := match i with
  | 2 => MarkB n0 5 [94] v W
  | 3 => MarkB n0 5 [94] v W
  | _ => True
theorem keepVZ (n0 : Nat) : ∀ i v w w', TM n0 w w' → VZ n0 i v w → VZ n0 i v w' := by
  intro i v w w' hb h
  unfold VZ at *
  split
  · exact MarkB.kept h hb
  · exact MarkB.kept h hb
  · trivial
def SZ (w : World) (n0 gF : Nat) (s : BitVec 256) (W : World) : Prop := (Blk W w.heap.size (setA s) 38 ∧ Blk W gF (setA fourS) 38 ∧ w.heap.size < n0 ∧ gF < n0 ∧ n0 ≤ W.heap.size) ∧ Below w.heap.size w W
theorem SZ.keep {w W W' : World} {n0 gF : Nat} {s : BitVec 256} (h : SZ w n0 gF s W) (hb : TM n0 W W') : SZ w n0 gF s W' :=
  ⟨⟨h.1.1.below hb.1 h.1.2.2.1, h.1.2.1.below hb.1 h.1.2.2.2.1, h.1.2.2.1, h.1.2.2.2.1, Nat.le_trans h.1.2.2.2.2 hb.1.size⟩, h.2.trans (hb.1.mono (by have := h.1.2.2.1; omega))⟩
theorem SZ.drewS {w W : World} {n0 gF : Nat} {s : BitVec 256} (h : SZ w n0 gF s W) : SZ w n0 gF s W.drew := ⟨⟨h.1.1, h.1.2.1, h.1.2.2⟩, h.2.drew⟩
theorem eq94 (s : BitVec 256) (w : World) : (Op.equalIn 10000 38 (setV s) (setV (range 94 94))).run Tryz.prog w = .ok (decide (s = range 94 94)) w := eq_set s (range 94 94) w

theorem out_eq (s : BitVec 256) : (iT (s.getLsbD 93) 93 ++ (rsOf (s &&& ~~~fourS)).flatMap runT) ++ iT (s.getLsbD 91) 91 = outT s := rfl
theorem text_eq (s : BitVec 256) (h0 : ¬ s = 0) (h1 : ¬ s = range 94 94) : textT s = if outT s = [] then [91] ++ iT (s.getLsbD 45) 45 ++ iT (s.getLsbD 94) 94 ++ [93] else [91] ++ outT s ++ iT (s.getLsbD 94) 94 ++ iT (s.getLsbD 45) 45 ++ [93] := by
  unfold textT
  rw [if_neg h0, if_neg h1]
  by_cases h : outT s = []
  · rw [if_pos h, if_pos h]; simp
  · rw [if_neg h, if_neg h]; simp

end Go.Proofs.YtldaaelmifbbhaaGreat

/- Words of a pattern, plainly: the text of a word is read as it; so are texts, one behind the other. -/
namespace Go.Proofs.YtldaaelmifbbhaaGreat
open Go.RowKit BS

theorem bt_mid (p q : ByteArray) (T : List Nat) (hT : ∀ x ∈ T, x < 256) (i : Nat) (h : i < T.length) : bt (p ++ ofT T ++ q) (p.size + i) = T[i] := by
  rw [bt_app, if_pos (by rw [ByteArray.size_append, size_ofT]; omega), bt_off, bt_ofT T hT i h]
theorem size_mid (p q : ByteArray) (T : List Nat) : (p ++ ofT T ++ q).size = p.size + T.length + q.size := by rw [ByteArray.size_append, ByteArray.size_append, size_ofT]

theorem el_all (f : Nat → Bool) : ∀ k, (el f k).length = k → ∀ j, j < k → f j = true
  | 0, _, j, hj => by omega
  | k + 1, h, j, hj => by
    have hl : (el f k).length ≤ k := by unfold el; exact Nat.le_trans (List.length_filter_le _ _) (by simp)
    rw [el_succ] at h
    cases hf : f k with
    | false => rw [hf] at h; simp at h; omega
    | true =>
      rw [hf] at h
      simp at h
      by_cases hjk : j = k
      · subst hjk; exact hf
      · exact el_all f k h j (by omega)
theorem set_all (t : BitVec 256) (h : (el t.getLsbD 256).length = 256) : t = range 0 255 := by
  have := el_all _ 256 h
  apply BitVec.eq_of_getLsbD_eq
  intro j hj
  rw [this j hj, range, get_ofFn]
  simp
  omega
theorem set_one (t : BitVec 256) (b : Nat) (h : el t.getLsbD 256 = [b]) : b < 256 ∧ t = range b b := by
  have hm : ∀ j, j < 256 → (t.getLsbD j = true ↔ j = b) := fun j hj => by
    have : j ∈ el t.getLsbD 256 ↔ j = b := by rw [h]; simp
    rw [← this]
    unfold el
    simp [hj]
  have hb : b < 256 := by
    have : b ∈ el t.getLsbD 256 := by rw [h]; simp
    unfold el at this
    simp at this
    exact this.1
  refine ⟨hb, ?_⟩
  apply BitVec.eq_of_getLsbD_eq
  intro j hj
  rw [range, get_ofFn, Bool.eq_iff_iff, hm j hj]
  simp
  omega
theorem range94_one : (el (range 94 94).getLsbD 256).length = 1 := by decide +kernel
/-- How the text of a set is read. -/
def BackT (t : BitVec 256) (T : List Nat) : Prop := T ≠ [] ∧ (∀ x ∈ T, x < 256) ∧ T.length ≤ 800 ∧ ∀ p q : ByteArray, nextA (p ++ ofT T ++ q) p.size = (oneW t p.size (p.size + T.length), 0, 0)
theorem next_byte (s : ByteArray) (a b : Nat) (h : bt s a = b) (hb : four14 b = false ∨ b = 93 ∨ b = 125) : nextA s a = (oneW (range b b) a (a + 1), 0, 0) := by
  have key : ∀ c, c ∈ [40, 41, 124, 42, 43, 63, 123, 91, 46, 94, 36, 92] → b ≠ c := by
    rintro c hc rfl
    rcases hb with hb | hb | hb
    · have h4 : ∀ x ∈ [40, 41, 124, 42, 43, 63, 123, 91, 46, 94, 36, 92], four14 x = true := by decide
      rw [h4 b hc] at hb; cases hb
    · subst hb; revert hc; decide
    · subst hb; revert hc; decide
  unfold nextA
  rw [h, if_neg (key 40 (by decide)), if_neg (key 41 (by decide)), if_neg (key 124 (by decide)),
    if_neg (fun h => by rcases h with h | h | h | h; exact key 42 (by decide) h; exact key 43 (by decide) h; exact key 63 (by decide) h; exact key 123 (by decide) h),
    if_neg (key 91 (by decide)), if_neg (key 46 (by decide)), if_neg (fun h => by rcases h with h | h; exact key 94 (by decide) h; exact key 36 (by decide) h), if_neg (key 92 (by decide))]
theorem next_slash (s : ByteArray) (a b : Nat) (h0 : bt s a = 92) (hz : a + 1 < s.size) (h1 : bt s (a + 1) = b) (hb : four14 b = true) : nextA s a = (oneW (range b b) a (a + 2), 0, 0) := by
  unfold nextA
  rw [h0, if_neg (by decide), if_neg (by decide), if_neg (by decide), if_neg (by decide), if_neg (by decide), if_neg (by decide), if_neg (by decide), if_pos rfl]
  unfold slashW
  rw [if_neg (by omega), h1, if_neg (by rw [hb]; decide)]
theorem back_set (t : BitVec 256) : BackT t (textW t) := by
  unfold textW
  by_cases h256 : (el t.getLsbD 256).length = 256
  · rw [if_pos h256]
    obtain rfl := set_all t h256
    refine ⟨by decide, by decide, by decide, fun p q => ?_⟩
    have hb : bt (p ++ ofT [46] ++ q) p.size = 46 := bt_mid p q [46] (by decide) 0 (by decide)
    unfold nextA
    rw [hb, if_neg (by decide), if_neg (by decide), if_neg (by decide), if_neg (by decide), if_neg (by decide), if_pos rfl]
    rfl
  rw [if_neg h256]
  by_cases h1 : (el t.getLsbD 256).length ≠ 1
  · rw [if_pos h1]
    have hn : t ≠ range 94 94 := by rintro rfl; exact h1 range94_one
    refine ⟨fun h => hn ((text_nil t).1 h), text_lt t, text_len t, fun p q => ?_⟩
    have hr := readR_back p q t hn
    have h91 : bt (p ++ ofT (textT t) ++ q) p.size = 91 := by
      rcases readR_end (p ++ ofT (textT t) ++ q) p.size with ⟨h, _⟩ | ⟨_, _, h, _⟩
      · rw [hr] at h; cases h
      · exact h
    unfold nextA
    rw [h91, if_neg (by decide), if_neg (by decide), if_neg (by decide), if_neg (by decide), if_pos rfl]
    unfold brkW
    rw [hr]
    rfl
  rw [if_neg h1]
  obtain ⟨b, hb⟩ : ∃ b, el t.getLsbD 256 = [b] := List.length_eq_one_iff.1 (Decidable.not_not.1 h1)
  obtain ⟨hlt, rfl⟩ := set_one t b hb
  rw [hb]
  simp only
  by_cases hf : four14 b = true ∧ b ≠ 93 ∧ b ≠ 125
  · rw [if_pos hf]
    refine ⟨by simp, by simp; omega, by simp, fun p q => ?_⟩
    have hT : ∀ x ∈ [92, b], x < 256 := by simp; omega
    exact next_slash _ p.size b (bt_mid p q [92, b] hT 0 (by simp)) (by rw [size_mid]; simp; omega) (bt_mid p q [92, b] hT 1 (by simp)) hf.1
  · rw [if_neg hf]
    refine ⟨by simp, by simp; omega, by simp, fun p q => ?_⟩
    have hT : ∀ x ∈ [b], x < 256 := by simp; omega
    refine next_byte _ p.size b (bt_mid p q [b] hT 0 (by simp)) ?_
    by_cases h4 : four14 b = true
    · right
      by_cases h93 : b = 93
      · exact .inl h93
      · exact .inr (Decidable.not_not.1 fun h => hf ⟨h4, h93, h⟩)
    · exact .inl (by simpa using h4)

/-- The word at another place. -/
def atW (w : WN) (p l : Nat) : WN := ⟨w.kind, p, p + l, w.set, w.n, w.m⟩
theorem textN_lt (n m : Int) (h : rightN n m = true) : (∀ x ∈ textN n m, x < 256) ∧ (textN n m).length ≤ 7 := by
  have hd : ∀ k, k ≤ 99 → (∀ x ∈ digL k, x < 256) ∧ (digL k).length ≤ 2 := fun k hk => by
    unfold digL
    split
    · simp; omega
    · simp; omega
  have hc : 0 ≤ n ∧ n ≤ 99 ∧ (m = -1 ∨ (n ≤ m ∧ m ≤ 99)) := by
    unfold rightN at h
    simp only [Bool.and_eq_true, Bool.or_eq_true, decide_eq_true_eq, beq_iff_eq] at h
    omega
  have h1 := hd n.toNat (by omega)
  have h2 : m ≠ -1 → _ := fun hm => hd m.toNat (by omega)
  unfold textN
  rw [if_neg (by rw [h]; decide)]
  split
  · simp
  split
  · simp
  split
  · simp
  split
  · refine ⟨fun x hx => ?_, by simp; omega⟩
    simp at hx
    rcases hx with rfl | hx | rfl
    · decide
    · exact h1.1 x hx
    · decide
  split
  · refine ⟨fun x hx => ?_, by simp; omega⟩
    simp at hx
    rcases hx with rfl | hx | rfl | rfl
    · decide
    · exact h1.1 x hx
    · decide
    · decide
  · rename_i hm
    have h2 := h2 hm
    refine ⟨fun x hx => ?_, by simp; omega⟩
    simp at hx
    rcases hx with rfl | hx | rfl | hx | rfl
    · decide
    · exact h1.1 x hx
    · decide
    · exact h2.1 x hx
    · decide
/-- **The text of a word is read as it, whatever stands ahead of it, and behind.** -/
theorem back_word (w : WN) (hw : OkW w) : printW w ≠ [] ∧ (∀ x ∈ printW w, x < 256) ∧ (printW w).length ≤ 800 ∧ ∀ p q : ByteArray, nextA (p ++ ofT (printW w) ++ q) p.size = (atW w p.size (printW w).length, 0, 0) := by
  obtain ⟨k, a, e, t, n, m⟩ := w
  rcases hw with ⟨rfl, rfl, rfl⟩ | ⟨hk, rfl, rfl, rfl⟩ | ⟨rfl, rfl, hr⟩
  · exact back_set t
  · have key : ∀ c : Nat, ∀ k, c < 256 → (∀ s a, bt s a = c → nextA s a = (⟨k, a, a + 1, 0, 0, 0⟩, 0, 0)) → ([c] ≠ [] ∧ (∀ x ∈ [c], x < 256) ∧ [c].length ≤ 800 ∧ ∀ p q : ByteArray, nextA (p ++ ofT [c] ++ q) p.size = (⟨k, p.size, p.size + [c].length, 0, 0, 0⟩, 0, 0)) := fun c k hc h =>
      ⟨by simp, by simpa using hc, by simp, fun p q => h _ _ (bt_mid p q [c] (by simpa using hc) 0 (by simp))⟩
    simp only at hk
    rcases hk with rfl | rfl | rfl
    · exact key 40 2 (by decide) (fun s a h => by unfold nextA; rw [if_pos h])
    · exact key 41 3 (by decide) (fun s a h => by unfold nextA; rw [if_neg (by omega), if_pos h])
    · exact key 124 4 (by decide) (fun s a h => by unfold nextA; rw [if_neg (by omega), if_neg (by omega), if_pos h])
  · have hlt := textN_lt n m hr
    simp only at hr
    refine ⟨(readN_back eT eT n m hr).1, hlt.1, Nat.le_trans hlt.2 (by decide), fun p q => ?_⟩
    show nextA (p ++ ofT (textN n m) ++ q) p.size = (⟨5, p.size, p.size + (textN n m).length, 0, n, m⟩, 0, 0)
    have hb := (readN_back p q n m hr).2
    have hne := (readN_back p q n m hr).1
    have hl : 0 < (textN n m).length := List.length_pos_iff.2 hne
    have hz := size_mid p q (textN n m)
    have hfour : bt (p ++ ofT (textN n m) ++ q) p.size = 42 ∨ bt (p ++ ofT (textN n m) ++ q) p.size = 43 ∨ bt (p ++ ofT (textN n m) ++ q) p.size = 63 ∨ bt (p ++ ofT (textN n m) ++ q) p.size = 123 := by
      have hb2 := hb
      unfold readN at hb2
      rw [if_neg (by omega), show (p.size : Int).toNat = p.size from rfl] at hb2
      unfold signN at hb2
      by_cases g1 : bt (p ++ ofT (textN n m) ++ q) p.size = 42
      · exact .inl g1
      by_cases g2 : bt (p ++ ofT (textN n m) ++ q) p.size = 43
      · exact .inr (.inl g2)
      by_cases g3 : bt (p ++ ofT (textN n m) ++ q) p.size = 63
      · exact .inr (.inr (.inl g3))
      by_cases g4 : bt (p ++ ofT (textN n m) ++ q) p.size = 123
      · exact .inr (.inr (.inr g4))
      rw [if_neg g1, if_neg g2, if_neg g3, if_neg g4] at hb2
      cases hb2
    unfold nextA
    rw [if_neg (by omega), if_neg (by omega), if_neg (by omega), if_pos hfour]
    unfold cntW
    rw [hb]
    rfl

/-- The words, one behind the other, from a place on. -/
def layW : Nat → List WN → List WN
  | _, [] => []
  | p, w :: l => atW w p (printW w).length :: layW (p + (printW w).length) l
def catW (l : List WN) : List Nat := l.flatMap printW
theorem allN_back : ∀ (l : List WN) (p : ByteArray) (k : Nat) (acc : List WN), (∀ w ∈ l, OkW w) → l.length < k → allN (p ++ ofT (catW l)) k p.size acc = (acc ++ layW p.size l, 0, 0)
  | [], p, k + 1, acc, _, _ => by
    rw [allN, if_pos (by rw [show catW [] = [] from rfl, ByteArray.size_append, size_ofT]; simp)]
    simp [layW]
  | w :: l, p, k + 1, acc, hok, hk => by
    obtain ⟨h1, h2, h3, h4⟩ := back_word w (hok w (List.mem_cons_self ..))
    have e : ofT (catW (w :: l)) = ofT (printW w) ++ ofT (catW l) := by rw [ofT_append]; rfl
    have hl : 0 < (printW w).length := List.length_pos_iff.2 h1
    have hn := h4 p (ofT (catW l))
    rw [allN, e, ← ByteArray.append_assoc, if_neg (by rw [size_mid]; omega), hn]
    simp only
    rw [if_neg (by decide)]
    have hz : p.size + (printW w).length = (p ++ ofT (printW w)).size := by rw [ByteArray.size_append, size_ofT]
    show allN _ k (p.size + (printW w).length) _ = _
    rw [hz, allN_back l (p ++ ofT (printW w)) k _ (fun x hx => hok x (List.mem_cons_of_mem _ hx)) (by simp at hk; omega)]
    simp only [layW, List.append_assoc, List.cons_append, List.nil_append]
    rw [← hz]
/-- All words of a text lie side by side, and are words. -/
def SideW : Nat → Nat → List WN → Prop
  | a, e, [] => a = e
  | a, e, w :: l => w.pos = a ∧ a < w.fin ∧ OkW w ∧ SideW w.fin e l
theorem side_snoc (w : WN) : ∀ (l : List WN) (a e : Nat), SideW a e l → w.pos = e → e < w.fin → OkW w → SideW a w.fin (l ++ [w])
  | [], a, e, h, h1, h2, h3 => by
    have h' : a = e := h
    subst h'
    exact ⟨h1, h2, h3, rfl⟩
  | x :: l, a, e, h, h1, h2, h3 => ⟨h.1, h.2.1, h.2.2.1, side_snoc w l _ _ h.2.2.2 h1 h2 h3⟩
theorem allN_side (s : ByteArray) : ∀ k a acc, a ≤ s.size → s.size < k + a → SideW 0 a acc → ((allN s k a acc).2.1 = 0 ∧ (allN s k a acc).2.2 = 0 ∧ SideW 0 s.size (allN s k a acc).1) ∨ ((allN s k a acc).2.1 ≠ 0 ∧ (allN s k a acc).1 = [])
  | 0, a, acc, ha, hk, _ => by omega
  | k + 1, a, acc, ha, hk, hs => by
    rw [allN]
    by_cases h : s.size ≤ a
    · rw [if_pos h]
      obtain rfl : a = s.size := by omega
      exact .inl ⟨rfl, rfl, hs⟩
    · rw [if_neg h]
      have hE := nextA_end s a (by omega)
      generalize nextA s a = X at *
      obtain ⟨w, e, p⟩ := X
      simp only
      rcases hE with ⟨h1, h2, h3, h4, h5, h6⟩ | ⟨h1, _⟩
      · rw [if_neg (by simp only at h1; omega)]
        exact allN_side s k w.fin _ h6 (by simp only at h5; omega) (side_snoc w acc 0 a hs h4 h5 h3)
      · simp only at h1
        rw [if_pos h1]
        exact .inr ⟨h1, rfl⟩
end Go.Proofs.YtldaaelmifbbhaaGreat

/- The developers' brackets: restOfName, named. -/
namespace Go.Proofs.YtldaaelmifbbhaaGreat
open Go.RowKit Go.Shelf BS

def cutP (s p : ByteArray) : ByteArray := if pfx s p = true then s.extract p.size s.size else s
set_option maxRecDepth 100000 in
set_option maxHeartbeats 1000000 in
theorem scp_calls (s p : ByteArray) (hs : s.size ≤ 9223372036854775807) (hp : p.size ≤ 9223372036854775807) (w : World) : Calls Tryz.prog 157 #[.string s, .string p] w fun e w' => e = .returned (.tuple #[.string (cutP s p), .bool (pfx s p)]) ∧ w = w' := by
  cases hq : pfx s p with
  | true =>
    have HQ := Lib.hid hq
    have hl : p.size ≤ s.size := (pfx_bt hq).1
    have hC := Lib.hid (show cutP s p = s.extract p.size s.size by unfold cutP; rw [if_pos hq])
    clear hq
    go_enter Tryz.func157, Tryz.ntmps157
    go_wp2_with (go_at_call 48; refine (hp1_calls s p hs hp _).mono ?_; rintro e w' ⟨rfl, rfl⟩; rw [HQ.out])
    go_ret2
    exact ⟨by rw [hC.out] <;> rfl, rfl⟩
  | false =>
    have HQ := Lib.hid hq
    have hC := Lib.hid (show cutP s p = s by unfold cutP; rw [if_neg (by rw [hq]; decide)])
    clear hq
    go_enter Tryz.func157, Tryz.ntmps157
    go_wp2_with (go_at_call 48; refine (hp1_calls s p hs hp _).mono ?_; rintro e w' ⟨rfl, rfl⟩; rw [HQ.out])
    go_ret2
    exact ⟨by rw [hC.out] <;> rfl, rfl⟩
set_option maxRecDepth 100000 in
set_option maxHeartbeats 1000000 in
theorem cp_calls (s p : ByteArray) (hs : s.size ≤ 9223372036854775807) (hp : p.size ≤ 9223372036854775807) (w : World) : Calls Tryz.prog 154 #[.string s, .string p] w fun e w' => e = .returned (.tuple #[.string (cutP s p), .bool (pfx s p)]) ∧ w = w' := by
  go_enter Tryz.func154, Tryz.ntmps154
  go_wp2_with (go_at_call 157; refine (scp_calls s p hs hp _).mono ?_; rintro e w' ⟨rfl, rfl⟩)
  go_ret2
  exact ⟨rfl, rfl⟩

theorem restD_at (l : ByteArray) (k : Nat) (hk : k < 12) (hf : ∀ j, j < k → pfx (tE j).1 l = false) (h : pfx (tE k).1 l = true) : restD l = cutP (tE k).1 l := by
  have h1 : (tabL.find? fun e => pfx e.1 l) = some (tE k) := by
    rw [tE_eq k hk]
    refine find_at _ tabL k hk (fun j hj => ?_) ?_
    · have := hf j hj
      rwa [tE_eq j (by omega)] at this
    · rwa [tE_eq k hk] at h
  rw [restD, h1, cutP, if_pos h]; rfl
theorem restD_not (l : ByteArray) (hf : ∀ j, j < 12 → pfx (tE j).1 l = false) : restD l = eT := by
  have h1 : (tabL.find? fun e => pfx e.1 l) = none := by
    refine find_not _ tabL fun j hj => ?_
    have := hf j hj
    rwa [tE_eq j hj] at this
  rw [restD, h1]; rfl

theorem cutP_size (s p : ByteArray) : (cutP s p).size ≤ s.size := by
  unfold cutP; split
  · rw [ByteArray.size_extract]; omega
  · exact Nat.le_refl _
theorem restD_size (l : ByteArray) : (restD l).size ≤ 16 := by
  by_cases h : ∀ j, j < 12 → pfx (tE j).1 l = false
  · rw [restD_not l h]; decide
  · obtain ⟨k, hk, hf, hp⟩ : ∃ k, k < 12 ∧ (∀ j, j < k → pfx (tE j).1 l = false) ∧ pfx (tE k).1 l = true := by
      refine Decidable.byContradiction fun hc => h fun j => ?_
      induction j using Nat.strongRecOn with
      | _ j ih =>
        intro hj
        cases hp : pfx (tE j).1 l with
        | false => rfl
        | true => exact absurd ⟨j, hj, fun i hi => ih i hi (by omega), hp⟩ hc
    rw [restD_at l k hk hf hp]
    exact Nat.le_trans (cutP_size _ _) (name_len k hk).1

set_option maxRecDepth 100000 in
set_option maxHeartbeats 4000000 in
theorem rest_calls (s : ByteArray) (hs : s.size ≤ 9223372036854775807) (w : World) : Calls Tryz.prog 150 #[.string s] w fun e w' => e = .returned (.string (restD s)) ∧ Below w.heap.size w w' := by
  go_enter Tryz.func150, Tryz.ntmps150
  go_wp2_with fail
  refine (cNames_calls _).mono ?_
  rintro e w2 ⟨g, rfl, ⟨hg, hN⟩, hb2⟩
  have HN := Lib.hid hN
  clear hN hg
  go_wp2_with fail
  go_loopw [9] (fun i wr => ∃ k : Nat, k ≤ 12 ∧ i = .int .i64 k ∧ (∀ j, j < k → pfx (tE j).1 s = false) ∧ w2 = wr) (fun i _ => 12 - (intOf i).toNat)
  case atStart => exact ⟨0, by omega, rfl, fun j hj => by omega, rfl⟩
  case round =>
    obtain ⟨k, hk, rfl, hno, rfl⟩ := hrel
    have HNO := Lib.hid hno
    clear hno
    by_cases hkl : k < 12
    · have hcn := HN.out.cell k
      rw [namV_get k hkl] at hcn
      have hnz := tE_size k hkl
      cases hq : pfx (tE k).1 s with
      | true =>
        have HS := Lib.hid (restD_at s k hkl HNO.out hq)
        generalize (tE k).1 = nm at *
        have HQ := Lib.hid hq
        clear hq
        go_wp2_with (go_at_call 154; refine (cp_calls nm s hnz hs _).mono ?_; rintro e w' ⟨rfl, rfl⟩; rw [HQ.out])
        go_ret
        exact ⟨by rw [HS.out] <;> rfl, hb2⟩
      | false =>
        have HQ := Lib.hid hq
        clear hq
        generalize hnm : (tE k).1 = nm at hcn hnz
        have HNM := Lib.hid hnm
        clear hnm
        go_wp2_with (go_at_call 154; refine (cp_calls nm s hnz hs _).mono ?_; rintro e w' ⟨rfl, rfl⟩; rw [← HNM.out, HQ.out])
        go_roundw
        case rel =>
          refine ⟨k + 1, by omega, by simp, fun j hj => ?_, trivial⟩
          by_cases hjk : j = k
          · subst hjk; exact HQ.out
          · exact HNO.out j (by omega)
        case measure => simp [intOf]; omega
    · obtain rfl : k = 12 := by omega
      have HS := Lib.hid (restD_not s HNO.out)
      go_wp2
      go_ret
      exact ⟨by rw [HS.out]; rfl, hb2⟩

theorem nmEnd_on (s : ByteArray) (a n e : Nat) (h : begB (s.extract a (e + 1)) = true) : nmEnd s a (n + 1) e = nmEnd s a n (e + 1) := by rw [nmEnd, if_pos h]
theorem nmEnd_off (s : ByteArray) (a n e : Nat) (h : begB (s.extract a (e + 1)) = false) : nmEnd s a (n + 1) e = e := by rw [nmEnd, if_neg (by rw [h]; decide)]
theorem nmEnd_le (s : ByteArray) (a : Nat) : ∀ n e, e ≤ nmEnd s a n e ∧ nmEnd s a n e ≤ e + n
  | 0, e => ⟨Nat.le_refl _, Nat.le_refl _⟩
  | n + 1, e => by
    rw [nmEnd]
    split
    · have := nmEnd_le s a n (e + 1)
      omega
    · omega

set_option maxRecDepth 100000 in
set_option maxHeartbeats 8000000 in
theorem named_calls (s : ByteArray) (hs : s.size ≤ 1000000) (a : Nat) (ha : a ≤ s.size) (w : World) :
    Calls Tryz.prog 146 #[.string s, .int .i64 a] w fun en w' => en = .returned (.agg (ptA (namedD s a))) ∧ Below w.heap.size w w' := by
  have HR := Lib.hid (Blk.new w (ptI 0 0 0 eT) 181)
  have HB : Hid (Below w.heap.size w (w.alloc (.cells (ptI 0 0 0 eT) 181))) := Lib.hid (by go_grown)
  have hz : w.heap.size + 1 ≤ (w.alloc (.cells (ptI 0 0 0 eT) 181)).heap.size := by simp
  have HG := Lib.hid (show namedD s a = behindD s a (nmEnd s a (s.size - a) a) from rfl)
  have hE := nmEnd_le s a (s.size - a) a
  generalize hn : nmEnd s a (s.size - a) a = E at HG hE
  have HN := Lib.hid hn
  have hE2 : E ≤ s.size := by omega
  have hE1 := hE.1
  clear hn hE
  go_enter Tryz.func146, Tryz.ntmps146
  go_upto_region 1 with fail
  have e0 : w.alloc (.cells #[.int .u64 0, .int .u64 0, .int .u64 0, .int .u64 0, .int .i64 0, .int .i64 0, .string ⟨#[]⟩] 181) = w.alloc (.cells (ptI 0 0 0 eT) 181) := rfl
  rw [e0]
  clear e0
  generalize w.alloc (.cells (ptI 0 0 0 eT) 181) = w1 at *
  go_upto_block 0 with fail
  go_cut [5] from 9 to 22 (fun x wx => x = .int .i64 E ∧ Blk wx w.heap.size (ptI 0 0 0 eT) 181 ∧ Below w.heap.size w wx ∧ w.heap.size + 1 ≤ wx.heap.size)
  case first =>
    go_wp2_with fail
    go_loopw [5] (fun v wr => ∃ e : Nat, a ≤ e ∧ e ≤ s.size ∧ v = .int .i64 e ∧ nmEnd s a (s.size - e) e = E ∧ Blk wr w.heap.size (ptI 0 0 0 eT) 181 ∧ Below w.heap.size w wr ∧ w.heap.size + 1 ≤ wr.heap.size) (fun v _ => s.size - (intOf v).toNat)
    case atStart => exact ⟨a, Nat.le_refl _, ha, rfl, HN.out, HR.out, HB.out, hz⟩
    case round =>
      clear HR HB HN hz
      obtain ⟨e, he1, he2, rfl, hres, hR, hB, hz⟩ := hrel
      have HR := Lib.hid hR
      have HB := Lib.hid hB
      clear hR hB
      by_cases hl : e < s.size
      · obtain ⟨n, hn⟩ : ∃ n, s.size - e = n + 1 := ⟨s.size - e - 1, by omega⟩
        have hn' : n = s.size - (e + 1) := by omega
        rw [hn] at hres
        clear hn
        have HBE := Lib.hid (cBegins_calls (s.extract a (e + 1)) (by simp; omega))
        cases hbb : begB (s.extract a (e + 1)) with
        | false =>
          rw [nmEnd_off _ _ _ _ hbb] at hres
          rw [hbb] at HBE
          obtain rfl : e = E := hres
          clear hbb hn'
          go_wp2_with (go_at_call 148; refine (HBE.out _).mono ?_; rintro e' w' ⟨rfl, hb⟩; have hz := Nat.le_trans hz hb.size; have HR2 := Lib.hid (HR.out.below hb (Blk.lt HR.out)); have HB2 := Lib.hid (HB.out.trans (hb.mono (by omega))); clear HR HB hb; have HR := HR2; have HB := HB2; clear HR2 HB2)
          go_meet
          exact ⟨rfl, HR.out, HB.out, hz⟩
        | true =>
          rw [nmEnd_on _ _ _ _ hbb] at hres
          rw [hbb] at HBE
          have HRES := Lib.hid hres
          clear hres hbb
          go_wp2_with (go_at_call 148; refine (HBE.out _).mono ?_; rintro e' w' ⟨rfl, hb⟩; have hz := Nat.le_trans hz hb.size; have HR2 := Lib.hid (HR.out.below hb (Blk.lt HR.out)); have HB2 := Lib.hid (HB.out.trans (hb.mono (by omega))); clear HR HB hb; have HR := HR2; have HB := HB2; clear HR2 HB2)
          go_roundw
          case rel => exact ⟨e + 1, by omega, by omega, by simp, by rw [← hn']; exact HRES.out, HR.out, HB.out, hz⟩
          case measure => simp [intOf]; omega
      · obtain rfl : e = s.size := by omega
        rw [Nat.sub_self] at hres
        obtain rfl : s.size = E := hres
        go_wp2_with fail
        go_meet
        exact ⟨rfl, HR.out, HB.out, hz⟩
  case rest =>
  clear HR HB HN hz
  obtain ⟨rfl, hR, hB, hz⟩ := hcut
  have HR := Lib.hid hR
  have HB := Lib.hid hB
  clear hR hB
  have HOF := Lib.hid (cOf_calls (s.extract a E))
  have hg := HG.out
  unfold behindD at hg
  generalize ofS (s.extract a E).toList = c at hg HOF
  generalize ofB (s.extract a E).toList = ok at hg HOF
  clear HG
  have HG := Lib.hid hg
  clear hg
  go_wp2_with fail
  refine (HOF.out _).mono ?_
  rintro e w2 ⟨rfl, hb⟩
  have HR2 := Lib.hid (HR.out.below hb (Blk.lt HR.out))
  have HB2 := Lib.hid (HB.out.trans (hb.mono (by omega)))
  have hz2 := Nat.le_trans hz hb.size
  clear HR HB hz hb
  have HR := HR2
  have HB := HB2
  have hz := hz2
  clear HR2 HB2 hz2
  clear HOF
  go_upto_region 5 with fail
  have HC := Lib.hid (Blk.new w2 (setA c) 38)
  replace HR := Lib.hid (HR.out.alloc (.cells #[.int .u64 (wd c 0), .int .u64 (wd c 1), .int .u64 (wd c 2), .int .u64 (wd c 3)] 38))
  replace HB := Lib.hid (HB.out.alloc (by omega) (.cells #[.int .u64 (wd c 0), .int .u64 (wd c 1), .int .u64 (wd c 2), .int .u64 (wd c 3)] 38))
  replace HC : Hid (Blk (w2.alloc (.cells #[.int .u64 (wd c 0), .int .u64 (wd c 1), .int .u64 (wd c 2), .int .u64 (wd c 3)] 38)) w2.heap.size (setA c) 38) := HC
  have hz2 : w.heap.size + 1 ≤ (w2.alloc (.cells #[.int .u64 (wd c 0), .int .u64 (wd c 1), .int .u64 (wd c 2), .int .u64 (wd c 3)] 38)).heap.size := by simp; omega
  clear hz
  have hz := hz2
  clear hz2
  generalize w2.alloc (.cells #[.int .u64 (wd c 0), .int .u64 (wd c 1), .int .u64 (wd c 2), .int .u64 (wd c 3)] 38) = w3 at *
  generalize w2.heap.size = B at *
  by_cases h1 : E = s.size
  · subst h1
    have HRES := Lib.hid (show namedD s a = shortD s (restD (s.extract a s.size) ++ colT) by rw [HG.out, if_pos rfl])
    have HRC := Lib.hid (rest_calls (s.extract a s.size) (by simp; omega))
    have hl := restD_size (s.extract a s.size)
    generalize restD (s.extract a s.size) = l at HRES HRC hl
    have hadd : ∀ w, (Op.stringOp .add l ⟨#[58, 93, 93]⟩).run Tryz.prog w = .ok (.string (l ++ colT)) w := fun w => run_string_add_sum w l colT (by rw [show colT.size = 3 from rfl]; omega)
    go_wp2_with fail
    refine (HRC.out _).mono ?_
    rintro e w4 ⟨rfl, hb⟩
    have HR2 := Lib.hid (HR.out.below hb (Blk.lt HR.out))
    have HB2 := Lib.hid (HB.out.trans (hb.mono (by omega)))
    have hz2 := Nat.le_trans hz hb.size
    clear HR HB hz hb
    have HR := HR2
    have HB := HB2
    have hz := hz2
    clear HR2 HB2 hz2
    go_wp2_with fail
    refine (short_calls _ _ _).mono ?_
    rintro e w5 ⟨rfl, hb⟩
    have HR2 := Lib.hid (HR.out.below hb (Blk.lt HR.out))
    have HB2 := Lib.hid (HB.out.trans (hb.mono (by omega)))
    have hz2 := Nat.le_trans hz hb.size
    clear HR HB hz hb
    have HR := HR2
    have HB := HB2
    have hz := hz2
    clear HR2 HB2 hz2
    go_wp2_with ((with_reducible refine wpList_store_st (o := ⟨none, .store 181 _ _, _, _, _, _⟩) rfl 181 _ _ rfl w.heap.size rfl rfl (run_storeAt_row _ w.heap.size 181 181 (ptI 0 0 0 eT) (ptI 0 s.size 2 (l ++ colT)) ?_ ?_ ?_ ?_) ?_); exact HR.out; exact infoPt; rfl; exact pt_one _ _ _ _)
    exact bodyPost_ret (v := .agg (ptI 0 s.size 2 (l ++ colT))) (results_cell_row rfl _ _ w.heap.size 181 (ptI 0 s.size 2 (l ++ colT)) (0, 0) _ rfl (Blk.setRow HR.out) Tryz.underlying181 rfl infoPt) rfl ⟨by rw [HRES.out] <;> rfl, below_row HB.out (by omega) _⟩
  have hE3 : E < s.size := by omega
  have q1 : ((E : Int) == (s.size : Int)) = false := by rw [beq_eq_false_iff_ne]; omega
  have b0 : s[E].toNat = bt s E := (bt_eq s E hE3).symm
  have hg := HG.out
  rw [if_neg h1] at hg
  clear HG
  cases ok with
  | false =>
    rw [if_pos (.inl rfl)] at hg
    have HRES := Lib.hid hg
    clear hg
    go_wp2_with ((with_reducible refine wpList_store_st (o := ⟨none, .store 181 _ _, _, _, _, _⟩) rfl 181 _ _ rfl w.heap.size rfl rfl (run_storeAt_row _ w.heap.size 181 181 (ptI 0 0 0 eT) (ptI 0 ((E : Int) + 1) 5 eT) ?_ ?_ ?_ ?_) ?_); exact HR.out; exact infoPt; rfl; exact pt_one _ _ _ _)
    exact bodyPost_ret (v := .agg (ptI 0 ((E : Int) + 1) 5 eT)) (results_cell_row rfl _ _ w.heap.size 181 (ptI 0 ((E : Int) + 1) 5 eT) (0, 0) _ rfl (Blk.setRow HR.out) Tryz.underlying181 rfl infoPt) rfl ⟨by rw [HRES.out] <;> rfl, below_row HB.out (by omega) _⟩
  | true =>
  by_cases h2 : bt s E ≠ 58
  · rw [if_pos (.inr h2)] at hg
    have q2 : ((bt s E : Int) != 58) = true := by rw [bne_iff_ne]; omega
    have HRES := Lib.hid hg
    clear hg h2
    go_wp2_with ((with_reducible refine wpList_store_st (o := ⟨none, .store 181 _ _, _, _, _, _⟩) rfl 181 _ _ rfl w.heap.size rfl rfl (run_storeAt_row _ w.heap.size 181 181 (ptI 0 0 0 eT) (ptI 0 ((E : Int) + 1) 5 eT) ?_ ?_ ?_ ?_) ?_); exact HR.out; exact infoPt; rfl; exact pt_one _ _ _ _)
    exact bodyPost_ret (v := .agg (ptI 0 ((E : Int) + 1) 5 eT)) (results_cell_row rfl _ _ w.heap.size 181 (ptI 0 ((E : Int) + 1) 5 eT) (0, 0) _ rfl (Blk.setRow HR.out) Tryz.underlying181 rfl infoPt) rfl ⟨by rw [HRES.out] <;> rfl, below_row HB.out (by omega) _⟩
  have q2 : ((bt s E : Int) != 58) = false := by have : bt s E = 58 := Decidable.not_not.1 h2; rw [this]; rfl
  rw [if_neg (by rintro (h | h); exact absurd h (by decide); exact h2 h)] at hg
  by_cases h3 : E + 1 = s.size
  · rw [if_pos h3] at hg
    have q3 : ((E : Int) + 1 == (s.size : Int)) = true := by rw [beq_iff_eq]; omega
    have HRES := Lib.hid hg
    clear hg h2 h3
    go_wp2_with fail
    refine (short_calls _ _ _).mono ?_
    rintro e w5 ⟨rfl, hb⟩
    have HR2 := Lib.hid (HR.out.below hb (Blk.lt HR.out))
    have HB2 := Lib.hid (HB.out.trans (hb.mono (by omega)))
    have hz2 := Nat.le_trans hz hb.size
    clear HR HB hz hb
    have HR := HR2
    have HB := HB2
    have hz := hz2
    clear HR2 HB2 hz2
    go_wp2_with ((with_reducible refine wpList_store_st (o := ⟨none, .store 181 _ _, _, _, _, _⟩) rfl 181 _ _ rfl w.heap.size rfl rfl (run_storeAt_row _ w.heap.size 181 181 (ptI 0 0 0 eT) (ptI 0 s.size 2 twoT) ?_ ?_ ?_ ?_) ?_); exact HR.out; exact infoPt; rfl; exact pt_one _ _ _ _)
    exact bodyPost_ret (v := .agg (ptI 0 s.size 2 twoT)) (results_cell_row rfl _ _ w.heap.size 181 (ptI 0 s.size 2 twoT) (0, 0) _ rfl (Blk.setRow HR.out) Tryz.underlying181 rfl infoPt) rfl ⟨by rw [HRES.out] <;> rfl, below_row HB.out (by omega) _⟩
  have q3 : ((E : Int) + 1 == (s.size : Int)) = false := by rw [beq_eq_false_iff_ne]; omega
  rw [if_neg h3] at hg
  have hE4 : E + 1 < s.size := by omega
  have b1 : s[E + 1].toNat = bt s (E + 1) := (bt_eq s (E + 1) hE4).symm
  by_cases h4 : bt s (E + 1) ≠ 93
  · rw [if_pos h4] at hg
    have q4 : ((bt s (E + 1) : Int) != 93) = true := by rw [bne_iff_ne]; omega
    have HRES := Lib.hid hg
    clear hg h2 h4
    go_wp2_with ((with_reducible refine wpList_store_st (o := ⟨none, .store 181 _ _, _, _, _, _⟩) rfl 181 _ _ rfl w.heap.size rfl rfl (run_storeAt_row _ w.heap.size 181 181 (ptI 0 0 0 eT) (ptI 0 ((E : Int) + 2) 3 eT) ?_ ?_ ?_ ?_) ?_); exact HR.out; exact infoPt; rfl; exact pt_one _ _ _ _)
    exact bodyPost_ret (v := .agg (ptI 0 ((E : Int) + 2) 3 eT)) (results_cell_row rfl _ _ w.heap.size 181 (ptI 0 ((E : Int) + 2) 3 eT) (0, 0) _ rfl (Blk.setRow HR.out) Tryz.underlying181 rfl infoPt) rfl ⟨by rw [HRES.out] <;> rfl, below_row HB.out (by omega) _⟩
  have q4 : ((bt s (E + 1) : Int) != 93) = false := by have : bt s (E + 1) = 93 := Decidable.not_not.1 h4; rw [this]; rfl
  rw [if_neg h4] at hg
  have HRES := Lib.hid hg
  clear hg h2 h4
  obtain ⟨⟨d0, d1, d2, d3⟩, _⟩ := HC.out.cells4
  go_wp2_with ((with_reducible refine wpList_store_st (o := ⟨none, .store 181 _ _, _, _, _, _⟩) rfl 181 _ _ rfl w.heap.size rfl rfl (run_storeAt_row _ w.heap.size 181 181 (ptI 0 0 0 eT) (ptI c ((E : Int) + 2) 0 eT) ?_ ?_ ?_ ?_) ?_); exact HR.out; exact infoPt; rfl; exact pt_one _ _ _ _)
  exact bodyPost_ret (v := .agg (ptI c ((E : Int) + 2) 0 eT)) (results_cell_row rfl _ _ w.heap.size 181 (ptI c ((E : Int) + 2) 0 eT) (0, 0) _ rfl (Blk.setRow HR.out) Tryz.underlying181 rfl infoPt) rfl ⟨by rw [HRES.out] <;> rfl, below_row HB.out (by omega) _⟩
end Go.Proofs.YtldaaelmifbbhaaGreat

/- The developers' finish, plainly: how far a beginning reaches, and which first parts are patterns. Stage 8. -/
namespace Go.Proofs.YtldaaelmifbbhaaGreat
open Go.RowKit BS

theorem first_789 (x : PS) (b : Nat) (h : firstP x b ≠ 0) : firstP x b = 7 ∨ firstP x b = 8 ∨ firstP x b = 9 := by
  obtain ⟨l, st, gr⟩ := x
  obtain _ | ⟨⟨n, r⟩, st⟩ := st
  · exact absurd rfl h
  unfold firstP at h ⊢
  simp only at h ⊢
  by_cases c1 : b = 42 ∨ b = 43 ∨ b = 63 ∨ b = 123
  · rw [if_pos c1] at h ⊢
    by_cases d : n = 0
    · rw [if_pos d]; exact .inl rfl
    · rw [if_neg d] at h; exact absurd rfl h
  rw [if_neg c1] at h ⊢
  by_cases c2 : b = 41
  · rw [if_pos c2] at h ⊢
    by_cases d : st = []
    · rw [if_pos d]; exact .inr (.inl rfl)
    · rw [if_neg d] at h; exact absurd rfl h
  rw [if_neg c2] at h ⊢
  by_cases c3 : b = 40
  · rw [if_pos c3] at h ⊢
    by_cases d : gr = 9
    · rw [if_pos d]; exact .inr (.inr rfl)
    · rw [if_neg d] at h; exact absurd rfl h
  rw [if_neg c3] at h
  exact absurd rfl h
/-- How many bytes the longest first part has that is a beginning. -/
def rchN (s : ByteArray) : Nat := if begN s = true then s.size else (parseN s).2.2.2 - 1
theorem rch_le (s : ByteArray) : rchN s ≤ s.size := by
  unfold rchN
  by_cases h : begN s = true
  · rw [if_pos h]; exact Nat.le_refl _
  · rw [if_neg h]
    have := begN_place s (by simpa using h)
    omega
theorem rch_beg (s : ByteArray) : decide (rchN s = s.size) = begN s := by
  unfold rchN
  cases h : begN s with
  | true => rw [if_pos rfl]; simp
  | false =>
    rw [if_neg (by decide)]
    have := begN_place s h
    rw [decide_eq_false_iff_not]
    omega
/-- Behind what is reached no first part is a pattern. -/
theorem rch_past (s : ByteArray) (i : Nat) (h : rchN s < i) (hi : i ≤ s.size) : okP (s.extract 0 i) = false := by
  unfold rchN at h
  cases hb : begN s with
  | true => rw [hb, if_pos rfl] at h; omega
  | false =>
    rw [hb, if_neg (by decide)] at h
    have hp := begN_place s hb
    obtain ⟨h0, h2⟩ := begN_not s hb
    have hz : (s.extract 0 i).size = i := by rw [ByteArray.size_extract]; omega
    have hA : Agr (parseN s).2.2.2 s (s.extract 0 i) := ⟨hp.2, by omega, fun j hj => by rw [bt_extract s 0 i j hi (by omega), Nat.zero_add]⟩
    have he : parseN (s.extract 0 i) = parseN s := readP_sure s (s.extract 0 i) (s.size + 1) _ 0 sPS (Nat.zero_le _) (by omega) (by omega) h0 h2 hA
    unfold okP
    rw [he]
    exact decide_eq_false h0
/-- A place at which a word ends: what was read up to there. -/
def AtW (s : ByteArray) (a : Nat) (x : PS) : Prop :=
  a ≤ s.size ∧ PInv x ∧ ∀ s', Agr a s s' → ∀ k' k'', s'.size < k' → s'.size < k'' + a → readP s' k' 0 sPS = readP s' k'' a x
theorem atW_start (s : ByteArray) : AtW s 0 sPS := ⟨Nat.zero_le _, sPS_inv, fun s' _ k' k'' h1 h2 => readP_fuel s' k' k'' 0 sPS (Nat.zero_le _) (by omega) (by omega)⟩
theorem atW_step (s : ByteArray) (a : Nat) (x : PS) (w : WN) (p : Nat) (h : AtW s a x) (hlt : a < s.size) (hf : firstP x (bt s a) = 0) (hw : nextA s a = (w, 0, p)) : AtW s w.fin (takeP x w) ∧ a < w.fin ∧ w.fin ≤ s.size := by
  obtain ⟨h1, h2, h3⟩ := h
  have hE := nextA_end s a hlt
  have hag := fun s' => nextA_agr s s' a hlt
  have hkd := next_kinds s a
  rw [hw] at hE hag hkd
  rcases hE with ⟨e1, e2, e3, _, e5, e6⟩ | ⟨e1, _⟩
  · simp only at e1 e2 e3 e5 e6
    subst e2
    obtain ⟨k2, k3, k5⟩ := hkd w rfl
    refine ⟨⟨e6, take_inv s a x w h2 hf e3 k2 k3 k5, fun s' hA k' k'' c1 c2 => ?_⟩, e5, e6⟩
    have hz := hA.2.1
    have hx : nextA s' a = (w, 0, 0) := hag s' (by show (0 : Nat) ≠ 2; decide) (hA.le (by show w.fin ≤ _; omega))
    rw [h3 s' (hA.le (by omega)) k' (k'' + (w.fin - a) + 1) c1 (by omega), readP, if_neg (by omega), ← hA.2.2 a (by omega), if_neg (fun g => g hf), hx]
    show (if (0 : Nat) ≠ 0 then (zPS, 0, 0, 0) else readP s' (k'' + (w.fin - a)) w.fin (takeP x w)) = _
    rw [if_neg (show ¬ (0 : Nat) ≠ 0 by decide)]
    exact readP_fuel s' _ _ _ _ (by omega) (by omega) (by omega)
  · exact absurd rfl e1
theorem atW_ok (s : ByteArray) (a : Nat) (x : PS) (h : AtW s a x) : okP (s.extract 0 a) = decide (((x.st.length : Int) - 1) = 0) := by
  obtain ⟨h1, h2, h3⟩ := h
  have hl : 0 < x.st.length := List.length_pos_iff.2 h2.1
  have hz : (s.extract 0 a).size = a := by rw [ByteArray.size_extract]; omega
  have hA : Agr a s (s.extract 0 a) := ⟨h1, by omega, fun j hj => by rw [bt_extract s 0 a j h1 (by omega), Nat.zero_add]⟩
  unfold okP parseN
  rw [h3 _ hA _ 1 (by omega) (by omega), readP, if_pos (by omega)]
  by_cases c : 1 < x.st.length
  · rw [if_pos c, show decide ((x.st.length : Int) - 1 = 0) = false from decide_eq_false (by omega)]
    rfl
  · rw [if_neg c, show decide ((x.st.length : Int) - 1 = 0) = true from decide_eq_true (by omega)]
    rfl
/-- Within a word, or behind what is no word, no first part is a pattern. -/
theorem atW_mid (s : ByteArray) (a : Nat) (x : PS) (h : AtW s a x) (i : Nat) (ha : a < i) (hi : i ≤ s.size) (hno : ∀ w, nextA s a = (w, 0, 0) → i < w.fin) : okP (s.extract 0 i) = false := by
  obtain ⟨h1, h2, h3⟩ := h
  have hz : (s.extract 0 i).size = i := by rw [ByteArray.size_extract]; omega
  have hbt : ∀ j, j < i → bt (s.extract 0 i) j = bt s j := fun j hj => by rw [bt_extract s 0 i j hi (by omega), Nat.zero_add]
  have hA : Agr a s (s.extract 0 i) := ⟨h1, by omega, fun j hj => (hbt j (by omega)).symm⟩
  have hE := nextA_end (s.extract 0 i) a (by omega)
  have hag := nextA_agr (s.extract 0 i) s a (by omega)
  unfold okP parseN
  rw [h3 _ hA _ (i + 2) (by omega) (by omega), readP, if_neg (by omega)]
  by_cases hf : firstP x (bt (s.extract 0 i) a) ≠ 0
  · rw [if_pos hf]
    exact decide_eq_false hf
  rw [if_neg hf]
  generalize nextA (s.extract 0 i) a = X at *
  obtain ⟨w, e, p⟩ := X
  simp only
  by_cases he : e = 0
  · subst he
    rcases hE with ⟨_, e2, _, _, _, e6⟩ | ⟨e1, _⟩
    · simp only at e2 e6
      subst e2
      have hw : nextA s a = (w, 0, 0) := hag (show (0 : Nat) ≠ 2 by decide) ⟨by show w.fin ≤ _; omega, by show w.fin ≤ _; omega, fun j hj => hbt j (by have : j < w.fin := hj; omega)⟩
      have := hno w hw
      omega
    · exact absurd rfl e1
  · exact decide_eq_false (by rw [if_pos he]; exact he)
/-- Where what is reached goes on, the first byte of a word can stand. -/
theorem atW_first (s : ByteArray) (a : Nat) (x : PS) (h : AtW s a x) (hr : a < rchN s) : firstP x (bt s a) = 0 := by
  have hle := rch_le s
  refine Decidable.byContradiction fun hf => ?_
  obtain ⟨h1, h2, h3⟩ := h
  have hp : parseN s = (zPS, 0, firstP x (bt s a), a + 1) := by
    unfold parseN
    rw [h3 s ⟨h1, h1, fun _ _ => rfl⟩ _ (s.size + 1) (by omega) (by omega), readP, if_neg (by omega), if_pos hf]
  have h9 := first_789 x _ hf
  have hb : begN s = false := by
    unfold begN
    rw [hp]
    exact decide_eq_false (by show ¬ (firstP x (bt s a) = 0 ∨ firstP x (bt s a) = 2); omega)
  unfold rchN at hr
  rw [hb, if_neg (by decide), hp] at hr
  have : a < a + 1 - 1 := hr
  omega
/-- How many more groups are open behind a word. -/
def opN (k : Nat) : Int := if k = 2 then 1 else if k = 3 then -1 else 0
theorem opN_le (k : Nat) : -1 ≤ opN k ∧ opN k ≤ 1 := by
  unfold opN
  by_cases h : k = 2
  · rw [if_pos h]; omega
  · rw [if_neg h]
    by_cases h3 : k = 3
    · rw [if_pos h3]; omega
    · rw [if_neg h3]; omega
theorem take_open (s : ByteArray) (a : Nat) (x : PS) (w : WN) (h : PInv x) (hf : firstP x (bt s a) = 0) (hw : nextA s a = (w, 0, 0)) : ((takeP x w).st.length : Int) - 1 = (x.st.length : Int) - 1 + opN w.kind := by
  obtain ⟨hne, _, _, _⟩ := h
  obtain ⟨k2, k3, k5⟩ := next_kinds s a w hw
  obtain ⟨l, st, gr⟩ := x
  obtain _ | ⟨⟨n, r⟩, st⟩ := st
  · exact absurd rfl hne
  have o0 : w.kind ≠ 2 → w.kind ≠ 3 → opN w.kind = 0 := fun h2 h3 => by unfold opN; rw [if_neg h2, if_neg h3]
  unfold takeP
  by_cases c1 : w.kind = 1
  · rw [if_pos c1, o0 (by omega) (by omega)]
    simp [bumpP]
  rw [if_neg c1]
  by_cases c2 : w.kind = 2
  · rw [if_pos c2, show opN w.kind = 1 by unfold opN; rw [if_pos c2]]
    simp only [List.length_cons]
    omega
  rw [if_neg c2]
  by_cases c3 : w.kind = 3
  · rw [if_pos c3, show opN w.kind = -1 by unfold opN; rw [if_neg c2, if_pos c3]]
    have hb := k3 c3
    have hst : st ≠ [] := fun hs => by
      unfold firstP at hf
      simp only at hf
      rw [if_neg (by omega), if_pos hb, if_pos hs] at hf
      cases hf
    have hl := List.length_pos_iff.2 hst
    have hz : (bumpP (rowsP ⟨l, (n, r) :: st, gr⟩).st).length = st.length := bump_len st
    show ((bumpP (rowsP ⟨l, (n, r) :: st, gr⟩).st).length : Int) - 1 = (((n, r) :: st).length : Int) - 1 + -1
    rw [hz, List.length_cons]
    omega
  rw [if_neg c3, o0 c2 c3]
  by_cases c4 : w.kind = 4
  · rw [if_pos c4]
    simp [rowP]
  rw [if_neg c4]
  by_cases c5 : w.kind = 5
  · rw [if_pos c5]
    simp
  rw [if_neg c5]
  simp

/-! ### Whole's loop -/
/-- Ahead of the round of k: where the next word ends, and how many groups are open there. -/
def WI (s : ByteArray) (k e : Nat) (o : Int) : Prop := k ≤ rchN s →
  ∃ x, AtW s e x ∧ o = (x.st.length : Int) - 1 ∧ ((k ≤ e ∧ ∀ i, k ≤ i → i < e → okP (s.extract 0 i) = false) ∨ (e < k ∧ ∀ i, e < i → i ≤ s.size → okP (s.extract 0 i) = false))
theorem wi_start (s : ByteArray) : WI s 0 0 0 := fun _ => ⟨sPS, atW_start s, rfl, .inl ⟨Nat.le_refl _, fun i _ hi => by omega⟩⟩
theorem wi_skip (s : ByteArray) (k e : Nat) (o : Int) (h : WI s k e o) (hk : k ≤ rchN s) (hne : k ≠ e) : okP (s.extract 0 k) = false ∧ WI s (k + 1) e o := by
  have hle := rch_le s
  obtain ⟨x, h1, h2, h3⟩ := h hk
  rcases h3 with ⟨h3, h4⟩ | ⟨h3, h4⟩
  · exact ⟨h4 k (Nat.le_refl _) (by omega), fun _ => ⟨x, h1, h2, .inl ⟨by omega, fun i hi he => h4 i (by omega) he⟩⟩⟩
  · exact ⟨h4 k (by omega) (by omega), fun _ => ⟨x, h1, h2, .inr ⟨by omega, fun i hi he => h4 i (by omega) he⟩⟩⟩
theorem wi_ok (s : ByteArray) (k : Nat) (o : Int) (h : WI s k k o) (hk : k ≤ rchN s) : okP (s.extract 0 k) = decide (o = 0) := by
  obtain ⟨x, h1, h2, _⟩ := h hk
  rw [atW_ok s k x h1, h2]
theorem nextN_at (s : ByteArray) (k : Nat) (h : k < s.size) : nextN s (k : Nat) = nextA s k := by
  unfold nextN
  rw [if_neg (by omega)]
  rfl
theorem wi_word (s : ByteArray) (k : Nat) (o : Int) (h : WI s k k o) (hk : k ≤ rchN s) (w : WN) (p : Nat) (hw : nextN s (k : Nat) = (w, 0, p)) : WI s (k + 1) w.fin (o + opN w.kind) := by
  intro hk2
  have hle := rch_le s
  rw [nextN_at s k (by omega)] at hw
  obtain ⟨x, h1, h2, _⟩ := h hk
  have hf := atW_first s k x h1 (by omega)
  have hE := nextA_end s k (by omega)
  rw [hw] at hE
  have hp : p = 0 := by
    rcases hE with ⟨_, e2, _⟩ | ⟨e1, _⟩
    · exact e2
    · exact absurd rfl e1
  subst hp
  obtain ⟨g1, g2, g3⟩ := atW_step s k x w 0 h1 (by omega) hf hw
  refine ⟨takeP x w, g1, by rw [take_open s k x w h1.2.1 hf hw, h2], .inl ⟨by omega, fun i hi he => ?_⟩⟩
  exact atW_mid s k x h1 i (by omega) (by omega) (fun v hv => by rw [hw] at hv; have := (Prod.mk.inj hv).1; rw [← this]; exact he)
theorem wi_none (s : ByteArray) (k : Nat) (o : Int) (h : WI s k k o) (hk : k ≤ rchN s) (he : (nextN s (k : Nat)).2.1 ≠ 0) : WI s (k + 1) k o := by
  intro hk2
  have hle := rch_le s
  rw [nextN_at s k (by omega)] at he
  obtain ⟨x, h1, h2, _⟩ := h hk
  refine ⟨x, h1, h2, .inr ⟨by omega, fun i hi hs => ?_⟩⟩
  exact atW_mid s k x h1 i (by omega) hs (fun v hv => by rw [hv] at he; exact absurd rfl he)
/-- A word ends within the text. -/
theorem word_fin (s : ByteArray) (k : Nat) (w : WN) (p : Nat) (hw : nextN s (k : Nat) = (w, 0, p)) : k < w.fin ∧ w.fin ≤ s.size := by
  by_cases hk : k < s.size
  · rw [nextN_at s k hk] at hw
    have hE := nextA_end s k hk
    rw [hw] at hE
    rcases hE with ⟨_, _, _, _, e5, e6⟩ | ⟨e1, _⟩
    · exact ⟨e5, e6⟩
    · exact absurd rfl e1
  · unfold nextN at hw
    rw [if_pos (.inr (by omega))] at hw
    have := (Prod.mk.inj (Prod.mk.inj hw).2).1
    exact absurd this (by decide)
end Go.Proofs.YtldaaelmifbbhaaGreat

/- The laws of stage 8: FinishFirst. -/
namespace Go.Proofs.YtldaaelmifbbhaaGreat
open Go.RowKit BS

/-- How many first parts of a text are beginnings. -/
def kP (s : ByteArray) : Nat := if begN s = true then s.size + 1 else (parseN s).2.2.2
theorem kP_cut (s : ByteArray) (i : Nat) (h : i < kP s) (hi : i ≤ s.size) : begN (s.extract 0 i) = true := by
  refine begN_cut s i hi ?_
  by_cases hb : begN s = true
  · exact .inl hb
  · unfold kP at h
    rw [if_neg hb] at h
    exact .inr h
theorem kP_le (s : ByteArray) : kP s ≤ s.size + 1 := by
  unfold kP
  by_cases hb : begN s = true
  · rw [if_pos hb]; exact Nat.le_refl _
  · rw [if_neg hb]
    have := (begN_place s (by simpa using hb)).2
    omega
/-- The loop over the first parts: one round. -/
structure PartQ (s p t : ByteArray) : Prop where
  fin : ∀ (w : World), Calls Tryz.prog 11 #[.string p] w fun e w' => e = .returned (.tuple #[.string t, .bool true]) ∧ Below w.heap.size w w'
  add : ∀ w, (Op.stringOp .add p t).run Tryz.prog w = .ok (.string (p ++ t)) w
  par : ∃ pl : Nat, ∀ (w : World), Calls Tryz.prog 13 #[.string (p ++ t)] w fun e w' => ∃ v, e = .returned (.tuple #[v, .int .i64 0, .int .i64 pl]) ∧ Below w.heap.size w w'
  beg : ∀ (w : World), Calls Tryz.prog 9 #[.string p] w fun e w' => e = .returned (.bool true) ∧ Below w.heap.size w w'
theorem partQ (C : ParseC) (F : FinishC) (s : ByteArray) (hs : s.size ≤ 1000) (i : Nat) (h : i < kP s) (hi : i ≤ s.size) : ∃ t, PartQ s (s.extract 0 i) t := by
  have hz : (s.extract 0 i).size = i := by rw [ByteArray.size_extract]; omega
  have hb := kP_cut s i h hi
  obtain ⟨t, ht, h1, _, hF⟩ := F.finish (s.extract 0 i) (by omega)
  have hB := F.begins (s.extract 0 i) (by omega)
  rw [hb] at hF hB
  have hP := parse_k C (s.extract 0 i ++ t) (by rw [ByteArray.size_append]; omega)
  rw [(okP_iff _).1 (h1 hb)] at hP
  exact ⟨t, hF, fun w => run_string_add_sum w _ _ (by omega), ⟨_, hP⟩, hB⟩
set_option maxRecDepth 100000 in
set_option maxHeartbeats 16000000 in
theorem finishFirst_calls (C : ParseC) (F : FinishC) (s more : ByteArray) (hs : s.size ≤ 9223372036854775807) (hm : more.size ≤ 9223372036854775807) (w : World) : Calls Tryz.prog 5 #[.string s, .string more] w fun e w' => e = .returned (.bool true) ∧ Below w.heap.size w w' := by
  have HSU := Lib.hid (sure8_calls C F)
  have HB := Lib.hid (Below.refl w.heap.size w)
  by_cases hl : 120 < s.size
  · have q : decide (120 < s.size) = true := by simpa using hl
    clear C F
    go_enter Tryz.func5, Tryz.ntmps5
    go_wp2_with fail
    refine (HSU.out _).mono ?_
    rintro e w1 ⟨rfl, hb⟩
    go_wp2_with fail
    go_ret
    exact ⟨rfl, hb⟩
  have q : decide (120 < s.size) = false := by simpa using hl
  by_cases hl2 : 60 < more.size
  · have q2 : decide (60 < more.size) = true := by simpa using hl2
    clear C F
    go_enter Tryz.func5, Tryz.ntmps5
    go_wp2_with fail
    refine (HSU.out _).mono ?_
    rintro e w1 ⟨rfl, hb⟩
    go_wp2_with fail
    go_ret
    exact ⟨rfl, hb⟩
  have q2 : decide (60 < more.size) = false := by simpa using hl2
  have HQ := Lib.hid (partQ C F s (by omega))
  have hP := parse_k C s (by omega)
  cases hb : begN s with
  | true =>
    have hK : kP s = s.size + 1 := by unfold kP; rw [if_pos hb]
    rw [hK] at HQ
    have he := (begN_iff s).1 hb
    generalize (parseN s).2.2.2 = pl at *
    generalize (parseN s).2.2.1 = er at *
    have HP := Lib.hid hP
    have hx : IntKind.i64.wrap ((s.size : Int) + 1) = (s.size : Int) + 1 := IntWalk.i64_in _ (by omega)
    clear hP hb hK C F
    rcases he with rfl | rfl
    all_goals
      go_enter Tryz.func5, Tryz.ntmps5
      go_wp2_with fail
      refine (HP.out _).mono ?_
      rintro e w1 ⟨v1, rfl, hb⟩
      replace HB := Lib.hid (HB.out.trans (hb.mono HB.out.size))
      clear HP hb
      go_wp2_with fail
      go_loopw [8] (fun v wr => ∃ i : Nat, i ≤ s.size + 1 ∧ v = .int .i64 i ∧ Below w.heap.size w wr) (fun v _ => s.size + 1 - (intOf v).toNat)
      case atStart => exact ⟨0, Nat.zero_le _, rfl, HB.out⟩
      case round =>
        clear HB
        obtain ⟨i, hi, rfl, hB⟩ := hrel
        by_cases hlt : i < s.size + 1
        · obtain ⟨t, g1, g2, ⟨pl2, g3⟩, g4⟩ := HQ.out i hlt (by omega)
          have hz : (s.extract 0 i).size = i := by rw [ByteArray.size_extract]; omega
          have d1 : decide ((i : Int) < (s.size : Int) + 1) = true := by rw [decide_eq_true_iff]; omega
          have d2 : decide ((i : Int) ≤ (s.size : Int)) = true := by rw [decide_eq_true_iff]; omega
          have HB := Lib.hid hB
          have H1 := Lib.hid g1
          have H3 := Lib.hid g3
          have H4 := Lib.hid g4
          clear hB g1 g3 g4
          go_wp2_with fail
          refine (H1.out _).mono ?_
          rintro e w2 ⟨rfl, hb⟩
          replace HB := Lib.hid (HB.out.trans (hb.mono HB.out.size))
          clear H1 hb
          go_wp2_with fail
          refine (H3.out _).mono ?_
          rintro e w3 ⟨v3, rfl, hb⟩
          replace HB := Lib.hid (HB.out.trans (hb.mono HB.out.size))
          clear H3 hb
          go_wp2_with fail
          refine (H4.out _).mono ?_
          rintro e w4 ⟨rfl, hb⟩
          replace HB := Lib.hid (HB.out.trans (hb.mono HB.out.size))
          clear H4 hb
          go_wp2_with fail
          go_roundw
          case rel => exact ⟨i + 1, by omega, by simp, HB.out⟩
          case measure => simp [intOf]; omega
        · obtain rfl : i = s.size + 1 := by omega
          have d1 : decide (((s.size + 1 : Nat) : Int) < (s.size : Int) + 1) = false := by rw [decide_eq_false_iff_not]; omega
          have d2 : decide ((s.size : Int) < (s.size : Int) + 1) = true := by rw [decide_eq_true_iff]; omega
          have HB := Lib.hid hB
          clear hB HQ
          go_wp2_with fail
          refine (HSU.out _).mono ?_
          rintro e w2 ⟨rfl, hb⟩
          have hBB := HB.out.trans (hb.mono HB.out.size)
          go_wp2_with fail
          exact bodyPost_ret (v := _) (by simp [results, Tryz.results5, go_sem] <;> rfl) rfl ⟨rfl, hBB⟩
  | false =>
    have hK : kP s = (parseN s).2.2.2 := by unfold kP; rw [if_neg (by rw [hb]; decide)]
    rw [hK] at HQ
    have hpl := begN_place s hb
    obtain ⟨e0, e2⟩ := begN_not s hb
    have hs0 := begN_sure0 s hb
    have hs1 := begN_sure s more hb
    have hz : (s.extract 0 (parseN s).2.2.2).size = (parseN s).2.2.2 := by rw [ByteArray.size_extract]; omega
    have hz2 : (s.extract 0 (parseN s).2.2.2 ++ more).size ≤ 1000 := by rw [ByteArray.size_append]; omega
    have b0 : begN (s.extract 0 (parseN s).2.2.2) = false := by unfold begN at hb ⊢; rw [hs0]; exact hb
    have b1 : begN (s.extract 0 (parseN s).2.2.2 ++ more) = false := by unfold begN at hb ⊢; rw [hs1]; exact hb
    have hB0 := F.begins (s.extract 0 (parseN s).2.2.2) (by omega)
    have hB1 := F.begins (s.extract 0 (parseN s).2.2.2 ++ more) (by omega)
    have hP2 := parse_k C (s.extract 0 (parseN s).2.2.2 ++ more) (by omega)
    have hadd : ∀ w, (Op.stringOp .add (s.extract 0 (parseN s).2.2.2) more).run Tryz.prog w = .ok (.string (s.extract 0 (parseN s).2.2.2 ++ more)) w := fun w => run_string_add_sum w _ _ (by omega)
    rw [b0] at hB0
    rw [b1] at hB1
    rw [hs1] at hP2
    clear hs0 hs1 b0 b1 hz2 hb hK
    generalize (parseN s).2.2.2 = pl at *
    generalize (parseN s).2.2.1 = er at *
    have q0 : ((er : Int) == 0) = false := by rw [beq_eq_false_iff_ne]; omega
    have q2 : ((er : Int) == 2) = false := by rw [beq_eq_false_iff_ne]; omega
    have qn : ((er : Int) != 0) = true := by rw [bne_iff_ne]; omega
    have HP := Lib.hid hP
    have HP2 := Lib.hid hP2
    have HB0 := Lib.hid hB0
    have HB1 := Lib.hid hB1
    have HADD := Lib.hid hadd
    clear hP hP2 hB0 hB1 hadd C F
    obtain ⟨p1, p2⟩ := hpl
    go_enter Tryz.func5, Tryz.ntmps5
    go_wp2_with fail
    refine (HP.out _).mono ?_
    rintro e w1 ⟨v1, rfl, hb⟩
    replace HB := Lib.hid (HB.out.trans (hb.mono HB.out.size))
    clear HP hb
    go_wp2_with fail
    go_loopw [8] (fun v wr => ∃ i : Nat, i ≤ pl ∧ v = .int .i64 i ∧ Below w.heap.size w wr) (fun v _ => pl - (intOf v).toNat)
    case atStart => exact ⟨0, Nat.zero_le _, rfl, HB.out⟩
    case round =>
      clear HB
      obtain ⟨i, hi, rfl, hB⟩ := hrel
      by_cases hlt : i < pl
      · obtain ⟨t, g1, g2, ⟨pl2, g3⟩, g4⟩ := HQ.out i hlt (by omega)
        have hzi : (s.extract 0 i).size = i := by rw [ByteArray.size_extract]; omega
        have d2 : decide ((i : Int) ≤ (s.size : Int)) = true := by rw [decide_eq_true_iff]; omega
        have HBw := Lib.hid hB
        have H1 := Lib.hid g1
        have H3 := Lib.hid g3
        have H4 := Lib.hid g4
        clear hB g1 g3 g4 HP2 HB0 HB1
        go_wp2_with fail
        refine (H1.out _).mono ?_
        rintro e w2 ⟨rfl, hb⟩
        replace HBw := Lib.hid (HBw.out.trans (hb.mono HBw.out.size))
        clear H1 hb
        go_wp2_with fail
        refine (H3.out _).mono ?_
        rintro e w3 ⟨v3, rfl, hb⟩
        replace HBw := Lib.hid (HBw.out.trans (hb.mono HBw.out.size))
        clear H3 hb
        go_wp2_with fail
        refine (H4.out _).mono ?_
        rintro e w4 ⟨rfl, hb⟩
        replace HBw := Lib.hid (HBw.out.trans (hb.mono HBw.out.size))
        clear H4 hb
        go_wp2_with fail
        go_roundw
        case rel => exact ⟨i + 1, by omega, by simp, HBw.out⟩
        case measure => simp [intOf]; omega
      · obtain rfl : i = pl := by omega
        have d2 : decide ((s.size : Int) < (i : Int)) = false := by rw [decide_eq_false_iff_not]; omega
        have d3 : decide (i < i) = false := by simp
        have hadd := HADD.out
        have HBw := Lib.hid hB
        clear hB HQ
        go_wp2_with fail
        refine (HP2.out _).mono ?_
        rintro e w2 ⟨v2, rfl, hb⟩
        replace HBw := Lib.hid (HBw.out.trans (hb.mono HBw.out.size))
        clear HP2 hb
        go_wp2_with fail
        refine (HB0.out _).mono ?_
        rintro e w3 ⟨rfl, hb⟩
        replace HBw := Lib.hid (HBw.out.trans (hb.mono HBw.out.size))
        clear HB0 hb
        go_wp2_with fail
        refine (HB1.out _).mono ?_
        rintro e w4 ⟨rfl, hb⟩
        replace HBw := Lib.hid (HBw.out.trans (hb.mono HBw.out.size))
        clear HB1 hb
        go_wp2_with fail
        refine (HSU.out _).mono ?_
        rintro e w5 ⟨rfl, hb⟩
        have hBB := HBw.out.trans (hb.mono HBw.out.size)
        go_wp2_with fail
        exact bodyPost_ret (v := _) (by simp [results, Tryz.results5, go_sem] <;> rfl) rfl ⟨rfl, hBB⟩
end Go.Proofs.YtldaaelmifbbhaaGreat

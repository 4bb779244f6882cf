/- Texts put together: Dq Wp Dx Rc Rd Gy Dy Rz Gz Vt Vs Vu Vl Dr Ds. -/
import Derived.Test.YthodphgbdmnpoaaGreatPJ
import Derived.Test.YthodphgbdmnpoaaGreatPH
import Derived.Test.YthodphgbdmnpoaaGreatPD
import Derived.Lib.IndexAny
import Derived.Lib.Bytealg
import Derived.Lib.Hide
import Derived.WalkLawsBesides
import Derived.IntWalk
import Derived.BigQuiet
import Derived.Outline
import Derived.Deep.QuietTactic
import Derived.Deep.DeepCutAuto
import Derived.Laws.ResultCell
import Derived.Test.YthodphgbdmnpoaaGreatPI
import Derived.Test.YthodphgbdmnpoaaGreatPB
import Derived.Test.YthodphgbdmnpoaaGreatPG
import Derived.Test.YthodphgbdmnpoaaGreatPE
import Derived.Laws.BytesArg
import Derived.Laws.Concat
import Derived.Test.YthodphgbdmnpoaaGreatPF
import Derived.Deep.MidRow
import Derived.Maps.AppendAt
import Derived.Lib.SlBytesConst
import Derived.Test.YthodphgbdmnpoaaGreatPC
import Derived.Deep.CutBlock
/- The developers' brackets: isAt, short, between. -/
namespace Go.Proofs.YthodphgbdmnpoaaGreat
open Go.RowKit Go.Shelf BS

set_option maxRecDepth 100000 in
theorem sib_calls (s : ByteArray) (c : Int) (w : World) : Calls Tryz.prog 24 #[.string s, .int .u8 c] w fun e w' => e = .returned (.int .i64 (Lib.indexByte s.data.toList c.toNat.toUInt8)) ∧ w = w' := by
  go_enter Tryz.func24, Tryz.ntmps24
  go_wp2_with fail
  rw [run_callFunc_extern Tryz.func36 (by kernel_rfl) (by kernel_rfl) (by kernel_rfl) (e := Extern.BytealgIndexByte.indexByte) (by kernel_rfl), Lib.run_indexByteString]
  simp only [Result.andThen]
  rw [Oper.upon_value]
  go_wp2_with fail
  go_ret
  exact ⟨rfl, rfl⟩
set_option maxRecDepth 100000 in
theorem ib_calls (s : ByteArray) (c : Int) (w : World) : Calls Tryz.prog 14 #[.string s, .int .u8 c] w fun e w' => e = .returned (.int .i64 (Lib.indexByte s.data.toList c.toNat.toUInt8)) ∧ w = w' := by
  go_enter Tryz.func14, Tryz.ntmps14
  go_wp2_with (go_at_call 24; refine (sib_calls s c _).mono ?_; rintro e w' ⟨rfl, rfl⟩)
  go_ret
  exact ⟨rfl, rfl⟩
/-- Is a byte one of some: by what IndexByte tells. -/
theorem ib_eq (L : List Nat) (hL : ∀ x ∈ L, x < 256) (b : Nat) (hb : b < 256) : decide (0 ≤ Lib.indexByte (ofT L).data.toList ((b : Int)).toNat.toUInt8) = L.contains b := by
  rw [← Lib.contains_iff_indexByte]
  have e : (ofT L).data.toList = L.map UInt8.ofNat := by simp [ofT]
  rw [e]
  induction L with
  | nil => rfl
  | cons a L ih =>
    rw [List.map_cons, List.contains_cons, List.contains_cons, ih (fun x hx => hL x (List.mem_cons_of_mem _ hx)) (by simp [ofT])]
    congr 1
    have ha := hL a (List.mem_cons_self ..)
    rw [Bool.eq_iff_iff, beq_iff_eq, beq_iff_eq]
    constructor
    · intro h
      have h2 := congrArg UInt8.toNat h
      simp at h2
      omega
    · rintro rfl; simp

def isI (s : ByteArray) (i : Int) (L : List Nat) : Bool := if i < 0 then false else isN s i.toNat L
set_option maxRecDepth 100000 in
set_option maxHeartbeats 1000000 in
theorem isAt_calls (s : ByteArray) (_hs : s.size ≤ 1000000) (i : Int) (L : List Nat) (hL : ∀ x ∈ L, x < 256) (w : World) : Calls Tryz.prog 115 #[.string s, .int .i64 i, .string (ofT L)] w fun e w' => e = .returned (.bool (isI s i L)) ∧ w = w' := by
  by_cases h0 : i < 0
  · have q : decide (0 ≤ i) = false := by rw [decide_eq_false_iff_not]; omega
    have hr : isI s i L = false := by unfold isI; rw [if_pos h0]
    rw [hr]
    go_enter Tryz.func115, Tryz.ntmps115
    go_wp2_with fail
    go_ret
    exact ⟨rfl, rfl⟩
  · obtain ⟨k, rfl⟩ : ∃ k : Nat, i = k := ⟨i.toNat, by omega⟩
    have hr : isI s k L = isN s k L := by unfold isI; rw [if_neg h0]; rfl
    rw [hr]
    clear hr h0
    by_cases h1 : k < s.size
    · have hi := ib_eq L hL (bt s k) (bt_lt s k)
      have hb0 : s[k].toNat = bt s k := (bt_eq s k h1).symm
      have hn : isN s k L = L.contains (bt s k) := by unfold isN; simp [h1]
      rw [hn, ← hi]
      have HB := Lib.hid (ib_calls (ofT L) (bt s k))
      generalize Lib.indexByte (ofT L).data.toList ((bt s k : Int)).toNat.toUInt8 = r at *
      clear hn hi hL
      generalize ofT L = t at *
      go_enter Tryz.func115, Tryz.ntmps115
      go_wp2_with (go_at_call 14; refine (HB.out _).mono ?_; rintro e w' ⟨rfl, rfl⟩)
      go_ret
      exact ⟨rfl, rfl⟩
    · have hn : isN s k L = false := by unfold isN; simp [h1]
      rw [hn]
      clear hL hn
      generalize ofT L = t at *
      go_enter Tryz.func115, Tryz.ntmps115
      go_wp2_with fail
      go_ret
      exact ⟨rfl, rfl⟩
theorem isNat_calls (s : ByteArray) (hs : s.size ≤ 1000000) (i : Nat) (L : List Nat) (hL : ∀ x ∈ L, x < 256) (w : World) : Calls Tryz.prog 115 #[.string s, .int .i64 i, .string (ofT L)] w fun e w' => e = .returned (.bool (isN s i L)) ∧ w = w' := by
  have h := isAt_calls s hs i L hL w
  have hr : isI s i L = isN s i L := by unfold isI; rw [if_neg (by omega)]; rfl
  rw [hr] at h
  exact h

/-- What was read, as a value. -/
@[reducible] def ptI (t : BitVec 256) (p e : Int) (l : ByteArray) : Array Value := #[.int .u64 (wd t 0), .int .u64 (wd t 1), .int .u64 (wd t 2), .int .u64 (wd t 3), .int .i64 p, .int .i64 e, .string l]
def ptA (p : DP) : Array Value := ptI p.set p.fin p.err p.lack
theorem infoPt : (Tryz.prog.info? 156).map (·.size) = some 7 := by kernel_rfl

/-! ### By walks -/
theorem pt_one (t : BitVec 256) (p e : Int) (l : ByteArray) : ((ptI t p e l).all fun x => x.oneCell') = true := by simp [Value.oneCell']
set_option maxRecDepth 100000 in
set_option maxHeartbeats 1000000 in
theorem short_calls (s l : ByteArray) (w : World) : Calls Tryz.prog 117 #[.string s, .string l] w fun en w' => en = .returned (.agg (ptA (shortD s l))) ∧ Below w.heap.size w w' := by
  go_enter Tryz.func117, Tryz.ntmps117
  go_wp2
  have hR := Blk.new w (ptI 0 s.size 2 l) 156
  have hB : Below w.heap.size w (w.alloc (.cells (ptI 0 s.size 2 l) 156)) := by go_grown
  exact bodyPost_ret (v := .agg (ptI 0 s.size 2 l)) (results_cell_row rfl _ _ w.heap.size 156 (ptI 0 s.size 2 l) (0, 0) _ rfl hR Tryz.underlying156 rfl infoPt) rfl ⟨rfl, hB⟩

theorem bitB (b n : Nat) : ((b : Int) == (n : Int)) = decide (b = n) := by rw [Bool.eq_iff_iff, beq_iff_eq, decide_eq_true_iff]; omega
set_option maxRecDepth 100000 in
set_option maxHeartbeats 4000000 in
theorem between_calls (s : ByteArray) (hs : s.size ≤ 1000000) (i : Nat) (hi : i + 2 < s.size) (w : World) :
    Calls Tryz.prog 121 #[.string s, .int .i64 i] w fun en w' => en = .returned (.agg (ptA (betweenD s i))) ∧ Below w.heap.size w w' := by
  have HR := Lib.hid (Blk.new w (ptI 0 0 0 eT) 156)
  have HB : Hid (Below w.heap.size w (w.alloc (.cells (ptI 0 0 0 eT) 156))) := Lib.hid (by go_grown)
  have hz : w.heap.size + 1 ≤ (w.alloc (.cells (ptI 0 0 0 eT) 156)).heap.size := by simp
  have h0 : i < s.size := by omega
  have b0 : s[i].toNat = bt s i := (bt_eq s i h0).symm
  have b2 : s[i + 2].toNat = bt s (i + 2) := (bt_eq s (i + 2) hi).symm
  have hl0 := bt_lt s i
  have hl2 := bt_lt s (i + 2)
  go_enter Tryz.func121, Tryz.ntmps121
  go_upto_region 1 with fail
  have e0 : w.alloc (.cells #[.int .u64 0, .int .u64 0, .int .u64 0, .int .u64 0, .int .i64 0, .int .i64 0, .string ⟨#[]⟩] 156) = w.alloc (.cells (ptI 0 0 0 eT) 156) := rfl
  rw [e0]
  clear e0
  generalize w.alloc (.cells (ptI 0 0 0 eT) 156) = w1 at *
  have u0 : (i : Int) < (s.size : Int) := by omega
  have u2 : (i : Int) + 2 < (s.size : Int) := by omega
  have u3 : (0 : Int) ≤ (i : Int) + 2 := by omega
  have u4 : ((i : Int) + 2).toNat = i + 2 := by omega
  have x2 : IntKind.i64.wrap ((i : Int) + 2) = (i : Int) + 2 := IntWalk.i64_in _ (by omega)
  have x3 : IntKind.i64.wrap ((i : Int) + 3) = (i : Int) + 3 := IntWalk.i64_in _ (by omega)
  go_quiet (fail)
  clear u0 u2 u3 u4 x2 x3
  have HR2 := Lib.hid (HR.out.drewN nq)
  have HB2 := Lib.hid (below_drN HB.out nq)
  have hz2 : w.heap.size + 1 ≤ (w1.drewN nq).heap.size := hz
  clear HR HB hz
  have HR := HR2
  have HB := HB2
  have hz := hz2
  clear HR2 HB2 hz2
  generalize w1.drewN nq = w1 at *
  by_cases hI : bt s (i + 2) < bt s i
  · have q : decide (bt s (i + 2) < bt s i) = true := by simpa using hI
    have HRES := Lib.hid (show betweenD s i = badD 4 (i + 3) by unfold betweenD; rw [if_pos hI])
    go_wp2_with ((with_reducible refine wpList_store_st (o := ⟨none, .store 156 _ _, _, _, _, _⟩) rfl 156 _ _ rfl w.heap.size rfl rfl (run_storeAt_row _ w.heap.size 156 156 (ptI 0 0 0 eT) (ptI 0 ((i : Int) + 3) 4 eT) ?_ ?_ ?_ ?_) ?_); exact HR.out; exact infoPt; rfl; exact pt_one _ _ _ _)
    exact bodyPost_ret (v := .agg (ptI 0 ((i : Int) + 3) 4 eT)) (results_cell_row rfl _ _ w.heap.size 156 (ptI 0 ((i : Int) + 3) 4 eT) (0, 0) _ rfl (Blk.setRow HR.out) Tryz.underlying156 rfl infoPt) rfl ⟨by rw [HRES.out] <;> rfl, below_row HB.out (by omega) _⟩
  have q : decide (bt s (i + 2) < bt s i) = false := by simpa using hI
  go_upto_region 4 with fail
  go_cut [23] from 24 to 30 (fun x wx => x = .bool (decide (bt s (i + 2) = 91 ∧ isN s (i + 3) [58, 46, 61] = true)) ∧ w1 = wx)
  case first =>
    cases hc : decide (bt s (i + 2) = 91) with
    | true =>
      have hc' : bt s (i + 2) = 91 := of_decide_eq_true hc
      have q1 : ((bt s (i + 2) : Int) == 91) = true := by rw [beq_iff_eq]; omega
      have HC := Lib.hid hc'
      clear hc hc'
      have HA := isNat_calls s hs (i + 3) [58, 46, 61] (by decide)
      rw [show ((i + 3 : Nat) : Int) = (i : Int) + 3 from rfl, show ofT [58, 46, 61] = ⟨#[58, 46, 61]⟩ from rfl] at HA
      have HA2 := Lib.hid HA
      clear HA
      go_wp2_with (go_at_call 115; refine (HA2.out _).mono ?_; rintro e w' ⟨rfl, rfl⟩)
      go_meet
      exact ⟨by simp [HC.out], rfl⟩
    | false =>
      have hc' : ¬ bt s (i + 2) = 91 := of_decide_eq_false hc
      have q1 : ((bt s (i + 2) : Int) == 91) = false := by rw [beq_eq_false_iff_ne]; omega
      have HC := Lib.hid hc'
      clear hc hc'
      go_wp2_with fail
      go_meet
      exact ⟨by simp [HC.out], rfl⟩
  case rest =>
  obtain ⟨rfl, rfl⟩ := hcut
  by_cases hJ : bt s (i + 2) = 91 ∧ isN s (i + 3) [58, 46, 61] = true
  · have q2 : decide (bt s (i + 2) = 91 ∧ isN s (i + 3) [58, 46, 61] = true) = true := decide_eq_true hJ
    have HRES := Lib.hid (show betweenD s i = badD 3 (i + 4) by unfold betweenD; rw [if_neg hI, if_pos hJ])
    rw [q2]
    clear q2 hJ
    go_wp2_with ((with_reducible refine wpList_store_st (o := ⟨none, .store 156 _ _, _, _, _, _⟩) rfl 156 _ _ rfl w.heap.size rfl rfl (run_storeAt_row _ w.heap.size 156 156 (ptI 0 0 0 eT) (ptI 0 ((i : Int) + 4) 3 eT) ?_ ?_ ?_ ?_) ?_); exact HR.out; exact infoPt; rfl; exact pt_one _ _ _ _)
    exact bodyPost_ret (v := .agg (ptI 0 ((i : Int) + 4) 3 eT)) (results_cell_row rfl _ _ w.heap.size 156 (ptI 0 ((i : Int) + 4) 3 eT) (0, 0) _ rfl (Blk.setRow HR.out) Tryz.underlying156 rfl infoPt) rfl ⟨by rw [HRES.out] <;> rfl, below_row HB.out (by omega) _⟩
  have q2 : decide (bt s (i + 2) = 91 ∧ isN s (i + 3) [58, 46, 61] = true) = false := decide_eq_false hJ
  rw [q2]
  clear q2
  have hg : betweenD s i = okD (range (bt s i) (bt s (i + 2))) (i + 3) := by unfold betweenD; rw [if_neg hI, if_neg hJ]
  have hrg := fun w' => range_calls (bt s i) (bt s (i + 2)) w' (by omega) (by omega) (by omega) (by omega)
  rw [show ((bt s i : Int)).toNat = bt s i from rfl, show ((bt s (i + 2) : Int)).toNat = bt s (i + 2) from rfl] at hrg
  generalize range (bt s i) (bt s (i + 2)) = r at *
  have HRES := Lib.hid hg
  have HRG := Lib.hid hrg
  clear hg hrg hJ
  go_wp2_with fail
  refine (HRG.out _).mono ?_
  rintro e w2 ⟨rfl, hb⟩
  have HR2 := Lib.hid (HR.out.below hb (Blk.lt HR.out))
  have HB2 := Lib.hid (HB.out.trans (hb.mono (by omega)))
  have hz2 := Nat.le_trans hz hb.size
  clear HR HB hz hb
  have HR := HR2
  have HB := HB2
  have hz := hz2
  clear HR2 HB2 hz2
  go_wp2_with ((with_reducible refine wpList_store_st (o := ⟨none, .store 156 _ _, _, _, _, _⟩) rfl 156 _ _ rfl w.heap.size rfl rfl (run_storeAt_row _ w.heap.size 156 156 (ptI 0 0 0 eT) (ptI r ((i : Int) + 3) 0 eT) ?_ ?_ ?_ ?_) ?_); exact HR.out; exact infoPt; rfl; exact pt_one _ _ _ _)
  exact bodyPost_ret (v := .agg (ptI r ((i : Int) + 3) 0 eT)) (results_cell_row rfl _ _ w.heap.size 156 (ptI r ((i : Int) + 3) 0 eT) (0, 0) _ rfl (Blk.setRow HR.out) Tryz.underlying156 rfl infoPt) rfl ⟨by rw [HRES.out] <;> rfl, below_row HB.out (by omega) _⟩
end Go.Proofs.YthodphgbdmnpoaaGreat

/- The developers' words: a reading, and the small functions. -/
namespace Go.Proofs.YthodphgbdmnpoaaGreat
open Go.RowKit Go.Shelf BS

/-- A reading's cells: a word, an error, its place, what lacks. -/
@[reducible] def rgI (k a f : Int) (t : BitVec 256) (n m : Int) (e p : Int) (l : ByteArray) : Array Value :=
  #[.int .i64 k, .int .i64 a, .int .i64 f, .int .u64 (wd t 0), .int .u64 (wd t 1), .int .u64 (wd t 2), .int .u64 (wd t 3), .int .i64 n, .int .i64 m, .int .i64 e, .int .i64 p, .string l]
/-- The same with a zero set written out. -/
@[reducible] def rgZ (k a f : Int) (n m : Int) (e p : Int) (l : ByteArray) : Array Value :=
  #[.int .i64 k, .int .i64 a, .int .i64 f, .int .u64 0, .int .u64 0, .int .u64 0, .int .u64 0, .int .i64 n, .int .i64 m, .int .i64 e, .int .i64 p, .string l]
theorem rgZ_eq (k a f n m e p : Int) (l : ByteArray) : rgZ k a f n m e p l = rgI k a f 0 n m e p l := rfl
theorem infoRg : (Tryz.prog.info? 79).map (·.size) = some 12 := by kernel_rfl
theorem rg_one (k a f : Int) (t : BitVec 256) (n m e p : Int) (l : ByteArray) : ((rgI k a f t n m e p l).all fun x => x.oneCell') = true := by simp [Value.oneCell']

set_option maxRecDepth 100000 in
set_option maxHeartbeats 1000000 in
theorem fault5_calls (e p : Int) (w : World) : Calls Tryz.prog 42 #[.int .i64 e, .int .i64 p] w fun en w' => en = .returned (.agg (rgI 0 0 0 0 0 0 e p eT)) ∧ Below w.heap.size w w' := by
  go_enter Tryz.func42, Tryz.ntmps42
  go_upto_region 1 with fail
  have HR := Blk.new w (rgZ 0 0 0 0 0 0 0 eT) 79
  have HB : Below w.heap.size w (w.alloc (.cells (rgZ 0 0 0 0 0 0 0 eT) 79)) := by go_grown
  have e0 : w.alloc (.cells #[.int .i64 0, .int .i64 0, .int .i64 0, .int .u64 0, .int .u64 0, .int .u64 0, .int .u64 0, .int .i64 0, .int .i64 0, .int .i64 0, .int .i64 0, .string ⟨#[]⟩] 79) = w.alloc (.cells (rgZ 0 0 0 0 0 0 0 eT) 79) := rfl
  try rw [e0]
  clear e0
  generalize w.alloc (.cells (rgZ 0 0 0 0 0 0 0 eT) 79) = w1 at *
  go_wp2_with ((with_reducible refine wpList_store_st (o := ⟨none, .store 79 _ _, _, _, _, _⟩) rfl 79 _ _ rfl w.heap.size rfl rfl (run_storeAt_row _ w.heap.size 79 79 (rgZ 0 0 0 0 0 0 0 eT) (rgZ 0 0 0 0 0 e p eT) ?_ ?_ ?_ ?_) ?_); exact HR; exact infoRg; rfl; exact rg_one _ _ _ 0 _ _ _ _ _)
  exact bodyPost_ret (v := .agg (rgZ 0 0 0 0 0 e p eT)) (results_cell_row rfl _ _ w.heap.size 79 (rgZ 0 0 0 0 0 e p eT) (0, 0) _ rfl (Blk.setRow HR) Tryz.underlying79 rfl infoRg) rfl ⟨rfl, below_row HB (Nat.le_refl _) _⟩

set_option maxRecDepth 100000 in
set_option maxHeartbeats 1000000 in
theorem sign5_calls (k a : Int) (ha : 0 ≤ a ∧ a ≤ 1000000) (w : World) : Calls Tryz.prog 75 #[.int .i64 k, .int .i64 a] w fun en w' => en = .returned (.agg (rgI k a (a + 1) 0 0 0 0 0 eT)) ∧ Below w.heap.size w w' := by
  have x : IntKind.i64.wrap (a + 1) = a + 1 := IntWalk.i64_in _ (by omega)
  go_enter Tryz.func75, Tryz.ntmps75
  go_upto_region 1 with fail
  have HR := Blk.new w (rgZ 0 0 0 0 0 0 0 eT) 79
  have HB : Below w.heap.size w (w.alloc (.cells (rgZ 0 0 0 0 0 0 0 eT) 79)) := by go_grown
  have e0 : w.alloc (.cells #[.int .i64 0, .int .i64 0, .int .i64 0, .int .u64 0, .int .u64 0, .int .u64 0, .int .u64 0, .int .i64 0, .int .i64 0, .int .i64 0, .int .i64 0, .string ⟨#[]⟩] 79) = w.alloc (.cells (rgZ 0 0 0 0 0 0 0 eT) 79) := rfl
  try rw [e0]
  clear e0
  generalize w.alloc (.cells (rgZ 0 0 0 0 0 0 0 eT) 79) = w1 at *
  go_wp2_with ((with_reducible refine wpList_store_st (o := ⟨none, .store 79 _ _, _, _, _, _⟩) rfl 79 _ _ rfl w.heap.size rfl rfl (run_storeAt_row _ w.heap.size 79 79 (rgZ 0 0 0 0 0 0 0 eT) (rgZ k a (a + 1) 0 0 0 0 eT) ?_ ?_ ?_ ?_) ?_); exact HR; exact infoRg; rfl; exact rg_one _ _ _ 0 _ _ _ _ _)
  exact bodyPost_ret (v := .agg (rgZ k a (a + 1) 0 0 0 0 eT)) (results_cell_row rfl _ _ w.heap.size 79 (rgZ k a (a + 1) 0 0 0 0 eT) (0, 0) _ rfl (Blk.setRow HR) Tryz.underlying79 rfl infoRg) rfl ⟨rfl, below_row HB (Nat.le_refl _) _⟩

set_option maxRecDepth 100000 in
set_option maxHeartbeats 1000000 in
theorem oneOf5_calls (t : BitVec 256) (a e : Int) (w : World) : Calls Tryz.prog 106 #[setV t, .int .i64 a, .int .i64 e] w fun en w' => en = .returned (.agg (rgI 1 a e t 0 0 0 0 eT)) ∧ Below w.heap.size w w' := by
  have HC := Blk.new w (setA t) 34
  have HR := Blk.new (w.alloc (.cells (setA t) 34)) (rgZ 0 0 0 0 0 0 0 eT) 79
  rw [World.size_alloc] at HR
  have HC2 := HC.alloc (.cells (rgZ 0 0 0 0 0 0 0 eT) 79)
  have HB : Below w.heap.size w ((w.alloc (.cells (setA t) 34)).alloc (.cells (rgZ 0 0 0 0 0 0 0 eT) 79)) := by go_grown
  go_enter Tryz.func106, Tryz.ntmps106
  go_upto_region 1 with fail
  have e0 : (w.alloc (.cells #[.int .u64 (wd t 0), .int .u64 (wd t 1), .int .u64 (wd t 2), .int .u64 (wd t 3)] 34)).alloc (.cells #[.int .i64 0, .int .i64 0, .int .i64 0, .int .u64 0, .int .u64 0, .int .u64 0, .int .u64 0, .int .i64 0, .int .i64 0, .int .i64 0, .int .i64 0, .string ⟨#[]⟩] 79) = (w.alloc (.cells (setA t) 34)).alloc (.cells (rgZ 0 0 0 0 0 0 0 eT) 79) := rfl
  try rw [e0]
  clear e0 HC
  generalize (w.alloc (.cells (setA t) 34)).alloc (.cells (rgZ 0 0 0 0 0 0 0 eT) 79) = w1 at *
  obtain ⟨⟨c0, c1, c2, c3⟩, _⟩ := HC2.cells4
  go_wp2_with ((with_reducible refine wpList_store_st (o := ⟨none, .store 79 _ _, _, _, _, _⟩) rfl 79 _ _ rfl (w.heap.size + 1) rfl rfl (run_storeAt_row _ (w.heap.size + 1) 79 79 (rgZ 0 0 0 0 0 0 0 eT) (rgI 1 a e t 0 0 0 0 eT) ?_ ?_ ?_ ?_) ?_); exact HR; exact infoRg; rfl; exact rg_one _ _ _ _ _ _ _ _ _)
  exact bodyPost_ret (v := .agg (rgI 1 a e t 0 0 0 0 eT)) (results_cell_row rfl _ _ (w.heap.size + 1) 79 (rgI 1 a e t 0 0 0 0 eT) (0, 0) _ rfl (Blk.setRow HR) Tryz.underlying79 rfl infoRg) rfl ⟨rfl, below_row HB (by omega) _⟩

/-! ### Is a byte one of some -/
set_option maxRecDepth 100000 in
theorem isOf5_calls (L : List Nat) (hL : ∀ x ∈ L, x < 256) (b : Nat) (hb : b < 256) (w : World) : Calls Tryz.prog 88 #[.string (ofT L), .int .u8 b] w fun e w' => e = .returned (.bool (L.contains b)) ∧ w = w' := by
  have HE : Hid (decide (0 ≤ Lib.indexByte (ofT L).data.toList (UInt8.ofNat b)) = L.contains b) := Lib.hid (ib_eq L hL b hb)
  go_enter Tryz.func88, Tryz.ntmps88
  go_wp2_with (go_at_call 14; refine (ib_calls _ _ _).mono ?_; rintro e w' ⟨rfl, rfl⟩)
  go_ret
  exact ⟨by rw [← HE.out]; rfl, rfl⟩
theorem isSign_calls (b : Nat) (hb : b < 256) (w : World) : Calls Tryz.prog 88 #[.string ⟨#[46, 91, 93, 92, 40, 41, 42, 43, 63, 123, 125, 124, 94, 36]⟩, .int .u8 b] w fun e w' => e = .returned (.bool (four14 b)) ∧ w = w' := isOf5_calls l14 (by decide) b hb w
theorem isPlain_calls (b : Nat) (hb : b < 256) (w : World) : Calls Tryz.prog 88 #[.string ⟨#[93, 125]⟩, .int .u8 b] w fun e w' => e = .returned (.bool ([93, 125].contains b)) ∧ w = w' := isOf5_calls [93, 125] (by decide) b hb w
theorem isRep_calls (b : Nat) (hb : b < 256) (w : World) : Calls Tryz.prog 88 #[.string ⟨#[42, 43, 63, 123]⟩, .int .u8 b] w fun e w' => e = .returned (.bool ([42, 43, 63, 123].contains b)) ∧ w = w' := isOf5_calls [42, 43, 63, 123] (by decide) b hb w

/-! ### The text of a byte -/
def textB (b : Nat) : List Nat := if four14 b = true ∧ b ≠ 93 ∧ b ≠ 125 then [92, b] else [b]
end Go.Proofs.YthodphgbdmnpoaaGreat

/- The developers' brackets: run, those. -/
namespace Go.Proofs.YthodphgbdmnpoaaGreat
open Go.RowKit Go.Shelf BS

/-- The bytes of B that are in s, up to k. -/
def acc (s : BitVec 256) (B : ByteArray) : Nat → ByteArray
  | 0 => eT
  | k + 1 => if s.getLsbD (bt B k) = true then acc s B k ++ B.extract k (k + 1) else acc s B k
theorem acc_size (s : BitVec 256) (B : ByteArray) : ∀ k, (acc s B k).size ≤ k
  | 0 => Nat.le_refl _
  | k + 1 => by
    have h := acc_size s B k
    rw [acc]
    split
    · rw [ByteArray.size_append, ByteArray.size_extract]; omega
    · omega
theorem acc_yes (s : BitVec 256) (B : ByteArray) (k : Nat) (h : s.getLsbD (bt B k) = true) : acc s B (k + 1) = acc s B k ++ B.extract k (k + 1) := by rw [acc, if_pos h]
theorem acc_no (s : BitVec 256) (B : ByteArray) (k : Nat) (h : s.getLsbD (bt B k) = false) : acc s B (k + 1) = acc s B k := by rw [acc, if_neg (by rw [h]; decide)]
def STh (w : World) (s : BitVec 256) (W : World) : Prop := Blk W w.heap.size (setA s) 34 ∧ Below w.heap.size w W
theorem STh.keep {w W W' : World} {s : BitVec 256} (h : STh w s W) (hb : Below W.heap.size W W') : STh w s W' := ⟨h.1.below hb h.1.lt, h.2.trans (hb.mono h.2.size)⟩
theorem STh.drewS {w W : World} {s : BitVec 256} (h : STh w s W) : STh w s W.drew := ⟨h.1, h.2.drew⟩

theorem acc_one (s : BitVec 256) (a : Nat) (ha : a < 256) : acc s (ofT [a]) 1 = ofT (iT (s.getLsbD a) a) := by
  have hb : bt (ofT [a]) 0 = a := bt_ofT [a] (by simpa using ha) 0 (by simp)
  have he : (ofT [a]).extract 0 1 = ofT [a] := by apply ByteArray.ext; simp [ofT]
  rw [acc, hb, acc, eT_app]
  unfold iT
  split
  · rw [he]
  · rfl
theorem acc_two (s : BitVec 256) (a b : Nat) (ha : a < 256) (hb : b < 256) : acc s (ofT [a, b]) 2 = ofT (iT (s.getLsbD a) a ++ iT (s.getLsbD b) b) := by
  have hL : ∀ x ∈ [a, b], x < 256 := by simp; omega
  have h0 : bt (ofT [a, b]) 0 = a := bt_ofT [a, b] hL 0 (by simp)
  have h1 : bt (ofT [a, b]) 1 = b := bt_ofT [a, b] hL 1 (by simp)
  have e0 : (ofT [a, b]).extract 0 1 = ofT [a] := by apply ByteArray.ext; simp [ofT]
  have e1 : (ofT [a, b]).extract 1 2 = ofT [b] := by apply ByteArray.ext; simp [ofT]
  rw [acc, acc, h0, h1, acc, eT_app]
  unfold iT
  rw [← ofT_append]
  by_cases g0 : s.getLsbD a = true <;> by_cases g1 : s.getLsbD b = true <;> simp only [g0, g1, if_true, if_false, Bool.false_eq_true, e0, e1]
  · apply ByteArray.ext; simp [ofT]
  · rfl
  · rfl
end Go.Proofs.YthodphgbdmnpoaaGreat

/- The document's sets, by the reference's own calls: Next, All, Runs. -/
namespace Go.Proofs.YthodphgbdmnpoaaGreat
open Go.RowKit BS

theorem rhasN' (a : BitVec 256) (x : Nat) (w : World) (hx : x < 256) : Calls Tryz.prog 52 #[setV a, .int .i64 x] w fun e w' => e = .returned (.bool (a.getLsbD x)) ∧ Below w.heap.size w w' := by
  have h := rhas_calls a x w (by omega) (by omega)
  rw [Int.toNat_natCast] at h; exact h

theorem row_below {W W' : World} {base : Nat} {e : TypeId} {size : Nat} {v : Value} {n : Nat} {xs : List Value} (h : W.ownsRow base e size v n xs) (hb : Below W.heap.size W W') : W'.ownsRow base e size v n xs := by
  refine h.kept (row := none) ⟨hb.os, hb.tape, hb.output, hb.size, fun k hk _ => hb.block k hk⟩ ?_
  by_cases hv : v.ownBlock = none
  · exact .inl hv
  · exact .inr hv

theorem info1b : (Tryz.prog.info? 5).map (fun i => (i.zero, i.size, i.bytes)) = some (some (.int .u8 0), 1, 1) := by kernel_rfl
theorem Blk.news1 {W : World} {B : Nat} {a : Value} {t : TypeId} (h : Blk W B #[a] t) : ∀ j u, [a][j]? = some u → W.cell? ((⟨B, 0, none⟩ : Addr).add j) = some u := by
  intro j u hu
  rw [Addr.add_mid, Nat.zero_add, h.cell j]
  simpa using hu
def byteCells (l : List Nat) : List Value := l.map fun (x : Nat) => Value.int .u8 (x : Int)
theorem byteCells_snoc (l : List Nat) (x : Nat) : byteCells (l ++ [x]) = byteCells l ++ [.int .u8 (x : Int)] := by simp [byteCells]

end Go.Proofs.YthodphgbdmnpoaaGreat

/- The document's sets, by the reference's own calls: Runs. -/
namespace Go.Proofs.YthodphgbdmnpoaaGreat
open Go.RowKit Go.Shelf BS
attribute [local go_sem] Oper.semAt_some

theorem runStep_last (rs : List (Nat × Nat)) (x : Nat) : ∃ rs' a, runStep rs x = rs' ++ [(a, x)] := by
  rcases nil_or_snoc rs with rfl | ⟨rs', a, b, rfl⟩
  · exact ⟨[], x, rfl⟩
  · by_cases h : (b + 1) % 256 = x
    · exact ⟨rs', a, runStep_grow _ _ _ _ h⟩
    · exact ⟨rs' ++ [(a, b)], x, runStep_new _ _ _ _ h⟩
theorem runs_prev (f : Nat → Bool) (k : Nat) (hk : 0 < k) (hf : f (k - 1) = true) : ∃ rs' a, runsOf (el f k) = rs' ++ [(a, k - 1)] := by
  obtain ⟨j, rfl⟩ : ∃ j, k = j + 1 := ⟨k - 1, by omega⟩
  simp only [Nat.add_sub_cancel] at hf ⊢
  rw [el_succ, hf, if_pos rfl, runsOf_snoc]
  exact runStep_last _ _
theorem runs_fresh (f : Nat → Bool) (k : Nat) (hk : k < 256) (hf : k = 0 ∨ f (k - 1) = false) (h : f k = true) : runsOf (el f (k + 1)) = runsOf (el f k) ++ [(k, k)] := by
  rw [el_succ, h, if_pos rfl, runsOf_snoc]
  have iv := runsInv f k (by omega)
  generalize runsOf (el f k) = rs at *
  rcases nil_or_snoc rs with rfl | ⟨rs', a, b, rfl⟩
  · rfl
  · have hb := iv.ok (a, b) (by simp)
    simp only at hb
    refine runStep_new _ _ _ _ fun e => ?_
    have hbk : b + 1 = k := by omega
    have hfb : f b = true := (iv.all b (by omega)).2 ⟨(a, b), by simp, hb.1, Nat.le_refl _⟩
    rcases hf with h0 | h0
    · omega
    · rw [show k - 1 = b by omega, hfb] at h0; cases h0
theorem runs_more (f : Nat → Bool) (k : Nat) (hk : k < 256) (rs' : List (Nat × Nat)) (a : Nat) (hk0 : 0 < k) (hr : runsOf (el f k) = rs' ++ [(a, k - 1)]) (h : f k = true) : runsOf (el f (k + 1)) = rs' ++ [(a, k)] := by
  rw [el_succ, h, if_pos rfl, runsOf_snoc, hr]
  exact runStep_grow _ _ _ _ (by omega)

/-- A set's bytes are as many as it counts. -/
theorem el_cnt (f : Nat → Bool) : ∀ k, (el f k).length = cnt f k
  | 0 => rfl
  | k + 1 => by
    rw [el_succ, List.length_append, el_cnt f k, cnt]
    cases f k <;> rfl
theorem byteCells_len (l : List Nat) : (byteCells l).length = l.length := by simp [byteCells]
theorem byteCells_get (l : List Nat) (i : Nat) (h : i < l.length) : (byteCells l)[i]? = some (.int .u8 (l[i] : Int)) := by
  simp [byteCells, h]
end Go.Proofs.YthodphgbdmnpoaaGreat

/- The document's brackets: Text. -/
namespace Go.Proofs.YthodphgbdmnpoaaGreat
open Go.RowKit Go.Shelf BS

theorem four_eq : withL 0 [93, 91, 94, 45] = fourS := by decide +kernel
theorem up_eq : withL 0 [94] = range 94 94 := by decide +kernel
theorem bytes_mark (W : World) (t : TypeId) (l : List (Fin 256)) (m : Nat × Nat) : BytesAt (W.alloc (.cells (byW l) t m)).heap.size (W.alloc (.cells (byW l) t m)) (.slice (some ⟨W.heap.size, 0, none⟩) l.length l.length) l := by
  refine ⟨_, l.length, rfl, fun _ => ⟨W.heap.size, 0, rfl, by simp, fun j hj => ?_⟩⟩
  rw [Nat.zero_add, World.cell?_alloc_mark]
  simp [byW, hj]
theorem eq_zero (s : BitVec 256) (w : World) : (Op.equalIn 10000 34 (setV s) (.agg #[.int .u64 0, .int .u64 0, .int .u64 0, .int .u64 0])).run Tryz.prog w = .ok (decide (s = 0)) w := by rw [empty_set]; exact eq_set s 0 w

end Go.Proofs.YthodphgbdmnpoaaGreat

/- The developers' brackets: Text. -/
namespace Go.Proofs.YthodphgbdmnpoaaGreat
open Go.RowKit Go.Shelf BS

theorem four_dev (w : World) (a : Option Addr) (h : BytesAt w.heap.size w (.slice a 4 4) [93, 91, 94, 45]) : Calls Tryz.prog 108 #[setV 0, .slice a 4 4] w fun e w' => e = .returned (setV fourS) ∧ Below w.heap.size w w' := by
  have := with_calls' 0 a 4 4 [93, 91, 94, 45] (by decide) w h
  rw [four_eq] at this; exact this

theorem out_nil (s : BitVec 256) (h : outT s = []) : gT (s.getLsbD 94) 94 ||| (gT (s.getLsbD 45) 45 ||| 0) = s := by
  have hp := set_parts s
  unfold outT at h
  obtain ⟨h1, h2⟩ := List.append_eq_nil_iff.1 h
  obtain ⟨h0, h1⟩ := List.append_eq_nil_iff.1 h1
  have m0 := mid_nil s h1
  have e0 : s.getLsbD 93 = false := by cases hb : s.getLsbD 93 with
    | false => rfl
    | true => rw [hb] at h0; simp [iT] at h0
  have e2 : s.getLsbD 91 = false := by cases hb : s.getLsbD 91 with
    | false => rfl
    | true => rw [hb] at h2; simp [iT] at h2
  rw [e0, e2, m0] at hp
  have g0 : gT false 93 = 0 := rfl
  have g1 : gT false 91 = 0 := rfl
  rw [g0, g1, or_zero, or_zero, or_zero] at hp
  exact hp
theorem out_94 (s : BitVec 256) (h : outT s = []) : s = range 94 94 ↔ (s.getLsbD 45 = false ∧ s.getLsbD 94 = true) := by
  constructor
  · rintro rfl; decide +kernel
  · rintro ⟨h1, h2⟩
    have hp := out_nil s h
    rw [h1, h2] at hp
    rw [← hp]; decide +kernel
theorem nil_94 : outT (range 94 94) = [] := by decide +kernel
theorem txt_q3 (s : BitVec 256) (h : outT s ≠ []) : ((ofT (91 :: outT s)).toList == [91]) = false := by
  rw [beq_eq_false_iff_ne]
  intro h1
  have := congrArg List.length h1
  rw [toL] at this
  simp at this
  exact h this
theorem txt_q4 (s : BitVec 256) (h : outT s ≠ []) (M : List Nat) : ((ofT (91 :: outT s ++ M)).toList == [91, 94]) = false := by
  rw [beq_eq_false_iff_ne]
  intro h1
  obtain ⟨c, L, hL, hc⟩ := out_head s h M
  have hcl : c < 256 := by
    cases ho : outT s with
    | nil => exact absurd ho h
    | cons d l =>
      rw [ho, List.cons_append] at hL
      have := List.cons.inj hL
      have hd := out_lt s d (by rw [ho]; exact List.mem_cons_self ..)
      omega
  rw [toL, List.cons_append, hL] at h1
  simp only [List.map_cons, List.cons.injEq] at h1
  have h2 := congrArg UInt8.toNat h1.2.1
  simp at h2
  omega
theorem txt_q5 (y z : Bool) : ((ofT ([91] ++ (iT z 45 ++ iT y 94))).toList == [91, 94]) = (!z && y) := by rw [toL]; cases y <;> cases z <;> decide

/-- A slice of runs. -/
def RunsAt (rs : List (Nat × Nat)) (v : Value) (W : World) : Prop := ∃ a cap, v = .slice a rs.length cap ∧ (rs ≠ [] → ∃ g, a = some ⟨g, 0, none⟩ ∧ RowAt g rs W)
def UX (s : BitVec 256) (n : Nat) : Nat → List Value → Value → Prop
  | 0, _, v => v = setV s
  | 1, _, v => v = setV 0
  | 2, _, v => ∃ a, v = .slice a 4 4
  | 3, _, v => v = setV fourS
  | 4, _, v => v = setV (s &&& ~~~fourS)
  | 5, _, v => ∃ a cap, v = .slice a n cap
  | 6, _, v => v = .int .i64 n
  | _, _, v => v = .int .i64 0
def VX (rs : List (Nat × Nat)) (i : Nat) (v : Value) (W : World) : Prop := match i with
  | 2 => BytesAt W.heap.size W v [93, 91, 94, 45]
  | 5 => RunsAt rs v W
  | _ => True
theorem keepVX (rs : List (Nat × Nat)) : ∀ i v w w', Below w.heap.size w w' → VX rs i v w → VX rs i v w' := by
  intro i v w w' hb h
  unfold VX at *
  split
  · exact BytesAt.step h hb
  · obtain ⟨a, cap, h1, h2⟩ := h
    refine ⟨a, cap, h1, fun hne => ?_⟩
    obtain ⟨g, h3, h4⟩ := h2 hne
    exact ⟨g, h3, h4.below hb⟩
  · trivial
end Go.Proofs.YthodphgbdmnpoaaGreat

/- A constant's bytes in a region that draws its order: the conversion marks a new block. Nothing of the program is used but two types' facts, handed in. -/
namespace Go.Proofs.YthodphgbdmnpoaaGreat
open Go Go.RowKit

/-- New blocks, and marks on blocks from n0 on. -/
def TM (n0 : Nat) (w w' : World) : Prop := Below n0 w w' ∧ ∀ (b : Nat) C e m, w.heap[b]? = some (Obj.cells C e m) → ∃ m', w'.heap[b]? = some (Obj.cells C e m')
theorem TM.refl (n0 : Nat) (w : World) : TM n0 w w := ⟨Below.refl _ _, fun _ _ _ m h => ⟨m, h⟩⟩
theorem TM.of_below {n0 : Nat} {w w' : World} (h : Below w.heap.size w w') (hn : n0 ≤ w.heap.size) : TM n0 w w' :=
  ⟨h.mono hn, fun b _ _ m hb => ⟨m, (h.block b (Array.getElem?_eq_some_iff.1 hb).1).trans hb⟩⟩
/-- The world with block b's mark. -/
theorem freeze_kept (w : World) (b k : Nat) (n0 : Nat) (hb : n0 ≤ b) : TM n0 w (w.freeze ⟨b, k, none⟩ 1) := by
  have hf : w.freeze ⟨b, k, none⟩ 1 = { w with heap := w.heap.modify b fun
      | .cells c elem (lo, hi) => .cells c elem (if lo == hi then (k, k + 1) else (min lo k, max hi (k + 1)))
      | o => o } := rfl
  rw [hf]
  refine ⟨⟨rfl, rfl, rfl, by simp, fun j hj => ?_⟩, fun c C e m hc => ?_⟩
  · show (w.heap.modify b _)[j]? = _
    rw [Array.getElem?_modify]
    rw [if_neg (by omega)]
  · show ∃ m', (w.heap.modify b _)[c]? = _
    rw [Array.getElem?_modify]
    by_cases h : b = c
    · subst h
      rw [if_pos rfl, hc]
      exact ⟨_, rfl⟩
    · rw [if_neg h]
      exact ⟨m, hc⟩
theorem run_convert_mark {P : Program} (w : World) (t e : TypeId) (b : Nat) (C : Array Value) (m : Nat × Nat) (n c : Nat) (ht : P.underlying t = some (.slice e)) (he : P.underlying e = some (.int .u8)) (hb : w.heap[b]? = some (.cells C e m)) :
    (convert t t (.slice (some ⟨b, 0, none⟩) n c)).run P w = .ok (.slice (some ⟨b, 0, none⟩) n c) (w.freeze ⟨b, C.size, none⟩ 1) := by
  have hsh : w.shape? b = some (e, C.size) := by unfold World.shape?; rw [hb]
  simp [convert, run_underlying ht, run_underlying he, markStringish, hsh]

/-- A slice over a whole new block of bytes, marked or not. -/
def MarkB (n0 : Nat) (u8 : TypeId) (l : List (Fin 256)) (v : Value) (W : World) : Prop := ∃ b m, v = .slice (some ⟨b, 0, none⟩) l.length l.length ∧ n0 ≤ b ∧ W.heap[b]? = some (.cells (byW l) u8 m)
theorem MarkB.kept {n0 : Nat} {u8 : TypeId} {l : List (Fin 256)} {v : Value} {w w' : World} (h : MarkB n0 u8 l v w) (ht : TM n0 w w') : MarkB n0 u8 l v w' := by
  obtain ⟨b, m, h1, h2, h3⟩ := h
  obtain ⟨m', h4⟩ := ht.2 b _ _ _ h3
  exact ⟨b, m', h1, h2, h4⟩
theorem MarkB.new (n0 : Nat) (u8 : TypeId) (l : List (Fin 256)) (W : World) (hn : n0 ≤ W.heap.size) : MarkB n0 u8 l (.slice (some ⟨W.heap.size, 0, none⟩) l.length l.length) (W.alloc (.cells (byW l) u8)) :=
  ⟨_, (0, 0), rfl, hn, World.alloc_heap_new W _⟩
theorem MarkB.bytes {n0 : Nat} {u8 : TypeId} {l : List (Fin 256)} {v : Value} {W : World} (h : MarkB n0 u8 l v W) : BytesAt W.heap.size W v l := by
  obtain ⟨b, m, h1, h2, h3⟩ := h
  refine ⟨_, l.length, h1, fun _ => ⟨b, 0, rfl, (Array.getElem?_eq_some_iff.1 h3).1, fun j hj => ?_⟩⟩
  rw [Nat.zero_add]
  simp [World.cell?, h3, byW, hj]
theorem MarkB.convert {P : Program} {n0 : Nat} {u8 t : TypeId} {l : List (Fin 256)} {v : Value} {W : World} (h : MarkB n0 u8 l v W) (ht : P.underlying t = some (.slice u8)) (he : P.underlying u8 = some (.int .u8)) :
    ∃ W', (Go.convert t t v).run P W = .ok v W' ∧ MarkB n0 u8 l v W' ∧ TM n0 W W' := by
  have hk := h
  obtain ⟨b, m, rfl, h2, h3⟩ := h
  have hT := freeze_kept W b (byW l).size n0 h2
  exact ⟨_, run_convert_mark W t u8 b _ m _ _ ht he h3, hk.kept hT, hT⟩
end Go.Proofs.YthodphgbdmnpoaaGreat

/- The document's brackets: Text. -/
namespace Go.Proofs.YthodphgbdmnpoaaGreat
open Go.RowKit Go.Shelf BS

def UZ (s : BitVec 256) : Nat → List Value → Value → Prop
  | 0, _, v => v = setV s
  | 1, _, v => v = setV 0
  | 2, _, v => ∃ b, v = .slice (some ⟨b, 0, none⟩) 1 1
  | 3, _, v => ∃ b, v = .slice (some ⟨b, 0, none⟩) 1 1
  | 4, _, v => v = setV (range 94 94)
  | _, _, v => v = .bool (decide (s = range 94 94))
def VZ (n0 : Nat) (i : Nat) (v : Value) (W : World) : Prop := match i with
  | 2 => MarkB n0 5 [94] v W
  | 3 => MarkB n0 5 [94] v W
  | _ => True
theorem keepVZ (n0 : Nat) : ∀ i v w w', TM n0 w w' → VZ n0 i v w → VZ n0 i v w' := by
  intro i v w w' hb h
  unfold VZ at *
  split
  · exact MarkB.kept h hb
  · exact MarkB.kept h hb
  · trivial
def SZ (w : World) (n0 gF : Nat) (s : BitVec 256) (W : World) : Prop := (Blk W w.heap.size (setA s) 34 ∧ Blk W gF (setA fourS) 34 ∧ w.heap.size < n0 ∧ gF < n0 ∧ n0 ≤ W.heap.size) ∧ Below w.heap.size w W
theorem SZ.keep {w W W' : World} {n0 gF : Nat} {s : BitVec 256} (h : SZ w n0 gF s W) (hb : TM n0 W W') : SZ w n0 gF s W' :=
  ⟨⟨h.1.1.below hb.1 h.1.2.2.1, h.1.2.1.below hb.1 h.1.2.2.2.1, h.1.2.2.1, h.1.2.2.2.1, Nat.le_trans h.1.2.2.2.2 hb.1.size⟩, h.2.trans (hb.1.mono (by have := h.1.2.2.1; omega))⟩
theorem SZ.drewS {w W : World} {n0 gF : Nat} {s : BitVec 256} (h : SZ w n0 gF s W) : SZ w n0 gF s W.drew := ⟨⟨h.1.1, h.1.2.1, h.1.2.2⟩, h.2.drew⟩
theorem eq94 (s : BitVec 256) (w : World) : (Op.equalIn 10000 34 (setV s) (setV (range 94 94))).run Tryz.prog w = .ok (decide (s = range 94 94)) w := eq_set s (range 94 94) w

theorem out_eq (s : BitVec 256) : (iT (s.getLsbD 93) 93 ++ (rsOf (s &&& ~~~fourS)).flatMap runT) ++ iT (s.getLsbD 91) 91 = outT s := rfl
theorem text_eq (s : BitVec 256) (h0 : ¬ s = 0) (h1 : ¬ s = range 94 94) : textT s = if outT s = [] then [91] ++ iT (s.getLsbD 45) 45 ++ iT (s.getLsbD 94) 94 ++ [93] else [91] ++ outT s ++ iT (s.getLsbD 94) 94 ++ iT (s.getLsbD 45) 45 ++ [93] := by
  unfold textT
  rw [if_neg h0, if_neg h1]
  by_cases h : outT s = []
  · rw [if_pos h, if_pos h]; simp
  · rw [if_neg h, if_neg h]; simp

end Go.Proofs.YthodphgbdmnpoaaGreat

/- The document's words: Text, Print. -/
namespace Go.Proofs.YthodphgbdmnpoaaGreat
open Go.RowKit BS

/-- A slice of bytes as a text. -/
theorem cvAt (W : World) (g cap : Nat) (L : List Nat) (hC : ∀ i (h : i < L.length), W.cell? ⟨g, i, none⟩ = some (.int .u8 (L[i] : Int))) : (convert 151 9 (.slice (some ⟨g, 0, none⟩) L.length cap)).run Tryz.prog W = .ok (.string (ofT L)) W := by
  rw [← numsT L]
  refine run_convert_bytes_arg (P := Tryz.prog) W 151 5 Tryz.underlying151 Tryz.underlying5 g 0 L.length cap _ (by simp) (fun i hi => ?_) 9 Tryz.underlying9
  rw [Nat.zero_add, hC i hi]
  simp [List.getD_eq_getElem?_getD, List.getElem?_map, List.getElem?_eq_getElem hi]
theorem el_lt (f : Nat → Bool) (k b : Nat) (l : List Nat) (h : el f k = b :: l) : b < k := by
  have : b ∈ el f k := by rw [h]; exact List.mem_cons_self ..
  unfold el at this
  simp at this
  exact this.1

/-- The text of a word of any kind. -/
def printV (k : Int) (t : BitVec 256) (n m : Int) : List Nat :=
  if k = 1 then textW t else if k = 2 then [40] else if k = 3 then [41] else if k = 4 then [124] else if k = 5 then textN n m else []
theorem printV_W (w : WN) : printV w.kind w.set w.n w.m = printW w := by
  unfold printV printW
  have e : ∀ c : Nat, ((w.kind : Int) = (c : Int)) = (w.kind = c) := fun c => by rw [eq_iff_iff]; omega
  have e1 := e 1; have e2 := e 2; have e3 := e 3; have e4 := e 4; have e5 := e 5
  simp only [Int.cast_ofNat_Int] at e1 e2 e3 e4 e5
  simp only [e1, e2, e3, e4, e5]
end Go.Proofs.YthodphgbdmnpoaaGreat

/- Words of a pattern, plainly: the text of a word is read as it; so are texts, one behind the other. -/
namespace Go.Proofs.YthodphgbdmnpoaaGreat
open Go.RowKit BS

theorem bt_mid (p q : ByteArray) (T : List Nat) (hT : ∀ x ∈ T, x < 256) (i : Nat) (h : i < T.length) : bt (p ++ ofT T ++ q) (p.size + i) = T[i] := by
  rw [bt_app, if_pos (by rw [ByteArray.size_append, size_ofT]; omega), bt_off, bt_ofT T hT i h]
theorem size_mid (p q : ByteArray) (T : List Nat) : (p ++ ofT T ++ q).size = p.size + T.length + q.size := by rw [ByteArray.size_append, ByteArray.size_append, size_ofT]

theorem el_all (f : Nat → Bool) : ∀ k, (el f k).length = k → ∀ j, j < k → f j = true
  | 0, _, j, hj => by omega
  | k + 1, h, j, hj => by
    have hl : (el f k).length ≤ k := by unfold el; exact Nat.le_trans (List.length_filter_le _ _) (by simp)
    rw [el_succ] at h
    cases hf : f k with
    | false => rw [hf] at h; simp at h; omega
    | true =>
      rw [hf] at h
      simp at h
      by_cases hjk : j = k
      · subst hjk; exact hf
      · exact el_all f k h j (by omega)
theorem set_all (t : BitVec 256) (h : (el t.getLsbD 256).length = 256) : t = range 0 255 := by
  have := el_all _ 256 h
  apply BitVec.eq_of_getLsbD_eq
  intro j hj
  rw [this j hj, range, get_ofFn]
  simp
  omega
theorem set_one (t : BitVec 256) (b : Nat) (h : el t.getLsbD 256 = [b]) : b < 256 ∧ t = range b b := by
  have hm : ∀ j, j < 256 → (t.getLsbD j = true ↔ j = b) := fun j hj => by
    have : j ∈ el t.getLsbD 256 ↔ j = b := by rw [h]; simp
    rw [← this]
    unfold el
    simp [hj]
  have hb : b < 256 := by
    have : b ∈ el t.getLsbD 256 := by rw [h]; simp
    unfold el at this
    simp at this
    exact this.1
  refine ⟨hb, ?_⟩
  apply BitVec.eq_of_getLsbD_eq
  intro j hj
  rw [range, get_ofFn, Bool.eq_iff_iff, hm j hj]
  simp
  omega
theorem range94_one : (el (range 94 94).getLsbD 256).length = 1 := by decide +kernel
/-- How the text of a set is read. -/
def BackT (t : BitVec 256) (T : List Nat) : Prop := T ≠ [] ∧ (∀ x ∈ T, x < 256) ∧ T.length ≤ 800 ∧ ∀ p q : ByteArray, nextA (p ++ ofT T ++ q) p.size = (oneW t p.size (p.size + T.length), 0, 0)
theorem next_byte (s : ByteArray) (a b : Nat) (h : bt s a = b) (hb : four14 b = false ∨ b = 93 ∨ b = 125) : nextA s a = (oneW (range b b) a (a + 1), 0, 0) := by
  have key : ∀ c, c ∈ [40, 41, 124, 42, 43, 63, 123, 91, 46, 94, 36, 92] → b ≠ c := by
    rintro c hc rfl
    rcases hb with hb | hb | hb
    · have h4 : ∀ x ∈ [40, 41, 124, 42, 43, 63, 123, 91, 46, 94, 36, 92], four14 x = true := by decide
      rw [h4 b hc] at hb; cases hb
    · subst hb; revert hc; decide
    · subst hb; revert hc; decide
  unfold nextA
  rw [h, if_neg (key 40 (by decide)), if_neg (key 41 (by decide)), if_neg (key 124 (by decide)),
    if_neg (fun h => by rcases h with h | h | h | h; exact key 42 (by decide) h; exact key 43 (by decide) h; exact key 63 (by decide) h; exact key 123 (by decide) h),
    if_neg (key 91 (by decide)), if_neg (key 46 (by decide)), if_neg (fun h => by rcases h with h | h; exact key 94 (by decide) h; exact key 36 (by decide) h), if_neg (key 92 (by decide))]
theorem next_slash (s : ByteArray) (a b : Nat) (h0 : bt s a = 92) (hz : a + 1 < s.size) (h1 : bt s (a + 1) = b) (hb : four14 b = true) : nextA s a = (oneW (range b b) a (a + 2), 0, 0) := by
  unfold nextA
  rw [h0, if_neg (by decide), if_neg (by decide), if_neg (by decide), if_neg (by decide), if_neg (by decide), if_neg (by decide), if_neg (by decide), if_pos rfl]
  unfold slashW
  rw [if_neg (by omega), h1, if_neg (by rw [hb]; decide)]
theorem back_set (t : BitVec 256) : BackT t (textW t) := by
  unfold textW
  by_cases h256 : (el t.getLsbD 256).length = 256
  · rw [if_pos h256]
    obtain rfl := set_all t h256
    refine ⟨by decide, by decide, by decide, fun p q => ?_⟩
    have hb : bt (p ++ ofT [46] ++ q) p.size = 46 := bt_mid p q [46] (by decide) 0 (by decide)
    unfold nextA
    rw [hb, if_neg (by decide), if_neg (by decide), if_neg (by decide), if_neg (by decide), if_neg (by decide), if_pos rfl]
    rfl
  rw [if_neg h256]
  by_cases h1 : (el t.getLsbD 256).length ≠ 1
  · rw [if_pos h1]
    have hn : t ≠ range 94 94 := by rintro rfl; exact h1 range94_one
    refine ⟨fun h => hn ((text_nil t).1 h), text_lt t, text_len t, fun p q => ?_⟩
    have hr := readR_back p q t hn
    have h91 : bt (p ++ ofT (textT t) ++ q) p.size = 91 := by
      rcases readR_end (p ++ ofT (textT t) ++ q) p.size with ⟨h, _⟩ | ⟨_, _, h, _⟩
      · rw [hr] at h; cases h
      · exact h
    unfold nextA
    rw [h91, if_neg (by decide), if_neg (by decide), if_neg (by decide), if_neg (by decide), if_pos rfl]
    unfold brkW
    rw [hr]
    rfl
  rw [if_neg h1]
  obtain ⟨b, hb⟩ : ∃ b, el t.getLsbD 256 = [b] := List.length_eq_one_iff.1 (Decidable.not_not.1 h1)
  obtain ⟨hlt, rfl⟩ := set_one t b hb
  rw [hb]
  simp only
  by_cases hf : four14 b = true ∧ b ≠ 93 ∧ b ≠ 125
  · rw [if_pos hf]
    refine ⟨by simp, by simp; omega, by simp, fun p q => ?_⟩
    have hT : ∀ x ∈ [92, b], x < 256 := by simp; omega
    exact next_slash _ p.size b (bt_mid p q [92, b] hT 0 (by simp)) (by rw [size_mid]; simp; omega) (bt_mid p q [92, b] hT 1 (by simp)) hf.1
  · rw [if_neg hf]
    refine ⟨by simp, by simp; omega, by simp, fun p q => ?_⟩
    have hT : ∀ x ∈ [b], x < 256 := by simp; omega
    refine next_byte _ p.size b (bt_mid p q [b] hT 0 (by simp)) ?_
    by_cases h4 : four14 b = true
    · right
      by_cases h93 : b = 93
      · exact .inl h93
      · exact .inr (Decidable.not_not.1 fun h => hf ⟨h4, h93, h⟩)
    · exact .inl (by simpa using h4)

/-- The word at another place. -/
def atW (w : WN) (p l : Nat) : WN := ⟨w.kind, p, p + l, w.set, w.n, w.m⟩
theorem textN_lt (n m : Int) (h : rightN n m = true) : (∀ x ∈ textN n m, x < 256) ∧ (textN n m).length ≤ 7 := by
  have hd : ∀ k, k ≤ 99 → (∀ x ∈ digL k, x < 256) ∧ (digL k).length ≤ 2 := fun k hk => by
    unfold digL
    split
    · simp; omega
    · simp; omega
  have hc : 0 ≤ n ∧ n ≤ 99 ∧ (m = -1 ∨ (n ≤ m ∧ m ≤ 99)) := by
    unfold rightN at h
    simp only [Bool.and_eq_true, Bool.or_eq_true, decide_eq_true_eq, beq_iff_eq] at h
    omega
  have h1 := hd n.toNat (by omega)
  have h2 : m ≠ -1 → _ := fun hm => hd m.toNat (by omega)
  unfold textN
  rw [if_neg (by rw [h]; decide)]
  split
  · simp
  split
  · simp
  split
  · simp
  split
  · refine ⟨fun x hx => ?_, by simp; omega⟩
    simp at hx
    rcases hx with rfl | hx | rfl
    · decide
    · exact h1.1 x hx
    · decide
  split
  · refine ⟨fun x hx => ?_, by simp; omega⟩
    simp at hx
    rcases hx with rfl | hx | rfl | rfl
    · decide
    · exact h1.1 x hx
    · decide
    · decide
  · rename_i hm
    have h2 := h2 hm
    refine ⟨fun x hx => ?_, by simp; omega⟩
    simp at hx
    rcases hx with rfl | hx | rfl | hx | rfl
    · decide
    · exact h1.1 x hx
    · decide
    · exact h2.1 x hx
    · decide
/-- **The text of a word is read as it, whatever stands ahead of it, and behind.** -/
theorem back_word (w : WN) (hw : OkW w) : printW w ≠ [] ∧ (∀ x ∈ printW w, x < 256) ∧ (printW w).length ≤ 800 ∧ ∀ p q : ByteArray, nextA (p ++ ofT (printW w) ++ q) p.size = (atW w p.size (printW w).length, 0, 0) := by
  obtain ⟨k, a, e, t, n, m⟩ := w
  rcases hw with ⟨rfl, rfl, rfl⟩ | ⟨hk, rfl, rfl, rfl⟩ | ⟨rfl, rfl, hr⟩
  · exact back_set t
  · have key : ∀ c : Nat, ∀ k, c < 256 → (∀ s a, bt s a = c → nextA s a = (⟨k, a, a + 1, 0, 0, 0⟩, 0, 0)) → ([c] ≠ [] ∧ (∀ x ∈ [c], x < 256) ∧ [c].length ≤ 800 ∧ ∀ p q : ByteArray, nextA (p ++ ofT [c] ++ q) p.size = (⟨k, p.size, p.size + [c].length, 0, 0, 0⟩, 0, 0)) := fun c k hc h =>
      ⟨by simp, by simpa using hc, by simp, fun p q => h _ _ (bt_mid p q [c] (by simpa using hc) 0 (by simp))⟩
    simp only at hk
    rcases hk with rfl | rfl | rfl
    · exact key 40 2 (by decide) (fun s a h => by unfold nextA; rw [if_pos h])
    · exact key 41 3 (by decide) (fun s a h => by unfold nextA; rw [if_neg (by omega), if_pos h])
    · exact key 124 4 (by decide) (fun s a h => by unfold nextA; rw [if_neg (by omega), if_neg (by omega), if_pos h])
  · have hlt := textN_lt n m hr
    simp only at hr
    refine ⟨(readN_back eT eT n m hr).1, hlt.1, Nat.le_trans hlt.2 (by decide), fun p q => ?_⟩
    show nextA (p ++ ofT (textN n m) ++ q) p.size = (⟨5, p.size, p.size + (textN n m).length, 0, n, m⟩, 0, 0)
    have hb := (readN_back p q n m hr).2
    have hne := (readN_back p q n m hr).1
    have hl : 0 < (textN n m).length := List.length_pos_iff.2 hne
    have hz := size_mid p q (textN n m)
    have hfour : bt (p ++ ofT (textN n m) ++ q) p.size = 42 ∨ bt (p ++ ofT (textN n m) ++ q) p.size = 43 ∨ bt (p ++ ofT (textN n m) ++ q) p.size = 63 ∨ bt (p ++ ofT (textN n m) ++ q) p.size = 123 := by
      have hb2 := hb
      unfold readN at hb2
      rw [if_neg (by omega), show (p.size : Int).toNat = p.size from rfl] at hb2
      unfold signN at hb2
      by_cases g1 : bt (p ++ ofT (textN n m) ++ q) p.size = 42
      · exact .inl g1
      by_cases g2 : bt (p ++ ofT (textN n m) ++ q) p.size = 43
      · exact .inr (.inl g2)
      by_cases g3 : bt (p ++ ofT (textN n m) ++ q) p.size = 63
      · exact .inr (.inr (.inl g3))
      by_cases g4 : bt (p ++ ofT (textN n m) ++ q) p.size = 123
      · exact .inr (.inr (.inr g4))
      rw [if_neg g1, if_neg g2, if_neg g3, if_neg g4] at hb2
      cases hb2
    unfold nextA
    rw [if_neg (by omega), if_neg (by omega), if_neg (by omega), if_pos hfour]
    unfold cntW
    rw [hb]
    rfl

/-- The words, one behind the other, from a place on. -/
def layW : Nat → List WN → List WN
  | _, [] => []
  | p, w :: l => atW w p (printW w).length :: layW (p + (printW w).length) l
def catW (l : List WN) : List Nat := l.flatMap printW
theorem allN_back : ∀ (l : List WN) (p : ByteArray) (k : Nat) (acc : List WN), (∀ w ∈ l, OkW w) → l.length < k → allN (p ++ ofT (catW l)) k p.size acc = (acc ++ layW p.size l, 0, 0)
  | [], p, k + 1, acc, _, _ => by
    rw [allN, if_pos (by rw [show catW [] = [] from rfl, ByteArray.size_append, size_ofT]; simp)]
    simp [layW]
  | w :: l, p, k + 1, acc, hok, hk => by
    obtain ⟨h1, h2, h3, h4⟩ := back_word w (hok w (List.mem_cons_self ..))
    have e : ofT (catW (w :: l)) = ofT (printW w) ++ ofT (catW l) := by rw [ofT_append]; rfl
    have hl : 0 < (printW w).length := List.length_pos_iff.2 h1
    have hn := h4 p (ofT (catW l))
    rw [allN, e, ← ByteArray.append_assoc, if_neg (by rw [size_mid]; omega), hn]
    simp only
    rw [if_neg (by decide)]
    have hz : p.size + (printW w).length = (p ++ ofT (printW w)).size := by rw [ByteArray.size_append, size_ofT]
    show allN _ k (p.size + (printW w).length) _ = _
    rw [hz, allN_back l (p ++ ofT (printW w)) k _ (fun x hx => hok x (List.mem_cons_of_mem _ hx)) (by simp at hk; omega)]
    simp only [layW, List.append_assoc, List.cons_append, List.nil_append]
    rw [← hz]
/-- All words of a text lie side by side, and are words. -/
def SideW : Nat → Nat → List WN → Prop
  | a, e, [] => a = e
  | a, e, w :: l => w.pos = a ∧ a < w.fin ∧ OkW w ∧ SideW w.fin e l
theorem side_snoc (w : WN) : ∀ (l : List WN) (a e : Nat), SideW a e l → w.pos = e → e < w.fin → OkW w → SideW a w.fin (l ++ [w])
  | [], a, e, h, h1, h2, h3 => by
    have h' : a = e := h
    subst h'
    exact ⟨h1, h2, h3, rfl⟩
  | x :: l, a, e, h, h1, h2, h3 => ⟨h.1, h.2.1, h.2.2.1, side_snoc w l _ _ h.2.2.2 h1 h2 h3⟩
theorem allN_side (s : ByteArray) : ∀ k a acc, a ≤ s.size → s.size < k + a → SideW 0 a acc → ((allN s k a acc).2.1 = 0 ∧ (allN s k a acc).2.2 = 0 ∧ SideW 0 s.size (allN s k a acc).1) ∨ ((allN s k a acc).2.1 ≠ 0 ∧ (allN s k a acc).1 = [])
  | 0, a, acc, ha, hk, _ => by omega
  | k + 1, a, acc, ha, hk, hs => by
    rw [allN]
    by_cases h : s.size ≤ a
    · rw [if_pos h]
      obtain rfl : a = s.size := by omega
      exact .inl ⟨rfl, rfl, hs⟩
    · rw [if_neg h]
      have hE := nextA_end s a (by omega)
      generalize nextA s a = X at *
      obtain ⟨w, e, p⟩ := X
      simp only
      rcases hE with ⟨h1, h2, h3, h4, h5, h6⟩ | ⟨h1, _⟩
      · rw [if_neg (by simp only at h1; omega)]
        exact allN_side s k w.fin _ h6 (by simp only at h5; omega) (side_snoc w acc 0 a hs h4 h5 h3)
      · simp only at h1
        rw [if_pos h1]
        exact .inr ⟨h1, rfl⟩
end Go.Proofs.YthodphgbdmnpoaaGreat

/- The document's words: All. -/
namespace Go.Proofs.YthodphgbdmnpoaaGreat
open Go.RowKit BS

theorem info9w : (Tryz.prog.info? 57).map (fun i => (i.zero, i.size, i.bytes)) = some (some (.agg #[.int .i64 0, .int .i64 0, .int .i64 0, .int .u64 0, .int .u64 0, .int .u64 0, .int .u64 0, .int .i64 0, .int .i64 0]), 9, 72) := by kernel_rfl
def woCells (l : List WN) : List Value := l.flatMap fun w => (woA w).toList
theorem woCells_snoc (l : List WN) (w : WN) : woCells (l ++ [w]) = woCells l ++ (woA w).toList := by simp [woCells]
theorem woA_len (w : WN) : (woA w).toList.length = 9 := rfl
theorem woCells_len (l : List WN) : (woCells l).length = l.length * 9 := by
  induction l with
  | nil => rfl
  | cons w l ih => rw [woCells, List.flatMap_cons, List.length_append, woA_len]; unfold woCells at ih; rw [ih]; simp; omega
theorem woCells_get (l : List WN) (i j : Nat) (h : i < l.length) (hj : j < 9) : (woCells l)[i * 9 + j]? = (woA l[i])[j]? := by
  induction l generalizing i with
  | nil => simp at h
  | cons w l ih =>
    rw [woCells, List.flatMap_cons]
    cases i with
    | zero =>
      rw [List.getElem?_append_left (by rw [woA_len]; omega)]
      simp
    | succ i =>
      rw [List.getElem?_append_right (by rw [woA_len]; omega), woA_len, show (i + 1) * 9 + j - 9 = i * 9 + j by omega]
      have := ih i (by simpa using h)
      unfold woCells at this
      rw [this]
      rfl
end Go.Proofs.YthodphgbdmnpoaaGreat

/- The laws of stage 5: what they want of the package lex; sure, LexTells. -/
namespace Go.Proofs.YthodphgbdmnpoaaGreat
open Go.RowKit BS

/-- A slice of words. -/
def WordsAt (l : List WN) (v : Value) (W : World) : Prop :=
  ∃ a cap, v = .slice a l.length cap ∧ (l ≠ [] → ∃ g, a = some ⟨g, 0, none⟩ ∧ g < W.heap.size ∧ ∀ i (h : i < l.length) j, j < 9 → W.cell? ⟨g, i * 9 + j, none⟩ = (woA l[i])[j]?)
theorem WordsAt.below {l : List WN} {v : Value} {W W' : World} (h : WordsAt l v W) (hb : Below W.heap.size W W') : WordsAt l v W' := by
  obtain ⟨a, cap, e, h⟩ := h
  refine ⟨a, cap, e, fun hne => ?_⟩
  obtain ⟨g, e, hg, hc⟩ := h hne
  exact ⟨g, e, Nat.lt_of_lt_of_le hg hb.size, fun i hi j hj => (hb.cell (p := ⟨g, i * 9 + j, none⟩) hg).trans (hc i hi j hj)⟩
theorem WordsAt.alloc {l : List WN} {v : Value} {W : World} (h : WordsAt l v W) (o : Obj) : WordsAt l v (W.alloc o) := h.below ((Below.refl _ _).alloc (Nat.le_refl _) o)
theorem words_of_owns {base : Nat} {e : TypeId} {v : Value} {l : List WN} {W : World} (h : W.ownsRow base e 9 v l.length (woCells l)) : WordsAt l v W := by
  rcases h.2 with ⟨rfl, h0⟩ | ⟨g, cap, cur, rfl, hb, hg, _, _, _, _⟩
  · exact ⟨none, 0, by rw [h0], fun hne => absurd (List.eq_nil_of_length_eq_zero h0) hne⟩
  · exact ⟨_, cap, rfl, fun _ => ⟨g, rfl, (Array.getElem?_eq_some_iff.1 hg).1, fun i hi j hj => (h.cellAt (i * 9 + j) (by omega)).trans (woCells_get l i j hi hj)⟩⟩

/-- What Lack must bring about. -/
def LackW (s : ByteArray) (at' : Int) (l : ByteArray) : Prop :=
  ((nextN s at').2.1 ≠ 2 → l = eT) ∧ ((nextN s at').2.1 = 2 → 0 < l.size ∧ l.size ≤ 200 ∧ ∃ x : WN, nextN (s ++ l) at' = (x, 0, 0) ∧ (x.pos : Int) = at' ∧ x.fin = (s ++ l).size)
/-! ### sure -/
def sA5 : ByteArray := ⟨#[97, 123, 50, 125, 124, 91, 98, 99, 93]⟩
def sB5 : ByteArray := ⟨#[97, 94]⟩
theorem sA5_len : (wordsN sA5).1.length = 4 := by decide +kernel
theorem sA5_w0 : ((wordsN sA5).1[0]?).map (fun w => w.set) = some (range 97 97) := by decide +kernel
theorem sA5_w1 : ((wordsN sA5).1[1]?).map (fun w => (w.kind, w.n)) = some (5, 2) := by decide +kernel
theorem sA5_w3 : ((wordsN sA5).1[3]?).map (fun w => w.fin) = some 9 := by decide +kernel
theorem sA5_e : (wordsN sA5).2 = (0, 0) := by decide +kernel
theorem sB5_e : (wordsN sB5).2 = (3, 2) := by decide +kernel
theorem text97 : ofT (textW (range 97 97)) = ⟨#[97]⟩ := by decide +kernel
/-! ### LexTells -/
end Go.Proofs.YthodphgbdmnpoaaGreat

/- The developers' brackets: restOfName, named. -/
namespace Go.Proofs.YthodphgbdmnpoaaGreat
open Go.RowKit Go.Shelf BS

def cutP (s p : ByteArray) : ByteArray := if pfx s p = true then s.extract p.size s.size else s
set_option maxRecDepth 100000 in
set_option maxHeartbeats 1000000 in
theorem scp_calls (s p : ByteArray) (hs : s.size ≤ 9223372036854775807) (hp : p.size ≤ 9223372036854775807) (w : World) : Calls Tryz.prog 133 #[.string s, .string p] w fun e w' => e = .returned (.tuple #[.string (cutP s p), .bool (pfx s p)]) ∧ w = w' := by
  cases hq : pfx s p with
  | true =>
    have HQ := Lib.hid hq
    have hl : p.size ≤ s.size := (pfx_bt hq).1
    have hC := Lib.hid (show cutP s p = s.extract p.size s.size by unfold cutP; rw [if_pos hq])
    clear hq
    go_enter Tryz.func133, Tryz.ntmps133
    go_wp2_with (go_at_call 132; refine (hp1_calls s p hs hp _).mono ?_; rintro e w' ⟨rfl, rfl⟩; rw [HQ.out])
    go_ret2
    exact ⟨by rw [hC.out] <;> rfl, rfl⟩
  | false =>
    have HQ := Lib.hid hq
    have hC := Lib.hid (show cutP s p = s by unfold cutP; rw [if_neg (by rw [hq]; decide)])
    clear hq
    go_enter Tryz.func133, Tryz.ntmps133
    go_wp2_with (go_at_call 132; refine (hp1_calls s p hs hp _).mono ?_; rintro e w' ⟨rfl, rfl⟩; rw [HQ.out])
    go_ret2
    exact ⟨by rw [hC.out] <;> rfl, rfl⟩
set_option maxRecDepth 100000 in
set_option maxHeartbeats 1000000 in
theorem cp_calls (s p : ByteArray) (hs : s.size ≤ 9223372036854775807) (hp : p.size ≤ 9223372036854775807) (w : World) : Calls Tryz.prog 129 #[.string s, .string p] w fun e w' => e = .returned (.tuple #[.string (cutP s p), .bool (pfx s p)]) ∧ w = w' := by
  go_enter Tryz.func129, Tryz.ntmps129
  go_wp2_with (go_at_call 133; refine (scp_calls s p hs hp _).mono ?_; rintro e w' ⟨rfl, rfl⟩)
  go_ret2
  exact ⟨rfl, rfl⟩

theorem restD_at (l : ByteArray) (k : Nat) (hk : k < 12) (hf : ∀ j, j < k → pfx (tE j).1 l = false) (h : pfx (tE k).1 l = true) : restD l = cutP (tE k).1 l := by
  have h1 : (tabL.find? fun e => pfx e.1 l) = some (tE k) := by
    rw [tE_eq k hk]
    refine find_at _ tabL k hk (fun j hj => ?_) ?_
    · have := hf j hj
      rwa [tE_eq j (by omega)] at this
    · rwa [tE_eq k hk] at h
  rw [restD, h1, cutP, if_pos h]; rfl
theorem restD_not (l : ByteArray) (hf : ∀ j, j < 12 → pfx (tE j).1 l = false) : restD l = eT := by
  have h1 : (tabL.find? fun e => pfx e.1 l) = none := by
    refine find_not _ tabL fun j hj => ?_
    have := hf j hj
    rwa [tE_eq j hj] at this
  rw [restD, h1]; rfl

theorem cutP_size (s p : ByteArray) : (cutP s p).size ≤ s.size := by
  unfold cutP; split
  · rw [ByteArray.size_extract]; omega
  · exact Nat.le_refl _
theorem restD_size (l : ByteArray) : (restD l).size ≤ 16 := by
  by_cases h : ∀ j, j < 12 → pfx (tE j).1 l = false
  · rw [restD_not l h]; decide
  · obtain ⟨k, hk, hf, hp⟩ : ∃ k, k < 12 ∧ (∀ j, j < k → pfx (tE j).1 l = false) ∧ pfx (tE k).1 l = true := by
      refine Decidable.byContradiction fun hc => h fun j => ?_
      induction j using Nat.strongRecOn with
      | _ j ih =>
        intro hj
        cases hp : pfx (tE j).1 l with
        | false => rfl
        | true => exact absurd ⟨j, hj, fun i hi => ih i hi (by omega), hp⟩ hc
    rw [restD_at l k hk hf hp]
    exact Nat.le_trans (cutP_size _ _) (name_len k hk).1

set_option maxRecDepth 100000 in
set_option maxHeartbeats 4000000 in
theorem rest_calls (s : ByteArray) (hs : s.size ≤ 9223372036854775807) (w : World) : Calls Tryz.prog 124 #[.string s] w fun e w' => e = .returned (.string (restD s)) ∧ Below w.heap.size w w' := by
  go_enter Tryz.func124, Tryz.ntmps124
  go_wp2_with fail
  refine (cNames_calls _).mono ?_
  rintro e w2 ⟨g, rfl, ⟨hg, hN⟩, hb2⟩
  have HN := Lib.hid hN
  clear hN hg
  go_wp2_with fail
  go_loopw [9] (fun i wr => ∃ k : Nat, k ≤ 12 ∧ i = .int .i64 k ∧ (∀ j, j < k → pfx (tE j).1 s = false) ∧ w2 = wr) (fun i _ => 12 - (intOf i).toNat)
  case atStart => exact ⟨0, by omega, rfl, fun j hj => by omega, rfl⟩
  case round =>
    obtain ⟨k, hk, rfl, hno, rfl⟩ := hrel
    have HNO := Lib.hid hno
    clear hno
    by_cases hkl : k < 12
    · have hcn := HN.out.cell k
      rw [namV_get k hkl] at hcn
      have hnz := tE_size k hkl
      cases hq : pfx (tE k).1 s with
      | true =>
        have HS := Lib.hid (restD_at s k hkl HNO.out hq)
        generalize (tE k).1 = nm at *
        have HQ := Lib.hid hq
        clear hq
        go_wp2_with (go_at_call 129; refine (cp_calls nm s hnz hs _).mono ?_; rintro e w' ⟨rfl, rfl⟩; rw [HQ.out])
        go_ret
        exact ⟨by rw [HS.out] <;> rfl, hb2⟩
      | false =>
        have HQ := Lib.hid hq
        clear hq
        generalize hnm : (tE k).1 = nm at hcn hnz
        have HNM := Lib.hid hnm
        clear hnm
        go_wp2_with (go_at_call 129; refine (cp_calls nm s hnz hs _).mono ?_; rintro e w' ⟨rfl, rfl⟩; rw [← HNM.out, HQ.out])
        go_roundw
        case rel =>
          refine ⟨k + 1, by omega, by simp, fun j hj => ?_, trivial⟩
          by_cases hjk : j = k
          · subst hjk; exact HQ.out
          · exact HNO.out j (by omega)
        case measure => simp [intOf]; omega
    · obtain rfl : k = 12 := by omega
      have HS := Lib.hid (restD_not s HNO.out)
      go_wp2
      go_ret
      exact ⟨by rw [HS.out]; rfl, hb2⟩

theorem nmEnd_on (s : ByteArray) (a n e : Nat) (h : begB (s.extract a (e + 1)) = true) : nmEnd s a (n + 1) e = nmEnd s a n (e + 1) := by rw [nmEnd, if_pos h]
theorem nmEnd_off (s : ByteArray) (a n e : Nat) (h : begB (s.extract a (e + 1)) = false) : nmEnd s a (n + 1) e = e := by rw [nmEnd, if_neg (by rw [h]; decide)]
theorem nmEnd_le (s : ByteArray) (a : Nat) : ∀ n e, e ≤ nmEnd s a n e ∧ nmEnd s a n e ≤ e + n
  | 0, e => ⟨Nat.le_refl _, Nat.le_refl _⟩
  | n + 1, e => by
    rw [nmEnd]
    split
    · have := nmEnd_le s a n (e + 1)
      omega
    · omega

set_option maxRecDepth 100000 in
set_option maxHeartbeats 8000000 in
theorem named_calls (s : ByteArray) (hs : s.size ≤ 1000000) (a : Nat) (ha : a ≤ s.size) (w : World) :
    Calls Tryz.prog 120 #[.string s, .int .i64 a] w fun en w' => en = .returned (.agg (ptA (namedD s a))) ∧ Below w.heap.size w w' := by
  have HR := Lib.hid (Blk.new w (ptI 0 0 0 eT) 156)
  have HB : Hid (Below w.heap.size w (w.alloc (.cells (ptI 0 0 0 eT) 156))) := Lib.hid (by go_grown)
  have hz : w.heap.size + 1 ≤ (w.alloc (.cells (ptI 0 0 0 eT) 156)).heap.size := by simp
  have HG := Lib.hid (show namedD s a = behindD s a (nmEnd s a (s.size - a) a) from rfl)
  have hE := nmEnd_le s a (s.size - a) a
  generalize hn : nmEnd s a (s.size - a) a = E at HG hE
  have HN := Lib.hid hn
  have hE2 : E ≤ s.size := by omega
  have hE1 := hE.1
  clear hn hE
  go_enter Tryz.func120, Tryz.ntmps120
  go_upto_region 1 with fail
  have e0 : w.alloc (.cells #[.int .u64 0, .int .u64 0, .int .u64 0, .int .u64 0, .int .i64 0, .int .i64 0, .string ⟨#[]⟩] 156) = w.alloc (.cells (ptI 0 0 0 eT) 156) := rfl
  rw [e0]
  clear e0
  generalize w.alloc (.cells (ptI 0 0 0 eT) 156) = w1 at *
  go_upto_block 0 with fail
  go_cut [5] from 9 to 22 (fun x wx => x = .int .i64 E ∧ Blk wx w.heap.size (ptI 0 0 0 eT) 156 ∧ Below w.heap.size w wx ∧ w.heap.size + 1 ≤ wx.heap.size)
  case first =>
    go_wp2_with fail
    go_loopw [5] (fun v wr => ∃ e : Nat, a ≤ e ∧ e ≤ s.size ∧ v = .int .i64 e ∧ nmEnd s a (s.size - e) e = E ∧ Blk wr w.heap.size (ptI 0 0 0 eT) 156 ∧ Below w.heap.size w wr ∧ w.heap.size + 1 ≤ wr.heap.size) (fun v _ => s.size - (intOf v).toNat)
    case atStart => exact ⟨a, Nat.le_refl _, ha, rfl, HN.out, HR.out, HB.out, hz⟩
    case round =>
      clear HR HB HN hz
      obtain ⟨e, he1, he2, rfl, hres, hR, hB, hz⟩ := hrel
      have HR := Lib.hid hR
      have HB := Lib.hid hB
      clear hR hB
      by_cases hl : e < s.size
      · obtain ⟨n, hn⟩ : ∃ n, s.size - e = n + 1 := ⟨s.size - e - 1, by omega⟩
        have hn' : n = s.size - (e + 1) := by omega
        rw [hn] at hres
        clear hn
        have HBE := Lib.hid (cBegins_calls (s.extract a (e + 1)) (by simp; omega))
        cases hbb : begB (s.extract a (e + 1)) with
        | false =>
          rw [nmEnd_off _ _ _ _ hbb] at hres
          rw [hbb] at HBE
          obtain rfl : e = E := hres
          clear hbb hn'
          go_wp2_with (go_at_call 122; refine (HBE.out _).mono ?_; rintro e' w' ⟨rfl, hb⟩; have hz := Nat.le_trans hz hb.size; have HR2 := Lib.hid (HR.out.below hb (Blk.lt HR.out)); have HB2 := Lib.hid (HB.out.trans (hb.mono (by omega))); clear HR HB hb; have HR := HR2; have HB := HB2; clear HR2 HB2)
          go_meet
          exact ⟨rfl, HR.out, HB.out, hz⟩
        | true =>
          rw [nmEnd_on _ _ _ _ hbb] at hres
          rw [hbb] at HBE
          have HRES := Lib.hid hres
          clear hres hbb
          go_wp2_with (go_at_call 122; refine (HBE.out _).mono ?_; rintro e' w' ⟨rfl, hb⟩; have hz := Nat.le_trans hz hb.size; have HR2 := Lib.hid (HR.out.below hb (Blk.lt HR.out)); have HB2 := Lib.hid (HB.out.trans (hb.mono (by omega))); clear HR HB hb; have HR := HR2; have HB := HB2; clear HR2 HB2)
          go_roundw
          case rel => exact ⟨e + 1, by omega, by omega, by simp, by rw [← hn']; exact HRES.out, HR.out, HB.out, hz⟩
          case measure => simp [intOf]; omega
      · obtain rfl : e = s.size := by omega
        rw [Nat.sub_self] at hres
        obtain rfl : s.size = E := hres
        go_wp2_with fail
        go_meet
        exact ⟨rfl, HR.out, HB.out, hz⟩
  case rest =>
  clear HR HB HN hz
  obtain ⟨rfl, hR, hB, hz⟩ := hcut
  have HR := Lib.hid hR
  have HB := Lib.hid hB
  clear hR hB
  have HOF := Lib.hid (cOf_calls (s.extract a E))
  have hg := HG.out
  unfold behindD at hg
  generalize ofS (s.extract a E).toList = c at hg HOF
  generalize ofB (s.extract a E).toList = ok at hg HOF
  clear HG
  have HG := Lib.hid hg
  clear hg
  go_wp2_with fail
  refine (HOF.out _).mono ?_
  rintro e w2 ⟨rfl, hb⟩
  have HR2 := Lib.hid (HR.out.below hb (Blk.lt HR.out))
  have HB2 := Lib.hid (HB.out.trans (hb.mono (by omega)))
  have hz2 := Nat.le_trans hz hb.size
  clear HR HB hz hb
  have HR := HR2
  have HB := HB2
  have hz := hz2
  clear HR2 HB2 hz2
  clear HOF
  go_upto_region 5 with fail
  have HC := Lib.hid (Blk.new w2 (setA c) 34)
  replace HR := Lib.hid (HR.out.alloc (.cells #[.int .u64 (wd c 0), .int .u64 (wd c 1), .int .u64 (wd c 2), .int .u64 (wd c 3)] 34))
  replace HB := Lib.hid (HB.out.alloc (by omega) (.cells #[.int .u64 (wd c 0), .int .u64 (wd c 1), .int .u64 (wd c 2), .int .u64 (wd c 3)] 34))
  replace HC : Hid (Blk (w2.alloc (.cells #[.int .u64 (wd c 0), .int .u64 (wd c 1), .int .u64 (wd c 2), .int .u64 (wd c 3)] 34)) w2.heap.size (setA c) 34) := HC
  have hz2 : w.heap.size + 1 ≤ (w2.alloc (.cells #[.int .u64 (wd c 0), .int .u64 (wd c 1), .int .u64 (wd c 2), .int .u64 (wd c 3)] 34)).heap.size := by simp; omega
  clear hz
  have hz := hz2
  clear hz2
  generalize w2.alloc (.cells #[.int .u64 (wd c 0), .int .u64 (wd c 1), .int .u64 (wd c 2), .int .u64 (wd c 3)] 34) = w3 at *
  generalize w2.heap.size = B at *
  by_cases h1 : E = s.size
  · subst h1
    have HRES := Lib.hid (show namedD s a = shortD s (restD (s.extract a s.size) ++ colT) by rw [HG.out, if_pos rfl])
    have HRC := Lib.hid (rest_calls (s.extract a s.size) (by simp; omega))
    have hl := restD_size (s.extract a s.size)
    generalize restD (s.extract a s.size) = l at HRES HRC hl
    have hadd : ∀ w, (Op.stringOp .add l ⟨#[58, 93, 93]⟩).run Tryz.prog w = .ok (.string (l ++ colT)) w := fun w => run_string_add_sum w l colT (by rw [show colT.size = 3 from rfl]; omega)
    go_wp2_with fail
    refine (HRC.out _).mono ?_
    rintro e w4 ⟨rfl, hb⟩
    have HR2 := Lib.hid (HR.out.below hb (Blk.lt HR.out))
    have HB2 := Lib.hid (HB.out.trans (hb.mono (by omega)))
    have hz2 := Nat.le_trans hz hb.size
    clear HR HB hz hb
    have HR := HR2
    have HB := HB2
    have hz := hz2
    clear HR2 HB2 hz2
    go_wp2_with fail
    refine (short_calls _ _ _).mono ?_
    rintro e w5 ⟨rfl, hb⟩
    have HR2 := Lib.hid (HR.out.below hb (Blk.lt HR.out))
    have HB2 := Lib.hid (HB.out.trans (hb.mono (by omega)))
    have hz2 := Nat.le_trans hz hb.size
    clear HR HB hz hb
    have HR := HR2
    have HB := HB2
    have hz := hz2
    clear HR2 HB2 hz2
    go_wp2_with ((with_reducible refine wpList_store_st (o := ⟨none, .store 156 _ _, _, _, _, _⟩) rfl 156 _ _ rfl w.heap.size rfl rfl (run_storeAt_row _ w.heap.size 156 156 (ptI 0 0 0 eT) (ptI 0 s.size 2 (l ++ colT)) ?_ ?_ ?_ ?_) ?_); exact HR.out; exact infoPt; rfl; exact pt_one _ _ _ _)
    exact bodyPost_ret (v := .agg (ptI 0 s.size 2 (l ++ colT))) (results_cell_row rfl _ _ w.heap.size 156 (ptI 0 s.size 2 (l ++ colT)) (0, 0) _ rfl (Blk.setRow HR.out) Tryz.underlying156 rfl infoPt) rfl ⟨by rw [HRES.out] <;> rfl, below_row HB.out (by omega) _⟩
  have hE3 : E < s.size := by omega
  have q1 : ((E : Int) == (s.size : Int)) = false := by rw [beq_eq_false_iff_ne]; omega
  have b0 : s[E].toNat = bt s E := (bt_eq s E hE3).symm
  have hg := HG.out
  rw [if_neg h1] at hg
  clear HG
  cases ok with
  | false =>
    rw [if_pos (.inl rfl)] at hg
    have HRES := Lib.hid hg
    clear hg
    go_wp2_with ((with_reducible refine wpList_store_st (o := ⟨none, .store 156 _ _, _, _, _, _⟩) rfl 156 _ _ rfl w.heap.size rfl rfl (run_storeAt_row _ w.heap.size 156 156 (ptI 0 0 0 eT) (ptI 0 ((E : Int) + 1) 5 eT) ?_ ?_ ?_ ?_) ?_); exact HR.out; exact infoPt; rfl; exact pt_one _ _ _ _)
    exact bodyPost_ret (v := .agg (ptI 0 ((E : Int) + 1) 5 eT)) (results_cell_row rfl _ _ w.heap.size 156 (ptI 0 ((E : Int) + 1) 5 eT) (0, 0) _ rfl (Blk.setRow HR.out) Tryz.underlying156 rfl infoPt) rfl ⟨by rw [HRES.out] <;> rfl, below_row HB.out (by omega) _⟩
  | true =>
  by_cases h2 : bt s E ≠ 58
  · rw [if_pos (.inr h2)] at hg
    have q2 : ((bt s E : Int) != 58) = true := by rw [bne_iff_ne]; omega
    have HRES := Lib.hid hg
    clear hg h2
    go_wp2_with ((with_reducible refine wpList_store_st (o := ⟨none, .store 156 _ _, _, _, _, _⟩) rfl 156 _ _ rfl w.heap.size rfl rfl (run_storeAt_row _ w.heap.size 156 156 (ptI 0 0 0 eT) (ptI 0 ((E : Int) + 1) 5 eT) ?_ ?_ ?_ ?_) ?_); exact HR.out; exact infoPt; rfl; exact pt_one _ _ _ _)
    exact bodyPost_ret (v := .agg (ptI 0 ((E : Int) + 1) 5 eT)) (results_cell_row rfl _ _ w.heap.size 156 (ptI 0 ((E : Int) + 1) 5 eT) (0, 0) _ rfl (Blk.setRow HR.out) Tryz.underlying156 rfl infoPt) rfl ⟨by rw [HRES.out] <;> rfl, below_row HB.out (by omega) _⟩
  have q2 : ((bt s E : Int) != 58) = false := by have : bt s E = 58 := Decidable.not_not.1 h2; rw [this]; rfl
  rw [if_neg (by rintro (h | h); exact absurd h (by decide); exact h2 h)] at hg
  by_cases h3 : E + 1 = s.size
  · rw [if_pos h3] at hg
    have q3 : ((E : Int) + 1 == (s.size : Int)) = true := by rw [beq_iff_eq]; omega
    have HRES := Lib.hid hg
    clear hg h2 h3
    go_wp2_with fail
    refine (short_calls _ _ _).mono ?_
    rintro e w5 ⟨rfl, hb⟩
    have HR2 := Lib.hid (HR.out.below hb (Blk.lt HR.out))
    have HB2 := Lib.hid (HB.out.trans (hb.mono (by omega)))
    have hz2 := Nat.le_trans hz hb.size
    clear HR HB hz hb
    have HR := HR2
    have HB := HB2
    have hz := hz2
    clear HR2 HB2 hz2
    go_wp2_with ((with_reducible refine wpList_store_st (o := ⟨none, .store 156 _ _, _, _, _, _⟩) rfl 156 _ _ rfl w.heap.size rfl rfl (run_storeAt_row _ w.heap.size 156 156 (ptI 0 0 0 eT) (ptI 0 s.size 2 twoT) ?_ ?_ ?_ ?_) ?_); exact HR.out; exact infoPt; rfl; exact pt_one _ _ _ _)
    exact bodyPost_ret (v := .agg (ptI 0 s.size 2 twoT)) (results_cell_row rfl _ _ w.heap.size 156 (ptI 0 s.size 2 twoT) (0, 0) _ rfl (Blk.setRow HR.out) Tryz.underlying156 rfl infoPt) rfl ⟨by rw [HRES.out] <;> rfl, below_row HB.out (by omega) _⟩
  have q3 : ((E : Int) + 1 == (s.size : Int)) = false := by rw [beq_eq_false_iff_ne]; omega
  rw [if_neg h3] at hg
  have hE4 : E + 1 < s.size := by omega
  have b1 : s[E + 1].toNat = bt s (E + 1) := (bt_eq s (E + 1) hE4).symm
  by_cases h4 : bt s (E + 1) ≠ 93
  · rw [if_pos h4] at hg
    have q4 : ((bt s (E + 1) : Int) != 93) = true := by rw [bne_iff_ne]; omega
    have HRES := Lib.hid hg
    clear hg h2 h4
    go_wp2_with ((with_reducible refine wpList_store_st (o := ⟨none, .store 156 _ _, _, _, _, _⟩) rfl 156 _ _ rfl w.heap.size rfl rfl (run_storeAt_row _ w.heap.size 156 156 (ptI 0 0 0 eT) (ptI 0 ((E : Int) + 2) 3 eT) ?_ ?_ ?_ ?_) ?_); exact HR.out; exact infoPt; rfl; exact pt_one _ _ _ _)
    exact bodyPost_ret (v := .agg (ptI 0 ((E : Int) + 2) 3 eT)) (results_cell_row rfl _ _ w.heap.size 156 (ptI 0 ((E : Int) + 2) 3 eT) (0, 0) _ rfl (Blk.setRow HR.out) Tryz.underlying156 rfl infoPt) rfl ⟨by rw [HRES.out] <;> rfl, below_row HB.out (by omega) _⟩
  have q4 : ((bt s (E + 1) : Int) != 93) = false := by have : bt s (E + 1) = 93 := Decidable.not_not.1 h4; rw [this]; rfl
  rw [if_neg h4] at hg
  have HRES := Lib.hid hg
  clear hg h2 h4
  obtain ⟨⟨d0, d1, d2, d3⟩, _⟩ := HC.out.cells4
  go_wp2_with ((with_reducible refine wpList_store_st (o := ⟨none, .store 156 _ _, _, _, _, _⟩) rfl 156 _ _ rfl w.heap.size rfl rfl (run_storeAt_row _ w.heap.size 156 156 (ptI 0 0 0 eT) (ptI c ((E : Int) + 2) 0 eT) ?_ ?_ ?_ ?_) ?_); exact HR.out; exact infoPt; rfl; exact pt_one _ _ _ _)
  exact bodyPost_ret (v := .agg (ptI c ((E : Int) + 2) 0 eT)) (results_cell_row rfl _ _ w.heap.size 156 (ptI c ((E : Int) + 2) 0 eT) (0, 0) _ rfl (Blk.setRow HR.out) Tryz.underlying156 rfl infoPt) rfl ⟨by rw [HRES.out] <;> rfl, below_row HB.out (by omega) _⟩
end Go.Proofs.YthodphgbdmnpoaaGreat

/- The developers' brackets: thing, things, whole, Read, Lack. -/
namespace Go.Proofs.YthodphgbdmnpoaaGreat
open Go.RowKit Go.Shelf BS

theorem dByte_one (W : World) (t : TypeId) (n : Int) (x : Fin 256) (hn : n = (x.val : Int)) : BytesAt (W.alloc (.cells #[.int .u8 n] t)).heap.size (W.alloc (.cells #[.int .u8 n] t)) (.slice (some ⟨W.heap.size, 0, none⟩) 1 1) [x] := by
  subst hn
  refine ⟨_, 1, rfl, fun _ => ⟨W.heap.size, 0, rfl, by simp, ?_⟩⟩
  intro j hj
  obtain rfl : j = 0 := by simpa using hj
  exact (Blk.new W _ t).cell 0
theorem with_one : ∀ x : Fin 256, withL 0 [x] = range x.val x.val := by decide +kernel
theorem dWith_calls (W : World) (t : TypeId) (b : Nat) (hb : b < 256) : Calls Tryz.prog 108 #[setV 0, .slice (some ⟨W.heap.size, 0, none⟩) 1 1] (W.alloc (.cells #[.int .u8 b] t)) fun e W' => e = .returned (setV (range b b)) ∧ Below (W.alloc (.cells #[.int .u8 b] t)).heap.size (W.alloc (.cells #[.int .u8 b] t)) W' := by
  have h := callsIn_wide.1 (with_in 3 (by omega) 0 _ (some ⟨W.heap.size, 0, none⟩) 1 1 rfl [⟨b, hb⟩] (by simp) _ (dByte_one W t b ⟨b, hb⟩ rfl))
  rw [with_one] at h
  exact h

set_option maxRecDepth 100000 in
set_option maxHeartbeats 8000000 in
theorem thingD_calls (s : ByteArray) (hs : s.size ≤ 1000000) (i : Nat) (hi : i < s.size) (w : World) :
    Calls Tryz.prog 118 #[.string s, .int .i64 i] w fun en w' => en = .returned (.agg (ptA (thingD s i))) ∧ Below w.heap.size w w' := by
  have HR := Lib.hid (Blk.new w (ptI 0 0 0 eT) 156)
  have HB : Hid (Below w.heap.size w (w.alloc (.cells (ptI 0 0 0 eT) 156))) := Lib.hid (by go_grown)
  have hz : w.heap.size + 1 ≤ (w.alloc (.cells (ptI 0 0 0 eT) 156)).heap.size := by simp
  have h0 : s[i].toNat = bt s i := (bt_eq s i hi).symm
  have hl0 := bt_lt s i
  go_enter Tryz.func118, Tryz.ntmps118
  go_upto_region 1 with fail
  have e0 : w.alloc (.cells #[.int .u64 0, .int .u64 0, .int .u64 0, .int .u64 0, .int .i64 0, .int .i64 0, .string ⟨#[]⟩] 156) = w.alloc (.cells (ptI 0 0 0 eT) 156) := rfl
  rw [e0]
  clear e0
  generalize w.alloc (.cells (ptI 0 0 0 eT) 156) = w1 at *
  go_cut [5] from 6 to 15 (fun x wx => x = .bool (decide (bt s i = 91 ∧ isN s (i + 1) [58] = true)) ∧ w1 = wx)
  case first =>
    cases hc : decide (bt s i = 91) with
    | true =>
      have hc' : bt s i = 91 := of_decide_eq_true hc
      have q1 : ((bt s i : Int) == 91) = true := by rw [beq_iff_eq]; omega
      have HC := Lib.hid hc'
      clear hc hc'
      have HA := isNat_calls s hs (i + 1) [58] (by decide)
      rw [show ((i + 1 : Nat) : Int) = (i : Int) + 1 from rfl, show ofT [58] = ⟨#[58]⟩ from rfl] at HA
      have HA2 := Lib.hid HA
      clear HA
      go_wp2_with (go_at_call 115; refine (HA2.out _).mono ?_; rintro e w' ⟨rfl, rfl⟩)
      go_meet
      exact ⟨by simp [HC.out], rfl⟩
    | false =>
      have hc' : ¬ bt s i = 91 := of_decide_eq_false hc
      have q1 : ((bt s i : Int) == 91) = false := by rw [beq_eq_false_iff_ne]; omega
      have HC := Lib.hid hc'
      clear hc hc'
      go_wp2_with fail
      go_meet
      exact ⟨by simp [HC.out], rfl⟩
  case rest =>
  obtain ⟨rfl, rfl⟩ := hcut
  by_cases hA : bt s i = 91 ∧ isN s (i + 1) [58] = true
  · have q2 : decide (bt s i = 91 ∧ isN s (i + 1) [58] = true) = true := decide_eq_true hA
    have hg : thingD s i = namedD s (i + 2) := by unfold thingD; rw [if_pos hA]
    rw [q2]
    have hlt := isN_lt hA.2
    clear q2 hA
    have HNC := Lib.hid (named_calls s hs (i + 2) (by omega))
    generalize namedD s (i + 2) = R at hg HNC
    have HRES := Lib.hid hg
    clear hg
    obtain ⟨t', p', e', l'⟩ := R
    replace HNC : Hid (∀ w, Calls Tryz.prog _ _ w fun en w' => en = .returned (.agg (ptI t' p' e' l')) ∧ Below w.heap.size w w') := HNC
    go_wp2_with fail
    refine (HNC.out _).mono ?_
    rintro e w2 ⟨rfl, hb⟩
    have HR2 := Lib.hid (HR.out.below hb (Blk.lt HR.out))
    have HB2 := Lib.hid (HB.out.trans (hb.mono (by omega)))
    have hz2 := Nat.le_trans hz hb.size
    clear HR HB hz hb
    have HR := HR2
    have HB := HB2
    have hz := hz2
    clear HR2 HB2 hz2
    go_wp2_with ((with_reducible refine wpList_store_st (o := ⟨none, .store 156 _ _, _, _, _, _⟩) rfl 156 _ _ rfl w.heap.size rfl rfl (run_storeAt_row _ w.heap.size 156 156 (ptI 0 0 0 eT) (ptI t' p' e' l') ?_ ?_ ?_ ?_) ?_); exact HR.out; exact infoPt; rfl; exact pt_one _ _ _ _)
    exact bodyPost_ret (v := .agg (ptI t' p' e' l')) (results_cell_row rfl _ _ w.heap.size 156 (ptI t' p' e' l') (0, 0) _ rfl (Blk.setRow HR.out) Tryz.underlying156 rfl infoPt) rfl ⟨by rw [HRES.out] <;> rfl, below_row HB.out (by omega) _⟩
  have q2 : decide (bt s i = 91 ∧ isN s (i + 1) [58] = true) = false := decide_eq_false hA
  rw [q2]
  clear q2
  go_upto_region 3 with fail
  go_cut [20] from 21 to 30 (fun x wx => x = .bool (decide (bt s i = 91 ∧ isN s (i + 1) [46, 61] = true)) ∧ w1 = wx)
  case first =>
    cases hc : decide (bt s i = 91) with
    | true =>
      have hc' : bt s i = 91 := of_decide_eq_true hc
      have q1 : ((bt s i : Int) == 91) = true := by rw [beq_iff_eq]; omega
      have HC := Lib.hid hc'
      clear hc hc'
      have HA := isNat_calls s hs (i + 1) [46, 61] (by decide)
      rw [show ((i + 1 : Nat) : Int) = (i : Int) + 1 from rfl, show ofT [46, 61] = ⟨#[46, 61]⟩ from rfl] at HA
      have HA2 := Lib.hid HA
      clear HA
      go_wp2_with (go_at_call 115; refine (HA2.out _).mono ?_; rintro e w' ⟨rfl, rfl⟩)
      go_meet
      exact ⟨by simp [HC.out], rfl⟩
    | false =>
      have hc' : ¬ bt s i = 91 := of_decide_eq_false hc
      have q1 : ((bt s i : Int) == 91) = false := by rw [beq_eq_false_iff_ne]; omega
      have HC := Lib.hid hc'
      clear hc hc'
      go_wp2_with fail
      go_meet
      exact ⟨by simp [HC.out], rfl⟩
  case rest =>
  obtain ⟨rfl, rfl⟩ := hcut
  by_cases hE : bt s i = 91 ∧ isN s (i + 1) [46, 61] = true
  · have q2 : decide (bt s i = 91 ∧ isN s (i + 1) [46, 61] = true) = true := decide_eq_true hE
    have HRES := Lib.hid (show thingD s i = badD 3 (i + 2) by unfold thingD; rw [if_neg hA, if_pos hE])
    rw [q2]
    clear q2 hE hA
    go_wp2_with ((with_reducible refine wpList_store_st (o := ⟨none, .store 156 _ _, _, _, _, _⟩) rfl 156 _ _ rfl w.heap.size rfl rfl (run_storeAt_row _ w.heap.size 156 156 (ptI 0 0 0 eT) (ptI 0 ((i : Int) + 2) 3 eT) ?_ ?_ ?_ ?_) ?_); exact HR.out; exact infoPt; rfl; exact pt_one _ _ _ _)
    exact bodyPost_ret (v := .agg (ptI 0 ((i : Int) + 2) 3 eT)) (results_cell_row rfl _ _ w.heap.size 156 (ptI 0 ((i : Int) + 2) 3 eT) (0, 0) _ rfl (Blk.setRow HR.out) Tryz.underlying156 rfl infoPt) rfl ⟨by rw [HRES.out] <;> rfl, below_row HB.out (by omega) _⟩
  have q2 : decide (bt s i = 91 ∧ isN s (i + 1) [46, 61] = true) = false := decide_eq_false hE
  rw [q2]
  clear q2
  go_upto_region 5 with fail
  go_cut [34] from 35 to 52 (fun x wx => x = .bool (decide ((isN s (i + 1) [45] = true ∧ i + 2 < s.size) ∧ bt s (i + 2) ≠ 93)) ∧ w1 = wx)
  case first =>
    have HA := isNat_calls s hs (i + 1) [45] (by decide)
    rw [show ((i + 1 : Nat) : Int) = (i : Int) + 1 from rfl, show ofT [45] = ⟨#[45]⟩ from rfl] at HA
    cases hc : isN s (i + 1) [45] with
    | false =>
      rw [hc] at HA
      have HA2 := Lib.hid HA
      have HC := Lib.hid hc
      clear HA hc hA hE
      go_wp2_with (go_at_call 115; refine (HA2.out _).mono ?_; rintro e w' ⟨rfl, rfl⟩)
      go_meet
      exact ⟨by simp [HC.out], rfl⟩
    | true =>
      rw [hc] at HA
      have HA2 := Lib.hid HA
      have HC := Lib.hid hc
      clear HA hc hA hE
      by_cases hd : i + 2 < s.size
      · have q1 : decide ((i : Int) + 2 < (s.size : Int)) = true := by rw [decide_eq_true_eq]; omega
        have b2 : s[i + 2].toNat = bt s (i + 2) := (bt_eq s (i + 2) hd).symm
        cases hx : decide (bt s (i + 2) ≠ 93) with
        | true =>
          have hx' : bt s (i + 2) ≠ 93 := of_decide_eq_true hx
          have q3 : ((bt s (i + 2) : Int) != 93) = true := by rw [bne_iff_ne]; omega
          have HX := Lib.hid hx'
          have HD := Lib.hid hd
          clear hx hx'
          go_wp2_with (go_at_call 115; refine (HA2.out _).mono ?_; rintro e w' ⟨rfl, rfl⟩)
          go_meet
          exact ⟨by simp [HX.out, HD.out, HC.out], rfl⟩
        | false =>
          have hx' : bt s (i + 2) = 93 := Decidable.not_not.1 (of_decide_eq_false hx)
          have q3 : ((bt s (i + 2) : Int) != 93) = false := by rw [hx']; rfl
          have HX := Lib.hid hx'
          clear hx hx'
          go_wp2_with (go_at_call 115; refine (HA2.out _).mono ?_; rintro e w' ⟨rfl, rfl⟩)
          go_meet
          exact ⟨by simp [HX.out], rfl⟩
      · have q1 : decide ((i : Int) + 2 < (s.size : Int)) = false := by rw [decide_eq_false_iff_not]; omega
        have HD := Lib.hid hd
        clear hd
        go_wp2_with (go_at_call 115; refine (HA2.out _).mono ?_; rintro e w' ⟨rfl, rfl⟩)
        go_meet
        exact ⟨by simp [HD.out], rfl⟩
  case rest =>
  obtain ⟨rfl, rfl⟩ := hcut
  by_cases hF : (isN s (i + 1) [45] = true ∧ i + 2 < s.size) ∧ bt s (i + 2) ≠ 93
  · have q2 : decide ((isN s (i + 1) [45] = true ∧ i + 2 < s.size) ∧ bt s (i + 2) ≠ 93) = true := decide_eq_true hF
    have hg : thingD s i = betweenD s i := by unfold thingD; rw [if_neg hA, if_neg hE, if_pos hF]
    rw [q2]
    have HNC := Lib.hid (between_calls s hs i hF.1.2)
    clear q2 hF hA hE
    generalize betweenD s i = R at hg HNC
    have HRES := Lib.hid hg
    clear hg
    obtain ⟨t', p', e', l'⟩ := R
    replace HNC : Hid (∀ w, Calls Tryz.prog _ _ w fun en w' => en = .returned (.agg (ptI t' p' e' l')) ∧ Below w.heap.size w w') := HNC
    go_wp2_with fail
    refine (HNC.out _).mono ?_
    rintro e w2 ⟨rfl, hb⟩
    have HR2 := Lib.hid (HR.out.below hb (Blk.lt HR.out))
    have HB2 := Lib.hid (HB.out.trans (hb.mono (by omega)))
    have hz2 := Nat.le_trans hz hb.size
    clear HR HB hz hb
    have HR := HR2
    have HB := HB2
    have hz := hz2
    clear HR2 HB2 hz2
    go_wp2_with ((with_reducible refine wpList_store_st (o := ⟨none, .store 156 _ _, _, _, _, _⟩) rfl 156 _ _ rfl w.heap.size rfl rfl (run_storeAt_row _ w.heap.size 156 156 (ptI 0 0 0 eT) (ptI t' p' e' l') ?_ ?_ ?_ ?_) ?_); exact HR.out; exact infoPt; rfl; exact pt_one _ _ _ _)
    exact bodyPost_ret (v := .agg (ptI t' p' e' l')) (results_cell_row rfl _ _ w.heap.size 156 (ptI t' p' e' l') (0, 0) _ rfl (Blk.setRow HR.out) Tryz.underlying156 rfl infoPt) rfl ⟨by rw [HRES.out] <;> rfl, below_row HB.out (by omega) _⟩
  have q2 : decide ((isN s (i + 1) [45] = true ∧ i + 2 < s.size) ∧ bt s (i + 2) ≠ 93) = false := decide_eq_false hF
  rw [q2]
  have hg : thingD s i = okD (range (bt s i) (bt s i)) (i + 1) := by unfold thingD; rw [if_neg hA, if_neg hE, if_neg hF]
  have HWC := Lib.hid (fun W t => dWith_calls W t (bt s i) hl0)
  clear q2 hA hE hF
  generalize range (bt s i) (bt s i) = r at hg HWC
  have HRES := Lib.hid hg
  clear hg
  go_wp2_with fail
  have hz2 : w.heap.size + 1 ≤ (w1.alloc (.cells #[.int .u8 (bt s i)] 5)).heap.size := by simp; omega
  replace HR := Lib.hid (HR.out.alloc (.cells #[.int .u8 (bt s i)] 5))
  replace HB := Lib.hid (HB.out.alloc (by omega) (.cells #[.int .u8 (bt s i)] 5))
  clear hz
  have hz := hz2
  clear hz2
  refine Calls.mono (HWC.out w1 _) ?_
  rintro e w2 ⟨rfl, hb⟩
  have HR2 := Lib.hid (HR.out.below hb (Blk.lt HR.out))
  have HB2 := Lib.hid (HB.out.trans (hb.mono (by omega)))
  have hz2 := Nat.le_trans hz hb.size
  clear HR HB hz hb
  have HR := HR2
  have HB := HB2
  have hz := hz2
  clear HR2 HB2 hz2
  go_wp2_with ((with_reducible refine wpList_store_st (o := ⟨none, .store 156 _ _, _, _, _, _⟩) rfl 156 _ _ rfl w.heap.size rfl rfl (run_storeAt_row _ w.heap.size 156 156 (ptI 0 0 0 eT) (ptI r ((i : Int) + 1) 0 eT) ?_ ?_ ?_ ?_) ?_); exact HR.out; exact infoPt; rfl; exact pt_one _ _ _ _)
  exact bodyPost_ret (v := .agg (ptI r ((i : Int) + 1) 0 eT)) (results_cell_row rfl _ _ w.heap.size 156 (ptI r ((i : Int) + 1) 0 eT) (0, 0) _ rfl (Blk.setRow HR.out) Tryz.underlying156 rfl infoPt) rfl ⟨by rw [HRES.out] <;> rfl, below_row HB.out (by omega) _⟩

def OkD (s : ByteArray) (i : Nat) (p : DP) : Prop := p.err = 0 → i < p.fin ∧ p.fin ≤ s.size
theorem okD_bad (s : ByteArray) (i e p : Nat) : OkD s i (badD (e + 1) p) := fun h => by simp [badD] at h
theorem okD_short (s l : ByteArray) (i : Nat) : OkD s i (shortD s l) := fun h => by simp [shortD] at h
theorem behindD_ok (s : ByteArray) (a e i : Nat) (he : e ≤ s.size) (hi : i ≤ e) : OkD s i (behindD s a e) := by
  unfold behindD
  refine ite_ok _ (fun _ => okD_short _ _ _) (fun h1 => ?_)
  refine ite_ok _ (fun _ => okD_bad _ _ 4 _) (fun _ => ?_)
  refine ite_ok _ (fun _ => okD_short _ _ _) (fun h2 => ?_)
  refine ite_ok _ (fun _ => okD_bad _ _ 2 _) (fun _ _ => ⟨by simp only [okD]; omega, by simp only [okD]; omega⟩)
theorem namedD_ok (s : ByteArray) (a i : Nat) (ha : a ≤ s.size) (hi : i ≤ a) : OkD s i (namedD s a) := by
  have := nmEnd_le s a (s.size - a) a
  exact behindD_ok s a _ i (by omega) (by omega)
theorem betweenD_ok (s : ByteArray) (i : Nat) (h : i + 2 < s.size) : OkD s i (betweenD s i) := by
  unfold betweenD
  refine ite_ok _ (fun _ => okD_bad _ _ 3 _) (fun _ => ?_)
  exact ite_ok _ (fun _ => okD_bad _ _ 2 _) (fun _ _ => ⟨by simp only [okD]; omega, by simp only [okD]; omega⟩)
theorem thingD_ok (s : ByteArray) (i : Nat) (h : i < s.size) : OkD s i (thingD s i) := by
  unfold thingD
  refine ite_ok _ (fun h1 => namedD_ok _ _ _ (by have := isN_lt h1.2; omega) (by omega)) (fun _ => ?_)
  refine ite_ok _ (fun _ => okD_bad _ _ 2 _) (fun _ => ?_)
  exact ite_ok _ (fun h2 => betweenD_ok _ _ h2.1.2) (fun _ _ => ⟨by simp only [okD]; omega, by simp only [okD]; omega⟩)
end Go.Proofs.YthodphgbdmnpoaaGreat

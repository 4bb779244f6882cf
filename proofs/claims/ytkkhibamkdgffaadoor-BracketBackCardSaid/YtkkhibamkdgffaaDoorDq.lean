/- The developers' brackets: isAt, short, between. -/
import Derived.Test.YtkkhibamkdgffaaDoorDp
import Derived.Test.YtkkhibamkdgffaaDoorGr
import Derived.Lib.IndexAny
import Derived.Lib.Bytealg
import Derived.Lib.Hide
import Derived.WalkLawsBesides
import Derived.IntWalk
import Derived.BigQuiet
import Derived.Outline
import Derived.Deep.QuietTactic
import Derived.Deep.DeepCutAuto
import Derived.Laws.ResultCell
namespace Go.Proofs.YtkkhibamkdgffaaDoor
open Go.RowKit Go.Shelf BS

set_option maxRecDepth 100000 in
theorem sib_calls (s : ByteArray) (c : Int) (w : World) : Calls Tryd.prog 36 #[.string s, .int .u8 c] w fun e w' => e = .returned (.int .i64 (Lib.indexByte s.data.toList c.toNat.toUInt8)) ∧ w = w' := by
  go_enter Tryd.func36, Tryd.ntmps36
  go_wp2_with fail
  rw [run_callFunc_extern Tryd.func39 (by kernel_rfl) (by kernel_rfl) (by kernel_rfl) (e := Extern.BytealgIndexByte.indexByte) (by kernel_rfl), Lib.run_indexByteString]
  simp only [Result.andThen]
  rw [Oper.upon_value]
  go_wp2_with fail
  go_ret
  exact ⟨rfl, rfl⟩
set_option maxRecDepth 100000 in
theorem ib_calls (s : ByteArray) (c : Int) (w : World) : Calls Tryd.prog 30 #[.string s, .int .u8 c] w fun e w' => e = .returned (.int .i64 (Lib.indexByte s.data.toList c.toNat.toUInt8)) ∧ w = w' := by
  go_enter Tryd.func30, Tryd.ntmps30
  go_wp2_with (go_at_call 36; refine (sib_calls s c _).mono ?_; rintro e w' ⟨rfl, rfl⟩)
  go_ret
  exact ⟨rfl, rfl⟩
/-- Is a byte one of some: by what IndexByte tells. -/
theorem ib_eq (L : List Nat) (hL : ∀ x ∈ L, x < 256) (b : Nat) (hb : b < 256) : decide (0 ≤ Lib.indexByte (ofT L).data.toList ((b : Int)).toNat.toUInt8) = L.contains b := by
  rw [← Lib.contains_iff_indexByte]
  have e : (ofT L).data.toList = L.map UInt8.ofNat := by simp [ofT]
  rw [e]
  induction L with
  | nil => rfl
  | cons a L ih =>
    rw [List.map_cons, List.contains_cons, List.contains_cons, ih (fun x hx => hL x (List.mem_cons_of_mem _ hx)) (by simp [ofT])]
    congr 1
    have ha := hL a (List.mem_cons_self ..)
    rw [Bool.eq_iff_iff, beq_iff_eq, beq_iff_eq]
    constructor
    · intro h
      have h2 := congrArg UInt8.toNat h
      simp at h2
      omega
    · rintro rfl; simp

def isI (s : ByteArray) (i : Int) (L : List Nat) : Bool := if i < 0 then false else isN s i.toNat L
set_option maxRecDepth 100000 in
set_option maxHeartbeats 1000000 in
theorem isAt_calls (s : ByteArray) (_hs : s.size ≤ 60000) (i : Int) (L : List Nat) (hL : ∀ x ∈ L, x < 256) (w : World) : Calls Tryd.prog 25 #[.string s, .int .i64 i, .string (ofT L)] w fun e w' => e = .returned (.bool (isI s i L)) ∧ w = w' := by
  by_cases h0 : i < 0
  · have q : decide (0 ≤ i) = false := by rw [decide_eq_false_iff_not]; omega
    have hr : isI s i L = false := by unfold isI; rw [if_pos h0]
    rw [hr]
    go_enter Tryd.func25, Tryd.ntmps25
    go_wp2_with fail
    go_ret
    exact ⟨rfl, rfl⟩
  · obtain ⟨k, rfl⟩ : ∃ k : Nat, i = k := ⟨i.toNat, by omega⟩
    have hr : isI s k L = isN s k L := by unfold isI; rw [if_neg h0]; rfl
    rw [hr]
    clear hr h0
    by_cases h1 : k < s.size
    · have hi := ib_eq L hL (bt s k) (bt_lt s k)
      have hb0 : s[k].toNat = bt s k := (bt_eq s k h1).symm
      have hn : isN s k L = L.contains (bt s k) := by unfold isN; simp [h1]
      rw [hn, ← hi]
      have HB := Lib.hid (ib_calls (ofT L) (bt s k))
      generalize Lib.indexByte (ofT L).data.toList ((bt s k : Int)).toNat.toUInt8 = r at *
      clear hn hi hL
      generalize ofT L = t at *
      go_enter Tryd.func25, Tryd.ntmps25
      go_wp2_with (go_at_call 30; refine (HB.out _).mono ?_; rintro e w' ⟨rfl, rfl⟩)
      go_ret
      exact ⟨rfl, rfl⟩
    · have hn : isN s k L = false := by unfold isN; simp [h1]
      rw [hn]
      clear hL hn
      generalize ofT L = t at *
      go_enter Tryd.func25, Tryd.ntmps25
      go_wp2_with fail
      go_ret
      exact ⟨rfl, rfl⟩
theorem isNat_calls (s : ByteArray) (hs : s.size ≤ 60000) (i : Nat) (L : List Nat) (hL : ∀ x ∈ L, x < 256) (w : World) : Calls Tryd.prog 25 #[.string s, .int .i64 i, .string (ofT L)] w fun e w' => e = .returned (.bool (isN s i L)) ∧ w = w' := by
  have h := isAt_calls s hs i L hL w
  have hr : isI s i L = isN s i L := by unfold isI; rw [if_neg (by omega)]; rfl
  rw [hr] at h
  exact h

/-- What was read, as a value. -/
@[reducible] def ptI (t : BitVec 256) (p e : Int) (l : ByteArray) : Array Value := #[.int .u64 (wd t 0), .int .u64 (wd t 1), .int .u64 (wd t 2), .int .u64 (wd t 3), .int .i64 p, .int .i64 e, .string l]
def ptA (p : DP) : Array Value := ptI p.set p.fin p.err p.lack
theorem infoPt : (Tryd.prog.info? 47).map (·.size) = some 7 := by kernel_rfl

/-! ### By walks -/
theorem pt_one (t : BitVec 256) (p e : Int) (l : ByteArray) : ((ptI t p e l).all fun x => x.oneCell') = true := by simp [Value.oneCell']
theorem Blk.drewN {W : World} {B : Nat} {vs : Array Value} {t : TypeId} (h : Blk W B vs t) : ∀ n, Blk (W.drewN n) B vs t
  | 0 => h
  | n + 1 => Blk.drewN (W := W.drew) h n
theorem below_drN {m : Nat} {w W : World} (h : Below m w W) (n : Nat) : Below m w (W.drewN n) := h.trans ⟨rfl, rfl, rfl, Nat.le_refl _, fun _ _ => rfl⟩
set_option maxRecDepth 100000 in
set_option maxHeartbeats 1000000 in
theorem short_calls (s l : ByteArray) (w : World) : Calls Tryd.prog 31 #[.string s, .string l] w fun en w' => en = .returned (.agg (ptA (shortD s l))) ∧ Below w.heap.size w w' := by
  go_enter Tryd.func31, Tryd.ntmps31
  go_wp2
  have hR := Blk.new w (ptI 0 s.size 2 l) 47
  have hB : Below w.heap.size w (w.alloc (.cells (ptI 0 s.size 2 l) 47)) := by go_grown
  exact bodyPost_ret (v := .agg (ptI 0 s.size 2 l)) (results_cell_row rfl _ _ w.heap.size 47 (ptI 0 s.size 2 l) (0, 0) _ rfl hR Tryd.underlying47 rfl infoPt) rfl ⟨rfl, hB⟩

theorem bitB (b n : Nat) : ((b : Int) == (n : Int)) = decide (b = n) := by rw [Bool.eq_iff_iff, beq_iff_eq, decide_eq_true_iff]; omega
set_option maxRecDepth 100000 in
set_option maxHeartbeats 4000000 in
theorem between_calls (s : ByteArray) (hs : s.size ≤ 60000) (i : Nat) (hi : i + 2 < s.size) (w : World) :
    Calls Tryd.prog 38 #[.string s, .int .i64 i] w fun en w' => en = .returned (.agg (ptA (betweenD s i))) ∧ Below w.heap.size w w' := by
  have HR := Lib.hid (Blk.new w (ptI 0 0 0 eT) 47)
  have HB : Hid (Below w.heap.size w (w.alloc (.cells (ptI 0 0 0 eT) 47))) := Lib.hid (by go_grown)
  have hz : w.heap.size + 1 ≤ (w.alloc (.cells (ptI 0 0 0 eT) 47)).heap.size := by simp
  have h0 : i < s.size := by omega
  have b0 : s[i].toNat = bt s i := (bt_eq s i h0).symm
  have b2 : s[i + 2].toNat = bt s (i + 2) := (bt_eq s (i + 2) hi).symm
  have hl0 := bt_lt s i
  have hl2 := bt_lt s (i + 2)
  go_enter Tryd.func38, Tryd.ntmps38
  go_upto_region 1 with fail
  have e0 : w.alloc (.cells #[.int .u64 0, .int .u64 0, .int .u64 0, .int .u64 0, .int .i64 0, .int .i64 0, .string ⟨#[]⟩] 47) = w.alloc (.cells (ptI 0 0 0 eT) 47) := rfl
  rw [e0]
  clear e0
  generalize w.alloc (.cells (ptI 0 0 0 eT) 47) = w1 at *
  have u0 : (i : Int) < (s.size : Int) := by omega
  have u2 : (i : Int) + 2 < (s.size : Int) := by omega
  have u3 : (0 : Int) ≤ (i : Int) + 2 := by omega
  have u4 : ((i : Int) + 2).toNat = i + 2 := by omega
  have x2 : IntKind.i64.wrap ((i : Int) + 2) = (i : Int) + 2 := IntWalk.i64_in _ (by omega)
  have x3 : IntKind.i64.wrap ((i : Int) + 3) = (i : Int) + 3 := IntWalk.i64_in _ (by omega)
  go_quiet (fail)
  clear u0 u2 u3 u4 x2 x3
  have HR2 := Lib.hid (HR.out.drewN nq)
  have HB2 := Lib.hid (below_drN HB.out nq)
  have hz2 : w.heap.size + 1 ≤ (w1.drewN nq).heap.size := hz
  clear HR HB hz
  have HR := HR2
  have HB := HB2
  have hz := hz2
  clear HR2 HB2 hz2
  generalize w1.drewN nq = w1 at *
  by_cases hI : bt s (i + 2) < bt s i
  · have q : decide (bt s (i + 2) < bt s i) = true := by simpa using hI
    have HRES := Lib.hid (show betweenD s i = badD 4 (i + 3) by unfold betweenD; rw [if_pos hI])
    go_wp2_with ((with_reducible refine wpList_store_st (o := ⟨none, .store 47 _ _, _, _, _, _⟩) rfl 47 _ _ rfl w.heap.size rfl rfl (run_storeAt_row _ w.heap.size 47 47 (ptI 0 0 0 eT) (ptI 0 ((i : Int) + 3) 4 eT) ?_ ?_ ?_ ?_) ?_); exact HR.out; exact infoPt; rfl; exact pt_one _ _ _ _)
    exact bodyPost_ret (v := .agg (ptI 0 ((i : Int) + 3) 4 eT)) (results_cell_row rfl _ _ w.heap.size 47 (ptI 0 ((i : Int) + 3) 4 eT) (0, 0) _ rfl (Blk.setRow HR.out) Tryd.underlying47 rfl infoPt) rfl ⟨by rw [HRES.out] <;> rfl, below_row HB.out (by omega) _⟩
  have q : decide (bt s (i + 2) < bt s i) = false := by simpa using hI
  go_upto_region 4 with fail
  go_cut [23] from 24 to 30 (fun x wx => x = .bool (decide (bt s (i + 2) = 91 ∧ isN s (i + 3) [58, 46, 61] = true)) ∧ w1 = wx)
  case first =>
    cases hc : decide (bt s (i + 2) = 91) with
    | true =>
      have hc' : bt s (i + 2) = 91 := of_decide_eq_true hc
      have q1 : ((bt s (i + 2) : Int) == 91) = true := by rw [beq_iff_eq]; omega
      have HC := Lib.hid hc'
      clear hc hc'
      have HA := isNat_calls s hs (i + 3) [58, 46, 61] (by decide)
      rw [show ((i + 3 : Nat) : Int) = (i : Int) + 3 from rfl, show ofT [58, 46, 61] = ⟨#[58, 46, 61]⟩ from rfl] at HA
      have HA2 := Lib.hid HA
      clear HA
      go_wp2_with (go_at_call 25; refine (HA2.out _).mono ?_; rintro e w' ⟨rfl, rfl⟩)
      go_meet
      exact ⟨by simp [HC.out], rfl⟩
    | false =>
      have hc' : ¬ bt s (i + 2) = 91 := of_decide_eq_false hc
      have q1 : ((bt s (i + 2) : Int) == 91) = false := by rw [beq_eq_false_iff_ne]; omega
      have HC := Lib.hid hc'
      clear hc hc'
      go_wp2_with fail
      go_meet
      exact ⟨by simp [HC.out], rfl⟩
  case rest =>
  obtain ⟨rfl, rfl⟩ := hcut
  by_cases hJ : bt s (i + 2) = 91 ∧ isN s (i + 3) [58, 46, 61] = true
  · have q2 : decide (bt s (i + 2) = 91 ∧ isN s (i + 3) [58, 46, 61] = true) = true := decide_eq_true hJ
    have HRES := Lib.hid (show betweenD s i = badD 3 (i + 4) by unfold betweenD; rw [if_neg hI, if_pos hJ])
    rw [q2]
    clear q2 hJ
    go_wp2_with ((with_reducible refine wpList_store_st (o := ⟨none, .store 47 _ _, _, _, _, _⟩) rfl 47 _ _ rfl w.heap.size rfl rfl (run_storeAt_row _ w.heap.size 47 47 (ptI 0 0 0 eT) (ptI 0 ((i : Int) + 4) 3 eT) ?_ ?_ ?_ ?_) ?_); exact HR.out; exact infoPt; rfl; exact pt_one _ _ _ _)
    exact bodyPost_ret (v := .agg (ptI 0 ((i : Int) + 4) 3 eT)) (results_cell_row rfl _ _ w.heap.size 47 (ptI 0 ((i : Int) + 4) 3 eT) (0, 0) _ rfl (Blk.setRow HR.out) Tryd.underlying47 rfl infoPt) rfl ⟨by rw [HRES.out] <;> rfl, below_row HB.out (by omega) _⟩
  have q2 : decide (bt s (i + 2) = 91 ∧ isN s (i + 3) [58, 46, 61] = true) = false := decide_eq_false hJ
  rw [q2]
  clear q2
  have hg : betweenD s i = okD (range (bt s i) (bt s (i + 2))) (i + 3) := by unfold betweenD; rw [if_neg hI, if_neg hJ]
  have hrg := fun w' => range_calls (bt s i) (bt s (i + 2)) w' (by omega) (by omega) (by omega) (by omega)
  rw [show ((bt s i : Int)).toNat = bt s i from rfl, show ((bt s (i + 2) : Int)).toNat = bt s (i + 2) from rfl] at hrg
  generalize range (bt s i) (bt s (i + 2)) = r at *
  have HRES := Lib.hid hg
  have HRG := Lib.hid hrg
  clear hg hrg hJ
  go_wp2_with fail
  refine (HRG.out _).mono ?_
  rintro e w2 ⟨rfl, hb⟩
  have HR2 := Lib.hid (HR.out.below hb (Blk.lt HR.out))
  have HB2 := Lib.hid (HB.out.trans (hb.mono (by omega)))
  have hz2 := Nat.le_trans hz hb.size
  clear HR HB hz hb
  have HR := HR2
  have HB := HB2
  have hz := hz2
  clear HR2 HB2 hz2
  go_wp2_with ((with_reducible refine wpList_store_st (o := ⟨none, .store 47 _ _, _, _, _, _⟩) rfl 47 _ _ rfl w.heap.size rfl rfl (run_storeAt_row _ w.heap.size 47 47 (ptI 0 0 0 eT) (ptI r ((i : Int) + 3) 0 eT) ?_ ?_ ?_ ?_) ?_); exact HR.out; exact infoPt; rfl; exact pt_one _ _ _ _)
  exact bodyPost_ret (v := .agg (ptI r ((i : Int) + 3) 0 eT)) (results_cell_row rfl _ _ w.heap.size 47 (ptI r ((i : Int) + 3) 0 eT) (0, 0) _ rfl (Blk.setRow HR.out) Tryd.underlying47 rfl infoPt) rfl ⟨by rw [HRES.out] <;> rfl, below_row HB.out (by omega) _⟩
end Go.Proofs.YtkkhibamkdgffaaDoor

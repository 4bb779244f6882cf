/- Texts put together: Dq Dr. -/
import Derived.Test.YtbccojjcdcighaaGreatDoorPAd
import Derived.Test.YtbccojjcdcighaaGreatDoorPAa
import Derived.Test.YtbccojjcdcighaaGreatDoorPC
import Derived.Lib.IndexAny
import Derived.Lib.Bytealg
import Derived.Lib.Hide
import Derived.WalkLawsBesides
import Derived.IntWalk
import Derived.BigQuiet
import Derived.Outline
import Derived.Deep.QuietTactic
import Derived.Deep.DeepCutAuto
import Derived.Laws.ResultCell
import Derived.Deep.CutBlock
import Derived.Laws.Concat
namespace Go.Proofs.YtbccojjcdcighaaGreatDoor
open Go.RowKit Go.Shelf BS
set_option maxRecDepth 100000 in
theorem sib_calls (s : ByteArray) (c : Int) (w : World) : Calls Tryz.prog 70 #[.string s, .int .u8 c] w fun e w' => e = .returned (.int .i64 (Lib.indexByte s.data.toList c.toNat.toUInt8)) ∧ w = w' := by
  go_enter Tryz.func70, Tryz.ntmps70
  go_wp2_with fail
  rw [run_callFunc_extern Tryz.func96 (by kernel_rfl) (by kernel_rfl) (by kernel_rfl) (e := Extern.BytealgIndexByte.indexByte) (by kernel_rfl), Lib.run_indexByteString]
  simp only [Result.andThen]
  rw [Oper.upon_value]
  go_wp2_with fail
  go_ret
  exact ⟨rfl, rfl⟩
set_option maxRecDepth 100000 in
theorem ib_calls (s : ByteArray) (c : Int) (w : World) : Calls Tryz.prog 45 #[.string s, .int .u8 c] w fun e w' => e = .returned (.int .i64 (Lib.indexByte s.data.toList c.toNat.toUInt8)) ∧ w = w' := by
  go_enter Tryz.func45, Tryz.ntmps45
  go_wp2_with (go_at_call 70; refine (sib_calls s c _).mono ?_; rintro e w' ⟨rfl, rfl⟩)
  go_ret
  exact ⟨rfl, rfl⟩
theorem ib_eq (L : List Nat) (hL : ∀ x ∈ L, x < 256) (b : Nat) (hb : b < 256) : decide (0 ≤ Lib.indexByte (ofT L).data.toList ((b : Int)).toNat.toUInt8) = L.contains b := by
  rw [← Lib.contains_iff_indexByte]
  have e : (ofT L).data.toList = L.map UInt8.ofNat := by simp [ofT]
  rw [e]
  induction L with
  | nil => rfl
  | cons a L ih =>
    rw [List.map_cons, List.contains_cons, List.contains_cons, ih (fun x hx => hL x (List.mem_cons_of_mem _ hx)) (by simp [ofT])]
    congr 1
    have ha := hL a (List.mem_cons_self ..)
    rw [Bool.eq_iff_iff, beq_iff_eq, beq_iff_eq]
    constructor
    · intro h
      have h2 := congrArg UInt8.toNat h
      simp at h2
      omega
    · rintro rfl; simp
def isI (s : ByteArray) (i : Int) (L : List Nat) : Bool := if i < 0 then false else isN s i.toNat L
set_option maxRecDepth 100000 in
set_option maxHeartbeats 1000000 in
theorem isAt_calls (s : ByteArray) (_hs : s.size ≤ 1000000) (i : Int) (L : List Nat) (hL : ∀ x ∈ L, x < 256) (w : World) : Calls Tryz.prog 194 #[.string s, .int .i64 i, .string (ofT L)] w fun e w' => e = .returned (.bool (isI s i L)) ∧ w = w' := by
  by_cases h0 : i < 0
  · have q : decide (0 ≤ i) = false := by rw [decide_eq_false_iff_not]; omega
    have hr : isI s i L = false := by unfold isI; rw [if_pos h0]
    rw [hr]
    go_enter Tryz.func194, Tryz.ntmps194
    go_wp2_with fail
    go_ret
    exact ⟨rfl, rfl⟩
  · obtain ⟨k, rfl⟩ : ∃ k : Nat, i = k := ⟨i.toNat, by omega⟩
    have hr : isI s k L = isN s k L := by unfold isI; rw [if_neg h0]; rfl
    rw [hr]
    clear hr h0
    by_cases h1 : k < s.size
    · have hi := ib_eq L hL (bt s k) (bt_lt s k)
      have hb0 : s[k].toNat = bt s k := (bt_eq s k h1).symm
      have hn : isN s k L = L.contains (bt s k) := by unfold isN; simp [h1]
      rw [hn, ← hi]
      have HB := Lib.hid (ib_calls (ofT L) (bt s k))
      generalize Lib.indexByte (ofT L).data.toList ((bt s k : Int)).toNat.toUInt8 = r at *
      clear hn hi hL
      generalize ofT L = t at *
      go_enter Tryz.func194, Tryz.ntmps194
      go_wp2_with (go_at_call 45; refine (HB.out _).mono ?_; rintro e w' ⟨rfl, rfl⟩)
      go_ret
      exact ⟨rfl, rfl⟩
    · have hn : isN s k L = false := by unfold isN; simp [h1]
      rw [hn]
      clear hL hn
      generalize ofT L = t at *
      go_enter Tryz.func194, Tryz.ntmps194
      go_wp2_with fail
      go_ret
      exact ⟨rfl, rfl⟩
theorem isNat_calls (s : ByteArray) (hs : s.size ≤ 1000000) (i : Nat) (L : List Nat) (hL : ∀ x ∈ L, x < 256) (w : World) : Calls Tryz.prog 194 #[.string s, .int .i64 i, .string (ofT L)] w fun e w' => e = .returned (.bool (isN s i L)) ∧ w = w' := by
  have h := isAt_calls s hs i L hL w
  have hr : isI s i L = isN s i L := by unfold isI; rw [if_neg (by omega)]; rfl
  rw [hr] at h
  exact h
@[reducible] def ptI (t : BitVec 256) (p e : Int) (l : ByteArray) : Array Value := #[.int .u64 (wd t 0), .int .u64 (wd t 1), .int .u64 (wd t 2), .int .u64 (wd t 3), .int .i64 p, .int .i64 e, .string l]
def ptA (p : DP) : Array Value := ptI p.set p.fin p.err p.lack
theorem infoPt : (Tryz.prog.info? 228).map (·.size) = some 7 := by kernel_rfl
theorem pt_one (t : BitVec 256) (p e : Int) (l : ByteArray) : ((ptI t p e l).all fun x => x.oneCell') = true := by simp [Value.oneCell']
set_option maxRecDepth 100000 in
set_option maxHeartbeats 1000000 in
theorem short_calls (s l : ByteArray) (w : World) : Calls Tryz.prog 196 #[.string s, .string l] w fun en w' => en = .returned (.agg (ptA (shortD s l))) ∧ Below w.heap.size w w' := by
  go_enter Tryz.func196, Tryz.ntmps196
  go_wp2
  have hR := Blk.new w (ptI 0 s.size 2 l) 228
  have hB : Below w.heap.size w (w.alloc (.cells (ptI 0 s.size 2 l) 228)) := by go_grown
  exact bodyPost_ret (v := .agg (ptI 0 s.size 2 l)) (results_cell_row rfl _ _ w.heap.size 228 (ptI 0 s.size 2 l) (0, 0) _ rfl hR Tryz.underlying228 rfl infoPt) rfl ⟨rfl, hB⟩
set_option maxRecDepth 100000 in
set_option maxHeartbeats 4000000 in
theorem between_calls (s : ByteArray) (hs : s.size ≤ 1000000) (i : Nat) (hi : i + 2 < s.size) (w : World) :
    Calls Tryz.prog 200 #[.string s, .int .i64 i] w fun en w' => en = .returned (.agg (ptA (betweenD s i))) ∧ Below w.heap.size w w' := by
  have HR := Lib.hid (Blk.new w (ptI 0 0 0 eT) 228)
  have HB : Hid (Below w.heap.size w (w.alloc (.cells (ptI 0 0 0 eT) 228))) := Lib.hid (by go_grown)
  have hz : w.heap.size + 1 ≤ (w.alloc (.cells (ptI 0 0 0 eT) 228)).heap.size := by simp
  have h0 : i < s.size := by omega
  have b0 : s[i].toNat = bt s i := (bt_eq s i h0).symm
  have b2 : s[i + 2].toNat = bt s (i + 2) := (bt_eq s (i + 2) hi).symm
  have hl0 := bt_lt s i
  have hl2 := bt_lt s (i + 2)
  go_enter Tryz.func200, Tryz.ntmps200
  go_upto_region 1 with fail
  have e0 : w.alloc (.cells #[.int .u64 0, .int .u64 0, .int .u64 0, .int .u64 0, .int .i64 0, .int .i64 0, .string ⟨#[]⟩] 228) = w.alloc (.cells (ptI 0 0 0 eT) 228) := rfl
  rw [e0]
  clear e0
  generalize w.alloc (.cells (ptI 0 0 0 eT) 228) = w1 at *
  have u0 : (i : Int) < (s.size : Int) := by omega
  have u2 : (i : Int) + 2 < (s.size : Int) := by omega
  have u3 : (0 : Int) ≤ (i : Int) + 2 := by omega
  have u4 : ((i : Int) + 2).toNat = i + 2 := by omega
  have x2 : IntKind.i64.wrap ((i : Int) + 2) = (i : Int) + 2 := IntWalk.i64_in _ (by omega)
  have x3 : IntKind.i64.wrap ((i : Int) + 3) = (i : Int) + 3 := IntWalk.i64_in _ (by omega)
  go_quiet (fail)
  clear u0 u2 u3 u4 x2 x3
  have HR2 := Lib.hid (HR.out.drewN nq)
  have HB2 := Lib.hid (below_drN HB.out nq)
  have hz2 : w.heap.size + 1 ≤ (w1.drewN nq).heap.size := hz
  clear HR HB hz
  have HR := HR2
  have HB := HB2
  have hz := hz2
  clear HR2 HB2 hz2
  generalize w1.drewN nq = w1 at *
  by_cases hI : bt s (i + 2) < bt s i
  · have q : decide (bt s (i + 2) < bt s i) = true := by simpa using hI
    have HRES := Lib.hid (show betweenD s i = badD 4 (i + 3) by unfold betweenD; rw [if_pos hI])
    go_wp2_with ((with_reducible refine wpList_store_st (o := ⟨none, .store 228 _ _, _, _, _, _⟩) rfl 228 _ _ rfl w.heap.size rfl rfl (run_storeAt_row _ w.heap.size 228 228 (ptI 0 0 0 eT) (ptI 0 ((i : Int) + 3) 4 eT) ?_ ?_ ?_ ?_) ?_); exact HR.out; exact infoPt; rfl; exact pt_one _ _ _ _)
    exact bodyPost_ret (v := .agg (ptI 0 ((i : Int) + 3) 4 eT)) (results_cell_row rfl _ _ w.heap.size 228 (ptI 0 ((i : Int) + 3) 4 eT) (0, 0) _ rfl (Blk.setRow HR.out) Tryz.underlying228 rfl infoPt) rfl ⟨by rw [HRES.out] <;> rfl, below_row HB.out (by omega) _⟩
  have q : decide (bt s (i + 2) < bt s i) = false := by simpa using hI
  go_upto_region 4 with fail
  go_cut [23] from 24 to 30 (fun x wx => x = .bool (decide (bt s (i + 2) = 91 ∧ isN s (i + 3) [58, 46, 61] = true)) ∧ w1 = wx)
  case first =>
    cases hc : decide (bt s (i + 2) = 91) with
    | true =>
      have hc' : bt s (i + 2) = 91 := of_decide_eq_true hc
      have q1 : ((bt s (i + 2) : Int) == 91) = true := by rw [beq_iff_eq]; omega
      have HC := Lib.hid hc'
      clear hc hc'
      have HA := isNat_calls s hs (i + 3) [58, 46, 61] (by decide)
      rw [show ((i + 3 : Nat) : Int) = (i : Int) + 3 from rfl, show ofT [58, 46, 61] = ⟨#[58, 46, 61]⟩ from rfl] at HA
      have HA2 := Lib.hid HA
      clear HA
      go_wp2_with (go_at_call 194; refine (HA2.out _).mono ?_; rintro e w' ⟨rfl, rfl⟩)
      go_meet
      exact ⟨by simp [HC.out], rfl⟩
    | false =>
      have hc' : ¬ bt s (i + 2) = 91 := of_decide_eq_false hc
      have q1 : ((bt s (i + 2) : Int) == 91) = false := by rw [beq_eq_false_iff_ne]; omega
      have HC := Lib.hid hc'
      clear hc hc'
      go_wp2_with fail
      go_meet
      exact ⟨by simp [HC.out], rfl⟩
  case rest =>
  obtain ⟨rfl, rfl⟩ := hcut
  by_cases hJ : bt s (i + 2) = 91 ∧ isN s (i + 3) [58, 46, 61] = true
  · have q2 : decide (bt s (i + 2) = 91 ∧ isN s (i + 3) [58, 46, 61] = true) = true := decide_eq_true hJ
    have HRES := Lib.hid (show betweenD s i = badD 3 (i + 4) by unfold betweenD; rw [if_neg hI, if_pos hJ])
    rw [q2]
    clear q2 hJ
    go_wp2_with ((with_reducible refine wpList_store_st (o := ⟨none, .store 228 _ _, _, _, _, _⟩) rfl 228 _ _ rfl w.heap.size rfl rfl (run_storeAt_row _ w.heap.size 228 228 (ptI 0 0 0 eT) (ptI 0 ((i : Int) + 4) 3 eT) ?_ ?_ ?_ ?_) ?_); exact HR.out; exact infoPt; rfl; exact pt_one _ _ _ _)
    exact bodyPost_ret (v := .agg (ptI 0 ((i : Int) + 4) 3 eT)) (results_cell_row rfl _ _ w.heap.size 228 (ptI 0 ((i : Int) + 4) 3 eT) (0, 0) _ rfl (Blk.setRow HR.out) Tryz.underlying228 rfl infoPt) rfl ⟨by rw [HRES.out] <;> rfl, below_row HB.out (by omega) _⟩
  have q2 : decide (bt s (i + 2) = 91 ∧ isN s (i + 3) [58, 46, 61] = true) = false := decide_eq_false hJ
  rw [q2]
  clear q2
  have hg : betweenD s i = okD (range (bt s i) (bt s (i + 2))) (i + 3) := by unfold betweenD; rw [if_neg hI, if_neg hJ]
  have hrg := fun w' => range_calls (bt s i) (bt s (i + 2)) w' (by omega) (by omega) (by omega) (by omega)
  rw [show ((bt s i : Int)).toNat = bt s i from rfl, show ((bt s (i + 2) : Int)).toNat = bt s (i + 2) from rfl] at hrg
  generalize range (bt s i) (bt s (i + 2)) = r at *
  have HRES := Lib.hid hg
  have HRG := Lib.hid hrg
  clear hg hrg hJ
  go_wp2_with fail
  refine (HRG.out _).mono ?_
  rintro e w2 ⟨rfl, hb⟩
  have HR2 := Lib.hid (HR.out.below hb (Blk.lt HR.out))
  have HB2 := Lib.hid (HB.out.trans (hb.mono (by omega)))
  have hz2 := Nat.le_trans hz hb.size
  clear HR HB hz hb
  have HR := HR2
  have HB := HB2
  have hz := hz2
  clear HR2 HB2 hz2
  go_wp2_with ((with_reducible refine wpList_store_st (o := ⟨none, .store 228 _ _, _, _, _, _⟩) rfl 228 _ _ rfl w.heap.size rfl rfl (run_storeAt_row _ w.heap.size 228 228 (ptI 0 0 0 eT) (ptI r ((i : Int) + 3) 0 eT) ?_ ?_ ?_ ?_) ?_); exact HR.out; exact infoPt; rfl; exact pt_one _ _ _ _)
  exact bodyPost_ret (v := .agg (ptI r ((i : Int) + 3) 0 eT)) (results_cell_row rfl _ _ w.heap.size 228 (ptI r ((i : Int) + 3) 0 eT) (0, 0) _ rfl (Blk.setRow HR.out) Tryz.underlying228 rfl infoPt) rfl ⟨by rw [HRES.out] <;> rfl, below_row HB.out (by omega) _⟩
end Go.Proofs.YtbccojjcdcighaaGreatDoor

namespace Go.Proofs.YtbccojjcdcighaaGreatDoor
open Go.RowKit Go.Shelf BS
def cutP (s p : ByteArray) : ByteArray := if pfx s p = true then s.extract p.size s.size else s
set_option maxRecDepth 100000 in
set_option maxHeartbeats 1000000 in
theorem scp_calls (s p : ByteArray) (hs : s.size ≤ 9223372036854775807) (hp : p.size ≤ 9223372036854775807) (w : World) : Calls Tryz.prog 210 #[.string s, .string p] w fun e w' => e = .returned (.tuple #[.string (cutP s p), .bool (pfx s p)]) ∧ w = w' := by
  cases hq : pfx s p with
  | true =>
    have HQ := Lib.hid hq
    have hl : p.size ≤ s.size := (pfx_bt hq).1
    have hC := Lib.hid (show cutP s p = s.extract p.size s.size by unfold cutP; rw [if_pos hq])
    clear hq
    go_enter Tryz.func210, Tryz.ntmps210
    go_wp2_with (go_at_call 209; refine (hp1_calls s p hs hp _).mono ?_; rintro e w' ⟨rfl, rfl⟩; rw [HQ.out])
    go_ret2
    exact ⟨by rw [hC.out] <;> rfl, rfl⟩
  | false =>
    have HQ := Lib.hid hq
    have hC := Lib.hid (show cutP s p = s by unfold cutP; rw [if_neg (by rw [hq]; decide)])
    clear hq
    go_enter Tryz.func210, Tryz.ntmps210
    go_wp2_with (go_at_call 209; refine (hp1_calls s p hs hp _).mono ?_; rintro e w' ⟨rfl, rfl⟩; rw [HQ.out])
    go_ret2
    exact ⟨by rw [hC.out] <;> rfl, rfl⟩
set_option maxRecDepth 100000 in
set_option maxHeartbeats 1000000 in
theorem cp_calls (s p : ByteArray) (hs : s.size ≤ 9223372036854775807) (hp : p.size ≤ 9223372036854775807) (w : World) : Calls Tryz.prog 208 #[.string s, .string p] w fun e w' => e = .returned (.tuple #[.string (cutP s p), .bool (pfx s p)]) ∧ w = w' := by
  go_enter Tryz.func208, Tryz.ntmps208
  go_wp2_with (go_at_call 210; refine (scp_calls s p hs hp _).mono ?_; rintro e w' ⟨rfl, rfl⟩)
  go_ret2
  exact ⟨rfl, rfl⟩
theorem restD_at (l : ByteArray) (k : Nat) (hk : k < 12) (hf : ∀ j, j < k → pfx (tE j).1 l = false) (h : pfx (tE k).1 l = true) : restD l = cutP (tE k).1 l := by
  have h1 : (tabL.find? fun e => pfx e.1 l) = some (tE k) := by
    rw [tE_eq k hk]
    refine find_at _ tabL k hk (fun j hj => ?_) ?_
    · have := hf j hj
      rwa [tE_eq j (by omega)] at this
    · rwa [tE_eq k hk] at h
  rw [restD, h1, cutP, if_pos h]; rfl
theorem restD_not (l : ByteArray) (hf : ∀ j, j < 12 → pfx (tE j).1 l = false) : restD l = eT := by
  have h1 : (tabL.find? fun e => pfx e.1 l) = none := by
    refine find_not _ tabL fun j hj => ?_
    have := hf j hj
    rwa [tE_eq j hj] at this
  rw [restD, h1]; rfl
theorem cutP_size (s p : ByteArray) : (cutP s p).size ≤ s.size := by
  unfold cutP; split
  · rw [ByteArray.size_extract]; omega
  · exact Nat.le_refl _
theorem restD_size (l : ByteArray) : (restD l).size ≤ 16 := by
  by_cases h : ∀ j, j < 12 → pfx (tE j).1 l = false
  · rw [restD_not l h]; decide
  · obtain ⟨k, hk, hf, hp⟩ : ∃ k, k < 12 ∧ (∀ j, j < k → pfx (tE j).1 l = false) ∧ pfx (tE k).1 l = true := by
      refine Decidable.byContradiction fun hc => h fun j => ?_
      induction j using Nat.strongRecOn with
      | _ j ih =>
        intro hj
        cases hp : pfx (tE j).1 l with
        | false => rfl
        | true => exact absurd ⟨j, hj, fun i hi => ih i hi (by omega), hp⟩ hc
    rw [restD_at l k hk hf hp]
    exact Nat.le_trans (cutP_size _ _) (name_len k hk).1
set_option maxRecDepth 100000 in
set_option maxHeartbeats 4000000 in
theorem rest_calls (s : ByteArray) (hs : s.size ≤ 9223372036854775807) (w : World) : Calls Tryz.prog 203 #[.string s] w fun e w' => e = .returned (.string (restD s)) ∧ Below w.heap.size w w' := by
  go_enter Tryz.func203, Tryz.ntmps203
  go_wp2_with fail
  refine (cNames_calls _).mono ?_
  rintro e w2 ⟨g, rfl, ⟨hg, hN⟩, hb2⟩
  have HN := Lib.hid hN
  clear hN hg
  go_wp2_with fail
  go_loopw [9] (fun i wr => ∃ k : Nat, k ≤ 12 ∧ i = .int .i64 k ∧ (∀ j, j < k → pfx (tE j).1 s = false) ∧ w2 = wr) (fun i _ => 12 - (intOf i).toNat)
  case atStart => exact ⟨0, by omega, rfl, fun j hj => by omega, rfl⟩
  case round =>
    obtain ⟨k, hk, rfl, hno, rfl⟩ := hrel
    have HNO := Lib.hid hno
    clear hno
    by_cases hkl : k < 12
    · have hcn := HN.out.cell k
      rw [namV_get k hkl] at hcn
      have hnz := tE_size k hkl
      cases hq : pfx (tE k).1 s with
      | true =>
        have HS := Lib.hid (restD_at s k hkl HNO.out hq)
        generalize (tE k).1 = nm at *
        have HQ := Lib.hid hq
        clear hq
        go_wp2_with (go_at_call 208; refine (cp_calls nm s hnz hs _).mono ?_; rintro e w' ⟨rfl, rfl⟩; rw [HQ.out])
        go_ret
        exact ⟨by rw [HS.out] <;> rfl, hb2⟩
      | false =>
        have HQ := Lib.hid hq
        clear hq
        generalize hnm : (tE k).1 = nm at hcn hnz
        have HNM := Lib.hid hnm
        clear hnm
        go_wp2_with (go_at_call 208; refine (cp_calls nm s hnz hs _).mono ?_; rintro e w' ⟨rfl, rfl⟩; rw [← HNM.out, HQ.out])
        go_roundw
        case rel =>
          refine ⟨k + 1, by omega, by simp, fun j hj => ?_, trivial⟩
          by_cases hjk : j = k
          · subst hjk; exact HQ.out
          · exact HNO.out j (by omega)
        case measure => simp [intOf]; omega
    · obtain rfl : k = 12 := by omega
      have HS := Lib.hid (restD_not s HNO.out)
      go_wp2
      go_ret
      exact ⟨by rw [HS.out]; rfl, hb2⟩
theorem nmEnd_on (s : ByteArray) (a n e : Nat) (h : begB (s.extract a (e + 1)) = true) : nmEnd s a (n + 1) e = nmEnd s a n (e + 1) := by rw [nmEnd, if_pos h]
theorem nmEnd_off (s : ByteArray) (a n e : Nat) (h : begB (s.extract a (e + 1)) = false) : nmEnd s a (n + 1) e = e := by rw [nmEnd, if_neg (by rw [h]; decide)]
theorem nmEnd_le (s : ByteArray) (a : Nat) : ∀ n e, e ≤ nmEnd s a n e ∧ nmEnd s a n e ≤ e + n
  | 0, e => ⟨Nat.le_refl _, Nat.le_refl _⟩
  | n + 1, e => by
    rw [nmEnd]
    split
    · have := nmEnd_le s a n (e + 1)
      omega
    · omega
set_option maxRecDepth 100000 in
set_option maxHeartbeats 8000000 in
theorem named_calls (s : ByteArray) (hs : s.size ≤ 1000000) (a : Nat) (ha : a ≤ s.size) (w : World) :
    Calls Tryz.prog 199 #[.string s, .int .i64 a] w fun en w' => en = .returned (.agg (ptA (namedD s a))) ∧ Below w.heap.size w w' := by
  have HR := Lib.hid (Blk.new w (ptI 0 0 0 eT) 228)
  have HB : Hid (Below w.heap.size w (w.alloc (.cells (ptI 0 0 0 eT) 228))) := Lib.hid (by go_grown)
  have hz : w.heap.size + 1 ≤ (w.alloc (.cells (ptI 0 0 0 eT) 228)).heap.size := by simp
  have HG := Lib.hid (show namedD s a = behindD s a (nmEnd s a (s.size - a) a) from rfl)
  have hE := nmEnd_le s a (s.size - a) a
  generalize hn : nmEnd s a (s.size - a) a = E at HG hE
  have HN := Lib.hid hn
  have hE2 : E ≤ s.size := by omega
  have hE1 := hE.1
  clear hn hE
  go_enter Tryz.func199, Tryz.ntmps199
  go_upto_region 1 with fail
  have e0 : w.alloc (.cells #[.int .u64 0, .int .u64 0, .int .u64 0, .int .u64 0, .int .i64 0, .int .i64 0, .string ⟨#[]⟩] 228) = w.alloc (.cells (ptI 0 0 0 eT) 228) := rfl
  rw [e0]
  clear e0
  generalize w.alloc (.cells (ptI 0 0 0 eT) 228) = w1 at *
  go_upto_block 0 with fail
  go_cut [5] from 9 to 22 (fun x wx => x = .int .i64 E ∧ Blk wx w.heap.size (ptI 0 0 0 eT) 228 ∧ Below w.heap.size w wx ∧ w.heap.size + 1 ≤ wx.heap.size)
  case first =>
    go_wp2_with fail
    go_loopw [5] (fun v wr => ∃ e : Nat, a ≤ e ∧ e ≤ s.size ∧ v = .int .i64 e ∧ nmEnd s a (s.size - e) e = E ∧ Blk wr w.heap.size (ptI 0 0 0 eT) 228 ∧ Below w.heap.size w wr ∧ w.heap.size + 1 ≤ wr.heap.size) (fun v _ => s.size - (intOf v).toNat)
    case atStart => exact ⟨a, Nat.le_refl _, ha, rfl, HN.out, HR.out, HB.out, hz⟩
    case round =>
      clear HR HB HN hz
      obtain ⟨e, he1, he2, rfl, hres, hR, hB, hz⟩ := hrel
      have HR := Lib.hid hR
      have HB := Lib.hid hB
      clear hR hB
      by_cases hl : e < s.size
      · obtain ⟨n, hn⟩ : ∃ n, s.size - e = n + 1 := ⟨s.size - e - 1, by omega⟩
        have hn' : n = s.size - (e + 1) := by omega
        rw [hn] at hres
        clear hn
        have HBE := Lib.hid (cBegins_calls (s.extract a (e + 1)) (by simp; omega))
        cases hbb : begB (s.extract a (e + 1)) with
        | false =>
          rw [nmEnd_off _ _ _ _ hbb] at hres
          rw [hbb] at HBE
          obtain rfl : e = E := hres
          clear hbb hn'
          go_wp2_with (go_at_call 201; refine (HBE.out _).mono ?_; rintro e' w' ⟨rfl, hb⟩; have hz := Nat.le_trans hz hb.size; have HR2 := Lib.hid (HR.out.below hb (Blk.lt HR.out)); have HB2 := Lib.hid (HB.out.trans (hb.mono (by omega))); clear HR HB hb; have HR := HR2; have HB := HB2; clear HR2 HB2)
          go_meet
          exact ⟨rfl, HR.out, HB.out, hz⟩
        | true =>
          rw [nmEnd_on _ _ _ _ hbb] at hres
          rw [hbb] at HBE
          have HRES := Lib.hid hres
          clear hres hbb
          go_wp2_with (go_at_call 201; refine (HBE.out _).mono ?_; rintro e' w' ⟨rfl, hb⟩; have hz := Nat.le_trans hz hb.size; have HR2 := Lib.hid (HR.out.below hb (Blk.lt HR.out)); have HB2 := Lib.hid (HB.out.trans (hb.mono (by omega))); clear HR HB hb; have HR := HR2; have HB := HB2; clear HR2 HB2)
          go_roundw
          case rel => exact ⟨e + 1, by omega, by omega, by simp, by rw [← hn']; exact HRES.out, HR.out, HB.out, hz⟩
          case measure => simp [intOf]; omega
      · obtain rfl : e = s.size := by omega
        rw [Nat.sub_self] at hres
        obtain rfl : s.size = E := hres
        go_wp2_with fail
        go_meet
        exact ⟨rfl, HR.out, HB.out, hz⟩
  case rest =>
  clear HR HB HN hz
  obtain ⟨rfl, hR, hB, hz⟩ := hcut
  have HR := Lib.hid hR
  have HB := Lib.hid hB
  clear hR hB
  have HOF := Lib.hid (cOf_calls (s.extract a E))
  have hg := HG.out
  unfold behindD at hg
  generalize ofS (s.extract a E).toList = c at hg HOF
  generalize ofB (s.extract a E).toList = ok at hg HOF
  clear HG
  have HG := Lib.hid hg
  clear hg
  go_wp2_with fail
  refine (HOF.out _).mono ?_
  rintro e w2 ⟨rfl, hb⟩
  have HR2 := Lib.hid (HR.out.below hb (Blk.lt HR.out))
  have HB2 := Lib.hid (HB.out.trans (hb.mono (by omega)))
  have hz2 := Nat.le_trans hz hb.size
  clear HR HB hz hb
  have HR := HR2
  have HB := HB2
  have hz := hz2
  clear HR2 HB2 hz2
  clear HOF
  go_upto_region 5 with fail
  have HC := Lib.hid (Blk.new w2 (setA c) 43)
  replace HR := Lib.hid (HR.out.alloc (.cells #[.int .u64 (wd c 0), .int .u64 (wd c 1), .int .u64 (wd c 2), .int .u64 (wd c 3)] 43))
  replace HB := Lib.hid (HB.out.alloc (by omega) (.cells #[.int .u64 (wd c 0), .int .u64 (wd c 1), .int .u64 (wd c 2), .int .u64 (wd c 3)] 43))
  replace HC : Hid (Blk (w2.alloc (.cells #[.int .u64 (wd c 0), .int .u64 (wd c 1), .int .u64 (wd c 2), .int .u64 (wd c 3)] 43)) w2.heap.size (setA c) 43) := HC
  have hz2 : w.heap.size + 1 ≤ (w2.alloc (.cells #[.int .u64 (wd c 0), .int .u64 (wd c 1), .int .u64 (wd c 2), .int .u64 (wd c 3)] 43)).heap.size := by simp; omega
  clear hz
  have hz := hz2
  clear hz2
  generalize w2.alloc (.cells #[.int .u64 (wd c 0), .int .u64 (wd c 1), .int .u64 (wd c 2), .int .u64 (wd c 3)] 43) = w3 at *
  generalize w2.heap.size = B at *
  by_cases h1 : E = s.size
  · subst h1
    have HRES := Lib.hid (show namedD s a = shortD s (restD (s.extract a s.size) ++ colT) by rw [HG.out, if_pos rfl])
    have HRC := Lib.hid (rest_calls (s.extract a s.size) (by simp; omega))
    have hl := restD_size (s.extract a s.size)
    generalize restD (s.extract a s.size) = l at HRES HRC hl
    have hadd : ∀ w, (Op.stringOp .add l ⟨#[58, 93, 93]⟩).run Tryz.prog w = .ok (.string (l ++ colT)) w := fun w => run_string_add_sum w l colT (by rw [show colT.size = 3 from rfl]; omega)
    go_wp2_with fail
    refine (HRC.out _).mono ?_
    rintro e w4 ⟨rfl, hb⟩
    have HR2 := Lib.hid (HR.out.below hb (Blk.lt HR.out))
    have HB2 := Lib.hid (HB.out.trans (hb.mono (by omega)))
    have hz2 := Nat.le_trans hz hb.size
    clear HR HB hz hb
    have HR := HR2
    have HB := HB2
    have hz := hz2
    clear HR2 HB2 hz2
    go_wp2_with fail
    refine (short_calls _ _ _).mono ?_
    rintro e w5 ⟨rfl, hb⟩
    have HR2 := Lib.hid (HR.out.below hb (Blk.lt HR.out))
    have HB2 := Lib.hid (HB.out.trans (hb.mono (by omega)))
    have hz2 := Nat.le_trans hz hb.size
    clear HR HB hz hb
    have HR := HR2
    have HB := HB2
    have hz := hz2
    clear HR2 HB2 hz2
    go_wp2_with ((with_reducible refine wpList_store_st (o := ⟨none, .store 228 _ _, _, _, _, _⟩) rfl 228 _ _ rfl w.heap.size rfl rfl (run_storeAt_row _ w.heap.size 228 228 (ptI 0 0 0 eT) (ptI 0 s.size 2 (l ++ colT)) ?_ ?_ ?_ ?_) ?_); exact HR.out; exact infoPt; rfl; exact pt_one _ _ _ _)
    exact bodyPost_ret (v := .agg (ptI 0 s.size 2 (l ++ colT))) (results_cell_row rfl _ _ w.heap.size 228 (ptI 0 s.size 2 (l ++ colT)) (0, 0) _ rfl (Blk.setRow HR.out) Tryz.underlying228 rfl infoPt) rfl ⟨by rw [HRES.out] <;> rfl, below_row HB.out (by omega) _⟩
  have hE3 : E < s.size := by omega
  have q1 : ((E : Int) == (s.size : Int)) = false := by rw [beq_eq_false_iff_ne]; omega
  have b0 : s[E].toNat = bt s E := (bt_eq s E hE3).symm
  have hg := HG.out
  rw [if_neg h1] at hg
  clear HG
  cases ok with
  | false =>
    rw [if_pos (.inl rfl)] at hg
    have HRES := Lib.hid hg
    clear hg
    go_wp2_with ((with_reducible refine wpList_store_st (o := ⟨none, .store 228 _ _, _, _, _, _⟩) rfl 228 _ _ rfl w.heap.size rfl rfl (run_storeAt_row _ w.heap.size 228 228 (ptI 0 0 0 eT) (ptI 0 ((E : Int) + 1) 5 eT) ?_ ?_ ?_ ?_) ?_); exact HR.out; exact infoPt; rfl; exact pt_one _ _ _ _)
    exact bodyPost_ret (v := .agg (ptI 0 ((E : Int) + 1) 5 eT)) (results_cell_row rfl _ _ w.heap.size 228 (ptI 0 ((E : Int) + 1) 5 eT) (0, 0) _ rfl (Blk.setRow HR.out) Tryz.underlying228 rfl infoPt) rfl ⟨by rw [HRES.out] <;> rfl, below_row HB.out (by omega) _⟩
  | true =>
  by_cases h2 : bt s E ≠ 58
  · rw [if_pos (.inr h2)] at hg
    have q2 : ((bt s E : Int) != 58) = true := by rw [bne_iff_ne]; omega
    have HRES := Lib.hid hg
    clear hg h2
    go_wp2_with ((with_reducible refine wpList_store_st (o := ⟨none, .store 228 _ _, _, _, _, _⟩) rfl 228 _ _ rfl w.heap.size rfl rfl (run_storeAt_row _ w.heap.size 228 228 (ptI 0 0 0 eT) (ptI 0 ((E : Int) + 1) 5 eT) ?_ ?_ ?_ ?_) ?_); exact HR.out; exact infoPt; rfl; exact pt_one _ _ _ _)
    exact bodyPost_ret (v := .agg (ptI 0 ((E : Int) + 1) 5 eT)) (results_cell_row rfl _ _ w.heap.size 228 (ptI 0 ((E : Int) + 1) 5 eT) (0, 0) _ rfl (Blk.setRow HR.out) Tryz.underlying228 rfl infoPt) rfl ⟨by rw [HRES.out] <;> rfl, below_row HB.out (by omega) _⟩
  have q2 : ((bt s E : Int) != 58) = false := by have : bt s E = 58 := Decidable.not_not.1 h2; rw [this]; rfl
  rw [if_neg (by rintro (h | h); exact absurd h (by decide); exact h2 h)] at hg
  by_cases h3 : E + 1 = s.size
  · rw [if_pos h3] at hg
    have q3 : ((E : Int) + 1 == (s.size : Int)) = true := by rw [beq_iff_eq]; omega
    have HRES := Lib.hid hg
    clear hg h2 h3
    go_wp2_with fail
    refine (short_calls _ _ _).mono ?_
    rintro e w5 ⟨rfl, hb⟩
    have HR2 := Lib.hid (HR.out.below hb (Blk.lt HR.out))
    have HB2 := Lib.hid (HB.out.trans (hb.mono (by omega)))
    have hz2 := Nat.le_trans hz hb.size
    clear HR HB hz hb
    have HR := HR2
    have HB := HB2
    have hz := hz2
    clear HR2 HB2 hz2
    go_wp2_with ((with_reducible refine wpList_store_st (o := ⟨none, .store 228 _ _, _, _, _, _⟩) rfl 228 _ _ rfl w.heap.size rfl rfl (run_storeAt_row _ w.heap.size 228 228 (ptI 0 0 0 eT) (ptI 0 s.size 2 twoT) ?_ ?_ ?_ ?_) ?_); exact HR.out; exact infoPt; rfl; exact pt_one _ _ _ _)
    exact bodyPost_ret (v := .agg (ptI 0 s.size 2 twoT)) (results_cell_row rfl _ _ w.heap.size 228 (ptI 0 s.size 2 twoT) (0, 0) _ rfl (Blk.setRow HR.out) Tryz.underlying228 rfl infoPt) rfl ⟨by rw [HRES.out] <;> rfl, below_row HB.out (by omega) _⟩
  have q3 : ((E : Int) + 1 == (s.size : Int)) = false := by rw [beq_eq_false_iff_ne]; omega
  rw [if_neg h3] at hg
  have hE4 : E + 1 < s.size := by omega
  have b1 : s[E + 1].toNat = bt s (E + 1) := (bt_eq s (E + 1) hE4).symm
  by_cases h4 : bt s (E + 1) ≠ 93
  · rw [if_pos h4] at hg
    have q4 : ((bt s (E + 1) : Int) != 93) = true := by rw [bne_iff_ne]; omega
    have HRES := Lib.hid hg
    clear hg h2 h4
    go_wp2_with ((with_reducible refine wpList_store_st (o := ⟨none, .store 228 _ _, _, _, _, _⟩) rfl 228 _ _ rfl w.heap.size rfl rfl (run_storeAt_row _ w.heap.size 228 228 (ptI 0 0 0 eT) (ptI 0 ((E : Int) + 2) 3 eT) ?_ ?_ ?_ ?_) ?_); exact HR.out; exact infoPt; rfl; exact pt_one _ _ _ _)
    exact bodyPost_ret (v := .agg (ptI 0 ((E : Int) + 2) 3 eT)) (results_cell_row rfl _ _ w.heap.size 228 (ptI 0 ((E : Int) + 2) 3 eT) (0, 0) _ rfl (Blk.setRow HR.out) Tryz.underlying228 rfl infoPt) rfl ⟨by rw [HRES.out] <;> rfl, below_row HB.out (by omega) _⟩
  have q4 : ((bt s (E + 1) : Int) != 93) = false := by have : bt s (E + 1) = 93 := Decidable.not_not.1 h4; rw [this]; rfl
  rw [if_neg h4] at hg
  have HRES := Lib.hid hg
  clear hg h2 h4
  obtain ⟨⟨d0, d1, d2, d3⟩, _⟩ := HC.out.cells4
  go_wp2_with ((with_reducible refine wpList_store_st (o := ⟨none, .store 228 _ _, _, _, _, _⟩) rfl 228 _ _ rfl w.heap.size rfl rfl (run_storeAt_row _ w.heap.size 228 228 (ptI 0 0 0 eT) (ptI c ((E : Int) + 2) 0 eT) ?_ ?_ ?_ ?_) ?_); exact HR.out; exact infoPt; rfl; exact pt_one _ _ _ _)
  exact bodyPost_ret (v := .agg (ptI c ((E : Int) + 2) 0 eT)) (results_cell_row rfl _ _ w.heap.size 228 (ptI c ((E : Int) + 2) 0 eT) (0, 0) _ rfl (Blk.setRow HR.out) Tryz.underlying228 rfl infoPt) rfl ⟨by rw [HRES.out] <;> rfl, below_row HB.out (by omega) _⟩
end Go.Proofs.YtbccojjcdcighaaGreatDoor

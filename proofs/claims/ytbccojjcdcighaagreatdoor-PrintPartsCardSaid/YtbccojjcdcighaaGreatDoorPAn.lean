/- Texts put together: Vt Vu Vl Wl Wq Wr. -/
import Derived.Test.YtbccojjcdcighaaGreatDoorPAh
import Derived.Test.YtbccojjcdcighaaGreatDoorPAg
import Derived.Test.YtbccojjcdcighaaGreatDoorPO
import Derived.Test.YtbccojjcdcighaaGreatDoorPY
import Derived.Test.YtbccojjcdcighaaGreatDoorPAc
import Derived.Test.YtbccojjcdcighaaGreatDoorPL
import Derived.Test.YtbccojjcdcighaaGreatDoorPU
import Derived.Test.YtbccojjcdcighaaGreatDoorPAk
import Derived.Test.YtbccojjcdcighaaGreatDoorPQ
import Derived.Test.YtbccojjcdcighaaGreatDoorPAl
import Derived.Test.YtbccojjcdcighaaGreatDoorPS
import Derived.Test.YtbccojjcdcighaaGreatDoorPAj
import Derived.Test.YtbccojjcdcighaaGreatDoorPD
namespace Go.Proofs.YtbccojjcdcighaaGreatDoor
open Go.RowKit BS
theorem cvAt (W : World) (g cap : Nat) (L : List Nat) (hC : ∀ i (h : i < L.length), W.cell? ⟨g, i, none⟩ = some (.int .u8 (L[i] : Int))) : (convert 70 9 (.slice (some ⟨g, 0, none⟩) L.length cap)).run Tryz.prog W = .ok (.string (ofT L)) W := by
  rw [← numsT L]
  refine run_convert_bytes_arg (P := Tryz.prog) W 70 5 Tryz.underlying70 Tryz.underlying5 g 0 L.length cap _ (by simp) (fun i hi => ?_) 9 Tryz.underlying9
  rw [Nat.zero_add, hC i hi]
  simp [List.getD_eq_getElem?_getD, List.getElem?_map, List.getElem?_eq_getElem hi]
theorem el_lt (f : Nat → Bool) (k b : Nat) (l : List Nat) (h : el f k = b :: l) : b < k := by
  have : b ∈ el f k := by rw [h]; exact List.mem_cons_self ..
  unfold el at this
  simp at this
  exact this.1
set_option maxRecDepth 100000 in
set_option maxHeartbeats 8000000 in
theorem rTextW_calls (t : BitVec 256) (w : World) : Calls Tryz.prog 37 #[setV t] w fun e w' => e = .returned (.string (ofT (textW t))) ∧ Below w.heap.size w w' := by
  have b0 := Blk.new w (setA t) 43
  have hB0 : Below w.heap.size w (w.alloc (.cells (setA t) 43)) := by go_grown
  have hz0 : w.heap.size + 1 ≤ (w.alloc (.cells (setA t) 43)).heap.size := by simp
  have HA := Lib.hid (fun w => rall_calls t w)
  have hg : textW t = textW t := rfl
  conv at hg => rhs; unfold textW
  generalize textW t = Y at *
  have HT := Lib.hid (rText_calls t)
  generalize textT t = T at *
  have hlt := el_lt t.getLsbD 256
  generalize el t.getLsbD 256 = l at *
  have HG := Lib.hid hg
  have HL := Lib.hid hlt
  clear hg hlt
  go_enter Tryz.func37, Tryz.ntmps37
  go_upto_region 1 with fail
  have e0 : w.alloc (.cells #[.int .u64 (wd t 0), .int .u64 (wd t 1), .int .u64 (wd t 2), .int .u64 (wd t 3)] 43) = w.alloc (.cells (setA t) 43) := rfl
  rw [e0]
  clear e0
  generalize w.alloc (.cells (setA t) 43) = w1 at *
  obtain ⟨⟨c0, c1, c2, c3⟩, _⟩ := b0.cells4
  go_wp2_with fail
  refine (HA.out _).mono ?_
  rintro e w2 ⟨v, rfl, hv, hb⟩
  have b1 := b0.below hb b0.lt
  have hB1 := hB0.trans (hb.mono (by omega))
  have hz1 := Nat.le_trans hz0 hb.size
  clear b0 hB0 HA c0 c1 c2 c3 hb hz0
  obtain ⟨⟨c0, c1, c2, c3⟩, _⟩ := b1.cells4
  have hlen : ∃ a cap, v = .slice a l.length cap := by
    rcases hv.2 with ⟨rfl, h0⟩ | ⟨g, cap, cur, rfl, _⟩
    · exact ⟨none, 0, by rw [h0]⟩
    · exact ⟨_, cap, rfl⟩
  obtain ⟨va, vc, rfl⟩ := hlen
  have HV := Lib.hid hv
  clear hv
  by_cases h256 : l.length = 256
  · have q : ((l.length : Int) == 256) = true := by rw [beq_iff_eq]; omega
    obtain rfl : Y = [46] := by rw [HG.out, if_pos h256]
    clear HG h256 HL HV HT
    generalize l.length = n at *
    go_wp2_with fail
    go_ret
    exact ⟨rfl, hB1⟩
  have q256 : ((l.length : Int) == 256) = false := by rw [beq_eq_false_iff_ne]; omega
  by_cases h1 : l.length = 1
  · obtain ⟨b, rfl⟩ := List.length_eq_one_iff.1 h1
    have hb256 := HL.out b [] rfl
    obtain ⟨g, cap, hva⟩ := ownsRow_succ (show w2.ownsRow _ _ _ _ (0 + 1) _ from HV.out)
    obtain ⟨rfl, rfl⟩ : va = some ⟨g, 0, none⟩ ∧ vc = cap := by cases hva; exact ⟨rfl, rfl⟩
    have d0 : w2.cell? ⟨g, 0, none⟩ = some (.int .u8 (b : Int)) := (World.ownsRow.cellAt HV.out 0 (by simp)).trans rfl
    have hcv := cvAt w2 g vc [b] (fun i h => by obtain rfl : i = 0 := by simpa using h
                                                exact d0)
    have hadd := addT [92] [b] (by simp)
    rw [show ofT [92] = ⟨#[92]⟩ from rfl] at hadd
    have HF := Lib.hid (fourteen_calls b)
    have hY := HG.out
    rw [if_neg h256, if_neg (fun h => h rfl)] at hY
    simp only at hY
    clear HG h256 HV hva HL HT h1
    rw [show [b].length = 1 from rfl] at *
    have hY1 : ¬ (four14 b = true ∧ b ≠ 93 ∧ b ≠ 125) → ofT Y = ofT [b] := fun h => by rw [hY, if_neg h]
    have hY2 : (four14 b = true ∧ b ≠ 93 ∧ b ≠ 125) → ofT Y = ofT ([92] ++ [b]) := fun h => by rw [hY, if_pos h]; rfl
    clear hY
    generalize ofT ([92] ++ [b]) = t2 at *
    generalize ofT [b] = t1 at *
    cases hf : four14 b with
    | false =>
      rw [hf] at HF
      have HY := Lib.hid (hY1 (by rw [hf]; intro h; cases h.1))
      clear hY1 hY2 hf
      go_wp2_with fail
      refine (HF.out _).mono ?_
      rintro e w3 ⟨rfl, rfl⟩
      go_wp2_with fail
      go_ret
      exact ⟨by rw [HY.out] <;> rfl, hB1⟩
    | true =>
      rw [hf] at HF
      by_cases h93 : b = 93
      · subst h93
        have HY := Lib.hid (hY1 (fun h => h.2.1 rfl))
        clear hY1 hY2 hf
        go_wp2_with fail
        refine (HF.out _).mono ?_
        rintro e w3 ⟨rfl, rfl⟩
        go_wp2_with fail
        go_ret
        exact ⟨by rw [HY.out] <;> rfl, hB1⟩
      have q3 : ((b : Int) != 93) = true := by rw [bne_iff_ne]; omega
      by_cases h125 : b = 125
      · subst h125
        have HY := Lib.hid (hY1 (fun h => h.2.2 rfl))
        clear hY1 hY2 hf
        go_wp2_with fail
        refine (HF.out _).mono ?_
        rintro e w3 ⟨rfl, rfl⟩
        go_wp2_with fail
        go_ret
        exact ⟨by rw [HY.out] <;> rfl, hB1⟩
      have q4 : ((b : Int) != 125) = true := by rw [bne_iff_ne]; omega
      have HY := Lib.hid (hY2 ⟨hf, h93, h125⟩)
      clear hY1 hY2 hf h93 h125
      go_wp2_with fail
      refine (HF.out _).mono ?_
      rintro e w3 ⟨rfl, rfl⟩
      go_wp2_with fail
      go_ret
      exact ⟨by rw [HY.out] <;> rfl, hB1⟩
  · have q1 : ((l.length : Int) != 1) = true := by rw [bne_iff_ne]; omega
    obtain rfl : Y = T := by rw [HG.out, if_neg h256, if_pos h1]
    clear HG h256 h1 HL HV
    generalize l.length = n at *
    go_wp2_with fail
    refine (HT.out _).mono ?_
    rintro e w3 ⟨rfl, hb⟩
    have hB2 := hB1.trans (hb.mono (by omega))
    clear hB1 hb
    go_wp2_with fail
    go_ret
    exact ⟨rfl, hB2⟩
end Go.Proofs.YtbccojjcdcighaaGreatDoor

namespace Go.Proofs.YtbccojjcdcighaaGreatDoor
open Go.RowKit BS
end Go.Proofs.YtbccojjcdcighaaGreatDoor

namespace Go.Proofs.YtbccojjcdcighaaGreatDoor
open Go.RowKit BS
end Go.Proofs.YtbccojjcdcighaaGreatDoor

namespace Go.Proofs.YtbccojjcdcighaaGreatDoor
open Go.RowKit BS
end Go.Proofs.YtbccojjcdcighaaGreatDoor

namespace Go.Proofs.YtbccojjcdcighaaGreatDoor
open Go.RowKit Go.Shelf BS
@[reducible] def rgA (X : WN × Nat × Nat) (l : ByteArray) : Array Value := rgI X.1.kind X.1.pos X.1.fin X.1.set X.1.n X.1.m X.2.1 X.2.2 l
theorem rgA_one (t : BitVec 256) (a : Nat) (l : ByteArray) : rgA (oneW t a (a + 1), 0, 0) l = rgI 1 a ((a : Int) + 1) t 0 0 0 0 l := by
  have e : ((a + 1 : Nat) : Int) = (a : Int) + 1 := by omega
  show rgI 1 a ((a + 1 : Nat) : Int) t 0 0 0 0 l = _
  rw [e]
theorem rgA_two (t : BitVec 256) (a : Nat) (l : ByteArray) : rgA (oneW t a (a + 2), 0, 0) l = rgI 1 a ((a : Int) + 2) t 0 0 0 0 l := by
  have e : ((a + 2 : Nat) : Int) = (a : Int) + 2 := by omega
  show rgI 1 a ((a + 2 : Nat) : Int) t 0 0 0 0 l = _
  rw [e]
set_option maxRecDepth 100000 in
set_option maxHeartbeats 8000000 in
theorem inB5_calls (s : ByteArray) (hs : s.size ≤ 1000000) (a : Nat) (w : World) : Calls Tryz.prog 188 #[.string s, .int .i64 a] w fun en w' => en = .returned (.agg (rgA (brkW s a) (wholeD s a).lack)) ∧ Below w.heap.size w w' := by
  obtain ⟨t, p, e, k, hR⟩ : ∃ t p e k, readR s a = (t, p, e, k) := ⟨_, _, _, _, rfl⟩
  have hL := lackE s a t p e k _ hR rfl
  have HRD := Lib.hid (fun w => dRead s hs a t p e k hR w)
  have HLK := Lib.hid (fun w => lackD_calls s hs a w)
  have hY : brkW s a = if e ≠ 0 then (zWN, e, k) else (oneW t a p, 0, 0) := by unfold brkW; rw [hR]
  generalize (wholeD s a).lack = l at *
  generalize brkW s a = Y at *
  clear hR
  have HL := Lib.hid hL
  have HY := Lib.hid hY
  clear hL hY
  have HR := Lib.hid (Blk.new w (rgZ 0 0 0 0 0 0 0 eT) 142)
  have HB : Hid (Below w.heap.size w (w.alloc (.cells (rgZ 0 0 0 0 0 0 0 eT) 142))) := Lib.hid (by go_grown)
  have hz : w.heap.size + 1 ≤ (w.alloc (.cells (rgZ 0 0 0 0 0 0 0 eT) 142)).heap.size := by simp
  go_enter Tryz.func188, Tryz.ntmps188
  go_upto_region 1 with fail
  have e0 : w.alloc (.cells #[.int .i64 0, .int .i64 0, .int .i64 0, .int .u64 0, .int .u64 0, .int .u64 0, .int .u64 0, .int .i64 0, .int .i64 0, .int .i64 0, .int .i64 0, .string ⟨#[]⟩] 142) = w.alloc (.cells (rgZ 0 0 0 0 0 0 0 eT) 142) := rfl
  try rw [e0]
  clear e0
  generalize w.alloc (.cells (rgZ 0 0 0 0 0 0 0 eT) 142) = w1 at *
  go_wp2_with fail
  refine (HRD.out _).mono ?_
  rintro en w2 ⟨rfl, hb⟩
  replace HR := Lib.hid (HR.out.below hb (Blk.lt HR.out))
  replace HB := Lib.hid (HB.out.trans (hb.mono (by omega)))
  replace hz := Nat.le_trans hz hb.size
  clear hb HRD
  go_upto_region 2 with fail
  have HC := Lib.hid (Blk.new w2 (setA t) 43)
  have hwB : w.heap.size < w2.heap.size := by omega
  replace HR := Lib.hid (HR.out.alloc (.cells (setA t) 43))
  replace HB := Lib.hid (HB.out.alloc (by omega) (.cells (setA t) 43))
  have e0 : w2.alloc (.cells #[.int .u64 (wd t 0), .int .u64 (wd t 1), .int .u64 (wd t 2), .int .u64 (wd t 3)] 43) = w2.alloc (.cells (setA t) 43) := rfl
  try rw [e0]
  clear e0
  have hz3 : w.heap.size + 1 ≤ (w2.alloc (.cells (setA t) 43)).heap.size := by simp; omega
  generalize w2.alloc (.cells (setA t) 43) = w3 at *
  generalize w2.heap.size = B at *
  by_cases he : e = 0
  · subst he
    have hl : l = eT := by
      rcases HL.out with h | h
      · exact h.2
      · exact absurd h.1 (by decide)
    have hY : Y = (oneW t a p, 0, 0) := by rw [HY.out, if_neg (by decide)]
    subst hl hY
    have HO := Lib.hid (fun w => oneOf5_calls t a p w)
    obtain ⟨⟨c0, c1, c2, c3⟩, _⟩ := HC.out.cells4
    clear HL HY HLK hz
    go_wp2_with fail
    refine (HO.out _).mono ?_
    rintro en w4 ⟨rfl, hb⟩
    replace HR := Lib.hid (HR.out.below hb (Blk.lt HR.out))
    replace HB := Lib.hid (HB.out.trans (hb.mono (by omega)))
    clear hb HO c0 c1 c2 c3 HC
    go_wp2_with ((with_reducible refine wpList_store_st (o := ⟨none, .store 142 _ _, _, _, _, _⟩) rfl 142 _ _ rfl w.heap.size rfl rfl (run_storeAt_row _ w.heap.size 142 142 (rgZ 0 0 0 0 0 0 0 eT) (rgI 1 a p t 0 0 0 0 eT) ?_ ?_ ?_ ?_) ?_); exact HR.out; exact infoRg; rfl; exact rg_one _ _ _ _ _ _ _ _ _)
    exact bodyPost_ret (v := .agg (rgI 1 a p t 0 0 0 0 eT)) (results_cell_row rfl _ _ w.heap.size 142 (rgI 1 a p t 0 0 0 0 eT) (0, 0) _ rfl (Blk.setRow HR.out) Tryz.underlying142 rfl infoRg) rfl ⟨rfl, below_row HB.out (Nat.le_refl _) _⟩
  · have q : ((e : Int) != 0) = true := by rw [bne_iff_ne]; omega
    have hY : Y = (zWN, e, k) := by rw [HY.out, if_pos he]
    subst hY
    clear HL HY HC hz he
    go_wp2_with fail
    refine (HLK.out _).mono ?_
    rintro en w4 ⟨rfl, hb⟩
    replace HR := Lib.hid (HR.out.below hb (Blk.lt HR.out))
    replace HB := Lib.hid (HB.out.trans (hb.mono (by omega)))
    clear hb HLK
    go_wp2_with ((with_reducible refine wpList_store_st (o := ⟨none, .store 142 _ _, _, _, _, _⟩) rfl 142 _ _ rfl w.heap.size rfl rfl (run_storeAt_row _ w.heap.size 142 142 (rgZ 0 0 0 0 0 0 0 eT) (rgZ 0 0 0 0 0 e k l) ?_ ?_ ?_ ?_) ?_); exact HR.out; exact infoRg; rfl; exact rg_one _ _ _ 0 _ _ _ _ _)
    exact bodyPost_ret (v := .agg (rgZ 0 0 0 0 0 e k l)) (results_cell_row rfl _ _ w.heap.size 142 (rgZ 0 0 0 0 0 e k l) (0, 0) _ rfl (Blk.setRow HR.out) Tryz.underlying142 rfl infoRg) rfl ⟨by rw [rgZ_eq]; rfl, below_row HB.out (Nat.le_refl _) _⟩
def lackS (s : ByteArray) (a : Nat) : ByteArray := if s.size ≤ a + 1 then ofT [46] else eT
set_option maxRecDepth 100000 in
set_option maxHeartbeats 8000000 in
theorem esc5_calls (s : ByteArray) (hs : s.size ≤ 1000000) (a : Nat) (ha : a < s.size) (w : World) : Calls Tryz.prog 189 #[.string s, .int .i64 a] w fun en w' => en = .returned (.agg (rgA (slashW s a) (lackS s a))) ∧ Below w.heap.size w w' := by
  have x2 : IntKind.i64.wrap ((a : Int) + 2) = (a : Int) + 2 := IntWalk.i64_in _ (by omega)
  have x1 : IntKind.i64.wrap ((a : Int) + 1) = (a : Int) + 1 := IntWalk.i64_in _ (by omega)
  have xs : IntKind.i64.wrap (s.size : Int) = s.size := IntWalk.i64_in _ (by omega)
  have HY := Lib.hid (show slashW s a = if s.size ≤ a + 1 then (zWN, 2, s.size) else if four14 (bt s (a + 1)) = false then (zWN, 3, a + 2) else (oneW (range (bt s (a + 1)) (bt s (a + 1))) a (a + 2), 0, 0) from rfl)
  have HL := Lib.hid (show lackS s a = if s.size ≤ a + 1 then ofT [46] else eT from rfl)
  generalize slashW s a = Y at *
  generalize lackS s a = l at *
  have HR := Lib.hid (Blk.new w (rgZ 0 0 0 0 0 0 0 eT) 142)
  have HB : Hid (Below w.heap.size w (w.alloc (.cells (rgZ 0 0 0 0 0 0 0 eT) 142))) := Lib.hid (by go_grown)
  have hz : w.heap.size + 1 ≤ (w.alloc (.cells (rgZ 0 0 0 0 0 0 0 eT) 142)).heap.size := by simp
  go_enter Tryz.func189, Tryz.ntmps189
  go_upto_region 1 with fail
  have e0 : w.alloc (.cells #[.int .i64 0, .int .i64 0, .int .i64 0, .int .u64 0, .int .u64 0, .int .u64 0, .int .u64 0, .int .i64 0, .int .i64 0, .int .i64 0, .int .i64 0, .string ⟨#[]⟩] 142) = w.alloc (.cells (rgZ 0 0 0 0 0 0 0 eT) 142) := rfl
  try rw [e0]
  clear e0
  generalize w.alloc (.cells (rgZ 0 0 0 0 0 0 0 eT) 142) = w1 at *
  by_cases hs1 : s.size ≤ a + 1
  · have q : decide ((s.size : Int) < (a : Int) + 2) = true := by rw [decide_eq_true_iff]; omega
    have hY : Y = (zWN, 2, s.size) := by rw [HY.out, if_pos hs1]
    have hl : l = ofT [46] := by rw [HL.out, if_pos hs1]
    subst hY hl
    clear HY HL hs1
    have hsl : ∀ w', (Instr.slice 9 (.string ⟨#[46, 91, 93, 92, 40, 41, 42, 43, 63, 123, 125, 124, 94, 36]⟩) none (some (.int .i64 1)) none).run Tryz.prog w' = .ok (.string (ofT [46])) w' := fun w' => by kernel_rfl
    go_wp2_with ((with_reducible refine wpList_store_st (o := ⟨none, .store 142 _ _, _, _, _, _⟩) rfl 142 _ _ rfl w.heap.size rfl rfl (run_storeAt_row _ w.heap.size 142 142 (rgZ 0 0 0 0 0 0 0 eT) (rgZ 0 0 0 0 0 2 s.size (ofT [46])) ?_ ?_ ?_ ?_) ?_); exact HR.out; exact infoRg; rfl; exact rg_one _ _ _ 0 _ _ _ _ _)
    exact bodyPost_ret (v := .agg (rgZ 0 0 0 0 0 2 s.size (ofT [46]))) (results_cell_row rfl _ _ w.heap.size 142 (rgZ 0 0 0 0 0 2 s.size (ofT [46])) (0, 0) _ rfl (Blk.setRow HR.out) Tryz.underlying142 rfl infoRg) rfl ⟨by rw [rgZ_eq]; rfl, below_row HB.out (Nat.le_refl _) _⟩
  have q : decide ((s.size : Int) < (a : Int) + 2) = false := by rw [decide_eq_false_iff_not]; omega
  have hl : l = eT := by rw [HL.out, if_neg hs1]
  subst hl
  clear HL
  have hlt : a + 1 < s.size := by omega
  have h0 : s[a + 1].toNat = bt s (a + 1) := (bt_eq s (a + 1) hlt).symm
  have hl0 := bt_lt s (a + 1)
  have HSG := Lib.hid (isSign_calls (bt s (a + 1)) hl0)
  generalize bt s (a + 1) = b at *
  cases hf : four14 b with
  | false =>
    have hY : Y = (zWN, 3, a + 2) := by rw [HY.out, if_neg hs1, if_pos hf]
    subst hY
    rw [hf] at HSG
    have HF := Lib.hid (fun w => fault5_calls 3 ((a : Int) + 2) w)
    clear HY hs1 hf
    go_wp2_with fail
    refine (HSG.out _).mono ?_
    rintro en w2 ⟨rfl, rfl⟩
    go_wp2_with fail
    refine (HF.out _).mono ?_
    rintro en w4 ⟨rfl, hb⟩
    replace HR := Lib.hid (HR.out.below hb (Blk.lt HR.out))
    replace HB := Lib.hid (HB.out.trans (hb.mono (by omega)))
    replace hz := Nat.le_trans hz hb.size
    clear hb HF
    go_wp2_with ((with_reducible refine wpList_store_st (o := ⟨none, .store 142 _ _, _, _, _, _⟩) rfl 142 _ _ rfl w.heap.size rfl rfl (run_storeAt_row _ w.heap.size 142 142 (rgZ 0 0 0 0 0 0 0 eT) (rgZ 0 0 0 0 0 3 ((a : Int) + 2) eT) ?_ ?_ ?_ ?_) ?_); exact HR.out; exact infoRg; rfl; exact rg_one _ _ _ 0 _ _ _ _ _)
    exact bodyPost_ret (v := .agg (rgZ 0 0 0 0 0 3 ((a : Int) + 2) eT)) (results_cell_row rfl _ _ w.heap.size 142 (rgZ 0 0 0 0 0 3 ((a : Int) + 2) eT) (0, 0) _ rfl (Blk.setRow HR.out) Tryz.underlying142 rfl infoRg) rfl ⟨by rw [rgZ_eq]; rfl, below_row HB.out (Nat.le_refl _) _⟩
  | true =>
    have hY : Y = (oneW (range b b) a (a + 2), 0, 0) := by rw [HY.out, if_neg hs1, if_neg (by rw [hf]; decide)]
    subst hY
    rw [hf] at HSG
    have HWT := Lib.hid (fun W t => dWith_calls W t b hl0)
    generalize hT : range b b = t at *
    have HTT := Lib.hid hT
    clear hT
    have HO := Lib.hid (fun w => oneOf5_calls t a ((a : Int) + 2) w)
    clear HY hs1 hf
    go_wp2_with fail
    refine (HSG.out _).mono ?_
    rintro en w2 ⟨rfl, rfl⟩
    clear HSG
    go_wp2_with fail
    replace HR := Lib.hid (HR.out.alloc (.cells #[.int .u8 b] 5))
    replace HB := Lib.hid (HB.out.alloc (by omega) (.cells #[.int .u8 b] 5))
    have hz3 : w.heap.size + 1 ≤ (w1.alloc (.cells #[.int .u8 b] 5)).heap.size := by simp; omega
    clear hz
    have hz := hz3
    clear hz3
    refine Calls.mono (HWT.out w1 _) ?_
    rintro en w4 ⟨rfl, hb⟩
    replace HR := Lib.hid (HR.out.below hb (Blk.lt HR.out))
    replace HB := Lib.hid (HB.out.trans (hb.mono (by omega)))
    replace hz := Nat.le_trans hz hb.size
    clear hb HWT
    go_wp2_with fail
    refine (HO.out _).mono ?_
    rintro en w5 ⟨rfl, hb⟩
    replace HR := Lib.hid (HR.out.below hb (Blk.lt HR.out))
    replace HB := Lib.hid (HB.out.trans (hb.mono (by omega)))
    replace hz := Nat.le_trans hz hb.size
    clear hb HO
    go_wp2_with ((with_reducible refine wpList_store_st (o := ⟨none, .store 142 _ _, _, _, _, _⟩) rfl 142 _ _ rfl w.heap.size rfl rfl (run_storeAt_row _ w.heap.size 142 142 (rgZ 0 0 0 0 0 0 0 eT) (rgI 1 a ((a : Int) + 2) t 0 0 0 0 eT) ?_ ?_ ?_ ?_) ?_); exact HR.out; exact infoRg; rfl; exact rg_one _ _ _ _ _ _ _ _ _)
    exact bodyPost_ret (v := .agg (rgI 1 a ((a : Int) + 2) t 0 0 0 0 eT)) (results_cell_row rfl _ _ w.heap.size 142 (rgI 1 a ((a : Int) + 2) t 0 0 0 0 eT) (0, 0) _ rfl (Blk.setRow HR.out) Tryz.underlying142 rfl infoRg) rfl ⟨by rw [rgA_two, HTT.out], below_row HB.out (Nat.le_refl _) _⟩
set_option maxRecDepth 100000 in
set_option maxHeartbeats 8000000 in
theorem openBegins_calls (b : Nat) (w : World) : Calls Tryz.prog 157 #[.agg #[], .int .u8 b] w fun en w' => en = .returned (.bool (b == 40)) ∧ Below w.heap.size w w' := by
  have q : ((b : Int) == 40) = (b == 40) := by rw [Bool.eq_iff_iff, beq_iff_eq, beq_iff_eq]; omega
  go_enter Tryz.func157, Tryz.ntmps157
  go_wp2_with fail
  go_ret
  exact ⟨rfl, by go_grown⟩
set_option maxRecDepth 100000 in
set_option maxHeartbeats 8000000 in
theorem openRead_calls (s : ByteArray) (hs : s.size ≤ 1000000) (a : Nat) (ha : a < s.size) (w : World) : Calls Tryz.prog 160 #[.agg #[], .string s, .int .i64 a] w fun en w' => en = .returned (.agg (rgA ((⟨2, a, a + 1, 0, 0, 0⟩, 0, 0)) eT)) ∧ Below w.heap.size w w' := by
  have HS := Lib.hid (fun w => sign5_calls 2 a (by omega) w)
  have HR := Lib.hid (Blk.new (w.alloc (.cells #[] 174)) (rgZ 0 0 0 0 0 0 0 eT) 142)
  rw [World.size_alloc] at HR
  have HB : Hid (Below w.heap.size w ((w.alloc (.cells #[] 174)).alloc (.cells (rgZ 0 0 0 0 0 0 0 eT) 142))) := Lib.hid (by go_grown)
  have hz : w.heap.size + 2 ≤ ((w.alloc (.cells #[] 174)).alloc (.cells (rgZ 0 0 0 0 0 0 0 eT) 142)).heap.size := by simp
  go_enter Tryz.func160, Tryz.ntmps160
  go_upto_region 1 with fail
  have e0 : (w.alloc (.cells #[] 174)).alloc (.cells #[.int .i64 0, .int .i64 0, .int .i64 0, .int .u64 0, .int .u64 0, .int .u64 0, .int .u64 0, .int .i64 0, .int .i64 0, .int .i64 0, .int .i64 0, .string ⟨#[]⟩] 142) = (w.alloc (.cells #[] 174)).alloc (.cells (rgZ 0 0 0 0 0 0 0 eT) 142) := rfl
  try rw [e0]
  clear e0
  generalize (w.alloc (.cells #[] 174)).alloc (.cells (rgZ 0 0 0 0 0 0 0 eT) 142) = w1 at *
  generalize hBB : w.heap.size + 1 = BB at HR
  have hBB2 : w.heap.size ≤ BB := by omega
  go_wp2_with fail
  refine (HS.out _).mono ?_
  rintro en w2 ⟨rfl, hb⟩
  replace HR := Lib.hid (HR.out.below hb (Blk.lt HR.out))
  replace HB := Lib.hid (HB.out.trans (hb.mono (by omega)))
  replace hz := Nat.le_trans hz hb.size
  clear hb HS
  go_wp2_with ((with_reducible refine wpList_store_st (o := ⟨none, .store 142 _ _, _, _, _, _⟩) rfl 142 _ _ rfl BB rfl rfl (run_storeAt_row _ BB 142 142 (rgZ 0 0 0 0 0 0 0 eT) (rgZ 2 a ((a : Int) + 1) 0 0 0 0 eT) ?_ ?_ ?_ ?_) ?_); exact HR.out; exact infoRg; rfl; exact rg_one _ _ _ 0 _ _ _ _ _)
  exact bodyPost_ret (v := .agg (rgZ 2 a ((a : Int) + 1) 0 0 0 0 eT)) (results_cell_row rfl _ _ BB 142 (rgZ 2 a ((a : Int) + 1) 0 0 0 0 eT) (0, 0) _ rfl (Blk.setRow HR.out) Tryz.underlying142 rfl infoRg) rfl ⟨by rw [rgZ_eq]; rfl, below_row HB.out hBB2 _⟩
set_option maxRecDepth 100000 in
set_option maxHeartbeats 8000000 in
theorem shutBegins_calls (b : Nat) (w : World) : Calls Tryz.prog 162 #[.agg #[], .int .u8 b] w fun en w' => en = .returned (.bool (b == 41)) ∧ Below w.heap.size w w' := by
  have q : ((b : Int) == 41) = (b == 41) := by rw [Bool.eq_iff_iff, beq_iff_eq, beq_iff_eq]; omega
  go_enter Tryz.func162, Tryz.ntmps162
  go_wp2_with fail
  go_ret
  exact ⟨rfl, by go_grown⟩
set_option maxRecDepth 100000 in
set_option maxHeartbeats 8000000 in
theorem shutRead_calls (s : ByteArray) (hs : s.size ≤ 1000000) (a : Nat) (ha : a < s.size) (w : World) : Calls Tryz.prog 165 #[.agg #[], .string s, .int .i64 a] w fun en w' => en = .returned (.agg (rgA ((⟨3, a, a + 1, 0, 0, 0⟩, 0, 0)) eT)) ∧ Below w.heap.size w w' := by
  have HS := Lib.hid (fun w => sign5_calls 3 a (by omega) w)
  have HR := Lib.hid (Blk.new (w.alloc (.cells #[] 175)) (rgZ 0 0 0 0 0 0 0 eT) 142)
  rw [World.size_alloc] at HR
  have HB : Hid (Below w.heap.size w ((w.alloc (.cells #[] 175)).alloc (.cells (rgZ 0 0 0 0 0 0 0 eT) 142))) := Lib.hid (by go_grown)
  have hz : w.heap.size + 2 ≤ ((w.alloc (.cells #[] 175)).alloc (.cells (rgZ 0 0 0 0 0 0 0 eT) 142)).heap.size := by simp
  go_enter Tryz.func165, Tryz.ntmps165
  go_upto_region 1 with fail
  have e0 : (w.alloc (.cells #[] 175)).alloc (.cells #[.int .i64 0, .int .i64 0, .int .i64 0, .int .u64 0, .int .u64 0, .int .u64 0, .int .u64 0, .int .i64 0, .int .i64 0, .int .i64 0, .int .i64 0, .string ⟨#[]⟩] 142) = (w.alloc (.cells #[] 175)).alloc (.cells (rgZ 0 0 0 0 0 0 0 eT) 142) := rfl
  try rw [e0]
  clear e0
  generalize (w.alloc (.cells #[] 175)).alloc (.cells (rgZ 0 0 0 0 0 0 0 eT) 142) = w1 at *
  generalize hBB : w.heap.size + 1 = BB at HR
  have hBB2 : w.heap.size ≤ BB := by omega
  go_wp2_with fail
  refine (HS.out _).mono ?_
  rintro en w2 ⟨rfl, hb⟩
  replace HR := Lib.hid (HR.out.below hb (Blk.lt HR.out))
  replace HB := Lib.hid (HB.out.trans (hb.mono (by omega)))
  replace hz := Nat.le_trans hz hb.size
  clear hb HS
  go_wp2_with ((with_reducible refine wpList_store_st (o := ⟨none, .store 142 _ _, _, _, _, _⟩) rfl 142 _ _ rfl BB rfl rfl (run_storeAt_row _ BB 142 142 (rgZ 0 0 0 0 0 0 0 eT) (rgZ 3 a ((a : Int) + 1) 0 0 0 0 eT) ?_ ?_ ?_ ?_) ?_); exact HR.out; exact infoRg; rfl; exact rg_one _ _ _ 0 _ _ _ _ _)
  exact bodyPost_ret (v := .agg (rgZ 3 a ((a : Int) + 1) 0 0 0 0 eT)) (results_cell_row rfl _ _ BB 142 (rgZ 3 a ((a : Int) + 1) 0 0 0 0 eT) (0, 0) _ rfl (Blk.setRow HR.out) Tryz.underlying142 rfl infoRg) rfl ⟨by rw [rgZ_eq]; rfl, below_row HB.out hBB2 _⟩
set_option maxRecDepth 100000 in
set_option maxHeartbeats 8000000 in
theorem barBegins_calls (b : Nat) (w : World) : Calls Tryz.prog 166 #[.agg #[], .int .u8 b] w fun en w' => en = .returned (.bool (b == 124)) ∧ Below w.heap.size w w' := by
  have q : ((b : Int) == 124) = (b == 124) := by rw [Bool.eq_iff_iff, beq_iff_eq, beq_iff_eq]; omega
  go_enter Tryz.func166, Tryz.ntmps166
  go_wp2_with fail
  go_ret
  exact ⟨rfl, by go_grown⟩
set_option maxRecDepth 100000 in
set_option maxHeartbeats 8000000 in
theorem barRead_calls (s : ByteArray) (hs : s.size ≤ 1000000) (a : Nat) (ha : a < s.size) (w : World) : Calls Tryz.prog 169 #[.agg #[], .string s, .int .i64 a] w fun en w' => en = .returned (.agg (rgA ((⟨4, a, a + 1, 0, 0, 0⟩, 0, 0)) eT)) ∧ Below w.heap.size w w' := by
  have HS := Lib.hid (fun w => sign5_calls 4 a (by omega) w)
  have HR := Lib.hid (Blk.new (w.alloc (.cells #[] 176)) (rgZ 0 0 0 0 0 0 0 eT) 142)
  rw [World.size_alloc] at HR
  have HB : Hid (Below w.heap.size w ((w.alloc (.cells #[] 176)).alloc (.cells (rgZ 0 0 0 0 0 0 0 eT) 142))) := Lib.hid (by go_grown)
  have hz : w.heap.size + 2 ≤ ((w.alloc (.cells #[] 176)).alloc (.cells (rgZ 0 0 0 0 0 0 0 eT) 142)).heap.size := by simp
  go_enter Tryz.func169, Tryz.ntmps169
  go_upto_region 1 with fail
  have e0 : (w.alloc (.cells #[] 176)).alloc (.cells #[.int .i64 0, .int .i64 0, .int .i64 0, .int .u64 0, .int .u64 0, .int .u64 0, .int .u64 0, .int .i64 0, .int .i64 0, .int .i64 0, .int .i64 0, .string ⟨#[]⟩] 142) = (w.alloc (.cells #[] 176)).alloc (.cells (rgZ 0 0 0 0 0 0 0 eT) 142) := rfl
  try rw [e0]
  clear e0
  generalize (w.alloc (.cells #[] 176)).alloc (.cells (rgZ 0 0 0 0 0 0 0 eT) 142) = w1 at *
  generalize hBB : w.heap.size + 1 = BB at HR
  have hBB2 : w.heap.size ≤ BB := by omega
  go_wp2_with fail
  refine (HS.out _).mono ?_
  rintro en w2 ⟨rfl, hb⟩
  replace HR := Lib.hid (HR.out.below hb (Blk.lt HR.out))
  replace HB := Lib.hid (HB.out.trans (hb.mono (by omega)))
  replace hz := Nat.le_trans hz hb.size
  clear hb HS
  go_wp2_with ((with_reducible refine wpList_store_st (o := ⟨none, .store 142 _ _, _, _, _, _⟩) rfl 142 _ _ rfl BB rfl rfl (run_storeAt_row _ BB 142 142 (rgZ 0 0 0 0 0 0 0 eT) (rgZ 4 a ((a : Int) + 1) 0 0 0 0 eT) ?_ ?_ ?_ ?_) ?_); exact HR.out; exact infoRg; rfl; exact rg_one _ _ _ 0 _ _ _ _ _)
  exact bodyPost_ret (v := .agg (rgZ 4 a ((a : Int) + 1) 0 0 0 0 eT)) (results_cell_row rfl _ _ BB 142 (rgZ 4 a ((a : Int) + 1) 0 0 0 0 eT) (0, 0) _ rfl (Blk.setRow HR.out) Tryz.underlying142 rfl infoRg) rfl ⟨by rw [rgZ_eq]; rfl, below_row HB.out hBB2 _⟩
set_option maxRecDepth 100000 in
set_option maxHeartbeats 8000000 in
theorem repBegins_calls (b : Nat) (hb : b < 256) (w : World) : Calls Tryz.prog 170 #[.agg #[], .int .u8 b] w fun en w' => en = .returned (.bool ([42, 43, 63, 123].contains b)) ∧ Below w.heap.size w w' := by
  have HS := Lib.hid (isRep_calls b hb)
  generalize ([42, 43, 63, 123].contains b) = x at *
  go_enter Tryz.func170, Tryz.ntmps170
  go_wp2_with fail
  refine (HS.out _).mono ?_
  rintro en w2 ⟨rfl, rfl⟩
  clear HS
  go_wp2_with fail
  go_ret
  exact ⟨rfl, by go_grown⟩
set_option maxRecDepth 100000 in
set_option maxHeartbeats 8000000 in
theorem oneBegins_calls (b : Nat) (w : World) : Calls Tryz.prog 184 #[.agg #[], .int .u8 b] w fun en w' => en = .returned (.bool (b != 94 && b != 36)) ∧ Below w.heap.size w w' := by
  have q : ((b : Int) != 94) = (b != 94) := by rw [Bool.eq_iff_iff, bne_iff_ne, bne_iff_ne]; omega
  have q2 : ((b : Int) != 36) = (b != 36) := by rw [Bool.eq_iff_iff, bne_iff_ne, bne_iff_ne]; omega
  cases h : (b != 94) with
  | false =>
    rw [h] at q
    clear h
    go_enter Tryz.func184, Tryz.ntmps184
    go_wp2_with fail
    go_ret
    exact ⟨rfl, by go_grown⟩
  | true =>
    rw [h] at q
    clear h
    go_enter Tryz.func184, Tryz.ntmps184
    go_wp2_with fail
    go_ret
    exact ⟨rfl, by go_grown⟩
set_option maxRecDepth 100000 in
set_option maxHeartbeats 8000000 in
theorem repRead_calls (s : ByteArray) (hs : s.size ≤ 1000000) (a : Nat) (w : World) : Calls Tryz.prog 173 #[.agg #[], .string s, .int .i64 a] w fun en w' => en = .returned (.agg (rgA (cntW s a) (ofT (readD4 s a).lack))) ∧ Below w.heap.size w w' := by
  have h1 := bRead_calls s hs a
  have hL := (lackN_read s a).1
  have HLK := Lib.hid (fun w => lackD4_calls s hs a w)
  have hY : cntW s a = if (readN s a).2.2.2.1 ≠ 0 then (zWN, (readN s a).2.2.2.1, (readN s a).2.2.2.2) else (⟨5, a, (readN s a).2.2.1, 0, (readN s a).1, (readN s a).2.1⟩, 0, 0) := rfl
  generalize readN s a = R at *
  obtain ⟨n, m, p, e, k⟩ := R
  have HRD : Hid (∀ w, Calls Tryz.prog 174 #[.string s, .int .i64 a] w fun e' w' => e' = .returned (.tuple #[.agg #[.int .i64 n, .int .i64 m], .int .i64 p, .int .i64 e, .int .i64 k]) ∧ Below w.heap.size w w') := Lib.hid h1
  clear h1
  have HY : Hid (cntW s a = if e ≠ 0 then (zWN, e, k) else (⟨5, a, p, 0, n, m⟩, 0, 0)) := Lib.hid hY
  have HL : Hid (e ≠ 2 → ofT (readD4 s a).lack = eT) := Lib.hid hL
  clear hL hY
  generalize ofT (readD4 s a).lack = l at *
  generalize cntW s a = Y at *
  have HR := Lib.hid (Blk.new (w.alloc (.cells #[] 177)) (rgZ 0 0 0 0 0 0 0 eT) 142)
  rw [World.size_alloc] at HR
  have HB : Hid (Below w.heap.size w ((w.alloc (.cells #[] 177)).alloc (.cells (rgZ 0 0 0 0 0 0 0 eT) 142))) := Lib.hid (by go_grown)
  have hz : w.heap.size + 2 ≤ ((w.alloc (.cells #[] 177)).alloc (.cells (rgZ 0 0 0 0 0 0 0 eT) 142)).heap.size := by simp
  go_enter Tryz.func173, Tryz.ntmps173
  go_upto_region 1 with fail
  have e0 : (w.alloc (.cells #[] 177)).alloc (.cells #[.int .i64 0, .int .i64 0, .int .i64 0, .int .u64 0, .int .u64 0, .int .u64 0, .int .u64 0, .int .i64 0, .int .i64 0, .int .i64 0, .int .i64 0, .string ⟨#[]⟩] 142) = (w.alloc (.cells #[] 177)).alloc (.cells (rgZ 0 0 0 0 0 0 0 eT) 142) := rfl
  try rw [e0]
  clear e0
  generalize (w.alloc (.cells #[] 177)).alloc (.cells (rgZ 0 0 0 0 0 0 0 eT) 142) = w1 at *
  generalize hBB : w.heap.size + 1 = BB at HR
  have hBB2 : w.heap.size ≤ BB := by omega
  go_wp2_with fail
  refine (HRD.out _).mono ?_
  rintro en w2 ⟨rfl, hb⟩
  replace HR := Lib.hid (HR.out.below hb (Blk.lt HR.out))
  replace HB := Lib.hid (HB.out.trans (hb.mono (by omega)))
  replace hz := Nat.le_trans hz hb.size
  clear hb HRD
  go_upto_region 2 with fail
  have HC := Lib.hid (Blk.new w2 (spI n m) 121)
  replace HR := Lib.hid (HR.out.alloc (.cells (spI n m) 121))
  replace HB := Lib.hid (HB.out.alloc (by omega) (.cells (spI n m) 121))
  have hz3 : w.heap.size + 1 ≤ (w2.alloc (.cells (spI n m) 121)).heap.size := by simp; omega
  generalize w2.alloc (.cells (spI n m) 121) = w3 at *
  generalize w2.heap.size = B at *
  by_cases he : e = 0
  · subst he
    have hl : l = eT := HL.out (by decide)
    have hY : Y = (⟨5, a, p, 0, n, m⟩, 0, 0) := by rw [HY.out, if_neg (by decide)]
    subst hl hY
    have c0 := HC.out.cell 0
    have c1 := HC.out.cell 1
    simp only [List.getElem?_toArray, List.getElem?_cons_zero, List.getElem?_cons_succ] at c0 c1
    clear HL HY HLK hz HC
    go_wp2_with ((with_reducible refine wpList_store_st (o := ⟨none, .store 142 _ _, _, _, _, _⟩) rfl 142 _ _ rfl BB rfl rfl (run_storeAt_row _ BB 142 142 (rgZ 0 0 0 0 0 0 0 eT) (rgZ 5 a p n m 0 0 eT) ?_ ?_ ?_ ?_) ?_); exact HR.out; exact infoRg; rfl; exact rg_one _ _ _ 0 _ _ _ _ _)
    exact bodyPost_ret (v := .agg (rgZ 5 a p n m 0 0 eT)) (results_cell_row rfl _ _ BB 142 (rgZ 5 a p n m 0 0 eT) (0, 0) _ rfl (Blk.setRow HR.out) Tryz.underlying142 rfl infoRg) rfl ⟨by rw [rgZ_eq]; rfl, below_row HB.out hBB2 _⟩
  · have q : ((e : Int) != 0) = true := by rw [bne_iff_ne]; omega
    have hY : Y = (zWN, e, k) := by rw [HY.out, if_pos he]
    subst hY
    clear HL HY HC hz he
    go_wp2_with fail
    refine (HLK.out _).mono ?_
    rintro en w4 ⟨rfl, hb⟩
    replace HR := Lib.hid (HR.out.below hb (Blk.lt HR.out))
    replace HB := Lib.hid (HB.out.trans (hb.mono (by omega)))
    clear hb HLK
    go_wp2_with ((with_reducible refine wpList_store_st (o := ⟨none, .store 142 _ _, _, _, _, _⟩) rfl 142 _ _ rfl BB rfl rfl (run_storeAt_row _ BB 142 142 (rgZ 0 0 0 0 0 0 0 eT) (rgZ 0 0 0 0 0 e k l) ?_ ?_ ?_ ?_) ?_); exact HR.out; exact infoRg; rfl; exact rg_one _ _ _ 0 _ _ _ _ _)
    exact bodyPost_ret (v := .agg (rgZ 0 0 0 0 0 e k l)) (results_cell_row rfl _ _ BB 142 (rgZ 0 0 0 0 0 e k l) (0, 0) _ rfl (Blk.setRow HR.out) Tryz.underlying142 rfl infoRg) rfl ⟨by rw [rgZ_eq]; rfl, below_row HB.out hBB2 _⟩
def oneR (s : ByteArray) (a : Nat) : WN × Nat × Nat :=
  if bt s a = 91 then brkW s a else if bt s a = 92 then slashW s a else if bt s a = 46 then (oneW (range 0 255) a (a + 1), 0, 0) else (oneW (range (bt s a) (bt s a)) a (a + 1), 0, 0)
def oneL (s : ByteArray) (a : Nat) : ByteArray := if bt s a = 91 then (wholeD s a).lack else if bt s a = 92 then lackS s a else eT
theorem anyS : (~~~(0 : BitVec 256)) = range 0 255 := by decide +kernel
set_option maxRecDepth 100000 in
set_option maxHeartbeats 8000000 in
theorem oneRead_calls (s : ByteArray) (hs : s.size ≤ 1000000) (a : Nat) (ha : a < s.size) (w : World) : Calls Tryz.prog 187 #[.agg #[], .string s, .int .i64 a] w fun en w' => en = .returned (.agg (rgA (oneR s a) (oneL s a))) ∧ Below w.heap.size w w' := by
  have x1 : IntKind.i64.wrap ((a : Int) + 1) = (a : Int) + 1 := IntWalk.i64_in _ (by omega)
  have h0 : s[a].toNat = bt s a := (bt_eq s a ha).symm
  have hl0 := bt_lt s a
  have HB1 := Lib.hid (fun w => inB5_calls s hs a w)
  have HE1 := Lib.hid (fun w => esc5_calls s hs a ha w)
  have HY := Lib.hid (show oneR s a = if bt s a = 91 then brkW s a else if bt s a = 92 then slashW s a else if bt s a = 46 then (oneW (range 0 255) a (a + 1), 0, 0) else (oneW (range (bt s a) (bt s a)) a (a + 1), 0, 0) from rfl)
  have HL := Lib.hid (show oneL s a = if bt s a = 91 then (wholeD s a).lack else if bt s a = 92 then lackS s a else eT from rfl)
  generalize oneR s a = Y at *
  generalize oneL s a = l at *
  generalize brkW s a = YB at *
  generalize (wholeD s a).lack = lB at *
  generalize slashW s a = YS at *
  generalize lackS s a = lS at *
  have HR := Lib.hid (Blk.new (w.alloc (.cells #[] 178)) (rgZ 0 0 0 0 0 0 0 eT) 142)
  rw [World.size_alloc] at HR
  have HB : Hid (Below w.heap.size w ((w.alloc (.cells #[] 178)).alloc (.cells (rgZ 0 0 0 0 0 0 0 eT) 142))) := Lib.hid (by go_grown)
  have hz : w.heap.size + 2 ≤ ((w.alloc (.cells #[] 178)).alloc (.cells (rgZ 0 0 0 0 0 0 0 eT) 142)).heap.size := by simp
  go_enter Tryz.func187, Tryz.ntmps187
  go_upto_region 1 with fail
  have e0 : (w.alloc (.cells #[] 178)).alloc (.cells #[.int .i64 0, .int .i64 0, .int .i64 0, .int .u64 0, .int .u64 0, .int .u64 0, .int .u64 0, .int .i64 0, .int .i64 0, .int .i64 0, .int .i64 0, .string ⟨#[]⟩] 142) = (w.alloc (.cells #[] 178)).alloc (.cells (rgZ 0 0 0 0 0 0 0 eT) 142) := rfl
  try rw [e0]
  clear e0
  generalize (w.alloc (.cells #[] 178)).alloc (.cells (rgZ 0 0 0 0 0 0 0 eT) 142) = w1 at *
  generalize hBB : w.heap.size + 1 = BB at HR
  have hBB2 : w.heap.size ≤ BB := by omega
  generalize bt s a = b at *
  by_cases h1 : b = 91
  · have q : ((b : Int) == 91) = true := by rw [beq_iff_eq]; omega
    obtain rfl : Y = YB := by rw [HY.out, if_pos h1]
    obtain rfl : l = lB := by rw [HL.out, if_pos h1]
    clear HY HL HE1 h1
    obtain ⟨⟨k, p, e, t, n, m⟩, er, pl⟩ := Y
    go_wp2_with fail
    refine (HB1.out _).mono ?_
    rintro en w2 ⟨rfl, hb⟩
    replace HR := Lib.hid (HR.out.below hb (Blk.lt HR.out))
    replace HB := Lib.hid (HB.out.trans (hb.mono (by omega)))
    replace hz := Nat.le_trans hz hb.size
    clear hb HB1
    go_wp2_with ((with_reducible refine wpList_store_st (o := ⟨none, .store 142 _ _, _, _, _, _⟩) rfl 142 _ _ rfl BB rfl rfl (run_storeAt_row _ BB 142 142 (rgZ 0 0 0 0 0 0 0 eT) (rgI k p e t n m er pl l) ?_ ?_ ?_ ?_) ?_); exact HR.out; exact infoRg; rfl; exact rg_one _ _ _ _ _ _ _ _ _)
    exact bodyPost_ret (v := .agg (rgI k p e t n m er pl l)) (results_cell_row rfl _ _ BB 142 (rgI k p e t n m er pl l) (0, 0) _ rfl (Blk.setRow HR.out) Tryz.underlying142 rfl infoRg) rfl ⟨rfl, below_row HB.out hBB2 _⟩
  have q : ((b : Int) == 91) = false := by rw [beq_eq_false_iff_ne]; omega
  by_cases h2 : b = 92
  · have q2 : ((b : Int) == 92) = true := by rw [beq_iff_eq]; omega
    obtain rfl : Y = YS := by rw [HY.out, if_neg h1, if_pos h2]
    obtain rfl : l = lS := by rw [HL.out, if_neg h1, if_pos h2]
    clear HY HL HB1 h1 h2
    obtain ⟨⟨k, p, e, t, n, m⟩, er, pl⟩ := Y
    go_wp2_with fail
    refine (HE1.out _).mono ?_
    rintro en w2 ⟨rfl, hb⟩
    replace HR := Lib.hid (HR.out.below hb (Blk.lt HR.out))
    replace HB := Lib.hid (HB.out.trans (hb.mono (by omega)))
    replace hz := Nat.le_trans hz hb.size
    clear hb HE1
    go_wp2_with ((with_reducible refine wpList_store_st (o := ⟨none, .store 142 _ _, _, _, _, _⟩) rfl 142 _ _ rfl BB rfl rfl (run_storeAt_row _ BB 142 142 (rgZ 0 0 0 0 0 0 0 eT) (rgI k p e t n m er pl l) ?_ ?_ ?_ ?_) ?_); exact HR.out; exact infoRg; rfl; exact rg_one _ _ _ _ _ _ _ _ _)
    exact bodyPost_ret (v := .agg (rgI k p e t n m er pl l)) (results_cell_row rfl _ _ BB 142 (rgI k p e t n m er pl l) (0, 0) _ rfl (Blk.setRow HR.out) Tryz.underlying142 rfl infoRg) rfl ⟨rfl, below_row HB.out hBB2 _⟩
  have q2 : ((b : Int) == 92) = false := by rw [beq_eq_false_iff_ne]; omega
  obtain rfl : l = eT := by rw [HL.out, if_neg h1, if_neg h2]
  by_cases h3 : b = 46
  · have q3 : ((b : Int) == 46) = true := by rw [beq_iff_eq]; omega
    obtain rfl : Y = (oneW (range 0 255) a (a + 1), 0, 0) := by rw [HY.out, if_neg h1, if_neg h2, if_pos h3]
    have hAN := cAny_calls
    rw [anyS] at hAN
    have HAN := Lib.hid hAN
    clear hAN
    generalize hT : range 0 255 = t at *
    have HTT := Lib.hid hT
    clear hT
    have HO := Lib.hid (fun w => oneOf5_calls t a ((a : Int) + 1) w)
    clear HY HL HB1 HE1 h1 h2 h3
    go_wp2_with fail
    refine (HAN.out _).mono ?_
    rintro en w2 ⟨rfl, hb⟩
    replace HR := Lib.hid (HR.out.below hb (Blk.lt HR.out))
    replace HB := Lib.hid (HB.out.trans (hb.mono (by omega)))
    replace hz := Nat.le_trans hz hb.size
    clear hb HAN
    go_wp2_with fail
    refine (HO.out _).mono ?_
    rintro en w3 ⟨rfl, hb⟩
    replace HR := Lib.hid (HR.out.below hb (Blk.lt HR.out))
    replace HB := Lib.hid (HB.out.trans (hb.mono (by omega)))
    replace hz := Nat.le_trans hz hb.size
    clear hb HO
    go_wp2_with ((with_reducible refine wpList_store_st (o := ⟨none, .store 142 _ _, _, _, _, _⟩) rfl 142 _ _ rfl BB rfl rfl (run_storeAt_row _ BB 142 142 (rgZ 0 0 0 0 0 0 0 eT) (rgI 1 a ((a : Int) + 1) t 0 0 0 0 eT) ?_ ?_ ?_ ?_) ?_); exact HR.out; exact infoRg; rfl; exact rg_one _ _ _ _ _ _ _ _ _)
    exact bodyPost_ret (v := .agg (rgI 1 a ((a : Int) + 1) t 0 0 0 0 eT)) (results_cell_row rfl _ _ BB 142 (rgI 1 a ((a : Int) + 1) t 0 0 0 0 eT) (0, 0) _ rfl (Blk.setRow HR.out) Tryz.underlying142 rfl infoRg) rfl ⟨by rw [rgA_one, HTT.out], below_row HB.out hBB2 _⟩
  have q3 : ((b : Int) == 46) = false := by rw [beq_eq_false_iff_ne]; omega
  obtain rfl : Y = (oneW (range b b) a (a + 1), 0, 0) := by rw [HY.out, if_neg h1, if_neg h2, if_neg h3]
  have HWT := Lib.hid (fun W t => dWith_calls W t b hl0)
  generalize hT : range b b = t at *
  have HTT := Lib.hid hT
  clear hT
  have HO := Lib.hid (fun w => oneOf5_calls t a ((a : Int) + 1) w)
  clear HY HL HB1 HE1 h1 h2 h3
  go_wp2_with fail
  replace HR := Lib.hid (HR.out.alloc (.cells #[.int .u8 b] 5))
  replace HB := Lib.hid (HB.out.alloc (by omega) (.cells #[.int .u8 b] 5))
  have hz3 : w.heap.size + 2 ≤ (w1.alloc (.cells #[.int .u8 b] 5)).heap.size := by simp; omega
  clear hz
  have hz := hz3
  clear hz3
  refine Calls.mono (HWT.out w1 _) ?_
  rintro en w4 ⟨rfl, hb⟩
  replace HR := Lib.hid (HR.out.below hb (Blk.lt HR.out))
  replace HB := Lib.hid (HB.out.trans (hb.mono (by omega)))
  replace hz := Nat.le_trans hz hb.size
  clear hb HWT
  go_wp2_with fail
  refine (HO.out _).mono ?_
  rintro en w5 ⟨rfl, hb⟩
  replace HR := Lib.hid (HR.out.below hb (Blk.lt HR.out))
  replace HB := Lib.hid (HB.out.trans (hb.mono (by omega)))
  replace hz := Nat.le_trans hz hb.size
  clear hb HO
  go_wp2_with ((with_reducible refine wpList_store_st (o := ⟨none, .store 142 _ _, _, _, _, _⟩) rfl 142 _ _ rfl BB rfl rfl (run_storeAt_row _ BB 142 142 (rgZ 0 0 0 0 0 0 0 eT) (rgI 1 a ((a : Int) + 1) t 0 0 0 0 eT) ?_ ?_ ?_ ?_) ?_); exact HR.out; exact infoRg; rfl; exact rg_one _ _ _ _ _ _ _ _ _)
  exact bodyPost_ret (v := .agg (rgI 1 a ((a : Int) + 1) t 0 0 0 0 eT)) (results_cell_row rfl _ _ BB 142 (rgI 1 a ((a : Int) + 1) t 0 0 0 0 eT) (0, 0) _ rfl (Blk.setRow HR.out) Tryz.underlying142 rfl infoRg) rfl ⟨by rw [rgA_one, HTT.out], below_row HB.out hBB2 _⟩
end Go.Proofs.YtbccojjcdcighaaGreatDoor

namespace Go.Proofs.YtbccojjcdcighaaGreatDoor
open Go.RowKit Go.Shelf BS
@[reducible] def kdA : Array Value := #[.iface 174 (.agg #[]), .iface 175 (.agg #[]), .iface 176 (.agg #[]), .iface 177 (.agg #[]), .iface 178 (.agg #[])]
theorem infoKd : (Tryz.prog.info? 160).map (·.size) = some 5 := by kernel_rfl
set_option maxRecDepth 100000 in
set_option maxHeartbeats 1000000 in
theorem kinds_calls (w : World) : Calls Tryz.prog 114 #[] w fun en w' => en = .returned (.agg kdA) ∧ Below w.heap.size w w' := by
  go_enter Tryz.func114, Tryz.ntmps114
  go_wp2
  have hR := Blk.new w kdA 160
  have hB : Below w.heap.size w (w.alloc (.cells kdA 160)) := by go_grown
  exact bodyPost_ret (v := .agg kdA) (results_cell_row rfl _ _ w.heap.size 160 kdA (0, 0) _ rfl hR Tryz.underlying160 rfl infoKd) rfl ⟨rfl, hB⟩
def begK (j b : Nat) : Bool := if j = 0 then b == 40 else if j = 1 then b == 41 else if j = 2 then b == 124 else if j = 3 then [42, 43, 63, 123].contains b else b != 94 && b != 36
def lackA (s : ByteArray) (a : Nat) : ByteArray :=
  if bt s a = 42 ∨ bt s a = 43 ∨ bt s a = 63 ∨ bt s a = 123 then ofT (readD4 s a).lack else oneL s a
def lackG5 (s : ByteArray) (at' : Int) : ByteArray := if at' < 0 ∨ (s.size : Int) ≤ at' then eT else lackA s at'.toNat
theorem contains4 (b : Nat) : ([42, 43, 63, 123].contains b) = true ↔ (b = 42 ∨ b = 43 ∨ b = 63 ∨ b = 123) := by simp
def readK (s : ByteArray) (a j : Nat) : WN × Nat × Nat :=
  if j = 0 then (⟨2, a, a + 1, 0, 0, 0⟩, 0, 0) else if j = 1 then (⟨3, a, a + 1, 0, 0, 0⟩, 0, 0) else if j = 2 then (⟨4, a, a + 1, 0, 0, 0⟩, 0, 0) else if j = 3 then cntW s a else oneR s a
def lackK (s : ByteArray) (a j : Nat) : ByteArray := if j = 3 then ofT (readD4 s a).lack else if j = 4 then oneL s a else eT
theorem next_kind (s : ByteArray) (a j : Nat) (hj : j < 5) (hb : begK j (bt s a) = true) (hno : ∀ i, i < j → begK i (bt s a) = false) : nextA s a = readK s a j ∧ lackA s a = lackK s a j := by
  have n0 := hno 0; have n1 := hno 1; have n2 := hno 2; have n3 := hno 3
  clear hno
  have c4 := contains4 (bt s a)
  obtain rfl | rfl | rfl | rfl | rfl : j = 0 ∨ j = 1 ∨ j = 2 ∨ j = 3 ∨ j = 4 := by omega
  · have e : bt s a = 40 := by simpa [begK] using hb
    constructor
    · unfold nextA readK
      rw [if_pos e, if_pos rfl]
    · unfold lackA lackK oneL
      rw [if_neg (by omega), if_neg (by omega), if_neg (by omega), if_neg (by omega), if_neg (by omega)]
  · have e : bt s a = 41 := by simpa [begK] using hb
    constructor
    · unfold nextA readK
      rw [if_neg (by omega), if_pos e, if_neg (by omega), if_pos rfl]
    · unfold lackA lackK oneL
      rw [if_neg (by omega), if_neg (by omega), if_neg (by omega), if_neg (by omega), if_neg (by omega)]
  · have e : bt s a = 124 := by simpa [begK] using hb
    constructor
    · unfold nextA readK
      rw [if_neg (by omega), if_neg (by omega), if_pos e, if_neg (by omega), if_neg (by omega), if_pos rfl]
    · unfold lackA lackK oneL
      rw [if_neg (by omega), if_neg (by omega), if_neg (by omega), if_neg (by omega), if_neg (by omega)]
  · have e : [42, 43, 63, 123].contains (bt s a) = true := by simpa [begK] using hb
    have e2 := c4.1 e
    constructor
    · unfold nextA readK
      rw [if_neg (by omega), if_neg (by omega), if_neg (by omega), if_pos e2, if_neg (by omega), if_neg (by omega), if_neg (by omega), if_pos rfl]
    · unfold lackA lackK
      rw [if_pos e2, if_pos rfl]
  · have e : bt s a ≠ 94 ∧ bt s a ≠ 36 := by simpa [begK] using hb
    have e0 : bt s a ≠ 40 := by simpa [begK] using n0 (by omega)
    have e1 : bt s a ≠ 41 := by simpa [begK] using n1 (by omega)
    have e2 : bt s a ≠ 124 := by simpa [begK] using n2 (by omega)
    have e3 : ¬ (bt s a = 42 ∨ bt s a = 43 ∨ bt s a = 63 ∨ bt s a = 123) := fun h => by
      have h1 := c4.2 h
      have h2 : [42, 43, 63, 123].contains (bt s a) = false := by simpa [begK] using n3 (by omega)
      rw [h1] at h2; cases h2
    constructor
    · rw [show readK s a 4 = oneR s a from rfl]
      unfold nextA oneR
      rw [if_neg e0, if_neg e1, if_neg e2, if_neg e3]
      by_cases h1 : bt s a = 91
      · rw [if_pos h1, if_pos h1]
      rw [if_neg h1, if_neg h1]
      by_cases h2 : bt s a = 46
      · rw [if_pos h2, if_neg (show ¬ bt s a = 92 by omega), if_pos h2]
      rw [if_neg h2, if_neg (show ¬ (bt s a = 94 ∨ bt s a = 36) by omega)]
      by_cases h3 : bt s a = 92
      · rw [if_pos h3, if_pos h3]
      · rw [if_neg h3, if_neg h3, if_neg h2]
    · rw [show lackK s a 4 = oneL s a from rfl]
      unfold lackA
      rw [if_neg e3]
theorem next_none (s : ByteArray) (a : Nat) (hno : ∀ i, i < 5 → begK i (bt s a) = false) : nextA s a = (zWN, 3, a + 1) ∧ lackA s a = eT := by
  have n4 : bt s a = 94 ∨ bt s a = 36 := by
    have := hno 4 (by omega)
    simp only [begK] at this
    simp at this
    omega
  constructor
  · unfold nextA
    rw [if_neg (by omega), if_neg (by omega), if_neg (by omega), if_neg (by omega), if_neg (by omega), if_neg (by omega), if_pos n4]
  · unfold lackA oneL
    rw [if_neg (by omega), if_neg (by omega), if_neg (by omega)]
theorem m_open_begins (n : Nat) (w : World) : (method (n + 1) 174 (.agg #[]) "gimlet/lex.begins").run Tryz.prog w = .ok (157, .agg #[]) w := by kernel_rfl
theorem m_open_read (n : Nat) (w : World) : (method (n + 1) 174 (.agg #[]) "gimlet/lex.read").run Tryz.prog w = .ok (160, .agg #[]) w := by kernel_rfl
theorem ix_open (w : World) : (Instr.index 160 (.agg kdA) (.int .i64 0)).run Tryz.prog w = .ok (.iface 174 (.agg #[])) w := by kernel_rfl
theorem n_open_begins (n : Nat) (w : World) : (nilAhead (n + 1) 174 (.agg #[]) "gimlet/lex.begins").run Tryz.prog w = .ok (some false) w := by kernel_rfl
theorem m_shut_begins (n : Nat) (w : World) : (method (n + 1) 175 (.agg #[]) "gimlet/lex.begins").run Tryz.prog w = .ok (162, .agg #[]) w := by kernel_rfl
theorem m_shut_read (n : Nat) (w : World) : (method (n + 1) 175 (.agg #[]) "gimlet/lex.read").run Tryz.prog w = .ok (165, .agg #[]) w := by kernel_rfl
theorem ix_shut (w : World) : (Instr.index 160 (.agg kdA) (.int .i64 1)).run Tryz.prog w = .ok (.iface 175 (.agg #[])) w := by kernel_rfl
theorem n_shut_begins (n : Nat) (w : World) : (nilAhead (n + 1) 175 (.agg #[]) "gimlet/lex.begins").run Tryz.prog w = .ok (some false) w := by kernel_rfl
theorem m_bar_begins (n : Nat) (w : World) : (method (n + 1) 176 (.agg #[]) "gimlet/lex.begins").run Tryz.prog w = .ok (166, .agg #[]) w := by kernel_rfl
theorem m_bar_read (n : Nat) (w : World) : (method (n + 1) 176 (.agg #[]) "gimlet/lex.read").run Tryz.prog w = .ok (169, .agg #[]) w := by kernel_rfl
theorem ix_bar (w : World) : (Instr.index 160 (.agg kdA) (.int .i64 2)).run Tryz.prog w = .ok (.iface 176 (.agg #[])) w := by kernel_rfl
theorem n_bar_begins (n : Nat) (w : World) : (nilAhead (n + 1) 176 (.agg #[]) "gimlet/lex.begins").run Tryz.prog w = .ok (some false) w := by kernel_rfl
theorem m_rep_begins (n : Nat) (w : World) : (method (n + 1) 177 (.agg #[]) "gimlet/lex.begins").run Tryz.prog w = .ok (170, .agg #[]) w := by kernel_rfl
theorem m_rep_read (n : Nat) (w : World) : (method (n + 1) 177 (.agg #[]) "gimlet/lex.read").run Tryz.prog w = .ok (173, .agg #[]) w := by kernel_rfl
theorem ix_rep (w : World) : (Instr.index 160 (.agg kdA) (.int .i64 3)).run Tryz.prog w = .ok (.iface 177 (.agg #[])) w := by kernel_rfl
theorem n_rep_begins (n : Nat) (w : World) : (nilAhead (n + 1) 177 (.agg #[]) "gimlet/lex.begins").run Tryz.prog w = .ok (some false) w := by kernel_rfl
theorem m_one_begins (n : Nat) (w : World) : (method (n + 1) 178 (.agg #[]) "gimlet/lex.begins").run Tryz.prog w = .ok (184, .agg #[]) w := by kernel_rfl
theorem m_one_read (n : Nat) (w : World) : (method (n + 1) 178 (.agg #[]) "gimlet/lex.read").run Tryz.prog w = .ok (187, .agg #[]) w := by kernel_rfl
theorem ix_one (w : World) : (Instr.index 160 (.agg kdA) (.int .i64 4)).run Tryz.prog w = .ok (.iface 178 (.agg #[])) w := by kernel_rfl
theorem n_one_begins (n : Nat) (w : World) : (nilAhead (n + 1) 178 (.agg #[]) "gimlet/lex.begins").run Tryz.prog w = .ok (some false) w := by kernel_rfl
def SR5 (w W : World) : Prop := (Blk W w.heap.size (rgZ 0 0 0 0 0 0 0 eT) 142 ∧ w.heap.size + 1 ≤ W.heap.size) ∧ Below w.heap.size w W
theorem SR5.drewS {w W : World} (h : SR5 w W) : SR5 w W.drew := ⟨⟨h.1.1, h.1.2⟩, h.2.drew⟩
theorem SR5.go {w W W' : World} (h : SR5 w W) (hb : Below W.heap.size W W') : SR5 w W' := ⟨⟨h.1.1.below hb h.1.1.lt, Nat.le_trans h.1.2 hb.size⟩, h.2.trans (hb.mono (by have := h.1.2; omega))⟩
set_option maxRecDepth 100000 in
set_option maxHeartbeats 8000000 in
theorem read5_in (s : ByteArray) (hs : s.size ≤ 1000000) (a : Nat) (ha : a < s.size) (w : World) : Calls Tryz.prog 97 #[.string s, .int .i64 a] w fun en w' => en = .returned (.agg (rgA (nextA s a) (lackA s a))) ∧ Below w.heap.size w w' := by
  have x1 : IntKind.i64.wrap ((a : Int) + 1) = (a : Int) + 1 := IntWalk.i64_in _ (by omega)
  have q0 : decide ((a : Int) < 0) = false := by rw [decide_eq_false_iff_not]; omega
  have q1 : decide ((s.size : Int) ≤ (a : Int)) = false := by rw [decide_eq_false_iff_not]; omega
  have h0 : s[a].toNat = bt s a := (bt_eq s a ha).symm
  have hl0 := bt_lt s a
  have HK := Lib.hid kinds_calls
  have HEND := Lib.hid (next_none s a)
  have HR := Lib.hid (Blk.new w (rgZ 0 0 0 0 0 0 0 eT) 142)
  have HB : Hid (Below w.heap.size w (w.alloc (.cells (rgZ 0 0 0 0 0 0 0 eT) 142))) := Lib.hid (by go_grown)
  have hz : w.heap.size + 1 ≤ (w.alloc (.cells (rgZ 0 0 0 0 0 0 0 eT) 142)).heap.size := by simp
  go_enter Tryz.func97, Tryz.ntmps97
  go_upto_region 1 with fail
  have e0 : w.alloc (.cells #[.int .i64 0, .int .i64 0, .int .i64 0, .int .u64 0, .int .u64 0, .int .u64 0, .int .u64 0, .int .i64 0, .int .i64 0, .int .i64 0, .int .i64 0, .string ⟨#[]⟩] 142) = w.alloc (.cells (rgZ 0 0 0 0 0 0 0 eT) 142) := rfl
  try rw [e0]
  clear e0
  generalize w.alloc (.cells (rgZ 0 0 0 0 0 0 0 eT) 142) = w1 at *
  go_wp2_with fail
  refine (HK.out _).mono ?_
  rintro en w2 ⟨rfl, hb⟩
  replace HR := Lib.hid (HR.out.below hb (Blk.lt HR.out))
  replace HB := Lib.hid (HB.out.trans (hb.mono (by omega)))
  replace hz := Nat.le_trans hz hb.size
  clear hb HK
  have HS := Lib.hid (show SR5 w w2 from ⟨⟨HR.out, hz⟩, HB.out⟩)
  clear HR HB hz
  go_wp2_with fail
  go_loopw [17] (fun i wr => ∃ k : Nat, k ≤ 5 ∧ i = .int .i64 k ∧ (∀ j, j < k → begK j (bt s a) = false) ∧ SR5 w wr) (fun i _ => 5 - (intOf i).toNat)
  case atStart => exact ⟨0, by omega, rfl, fun j hj => by omega, HS.out⟩
  case round =>
  clear HS
  obtain ⟨k, hk, rfl, hno, hS0⟩ := hrel
  obtain rfl | rfl | rfl | rfl | rfl | rfl : k = 0 ∨ k = 1 ∨ k = 2 ∨ k = 3 ∨ k = 4 ∨ k = 5 := by omega
  · -- open
    have hbg : ∀ w, Calls Tryz.prog 157 #[.agg #[], .int .u8 (bt s a)] w fun en w' => en = .returned (.bool (begK 0 (bt s a))) ∧ Below w.heap.size w w' := openBegins_calls (bt s a)
    have HRD : Hid (∀ w, Calls Tryz.prog 160 #[.agg #[], .string s, .int .i64 a] w fun en w' => en = .returned (.agg (rgA (readK s a 0) (lackK s a 0))) ∧ Below w.heap.size w w') := Lib.hid (openRead_calls s hs a ha)
    have HG := Lib.hid (next_kind s a 0 (by omega))
    have m1 := m_open_begins
    have m2 := m_open_read
    have m3 := n_open_begins
    have m4 := ix_open
    generalize bt s a = b at *
    generalize readK s a 0 = Z at *
    generalize lackK s a 0 = z at *
    generalize hx : begK 0 b = x at *
    have HX := Lib.hid hx
    have HNO := Lib.hid hno
    clear hx hno
    go_upto_region 6 with fail
    refine region_steps (S := SR5 w) (by kernel_rfl) (SR5.drewS hS0) ?_
    clear hS0
    simp only [List.size_toArray, List.length_cons, List.length_nil, Nat.reduceAdd, Array.replicate_succ, Array.replicate_zero, List.push_toArray, List.nil_append, List.cons_append]
    refine AnyS.stepE (i := 0) (d := some 20) rfl rfl (by kernel_rfl) (by kernel_rfl) (by kernel_rfl) ?_
    apply Exists.intro
    apply And.intro
    · apply StepsIf.yield
      · kernel_rfl
      intro w' hS
      clear hS; go_simp
      rfl
    intro a' ha'
    simp only [Act.put, List.setIfInBounds_toArray, List.set_cons_zero, List.set_cons_succ] at ha'
    subst ha'
    refine AnyS.stepE (i := 1) (d := some 21) rfl rfl (by kernel_rfl) (by kernel_rfl) (by kernel_rfl) ?_
    apply Exists.intro
    apply And.intro
    · apply StepsIf.yield
      · kernel_rfl
      intro w' hS
      clear hS; go_simp
      rfl
    intro a' ha'
    simp only [Act.put, List.setIfInBounds_toArray, List.set_cons_zero, List.set_cons_succ] at ha'
    subst ha'
    refine AnyS.stepE (i := 2) (d := some 22) rfl rfl (by kernel_rfl) (by kernel_rfl) (by kernel_rfl) ?_
    apply Exists.intro
    apply And.intro
    · apply StepsIf.yield
      · kernel_rfl
      intro w' hS
      clear hS; go_simp
      rfl
    intro a' ha'
    simp only [Act.put, List.setIfInBounds_toArray, List.set_cons_zero, List.set_cons_succ] at ha'
    subst ha'
    refine AnyS.stepE (i := 3) (d := some 23) rfl rfl (by kernel_rfl) (by kernel_rfl) (by kernel_rfl) ?_
    apply Exists.intro
    apply And.intro
    · apply StepsIf.yield
      · kernel_rfl
      intro w' hS
      clear hS; go_simp
      rfl
    intro a' ha'
    simp only [Act.put, List.setIfInBounds_toArray, List.set_cons_zero, List.set_cons_succ] at ha'
    subst ha'
    refine AnyS.stepE (i := 4) (d := some 24) rfl rfl (by kernel_rfl) (by kernel_rfl) (by kernel_rfl) ?_
    apply Exists.intro
    apply And.intro
    · apply StepsIf.yield
      · kernel_rfl
      intro w' hS
      clear hS; go_simp
      rfl
    intro a' ha'
    simp only [Act.put, List.setIfInBounds_toArray, List.set_cons_zero, List.set_cons_succ] at ha'
    subst ha'
    refine AnyS.stepE (i := 5) (d := some 25) rfl rfl (by kernel_rfl) (by kernel_rfl) (by kernel_rfl) ?_
    apply Exists.intro
    apply And.intro
    · apply StepsIf.yield
      · kernel_rfl
      intro w' hS
      clear hS; go_simp
      rfl
    intro a' ha'
    simp only [Act.put, List.setIfInBounds_toArray, List.set_cons_zero, List.set_cons_succ] at ha'
    subst ha'
    refine AnyS.stepE (i := 6) (d := some 26) rfl rfl (by kernel_rfl) (by kernel_rfl) (by kernel_rfl) ?_
    apply Exists.intro
    apply And.intro
    · apply StepsIf.yield
      · kernel_rfl
      intro w' hS
      clear hS; go_simp
      rfl
    intro a' ha'
    simp only [Act.put, List.setIfInBounds_toArray, List.set_cons_zero, List.set_cons_succ] at ha'
    subst ha'
    refine AnyS.next (i := 7) (d := some 27) (v := .bool x) rfl rfl (by kernel_rfl) (by kernel_rfl) (by kernel_rfl) (StepsIf.call (by kernel_rfl) (fun w' hS => by clear hS; go_simp) (fun w' hS => (hbg w').mono fun e w'' h => ⟨h.1, hS.go h.2⟩)) ?_
    intro a' ha'
    simp only [Act.put, List.setIfInBounds_toArray, List.set_cons_zero, List.set_cons_succ] at ha'
    subst ha'
    refine AnyS.done (by kernel_rfl) ?_ _
    intro w2 hS2
    clear hbg m1 m3 m4
    cases x with
    | true =>
      have hN := Lib.hid (HG.out rfl HNO.out).1
      have hL := Lib.hid (HG.out rfl HNO.out).2
      clear HG HX HNO HEND
      obtain ⟨⟨zk, zp, ze, zt, zn, zm⟩, er, pl⟩ := Z
      go_wp2_with fail
      refine (HRD.out _).mono ?_
      rintro en w3 ⟨rfl, hb⟩
      have hS3 := hS2.go hb
      have HR := Lib.hid hS3.1.1
      have hB3 := hS3.2
      clear hb HRD hS2 hS3
      go_wp2_with ((with_reducible refine wpList_store_st (o := ⟨none, .store 142 _ _, _, _, _, _⟩) rfl 142 _ _ rfl w.heap.size rfl rfl (run_storeAt_row _ w.heap.size 142 142 (rgZ 0 0 0 0 0 0 0 eT) (rgI zk zp ze zt zn zm er pl z) ?_ ?_ ?_ ?_) ?_); exact HR.out; exact infoRg; rfl; exact rg_one _ _ _ _ _ _ _ _ _)
      exact bodyPost_ret (v := .agg (rgI zk zp ze zt zn zm er pl z)) (results_cell_row rfl _ _ w.heap.size 142 (rgI zk zp ze zt zn zm er pl z) (0, 0) _ rfl (Blk.setRow HR.out) Tryz.underlying142 rfl infoRg) rfl ⟨by rw [hN.out, hL.out], below_row hB3 (Nat.le_refl _) _⟩
    | false =>
      clear HG HEND HRD
      go_wp2_with fail
      go_roundw
      case rel =>
        refine ⟨1, by omega, by simp, fun i hi => ?_, hS2⟩
        by_cases hij : i = 0
        · subst hij; exact HX.out
        · exact HNO.out i (by omega)
      case measure => simp [intOf]
  · -- shut
    have hbg : ∀ w, Calls Tryz.prog 162 #[.agg #[], .int .u8 (bt s a)] w fun en w' => en = .returned (.bool (begK 1 (bt s a))) ∧ Below w.heap.size w w' := shutBegins_calls (bt s a)
    have HRD : Hid (∀ w, Calls Tryz.prog 165 #[.agg #[], .string s, .int .i64 a] w fun en w' => en = .returned (.agg (rgA (readK s a 1) (lackK s a 1))) ∧ Below w.heap.size w w') := Lib.hid (shutRead_calls s hs a ha)
    have HG := Lib.hid (next_kind s a 1 (by omega))
    have m1 := m_shut_begins
    have m2 := m_shut_read
    have m3 := n_shut_begins
    have m4 := ix_shut
    generalize bt s a = b at *
    generalize readK s a 1 = Z at *
    generalize lackK s a 1 = z at *
    generalize hx : begK 1 b = x at *
    have HX := Lib.hid hx
    have HNO := Lib.hid hno
    clear hx hno
    go_upto_region 6 with fail
    refine region_steps (S := SR5 w) (by kernel_rfl) (SR5.drewS hS0) ?_
    clear hS0
    simp only [List.size_toArray, List.length_cons, List.length_nil, Nat.reduceAdd, Array.replicate_succ, Array.replicate_zero, List.push_toArray, List.nil_append, List.cons_append]
    refine AnyS.stepE (i := 0) (d := some 20) rfl rfl (by kernel_rfl) (by kernel_rfl) (by kernel_rfl) ?_
    apply Exists.intro
    apply And.intro
    · apply StepsIf.yield
      · kernel_rfl
      intro w' hS
      clear hS; go_simp
      rfl
    intro a' ha'
    simp only [Act.put, List.setIfInBounds_toArray, List.set_cons_zero, List.set_cons_succ] at ha'
    subst ha'
    refine AnyS.stepE (i := 1) (d := some 21) rfl rfl (by kernel_rfl) (by kernel_rfl) (by kernel_rfl) ?_
    apply Exists.intro
    apply And.intro
    · apply StepsIf.yield
      · kernel_rfl
      intro w' hS
      clear hS; go_simp
      rfl
    intro a' ha'
    simp only [Act.put, List.setIfInBounds_toArray, List.set_cons_zero, List.set_cons_succ] at ha'
    subst ha'
    refine AnyS.stepE (i := 2) (d := some 22) rfl rfl (by kernel_rfl) (by kernel_rfl) (by kernel_rfl) ?_
    apply Exists.intro
    apply And.intro
    · apply StepsIf.yield
      · kernel_rfl
      intro w' hS
      clear hS; go_simp
      rfl
    intro a' ha'
    simp only [Act.put, List.setIfInBounds_toArray, List.set_cons_zero, List.set_cons_succ] at ha'
    subst ha'
    refine AnyS.stepE (i := 3) (d := some 23) rfl rfl (by kernel_rfl) (by kernel_rfl) (by kernel_rfl) ?_
    apply Exists.intro
    apply And.intro
    · apply StepsIf.yield
      · kernel_rfl
      intro w' hS
      clear hS; go_simp
      rfl
    intro a' ha'
    simp only [Act.put, List.setIfInBounds_toArray, List.set_cons_zero, List.set_cons_succ] at ha'
    subst ha'
    refine AnyS.stepE (i := 4) (d := some 24) rfl rfl (by kernel_rfl) (by kernel_rfl) (by kernel_rfl) ?_
    apply Exists.intro
    apply And.intro
    · apply StepsIf.yield
      · kernel_rfl
      intro w' hS
      clear hS; go_simp
      rfl
    intro a' ha'
    simp only [Act.put, List.setIfInBounds_toArray, List.set_cons_zero, List.set_cons_succ] at ha'
    subst ha'
    refine AnyS.stepE (i := 5) (d := some 25) rfl rfl (by kernel_rfl) (by kernel_rfl) (by kernel_rfl) ?_
    apply Exists.intro
    apply And.intro
    · apply StepsIf.yield
      · kernel_rfl
      intro w' hS
      clear hS; go_simp
      rfl
    intro a' ha'
    simp only [Act.put, List.setIfInBounds_toArray, List.set_cons_zero, List.set_cons_succ] at ha'
    subst ha'
    refine AnyS.stepE (i := 6) (d := some 26) rfl rfl (by kernel_rfl) (by kernel_rfl) (by kernel_rfl) ?_
    apply Exists.intro
    apply And.intro
    · apply StepsIf.yield
      · kernel_rfl
      intro w' hS
      clear hS; go_simp
      rfl
    intro a' ha'
    simp only [Act.put, List.setIfInBounds_toArray, List.set_cons_zero, List.set_cons_succ] at ha'
    subst ha'
    refine AnyS.next (i := 7) (d := some 27) (v := .bool x) rfl rfl (by kernel_rfl) (by kernel_rfl) (by kernel_rfl) (StepsIf.call (by kernel_rfl) (fun w' hS => by clear hS; go_simp) (fun w' hS => (hbg w').mono fun e w'' h => ⟨h.1, hS.go h.2⟩)) ?_
    intro a' ha'
    simp only [Act.put, List.setIfInBounds_toArray, List.set_cons_zero, List.set_cons_succ] at ha'
    subst ha'
    refine AnyS.done (by kernel_rfl) ?_ _
    intro w2 hS2
    clear hbg m1 m3 m4
    cases x with
    | true =>
      have hN := Lib.hid (HG.out rfl HNO.out).1
      have hL := Lib.hid (HG.out rfl HNO.out).2
      clear HG HX HNO HEND
      obtain ⟨⟨zk, zp, ze, zt, zn, zm⟩, er, pl⟩ := Z
      go_wp2_with fail
      refine (HRD.out _).mono ?_
      rintro en w3 ⟨rfl, hb⟩
      have hS3 := hS2.go hb
      have HR := Lib.hid hS3.1.1
      have hB3 := hS3.2
      clear hb HRD hS2 hS3
      go_wp2_with ((with_reducible refine wpList_store_st (o := ⟨none, .store 142 _ _, _, _, _, _⟩) rfl 142 _ _ rfl w.heap.size rfl rfl (run_storeAt_row _ w.heap.size 142 142 (rgZ 0 0 0 0 0 0 0 eT) (rgI zk zp ze zt zn zm er pl z) ?_ ?_ ?_ ?_) ?_); exact HR.out; exact infoRg; rfl; exact rg_one _ _ _ _ _ _ _ _ _)
      exact bodyPost_ret (v := .agg (rgI zk zp ze zt zn zm er pl z)) (results_cell_row rfl _ _ w.heap.size 142 (rgI zk zp ze zt zn zm er pl z) (0, 0) _ rfl (Blk.setRow HR.out) Tryz.underlying142 rfl infoRg) rfl ⟨by rw [hN.out, hL.out], below_row hB3 (Nat.le_refl _) _⟩
    | false =>
      clear HG HEND HRD
      go_wp2_with fail
      go_roundw
      case rel =>
        refine ⟨2, by omega, by simp, fun i hi => ?_, hS2⟩
        by_cases hij : i = 1
        · subst hij; exact HX.out
        · exact HNO.out i (by omega)
      case measure => simp [intOf]
  · -- bar
    have hbg : ∀ w, Calls Tryz.prog 166 #[.agg #[], .int .u8 (bt s a)] w fun en w' => en = .returned (.bool (begK 2 (bt s a))) ∧ Below w.heap.size w w' := barBegins_calls (bt s a)
    have HRD : Hid (∀ w, Calls Tryz.prog 169 #[.agg #[], .string s, .int .i64 a] w fun en w' => en = .returned (.agg (rgA (readK s a 2) (lackK s a 2))) ∧ Below w.heap.size w w') := Lib.hid (barRead_calls s hs a ha)
    have HG := Lib.hid (next_kind s a 2 (by omega))
    have m1 := m_bar_begins
    have m2 := m_bar_read
    have m3 := n_bar_begins
    have m4 := ix_bar
    generalize bt s a = b at *
    generalize readK s a 2 = Z at *
    generalize lackK s a 2 = z at *
    generalize hx : begK 2 b = x at *
    have HX := Lib.hid hx
    have HNO := Lib.hid hno
    clear hx hno
    go_upto_region 6 with fail
    refine region_steps (S := SR5 w) (by kernel_rfl) (SR5.drewS hS0) ?_
    clear hS0
    simp only [List.size_toArray, List.length_cons, List.length_nil, Nat.reduceAdd, Array.replicate_succ, Array.replicate_zero, List.push_toArray, List.nil_append, List.cons_append]
    refine AnyS.stepE (i := 0) (d := some 20) rfl rfl (by kernel_rfl) (by kernel_rfl) (by kernel_rfl) ?_
    apply Exists.intro
    apply And.intro
    · apply StepsIf.yield
      · kernel_rfl
      intro w' hS
      clear hS; go_simp
      rfl
    intro a' ha'
    simp only [Act.put, List.setIfInBounds_toArray, List.set_cons_zero, List.set_cons_succ] at ha'
    subst ha'
    refine AnyS.stepE (i := 1) (d := some 21) rfl rfl (by kernel_rfl) (by kernel_rfl) (by kernel_rfl) ?_
    apply Exists.intro
    apply And.intro
    · apply StepsIf.yield
      · kernel_rfl
      intro w' hS
      clear hS; go_simp
      rfl
    intro a' ha'
    simp only [Act.put, List.setIfInBounds_toArray, List.set_cons_zero, List.set_cons_succ] at ha'
    subst ha'
    refine AnyS.stepE (i := 2) (d := some 22) rfl rfl (by kernel_rfl) (by kernel_rfl) (by kernel_rfl) ?_
    apply Exists.intro
    apply And.intro
    · apply StepsIf.yield
      · kernel_rfl
      intro w' hS
      clear hS; go_simp
      rfl
    intro a' ha'
    simp only [Act.put, List.setIfInBounds_toArray, List.set_cons_zero, List.set_cons_succ] at ha'
    subst ha'
    refine AnyS.stepE (i := 3) (d := some 23) rfl rfl (by kernel_rfl) (by kernel_rfl) (by kernel_rfl) ?_
    apply Exists.intro
    apply And.intro
    · apply StepsIf.yield
      · kernel_rfl
      intro w' hS
      clear hS; go_simp
      rfl
    intro a' ha'
    simp only [Act.put, List.setIfInBounds_toArray, List.set_cons_zero, List.set_cons_succ] at ha'
    subst ha'
    refine AnyS.stepE (i := 4) (d := some 24) rfl rfl (by kernel_rfl) (by kernel_rfl) (by kernel_rfl) ?_
    apply Exists.intro
    apply And.intro
    · apply StepsIf.yield
      · kernel_rfl
      intro w' hS
      clear hS; go_simp
      rfl
    intro a' ha'
    simp only [Act.put, List.setIfInBounds_toArray, List.set_cons_zero, List.set_cons_succ] at ha'
    subst ha'
    refine AnyS.stepE (i := 5) (d := some 25) rfl rfl (by kernel_rfl) (by kernel_rfl) (by kernel_rfl) ?_
    apply Exists.intro
    apply And.intro
    · apply StepsIf.yield
      · kernel_rfl
      intro w' hS
      clear hS; go_simp
      rfl
    intro a' ha'
    simp only [Act.put, List.setIfInBounds_toArray, List.set_cons_zero, List.set_cons_succ] at ha'
    subst ha'
    refine AnyS.stepE (i := 6) (d := some 26) rfl rfl (by kernel_rfl) (by kernel_rfl) (by kernel_rfl) ?_
    apply Exists.intro
    apply And.intro
    · apply StepsIf.yield
      · kernel_rfl
      intro w' hS
      clear hS; go_simp
      rfl
    intro a' ha'
    simp only [Act.put, List.setIfInBounds_toArray, List.set_cons_zero, List.set_cons_succ] at ha'
    subst ha'
    refine AnyS.next (i := 7) (d := some 27) (v := .bool x) rfl rfl (by kernel_rfl) (by kernel_rfl) (by kernel_rfl) (StepsIf.call (by kernel_rfl) (fun w' hS => by clear hS; go_simp) (fun w' hS => (hbg w').mono fun e w'' h => ⟨h.1, hS.go h.2⟩)) ?_
    intro a' ha'
    simp only [Act.put, List.setIfInBounds_toArray, List.set_cons_zero, List.set_cons_succ] at ha'
    subst ha'
    refine AnyS.done (by kernel_rfl) ?_ _
    intro w2 hS2
    clear hbg m1 m3 m4
    cases x with
    | true =>
      have hN := Lib.hid (HG.out rfl HNO.out).1
      have hL := Lib.hid (HG.out rfl HNO.out).2
      clear HG HX HNO HEND
      obtain ⟨⟨zk, zp, ze, zt, zn, zm⟩, er, pl⟩ := Z
      go_wp2_with fail
      refine (HRD.out _).mono ?_
      rintro en w3 ⟨rfl, hb⟩
      have hS3 := hS2.go hb
      have HR := Lib.hid hS3.1.1
      have hB3 := hS3.2
      clear hb HRD hS2 hS3
      go_wp2_with ((with_reducible refine wpList_store_st (o := ⟨none, .store 142 _ _, _, _, _, _⟩) rfl 142 _ _ rfl w.heap.size rfl rfl (run_storeAt_row _ w.heap.size 142 142 (rgZ 0 0 0 0 0 0 0 eT) (rgI zk zp ze zt zn zm er pl z) ?_ ?_ ?_ ?_) ?_); exact HR.out; exact infoRg; rfl; exact rg_one _ _ _ _ _ _ _ _ _)
      exact bodyPost_ret (v := .agg (rgI zk zp ze zt zn zm er pl z)) (results_cell_row rfl _ _ w.heap.size 142 (rgI zk zp ze zt zn zm er pl z) (0, 0) _ rfl (Blk.setRow HR.out) Tryz.underlying142 rfl infoRg) rfl ⟨by rw [hN.out, hL.out], below_row hB3 (Nat.le_refl _) _⟩
    | false =>
      clear HG HEND HRD
      go_wp2_with fail
      go_roundw
      case rel =>
        refine ⟨3, by omega, by simp, fun i hi => ?_, hS2⟩
        by_cases hij : i = 2
        · subst hij; exact HX.out
        · exact HNO.out i (by omega)
      case measure => simp [intOf]
  · -- rep
    have hbg : ∀ w, Calls Tryz.prog 170 #[.agg #[], .int .u8 (bt s a)] w fun en w' => en = .returned (.bool (begK 3 (bt s a))) ∧ Below w.heap.size w w' := repBegins_calls (bt s a) hl0
    have HRD : Hid (∀ w, Calls Tryz.prog 173 #[.agg #[], .string s, .int .i64 a] w fun en w' => en = .returned (.agg (rgA (readK s a 3) (lackK s a 3))) ∧ Below w.heap.size w w') := Lib.hid (repRead_calls s hs a)
    have HG := Lib.hid (next_kind s a 3 (by omega))
    have m1 := m_rep_begins
    have m2 := m_rep_read
    have m3 := n_rep_begins
    have m4 := ix_rep
    generalize bt s a = b at *
    generalize readK s a 3 = Z at *
    generalize lackK s a 3 = z at *
    generalize hx : begK 3 b = x at *
    have HX := Lib.hid hx
    have HNO := Lib.hid hno
    clear hx hno
    go_upto_region 6 with fail
    refine region_steps (S := SR5 w) (by kernel_rfl) (SR5.drewS hS0) ?_
    clear hS0
    simp only [List.size_toArray, List.length_cons, List.length_nil, Nat.reduceAdd, Array.replicate_succ, Array.replicate_zero, List.push_toArray, List.nil_append, List.cons_append]
    refine AnyS.stepE (i := 0) (d := some 20) rfl rfl (by kernel_rfl) (by kernel_rfl) (by kernel_rfl) ?_
    apply Exists.intro
    apply And.intro
    · apply StepsIf.yield
      · kernel_rfl
      intro w' hS
      clear hS; go_simp
      rfl
    intro a' ha'
    simp only [Act.put, List.setIfInBounds_toArray, List.set_cons_zero, List.set_cons_succ] at ha'
    subst ha'
    refine AnyS.stepE (i := 1) (d := some 21) rfl rfl (by kernel_rfl) (by kernel_rfl) (by kernel_rfl) ?_
    apply Exists.intro
    apply And.intro
    · apply StepsIf.yield
      · kernel_rfl
      intro w' hS
      clear hS; go_simp
      rfl
    intro a' ha'
    simp only [Act.put, List.setIfInBounds_toArray, List.set_cons_zero, List.set_cons_succ] at ha'
    subst ha'
    refine AnyS.stepE (i := 2) (d := some 22) rfl rfl (by kernel_rfl) (by kernel_rfl) (by kernel_rfl) ?_
    apply Exists.intro
    apply And.intro
    · apply StepsIf.yield
      · kernel_rfl
      intro w' hS
      clear hS; go_simp
      rfl
    intro a' ha'
    simp only [Act.put, List.setIfInBounds_toArray, List.set_cons_zero, List.set_cons_succ] at ha'
    subst ha'
    refine AnyS.stepE (i := 3) (d := some 23) rfl rfl (by kernel_rfl) (by kernel_rfl) (by kernel_rfl) ?_
    apply Exists.intro
    apply And.intro
    · apply StepsIf.yield
      · kernel_rfl
      intro w' hS
      clear hS; go_simp
      rfl
    intro a' ha'
    simp only [Act.put, List.setIfInBounds_toArray, List.set_cons_zero, List.set_cons_succ] at ha'
    subst ha'
    refine AnyS.stepE (i := 4) (d := some 24) rfl rfl (by kernel_rfl) (by kernel_rfl) (by kernel_rfl) ?_
    apply Exists.intro
    apply And.intro
    · apply StepsIf.yield
      · kernel_rfl
      intro w' hS
      clear hS; go_simp
      rfl
    intro a' ha'
    simp only [Act.put, List.setIfInBounds_toArray, List.set_cons_zero, List.set_cons_succ] at ha'
    subst ha'
    refine AnyS.stepE (i := 5) (d := some 25) rfl rfl (by kernel_rfl) (by kernel_rfl) (by kernel_rfl) ?_
    apply Exists.intro
    apply And.intro
    · apply StepsIf.yield
      · kernel_rfl
      intro w' hS
      clear hS; go_simp
      rfl
    intro a' ha'
    simp only [Act.put, List.setIfInBounds_toArray, List.set_cons_zero, List.set_cons_succ] at ha'
    subst ha'
    refine AnyS.stepE (i := 6) (d := some 26) rfl rfl (by kernel_rfl) (by kernel_rfl) (by kernel_rfl) ?_
    apply Exists.intro
    apply And.intro
    · apply StepsIf.yield
      · kernel_rfl
      intro w' hS
      clear hS; go_simp
      rfl
    intro a' ha'
    simp only [Act.put, List.setIfInBounds_toArray, List.set_cons_zero, List.set_cons_succ] at ha'
    subst ha'
    refine AnyS.next (i := 7) (d := some 27) (v := .bool x) rfl rfl (by kernel_rfl) (by kernel_rfl) (by kernel_rfl) (StepsIf.call (by kernel_rfl) (fun w' hS => by clear hS; go_simp) (fun w' hS => (hbg w').mono fun e w'' h => ⟨h.1, hS.go h.2⟩)) ?_
    intro a' ha'
    simp only [Act.put, List.setIfInBounds_toArray, List.set_cons_zero, List.set_cons_succ] at ha'
    subst ha'
    refine AnyS.done (by kernel_rfl) ?_ _
    intro w2 hS2
    clear hbg m1 m3 m4
    cases x with
    | true =>
      have hN := Lib.hid (HG.out rfl HNO.out).1
      have hL := Lib.hid (HG.out rfl HNO.out).2
      clear HG HX HNO HEND
      obtain ⟨⟨zk, zp, ze, zt, zn, zm⟩, er, pl⟩ := Z
      go_wp2_with fail
      refine (HRD.out _).mono ?_
      rintro en w3 ⟨rfl, hb⟩
      have hS3 := hS2.go hb
      have HR := Lib.hid hS3.1.1
      have hB3 := hS3.2
      clear hb HRD hS2 hS3
      go_wp2_with ((with_reducible refine wpList_store_st (o := ⟨none, .store 142 _ _, _, _, _, _⟩) rfl 142 _ _ rfl w.heap.size rfl rfl (run_storeAt_row _ w.heap.size 142 142 (rgZ 0 0 0 0 0 0 0 eT) (rgI zk zp ze zt zn zm er pl z) ?_ ?_ ?_ ?_) ?_); exact HR.out; exact infoRg; rfl; exact rg_one _ _ _ _ _ _ _ _ _)
      exact bodyPost_ret (v := .agg (rgI zk zp ze zt zn zm er pl z)) (results_cell_row rfl _ _ w.heap.size 142 (rgI zk zp ze zt zn zm er pl z) (0, 0) _ rfl (Blk.setRow HR.out) Tryz.underlying142 rfl infoRg) rfl ⟨by rw [hN.out, hL.out], below_row hB3 (Nat.le_refl _) _⟩
    | false =>
      clear HG HEND HRD
      go_wp2_with fail
      go_roundw
      case rel =>
        refine ⟨4, by omega, by simp, fun i hi => ?_, hS2⟩
        by_cases hij : i = 3
        · subst hij; exact HX.out
        · exact HNO.out i (by omega)
      case measure => simp [intOf]
  · -- one
    have hbg : ∀ w, Calls Tryz.prog 184 #[.agg #[], .int .u8 (bt s a)] w fun en w' => en = .returned (.bool (begK 4 (bt s a))) ∧ Below w.heap.size w w' := oneBegins_calls (bt s a)
    have HRD : Hid (∀ w, Calls Tryz.prog 187 #[.agg #[], .string s, .int .i64 a] w fun en w' => en = .returned (.agg (rgA (readK s a 4) (lackK s a 4))) ∧ Below w.heap.size w w') := Lib.hid (oneRead_calls s hs a ha)
    have HG := Lib.hid (next_kind s a 4 (by omega))
    have m1 := m_one_begins
    have m2 := m_one_read
    have m3 := n_one_begins
    have m4 := ix_one
    generalize bt s a = b at *
    generalize readK s a 4 = Z at *
    generalize lackK s a 4 = z at *
    generalize hx : begK 4 b = x at *
    have HX := Lib.hid hx
    have HNO := Lib.hid hno
    clear hx hno
    go_upto_region 6 with fail
    refine region_steps (S := SR5 w) (by kernel_rfl) (SR5.drewS hS0) ?_
    clear hS0
    simp only [List.size_toArray, List.length_cons, List.length_nil, Nat.reduceAdd, Array.replicate_succ, Array.replicate_zero, List.push_toArray, List.nil_append, List.cons_append]
    refine AnyS.stepE (i := 0) (d := some 20) rfl rfl (by kernel_rfl) (by kernel_rfl) (by kernel_rfl) ?_
    apply Exists.intro
    apply And.intro
    · apply StepsIf.yield
      · kernel_rfl
      intro w' hS
      clear hS; go_simp
      rfl
    intro a' ha'
    simp only [Act.put, List.setIfInBounds_toArray, List.set_cons_zero, List.set_cons_succ] at ha'
    subst ha'
    refine AnyS.stepE (i := 1) (d := some 21) rfl rfl (by kernel_rfl) (by kernel_rfl) (by kernel_rfl) ?_
    apply Exists.intro
    apply And.intro
    · apply StepsIf.yield
      · kernel_rfl
      intro w' hS
      clear hS; go_simp
      rfl
    intro a' ha'
    simp only [Act.put, List.setIfInBounds_toArray, List.set_cons_zero, List.set_cons_succ] at ha'
    subst ha'
    refine AnyS.stepE (i := 2) (d := some 22) rfl rfl (by kernel_rfl) (by kernel_rfl) (by kernel_rfl) ?_
    apply Exists.intro
    apply And.intro
    · apply StepsIf.yield
      · kernel_rfl
      intro w' hS
      clear hS; go_simp
      rfl
    intro a' ha'
    simp only [Act.put, List.setIfInBounds_toArray, List.set_cons_zero, List.set_cons_succ] at ha'
    subst ha'
    refine AnyS.stepE (i := 3) (d := some 23) rfl rfl (by kernel_rfl) (by kernel_rfl) (by kernel_rfl) ?_
    apply Exists.intro
    apply And.intro
    · apply StepsIf.yield
      · kernel_rfl
      intro w' hS
      clear hS; go_simp
      rfl
    intro a' ha'
    simp only [Act.put, List.setIfInBounds_toArray, List.set_cons_zero, List.set_cons_succ] at ha'
    subst ha'
    refine AnyS.stepE (i := 4) (d := some 24) rfl rfl (by kernel_rfl) (by kernel_rfl) (by kernel_rfl) ?_
    apply Exists.intro
    apply And.intro
    · apply StepsIf.yield
      · kernel_rfl
      intro w' hS
      clear hS; go_simp
      rfl
    intro a' ha'
    simp only [Act.put, List.setIfInBounds_toArray, List.set_cons_zero, List.set_cons_succ] at ha'
    subst ha'
    refine AnyS.stepE (i := 5) (d := some 25) rfl rfl (by kernel_rfl) (by kernel_rfl) (by kernel_rfl) ?_
    apply Exists.intro
    apply And.intro
    · apply StepsIf.yield
      · kernel_rfl
      intro w' hS
      clear hS; go_simp
      rfl
    intro a' ha'
    simp only [Act.put, List.setIfInBounds_toArray, List.set_cons_zero, List.set_cons_succ] at ha'
    subst ha'
    refine AnyS.stepE (i := 6) (d := some 26) rfl rfl (by kernel_rfl) (by kernel_rfl) (by kernel_rfl) ?_
    apply Exists.intro
    apply And.intro
    · apply StepsIf.yield
      · kernel_rfl
      intro w' hS
      clear hS; go_simp
      rfl
    intro a' ha'
    simp only [Act.put, List.setIfInBounds_toArray, List.set_cons_zero, List.set_cons_succ] at ha'
    subst ha'
    refine AnyS.next (i := 7) (d := some 27) (v := .bool x) rfl rfl (by kernel_rfl) (by kernel_rfl) (by kernel_rfl) (StepsIf.call (by kernel_rfl) (fun w' hS => by clear hS; go_simp) (fun w' hS => (hbg w').mono fun e w'' h => ⟨h.1, hS.go h.2⟩)) ?_
    intro a' ha'
    simp only [Act.put, List.setIfInBounds_toArray, List.set_cons_zero, List.set_cons_succ] at ha'
    subst ha'
    refine AnyS.done (by kernel_rfl) ?_ _
    intro w2 hS2
    clear hbg m1 m3 m4
    cases x with
    | true =>
      have hN := Lib.hid (HG.out rfl HNO.out).1
      have hL := Lib.hid (HG.out rfl HNO.out).2
      clear HG HX HNO HEND
      obtain ⟨⟨zk, zp, ze, zt, zn, zm⟩, er, pl⟩ := Z
      go_wp2_with fail
      refine (HRD.out _).mono ?_
      rintro en w3 ⟨rfl, hb⟩
      have hS3 := hS2.go hb
      have HR := Lib.hid hS3.1.1
      have hB3 := hS3.2
      clear hb HRD hS2 hS3
      go_wp2_with ((with_reducible refine wpList_store_st (o := ⟨none, .store 142 _ _, _, _, _, _⟩) rfl 142 _ _ rfl w.heap.size rfl rfl (run_storeAt_row _ w.heap.size 142 142 (rgZ 0 0 0 0 0 0 0 eT) (rgI zk zp ze zt zn zm er pl z) ?_ ?_ ?_ ?_) ?_); exact HR.out; exact infoRg; rfl; exact rg_one _ _ _ _ _ _ _ _ _)
      exact bodyPost_ret (v := .agg (rgI zk zp ze zt zn zm er pl z)) (results_cell_row rfl _ _ w.heap.size 142 (rgI zk zp ze zt zn zm er pl z) (0, 0) _ rfl (Blk.setRow HR.out) Tryz.underlying142 rfl infoRg) rfl ⟨by rw [hN.out, hL.out], below_row hB3 (Nat.le_refl _) _⟩
    | false =>
      clear HG HEND HRD
      go_wp2_with fail
      go_roundw
      case rel =>
        refine ⟨5, by omega, by simp, fun i hi => ?_, hS2⟩
        by_cases hij : i = 4
        · subst hij; exact HX.out
        · exact HNO.out i (by omega)
      case measure => simp [intOf]
  · have hN := Lib.hid (HEND.out hno).1
    have hL := Lib.hid (HEND.out hno).2
    have HF := Lib.hid (fun w => fault5_calls 3 ((a : Int) + 1) w)
    clear HEND hno
    go_wp2_with fail
    refine (HF.out _).mono ?_
    rintro en w3 ⟨rfl, hb⟩
    have hS3 := hS0.go hb
    have HR := Lib.hid hS3.1.1
    have hB3 := hS3.2
    clear hb HF hS0 hS3
    go_wp2_with ((with_reducible refine wpList_store_st (o := ⟨none, .store 142 _ _, _, _, _, _⟩) rfl 142 _ _ rfl w.heap.size rfl rfl (run_storeAt_row _ w.heap.size 142 142 (rgZ 0 0 0 0 0 0 0 eT) (rgZ 0 0 0 0 0 3 ((a : Int) + 1) eT) ?_ ?_ ?_ ?_) ?_); exact HR.out; exact infoRg; rfl; exact rg_one _ _ _ 0 _ _ _ _ _)
    exact bodyPost_ret (v := .agg (rgZ 0 0 0 0 0 3 ((a : Int) + 1) eT)) (results_cell_row rfl _ _ w.heap.size 142 (rgZ 0 0 0 0 0 3 ((a : Int) + 1) eT) (0, 0) _ rfl (Blk.setRow HR.out) Tryz.underlying142 rfl infoRg) rfl ⟨by rw [hN.out, hL.out, rgZ_eq]; rfl, below_row hB3 (Nat.le_refl _) _⟩
end Go.Proofs.YtbccojjcdcighaaGreatDoor

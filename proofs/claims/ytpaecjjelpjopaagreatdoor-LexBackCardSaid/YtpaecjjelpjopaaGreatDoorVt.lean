/- The document's words: Text, Print. -/
import Derived.Test.YtpaecjjelpjopaaGreatDoorVr
import Derived.Test.YtpaecjjelpjopaaGreatDoorGz
import Derived.Test.YtpaecjjelpjopaaGreatDoorNs
import Derived.Test.YtpaecjjelpjopaaGreatDoorRc
namespace Go.Proofs.YtpaecjjelpjopaaGreatDoor
open Go.RowKit BS

/-- A slice of bytes as a text. -/
theorem cvAt (W : World) (g cap : Nat) (L : List Nat) (hC : ∀ i (h : i < L.length), W.cell? ⟨g, i, none⟩ = some (.int .u8 (L[i] : Int))) : (convert 59 9 (.slice (some ⟨g, 0, none⟩) L.length cap)).run Tryz.prog W = .ok (.string (ofT L)) W := by
  rw [← numsT L]
  refine run_convert_bytes_arg (P := Tryz.prog) W 59 5 Tryz.underlying59 Tryz.underlying5 g 0 L.length cap _ (by simp) (fun i hi => ?_) 9 Tryz.underlying9
  rw [Nat.zero_add, hC i hi]
  simp [List.getD_eq_getElem?_getD, List.getElem?_map, List.getElem?_eq_getElem hi]
theorem el_lt (f : Nat → Bool) (k b : Nat) (l : List Nat) (h : el f k = b :: l) : b < k := by
  have : b ∈ el f k := by rw [h]; exact List.mem_cons_self ..
  unfold el at this
  simp at this
  exact this.1

set_option maxRecDepth 100000 in
set_option maxHeartbeats 8000000 in
theorem rTextW_calls (t : BitVec 256) (w : World) : Calls Tryz.prog 14 #[setV t] w fun e w' => e = .returned (.string (ofT (textW t))) ∧ Below w.heap.size w w' := by
  have b0 := Blk.new w (setA t) 25
  have hB0 : Below w.heap.size w (w.alloc (.cells (setA t) 25)) := by go_grown
  have hz0 : w.heap.size + 1 ≤ (w.alloc (.cells (setA t) 25)).heap.size := by simp
  have HA := Lib.hid (fun w => rall_calls t w)
  have hg : textW t = textW t := rfl
  conv at hg => rhs; unfold textW
  generalize textW t = Y at *
  have HT := Lib.hid (rText_calls t)
  generalize textT t = T at *
  have hlt := el_lt t.getLsbD 256
  generalize el t.getLsbD 256 = l at *
  have HG := Lib.hid hg
  have HL := Lib.hid hlt
  clear hg hlt
  go_enter Tryz.func14, Tryz.ntmps14
  go_upto_region 1 with fail
  have e0 : w.alloc (.cells #[.int .u64 (wd t 0), .int .u64 (wd t 1), .int .u64 (wd t 2), .int .u64 (wd t 3)] 25) = w.alloc (.cells (setA t) 25) := rfl
  rw [e0]
  clear e0
  generalize w.alloc (.cells (setA t) 25) = w1 at *
  obtain ⟨⟨c0, c1, c2, c3⟩, _⟩ := b0.cells4
  go_wp2_with fail
  refine (HA.out _).mono ?_
  rintro e w2 ⟨v, rfl, hv, hb⟩
  have b1 := b0.below hb b0.lt
  have hB1 := hB0.trans (hb.mono (by omega))
  have hz1 := Nat.le_trans hz0 hb.size
  clear b0 hB0 HA c0 c1 c2 c3 hb hz0
  obtain ⟨⟨c0, c1, c2, c3⟩, _⟩ := b1.cells4
  have hlen : ∃ a cap, v = .slice a l.length cap := by
    rcases hv.2 with ⟨rfl, h0⟩ | ⟨g, cap, cur, rfl, _⟩
    · exact ⟨none, 0, by rw [h0]⟩
    · exact ⟨_, cap, rfl⟩
  obtain ⟨va, vc, rfl⟩ := hlen
  have HV := Lib.hid hv
  clear hv
  by_cases h256 : l.length = 256
  · have q : ((l.length : Int) == 256) = true := by rw [beq_iff_eq]; omega
    obtain rfl : Y = [46] := by rw [HG.out, if_pos h256]
    clear HG h256 HL HV HT
    generalize l.length = n at *
    go_wp2_with fail
    go_ret
    exact ⟨rfl, hB1⟩
  have q256 : ((l.length : Int) == 256) = false := by rw [beq_eq_false_iff_ne]; omega
  by_cases h1 : l.length = 1
  · obtain ⟨b, rfl⟩ := List.length_eq_one_iff.1 h1
    have hb256 := HL.out b [] rfl
    obtain ⟨g, cap, hva⟩ := ownsRow_succ (show w2.ownsRow _ _ _ _ (0 + 1) _ from HV.out)
    obtain ⟨rfl, rfl⟩ : va = some ⟨g, 0, none⟩ ∧ vc = cap := by cases hva; exact ⟨rfl, rfl⟩
    have d0 : w2.cell? ⟨g, 0, none⟩ = some (.int .u8 (b : Int)) := (World.ownsRow.cellAt HV.out 0 (by simp)).trans rfl
    have hcv := cvAt w2 g vc [b] (fun i h => by obtain rfl : i = 0 := by simpa using h
                                                exact d0)
    have hadd := addT [92] [b] (by simp)
    rw [show ofT [92] = ⟨#[92]⟩ from rfl] at hadd
    have HF := Lib.hid (fourteen_calls b)
    have hY := HG.out
    rw [if_neg h256, if_neg (fun h => h rfl)] at hY
    simp only at hY
    clear HG h256 HV hva HL HT h1
    rw [show [b].length = 1 from rfl] at *
    have hY1 : ¬ (four14 b = true ∧ b ≠ 93 ∧ b ≠ 125) → ofT Y = ofT [b] := fun h => by rw [hY, if_neg h]
    have hY2 : (four14 b = true ∧ b ≠ 93 ∧ b ≠ 125) → ofT Y = ofT ([92] ++ [b]) := fun h => by rw [hY, if_pos h]; rfl
    clear hY
    generalize ofT ([92] ++ [b]) = t2 at *
    generalize ofT [b] = t1 at *
    cases hf : four14 b with
    | false =>
      rw [hf] at HF
      have HY := Lib.hid (hY1 (by rw [hf]; intro h; cases h.1))
      clear hY1 hY2 hf
      go_wp2_with fail
      refine (HF.out _).mono ?_
      rintro e w3 ⟨rfl, rfl⟩
      go_wp2_with fail
      go_ret
      exact ⟨by rw [HY.out] <;> rfl, hB1⟩
    | true =>
      rw [hf] at HF
      by_cases h93 : b = 93
      · subst h93
        have HY := Lib.hid (hY1 (fun h => h.2.1 rfl))
        clear hY1 hY2 hf
        go_wp2_with fail
        refine (HF.out _).mono ?_
        rintro e w3 ⟨rfl, rfl⟩
        go_wp2_with fail
        go_ret
        exact ⟨by rw [HY.out] <;> rfl, hB1⟩
      have q3 : ((b : Int) != 93) = true := by rw [bne_iff_ne]; omega
      by_cases h125 : b = 125
      · subst h125
        have HY := Lib.hid (hY1 (fun h => h.2.2 rfl))
        clear hY1 hY2 hf
        go_wp2_with fail
        refine (HF.out _).mono ?_
        rintro e w3 ⟨rfl, rfl⟩
        go_wp2_with fail
        go_ret
        exact ⟨by rw [HY.out] <;> rfl, hB1⟩
      have q4 : ((b : Int) != 125) = true := by rw [bne_iff_ne]; omega
      have HY := Lib.hid (hY2 ⟨hf, h93, h125⟩)
      clear hY1 hY2 hf h93 h125
      go_wp2_with fail
      refine (HF.out _).mono ?_
      rintro e w3 ⟨rfl, rfl⟩
      go_wp2_with fail
      go_ret
      exact ⟨by rw [HY.out] <;> rfl, hB1⟩
  · have q1 : ((l.length : Int) != 1) = true := by rw [bne_iff_ne]; omega
    obtain rfl : Y = T := by rw [HG.out, if_neg h256, if_pos h1]
    clear HG h256 h1 HL HV
    generalize l.length = n at *
    go_wp2_with fail
    refine (HT.out _).mono ?_
    rintro e w3 ⟨rfl, hb⟩
    have hB2 := hB1.trans (hb.mono (by omega))
    clear hB1 hb
    go_wp2_with fail
    go_ret
    exact ⟨rfl, hB2⟩

/-- The text of a word of any kind. -/
def printV (k : Int) (t : BitVec 256) (n m : Int) : List Nat :=
  if k = 1 then textW t else if k = 2 then [40] else if k = 3 then [41] else if k = 4 then [124] else if k = 5 then textN n m else []
theorem printV_W (w : WN) : printV w.kind w.set w.n w.m = printW w := by
  unfold printV printW
  have e : ∀ c : Nat, ((w.kind : Int) = (c : Int)) = (w.kind = c) := fun c => by rw [eq_iff_iff]; omega
  have e1 := e 1; have e2 := e 2; have e3 := e 3; have e4 := e 4; have e5 := e 5
  simp only [Int.cast_ofNat_Int] at e1 e2 e3 e4 e5
  simp only [e1, e2, e3, e4, e5]
set_option maxRecDepth 100000 in
set_option maxHeartbeats 8000000 in
theorem rPrintW_calls (k a e : Int) (t : BitVec 256) (n m : Int) (w : World) : Calls Tryz.prog 16 #[.agg (woI k a e t n m)] w fun en w' => en = .returned (.string (ofT (printV k t n m))) ∧ Below w.heap.size w w' := by
  have b0 := Blk.new w (woI k a e t n m) 27
  have hB0 : Below w.heap.size w (w.alloc (.cells (woI k a e t n m) 27)) := by go_grown
  have hz0 : w.heap.size + 1 ≤ (w.alloc (.cells (woI k a e t n m) 27)).heap.size := by simp
  have HT := Lib.hid (rTextW_calls t)
  have HN := Lib.hid (textN_calls n m)
  have hg : printV k t n m = printV k t n m := rfl
  conv at hg => rhs; unfold printV
  generalize printV k t n m = Y at *
  generalize textW t = T at *
  generalize textN n m = T2 at *
  have HG := Lib.hid hg
  clear hg
  go_enter Tryz.func16, Tryz.ntmps16
  go_upto_region 1 with fail
  have e0 : w.alloc (.cells #[.int .i64 k, .int .i64 a, .int .i64 e, .int .u64 (wd t 0), .int .u64 (wd t 1), .int .u64 (wd t 2), .int .u64 (wd t 3), .int .i64 n, .int .i64 m] 27) = w.alloc (.cells (woI k a e t n m) 27) := rfl
  try rw [e0]
  clear e0
  generalize w.alloc (.cells (woI k a e t n m) 27) = w1 at *
  have c0 := b0.cell 0; have c3 := b0.cell 3; have c4 := b0.cell 4; have c5 := b0.cell 5; have c6 := b0.cell 6; have c7 := b0.cell 7; have c8 := b0.cell 8
  simp only [List.getElem?_toArray, List.getElem?_cons_zero, List.getElem?_cons_succ] at c0 c3 c4 c5 c6 c7 c8
  clear b0
  by_cases h1 : k = 1
  · subst h1
    obtain rfl : Y = T := by rw [HG.out, if_pos rfl]
    clear HG HN
    go_wp2_with fail
    refine (HT.out _).mono ?_
    rintro en w3 ⟨rfl, hb⟩
    have hB2 := hB0.trans (hb.mono (by omega))
    clear hB0 hb
    go_wp2_with fail
    go_ret
    exact ⟨rfl, hB2⟩
  have q1 : (k == 1) = false := by rw [beq_eq_false_iff_ne]; omega
  by_cases h2 : k = 2
  · subst h2
    obtain rfl : Y = [40] := by rw [HG.out]; rfl
    clear HG HN HT
    go_wp2_with fail
    go_ret
    exact ⟨rfl, hB0⟩
  have q2 : (k == 2) = false := by rw [beq_eq_false_iff_ne]; omega
  by_cases h3 : k = 3
  · subst h3
    obtain rfl : Y = [41] := by rw [HG.out]; rfl
    clear HG HN HT
    go_wp2_with fail
    go_ret
    exact ⟨rfl, hB0⟩
  have q3 : (k == 3) = false := by rw [beq_eq_false_iff_ne]; omega
  by_cases h4 : k = 4
  · subst h4
    obtain rfl : Y = [124] := by rw [HG.out]; rfl
    clear HG HN HT
    go_wp2_with fail
    go_ret
    exact ⟨rfl, hB0⟩
  have q4 : (k == 4) = false := by rw [beq_eq_false_iff_ne]; omega
  by_cases h5 : k = 5
  · subst h5
    obtain rfl : Y = T2 := by rw [HG.out]; rfl
    clear HG HT
    go_wp2_with fail
    refine (HN.out _).mono ?_
    rintro en w3 ⟨rfl, hb⟩
    have hB2 := hB0.trans (hb.mono (by omega))
    clear hB0 hb
    go_wp2_with fail
    go_ret
    exact ⟨rfl, hB2⟩
  have q5 : (k == 5) = false := by rw [beq_eq_false_iff_ne]; omega
  obtain rfl : Y = [] := by rw [HG.out, if_neg h1, if_neg h2, if_neg h3, if_neg h4, if_neg h5]
  clear HG HN HT
  go_wp2_with fail
  go_ret
  exact ⟨rfl, hB0⟩
end Go.Proofs.YtpaecjjelpjopaaGreatDoor

/- The document's sets, by the reference's own calls: Runs. -/
import Derived.Test.YtpaecjjelpjopaaGreatDoorRc
import Derived.Deep.MidRow
import Derived.Maps.AppendAt
namespace Go.Proofs.YtpaecjjelpjopaaGreatDoor
open Go.RowKit Go.Shelf BS
attribute [local go_sem] Oper.semAt_some

theorem runStep_last (rs : List (Nat × Nat)) (x : Nat) : ∃ rs' a, runStep rs x = rs' ++ [(a, x)] := by
  rcases nil_or_snoc rs with rfl | ⟨rs', a, b, rfl⟩
  · exact ⟨[], x, rfl⟩
  · by_cases h : (b + 1) % 256 = x
    · exact ⟨rs', a, runStep_grow _ _ _ _ h⟩
    · exact ⟨rs' ++ [(a, b)], x, runStep_new _ _ _ _ h⟩
theorem runs_prev (f : Nat → Bool) (k : Nat) (hk : 0 < k) (hf : f (k - 1) = true) : ∃ rs' a, runsOf (el f k) = rs' ++ [(a, k - 1)] := by
  obtain ⟨j, rfl⟩ : ∃ j, k = j + 1 := ⟨k - 1, by omega⟩
  simp only [Nat.add_sub_cancel] at hf ⊢
  rw [el_succ, hf, if_pos rfl, runsOf_snoc]
  exact runStep_last _ _
theorem runs_fresh (f : Nat → Bool) (k : Nat) (hk : k < 256) (hf : k = 0 ∨ f (k - 1) = false) (h : f k = true) : runsOf (el f (k + 1)) = runsOf (el f k) ++ [(k, k)] := by
  rw [el_succ, h, if_pos rfl, runsOf_snoc]
  have iv := runsInv f k (by omega)
  generalize runsOf (el f k) = rs at *
  rcases nil_or_snoc rs with rfl | ⟨rs', a, b, rfl⟩
  · rfl
  · have hb := iv.ok (a, b) (by simp)
    simp only at hb
    refine runStep_new _ _ _ _ fun e => ?_
    have hbk : b + 1 = k := by omega
    have hfb : f b = true := (iv.all b (by omega)).2 ⟨(a, b), by simp, hb.1, Nat.le_refl _⟩
    rcases hf with h0 | h0
    · omega
    · rw [show k - 1 = b by omega, hfb] at h0; cases h0
theorem runs_more (f : Nat → Bool) (k : Nat) (hk : k < 256) (rs' : List (Nat × Nat)) (a : Nat) (hk0 : 0 < k) (hr : runsOf (el f k) = rs' ++ [(a, k - 1)]) (h : f k = true) : runsOf (el f (k + 1)) = rs' ++ [(a, k)] := by
  rw [el_succ, h, if_pos rfl, runsOf_snoc, hr]
  exact runStep_grow _ _ _ _ (by omega)

set_option maxRecDepth 100000 in
set_option maxHeartbeats 2000000 in
/-- Runs, by the document. -/
theorem rruns_calls (s : BitVec 256) (w : World) :
    Calls Tryz.prog 50 #[setV s] w fun e w' => ∃ v, e = .returned v ∧ w'.ownsRow w.heap.size 82 2 v (rsOf s).length (runCells (rsOf s)) ∧ Below w.heap.size w w' := by
  obtain ⟨i0, hi, hz0, hz1, hz2⟩ := info_parts info2b
  have b0 := Blk.new w (setA s) 25
  have hB0 : Below w.heap.size w (w.alloc (.cells (setA s) 25)) := by go_grown
  go_enter Tryz.func50, Tryz.ntmps50
  go_wp2_with fail
  have e0 : w.alloc (.cells #[.int .u64 (wd s 0), .int .u64 (wd s 1), .int .u64 (wd s 2), .int .u64 (wd s 3)] 25) = w.alloc (.cells (setA s) 25) := rfl
  rw [e0]
  clear e0
  generalize w.alloc (.cells (setA s) 25) = w1 at *
  go_loopw [3, 4] (fun v i wr => ∃ k : Nat, k ≤ 256 ∧ i = .int .i64 k ∧ wr.ownsRow w.heap.size 82 2 v (runsOf (el s.getLsbD k)).length (runCells (runsOf (el s.getLsbD k))) ∧ Blk wr w.heap.size (setA s) 25 ∧ Below w.heap.size w wr) (fun _ i _ => 256 - (intOf i).toNat)
  case atStart => exact ⟨0, Nat.zero_le _, rfl, (by rw [el_zero]; exact World.ownsRow_nil _ _ _ _), b0, hB0⟩
  case round =>
    clear b0 hB0
    obtain ⟨k, hk, rfl, hr, hbk, hB⟩ := hrel
    obtain ⟨⟨c0, c1, c2, c3⟩, _⟩ := hbk.cells4
    by_cases hkl : k < 256
    · cases hx : s.getLsbD k with
      | false =>
        have HX := Lib.hid hx
        have HR := Lib.hid hr
        have BK := Lib.hid hbk
        have HB := Lib.hid hB
        clear hx hr hbk hB
        go_wp2_with (go_at_call 48; refine (rhasN' s k _ hkl).mono ?_; rintro e w2 ⟨rfl, hb2⟩; rw [HX.out])
        go_roundw
        case rel =>
          refine ⟨k + 1, by omega, by simp, ?_, BK.out.below hb2 BK.out.lt, HB.out.trans (hb2.mono HB.out.size)⟩
          rw [el_succ, HX.out]
          simpa using row_below HR.out hb2
        case measure => simp [intOf]; omega
      | true =>
        by_cases hp : 0 < k ∧ s.getLsbD (k - 1) = true
        · obtain ⟨hk0, hp⟩ := hp
          obtain ⟨rs', a, hrs⟩ := runs_prev s.getLsbD k hk0 hp
          have hl := Nat.le_trans (runsOf_len (el s.getLsbD k)) (el_len s.getLsbD k)
          have HM := Lib.hid (runs_more s.getLsbD k hkl rs' a hk0 hrs hx)
          rw [hrs] at hr hl
          have HX := Lib.hid hx
          have HP := Lib.hid hp
          clear hx hp hrs
          have hln : (rs' ++ [(a, k - 1)]).length = rs'.length + 1 := by simp
          rw [hln] at hr hl
          clear hln
          have BK := Lib.hid hbk
          have HB := Lib.hid hB
          have HR := Lib.hid hr
          obtain ⟨g, cap, rfl⟩ := ownsRow_succ hr
          have hgB : g ≠ w.heap.size := fun e => hbk.not_own (by decide) hr (by rw [e]; rfl)
          have hglt : w.heap.size ≤ g := (hr.lt g rfl).1
          clear hr hbk hB
          have hd0 : decide ((0 : Int) < (k : Int)) = true := by simpa using hk0
          have hk1 : ((k : Int) - 1) = ((k - 1 : Nat) : Int) := by omega
          have HN := Lib.hid hkl
          go_wp2_with (first
            | (have hmark := HR2.out; clear hmark; go_at_call 48; refine (rhasN' s (k - 1) _ (by omega)).mono ?_; rintro e w3 ⟨rfl, hb3⟩; rw [HP.out]
               have BK3 := Lib.hid (BK2.out.below hb3 BK2.out.lt)
               have HB3 := Lib.hid (HB2.out.trans (hb3.mono HB2.out.size))
               have hr3 := row_below HR2.out hb3
               have hcl := (hr3.cellAt (rs'.length * 2 + 1) (by omega)).trans (runCells_last rs' a (k - 1))
               have hfl := hr3.frozenAt (rs'.length * 2 + 1)
               have HR3 := Lib.hid hr3
               clear hr3 hb3 HR2 HB2 BK2)
            | (have hmark := HR.out; clear hmark; go_at_call 48; refine (rhasN' s k _ HN.out).mono ?_; rintro e w2 ⟨rfl, hb2⟩; rw [HX.out]
               have BK2 := Lib.hid (BK.out.below hb2 BK.out.lt)
               have HB2 := Lib.hid (HB.out.trans (hb2.mono HB.out.size))
               have HR2 := Lib.hid (row_below HR.out hb2)
               obtain ⟨⟨d0, d1, d2, d3⟩, _⟩ := BK2.out.cells4
               clear hb2 HR HB BK))
          go_roundw
          case rel =>
            refine ⟨k + 1, by omega, by simp, ?_, BK3.out.other (Ne.symm hgB) _ _, HB3.out.trans (below_set (Below.refl w.heap.size w3) hglt (rs'.length * 2 + 1) (.int .u8 (k : Int)))⟩
            rw [HM.out, ← runCells_set rs' a (k - 1) k]
            simpa using (HR3.out.stored (rs'.length * 2 + 1) (.int .u8 (k : Int))).1
          case measure => simp [intOf]; omega
        · have hf : k = 0 ∨ s.getLsbD (k - 1) = false := by
            by_cases h0 : k = 0
            · exact .inl h0
            · refine .inr ?_
              cases h : s.getLsbD (k - 1) with
              | false => rfl
              | true => exact absurd ⟨by omega, h⟩ hp
          clear hp
          have hl := Nat.le_trans (runsOf_len (el s.getLsbD k)) (el_len s.getLsbD k)
          have HM := Lib.hid (runs_fresh s.getLsbD k hkl hf hx)
          generalize runsOf (el s.getLsbD k) = rs at *
          have HX := Lib.hid hx
          have BK := Lib.hid hbk
          have HB := Lib.hid hB
          have HN := Lib.hid hkl
          have HR := Lib.hid hr
          clear hx hbk hB hr
          rcases hf with hk0 | hp
          · have HK := Lib.hid hk0
            have hd0 : decide ((0 : Int) < (k : Int)) = false := by rw [hk0]; rfl
            have hd1 : decide (0 < k) = false := by rw [hk0]; rfl
            have hd2 : ¬ 0 < k := by omega
            clear hk0
            go_wp2_with (first
              | (have hmark := HR.out; clear hmark; go_at_call 48; refine (rhasN' s k _ HN.out).mono ?_; rintro e w2 ⟨rfl, hb2⟩; rw [HX.out]
                 have BK2 := Lib.hid (BK.out.below hb2 BK.out.lt)
                 have HB2 := Lib.hid (HB.out.trans (hb2.mono HB.out.size))
                 have hr2 := row_below HR.out hb2
                 clear hb2 HR HB BK)
              | (at_builtin
                 refine wpList_append_own _ rfl _ _ 79 rfl w.heap.size 82 i0 (.agg #[.int .u8 0, .int .u8 0]) 2 2 Tryz.underlying79 hi hz0 hz1 hz2 rfl (by decide) _ _ _ rfl (hr2.alloc _) ⟨w2.heap.size, 0, none⟩ 1 1 [.int .u8 (k : Nat), .int .u8 (k : Nat)] rfl rfl (Blk.new w2 _ _).news2 (by simp [Value.oneCell']) (by unfold maxLen; omega) (by omega) (by have := HB2.out.size; simp; omega) ?_
                 intro v' w3 hown' hgrow _
                 have BK3 := Lib.hid ((BK2.out.alloc _).kept hgrow (BK2.out.not_own (by decide) hr2))
                 have HB3 := Lib.hid ((HB2.out.alloc HB2.out.size _).grown hgrow (by have := HB2.out.size; simp; omega) (fun b hb => (hr2.lt b hb).1))
                 have HO := Lib.hid hown'
                 clear hown' hr2 BK2 HB2 hgrow))
            go_roundw
            case rel =>
              refine ⟨k + 1, by omega, by simp, ?_, BK3.out, HB3.out⟩
              rw [HM.out, runCells_snoc]
              simpa using HO.out
            case measure => simp [intOf]; omega
          · by_cases hk0 : 0 < k
            · have HP := Lib.hid hp
              clear hp
              have hd0 : decide ((0 : Int) < (k : Int)) = true := by simpa using hk0
              have hk1 : ((k : Int) - 1) = ((k - 1 : Nat) : Int) := by omega
              go_wp2_with (first
                | (have hmark := HR2.out; clear hmark; go_at_call 48; refine (rhasN' s (k - 1) _ (by omega)).mono ?_; rintro e w4 ⟨rfl, hb4⟩; rw [HP.out]
                   have BK4 := Lib.hid (BK2.out.below hb4 BK2.out.lt)
                   have HB4 := Lib.hid (HB2.out.trans (hb4.mono HB2.out.size))
                   have hr4 := row_below HR2.out hb4
                   clear hb4 HR2 HB2 BK2)
                | (have hmark := HR.out; clear hmark; go_at_call 48; refine (rhasN' s k _ HN.out).mono ?_; rintro e w2 ⟨rfl, hb2⟩; rw [HX.out]
                   have BK2 := Lib.hid (BK.out.below hb2 BK.out.lt)
                   have HB2 := Lib.hid (HB.out.trans (hb2.mono HB.out.size))
                   have HR2 := Lib.hid (row_below HR.out hb2)
                   obtain ⟨⟨d0, d1, d2, d3⟩, _⟩ := BK2.out.cells4
                   clear hb2 HR HB BK)
                | (at_builtin
                   refine wpList_append_own _ rfl _ _ 79 rfl w.heap.size 82 i0 (.agg #[.int .u8 0, .int .u8 0]) 2 2 Tryz.underlying79 hi hz0 hz1 hz2 rfl (by decide) _ _ _ rfl (hr4.alloc _) ⟨w4.heap.size, 0, none⟩ 1 1 [.int .u8 (k : Nat), .int .u8 (k : Nat)] rfl rfl (Blk.new w4 _ _).news2 (by simp [Value.oneCell']) (by unfold maxLen; omega) (by omega) (by have := HB4.out.size; simp; omega) ?_
                   intro v' w3 hown' hgrow _
                   have BK3 := Lib.hid ((BK4.out.alloc _).kept hgrow (BK4.out.not_own (by decide) hr4))
                   have HB3 := Lib.hid ((HB4.out.alloc HB4.out.size _).grown hgrow (by have := HB4.out.size; simp; omega) (fun b hb => (hr4.lt b hb).1))
                   have HO := Lib.hid hown'
                   clear hown' hr4 BK4 HB4 hgrow))
              go_roundw
              case rel =>
                refine ⟨k + 1, by omega, by simp, ?_, BK3.out, HB3.out⟩
                rw [HM.out, runCells_snoc]
                simpa using HO.out
              case measure => simp [intOf]; omega
            · obtain rfl : k = 0 := by omega
              rw [show (0 : Nat) - 1 = 0 from rfl, HX.out] at hp
              cases hp
    · obtain rfl : k = 256 := by omega
      go_wp2
      go_ret
      exact ⟨_, rfl, hr, hB⟩

/-- A set's bytes are as many as it counts. -/
theorem el_cnt (f : Nat → Bool) : ∀ k, (el f k).length = cnt f k
  | 0 => rfl
  | k + 1 => by
    rw [el_succ, List.length_append, el_cnt f k, cnt]
    cases f k <;> rfl
theorem byteCells_len (l : List Nat) : (byteCells l).length = l.length := by simp [byteCells]
theorem byteCells_get (l : List Nat) (i : Nat) (h : i < l.length) : (byteCells l)[i]? = some (.int .u8 (l[i] : Int)) := by
  simp [byteCells, h]
end Go.Proofs.YtpaecjjelpjopaaGreatDoor

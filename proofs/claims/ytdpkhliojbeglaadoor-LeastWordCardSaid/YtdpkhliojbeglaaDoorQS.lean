/- Texts put together: Xo Xp. -/
import Derived.Test.YtdpkhliojbeglaaDoorQN
import Derived.Lib.AppendZeros
import Derived.Test.YtdpkhliojbeglaaDoorQB
import Derived.Laws.Rows
/- slices.Grow and slices.Concat, of rows of bytes. Stage 12. -/
namespace Go.Proofs.YtdpkhliojbeglaaDoor
open Go.RowKit BS

set_option maxRecDepth 100000 in
set_option maxHeartbeats 8000000 in
theorem grow_calls (n : Nat) (hn : n ≤ 100000) (w : World) :
    Calls Tryd.prog 104 #[.slice none 0 0, .int .i64 (n : Nat)] w fun e w' => ∃ v, e = .returned v ∧ OwB w.heap.size v [] w' ∧ Below w.heap.size w w' := by
  obtain ⟨i0, hinf, hzz⟩ := Option.map_eq_some_iff.1 infoU12
  simp only [Prod.mk.injEq] at hzz
  obtain ⟨hz0, hz1, hz2⟩ := hzz
  have q0 : decide ((n : Int) < 0) = false := decide_eq_false (by omega)
  have xn : IntKind.i64.wrap ((n : Int) - 0) = (n : Int) := by rw [IntWalk.i64_in _ (by omega)]; omega
  have xn2 : IntKind.i64.wrap (n : Int) = (n : Int) := IntWalk.i64_in _ (by omega)
  by_cases h0 : n = 0
  · subst h0
    go_enter Tryd.func104, Tryd.ntmps104
    go_wp2_with fail
    go_ret
    exact ⟨_, rfl, OwB.nil _ _, Below.refl _ _⟩
  · have hp : 0 < n := by omega
    have q1 : decide (0 < (n : Int)) = true := decide_eq_true (by omega)
    have q2 : decide (0 < n) = true := decide_eq_true hp
    have hrun := Lib.run_append_nil_zeros (P := Tryd.prog) w 23 3 23 5 i0 (.int .u8 0) .i64 .i64 Tryd.underlying23 Tryd.underlying3 hinf hz0 n hp (by rw [hz1]; decide) (by omega) (by rw [hz2]; omega)
    have hcap := grownCap_ge w n 0 5
    have hmax := grownCap_le_maxLen w n 0 5 (by unfold maxLen; omega)
    generalize grownCap w n 0 5 = c at *
    have hsz : (Builtin.zeroCells (Value.int .u8 0).cells n ++ Builtin.zeroCells (Value.int .u8 0).cells (c - n)).size = c := by
      rw [Array.size_append, size_zeroCells, size_zeroCells]
      show n * 1 + (c - n) * 1 = c
      omega
    generalize Builtin.zeroCells (Value.int .u8 0).cells n ++ Builtin.zeroCells (Value.int .u8 0).cells (c - n) = cs at *
    have HO := Lib.hid (show OwB w.heap.size (.slice (some ⟨w.heap.size, 0, none⟩) 0 c) [] (w.drew.alloc (.cells cs 5)) from ⟨rfl, .inr ⟨w.heap.size, c, cs, rfl, Nat.le_refl _, heap_alloc_new w.drew _, Nat.zero_le _, hmax, by omega, rfl⟩⟩)
    have HB := Lib.hid (((Below.refl w.heap.size w).drew).alloc (Nat.le_refl _) (.cells cs 5))
    clear h0 hmax hsz
    go_enter Tryd.func104, Tryd.ntmps104
    go_wp2_with (at_builtin; (refine Lib.wpList_append_run _ rfl _ _ _ _ rfl _ _ rfl rfl _ _ hrun ?_))
    go_ret
    first | exact ⟨_, rfl, HO.out, HB.out⟩ | exact ⟨HO.out, HB.out⟩
set_option maxRecDepth 100000 in
set_option maxHeartbeats 16000000 in
theorem concat_calls (A B : List Nat) (hA : A.length ≤ 10000) (hB : B.length ≤ 10000) (va vb : Value) (P : Nat) (w : World) (hP : P < w.heap.size) (c0 : w.cell? ⟨P, 0, none⟩ = some va) (c1 : w.cell? ⟨P, 1, none⟩ = some vb) (hva : RowV A va w) (hvb : RowV B vb w) :
    Calls Tryd.prog 89 #[.slice (some ⟨P, 0, none⟩) 2 2] w fun e w' => ∃ v, e = .returned v ∧ OwB w.heap.size v (A ++ B) w' ∧ Below w.heap.size w w' := by
  have HVA := Lib.hid hva
  have HVB := Lib.hid hvb
  obtain ⟨a, ca, rfl⟩ := hva.form
  obtain ⟨b, cb, rfl⟩ := hvb.form
  clear hva hvb
  have HG := Lib.hid (grow_calls (A.length + B.length) (by omega) w)
  have q0 : decide ((A.length : Int) < 0) = false := decide_eq_false (by omega)
  have q1 : decide ((A.length : Int) + (B.length : Int) < 0) = false := decide_eq_false (by omega)
  have x0 : IntKind.i64.wrap (0 + (A.length : Int)) = (A.length : Int) := by rw [IntWalk.i64_in _ (by omega)]; omega
  have x1 : IntKind.i64.wrap (A.length : Int) = (A.length : Int) := IntWalk.i64_in _ (by omega)
  have x2 : IntKind.i64.wrap ((A.length : Int) + (B.length : Int)) = (A.length : Int) + (B.length : Int) := IntWalk.i64_in _ (by omega)
  have HC := Lib.hid (show ∀ W, Below w.heap.size w W → W.cell? ⟨P, 0, none⟩ = some (.slice a A.length ca) ∧ W.cell? ⟨P, 1, none⟩ = some (.slice b B.length cb) from fun W hb => ⟨(hb.cell (p := ⟨P, 0, none⟩) hP).trans c0, (hb.cell (p := ⟨P, 1, none⟩) hP).trans c1⟩)
  go_enter Tryd.func89, Tryd.ntmps89
  go_upto_region 3 with fail
  go_loopw [3, 11] (fun vs vi wr => w = wr ∧ ((vi = .int .i64 0 ∧ vs = .int .i64 0) ∨ (vi = .int .i64 1 ∧ vs = .int .i64 (A.length : Nat)) ∨ (vi = .int .i64 2 ∧ vs = .int .i64 ((A.length : Int) + (B.length : Int))))) (fun _ vi _ => 3 - (intOf vi).toNat)
  case atStart => exact ⟨rfl, .inl ⟨rfl, rfl⟩⟩
  case round =>
    obtain ⟨rfl, hv⟩ := hrel
    rcases hv with ⟨rfl, rfl⟩ | ⟨rfl, rfl⟩ | ⟨rfl, rfl⟩
    · go_wp2_with fail
      go_roundw
      case rel => simp
      case measure => decide
    · go_wp2_with fail
      go_roundw
      case rel => simp
      case measure => decide
    · clear c0 c1 x0 x1 x2 q0 q1
      have hsum : (A.length : Int) + (B.length : Int) = ((A.length + B.length : Nat) : Int) := by omega
      rw [hsum]
      clear hsum
      go_wp2_with fail
      refine HG.out.mono ?_
      rintro e w1 ⟨v1, rfl, ho, hb⟩
      have HO := Lib.hid ho
      have HB := Lib.hid hb
      clear ho hb HG
      go_upto_region 11 with fail
      go_loopw [6, 27] (fun vs vi wr => Below w.heap.size w wr ∧ ((vi = .int .i64 0 ∧ OwB w.heap.size vs [] wr) ∨ (vi = .int .i64 1 ∧ OwB w.heap.size vs A wr) ∨ (vi = .int .i64 2 ∧ OwB w.heap.size vs (A ++ B) wr))) (fun _ vi _ => 3 - (intOf vi).toNat)
      case atStart => exact ⟨HB.out, .inl ⟨rfl, HO.out⟩⟩
      case round =>
        clear HO HB
        obtain ⟨hb, hv⟩ := hrel
        obtain ⟨c0, c1⟩ := HC.out _ hb
        have HB := Lib.hid hb
        rcases hv with ⟨rfl, ho⟩ | ⟨rfl, ho⟩ | ⟨rfl, ho⟩
        · have HO := Lib.hid ho
          clear ho hb
          go_wp2_with (at_builtin; (refine wpList_app (base := w.heap.size) (L := []) (M := A) rfl _ _ rfl rfl rfl HO.out (HVA.out.below HB.out) (by simp only [List.length_nil]; omega) HB.out.size ?_); intro v2 w2 hown hgrow; have HO2 := Lib.hid hown; have HB2 := Lib.hid (HB.out.grown hgrow HB.out.size (fun k hk => (World.ownsRow.lt HO.out k hk).1)); clear hown hgrow)
          go_roundw
          case rel => exact ⟨HB2.out, .inr (.inl ⟨by first | rfl | simp, by simpa using HO2.out⟩)⟩
          case measure => decide
        · have HO := Lib.hid ho
          clear ho hb
          go_wp2_with (at_builtin; (refine wpList_app (base := w.heap.size) (L := A) (M := B) rfl _ _ rfl rfl rfl HO.out (HVB.out.below HB.out) (by omega) HB.out.size ?_); intro v2 w2 hown hgrow; have HO2 := Lib.hid hown; have HB2 := Lib.hid (HB.out.grown hgrow HB.out.size (fun k hk => (World.ownsRow.lt HO.out k hk).1)); clear hown hgrow)
          go_roundw
          case rel => exact ⟨HB2.out, .inr (.inr ⟨by first | rfl | simp, HO2.out⟩)⟩
          case measure => decide
        · have HO := Lib.hid ho
          clear ho hb
          go_wp2_with fail
          go_ret
          exact ⟨_, rfl, HO.out, HB.out⟩
end Go.Proofs.YtdpkhliojbeglaaDoor

/- The developers' rows: one, and, or. Stage 12. -/
namespace Go.Proofs.YtdpkhliojbeglaaDoor
open Go.RowKit BS

theorem infoRw : (Tryd.prog.info? 95).map (·.size) = some 2 := by kernel_rfl
@[reducible] def rwC (a : Option Addr) (n c : Nat) (b : Bool) : Array Value := #[.slice a n c, .bool b]
set_option maxRecDepth 100000 in
set_option maxHeartbeats 8000000 in
theorem one_calls (t : BitVec 256) (w : World) (hT : Tab w) (hw : 0 < w.heap.size) (L : List Nat) (i : Bool) (hL : (∃ b, nxB t = some b ∧ b < 256 ∧ L = [b] ∧ i = true) ∨ (nxB t = none ∧ L = [] ∧ i = false)) :
    Calls Tryd.prog 69 #[setV t] w fun e w' => ∃ a c, e = .returned (.agg (rwC a L.length c i)) ∧ RowV L (.slice a L.length c) w' ∧ Below w.heap.size w w' := by
  have b0 := Blk.new w (setA t) 58
  have hB0 : Below w.heap.size w (w.alloc (.cells (setA t) 58)) := (Below.refl _ _).alloc (Nat.le_refl _) _
  have hz0 : (w.alloc (.cells (setA t) 58)).heap.size = w.heap.size + 1 := World.size_alloc ..
  go_enter Tryd.func69, Tryd.ntmps69
  go_upto_region 1 with fail
  have e0 : w.alloc (.cells #[.int .u64 (wd t 0), .int .u64 (wd t 1), .int .u64 (wd t 2), .int .u64 (wd t 3)] 58) = w.alloc (.cells (setA t) 58) := rfl
  rw [e0]
  clear e0
  have b1 := b0.alloc (.cells (rwC none 0 0 false) 95)
  have r1 := Blk.new (w.alloc (.cells (setA t) 58)) (rwC none 0 0 false) 95
  rw [hz0] at r1
  have hB1 := hB0.alloc hB0.size (.cells (rwC none 0 0 false) 95)
  clear b0 hB0
  have hz1 : ((w.alloc (.cells (setA t) 58)).alloc (.cells (rwC none 0 0 false) 95)).heap.size = w.heap.size + 2 := by rw [World.size_alloc, hz0]
  generalize (w.alloc (.cells (setA t) 58)).alloc (.cells (rwC none 0 0 false) 95) = w1 at *
  clear hz0
  have HN := Lib.hid (next_calls t 0 w1 (by decide) (hT.keep hB1 hw) (by omega))
  have hnn := next_nx t
  have hz0 : (0 : Int).toNat = 0 := rfl
  obtain ⟨⟨c0, c1, c2, c3⟩, _⟩ := b1.cells4
  have HB1 := Lib.hid hB1
  rw [hz0, hnn] at HN
  clear hB1 hT hnn hz0
  rcases hL with ⟨b, hb, hb256, rfl, rfl⟩ | ⟨hb, rfl, rfl⟩
  · rw [hb] at HN
    simp only at HN
    have xb : IntKind.u8.wrap (b : Int) = (b : Int) := by unfold IntKind.wrap; simp [IntKind.bits, IntKind.signed]; omega
    have hb0 : decide ((b : Int) < 0) = false := decide_eq_false (by omega)
    clear hb
    go_wp2_with fail
    refine HN.out.mono ?_
    rintro e w2 ⟨rfl, hb2⟩
    have r2 := r1.below hb2 (by omega)
    have hz2 := hb2.size
    have r20 := r2.cell 0; have r21 := r2.cell 1
    have f20 := r2.frozen 0; have f21 := r2.frozen 1
    simp only [List.getElem?_toArray, List.getElem?_cons_zero, List.getElem?_cons_succ] at r20 r21
    have hr2 := r2.lt
    have HR3 := Lib.hid (((r2.set 0 (.slice (some ⟨w2.heap.size, 0, none⟩) 1 1)).set 1 (.bool true)).alloc (.cells #[.int .u8 (b : Nat)] 5))
    have hB2 := HB1.out.trans (hb2.mono HB1.out.size)
    have hB3 := below_set (below_set hB2 (Nat.le_add_right w.heap.size 1) 0 (.slice (some ⟨w2.heap.size, 0, none⟩) 1 1)) (Nat.le_add_right w.heap.size 1) 1 (.bool true)
    have HB3 := Lib.hid (hB3.alloc hB3.size (.cells #[.int .u8 (b : Nat)] 5))
    have HV := Lib.hid (show RowV [b] (.slice (some ⟨w2.heap.size, 0, none⟩) 1 1) (((w2.setCell ⟨w.heap.size + 1, 0, none⟩ (.slice (some ⟨w2.heap.size, 0, none⟩) 1 1)).setCell ⟨w.heap.size + 1, 1, none⟩ (.bool true)).alloc (.cells #[.int .u8 (b : Nat)] 5)) from by
      have h := RowV.one ((w2.setCell ⟨w.heap.size + 1, 0, none⟩ (.slice (some ⟨w2.heap.size, 0, none⟩) 1 1)).setCell ⟨w.heap.size + 1, 1, none⟩ (.bool true)) b 5
      have hz : ((w2.setCell ⟨w.heap.size + 1, 0, none⟩ (.slice (some ⟨w2.heap.size, 0, none⟩) 1 1)).setCell ⟨w.heap.size + 1, 1, none⟩ (.bool true)).heap.size = w2.heap.size := by simp
      rw [hz] at h
      exact h)
    clear HN c0 c1 c2 c3 b1 r1 r2 hb2 hB2 hB3
    go_wp2_with fail
    exact bodyPost_ret (v := .agg (rwC (some ⟨w2.heap.size, 0, none⟩) 1 1 true)) (results_cell_row rfl _ _ (w.heap.size + 1) 95 (rwC (some ⟨w2.heap.size, 0, none⟩) 1 1 true) (0, 0) _ rfl HR3.out Tryd.underlying95 rfl infoRw) rfl ⟨_, _, rfl, HV.out, HB3.out⟩
  · rw [hb] at HN
    simp only at HN
    clear hb
    go_wp2_with fail
    refine HN.out.mono ?_
    rintro e w2 ⟨rfl, hb2⟩
    have r2 := r1.below hb2 (by omega)
    have r20 := r2.cell 0; have r21 := r2.cell 1
    have f20 := r2.frozen 0; have f21 := r2.frozen 1
    simp only [List.getElem?_toArray, List.getElem?_cons_zero, List.getElem?_cons_succ] at r20 r21
    have HR3 := Lib.hid ((r2.set 0 (.slice none 0 0)).set 1 (.bool false))
    have hB2 := HB1.out.trans (hb2.mono HB1.out.size)
    have HB3 := Lib.hid (below_set (below_set hB2 (Nat.le_add_right w.heap.size 1) 0 (.slice none 0 0)) (Nat.le_add_right w.heap.size 1) 1 (.bool false))
    clear HN c0 c1 c2 c3 b1 r1 r2 hb2 hB2
    go_wp2_with fail
    exact bodyPost_ret (v := .agg (rwC none 0 0 false)) (results_cell_row rfl _ _ (w.heap.size + 1) 95 (rwC none 0 0 false) (0, 0) _ rfl HR3.out Tryd.underlying95 rfl infoRw) rfl ⟨_, _, rfl, RowV.nil _, HB3.out⟩
set_option maxRecDepth 100000 in
set_option maxHeartbeats 8000000 in
theorem andX_calls (A B : List Nat) (ia ib : Bool) (hA : A.length ≤ 1000) (hB : B.length ≤ 1000) (a b : Option Addr) (ca cb : Nat) (w : World) (hva : RowV A (.slice a A.length ca) w) (hvb : RowV B (.slice b B.length cb) w) (L : List Nat) (i : Bool) (hi : i = (ia && ib)) (hL : L = if ia = true ∧ ib = true then A ++ B else []) :
    Calls Tryd.prog 70 #[.agg (rwC a A.length ca ia), .agg (rwC b B.length cb ib)] w fun e w' => ∃ a c, e = .returned (.agg (rwC a L.length c i)) ∧ RowV L (.slice a L.length c) w' ∧ Below w.heap.size w w' := by
  have x0 := (Blk.new w (rwC a A.length ca ia) 95).alloc (.cells (rwC b B.length cb ib) 95)
  have y0 := Blk.new (w.alloc (.cells (rwC a A.length ca ia) 95)) (rwC b B.length cb ib) 95
  have z0 := Blk.new ((w.alloc (.cells (rwC a A.length ca ia) 95)).alloc (.cells (rwC b B.length cb ib) 95)) (rwC none 0 0 false) 95
  have hz : (((w.alloc (.cells (rwC a A.length ca ia) 95)).alloc (.cells (rwC b B.length cb ib) 95)).alloc (.cells (rwC none 0 0 false) 95)).heap.size = w.heap.size + 3 := by rw [World.size_alloc, World.size_alloc, World.size_alloc]
  have hB0 : Below w.heap.size w (((w.alloc (.cells (rwC a A.length ca ia) 95)).alloc (.cells (rwC b B.length cb ib) 95)).alloc (.cells (rwC none 0 0 false) 95)) := (((Below.refl _ _).alloc (Nat.le_refl _) _).alloc (by simp) _).alloc (by simp; omega) _
  rw [World.size_alloc] at y0
  rw [World.size_alloc, World.size_alloc] at z0
  have x1 := x0.alloc (.cells (rwC none 0 0 false) 95)
  have y1 := y0.alloc (.cells (rwC none 0 0 false) 95)
  clear x0 y0
  go_enter Tryd.func70, Tryd.ntmps70
  go_upto_region 1 with fail
  generalize ((w.alloc (.cells (rwC a A.length ca ia) 95)).alloc (.cells (rwC b B.length cb ib) 95)).alloc (.cells (rwC none 0 0 false) 95) = w1 at *
  have c0 := x1.cell 0; have c1 := x1.cell 1; have d0 := y1.cell 0; have d1 := y1.cell 1; have e0 := z0.cell 0; have e1 := z0.cell 1
  have f0 := z0.frozen 0; have f1 := z0.frozen 1
  simp only [List.getElem?_toArray, List.getElem?_cons_zero, List.getElem?_cons_succ] at c0 c1 d0 d1 e0 e1
  have HB0 := Lib.hid hB0
  have HVA := Lib.hid hva
  have HVB := Lib.hid hvb
  have HZ := Lib.hid z0
  clear hB0 hva hvb z0
  have hno : (ia && ib) = false → ∃ _ : Unit, L = [] ∧ i = false := fun h => ⟨(), by rw [hL, if_neg (by rintro ⟨rfl, rfl⟩; cases h)], by rw [hi, h]⟩
  cases ia
  case false =>
    obtain ⟨_, rfl, rfl⟩ := hno rfl
    have HR3 := Lib.hid ((HZ.out.set 0 (.slice none 0 0)).set 1 (.bool false))
    have HB3 := Lib.hid (below_set (below_set HB0.out (Nat.le_add_right w.heap.size 2) 0 (.slice none 0 0)) (Nat.le_add_right w.heap.size 2) 1 (.bool false))
    clear x1 y1 hno hL hi
    go_wp2_with fail
    exact bodyPost_ret (v := .agg (rwC none 0 0 false)) (results_cell_row rfl _ _ (w.heap.size + 2) 95 (rwC none 0 0 false) (0, 0) _ rfl HR3.out Tryd.underlying95 rfl infoRw) rfl ⟨_, _, rfl, RowV.nil _, HB3.out⟩
  case true =>
    cases ib
    case false =>
      obtain ⟨_, rfl, rfl⟩ := hno rfl
      have HR3 := Lib.hid ((HZ.out.set 0 (.slice none 0 0)).set 1 (.bool false))
      have HB3 := Lib.hid (below_set (below_set HB0.out (Nat.le_add_right w.heap.size 2) 0 (.slice none 0 0)) (Nat.le_add_right w.heap.size 2) 1 (.bool false))
      clear x1 y1 hno hL hi
      go_wp2_with fail
      exact bodyPost_ret (v := .agg (rwC none 0 0 false)) (results_cell_row rfl _ _ (w.heap.size + 2) 95 (rwC none 0 0 false) (0, 0) _ rfl HR3.out Tryd.underlying95 rfl infoRw) rfl ⟨_, _, rfl, RowV.nil _, HB3.out⟩
    case true =>
      rw [if_pos ⟨rfl, rfl⟩] at hL
      have hi' : i = true := hi
      subst hi'
      subst hL
      have hp := Blk.new w1 #[.slice a A.length ca, .slice b B.length cb] 23
      have hb2 := (Below.refl w1.heap.size w1).alloc (Nat.le_refl _) (.cells #[.slice a A.length ca, .slice b B.length cb] 23)
      have HCC := Lib.hid (concat_calls A B (by omega) (by omega) _ _ w1.heap.size _ hp.lt (hp.cell 0) (hp.cell 1) ((HVA.out.below HB0.out).below hb2) ((HVB.out.below HB0.out).below hb2))
      have HZ2 := Lib.hid (HZ.out.alloc (.cells #[.slice a A.length ca, .slice b B.length cb] 23))
      have HB2 := Lib.hid (HB0.out.alloc HB0.out.size (.cells #[.slice a A.length ca, .slice b B.length cb] 23))
      rw [hz] at HCC
      clear x1 y1 hno hi hp hb2
      go_wp2_with fail
      generalize w1.alloc (.cells #[.slice a A.length ca, .slice b B.length cb] 23) = w2 at *
      refine HCC.out.mono ?_
      rintro e w3 ⟨v3, rfl, ho, hb3⟩
      have z3 := HZ2.out.below hb3 HZ2.out.lt
      have hB3 := HB2.out.trans (hb3.mono HB2.out.size)
      obtain ⟨a3, k3, rfl⟩ := owns_form ho
      obtain ⟨N, hN⟩ : ∃ N, (A ++ B).length = N := ⟨_, rfl⟩
      have z30 := z3.cell 0; have z31 := z3.cell 1
      have f30 := z3.frozen 0; have f31 := z3.frozen 1
      simp only [List.getElem?_toArray, List.getElem?_cons_zero, List.getElem?_cons_succ] at z30 z31
      have hrv := ho.row
      rw [hN] at hrv ⊢
      have HR3 := Lib.hid ((z3.set 0 (.slice a3 N k3)).set 1 (.bool true))
      have HB3 := Lib.hid (below_set (below_set hB3 (Nat.le_add_right w.heap.size 2) 0 (.slice a3 N k3)) (Nat.le_add_right w.heap.size 2) 1 (.bool true))
      have HRV := Lib.hid ((hrv.set z3 (fun x m => by
        intro e
        rcases x with _ | _ | x <;> simp at e) 0 (.slice a3 N k3)).set (z3.set 0 (.slice a3 N k3)) (fun x m => by
        intro e
        rcases x with _ | _ | x <;> simp at e) 1 (.bool true))
      have HN := Lib.hid hN
      clear HCC ho hb3 z3 hB3 hrv c0 c1 d0 d1 e0 e1 f0 f1 hN
      go_wp2_with fail
      exact bodyPost_ret (v := .agg (rwC a3 N k3 true)) (results_cell_row rfl _ _ (w.heap.size + 2) 95 (rwC a3 N k3 true) (0, 0) _ rfl HR3.out Tryd.underlying95 rfl infoRw) rfl ⟨a3, k3, by rw [HN.out], by rw [HN.out]; exact HRV.out, HB3.out⟩
set_option maxRecDepth 100000 in
set_option maxHeartbeats 8000000 in
theorem orX_calls (A B : List Nat) (ia ib : Bool) (hA : A.length ≤ 1000) (hB : B.length ≤ 1000) (a b : Option Addr) (ca cb : Nat) (w : World) (hva : RowV A (.slice a A.length ca) w) (hvb : RowV B (.slice b B.length cb) w) (L : List Nat) (i : Bool) (hi : i = (ia || ib)) (hL : L = if ib = true ∧ (ia = false ∨ btr B A = true) then B else A) (hna : ia = false → A = []) (hnb : ib = false → B = []) :
    Calls Tryd.prog 71 #[.agg (rwC a A.length ca ia), .agg (rwC b B.length cb ib)] w fun e w' => ∃ a c, e = .returned (.agg (rwC a L.length c i)) ∧ RowV L (.slice a L.length c) w' ∧ Below w.heap.size w w' := by
  have x0 := (Blk.new w (rwC a A.length ca ia) 95).alloc (.cells (rwC b B.length cb ib) 95)
  have y0 := Blk.new (w.alloc (.cells (rwC a A.length ca ia) 95)) (rwC b B.length cb ib) 95
  have z0 := Blk.new ((w.alloc (.cells (rwC a A.length ca ia) 95)).alloc (.cells (rwC b B.length cb ib) 95)) (rwC none 0 0 false) 95
  have hz : (((w.alloc (.cells (rwC a A.length ca ia) 95)).alloc (.cells (rwC b B.length cb ib) 95)).alloc (.cells (rwC none 0 0 false) 95)).heap.size = w.heap.size + 3 := by rw [World.size_alloc, World.size_alloc, World.size_alloc]
  have hB0 : Below w.heap.size w (((w.alloc (.cells (rwC a A.length ca ia) 95)).alloc (.cells (rwC b B.length cb ib) 95)).alloc (.cells (rwC none 0 0 false) 95)) := (((Below.refl _ _).alloc (Nat.le_refl _) _).alloc (by simp) _).alloc (by simp; omega) _
  rw [World.size_alloc] at y0
  rw [World.size_alloc, World.size_alloc] at z0
  have x1 := x0.alloc (.cells (rwC none 0 0 false) 95)
  have y1 := y0.alloc (.cells (rwC none 0 0 false) 95)
  clear x0 y0
  go_enter Tryd.func71, Tryd.ntmps71
  go_upto_region 1 with fail
  generalize ((w.alloc (.cells (rwC a A.length ca ia) 95)).alloc (.cells (rwC b B.length cb ib) 95)).alloc (.cells (rwC none 0 0 false) 95) = w1 at *
  have c0 := x1.cell 0; have c1 := x1.cell 1; have d0 := y1.cell 0; have d1 := y1.cell 1; have e0 := z0.cell 0; have e1 := z0.cell 1
  have f0 := z0.frozen 0; have f1 := z0.frozen 1
  simp only [List.getElem?_toArray, List.getElem?_cons_zero, List.getElem?_cons_succ] at c0 c1 d0 d1 e0 e1
  have HB0 := Lib.hid hB0
  have HVA := Lib.hid (hva.below hB0)
  have HVB := Lib.hid (hvb.below hB0)
  have HZ := Lib.hid z0
  clear hB0 hva hvb z0 x1 y1
  have hput : ∀ (W : World), Blk W (w.heap.size + 2) (rwC none 0 0 false) 95 → ∀ (M : List Nat) (v u : Value), RowV M v W → RowV M v ((W.setCell ⟨w.heap.size + 2, 0, none⟩ v).setCell ⟨w.heap.size + 2, 1, none⟩ u) := fun W hZ M v u h => by
    obtain ⟨a', c', e⟩ := h.form
    refine (h.set hZ (fun x m => ?_) 0 v).set (hZ.set 0 v) (fun x m => ?_) 1 u
    · intro e
      rcases x with _ | _ | x <;> simp at e
    · intro e'
      rw [e] at e'
      rcases x with _ | _ | x <;> simp at e'
  have HPUT := Lib.hid hput
  clear hput
  cases ia
  case false =>
    have hA0 := hna rfl
    subst hA0
    have hi' : i = ib := by rw [hi]; rfl
    have hL' : L = B := by
      cases ib
      · rw [hL, if_neg (by simp)]; exact (hnb rfl).symm
      · rw [hL, if_pos ⟨rfl, .inl rfl⟩]
    subst hi'
    subst hL'
    have HR3 := Lib.hid ((HZ.out.set 0 (.slice b L.length cb)).set 1 (.bool i))
    have HB3 := Lib.hid (below_set (below_set HB0.out (Nat.le_add_right w.heap.size 2) 0 (.slice b L.length cb)) (Nat.le_add_right w.heap.size 2) 1 (.bool i))
    have HRV := Lib.hid (HPUT.out w1 HZ.out L _ (.bool i) HVB.out)
    clear hL hi hna hnb
    go_wp2_with fail
    exact bodyPost_ret (v := .agg (rwC b L.length cb i)) (results_cell_row rfl _ _ (w.heap.size + 2) 95 (rwC b L.length cb i) (0, 0) _ rfl HR3.out Tryd.underlying95 rfl infoRw) rfl ⟨_, _, rfl, HRV.out, HB3.out⟩
  case true =>
    have hi' : i = true := by rw [hi]; rfl
    subst hi'
    cases ib
    case false =>
      have hL' : L = A := by rw [hL, if_neg (by simp)]
      subst hL'
      have HR3 := Lib.hid ((HZ.out.set 0 (.slice a L.length ca)).set 1 (.bool true))
      have HB3 := Lib.hid (below_set (below_set HB0.out (Nat.le_add_right w.heap.size 2) 0 (.slice a L.length ca)) (Nat.le_add_right w.heap.size 2) 1 (.bool true))
      have HRV := Lib.hid (HPUT.out w1 HZ.out L _ (.bool true) HVA.out)
      clear hL hi hna hnb
      go_wp2_with fail
      exact bodyPost_ret (v := .agg (rwC a L.length ca true)) (results_cell_row rfl _ _ (w.heap.size + 2) 95 (rwC a L.length ca true) (0, 0) _ rfl HR3.out Tryd.underlying95 rfl infoRw) rfl ⟨_, _, rfl, HRV.out, HB3.out⟩
    case true =>
      have HBT := Lib.hid (better_calls A B (by omega) _ _ w1 HVA.out HVB.out)
      have hL' : L = if btr B A = true then B else A := by
        rw [hL]
        by_cases h : btr B A = true
        · rw [if_pos ⟨rfl, .inr h⟩, if_pos h]
        · rw [if_neg (by rintro ⟨_, h' | h'⟩; cases h'; exact h h'), if_neg h]
      obtain ⟨bt, hbt⟩ : ∃ bt, btr B A = bt := ⟨_, rfl⟩
      rw [hbt] at HBT hL'
      clear hL hi hna hnb hbt
      cases bt
      case false =>
        have hL2 : L = A := hL'
        subst hL2
        clear hL'
        go_wp2_with fail
        refine HBT.out.mono ?_
        rintro e w2 ⟨rfl, hb2⟩
        have z2 := HZ.out.below hb2 HZ.out.lt
        have z20 := z2.cell 0; have z21 := z2.cell 1
        have f20 := z2.frozen 0; have f21 := z2.frozen 1
        simp only [List.getElem?_toArray, List.getElem?_cons_zero, List.getElem?_cons_succ] at z20 z21
        have HR3 := Lib.hid ((z2.set 0 (.slice a L.length ca)).set 1 (.bool true))
        have HB3 := Lib.hid (below_set (below_set (HB0.out.trans (hb2.mono HB0.out.size)) (Nat.le_add_right w.heap.size 2) 0 (.slice a L.length ca)) (Nat.le_add_right w.heap.size 2) 1 (.bool true))
        have HRV := Lib.hid (HPUT.out w2 z2 L _ (.bool true) (HVA.out.below hb2))
        clear HBT hb2 z2 c0 c1 d0 d1 e0 e1 f0 f1
        go_wp2_with fail
        exact bodyPost_ret (v := .agg (rwC a L.length ca true)) (results_cell_row rfl _ _ (w.heap.size + 2) 95 (rwC a L.length ca true) (0, 0) _ rfl HR3.out Tryd.underlying95 rfl infoRw) rfl ⟨_, _, rfl, HRV.out, HB3.out⟩
      case true =>
        have hL2 : L = B := hL'
        subst hL2
        clear hL'
        go_wp2_with fail
        refine HBT.out.mono ?_
        rintro e w2 ⟨rfl, hb2⟩
        have z2 := HZ.out.below hb2 HZ.out.lt
        have z20 := z2.cell 0; have z21 := z2.cell 1
        have f20 := z2.frozen 0; have f21 := z2.frozen 1
        simp only [List.getElem?_toArray, List.getElem?_cons_zero, List.getElem?_cons_succ] at z20 z21
        have HR3 := Lib.hid ((z2.set 0 (.slice b L.length cb)).set 1 (.bool true))
        have HB3 := Lib.hid (below_set (below_set (HB0.out.trans (hb2.mono HB0.out.size)) (Nat.le_add_right w.heap.size 2) 0 (.slice b L.length cb)) (Nat.le_add_right w.heap.size 2) 1 (.bool true))
        have HRV := Lib.hid (HPUT.out w2 z2 L _ (.bool true) (HVB.out.below hb2))
        clear HBT hb2 z2 c0 c1 d0 d1 e0 e1 f0 f1
        go_wp2_with fail
        exact bodyPost_ret (v := .agg (rwC b L.length cb true)) (results_cell_row rfl _ _ (w.heap.size + 2) 95 (rwC b L.length cb true) (0, 0) _ rfl HR3.out Tryd.underlying95 rfl infoRw) rfl ⟨_, _, rfl, HRV.out, HB3.out⟩
end Go.Proofs.YtdpkhliojbeglaaDoor

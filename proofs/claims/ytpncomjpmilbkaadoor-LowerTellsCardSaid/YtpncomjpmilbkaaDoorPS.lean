/- Texts put together: Tk Yb Yd. -/
import Derived.Test.YtpncomjpmilbkaaDoorPO
import Derived.Test.YtpncomjpmilbkaaDoorPK
import Derived.Laws.AppendOwn
import Derived.Deep.AppendLies
import Derived.RegionTactic
import Derived.BigRegion
import Derived.Deep.LoopGhost
/- The document's terms of trees: unary, shift. Stage 11. -/
namespace Go.Proofs.YtpncomjpmilbkaaDoor
open Go.RowKit BS

theorem info8u : (Tryd.prog.info? 44).map (fun i => (i.zero, i.size, i.bytes)) = some (some (.agg #[.int .i64 0, .int .i64 0, .int .i64 0, .int .i64 0, .int .u64 0, .int .u64 0, .int .u64 0, .int .u64 0]), 8, 64) := by kernel_rfl
/-- A row of nodes of the call's own. -/
def OwT (base : Nat) (v : Value) (L : List NdN) (W : World) : Prop := W.ownsRow base 44 8 v L.length (ndCells L)
theorem OwT.nodes {L : List NdN} {v : Value} {base : Nat} {W : World} (h : OwT base v L W) (hne : L ≠ []) : ∃ g cap, v = .slice (some ⟨g, 0, none⟩) L.length cap ∧ base ≤ g ∧ g < W.heap.size ∧ NodesAt L (some ⟨g, 0, none⟩) W := by
  rcases h.2 with ⟨_, h0⟩ | ⟨g, cap, cur, rfl, hb, hg, _, _, _, _⟩
  · exact absurd (List.eq_nil_of_length_eq_zero h0) hne
  · refine ⟨g, cap, rfl, hb, (Array.getElem?_eq_some_iff.1 hg).1, fun _ => ⟨g, 0, rfl, (Array.getElem?_eq_some_iff.1 hg).1, fun i hi j hj => ?_⟩⟩
    rw [Nat.zero_add]
    have hjj : i * 8 + j < (ndCells L).length := by rw [ndCells_len]; omega
    exact (World.ownsRow.cellAt h (i * 8 + j) (by omega)).trans (ndCells_get L i j hi hj)
theorem OwT.mono {L : List NdN} {v : Value} {base base' : Nat} {W : World} (h : OwT base v L W) (hb : base' ≤ base) : OwT base' v L W := by
  refine ⟨h.1, ?_⟩
  rcases h.2 with hn | ⟨g, cap, cur, rfl, h1, h2⟩
  · exact .inl hn
  · exact .inr ⟨g, cap, cur, rfl, Nat.le_trans hb h1, h2⟩
theorem OwT.kp {L : List NdN} {v : Value} {base : Nat} {W W' : World} {A : Nat → Prop} (h : OwT base v L W) (k : KpA A W W') (hA : ∀ g, v.ownBlock = some g → ¬ A g) : OwT base v L W' :=
  owns_keep h fun g hg => k.block g (World.ownsRow.lt h g hg).2 (hA g hg)
theorem OwT.below {L : List NdN} {v : Value} {base : Nat} {W W' : World} (h : OwT base v L W) (k : Below W.heap.size W W') : OwT base v L W' :=
  owns_keep h fun g hg => k.block g (World.ownsRow.lt h g hg).2
theorem cells_one (x : NdN) : ndCells [x] = (ndA x).toList := by simp [ndCells]
theorem cells_un (k u n : Int) : ndCells [⟨k, u, -1, n, 0⟩] = [.int .i64 k, .int .i64 u, .int .i64 (-1), .int .i64 n, .int .u64 0, .int .u64 0, .int .u64 0, .int .u64 0] := by
  have z1 : wd (0 : BitVec 256) 1 = 0 := by decide
  have z2 : wd (0 : BitVec 256) 2 = 0 := by decide
  have z3 : wd (0 : BitVec 256) 3 = 0 := by decide
  rw [cells_one]
  show [Value.int .i64 k, .int .i64 u, .int .i64 (-1), .int .i64 n, .int .u64 ((wd (0 : BitVec 256) 0 : Nat) : Int), .int .u64 ((wd (0 : BitVec 256) 1 : Nat) : Int), .int .u64 ((wd (0 : BitVec 256) 2 : Nat) : Int), .int .u64 ((wd (0 : BitVec 256) 3 : Nat) : Int)] = _
  rw [z1, z2, z3]
  rfl
theorem kpa_grown {a b c : World} {v : Value} {row : Option Nat} (h : KpA (fun k => v.ownBlock = some k) a b) (hg : b.grownBy c row) (hr : ∀ k, row = some k → v.ownBlock = some k ∨ a.heap.size ≤ k) : KpA (fun k => v.ownBlock = some k) a c := h.grown hg hr
set_option maxRecDepth 100000 in
set_option maxHeartbeats 8000000 in
theorem unary_calls (L : List NdN) (hL : 0 < L.length) (hL2 : L.length ≤ 1000) (k n : Int) (base : Nat) (v : Value) (w : World) (hb : base ≤ w.heap.size) (h : OwT base v L w) :
    Calls Tryd.prog 52 #[v, .int .i64 k, .int .i64 n] w fun e w' => ∃ g cap, e = .returned (.slice (some ⟨g, 0, none⟩) (L.length + 1) cap) ∧ OwT base (.slice (some ⟨g, 0, none⟩) (L.length + 1) cap) (unT L k n) w' ∧ KpA (fun x => v.ownBlock = some x) w w' ∧ (v.ownBlock = some g ∨ w.heap.size ≤ g) := by
  obtain ⟨g0, c0, rfl, hg0, hg0l, hn⟩ := h.nodes (by rintro rfl; simp at hL)
  have HO := Lib.hid h
  have x1 : IntKind.i64.wrap ((L.length : Int) - 1) = (L.length : Int) - 1 := IntWalk.i64_in _ (by omega)
  obtain ⟨i0, hinf, hz0, hz1, hz2⟩ := info_parts info8u
  have BWA : Below w.heap.size w (w.alloc (.cells #[.int .i64 k, .int .i64 ((L.length : Int) - 1), .int .i64 (-1), .int .i64 n, .int .u64 0, .int .u64 0, .int .u64 0, .int .u64 0] 44)) := (Below.refl _ _).alloc (Nat.le_refl _) _
  have hsz : base ≤ (w.alloc (.cells #[.int .i64 k, .int .i64 ((L.length : Int) - 1), .int .i64 (-1), .int .i64 n, .int .u64 0, .int .u64 0, .int .u64 0, .int .u64 0] 44)).heap.size := by rw [World.size_alloc]; omega
  have HKP := Lib.hid ((KpA.refl (fun x => some g0 = some x) w).alloc (.cells #[.int .i64 k, .int .i64 ((L.length : Int) - 1), .int .i64 (-1), .int .i64 n, .int .u64 0, .int .u64 0, .int .u64 0, .int .u64 0] 44))
  have HAFT := Lib.hid (show ∀ g cap W, W.ownsRow base 44 8 (.slice (some ⟨g, 0, none⟩) (L.length + 1) cap) (L.length + 1) (ndCells L ++ [.int .i64 k, .int .i64 ((L.length : Int) - 1), .int .i64 (-1), .int .i64 n, .int .u64 0, .int .u64 0, .int .u64 0, .int .u64 0]) → (w.alloc (.cells #[.int .i64 k, .int .i64 ((L.length : Int) - 1), .int .i64 (-1), .int .i64 n, .int .u64 0, .int .u64 0, .int .u64 0, .int .u64 0] 44)).grownBy W (some g0) → ((some g0 = some g) ∨ g = w.heap.size + 1) → OwT base (.slice (some ⟨g, 0, none⟩) (L.length + 1) cap) (unT L k n) W ∧ KpA (fun x => some g0 = some x) w W ∧ (some g0 = some g ∨ w.heap.size ≤ g) from fun g cap W h1 h2 h3 => by
    refine ⟨?_, HKP.out.grown h2 (fun k hk => .inl hk), h3.imp id (by omega)⟩
    unfold OwT unT
    rw [ndCells_app, cells_un, List.length_append]
    exact h1)
  clear h hn HKP BWA
  go_enter Tryd.func52, Tryd.ntmps52
  go_wp2_with (at_builtin; refine wpList_append_lies _ rfl _ _ 31 rfl base 44 i0 (.agg #[.int .i64 0, .int .i64 0, .int .i64 0, .int .i64 0, .int .u64 0, .int .u64 0, .int .u64 0, .int .u64 0]) 8 64 Tryd.underlying31 hinf hz0 hz1 hz2 rfl (by decide) _ L.length (ndCells L) rfl (HO.out.alloc _) ⟨w.heap.size, 0, none⟩ 1 1 [.int .i64 k, .int .i64 ((L.length : Int) - 1), .int .i64 (-1), .int .i64 n, .int .u64 0, .int .u64 0, .int .u64 0, .int .u64 0] rfl rfl (Blk.new w _ _).newsL (by simp [Value.oneCell']) (by decide) (by unfold maxLen; omega) (by omega) hsz (w.heap.size + 1) (World.size_alloc ..) ?_; intro g cap w2 hown hgrow hat hlt; obtain ⟨hr1, hr2, hr3⟩ := HAFT.out g cap w2 hown hgrow hat; have HR1 := Lib.hid hr1; have HR2 := Lib.hid hr2; have HR3 := Lib.hid hr3; clear hown hgrow hat hr1 hr2 hr3)
  go_ret
  exact ⟨g, cap, rfl, HR1.out, HR2.out, HR3.out⟩
/-- The nodes of a term, behind others. -/
def behT (L M : List NdN) (i : Nat) : List NdN := L ++ (M.take i).map (shN L.length)
theorem behT_len (L M : List NdN) (i : Nat) (h : i ≤ M.length) : (behT L M i).length = L.length + i := by simp [behT]; omega
theorem behT_zero (L M : List NdN) : behT L M 0 = L := by simp [behT]
theorem behT_step (L M : List NdN) (i : Nat) (h : i < M.length) : behT L M (i + 1) = behT L M i ++ [shN L.length M[i]] := by
  unfold behT
  rw [List.take_succ_eq_append_getElem h, List.map_append, List.append_assoc]
  rfl
def behL (L M : List NdN) : List NdN := L ++ M.map (shN L.length)
theorem behT_all (L M : List NdN) : behT L M M.length = behL L M := by unfold behT behL; rw [List.take_of_length_le (Nat.le_refl _)]
theorem behL_nil (M : List NdN) : behL [] M = M := by
  unfold behL
  rw [List.nil_append]
  refine (List.map_congr_left fun x _ => ?_).trans (List.map_id M)
  obtain ⟨a, b, c, d, e⟩ := x
  unfold shN
  simp
theorem behL_len (L M : List NdN) : (behL L M).length = L.length + M.length := by simp [behL]
set_option maxRecDepth 100000 in
set_option maxHeartbeats 32000000 in
theorem shift_calls (L M : List NdN) (hL : L.length ≤ 1000) (hM : 0 < M.length) (hM2 : M.length ≤ 1000) (hMb : ∀ x ∈ M, x.kids ≤ 1000 ∧ x.n ≤ 1000) (base : Nat) (v : Value) (gm om cm : Nat) (w : World) (hb : base ≤ w.heap.size) (h : OwT base v L w) (hm : NodesAt M (some ⟨gm, om, none⟩) w) (hsep : v.ownBlock ≠ some gm) :
    Calls Tryd.prog 54 #[v, .slice (some ⟨gm, om, none⟩) M.length cm] w fun e w' => ∃ g cap, e = .returned (.slice (some ⟨g, 0, none⟩) (L.length + M.length) cap) ∧ OwT base (.slice (some ⟨g, 0, none⟩) (L.length + M.length) cap) (behL L M) w' ∧ KpA (fun x => v.ownBlock = some x) w w' ∧ (v.ownBlock = some g ∨ w.heap.size ≤ g) := by
  have HM := Lib.hid hm
  have HB := Lib.hid hMb
  obtain ⟨ao, co, hvo⟩ := owns_form h
  have HO := Lib.hid h
  have HLEN := Lib.hid (behT_len L M)
  have HSTEP := Lib.hid (behT_step L M)
  have HALL := Lib.hid (behT_all L M)
  have hgm : gm < w.heap.size := by obtain ⟨g', o', e, h1, _⟩ := hm (by rintro rfl; simp at hM); cases e; exact h1
  obtain ⟨vo, hv⟩ : ∃ vo, vo = v := ⟨v, rfl⟩
  have hsep2 : vo.ownBlock ≠ some gm := by rw [hv]; exact hsep
  rw [← hv]
  have HV := Lib.hid hv
  clear hv hsep hm hMb h
  subst hvo
  obtain ⟨i0, hinf, hz0, hz1, hz2⟩ := info_parts info8u
  have hv := HV.out
  subst hv
  go_enter Tryd.func54, Tryd.ntmps54
  go_upto_region 3 with fail
  go_loopw [0, 6] (fun vl vi wr => ∃ i : Nat, i ≤ M.length ∧ vi = .int .i64 i ∧ OwT base vl (behT L M i) wr ∧ KpA (fun x => (Value.slice ao L.length co).ownBlock = some x) w wr ∧ (vl = .slice ao L.length co ∨ ∃ g cap, vl = .slice (some ⟨g, 0, none⟩) (L.length + i) cap ∧ ((Value.slice ao L.length co).ownBlock = some g ∨ w.heap.size ≤ g)) ∧ (i = 0 → vl = .slice ao L.length co) ∧ (0 < i → ∃ g cap, vl = .slice (some ⟨g, 0, none⟩) (L.length + i) cap ∧ ((Value.slice ao L.length co).ownBlock = some g ∨ w.heap.size ≤ g))) (fun _ vi _ => M.length - (intOf vi).toNat)
  case atStart => exact ⟨0, Nat.zero_le _, rfl, by rw [behT_zero]; exact HO.out, KpA.refl _ _, .inl rfl, fun _ => rfl, fun h => absurd h (by omega)⟩
  case round =>
    clear HO
    obtain ⟨i, hi, rfl, hown, hkp, hor, hi0, hi1⟩ := hrel
    by_cases hlt : i < M.length
    · have hii : (i : Int) < (M.length : Int) := by omega
      have hd : decide (i < M.length) = true := by rw [decide_eq_true_iff]; omega
      have hdI : decide ((i : Int) < (M.length : Int)) = true := by rw [decide_eq_true_iff]; omega
      have xi : IntKind.i64.wrap ((i : Int) + 1) = (i : Int) + 1 := IntWalk.i64_in _ (by omega)
      obtain ⟨gm', om', e, _, hc⟩ := HM.out (by rintro rfl; simp at hlt)
      cases e
      have hcell := fun (j : Nat) (hj : j < 8) => (hkp.cell hgm (fun h => hsep2 h) (om + i * 8 + j)).trans (hc i hlt j hj)
      have d0 := hcell 0 (by decide); have d1 := hcell 1 (by decide); have d2 := hcell 2 (by decide); have d3 := hcell 3 (by decide); have d4 := hcell 4 (by decide); have d5 := hcell 5 (by decide); have d6 := hcell 6 (by decide); have d7 := hcell 7 (by decide)
      simp only [ndA, List.getElem?_toArray, List.getElem?_cons_zero, List.getElem?_cons_succ, Nat.add_zero] at d0 d1 d2 d3 d4 d5 d6 d7
      have hst := HSTEP.out i hlt
      have hkb := HB.out M[i] (List.getElem_mem hlt)
      have hlt2 := HLEN.out i (by omega)
      generalize M[i] = x at *
      obtain ⟨xk, xc, xn, xm, t⟩ := x
      simp only at d0 d1 d2 d3 d4 d5 d6 d7 hkb
      have HST := Lib.hid hst
      have HOR := Lib.hid hor
      have hOW := World.ownsRow.alloc hown (.cells (ndI xk xc xn xm t) 44)
      have hK4 := hkp.alloc (.cells (ndI xk xc xn xm t) 44)
      have hX := Blk.new wr (ndI xk xc xn xm t) 44
      have hlo := fun b hb => (World.ownsRow.lt hown b hb).2
      have HOW := Lib.hid hOW
      have hxz := hkp.size
      clear hst hown hc hcell hkp hOW hor hi0 hi1
      go_upto_region 6 with fail
      clear d0 d1 d2 d3 d4 d5 d6 d7
      have hnx : wr.heap.size < (wr.alloc (.cells (ndI xk xc xn xm t) 44)).heap.size := by rw [World.size_alloc]; omega
      generalize wr.alloc (.cells (ndI xk xc xn xm t) 44) = wa at *
      generalize wr.heap.size = xb at *
      by_cases hqa : 0 ≤ xc
      · have qa : decide (0 ≤ xc) = true := decide_eq_true hqa
        have HQA := Lib.hid hqa
        have xa : IntKind.i64.wrap (xc + (L.length : Int)) = xc + (L.length : Int) := IntWalk.i64_in _ (by have := hkb.1; omega)
        clear hqa
        by_cases hqn : 0 ≤ xn
        · have qn : decide (0 ≤ xn) = true := decide_eq_true hqn
          have HQN := Lib.hid hqn
          have xnn : IntKind.i64.wrap (xn + (L.length : Int)) = xn + (L.length : Int) := IntWalk.i64_in _ (by have := hkb.2; omega)
          clear hqn
          have n1 := hX.cell 1
          have f1 := hX.frozen 1
          simp only [List.getElem?_toArray, List.getElem?_cons_zero, List.getElem?_cons_succ] at n1
          have hX2 : Blk (wa.setCell ⟨xb, 1, none⟩ (.int .i64 (xc + (L.length : Int)))) xb (ndI xk (xc + (L.length : Int)) xn xm t) 44 := hX.set 1 _
          have HOW2 := Lib.hid (owns_keep HOW.out (W' := wa.setCell ⟨xb, 1, none⟩ (.int .i64 (xc + (L.length : Int)))) (fun g hg => Below.heap_setCell wa ⟨xb, 1, none⟩ _ g (Nat.ne_of_lt (hlo g hg))))
          have HK2 := Lib.hid (hK4.set (g := xb) (.inr hxz) 1 (.int .i64 (xc + (L.length : Int))))
          go_upto_region 8 with fail
          clear n1 f1 hX hK4 HOW
          generalize wa.setCell ⟨xb, 1, none⟩ (.int .i64 (xc + (L.length : Int))) = wb at *
          have n2 := hX2.cell 2
          have f2 := hX2.frozen 2
          simp only [List.getElem?_toArray, List.getElem?_cons_zero, List.getElem?_cons_succ] at n2
          have hX3 : Blk (wb.setCell ⟨xb, 2, none⟩ (.int .i64 (xn + (L.length : Int)))) xb (ndI xk (xc + (L.length : Int)) (xn + (L.length : Int)) xm t) 44 := hX2.set 2 _
          have HOW3 := Lib.hid (owns_keep HOW2.out (W' := wb.setCell ⟨xb, 2, none⟩ (.int .i64 (xn + (L.length : Int)))) (fun g hg => Below.heap_setCell wb ⟨xb, 2, none⟩ _ g (Nat.ne_of_lt (hlo g hg))))
          have HK3 := Lib.hid (HK2.out.set (g := xb) (.inr hxz) 2 (.int .i64 (xn + (L.length : Int))))
          go_upto_region 10 with fail
          clear n2 f2 hX2 HK2 HOW2
          generalize wb.setCell ⟨xb, 2, none⟩ (.int .i64 (xn + (L.length : Int))) = wd at *
          have n0 := hX3.cell 0; have n1 := hX3.cell 1; have n2 := hX3.cell 2; have n3 := hX3.cell 3; have n4 := hX3.cell 4; have n5 := hX3.cell 5; have n6 := hX3.cell 6; have n7 := hX3.cell 7
          simp only [List.getElem?_toArray, List.getElem?_cons_zero, List.getElem?_cons_succ] at n0 n1 n2 n3 n4 n5 n6 n7
          have hsz : base ≤ (wd.alloc (.cells (ndI xk (xc + (L.length : Int)) (xn + (L.length : Int)) xm t) 44)).heap.size := by rw [World.size_alloc]; have := HK3.out.size; omega
          have HKA := Lib.hid (HK3.out.alloc (.cells (ndI xk (xc + (L.length : Int)) (xn + (L.length : Int)) xm t) 44))
          have hws := HK3.out.size
          clear hX3
          go_wp2_with (at_builtin; refine wpList_append_lies _ rfl _ _ 31 rfl base 44 i0 (.agg #[.int .i64 0, .int .i64 0, .int .i64 0, .int .i64 0, .int .u64 0, .int .u64 0, .int .u64 0, .int .u64 0]) 8 64 Tryd.underlying31 hinf hz0 hz1 hz2 rfl (by decide) _ (behT L M i).length (ndCells (behT L M i)) rfl (HOW3.out.alloc _) ⟨wd.heap.size, 0, none⟩ 1 1 (ndI xk (xc + (L.length : Int)) (xn + (L.length : Int)) xm t).toList rfl rfl (Blk.new wd (ndI xk (xc + (L.length : Int)) (xn + (L.length : Int)) xm t) _).newsL (by simp [Value.oneCell']) (by decide) (by rw [hlt2]; unfold maxLen; omega) (by omega) hsz (wd.heap.size + 1) (World.size_alloc ..) ?_; intro g7 cap7 w7 hown2 hgrow2 hat2 hlt7)
          have hown3 : OwT base (.slice (some ⟨g7, 0, none⟩) (L.length + (i + 1)) cap7) (behT L M (i + 1)) w7 := by
            unfold OwT
            rw [HST.out, ndCells_app, cells_one, List.length_append]
            have e : shN L.length ⟨xk, xc, xn, xm, t⟩ = ⟨xk, (xc + (L.length : Int)), (xn + (L.length : Int)), xm, t⟩ := by
              unfold shN
              simp only [if_pos HQA.out, if_pos HQN.out]
            rw [e]
            have e2 : L.length + (i + 1) = (behT L M i).length + 1 := by omega
            rw [e2]
            exact hown2
          have HO3 := Lib.hid hown3
          have hwh : ∀ g, u0.ownBlock = some g → (Value.slice ao L.length co).ownBlock = some g ∨ w.heap.size ≤ g := fun g hg => by
            rcases HOR.out with e | ⟨g', c', e, h⟩
            · rw [e] at hg; exact .inl hg
            · rw [e] at hg; cases hg; exact h
          have HK7 := Lib.hid (HKA.out.grown hgrow2 (fun g hg => hwh g hg))
          have HOR7 := Lib.hid (show (Value.slice ao L.length co).ownBlock = some g7 ∨ w.heap.size ≤ g7 from hat2.elim (fun h => hwh g7 h) (fun h => .inr (by omega)))
          clear hown2 hown3 hgrow2 hat2 hwh hws n0 n1 n2 n3 n4 n5 n6 n7 HOW3 HK3 HKA HOR
          go_wp2_with fail
          go_roundw
          case rel => exact ⟨i + 1, by omega, by simp, HO3.out, HK7.out, .inr ⟨g7, cap7, rfl, HOR7.out⟩, fun h => absurd h (by omega), fun _ => ⟨g7, cap7, rfl, HOR7.out⟩⟩
          case measure => simp [intOf]; omega
        · have qn : decide (0 ≤ xn) = false := decide_eq_false hqn
          have HQN := Lib.hid hqn
          clear hqn
          have n1 := hX.cell 1
          have f1 := hX.frozen 1
          simp only [List.getElem?_toArray, List.getElem?_cons_zero, List.getElem?_cons_succ] at n1
          have hX2 : Blk (wa.setCell ⟨xb, 1, none⟩ (.int .i64 (xc + (L.length : Int)))) xb (ndI xk (xc + (L.length : Int)) xn xm t) 44 := hX.set 1 _
          have HOW2 := Lib.hid (owns_keep HOW.out (W' := wa.setCell ⟨xb, 1, none⟩ (.int .i64 (xc + (L.length : Int)))) (fun g hg => Below.heap_setCell wa ⟨xb, 1, none⟩ _ g (Nat.ne_of_lt (hlo g hg))))
          have HK2 := Lib.hid (hK4.set (g := xb) (.inr hxz) 1 (.int .i64 (xc + (L.length : Int))))
          go_upto_region 8 with fail
          clear n1 f1 hX hK4 HOW
          generalize wa.setCell ⟨xb, 1, none⟩ (.int .i64 (xc + (L.length : Int))) = wb at *
          have n2 := hX2.cell 2
          have f2 := hX2.frozen 2
          simp only [List.getElem?_toArray, List.getElem?_cons_zero, List.getElem?_cons_succ] at n2
          have hX3 := hX2
          have HOW3 := HOW2
          have HK3 := HK2
          go_upto_region 10 with fail
          clear n2 f2 hX2 HK2 HOW2
          have n0 := hX3.cell 0; have n1 := hX3.cell 1; have n2 := hX3.cell 2; have n3 := hX3.cell 3; have n4 := hX3.cell 4; have n5 := hX3.cell 5; have n6 := hX3.cell 6; have n7 := hX3.cell 7
          simp only [List.getElem?_toArray, List.getElem?_cons_zero, List.getElem?_cons_succ] at n0 n1 n2 n3 n4 n5 n6 n7
          have hsz : base ≤ (wb.alloc (.cells (ndI xk (xc + (L.length : Int)) xn xm t) 44)).heap.size := by rw [World.size_alloc]; have := HK3.out.size; omega
          have HKA := Lib.hid (HK3.out.alloc (.cells (ndI xk (xc + (L.length : Int)) xn xm t) 44))
          have hws := HK3.out.size
          clear hX3
          go_wp2_with (at_builtin; refine wpList_append_lies _ rfl _ _ 31 rfl base 44 i0 (.agg #[.int .i64 0, .int .i64 0, .int .i64 0, .int .i64 0, .int .u64 0, .int .u64 0, .int .u64 0, .int .u64 0]) 8 64 Tryd.underlying31 hinf hz0 hz1 hz2 rfl (by decide) _ (behT L M i).length (ndCells (behT L M i)) rfl (HOW3.out.alloc _) ⟨wb.heap.size, 0, none⟩ 1 1 (ndI xk (xc + (L.length : Int)) xn xm t).toList rfl rfl (Blk.new wb (ndI xk (xc + (L.length : Int)) xn xm t) _).newsL (by simp [Value.oneCell']) (by decide) (by rw [hlt2]; unfold maxLen; omega) (by omega) hsz (wb.heap.size + 1) (World.size_alloc ..) ?_; intro g7 cap7 w7 hown2 hgrow2 hat2 hlt7)
          have hown3 : OwT base (.slice (some ⟨g7, 0, none⟩) (L.length + (i + 1)) cap7) (behT L M (i + 1)) w7 := by
            unfold OwT
            rw [HST.out, ndCells_app, cells_one, List.length_append]
            have e : shN L.length ⟨xk, xc, xn, xm, t⟩ = ⟨xk, (xc + (L.length : Int)), xn, xm, t⟩ := by
              unfold shN
              simp only [if_pos HQA.out, if_neg HQN.out]
            rw [e]
            have e2 : L.length + (i + 1) = (behT L M i).length + 1 := by omega
            rw [e2]
            exact hown2
          have HO3 := Lib.hid hown3
          have hwh : ∀ g, u0.ownBlock = some g → (Value.slice ao L.length co).ownBlock = some g ∨ w.heap.size ≤ g := fun g hg => by
            rcases HOR.out with e | ⟨g', c', e, h⟩
            · rw [e] at hg; exact .inl hg
            · rw [e] at hg; cases hg; exact h
          have HK7 := Lib.hid (HKA.out.grown hgrow2 (fun g hg => hwh g hg))
          have HOR7 := Lib.hid (show (Value.slice ao L.length co).ownBlock = some g7 ∨ w.heap.size ≤ g7 from hat2.elim (fun h => hwh g7 h) (fun h => .inr (by omega)))
          clear hown2 hown3 hgrow2 hat2 hwh hws n0 n1 n2 n3 n4 n5 n6 n7 HOW3 HK3 HKA HOR
          go_wp2_with fail
          go_roundw
          case rel => exact ⟨i + 1, by omega, by simp, HO3.out, HK7.out, .inr ⟨g7, cap7, rfl, HOR7.out⟩, fun h => absurd h (by omega), fun _ => ⟨g7, cap7, rfl, HOR7.out⟩⟩
          case measure => simp [intOf]; omega
      · have qa : decide (0 ≤ xc) = false := decide_eq_false hqa
        have HQA := Lib.hid hqa
        clear hqa
        by_cases hqn : 0 ≤ xn
        · have qn : decide (0 ≤ xn) = true := decide_eq_true hqn
          have HQN := Lib.hid hqn
          have xnn : IntKind.i64.wrap (xn + (L.length : Int)) = xn + (L.length : Int) := IntWalk.i64_in _ (by have := hkb.2; omega)
          clear hqn
          have n1 := hX.cell 1
          have f1 := hX.frozen 1
          simp only [List.getElem?_toArray, List.getElem?_cons_zero, List.getElem?_cons_succ] at n1
          have hX2 := hX
          have HOW2 := HOW
          have HK2 := Lib.hid hK4
          go_upto_region 8 with fail
          clear n1 f1 hX hK4 HOW
          have n2 := hX2.cell 2
          have f2 := hX2.frozen 2
          simp only [List.getElem?_toArray, List.getElem?_cons_zero, List.getElem?_cons_succ] at n2
          have hX3 : Blk (wa.setCell ⟨xb, 2, none⟩ (.int .i64 (xn + (L.length : Int)))) xb (ndI xk xc (xn + (L.length : Int)) xm t) 44 := hX2.set 2 _
          have HOW3 := Lib.hid (owns_keep HOW2.out (W' := wa.setCell ⟨xb, 2, none⟩ (.int .i64 (xn + (L.length : Int)))) (fun g hg => Below.heap_setCell wa ⟨xb, 2, none⟩ _ g (Nat.ne_of_lt (hlo g hg))))
          have HK3 := Lib.hid (HK2.out.set (g := xb) (.inr hxz) 2 (.int .i64 (xn + (L.length : Int))))
          go_upto_region 10 with fail
          clear n2 f2 hX2 HK2 HOW2
          generalize wa.setCell ⟨xb, 2, none⟩ (.int .i64 (xn + (L.length : Int))) = wd at *
          have n0 := hX3.cell 0; have n1 := hX3.cell 1; have n2 := hX3.cell 2; have n3 := hX3.cell 3; have n4 := hX3.cell 4; have n5 := hX3.cell 5; have n6 := hX3.cell 6; have n7 := hX3.cell 7
          simp only [List.getElem?_toArray, List.getElem?_cons_zero, List.getElem?_cons_succ] at n0 n1 n2 n3 n4 n5 n6 n7
          have hsz : base ≤ (wd.alloc (.cells (ndI xk xc (xn + (L.length : Int)) xm t) 44)).heap.size := by rw [World.size_alloc]; have := HK3.out.size; omega
          have HKA := Lib.hid (HK3.out.alloc (.cells (ndI xk xc (xn + (L.length : Int)) xm t) 44))
          have hws := HK3.out.size
          clear hX3
          go_wp2_with (at_builtin; refine wpList_append_lies _ rfl _ _ 31 rfl base 44 i0 (.agg #[.int .i64 0, .int .i64 0, .int .i64 0, .int .i64 0, .int .u64 0, .int .u64 0, .int .u64 0, .int .u64 0]) 8 64 Tryd.underlying31 hinf hz0 hz1 hz2 rfl (by decide) _ (behT L M i).length (ndCells (behT L M i)) rfl (HOW3.out.alloc _) ⟨wd.heap.size, 0, none⟩ 1 1 (ndI xk xc (xn + (L.length : Int)) xm t).toList rfl rfl (Blk.new wd (ndI xk xc (xn + (L.length : Int)) xm t) _).newsL (by simp [Value.oneCell']) (by decide) (by rw [hlt2]; unfold maxLen; omega) (by omega) hsz (wd.heap.size + 1) (World.size_alloc ..) ?_; intro g7 cap7 w7 hown2 hgrow2 hat2 hlt7)
          have hown3 : OwT base (.slice (some ⟨g7, 0, none⟩) (L.length + (i + 1)) cap7) (behT L M (i + 1)) w7 := by
            unfold OwT
            rw [HST.out, ndCells_app, cells_one, List.length_append]
            have e : shN L.length ⟨xk, xc, xn, xm, t⟩ = ⟨xk, xc, (xn + (L.length : Int)), xm, t⟩ := by
              unfold shN
              simp only [if_neg HQA.out, if_pos HQN.out]
            rw [e]
            have e2 : L.length + (i + 1) = (behT L M i).length + 1 := by omega
            rw [e2]
            exact hown2
          have HO3 := Lib.hid hown3
          have hwh : ∀ g, u0.ownBlock = some g → (Value.slice ao L.length co).ownBlock = some g ∨ w.heap.size ≤ g := fun g hg => by
            rcases HOR.out with e | ⟨g', c', e, h⟩
            · rw [e] at hg; exact .inl hg
            · rw [e] at hg; cases hg; exact h
          have HK7 := Lib.hid (HKA.out.grown hgrow2 (fun g hg => hwh g hg))
          have HOR7 := Lib.hid (show (Value.slice ao L.length co).ownBlock = some g7 ∨ w.heap.size ≤ g7 from hat2.elim (fun h => hwh g7 h) (fun h => .inr (by omega)))
          clear hown2 hown3 hgrow2 hat2 hwh hws n0 n1 n2 n3 n4 n5 n6 n7 HOW3 HK3 HKA HOR
          go_wp2_with fail
          go_roundw
          case rel => exact ⟨i + 1, by omega, by simp, HO3.out, HK7.out, .inr ⟨g7, cap7, rfl, HOR7.out⟩, fun h => absurd h (by omega), fun _ => ⟨g7, cap7, rfl, HOR7.out⟩⟩
          case measure => simp [intOf]; omega
        · have qn : decide (0 ≤ xn) = false := decide_eq_false hqn
          have HQN := Lib.hid hqn
          clear hqn
          have n1 := hX.cell 1
          have f1 := hX.frozen 1
          simp only [List.getElem?_toArray, List.getElem?_cons_zero, List.getElem?_cons_succ] at n1
          have hX2 := hX
          have HOW2 := HOW
          have HK2 := Lib.hid hK4
          go_upto_region 8 with fail
          clear n1 f1 hX hK4 HOW
          have n2 := hX2.cell 2
          have f2 := hX2.frozen 2
          simp only [List.getElem?_toArray, List.getElem?_cons_zero, List.getElem?_cons_succ] at n2
          have hX3 := hX2
          have HOW3 := HOW2
          have HK3 := HK2
          go_upto_region 10 with fail
          clear n2 f2 hX2 HK2 HOW2
          have n0 := hX3.cell 0; have n1 := hX3.cell 1; have n2 := hX3.cell 2; have n3 := hX3.cell 3; have n4 := hX3.cell 4; have n5 := hX3.cell 5; have n6 := hX3.cell 6; have n7 := hX3.cell 7
          simp only [List.getElem?_toArray, List.getElem?_cons_zero, List.getElem?_cons_succ] at n0 n1 n2 n3 n4 n5 n6 n7
          have hsz : base ≤ (wa.alloc (.cells (ndI xk xc xn xm t) 44)).heap.size := by rw [World.size_alloc]; have := HK3.out.size; omega
          have HKA := Lib.hid (HK3.out.alloc (.cells (ndI xk xc xn xm t) 44))
          have hws := HK3.out.size
          clear hX3
          go_wp2_with (at_builtin; refine wpList_append_lies _ rfl _ _ 31 rfl base 44 i0 (.agg #[.int .i64 0, .int .i64 0, .int .i64 0, .int .i64 0, .int .u64 0, .int .u64 0, .int .u64 0, .int .u64 0]) 8 64 Tryd.underlying31 hinf hz0 hz1 hz2 rfl (by decide) _ (behT L M i).length (ndCells (behT L M i)) rfl (HOW3.out.alloc _) ⟨wa.heap.size, 0, none⟩ 1 1 (ndI xk xc xn xm t).toList rfl rfl (Blk.new wa (ndI xk xc xn xm t) _).newsL (by simp [Value.oneCell']) (by decide) (by rw [hlt2]; unfold maxLen; omega) (by omega) hsz (wa.heap.size + 1) (World.size_alloc ..) ?_; intro g7 cap7 w7 hown2 hgrow2 hat2 hlt7)
          have hown3 : OwT base (.slice (some ⟨g7, 0, none⟩) (L.length + (i + 1)) cap7) (behT L M (i + 1)) w7 := by
            unfold OwT
            rw [HST.out, ndCells_app, cells_one, List.length_append]
            have e : shN L.length ⟨xk, xc, xn, xm, t⟩ = ⟨xk, xc, xn, xm, t⟩ := by
              unfold shN
              simp only [if_neg HQA.out, if_neg HQN.out]
            rw [e]
            have e2 : L.length + (i + 1) = (behT L M i).length + 1 := by omega
            rw [e2]
            exact hown2
          have HO3 := Lib.hid hown3
          have hwh : ∀ g, u0.ownBlock = some g → (Value.slice ao L.length co).ownBlock = some g ∨ w.heap.size ≤ g := fun g hg => by
            rcases HOR.out with e | ⟨g', c', e, h⟩
            · rw [e] at hg; exact .inl hg
            · rw [e] at hg; cases hg; exact h
          have HK7 := Lib.hid (HKA.out.grown hgrow2 (fun g hg => hwh g hg))
          have HOR7 := Lib.hid (show (Value.slice ao L.length co).ownBlock = some g7 ∨ w.heap.size ≤ g7 from hat2.elim (fun h => hwh g7 h) (fun h => .inr (by omega)))
          clear hown2 hown3 hgrow2 hat2 hwh hws n0 n1 n2 n3 n4 n5 n6 n7 HOW3 HK3 HKA HOR
          go_wp2_with fail
          go_roundw
          case rel => exact ⟨i + 1, by omega, by simp, HO3.out, HK7.out, .inr ⟨g7, cap7, rfl, HOR7.out⟩, fun h => absurd h (by omega), fun _ => ⟨g7, cap7, rfl, HOR7.out⟩⟩
          case measure => simp [intOf]; omega
    · obtain rfl : i = M.length := by omega
      have hdI : decide ((M.length : Int) < (M.length : Int)) = false := by simp
      obtain ⟨g, cap, rfl, hat⟩ := hi1 hM
      have HK := Lib.hid hkp
      have HAT := Lib.hid hat
      rw [HALL.out] at hown
      have HW := Lib.hid hown
      clear hown hkp hat hor hi0 hi1
      go_wp2_with fail
      go_ret
      exact ⟨g, cap, rfl, HW.out, HK.out, HAT.out⟩
end Go.Proofs.YtpncomjpmilbkaaDoor

/- The developers' trees: a tree's kids; Formed, Sizes, Kids. -/
namespace Go.Proofs.YtpncomjpmilbkaaDoor
open Go.RowKit BS

/-- A tree's sizes in memory. -/
def SzAt (l : List NdN) (b : Nat) (W : World) : Prop := b < W.heap.size ∧ ∀ i (h : i < (sizesR l).length), W.cell? ⟨b, i, none⟩ = some (.int .i64 (sizesR l)[i])
theorem SzAt.below {l : List NdN} {b : Nat} {W W' : World} (h : SzAt l b W) (hb : Below W.heap.size W W') : SzAt l b W' :=
  ⟨Nat.lt_of_lt_of_le h.1 hb.size, fun i hi => (hb.cell (p := ⟨b, i, none⟩) h.1).trans (h.2 i hi)⟩
theorem SzAt.of {l : List NdN} (hne : sizesR l ≠ []) {b n : Nat} {W : World} (h : IntsB n (sizesR l) (some ⟨b, 0, none⟩) W) : SzAt l b W ∧ n ≤ b := by
  obtain ⟨g, o, e, h0, hg, hc⟩ := h hne
  cases e
  exact ⟨⟨hg, fun i hi => by rw [← hc i hi, Nat.zero_add]⟩, h0⟩
/-- Whole numbers, as cells. -/
def intsV (l : List Int) : Array Value := (l.map (Value.int .i64)).toArray
theorem intsV_size (l : List Int) : (intsV l).size = l.length := by simp [intsV]
theorem intsV_get (l : List Int) (i : Nat) (h : i < l.length) : (intsV l)[i]? = some (.int .i64 l[i]) := by simp [intsV, h]
theorem intsV_ext (l : List Int) (vs : Array Value) (hs : vs.size = l.length) (h : ∀ i (h : i < l.length), vs[i]? = some (.int .i64 l[i])) : vs = intsV l := by
  apply Array.ext
  · rw [hs, intsV_size]
  · intro i h1 h2
    rw [hs] at h1
    have e1 := h i h1
    have e2 := intsV_get l i h1
    rw [Array.getElem?_eq_getElem (by omega)] at e1
    rw [Array.getElem?_eq_getElem (by rw [intsV_size]; exact h1)] at e2
    exact Option.some.inj (e1.trans e2.symm)

set_option maxRecDepth 100000 in
set_option maxHeartbeats 16000000 in
theorem tKids_calls (l : List NdN) (hl : l.length ≤ 1000000) (hf : manyF 0 (l.map NdN.kids) = some 1) (i : Nat) (hlt : i < l.length) (a : Option Addr) (cap g2 : Nat) (w : World) (h : NodesAt l a w) (hZ : SzAt l g2 w) :
    Calls Tryd.prog 82 #[.agg (trC a l.length cap (some ⟨g2, 0, none⟩) l.length l.length), .int .i64 i] w fun e w' => ∃ b, e = .returned (.slice (some ⟨b, 0, none⟩) (kidsR l i).length (kidsR l i).length) ∧ w.heap.size ≤ b ∧ Blk w' b (intsV (kidsR l i)) 3 ∧ Below w.heap.size w w' := by
  have hsr : (sizesR l).length = l.length := by
    unfold sizesR
    rw [if_pos hf, List.length_map, sizesF_len]; simp [ksN]
  obtain ⟨hk0, hst⟩ := (formed_iff (l.map NdN.kids)).1 hf
  have hst : stackF [] (ksN l) = some [(l.map NdN.kids).length] := hst
  have hkl : (ksN l).length = l.length := by simp [ksN]
  have hlk : i < (ksN l).length := by rw [hkl]; exact hlt
  have hne : l ≠ [] := by rintro rfl; simp at hlt
  obtain ⟨g, off, rfl, hg, hc⟩ := h hne
  obtain ⟨s, hs, hks, hsum⟩ := stack_at (ksN l) [] _ hst i hlk
  obtain ⟨hr, ht, _⟩ := roots_at (ksN l) i hlk s hs
  rw [← ht] at hr
  have hpl := len_le_sum s (stackF_pos ((ksN l).take i) [] s (by simp) hs)
  have hkk : (l[i].kids : Int) = ((ksN l)[i] : Nat) := by
    have h0 := hk0 l[i].kids (List.mem_map_of_mem (List.getElem_mem hlt))
    simp only [ksN, List.getElem_map]
    omega
  have hR : sizesR l = (sizesF [] (ksN l)).map (fun x : Nat => (x : Int)) := if_pos hf
  have hsl : (sizesF [] (ksN l)).length = l.length := by rw [sizesF_len, hkl]
  have hkid : kidsR l i = (((posF i s).take (ksN l)[i]).reverse).map (fun x : Nat => (x : Int)) := by
    unfold kidsR
    rw [if_pos ⟨hf, by omega, by omega⟩, show (i : Int).toNat = i from rfl, allKids_at (ksN l) i hlk s hs]
    rfl
  have htl : ((sizesF [] (ksN l)).take i).length = i := by rw [List.length_take]; omega
  generalize hK : (ksN l)[i] = K at *
  generalize sizesF [] (ksN l) = sz at *
  have hsumi : s.sum = i := by simpa using hsum
  have hPl : ((posF i s).take K).length = K := by rw [List.length_take, posF_len]; omega
  have hc1 := hc i hlt 1 (by decide)
  have c0 : w.cell? ⟨g, off + i * 8 + 1, none⟩ = some (.int .i64 (K : Int)) := by rw [← hkk]; exact hc1
  have hKL : (kidsR l i).length = K := by rw [hkid, List.length_map, List.length_reverse, hPl]
  have HK := Lib.hid hkid
  have HKLN := Lib.hid hKL
  have HRT := Lib.hid hr
  have HR := Lib.hid hR
  have HPL := Lib.hid hPl
  have HZ := Lib.hid hZ
  have HSR := Lib.hid hsr
  clear hkid hr hR hPl hc1 hk0 hst hs ht hkk hsum hc hf hne hlk hkl hK hKL hZ hsr h
  have hmk := fun W => run_make_row' (P := Tryd.prog) 50 3 (.int .i64 0) 8 Tryd.underlying50 (by kernel_rfl) rfl .i64 .i64 K (by omega) (by omega) W
  have hmz : (madeCells #[Value.int .i64 0] K).size = K := by simp [madeCells]
  have xi : IntKind.i64.wrap ((i : Int) - 1) = (i : Int) - 1 := IntWalk.i64_in _ (by omega)
  have xK : IntKind.i64.wrap ((K : Int) - 1) = (K : Int) - 1 := IntWalk.i64_in _ (by omega)
  have hii : (i : Int) < (l.length : Int) := by omega
  have hd : decide (i < l.length) = true := by rw [decide_eq_true_iff]; omega
  generalize madeCells #[Value.int .i64 0] K = vs0 at *
  go_enter Tryd.func82, Tryd.ntmps82
  have hT := Blk.new w (trC (some ⟨g, off, none⟩) l.length cap (some ⟨g2, 0, none⟩) l.length l.length) 106
  have hB1 : Below w.heap.size w (w.alloc (.cells (trC (some ⟨g, off, none⟩) l.length cap (some ⟨g2, 0, none⟩) l.length l.length) 106)) := by go_grown
  have hz1 : w.heap.size + 1 = (w.alloc (.cells (trC (some ⟨g, off, none⟩) l.length cap (some ⟨g2, 0, none⟩) l.length l.length) 106)).heap.size := by simp
  go_upto_region 1 with fail
  generalize w.alloc (.cells (trC (some ⟨g, off, none⟩) l.length cap (some ⟨g2, 0, none⟩) l.length l.length) 106) = w1 at *
  have c1 := (hB1.cell (p := ⟨g, off + i * 8 + 1, none⟩) hg).trans c0
  have t0 := hT.cell 0; have t1 := hT.cell 1
  simp only [List.getElem?_toArray, List.getElem?_cons_zero, List.getElem?_cons_succ] at t0 t1
  have hBn := Blk.new w1 vs0 3
  have hB0 : Below w1.heap.size w1 (w1.alloc (.cells vs0 3)) := (Below.refl _ _).alloc (Nat.le_refl _) _
  have HB1 := Lib.hid hB1
  go_upto_region 2 with fail
  generalize hw2 : w1.alloc (.cells vs0 3) = w2 at *
  have hT2 : Blk w2 w.heap.size (trC (some ⟨g, off, none⟩) l.length cap (some ⟨g2, 0, none⟩) l.length l.length) 106 := by rw [← hw2]; exact hT.alloc _
  clear hmk hw2 c1 t0 t1 c0 hB1 hT
  have HT2 := Lib.hid hT2
  clear hT2
  go_upto_region 4 with fail
  go_loopw [6, 7] (fun va vk wr => ∃ j : Nat, j ≤ K ∧ va = .int .i64 ((i : Int) - 1 - ((s.take j).sum : Nat)) ∧ vk = .int .i64 ((K : Int) - 1 - (j : Int)) ∧ (∃ vs : Array Value, vs.size = K ∧ (∀ t, t < j → vs[K - 1 - t]? = some (.int .i64 ((i - (s.take t).sum - 1 : Nat) : Int))) ∧ Blk wr w1.heap.size vs 3) ∧ Below w1.heap.size w1 wr ∧ Blk wr w.heap.size (trC (some ⟨g, off, none⟩) l.length cap (some ⟨g2, 0, none⟩) l.length l.length) 106) (fun _ vk _ => (intOf vk + 1).toNat)
  case atStart => exact ⟨0, Nat.zero_le _, by simp, by simp, ⟨vs0, hmz, fun t ht => by omega, hBn⟩, hB0, HT2.out⟩
  case round =>
    clear hBn hB0 hmz HT2
    obtain ⟨j, hj, rfl, rfl, ⟨vs, hvs, hno, hb⟩, hB, hT⟩ := hrel
    by_cases hjl : j < K
    · obtain ⟨r1, r2⟩ := HRT.out j (by omega)
      rw [htl] at r1 r2
      have hts := take_sum s j (by omega)
      have hle2 := take_sum_le s (j + 1)
      generalize hS : (s.take j).sum = S at *
      generalize hS1 : (s.take (j + 1)).sum = S1 at *
      generalize s[j] = z at *
      have hpz : i - 1 - S < sz.length := by omega
      have hz : sz[i - 1 - S] = z := by
        rw [List.getElem?_take, if_pos (by omega), List.getElem?_eq_getElem hpz] at r2
        exact Option.some.inj r2
      have hps : i - 1 - S < (sizesR l).length := by have := HSR.out; omega
      have hg2 := HZ.out.1
      have hg21 : g2 < w1.heap.size := by omega
      have cz := (hB.cell (p := ⟨g2, i - 1 - S, none⟩) hg21).trans ((HB1.out.cell (p := ⟨g2, i - 1 - S, none⟩) hg2).trans (HZ.out.2 (i - 1 - S) hps))
      have ez : (sizesR l)[i - 1 - S] = (z : Int) := by simp only [HR.out, List.getElem_map, hz]
      rw [ez] at cz
      obtain ⟨old, hold⟩ : ∃ old, vs[K - 1 - j]? = some old := ⟨vs[K - 1 - j]'(by omega), by simp [show K - 1 - j < vs.size by omega]⟩
      have hci := (hb.cell (K - 1 - j)).trans hold
      have hfi := hb.frozen (K - 1 - j)
      have hat : (i : Int) - 1 - (S : Int) = ((i - 1 - S : Nat) : Int) := by omega
      have hkt : (K : Int) - 1 - (j : Int) = ((K - 1 - j : Nat) : Int) := by omega
      have cz2 : ((wr.setCell ⟨w1.heap.size, K - 1 - j, none⟩ (.int .i64 ((i - 1 - S : Nat) : Int)))).cell? ⟨g2, i - 1 - S, none⟩ = some (.int .i64 (z : Int)) := (World.cell?_of_block (w := wr) (a := ⟨g2, i - 1 - S, none⟩) (Below.heap_setCell wr ⟨w1.heap.size, K - 1 - j, none⟩ _ g2 (Nat.ne_of_lt hg21))).trans cz
      have hTS := hT.other (show w.heap.size ≠ w1.heap.size by omega) (K - 1 - j) (.int .i64 ((i - 1 - S : Nat) : Int))
      have t1 := hTS.cell 1
      simp only [List.getElem?_toArray, List.getElem?_cons_zero, List.getElem?_cons_succ] at t1
      have HTS := Lib.hid hts
      have HLE2 := Lib.hid hle2
      have HAT := Lib.hid hat
      have HKT := Lib.hid hkt
      have HS1 := Lib.hid hS1
      have HSS := Lib.hid hS
      have HNO := Lib.hid hno
      have HBK := Lib.hid hb
      have HB := Lib.hid hB
      have HTT := Lib.hid hTS
      have hpn : i - 1 - S < l.length := by omega
      have hzb : S + z ≤ i := by omega
      rw [hat, hkt]
      clear hts hle2 hat hkt hS hS1 r1 r2 hz ez hold hno hb hB hps hpz cz hT hTS
      generalize hP : i - 1 - S = p at *
      have HP := Lib.hid hP
      clear hP
      generalize hQ : K - 1 - j = qk at *
      have hqK : qk < K := by omega
      have HQ := Lib.hid hQ
      clear hQ
      have xz : IntKind.i64.wrap ((p : Int) - (z : Int)) = (p : Int) - (z : Int) := IntWalk.i64_in _ (by omega)
      have xq : IntKind.i64.wrap ((qk : Int) - 1) = (qk : Int) - 1 := IntWalk.i64_in _ (by omega)
      have hq0 : decide ((0 : Int) ≤ (qk : Int)) = true := by rw [decide_eq_true_iff]; omega
      have XZ := Lib.hid xz
      have XQ := Lib.hid xq
      go_wp2_with fail
      go_roundw
      case rel =>
        have e1 := HTS.out
        have e2 := HAT.out
        have e3 := HS1.out
        have e4 := XZ.out
        have e5 := XQ.out
        have e6 := HKT.out
        have e7 := HQ.out
        have e8 := HP.out
        refine ⟨j + 1, by omega, by rw [e3, e1]; congr 1; omega, by congr 1; omega, ⟨vs.setIfInBounds qk (.int .i64 (p : Int)), by simp [hvs], fun t ht => ?_, HBK.out.set qk _⟩, below_set HB.out (Nat.le_refl _) qk _, HTT.out⟩
        by_cases htj : t = j
        · subst htj
          rw [e7, HSS.out]
          have : i - S - 1 = p := by omega
          rw [this]
          simp [hvs, hqK]
        · rw [Array.getElem?_setIfInBounds_ne (by omega)]
          exact HNO.out t (by omega)
      case measure => simp [intOf] <;> omega
    · obtain rfl : j = K := by omega
      have hq0 : decide ((0 : Int) ≤ (j : Int) - 1 - (j : Int)) = false := by rw [decide_eq_false_iff_not]; omega
      have HB := Lib.hid hB
      have HBK := Lib.hid hb
      have HNO := Lib.hid hno
      clear hB hb hno hT
      go_wp2_with fail
      go_ret
      have hkl := HKLN.out
      have hvv : vs = intsV (kidsR l i) := intsV_ext _ _ (by rw [hvs, hkl]) fun x hx => by
        rw [hkl] at hx
        have h1 := HNO.out (j - 1 - x) (by omega)
        rw [show j - 1 - (j - 1 - x) = x by omega] at h1
        rw [h1]
        have hlen := HPL.out
        have hg' : (kidsR l i)[x] = ((((posF i s).take j)[j - 1 - x]'(by omega) : Nat) : Int) := by
          simp only [HK.out, List.getElem_map, List.getElem_reverse, hlen]
        rw [hg', List.getElem_take, posF_get]
      rw [← hvv]
      refine ⟨w1.heap.size, by rw [hkl] <;> rfl, by omega, HBK.out, HB1.out.trans (HB.out.mono HB1.out.size)⟩

theorem formed_ne {l : List NdN} (hf : manyF 0 (l.map NdN.kids) = some 1) : sizesR l ≠ [] := by
  have hsr : (sizesR l).length = l.length := by
    unfold sizesR
    rw [if_pos hf, List.length_map, sizesF_len]; simp [ksN]
  intro h
  rw [h] at hsr
  have : l = [] := List.length_eq_zero_iff.1 (by simpa using hsr.symm)
  subst this
  cases hf
theorem sizesR_no {l : List NdN} (hf : manyF 0 (l.map NdN.kids) ≠ some 1) : sizesR l = [] := if_neg hf

end Go.Proofs.YtpncomjpmilbkaaDoor

/- The developers' trees: slices.Reverse. -/
namespace Go.Proofs.YtpncomjpmilbkaaDoor
open Go.RowKit BS

theorem intsV_rev (l : List Int) (i : Nat) (h : i < l.length) : (intsV l.reverse)[i]? = some (.int .i64 (l[l.length - 1 - i]'(by omega))) := by
  rw [intsV_get _ _ (by simpa using h), List.getElem_reverse]
set_option maxRecDepth 100000 in
set_option maxHeartbeats 8000000 in
theorem reverse_calls (l : List Int) (hl : l.length ≤ 1000000) (b : Nat) (w : World) (h : Blk w b (intsV l) 3) :
    Calls Tryd.prog 84 #[.slice (some ⟨b, 0, none⟩) l.length l.length] w fun e w' => e = .returned (.tuple #[]) ∧ Blk w' b (intsV l.reverse) 3 ∧ Below b w w' ∧ w.heap.size = w'.heap.size := by
  have HL := Lib.hid h
  have hx : IntKind.i64.wrap ((l.length : Int) - 1) = (l.length : Int) - 1 := IntWalk.i64_in _ (by omega)
  clear h
  go_enter Tryd.func84, Tryd.ntmps84
  go_wp2_with fail
  go_loopw [2, 3] (fun vi vj wr => ∃ i : Nat, 2 * i ≤ l.length + 1 ∧ vi = .int .i64 i ∧ vj = .int .i64 ((l.length : Int) - 1 - (i : Int)) ∧ (∃ vs : Array Value, vs.size = l.length ∧ (∀ j, (h : j < l.length) → vs[j]? = some (.int .i64 (if j < i ∨ l.length - 1 - i < j then l[l.length - 1 - j]'(by omega) else l[j]))) ∧ Blk wr b vs 3) ∧ Below b w wr ∧ w.heap.size = wr.heap.size) (fun vi _ _ => l.length - (intOf vi).toNat)
  case atStart => exact ⟨0, by omega, rfl, by simp, ⟨intsV l, intsV_size l, fun j hj => by rw [intsV_get l j hj, if_neg (by omega)], HL.out⟩, Below.refl _ _, rfl⟩
  case round =>
    clear HL
    obtain ⟨i, hi, rfl, rfl, ⟨vs, hvs, hno, hb⟩, hB, hz⟩ := hrel
    by_cases hlt : (i : Int) < (l.length : Int) - 1 - (i : Int)
    · have q : decide ((i : Int) < (l.length : Int) - 1 - (i : Int)) = true := decide_eq_true hlt
      obtain ⟨j, hj⟩ : ∃ j : Nat, (l.length : Int) - 1 - (i : Int) = j := ⟨l.length - 1 - i, by omega⟩
      have hjl : j < l.length := by omega
      have hil : i < l.length := by omega
      have hij : i < j := by omega
      have ci := (hb.cell i).trans (hno i hil)
      have cj := (hb.cell j).trans (hno j hjl)
      rw [if_neg (by omega)] at ci cj
      have fi := hb.frozen i
      have fj := hb.frozen j
      rw [hj] at q
      have HJ := Lib.hid hj
      have HNO := Lib.hid hno
      have HBK := Lib.hid hb
      have HB := Lib.hid hB
      rw [hj]
      have xi : IntKind.i64.wrap ((i : Int) + 1) = (i : Int) + 1 := IntWalk.i64_in _ (by omega)
      have xj : IntKind.i64.wrap ((j : Int) - 1) = (j : Int) - 1 := IntWalk.i64_in _ (by omega)
      have dj : decide (j < l.length) = true := decide_eq_true hjl
      have di : decide (i < l.length) = true := decide_eq_true hil
      have djI : (j : Int) < (l.length : Int) := by omega
      have diI : (i : Int) < (l.length : Int) := by omega
      clear hj hno hb hB hlt
      have hii : ¬ (i = j) := by omega
      generalize hA : l[i] = A at *
      generalize hC : l[j] = C at *
      go_upto_region 3 with fail
      go_region
      go_wp2_with fail
      go_roundw
      case rel =>
        have hJ := HJ.out
        refine ⟨i + 1, by omega, by simp, by congr 1; have := HJ.out; omega, ⟨(vs.setIfInBounds i (.int .i64 C)).setIfInBounds j (.int .i64 A), by simp [hvs], fun x hx => ?_, ((HBK.out.set i _).set j _).drew⟩, ((below_set (below_set HB.out (Nat.le_refl _) i _) (Nat.le_refl _) j _)).drew, by simpa using hz⟩
        have hj2 : l.length - 1 - i = j := by have := HJ.out; omega
        by_cases hxj : x = j
        · subst hxj
          rw [if_pos (by omega)]
          have e : l.length - 1 - x = i := by omega
          simp only [e, hA]
          simp [hvs, hjl]
        · rw [Array.getElem?_setIfInBounds_ne (Ne.symm hxj)]
          by_cases hxi : x = i
          · subst hxi
            rw [if_pos (by omega)]
            simp only [hj2, hC]
            simp [hvs, hil]
          · rw [Array.getElem?_setIfInBounds_ne (Ne.symm hxi), HNO.out x hx]
            by_cases h1 : x < i ∨ l.length - 1 - i < x
            · rw [if_pos h1, if_pos (by omega)]
            · rw [if_neg h1, if_neg (by omega)]
      case measure => simp [intOf]; omega
    · have q : decide ((i : Int) < (l.length : Int) - 1 - (i : Int)) = false := decide_eq_false hlt
      have HB := Lib.hid hB
      have HBK := Lib.hid hb
      have hvv : vs = intsV l.reverse := intsV_ext _ _ (by rw [hvs, List.length_reverse]) fun x hx => by
        rw [List.length_reverse] at hx
        rw [hno x hx, List.getElem_reverse]
        by_cases h1 : x < i ∨ l.length - 1 - i < x
        · rw [if_pos h1]
        · rw [if_neg h1]
          have e : l.length - 1 - x = x := by omega
          simp only [e]
      clear hB hb hno hlt
      go_wp2_with fail
      go_end0
      exact ⟨rfl, by rw [← hvv]; exact HBK.out, HB.out, hz⟩
end Go.Proofs.YtpncomjpmilbkaaDoor

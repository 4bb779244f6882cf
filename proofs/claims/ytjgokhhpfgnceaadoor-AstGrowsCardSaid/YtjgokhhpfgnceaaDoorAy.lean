/- The laws of stage 6: AstGrows. -/
import Derived.Test.YtjgokhhpfgnceaaDoorAs
import Derived.Test.YtjgokhhpfgnceaaDoorAv
import Derived.Outline
import Derived.Deep.DeepCutAuto
import Derived.Laws.AppendOwn
namespace Go.Proofs.YtjgokhhpfgnceaaDoor
open Go.RowKit BS

/-! ### Nodes side by side -/
theorem info8n : (Tryd.prog.info? 34).map (fun i => (i.zero, i.size, i.bytes)) = some (some (.agg #[.int .i64 0, .int .i64 0, .int .i64 0, .int .i64 0, .int .u64 0, .int .u64 0, .int .u64 0, .int .u64 0]), 8, 64) := by kernel_rfl
def ndCells (l : List NdN) : List Value := l.flatMap fun x => (ndA x).toList
theorem ndCells_app (l m : List NdN) : ndCells (l ++ m) = ndCells l ++ ndCells m := by simp [ndCells]
theorem ndCells_len (l : List NdN) : (ndCells l).length = l.length * 8 := by
  induction l with
  | nil => rfl
  | cons x l ih =>
    have e : ndCells (x :: l) = (ndA x).toList ++ ndCells l := by simp [ndCells]
    rw [e, List.length_append, ih, List.length_cons, show (ndA x).toList.length = 8 from rfl]
    omega
theorem ndCells_get : ∀ (l : List NdN) (i j : Nat) (h : i < l.length) (_hj : j < 8), (ndCells l)[i * 8 + j]? = (ndA l[i])[j]?
  | [], _, _, h, _ => absurd h (by simp)
  | x :: l, i, j, h, hj => by
    have e : ndCells (x :: l) = (ndA x).toList ++ ndCells l := by simp [ndCells]
    rw [e]
    cases i with
    | zero =>
      rw [List.getElem?_append_left (by rw [show (ndA x).toList.length = 8 from rfl]; omega), Nat.zero_mul, Nat.zero_add]
      simp
    | succ i =>
      rw [List.getElem?_append_right (by rw [show (ndA x).toList.length = 8 from rfl]; omega), show (ndA x).toList.length = 8 from rfl, show (i + 1) * 8 + j - 8 = i * 8 + j by omega]
      exact ndCells_get l i j (by simpa using h) hj
theorem ndCells_one (l : List NdN) : ∀ u ∈ ndCells l, u.oneCell' = true := fun u hu => by
  unfold ndCells at hu
  obtain ⟨x, _, hx⟩ := List.mem_flatMap.1 hu
  have h1 : ((ndA x).toList.all fun y => y.oneCell') = true := by simp [ndA, Value.oneCell']
  exact List.all_eq_true.1 h1 u hx
theorem nodes_news {l : List NdN} {g off : Nat} {W : World} (h : NodesAt l (some ⟨g, off, none⟩) W) : ∀ j u, (ndCells l)[j]? = some u → W.cell? ((⟨g, off, none⟩ : Addr).add j) = some u := fun j u hu => by
  have hj : j < (ndCells l).length := (List.getElem?_eq_some_iff.1 hu).1
  rw [ndCells_len] at hj
  have hne : l ≠ [] := by rintro rfl; simp at hj
  obtain ⟨g', off', e, _, hc⟩ := h hne
  cases e
  have h1 := hc (j / 8) (by omega) (j % 8) (by omega)
  rw [← ndCells_get l (j / 8) (j % 8) (by omega) (by omega), show off + j / 8 * 8 + j % 8 = off + j by omega, show j / 8 * 8 + j % 8 = j by omega, hu] at h1
  have e : (⟨g, off, none⟩ : Addr).add j = ⟨g, off + j, none⟩ := by
    unfold Addr.add
    by_cases h0 : j = 0
    · subst h0; rfl
    · rw [if_neg h0]
  rw [e]
  exact h1
theorem nodes_of_owns {l : List NdN} {v : Value} {base : Nat} {W : World} (h : W.ownsRow base 34 8 v l.length (ndCells l)) (hne : l ≠ []) : ∃ g cap, v = .slice (some ⟨g, 0, none⟩) l.length cap ∧ base ≤ g ∧ NodesAt l (some ⟨g, 0, none⟩) W := by
  rcases h.2 with ⟨_, h0⟩ | ⟨g, cap, cur, rfl, hb, hg, _, _, _, _⟩
  · exact absurd (List.eq_nil_of_length_eq_zero h0) hne
  · refine ⟨g, cap, rfl, hb, fun _ => ⟨g, 0, rfl, (Array.getElem?_eq_some_iff.1 hg).1, fun i hi j hj => ?_⟩⟩
    rw [Nat.zero_add]
    have hjj : i * 8 + j < (ndCells l).length := by rw [ndCells_len]; omega
    exact (h.cellAt (i * 8 + j) (by omega)).trans (ndCells_get l i j hi hj)
theorem owns_empty (W : World) (base : Nat) (hb : base ≤ W.heap.size) : (W.alloc (.cells #[] 34)).ownsRow base 34 8 (.slice (some ⟨W.heap.size, 0, none⟩) 0 0) 0 [] :=
  ⟨rfl, .inr ⟨W.heap.size, 0, #[], rfl, hb, Blk.new W #[] 34, Nat.le_refl _, Nat.zero_le _, rfl, rfl⟩⟩

theorem ndG_cells : ndCells [ndG] = [.int .i64 3, .int .i64 1, .int .i64 0, .int .i64 0, .int .u64 0, .int .u64 0, .int .u64 0, .int .u64 0] := by
  have z1 : wd (0 : BitVec 256) 1 = 0 := by decide
  have z2 : wd (0 : BitVec 256) 2 = 0 := by decide
  have z3 : wd (0 : BitVec 256) 3 = 0 := by decide
  show ([.int .i64 3, .int .i64 1, .int .i64 0, .int .i64 0, .int .u64 ((wd (0 : BitVec 256) 0 : Nat) : Int), .int .u64 ((wd (0 : BitVec 256) 1 : Nat) : Int), .int .u64 ((wd (0 : BitVec 256) 2 : Nat) : Int), .int .u64 ((wd (0 : BitVec 256) 3 : Nat) : Int)] : List Value) = _
  rw [z1, z2, z3]
  rfl
theorem ndL_cells : ndCells [ndL] = [.int .i64 6, .int .i64 2, .int .i64 0, .int .i64 0, .int .u64 0, .int .u64 0, .int .u64 0, .int .u64 0] := by
  have z1 : wd (0 : BitVec 256) 1 = 0 := by decide
  have z2 : wd (0 : BitVec 256) 2 = 0 := by decide
  have z3 : wd (0 : BitVec 256) 3 = 0 := by decide
  show ([.int .i64 6, .int .i64 2, .int .i64 0, .int .i64 0, .int .u64 ((wd (0 : BitVec 256) 0 : Nat) : Int), .int .u64 ((wd (0 : BitVec 256) 1 : Nat) : Int), .int .u64 ((wd (0 : BitVec 256) 2 : Nat) : Int), .int .u64 ((wd (0 : BitVec 256) 3 : Nat) : Int)] : List Value) = _
  rw [z1, z2, z3]
  rfl
def SGr (w0 : World) (ga oa gb ob i : Nat) (x y : Int) (W : World) : Prop := (W.cell? ⟨ga, oa + i, none⟩ = some (.int .i64 x) ∧ W.cell? ⟨gb, ob + i, none⟩ = some (.int .i64 y)) ∧ W = w0
theorem nums_bound (l : List NdN) (i : Nat) (hl : l.length ≤ 1000000) : (numsR l).getD i 0 ≤ 1000000 ∧ 0 ≤ (numsR l).getD i 0 := by
  by_cases h : i < (sizesR l).length
  · rw [numsR_get l i h]
    have h1 := nuN_le l i
    have h2 := grpN_le l (sizesR l).length
    have h3 := sizesR_le l
    omega
  · rw [List.getD_eq_getElem?_getD, List.getElem?_eq_none (by rw [numsR_len]; omega)]
    exact ⟨by decide, by decide⟩
set_option maxRecDepth 100000 in
set_option maxHeartbeats 32000000 in
theorem grows6_calls (C : AstC) (l m : List NdN) (hn : l.length ≤ 9223372036854775807) (hnm : m.length ≤ 9223372036854775807) (a b : Option Addr) (cap capm : Nat) (w : World) (h : NodesAt l a w) (hm : NodesAt m b w) : Calls Tryd.prog 7 #[.slice a l.length cap, .slice b m.length capm] w fun e w' => e = .returned (.bool true) ∧ Below w.heap.size w w' := by
  have HSU := Lib.hid (sure6_calls C)
  have HN := Lib.hid h
  have HM := Lib.hid hm
  have HB := Lib.hid (Below.refl w.heap.size w)
  by_cases hl : 60 < l.length
  · have HF1 : Hid (∀ w, Calls Tryd.prog 8 #[.slice a l.length cap] w fun e w' => e = .returned (.bool false) ∧ w = w') := Lib.hid (fun w => by have := few_calls l.length hn a cap w; rw [decide_eq_false (by omega)] at this; exact this)
    clear C h hm hl
    go_enter Tryd.func7, Tryd.ntmps7
    go_wp2_with fail
    refine (HF1.out _).mono ?_
    rintro e w1 ⟨rfl, rfl⟩
    clear HF1
    go_wp2_with fail
    refine (HSU.out _).mono ?_
    rintro e wz ⟨rfl, hb⟩
    have hBB := HB.out.trans (hb.mono HB.out.size)
    clear HSU hb
    go_wp2_with fail
    go_ret
    exact ⟨rfl, hBB⟩
  have HF1 : Hid (∀ w, Calls Tryd.prog 8 #[.slice a l.length cap] w fun e w' => e = .returned (.bool true) ∧ w = w') := Lib.hid (fun w => by have := few_calls l.length hn a cap w; rw [decide_eq_true (by omega)] at this; exact this)
  by_cases hl2 : 60 < m.length
  · have HF2 : Hid (∀ w, Calls Tryd.prog 8 #[.slice b m.length capm] w fun e w' => e = .returned (.bool false) ∧ w = w') := Lib.hid (fun w => by have := few_calls m.length hnm b capm w; rw [decide_eq_false (by omega)] at this; exact this)
    clear C h hm hl2
    go_enter Tryd.func7, Tryd.ntmps7
    go_wp2_with fail
    refine (HF1.out _).mono ?_
    rintro e w1 ⟨rfl, rfl⟩
    clear HF1
    go_wp2_with fail
    refine (HF2.out _).mono ?_
    rintro e w1 ⟨rfl, rfl⟩
    clear HF2
    go_wp2_with fail
    refine (HSU.out _).mono ?_
    rintro e wz ⟨rfl, hb⟩
    have hBB := HB.out.trans (hb.mono HB.out.size)
    clear HSU hb
    go_wp2_with fail
    go_ret
    exact ⟨rfl, hBB⟩
  have HF2 : Hid (∀ w, Calls Tryd.prog 8 #[.slice b m.length capm] w fun e w' => e = .returned (.bool true) ∧ w = w') := Lib.hid (fun w => by have := few_calls m.length hnm b capm w; rw [decide_eq_true (by omega)] at this; exact this)
  have hl6 : l.length ≤ 1000000 := by omega
  have hm6 : m.length ≤ 1000000 := by omega
  have r1 := fun W h => C.right l hl6 a cap W h
  have r2 := fun W h => C.right m hm6 b capm W h
  cases hr1 : rightR l with
  | false =>
    rw [hr1] at r1
    have HR1 := Lib.hid r1
    clear C h hm r1 r2 hr1
    go_enter Tryd.func7, Tryd.ntmps7
    go_wp2_with fail
    refine (HF1.out _).mono ?_
    rintro e w1 ⟨rfl, rfl⟩
    clear HF1
    go_wp2_with fail
    refine (HF2.out _).mono ?_
    rintro e w1 ⟨rfl, rfl⟩
    clear HF2
    go_wp2_with fail
    refine (HR1.out _ HN.out).mono ?_
    rintro e w2 ⟨rfl, hb⟩
    replace HN := Lib.hid (HN.out.below hb)
    replace HM := Lib.hid (HM.out.below hb)
    replace HB := Lib.hid (HB.out.trans (hb.mono HB.out.size))
    clear hb HR1
    go_wp2_with fail
    refine (HSU.out _).mono ?_
    rintro e wz ⟨rfl, hb⟩
    have hBB := HB.out.trans (hb.mono HB.out.size)
    clear HSU hb
    go_wp2_with fail
    go_ret
    exact ⟨rfl, hBB⟩
  | true =>
  rw [hr1] at r1
  have HR1 := Lib.hid r1
  cases hr2 : rightR m with
  | false =>
    rw [hr2] at r2
    have HR2 := Lib.hid r2
    clear C h hm r1 r2 hr1 hr2
    go_enter Tryd.func7, Tryd.ntmps7
    go_wp2_with fail
    refine (HF1.out _).mono ?_
    rintro e w1 ⟨rfl, rfl⟩
    clear HF1
    go_wp2_with fail
    refine (HF2.out _).mono ?_
    rintro e w1 ⟨rfl, rfl⟩
    clear HF2
    go_wp2_with fail
    refine (HR1.out _ HN.out).mono ?_
    rintro e w2 ⟨rfl, hb⟩
    replace HN := Lib.hid (HN.out.below hb)
    replace HM := Lib.hid (HM.out.below hb)
    replace HB := Lib.hid (HB.out.trans (hb.mono HB.out.size))
    clear hb HR1
    go_wp2_with fail
    refine (HR2.out _ HM.out).mono ?_
    rintro e w2 ⟨rfl, hb⟩
    replace HN := Lib.hid (HN.out.below hb)
    replace HM := Lib.hid (HM.out.below hb)
    replace HB := Lib.hid (HB.out.trans (hb.mono HB.out.size))
    clear hb HR2
    go_wp2_with fail
    refine (HSU.out _).mono ?_
    rintro e wz ⟨rfl, hb⟩
    have hBB := HB.out.trans (hb.mono HB.out.size)
    clear HSU hb
    go_wp2_with fail
    go_ret
    exact ⟨rfl, hBB⟩
  | true =>
  rw [hr2] at r2
  have HR2 := Lib.hid r2
  have hfl := ((rightR_iff l).1 hr1).1
  have hfm := ((rightR_iff m).1 hr2).1
  have hpl := formed_pos l hfl
  have hpm := formed_pos m hfm
  have hnel : l ≠ [] := by rintro rfl; simp at hpl
  have hnem : m ≠ [] := by rintro rfl; simp at hpm
  obtain ⟨g, off, rfl, hg, hc⟩ := HN.out hnel
  obtain ⟨gm, offm, rfl, hgm, hcm⟩ := HM.out hnem
  have hgr := right_group l hr1
  have htw := right_two l m hr1 hr2
  obtain ⟨hng1, hng2, hng3⟩ := nums_group l hfl
  have hnl : (numsR l).length = l.length := by rw [numsR_len, (formed_stack l hfl).2.2.1]
  have hgl : (l ++ [ndG]).length = l.length + 1 := by simp
  have htl : (l ++ m ++ [ndL]).length = l.length + m.length + 1 := by simp; omega
  have n1 := fun W h => C.numbers l hl6 (some ⟨g, off, none⟩) cap W h
  rw [hnl] at n1
  have HN1 := Lib.hid n1
  have n2 := fun ga capg W h => C.numbers (l ++ [ndG]) (by omega) ga capg W h
  rw [hng1, hgl] at n2
  have HN2 := Lib.hid n2
  have g1 := fun ga capg W h => C.right (l ++ [ndG]) (by omega) ga capg W h
  rw [hgr, hgl] at g1
  have HG1 := Lib.hid g1
  have g2 := fun ga capg W h => C.right (l ++ m ++ [ndL]) (by omega) ga capg W h
  rw [htw, htl] at g2
  have HG2 := Lib.hid g2
  have HNG2 := Lib.hid hng2
  have HNG3 := Lib.hid hng3
  have HNL := Lib.hid hnl
  have HNGL := Lib.hid hng1
  have HKL := Lib.hid (kdN_get l)
  have HKM := Lib.hid (kdN_get m)
  have HGSL := Lib.hid (grpN_step l)
  have HGSM := Lib.hid (grpN_step m)
  have HGLL := Lib.hid (grpN_le l)
  have HGLM := Lib.hid (grpN_le m)
  obtain ⟨i0, hinf, hz0, hz1, hz2⟩ := info_parts info8n
  clear C h hm r1 r2 hr1 hr2 hfl hfm hgr htw hng1 hng2 hng3 hnl n1 n2 g1 g2 hc hcm hgl htl
  go_enter Tryd.func7, Tryd.ntmps7
  go_wp2_with fail
  refine (HF1.out _).mono ?_
  rintro e w1 ⟨rfl, rfl⟩
  clear HF1
  go_wp2_with fail
  refine (HF2.out _).mono ?_
  rintro e w1 ⟨rfl, rfl⟩
  clear HF2
  go_wp2_with fail
  refine (HR1.out _ HN.out).mono ?_
  rintro e w2 ⟨rfl, hb⟩
  replace HN := Lib.hid (HN.out.below hb)
  replace HM := Lib.hid (HM.out.below hb)
  replace HB := Lib.hid (HB.out.trans (hb.mono HB.out.size))
  clear hb HR1
  go_wp2_with fail
  refine (HR2.out _ HM.out).mono ?_
  rintro e w3 ⟨rfl, hb⟩
  replace HN := Lib.hid (HN.out.below hb)
  replace HM := Lib.hid (HM.out.below hb)
  replace HB := Lib.hid (HB.out.trans (hb.mono HB.out.size))
  clear hb HR2
  have hw3 := HB.out.size
  have hown0 := owns_empty w3 w3.heap.size (Nat.le_refl _)
  have hnews := nodes_news (HN.out.alloc (.cells #[] 34))
  have BW : Below w3.heap.size w3 (w3.alloc (.cells #[] 34)) := (Below.refl _ _).alloc (Nat.le_refl _) _
  go_wp2_with (at_builtin
               first
               | (refine wpList_append_own _ rfl _ _ 22 rfl w3.heap.size 34 i0 (.agg #[.int .i64 0, .int .i64 0, .int .i64 0, .int .i64 0, .int .u64 0, .int .u64 0, .int .u64 0, .int .u64 0]) 8 64 Tryd.underlying22 hinf hz0 hz1 hz2 rfl (by decide) _ 0 [] rfl hown0 ⟨g, off, none⟩ l.length cap (ndCells l) rfl (ndCells_len l) hnews (ndCells_one l) (by unfold maxLen; omega) (by omega) BW.size ?_
                  intro v1 w4 hown1 hgrow1 _
                  rw [Nat.zero_add, List.nil_append] at hown1
                  have BW4 := BW.grown hgrow1 BW.size (fun b hb => (hown0.lt b hb).1)
                  clear hown0 hnews BW hgrow1
                  have HO1 := Lib.hid hown1)
               | (refine wpList_append_own _ rfl _ _ 22 rfl w3.heap.size 34 i0 (.agg #[.int .i64 0, .int .i64 0, .int .i64 0, .int .i64 0, .int .u64 0, .int .u64 0, .int .u64 0, .int .u64 0]) 8 64 Tryd.underlying22 hinf hz0 hz1 hz2 rfl (by decide) _ l.length (ndCells l) rfl (HO1.out.alloc _) ⟨w4.heap.size, 0, none⟩ 1 1 [.int .i64 3, .int .i64 1, .int .i64 0, .int .i64 0, .int .u64 0, .int .u64 0, .int .u64 0, .int .u64 0] rfl rfl (Blk.new w4 _ _).newsL (by simp [Value.oneCell']) (by unfold maxLen; omega) (by omega) (by have := BW4.size; simp; omega) ?_
                  intro v2 w5 hown2 hgrow2 _
                  have hown3 : w5.ownsRow w3.heap.size 34 8 v2 (l ++ [ndG]).length (ndCells (l ++ [ndG])) := by
                    rw [ndCells_app, ndG_cells, List.length_append]; exact hown2
                  have BW5 := (BW4.alloc BW4.size _).grown hgrow2 (by have := BW4.size; simp; omega) (fun b hb => (HO1.out.lt b hb).1)
                  obtain ⟨g2, cap2, hv2, _, hng⟩ := nodes_of_owns hown3 (by simp)
                  rw [List.length_append, show ([ndG] : List NdN).length = 1 from rfl] at hv2
                  subst hv2
                  have HG := Lib.hid hng
                  replace HN := Lib.hid (HN.out.below BW5)
                  replace HM := Lib.hid (HM.out.below BW5)
                  replace HB := Lib.hid (HB.out.trans (BW5.mono HB.out.size))
                  clear hown2 hown3 hgrow2 hng BW4 BW5 HO1))
  refine (HN1.out _ HN.out).mono ?_
  rintro e w6 ⟨ba, ka, rfl, hia, hb⟩
  replace HN := Lib.hid (HN.out.below hb)
  replace HM := Lib.hid (HM.out.below hb)
  replace HG := Lib.hid (HG.out.below hb)
  replace HB := Lib.hid (HB.out.trans (hb.mono HB.out.size))
  have HA := Lib.hid hia.o
  clear hb hia HN1
  go_wp2_with fail
  refine (HN2.out _ _ _ HG.out).mono ?_
  rintro e w7 ⟨bb, kb, rfl, hib, hb⟩
  replace HN := Lib.hid (HN.out.below hb)
  replace HM := Lib.hid (HM.out.below hb)
  replace HG := Lib.hid (HG.out.below hb)
  replace HA := Lib.hid (HA.out.below hb)
  replace HB := Lib.hid (HB.out.trans (hb.mono HB.out.size))
  have HE := Lib.hid hib.o
  clear hb hib HN2
  obtain ⟨ga, oa, rfl, hga, hca⟩ := HA.out (by intro h; have := HNL.out; rw [h] at this; simp at this; omega)
  obtain ⟨gb, ob, rfl, hgb, hcb⟩ := HE.out (by intro h; have := HNGL.out; rw [h] at this; simp at this)
  have hca2 : ∀ (W : World), Below w7.heap.size w7 W → ∀ i, i < l.length → W.cell? ⟨ga, oa + i, none⟩ = some (.int .i64 ((numsR l).getD i 0)) := fun W hW i hi => by
    have hi' : i < (numsR l).length := by rw [HNL.out]; exact hi
    rw [List.getD_eq_getElem?_getD, List.getElem?_eq_getElem hi', Option.getD_some]
    exact (hW.cell (p := ⟨ga, oa + i, none⟩) hga).trans (hca i hi')
  have hcb2 : ∀ (W : World), Below w7.heap.size w7 W → ∀ i, i < l.length + 1 → W.cell? ⟨gb, ob + i, none⟩ = some (.int .i64 ((numsR (l ++ [ndG])).getD i 0)) := fun W hW i hi => by
    have hi' : i < (numsR (l ++ [ndG])).length := by rw [HNGL.out]; exact hi
    rw [List.getD_eq_getElem?_getD, List.getElem?_eq_getElem hi', Option.getD_some]
    exact (hW.cell (p := ⟨gb, ob + i, none⟩) hgb).trans (hcb i hi')
  have HCA := Lib.hid hca2
  have HCB := Lib.hid hcb2
  have cbn := HCB.out w7 (Below.refl _ _) l.length (by omega)
  rw [HNG2.out] at cbn
  have hln1 : l.length < l.length + 1 := by omega
  have hlnd : decide (l.length < l.length + 1) = true := decide_eq_true hln1
  clear hca2 hcb2 hca hcb HA HE HNL HNGL HNG2 hgb hga
  have HLC := Lib.hid (show ∀ (W : World), Below w7.heap.size w7 W → ∀ i (h : i < l.length), W.cell? ⟨g, off + i * 8, none⟩ = some (.int .i64 (kdN l i)) from fun W hW i h => by
    obtain ⟨g', o', e, h1, h2⟩ := HN.out.below hW hnel
    cases e
    rw [HKL.out i h]
    exact h2 i h 0 (by decide))
  have HMC := Lib.hid (show ∀ (W : World), Below w7.heap.size w7 W → ∀ i (h : i < m.length), W.cell? ⟨gm, offm + i * 8, none⟩ = some (.int .i64 (kdN m i)) from fun W hW i h => by
    obtain ⟨g', o', e, h1, h2⟩ := HM.out.below hW hnem
    cases e
    rw [HKM.out i h]
    exact h2 i h 0 (by decide))
  clear HKL HKM hg hgm
  go_wp2_with fail
  clear cbn
  go_loopw [8, 10] (fun v x wr => ∃ i : Nat, i ≤ l.length ∧ x = .int .i64 i ∧ v = .int .i64 (grpN l i : Nat) ∧ Below w7.heap.size w7 wr) (fun _ x _ => l.length - (intOf x).toNat)
  case atStart => exact ⟨0, Nat.zero_le _, rfl, rfl, Below.refl _ _⟩
  case round =>
    obtain ⟨i, hi, rfl, rfl, hB⟩ := hrel
    have HBW := Lib.hid hB
    clear hB
    by_cases hlt : i < l.length
    · have hd : decide ((i : Int) < (l.length : Int)) = true := by rw [decide_eq_true_iff]; omega
      have hd2 : decide (i < l.length) = true := by rw [decide_eq_true_iff]; omega
      have ck := HLC.out _ HBW.out i hlt
      have ca := HCA.out _ HBW.out i hlt
      have cb := HCB.out _ HBW.out i (by omega)
      have hlt1 : i < l.length + 1 := by omega
      have hltd : decide (i < l.length + 1) = true := decide_eq_true hlt1
      have hg3 := HNG3.out i hlt
      have hgs := HGSL.out i
      have hgl := HGLL.out i
      have hnle : (numsR l).getD i 0 ≤ 1000000 ∧ 0 ≤ (numsR l).getD i 0 := nums_bound l i hl6
      generalize hkk : kdN l i = kd at *
      generalize hgi : grpN l i = gi at *
      have xi1 : IntKind.i64.wrap ((i : Int) + 1) = (i : Int) + 1 := IntWalk.i64_in _ (by omega)
      have xg1 : IntKind.i64.wrap ((gi : Int) + 1) = (gi : Int) + 1 := IntWalk.i64_in _ (by omega)
      have HGSS := Lib.hid hgs
      clear hgs hkk hgi
      by_cases h3 : kd = 3
      · have hq := hg3 h3
        rw [hq] at cb
        have qb : (kd == 3) = true := by rw [h3]; rfl
        generalize (numsR l).getD i 0 = nu at *
        have xn : IntKind.i64.wrap (nu + 1) = nu + 1 := IntWalk.i64_in _ (by omega)
        have h0 : SGr wr.drew ga oa gb ob i nu (nu + 1) wr.drew := ⟨⟨ca, cb⟩, rfl⟩
        replace HBW : Hid (Below w7.heap.size w7 wr.drew) := Lib.hid HBW.out.drew
        clear ca cb hg3 hq
        have hin : ¬ (l.length : Int) + 1 ≤ (i : Int) := by omega
        go_upto_region 13 with fail
        refine region_steps (S := SGr wr.drew ga oa gb ob i nu (nu + 1)) (by kernel_rfl) h0 ?_
        clear h0 ck
        simp only [List.size_toArray, List.length_cons, List.length_nil, Nat.reduceAdd, Array.replicate_succ, Array.replicate_zero, List.push_toArray, List.nil_append, List.cons_append]
        refine AnyS.stepE (i := 0) (d := some 77) rfl rfl (by kernel_rfl) (by kernel_rfl) (by kernel_rfl) ?_
        apply Exists.intro
        apply And.intro
        · apply StepsIf.yield
          · kernel_rfl
          intro w' hS
          clear hS; go_simp
          rfl
        intro a' ha'
        simp only [Act.put, List.setIfInBounds_toArray, List.set_cons_zero, List.set_cons_succ] at ha'
        subst ha'
        refine AnyS.stepE (i := 1) (d := some 78) rfl rfl (by kernel_rfl) (by kernel_rfl) (by kernel_rfl) ?_
        apply Exists.intro
        apply And.intro
        · apply StepsIf.yield
          · kernel_rfl
          intro w' hS
          clear hS; go_simp
          rfl
        intro a' ha'
        simp only [Act.put, List.setIfInBounds_toArray, List.set_cons_zero, List.set_cons_succ] at ha'
        subst ha'
        refine AnyS.next (i := 2) (d := some 79) (v := .pointer (some ⟨gb, ob + i, none⟩)) rfl rfl (by kernel_rfl) (by kernel_rfl) (by kernel_rfl) (StepsIf.yield (by kernel_rfl) (fun w' hS => by clear hS; go_simp)) ?_
        intro a' ha'
        simp only [Act.put, List.setIfInBounds_toArray, List.set_cons_zero, List.set_cons_succ] at ha'
        subst ha'
        refine AnyS.next (i := 3) (d := some 80) (v := .int .i64 (nu + 1)) rfl rfl (by kernel_rfl) (by kernel_rfl) (by kernel_rfl) (StepsIf.yield (by kernel_rfl) (fun w' hS => by have s := hS.1.2; clear hS; go_simp)) ?_
        intro a' ha'
        simp only [Act.put, List.setIfInBounds_toArray, List.set_cons_zero, List.set_cons_succ] at ha'
        subst ha'
        refine AnyS.stepE (i := 4) (d := some 81) rfl rfl (by kernel_rfl) (by kernel_rfl) (by kernel_rfl) ?_
        apply Exists.intro
        apply And.intro
        · apply StepsIf.yield
          · kernel_rfl
          intro w' hS
          clear hS; go_simp
          rfl
        intro a' ha'
        simp only [Act.put, List.setIfInBounds_toArray, List.set_cons_zero, List.set_cons_succ] at ha'
        subst ha'
        refine AnyS.stepE (i := 5) (d := some 82) rfl rfl (by kernel_rfl) (by kernel_rfl) (by kernel_rfl) ?_
        apply Exists.intro
        apply And.intro
        · apply StepsIf.yield
          · kernel_rfl
          intro w' hS
          clear hS; go_simp
          rfl
        intro a' ha'
        simp only [Act.put, List.setIfInBounds_toArray, List.set_cons_zero, List.set_cons_succ] at ha'
        subst ha'
        refine AnyS.next (i := 6) (d := some 83) (v := .pointer (some ⟨ga, oa + i, none⟩)) rfl rfl (by kernel_rfl) (by kernel_rfl) (by kernel_rfl) (StepsIf.yield (by kernel_rfl) (fun w' hS => by clear hS; go_simp)) ?_
        intro a' ha'
        simp only [Act.put, List.setIfInBounds_toArray, List.set_cons_zero, List.set_cons_succ] at ha'
        subst ha'
        refine AnyS.next (i := 7) (d := some 84) (v := .int .i64 nu) rfl rfl (by kernel_rfl) (by kernel_rfl) (by kernel_rfl) (StepsIf.yield (by kernel_rfl) (fun w' hS => by have s := hS.1.1; clear hS; go_simp)) ?_
        intro a' ha'
        simp only [Act.put, List.setIfInBounds_toArray, List.set_cons_zero, List.set_cons_succ] at ha'
        subst ha'
        refine AnyS.next (i := 8) (d := some 85) (v := .int .i64 (nu + 1)) rfl rfl (by kernel_rfl) (by kernel_rfl) (by kernel_rfl) (StepsIf.yield (by kernel_rfl) (fun w' hS => by clear hS; go_simp)) ?_
        intro a' ha'
        simp only [Act.put, List.setIfInBounds_toArray, List.set_cons_zero, List.set_cons_succ] at ha'
        subst ha'
        refine AnyS.next (i := 9) (d := some 86) (v := .bool false) rfl rfl (by kernel_rfl) (by kernel_rfl) (by kernel_rfl) (StepsIf.yield (by kernel_rfl) (fun w' hS => by clear hS; go_simp)) ?_
        intro a' ha'
        simp only [Act.put, List.setIfInBounds_toArray, List.set_cons_zero, List.set_cons_succ] at ha'
        subst ha'
        refine AnyS.done (by kernel_rfl) (fun w8 hS => ?_) _
        obtain ⟨_, rfl⟩ := hS
        generalize wr.drew = w9 at *
        go_wp2_with fail
        go_roundw
        case rel => exact ⟨i + 1, by omega, by simp, by rw [HGSS.out, qb, if_pos rfl]; rfl, HBW.out⟩
        case measure => simp [intOf]; omega
      · have qb : (kd == 3) = false := by rw [beq_eq_false_iff_ne]; exact h3
        clear ca cb hg3
        go_wp2_with fail
        go_roundw
        case rel => exact ⟨i + 1, by omega, by simp, by rw [HGSS.out, qb]; rfl, HBW.out⟩
        case measure => simp [intOf]; omega
    · obtain rfl : i = l.length := by omega
      have hd : decide ((l.length : Int) < (l.length : Int)) = false := by simp
      have hd2 : decide (l.length < l.length) = false := by simp
      replace HG := Lib.hid (HG.out.below HBW.out)
      replace HN := Lib.hid (HN.out.below HBW.out)
      replace HM := Lib.hid (HM.out.below HBW.out)
      replace HB := Lib.hid (HB.out.trans (HBW.out.mono HB.out.size))
      have HLC2 := Lib.hid (HLC.out _ HBW.out)
      have HMC2 := Lib.hid (HMC.out _ HBW.out)
      have hglN := HGLL.out l.length
      clear HLC HMC HBW HCA HCB HNG3 HGSL HGLL
      generalize hG : grpN l l.length = G at *
      go_wp2_with fail
      go_loop [9, 11] (fun v x => ∃ i : Nat, i ≤ m.length ∧ x = .int .i64 i ∧ v = .int .i64 (grpN m i : Nat)) (fun _ x => m.length - (intOf x).toNat)
      case atStart => exact ⟨0, Nat.zero_le _, rfl, rfl⟩
      case round =>
        obtain ⟨i, hi, rfl, rfl⟩ := hrel
        by_cases hlt : i < m.length
        · have hd3 : decide ((i : Int) < (m.length : Int)) = true := by rw [decide_eq_true_iff]; omega
          have hd4 : decide (i < m.length) = true := by rw [decide_eq_true_iff]; omega
          have ck := HMC2.out i hlt
          have hgs := HGSM.out i
          have hgl := HGLM.out i
          generalize hkk : kdN m i = kd at *
          generalize hgi : grpN m i = gi at *
          have xi1 : IntKind.i64.wrap ((i : Int) + 1) = (i : Int) + 1 := IntWalk.i64_in _ (by omega)
          have xg1 : IntKind.i64.wrap ((gi : Int) + 1) = (gi : Int) + 1 := IntWalk.i64_in _ (by omega)
          have HGSS := Lib.hid hgs
          clear hgs hkk hgi
          by_cases h3 : kd = 3
          · have qb : (kd == 3) = true := by rw [h3]; rfl
            go_wp2_with fail
            go_round
            case rel => exact ⟨i + 1, by omega, by simp, by rw [HGSS.out, qb, if_pos rfl]; rfl⟩
            case measure => simp [intOf]; omega
          · have qb : (kd == 3) = false := by rw [beq_eq_false_iff_ne]; exact h3
            go_wp2_with fail
            go_round
            case rel => exact ⟨i + 1, by omega, by simp, by rw [HGSS.out, qb]; rfl⟩
            case measure => simp [intOf]; omega
        · obtain rfl : i = m.length := by omega
          have hd3 : decide ((m.length : Int) < (m.length : Int)) = false := by simp
          have hd4 : decide (m.length < m.length) = false := by simp
          have hgmN := HGLM.out m.length
          generalize hGm : grpN m m.length = Gm at *
          obtain ⟨Ml, hMl⟩ : ∃ Ml, Ml + 1 = l.length := ⟨l.length - 1, by omega⟩
          obtain ⟨Mm, hMm⟩ : ∃ Mm, Mm + 1 = m.length := ⟨m.length - 1, by omega⟩
          rw [show l.length - 1 = Ml by omega, show m.length - 1 = Mm by omega] at HG2
          have hMll : Ml < l.length := by omega
          have hMmm : Mm < m.length := by omega
          have hMld : decide (Ml < l.length) = true := decide_eq_true hMll
          have hMmd : decide (Mm < m.length) = true := decide_eq_true hMmm
          have xMl : IntKind.i64.wrap ((l.length : Int) - 1) = (Ml : Int) := by rw [IntWalk.i64_in _ (by omega)]; omega
          have xMm : IntKind.i64.wrap ((m.length : Int) - 1) = (Mm : Int) := by rw [IntWalk.i64_in _ (by omega)]; omega
          have cl := HLC2.out Ml hMll
          have cm := HMC2.out Mm hMmm
          have hgw := (HN.out hnel)
          obtain ⟨g', o', e, hgw, _⟩ := hgw
          cases e
          have hgmw := (HM.out hnem)
          obtain ⟨g', o', e, hgmw, _⟩ := hgmw
          cases e
          generalize hkl : kdN l Ml = kl at *
          generalize hkm : kdN m Mm = km at *
          have hown0 := owns_empty wr wr.heap.size (Nat.le_refl _)
          have hnews := nodes_news (HN.out.alloc (.cells #[] 34))
          have BW : Below wr.heap.size wr (wr.alloc (.cells #[] 34)) := (Below.refl _ _).alloc (Nat.le_refl _) _
          clear HLC2 HMC2 HGSM HGLM hkl hkm hG hGm
          generalize hd1 : decide (G < 9) = d1 at *
          have q1 : decide ((G : Int) < 9) = d1 := by rw [← hd1, Bool.eq_iff_iff, decide_eq_true_iff, decide_eq_true_iff]; omega
          have q1e : (d1 == d1) = true := by simp
          have xgg : IntKind.i64.wrap ((G : Int) + (Gm : Int)) = (G : Int) + (Gm : Int) := IntWalk.i64_in _ (by omega)
          generalize hd2 : decide (G + Gm ≤ 9) = d2 at *
          have q2 : decide ((G : Int) + (Gm : Int) ≤ 9) = d2 := by rw [← hd2, Bool.eq_iff_iff, decide_eq_true_iff, decide_eq_true_iff]; omega
          have q2e : (d2 == d2) = true := by simp
          clear hd1 hd2 hglN hgmN
          cases hb1 : (kl != 6) with
          | false =>
            rw [hb1, Bool.false_and, Bool.false_and] at HG2
            go_wp2_with (at_builtin
                         first
                         | (refine wpList_append_own _ rfl _ _ 22 rfl wr.heap.size 34 i0 (.agg #[.int .i64 0, .int .i64 0, .int .i64 0, .int .i64 0, .int .u64 0, .int .u64 0, .int .u64 0, .int .u64 0]) 8 64 Tryd.underlying22 hinf hz0 hz1 hz2 rfl (by decide) _ 0 [] rfl hown0 ⟨g, off, none⟩ l.length cap (ndCells l) rfl (ndCells_len l) hnews (ndCells_one l) (by unfold maxLen; omega) (by omega) BW.size ?_
                            intro v1 w10 hown1 hgrow1 _
                            rw [Nat.zero_add, List.nil_append] at hown1
                            have BW4 := BW.grown hgrow1 BW.size (fun b hb => (hown0.lt b hb).1)
                            have hnewm := nodes_news (HM.out.below BW4)
                            clear hown0 hnews BW hgrow1
                            have HO1 := Lib.hid hown1)
                         | (refine wpList_append_own _ rfl _ _ 22 rfl wr.heap.size 34 i0 (.agg #[.int .i64 0, .int .i64 0, .int .i64 0, .int .i64 0, .int .u64 0, .int .u64 0, .int .u64 0, .int .u64 0]) 8 64 Tryd.underlying22 hinf hz0 hz1 hz2 rfl (by decide) _ l.length (ndCells l) rfl HO1.out ⟨gm, offm, none⟩ m.length capm (ndCells m) rfl (ndCells_len m) hnewm (ndCells_one m) (by unfold maxLen; omega) (by omega) BW4.size ?_
                            intro v2 w11 hown2 hgrow2 _
                            have BW5 := BW4.grown hgrow2 BW4.size (fun b hb => (HO1.out.lt b hb).1)
                            clear hnewm HO1 BW4 hgrow2
                            have HO2 := Lib.hid hown2)
                         | (refine wpList_append_own _ rfl _ _ 22 rfl wr.heap.size 34 i0 (.agg #[.int .i64 0, .int .i64 0, .int .i64 0, .int .i64 0, .int .u64 0, .int .u64 0, .int .u64 0, .int .u64 0]) 8 64 Tryd.underlying22 hinf hz0 hz1 hz2 rfl (by decide) _ (l.length + m.length) (ndCells l ++ ndCells m) rfl (HO2.out.alloc _) ⟨w11.heap.size, 0, none⟩ 1 1 [.int .i64 6, .int .i64 2, .int .i64 0, .int .i64 0, .int .u64 0, .int .u64 0, .int .u64 0, .int .u64 0] rfl rfl (Blk.new w11 _ _).newsL (by simp [Value.oneCell']) (by unfold maxLen; omega) (by omega) (by have := BW5.size; simp; omega) ?_
                            intro v3 w12 hown3 hgrow3 _
                            have hown4 : w12.ownsRow wr.heap.size 34 8 v3 (l ++ m ++ [ndL]).length (ndCells (l ++ m ++ [ndL])) := by
                              rw [ndCells_app, ndCells_app, ndL_cells, List.length_append, List.length_append]; exact hown3
                            have BW6 := (BW5.alloc BW5.size _).grown hgrow3 (by have := BW5.size; simp; omega) (fun b hb => (HO2.out.lt b hb).1)
                            obtain ⟨g3, cap3, hv3, _, hnt⟩ := nodes_of_owns hown4 (by simp)
                            rw [List.length_append, List.length_append, show ([ndL] : List NdN).length = 1 from rfl] at hv3
                            subst hv3
                            have HTW := Lib.hid hnt
                            replace HG := Lib.hid (HG.out.below BW6)
                            replace HB := Lib.hid (HB.out.trans (BW6.mono HB.out.size))
                            replace cl := (BW6.cell (p := ⟨g, off + Ml * 8, none⟩) hgw).trans cl
                            replace cm := (BW6.cell (p := ⟨gm, offm + Mm * 8, none⟩) hgmw).trans cm
                            clear hown3 hown4 hgrow3 hnt BW5 BW6 HO2))
            refine (HG1.out _ _ _ HG.out).mono ?_
            rintro e w13 ⟨rfl, hb⟩
            replace HTW := Lib.hid (HTW.out.below hb)
            replace HB := Lib.hid (HB.out.trans (hb.mono HB.out.size))
            clear hb HG1 HG
            go_wp2_with fail
            refine (HG2.out _ _ _ HTW.out).mono ?_
            rintro e w14 ⟨rfl, hb⟩
            replace HB := Lib.hid (HB.out.trans (hb.mono HB.out.size))
            clear hb HG2 HTW
            go_wp2_with fail
            refine (HSU.out _).mono ?_
            rintro e wz ⟨rfl, hb⟩
            have hBB := HB.out.trans (hb.mono HB.out.size)
            clear HSU hb
            go_wp2_with fail
            go_ret
            exact ⟨rfl, hBB⟩
          | true =>
            cases hb2 : (km != 6) with
            | false =>
              rw [hb1, hb2, Bool.true_and, Bool.false_and] at HG2
              go_wp2_with (at_builtin
                           first
                           | (refine wpList_append_own _ rfl _ _ 22 rfl wr.heap.size 34 i0 (.agg #[.int .i64 0, .int .i64 0, .int .i64 0, .int .i64 0, .int .u64 0, .int .u64 0, .int .u64 0, .int .u64 0]) 8 64 Tryd.underlying22 hinf hz0 hz1 hz2 rfl (by decide) _ 0 [] rfl hown0 ⟨g, off, none⟩ l.length cap (ndCells l) rfl (ndCells_len l) hnews (ndCells_one l) (by unfold maxLen; omega) (by omega) BW.size ?_
                              intro v1 w10 hown1 hgrow1 _
                              rw [Nat.zero_add, List.nil_append] at hown1
                              have BW4 := BW.grown hgrow1 BW.size (fun b hb => (hown0.lt b hb).1)
                              have hnewm := nodes_news (HM.out.below BW4)
                              clear hown0 hnews BW hgrow1
                              have HO1 := Lib.hid hown1)
                           | (refine wpList_append_own _ rfl _ _ 22 rfl wr.heap.size 34 i0 (.agg #[.int .i64 0, .int .i64 0, .int .i64 0, .int .i64 0, .int .u64 0, .int .u64 0, .int .u64 0, .int .u64 0]) 8 64 Tryd.underlying22 hinf hz0 hz1 hz2 rfl (by decide) _ l.length (ndCells l) rfl HO1.out ⟨gm, offm, none⟩ m.length capm (ndCells m) rfl (ndCells_len m) hnewm (ndCells_one m) (by unfold maxLen; omega) (by omega) BW4.size ?_
                              intro v2 w11 hown2 hgrow2 _
                              have BW5 := BW4.grown hgrow2 BW4.size (fun b hb => (HO1.out.lt b hb).1)
                              clear hnewm HO1 BW4 hgrow2
                              have HO2 := Lib.hid hown2)
                           | (refine wpList_append_own _ rfl _ _ 22 rfl wr.heap.size 34 i0 (.agg #[.int .i64 0, .int .i64 0, .int .i64 0, .int .i64 0, .int .u64 0, .int .u64 0, .int .u64 0, .int .u64 0]) 8 64 Tryd.underlying22 hinf hz0 hz1 hz2 rfl (by decide) _ (l.length + m.length) (ndCells l ++ ndCells m) rfl (HO2.out.alloc _) ⟨w11.heap.size, 0, none⟩ 1 1 [.int .i64 6, .int .i64 2, .int .i64 0, .int .i64 0, .int .u64 0, .int .u64 0, .int .u64 0, .int .u64 0] rfl rfl (Blk.new w11 _ _).newsL (by simp [Value.oneCell']) (by unfold maxLen; omega) (by omega) (by have := BW5.size; simp; omega) ?_
                              intro v3 w12 hown3 hgrow3 _
                              have hown4 : w12.ownsRow wr.heap.size 34 8 v3 (l ++ m ++ [ndL]).length (ndCells (l ++ m ++ [ndL])) := by
                                rw [ndCells_app, ndCells_app, ndL_cells, List.length_append, List.length_append]; exact hown3
                              have BW6 := (BW5.alloc BW5.size _).grown hgrow3 (by have := BW5.size; simp; omega) (fun b hb => (HO2.out.lt b hb).1)
                              obtain ⟨g3, cap3, hv3, _, hnt⟩ := nodes_of_owns hown4 (by simp)
                              rw [List.length_append, List.length_append, show ([ndL] : List NdN).length = 1 from rfl] at hv3
                              subst hv3
                              have HTW := Lib.hid hnt
                              replace HG := Lib.hid (HG.out.below BW6)
                              replace HB := Lib.hid (HB.out.trans (BW6.mono HB.out.size))
                              replace cl := (BW6.cell (p := ⟨g, off + Ml * 8, none⟩) hgw).trans cl
                              replace cm := (BW6.cell (p := ⟨gm, offm + Mm * 8, none⟩) hgmw).trans cm
                              clear hown3 hown4 hgrow3 hnt BW5 BW6 HO2))
              refine (HG1.out _ _ _ HG.out).mono ?_
              rintro e w13 ⟨rfl, hb⟩
              replace HTW := Lib.hid (HTW.out.below hb)
              replace HB := Lib.hid (HB.out.trans (hb.mono HB.out.size))
              clear hb HG1 HG
              go_wp2_with fail
              refine (HG2.out _ _ _ HTW.out).mono ?_
              rintro e w14 ⟨rfl, hb⟩
              replace HB := Lib.hid (HB.out.trans (hb.mono HB.out.size))
              clear hb HG2 HTW
              go_wp2_with fail
              refine (HSU.out _).mono ?_
              rintro e wz ⟨rfl, hb⟩
              have hBB := HB.out.trans (hb.mono HB.out.size)
              clear HSU hb
              go_wp2_with fail
              go_ret
              exact ⟨rfl, hBB⟩
            | true =>
              rw [hb1, hb2, Bool.true_and, Bool.true_and] at HG2
              go_wp2_with (at_builtin
                           first
                           | (refine wpList_append_own _ rfl _ _ 22 rfl wr.heap.size 34 i0 (.agg #[.int .i64 0, .int .i64 0, .int .i64 0, .int .i64 0, .int .u64 0, .int .u64 0, .int .u64 0, .int .u64 0]) 8 64 Tryd.underlying22 hinf hz0 hz1 hz2 rfl (by decide) _ 0 [] rfl hown0 ⟨g, off, none⟩ l.length cap (ndCells l) rfl (ndCells_len l) hnews (ndCells_one l) (by unfold maxLen; omega) (by omega) BW.size ?_
                              intro v1 w10 hown1 hgrow1 _
                              rw [Nat.zero_add, List.nil_append] at hown1
                              have BW4 := BW.grown hgrow1 BW.size (fun b hb => (hown0.lt b hb).1)
                              have hnewm := nodes_news (HM.out.below BW4)
                              clear hown0 hnews BW hgrow1
                              have HO1 := Lib.hid hown1)
                           | (refine wpList_append_own _ rfl _ _ 22 rfl wr.heap.size 34 i0 (.agg #[.int .i64 0, .int .i64 0, .int .i64 0, .int .i64 0, .int .u64 0, .int .u64 0, .int .u64 0, .int .u64 0]) 8 64 Tryd.underlying22 hinf hz0 hz1 hz2 rfl (by decide) _ l.length (ndCells l) rfl HO1.out ⟨gm, offm, none⟩ m.length capm (ndCells m) rfl (ndCells_len m) hnewm (ndCells_one m) (by unfold maxLen; omega) (by omega) BW4.size ?_
                              intro v2 w11 hown2 hgrow2 _
                              have BW5 := BW4.grown hgrow2 BW4.size (fun b hb => (HO1.out.lt b hb).1)
                              clear hnewm HO1 BW4 hgrow2
                              have HO2 := Lib.hid hown2)
                           | (refine wpList_append_own _ rfl _ _ 22 rfl wr.heap.size 34 i0 (.agg #[.int .i64 0, .int .i64 0, .int .i64 0, .int .i64 0, .int .u64 0, .int .u64 0, .int .u64 0, .int .u64 0]) 8 64 Tryd.underlying22 hinf hz0 hz1 hz2 rfl (by decide) _ (l.length + m.length) (ndCells l ++ ndCells m) rfl (HO2.out.alloc _) ⟨w11.heap.size, 0, none⟩ 1 1 [.int .i64 6, .int .i64 2, .int .i64 0, .int .i64 0, .int .u64 0, .int .u64 0, .int .u64 0, .int .u64 0] rfl rfl (Blk.new w11 _ _).newsL (by simp [Value.oneCell']) (by unfold maxLen; omega) (by omega) (by have := BW5.size; simp; omega) ?_
                              intro v3 w12 hown3 hgrow3 _
                              have hown4 : w12.ownsRow wr.heap.size 34 8 v3 (l ++ m ++ [ndL]).length (ndCells (l ++ m ++ [ndL])) := by
                                rw [ndCells_app, ndCells_app, ndL_cells, List.length_append, List.length_append]; exact hown3
                              have BW6 := (BW5.alloc BW5.size _).grown hgrow3 (by have := BW5.size; simp; omega) (fun b hb => (HO2.out.lt b hb).1)
                              obtain ⟨g3, cap3, hv3, _, hnt⟩ := nodes_of_owns hown4 (by simp)
                              rw [List.length_append, List.length_append, show ([ndL] : List NdN).length = 1 from rfl] at hv3
                              subst hv3
                              have HTW := Lib.hid hnt
                              replace HG := Lib.hid (HG.out.below BW6)
                              replace HB := Lib.hid (HB.out.trans (BW6.mono HB.out.size))
                              replace cl := (BW6.cell (p := ⟨g, off + Ml * 8, none⟩) hgw).trans cl
                              replace cm := (BW6.cell (p := ⟨gm, offm + Mm * 8, none⟩) hgmw).trans cm
                              clear hown3 hown4 hgrow3 hnt BW5 BW6 HO2))
              refine (HG1.out _ _ _ HG.out).mono ?_
              rintro e w13 ⟨rfl, hb⟩
              replace HTW := Lib.hid (HTW.out.below hb)
              replace HB := Lib.hid (HB.out.trans (hb.mono HB.out.size))
              clear hb HG1 HG
              go_wp2_with fail
              refine (HG2.out _ _ _ HTW.out).mono ?_
              rintro e w14 ⟨rfl, hb⟩
              replace HB := Lib.hid (HB.out.trans (hb.mono HB.out.size))
              clear hb HG2 HTW
              go_wp2_with fail
              refine (HSU.out _).mono ?_
              rintro e wz ⟨rfl, hb⟩
              have hBB := HB.out.trans (hb.mono HB.out.size)
              clear HSU hb
              go_wp2_with fail
              go_ret
              exact ⟨rfl, hBB⟩
end Go.Proofs.YtjgokhhpfgnceaaDoor

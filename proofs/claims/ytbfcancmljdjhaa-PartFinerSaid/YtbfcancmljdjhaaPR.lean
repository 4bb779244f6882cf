/- Texts put together: Zu. -/
import Derived.Test.YtbfcancmljdjhaaPN
import Derived.Test.YtbfcancmljdjhaaPP
import Derived.Test.YtbfcancmljdjhaaPC
import Derived.Laws.AppendOwn
/- PartFiner. Stage 13. -/
namespace Go.Proofs.Ytbfcancmljdjhaa
open Go.RowKit BS

theorem deps_getF {md : Region.Mode} {ops : Array Oper} {V : Nat → Value → World → Prop} {o oj : Oper} {a : Act} {w : World} {k d : Nat} (h : Deps md ops V o a w) (hk : (o.after.any fun e => Region.binds md e && e.on == k) = true) (hj : ops[k]? = some oj) (hd : oj.dst = some d) : V k (a.tmps.getD d undef) w := by
  simp only [Array.any_eq_true', Bool.and_eq_true, beq_iff_eq] at hk
  obtain ⟨e, he, hb, rfl⟩ := hk
  exact h e he hb oj d hj hd
theorem wp_callZ {P : Program} {o : Oper} {a : Act} {w : World} {f : FuncId} {args : Array Value} {R : Value → World → Prop} {K : Act → World → Prop} {Q : Exit → Act → World → Prop} (h : (execOp a.eval o).run P w = .ok (.enter f args) w)
    (hc : Calls P f args w fun e w' => ∃ v, e = .returned v ∧ R v w') (hK : ∀ v w', R v w' → K (a.put o.dst v) w') : o.wp P a w K Q := by
  unfold Oper.wp
  rw [h]
  refine Calls.mono hc fun e w' he => ?_
  obtain ⟨v, rfl, hR⟩ := he
  exact hK v w' hR
theorem wp_valZ {P : Program} {o : Oper} {a : Act} {w w' : World} {v : Value} {K : Act → World → Prop} {Q : Exit → Act → World → Prop} (h : (execOp a.eval o).run P w = .ok (.value v) w') (hK : K (a.put o.dst v) w') : o.wp P a w K Q := by
  unfold Oper.wp
  rw [h]
  exact hK
theorem OwZ.capF {base : Nat} {a : Option Addr} {c : Nat} {L : List (BitVec 256)} {W : World} (h : OwZ base (.slice a L.length c) L W) : L.length ≤ c := by
  rcases h.2 with ⟨_, h1⟩ | ⟨g, c', cur, e, hb, hg, h3, _⟩
  · omega
  · cases e; exact h3
/-- Behind an empty row of no room: nothing that stood is written. -/
theorem run_appE {base g : Nat} {u : Value} {M : List (BitVec 256)} {W : World} (h : OwZ base (.slice (some ⟨g, 0, none⟩) 0 0) [] W) (r : SetsV M u W) (hn : M.length ≤ 1000000) (hb : base ≤ W.heap.size) (ty : TypeId) :
    ∃ v' W', (Builtin.append_ #[22, 22] ty #[.slice (some ⟨g, 0, none⟩) 0 0, u]).run Try.prog W = .ok v' W' ∧ OwZ base v' M W' ∧ Below W.heap.size W W' := by
  obtain ⟨v', W', hr, ho, _⟩ := run_appS (L := []) h r (by simpa using hn) hb ty
  refine ⟨v', W', hr, ho, ?_⟩
  obtain ⟨i0, hinf, hzz⟩ := Option.map_eq_some_iff.1 infoSet
  simp only [Prod.mk.injEq] at hzz
  obtain ⟨hz0, hz1, hz2⟩ := hzz
  obtain ⟨a, c, rfl, hM, hnone⟩ := r
  by_cases hlen : M.length = 0
  · have hW : ∃ v2, (Builtin.append_ #[22, 22] ty #[.slice (some ⟨g, 0, none⟩) 0 0, .slice a M.length c]).run Try.prog W = .ok v2 W := by
      rw [hlen]
      cases a <;> exact ⟨_, by simp [Builtin.append_, run_underlying Try.underlying22, sizeOf, typeInfo, hinf, Builtin.lenOf, Builtin.firstCells, loadCells, loadCellsFrom, storeCells] <;> rfl⟩
    obtain ⟨v2, hW⟩ := hW
    rw [hW] at hr
    injection hr with _ hww
    rw [← hww]
    exact Below.refl _ _
  · cases a with
    | none => exact absurd (by rw [(hnone rfl).2]; rfl) hlen
    | some ad =>
      obtain ⟨g2, o2, e2, _, hc⟩ := hM (by rintro rfl; exact hlen rfl)
      cases e2
      have hr2 := run_append_grow (P := Try.prog) W 22 ty 38 i0 _ Try.underlying22 hinf hz0 ⟨g, 0, none⟩ 0 0 [] (by simp) (by simp) ⟨g2, o2, none⟩ M.length c (setCells M) (by rw [hz1]; exact setCells_len M) (fun j x hj => by
        have hlt := (List.getElem?_eq_some_iff.1 hj).1
        rw [setCells_len] at hlt
        have e3 : (⟨g2, o2, none⟩ : Addr).add j = ⟨g2, o2 + j, none⟩ := by
          unfold Addr.add
          split
          · subst j; rfl
          · rfl
        have h4 := hc (j / 4) (by omega) (j % 4) (by omega)
        rw [e3, show o2 + j = o2 + j / 4 * 4 + j % 4 by omega, h4, ← setCells_get M (j / 4) (j % 4) (by omega) (by omega), show j / 4 * 4 + j % 4 = j by omega]
        exact hj) (by omega) (by omega) (growslice_fits (by omega) (by rw [hz2]; omega))
      rw [hr2] at hr
      injection hr with _ hww
      rw [← hww]
      exact (Below.refl _ _).drew.alloc (Nat.le_refl _) _
theorem SetsV.two (W : World) (s : BitVec 256) (t : TypeId) : SetsV [s, s] (.slice (some ⟨W.heap.size, 0, none⟩) 2 2) (W.alloc (.cells #[.int .u64 (wd s 0), .int .u64 (wd s 1), .int .u64 (wd s 2), .int .u64 (wd s 3), .int .u64 (wd s 0), .int .u64 (wd s 1), .int .u64 (wd s 2), .int .u64 (wd s 3)] t)) :=
  ⟨_, 2, rfl, fun _ => ⟨W.heap.size, 0, rfl, by simp, fun i hi j hj => by
    have hi' : i < 2 := hi
    rw [Nat.zero_add]
    refine ((Blk.new W _ t).cell _).trans ?_
    obtain rfl | rfl : i = 0 ∨ i = 1 := by omega
    all_goals
      obtain rfl | rfl | rfl | rfl : j = 0 ∨ j = 1 ∨ j = 2 ∨ j = 3 := by omega
      all_goals rfl⟩, fun h => by cases h⟩
def UF1 (a : Value) (n : Nat) (s : Value) : Nat → List Value → Value → Prop
  | 0, _, v => ∃ g : Nat, v = .slice (some ⟨g, 0, none⟩) 0 0
  | 1, _, v => v = a
  | 2, _, v => ∃ b c, v = .slice b n c
  | 3, _, v => v = s
  | 4, _, v => ∃ g : Nat, v = .slice (some ⟨g, 0, none⟩) 1 1
  | _, _, _ => True
def VF1 (B : Nat) (l : List (BitVec 256)) (s : BitVec 256) : Nat → Value → World → Prop
  | 0, v, W => OwZ B v [] W
  | 2, v, W => OwZ B v l W
  | 4, v, W => SetsV [s] v W
  | _, _, _ => True
theorem keepVF1 (B : Nat) (l : List (BitVec 256)) (s : BitVec 256) : ∀ i v w w', Below w.heap.size w w' → VF1 B l s i v w → VF1 B l s i v w' := by
  intro i v w w' hb h
  unfold VF1 at *
  split
  · exact h.below hb
  · exact h.below hb
  · exact h.below hb
  · trivial
def UF2 (a : Value) (n : Nat) (s : Value) : Nat → List Value → Value → Prop
  | 0, _, v => ∃ g : Nat, v = .slice (some ⟨g, 0, none⟩) 0 0
  | 1, _, v => v = a
  | 2, _, v => ∃ b c, v = .slice b n c
  | 3, _, v => v = s
  | 4, _, v => v = s
  | 5, _, v => ∃ g : Nat, v = .slice (some ⟨g, 0, none⟩) 2 2
  | _, _, _ => True
def VF2 (B : Nat) (l : List (BitVec 256)) (s : BitVec 256) : Nat → Value → World → Prop
  | 0, v, W => OwZ B v [] W
  | 2, v, W => OwZ B v l W
  | 5, v, W => SetsV [s, s] v W
  | _, _, _ => True
theorem keepVF2 (B : Nat) (l : List (BitVec 256)) (s : BitVec 256) : ∀ i v w w', Below w.heap.size w w' → VF2 B l s i v w → VF2 B l s i v w' := by
  intro i v w w' hb h
  unfold VF2 at *
  split
  · exact h.below hb
  · exact h.below hb
  · exact h.below hb
  · trivial
theorem fin_cells (l : List (BitVec 256)) (g : Nat) (W : World) (h : IntsO (clI l) (some ⟨g, 0, none⟩) W) (x y : Nat) (hx : x < 256) (hy : y < 256) : (W.cell? ⟨g, x, none⟩ = some (.int .i64 ((numE (alE l) x : Nat) : Int)) ∧ W.cell? ⟨g, y, none⟩ = some (.int .i64 ((numE (alE l) y : Nat) : Int))) ∧ g < W.heap.size := by
  have hl := clI_len l
  obtain ⟨g', o, e, hg, hc⟩ := h (by intro h0; rw [h0] at hl; simp at hl)
  cases e
  have h1 := hc x (by omega)
  have h2 := hc y (by omega)
  rw [Nat.zero_add, clI_get] at h1 h2
  exact ⟨⟨h1, h2⟩, hg⟩
/-- What the last line reads. -/
def SFin (w : World) (x y B g1 ax ay g2 bx by_ : Nat) (s : BitVec 256) (W : World) : Prop :=
  ((W.cell? ⟨g1, x, none⟩ = some (.int .i64 ((ax : Nat) : Int)) ∧ W.cell? ⟨g1, y, none⟩ = some (.int .i64 ((ay : Nat) : Int))) ∧ (W.cell? ⟨g2, x, none⟩ = some (.int .i64 ((bx : Nat) : Int)) ∧ W.cell? ⟨g2, y, none⟩ = some (.int .i64 ((by_ : Nat) : Int))) ∧
    (W.cell? ⟨B, 0, none⟩ = some (.int .u64 (wd s 0)) ∧ W.cell? ⟨B, 1, none⟩ = some (.int .u64 (wd s 1)) ∧ W.cell? ⟨B, 2, none⟩ = some (.int .u64 (wd s 2)) ∧ W.cell? ⟨B, 3, none⟩ = some (.int .u64 (wd s 3)))) ∧
  (g1 < W.heap.size ∧ g2 < W.heap.size ∧ B < W.heap.size) ∧ Below w.heap.size w W
theorem SFin.keep {w : World} {x y B g1 ax ay g2 bx by_ : Nat} {s : BitVec 256} {W W' : World} (h : SFin w x y B g1 ax ay g2 bx by_ s W) (hb : Below W.heap.size W W') : SFin w x y B g1 ax ay g2 bx by_ s W' := by
  obtain ⟨⟨⟨h1, h2⟩, ⟨h3, h4⟩, h5, h6, h7, h8⟩, ⟨k1, k2, k3⟩, hB⟩ := h
  exact ⟨⟨⟨(hb.cell (p := ⟨g1, x, none⟩) k1).trans h1, (hb.cell (p := ⟨g1, y, none⟩) k1).trans h2⟩, ⟨(hb.cell (p := ⟨g2, x, none⟩) k2).trans h3, (hb.cell (p := ⟨g2, y, none⟩) k2).trans h4⟩, (hb.cell (p := ⟨B, 0, none⟩) k3).trans h5, (hb.cell (p := ⟨B, 1, none⟩) k3).trans h6, (hb.cell (p := ⟨B, 2, none⟩) k3).trans h7, (hb.cell (p := ⟨B, 3, none⟩) k3).trans h8⟩,
    ⟨Nat.lt_of_lt_of_le k1 hb.size, Nat.lt_of_lt_of_le k2 hb.size, Nat.lt_of_lt_of_le k3 hb.size⟩, hB.trans (hb.mono hB.size)⟩
theorem SFin.drew {w : World} {x y B g1 ax ay g2 bx by_ : Nat} {s : BitVec 256} {W : World} (h : SFin w x y B g1 ax ay g2 bx by_ s W) : SFin w x y B g1 ax ay g2 bx by_ s W.drew := ⟨h.1, h.2.1, h.2.2.drew⟩
set_option maxRecDepth 100000 in
set_option maxHeartbeats 16000000 in
theorem partFiner_calls (C : PartC) (l : List (BitVec 256)) (hlm : l.length ≤ 9223372036854775807) (a : Option Addr) (cap : Nat) (hcap : l.length ≤ cap) (hnil : a = none → cap = 0 ∧ l = []) (s : BitVec 256) (x y : Nat) (hx : x < 256) (hy : y < 256) (w : World) (h : SetsAt l a w) :
    Calls Try.prog 6 #[.slice a l.length cap, setV s, .agg #[.int .u8 (x : Int), .int .u8 (y : Int)]] w fun e w' => e = .returned (.bool true) ∧ Below w.heap.size w w' := by
  have HSU := Lib.hid (fun (W : World) => sure13_calls C W)
  obtain ⟨W2, hW2⟩ : ∃ W2, W2 = (w.alloc (.cells (setA s) 38)).alloc (.cells #[.int .u8 (x : Int), .int .u8 (y : Int)] 40) := ⟨_, rfl⟩
  have hb2 : Below w.heap.size w W2 := by rw [hW2]; exact ((Below.refl _ _).alloc (Nat.le_refl _) _).alloc (by simp) _
  have hBS : Blk W2 w.heap.size (setA s) 38 := by rw [hW2]; exact (Blk.new w _ _).alloc _
  have hBO : Blk W2 (w.heap.size + 1) #[.int .u8 (x : Int), .int .u8 (y : Int)] 40 := by
    have := Blk.new (w.alloc (.cells (setA s) 38)) #[.int .u8 (x : Int), .int .u8 (y : Int)] 40
    rw [World.size_alloc] at this
    rw [hW2]; exact this
  have HSV0 := Lib.hid (show SetsV l (.slice a l.length cap) w from ⟨a, cap, rfl, h, hnil⟩)
  have HN := Lib.hid h
  have HB := Lib.hid hb2
  have HBS := Lib.hid hBS
  have z0 := hBO.cell 0
  have z1 := hBO.cell 1
  simp only [List.getElem?_toArray, List.getElem?_cons_zero, List.getElem?_cons_succ] at z0 z1
  have HW2 := Lib.hid hW2
  clear h hb2 hBS hBO hnil hW2
  by_cases h5 : 20 < l.length
  · have q1 : decide (20 < l.length) = true := decide_eq_true h5
    have q2 : decide ((20 : Int) < (l.length : Int)) = true := by rw [decide_eq_true_iff]; omega
    clear C h5
    go_enter Try.func6, Try.ntmps6
    go_upto_region 1 with fail
    rw [show (w.alloc (.cells #[.int .u64 (wd s 0), .int .u64 (wd s 1), .int .u64 (wd s 2), .int .u64 (wd s 3)] 38)).alloc (.cells #[.int .u8 (x : Int), .int .u8 (y : Int)] 40) = W2 from HW2.out.symm]
    go_quiet (fail)
    go_wp2_with fail
    refine (HSU.out _).mono ?_
    rintro e wz ⟨rfl, hb⟩
    have HB2 := Lib.hid ((below_drN HB.out nq).trans (hb.mono (below_drN HB.out nq).size))
    go_wp2_with fail
    go_ret
    exact ⟨rfl, HB2.out⟩
  have q1 : decide (20 < l.length) = false := decide_eq_false h5
  have q2 : decide ((20 : Int) < (l.length : Int)) = false := by rw [decide_eq_false_iff_not]; omega
  have HO1 := Lib.hid (fun W h => C.of_ l (by omega) a cap hcap W h)
  have HOF1 := Lib.hid (show ∀ b c, (l ++ [s]).length ≤ c → ∀ W, SetsAt (l ++ [s]) b W → Calls Try.prog 8 #[.slice b (l ++ [s]).length c] W fun e w' => ∃ v, e = .returned v ∧ (∃ g, v = .tuple #[.slice (some ⟨g, 0, none⟩) 256 256, .int .i64 ((clsN (l ++ [s]) : Nat) : Int)] ∧ IntsO (clI (l ++ [s])) (some ⟨g, 0, none⟩) w' ∧ Below W.heap.size W w') from fun b c hc W hW => (C.of_ (l ++ [s]) (by rw [List.length_append, List.length_singleton]; omega) b c hc W hW).mono fun e w' ⟨g, he, h1, h2⟩ => ⟨_, he, g, rfl, h1, h2⟩)
  have HOF2 := Lib.hid (show ∀ b c, (l ++ [s, s]).length ≤ c → ∀ W, SetsAt (l ++ [s, s]) b W → Calls Try.prog 8 #[.slice b (l ++ [s, s]).length c] W fun e w' => ∃ v, e = .returned v ∧ (∃ g, v = .tuple #[.slice (some ⟨g, 0, none⟩) 256 256, .int .i64 ((clsN (l ++ [s]) : Nat) : Int)] ∧ IntsO (clI (l ++ [s])) (some ⟨g, 0, none⟩) w' ∧ Below W.heap.size W w') from fun b c hc W hW => (C.of_ (l ++ [s, s]) (by rw [List.length_append]; simp only [List.length_cons, List.length_nil]; omega) b c hc W hW).mono fun e w' ⟨g, he, h1, h2⟩ => ⟨_, he, g, by rw [(cls_again l s).2], by unfold clI at *; rw [(cls_again l s).1] at h1; exact h1, h2⟩)
  have HII := Lib.hid (fun a b c1 c2 W h1 h2 => ints256 (clI (l ++ [s])) (clI_len (l ++ [s])) a b c1 c2 W h1 h2)
  have hfin := cls_finer l s
  have hnn : clsN (l ++ [s]) ≤ 256 := many_le (alE (l ++ [s])) 256
  have hax := cls_small l x hx
  have hay := cls_small l y hy
  have hbx := cls_small (l ++ [s]) x hx
  have hby := cls_small (l ++ [s]) y hy
  have HEA := Lib.hid (num_iff (al_eqv l) x y)
  have HEB := Lib.hid (num_iff (al_eqv (l ++ [s])) x y)
  have HSN := Lib.hid (al_snoc l s x y)
  have HCA := Lib.hid (fun g W (h : IntsO (clI l) (some ⟨g, 0, none⟩) W) => fin_cells l g W h x y hx hy)
  have HCB := Lib.hid (fun g W (h : IntsO (clI (l ++ [s])) (some ⟨g, 0, none⟩) W) => fin_cells (l ++ [s]) g W h x y hx hy)
  have hl20 : l.length ≤ 20 := by omega
  clear C h5 hlm
  generalize clI (l ++ [s]) = CI2 at *
  generalize clsN (l ++ [s]) = N2 at *
  generalize numE (alE (l ++ [s])) x = bx at *
  generalize numE (alE (l ++ [s])) y = by_ at *
  generalize clI l = CI at *
  generalize clsN l = N1 at *
  generalize numE (alE l) x = ax at *
  generalize numE (alE l) y = ay at *
  go_enter Try.func6, Try.ntmps6
  go_upto_region 1 with fail
  rw [show (w.alloc (.cells #[.int .u64 (wd s 0), .int .u64 (wd s 1), .int .u64 (wd s 2), .int .u64 (wd s 3)] 38)).alloc (.cells #[.int .u8 (x : Int), .int .u8 (y : Int)] 40) = W2 from HW2.out.symm]
  clear HW2
  go_quiet (fail)
  go_wp2_with fail
  refine (HO1.out _ (HN.out.below (below_drN HB.out nq))).mono ?_
  rintro e wr ⟨g1, rfl, hi1, hb⟩
  have HB1 := Lib.hid ((below_drN HB.out nq).trans (hb.mono (below_drN HB.out nq).size))
  have HBS1 := Lib.hid (Blk.below (W := W2.drewN nq) HBS.out hb (Blk.lt (W := W2.drewN nq) HBS.out))
  have HIA := Lib.hid hi1
  have HSV1 := Lib.hid (HSV0.out.below HB1.out)
  clear hb hi1 HO1 HN HB HBS z0 z1 HSV0
  have HSV := Lib.hid (fun W (hW : Below wr.heap.size wr W) => HSV1.out.below hW)
  have HSB := Lib.hid (fun W (hW : Below wr.heap.size wr W) => (show W.cell? ⟨w.heap.size, 0, none⟩ = some (.int .u64 (wd s 0)) ∧ W.cell? ⟨w.heap.size, 1, none⟩ = some (.int .u64 (wd s 1)) ∧ W.cell? ⟨w.heap.size, 2, none⟩ = some (.int .u64 (wd s 2)) ∧ W.cell? ⟨w.heap.size, 3, none⟩ = some (.int .u64 (wd s 3)) from (Blk.cells4 (HBS1.out.below hW HBS1.out.lt)).1))
  go_upto_region 5 with fail
  refine region_stepsRT (S := fun W => Below wr.heap.size wr W) (U := UF1 (.slice a l.length cap) l.length (setV s)) (V := VF1 wr.heap.size l s) (m := 5) (n := 5) (r := 7) rfl (by kernel_rfl) (fun w1 w2 hb hS => hS.trans (hb.mono hS.size)) (keepVF1 _ _ _) (by kernel_rfl) ((Below.refl _ _).drew) ?_
  simp only [List.size_toArray, List.length_cons, List.length_nil, Nat.reduceAdd, Array.replicate_succ, Array.replicate_zero, List.push_toArray, List.nil_append, List.cons_append]
  refine AnyRT.step (m := 5) (i := 0) (d := some 29) [2, 0] rfl rfl (by kernel_rfl) (by kernel_rfl) (by kernel_rfl) (by kernel_rfl) (by kernel_rfl) ?_ ?_ ?_
  · exact ⟨_, 0, rfl⟩
  · refine StepsR.made (by kernel_rfl) (fun w' hS hD => ?_)
    refine ⟨.slice (some ⟨w'.heap.size, 0, none⟩) 0 0, w'.alloc (.cells #[] 38), ?_, ⟨_, rfl⟩, OwZ.empty w' _ hS.size, (Below.refl _ _).alloc (Nat.le_refl _) _⟩
    clear hS hD
    go_simp
    try rfl
  rintro v' ⟨g0, rfl⟩ a' ha'
  simp only [Act.put, List.setIfInBounds_toArray, List.set_cons_zero, List.set_cons_succ] at ha'
  subst ha'
  refine AnyRT.step (m := 5) (i := 1) (d := some 30) [2, 1] rfl rfl (by kernel_rfl) (by kernel_rfl) (by kernel_rfl) (by kernel_rfl) (by kernel_rfl) ?_ ?_ ?_
  · exact ⟨_, rfl⟩
  · refine StepsR.yield (.slice a l.length cap) rfl (by kernel_rfl) (fun w' hS hD => ⟨?_, trivial⟩)
    clear hS hD; go_simp
    try rfl
  intro v' hv' a' ha'
  have hv' : .slice a l.length cap = v' := Eq.symm hv'
  subst hv'
  simp only [Act.put, List.setIfInBounds_toArray, List.set_cons_zero, List.set_cons_succ] at ha'
  subst ha'
  refine AnyRT.step (m := 5) (i := 2) (d := some 31) [2] rfl rfl (by kernel_rfl) (by kernel_rfl) (by kernel_rfl) (by kernel_rfl) (by kernel_rfl) ?_ ?_ ?_
  · exact ⟨_, none, 0, rfl⟩
  · refine StepsR.made (by kernel_rfl) (fun w' hS hD => ?_)
    have h0 : OwZ wr.heap.size (.slice (some ⟨g0, 0, none⟩) 0 0) [] w' := deps_getF hD (k := 0) (by kernel_rfl) rfl rfl
    obtain ⟨v1, w1', hr, ho, hb⟩ := run_appE h0 (HSV.out w' hS) (by omega) hS.size 22
    obtain ⟨b1, c1, rfl⟩ := ho.form
    refine ⟨_, w1', ?_, ⟨b1, c1, rfl⟩, ho, hb⟩
    clear hS hD h0 ho hb
    exact exec_appS rfl rfl rfl hr
  rintro v' ⟨b2, c2, rfl⟩ a' ha'
  simp only [Act.put, List.setIfInBounds_toArray, List.set_cons_zero, List.set_cons_succ] at ha'
  subst ha'
  refine AnyRT.step (m := 5) (i := 3) (d := some 32) [4, 3] rfl rfl (by kernel_rfl) (by kernel_rfl) (by kernel_rfl) (by kernel_rfl) (by kernel_rfl) ?_ ?_ ?_
  · exact ⟨_, rfl⟩
  · refine StepsR.yield (setV s) rfl (by kernel_rfl) (fun w' hS hD => ⟨?_, trivial⟩)
    obtain ⟨c0, c1, c2, c3⟩ := HSB.out w' hS; clear hS hD; go_simp
    try rfl
  intro v' hv' a' ha'
  have hv' : setV s = v' := Eq.symm hv'
  subst hv'
  simp only [Act.put, List.setIfInBounds_toArray, List.set_cons_zero, List.set_cons_succ] at ha'
  subst ha'
  refine AnyRT.step (m := 5) (i := 4) (d := some 33) [4] rfl rfl (by kernel_rfl) (by kernel_rfl) (by kernel_rfl) (by kernel_rfl) (by kernel_rfl) ?_ ?_ ?_
  · exact ⟨_, 0, rfl⟩
  · refine StepsR.made (by kernel_rfl) (fun w' hS hD => ?_)
    refine ⟨.slice (some ⟨w'.heap.size, 0, none⟩) 1 1, w'.alloc (.cells #[.int .u64 (wd s 0), .int .u64 (wd s 1), .int .u64 (wd s 2), .int .u64 (wd s 3)] 38), ?_, ⟨_, rfl⟩, SetsV.one w' s _, (Below.refl _ _).alloc (Nat.le_refl _) _⟩
    clear hS hD
    go_simp
    try rfl
  rintro v' ⟨g4, rfl⟩ a' ha'
  simp only [Act.put, List.setIfInBounds_toArray, List.set_cons_zero, List.set_cons_succ] at ha'
  subst ha'
  refine AnyRT.last (by kernel_rfl) (fun w9 hS hF => ?_)
  have hO9 : OwZ wr.heap.size (.slice b2 l.length c2) l w9 := hF 2 _ 31 rfl rfl rfl
  have hV9 : SetsV [s] (.slice (some ⟨g4, 0, none⟩) 1 1) w9 := hF 4 _ 33 rfl rfl rfl
  clear hF
  refine wpAny_one (i := 5) (o := ⟨some 34, _, _, _, _, _⟩) (by kernel_rfl) rfl (by kernel_rfl) ?_
  obtain ⟨v3, w10, hr, ho, hg⟩ := run_appS hO9 hV9 (by simp only [List.length_cons, List.length_nil]; omega) hS.size 22
  refine wp_valZ (exec_appS rfl rfl rfl hr) ?_
  have HB10 := Lib.hid (hS.grown hg hS.size (fun k hk => (World.ownsRow.lt hO9 k hk).1))
  obtain ⟨b3, c3, rfl⟩ := ho.form
  have hcp := ho.capF
  have HS10 := Lib.hid ho.sets
  clear hO9 hV9 hr hg ho hS
  simp only [Act.put, List.setIfInBounds_toArray, List.set_cons_zero, List.set_cons_succ]
  refine wpAny_one (i := 6) (o := ⟨some 35, _, _, _, _, _⟩) (by kernel_rfl) rfl (by kernel_rfl) ?_
  refine wp_callZ (o := ⟨some 35, _, _, _, _, _⟩) (by go_simp) (HOF1.out _ _ hcp _ HS10.out) ?_
  rintro v4 w11 ⟨g11, rfl, hi, hb⟩
  have HI1 := Lib.hid hi
  have HBB := Lib.hid (HB10.out.trans (hb.mono HB10.out.size))
  clear hi hb hcp HS10 HB10
  simp only [Act.put, List.setIfInBounds_toArray, List.set_cons_zero, List.set_cons_succ]
  refine AnyS.any (S := fun W => W = w11) _ _ _ ?_ _ rfl
  refine AnyS.next (i := 7) (d := some 28) (v := .tuple #[.slice (some ⟨g11, 0, none⟩) 256 256, .int .i64 ((N2 : Nat) : Int)]) rfl rfl (by kernel_rfl) (by kernel_rfl) (by kernel_rfl) (StepsIf.yield (by kernel_rfl) (fun w' hS => by clear hS; go_simp)) ?_
  intro a' ha'
  simp only [Act.put, List.setIfInBounds_toArray, List.set_cons_zero, List.set_cons_succ] at ha'
  subst ha'
  refine AnyS.next (i := 8) (d := some 36) (v := .slice (some ⟨g11, 0, none⟩) 256 256) rfl rfl (by kernel_rfl) (by kernel_rfl) (by kernel_rfl) (StepsIf.yield (by kernel_rfl) (fun w' hS => by clear hS; go_simp)) ?_
  intro a' ha'
  simp only [Act.put, List.setIfInBounds_toArray, List.set_cons_zero, List.set_cons_succ] at ha'
  subst ha'
  refine AnyS.next (i := 9) (d := some 37) (v := .int .i64 ((N2 : Nat) : Int)) rfl rfl (by kernel_rfl) (by kernel_rfl) (by kernel_rfl) (StepsIf.yield (by kernel_rfl) (fun w' hS => by clear hS; go_simp)) ?_
  intro a' ha'
  simp only [Act.put, List.setIfInBounds_toArray, List.set_cons_zero, List.set_cons_succ] at ha'
  subst ha'
  refine AnyS.next (i := 10) (d := some 11) (v := .slice (some ⟨g11, 0, none⟩) 256 256) rfl rfl (by kernel_rfl) (by kernel_rfl) (by kernel_rfl) (StepsIf.yield (by kernel_rfl) (fun w' hS => by clear hS; go_simp)) ?_
  intro a' ha'
  simp only [Act.put, List.setIfInBounds_toArray, List.set_cons_zero, List.set_cons_succ] at ha'
  subst ha'
  refine AnyS.next (i := 11) (d := some 12) (v := .int .i64 ((N2 : Nat) : Int)) rfl rfl (by kernel_rfl) (by kernel_rfl) (by kernel_rfl) (StepsIf.yield (by kernel_rfl) (fun w' hS => by clear hS; go_simp)) ?_
  intro a' ha'
  simp only [Act.put, List.setIfInBounds_toArray, List.set_cons_zero, List.set_cons_succ] at ha'
  subst ha'
  refine AnyS.done (by kernel_rfl) ?_ _
  rintro w12 rfl
  have HIA2 := Lib.hid (HIA.out.below HBB.out)
  have HSW := Lib.hid (fun W (hW : Below w12.heap.size w12 W) => HSV.out W (HBB.out.trans (hW.mono HBB.out.size)))
  have HSX := Lib.hid (fun W (hW : Below w12.heap.size w12 W) => HSB.out W (HBB.out.trans (hW.mono HBB.out.size)))
  have HB2 := Lib.hid (HB1.out.trans (HBB.out.mono HB1.out.size))
  have HBS2 := Lib.hid (HBS1.out.below HBB.out HBS1.out.lt)
  clear HSV HSB HIA HB1 HBS1 HBB HSV1 HOF1
  go_upto_region 6 with fail
  refine region_stepsRT (S := fun W => Below w12.heap.size w12 W) (U := UF2 (.slice a l.length cap) l.length (setV s)) (V := VF2 w12.heap.size l s) (m := 6) (n := 6) (r := 7) rfl (by kernel_rfl) (fun w1 w2 hb hS => hS.trans (hb.mono hS.size)) (keepVF2 _ _ _) (by kernel_rfl) ((Below.refl _ _).drew) ?_
  simp only [List.size_toArray, List.length_cons, List.length_nil, Nat.reduceAdd, Array.replicate_succ, Array.replicate_zero, List.push_toArray, List.nil_append, List.cons_append]
  refine AnyRT.step (m := 6) (i := 0) (d := some 39) [2, 0] rfl rfl (by kernel_rfl) (by kernel_rfl) (by kernel_rfl) (by kernel_rfl) (by kernel_rfl) ?_ ?_ ?_
  · exact ⟨_, 0, rfl⟩
  · refine StepsR.made (by kernel_rfl) (fun w' hS hD => ?_)
    refine ⟨.slice (some ⟨w'.heap.size, 0, none⟩) 0 0, w'.alloc (.cells #[] 38), ?_, ⟨_, rfl⟩, OwZ.empty w' _ hS.size, (Below.refl _ _).alloc (Nat.le_refl _) _⟩
    clear hS hD
    go_simp
    try rfl
  rintro v' ⟨e0, rfl⟩ a' ha'
  simp only [Act.put, List.setIfInBounds_toArray, List.set_cons_zero, List.set_cons_succ] at ha'
  subst ha'
  refine AnyRT.step (m := 6) (i := 1) (d := some 40) [2, 1] rfl rfl (by kernel_rfl) (by kernel_rfl) (by kernel_rfl) (by kernel_rfl) (by kernel_rfl) ?_ ?_ ?_
  · exact ⟨_, rfl⟩
  · refine StepsR.yield (.slice a l.length cap) rfl (by kernel_rfl) (fun w' hS hD => ⟨?_, trivial⟩)
    clear hS hD; go_simp
    try rfl
  intro v' hv' a' ha'
  have hv' : .slice a l.length cap = v' := Eq.symm hv'
  subst hv'
  simp only [Act.put, List.setIfInBounds_toArray, List.set_cons_zero, List.set_cons_succ] at ha'
  subst ha'
  refine AnyRT.step (m := 6) (i := 2) (d := some 41) [2] rfl rfl (by kernel_rfl) (by kernel_rfl) (by kernel_rfl) (by kernel_rfl) (by kernel_rfl) ?_ ?_ ?_
  · exact ⟨_, none, 0, rfl⟩
  · refine StepsR.made (by kernel_rfl) (fun w' hS hD => ?_)
    have h0 : OwZ w12.heap.size (.slice (some ⟨e0, 0, none⟩) 0 0) [] w' := deps_getF hD (k := 0) (by kernel_rfl) rfl rfl
    obtain ⟨v1, w1', hr, ho, hb⟩ := run_appE h0 (HSW.out w' hS) (by omega) hS.size 22
    obtain ⟨b1, c1, rfl⟩ := ho.form
    refine ⟨_, w1', ?_, ⟨b1, c1, rfl⟩, ho, hb⟩
    clear hS hD h0 ho hb
    exact exec_appS rfl rfl rfl hr
  rintro v' ⟨d2, k2, rfl⟩ a' ha'
  simp only [Act.put, List.setIfInBounds_toArray, List.set_cons_zero, List.set_cons_succ] at ha'
  subst ha'
  refine AnyRT.step (m := 6) (i := 3) (d := some 42) [5, 3] rfl rfl (by kernel_rfl) (by kernel_rfl) (by kernel_rfl) (by kernel_rfl) (by kernel_rfl) ?_ ?_ ?_
  · exact ⟨_, rfl⟩
  · refine StepsR.yield (setV s) rfl (by kernel_rfl) (fun w' hS hD => ⟨?_, trivial⟩)
    obtain ⟨c0, c1, c2, c3⟩ := HSX.out w' hS; clear hS hD; go_simp
    try rfl
  intro v' hv' a' ha'
  have hv' : setV s = v' := Eq.symm hv'
  subst hv'
  simp only [Act.put, List.setIfInBounds_toArray, List.set_cons_zero, List.set_cons_succ] at ha'
  subst ha'
  refine AnyRT.step (m := 6) (i := 4) (d := some 43) [5, 4] rfl rfl (by kernel_rfl) (by kernel_rfl) (by kernel_rfl) (by kernel_rfl) (by kernel_rfl) ?_ ?_ ?_
  · exact ⟨_, rfl⟩
  · refine StepsR.yield (setV s) rfl (by kernel_rfl) (fun w' hS hD => ⟨?_, trivial⟩)
    obtain ⟨c0, c1, c2, c3⟩ := HSX.out w' hS; clear hS hD; go_simp
    try rfl
  intro v' hv' a' ha'
  have hv' : setV s = v' := Eq.symm hv'
  subst hv'
  simp only [Act.put, List.setIfInBounds_toArray, List.set_cons_zero, List.set_cons_succ] at ha'
  subst ha'
  refine AnyRT.step (m := 6) (i := 5) (d := some 44) [5] rfl rfl (by kernel_rfl) (by kernel_rfl) (by kernel_rfl) (by kernel_rfl) (by kernel_rfl) ?_ ?_ ?_
  · exact ⟨_, 0, rfl⟩
  · refine StepsR.made (by kernel_rfl) (fun w' hS hD => ?_)
    refine ⟨.slice (some ⟨w'.heap.size, 0, none⟩) 2 2, w'.alloc (.cells #[.int .u64 (wd s 0), .int .u64 (wd s 1), .int .u64 (wd s 2), .int .u64 (wd s 3), .int .u64 (wd s 0), .int .u64 (wd s 1), .int .u64 (wd s 2), .int .u64 (wd s 3)] 38), ?_, ⟨_, rfl⟩, SetsV.two w' s _, (Below.refl _ _).alloc (Nat.le_refl _) _⟩
    clear hS hD
    go_simp
    try rfl
  rintro v' ⟨e5, rfl⟩ a' ha'
  simp only [Act.put, List.setIfInBounds_toArray, List.set_cons_zero, List.set_cons_succ] at ha'
  subst ha'
  refine AnyRT.last (by kernel_rfl) (fun w19 hS hF => ?_)
  have hO9 : OwZ w12.heap.size (.slice d2 l.length k2) l w19 := hF 2 _ 41 rfl rfl rfl
  have hV9 : SetsV [s, s] (.slice (some ⟨e5, 0, none⟩) 2 2) w19 := hF 5 _ 44 rfl rfl rfl
  clear hF
  refine wpAny_one (i := 6) (o := ⟨some 45, _, _, _, _, _⟩) (by kernel_rfl) rfl (by kernel_rfl) ?_
  obtain ⟨v3, w20, hr, ho, hg⟩ := run_appS hO9 hV9 (by simp only [List.length_cons, List.length_nil]; omega) hS.size 22
  refine wp_valZ (exec_appS rfl rfl rfl hr) ?_
  have HB10 := Lib.hid (hS.grown hg hS.size (fun k hk => (World.ownsRow.lt hO9 k hk).1))
  obtain ⟨d3, k3, rfl⟩ := ho.form
  have hcp := ho.capF
  have HS10 := Lib.hid ho.sets
  clear hO9 hV9 hr hg ho hS
  simp only [Act.put, List.setIfInBounds_toArray, List.set_cons_zero, List.set_cons_succ]
  refine wpAny_one (i := 7) (o := ⟨some 46, _, _, _, _, _⟩) (by kernel_rfl) rfl (by kernel_rfl) ?_
  refine wp_callZ (o := ⟨some 46, _, _, _, _, _⟩) (by go_simp) (HOF2.out _ _ hcp _ HS10.out) ?_
  rintro v4 w21 ⟨g21, rfl, hi, hb⟩
  have HI2 := Lib.hid hi
  have HBC := Lib.hid (HB10.out.trans (hb.mono HB10.out.size))
  clear hi hb hcp HS10 HB10
  simp only [Act.put, List.setIfInBounds_toArray, List.set_cons_zero, List.set_cons_succ]
  refine AnyS.any (S := fun W => W = w21) _ _ _ ?_ _ rfl
  refine AnyS.next (i := 8) (d := some 38) (v := .tuple #[.slice (some ⟨g21, 0, none⟩) 256 256, .int .i64 ((N2 : Nat) : Int)]) rfl rfl (by kernel_rfl) (by kernel_rfl) (by kernel_rfl) (StepsIf.yield (by kernel_rfl) (fun w' hS => by clear hS; go_simp)) ?_
  intro a' ha'
  simp only [Act.put, List.setIfInBounds_toArray, List.set_cons_zero, List.set_cons_succ] at ha'
  subst ha'
  refine AnyS.next (i := 9) (d := some 47) (v := .slice (some ⟨g21, 0, none⟩) 256 256) rfl rfl (by kernel_rfl) (by kernel_rfl) (by kernel_rfl) (StepsIf.yield (by kernel_rfl) (fun w' hS => by clear hS; go_simp)) ?_
  intro a' ha'
  simp only [Act.put, List.setIfInBounds_toArray, List.set_cons_zero, List.set_cons_succ] at ha'
  subst ha'
  refine AnyS.next (i := 10) (d := some 48) (v := .int .i64 ((N2 : Nat) : Int)) rfl rfl (by kernel_rfl) (by kernel_rfl) (by kernel_rfl) (StepsIf.yield (by kernel_rfl) (fun w' hS => by clear hS; go_simp)) ?_
  intro a' ha'
  simp only [Act.put, List.setIfInBounds_toArray, List.set_cons_zero, List.set_cons_succ] at ha'
  subst ha'
  refine AnyS.next (i := 11) (d := some 13) (v := .slice (some ⟨g21, 0, none⟩) 256 256) rfl rfl (by kernel_rfl) (by kernel_rfl) (by kernel_rfl) (StepsIf.yield (by kernel_rfl) (fun w' hS => by clear hS; go_simp)) ?_
  intro a' ha'
  simp only [Act.put, List.setIfInBounds_toArray, List.set_cons_zero, List.set_cons_succ] at ha'
  subst ha'
  refine AnyS.next (i := 12) (d := some 14) (v := .int .i64 ((N2 : Nat) : Int)) rfl rfl (by kernel_rfl) (by kernel_rfl) (by kernel_rfl) (StepsIf.yield (by kernel_rfl) (fun w' hS => by clear hS; go_simp)) ?_
  intro a' ha'
  simp only [Act.put, List.setIfInBounds_toArray, List.set_cons_zero, List.set_cons_succ] at ha'
  subst ha'
  refine AnyS.done (by kernel_rfl) ?_ _
  rintro w22 rfl
  have HI1b := Lib.hid (HI1.out.below HBC.out)
  have HIA3 := Lib.hid (HIA2.out.below HBC.out)
  have HB3 := Lib.hid (HB2.out.trans (HBC.out.mono HB2.out.size))
  have HBS3 := Lib.hid (HBS2.out.below HBC.out HBS2.out.lt)
  clear HI1 HIA2 HB2 HBS2 HBC HSW HSX HOF2
  go_wp2_with fail
  refine (HII.out _ _ _ _ _ HI1b.out HI2.out).mono ?_
  rintro e w23 ⟨rfl, hb⟩
  obtain ⟨f1, f2⟩ := HCA.out g1 _ (HIA3.out.below hb)
  obtain ⟨f3, f4⟩ := HCB.out g11 _ (HI1b.out.below hb)
  have hbs := HBS3.out.below hb HBS3.out.lt
  have HF := Lib.hid (show SFin w x y w.heap.size g1 ax ay g11 bx by_ s w23 from ⟨⟨f1, f3, (Blk.cells4 hbs).1⟩, ⟨f2, f4, hbs.lt⟩, HB3.out.trans (hb.mono HB3.out.size)⟩)
  clear hb f1 f2 f3 f4 hbs HI1b HIA3 HB3 HBS3 HI2 HII HCA HCB
  have r1 : decide ((N1 : Int) ≤ (N2 : Int)) = true := by rw [decide_eq_true_iff]; omega
  have r2 : decide (N1 ≤ N2) = true := decide_eq_true hfin.1
  have r3 : decide ((N2 : Int) ≤ 2 * (N1 : Int)) = true := by rw [decide_eq_true_iff]; omega
  have r4 : IntKind.i64.wrap (2 * (N1 : Int)) = 2 * (N1 : Int) := IntWalk.i64_in _ (by omega)
  have hxI : (x : Int) < 256 := by omega
  have hyI : (y : Int) < 256 := by omega
  have hxd : decide (x < 256) = true := decide_eq_true hx
  have hyd : decide (y < 256) = true := decide_eq_true hy
  clear hfin hnn
  obtain ⟨u, hu⟩ : ∃ u, s.getLsbD x = u := ⟨_, rfl⟩
  obtain ⟨v, hv⟩ : ∃ v, s.getLsbD y = v := ⟨_, rfl⟩
  have hsn := HSN.out
  rw [hu, hv, ← HEA.out, ← HEB.out] at hsn
  by_cases hea : ax = ay
  · obtain ⟨e, he⟩ : ∃ e : Bool, (u == v) = e := ⟨_, rfl⟩
    have qa : ((ax : Int) == (ay : Int)) = true := by rw [hea]; simp
    have qb : ((bx : Int) == (by_ : Int)) = e := by
      cases e with
      | true => rw [hsn.2 ⟨hea, by simpa using he⟩]; simp
      | false => rw [beq_eq_false_iff_ne]; intro hh; have := (hsn.1 (by omega)).2; rw [this] at he; simp at he
    have qx : s.getLsbD x = u := hu
    have qy : s.getLsbD y = v := hv
    clear hsn hea hu hv HSN HEA HEB
    go_wp2_with fail
    go_upto_region 9 with fail
    refine region_steps (S := SFin w x y w.heap.size g1 ax ay g11 bx by_ s) (by kernel_rfl) (SFin.drew HF.out) ?_
    simp only [List.size_toArray]
    refine AnyS.stepE (i := 0) (d := some 68) rfl rfl (by kernel_rfl) (by kernel_rfl) (by kernel_rfl) ?_
    apply Exists.intro
    apply And.intro
    · apply StepsIf.yield
      · kernel_rfl
      intro w' hS
      clear hS; go_simp
      rfl
    intro a' ha'
    simp only [Act.put, List.setIfInBounds_toArray, List.set_cons_zero, List.set_cons_succ] at ha'
    subst ha'
    refine AnyS.stepE (i := 1) (d := some 69) rfl rfl (by kernel_rfl) (by kernel_rfl) (by kernel_rfl) ?_
    apply Exists.intro
    apply And.intro
    · apply StepsIf.yield
      · kernel_rfl
      intro w' hS
      clear hS; go_simp
      rfl
    intro a' ha'
    simp only [Act.put, List.setIfInBounds_toArray, List.set_cons_zero, List.set_cons_succ] at ha'
    subst ha'
    refine AnyS.next (i := 2) (d := some 70) (v := .bool true) rfl rfl (by kernel_rfl) (by kernel_rfl) (by kernel_rfl) (StepsIf.yield (by kernel_rfl) (fun w' hS => by clear hS; go_simp)) ?_
    intro a' ha'
    simp only [Act.put, List.setIfInBounds_toArray, List.set_cons_zero, List.set_cons_succ] at ha'
    subst ha'
    refine AnyS.next (i := 3) (d := some 71) (v := .bool true) rfl rfl (by kernel_rfl) (by kernel_rfl) (by kernel_rfl) (StepsIf.yield (by kernel_rfl) (fun w' hS => by clear hS; go_simp)) ?_
    intro a' ha'
    simp only [Act.put, List.setIfInBounds_toArray, List.set_cons_zero, List.set_cons_succ] at ha'
    subst ha'
    refine AnyS.stepE (i := 4) (d := some 72) rfl rfl (by kernel_rfl) (by kernel_rfl) (by kernel_rfl) ?_
    apply Exists.intro
    apply And.intro
    · apply StepsIf.yield
      · kernel_rfl
      intro w' hS
      clear hS; go_simp
      rfl
    intro a' ha'
    simp only [Act.put, List.setIfInBounds_toArray, List.set_cons_zero, List.set_cons_succ] at ha'
    subst ha'
    refine AnyS.stepE (i := 5) (d := some 73) rfl rfl (by kernel_rfl) (by kernel_rfl) (by kernel_rfl) ?_
    apply Exists.intro
    apply And.intro
    · apply StepsIf.yield
      · kernel_rfl
      intro w' hS
      clear hS; go_simp
      rfl
    intro a' ha'
    simp only [Act.put, List.setIfInBounds_toArray, List.set_cons_zero, List.set_cons_succ] at ha'
    subst ha'
    refine AnyS.next (i := 6) (d := some 74) (v := .int .i64 (2 * ((N1 : Nat) : Int))) rfl rfl (by kernel_rfl) (by kernel_rfl) (by kernel_rfl) (StepsIf.yield (by kernel_rfl) (fun w' hS => by clear hS; go_simp)) ?_
    intro a' ha'
    simp only [Act.put, List.setIfInBounds_toArray, List.set_cons_zero, List.set_cons_succ] at ha'
    subst ha'
    refine AnyS.next (i := 7) (d := some 75) (v := .bool true) rfl rfl (by kernel_rfl) (by kernel_rfl) (by kernel_rfl) (StepsIf.yield (by kernel_rfl) (fun w' hS => by clear hS; go_simp)) ?_
    intro a' ha'
    simp only [Act.put, List.setIfInBounds_toArray, List.set_cons_zero, List.set_cons_succ] at ha'
    subst ha'
    refine AnyS.next (i := 8) (d := some 76) (v := .bool true) rfl rfl (by kernel_rfl) (by kernel_rfl) (by kernel_rfl) (StepsIf.yield (by kernel_rfl) (fun w' hS => by clear hS; go_simp)) ?_
    intro a' ha'
    simp only [Act.put, List.setIfInBounds_toArray, List.set_cons_zero, List.set_cons_succ] at ha'
    subst ha'
    refine AnyS.next (i := 9) (d := some 77) (v := .bool true) rfl rfl (by kernel_rfl) (by kernel_rfl) (by kernel_rfl) (StepsIf.yield (by kernel_rfl) (fun w' hS => by clear hS; go_simp)) ?_
    intro a' ha'
    simp only [Act.put, List.setIfInBounds_toArray, List.set_cons_zero, List.set_cons_succ] at ha'
    subst ha'
    refine AnyS.stepE (i := 10) (d := some 78) rfl rfl (by kernel_rfl) (by kernel_rfl) (by kernel_rfl) ?_
    apply Exists.intro
    apply And.intro
    · apply StepsIf.yield
      · kernel_rfl
      intro w' hS
      clear hS; go_simp
      rfl
    intro a' ha'
    simp only [Act.put, List.setIfInBounds_toArray, List.set_cons_zero, List.set_cons_succ] at ha'
    subst ha'
    refine AnyS.stepE (i := 11) (d := some 79) rfl rfl (by kernel_rfl) (by kernel_rfl) (by kernel_rfl) ?_
    apply Exists.intro
    apply And.intro
    · apply StepsIf.yield
      · kernel_rfl
      intro w' hS
      clear hS; go_simp
      rfl
    intro a' ha'
    simp only [Act.put, List.setIfInBounds_toArray, List.set_cons_zero, List.set_cons_succ] at ha'
    subst ha'
    refine AnyS.stepE (i := 12) (d := some 80) rfl rfl (by kernel_rfl) (by kernel_rfl) (by kernel_rfl) ?_
    apply Exists.intro
    apply And.intro
    · apply StepsIf.yield
      · kernel_rfl
      intro w' hS
      clear hS; go_simp
      rfl
    intro a' ha'
    simp only [Act.put, List.setIfInBounds_toArray, List.set_cons_zero, List.set_cons_succ] at ha'
    subst ha'
    refine AnyS.next (i := 13) (d := some 81) (v := .int .i64 ((ax : Nat) : Int)) rfl rfl (by kernel_rfl) (by kernel_rfl) (by kernel_rfl) (StepsIf.yield (by kernel_rfl) (fun w' hS => by obtain ⟨c0, c1⟩ := hS.1.1; clear hS; go_simp)) ?_
    intro a' ha'
    simp only [Act.put, List.setIfInBounds_toArray, List.set_cons_zero, List.set_cons_succ] at ha'
    subst ha'
    refine AnyS.stepE (i := 14) (d := some 82) rfl rfl (by kernel_rfl) (by kernel_rfl) (by kernel_rfl) ?_
    apply Exists.intro
    apply And.intro
    · apply StepsIf.yield
      · kernel_rfl
      intro w' hS
      clear hS; go_simp
      rfl
    intro a' ha'
    simp only [Act.put, List.setIfInBounds_toArray, List.set_cons_zero, List.set_cons_succ] at ha'
    subst ha'
    refine AnyS.stepE (i := 15) (d := some 83) rfl rfl (by kernel_rfl) (by kernel_rfl) (by kernel_rfl) ?_
    apply Exists.intro
    apply And.intro
    · apply StepsIf.yield
      · kernel_rfl
      intro w' hS
      clear hS; go_simp
      rfl
    intro a' ha'
    simp only [Act.put, List.setIfInBounds_toArray, List.set_cons_zero, List.set_cons_succ] at ha'
    subst ha'
    refine AnyS.stepE (i := 16) (d := some 84) rfl rfl (by kernel_rfl) (by kernel_rfl) (by kernel_rfl) ?_
    apply Exists.intro
    apply And.intro
    · apply StepsIf.yield
      · kernel_rfl
      intro w' hS
      clear hS; go_simp
      rfl
    intro a' ha'
    simp only [Act.put, List.setIfInBounds_toArray, List.set_cons_zero, List.set_cons_succ] at ha'
    subst ha'
    refine AnyS.next (i := 17) (d := some 85) (v := .int .i64 ((ay : Nat) : Int)) rfl rfl (by kernel_rfl) (by kernel_rfl) (by kernel_rfl) (StepsIf.yield (by kernel_rfl) (fun w' hS => by obtain ⟨c0, c1⟩ := hS.1.1; clear hS; go_simp)) ?_
    intro a' ha'
    simp only [Act.put, List.setIfInBounds_toArray, List.set_cons_zero, List.set_cons_succ] at ha'
    subst ha'
    refine AnyS.next (i := 18) (d := some 86) (v := .bool true) rfl rfl (by kernel_rfl) (by kernel_rfl) (by kernel_rfl) (StepsIf.yield (by kernel_rfl) (fun w' hS => by clear hS; go_simp)) ?_
    intro a' ha'
    simp only [Act.put, List.setIfInBounds_toArray, List.set_cons_zero, List.set_cons_succ] at ha'
    subst ha'
    refine AnyS.next (i := 19) (d := some 87) (v := .bool true) rfl rfl (by kernel_rfl) (by kernel_rfl) (by kernel_rfl) (StepsIf.yield (by kernel_rfl) (fun w' hS => by clear hS; go_simp)) ?_
    intro a' ha'
    simp only [Act.put, List.setIfInBounds_toArray, List.set_cons_zero, List.set_cons_succ] at ha'
    subst ha'
    refine AnyS.next (i := 20) (d := some 88) (v := undef) rfl rfl (by kernel_rfl) (by kernel_rfl) (by kernel_rfl) (StepsIf.no (by kernel_rfl)) ?_
    intro a' ha'
    simp only [Act.put, List.setIfInBounds_toArray, List.set_cons_zero, List.set_cons_succ] at ha'
    subst ha'
    refine AnyS.next (i := 21) (d := some 89) (v := undef) rfl rfl (by kernel_rfl) (by kernel_rfl) (by kernel_rfl) (StepsIf.no (by kernel_rfl)) ?_
    intro a' ha'
    simp only [Act.put, List.setIfInBounds_toArray, List.set_cons_zero, List.set_cons_succ] at ha'
    subst ha'
    refine AnyS.next (i := 22) (d := some 90) (v := undef) rfl rfl (by kernel_rfl) (by kernel_rfl) (by kernel_rfl) (StepsIf.no (by kernel_rfl)) ?_
    intro a' ha'
    simp only [Act.put, List.setIfInBounds_toArray, List.set_cons_zero, List.set_cons_succ] at ha'
    subst ha'
    refine AnyS.next (i := 23) (d := some 91) (v := undef) rfl rfl (by kernel_rfl) (by kernel_rfl) (by kernel_rfl) (StepsIf.no (by kernel_rfl)) ?_
    intro a' ha'
    simp only [Act.put, List.setIfInBounds_toArray, List.set_cons_zero, List.set_cons_succ] at ha'
    subst ha'
    refine AnyS.next (i := 24) (d := some 92) (v := undef) rfl rfl (by kernel_rfl) (by kernel_rfl) (by kernel_rfl) (StepsIf.no (by kernel_rfl)) ?_
    intro a' ha'
    simp only [Act.put, List.setIfInBounds_toArray, List.set_cons_zero, List.set_cons_succ] at ha'
    subst ha'
    refine AnyS.next (i := 25) (d := some 93) (v := undef) rfl rfl (by kernel_rfl) (by kernel_rfl) (by kernel_rfl) (StepsIf.no (by kernel_rfl)) ?_
    intro a' ha'
    simp only [Act.put, List.setIfInBounds_toArray, List.set_cons_zero, List.set_cons_succ] at ha'
    subst ha'
    refine AnyS.next (i := 26) (d := some 94) (v := undef) rfl rfl (by kernel_rfl) (by kernel_rfl) (by kernel_rfl) (StepsIf.no (by kernel_rfl)) ?_
    intro a' ha'
    simp only [Act.put, List.setIfInBounds_toArray, List.set_cons_zero, List.set_cons_succ] at ha'
    subst ha'
    refine AnyS.next (i := 27) (d := some 95) (v := undef) rfl rfl (by kernel_rfl) (by kernel_rfl) (by kernel_rfl) (StepsIf.no (by kernel_rfl)) ?_
    intro a' ha'
    simp only [Act.put, List.setIfInBounds_toArray, List.set_cons_zero, List.set_cons_succ] at ha'
    subst ha'
    refine AnyS.next (i := 28) (d := some 96) (v := undef) rfl rfl (by kernel_rfl) (by kernel_rfl) (by kernel_rfl) (StepsIf.no (by kernel_rfl)) ?_
    intro a' ha'
    simp only [Act.put, List.setIfInBounds_toArray, List.set_cons_zero, List.set_cons_succ] at ha'
    subst ha'
    refine AnyS.next (i := 29) (d := some 97) (v := .bool true) rfl rfl (by kernel_rfl) (by kernel_rfl) (by kernel_rfl) (StepsIf.yield (by kernel_rfl) (fun w' hS => by clear hS; go_simp)) ?_
    intro a' ha'
    simp only [Act.put, List.setIfInBounds_toArray, List.set_cons_zero, List.set_cons_succ] at ha'
    subst ha'
    refine AnyS.next (i := 30) (d := some 98) (v := .bool true) rfl rfl (by kernel_rfl) (by kernel_rfl) (by kernel_rfl) (StepsIf.yield (by kernel_rfl) (fun w' hS => by clear hS; go_simp)) ?_
    intro a' ha'
    simp only [Act.put, List.setIfInBounds_toArray, List.set_cons_zero, List.set_cons_succ] at ha'
    subst ha'
    refine AnyS.next (i := 31) (d := some 99) (v := .bool true) rfl rfl (by kernel_rfl) (by kernel_rfl) (by kernel_rfl) (StepsIf.yield (by kernel_rfl) (fun w' hS => by clear hS; go_simp)) ?_
    intro a' ha'
    simp only [Act.put, List.setIfInBounds_toArray, List.set_cons_zero, List.set_cons_succ] at ha'
    subst ha'
    refine AnyS.stepE (i := 32) (d := some 100) rfl rfl (by kernel_rfl) (by kernel_rfl) (by kernel_rfl) ?_
    apply Exists.intro
    apply And.intro
    · apply StepsIf.yield
      · kernel_rfl
      intro w' hS
      clear hS; go_simp
      rfl
    intro a' ha'
    simp only [Act.put, List.setIfInBounds_toArray, List.set_cons_zero, List.set_cons_succ] at ha'
    subst ha'
    refine AnyS.stepE (i := 33) (d := some 101) rfl rfl (by kernel_rfl) (by kernel_rfl) (by kernel_rfl) ?_
    apply Exists.intro
    apply And.intro
    · apply StepsIf.yield
      · kernel_rfl
      intro w' hS
      clear hS; go_simp
      rfl
    intro a' ha'
    simp only [Act.put, List.setIfInBounds_toArray, List.set_cons_zero, List.set_cons_succ] at ha'
    subst ha'
    refine AnyS.stepE (i := 34) (d := some 102) rfl rfl (by kernel_rfl) (by kernel_rfl) (by kernel_rfl) ?_
    apply Exists.intro
    apply And.intro
    · apply StepsIf.yield
      · kernel_rfl
      intro w' hS
      clear hS; go_simp
      rfl
    intro a' ha'
    simp only [Act.put, List.setIfInBounds_toArray, List.set_cons_zero, List.set_cons_succ] at ha'
    subst ha'
    refine AnyS.next (i := 35) (d := some 103) (v := .int .i64 ((bx : Nat) : Int)) rfl rfl (by kernel_rfl) (by kernel_rfl) (by kernel_rfl) (StepsIf.yield (by kernel_rfl) (fun w' hS => by obtain ⟨c0, c1⟩ := hS.1.2.1; clear hS; go_simp)) ?_
    intro a' ha'
    simp only [Act.put, List.setIfInBounds_toArray, List.set_cons_zero, List.set_cons_succ] at ha'
    subst ha'
    refine AnyS.stepE (i := 36) (d := some 104) rfl rfl (by kernel_rfl) (by kernel_rfl) (by kernel_rfl) ?_
    apply Exists.intro
    apply And.intro
    · apply StepsIf.yield
      · kernel_rfl
      intro w' hS
      clear hS; go_simp
      rfl
    intro a' ha'
    simp only [Act.put, List.setIfInBounds_toArray, List.set_cons_zero, List.set_cons_succ] at ha'
    subst ha'
    refine AnyS.stepE (i := 37) (d := some 105) rfl rfl (by kernel_rfl) (by kernel_rfl) (by kernel_rfl) ?_
    apply Exists.intro
    apply And.intro
    · apply StepsIf.yield
      · kernel_rfl
      intro w' hS
      clear hS; go_simp
      rfl
    intro a' ha'
    simp only [Act.put, List.setIfInBounds_toArray, List.set_cons_zero, List.set_cons_succ] at ha'
    subst ha'
    refine AnyS.stepE (i := 38) (d := some 106) rfl rfl (by kernel_rfl) (by kernel_rfl) (by kernel_rfl) ?_
    apply Exists.intro
    apply And.intro
    · apply StepsIf.yield
      · kernel_rfl
      intro w' hS
      clear hS; go_simp
      rfl
    intro a' ha'
    simp only [Act.put, List.setIfInBounds_toArray, List.set_cons_zero, List.set_cons_succ] at ha'
    subst ha'
    refine AnyS.next (i := 39) (d := some 107) (v := .int .i64 ((by_ : Nat) : Int)) rfl rfl (by kernel_rfl) (by kernel_rfl) (by kernel_rfl) (StepsIf.yield (by kernel_rfl) (fun w' hS => by obtain ⟨c0, c1⟩ := hS.1.2.1; clear hS; go_simp)) ?_
    intro a' ha'
    simp only [Act.put, List.setIfInBounds_toArray, List.set_cons_zero, List.set_cons_succ] at ha'
    subst ha'
    refine AnyS.next (i := 40) (d := some 108) (v := .bool e) rfl rfl (by kernel_rfl) (by kernel_rfl) (by kernel_rfl) (StepsIf.yield (by kernel_rfl) (fun w' hS => by clear hS; go_simp)) ?_
    intro a' ha'
    simp only [Act.put, List.setIfInBounds_toArray, List.set_cons_zero, List.set_cons_succ] at ha'
    subst ha'
    refine AnyS.stepE (i := 41) (d := some 109) rfl rfl (by kernel_rfl) (by kernel_rfl) (by kernel_rfl) ?_
    apply Exists.intro
    apply And.intro
    · apply StepsIf.yield
      · kernel_rfl
      intro w' hS
      clear hS; go_simp
      rfl
    intro a' ha'
    simp only [Act.put, List.setIfInBounds_toArray, List.set_cons_zero, List.set_cons_succ] at ha'
    subst ha'
    refine AnyS.stepE (i := 42) (d := some 110) rfl rfl (by kernel_rfl) (by kernel_rfl) (by kernel_rfl) ?_
    apply Exists.intro
    apply And.intro
    · apply StepsIf.yield
      · kernel_rfl
      intro w' hS
      clear hS; go_simp
      rfl
    intro a' ha'
    simp only [Act.put, List.setIfInBounds_toArray, List.set_cons_zero, List.set_cons_succ] at ha'
    subst ha'
    refine AnyS.stepE (i := 43) (d := some 111) rfl rfl (by kernel_rfl) (by kernel_rfl) (by kernel_rfl) ?_
    apply Exists.intro
    apply And.intro
    · apply StepsIf.yield
      · kernel_rfl
      intro w' hS
      clear hS; go_simp
      rfl
    intro a' ha'
    simp only [Act.put, List.setIfInBounds_toArray, List.set_cons_zero, List.set_cons_succ] at ha'
    subst ha'
    refine AnyS.next (i := 44) (d := some 112) (v := .int .i64 ((ax : Nat) : Int)) rfl rfl (by kernel_rfl) (by kernel_rfl) (by kernel_rfl) (StepsIf.yield (by kernel_rfl) (fun w' hS => by obtain ⟨c0, c1⟩ := hS.1.1; clear hS; go_simp)) ?_
    intro a' ha'
    simp only [Act.put, List.setIfInBounds_toArray, List.set_cons_zero, List.set_cons_succ] at ha'
    subst ha'
    refine AnyS.stepE (i := 45) (d := some 113) rfl rfl (by kernel_rfl) (by kernel_rfl) (by kernel_rfl) ?_
    apply Exists.intro
    apply And.intro
    · apply StepsIf.yield
      · kernel_rfl
      intro w' hS
      clear hS; go_simp
      rfl
    intro a' ha'
    simp only [Act.put, List.setIfInBounds_toArray, List.set_cons_zero, List.set_cons_succ] at ha'
    subst ha'
    refine AnyS.stepE (i := 46) (d := some 114) rfl rfl (by kernel_rfl) (by kernel_rfl) (by kernel_rfl) ?_
    apply Exists.intro
    apply And.intro
    · apply StepsIf.yield
      · kernel_rfl
      intro w' hS
      clear hS; go_simp
      rfl
    intro a' ha'
    simp only [Act.put, List.setIfInBounds_toArray, List.set_cons_zero, List.set_cons_succ] at ha'
    subst ha'
    refine AnyS.stepE (i := 47) (d := some 115) rfl rfl (by kernel_rfl) (by kernel_rfl) (by kernel_rfl) ?_
    apply Exists.intro
    apply And.intro
    · apply StepsIf.yield
      · kernel_rfl
      intro w' hS
      clear hS; go_simp
      rfl
    intro a' ha'
    simp only [Act.put, List.setIfInBounds_toArray, List.set_cons_zero, List.set_cons_succ] at ha'
    subst ha'
    refine AnyS.next (i := 48) (d := some 116) (v := .int .i64 ((ay : Nat) : Int)) rfl rfl (by kernel_rfl) (by kernel_rfl) (by kernel_rfl) (StepsIf.yield (by kernel_rfl) (fun w' hS => by obtain ⟨c0, c1⟩ := hS.1.1; clear hS; go_simp)) ?_
    intro a' ha'
    simp only [Act.put, List.setIfInBounds_toArray, List.set_cons_zero, List.set_cons_succ] at ha'
    subst ha'
    refine AnyS.next (i := 49) (d := some 117) (v := .bool true) rfl rfl (by kernel_rfl) (by kernel_rfl) (by kernel_rfl) (StepsIf.yield (by kernel_rfl) (fun w' hS => by clear hS; go_simp)) ?_
    intro a' ha'
    simp only [Act.put, List.setIfInBounds_toArray, List.set_cons_zero, List.set_cons_succ] at ha'
    subst ha'
    refine AnyS.next (i := 50) (d := some 118) (v := .bool true) rfl rfl (by kernel_rfl) (by kernel_rfl) (by kernel_rfl) (StepsIf.yield (by kernel_rfl) (fun w' hS => by clear hS; go_simp)) ?_
    intro a' ha'
    simp only [Act.put, List.setIfInBounds_toArray, List.set_cons_zero, List.set_cons_succ] at ha'
    subst ha'
    refine AnyS.next (i := 51) (d := some 119) (v := setV s) rfl rfl (by kernel_rfl) (by kernel_rfl) (by kernel_rfl) (StepsIf.yield (by kernel_rfl) (fun w' hS => by obtain ⟨c0, c1, c2, c3⟩ := hS.1.2.2; clear hS; go_simp)) ?_
    intro a' ha'
    simp only [Act.put, List.setIfInBounds_toArray, List.set_cons_zero, List.set_cons_succ] at ha'
    subst ha'
    refine AnyS.stepE (i := 52) (d := some 120) rfl rfl (by kernel_rfl) (by kernel_rfl) (by kernel_rfl) ?_
    apply Exists.intro
    apply And.intro
    · apply StepsIf.yield
      · kernel_rfl
      intro w' hS
      clear hS; go_simp
      rfl
    intro a' ha'
    simp only [Act.put, List.setIfInBounds_toArray, List.set_cons_zero, List.set_cons_succ] at ha'
    subst ha'
    refine AnyS.next (i := 53) (d := some 121) (v := .bool u) rfl rfl (by kernel_rfl) (by kernel_rfl) (by kernel_rfl) (StepsIf.call (by kernel_rfl) (fun w' hS => by clear hS; go_simp) (fun w' hS => (hasS s x w' (by omega)).mono fun e1 w'' hh => ⟨by rw [hh.1, qx], SFin.keep hS hh.2⟩)) ?_
    intro a' ha'
    simp only [Act.put, List.setIfInBounds_toArray, List.set_cons_zero, List.set_cons_succ] at ha'
    subst ha'
    refine AnyS.next (i := 54) (d := some 122) (v := setV s) rfl rfl (by kernel_rfl) (by kernel_rfl) (by kernel_rfl) (StepsIf.yield (by kernel_rfl) (fun w' hS => by obtain ⟨c0, c1, c2, c3⟩ := hS.1.2.2; clear hS; go_simp)) ?_
    intro a' ha'
    simp only [Act.put, List.setIfInBounds_toArray, List.set_cons_zero, List.set_cons_succ] at ha'
    subst ha'
    refine AnyS.stepE (i := 55) (d := some 123) rfl rfl (by kernel_rfl) (by kernel_rfl) (by kernel_rfl) ?_
    apply Exists.intro
    apply And.intro
    · apply StepsIf.yield
      · kernel_rfl
      intro w' hS
      clear hS; go_simp
      rfl
    intro a' ha'
    simp only [Act.put, List.setIfInBounds_toArray, List.set_cons_zero, List.set_cons_succ] at ha'
    subst ha'
    refine AnyS.next (i := 56) (d := some 124) (v := .bool v) rfl rfl (by kernel_rfl) (by kernel_rfl) (by kernel_rfl) (StepsIf.call (by kernel_rfl) (fun w' hS => by clear hS; go_simp) (fun w' hS => (hasS s y w' (by omega)).mono fun e1 w'' hh => ⟨by rw [hh.1, qy], SFin.keep hS hh.2⟩)) ?_
    intro a' ha'
    simp only [Act.put, List.setIfInBounds_toArray, List.set_cons_zero, List.set_cons_succ] at ha'
    subst ha'
    refine AnyS.next (i := 57) (d := some 125) (v := .bool e) rfl rfl (by kernel_rfl) (by kernel_rfl) (by kernel_rfl) (StepsIf.yield (by kernel_rfl) (fun w' hS => by clear hS; go_simp)) ?_
    intro a' ha'
    simp only [Act.put, List.setIfInBounds_toArray, List.set_cons_zero, List.set_cons_succ] at ha'
    subst ha'
    refine AnyS.next (i := 58) (d := some 126) (v := .bool e) rfl rfl (by kernel_rfl) (by kernel_rfl) (by kernel_rfl) (StepsIf.yield (by kernel_rfl) (fun w' hS => by clear hS; go_simp)) ?_
    intro a' ha'
    simp only [Act.put, List.setIfInBounds_toArray, List.set_cons_zero, List.set_cons_succ] at ha'
    subst ha'
    refine AnyS.next (i := 59) (d := some 127) (v := .bool true) rfl rfl (by kernel_rfl) (by kernel_rfl) (by kernel_rfl) (StepsIf.yield (by kernel_rfl) (fun w' hS => by clear hS; go_simp)) ?_
    intro a' ha'
    simp only [Act.put, List.setIfInBounds_toArray, List.set_cons_zero, List.set_cons_succ] at ha'
    subst ha'
    refine AnyS.next (i := 60) (d := some 128) (v := .bool true) rfl rfl (by kernel_rfl) (by kernel_rfl) (by kernel_rfl) (StepsIf.yield (by kernel_rfl) (fun w' hS => by clear hS; go_simp)) ?_
    intro a' ha'
    simp only [Act.put, List.setIfInBounds_toArray, List.set_cons_zero, List.set_cons_succ] at ha'
    subst ha'
    refine AnyS.next (i := 61) (d := some 129) (v := .bool true) rfl rfl (by kernel_rfl) (by kernel_rfl) (by kernel_rfl) (StepsIf.yield (by kernel_rfl) (fun w' hS => by clear hS; go_simp)) ?_
    intro a' ha'
    simp only [Act.put, List.setIfInBounds_toArray, List.set_cons_zero, List.set_cons_succ] at ha'
    subst ha'
    refine AnyS.next (i := 62) (d := some 130) (v := .bool true) rfl rfl (by kernel_rfl) (by kernel_rfl) (by kernel_rfl) (StepsIf.call (by kernel_rfl) (fun w' hS => by clear hS; go_simp) (fun w' hS => (HSU.out w').mono fun e1 w'' hh => ⟨hh.1, SFin.keep hS hh.2⟩)) ?_
    intro a' ha'
    simp only [Act.put, List.setIfInBounds_toArray, List.set_cons_zero, List.set_cons_succ] at ha'
    subst ha'
    refine AnyS.next (i := 63) (d := some 131) (v := .bool true) rfl rfl (by kernel_rfl) (by kernel_rfl) (by kernel_rfl) (StepsIf.yield (by kernel_rfl) (fun w' hS => by clear hS; go_simp)) ?_
    intro a' ha'
    simp only [Act.put, List.setIfInBounds_toArray, List.set_cons_zero, List.set_cons_succ] at ha'
    subst ha'
    refine AnyS.next (i := 64) (d := some 6) (v := .bool true) rfl rfl (by kernel_rfl) (by kernel_rfl) (by kernel_rfl) (StepsIf.yield (by kernel_rfl) (fun w' hS => by clear hS; go_simp)) ?_
    intro a' ha'
    simp only [Act.put, List.setIfInBounds_toArray, List.set_cons_zero, List.set_cons_succ] at ha'
    subst ha'
    refine AnyS.done (by kernel_rfl) ?_ _
    intro w5 h5
    have HB5 := Lib.hid h5.2.2
    clear h5 HF
    go_wp2_with fail
    go_ret
    exact ⟨rfl, HB5.out⟩
  · have qa : ((ax : Int) == (ay : Int)) = false := by rw [beq_eq_false_iff_ne]; omega
    have hne : ¬ bx = by_ := fun hh => hea (hsn.1 hh).1
    have qb : ((bx : Int) == (by_ : Int)) = false := by rw [beq_eq_false_iff_ne]; omega
    have qc : ((bx : Int) != (by_ : Int)) = true := by rw [bne_iff_ne]; omega
    clear hsn hea hu hv HSN HEA HEB hne
    go_wp2_with fail
    go_upto_region 9 with fail
    refine region_steps (S := SFin w x y w.heap.size g1 ax ay g11 bx by_ s) (by kernel_rfl) (SFin.drew HF.out) ?_
    simp only [List.size_toArray]
    refine AnyS.stepE (i := 0) (d := some 68) rfl rfl (by kernel_rfl) (by kernel_rfl) (by kernel_rfl) ?_
    apply Exists.intro
    apply And.intro
    · apply StepsIf.yield
      · kernel_rfl
      intro w' hS
      clear hS; go_simp
      rfl
    intro a' ha'
    simp only [Act.put, List.setIfInBounds_toArray, List.set_cons_zero, List.set_cons_succ] at ha'
    subst ha'
    refine AnyS.stepE (i := 1) (d := some 69) rfl rfl (by kernel_rfl) (by kernel_rfl) (by kernel_rfl) ?_
    apply Exists.intro
    apply And.intro
    · apply StepsIf.yield
      · kernel_rfl
      intro w' hS
      clear hS; go_simp
      rfl
    intro a' ha'
    simp only [Act.put, List.setIfInBounds_toArray, List.set_cons_zero, List.set_cons_succ] at ha'
    subst ha'
    refine AnyS.next (i := 2) (d := some 70) (v := .bool true) rfl rfl (by kernel_rfl) (by kernel_rfl) (by kernel_rfl) (StepsIf.yield (by kernel_rfl) (fun w' hS => by clear hS; go_simp)) ?_
    intro a' ha'
    simp only [Act.put, List.setIfInBounds_toArray, List.set_cons_zero, List.set_cons_succ] at ha'
    subst ha'
    refine AnyS.next (i := 3) (d := some 71) (v := .bool true) rfl rfl (by kernel_rfl) (by kernel_rfl) (by kernel_rfl) (StepsIf.yield (by kernel_rfl) (fun w' hS => by clear hS; go_simp)) ?_
    intro a' ha'
    simp only [Act.put, List.setIfInBounds_toArray, List.set_cons_zero, List.set_cons_succ] at ha'
    subst ha'
    refine AnyS.stepE (i := 4) (d := some 72) rfl rfl (by kernel_rfl) (by kernel_rfl) (by kernel_rfl) ?_
    apply Exists.intro
    apply And.intro
    · apply StepsIf.yield
      · kernel_rfl
      intro w' hS
      clear hS; go_simp
      rfl
    intro a' ha'
    simp only [Act.put, List.setIfInBounds_toArray, List.set_cons_zero, List.set_cons_succ] at ha'
    subst ha'
    refine AnyS.stepE (i := 5) (d := some 73) rfl rfl (by kernel_rfl) (by kernel_rfl) (by kernel_rfl) ?_
    apply Exists.intro
    apply And.intro
    · apply StepsIf.yield
      · kernel_rfl
      intro w' hS
      clear hS; go_simp
      rfl
    intro a' ha'
    simp only [Act.put, List.setIfInBounds_toArray, List.set_cons_zero, List.set_cons_succ] at ha'
    subst ha'
    refine AnyS.next (i := 6) (d := some 74) (v := .int .i64 (2 * ((N1 : Nat) : Int))) rfl rfl (by kernel_rfl) (by kernel_rfl) (by kernel_rfl) (StepsIf.yield (by kernel_rfl) (fun w' hS => by clear hS; go_simp)) ?_
    intro a' ha'
    simp only [Act.put, List.setIfInBounds_toArray, List.set_cons_zero, List.set_cons_succ] at ha'
    subst ha'
    refine AnyS.next (i := 7) (d := some 75) (v := .bool true) rfl rfl (by kernel_rfl) (by kernel_rfl) (by kernel_rfl) (StepsIf.yield (by kernel_rfl) (fun w' hS => by clear hS; go_simp)) ?_
    intro a' ha'
    simp only [Act.put, List.setIfInBounds_toArray, List.set_cons_zero, List.set_cons_succ] at ha'
    subst ha'
    refine AnyS.next (i := 8) (d := some 76) (v := .bool true) rfl rfl (by kernel_rfl) (by kernel_rfl) (by kernel_rfl) (StepsIf.yield (by kernel_rfl) (fun w' hS => by clear hS; go_simp)) ?_
    intro a' ha'
    simp only [Act.put, List.setIfInBounds_toArray, List.set_cons_zero, List.set_cons_succ] at ha'
    subst ha'
    refine AnyS.next (i := 9) (d := some 77) (v := .bool true) rfl rfl (by kernel_rfl) (by kernel_rfl) (by kernel_rfl) (StepsIf.yield (by kernel_rfl) (fun w' hS => by clear hS; go_simp)) ?_
    intro a' ha'
    simp only [Act.put, List.setIfInBounds_toArray, List.set_cons_zero, List.set_cons_succ] at ha'
    subst ha'
    refine AnyS.stepE (i := 10) (d := some 78) rfl rfl (by kernel_rfl) (by kernel_rfl) (by kernel_rfl) ?_
    apply Exists.intro
    apply And.intro
    · apply StepsIf.yield
      · kernel_rfl
      intro w' hS
      clear hS; go_simp
      rfl
    intro a' ha'
    simp only [Act.put, List.setIfInBounds_toArray, List.set_cons_zero, List.set_cons_succ] at ha'
    subst ha'
    refine AnyS.stepE (i := 11) (d := some 79) rfl rfl (by kernel_rfl) (by kernel_rfl) (by kernel_rfl) ?_
    apply Exists.intro
    apply And.intro
    · apply StepsIf.yield
      · kernel_rfl
      intro w' hS
      clear hS; go_simp
      rfl
    intro a' ha'
    simp only [Act.put, List.setIfInBounds_toArray, List.set_cons_zero, List.set_cons_succ] at ha'
    subst ha'
    refine AnyS.stepE (i := 12) (d := some 80) rfl rfl (by kernel_rfl) (by kernel_rfl) (by kernel_rfl) ?_
    apply Exists.intro
    apply And.intro
    · apply StepsIf.yield
      · kernel_rfl
      intro w' hS
      clear hS; go_simp
      rfl
    intro a' ha'
    simp only [Act.put, List.setIfInBounds_toArray, List.set_cons_zero, List.set_cons_succ] at ha'
    subst ha'
    refine AnyS.next (i := 13) (d := some 81) (v := .int .i64 ((ax : Nat) : Int)) rfl rfl (by kernel_rfl) (by kernel_rfl) (by kernel_rfl) (StepsIf.yield (by kernel_rfl) (fun w' hS => by obtain ⟨c0, c1⟩ := hS.1.1; clear hS; go_simp)) ?_
    intro a' ha'
    simp only [Act.put, List.setIfInBounds_toArray, List.set_cons_zero, List.set_cons_succ] at ha'
    subst ha'
    refine AnyS.stepE (i := 14) (d := some 82) rfl rfl (by kernel_rfl) (by kernel_rfl) (by kernel_rfl) ?_
    apply Exists.intro
    apply And.intro
    · apply StepsIf.yield
      · kernel_rfl
      intro w' hS
      clear hS; go_simp
      rfl
    intro a' ha'
    simp only [Act.put, List.setIfInBounds_toArray, List.set_cons_zero, List.set_cons_succ] at ha'
    subst ha'
    refine AnyS.stepE (i := 15) (d := some 83) rfl rfl (by kernel_rfl) (by kernel_rfl) (by kernel_rfl) ?_
    apply Exists.intro
    apply And.intro
    · apply StepsIf.yield
      · kernel_rfl
      intro w' hS
      clear hS; go_simp
      rfl
    intro a' ha'
    simp only [Act.put, List.setIfInBounds_toArray, List.set_cons_zero, List.set_cons_succ] at ha'
    subst ha'
    refine AnyS.stepE (i := 16) (d := some 84) rfl rfl (by kernel_rfl) (by kernel_rfl) (by kernel_rfl) ?_
    apply Exists.intro
    apply And.intro
    · apply StepsIf.yield
      · kernel_rfl
      intro w' hS
      clear hS; go_simp
      rfl
    intro a' ha'
    simp only [Act.put, List.setIfInBounds_toArray, List.set_cons_zero, List.set_cons_succ] at ha'
    subst ha'
    refine AnyS.next (i := 17) (d := some 85) (v := .int .i64 ((ay : Nat) : Int)) rfl rfl (by kernel_rfl) (by kernel_rfl) (by kernel_rfl) (StepsIf.yield (by kernel_rfl) (fun w' hS => by obtain ⟨c0, c1⟩ := hS.1.1; clear hS; go_simp)) ?_
    intro a' ha'
    simp only [Act.put, List.setIfInBounds_toArray, List.set_cons_zero, List.set_cons_succ] at ha'
    subst ha'
    refine AnyS.next (i := 18) (d := some 86) (v := .bool false) rfl rfl (by kernel_rfl) (by kernel_rfl) (by kernel_rfl) (StepsIf.yield (by kernel_rfl) (fun w' hS => by clear hS; go_simp)) ?_
    intro a' ha'
    simp only [Act.put, List.setIfInBounds_toArray, List.set_cons_zero, List.set_cons_succ] at ha'
    subst ha'
    refine AnyS.next (i := 19) (d := some 87) (v := .bool false) rfl rfl (by kernel_rfl) (by kernel_rfl) (by kernel_rfl) (StepsIf.yield (by kernel_rfl) (fun w' hS => by clear hS; go_simp)) ?_
    intro a' ha'
    simp only [Act.put, List.setIfInBounds_toArray, List.set_cons_zero, List.set_cons_succ] at ha'
    subst ha'
    refine AnyS.stepE (i := 20) (d := some 88) rfl rfl (by kernel_rfl) (by kernel_rfl) (by kernel_rfl) ?_
    apply Exists.intro
    apply And.intro
    · apply StepsIf.yield
      · kernel_rfl
      intro w' hS
      clear hS; go_simp
      rfl
    intro a' ha'
    simp only [Act.put, List.setIfInBounds_toArray, List.set_cons_zero, List.set_cons_succ] at ha'
    subst ha'
    refine AnyS.stepE (i := 21) (d := some 89) rfl rfl (by kernel_rfl) (by kernel_rfl) (by kernel_rfl) ?_
    apply Exists.intro
    apply And.intro
    · apply StepsIf.yield
      · kernel_rfl
      intro w' hS
      clear hS; go_simp
      rfl
    intro a' ha'
    simp only [Act.put, List.setIfInBounds_toArray, List.set_cons_zero, List.set_cons_succ] at ha'
    subst ha'
    refine AnyS.stepE (i := 22) (d := some 90) rfl rfl (by kernel_rfl) (by kernel_rfl) (by kernel_rfl) ?_
    apply Exists.intro
    apply And.intro
    · apply StepsIf.yield
      · kernel_rfl
      intro w' hS
      clear hS; go_simp
      rfl
    intro a' ha'
    simp only [Act.put, List.setIfInBounds_toArray, List.set_cons_zero, List.set_cons_succ] at ha'
    subst ha'
    refine AnyS.next (i := 23) (d := some 91) (v := .int .i64 ((bx : Nat) : Int)) rfl rfl (by kernel_rfl) (by kernel_rfl) (by kernel_rfl) (StepsIf.yield (by kernel_rfl) (fun w' hS => by obtain ⟨c0, c1⟩ := hS.1.2.1; clear hS; go_simp)) ?_
    intro a' ha'
    simp only [Act.put, List.setIfInBounds_toArray, List.set_cons_zero, List.set_cons_succ] at ha'
    subst ha'
    refine AnyS.stepE (i := 24) (d := some 92) rfl rfl (by kernel_rfl) (by kernel_rfl) (by kernel_rfl) ?_
    apply Exists.intro
    apply And.intro
    · apply StepsIf.yield
      · kernel_rfl
      intro w' hS
      clear hS; go_simp
      rfl
    intro a' ha'
    simp only [Act.put, List.setIfInBounds_toArray, List.set_cons_zero, List.set_cons_succ] at ha'
    subst ha'
    refine AnyS.stepE (i := 25) (d := some 93) rfl rfl (by kernel_rfl) (by kernel_rfl) (by kernel_rfl) ?_
    apply Exists.intro
    apply And.intro
    · apply StepsIf.yield
      · kernel_rfl
      intro w' hS
      clear hS; go_simp
      rfl
    intro a' ha'
    simp only [Act.put, List.setIfInBounds_toArray, List.set_cons_zero, List.set_cons_succ] at ha'
    subst ha'
    refine AnyS.stepE (i := 26) (d := some 94) rfl rfl (by kernel_rfl) (by kernel_rfl) (by kernel_rfl) ?_
    apply Exists.intro
    apply And.intro
    · apply StepsIf.yield
      · kernel_rfl
      intro w' hS
      clear hS; go_simp
      rfl
    intro a' ha'
    simp only [Act.put, List.setIfInBounds_toArray, List.set_cons_zero, List.set_cons_succ] at ha'
    subst ha'
    refine AnyS.next (i := 27) (d := some 95) (v := .int .i64 ((by_ : Nat) : Int)) rfl rfl (by kernel_rfl) (by kernel_rfl) (by kernel_rfl) (StepsIf.yield (by kernel_rfl) (fun w' hS => by obtain ⟨c0, c1⟩ := hS.1.2.1; clear hS; go_simp)) ?_
    intro a' ha'
    simp only [Act.put, List.setIfInBounds_toArray, List.set_cons_zero, List.set_cons_succ] at ha'
    subst ha'
    refine AnyS.next (i := 28) (d := some 96) (v := .bool true) rfl rfl (by kernel_rfl) (by kernel_rfl) (by kernel_rfl) (StepsIf.yield (by kernel_rfl) (fun w' hS => by clear hS; go_simp)) ?_
    intro a' ha'
    simp only [Act.put, List.setIfInBounds_toArray, List.set_cons_zero, List.set_cons_succ] at ha'
    subst ha'
    refine AnyS.next (i := 29) (d := some 97) (v := .bool true) rfl rfl (by kernel_rfl) (by kernel_rfl) (by kernel_rfl) (StepsIf.yield (by kernel_rfl) (fun w' hS => by clear hS; go_simp)) ?_
    intro a' ha'
    simp only [Act.put, List.setIfInBounds_toArray, List.set_cons_zero, List.set_cons_succ] at ha'
    subst ha'
    refine AnyS.next (i := 30) (d := some 98) (v := .bool true) rfl rfl (by kernel_rfl) (by kernel_rfl) (by kernel_rfl) (StepsIf.yield (by kernel_rfl) (fun w' hS => by clear hS; go_simp)) ?_
    intro a' ha'
    simp only [Act.put, List.setIfInBounds_toArray, List.set_cons_zero, List.set_cons_succ] at ha'
    subst ha'
    refine AnyS.next (i := 31) (d := some 99) (v := .bool true) rfl rfl (by kernel_rfl) (by kernel_rfl) (by kernel_rfl) (StepsIf.yield (by kernel_rfl) (fun w' hS => by clear hS; go_simp)) ?_
    intro a' ha'
    simp only [Act.put, List.setIfInBounds_toArray, List.set_cons_zero, List.set_cons_succ] at ha'
    subst ha'
    refine AnyS.stepE (i := 32) (d := some 100) rfl rfl (by kernel_rfl) (by kernel_rfl) (by kernel_rfl) ?_
    apply Exists.intro
    apply And.intro
    · apply StepsIf.yield
      · kernel_rfl
      intro w' hS
      clear hS; go_simp
      rfl
    intro a' ha'
    simp only [Act.put, List.setIfInBounds_toArray, List.set_cons_zero, List.set_cons_succ] at ha'
    subst ha'
    refine AnyS.stepE (i := 33) (d := some 101) rfl rfl (by kernel_rfl) (by kernel_rfl) (by kernel_rfl) ?_
    apply Exists.intro
    apply And.intro
    · apply StepsIf.yield
      · kernel_rfl
      intro w' hS
      clear hS; go_simp
      rfl
    intro a' ha'
    simp only [Act.put, List.setIfInBounds_toArray, List.set_cons_zero, List.set_cons_succ] at ha'
    subst ha'
    refine AnyS.stepE (i := 34) (d := some 102) rfl rfl (by kernel_rfl) (by kernel_rfl) (by kernel_rfl) ?_
    apply Exists.intro
    apply And.intro
    · apply StepsIf.yield
      · kernel_rfl
      intro w' hS
      clear hS; go_simp
      rfl
    intro a' ha'
    simp only [Act.put, List.setIfInBounds_toArray, List.set_cons_zero, List.set_cons_succ] at ha'
    subst ha'
    refine AnyS.next (i := 35) (d := some 103) (v := .int .i64 ((bx : Nat) : Int)) rfl rfl (by kernel_rfl) (by kernel_rfl) (by kernel_rfl) (StepsIf.yield (by kernel_rfl) (fun w' hS => by obtain ⟨c0, c1⟩ := hS.1.2.1; clear hS; go_simp)) ?_
    intro a' ha'
    simp only [Act.put, List.setIfInBounds_toArray, List.set_cons_zero, List.set_cons_succ] at ha'
    subst ha'
    refine AnyS.stepE (i := 36) (d := some 104) rfl rfl (by kernel_rfl) (by kernel_rfl) (by kernel_rfl) ?_
    apply Exists.intro
    apply And.intro
    · apply StepsIf.yield
      · kernel_rfl
      intro w' hS
      clear hS; go_simp
      rfl
    intro a' ha'
    simp only [Act.put, List.setIfInBounds_toArray, List.set_cons_zero, List.set_cons_succ] at ha'
    subst ha'
    refine AnyS.stepE (i := 37) (d := some 105) rfl rfl (by kernel_rfl) (by kernel_rfl) (by kernel_rfl) ?_
    apply Exists.intro
    apply And.intro
    · apply StepsIf.yield
      · kernel_rfl
      intro w' hS
      clear hS; go_simp
      rfl
    intro a' ha'
    simp only [Act.put, List.setIfInBounds_toArray, List.set_cons_zero, List.set_cons_succ] at ha'
    subst ha'
    refine AnyS.stepE (i := 38) (d := some 106) rfl rfl (by kernel_rfl) (by kernel_rfl) (by kernel_rfl) ?_
    apply Exists.intro
    apply And.intro
    · apply StepsIf.yield
      · kernel_rfl
      intro w' hS
      clear hS; go_simp
      rfl
    intro a' ha'
    simp only [Act.put, List.setIfInBounds_toArray, List.set_cons_zero, List.set_cons_succ] at ha'
    subst ha'
    refine AnyS.next (i := 39) (d := some 107) (v := .int .i64 ((by_ : Nat) : Int)) rfl rfl (by kernel_rfl) (by kernel_rfl) (by kernel_rfl) (StepsIf.yield (by kernel_rfl) (fun w' hS => by obtain ⟨c0, c1⟩ := hS.1.2.1; clear hS; go_simp)) ?_
    intro a' ha'
    simp only [Act.put, List.setIfInBounds_toArray, List.set_cons_zero, List.set_cons_succ] at ha'
    subst ha'
    refine AnyS.next (i := 40) (d := some 108) (v := .bool false) rfl rfl (by kernel_rfl) (by kernel_rfl) (by kernel_rfl) (StepsIf.yield (by kernel_rfl) (fun w' hS => by clear hS; go_simp)) ?_
    intro a' ha'
    simp only [Act.put, List.setIfInBounds_toArray, List.set_cons_zero, List.set_cons_succ] at ha'
    subst ha'
    refine AnyS.stepE (i := 41) (d := some 109) rfl rfl (by kernel_rfl) (by kernel_rfl) (by kernel_rfl) ?_
    apply Exists.intro
    apply And.intro
    · apply StepsIf.yield
      · kernel_rfl
      intro w' hS
      clear hS; go_simp
      rfl
    intro a' ha'
    simp only [Act.put, List.setIfInBounds_toArray, List.set_cons_zero, List.set_cons_succ] at ha'
    subst ha'
    refine AnyS.stepE (i := 42) (d := some 110) rfl rfl (by kernel_rfl) (by kernel_rfl) (by kernel_rfl) ?_
    apply Exists.intro
    apply And.intro
    · apply StepsIf.yield
      · kernel_rfl
      intro w' hS
      clear hS; go_simp
      rfl
    intro a' ha'
    simp only [Act.put, List.setIfInBounds_toArray, List.set_cons_zero, List.set_cons_succ] at ha'
    subst ha'
    refine AnyS.stepE (i := 43) (d := some 111) rfl rfl (by kernel_rfl) (by kernel_rfl) (by kernel_rfl) ?_
    apply Exists.intro
    apply And.intro
    · apply StepsIf.yield
      · kernel_rfl
      intro w' hS
      clear hS; go_simp
      rfl
    intro a' ha'
    simp only [Act.put, List.setIfInBounds_toArray, List.set_cons_zero, List.set_cons_succ] at ha'
    subst ha'
    refine AnyS.next (i := 44) (d := some 112) (v := .int .i64 ((ax : Nat) : Int)) rfl rfl (by kernel_rfl) (by kernel_rfl) (by kernel_rfl) (StepsIf.yield (by kernel_rfl) (fun w' hS => by obtain ⟨c0, c1⟩ := hS.1.1; clear hS; go_simp)) ?_
    intro a' ha'
    simp only [Act.put, List.setIfInBounds_toArray, List.set_cons_zero, List.set_cons_succ] at ha'
    subst ha'
    refine AnyS.stepE (i := 45) (d := some 113) rfl rfl (by kernel_rfl) (by kernel_rfl) (by kernel_rfl) ?_
    apply Exists.intro
    apply And.intro
    · apply StepsIf.yield
      · kernel_rfl
      intro w' hS
      clear hS; go_simp
      rfl
    intro a' ha'
    simp only [Act.put, List.setIfInBounds_toArray, List.set_cons_zero, List.set_cons_succ] at ha'
    subst ha'
    refine AnyS.stepE (i := 46) (d := some 114) rfl rfl (by kernel_rfl) (by kernel_rfl) (by kernel_rfl) ?_
    apply Exists.intro
    apply And.intro
    · apply StepsIf.yield
      · kernel_rfl
      intro w' hS
      clear hS; go_simp
      rfl
    intro a' ha'
    simp only [Act.put, List.setIfInBounds_toArray, List.set_cons_zero, List.set_cons_succ] at ha'
    subst ha'
    refine AnyS.stepE (i := 47) (d := some 115) rfl rfl (by kernel_rfl) (by kernel_rfl) (by kernel_rfl) ?_
    apply Exists.intro
    apply And.intro
    · apply StepsIf.yield
      · kernel_rfl
      intro w' hS
      clear hS; go_simp
      rfl
    intro a' ha'
    simp only [Act.put, List.setIfInBounds_toArray, List.set_cons_zero, List.set_cons_succ] at ha'
    subst ha'
    refine AnyS.next (i := 48) (d := some 116) (v := .int .i64 ((ay : Nat) : Int)) rfl rfl (by kernel_rfl) (by kernel_rfl) (by kernel_rfl) (StepsIf.yield (by kernel_rfl) (fun w' hS => by obtain ⟨c0, c1⟩ := hS.1.1; clear hS; go_simp)) ?_
    intro a' ha'
    simp only [Act.put, List.setIfInBounds_toArray, List.set_cons_zero, List.set_cons_succ] at ha'
    subst ha'
    refine AnyS.next (i := 49) (d := some 117) (v := .bool false) rfl rfl (by kernel_rfl) (by kernel_rfl) (by kernel_rfl) (StepsIf.yield (by kernel_rfl) (fun w' hS => by clear hS; go_simp)) ?_
    intro a' ha'
    simp only [Act.put, List.setIfInBounds_toArray, List.set_cons_zero, List.set_cons_succ] at ha'
    subst ha'
    refine AnyS.next (i := 50) (d := some 118) (v := .bool false) rfl rfl (by kernel_rfl) (by kernel_rfl) (by kernel_rfl) (StepsIf.yield (by kernel_rfl) (fun w' hS => by clear hS; go_simp)) ?_
    intro a' ha'
    simp only [Act.put, List.setIfInBounds_toArray, List.set_cons_zero, List.set_cons_succ] at ha'
    subst ha'
    refine AnyS.next (i := 51) (d := some 119) (v := undef) rfl rfl (by kernel_rfl) (by kernel_rfl) (by kernel_rfl) (StepsIf.no (by kernel_rfl)) ?_
    intro a' ha'
    simp only [Act.put, List.setIfInBounds_toArray, List.set_cons_zero, List.set_cons_succ] at ha'
    subst ha'
    refine AnyS.next (i := 52) (d := some 120) (v := undef) rfl rfl (by kernel_rfl) (by kernel_rfl) (by kernel_rfl) (StepsIf.no (by kernel_rfl)) ?_
    intro a' ha'
    simp only [Act.put, List.setIfInBounds_toArray, List.set_cons_zero, List.set_cons_succ] at ha'
    subst ha'
    refine AnyS.next (i := 53) (d := some 121) (v := undef) rfl rfl (by kernel_rfl) (by kernel_rfl) (by kernel_rfl) (StepsIf.no (by kernel_rfl)) ?_
    intro a' ha'
    simp only [Act.put, List.setIfInBounds_toArray, List.set_cons_zero, List.set_cons_succ] at ha'
    subst ha'
    refine AnyS.next (i := 54) (d := some 122) (v := undef) rfl rfl (by kernel_rfl) (by kernel_rfl) (by kernel_rfl) (StepsIf.no (by kernel_rfl)) ?_
    intro a' ha'
    simp only [Act.put, List.setIfInBounds_toArray, List.set_cons_zero, List.set_cons_succ] at ha'
    subst ha'
    refine AnyS.next (i := 55) (d := some 123) (v := undef) rfl rfl (by kernel_rfl) (by kernel_rfl) (by kernel_rfl) (StepsIf.no (by kernel_rfl)) ?_
    intro a' ha'
    simp only [Act.put, List.setIfInBounds_toArray, List.set_cons_zero, List.set_cons_succ] at ha'
    subst ha'
    refine AnyS.next (i := 56) (d := some 124) (v := undef) rfl rfl (by kernel_rfl) (by kernel_rfl) (by kernel_rfl) (StepsIf.no (by kernel_rfl)) ?_
    intro a' ha'
    simp only [Act.put, List.setIfInBounds_toArray, List.set_cons_zero, List.set_cons_succ] at ha'
    subst ha'
    refine AnyS.next (i := 57) (d := some 125) (v := undef) rfl rfl (by kernel_rfl) (by kernel_rfl) (by kernel_rfl) (StepsIf.no (by kernel_rfl)) ?_
    intro a' ha'
    simp only [Act.put, List.setIfInBounds_toArray, List.set_cons_zero, List.set_cons_succ] at ha'
    subst ha'
    refine AnyS.next (i := 58) (d := some 126) (v := .bool false) rfl rfl (by kernel_rfl) (by kernel_rfl) (by kernel_rfl) (StepsIf.yield (by kernel_rfl) (fun w' hS => by clear hS; go_simp)) ?_
    intro a' ha'
    simp only [Act.put, List.setIfInBounds_toArray, List.set_cons_zero, List.set_cons_succ] at ha'
    subst ha'
    refine AnyS.next (i := 59) (d := some 127) (v := .bool true) rfl rfl (by kernel_rfl) (by kernel_rfl) (by kernel_rfl) (StepsIf.yield (by kernel_rfl) (fun w' hS => by clear hS; go_simp)) ?_
    intro a' ha'
    simp only [Act.put, List.setIfInBounds_toArray, List.set_cons_zero, List.set_cons_succ] at ha'
    subst ha'
    refine AnyS.next (i := 60) (d := some 128) (v := .bool true) rfl rfl (by kernel_rfl) (by kernel_rfl) (by kernel_rfl) (StepsIf.yield (by kernel_rfl) (fun w' hS => by clear hS; go_simp)) ?_
    intro a' ha'
    simp only [Act.put, List.setIfInBounds_toArray, List.set_cons_zero, List.set_cons_succ] at ha'
    subst ha'
    refine AnyS.next (i := 61) (d := some 129) (v := .bool true) rfl rfl (by kernel_rfl) (by kernel_rfl) (by kernel_rfl) (StepsIf.yield (by kernel_rfl) (fun w' hS => by clear hS; go_simp)) ?_
    intro a' ha'
    simp only [Act.put, List.setIfInBounds_toArray, List.set_cons_zero, List.set_cons_succ] at ha'
    subst ha'
    refine AnyS.next (i := 62) (d := some 130) (v := .bool true) rfl rfl (by kernel_rfl) (by kernel_rfl) (by kernel_rfl) (StepsIf.call (by kernel_rfl) (fun w' hS => by clear hS; go_simp) (fun w' hS => (HSU.out w').mono fun e1 w'' hh => ⟨hh.1, SFin.keep hS hh.2⟩)) ?_
    intro a' ha'
    simp only [Act.put, List.setIfInBounds_toArray, List.set_cons_zero, List.set_cons_succ] at ha'
    subst ha'
    refine AnyS.next (i := 63) (d := some 131) (v := .bool true) rfl rfl (by kernel_rfl) (by kernel_rfl) (by kernel_rfl) (StepsIf.yield (by kernel_rfl) (fun w' hS => by clear hS; go_simp)) ?_
    intro a' ha'
    simp only [Act.put, List.setIfInBounds_toArray, List.set_cons_zero, List.set_cons_succ] at ha'
    subst ha'
    refine AnyS.next (i := 64) (d := some 6) (v := .bool true) rfl rfl (by kernel_rfl) (by kernel_rfl) (by kernel_rfl) (StepsIf.yield (by kernel_rfl) (fun w' hS => by clear hS; go_simp)) ?_
    intro a' ha'
    simp only [Act.put, List.setIfInBounds_toArray, List.set_cons_zero, List.set_cons_succ] at ha'
    subst ha'
    refine AnyS.done (by kernel_rfl) ?_ _
    intro w5 h5
    have HB5 := Lib.hid h5.2.2
    clear h5 HF
    go_wp2_with fail
    go_ret
    exact ⟨rfl, HB5.out⟩
end Go.Proofs.Ytbfcancmljdjhaa

/- Texts put together: Sz Trq. -/
import Derived.Test.YtdpkhliojbeglaaDoorPM
import Derived.Deep.MidRow
import Derived.Maps.AppendAt
import Derived.Test.YtdpkhliojbeglaaDoorPE
import Derived.Laws.Slices
/- Runs: a set's runs, as the program tells them. -/
namespace Go.Proofs.YtdpkhliojbeglaaDoor
open Go.RowKit Go.Shelf BS
attribute [local go_sem] Oper.semAt_some

/-- One byte more: the last run grows, or a new one begins. -/
def runStep (rs : List (Nat × Nat)) (x : Nat) : List (Nat × Nat) :=
  match rs.getLast? with
  | some (a, b) => if (b + 1) % 256 = x then rs.dropLast ++ [(a, x)] else rs ++ [(x, x)]
  | none => [(x, x)]
def runsOf (l : List Nat) : List (Nat × Nat) := l.foldl runStep []
theorem runsOf_snoc (l : List Nat) (x : Nat) : runsOf (l ++ [x]) = runStep (runsOf l) x := by simp [runsOf]

theorem info2b : (Tryd.prog.info? 116).map (fun i => (i.zero, i.size, i.bytes)) = some (some (.agg #[.int .u8 0, .int .u8 0]), 2, 2) := by kernel_rfl

/-- The cells of a list of runs. -/
def runCells (rs : List (Nat × Nat)) : List Value := rs.flatMap fun r => [Value.int .u8 (r.1 : Int), Value.int .u8 (r.2 : Int)]

theorem runCells_len (rs : List (Nat × Nat)) : (runCells rs).length = rs.length * 2 := by
  induction rs with
  | nil => rfl
  | cons r rs ih => simp only [runCells, List.flatMap_cons, List.length_append, List.length_cons, List.length_nil] at ih ⊢; omega
theorem runCells_snoc (rs : List (Nat × Nat)) (a b : Nat) : runCells (rs ++ [(a, b)]) = runCells rs ++ [.int .u8 (a : Int), .int .u8 (b : Int)] := by simp [runCells]
theorem runCells_last (rs : List (Nat × Nat)) (a b : Nat) : (runCells (rs ++ [(a, b)]))[rs.length * 2 + 1]? = some (.int .u8 (b : Int)) := by
  rw [runCells_snoc, List.getElem?_append_right (by rw [runCells_len]; omega), runCells_len]
  simp
theorem runCells_set (rs : List (Nat × Nat)) (a b x : Nat) : (runCells (rs ++ [(a, b)])).set (rs.length * 2 + 1) (.int .u8 (x : Int)) = runCells (rs ++ [(a, x)]) := by
  rw [runCells_snoc, runCells_snoc, List.set_append_right _ _ (by rw [runCells_len]; omega), runCells_len]
  simp
theorem nil_or_snoc (rs : List (Nat × Nat)) : rs = [] ∨ ∃ rs' a b, rs = rs' ++ [(a, b)] := by
  rcases List.eq_nil_or_concat rs with h | ⟨rs', ⟨a, b⟩, h⟩
  · exact .inl h
  · exact .inr ⟨rs', a, b, by rw [h, List.concat_eq_append]⟩
theorem runStep_len (rs : List (Nat × Nat)) (x : Nat) : (runStep rs x).length ≤ rs.length + 1 := by
  unfold runStep
  split
  · split <;> simp
  · simp
theorem runsOf_len (l : List Nat) : (runsOf l).length ≤ l.length := by
  suffices h : ∀ l rs, (List.foldl runStep rs l).length ≤ rs.length + l.length by simpa [runsOf] using h l []
  intro l
  induction l with
  | nil => intro rs; simp
  | cons x l ih => intro rs; have := ih (runStep rs x); have := runStep_len rs x; simp only [List.foldl_cons, List.length_cons]; omega
theorem runStep_none (x : Nat) : runStep [] x = [(x, x)] := rfl
theorem runStep_grow (rs : List (Nat × Nat)) (a b x : Nat) (h : (b + 1) % 256 = x) : runStep (rs ++ [(a, b)]) x = rs ++ [(a, x)] := by simp [runStep, h]
theorem runStep_new (rs : List (Nat × Nat)) (a b x : Nat) (h : (b + 1) % 256 ≠ x) : runStep (rs ++ [(a, b)]) x = rs ++ [(a, b)] ++ [(x, x)] := by simp [runStep, h]

theorem Blk.news2 {W : World} {B : Nat} {a b : Value} {t : TypeId} (h : Blk W B #[a, b] t) : ∀ j u, [a, b][j]? = some u → W.cell? ((⟨B, 0, none⟩ : Addr).add j) = some u := by
  intro j u hu
  rw [Addr.add_mid]
  rw [Nat.zero_add, h.cell j]
  simpa using hu

set_option maxRecDepth 100000 in
set_option maxHeartbeats 2000000 in
theorem runs_in (n : Nat) (hn : 3 ≤ n) (s : BitVec 256) (w : World) (hT : Tab w) (hg : 0 < w.heap.size) :
    CallsIn Fence.wide n Tryd.prog 59 #[setV s] w fun e W' => ∃ v, e = .returned v ∧ W'.ownsRow w.heap.size 116 2 v (runsOf (el s.getLsbD 256)).length (runCells (runsOf (el s.getLsbD 256))) ∧ Below w.heap.size w W' := by
  have h1 : 1 ≤ n := by omega
  have HT := Lib.hid hT
  clear hT
  refine callsIn_of_wp_marks Tryd.func59 rfl trivial ?_ rfl
  simp only [Tryd.ntmps59, List.size_toArray, List.length_cons, List.length_nil, Nat.reduceAdd, Nat.reduceSub, Array.replicate_succ, Array.replicate_zero, List.push_toArray, List.append_toArray, List.nil_append, List.cons_append]
  gi_wp2_with (refine ⟨trivial, ?_⟩; gi_at_call 79; refine (all_in (n - 1) _ _).mono ?_; rintro e w' ⟨rfl, rfl⟩)
  obtain ⟨i0, hi, hz0, hz1, hz2⟩ := info_parts info2b
  obtain ⟨w0, hw0⟩ : ∃ w0, ((w.alloc (.cells #[.int .u64 (wd s 0), .int .u64 (wd s 1), .int .u64 (wd s 2), .int .u64 (wd s 3)] 58)).alloc (.cells #[.slice none 0 0] 114)) = w0 := ⟨_, rfl⟩
  have bL : Boxed w0 (w.heap.size + 1) 114 (.slice none 0 0) := by
    rw [← hw0]; have := Boxed.new (w.alloc (.cells (setA s) 58)) 114 (.slice none 0 0); rwa [World.size_alloc] at this
  have hz0' : w0.heap.size = w.heap.size + 2 := by rw [← hw0]; simp
  have hB0 : Below w.heap.size w w0 := by rw [← hw0]; go_grown
  rw [hw0, show w.heap.size + 1 + 1 = w0.heap.size by omega]
  clear hw0
  have hz1' : w.heap.size + 2 ≤ w0.heap.size := by omega
  clear hz0'
  have bN := Blk.new w0 (setA s) 58
  have hB1 : Below w.heap.size w (w0.alloc (.cells (setA s) 58)) := hB0.alloc (by omega) _
  refine wpIn_rangeFunc_ownG rfl h1 (gf := 97) (lb := #[.pointer (some ⟨w0.heap.size, 0, none⟩)]) rfl trivial (enters_of Tryd.func97 (by kernel_rfl) rfl)
    (all_stops (n - 1) (by omega) w0.heap.size s _ (by simp <;> omega) (by simp <;> omega) bN.cells4.1 (HT.out.keep hB1 hg)) KeepA.t (KeepA.b (by simp <;> omega) (by simp <;> omega)) (Below.refl _ _) (fun _ => rfl)
    (fun pre W => ((∃ v, Boxed W (w.heap.size + 1) 114 v ∧ W.ownsRow w.heap.size 116 2 v (runsOf pre).length (runCells (runsOf pre)) ∧ (runsOf pre = [] → v = .slice none 0 0)) ∧ Blk W w0.heap.size (setA s) 58) ∧ Below w.heap.size w W)
    (fun _ _ _ => False)
    (OwnFrom.and (Own.from (fun pre A B row hs hg hr => ⟨holdsRow_own w.heap.size (w.heap.size + 1) 114 116 2 (fun pre => (runsOf pre).length) (fun pre => runCells (runsOf pre)) (fun pre v => runsOf pre = [] → v = .slice none 0 0) pre A B row hs.1 hg hr, hs.2.kept hg (hs.2.not_row hr)⟩) _) (ownFrom_below (Nat.le_refl _) (by simp; omega)))
    (fun _ _ _ _ _ hs _ _ => hs)
    ⟨⟨⟨_, bL.alloc _, World.ownsRow_nil _ _ _ _, fun _ => rfl⟩, bN⟩, hB1⟩
    (fun x => { tmps := #[setV s, .pointer (some ⟨w.heap.size, 0, none⟩), .slice none 0 0, .pointer (some ⟨w.heap.size + 1, 0, none⟩), .int .u8 (x : Nat), undef, setV s,
          .func (.func 97) #[] #[.pointer (some ⟨w0.heap.size, 0, none⟩)], .int .u8 (x : Nat), undef, undef, undef, undef, undef, undef, undef, undef, undef, undef, undef, undef, undef, undef, undef, undef, undef,
          undef, undef, undef, undef, undef, undef, undef, undef, undef, undef], defers := [] }) ?assign ?body ?done ?stop
  case assign =>
    intro l x W K hK
    gi_wp2
    exact hK
  case body =>
    rintro l pre x W ⟨⟨⟨v, hv, hr, hnil⟩, hN⟩, hB⟩ hlen
    have hl := runsOf_len pre
    have hc0 := hv.cell
    have hf0 := hv.frozen
    have HS := Lib.hid (runsOf_snoc pre x)
    generalize runsOf pre = rs at *
    rcases nil_or_snoc rs with rfl | ⟨rs', a, b, rfl⟩
    · obtain rfl : v = .slice none 0 0 := hnil rfl
      clear hnil
      gi_wp2_with (gi_at_builtin; refine wpListIn_append_own _ rfl _ _ 114 rfl w.heap.size 116 i0 (.agg #[.int .u8 0, .int .u8 0]) 2 2 Tryd.underlying114 hi hz0 hz1 hz2 rfl (by decide) _ _ _ rfl (hr.alloc _) ⟨W.heap.size, 0, none⟩ 1 1 [.int .u8 (x : Nat), .int .u8 (x : Nat)] rfl rfl (Blk.new W _ _).news2 (by simp [Value.oneCell']) (by simp [maxLen]) (by simp) (by have := hB.size; simp; omega) ?_; intro v' w1 hown' hgrow _; obtain ⟨g', cap', rfl⟩ := ownsRow_succ hown'; obtain ⟨hv1, hv2, hr2, hk2, hb2⟩ := hv.appended (by decide) hr hB.size (by omega) hown' hgrow; have hN1 := (hN.alloc _).kept hgrow (hN.not_own (by decide) hr); have hc1 := hv1.cell; have hf1 := hv1.frozen)
      refine ⟨hk2.from _, ⟨hk2.size, (hN1.other (by omega) _ _).trans hN.symm, hb2.block _ hg⟩, ⟨⟨_, hv2, ?_, ?_⟩, hN1.other (by omega) _ _⟩, hB.trans hb2⟩
      · rw [HS.out]; exact hr2
      · intro h; rw [HS.out] at h; cases h
    · have hln : (rs' ++ [(a, b)]).length = rs'.length + 1 := by simp
      rw [hln] at hr hl
      clear hnil hln
      obtain ⟨g, cap, rfl⟩ := ownsRow_succ hr
      have hcl := (hr.cellAt (rs'.length * 2 + 1) (by omega)).trans (runCells_last rs' a b)
      have hfl := hr.frozenAt (rs'.length * 2 + 1)
      have hgB : g ≠ w.heap.size + 1 := fun e => hv.not_row (by decide) hr (by rw [e]; rfl)
      have hgN : g ≠ w0.heap.size := fun e => hN.not_own (by decide) hr (by rw [e]; rfl)
      have hglt : w.heap.size ≤ g := (hr.lt g rfl).1
      by_cases hbx : (b + 1) % 256 = x
      · have HX := Lib.hid hbx
        have ht : (((b + 1 : Nat) : Int) % 256 == (x : Int)) = true := by rw [beq_iff_eq]; omega
        clear hbx
        gi_wp2
        have hb2 := below_set (Below.refl w.heap.size W) hglt (rs'.length * 2 + 1) (.int .u8 (x : Int))
        refine ⟨(KeepsOthers.setCell _ _ _).from _, ⟨hb2.size, (hN.other (Ne.symm hgN) _ _).trans hN.symm, hb2.block _ hg⟩, ⟨⟨_, Blk.other (vs := #[_]) hv (Ne.symm hgB) _ _, ?_, ?_⟩, hN.other (Ne.symm hgN) _ _⟩, hB.trans hb2⟩
        · rw [HS.out, runStep_grow _ _ _ _ HX.out, ← runCells_set rs' a b x]
          simpa using (hr.stored (rs'.length * 2 + 1) (.int .u8 (x : Int))).1
        · intro h; rw [HS.out, runStep_grow _ _ _ _ HX.out] at h; simp at h
      · have HX := Lib.hid hbx
        have ht : (((b + 1 : Nat) : Int) % 256 == (x : Int)) = false := by rw [beq_eq_false_iff_ne]; omega
        clear hbx
        gi_wp2_with (gi_at_builtin; refine wpListIn_append_own _ rfl _ _ 114 rfl w.heap.size 116 i0 (.agg #[.int .u8 0, .int .u8 0]) 2 2 Tryd.underlying114 hi hz0 hz1 hz2 rfl (by decide) _ _ _ rfl (hr.alloc _) ⟨W.heap.size, 0, none⟩ 1 1 [.int .u8 (x : Nat), .int .u8 (x : Nat)] rfl rfl (Blk.new W _ _).news2 (by simp [Value.oneCell']) (by unfold maxLen; omega) (by omega) (by have := hB.size; simp; omega) ?_; intro v' w1 hown' hgrow _; obtain ⟨g', cap', rfl⟩ := ownsRow_succ hown'; obtain ⟨hv1, hv2, hr2, hk2, hb2⟩ := hv.appended (by decide) hr hB.size (by omega) hown' hgrow; have hN1 := (hN.alloc _).kept hgrow (hN.not_own (by decide) hr); have hc1 := hv1.cell; have hf1 := hv1.frozen)
        refine ⟨hk2.from _, ⟨hk2.size, (hN1.other (by omega) _ _).trans hN.symm, hb2.block _ hg⟩, ⟨⟨_, hv2, ?_, ?_⟩, hN1.other (by omega) _ _⟩, hB.trans hb2⟩
        · rw [HS.out, runStep_new _ _ _ _ HX.out, runCells_snoc]
          simpa using hr2
        · intro h; rw [HS.out, runStep_new _ _ _ _ HX.out] at h; simp at h
  case done =>
    rintro D ys W hD rfl ⟨⟨⟨v, hv, hr, _⟩, hN⟩, hB⟩ hK
    have hc0 := hv.cell
    gi_wp2
    refine ⟨by simp, .inl ⟨_, _, rfl, run_takeDeferred hK, ?_⟩⟩
    exact ⟨_, results_tmp rfl _ _ _, v, rfl, ownsRow_putObj hr _ hK rfl, hB.trans (belowK_b (w := w) (Nat.le_refl _) _ D _ _ (by simp at hD; omega) hK rfl rfl)⟩
  case stop =>
    rintro D c pre W _ _ h _
    exact h.elim
end Go.Proofs.YtdpkhliojbeglaaDoor

/- Which of two lists is ahead: the developers'. Stage 14. -/
namespace Go.Proofs.YtdpkhliojbeglaaDoor
open Go.RowKit BS

set_option maxRecDepth 100000 in
theorem nanE_int (x : Int) (w : World) : Calls Tryd.prog 100 #[.int .i64 x] w fun e w' => e = .returned (.bool false) ∧ w = w' := by
  go_enter Tryd.func100, Tryd.ntmps100
  go_wp2_with fail
  go_ret
  exact ⟨by simp, rfl⟩
set_option maxRecDepth 100000 in
set_option maxHeartbeats 4000000 in
theorem compareE_calls (x y : Int) (w : World) : Calls Tryd.prog 87 #[.int .i64 x, .int .i64 y] w fun e w' => e = .returned (.int .i64 (sgT x y)) ∧ w = w' := by
  have H1 := Lib.hid (fun x W => nanE_int x W)
  unfold sgT
  by_cases h1 : x < y
  · have q1 : decide (x < y) = true := decide_eq_true h1
    rw [if_pos h1]
    clear h1
    go_enter Tryd.func87, Tryd.ntmps87
    go_wp2_with fail
    refine (H1.out _ _).mono ?_
    rintro e w1 ⟨rfl, rfl⟩
    go_wp2_with fail
    refine (H1.out _ _).mono ?_
    rintro e w1 ⟨rfl, rfl⟩
    go_wp2_with fail
    go_ret
    exact ⟨rfl, rfl⟩
  · have q1 : decide (x < y) = false := decide_eq_false h1
    rw [if_neg h1]
    by_cases h2 : y < x
    · have q2 : decide (y < x) = true := decide_eq_true h2
      rw [if_pos h2]
      clear h1 h2
      go_enter Tryd.func87, Tryd.ntmps87
      go_wp2_with fail
      refine (H1.out _ _).mono ?_
      rintro e w1 ⟨rfl, rfl⟩
      go_wp2_with fail
      refine (H1.out _ _).mono ?_
      rintro e w1 ⟨rfl, rfl⟩
      go_wp2_with fail
      go_ret
      exact ⟨rfl, rfl⟩
    · have q2 : decide (y < x) = false := decide_eq_false h2
      rw [if_neg h2]
      clear h1 h2
      go_enter Tryd.func87, Tryd.ntmps87
      go_wp2_with fail
      refine (H1.out _ _).mono ?_
      rintro e w1 ⟨rfl, rfl⟩
      go_wp2_with fail
      refine (H1.out _ _).mono ?_
      rintro e w1 ⟨rfl, rfl⟩
      go_wp2_with fail
      go_ret
      exact ⟨rfl, rfl⟩
/-- The first of two numbers that is not 0. -/
def orT (x y : Int) : Int := if x = 0 then y else x
theorem orT_zero (y : Int) : orT 0 y = y := rfl
theorem orT_ne {x : Int} (y : Int) (h : x ≠ 0) : orT x y = x := if_neg h
theorem sgT_self (x : Int) : sgT x x = 0 := by unfold sgT; rw [if_neg (Int.lt_irrefl x), if_neg (Int.lt_irrefl x)]
theorem or_cmp (xd xn xf xt yd yn yf yt : Int) : orT (orT (orT (orT 0 (sgT yd xd)) (sgT xn yn)) (sgT xf yf)) (sgT yt xt) = cmpE ⟨xd, xn, xf, xt⟩ ⟨yd, yn, yf, yt⟩ := by
  rw [orT_zero]
  by_cases hd : xd = yd
  · subst hd
    rw [sgT_self, orT_zero]
    by_cases hn : xn = yn
    · subst hn
      rw [sgT_self, orT_zero]
      by_cases hf : xf = yf
      · subst hf
        rw [sgT_self, orT_zero]
        by_cases ht : xt = yt
        · subst ht
          rw [sgT_self]
          exact ((cmpE_zero _ _).2 rfl).symm
        · exact (cmp_t ht).1.symm
      · have h := @cmp_f xd xn xf xt yf yt hf
        rw [← h.1]
        exact orT_ne _ h.2
    · have h := @cmp_n xd xn xf xt yn yf yt hn
      rw [← h.1, orT_ne _ h.2]
      exact orT_ne _ h.2
  · have h := @cmp_d xd xn xf xt yd yn yf yt hd
    rw [← h.1, orT_ne _ h.2, orT_ne _ h.2]
    exact orT_ne _ h.2
set_option maxRecDepth 100000 in
set_option maxHeartbeats 4000000 in
theorem orEn_calls (x y : Int) (B : Nat) (w : World) (c0 : w.cell? ⟨B, 0, none⟩ = some (.int .i64 x)) (c1 : w.cell? ⟨B, 1, none⟩ = some (.int .i64 y)) :
    Calls Tryd.prog 68 #[.slice (some ⟨B, 0, none⟩) 2 2] w fun e w' => e = .returned (.int .i64 (if x = 0 then y else x)) ∧ w = w' := by
  go_enter Tryd.func68, Tryd.ntmps68
  go_upto_region 3 with fail
  go_loopw [8] (fun v wr => w = wr ∧ (v = .int .i64 0 ∨ (v = .int .i64 1 ∧ x = 0) ∨ (v = .int .i64 2 ∧ x = 0 ∧ y = 0))) (fun v _ => 3 - (intOf v).toNat)
  case atStart => exact ⟨rfl, .inl rfl⟩
  case round =>
    obtain ⟨rfl, hv⟩ := hrel
    rcases hv with rfl | ⟨rfl, rfl⟩ | ⟨rfl, rfl, rfl⟩
    · by_cases hx : x = 0
      · subst hx
        go_wp2_with fail
        go_roundw
        case rel => simp
        case measure => decide
      · have q : (x != 0) = true := by simpa using hx
        have HX := Lib.hid hx
        clear hx
        go_wp2_with fail
        go_ret
        exact ⟨rfl, rfl⟩
    · by_cases hy : y = 0
      · subst hy
        go_wp2_with fail
        go_roundw
        case rel => simp
        case measure => decide
      · have q : (y != 0) = true := by simpa using hy
        clear hy
        go_wp2_with fail
        go_ret
        exact ⟨rfl, rfl⟩
    · go_wp2_with fail
      go_ret
      exact ⟨rfl, rfl⟩
set_option maxRecDepth 100000 in
set_option maxHeartbeats 8000000 in
theorem byDepth_calls (xd xn xf xt yd yn yf yt : Int) (w : World) : Calls Tryd.prog 64 #[.agg (enI xd xn xf xt), .agg (enI yd yn yf yt)] w fun e w' => e = .returned (.int .i64 (sgT yd xd)) ∧ Below w.heap.size w w' := by
  have bX := (Blk.new w (enI xd xn xf xt) 88).alloc (.cells (enI yd yn yf yt) 88)
  have bY := Blk.new (w.alloc (.cells (enI xd xn xf xt) 88)) (enI yd yn yf yt) 88
  rw [World.size_alloc] at bY
  have HB := Lib.hid (((Below.refl w.heap.size w).alloc (Nat.le_refl _) (.cells (enI xd xn xf xt) 88)).alloc (by rw [World.size_alloc]; omega) (.cells (enI yd yn yf yt) 88))
  have r0 := bX.cell 0
  have t0 := bY.cell 0
  simp only [List.getElem?_toArray, List.getElem?_cons_zero] at r0 t0
  clear bX bY
  go_enter Tryd.func64, Tryd.ntmps64
  go_upto_region 1 with fail
  generalize (w.alloc (.cells (enI xd xn xf xt) 88)).alloc (.cells (enI yd yn yf yt) 88) = w1 at *
  go_wp2_with fail
  refine (compareE_calls yd xd _).mono ?_
  rintro e w4 ⟨rfl, rfl⟩
  go_wp2_with fail
  go_ret
  exact ⟨rfl, HB.out⟩
set_option maxRecDepth 100000 in
set_option maxHeartbeats 8000000 in
theorem byNode_calls (xd xn xf xt yd yn yf yt : Int) (w : World) : Calls Tryd.prog 65 #[.agg (enI xd xn xf xt), .agg (enI yd yn yf yt)] w fun e w' => e = .returned (.int .i64 (sgT xn yn)) ∧ Below w.heap.size w w' := by
  have bX := (Blk.new w (enI xd xn xf xt) 88).alloc (.cells (enI yd yn yf yt) 88)
  have bY := Blk.new (w.alloc (.cells (enI xd xn xf xt) 88)) (enI yd yn yf yt) 88
  rw [World.size_alloc] at bY
  have HB := Lib.hid (((Below.refl w.heap.size w).alloc (Nat.le_refl _) (.cells (enI xd xn xf xt) 88)).alloc (by rw [World.size_alloc]; omega) (.cells (enI yd yn yf yt) 88))
  have r0 := bX.cell 1
  have t0 := bY.cell 1
  simp only [List.getElem?_toArray, List.getElem?_cons_zero, List.getElem?_cons_succ] at r0 t0
  clear bX bY
  go_enter Tryd.func65, Tryd.ntmps65
  go_upto_region 1 with fail
  generalize (w.alloc (.cells (enI xd xn xf xt) 88)).alloc (.cells (enI yd yn yf yt) 88) = w1 at *
  go_wp2_with fail
  refine (compareE_calls xn yn _).mono ?_
  rintro e w4 ⟨rfl, rfl⟩
  go_wp2_with fail
  go_ret
  exact ⟨rfl, HB.out⟩
set_option maxRecDepth 100000 in
set_option maxHeartbeats 8000000 in
theorem byFrom_calls (xd xn xf xt yd yn yf yt : Int) (w : World) : Calls Tryd.prog 66 #[.agg (enI xd xn xf xt), .agg (enI yd yn yf yt)] w fun e w' => e = .returned (.int .i64 (sgT xf yf)) ∧ Below w.heap.size w w' := by
  have bX := (Blk.new w (enI xd xn xf xt) 88).alloc (.cells (enI yd yn yf yt) 88)
  have bY := Blk.new (w.alloc (.cells (enI xd xn xf xt) 88)) (enI yd yn yf yt) 88
  rw [World.size_alloc] at bY
  have HB := Lib.hid (((Below.refl w.heap.size w).alloc (Nat.le_refl _) (.cells (enI xd xn xf xt) 88)).alloc (by rw [World.size_alloc]; omega) (.cells (enI yd yn yf yt) 88))
  have r0 := bX.cell 2
  have t0 := bY.cell 2
  simp only [List.getElem?_toArray, List.getElem?_cons_zero, List.getElem?_cons_succ] at r0 t0
  clear bX bY
  go_enter Tryd.func66, Tryd.ntmps66
  go_upto_region 1 with fail
  generalize (w.alloc (.cells (enI xd xn xf xt) 88)).alloc (.cells (enI yd yn yf yt) 88) = w1 at *
  go_wp2_with fail
  refine (compareE_calls xf yf _).mono ?_
  rintro e w4 ⟨rfl, rfl⟩
  go_wp2_with fail
  go_ret
  exact ⟨rfl, HB.out⟩
set_option maxRecDepth 100000 in
set_option maxHeartbeats 8000000 in
theorem byTo_calls (xd xn xf xt yd yn yf yt : Int) (w : World) : Calls Tryd.prog 67 #[.agg (enI xd xn xf xt), .agg (enI yd yn yf yt)] w fun e w' => e = .returned (.int .i64 (sgT yt xt)) ∧ Below w.heap.size w w' := by
  have bX := (Blk.new w (enI xd xn xf xt) 88).alloc (.cells (enI yd yn yf yt) 88)
  have bY := Blk.new (w.alloc (.cells (enI xd xn xf xt) 88)) (enI yd yn yf yt) 88
  rw [World.size_alloc] at bY
  have HB := Lib.hid (((Below.refl w.heap.size w).alloc (Nat.le_refl _) (.cells (enI xd xn xf xt) 88)).alloc (by rw [World.size_alloc]; omega) (.cells (enI yd yn yf yt) 88))
  have r0 := bX.cell 3
  have t0 := bY.cell 3
  simp only [List.getElem?_toArray, List.getElem?_cons_zero, List.getElem?_cons_succ] at r0 t0
  clear bX bY
  go_enter Tryd.func67, Tryd.ntmps67
  go_upto_region 1 with fail
  generalize (w.alloc (.cells (enI xd xn xf xt) 88)).alloc (.cells (enI yd yn yf yt) 88) = w1 at *
  go_wp2_with fail
  refine (compareE_calls yt xt _).mono ?_
  rintro e w4 ⟨rfl, rfl⟩
  go_wp2_with fail
  go_ret
  exact ⟨rfl, HB.out⟩
theorem infoEt : (Tryd.prog.info? 88).map (·.size) = some 4 := by kernel_rfl
set_option maxRecDepth 100000 in
set_option maxHeartbeats 8000000 in
theorem atD_calls (l : List EnN) (hl : l.length ≤ 1000000) (i : Nat) (_hi : i ≤ 1000000) (a : Option Addr) (cap : Nat) (w : World) (h : EntsAt l a w) :
    Calls Tryd.prog 43 #[.slice a l.length cap, .int .i64 (i : Int)] w fun e w' => e = .returned (.agg (enA (atE l i))) ∧ Below w.heap.size w w' := by
  have hR := Blk.new w (enI 0 0 0 0) 88
  have hB0 : Below w.heap.size w (w.alloc (.cells (enI 0 0 0 0) 88)) := (Below.refl _ _).alloc (Nat.le_refl _) _
  by_cases hlt : i < l.length
  · obtain ⟨g, off, rfl, hg, hc⟩ := h (by rintro rfl; simp at hlt)
    have hd : decide ((l.length : Int) ≤ (i : Int)) = false := by rw [decide_eq_false_iff_not]; omega
    have hd2 : decide (l.length ≤ i) = false := by rw [decide_eq_false_iff_not]; omega
    have hii : (i : Int) < (l.length : Int) := by omega
    rw [atE_lt l i hlt]
    have d := fun (j : Nat) (hj : j < 4) => (hB0.cell (p := ⟨g, off + i * 4 + j, none⟩) hg).trans (hc i hlt j hj)
    have d0 := d 0 (by decide); have d1 := d 1 (by decide); have d2 := d 2 (by decide); have d3 := d 3 (by decide)
    simp only [enA, List.getElem?_toArray, List.getElem?_cons_zero, List.getElem?_cons_succ, Nat.add_zero] at d0 d1 d2 d3
    generalize l[i] = x at *
    obtain ⟨xd, xn, xf, xt⟩ := x
    simp only at d0 d1 d2 d3
    have HR3 := Lib.hid ((((hR.set 0 (.int .i64 xd)).set 1 (.int .i64 xn)).set 2 (.int .i64 xf)).set 3 (.int .i64 xt))
    have HB3 := Lib.hid (below_set (below_set (below_set (below_set hB0 (Nat.le_refl _) 0 (.int .i64 xd)) (Nat.le_refl _) 1 (.int .i64 xn)) (Nat.le_refl _) 2 (.int .i64 xf)) (Nat.le_refl _) 3 (.int .i64 xt))
    have r0 := hR.cell 0; have r1 := hR.cell 1; have r2 := hR.cell 2; have r3 := hR.cell 3
    have s0 := hR.frozen 0; have s1 := hR.frozen 1; have s2 := hR.frozen 2; have s3 := hR.frozen 3
    simp only [List.getElem?_toArray, List.getElem?_cons_zero, List.getElem?_cons_succ] at r0 r1 r2 r3
    clear d hc h hR hB0 hg
    go_enter Tryd.func43, Tryd.ntmps43
    go_upto_region 1 with fail
    generalize w.alloc (.cells (enI 0 0 0 0) 88) = w1 at *
    go_wp2_with fail
    exact bodyPost_ret (v := .agg (enI xd xn xf xt)) (results_cell_row rfl _ _ w.heap.size 88 (enI xd xn xf xt) (0, 0) _ rfl HR3.out Tryd.underlying88 rfl infoEt) rfl ⟨rfl, HB3.out⟩
  · have hd : decide ((l.length : Int) ≤ (i : Int)) = true := by rw [decide_eq_true_iff]; omega
    have hd2 : decide (l.length ≤ i) = true := by rw [decide_eq_true_iff]; omega
    rw [atE_ge l i (by omega)]
    have HR3 := Lib.hid ((((hR.set 0 (.int .i64 0)).set 1 (.int .i64 0)).set 2 (.int .i64 0)).set 3 (.int .i64 0))
    have HB3 := Lib.hid (below_set (below_set (below_set (below_set hB0 (Nat.le_refl _) 0 (.int .i64 0)) (Nat.le_refl _) 1 (.int .i64 0)) (Nat.le_refl _) 2 (.int .i64 0)) (Nat.le_refl _) 3 (.int .i64 0))
    have r0 := hR.cell 0; have r1 := hR.cell 1; have r2 := hR.cell 2; have r3 := hR.cell 3
    have s0 := hR.frozen 0; have s1 := hR.frozen 1; have s2 := hR.frozen 2; have s3 := hR.frozen 3
    simp only [List.getElem?_toArray, List.getElem?_cons_zero, List.getElem?_cons_succ] at r0 r1 r2 r3
    clear h hR hB0
    go_enter Tryd.func43, Tryd.ntmps43
    go_upto_region 1 with fail
    generalize w.alloc (.cells (enI 0 0 0 0) 88) = w1 at *
    go_wp2_with fail
    exact bodyPost_ret (v := .agg (enI 0 0 0 0)) (results_cell_row rfl _ _ w.heap.size 88 (enI 0 0 0 0) (0, 0) _ rfl HR3.out Tryd.underlying88 rfl infoEt) rfl ⟨rfl, HB3.out⟩
theorem ixR_0 (w : World) : (Instr.index 126 (.agg #[.func (.func 64) #[] #[], .func (.func 65) #[] #[], .func (.func 66) #[] #[], .func (.func 67) #[] #[]]) (.int .i64 0)).run Tryd.prog w = .ok (.func (.func 64) #[] #[]) w := by kernel_rfl
theorem ixR_1 (w : World) : (Instr.index 126 (.agg #[.func (.func 64) #[] #[], .func (.func 65) #[] #[], .func (.func 66) #[] #[], .func (.func 67) #[] #[]]) (.int .i64 1)).run Tryd.prog w = .ok (.func (.func 65) #[] #[]) w := by kernel_rfl
theorem ixR_2 (w : World) : (Instr.index 126 (.agg #[.func (.func 64) #[] #[], .func (.func 65) #[] #[], .func (.func 66) #[] #[], .func (.func 67) #[] #[]]) (.int .i64 2)).run Tryd.prog w = .ok (.func (.func 66) #[] #[]) w := by kernel_rfl
theorem ixR_3 (w : World) : (Instr.index 126 (.agg #[.func (.func 64) #[] #[], .func (.func 65) #[] #[], .func (.func 66) #[] #[], .func (.func 67) #[] #[]]) (.int .i64 3)).run Tryd.prog w = .ok (.func (.func 67) #[] #[]) w := by kernel_rfl
set_option maxRecDepth 100000 in
set_option maxHeartbeats 16000000 in
theorem against_calls (xd xn xf xt yd yn yf yt : Int) (w : World) : Calls Tryd.prog 44 #[.agg (enI xd xn xf xt), .agg (enI yd yn yf yt)] w fun e w' => e = .returned (.int .i64 (cmpE ⟨xd, xn, xf, xt⟩ ⟨yd, yn, yf, yt⟩)) ∧ Below w.heap.size w w' := by
  have HOC := Lib.hid (or_cmp xd xn xf xt yd yn yf yt)
  have bX := (Blk.new w (enI xd xn xf xt) 88).alloc (.cells (enI yd yn yf yt) 88)
  have bY := Blk.new (w.alloc (.cells (enI xd xn xf xt) 88)) (enI yd yn yf yt) 88
  rw [World.size_alloc] at bY
  have HB := Lib.hid (((Below.refl w.heap.size w).alloc (Nat.le_refl _) (.cells (enI xd xn xf xt) 88)).alloc (by rw [World.size_alloc]; omega) (.cells (enI yd yn yf yt) 88))
  have hz : ((w.alloc (.cells (enI xd xn xf xt) 88)).alloc (.cells (enI yd yn yf yt) 88)).heap.size = w.heap.size + 2 := by rw [World.size_alloc, World.size_alloc]
  have HX := Lib.hid bX
  have HY := Lib.hid bY
  clear bX bY
  obtain ⟨R1, hR1⟩ : ∃ R, R = orT 0 (sgT yd xd) := ⟨_, rfl⟩
  obtain ⟨R2, hR2⟩ : ∃ R, R = orT R1 (sgT xn yn) := ⟨_, rfl⟩
  obtain ⟨R3, hR3⟩ : ∃ R, R = orT R2 (sgT xf yf) := ⟨_, rfl⟩
  obtain ⟨R4, hR4⟩ : ∃ R, R = orT R3 (sgT yt xt) := ⟨_, rfl⟩
  rw [← hR1, ← hR2, ← hR3, ← hR4] at HOC
  rw [← HOC.out]
  clear HOC
  have HR1 := Lib.hid hR1; have HR2 := Lib.hid hR2; have HR3 := Lib.hid hR3; have HR4 := Lib.hid hR4
  clear hR1 hR2 hR3 hR4
  go_enter Tryd.func44, Tryd.ntmps44
  go_upto_region 1 with fail
  generalize (w.alloc (.cells (enI xd xn xf xt) 88)).alloc (.cells (enI yd yn yf yt) 88) = w0 at *
  go_wp2_with fail
  go_loopw [5, 9] (fun v vi wr => Below w0.heap.size w0 wr ∧ ((vi = .int .i64 0 ∧ v = .int .i64 0) ∨ (vi = .int .i64 1 ∧ v = .int .i64 R1) ∨ (vi = .int .i64 2 ∧ v = .int .i64 R2) ∨ (vi = .int .i64 3 ∧ v = .int .i64 R3) ∨ (vi = .int .i64 4 ∧ v = .int .i64 R4))) (fun _ vi _ => 5 - (intOf vi).toNat)
  case atStart => exact ⟨Below.refl _ _, .inl ⟨rfl, rfl⟩⟩
  case round =>
    obtain ⟨hb, hv⟩ := hrel
    have hX2 := HX.out.below hb (by have := HX.out.lt; omega)
    have hY2 := HY.out.below hb (by have := HY.out.lt; omega)
    have r0 := hX2.cell 0; have r1 := hX2.cell 1; have r2 := hX2.cell 2; have r3 := hX2.cell 3
    have t0 := hY2.cell 0; have t1 := hY2.cell 1; have t2 := hY2.cell 2; have t3 := hY2.cell 3
    simp only [List.getElem?_toArray, List.getElem?_cons_zero, List.getElem?_cons_succ] at r0 r1 r2 r3 t0 t1 t2 t3
    have HBR := Lib.hid hb
    clear hb hX2 hY2 HX HY
    rcases hv with ⟨rfl, rfl⟩ | ⟨rfl, rfl⟩ | ⟨rfl, rfl⟩ | ⟨rfl, rfl⟩ | ⟨rfl, rfl⟩
    · have hix := ixR_0
      go_wp2_with fail
      refine (byDepth_calls xd xn xf xt yd yn yf yt _).mono ?_
      rintro e w2 ⟨rfl, hb2⟩
      have HB2 := Lib.hid (HBR.out.trans (hb2.mono HBR.out.size))
      have HBA := Lib.hid (HB2.out.alloc HB2.out.size (.cells #[.int .i64 0, .int .i64 (sgT yd xd)] 3))
      have nB := Blk.new w2 #[.int .i64 0, .int .i64 (sgT yd xd)] 3
      have n0 := nB.cell 0; have n1 := nB.cell 1
      simp only [List.getElem?_toArray, List.getElem?_cons_zero, List.getElem?_cons_succ] at n0 n1
      clear hb2 nB
      go_wp2_with fail
      refine (orEn_calls 0 (sgT yd xd) _ _ n0 n1).mono ?_
      rintro e w3 ⟨rfl, rfl⟩
      go_wp2_with fail
      go_roundw
      case rel => exact ⟨HBA.out, by first | exact .inr (.inl ⟨rfl, by rw [HR1.out]; rfl⟩) | exact .inr (.inr (.inl ⟨rfl, by rw [HR2.out]; rfl⟩)) | exact .inr (.inr (.inr (.inl ⟨rfl, by rw [HR3.out]; rfl⟩))) | exact .inr (.inr (.inr (.inr ⟨rfl, by rw [HR4.out]; rfl⟩)))⟩
      case measure => decide
    · have hix := ixR_1
      go_wp2_with fail
      refine (byNode_calls xd xn xf xt yd yn yf yt _).mono ?_
      rintro e w2 ⟨rfl, hb2⟩
      have HB2 := Lib.hid (HBR.out.trans (hb2.mono HBR.out.size))
      have HBA := Lib.hid (HB2.out.alloc HB2.out.size (.cells #[.int .i64 R1, .int .i64 (sgT xn yn)] 3))
      have nB := Blk.new w2 #[.int .i64 R1, .int .i64 (sgT xn yn)] 3
      have n0 := nB.cell 0; have n1 := nB.cell 1
      simp only [List.getElem?_toArray, List.getElem?_cons_zero, List.getElem?_cons_succ] at n0 n1
      clear hb2 nB
      go_wp2_with fail
      refine (orEn_calls R1 (sgT xn yn) _ _ n0 n1).mono ?_
      rintro e w3 ⟨rfl, rfl⟩
      go_wp2_with fail
      go_roundw
      case rel => exact ⟨HBA.out, by first | exact .inr (.inl ⟨rfl, by rw [HR1.out]; rfl⟩) | exact .inr (.inr (.inl ⟨rfl, by rw [HR2.out]; rfl⟩)) | exact .inr (.inr (.inr (.inl ⟨rfl, by rw [HR3.out]; rfl⟩))) | exact .inr (.inr (.inr (.inr ⟨rfl, by rw [HR4.out]; rfl⟩)))⟩
      case measure => decide
    · have hix := ixR_2
      go_wp2_with fail
      refine (byFrom_calls xd xn xf xt yd yn yf yt _).mono ?_
      rintro e w2 ⟨rfl, hb2⟩
      have HB2 := Lib.hid (HBR.out.trans (hb2.mono HBR.out.size))
      have HBA := Lib.hid (HB2.out.alloc HB2.out.size (.cells #[.int .i64 R2, .int .i64 (sgT xf yf)] 3))
      have nB := Blk.new w2 #[.int .i64 R2, .int .i64 (sgT xf yf)] 3
      have n0 := nB.cell 0; have n1 := nB.cell 1
      simp only [List.getElem?_toArray, List.getElem?_cons_zero, List.getElem?_cons_succ] at n0 n1
      clear hb2 nB
      go_wp2_with fail
      refine (orEn_calls R2 (sgT xf yf) _ _ n0 n1).mono ?_
      rintro e w3 ⟨rfl, rfl⟩
      go_wp2_with fail
      go_roundw
      case rel => exact ⟨HBA.out, by first | exact .inr (.inl ⟨rfl, by rw [HR1.out]; rfl⟩) | exact .inr (.inr (.inl ⟨rfl, by rw [HR2.out]; rfl⟩)) | exact .inr (.inr (.inr (.inl ⟨rfl, by rw [HR3.out]; rfl⟩))) | exact .inr (.inr (.inr (.inr ⟨rfl, by rw [HR4.out]; rfl⟩)))⟩
      case measure => decide
    · have hix := ixR_3
      go_wp2_with fail
      refine (byTo_calls xd xn xf xt yd yn yf yt _).mono ?_
      rintro e w2 ⟨rfl, hb2⟩
      have HB2 := Lib.hid (HBR.out.trans (hb2.mono HBR.out.size))
      have HBA := Lib.hid (HB2.out.alloc HB2.out.size (.cells #[.int .i64 R3, .int .i64 (sgT yt xt)] 3))
      have nB := Blk.new w2 #[.int .i64 R3, .int .i64 (sgT yt xt)] 3
      have n0 := nB.cell 0; have n1 := nB.cell 1
      simp only [List.getElem?_toArray, List.getElem?_cons_zero, List.getElem?_cons_succ] at n0 n1
      clear hb2 nB
      go_wp2_with fail
      refine (orEn_calls R3 (sgT yt xt) _ _ n0 n1).mono ?_
      rintro e w3 ⟨rfl, rfl⟩
      go_wp2_with fail
      go_roundw
      case rel => exact ⟨HBA.out, by first | exact .inr (.inl ⟨rfl, by rw [HR1.out]; rfl⟩) | exact .inr (.inr (.inl ⟨rfl, by rw [HR2.out]; rfl⟩)) | exact .inr (.inr (.inr (.inl ⟨rfl, by rw [HR3.out]; rfl⟩))) | exact .inr (.inr (.inr (.inr ⟨rfl, by rw [HR4.out]; rfl⟩)))⟩
      case measure => decide
    · go_wp2_with fail
      go_ret
      exact ⟨rfl, HB.out.trans (HBR.out.mono (by omega))⟩
set_option maxRecDepth 100000 in
set_option maxHeartbeats 2000000 in
theorem neE (xd xn xf xt yd yn yf yt : Int) (w : World) :
    (Op.equalIn 10000 88 (.agg (enI xd xn xf xt)) (.agg (enI yd yn yf yt))).run Tryd.prog w = .ok (decide (xd = yd ∧ xn = yn ∧ xf = yf ∧ xt = yt)) w := by
  go_simp
  by_cases h1 : xd = yd <;> by_cases h2 : xn = yn <;> by_cases h3 : xf = yf <;> by_cases h4 : xt = yt <;> simp [h1, h2, h3, h4]
set_option maxRecDepth 100000 in
set_option maxHeartbeats 16000000 in
theorem aheadD_calls (a b : List EnN) (ha : a.length ≤ 100000) (hb : b.length ≤ 100000) (ad bd : Option Addr) (ca cb : Nat) (w : World) (h : EntsAt a ad w) (k : EntsAt b bd w) :
    Calls Tryd.prog 23 #[.slice ad a.length ca, .slice bd b.length cb] w fun e w' => e = .returned (.int .i64 (aheadT a b)) ∧ Below w.heap.size w w' := by
  have HA := Lib.hid (fun (i : Nat) (hi : i ≤ 1000000) W (hW : Below w.heap.size w W) => atD_calls a (by omega) i hi ad ca W (h.below hW))
  have HBB := Lib.hid (fun (i : Nat) (hi : i ≤ 1000000) W (hW : Below w.heap.size w W) => atD_calls b (by omega) i hi bd cb W (k.below hW))
  obtain ⟨N, hN⟩ : ∃ N, N = max a.length b.length := ⟨_, rfl⟩
  have HR := Lib.hid (show lexU (atE a) (atE b) (N - 0) 0 = aheadT a b by rw [hN]; rfl)
  have HST := Lib.hid (lex_step (atE a) (atE b))
  have hN1 : N ≤ 100000 := by omega
  have hm1 : max (a.length : Int) (b.length : Int) = (N : Int) := by omega
  have HZ : ∃ LU, LU = lexU (atE a) (atE b) ∧ ∀ i, LU 0 i = 0 := ⟨_, rfl, fun _ => rfl⟩
  obtain ⟨LU, hLU, hz⟩ := HZ
  rw [← hLU] at HR HST
  have HZ := Lib.hid hz
  clear hz
  clear h k hLU
  generalize aheadT a b = R at *
  generalize atE a = fa at *
  generalize atE b = fb at *
  go_enter Tryd.func23, Tryd.ntmps23
  go_upto_region 1 with fail
  go_cut [12, 13] from 8 to 13 (fun v u wx => v = .int .i64 N ∧ u = .int .i64 0 ∧ w = wx)
  case first =>
    go_wp2_with fail
    all_goals
      go_meet
      exact ⟨by congr 1; omega, rfl, rfl⟩
  case rest =>
  obtain ⟨rfl, rfl, rfl⟩ := hcut
  clear hN hm1
  go_wp2_with fail
  go_loopw [13] (fun vi wr => ∃ i : Nat, i ≤ N ∧ vi = .int .i64 i ∧ LU (N - i) i = R ∧ Below w.heap.size w wr) (fun vi _ => N - (intOf vi).toNat)
  case atStart => exact ⟨0, Nat.zero_le _, rfl, HR.out, Below.refl _ _⟩
  case round =>
    clear HR
    obtain ⟨i, hi, rfl, hres, hB⟩ := hrel
    by_cases hlt : i < N
    · have xi : IntKind.i64.wrap ((i : Int) + 1) = (i : Int) + 1 := IntWalk.i64_in _ (by omega)
      have p1 : decide ((i : Int) < (N : Int)) = true := by rw [decide_eq_true_iff]; omega
      have p2 : decide (i < N) = true := decide_eq_true hlt
      have hst := HST.out (N - i - 1) i
      rw [show N - i - 1 + 1 = N - i by omega, hres, show N - i - 1 = N - (i + 1) by omega] at hst
      have HST1 := Lib.hid hst
      have HB := Lib.hid hB
      clear hst hres hB
      have hx := HA.out i (by omega)
      have hy := HBB.out i (by omega)
      generalize fa i = x at *
      generalize fb i = y at *
      obtain ⟨xd, xn, xf, xt⟩ := x
      obtain ⟨yd, yn, yf, yt⟩ := y
      simp only [enA] at hx hy
      have HX := Lib.hid hx
      have HY := Lib.hid hy
      clear hx hy
      go_wp2_with fail
      refine (HX.out _ HB.out).mono ?_
      rintro e w1 ⟨rfl, hb1⟩
      have HB1 := Lib.hid (HB.out.trans (hb1.mono HB.out.size))
      clear hb1
      go_wp2_with fail
      refine (HY.out _ HB1.out).mono ?_
      rintro e w2 ⟨rfl, hb2⟩
      have HB2 := Lib.hid (HB1.out.trans (hb2.mono HB1.out.size))
      clear hb2
      have bX := (Blk.new w2 (enI xd xn xf xt) 88).alloc (.cells (enI yd yn yf yt) 88)
      have bY := Blk.new (w2.alloc (.cells (enI xd xn xf xt) 88)) (enI yd yn yf yt) 88
      rw [World.size_alloc] at bY
      have HB3 := Lib.hid ((HB2.out.alloc HB2.out.size (.cells (enI xd xn xf xt) 88)).alloc (by rw [World.size_alloc]; have := HB2.out.size; omega) (.cells (enI yd yn yf yt) 88))
      have r0 := bX.cell 0; have r1 := bX.cell 1; have r2 := bX.cell 2; have r3 := bX.cell 3
      have t0 := bY.cell 0; have t1 := bY.cell 1; have t2 := bY.cell 2; have t3 := bY.cell 3
      simp only [List.getElem?_toArray, List.getElem?_cons_zero, List.getElem?_cons_succ] at r0 r1 r2 r3 t0 t1 t2 t3
      clear bX bY
      go_upto_region 5 with fail
      generalize (w2.alloc (.cells (enI xd xn xf xt) 88)).alloc (.cells (enI yd yn yf yt) 88) = w3 at *
      clear HX HY HB HB1 HB2
      have heq := neE xd xn xf xt yd yn yf yt
      by_cases hne : xd = yd ∧ xn = yn ∧ xf = yf ∧ xt = yt
      · rw [decide_eq_true hne] at heq
        have HRR := Lib.hid (show LU (N - (i + 1)) (i + 1) = R from by have h9 := HST1.out; rw [if_pos ((cmpE_zero _ _).2 (by rw [hne.1, hne.2.1, hne.2.2.1, hne.2.2.2]))] at h9; exact h9.symm)
        clear HST1 hne
        go_wp2_with fail
        go_roundw
        case rel => exact ⟨i + 1, by omega, by simp, HRR.out, HB3.out⟩
        case measure => simp [intOf]; omega
      · rw [decide_eq_false hne] at heq
        have HRR := Lib.hid (show R = cmpE ⟨xd, xn, xf, xt⟩ ⟨yd, yn, yf, yt⟩ from by have h9 := HST1.out; rw [if_neg (fun h8 => hne (by have := (cmpE_zero _ _).1 h8; simp only [EnN.mk.injEq] at this; exact this))] at h9; exact h9)
        clear HST1 hne
        go_wp2_with fail
        refine (against_calls xd xn xf xt yd yn yf yt _).mono ?_
        rintro e w4 ⟨rfl, hb4⟩
        have HB4 := Lib.hid (HB3.out.trans (hb4.mono HB3.out.size))
        clear hb4
        go_wp2_with fail
        go_ret
        exact ⟨by rw [HRR.out] <;> rfl, HB4.out⟩
    · obtain rfl : i = N := by omega
      rw [Nat.sub_self, HZ.out] at hres
      have HRES := Lib.hid hres
      have HB := Lib.hid hB
      clear hres hB
      go_wp2_with fail
      go_ret
      exact ⟨by rw [← HRES.out] <;> rfl, HB.out⟩
end Go.Proofs.YtdpkhliojbeglaaDoor

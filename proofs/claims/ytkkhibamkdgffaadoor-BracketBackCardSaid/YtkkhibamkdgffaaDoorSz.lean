/- Runs: a set's runs, as the program tells them. -/
import Derived.Test.YtkkhibamkdgffaaDoorSv
import Derived.Deep.MidRow
import Derived.Maps.AppendAt
namespace Go.Proofs.YtkkhibamkdgffaaDoor
open Go.RowKit Go.Shelf BS
attribute [local go_sem] Oper.semAt_some

/-- One byte more: the last run grows, or a new one begins. -/
def runStep (rs : List (Nat × Nat)) (x : Nat) : List (Nat × Nat) :=
  match rs.getLast? with
  | some (a, b) => if (b + 1) % 256 = x then rs.dropLast ++ [(a, x)] else rs ++ [(x, x)]
  | none => [(x, x)]
def runsOf (l : List Nat) : List (Nat × Nat) := l.foldl runStep []
theorem runsOf_snoc (l : List Nat) (x : Nat) : runsOf (l ++ [x]) = runStep (runsOf l) x := by simp [runsOf]

theorem info2b : (Tryd.prog.info? 37).map (fun i => (i.zero, i.size, i.bytes)) = some (some (.agg #[.int .u8 0, .int .u8 0]), 2, 2) := by kernel_rfl

/-- The cells of a list of runs. -/
def runCells (rs : List (Nat × Nat)) : List Value := rs.flatMap fun r => [Value.int .u8 (r.1 : Int), Value.int .u8 (r.2 : Int)]

theorem runCells_len (rs : List (Nat × Nat)) : (runCells rs).length = rs.length * 2 := by
  induction rs with
  | nil => rfl
  | cons r rs ih => simp only [runCells, List.flatMap_cons, List.length_append, List.length_cons, List.length_nil] at ih ⊢; omega
theorem runCells_snoc (rs : List (Nat × Nat)) (a b : Nat) : runCells (rs ++ [(a, b)]) = runCells rs ++ [.int .u8 (a : Int), .int .u8 (b : Int)] := by simp [runCells]
theorem runCells_last (rs : List (Nat × Nat)) (a b : Nat) : (runCells (rs ++ [(a, b)]))[rs.length * 2 + 1]? = some (.int .u8 (b : Int)) := by
  rw [runCells_snoc, List.getElem?_append_right (by rw [runCells_len]; omega), runCells_len]
  simp
theorem runCells_set (rs : List (Nat × Nat)) (a b x : Nat) : (runCells (rs ++ [(a, b)])).set (rs.length * 2 + 1) (.int .u8 (x : Int)) = runCells (rs ++ [(a, x)]) := by
  rw [runCells_snoc, runCells_snoc, List.set_append_right _ _ (by rw [runCells_len]; omega), runCells_len]
  simp
theorem nil_or_snoc (rs : List (Nat × Nat)) : rs = [] ∨ ∃ rs' a b, rs = rs' ++ [(a, b)] := by
  rcases List.eq_nil_or_concat rs with h | ⟨rs', ⟨a, b⟩, h⟩
  · exact .inl h
  · exact .inr ⟨rs', a, b, by rw [h, List.concat_eq_append]⟩
theorem runStep_len (rs : List (Nat × Nat)) (x : Nat) : (runStep rs x).length ≤ rs.length + 1 := by
  unfold runStep
  split
  · split <;> simp
  · simp
theorem runsOf_len (l : List Nat) : (runsOf l).length ≤ l.length := by
  suffices h : ∀ l rs, (List.foldl runStep rs l).length ≤ rs.length + l.length by simpa [runsOf] using h l []
  intro l
  induction l with
  | nil => intro rs; simp
  | cons x l ih => intro rs; have := ih (runStep rs x); have := runStep_len rs x; simp only [List.foldl_cons, List.length_cons]; omega
theorem runStep_none (x : Nat) : runStep [] x = [(x, x)] := rfl
theorem runStep_grow (rs : List (Nat × Nat)) (a b x : Nat) (h : (b + 1) % 256 = x) : runStep (rs ++ [(a, b)]) x = rs ++ [(a, x)] := by simp [runStep, h]
theorem runStep_new (rs : List (Nat × Nat)) (a b x : Nat) (h : (b + 1) % 256 ≠ x) : runStep (rs ++ [(a, b)]) x = rs ++ [(a, b)] ++ [(x, x)] := by simp [runStep, h]

theorem Blk.news2 {W : World} {B : Nat} {a b : Value} {t : TypeId} (h : Blk W B #[a, b] t) : ∀ j u, [a, b][j]? = some u → W.cell? ((⟨B, 0, none⟩ : Addr).add j) = some u := by
  intro j u hu
  rw [Addr.add_mid]
  rw [Nat.zero_add, h.cell j]
  simpa using hu

set_option maxRecDepth 100000 in
set_option maxHeartbeats 2000000 in
theorem runs_in (n : Nat) (hn : 3 ≤ n) (s : BitVec 256) (w : World) (hT : Tab w) (hg : 0 < w.heap.size) :
    CallsIn Fence.wide n Tryd.prog 11 #[setV s] w fun e W' => ∃ v, e = .returned v ∧ W'.ownsRow w.heap.size 37 2 v (runsOf (el s.getLsbD 256)).length (runCells (runsOf (el s.getLsbD 256))) ∧ Below w.heap.size w W' := by
  have h1 : 1 ≤ n := by omega
  have HT := Lib.hid hT
  clear hT
  refine callsIn_of_wp_marks Tryd.func11 rfl trivial ?_ rfl
  simp only [Tryd.ntmps11, List.size_toArray, List.length_cons, List.length_nil, Nat.reduceAdd, Nat.reduceSub, Array.replicate_succ, Array.replicate_zero, List.push_toArray, List.append_toArray, List.nil_append, List.cons_append]
  gi_wp2_with (refine ⟨trivial, ?_⟩; gi_at_call 22; refine (all_in (n - 1) _ _).mono ?_; rintro e w' ⟨rfl, rfl⟩)
  obtain ⟨i0, hi, hz0, hz1, hz2⟩ := info_parts info2b
  obtain ⟨w0, hw0⟩ : ∃ w0, ((w.alloc (.cells #[.int .u64 (wd s 0), .int .u64 (wd s 1), .int .u64 (wd s 2), .int .u64 (wd s 3)] 24)).alloc (.cells #[.slice none 0 0] 34)) = w0 := ⟨_, rfl⟩
  have bL : Boxed w0 (w.heap.size + 1) 34 (.slice none 0 0) := by
    rw [← hw0]; have := Boxed.new (w.alloc (.cells (setA s) 24)) 34 (.slice none 0 0); rwa [World.size_alloc] at this
  have hz0' : w0.heap.size = w.heap.size + 2 := by rw [← hw0]; simp
  have hB0 : Below w.heap.size w w0 := by rw [← hw0]; go_grown
  rw [hw0, show w.heap.size + 1 + 1 = w0.heap.size by omega]
  clear hw0
  have hz1' : w.heap.size + 2 ≤ w0.heap.size := by omega
  clear hz0'
  have bN := Blk.new w0 (setA s) 24
  have hB1 : Below w.heap.size w (w0.alloc (.cells (setA s) 24)) := hB0.alloc (by omega) _
  refine wpIn_rangeFunc_ownG rfl h1 (gf := 28) (lb := #[.pointer (some ⟨w0.heap.size, 0, none⟩)]) rfl trivial (enters_of Tryd.func28 (by kernel_rfl) rfl)
    (all_stops (n - 1) (by omega) w0.heap.size s _ (by simp) (by simp) bN.cells4.1 (HT.out.keep hB1 hg)) KeepA.t (KeepA.b (by simp) (by simp)) (Below.refl _ _) (fun _ => rfl)
    (fun pre W => ((∃ v, Boxed W (w.heap.size + 1) 34 v ∧ W.ownsRow w.heap.size 37 2 v (runsOf pre).length (runCells (runsOf pre)) ∧ (runsOf pre = [] → v = .slice none 0 0)) ∧ Blk W w0.heap.size (setA s) 24) ∧ Below w.heap.size w W)
    (fun _ _ _ => False)
    (OwnFrom.and (Own.from (fun pre A B row hs hg hr => ⟨holdsRow_own w.heap.size (w.heap.size + 1) 34 37 2 (fun pre => (runsOf pre).length) (fun pre => runCells (runsOf pre)) (fun pre v => runsOf pre = [] → v = .slice none 0 0) pre A B row hs.1 hg hr, hs.2.kept hg (hs.2.not_row hr)⟩) _) (ownFrom_below (Nat.le_refl _) (by simp; omega)))
    (fun _ _ _ _ _ hs _ _ => hs)
    ⟨⟨⟨_, bL.alloc _, World.ownsRow_nil _ _ _ _, fun _ => rfl⟩, bN⟩, hB1⟩
    (fun x => { tmps := #[setV s, .pointer (some ⟨w.heap.size, 0, none⟩), .slice none 0 0, .pointer (some ⟨w.heap.size + 1, 0, none⟩), .int .u8 (x : Nat), undef, setV s,
          .func (.func 28) #[] #[.pointer (some ⟨w0.heap.size, 0, none⟩)], .int .u8 (x : Nat), undef, undef, undef, undef, undef, undef, undef, undef, undef, undef, undef, undef, undef, undef, undef, undef, undef,
          undef, undef, undef, undef, undef, undef, undef, undef, undef, undef], defers := [] }) ?assign ?body ?done ?stop
  case assign =>
    intro l x W K hK
    gi_wp2
    exact hK
  case body =>
    rintro l pre x W ⟨⟨⟨v, hv, hr, hnil⟩, hN⟩, hB⟩ hlen
    have hl := runsOf_len pre
    have hc0 := hv.cell
    have hf0 := hv.frozen
    have HS := Lib.hid (runsOf_snoc pre x)
    generalize runsOf pre = rs at *
    rcases nil_or_snoc rs with rfl | ⟨rs', a, b, rfl⟩
    · obtain rfl : v = .slice none 0 0 := hnil rfl
      clear hnil
      gi_wp2_with (gi_at_builtin; refine wpListIn_append_own _ rfl _ _ 34 rfl w.heap.size 37 i0 (.agg #[.int .u8 0, .int .u8 0]) 2 2 Tryd.underlying34 hi hz0 hz1 hz2 rfl (by decide) _ _ _ rfl (hr.alloc _) ⟨W.heap.size, 0, none⟩ 1 1 [.int .u8 (x : Nat), .int .u8 (x : Nat)] rfl rfl (Blk.new W _ _).news2 (by simp [Value.oneCell']) (by simp [maxLen]) (by simp) (by have := hB.size; simp; omega) ?_; intro v' w1 hown' hgrow _; obtain ⟨g', cap', rfl⟩ := ownsRow_succ hown'; obtain ⟨hv1, hv2, hr2, hk2, hb2⟩ := hv.appended (by decide) hr hB.size (by omega) hown' hgrow; have hN1 := (hN.alloc _).kept hgrow (hN.not_own (by decide) hr); have hc1 := hv1.cell; have hf1 := hv1.frozen)
      refine ⟨hk2.from _, ⟨hk2.size, (hN1.other (by omega) _ _).trans hN.symm, hb2.block _ hg⟩, ⟨⟨_, hv2, ?_, ?_⟩, hN1.other (by omega) _ _⟩, hB.trans hb2⟩
      · rw [HS.out]; exact hr2
      · intro h; rw [HS.out] at h; cases h
    · have hln : (rs' ++ [(a, b)]).length = rs'.length + 1 := by simp
      rw [hln] at hr hl
      clear hnil hln
      obtain ⟨g, cap, rfl⟩ := ownsRow_succ hr
      have hcl := (hr.cellAt (rs'.length * 2 + 1) (by omega)).trans (runCells_last rs' a b)
      have hfl := hr.frozenAt (rs'.length * 2 + 1)
      have hgB : g ≠ w.heap.size + 1 := fun e => hv.not_row (by decide) hr (by rw [e]; rfl)
      have hgN : g ≠ w0.heap.size := fun e => hN.not_own (by decide) hr (by rw [e]; rfl)
      have hglt : w.heap.size ≤ g := (hr.lt g rfl).1
      by_cases hbx : (b + 1) % 256 = x
      · have HX := Lib.hid hbx
        have ht : (((b + 1 : Nat) : Int) % 256 == (x : Int)) = true := by rw [beq_iff_eq]; omega
        clear hbx
        gi_wp2
        have hb2 := below_set (Below.refl w.heap.size W) hglt (rs'.length * 2 + 1) (.int .u8 (x : Int))
        refine ⟨(KeepsOthers.setCell _ _ _).from _, ⟨hb2.size, (hN.other (Ne.symm hgN) _ _).trans hN.symm, hb2.block _ hg⟩, ⟨⟨_, Blk.other (vs := #[_]) hv (Ne.symm hgB) _ _, ?_, ?_⟩, hN.other (Ne.symm hgN) _ _⟩, hB.trans hb2⟩
        · rw [HS.out, runStep_grow _ _ _ _ HX.out, ← runCells_set rs' a b x]
          simpa using (hr.stored (rs'.length * 2 + 1) (.int .u8 (x : Int))).1
        · intro h; rw [HS.out, runStep_grow _ _ _ _ HX.out] at h; simp at h
      · have HX := Lib.hid hbx
        have ht : (((b + 1 : Nat) : Int) % 256 == (x : Int)) = false := by rw [beq_eq_false_iff_ne]; omega
        clear hbx
        gi_wp2_with (gi_at_builtin; refine wpListIn_append_own _ rfl _ _ 34 rfl w.heap.size 37 i0 (.agg #[.int .u8 0, .int .u8 0]) 2 2 Tryd.underlying34 hi hz0 hz1 hz2 rfl (by decide) _ _ _ rfl (hr.alloc _) ⟨W.heap.size, 0, none⟩ 1 1 [.int .u8 (x : Nat), .int .u8 (x : Nat)] rfl rfl (Blk.new W _ _).news2 (by simp [Value.oneCell']) (by unfold maxLen; omega) (by omega) (by have := hB.size; simp; omega) ?_; intro v' w1 hown' hgrow _; obtain ⟨g', cap', rfl⟩ := ownsRow_succ hown'; obtain ⟨hv1, hv2, hr2, hk2, hb2⟩ := hv.appended (by decide) hr hB.size (by omega) hown' hgrow; have hN1 := (hN.alloc _).kept hgrow (hN.not_own (by decide) hr); have hc1 := hv1.cell; have hf1 := hv1.frozen)
        refine ⟨hk2.from _, ⟨hk2.size, (hN1.other (by omega) _ _).trans hN.symm, hb2.block _ hg⟩, ⟨⟨_, hv2, ?_, ?_⟩, hN1.other (by omega) _ _⟩, hB.trans hb2⟩
        · rw [HS.out, runStep_new _ _ _ _ HX.out, runCells_snoc]
          simpa using hr2
        · intro h; rw [HS.out, runStep_new _ _ _ _ HX.out] at h; simp at h
  case done =>
    rintro D ys W hD rfl ⟨⟨⟨v, hv, hr, _⟩, hN⟩, hB⟩ hK
    have hc0 := hv.cell
    gi_wp2
    refine ⟨by simp, .inl ⟨_, _, rfl, run_takeDeferred hK, ?_⟩⟩
    exact ⟨_, results_tmp rfl _ _ _, v, rfl, ownsRow_putObj hr _ hK rfl, hB.trans (belowK_b (w := w) (Nat.le_refl _) _ D _ _ (by simp at hD; omega) hK rfl rfl)⟩
  case stop =>
    rintro D c pre W _ _ h _
    exact h.elim
end Go.Proofs.YtkkhibamkdgffaaDoor

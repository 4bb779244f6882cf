/- Texts put together: Hk Je Wp Vt Vu Vl Ds. -/
import Derived.Test.YtldaaelmifbbhaaGreatPQ
import Derived.Test.YtldaaelmifbbhaaGreatPO
import Derived.Test.YtldaaelmifbbhaaGreatPN
import Derived.Test.YtldaaelmifbbhaaGreatPD
import Derived.Test.YtldaaelmifbbhaaGreatPB
import Derived.Test.YtldaaelmifbbhaaGreatPF
import Derived.Test.YtldaaelmifbbhaaGreatPL
import Derived.Test.YtldaaelmifbbhaaGreatPC
import Derived.Test.YtldaaelmifbbhaaGreatPE
/- The document's parse: take. Stage 7. -/
namespace Go.Proofs.YtldaaelmifbbhaaGreat
open Go.RowKit BS

/-- Three blocks made: the state, the word, the result's place. -/
theorem bx_new3 {base N : Nat} {A : Nat → Prop} {l : List NdN} {ps rs : List Nat} {vN vP vR : Value} {w : World} (g : Int) (cs : Array Value) (h : SV base N A l ps rs vN vP vR w) :
    BxV base (w.heap.size + 3) w.heap.size (w.heap.size + 2) (fun k => A k ∧ k ≠ w.heap.size ∧ k ≠ w.heap.size + 1 ∧ k ≠ w.heap.size + 2) l ps rs g vN vP vR w (((w.alloc (.cells (stW vN vP vR g) 48)).alloc (.cells cs 40)).alloc (.cells stO 48)) := by
  have h2 := ((h.alloc (.cells (stW vN vP vR g) 48)).alloc (.cells cs 40)).alloc (.cells stO 48)
  have hr := Blk.new ((w.alloc (.cells (stW vN vP vR g) 48)).alloc (.cells cs 40)) stO 48
  rw [World.size_alloc, World.size_alloc] at hr
  have hk : ∀ {v : Value} {e : TypeId} {size n : Nat} {xs : List Value}, w.ownsRow base e size v n xs → ∀ k, v.ownBlock = some k → k ≠ w.heap.size ∧ k ≠ w.heap.size + 1 ∧ k ≠ w.heap.size + 2 := fun ho k e => by have := own_lt ho e; omega
  refine ⟨⟨h2.nodes, h2.pieces, h2.rows, fun k e => ⟨h.aN k e, hk h.nodes k e⟩, fun k e => ⟨h.aP k e, hk h.pieces k e⟩, fun k e => ⟨h.aR k e, hk h.rows k e⟩, fun k hk => ⟨h.up k (Nat.le_trans h.sz (by omega)), by omega, by omega, by omega⟩, by simp, Nat.le_trans h.bs (Nat.le_trans h.sz (by omega)), h.nP, h.nR, h.pR⟩,
    ((Blk.new w _ _).alloc _).alloc _, hr, fun h => h.2.1 rfl, fun h => h.2.2.2 rfl, (((KpA.refl _ _).alloc _).alloc _).alloc _, by omega⟩
theorem bx_end3 {base N : Nat} {A : Nat → Prop} {l : List NdN} {ps rs : List Nat} {vN vP vR : Value} {w W : World} {g : Int} (hN : N ≤ w.heap.size) (hup : ∀ k, N ≤ k → A k) (hbs : base ≤ N) (h : BxV base (w.heap.size + 3) w.heap.size (w.heap.size + 2) (fun k => A k ∧ k ≠ w.heap.size ∧ k ≠ w.heap.size + 1 ∧ k ≠ w.heap.size + 2) l ps rs g vN vP vR w W) (cs : Array Value) :
    SV base N A l ps rs vN vP vR (W.setRow (w.heap.size + 2) cs) ∧ KpA A w (W.setRow (w.heap.size + 2) cs) := by
  refine ⟨(h.sv.row h.nB2 cs).mono hbs (Nat.le_trans hN (by have := h.kp.size; simpa [World.setRow] using this)) (fun k hk _ => hk.1) hup, (h.kp.row (.inr (by omega)) cs).mono fun k hk => ?_⟩
  rcases hk with hk | hk
  · exact hk.1
  · exact hup k (by omega)
theorem SV.piecesK {base N K : Nat} {A : Nat → Prop} {l : List NdN} {ps rs : List Nat} {n : Nat} {vN vP vR : Value} {w : World} (hK : ps.length = K) (h : SV base N A l (ps ++ [n]) rs vN vP vR w) : w.ownsRow base 3 1 vP (K + 1) (inC (ps ++ [n])) := by
  have := h.pieces
  rwa [List.length_append, List.length_singleton, hK] at this
theorem SV.rowsK {base N K : Nat} {A : Nat → Prop} {l : List NdN} {ps rs : List Nat} {n : Nat} {vN vP vR : Value} {w : World} (hK : rs.length = K) (h : SV base N A l ps (rs ++ [n]) vN vP vR w) : w.ownsRow base 3 1 vR (K + 1) (inC (rs ++ [n])) := by
  have := h.rows
  rwa [List.length_append, List.length_singleton, hK] at this
theorem len_snoc {ps : List Nat} {n K : Nat} (h : ps.length = K) : (ps ++ [n]).length = K + 1 := by rw [List.length_append, h]; rfl
theorem infoInt7 : (Tryz.prog.info? 3).map (fun i => (i.zero, i.size, i.bytes)) = some (some (.int .i64 0), 1, 8) := by kernel_rfl
set_option maxRecDepth 100000 in
set_option maxHeartbeats 16000000 in
theorem rtake1 {base N K : Nat} {A : Nat → Prop} {l : List NdN} {ps rs : List Nat} {n r gr : Nat} {vN vP vR : Value} (p f : Int) (t : BitVec 256) (n' m' : Int) (w : World) (h : SV base N A l (ps ++ [n]) (rs ++ [r]) vN vP vR w) (hp : ps.length = K) (hq : rs.length = K) (hl : l.length ≤ 3999990) (hn : n ≤ 2000000) (hp' : K ≤ 2000000) :
    Calls Tryz.prog 36 #[.agg (stW vN vP vR gr), .agg (woI 1 p f t n' m')] w fun e w' => ∃ vN' vP' vR', e = .returned (.agg (stW vN' vP' vR' gr)) ∧ SV base N A (l ++ [⟨2, 0, 0, 0, t⟩]) (ps ++ [n + 1]) (rs ++ [r]) vN' vP' vR' w' ∧ KpA A w w' := by
  obtain ⟨i0, hi0, hz0, hz1, hz2⟩ := info_parts info8n
  obtain ⟨aN, cN, rfl⟩ := h.formN
  obtain ⟨gP, cP, rfl, _⟩ := h.topPK hp
  obtain ⟨gR, cR, rfl, _⟩ := h.topRK hq
  have hx := bx_new3 (gr : Int) (woI 1 p f t n' m') h
  have hW : Blk (((w.alloc (.cells (stW (.slice aN l.length cN) (.slice (some ⟨gP, 0, none⟩) (K + 1 : Nat) cP) (.slice (some ⟨gR, 0, none⟩) (K + 1 : Nat) cR) gr) 48)).alloc (.cells (woI 1 p f t n' m') 40)).alloc (.cells stO 48)) (w.heap.size + 1) (woI 1 p f t n' m') 40 := by
    have := (Blk.new (w.alloc (.cells (stW (.slice aN l.length cN) (.slice (some ⟨gP, 0, none⟩) (K + 1 : Nat) cP) (.slice (some ⟨gR, 0, none⟩) (K + 1 : Nat) cR) gr) 48)) (woI 1 p f t n' m') 40).alloc (.cells stO 48)
    rwa [World.size_alloc] at this
  have HU := Lib.hid (And.intro h.sz (And.intro h.up h.bs))
  have HPQ := Lib.hid (And.intro hp hq)
  clear h hp hq
  go_enter Tryz.func36, Tryz.ntmps36
  go_upto_region 1 with fail
  have e0 : ((w.alloc (.cells #[.slice aN l.length cN, .slice (some ⟨gP, 0, none⟩) (K + 1 : Nat) cP, .slice (some ⟨gR, 0, none⟩) (K + 1 : Nat) cR, .int .i64 gr] 48)).alloc (.cells (woI 1 p f t n' m') 40)).alloc (.cells #[.slice none 0 0, .slice none 0 0, .slice none 0 0, .int .i64 0] 48) = ((w.alloc (.cells (stW (.slice aN l.length cN) (.slice (some ⟨gP, 0, none⟩) (K + 1 : Nat) cP) (.slice (some ⟨gR, 0, none⟩) (K + 1 : Nat) cR) gr) 48)).alloc (.cells (woI 1 p f t n' m') 40)).alloc (.cells stO 48) := rfl
  try rw [e0]
  clear e0
  generalize ((w.alloc (.cells (stW (.slice aN l.length cN) (.slice (some ⟨gP, 0, none⟩) (K + 1 : Nat) cP) (.slice (some ⟨gR, 0, none⟩) (K + 1 : Nat) cR) gr) 48)).alloc (.cells (woI 1 p f t n' m') 40)).alloc (.cells stO 48) = w1 at *
  have d0 := hW.cell 0; have d3 := hW.cell 3; have d4 := hW.cell 4; have d5 := hW.cell 5; have d6 := hW.cell 6; have d7 := hW.cell 7; have d8 := hW.cell 8
  simp only [List.getElem?_toArray, List.getElem?_cons_zero, List.getElem?_cons_succ] at d0 d3 d4 d5 d6 d7 d8
  clear hW
  obtain ⟨c0, c1, c2, c3⟩ := hx.c
  obtain ⟨f0, f1, f2, f3⟩ := hx.f
  obtain ⟨_, _, e, lP, kP, tP, yP⟩ := hx.sv.topPK HPQ.out.1
  cases e
  obtain ⟨_, _, e, lR, kR, tR, yR⟩ := hx.sv.topRK HPQ.out.2
  cases e
  have HX := Lib.hid hx
  clear hx
  have q0 : (0 : Int) ≤ (K : Int) := by omega
  have q1 : (K : Int) < ((K + 1 : Nat) : Int) := by omega
  go_upto_region 5 with (at_builtin; go_loud (refine wpList_append_lies _ rfl _ _ 28 rfl base 92 i0 (.agg #[.int .i64 0, .int .i64 0, .int .i64 0, .int .i64 0, .int .u64 0, .int .u64 0, .int .u64 0, .int .u64 0]) 8 64 Tryz.underlying28 hi0 hz0 hz1 hz2 rfl (by decide) (.slice aN l.length cN) l.length (ndCells l) rfl (HX.out.alloc _).sv.nodes ⟨w1.heap.size, 0, none⟩ 1 1 [.int .i64 2, .int .i64 0, .int .i64 0, .int .i64 0, .int .u64 (wd t 0), .int .u64 (wd t 1), .int .u64 (wd t 2), .int .u64 (wd t 3)] rfl rfl (World.news_of_block (cs := [.int .i64 2, .int .i64 0, .int .i64 0, .int .i64 0, .int .u64 (wd t 0), .int .u64 (wd t 1), .int .u64 (wd t 2), .int .u64 (wd t 3)].toArray) (t := 92) (fr := (0, 0)) (heap_alloc_new w1 _)) (by simp [Value.oneCell']) (by omega) (by simp only [maxLen]; omega) (by omega) (by have := HX.out.sv.sz; have := HX.out.sv.bs; simp; omega) (w1.heap.size + 1) (by simp) ?_); intro g' cap' w2 hown hgrow hat hlt; have hb2 := (HX.out.alloc _).blk.kept hgrow (fun e => (HX.out.nB (HX.out.sv.aN _ e.symm))); have j0 := hb2.cell 0; have y0 := hb2.frozen 0; simp only [List.getElem?_toArray, List.getElem?_cons_zero] at j0)
  have h2 := (HX.out.alloc _).pushN (nd := ⟨2, 0, 0, 0, t⟩) (by first | exact hown | (rw [nd_zero7]; exact hown)) hgrow (hat.imp id fun e => by rw [e]; simp)
  clear HX hown hgrow hat hlt hb2 j0 y0
  clear c0 c1 c2 c3 f0 f1 f2 f3 lP kP tP yP lR kR tR yR
  generalize w2.setCell ⟨w.heap.size, 0, none⟩ (.slice (some ⟨g', 0, none⟩) (l.length + 1 : Nat) cap') = w4 at *
  clear d0 d3 d4 d5 d6 d7 d8
  obtain ⟨c0, c1, c2, c3⟩ := h2.c
  obtain ⟨f0, f1, f2, f3⟩ := h2.f
  obtain ⟨_, _, e, lP, kP, tP, yP⟩ := h2.sv.topPK HPQ.out.1
  cases e
  obtain ⟨_, _, e, lR, kR, tR, yR⟩ := h2.sv.topRK HPQ.out.2
  cases e
  have HX := Lib.hid h2
  clear h2
  go_upto_region 18 with fail
  have h3 := HX.out.setPK HPQ.out.1 (n + 1) (v := (n : Int) + 1) rfl
  clear HX
  clear c0 c1 c2 c3 f0 f1 f2 f3 lP kP tP yP lR kR tR yR
  generalize w4.setCell ⟨gP, K, none⟩ (.int .i64 ((n : Int) + 1)) = w5 at *
  obtain ⟨c0, c1, c2, c3⟩ := h3.c
  obtain ⟨f0, f1, f2, f3⟩ := h3.f
  obtain ⟨_, _, e, lP, kP, tP, yP⟩ := h3.sv.topPK HPQ.out.1
  cases e
  obtain ⟨_, _, e, lR, kR, tR, yR⟩ := h3.sv.topRK HPQ.out.2
  cases e
  have HX := Lib.hid h3
  clear h3
  go_wp2_with ((with_reducible refine wpList_store_st (o := ⟨none, .store 48 _ _, _, _, _, _⟩) rfl 48 _ _ rfl (w.heap.size + 2) rfl rfl (run_storeAt_row _ (w.heap.size + 2) 48 48 stO (stW (.slice (some ⟨g', 0, none⟩) (l.length + 1 : Nat) cap') (.slice (some ⟨gP, 0, none⟩) (K + 1 : Nat) cP) (.slice (some ⟨gR, 0, none⟩) (K + 1 : Nat) cR) (gr : Int)) ?_ ?_ ?_ ?_) ?_); exact HX.out.res; exact infoSt7; rfl; exact st_one7 _ _ _ _ _ _ _ _ _ _)
  have hE := bx_end3 HU.out.1 HU.out.2.1 HU.out.2.2 HX.out (stW (.slice (some ⟨g', 0, none⟩) (l.length + 1 : Nat) cap') (.slice (some ⟨gP, 0, none⟩) (K + 1 : Nat) cP) (.slice (some ⟨gR, 0, none⟩) (K + 1 : Nat) cR) (gr : Int))
  exact bodyPost_ret (v := .agg (stW (.slice (some ⟨g', 0, none⟩) (l.length + 1 : Nat) cap') (.slice (some ⟨gP, 0, none⟩) (K + 1 : Nat) cP) (.slice (some ⟨gR, 0, none⟩) (K + 1 : Nat) cR) (gr : Int))) (results_cell_row rfl _ _ (w.heap.size + 2) 48 (stW (.slice (some ⟨g', 0, none⟩) (l.length + 1 : Nat) cap') (.slice (some ⟨gP, 0, none⟩) (K + 1 : Nat) cP) (.slice (some ⟨gR, 0, none⟩) (K + 1 : Nat) cR) (gr : Int)) (0, 0) _ rfl (Blk.setRow HX.out.res) Tryz.underlying48 rfl infoSt7) rfl ⟨_, _, _, rfl, hE.1, hE.2⟩
set_option maxRecDepth 100000 in
set_option maxHeartbeats 16000000 in
theorem rtake5 {base N K : Nat} {A : Nat → Prop} {l : List NdN} {ps rs : List Nat} {n r gr : Nat} {vN vP vR : Value} (p f : Int) (t : BitVec 256) (n' m' : Int) (w : World) (h : SV base N A l (ps ++ [n]) (rs ++ [r]) vN vP vR w) (hp : ps.length = K) (hq : rs.length = K) (hl : l.length ≤ 3999990) (hp' : K ≤ 2000000) :
    Calls Tryz.prog 36 #[.agg (stW vN vP vR gr), .agg (woI 5 p f t n' m')] w fun e w' => ∃ vN' vP' vR', e = .returned (.agg (stW vN' vP' vR' gr)) ∧ SV base N A (l ++ [⟨4, 1, n', m', 0⟩]) (ps ++ [n]) (rs ++ [r]) vN' vP' vR' w' ∧ KpA A w w' := by
  obtain ⟨i0, hi0, hz0, hz1, hz2⟩ := info_parts info8n
  obtain ⟨aN, cN, rfl⟩ := h.formN
  obtain ⟨gP, cP, rfl, _⟩ := h.topPK hp
  obtain ⟨gR, cR, rfl, _⟩ := h.topRK hq
  have hx := bx_new3 (gr : Int) (woI 5 p f t n' m') h
  have hW : Blk (((w.alloc (.cells (stW (.slice aN l.length cN) (.slice (some ⟨gP, 0, none⟩) (K + 1 : Nat) cP) (.slice (some ⟨gR, 0, none⟩) (K + 1 : Nat) cR) gr) 48)).alloc (.cells (woI 5 p f t n' m') 40)).alloc (.cells stO 48)) (w.heap.size + 1) (woI 5 p f t n' m') 40 := by
    have := (Blk.new (w.alloc (.cells (stW (.slice aN l.length cN) (.slice (some ⟨gP, 0, none⟩) (K + 1 : Nat) cP) (.slice (some ⟨gR, 0, none⟩) (K + 1 : Nat) cR) gr) 48)) (woI 5 p f t n' m') 40).alloc (.cells stO 48)
    rwa [World.size_alloc] at this
  have HU := Lib.hid (And.intro h.sz (And.intro h.up h.bs))
  have HPQ := Lib.hid (And.intro hp hq)
  clear h hp hq
  go_enter Tryz.func36, Tryz.ntmps36
  go_upto_region 1 with fail
  have e0 : ((w.alloc (.cells #[.slice aN l.length cN, .slice (some ⟨gP, 0, none⟩) (K + 1 : Nat) cP, .slice (some ⟨gR, 0, none⟩) (K + 1 : Nat) cR, .int .i64 gr] 48)).alloc (.cells (woI 5 p f t n' m') 40)).alloc (.cells #[.slice none 0 0, .slice none 0 0, .slice none 0 0, .int .i64 0] 48) = ((w.alloc (.cells (stW (.slice aN l.length cN) (.slice (some ⟨gP, 0, none⟩) (K + 1 : Nat) cP) (.slice (some ⟨gR, 0, none⟩) (K + 1 : Nat) cR) gr) 48)).alloc (.cells (woI 5 p f t n' m') 40)).alloc (.cells stO 48) := rfl
  try rw [e0]
  clear e0
  generalize ((w.alloc (.cells (stW (.slice aN l.length cN) (.slice (some ⟨gP, 0, none⟩) (K + 1 : Nat) cP) (.slice (some ⟨gR, 0, none⟩) (K + 1 : Nat) cR) gr) 48)).alloc (.cells (woI 5 p f t n' m') 40)).alloc (.cells stO 48) = w1 at *
  have d0 := hW.cell 0; have d3 := hW.cell 3; have d4 := hW.cell 4; have d5 := hW.cell 5; have d6 := hW.cell 6; have d7 := hW.cell 7; have d8 := hW.cell 8
  simp only [List.getElem?_toArray, List.getElem?_cons_zero, List.getElem?_cons_succ] at d0 d3 d4 d5 d6 d7 d8
  clear hW
  obtain ⟨c0, c1, c2, c3⟩ := hx.c
  obtain ⟨f0, f1, f2, f3⟩ := hx.f
  obtain ⟨_, _, e, lP, kP, tP, yP⟩ := hx.sv.topPK HPQ.out.1
  cases e
  obtain ⟨_, _, e, lR, kR, tR, yR⟩ := hx.sv.topRK HPQ.out.2
  cases e
  have HX := Lib.hid hx
  clear hx
  have q0 : (0 : Int) ≤ (K : Int) := by omega
  have q1 : (K : Int) < ((K + 1 : Nat) : Int) := by omega
  go_upto_region 18 with (at_builtin; go_loud (refine wpList_append_lies _ rfl _ _ 28 rfl base 92 i0 (.agg #[.int .i64 0, .int .i64 0, .int .i64 0, .int .i64 0, .int .u64 0, .int .u64 0, .int .u64 0, .int .u64 0]) 8 64 Tryz.underlying28 hi0 hz0 hz1 hz2 rfl (by decide) (.slice aN l.length cN) l.length (ndCells l) rfl (HX.out.alloc _).sv.nodes ⟨w1.heap.size, 0, none⟩ 1 1 [.int .i64 4, .int .i64 1, .int .i64 n', .int .i64 m', .int .u64 0, .int .u64 0, .int .u64 0, .int .u64 0] rfl rfl (World.news_of_block (cs := [.int .i64 4, .int .i64 1, .int .i64 n', .int .i64 m', .int .u64 0, .int .u64 0, .int .u64 0, .int .u64 0].toArray) (t := 92) (fr := (0, 0)) (heap_alloc_new w1 _)) (by simp [Value.oneCell']) (by omega) (by simp only [maxLen]; omega) (by omega) (by have := HX.out.sv.sz; have := HX.out.sv.bs; simp; omega) (w1.heap.size + 1) (by simp) ?_); intro g' cap' w2 hown hgrow hat hlt; have hb2 := (HX.out.alloc _).blk.kept hgrow (fun e => (HX.out.nB (HX.out.sv.aN _ e.symm))); have j0 := hb2.cell 0; have y0 := hb2.frozen 0; simp only [List.getElem?_toArray, List.getElem?_cons_zero] at j0)
  have h2 := (HX.out.alloc _).pushN (nd := ⟨4, 1, n', m', 0⟩) (by first | exact hown | (rw [nd_zero7]; exact hown)) hgrow (hat.imp id fun e => by rw [e]; simp)
  clear HX hown hgrow hat hlt hb2 j0 y0
  clear c0 c1 c2 c3 f0 f1 f2 f3 lP kP tP yP lR kR tR yR
  generalize w2.setCell ⟨w.heap.size, 0, none⟩ (.slice (some ⟨g', 0, none⟩) (l.length + 1 : Nat) cap') = w4 at *
  clear d0 d3 d4 d5 d6 d7 d8
  obtain ⟨c0, c1, c2, c3⟩ := h2.c
  obtain ⟨f0, f1, f2, f3⟩ := h2.f
  obtain ⟨_, _, e, lP, kP, tP, yP⟩ := h2.sv.topPK HPQ.out.1
  cases e
  obtain ⟨_, _, e, lR, kR, tR, yR⟩ := h2.sv.topRK HPQ.out.2
  cases e
  have HX := Lib.hid h2
  clear h2
  go_wp2_with ((with_reducible refine wpList_store_st (o := ⟨none, .store 48 _ _, _, _, _, _⟩) rfl 48 _ _ rfl (w.heap.size + 2) rfl rfl (run_storeAt_row _ (w.heap.size + 2) 48 48 stO (stW (.slice (some ⟨g', 0, none⟩) (l.length + 1 : Nat) cap') (.slice (some ⟨gP, 0, none⟩) (K + 1 : Nat) cP) (.slice (some ⟨gR, 0, none⟩) (K + 1 : Nat) cR) (gr : Int)) ?_ ?_ ?_ ?_) ?_); exact HX.out.res; exact infoSt7; rfl; exact st_one7 _ _ _ _ _ _ _ _ _ _)
  have hE := bx_end3 HU.out.1 HU.out.2.1 HU.out.2.2 HX.out (stW (.slice (some ⟨g', 0, none⟩) (l.length + 1 : Nat) cap') (.slice (some ⟨gP, 0, none⟩) (K + 1 : Nat) cP) (.slice (some ⟨gR, 0, none⟩) (K + 1 : Nat) cR) (gr : Int))
  exact bodyPost_ret (v := .agg (stW (.slice (some ⟨g', 0, none⟩) (l.length + 1 : Nat) cap') (.slice (some ⟨gP, 0, none⟩) (K + 1 : Nat) cP) (.slice (some ⟨gR, 0, none⟩) (K + 1 : Nat) cR) (gr : Int))) (results_cell_row rfl _ _ (w.heap.size + 2) 48 (stW (.slice (some ⟨g', 0, none⟩) (l.length + 1 : Nat) cap') (.slice (some ⟨gP, 0, none⟩) (K + 1 : Nat) cP) (.slice (some ⟨gR, 0, none⟩) (K + 1 : Nat) cR) (gr : Int)) (0, 0) _ rfl (Blk.setRow HX.out.res) Tryz.underlying48 rfl infoSt7) rfl ⟨_, _, _, rfl, hE.1, hE.2⟩
set_option maxRecDepth 100000 in
set_option maxHeartbeats 16000000 in
theorem rtake4 {base N K : Nat} {A : Nat → Prop} {l : List NdN} {ps rs : List Nat} {n r gr : Nat} {vN vP vR : Value} (p f : Int) (t : BitVec 256) (n' m' : Int) (w : World) (h : SV base N A l (ps ++ [n]) (rs ++ [r]) vN vP vR w) (hp : ps.length = K) (hq : rs.length = K) (hl : l.length ≤ 3999990) (hn : n ≤ 2000000) (hr' : r ≤ 2000000) (hp' : K ≤ 2000000) :
    Calls Tryz.prog 36 #[.agg (stW vN vP vR gr), .agg (woI 4 p f t n' m')] w fun e w' => ∃ vN' vP' vR', e = .returned (.agg (stW vN' vP' vR' gr)) ∧ SV base N A (l ++ rowT n) (ps ++ [0]) (rs ++ [r + 1]) vN' vP' vR' w' ∧ KpA A w w' := by
  obtain ⟨i0, hi0, hz0, hz1, hz2⟩ := info_parts info8n
  have HRW := Lib.hid (fun vN vP vR W (h : SV base (w.heap.size + 3) (fun k => A k ∧ k ≠ w.heap.size ∧ k ≠ w.heap.size + 1 ∧ k ≠ w.heap.size + 2) l (ps ++ [n]) (rs ++ [r]) vN vP vR W) => rrow_calls (gr := gr) W h hp hq (by omega) hn hr' hp')
  obtain ⟨aN, cN, rfl⟩ := h.formN
  obtain ⟨gP, cP, rfl, _⟩ := h.topPK hp
  obtain ⟨gR, cR, rfl, _⟩ := h.topRK hq
  have hx := bx_new3 (gr : Int) (woI 4 p f t n' m') h
  have hW : Blk (((w.alloc (.cells (stW (.slice aN l.length cN) (.slice (some ⟨gP, 0, none⟩) (K + 1 : Nat) cP) (.slice (some ⟨gR, 0, none⟩) (K + 1 : Nat) cR) gr) 48)).alloc (.cells (woI 4 p f t n' m') 40)).alloc (.cells stO 48)) (w.heap.size + 1) (woI 4 p f t n' m') 40 := by
    have := (Blk.new (w.alloc (.cells (stW (.slice aN l.length cN) (.slice (some ⟨gP, 0, none⟩) (K + 1 : Nat) cP) (.slice (some ⟨gR, 0, none⟩) (K + 1 : Nat) cR) gr) 48)) (woI 4 p f t n' m') 40).alloc (.cells stO 48)
    rwa [World.size_alloc] at this
  have HU := Lib.hid (And.intro h.sz (And.intro h.up h.bs))
  have HPQ := Lib.hid (And.intro hp hq)
  clear h hp hq
  go_enter Tryz.func36, Tryz.ntmps36
  go_upto_region 1 with fail
  have e0 : ((w.alloc (.cells #[.slice aN l.length cN, .slice (some ⟨gP, 0, none⟩) (K + 1 : Nat) cP, .slice (some ⟨gR, 0, none⟩) (K + 1 : Nat) cR, .int .i64 gr] 48)).alloc (.cells (woI 4 p f t n' m') 40)).alloc (.cells #[.slice none 0 0, .slice none 0 0, .slice none 0 0, .int .i64 0] 48) = ((w.alloc (.cells (stW (.slice aN l.length cN) (.slice (some ⟨gP, 0, none⟩) (K + 1 : Nat) cP) (.slice (some ⟨gR, 0, none⟩) (K + 1 : Nat) cR) gr) 48)).alloc (.cells (woI 4 p f t n' m') 40)).alloc (.cells stO 48) := rfl
  try rw [e0]
  clear e0
  generalize ((w.alloc (.cells (stW (.slice aN l.length cN) (.slice (some ⟨gP, 0, none⟩) (K + 1 : Nat) cP) (.slice (some ⟨gR, 0, none⟩) (K + 1 : Nat) cR) gr) 48)).alloc (.cells (woI 4 p f t n' m') 40)).alloc (.cells stO 48) = w1 at *
  have d0 := hW.cell 0; have d3 := hW.cell 3; have d4 := hW.cell 4; have d5 := hW.cell 5; have d6 := hW.cell 6; have d7 := hW.cell 7; have d8 := hW.cell 8
  simp only [List.getElem?_toArray, List.getElem?_cons_zero, List.getElem?_cons_succ] at d0 d3 d4 d5 d6 d7 d8
  clear hW
  obtain ⟨c0, c1, c2, c3⟩ := hx.c
  obtain ⟨f0, f1, f2, f3⟩ := hx.f
  obtain ⟨_, _, e, lP, kP, tP, yP⟩ := hx.sv.topPK HPQ.out.1
  cases e
  obtain ⟨_, _, e, lR, kR, tR, yR⟩ := hx.sv.topRK HPQ.out.2
  cases e
  have HX := Lib.hid hx
  clear hx
  have q0 : (0 : Int) ≤ (K : Int) := by omega
  have q1 : (K : Int) < ((K + 1 : Nat) : Int) := by omega
  go_wp2_with fail
  refine (HRW.out _ _ _ _ HX.out.sv).mono ?_
  rintro e w2 ⟨vN', rfl, hs, hk⟩
  clear d0 d3 d4 d5 d6 d7 d8
  generalize hll : l ++ rowT n = l2 at *
  have HLL := Lib.hid hll
  clear hll
  obtain ⟨aM, cM, rfl⟩ := hs.formN
  have hb2 := HX.out.blk.kpA hk HX.out.nB
  have h2 := HX.out.call (g2 := (gr : Int)) hs hk
  clear HRW HX hs hk c0 c1 c2 c3 f0 f1 f2 f3 lP kP tP yP lR kR tR yR
  go_upto_region 18 with ((with_reducible refine wpList_store_st (o := ⟨none, .store 48 _ _, _, _, _, _⟩) rfl 48 _ _ rfl w.heap.size rfl rfl (run_storeAt_row _ w.heap.size 48 48 (stW (.slice aN l.length cN) (.slice (some ⟨gP, 0, none⟩) (K + 1 : Nat) cP) (.slice (some ⟨gR, 0, none⟩) (K + 1 : Nat) cR) (gr : Int)) (stW (.slice aM l2.length cM) (.slice (some ⟨gP, 0, none⟩) (K + 1 : Nat) cP) (.slice (some ⟨gR, 0, none⟩) (K + 1 : Nat) cR) (gr : Int)) ?_ ?_ ?_ ?_) ?_); exact hb2; exact infoSt7; rfl; exact st_one7 _ _ _ _ _ _ _ _ _ _)
  clear hb2
  generalize w2.setRow w.heap.size (stW (.slice aM l2.length cM) (.slice (some ⟨gP, 0, none⟩) (K + 1 : Nat) cP) (.slice (some ⟨gR, 0, none⟩) (K + 1 : Nat) cR) (gr : Int)) = w3 at *
  obtain ⟨c0, c1, c2, c3⟩ := h2.c
  obtain ⟨f0, f1, f2, f3⟩ := h2.f
  obtain ⟨_, _, e, lP, kP, tP, yP⟩ := h2.sv.topPK HPQ.out.1
  cases e
  obtain ⟨_, _, e, lR, kR, tR, yR⟩ := h2.sv.topRK HPQ.out.2
  cases e
  have HX := Lib.hid h2
  clear h2
  go_wp2_with ((with_reducible refine wpList_store_st (o := ⟨none, .store 48 _ _, _, _, _, _⟩) rfl 48 _ _ rfl (w.heap.size + 2) rfl rfl (run_storeAt_row _ (w.heap.size + 2) 48 48 stO (stW (.slice aM l2.length cM) (.slice (some ⟨gP, 0, none⟩) (K + 1 : Nat) cP) (.slice (some ⟨gR, 0, none⟩) (K + 1 : Nat) cR) (gr : Int)) ?_ ?_ ?_ ?_) ?_); exact HX.out.res; exact infoSt7; rfl; exact st_one7 _ _ _ _ _ _ _ _ _ _)
  have hE := bx_end3 HU.out.1 HU.out.2.1 HU.out.2.2 HX.out (stW (.slice aM l2.length cM) (.slice (some ⟨gP, 0, none⟩) (K + 1 : Nat) cP) (.slice (some ⟨gR, 0, none⟩) (K + 1 : Nat) cR) (gr : Int))
  exact bodyPost_ret (v := .agg (stW (.slice aM l2.length cM) (.slice (some ⟨gP, 0, none⟩) (K + 1 : Nat) cP) (.slice (some ⟨gR, 0, none⟩) (K + 1 : Nat) cR) (gr : Int))) (results_cell_row rfl _ _ (w.heap.size + 2) 48 (stW (.slice aM l2.length cM) (.slice (some ⟨gP, 0, none⟩) (K + 1 : Nat) cP) (.slice (some ⟨gR, 0, none⟩) (K + 1 : Nat) cR) (gr : Int)) (0, 0) _ rfl (Blk.setRow HX.out.res) Tryz.underlying48 rfl infoSt7) rfl ⟨_, _, _, rfl, by rw [HLL.out]; exact hE.1, hE.2⟩
set_option maxRecDepth 100000 in
set_option maxHeartbeats 16000000 in
theorem rtake2 {base N K : Nat} {A : Nat → Prop} {l : List NdN} {ps rs : List Nat} {n r gr : Nat} {vN vP vR : Value} (p f : Int) (t : BitVec 256) (n' m' : Int) (w : World) (h : SV base N A l (ps ++ [n]) (rs ++ [r]) vN vP vR w) (hp : ps.length = K) (hq : rs.length = K) (hg : gr < 9) (hp' : K ≤ 2000000) :
    Calls Tryz.prog 36 #[.agg (stW vN vP vR gr), .agg (woI 2 p f t n' m')] w fun e w' => ∃ vN' vP' vR', e = .returned (.agg (stW vN' vP' vR' ((gr : Int) + 1))) ∧ SV base N A l (ps ++ [n] ++ [0]) (rs ++ [r] ++ [0]) vN' vP' vR' w' ∧ KpA A w w' := by
  obtain ⟨i1, hj0, hj1, hj2, hj3⟩ := info_parts infoInt7
  obtain ⟨aN, cN, rfl⟩ := h.formN
  obtain ⟨gP, cP, rfl, _⟩ := h.topPK hp
  obtain ⟨gR, cR, rfl, _⟩ := h.topRK hq
  have hx := bx_new3 (gr : Int) (woI 2 p f t n' m') h
  have hW : Blk (((w.alloc (.cells (stW (.slice aN l.length cN) (.slice (some ⟨gP, 0, none⟩) (K + 1 : Nat) cP) (.slice (some ⟨gR, 0, none⟩) (K + 1 : Nat) cR) gr) 48)).alloc (.cells (woI 2 p f t n' m') 40)).alloc (.cells stO 48)) (w.heap.size + 1) (woI 2 p f t n' m') 40 := by
    have := (Blk.new (w.alloc (.cells (stW (.slice aN l.length cN) (.slice (some ⟨gP, 0, none⟩) (K + 1 : Nat) cP) (.slice (some ⟨gR, 0, none⟩) (K + 1 : Nat) cR) gr) 48)) (woI 2 p f t n' m') 40).alloc (.cells stO 48)
    rwa [World.size_alloc] at this
  have HU := Lib.hid (And.intro h.sz (And.intro h.up h.bs))
  have HPQ := Lib.hid (And.intro hp hq)
  clear h hp hq
  go_enter Tryz.func36, Tryz.ntmps36
  go_upto_region 1 with fail
  have e0 : ((w.alloc (.cells #[.slice aN l.length cN, .slice (some ⟨gP, 0, none⟩) (K + 1 : Nat) cP, .slice (some ⟨gR, 0, none⟩) (K + 1 : Nat) cR, .int .i64 gr] 48)).alloc (.cells (woI 2 p f t n' m') 40)).alloc (.cells #[.slice none 0 0, .slice none 0 0, .slice none 0 0, .int .i64 0] 48) = ((w.alloc (.cells (stW (.slice aN l.length cN) (.slice (some ⟨gP, 0, none⟩) (K + 1 : Nat) cP) (.slice (some ⟨gR, 0, none⟩) (K + 1 : Nat) cR) gr) 48)).alloc (.cells (woI 2 p f t n' m') 40)).alloc (.cells stO 48) := rfl
  try rw [e0]
  clear e0
  generalize ((w.alloc (.cells (stW (.slice aN l.length cN) (.slice (some ⟨gP, 0, none⟩) (K + 1 : Nat) cP) (.slice (some ⟨gR, 0, none⟩) (K + 1 : Nat) cR) gr) 48)).alloc (.cells (woI 2 p f t n' m') 40)).alloc (.cells stO 48) = w1 at *
  have d0 := hW.cell 0; have d3 := hW.cell 3; have d4 := hW.cell 4; have d5 := hW.cell 5; have d6 := hW.cell 6; have d7 := hW.cell 7; have d8 := hW.cell 8
  simp only [List.getElem?_toArray, List.getElem?_cons_zero, List.getElem?_cons_succ] at d0 d3 d4 d5 d6 d7 d8
  clear hW
  obtain ⟨c0, c1, c2, c3⟩ := hx.c
  obtain ⟨f0, f1, f2, f3⟩ := hx.f
  obtain ⟨_, _, e, lP, kP, tP, yP⟩ := hx.sv.topPK HPQ.out.1
  cases e
  obtain ⟨_, _, e, lR, kR, tR, yR⟩ := hx.sv.topRK HPQ.out.2
  cases e
  have HX := Lib.hid hx
  clear hx
  have q0 : (0 : Int) ≤ (K : Int) := by omega
  have q1 : (K : Int) < ((K + 1 : Nat) : Int) := by omega
  clear lP kP tP yP lR kR tR yR
  go_upto_region 8 with (at_builtin; go_loud (refine wpList_append_lies _ rfl _ _ 46 rfl base 3 i1 (.int .i64 0) 1 8 Tryz.underlying46 hj0 hj1 hj2 hj3 rfl (by decide) (.slice (some ⟨gP, 0, none⟩) (K + 1 : Nat) cP) (K + 1) (inC (ps ++ [n])) rfl ((HX.out.alloc _).sv.piecesK HPQ.out.1) ⟨w1.heap.size, 0, none⟩ 1 1 [.int .i64 0] rfl rfl (World.news_of_block (cs := #[.int .i64 0]) (t := 3) (fr := (0, 0)) (heap_alloc_new w1 _)) (by simp [Value.oneCell']) (by omega) (by simp only [maxLen]; omega) (by omega) (by have := HX.out.sv.sz; have := HX.out.sv.bs; simp; omega) (w1.heap.size + 1) (by simp) ?_); intro g1 cap1 w2 hown hgrow hat hlt; have hb2 := (HX.out.alloc _).blk.kept hgrow (fun e => (HX.out.nB (HX.out.sv.aP _ e.symm))); have j0 := hb2.cell 1; have y0 := hb2.frozen 1; simp only [List.getElem?_toArray, List.getElem?_cons_zero, List.getElem?_cons_succ] at j0)
  have h2 := (HX.out.alloc _).pushPK (n := 0) (len_snoc HPQ.out.1) hown hgrow (hat.imp id fun e => by rw [e]; simp)
  clear HX hown hgrow hat hlt hb2 j0 y0
  clear c0 c1 c2 c3 f0 f1 f2 f3
  generalize w2.setCell ⟨w.heap.size, 1, none⟩ (.slice (some ⟨g1, 0, none⟩) (K + 1 + 1 : Nat) cap1) = w4 at *
  obtain ⟨c0, c1, c2, c3⟩ := h2.c
  obtain ⟨f0, f1, f2, f3⟩ := h2.f
  have HX := Lib.hid h2
  clear h2
  go_upto_region 9 with (at_builtin; go_loud (refine wpList_append_lies _ rfl _ _ 46 rfl base 3 i1 (.int .i64 0) 1 8 Tryz.underlying46 hj0 hj1 hj2 hj3 rfl (by decide) (.slice (some ⟨gR, 0, none⟩) (K + 1 : Nat) cR) (K + 1) (inC (rs ++ [r])) rfl ((HX.out.alloc _).sv.rowsK HPQ.out.2) ⟨w4.heap.size, 0, none⟩ 1 1 [.int .i64 0] rfl rfl (World.news_of_block (cs := #[.int .i64 0]) (t := 3) (fr := (0, 0)) (heap_alloc_new w4 _)) (by simp [Value.oneCell']) (by omega) (by simp only [maxLen]; omega) (by omega) (by have := HX.out.sv.sz; have := HX.out.sv.bs; simp; omega) (w4.heap.size + 1) (by simp) ?_); intro g2 cap2 w2 hown hgrow hat hlt; have hb2 := (HX.out.alloc _).blk.kept hgrow (fun e => (HX.out.nB (HX.out.sv.aR _ e.symm))); have j0 := hb2.cell 2; have y0 := hb2.frozen 2; simp only [List.getElem?_toArray, List.getElem?_cons_zero, List.getElem?_cons_succ] at j0)
  have h2 := (HX.out.alloc _).pushRK (n := 0) (len_snoc HPQ.out.2) hown hgrow (hat.imp id fun e => by rw [e]; simp)
  clear HX hown hgrow hat hlt hb2 j0 y0
  clear c0 c1 c2 c3 f0 f1 f2 f3
  generalize w2.setCell ⟨w.heap.size, 2, none⟩ (.slice (some ⟨g2, 0, none⟩) (K + 1 + 1 : Nat) cap2) = w5 at *
  obtain ⟨c0, c1, c2, c3⟩ := h2.c
  obtain ⟨f0, f1, f2, f3⟩ := h2.f
  have HX := Lib.hid h2
  clear h2
  go_upto_region 18 with fail
  have h2 := HX.out.setG ((gr : Int) + 1)
  clear HX
  clear c0 c1 c2 c3 f0 f1 f2 f3
  generalize w5.setCell ⟨w.heap.size, 3, none⟩ (.int .i64 ((gr : Int) + 1)) = w6 at *
  obtain ⟨c0, c1, c2, c3⟩ := h2.c
  obtain ⟨f0, f1, f2, f3⟩ := h2.f
  have HX := Lib.hid h2
  clear h2
  clear d0 d3 d4 d5 d6 d7 d8
  go_wp2_with ((with_reducible refine wpList_store_st (o := ⟨none, .store 48 _ _, _, _, _, _⟩) rfl 48 _ _ rfl (w.heap.size + 2) rfl rfl (run_storeAt_row _ (w.heap.size + 2) 48 48 stO (stW (.slice aN l.length cN) (.slice (some ⟨g1, 0, none⟩) (K + 1 + 1 : Nat) cap1) (.slice (some ⟨g2, 0, none⟩) (K + 1 + 1 : Nat) cap2) ((gr : Int) + 1)) ?_ ?_ ?_ ?_) ?_); exact HX.out.res; exact infoSt7; rfl; exact st_one7 _ _ _ _ _ _ _ _ _ _)
  have hE := bx_end3 HU.out.1 HU.out.2.1 HU.out.2.2 HX.out (stW (.slice aN l.length cN) (.slice (some ⟨g1, 0, none⟩) (K + 1 + 1 : Nat) cap1) (.slice (some ⟨g2, 0, none⟩) (K + 1 + 1 : Nat) cap2) ((gr : Int) + 1))
  exact bodyPost_ret (v := .agg (stW (.slice aN l.length cN) (.slice (some ⟨g1, 0, none⟩) (K + 1 + 1 : Nat) cap1) (.slice (some ⟨g2, 0, none⟩) (K + 1 + 1 : Nat) cap2) ((gr : Int) + 1))) (results_cell_row rfl _ _ (w.heap.size + 2) 48 (stW (.slice aN l.length cN) (.slice (some ⟨g1, 0, none⟩) (K + 1 + 1 : Nat) cap1) (.slice (some ⟨g2, 0, none⟩) (K + 1 + 1 : Nat) cap2) ((gr : Int) + 1)) (0, 0) _ rfl (Blk.setRow HX.out.res) Tryz.underlying48 rfl infoSt7) rfl ⟨_, _, _, rfl, hE.1, hE.2⟩
set_option maxRecDepth 100000 in
set_option maxHeartbeats 16000000 in
theorem rtake3 {base N K : Nat} {A : Nat → Prop} {l : List NdN} {ps rs : List Nat} {n r gr : Nat} {vN vP vR : Value} (p f : Int) (t : BitVec 256) (n' m' : Int) (w : World) {n2 r2 K2 : Nat} (h : SV base N A l (ps ++ [n2] ++ [n]) (rs ++ [r2] ++ [r]) vN vP vR w) (hp : (ps ++ [n2]).length = K) (hq : (rs ++ [r2]).length = K) (hp2 : ps.length = K2) (hq2 : rs.length = K2) (hK : K = K2 + 1) (hl : l.length ≤ 3999990) (hn : n ≤ 2000000) (hn2 : n2 ≤ 2000000) (hr' : r ≤ 2000000) (hp' : K ≤ 2000000) :
    Calls Tryz.prog 36 #[.agg (stW vN vP vR gr), .agg (woI 3 p f t n' m')] w fun e w' => ∃ vN' vP' vR', e = .returned (.agg (stW vN' vP' vR' gr)) ∧ SV base N A (l ++ rowT n ++ rowsT (r + 1) ++ [ndG]) (ps ++ [n2 + 1]) (rs ++ [r2]) vN' vP' vR' w' ∧ KpA A w w' := by
  obtain ⟨i0, hi0, hz0, hz1, hz2⟩ := info_parts info8n
  have HRW := Lib.hid (fun vN vP vR W (h : SV base (w.heap.size + 3) (fun k => A k ∧ k ≠ w.heap.size ∧ k ≠ w.heap.size + 1 ∧ k ≠ w.heap.size + 2) l (ps ++ [n2] ++ [n]) (rs ++ [r2] ++ [r]) vN vP vR W) => rrows_calls (gr := gr) W h hp hq hl hn hr' hp')
  have HP2 := Lib.hid (And.intro hp2 hq2)
  have HK := Lib.hid hK
  have hl2' : (l ++ rowT n ++ rowsT (r + 1)).length ≤ 4000000 := by
    rw [List.length_append, List.length_append]
    have h1 : (rowT n).length ≤ 1 := by
      unfold rowT
      by_cases h0 : n = 0
      · rw [if_pos h0]; exact Nat.le_refl _
      · rw [if_neg h0]
        by_cases h1 : n = 1
        · rw [if_pos h1]; exact Nat.zero_le _
        · rw [if_neg h1]; exact Nat.le_refl _
    have h2 : (rowsT (r + 1)).length ≤ 1 := by
      unfold rowsT
      by_cases h0 : 1 < r + 1
      · rw [if_pos h0]; exact Nat.le_refl _
      · rw [if_neg h0]; exact Nat.zero_le _
    omega
  have x58 : IntKind.i64.wrap ((K : Int) - 1) = K2 := by rw [IntWalk.i64_in _ (by omega)]; omega
  have kb2 : K2 ≤ 2000000 := by omega
  clear hp2 hq2 hK
  obtain ⟨aN, cN, rfl⟩ := h.formN
  obtain ⟨gP, cP, rfl, _⟩ := h.topPK hp
  obtain ⟨gR, cR, rfl, _⟩ := h.topRK hq
  have hx := bx_new3 (gr : Int) (woI 3 p f t n' m') h
  have hW : Blk (((w.alloc (.cells (stW (.slice aN l.length cN) (.slice (some ⟨gP, 0, none⟩) (K + 1 : Nat) cP) (.slice (some ⟨gR, 0, none⟩) (K + 1 : Nat) cR) gr) 48)).alloc (.cells (woI 3 p f t n' m') 40)).alloc (.cells stO 48)) (w.heap.size + 1) (woI 3 p f t n' m') 40 := by
    have := (Blk.new (w.alloc (.cells (stW (.slice aN l.length cN) (.slice (some ⟨gP, 0, none⟩) (K + 1 : Nat) cP) (.slice (some ⟨gR, 0, none⟩) (K + 1 : Nat) cR) gr) 48)) (woI 3 p f t n' m') 40).alloc (.cells stO 48)
    rwa [World.size_alloc] at this
  have HU := Lib.hid (And.intro h.sz (And.intro h.up h.bs))
  have HPQ := Lib.hid (And.intro hp hq)
  clear h hp hq
  go_enter Tryz.func36, Tryz.ntmps36
  go_upto_region 1 with fail
  have e0 : ((w.alloc (.cells #[.slice aN l.length cN, .slice (some ⟨gP, 0, none⟩) (K + 1 : Nat) cP, .slice (some ⟨gR, 0, none⟩) (K + 1 : Nat) cR, .int .i64 gr] 48)).alloc (.cells (woI 3 p f t n' m') 40)).alloc (.cells #[.slice none 0 0, .slice none 0 0, .slice none 0 0, .int .i64 0] 48) = ((w.alloc (.cells (stW (.slice aN l.length cN) (.slice (some ⟨gP, 0, none⟩) (K + 1 : Nat) cP) (.slice (some ⟨gR, 0, none⟩) (K + 1 : Nat) cR) gr) 48)).alloc (.cells (woI 3 p f t n' m') 40)).alloc (.cells stO 48) := rfl
  try rw [e0]
  clear e0
  generalize ((w.alloc (.cells (stW (.slice aN l.length cN) (.slice (some ⟨gP, 0, none⟩) (K + 1 : Nat) cP) (.slice (some ⟨gR, 0, none⟩) (K + 1 : Nat) cR) gr) 48)).alloc (.cells (woI 3 p f t n' m') 40)).alloc (.cells stO 48) = w1 at *
  have d0 := hW.cell 0; have d3 := hW.cell 3; have d4 := hW.cell 4; have d5 := hW.cell 5; have d6 := hW.cell 6; have d7 := hW.cell 7; have d8 := hW.cell 8
  simp only [List.getElem?_toArray, List.getElem?_cons_zero, List.getElem?_cons_succ] at d0 d3 d4 d5 d6 d7 d8
  clear hW
  obtain ⟨c0, c1, c2, c3⟩ := hx.c
  obtain ⟨f0, f1, f2, f3⟩ := hx.f
  obtain ⟨_, _, e, lP, kP, tP, yP⟩ := hx.sv.topPK HPQ.out.1
  cases e
  obtain ⟨_, _, e, lR, kR, tR, yR⟩ := hx.sv.topRK HPQ.out.2
  cases e
  have HX := Lib.hid hx
  clear hx
  have q0 : (0 : Int) ≤ (K : Int) := by omega
  have q1 : (K : Int) < ((K + 1 : Nat) : Int) := by omega
  go_wp2_with fail
  refine (HRW.out _ _ _ _ HX.out.sv).mono ?_
  rintro e w2 ⟨vN', vP', vR', rfl, hs, hk⟩
  clear d0 d3 d4 d5 d6 d7 d8
  generalize hll : l ++ rowT n ++ rowsT (r + 1) = l2 at *
  have HLL := Lib.hid hll
  clear hll
  obtain ⟨aM, cM, rfl⟩ := hs.formN
  obtain ⟨gP2, cP2, rfl, _⟩ := hs.topPK HP2.out.1
  obtain ⟨gR2, cR2, rfl, _⟩ := hs.topRK HP2.out.2
  have hb2 := HX.out.blk.kpA hk HX.out.nB
  have h2 := HX.out.call (g2 := (gr : Int)) hs hk
  clear HRW HX hs hk c0 c1 c2 c3 f0 f1 f2 f3 lP kP tP yP lR kR tR yR
  clear q0 q1
  go_upto_region 12 with ((with_reducible refine wpList_store_st (o := ⟨none, .store 48 _ _, _, _, _, _⟩) rfl 48 _ _ rfl w.heap.size rfl rfl (run_storeAt_row _ w.heap.size 48 48 (stW (.slice aN l.length cN) (.slice (some ⟨gP, 0, none⟩) (K + 1 : Nat) cP) (.slice (some ⟨gR, 0, none⟩) (K + 1 : Nat) cR) (gr : Int)) (stW (.slice aM l2.length cM) (.slice (some ⟨gP2, 0, none⟩) (K2 + 1 : Nat) cP2) (.slice (some ⟨gR2, 0, none⟩) (K2 + 1 : Nat) cR2) (gr : Int)) ?_ ?_ ?_ ?_) ?_); exact hb2; exact infoSt7; rfl; exact st_one7 _ _ _ _ _ _ _ _ _ _)
  clear hb2
  generalize w2.setRow w.heap.size (stW (.slice aM l2.length cM) (.slice (some ⟨gP2, 0, none⟩) (K2 + 1 : Nat) cP2) (.slice (some ⟨gR2, 0, none⟩) (K2 + 1 : Nat) cR2) (gr : Int)) = w3 at *
  obtain ⟨c0, c1, c2, c3⟩ := h2.c
  obtain ⟨f0, f1, f2, f3⟩ := h2.f
  obtain ⟨_, _, e, lP, kP, tP, yP⟩ := h2.sv.topPK HP2.out.1
  cases e
  obtain ⟨_, _, e, lR, kR, tR, yR⟩ := h2.sv.topRK HP2.out.2
  cases e
  have HX := Lib.hid h2
  clear h2
  go_upto_region 13 with (at_builtin; go_loud (refine wpList_append_lies _ rfl _ _ 28 rfl base 92 i0 (.agg #[.int .i64 0, .int .i64 0, .int .i64 0, .int .i64 0, .int .u64 0, .int .u64 0, .int .u64 0, .int .u64 0]) 8 64 Tryz.underlying28 hi0 hz0 hz1 hz2 rfl (by decide) (.slice aM l2.length cM) l2.length (ndCells l2) rfl (HX.out.alloc _).sv.nodes ⟨w3.heap.size, 0, none⟩ 1 1 [.int .i64 3, .int .i64 1, .int .i64 0, .int .i64 0, .int .u64 0, .int .u64 0, .int .u64 0, .int .u64 0] rfl rfl (World.news_of_block (cs := [.int .i64 3, .int .i64 1, .int .i64 0, .int .i64 0, .int .u64 0, .int .u64 0, .int .u64 0, .int .u64 0].toArray) (t := 92) (fr := (0, 0)) (heap_alloc_new w3 _)) (by simp [Value.oneCell']) (by omega) (by simp only [maxLen]; omega) (by omega) (by have := HX.out.sv.sz; have := HX.out.sv.bs; simp; omega) (w3.heap.size + 1) (by simp) ?_); intro g' cap' w2 hown hgrow hat hlt; have hb2 := (HX.out.alloc _).blk.kept hgrow (fun e => (HX.out.nB (HX.out.sv.aN _ e.symm))); have j0 := hb2.cell 0; have y0 := hb2.frozen 0; simp only [List.getElem?_toArray, List.getElem?_cons_zero] at j0)
  have h2 := (HX.out.alloc _).pushN (nd := ⟨3, 1, 0, 0, 0⟩) (by first | exact hown | (rw [nd_zero7]; exact hown)) hgrow (hat.imp id fun e => by rw [e]; simp)
  clear HX hown hgrow hat hlt hb2 j0 y0
  clear c0 c1 c2 c3 f0 f1 f2 f3 lP kP tP yP lR kR tR yR
  generalize w2.setCell ⟨w.heap.size, 0, none⟩ (.slice (some ⟨g', 0, none⟩) (l2.length + 1 : Nat) cap') = w4 at *
  obtain ⟨c0, c1, c2, c3⟩ := h2.c
  obtain ⟨f0, f1, f2, f3⟩ := h2.f
  obtain ⟨_, _, e, lP, kP, tP, yP⟩ := h2.sv.topPK HP2.out.1
  cases e
  obtain ⟨_, _, e, lR, kR, tR, yR⟩ := h2.sv.topRK HP2.out.2
  cases e
  have HX := Lib.hid h2
  clear h2
  have q0 : (0 : Int) ≤ (K2 : Int) := by omega
  have q1 : (K2 : Int) < ((K2 + 1 : Nat) : Int) := by omega
  go_upto_region 18 with fail
  have h3 := HX.out.setPK HP2.out.1 (n2 + 1) (v := (n2 : Int) + 1) rfl
  clear HX
  clear c0 c1 c2 c3 f0 f1 f2 f3 lP kP tP yP lR kR tR yR
  generalize w4.setCell ⟨gP2, K2, none⟩ (.int .i64 ((n2 : Int) + 1)) = w5 at *
  obtain ⟨c0, c1, c2, c3⟩ := h3.c
  obtain ⟨f0, f1, f2, f3⟩ := h3.f
  obtain ⟨_, _, e, lP, kP, tP, yP⟩ := h3.sv.topPK HP2.out.1
  cases e
  obtain ⟨_, _, e, lR, kR, tR, yR⟩ := h3.sv.topRK HP2.out.2
  cases e
  have HX := Lib.hid h3
  clear h3
  go_wp2_with ((with_reducible refine wpList_store_st (o := ⟨none, .store 48 _ _, _, _, _, _⟩) rfl 48 _ _ rfl (w.heap.size + 2) rfl rfl (run_storeAt_row _ (w.heap.size + 2) 48 48 stO (stW (.slice (some ⟨g', 0, none⟩) (l2.length + 1 : Nat) cap') (.slice (some ⟨gP2, 0, none⟩) (K2 + 1 : Nat) cP2) (.slice (some ⟨gR2, 0, none⟩) (K2 + 1 : Nat) cR2) (gr : Int)) ?_ ?_ ?_ ?_) ?_); exact HX.out.res; exact infoSt7; rfl; exact st_one7 _ _ _ _ _ _ _ _ _ _)
  have hE := bx_end3 HU.out.1 HU.out.2.1 HU.out.2.2 HX.out (stW (.slice (some ⟨g', 0, none⟩) (l2.length + 1 : Nat) cap') (.slice (some ⟨gP2, 0, none⟩) (K2 + 1 : Nat) cP2) (.slice (some ⟨gR2, 0, none⟩) (K2 + 1 : Nat) cR2) (gr : Int))
  exact bodyPost_ret (v := .agg (stW (.slice (some ⟨g', 0, none⟩) (l2.length + 1 : Nat) cap') (.slice (some ⟨gP2, 0, none⟩) (K2 + 1 : Nat) cP2) (.slice (some ⟨gR2, 0, none⟩) (K2 + 1 : Nat) cR2) (gr : Int))) (results_cell_row rfl _ _ (w.heap.size + 2) 48 (stW (.slice (some ⟨g', 0, none⟩) (l2.length + 1 : Nat) cap') (.slice (some ⟨gP2, 0, none⟩) (K2 + 1 : Nat) cP2) (.slice (some ⟨gR2, 0, none⟩) (K2 + 1 : Nat) cR2) (gr : Int)) (0, 0) _ rfl (Blk.setRow HX.out.res) Tryz.underlying48 rfl infoSt7) rfl ⟨_, _, _, rfl, by rw [HLL.out]; exact hE.1, hE.2⟩
end Go.Proofs.YtldaaelmifbbhaaGreat

/- The developers' reading: take. Stage 7. -/
namespace Go.Proofs.YtldaaelmifbbhaaGreat
open Go.RowKit BS

set_option maxRecDepth 100000 in
set_option maxHeartbeats 4000000 in
theorem ptake1 {base R : Nat} {s : ByteArray} {a n r : Nat} {l : List NdN} {st : List (Nat × Nat)} {gr : Nat} {vN vL : Value} {w0 : World} (p f : Int) (t : BitVec 256) (n' m' : Int) (w : World) (h : RdV base R s a ⟨l, (n, r) :: st, gr⟩ vN vL w0 w) (hl : l.length ≤ 3999990) (hst : st.length ≤ 1999990) (hn : n ≤ 2000000) :
    Calls Tryz.prog 41 #[.pointer (some ⟨R, 0, none⟩), .agg (woI 1 p f t n' m')] w fun e w' => e = .returned (.int .i64 0) ∧ ∃ vN', RdV base R s a ⟨l ++ [⟨2, 0, 0, 0, t⟩], (n + 1, r) :: st, gr⟩ vN' vL w0 w' := by
  have hB := Blk.new w (woI 1 p f t n' m') 40
  have hr := h.alloc (.cells (woI 1 p f t n' m') 40)
  have hb0 : Below w.heap.size w (w.alloc (.cells (woI 1 p f t n' m') 40)) := by go_grown
  clear h
  go_enter Tryz.func41, Tryz.ntmps41
  go_upto_region 1 with fail
  generalize w.alloc (.cells (woI 1 p f t n' m') 40) = w1 at *
  have HB0 := Lib.hid hb0
  clear hb0
  have HW := Lib.hid (Eq.refl w.heap.size)
  clear HW
  have c0 := hB.cell 0; have c3 := hB.cell 3; have c4 := hB.cell 4; have c5 := hB.cell 5; have c6 := hB.cell 6; have c7 := hB.cell 7; have c8 := hB.cell 8
  simp only [List.getElem?_toArray, List.getElem?_cons_zero, List.getElem?_cons_succ] at c0 c3 c4 c5 c6 c7 c8
  have HR := Lib.hid hr
  clear hr hB
  go_wp2_with fail
  refine (paddPiece_calls ⟨2, 0, 0, 0, t⟩ _ HR.out (by omega) (by omega) hn).mono ?_
  rintro e w2 ⟨rfl, vN', hr2⟩
  go_wp2_with fail
  go_ret
  exact ⟨rfl, _, hr2⟩
set_option maxRecDepth 100000 in
set_option maxHeartbeats 4000000 in
theorem ptake2_9 {base R : Nat} {s : ByteArray} {a n r : Nat} {l : List NdN} {st : List (Nat × Nat)} {vN vL : Value} {w0 : World} (p f : Int) (t : BitVec 256) (n' m' : Int) (w : World) (h : RdV base R s a ⟨l, (n, r) :: st, 9⟩ vN vL w0 w) :
    Calls Tryz.prog 41 #[.pointer (some ⟨R, 0, none⟩), .agg (woI 2 p f t n' m')] w fun e w' => e = .returned (.int .i64 9) ∧ Below w.heap.size w w' := by
  have hB := Blk.new w (woI 2 p f t n' m') 40
  have hr := h.alloc (.cells (woI 2 p f t n' m') 40)
  have hb0 : Below w.heap.size w (w.alloc (.cells (woI 2 p f t n' m') 40)) := by go_grown
  clear h
  go_enter Tryz.func41, Tryz.ntmps41
  go_upto_region 1 with fail
  generalize w.alloc (.cells (woI 2 p f t n' m') 40) = w1 at *
  have HB0 := Lib.hid hb0
  clear hb0
  have HW := Lib.hid (Eq.refl w.heap.size)
  clear HW
  have c0 := hB.cell 0; have c3 := hB.cell 3; have c4 := hB.cell 4; have c5 := hB.cell 5; have c6 := hB.cell 6; have c7 := hB.cell 7; have c8 := hB.cell 8
  simp only [List.getElem?_toArray, List.getElem?_cons_zero, List.getElem?_cons_succ] at c0 c3 c4 c5 c6 c7 c8
  have HR := Lib.hid hr
  have cg := hr.c.2.2.2.2
  clear hr hB
  go_wp2_with fail
  refine (popenGroup9_calls _ cg).mono ?_
  rintro e w2 ⟨rfl, rfl⟩
  go_wp2_with fail
  go_ret
  exact ⟨rfl, HB0.out⟩
set_option maxRecDepth 100000 in
set_option maxHeartbeats 4000000 in
theorem ptake2 {base R : Nat} {s : ByteArray} {a n r : Nat} {l : List NdN} {st : List (Nat × Nat)} {gr : Nat} {vN vL : Value} {w0 : World} (p f : Int) (t : BitVec 256) (n' m' : Int) (w : World) (h : RdV base R s a ⟨l, (n, r) :: st, gr⟩ vN vL w0 w) (hst : st.length ≤ 1999990) (hg : gr < 9) :
    Calls Tryz.prog 41 #[.pointer (some ⟨R, 0, none⟩), .agg (woI 2 p f t n' m')] w fun e w' => e = .returned (.int .i64 0) ∧ ∃ vL', RdV base R s a ⟨l, (0, 0) :: (n, r) :: st, gr + 1⟩ vN vL' w0 w' := by
  have hB := Blk.new w (woI 2 p f t n' m') 40
  have hr := h.alloc (.cells (woI 2 p f t n' m') 40)
  have hb0 : Below w.heap.size w (w.alloc (.cells (woI 2 p f t n' m') 40)) := by go_grown
  clear h
  go_enter Tryz.func41, Tryz.ntmps41
  go_upto_region 1 with fail
  generalize w.alloc (.cells (woI 2 p f t n' m') 40) = w1 at *
  have HB0 := Lib.hid hb0
  clear hb0
  have HW := Lib.hid (Eq.refl w.heap.size)
  clear HW
  have c0 := hB.cell 0; have c3 := hB.cell 3; have c4 := hB.cell 4; have c5 := hB.cell 5; have c6 := hB.cell 6; have c7 := hB.cell 7; have c8 := hB.cell 8
  simp only [List.getElem?_toArray, List.getElem?_cons_zero, List.getElem?_cons_succ] at c0 c3 c4 c5 c6 c7 c8
  have HR := Lib.hid hr
  clear hr hB
  go_wp2_with fail
  refine (popenGroup_calls _ HR.out (by simp only [List.length_cons]; omega) hg).mono ?_
  rintro e w2 ⟨rfl, vL', hr2⟩
  go_wp2_with fail
  go_ret
  exact ⟨rfl, _, hr2⟩
set_option maxRecDepth 100000 in
set_option maxHeartbeats 4000000 in
theorem ptake3_8 {base R : Nat} {s : ByteArray} {a n r : Nat} {l : List NdN} {gr : Nat} {vN vL : Value} {w0 : World} (p f : Int) (t : BitVec 256) (n' m' : Int) (w : World) (h : RdV base R s a ⟨l, [(n, r)], gr⟩ vN vL w0 w) :
    Calls Tryz.prog 41 #[.pointer (some ⟨R, 0, none⟩), .agg (woI 3 p f t n' m')] w fun e w' => e = .returned (.int .i64 8) ∧ Below w.heap.size w w' := by
  have hB := Blk.new w (woI 3 p f t n' m') 40
  have hr := h.alloc (.cells (woI 3 p f t n' m') 40)
  have hb0 : Below w.heap.size w (w.alloc (.cells (woI 3 p f t n' m') 40)) := by go_grown
  clear h
  go_enter Tryz.func41, Tryz.ntmps41
  go_upto_region 1 with fail
  generalize w.alloc (.cells (woI 3 p f t n' m') 40) = w1 at *
  have HB0 := Lib.hid hb0
  clear hb0
  have HW := Lib.hid (Eq.refl w.heap.size)
  clear HW
  have c0 := hB.cell 0; have c3 := hB.cell 3; have c4 := hB.cell 4; have c5 := hB.cell 5; have c6 := hB.cell 6; have c7 := hB.cell 7; have c8 := hB.cell 8
  simp only [List.getElem?_toArray, List.getElem?_cons_zero, List.getElem?_cons_succ] at c0 c3 c4 c5 c6 c7 c8
  have HR := Lib.hid hr
  obtain ⟨g, cap, rfl, _⟩ := hr.top rfl
  have cl := hr.c.2.2.2.1
  clear hr hB
  go_wp2_with fail
  refine (pshutGroup8_calls _ cap _ cl).mono ?_
  rintro e w2 ⟨rfl, rfl⟩
  go_wp2_with fail
  go_ret
  exact ⟨rfl, HB0.out⟩
set_option maxRecDepth 100000 in
set_option maxHeartbeats 4000000 in
theorem ptake3 {base R : Nat} {s : ByteArray} {a n r : Nat} {l : List NdN} {st : List (Nat × Nat)} {gr : Nat} {vN vL : Value} {w0 : World} (p f : Int) (t : BitVec 256) (n' m' : Int) (w : World) {n2 r2 : Nat} (h : RdV base R s a ⟨l, (n, r) :: (n2, r2) :: st, gr⟩ vN vL w0 w) (hl : l.length ≤ 3999990) (hst : st.length ≤ 1999990) (hn : n ≤ 2000000) (hr' : r ≤ 2000000) (hn2 : n2 ≤ 2000000) :
    Calls Tryz.prog 41 #[.pointer (some ⟨R, 0, none⟩), .agg (woI 3 p f t n' m')] w fun e w' => e = .returned (.int .i64 0) ∧ ∃ vN' vL', RdV base R s a ⟨l ++ rowT n ++ rowsT (r + 1) ++ [ndG], (n2 + 1, r2) :: st, gr⟩ vN' vL' w0 w' := by
  have hB := Blk.new w (woI 3 p f t n' m') 40
  have hr := h.alloc (.cells (woI 3 p f t n' m') 40)
  have hb0 : Below w.heap.size w (w.alloc (.cells (woI 3 p f t n' m') 40)) := by go_grown
  clear h
  go_enter Tryz.func41, Tryz.ntmps41
  go_upto_region 1 with fail
  generalize w.alloc (.cells (woI 3 p f t n' m') 40) = w1 at *
  have HB0 := Lib.hid hb0
  clear hb0
  have HW := Lib.hid (Eq.refl w.heap.size)
  clear HW
  have c0 := hB.cell 0; have c3 := hB.cell 3; have c4 := hB.cell 4; have c5 := hB.cell 5; have c6 := hB.cell 6; have c7 := hB.cell 7; have c8 := hB.cell 8
  simp only [List.getElem?_toArray, List.getElem?_cons_zero, List.getElem?_cons_succ] at c0 c3 c4 c5 c6 c7 c8
  have HR := Lib.hid hr
  clear hr hB
  go_wp2_with fail
  refine (pshutGroup_calls _ HR.out hl hst hn hr' hn2).mono ?_
  rintro e w2 ⟨rfl, vN', vL', hr2⟩
  go_wp2_with fail
  go_ret
  exact ⟨rfl, _, _, hr2⟩
set_option maxRecDepth 100000 in
set_option maxHeartbeats 4000000 in
theorem ptake4 {base R : Nat} {s : ByteArray} {a n r : Nat} {l : List NdN} {st : List (Nat × Nat)} {gr : Nat} {vN vL : Value} {w0 : World} (p f : Int) (t : BitVec 256) (n' m' : Int) (w : World) (h : RdV base R s a ⟨l, (n, r) :: st, gr⟩ vN vL w0 w) (hl : l.length ≤ 3999990) (hst : st.length ≤ 1999990) (hn : n ≤ 2000000) (hr' : r ≤ 2000000) :
    Calls Tryz.prog 41 #[.pointer (some ⟨R, 0, none⟩), .agg (woI 4 p f t n' m')] w fun e w' => e = .returned (.int .i64 0) ∧ ∃ vN', RdV base R s a ⟨l ++ rowT n, (0, r + 1) :: st, gr⟩ vN' vL w0 w' := by
  have hB := Blk.new w (woI 4 p f t n' m') 40
  have hr := h.alloc (.cells (woI 4 p f t n' m') 40)
  have hb0 : Below w.heap.size w (w.alloc (.cells (woI 4 p f t n' m') 40)) := by go_grown
  clear h
  go_enter Tryz.func41, Tryz.ntmps41
  go_upto_region 1 with fail
  generalize w.alloc (.cells (woI 4 p f t n' m') 40) = w1 at *
  have HB0 := Lib.hid hb0
  clear hb0
  have HW := Lib.hid (Eq.refl w.heap.size)
  clear HW
  have c0 := hB.cell 0; have c3 := hB.cell 3; have c4 := hB.cell 4; have c5 := hB.cell 5; have c6 := hB.cell 6; have c7 := hB.cell 7; have c8 := hB.cell 8
  simp only [List.getElem?_toArray, List.getElem?_cons_zero, List.getElem?_cons_succ] at c0 c3 c4 c5 c6 c7 c8
  have HR := Lib.hid hr
  clear hr hB
  go_wp2_with fail
  refine (pendRow_calls _ HR.out (by omega) (by omega) hn hr').mono ?_
  rintro e w2 ⟨rfl, vN', hr2⟩
  go_wp2_with fail
  go_ret
  exact ⟨rfl, _, hr2⟩
set_option maxRecDepth 100000 in
set_option maxHeartbeats 4000000 in
theorem ptake5 {base R : Nat} {s : ByteArray} {a n r : Nat} {l : List NdN} {st : List (Nat × Nat)} {gr : Nat} {vN vL : Value} {w0 : World} (p f : Int) (t : BitVec 256) (n' m' : Int) (w : World) (h : RdV base R s a ⟨l, (n, r) :: st, gr⟩ vN vL w0 w) (hl : l.length ≤ 3999990) :
    Calls Tryz.prog 41 #[.pointer (some ⟨R, 0, none⟩), .agg (woI 5 p f t n' m')] w fun e w' => e = .returned (.int .i64 0) ∧ ∃ vN', RdV base R s a ⟨l ++ [⟨4, 1, n', m', 0⟩], (n, r) :: st, gr⟩ vN' vL w0 w' := by
  have hB := Blk.new w (woI 5 p f t n' m') 40
  have hr := h.alloc (.cells (woI 5 p f t n' m') 40)
  have hb0 : Below w.heap.size w (w.alloc (.cells (woI 5 p f t n' m') 40)) := by go_grown
  clear h
  have hA := fun W (h : RdV base R s a ⟨l, (n, r) :: st, gr⟩ vN vL w0 W) => padd_calls ⟨4, 1, n', m', 0⟩ W h (by simp only; omega)
  rw [nd_zero] at hA
  have HA := Lib.hid hA
  clear hA
  go_enter Tryz.func41, Tryz.ntmps41
  go_upto_region 1 with fail
  generalize w.alloc (.cells (woI 5 p f t n' m') 40) = w1 at *
  have HB0 := Lib.hid hb0
  clear hb0
  have HW := Lib.hid (Eq.refl w.heap.size)
  clear HW
  have c0 := hB.cell 0; have c3 := hB.cell 3; have c4 := hB.cell 4; have c5 := hB.cell 5; have c6 := hB.cell 6; have c7 := hB.cell 7; have c8 := hB.cell 8
  simp only [List.getElem?_toArray, List.getElem?_cons_zero, List.getElem?_cons_succ] at c0 c3 c4 c5 c6 c7 c8
  have HR := Lib.hid hr
  clear hr hB
  go_wp2_with fail
  refine (HA.out _ HR.out).mono ?_
  rintro e w2 ⟨rfl, vN', hr2⟩
  go_wp2_with fail
  go_ret
  exact ⟨rfl, _, hr2⟩
end Go.Proofs.YtldaaelmifbbhaaGreat

/- The developers' words: a reading, and the small functions. -/
namespace Go.Proofs.YtldaaelmifbbhaaGreat
open Go.RowKit Go.Shelf BS

/-- A reading's cells: a word, an error, its place, what lacks. -/
@[reducible] def rgI (k a f : Int) (t : BitVec 256) (n m : Int) (e p : Int) (l : ByteArray) : Array Value :=
  #[.int .i64 k, .int .i64 a, .int .i64 f, .int .u64 (wd t 0), .int .u64 (wd t 1), .int .u64 (wd t 2), .int .u64 (wd t 3), .int .i64 n, .int .i64 m, .int .i64 e, .int .i64 p, .string l]
/-- The same with a zero set written out. -/
@[reducible] def rgZ (k a f : Int) (n m : Int) (e p : Int) (l : ByteArray) : Array Value :=
  #[.int .i64 k, .int .i64 a, .int .i64 f, .int .u64 0, .int .u64 0, .int .u64 0, .int .u64 0, .int .i64 n, .int .i64 m, .int .i64 e, .int .i64 p, .string l]
theorem rgZ_eq (k a f n m e p : Int) (l : ByteArray) : rgZ k a f n m e p l = rgI k a f 0 n m e p l := rfl
theorem infoRg : (Tryz.prog.info? 61).map (·.size) = some 12 := by kernel_rfl
theorem rg_one (k a f : Int) (t : BitVec 256) (n m e p : Int) (l : ByteArray) : ((rgI k a f t n m e p l).all fun x => x.oneCell') = true := by simp [Value.oneCell']

set_option maxRecDepth 100000 in
set_option maxHeartbeats 1000000 in
theorem fault5_calls (e p : Int) (w : World) : Calls Tryz.prog 44 #[.int .i64 e, .int .i64 p] w fun en w' => en = .returned (.agg (rgI 0 0 0 0 0 0 e p eT)) ∧ Below w.heap.size w w' := by
  go_enter Tryz.func44, Tryz.ntmps44
  go_upto_region 1 with fail
  have HR := Blk.new w (rgZ 0 0 0 0 0 0 0 eT) 61
  have HB : Below w.heap.size w (w.alloc (.cells (rgZ 0 0 0 0 0 0 0 eT) 61)) := by go_grown
  have e0 : w.alloc (.cells #[.int .i64 0, .int .i64 0, .int .i64 0, .int .u64 0, .int .u64 0, .int .u64 0, .int .u64 0, .int .i64 0, .int .i64 0, .int .i64 0, .int .i64 0, .string ⟨#[]⟩] 61) = w.alloc (.cells (rgZ 0 0 0 0 0 0 0 eT) 61) := rfl
  try rw [e0]
  clear e0
  generalize w.alloc (.cells (rgZ 0 0 0 0 0 0 0 eT) 61) = w1 at *
  go_wp2_with ((with_reducible refine wpList_store_st (o := ⟨none, .store 61 _ _, _, _, _, _⟩) rfl 61 _ _ rfl w.heap.size rfl rfl (run_storeAt_row _ w.heap.size 61 61 (rgZ 0 0 0 0 0 0 0 eT) (rgZ 0 0 0 0 0 e p eT) ?_ ?_ ?_ ?_) ?_); exact HR; exact infoRg; rfl; exact rg_one _ _ _ 0 _ _ _ _ _)
  exact bodyPost_ret (v := .agg (rgZ 0 0 0 0 0 e p eT)) (results_cell_row rfl _ _ w.heap.size 61 (rgZ 0 0 0 0 0 e p eT) (0, 0) _ rfl (Blk.setRow HR) Tryz.underlying61 rfl infoRg) rfl ⟨rfl, below_row HB (Nat.le_refl _) _⟩

set_option maxRecDepth 100000 in
set_option maxHeartbeats 1000000 in
theorem sign5_calls (k a : Int) (ha : 0 ≤ a ∧ a ≤ 1000000) (w : World) : Calls Tryz.prog 101 #[.int .i64 k, .int .i64 a] w fun en w' => en = .returned (.agg (rgI k a (a + 1) 0 0 0 0 0 eT)) ∧ Below w.heap.size w w' := by
  have x : IntKind.i64.wrap (a + 1) = a + 1 := IntWalk.i64_in _ (by omega)
  go_enter Tryz.func101, Tryz.ntmps101
  go_upto_region 1 with fail
  have HR := Blk.new w (rgZ 0 0 0 0 0 0 0 eT) 61
  have HB : Below w.heap.size w (w.alloc (.cells (rgZ 0 0 0 0 0 0 0 eT) 61)) := by go_grown
  have e0 : w.alloc (.cells #[.int .i64 0, .int .i64 0, .int .i64 0, .int .u64 0, .int .u64 0, .int .u64 0, .int .u64 0, .int .i64 0, .int .i64 0, .int .i64 0, .int .i64 0, .string ⟨#[]⟩] 61) = w.alloc (.cells (rgZ 0 0 0 0 0 0 0 eT) 61) := rfl
  try rw [e0]
  clear e0
  generalize w.alloc (.cells (rgZ 0 0 0 0 0 0 0 eT) 61) = w1 at *
  go_wp2_with ((with_reducible refine wpList_store_st (o := ⟨none, .store 61 _ _, _, _, _, _⟩) rfl 61 _ _ rfl w.heap.size rfl rfl (run_storeAt_row _ w.heap.size 61 61 (rgZ 0 0 0 0 0 0 0 eT) (rgZ k a (a + 1) 0 0 0 0 eT) ?_ ?_ ?_ ?_) ?_); exact HR; exact infoRg; rfl; exact rg_one _ _ _ 0 _ _ _ _ _)
  exact bodyPost_ret (v := .agg (rgZ k a (a + 1) 0 0 0 0 eT)) (results_cell_row rfl _ _ w.heap.size 61 (rgZ k a (a + 1) 0 0 0 0 eT) (0, 0) _ rfl (Blk.setRow HR) Tryz.underlying61 rfl infoRg) rfl ⟨rfl, below_row HB (Nat.le_refl _) _⟩

set_option maxRecDepth 100000 in
set_option maxHeartbeats 1000000 in
theorem oneOf5_calls (t : BitVec 256) (a e : Int) (w : World) : Calls Tryz.prog 132 #[setV t, .int .i64 a, .int .i64 e] w fun en w' => en = .returned (.agg (rgI 1 a e t 0 0 0 0 eT)) ∧ Below w.heap.size w w' := by
  have HC := Blk.new w (setA t) 38
  have HR := Blk.new (w.alloc (.cells (setA t) 38)) (rgZ 0 0 0 0 0 0 0 eT) 61
  rw [World.size_alloc] at HR
  have HC2 := HC.alloc (.cells (rgZ 0 0 0 0 0 0 0 eT) 61)
  have HB : Below w.heap.size w ((w.alloc (.cells (setA t) 38)).alloc (.cells (rgZ 0 0 0 0 0 0 0 eT) 61)) := by go_grown
  go_enter Tryz.func132, Tryz.ntmps132
  go_upto_region 1 with fail
  have e0 : (w.alloc (.cells #[.int .u64 (wd t 0), .int .u64 (wd t 1), .int .u64 (wd t 2), .int .u64 (wd t 3)] 38)).alloc (.cells #[.int .i64 0, .int .i64 0, .int .i64 0, .int .u64 0, .int .u64 0, .int .u64 0, .int .u64 0, .int .i64 0, .int .i64 0, .int .i64 0, .int .i64 0, .string ⟨#[]⟩] 61) = (w.alloc (.cells (setA t) 38)).alloc (.cells (rgZ 0 0 0 0 0 0 0 eT) 61) := rfl
  try rw [e0]
  clear e0 HC
  generalize (w.alloc (.cells (setA t) 38)).alloc (.cells (rgZ 0 0 0 0 0 0 0 eT) 61) = w1 at *
  obtain ⟨⟨c0, c1, c2, c3⟩, _⟩ := HC2.cells4
  go_wp2_with ((with_reducible refine wpList_store_st (o := ⟨none, .store 61 _ _, _, _, _, _⟩) rfl 61 _ _ rfl (w.heap.size + 1) rfl rfl (run_storeAt_row _ (w.heap.size + 1) 61 61 (rgZ 0 0 0 0 0 0 0 eT) (rgI 1 a e t 0 0 0 0 eT) ?_ ?_ ?_ ?_) ?_); exact HR; exact infoRg; rfl; exact rg_one _ _ _ _ _ _ _ _ _)
  exact bodyPost_ret (v := .agg (rgI 1 a e t 0 0 0 0 eT)) (results_cell_row rfl _ _ (w.heap.size + 1) 61 (rgI 1 a e t 0 0 0 0 eT) (0, 0) _ rfl (Blk.setRow HR) Tryz.underlying61 rfl infoRg) rfl ⟨rfl, below_row HB (by omega) _⟩

/-! ### Is a byte one of some -/
set_option maxRecDepth 100000 in
theorem isOf5_calls (L : List Nat) (hL : ∀ x ∈ L, x < 256) (b : Nat) (hb : b < 256) (w : World) : Calls Tryz.prog 114 #[.string (ofT L), .int .u8 b] w fun e w' => e = .returned (.bool (L.contains b)) ∧ w = w' := by
  have HE : Hid (decide (0 ≤ Lib.indexByte (ofT L).data.toList (UInt8.ofNat b)) = L.contains b) := Lib.hid (ib_eq L hL b hb)
  go_enter Tryz.func114, Tryz.ntmps114
  go_wp2_with (go_at_call 38; refine (ib_calls _ _ _).mono ?_; rintro e w' ⟨rfl, rfl⟩)
  go_ret
  exact ⟨by rw [← HE.out]; rfl, rfl⟩
theorem isSign_calls (b : Nat) (hb : b < 256) (w : World) : Calls Tryz.prog 114 #[.string ⟨#[46, 91, 93, 92, 40, 41, 42, 43, 63, 123, 125, 124, 94, 36]⟩, .int .u8 b] w fun e w' => e = .returned (.bool (four14 b)) ∧ w = w' := isOf5_calls l14 (by decide) b hb w
theorem isPlain_calls (b : Nat) (hb : b < 256) (w : World) : Calls Tryz.prog 114 #[.string ⟨#[93, 125]⟩, .int .u8 b] w fun e w' => e = .returned (.bool ([93, 125].contains b)) ∧ w = w' := isOf5_calls [93, 125] (by decide) b hb w
theorem isRep_calls (b : Nat) (hb : b < 256) (w : World) : Calls Tryz.prog 114 #[.string ⟨#[42, 43, 63, 123]⟩, .int .u8 b] w fun e w' => e = .returned (.bool ([42, 43, 63, 123].contains b)) ∧ w = w' := isOf5_calls [42, 43, 63, 123] (by decide) b hb w

/-! ### The text of a byte -/
def textB (b : Nat) : List Nat := if four14 b = true ∧ b ≠ 93 ∧ b ≠ 125 then [92, b] else [b]
end Go.Proofs.YtldaaelmifbbhaaGreat

/- The document's words: Text, Print. -/
namespace Go.Proofs.YtldaaelmifbbhaaGreat
open Go.RowKit BS

/-- A slice of bytes as a text. -/
theorem cvAt (W : World) (g cap : Nat) (L : List Nat) (hC : ∀ i (h : i < L.length), W.cell? ⟨g, i, none⟩ = some (.int .u8 (L[i] : Int))) : (convert 67 9 (.slice (some ⟨g, 0, none⟩) L.length cap)).run Tryz.prog W = .ok (.string (ofT L)) W := by
  rw [← numsT L]
  refine run_convert_bytes_arg (P := Tryz.prog) W 67 5 Tryz.underlying67 Tryz.underlying5 g 0 L.length cap _ (by simp) (fun i hi => ?_) 9 Tryz.underlying9
  rw [Nat.zero_add, hC i hi]
  simp [List.getD_eq_getElem?_getD, List.getElem?_map, List.getElem?_eq_getElem hi]
theorem el_lt (f : Nat → Bool) (k b : Nat) (l : List Nat) (h : el f k = b :: l) : b < k := by
  have : b ∈ el f k := by rw [h]; exact List.mem_cons_self ..
  unfold el at this
  simp at this
  exact this.1

/-- The text of a word of any kind. -/
def printV (k : Int) (t : BitVec 256) (n m : Int) : List Nat :=
  if k = 1 then textW t else if k = 2 then [40] else if k = 3 then [41] else if k = 4 then [124] else if k = 5 then textN n m else []
theorem printV_W (w : WN) : printV w.kind w.set w.n w.m = printW w := by
  unfold printV printW
  have e : ∀ c : Nat, ((w.kind : Int) = (c : Int)) = (w.kind = c) := fun c => by rw [eq_iff_iff]; omega
  have e1 := e 1; have e2 := e 2; have e3 := e 3; have e4 := e 4; have e5 := e 5
  simp only [Int.cast_ofNat_Int] at e1 e2 e3 e4 e5
  simp only [e1, e2, e3, e4, e5]
end Go.Proofs.YtldaaelmifbbhaaGreat

/- The document's words: All. -/
namespace Go.Proofs.YtldaaelmifbbhaaGreat
open Go.RowKit BS

theorem info9w : (Tryz.prog.info? 40).map (fun i => (i.zero, i.size, i.bytes)) = some (some (.agg #[.int .i64 0, .int .i64 0, .int .i64 0, .int .u64 0, .int .u64 0, .int .u64 0, .int .u64 0, .int .i64 0, .int .i64 0]), 9, 72) := by kernel_rfl
def woCells (l : List WN) : List Value := l.flatMap fun w => (woA w).toList
theorem woCells_snoc (l : List WN) (w : WN) : woCells (l ++ [w]) = woCells l ++ (woA w).toList := by simp [woCells]
theorem woA_len (w : WN) : (woA w).toList.length = 9 := rfl
theorem woCells_len (l : List WN) : (woCells l).length = l.length * 9 := by
  induction l with
  | nil => rfl
  | cons w l ih => rw [woCells, List.flatMap_cons, List.length_append, woA_len]; unfold woCells at ih; rw [ih]; simp; omega
theorem woCells_get (l : List WN) (i j : Nat) (h : i < l.length) (hj : j < 9) : (woCells l)[i * 9 + j]? = (woA l[i])[j]? := by
  induction l generalizing i with
  | nil => simp at h
  | cons w l ih =>
    rw [woCells, List.flatMap_cons]
    cases i with
    | zero =>
      rw [List.getElem?_append_left (by rw [woA_len]; omega)]
      simp
    | succ i =>
      rw [List.getElem?_append_right (by rw [woA_len]; omega), woA_len, show (i + 1) * 9 + j - 9 = i * 9 + j by omega]
      have := ih i (by simpa using h)
      unfold woCells at this
      rw [this]
      rfl
end Go.Proofs.YtldaaelmifbbhaaGreat

/- The laws of stage 5: what they want of the package lex; sure, LexTells. -/
namespace Go.Proofs.YtldaaelmifbbhaaGreat
open Go.RowKit BS

/-- A slice of words. -/
def WordsAt (l : List WN) (v : Value) (W : World) : Prop :=
  ∃ a cap, v = .slice a l.length cap ∧ (l ≠ [] → ∃ g, a = some ⟨g, 0, none⟩ ∧ g < W.heap.size ∧ ∀ i (h : i < l.length) j, j < 9 → W.cell? ⟨g, i * 9 + j, none⟩ = (woA l[i])[j]?)
theorem WordsAt.below {l : List WN} {v : Value} {W W' : World} (h : WordsAt l v W) (hb : Below W.heap.size W W') : WordsAt l v W' := by
  obtain ⟨a, cap, e, h⟩ := h
  refine ⟨a, cap, e, fun hne => ?_⟩
  obtain ⟨g, e, hg, hc⟩ := h hne
  exact ⟨g, e, Nat.lt_of_lt_of_le hg hb.size, fun i hi j hj => (hb.cell (p := ⟨g, i * 9 + j, none⟩) hg).trans (hc i hi j hj)⟩
theorem WordsAt.alloc {l : List WN} {v : Value} {W : World} (h : WordsAt l v W) (o : Obj) : WordsAt l v (W.alloc o) := h.below ((Below.refl _ _).alloc (Nat.le_refl _) o)
theorem words_of_owns {base : Nat} {e : TypeId} {v : Value} {l : List WN} {W : World} (h : W.ownsRow base e 9 v l.length (woCells l)) : WordsAt l v W := by
  rcases h.2 with ⟨rfl, h0⟩ | ⟨g, cap, cur, rfl, hb, hg, _, _, _, _⟩
  · exact ⟨none, 0, by rw [h0], fun hne => absurd (List.eq_nil_of_length_eq_zero h0) hne⟩
  · exact ⟨_, cap, rfl, fun _ => ⟨g, rfl, (Array.getElem?_eq_some_iff.1 hg).1, fun i hi j hj => (h.cellAt (i * 9 + j) (by omega)).trans (woCells_get l i j hi hj)⟩⟩

/-- What Lack must bring about. -/
def LackW (s : ByteArray) (at' : Int) (l : ByteArray) : Prop :=
  ((nextN s at').2.1 ≠ 2 → l = eT) ∧ ((nextN s at').2.1 = 2 → 0 < l.size ∧ l.size ≤ 200 ∧ ∃ x : WN, nextN (s ++ l) at' = (x, 0, 0) ∧ (x.pos : Int) = at' ∧ x.fin = (s ++ l).size)
/-! ### sure -/
def sA5 : ByteArray := ⟨#[97, 123, 50, 125, 124, 91, 98, 99, 93]⟩
def sB5 : ByteArray := ⟨#[97, 94]⟩
theorem sA5_len : (wordsN sA5).1.length = 4 := by decide +kernel
theorem sA5_w0 : ((wordsN sA5).1[0]?).map (fun w => w.set) = some (range 97 97) := by decide +kernel
theorem sA5_w1 : ((wordsN sA5).1[1]?).map (fun w => (w.kind, w.n)) = some (5, 2) := by decide +kernel
theorem sA5_w3 : ((wordsN sA5).1[3]?).map (fun w => w.fin) = some 9 := by decide +kernel
theorem sA5_e : (wordsN sA5).2 = (0, 0) := by decide +kernel
theorem sB5_e : (wordsN sB5).2 = (3, 2) := by decide +kernel
theorem text97 : ofT (textW (range 97 97)) = ⟨#[97]⟩ := by decide +kernel
/-! ### LexTells -/
end Go.Proofs.YtldaaelmifbbhaaGreat

/- The developers' brackets: thing, things, whole, Read, Lack. -/
namespace Go.Proofs.YtldaaelmifbbhaaGreat
open Go.RowKit Go.Shelf BS

theorem dByte_one (W : World) (t : TypeId) (n : Int) (x : Fin 256) (hn : n = (x.val : Int)) : BytesAt (W.alloc (.cells #[.int .u8 n] t)).heap.size (W.alloc (.cells #[.int .u8 n] t)) (.slice (some ⟨W.heap.size, 0, none⟩) 1 1) [x] := by
  subst hn
  refine ⟨_, 1, rfl, fun _ => ⟨W.heap.size, 0, rfl, by simp, ?_⟩⟩
  intro j hj
  obtain rfl : j = 0 := by simpa using hj
  exact (Blk.new W _ t).cell 0
theorem with_one : ∀ x : Fin 256, withL 0 [x] = range x.val x.val := by decide +kernel
theorem dWith_calls (W : World) (t : TypeId) (b : Nat) (hb : b < 256) : Calls Tryz.prog 134 #[setV 0, .slice (some ⟨W.heap.size, 0, none⟩) 1 1] (W.alloc (.cells #[.int .u8 b] t)) fun e W' => e = .returned (setV (range b b)) ∧ Below (W.alloc (.cells #[.int .u8 b] t)).heap.size (W.alloc (.cells #[.int .u8 b] t)) W' := by
  have h := callsIn_wide.1 (with_in 3 (by omega) 0 _ (some ⟨W.heap.size, 0, none⟩) 1 1 rfl [⟨b, hb⟩] (by simp) _ (dByte_one W t b ⟨b, hb⟩ rfl))
  rw [with_one] at h
  exact h

set_option maxRecDepth 100000 in
set_option maxHeartbeats 8000000 in
theorem thingD_calls (s : ByteArray) (hs : s.size ≤ 1000000) (i : Nat) (hi : i < s.size) (w : World) :
    Calls Tryz.prog 144 #[.string s, .int .i64 i] w fun en w' => en = .returned (.agg (ptA (thingD s i))) ∧ Below w.heap.size w w' := by
  have HR := Lib.hid (Blk.new w (ptI 0 0 0 eT) 181)
  have HB : Hid (Below w.heap.size w (w.alloc (.cells (ptI 0 0 0 eT) 181))) := Lib.hid (by go_grown)
  have hz : w.heap.size + 1 ≤ (w.alloc (.cells (ptI 0 0 0 eT) 181)).heap.size := by simp
  have h0 : s[i].toNat = bt s i := (bt_eq s i hi).symm
  have hl0 := bt_lt s i
  go_enter Tryz.func144, Tryz.ntmps144
  go_upto_region 1 with fail
  have e0 : w.alloc (.cells #[.int .u64 0, .int .u64 0, .int .u64 0, .int .u64 0, .int .i64 0, .int .i64 0, .string ⟨#[]⟩] 181) = w.alloc (.cells (ptI 0 0 0 eT) 181) := rfl
  rw [e0]
  clear e0
  generalize w.alloc (.cells (ptI 0 0 0 eT) 181) = w1 at *
  go_cut [5] from 6 to 15 (fun x wx => x = .bool (decide (bt s i = 91 ∧ isN s (i + 1) [58] = true)) ∧ w1 = wx)
  case first =>
    cases hc : decide (bt s i = 91) with
    | true =>
      have hc' : bt s i = 91 := of_decide_eq_true hc
      have q1 : ((bt s i : Int) == 91) = true := by rw [beq_iff_eq]; omega
      have HC := Lib.hid hc'
      clear hc hc'
      have HA := isNat_calls s hs (i + 1) [58] (by decide)
      rw [show ((i + 1 : Nat) : Int) = (i : Int) + 1 from rfl, show ofT [58] = ⟨#[58]⟩ from rfl] at HA
      have HA2 := Lib.hid HA
      clear HA
      go_wp2_with (go_at_call 141; refine (HA2.out _).mono ?_; rintro e w' ⟨rfl, rfl⟩)
      go_meet
      exact ⟨by simp [HC.out], rfl⟩
    | false =>
      have hc' : ¬ bt s i = 91 := of_decide_eq_false hc
      have q1 : ((bt s i : Int) == 91) = false := by rw [beq_eq_false_iff_ne]; omega
      have HC := Lib.hid hc'
      clear hc hc'
      go_wp2_with fail
      go_meet
      exact ⟨by simp [HC.out], rfl⟩
  case rest =>
  obtain ⟨rfl, rfl⟩ := hcut
  by_cases hA : bt s i = 91 ∧ isN s (i + 1) [58] = true
  · have q2 : decide (bt s i = 91 ∧ isN s (i + 1) [58] = true) = true := decide_eq_true hA
    have hg : thingD s i = namedD s (i + 2) := by unfold thingD; rw [if_pos hA]
    rw [q2]
    have hlt := isN_lt hA.2
    clear q2 hA
    have HNC := Lib.hid (named_calls s hs (i + 2) (by omega))
    generalize namedD s (i + 2) = R at hg HNC
    have HRES := Lib.hid hg
    clear hg
    obtain ⟨t', p', e', l'⟩ := R
    replace HNC : Hid (∀ w, Calls Tryz.prog _ _ w fun en w' => en = .returned (.agg (ptI t' p' e' l')) ∧ Below w.heap.size w w') := HNC
    go_wp2_with fail
    refine (HNC.out _).mono ?_
    rintro e w2 ⟨rfl, hb⟩
    have HR2 := Lib.hid (HR.out.below hb (Blk.lt HR.out))
    have HB2 := Lib.hid (HB.out.trans (hb.mono (by omega)))
    have hz2 := Nat.le_trans hz hb.size
    clear HR HB hz hb
    have HR := HR2
    have HB := HB2
    have hz := hz2
    clear HR2 HB2 hz2
    go_wp2_with ((with_reducible refine wpList_store_st (o := ⟨none, .store 181 _ _, _, _, _, _⟩) rfl 181 _ _ rfl w.heap.size rfl rfl (run_storeAt_row _ w.heap.size 181 181 (ptI 0 0 0 eT) (ptI t' p' e' l') ?_ ?_ ?_ ?_) ?_); exact HR.out; exact infoPt; rfl; exact pt_one _ _ _ _)
    exact bodyPost_ret (v := .agg (ptI t' p' e' l')) (results_cell_row rfl _ _ w.heap.size 181 (ptI t' p' e' l') (0, 0) _ rfl (Blk.setRow HR.out) Tryz.underlying181 rfl infoPt) rfl ⟨by rw [HRES.out] <;> rfl, below_row HB.out (by omega) _⟩
  have q2 : decide (bt s i = 91 ∧ isN s (i + 1) [58] = true) = false := decide_eq_false hA
  rw [q2]
  clear q2
  go_upto_region 3 with fail
  go_cut [20] from 21 to 30 (fun x wx => x = .bool (decide (bt s i = 91 ∧ isN s (i + 1) [46, 61] = true)) ∧ w1 = wx)
  case first =>
    cases hc : decide (bt s i = 91) with
    | true =>
      have hc' : bt s i = 91 := of_decide_eq_true hc
      have q1 : ((bt s i : Int) == 91) = true := by rw [beq_iff_eq]; omega
      have HC := Lib.hid hc'
      clear hc hc'
      have HA := isNat_calls s hs (i + 1) [46, 61] (by decide)
      rw [show ((i + 1 : Nat) : Int) = (i : Int) + 1 from rfl, show ofT [46, 61] = ⟨#[46, 61]⟩ from rfl] at HA
      have HA2 := Lib.hid HA
      clear HA
      go_wp2_with (go_at_call 141; refine (HA2.out _).mono ?_; rintro e w' ⟨rfl, rfl⟩)
      go_meet
      exact ⟨by simp [HC.out], rfl⟩
    | false =>
      have hc' : ¬ bt s i = 91 := of_decide_eq_false hc
      have q1 : ((bt s i : Int) == 91) = false := by rw [beq_eq_false_iff_ne]; omega
      have HC := Lib.hid hc'
      clear hc hc'
      go_wp2_with fail
      go_meet
      exact ⟨by simp [HC.out], rfl⟩
  case rest =>
  obtain ⟨rfl, rfl⟩ := hcut
  by_cases hE : bt s i = 91 ∧ isN s (i + 1) [46, 61] = true
  · have q2 : decide (bt s i = 91 ∧ isN s (i + 1) [46, 61] = true) = true := decide_eq_true hE
    have HRES := Lib.hid (show thingD s i = badD 3 (i + 2) by unfold thingD; rw [if_neg hA, if_pos hE])
    rw [q2]
    clear q2 hE hA
    go_wp2_with ((with_reducible refine wpList_store_st (o := ⟨none, .store 181 _ _, _, _, _, _⟩) rfl 181 _ _ rfl w.heap.size rfl rfl (run_storeAt_row _ w.heap.size 181 181 (ptI 0 0 0 eT) (ptI 0 ((i : Int) + 2) 3 eT) ?_ ?_ ?_ ?_) ?_); exact HR.out; exact infoPt; rfl; exact pt_one _ _ _ _)
    exact bodyPost_ret (v := .agg (ptI 0 ((i : Int) + 2) 3 eT)) (results_cell_row rfl _ _ w.heap.size 181 (ptI 0 ((i : Int) + 2) 3 eT) (0, 0) _ rfl (Blk.setRow HR.out) Tryz.underlying181 rfl infoPt) rfl ⟨by rw [HRES.out] <;> rfl, below_row HB.out (by omega) _⟩
  have q2 : decide (bt s i = 91 ∧ isN s (i + 1) [46, 61] = true) = false := decide_eq_false hE
  rw [q2]
  clear q2
  go_upto_region 5 with fail
  go_cut [34] from 35 to 52 (fun x wx => x = .bool (decide ((isN s (i + 1) [45] = true ∧ i + 2 < s.size) ∧ bt s (i + 2) ≠ 93)) ∧ w1 = wx)
  case first =>
    have HA := isNat_calls s hs (i + 1) [45] (by decide)
    rw [show ((i + 1 : Nat) : Int) = (i : Int) + 1 from rfl, show ofT [45] = ⟨#[45]⟩ from rfl] at HA
    cases hc : isN s (i + 1) [45] with
    | false =>
      rw [hc] at HA
      have HA2 := Lib.hid HA
      have HC := Lib.hid hc
      clear HA hc hA hE
      go_wp2_with (go_at_call 141; refine (HA2.out _).mono ?_; rintro e w' ⟨rfl, rfl⟩)
      go_meet
      exact ⟨by simp [HC.out], rfl⟩
    | true =>
      rw [hc] at HA
      have HA2 := Lib.hid HA
      have HC := Lib.hid hc
      clear HA hc hA hE
      by_cases hd : i + 2 < s.size
      · have q1 : decide ((i : Int) + 2 < (s.size : Int)) = true := by rw [decide_eq_true_eq]; omega
        have b2 : s[i + 2].toNat = bt s (i + 2) := (bt_eq s (i + 2) hd).symm
        cases hx : decide (bt s (i + 2) ≠ 93) with
        | true =>
          have hx' : bt s (i + 2) ≠ 93 := of_decide_eq_true hx
          have q3 : ((bt s (i + 2) : Int) != 93) = true := by rw [bne_iff_ne]; omega
          have HX := Lib.hid hx'
          have HD := Lib.hid hd
          clear hx hx'
          go_wp2_with (go_at_call 141; refine (HA2.out _).mono ?_; rintro e w' ⟨rfl, rfl⟩)
          go_meet
          exact ⟨by simp [HX.out, HD.out, HC.out], rfl⟩
        | false =>
          have hx' : bt s (i + 2) = 93 := Decidable.not_not.1 (of_decide_eq_false hx)
          have q3 : ((bt s (i + 2) : Int) != 93) = false := by rw [hx']; rfl
          have HX := Lib.hid hx'
          clear hx hx'
          go_wp2_with (go_at_call 141; refine (HA2.out _).mono ?_; rintro e w' ⟨rfl, rfl⟩)
          go_meet
          exact ⟨by simp [HX.out], rfl⟩
      · have q1 : decide ((i : Int) + 2 < (s.size : Int)) = false := by rw [decide_eq_false_iff_not]; omega
        have HD := Lib.hid hd
        clear hd
        go_wp2_with (go_at_call 141; refine (HA2.out _).mono ?_; rintro e w' ⟨rfl, rfl⟩)
        go_meet
        exact ⟨by simp [HD.out], rfl⟩
  case rest =>
  obtain ⟨rfl, rfl⟩ := hcut
  by_cases hF : (isN s (i + 1) [45] = true ∧ i + 2 < s.size) ∧ bt s (i + 2) ≠ 93
  · have q2 : decide ((isN s (i + 1) [45] = true ∧ i + 2 < s.size) ∧ bt s (i + 2) ≠ 93) = true := decide_eq_true hF
    have hg : thingD s i = betweenD s i := by unfold thingD; rw [if_neg hA, if_neg hE, if_pos hF]
    rw [q2]
    have HNC := Lib.hid (between_calls s hs i hF.1.2)
    clear q2 hF hA hE
    generalize betweenD s i = R at hg HNC
    have HRES := Lib.hid hg
    clear hg
    obtain ⟨t', p', e', l'⟩ := R
    replace HNC : Hid (∀ w, Calls Tryz.prog _ _ w fun en w' => en = .returned (.agg (ptI t' p' e' l')) ∧ Below w.heap.size w w') := HNC
    go_wp2_with fail
    refine (HNC.out _).mono ?_
    rintro e w2 ⟨rfl, hb⟩
    have HR2 := Lib.hid (HR.out.below hb (Blk.lt HR.out))
    have HB2 := Lib.hid (HB.out.trans (hb.mono (by omega)))
    have hz2 := Nat.le_trans hz hb.size
    clear HR HB hz hb
    have HR := HR2
    have HB := HB2
    have hz := hz2
    clear HR2 HB2 hz2
    go_wp2_with ((with_reducible refine wpList_store_st (o := ⟨none, .store 181 _ _, _, _, _, _⟩) rfl 181 _ _ rfl w.heap.size rfl rfl (run_storeAt_row _ w.heap.size 181 181 (ptI 0 0 0 eT) (ptI t' p' e' l') ?_ ?_ ?_ ?_) ?_); exact HR.out; exact infoPt; rfl; exact pt_one _ _ _ _)
    exact bodyPost_ret (v := .agg (ptI t' p' e' l')) (results_cell_row rfl _ _ w.heap.size 181 (ptI t' p' e' l') (0, 0) _ rfl (Blk.setRow HR.out) Tryz.underlying181 rfl infoPt) rfl ⟨by rw [HRES.out] <;> rfl, below_row HB.out (by omega) _⟩
  have q2 : decide ((isN s (i + 1) [45] = true ∧ i + 2 < s.size) ∧ bt s (i + 2) ≠ 93) = false := decide_eq_false hF
  rw [q2]
  have hg : thingD s i = okD (range (bt s i) (bt s i)) (i + 1) := by unfold thingD; rw [if_neg hA, if_neg hE, if_neg hF]
  have HWC := Lib.hid (fun W t => dWith_calls W t (bt s i) hl0)
  clear q2 hA hE hF
  generalize range (bt s i) (bt s i) = r at hg HWC
  have HRES := Lib.hid hg
  clear hg
  go_wp2_with fail
  have hz2 : w.heap.size + 1 ≤ (w1.alloc (.cells #[.int .u8 (bt s i)] 5)).heap.size := by simp; omega
  replace HR := Lib.hid (HR.out.alloc (.cells #[.int .u8 (bt s i)] 5))
  replace HB := Lib.hid (HB.out.alloc (by omega) (.cells #[.int .u8 (bt s i)] 5))
  clear hz
  have hz := hz2
  clear hz2
  refine Calls.mono (HWC.out w1 _) ?_
  rintro e w2 ⟨rfl, hb⟩
  have HR2 := Lib.hid (HR.out.below hb (Blk.lt HR.out))
  have HB2 := Lib.hid (HB.out.trans (hb.mono (by omega)))
  have hz2 := Nat.le_trans hz hb.size
  clear HR HB hz hb
  have HR := HR2
  have HB := HB2
  have hz := hz2
  clear HR2 HB2 hz2
  go_wp2_with ((with_reducible refine wpList_store_st (o := ⟨none, .store 181 _ _, _, _, _, _⟩) rfl 181 _ _ rfl w.heap.size rfl rfl (run_storeAt_row _ w.heap.size 181 181 (ptI 0 0 0 eT) (ptI r ((i : Int) + 1) 0 eT) ?_ ?_ ?_ ?_) ?_); exact HR.out; exact infoPt; rfl; exact pt_one _ _ _ _)
  exact bodyPost_ret (v := .agg (ptI r ((i : Int) + 1) 0 eT)) (results_cell_row rfl _ _ w.heap.size 181 (ptI r ((i : Int) + 1) 0 eT) (0, 0) _ rfl (Blk.setRow HR.out) Tryz.underlying181 rfl infoPt) rfl ⟨by rw [HRES.out] <;> rfl, below_row HB.out (by omega) _⟩

def OkD (s : ByteArray) (i : Nat) (p : DP) : Prop := p.err = 0 → i < p.fin ∧ p.fin ≤ s.size
theorem okD_bad (s : ByteArray) (i e p : Nat) : OkD s i (badD (e + 1) p) := fun h => by simp [badD] at h
theorem okD_short (s l : ByteArray) (i : Nat) : OkD s i (shortD s l) := fun h => by simp [shortD] at h
theorem behindD_ok (s : ByteArray) (a e i : Nat) (he : e ≤ s.size) (hi : i ≤ e) : OkD s i (behindD s a e) := by
  unfold behindD
  refine ite_ok _ (fun _ => okD_short _ _ _) (fun h1 => ?_)
  refine ite_ok _ (fun _ => okD_bad _ _ 4 _) (fun _ => ?_)
  refine ite_ok _ (fun _ => okD_short _ _ _) (fun h2 => ?_)
  refine ite_ok _ (fun _ => okD_bad _ _ 2 _) (fun _ _ => ⟨by simp only [okD]; omega, by simp only [okD]; omega⟩)
theorem namedD_ok (s : ByteArray) (a i : Nat) (ha : a ≤ s.size) (hi : i ≤ a) : OkD s i (namedD s a) := by
  have := nmEnd_le s a (s.size - a) a
  exact behindD_ok s a _ i (by omega) (by omega)
theorem betweenD_ok (s : ByteArray) (i : Nat) (h : i + 2 < s.size) : OkD s i (betweenD s i) := by
  unfold betweenD
  refine ite_ok _ (fun _ => okD_bad _ _ 3 _) (fun _ => ?_)
  exact ite_ok _ (fun _ => okD_bad _ _ 2 _) (fun _ _ => ⟨by simp only [okD]; omega, by simp only [okD]; omega⟩)
theorem thingD_ok (s : ByteArray) (i : Nat) (h : i < s.size) : OkD s i (thingD s i) := by
  unfold thingD
  refine ite_ok _ (fun h1 => namedD_ok _ _ _ (by have := isN_lt h1.2; omega) (by omega)) (fun _ => ?_)
  refine ite_ok _ (fun _ => okD_bad _ _ 2 _) (fun _ => ?_)
  exact ite_ok _ (fun h2 => betweenD_ok _ _ h2.1.2) (fun _ _ => ⟨by simp only [okD]; omega, by simp only [okD]; omega⟩)
end Go.Proofs.YtldaaelmifbbhaaGreat

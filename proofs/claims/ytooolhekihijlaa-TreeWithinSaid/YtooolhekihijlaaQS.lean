/- Texts put together: Tsb Tsc Tsd. -/
import Derived.Test.YtooolhekihijlaaQN
import Derived.Test.YtooolhekihijlaaQR
import Derived.BigQuiet
import Derived.Deep.QuietTactic
/- The list that frames tell: the developers' builder. Stage 14. -/
namespace Go.Proofs.Ytooolhekihijlaa
open Go.RowKit BS

/-- The places that are open, as they lie. -/
def opI (op : List Nat) : List Int := op.reverse.map fun q : Nat => (q : Int)
theorem opI_len (op : List Nat) : (opI op).length = op.length := by simp [opI]
theorem opI_push (op : List Nat) (q : Nat) : opI (q :: op) = opI op ++ [(q : Int)] := by simp [opI]
theorem opI_top (q : Nat) (r : List Nat) : (opI (q :: r))[r.length]? = some (q : Int) := by
  rw [opI_push, List.getElem?_append_right (by rw [opI_len]; omega), opI_len, Nat.sub_self]; rfl
theorem opI_drop (q : Nat) (r : List Nat) : (opI (q :: r)).take r.length = opI r := by
  rw [opI_push, List.take_append_of_le_length (by rw [opI_len]; omega), List.take_of_length_le (by rw [opI_len]; omega)]
theorem enCells_set : ∀ (l : List EnN) (q : Nat) (f : Int), q < l.length → enCells (l.set q ⟨(atE l q).depth, (atE l q).node, (atE l q).from_, f⟩) = (enCells l).set (q * 4 + 3) (.int .i64 f)
  | [], q, _, h => absurd h (by simp)
  | x :: l, 0, f, _ => by
    obtain ⟨a, b, c, d⟩ := x
    simp [enCells, atE, enA, enI]
  | x :: l, q + 1, f, h => by
    have ih := enCells_set l q f (by simpa using h)
    have e : ∀ (y : EnN) (m : List EnN), enCells (y :: m) = (enA y).toList ++ enCells m := fun y m => by simp [enCells]
    have ea : atE (x :: l) (q + 1) = atE l q := by simp [atE]
    rw [ea, List.set_cons_succ, e, e, ih, List.set_append_right _ _ (by rw [show (enA x).toList.length = 4 from rfl]; omega), show (enA x).toList.length = 4 from rfl, show (q + 1) * 4 + 3 - 4 = q * 4 + 3 by omega]
/-- What was made so far, in memory. -/
structure BldS (B b : Nat) (out : List EnN) (op : List Nat) (W : World) : Prop where
  ex : ∃ av cv au cu, Blk W b #[.slice av out.length cv, .slice au op.length cu] 60 ∧ OwE B (.slice av out.length cv) out W ∧ OwI B (.slice au op.length cu) (opI op) W ∧
    (∀ g, (Value.slice av out.length cv).ownBlock = some g → g ≠ b ∧ (Value.slice au op.length cu).ownBlock ≠ some g) ∧ (∀ g, (Value.slice au op.length cu).ownBlock = some g → g ≠ b)
  lo : B ≤ b
section
variable {B b : Nat} {out : List EnN} {op : List Nat} {W W' : World}
theorem BldS.lt (h : BldS B b out op W) : b < W.heap.size := by
  obtain ⟨av, cv, au, cu, h1, _⟩ := h.ex
  exact h1.lt
theorem BldS.below (h : BldS B b out op W) (hb : Below W.heap.size W W') : BldS B b out op W' := by
  obtain ⟨av, cv, au, cu, h1, h2, h3, h4, h5⟩ := h.ex
  exact ⟨⟨av, cv, au, cu, h1.below hb h1.lt, h2.below hb, h3.below hb, h4, h5⟩, h.lo⟩
theorem own_len {a : Option Addr} {n m c d : Nat} {g : Nat} (h : (Value.slice a n c).ownBlock = some g) : (Value.slice a m d).ownBlock = some g := by
  cases a with
  | none => cases h
  | some ad => exact h
/-- A place more that is open. -/
theorem BldS.push1 (h : BldS B b out op W) (hl : op.length ≤ 1000000) (q : Nat) (ty : TypeId) :
    ∃ av cv au cu g cap W2, W.cell? ⟨b, 0, none⟩ = some (.slice av out.length cv) ∧ W.cell? ⟨b, 1, none⟩ = some (.slice au op.length cu) ∧
      (Builtin.append_ #[35, 35] ty #[.slice au op.length cu, .slice (some ⟨W.heap.size, 0, none⟩) 1 1]).run Try.prog (W.alloc (.cells #[.int .i64 q] 3)) = .ok (.slice (some ⟨g, 0, none⟩) (op.length + 1) cap) W2 ∧
      KpA (fun k => (Value.slice au op.length cu).ownBlock = some k) W W2 ∧ (Value.slice au op.length cu).ownBlock ≠ some b ∧ W2.frozen? ⟨b, 1, none⟩ = false ∧
      BldS B b out (q :: op) (W2.setCell ⟨b, 1, none⟩ (.slice (some ⟨g, 0, none⟩) (op.length + 1) cap)) ∧ Below B W (W2.setCell ⟨b, 1, none⟩ (.slice (some ⟨g, 0, none⟩) (op.length + 1) cap)) := by
  obtain ⟨av, cv, au, cu, h1, h2, h3, h4, h5⟩ := h.ex
  have hBW : B ≤ W.heap.size := Nat.le_trans h.lo (Nat.le_of_lt h1.lt)
  obtain ⟨g, cap, W2, hr, ho2, hgr, hat, hgl⟩ := push_int h3 hBW (by rw [opI_len]; omega) q ty
  rw [opI_len] at hr ho2
  have hk : KpA (fun k => (Value.slice au op.length cu).ownBlock = some k) W W2 := ((KpA.refl _ W).alloc _).grown hgr (fun k hk => .inl hk)
  have hub : (Value.slice au op.length cu).ownBlock ≠ some b := fun hh => h5 b hh rfl
  have hb2 := h1.kpA hk hub
  have hgb : g ≠ b := by
    rcases hat with hat | hat
    · exact h5 g hat
    · have := h1.lt; omega
  refine ⟨av, cv, au, cu, g, cap, W2, h1.cell 0, h1.cell 1, hr, hk, hub, hb2.frozen 1, ⟨⟨av, cv, some ⟨g, 0, none⟩, cap, hb2.set 1 _, ?_, ?_, fun k hk' => ⟨(h4 k hk').1, fun e => ?_⟩, fun k hk' => ?_⟩, h.lo⟩, below_set (hk.toBelow hBW (fun k hk' => (h3.lt hk').1)) h.lo 1 _⟩
  · exact h2.keep (fun k hk' => (Below.heap_setCell W2 ⟨b, 1, none⟩ _ k (h4 k hk').1).trans (hk.block k (h2.lt hk').2 (h4 k hk').2))
  · rw [opI_push]
    exact ho2.keep (fun k hk' => by cases hk'; exact Below.heap_setCell W2 ⟨b, 1, none⟩ _ g hgb)
  · cases e
    rcases hat with hat | hat
    · exact (h4 g hk').2 hat
    · have h9 : g < W.heap.size := (h2.lt hk').2; omega
  · cases hk'; exact hgb
/-- An entry more. -/
theorem BldS.push2 (h : BldS B b out op W) (hl : out.length ≤ 1000000) (d n f e : Int) (ty : TypeId) :
    ∃ av cv au cu g cap W2, W.cell? ⟨b, 0, none⟩ = some (.slice av out.length cv) ∧ W.cell? ⟨b, 1, none⟩ = some (.slice au op.length cu) ∧
      (Builtin.append_ #[22, 22] ty #[.slice av out.length cv, .slice (some ⟨W.heap.size, 0, none⟩) 1 1]).run Try.prog (W.alloc (.cells (enI d n f e) 44)) = .ok (.slice (some ⟨g, 0, none⟩) (out.length + 1) cap) W2 ∧
      KpA (fun k => (Value.slice av out.length cv).ownBlock = some k) W W2 ∧ (Value.slice av out.length cv).ownBlock ≠ some b ∧ W2.frozen? ⟨b, 0, none⟩ = false ∧
      BldS B b (out ++ [⟨d, n, f, e⟩]) op (W2.setCell ⟨b, 0, none⟩ (.slice (some ⟨g, 0, none⟩) (out.length + 1) cap)) ∧ Below B W (W2.setCell ⟨b, 0, none⟩ (.slice (some ⟨g, 0, none⟩) (out.length + 1) cap)) := by
  obtain ⟨av, cv, au, cu, h1, h2, h3, h4, h5⟩ := h.ex
  have hBW : B ≤ W.heap.size := Nat.le_trans h.lo (Nat.le_of_lt h1.lt)
  obtain ⟨g, cap, W2, hr, ho2, hgr, hat, hgl⟩ := push_ent h2 hBW hl d n f e ty
  have hk : KpA (fun k => (Value.slice av out.length cv).ownBlock = some k) W W2 := ((KpA.refl _ W).alloc _).grown hgr (fun k hk => .inl hk)
  have hub : (Value.slice av out.length cv).ownBlock ≠ some b := fun hh => (h4 b hh).1 rfl
  have hb2 := h1.kpA hk hub
  have hgb : g ≠ b := by
    rcases hat with hat | hat
    · exact (h4 g hat).1
    · have := h1.lt; omega
  have hlen : (out ++ [(⟨d, n, f, e⟩ : EnN)]).length = out.length + 1 := by simp
  refine ⟨av, cv, au, cu, g, cap, W2, h1.cell 0, h1.cell 1, hr, hk, hub, hb2.frozen 0, ⟨⟨some ⟨g, 0, none⟩, cap, au, cu, by rw [hlen]; exact hb2.set 0 _, ?_, ?_, fun k hk' => ?_, h5⟩, h.lo⟩, below_set (hk.toBelow hBW (fun k hk' => (h2.lt hk').1)) h.lo 0 _⟩
  · rw [hlen]
    exact ho2.keep (fun k hk' => by cases hk'; exact Below.heap_setCell W2 ⟨b, 0, none⟩ _ g hgb)
  · exact h3.keep (fun k hk' => (Below.heap_setCell W2 ⟨b, 0, none⟩ _ k (h5 k hk')).trans (hk.block k (h3.lt hk').2 (fun hv => (h4 k hv).2 hk')))
  · cases hk'
    refine ⟨hgb, fun hv => ?_⟩
    rcases hat with hat | hat
    · exact (h4 g hat).2 hv
    · have h9 : g < W.heap.size := (h3.lt hv).2; omega
/-- The last one that is open is closed. -/
theorem BldS.pop {q : Nat} {r : List Nat} (h : BldS B b out (q :: r) W) (hq : q < out.length) (f : Int) :
    ∃ gv cv gu cu, W.cell? ⟨b, 0, none⟩ = some (.slice (some ⟨gv, 0, none⟩) out.length cv) ∧ W.cell? ⟨b, 1, none⟩ = some (.slice (some ⟨gu, 0, none⟩) (r.length + 1) cu) ∧ r.length + 1 ≤ cu ∧
      W.cell? ⟨gu, r.length, none⟩ = some (.int .i64 (q : Nat)) ∧ W.cell? ⟨gv, q * 4 + 1, none⟩ = some (.int .i64 (atE out q).node) ∧ (∃ z, W.cell? ⟨gv, q * 4 + 3, none⟩ = some z) ∧ W.frozen? ⟨gv, q * 4 + 3, none⟩ = false ∧
      b ≠ gv ∧ b ≠ gu ∧ gv ≠ gu ∧ W.frozen? ⟨b, 1, none⟩ = false ∧
      BldS B b (out.set q ⟨(atE out q).depth, (atE out q).node, (atE out q).from_, f⟩) r ((W.setCell ⟨gv, q * 4 + 3, none⟩ (.int .i64 f)).setCell ⟨b, 1, none⟩ (.slice (some ⟨gu, 0, none⟩) r.length cu)) ∧
      Below B W ((W.setCell ⟨gv, q * 4 + 3, none⟩ (.int .i64 f)).setCell ⟨b, 1, none⟩ (.slice (some ⟨gu, 0, none⟩) r.length cu)) := by
  obtain ⟨av, cv, au, cu, h1, h2, h3, h4, h5⟩ := h.ex
  have hBW : B ≤ W.heap.size := Nat.le_trans h.lo (Nat.le_of_lt h1.lt)
  have hlc : (q :: r).length = r.length + 1 := rfl
  rw [hlc] at h1 h3 h4 h5
  obtain ⟨gv, cv', e1, hv1, hv2, hv3⟩ := h2.blk (by intro e; rw [e] at hq; simp at hq)
  cases e1
  have h3' := h3
  rcases h3.2 with ⟨e2, _⟩ | ⟨gu, cu', cur, e2, hu1, hu2, hu3, _⟩
  · cases e2
  rw [opI_len, hlc] at e2 hu3
  cases e2
  have hgub : gu ≠ b := h5 gu rfl
  have hgvb : gv ≠ b := (h4 gv rfl).1
  have hguv : gv ≠ gu := fun e => (h4 gv rfl).2 (by rw [e]; rfl)
  have hlen2 : (out.set q ⟨(atE out q).depth, (atE out q).node, (atE out q).from_, f⟩).length = out.length := List.length_set ..
  have hc1 := World.ownsRow.cellAt h2 (q * 4 + 1) (by omega)
  have hc3 := World.ownsRow.cellAt h2 (q * 4 + 3) (by omega)
  rw [enCells_get out q 1 hq (by decide)] at hc1
  rw [enCells_get out q 3 hq (by decide)] at hc3
  have h3o := h3
  unfold OwI at h3o
  rw [opI_len, hlc] at h3o
  have hcu := World.ownsRow.cellAt h3o r.length (by omega)
  rw [List.getElem?_map, opI_top] at hcu
  refine ⟨gv, cv, gu, cu, h1.cell 0, h1.cell 1, hu3, hcu, ?_, ⟨_, hc3⟩, World.ownsRow.frozenAt h2 _, Ne.symm hgvb, Ne.symm hgub, hguv, h1.frozen 1, ⟨⟨some ⟨gv, 0, none⟩, cv, some ⟨gu, 0, none⟩, cu, ?_, ?_, ?_, fun k hk' => ?_, fun k hk' => ?_⟩, h.lo⟩, below_set (below_set (Below.refl _ _) hv1 _ _ |>.mono (Nat.le_refl _)) h.lo 1 _⟩
  · rw [hc1, atE_lt out q hq]; rfl
  · rw [hlen2]
    have := (h1.other (Ne.symm hgvb) (q * 4 + 3) (.int .i64 f)).set 1 (.slice (some ⟨gu, 0, none⟩) r.length cu)
    exact this
  · rw [hlen2]
    have h8 := (World.ownsRow.stored h2 (q * 4 + 3) (.int .i64 f)).1
    rw [← enCells_set out q f hq] at h8
    unfold OwE
    rw [hlen2]
    exact owns_keep h8 (fun k hk' => by cases hk'; exact Below.heap_setCell _ ⟨b, 1, none⟩ _ gv hgvb)
  · have h8 := owns_take h3o (m := r.length) (by omega)
    rw [Nat.mul_one, ← List.map_take, opI_drop] at h8
    unfold OwI
    rw [opI_len]
    refine owns_keep h8 (fun k hk' => ?_)
    cases hk'
    exact (Below.heap_setCell _ ⟨b, 1, none⟩ _ gu hgub).trans (Below.heap_setCell _ ⟨gv, q * 4 + 3, none⟩ _ gu (Ne.symm hguv))
  · cases hk'
    exact ⟨hgvb, fun e => by cases e; exact hguv rfl⟩
  · cases hk'; exact hgub
end
end Go.Proofs.Ytooolhekihijlaa

/- The list that frames tell: the developers' step. Stage 14. -/
namespace Go.Proofs.Ytooolhekihijlaa
open Go.RowKit BS

/-- What a step answers. -/
def ResB (B b : Nat) : Option OfS → Ending → World → Prop
  | some st, e, W => e = .returned (.bool true) ∧ BldS B b st.out st.op W
  | none, e, _ => e = .returned (.bool false)
section
variable {B b : Nat}
set_option maxRecDepth 100000 in
set_option maxHeartbeats 4000000 in
theorem ended_calls {out : List EnN} {op : List Nat} (W : World) (h : BldS B b out op W) :
    Calls Try.prog 28 #[.pointer (some ⟨b, 0, none⟩)] W fun e W' => e = .returned (.bool (decide (out ≠ [] ∧ op = []))) ∧ W = W' := by
  obtain ⟨av, cv, au, cu, h1, _⟩ := h.ex
  have c0 := h1.cell 0; have c1 := h1.cell 1
  simp only [List.getElem?_toArray, List.getElem?_cons_zero, List.getElem?_cons_succ] at c0 c1
  clear h h1
  obtain ⟨E, hE⟩ : ∃ E, E = decide (out ≠ [] ∧ op = []) := ⟨_, rfl⟩
  rw [← hE]
  by_cases ho : out = []
  · have hX := Lib.hid (show E = false by rw [hE]; rw [decide_eq_false_iff_not]; exact fun h => h.1 ho)
    subst ho
    clear hE
    go_enter Try.func28, Try.ntmps28
    go_wp2_with fail
    go_ret
    exact ⟨by rw [hX.out] <;> rfl, rfl⟩
  · have hl : 0 < out.length := List.length_pos_iff.2 ho
    have g1 : decide ((0 : Int) < (out.length : Int)) = true := by rw [decide_eq_true_iff]; omega
    have g2 : decide (0 < out.length) = true := decide_eq_true hl
    by_cases hp : op = []
    · have hX := Lib.hid (show E = true by rw [hE]; rw [decide_eq_true_iff]; exact ⟨ho, hp⟩)
      subst hp
      clear hE
      go_enter Try.func28, Try.ntmps28
      go_wp2_with fail
      go_ret
      exact ⟨by rw [hX.out] <;> rfl, rfl⟩
    · have hX := Lib.hid (show E = false by rw [hE]; rw [decide_eq_false_iff_not]; exact fun h => hp h.2)
      have hl2 : 0 < op.length := List.length_pos_iff.2 hp
      have g3 : ((op.length : Int) == 0) = false := beq_eq_false_iff_ne.2 (by omega)
      have g4 : (op.length == 0) = false := beq_eq_false_iff_ne.2 (by omega)
      go_enter Try.func28, Try.ntmps28
      go_wp2_with fail
      go_ret
      exact ⟨by rw [hX.out] <;> rfl, rfl⟩
set_option maxRecDepth 100000 in
set_option maxHeartbeats 2000000 in
theorem closesN_calls (q : Nat) (hq : 2 * q + 1 < 9223372036854775808) (w : World) : Calls Try.prog 41 #[.int .i64 q] w fun e w' => e = .returned (.int .i64 (2 * (q : Int) + 1)) ∧ w = w' := by
  have x1 : IntKind.i64.wrap (2 * (q : Int)) = 2 * (q : Int) := IntWalk.i64_in _ (by omega)
  have x2 : IntKind.i64.wrap (2 * (q : Int) + 1) = 2 * (q : Int) + 1 := IntWalk.i64_in _ (by omega)
  go_enter Try.func41, Try.ntmps41
  go_wp2_with fail
  go_ret
  exact ⟨rfl, rfl⟩
/-- A node is closed, plainly. -/
def popT (out : List EnN) (op : List Nat) (n i : Int) : Option OfS :=
  match op with
  | [] => none
  | q :: r => if (atE out q).node = n then some ⟨out.set q ⟨(atE out q).depth, (atE out q).node, (atE out q).from_, i⟩, r, r.isEmpty⟩ else none
set_option maxRecDepth 100000 in
set_option maxHeartbeats 16000000 in
theorem bshut_calls {out : List EnN} {op : List Nat} (hidx : ∀ q ∈ op, q < out.length) (hl : op.length ≤ 1000000) (n i : Int) (W : World) (h : BldS B b out op W) :
    Calls Try.prog 43 #[.pointer (some ⟨b, 0, none⟩), .int .i64 n, .int .i64 i] W fun e W' => ResB B b (popT out op n i) e W' ∧ Below B W W' := by
  cases op with
  | nil =>
    obtain ⟨av, cv, au, cu, h1, _⟩ := h.ex
    have hlo := h.lo
    have c0 := h1.cell 0; have c1 := h1.cell 1
    simp only [List.getElem?_toArray, List.getElem?_cons_zero, List.getElem?_cons_succ, List.length_nil] at c0 c1
    have HX := Lib.hid (show popT out [] n i = none from rfl)
    have hBr := Lib.hid (Below.refl B W)
    clear h h1
    go_enter Try.func43, Try.ntmps43
    go_upto_region 2 with fail
    go_quiet (fail)
    go_wp2_with fail
    go_ret
    rw [HX.out]
    exact ⟨rfl, below_drN hBr.out nq⟩
  | cons q r =>
    have hq := hidx q (List.mem_cons_self ..)
    have hlr : r.length + 1 ≤ 1000000 := hl
    obtain ⟨gv, cv, gu, cu, k0, k1, k2, k3, k4, ⟨z, k5⟩, k6, k7, k8, k9, k10, k11, k12⟩ := h.pop hq i
    obtain ⟨O, hO⟩ : ∃ O, O = popT out (q :: r) n i := ⟨_, rfl⟩
    rw [← hO]
    have hO2 : O = if (atE out q).node = n then some ⟨out.set q ⟨(atE out q).depth, (atE out q).node, (atE out q).from_, i⟩, r, r.isEmpty⟩ else none := hO
    have HO := Lib.hid hO2
    have xs : IntKind.i64.wrap ((r.length : Int) + 1 - 1) = (r.length : Int) := by rw [show (r.length : Int) + 1 - 1 = (r.length : Int) by omega]; exact IntWalk.i64_in _ (by omega)
    have g1 : decide ((r.length : Int) < 0) = false := by rw [decide_eq_false_iff_not]; omega
    have g2 : (r.length : Int) < (r.length : Int) + 1 := by omega
    have g3 : (q : Int) < (out.length : Int) := by omega
    have g4 : (0 : Int) ≤ (q : Int) := by omega
    have H11 := Lib.hid k11
    have H12 := Lib.hid k12
    have HPB := Lib.hid (fun W' (hW : Below W.heap.size W W') => (h.below hW).pop hq i)
    have hBr := Lib.hid (Below.refl B W)
    have hlW := h.lt
    have hBle := h.lo
    clear h hO hO2 hidx hl
    generalize hnn : (atE out q).node = nd at *
    by_cases hne : nd = n
    · subst hne
      go_enter Try.func43, Try.ntmps43
      go_upto_region 2 with fail
      go_quiet (fail)
      clear k0 k1 k2 k3 k4 k5 k6 k7 k8 k9 k10 H11 H12
      have hbw : Below W.heap.size W (W.drewN nq).drew := (below_drN (Below.refl _ _) nq).drew
      obtain ⟨gv2, cv2, gu2, cu2, k0, k1, k2, k3, k4, ⟨z2, k5⟩, k6, k7, k8, k9, k10, k11, k12⟩ := HPB.out _ hbw
      have H11 := Lib.hid k11
      have H12 := Lib.hid ((hBr.out.trans (hbw.mono (Nat.le_trans hBle (Nat.le_of_lt hlW)))).trans k12)
      have HO3 := Lib.hid (show O = some ⟨out.set q ⟨(atE out q).depth, nd, (atE out q).from_, i⟩, r, r.isEmpty⟩ by rw [HO.out, if_pos rfl])
      clear k11 k12 HPB hbw HO
      go_upto_region 4 with fail
      obtain ⟨wd, hwd⟩ : ∃ wd, wd = (W.drewN nq).drew := ⟨_, rfl⟩
      rw [← hwd] at k0 k1 k3 k4 k5 k6 k10 H11 H12
      have HWD := Lib.hid hwd
      clear hwd
      refine region_stepsD (S := fun _ w' => w' = wd) (m := 14) (n := 14) (k := 0) [] rfl (by kernel_rfl) (by kernel_rfl) (HWD.out.symm) ?_
      simp only [List.size_toArray, List.length_cons, List.length_nil, Nat.reduceAdd, Array.replicate_succ, Array.replicate_zero, List.push_toArray, List.nil_append, List.cons_append]
      refine AnyD.next (m := 14) (i := 0) (d := some 34) (v := .pointer (some ⟨b, 0, none⟩)) [13, 12, 3, 2, 1, 0] rfl rfl (by kernel_rfl) (by kernel_rfl) (by kernel_rfl) (by kernel_rfl) (by kernel_rfl) (fun k => StepsIf.yield (by kernel_rfl) (fun w' hS => by clear hS; go_simp)) ?_
      intro a' ha'
      simp only [Act.put, List.setIfInBounds_toArray, List.set_cons_zero, List.set_cons_succ] at ha'
      subst ha'
      refine AnyD.next (m := 14) (i := 1) (d := some 35) (v := .pointer (some ⟨b, 0, none⟩)) [13, 12, 3, 2, 1] rfl rfl (by kernel_rfl) (by kernel_rfl) (by kernel_rfl) (by kernel_rfl) (by kernel_rfl) (fun k => StepsIf.yield (by kernel_rfl) (fun w' hS => by clear hS; go_simp)) ?_
      intro a' ha'
      simp only [Act.put, List.setIfInBounds_toArray, List.set_cons_zero, List.set_cons_succ] at ha'
      subst ha'
      refine AnyD.next (m := 14) (i := 2) (d := some 36) (v := .pointer (some ⟨b, 0, none⟩)) [13, 12, 3, 2] rfl rfl (by kernel_rfl) (by kernel_rfl) (by kernel_rfl) (by kernel_rfl) (by kernel_rfl) (fun k => StepsIf.yield (by kernel_rfl) (fun w' hS => by clear hS; go_simp)) ?_
      intro a' ha'
      simp only [Act.put, List.setIfInBounds_toArray, List.set_cons_zero, List.set_cons_succ] at ha'
      subst ha'
      refine AnyD.next (m := 14) (i := 3) (d := some 37) (v := .slice (some ⟨gv2, 0, none⟩) out.length cv2) [13, 12, 3] rfl rfl (by kernel_rfl) (by kernel_rfl) (by kernel_rfl) (by kernel_rfl) (by kernel_rfl) (fun k => StepsIf.yield (by kernel_rfl) (fun w' hS => by rw [hS]; clear hS; go_simp)) ?_
      intro a' ha'
      simp only [Act.put, List.setIfInBounds_toArray, List.set_cons_zero, List.set_cons_succ] at ha'
      subst ha'
      refine AnyD.next (m := 14) (i := 4) (d := some 38) (v := .pointer (some ⟨b, 0, none⟩)) [13, 12, 10, 9, 7, 6, 5, 4] rfl rfl (by kernel_rfl) (by kernel_rfl) (by kernel_rfl) (by kernel_rfl) (by kernel_rfl) (fun k => StepsIf.yield (by kernel_rfl) (fun w' hS => by clear hS; go_simp)) ?_
      intro a' ha'
      simp only [Act.put, List.setIfInBounds_toArray, List.set_cons_zero, List.set_cons_succ] at ha'
      subst ha'
      refine AnyD.next (m := 14) (i := 5) (d := some 39) (v := .pointer (some ⟨b, 0, none⟩)) [13, 12, 10, 9, 7, 6, 5] rfl rfl (by kernel_rfl) (by kernel_rfl) (by kernel_rfl) (by kernel_rfl) (by kernel_rfl) (fun k => StepsIf.yield (by kernel_rfl) (fun w' hS => by clear hS; go_simp)) ?_
      intro a' ha'
      simp only [Act.put, List.setIfInBounds_toArray, List.set_cons_zero, List.set_cons_succ] at ha'
      subst ha'
      refine AnyD.next (m := 14) (i := 6) (d := some 40) (v := .pointer (some ⟨b, 1, none⟩)) [13, 12, 10, 9, 7, 6] rfl rfl (by kernel_rfl) (by kernel_rfl) (by kernel_rfl) (by kernel_rfl) (by kernel_rfl) (fun k => StepsIf.yield (by kernel_rfl) (fun w' hS => by clear hS; go_simp)) ?_
      intro a' ha'
      simp only [Act.put, List.setIfInBounds_toArray, List.set_cons_zero, List.set_cons_succ] at ha'
      subst ha'
      refine AnyD.next (m := 14) (i := 7) (d := some 41) (v := .slice (some ⟨gu2, 0, none⟩) (r.length + 1) cu2) [13, 12, 10, 9, 7] rfl rfl (by kernel_rfl) (by kernel_rfl) (by kernel_rfl) (by kernel_rfl) (by kernel_rfl) (fun k => StepsIf.yield (by kernel_rfl) (fun w' hS => by rw [hS]; clear hS; go_simp)) ?_
      intro a' ha'
      simp only [Act.put, List.setIfInBounds_toArray, List.set_cons_zero, List.set_cons_succ] at ha'
      subst ha'
      refine AnyD.next (m := 14) (i := 8) (d := some 42) (v := .int .i64 (r.length : Nat)) [13, 12, 10, 9, 8] rfl rfl (by kernel_rfl) (by kernel_rfl) (by kernel_rfl) (by kernel_rfl) (by kernel_rfl) (fun k => StepsIf.yield (by kernel_rfl) (fun w' hS => by clear hS; go_simp)) ?_
      intro a' ha'
      simp only [Act.put, List.setIfInBounds_toArray, List.set_cons_zero, List.set_cons_succ] at ha'
      subst ha'
      refine AnyD.next (m := 14) (i := 9) (d := some 43) (v := .pointer (some ⟨gu2, r.length, none⟩)) [13, 12, 10, 9] rfl rfl (by kernel_rfl) (by kernel_rfl) (by kernel_rfl) (by kernel_rfl) (by kernel_rfl) (fun k => StepsIf.yield (by kernel_rfl) (fun w' hS => by clear hS; go_simp)) ?_
      intro a' ha'
      simp only [Act.put, List.setIfInBounds_toArray, List.set_cons_zero, List.set_cons_succ] at ha'
      subst ha'
      refine AnyD.next (m := 14) (i := 10) (d := some 44) (v := .int .i64 (q : Nat)) [13, 12, 10] rfl rfl (by kernel_rfl) (by kernel_rfl) (by kernel_rfl) (by kernel_rfl) (by kernel_rfl) (fun k => StepsIf.yield (by kernel_rfl) (fun w' hS => by rw [hS]; clear hS; go_simp)) ?_
      intro a' ha'
      simp only [Act.put, List.setIfInBounds_toArray, List.set_cons_zero, List.set_cons_succ] at ha'
      subst ha'
      refine AnyD.next (m := 14) (i := 11) (d := some 45) (v := .int .i64 i) [11] rfl rfl (by kernel_rfl) (by kernel_rfl) (by kernel_rfl) (by kernel_rfl) (by kernel_rfl) (fun k => StepsIf.yield (by kernel_rfl) (fun w' hS => by clear hS; go_simp)) ?_
      intro a' ha'
      simp only [Act.put, List.setIfInBounds_toArray, List.set_cons_zero, List.set_cons_succ] at ha'
      subst ha'
      refine AnyD.next (m := 14) (i := 12) (d := some 46) (v := .pointer (some ⟨gv2, q * 4, none⟩)) [13, 12] rfl rfl (by kernel_rfl) (by kernel_rfl) (by kernel_rfl) (by kernel_rfl) (by kernel_rfl) (fun k => StepsIf.yield (by kernel_rfl) (fun w' hS => by clear hS; go_simp)) ?_
      intro a' ha'
      simp only [Act.put, List.setIfInBounds_toArray, List.set_cons_zero, List.set_cons_succ] at ha'
      subst ha'
      refine AnyD.next (m := 14) (i := 13) (d := some 47) (v := .pointer (some ⟨gv2, q * 4 + 3, none⟩)) [13] rfl rfl (by kernel_rfl) (by kernel_rfl) (by kernel_rfl) (by kernel_rfl) (by kernel_rfl) (fun k => StepsIf.yield (by kernel_rfl) (fun w' hS => by clear hS; go_simp)) ?_
      intro a' ha'
      simp only [Act.put, List.setIfInBounds_toArray, List.set_cons_zero, List.set_cons_succ] at ha'
      subst ha'
      refine AnyD.endC (n := 0) (by kernel_rfl) (by kernel_rfl) (fun w' hS => ?_)
      obtain rfl := hS
      refine wpAny_one (i := 14) (o := ⟨none, .store 3 (.tmp 47) (.tmp 45), _, _, _, _⟩) (by kernel_rfl) rfl (by kernel_rfl) ?_
      refine wp_absX (fun K hK => ?_)
      go_simp
      refine hK _ _ ?_
      clear hK K
      refine wpAny_none (P := Try.prog) (by kernel_rfl) ?_
      go_wp2_with fail
      go_ret
      rw [HO3.out]
      exact ⟨⟨rfl, H11.out⟩, H12.out⟩
    · have q1 : (nd == n) = false := beq_eq_false_iff_ne.2 hne
      have HO3 := Lib.hid (show O = none by rw [HO.out, if_neg hne])
      clear HO H11 H12 HPB
      go_enter Try.func43, Try.ntmps43
      go_upto_region 2 with fail
      go_quiet (fail)
      go_wp2_with fail
      go_ret
      rw [HO3.out]
      exact ⟨rfl, below_drN hBr.out nq⟩
end
end Go.Proofs.Ytooolhekihijlaa

/- The list that frames tell: the developers' step. Stage 14. -/
namespace Go.Proofs.Ytooolhekihijlaa
open Go.RowKit BS

theorem pop_ofS (i : Int) (st : OfS) (n : Nat) (hd : st.done = false) (hn : n % 2 = 1) : ofS i st (n : Int) = popT st.out st.op ((n / 2 : Nat) : Int) i := by
  unfold ofS popT
  rw [if_neg (by rw [hd]; simp), if_neg (by omega)]
  rfl
theorem push_ofS (i : Int) (st : OfS) (n : Nat) (hd : st.done = false) (hn : n % 2 = 0) : ofS i st (n : Int) = some ⟨st.out ++ [⟨(st.op.length : Int) + 1, ((n / 2 : Nat) : Int), i, 0⟩], st.out.length :: st.op, false⟩ := by
  unfold ofS
  rw [if_neg (by rw [hd]; simp), if_pos (by omega)]
  rfl
section
variable {B b : Nat}
set_option maxRecDepth 100000 in
set_option maxHeartbeats 32000000 in
theorem step_calls {st : OfS} (hinv : OfInv st) (hl1 : st.out.length ≤ 100000) (hl2 : st.op.length ≤ 100000) (s : Int) (hs1 : -9223372036854775808 ≤ s) (hs2 : s < 9223372036854775808) (i : Nat) (_hi : i ≤ 100000) (W : World) (h : BldS B b st.out st.op W) :
    Calls Try.prog 27 #[.pointer (some ⟨b, 0, none⟩), .int .i64 s, .int .i64 i] W fun e W' => ResB B b (ofS i st s) e W' ∧ Below B W W' := by
  have hBr := Lib.hid (Below.refl B W)
  obtain ⟨O, hO⟩ : ∃ O, O = ofS i st s := ⟨_, rfl⟩
  rw [← hO]
  by_cases hneg : s < 0
  · have q1 : decide (s < 0) = true := decide_eq_true hneg
    have HO := Lib.hid (show O = none by rw [hO]; unfold ofS; rw [if_pos (.inl hneg)])
    clear h hO hinv
    go_enter Try.func27, Try.ntmps27
    go_wp2_with fail
    go_ret
    rw [HO.out]
    exact ⟨rfl, hBr.out⟩
  obtain ⟨n, rfl⟩ : ∃ n : Nat, s = n := ⟨s.toNat, by omega⟩
  have q1 : decide ((n : Int) < 0) = false := decide_eq_false hneg
  have HEN := Lib.hid (ended_calls W h)
  have hdn : decide (st.out ≠ [] ∧ st.op = []) = st.done := by rw [Bool.eq_iff_iff, decide_eq_true_iff]; exact hinv.dn.symm
  rw [hdn] at HEN
  cases hd : st.done with
  | true =>
    rw [hd] at HEN
    have HO := Lib.hid (show O = none by rw [hO]; unfold ofS; rw [if_pos (.inr hd)])
    clear h hO hinv hdn
    go_enter Try.func27, Try.ntmps27
    go_wp2_with fail
    refine HEN.out.mono ?_
    rintro e w1 ⟨rfl, rfl⟩
    go_wp2_with fail
    go_ret
    rw [HO.out]
    exact ⟨rfl, hBr.out⟩
  | false =>
    rw [hd] at HEN
    have x1 : IntKind.i64.wrap (((n / 2 : Nat) : Int)) = ((n / 2 : Nat) : Int) := IntWalk.i64_in _ (by omega)
    have x2 : Int.tdiv (n : Int) 2 = ((n / 2 : Nat) : Int) := by rw [Int.tdiv_eq_ediv_of_nonneg (by omega)]; rfl
    have HCL := Lib.hid (closesN_calls (n / 2) (by omega))
    by_cases hpar : n % 2 = 1
    · have hpo := pop_ofS i st n hd hpar
      rw [← hO] at hpo
      have HSH := Lib.hid (bshut_calls hinv.idx (by omega) ((n / 2 : Nat) : Int) i W h)
      rw [← hpo] at HSH
      have q2 : ((n : Int) == 2 * ((n / 2 : Nat) : Int) + 1) = true := beq_iff_eq.2 (by omega)
      clear h hO hinv hdn hpo hpar
      generalize n / 2 = m at *
      go_enter Try.func27, Try.ntmps27
      go_wp2_with fail
      refine HEN.out.mono ?_
      rintro e w1 ⟨rfl, rfl⟩
      go_wp2_with fail
      refine (HCL.out _).mono ?_
      rintro e w2 ⟨rfl, rfl⟩
      go_wp2_with fail
      refine HSH.out.mono ?_
      rintro e w3 ⟨hr, hb⟩
      have HB3 := Lib.hid hb
      clear hb HSH
      cases O with
      | none =>
        obtain rfl := hr
        go_wp2_with fail
        go_ret
        exact ⟨rfl, HB3.out⟩
      | some st2 =>
        obtain ⟨rfl, hx⟩ := hr
        have HX := Lib.hid hx
        clear hx
        go_wp2_with fail
        go_ret
        exact ⟨⟨rfl, HX.out⟩, HB3.out⟩
    · have hpo := push_ofS i st n hd (by omega)
      rw [← hO] at hpo
      have HO := Lib.hid hpo
      have q2 : ((n : Int) == 2 * ((n / 2 : Nat) : Int) + 1) = false := beq_eq_false_iff_ne.2 (by omega)
      have HD := Lib.hid h
      clear h hO hinv hdn hpo hpar hd
      obtain ⟨out, op, dn⟩ := st
      simp only at hl1 hl2 HEN HO HD
      generalize n / 2 = m at *
      go_enter Try.func27, Try.ntmps27
      go_wp2_with fail
      refine HEN.out.mono ?_
      rintro e w1 ⟨rfl, rfl⟩
      go_wp2_with fail
      refine (HCL.out _).mono ?_
      rintro e w2 ⟨rfl, rfl⟩
      clear HEN HCL
      go_upto_region 6 with fail
      have hbd0 := HD.out.below ((Below.refl W.heap.size W).drew)
      have hHB0 := hBr.out.drew
      obtain ⟨wd, hwd⟩ : ∃ wd, wd = W.drew := ⟨_, rfl⟩
      rw [← hwd] at hbd0 hHB0
      have HWD := Lib.hid hwd
      clear hwd HD
      have hbl := hbd0.lt
      obtain ⟨av, cv, au, cu, g, cap, W2, k1, k2, k3, k4, k5, k6, k7, k8⟩ := hbd0.push1 (by omega) out.length 35
      have HKP := Lib.hid (show ∀ k W', lvl [wd, wd.alloc (.cells #[.int .i64 (out.length : Nat)] 3), W2] k W' → KpA (fun k => (Value.slice au op.length cu).ownBlock = some k) wd W' from fun k W' hl => by
        have hm := hl.mem
        simp only [List.mem_cons, List.not_mem_nil, or_false] at hm
        rcases hm with rfl | rfl | rfl
        · exact KpA.refl _ _
        · exact (KpA.refl _ _).alloc _
        · exact k4)
      have HC0 := Lib.hid (show ∀ k W', lvl [wd, wd.alloc (.cells #[.int .i64 (out.length : Nat)] 3), W2] k W' → W'.cell? ⟨b, 0, none⟩ = some (.slice av out.length cv) ∧ W'.cell? ⟨b, 1, none⟩ = some (.slice au op.length cu) from fun k W' hl => ⟨((HKP.out k W' hl).cell hbl k5 0).trans k1, ((HKP.out k W' hl).cell hbl k5 1).trans k2⟩)
      have cT : W2.cell? ⟨b, 1, none⟩ = some (.slice au op.length cu) := (k4.cell hbl k5 1).trans k2
      have HA3 := Lib.hid k3
      have HD3 := Lib.hid k7
      have HB3 := Lib.hid (hHB0.trans k8)
      clear k1 k2 k3 k4 k5 k7 k8 HKP hbd0 hHB0 hbl
      refine region_stepsD (S := lvl [wd, wd.alloc (.cells #[.int .i64 (out.length : Nat)] 3), W2]) (m := 14) (n := 14) (k := 0) [10, 11] rfl (by kernel_rfl) (by kernel_rfl) (by rw [← HWD.out]; rfl) ?_
      simp only [List.size_toArray, List.length_cons, List.length_nil, Nat.reduceAdd, Array.replicate_succ, Array.replicate_zero, List.push_toArray, List.nil_append, List.cons_append]
      refine AnyD.next (m := 14) (i := 0) (d := some 24) (v := .pointer (some ⟨b, 0, none⟩)) [13, 12, 0] rfl rfl (by kernel_rfl) (by kernel_rfl) (by kernel_rfl) (by kernel_rfl) (by kernel_rfl) (fun k => StepsIf.yield (by kernel_rfl) (fun w' hS => by clear hS; go_simp)) ?_
      intro a' ha'
      simp only [Act.put, List.setIfInBounds_toArray, List.set_cons_zero, List.set_cons_succ] at ha'
      subst ha'
      refine AnyD.next (m := 14) (i := 1) (d := some 25) (v := .pointer (some ⟨b, 0, none⟩)) [11, 4, 3, 2, 1] rfl rfl (by kernel_rfl) (by kernel_rfl) (by kernel_rfl) (by kernel_rfl) (by kernel_rfl) (fun k => StepsIf.yield (by kernel_rfl) (fun w' hS => by clear hS; go_simp)) ?_
      intro a' ha'
      simp only [Act.put, List.setIfInBounds_toArray, List.set_cons_zero, List.set_cons_succ] at ha'
      subst ha'
      refine AnyD.next (m := 14) (i := 2) (d := some 26) (v := .pointer (some ⟨b, 0, none⟩)) [11, 4, 3, 2] rfl rfl (by kernel_rfl) (by kernel_rfl) (by kernel_rfl) (by kernel_rfl) (by kernel_rfl) (fun k => StepsIf.yield (by kernel_rfl) (fun w' hS => by clear hS; go_simp)) ?_
      intro a' ha'
      simp only [Act.put, List.setIfInBounds_toArray, List.set_cons_zero, List.set_cons_succ] at ha'
      subst ha'
      refine AnyD.next (m := 14) (i := 3) (d := some 27) (v := .pointer (some ⟨b, 1, none⟩)) [11, 4, 3] rfl rfl (by kernel_rfl) (by kernel_rfl) (by kernel_rfl) (by kernel_rfl) (by kernel_rfl) (fun k => StepsIf.yield (by kernel_rfl) (fun w' hS => by clear hS; go_simp)) ?_
      intro a' ha'
      simp only [Act.put, List.setIfInBounds_toArray, List.set_cons_zero, List.set_cons_succ] at ha'
      subst ha'
      refine AnyD.next (m := 14) (i := 4) (d := some 28) (v := .slice au op.length cu) [11, 4] rfl rfl (by kernel_rfl) (by kernel_rfl) (by kernel_rfl) (by kernel_rfl) (by kernel_rfl) (fun k => StepsIf.yield (by kernel_rfl) (fun w' hS => by obtain ⟨e0, e1⟩ := HC0.out k w' hS; clear hS; go_simp)) ?_
      intro a' ha'
      simp only [Act.put, List.setIfInBounds_toArray, List.set_cons_zero, List.set_cons_succ] at ha'
      subst ha'
      refine AnyD.next (m := 14) (i := 5) (d := some 29) (v := .pointer (some ⟨b, 0, none⟩)) [11, 10, 9, 8, 7, 6, 5] rfl rfl (by kernel_rfl) (by kernel_rfl) (by kernel_rfl) (by kernel_rfl) (by kernel_rfl) (fun k => StepsIf.yield (by kernel_rfl) (fun w' hS => by clear hS; go_simp)) ?_
      intro a' ha'
      simp only [Act.put, List.setIfInBounds_toArray, List.set_cons_zero, List.set_cons_succ] at ha'
      subst ha'
      refine AnyD.next (m := 14) (i := 6) (d := some 30) (v := .pointer (some ⟨b, 0, none⟩)) [11, 10, 9, 8, 7, 6] rfl rfl (by kernel_rfl) (by kernel_rfl) (by kernel_rfl) (by kernel_rfl) (by kernel_rfl) (fun k => StepsIf.yield (by kernel_rfl) (fun w' hS => by clear hS; go_simp)) ?_
      intro a' ha'
      simp only [Act.put, List.setIfInBounds_toArray, List.set_cons_zero, List.set_cons_succ] at ha'
      subst ha'
      refine AnyD.next (m := 14) (i := 7) (d := some 31) (v := .pointer (some ⟨b, 0, none⟩)) [11, 10, 9, 8, 7] rfl rfl (by kernel_rfl) (by kernel_rfl) (by kernel_rfl) (by kernel_rfl) (by kernel_rfl) (fun k => StepsIf.yield (by kernel_rfl) (fun w' hS => by clear hS; go_simp)) ?_
      intro a' ha'
      simp only [Act.put, List.setIfInBounds_toArray, List.set_cons_zero, List.set_cons_succ] at ha'
      subst ha'
      refine AnyD.next (m := 14) (i := 8) (d := some 32) (v := .slice av out.length cv) [11, 10, 9, 8] rfl rfl (by kernel_rfl) (by kernel_rfl) (by kernel_rfl) (by kernel_rfl) (by kernel_rfl) (fun k => StepsIf.yield (by kernel_rfl) (fun w' hS => by obtain ⟨e0, e1⟩ := HC0.out k w' hS; clear hS; go_simp)) ?_
      intro a' ha'
      simp only [Act.put, List.setIfInBounds_toArray, List.set_cons_zero, List.set_cons_succ] at ha'
      subst ha'
      refine AnyD.next (m := 14) (i := 9) (d := some 33) (v := .int .i64 (out.length : Nat)) [11, 10, 9] rfl rfl (by kernel_rfl) (by kernel_rfl) (by kernel_rfl) (by kernel_rfl) (by kernel_rfl) (fun k => StepsIf.yield (by kernel_rfl) (fun w' hS => by clear hS; go_simp)) ?_
      intro a' ha'
      simp only [Act.put, List.setIfInBounds_toArray, List.set_cons_zero, List.set_cons_succ] at ha'
      subst ha'
      refine AnyD.turn (m := 14) (i := 10) (d := some 34) (k := 0) (v := .slice (some ⟨wd.heap.size, 0, none⟩) 1 1) rfl rfl (by kernel_rfl) (by kernel_rfl) (by kernel_rfl) (StepsL.lev rfl rfl (by kernel_rfl) (by go_simp)) ?_
      intro a' ha'
      simp only [Act.put, List.setIfInBounds_toArray, List.set_cons_zero, List.set_cons_succ] at ha'
      subst ha'
      refine AnyD.turn (m := 14) (i := 11) (d := some 35) (k := 1) (v := .slice (some ⟨g, 0, none⟩) (op.length + 1) cap) rfl rfl (by kernel_rfl) (by kernel_rfl) (by kernel_rfl) (StepsL.lev rfl rfl (by kernel_rfl) (exec_appI rfl rfl rfl HA3.out)) ?_
      intro a' ha'
      simp only [Act.put, List.setIfInBounds_toArray, List.set_cons_zero, List.set_cons_succ] at ha'
      subst ha'
      refine AnyD.next (m := 14) (i := 12) (d := some 36) (v := .pointer (some ⟨b, 0, none⟩)) [13, 12] rfl rfl (by kernel_rfl) (by kernel_rfl) (by kernel_rfl) (by kernel_rfl) (by kernel_rfl) (fun k => StepsIf.yield (by kernel_rfl) (fun w' hS => by clear hS; go_simp)) ?_
      intro a' ha'
      simp only [Act.put, List.setIfInBounds_toArray, List.set_cons_zero, List.set_cons_succ] at ha'
      subst ha'
      refine AnyD.next (m := 14) (i := 13) (d := some 37) (v := .pointer (some ⟨b, 1, none⟩)) [13] rfl rfl (by kernel_rfl) (by kernel_rfl) (by kernel_rfl) (by kernel_rfl) (by kernel_rfl) (fun k => StepsIf.yield (by kernel_rfl) (fun w' hS => by clear hS; go_simp)) ?_
      intro a' ha'
      simp only [Act.put, List.setIfInBounds_toArray, List.set_cons_zero, List.set_cons_succ] at ha'
      subst ha'
      refine AnyD.endC (n := 2) (by kernel_rfl) (by kernel_rfl) (fun w' hS => ?_)
      obtain rfl := hS.is rfl
      refine wpAny_one (i := 14) (o := ⟨none, .store 35 (.tmp 37) (.tmp 35), _, _, _, _⟩) (by kernel_rfl) rfl (by kernel_rfl) ?_
      refine wp_absX (fun K hK => ?_)
      go_simp
      refine hK _ _ ?_
      clear hK K
      refine wpAny_none (P := Try.prog) (by kernel_rfl) ?_
      clear k6 cT HA3 HC0
      generalize w'.setCell ⟨b, 1, none⟩ (.slice (some ⟨g, 0, none⟩) (op.length + 1) cap) = w3 at *
      clear hS HWD
      go_upto_region 7 with fail
      have hbd0 := HD3.out.below ((Below.refl w3.heap.size w3).drew)
      have hHB0 := HB3.out.drew
      obtain ⟨wdz, hwdz⟩ : ∃ wdz, wdz = w3.drew := ⟨_, rfl⟩
      rw [← hwdz] at hbd0 hHB0
      have HWDz := Lib.hid hwdz
      clear hwdz HD3 HB3
      have hbl := hbd0.lt
      obtain ⟨avz, cvz, auz, cuz, gz, capz, W2z, k1, k2, k3, k4, k5, k6, k7, k8⟩ := hbd0.push2 (by omega) ((op.length : Int) + 1) (m : Int) (i : Int) 0 22
      rw [show (out.length :: op).length = op.length + 1 from rfl] at k2
      have HKP := Lib.hid (show ∀ k W', lvl [wdz, wdz.alloc (.cells (enI ((op.length : Int) + 1) m i 0) 44), W2z] k W' → KpA (fun k => (Value.slice avz out.length cvz).ownBlock = some k) wdz W' from fun k W' hl => by
        have hm := hl.mem
        simp only [List.mem_cons, List.not_mem_nil, or_false] at hm
        rcases hm with rfl | rfl | rfl
        · exact KpA.refl _ _
        · exact (KpA.refl _ _).alloc _
        · exact k4)
      have HC0 := Lib.hid (show ∀ k W', lvl [wdz, wdz.alloc (.cells (enI ((op.length : Int) + 1) m i 0) 44), W2z] k W' → W'.cell? ⟨b, 0, none⟩ = some (.slice avz out.length cvz) ∧ W'.cell? ⟨b, 1, none⟩ = some (.slice auz (op.length + 1) cuz) from fun k W' hl => ⟨((HKP.out k W' hl).cell hbl k5 0).trans k1, ((HKP.out k W' hl).cell hbl k5 1).trans k2⟩)
      have cT : W2z.cell? ⟨b, 0, none⟩ = some (.slice avz out.length cvz) := (k4.cell hbl k5 0).trans k1
      have HA3 := Lib.hid k3
      have HD3 := Lib.hid k7
      have HB3 := Lib.hid (hHB0.trans k8)
      clear k1 k2 k3 k4 k5 k7 k8 HKP hbd0 hHB0 hbl
      refine region_stepsD (S := lvl [wdz, wdz.alloc (.cells (enI ((op.length : Int) + 1) m i 0) 44), W2z]) (m := 17) (n := 17) (k := 0) [13, 14] rfl (by kernel_rfl) (by kernel_rfl) (by rw [← HWDz.out]; rfl) ?_
      simp only [List.size_toArray, List.length_cons, List.length_nil, Nat.reduceAdd, Array.replicate_succ, Array.replicate_zero, List.push_toArray, List.nil_append, List.cons_append]
      refine AnyD.next (m := 17) (i := 0) (d := some 38) (v := .pointer (some ⟨b, 0, none⟩)) [16, 15, 0] rfl rfl (by kernel_rfl) (by kernel_rfl) (by kernel_rfl) (by kernel_rfl) (by kernel_rfl) (fun k => StepsIf.yield (by kernel_rfl) (fun w' hS => by clear hS; go_simp)) ?_
      intro a' ha'
      simp only [Act.put, List.setIfInBounds_toArray, List.set_cons_zero, List.set_cons_succ] at ha'
      subst ha'
      refine AnyD.next (m := 17) (i := 1) (d := some 39) (v := .pointer (some ⟨b, 0, none⟩)) [14, 4, 3, 2, 1] rfl rfl (by kernel_rfl) (by kernel_rfl) (by kernel_rfl) (by kernel_rfl) (by kernel_rfl) (fun k => StepsIf.yield (by kernel_rfl) (fun w' hS => by clear hS; go_simp)) ?_
      intro a' ha'
      simp only [Act.put, List.setIfInBounds_toArray, List.set_cons_zero, List.set_cons_succ] at ha'
      subst ha'
      refine AnyD.next (m := 17) (i := 2) (d := some 40) (v := .pointer (some ⟨b, 0, none⟩)) [14, 4, 3, 2] rfl rfl (by kernel_rfl) (by kernel_rfl) (by kernel_rfl) (by kernel_rfl) (by kernel_rfl) (fun k => StepsIf.yield (by kernel_rfl) (fun w' hS => by clear hS; go_simp)) ?_
      intro a' ha'
      simp only [Act.put, List.setIfInBounds_toArray, List.set_cons_zero, List.set_cons_succ] at ha'
      subst ha'
      refine AnyD.next (m := 17) (i := 3) (d := some 41) (v := .pointer (some ⟨b, 0, none⟩)) [14, 4, 3] rfl rfl (by kernel_rfl) (by kernel_rfl) (by kernel_rfl) (by kernel_rfl) (by kernel_rfl) (fun k => StepsIf.yield (by kernel_rfl) (fun w' hS => by clear hS; go_simp)) ?_
      intro a' ha'
      simp only [Act.put, List.setIfInBounds_toArray, List.set_cons_zero, List.set_cons_succ] at ha'
      subst ha'
      refine AnyD.next (m := 17) (i := 4) (d := some 42) (v := .slice avz out.length cvz) [14, 4] rfl rfl (by kernel_rfl) (by kernel_rfl) (by kernel_rfl) (by kernel_rfl) (by kernel_rfl) (fun k => StepsIf.yield (by kernel_rfl) (fun w' hS => by obtain ⟨e0, e1⟩ := HC0.out k w' hS; clear hS; go_simp)) ?_
      intro a' ha'
      simp only [Act.put, List.setIfInBounds_toArray, List.set_cons_zero, List.set_cons_succ] at ha'
      subst ha'
      refine AnyD.next (m := 17) (i := 5) (d := some 43) (v := .pointer (some ⟨b, 0, none⟩)) [14, 13, 12, 9, 8, 7, 6, 5] rfl rfl (by kernel_rfl) (by kernel_rfl) (by kernel_rfl) (by kernel_rfl) (by kernel_rfl) (fun k => StepsIf.yield (by kernel_rfl) (fun w' hS => by clear hS; go_simp)) ?_
      intro a' ha'
      simp only [Act.put, List.setIfInBounds_toArray, List.set_cons_zero, List.set_cons_succ] at ha'
      subst ha'
      refine AnyD.next (m := 17) (i := 6) (d := some 44) (v := .pointer (some ⟨b, 0, none⟩)) [14, 13, 12, 9, 8, 7, 6] rfl rfl (by kernel_rfl) (by kernel_rfl) (by kernel_rfl) (by kernel_rfl) (by kernel_rfl) (fun k => StepsIf.yield (by kernel_rfl) (fun w' hS => by clear hS; go_simp)) ?_
      intro a' ha'
      simp only [Act.put, List.setIfInBounds_toArray, List.set_cons_zero, List.set_cons_succ] at ha'
      subst ha'
      refine AnyD.next (m := 17) (i := 7) (d := some 45) (v := .pointer (some ⟨b, 1, none⟩)) [14, 13, 12, 9, 8, 7] rfl rfl (by kernel_rfl) (by kernel_rfl) (by kernel_rfl) (by kernel_rfl) (by kernel_rfl) (fun k => StepsIf.yield (by kernel_rfl) (fun w' hS => by clear hS; go_simp)) ?_
      intro a' ha'
      simp only [Act.put, List.setIfInBounds_toArray, List.set_cons_zero, List.set_cons_succ] at ha'
      subst ha'
      refine AnyD.next (m := 17) (i := 8) (d := some 46) (v := .slice auz (op.length + 1) cuz) [14, 13, 12, 9, 8] rfl rfl (by kernel_rfl) (by kernel_rfl) (by kernel_rfl) (by kernel_rfl) (by kernel_rfl) (fun k => StepsIf.yield (by kernel_rfl) (fun w' hS => by obtain ⟨e0, e1⟩ := HC0.out k w' hS; clear hS; go_simp)) ?_
      intro a' ha'
      simp only [Act.put, List.setIfInBounds_toArray, List.set_cons_zero, List.set_cons_succ] at ha'
      subst ha'
      refine AnyD.next (m := 17) (i := 9) (d := some 47) (v := .int .i64 ((op.length : Int) + 1)) [14, 13, 12, 9] rfl rfl (by kernel_rfl) (by kernel_rfl) (by kernel_rfl) (by kernel_rfl) (by kernel_rfl) (fun k => StepsIf.yield (by kernel_rfl) (fun w' hS => by clear hS; go_simp)) ?_
      intro a' ha'
      simp only [Act.put, List.setIfInBounds_toArray, List.set_cons_zero, List.set_cons_succ] at ha'
      subst ha'
      refine AnyD.next (m := 17) (i := 10) (d := some 48) (v := .int .i64 (m : Nat)) [14, 13, 12, 10] rfl rfl (by kernel_rfl) (by kernel_rfl) (by kernel_rfl) (by kernel_rfl) (by kernel_rfl) (fun k => StepsIf.yield (by kernel_rfl) (fun w' hS => by clear hS; go_simp)) ?_
      intro a' ha'
      simp only [Act.put, List.setIfInBounds_toArray, List.set_cons_zero, List.set_cons_succ] at ha'
      subst ha'
      refine AnyD.next (m := 17) (i := 11) (d := some 49) (v := .int .i64 (i : Nat)) [14, 13, 12, 11] rfl rfl (by kernel_rfl) (by kernel_rfl) (by kernel_rfl) (by kernel_rfl) (by kernel_rfl) (fun k => StepsIf.yield (by kernel_rfl) (fun w' hS => by clear hS; go_simp)) ?_
      intro a' ha'
      simp only [Act.put, List.setIfInBounds_toArray, List.set_cons_zero, List.set_cons_succ] at ha'
      subst ha'
      refine AnyD.next (m := 17) (i := 12) (d := some 50) (v := .agg (enI ((op.length : Int) + 1) m i 0)) [14, 13, 12] rfl rfl (by kernel_rfl) (by kernel_rfl) (by kernel_rfl) (by kernel_rfl) (by kernel_rfl) (fun k => StepsIf.yield (by kernel_rfl) (fun w' hS => by clear hS; go_simp)) ?_
      intro a' ha'
      simp only [Act.put, List.setIfInBounds_toArray, List.set_cons_zero, List.set_cons_succ] at ha'
      subst ha'
      refine AnyD.turn (m := 17) (i := 13) (d := some 51) (k := 0) (v := .slice (some ⟨wdz.heap.size, 0, none⟩) 1 1) rfl rfl (by kernel_rfl) (by kernel_rfl) (by kernel_rfl) (StepsL.lev rfl rfl (by kernel_rfl) (by go_simp)) ?_
      intro a' ha'
      simp only [Act.put, List.setIfInBounds_toArray, List.set_cons_zero, List.set_cons_succ] at ha'
      subst ha'
      refine AnyD.turn (m := 17) (i := 14) (d := some 52) (k := 1) (v := .slice (some ⟨gz, 0, none⟩) (out.length + 1) capz) rfl rfl (by kernel_rfl) (by kernel_rfl) (by kernel_rfl) (StepsL.lev rfl rfl (by kernel_rfl) (exec_appN rfl rfl rfl HA3.out)) ?_
      intro a' ha'
      simp only [Act.put, List.setIfInBounds_toArray, List.set_cons_zero, List.set_cons_succ] at ha'
      subst ha'
      refine AnyD.next (m := 17) (i := 15) (d := some 53) (v := .pointer (some ⟨b, 0, none⟩)) [16, 15] rfl rfl (by kernel_rfl) (by kernel_rfl) (by kernel_rfl) (by kernel_rfl) (by kernel_rfl) (fun k => StepsIf.yield (by kernel_rfl) (fun w' hS => by clear hS; go_simp)) ?_
      intro a' ha'
      simp only [Act.put, List.setIfInBounds_toArray, List.set_cons_zero, List.set_cons_succ] at ha'
      subst ha'
      refine AnyD.next (m := 17) (i := 16) (d := some 54) (v := .pointer (some ⟨b, 0, none⟩)) [16] rfl rfl (by kernel_rfl) (by kernel_rfl) (by kernel_rfl) (by kernel_rfl) (by kernel_rfl) (fun k => StepsIf.yield (by kernel_rfl) (fun w' hS => by clear hS; go_simp)) ?_
      intro a' ha'
      simp only [Act.put, List.setIfInBounds_toArray, List.set_cons_zero, List.set_cons_succ] at ha'
      subst ha'
      refine AnyD.endC (n := 2) (by kernel_rfl) (by kernel_rfl) (fun w' hS => ?_)
      obtain rfl := hS.is rfl
      refine wpAny_one (i := 17) (o := ⟨none, .store 22 (.tmp 54) (.tmp 52), _, _, _, _⟩) (by kernel_rfl) rfl (by kernel_rfl) ?_
      refine wp_absX (fun K hK => ?_)
      go_simp
      refine hK _ _ ?_
      clear hK K
      refine wpAny_none (P := Try.prog) (by kernel_rfl) ?_
      clear k6 cT HA3 HC0
      generalize w'.setCell ⟨b, 0, none⟩ (.slice (some ⟨gz, 0, none⟩) (out.length + 1) capz) = w4 at *
      go_wp2_with fail
      go_ret
      rw [HO.out]
      exact ⟨⟨rfl, HD3.out⟩, HB3.out⟩
end
end Go.Proofs.Ytooolhekihijlaa

/- Texts put together: Trx Trr. -/
import Derived.Test.YtooolhekihijlaaPQ
import Derived.Test.YtooolhekihijlaaPD
import Derived.BigQuiet
import Derived.Deep.QuietTactic
/- What opens and closes: the state of both walks; the developers' open and shut. Stage 14. -/
namespace Go.Proofs.Ytooolhekihijlaa
open Go.RowKit BS

/-- The entries that are open (the last one first) lie side by side in depth. -/
def depthsOk : List EnN → Prop
  | [] => True
  | x :: r => x.depth = (r.length : Int) + 1 ∧ depthsOk r
/-- Each entry lies at most one deeper than the one ahead. -/
def stepOk : Int → List EnN → Prop
  | _, [] => True
  | p, x :: r => x.depth ≤ p + 1 ∧ 1 ≤ x.depth ∧ stepOk x.depth r
theorem step_forest : ∀ (F : Fo) (d p : Int) (M : List EnN), d ≤ p + 1 → 1 ≤ d → (∀ q, d - 1 ≤ q → stepOk q M) → stepOk p (flF d F ++ M) := by
  intro F
  induction F with
  | nil => intro d p M h1 h2 h3; exact h3 p (by omega)
  | cons n f e ks rest ih1 ih2 =>
    intro d p M h1 h2 h3
    show stepOk p (⟨d, n, f, e⟩ :: (flF (d + 1) ks ++ flF d rest) ++ M)
    rw [List.cons_append]
    refine ⟨h1, h2, ?_⟩
    rw [List.append_assoc]
    exact ih1 (d + 1) d _ (by omega) (by omega) fun q hq => ih2 d q M (by omega) h2 h3
theorem close_len (d : Int) : ∀ st : List EnN, (closeT d st).1.length + (closeT d st).2.length = st.length
  | [] => rfl
  | x :: st => by
    have ih := close_len d st
    unfold closeT
    split
    · simp only [List.length_cons]; omega
    · simp
theorem close_ok {d : Int} : ∀ {st : List EnN}, depthsOk st → depthsOk (closeT d st).2
  | [], h => h
  | x :: st, h => by
    unfold closeT
    split
    · exact close_ok h.2
    · exact h
theorem close_mem {d : Int} : ∀ {st : List EnN} {x}, x ∈ (closeT d st).2 → x ∈ st
  | [], _, h => h
  | y :: st, x, h => by
    unfold closeT at h
    split at h
    · exact List.mem_cons_of_mem _ (close_mem h)
    · exact h
/-- How many stay open. -/
theorem close_left {d : Int} (hd : 1 ≤ d) : ∀ {st : List EnN}, depthsOk st → d ≤ st.length + 1 → ((closeT d st).2.length : Int) = d - 1
  | [], _, h => by simp at h; simp [closeT]; omega
  | x :: st, hok, h => by
    unfold closeT
    rw [hok.1]
    split
    · exact close_left hd hok.2 (by omega)
    · simp at h ⊢; omega
theorem close_one : ∀ {st : List EnN}, depthsOk st → closeT 1 st = closeT 0 st
  | [], _ => rfl
  | x :: st, h => by
    unfold closeT
    rw [if_pos (by rw [h.1]; omega), if_pos (by rw [h.1]; omega), close_one h.2]
theorem row_push (ev : List (Int × Int)) (p : Nat) (z : Int) (y : Nat) : rowF (ev ++ [((p : Int), z)]) y = if y = p then rowF ev p ++ [z] else rowF ev y := by
  rw [rowF_app]
  by_cases h : y = p
  · subst h
    rw [if_pos rfl]
    congr 1
    simp [rowF]
  · rw [if_neg h]
    have : rowF [((p : Int), z)] y = [] := by
      unfold rowF
      rw [List.filter_cons_of_neg (by simpa using fun e => h (by omega))]
      rfl
    rw [this, List.append_nil]
theorem row_len (ev : List (Int × Int)) (y : Nat) : (rowF ev y).length ≤ ev.length := by
  unfold rowF
  rw [List.length_map]
  exact List.length_filter_le _ _
/-- The state: rows by places, and a row of those that are open. -/
structure FrS (base n T : Nat) (S : Nat → Prop) (ev : List (Int × Int)) (st : List EnN) (v : Value) (W : World) : Prop where
  rows : RowsI base n T S (rowF ev) W
  ow : OwE base v st.reverse W
  ap : ∀ g, v.ownBlock = some g → ¬ S g
  bnd : ∀ x ∈ st, ∃ p q : Nat, x.to = p ∧ p < n ∧ x.node = q ∧ q ≤ 100000
section
variable {base n T : Nat} {S : Nat → Prop} {ev : List (Int × Int)} {st : List EnN} {v : Value} {W W' : World}
theorem FrS.below (h : FrS base n T S ev st v W) (hb : Below W.heap.size W W') : FrS base n T S ev st v W' :=
  ⟨h.rows.below hb, h.ow.below hb, h.ap, h.bnd⟩
/-- A step more at place p. -/
theorem FrS.push (h : FrS base n T S ev st v W) (p : Nat) (hp : p < n) (hlen : ev.length ≤ 1000000) (z : Int) (ty : TypeId) :
    ∃ a c g cap W2, W.cell? ⟨T, p, none⟩ = some (.slice a (rowF ev p).length c) ∧
      (Builtin.append_ #[35, 35] ty #[.slice a (rowF ev p).length c, .slice (some ⟨W.heap.size, 0, none⟩) 1 1]).run Try.prog (W.alloc (.cells #[.int .i64 z] 3)) = .ok (.slice (some ⟨g, 0, none⟩) ((rowF ev p).length + 1) cap) W2 ∧
      KpA (fun k => (Value.slice a (rowF ev p).length c).ownBlock = some k) W W2 ∧ KpA (fun k => (Value.slice a (rowF ev p).length c).ownBlock = some k) W (W.alloc (.cells #[.int .i64 z] 3)) ∧
      (∀ k, (Value.slice a (rowF ev p).length c).ownBlock = some k → S k ∧ k ≠ T) ∧ W2.frozen? ⟨T, p, none⟩ = false ∧
      ∃ S' : Nat → Prop, FrS base n T S' (ev ++ [((p : Int), z)]) st v (W2.setCell ⟨T, p, none⟩ (.slice (some ⟨g, 0, none⟩) ((rowF ev p).length + 1) cap)) ∧ (∀ k, S' k → S k ∨ W.heap.size ≤ k) ∧
      KpA S W (W2.setCell ⟨T, p, none⟩ (.slice (some ⟨g, 0, none⟩) ((rowF ev p).length + 1) cap)) := by
  obtain ⟨a, c, g, cap, W2, h1, h2, h3, h4, h5, h6, h7, h8⟩ := h.rows.push p hp (Nat.le_trans (row_len ev p) hlen) z ty
  refine ⟨a, c, g, cap, W2, h1, h2, h3, h4, h5, h6, _, ⟨h7.congr (fun y hy => (row_push ev p z y).symm), ?_, ?_, h.bnd⟩, fun k hk => hk.imp id (fun h => h.1), h8⟩
  · exact h.ow.keep (fun k hk => h8.block k (h.ow.lt hk).2 (h.ap k hk))
  · intro k hk hs
    rcases hs with hs | hs
    · exact h.ap k hk hs
    · have := (h.ow.lt hk).2; omega
/-- The last one that is open is so no more. -/
theorem FrS.drop {x : EnN} {a : Option Addr} {m c : Nat} (h : FrS base n T S ev (x :: st) (.slice a m c) W) (hm : m = st.length + 1) : FrS base n T S ev st (.slice a st.length c) W := by
  refine ⟨h.rows, ?_, fun g hg => ?_, fun y hy => h.bnd y (List.mem_cons_of_mem _ hy)⟩
  · have h2 := h.ow.take (by rw [hm]; simp) st.length (by simp)
    have e : (x :: st).reverse.take st.length = st.reverse := by
      rw [List.reverse_cons, List.take_append_of_le_length (by simp), List.take_of_length_le (by simp)]
    rw [e] at h2
    exact h2
  · refine h.ap g ?_
    cases a with
    | none => cases hg
    | some ad => exact hg
end
theorem wp_absX {P : Program} {o : Oper} {a : Act} {w : World} {K : Act → World → Prop} {Q : Exit → Act → World → Prop} (h : ∀ K' : Act → World → Prop, (∀ a' w', K a' w' → K' a' w') → o.wp P a w K' Q) : o.wp P a w K Q := h K (fun _ _ h => h)
theorem exec_appI {v u v' : Value} {W W' : World} {o : Oper} {a : Act} {s x : Operand} (ho : o.op = .call { callee := .builtin .append, args := #[s, x], argTypes := #[35, 35] }) (hs : a.eval s = v) (hx : a.eval x = u)
    (hr : (Builtin.append_ #[35, 35] o.type #[v, u]).run Try.prog W = .ok v' W') : (execOp a.eval o).run Try.prog W = .ok (.value v') W' := by
  unfold execOp
  simp only [ho, resolve, invoke, builtin, Sem.run_bind, Sem.run_pure, Result.andThen_ok, List.map_toArray, List.map_cons, List.map_nil, hs, hx, hr]
theorem exec_appN {v u v' : Value} {W W' : World} {o : Oper} {a : Act} {s x : Operand} (ho : o.op = .call { callee := .builtin .append, args := #[s, x], argTypes := #[22, 22] }) (hs : a.eval s = v) (hx : a.eval x = u)
    (hr : (Builtin.append_ #[22, 22] o.type #[v, u]).run Try.prog W = .ok v' W') : (execOp a.eval o).run Try.prog W = .ok (.value v') W' := by
  unfold execOp
  simp only [ho, resolve, invoke, builtin, Sem.run_bind, Sem.run_pure, Result.andThen_ok, List.map_toArray, List.map_cons, List.map_nil, hs, hx, hr]
set_option maxRecDepth 100000 in
set_option maxHeartbeats 2000000 in
theorem opens_calls (q : Nat) (hq : q ≤ 1000000) (w : World) : Calls Try.prog 42 #[.int .i64 q] w fun e w' => e = .returned (.int .i64 (2 * (q : Int))) ∧ w = w' := by
  have x1 : IntKind.i64.wrap (2 * (q : Int)) = 2 * (q : Int) := IntWalk.i64_in _ (by omega)
  go_enter Try.func42, Try.ntmps42
  go_wp2_with fail
  go_ret
  exact ⟨rfl, rfl⟩
set_option maxRecDepth 100000 in
set_option maxHeartbeats 2000000 in
theorem closes_calls (q : Nat) (hq : q ≤ 1000000) (w : World) : Calls Try.prog 41 #[.int .i64 q] w fun e w' => e = .returned (.int .i64 (2 * (q : Int) + 1)) ∧ w = w' := by
  have x1 : IntKind.i64.wrap (2 * (q : Int)) = 2 * (q : Int) := IntWalk.i64_in _ (by omega)
  have x2 : IntKind.i64.wrap (2 * (q : Int) + 1) = 2 * (q : Int) + 1 := IntWalk.i64_in _ (by omega)
  go_enter Try.func41, Try.ntmps41
  go_wp2_with fail
  go_ret
  exact ⟨rfl, rfl⟩
set_option maxRecDepth 100000 in
set_option maxHeartbeats 16000000 in
theorem recOpen_calls {base n T : Nat} {S : Nat → Prop} {ev : List (Int × Int)} {st : List EnN} {v : Value} (hev : ev.length ≤ 1000000) (d e : Int) (p q : Nat) (hp : p < n) (hq : q ≤ 100000) (w : World) (h : FrS base n T S ev st v w) :
    Calls Try.prog 26 #[.slice (some ⟨T, 0, none⟩) n n, .agg (enI d q p e)] w fun r w' => r = .returned (.tuple #[]) ∧ ∃ S' : Nat → Prop, FrS base n T S' (ev ++ [((p : Int), 2 * (q : Int))]) st v w' ∧ (∀ k, S' k → S k ∨ w.heap.size ≤ k) ∧ KpA S w w' := by
  have hbd : Below w.heap.size w (w.alloc (.cells (enI d q p e) 44)).drew := ((Below.refl _ _).alloc (Nat.le_refl _) _).drew
  have bE : Blk (w.alloc (.cells (enI d q p e) 44)).drew w.heap.size (enI d q p e) 44 := Blk.new w _ _
  have hsz : (w.alloc (.cells (enI d q p e) 44)).drew.heap.size = w.heap.size + 1 := World.size_alloc _ _
  have hf := h.below hbd
  have hSlt := h.rows.lt
  have hHK := (KpA.refl S w).below hbd
  clear h hbd
  have pI : (p : Int) < (n : Int) := by omega
  have pI0 : (0 : Int) ≤ (p : Int) := by omega
  go_enter Try.func26, Try.ntmps26
  go_upto_region 1 with fail
  have hdw : (w.alloc (.cells #[.int .i64 d, .int .i64 q, .int .i64 p, .int .i64 e] 44)).drew = (w.alloc (.cells (enI d q p e) 44)).drew := rfl
  obtain ⟨w1, hw1⟩ : ∃ w1, w1 = w.alloc (.cells (enI d q p e) 44) := ⟨_, rfl⟩
  rw [← hw1] at hf bE hsz hHK ⊢
  clear hdw
  obtain ⟨w2, hw2⟩ : ∃ w2, w2 = w1.drew := ⟨_, rfl⟩
  rw [← hw2] at hf bE hsz hHK
  have t1 := bE.cell 1; have t2 := bE.cell 2
  simp only [List.getElem?_toArray, List.getElem?_cons_zero, List.getElem?_cons_succ] at t1 t2
  obtain ⟨b, cb, g, cap, W2, k1, k2, k3, k4, k5, k6, S', k7, k8, k9⟩ := hf.push p hp hev (2 * (q : Int)) 35
  have HW2 := Lib.hid k2
  have HKP := Lib.hid (show ∀ k W', lvl [w2, w2.alloc (.cells #[.int .i64 (2 * (q : Int))] 3), W2] k W' → KpA (fun k => (Value.slice b (rowF ev p).length cb).ownBlock = some k) w2 W' from fun k W' hl => by
    have hm := hl.mem
    simp only [List.mem_cons, List.not_mem_nil, or_false] at hm
    rcases hm with rfl | rfl | rfl
    · exact KpA.refl _ _
    · exact k4
    · exact k3)
  have HTC := Lib.hid (show ∀ k W', lvl [w2, w2.alloc (.cells #[.int .i64 (2 * (q : Int))] 3), W2] k W' → W'.cell? ⟨T, p, none⟩ = some (.slice b (rowF ev p).length cb) from fun k W' hl => ((HKP.out k W' hl).cell hf.rows.tl (fun hh => (k5 T hh).2 rfl) p).trans k1)
  have HEC := Lib.hid (show ∀ k W' j, lvl [w2, w2.alloc (.cells #[.int .i64 (2 * (q : Int))] 3), W2] k W' → W'.cell? ⟨w.heap.size, j, none⟩ = w2.cell? ⟨w.heap.size, j, none⟩ from fun k W' j hl => (HKP.out k W' hl).cell bE.lt (fun hh => by have := hSlt _ (k5 _ hh).1; omega) j)
  have HS7 := Lib.hid k7
  have HS8 := Lib.hid k8
  have HS9 := Lib.hid k9
  have fT := k6
  have cT : W2.cell? ⟨T, p, none⟩ = some (.slice b (rowF ev p).length cb) := (k3.cell hf.rows.tl (fun hh => (k5 T hh).2 rfl) p).trans k1
  clear k1 k2 k3 k4 k5 k6 k7 k8 k9 hf HKP
  generalize (rowF ev p).length = len at *
  refine region_stepsD (S := lvl [w2, w2.alloc (.cells #[.int .i64 (2 * (q : Int))] 3), W2]) (m := 14) (n := 14) (k := 0) [11, 12] rfl (by kernel_rfl) (by kernel_rfl) (by rw [← hw2]; rfl) ?_
  simp only [List.size_toArray, List.length_cons, List.length_nil, Nat.reduceAdd, Array.replicate_succ, Array.replicate_zero, List.push_toArray, List.nil_append, List.cons_append]
  refine AnyD.next (m := 14) (i := 0) (d := some 4) (v := .slice (some ⟨T, 0, none⟩) n n) [13, 0] rfl rfl (by kernel_rfl) (by kernel_rfl) (by kernel_rfl) (by kernel_rfl) (by kernel_rfl) (fun k => StepsIf.yield (by kernel_rfl) (fun w' hS => by clear hS; go_simp)) ?_
  intro a' ha'
  simp only [Act.put, List.setIfInBounds_toArray, List.set_cons_zero, List.set_cons_succ] at ha'
  subst ha'
  refine AnyD.stepE (m := 14) (i := 1) (d := some 5) [13, 2, 1] rfl rfl (by kernel_rfl) (by kernel_rfl) (by kernel_rfl) (by kernel_rfl) (by kernel_rfl) ?_
  apply Exists.intro
  apply And.intro
  · intro k
    apply StepsIf.yield
    · kernel_rfl
    intro w' hS
    clear hS; go_simp
    rfl
  intro a' ha'
  simp only [Act.put, List.setIfInBounds_toArray, List.set_cons_zero, List.set_cons_succ] at ha'
  subst ha'
  refine AnyD.next (m := 14) (i := 2) (d := some 6) (v := .int .i64 (p : Nat)) [13, 2] rfl rfl (by kernel_rfl) (by kernel_rfl) (by kernel_rfl) (by kernel_rfl) (by kernel_rfl) (fun k => StepsIf.yield (by kernel_rfl) (fun w' hS => by have e2 := (HEC.out k w' 2 hS).trans t2; clear hS; go_simp)) ?_
  intro a' ha'
  simp only [Act.put, List.setIfInBounds_toArray, List.set_cons_zero, List.set_cons_succ] at ha'
  subst ha'
  refine AnyD.next (m := 14) (i := 3) (d := some 7) (v := .slice (some ⟨T, 0, none⟩) n n) [12, 7, 6, 3] rfl rfl (by kernel_rfl) (by kernel_rfl) (by kernel_rfl) (by kernel_rfl) (by kernel_rfl) (fun k => StepsIf.yield (by kernel_rfl) (fun w' hS => by clear hS; go_simp)) ?_
  intro a' ha'
  simp only [Act.put, List.setIfInBounds_toArray, List.set_cons_zero, List.set_cons_succ] at ha'
  subst ha'
  refine AnyD.stepE (m := 14) (i := 4) (d := some 8) [12, 7, 6, 5, 4] rfl rfl (by kernel_rfl) (by kernel_rfl) (by kernel_rfl) (by kernel_rfl) (by kernel_rfl) ?_
  apply Exists.intro
  apply And.intro
  · intro k
    apply StepsIf.yield
    · kernel_rfl
    intro w' hS
    clear hS; go_simp
    rfl
  intro a' ha'
  simp only [Act.put, List.setIfInBounds_toArray, List.set_cons_zero, List.set_cons_succ] at ha'
  subst ha'
  refine AnyD.next (m := 14) (i := 5) (d := some 9) (v := .int .i64 (p : Nat)) [12, 7, 6, 5] rfl rfl (by kernel_rfl) (by kernel_rfl) (by kernel_rfl) (by kernel_rfl) (by kernel_rfl) (fun k => StepsIf.yield (by kernel_rfl) (fun w' hS => by have e2 := (HEC.out k w' 2 hS).trans t2; clear hS; go_simp)) ?_
  intro a' ha'
  simp only [Act.put, List.setIfInBounds_toArray, List.set_cons_zero, List.set_cons_succ] at ha'
  subst ha'
  refine AnyD.next (m := 14) (i := 6) (d := some 10) (v := .pointer (some ⟨T, p, none⟩)) [12, 7, 6] rfl rfl (by kernel_rfl) (by kernel_rfl) (by kernel_rfl) (by kernel_rfl) (by kernel_rfl) (fun k => StepsIf.yield (by kernel_rfl) (fun w' hS => by clear hS; go_simp)) ?_
  intro a' ha'
  simp only [Act.put, List.setIfInBounds_toArray, List.set_cons_zero, List.set_cons_succ] at ha'
  subst ha'
  refine AnyD.next (m := 14) (i := 7) (d := some 11) (v := .slice b len cb) [12, 7] rfl rfl (by kernel_rfl) (by kernel_rfl) (by kernel_rfl) (by kernel_rfl) (by kernel_rfl) (fun k => StepsIf.yield (by kernel_rfl) (fun w' hS => by have e7 := HTC.out k w' hS; clear hS; go_simp)) ?_
  intro a' ha'
  simp only [Act.put, List.setIfInBounds_toArray, List.set_cons_zero, List.set_cons_succ] at ha'
  subst ha'
  refine AnyD.stepE (m := 14) (i := 8) (d := some 12) [12, 11, 10, 9, 8] rfl rfl (by kernel_rfl) (by kernel_rfl) (by kernel_rfl) (by kernel_rfl) (by kernel_rfl) ?_
  apply Exists.intro
  apply And.intro
  · intro k
    apply StepsIf.yield
    · kernel_rfl
    intro w' hS
    clear hS; go_simp
    rfl
  intro a' ha'
  simp only [Act.put, List.setIfInBounds_toArray, List.set_cons_zero, List.set_cons_succ] at ha'
  subst ha'
  refine AnyD.next (m := 14) (i := 9) (d := some 13) (v := .int .i64 (q : Nat)) [12, 11, 10, 9] rfl rfl (by kernel_rfl) (by kernel_rfl) (by kernel_rfl) (by kernel_rfl) (by kernel_rfl) (fun k => StepsIf.yield (by kernel_rfl) (fun w' hS => by have e1 := (HEC.out k w' 1 hS).trans t1; clear hS; go_simp)) ?_
  intro a' ha'
  simp only [Act.put, List.setIfInBounds_toArray, List.set_cons_zero, List.set_cons_succ] at ha'
  subst ha'
  refine AnyD.next (m := 14) (i := 10) (d := some 14) (v := .int .i64 (2 * (q : Int))) [12, 11, 10] rfl rfl (by kernel_rfl) (by kernel_rfl) (by kernel_rfl) (by kernel_rfl) (by kernel_rfl) (fun k => StepsIf.call (by kernel_rfl) (fun w' hS => by clear hS; go_simp) (fun w' hS => (opens_calls q (by omega) w').mono fun e1 w'' hh => ⟨hh.1, hh.2 ▸ hS⟩)) ?_
  intro a' ha'
  simp only [Act.put, List.setIfInBounds_toArray, List.set_cons_zero, List.set_cons_succ] at ha'
  subst ha'
  refine AnyD.turn (m := 14) (i := 11) (d := some 15) (k := 0) (v := .slice (some ⟨w2.heap.size, 0, none⟩) 1 1) rfl rfl (by kernel_rfl) (by kernel_rfl) (by kernel_rfl) (StepsL.lev rfl rfl (by kernel_rfl) (by go_simp)) ?_
  intro a' ha'
  simp only [Act.put, List.setIfInBounds_toArray, List.set_cons_zero, List.set_cons_succ] at ha'
  subst ha'
  refine AnyD.turn (m := 14) (i := 12) (d := some 16) (k := 1) (v := .slice (some ⟨g, 0, none⟩) (len + 1) cap) rfl rfl (by kernel_rfl) (by kernel_rfl) (by kernel_rfl) (StepsL.lev rfl rfl (by kernel_rfl) (exec_appI rfl rfl rfl HW2.out)) ?_
  intro a' ha'
  simp only [Act.put, List.setIfInBounds_toArray, List.set_cons_zero, List.set_cons_succ] at ha'
  subst ha'
  refine AnyD.next (m := 14) (i := 13) (d := some 17) (v := .pointer (some ⟨T, p, none⟩)) [13] rfl rfl (by kernel_rfl) (by kernel_rfl) (by kernel_rfl) (by kernel_rfl) (by kernel_rfl) (fun k => StepsIf.yield (by kernel_rfl) (fun w' hS => by clear hS; go_simp)) ?_
  intro a' ha'
  simp only [Act.put, List.setIfInBounds_toArray, List.set_cons_zero, List.set_cons_succ] at ha'
  subst ha'
  refine AnyD.endC (n := 2) (by kernel_rfl) (by kernel_rfl) (fun w' hS => ?_)
  obtain rfl := hS.is rfl
  refine wpAny_one (i := 14) (o := ⟨none, .store 35 (.tmp 17) (.tmp 16), _, _, _, _⟩) (by kernel_rfl) rfl (by kernel_rfl) ?_
  refine wp_absX (fun K hK => ?_)
  go_simp
  refine hK _ _ ?_
  clear hK K
  refine wpAny_none (P := Try.prog) (by kernel_rfl) ?_
  go_wp2_with fail
  go_end0
  exact ⟨rfl, S', HS7.out, fun k hk => (HS8.out k hk).imp id (fun h => by omega), hHK.trans HS9.out⟩
theorem kp_chain {A A' : Nat → Prop} {a b c : World} (h : KpA A a b) (k : KpA A' b c) (hA : ∀ x, A' x → A x ∨ a.heap.size ≤ x) : KpA A a c :=
  ⟨k.os.trans h.os, k.tape.trans h.tape, k.output.trans h.output, Nat.le_trans h.size k.size, fun i hi hn => (k.block i (Nat.lt_of_lt_of_le hi h.size) (fun h' => (hA i h').elim hn (fun h2 => by omega))).trans (h.block i hi hn)⟩
def lenF : Value → Nat
  | .slice _ n _ => n
  | _ => 0
theorem close_stop {d : Int} {st : List EnN} (hok : depthsOk st) (h : ¬ d ≤ (st.length : Int)) : closeT d st = ([], st) := by
  cases st with
  | nil => rfl
  | cons x r =>
    unfold closeT
    rw [hok.1, if_neg (by simpa using h)]
theorem close_go {d : Int} {x : EnN} {r : List EnN} (hok : depthsOk (x :: r)) (h : d ≤ ((x :: r).length : Int)) : closeT d (x :: r) = ((x.to, 2 * x.node + 1) :: (closeT d r).1, (closeT d r).2) := by
  rw [closeT, hok.1, if_pos (by simpa using h)]
theorem rev_top (x : EnN) (r : List EnN) (h : r.length < (x :: r).reverse.length) : (x :: r).reverse[r.length] = x := by
  simp only [List.reverse_cons]
  rw [List.getElem_append_right (by simp)]
  simp
set_option maxRecDepth 100000 in
set_option maxHeartbeats 32000000 in
theorem shut_calls {base n T : Nat} {S : Nat → Prop} {ev : List (Int × Int)} {st : List EnN} (a0 : Option Addr) (c0 : Nat) (d : Int) (hd : 1 ≤ d) (hok : depthsOk st) (hlen : ev.length + st.length ≤ 100000) (w : World) (h : FrS base n T S ev st (.slice a0 st.length c0) w) :
    Calls Try.prog 25 #[.slice (some ⟨T, 0, none⟩) n n, .slice a0 st.length c0, .int .i64 d] w fun e w' => ∃ (S' : Nat → Prop), e = .returned (.slice a0 (closeT d st).2.length c0) ∧ FrS base n T S' (ev ++ (closeT d st).1) (closeT d st).2 (.slice a0 (closeT d st).2.length c0) w' ∧ (∀ k, S' k → S k ∨ w.heap.size ≤ k) ∧ KpA S w w' := by
  obtain ⟨EV, hEV⟩ : ∃ EV, EV = ev ++ (closeT d st).1 := ⟨_, rfl⟩
  obtain ⟨ST, hST⟩ : ∃ ST, ST = (closeT d st).2 := ⟨_, rfl⟩
  rw [← hEV, ← hST]
  have hSlt0 := h.rows.lt
  have HF0 := Lib.hid h
  clear h
  go_enter Try.func25, Try.ntmps25
  go_wp2_with fail
  go_loopw [1] (fun vo wr => ∃ (S' : Nat → Prop) (ev' : List (Int × Int)) (st' : List EnN), vo = .slice a0 st'.length c0 ∧ FrS base n T S' ev' st' (.slice a0 st'.length c0) wr ∧ depthsOk st' ∧ EV = ev' ++ (closeT d st').1 ∧ ST = (closeT d st').2 ∧ ev'.length + st'.length ≤ 100000 ∧ (∀ k, S' k → S k ∨ w.heap.size ≤ k) ∧ KpA S w wr) (fun vo _ => lenF vo)
  case atStart => exact ⟨S, ev, st, rfl, HF0.out, hok, hEV, hST, hlen, fun k h => .inl h, KpA.refl _ _⟩
  case round =>
    clear HF0 hok hEV hST hlen
    obtain ⟨S1, ev1, st1, rfl, hf0, hok, hEV, hST, hlen, hS1, hK⟩ := hrel
    by_cases hlt : d ≤ (st1.length : Int)
    · obtain ⟨x, r, rfl⟩ : ∃ x r, st1 = x :: r := by
        cases st1 with
        | nil => simp at hlt; omega
        | cons x r => exact ⟨x, r, rfl⟩
      rw [close_go hok hlt] at hEV hST
      simp only at hEV hST
      obtain ⟨p, q, hp1, hp, hq1, hq⟩ := hf0.bnd x (List.mem_cons_self ..)
      have hok2 := hok.2
      obtain ⟨xd, xn, xf, xt⟩ := x
      simp only at hp1 hq1
      subst hp1 hq1
      simp only at hEV
      have hev : ev1.length ≤ 1000000 := by omega
      have p1 : decide (d ≤ (((⟨xd, q, xf, p⟩ : EnN) :: r).length : Int)) = true := decide_eq_true hlt
      have lc : (((⟨xd, q, xf, p⟩ : EnN) :: r).length : Int) = (r.length : Int) + 1 := by simp
      have lc2 : ((⟨xd, q, xf, p⟩ : EnN) :: r).length = r.length + 1 := rfl
      rw [lc] at p1 hlt
      rw [lc2] at hf0 hlen
      have xs : IntKind.i64.wrap ((r.length : Int) + 1 - 1) = (r.length : Int) := by rw [show (r.length : Int) + 1 - 1 = (r.length : Int) by omega]; exact IntWalk.i64_in _ (by omega)
      obtain ⟨g0, c1, e, _, hg0, hcap⟩ := hf0.ow.blk (by simp)
      rw [List.length_reverse, lc2] at e hcap
      cases e
      obtain ⟨g1, o1, e, _, hc⟩ := hf0.ow.ents (by simp)
      cases e
      have hl0 : r.length < ((⟨xd, q, xf, p⟩ : EnN) :: r).reverse.length := by simp
      have dd := fun (j : Nat) (hj : j < 4) => hc r.length hl0 j hj
      rw [rev_top] at dd
      have d0 := dd 0 (by decide); have d1 := dd 1 (by decide); have d2 := dd 2 (by decide); have d3 := dd 3 (by decide)
      simp only [enA, List.getElem?_toArray, List.getElem?_cons_zero, List.getElem?_cons_succ, Nat.zero_add, Nat.add_zero] at d0 d1 d2 d3
      have pI : (p : Int) < (n : Int) := by omega
      have pI0 : (0 : Int) ≤ (p : Int) := by omega
      have rI : (r.length : Int) < (r.length : Int) + 1 := by omega
      have hbd : Below wr.heap.size wr (wr.alloc (.cells (enI xd q xf p) 44)).drew := ((Below.refl _ _).alloc (Nat.le_refl _) _).drew
      have bE : Blk (wr.alloc (.cells (enI xd q xf p) 44)).drew wr.heap.size (enI xd q xf p) 44 := Blk.new wr _ _
      have hsz : (wr.alloc (.cells (enI xd q xf p) 44)).drew.heap.size = wr.heap.size + 1 := World.size_alloc _ _
      have hf := hf0.below hbd
      have hSlt := hf0.rows.lt
      have hKd := hK.below hbd
      clear dd hc hbd
      go_upto_region 3 with fail
      clear d0 d1 d2 d3 hf0
      obtain ⟨w1, hw1⟩ : ∃ w1, w1 = wr.alloc (.cells (enI xd q xf p) 44) := ⟨_, rfl⟩
      rw [← hw1] at hf bE hsz hKd ⊢
      obtain ⟨w2, hw2⟩ : ∃ w2, w2 = w1.drew := ⟨_, rfl⟩
      rw [← hw2] at hf bE hsz hKd
      have hw1s : w1.heap.size = wr.heap.size + 1 := by rw [hw1, World.size_alloc]
      have t1 := bE.cell 1; have t3 := bE.cell 3
      simp only [List.getElem?_toArray, List.getElem?_cons_zero, List.getElem?_cons_succ] at t1 t3
      obtain ⟨b, cb, g, cap, W2, k1, k2, k3, k4, k5, k6, S2, k7, k8, k9⟩ := hf.push p hp hev (2 * (q : Int) + 1) 35
      have HW2 := Lib.hid k2
      have HKP := Lib.hid (show ∀ k W', lvl [w2, w2.alloc (.cells #[.int .i64 (2 * (q : Int) + 1)] 3), W2] k W' → KpA (fun k => (Value.slice b (rowF ev1 p).length cb).ownBlock = some k) w2 W' from fun k W' hl => by
        have hm := hl.mem
        simp only [List.mem_cons, List.not_mem_nil, or_false] at hm
        rcases hm with rfl | rfl | rfl
        · exact KpA.refl _ _
        · exact k4
        · exact k3)
      have HTC := Lib.hid (show ∀ k W', lvl [w2, w2.alloc (.cells #[.int .i64 (2 * (q : Int) + 1)] 3), W2] k W' → W'.cell? ⟨T, p, none⟩ = some (.slice b (rowF ev1 p).length cb) from fun k W' hl => ((HKP.out k W' hl).cell hf.rows.tl (fun hh => (k5 T hh).2 rfl) p).trans k1)
      have HEC := Lib.hid (show ∀ k W' j, lvl [w2, w2.alloc (.cells #[.int .i64 (2 * (q : Int) + 1)] 3), W2] k W' → W'.cell? ⟨wr.heap.size, j, none⟩ = w2.cell? ⟨wr.heap.size, j, none⟩ from fun k W' j hl => (HKP.out k W' hl).cell bE.lt (fun hh => by have := hSlt _ (k5 _ hh).1; omega) j)
      have HS7 := Lib.hid k7
      have HS8 := Lib.hid k8
      have HS9 := Lib.hid k9
      have fT := k6
      have cT : W2.cell? ⟨T, p, none⟩ = some (.slice b (rowF ev1 p).length cb) := (k3.cell hf.rows.tl (fun hh => (k5 T hh).2 rfl) p).trans k1
      clear k1 k2 k3 k4 k5 k6 k7 k8 k9 hf HKP
      generalize (rowF ev1 p).length = len at *
      refine region_stepsD (S := lvl [w2, w2.alloc (.cells #[.int .i64 (2 * (q : Int) + 1)] 3), W2]) (m := 14) (n := 14) (k := 0) [11, 12] rfl (by kernel_rfl) (by kernel_rfl) (by rw [← hw2]; rfl) ?_
      simp only [List.size_toArray, List.length_cons, List.length_nil, Nat.reduceAdd, Array.replicate_succ, Array.replicate_zero, List.push_toArray, List.nil_append, List.cons_append]
      refine AnyD.next (m := 14) (i := 0) (d := some 18) (v := .slice (some ⟨T, 0, none⟩) n n) [13, 0] rfl rfl (by kernel_rfl) (by kernel_rfl) (by kernel_rfl) (by kernel_rfl) (by kernel_rfl) (fun k => StepsIf.yield (by kernel_rfl) (fun w' hS => by clear hS; go_simp)) ?_
      intro a' ha'
      simp only [Act.put, List.setIfInBounds_toArray, List.set_cons_zero, List.set_cons_succ] at ha'
      subst ha'
      refine AnyD.stepE (m := 14) (i := 1) (d := some 19) [13, 2, 1] rfl rfl (by kernel_rfl) (by kernel_rfl) (by kernel_rfl) (by kernel_rfl) (by kernel_rfl) ?_
      apply Exists.intro
      apply And.intro
      · intro k
        apply StepsIf.yield
        · kernel_rfl
        intro w' hS
        clear hS; go_simp
        rfl
      intro a' ha'
      simp only [Act.put, List.setIfInBounds_toArray, List.set_cons_zero, List.set_cons_succ] at ha'
      subst ha'
      refine AnyD.next (m := 14) (i := 2) (d := some 20) (v := .int .i64 (p : Nat)) [13, 2] rfl rfl (by kernel_rfl) (by kernel_rfl) (by kernel_rfl) (by kernel_rfl) (by kernel_rfl) (fun k => StepsIf.yield (by kernel_rfl) (fun w' hS => by have e3 := (HEC.out k w' 3 hS).trans t3; clear hS; go_simp)) ?_
      intro a' ha'
      simp only [Act.put, List.setIfInBounds_toArray, List.set_cons_zero, List.set_cons_succ] at ha'
      subst ha'
      refine AnyD.next (m := 14) (i := 3) (d := some 21) (v := .slice (some ⟨T, 0, none⟩) n n) [12, 7, 6, 3] rfl rfl (by kernel_rfl) (by kernel_rfl) (by kernel_rfl) (by kernel_rfl) (by kernel_rfl) (fun k => StepsIf.yield (by kernel_rfl) (fun w' hS => by clear hS; go_simp)) ?_
      intro a' ha'
      simp only [Act.put, List.setIfInBounds_toArray, List.set_cons_zero, List.set_cons_succ] at ha'
      subst ha'
      refine AnyD.stepE (m := 14) (i := 4) (d := some 22) [12, 7, 6, 5, 4] rfl rfl (by kernel_rfl) (by kernel_rfl) (by kernel_rfl) (by kernel_rfl) (by kernel_rfl) ?_
      apply Exists.intro
      apply And.intro
      · intro k
        apply StepsIf.yield
        · kernel_rfl
        intro w' hS
        clear hS; go_simp
        rfl
      intro a' ha'
      simp only [Act.put, List.setIfInBounds_toArray, List.set_cons_zero, List.set_cons_succ] at ha'
      subst ha'
      refine AnyD.next (m := 14) (i := 5) (d := some 23) (v := .int .i64 (p : Nat)) [12, 7, 6, 5] rfl rfl (by kernel_rfl) (by kernel_rfl) (by kernel_rfl) (by kernel_rfl) (by kernel_rfl) (fun k => StepsIf.yield (by kernel_rfl) (fun w' hS => by have e3 := (HEC.out k w' 3 hS).trans t3; clear hS; go_simp)) ?_
      intro a' ha'
      simp only [Act.put, List.setIfInBounds_toArray, List.set_cons_zero, List.set_cons_succ] at ha'
      subst ha'
      refine AnyD.next (m := 14) (i := 6) (d := some 24) (v := .pointer (some ⟨T, p, none⟩)) [12, 7, 6] rfl rfl (by kernel_rfl) (by kernel_rfl) (by kernel_rfl) (by kernel_rfl) (by kernel_rfl) (fun k => StepsIf.yield (by kernel_rfl) (fun w' hS => by clear hS; go_simp)) ?_
      intro a' ha'
      simp only [Act.put, List.setIfInBounds_toArray, List.set_cons_zero, List.set_cons_succ] at ha'
      subst ha'
      refine AnyD.next (m := 14) (i := 7) (d := some 25) (v := .slice b len cb) [12, 7] rfl rfl (by kernel_rfl) (by kernel_rfl) (by kernel_rfl) (by kernel_rfl) (by kernel_rfl) (fun k => StepsIf.yield (by kernel_rfl) (fun w' hS => by have e7 := HTC.out k w' hS; clear hS; go_simp)) ?_
      intro a' ha'
      simp only [Act.put, List.setIfInBounds_toArray, List.set_cons_zero, List.set_cons_succ] at ha'
      subst ha'
      refine AnyD.stepE (m := 14) (i := 8) (d := some 26) [12, 11, 10, 9, 8] rfl rfl (by kernel_rfl) (by kernel_rfl) (by kernel_rfl) (by kernel_rfl) (by kernel_rfl) ?_
      apply Exists.intro
      apply And.intro
      · intro k
        apply StepsIf.yield
        · kernel_rfl
        intro w' hS
        clear hS; go_simp
        rfl
      intro a' ha'
      simp only [Act.put, List.setIfInBounds_toArray, List.set_cons_zero, List.set_cons_succ] at ha'
      subst ha'
      refine AnyD.next (m := 14) (i := 9) (d := some 27) (v := .int .i64 (q : Nat)) [12, 11, 10, 9] rfl rfl (by kernel_rfl) (by kernel_rfl) (by kernel_rfl) (by kernel_rfl) (by kernel_rfl) (fun k => StepsIf.yield (by kernel_rfl) (fun w' hS => by have e1 := (HEC.out k w' 1 hS).trans t1; clear hS; go_simp)) ?_
      intro a' ha'
      simp only [Act.put, List.setIfInBounds_toArray, List.set_cons_zero, List.set_cons_succ] at ha'
      subst ha'
      refine AnyD.next (m := 14) (i := 10) (d := some 28) (v := .int .i64 (2 * (q : Int) + 1)) [12, 11, 10] rfl rfl (by kernel_rfl) (by kernel_rfl) (by kernel_rfl) (by kernel_rfl) (by kernel_rfl) (fun k => StepsIf.call (by kernel_rfl) (fun w' hS => by clear hS; go_simp) (fun w' hS => (closes_calls q (by omega) w').mono fun e1 w'' hh => ⟨hh.1, hh.2 ▸ hS⟩)) ?_
      intro a' ha'
      simp only [Act.put, List.setIfInBounds_toArray, List.set_cons_zero, List.set_cons_succ] at ha'
      subst ha'
      refine AnyD.turn (m := 14) (i := 11) (d := some 29) (k := 0) (v := .slice (some ⟨w2.heap.size, 0, none⟩) 1 1) rfl rfl (by kernel_rfl) (by kernel_rfl) (by kernel_rfl) (StepsL.lev rfl rfl (by kernel_rfl) (by go_simp)) ?_
      intro a' ha'
      simp only [Act.put, List.setIfInBounds_toArray, List.set_cons_zero, List.set_cons_succ] at ha'
      subst ha'
      refine AnyD.turn (m := 14) (i := 12) (d := some 30) (k := 1) (v := .slice (some ⟨g, 0, none⟩) (len + 1) cap) rfl rfl (by kernel_rfl) (by kernel_rfl) (by kernel_rfl) (StepsL.lev rfl rfl (by kernel_rfl) (exec_appI rfl rfl rfl HW2.out)) ?_
      intro a' ha'
      simp only [Act.put, List.setIfInBounds_toArray, List.set_cons_zero, List.set_cons_succ] at ha'
      subst ha'
      refine AnyD.next (m := 14) (i := 13) (d := some 31) (v := .pointer (some ⟨T, p, none⟩)) [13] rfl rfl (by kernel_rfl) (by kernel_rfl) (by kernel_rfl) (by kernel_rfl) (by kernel_rfl) (fun k => StepsIf.yield (by kernel_rfl) (fun w' hS => by clear hS; go_simp)) ?_
      intro a' ha'
      simp only [Act.put, List.setIfInBounds_toArray, List.set_cons_zero, List.set_cons_succ] at ha'
      subst ha'
      refine AnyD.endC (n := 2) (by kernel_rfl) (by kernel_rfl) (fun w' hS => ?_)
      obtain rfl := hS.is rfl
      refine wpAny_one (i := 14) (o := ⟨none, .store 35 (.tmp 31) (.tmp 30), _, _, _, _⟩) (by kernel_rfl) rfl (by kernel_rfl) ?_
      refine wp_absX (fun K hK => ?_)
      go_simp
      refine hK _ _ ?_
      clear hK K
      refine wpAny_none (P := Try.prog) (by kernel_rfl) ?_
      have hdr := HS7.out.drop (by simp)
      have HDR := Lib.hid hdr
      have HS10 := Lib.hid (kp_chain hKd HS9.out hS1)
      have hsz2 : w.heap.size ≤ wr.heap.size := hK.size
      clear hdr cT fT t1 t3 bE
      generalize w'.setCell ⟨T, p, none⟩ (.slice (some ⟨g, 0, none⟩) (len + 1) cap) = w9 at *
      go_wp2_with fail
      go_roundw
      case rel =>
        refine ⟨S2, ev1 ++ [((p : Int), 2 * (q : Int) + 1)], r, rfl, HDR.out, hok2, by rw [hEV, List.append_assoc]; rfl, hST, by rw [List.length_append, List.length_singleton]; omega, fun k hk => ?_, HS10.out⟩
        rcases HS8.out k hk with h9 | h9
        · exact hS1 k h9
        · exact .inr (by omega)
      case measure => simp [lenF]
    · have hcs := close_stop hok hlt
      rw [hcs] at hEV hST
      simp only [List.append_nil] at hEV
      subst hEV hST
      have p1 : decide (d ≤ (ST.length : Int)) = false := decide_eq_false hlt
      have HF1 := Lib.hid hf0
      have HK1 := Lib.hid hK
      have HS1 := Lib.hid hS1
      clear hf0 hcs hK hS1
      go_wp2_with fail
      go_ret
      exact ⟨rfl, S1, HF1.out, HS1.out, HK1.out⟩
end Go.Proofs.Ytooolhekihijlaa

/- How the developers read a parse tree, plainly: it is the document's. Stage 14. -/
namespace Go.Proofs.Ytooolhekihijlaa
open Go.RowKit

/-- The kids of a Star, as long as something is left. -/
def agF (rd : Nat → Nat → Option (Nat × Nat)) (e : Int) : Nat → Nat → Nat → Option (Nat × Nat)
  | 0, _, _ => none
  | m + 1, i, at_ => if (at_ : Int) < e then (rd i at_).bind fun r => if r.1 = at_ then none else agF rd e m r.2 r.1 else some (at_, i)
/-- Which part of an Alt. -/
def chF (x : NdN) (t : List EnN) (i : Nat) : Nat := if i < t.length ∧ (atE t i).node = x.n then x.n.toNat else x.kids.toNat
/-- The kids of a node of depth d, from f on, that is said to end at e. -/
def kdD (rd : Nat → Int → Nat → Nat → Option (Nat × Nat)) (x : NdN) (w : List Nat) (t : List EnN) (i : Nat) (d : Int) (f : Nat) (e : Int) : Option (Nat × Nat) :=
  if x.kind = 2 then (if f < w.length ∧ x.set.getLsbD (w.getD f 0) = true then some (f + 1, i) else none)
  else if x.kind = 3 then (rd i (d + 1) x.kids.toNat f).bind fun r => rd r.2 (d + 1) x.n.toNat r.1
  else if x.kind = 4 then rd i (d + 1) (chF x t i) f
  else if x.kind = 5 then agF (fun i at_ => rd i (d + 1) x.kids.toNat at_) e (w.length + 1) i f
  else if x.kind = 6 then (if e = f then some (f, i) else rd i (d + 1) x.kids.toNat f)
  else if x.kind = 7 ∨ x.kind = 8 then rd i (d + 1) x.kids.toNat f
  else some (f, i)
def rdF (l : List NdN) (w : List Nat) (t : List EnN) : Nat → Nat → Int → Nat → Nat → Option (Nat × Nat)
  | 0, _, _, _, _ => none
  | k + 1, i, d, n, f =>
    if i < t.length ∧ (atE t i).depth = d ∧ (atE t i).node = n ∧ (atE t i).from_ = f then
      (kdD (rdF l w t k) (ndE l n) w t (i + 1) d f (atE t i).to).bind fun r => if (r.1 : Int) = (atE t i).to then some r else none
    else none
section
variable {l : List NdN} {w : List Nat} {t : List EnN}
theorem ent_guard {k i : Nat} {want : EnN} {j : Nat} (h : entF l w t k i want = some j) : i < t.length ∧ atE t i = want ∧ 0 ≤ want.from_ ∧ want.from_ ≤ want.to ∧ want.to ≤ (w.length : Int) := by
  cases k with
  | zero => cases h
  | succ k =>
    unfold entF at h
    split at h
    · assumption
    · cases h
/-- What reading a node answers, and the document's entry of it. -/
def RdIff (l : List NdN) (w : List Nat) (t : List EnN) (k : Nat) : Prop := ∀ i d (n f e j : Nat), n < k → n < l.length → f ≤ w.length →
  (rdF l w t k i d n f = some (e, j) ↔ i < t.length ∧ (atE t i).to = (e : Int) ∧ entF l w t k i ⟨d, n, f, e⟩ = some j)
theorem ag_iff {k : Nat} (ih : RdIff l w t k) (p : Nat) (hp : p < k) (hpl : p < l.length) (d : Int) (e : Nat) (he : e ≤ w.length) (j : Nat) : ∀ m mk i (at_ : Nat), at_ ≤ e → w.length < m + at_ → e - at_ ≤ mk →
    (agF (fun i at_ => rdF l w t k i d p at_) e m i at_ = some (e, j) ↔ kidsF (entF l w t k) t p d e mk i at_ = some j) := by
  intro m
  induction m with
  | zero => intro mk i at_ h1 h2; omega
  | succ m ihm =>
    intro mk i at_ h1 h2 h3
    by_cases hlt : at_ < e
    · have hltI : (at_ : Int) < (e : Int) := by omega
      obtain ⟨mk', rfl⟩ : ∃ q, mk = q + 1 := ⟨mk - 1, by omega⟩
      rw [agF, if_pos hltI, kidsF, if_pos hltI]
      constructor
      · intro h
        cases hr : rdF l w t k i d p at_ with
        | none => rw [hr] at h; cases h
        | some r =>
          obtain ⟨r1, r2⟩ := r
          rw [hr] at h
          simp only [Option.bind_some] at h
          obtain ⟨q1, q2, q3⟩ := (ih i d p at_ r1 r2 hp hpl (by omega)).1 hr
          have g := ent_guard q3
          simp only at g
          by_cases hne : r1 = at_
          · rw [if_pos hne] at h; cases h
          rw [if_neg hne] at h
          rw [q2, if_pos ⟨q1, by omega⟩, q3]
          simp only [Option.bind_some]
          have hle : r1 ≤ e := by
            rcases Nat.lt_or_ge e r1 with h9 | h9
            · exfalso
              cases m with
              | zero => cases h
              | succ m =>
                rw [agF, if_neg (by omega)] at h
                simp only [Option.some.injEq, Prod.mk.injEq] at h
                omega
            · exact h9
          rw [if_pos (by omega)]
          exact (ihm mk' r2 r1 hle (by omega) (by omega)).1 h
      · intro h
        by_cases hc : i < t.length ∧ (at_ : Int) < (atE t i).to
        · rw [if_pos hc] at h
          cases hr : entF l w t k i ⟨d, p, at_, (atE t i).to⟩ with
          | none => rw [hr] at h; cases h
          | some r2 =>
            rw [hr] at h
            simp only [Option.bind_some] at h
            by_cases hte : (atE t i).to ≤ (e : Int)
            · rw [if_pos hte] at h
              obtain ⟨r1, hr1⟩ : ∃ r1 : Nat, (atE t i).to = r1 := ⟨(atE t i).to.toNat, by omega⟩
              rw [hr1] at hr h hte hc
              have hx := (ih i d p at_ r1 r2 hp hpl (by omega)).2 ⟨hc.1, hr1, hr⟩
              rw [hx]
              simp only [Option.bind_some]
              rw [if_neg (by omega)]
              exact (ihm mk' r2 r1 (by omega) (by omega) (by omega)).2 h
            · rw [if_neg hte] at h; cases h
        · rw [if_neg hc] at h; cases h
    · obtain rfl : at_ = e := by omega
      rw [agF, if_neg (by omega), kids_end (by omega)]
      simp
theorem ag_le {k : Nat} (ih : RdIff l w t k) (p : Nat) (hp : p < k) (hpl : p < l.length) (d T : Int) (e j : Nat) : ∀ m i (at_ : Nat), at_ ≤ w.length →
    agF (fun i at_ => rdF l w t k i d p at_) T m i at_ = some (e, j) → at_ ≤ e ∧ e ≤ w.length := by
  intro m
  induction m with
  | zero => intro i at_ _ h; cases h
  | succ m ihm =>
    intro i at_ h1 h
    rw [agF] at h
    by_cases hlt : (at_ : Int) < T
    · rw [if_pos hlt] at h
      cases hr : rdF l w t k i d p at_ with
      | none => rw [hr] at h; cases h
      | some r =>
        obtain ⟨r1, r2⟩ := r
        rw [hr] at h
        simp only [Option.bind_some] at h
        obtain ⟨q1, q2, q3⟩ := (ih i d p at_ r1 r2 hp hpl h1).1 hr
        have g := ent_guard q3
        simp only at g
        by_cases hne : r1 = at_
        · rw [if_pos hne] at h; cases h
        rw [if_neg hne] at h
        have := ihm r2 r1 (by omega) h
        omega
    · rw [if_neg hlt] at h
      simp only [Option.some.injEq, Prod.mk.injEq] at h
      omega
theorem rd_iff (hP : PartsOk l) : ∀ k, RdIff l w t k
  | 0 => fun i d n f e j h => absurd h (Nat.not_lt_zero _)
  | k + 1 => by
    have ih := rd_iff hP k
    intro i d n f e j hn hnl hf
    obtain ⟨hk1, hk8⟩ := hP.kind n hnl
    have hA := hP.a n hnl
    have hB := hP.b n hnl
    rw [rdF]
    by_cases hg : i < t.length ∧ (atE t i).depth = d ∧ (atE t i).node = n ∧ (atE t i).from_ = f
    · rw [if_pos hg]
      obtain ⟨hi, hd, hnn, hff⟩ := hg
      have hAT : atE t i = ⟨d, n, f, (atE t i).to⟩ := by
        generalize atE t i = x at *
        obtain ⟨x1, x2, x3, x4⟩ := x
        simp only at hd hnn hff
        subst hd hnn hff
        rfl
      generalize (atE t i).to = T at *
      have hE : ∀ b : Prop, (b ↔ (T = (e : Int) ∧ entF l w t (k + 1) i ⟨d, n, f, e⟩ = some j)) → (b ↔ (i < t.length ∧ T = (e : Int) ∧ entF l w t (k + 1) i ⟨d, n, f, e⟩ = some j)) := fun b h => h.trans ⟨fun h => ⟨hi, h⟩, fun h => h.2⟩
      apply hE
      have hS : ∀ X : Option (Nat × Nat), ((X.bind fun r => if (r.1 : Int) = T then some r else none) = some (e, j) ↔ T = (e : Int) ∧ X = some (e, j)) := fun X => by
        cases X with
        | none => simp
        | some r =>
          obtain ⟨r1, r2⟩ := r
          simp only [Option.bind_some]
          by_cases h : (r1 : Int) = T
          · rw [if_pos h]
            simp only [Option.some.injEq, Prod.mk.injEq]
            constructor
            · rintro ⟨rfl, rfl⟩; exact ⟨h.symm, rfl, rfl⟩
            · rintro ⟨_, rfl, rfl⟩; exact ⟨rfl, rfl⟩
          · rw [if_neg h]
            simp only [Option.some.injEq, Prod.mk.injEq]
            constructor
            · intro h; cases h
            · rintro ⟨h1, rfl, rfl⟩; exact absurd h1.symm h
      rw [hS]
      refine and_congr_right fun hT => ?_
      subst hT
      have hEN : entF l w t (k + 1) i ⟨d, n, f, e⟩ = if f ≤ e ∧ e ≤ w.length then
          (if (ndE l n).kind = 1 then (if f = e then some (i + 1) else none)
          else if (ndE l n).kind = 2 then (if e = f + 1 ∧ (ndE l n).set.getLsbD (w.getD f 0) = true then some (i + 1) else none)
          else if (ndE l n).kind = 3 then (if i + 1 < t.length then (entF l w t k (i + 1) ⟨d + 1, (ndE l n).kids, f, (atE t (i + 1)).to⟩).bind fun q => if (atE t (i + 1)).to ≤ (e : Int) then entF l w t k q ⟨d + 1, (ndE l n).n, (atE t (i + 1)).to, e⟩ else none else none)
          else if (ndE l n).kind = 4 then entF l w t k (i + 1) ⟨d + 1, if i + 1 < t.length ∧ (atE t (i + 1)).node = (ndE l n).n then (ndE l n).n else (ndE l n).kids, f, e⟩
          else if (ndE l n).kind = 5 then kidsF (entF l w t k) t (ndE l n).kids (d + 1) e ((e : Int) - f).toNat (i + 1) f
          else if (ndE l n).kind = 6 ∧ (f : Int) = e then some (i + 1)
          else entF l w t k (i + 1) ⟨d + 1, (ndE l n).kids, f, e⟩) else none := by
        rw [entF]
        by_cases hc : f ≤ e ∧ e ≤ w.length
        · rw [if_pos hc, if_pos ⟨hi, hAT, by simp, by simp; omega, by simp; omega⟩]
          simp only [Int.toNat_natCast]
          congr 1
          · by_cases h : f = e
            · rw [if_pos (by omega), if_pos h]
            · rw [if_neg (by omega), if_neg h]
          congr 1
          by_cases h : e = f + 1 ∧ (ndE l n).set.getLsbD (w.getD f 0) = true
          · rw [if_pos h, if_pos ⟨by omega, h.2⟩]
          · rw [if_neg h, if_neg (fun h' => h ⟨by omega, h'.2⟩)]
        · rw [if_neg hc, if_neg (fun h => hc (by simp only at h; omega))]
      rw [hEN]
      generalize ndE l n = x at *
      clear hEN hE hS hAT hd hnn hff
      unfold kdD
      have hone : ∀ q : Nat, q < k → q < l.length → (rdF l w t k (i + 1) (d + 1) q f = some (e, j) ↔ f ≤ e ∧ e ≤ w.length ∧ entF l w t k (i + 1) ⟨d + 1, q, f, e⟩ = some j) := fun q h1 h2 => by
        rw [ih (i + 1) (d + 1) q f e j h1 h2 hf]
        constructor
        · rintro ⟨_, _, h⟩
          have g := ent_guard h
          simp only at g
          exact ⟨by omega, by omega, h⟩
        · rintro ⟨_, _, h⟩
          have g := ent_guard h
          exact ⟨g.1, by rw [g.2.1], h⟩
      have hif : ∀ (Y : Option Nat), ((if f ≤ e ∧ e ≤ w.length then Y else none) = some j ↔ f ≤ e ∧ e ≤ w.length ∧ Y = some j) := fun Y => by
        by_cases h : f ≤ e ∧ e ≤ w.length
        · rw [if_pos h]; exact ⟨fun h' => ⟨h.1, h.2, h'⟩, fun h' => h'.2.2⟩
        · rw [if_neg h]; exact ⟨fun h' => (by cases h'), fun h' => absurd ⟨h'.1, h'.2.1⟩ h⟩
      rw [hif]
      rcases (by omega : x.kind = 1 ∨ x.kind = 2 ∨ x.kind = 3 ∨ x.kind = 4 ∨ x.kind = 5 ∨ x.kind = 6 ∨ x.kind = 7 ∨ x.kind = 8) with hk | hk | hk | hk | hk | hk | hk
      · rw [hk]
        simp only [show ¬ ((1 : Int) = 2) by decide, show ¬ ((1 : Int) = 3) by decide, show ¬ ((1 : Int) = 4) by decide, show ¬ ((1 : Int) = 5) by decide, show ¬ ((1 : Int) = 6) by decide, show ¬ ((1 : Int) = 7 ∨ (1 : Int) = 8) by decide, if_false, if_true, Option.some.injEq, Prod.mk.injEq]
        constructor
        · rintro ⟨rfl, rfl⟩; exact ⟨Nat.le_refl _, hf, by rw [if_pos rfl]⟩
        · rintro ⟨_, _, h⟩
          by_cases he : f = e
          · rw [if_pos he] at h; exact ⟨he, Option.some.inj h⟩
          · rw [if_neg he] at h; cases h
      · rw [hk]
        simp only [show ¬ ((2 : Int) = 1) by decide, if_false, if_true]
        constructor
        · intro h
          by_cases hc : f < w.length ∧ x.set.getLsbD (w.getD f 0) = true
          · rw [if_pos hc] at h
            simp only [Option.some.injEq, Prod.mk.injEq] at h
            exact ⟨by omega, by omega, by rw [if_pos ⟨by omega, hc.2⟩, h.2]⟩
          · rw [if_neg hc] at h; cases h
        · rintro ⟨_, h2, h⟩
          by_cases hc : e = f + 1 ∧ x.set.getLsbD (w.getD f 0) = true
          · rw [if_pos hc] at h
            rw [if_pos ⟨by omega, hc.2⟩, hc.1, Option.some.inj h]
          · rw [if_neg hc] at h; cases h
      · obtain ⟨p, hp1, hp2⟩ := hA (by omega)
        obtain ⟨q, hq1, hq2⟩ := hB (.inl hk)
        rw [hk, hp1, hq1]
        simp only [show ¬ ((3 : Int) = 1) by decide, show ¬ ((3 : Int) = 2) by decide, if_false, if_true, Int.toNat_natCast]
        constructor
        · intro h
          cases hr : rdF l w t k (i + 1) (d + 1) p f with
          | none => rw [hr] at h; cases h
          | some r =>
            obtain ⟨r1, r2⟩ := r
            rw [hr] at h
            simp only [Option.bind_some] at h
            obtain ⟨a1, a2, a3⟩ := (ih _ _ p f r1 r2 (by omega) (by omega) hf).1 hr
            have g := ent_guard a3
            simp only at g
            obtain ⟨b1, b2, b3⟩ := (ih _ _ q r1 e j (by omega) (by omega) (by omega)).1 h
            have g2 := ent_guard b3
            simp only at g2
            refine ⟨by omega, by omega, ?_⟩
            rw [if_pos a1, a2, a3]
            simp only [Option.bind_some]
            rw [if_pos (by omega), b3]
        · rintro ⟨h1, h2, h⟩
          by_cases hlt : i + 1 < t.length
          · rw [if_pos hlt] at h
            cases hr : entF l w t k (i + 1) ⟨d + 1, p, f, (atE t (i + 1)).to⟩ with
            | none => rw [hr] at h; cases h
            | some r2 =>
              rw [hr] at h
              simp only [Option.bind_some] at h
              have g := ent_guard hr
              simp only at g
              obtain ⟨r1, hr1⟩ : ∃ r1 : Nat, (atE t (i + 1)).to = r1 := ⟨(atE t (i + 1)).to.toNat, by omega⟩
              rw [hr1] at hr h g
              by_cases hle : (r1 : Int) ≤ (e : Int)
              · rw [if_pos hle] at h
                rw [(ih _ _ p f r1 r2 (by omega) (by omega) hf).2 ⟨hlt, hr1, hr⟩]
                have g2 := ent_guard h
                simp only [Option.bind_some]
                exact (ih _ _ q r1 e j (by omega) (by omega) (by omega)).2 ⟨g2.1, by rw [g2.2.1], h⟩
              · rw [if_neg hle] at h; cases h
          · rw [if_neg hlt] at h; cases h
      · obtain ⟨p, hp1, hp2⟩ := hA (by omega)
        obtain ⟨q, hq1, hq2⟩ := hB (.inr hk)
        unfold chF
        rw [hk, hp1, hq1]
        simp only [show ¬ ((4 : Int) = 1) by decide, show ¬ ((4 : Int) = 2) by decide, show ¬ ((4 : Int) = 3) by decide, if_false, if_true, Int.toNat_natCast]
        by_cases hc : i + 1 < t.length ∧ (atE t (i + 1)).node = (q : Int)
        · rw [if_pos hc, if_pos hc]
          exact hone q (by omega) (by omega)
        · rw [if_neg hc, if_neg hc]
          exact hone p (by omega) (by omega)
      · obtain ⟨p, hp1, hp2⟩ := hA (by omega)
        rw [hk, hp1]
        simp only [show ¬ ((5 : Int) = 1) by decide, show ¬ ((5 : Int) = 2) by decide, show ¬ ((5 : Int) = 3) by decide, show ¬ ((5 : Int) = 4) by decide, if_false, if_true, Int.toNat_natCast]
        constructor
        · intro h
          obtain ⟨h1, h2⟩ := ag_le ih p (by omega) (by omega) _ _ e j _ _ f hf h
          exact ⟨h1, h2, (ag_iff ih p (by omega) (by omega) (d + 1) e h2 j (w.length + 1) _ _ f h1 (by omega) (by omega)).1 h⟩
        · rintro ⟨h1, h2, h⟩
          exact (ag_iff ih p (by omega) (by omega) (d + 1) e h2 j (w.length + 1) _ _ f h1 (by omega) (by omega)).2 h
      · obtain ⟨p, hp1, hp2⟩ := hA (by omega)
        rw [hk, hp1]
        simp only [show ¬ ((6 : Int) = 1) by decide, show ¬ ((6 : Int) = 2) by decide, show ¬ ((6 : Int) = 3) by decide, show ¬ ((6 : Int) = 4) by decide, show ¬ ((6 : Int) = 5) by decide, if_false, if_true, true_and, Int.toNat_natCast]
        by_cases he : (f : Int) = e
        · rw [if_pos he, if_pos he.symm]
          simp only [Option.some.injEq, Prod.mk.injEq]
          constructor
          · rintro ⟨rfl, rfl⟩; exact ⟨Nat.le_refl _, hf, rfl⟩
          · rintro ⟨_, _, rfl⟩; exact ⟨by omega, rfl⟩
        · rw [if_neg he, if_neg (fun h => he h.symm)]
          exact hone p (by omega) (by omega)
      · have hk' : x.kind = 7 ∨ x.kind = 8 := hk
        obtain ⟨p, hp1, hp2⟩ := hA (by omega)
        rw [hp1, if_neg (by omega), if_neg (by omega), if_neg (by omega), if_neg (by omega), if_neg (by omega), if_pos hk', if_neg (by omega), if_neg (by omega), if_neg (by omega), if_neg (by omega), if_neg (by omega), if_neg (by omega), Int.toNat_natCast]
        exact hone p (by omega) (by omega)
    · rw [if_neg hg]
      constructor
      · intro h; cases h
      · rintro ⟨h1, _, h⟩
        have g := ent_guard h
        exact absurd ⟨h1, by rw [g.2.1], by rw [g.2.1], by rw [g.2.1]⟩ hg
theorem tree_dev (l : List NdN) (w : List Nat) (t : List EnN) (hr : rightT l = true) : treeT l w t = decide (rdF l w t l.length 0 1 (l.length - 1) 0 = some (w.length, t.length)) := by
  have hpos : 0 < l.length := (rightT_q l hr).pos
  unfold treeT
  rw [hr, Bool.true_and, Bool.eq_iff_iff, decide_eq_true_iff, decide_eq_true_iff, rd_iff (parts_ok l hr) l.length 0 1 (l.length - 1) 0 w.length t.length (by omega) (by omega) (Nat.zero_le _), show ((l.length : Int) - 1) = ((l.length - 1 : Nat) : Int) by omega]
  constructor
  · intro h
    have g := ent_guard h
    exact ⟨g.1, by rw [g.2.1], h⟩
  · exact fun h => h.2.2
end
end Go.Proofs.Ytooolhekihijlaa

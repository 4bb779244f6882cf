/- Texts put together: Xh Xi Xn Rb Rm Rc. -/
import Derived.Test.YtdpkhliojbeglaaDoorQM
import Derived.Test.YtdpkhliojbeglaaDoorQO
import Derived.Lib.Hide
import Derived.Test.YtdpkhliojbeglaaDoorQE
import Derived.Laws.OwnMore
import Derived.Laws.AppendOwnNone
import Derived.Deep.RegionLaw
import Derived.Laws.Slices
import Derived.Test.YtdpkhliojbeglaaDoorQB
/- Rows of bytes in memory; the document's better. Stage 12. -/
namespace Go.Proofs.YtdpkhliojbeglaaDoor
open Go.RowKit BS

/-- A row of bytes, as a value. -/
def RowV (L : List Nat) (v : Value) (W : World) : Prop :=
  (v = .slice none 0 0 ∧ L = []) ∨ ∃ g o c, v = .slice (some ⟨g, o, none⟩) L.length c ∧ g < W.heap.size ∧ ∀ i (h : i < L.length), W.cell? ⟨g, o + i, none⟩ = some (.int .u8 (L[i] : Nat))
theorem RowV.below {L : List Nat} {v : Value} {W W' : World} (h : RowV L v W) (hb : Below W.heap.size W W') : RowV L v W' := by
  rcases h with h | ⟨g, o, c, e, hg, hc⟩
  · exact .inl h
  · exact .inr ⟨g, o, c, e, Nat.lt_of_lt_of_le hg hb.size, fun i hi => (hb.cell (p := ⟨g, o + i, none⟩) hg).trans (hc i hi)⟩
theorem RowV.form {L : List Nat} {v : Value} {W : World} (h : RowV L v W) : ∃ a c, v = .slice a L.length c := by
  rcases h with ⟨rfl, rfl⟩ | ⟨g, o, c, rfl, _⟩
  · exact ⟨none, 0, rfl⟩
  · exact ⟨_, c, rfl⟩
theorem RowV.nil (W : World) : RowV [] (.slice none 0 0) W := .inl ⟨rfl, rfl⟩
/-- A row as a text. -/
theorem RowV.text {L : List Nat} {v : Value} {W : World} (h : RowV L v W) : (convert 23 9 v).run Tryd.prog W = .ok (.string (ofT L)) W := by
  rcases h with ⟨rfl, rfl⟩ | ⟨g, o, c, rfl, hg, hc⟩
  · exact run_convert_bytes_nil (P := Tryd.prog) W 23 5 Tryd.underlying23 Tryd.underlying5 0 0 9 Tryd.underlying9
  · rw [← numsT L]
    refine run_convert_bytes_arg (P := Tryd.prog) W 23 5 Tryd.underlying23 Tryd.underlying5 g o L.length c _ (by simp) (fun i hi => ?_) 9 Tryd.underlying9
    rw [hc i hi]
    simp [List.getD_eq_getElem?_getD, List.getElem?_map, List.getElem?_eq_getElem hi]
theorem RowV.one (W : World) (b : Nat) (t : TypeId) : RowV [b] (.slice (some ⟨W.heap.size, 0, none⟩) 1 1) (W.alloc (.cells #[.int .u8 (b : Nat)] t)) :=
  .inr ⟨W.heap.size, 0, 1, rfl, by simp, fun i hi => by
    have hi' : i < 1 := hi
    obtain rfl : i = 0 := by omega
    exact (Blk.new W #[.int .u8 (b : Nat)] t).cell 0⟩
end Go.Proofs.YtdpkhliojbeglaaDoor

/- Rows of bytes of the call's own; append; two tables of rows and of marks. Stage 12. -/
namespace Go.Proofs.YtdpkhliojbeglaaDoor
open Go.RowKit BS

/-- A row of bytes of the call's own. -/
def OwB (base : Nat) (v : Value) (L : List Nat) (W : World) : Prop := W.ownsRow base 5 1 v L.length (L.map fun s => Value.int .u8 (s : Nat))
theorem OwB.below {base : Nat} {v : Value} {L : List Nat} {W W' : World} (h : OwB base v L W) (k : Below W.heap.size W W') : OwB base v L W' :=
  owns_keep h fun g hg => k.block g (World.ownsRow.lt h g hg).2
theorem OwB.nil (W : World) (base : Nat) : OwB base (.slice none 0 0) [] W := World.ownsRow_nil _ _ _ _
theorem OwB.empty (W : World) (base : Nat) (hb : base ≤ W.heap.size) : OwB base (.slice (some ⟨W.heap.size, 0, none⟩) 0 0) [] (W.alloc (.cells #[] 5)) :=
  World.ownsRow_lit W #[] 0 hb (by decide) rfl
theorem OwB.from {b b' : Nat} {v : Value} {L : List Nat} {W : World} (h : OwB b v L W) (hb : b' ≤ b) : OwB b' v L W := by
  refine ⟨h.1, ?_⟩
  rcases h.2 with hn | ⟨g, c, cur, e, h1, h2⟩
  · exact .inl hn
  · exact .inr ⟨g, c, cur, e, Nat.le_trans hb h1, h2⟩
theorem OwB.row {base : Nat} {v : Value} {L : List Nat} {W : World} (h : OwB base v L W) : RowV L v W := by
  have h0 := h
  rcases h.2 with ⟨e, h1⟩ | ⟨g, c, cur, rfl, hb, hg, _⟩
  · exact .inl ⟨e, List.eq_nil_of_length_eq_zero h1⟩
  · refine .inr ⟨g, 0, c, rfl, (Array.getElem?_eq_some_iff.1 hg).1, fun i hi => ?_⟩
    rw [Nat.zero_add]
    refine (World.ownsRow.cellAt h0 i (by omega)).trans ?_
    simp [List.getElem?_eq_getElem hi]
theorem infoU12 : (Tryd.prog.info? 5).map (fun i => (i.zero, i.size, i.bytes)) = some (some (.int .u8 0), 1, 1) := by kernel_rfl
/-- A row of bytes behind one of the call's own. -/
theorem run_app {base : Nat} {v u : Value} {L M : List Nat} {W : World} (h : OwB base v L W) (r : RowV M u W) (hn : L.length + M.length ≤ 100000) (hb : base ≤ W.heap.size) (ty : TypeId) :
    ∃ v' W', (Builtin.append_ #[23, 23] ty #[v, u]).run Tryd.prog W = .ok v' W' ∧ OwB base v' (L ++ M) W' ∧ W.grownBy W' v.ownBlock := by
  obtain ⟨i0, hinf, hzz⟩ := Option.map_eq_some_iff.1 infoU12
  simp only [Prod.mk.injEq] at hzz
  obtain ⟨hz0, hz1, hz2⟩ := hzz
  rcases r with ⟨rfl, rfl⟩ | ⟨g, o, c, rfl, hg, hc⟩
  · refine ⟨v, W, run_append_owned_none (P := Tryd.prog) (w := W) base 23 ty 5 i0 1 Tryd.underlying23 hinf v L.length _ h, by rw [List.append_nil]; exact h, ⟨rfl, rfl, rfl, Nat.le_refl _, fun _ _ _ => rfl⟩⟩
  · obtain ⟨v', w', hr, h2, h3, _⟩ := run_append_own (P := Tryd.prog) W base 23 ty 5 i0 (.int .u8 0) 1 1 Tryd.underlying23 hinf hz0 hz1 hz2 rfl (by decide) v L.length _ h ⟨g, o, none⟩ M.length c (M.map fun s => Value.int .u8 (s : Nat)) (by simp) (fun j x hj => by
      have hlt := (List.getElem?_eq_some_iff.1 hj).1
      rw [List.length_map] at hlt
      have e2 : (⟨g, o, none⟩ : Addr).add j = ⟨g, o + j, none⟩ := by
        unfold Addr.add
        split
        · subst j; rfl
        · rfl
      rw [e2, hc j hlt]
      rw [List.getElem?_map, List.getElem?_eq_getElem hlt] at hj
      exact hj) (fun x hx => by obtain ⟨s, _, rfl⟩ := List.mem_map.1 hx; rfl) (by unfold maxLen; omega) (by omega) hb
    refine ⟨v', w', hr, ?_, h3⟩
    unfold OwB
    rw [List.length_append, List.map_append]
    exact h2
theorem exec_app {v u v' : Value} {W W' : World} {o : Oper} {a : Act} {s x : Operand} (ho : o.op = .call { callee := .builtin .append, args := #[s, x], argTypes := #[23, 23] }) (hs : a.eval s = v) (hx : a.eval x = u)
    (hr : (Builtin.append_ #[23, 23] o.type #[v, u]).run Tryd.prog W = .ok v' W') : (execOp a.eval o).run Tryd.prog W = .ok (.value v') W' := by
  unfold execOp
  simp only [ho, resolve, invoke, builtin, Sem.run_bind, Sem.run_pure, Result.andThen_ok, List.map_toArray, List.map_cons, List.map_nil, hs, hx, hr]
theorem wp_app {base : Nat} {v u : Value} {L M : List Nat} {W : World} {o : Oper} {a : Act} {K : Act → World → Prop} {Q : Exit → Act → World → Prop} (s x : Operand)
    (ho : o.op = .call { callee := .builtin .append, args := #[s, x], argTypes := #[23, 23] }) (hs : a.eval s = v) (hx : a.eval x = u)
    (h : OwB base v L W) (r : RowV M u W) (hn : L.length + M.length ≤ 100000) (hb : base ≤ W.heap.size)
    (H : ∀ v' w', OwB base v' (L ++ M) w' → W.grownBy w' v.ownBlock → K (a.put o.dst v') w') : o.wp Tryd.prog a W K Q := by
  obtain ⟨v', w', hr, h2, h3⟩ := run_app h r hn hb o.type
  unfold Oper.wp execOp
  simp only [ho, resolve, invoke, builtin, Sem.run_bind, Sem.run_pure, Result.andThen_ok, List.map_toArray, List.map_cons, List.map_nil, hs, hx, hr]
  exact H v' w' h2 h3
theorem wpList_app {base : Nat} {v u : Value} {L M : List Nat} {W : World} {ops : Array Oper} {rest : List Oper} {o : Oper} {a : Act} {Q : Exit → Act → World → Prop} (hgd : o.guard = none) (s x : Operand)
    (ho : o.op = .call { callee := .builtin .append, args := #[s, x], argTypes := #[23, 23] }) (hs : a.eval s = v) (hx : a.eval x = u)
    (h : OwB base v L W) (r : RowV M u W) (hn : L.length + M.length ≤ 100000) (hb : base ≤ W.heap.size)
    (H : ∀ v' w', OwB base v' (L ++ M) w' → W.grownBy w' v.ownBlock → wpList Tryd.prog ops Q rest (a.put o.dst v') w') : wpList Tryd.prog ops Q (o :: rest) a W :=
  wpList_plain hgd fun _ hK => wp_app s x ho hs hx h r hn hb fun v' w' h2 h3 => hK _ _ (H v' w' h2 h3)
theorem step_app {base : Nat} {v u : Value} {L M : List Nat} {W : World} {ops : Array Oper} {o : Oper} {a : Act} {K : Act → World → Prop} {Q : Exit → Act → World → Prop} {E : Prop} (hgd : o.guard = none) (s x : Operand)
    (ho : o.op = .call { callee := .builtin .append, args := #[s, x], argTypes := #[23, 23] }) (hs : a.eval s = v) (hx : a.eval x = u)
    (h : OwB base v L W) (r : RowV M u W) (hn : L.length + M.length ≤ 100000) (hb : base ≤ W.heap.size)
    (H : ∀ v' w', OwB base v' (L ++ M) w' → W.grownBy w' v.ownBlock → K (a.put o.dst v') w') : if Region.wanted o (yielded ops a.tmps) = true then Oper.wp Tryd.prog o a W K Q else E := by
  have hw : Region.wanted o (yielded ops a.tmps) = true := by simp [Region.wanted, hgd]
  rw [if_pos hw]
  exact wp_app s x ho hs hx h r hn hb H
theorem set_far (W : World) {T i B x : Nat} (v : Value) (h : T ≠ B ∨ i ≠ x) : (W.setCell ⟨T, i, none⟩ v).cell? ⟨B, x, none⟩ = W.cell? ⟨B, x, none⟩ := by
  apply World.cell?_setCell_other
  intro e
  simp only [Addr.mk.injEq] at e
  rcases h with h | h
  · exact h e.1
  · exact h e.2.1
/-- A store elsewhere changes no row. -/
theorem RowV.set {L : List Nat} {v : Value} {W : World} (h : RowV L v W) {T : Nat} {vs : Array Value} {t : TypeId} (hT : Blk W T vs t) (hv : ∀ x n : Nat, vs[x]? ≠ some (.int .u8 n)) (i : Nat) (u : Value) : RowV L v (W.setCell ⟨T, i, none⟩ u) := by
  rcases h with h | ⟨g, o, c, e, hg, hc⟩
  · exact .inl h
  · refine .inr ⟨g, o, c, e, by simpa using hg, fun j hj => ?_⟩
    have hne : g ≠ T := fun e' => by
      subst e'
      have := hc j hj
      rw [hT.cell] at this
      exact hv _ _ this
    refine Eq.trans ?_ (hc j hj)
    unfold World.cell?
    rw [Below.heap_setCell W ⟨T, i, none⟩ u g hne]
/-- Two tables: of n rows, and of n marks. -/
structure WdS (n T Z : Nat) (fL : Nat → List Nat) (fI : Nat → Bool) (W : World) : Prop where
  ne : T ≠ Z
  row : ∃ vs : Array Value, vs.size = n ∧ (∀ x, x < n → ∃ v, vs[x]? = some v ∧ RowV (fL x) v W) ∧ Blk W T vs 23
  mark : ∃ us : Array Value, us.size = n ∧ (∀ x, x < n → us[x]? = some (.bool (fI x))) ∧ Blk W Z us 4
variable {n T Z : Nat} {fL : Nat → List Nat} {fI : Nat → Bool} {W W' : World}
theorem WdS.below (h : WdS n T Z fL fI W) (hb : Below W.heap.size W W') : WdS n T Z fL fI W' := by
  obtain ⟨vs, h1, h2, h3⟩ := h.row
  obtain ⟨us, k1, k2, k3⟩ := h.mark
  exact ⟨h.ne, ⟨vs, h1, fun x hx => by obtain ⟨v, e, r⟩ := h2 x hx; exact ⟨v, e, r.below hb⟩, h3.below hb h3.lt⟩, us, k1, k2, k3.below hb k3.lt⟩
theorem WdS.congr {fL' : Nat → List Nat} {fI' : Nat → Bool} (h : WdS n T Z fL fI W) (e1 : ∀ x, x < n → fL x = fL' x) (e2 : ∀ x, x < n → fI x = fI' x) : WdS n T Z fL' fI' W := by
  obtain ⟨vs, h1, h2, h3⟩ := h.row
  obtain ⟨us, k1, k2, k3⟩ := h.mark
  exact ⟨h.ne, ⟨vs, h1, fun x hx => by rw [← e1 x hx]; exact h2 x hx, h3⟩, us, k1, fun x hx => by rw [← e2 x hx]; exact k2 x hx, k3⟩
/-- Cell x of the rows. -/
theorem WdS.cell (h : WdS n T Z fL fI W) (x : Nat) (hx : x < n) : ∃ v, W.cell? ⟨T, x, none⟩ = some v ∧ RowV (fL x) v W := by
  obtain ⟨vs, h1, h2, h3⟩ := h.row
  obtain ⟨v, e, r⟩ := h2 x hx
  exact ⟨v, (h3.cell x).trans e, r⟩
theorem WdS.is (h : WdS n T Z fL fI W) (x : Nat) (hx : x < n) : W.cell? ⟨Z, x, none⟩ = some (.bool (fI x)) := by
  obtain ⟨us, k1, k2, k3⟩ := h.mark
  exact (k3.cell x).trans (k2 x hx)
theorem WdS.fr (h : WdS n T Z fL fI W) (x : Nat) : W.frozen? ⟨T, x, none⟩ = false ∧ W.frozen? ⟨Z, x, none⟩ = false := by
  obtain ⟨vs, h1, h2, h3⟩ := h.row
  obtain ⟨us, k1, k2, k3⟩ := h.mark
  exact ⟨h3.frozen x, k3.frozen x⟩
theorem WdS.lt (h : WdS n T Z fL fI W) : T < W.heap.size ∧ Z < W.heap.size := by
  obtain ⟨vs, h1, h2, h3⟩ := h.row
  obtain ⟨us, k1, k2, k3⟩ := h.mark
  exact ⟨h3.lt, k3.lt⟩
theorem RowV.not_u8 {L : List Nat} {v : Value} {W : World} (h : RowV L v W) (m : Nat) : v ≠ .int .u8 m := fun e => by
  obtain ⟨a, c, e'⟩ := h.form
  rw [e'] at e
  cases e
theorem WdS.setI (h : WdS n T Z fL fI W) (i : Nat) (b : Bool) : WdS n T Z fL (fun x => if x = i then b else fI x) (W.setCell ⟨Z, i, none⟩ (.bool b)) := by
  obtain ⟨vs, h1, h2, h3⟩ := h.row
  obtain ⟨us, k1, k2, k3⟩ := h.mark
  refine ⟨h.ne, ⟨vs, h1, fun x hx => ?_, h3.other h.ne i _⟩, us.setIfInBounds i (.bool b), by simp [k1], fun x hx => ?_, k3.set i _⟩
  · obtain ⟨v, e, r⟩ := h2 x hx
    refine ⟨v, e, r.set k3 (fun y m e' => ?_) i _⟩
    have hy : y < n := by
      have := (Array.getElem?_eq_some_iff.1 e').1
      omega
    rw [k2 y hy] at e'
    cases e'
  · show _ = some (Value.bool (if x = i then b else fI x))
    by_cases hxi : x = i
    · subst hxi
      rw [if_pos rfl]
      simp [k1, hx]
    · rw [if_neg hxi, Array.getElem?_setIfInBounds_ne (Ne.symm hxi)]
      exact k2 x hx
theorem WdS.setL (h : WdS n T Z fL fI W) (i : Nat) {v : Value} {L : List Nat} (hv : RowV L v W) : WdS n T Z (fun x => if x = i then L else fL x) fI (W.setCell ⟨T, i, none⟩ v) := by
  obtain ⟨vs, h1, h2, h3⟩ := h.row
  obtain ⟨us, k1, k2, k3⟩ := h.mark
  have hu : ∀ y m : Nat, vs[y]? ≠ some (.int .u8 m) := fun y m e' => by
    have hy : y < n := by
      have := (Array.getElem?_eq_some_iff.1 e').1
      omega
    obtain ⟨v', e, r⟩ := h2 y hy
    rw [e] at e'
    exact r.not_u8 m (Option.some.inj e')
  refine ⟨h.ne, ⟨vs.setIfInBounds i v, by simp [h1], fun x hx => ?_, h3.set i _⟩, us, k1, k2, k3.other (Ne.symm h.ne) i _⟩
  show ∃ v', _ = some v' ∧ RowV (if x = i then L else fL x) v' _
  by_cases hxi : x = i
  · subst hxi
    rw [if_pos rfl]
    exact ⟨v, by simp [h1, hx], hv.set h3 hu _ _⟩
  · rw [if_neg hxi, Array.getElem?_setIfInBounds_ne (Ne.symm hxi)]
    obtain ⟨v', e, r⟩ := h2 x hx
    exact ⟨v', e, r.set h3 hu _ _⟩
end Go.Proofs.YtdpkhliojbeglaaDoor

/- cmp.Compare, cmp.Or, slices.Compare, and the better one of two rows. Stage 12. -/
namespace Go.Proofs.YtdpkhliojbeglaaDoor
open Go.RowKit BS

def cmpI (x y : Int) : Int := if x < y then -1 else if y < x then 1 else 0
def cmpL : List Nat → List Nat → Int
  | [], [] => 0
  | [], _ :: _ => -1
  | _ :: _, [] => 1
  | x :: a, y :: b => if x < y then -1 else if y < x then 1 else cmpL a b
theorem cmpL_pos : ∀ A B : List Nat, 0 < cmpL A B ↔ B < A
  | [], [] => by simp [cmpL]
  | [], _ :: _ => by simp [cmpL]
  | _ :: _, [] => by simp [cmpL]
  | x :: a, y :: b => by
    have ih := cmpL_pos a b
    rw [cmpL, List.cons_lt_cons_iff]
    by_cases h1 : x < y
    · rw [if_pos h1]
      constructor
      · intro h; omega
      · rintro (h | ⟨h, _⟩) <;> omega
    · rw [if_neg h1]
      by_cases h2 : y < x
      · rw [if_pos h2]
        exact ⟨fun _ => .inl h2, fun _ => by omega⟩
      · rw [if_neg h2, ih]
        have e : y = x := by omega
        constructor
        · intro h; exact .inr ⟨e, h⟩
        · rintro (h | ⟨_, h⟩)
          · omega
          · exact h
theorem cmpL_small : ∀ A B : List Nat, cmpL A B = -1 ∨ cmpL A B = 0 ∨ cmpL A B = 1
  | [], [] => by simp [cmpL]
  | [], _ :: _ => by simp [cmpL]
  | _ :: _, [] => by simp [cmpL]
  | x :: a, y :: b => by
    have ih := cmpL_small a b
    rw [cmpL]
    split
    · simp
    · split
      · simp
      · exact ih
theorem cmpL_drop (A B : List Nat) (i : Nat) (h1 : i < A.length) (h2 : i < B.length) : cmpL (A.drop i) (B.drop i) = if cmpI A[i] B[i] = 0 then cmpL (A.drop (i + 1)) (B.drop (i + 1)) else cmpI A[i] B[i] := by
  rw [List.drop_eq_getElem_cons h1, List.drop_eq_getElem_cons h2, cmpL]
  unfold cmpI
  generalize A[i] = x
  generalize B[i] = y
  by_cases h3 : x < y
  · have h3' : (x : Int) < (y : Int) := by omega
    simp [h3]
  · have h3' : ¬ (x : Int) < (y : Int) := by omega
    by_cases h4 : y < x
    · have h4' : (y : Int) < (x : Int) := by omega
      simp [h3, h4]
    · have h4' : ¬ (y : Int) < (x : Int) := by omega
      simp [h3, h4]
theorem orI (x y : Int) : (if x ≠ 0 then x else y) = if x = 0 then y else x := by
  by_cases h : x = 0
  · rw [if_neg (by simpa using h), if_pos h]
  · rw [if_pos h, if_neg h]
/-- Is the second row the better one? -/
theorem btr_or (A B : List Nat) : decide (0 < (if cmpI A.length B.length = 0 then cmpL A B else cmpI A.length B.length)) = btr B A := by
  unfold btr cmpI
  by_cases h1 : A.length < B.length
  · rw [if_pos (show (A.length : Int) < B.length by omega), if_neg (by decide), if_pos (by omega)]
    rw [Bool.eq_iff_iff]
    simp
    omega
  · rw [if_neg (show ¬ (A.length : Int) < B.length by omega)]
    by_cases h2 : B.length < A.length
    · rw [if_pos (show (B.length : Int) < A.length by omega), if_neg (by decide), if_pos (by omega)]
      rw [Bool.eq_iff_iff]
      simp
      omega
    · rw [if_neg (show ¬ (B.length : Int) < A.length by omega), if_pos rfl, if_neg (by omega)]
      rw [Bool.eq_iff_iff, decide_eq_true_iff, decide_eq_true_iff]
      exact cmpL_pos A B
set_option maxRecDepth 100000 in
theorem isNaN_int (x : Int) (w : World) : Calls Tryd.prog 100 #[.int .i64 x] w fun e w' => e = .returned (.bool false) ∧ w = w' := by
  go_enter Tryd.func100, Tryd.ntmps100
  go_wp2_with fail
  go_ret
  exact ⟨by simp, rfl⟩
set_option maxRecDepth 100000 in
theorem isNaN_byte (x : Nat) (w : World) : Calls Tryd.prog 110 #[.int .u8 (x : Nat)] w fun e w' => e = .returned (.bool false) ∧ w = w' := by
  go_enter Tryd.func110, Tryd.ntmps110
  go_wp2_with fail
  go_ret
  exact ⟨by simp, rfl⟩
set_option maxRecDepth 100000 in
set_option maxHeartbeats 4000000 in
theorem cmpI_calls (x y : Int) (w : World) : Calls Tryd.prog 87 #[.int .i64 x, .int .i64 y] w fun e w' => e = .returned (.int .i64 (cmpI x y)) ∧ w = w' := by
  have H1 := Lib.hid (fun x W => isNaN_int x W)
  unfold cmpI
  by_cases h1 : x < y
  · have q1 : decide (x < y) = true := decide_eq_true h1
    rw [if_pos h1]
    clear h1
    go_enter Tryd.func87, Tryd.ntmps87
    go_wp2_with fail
    refine (H1.out _ _).mono ?_
    rintro e w1 ⟨rfl, rfl⟩
    go_wp2_with fail
    refine (H1.out _ _).mono ?_
    rintro e w1 ⟨rfl, rfl⟩
    go_wp2_with fail
    go_ret
    exact ⟨rfl, rfl⟩
  · have q1 : decide (x < y) = false := decide_eq_false h1
    rw [if_neg h1]
    by_cases h2 : y < x
    · have q2 : decide (y < x) = true := decide_eq_true h2
      rw [if_pos h2]
      clear h1 h2
      go_enter Tryd.func87, Tryd.ntmps87
      go_wp2_with fail
      refine (H1.out _ _).mono ?_
      rintro e w1 ⟨rfl, rfl⟩
      go_wp2_with fail
      refine (H1.out _ _).mono ?_
      rintro e w1 ⟨rfl, rfl⟩
      go_wp2_with fail
      go_ret
      exact ⟨rfl, rfl⟩
    · have q2 : decide (y < x) = false := decide_eq_false h2
      rw [if_neg h2]
      clear h1 h2
      go_enter Tryd.func87, Tryd.ntmps87
      go_wp2_with fail
      refine (H1.out _ _).mono ?_
      rintro e w1 ⟨rfl, rfl⟩
      go_wp2_with fail
      refine (H1.out _ _).mono ?_
      rintro e w1 ⟨rfl, rfl⟩
      go_wp2_with fail
      go_ret
      exact ⟨rfl, rfl⟩
set_option maxRecDepth 100000 in
set_option maxHeartbeats 4000000 in
theorem cmpB_calls (x y : Nat) (w : World) : Calls Tryd.prog 108 #[.int .u8 (x : Nat), .int .u8 (y : Nat)] w fun e w' => e = .returned (.int .i64 (cmpI x y)) ∧ w = w' := by
  have H1 := Lib.hid (fun x W => isNaN_byte x W)
  unfold cmpI
  by_cases h1 : (x : Int) < (y : Int)
  · have q1 : decide ((x : Int) < (y : Int)) = true := decide_eq_true h1
    have q3 : decide (x < y) = true := decide_eq_true (by omega)
    rw [if_pos h1]
    clear h1
    go_enter Tryd.func108, Tryd.ntmps108
    go_wp2_with fail
    refine (H1.out _ _).mono ?_
    rintro e w1 ⟨rfl, rfl⟩
    go_wp2_with fail
    refine (H1.out _ _).mono ?_
    rintro e w1 ⟨rfl, rfl⟩
    go_wp2_with fail
    go_ret
    exact ⟨rfl, rfl⟩
  · have q1 : decide ((x : Int) < (y : Int)) = false := decide_eq_false h1
    have q3 : decide (x < y) = false := decide_eq_false (by omega)
    rw [if_neg h1]
    by_cases h2 : (y : Int) < (x : Int)
    · have q2 : decide ((y : Int) < (x : Int)) = true := decide_eq_true h2
      have q4 : decide (y < x) = true := decide_eq_true (by omega)
      rw [if_pos h2]
      clear h1 h2
      go_enter Tryd.func108, Tryd.ntmps108
      go_wp2_with fail
      refine (H1.out _ _).mono ?_
      rintro e w1 ⟨rfl, rfl⟩
      go_wp2_with fail
      refine (H1.out _ _).mono ?_
      rintro e w1 ⟨rfl, rfl⟩
      go_wp2_with fail
      go_ret
      exact ⟨rfl, rfl⟩
    · have q2 : decide ((y : Int) < (x : Int)) = false := decide_eq_false h2
      have q4 : decide (y < x) = false := decide_eq_false (by omega)
      rw [if_neg h2]
      clear h1 h2
      go_enter Tryd.func108, Tryd.ntmps108
      go_wp2_with fail
      refine (H1.out _ _).mono ?_
      rintro e w1 ⟨rfl, rfl⟩
      go_wp2_with fail
      refine (H1.out _ _).mono ?_
      rintro e w1 ⟨rfl, rfl⟩
      go_wp2_with fail
      go_ret
      exact ⟨rfl, rfl⟩
set_option maxRecDepth 100000 in
set_option maxHeartbeats 4000000 in
theorem cmpOr_calls (x y : Int) (B : Nat) (w : World) (c0 : w.cell? ⟨B, 0, none⟩ = some (.int .i64 x)) (c1 : w.cell? ⟨B, 1, none⟩ = some (.int .i64 y)) :
    Calls Tryd.prog 68 #[.slice (some ⟨B, 0, none⟩) 2 2] w fun e w' => e = .returned (.int .i64 (if x = 0 then y else x)) ∧ w = w' := by
  go_enter Tryd.func68, Tryd.ntmps68
  go_upto_region 3 with fail
  go_loopw [8] (fun v wr => w = wr ∧ (v = .int .i64 0 ∨ (v = .int .i64 1 ∧ x = 0) ∨ (v = .int .i64 2 ∧ x = 0 ∧ y = 0))) (fun v _ => 3 - (intOf v).toNat)
  case atStart => exact ⟨rfl, .inl rfl⟩
  case round =>
    obtain ⟨rfl, hv⟩ := hrel
    rcases hv with rfl | ⟨rfl, rfl⟩ | ⟨rfl, rfl, rfl⟩
    · by_cases hx : x = 0
      · subst hx
        go_wp2_with fail
        go_roundw
        case rel => simp
        case measure => decide
      · have q : (x != 0) = true := by simpa using hx
        have HX := Lib.hid hx
        clear hx
        go_wp2_with fail
        go_ret
        exact ⟨rfl, rfl⟩
    · by_cases hy : y = 0
      · subst hy
        go_wp2_with fail
        go_roundw
        case rel => simp
        case measure => decide
      · have q : (y != 0) = true := by simpa using hy
        clear hy
        go_wp2_with fail
        go_ret
        exact ⟨rfl, rfl⟩
    · go_wp2_with fail
      go_ret
      exact ⟨rfl, rfl⟩
set_option maxRecDepth 100000 in
set_option maxHeartbeats 8000000 in
theorem cmpS_calls (A B : List Nat) (hA : A.length ≤ 100000) (v u : Value) (w : World) (hv : RowV A v w) (hu : RowV B u w) :
    Calls Tryd.prog 105 #[v, u] w fun e w' => e = .returned (.int .i64 (cmpL A B)) ∧ w = w' := by
  have HV := Lib.hid hv
  have HU := Lib.hid hu
  obtain ⟨a, ca, rfl⟩ := hv.form
  obtain ⟨b, cb, rfl⟩ := hu.form
  clear hv hu
  have HC := Lib.hid (fun x y W => cmpB_calls x y W)
  obtain ⟨R, hR⟩ : ∃ R, cmpL A B = R := ⟨_, rfl⟩
  rw [hR]
  go_enter Tryd.func105, Tryd.ntmps105
  go_upto_region 2 with fail
  go_loopw [11] (fun vi wr => ∃ i : Nat, i ≤ A.length ∧ i ≤ B.length ∧ vi = .int .i64 i ∧ w = wr ∧ cmpL (A.drop i) (B.drop i) = R) (fun vi _ => A.length - (intOf vi).toNat)
  case atStart => exact ⟨0, Nat.zero_le _, Nat.zero_le _, rfl, rfl, by simpa using hR⟩
  case round =>
    clear hR
    obtain ⟨i, hi, hib, rfl, rfl, hcm⟩ := hrel
    have xi : IntKind.i64.wrap ((i : Int) + 1) = (i : Int) + 1 := IntWalk.i64_in _ (by omega)
    by_cases hlt : i < A.length
    · have hd : decide ((i : Int) < (A.length : Int)) = true := by rw [decide_eq_true_iff]; omega
      have hd2 : decide (i < A.length) = true := decide_eq_true hlt
      have hiI : (i : Int) < (A.length : Int) := by omega
      have hva : ∃ g o, a = some ⟨g, o, none⟩ ∧ w.cell? ⟨g, o + i, none⟩ = some (.int .u8 (A[i] : Nat)) := by
        rcases HV.out with ⟨_, e⟩ | ⟨g, o, c, e, _, h⟩
        · rw [e] at hlt; simp at hlt
        · cases e; exact ⟨g, o, rfl, h i hlt⟩
      obtain ⟨g, o, rfl, ci⟩ := hva
      by_cases hlb : i < B.length
      · have hb1 : decide ((B.length : Int) ≤ (i : Int)) = false := decide_eq_false (by omega)
        have hb2 : decide (B.length ≤ i) = false := decide_eq_false (by omega)
        have hb3 : decide (i < B.length) = true := decide_eq_true hlb
        have hbI : (i : Int) < (B.length : Int) := by omega
        have hvb : ∃ g o, b = some ⟨g, o, none⟩ ∧ w.cell? ⟨g, o + i, none⟩ = some (.int .u8 (B[i] : Nat)) := by
          rcases HU.out with ⟨_, e⟩ | ⟨g, o, c, e, _, h⟩
          · rw [e] at hlb; simp at hlb
          · cases e; exact ⟨g, o, rfl, h i hlb⟩
        obtain ⟨g2, o2, rfl, ci2⟩ := hvb
        rw [cmpL_drop A B i hlt hlb] at hcm
        generalize A[i] = x at *
        generalize B[i] = y at *
        have HCC := Lib.hid (HC.out x y w)
        generalize cmpI x y = k at *
        by_cases hk : k = 0
        · subst hk
          rw [if_pos rfl] at hcm
          have HCM := Lib.hid hcm
          clear hcm
          go_wp2_with fail
          refine HCC.out.mono ?_
          rintro e w2 ⟨rfl, rfl⟩
          go_wp2_with fail
          go_roundw
          case rel => exact ⟨i + 1, by omega, by omega, by simp, by first | exact trivial | rfl, HCM.out⟩
          case measure => simp [intOf]; omega
        · rw [if_neg hk] at hcm
          have q : (k != 0) = true := by simpa using hk
          have HCM := Lib.hid hcm
          clear hcm hk
          go_wp2_with fail
          refine HCC.out.mono ?_
          rintro e w2 ⟨rfl, rfl⟩
          go_wp2_with fail
          go_ret
          exact ⟨by rw [← HCM.out] <;> rfl, rfl⟩
      · have hb1 : decide ((B.length : Int) ≤ (i : Int)) = true := decide_eq_true (by omega)
        have hb2 : decide (B.length ≤ i) = true := decide_eq_true (by omega)
        rw [List.drop_eq_getElem_cons hlt, List.drop_eq_nil_of_le (show B.length ≤ i by omega), cmpL] at hcm
        have HCM := Lib.hid hcm
        clear hcm
        go_wp2_with fail
        go_ret
        exact ⟨by rw [← HCM.out] <;> rfl, rfl⟩
    · obtain rfl : i = A.length := by omega
      have hd : decide ((A.length : Int) < (A.length : Int)) = false := by simp
      rw [List.drop_length] at hcm
      by_cases hab : A.length < B.length
      · have q1 : decide ((A.length : Int) < (B.length : Int)) = true := decide_eq_true (by omega)
        have q2 : decide (A.length < B.length) = true := decide_eq_true hab
        rw [List.drop_eq_getElem_cons hab, cmpL] at hcm
        have HCM := Lib.hid hcm
        clear hcm
        go_wp2_with fail
        go_ret
        exact ⟨by rw [← HCM.out] <;> rfl, rfl⟩
      · have q1 : decide ((A.length : Int) < (B.length : Int)) = false := decide_eq_false (by omega)
        have q2 : decide (A.length < B.length) = false := decide_eq_false hab
        rw [List.drop_eq_nil_of_le (show B.length ≤ A.length by omega), cmpL] at hcm
        have HCM := Lib.hid hcm
        clear hcm
        go_wp2_with fail
        go_ret
        exact ⟨by rw [← HCM.out] <;> rfl, rfl⟩
set_option maxRecDepth 100000 in
set_option maxHeartbeats 8000000 in
theorem better_calls (A B : List Nat) (hA : A.length ≤ 100000) (v u : Value) (w : World) (hv : RowV A v w) (hu : RowV B u w) :
    Calls Tryd.prog 90 #[v, u] w fun e w' => e = .returned (if btr B A = true then u else v) ∧ Below w.heap.size w w' := by
  have HS := Lib.hid (cmpS_calls A B hA v u w hv hu)
  have HI := Lib.hid (cmpI_calls A.length B.length w)
  have HB := Lib.hid (btr_or A B)
  obtain ⟨a, ca, rfl⟩ := hv.form
  obtain ⟨b, cb, rfl⟩ := hu.form
  clear hv hu
  obtain ⟨bt, hbt⟩ : ∃ bt, btr B A = bt := ⟨_, rfl⟩
  rw [hbt] at HB ⊢
  clear hbt
  generalize cmpI A.length B.length = x at *
  generalize cmpL A B = y at *
  have hx := Blk.new w #[.int .i64 x, .int .i64 y] 3
  have HO := Lib.hid (cmpOr_calls x y w.heap.size _ (hx.cell 0) (hx.cell 1))
  have HBB := Lib.hid ((Below.refl w.heap.size w).alloc (Nat.le_refl _) (.cells #[.int .i64 x, .int .i64 y] 3))
  clear hx
  generalize (if x = 0 then y else x) = z at *
  have hz := HB.out
  clear HB
  go_enter Tryd.func90, Tryd.ntmps90
  go_wp2_with fail
  refine HI.out.mono ?_
  rintro e w1 ⟨rfl, rfl⟩
  clear HI
  go_wp2_with fail
  refine HS.out.mono ?_
  rintro e w1 ⟨rfl, rfl⟩
  clear HS
  go_wp2_with fail
  generalize w.alloc (.cells #[.int .i64 x, .int .i64 y] 3) = w2 at *
  refine HO.out.mono ?_
  rintro e w1 ⟨rfl, rfl⟩
  clear HO
  cases bt
  all_goals
    go_wp2_with fail
    go_ret
    exact ⟨rfl, HBB.out⟩
end Go.Proofs.YtdpkhliojbeglaaDoor

/- The document's sets, by the reference's own calls: Range, Both, Not. -/
namespace Go.Proofs.YtdpkhliojbeglaaDoor
open Go.RowKit BS

theorem Bools.congr {arr : Array Value} {f g : Nat → Bool} (h : Bools arr f) (e : ∀ j, j < 256 → f j = g j) : Bools arr g := ⟨h.1, fun i hi => by rw [h.2 i hi, e i hi]⟩

def bothF (how : Nat) (x y : Bool) : Bool := (how == 1 && (x || y)) || (how == 2 && x && y) || (how == 3 && x && !y)

theorem both_or (a b : BitVec 256) : (ofFn fun j => bothF 1 (a.getLsbD j) (b.getLsbD j)) = a ||| b := by
  apply BitVec.eq_of_getLsbD_eq; intro j hj
  rw [get_ofFn, BitVec.getLsbD_or]; simp only [hj]
  cases a.getLsbD j <;> cases b.getLsbD j <;> rfl
theorem both_and (a b : BitVec 256) : (ofFn fun j => bothF 2 (a.getLsbD j) (b.getLsbD j)) = a &&& b := by
  apply BitVec.eq_of_getLsbD_eq; intro j hj
  rw [get_ofFn, BitVec.getLsbD_and]; simp only [hj]
  cases a.getLsbD j <;> cases b.getLsbD j <;> rfl
theorem both_less (a b : BitVec 256) : (ofFn fun j => bothF 3 (a.getLsbD j) (b.getLsbD j)) = a &&& ~~~b := by
  apply BitVec.eq_of_getLsbD_eq; intro j hj
  rw [get_ofFn, BitVec.getLsbD_and, BitVec.getLsbD_not]; simp only [hj]
  cases a.getLsbD j <;> cases b.getLsbD j <;> rfl
theorem full_not (s : BitVec 256) : (range 0 255 &&& ~~~s) = ~~~s := by
  apply BitVec.eq_of_getLsbD_eq; intro j hj
  rw [BitVec.getLsbD_and, BitVec.getLsbD_not, range, get_ofFn]
  simp [hj, show j ≤ 255 by omega]

end Go.Proofs.YtdpkhliojbeglaaDoor

/- Plain facts on runs: they lie apart, ascending, and are together the set. -/
namespace Go.Proofs.YtdpkhliojbeglaaDoor
open Go.RowKit BS

structure RunsInv (f : Nat → Bool) (k : Nat) (rs : List (Nat × Nat)) : Prop where
  ok : ∀ r ∈ rs, r.1 ≤ r.2 ∧ r.2 < k
  apart : rs.Pairwise fun r r' => r.2 + 2 ≤ r'.1
  all : ∀ j, j < k → (f j = true ↔ ∃ r ∈ rs, r.1 ≤ j ∧ j ≤ r.2)

theorem runsInv (f : Nat → Bool) : ∀ k, k ≤ 256 → RunsInv f k (runsOf (el f k))
  | 0, _ => ⟨fun _ h => by simp [el, runsOf] at h, by simp [el, runsOf], fun j hj => by omega⟩
  | k + 1, hk => by
    have ih := runsInv f k (by omega)
    rw [el_succ]
    by_cases hf : f k = true
    · rw [hf, if_pos rfl, runsOf_snoc]
      generalize runsOf (el f k) = rs at *
      rcases nil_or_snoc rs with rfl | ⟨rs', a, b, rfl⟩
      · rw [runStep_none]
        refine ⟨fun r hr => ?_, by simp, fun j hj => ?_⟩
        · simp at hr; subst hr; exact ⟨Nat.le_refl _, by simp⟩
        · by_cases hjk : j = k
          · subst hjk; simp [hf]
          · have := ih.all j (by omega)
            simp at this
            simp [this]; omega
      · have hb := ih.ok (a, b) (by simp)
        simp only at hb
        have hap := List.pairwise_append.1 ih.apart
        by_cases hbk : (b + 1) % 256 = k
        · rw [runStep_grow _ _ _ _ hbk]
          have hb1 : b + 1 = k := by omega
          refine ⟨fun r hr => ?_, ?_, fun j hj => ?_⟩
          · rcases List.mem_append.1 hr with h | h
            · have := ih.ok r (by simp [h]); exact ⟨this.1, by omega⟩
            · simp at h; subst h; simp only; omega
          · refine List.pairwise_append.2 ⟨hap.1, by simp, fun r hr r' hr' => ?_⟩
            simp at hr'; subst hr'
            exact hap.2.2 r hr (a, b) (by simp)
          · by_cases hjk : j = k
            · subst hjk; simp only [hf, true_iff]; exact ⟨(a, j), by simp, by simp only; omega⟩
            · rw [ih.all j (by omega)]
              constructor
              · rintro ⟨r, hr, h1, h2⟩
                rcases List.mem_append.1 hr with h | h
                · exact ⟨r, by simp [h], h1, h2⟩
                · simp at h; subst h; exact ⟨(a, k), by simp, h1, by simp only at h2 ⊢; omega⟩
              · rintro ⟨r, hr, h1, h2⟩
                rcases List.mem_append.1 hr with h | h
                · exact ⟨r, by simp [h], h1, h2⟩
                · simp at h; subst h; exact ⟨(a, b), by simp, h1, by simp only at h2 ⊢; omega⟩
        · rw [runStep_new _ _ _ _ hbk]
          have hb1 : b + 1 ≠ k := fun e => hbk (by omega)
          refine ⟨fun r hr => ?_, ?_, fun j hj => ?_⟩
          · rcases List.mem_append.1 hr with h | h
            · have := ih.ok r h; exact ⟨this.1, by omega⟩
            · simp at h; subst h; exact ⟨Nat.le_refl _, by simp⟩
          · refine List.pairwise_append.2 ⟨ih.apart, by simp, fun r hr r' hr' => ?_⟩
            simp at hr'; subst hr'
            rcases List.mem_append.1 hr with h | h
            · have h1 := hap.2.2 r h (a, b) (by simp)
              simp only at h1 ⊢; omega
            · simp at h; subst h; simp only; omega
          · by_cases hjk : j = k
            · subst hjk; simp only [hf, true_iff]; exact ⟨(j, j), by simp, Nat.le_refl _, Nat.le_refl _⟩
            · rw [ih.all j (by omega)]
              constructor
              · rintro ⟨r, hr, h1, h2⟩
                exact ⟨r, List.mem_append_left _ hr, h1, h2⟩
              · rintro ⟨r, hr, h1, h2⟩
                rcases List.mem_append.1 hr with h | h
                · exact ⟨r, h, h1, h2⟩
                · simp at h; subst h; simp only at h1 h2; omega
    · rw [if_neg hf, List.append_nil]
      refine ⟨fun r hr => ⟨(ih.ok r hr).1, by have := (ih.ok r hr).2; omega⟩, ih.apart, fun j hj => ?_⟩
      by_cases hjk : j = k
      · subst hjk
        refine ⟨fun h => absurd h hf, ?_⟩
        rintro ⟨r, hr, h1, h2⟩
        have := (ih.ok r hr).2; omega
      · exact ih.all j (by omega)

/-- The runs of a set. -/
def rsOf (s : BitVec 256) : List (Nat × Nat) := runsOf (el s.getLsbD 256)
theorem rsOf_inv (s : BitVec 256) : RunsInv s.getLsbD 256 (rsOf s) := runsInv _ 256 (Nat.le_refl _)
theorem rsOf_ok (s : BitVec 256) (i : Nat) (h : i < (rsOf s).length) : (rsOf s)[i].1 ≤ (rsOf s)[i].2 ∧ (rsOf s)[i].2 < 256 := (rsOf_inv s).ok _ (List.getElem_mem h)
theorem rsOf_apart (s : BitVec 256) (i : Nat) (h : i + 1 < (rsOf s).length) : (rsOf s)[i].2 + 2 ≤ (rsOf s)[i + 1].1 :=
  List.pairwise_iff_getElem.1 (rsOf_inv s).apart i (i + 1) (by omega) h (by omega)
theorem rsOf_len (s : BitVec 256) : (rsOf s).length ≤ 256 := Nat.le_trans (runsOf_len _) (el_len _ _)

/-- The sets of some runs, together. -/
def orAll (rs : List (Nat × Nat)) : BitVec 256 := rs.foldl (fun t r => t ||| range r.1 r.2) 0
theorem orAll_snoc (rs : List (Nat × Nat)) (r : Nat × Nat) : orAll (rs ++ [r]) = orAll rs ||| range r.1 r.2 := by simp [orAll]
theorem get_orAll (rs : List (Nat × Nat)) (j : Nat) (hj : j < 256) : (orAll rs).getLsbD j = true ↔ ∃ r ∈ rs, r.1 ≤ j ∧ j ≤ r.2 := by
  suffices h : ∀ t, (rs.foldl (fun t r => t ||| range r.1 r.2) t).getLsbD j = true ↔ (t.getLsbD j = true ∨ ∃ r ∈ rs, r.1 ≤ j ∧ j ≤ r.2) by
    have := h 0; simpa [orAll] using this
  induction rs with
  | nil => intro t; simp
  | cons r rs ih =>
    intro t
    rw [List.foldl_cons, ih, BitVec.getLsbD_or, range, get_ofFn]
    simp only [hj, decide_true, Bool.true_and, Bool.or_eq_true, Bool.and_eq_true, decide_eq_true_eq, List.mem_cons, exists_eq_or_imp]
    constructor
    · rintro ((h | h) | h)
      · exact .inl h
      · exact .inr (.inl h)
      · exact .inr (.inr h)
    · rintro (h | h | h)
      · exact .inl (.inl h)
      · exact .inl (.inr h)
      · exact .inr h
theorem orAll_rsOf (s : BitVec 256) : orAll (rsOf s) = s := by
  apply BitVec.eq_of_getLsbD_eq
  intro j hj
  rw [Bool.eq_iff_iff, get_orAll _ _ hj]
  exact ((rsOf_inv s).all j hj).symm

theorem runCells_get (rs : List (Nat × Nat)) (j : Nat) (h : j < rs.length) : (runCells rs)[j * 2]? = some (.int .u8 (rs[j].1 : Int)) ∧ (runCells rs)[j * 2 + 1]? = some (.int .u8 (rs[j].2 : Int)) := by
  induction rs generalizing j with
  | nil => simp at h
  | cons r rs ih =>
    cases j with
    | zero => simp [runCells]
    | succ j =>
      have := ih j (by simpa using h)
      simp only [runCells, List.flatMap_cons] at this ⊢
      rw [show (j + 1) * 2 = j * 2 + 2 by omega]
      simpa using this

/-- Block g holds the runs rs. -/
def RowAt (g : Nat) (rs : List (Nat × Nat)) (W : World) : Prop := g < W.heap.size ∧ ∀ j (h : j < rs.length), W.cell? ⟨g, j * 2, none⟩ = some (.int .u8 (rs[j].1 : Int)) ∧ W.cell? ⟨g, j * 2 + 1, none⟩ = some (.int .u8 (rs[j].2 : Int))
theorem RowAt.below {g : Nat} {rs : List (Nat × Nat)} {W W' : World} (h : RowAt g rs W) (hb : Below W.heap.size W W') : RowAt g rs W' :=
  ⟨Nat.lt_of_lt_of_le h.1 hb.size, fun j hj => ⟨(hb.cell (p := ⟨g, j * 2, none⟩) h.1).trans (h.2 j hj).1, (hb.cell (p := ⟨g, j * 2 + 1, none⟩) h.1).trans (h.2 j hj).2⟩⟩
theorem RowAt.set {g : Nat} {rs : List (Nat × Nat)} {W : World} (h : RowAt g rs W) {B : Nat} (hne : g ≠ B) (i : Nat) (v : Value) : RowAt g rs (W.setCell ⟨B, i, none⟩ v) := by
  have hs := Below.heap_setCell W ⟨B, i, none⟩ v g hne
  exact ⟨by simpa using h.1, fun j hj => ⟨(World.cell?_of_block (w := W) (a := ⟨g, j * 2, none⟩) hs).trans (h.2 j hj).1, (World.cell?_of_block (w := W) (a := ⟨g, j * 2 + 1, none⟩) hs).trans (h.2 j hj).2⟩⟩
/-- What Runs hands back: a slice of that many, in a new block, where there are any. -/
theorem row_of_owns {base : Nat} {e : TypeId} {v : Value} {rs : List (Nat × Nat)} {W : World} (h : W.ownsRow base e 2 v rs.length (runCells rs)) :
    ∃ a cap, v = .slice a rs.length cap ∧ (rs ≠ [] → ∃ g, a = some ⟨g, 0, none⟩ ∧ base ≤ g ∧ RowAt g rs W) := by
  rcases h.2 with ⟨rfl, h0⟩ | ⟨g, cap, cur, rfl, hb, hg, _, _, _, _⟩
  · exact ⟨none, 0, by rw [h0], fun hne => absurd (List.eq_nil_of_length_eq_zero h0) hne⟩
  · refine ⟨_, cap, rfl, fun _ => ⟨g, rfl, hb, (Array.getElem?_eq_some_iff.1 hg).1, fun j hj => ?_⟩⟩
    have h1 := h.cellAt (j * 2) (by omega)
    have h2 := h.cellAt (j * 2 + 1) (by omega)
    exact ⟨h1.trans (runCells_get rs j hj).1, h2.trans (runCells_get rs j hj).2⟩
end Go.Proofs.YtdpkhliojbeglaaDoor

/- The document's sets, by the reference's own calls: Next, All, Runs. -/
namespace Go.Proofs.YtdpkhliojbeglaaDoor
open Go.RowKit BS

theorem rhasN' (a : BitVec 256) (x : Nat) (w : World) (hx : x < 256) : Calls Tryd.prog 60 #[setV a, .int .i64 x] w fun e w' => e = .returned (.bool (a.getLsbD x)) ∧ Below w.heap.size w w' := by
  have h := rhas_calls a x w (by omega) (by omega)
  rw [Int.toNat_natCast] at h; exact h

theorem row_below {W W' : World} {base : Nat} {e : TypeId} {size : Nat} {v : Value} {n : Nat} {xs : List Value} (h : W.ownsRow base e size v n xs) (hb : Below W.heap.size W W') : W'.ownsRow base e size v n xs := by
  refine h.kept (row := none) ⟨hb.os, hb.tape, hb.output, hb.size, fun k hk _ => hb.block k hk⟩ ?_
  by_cases hv : v.ownBlock = none
  · exact .inl hv
  · exact .inr hv

theorem info1b : (Tryd.prog.info? 5).map (fun i => (i.zero, i.size, i.bytes)) = some (some (.int .u8 0), 1, 1) := by kernel_rfl
theorem Blk.news1 {W : World} {B : Nat} {a : Value} {t : TypeId} (h : Blk W B #[a] t) : ∀ j u, [a][j]? = some u → W.cell? ((⟨B, 0, none⟩ : Addr).add j) = some u := by
  intro j u hu
  rw [Addr.add_mid, Nat.zero_add, h.cell j]
  simpa using hu
def byteCells (l : List Nat) : List Value := l.map fun (x : Nat) => Value.int .u8 (x : Int)
theorem byteCells_snoc (l : List Nat) (x : Nat) : byteCells (l ++ [x]) = byteCells l ++ [.int .u8 (x : Int)] := by simp [byteCells]

end Go.Proofs.YtdpkhliojbeglaaDoor

/- Texts put together: Rv Ru Rk Rx Rt. -/
import Derived.Test.YtdpkhliojbeglaaDoorQB
/- A region that draws its order, where each operation yields a value that is not told beforehand (new memory), but of which a pure fact U and a fact V on the world are known; all that an operation does is to make memory. Nothing of the program is used. -/
namespace Go.Proofs.YtdpkhliojbeglaaDoor
open Go Go.RowKit

section
variable {P : Program} {ops : Array Oper} {Q : Exit → Act → World → Prop} {md : Region.Mode} {S : World → Prop} {U : Nat → List Value → Value → Prop} {V : Nat → Value → World → Prop}

def Deps (md : Region.Mode) (ops : Array Oper) (V : Nat → Value → World → Prop) (o : Oper) (a : Act) (w : World) : Prop :=
  ∀ e ∈ o.after, Region.binds md e = true → ∀ oj d, ops[e.on]? = some oj → oj.dst = some d → V e.on (a.tmps.getD d undef) w
/-- What the operations left that o waits for, in their order. -/
def depVals (md : Region.Mode) (ops : Array Oper) (o : Oper) (a : Act) : List Value :=
  (o.after.toList.filter (Region.binds md)).map fun e => match ops[e.on]? with | some oj => (match oj.dst with | some d => a.tmps.getD d undef | none => undef) | none => undef
def Facts (ops : Array Oper) (V : Nat → Value → World → Prop) (listed : Array Bool) (a : Act) (w : World) : Prop :=
  ∀ j oj d, listed.getD j true = true → ops[j]? = some oj → oj.dst = some d → V j (a.tmps.getD d undef) w
def StepsR (P : Program) (md : Region.Mode) (ops : Array Oper) (S : World → Prop) (U : Nat → List Value → Value → Prop) (V : Nat → Value → World → Prop) (i : Nat) (o : Oper) (a : Act) : Prop :=
  (Region.wanted o (yielded ops a.tmps) = true ∧ ∀ w, S w → Deps md ops V o a w →
    ∀ (K : Act → World → Prop) (Q : Exit → Act → World → Prop), (∀ v w', U i (depVals md ops o a) v → V i v w' → Below w.heap.size w w' → K (a.put o.dst v) w') → o.wp P a w K Q) ∨
  (Region.wanted o (yielded ops a.tmps) = false ∧ U i (depVals md ops o a) undef ∧ ∀ w, V i undef w)

def AnyR (P : Program) (md : Region.Mode) (ops : Array Oper) (Q : Exit → Act → World → Prop) (S : World → Prop) (U : Nat → List Value → Value → Prop) (V : Nat → Value → World → Prop) : Nat → Array Bool → Act → Prop
  | 0, listed, a => Region.ready md ops listed = [] ∧ ∀ w, S w → Facts ops V listed a w → Q .normal a w
  | fuel + 1, listed, a =>
    (Region.ready md ops listed = [] → ∀ w, S w → Facts ops V listed a w → Q .normal a w) ∧
    ∀ i ∈ Region.ready md ops listed, ∃ o, ops[i]? = some o ∧ (∃ v, U i (depVals md ops o a) v) ∧ StepsR P md ops S U V i o a ∧ ∀ v, U i (depVals md ops o a) v → AnyR P md ops Q S U V fuel (listed.setIfInBounds i true) (a.put o.dst v)

/-- All destinations lie in the frame, and no two are the same. -/
def fitB (ops : Array Oper) (n : Nat) : Bool :=
  (List.range ops.size).all fun i => (List.range ops.size).all fun j =>
    match ops[i]?, ops[j]? with
    | some oi, some oj => (match oi.dst, oj.dst with | some d, some e => decide (d < n) && (i == j || !(d == e)) | some d, none => decide (d < n) | _, _ => true)
    | _, _ => true
theorem fitB_lt {n : Nat} (h : fitB ops n = true) {i d : Nat} {o : Oper} (hi : ops[i]? = some o) (hd : o.dst = some d) : d < n := by
  have hlt := (Array.getElem?_eq_some_iff.1 hi).1
  have := List.all_eq_true.1 (List.all_eq_true.1 h i (List.mem_range.2 hlt)) i (List.mem_range.2 hlt)
  simp only [hi, hd, Bool.and_eq_true, decide_eq_true_eq] at this
  exact this.1
theorem fitB_ne {n : Nat} (h : fitB ops n = true) {i j d e : Nat} {o p : Oper} (hi : ops[i]? = some o) (hj : ops[j]? = some p) (hd : o.dst = some d) (he : p.dst = some e) (hij : i ≠ j) : d ≠ e := by
  have hlt := (Array.getElem?_eq_some_iff.1 hi).1
  have hlt' := (Array.getElem?_eq_some_iff.1 hj).1
  have := List.all_eq_true.1 (List.all_eq_true.1 h i (List.mem_range.2 hlt)) j (List.mem_range.2 hlt')
  simp only [hi, hj, hd, he, Bool.and_eq_true, Bool.or_eq_true, beq_iff_eq, Bool.not_eq_true', beq_eq_false_iff_ne] at this
  exact this.2.resolve_left hij

theorem put_size (a : Act) (x : Option Tmp) (v : Value) : (a.put x v).tmps.size = a.tmps.size := by cases x <;> simp [Act.put]
theorem put_getD_same (a : Act) (d : Nat) (v : Value) (h : d < a.tmps.size) : (a.put (some d) v).tmps.getD d undef = v := by
  simp [Act.put, Array.getD, h]
theorem put_getD_ne (a : Act) (x : Option Tmp) (d : Nat) (v : Value) (h : x ≠ some d) : (a.put x v).tmps.getD d undef = a.tmps.getD d undef := by
  cases x with
  | none => rfl
  | some e =>
    have : e ≠ d := fun he => h (by rw [he])
    simp only [Act.put, Array.getD_eq_getD_getElem?, Array.getElem?_setIfInBounds_ne this]

theorem AnyR.any (hS : ∀ w w', Below w.heap.size w w' → S w → S w') (hV : ∀ i v w w', Below w.heap.size w w' → V i v w → V i v w') :
    ∀ (fuel : Nat) (listed : Array Bool) (a : Act), fitB ops a.tmps.size = true → AnyR P md ops Q S U V fuel listed a → ∀ w, S w → Facts ops V listed a w → wpAny P md ops Q fuel listed a w
  | 0, _, _, _, h, w, hs, hf => ⟨h.1, h.2 w hs hf⟩
  | fuel + 1, listed, a, hfit, h, w, hs, hf => ⟨fun h0 => h.1 h0 w hs hf, fun i hi => by
    obtain ⟨o, ho, _, hst, hr⟩ := h.2 i hi
    obtain ⟨hun, o', ho', hall⟩ := mem_ready.1 hi
    obtain rfl : o = o' := Option.some.inj (ho.symm.trans ho')
    have key : ∀ v w', U i (depVals md ops o a) v → V i v w' → Below w.heap.size w w' → wpAny P md ops Q fuel (listed.setIfInBounds i true) (a.put o.dst v) w' := by
      intro v w' hu hv hb
      refine AnyR.any hS hV fuel _ _ (by rw [put_size]; exact hfit) (hr v hu) w' (hS _ _ hb hs) ?_
      intro j oj d hl hj hd
      by_cases hji : j = i
      · subst hji
        obtain rfl : o = oj := Option.some.inj (ho.symm.trans hj)
        rw [hd, put_getD_same _ _ _ (fitB_lt hfit ho hd)]
        exact hv
      · rw [getD_set_ne true (Ne.symm hji)] at hl
        rw [put_getD_ne _ _ _ _ (fun he => fitB_ne hfit hj ho hd he hji rfl)]
        exact hV _ _ _ _ hb (hf j oj d hl hj hd)
    unfold Go.wpOp
    simp only [ho]
    rcases hst with ⟨hw, hst⟩ | ⟨hw, hu, hv⟩
    · simp only [hw, if_true]
      refine .inl (hst w hs (fun e he hb oj d hj hd => hf e.on oj d ?_ hj hd) _ _ key)
      have h1 := hall e he hb
      rcases Nat.lt_or_ge e.on listed.size with h' | h'
      · simp [h'] at h1 ⊢; exact h1
      · simp [Array.getElem?_eq_none h']
    · simp only [hw, Bool.false_eq_true, if_false]
      exact key undef w hu (hv w) (Below.refl _ _)⟩

theorem depVals_put {k : Nat} {o ok : Oper} {a : Act} {y : Value} {n : Nat} (hfit : fitB ops n = true) (hk : ops[k]? = some ok) (hnot : ∀ e ∈ o.after, Region.binds md e = true → e.on ≠ k) :
    depVals md ops o (a.put ok.dst y) = depVals md ops o a := by
  unfold depVals
  refine List.map_congr_left fun e he => ?_
  have he' := List.mem_filter.1 he
  have hne := hnot e (by simpa using he'.1) he'.2
  cases hj : ops[e.on]? with
  | none => rfl
  | some oj =>
    cases hd : oj.dst with
    | none => simp [hd]
    | some d => simp only [hd]; exact put_getD_ne _ _ _ _ fun hx => fitB_ne hfit hj hk hd hx hne rfl
/-- What another operation puts elsewhere changes nothing of it. -/
theorem StepsR.moved {i k : Nat} {o ok : Oper} {a : Act} {y : Value} {n : Nat} (hfit : fitB ops n = true) (hi : ops[i]? = some o) (hk : ops[k]? = some ok) (hik : i ≠ k)
    (hs : ∀ cs b, o.op ≠ .select cs b) (h1 : ∀ d, ok.dst = some d → d ∉ o.looksAt ops) (hnot : ∀ e ∈ o.after, Region.binds md e = true → e.on ≠ k) :
    StepsR P md ops S U V i o a ↔ StepsR P md ops S U V i o (a.put ok.dst y) := by
  have h2 : ∀ d, o.dst = some d → ok.dst ≠ some d := fun d hd he => fitB_ne hfit hi hk hd he hik rfl
  have hdep : ∀ w, Deps md ops V o (a.put ok.dst y) w ↔ Deps md ops V o a w := by
    intro w
    have he : ∀ e ∈ o.after, Region.binds md e = true → ∀ oj d, ops[e.on]? = some oj → oj.dst = some d → (a.put ok.dst y).tmps.getD d undef = a.tmps.getD d undef := fun e he hb oj d hj hd =>
      put_getD_ne _ _ _ _ fun hx => fitB_ne hfit hj hk hd hx (hnot e he hb) rfl
    constructor
    · intro h e hm hb oj d hj hd; rw [← he e hm hb oj d hj hd]; exact h e hm hb oj d hj hd
    · intro h e hm hb oj d hj hd; rw [he e hm hb oj d hj hd]; exact h e hm hb oj d hj hd
  have hvals : depVals md ops o (a.put ok.dst y) = depVals md ops o a := depVals_put hfit hk hnot
  have hcan : ∀ u v, (a.put o.dst u = a.put o.dst v) ↔ ((a.put ok.dst y).put o.dst u = (a.put ok.dst y).put o.dst v) := by
    intro u v
    constructor
    · intro he; rw [← Act.put_comm a u y h2, ← Act.put_comm a v y h2, he]
    · intro he; exact put_cancel he
  unfold StepsR
  rw [wanted_put o a ok.dst y h1, hvals]
  generalize U i (depVals md ops o a) = U at *
  have conv : ∀ (b b' : Act), (∀ u v, b.put o.dst u = b.put o.dst v → b'.put o.dst u = b'.put o.dst v) → execOp b.eval o = execOp b'.eval o → ∀ w,
      (∀ (K : Act → World → Prop) (Q : Exit → Act → World → Prop), (∀ v w', U v → V i v w' → Below w.heap.size w w' → K (b.put o.dst v) w') → o.wp P b w K Q) →
      (∀ (K : Act → World → Prop) (Q : Exit → Act → World → Prop), (∀ v w', U v → V i v w' → Below w.heap.size w w' → K (b'.put o.dst v) w') → o.wp P b' w K Q) := by
    intro b b' hc hx w hv K Q hK
    have h0 := hv (fun a' w' => ∃ v, a' = b.put o.dst v ∧ U v ∧ V i v w' ∧ Below w.heap.size w w') (fun _ _ _ => False) (fun v w' h1 h2 h3 => ⟨v, rfl, h1, h2, h3⟩)
    unfold Oper.wp at *
    rw [← hx]
    generalize (execOp b.eval o).run P w = r at *
    have key : ∀ u w', (∃ v, b.put o.dst u = b.put o.dst v ∧ U v ∧ V i v w' ∧ Below w.heap.size w w') → K (b'.put o.dst u) w' := fun u w' ⟨v, he, h1, h2, h3⟩ => by
      rw [hc u v he]; exact hK v w' h1 h2 h3
    cases r with
    | ok n w' =>
      cases n <;> simp only [Oper.upon] at h0 ⊢
      case value u => exact key _ _ h0
      case skip => exact key _ _ h0
      case defer d =>
        exfalso
        obtain ⟨v, h0, _⟩ := h0
        have := congrArg (fun b : Act => b.defers.length) h0
        have hp : ∀ (b : Act) (t : Option Tmp) (u : Value), (b.put t u).defers = b.defers := fun b t u => by cases t <;> rfl
        simp [hp] at this
      case enter f args =>
        refine Calls.mono h0 fun e w'' he => ?_
        cases e with
        | returned u => exact key _ _ he
        | panicked c => exact he.elim
        | outgrown => exact he.elim fun _ h => h.elim fun _ h => h.elim
      case row row args => exact Rows.mono h0 fun u w'' he => key _ _ he
    | halt x w' =>
      cases x <;> simp only [Oper.upon] at h0
  have hx := execOp_put o hs a ok.dst y h1
  constructor
  · rintro (⟨hw, h⟩ | h)
    · exact .inl ⟨hw, fun w hS hD => conv a _ (fun u v => (hcan u v).1) hx.symm w (h w hS ((hdep w).1 hD))⟩
    · exact .inr h
  · rintro (⟨hw, h⟩ | h)
    · exact .inl ⟨hw, fun w hS hD => conv _ a (fun u v => (hcan u v).2) hx w (h w hS ((hdep w).2 hD))⟩
    · exact .inr h

theorem AnyR.first {i : Nat} {oi : Oper} (hi : ops[i]? = some oi) (hsel : ∀ (j : Nat) (o : Oper) cs b, ops[j]? = some o → o.op ≠ .select cs b) :
    ∀ (fuel : Nat) (listed : Array Bool) (a : Act), fitB ops a.tmps.size = true →
      (∀ j oj, ops[j]? = some oj → j ≠ i → listed.getD j true = false → (∀ e ∈ oj.after, Region.binds md e = true → e.on ≠ i) → oi.apart ops oj = true) →
      i ∈ Region.ready md ops listed → (∃ v, U i (depVals md ops oi a) v) → StepsR P md ops S U V i oi a →
      (∀ v, U i (depVals md ops oi a) v → AnyR P md ops Q S U V fuel (listed.setIfInBounds i true) (a.put oi.dst v)) → AnyR P md ops Q S U V (fuel + 1) listed a := by
  intro fuel
  induction fuel with
  | zero =>
    intro listed a _ _ hr hU hy H
    refine ⟨fun h => (by rw [h] at hr; cases hr), fun j hj => ?_⟩
    by_cases hji : j = i
    · subst hji; exact ⟨oi, hi, hU, hy, H⟩
    · obtain ⟨v, hv⟩ := hU
      have := ready_mono hj hji
      rw [(H v hv).1] at this
      cases this
  | succ fuel ih =>
    intro listed a hfit hfree hr hU hy H
    refine ⟨fun h => (by rw [h] at hr; cases hr), fun j hj => ?_⟩
    by_cases hji : j = i
    · subst hji; exact ⟨oi, hi, hU, hy, H⟩
    · obtain ⟨v0, hv0⟩ := hU
      obtain ⟨oj, hoj, hUj, hyj, hrest⟩ := (H v0 hv0).2 j (ready_mono hj hji)
      obtain ⟨hjun, oj', hoj', hall⟩ := mem_ready.1 hj
      obtain rfl : oj = oj' := Option.some.inj (hoj.symm.trans hoj')
      have hnl : ∀ k, k ∈ Region.ready md ops listed → ∀ ok, ops[k]? = some ok → ∀ m, m ∈ Region.ready md ops listed → ∀ e ∈ ok.after, Region.binds md e = true → e.on ≠ m := by
        intro k hk ok hok m hm e he hb heq
        obtain ⟨_, o', ho', hall'⟩ := mem_ready.1 hk
        obtain rfl : ok = o' := Option.some.inj (hok.symm.trans ho')
        have h1 := hall' e he hb
        have h0 := (mem_ready.1 hm).1
        rw [heq] at h1
        rcases Nat.lt_or_ge m listed.size with h' | h'
        · simp [h'] at h0 h1; rw [h0] at h1; cases h1
        · simp [Array.getElem?_eq_none h'] at h1
      have hnot := hnl j hj oj hoj i hr
      have hnot' := hnl i hr oi hi j hj
      obtain ⟨h1, h2, h3⟩ := Oper.apart_spec (hfree j oj hoj hji hjun hnot)
      have ej : ∀ v, depVals md ops oj (a.put oi.dst v) = depVals md ops oj a := fun v => depVals_put hfit hi hnot
      have ei : ∀ u, depVals md ops oi (a.put oj.dst u) = depVals md ops oi a := fun u => depVals_put hfit hoj hnot'
      rw [ej] at hUj
      have hyj' : StepsR P md ops S U V j oj a := (StepsR.moved hfit hoj hi hji (fun cs b => hsel j oj cs b hoj) h1 hnot).2 hyj
      refine ⟨oj, hoj, hUj, hyj', fun u hu => ?_⟩
      refine ih _ _ (by rw [put_size]; exact hfit) ?_ (ready_mono hr (Ne.symm hji)) ⟨v0, by rw [ei]; exact hv0⟩ ?_ ?_
      · intro k ok hk hki hun hno
        refine hfree k ok hk hki ?_ hno
        by_cases hjk : j = k
        · subst hjk; exact hjun
        · rw [getD_set_ne true hjk] at hun; exact hun
      · exact (StepsR.moved hfit hi hoj (Ne.symm hji) (fun cs b => hsel i oi cs b hi) h3 hnot').1 hy
      · intro v hv
        rw [ei] at hv
        rw [Array.setIfInBounds_comm _ _ hji, ← Act.put_comm a v u h2]
        obtain ⟨oj', hoj', _, _, hrest'⟩ := (H v hv).2 j (ready_mono hj hji)
        obtain rfl : oj = oj' := Option.some.inj (hoj.symm.trans hoj')
        exact hrest' u (by rw [ej]; exact hu)

/-- Take number i next. -/
theorem AnyR.step {i : Nat} {d : Option Tmp} {oi : Oper} {fuel : Nat} {listed : Array Bool} {a : Act} (hi : ops[i]? = some oi) (hd : oi.dst = d) (hfit : fitB ops a.tmps.size = true)
    (hs : Region.noSelect ops = true) (hf : Region.free md ops listed i = true) (hr : (Region.ready md ops listed).contains i = true)
    (hU : ∃ v, U i (depVals md ops oi a) v) (hy : StepsR P md ops S U V i oi a)
    (h : ∀ v, U i (depVals md ops oi a) v → ∀ a', a.put d v = a' → AnyR P md ops Q S U V fuel (listed.setIfInBounds i true) a') : AnyR P md ops Q S U V (fuel + 1) listed a :=
  AnyR.first hi (Region.noSelect_spec hs) fuel listed a hfit (Region.free_spec hi hf) (by simpa using hr) hU hy (fun v hv => h v hv _ (by rw [hd]))
theorem AnyR.done {listed : Array Bool} {a : Act} (hr : Region.ready md ops listed = []) (h : ∀ w, S w → Facts ops V listed a w → Q .normal a w) : ∀ fuel, AnyR P md ops Q S U V fuel listed a
  | 0 => ⟨hr, h⟩
  | _ + 1 => ⟨fun _ => h, by rw [hr]; simp⟩
theorem region_stepsR {id : Nat} {a : Act} {w : World} (hm : P.follows .mixedOrders = true) (hS : ∀ w w', Below w.heap.size w w' → S w → S w') (hV : ∀ i v w w', Below w.heap.size w w' → V i v w → V i v w') (hfit : fitB ops a.tmps.size = true) (h0 : S w.drew)
    (h : AnyR P .any ops Q S U V ops.size (Array.replicate ops.size false) a) : (Code.region id ops true).wp P Q a w :=
  wp_region_any hm (AnyR.any hS hV _ _ _ hfit h _ h0 (fun j oj d hl hj _ => by
    have hlt := (Array.getElem?_eq_some_iff.1 hj).1
    simp [Array.getD, hlt] at hl))
/-- An operation that only yields. -/
theorem StepsR.yield {i : Nat} {o : Oper} {a : Act} (v : Value) (hu : U i (depVals md ops o a) v) (hw : Region.wanted o (yielded ops a.tmps) = true)
    (h : ∀ w, S w → Deps md ops V o a w → (execOp a.eval o).run P w = .ok (.value v) w ∧ V i v w) : StepsR P md ops S U V i o a :=
  .inl ⟨hw, fun w hS hD K Q hK => by unfold Oper.wp; rw [(h w hS hD).1]; exact hK v w hu (h w hS hD).2 (Below.refl _ _)⟩
/-- A call of a Go function. -/
theorem StepsR.call {i : Nat} {o : Oper} {a : Act} {f : FuncId} {args : Array Value} (hw : Region.wanted o (yielded ops a.tmps) = true) (h : ∀ w, S w → (execOp a.eval o).run P w = .ok (.enter f args) w)
    (hc : ∀ w, S w → Deps md ops V o a w → Calls P f args w fun e w' => ∃ v, e = .returned v ∧ U i (depVals md ops o a) v ∧ V i v w' ∧ Below w.heap.size w w') : StepsR P md ops S U V i o a :=
  .inl ⟨hw, fun w hS hD K Q hK => by
    unfold Oper.wp; rw [h w hS]
    refine Calls.mono (hc w hS hD) fun e w' he => ?_
    obtain ⟨v, rfl, h1, h2, h3⟩ := he
    exact hK v w' h1 h2 h3⟩
theorem StepsR.no {i : Nat} {o : Oper} {a : Act} (hw : Region.wanted o (yielded ops a.tmps) = false) (hu : U i (depVals md ops o a) undef) (hv : ∀ w, V i undef w) : StepsR P md ops S U V i o a := .inr ⟨hw, hu, hv⟩
/-! ### The same, where one last operation, which waits for all others, does what it likes (a store). -/
def AnyRM (P : Program) (md : Region.Mode) (ops : Array Oper) (Q : Exit → Act → World → Prop) (S : World → Prop) (U : Nat → List Value → Value → Prop) (V : Nat → Value → World → Prop) (m : Nat) : Nat → Array Bool → Act → Prop
  | 0, listed, a => Region.ready md ops listed = [m] ∧ Region.ready md ops (listed.setIfInBounds m true) = [] ∧ ∀ w, S w → Facts ops V listed a w → Go.wpOp P ops Q m (fun a' w' => Q .normal a' w') a w
  | fuel + 1, listed, a =>
    Region.ready md ops listed ≠ [] ∧ m ∉ Region.ready md ops listed ∧
    ∀ i ∈ Region.ready md ops listed, ∃ o, ops[i]? = some o ∧ (∃ v, U i (depVals md ops o a) v) ∧ StepsR P md ops S U V i o a ∧ ∀ v, U i (depVals md ops o a) v → AnyRM P md ops Q S U V m fuel (listed.setIfInBounds i true) (a.put o.dst v)

theorem AnyRM.any {m : Nat} (hS : ∀ w w', Below w.heap.size w w' → S w → S w') (hV : ∀ i v w w', Below w.heap.size w w' → V i v w → V i v w') :
    ∀ (fuel : Nat) (listed : Array Bool) (a : Act), fitB ops a.tmps.size = true → AnyRM P md ops Q S U V m fuel listed a → ∀ w, S w → Facts ops V listed a w → wpAny P md ops Q (fuel + 1) listed a w
  | 0, _, _, _, h, w, hs, hf => ⟨fun h0 => (by rw [h.1] at h0; cases h0), fun i hi => by
    rw [h.1] at hi
    obtain rfl : i = m := by simpa using hi
    exact wpOp_mono (fun a' w' hq => ⟨h.2.1, hq⟩) (h.2.2 w hs hf)⟩
  | fuel + 1, listed, a, hfit, h, w, hs, hf => ⟨fun h0 => absurd h0 h.1, fun i hi => by
    obtain ⟨o, ho, _, hst, hr⟩ := h.2.2 i hi
    obtain ⟨hun, o', ho', hall⟩ := mem_ready.1 hi
    obtain rfl : o = o' := Option.some.inj (ho.symm.trans ho')
    have key : ∀ v w', U i (depVals md ops o a) v → V i v w' → Below w.heap.size w w' → wpAny P md ops Q (fuel + 1) (listed.setIfInBounds i true) (a.put o.dst v) w' := by
      intro v w' hu hv hb
      refine AnyRM.any hS hV fuel _ _ (by rw [put_size]; exact hfit) (hr v hu) w' (hS _ _ hb hs) ?_
      intro j oj d hl hj hd
      by_cases hji : j = i
      · subst hji
        obtain rfl : o = oj := Option.some.inj (ho.symm.trans hj)
        rw [hd, put_getD_same _ _ _ (fitB_lt hfit ho hd)]
        exact hv
      · rw [getD_set_ne true (Ne.symm hji)] at hl
        rw [put_getD_ne _ _ _ _ (fun he => fitB_ne hfit hj ho hd he hji rfl)]
        exact hV _ _ _ _ hb (hf j oj d hl hj hd)
    unfold Go.wpOp
    simp only [ho]
    rcases hst with ⟨hw, hst⟩ | ⟨hw, hu, hv⟩
    · simp only [hw, if_true]
      refine .inl (hst w hs (fun e he hb oj d hj hd => hf e.on oj d ?_ hj hd) _ _ key)
      have h1 := hall e he hb
      rcases Nat.lt_or_ge e.on listed.size with h' | h'
      · simp [h'] at h1 ⊢; exact h1
      · simp [Array.getElem?_eq_none h']
    · simp only [hw, Bool.false_eq_true, if_false]
      exact key undef w hu (hv w) (Below.refl _ _)⟩

theorem AnyRM.first {m i : Nat} {oi om : Oper} (hi : ops[i]? = some oi) (hm : ops[m]? = some om) (hdep : ∃ e ∈ om.after, Region.binds md e = true ∧ e.on = i) (hsel : ∀ (j : Nat) (o : Oper) cs b, ops[j]? = some o → o.op ≠ .select cs b) :
    ∀ (fuel : Nat) (listed : Array Bool) (a : Act), fitB ops a.tmps.size = true →
      (∀ j oj, ops[j]? = some oj → j ≠ i → listed.getD j true = false → (∀ e ∈ oj.after, Region.binds md e = true → e.on ≠ i) → oi.apart ops oj = true) →
      i ∈ Region.ready md ops listed → (∃ v, U i (depVals md ops oi a) v) → StepsR P md ops S U V i oi a →
      (∀ v, U i (depVals md ops oi a) v → AnyRM P md ops Q S U V m fuel (listed.setIfInBounds i true) (a.put oi.dst v)) → AnyRM P md ops Q S U V m (fuel + 1) listed a := by
  have hno : ∀ listed, i ∈ Region.ready md ops listed → m ∉ Region.ready md ops listed := fun listed hr hmr => by
    obtain ⟨_, o', ho', hall⟩ := mem_ready.1 hmr
    obtain rfl : om = o' := Option.some.inj (hm.symm.trans ho')
    obtain ⟨e, he, hb, rfl⟩ := hdep
    have h1 := hall e he hb
    have h0 := (mem_ready.1 hr).1
    rcases Nat.lt_or_ge e.on listed.size with h' | h'
    · simp [h'] at h0 h1; rw [h0] at h1; cases h1
    · simp [Array.getElem?_eq_none h'] at h1
  intro fuel
  induction fuel with
  | zero =>
    intro listed a _ _ hr hU hy H
    refine ⟨fun h => (by rw [h] at hr; cases hr), hno listed hr, fun j hj => ?_⟩
    by_cases hji : j = i
    · subst hji; exact ⟨oi, hi, hU, hy, H⟩
    · obtain ⟨v, hv⟩ := hU
      have := ready_mono hj hji
      rw [(H v hv).1] at this
      obtain rfl : j = m := by simpa using this
      exact absurd hj (hno listed hr)
  | succ fuel ih =>
    intro listed a hfit hfree hr hU hy H
    refine ⟨fun h => (by rw [h] at hr; cases hr), hno listed hr, fun j hj => ?_⟩
    by_cases hji : j = i
    · subst hji; exact ⟨oi, hi, hU, hy, H⟩
    · obtain ⟨v0, hv0⟩ := hU
      obtain ⟨oj, hoj, hUj, hyj, hrest⟩ := (H v0 hv0).2.2 j (ready_mono hj hji)
      obtain ⟨hjun, oj', hoj', hall⟩ := mem_ready.1 hj
      obtain rfl : oj = oj' := Option.some.inj (hoj.symm.trans hoj')
      have hnl : ∀ k, k ∈ Region.ready md ops listed → ∀ ok, ops[k]? = some ok → ∀ m, m ∈ Region.ready md ops listed → ∀ e ∈ ok.after, Region.binds md e = true → e.on ≠ m := by
        intro k hk ok hok m hm e he hb heq
        obtain ⟨_, o', ho', hall'⟩ := mem_ready.1 hk
        obtain rfl : ok = o' := Option.some.inj (hok.symm.trans ho')
        have h1 := hall' e he hb
        have h0 := (mem_ready.1 hm).1
        rw [heq] at h1
        rcases Nat.lt_or_ge m listed.size with h' | h'
        · simp [h'] at h0 h1; rw [h0] at h1; cases h1
        · simp [Array.getElem?_eq_none h'] at h1
      have hnot := hnl j hj oj hoj i hr
      have hnot' := hnl i hr oi hi j hj
      obtain ⟨h1, h2, h3⟩ := Oper.apart_spec (hfree j oj hoj hji hjun hnot)
      have ej : ∀ v, depVals md ops oj (a.put oi.dst v) = depVals md ops oj a := fun v => depVals_put hfit hi hnot
      have ei : ∀ u, depVals md ops oi (a.put oj.dst u) = depVals md ops oi a := fun u => depVals_put hfit hoj hnot'
      rw [ej] at hUj
      have hyj' : StepsR P md ops S U V j oj a := (StepsR.moved hfit hoj hi hji (fun cs b => hsel j oj cs b hoj) h1 hnot).2 hyj
      refine ⟨oj, hoj, hUj, hyj', fun u hu => ?_⟩
      refine ih _ _ (by rw [put_size]; exact hfit) ?_ (ready_mono hr (Ne.symm hji)) ⟨v0, by rw [ei]; exact hv0⟩ ?_ ?_
      · intro k ok hk hki hun hno
        refine hfree k ok hk hki ?_ hno
        by_cases hjk : j = k
        · subst hjk; exact hjun
        · rw [getD_set_ne true hjk] at hun; exact hun
      · exact (StepsR.moved hfit hi hoj (Ne.symm hji) (fun cs b => hsel i oi cs b hi) h3 hnot').1 hy
      · intro v hv
        rw [ei] at hv
        rw [Array.setIfInBounds_comm _ _ hji, ← Act.put_comm a v u h2]
        obtain ⟨oj', hoj', _, _, hrest'⟩ := (H v hv).2.2 j (ready_mono hj hji)
        obtain rfl : oj = oj' := Option.some.inj (hoj.symm.trans hoj')
        exact hrest' u (by rw [ej]; exact hu)

theorem AnyRM.step {m i : Nat} {d : Option Tmp} {oi : Oper} {fuel : Nat} {listed : Array Bool} {a : Act} (hi : ops[i]? = some oi) (hd : oi.dst = d) (hfit : fitB ops a.tmps.size = true) (hw : waits md ops m i = true)
    (hs : Region.noSelect ops = true) (hf : Region.free md ops listed i = true) (hr : (Region.ready md ops listed).contains i = true)
    (hU : ∃ v, U i (depVals md ops oi a) v) (hy : StepsR P md ops S U V i oi a)
    (h : ∀ v, U i (depVals md ops oi a) v → ∀ a', a.put d v = a' → AnyRM P md ops Q S U V m fuel (listed.setIfInBounds i true) a') : AnyRM P md ops Q S U V m (fuel + 1) listed a := by
  unfold waits at hw
  cases hm : ops[m]? with
  | none => rw [hm] at hw; cases hw
  | some om =>
    rw [hm] at hw
    simp only [Option.map_some, Option.getD_some, Array.any_eq_true', Bool.and_eq_true, beq_iff_eq] at hw
    exact AnyRM.first hi hm hw (Region.noSelect_spec hs) fuel listed a hfit (Region.free_spec hi hf) (by simpa using hr) hU hy (fun v hv => h v hv _ (by rw [hd]))
theorem AnyRM.last {m : Nat} {om : Oper} {listed : Array Bool} {a : Act} (hm : ops[m]? = some om) (hr : Region.ready md ops listed = [m]) (hr2 : Region.ready md ops (listed.setIfInBounds m true) = [])
    (hw : Region.wanted om (yielded ops a.tmps) = true) (h : ∀ w, S w → Facts ops V listed a w → ∀ K : Act → World → Prop, (∀ a' w', Q .normal a' w' → K a' w') → om.wp P a w K Q) : AnyRM P md ops Q S U V m 0 listed a :=
  ⟨hr, hr2, fun w hS hF => by
    unfold Go.wpOp
    simp only [hm, hw, if_true]
    exact .inl (h w hS hF _ fun _ _ hq => hq)⟩
theorem region_stepsRM {id m n : Nat} {a : Act} {w : World} (hn : ops.size = n + 1) (hm : P.follows .mixedOrders = true) (hS : ∀ w w', Below w.heap.size w w' → S w → S w') (hV : ∀ i v w w', Below w.heap.size w w' → V i v w → V i v w') (hfit : fitB ops a.tmps.size = true) (h0 : S w.drew)
    (h : AnyRM P .any ops Q S U V m n (Array.replicate ops.size false) a) : (Code.region id ops true).wp P Q a w :=
  wp_region_any hm (by
    have := AnyRM.any hS hV _ _ _ hfit h w.drew h0 (fun j oj d hl hj _ => by
      have hlt := (Array.getElem?_eq_some_iff.1 hj).1
      simp [Array.getD, hlt] at hl)
    rw [hn] at this ⊢
    exact this)
/-- An operation that makes memory, or only yields. -/
theorem StepsR.made {i : Nat} {o : Oper} {a : Act} (hw : Region.wanted o (yielded ops a.tmps) = true)
    (h : ∀ w, S w → Deps md ops V o a w → ∃ v w', (execOp a.eval o).run P w = .ok (.value v) w' ∧ U i (depVals md ops o a) v ∧ V i v w' ∧ Below w.heap.size w w') : StepsR P md ops S U V i o a :=
  .inl ⟨hw, fun w hS hD K Q hK => by obtain ⟨v, w', h1, h2, h3, h4⟩ := h w hS hD; unfold Oper.wp; rw [h1]; exact hK v w' h2 h3 h4⟩
end
end Go.Proofs.YtdpkhliojbeglaaDoor

/- A region that draws its order, as Rv, where some last operations, each ready alone, do what they like (a store and what waits for it). Nothing of the program is used. -/
namespace Go.Proofs.YtdpkhliojbeglaaDoor
open Go Go.RowKit

section
variable {P : Program} {ops : Array Oper} {Q : Exit → Act → World → Prop} {md : Region.Mode} {S : World → Prop} {U : Nat → List Value → Value → Prop} {V : Nat → Value → World → Prop}

def AnyRT (P : Program) (md : Region.Mode) (ops : Array Oper) (Q : Exit → Act → World → Prop) (S : World → Prop) (U : Nat → List Value → Value → Prop) (V : Nat → Value → World → Prop) (m r : Nat) : Nat → Array Bool → Act → Prop
  | 0, listed, a => Region.ready md ops listed = [m] ∧ ∀ w, S w → Facts ops V listed a w → wpAny P md ops Q r listed a w
  | fuel + 1, listed, a =>
    Region.ready md ops listed ≠ [] ∧ m ∉ Region.ready md ops listed ∧
    ∀ i ∈ Region.ready md ops listed, ∃ o, ops[i]? = some o ∧ (∃ v, U i (depVals md ops o a) v) ∧ StepsR P md ops S U V i o a ∧ ∀ v, U i (depVals md ops o a) v → AnyRT P md ops Q S U V m r fuel (listed.setIfInBounds i true) (a.put o.dst v)

theorem AnyRT.any {m r : Nat} (hS : ∀ w w', Below w.heap.size w w' → S w → S w') (hV : ∀ i v w w', Below w.heap.size w w' → V i v w → V i v w') :
    ∀ (fuel : Nat) (listed : Array Bool) (a : Act), fitB ops a.tmps.size = true → AnyRT P md ops Q S U V m r fuel listed a → ∀ w, S w → Facts ops V listed a w → wpAny P md ops Q (fuel + r) listed a w
  | 0, _, _, _, h, w, hs, hf => by rw [Nat.zero_add]; exact h.2 w hs hf
  | fuel + 1, listed, a, hfit, h, w, hs, hf => by
   rw [show fuel + 1 + r = (fuel + r) + 1 by omega]
   exact ⟨fun h0 => absurd h0 h.1, fun i hi => by
    obtain ⟨o, ho, _, hst, hr⟩ := h.2.2 i hi
    obtain ⟨hun, o', ho', hall⟩ := mem_ready.1 hi
    obtain rfl : o = o' := Option.some.inj (ho.symm.trans ho')
    have key : ∀ v w', U i (depVals md ops o a) v → V i v w' → Below w.heap.size w w' → wpAny P md ops Q (fuel + r) (listed.setIfInBounds i true) (a.put o.dst v) w' := by
      intro v w' hu hv hb
      refine AnyRT.any hS hV fuel _ _ (by rw [put_size]; exact hfit) (hr v hu) w' (hS _ _ hb hs) ?_
      intro j oj d hl hj hd
      by_cases hji : j = i
      · subst hji
        obtain rfl : o = oj := Option.some.inj (ho.symm.trans hj)
        rw [hd, put_getD_same _ _ _ (fitB_lt hfit ho hd)]
        exact hv
      · rw [getD_set_ne true (Ne.symm hji)] at hl
        rw [put_getD_ne _ _ _ _ (fun he => fitB_ne hfit hj ho hd he hji rfl)]
        exact hV _ _ _ _ hb (hf j oj d hl hj hd)
    unfold Go.wpOp
    simp only [ho]
    rcases hst with ⟨hw, hst⟩ | ⟨hw, hu, hv⟩
    · simp only [hw, if_true]
      refine .inl (hst w hs (fun e he hb oj d hj hd => hf e.on oj d ?_ hj hd) _ _ key)
      have h1 := hall e he hb
      rcases Nat.lt_or_ge e.on listed.size with h' | h'
      · simp [h'] at h1 ⊢; exact h1
      · simp [Array.getElem?_eq_none h']
    · simp only [hw, Bool.false_eq_true, if_false]
      exact key undef w hu (hv w) (Below.refl _ _)⟩

/-- Each one waits for the next one. -/
def chainOk (md : Region.Mode) (ops : Array Oper) : List Nat → Bool
  | a :: b :: r => waits md ops a b && chainOk md ops (b :: r)
  | _ => true
theorem waits_on {m i : Nat} {om : Oper} (hm : ops[m]? = some om) (hw : waits md ops m i = true) : ∃ e ∈ om.after, Region.binds md e = true ∧ e.on = i := by
  unfold waits at hw
  rw [hm] at hw
  simpa only [Option.map_some, Option.getD_some, Array.any_eq_true', Bool.and_eq_true, beq_iff_eq] using hw
theorem chain_next : ∀ (path : List Nat) (i p : Nat), chainOk md ops path = true → path.getLast? = some i → p ∈ path → p ≠ i → ∃ b ∈ path, waits md ops p b = true
  | [], _, _, _, _, h, _ => by simp at h
  | [a], i, p, _, hl, h, hne => by
    simp only [List.getLast?_singleton, Option.some.injEq] at hl
    simp only [List.mem_singleton] at h
    exact absurd (h.trans hl) hne
  | a :: b :: r, i, p, hc, hl, h, hne => by
    simp only [chainOk, Bool.and_eq_true] at hc
    rcases List.mem_cons.1 h with rfl | h
    · exact ⟨b, List.mem_cons_of_mem _ (List.mem_cons_self ..), hc.1⟩
    · obtain ⟨c, h1, h2⟩ := chain_next (b :: r) i p hc.2 (by simpa using hl) h hne
      exact ⟨c, List.mem_cons_of_mem _ h1, h2⟩
theorem not_ready {listed : Array Bool} {p b : Nat} (hw : waits md ops p b = true) (hun : listed.getD b true = false) : p ∉ Region.ready md ops listed := fun hr => by
  obtain ⟨_, o, ho, hall⟩ := mem_ready.1 hr
  obtain ⟨e, he, hb, rfl⟩ := waits_on ho hw
  have h1 := hall e he hb
  rcases Nat.lt_or_ge e.on listed.size with h' | h'
  · simp [h'] at hun h1; rw [hun] at h1; cases h1
  · simp [Array.getElem?_eq_none h'] at h1
theorem AnyRT.first {m i r : Nat} {oi : Oper} (hi : ops[i]? = some oi) (path : List Nat) (hc : chainOk md ops (m :: path) = true) (hlast : path.getLast? = some i) (hsel : ∀ (j : Nat) (o : Oper) cs b, ops[j]? = some o → o.op ≠ .select cs b) :
    ∀ (fuel : Nat) (listed : Array Bool) (a : Act), (∀ p ∈ path, listed.getD p true = false) → fitB ops a.tmps.size = true →
      (∀ j oj, ops[j]? = some oj → j ≠ i → listed.getD j true = false → (∀ e ∈ oj.after, Region.binds md e = true → e.on ≠ i) → oi.apart ops oj = true) →
      i ∈ Region.ready md ops listed → (∃ v, U i (depVals md ops oi a) v) → StepsR P md ops S U V i oi a →
      (∀ v, U i (depVals md ops oi a) v → AnyRT P md ops Q S U V m r fuel (listed.setIfInBounds i true) (a.put oi.dst v)) → AnyRT P md ops Q S U V m r (fuel + 1) listed a := by
  have hno : ∀ listed, (∀ p ∈ path, listed.getD p true = false) → m ∉ Region.ready md ops listed := fun listed hun => by
    cases path with
    | nil => simp at hlast
    | cons b rest =>
      simp only [chainOk, Bool.and_eq_true] at hc
      exact not_ready hc.1 (hun b (List.mem_cons_self ..))
  have hcp : chainOk md ops path = true := by
    cases path with
    | nil => rfl
    | cons b rest =>
      simp only [chainOk, Bool.and_eq_true] at hc
      exact hc.2
  intro fuel
  induction fuel with
  | zero =>
    intro listed a hun0 _ _ hr hU hy H
    refine ⟨fun h => (by rw [h] at hr; cases hr), hno listed hun0, fun j hj => ?_⟩
    by_cases hji : j = i
    · subst hji; exact ⟨oi, hi, hU, hy, H⟩
    · obtain ⟨v, hv⟩ := hU
      have := ready_mono hj hji
      rw [(H v hv).1] at this
      obtain rfl : j = m := by simpa using this
      exact absurd hj (hno listed hun0)
  | succ fuel ih =>
    intro listed a hun0 hfit hfree hr hU hy H
    refine ⟨fun h => (by rw [h] at hr; cases hr), hno listed hun0, fun j hj => ?_⟩
    by_cases hji : j = i
    · subst hji; exact ⟨oi, hi, hU, hy, H⟩
    · obtain ⟨v0, hv0⟩ := hU
      obtain ⟨oj, hoj, hUj, hyj, hrest⟩ := (H v0 hv0).2.2 j (ready_mono hj hji)
      obtain ⟨hjun, oj', hoj', hall⟩ := mem_ready.1 hj
      obtain rfl : oj = oj' := Option.some.inj (hoj.symm.trans hoj')
      have hnl : ∀ k, k ∈ Region.ready md ops listed → ∀ ok, ops[k]? = some ok → ∀ m, m ∈ Region.ready md ops listed → ∀ e ∈ ok.after, Region.binds md e = true → e.on ≠ m := by
        intro k hk ok hok m hm e he hb heq
        obtain ⟨_, o', ho', hall'⟩ := mem_ready.1 hk
        obtain rfl : ok = o' := Option.some.inj (hok.symm.trans ho')
        have h1 := hall' e he hb
        have h0 := (mem_ready.1 hm).1
        rw [heq] at h1
        rcases Nat.lt_or_ge m listed.size with h' | h'
        · simp [h'] at h0 h1; rw [h0] at h1; cases h1
        · simp [Array.getElem?_eq_none h'] at h1
      have hnot := hnl j hj oj hoj i hr
      have hnot' := hnl i hr oi hi j hj
      obtain ⟨h1, h2, h3⟩ := Oper.apart_spec (hfree j oj hoj hji hjun hnot)
      have ej : ∀ v, depVals md ops oj (a.put oi.dst v) = depVals md ops oj a := fun v => depVals_put hfit hi hnot
      have ei : ∀ u, depVals md ops oi (a.put oj.dst u) = depVals md ops oi a := fun u => depVals_put hfit hoj hnot'
      rw [ej] at hUj
      have hyj' : StepsR P md ops S U V j oj a := (StepsR.moved hfit hoj hi hji (fun cs b => hsel j oj cs b hoj) h1 hnot).2 hyj
      refine ⟨oj, hoj, hUj, hyj', fun u hu => ?_⟩
      refine ih _ _ ?hun1 (by rw [put_size]; exact hfit) ?_ (ready_mono hr (Ne.symm hji)) ⟨v0, by rw [ei]; exact hv0⟩ ?_ ?_
      case hun1 =>
        intro p hp
        by_cases hpj : j = p
        · subst hpj
          obtain ⟨b, hb1, hb2⟩ := chain_next path i j hcp hlast hp hji
          exact absurd hj (not_ready hb2 (hun0 b hb1))
        · rw [getD_set_ne true hpj]; exact hun0 p hp
      · intro k ok hk hki hun hno
        refine hfree k ok hk hki ?_ hno
        by_cases hjk : j = k
        · subst hjk; exact hjun
        · rw [getD_set_ne true hjk] at hun; exact hun
      · exact (StepsR.moved hfit hi hoj (Ne.symm hji) (fun cs b => hsel i oi cs b hi) h3 hnot').1 hy
      · intro v hv
        rw [ei] at hv
        rw [Array.setIfInBounds_comm _ _ hji, ← Act.put_comm a v u h2]
        obtain ⟨oj', hoj', _, _, hrest'⟩ := (H v hv).2.2 j (ready_mono hj hji)
        obtain rfl : oj = oj' := Option.some.inj (hoj.symm.trans hoj')
        exact hrest' u (by rw [ej]; exact hu)

theorem AnyRT.step {m i r : Nat} {d : Option Tmp} {oi : Oper} {fuel : Nat} {listed : Array Bool} {a : Act} (path : List Nat) (hi : ops[i]? = some oi) (hd : oi.dst = d) (hfit : fitB ops a.tmps.size = true) (hc : (chainOk md ops (m :: path) && (path.getLast? == some i) && path.all fun p => !listed.getD p true) = true)
    (hs : Region.noSelect ops = true) (hf : Region.free md ops listed i = true) (hr : (Region.ready md ops listed).contains i = true)
    (hU : ∃ v, U i (depVals md ops oi a) v) (hy : StepsR P md ops S U V i oi a)
    (h : ∀ v, U i (depVals md ops oi a) v → ∀ a', a.put d v = a' → AnyRT P md ops Q S U V m r fuel (listed.setIfInBounds i true) a') : AnyRT P md ops Q S U V m r (fuel + 1) listed a := by
  simp only [Bool.and_eq_true, beq_iff_eq, List.all_eq_true, Bool.not_eq_true'] at hc
  exact AnyRT.first hi path hc.1.1 hc.1.2 (Region.noSelect_spec hs) fuel listed a hc.2 hfit (Region.free_spec hi hf) (by simpa using hr) hU hy (fun v hv => h v hv _ (by rw [hd]))
theorem AnyRT.last {m r : Nat} {listed : Array Bool} {a : Act} (hr : Region.ready md ops listed = [m]) (h : ∀ w, S w → Facts ops V listed a w → wpAny P md ops Q r listed a w) : AnyRT P md ops Q S U V m r 0 listed a := ⟨hr, h⟩
/-- One operation that alone is ready, and the rest. -/
theorem wpAny_one {i r : Nat} {listed : Array Bool} {a : Act} {w : World} {o : Oper} (hr : Region.ready md ops listed = [i]) (ho : ops[i]? = some o) (hw : Region.wanted o (yielded ops a.tmps) = true)
    (h : o.wp P a w (fun a' w' => wpAny P md ops Q r (listed.setIfInBounds i true) a' w') Q) : wpAny P md ops Q (r + 1) listed a w :=
  ⟨fun h0 => (by rw [hr] at h0; cases h0), fun j hj => by
    rw [hr] at hj
    obtain rfl : j = i := by simpa using hj
    unfold Go.wpOp
    simp only [ho, hw, if_true]
    exact .inl h⟩
theorem wpAny_none {listed : Array Bool} {a : Act} {w : World} (hr : Region.ready md ops listed = []) (h : Q .normal a w) : wpAny P md ops Q 0 listed a w := ⟨hr, h⟩
theorem region_stepsRT {id m n r : Nat} {a : Act} {w : World} (hn : ops.size = n + r) (hm : P.follows .mixedOrders = true) (hS : ∀ w w', Below w.heap.size w w' → S w → S w') (hV : ∀ i v w w', Below w.heap.size w w' → V i v w → V i v w') (hfit : fitB ops a.tmps.size = true) (h0 : S w.drew)
    (h : AnyRT P .any ops Q S U V m r n (Array.replicate ops.size false) a) : (Code.region id ops true).wp P Q a w :=
  wp_region_any hm (by
    have := AnyRT.any hS hV _ _ _ hfit h w.drew h0 (fun j oj d hl hj _ => by
      have hlt := (Array.getElem?_eq_some_iff.1 hj).1
      simp [Array.getD, hlt] at hl)
    rw [hn] at this ⊢
    exact this)
end
end Go.Proofs.YtdpkhliojbeglaaDoor

/- As Rw, where the one in the middle waits for the others by a chain. Nothing of the program is used. -/
namespace Go.Proofs.YtdpkhliojbeglaaDoor
open Go Go.RowKit

section
variable {P : Program} {ops : Array Oper} {Q : Exit → Act → World → Prop} {md : Region.Mode} {S : World → Prop}

theorem AnyT.firstC {m i : Nat} {R : Array Bool → Act → Prop} {oi : Oper} {v : Value} (hi : ops[i]? = some oi) (path : List Nat) (hc : chainOk md ops (m :: path) = true) (hlast : path.getLast? = some i) (hsel : ∀ (j : Nat) (o : Oper) cs b, ops[j]? = some o → o.op ≠ .select cs b) :
    ∀ (fuel : Nat) (listed : Array Bool) (a : Act), (∀ p ∈ path, listed.getD p true = false) →
      (∀ j oj, ops[j]? = some oj → j ≠ i → listed.getD j true = false → (∀ e ∈ oj.after, Region.binds md e = true → e.on ≠ i) → oi.apart ops oj = true) →
      i ∈ Region.ready md ops listed → StepsIf P ops S oi v a →
      AnyT P md ops S m R fuel (listed.setIfInBounds i true) (a.put oi.dst v) → AnyT P md ops S m R (fuel + 1) listed a := by
  have hno : ∀ listed, (∀ p ∈ path, listed.getD p true = false) → m ∉ Region.ready md ops listed := fun listed hun => by
    cases path with
    | nil => simp at hlast
    | cons b rest =>
      simp only [chainOk, Bool.and_eq_true] at hc
      exact not_ready hc.1 (hun b (List.mem_cons_self ..))
  have hcp : chainOk md ops path = true := by
    cases path with
    | nil => rfl
    | cons b rest =>
      simp only [chainOk, Bool.and_eq_true] at hc
      exact hc.2
  intro fuel
  induction fuel with
  | zero =>
    intro listed a hun0 _ hr hy H
    refine ⟨fun h => (by rw [h] at hr; cases hr), hno listed hun0, fun j hj => ?_⟩
    by_cases hji : j = i
    · subst hji; exact ⟨oi, v, hi, hy, H⟩
    · have := ready_mono hj hji
      rw [H.1] at this
      obtain rfl : j = m := by simpa using this
      exact absurd hj (hno listed hun0)
  | succ fuel ih =>
    intro listed a hun0 hfree hr hy H
    refine ⟨fun h => (by rw [h] at hr; cases hr), hno listed hun0, fun j hj => ?_⟩
    by_cases hji : j = i
    · subst hji; exact ⟨oi, v, hi, hy, H⟩
    · obtain ⟨oj, u, hoj, hyj, hrest⟩ := H.2.2 j (ready_mono hj hji)
      obtain ⟨hjun, oj', hoj', hall⟩ := mem_ready.1 hj
      obtain rfl : oj = oj' := Option.some.inj (hoj.symm.trans hoj')
      have hnot : ∀ e ∈ oj.after, Region.binds md e = true → e.on ≠ i := fun e he hb heq => by
        have h1 := hall e he hb
        have h0 := (mem_ready.1 hr).1
        rw [heq] at h1
        rcases Nat.lt_or_ge i listed.size with h' | h'
        · simp [h'] at h0 h1; rw [h0] at h1; cases h1
        · simp [Array.getElem?_eq_none h'] at h1
      obtain ⟨h1, h2, h3⟩ := Oper.apart_spec (hfree j oj hoj hji hjun hnot)
      refine ⟨oj, u, hoj, StepsIf.unput (fun cs b => hsel j oj cs b hoj) h1 hyj, ih _ _ ?hun1 ?_ (ready_mono hr (Ne.symm hji)) (hy.put (fun cs b => hsel i oi cs b hi) h3 (fun d hd => fun e => h2 d hd e)) ?_⟩
      case hun1 =>
        intro p hp
        by_cases hpj : j = p
        · subst hpj
          obtain ⟨b, hb1, hb2⟩ := chain_next path i j hcp hlast hp hji
          exact absurd hj (not_ready hb2 (hun0 b hb1))
        · rw [getD_set_ne true hpj]; exact hun0 p hp
      · intro k ok hk hki hun hno
        refine hfree k ok hk hki ?_ hno
        by_cases hjk : j = k
        · subst hjk; exact hjun
        · rw [getD_set_ne true hjk] at hun; exact hun
      · rw [Array.setIfInBounds_comm _ _ hji, ← Act.put_comm a v u h2]
        exact hrest
theorem AnyT.nextC {m i : Nat} {R : Array Bool → Act → Prop} {d : Option Tmp} {oi : Oper} {v : Value} {fuel : Nat} {listed : Array Bool} {a : Act} (path : List Nat) (hi : ops[i]? = some oi) (hd : oi.dst = d) (hc : (chainOk md ops (m :: path) && (path.getLast? == some i) && path.all fun p => !listed.getD p true) = true)
    (hs : Region.noSelect ops = true) (hf : Region.free md ops listed i = true) (hr : (Region.ready md ops listed).contains i = true) (hy : StepsIf P ops S oi v a)
    (h : ∀ a', a.put d v = a' → AnyT P md ops S m R fuel (listed.setIfInBounds i true) a') : AnyT P md ops S m R (fuel + 1) listed a := by
  simp only [Bool.and_eq_true, beq_iff_eq, List.all_eq_true, Bool.not_eq_true'] at hc
  exact AnyT.firstC hi path hc.1.1 hc.1.2 (Region.noSelect_spec hs) fuel listed a hc.2 (Region.free_spec hi hf) (by simpa using hr) hy (h _ (by rw [hd]))
theorem AnyT.endC {m k : Nat} {listed : Array Bool} {a : Act} (hr : Region.ready md ops listed = [m]) (h : ∀ w, S w → wpAny P md ops Q (k + 1) listed a w) : AnyT P md ops S m (fun l a => ∀ w, S w → wpAny P md ops Q (k + 1) l a w) 0 listed a := ⟨hr, h⟩
theorem wp_callV {P : Program} {o : Oper} {a : Act} {w : World} {f : FuncId} {args : Array Value} {R : Value → World → Prop} {K : Act → World → Prop} {Q : Exit → Act → World → Prop} (h : (execOp a.eval o).run P w = .ok (.enter f args) w)
    (hc : Calls P f args w fun e w' => ∃ v, e = .returned v ∧ R v w') (hK : ∀ v w', R v w' → K (a.put o.dst v) w') : o.wp P a w K Q := by
  unfold Oper.wp
  rw [h]
  refine Calls.mono hc fun e w' he => ?_
  obtain ⟨v, rfl, hR⟩ := he
  exact hK v w' hR
end
end Go.Proofs.YtdpkhliojbeglaaDoor

/- As Rs, where one operation (number m: a store) leads from worlds of a kind S0 to worlds of a kind S1; all others keep the kind. Those that the store need not wait for step in both. Nothing of the program is used. -/
namespace Go.Proofs.YtdpkhliojbeglaaDoor
open Go

section
variable {P : Program} {ops : Array Oper} {Q : Exit → Act → World → Prop} {md : Region.Mode} {S S' S0 S1 : World → Prop}

def StepsL (P : Program) (ops : Array Oper) (S S' : World → Prop) (o : Oper) (v : Value) (a : Act) : Prop :=
  (Region.wanted o (yielded ops a.tmps) = true ∧ ∀ w, S w → ∀ (K : Act → World → Prop) (Q : Exit → Act → World → Prop), (∀ w', S' w' → K (a.put o.dst v) w') → o.wp P a w K Q) ∨
  (Region.wanted o (yielded ops a.tmps) = false ∧ v = undef ∧ ∀ w, S w → S' w)

theorem StepsIf.toL {o : Oper} {v : Value} {a : Act} (h : StepsIf P ops S o v a) : StepsL P ops S S o v a := by
  rcases h with h | h
  · exact .inl h
  · exact .inr ⟨h.1, h.2, fun _ h => h⟩

theorem StepsL.wpOp {i : Nat} {o : Oper} {v : Value} {a : Act} (hi : ops[i]? = some o) (hy : StepsL P ops S S' o v a)
    {K : Act → World → Prop} {w : World} (hS : S w) (h : ∀ w', S' w' → K (a.put o.dst v) w') : wpOp P ops Q i K a w := by
  unfold Go.wpOp
  simp only [hi]
  rcases hy with ⟨hw, hv⟩ | ⟨hw, rfl, hk⟩
  · simp only [hw, if_true]; exact .inl (hv w hS K Q h)
  · simp only [hw, Bool.false_eq_true, if_false]; exact h w (hk w hS)

theorem StepsL.unput {oi oj : Oper} {v u : Value} {a : Act} (hsj : ∀ cs b, oj.op ≠ .select cs b) (h1 : ∀ d, oi.dst = some d → d ∉ oj.looksAt ops) (hyj : StepsL P ops S S' oj u (a.put oi.dst v)) : StepsL P ops S S' oj u a := by
  have hw := wanted_put oj a oi.dst v h1
  unfold StepsL at hyj ⊢
  rw [hw] at hyj
  rcases hyj with ⟨hw', hv⟩ | h
  · refine .inl ⟨hw', fun w hS K Q hK => ?_⟩
    have h0 := hv w hS (fun a' w' => a' = (a.put oi.dst v).put oj.dst u ∧ S' w') (fun _ _ _ => False) (fun w' hS' => ⟨rfl, hS'⟩)
    unfold Oper.wp at *
    rw [execOp_put oj hsj a oi.dst v h1] at h0
    generalize (execOp a.eval oj).run P w = r at *
    have key : ∀ u' w', ((a.put oi.dst v).put oj.dst u' = (a.put oi.dst v).put oj.dst u ∧ S' w') → K (a.put oj.dst u') w' := fun u' w' ⟨he, hS'⟩ => by
      rw [put_cancel he]; exact hK w' hS'
    cases r with
    | ok n w' =>
      cases n <;> simp only [Oper.upon] at h0 ⊢
      case value u => exact key _ _ h0
      case skip => exact key _ _ h0
      case defer d =>
        exfalso
        have := congrArg (fun b : Act => b.defers.length) h0.1
        have hp : ∀ (b : Act) (t : Option Tmp) (u : Value), (b.put t u).defers = b.defers := fun b t u => by cases t <;> rfl
        simp [hp] at this
      case enter f args =>
        refine Calls.mono h0 fun e w'' he => ?_
        cases e with
        | returned u => exact key _ _ he
        | panicked c => exact he.elim
        | outgrown => exact he.elim fun _ h => h.elim fun _ h => h.elim
      case row row args => exact Rows.mono h0 fun u w'' he => key _ _ he
    | halt x w' =>
      cases x <;> simp only [Oper.upon] at h0
  · exact .inr h

/-- What kind the worlds are of: has operation m come up? -/
def kindL (S0 S1 : World → Prop) (m : Nat) (listed : Array Bool) : World → Prop := if listed.getD m true = true then S1 else S0
theorem kindL_set {m i : Nat} {listed : Array Bool} (h : i ≠ m) : kindL S0 S1 m (listed.setIfInBounds i true) = kindL S0 S1 m listed := by
  unfold kindL; rw [getD_set_ne true h]

def AnyL (P : Program) (md : Region.Mode) (ops : Array Oper) (Q : Exit → Act → World → Prop) (S0 S1 : World → Prop) (m : Nat) : Nat → Array Bool → Act → Prop
  | 0, listed, a => Region.ready md ops listed = [] ∧ ∀ w, kindL S0 S1 m listed w → Q .normal a w
  | fuel + 1, listed, a =>
    (Region.ready md ops listed = [] → ∀ w, kindL S0 S1 m listed w → Q .normal a w) ∧
    ∀ i ∈ Region.ready md ops listed, ∃ o v, ops[i]? = some o ∧ StepsL P ops (kindL S0 S1 m listed) (kindL S0 S1 m (listed.setIfInBounds i true)) o v a ∧ AnyL P md ops Q S0 S1 m fuel (listed.setIfInBounds i true) (a.put o.dst v)

theorem AnyL.any {m : Nat} : ∀ (fuel : Nat) (listed : Array Bool) (a : Act), AnyL P md ops Q S0 S1 m fuel listed a → ∀ w, kindL S0 S1 m listed w → wpAny P md ops Q fuel listed a w
  | 0, _, _, h, w, hS => ⟨h.1, h.2 w hS⟩
  | fuel + 1, listed, a, h, w, hS => ⟨fun h0 => h.1 h0 w hS, fun i hi => by
    obtain ⟨o, v, ho, hy, hr⟩ := h.2 i hi
    exact hy.wpOp ho hS fun w' hS' => AnyL.any fuel _ _ hr w' hS'⟩

theorem AnyL.first {m i : Nat} {oi om : Oper} {v : Value} (him : i ≠ m) (hi : ops[i]? = some oi) (hm : ops[m]? = some om) (hsel : ∀ (j : Nat) (o : Oper) cs b, ops[j]? = some o → o.op ≠ .select cs b) :
    ∀ (fuel : Nat) (listed : Array Bool) (a : Act),
      (∀ j oj, ops[j]? = some oj → j ≠ i → listed.getD j true = false → (∀ e ∈ oj.after, Region.binds md e = true → e.on ≠ i) → oi.apart ops oj = true) →
      i ∈ Region.ready md ops listed → (listed.getD m true = false → StepsIf P ops S0 oi v a) → ((listed.getD m true = false ∧ ∃ e ∈ om.after, Region.binds md e = true ∧ e.on = i) ∨ StepsIf P ops S1 oi v a) →
      AnyL P md ops Q S0 S1 m fuel (listed.setIfInBounds i true) (a.put oi.dst v) → AnyL P md ops Q S0 S1 m (fuel + 1) listed a := by
  have hno : ∀ listed, i ∈ Region.ready md ops listed → (∃ e ∈ om.after, Region.binds md e = true ∧ e.on = i) → m ∉ Region.ready md ops listed := fun listed hr hdep hmr => by
    obtain ⟨_, o', ho', hall⟩ := mem_ready.1 hmr
    obtain rfl : om = o' := Option.some.inj (hm.symm.trans ho')
    obtain ⟨e, he, hb, rfl⟩ := hdep
    have h1 := hall e he hb
    have h0 := (mem_ready.1 hr).1
    rcases Nat.lt_or_ge e.on listed.size with h' | h'
    · simp [h'] at h0 h1; rw [h0] at h1; cases h1
    · simp [Array.getElem?_eq_none h'] at h1
  have step : ∀ (listed : Array Bool) (a : Act), (listed.getD m true = false → StepsIf P ops S0 oi v a) → ((listed.getD m true = false ∧ ∃ e ∈ om.after, Region.binds md e = true ∧ e.on = i) ∨ StepsIf P ops S1 oi v a) →
      StepsL P ops (kindL S0 S1 m listed) (kindL S0 S1 m (listed.setIfInBounds i true)) oi v a := fun listed a hy0 hy1 => by
    rw [kindL_set him]
    unfold kindL
    cases hb : listed.getD m true with
    | false => rw [if_neg (by decide)]; exact (hy0 hb).toL
    | true =>
      rw [if_pos rfl]
      rcases hy1 with ⟨h, _⟩ | h
      · rw [hb] at h; cases h
      · exact h.toL
  intro fuel
  induction fuel with
  | zero =>
    intro listed a _ hr hy0 hy1 H
    refine ⟨fun h => (by rw [h] at hr; cases hr), fun j hj => ?_⟩
    by_cases hji : j = i
    · subst hji; exact ⟨oi, v, hi, step listed a hy0 hy1, H⟩
    · have := ready_mono hj hji
      rw [H.1] at this
      cases this
  | succ fuel ih =>
    intro listed a hfree hr hy0 hy1 H
    refine ⟨fun h => (by rw [h] at hr; cases hr), fun j hj => ?_⟩
    by_cases hji : j = i
    · subst hji; exact ⟨oi, v, hi, step listed a hy0 hy1, H⟩
    · obtain ⟨oj, u, hoj, hyj, hrest⟩ := H.2 j (ready_mono hj hji)
      obtain ⟨hjun, oj', hoj', hall⟩ := mem_ready.1 hj
      obtain rfl : oj = oj' := Option.some.inj (hoj.symm.trans hoj')
      have hnot : ∀ e ∈ oj.after, Region.binds md e = true → e.on ≠ i := fun e he hb heq => by
        have h1 := hall e he hb
        have h0 := (mem_ready.1 hr).1
        rw [heq] at h1
        rcases Nat.lt_or_ge i listed.size with h' | h'
        · simp [h'] at h0 h1; rw [h0] at h1; cases h1
        · simp [Array.getElem?_eq_none h'] at h1
      obtain ⟨h1, h2, h3⟩ := Oper.apart_spec (hfree j oj hoj hji hjun hnot)
      rw [kindL_set him, Array.setIfInBounds_comm _ _ (Ne.symm hji), kindL_set him] at hyj
      have hput : ∀ {T : World → Prop}, StepsIf P ops T oi v a → StepsIf P ops T oi v (a.put oj.dst u) := fun h => h.put (fun cs b => hsel i oi cs b hi) h3 (fun d hd => fun e => h2 d hd e)
      refine ⟨oj, u, hoj, StepsL.unput (fun cs b => hsel j oj cs b hoj) h1 hyj, ih _ _ ?_ (ready_mono hr (Ne.symm hji)) ?_ ?_ ?_⟩
      · intro k ok hk hki hun hno
        refine hfree k ok hk hki ?_ hno
        by_cases hjk : j = k
        · subst hjk; exact hjun
        · rw [getD_set_ne true hjk] at hun; exact hun
      · intro hun
        by_cases hjm : j = m
        · subst hjm
          exact hput (hy0 hjun)
        · rw [getD_set_ne true hjm] at hun; exact hput (hy0 hun)
      · rcases hy1 with ⟨hf, hd⟩ | h
        · have hjm : j ≠ m := fun e => hno listed hr hd (by rw [← e]; exact hj)
          exact .inl ⟨by rw [getD_set_ne true hjm]; exact hf, hd⟩
        · exact .inr (hput h)
      · rw [Array.setIfInBounds_comm _ _ hji, ← Act.put_comm a v u h2]
        exact hrest

/-- Take number i, for which the store waits. -/
theorem AnyL.next {m i : Nat} {d : Option Tmp} {oi : Oper} {v : Value} {fuel : Nat} {listed : Array Bool} {a : Act} (hi : ops[i]? = some oi) (hd : oi.dst = d) (hw : (waits md ops m i && !listed.getD m true && !(i == m)) = true)
    (hs : Region.noSelect ops = true) (hf : Region.free md ops listed i = true) (hr : (Region.ready md ops listed).contains i = true) (hy : StepsIf P ops S0 oi v a)
    (h : ∀ a', a.put d v = a' → AnyL P md ops Q S0 S1 m fuel (listed.setIfInBounds i true) a') : AnyL P md ops Q S0 S1 m (fuel + 1) listed a := by
  rw [Bool.and_eq_true, Bool.and_eq_true] at hw
  obtain ⟨⟨hw, hl⟩, him⟩ := hw
  have him : i ≠ m := by simpa using him
  have hl : listed.getD m true = false := by simpa using hl
  unfold waits at hw
  cases hm : ops[m]? with
  | none => rw [hm] at hw; cases hw
  | some om =>
    rw [hm] at hw
    simp only [Option.map_some, Option.getD_some, Array.any_eq_true', Bool.and_eq_true, beq_iff_eq] at hw
    exact AnyL.first him hi hm (Region.noSelect_spec hs) fuel listed a (Region.free_spec hi hf) (by simpa using hr) (fun _ => hy) (.inl ⟨hl, hw⟩) (h _ (by rw [hd]))
/-- Take number i, for which it doesn't, ahead of the store. -/
theorem AnyL.both {m i : Nat} {d : Option Tmp} {oi : Oper} {v : Value} {fuel : Nat} {listed : Array Bool} {a : Act} (hi : ops[i]? = some oi) (hd : oi.dst = d) (hw : (decide (m < ops.size) && !(i == m)) = true)
    (hs : Region.noSelect ops = true) (hf : Region.free md ops listed i = true) (hr : (Region.ready md ops listed).contains i = true) (hy0 : StepsIf P ops S0 oi v a) (hy1 : StepsIf P ops S1 oi v a)
    (h : ∀ a', a.put d v = a' → AnyL P md ops Q S0 S1 m fuel (listed.setIfInBounds i true) a') : AnyL P md ops Q S0 S1 m (fuel + 1) listed a := by
  rw [Bool.and_eq_true] at hw
  obtain ⟨hw, him⟩ := hw
  have him : i ≠ m := by simpa using him
  have hw : m < ops.size := of_decide_eq_true hw
  exact AnyL.first him hi (Array.getElem?_eq_getElem hw) (Region.noSelect_spec hs) fuel listed a (Region.free_spec hi hf) (by simpa using hr) (fun _ => hy0) (.inr hy1) (h _ (by rw [hd]))
/-- Behind the store. -/
theorem AnyL.after {m i : Nat} {d : Option Tmp} {oi : Oper} {v : Value} {fuel : Nat} {listed : Array Bool} {a : Act} (hi : ops[i]? = some oi) (hd : oi.dst = d) (hw : (decide (m < ops.size) && listed.getD m true && !(i == m)) = true)
    (hs : Region.noSelect ops = true) (hf : Region.free md ops listed i = true) (hr : (Region.ready md ops listed).contains i = true) (hy : StepsIf P ops S1 oi v a)
    (h : ∀ a', a.put d v = a' → AnyL P md ops Q S0 S1 m fuel (listed.setIfInBounds i true) a') : AnyL P md ops Q S0 S1 m (fuel + 1) listed a := by
  rw [Bool.and_eq_true, Bool.and_eq_true] at hw
  obtain ⟨⟨hw, hl⟩, him⟩ := hw
  have him : i ≠ m := by simpa using him
  have hw : m < ops.size := of_decide_eq_true hw
  exact AnyL.first him hi (Array.getElem?_eq_getElem hw) (Region.noSelect_spec hs) fuel listed a (Region.free_spec hi hf) (by simpa using hr) (fun h => by rw [hl] at h; cases h) (.inr hy) (h _ (by rw [hd]))
/-- The store, when it alone is left. -/
theorem AnyL.store {m : Nat} {d : Option Tmp} {om : Oper} {v : Value} {fuel : Nat} {listed : Array Bool} {a : Act} (hm : ops[m]? = some om) (hd : om.dst = d) (hr : Region.ready md ops listed = [m]) (hl : (!listed.getD m true && decide (m < listed.size)) = true)
    (hw : Region.wanted om (yielded ops a.tmps) = true) (hy : ∀ w, S0 w → ∀ (K : Act → World → Prop) (Q : Exit → Act → World → Prop), (∀ w', S1 w' → K (a.put d v) w') → om.wp P a w K Q)
    (h : ∀ a', a.put d v = a' → AnyL P md ops Q S0 S1 m fuel (listed.setIfInBounds m true) a') : AnyL P md ops Q S0 S1 m (fuel + 1) listed a := by
  rw [Bool.and_eq_true] at hl
  obtain ⟨hl, hsz⟩ := hl
  have hl : listed.getD m true = false := by simpa using hl
  have hsz : m < listed.size := of_decide_eq_true hsz
  subst hd
  refine ⟨fun h0 => (by rw [hr] at h0; cases h0), fun j hj => ?_⟩
  rw [hr] at hj
  obtain rfl : j = m := by simpa using hj
  have k0 : kindL S0 S1 j listed = S0 := by unfold kindL; rw [hl, if_neg (by decide)]
  have k1 : kindL S0 S1 j (listed.setIfInBounds j true) = S1 := by unfold kindL; rw [if_pos (by simp [hsz])]
  exact ⟨om, v, hm, by rw [k0, k1]; exact .inl ⟨hw, hy⟩, h _ rfl⟩
theorem AnyL.done {m : Nat} {listed : Array Bool} {a : Act} (hr : Region.ready md ops listed = []) (hl : listed.getD m true = true) (h : ∀ w, S1 w → Q .normal a w) : ∀ fuel, AnyL P md ops Q S0 S1 m fuel listed a
  | 0 => ⟨hr, fun w hw => h w (by rw [kindL, if_pos hl] at hw; exact hw)⟩
  | _ + 1 => ⟨fun _ w hw => h w (by rw [kindL, if_pos hl] at hw; exact hw), by rw [hr]; simp⟩
theorem region_stepsL {id m : Nat} {a : Act} {w : World} (hm : P.follows .mixedOrders = true) (hlt : decide (m < ops.size) = true) (hS : S0 w.drew)
    (h : AnyL P .any ops Q S0 S1 m ops.size (Array.replicate ops.size false) a) : (Code.region id ops true).wp P Q a w :=
  wp_region_any hm (AnyL.any _ _ _ h _ (by
    have hlt : m < ops.size := of_decide_eq_true hlt
    have : (Array.replicate ops.size false).getD m true = false := by simp [hlt]
    rw [kindL, this, if_neg (by decide)]; exact hS))
end
end Go.Proofs.YtdpkhliojbeglaaDoor

/- As Rs, where some operations (those of the list cs, one after another) lead from worlds of a kind S k to worlds of the kind S (k + 1); all others only read, and yield the same whichever kind the world is of. Nothing of the program is used. -/
namespace Go.Proofs.YtdpkhliojbeglaaDoor
open Go

section
variable {P : Program} {ops : Array Oper} {Q : Exit → Act → World → Prop} {md : Region.Mode} {S : Nat → World → Prop} {cs : List Nat}

/-- How many of them have come up. -/
def levC (cs : List Nat) (listed : Array Bool) : Nat := cs.countP fun c => listed.getD c true
theorem levC_set {i : Nat} {listed : Array Bool} (h : i ∉ cs) : levC cs (listed.setIfInBounds i true) = levC cs listed := by
  unfold levC
  refine List.countP_congr fun c hc => ?_
  rw [getD_set_ne true (show i ≠ c from fun e => h (e ▸ hc))]

def AnyC (P : Program) (md : Region.Mode) (ops : Array Oper) (Q : Exit → Act → World → Prop) (S : Nat → World → Prop) (cs : List Nat) : Nat → Array Bool → Act → Prop
  | 0, listed, a => Region.ready md ops listed = [] ∧ ∀ w, S (levC cs listed) w → Q .normal a w
  | fuel + 1, listed, a =>
    (Region.ready md ops listed = [] → ∀ w, S (levC cs listed) w → Q .normal a w) ∧
    ∀ i ∈ Region.ready md ops listed, ∃ o v, ops[i]? = some o ∧ StepsL P ops (S (levC cs listed)) (S (levC cs (listed.setIfInBounds i true))) o v a ∧ AnyC P md ops Q S cs fuel (listed.setIfInBounds i true) (a.put o.dst v)

theorem AnyC.any : ∀ (fuel : Nat) (listed : Array Bool) (a : Act), AnyC P md ops Q S cs fuel listed a → ∀ w, S (levC cs listed) w → wpAny P md ops Q fuel listed a w
  | 0, _, _, h, w, hS => ⟨h.1, h.2 w hS⟩
  | fuel + 1, listed, a, h, w, hS => ⟨fun h0 => h.1 h0 w hS, fun i hi => by
    obtain ⟨o, v, ho, hy, hr⟩ := h.2 i hi
    exact hy.wpOp ho hS fun w' hS' => AnyC.any fuel _ _ hr w' hS'⟩

theorem AnyC.first {i : Nat} {oi : Oper} {v : Value} (hic : i ∉ cs) (hi : ops[i]? = some oi) (hsel : ∀ (j : Nat) (o : Oper) cs b, ops[j]? = some o → o.op ≠ .select cs b) :
    ∀ (fuel : Nat) (listed : Array Bool) (a : Act),
      (∀ j oj, ops[j]? = some oj → j ≠ i → listed.getD j true = false → (∀ e ∈ oj.after, Region.binds md e = true → e.on ≠ i) → oi.apart ops oj = true) →
      i ∈ Region.ready md ops listed → (∀ k, StepsIf P ops (S k) oi v a) →
      AnyC P md ops Q S cs fuel (listed.setIfInBounds i true) (a.put oi.dst v) → AnyC P md ops Q S cs (fuel + 1) listed a := by
  intro fuel
  induction fuel with
  | zero =>
    intro listed a _ hr hy H
    refine ⟨fun h => (by rw [h] at hr; cases hr), fun j hj => ?_⟩
    by_cases hji : j = i
    · subst hji; exact ⟨oi, v, hi, by rw [levC_set hic]; exact (hy _).toL, H⟩
    · have := ready_mono hj hji
      rw [H.1] at this
      cases this
  | succ fuel ih =>
    intro listed a hfree hr hy H
    refine ⟨fun h => (by rw [h] at hr; cases hr), fun j hj => ?_⟩
    by_cases hji : j = i
    · subst hji; exact ⟨oi, v, hi, by rw [levC_set hic]; exact (hy _).toL, H⟩
    · obtain ⟨oj, u, hoj, hyj, hrest⟩ := H.2 j (ready_mono hj hji)
      obtain ⟨hjun, oj', hoj', hall⟩ := mem_ready.1 hj
      obtain rfl : oj = oj' := Option.some.inj (hoj.symm.trans hoj')
      have hnot : ∀ e ∈ oj.after, Region.binds md e = true → e.on ≠ i := fun e he hb heq => by
        have h1 := hall e he hb
        have h0 := (mem_ready.1 hr).1
        rw [heq] at h1
        rcases Nat.lt_or_ge i listed.size with h' | h'
        · simp [h'] at h0 h1; rw [h0] at h1; cases h1
        · simp [Array.getElem?_eq_none h'] at h1
      obtain ⟨h1, h2, h3⟩ := Oper.apart_spec (hfree j oj hoj hji hjun hnot)
      rw [levC_set hic, Array.setIfInBounds_comm _ _ (Ne.symm hji), levC_set hic] at hyj
      refine ⟨oj, u, hoj, StepsL.unput (fun cs b => hsel j oj cs b hoj) h1 hyj, ih _ _ ?_ (ready_mono hr (Ne.symm hji)) (fun k => (hy k).put (fun cs b => hsel i oi cs b hi) h3 (fun d hd => fun e => h2 d hd e)) ?_⟩
      · intro k ok hk hki hun hno
        refine hfree k ok hk hki ?_ hno
        by_cases hjk : j = k
        · subst hjk; exact hjun
        · rw [getD_set_ne true hjk] at hun; exact hun
      · rw [Array.setIfInBounds_comm _ _ hji, ← Act.put_comm a v u h2]
        exact hrest

/-- Take number i, which reads. -/
theorem AnyC.next {i : Nat} {d : Option Tmp} {oi : Oper} {v : Value} {fuel : Nat} {listed : Array Bool} {a : Act} (hi : ops[i]? = some oi) (hd : oi.dst = d) (hic : (!cs.contains i) = true)
    (hs : Region.noSelect ops = true) (hf : Region.free md ops listed i = true) (hr : (Region.ready md ops listed).contains i = true) (hy : ∀ k, StepsIf P ops (S k) oi v a)
    (h : ∀ a', a.put d v = a' → AnyC P md ops Q S cs fuel (listed.setIfInBounds i true) a') : AnyC P md ops Q S cs (fuel + 1) listed a :=
  AnyC.first (by simpa using hic) hi (Region.noSelect_spec hs) fuel listed a (Region.free_spec hi hf) (by simpa using hr) hy (h _ (by rw [hd]))
/-- Take the next one of cs, which alone is ready. -/
theorem AnyC.turn {i k : Nat} {d : Option Tmp} {oi : Oper} {v : Value} {fuel : Nat} {listed : Array Bool} {a : Act} (hi : ops[i]? = some oi) (hd : oi.dst = d)
    (hr : Region.ready md ops listed = [i]) (hl : (levC cs listed == k && levC cs (listed.setIfInBounds i true) == k + 1) = true) (hy : StepsL P ops (S k) (S (k + 1)) oi v a)
    (h : ∀ a', a.put d v = a' → AnyC P md ops Q S cs fuel (listed.setIfInBounds i true) a') : AnyC P md ops Q S cs (fuel + 1) listed a := by
  rw [Bool.and_eq_true, beq_iff_eq, beq_iff_eq] at hl
  refine ⟨fun h0 => (by rw [hr] at h0; cases h0), fun j hj => ?_⟩
  rw [hr] at hj
  obtain rfl : j = i := by simpa using hj
  exact ⟨oi, v, hi, by rw [hl.1, hl.2]; exact hy, h _ (by rw [hd])⟩
theorem AnyC.done {k : Nat} {listed : Array Bool} {a : Act} (hr : Region.ready md ops listed = []) (hl : (levC cs listed == k) = true) (h : ∀ w, S k w → Q .normal a w) : ∀ fuel, AnyC P md ops Q S cs fuel listed a := by
  rw [beq_iff_eq] at hl
  intro fuel
  cases fuel with
  | zero => exact ⟨hr, by rw [hl]; exact h⟩
  | succ f => exact ⟨fun _ => by rw [hl]; exact h, by rw [hr]; simp⟩
theorem region_stepsC {id : Nat} {a : Act} {w : World} (cs : List Nat) (hm : P.follows .mixedOrders = true) (hlt : (levC cs (Array.replicate ops.size false) == 0) = true) (hS : S 0 w.drew)
    (h : AnyC P .any ops Q S cs ops.size (Array.replicate ops.size false) a) : (Code.region id ops true).wp P Q a w :=
  wp_region_any hm (AnyC.any _ _ _ h _ (by rw [beq_iff_eq] at hlt; rw [hlt]; exact hS))
/-- One whose run is known. -/
theorem StepsL.run {S S' : World → Prop} {o : Oper} {v : Value} {a : Act} (hw : Region.wanted o (yielded ops a.tmps) = true) (h : ∀ w, S w → ∃ w', (execOp a.eval o).run P w = .ok (.value v) w' ∧ S' w') : StepsL P ops S S' o v a :=
  .inl ⟨hw, fun w hS K Q hK => by
    obtain ⟨w', hr, hS'⟩ := h w hS
    unfold Oper.wp
    rw [hr]
    exact hK w' hS'⟩
/-- A call that hands back what is known. -/
theorem StepsL.callW {S S' : World → Prop} {o : Oper} {v : Value} {a : Act} {f : FuncId} {args : Array Value} (hw : Region.wanted o (yielded ops a.tmps) = true) (h : ∀ w, S w → (execOp a.eval o).run P w = .ok (.enter f args) w)
    (hc : ∀ w, S w → Calls P f args w fun e w' => e = .returned v ∧ S' w') : StepsL P ops S S' o v a :=
  .inl ⟨hw, fun w hS K Q hK => by
    unfold Oper.wp; rw [h w hS]
    refine Calls.mono (hc w hS) fun e w' he => ?_
    obtain ⟨rfl, hS'⟩ := he
    exact hK w' hS'⟩
/-- The worlds one by one. -/
def lvl (ws : List World) (k : Nat) (W : World) : Prop := ws[k]? = some W
theorem lvl.is {ws : List World} {k : Nat} {W X : World} (h : lvl ws k W) (e : ws[k]? = some X) : W = X := Option.some.inj (h.symm.trans e)
theorem lvl.mem {ws : List World} {k : Nat} {W : World} (h : lvl ws k W) : W ∈ ws := List.mem_of_getElem? h
theorem StepsL.lev {ws : List World} {k : Nat} {X Y : World} {o : Oper} {v : Value} {a : Act} (e1 : ws[k]? = some X) (e2 : ws[k + 1]? = some Y) (hw : Region.wanted o (yielded ops a.tmps) = true) (h : (execOp a.eval o).run P X = .ok (.value v) Y) : StepsL P ops (lvl ws k) (lvl ws (k + 1)) o v a :=
  .inl ⟨hw, fun w hS K Q hK => by
    rw [hS.is e1]
    unfold Oper.wp
    rw [h]
    exact hK Y e2⟩
theorem StepsL.levStore {ws : List World} {k : Nat} {X Y : World} {o : Oper} {a : Act} (e1 : ws[k]? = some X) (e2 : ws[k + 1]? = some Y) (hw : Region.wanted o (yielded ops a.tmps) = true) (h : (execOp a.eval o).run P X = .ok .skip Y) : StepsL P ops (lvl ws k) (lvl ws (k + 1)) o undef a :=
  .inl ⟨hw, fun w hS K Q hK => by
    rw [hS.is e1]
    unfold Oper.wp
    rw [h]
    simp only [Oper.upon]
    exact hK Y e2⟩
end
end Go.Proofs.YtdpkhliojbeglaaDoor

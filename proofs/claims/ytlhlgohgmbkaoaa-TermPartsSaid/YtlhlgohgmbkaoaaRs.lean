/- A region that draws its order, where each operation, in every world of a kind S, yields one value and leads to a world of that kind: whatever the order is, the end is the same. Nothing of the program is used. -/
import Derived.OrdersHeld
import Derived.WalkKit
namespace Go.Proofs.Ytlhlgohgmbkaoaa
open Go

section
variable {P : Program} {ops : Array Oper} {Q : Exit → Act → World → Prop} {md : Region.Mode} {S : World → Prop}

/-- In state a, in every world that meets S, operation o leaves v in its temporary, and a world that meets S. -/
def StepsIf (P : Program) (ops : Array Oper) (S : World → Prop) (o : Oper) (v : Value) (a : Act) : Prop :=
  (Region.wanted o (yielded ops a.tmps) = true ∧ ∀ w, S w → ∀ (K : Act → World → Prop) (Q : Exit → Act → World → Prop), (∀ w', S w' → K (a.put o.dst v) w') → o.wp P a w K Q) ∨
  (Region.wanted o (yielded ops a.tmps) = false ∧ v = undef)

theorem StepsIf.wpOp {i : Nat} {o : Oper} {v : Value} {a : Act} (hi : ops[i]? = some o) (hy : StepsIf P ops S o v a)
    {K : Act → World → Prop} {w : World} (hS : S w) (h : ∀ w', S w' → K (a.put o.dst v) w') : wpOp P ops Q i K a w := by
  unfold Go.wpOp
  simp only [hi]
  rcases hy with ⟨hw, hv⟩ | ⟨hw, rfl⟩
  · simp only [hw, if_true]; exact .inl (hv w hS K Q h)
  · simp only [hw, Bool.false_eq_true, if_false]; exact h w hS

/-- What another operation puts elsewhere changes nothing of it. -/
theorem StepsIf.put {o : Oper} {v : Value} {a : Act} {x : Option Tmp} {y : Value} (hs : ∀ cs b, o.op ≠ .select cs b) (h1 : ∀ d, x = some d → d ∉ o.looksAt ops) (h2 : ∀ d, o.dst = some d → x ≠ some d)
    (hy : StepsIf P ops S o v a) : StepsIf P ops S o v (a.put x y) := by
  unfold StepsIf at *
  rw [wanted_put o a x y h1]
  rcases hy with ⟨hw, hv⟩ | h
  · refine .inl ⟨hw, fun w hS K Q hK => ?_⟩
    have h0 := hv w hS (fun a' w' => a' = a.put o.dst v ∧ S w') (fun _ _ _ => False) (fun w' hS' => ⟨rfl, hS'⟩)
    unfold Oper.wp at *
    rw [execOp_put o hs a x y h1]
    generalize (execOp a.eval o).run P w = r at *
    have key : ∀ u w', (a.put o.dst u = a.put o.dst v ∧ S w') → K ((a.put x y).put o.dst u) w' := fun u w' ⟨he, hS'⟩ => by
      have e : (a.put x y).put o.dst u = (a.put x y).put o.dst v := by
        rw [← Act.put_comm a u y h2, ← Act.put_comm a v y h2, he]
      rw [e]; exact hK w' hS'
    cases r with
    | ok n w' =>
      cases n <;> simp only [Oper.upon] at h0 ⊢
      case value u => exact key _ _ h0
      case skip => exact key _ _ h0
      case defer d =>
        exfalso
        have := congrArg (fun b : Act => b.defers.length) h0.1
        have hp : ∀ (b : Act) (t : Option Tmp) (u : Value), (b.put t u).defers = b.defers := fun b t u => by cases t <;> rfl
        simp [hp] at this
      case enter f args =>
        refine Calls.mono h0 fun e w'' he => ?_
        cases e with
        | returned u => exact key _ _ he
        | panicked c => exact he.elim
        | outgrown => exact he.elim fun _ h => h.elim fun _ h => h.elim
      case row row args => exact Rows.mono h0 fun u w'' he => key _ _ he
    | halt x w' =>
      cases x <;> simp only [Oper.upon] at h0
  · exact .inr h

/-- Whatever order is picked from here on, in every world that meets S. -/
def AnyS (P : Program) (md : Region.Mode) (ops : Array Oper) (Q : Exit → Act → World → Prop) (S : World → Prop) : Nat → Array Bool → Act → Prop
  | 0, listed, a => Region.ready md ops listed = [] ∧ ∀ w, S w → Q .normal a w
  | fuel + 1, listed, a =>
    (Region.ready md ops listed = [] → ∀ w, S w → Q .normal a w) ∧
    ∀ i ∈ Region.ready md ops listed, ∃ o v, ops[i]? = some o ∧ StepsIf P ops S o v a ∧ AnyS P md ops Q S fuel (listed.setIfInBounds i true) (a.put o.dst v)

theorem AnyS.any : ∀ (fuel : Nat) (listed : Array Bool) (a : Act), AnyS P md ops Q S fuel listed a → ∀ w, S w → wpAny P md ops Q fuel listed a w
  | 0, _, _, h, w, hS => ⟨h.1, h.2 w hS⟩
  | fuel + 1, listed, a, h, w, hS => ⟨fun h0 => h.1 h0 w hS, fun i hi => by
    obtain ⟨o, v, ho, hy, hr⟩ := h.2 i hi
    exact hy.wpOp ho hS fun w' hS' => AnyS.any fuel _ _ hr w' hS'⟩

theorem put_cancel {a : Act} {x y : Option Tmp} {v u u' : Value} (h : (a.put x v).put y u' = (a.put x v).put y u) : a.put y u' = a.put y u := by
  cases y with
  | none => rfl
  | some e =>
    by_cases he : e < a.tmps.size
    · have hs : e < (a.put x v).tmps.size := by cases x <;> simpa [Act.put] using he
      have h1 := congrArg (fun b : Act => b.tmps[e]?) h
      simp only [Act.put] at h1 hs
      cases x with
      | none =>
        simp only [Array.getElem?_setIfInBounds_self_of_lt he] at h1
        rw [Option.some.inj h1]
      | some d =>
        simp only [Array.getElem?_setIfInBounds_self_of_lt hs] at h1
        rw [Option.some.inj h1]
    · simp only [Act.put, Array.setIfInBounds_eq_of_size_le (Nat.le_of_not_lt he)]

theorem AnyS.first {i : Nat} {oi : Oper} {v : Value} (hi : ops[i]? = some oi) (hsel : ∀ (j : Nat) (o : Oper) cs b, ops[j]? = some o → o.op ≠ .select cs b) :
    ∀ (fuel : Nat) (listed : Array Bool) (a : Act),
      (∀ j oj, ops[j]? = some oj → j ≠ i → listed.getD j true = false → (∀ e ∈ oj.after, Region.binds md e = true → e.on ≠ i) → oi.apart ops oj = true) →
      i ∈ Region.ready md ops listed → StepsIf P ops S oi v a →
      AnyS P md ops Q S fuel (listed.setIfInBounds i true) (a.put oi.dst v) → AnyS P md ops Q S (fuel + 1) listed a := by
  intro fuel
  induction fuel with
  | zero =>
    intro listed a _ hr hy H
    refine ⟨fun h => (by rw [h] at hr; cases hr), fun j hj => ?_⟩
    by_cases hji : j = i
    · subst hji; exact ⟨oi, v, hi, hy, H⟩
    · have := ready_mono hj hji
      rw [H.1] at this
      cases this
  | succ fuel ih =>
    intro listed a hfree hr hy H
    refine ⟨fun h => (by rw [h] at hr; cases hr), fun j hj => ?_⟩
    by_cases hji : j = i
    · subst hji; exact ⟨oi, v, hi, hy, H⟩
    · obtain ⟨oj, u, hoj, hyj, hrest⟩ := H.2 j (ready_mono hj hji)
      obtain ⟨hjun, oj', hoj', hall⟩ := mem_ready.1 hj
      obtain rfl : oj = oj' := Option.some.inj (hoj.symm.trans hoj')
      have hnot : ∀ e ∈ oj.after, Region.binds md e = true → e.on ≠ i := fun e he hb heq => by
        have h1 := hall e he hb
        have h0 := (mem_ready.1 hr).1
        rw [heq] at h1
        rcases Nat.lt_or_ge i listed.size with h' | h'
        · simp [h'] at h0 h1; rw [h0] at h1; cases h1
        · simp [Array.getElem?_eq_none h'] at h1
      obtain ⟨h1, h2, h3⟩ := Oper.apart_spec (hfree j oj hoj hji hjun hnot)
      -- oj steps in a as well
      have hyj' : StepsIf P ops S oj u a := by
        have hw := wanted_put oj a oi.dst v h1
        unfold StepsIf at hyj ⊢
        rw [hw] at hyj
        rcases hyj with ⟨hw', hv⟩ | h
        · refine .inl ⟨hw', fun w hS K Q hK => ?_⟩
          have h0 := hv w hS (fun a' w' => a' = (a.put oi.dst v).put oj.dst u ∧ S w') (fun _ _ _ => False) (fun w' hS' => ⟨rfl, hS'⟩)
          unfold Oper.wp at *
          rw [execOp_put oj (fun cs b => hsel j oj cs b hoj) a oi.dst v h1] at h0
          generalize (execOp a.eval oj).run P w = r at *
          have key : ∀ u' w', ((a.put oi.dst v).put oj.dst u' = (a.put oi.dst v).put oj.dst u ∧ S w') → K (a.put oj.dst u') w' := fun u' w' ⟨he, hS'⟩ => by
            rw [put_cancel he]; exact hK w' hS'
          cases r with
          | ok n w' =>
            cases n <;> simp only [Oper.upon] at h0 ⊢
            case value u => exact key _ _ h0
            case skip => exact key _ _ h0
            case defer d =>
              exfalso
              have := congrArg (fun b : Act => b.defers.length) h0.1
              have hp : ∀ (b : Act) (t : Option Tmp) (u : Value), (b.put t u).defers = b.defers := fun b t u => by cases t <;> rfl
              simp [hp] at this
            case enter f args =>
              refine Calls.mono h0 fun e w'' he => ?_
              cases e with
              | returned u => exact key _ _ he
              | panicked c => exact he.elim
              | outgrown => exact he.elim fun _ h => h.elim fun _ h => h.elim
            case row row args => exact Rows.mono h0 fun u w'' he => key _ _ he
          | halt x w' =>
            cases x <;> simp only [Oper.upon] at h0
        · exact .inr h
      refine ⟨oj, u, hoj, hyj', ih _ _ ?_ (ready_mono hr (Ne.symm hji)) (hy.put (fun cs b => hsel i oi cs b hi) h3 (fun d hd => fun e => h2 d hd e)) ?_⟩
      · intro k ok hk hki hun hno
        refine hfree k ok hk hki ?_ hno
        by_cases hjk : j = k
        · subst hjk; exact hjun
        · rw [getD_set_ne true hjk] at hun; exact hun
      · rw [Array.setIfInBounds_comm _ _ hji, ← Act.put_comm a v u h2]
        exact hrest

/-- Take number i next: it may come up, and nobody who could come before it touches its temporaries. -/
theorem AnyS.take {i : Nat} {oi : Oper} {v : Value} {fuel : Nat} {listed : Array Bool} {a : Act} (hi : ops[i]? = some oi)
    (hs : Region.noSelect ops = true) (hf : Region.free md ops listed i = true) (hr : (Region.ready md ops listed).contains i = true) (hy : StepsIf P ops S oi v a)
    (h : AnyS P md ops Q S fuel (listed.setIfInBounds i true) (a.put oi.dst v)) : AnyS P md ops Q S (fuel + 1) listed a :=
  AnyS.first hi (Region.noSelect_spec hs) fuel listed a (Region.free_spec hi hf) (by simpa using hr) hy h
theorem AnyS.done {listed : Array Bool} {a : Act} (hr : Region.ready md ops listed = []) (h : ∀ w, S w → Q .normal a w) : ∀ fuel, AnyS P md ops Q S fuel listed a
  | 0 => ⟨hr, h⟩
  | _ + 1 => ⟨fun _ => h, by rw [hr]; simp⟩
/-- The beginning. -/
theorem region_steps {id : Nat} {a : Act} {w : World} (hm : P.follows .mixedOrders = true) (hS : S w.drew)
    (h : AnyS P .any ops Q S ops.size (Array.replicate ops.size false) a) : (Code.region id ops true).wp P Q a w :=
  wp_region_any hm (AnyS.any _ _ _ h _ hS)
/-- An operation that only yields. -/
theorem StepsIf.yield {o : Oper} {v : Value} {a : Act} (hw : Region.wanted o (yielded ops a.tmps) = true) (h : ∀ w, S w → (execOp a.eval o).run P w = .ok (.value v) w) : StepsIf P ops S o v a :=
  .inl ⟨hw, fun w hS K Q hK => by unfold Oper.wp; rw [h w hS]; exact hK w hS⟩
/-- A call of a Go function. -/
theorem StepsIf.call {o : Oper} {v : Value} {a : Act} {f : FuncId} {args : Array Value} (hw : Region.wanted o (yielded ops a.tmps) = true) (h : ∀ w, S w → (execOp a.eval o).run P w = .ok (.enter f args) w)
    (hc : ∀ w, S w → Calls P f args w fun e w' => e = .returned v ∧ S w') : StepsIf P ops S o v a :=
  .inl ⟨hw, fun w hS K Q hK => by
    unfold Oper.wp; rw [h w hS]
    refine Calls.mono (hc w hS) fun e w' he => ?_
    obtain ⟨rfl, hS'⟩ := he
    exact hK w' hS'⟩
/-- One that its guard passes over. -/
theorem StepsIf.no {o : Oper} {a : Act} (hw : Region.wanted o (yielded ops a.tmps) = false) : StepsIf P ops S o undef a := .inr ⟨hw, rfl⟩
/-- As 'take'; the new state is told by an equation. -/
theorem AnyS.next {i : Nat} {d : Option Tmp} {oi : Oper} {v : Value} {fuel : Nat} {listed : Array Bool} {a : Act} (hi : ops[i]? = some oi) (hd : oi.dst = d)
    (hs : Region.noSelect ops = true) (hf : Region.free md ops listed i = true) (hr : (Region.ready md ops listed).contains i = true) (hy : StepsIf P ops S oi v a)
    (h : ∀ a', a.put d v = a' → AnyS P md ops Q S fuel (listed.setIfInBounds i true) a') : AnyS P md ops Q S (fuel + 1) listed a :=
  AnyS.take hi hs hf hr hy (h _ (by rw [hd]))

/-- As 'next'; the value is found on the way. -/
theorem AnyS.stepE {i : Nat} {d : Option Tmp} {oi : Oper} {fuel : Nat} {listed : Array Bool} {a : Act} (hi : ops[i]? = some oi) (hd : oi.dst = d)
    (hs : Region.noSelect ops = true) (hf : Region.free md ops listed i = true) (hr : (Region.ready md ops listed).contains i = true)
    (h : ∃ v, StepsIf P ops S oi v a ∧ ∀ a', a.put d v = a' → AnyS P md ops Q S fuel (listed.setIfInBounds i true) a') : AnyS P md ops Q S (fuel + 1) listed a := by
  obtain ⟨v, hy, h⟩ := h
  exact AnyS.next hi hd hs hf hr hy h

/-! ### The same, where one last operation, which waits for all others, does what it likes (a store). -/
def AnyM (P : Program) (md : Region.Mode) (ops : Array Oper) (Q : Exit → Act → World → Prop) (S : World → Prop) (m : Nat) : Nat → Array Bool → Act → Prop
  | 0, listed, a => Region.ready md ops listed = [m] ∧ Region.ready md ops (listed.setIfInBounds m true) = [] ∧ ∀ w, S w → Go.wpOp P ops Q m (fun a' w' => Q .normal a' w') a w
  | fuel + 1, listed, a =>
    Region.ready md ops listed ≠ [] ∧ m ∉ Region.ready md ops listed ∧
    ∀ i ∈ Region.ready md ops listed, ∃ o v, ops[i]? = some o ∧ StepsIf P ops S o v a ∧ AnyM P md ops Q S m fuel (listed.setIfInBounds i true) (a.put o.dst v)

theorem AnyM.any {m : Nat} : ∀ (fuel : Nat) (listed : Array Bool) (a : Act), AnyM P md ops Q S m fuel listed a → ∀ w, S w → wpAny P md ops Q (fuel + 1) listed a w
  | 0, _, _, h, w, hS => ⟨fun h0 => (by rw [h.1] at h0; cases h0), fun i hi => by
    rw [h.1] at hi
    obtain rfl : i = m := by simpa using hi
    exact wpOp_mono (fun a' w' hq => ⟨h.2.1, hq⟩) (h.2.2 w hS)⟩
  | fuel + 1, listed, a, h, w, hS => ⟨fun h0 => absurd h0 h.1, fun i hi => by
    obtain ⟨o, v, ho, hy, hr⟩ := h.2.2 i hi
    exact hy.wpOp ho hS fun w' hS' => AnyM.any fuel _ _ hr w' hS'⟩

/-- oj steps in a as well as behind what oi has put. -/
theorem StepsIf.unput {oi oj : Oper} {v u : Value} {a : Act} (hsj : ∀ cs b, oj.op ≠ .select cs b) (h1 : ∀ d, oi.dst = some d → d ∉ oj.looksAt ops) (hyj : StepsIf P ops S oj u (a.put oi.dst v)) : StepsIf P ops S oj u a := by
  have hw := wanted_put oj a oi.dst v h1
  unfold StepsIf at hyj ⊢
  rw [hw] at hyj
  rcases hyj with ⟨hw', hv⟩ | h
  · refine .inl ⟨hw', fun w hS K Q hK => ?_⟩
    have h0 := hv w hS (fun a' w' => a' = (a.put oi.dst v).put oj.dst u ∧ S w') (fun _ _ _ => False) (fun w' hS' => ⟨rfl, hS'⟩)
    unfold Oper.wp at *
    rw [execOp_put oj hsj a oi.dst v h1] at h0
    generalize (execOp a.eval oj).run P w = r at *
    have key : ∀ u' w', ((a.put oi.dst v).put oj.dst u' = (a.put oi.dst v).put oj.dst u ∧ S w') → K (a.put oj.dst u') w' := fun u' w' ⟨he, hS'⟩ => by
      rw [put_cancel he]; exact hK w' hS'
    cases r with
    | ok n w' =>
      cases n <;> simp only [Oper.upon] at h0 ⊢
      case value u => exact key _ _ h0
      case skip => exact key _ _ h0
      case defer d =>
        exfalso
        have := congrArg (fun b : Act => b.defers.length) h0.1
        have hp : ∀ (b : Act) (t : Option Tmp) (u : Value), (b.put t u).defers = b.defers := fun b t u => by cases t <;> rfl
        simp [hp] at this
      case enter f args =>
        refine Calls.mono h0 fun e w'' he => ?_
        cases e with
        | returned u => exact key _ _ he
        | panicked c => exact he.elim
        | outgrown => exact he.elim fun _ h => h.elim fun _ h => h.elim
      case row row args => exact Rows.mono h0 fun u w'' he => key _ _ he
    | halt x w' =>
      cases x <;> simp only [Oper.upon] at h0
  · exact .inr h

theorem AnyM.first {m i : Nat} {oi om : Oper} {v : Value} (hi : ops[i]? = some oi) (hm : ops[m]? = some om) (hdep : ∃ e ∈ om.after, Region.binds md e = true ∧ e.on = i) (hsel : ∀ (j : Nat) (o : Oper) cs b, ops[j]? = some o → o.op ≠ .select cs b) :
    ∀ (fuel : Nat) (listed : Array Bool) (a : Act),
      (∀ j oj, ops[j]? = some oj → j ≠ i → listed.getD j true = false → (∀ e ∈ oj.after, Region.binds md e = true → e.on ≠ i) → oi.apart ops oj = true) →
      i ∈ Region.ready md ops listed → StepsIf P ops S oi v a →
      AnyM P md ops Q S m fuel (listed.setIfInBounds i true) (a.put oi.dst v) → AnyM P md ops Q S m (fuel + 1) listed a := by
  have hno : ∀ listed, i ∈ Region.ready md ops listed → m ∉ Region.ready md ops listed := fun listed hr hmr => by
    obtain ⟨_, o', ho', hall⟩ := mem_ready.1 hmr
    obtain rfl : om = o' := Option.some.inj (hm.symm.trans ho')
    obtain ⟨e, he, hb, rfl⟩ := hdep
    have h1 := hall e he hb
    have h0 := (mem_ready.1 hr).1
    rcases Nat.lt_or_ge e.on listed.size with h' | h'
    · simp [h'] at h0 h1; rw [h0] at h1; cases h1
    · simp [Array.getElem?_eq_none h'] at h1
  intro fuel
  induction fuel with
  | zero =>
    intro listed a _ hr hy H
    refine ⟨fun h => (by rw [h] at hr; cases hr), hno listed hr, fun j hj => ?_⟩
    by_cases hji : j = i
    · subst hji; exact ⟨oi, v, hi, hy, H⟩
    · have := ready_mono hj hji
      rw [H.1] at this
      obtain rfl : j = m := by simpa using this
      exact absurd hj (hno listed hr)
  | succ fuel ih =>
    intro listed a hfree hr hy H
    refine ⟨fun h => (by rw [h] at hr; cases hr), hno listed hr, fun j hj => ?_⟩
    by_cases hji : j = i
    · subst hji; exact ⟨oi, v, hi, hy, H⟩
    · obtain ⟨oj, u, hoj, hyj, hrest⟩ := H.2.2 j (ready_mono hj hji)
      obtain ⟨hjun, oj', hoj', hall⟩ := mem_ready.1 hj
      obtain rfl : oj = oj' := Option.some.inj (hoj.symm.trans hoj')
      have hnot : ∀ e ∈ oj.after, Region.binds md e = true → e.on ≠ i := fun e he hb heq => by
        have h1 := hall e he hb
        have h0 := (mem_ready.1 hr).1
        rw [heq] at h1
        rcases Nat.lt_or_ge i listed.size with h' | h'
        · simp [h'] at h0 h1; rw [h0] at h1; cases h1
        · simp [Array.getElem?_eq_none h'] at h1
      obtain ⟨h1, h2, h3⟩ := Oper.apart_spec (hfree j oj hoj hji hjun hnot)
      refine ⟨oj, u, hoj, StepsIf.unput (fun cs b => hsel j oj cs b hoj) h1 hyj, ih _ _ ?_ (ready_mono hr (Ne.symm hji)) (hy.put (fun cs b => hsel i oi cs b hi) h3 (fun d hd => fun e => h2 d hd e)) ?_⟩
      · intro k ok hk hki hun hno
        refine hfree k ok hk hki ?_ hno
        by_cases hjk : j = k
        · subst hjk; exact hjun
        · rw [getD_set_ne true hjk] at hun; exact hun
      · rw [Array.setIfInBounds_comm _ _ hji, ← Act.put_comm a v u h2]
        exact hrest

/-- Does operation m wait for operation i? -/
def waits (md : Region.Mode) (ops : Array Oper) (m i : Nat) : Bool := ((ops[m]?).map fun o => o.after.any fun e => Region.binds md e && e.on == i).getD false

theorem AnyM.next {m i : Nat} {d : Option Tmp} {oi : Oper} {v : Value} {fuel : Nat} {listed : Array Bool} {a : Act} (hi : ops[i]? = some oi) (hd : oi.dst = d) (hw : waits md ops m i = true)
    (hs : Region.noSelect ops = true) (hf : Region.free md ops listed i = true) (hr : (Region.ready md ops listed).contains i = true) (hy : StepsIf P ops S oi v a)
    (h : ∀ a', a.put d v = a' → AnyM P md ops Q S m fuel (listed.setIfInBounds i true) a') : AnyM P md ops Q S m (fuel + 1) listed a := by
  unfold waits at hw
  cases hm : ops[m]? with
  | none => rw [hm] at hw; cases hw
  | some om =>
    rw [hm] at hw
    simp only [Option.map_some, Option.getD_some, Array.any_eq_true', Bool.and_eq_true, beq_iff_eq] at hw
    exact AnyM.first hi hm hw (Region.noSelect_spec hs) fuel listed a (Region.free_spec hi hf) (by simpa using hr) hy (h _ (by rw [hd]))
theorem AnyM.stepE {m i : Nat} {d : Option Tmp} {oi : Oper} {fuel : Nat} {listed : Array Bool} {a : Act} (hi : ops[i]? = some oi) (hd : oi.dst = d) (hw : waits md ops m i = true)
    (hs : Region.noSelect ops = true) (hf : Region.free md ops listed i = true) (hr : (Region.ready md ops listed).contains i = true)
    (h : ∃ v, StepsIf P ops S oi v a ∧ ∀ a', a.put d v = a' → AnyM P md ops Q S m fuel (listed.setIfInBounds i true) a') : AnyM P md ops Q S m (fuel + 1) listed a := by
  obtain ⟨v, hy, h⟩ := h
  exact AnyM.next hi hd hw hs hf hr hy h
theorem AnyM.last {m : Nat} {om : Oper} {listed : Array Bool} {a : Act} (hm : ops[m]? = some om) (hr : Region.ready md ops listed = [m]) (hr2 : Region.ready md ops (listed.setIfInBounds m true) = [])
    (hw : Region.wanted om (yielded ops a.tmps) = true) (h : ∀ w, S w → ∀ K : Act → World → Prop, (∀ a' w', Q .normal a' w' → K a' w') → om.wp P a w K Q) : AnyM P md ops Q S m 0 listed a :=
  ⟨hr, hr2, fun w hS => by
    unfold Go.wpOp
    simp only [hm, hw, if_true]
    exact .inl (h w hS _ fun _ _ hq => hq)⟩
theorem region_stepsM {id m : Nat} {a : Act} {w : World} {n : Nat} (hn : ops.size = n + 1) (hm : P.follows .mixedOrders = true) (hS : S w.drew)
    (h : AnyM P .any ops Q S m n (Array.replicate ops.size false) a) : (Code.region id ops true).wp P Q a w :=
  wp_region_any hm (by rw [hn] at h ⊢; exact AnyM.any _ _ _ h _ hS)
end
end Go.Proofs.Ytlhlgohgmbkaoaa

/- Texts put together: Rs Tb Np Nr Rx. -/
import Derived.OrdersHeld
import Derived.WalkKit
import Derived.Test.YtpncomjpmilbkaaDoorChecked
import Derived.Laws.BytesArg
import Derived.Laws.Concat
import Derived.Lib.Hide
import Derived.LoopTactic
import Derived.Laws.ResultCell
/- A region that draws its order, where each operation, in every world of a kind S, yields one value and leads to a world of that kind: whatever the order is, the end is the same. Nothing of the program is used. -/
namespace Go.Proofs.YtpncomjpmilbkaaDoor
open Go

section
variable {P : Program} {ops : Array Oper} {Q : Exit → Act → World → Prop} {md : Region.Mode} {S : World → Prop}

/-- In state a, in every world that meets S, operation o leaves v in its temporary, and a world that meets S. -/
def StepsIf (P : Program) (ops : Array Oper) (S : World → Prop) (o : Oper) (v : Value) (a : Act) : Prop :=
  (Region.wanted o (yielded ops a.tmps) = true ∧ ∀ w, S w → ∀ (K : Act → World → Prop) (Q : Exit → Act → World → Prop), (∀ w', S w' → K (a.put o.dst v) w') → o.wp P a w K Q) ∨
  (Region.wanted o (yielded ops a.tmps) = false ∧ v = undef)

theorem StepsIf.wpOp {i : Nat} {o : Oper} {v : Value} {a : Act} (hi : ops[i]? = some o) (hy : StepsIf P ops S o v a)
    {K : Act → World → Prop} {w : World} (hS : S w) (h : ∀ w', S w' → K (a.put o.dst v) w') : wpOp P ops Q i K a w := by
  unfold Go.wpOp
  simp only [hi]
  rcases hy with ⟨hw, hv⟩ | ⟨hw, rfl⟩
  · simp only [hw, if_true]; exact .inl (hv w hS K Q h)
  · simp only [hw, Bool.false_eq_true, if_false]; exact h w hS

/-- What another operation puts elsewhere changes nothing of it. -/
theorem StepsIf.put {o : Oper} {v : Value} {a : Act} {x : Option Tmp} {y : Value} (hs : ∀ cs b, o.op ≠ .select cs b) (h1 : ∀ d, x = some d → d ∉ o.looksAt ops) (h2 : ∀ d, o.dst = some d → x ≠ some d)
    (hy : StepsIf P ops S o v a) : StepsIf P ops S o v (a.put x y) := by
  unfold StepsIf at *
  rw [wanted_put o a x y h1]
  rcases hy with ⟨hw, hv⟩ | h
  · refine .inl ⟨hw, fun w hS K Q hK => ?_⟩
    have h0 := hv w hS (fun a' w' => a' = a.put o.dst v ∧ S w') (fun _ _ _ => False) (fun w' hS' => ⟨rfl, hS'⟩)
    unfold Oper.wp at *
    rw [execOp_put o hs a x y h1]
    generalize (execOp a.eval o).run P w = r at *
    have key : ∀ u w', (a.put o.dst u = a.put o.dst v ∧ S w') → K ((a.put x y).put o.dst u) w' := fun u w' ⟨he, hS'⟩ => by
      have e : (a.put x y).put o.dst u = (a.put x y).put o.dst v := by
        rw [← Act.put_comm a u y h2, ← Act.put_comm a v y h2, he]
      rw [e]; exact hK w' hS'
    cases r with
    | ok n w' =>
      cases n <;> simp only [Oper.upon] at h0 ⊢
      case value u => exact key _ _ h0
      case skip => exact key _ _ h0
      case defer d =>
        exfalso
        have := congrArg (fun b : Act => b.defers.length) h0.1
        have hp : ∀ (b : Act) (t : Option Tmp) (u : Value), (b.put t u).defers = b.defers := fun b t u => by cases t <;> rfl
        simp [hp] at this
      case enter f args =>
        refine Calls.mono h0 fun e w'' he => ?_
        cases e with
        | returned u => exact key _ _ he
        | panicked c => exact he.elim
        | outgrown => exact he.elim fun _ h => h.elim fun _ h => h.elim
      case row row args => exact Rows.mono h0 fun u w'' he => key _ _ he
    | halt x w' =>
      cases x <;> simp only [Oper.upon] at h0
  · exact .inr h

/-- Whatever order is picked from here on, in every world that meets S. -/
def AnyS (P : Program) (md : Region.Mode) (ops : Array Oper) (Q : Exit → Act → World → Prop) (S : World → Prop) : Nat → Array Bool → Act → Prop
  | 0, listed, a => Region.ready md ops listed = [] ∧ ∀ w, S w → Q .normal a w
  | fuel + 1, listed, a =>
    (Region.ready md ops listed = [] → ∀ w, S w → Q .normal a w) ∧
    ∀ i ∈ Region.ready md ops listed, ∃ o v, ops[i]? = some o ∧ StepsIf P ops S o v a ∧ AnyS P md ops Q S fuel (listed.setIfInBounds i true) (a.put o.dst v)

theorem AnyS.any : ∀ (fuel : Nat) (listed : Array Bool) (a : Act), AnyS P md ops Q S fuel listed a → ∀ w, S w → wpAny P md ops Q fuel listed a w
  | 0, _, _, h, w, hS => ⟨h.1, h.2 w hS⟩
  | fuel + 1, listed, a, h, w, hS => ⟨fun h0 => h.1 h0 w hS, fun i hi => by
    obtain ⟨o, v, ho, hy, hr⟩ := h.2 i hi
    exact hy.wpOp ho hS fun w' hS' => AnyS.any fuel _ _ hr w' hS'⟩

theorem put_cancel {a : Act} {x y : Option Tmp} {v u u' : Value} (h : (a.put x v).put y u' = (a.put x v).put y u) : a.put y u' = a.put y u := by
  cases y with
  | none => rfl
  | some e =>
    by_cases he : e < a.tmps.size
    · have hs : e < (a.put x v).tmps.size := by cases x <;> simpa [Act.put] using he
      have h1 := congrArg (fun b : Act => b.tmps[e]?) h
      simp only [Act.put] at h1 hs
      cases x with
      | none =>
        simp only [Array.getElem?_setIfInBounds_self_of_lt he] at h1
        rw [Option.some.inj h1]
      | some d =>
        simp only [Array.getElem?_setIfInBounds_self_of_lt hs] at h1
        rw [Option.some.inj h1]
    · simp only [Act.put, Array.setIfInBounds_eq_of_size_le (Nat.le_of_not_lt he)]

theorem AnyS.first {i : Nat} {oi : Oper} {v : Value} (hi : ops[i]? = some oi) (hsel : ∀ (j : Nat) (o : Oper) cs b, ops[j]? = some o → o.op ≠ .select cs b) :
    ∀ (fuel : Nat) (listed : Array Bool) (a : Act),
      (∀ j oj, ops[j]? = some oj → j ≠ i → listed.getD j true = false → (∀ e ∈ oj.after, Region.binds md e = true → e.on ≠ i) → oi.apart ops oj = true) →
      i ∈ Region.ready md ops listed → StepsIf P ops S oi v a →
      AnyS P md ops Q S fuel (listed.setIfInBounds i true) (a.put oi.dst v) → AnyS P md ops Q S (fuel + 1) listed a := by
  intro fuel
  induction fuel with
  | zero =>
    intro listed a _ hr hy H
    refine ⟨fun h => (by rw [h] at hr; cases hr), fun j hj => ?_⟩
    by_cases hji : j = i
    · subst hji; exact ⟨oi, v, hi, hy, H⟩
    · have := ready_mono hj hji
      rw [H.1] at this
      cases this
  | succ fuel ih =>
    intro listed a hfree hr hy H
    refine ⟨fun h => (by rw [h] at hr; cases hr), fun j hj => ?_⟩
    by_cases hji : j = i
    · subst hji; exact ⟨oi, v, hi, hy, H⟩
    · obtain ⟨oj, u, hoj, hyj, hrest⟩ := H.2 j (ready_mono hj hji)
      obtain ⟨hjun, oj', hoj', hall⟩ := mem_ready.1 hj
      obtain rfl : oj = oj' := Option.some.inj (hoj.symm.trans hoj')
      have hnot : ∀ e ∈ oj.after, Region.binds md e = true → e.on ≠ i := fun e he hb heq => by
        have h1 := hall e he hb
        have h0 := (mem_ready.1 hr).1
        rw [heq] at h1
        rcases Nat.lt_or_ge i listed.size with h' | h'
        · simp [h'] at h0 h1; rw [h0] at h1; cases h1
        · simp [Array.getElem?_eq_none h'] at h1
      obtain ⟨h1, h2, h3⟩ := Oper.apart_spec (hfree j oj hoj hji hjun hnot)
      -- oj steps in a as well
      have hyj' : StepsIf P ops S oj u a := by
        have hw := wanted_put oj a oi.dst v h1
        unfold StepsIf at hyj ⊢
        rw [hw] at hyj
        rcases hyj with ⟨hw', hv⟩ | h
        · refine .inl ⟨hw', fun w hS K Q hK => ?_⟩
          have h0 := hv w hS (fun a' w' => a' = (a.put oi.dst v).put oj.dst u ∧ S w') (fun _ _ _ => False) (fun w' hS' => ⟨rfl, hS'⟩)
          unfold Oper.wp at *
          rw [execOp_put oj (fun cs b => hsel j oj cs b hoj) a oi.dst v h1] at h0
          generalize (execOp a.eval oj).run P w = r at *
          have key : ∀ u' w', ((a.put oi.dst v).put oj.dst u' = (a.put oi.dst v).put oj.dst u ∧ S w') → K (a.put oj.dst u') w' := fun u' w' ⟨he, hS'⟩ => by
            rw [put_cancel he]; exact hK w' hS'
          cases r with
          | ok n w' =>
            cases n <;> simp only [Oper.upon] at h0 ⊢
            case value u => exact key _ _ h0
            case skip => exact key _ _ h0
            case defer d =>
              exfalso
              have := congrArg (fun b : Act => b.defers.length) h0.1
              have hp : ∀ (b : Act) (t : Option Tmp) (u : Value), (b.put t u).defers = b.defers := fun b t u => by cases t <;> rfl
              simp [hp] at this
            case enter f args =>
              refine Calls.mono h0 fun e w'' he => ?_
              cases e with
              | returned u => exact key _ _ he
              | panicked c => exact he.elim
              | outgrown => exact he.elim fun _ h => h.elim fun _ h => h.elim
            case row row args => exact Rows.mono h0 fun u w'' he => key _ _ he
          | halt x w' =>
            cases x <;> simp only [Oper.upon] at h0
        · exact .inr h
      refine ⟨oj, u, hoj, hyj', ih _ _ ?_ (ready_mono hr (Ne.symm hji)) (hy.put (fun cs b => hsel i oi cs b hi) h3 (fun d hd => fun e => h2 d hd e)) ?_⟩
      · intro k ok hk hki hun hno
        refine hfree k ok hk hki ?_ hno
        by_cases hjk : j = k
        · subst hjk; exact hjun
        · rw [getD_set_ne true hjk] at hun; exact hun
      · rw [Array.setIfInBounds_comm _ _ hji, ← Act.put_comm a v u h2]
        exact hrest

/-- Take number i next: it may come up, and nobody who could come before it touches its temporaries. -/
theorem AnyS.take {i : Nat} {oi : Oper} {v : Value} {fuel : Nat} {listed : Array Bool} {a : Act} (hi : ops[i]? = some oi)
    (hs : Region.noSelect ops = true) (hf : Region.free md ops listed i = true) (hr : (Region.ready md ops listed).contains i = true) (hy : StepsIf P ops S oi v a)
    (h : AnyS P md ops Q S fuel (listed.setIfInBounds i true) (a.put oi.dst v)) : AnyS P md ops Q S (fuel + 1) listed a :=
  AnyS.first hi (Region.noSelect_spec hs) fuel listed a (Region.free_spec hi hf) (by simpa using hr) hy h
theorem AnyS.done {listed : Array Bool} {a : Act} (hr : Region.ready md ops listed = []) (h : ∀ w, S w → Q .normal a w) : ∀ fuel, AnyS P md ops Q S fuel listed a
  | 0 => ⟨hr, h⟩
  | _ + 1 => ⟨fun _ => h, by rw [hr]; simp⟩
/-- The beginning. -/
theorem region_steps {id : Nat} {a : Act} {w : World} (hm : P.follows .mixedOrders = true) (hS : S w.drew)
    (h : AnyS P .any ops Q S ops.size (Array.replicate ops.size false) a) : (Code.region id ops true).wp P Q a w :=
  wp_region_any hm (AnyS.any _ _ _ h _ hS)
/-- An operation that only yields. -/
theorem StepsIf.yield {o : Oper} {v : Value} {a : Act} (hw : Region.wanted o (yielded ops a.tmps) = true) (h : ∀ w, S w → (execOp a.eval o).run P w = .ok (.value v) w) : StepsIf P ops S o v a :=
  .inl ⟨hw, fun w hS K Q hK => by unfold Oper.wp; rw [h w hS]; exact hK w hS⟩
/-- A call of a Go function. -/
theorem StepsIf.call {o : Oper} {v : Value} {a : Act} {f : FuncId} {args : Array Value} (hw : Region.wanted o (yielded ops a.tmps) = true) (h : ∀ w, S w → (execOp a.eval o).run P w = .ok (.enter f args) w)
    (hc : ∀ w, S w → Calls P f args w fun e w' => e = .returned v ∧ S w') : StepsIf P ops S o v a :=
  .inl ⟨hw, fun w hS K Q hK => by
    unfold Oper.wp; rw [h w hS]
    refine Calls.mono (hc w hS) fun e w' he => ?_
    obtain ⟨rfl, hS'⟩ := he
    exact hK w' hS'⟩
/-- One that its guard passes over. -/
theorem StepsIf.no {o : Oper} {a : Act} (hw : Region.wanted o (yielded ops a.tmps) = false) : StepsIf P ops S o undef a := .inr ⟨hw, rfl⟩
/-- As 'take'; the new state is told by an equation. -/
theorem AnyS.next {i : Nat} {d : Option Tmp} {oi : Oper} {v : Value} {fuel : Nat} {listed : Array Bool} {a : Act} (hi : ops[i]? = some oi) (hd : oi.dst = d)
    (hs : Region.noSelect ops = true) (hf : Region.free md ops listed i = true) (hr : (Region.ready md ops listed).contains i = true) (hy : StepsIf P ops S oi v a)
    (h : ∀ a', a.put d v = a' → AnyS P md ops Q S fuel (listed.setIfInBounds i true) a') : AnyS P md ops Q S (fuel + 1) listed a :=
  AnyS.take hi hs hf hr hy (h _ (by rw [hd]))

/-- As 'next'; the value is found on the way. -/
theorem AnyS.stepE {i : Nat} {d : Option Tmp} {oi : Oper} {fuel : Nat} {listed : Array Bool} {a : Act} (hi : ops[i]? = some oi) (hd : oi.dst = d)
    (hs : Region.noSelect ops = true) (hf : Region.free md ops listed i = true) (hr : (Region.ready md ops listed).contains i = true)
    (h : ∃ v, StepsIf P ops S oi v a ∧ ∀ a', a.put d v = a' → AnyS P md ops Q S fuel (listed.setIfInBounds i true) a') : AnyS P md ops Q S (fuel + 1) listed a := by
  obtain ⟨v, hy, h⟩ := h
  exact AnyS.next hi hd hs hf hr hy h

/-! ### The same, where one last operation, which waits for all others, does what it likes (a store). -/
def AnyM (P : Program) (md : Region.Mode) (ops : Array Oper) (Q : Exit → Act → World → Prop) (S : World → Prop) (m : Nat) : Nat → Array Bool → Act → Prop
  | 0, listed, a => Region.ready md ops listed = [m] ∧ Region.ready md ops (listed.setIfInBounds m true) = [] ∧ ∀ w, S w → Go.wpOp P ops Q m (fun a' w' => Q .normal a' w') a w
  | fuel + 1, listed, a =>
    Region.ready md ops listed ≠ [] ∧ m ∉ Region.ready md ops listed ∧
    ∀ i ∈ Region.ready md ops listed, ∃ o v, ops[i]? = some o ∧ StepsIf P ops S o v a ∧ AnyM P md ops Q S m fuel (listed.setIfInBounds i true) (a.put o.dst v)

theorem AnyM.any {m : Nat} : ∀ (fuel : Nat) (listed : Array Bool) (a : Act), AnyM P md ops Q S m fuel listed a → ∀ w, S w → wpAny P md ops Q (fuel + 1) listed a w
  | 0, _, _, h, w, hS => ⟨fun h0 => (by rw [h.1] at h0; cases h0), fun i hi => by
    rw [h.1] at hi
    obtain rfl : i = m := by simpa using hi
    exact wpOp_mono (fun a' w' hq => ⟨h.2.1, hq⟩) (h.2.2 w hS)⟩
  | fuel + 1, listed, a, h, w, hS => ⟨fun h0 => absurd h0 h.1, fun i hi => by
    obtain ⟨o, v, ho, hy, hr⟩ := h.2.2 i hi
    exact hy.wpOp ho hS fun w' hS' => AnyM.any fuel _ _ hr w' hS'⟩

/-- oj steps in a as well as behind what oi has put. -/
theorem StepsIf.unput {oi oj : Oper} {v u : Value} {a : Act} (hsj : ∀ cs b, oj.op ≠ .select cs b) (h1 : ∀ d, oi.dst = some d → d ∉ oj.looksAt ops) (hyj : StepsIf P ops S oj u (a.put oi.dst v)) : StepsIf P ops S oj u a := by
  have hw := wanted_put oj a oi.dst v h1
  unfold StepsIf at hyj ⊢
  rw [hw] at hyj
  rcases hyj with ⟨hw', hv⟩ | h
  · refine .inl ⟨hw', fun w hS K Q hK => ?_⟩
    have h0 := hv w hS (fun a' w' => a' = (a.put oi.dst v).put oj.dst u ∧ S w') (fun _ _ _ => False) (fun w' hS' => ⟨rfl, hS'⟩)
    unfold Oper.wp at *
    rw [execOp_put oj hsj a oi.dst v h1] at h0
    generalize (execOp a.eval oj).run P w = r at *
    have key : ∀ u' w', ((a.put oi.dst v).put oj.dst u' = (a.put oi.dst v).put oj.dst u ∧ S w') → K (a.put oj.dst u') w' := fun u' w' ⟨he, hS'⟩ => by
      rw [put_cancel he]; exact hK w' hS'
    cases r with
    | ok n w' =>
      cases n <;> simp only [Oper.upon] at h0 ⊢
      case value u => exact key _ _ h0
      case skip => exact key _ _ h0
      case defer d =>
        exfalso
        have := congrArg (fun b : Act => b.defers.length) h0.1
        have hp : ∀ (b : Act) (t : Option Tmp) (u : Value), (b.put t u).defers = b.defers := fun b t u => by cases t <;> rfl
        simp [hp] at this
      case enter f args =>
        refine Calls.mono h0 fun e w'' he => ?_
        cases e with
        | returned u => exact key _ _ he
        | panicked c => exact he.elim
        | outgrown => exact he.elim fun _ h => h.elim fun _ h => h.elim
      case row row args => exact Rows.mono h0 fun u w'' he => key _ _ he
    | halt x w' =>
      cases x <;> simp only [Oper.upon] at h0
  · exact .inr h

theorem AnyM.first {m i : Nat} {oi om : Oper} {v : Value} (hi : ops[i]? = some oi) (hm : ops[m]? = some om) (hdep : ∃ e ∈ om.after, Region.binds md e = true ∧ e.on = i) (hsel : ∀ (j : Nat) (o : Oper) cs b, ops[j]? = some o → o.op ≠ .select cs b) :
    ∀ (fuel : Nat) (listed : Array Bool) (a : Act),
      (∀ j oj, ops[j]? = some oj → j ≠ i → listed.getD j true = false → (∀ e ∈ oj.after, Region.binds md e = true → e.on ≠ i) → oi.apart ops oj = true) →
      i ∈ Region.ready md ops listed → StepsIf P ops S oi v a →
      AnyM P md ops Q S m fuel (listed.setIfInBounds i true) (a.put oi.dst v) → AnyM P md ops Q S m (fuel + 1) listed a := by
  have hno : ∀ listed, i ∈ Region.ready md ops listed → m ∉ Region.ready md ops listed := fun listed hr hmr => by
    obtain ⟨_, o', ho', hall⟩ := mem_ready.1 hmr
    obtain rfl : om = o' := Option.some.inj (hm.symm.trans ho')
    obtain ⟨e, he, hb, rfl⟩ := hdep
    have h1 := hall e he hb
    have h0 := (mem_ready.1 hr).1
    rcases Nat.lt_or_ge e.on listed.size with h' | h'
    · simp [h'] at h0 h1; rw [h0] at h1; cases h1
    · simp [Array.getElem?_eq_none h'] at h1
  intro fuel
  induction fuel with
  | zero =>
    intro listed a _ hr hy H
    refine ⟨fun h => (by rw [h] at hr; cases hr), hno listed hr, fun j hj => ?_⟩
    by_cases hji : j = i
    · subst hji; exact ⟨oi, v, hi, hy, H⟩
    · have := ready_mono hj hji
      rw [H.1] at this
      obtain rfl : j = m := by simpa using this
      exact absurd hj (hno listed hr)
  | succ fuel ih =>
    intro listed a hfree hr hy H
    refine ⟨fun h => (by rw [h] at hr; cases hr), hno listed hr, fun j hj => ?_⟩
    by_cases hji : j = i
    · subst hji; exact ⟨oi, v, hi, hy, H⟩
    · obtain ⟨oj, u, hoj, hyj, hrest⟩ := H.2.2 j (ready_mono hj hji)
      obtain ⟨hjun, oj', hoj', hall⟩ := mem_ready.1 hj
      obtain rfl : oj = oj' := Option.some.inj (hoj.symm.trans hoj')
      have hnot : ∀ e ∈ oj.after, Region.binds md e = true → e.on ≠ i := fun e he hb heq => by
        have h1 := hall e he hb
        have h0 := (mem_ready.1 hr).1
        rw [heq] at h1
        rcases Nat.lt_or_ge i listed.size with h' | h'
        · simp [h'] at h0 h1; rw [h0] at h1; cases h1
        · simp [Array.getElem?_eq_none h'] at h1
      obtain ⟨h1, h2, h3⟩ := Oper.apart_spec (hfree j oj hoj hji hjun hnot)
      refine ⟨oj, u, hoj, StepsIf.unput (fun cs b => hsel j oj cs b hoj) h1 hyj, ih _ _ ?_ (ready_mono hr (Ne.symm hji)) (hy.put (fun cs b => hsel i oi cs b hi) h3 (fun d hd => fun e => h2 d hd e)) ?_⟩
      · intro k ok hk hki hun hno
        refine hfree k ok hk hki ?_ hno
        by_cases hjk : j = k
        · subst hjk; exact hjun
        · rw [getD_set_ne true hjk] at hun; exact hun
      · rw [Array.setIfInBounds_comm _ _ hji, ← Act.put_comm a v u h2]
        exact hrest

/-- Does operation m wait for operation i? -/
def waits (md : Region.Mode) (ops : Array Oper) (m i : Nat) : Bool := ((ops[m]?).map fun o => o.after.any fun e => Region.binds md e && e.on == i).getD false

theorem AnyM.next {m i : Nat} {d : Option Tmp} {oi : Oper} {v : Value} {fuel : Nat} {listed : Array Bool} {a : Act} (hi : ops[i]? = some oi) (hd : oi.dst = d) (hw : waits md ops m i = true)
    (hs : Region.noSelect ops = true) (hf : Region.free md ops listed i = true) (hr : (Region.ready md ops listed).contains i = true) (hy : StepsIf P ops S oi v a)
    (h : ∀ a', a.put d v = a' → AnyM P md ops Q S m fuel (listed.setIfInBounds i true) a') : AnyM P md ops Q S m (fuel + 1) listed a := by
  unfold waits at hw
  cases hm : ops[m]? with
  | none => rw [hm] at hw; cases hw
  | some om =>
    rw [hm] at hw
    simp only [Option.map_some, Option.getD_some, Array.any_eq_true', Bool.and_eq_true, beq_iff_eq] at hw
    exact AnyM.first hi hm hw (Region.noSelect_spec hs) fuel listed a (Region.free_spec hi hf) (by simpa using hr) hy (h _ (by rw [hd]))
theorem AnyM.stepE {m i : Nat} {d : Option Tmp} {oi : Oper} {fuel : Nat} {listed : Array Bool} {a : Act} (hi : ops[i]? = some oi) (hd : oi.dst = d) (hw : waits md ops m i = true)
    (hs : Region.noSelect ops = true) (hf : Region.free md ops listed i = true) (hr : (Region.ready md ops listed).contains i = true)
    (h : ∃ v, StepsIf P ops S oi v a ∧ ∀ a', a.put d v = a' → AnyM P md ops Q S m fuel (listed.setIfInBounds i true) a') : AnyM P md ops Q S m (fuel + 1) listed a := by
  obtain ⟨v, hy, h⟩ := h
  exact AnyM.next hi hd hw hs hf hr hy h
theorem AnyM.last {m : Nat} {om : Oper} {listed : Array Bool} {a : Act} (hm : ops[m]? = some om) (hr : Region.ready md ops listed = [m]) (hr2 : Region.ready md ops (listed.setIfInBounds m true) = [])
    (hw : Region.wanted om (yielded ops a.tmps) = true) (h : ∀ w, S w → ∀ K : Act → World → Prop, (∀ a' w', Q .normal a' w' → K a' w') → om.wp P a w K Q) : AnyM P md ops Q S m 0 listed a :=
  ⟨hr, hr2, fun w hS => by
    unfold Go.wpOp
    simp only [hm, hw, if_true]
    exact .inl (h w hS _ fun _ _ hq => hq)⟩
theorem region_stepsM {id m : Nat} {a : Act} {w : World} {n : Nat} (hn : ops.size = n + 1) (hm : P.follows .mixedOrders = true) (hS : S w.drew)
    (h : AnyM P .any ops Q S m n (Array.replicate ops.size false) a) : (Code.region id ops true).wp P Q a w :=
  wp_region_any hm (by rw [hn] at h ⊢; exact AnyM.any _ _ _ h _ hS)
end
end Go.Proofs.YtpncomjpmilbkaaDoor

/- Texts as bytes: their bytes, one by one; texts told by numbers; texts that are alike up to a place. -/
namespace Go.Proofs.YtpncomjpmilbkaaDoor
open Go.RowKit

/-- Byte i of a text. -/
def bt (s : ByteArray) (i : Nat) : Nat := (s.data.toList.getD i 0).toNat
theorem bt_eq (s : ByteArray) (i : Nat) (h : i < s.size) : bt s i = s[i].toNat := by
  have h' : i < s.data.toList.length := by simpa using h
  unfold bt
  rw [List.getD_eq_getElem?_getD, List.getElem?_eq_getElem h', Option.getD_some]
  rfl
theorem bt_lt (s : ByteArray) (i : Nat) : bt s i < 256 := UInt8.toNat_lt _
/-- The text of the bytes L. -/
def ofT (L : List Nat) : ByteArray := ⟨(L.map UInt8.ofNat).toArray⟩
theorem size_ofT (L : List Nat) : (ofT L).size = L.length := by simp [ofT, ByteArray.size]
theorem ofT_append (L M : List Nat) : ofT L ++ ofT M = ofT (L ++ M) := by
  apply ByteArray.ext
  simp [ofT]
theorem bt_app (a b : ByteArray) (i : Nat) : bt (a ++ b) i = if i < a.size then bt a i else bt b (i - a.size) := by
  unfold bt
  have e : (a ++ b).data.toList = a.data.toList ++ b.data.toList := by simp
  have hl : a.data.toList.length = a.size := by simp
  rw [e]
  by_cases h : i < a.size
  · rw [if_pos h, List.getD_eq_getElem?_getD, List.getD_eq_getElem?_getD, List.getElem?_append_left (by omega)]
  · rw [if_neg h, List.getD_eq_getElem?_getD, List.getD_eq_getElem?_getD, List.getElem?_append_right (by omega), hl]
theorem bt_ofT (L : List Nat) (hL : ∀ x ∈ L, x < 256) (i : Nat) (h : i < L.length) : bt (ofT L) i = L[i] := by
  unfold bt ofT
  simp only [List.getD_eq_getElem?_getD]
  rw [List.getElem?_eq_getElem (by simpa using h), Option.getD_some]
  have := hL L[i] (List.getElem_mem h)
  simp
  omega
/-- The first n bytes are the same. -/
def Agr (n : Nat) (s s' : ByteArray) : Prop := n ≤ s.size ∧ n ≤ s'.size ∧ ∀ i, i < n → bt s i = bt s' i
theorem Agr.le {n m : Nat} {s s' : ByteArray} (h : Agr n s s') (hm : m ≤ n) : Agr m s s' := ⟨by have := h.1; omega, by have := h.2.1; omega, fun i hi => h.2.2 i (by omega)⟩
theorem ext_agr {n : Nat} {s s' : ByteArray} (h : Agr n s s') (i j : Nat) (hj : j ≤ n) : s.extract i j = s'.extract i j := by
  have h1 := h.1
  have h2 := h.2.1
  apply ByteArray.ext
  apply Array.toList_inj.1
  rw [ByteArray.data_extract, ByteArray.data_extract, Array.toList_extract, Array.toList_extract]
  apply List.ext_getElem?
  intro k
  simp only [List.extract_eq_take_drop, List.getElem?_take, List.getElem?_drop]
  by_cases hk : k < j - i
  · simp only [hk, if_true]
    have hb := h.2.2 (i + k) (by omega)
    rw [bt_eq s _ (by omega), bt_eq s' _ (by omega)] at hb
    have e1 : i + k < s.data.toList.length := by have : s.data.toList.length = s.size := by simp
                                                 omega
    have e2 : i + k < s'.data.toList.length := by have : s'.data.toList.length = s'.size := by simp
                                                  omega
    rw [List.getElem?_eq_getElem e1, List.getElem?_eq_getElem e2]
    exact congrArg some (UInt8.toNat.inj hb)
  · simp only [hk, if_false]
def eT : ByteArray := ⟨#[]⟩
theorem bt_extract (s : ByteArray) (a e i : Nat) (he : e ≤ s.size) (h : a + i < e) : bt (s.extract a e) i = bt s (a + i) := by
  have h1 : i < (s.extract a e).size := by rw [ByteArray.size_extract]; omega
  rw [bt_eq _ i h1, bt_eq _ (a + i) (by omega), ByteArray.getElem_extract]
theorem ba_ext {a b : ByteArray} (h : a.size = b.size) (hb : ∀ i, i < a.size → bt a i = bt b i) : a = b := by
  apply ByteArray.ext
  apply Array.ext
  · exact h
  · intro i h1 h2
    have e := hb i h1
    rw [bt_eq a i h1, bt_eq b i h2] at e
    exact UInt8.toNat_inj.1 e
theorem numsT (L : List Nat) : strOfNums (L.map (fun n : Nat => (n : Int))) = ofT L := by
  unfold strOfNums ofT
  rw [List.map_map]
  rfl
theorem cvL (W : World) (t : TypeId) (L : List Nat) (C : Array Value) (hC : ∀ i (h : i < L.length), C[i]? = some (.int .u8 (L[i] : Int))) (m : Nat × Nat) : (convert 133 9 (.slice (some ⟨W.heap.size, 0, none⟩) L.length L.length)).run Tryd.prog (W.alloc (.cells C t m)) = .ok (.string (ofT L)) (W.alloc (.cells C t m)) := by
  rw [← numsT L]
  refine run_convert_bytes_arg (P := Tryd.prog) (W.alloc (.cells C t m)) 133 5 Tryd.underlying133 Tryd.underlying5 W.heap.size 0 L.length L.length _ (by simp) (fun i hi => ?_) 9 Tryd.underlying9
  rw [Nat.zero_add, World.cell?_alloc_mark]
  rw [hC i hi]
  simp [List.getD_eq_getElem?_getD, List.getElem?_map, List.getElem?_eq_getElem hi]
theorem cv1 (W : World) (t : TypeId) (a : Nat) : (convert 133 9 (.slice (some ⟨W.heap.size, 0, none⟩) 1 1)).run Tryd.prog (W.alloc (.cells #[.int .u8 a] t)) = .ok (.string (ofT [a])) (W.alloc (.cells #[.int .u8 a] t)) := cvL W t [a] _ (fun i h => by
    have h2 : i < 1 := h
    rcases (by omega : i = 0) with rfl
    rfl) (0, 0)
theorem cv2 (W : World) (t : TypeId) (a b : Nat) : (convert 133 9 (.slice (some ⟨W.heap.size, 0, none⟩) 2 2)).run Tryd.prog (W.alloc (.cells #[.int .u8 a, .int .u8 b] t)) = .ok (.string (ofT [a, b])) (W.alloc (.cells #[.int .u8 a, .int .u8 b] t)) := cvL W t [a, b] _ (fun i h => by
    have h2 : i < 2 := h
    rcases (by omega : i = 0 ∨ i = 1) with rfl | rfl <;> rfl) (0, 0)
theorem cv3 (W : World) (t : TypeId) (a b c : Nat) : (convert 133 9 (.slice (some ⟨W.heap.size, 0, none⟩) 3 3)).run Tryd.prog (W.alloc (.cells #[.int .u8 a, .int .u8 b, .int .u8 c] t)) = .ok (.string (ofT [a, b, c])) (W.alloc (.cells #[.int .u8 a, .int .u8 b, .int .u8 c] t)) := cvL W t [a, b, c] _ (fun i h => by
    have h2 : i < 3 := h
    rcases (by omega : i = 0 ∨ i = 1 ∨ i = 2) with rfl | rfl | rfl <;> rfl) (0, 0)
theorem eT_app (a : ByteArray) : eT ++ a = a := by
  apply ByteArray.ext; simp [eT]
theorem toL (L : List Nat) : (ofT L).toList = L.map UInt8.ofNat := by rw [ByteArray.toList_eq]; simp [ofT]
theorem addT (L M : List Nat) (h : L.length + M.length ≤ 9223372036854775807) (w : World) : (Op.stringOp .add (ofT L) (ofT M)).run Tryd.prog w = .ok (.string (ofT (L ++ M))) w := by
  rw [← ofT_append]; exact run_string_add_sum w _ _ (by rw [size_ofT, size_ofT]; exact h)
theorem agr_cut (s more : ByteArray) (n : Nat) (h : n ≤ s.size) : Agr n s (s.extract 0 n ++ more) := by
  have hz : (s.extract 0 n).size = n := by rw [ByteArray.size_extract]; omega
  refine ⟨h, by rw [ByteArray.size_append]; omega, fun i hi => ?_⟩
  rw [bt_app, if_pos (by omega), bt_extract s 0 n i h (by omega), Nat.zero_add]
end Go.Proofs.YtpncomjpmilbkaaDoor

/- Counts, plainly: how the document reads them. -/
namespace Go.Proofs.YtpncomjpmilbkaaDoor
open Go.RowKit

/-- How far counts were read. -/
structure NS where
  n : Nat
  m : Nat
  hv : Nat
  sec : Bool
inductive NR where
  | bad (e : Nat)
  | fin (n : Nat) (m : Int)
  | on (st : NS)

/-- The number that is read. -/
def curN (st : NS) : Nat := if st.sec = true then st.m else st.n
def putN (st : NS) (x : Nat) : NS := if st.sec = true then ⟨st.n, x, st.hv + 1, st.sec⟩ else ⟨x, st.m, st.hv + 1, st.sec⟩
def mostN (st : NS) (x : Nat) : Nat := if st.hv + 1 = 1 ∧ 0 < x then 10 * x + 9 else x
/-- One byte more. -/
def stepN (st : NS) (b : Nat) : NR :=
  if 48 ≤ b ∧ b ≤ 57 then
    if st.hv = 2 ∨ (st.hv = 1 ∧ curN st = 0) then .bad 6
    else if st.sec = true ∧ mostN st (10 * curN st + (b - 48)) < st.n then .bad 6
    else .on (putN st (10 * curN st + (b - 48)))
  else if b = 44 ∧ st.sec = false ∧ 0 < st.hv then .on ⟨st.n, st.m, 0, true⟩
  else if b = 125 ∧ st.sec = false ∧ 0 < st.hv then .fin st.n st.n
  else if b = 125 ∧ st.sec = true ∧ st.hv = 0 then .fin st.n (-1)
  else if b = 125 ∧ st.sec = true ∧ st.n ≤ st.m then .fin st.n st.m
  else if b = 125 ∧ st.sec = true then .bad 6
  else .bad 3

/-- From, to, where they end, the error, its place. -/
def runN (s : ByteArray) : Nat → Nat → NS → Nat × Int × Nat × Nat × Nat
  | 0, _, _ => (0, 0, 0, 2, s.size)
  | k + 1, i, st => match stepN st (bt s i) with
    | .bad e => (0, 0, 0, e, i + 1)
    | .fin n m => (n, m, i + 1, 0, 0)
    | .on st' => runN s k (i + 1) st'
def bracesN (s : ByteArray) (i : Nat) : Nat × Int × Nat × Nat × Nat := runN s (s.size - i) i ⟨0, 0, 0, false⟩
def signN (s : ByteArray) (k : Nat) : Nat × Int × Nat × Nat × Nat :=
  if bt s k = 42 then (0, -1, k + 1, 0, 0)
  else if bt s k = 43 then (1, -1, k + 1, 0, 0)
  else if bt s k = 63 then (0, 1, k + 1, 0, 0)
  else if bt s k = 123 then bracesN s (k + 1)
  else (0, 0, 0, 1, 0)
def readN (s : ByteArray) (at' : Int) : Nat × Int × Nat × Nat × Nat :=
  if at' < 0 ∨ (s.size : Int) ≤ at' then (0, 0, 0, 1, 0) else signN s at'.toNat

/-! ### What is kept -/
def InvN (st : NS) : Prop := st.hv ≤ 2 ∧ (st.hv = 0 → curN st = 0) ∧ (st.hv ≤ 1 → curN st ≤ 9) ∧ curN st ≤ 99 ∧ st.n ≤ 99 ∧ st.m ≤ 99 ∧ (st.sec = false → st.m = 0)
theorem inv_start : InvN ⟨0, 0, 0, false⟩ := by unfold InvN curN; simp
def rightN (n m : Int) : Bool := decide (0 ≤ n) && decide (n ≤ 99) && (m == -1 || (decide (n ≤ m) && decide (m ≤ 99)))
theorem stepN_on (st st' : NS) (b : Nat) (h : InvN st) (e : stepN st b = .on st') : InvN st' := by
  obtain ⟨h1, h2, h3, h4, h5, h6, h7⟩ := h
  unfold stepN at e
  split at e
  · rename_i hd
    split at e
    · cases e
    · rename_i hh
      split at e
      · cases e
      · cases e
        have hc : 10 * curN st + (b - 48) ≤ 99 ∧ (st.hv = 0 → 10 * curN st + (b - 48) ≤ 9) := by
          have : st.hv = 0 ∨ st.hv = 1 := by omega
          rcases this with h0 | h0
          · have := h2 h0; omega
          · have := h3 (by omega); omega
        generalize 10 * curN st + (b - 48) = x at *
        obtain ⟨n, m, hv, sec⟩ := st
        cases sec <;> simp [InvN, curN, putN] at * <;> omega
  · split at e
    · rename_i hc
      cases e
      have := h7 hc.2.1
      simp [InvN, curN] at *
      omega
    · split at e
      · cases e
      · split at e
        · cases e
        · split at e
          · cases e
          · split at e <;> cases e
theorem stepN_fin (st : NS) (b n : Nat) (m : Int) (h : InvN st) (e : stepN st b = .fin n m) : rightN n m = true := by
  obtain ⟨h1, h2, h3, h4, h5, h6, h7⟩ := h
  have key : ∀ (x : Nat) (y : Int), x ≤ 99 → (y = -1 ∨ ((x : Int) ≤ y ∧ y ≤ 99)) → rightN x y = true := fun x y hx hy => by
    unfold rightN
    rw [decide_eq_true (by omega), decide_eq_true (by omega)]
    rcases hy with rfl | ⟨hy, hy2⟩
    · simp
    · rw [decide_eq_true hy, decide_eq_true hy2]; simp
  unfold stepN at e
  split at e
  · split at e
    · cases e
    · split at e <;> cases e
  · split at e
    · cases e
    · split at e
      · cases e; exact key _ _ h5 (.inr ⟨by omega, by omega⟩)
      · split at e
        · cases e; exact key _ _ h5 (.inl rfl)
        · split at e
          · rename_i hc
            cases e; exact key _ _ h5 (.inr ⟨by omega, by omega⟩)
          · split at e <;> cases e
theorem stepN_bad (st : NS) (b e : Nat) (h : stepN st b = .bad e) : e = 6 ∨ e = 3 := by
  unfold stepN at h
  split at h
  · split at h
    · cases h; exact .inl rfl
    · split at h <;> cases h; exact .inl rfl
  · split at h
    · cases h
    · split at h
      · cases h
      · split at h
        · cases h
        · split at h
          · cases h
          · split at h <;> cases h
            · exact .inl rfl
            · exact .inr rfl

/-- What the reading ends in. -/
def EndN (s : ByteArray) (i : Nat) (r : Nat × Int × Nat × Nat × Nat) : Prop :=
  (r.2.2.2.1 = 0 ∧ r.2.2.2.2 = 0 ∧ i < r.2.2.1 ∧ r.2.2.1 ≤ s.size ∧ rightN r.1 r.2.1 = true) ∨
  ((r.2.2.2.1 = 6 ∨ r.2.2.2.1 = 3) ∧ r.1 = 0 ∧ r.2.1 = 0 ∧ r.2.2.1 = 0 ∧ i < r.2.2.2.2 ∧ r.2.2.2.2 ≤ s.size) ∨
  (r = (0, 0, 0, 2, s.size))
theorem runN_end (s : ByteArray) (a : Nat) : ∀ k i st, InvN st → a ≤ i → k + i = s.size → EndN s a (runN s k i st)
  | 0, i, st, _, _, _ => .inr (.inr rfl)
  | k + 1, i, st, hi, ha, hk => by
    rw [runN]
    cases hs : stepN st (bt s i) with
    | bad e => exact .inr (.inl ⟨stepN_bad _ _ _ hs, rfl, rfl, rfl, by simp only; omega, by simp only; omega⟩)
    | fin n m => exact .inl ⟨rfl, rfl, by simp only; omega, by simp only; omega, stepN_fin _ _ _ _ hi hs⟩
    | on st' => exact runN_end s a k (i + 1) st' (stepN_on _ _ _ hi hs) (by omega) (by omega)
theorem runN_agr (s s' : ByteArray) : ∀ k k' i st, k + i = s.size → k' + i = s'.size → (runN s k i st).2.2.2.1 ≠ 2 →
    Agr (if (runN s k i st).2.2.2.1 = 0 then (runN s k i st).2.2.1 else (runN s k i st).2.2.2.2) s s' → runN s' k' i st = runN s k i st
  | 0, k', i, st, _, _, h, _ => absurd rfl h
  | k + 1, k', i, st, h1, h2, h, ha => by
    rw [runN] at h ha ⊢
    have low : ∀ kk j stt, i < j → kk + j = s.size → (runN s kk j stt).2.2.2.1 ≠ 2 → i < (if (runN s kk j stt).2.2.2.1 = 0 then (runN s kk j stt).2.2.1 else (runN s kk j stt).2.2.2.2) := by
      intro kk
      induction kk with
      | zero => intro j stt _ _ h; exact absurd rfl h
      | succ kk ih =>
        intro j stt hj hk h
        rw [runN] at h ⊢
        cases hs : stepN stt (bt s j) with
        | bad e => simp only; have := stepN_bad _ _ _ hs; rw [if_neg (by omega)]; omega
        | fin n m => simp only; rw [if_pos trivial]; omega
        | on st' => rw [hs] at h; simp only at h ⊢; exact ih (j + 1) st' (by omega) (by omega) h
    have hlt : i < (if (match stepN st (bt s i) with
      | .bad e => ((0, 0, 0, e, i + 1) : Nat × Int × Nat × Nat × Nat)
      | .fin n m => (n, m, i + 1, 0, 0)
      | .on st' => runN s k (i + 1) st').2.2.2.1 = 0 then (match stepN st (bt s i) with
      | .bad e => ((0, 0, 0, e, i + 1) : Nat × Int × Nat × Nat × Nat)
      | .fin n m => (n, m, i + 1, 0, 0)
      | .on st' => runN s k (i + 1) st').2.2.1 else (match stepN st (bt s i) with
      | .bad e => ((0, 0, 0, e, i + 1) : Nat × Int × Nat × Nat × Nat)
      | .fin n m => (n, m, i + 1, 0, 0)
      | .on st' => runN s k (i + 1) st').2.2.2.2) := by
      cases hs : stepN st (bt s i) with
      | bad e => have := stepN_bad _ _ _ hs; simp only; rw [if_neg (by omega)]; omega
      | fin n m => simp only; rw [if_pos trivial]; omega
      | on st' => rw [hs] at h; simp only at h ⊢; exact low k (i + 1) st' (by omega) (by omega) h
    have hb := ha.2.2 i hlt
    have hz := ha.2.1
    obtain ⟨k', rfl⟩ : ∃ j, k' = j + 1 := ⟨k' - 1, by omega⟩
    rw [runN, ← hb]
    cases hs : stepN st (bt s i) with
    | bad e => rfl
    | fin n m => rfl
    | on st' =>
      rw [hs] at h ha
      exact runN_agr s s' k k' (i + 1) st' (by omega) (by omega) h ha

theorem readN_cases (s : ByteArray) (at' : Int) : readN s at' = (0, 0, 0, 1, 0) ∨ ∃ a : Nat, at' = a ∧ EndN s a (readN s at') := by
  unfold readN
  by_cases h : at' < 0 ∨ (s.size : Int) ≤ at'
  · rw [if_pos h]; exact .inl rfl
  rw [if_neg h]
  obtain ⟨a, rfl⟩ : ∃ a : Nat, at' = a := ⟨at'.toNat, by omega⟩
  rw [show (a : Int).toNat = a from rfl]
  have hlt : a < s.size := by omega
  unfold signN
  by_cases h1 : bt s a = 42
  · rw [if_pos h1]; exact .inr ⟨a, rfl, .inl ⟨rfl, rfl, by simp only; omega, by simp only; omega, show rightN ((0 : Nat) : Int) (-1) = true from by decide⟩⟩
  rw [if_neg h1]
  by_cases h2 : bt s a = 43
  · rw [if_pos h2]; exact .inr ⟨a, rfl, .inl ⟨rfl, rfl, by simp only; omega, by simp only; omega, show rightN ((1 : Nat) : Int) (-1) = true from by decide⟩⟩
  rw [if_neg h2]
  by_cases h3 : bt s a = 63
  · rw [if_pos h3]; exact .inr ⟨a, rfl, .inl ⟨rfl, rfl, by simp only; omega, by simp only; omega, show rightN ((0 : Nat) : Int) 1 = true from by decide⟩⟩
  rw [if_neg h3]
  by_cases h4 : bt s a = 123
  · rw [if_pos h4]; exact .inr ⟨a, rfl, runN_end s a _ _ _ inv_start (by omega) (by omega)⟩
  · rw [if_neg h4]; exact .inl rfl
/-- **What is wrong, or counts, are told by the bytes up to there.** -/
theorem readN_agr (s s' : ByteArray) (at' : Int) (h1 : (readN s at').2.2.2.1 ≠ 1) (h2 : (readN s at').2.2.2.1 ≠ 2)
    (ha : Agr (if (readN s at').2.2.2.1 = 0 then (readN s at').2.2.1 else (readN s at').2.2.2.2) s s') : readN s' at' = readN s at' := by
  rcases readN_cases s at' with h | ⟨a, rfl, hE⟩
  · rw [h] at h1; exact absurd rfl h1
  have hlt : a < (if (readN s a).2.2.2.1 = 0 then (readN s a).2.2.1 else (readN s a).2.2.2.2) := by
    rcases hE with ⟨e1, _, e3, _⟩ | ⟨e1, _, _, _, e5, _⟩ | e
    · rw [if_pos e1]; exact e3
    · rw [if_neg (by omega)]; exact e5
    · rw [e] at h2; exact absurd rfl h2
  have hz := ha.1
  have hz' := ha.2.1
  have hb := ha.2.2 a hlt
  unfold readN at h1 h2 ha ⊢
  have hn : ¬ ((a : Int) < 0 ∨ (s.size : Int) ≤ a) := by omega
  have hn' : ¬ ((a : Int) < 0 ∨ (s'.size : Int) ≤ a) := by omega
  rw [if_neg hn] at h1 h2 ha ⊢
  rw [if_neg hn']
  rw [show (a : Int).toNat = a from rfl] at *
  unfold signN at h1 h2 ha ⊢
  rw [← hb]
  by_cases g1 : bt s a = 42
  · rw [if_pos g1, if_pos g1]
  rw [if_neg g1] at h1 h2 ha ⊢; rw [if_neg g1]
  by_cases g2 : bt s a = 43
  · rw [if_pos g2, if_pos g2]
  rw [if_neg g2] at h1 h2 ha ⊢; rw [if_neg g2]
  by_cases g3 : bt s a = 63
  · rw [if_pos g3, if_pos g3]
  rw [if_neg g3] at h1 h2 ha ⊢; rw [if_neg g3]
  by_cases g4 : bt s a = 123
  · rw [if_pos g4] at h1 h2 ha ⊢; rw [if_pos g4]
    exact runN_agr s s' _ _ _ _ (by omega) (by omega) h2 ha
  · rw [if_neg g4, if_neg g4]

/-! ### The text of counts -/
def digL (n : Nat) : List Nat := if 10 ≤ n then [48 + n / 10, 48 + n % 10] else [48 + n]
def textN (n m : Int) : List Nat :=
  if rightN n m = false then []
  else if n = 0 ∧ m = -1 then [42]
  else if n = 1 ∧ m = -1 then [43]
  else if n = 0 ∧ m = 1 then [63]
  else if n = m then 123 :: (digL n.toNat ++ [125])
  else if m = -1 then 123 :: (digL n.toNat ++ [44, 125])
  else 123 :: (digL n.toNat ++ (44 :: (digL m.toNat ++ [125])))
end Go.Proofs.YtpncomjpmilbkaaDoor

/- The document's counts: digit, braces, Read. -/
namespace Go.Proofs.YtpncomjpmilbkaaDoor
open Go.RowKit

theorem int_eq {k : IntKind} {a b : Int} (h : a = b) : Value.int k a = .int k b := by rw [h]
def tupN (r : Nat × Int × Nat × Nat × Nat) : Value := .tuple #[.int .i64 r.1, .int .i64 r.2.1, .int .i64 r.2.2.1, .int .i64 r.2.2.2.1, .int .i64 r.2.2.2.2]
end Go.Proofs.YtpncomjpmilbkaaDoor

/- As Rs, where one operation (number m: a store) leads from worlds of a kind S0 to worlds of a kind S1; all others keep the kind. Those that the store need not wait for step in both. Nothing of the program is used. -/
namespace Go.Proofs.YtpncomjpmilbkaaDoor
open Go

section
variable {P : Program} {ops : Array Oper} {Q : Exit → Act → World → Prop} {md : Region.Mode} {S S' S0 S1 : World → Prop}

def StepsL (P : Program) (ops : Array Oper) (S S' : World → Prop) (o : Oper) (v : Value) (a : Act) : Prop :=
  (Region.wanted o (yielded ops a.tmps) = true ∧ ∀ w, S w → ∀ (K : Act → World → Prop) (Q : Exit → Act → World → Prop), (∀ w', S' w' → K (a.put o.dst v) w') → o.wp P a w K Q) ∨
  (Region.wanted o (yielded ops a.tmps) = false ∧ v = undef ∧ ∀ w, S w → S' w)

theorem StepsIf.toL {o : Oper} {v : Value} {a : Act} (h : StepsIf P ops S o v a) : StepsL P ops S S o v a := by
  rcases h with h | h
  · exact .inl h
  · exact .inr ⟨h.1, h.2, fun _ h => h⟩

theorem StepsL.wpOp {i : Nat} {o : Oper} {v : Value} {a : Act} (hi : ops[i]? = some o) (hy : StepsL P ops S S' o v a)
    {K : Act → World → Prop} {w : World} (hS : S w) (h : ∀ w', S' w' → K (a.put o.dst v) w') : wpOp P ops Q i K a w := by
  unfold Go.wpOp
  simp only [hi]
  rcases hy with ⟨hw, hv⟩ | ⟨hw, rfl, hk⟩
  · simp only [hw, if_true]; exact .inl (hv w hS K Q h)
  · simp only [hw, Bool.false_eq_true, if_false]; exact h w (hk w hS)

theorem StepsL.unput {oi oj : Oper} {v u : Value} {a : Act} (hsj : ∀ cs b, oj.op ≠ .select cs b) (h1 : ∀ d, oi.dst = some d → d ∉ oj.looksAt ops) (hyj : StepsL P ops S S' oj u (a.put oi.dst v)) : StepsL P ops S S' oj u a := by
  have hw := wanted_put oj a oi.dst v h1
  unfold StepsL at hyj ⊢
  rw [hw] at hyj
  rcases hyj with ⟨hw', hv⟩ | h
  · refine .inl ⟨hw', fun w hS K Q hK => ?_⟩
    have h0 := hv w hS (fun a' w' => a' = (a.put oi.dst v).put oj.dst u ∧ S' w') (fun _ _ _ => False) (fun w' hS' => ⟨rfl, hS'⟩)
    unfold Oper.wp at *
    rw [execOp_put oj hsj a oi.dst v h1] at h0
    generalize (execOp a.eval oj).run P w = r at *
    have key : ∀ u' w', ((a.put oi.dst v).put oj.dst u' = (a.put oi.dst v).put oj.dst u ∧ S' w') → K (a.put oj.dst u') w' := fun u' w' ⟨he, hS'⟩ => by
      rw [put_cancel he]; exact hK w' hS'
    cases r with
    | ok n w' =>
      cases n <;> simp only [Oper.upon] at h0 ⊢
      case value u => exact key _ _ h0
      case skip => exact key _ _ h0
      case defer d =>
        exfalso
        have := congrArg (fun b : Act => b.defers.length) h0.1
        have hp : ∀ (b : Act) (t : Option Tmp) (u : Value), (b.put t u).defers = b.defers := fun b t u => by cases t <;> rfl
        simp [hp] at this
      case enter f args =>
        refine Calls.mono h0 fun e w'' he => ?_
        cases e with
        | returned u => exact key _ _ he
        | panicked c => exact he.elim
        | outgrown => exact he.elim fun _ h => h.elim fun _ h => h.elim
      case row row args => exact Rows.mono h0 fun u w'' he => key _ _ he
    | halt x w' =>
      cases x <;> simp only [Oper.upon] at h0
  · exact .inr h

/-- What kind the worlds are of: has operation m come up? -/
def kindL (S0 S1 : World → Prop) (m : Nat) (listed : Array Bool) : World → Prop := if listed.getD m true = true then S1 else S0
theorem kindL_set {m i : Nat} {listed : Array Bool} (h : i ≠ m) : kindL S0 S1 m (listed.setIfInBounds i true) = kindL S0 S1 m listed := by
  unfold kindL; rw [getD_set_ne true h]

def AnyL (P : Program) (md : Region.Mode) (ops : Array Oper) (Q : Exit → Act → World → Prop) (S0 S1 : World → Prop) (m : Nat) : Nat → Array Bool → Act → Prop
  | 0, listed, a => Region.ready md ops listed = [] ∧ ∀ w, kindL S0 S1 m listed w → Q .normal a w
  | fuel + 1, listed, a =>
    (Region.ready md ops listed = [] → ∀ w, kindL S0 S1 m listed w → Q .normal a w) ∧
    ∀ i ∈ Region.ready md ops listed, ∃ o v, ops[i]? = some o ∧ StepsL P ops (kindL S0 S1 m listed) (kindL S0 S1 m (listed.setIfInBounds i true)) o v a ∧ AnyL P md ops Q S0 S1 m fuel (listed.setIfInBounds i true) (a.put o.dst v)

theorem AnyL.any {m : Nat} : ∀ (fuel : Nat) (listed : Array Bool) (a : Act), AnyL P md ops Q S0 S1 m fuel listed a → ∀ w, kindL S0 S1 m listed w → wpAny P md ops Q fuel listed a w
  | 0, _, _, h, w, hS => ⟨h.1, h.2 w hS⟩
  | fuel + 1, listed, a, h, w, hS => ⟨fun h0 => h.1 h0 w hS, fun i hi => by
    obtain ⟨o, v, ho, hy, hr⟩ := h.2 i hi
    exact hy.wpOp ho hS fun w' hS' => AnyL.any fuel _ _ hr w' hS'⟩

theorem AnyL.first {m i : Nat} {oi om : Oper} {v : Value} (him : i ≠ m) (hi : ops[i]? = some oi) (hm : ops[m]? = some om) (hsel : ∀ (j : Nat) (o : Oper) cs b, ops[j]? = some o → o.op ≠ .select cs b) :
    ∀ (fuel : Nat) (listed : Array Bool) (a : Act),
      (∀ j oj, ops[j]? = some oj → j ≠ i → listed.getD j true = false → (∀ e ∈ oj.after, Region.binds md e = true → e.on ≠ i) → oi.apart ops oj = true) →
      i ∈ Region.ready md ops listed → (listed.getD m true = false → StepsIf P ops S0 oi v a) → ((listed.getD m true = false ∧ ∃ e ∈ om.after, Region.binds md e = true ∧ e.on = i) ∨ StepsIf P ops S1 oi v a) →
      AnyL P md ops Q S0 S1 m fuel (listed.setIfInBounds i true) (a.put oi.dst v) → AnyL P md ops Q S0 S1 m (fuel + 1) listed a := by
  have hno : ∀ listed, i ∈ Region.ready md ops listed → (∃ e ∈ om.after, Region.binds md e = true ∧ e.on = i) → m ∉ Region.ready md ops listed := fun listed hr hdep hmr => by
    obtain ⟨_, o', ho', hall⟩ := mem_ready.1 hmr
    obtain rfl : om = o' := Option.some.inj (hm.symm.trans ho')
    obtain ⟨e, he, hb, rfl⟩ := hdep
    have h1 := hall e he hb
    have h0 := (mem_ready.1 hr).1
    rcases Nat.lt_or_ge e.on listed.size with h' | h'
    · simp [h'] at h0 h1; rw [h0] at h1; cases h1
    · simp [Array.getElem?_eq_none h'] at h1
  have step : ∀ (listed : Array Bool) (a : Act), (listed.getD m true = false → StepsIf P ops S0 oi v a) → ((listed.getD m true = false ∧ ∃ e ∈ om.after, Region.binds md e = true ∧ e.on = i) ∨ StepsIf P ops S1 oi v a) →
      StepsL P ops (kindL S0 S1 m listed) (kindL S0 S1 m (listed.setIfInBounds i true)) oi v a := fun listed a hy0 hy1 => by
    rw [kindL_set him]
    unfold kindL
    cases hb : listed.getD m true with
    | false => rw [if_neg (by decide)]; exact (hy0 hb).toL
    | true =>
      rw [if_pos rfl]
      rcases hy1 with ⟨h, _⟩ | h
      · rw [hb] at h; cases h
      · exact h.toL
  intro fuel
  induction fuel with
  | zero =>
    intro listed a _ hr hy0 hy1 H
    refine ⟨fun h => (by rw [h] at hr; cases hr), fun j hj => ?_⟩
    by_cases hji : j = i
    · subst hji; exact ⟨oi, v, hi, step listed a hy0 hy1, H⟩
    · have := ready_mono hj hji
      rw [H.1] at this
      cases this
  | succ fuel ih =>
    intro listed a hfree hr hy0 hy1 H
    refine ⟨fun h => (by rw [h] at hr; cases hr), fun j hj => ?_⟩
    by_cases hji : j = i
    · subst hji; exact ⟨oi, v, hi, step listed a hy0 hy1, H⟩
    · obtain ⟨oj, u, hoj, hyj, hrest⟩ := H.2 j (ready_mono hj hji)
      obtain ⟨hjun, oj', hoj', hall⟩ := mem_ready.1 hj
      obtain rfl : oj = oj' := Option.some.inj (hoj.symm.trans hoj')
      have hnot : ∀ e ∈ oj.after, Region.binds md e = true → e.on ≠ i := fun e he hb heq => by
        have h1 := hall e he hb
        have h0 := (mem_ready.1 hr).1
        rw [heq] at h1
        rcases Nat.lt_or_ge i listed.size with h' | h'
        · simp [h'] at h0 h1; rw [h0] at h1; cases h1
        · simp [Array.getElem?_eq_none h'] at h1
      obtain ⟨h1, h2, h3⟩ := Oper.apart_spec (hfree j oj hoj hji hjun hnot)
      rw [kindL_set him, Array.setIfInBounds_comm _ _ (Ne.symm hji), kindL_set him] at hyj
      have hput : ∀ {T : World → Prop}, StepsIf P ops T oi v a → StepsIf P ops T oi v (a.put oj.dst u) := fun h => h.put (fun cs b => hsel i oi cs b hi) h3 (fun d hd => fun e => h2 d hd e)
      refine ⟨oj, u, hoj, StepsL.unput (fun cs b => hsel j oj cs b hoj) h1 hyj, ih _ _ ?_ (ready_mono hr (Ne.symm hji)) ?_ ?_ ?_⟩
      · intro k ok hk hki hun hno
        refine hfree k ok hk hki ?_ hno
        by_cases hjk : j = k
        · subst hjk; exact hjun
        · rw [getD_set_ne true hjk] at hun; exact hun
      · intro hun
        by_cases hjm : j = m
        · subst hjm
          exact hput (hy0 hjun)
        · rw [getD_set_ne true hjm] at hun; exact hput (hy0 hun)
      · rcases hy1 with ⟨hf, hd⟩ | h
        · have hjm : j ≠ m := fun e => hno listed hr hd (by rw [← e]; exact hj)
          exact .inl ⟨by rw [getD_set_ne true hjm]; exact hf, hd⟩
        · exact .inr (hput h)
      · rw [Array.setIfInBounds_comm _ _ hji, ← Act.put_comm a v u h2]
        exact hrest

/-- Take number i, for which the store waits. -/
theorem AnyL.next {m i : Nat} {d : Option Tmp} {oi : Oper} {v : Value} {fuel : Nat} {listed : Array Bool} {a : Act} (hi : ops[i]? = some oi) (hd : oi.dst = d) (hw : (waits md ops m i && !listed.getD m true && !(i == m)) = true)
    (hs : Region.noSelect ops = true) (hf : Region.free md ops listed i = true) (hr : (Region.ready md ops listed).contains i = true) (hy : StepsIf P ops S0 oi v a)
    (h : ∀ a', a.put d v = a' → AnyL P md ops Q S0 S1 m fuel (listed.setIfInBounds i true) a') : AnyL P md ops Q S0 S1 m (fuel + 1) listed a := by
  rw [Bool.and_eq_true, Bool.and_eq_true] at hw
  obtain ⟨⟨hw, hl⟩, him⟩ := hw
  have him : i ≠ m := by simpa using him
  have hl : listed.getD m true = false := by simpa using hl
  unfold waits at hw
  cases hm : ops[m]? with
  | none => rw [hm] at hw; cases hw
  | some om =>
    rw [hm] at hw
    simp only [Option.map_some, Option.getD_some, Array.any_eq_true', Bool.and_eq_true, beq_iff_eq] at hw
    exact AnyL.first him hi hm (Region.noSelect_spec hs) fuel listed a (Region.free_spec hi hf) (by simpa using hr) (fun _ => hy) (.inl ⟨hl, hw⟩) (h _ (by rw [hd]))
/-- Take number i, for which it doesn't, ahead of the store. -/
theorem AnyL.both {m i : Nat} {d : Option Tmp} {oi : Oper} {v : Value} {fuel : Nat} {listed : Array Bool} {a : Act} (hi : ops[i]? = some oi) (hd : oi.dst = d) (hw : (decide (m < ops.size) && !(i == m)) = true)
    (hs : Region.noSelect ops = true) (hf : Region.free md ops listed i = true) (hr : (Region.ready md ops listed).contains i = true) (hy0 : StepsIf P ops S0 oi v a) (hy1 : StepsIf P ops S1 oi v a)
    (h : ∀ a', a.put d v = a' → AnyL P md ops Q S0 S1 m fuel (listed.setIfInBounds i true) a') : AnyL P md ops Q S0 S1 m (fuel + 1) listed a := by
  rw [Bool.and_eq_true] at hw
  obtain ⟨hw, him⟩ := hw
  have him : i ≠ m := by simpa using him
  have hw : m < ops.size := of_decide_eq_true hw
  exact AnyL.first him hi (Array.getElem?_eq_getElem hw) (Region.noSelect_spec hs) fuel listed a (Region.free_spec hi hf) (by simpa using hr) (fun _ => hy0) (.inr hy1) (h _ (by rw [hd]))
/-- Behind the store. -/
theorem AnyL.after {m i : Nat} {d : Option Tmp} {oi : Oper} {v : Value} {fuel : Nat} {listed : Array Bool} {a : Act} (hi : ops[i]? = some oi) (hd : oi.dst = d) (hw : (decide (m < ops.size) && listed.getD m true && !(i == m)) = true)
    (hs : Region.noSelect ops = true) (hf : Region.free md ops listed i = true) (hr : (Region.ready md ops listed).contains i = true) (hy : StepsIf P ops S1 oi v a)
    (h : ∀ a', a.put d v = a' → AnyL P md ops Q S0 S1 m fuel (listed.setIfInBounds i true) a') : AnyL P md ops Q S0 S1 m (fuel + 1) listed a := by
  rw [Bool.and_eq_true, Bool.and_eq_true] at hw
  obtain ⟨⟨hw, hl⟩, him⟩ := hw
  have him : i ≠ m := by simpa using him
  have hw : m < ops.size := of_decide_eq_true hw
  exact AnyL.first him hi (Array.getElem?_eq_getElem hw) (Region.noSelect_spec hs) fuel listed a (Region.free_spec hi hf) (by simpa using hr) (fun h => by rw [hl] at h; cases h) (.inr hy) (h _ (by rw [hd]))
/-- The store, when it alone is left. -/
theorem AnyL.store {m : Nat} {d : Option Tmp} {om : Oper} {v : Value} {fuel : Nat} {listed : Array Bool} {a : Act} (hm : ops[m]? = some om) (hd : om.dst = d) (hr : Region.ready md ops listed = [m]) (hl : (!listed.getD m true && decide (m < listed.size)) = true)
    (hw : Region.wanted om (yielded ops a.tmps) = true) (hy : ∀ w, S0 w → ∀ (K : Act → World → Prop) (Q : Exit → Act → World → Prop), (∀ w', S1 w' → K (a.put d v) w') → om.wp P a w K Q)
    (h : ∀ a', a.put d v = a' → AnyL P md ops Q S0 S1 m fuel (listed.setIfInBounds m true) a') : AnyL P md ops Q S0 S1 m (fuel + 1) listed a := by
  rw [Bool.and_eq_true] at hl
  obtain ⟨hl, hsz⟩ := hl
  have hl : listed.getD m true = false := by simpa using hl
  have hsz : m < listed.size := of_decide_eq_true hsz
  subst hd
  refine ⟨fun h0 => (by rw [hr] at h0; cases h0), fun j hj => ?_⟩
  rw [hr] at hj
  obtain rfl : j = m := by simpa using hj
  have k0 : kindL S0 S1 j listed = S0 := by unfold kindL; rw [hl, if_neg (by decide)]
  have k1 : kindL S0 S1 j (listed.setIfInBounds j true) = S1 := by unfold kindL; rw [if_pos (by simp [hsz])]
  exact ⟨om, v, hm, by rw [k0, k1]; exact .inl ⟨hw, hy⟩, h _ rfl⟩
theorem AnyL.done {m : Nat} {listed : Array Bool} {a : Act} (hr : Region.ready md ops listed = []) (hl : listed.getD m true = true) (h : ∀ w, S1 w → Q .normal a w) : ∀ fuel, AnyL P md ops Q S0 S1 m fuel listed a
  | 0 => ⟨hr, fun w hw => h w (by rw [kindL, if_pos hl] at hw; exact hw)⟩
  | _ + 1 => ⟨fun _ w hw => h w (by rw [kindL, if_pos hl] at hw; exact hw), by rw [hr]; simp⟩
theorem region_stepsL {id m : Nat} {a : Act} {w : World} (hm : P.follows .mixedOrders = true) (hlt : decide (m < ops.size) = true) (hS : S0 w.drew)
    (h : AnyL P .any ops Q S0 S1 m ops.size (Array.replicate ops.size false) a) : (Code.region id ops true).wp P Q a w :=
  wp_region_any hm (AnyL.any _ _ _ h _ (by
    have hlt : m < ops.size := of_decide_eq_true hlt
    have : (Array.replicate ops.size false).getD m true = false := by simp [hlt]
    rw [kindL, this, if_neg (by decide)]; exact hS))
end
end Go.Proofs.YtpncomjpmilbkaaDoor

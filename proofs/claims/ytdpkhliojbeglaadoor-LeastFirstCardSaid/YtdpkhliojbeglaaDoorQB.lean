/- Texts put together: Rs Eq Es Sw Sx Sp Sq Sr Ss Rw. -/
import Derived.OrdersHeld
import Derived.WalkKit
import Derived.Test.YtdpkhliojbeglaaDoorProg
import Derived.Test.YtdpkhliojbeglaaDoorQA
import Derived.Test.YtdpkhliojbeglaaDoorRows
import Derived.WalkSpells
import Derived.WalkLawsBesides
import Derived.Handy
import Derived.Lib.TrailingZeros
import Derived.Deep.RegionHeld3
import Derived.Deep.RegionWith
import Derived.Deep.DeepCutAuto
import Derived.Lib.Hide
/- A region that draws its order, where each operation, in every world of a kind S, yields one value and leads to a world of that kind: whatever the order is, the end is the same. Nothing of the program is used. -/
namespace Go.Proofs.YtdpkhliojbeglaaDoor
open Go

section
variable {P : Program} {ops : Array Oper} {Q : Exit → Act → World → Prop} {md : Region.Mode} {S : World → Prop}

/-- In state a, in every world that meets S, operation o leaves v in its temporary, and a world that meets S. -/
def StepsIf (P : Program) (ops : Array Oper) (S : World → Prop) (o : Oper) (v : Value) (a : Act) : Prop :=
  (Region.wanted o (yielded ops a.tmps) = true ∧ ∀ w, S w → ∀ (K : Act → World → Prop) (Q : Exit → Act → World → Prop), (∀ w', S w' → K (a.put o.dst v) w') → o.wp P a w K Q) ∨
  (Region.wanted o (yielded ops a.tmps) = false ∧ v = undef)

theorem StepsIf.wpOp {i : Nat} {o : Oper} {v : Value} {a : Act} (hi : ops[i]? = some o) (hy : StepsIf P ops S o v a)
    {K : Act → World → Prop} {w : World} (hS : S w) (h : ∀ w', S w' → K (a.put o.dst v) w') : wpOp P ops Q i K a w := by
  unfold Go.wpOp
  simp only [hi]
  rcases hy with ⟨hw, hv⟩ | ⟨hw, rfl⟩
  · simp only [hw, if_true]; exact .inl (hv w hS K Q h)
  · simp only [hw, Bool.false_eq_true, if_false]; exact h w hS

/-- What another operation puts elsewhere changes nothing of it. -/
theorem StepsIf.put {o : Oper} {v : Value} {a : Act} {x : Option Tmp} {y : Value} (hs : ∀ cs b, o.op ≠ .select cs b) (h1 : ∀ d, x = some d → d ∉ o.looksAt ops) (h2 : ∀ d, o.dst = some d → x ≠ some d)
    (hy : StepsIf P ops S o v a) : StepsIf P ops S o v (a.put x y) := by
  unfold StepsIf at *
  rw [wanted_put o a x y h1]
  rcases hy with ⟨hw, hv⟩ | h
  · refine .inl ⟨hw, fun w hS K Q hK => ?_⟩
    have h0 := hv w hS (fun a' w' => a' = a.put o.dst v ∧ S w') (fun _ _ _ => False) (fun w' hS' => ⟨rfl, hS'⟩)
    unfold Oper.wp at *
    rw [execOp_put o hs a x y h1]
    generalize (execOp a.eval o).run P w = r at *
    have key : ∀ u w', (a.put o.dst u = a.put o.dst v ∧ S w') → K ((a.put x y).put o.dst u) w' := fun u w' ⟨he, hS'⟩ => by
      have e : (a.put x y).put o.dst u = (a.put x y).put o.dst v := by
        rw [← Act.put_comm a u y h2, ← Act.put_comm a v y h2, he]
      rw [e]; exact hK w' hS'
    cases r with
    | ok n w' =>
      cases n <;> simp only [Oper.upon] at h0 ⊢
      case value u => exact key _ _ h0
      case skip => exact key _ _ h0
      case defer d =>
        exfalso
        have := congrArg (fun b : Act => b.defers.length) h0.1
        have hp : ∀ (b : Act) (t : Option Tmp) (u : Value), (b.put t u).defers = b.defers := fun b t u => by cases t <;> rfl
        simp [hp] at this
      case enter f args =>
        refine Calls.mono h0 fun e w'' he => ?_
        cases e with
        | returned u => exact key _ _ he
        | panicked c => exact he.elim
        | outgrown => exact he.elim fun _ h => h.elim fun _ h => h.elim
      case row row args => exact Rows.mono h0 fun u w'' he => key _ _ he
    | halt x w' =>
      cases x <;> simp only [Oper.upon] at h0
  · exact .inr h

/-- Whatever order is picked from here on, in every world that meets S. -/
def AnyS (P : Program) (md : Region.Mode) (ops : Array Oper) (Q : Exit → Act → World → Prop) (S : World → Prop) : Nat → Array Bool → Act → Prop
  | 0, listed, a => Region.ready md ops listed = [] ∧ ∀ w, S w → Q .normal a w
  | fuel + 1, listed, a =>
    (Region.ready md ops listed = [] → ∀ w, S w → Q .normal a w) ∧
    ∀ i ∈ Region.ready md ops listed, ∃ o v, ops[i]? = some o ∧ StepsIf P ops S o v a ∧ AnyS P md ops Q S fuel (listed.setIfInBounds i true) (a.put o.dst v)

theorem AnyS.any : ∀ (fuel : Nat) (listed : Array Bool) (a : Act), AnyS P md ops Q S fuel listed a → ∀ w, S w → wpAny P md ops Q fuel listed a w
  | 0, _, _, h, w, hS => ⟨h.1, h.2 w hS⟩
  | fuel + 1, listed, a, h, w, hS => ⟨fun h0 => h.1 h0 w hS, fun i hi => by
    obtain ⟨o, v, ho, hy, hr⟩ := h.2 i hi
    exact hy.wpOp ho hS fun w' hS' => AnyS.any fuel _ _ hr w' hS'⟩

theorem put_cancel {a : Act} {x y : Option Tmp} {v u u' : Value} (h : (a.put x v).put y u' = (a.put x v).put y u) : a.put y u' = a.put y u := by
  cases y with
  | none => rfl
  | some e =>
    by_cases he : e < a.tmps.size
    · have hs : e < (a.put x v).tmps.size := by cases x <;> simpa [Act.put] using he
      have h1 := congrArg (fun b : Act => b.tmps[e]?) h
      simp only [Act.put] at h1 hs
      cases x with
      | none =>
        simp only [Array.getElem?_setIfInBounds_self_of_lt he] at h1
        rw [Option.some.inj h1]
      | some d =>
        simp only [Array.getElem?_setIfInBounds_self_of_lt hs] at h1
        rw [Option.some.inj h1]
    · simp only [Act.put, Array.setIfInBounds_eq_of_size_le (Nat.le_of_not_lt he)]

theorem AnyS.first {i : Nat} {oi : Oper} {v : Value} (hi : ops[i]? = some oi) (hsel : ∀ (j : Nat) (o : Oper) cs b, ops[j]? = some o → o.op ≠ .select cs b) :
    ∀ (fuel : Nat) (listed : Array Bool) (a : Act),
      (∀ j oj, ops[j]? = some oj → j ≠ i → listed.getD j true = false → (∀ e ∈ oj.after, Region.binds md e = true → e.on ≠ i) → oi.apart ops oj = true) →
      i ∈ Region.ready md ops listed → StepsIf P ops S oi v a →
      AnyS P md ops Q S fuel (listed.setIfInBounds i true) (a.put oi.dst v) → AnyS P md ops Q S (fuel + 1) listed a := by
  intro fuel
  induction fuel with
  | zero =>
    intro listed a _ hr hy H
    refine ⟨fun h => (by rw [h] at hr; cases hr), fun j hj => ?_⟩
    by_cases hji : j = i
    · subst hji; exact ⟨oi, v, hi, hy, H⟩
    · have := ready_mono hj hji
      rw [H.1] at this
      cases this
  | succ fuel ih =>
    intro listed a hfree hr hy H
    refine ⟨fun h => (by rw [h] at hr; cases hr), fun j hj => ?_⟩
    by_cases hji : j = i
    · subst hji; exact ⟨oi, v, hi, hy, H⟩
    · obtain ⟨oj, u, hoj, hyj, hrest⟩ := H.2 j (ready_mono hj hji)
      obtain ⟨hjun, oj', hoj', hall⟩ := mem_ready.1 hj
      obtain rfl : oj = oj' := Option.some.inj (hoj.symm.trans hoj')
      have hnot : ∀ e ∈ oj.after, Region.binds md e = true → e.on ≠ i := fun e he hb heq => by
        have h1 := hall e he hb
        have h0 := (mem_ready.1 hr).1
        rw [heq] at h1
        rcases Nat.lt_or_ge i listed.size with h' | h'
        · simp [h'] at h0 h1; rw [h0] at h1; cases h1
        · simp [Array.getElem?_eq_none h'] at h1
      obtain ⟨h1, h2, h3⟩ := Oper.apart_spec (hfree j oj hoj hji hjun hnot)
      -- oj steps in a as well
      have hyj' : StepsIf P ops S oj u a := by
        have hw := wanted_put oj a oi.dst v h1
        unfold StepsIf at hyj ⊢
        rw [hw] at hyj
        rcases hyj with ⟨hw', hv⟩ | h
        · refine .inl ⟨hw', fun w hS K Q hK => ?_⟩
          have h0 := hv w hS (fun a' w' => a' = (a.put oi.dst v).put oj.dst u ∧ S w') (fun _ _ _ => False) (fun w' hS' => ⟨rfl, hS'⟩)
          unfold Oper.wp at *
          rw [execOp_put oj (fun cs b => hsel j oj cs b hoj) a oi.dst v h1] at h0
          generalize (execOp a.eval oj).run P w = r at *
          have key : ∀ u' w', ((a.put oi.dst v).put oj.dst u' = (a.put oi.dst v).put oj.dst u ∧ S w') → K (a.put oj.dst u') w' := fun u' w' ⟨he, hS'⟩ => by
            rw [put_cancel he]; exact hK w' hS'
          cases r with
          | ok n w' =>
            cases n <;> simp only [Oper.upon] at h0 ⊢
            case value u => exact key _ _ h0
            case skip => exact key _ _ h0
            case defer d =>
              exfalso
              have := congrArg (fun b : Act => b.defers.length) h0.1
              have hp : ∀ (b : Act) (t : Option Tmp) (u : Value), (b.put t u).defers = b.defers := fun b t u => by cases t <;> rfl
              simp [hp] at this
            case enter f args =>
              refine Calls.mono h0 fun e w'' he => ?_
              cases e with
              | returned u => exact key _ _ he
              | panicked c => exact he.elim
              | outgrown => exact he.elim fun _ h => h.elim fun _ h => h.elim
            case row row args => exact Rows.mono h0 fun u w'' he => key _ _ he
          | halt x w' =>
            cases x <;> simp only [Oper.upon] at h0
        · exact .inr h
      refine ⟨oj, u, hoj, hyj', ih _ _ ?_ (ready_mono hr (Ne.symm hji)) (hy.put (fun cs b => hsel i oi cs b hi) h3 (fun d hd => fun e => h2 d hd e)) ?_⟩
      · intro k ok hk hki hun hno
        refine hfree k ok hk hki ?_ hno
        by_cases hjk : j = k
        · subst hjk; exact hjun
        · rw [getD_set_ne true hjk] at hun; exact hun
      · rw [Array.setIfInBounds_comm _ _ hji, ← Act.put_comm a v u h2]
        exact hrest

/-- Take number i next: it may come up, and nobody who could come before it touches its temporaries. -/
theorem AnyS.take {i : Nat} {oi : Oper} {v : Value} {fuel : Nat} {listed : Array Bool} {a : Act} (hi : ops[i]? = some oi)
    (hs : Region.noSelect ops = true) (hf : Region.free md ops listed i = true) (hr : (Region.ready md ops listed).contains i = true) (hy : StepsIf P ops S oi v a)
    (h : AnyS P md ops Q S fuel (listed.setIfInBounds i true) (a.put oi.dst v)) : AnyS P md ops Q S (fuel + 1) listed a :=
  AnyS.first hi (Region.noSelect_spec hs) fuel listed a (Region.free_spec hi hf) (by simpa using hr) hy h
theorem AnyS.done {listed : Array Bool} {a : Act} (hr : Region.ready md ops listed = []) (h : ∀ w, S w → Q .normal a w) : ∀ fuel, AnyS P md ops Q S fuel listed a
  | 0 => ⟨hr, h⟩
  | _ + 1 => ⟨fun _ => h, by rw [hr]; simp⟩
/-- The beginning. -/
theorem region_steps {id : Nat} {a : Act} {w : World} (hm : P.follows .mixedOrders = true) (hS : S w.drew)
    (h : AnyS P .any ops Q S ops.size (Array.replicate ops.size false) a) : (Code.region id ops true).wp P Q a w :=
  wp_region_any hm (AnyS.any _ _ _ h _ hS)
/-- An operation that only yields. -/
theorem StepsIf.yield {o : Oper} {v : Value} {a : Act} (hw : Region.wanted o (yielded ops a.tmps) = true) (h : ∀ w, S w → (execOp a.eval o).run P w = .ok (.value v) w) : StepsIf P ops S o v a :=
  .inl ⟨hw, fun w hS K Q hK => by unfold Oper.wp; rw [h w hS]; exact hK w hS⟩
/-- A call of a Go function. -/
theorem StepsIf.call {o : Oper} {v : Value} {a : Act} {f : FuncId} {args : Array Value} (hw : Region.wanted o (yielded ops a.tmps) = true) (h : ∀ w, S w → (execOp a.eval o).run P w = .ok (.enter f args) w)
    (hc : ∀ w, S w → Calls P f args w fun e w' => e = .returned v ∧ S w') : StepsIf P ops S o v a :=
  .inl ⟨hw, fun w hS K Q hK => by
    unfold Oper.wp; rw [h w hS]
    refine Calls.mono (hc w hS) fun e w' he => ?_
    obtain ⟨rfl, hS'⟩ := he
    exact hK w' hS'⟩
/-- One that its guard passes over. -/
theorem StepsIf.no {o : Oper} {a : Act} (hw : Region.wanted o (yielded ops a.tmps) = false) : StepsIf P ops S o undef a := .inr ⟨hw, rfl⟩
/-- As 'take'; the new state is told by an equation. -/
theorem AnyS.next {i : Nat} {d : Option Tmp} {oi : Oper} {v : Value} {fuel : Nat} {listed : Array Bool} {a : Act} (hi : ops[i]? = some oi) (hd : oi.dst = d)
    (hs : Region.noSelect ops = true) (hf : Region.free md ops listed i = true) (hr : (Region.ready md ops listed).contains i = true) (hy : StepsIf P ops S oi v a)
    (h : ∀ a', a.put d v = a' → AnyS P md ops Q S fuel (listed.setIfInBounds i true) a') : AnyS P md ops Q S (fuel + 1) listed a :=
  AnyS.take hi hs hf hr hy (h _ (by rw [hd]))

/-- As 'next'; the value is found on the way. -/
theorem AnyS.stepE {i : Nat} {d : Option Tmp} {oi : Oper} {fuel : Nat} {listed : Array Bool} {a : Act} (hi : ops[i]? = some oi) (hd : oi.dst = d)
    (hs : Region.noSelect ops = true) (hf : Region.free md ops listed i = true) (hr : (Region.ready md ops listed).contains i = true)
    (h : ∃ v, StepsIf P ops S oi v a ∧ ∀ a', a.put d v = a' → AnyS P md ops Q S fuel (listed.setIfInBounds i true) a') : AnyS P md ops Q S (fuel + 1) listed a := by
  obtain ⟨v, hy, h⟩ := h
  exact AnyS.next hi hd hs hf hr hy h

/-! ### The same, where one last operation, which waits for all others, does what it likes (a store). -/
def AnyM (P : Program) (md : Region.Mode) (ops : Array Oper) (Q : Exit → Act → World → Prop) (S : World → Prop) (m : Nat) : Nat → Array Bool → Act → Prop
  | 0, listed, a => Region.ready md ops listed = [m] ∧ Region.ready md ops (listed.setIfInBounds m true) = [] ∧ ∀ w, S w → Go.wpOp P ops Q m (fun a' w' => Q .normal a' w') a w
  | fuel + 1, listed, a =>
    Region.ready md ops listed ≠ [] ∧ m ∉ Region.ready md ops listed ∧
    ∀ i ∈ Region.ready md ops listed, ∃ o v, ops[i]? = some o ∧ StepsIf P ops S o v a ∧ AnyM P md ops Q S m fuel (listed.setIfInBounds i true) (a.put o.dst v)

theorem AnyM.any {m : Nat} : ∀ (fuel : Nat) (listed : Array Bool) (a : Act), AnyM P md ops Q S m fuel listed a → ∀ w, S w → wpAny P md ops Q (fuel + 1) listed a w
  | 0, _, _, h, w, hS => ⟨fun h0 => (by rw [h.1] at h0; cases h0), fun i hi => by
    rw [h.1] at hi
    obtain rfl : i = m := by simpa using hi
    exact wpOp_mono (fun a' w' hq => ⟨h.2.1, hq⟩) (h.2.2 w hS)⟩
  | fuel + 1, listed, a, h, w, hS => ⟨fun h0 => absurd h0 h.1, fun i hi => by
    obtain ⟨o, v, ho, hy, hr⟩ := h.2.2 i hi
    exact hy.wpOp ho hS fun w' hS' => AnyM.any fuel _ _ hr w' hS'⟩

/-- oj steps in a as well as behind what oi has put. -/
theorem StepsIf.unput {oi oj : Oper} {v u : Value} {a : Act} (hsj : ∀ cs b, oj.op ≠ .select cs b) (h1 : ∀ d, oi.dst = some d → d ∉ oj.looksAt ops) (hyj : StepsIf P ops S oj u (a.put oi.dst v)) : StepsIf P ops S oj u a := by
  have hw := wanted_put oj a oi.dst v h1
  unfold StepsIf at hyj ⊢
  rw [hw] at hyj
  rcases hyj with ⟨hw', hv⟩ | h
  · refine .inl ⟨hw', fun w hS K Q hK => ?_⟩
    have h0 := hv w hS (fun a' w' => a' = (a.put oi.dst v).put oj.dst u ∧ S w') (fun _ _ _ => False) (fun w' hS' => ⟨rfl, hS'⟩)
    unfold Oper.wp at *
    rw [execOp_put oj hsj a oi.dst v h1] at h0
    generalize (execOp a.eval oj).run P w = r at *
    have key : ∀ u' w', ((a.put oi.dst v).put oj.dst u' = (a.put oi.dst v).put oj.dst u ∧ S w') → K (a.put oj.dst u') w' := fun u' w' ⟨he, hS'⟩ => by
      rw [put_cancel he]; exact hK w' hS'
    cases r with
    | ok n w' =>
      cases n <;> simp only [Oper.upon] at h0 ⊢
      case value u => exact key _ _ h0
      case skip => exact key _ _ h0
      case defer d =>
        exfalso
        have := congrArg (fun b : Act => b.defers.length) h0.1
        have hp : ∀ (b : Act) (t : Option Tmp) (u : Value), (b.put t u).defers = b.defers := fun b t u => by cases t <;> rfl
        simp [hp] at this
      case enter f args =>
        refine Calls.mono h0 fun e w'' he => ?_
        cases e with
        | returned u => exact key _ _ he
        | panicked c => exact he.elim
        | outgrown => exact he.elim fun _ h => h.elim fun _ h => h.elim
      case row row args => exact Rows.mono h0 fun u w'' he => key _ _ he
    | halt x w' =>
      cases x <;> simp only [Oper.upon] at h0
  · exact .inr h

theorem AnyM.first {m i : Nat} {oi om : Oper} {v : Value} (hi : ops[i]? = some oi) (hm : ops[m]? = some om) (hdep : ∃ e ∈ om.after, Region.binds md e = true ∧ e.on = i) (hsel : ∀ (j : Nat) (o : Oper) cs b, ops[j]? = some o → o.op ≠ .select cs b) :
    ∀ (fuel : Nat) (listed : Array Bool) (a : Act),
      (∀ j oj, ops[j]? = some oj → j ≠ i → listed.getD j true = false → (∀ e ∈ oj.after, Region.binds md e = true → e.on ≠ i) → oi.apart ops oj = true) →
      i ∈ Region.ready md ops listed → StepsIf P ops S oi v a →
      AnyM P md ops Q S m fuel (listed.setIfInBounds i true) (a.put oi.dst v) → AnyM P md ops Q S m (fuel + 1) listed a := by
  have hno : ∀ listed, i ∈ Region.ready md ops listed → m ∉ Region.ready md ops listed := fun listed hr hmr => by
    obtain ⟨_, o', ho', hall⟩ := mem_ready.1 hmr
    obtain rfl : om = o' := Option.some.inj (hm.symm.trans ho')
    obtain ⟨e, he, hb, rfl⟩ := hdep
    have h1 := hall e he hb
    have h0 := (mem_ready.1 hr).1
    rcases Nat.lt_or_ge e.on listed.size with h' | h'
    · simp [h'] at h0 h1; rw [h0] at h1; cases h1
    · simp [Array.getElem?_eq_none h'] at h1
  intro fuel
  induction fuel with
  | zero =>
    intro listed a _ hr hy H
    refine ⟨fun h => (by rw [h] at hr; cases hr), hno listed hr, fun j hj => ?_⟩
    by_cases hji : j = i
    · subst hji; exact ⟨oi, v, hi, hy, H⟩
    · have := ready_mono hj hji
      rw [H.1] at this
      obtain rfl : j = m := by simpa using this
      exact absurd hj (hno listed hr)
  | succ fuel ih =>
    intro listed a hfree hr hy H
    refine ⟨fun h => (by rw [h] at hr; cases hr), hno listed hr, fun j hj => ?_⟩
    by_cases hji : j = i
    · subst hji; exact ⟨oi, v, hi, hy, H⟩
    · obtain ⟨oj, u, hoj, hyj, hrest⟩ := H.2.2 j (ready_mono hj hji)
      obtain ⟨hjun, oj', hoj', hall⟩ := mem_ready.1 hj
      obtain rfl : oj = oj' := Option.some.inj (hoj.symm.trans hoj')
      have hnot : ∀ e ∈ oj.after, Region.binds md e = true → e.on ≠ i := fun e he hb heq => by
        have h1 := hall e he hb
        have h0 := (mem_ready.1 hr).1
        rw [heq] at h1
        rcases Nat.lt_or_ge i listed.size with h' | h'
        · simp [h'] at h0 h1; rw [h0] at h1; cases h1
        · simp [Array.getElem?_eq_none h'] at h1
      obtain ⟨h1, h2, h3⟩ := Oper.apart_spec (hfree j oj hoj hji hjun hnot)
      refine ⟨oj, u, hoj, StepsIf.unput (fun cs b => hsel j oj cs b hoj) h1 hyj, ih _ _ ?_ (ready_mono hr (Ne.symm hji)) (hy.put (fun cs b => hsel i oi cs b hi) h3 (fun d hd => fun e => h2 d hd e)) ?_⟩
      · intro k ok hk hki hun hno
        refine hfree k ok hk hki ?_ hno
        by_cases hjk : j = k
        · subst hjk; exact hjun
        · rw [getD_set_ne true hjk] at hun; exact hun
      · rw [Array.setIfInBounds_comm _ _ hji, ← Act.put_comm a v u h2]
        exact hrest

/-- Does operation m wait for operation i? -/
def waits (md : Region.Mode) (ops : Array Oper) (m i : Nat) : Bool := ((ops[m]?).map fun o => o.after.any fun e => Region.binds md e && e.on == i).getD false

theorem AnyM.next {m i : Nat} {d : Option Tmp} {oi : Oper} {v : Value} {fuel : Nat} {listed : Array Bool} {a : Act} (hi : ops[i]? = some oi) (hd : oi.dst = d) (hw : waits md ops m i = true)
    (hs : Region.noSelect ops = true) (hf : Region.free md ops listed i = true) (hr : (Region.ready md ops listed).contains i = true) (hy : StepsIf P ops S oi v a)
    (h : ∀ a', a.put d v = a' → AnyM P md ops Q S m fuel (listed.setIfInBounds i true) a') : AnyM P md ops Q S m (fuel + 1) listed a := by
  unfold waits at hw
  cases hm : ops[m]? with
  | none => rw [hm] at hw; cases hw
  | some om =>
    rw [hm] at hw
    simp only [Option.map_some, Option.getD_some, Array.any_eq_true', Bool.and_eq_true, beq_iff_eq] at hw
    exact AnyM.first hi hm hw (Region.noSelect_spec hs) fuel listed a (Region.free_spec hi hf) (by simpa using hr) hy (h _ (by rw [hd]))
theorem AnyM.stepE {m i : Nat} {d : Option Tmp} {oi : Oper} {fuel : Nat} {listed : Array Bool} {a : Act} (hi : ops[i]? = some oi) (hd : oi.dst = d) (hw : waits md ops m i = true)
    (hs : Region.noSelect ops = true) (hf : Region.free md ops listed i = true) (hr : (Region.ready md ops listed).contains i = true)
    (h : ∃ v, StepsIf P ops S oi v a ∧ ∀ a', a.put d v = a' → AnyM P md ops Q S m fuel (listed.setIfInBounds i true) a') : AnyM P md ops Q S m (fuel + 1) listed a := by
  obtain ⟨v, hy, h⟩ := h
  exact AnyM.next hi hd hw hs hf hr hy h
theorem AnyM.last {m : Nat} {om : Oper} {listed : Array Bool} {a : Act} (hm : ops[m]? = some om) (hr : Region.ready md ops listed = [m]) (hr2 : Region.ready md ops (listed.setIfInBounds m true) = [])
    (hw : Region.wanted om (yielded ops a.tmps) = true) (h : ∀ w, S w → ∀ K : Act → World → Prop, (∀ a' w', Q .normal a' w' → K a' w') → om.wp P a w K Q) : AnyM P md ops Q S m 0 listed a :=
  ⟨hr, hr2, fun w hS => by
    unfold Go.wpOp
    simp only [hm, hw, if_true]
    exact .inl (h w hS _ fun _ _ hq => hq)⟩
theorem region_stepsM {id m : Nat} {a : Act} {w : World} {n : Nat} (hn : ops.size = n + 1) (hm : P.follows .mixedOrders = true) (hS : S w.drew)
    (h : AnyM P .any ops Q S m n (Array.replicate ops.size false) a) : (Code.region id ops true).wp P Q a w :=
  wp_region_any hm (by rw [hn] at h ⊢; exact AnyM.any _ _ _ h _ hS)
end
end Go.Proofs.YtdpkhliojbeglaaDoor

/- '==' between arrays of whole numbers, of whatever length. -/
namespace Go.Proofs.YtdpkhliojbeglaaDoor
open Go.RowKit Go

theorem part_cell {P : Program} {e : TypeId} (ha : ∀ w, (isAgg e).run P w = .ok false w) (k : IntKind) (l : List Int) (i : Nat) (hi : i < l.length) (w : World) :
    (part e (l.map (Value.int k)).toArray i).run P w = .ok (.int k l[i]) w := by
  simp only [part, Sem.run_bind, ha, Result.andThen_ok]
  simp [hi]

theorem eq_loop {P : Program} {e : TypeId} {k k' : IntKind} (he : P.underlying e = some (.int k')) (ha : ∀ w, (isAgg e).run P w = .ok false w) (d : Nat) (l l' : List Int) (n : Nat) (hl : l.length = n) (hl' : l'.length = n) (w : World) :
    ∀ m i, i + m = n → (((forIn (List.range' i m) ((none : Option Bool), ()) fun i (_ : Option Bool × Unit) => do
        let a ← part e (l.map (Value.int k)).toArray (i * 1)
        let b ← part e (l'.map (Value.int k)).toArray (i * 1)
        let r ← Op.equalIn (d + 1) e a b
        if (!r) = true then pure (ForInStep.done (some false, ())) else pure (ForInStep.yield (none, ()))) : Sem (Option Bool × Unit)).run P w) = .ok (if l.drop i = l'.drop i then none else some false, ()) w := by
  intro m
  induction m with
  | zero =>
    intro i hi
    rw [List.drop_of_length_le (by omega), List.drop_of_length_le (by omega)]
    simp
  | succ m ih =>
    intro i hi
    rw [List.range'_succ, List.forIn_cons]
    simp only [Sem.run_bind, Nat.mul_one, part_cell ha k l i (by omega), part_cell ha k l' i (by omega), Result.andThen_ok, run_equalIn_int w d e k k' _ _ he]
    have hd : (l.drop i = l'.drop i) ↔ (l[i] = l'[i] ∧ l.drop (i + 1) = l'.drop (i + 1)) := by
      rw [List.drop_eq_getElem_cons (by omega : i < l.length), List.drop_eq_getElem_cons (by omega : i < l'.length), List.cons.injEq]
    by_cases h : l[i] = l'[i]
    · have h2 := ih (i + 1) (by omega)
      have h3 : (l[i] == l'[i]) = true := by rw [h]; simp
      simp only [Nat.mul_one] at h2
      simp only [h3, Bool.not_true, Bool.false_eq_true, if_false, Sem.run_pure, Result.andThen_ok]
      have hd' : (l.drop i = l'.drop i) = (l.drop (i + 1) = l'.drop (i + 1)) := by rw [hd]; simp [h]
      simp only [hd']
      exact h2
    · have h3 : (l[i] == l'[i]) = false := by simp [h]
      have hd' : (l.drop i = l'.drop i) = False := by rw [hd]; simp [h]
      simp only [h3, hd', Bool.not_false, if_true, Sem.run_pure, Result.andThen_ok, if_false]

/-- '==' of two arrays of whole numbers. -/
theorem eqArr {P : Program} {t e : TypeId} {n : Nat} {k k' : IntKind} (ht : P.underlying t = some (.array n e)) (he : P.underlying e = some (.int k')) (hs : ∀ w, (sizeOf e).run P w = .ok 1 w) (ha : ∀ w, (isAgg e).run P w = .ok false w)
    (d : Nat) (l l' : List Int) (hl : l.length = n) (hl' : l'.length = n) (w : World) :
    (Op.equalIn (d + 2) t (.agg (l.map (Value.int k)).toArray) (.agg (l'.map (Value.int k)).toArray)).run P w = .ok (decide (l = l')) w := by
  rw [Op.equalIn]
  simp only [Sem.run_bind, run_underlying ht, Result.andThen_ok, hs]
  have h := eq_loop (k := k) he ha d l l' n hl hl' w n 0 (by omega)
  rw [Std.Legacy.Range.forIn_eq_forIn_range']
  simp only [Std.Legacy.Range.size, Nat.sub_zero, Nat.add_sub_cancel, Nat.div_one]
  rw [h]
  by_cases hll : l = l'
  · simp [hll]
  · simp [hll]
end Go.Proofs.YtdpkhliojbeglaaDoor

/- '==' of sets, and of pairs of bytes. -/
namespace Go.Proofs.YtdpkhliojbeglaaDoor
open Go.RowKit Go BS

theorem size64 (w : World) : (sizeOf 56).run Tryd.prog w = .ok 1 w := by kernel_rfl
theorem agg64 (w : World) : (isAgg 56).run Tryd.prog w = .ok false w := by kernel_rfl

set_option maxRecDepth 100000 in
theorem eq_set (a b : BitVec 256) (w : World) : (Op.equalIn 10000 58 (setV a) (setV b)).run Tryd.prog w = .ok (decide (a = b)) w := by
  have h := eqArr (k := .u64) Tryd.underlying58 Tryd.underlying56 size64 agg64 9998 [(wd a 0 : Int), wd a 1, wd a 2, wd a 3] [(wd b 0 : Int), wd b 1, wd b 2, wd b 3] rfl rfl w
  refine Eq.trans h ?_
  refine congrArg (fun x => Result.ok x w) ?_
  rw [decide_eq_decide]
  constructor
  · intro h
    simp only [List.cons.injEq, Int.ofNat_inj, and_true] at h
    exact ext_wd h.1 h.2.1 h.2.2.1 h.2.2.2
  · intro h; rw [h]
/-- The same set. -/
theorem eq_set_same (a : BitVec 256) (w : World) : (Op.equalIn 10000 58 (setV a) (setV a)).run Tryd.prog w = .ok true w := by
  rw [eq_set]; simp

theorem size8 (w : World) : (sizeOf 5).run Tryd.prog w = .ok 1 w := by kernel_rfl
theorem agg8 (w : World) : (isAgg 5).run Tryd.prog w = .ok false w := by kernel_rfl
theorem eq_pair_same (a b : Int) (w : World) : (Op.equalIn 10000 116 (.agg #[.int .u8 a, .int .u8 b]) (.agg #[.int .u8 a, .int .u8 b])).run Tryd.prog w = .ok true w := by
  have h := eqArr (k := .u8) Tryd.underlying116 Tryd.underlying5 size8 agg8 9998 [a, b] [a, b] rfl rfl w
  refine Eq.trans h ?_
  simp
end Go.Proofs.YtdpkhliojbeglaaDoor

/- The calls on sets of bytes: what each hands back, whatever the sets are. -/
namespace Go.Proofs.YtdpkhliojbeglaaDoor
open Go.RowKit BS

theorem bcell {W w1 : World} (hb : Below W.heap.size W w1) : (∀ b o, b < W.heap.size → w1.cell? ⟨b, o, none⟩ = W.cell? ⟨b, o, none⟩) ∧ (∀ b o, b < W.heap.size → w1.frozen? ⟨b, o, none⟩ = W.frozen? ⟨b, o, none⟩) :=
  ⟨fun b o h => hb.cell (p := ⟨b, o, none⟩) h, fun b o h => hb.frozen (p := ⟨b, o, none⟩) h⟩

theorem ret_set {s : BitVec 256} {a b c d : Int} (h0 : a = wd s 0) (h1 : b = wd s 1) (h2 : c = wd s 2) (h3 : d = wd s 3) :
    Ending.returned (.agg #[.int .u64 a, .int .u64 b, .int .u64 c, .int .u64 d]) = .returned (setV s) := by rw [h0, h1, h2, h3]
theorem ret_bool {a b : Bool} (h : a = b) : Ending.returned (.bool a) = .returned (.bool b) := by rw [h]
theorem ret_int {k : IntKind} {a b : Int} (h : a = b) : Ending.returned (.int k a) = .returned (.int k b) := by rw [h]

theorem ix0 (a b c d : Value) (w : World) : (Instr.index 58 (.agg #[a, b, c, d]) (.int .i64 0)).run Tryd.prog w = .ok a w := by kernel_rfl
theorem ix1 (a b c d : Value) (w : World) : (Instr.index 58 (.agg #[a, b, c, d]) (.int .i64 1)).run Tryd.prog w = .ok b w := by kernel_rfl
theorem ix2 (a b c d : Value) (w : World) : (Instr.index 58 (.agg #[a, b, c, d]) (.int .i64 2)).run Tryd.prog w = .ok c w := by kernel_rfl
theorem ix3 (a b c d : Value) (w : World) : (Instr.index 58 (.agg #[a, b, c, d]) (.int .i64 3)).run Tryd.prog w = .ok d w := by kernel_rfl

set_option maxHeartbeats 400000 in
/-- Or. -/
theorem or_calls (a b : BitVec 256) (w : World) :
    Calls Tryd.prog 93 #[setV a, setV b] w fun e w' => e = .returned (setV (a ||| b)) ∧ Below w.heap.size w w' := by
  have i0 := ix0; have i1 := ix1; have i2 := ix2; have i3 := ix3
  go_enter Tryd.func93, Tryd.ntmps93
  go_wp2
  go_rounds 5
  go_returns
  exact ⟨ret_set (bits_or_wd _ _ _) (bits_or_wd _ _ _) (bits_or_wd _ _ _) (bits_or_wd _ _ _), by go_grown⟩
set_option maxHeartbeats 400000 in
/-- Less. -/
theorem less_calls (a b : BitVec 256) (w : World) :
    Calls Tryd.prog 101 #[setV a, setV b] w fun e w' => e = .returned (setV (a &&& ~~~b)) ∧ Below w.heap.size w w' := by
  have i0 := ix0; have i1 := ix1; have i2 := ix2; have i3 := ix3
  go_enter Tryd.func101, Tryd.ntmps101
  go_wp2
  go_rounds 5
  go_returns
  exact ⟨ret_set (bits_andNot_wd _ _ _ (by decide)) (bits_andNot_wd _ _ _ (by decide)) (bits_andNot_wd _ _ _ (by decide)) (bits_andNot_wd _ _ _ (by decide)), by go_grown⟩
theorem mask_word (n : Nat) (i : Nat) (hi : i < 4) (k : Nat) (hk : min (n - 64 * i) 64 = k) : IntKind.u64.wrap (IntKind.u64.wrap (2 ^ k) - 1) = (wd (mask n) i : Int) := by
  rw [wd_mask n i hi, hk, pow_wrap2 k (by omega)]
theorem mask_word1 (n : Nat) (i : Nat) (hi : i < 4) (hk : 64 ≤ n - 64 * i) : IntKind.u64.wrap (IntKind.u64.wrap 18446744073709551616 - 1) = (wd (mask n) i : Int) := by
  rw [wd_mask n i hi, Nat.min_eq_right hk, pow_wrap1]
theorem mask_word0 (n : Nat) (i : Nat) (hi : i < 4) (hk : n - 64 * i = 0) : (0 : Int) = (wd (mask n) i : Int) := by
  rw [wd_mask n i hi, hk]; rfl

set_option maxHeartbeats 1000000 in
/-- below: what lies below n. -/
theorem below_calls (n : Int) (w : World) (h0 : 0 ≤ n) (hn : n ≤ 9223372036854775807) :
    Calls Tryd.prog 102 #[.int .i64 n] w fun e w' => e = .returned (setV (mask n.toNat)) ∧ Below w.heap.size w w' := by
  obtain ⟨n, rfl⟩ := Int.eq_ofNat_of_zero_le h0
  rw [Int.toNat_natCast]
  go_enter Tryd.func102, Tryd.ntmps102
  go_wp2
  go_rounds 5
  all_goals go_returns
  all_goals refine ⟨ret_set ?_ ?_ ?_ ?_, by go_grown⟩
  all_goals first
    | (with_reducible refine mask_word0 _ _ (by decide) ?_; omega)
    | (with_reducible refine mask_word1 _ _ (by decide) ?_; omega)
    | (with_reducible refine mask_word _ _ (by decide) _ ?_; omega)

end Go.Proofs.YtdpkhliojbeglaaDoor

/- The calls on sets of bytes: ranges, and whether a byte is in a set. -/
namespace Go.Proofs.YtdpkhliojbeglaaDoor
open Go.RowKit BS

theorem next {B : Nat} {a b c : World} (h : Below B a b) (k : Below b.heap.size b c) (hB : B ≤ a.heap.size) : Below B a c :=
  h.trans (k.mono (Nat.le_trans hB h.size))
theorem upfrom {w w' : World} {o : Obj} (h : Below (w.alloc o).heap.size (w.alloc o) w') : Below w.heap.size w w' :=
  ((Below.refl _ w).alloc (Nat.le_refl _) _).trans (h.mono (by simp))

theorem box4 {w w' : World} {a b c d : Value} {t : TypeId} (h : Below (w.alloc (.cells #[a, b, c, d] t)).heap.size (w.alloc (.cells #[a, b, c, d] t)) w') :
    (w'.cell? ⟨w.heap.size, 0, none⟩ = some a ∧ w'.cell? ⟨w.heap.size, 1, none⟩ = some b ∧ w'.cell? ⟨w.heap.size, 2, none⟩ = some c ∧ w'.cell? ⟨w.heap.size, 3, none⟩ = some d) ∧
    (w'.frozen? ⟨w.heap.size, 0, none⟩ = false ∧ w'.frozen? ⟨w.heap.size, 1, none⟩ = false ∧ w'.frozen? ⟨w.heap.size, 2, none⟩ = false ∧ w'.frozen? ⟨w.heap.size, 3, none⟩ = false) := by
  obtain ⟨hc, hf⟩ := bcell h
  have hz : w.heap.size < (w.alloc (.cells #[a, b, c, d] t)).heap.size := by simp
  rw [hc _ _ hz, hc _ _ hz, hc _ _ hz, hc _ _ hz, hf _ _ hz, hf _ _ hz, hf _ _ hz, hf _ _ hz]
  refine ⟨⟨?_, ?_, ?_, ?_⟩, ?_, ?_, ?_, ?_⟩ <;> simp [go_sem]

theorem has_word' (a : BitVec 256) (x : Int) (i k : Nat) (hx : x.toNat = 64 * i + k) (hk : k < 64) : (bits .and .u64 ((wd a i : Int) / 2 ^ k) 1 == 1) = a.getLsbD x.toNat := by
  rw [hx, has_word a i k hk]

set_option maxHeartbeats 400000 in
/-- Has. -/
theorem has_calls (a : BitVec 256) (x : Int) (w : World) (h0 : 0 ≤ x) (h1 : x < 256) :
    Calls Tryd.prog 50 #[setV a, .int .u8 x] w fun e w' => e = .returned (.bool (a.getLsbD x.toNat)) ∧ Below w.heap.size w w' := by
  have hx2 : 0 ≤ x % 64 := by omega
  have hx3 : x % 64 < 64 := by omega
  have h4 : x / 64 = 0 ∨ x / 64 = 1 ∨ x / 64 = 2 ∨ x / 64 = 3 := by omega
  rcases h4 with hx | hx | hx | hx
  all_goals
    go_enter Tryd.func50, Tryd.ntmps50
    go_wp2
    go_returns
    refine ⟨ret_bool (has_word' a x _ _ ?_ ?_), by go_grown⟩ <;> omega
end Go.Proofs.YtdpkhliojbeglaaDoor

/- math/bits.OnesCount64: how many bits a word has. -/
namespace Go.Proofs.YtdpkhliojbeglaaDoor
open Go.RowKit BS

theorem bits_and_i64_127 (x : Nat) (hx : x < 4611686018427387904) : bits .and .i64 (wrap64 (x : Int)) 127 = ((x % 128 : Nat) : Int) := by
  have h0 : wrap64 (x : Int) = (x : Int) := by unfold wrap64; omega
  rw [h0]
  have h1 : (BitVec.ofInt 64 (x : Int)).toNat = x := ofInt_toNat x (by omega)
  have h2 : (BitVec.ofInt 64 (127 : Int)).toNat = 127 := by decide
  show IntKind.i64.wrap ((BitVec.ofInt 64 (x : Int) &&& BitVec.ofInt 64 (127 : Int)).toNat : Int) = _
  rw [BitVec.toNat_and, h1, h2, show (127 : Nat) = 2 ^ 7 - 1 from rfl, Nat.and_two_pow_sub_one_eq_mod, IntKind.wrap_i64]
  omega

end Go.Proofs.YtdpkhliojbeglaaDoor

/- math/bits.TrailingZeros64 over the library's table, as its initialiser lays it. -/
namespace Go.Proofs.YtdpkhliojbeglaaDoor
open Go.RowKit BS

/-- The library's table lies as it is laid. -/
def Tab (w : World) : Prop := ∀ j, j < 64 → w.cell? ⟨0, j, none⟩ = some (.int .u8 (Lib.deBruijn64tab.getD j 0))

theorem Tab.keep {B : Nat} {w w' : World} (h : Tab w) (hb : Below B w w') (hB : 0 < B) : Tab w' :=
  fun j hj => (hb.cell (p := ⟨0, j, none⟩) hB).trans (h j hj)

set_option maxHeartbeats 400000 in
theorem tz_core (x k idx : Nat) (w : World) (hx0 : ((x : Int) == 0) = false)
    (key : IntKind.u64.wrap (bits .and .u64 (x : Int) (IntKind.u64.wrap (-(x : Int))) * 285870213051353865) / 288230376151711744 = (idx : Int))
    (hi : idx < 64) (hk : k < 64) (hcell : w.cell? ⟨0, idx, none⟩ = some (.int .u8 k)) :
    Calls Tryd.prog 103 #[.int .u64 x] w fun e w' => e = .returned (.int .i64 k) ∧ w = w' := by
  go_enter Tryd.func103, Tryd.ntmps103
  go_wp2
  go_ret
  exact ⟨rfl, rfl⟩

/-- TrailingZeros64 of a word that is not 0. -/
theorem tz_calls (x : Nat) (w : World) (hx : x < 18446744073709551616) (h0 : x ≠ 0) (hT : Tab w) :
    Calls Tryd.prog 103 #[.int .u64 x] w fun e w' => e = .returned (.int .i64 (Lib.ctz 64 x)) ∧ w = w' := by
  obtain ⟨hlow, hk⟩ := Lib.lowest_bit 64 x h0 hx
  obtain ⟨hi, htab⟩ := Lib.deBruijn64_at _ hk
  have hcell := hT _ hi
  rw [htab] at hcell
  refine tz_core x _ _ w (by simp; omega) ?_ hi hk hcell
  have e1 : IntKind.u64.wrap (-(x : Int)) = ((18446744073709551616 - x : Nat) : Int) := by rw [IntKind.wrap_u64]; omega
  rw [e1, bits_and_nat x _ hx (by omega), show x &&& 18446744073709551616 - x = 2 ^ Lib.ctz 64 x from hlow, IntKind.wrap_u64]
  generalize 2 ^ Lib.ctz 64 x = a
  omega
end Go.Proofs.YtdpkhliojbeglaaDoor

/- Count and Next. -/
namespace Go.Proofs.YtdpkhliojbeglaaDoor
open Go.RowKit BS

def cw (s : BitVec 256) (i : Nat) : Nat := cnt (wd s i).testBit 64
theorem cw_le (s : BitVec 256) (i : Nat) : cw s i ≤ 64 := cnt_le _ _
theorem cnt4 (f : Nat → Bool) : cnt f 256 = cnt f 64 + cnt (fun j => f (64 + j)) 64 + cnt (fun j => f (128 + j)) 64 + cnt (fun j => f (192 + j)) 64 := by
  have e := cnt_add f 64 (64 + (64 + 64))
  rw [cnt_add (fun j => f (64 + j)), cnt_add (fun j => f (64 + (64 + j)))] at e
  have e2 : cnt f 256 = cnt f (64 + (64 + (64 + 64))) := rfl
  rw [e2, e, ← Nat.add_assoc, ← Nat.add_assoc]
  have h1 : cnt (fun j => f (64 + (64 + j))) 64 = cnt (fun j => f (128 + j)) 64 := cnt_congr fun j _ => congrArg f (by omega)
  have h2 : cnt (fun j => f (64 + (64 + (64 + j)))) 64 = cnt (fun j => f (192 + j)) 64 := cnt_congr fun j _ => congrArg f (by omega)
  rw [h1, h2]
theorem cw_sum (s : BitVec 256) : cnt s.getLsbD 256 = cw s 0 + cw s 1 + cw s 2 + cw s 3 := by
  have h : ∀ i k, k = 64 * i → cw s i = cnt (fun j => s.getLsbD (k + j)) 64 := by
    intro i k hk
    subst hk
    apply cnt_congr; intro j hj
    rw [testBit_wd]; simp [hj]
  rw [cnt4, h 0 0 rfl, h 1 64 rfl, h 2 128 rfl, h 3 192 rfl]
  simp only [Nat.zero_add]

theorem ctz_wd (s : BitVec 256) (i : Nat) (h : wd s i ≠ 0) : Lib.ctz 64 (wd s i) < 64 ∧ s.getLsbD (64 * i + Lib.ctz 64 (wd s i)) = true ∧ ∀ j, j < Lib.ctz 64 (wd s i) → s.getLsbD (64 * i + j) = false := by
  obtain ⟨m, hm, hk⟩ := Lib.ctzFrom_spec 64 (wd s i) (by omega) (wd_lt s i)
  have e : Lib.ctz 64 (wd s i) = Lib.ctzFrom 64 (wd s i) := by simp [Lib.ctz, h]
  rw [e]
  generalize Lib.ctzFrom 64 (wd s i) = k at *
  have ht : ∀ j, (wd s i).testBit j = (decide (j ≥ k) && (2 * m + 1).testBit (j - k)) := by
    intro j; rw [hm, Nat.mul_comm, Nat.testBit_mul_two_pow]
  refine ⟨hk, ?_, ?_⟩
  · have := ht k
    rw [testBit_wd] at this
    simpa [hk] using this
  · intro j hj
    have := ht j
    rw [testBit_wd] at this
    have h1 : j < 64 := by omega
    have h2 : ¬ j ≥ k := by omega
    simpa [h1, h2] using this

/-- The least number of a set that is not below n; -1: there is none. -/
def nextOf (f : Nat → Bool) (n : Nat) : Int := match (List.range 256).find? (fun j => decide (n ≤ j) && f j) with | some j => j | none => -1
theorem nextOf_eq {f : Nat → Bool} {n k : Nat} (h1 : k < 256) (h2 : n ≤ k) (h3 : f k = true) (h4 : ∀ j, n ≤ j → j < k → f j = false) : nextOf f n = k := by
  have : (List.range 256).find? (fun j => decide (n ≤ j) && f j) = some k := by
    rw [List.find?_range_eq_some]
    refine ⟨by simp [h2, h3], by simpa using h1, ?_⟩
    intro j hj
    by_cases hn : n ≤ j
    · simp [h4 j hn hj]
    · simp [hn]
  rw [nextOf, this]
theorem nextOf_none {f : Nat → Bool} {n : Nat} (h : ∀ j, n ≤ j → j < 256 → f j = false) : nextOf f n = -1 := by
  have : (List.range 256).find? (fun j => decide (n ≤ j) && f j) = none := by
    rw [List.find?_eq_none]
    intro j hj
    have hj' : j < 256 := by simpa using hj
    by_cases hn : n ≤ j
    · simp [h j hn hj']
    · simp [hn]
  rw [nextOf, this]

theorem wd_zero {s : BitVec 256} {i : Nat} (h : wd s i = 0) (j : Nat) (hj : j < 64) : s.getLsbD (64 * i + j) = false := by
  have := testBit_wd s i j
  rw [h] at this
  simpa [hj] using this.symm

/-- Which word tells. -/
theorem next_word (s : BitVec 256) (n i : Nat) (hi : i < 4) (h : wd (s &&& ~~~(mask n)) i ≠ 0) (hz : ∀ i', i' < i → wd (s &&& ~~~(mask n)) i' = 0) :
    (i : Int) * 64 + (Lib.ctz 64 (wd (s &&& ~~~(mask n)) i) : Int) = nextOf s.getLsbD n := by
  obtain ⟨hk, h1, h2⟩ := ctz_wd _ i h
  generalize Lib.ctz 64 (wd (s &&& ~~~(mask n)) i) = k at *
  have hb : ∀ j, j < 256 → (s &&& ~~~(mask n)).getLsbD j = (s.getLsbD j && decide (n ≤ j)) := by
    intro j hj
    rw [BitVec.getLsbD_and, BitVec.getLsbD_not, mask, get_ofFn]
    simp only [hj, decide_true, Bool.true_and]
    rw [← decide_not]; congr 1; rw [decide_eq_decide]; omega
  have h3 := hb (64 * i + k) (by omega)
  rw [h1] at h3
  simp only [Bool.true_eq, Bool.and_eq_true, decide_eq_true_eq] at h3
  rw [nextOf_eq (k := 64 * i + k) (by omega) h3.2 h3.1 ?_]
  · omega
  · intro j hn hj
    have h4 := hb j (by omega)
    simp only [hn, decide_true, Bool.and_true] at h4
    rw [← h4]
    by_cases hji : j / 64 = i
    · have e : j = 64 * i + j % 64 := by omega
      rw [e]; exact h2 _ (by omega)
    · have e : j = 64 * (j / 64) + j % 64 := by omega
      rw [e]; exact wd_zero (hz _ (by omega)) _ (by omega)
theorem next_no (s : BitVec 256) (n : Nat) (hz : ∀ i', i' < 4 → wd (s &&& ~~~(mask n)) i' = 0) : nextOf s.getLsbD n = -1 := by
  apply nextOf_none
  intro j hn hj
  have e : j = 64 * (j / 64) + j % 64 := by omega
  have h0 := wd_zero (hz (j / 64) (by omega)) (j % 64) (by omega)
  rw [← e, BitVec.getLsbD_and, BitVec.getLsbD_not, mask, get_ofFn] at h0
  simpa [hj, show ¬ j < n by omega] using h0

end Go.Proofs.YtdpkhliojbeglaaDoor

/- Next. -/
namespace Go.Proofs.YtdpkhliojbeglaaDoor
open Go.RowKit BS

theorem box4' {w w' : World} {a b c d : Value} {t : TypeId} (h : Below (w.heap.size + 1) (w.alloc (.cells #[a, b, c, d] t)) w') :
    (w'.cell? ⟨w.heap.size, 0, none⟩ = some a ∧ w'.cell? ⟨w.heap.size, 1, none⟩ = some b ∧ w'.cell? ⟨w.heap.size, 2, none⟩ = some c ∧ w'.cell? ⟨w.heap.size, 3, none⟩ = some d) ∧
    (w'.frozen? ⟨w.heap.size, 0, none⟩ = false ∧ w'.frozen? ⟨w.heap.size, 1, none⟩ = false ∧ w'.frozen? ⟨w.heap.size, 2, none⟩ = false ∧ w'.frozen? ⟨w.heap.size, 3, none⟩ = false) :=
  box4 (by rw [World.size_alloc]; exact h)
theorem next' {w : World} {o : Obj} {b c : World} (h : Below (w.heap.size + 1) (w.alloc o) b) (k : Below b.heap.size b c) : Below (w.heap.size + 1) (w.alloc o) c := next h k (by simp)

/-- The set's box, in block w.heap.size, holds s. -/
def Box (w : World) (s : BitVec 256) (w' : World) : Prop :=
  ((w'.cell? ⟨w.heap.size, 0, none⟩ = some (.int .u64 (wd s 0)) ∧ w'.cell? ⟨w.heap.size, 1, none⟩ = some (.int .u64 (wd s 1)) ∧ w'.cell? ⟨w.heap.size, 2, none⟩ = some (.int .u64 (wd s 2)) ∧ w'.cell? ⟨w.heap.size, 3, none⟩ = some (.int .u64 (wd s 3)))) ∧ Below w.heap.size w w' ∧ w.heap.size < w'.heap.size

theorem Box.stored {w w2 : World} {a b c d : Value} {t : TypeId} (h : Below (w.heap.size + 1) (w.alloc (.cells #[a, b, c, d] t)) w2) (s : BitVec 256) :
    Box w s ((((w2.setCell ⟨w.heap.size, 0, none⟩ (.int .u64 (wd s 0))).setCell ⟨w.heap.size, 1, none⟩ (.int .u64 (wd s 1))).setCell ⟨w.heap.size, 2, none⟩ (.int .u64 (wd s 2))).setCell ⟨w.heap.size, 3, none⟩ (.int .u64 (wd s 3))) := by
  obtain ⟨⟨c0, c1, c2, c3⟩, f0, f1, f2, f3⟩ := box4' h
  have hz := h.size
  rw [World.size_alloc] at hz
  have hG : Below w.heap.size w w2 := upfrom (h.mono (by simp))
  refine ⟨⟨?_, ?_, ?_, ?_⟩, by go_grown, by simp only [World.size_setCell]; omega⟩ <;> simp [go_sem, c0, c1, c2, c3]

theorem all1 {P : Nat → Prop} (h0 : P 0) : ∀ j, j < 1 → P j := fun j hj => by
  have : j = 0 := by omega
  subst this; exact h0
theorem all2 {P : Nat → Prop} (h0 : P 0) (h1 : P 1) : ∀ j, j < 2 → P j := fun j hj => by
  by_cases h : j = 1
  · subst h; exact h1
  · exact all1 h0 j (by omega)
theorem all3 {P : Nat → Prop} (h0 : P 0) (h1 : P 1) (h2 : P 2) : ∀ j, j < 3 → P j := fun j hj => by
  by_cases h : j = 2
  · subst h; exact h2
  · exact all2 h0 h1 j (by omega)
theorem all4 {P : Nat → Prop} (h0 : P 0) (h1 : P 1) (h2 : P 2) (h3 : P 3) : ∀ j, j < 4 → P j := fun j hj => by
  by_cases h : j = 3
  · subst h; exact h3
  · exact all3 h0 h1 h2 j (by omega)

set_option maxHeartbeats 1000000 in
/-- Next, from a number that is not below 0. -/
theorem next_nonneg (s : BitVec 256) (n : Int) (w : World) (h1 : 0 ≤ n) (h2 : n ≤ 9223372036854775807) (hT : Tab w) (hw : 0 < w.heap.size) :
    Calls Tryd.prog 88 #[setV s, .int .i64 n] w fun e w' => e = .returned (.int .i64 (nextOf s.getLsbD n.toNat)) ∧ Below w.heap.size w w' := by
  have i0 := ix0; have i1 := ix1; have i2 := ix2; have i3 := ix3
  go_enter Tryd.func88, Tryd.ntmps88
  go_wp2_with fail
  go_cut [] (fun wx => Box w (s &&& ~~~mask n.toNat) wx)
  case first =>
    go_region_with (first
      | (go_at_call 102; refine (below_calls _ _ (by omega) (by omega)).mono ?_; rintro e w1 ⟨rfl, hb1⟩; have hB1 := next' ((Below.refl _ _).drew) hb1; obtain ⟨⟨c0, c1, c2, c3⟩, f0, f1, f2, f3⟩ := box4' hB1; clear hb1)
      | (go_at_call 101; refine (less_calls _ _ _).mono ?_; rintro e w2 ⟨rfl, hb2⟩; have hB2 := next' hB1 hb2; clear c0 c1 c2 c3 f0 f1 f2 f3; obtain ⟨⟨c0, c1, c2, c3⟩, f0, f1, f2, f3⟩ := box4' hB2; clear hb2))
    all_goals (go_wp2_with fail; go_meet)
    all_goals exact Box.stored hB2 _
  case rest =>
    obtain ⟨⟨c0, c1, c2, c3⟩, hb, hz⟩ := hcut
    have HT := Lib.hid (hT.keep hb hw)
    have HK := Lib.hid (next_word s n.toNat)
    have HN := Lib.hid (next_no s n.toNat)
    clear hT
    generalize s &&& ~~~mask n.toNat = t at *
    by_cases h0 : wd t 0 = 0
    · have n0 : ((wd t 0 : Int) != 0) = false := by rw [h0]; rfl
      by_cases h1 : wd t 1 = 0
      · have n1 : ((wd t 1 : Int) != 0) = false := by rw [h1]; rfl
        by_cases h2 : wd t 2 = 0
        · have n2 : ((wd t 2 : Int) != 0) = false := by rw [h2]; rfl
          by_cases h3 : wd t 3 = 0
          · have n3 : ((wd t 3 : Int) != 0) = false := by rw [h3]; rfl
            have HF := Lib.hid (HN.out (all4 (P := fun j => wd t j = 0) h0 h1 h2 h3))
            clear HN HK h0 h1 h2 h3
            go_wp2_with fail
            refine wp_loop_rounds 5 ?_
            rw [rounds_succ]
            go_wp2_with fail
            rw [rounds_succ]
            go_wp2_with fail
            rw [rounds_succ]
            go_wp2_with fail
            rw [rounds_succ]
            go_wp2_with fail
            rw [rounds_succ]
            go_wp2_with fail
            go_ret
            refine ⟨ret_int ?_, hb⟩
            rw [HF.out]
          · have n3 : ((wd t 3 : Int) != 0) = true := by simpa using h3
            have hk : (Lib.ctz 64 (wd t 3) : Int) ≤ 63 := by have := (ctz_wd t 3 h3).1; omega
            have HF := Lib.hid (HK.out 3 (by decide) h3 (all3 (P := fun j => wd t j = 0) h0 h1 h2))
            clear HN HK
            have H := Lib.hid h3
            clear h0 h1 h2 h3
            go_wp2_with fail
            refine wp_loop_rounds 5 ?_
            rw [rounds_succ]
            go_wp2_with fail
            rw [rounds_succ]
            go_wp2_with fail
            rw [rounds_succ]
            go_wp2_with fail
            rw [rounds_succ]
            go_wp2_with fail
            refine (tz_calls _ _ (wd_lt' _ _) H.out HT.out).mono ?_
            rintro e w4 ⟨rfl, rfl⟩
            go_wp2
            go_ret
            refine ⟨ret_int ?_, hb⟩
            rw [← HF.out]; omega
        · have n2 : ((wd t 2 : Int) != 0) = true := by simpa using h2
          have hk : (Lib.ctz 64 (wd t 2) : Int) ≤ 63 := by have := (ctz_wd t 2 h2).1; omega
          have HF := Lib.hid (HK.out 2 (by decide) h2 (all2 (P := fun j => wd t j = 0) h0 h1))
          clear HN HK
          have H := Lib.hid h2
          clear h0 h1 h2
          go_wp2_with fail
          refine wp_loop_rounds 5 ?_
          rw [rounds_succ]
          go_wp2_with fail
          rw [rounds_succ]
          go_wp2_with fail
          rw [rounds_succ]
          go_wp2_with fail
          refine (tz_calls _ _ (wd_lt' _ _) H.out HT.out).mono ?_
          rintro e w4 ⟨rfl, rfl⟩
          go_wp2
          go_ret
          refine ⟨ret_int ?_, hb⟩
          rw [← HF.out]; omega
      · have n1 : ((wd t 1 : Int) != 0) = true := by simpa using h1
        have hk : (Lib.ctz 64 (wd t 1) : Int) ≤ 63 := by have := (ctz_wd t 1 h1).1; omega
        have HF := Lib.hid (HK.out 1 (by decide) h1 (all1 (P := fun j => wd t j = 0) h0))
        clear HN HK
        have H := Lib.hid h1
        clear h0 h1
        go_wp2_with fail
        refine wp_loop_rounds 5 ?_
        rw [rounds_succ]
        go_wp2_with fail
        rw [rounds_succ]
        go_wp2_with fail
        refine (tz_calls _ _ (wd_lt' _ _) H.out HT.out).mono ?_
        rintro e w4 ⟨rfl, rfl⟩
        go_wp2
        go_ret
        refine ⟨ret_int ?_, hb⟩
        rw [← HF.out]; omega
    · have n0 : ((wd t 0 : Int) != 0) = true := by simpa using h0
      have hk : (Lib.ctz 64 (wd t 0) : Int) ≤ 63 := by have := (ctz_wd t 0 h0).1; omega
      have HF := Lib.hid (HK.out 0 (by decide) h0 (fun j hj => by omega))
      clear HN HK
      have H := Lib.hid h0
      clear h0
      go_wp2_with fail
      refine wp_loop_rounds 5 ?_
      rw [rounds_succ]
      go_wp2_with fail
      refine (tz_calls _ _ (wd_lt' _ _) H.out HT.out).mono ?_
      rintro e w4 ⟨rfl, rfl⟩
      go_wp2
      go_ret
      refine ⟨ret_int ?_, hb⟩
      rw [← HF.out]; omega

set_option maxHeartbeats 1000000 in
/-- Next, from a number below 0. -/
theorem next_neg (s : BitVec 256) (n : Int) (w : World) (h1 : n < 0) (hT : Tab w) (hw : 0 < w.heap.size) :
    Calls Tryd.prog 88 #[setV s, .int .i64 n] w fun e w' => e = .returned (.int .i64 (nextOf s.getLsbD 0)) ∧ Below w.heap.size w w' := by
  have i0 := ix0; have i1 := ix1; have i2 := ix2; have i3 := ix3
  go_enter Tryd.func88, Tryd.ntmps88
  go_wp2_with fail
  go_cut [] (fun wx => Box w (s &&& ~~~mask 0) wx)
  case first =>
    go_region_with (first
      | (go_at_call 102; refine (below_calls _ _ (by omega) (by omega)).mono ?_; rintro e w1 ⟨rfl, hb1⟩; have hB1 := next' ((Below.refl _ _).drew) hb1; obtain ⟨⟨c0, c1, c2, c3⟩, f0, f1, f2, f3⟩ := box4' hB1; clear hb1)
      | (go_at_call 101; refine (less_calls _ _ _).mono ?_; rintro e w2 ⟨rfl, hb2⟩; have hB2 := next' hB1 hb2; clear c0 c1 c2 c3 f0 f1 f2 f3; obtain ⟨⟨c0, c1, c2, c3⟩, f0, f1, f2, f3⟩ := box4' hB2; clear hb2))
    all_goals (go_wp2_with fail; go_meet)
    all_goals exact Box.stored hB2 _
  case rest =>
    obtain ⟨⟨c0, c1, c2, c3⟩, hb, hz⟩ := hcut
    have HT := Lib.hid (hT.keep hb hw)
    have HK := Lib.hid (next_word s 0)
    have HN := Lib.hid (next_no s 0)
    clear hT
    generalize s &&& ~~~mask 0 = t at *
    by_cases h0 : wd t 0 = 0
    · have n0 : ((wd t 0 : Int) != 0) = false := by rw [h0]; rfl
      by_cases h1 : wd t 1 = 0
      · have n1 : ((wd t 1 : Int) != 0) = false := by rw [h1]; rfl
        by_cases h2 : wd t 2 = 0
        · have n2 : ((wd t 2 : Int) != 0) = false := by rw [h2]; rfl
          by_cases h3 : wd t 3 = 0
          · have n3 : ((wd t 3 : Int) != 0) = false := by rw [h3]; rfl
            have HF := Lib.hid (HN.out (all4 (P := fun j => wd t j = 0) h0 h1 h2 h3))
            clear HN HK h0 h1 h2 h3
            go_wp2_with fail
            refine wp_loop_rounds 5 ?_
            rw [rounds_succ]
            go_wp2_with fail
            rw [rounds_succ]
            go_wp2_with fail
            rw [rounds_succ]
            go_wp2_with fail
            rw [rounds_succ]
            go_wp2_with fail
            rw [rounds_succ]
            go_wp2_with fail
            go_ret
            refine ⟨ret_int ?_, hb⟩
            rw [HF.out]
          · have n3 : ((wd t 3 : Int) != 0) = true := by simpa using h3
            have hk : (Lib.ctz 64 (wd t 3) : Int) ≤ 63 := by have := (ctz_wd t 3 h3).1; omega
            have HF := Lib.hid (HK.out 3 (by decide) h3 (all3 (P := fun j => wd t j = 0) h0 h1 h2))
            clear HN HK
            have H := Lib.hid h3
            clear h0 h1 h2 h3
            go_wp2_with fail
            refine wp_loop_rounds 5 ?_
            rw [rounds_succ]
            go_wp2_with fail
            rw [rounds_succ]
            go_wp2_with fail
            rw [rounds_succ]
            go_wp2_with fail
            rw [rounds_succ]
            go_wp2_with fail
            refine (tz_calls _ _ (wd_lt' _ _) H.out HT.out).mono ?_
            rintro e w4 ⟨rfl, rfl⟩
            go_wp2
            go_ret
            refine ⟨ret_int ?_, hb⟩
            rw [← HF.out]; omega
        · have n2 : ((wd t 2 : Int) != 0) = true := by simpa using h2
          have hk : (Lib.ctz 64 (wd t 2) : Int) ≤ 63 := by have := (ctz_wd t 2 h2).1; omega
          have HF := Lib.hid (HK.out 2 (by decide) h2 (all2 (P := fun j => wd t j = 0) h0 h1))
          clear HN HK
          have H := Lib.hid h2
          clear h0 h1 h2
          go_wp2_with fail
          refine wp_loop_rounds 5 ?_
          rw [rounds_succ]
          go_wp2_with fail
          rw [rounds_succ]
          go_wp2_with fail
          rw [rounds_succ]
          go_wp2_with fail
          refine (tz_calls _ _ (wd_lt' _ _) H.out HT.out).mono ?_
          rintro e w4 ⟨rfl, rfl⟩
          go_wp2
          go_ret
          refine ⟨ret_int ?_, hb⟩
          rw [← HF.out]; omega
      · have n1 : ((wd t 1 : Int) != 0) = true := by simpa using h1
        have hk : (Lib.ctz 64 (wd t 1) : Int) ≤ 63 := by have := (ctz_wd t 1 h1).1; omega
        have HF := Lib.hid (HK.out 1 (by decide) h1 (all1 (P := fun j => wd t j = 0) h0))
        clear HN HK
        have H := Lib.hid h1
        clear h0 h1
        go_wp2_with fail
        refine wp_loop_rounds 5 ?_
        rw [rounds_succ]
        go_wp2_with fail
        rw [rounds_succ]
        go_wp2_with fail
        refine (tz_calls _ _ (wd_lt' _ _) H.out HT.out).mono ?_
        rintro e w4 ⟨rfl, rfl⟩
        go_wp2
        go_ret
        refine ⟨ret_int ?_, hb⟩
        rw [← HF.out]; omega
    · have n0 : ((wd t 0 : Int) != 0) = true := by simpa using h0
      have hk : (Lib.ctz 64 (wd t 0) : Int) ≤ 63 := by have := (ctz_wd t 0 h0).1; omega
      have HF := Lib.hid (HK.out 0 (by decide) h0 (fun j hj => by omega))
      clear HN HK
      have H := Lib.hid h0
      clear h0
      go_wp2_with fail
      refine wp_loop_rounds 5 ?_
      rw [rounds_succ]
      go_wp2_with fail
      refine (tz_calls _ _ (wd_lt' _ _) H.out HT.out).mono ?_
      rintro e w4 ⟨rfl, rfl⟩
      go_wp2
      go_ret
      refine ⟨ret_int ?_, hb⟩
      rw [← HF.out]; omega

/-- Next. -/
theorem next_calls (s : BitVec 256) (n : Int) (w : World) (h2 : n ≤ 9223372036854775807) (hT : Tab w) (hw : 0 < w.heap.size) :
    Calls Tryd.prog 88 #[setV s, .int .i64 n] w fun e w' => e = .returned (.int .i64 (nextOf s.getLsbD n.toNat)) ∧ Below w.heap.size w w' := by
  by_cases hn : 0 ≤ n
  · exact next_nonneg s n w hn h2 hT hw
  · rw [show n.toNat = 0 by omega]; exact next_neg s n w (by omega) hT hw
end Go.Proofs.YtdpkhliojbeglaaDoor

/- As Rs, where one operation in the middle, alone when it comes up, does what it likes (a store with assignments behind it). Nothing of the program is used. -/
namespace Go.Proofs.YtdpkhliojbeglaaDoor
open Go

section
variable {P : Program} {ops : Array Oper} {Q : Exit → Act → World → Prop} {md : Region.Mode} {S : World → Prop}

def AnyT (P : Program) (md : Region.Mode) (ops : Array Oper) (S : World → Prop) (m : Nat) (R : Array Bool → Act → Prop) : Nat → Array Bool → Act → Prop
  | 0, listed, a => Region.ready md ops listed = [m] ∧ R listed a
  | fuel + 1, listed, a =>
    Region.ready md ops listed ≠ [] ∧ m ∉ Region.ready md ops listed ∧
    ∀ i ∈ Region.ready md ops listed, ∃ o v, ops[i]? = some o ∧ StepsIf P ops S o v a ∧ AnyT P md ops S m R fuel (listed.setIfInBounds i true) (a.put o.dst v)

theorem AnyT.any {m k : Nat} {R : Array Bool → Act → Prop} (hR : ∀ l a, R l a → ∀ w, S w → wpAny P md ops Q k l a w) :
    ∀ (fuel : Nat) (listed : Array Bool) (a : Act), AnyT P md ops S m R fuel listed a → ∀ w, S w → wpAny P md ops Q (k + fuel) listed a w
  | 0, _, _, h, w, hS => hR _ _ h.2 w hS
  | fuel + 1, listed, a, h, w, hS => ⟨fun h0 => absurd h0 h.1, fun i hi => by
    obtain ⟨o, v, ho, hy, hr⟩ := h.2.2 i hi
    exact hy.wpOp ho hS fun w' hS' => AnyT.any hR fuel _ _ hr w' hS'⟩

theorem AnyT.first {m i : Nat} {R : Array Bool → Act → Prop} {oi om : Oper} {v : Value} (hi : ops[i]? = some oi) (hm : ops[m]? = some om) (hdep : ∃ e ∈ om.after, Region.binds md e = true ∧ e.on = i) (hsel : ∀ (j : Nat) (o : Oper) cs b, ops[j]? = some o → o.op ≠ .select cs b) :
    ∀ (fuel : Nat) (listed : Array Bool) (a : Act),
      (∀ j oj, ops[j]? = some oj → j ≠ i → listed.getD j true = false → (∀ e ∈ oj.after, Region.binds md e = true → e.on ≠ i) → oi.apart ops oj = true) →
      i ∈ Region.ready md ops listed → StepsIf P ops S oi v a →
      AnyT P md ops S m R fuel (listed.setIfInBounds i true) (a.put oi.dst v) → AnyT P md ops S m R (fuel + 1) listed a := by
  have hno : ∀ listed, i ∈ Region.ready md ops listed → m ∉ Region.ready md ops listed := fun listed hr hmr => by
    obtain ⟨_, o', ho', hall⟩ := mem_ready.1 hmr
    obtain rfl : om = o' := Option.some.inj (hm.symm.trans ho')
    obtain ⟨e, he, hb, rfl⟩ := hdep
    have h1 := hall e he hb
    have h0 := (mem_ready.1 hr).1
    rcases Nat.lt_or_ge e.on listed.size with h' | h'
    · simp [h'] at h0 h1; rw [h0] at h1; cases h1
    · simp [Array.getElem?_eq_none h'] at h1
  intro fuel
  induction fuel with
  | zero =>
    intro listed a _ hr hy H
    refine ⟨fun h => (by rw [h] at hr; cases hr), hno listed hr, fun j hj => ?_⟩
    by_cases hji : j = i
    · subst hji; exact ⟨oi, v, hi, hy, H⟩
    · have := ready_mono hj hji
      rw [H.1] at this
      obtain rfl : j = m := by simpa using this
      exact absurd hj (hno listed hr)
  | succ fuel ih =>
    intro listed a hfree hr hy H
    refine ⟨fun h => (by rw [h] at hr; cases hr), hno listed hr, fun j hj => ?_⟩
    by_cases hji : j = i
    · subst hji; exact ⟨oi, v, hi, hy, H⟩
    · obtain ⟨oj, u, hoj, hyj, hrest⟩ := H.2.2 j (ready_mono hj hji)
      obtain ⟨hjun, oj', hoj', hall⟩ := mem_ready.1 hj
      obtain rfl : oj = oj' := Option.some.inj (hoj.symm.trans hoj')
      have hnot : ∀ e ∈ oj.after, Region.binds md e = true → e.on ≠ i := fun e he hb heq => by
        have h1 := hall e he hb
        have h0 := (mem_ready.1 hr).1
        rw [heq] at h1
        rcases Nat.lt_or_ge i listed.size with h' | h'
        · simp [h'] at h0 h1; rw [h0] at h1; cases h1
        · simp [Array.getElem?_eq_none h'] at h1
      obtain ⟨h1, h2, h3⟩ := Oper.apart_spec (hfree j oj hoj hji hjun hnot)
      refine ⟨oj, u, hoj, StepsIf.unput (fun cs b => hsel j oj cs b hoj) h1 hyj, ih _ _ ?_ (ready_mono hr (Ne.symm hji)) (hy.put (fun cs b => hsel i oi cs b hi) h3 (fun d hd => fun e => h2 d hd e)) ?_⟩
      · intro k ok hk hki hun hno
        refine hfree k ok hk hki ?_ hno
        by_cases hjk : j = k
        · subst hjk; exact hjun
        · rw [getD_set_ne true hjk] at hun; exact hun
      · rw [Array.setIfInBounds_comm _ _ hji, ← Act.put_comm a v u h2]
        exact hrest

theorem AnyT.next {m i : Nat} {R : Array Bool → Act → Prop} {d : Option Tmp} {oi : Oper} {v : Value} {fuel : Nat} {listed : Array Bool} {a : Act} (hi : ops[i]? = some oi) (hd : oi.dst = d) (hw : waits md ops m i = true)
    (hs : Region.noSelect ops = true) (hf : Region.free md ops listed i = true) (hr : (Region.ready md ops listed).contains i = true) (hy : StepsIf P ops S oi v a)
    (h : ∀ a', a.put d v = a' → AnyT P md ops S m R fuel (listed.setIfInBounds i true) a') : AnyT P md ops S m R (fuel + 1) listed a := by
  unfold waits at hw
  cases hm : ops[m]? with
  | none => rw [hm] at hw; cases hw
  | some om =>
    rw [hm] at hw
    simp only [Option.map_some, Option.getD_some, Array.any_eq_true', Bool.and_eq_true, beq_iff_eq] at hw
    exact AnyT.first hi hm hw (Region.noSelect_spec hs) fuel listed a (Region.free_spec hi hf) (by simpa using hr) hy (h _ (by rw [hd]))
theorem AnyT.stepE {m i : Nat} {R : Array Bool → Act → Prop} {d : Option Tmp} {oi : Oper} {fuel : Nat} {listed : Array Bool} {a : Act} (hi : ops[i]? = some oi) (hd : oi.dst = d) (hw : waits md ops m i = true)
    (hs : Region.noSelect ops = true) (hf : Region.free md ops listed i = true) (hr : (Region.ready md ops listed).contains i = true)
    (h : ∃ v, StepsIf P ops S oi v a ∧ ∀ a', a.put d v = a' → AnyT P md ops S m R fuel (listed.setIfInBounds i true) a') : AnyT P md ops S m R (fuel + 1) listed a := by
  obtain ⟨v, hy, h⟩ := h
  exact AnyT.next hi hd hw hs hf hr hy h
/-- The one in the middle: what it leads to goes on. -/
theorem AnyT.mid {m k : Nat} {om : Oper} {listed : Array Bool} {a : Act} (hm : ops[m]? = some om) (hr : Region.ready md ops listed = [m])
    (hw : Region.wanted om (yielded ops a.tmps) = true) (h : ∀ w, S w → ∀ K : Act → World → Prop, (∀ a' w', wpAny P md ops Q k (listed.setIfInBounds m true) a' w' → K a' w') → om.wp P a w K Q) :
    AnyT P md ops S m (fun l a => ∀ w, S w → wpAny P md ops Q (k + 1) l a w) 0 listed a :=
  ⟨hr, fun w hS => ⟨fun h0 => (by rw [hr] at h0; cases h0), fun i hi => by
    rw [hr] at hi
    obtain rfl : i = m := by simpa using hi
    unfold Go.wpOp
    simp only [hm, hw, if_true]
    exact .inl (h w hS _ fun _ _ hq => hq)⟩⟩
theorem region_stepsT {id m k n : Nat} {a : Act} {w : World} (hn : ops.size = k + 1 + n) (hm : P.follows .mixedOrders = true) (hS : S w.drew)
    (h : AnyT P .any ops S m (fun l a => ∀ w, S w → wpAny P .any ops Q (k + 1) l a w) n (Array.replicate ops.size false) a) : (Code.region id ops true).wp P Q a w :=
  wp_region_any hm (by rw [hn] at h ⊢; exact AnyT.any (fun _ _ h => h) _ _ _ h _ hS)
/-- Behind the one in the middle: one assignment more, the last. -/
theorem any_assign {i : Nat} {oi : Oper} {v : Value} {listed : Array Bool} {a : Act} {w : World} (hi : ops[i]? = some oi) (hr : Region.ready md ops listed = [i]) (hr2 : Region.ready md ops (listed.setIfInBounds i true) = [])
    (hw : Region.wanted oi (yielded ops a.tmps) = true) (hx : (execOp a.eval oi).run P w = .ok (.value v) w) (h : Q .normal (a.put oi.dst v) w) : wpAny P md ops Q 1 listed a w :=
  ⟨fun h0 => (by rw [hr] at h0; cases h0), fun j hj => by
    rw [hr] at hj
    obtain rfl : j = i := by simpa using hj
    unfold Go.wpOp
    simp only [hi, hw, if_true]
    refine .inl ?_
    unfold Oper.wp
    rw [hx]
    exact ⟨hr2, h⟩⟩
end
end Go.Proofs.YtdpkhliojbeglaaDoor

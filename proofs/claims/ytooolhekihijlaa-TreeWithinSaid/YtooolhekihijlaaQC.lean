/- Texts put together: Rs Tb Np Nr Ns Eq Es Sw Sx Sp Sq Sr Ss. -/
import Derived.OrdersHeld
import Derived.WalkKit
import Derived.Test.YtooolhekihijlaaChecked
import Derived.Laws.BytesArg
import Derived.Laws.Concat
import Derived.Lib.Hide
import Derived.LoopTactic
import Derived.Laws.ResultCell
import Derived.WalkLawsBesides
import Derived.Handy
import Derived.Test.YtooolhekihijlaaProg
import Derived.Test.YtooolhekihijlaaQA
import Derived.Test.YtooolhekihijlaaRows
import Derived.WalkSpells
import Derived.Test.YtooolhekihijlaaQB
import Derived.Lib.TrailingZeros
import Derived.Deep.RegionHeld3
import Derived.Deep.RegionWith
import Derived.Deep.DeepCutAuto
/- A region that draws its order, where each operation, in every world of a kind S, yields one value and leads to a world of that kind: whatever the order is, the end is the same. Nothing of the program is used. -/
namespace Go.Proofs.Ytooolhekihijlaa
open Go

section
variable {P : Program} {ops : Array Oper} {Q : Exit → Act → World → Prop} {md : Region.Mode} {S : World → Prop}

/-- In state a, in every world that meets S, operation o leaves v in its temporary, and a world that meets S. -/
def StepsIf (P : Program) (ops : Array Oper) (S : World → Prop) (o : Oper) (v : Value) (a : Act) : Prop :=
  (Region.wanted o (yielded ops a.tmps) = true ∧ ∀ w, S w → ∀ (K : Act → World → Prop) (Q : Exit → Act → World → Prop), (∀ w', S w' → K (a.put o.dst v) w') → o.wp P a w K Q) ∨
  (Region.wanted o (yielded ops a.tmps) = false ∧ v = undef)

theorem StepsIf.wpOp {i : Nat} {o : Oper} {v : Value} {a : Act} (hi : ops[i]? = some o) (hy : StepsIf P ops S o v a)
    {K : Act → World → Prop} {w : World} (hS : S w) (h : ∀ w', S w' → K (a.put o.dst v) w') : wpOp P ops Q i K a w := by
  unfold Go.wpOp
  simp only [hi]
  rcases hy with ⟨hw, hv⟩ | ⟨hw, rfl⟩
  · simp only [hw, if_true]; exact .inl (hv w hS K Q h)
  · simp only [hw, Bool.false_eq_true, if_false]; exact h w hS

/-- What another operation puts elsewhere changes nothing of it. -/
theorem StepsIf.put {o : Oper} {v : Value} {a : Act} {x : Option Tmp} {y : Value} (hs : ∀ cs b, o.op ≠ .select cs b) (h1 : ∀ d, x = some d → d ∉ o.looksAt ops) (h2 : ∀ d, o.dst = some d → x ≠ some d)
    (hy : StepsIf P ops S o v a) : StepsIf P ops S o v (a.put x y) := by
  unfold StepsIf at *
  rw [wanted_put o a x y h1]
  rcases hy with ⟨hw, hv⟩ | h
  · refine .inl ⟨hw, fun w hS K Q hK => ?_⟩
    have h0 := hv w hS (fun a' w' => a' = a.put o.dst v ∧ S w') (fun _ _ _ => False) (fun w' hS' => ⟨rfl, hS'⟩)
    unfold Oper.wp at *
    rw [execOp_put o hs a x y h1]
    generalize (execOp a.eval o).run P w = r at *
    have key : ∀ u w', (a.put o.dst u = a.put o.dst v ∧ S w') → K ((a.put x y).put o.dst u) w' := fun u w' ⟨he, hS'⟩ => by
      have e : (a.put x y).put o.dst u = (a.put x y).put o.dst v := by
        rw [← Act.put_comm a u y h2, ← Act.put_comm a v y h2, he]
      rw [e]; exact hK w' hS'
    cases r with
    | ok n w' =>
      cases n <;> simp only [Oper.upon] at h0 ⊢
      case value u => exact key _ _ h0
      case skip => exact key _ _ h0
      case defer d =>
        exfalso
        have := congrArg (fun b : Act => b.defers.length) h0.1
        have hp : ∀ (b : Act) (t : Option Tmp) (u : Value), (b.put t u).defers = b.defers := fun b t u => by cases t <;> rfl
        simp [hp] at this
      case enter f args =>
        refine Calls.mono h0 fun e w'' he => ?_
        cases e with
        | returned u => exact key _ _ he
        | panicked c => exact he.elim
        | outgrown => exact he.elim fun _ h => h.elim fun _ h => h.elim
      case row row args => exact Rows.mono h0 fun u w'' he => key _ _ he
    | halt x w' =>
      cases x <;> simp only [Oper.upon] at h0
  · exact .inr h

/-- Whatever order is picked from here on, in every world that meets S. -/
def AnyS (P : Program) (md : Region.Mode) (ops : Array Oper) (Q : Exit → Act → World → Prop) (S : World → Prop) : Nat → Array Bool → Act → Prop
  | 0, listed, a => Region.ready md ops listed = [] ∧ ∀ w, S w → Q .normal a w
  | fuel + 1, listed, a =>
    (Region.ready md ops listed = [] → ∀ w, S w → Q .normal a w) ∧
    ∀ i ∈ Region.ready md ops listed, ∃ o v, ops[i]? = some o ∧ StepsIf P ops S o v a ∧ AnyS P md ops Q S fuel (listed.setIfInBounds i true) (a.put o.dst v)

theorem AnyS.any : ∀ (fuel : Nat) (listed : Array Bool) (a : Act), AnyS P md ops Q S fuel listed a → ∀ w, S w → wpAny P md ops Q fuel listed a w
  | 0, _, _, h, w, hS => ⟨h.1, h.2 w hS⟩
  | fuel + 1, listed, a, h, w, hS => ⟨fun h0 => h.1 h0 w hS, fun i hi => by
    obtain ⟨o, v, ho, hy, hr⟩ := h.2 i hi
    exact hy.wpOp ho hS fun w' hS' => AnyS.any fuel _ _ hr w' hS'⟩

theorem put_cancel {a : Act} {x y : Option Tmp} {v u u' : Value} (h : (a.put x v).put y u' = (a.put x v).put y u) : a.put y u' = a.put y u := by
  cases y with
  | none => rfl
  | some e =>
    by_cases he : e < a.tmps.size
    · have hs : e < (a.put x v).tmps.size := by cases x <;> simpa [Act.put] using he
      have h1 := congrArg (fun b : Act => b.tmps[e]?) h
      simp only [Act.put] at h1 hs
      cases x with
      | none =>
        simp only [Array.getElem?_setIfInBounds_self_of_lt he] at h1
        rw [Option.some.inj h1]
      | some d =>
        simp only [Array.getElem?_setIfInBounds_self_of_lt hs] at h1
        rw [Option.some.inj h1]
    · simp only [Act.put, Array.setIfInBounds_eq_of_size_le (Nat.le_of_not_lt he)]

theorem AnyS.first {i : Nat} {oi : Oper} {v : Value} (hi : ops[i]? = some oi) (hsel : ∀ (j : Nat) (o : Oper) cs b, ops[j]? = some o → o.op ≠ .select cs b) :
    ∀ (fuel : Nat) (listed : Array Bool) (a : Act),
      (∀ j oj, ops[j]? = some oj → j ≠ i → listed.getD j true = false → (∀ e ∈ oj.after, Region.binds md e = true → e.on ≠ i) → oi.apart ops oj = true) →
      i ∈ Region.ready md ops listed → StepsIf P ops S oi v a →
      AnyS P md ops Q S fuel (listed.setIfInBounds i true) (a.put oi.dst v) → AnyS P md ops Q S (fuel + 1) listed a := by
  intro fuel
  induction fuel with
  | zero =>
    intro listed a _ hr hy H
    refine ⟨fun h => (by rw [h] at hr; cases hr), fun j hj => ?_⟩
    by_cases hji : j = i
    · subst hji; exact ⟨oi, v, hi, hy, H⟩
    · have := ready_mono hj hji
      rw [H.1] at this
      cases this
  | succ fuel ih =>
    intro listed a hfree hr hy H
    refine ⟨fun h => (by rw [h] at hr; cases hr), fun j hj => ?_⟩
    by_cases hji : j = i
    · subst hji; exact ⟨oi, v, hi, hy, H⟩
    · obtain ⟨oj, u, hoj, hyj, hrest⟩ := H.2 j (ready_mono hj hji)
      obtain ⟨hjun, oj', hoj', hall⟩ := mem_ready.1 hj
      obtain rfl : oj = oj' := Option.some.inj (hoj.symm.trans hoj')
      have hnot : ∀ e ∈ oj.after, Region.binds md e = true → e.on ≠ i := fun e he hb heq => by
        have h1 := hall e he hb
        have h0 := (mem_ready.1 hr).1
        rw [heq] at h1
        rcases Nat.lt_or_ge i listed.size with h' | h'
        · simp [h'] at h0 h1; rw [h0] at h1; cases h1
        · simp [Array.getElem?_eq_none h'] at h1
      obtain ⟨h1, h2, h3⟩ := Oper.apart_spec (hfree j oj hoj hji hjun hnot)
      -- oj steps in a as well
      have hyj' : StepsIf P ops S oj u a := by
        have hw := wanted_put oj a oi.dst v h1
        unfold StepsIf at hyj ⊢
        rw [hw] at hyj
        rcases hyj with ⟨hw', hv⟩ | h
        · refine .inl ⟨hw', fun w hS K Q hK => ?_⟩
          have h0 := hv w hS (fun a' w' => a' = (a.put oi.dst v).put oj.dst u ∧ S w') (fun _ _ _ => False) (fun w' hS' => ⟨rfl, hS'⟩)
          unfold Oper.wp at *
          rw [execOp_put oj (fun cs b => hsel j oj cs b hoj) a oi.dst v h1] at h0
          generalize (execOp a.eval oj).run P w = r at *
          have key : ∀ u' w', ((a.put oi.dst v).put oj.dst u' = (a.put oi.dst v).put oj.dst u ∧ S w') → K (a.put oj.dst u') w' := fun u' w' ⟨he, hS'⟩ => by
            rw [put_cancel he]; exact hK w' hS'
          cases r with
          | ok n w' =>
            cases n <;> simp only [Oper.upon] at h0 ⊢
            case value u => exact key _ _ h0
            case skip => exact key _ _ h0
            case defer d =>
              exfalso
              have := congrArg (fun b : Act => b.defers.length) h0.1
              have hp : ∀ (b : Act) (t : Option Tmp) (u : Value), (b.put t u).defers = b.defers := fun b t u => by cases t <;> rfl
              simp [hp] at this
            case enter f args =>
              refine Calls.mono h0 fun e w'' he => ?_
              cases e with
              | returned u => exact key _ _ he
              | panicked c => exact he.elim
              | outgrown => exact he.elim fun _ h => h.elim fun _ h => h.elim
            case row row args => exact Rows.mono h0 fun u w'' he => key _ _ he
          | halt x w' =>
            cases x <;> simp only [Oper.upon] at h0
        · exact .inr h
      refine ⟨oj, u, hoj, hyj', ih _ _ ?_ (ready_mono hr (Ne.symm hji)) (hy.put (fun cs b => hsel i oi cs b hi) h3 (fun d hd => fun e => h2 d hd e)) ?_⟩
      · intro k ok hk hki hun hno
        refine hfree k ok hk hki ?_ hno
        by_cases hjk : j = k
        · subst hjk; exact hjun
        · rw [getD_set_ne true hjk] at hun; exact hun
      · rw [Array.setIfInBounds_comm _ _ hji, ← Act.put_comm a v u h2]
        exact hrest

/-- Take number i next: it may come up, and nobody who could come before it touches its temporaries. -/
theorem AnyS.take {i : Nat} {oi : Oper} {v : Value} {fuel : Nat} {listed : Array Bool} {a : Act} (hi : ops[i]? = some oi)
    (hs : Region.noSelect ops = true) (hf : Region.free md ops listed i = true) (hr : (Region.ready md ops listed).contains i = true) (hy : StepsIf P ops S oi v a)
    (h : AnyS P md ops Q S fuel (listed.setIfInBounds i true) (a.put oi.dst v)) : AnyS P md ops Q S (fuel + 1) listed a :=
  AnyS.first hi (Region.noSelect_spec hs) fuel listed a (Region.free_spec hi hf) (by simpa using hr) hy h
theorem AnyS.done {listed : Array Bool} {a : Act} (hr : Region.ready md ops listed = []) (h : ∀ w, S w → Q .normal a w) : ∀ fuel, AnyS P md ops Q S fuel listed a
  | 0 => ⟨hr, h⟩
  | _ + 1 => ⟨fun _ => h, by rw [hr]; simp⟩
/-- The beginning. -/
theorem region_steps {id : Nat} {a : Act} {w : World} (hm : P.follows .mixedOrders = true) (hS : S w.drew)
    (h : AnyS P .any ops Q S ops.size (Array.replicate ops.size false) a) : (Code.region id ops true).wp P Q a w :=
  wp_region_any hm (AnyS.any _ _ _ h _ hS)
/-- An operation that only yields. -/
theorem StepsIf.yield {o : Oper} {v : Value} {a : Act} (hw : Region.wanted o (yielded ops a.tmps) = true) (h : ∀ w, S w → (execOp a.eval o).run P w = .ok (.value v) w) : StepsIf P ops S o v a :=
  .inl ⟨hw, fun w hS K Q hK => by unfold Oper.wp; rw [h w hS]; exact hK w hS⟩
/-- A call of a Go function. -/
theorem StepsIf.call {o : Oper} {v : Value} {a : Act} {f : FuncId} {args : Array Value} (hw : Region.wanted o (yielded ops a.tmps) = true) (h : ∀ w, S w → (execOp a.eval o).run P w = .ok (.enter f args) w)
    (hc : ∀ w, S w → Calls P f args w fun e w' => e = .returned v ∧ S w') : StepsIf P ops S o v a :=
  .inl ⟨hw, fun w hS K Q hK => by
    unfold Oper.wp; rw [h w hS]
    refine Calls.mono (hc w hS) fun e w' he => ?_
    obtain ⟨rfl, hS'⟩ := he
    exact hK w' hS'⟩
/-- One that its guard passes over. -/
theorem StepsIf.no {o : Oper} {a : Act} (hw : Region.wanted o (yielded ops a.tmps) = false) : StepsIf P ops S o undef a := .inr ⟨hw, rfl⟩
/-- As 'take'; the new state is told by an equation. -/
theorem AnyS.next {i : Nat} {d : Option Tmp} {oi : Oper} {v : Value} {fuel : Nat} {listed : Array Bool} {a : Act} (hi : ops[i]? = some oi) (hd : oi.dst = d)
    (hs : Region.noSelect ops = true) (hf : Region.free md ops listed i = true) (hr : (Region.ready md ops listed).contains i = true) (hy : StepsIf P ops S oi v a)
    (h : ∀ a', a.put d v = a' → AnyS P md ops Q S fuel (listed.setIfInBounds i true) a') : AnyS P md ops Q S (fuel + 1) listed a :=
  AnyS.take hi hs hf hr hy (h _ (by rw [hd]))

/-- As 'next'; the value is found on the way. -/
theorem AnyS.stepE {i : Nat} {d : Option Tmp} {oi : Oper} {fuel : Nat} {listed : Array Bool} {a : Act} (hi : ops[i]? = some oi) (hd : oi.dst = d)
    (hs : Region.noSelect ops = true) (hf : Region.free md ops listed i = true) (hr : (Region.ready md ops listed).contains i = true)
    (h : ∃ v, StepsIf P ops S oi v a ∧ ∀ a', a.put d v = a' → AnyS P md ops Q S fuel (listed.setIfInBounds i true) a') : AnyS P md ops Q S (fuel + 1) listed a := by
  obtain ⟨v, hy, h⟩ := h
  exact AnyS.next hi hd hs hf hr hy h

/-! ### The same, where one last operation, which waits for all others, does what it likes (a store). -/
def AnyM (P : Program) (md : Region.Mode) (ops : Array Oper) (Q : Exit → Act → World → Prop) (S : World → Prop) (m : Nat) : Nat → Array Bool → Act → Prop
  | 0, listed, a => Region.ready md ops listed = [m] ∧ Region.ready md ops (listed.setIfInBounds m true) = [] ∧ ∀ w, S w → Go.wpOp P ops Q m (fun a' w' => Q .normal a' w') a w
  | fuel + 1, listed, a =>
    Region.ready md ops listed ≠ [] ∧ m ∉ Region.ready md ops listed ∧
    ∀ i ∈ Region.ready md ops listed, ∃ o v, ops[i]? = some o ∧ StepsIf P ops S o v a ∧ AnyM P md ops Q S m fuel (listed.setIfInBounds i true) (a.put o.dst v)

theorem AnyM.any {m : Nat} : ∀ (fuel : Nat) (listed : Array Bool) (a : Act), AnyM P md ops Q S m fuel listed a → ∀ w, S w → wpAny P md ops Q (fuel + 1) listed a w
  | 0, _, _, h, w, hS => ⟨fun h0 => (by rw [h.1] at h0; cases h0), fun i hi => by
    rw [h.1] at hi
    obtain rfl : i = m := by simpa using hi
    exact wpOp_mono (fun a' w' hq => ⟨h.2.1, hq⟩) (h.2.2 w hS)⟩
  | fuel + 1, listed, a, h, w, hS => ⟨fun h0 => absurd h0 h.1, fun i hi => by
    obtain ⟨o, v, ho, hy, hr⟩ := h.2.2 i hi
    exact hy.wpOp ho hS fun w' hS' => AnyM.any fuel _ _ hr w' hS'⟩

/-- oj steps in a as well as behind what oi has put. -/
theorem StepsIf.unput {oi oj : Oper} {v u : Value} {a : Act} (hsj : ∀ cs b, oj.op ≠ .select cs b) (h1 : ∀ d, oi.dst = some d → d ∉ oj.looksAt ops) (hyj : StepsIf P ops S oj u (a.put oi.dst v)) : StepsIf P ops S oj u a := by
  have hw := wanted_put oj a oi.dst v h1
  unfold StepsIf at hyj ⊢
  rw [hw] at hyj
  rcases hyj with ⟨hw', hv⟩ | h
  · refine .inl ⟨hw', fun w hS K Q hK => ?_⟩
    have h0 := hv w hS (fun a' w' => a' = (a.put oi.dst v).put oj.dst u ∧ S w') (fun _ _ _ => False) (fun w' hS' => ⟨rfl, hS'⟩)
    unfold Oper.wp at *
    rw [execOp_put oj hsj a oi.dst v h1] at h0
    generalize (execOp a.eval oj).run P w = r at *
    have key : ∀ u' w', ((a.put oi.dst v).put oj.dst u' = (a.put oi.dst v).put oj.dst u ∧ S w') → K (a.put oj.dst u') w' := fun u' w' ⟨he, hS'⟩ => by
      rw [put_cancel he]; exact hK w' hS'
    cases r with
    | ok n w' =>
      cases n <;> simp only [Oper.upon] at h0 ⊢
      case value u => exact key _ _ h0
      case skip => exact key _ _ h0
      case defer d =>
        exfalso
        have := congrArg (fun b : Act => b.defers.length) h0.1
        have hp : ∀ (b : Act) (t : Option Tmp) (u : Value), (b.put t u).defers = b.defers := fun b t u => by cases t <;> rfl
        simp [hp] at this
      case enter f args =>
        refine Calls.mono h0 fun e w'' he => ?_
        cases e with
        | returned u => exact key _ _ he
        | panicked c => exact he.elim
        | outgrown => exact he.elim fun _ h => h.elim fun _ h => h.elim
      case row row args => exact Rows.mono h0 fun u w'' he => key _ _ he
    | halt x w' =>
      cases x <;> simp only [Oper.upon] at h0
  · exact .inr h

theorem AnyM.first {m i : Nat} {oi om : Oper} {v : Value} (hi : ops[i]? = some oi) (hm : ops[m]? = some om) (hdep : ∃ e ∈ om.after, Region.binds md e = true ∧ e.on = i) (hsel : ∀ (j : Nat) (o : Oper) cs b, ops[j]? = some o → o.op ≠ .select cs b) :
    ∀ (fuel : Nat) (listed : Array Bool) (a : Act),
      (∀ j oj, ops[j]? = some oj → j ≠ i → listed.getD j true = false → (∀ e ∈ oj.after, Region.binds md e = true → e.on ≠ i) → oi.apart ops oj = true) →
      i ∈ Region.ready md ops listed → StepsIf P ops S oi v a →
      AnyM P md ops Q S m fuel (listed.setIfInBounds i true) (a.put oi.dst v) → AnyM P md ops Q S m (fuel + 1) listed a := by
  have hno : ∀ listed, i ∈ Region.ready md ops listed → m ∉ Region.ready md ops listed := fun listed hr hmr => by
    obtain ⟨_, o', ho', hall⟩ := mem_ready.1 hmr
    obtain rfl : om = o' := Option.some.inj (hm.symm.trans ho')
    obtain ⟨e, he, hb, rfl⟩ := hdep
    have h1 := hall e he hb
    have h0 := (mem_ready.1 hr).1
    rcases Nat.lt_or_ge e.on listed.size with h' | h'
    · simp [h'] at h0 h1; rw [h0] at h1; cases h1
    · simp [Array.getElem?_eq_none h'] at h1
  intro fuel
  induction fuel with
  | zero =>
    intro listed a _ hr hy H
    refine ⟨fun h => (by rw [h] at hr; cases hr), hno listed hr, fun j hj => ?_⟩
    by_cases hji : j = i
    · subst hji; exact ⟨oi, v, hi, hy, H⟩
    · have := ready_mono hj hji
      rw [H.1] at this
      obtain rfl : j = m := by simpa using this
      exact absurd hj (hno listed hr)
  | succ fuel ih =>
    intro listed a hfree hr hy H
    refine ⟨fun h => (by rw [h] at hr; cases hr), hno listed hr, fun j hj => ?_⟩
    by_cases hji : j = i
    · subst hji; exact ⟨oi, v, hi, hy, H⟩
    · obtain ⟨oj, u, hoj, hyj, hrest⟩ := H.2.2 j (ready_mono hj hji)
      obtain ⟨hjun, oj', hoj', hall⟩ := mem_ready.1 hj
      obtain rfl : oj = oj' := Option.some.inj (hoj.symm.trans hoj')
      have hnot : ∀ e ∈ oj.after, Region.binds md e = true → e.on ≠ i := fun e he hb heq => by
        have h1 := hall e he hb
        have h0 := (mem_ready.1 hr).1
        rw [heq] at h1
        rcases Nat.lt_or_ge i listed.size with h' | h'
        · simp [h'] at h0 h1; rw [h0] at h1; cases h1
        · simp [Array.getElem?_eq_none h'] at h1
      obtain ⟨h1, h2, h3⟩ := Oper.apart_spec (hfree j oj hoj hji hjun hnot)
      refine ⟨oj, u, hoj, StepsIf.unput (fun cs b => hsel j oj cs b hoj) h1 hyj, ih _ _ ?_ (ready_mono hr (Ne.symm hji)) (hy.put (fun cs b => hsel i oi cs b hi) h3 (fun d hd => fun e => h2 d hd e)) ?_⟩
      · intro k ok hk hki hun hno
        refine hfree k ok hk hki ?_ hno
        by_cases hjk : j = k
        · subst hjk; exact hjun
        · rw [getD_set_ne true hjk] at hun; exact hun
      · rw [Array.setIfInBounds_comm _ _ hji, ← Act.put_comm a v u h2]
        exact hrest

/-- Does operation m wait for operation i? -/
def waits (md : Region.Mode) (ops : Array Oper) (m i : Nat) : Bool := ((ops[m]?).map fun o => o.after.any fun e => Region.binds md e && e.on == i).getD false

theorem AnyM.next {m i : Nat} {d : Option Tmp} {oi : Oper} {v : Value} {fuel : Nat} {listed : Array Bool} {a : Act} (hi : ops[i]? = some oi) (hd : oi.dst = d) (hw : waits md ops m i = true)
    (hs : Region.noSelect ops = true) (hf : Region.free md ops listed i = true) (hr : (Region.ready md ops listed).contains i = true) (hy : StepsIf P ops S oi v a)
    (h : ∀ a', a.put d v = a' → AnyM P md ops Q S m fuel (listed.setIfInBounds i true) a') : AnyM P md ops Q S m (fuel + 1) listed a := by
  unfold waits at hw
  cases hm : ops[m]? with
  | none => rw [hm] at hw; cases hw
  | some om =>
    rw [hm] at hw
    simp only [Option.map_some, Option.getD_some, Array.any_eq_true', Bool.and_eq_true, beq_iff_eq] at hw
    exact AnyM.first hi hm hw (Region.noSelect_spec hs) fuel listed a (Region.free_spec hi hf) (by simpa using hr) hy (h _ (by rw [hd]))
theorem AnyM.stepE {m i : Nat} {d : Option Tmp} {oi : Oper} {fuel : Nat} {listed : Array Bool} {a : Act} (hi : ops[i]? = some oi) (hd : oi.dst = d) (hw : waits md ops m i = true)
    (hs : Region.noSelect ops = true) (hf : Region.free md ops listed i = true) (hr : (Region.ready md ops listed).contains i = true)
    (h : ∃ v, StepsIf P ops S oi v a ∧ ∀ a', a.put d v = a' → AnyM P md ops Q S m fuel (listed.setIfInBounds i true) a') : AnyM P md ops Q S m (fuel + 1) listed a := by
  obtain ⟨v, hy, h⟩ := h
  exact AnyM.next hi hd hw hs hf hr hy h
theorem AnyM.last {m : Nat} {om : Oper} {listed : Array Bool} {a : Act} (hm : ops[m]? = some om) (hr : Region.ready md ops listed = [m]) (hr2 : Region.ready md ops (listed.setIfInBounds m true) = [])
    (hw : Region.wanted om (yielded ops a.tmps) = true) (h : ∀ w, S w → ∀ K : Act → World → Prop, (∀ a' w', Q .normal a' w' → K a' w') → om.wp P a w K Q) : AnyM P md ops Q S m 0 listed a :=
  ⟨hr, hr2, fun w hS => by
    unfold Go.wpOp
    simp only [hm, hw, if_true]
    exact .inl (h w hS _ fun _ _ hq => hq)⟩
theorem region_stepsM {id m : Nat} {a : Act} {w : World} {n : Nat} (hn : ops.size = n + 1) (hm : P.follows .mixedOrders = true) (hS : S w.drew)
    (h : AnyM P .any ops Q S m n (Array.replicate ops.size false) a) : (Code.region id ops true).wp P Q a w :=
  wp_region_any hm (by rw [hn] at h ⊢; exact AnyM.any _ _ _ h _ hS)
end
end Go.Proofs.Ytooolhekihijlaa

/- Texts as bytes: their bytes, one by one; texts told by numbers; texts that are alike up to a place. -/
namespace Go.Proofs.Ytooolhekihijlaa
open Go.RowKit

/-- Byte i of a text. -/
def bt (s : ByteArray) (i : Nat) : Nat := (s.data.toList.getD i 0).toNat
theorem bt_eq (s : ByteArray) (i : Nat) (h : i < s.size) : bt s i = s[i].toNat := by
  have h' : i < s.data.toList.length := by simpa using h
  unfold bt
  rw [List.getD_eq_getElem?_getD, List.getElem?_eq_getElem h', Option.getD_some]
  rfl
theorem bt_lt (s : ByteArray) (i : Nat) : bt s i < 256 := UInt8.toNat_lt _
/-- The text of the bytes L. -/
def ofT (L : List Nat) : ByteArray := ⟨(L.map UInt8.ofNat).toArray⟩
theorem size_ofT (L : List Nat) : (ofT L).size = L.length := by simp [ofT, ByteArray.size]
theorem ofT_append (L M : List Nat) : ofT L ++ ofT M = ofT (L ++ M) := by
  apply ByteArray.ext
  simp [ofT]
theorem bt_app (a b : ByteArray) (i : Nat) : bt (a ++ b) i = if i < a.size then bt a i else bt b (i - a.size) := by
  unfold bt
  have e : (a ++ b).data.toList = a.data.toList ++ b.data.toList := by simp
  have hl : a.data.toList.length = a.size := by simp
  rw [e]
  by_cases h : i < a.size
  · rw [if_pos h, List.getD_eq_getElem?_getD, List.getD_eq_getElem?_getD, List.getElem?_append_left (by omega)]
  · rw [if_neg h, List.getD_eq_getElem?_getD, List.getD_eq_getElem?_getD, List.getElem?_append_right (by omega), hl]
theorem bt_ofT (L : List Nat) (hL : ∀ x ∈ L, x < 256) (i : Nat) (h : i < L.length) : bt (ofT L) i = L[i] := by
  unfold bt ofT
  simp only [List.getD_eq_getElem?_getD]
  rw [List.getElem?_eq_getElem (by simpa using h), Option.getD_some]
  have := hL L[i] (List.getElem_mem h)
  simp
  omega
/-- The first n bytes are the same. -/
def Agr (n : Nat) (s s' : ByteArray) : Prop := n ≤ s.size ∧ n ≤ s'.size ∧ ∀ i, i < n → bt s i = bt s' i
theorem Agr.le {n m : Nat} {s s' : ByteArray} (h : Agr n s s') (hm : m ≤ n) : Agr m s s' := ⟨by have := h.1; omega, by have := h.2.1; omega, fun i hi => h.2.2 i (by omega)⟩
theorem ext_agr {n : Nat} {s s' : ByteArray} (h : Agr n s s') (i j : Nat) (hj : j ≤ n) : s.extract i j = s'.extract i j := by
  have h1 := h.1
  have h2 := h.2.1
  apply ByteArray.ext
  apply Array.toList_inj.1
  rw [ByteArray.data_extract, ByteArray.data_extract, Array.toList_extract, Array.toList_extract]
  apply List.ext_getElem?
  intro k
  simp only [List.extract_eq_take_drop, List.getElem?_take, List.getElem?_drop]
  by_cases hk : k < j - i
  · simp only [hk, if_true]
    have hb := h.2.2 (i + k) (by omega)
    rw [bt_eq s _ (by omega), bt_eq s' _ (by omega)] at hb
    have e1 : i + k < s.data.toList.length := by have : s.data.toList.length = s.size := by simp
                                                 omega
    have e2 : i + k < s'.data.toList.length := by have : s'.data.toList.length = s'.size := by simp
                                                  omega
    rw [List.getElem?_eq_getElem e1, List.getElem?_eq_getElem e2]
    exact congrArg some (UInt8.toNat.inj hb)
  · simp only [hk, if_false]
def eT : ByteArray := ⟨#[]⟩
theorem bt_extract (s : ByteArray) (a e i : Nat) (he : e ≤ s.size) (h : a + i < e) : bt (s.extract a e) i = bt s (a + i) := by
  have h1 : i < (s.extract a e).size := by rw [ByteArray.size_extract]; omega
  rw [bt_eq _ i h1, bt_eq _ (a + i) (by omega), ByteArray.getElem_extract]
theorem ba_ext {a b : ByteArray} (h : a.size = b.size) (hb : ∀ i, i < a.size → bt a i = bt b i) : a = b := by
  apply ByteArray.ext
  apply Array.ext
  · exact h
  · intro i h1 h2
    have e := hb i h1
    rw [bt_eq a i h1, bt_eq b i h2] at e
    exact UInt8.toNat_inj.1 e
theorem numsT (L : List Nat) : strOfNums (L.map (fun n : Nat => (n : Int))) = ofT L := by
  unfold strOfNums ofT
  rw [List.map_map]
  rfl
theorem cvL (W : World) (t : TypeId) (L : List Nat) (C : Array Value) (hC : ∀ i (h : i < L.length), C[i]? = some (.int .u8 (L[i] : Int))) (m : Nat × Nat) : (convert 28 9 (.slice (some ⟨W.heap.size, 0, none⟩) L.length L.length)).run Try.prog (W.alloc (.cells C t m)) = .ok (.string (ofT L)) (W.alloc (.cells C t m)) := by
  rw [← numsT L]
  refine run_convert_bytes_arg (P := Try.prog) (W.alloc (.cells C t m)) 28 5 Try.underlying28 Try.underlying5 W.heap.size 0 L.length L.length _ (by simp) (fun i hi => ?_) 9 Try.underlying9
  rw [Nat.zero_add, World.cell?_alloc_mark]
  rw [hC i hi]
  simp [List.getD_eq_getElem?_getD, List.getElem?_map, List.getElem?_eq_getElem hi]
theorem cv1 (W : World) (t : TypeId) (a : Nat) : (convert 28 9 (.slice (some ⟨W.heap.size, 0, none⟩) 1 1)).run Try.prog (W.alloc (.cells #[.int .u8 a] t)) = .ok (.string (ofT [a])) (W.alloc (.cells #[.int .u8 a] t)) := cvL W t [a] _ (fun i h => by
    have h2 : i < 1 := h
    rcases (by omega : i = 0) with rfl
    rfl) (0, 0)
theorem cv2 (W : World) (t : TypeId) (a b : Nat) : (convert 28 9 (.slice (some ⟨W.heap.size, 0, none⟩) 2 2)).run Try.prog (W.alloc (.cells #[.int .u8 a, .int .u8 b] t)) = .ok (.string (ofT [a, b])) (W.alloc (.cells #[.int .u8 a, .int .u8 b] t)) := cvL W t [a, b] _ (fun i h => by
    have h2 : i < 2 := h
    rcases (by omega : i = 0 ∨ i = 1) with rfl | rfl <;> rfl) (0, 0)
theorem cv3 (W : World) (t : TypeId) (a b c : Nat) : (convert 28 9 (.slice (some ⟨W.heap.size, 0, none⟩) 3 3)).run Try.prog (W.alloc (.cells #[.int .u8 a, .int .u8 b, .int .u8 c] t)) = .ok (.string (ofT [a, b, c])) (W.alloc (.cells #[.int .u8 a, .int .u8 b, .int .u8 c] t)) := cvL W t [a, b, c] _ (fun i h => by
    have h2 : i < 3 := h
    rcases (by omega : i = 0 ∨ i = 1 ∨ i = 2) with rfl | rfl | rfl <;> rfl) (0, 0)
theorem eT_app (a : ByteArray) : eT ++ a = a := by
  apply ByteArray.ext; simp [eT]
theorem toL (L : List Nat) : (ofT L).toList = L.map UInt8.ofNat := by rw [ByteArray.toList_eq]; simp [ofT]
theorem addT (L M : List Nat) (h : L.length + M.length ≤ 9223372036854775807) (w : World) : (Op.stringOp .add (ofT L) (ofT M)).run Try.prog w = .ok (.string (ofT (L ++ M))) w := by
  rw [← ofT_append]; exact run_string_add_sum w _ _ (by rw [size_ofT, size_ofT]; exact h)
theorem agr_cut (s more : ByteArray) (n : Nat) (h : n ≤ s.size) : Agr n s (s.extract 0 n ++ more) := by
  have hz : (s.extract 0 n).size = n := by rw [ByteArray.size_extract]; omega
  refine ⟨h, by rw [ByteArray.size_append]; omega, fun i hi => ?_⟩
  rw [bt_app, if_pos (by omega), bt_extract s 0 n i h (by omega), Nat.zero_add]
end Go.Proofs.Ytooolhekihijlaa

/- Counts, plainly: how the document reads them. -/
namespace Go.Proofs.Ytooolhekihijlaa
open Go.RowKit

/-- How far counts were read. -/
structure NS where
  n : Nat
  m : Nat
  hv : Nat
  sec : Bool
inductive NR where
  | bad (e : Nat)
  | fin (n : Nat) (m : Int)
  | on (st : NS)

/-- The number that is read. -/
def curN (st : NS) : Nat := if st.sec = true then st.m else st.n
def putN (st : NS) (x : Nat) : NS := if st.sec = true then ⟨st.n, x, st.hv + 1, st.sec⟩ else ⟨x, st.m, st.hv + 1, st.sec⟩
def mostN (st : NS) (x : Nat) : Nat := if st.hv + 1 = 1 ∧ 0 < x then 10 * x + 9 else x
/-- One byte more. -/
def stepN (st : NS) (b : Nat) : NR :=
  if 48 ≤ b ∧ b ≤ 57 then
    if st.hv = 2 ∨ (st.hv = 1 ∧ curN st = 0) then .bad 6
    else if st.sec = true ∧ mostN st (10 * curN st + (b - 48)) < st.n then .bad 6
    else .on (putN st (10 * curN st + (b - 48)))
  else if b = 44 ∧ st.sec = false ∧ 0 < st.hv then .on ⟨st.n, st.m, 0, true⟩
  else if b = 125 ∧ st.sec = false ∧ 0 < st.hv then .fin st.n st.n
  else if b = 125 ∧ st.sec = true ∧ st.hv = 0 then .fin st.n (-1)
  else if b = 125 ∧ st.sec = true ∧ st.n ≤ st.m then .fin st.n st.m
  else if b = 125 ∧ st.sec = true then .bad 6
  else .bad 3

/-- From, to, where they end, the error, its place. -/
def runN (s : ByteArray) : Nat → Nat → NS → Nat × Int × Nat × Nat × Nat
  | 0, _, _ => (0, 0, 0, 2, s.size)
  | k + 1, i, st => match stepN st (bt s i) with
    | .bad e => (0, 0, 0, e, i + 1)
    | .fin n m => (n, m, i + 1, 0, 0)
    | .on st' => runN s k (i + 1) st'
def bracesN (s : ByteArray) (i : Nat) : Nat × Int × Nat × Nat × Nat := runN s (s.size - i) i ⟨0, 0, 0, false⟩
def signN (s : ByteArray) (k : Nat) : Nat × Int × Nat × Nat × Nat :=
  if bt s k = 42 then (0, -1, k + 1, 0, 0)
  else if bt s k = 43 then (1, -1, k + 1, 0, 0)
  else if bt s k = 63 then (0, 1, k + 1, 0, 0)
  else if bt s k = 123 then bracesN s (k + 1)
  else (0, 0, 0, 1, 0)
def readN (s : ByteArray) (at' : Int) : Nat × Int × Nat × Nat × Nat :=
  if at' < 0 ∨ (s.size : Int) ≤ at' then (0, 0, 0, 1, 0) else signN s at'.toNat

/-! ### What is kept -/
def InvN (st : NS) : Prop := st.hv ≤ 2 ∧ (st.hv = 0 → curN st = 0) ∧ (st.hv ≤ 1 → curN st ≤ 9) ∧ curN st ≤ 99 ∧ st.n ≤ 99 ∧ st.m ≤ 99 ∧ (st.sec = false → st.m = 0)
theorem inv_start : InvN ⟨0, 0, 0, false⟩ := by unfold InvN curN; simp
def rightN (n m : Int) : Bool := decide (0 ≤ n) && decide (n ≤ 99) && (m == -1 || (decide (n ≤ m) && decide (m ≤ 99)))
theorem stepN_on (st st' : NS) (b : Nat) (h : InvN st) (e : stepN st b = .on st') : InvN st' := by
  obtain ⟨h1, h2, h3, h4, h5, h6, h7⟩ := h
  unfold stepN at e
  split at e
  · rename_i hd
    split at e
    · cases e
    · rename_i hh
      split at e
      · cases e
      · cases e
        have hc : 10 * curN st + (b - 48) ≤ 99 ∧ (st.hv = 0 → 10 * curN st + (b - 48) ≤ 9) := by
          have : st.hv = 0 ∨ st.hv = 1 := by omega
          rcases this with h0 | h0
          · have := h2 h0; omega
          · have := h3 (by omega); omega
        generalize 10 * curN st + (b - 48) = x at *
        obtain ⟨n, m, hv, sec⟩ := st
        cases sec <;> simp [InvN, curN, putN] at * <;> omega
  · split at e
    · rename_i hc
      cases e
      have := h7 hc.2.1
      simp [InvN, curN] at *
      omega
    · split at e
      · cases e
      · split at e
        · cases e
        · split at e
          · cases e
          · split at e <;> cases e
theorem stepN_fin (st : NS) (b n : Nat) (m : Int) (h : InvN st) (e : stepN st b = .fin n m) : rightN n m = true := by
  obtain ⟨h1, h2, h3, h4, h5, h6, h7⟩ := h
  have key : ∀ (x : Nat) (y : Int), x ≤ 99 → (y = -1 ∨ ((x : Int) ≤ y ∧ y ≤ 99)) → rightN x y = true := fun x y hx hy => by
    unfold rightN
    rw [decide_eq_true (by omega), decide_eq_true (by omega)]
    rcases hy with rfl | ⟨hy, hy2⟩
    · simp
    · rw [decide_eq_true hy, decide_eq_true hy2]; simp
  unfold stepN at e
  split at e
  · split at e
    · cases e
    · split at e <;> cases e
  · split at e
    · cases e
    · split at e
      · cases e; exact key _ _ h5 (.inr ⟨by omega, by omega⟩)
      · split at e
        · cases e; exact key _ _ h5 (.inl rfl)
        · split at e
          · rename_i hc
            cases e; exact key _ _ h5 (.inr ⟨by omega, by omega⟩)
          · split at e <;> cases e
theorem stepN_bad (st : NS) (b e : Nat) (h : stepN st b = .bad e) : e = 6 ∨ e = 3 := by
  unfold stepN at h
  split at h
  · split at h
    · cases h; exact .inl rfl
    · split at h <;> cases h; exact .inl rfl
  · split at h
    · cases h
    · split at h
      · cases h
      · split at h
        · cases h
        · split at h
          · cases h
          · split at h <;> cases h
            · exact .inl rfl
            · exact .inr rfl

/-- What the reading ends in. -/
def EndN (s : ByteArray) (i : Nat) (r : Nat × Int × Nat × Nat × Nat) : Prop :=
  (r.2.2.2.1 = 0 ∧ r.2.2.2.2 = 0 ∧ i < r.2.2.1 ∧ r.2.2.1 ≤ s.size ∧ rightN r.1 r.2.1 = true) ∨
  ((r.2.2.2.1 = 6 ∨ r.2.2.2.1 = 3) ∧ r.1 = 0 ∧ r.2.1 = 0 ∧ r.2.2.1 = 0 ∧ i < r.2.2.2.2 ∧ r.2.2.2.2 ≤ s.size) ∨
  (r = (0, 0, 0, 2, s.size))
theorem runN_end (s : ByteArray) (a : Nat) : ∀ k i st, InvN st → a ≤ i → k + i = s.size → EndN s a (runN s k i st)
  | 0, i, st, _, _, _ => .inr (.inr rfl)
  | k + 1, i, st, hi, ha, hk => by
    rw [runN]
    cases hs : stepN st (bt s i) with
    | bad e => exact .inr (.inl ⟨stepN_bad _ _ _ hs, rfl, rfl, rfl, by simp only; omega, by simp only; omega⟩)
    | fin n m => exact .inl ⟨rfl, rfl, by simp only; omega, by simp only; omega, stepN_fin _ _ _ _ hi hs⟩
    | on st' => exact runN_end s a k (i + 1) st' (stepN_on _ _ _ hi hs) (by omega) (by omega)
theorem runN_agr (s s' : ByteArray) : ∀ k k' i st, k + i = s.size → k' + i = s'.size → (runN s k i st).2.2.2.1 ≠ 2 →
    Agr (if (runN s k i st).2.2.2.1 = 0 then (runN s k i st).2.2.1 else (runN s k i st).2.2.2.2) s s' → runN s' k' i st = runN s k i st
  | 0, k', i, st, _, _, h, _ => absurd rfl h
  | k + 1, k', i, st, h1, h2, h, ha => by
    rw [runN] at h ha ⊢
    have low : ∀ kk j stt, i < j → kk + j = s.size → (runN s kk j stt).2.2.2.1 ≠ 2 → i < (if (runN s kk j stt).2.2.2.1 = 0 then (runN s kk j stt).2.2.1 else (runN s kk j stt).2.2.2.2) := by
      intro kk
      induction kk with
      | zero => intro j stt _ _ h; exact absurd rfl h
      | succ kk ih =>
        intro j stt hj hk h
        rw [runN] at h ⊢
        cases hs : stepN stt (bt s j) with
        | bad e => simp only; have := stepN_bad _ _ _ hs; rw [if_neg (by omega)]; omega
        | fin n m => simp only; rw [if_pos trivial]; omega
        | on st' => rw [hs] at h; simp only at h ⊢; exact ih (j + 1) st' (by omega) (by omega) h
    have hlt : i < (if (match stepN st (bt s i) with
      | .bad e => ((0, 0, 0, e, i + 1) : Nat × Int × Nat × Nat × Nat)
      | .fin n m => (n, m, i + 1, 0, 0)
      | .on st' => runN s k (i + 1) st').2.2.2.1 = 0 then (match stepN st (bt s i) with
      | .bad e => ((0, 0, 0, e, i + 1) : Nat × Int × Nat × Nat × Nat)
      | .fin n m => (n, m, i + 1, 0, 0)
      | .on st' => runN s k (i + 1) st').2.2.1 else (match stepN st (bt s i) with
      | .bad e => ((0, 0, 0, e, i + 1) : Nat × Int × Nat × Nat × Nat)
      | .fin n m => (n, m, i + 1, 0, 0)
      | .on st' => runN s k (i + 1) st').2.2.2.2) := by
      cases hs : stepN st (bt s i) with
      | bad e => have := stepN_bad _ _ _ hs; simp only; rw [if_neg (by omega)]; omega
      | fin n m => simp only; rw [if_pos trivial]; omega
      | on st' => rw [hs] at h; simp only at h ⊢; exact low k (i + 1) st' (by omega) (by omega) h
    have hb := ha.2.2 i hlt
    have hz := ha.2.1
    obtain ⟨k', rfl⟩ : ∃ j, k' = j + 1 := ⟨k' - 1, by omega⟩
    rw [runN, ← hb]
    cases hs : stepN st (bt s i) with
    | bad e => rfl
    | fin n m => rfl
    | on st' =>
      rw [hs] at h ha
      exact runN_agr s s' k k' (i + 1) st' (by omega) (by omega) h ha

theorem readN_cases (s : ByteArray) (at' : Int) : readN s at' = (0, 0, 0, 1, 0) ∨ ∃ a : Nat, at' = a ∧ EndN s a (readN s at') := by
  unfold readN
  by_cases h : at' < 0 ∨ (s.size : Int) ≤ at'
  · rw [if_pos h]; exact .inl rfl
  rw [if_neg h]
  obtain ⟨a, rfl⟩ : ∃ a : Nat, at' = a := ⟨at'.toNat, by omega⟩
  rw [show (a : Int).toNat = a from rfl]
  have hlt : a < s.size := by omega
  unfold signN
  by_cases h1 : bt s a = 42
  · rw [if_pos h1]; exact .inr ⟨a, rfl, .inl ⟨rfl, rfl, by simp only; omega, by simp only; omega, show rightN ((0 : Nat) : Int) (-1) = true from by decide⟩⟩
  rw [if_neg h1]
  by_cases h2 : bt s a = 43
  · rw [if_pos h2]; exact .inr ⟨a, rfl, .inl ⟨rfl, rfl, by simp only; omega, by simp only; omega, show rightN ((1 : Nat) : Int) (-1) = true from by decide⟩⟩
  rw [if_neg h2]
  by_cases h3 : bt s a = 63
  · rw [if_pos h3]; exact .inr ⟨a, rfl, .inl ⟨rfl, rfl, by simp only; omega, by simp only; omega, show rightN ((0 : Nat) : Int) 1 = true from by decide⟩⟩
  rw [if_neg h3]
  by_cases h4 : bt s a = 123
  · rw [if_pos h4]; exact .inr ⟨a, rfl, runN_end s a _ _ _ inv_start (by omega) (by omega)⟩
  · rw [if_neg h4]; exact .inl rfl
/-- **What is wrong, or counts, are told by the bytes up to there.** -/
theorem readN_agr (s s' : ByteArray) (at' : Int) (h1 : (readN s at').2.2.2.1 ≠ 1) (h2 : (readN s at').2.2.2.1 ≠ 2)
    (ha : Agr (if (readN s at').2.2.2.1 = 0 then (readN s at').2.2.1 else (readN s at').2.2.2.2) s s') : readN s' at' = readN s at' := by
  rcases readN_cases s at' with h | ⟨a, rfl, hE⟩
  · rw [h] at h1; exact absurd rfl h1
  have hlt : a < (if (readN s a).2.2.2.1 = 0 then (readN s a).2.2.1 else (readN s a).2.2.2.2) := by
    rcases hE with ⟨e1, _, e3, _⟩ | ⟨e1, _, _, _, e5, _⟩ | e
    · rw [if_pos e1]; exact e3
    · rw [if_neg (by omega)]; exact e5
    · rw [e] at h2; exact absurd rfl h2
  have hz := ha.1
  have hz' := ha.2.1
  have hb := ha.2.2 a hlt
  unfold readN at h1 h2 ha ⊢
  have hn : ¬ ((a : Int) < 0 ∨ (s.size : Int) ≤ a) := by omega
  have hn' : ¬ ((a : Int) < 0 ∨ (s'.size : Int) ≤ a) := by omega
  rw [if_neg hn] at h1 h2 ha ⊢
  rw [if_neg hn']
  rw [show (a : Int).toNat = a from rfl] at *
  unfold signN at h1 h2 ha ⊢
  rw [← hb]
  by_cases g1 : bt s a = 42
  · rw [if_pos g1, if_pos g1]
  rw [if_neg g1] at h1 h2 ha ⊢; rw [if_neg g1]
  by_cases g2 : bt s a = 43
  · rw [if_pos g2, if_pos g2]
  rw [if_neg g2] at h1 h2 ha ⊢; rw [if_neg g2]
  by_cases g3 : bt s a = 63
  · rw [if_pos g3, if_pos g3]
  rw [if_neg g3] at h1 h2 ha ⊢; rw [if_neg g3]
  by_cases g4 : bt s a = 123
  · rw [if_pos g4] at h1 h2 ha ⊢; rw [if_pos g4]
    exact runN_agr s s' _ _ _ _ (by omega) (by omega) h2 ha
  · rw [if_neg g4, if_neg g4]

/-! ### The text of counts -/
def digL (n : Nat) : List Nat := if 10 ≤ n then [48 + n / 10, 48 + n % 10] else [48 + n]
def textN (n m : Int) : List Nat :=
  if rightN n m = false then []
  else if n = 0 ∧ m = -1 then [42]
  else if n = 1 ∧ m = -1 then [43]
  else if n = 0 ∧ m = 1 then [63]
  else if n = m then 123 :: (digL n.toNat ++ [125])
  else if m = -1 then 123 :: (digL n.toNat ++ [44, 125])
  else 123 :: (digL n.toNat ++ (44 :: (digL m.toNat ++ [125])))
end Go.Proofs.Ytooolhekihijlaa

/- The document's counts: digit, braces, Read. -/
namespace Go.Proofs.Ytooolhekihijlaa
open Go.RowKit

theorem int_eq {k : IntKind} {a b : Int} (h : a = b) : Value.int k a = .int k b := by rw [h]
def tupN (r : Nat × Int × Nat × Nat × Nat) : Value := .tuple #[.int .i64 r.1, .int .i64 r.2.1, .int .i64 r.2.2.1, .int .i64 r.2.2.2.1, .int .i64 r.2.2.2.2]
end Go.Proofs.Ytooolhekihijlaa

/- The document's counts: Read, Right, Digits, Text. -/
namespace Go.Proofs.Ytooolhekihijlaa
open Go.RowKit

theorem digL_len (n : Nat) : (digL n).length ≤ 2 := by unfold digL; split <;> simp

end Go.Proofs.Ytooolhekihijlaa

/- '==' between arrays of whole numbers, of whatever length. -/
namespace Go.Proofs.Ytooolhekihijlaa
open Go.RowKit Go

theorem part_cell {P : Program} {e : TypeId} (ha : ∀ w, (isAgg e).run P w = .ok false w) (k : IntKind) (l : List Int) (i : Nat) (hi : i < l.length) (w : World) :
    (part e (l.map (Value.int k)).toArray i).run P w = .ok (.int k l[i]) w := by
  simp only [part, Sem.run_bind, ha, Result.andThen_ok]
  simp [hi]

theorem eq_loop {P : Program} {e : TypeId} {k k' : IntKind} (he : P.underlying e = some (.int k')) (ha : ∀ w, (isAgg e).run P w = .ok false w) (d : Nat) (l l' : List Int) (n : Nat) (hl : l.length = n) (hl' : l'.length = n) (w : World) :
    ∀ m i, i + m = n → (((forIn (List.range' i m) ((none : Option Bool), ()) fun i (_ : Option Bool × Unit) => do
        let a ← part e (l.map (Value.int k)).toArray (i * 1)
        let b ← part e (l'.map (Value.int k)).toArray (i * 1)
        let r ← Op.equalIn (d + 1) e a b
        if (!r) = true then pure (ForInStep.done (some false, ())) else pure (ForInStep.yield (none, ()))) : Sem (Option Bool × Unit)).run P w) = .ok (if l.drop i = l'.drop i then none else some false, ()) w := by
  intro m
  induction m with
  | zero =>
    intro i hi
    rw [List.drop_of_length_le (by omega), List.drop_of_length_le (by omega)]
    simp
  | succ m ih =>
    intro i hi
    rw [List.range'_succ, List.forIn_cons]
    simp only [Sem.run_bind, Nat.mul_one, part_cell ha k l i (by omega), part_cell ha k l' i (by omega), Result.andThen_ok, run_equalIn_int w d e k k' _ _ he]
    have hd : (l.drop i = l'.drop i) ↔ (l[i] = l'[i] ∧ l.drop (i + 1) = l'.drop (i + 1)) := by
      rw [List.drop_eq_getElem_cons (by omega : i < l.length), List.drop_eq_getElem_cons (by omega : i < l'.length), List.cons.injEq]
    by_cases h : l[i] = l'[i]
    · have h2 := ih (i + 1) (by omega)
      have h3 : (l[i] == l'[i]) = true := by rw [h]; simp
      simp only [Nat.mul_one] at h2
      simp only [h3, Bool.not_true, Bool.false_eq_true, if_false, Sem.run_pure, Result.andThen_ok]
      have hd' : (l.drop i = l'.drop i) = (l.drop (i + 1) = l'.drop (i + 1)) := by rw [hd]; simp [h]
      simp only [hd']
      exact h2
    · have h3 : (l[i] == l'[i]) = false := by simp [h]
      have hd' : (l.drop i = l'.drop i) = False := by rw [hd]; simp [h]
      simp only [h3, hd', Bool.not_false, if_true, Sem.run_pure, Result.andThen_ok, if_false]

/-- '==' of two arrays of whole numbers. -/
theorem eqArr {P : Program} {t e : TypeId} {n : Nat} {k k' : IntKind} (ht : P.underlying t = some (.array n e)) (he : P.underlying e = some (.int k')) (hs : ∀ w, (sizeOf e).run P w = .ok 1 w) (ha : ∀ w, (isAgg e).run P w = .ok false w)
    (d : Nat) (l l' : List Int) (hl : l.length = n) (hl' : l'.length = n) (w : World) :
    (Op.equalIn (d + 2) t (.agg (l.map (Value.int k)).toArray) (.agg (l'.map (Value.int k)).toArray)).run P w = .ok (decide (l = l')) w := by
  rw [Op.equalIn]
  simp only [Sem.run_bind, run_underlying ht, Result.andThen_ok, hs]
  have h := eq_loop (k := k) he ha d l l' n hl hl' w n 0 (by omega)
  rw [Std.Legacy.Range.forIn_eq_forIn_range']
  simp only [Std.Legacy.Range.size, Nat.sub_zero, Nat.add_sub_cancel, Nat.div_one]
  rw [h]
  by_cases hll : l = l'
  · simp [hll]
  · simp [hll]
end Go.Proofs.Ytooolhekihijlaa

/- '==' of sets, and of pairs of bytes. -/
namespace Go.Proofs.Ytooolhekihijlaa
open Go.RowKit Go BS

theorem size64 (w : World) : (sizeOf 45).run Try.prog w = .ok 1 w := by kernel_rfl
theorem agg64 (w : World) : (isAgg 45).run Try.prog w = .ok false w := by kernel_rfl

set_option maxRecDepth 100000 in
theorem eq_set (a b : BitVec 256) (w : World) : (Op.equalIn 10000 47 (setV a) (setV b)).run Try.prog w = .ok (decide (a = b)) w := by
  have h := eqArr (k := .u64) Try.underlying47 Try.underlying45 size64 agg64 9998 [(wd a 0 : Int), wd a 1, wd a 2, wd a 3] [(wd b 0 : Int), wd b 1, wd b 2, wd b 3] rfl rfl w
  refine Eq.trans h ?_
  refine congrArg (fun x => Result.ok x w) ?_
  rw [decide_eq_decide]
  constructor
  · intro h
    simp only [List.cons.injEq, Int.ofNat_inj, and_true] at h
    exact ext_wd h.1 h.2.1 h.2.2.1 h.2.2.2
  · intro h; rw [h]
/-- The same set. -/
theorem eq_set_same (a : BitVec 256) (w : World) : (Op.equalIn 10000 47 (setV a) (setV a)).run Try.prog w = .ok true w := by
  rw [eq_set]; simp

theorem size8 (w : World) : (sizeOf 5).run Try.prog w = .ok 1 w := by kernel_rfl
theorem agg8 (w : World) : (isAgg 5).run Try.prog w = .ok false w := by kernel_rfl
end Go.Proofs.Ytooolhekihijlaa

/- The calls on sets of bytes: what each hands back, whatever the sets are. -/
namespace Go.Proofs.Ytooolhekihijlaa
open Go.RowKit BS

theorem bcell {W w1 : World} (hb : Below W.heap.size W w1) : (∀ b o, b < W.heap.size → w1.cell? ⟨b, o, none⟩ = W.cell? ⟨b, o, none⟩) ∧ (∀ b o, b < W.heap.size → w1.frozen? ⟨b, o, none⟩ = W.frozen? ⟨b, o, none⟩) :=
  ⟨fun b o h => hb.cell (p := ⟨b, o, none⟩) h, fun b o h => hb.frozen (p := ⟨b, o, none⟩) h⟩

theorem ret_set {s : BitVec 256} {a b c d : Int} (h0 : a = wd s 0) (h1 : b = wd s 1) (h2 : c = wd s 2) (h3 : d = wd s 3) :
    Ending.returned (.agg #[.int .u64 a, .int .u64 b, .int .u64 c, .int .u64 d]) = .returned (setV s) := by rw [h0, h1, h2, h3]
theorem ret_bool {a b : Bool} (h : a = b) : Ending.returned (.bool a) = .returned (.bool b) := by rw [h]
theorem ret_int {k : IntKind} {a b : Int} (h : a = b) : Ending.returned (.int k a) = .returned (.int k b) := by rw [h]

theorem ix0 (a b c d : Value) (w : World) : (Instr.index 47 (.agg #[a, b, c, d]) (.int .i64 0)).run Try.prog w = .ok a w := by kernel_rfl
theorem ix1 (a b c d : Value) (w : World) : (Instr.index 47 (.agg #[a, b, c, d]) (.int .i64 1)).run Try.prog w = .ok b w := by kernel_rfl
theorem ix2 (a b c d : Value) (w : World) : (Instr.index 47 (.agg #[a, b, c, d]) (.int .i64 2)).run Try.prog w = .ok c w := by kernel_rfl
theorem ix3 (a b c d : Value) (w : World) : (Instr.index 47 (.agg #[a, b, c, d]) (.int .i64 3)).run Try.prog w = .ok d w := by kernel_rfl

theorem mask_word (n : Nat) (i : Nat) (hi : i < 4) (k : Nat) (hk : min (n - 64 * i) 64 = k) : IntKind.u64.wrap (IntKind.u64.wrap (2 ^ k) - 1) = (wd (mask n) i : Int) := by
  rw [wd_mask n i hi, hk, pow_wrap2 k (by omega)]
theorem mask_word1 (n : Nat) (i : Nat) (hi : i < 4) (hk : 64 ≤ n - 64 * i) : IntKind.u64.wrap (IntKind.u64.wrap 18446744073709551616 - 1) = (wd (mask n) i : Int) := by
  rw [wd_mask n i hi, Nat.min_eq_right hk, pow_wrap1]
theorem mask_word0 (n : Nat) (i : Nat) (hi : i < 4) (hk : n - 64 * i = 0) : (0 : Int) = (wd (mask n) i : Int) := by
  rw [wd_mask n i hi, hk]; rfl

end Go.Proofs.Ytooolhekihijlaa

/- The calls on sets of bytes: ranges, and whether a byte is in a set. -/
namespace Go.Proofs.Ytooolhekihijlaa
open Go.RowKit BS

theorem next {B : Nat} {a b c : World} (h : Below B a b) (k : Below b.heap.size b c) (hB : B ≤ a.heap.size) : Below B a c :=
  h.trans (k.mono (Nat.le_trans hB h.size))
theorem upfrom {w w' : World} {o : Obj} (h : Below (w.alloc o).heap.size (w.alloc o) w') : Below w.heap.size w w' :=
  ((Below.refl _ w).alloc (Nat.le_refl _) _).trans (h.mono (by simp))

theorem box4 {w w' : World} {a b c d : Value} {t : TypeId} (h : Below (w.alloc (.cells #[a, b, c, d] t)).heap.size (w.alloc (.cells #[a, b, c, d] t)) w') :
    (w'.cell? ⟨w.heap.size, 0, none⟩ = some a ∧ w'.cell? ⟨w.heap.size, 1, none⟩ = some b ∧ w'.cell? ⟨w.heap.size, 2, none⟩ = some c ∧ w'.cell? ⟨w.heap.size, 3, none⟩ = some d) ∧
    (w'.frozen? ⟨w.heap.size, 0, none⟩ = false ∧ w'.frozen? ⟨w.heap.size, 1, none⟩ = false ∧ w'.frozen? ⟨w.heap.size, 2, none⟩ = false ∧ w'.frozen? ⟨w.heap.size, 3, none⟩ = false) := by
  obtain ⟨hc, hf⟩ := bcell h
  have hz : w.heap.size < (w.alloc (.cells #[a, b, c, d] t)).heap.size := by simp
  rw [hc _ _ hz, hc _ _ hz, hc _ _ hz, hc _ _ hz, hf _ _ hz, hf _ _ hz, hf _ _ hz, hf _ _ hz]
  refine ⟨⟨?_, ?_, ?_, ?_⟩, ?_, ?_, ?_, ?_⟩ <;> simp [go_sem]

theorem has_word' (a : BitVec 256) (x : Int) (i k : Nat) (hx : x.toNat = 64 * i + k) (hk : k < 64) : (bits .and .u64 ((wd a i : Int) / 2 ^ k) 1 == 1) = a.getLsbD x.toNat := by
  rw [hx, has_word a i k hk]

set_option maxHeartbeats 400000 in
/-- Has. -/
theorem has_calls (a : BitVec 256) (x : Int) (w : World) (h0 : 0 ≤ x) (h1 : x < 256) :
    Calls Try.prog 63 #[setV a, .int .u8 x] w fun e w' => e = .returned (.bool (a.getLsbD x.toNat)) ∧ Below w.heap.size w w' := by
  have hx2 : 0 ≤ x % 64 := by omega
  have hx3 : x % 64 < 64 := by omega
  have h4 : x / 64 = 0 ∨ x / 64 = 1 ∨ x / 64 = 2 ∨ x / 64 = 3 := by omega
  rcases h4 with hx | hx | hx | hx
  all_goals
    go_enter Try.func63, Try.ntmps63
    go_wp2
    go_returns
    refine ⟨ret_bool (has_word' a x _ _ ?_ ?_), by go_grown⟩ <;> omega
end Go.Proofs.Ytooolhekihijlaa

/- math/bits.OnesCount64: how many bits a word has. -/
namespace Go.Proofs.Ytooolhekihijlaa
open Go.RowKit BS

theorem bits_and_i64_127 (x : Nat) (hx : x < 4611686018427387904) : bits .and .i64 (wrap64 (x : Int)) 127 = ((x % 128 : Nat) : Int) := by
  have h0 : wrap64 (x : Int) = (x : Int) := by unfold wrap64; omega
  rw [h0]
  have h1 : (BitVec.ofInt 64 (x : Int)).toNat = x := ofInt_toNat x (by omega)
  have h2 : (BitVec.ofInt 64 (127 : Int)).toNat = 127 := by decide
  show IntKind.i64.wrap ((BitVec.ofInt 64 (x : Int) &&& BitVec.ofInt 64 (127 : Int)).toNat : Int) = _
  rw [BitVec.toNat_and, h1, h2, show (127 : Nat) = 2 ^ 7 - 1 from rfl, Nat.and_two_pow_sub_one_eq_mod, IntKind.wrap_i64]
  omega

end Go.Proofs.Ytooolhekihijlaa

/- math/bits.TrailingZeros64 over the library's table, as its initialiser lays it. -/
namespace Go.Proofs.Ytooolhekihijlaa
open Go.RowKit BS

end Go.Proofs.Ytooolhekihijlaa

/- Count and Next. -/
namespace Go.Proofs.Ytooolhekihijlaa
open Go.RowKit BS

def cw (s : BitVec 256) (i : Nat) : Nat := cnt (wd s i).testBit 64
theorem cw_le (s : BitVec 256) (i : Nat) : cw s i ≤ 64 := cnt_le _ _
theorem cnt4 (f : Nat → Bool) : cnt f 256 = cnt f 64 + cnt (fun j => f (64 + j)) 64 + cnt (fun j => f (128 + j)) 64 + cnt (fun j => f (192 + j)) 64 := by
  have e := cnt_add f 64 (64 + (64 + 64))
  rw [cnt_add (fun j => f (64 + j)), cnt_add (fun j => f (64 + (64 + j)))] at e
  have e2 : cnt f 256 = cnt f (64 + (64 + (64 + 64))) := rfl
  rw [e2, e, ← Nat.add_assoc, ← Nat.add_assoc]
  have h1 : cnt (fun j => f (64 + (64 + j))) 64 = cnt (fun j => f (128 + j)) 64 := cnt_congr fun j _ => congrArg f (by omega)
  have h2 : cnt (fun j => f (64 + (64 + (64 + j)))) 64 = cnt (fun j => f (192 + j)) 64 := cnt_congr fun j _ => congrArg f (by omega)
  rw [h1, h2]
theorem cw_sum (s : BitVec 256) : cnt s.getLsbD 256 = cw s 0 + cw s 1 + cw s 2 + cw s 3 := by
  have h : ∀ i k, k = 64 * i → cw s i = cnt (fun j => s.getLsbD (k + j)) 64 := by
    intro i k hk
    subst hk
    apply cnt_congr; intro j hj
    rw [testBit_wd]; simp [hj]
  rw [cnt4, h 0 0 rfl, h 1 64 rfl, h 2 128 rfl, h 3 192 rfl]
  simp only [Nat.zero_add]

theorem ctz_wd (s : BitVec 256) (i : Nat) (h : wd s i ≠ 0) : Lib.ctz 64 (wd s i) < 64 ∧ s.getLsbD (64 * i + Lib.ctz 64 (wd s i)) = true ∧ ∀ j, j < Lib.ctz 64 (wd s i) → s.getLsbD (64 * i + j) = false := by
  obtain ⟨m, hm, hk⟩ := Lib.ctzFrom_spec 64 (wd s i) (by omega) (wd_lt s i)
  have e : Lib.ctz 64 (wd s i) = Lib.ctzFrom 64 (wd s i) := by simp [Lib.ctz, h]
  rw [e]
  generalize Lib.ctzFrom 64 (wd s i) = k at *
  have ht : ∀ j, (wd s i).testBit j = (decide (j ≥ k) && (2 * m + 1).testBit (j - k)) := by
    intro j; rw [hm, Nat.mul_comm, Nat.testBit_mul_two_pow]
  refine ⟨hk, ?_, ?_⟩
  · have := ht k
    rw [testBit_wd] at this
    simpa [hk] using this
  · intro j hj
    have := ht j
    rw [testBit_wd] at this
    have h1 : j < 64 := by omega
    have h2 : ¬ j ≥ k := by omega
    simpa [h1, h2] using this

/-- The least number of a set that is not below n; -1: there is none. -/
def nextOf (f : Nat → Bool) (n : Nat) : Int := match (List.range 256).find? (fun j => decide (n ≤ j) && f j) with | some j => j | none => -1
theorem nextOf_eq {f : Nat → Bool} {n k : Nat} (h1 : k < 256) (h2 : n ≤ k) (h3 : f k = true) (h4 : ∀ j, n ≤ j → j < k → f j = false) : nextOf f n = k := by
  have : (List.range 256).find? (fun j => decide (n ≤ j) && f j) = some k := by
    rw [List.find?_range_eq_some]
    refine ⟨by simp [h2, h3], by simpa using h1, ?_⟩
    intro j hj
    by_cases hn : n ≤ j
    · simp [h4 j hn hj]
    · simp [hn]
  rw [nextOf, this]
theorem nextOf_none {f : Nat → Bool} {n : Nat} (h : ∀ j, n ≤ j → j < 256 → f j = false) : nextOf f n = -1 := by
  have : (List.range 256).find? (fun j => decide (n ≤ j) && f j) = none := by
    rw [List.find?_eq_none]
    intro j hj
    have hj' : j < 256 := by simpa using hj
    by_cases hn : n ≤ j
    · simp [h j hn hj']
    · simp [hn]
  rw [nextOf, this]

theorem wd_zero {s : BitVec 256} {i : Nat} (h : wd s i = 0) (j : Nat) (hj : j < 64) : s.getLsbD (64 * i + j) = false := by
  have := testBit_wd s i j
  rw [h] at this
  simpa [hj] using this.symm

/-- Which word tells. -/
theorem next_word (s : BitVec 256) (n i : Nat) (hi : i < 4) (h : wd (s &&& ~~~(mask n)) i ≠ 0) (hz : ∀ i', i' < i → wd (s &&& ~~~(mask n)) i' = 0) :
    (i : Int) * 64 + (Lib.ctz 64 (wd (s &&& ~~~(mask n)) i) : Int) = nextOf s.getLsbD n := by
  obtain ⟨hk, h1, h2⟩ := ctz_wd _ i h
  generalize Lib.ctz 64 (wd (s &&& ~~~(mask n)) i) = k at *
  have hb : ∀ j, j < 256 → (s &&& ~~~(mask n)).getLsbD j = (s.getLsbD j && decide (n ≤ j)) := by
    intro j hj
    rw [BitVec.getLsbD_and, BitVec.getLsbD_not, mask, get_ofFn]
    simp only [hj, decide_true, Bool.true_and]
    rw [← decide_not]; congr 1; rw [decide_eq_decide]; omega
  have h3 := hb (64 * i + k) (by omega)
  rw [h1] at h3
  simp only [Bool.true_eq, Bool.and_eq_true, decide_eq_true_eq] at h3
  rw [nextOf_eq (k := 64 * i + k) (by omega) h3.2 h3.1 ?_]
  · omega
  · intro j hn hj
    have h4 := hb j (by omega)
    simp only [hn, decide_true, Bool.and_true] at h4
    rw [← h4]
    by_cases hji : j / 64 = i
    · have e : j = 64 * i + j % 64 := by omega
      rw [e]; exact h2 _ (by omega)
    · have e : j = 64 * (j / 64) + j % 64 := by omega
      rw [e]; exact wd_zero (hz _ (by omega)) _ (by omega)
theorem next_no (s : BitVec 256) (n : Nat) (hz : ∀ i', i' < 4 → wd (s &&& ~~~(mask n)) i' = 0) : nextOf s.getLsbD n = -1 := by
  apply nextOf_none
  intro j hn hj
  have e : j = 64 * (j / 64) + j % 64 := by omega
  have h0 := wd_zero (hz (j / 64) (by omega)) (j % 64) (by omega)
  rw [← e, BitVec.getLsbD_and, BitVec.getLsbD_not, mask, get_ofFn] at h0
  simpa [hj, show ¬ j < n by omega] using h0

end Go.Proofs.Ytooolhekihijlaa

/- Next. -/
namespace Go.Proofs.Ytooolhekihijlaa
open Go.RowKit BS

theorem box4' {w w' : World} {a b c d : Value} {t : TypeId} (h : Below (w.heap.size + 1) (w.alloc (.cells #[a, b, c, d] t)) w') :
    (w'.cell? ⟨w.heap.size, 0, none⟩ = some a ∧ w'.cell? ⟨w.heap.size, 1, none⟩ = some b ∧ w'.cell? ⟨w.heap.size, 2, none⟩ = some c ∧ w'.cell? ⟨w.heap.size, 3, none⟩ = some d) ∧
    (w'.frozen? ⟨w.heap.size, 0, none⟩ = false ∧ w'.frozen? ⟨w.heap.size, 1, none⟩ = false ∧ w'.frozen? ⟨w.heap.size, 2, none⟩ = false ∧ w'.frozen? ⟨w.heap.size, 3, none⟩ = false) :=
  box4 (by rw [World.size_alloc]; exact h)
theorem next' {w : World} {o : Obj} {b c : World} (h : Below (w.heap.size + 1) (w.alloc o) b) (k : Below b.heap.size b c) : Below (w.heap.size + 1) (w.alloc o) c := next h k (by simp)

/-- The set's box, in block w.heap.size, holds s. -/
def Box (w : World) (s : BitVec 256) (w' : World) : Prop :=
  ((w'.cell? ⟨w.heap.size, 0, none⟩ = some (.int .u64 (wd s 0)) ∧ w'.cell? ⟨w.heap.size, 1, none⟩ = some (.int .u64 (wd s 1)) ∧ w'.cell? ⟨w.heap.size, 2, none⟩ = some (.int .u64 (wd s 2)) ∧ w'.cell? ⟨w.heap.size, 3, none⟩ = some (.int .u64 (wd s 3)))) ∧ Below w.heap.size w w' ∧ w.heap.size < w'.heap.size

theorem Box.stored {w w2 : World} {a b c d : Value} {t : TypeId} (h : Below (w.heap.size + 1) (w.alloc (.cells #[a, b, c, d] t)) w2) (s : BitVec 256) :
    Box w s ((((w2.setCell ⟨w.heap.size, 0, none⟩ (.int .u64 (wd s 0))).setCell ⟨w.heap.size, 1, none⟩ (.int .u64 (wd s 1))).setCell ⟨w.heap.size, 2, none⟩ (.int .u64 (wd s 2))).setCell ⟨w.heap.size, 3, none⟩ (.int .u64 (wd s 3))) := by
  obtain ⟨⟨c0, c1, c2, c3⟩, f0, f1, f2, f3⟩ := box4' h
  have hz := h.size
  rw [World.size_alloc] at hz
  have hG : Below w.heap.size w w2 := upfrom (h.mono (by simp))
  refine ⟨⟨?_, ?_, ?_, ?_⟩, by go_grown, by simp only [World.size_setCell]; omega⟩ <;> simp [go_sem, c0, c1, c2, c3]

theorem all1 {P : Nat → Prop} (h0 : P 0) : ∀ j, j < 1 → P j := fun j hj => by
  have : j = 0 := by omega
  subst this; exact h0
theorem all2 {P : Nat → Prop} (h0 : P 0) (h1 : P 1) : ∀ j, j < 2 → P j := fun j hj => by
  by_cases h : j = 1
  · subst h; exact h1
  · exact all1 h0 j (by omega)
theorem all3 {P : Nat → Prop} (h0 : P 0) (h1 : P 1) (h2 : P 2) : ∀ j, j < 3 → P j := fun j hj => by
  by_cases h : j = 2
  · subst h; exact h2
  · exact all2 h0 h1 j (by omega)
theorem all4 {P : Nat → Prop} (h0 : P 0) (h1 : P 1) (h2 : P 2) (h3 : P 3) : ∀ j, j < 4 → P j := fun j hj => by
  by_cases h : j = 3
  · subst h; exact h3
  · exact all3 h0 h1 h2 j (by omega)

end Go.Proofs.Ytooolhekihijlaa

/- As Rs, where one operation (number m: a store) leads from worlds of a kind S0 to worlds of a kind S1; all others keep the kind. Those that the store need not wait for step in both. Nothing of the program is used. -/
import Derived.Test.YtjgokhhpfgnceaaDoorRs
namespace Go.Proofs.YtjgokhhpfgnceaaDoor
open Go

section
variable {P : Program} {ops : Array Oper} {Q : Exit → Act → World → Prop} {md : Region.Mode} {S S' S0 S1 : World → Prop}

def StepsL (P : Program) (ops : Array Oper) (S S' : World → Prop) (o : Oper) (v : Value) (a : Act) : Prop :=
  (Region.wanted o (yielded ops a.tmps) = true ∧ ∀ w, S w → ∀ (K : Act → World → Prop) (Q : Exit → Act → World → Prop), (∀ w', S' w' → K (a.put o.dst v) w') → o.wp P a w K Q) ∨
  (Region.wanted o (yielded ops a.tmps) = false ∧ v = undef ∧ ∀ w, S w → S' w)

theorem StepsIf.toL {o : Oper} {v : Value} {a : Act} (h : StepsIf P ops S o v a) : StepsL P ops S S o v a := by
  rcases h with h | h
  · exact .inl h
  · exact .inr ⟨h.1, h.2, fun _ h => h⟩

theorem StepsL.wpOp {i : Nat} {o : Oper} {v : Value} {a : Act} (hi : ops[i]? = some o) (hy : StepsL P ops S S' o v a)
    {K : Act → World → Prop} {w : World} (hS : S w) (h : ∀ w', S' w' → K (a.put o.dst v) w') : wpOp P ops Q i K a w := by
  unfold Go.wpOp
  simp only [hi]
  rcases hy with ⟨hw, hv⟩ | ⟨hw, rfl, hk⟩
  · simp only [hw, if_true]; exact .inl (hv w hS K Q h)
  · simp only [hw, Bool.false_eq_true, if_false]; exact h w (hk w hS)

theorem StepsL.unput {oi oj : Oper} {v u : Value} {a : Act} (hsj : ∀ cs b, oj.op ≠ .select cs b) (h1 : ∀ d, oi.dst = some d → d ∉ oj.looksAt ops) (hyj : StepsL P ops S S' oj u (a.put oi.dst v)) : StepsL P ops S S' oj u a := by
  have hw := wanted_put oj a oi.dst v h1
  unfold StepsL at hyj ⊢
  rw [hw] at hyj
  rcases hyj with ⟨hw', hv⟩ | h
  · refine .inl ⟨hw', fun w hS K Q hK => ?_⟩
    have h0 := hv w hS (fun a' w' => a' = (a.put oi.dst v).put oj.dst u ∧ S' w') (fun _ _ _ => False) (fun w' hS' => ⟨rfl, hS'⟩)
    unfold Oper.wp at *
    rw [execOp_put oj hsj a oi.dst v h1] at h0
    generalize (execOp a.eval oj).run P w = r at *
    have key : ∀ u' w', ((a.put oi.dst v).put oj.dst u' = (a.put oi.dst v).put oj.dst u ∧ S' w') → K (a.put oj.dst u') w' := fun u' w' ⟨he, hS'⟩ => by
      rw [put_cancel he]; exact hK w' hS'
    cases r with
    | ok n w' =>
      cases n <;> simp only [Oper.upon] at h0 ⊢
      case value u => exact key _ _ h0
      case skip => exact key _ _ h0
      case defer d =>
        exfalso
        have := congrArg (fun b : Act => b.defers.length) h0.1
        have hp : ∀ (b : Act) (t : Option Tmp) (u : Value), (b.put t u).defers = b.defers := fun b t u => by cases t <;> rfl
        simp [hp] at this
      case enter f args =>
        refine Calls.mono h0 fun e w'' he => ?_
        cases e with
        | returned u => exact key _ _ he
        | panicked c => exact he.elim
        | outgrown => exact he.elim fun _ h => h.elim fun _ h => h.elim
      case row row args => exact Rows.mono h0 fun u w'' he => key _ _ he
    | halt x w' =>
      cases x <;> simp only [Oper.upon] at h0
  · exact .inr h

/-- What kind the worlds are of: has operation m come up? -/
def kindL (S0 S1 : World → Prop) (m : Nat) (listed : Array Bool) : World → Prop := if listed.getD m true = true then S1 else S0
theorem kindL_set {m i : Nat} {listed : Array Bool} (h : i ≠ m) : kindL S0 S1 m (listed.setIfInBounds i true) = kindL S0 S1 m listed := by
  unfold kindL; rw [getD_set_ne true h]

def AnyL (P : Program) (md : Region.Mode) (ops : Array Oper) (Q : Exit → Act → World → Prop) (S0 S1 : World → Prop) (m : Nat) : Nat → Array Bool → Act → Prop
  | 0, listed, a => Region.ready md ops listed = [] ∧ ∀ w, kindL S0 S1 m listed w → Q .normal a w
  | fuel + 1, listed, a =>
    (Region.ready md ops listed = [] → ∀ w, kindL S0 S1 m listed w → Q .normal a w) ∧
    ∀ i ∈ Region.ready md ops listed, ∃ o v, ops[i]? = some o ∧ StepsL P ops (kindL S0 S1 m listed) (kindL S0 S1 m (listed.setIfInBounds i true)) o v a ∧ AnyL P md ops Q S0 S1 m fuel (listed.setIfInBounds i true) (a.put o.dst v)

theorem AnyL.any {m : Nat} : ∀ (fuel : Nat) (listed : Array Bool) (a : Act), AnyL P md ops Q S0 S1 m fuel listed a → ∀ w, kindL S0 S1 m listed w → wpAny P md ops Q fuel listed a w
  | 0, _, _, h, w, hS => ⟨h.1, h.2 w hS⟩
  | fuel + 1, listed, a, h, w, hS => ⟨fun h0 => h.1 h0 w hS, fun i hi => by
    obtain ⟨o, v, ho, hy, hr⟩ := h.2 i hi
    exact hy.wpOp ho hS fun w' hS' => AnyL.any fuel _ _ hr w' hS'⟩

theorem AnyL.first {m i : Nat} {oi om : Oper} {v : Value} (him : i ≠ m) (hi : ops[i]? = some oi) (hm : ops[m]? = some om) (hsel : ∀ (j : Nat) (o : Oper) cs b, ops[j]? = some o → o.op ≠ .select cs b) :
    ∀ (fuel : Nat) (listed : Array Bool) (a : Act),
      (∀ j oj, ops[j]? = some oj → j ≠ i → listed.getD j true = false → (∀ e ∈ oj.after, Region.binds md e = true → e.on ≠ i) → oi.apart ops oj = true) →
      i ∈ Region.ready md ops listed → (listed.getD m true = false → StepsIf P ops S0 oi v a) → ((listed.getD m true = false ∧ ∃ e ∈ om.after, Region.binds md e = true ∧ e.on = i) ∨ StepsIf P ops S1 oi v a) →
      AnyL P md ops Q S0 S1 m fuel (listed.setIfInBounds i true) (a.put oi.dst v) → AnyL P md ops Q S0 S1 m (fuel + 1) listed a := by
  have hno : ∀ listed, i ∈ Region.ready md ops listed → (∃ e ∈ om.after, Region.binds md e = true ∧ e.on = i) → m ∉ Region.ready md ops listed := fun listed hr hdep hmr => by
    obtain ⟨_, o', ho', hall⟩ := mem_ready.1 hmr
    obtain rfl : om = o' := Option.some.inj (hm.symm.trans ho')
    obtain ⟨e, he, hb, rfl⟩ := hdep
    have h1 := hall e he hb
    have h0 := (mem_ready.1 hr).1
    rcases Nat.lt_or_ge e.on listed.size with h' | h'
    · simp [h'] at h0 h1; rw [h0] at h1; cases h1
    · simp [Array.getElem?_eq_none h'] at h1
  have step : ∀ (listed : Array Bool) (a : Act), (listed.getD m true = false → StepsIf P ops S0 oi v a) → ((listed.getD m true = false ∧ ∃ e ∈ om.after, Region.binds md e = true ∧ e.on = i) ∨ StepsIf P ops S1 oi v a) →
      StepsL P ops (kindL S0 S1 m listed) (kindL S0 S1 m (listed.setIfInBounds i true)) oi v a := fun listed a hy0 hy1 => by
    rw [kindL_set him]
    unfold kindL
    cases hb : listed.getD m true with
    | false => rw [if_neg (by decide)]; exact (hy0 hb).toL
    | true =>
      rw [if_pos rfl]
      rcases hy1 with ⟨h, _⟩ | h
      · rw [hb] at h; cases h
      · exact h.toL
  intro fuel
  induction fuel with
  | zero =>
    intro listed a _ hr hy0 hy1 H
    refine ⟨fun h => (by rw [h] at hr; cases hr), fun j hj => ?_⟩
    by_cases hji : j = i
    · subst hji; exact ⟨oi, v, hi, step listed a hy0 hy1, H⟩
    · have := ready_mono hj hji
      rw [H.1] at this
      cases this
  | succ fuel ih =>
    intro listed a hfree hr hy0 hy1 H
    refine ⟨fun h => (by rw [h] at hr; cases hr), fun j hj => ?_⟩
    by_cases hji : j = i
    · subst hji; exact ⟨oi, v, hi, step listed a hy0 hy1, H⟩
    · obtain ⟨oj, u, hoj, hyj, hrest⟩ := H.2 j (ready_mono hj hji)
      obtain ⟨hjun, oj', hoj', hall⟩ := mem_ready.1 hj
      obtain rfl : oj = oj' := Option.some.inj (hoj.symm.trans hoj')
      have hnot : ∀ e ∈ oj.after, Region.binds md e = true → e.on ≠ i := fun e he hb heq => by
        have h1 := hall e he hb
        have h0 := (mem_ready.1 hr).1
        rw [heq] at h1
        rcases Nat.lt_or_ge i listed.size with h' | h'
        · simp [h'] at h0 h1; rw [h0] at h1; cases h1
        · simp [Array.getElem?_eq_none h'] at h1
      obtain ⟨h1, h2, h3⟩ := Oper.apart_spec (hfree j oj hoj hji hjun hnot)
      rw [kindL_set him, Array.setIfInBounds_comm _ _ (Ne.symm hji), kindL_set him] at hyj
      have hput : ∀ {T : World → Prop}, StepsIf P ops T oi v a → StepsIf P ops T oi v (a.put oj.dst u) := fun h => h.put (fun cs b => hsel i oi cs b hi) h3 (fun d hd => fun e => h2 d hd e)
      refine ⟨oj, u, hoj, StepsL.unput (fun cs b => hsel j oj cs b hoj) h1 hyj, ih _ _ ?_ (ready_mono hr (Ne.symm hji)) ?_ ?_ ?_⟩
      · intro k ok hk hki hun hno
        refine hfree k ok hk hki ?_ hno
        by_cases hjk : j = k
        · subst hjk; exact hjun
        · rw [getD_set_ne true hjk] at hun; exact hun
      · intro hun
        by_cases hjm : j = m
        · subst hjm
          exact hput (hy0 hjun)
        · rw [getD_set_ne true hjm] at hun; exact hput (hy0 hun)
      · rcases hy1 with ⟨hf, hd⟩ | h
        · have hjm : j ≠ m := fun e => hno listed hr hd (by rw [← e]; exact hj)
          exact .inl ⟨by rw [getD_set_ne true hjm]; exact hf, hd⟩
        · exact .inr (hput h)
      · rw [Array.setIfInBounds_comm _ _ hji, ← Act.put_comm a v u h2]
        exact hrest

/-- Take number i, for which the store waits. -/
theorem AnyL.next {m i : Nat} {d : Option Tmp} {oi : Oper} {v : Value} {fuel : Nat} {listed : Array Bool} {a : Act} (hi : ops[i]? = some oi) (hd : oi.dst = d) (hw : (waits md ops m i && !listed.getD m true && !(i == m)) = true)
    (hs : Region.noSelect ops = true) (hf : Region.free md ops listed i = true) (hr : (Region.ready md ops listed).contains i = true) (hy : StepsIf P ops S0 oi v a)
    (h : ∀ a', a.put d v = a' → AnyL P md ops Q S0 S1 m fuel (listed.setIfInBounds i true) a') : AnyL P md ops Q S0 S1 m (fuel + 1) listed a := by
  rw [Bool.and_eq_true, Bool.and_eq_true] at hw
  obtain ⟨⟨hw, hl⟩, him⟩ := hw
  have him : i ≠ m := by simpa using him
  have hl : listed.getD m true = false := by simpa using hl
  unfold waits at hw
  cases hm : ops[m]? with
  | none => rw [hm] at hw; cases hw
  | some om =>
    rw [hm] at hw
    simp only [Option.map_some, Option.getD_some, Array.any_eq_true', Bool.and_eq_true, beq_iff_eq] at hw
    exact AnyL.first him hi hm (Region.noSelect_spec hs) fuel listed a (Region.free_spec hi hf) (by simpa using hr) (fun _ => hy) (.inl ⟨hl, hw⟩) (h _ (by rw [hd]))
/-- Take number i, for which it doesn't, ahead of the store. -/
theorem AnyL.both {m i : Nat} {d : Option Tmp} {oi : Oper} {v : Value} {fuel : Nat} {listed : Array Bool} {a : Act} (hi : ops[i]? = some oi) (hd : oi.dst = d) (hw : (decide (m < ops.size) && !(i == m)) = true)
    (hs : Region.noSelect ops = true) (hf : Region.free md ops listed i = true) (hr : (Region.ready md ops listed).contains i = true) (hy0 : StepsIf P ops S0 oi v a) (hy1 : StepsIf P ops S1 oi v a)
    (h : ∀ a', a.put d v = a' → AnyL P md ops Q S0 S1 m fuel (listed.setIfInBounds i true) a') : AnyL P md ops Q S0 S1 m (fuel + 1) listed a := by
  rw [Bool.and_eq_true] at hw
  obtain ⟨hw, him⟩ := hw
  have him : i ≠ m := by simpa using him
  have hw : m < ops.size := of_decide_eq_true hw
  exact AnyL.first him hi (Array.getElem?_eq_getElem hw) (Region.noSelect_spec hs) fuel listed a (Region.free_spec hi hf) (by simpa using hr) (fun _ => hy0) (.inr hy1) (h _ (by rw [hd]))
/-- Behind the store. -/
theorem AnyL.after {m i : Nat} {d : Option Tmp} {oi : Oper} {v : Value} {fuel : Nat} {listed : Array Bool} {a : Act} (hi : ops[i]? = some oi) (hd : oi.dst = d) (hw : (decide (m < ops.size) && listed.getD m true && !(i == m)) = true)
    (hs : Region.noSelect ops = true) (hf : Region.free md ops listed i = true) (hr : (Region.ready md ops listed).contains i = true) (hy : StepsIf P ops S1 oi v a)
    (h : ∀ a', a.put d v = a' → AnyL P md ops Q S0 S1 m fuel (listed.setIfInBounds i true) a') : AnyL P md ops Q S0 S1 m (fuel + 1) listed a := by
  rw [Bool.and_eq_true, Bool.and_eq_true] at hw
  obtain ⟨⟨hw, hl⟩, him⟩ := hw
  have him : i ≠ m := by simpa using him
  have hw : m < ops.size := of_decide_eq_true hw
  exact AnyL.first him hi (Array.getElem?_eq_getElem hw) (Region.noSelect_spec hs) fuel listed a (Region.free_spec hi hf) (by simpa using hr) (fun h => by rw [hl] at h; cases h) (.inr hy) (h _ (by rw [hd]))
/-- The store, when it alone is left. -/
theorem AnyL.store {m : Nat} {d : Option Tmp} {om : Oper} {v : Value} {fuel : Nat} {listed : Array Bool} {a : Act} (hm : ops[m]? = some om) (hd : om.dst = d) (hr : Region.ready md ops listed = [m]) (hl : (!listed.getD m true && decide (m < listed.size)) = true)
    (hw : Region.wanted om (yielded ops a.tmps) = true) (hy : ∀ w, S0 w → ∀ (K : Act → World → Prop) (Q : Exit → Act → World → Prop), (∀ w', S1 w' → K (a.put d v) w') → om.wp P a w K Q)
    (h : ∀ a', a.put d v = a' → AnyL P md ops Q S0 S1 m fuel (listed.setIfInBounds m true) a') : AnyL P md ops Q S0 S1 m (fuel + 1) listed a := by
  rw [Bool.and_eq_true] at hl
  obtain ⟨hl, hsz⟩ := hl
  have hl : listed.getD m true = false := by simpa using hl
  have hsz : m < listed.size := of_decide_eq_true hsz
  subst hd
  refine ⟨fun h0 => (by rw [hr] at h0; cases h0), fun j hj => ?_⟩
  rw [hr] at hj
  obtain rfl : j = m := by simpa using hj
  have k0 : kindL S0 S1 j listed = S0 := by unfold kindL; rw [hl, if_neg (by decide)]
  have k1 : kindL S0 S1 j (listed.setIfInBounds j true) = S1 := by unfold kindL; rw [if_pos (by simp [hsz])]
  exact ⟨om, v, hm, by rw [k0, k1]; exact .inl ⟨hw, hy⟩, h _ rfl⟩
theorem AnyL.done {m : Nat} {listed : Array Bool} {a : Act} (hr : Region.ready md ops listed = []) (hl : listed.getD m true = true) (h : ∀ w, S1 w → Q .normal a w) : ∀ fuel, AnyL P md ops Q S0 S1 m fuel listed a
  | 0 => ⟨hr, fun w hw => h w (by rw [kindL, if_pos hl] at hw; exact hw)⟩
  | _ + 1 => ⟨fun _ w hw => h w (by rw [kindL, if_pos hl] at hw; exact hw), by rw [hr]; simp⟩
theorem region_stepsL {id m : Nat} {a : Act} {w : World} (hm : P.follows .mixedOrders = true) (hlt : decide (m < ops.size) = true) (hS : S0 w.drew)
    (h : AnyL P .any ops Q S0 S1 m ops.size (Array.replicate ops.size false) a) : (Code.region id ops true).wp P Q a w :=
  wp_region_any hm (AnyL.any _ _ _ h _ (by
    have hlt : m < ops.size := of_decide_eq_true hlt
    have : (Array.replicate ops.size false).getD m true = false := by simp [hlt]
    rw [kindL, this, if_neg (by decide)]; exact hS))
end
end Go.Proofs.YtjgokhhpfgnceaaDoor

/- Texts put together: Ru Rk Cd. -/
import Derived.Test.YtajlcaconnkodaaDoorPC
import Derived.Test.YtajlcaconnkodaaDoorRows
import Derived.Test.YtajlcaconnkodaaDoorPA
import Derived.WalkKit
import Derived.ProofKit
import Derived.OpenShut
import Derived.Carry
/- A region that draws its order, as Rv, where some last operations, each ready alone, do what they like (a store and what waits for it). Nothing of the program is used. -/
namespace Go.Proofs.YtajlcaconnkodaaDoor
open Go Go.RowKit

section
variable {P : Program} {ops : Array Oper} {Q : Exit → Act → World → Prop} {md : Region.Mode} {S : World → Prop} {U : Nat → List Value → Value → Prop} {V : Nat → Value → World → Prop}

def AnyRT (P : Program) (md : Region.Mode) (ops : Array Oper) (Q : Exit → Act → World → Prop) (S : World → Prop) (U : Nat → List Value → Value → Prop) (V : Nat → Value → World → Prop) (m r : Nat) : Nat → Array Bool → Act → Prop
  | 0, listed, a => Region.ready md ops listed = [m] ∧ ∀ w, S w → Facts ops V listed a w → wpAny P md ops Q r listed a w
  | fuel + 1, listed, a =>
    Region.ready md ops listed ≠ [] ∧ m ∉ Region.ready md ops listed ∧
    ∀ i ∈ Region.ready md ops listed, ∃ o, ops[i]? = some o ∧ (∃ v, U i (depVals md ops o a) v) ∧ StepsR P md ops S U V i o a ∧ ∀ v, U i (depVals md ops o a) v → AnyRT P md ops Q S U V m r fuel (listed.setIfInBounds i true) (a.put o.dst v)

theorem AnyRT.any {m r : Nat} (hS : ∀ w w', Below w.heap.size w w' → S w → S w') (hV : ∀ i v w w', Below w.heap.size w w' → V i v w → V i v w') :
    ∀ (fuel : Nat) (listed : Array Bool) (a : Act), fitB ops a.tmps.size = true → AnyRT P md ops Q S U V m r fuel listed a → ∀ w, S w → Facts ops V listed a w → wpAny P md ops Q (fuel + r) listed a w
  | 0, _, _, _, h, w, hs, hf => by rw [Nat.zero_add]; exact h.2 w hs hf
  | fuel + 1, listed, a, hfit, h, w, hs, hf => by
   rw [show fuel + 1 + r = (fuel + r) + 1 by omega]
   exact ⟨fun h0 => absurd h0 h.1, fun i hi => by
    obtain ⟨o, ho, _, hst, hr⟩ := h.2.2 i hi
    obtain ⟨hun, o', ho', hall⟩ := mem_ready.1 hi
    obtain rfl : o = o' := Option.some.inj (ho.symm.trans ho')
    have key : ∀ v w', U i (depVals md ops o a) v → V i v w' → Below w.heap.size w w' → wpAny P md ops Q (fuel + r) (listed.setIfInBounds i true) (a.put o.dst v) w' := by
      intro v w' hu hv hb
      refine AnyRT.any hS hV fuel _ _ (by rw [put_size]; exact hfit) (hr v hu) w' (hS _ _ hb hs) ?_
      intro j oj d hl hj hd
      by_cases hji : j = i
      · subst hji
        obtain rfl : o = oj := Option.some.inj (ho.symm.trans hj)
        rw [hd, put_getD_same _ _ _ (fitB_lt hfit ho hd)]
        exact hv
      · rw [getD_set_ne true (Ne.symm hji)] at hl
        rw [put_getD_ne _ _ _ _ (fun he => fitB_ne hfit hj ho hd he hji rfl)]
        exact hV _ _ _ _ hb (hf j oj d hl hj hd)
    unfold Go.wpOp
    simp only [ho]
    rcases hst with ⟨hw, hst⟩ | ⟨hw, hu, hv⟩
    · simp only [hw, if_true]
      refine .inl (hst w hs (fun e he hb oj d hj hd => hf e.on oj d ?_ hj hd) _ _ key)
      have h1 := hall e he hb
      rcases Nat.lt_or_ge e.on listed.size with h' | h'
      · simp [h'] at h1 ⊢; exact h1
      · simp [Array.getElem?_eq_none h']
    · simp only [hw, Bool.false_eq_true, if_false]
      exact key undef w hu (hv w) (Below.refl _ _)⟩

/-- Each one waits for the next one. -/
def chainOk (md : Region.Mode) (ops : Array Oper) : List Nat → Bool
  | a :: b :: r => waits md ops a b && chainOk md ops (b :: r)
  | _ => true
theorem waits_on {m i : Nat} {om : Oper} (hm : ops[m]? = some om) (hw : waits md ops m i = true) : ∃ e ∈ om.after, Region.binds md e = true ∧ e.on = i := by
  unfold waits at hw
  rw [hm] at hw
  simpa only [Option.map_some, Option.getD_some, Array.any_eq_true', Bool.and_eq_true, beq_iff_eq] using hw
theorem chain_next : ∀ (path : List Nat) (i p : Nat), chainOk md ops path = true → path.getLast? = some i → p ∈ path → p ≠ i → ∃ b ∈ path, waits md ops p b = true
  | [], _, _, _, _, h, _ => by simp at h
  | [a], i, p, _, hl, h, hne => by
    simp only [List.getLast?_singleton, Option.some.injEq] at hl
    simp only [List.mem_singleton] at h
    exact absurd (h.trans hl) hne
  | a :: b :: r, i, p, hc, hl, h, hne => by
    simp only [chainOk, Bool.and_eq_true] at hc
    rcases List.mem_cons.1 h with rfl | h
    · exact ⟨b, List.mem_cons_of_mem _ (List.mem_cons_self ..), hc.1⟩
    · obtain ⟨c, h1, h2⟩ := chain_next (b :: r) i p hc.2 (by simpa using hl) h hne
      exact ⟨c, List.mem_cons_of_mem _ h1, h2⟩
theorem not_ready {listed : Array Bool} {p b : Nat} (hw : waits md ops p b = true) (hun : listed.getD b true = false) : p ∉ Region.ready md ops listed := fun hr => by
  obtain ⟨_, o, ho, hall⟩ := mem_ready.1 hr
  obtain ⟨e, he, hb, rfl⟩ := waits_on ho hw
  have h1 := hall e he hb
  rcases Nat.lt_or_ge e.on listed.size with h' | h'
  · simp [h'] at hun h1; rw [hun] at h1; cases h1
  · simp [Array.getElem?_eq_none h'] at h1
theorem AnyRT.first {m i r : Nat} {oi : Oper} (hi : ops[i]? = some oi) (path : List Nat) (hc : chainOk md ops (m :: path) = true) (hlast : path.getLast? = some i) (hsel : ∀ (j : Nat) (o : Oper) cs b, ops[j]? = some o → o.op ≠ .select cs b) :
    ∀ (fuel : Nat) (listed : Array Bool) (a : Act), (∀ p ∈ path, listed.getD p true = false) → fitB ops a.tmps.size = true →
      (∀ j oj, ops[j]? = some oj → j ≠ i → listed.getD j true = false → (∀ e ∈ oj.after, Region.binds md e = true → e.on ≠ i) → oi.apart ops oj = true) →
      i ∈ Region.ready md ops listed → (∃ v, U i (depVals md ops oi a) v) → StepsR P md ops S U V i oi a →
      (∀ v, U i (depVals md ops oi a) v → AnyRT P md ops Q S U V m r fuel (listed.setIfInBounds i true) (a.put oi.dst v)) → AnyRT P md ops Q S U V m r (fuel + 1) listed a := by
  have hno : ∀ listed, (∀ p ∈ path, listed.getD p true = false) → m ∉ Region.ready md ops listed := fun listed hun => by
    cases path with
    | nil => simp at hlast
    | cons b rest =>
      simp only [chainOk, Bool.and_eq_true] at hc
      exact not_ready hc.1 (hun b (List.mem_cons_self ..))
  have hcp : chainOk md ops path = true := by
    cases path with
    | nil => rfl
    | cons b rest =>
      simp only [chainOk, Bool.and_eq_true] at hc
      exact hc.2
  intro fuel
  induction fuel with
  | zero =>
    intro listed a hun0 _ _ hr hU hy H
    refine ⟨fun h => (by rw [h] at hr; cases hr), hno listed hun0, fun j hj => ?_⟩
    by_cases hji : j = i
    · subst hji; exact ⟨oi, hi, hU, hy, H⟩
    · obtain ⟨v, hv⟩ := hU
      have := ready_mono hj hji
      rw [(H v hv).1] at this
      obtain rfl : j = m := by simpa using this
      exact absurd hj (hno listed hun0)
  | succ fuel ih =>
    intro listed a hun0 hfit hfree hr hU hy H
    refine ⟨fun h => (by rw [h] at hr; cases hr), hno listed hun0, fun j hj => ?_⟩
    by_cases hji : j = i
    · subst hji; exact ⟨oi, hi, hU, hy, H⟩
    · obtain ⟨v0, hv0⟩ := hU
      obtain ⟨oj, hoj, hUj, hyj, hrest⟩ := (H v0 hv0).2.2 j (ready_mono hj hji)
      obtain ⟨hjun, oj', hoj', hall⟩ := mem_ready.1 hj
      obtain rfl : oj = oj' := Option.some.inj (hoj.symm.trans hoj')
      have hnl : ∀ k, k ∈ Region.ready md ops listed → ∀ ok, ops[k]? = some ok → ∀ m, m ∈ Region.ready md ops listed → ∀ e ∈ ok.after, Region.binds md e = true → e.on ≠ m := by
        intro k hk ok hok m hm e he hb heq
        obtain ⟨_, o', ho', hall'⟩ := mem_ready.1 hk
        obtain rfl : ok = o' := Option.some.inj (hok.symm.trans ho')
        have h1 := hall' e he hb
        have h0 := (mem_ready.1 hm).1
        rw [heq] at h1
        rcases Nat.lt_or_ge m listed.size with h' | h'
        · simp [h'] at h0 h1; rw [h0] at h1; cases h1
        · simp [Array.getElem?_eq_none h'] at h1
      have hnot := hnl j hj oj hoj i hr
      have hnot' := hnl i hr oi hi j hj
      obtain ⟨h1, h2, h3⟩ := Oper.apart_spec (hfree j oj hoj hji hjun hnot)
      have ej : ∀ v, depVals md ops oj (a.put oi.dst v) = depVals md ops oj a := fun v => depVals_put hfit hi hnot
      have ei : ∀ u, depVals md ops oi (a.put oj.dst u) = depVals md ops oi a := fun u => depVals_put hfit hoj hnot'
      rw [ej] at hUj
      have hyj' : StepsR P md ops S U V j oj a := (StepsR.moved hfit hoj hi hji (fun cs b => hsel j oj cs b hoj) h1 hnot).2 hyj
      refine ⟨oj, hoj, hUj, hyj', fun u hu => ?_⟩
      refine ih _ _ ?hun1 (by rw [put_size]; exact hfit) ?_ (ready_mono hr (Ne.symm hji)) ⟨v0, by rw [ei]; exact hv0⟩ ?_ ?_
      case hun1 =>
        intro p hp
        by_cases hpj : j = p
        · subst hpj
          obtain ⟨b, hb1, hb2⟩ := chain_next path i j hcp hlast hp hji
          exact absurd hj (not_ready hb2 (hun0 b hb1))
        · rw [getD_set_ne true hpj]; exact hun0 p hp
      · intro k ok hk hki hun hno
        refine hfree k ok hk hki ?_ hno
        by_cases hjk : j = k
        · subst hjk; exact hjun
        · rw [getD_set_ne true hjk] at hun; exact hun
      · exact (StepsR.moved hfit hi hoj (Ne.symm hji) (fun cs b => hsel i oi cs b hi) h3 hnot').1 hy
      · intro v hv
        rw [ei] at hv
        rw [Array.setIfInBounds_comm _ _ hji, ← Act.put_comm a v u h2]
        obtain ⟨oj', hoj', _, _, hrest'⟩ := (H v hv).2.2 j (ready_mono hj hji)
        obtain rfl : oj = oj' := Option.some.inj (hoj.symm.trans hoj')
        exact hrest' u (by rw [ej]; exact hu)

theorem AnyRT.step {m i r : Nat} {d : Option Tmp} {oi : Oper} {fuel : Nat} {listed : Array Bool} {a : Act} (path : List Nat) (hi : ops[i]? = some oi) (hd : oi.dst = d) (hfit : fitB ops a.tmps.size = true) (hc : (chainOk md ops (m :: path) && (path.getLast? == some i) && path.all fun p => !listed.getD p true) = true)
    (hs : Region.noSelect ops = true) (hf : Region.free md ops listed i = true) (hr : (Region.ready md ops listed).contains i = true)
    (hU : ∃ v, U i (depVals md ops oi a) v) (hy : StepsR P md ops S U V i oi a)
    (h : ∀ v, U i (depVals md ops oi a) v → ∀ a', a.put d v = a' → AnyRT P md ops Q S U V m r fuel (listed.setIfInBounds i true) a') : AnyRT P md ops Q S U V m r (fuel + 1) listed a := by
  simp only [Bool.and_eq_true, beq_iff_eq, List.all_eq_true, Bool.not_eq_true'] at hc
  exact AnyRT.first hi path hc.1.1 hc.1.2 (Region.noSelect_spec hs) fuel listed a hc.2 hfit (Region.free_spec hi hf) (by simpa using hr) hU hy (fun v hv => h v hv _ (by rw [hd]))
theorem AnyRT.last {m r : Nat} {listed : Array Bool} {a : Act} (hr : Region.ready md ops listed = [m]) (h : ∀ w, S w → Facts ops V listed a w → wpAny P md ops Q r listed a w) : AnyRT P md ops Q S U V m r 0 listed a := ⟨hr, h⟩
/-- One operation that alone is ready, and the rest. -/
theorem wpAny_one {i r : Nat} {listed : Array Bool} {a : Act} {w : World} {o : Oper} (hr : Region.ready md ops listed = [i]) (ho : ops[i]? = some o) (hw : Region.wanted o (yielded ops a.tmps) = true)
    (h : o.wp P a w (fun a' w' => wpAny P md ops Q r (listed.setIfInBounds i true) a' w') Q) : wpAny P md ops Q (r + 1) listed a w :=
  ⟨fun h0 => (by rw [hr] at h0; cases h0), fun j hj => by
    rw [hr] at hj
    obtain rfl : j = i := by simpa using hj
    unfold Go.wpOp
    simp only [ho, hw, if_true]
    exact .inl h⟩
theorem wpAny_none {listed : Array Bool} {a : Act} {w : World} (hr : Region.ready md ops listed = []) (h : Q .normal a w) : wpAny P md ops Q 0 listed a w := ⟨hr, h⟩
theorem region_stepsRT {id m n r : Nat} {a : Act} {w : World} (hn : ops.size = n + r) (hm : P.follows .mixedOrders = true) (hS : ∀ w w', Below w.heap.size w w' → S w → S w') (hV : ∀ i v w w', Below w.heap.size w w' → V i v w → V i v w') (hfit : fitB ops a.tmps.size = true) (h0 : S w.drew)
    (h : AnyRT P .any ops Q S U V m r n (Array.replicate ops.size false) a) : (Code.region id ops true).wp P Q a w :=
  wp_region_any hm (by
    have := AnyRT.any hS hV _ _ _ hfit h w.drew h0 (fun j oj d hl hj _ => by
      have hlt := (Array.getElem?_eq_some_iff.1 hj).1
      simp [Array.getD, hlt] at hl)
    rw [hn] at this ⊢
    exact this)
end
end Go.Proofs.YtajlcaconnkodaaDoor

/- As Rw, where the one in the middle waits for the others by a chain. Nothing of the program is used. -/
namespace Go.Proofs.YtajlcaconnkodaaDoor
open Go Go.RowKit

section
variable {P : Program} {ops : Array Oper} {Q : Exit → Act → World → Prop} {md : Region.Mode} {S : World → Prop}

theorem AnyT.firstC {m i : Nat} {R : Array Bool → Act → Prop} {oi : Oper} {v : Value} (hi : ops[i]? = some oi) (path : List Nat) (hc : chainOk md ops (m :: path) = true) (hlast : path.getLast? = some i) (hsel : ∀ (j : Nat) (o : Oper) cs b, ops[j]? = some o → o.op ≠ .select cs b) :
    ∀ (fuel : Nat) (listed : Array Bool) (a : Act), (∀ p ∈ path, listed.getD p true = false) →
      (∀ j oj, ops[j]? = some oj → j ≠ i → listed.getD j true = false → (∀ e ∈ oj.after, Region.binds md e = true → e.on ≠ i) → oi.apart ops oj = true) →
      i ∈ Region.ready md ops listed → StepsIf P ops S oi v a →
      AnyT P md ops S m R fuel (listed.setIfInBounds i true) (a.put oi.dst v) → AnyT P md ops S m R (fuel + 1) listed a := by
  have hno : ∀ listed, (∀ p ∈ path, listed.getD p true = false) → m ∉ Region.ready md ops listed := fun listed hun => by
    cases path with
    | nil => simp at hlast
    | cons b rest =>
      simp only [chainOk, Bool.and_eq_true] at hc
      exact not_ready hc.1 (hun b (List.mem_cons_self ..))
  have hcp : chainOk md ops path = true := by
    cases path with
    | nil => rfl
    | cons b rest =>
      simp only [chainOk, Bool.and_eq_true] at hc
      exact hc.2
  intro fuel
  induction fuel with
  | zero =>
    intro listed a hun0 _ hr hy H
    refine ⟨fun h => (by rw [h] at hr; cases hr), hno listed hun0, fun j hj => ?_⟩
    by_cases hji : j = i
    · subst hji; exact ⟨oi, v, hi, hy, H⟩
    · have := ready_mono hj hji
      rw [H.1] at this
      obtain rfl : j = m := by simpa using this
      exact absurd hj (hno listed hun0)
  | succ fuel ih =>
    intro listed a hun0 hfree hr hy H
    refine ⟨fun h => (by rw [h] at hr; cases hr), hno listed hun0, fun j hj => ?_⟩
    by_cases hji : j = i
    · subst hji; exact ⟨oi, v, hi, hy, H⟩
    · obtain ⟨oj, u, hoj, hyj, hrest⟩ := H.2.2 j (ready_mono hj hji)
      obtain ⟨hjun, oj', hoj', hall⟩ := mem_ready.1 hj
      obtain rfl : oj = oj' := Option.some.inj (hoj.symm.trans hoj')
      have hnot : ∀ e ∈ oj.after, Region.binds md e = true → e.on ≠ i := fun e he hb heq => by
        have h1 := hall e he hb
        have h0 := (mem_ready.1 hr).1
        rw [heq] at h1
        rcases Nat.lt_or_ge i listed.size with h' | h'
        · simp [h'] at h0 h1; rw [h0] at h1; cases h1
        · simp [Array.getElem?_eq_none h'] at h1
      obtain ⟨h1, h2, h3⟩ := Oper.apart_spec (hfree j oj hoj hji hjun hnot)
      refine ⟨oj, u, hoj, StepsIf.unput (fun cs b => hsel j oj cs b hoj) h1 hyj, ih _ _ ?hun1 ?_ (ready_mono hr (Ne.symm hji)) (hy.put (fun cs b => hsel i oi cs b hi) h3 (fun d hd => fun e => h2 d hd e)) ?_⟩
      case hun1 =>
        intro p hp
        by_cases hpj : j = p
        · subst hpj
          obtain ⟨b, hb1, hb2⟩ := chain_next path i j hcp hlast hp hji
          exact absurd hj (not_ready hb2 (hun0 b hb1))
        · rw [getD_set_ne true hpj]; exact hun0 p hp
      · intro k ok hk hki hun hno
        refine hfree k ok hk hki ?_ hno
        by_cases hjk : j = k
        · subst hjk; exact hjun
        · rw [getD_set_ne true hjk] at hun; exact hun
      · rw [Array.setIfInBounds_comm _ _ hji, ← Act.put_comm a v u h2]
        exact hrest
theorem AnyT.nextC {m i : Nat} {R : Array Bool → Act → Prop} {d : Option Tmp} {oi : Oper} {v : Value} {fuel : Nat} {listed : Array Bool} {a : Act} (path : List Nat) (hi : ops[i]? = some oi) (hd : oi.dst = d) (hc : (chainOk md ops (m :: path) && (path.getLast? == some i) && path.all fun p => !listed.getD p true) = true)
    (hs : Region.noSelect ops = true) (hf : Region.free md ops listed i = true) (hr : (Region.ready md ops listed).contains i = true) (hy : StepsIf P ops S oi v a)
    (h : ∀ a', a.put d v = a' → AnyT P md ops S m R fuel (listed.setIfInBounds i true) a') : AnyT P md ops S m R (fuel + 1) listed a := by
  simp only [Bool.and_eq_true, beq_iff_eq, List.all_eq_true, Bool.not_eq_true'] at hc
  exact AnyT.firstC hi path hc.1.1 hc.1.2 (Region.noSelect_spec hs) fuel listed a hc.2 (Region.free_spec hi hf) (by simpa using hr) hy (h _ (by rw [hd]))
theorem AnyT.endC {m k : Nat} {listed : Array Bool} {a : Act} (hr : Region.ready md ops listed = [m]) (h : ∀ w, S w → wpAny P md ops Q (k + 1) listed a w) : AnyT P md ops S m (fun l a => ∀ w, S w → wpAny P md ops Q (k + 1) l a w) 0 listed a := ⟨hr, h⟩
theorem wp_callV {P : Program} {o : Oper} {a : Act} {w : World} {f : FuncId} {args : Array Value} {R : Value → World → Prop} {K : Act → World → Prop} {Q : Exit → Act → World → Prop} (h : (execOp a.eval o).run P w = .ok (.enter f args) w)
    (hc : Calls P f args w fun e w' => ∃ v, e = .returned v ∧ R v w') (hK : ∀ v w', R v w' → K (a.put o.dst v) w') : o.wp P a w K Q := by
  unfold Oper.wp
  rw [h]
  refine Calls.mono hc fun e w' he => ?_
  obtain ⟨v, rfl, hR⟩ := he
  exact hK v w' hR
end
end Go.Proofs.YtajlcaconnkodaaDoor

/- What every law's row wants: its arguments opened; that they read behind the call as they did before; the law's answer. -/
namespace Go.Proofs.YtajlcaconnkodaaDoor
open Go.ChangeShapes Go.WideShapes Go.ChangeAt Go.RowKit BS

section
variable {H : Type} {enc : TypeId × Value → H} {P : Program}

theorem okWide_array {w : World} {r : Reach} {base : Nat} {t e : TypeId} {n : Nat} {v : Value} (ht : P.underlying t = some (.array n e)) (h : Value.okWide P w r base t v) : ∃ cs, v = .agg cs ∧ cs.size = P.cellsOf t := by
  simp only [Value.okWide, ht] at h
  obtain ⟨cs, h1, h2, _⟩ := h
  exact ⟨cs, h1, h2⟩

/-- A set, given by value: four words. -/
theorem open_set {w : World} {r : Reach} {base b0 : Nat} {spare : Nat → Bool} {held : Bool} {t e : TypeId} {v : Value} {d : DataW H} {p : List MemPlace} (ht : P.underlying t = some (.array 4 e)) (he : P.underlying e = some (.int .u64)) (hce : P.cellsOf e = 1) (hct : P.cellsOf t = 4)
    (hv : Value.okWide P w r b0 t v) (h : DataW.Trod enc P w base spare held t v d p) : ∃ s : BitVec 256, v = setV s := by
  obtain ⟨cs, rfl, hsz⟩ := okWide_array ht hv
  obtain ⟨fuel, hf⟩ := h
  obtain ⟨xs, m, _, _, _, hl, hk⟩ := DataW.trod_array ht hf
  rw [hct] at hsz
  obtain ⟨a, b, c, d', rfl⟩ : ∃ a b c d, cs = #[a, b, c, d] := by
    obtain ⟨l⟩ := cs
    match l, hsz with
    | [a, b, c, d], _ => exact ⟨a, b, c, d, rfl⟩
  have key : ∀ i (u : Value), i < 4 → #[a, b, c, d'][i]? = some u → ∃ n : Int, u = .int .u64 n ∧ 0 ≤ n ∧ n < 18446744073709551616 := by
    intro i u hi hu
    have h1 := hk i hi
    rw [hce, Nat.mul_one] at h1
    have hx : i < xs.length := by omega
    rw [List.getElem?_eq_getElem hx] at h1
    obtain ⟨n, hn, _, hw⟩ := DataW.trod_int he h1
    refine ⟨n, ?_, ?_⟩
    · have := congrArg (fun l => l[0]?) hn
      simp only [Value.cells, List.getElem?_take, List.getElem?_drop] at this
      simp at this hu
      rw [hu] at this
      simpa using this
    · have : (Lit.int .u64 n).wf = true := hw
      have h2 : 0 ≤ n ∧ n ≤ 18446744073709551615 := by simpa [Lit.wf, IntKind.min, IntKind.max, IntKind.signed, IntKind.bits] using this
      exact ⟨h2.1, by omega⟩
  obtain ⟨na, rfl, ha0, ha1⟩ := key 0 a (by decide) rfl
  obtain ⟨nb, rfl, hb0, hb1⟩ := key 1 b (by decide) rfl
  obtain ⟨nc, rfl, hc0, hc1⟩ := key 2 c (by decide) rfl
  obtain ⟨nd, rfl, hd0, hd1⟩ := key 3 d' (by decide) rfl
  obtain ⟨s, h0, h1, h2, h3⟩ := of_words na nb nc nd ⟨ha0, ha1⟩ ⟨hb0, hb1⟩ ⟨hc0, hc1⟩ ⟨hd0, hd1⟩
  exact ⟨s, by rw [h0, h1, h2, h3]⟩

/-- Arguments read behind a call as they did before, where nothing that was there has changed. -/
theorem trodAll_stays (hl : laidOutB P = true) {W W' : World} (hb : Below W.heap.size W W') : ∀ (ts : List TypeId) (vs : List Value) (ds : List (DataW H)) (ps : List MemPlace), (∀ t ∈ ts, P.readableRec t = true ∧ t < P.types.size) →
    DataW.TrodAll enc P W 0 (fun _ => true) true ts vs ds ps → (∀ x ∈ ps, x.block < W.heap.size) → DataW.TrodAll enc P W' 0 (fun b => decide (b < W.heap.size)) true ts vs ds ps
  | [], vs, ds, ps, _, h, _ => by
    obtain ⟨rfl, rfl, rfl⟩ := trodAll_nil h
    exact trodAll_mk0
  | t :: ts, vs, ds, ps, ht, h, hlt => by
    obtain ⟨v, vs', d, ds', p, q, rfl, rfl, rfl, h1, h2⟩ := trodAll_cons h
    exact trodAll_cons_mk (Below.trod hl (ht t (by simp)).1 (ht t (by simp)).2 h1 hb (fun x hx => hlt x (List.mem_append_left _ hx)))
      (trodAll_stays hl hb ts vs' ds' q (fun t h => ht t (List.mem_cons_of_mem _ h)) h2 (fun x hx => hlt x (List.mem_append_right _ hx)))

/-- A law's answer: true, and its arguments read as they did. -/
theorem law_post {f : Func} {s : ChangeSpec} {W W' : World} {args : Array Value} {ds gs : List (DataW H)} {before : List MemPlace} {tb : TypeId} (hl : laidOutB P = true) (htb : P.underlying tb = some .bool)
    (hvars : s.vars = []) (hres : f.resultTypes = #[tb]) (hts : ∀ t ∈ f.params.toList, P.readableRec t = true ∧ t < P.types.size)
    (hfn : s.fn H (ds ++ []) = { results := [.lit (.bool true)], args := ds })
    (hW : DataW.Whole enc P f.params.toList s.vars false W args.toList ds gs before) (hb : Below W.heap.size W W') :
    s.post enc P f false true false false W args (.bool true) W' := by
  have hW' := hW
  obtain ⟨p, q, hA, hV, rfl, hfz, hnd⟩ := hW
  rw [hvars] at hV
  obtain ⟨rfl, rfl⟩ := trodVars_none hV
  have hlt := hW'.lt
  simp only [List.append_nil] at hlt
  refine ⟨ds, [], _, [], p, [], hW', ?_, ?_, ?_, hb.frame _, fun h => by cases h⟩
  · rw [hfn, hres]; exact trodAll_cons_mk (shut_bool htb true) trodAll_mk0
  · rw [hfn]; exact trodAll_stays hl hb _ _ _ _ hts hA hlt
  · rw [hfn, hvars]; rfl
end
end Go.Proofs.YtajlcaconnkodaaDoor

/- Texts put together: Trp Cd. -/
import Derived.Test.YtdpkhliojbeglaaDoorQC
import Derived.Test.YtdpkhliojbeglaaDoorRows
import Derived.Test.YtdpkhliojbeglaaDoorQA
import Derived.WalkKit
import Derived.ProofKit
import Derived.OpenShut
import Derived.Carry
/- As Rt, where the last one, alone when it comes up, waits for all others by a chain. Nothing of the program is used. -/
namespace Go.Proofs.YtdpkhliojbeglaaDoor
open Go Go.RowKit

section
variable {P : Program} {ops : Array Oper} {Q : Exit → Act → World → Prop} {md : Region.Mode} {S : Nat → World → Prop} {cs : List Nat}

def AnyD (P : Program) (md : Region.Mode) (ops : Array Oper) (S : Nat → World → Prop) (cs : List Nat) (m : Nat) (R : Array Bool → Act → Prop) : Nat → Array Bool → Act → Prop
  | 0, listed, a => Region.ready md ops listed = [m] ∧ R listed a
  | fuel + 1, listed, a =>
    Region.ready md ops listed ≠ [] ∧ m ∉ Region.ready md ops listed ∧
    ∀ i ∈ Region.ready md ops listed, ∃ o v, ops[i]? = some o ∧ StepsL P ops (S (levC cs listed)) (S (levC cs (listed.setIfInBounds i true))) o v a ∧ AnyD P md ops S cs m R fuel (listed.setIfInBounds i true) (a.put o.dst v)

theorem AnyD.any {m k : Nat} {R : Array Bool → Act → Prop} (hR : ∀ l a, R l a → ∀ w, S (levC cs l) w → wpAny P md ops Q k l a w) :
    ∀ (fuel : Nat) (listed : Array Bool) (a : Act), AnyD P md ops S cs m R fuel listed a → ∀ w, S (levC cs listed) w → wpAny P md ops Q (k + fuel) listed a w
  | 0, _, _, h, w, hS => hR _ _ h.2 w hS
  | fuel + 1, listed, a, h, w, hS => ⟨fun h0 => absurd h0 h.1, fun i hi => by
    obtain ⟨o, v, ho, hy, hr⟩ := h.2.2 i hi
    exact hy.wpOp ho hS fun w' hS' => AnyD.any hR fuel _ _ hr w' hS'⟩

theorem AnyD.firstC {m i : Nat} {R : Array Bool → Act → Prop} {oi : Oper} {v : Value} (hic : i ∉ cs) (hi : ops[i]? = some oi) (path : List Nat) (hc : chainOk md ops (m :: path) = true) (hlast : path.getLast? = some i) (hsel : ∀ (j : Nat) (o : Oper) cs b, ops[j]? = some o → o.op ≠ .select cs b) :
    ∀ (fuel : Nat) (listed : Array Bool) (a : Act), (∀ p ∈ path, listed.getD p true = false) →
      (∀ j oj, ops[j]? = some oj → j ≠ i → listed.getD j true = false → (∀ e ∈ oj.after, Region.binds md e = true → e.on ≠ i) → oi.apart ops oj = true) →
      i ∈ Region.ready md ops listed → (∀ k, StepsIf P ops (S k) oi v a) →
      AnyD P md ops S cs m R fuel (listed.setIfInBounds i true) (a.put oi.dst v) → AnyD P md ops S cs m R (fuel + 1) listed a := by
  have hno : ∀ listed, (∀ p ∈ path, listed.getD p true = false) → m ∉ Region.ready md ops listed := fun listed hun => by
    cases path with
    | nil => simp at hlast
    | cons b rest =>
      simp only [chainOk, Bool.and_eq_true] at hc
      exact not_ready hc.1 (hun b (List.mem_cons_self ..))
  have hcp : chainOk md ops path = true := by
    cases path with
    | nil => rfl
    | cons b rest =>
      simp only [chainOk, Bool.and_eq_true] at hc
      exact hc.2
  intro fuel
  induction fuel with
  | zero =>
    intro listed a hun0 _ hr hy H
    refine ⟨fun h => (by rw [h] at hr; cases hr), hno listed hun0, fun j hj => ?_⟩
    by_cases hji : j = i
    · subst hji; exact ⟨oi, v, hi, by rw [levC_set hic]; exact (hy _).toL, H⟩
    · have := ready_mono hj hji
      rw [H.1] at this
      obtain rfl : j = m := by simpa using this
      exact absurd hj (hno listed hun0)
  | succ fuel ih =>
    intro listed a hun0 hfree hr hy H
    refine ⟨fun h => (by rw [h] at hr; cases hr), hno listed hun0, fun j hj => ?_⟩
    by_cases hji : j = i
    · subst hji; exact ⟨oi, v, hi, by rw [levC_set hic]; exact (hy _).toL, H⟩
    · obtain ⟨oj, u, hoj, hyj, hrest⟩ := H.2.2 j (ready_mono hj hji)
      obtain ⟨hjun, oj', hoj', hall⟩ := mem_ready.1 hj
      obtain rfl : oj = oj' := Option.some.inj (hoj.symm.trans hoj')
      have hnot : ∀ e ∈ oj.after, Region.binds md e = true → e.on ≠ i := fun e he hb heq => by
        have h1 := hall e he hb
        have h0 := (mem_ready.1 hr).1
        rw [heq] at h1
        rcases Nat.lt_or_ge i listed.size with h' | h'
        · simp [h'] at h0 h1; rw [h0] at h1; cases h1
        · simp [Array.getElem?_eq_none h'] at h1
      obtain ⟨h1, h2, h3⟩ := Oper.apart_spec (hfree j oj hoj hji hjun hnot)
      rw [levC_set hic, Array.setIfInBounds_comm _ _ (Ne.symm hji), levC_set hic] at hyj
      refine ⟨oj, u, hoj, StepsL.unput (fun cs b => hsel j oj cs b hoj) h1 hyj, ih _ _ ?hun1 ?_ (ready_mono hr (Ne.symm hji)) (fun k => (hy k).put (fun cs b => hsel i oi cs b hi) h3 (fun d hd => fun e => h2 d hd e)) ?_⟩
      case hun1 =>
        intro p hp
        by_cases hpj : j = p
        · subst hpj
          obtain ⟨b, hb1, hb2⟩ := chain_next path i j hcp hlast hp hji
          exact absurd hj (not_ready hb2 (hun0 b hb1))
        · rw [getD_set_ne true hpj]; exact hun0 p hp
      · intro k ok hk hki hun hno
        refine hfree k ok hk hki ?_ hno
        by_cases hjk : j = k
        · subst hjk; exact hjun
        · rw [getD_set_ne true hjk] at hun; exact hun
      · rw [Array.setIfInBounds_comm _ _ hji, ← Act.put_comm a v u h2]
        exact hrest
/-- Take number i, which reads. -/
theorem AnyD.next {m i : Nat} {R : Array Bool → Act → Prop} {d : Option Tmp} {oi : Oper} {v : Value} {fuel : Nat} {listed : Array Bool} {a : Act} (path : List Nat) (hi : ops[i]? = some oi) (hd : oi.dst = d) (hic : (!cs.contains i) = true) (hc : (chainOk md ops (m :: path) && (path.getLast? == some i) && path.all fun p => !listed.getD p true) = true)
    (hs : Region.noSelect ops = true) (hf : Region.free md ops listed i = true) (hr : (Region.ready md ops listed).contains i = true) (hy : ∀ k, StepsIf P ops (S k) oi v a)
    (h : ∀ a', a.put d v = a' → AnyD P md ops S cs m R fuel (listed.setIfInBounds i true) a') : AnyD P md ops S cs m R (fuel + 1) listed a := by
  simp only [Bool.and_eq_true, beq_iff_eq, List.all_eq_true, Bool.not_eq_true'] at hc
  exact AnyD.firstC (by simpa using hic) hi path hc.1.1 hc.1.2 (Region.noSelect_spec hs) fuel listed a hc.2 (Region.free_spec hi hf) (by simpa using hr) hy (h _ (by rw [hd]))
theorem AnyD.stepE {m i : Nat} {R : Array Bool → Act → Prop} {d : Option Tmp} {oi : Oper} {fuel : Nat} {listed : Array Bool} {a : Act} (path : List Nat) (hi : ops[i]? = some oi) (hd : oi.dst = d) (hic : (!cs.contains i) = true) (hc : (chainOk md ops (m :: path) && (path.getLast? == some i) && path.all fun p => !listed.getD p true) = true)
    (hs : Region.noSelect ops = true) (hf : Region.free md ops listed i = true) (hr : (Region.ready md ops listed).contains i = true)
    (h : ∃ v, (∀ k, StepsIf P ops (S k) oi v a) ∧ ∀ a', a.put d v = a' → AnyD P md ops S cs m R fuel (listed.setIfInBounds i true) a') : AnyD P md ops S cs m R (fuel + 1) listed a := by
  obtain ⟨v, hy, h⟩ := h
  exact AnyD.next path hi hd hic hc hs hf hr hy h
/-- Take the next one of cs, which alone is ready. -/
theorem AnyD.turn {m i k : Nat} {R : Array Bool → Act → Prop} {d : Option Tmp} {oi : Oper} {v : Value} {fuel : Nat} {listed : Array Bool} {a : Act} (hi : ops[i]? = some oi) (hd : oi.dst = d) (hmi : (m != i) = true)
    (hr : Region.ready md ops listed = [i]) (hl : (levC cs listed == k && levC cs (listed.setIfInBounds i true) == k + 1) = true) (hy : StepsL P ops (S k) (S (k + 1)) oi v a)
    (h : ∀ a', a.put d v = a' → AnyD P md ops S cs m R fuel (listed.setIfInBounds i true) a') : AnyD P md ops S cs m R (fuel + 1) listed a := by
  rw [Bool.and_eq_true, beq_iff_eq, beq_iff_eq] at hl
  refine ⟨fun h0 => (by rw [hr] at h0; cases h0), fun hm => ?_, fun j hj => ?_⟩
  · rw [hr] at hm
    rw [bne_iff_ne] at hmi
    exact hmi (by simpa using hm)
  rw [hr] at hj
  obtain rfl : j = i := by simpa using hj
  exact ⟨oi, v, hi, by rw [hl.1, hl.2]; exact hy, h _ (by rw [hd])⟩
theorem AnyD.endC {m k n : Nat} {listed : Array Bool} {a : Act} (hr : Region.ready md ops listed = [m]) (hl : (levC cs listed == n) = true) (h : ∀ w, S n w → wpAny P md ops Q (k + 1) listed a w) : AnyD P md ops S cs m (fun l a => ∀ w, S (levC cs l) w → wpAny P md ops Q (k + 1) l a w) 0 listed a := by
  rw [beq_iff_eq] at hl
  refine ⟨hr, ?_⟩
  show ∀ w, S (levC cs listed) w → _
  rw [hl]
  exact h
theorem region_stepsD {id m k n : Nat} {a : Act} {w : World} (cs : List Nat) (hn : ops.size = k + 1 + n) (hm : P.follows .mixedOrders = true) (hlt : (levC cs (Array.replicate ops.size false) == 0) = true) (hS : S 0 w.drew)
    (h : AnyD P .any ops S cs m (fun l a => ∀ w, S (levC cs l) w → wpAny P .any ops Q (k + 1) l a w) n (Array.replicate ops.size false) a) : (Code.region id ops true).wp P Q a w :=
  wp_region_any hm (by
    rw [beq_iff_eq] at hlt
    have h2 := AnyD.any (Q := Q) (k := k + 1) (fun _ _ h => h) _ _ _ h w.drew (by rw [hlt]; exact hS)
    rw [hn] at h2 ⊢
    exact h2)
end
end Go.Proofs.YtdpkhliojbeglaaDoor

/- What every law's row wants: its arguments opened; that they read behind the call as they did before; the law's answer. -/
namespace Go.Proofs.YtdpkhliojbeglaaDoor
open Go.ChangeShapes Go.WideShapes Go.ChangeAt Go.RowKit BS

section
variable {H : Type} {enc : TypeId × Value → H} {P : Program}

theorem okWide_array {w : World} {r : Reach} {base : Nat} {t e : TypeId} {n : Nat} {v : Value} (ht : P.underlying t = some (.array n e)) (h : Value.okWide P w r base t v) : ∃ cs, v = .agg cs ∧ cs.size = P.cellsOf t := by
  simp only [Value.okWide, ht] at h
  obtain ⟨cs, h1, h2, _⟩ := h
  exact ⟨cs, h1, h2⟩

/-- A set, given by value: four words. -/
theorem open_set {w : World} {r : Reach} {base b0 : Nat} {spare : Nat → Bool} {held : Bool} {t e : TypeId} {v : Value} {d : DataW H} {p : List MemPlace} (ht : P.underlying t = some (.array 4 e)) (he : P.underlying e = some (.int .u64)) (hce : P.cellsOf e = 1) (hct : P.cellsOf t = 4)
    (hv : Value.okWide P w r b0 t v) (h : DataW.Trod enc P w base spare held t v d p) : ∃ s : BitVec 256, v = setV s := by
  obtain ⟨cs, rfl, hsz⟩ := okWide_array ht hv
  obtain ⟨fuel, hf⟩ := h
  obtain ⟨xs, m, _, _, _, hl, hk⟩ := DataW.trod_array ht hf
  rw [hct] at hsz
  obtain ⟨a, b, c, d', rfl⟩ : ∃ a b c d, cs = #[a, b, c, d] := by
    obtain ⟨l⟩ := cs
    match l, hsz with
    | [a, b, c, d], _ => exact ⟨a, b, c, d, rfl⟩
  have key : ∀ i (u : Value), i < 4 → #[a, b, c, d'][i]? = some u → ∃ n : Int, u = .int .u64 n ∧ 0 ≤ n ∧ n < 18446744073709551616 := by
    intro i u hi hu
    have h1 := hk i hi
    rw [hce, Nat.mul_one] at h1
    have hx : i < xs.length := by omega
    rw [List.getElem?_eq_getElem hx] at h1
    obtain ⟨n, hn, _, hw⟩ := DataW.trod_int he h1
    refine ⟨n, ?_, ?_⟩
    · have := congrArg (fun l => l[0]?) hn
      simp only [Value.cells, List.getElem?_take, List.getElem?_drop] at this
      simp at this hu
      rw [hu] at this
      simpa using this
    · have : (Lit.int .u64 n).wf = true := hw
      have h2 : 0 ≤ n ∧ n ≤ 18446744073709551615 := by simpa [Lit.wf, IntKind.min, IntKind.max, IntKind.signed, IntKind.bits] using this
      exact ⟨h2.1, by omega⟩
  obtain ⟨na, rfl, ha0, ha1⟩ := key 0 a (by decide) rfl
  obtain ⟨nb, rfl, hb0, hb1⟩ := key 1 b (by decide) rfl
  obtain ⟨nc, rfl, hc0, hc1⟩ := key 2 c (by decide) rfl
  obtain ⟨nd, rfl, hd0, hd1⟩ := key 3 d' (by decide) rfl
  obtain ⟨s, h0, h1, h2, h3⟩ := of_words na nb nc nd ⟨ha0, ha1⟩ ⟨hb0, hb1⟩ ⟨hc0, hc1⟩ ⟨hd0, hd1⟩
  exact ⟨s, by rw [h0, h1, h2, h3]⟩

/-- Arguments read behind a call as they did before, where nothing that was there has changed. -/
theorem trodAll_stays (hl : laidOutB P = true) {W W' : World} (hb : Below W.heap.size W W') : ∀ (ts : List TypeId) (vs : List Value) (ds : List (DataW H)) (ps : List MemPlace), (∀ t ∈ ts, P.readableRec t = true ∧ t < P.types.size) →
    DataW.TrodAll enc P W 0 (fun _ => true) true ts vs ds ps → (∀ x ∈ ps, x.block < W.heap.size) → DataW.TrodAll enc P W' 0 (fun b => decide (b < W.heap.size)) true ts vs ds ps
  | [], vs, ds, ps, _, h, _ => by
    obtain ⟨rfl, rfl, rfl⟩ := trodAll_nil h
    exact trodAll_mk0
  | t :: ts, vs, ds, ps, ht, h, hlt => by
    obtain ⟨v, vs', d, ds', p, q, rfl, rfl, rfl, h1, h2⟩ := trodAll_cons h
    exact trodAll_cons_mk (Below.trod hl (ht t (by simp)).1 (ht t (by simp)).2 h1 hb (fun x hx => hlt x (List.mem_append_left _ hx)))
      (trodAll_stays hl hb ts vs' ds' q (fun t h => ht t (List.mem_cons_of_mem _ h)) h2 (fun x hx => hlt x (List.mem_append_right _ hx)))

/-- A law's answer: true, and its arguments read as they did. -/
theorem law_post {f : Func} {s : ChangeSpec} {W W' : World} {args : Array Value} {ds gs : List (DataW H)} {before : List MemPlace} {tb : TypeId} (hl : laidOutB P = true) (htb : P.underlying tb = some .bool)
    (hvars : s.vars = []) (hres : f.resultTypes = #[tb]) (hts : ∀ t ∈ f.params.toList, P.readableRec t = true ∧ t < P.types.size)
    (hfn : s.fn H (ds ++ []) = { results := [.lit (.bool true)], args := ds })
    (hW : DataW.Whole enc P f.params.toList s.vars false W args.toList ds gs before) (hb : Below W.heap.size W W') :
    s.post enc P f false true false false W args (.bool true) W' := by
  have hW' := hW
  obtain ⟨p, q, hA, hV, rfl, hfz, hnd⟩ := hW
  rw [hvars] at hV
  obtain ⟨rfl, rfl⟩ := trodVars_none hV
  have hlt := hW'.lt
  simp only [List.append_nil] at hlt
  refine ⟨ds, [], _, [], p, [], hW', ?_, ?_, ?_, hb.frame _, fun h => by cases h⟩
  · rw [hfn, hres]; exact trodAll_cons_mk (shut_bool htb true) trodAll_mk0
  · rw [hfn]; exact trodAll_stays hl hb _ _ _ _ hts hA hlt
  · rw [hfn, hvars]; rfl
end
end Go.Proofs.YtdpkhliojbeglaaDoor

/- Texts put together: Tud. -/
import Derived.RangeFuncNested
import Derived.RangeFuncCalls
/- A range over a function that hands out a list known beforehand, where the body may write what the iterator reads: the invariant counts the rounds, and tells the iterator what it reads next; by itself, and within a round of another one. Nothing of the program is used. -/
namespace Go.Proofs.YtdpkhliojbeglaaDoor
open Go Go.RowKit

section
variable {F : Fence} {n : Nat} {P : Program}
theorem grown_of_below {W W' : World} (h : Below W.heap.size W W') : W.grownBy W' none := ⟨h.os, h.tape, h.output, h.size, fun i hi _ => h.block i hi⟩
/-- What the statement has laid: its record, and, if it stands by itself, the block for deferred calls, which is empty. -/
def Laid (dd : Bool) (l : Nat) (r : Loop) (W : World) : Prop := W.heap[l]? = some (.loop r) ∧ (dd = true → r.defers < l ∧ W.heap[r.defers]? = some (.deferred (some [])))
theorem Laid.turn {dd : Bool} {l : Nat} {r : Loop} {W : World} (h : Laid dd l r W) (r' : Loop) (hd : r'.defers = r.defers) : Laid dd l r' (W.putObj l (.loop r')) := by
  obtain ⟨h2, h3⟩ := h
  refine ⟨World.putObj_heap_same (Array.getElem?_eq_some_iff.1 h2).1, fun h => ?_⟩
  obtain ⟨h4, h5⟩ := h3 h
  rw [hd]
  exact ⟨h4, (World.putObj_heap_other (by omega)).trans h5⟩
theorem Laid.kept {dd : Bool} {B l : Nat} {r : Loop} {W W' : World} (h : Laid dd l r W) (hl : B ≤ l) (hB : dd = true → B ≤ r.defers) (k : KeepsFrom B W W') : Laid dd l r W' :=
  ⟨k.same l _ hl h.1 rfl, fun hd => ⟨(h.2 hd).1, k.same r.defers _ (hB hd) (h.2 hd).2 rfl⟩⟩
theorem Laid.below {dd : Bool} {l : Nat} {r : Loop} {W W' : World} (h : Laid dd l r W) (k : Below W.heap.size W W') : Laid dd l r W' :=
  ⟨(k.block l (Array.getElem?_eq_some_iff.1 h.1).1).trans h.1, fun hd => ⟨(h.2 hd).1, (k.block r.defers (Array.getElem?_eq_some_iff.1 (h.2 hd).2).1).trans (h.2 hd).2⟩⟩
/-- One round, from the invariant at k to the one at k + 1. -/
theorem round_told {α : Type} {assign body : Code} {dd : Bool} {B l k : Nat} {r : Loop} {v : Array Value} (hr : r.state = .ready) (hp : r.pending = none) (ha : r.assign = assign) (hb : r.body = body) (hv : v.size = r.params.size) (hfn : F.fn r.fn) (hBl : B ≤ l) (hB : dd = true → B ≤ r.defers)
    {I : Nat → World → Prop} (hI : OwnFrom B I) {x : α} {Ax : α → Act → World → Prop} (hAx : ∀ a', OwnFrom B (fun (_ : Unit) W => Ax x a' W))
    (hassign : ∀ (W : World) (K : Act → World → Prop), I k W → (∀ a' W', KeepsFrom B W W' → I k W' → Ax x a' W' → K a' W') →
      assign.wpIn (F.inRound l) n P (Exit.then K (fun _ _ _ => False)) { tmps := (r.params.zip v).foldl (fun t (p, u) => t.setIfInBounds p u) r.tmps, defers := [] } W)
    (hbody : ∀ (a' : Act) (W : World), (∃ r', W.heap[l]? = some (.loop r')) → I k W → Ax x a' W → body.wpIn (F.inRound l) n P (fun e _ W' => e = .normal ∧ KeepsFrom B W W' ∧ I (k + 1) W') a' W)
    {W : World} (hi : I k W) (hl : Laid dd l r W) : YieldAt F n P l v W fun e W' => e = .returned (.bool true) ∧ I (k + 1) W' ∧ Laid dd l r W' := by
  refine ⟨r.fn, _, assign, body, by rw [← ha, ← hb]; exact run_yield hl.1 hv, roundIn_of_wpIn hfn (hassign W _ hi ?_)⟩
  intro a' W1 hk1 hi1 hx1
  have hl1 := hl.kept hBl hB hk1
  refine ⟨_, run_beginRound hl1.1 hr, wpIn_mono (hbody a' _ ⟨_, (hl1.turn { r with state := .busy } rfl).1⟩ (hI.putObj _ hi1 hBl hl1.1 rfl) ((hAx a').putObj (s := ()) _ hx1 hBl hl1.1 rfl)) ?_⟩
  rintro e a2 W2 ⟨rfl, hk2, hi2⟩
  have hl2 := (hl1.turn { r with state := .busy } rfl).kept hBl hB hk2
  refine ⟨_, _, run_endRound none hl2.1, rfl, hI.putObj _ hi2 hBl hl2.1 rfl, ?_⟩
  have h3 := hl2.turn r rfl
  have e : ({ ({ r with state := .busy } : Loop) with state := if (none : Option Code).isNone then .ready else .done, pending := none } : Loop) = r := by
    obtain ⟨⟩ := r
    simp only at hr hp ⊢
    subst hr hp
    rfl
  rw [e]
  exact h3
/-- What the iterator owes: each element of the list, one by one. -/
def ToldBy {α : Type} (F : Fence) (n : Nat) (P : Program) (gf : Nat) (lb : Array Value) (encs : α → Array Value) (xs : List α) (I : Nat → World → Prop) : Prop :=
  ∀ (l : Nat) (J : Nat → World → Prop) (W : World), (∀ k W, J k W → I k W) → (∀ k W W', J k W → Below W.heap.size W W' → J k W') →
    (∀ k (hk : k < xs.length) W, J k W → YieldAt F (n - 1) P l (encs xs[k]) W fun e W' => e = .returned (.bool true) ∧ J (k + 1) W') → J 0 W →
    CallsIn F n P gf (#[.func (.yield l) #[] #[]] ++ lb) W fun e W' => (∃ v, e = .returned v) ∧ J xs.length W'
theorem ToldBy.inRound {α : Type} {gf : Nat} {lb : Array Value} {encs : α → Array Value} {xs : List α} {I : Nat → World → Prop} (l : Nat) (h : ToldBy F n P gf lb encs xs I) : ToldBy (F.inRound l) n P gf lb encs xs I := h
/-- The statement by itself. -/
theorem wpIn_range_told {α : Type} {g : Operand} {ps : Array Tmp} {assign body : Code} {Q : Exit → Act → World → Prop} {a : Act} {w : World}
    (hro : F.round = none) (h1 : 1 ≤ n) {gf : Nat} {lb : Array Value} (hg : a.eval g = .func (.func gf) #[] lb) (hFg : F.fn gf) (eg : ∀ args w, (callFunc gf args).run P w = .ok (.enter gf args) w)
    {encs : α → Array Value} (hps : ∀ x, (encs x).size = ps.size) (xs : List α) (I : Nat → World → Prop) (hI : OwnFrom w.heap.size I) (h0 : I 0 w) (hcl : ToldBy F (n - 1) P gf lb encs xs I)
    (Ax : α → Act → World → Prop) (hAx : ∀ x a', OwnFrom w.heap.size (fun (_ : Unit) W => Ax x a' W))
    (hassign : ∀ (l k : Nat) (x : α) (W : World) (K : Act → World → Prop), I k W → (∀ a' W', KeepsFrom w.heap.size W W' → I k W' → Ax x a' W' → K a' W') →
      assign.wpIn (F.inRound l) (n - 1 - 1) P (Exit.then K (fun _ _ _ => False)) { tmps := (ps.zip (encs x)).foldl (fun t (p, v) => t.setIfInBounds p v) a.tmps, defers := [] } W)
    (hbody : ∀ (l k : Nat) (hk : k < xs.length) (a' : Act) (W : World), w.heap.size ≤ l → (∃ r, W.heap[l]? = some (.loop r)) → I k W → Ax xs[k] a' W →
      body.wpIn (F.inRound l) (n - 1 - 1) P (fun e _ W' => e = .normal ∧ KeepsFrom w.heap.size W W' ∧ I (k + 1) W') a' W)
    (hdone : ∀ (D : Nat) (W : World), w.heap.size ≤ D → I xs.length W → W.heap[D]? = some (.deferred (some [])) → Q .normal { a with defers := { target := .collected D, args := #[] } :: a.defers } W) :
    (Code.rangeFunc g ps assign body).wpIn F n P Q a w := by
  refine wpIn_rangeFunc fun fn hfn => ?_
  rw [hro]
  obtain ⟨r, hr⟩ : ∃ r : Loop, r = { state := .ready, pending := none, fn, tmps := a.tmps, params := ps, assign, body, defers := w.heap.size } := ⟨_, rfl⟩
  have hl : Laid true (w.heap.size + 1) r ((w.alloc (.deferred (some []))).alloc (.loop r)) := by
    refine ⟨?_, fun _ => ⟨by rw [hr]; exact Nat.lt_succ_self _, ?_⟩⟩
    · have h := World.alloc_heap_new (w.alloc (.deferred (some []))) (.loop r)
      rwa [World.size_alloc] at h
    · rw [hr]
      exact (Below.heap_alloc _ _ _ (by rw [World.size_alloc]; exact Nat.lt_succ_self _)).trans (World.alloc_heap_new w _)
  have hi := hI.alloc (.loop r) (hI.alloc (.deferred (some [])) h0)
  have hen := run_enterLoop_outer (P := P) (w := w) fn a.tmps ps assign body
  rw [← hr] at hen
  generalize (w.alloc (.deferred (some []))).alloc (.loop r) = W1 at hl hi hen
  have hrd : r.defers = w.heap.size := by rw [hr]
  refine ⟨_, _, W1, { target := .fn (.func gf) lb, args := #[.func (.yield (w.heap.size + 1)) #[] #[]] }, W1, gf, #[.func (.yield (w.heap.size + 1)) #[] #[]] ++ lb, W1, hen, ?_, ?_, ?_, fun _ => h1, ?_⟩
  · simp only [resolve, hg]
    simp [go_sem]
  · intro f' hf'
    simp [Target.leads] at hf'
    subst hf'
    exact hFg
  · simp [invoke, go_sem, eg]
  · refine (hcl (w.heap.size + 1) (fun k W => I k W ∧ Laid true (w.heap.size + 1) r W) W1 (fun _ _ h => h.1) (fun k W W' h hb => ⟨hI k W W' none h.1 (grown_of_below hb) (fun r e => by cases e), h.2.below hb⟩) (fun k hk W h => ?_) ⟨hi, hl⟩).mono ?_
    · exact round_told (by rw [hr]) (by rw [hr]) (by rw [hr]) (by rw [hr]) (by rw [hr]; exact hps _) (by rw [hr]; exact hfn) (Nat.le_succ _) (fun _ => Nat.le_of_eq hrd.symm) hI (hAx xs[k])
        (fun W K hiW hK => by
          have h2 := hassign (w.heap.size + 1) k xs[k] W K hiW hK
          rw [hr]; exact h2)
        (fun a' W hrec hiW hxW => hbody (w.heap.size + 1) k hk a' W (by omega) hrec hiW hxW) h.1 h.2
    · rintro e W2 ⟨⟨v, rfl⟩, hi2, hl2⟩
      refine ⟨none, _, by have h3 := run_endLoop (P := P) hl2.1 (by rw [hr]; simp); rw [show r.pending = none by rw [hr]] at h3; exact h3, ?_⟩
      have h4 := ((hl2.turn { r with state := .exhausted, pending := none } rfl).2 rfl).2
      exact hdone _ _ (Nat.le_refl _) (hI.putObj _ hi2 (by omega) hl2.1 rfl) ((congrArg (fun i => (W2.putObj _ _).heap[i]?) hrd).symm.trans h4)
/-- The statement within a round of another one. -/
theorem wpIn_range_toldN {α : Type} {g : Operand} {ps : Array Tmp} {assign body : Code} {Q : Exit → Act → World → Prop} {a : Act} {w : World} {l₀ : Nat}
    (hro : F.round = some l₀) (h1 : 1 ≤ n) (hl₀ : ∃ r₀, w.heap[l₀]? = some (.loop r₀)) {gf : Nat} {lb : Array Value} (hg : a.eval g = .func (.func gf) #[] lb) (hFg : F.fn gf) (eg : ∀ args w, (callFunc gf args).run P w = .ok (.enter gf args) w)
    {encs : α → Array Value} (hps : ∀ x, (encs x).size = ps.size) (xs : List α) (I : Nat → World → Prop) (hI : OwnFrom w.heap.size I) (h0 : I 0 w) (hcl : ToldBy F (n - 1) P gf lb encs xs I)
    (Ax : α → Act → World → Prop) (hAx : ∀ x a', OwnFrom w.heap.size (fun (_ : Unit) W => Ax x a' W))
    (hassign : ∀ (l k : Nat) (x : α) (W : World) (K : Act → World → Prop), I k W → (∀ a' W', KeepsFrom w.heap.size W W' → I k W' → Ax x a' W' → K a' W') →
      assign.wpIn (F.inRound l) (n - 1 - 1) P (Exit.then K (fun _ _ _ => False)) { tmps := (ps.zip (encs x)).foldl (fun t (p, v) => t.setIfInBounds p v) a.tmps, defers := [] } W)
    (hbody : ∀ (l k : Nat) (hk : k < xs.length) (a' : Act) (W : World), w.heap.size ≤ l → (∃ r, W.heap[l]? = some (.loop r)) → I k W → Ax xs[k] a' W →
      body.wpIn (F.inRound l) (n - 1 - 1) P (fun e _ W' => e = .normal ∧ KeepsFrom w.heap.size W W' ∧ I (k + 1) W') a' W)
    (hdone : ∀ (W : World), I xs.length W → Q .normal a W) :
    (Code.rangeFunc g ps assign body).wpIn F n P Q a w := by
  obtain ⟨r₀, hr₀⟩ := hl₀
  refine wpIn_rangeFunc fun fn hfn => ?_
  rw [hro]
  obtain ⟨r, hr⟩ : ∃ r : Loop, r = { state := .ready, pending := none, fn, tmps := a.tmps, params := ps, assign, body, defers := r₀.defers } := ⟨_, rfl⟩
  have hl : Laid false w.heap.size r (w.alloc (.loop r)) := ⟨World.alloc_heap_new w _, fun h => Bool.noConfusion h⟩
  have hi := hI.alloc (.loop r) h0
  have hen := run_enterLoop_inner (P := P) hr₀ fn a.tmps ps assign body
  rw [← hr] at hen
  generalize w.alloc (.loop r) = W1 at hl hi hen
  refine ⟨_, _, W1, { target := .fn (.func gf) lb, args := #[.func (.yield w.heap.size) #[] #[]] }, W1, gf, #[.func (.yield w.heap.size) #[] #[]] ++ lb, W1, hen, ?_, ?_, ?_, fun _ => h1, ?_⟩
  · simp only [resolve, hg]
    simp [go_sem]
  · intro f' hf'
    simp [Target.leads] at hf'
    subst hf'
    exact hFg
  · simp [invoke, go_sem, eg]
  · refine (hcl w.heap.size (fun k W => I k W ∧ Laid false w.heap.size r W) W1 (fun _ _ h => h.1) (fun k W W' h hb => ⟨hI k W W' none h.1 (grown_of_below hb) (fun r e => by cases e), h.2.below hb⟩) (fun k hk W h => ?_) ⟨hi, hl⟩).mono ?_
    · exact round_told (by rw [hr]) (by rw [hr]) (by rw [hr]) (by rw [hr]) (by rw [hr]; exact hps _) (by rw [hr]; exact hfn) (Nat.le_refl _) (fun h => Bool.noConfusion h) hI (hAx xs[k])
        (fun W K hiW hK => by
          have h2 := hassign w.heap.size k xs[k] W K hiW hK
          rw [hr]; exact h2)
        (fun a' W hrec hiW hxW => hbody w.heap.size k hk a' W (Nat.le_refl _) hrec hiW hxW) h.1 h.2
    · rintro e W2 ⟨⟨v, rfl⟩, hi2, hl2⟩
      refine ⟨none, _, by have h3 := run_endLoop (P := P) hl2.1 (by rw [hr]; simp); rw [show r.pending = none by rw [hr]] at h3; exact h3, ?_⟩
      exact hdone _ (hI.putObj _ hi2 (Nat.le_refl _) hl2.1 rfl)
end
end Go.Proofs.YtdpkhliojbeglaaDoor

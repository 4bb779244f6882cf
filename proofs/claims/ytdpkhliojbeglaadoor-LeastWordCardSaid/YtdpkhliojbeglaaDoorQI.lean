/- Texts put together: Xb Xc Tc Td Te. -/
import Derived.Test.YtdpkhliojbeglaaDoorQL
import Derived.Test.YtdpkhliojbeglaaDoorQK
/- A node's steps, plainly: they open and close nodes one in another. Stage 12. -/
namespace Go.Proofs.YtdpkhliojbeglaaDoor
open Go.RowKit BS

def ofX (l : List NdN) (f : Nat → List Nat) (x : NdN) : List Nat :=
  if x.kind = 3 then f x.kids.toNat ++ f x.n.toNat
  else if x.kind = 4 then (if canF l x.kids.toNat = true then f x.kids.toNat else f x.n.toNat)
  else if x.kind = 7 ∨ x.kind = 8 then f x.kids.toNat
  else []
def ofF (l : List NdN) : Nat → Nat → List Nat
  | 0, _ => []
  | f + 1, q => 2 * q :: (match l[q]? with | some x => ofX l (ofF l f) x | none => []) ++ [2 * q + 1]
def ofN (l : List NdN) (q : Nat) : List Nat := ofF l (q + 1) q
/-- What Steps tells. -/
def stepsT (l : List NdN) (q : Int) : List Nat := if rightT l = true ∧ 0 ≤ q ∧ q < l.length ∧ canF l q.toNat = true then ofN l q.toNat else []
theorem ofX_local (l : List NdN) (f g : Nat → List Nat) (x : NdN) (h1 : pcT x.kind ≠ 0 → f x.kids.toNat = g x.kids.toNat) (h2 : pcT x.kind = 2 → f x.n.toNat = g x.n.toNat) : ofX l f x = ofX l g x := by
  unfold ofX
  split
  · rename_i h
    rw [h1 (by rw [h]; decide), h2 (by rw [h]; decide)]
  · split
    · rename_i h
      rw [h1 (by rw [h]; decide), h2 (by rw [h]; decide)]
    · split
      · rename_i h
        rw [h1 (by rcases h with h | h <;> rw [h] <;> decide)]
      · rfl
theorem part_small (l : List NdN) (hr : rightT l = true) (i : Nat) (hi : i < l.length) : (pcT l[i].kind ≠ 0 → l[i].kids.toNat < i) ∧ (pcT l[i].kind = 2 → l[i].n.toNat < i) := by
  rcases nodek_parts l hr i hi with ⟨h0, _⟩ | ⟨a, h0, h1, h2, h3, _⟩ | ⟨a, b, h0, h1, h2, h3, h4, h5, h6⟩
  · exact ⟨fun h => absurd h0 h, fun h => by omega⟩
  · exact ⟨fun _ => by rw [h1]; omega, fun h => by omega⟩
  · exact ⟨fun _ => by rw [h1]; omega, fun _ => by rw [h2]; omega⟩
theorem ofF_fuel (l : List NdN) (hr : rightT l = true) : ∀ f f' q, q < f → q < f' → q < l.length → ofF l f q = ofF l f' q
  | 0, _, _, h, _, _ => by omega
  | _ + 1, 0, _, _, h, _ => by omega
  | f + 1, f' + 1, q, h, h', hq => by
    obtain ⟨p1, p2⟩ := part_small l hr q hq
    rw [ofF, ofF, List.getElem?_eq_getElem hq]
    simp only
    rw [ofX_local l (ofF l f) (ofF l f') l[q] (fun hk => ofF_fuel l hr f f' _ (by have := p1 hk; omega) (by have := p1 hk; omega) (by have := p1 hk; omega)) (fun hk => ofF_fuel l hr f f' _ (by have := p2 hk; omega) (by have := p2 hk; omega) (by have := p2 hk; omega))]
theorem ofN_eq (l : List NdN) (hr : rightT l = true) (q : Nat) (hq : q < l.length) : ofN l q = 2 * q :: ofX l (ofN l) l[q] ++ [2 * q + 1] := by
  obtain ⟨p1, p2⟩ := part_small l hr q hq
  rw [ofN, ofF, List.getElem?_eq_getElem hq]
  simp only
  rw [ofX_local l (ofF l q) (ofN l) l[q] (fun hk => ofF_fuel l hr _ _ _ (p1 hk) (Nat.lt_succ_self _) (by have := p1 hk; omega)) (fun hk => ofF_fuel l hr _ _ _ (p2 hk) (Nat.lt_succ_self _) (by have := p2 hk; omega))]
/-- Which nodes are opened. -/
def vis (l : List NdN) (q y : Nat) : Bool := (ofN l q).contains (2 * y)
/-- By a node's kind: nothing behind it; A; A and then B; one of the two. -/
theorem of_cases (l : List NdN) (hr : rightT l = true) (q : Nat) (hq : q < l.length) (hc : canF l q = true) :
    (pcT l[q].kind ≠ 2 ∧ l[q].kind ≠ 7 ∧ l[q].kind ≠ 8 ∧ lowV l q ≤ q ∧ ofX l (ofN l) l[q] = []) ∨
    (∃ a : Nat, (l[q].kind = 7 ∨ l[q].kind = 8) ∧ l[q].kids = a ∧ l[q].n = -1 ∧ a + 1 = q ∧ lowV l a = lowV l q ∧ canF l a = true ∧ ofX l (ofN l) l[q] = ofN l a) ∨
    (∃ a b : Nat, l[q].kind = 3 ∧ l[q].kids = a ∧ l[q].n = b ∧ b + 1 = q ∧ a + 1 = lowV l b ∧ lowV l a = lowV l q ∧ a < q ∧ canF l a = true ∧ canF l b = true ∧ ofX l (ofN l) l[q] = ofN l a ++ ofN l b) ∨
    (∃ a b : Nat, l[q].kind = 4 ∧ l[q].kids = a ∧ l[q].n = b ∧ b + 1 = q ∧ a + 1 = lowV l b ∧ lowV l a = lowV l q ∧ a < q ∧ ((canF l a = true ∧ ofX l (ofN l) l[q] = ofN l a) ∨ (canF l a = false ∧ canF l b = true ∧ ofX l (ofN l) l[q] = ofN l b))) := by
  rw [can_eq l hr q hq] at hc
  obtain ⟨k1, k8⟩ := kind_range l hr q hq
  unfold canE at hc
  unfold ofX
  rcases nodek_parts l hr q hq with ⟨h0, h1, h2, h3⟩ | ⟨a, h0, h1, h2, h3, h4⟩ | ⟨a, b, h0, h1, h2, h3, h4, h5, h6⟩
  · have hk := pc_zero h0 k1 k8
    refine .inl ⟨by omega, by omega, by omega, by omega, ?_⟩
    rw [if_neg (by omega), if_neg (by omega), if_neg (by omega)]
  · have e : l[q].kids.toNat = a := by rw [h1]; omega
    have hlow := lowV_le l q
    rcases pc_one h0 with h | h | h | h
    · exact .inl ⟨by omega, by omega, by omega, hlow, by rw [if_neg (by omega), if_neg (by omega), if_neg (by omega)]⟩
    · exact .inl ⟨by omega, by omega, by omega, hlow, by rw [if_neg (by omega), if_neg (by omega), if_neg (by omega)]⟩
    · rw [if_neg (by omega), if_neg (by omega), if_neg (by omega), if_pos (by omega), e] at hc
      exact .inr (.inl ⟨a, .inl h, h1, h2, h3, h4, hc, by rw [if_neg (by omega), if_neg (by omega), if_pos (by omega), e]⟩)
    · rw [if_neg (by omega), if_neg (by omega), if_neg (by omega), if_pos (by omega), e] at hc
      exact .inr (.inl ⟨a, .inr h, h1, h2, h3, h4, hc, by rw [if_neg (by omega), if_neg (by omega), if_pos (by omega), e]⟩)
  · have ea : l[q].kids.toNat = a := by rw [h1]; omega
    have eb : l[q].n.toNat = b := by rw [h2]; omega
    rcases pc_two h0 with h | h
    · rw [if_neg (by omega), if_pos h, ea, eb, Bool.and_eq_true] at hc
      exact .inr (.inr (.inl ⟨a, b, h, h1, h2, h3, h4, h5, h6, hc.1, hc.2, by rw [if_pos h, ea, eb]⟩))
    · rw [if_neg (by omega), if_neg (by omega), if_pos h, ea, eb, Bool.or_eq_true] at hc
      refine .inr (.inr (.inr ⟨a, b, h, h1, h2, h3, h4, h5, h6, ?_⟩))
      rw [if_neg (by omega), if_pos h, ea, eb]
      cases hA : canF l a with
      | true => exact .inl ⟨rfl, by rw [if_pos rfl]⟩
      | false =>
        rw [hA] at hc
        exact .inr ⟨rfl, by simpa using hc, by rw [if_neg (by decide)]⟩
theorem vis_iff (l : List NdN) (q y : Nat) : vis l q y = true ↔ 2 * y ∈ ofN l q := by
  unfold vis
  rw [List.contains_iff_mem]
theorem vis_at (l : List NdN) (hr : rightT l = true) (q : Nat) (hq : q < l.length) (y : Nat) : vis l q y = true ↔ y = q ∨ 2 * y ∈ ofX l (ofN l) l[q] := by
  rw [vis_iff, ofN_eq l hr q hq]
  simp only [List.cons_append, List.mem_cons, List.mem_append, List.not_mem_nil, or_false]
  constructor
  · rintro (h | h | h)
    · exact .inl (by omega)
    · exact .inr h
    · omega
  · rintro (h | h)
    · exact .inl (by omega)
    · exact .inr (.inl h)
theorem vis_self (l : List NdN) (hr : rightT l = true) (q : Nat) (hq : q < l.length) : vis l q q = true := (vis_at l hr q hq q).2 (.inl rfl)
/-- **What is opened lies within the node.** -/
theorem vis_in (l : List NdN) (hr : rightT l = true) : ∀ q, q < l.length → canF l q = true → ∀ y, vis l q y = true → lowV l q ≤ y ∧ y ≤ q := fun q => by
  induction q using Nat.strongRecOn with
  | ind q ih =>
    intro hq hc y hy
    have hlq := lowV_le l q
    rcases (vis_at l hr q hq y).1 hy with rfl | hy
    · exact ⟨hlq, Nat.le_refl _⟩
    · rcases of_cases l hr q hq hc with ⟨_, _, _, _, h5⟩ | ⟨a, _, _, _, h3, h4, h5, h6⟩ | ⟨a, b, _, _, _, h3, h4, h5, h6, h7, h8, h9⟩ | ⟨a, b, _, _, _, h3, h4, h5, h6, h7⟩
      · rw [h5] at hy; simp at hy
      · rw [h6, ← vis_iff] at hy
        have := ih a (by omega) (by omega) h5 y hy
        omega
      · have hlb := lowV_le l b
        have hla := lowV_le l a
        rw [h9, List.mem_append, ← vis_iff, ← vis_iff] at hy
        rcases hy with hy | hy
        · have := ih a (by omega) (by omega) h7 y hy
          omega
        · have := ih b (by omega) (by omega) h8 y hy
          omega
      · have hlb := lowV_le l b
        have hla := lowV_le l a
        rcases h7 with ⟨h7, h8⟩ | ⟨_, h7, h8⟩
        · rw [h8, ← vis_iff] at hy
          have := ih a (by omega) (by omega) h7 y hy
          omega
        · rw [h8, ← vis_iff] at hy
          have := ih b (by omega) (by omega) h7 y hy
          omega
/-! ### One in another -/
/-- May x be opened in the node U? -/
def entryB (l : List NdN) (U : NdN) (x : Nat) : Bool := decide ((U.kids = (x : Int) ∨ U.n = (x : Int)) ∧ U.kind ≠ 5 ∧ U.kind ≠ 6 ∧ ¬ (U.kind = 4 ∧ (x : Int) = U.n ∧ canF l U.kids.toNat = true))
def nsStep (l : List NdN) (q : Nat) (s : Nat) (i0 : Bool) (st : List Nat × (Nat → Bool)) : Option (List Nat × (Nat → Bool)) :=
  if l.length ≤ s / 2 then none
  else if s % 2 = 1 then (match st.1 with | t :: r => if t = s / 2 then some (r, st.2) else none | [] => none)
  else if st.2 (s / 2) = true ∨ canF l (s / 2) = false then none
  else if i0 = true then (if s / 2 = q then some (s / 2 :: st.1, fun y => decide (y = s / 2) || st.2 y) else none)
  else (match st.1 with | t :: _ => (match l[t]? with | some U => if entryB l U (s / 2) = true then some (s / 2 :: st.1, fun y => decide (y = s / 2) || st.2 y) else none | none => none) | [] => none)
def nsRun (l : List NdN) (q : Nat) : List Nat → Bool → List Nat × (Nat → Bool) → Option (List Nat × (Nat → Bool))
  | [], _, st => some st
  | s :: r, i0, st => (nsStep l q s i0 st).bind fun st' => nsRun l q r false st'
/-- The node may be opened now. -/
def Enter (l : List NdN) (q p : Nat) (i0 : Bool) (op : List Nat) : Prop := (i0 = true ∧ p = q) ∨ (i0 = false ∧ ∃ t r, ∃ h : t < l.length, op = t :: r ∧ entryB l l[t] p = true)
theorem ns_open (l : List NdN) (q p : Nat) (hp : p < l.length) (hc : canF l p = true) (i0 : Bool) (op : List Nat) (σ : Nat → Bool) (hσ : σ p = false) (he : Enter l q p i0 op) : nsStep l q (2 * p) i0 (op, σ) = some (p :: op, fun y => decide (y = p) || σ y) := by
  have e : 2 * p / 2 = p := by omega
  unfold nsStep
  rw [e, if_neg (by omega), if_neg (by omega), if_neg (by simp [hσ, hc])]
  rcases he with ⟨rfl, rfl⟩ | ⟨rfl, t, r, ht, rfl, hE⟩
  · rw [if_pos rfl, if_pos rfl]
  · rw [if_neg (by decide)]
    simp only [List.getElem?_eq_getElem ht]
    rw [if_pos hE]
theorem ns_close (l : List NdN) (q p : Nat) (hp : p < l.length) (op : List Nat) (σ : Nat → Bool) (i0 : Bool) : nsStep l q (2 * p + 1) i0 (p :: op, σ) = some (op, σ) := by
  have e : (2 * p + 1) / 2 = p := by omega
  unfold nsStep
  rw [e, if_neg (by omega), if_pos (by omega)]
  simp
/-- **A node's steps open and close nodes one in another.** -/
theorem ns_node (l : List NdN) (hr : rightT l = true) (q : Nat) : ∀ p, p < l.length → canF l p = true → ∀ (i0 : Bool) (op : List Nat) (σ : Nat → Bool) (rest : List Nat), (∀ y, lowV l p ≤ y → y ≤ p → σ y = false) → Enter l q p i0 op →
    nsRun l q (ofN l p ++ rest) i0 (op, σ) = nsRun l q rest false (op, fun y => vis l p y || σ y) := fun p => by
  induction p using Nat.strongRecOn with
  | ind p ih =>
    intro hp hc i0 op σ rest hσ he
    have hlp := lowV_le l p
    rw [ofN_eq l hr p hp, List.cons_append, List.cons_append, nsRun, ns_open l q p hp hc i0 op σ (hσ p hlp (Nat.le_refl _)) he, Option.bind_some, List.append_assoc]
    have close : ∀ τ, nsRun l q ([2 * p + 1] ++ rest) false (p :: op, τ) = nsRun l q rest false (op, τ) := fun τ => by
      rw [List.singleton_append, nsRun, ns_close l q p hp, Option.bind_some]
    have hv := vis_at l hr p hp
    have done : ∀ τ : Nat → Bool, (∀ y, τ y = true ↔ vis l p y = true ∨ σ y = true) → nsRun l q rest false (op, τ) = nsRun l q rest false (op, fun y => vis l p y || σ y) := fun τ h => by
      congr 2
      funext y
      rw [Bool.eq_iff_iff, h y, Bool.or_eq_true]
    rcases of_cases l hr p hp hc with ⟨_, _, _, _, h5⟩ | ⟨a, hk, hA, hB, h3, h4, h5, h6⟩ | ⟨a, b, hk, hA, hB, h3, h4, h5, h6, h7, h8, h9⟩ | ⟨a, b, hk, hA, hB, h3, h4, h5, h6, h7⟩
    · rw [h5, List.nil_append, close]
      refine done _ fun y => ?_
      rw [hv y, h5]
      simp
    · have hla := lowV_le l a
      have ea : l[p].kids.toNat = a := by rw [hA]; omega
      rw [h6, ih a (by omega) (by omega) h5 false (p :: op) _ _ (fun y h1 h2 => by
        rw [hσ y (by omega) (by omega)]; simp; omega) (.inr ⟨rfl, p, op, hp, rfl, decide_eq_true ⟨.inl hA, by omega, by omega, by omega⟩⟩), close]
      refine done _ fun y => ?_
      rw [hv y, h6, ← vis_iff]
      simp only [Bool.or_eq_true, decide_eq_true_eq]
      constructor
      · rintro (h | h | h)
        · exact .inl (.inr h)
        · exact .inl (.inl h)
        · exact .inr h
      · rintro ((h | h) | h)
        · exact .inr (.inl h)
        · exact .inl h
        · exact .inr (.inr h)
    · have hla := lowV_le l a
      have hlb := lowV_le l b
      rw [h9, List.append_assoc, ih a (by omega) (by omega) h7 false (p :: op) _ _ (fun y h1 h2 => by
        rw [hσ y (by omega) (by omega)]; simp; omega) (.inr ⟨rfl, p, op, hp, rfl, decide_eq_true ⟨.inl hA, by omega, by omega, by omega⟩⟩),
        ih b (by omega) (by omega) h8 false (p :: op) _ _ (fun y h1 h2 => by
          have hn : vis l a y = false := by
            cases hv2 : vis l a y with
            | false => rfl
            | true => have := vis_in l hr a (by omega) h7 y hv2; omega
          rw [hn, hσ y (by omega) (by omega)]; simp; omega) (.inr ⟨rfl, p, op, hp, rfl, decide_eq_true ⟨.inr hB, by omega, by omega, by omega⟩⟩), close]
      refine done _ fun y => ?_
      rw [hv y, h9, List.mem_append, ← vis_iff, ← vis_iff]
      simp only [Bool.or_eq_true, decide_eq_true_eq]
      constructor
      · rintro (h | h | h | h)
        · exact .inl (.inr (.inr h))
        · exact .inl (.inr (.inl h))
        · exact .inl (.inl h)
        · exact .inr h
      · rintro ((h | h | h) | h)
        · exact .inr (.inr (.inl h))
        · exact .inr (.inl h)
        · exact .inl h
        · exact .inr (.inr (.inr h))
    · have hla := lowV_le l a
      have hlb := lowV_le l b
      have ea : l[p].kids.toNat = a := by rw [hA]; omega
      have fin : ∀ c, ofX l (ofN l) l[p] = ofN l c → nsRun l q rest false (op, fun y => vis l c y || (decide (y = p) || σ y)) = nsRun l q rest false (op, fun y => vis l p y || σ y) := fun c h6 => by
        refine done _ fun y => ?_
        rw [hv y, h6, ← vis_iff]
        simp only [Bool.or_eq_true, decide_eq_true_eq]
        constructor
        · rintro (h | h | h)
          · exact .inl (.inr h)
          · exact .inl (.inl h)
          · exact .inr h
        · rintro ((h | h) | h)
          · exact .inr (.inl h)
          · exact .inl h
          · exact .inr (.inr h)
      rcases h7 with ⟨h7, h8⟩ | ⟨hna, h7, h8⟩
      · rw [h8, ih a (by omega) (by omega) h7 false (p :: op) _ _ (fun y h1 h2 => by
          rw [hσ y (by omega) (by omega)]; simp; omega) (.inr ⟨rfl, p, op, hp, rfl, decide_eq_true ⟨.inl hA, by omega, by omega, fun h => by omega⟩⟩), close]
        exact fin a h8
      · rw [h8, ih b (by omega) (by omega) h7 false (p :: op) _ _ (fun y h1 h2 => by
          rw [hσ y (by omega) (by omega)]; simp; omega) (.inr ⟨rfl, p, op, hp, rfl, decide_eq_true ⟨.inr hB, by omega, by omega, fun h => by rw [ea, hna] at h; exact absurd h.2.2 (by decide)⟩⟩), close]
        exact fin b h8
end Go.Proofs.YtdpkhliojbeglaaDoor

/- A node's steps, plainly: the parts of what is opened lie as its kind has them. Stage 12. -/
namespace Go.Proofs.YtdpkhliojbeglaaDoor
open Go.RowKit BS

/-- Lie the parts of node i as its kind has them, of those that were opened? -/
def goodN (v : Nat → Bool) (i : Nat) (x : NdN) : Bool :=
  !((v i && decide (x.kind = 3) && (!(v x.kids.toNat) || !(v x.n.toNat))) || (v i && (decide (x.kind = 7) || decide (x.kind = 8)) && !(v x.kids.toNat)) || (v i && decide (x.kind = 4) && decide (v x.kids.toNat = v x.n.toNat)))
/-- z is a part of a node. -/
def IsPart (x : NdN) (z : Nat) : Prop := (pcT x.kind ≠ 0 ∧ z = x.kids.toNat) ∨ (pcT x.kind = 2 ∧ z = x.n.toNat)
theorem good_same (v u : Nat → Bool) (i : Nat) (x : NdN) (hi : v i = u i) (h : ∀ z, IsPart x z → v z = u z) : goodN v i x = goodN u i x := by
  unfold goodN
  rw [hi]
  by_cases h0 : pcT x.kind = 0
  · have n3 : ¬ x.kind = 3 := fun e => by rw [e] at h0; cases h0
    have n4 : ¬ x.kind = 4 := fun e => by rw [e] at h0; cases h0
    have n7 : ¬ x.kind = 7 := fun e => by rw [e] at h0; cases h0
    have n8 : ¬ x.kind = 8 := fun e => by rw [e] at h0; cases h0
    simp [n3, n4, n7, n8]
  · rw [h _ (.inl ⟨h0, rfl⟩)]
    by_cases h2 : pcT x.kind = 2
    · rw [h _ (.inr ⟨h2, rfl⟩)]
    · have n3 : ¬ x.kind = 3 := fun e => by rw [e] at h2; exact h2 rfl
      have n4 : ¬ x.kind = 4 := fun e => by rw [e] at h2; exact h2 rfl
      simp [n3, n4]
/-- A node's parts lie from its begin on, ahead of it. -/
theorem part_in (l : List NdN) (hr : rightT l = true) (y : Nat) (hy : y < l.length) (z : Nat) (hz : IsPart l[y] z) : lowV l y ≤ z ∧ z < y := by
  have hl := lowV_le l
  rcases nodek_parts l hr y hy with ⟨h0, _⟩ | ⟨a, h0, h1, h2, h3, h4⟩ | ⟨a, b, h0, h1, h2, h3, h4, h5, h6⟩
  · rcases hz with ⟨h, _⟩ | ⟨h, _⟩ <;> omega
  · rcases hz with ⟨_, rfl⟩ | ⟨h, _⟩
    · have := hl a
      rw [h1, ← h4]
      omega
    · omega
  · have ha := hl a
    have hb := hl b
    rcases hz with ⟨_, rfl⟩ | ⟨h, rfl⟩
    · rw [h1, ← h5]; omega
    · rw [h2, ← h5]; omega
/-- Parts of what is opened within a node lie within it. -/
theorem vis_kid (l : List NdN) (hr : rightT l = true) : ∀ q, q < l.length → canF l q = true → ∀ y (hy : y < l.length), vis l q y = true → ∀ z, IsPart l[y] z → lowV l q ≤ z ∧ z < y := fun q => by
  induction q using Nat.strongRecOn with
  | ind q ih =>
    intro hq hc y hy hv z hz
    have hlq := lowV_le l q
    rcases (vis_at l hr q hq y).1 hv with rfl | hv
    · exact part_in l hr y hq z hz
    · rcases of_cases l hr q hq hc with ⟨_, _, _, _, h5⟩ | ⟨a, _, _, _, h3, h4, h5, h6⟩ | ⟨a, b, _, _, _, h3, h4, h5, h6, h7, h8, h9⟩ | ⟨a, b, _, _, _, h3, h4, h5, h6, h7⟩
      · rw [h5] at hv; simp at hv
      · rw [h6, ← vis_iff] at hv
        have := ih a (by omega) (by omega) h5 y hy hv z hz
        omega
      · have hlb := lowV_le l b
        have hla := lowV_le l a
        rw [h9, List.mem_append, ← vis_iff, ← vis_iff] at hv
        rcases hv with hv | hv
        · have := ih a (by omega) (by omega) h7 y hy hv z hz
          omega
        · have := ih b (by omega) (by omega) h8 y hy hv z hz
          omega
      · have hlb := lowV_le l b
        have hla := lowV_le l a
        rcases h7 with ⟨h7, h8⟩ | ⟨_, h7, h8⟩
        · rw [h8, ← vis_iff] at hv
          have := ih a (by omega) (by omega) h7 y hy hv z hz
          omega
        · rw [h8, ← vis_iff] at hv
          have := ih b (by omega) (by omega) h7 y hy hv z hz
          omega
theorem vis_not (l : List NdN) (hr : rightT l = true) (q : Nat) (hq : q < l.length) (hc : canF l q = true) (y : Nat) (h : y < lowV l q ∨ q < y) : vis l q y = false := by
  cases hv : vis l q y with
  | false => rfl
  | true => have := vis_in l hr q hq hc y hv; omega
/-- **The parts of what is opened lie as its kind has them.** -/
theorem vis_good (l : List NdN) (hr : rightT l = true) : ∀ q, q < l.length → canF l q = true → ∀ y (hy : y < l.length), goodN (vis l q) y l[y] = true := fun q => by
  induction q using Nat.strongRecOn with
  | ind q ih =>
    intro hq hc y hy
    have hlq := lowV_le l q
    cases hv : vis l q y with
    | false => unfold goodN; rw [hv]; rfl
    | true =>
    have hself := vis_self l hr q hq
    -- what is opened within the part c is as it is there
    have inner : ∀ c, c < q → canF l c = true → vis l c y = true → (∀ z, lowV l c ≤ z → z ≤ c → vis l q z = vis l c z) → goodN (vis l q) y l[y] = true := fun c hcq hcc hvc hs => by
      have hr2 := vis_in l hr c (by omega) hcc y hvc
      rw [good_same (vis l q) (vis l c) y l[y] (hs y hr2.1 hr2.2) (fun z hz => by
        have := vis_kid l hr c (by omega) hcc y hy hvc z hz
        exact hs z this.1 (by omega))]
      exact ih c hcq (by omega) hcc y hy
    rcases of_cases l hr q hq hc with ⟨n2, n7, n8, _, h5⟩ | ⟨a, hk, hA, hB, h3, h4, h5, h6⟩ | ⟨a, b, hk, hA, hB, h3, h4, h5, h6, h7, h8, h9⟩ | ⟨a, b, hk, hA, hB, h3, h4, h5, h6, h7⟩
    · rcases (vis_at l hr q hq y).1 hv with rfl | hv
      · have n3 : ¬ l[y].kind = 3 := fun e => by rw [e] at n2; exact n2 rfl
        have n4 : ¬ l[y].kind = 4 := fun e => by rw [e] at n2; exact n2 rfl
        unfold goodN
        simp [n3, n4, n7, n8]
      · rw [h5] at hv; simp at hv
    · have hla := lowV_le l a
      have hz : ∀ z, vis l q z = true ↔ z = q ∨ vis l a z = true := fun z => by rw [vis_at l hr q hq z, h6, ← vis_iff]
      rcases (hz y).1 hv with rfl | hv
      · have ea : l[y].kids.toNat = a := by rw [hA]; omega
        have va : vis l y a = true := (hz a).2 (.inr (vis_self l hr a (by omega)))
        unfold goodN
        rw [ea, va]
        rcases hk with hk | hk <;> rw [hk] <;> simp
      · exact inner a (by omega) h5 hv fun z h1 h2 => by
          rw [Bool.eq_iff_iff, hz z]
          exact ⟨fun h => h.elim (fun h => by omega) id, .inr⟩
    · have hla := lowV_le l a
      have hlb := lowV_le l b
      have hz : ∀ z, vis l q z = true ↔ z = q ∨ vis l a z = true ∨ vis l b z = true := fun z => by rw [vis_at l hr q hq z, h9, List.mem_append, ← vis_iff, ← vis_iff]
      rcases (hz y).1 hv with rfl | hv | hv
      · have ea : l[y].kids.toNat = a := by rw [hA]; omega
        have eb : l[y].n.toNat = b := by rw [hB]; omega
        have va : vis l y a = true := (hz a).2 (.inr (.inl (vis_self l hr a (by omega))))
        have vb : vis l y b = true := (hz b).2 (.inr (.inr (vis_self l hr b (by omega))))
        unfold goodN
        rw [ea, eb, va, vb, hk]
        simp
      · exact inner a (by omega) h7 hv fun z h1 h2 => by
          rw [Bool.eq_iff_iff, hz z]
          refine ⟨fun h => h.elim (fun h => by omega) fun h => h.elim id fun h => ?_, fun h => .inr (.inl h)⟩
          rw [vis_not l hr b (by omega) h8 z (.inl (by omega))] at h
          cases h
      · exact inner b (by omega) h8 hv fun z h1 h2 => by
          rw [Bool.eq_iff_iff, hz z]
          refine ⟨fun h => h.elim (fun h => by omega) fun h => h.elim (fun h => ?_) id, fun h => .inr (.inr h)⟩
          rw [vis_not l hr a (by omega) h7 z (.inr (by omega))] at h
          cases h
    · have hla := lowV_le l a
      have hlb := lowV_le l b
      rcases h7 with ⟨h7, h8⟩ | ⟨hna, h7, h8⟩
      · have hz : ∀ z, vis l q z = true ↔ z = q ∨ vis l a z = true := fun z => by rw [vis_at l hr q hq z, h8, ← vis_iff]
        rcases (hz y).1 hv with rfl | hv
        · have ea : l[y].kids.toNat = a := by rw [hA]; omega
          have eb : l[y].n.toNat = b := by rw [hB]; omega
          have va : vis l y a = true := (hz a).2 (.inr (vis_self l hr a (by omega)))
          have vb : vis l y b = false := by
            cases hb : vis l y b with
            | false => rfl
            | true =>
              rcases (hz b).1 hb with h | h
              · omega
              · rw [vis_not l hr a (by omega) h7 b (.inr (by omega))] at h; cases h
          unfold goodN
          rw [ea, eb, va, vb, hk]
          simp
        · exact inner a (by omega) h7 hv fun z h1 h2 => by
            rw [Bool.eq_iff_iff, hz z]
            exact ⟨fun h => h.elim (fun h => by omega) id, .inr⟩
      · have hz : ∀ z, vis l q z = true ↔ z = q ∨ vis l b z = true := fun z => by rw [vis_at l hr q hq z, h8, ← vis_iff]
        rcases (hz y).1 hv with rfl | hv
        · have ea : l[y].kids.toNat = a := by rw [hA]; omega
          have eb : l[y].n.toNat = b := by rw [hB]; omega
          have vb : vis l y b = true := (hz b).2 (.inr (vis_self l hr b (by omega)))
          have va : vis l y a = false := by
            cases ha : vis l y a with
            | false => rfl
            | true =>
              rcases (hz a).1 ha with h | h
              · omega
              · rw [vis_not l hr b (by omega) h7 a (.inl (by omega))] at h; cases h
          unfold goodN
          rw [ea, eb, va, vb, hk]
          simp
        · exact inner b (by omega) h7 hv fun z h1 h2 => by
            rw [Bool.eq_iff_iff, hz z]
            exact ⟨fun h => h.elim (fun h => by omega) id, .inr⟩
/-- **NullNested, plainly**: the steps of a node that can be nothing run from nothing open to nothing open, the node itself is opened, and what is opened is as it must be. -/
theorem nested_plain (l : List NdN) (hr : rightT l = true) (q : Nat) (hq : q < l.length) (hc : canF l q = true) :
    nsRun l q (ofN l q) true ([], fun _ => false) = some ([], vis l q) ∧ vis l q q = true ∧ ∀ y (hy : y < l.length), goodN (vis l q) y l[y] = true := by
  refine ⟨?_, vis_self l hr q hq, vis_good l hr q hq hc⟩
  have h := ns_node l hr q q hq hc true [] (fun _ => false) [] (fun _ _ _ => rfl) (.inl ⟨rfl, rfl⟩)
  rw [List.append_nil] at h
  rw [h, nsRun]
  congr 2
  funext y
  rw [Bool.or_false]
/-- How many steps there are. -/
theorem ofN_len (l : List NdN) (hr : rightT l = true) : ∀ q, q < l.length → canF l q = true → (ofN l q).length ≤ 2 * (q + 1 - lowV l q) := fun q => by
  induction q using Nat.strongRecOn with
  | ind q ih =>
    intro hq hc
    have hlq := lowV_le l q
    rw [ofN_eq l hr q hq]
    simp only [List.cons_append, List.length_cons, List.length_append, List.length_nil]
    rcases of_cases l hr q hq hc with ⟨_, _, _, _, h5⟩ | ⟨a, _, _, _, h3, h4, h5, h6⟩ | ⟨a, b, _, _, _, h3, h4, h5, h6, h7, h8, h9⟩ | ⟨a, b, _, _, _, h3, h4, h5, h6, h7⟩
    · rw [h5]; simp; omega
    · have := ih a (by omega) (by omega) h5
      have hla := lowV_le l a
      rw [h6]
      omega
    · have ha := ih a (by omega) (by omega) h7
      have hb := ih b (by omega) (by omega) h8
      have hlb := lowV_le l b
      have hla := lowV_le l a
      rw [h9, List.length_append]
      omega
    · have hlb := lowV_le l b
      have hla := lowV_le l a
      rcases h7 with ⟨h7, h8⟩ | ⟨_, h7, h8⟩
      · have ha := ih a (by omega) (by omega) h7
        rw [h8]
        omega
      · have hb := ih b (by omega) (by omega) h7
        rw [h8]
        omega
/-- Steps are steps of nodes that can be nothing. -/
theorem ofN_mem (l : List NdN) (hr : rightT l = true) : ∀ q, q < l.length → canF l q = true → ∀ s ∈ ofN l q, lowV l q ≤ s / 2 ∧ s / 2 ≤ q := fun q => by
  induction q using Nat.strongRecOn with
  | ind q ih =>
    intro hq hc s hs
    have hlq := lowV_le l q
    rw [ofN_eq l hr q hq] at hs
    simp only [List.cons_append, List.mem_cons, List.mem_append, List.not_mem_nil, or_false] at hs
    rcases hs with rfl | hs | rfl
    · omega
    · rcases of_cases l hr q hq hc with ⟨_, _, _, _, h5⟩ | ⟨a, _, _, _, h3, h4, h5, h6⟩ | ⟨a, b, _, _, _, h3, h4, h5, h6, h7, h8, h9⟩ | ⟨a, b, _, _, _, h3, h4, h5, h6, h7⟩
      · rw [h5] at hs; simp at hs
      · rw [h6] at hs
        have := ih a (by omega) (by omega) h5 s hs
        omega
      · have hlb := lowV_le l b
        have hla := lowV_le l a
        rw [h9, List.mem_append] at hs
        rcases hs with hs | hs
        · have := ih a (by omega) (by omega) h7 s hs
          omega
        · have := ih b (by omega) (by omega) h8 s hs
          omega
      · have hlb := lowV_le l b
        have hla := lowV_le l a
        rcases h7 with ⟨h7, h8⟩ | ⟨_, h7, h8⟩
        · rw [h8] at hs
          have := ih a (by omega) (by omega) h7 s hs
          omega
        · rw [h8] at hs
          have := ih b (by omega) (by omega) h7 s hs
          omega
    · omega
end Go.Proofs.YtdpkhliojbeglaaDoor

/- Terms as trees, plainly: what is written down of a tree is a term. Stage 11. -/
namespace Go.Proofs.YtdpkhliojbeglaaDoor
open Go.RowKit BS

inductive TT where
  | eps
  | leaf (s : BitVec 256)
  | cat (a b : TT)
  | alt (a b : TT)
  | star (a : TT)
  | maybe (a : TT)
  | grp (n : Int) (a : TT)
  | iter (a : TT)
/-- A node of one part, put behind it. -/
def unT (l : List NdN) (k n : Int) : List NdN := l ++ [⟨k, (l.length : Int) - 1, -1, n, 0⟩]
theorem unT_len (l : List NdN) (k n : Int) : (unT l k n).length = l.length + 1 := by simp [unT]
/-- The list of a tree. -/
def enc : TT → List NdN
  | .eps => [⟨1, -1, -1, 0, 0⟩]
  | .leaf s => [⟨2, -1, -1, 0, s⟩]
  | .cat a b => joinT (enc a) (enc b) 3
  | .alt a b => joinT (enc a) (enc b) 4
  | .star a => unT (enc a) 5 0
  | .maybe a => unT (enc a) 6 0
  | .grp n a => unT (enc a) 7 n
  | .iter a => unT (enc a) 8 0
def szT : TT → Nat
  | .eps => 1
  | .leaf _ => 1
  | .cat a b => szT a + szT b + 1
  | .alt a b => szT a + szT b + 1
  | .star a => szT a + 1
  | .maybe a => szT a + 1
  | .grp _ a => szT a + 1
  | .iter a => szT a + 1
def lvT : TT → Nat
  | .eps => 0
  | .leaf _ => 1
  | .cat a b => lvT a + lvT b
  | .alt a b => lvT a + lvT b
  | .star a => lvT a
  | .maybe a => lvT a
  | .grp _ a => lvT a
  | .iter a => lvT a
/-- The groups' numbers. -/
def inG : TT → Int → Prop
  | .eps, _ => False
  | .leaf _, _ => False
  | .cat a b, n => inG a n ∨ inG b n
  | .alt a b, n => inG a n ∨ inG b n
  | .star a, n => inG a n
  | .maybe a, n => inG a n
  | .grp m a, n => n = m ∨ inG a n
  | .iter a, n => inG a n
/-- Each group's number is from 1 to 9, and of no group in it. -/
def okG : TT → Prop
  | .eps => True
  | .leaf _ => True
  | .cat a b => okG a ∧ okG b
  | .alt a b => okG a ∧ okG b
  | .star a => okG a
  | .maybe a => okG a
  | .grp n a => (1 ≤ n ∧ n ≤ 9 ∧ ¬ inG a n) ∧ okG a
  | .iter a => okG a
theorem enc_len : ∀ t, (enc t).length = szT t
  | .eps => rfl
  | .leaf _ => rfl
  | .cat a b => by rw [enc, joinT_len, enc_len a, enc_len b]; rfl
  | .alt a b => by rw [enc, joinT_len, enc_len a, enc_len b]; rfl
  | .star a => by rw [enc, unT_len, enc_len a]; rfl
  | .maybe a => by rw [enc, unT_len, enc_len a]; rfl
  | .grp _ a => by rw [enc, unT_len, enc_len a]; rfl
  | .iter a => by rw [enc, unT_len, enc_len a]; rfl
theorem szT_pos : ∀ t, 0 < szT t
  | .eps => Nat.one_pos
  | .leaf _ => Nat.one_pos
  | .cat _ _ => Nat.succ_pos _
  | .alt _ _ => Nat.succ_pos _
  | .star _ => Nat.succ_pos _
  | .maybe _ => Nat.succ_pos _
  | .grp _ _ => Nat.succ_pos _
  | .iter _ => Nat.succ_pos _
theorem enc_ne (t : TT) : enc t ≠ [] := by
  intro h
  have h1 := enc_len t
  have h2 := szT_pos t
  rw [h] at h1
  simp at h1
  omega
theorem lf_un (l : List NdN) (k n : Int) (hk : k ≠ 2) : lfT (unT l k n) = lfT l := by
  unfold unT
  rw [lfT_app]
  have : lfT [(⟨k, (l.length : Int) - 1, -1, n, 0⟩ : NdN)] = 0 := by simp [lfT, hk]
  omega
theorem enc_lf : ∀ t, lfT (enc t) = lvT t
  | .eps => rfl
  | .leaf _ => rfl
  | .cat a b => by rw [enc, lfT_join _ _ _ (by decide), enc_lf a, enc_lf b]; rfl
  | .alt a b => by rw [enc, lfT_join _ _ _ (by decide), enc_lf a, enc_lf b]; rfl
  | .star a => by rw [enc, lf_un _ _ _ (by decide), enc_lf a]; rfl
  | .maybe a => by rw [enc, lf_un _ _ _ (by decide), enc_lf a]; rfl
  | .grp _ a => by rw [enc, lf_un _ _ _ (by decide), enc_lf a]; rfl
  | .iter a => by rw [enc, lf_un _ _ _ (by decide), enc_lf a]; rfl
/-- Groups of the list are groups of the tree. -/
theorem enc_grp : ∀ t n, (∃ x ∈ enc t, x.kind = 7 ∧ x.m = n) ↔ inG t n
  | .eps, n => by
    constructor
    · rintro ⟨x, hx, h7, _⟩; rw [enc, List.mem_singleton] at hx; subst hx; simp at h7
    · intro h; exact h.elim
  | .leaf s, n => by
    constructor
    · rintro ⟨x, hx, h7, _⟩; rw [enc, List.mem_singleton] at hx; subst hx; simp at h7
    · intro h; exact h.elim
  | .cat a b, n => by rw [enc, grp_join _ _ _ (by decide), enc_grp a n, enc_grp b n]; rfl
  | .alt a b, n => by rw [enc, grp_join _ _ _ (by decide), enc_grp a n, enc_grp b n]; rfl
  | .star a, n => by rw [enc, grp_un _ _ _ _ (by decide), enc_grp a n]; rfl
  | .maybe a, n => by rw [enc, grp_un _ _ _ _ (by decide), enc_grp a n]; rfl
  | .grp m a, n => by
    rw [enc]
    constructor
    · rintro ⟨x, hx, h7, hm⟩
      unfold unT at hx
      rw [List.mem_append, List.mem_singleton] at hx
      rcases hx with hx | rfl
      · exact .inr ((enc_grp a n).1 ⟨x, hx, h7, hm⟩)
      · exact .inl hm.symm
    · rintro (rfl | h)
      · exact ⟨_, List.mem_append_right _ (List.mem_singleton.2 rfl), rfl, rfl⟩
      · obtain ⟨x, hx, h7⟩ := (enc_grp a n).2 h
        exact ⟨x, List.mem_append_left _ hx, h7⟩
  | .iter a, n => by rw [enc, grp_un _ _ _ _ (by decide), enc_grp a n]; rfl
where
  grp_join (a b : List NdN) (k : Int) (hk : k ≠ 7) {n : Int} : (∃ x ∈ joinT a b k, x.kind = 7 ∧ x.m = n) ↔ (∃ x ∈ a, x.kind = 7 ∧ x.m = n) ∨ (∃ x ∈ b, x.kind = 7 ∧ x.m = n) := by
    unfold joinT
    constructor
    · rintro ⟨x, hx, h7, hm⟩
      simp only [List.mem_append, List.mem_map, List.mem_singleton] at hx
      rcases hx with (hx | ⟨y, hy, rfl⟩) | rfl
      · exact .inl ⟨x, hx, h7, hm⟩
      · exact .inr ⟨y, hy, h7, hm⟩
      · exact absurd h7 hk
    · rintro (⟨x, hx, h⟩ | ⟨x, hx, h⟩)
      · exact ⟨x, by simp [hx], h⟩
      · exact ⟨shN a.length x, by simp only [List.mem_append, List.mem_map, List.mem_singleton]; exact .inl (.inr ⟨x, hx, rfl⟩), h⟩
  grp_un (l : List NdN) (k m n : Int) (hk : k ≠ 7) : (∃ x ∈ unT l k m, x.kind = 7 ∧ x.m = n) ↔ ∃ x ∈ l, x.kind = 7 ∧ x.m = n := by
    unfold unT
    constructor
    · rintro ⟨x, hx, h7, hm⟩
      rw [List.mem_append, List.mem_singleton] at hx
      rcases hx with hx | rfl
      · exact ⟨x, hx, h7, hm⟩
      · exact absurd h7 hk
    · rintro ⟨x, hx, h⟩
      exact ⟨x, List.mem_append_left _ hx, h⟩
/-- **A node of one part, behind it, is a term.** -/
theorem un_q (l : List NdN) (k n : Int) (hk : 5 ≤ k ∧ k ≤ 8) (h : TermQ l) (hl : l.length + 1 ≤ 400) (hn : k ≠ 7 → n = 0) (h7 : k = 7 → 1 ≤ n ∧ n ≤ 9 ∧ ¬ ∃ x ∈ l, x.kind = 7 ∧ x.m = n) : TermQ (unT l k n) := by
  have hpk : pcT k = 1 := by unfold pcT; rw [if_neg (by omega), if_pos (by omega)]
  have hps : psT (unT l k n) = psT l ++ [pcT k] := by unfold unT; rw [psT_app]; rfl
  have hja := psT_len l
  refine ⟨?_, by rw [unT_len]; omega, by rw [unT_len]; exact hl, by rw [lf_un _ _ _ (by omega)]; exact h.leaf, fun i hi => ?_⟩
  · rw [hps, stackF_append, h.stack, unT_len, hpk]
    show some [1 + _] = _
    simp
    omega
  · rw [unT_len] at hi
    rcases Nat.lt_or_ge i l.length with h1 | h1
    · obtain ⟨s, hs, hf⟩ := h.fine i h1
      have e : ∀ q (hq : q < l.length), (unT l k n)[q]'(by rw [unT_len]; omega) = l[q] := fun q hq => by
        unfold unT; rw [List.getElem_append_left hq]
      refine ⟨s, ?_, ?_⟩
      · rw [hps, List.take_append_of_le_length (by omega)]
        exact hs
      · rw [e i h1]
        rw [fineT_iff] at hf ⊢
        refine ⟨hf.1, hf.2.1, hf.2.2.1, fun h7 q hq hlo y hy => hf.2.2.2 h7 q hq hlo y ?_⟩
        rw [List.getElem?_eq_getElem (by rw [unT_len]; omega), e q (by omega)] at hy
        rw [List.getElem?_eq_getElem (by omega)]
        exact hy
    · obtain rfl : i = l.length := by omega
      have er : (unT l k n)[l.length]'(by rw [unT_len]; omega) = ⟨k, (l.length : Int) - 1, -1, n, 0⟩ := by
        unfold unT
        rw [List.getElem_append_right (Nat.le_refl _)]
        simp
      have hp := h.pos
      refine ⟨[l.length], ?_, ?_⟩
      · rw [hps, List.take_append_of_le_length (by omega), List.take_of_length_le (by omega)]
        exact h.stack
      · rw [er, fineT_iff]
        refine ⟨?_, by show pcT k ≤ 1; omega, ?_, fun hk7 q hq _ y hy hy2 => ?_⟩
        · unfold kindT
          rw [decide_eq_true_eq]
          refine ⟨by show 1 ≤ k; omega, by show k ≤ 8; omega, .inr rfl, ?_, fun h => ?_, fun h => ?_, fun _ => rfl⟩
          · by_cases h7' : k = 7
            · exact .inl h7'
            · exact .inr (hn h7')
          · exact ⟨(h7 h).1, (h7 h).2.1⟩
          · exfalso; simp only at h; omega
        · unfold argT
          show (if pcT k = 2 then _ else _) = _
          rw [if_neg (by omega)]
          show (if pcT k = 1 then _ else _) = _
          rw [if_pos hpk]
          simp only [posF, List.getD_cons_zero]
          refine decide_eq_true ?_
          show (l.length : Int) - 1 = _
          omega
        · rw [List.getElem?_eq_getElem (by rw [unT_len]; omega)] at hy
          have e : (unT l k n)[q]'(by rw [unT_len]; omega) = l[q] := by unfold unT; rw [List.getElem_append_left (by omega)]
          rw [e] at hy
          cases hy
          exact (h7 hk7).2.2 ⟨l[q], List.getElem_mem _, hy2⟩
/-- **The list of a tree is a term.** -/
theorem enc_q : ∀ t, okG t → szT t ≤ 400 → lvT t ≤ 64 → TermQ (enc t)
  | .eps, _, _, _ => rightT_q _ (by decide)
  | .leaf s, _, _, _ => by
    refine ⟨rfl, by show 0 < 1; omega, by show 1 ≤ 400; omega, by show 1 ≤ 64; omega, fun i hi => ?_⟩
    obtain rfl : i = 0 := by have : i < 1 := hi; omega
    refine ⟨[], rfl, ?_⟩
    rw [fineT_iff]
    refine ⟨?_, Nat.le_refl _, rfl, fun _ k hk => absurd hk (Nat.not_lt_zero k)⟩
    unfold kindT
    rw [decide_eq_true_eq]
    show 1 ≤ (2 : Int) ∧ (2 : Int) ≤ 8 ∧ ((2 : Int) = 2 ∨ s = 0) ∧ ((2 : Int) = 7 ∨ (0 : Int) = 0) ∧ ((2 : Int) = 7 → 1 ≤ (0 : Int) ∧ (0 : Int) ≤ 9) ∧ (pcT 2 = 0 → (-1 : Int) = -1) ∧ (pcT 2 ≠ 2 → (-1 : Int) = -1)
    exact ⟨by decide, by decide, .inl rfl, .inr rfl, fun h => absurd h (by decide), fun _ => rfl, fun _ => rfl⟩
  | .cat a b, h, hs, hl => by
    simp only [szT, lvT] at hs hl
    exact join_q _ _ 3 (.inl rfl) (enc_q a h.1 (by omega) (by omega)) (enc_q b h.2 (by omega) (by omega)) (by rw [enc_len, enc_len]; exact hs) (by rw [enc_lf, enc_lf]; exact hl)
  | .alt a b, h, hs, hl => by
    simp only [szT, lvT] at hs hl
    exact join_q _ _ 4 (.inr rfl) (enc_q a h.1 (by omega) (by omega)) (enc_q b h.2 (by omega) (by omega)) (by rw [enc_len, enc_len]; exact hs) (by rw [enc_lf, enc_lf]; exact hl)
  | .star a, h, hs, hl => by
    simp only [szT, lvT] at hs hl
    exact un_q _ 5 0 (by decide) (enc_q a h (by omega) hl) (by rw [enc_len]; exact hs) (fun _ => rfl) (fun h => by exfalso; revert h; decide)
  | .maybe a, h, hs, hl => by
    simp only [szT, lvT] at hs hl
    exact un_q _ 6 0 (by decide) (enc_q a h (by omega) hl) (by rw [enc_len]; exact hs) (fun _ => rfl) (fun h => by exfalso; revert h; decide)
  | .grp n a, h, hs, hl => by
    simp only [szT, lvT] at hs hl
    exact un_q _ 7 n (by decide) (enc_q a h.2 (by omega) hl) (by rw [enc_len]; exact hs) (fun h => absurd rfl h) (fun _ => ⟨h.1.1, h.1.2.1, fun hx => h.1.2.2 ((enc_grp a n).1 hx)⟩)
  | .iter a, h, hs, hl => by
    simp only [szT, lvT] at hs hl
    exact un_q _ 8 0 (by decide) (enc_q a h (by omega) hl) (by rw [enc_len]; exact hs) (fun _ => rfl) (fun h => by exfalso; revert h; decide)
end Go.Proofs.YtdpkhliojbeglaaDoor

/- What a pattern's tree is as a term, plainly. Stage 11. -/
namespace Go.Proofs.YtdpkhliojbeglaaDoor
open Go.RowKit BS

/-! ### Something told of each node by what is told of its kids -/
theorem kid_lt (l : List NdN) (h : FormedN l) (i : Nat) (hi : i < l.length) (x : Int) (hx : x ∈ kidsR l i) : 0 ≤ x ∧ x < (i : Int) := by
  obtain ⟨A, hA, h0, _, hk⟩ := kids_row l h i hi
  obtain ⟨k, hk1, e⟩ := List.getElem_of_mem hx
  obtain ⟨h1, h2, h3, _⟩ := hk k hk1
  rw [h3] at e
  omega
theorem kids_len (l : List NdN) (h : FormedN l) (i : Nat) (hi : i < l.length) : ((kidsR l i).length : Int) = l[i].kids := by
  obtain ⟨hst, hlen, _⟩ := formed_stack l h
  have hlk : i < (ksN l).length := by omega
  obtain ⟨s, hs, hks, _⟩ := stack_at (ksN l) [] _ hst i hlk
  have hk0 := formed_kids l h l[i] (List.getElem_mem hi)
  have e : (ksN l)[i] = l[i].kids.toNat := by simp [ksN]
  unfold kidsR
  rw [if_pos ⟨h, by omega, by omega⟩, show (i : Int).toNat = i from rfl, allKids_at (ksN l) i hlk s hs, Option.getD_some, List.length_map, List.length_reverse, List.length_take, posF_len, e]
  rw [e] at hks
  omega
section
variable {α : Type}
def rowsA (d : α) (l : List NdN) (f : Nat → List α → α) : Nat → List α
  | 0 => []
  | n + 1 => rowsA d l f n ++ [f n ((kidsR l n).map fun k => (rowsA d l f n).getD k.toNat d)]
def valA (d : α) (l : List NdN) (f : Nat → List α → α) (i : Nat) : α := (rowsA d l f (i + 1)).getD i d
theorem rowsA_len (d : α) (l : List NdN) (f : Nat → List α → α) : ∀ n, (rowsA d l f n).length = n
  | 0 => rfl
  | n + 1 => by rw [rowsA, List.length_append, rowsA_len d l f n]; rfl
theorem rowsA_get (d : α) (l : List NdN) (f : Nat → List α → α) (i : Nat) : ∀ n, i < n → (rowsA d l f n)[i]? = some (valA d l f i)
  | n + 1, h => by
    by_cases hi : i = n
    · subst hi
      unfold valA
      rw [List.getD_eq_getElem?_getD, List.getElem?_eq_getElem (by rw [rowsA_len]; omega), Option.getD_some]
    · rw [rowsA, List.getElem?_append_left (by rw [rowsA_len]; omega)]
      exact rowsA_get d l f i n (by omega)
theorem valA_eq (d : α) (l : List NdN) (f : Nat → List α → α) (h : FormedN l) (i : Nat) (hi : i < l.length) : valA d l f i = f i ((kidsR l i).map fun k => valA d l f k.toNat) := by
  have e : valA d l f i = f i ((kidsR l i).map fun k => (rowsA d l f i).getD k.toNat d) := by
    unfold valA
    rw [rowsA, List.getD_eq_getElem?_getD, List.getElem?_append_right (by rw [rowsA_len]; exact Nat.le_refl _), rowsA_len, Nat.sub_self]
    rfl
  rw [e]
  congr 1
  refine List.map_congr_left fun k hk => ?_
  obtain ⟨h1, h2⟩ := kid_lt l h i hi k hk
  rw [List.getD_eq_getElem?_getD, rowsA_get d l f k.toNat i (by omega), Option.getD_some]
end
def zN : NdN := ⟨0, 0, 0, 0, 0⟩
theorem getD_z (l : List NdN) (i : Nat) (h : i < l.length) : l.getD i zN = l[i] := by
  rw [List.getD_eq_getElem?_getD, List.getElem?_eq_getElem h, Option.getD_some]
/-! ### May be nothing -/
def nlN (l : List NdN) (i : Nat) (ks : List Bool) : Bool :=
  let x := l.getD i zN
  if x.kind = 1 then true
  else if x.kind = 3 ∨ x.kind = 5 then ks.all id
  else if x.kind = 4 then (x.m == 0) || ((x.n == 0) || ks.all id)
  else if x.kind = 6 then ks.any id
  else false
def nulV (l : List NdN) (i : Nat) : Bool := valA false l (nlN l) i
/-! ### Its term -/
def jnT (c : TT → TT → TT) : List TT → TT
  | [] => .eps
  | [t] => t
  | t :: ts => c t (jnT c ts)
def lkT (one : TT) : Nat → TT
  | 0 => .eps
  | 1 => .maybe one
  | k + 1 => .maybe (.cat one (lkT one k))
/-- How many copies of a Rep there are, and how many may lack (-1: without end). -/
def cpN (x : NdN) (null : Bool) : Int × Int :=
  let n := if x.n = 0 ∧ null = true then 1 else x.n
  if x.m = -1 then (n, -1) else if n < x.m then (n, x.m - n) else (n, 0)
def allT (one : TT) (many more : Int) : List TT := List.replicate many.toNat one ++ (if more = -1 then [.star one] else if 0 < more then [lkT one more.toNat] else [])
def tmN (l : List NdN) (i : Nat) (ks : List TT) : TT :=
  let x := l.getD i zN
  if x.kind = 2 then .leaf x.set
  else if x.kind = 3 then .grp ((numsR l).getD i 0) (ks.headD .eps)
  else if x.kind = 5 then jnT .cat ks
  else if x.kind = 6 then jnT .alt ks
  else if x.kind = 1 ∨ x.m = 0 then .eps
  else
    let c := cpN x (nulV l ((kidsR l i).headD 0).toNat)
    jnT .cat (allT (.iter (ks.headD .eps)) c.1 c.2)
def tmV (l : List NdN) (i : Nat) : TT := valA .eps l (tmN l) i
/-! ### What a node of a pattern's tree is -/
theorem node_right (l : List NdN) (h : rightR l = true) (i : Nat) (hi : i < l.length) :
    (l[i].kind = 1 ∧ kidsR l i = []) ∨ (l[i].kind = 2 ∧ kidsR l i = []) ∨ (∃ a : Nat, l[i].kind = 3 ∧ kidsR l i = [(a : Int)] ∧ a < i) ∨
    (∃ a : Nat, l[i].kind = 4 ∧ kidsR l i = [(a : Int)] ∧ a < i ∧ rightN l[i].n l[i].m = true) ∨ ((l[i].kind = 5 ∨ l[i].kind = 6) ∧ 2 ≤ (kidsR l i).length) := by
  obtain ⟨hf, hn, _, _⟩ := (rightR_iff l).1 h
  have hx := hn l[i] (List.getElem_mem hi)
  have hkl := kids_len l hf i hi
  have hk := kid_lt l hf i hi
  generalize kidsR l i = K at *
  unfold nodeF at hx
  split at hx
  · cases hx
  split at hx
  · cases hx
  have one : K.length = 1 → ∃ a : Nat, K = [(a : Int)] ∧ a < i := fun h1 => by
    obtain _ | ⟨y, _ | ⟨_, _⟩⟩ := K
    · simp at h1
    · obtain ⟨h2, h3⟩ := hk y (List.mem_singleton.2 rfl)
      exact ⟨y.toNat, by rw [Int.toNat_of_nonneg h2], by omega⟩
    · simp at h1
  split at hx
  · rename_i h12
    rw [beq_iff_eq] at hx
    have hK : K = [] := List.length_eq_zero_iff.1 (by omega)
    rcases h12 with h1 | h1
    · exact .inl ⟨h1, hK⟩
    · exact .inr (.inl ⟨h1, hK⟩)
  split at hx
  · rename_i h3
    rw [beq_iff_eq] at hx
    obtain ⟨a, e, ha⟩ := one (by omega)
    exact .inr (.inr (.inl ⟨a, h3, e, ha⟩))
  split at hx
  · rename_i h4
    rw [Bool.and_eq_true, beq_iff_eq] at hx
    obtain ⟨a, e, ha⟩ := one (by omega)
    exact .inr (.inr (.inr (.inl ⟨a, h4, e, ha, hx.2⟩)))
  split at hx
  · rename_i h56
    exact .inr (.inr (.inr (.inr ⟨h56, by have := of_decide_eq_true hx; omega⟩)))
  · cases hx
theorem rightN_iff (n m : Int) : rightN n m = true ↔ 0 ≤ n ∧ n ≤ 99 ∧ (m = -1 ∨ (n ≤ m ∧ m ≤ 99)) := by
  unfold rightN
  simp only [Bool.and_eq_true, Bool.or_eq_true, decide_eq_true_eq, beq_iff_eq]
  constructor
  · rintro ⟨⟨a, b⟩, c⟩; exact ⟨a, b, c⟩
  · rintro ⟨a, b, c⟩; exact ⟨⟨a, b⟩, c⟩
/-- A Rep's copies. -/
theorem cp_bounds (x : NdN) (b : Bool) (h : rightN x.n x.m = true) (hm : x.m ≠ 0) : ∃ many : Nat, (cpN x b).1 = many ∧ many ≤ 99 ∧ ((cpN x b).2 = -1 ∨ ∃ more : Nat, (cpN x b).2 = more ∧ more ≤ 99 ∧ 0 < many + more) := by
  obtain ⟨h1, h2, h3⟩ := (rightN_iff _ _).1 h
  unfold cpN
  by_cases hn : x.n = 0 ∧ b = true
  · simp only [if_pos hn]
    by_cases hm1 : x.m = -1
    · rw [if_pos hm1]
      exact ⟨1, rfl, by omega, .inl rfl⟩
    · rw [if_neg hm1]
      by_cases hlt : 1 < x.m
      · rw [if_pos hlt]
        exact ⟨1, rfl, by omega, .inr ⟨(x.m - 1).toNat, by show x.m - 1 = _; omega, by omega, by omega⟩⟩
      · rw [if_neg hlt]
        exact ⟨1, rfl, by omega, .inr ⟨0, rfl, by omega, by omega⟩⟩
  · simp only [if_neg hn]
    by_cases hm1 : x.m = -1
    · rw [if_pos hm1]
      exact ⟨x.n.toNat, by show x.n = _; omega, by omega, .inl rfl⟩
    · rw [if_neg hm1]
      by_cases hlt : x.n < x.m
      · rw [if_pos hlt]
        exact ⟨x.n.toNat, by show x.n = _; omega, by omega, .inr ⟨(x.m - x.n).toNat, by show x.m - x.n = _; omega, by omega, by omega⟩⟩
      · rw [if_neg hlt]
        exact ⟨x.n.toNat, by show x.n = _; omega, by omega, .inr ⟨0, rfl, by omega, by omega⟩⟩
/-! ### Sizes -/
def sumB (f : TT → Nat) (L : List TT) : Nat := (L.map f).sum
theorem jn_sz (c : TT → TT → TT) (hc : ∀ a b, szT (c a b) = szT a + szT b + 1) : ∀ L : List TT, L ≠ [] → szT (jnT c L) = sumB szT L + (L.length - 1)
  | [], h => absurd rfl h
  | [t], _ => by simp [jnT, sumB]
  | t :: u :: L, _ => by
    rw [jnT, hc, jn_sz c hc (u :: L) (by simp)]
    · simp [sumB]
      omega
    · simp
theorem jn_lv (c : TT → TT → TT) (hc : ∀ a b, lvT (c a b) = lvT a + lvT b) : ∀ L : List TT, lvT (jnT c L) = sumB lvT L
  | [] => rfl
  | [t] => by simp [jnT, sumB]
  | t :: u :: L => by
    rw [jnT, hc, jn_lv c hc (u :: L)]
    · simp [sumB]
    · simp
theorem lk_sz (one : TT) : ∀ k, 0 < k → szT (lkT one k) = k * szT one + (k - 1) + k
  | 1, _ => by simp [lkT, szT]
  | k + 2, _ => by
    rw [lkT, szT, szT, lk_sz one (k + 1) (by omega)]
    rw [Nat.succ_mul (k + 1)]
    omega
    · omega
theorem lk_lv (one : TT) : ∀ k, lvT (lkT one k) = k * lvT one
  | 0 => by simp [lkT, lvT]
  | 1 => by simp [lkT, lvT]
  | k + 2 => by
    rw [lkT, lvT, lvT, lk_lv one (k + 1), Nat.succ_mul (k + 1)]
    omega
    · omega
theorem sum_rep (f : TT → Nat) (one : TT) (k : Nat) : sumB f (List.replicate k one) = k * f one := by simp [sumB]
theorem sum_app (f : TT → Nat) (a b : List TT) : sumB f (a ++ b) = sumB f a + sumB f b := by simp [sumB]
/-- How great the term of a Rep is. -/
theorem rep_sz (one : TT) (many : Nat) (more : Int) (h : more = -1 ∨ ∃ k : Nat, more = k ∧ 0 < many + k) :
    szT (jnT .cat (allT one many more)) = if more = -1 then (many + 1) * szT one + many + 1 else (many + more.toNat) * szT one + (many + more.toNat - 1) + more.toNat := by
  unfold allT
  rw [Int.toNat_natCast]
  rcases h with rfl | ⟨k, rfl, hk⟩
  · rw [if_pos rfl, if_pos rfl, jn_sz .cat (fun _ _ => rfl) _ (by simp), sum_app, sum_rep]
    simp [sumB, szT, Nat.succ_mul]
    omega
  · have hk1 : ¬ ((k : Int) = -1) := by omega
    rw [if_neg hk1, if_neg hk1, Int.toNat_natCast]
    by_cases h0 : 0 < (k : Int)
    · rw [if_pos h0, jn_sz .cat (fun _ _ => rfl) _ (by simp), sum_app, sum_rep]
      have := lk_sz one k (by omega)
      simp only [sumB, List.map_cons, List.map_nil, List.sum_cons, List.sum_nil, Nat.add_zero, List.length_append, List.length_replicate, List.length_cons, List.length_nil, Nat.add_mul]
      omega
    · obtain rfl : k = 0 := by omega
      rw [if_neg h0, List.append_nil, jn_sz .cat (fun _ _ => rfl) _ (by intro h; have := congrArg List.length h; simp at this; omega), sum_rep]
      simp
theorem rep_lv (one : TT) (many : Nat) (more : Int) (h : more = -1 ∨ ∃ k : Nat, more = k ∧ 0 < many + k) :
    lvT (jnT .cat (allT one many more)) = if more = -1 then (many + 1) * lvT one else (many + more.toNat) * lvT one := by
  unfold allT
  rw [Int.toNat_natCast, jn_lv .cat (fun _ _ => rfl)]
  rcases h with rfl | ⟨k, rfl, hk⟩
  · rw [if_pos rfl, if_pos rfl, sum_app, sum_rep]
    simp [sumB, lvT, Nat.succ_mul]
  · have hk1 : ¬ ((k : Int) = -1) := by omega
    rw [if_neg hk1, if_neg hk1, Int.toNat_natCast]
    by_cases h0 : 0 < (k : Int)
    · rw [if_pos h0, sum_app, sum_rep]
      have := lk_lv one k
      simp only [sumB, List.map_cons, List.map_nil, List.sum_cons, List.sum_nil, Nat.add_zero, Nat.add_mul]
      omega
    · obtain rfl : k = 0 := by omega
      rw [if_neg h0, List.append_nil, sum_rep]
      simp
end Go.Proofs.YtdpkhliojbeglaaDoor

/- What a pattern's tree is as a term, plainly: node by node; how great it is. Stage 11. -/
namespace Go.Proofs.YtdpkhliojbeglaaDoor
open Go.RowKit BS

theorem nul_eq (l : List NdN) (h : FormedN l) (i : Nat) (hi : i < l.length) : nulV l i = nlN l i ((kidsR l i).map fun k => nulV l k.toNat) := valA_eq _ _ _ h i hi
theorem tm_eq (l : List NdN) (h : FormedN l) (i : Nat) (hi : i < l.length) : tmV l i = tmN l i ((kidsR l i).map fun k => tmV l k.toNat) := valA_eq _ _ _ h i hi
theorem right_formed (l : List NdN) (h : rightR l = true) : FormedN l := ((rightR_iff l).1 h).1
theorem tm_eps (l : List NdN) (h : rightR l = true) (i : Nat) (hi : i < l.length) (hk : l[i].kind = 1 ∨ (l[i].kind = 4 ∧ l[i].m = 0)) : tmV l i = .eps := by
  rw [tm_eq l (right_formed l h) i hi]
  unfold tmN
  simp only [getD_z l i hi]
  rcases hk with hk | ⟨hk, hm⟩
  · rw [hk, if_neg (by decide), if_neg (by decide), if_neg (by decide), if_neg (by decide), if_pos (.inl rfl)]
  · rw [hk, hm, if_neg (by decide), if_neg (by decide), if_neg (by decide), if_neg (by decide), if_pos (.inr rfl)]
theorem tm_leaf (l : List NdN) (h : rightR l = true) (i : Nat) (hi : i < l.length) (hk : l[i].kind = 2) : tmV l i = .leaf l[i].set := by
  rw [tm_eq l (right_formed l h) i hi]
  unfold tmN
  simp only [getD_z l i hi]
  rw [if_pos hk]
theorem tm_grp (l : List NdN) (h : rightR l = true) (i : Nat) (hi : i < l.length) (hk : l[i].kind = 3) (a : Nat) (ha : kidsR l i = [(a : Int)]) : tmV l i = .grp ((numsR l).getD i 0) (tmV l a) := by
  rw [tm_eq l (right_formed l h) i hi, ha]
  unfold tmN
  simp only [getD_z l i hi]
  rw [if_neg (by omega), if_pos hk]
  rfl
theorem tm_rep (l : List NdN) (h : rightR l = true) (i : Nat) (hi : i < l.length) (hk : l[i].kind = 4) (hm : l[i].m ≠ 0) (a : Nat) (ha : kidsR l i = [(a : Int)]) :
    tmV l i = jnT .cat (allT (.iter (tmV l a)) (cpN l[i] (nulV l a)).1 (cpN l[i] (nulV l a)).2) := by
  rw [tm_eq l (right_formed l h) i hi]
  unfold tmN
  simp only [getD_z l i hi, ha]
  rw [if_neg (by omega), if_neg (by omega), if_neg (by omega), if_neg (by omega), if_neg (by omega)]
  rfl
theorem tm_cat (l : List NdN) (h : rightR l = true) (i : Nat) (hi : i < l.length) (hk : l[i].kind = 5) : tmV l i = jnT .cat ((kidsR l i).map fun k => tmV l k.toNat) := by
  rw [tm_eq l (right_formed l h) i hi]
  unfold tmN
  simp only [getD_z l i hi]
  rw [if_neg (by omega), if_neg (by omega), if_pos hk]
theorem tm_alt (l : List NdN) (h : rightR l = true) (i : Nat) (hi : i < l.length) (hk : l[i].kind = 6) : tmV l i = jnT .alt ((kidsR l i).map fun k => tmV l k.toNat) := by
  rw [tm_eq l (right_formed l h) i hi]
  unfold tmN
  simp only [getD_z l i hi]
  rw [if_neg (by omega), if_neg (by omega), if_neg (by omega), if_pos hk]
/-! ### How great -/
/-- A number, or what is told of more. -/
def mn (n : Nat) : Nat := min n 1000000
def szV (l : List NdN) (i : Nat) : Nat := szT (tmV l i)
def lvV (l : List NdN) (i : Nat) : Nat := lvT (tmV l i)
/-- What is told of kids, all together. -/
def smN (f : Nat → Nat) (K : List Int) : Nat := (K.map fun k => f k.toNat).sum
theorem smN_nil (f : Nat → Nat) : smN f [] = 0 := rfl
theorem smN_snoc (f : Nat → Nat) (K : List Int) (k : Int) : smN f (K ++ [k]) = smN f K + f k.toNat := by simp [smN]
theorem mn_add (a b : Nat) : mn (mn a + mn b) = mn (a + b) := by unfold mn; omega
theorem mn_le (a : Nat) : mn a ≤ 1000000 := Nat.min_le_right _ _
/-- What the document tells of a node, by what it tells of its kids. -/
def szE (x : NdN) (kc n m : Nat) (null : Bool) : Nat × Nat :=
  if x.kind = 1 then (1, m)
  else if x.kind = 2 then (1, 1)
  else if x.kind = 3 then (n + 1, m)
  else if x.kind = 5 ∨ x.kind = 6 then (n + kc - 1, m)
  else if x.m = 0 then (1, 0)
  else if (cpN x null).2 = -1 then (((cpN x null).1.toNat + 1) * (n + 1) + (cpN x null).1.toNat + 1, ((cpN x null).1.toNat + 1) * m)
  else (((cpN x null).1.toNat + (cpN x null).2.toNat) * (n + 1) + ((cpN x null).1.toNat + (cpN x null).2.toNat - 1) + (cpN x null).2.toNat, ((cpN x null).1.toNat + (cpN x null).2.toNat) * m)
theorem le_sum : ∀ (L : List Nat) (x : Nat), x ∈ L → x ≤ L.sum
  | y :: L, x, h => by
    rw [List.sum_cons]
    rcases List.mem_cons.1 h with rfl | h
    · omega
    · have := le_sum L x h; omega
theorem sum_kids (l : List NdN) (f : TT → Nat) (K : List Int) : sumB f (K.map fun k => tmV l k.toNat) = smN (fun i => f (tmV l i)) K := by
  unfold sumB smN
  rw [List.map_map]
  rfl
theorem mul_big (a s : Nat) (ha : 0 < a) (hs : 1000000 ≤ s) : 1000000 ≤ a * s := Nat.le_trans hs (Nat.le_mul_of_pos_left s ha)
theorem mn_lin (a s e : Nat) (ha : 0 < a) : mn (a * (mn s + 1) + e) = mn (a * (s + 1) + e) := by
  unfold mn
  by_cases h : s ≤ 1000000
  · rw [Nat.min_eq_left h]
  · rw [Nat.min_eq_right (show 1000000 ≤ s by omega)]
    have h1 := mul_big a (1000000 + 1) ha (by omega)
    have h2 := mul_big a (s + 1) ha (by omega)
    omega
theorem mn_mul (a s : Nat) (ha : 0 < a) : mn (a * mn s) = mn (a * s) := by
  unfold mn
  by_cases h : s ≤ 1000000
  · rw [Nat.min_eq_left h]
  · rw [Nat.min_eq_right (show 1000000 ≤ s by omega)]
    have h1 := mul_big a 1000000 ha (by omega)
    have h2 := mul_big a s ha (by omega)
    omega
/-- **What the document tells of a node is how great its term is.** -/
theorem size_step (l : List NdN) (h : rightR l = true) (i : Nat) (hi : i < l.length) :
    mn (szE l[i] (kidsR l i).length (mn (smN (szV l) (kidsR l i))) (mn (smN (lvV l) (kidsR l i))) (nulV l ((kidsR l i).headD 0).toNat)).1 = mn (szV l i) ∧
    mn (szE l[i] (kidsR l i).length (mn (smN (szV l) (kidsR l i))) (mn (smN (lvV l) (kidsR l i))) (nulV l ((kidsR l i).headD 0).toNat)).2 = mn (lvV l i) := by
  rcases node_right l h i hi with ⟨hk, hK⟩ | ⟨hk, hK⟩ | ⟨a, hk, hK, ha⟩ | ⟨a, hk, hK, ha, hr⟩ | ⟨hk, hK⟩
  · have e := tm_eps l h i hi (.inl hk)
    unfold szE szV lvV
    rw [if_pos hk, e, hK]
    exact ⟨rfl, rfl⟩
  · have e := tm_leaf l h i hi hk
    unfold szE szV lvV
    rw [if_neg (by omega), if_pos hk, e]
    exact ⟨rfl, rfl⟩
  · have e := tm_grp l h i hi hk a hK
    unfold szE szV lvV
    rw [if_neg (by omega), if_neg (by omega), if_pos hk, e, hK]
    simp only [smN, List.map_cons, List.map_nil, List.sum_cons, List.sum_nil, Nat.add_zero, Int.toNat_natCast, szT, lvT]
    unfold mn
    omega
  · by_cases hm : l[i].m = 0
    · have e := tm_eps l h i hi (.inr ⟨hk, hm⟩)
      unfold szE szV lvV
      rw [if_neg (by omega), if_neg (by omega), if_neg (by omega), if_neg (by omega), if_pos hm, e]
      exact ⟨rfl, rfl⟩
    · have e := tm_rep l h i hi hk hm a hK
      obtain ⟨many, hc1, hmb, hc2⟩ := cp_bounds l[i] (nulV l a) hr hm
      unfold szE szV lvV
      rw [if_neg (by omega), if_neg (by omega), if_neg (by omega), if_neg (by omega), if_neg hm, e, hK]
      have e1 : smN (fun i => szT (tmV l i)) [(a : Int)] = szT (tmV l a) := by simp [smN]
      have e2 : smN (fun i => lvT (tmV l i)) [(a : Int)] = lvT (tmV l a) := by simp [smN]
      rw [e1, e2, show ([(a : Int)].headD 0).toNat = a from rfl, hc1]
      generalize (cpN l[i] (nulV l a)).2 = more at *
      have hcc : more = -1 ∨ ∃ k : Nat, more = k ∧ 0 < many + k := hc2.imp id (fun ⟨k, h1, _, h3⟩ => ⟨k, h1, h3⟩)
      rw [rep_sz _ many more hcc, rep_lv _ many more hcc]
      simp only [Int.toNat_natCast, szT, lvT]
      rcases hcc with rfl | ⟨k, rfl, hk0⟩
      · rw [if_pos rfl, if_pos rfl, if_pos rfl]
        refine ⟨?_, mn_mul _ _ (by omega)⟩
        have := mn_lin (many + 1) (szT (tmV l a)) (many + 1) (by omega)
        exact this
      · have hk1 : ¬ ((k : Int) = -1) := by omega
        rw [if_neg hk1, if_neg hk1, if_neg hk1, Int.toNat_natCast]
        refine ⟨?_, mn_mul _ _ hk0⟩
        have := mn_lin (many + k) (szT (tmV l a)) ((many + k - 1) + k) hk0
        rw [← Nat.add_assoc, ← Nat.add_assoc] at this
        exact this
  · have hne : (kidsR l i).map (fun k => tmV l k.toNat) ≠ [] := by intro h; have := congrArg List.length h; simp at this; rw [this] at hK; simp at hK
    have e1 : szT (tmV l i) = smN (szV l) (kidsR l i) + ((kidsR l i).length - 1) := by
      rcases hk with hk | hk
      · rw [tm_cat l h i hi hk, jn_sz .cat (fun _ _ => rfl) _ hne, sum_kids, List.length_map]; rfl
      · rw [tm_alt l h i hi hk, jn_sz .alt (fun _ _ => rfl) _ hne, sum_kids, List.length_map]; rfl
    have e2 : lvT (tmV l i) = smN (lvV l) (kidsR l i) := by
      rcases hk with hk | hk
      · rw [tm_cat l h i hi hk, jn_lv .cat (fun _ _ => rfl), sum_kids]; rfl
      · rw [tm_alt l h i hi hk, jn_lv .alt (fun _ _ => rfl), sum_kids]; rfl
    unfold szE
    rw [if_neg (by omega), if_neg (by omega), if_neg (by omega), if_pos hk]
    unfold szV at e1 ⊢
    unfold lvV at e2 ⊢
    rw [e1, e2]
    unfold mn
    omega
/-- A kid's term is no greater than the node's, if it is in it. -/
theorem kid_small (l : List NdN) (h : rightR l = true) (i : Nat) (hi : i < l.length) (hm : ¬ (l[i].kind = 4 ∧ l[i].m = 0)) (x : Int) (hx : x ∈ kidsR l i) : szV l x.toNat ≤ szV l i := by
  unfold szV
  rcases node_right l h i hi with ⟨hk, hK⟩ | ⟨hk, hK⟩ | ⟨a, hk, hK, ha⟩ | ⟨a, hk, hK, ha, hr⟩ | ⟨hk, hK⟩
  · rw [hK] at hx; simp at hx
  · rw [hK] at hx; simp at hx
  · rw [hK, List.mem_singleton] at hx
    subst hx
    rw [tm_grp l h i hi hk a hK, Int.toNat_natCast]
    exact Nat.le_succ _
  · rw [hK, List.mem_singleton] at hx
    subst hx
    have hm0 : l[i].m ≠ 0 := fun h0 => hm ⟨hk, h0⟩
    obtain ⟨many, hc1, hmb, hc2⟩ := cp_bounds l[i] (nulV l a) hr hm0
    rw [tm_rep l h i hi hk hm0 a hK, Int.toNat_natCast, hc1]
    generalize (cpN l[i] (nulV l a)).2 = more at *
    have hcc : more = -1 ∨ ∃ k : Nat, more = k ∧ 0 < many + k := hc2.imp id (fun ⟨k, h1, _, h3⟩ => ⟨k, h1, h3⟩)
    rw [rep_sz _ many more hcc]
    rcases hcc with rfl | ⟨k, rfl, hk0⟩
    · rw [if_pos rfl]
      have := Nat.le_mul_of_pos_left (szT (.iter (tmV l a))) (show 0 < many + 1 by omega)
      simp only [szT] at this ⊢
      omega
    · rw [if_neg (by omega), Int.toNat_natCast]
      have := Nat.le_mul_of_pos_left (szT (.iter (tmV l a))) (show 0 < many + k by omega)
      simp only [szT] at this ⊢
      omega
  · have hne : (kidsR l i).map (fun k => tmV l k.toNat) ≠ [] := by intro h; have := congrArg List.length h; simp at this; rw [this] at hK; simp at hK
    have hle : szT (tmV l x.toNat) ≤ smN (szV l) (kidsR l i) := by
      unfold smN
      have : szV l x.toNat ∈ (kidsR l i).map (fun k => szV l k.toNat) := List.mem_map_of_mem (f := fun k : Int => szV l k.toNat) hx
      exact le_sum _ _ this
    rcases hk with hk | hk
    · rw [tm_cat l h i hi hk, jn_sz .cat (fun _ _ => rfl) _ hne, sum_kids]
      exact Nat.le_trans hle (Nat.le_add_right _ _)
    · rw [tm_alt l h i hi hk, jn_sz .alt (fun _ _ => rfl) _ hne, sum_kids]
      exact Nat.le_trans hle (Nat.le_add_right _ _)
end Go.Proofs.YtdpkhliojbeglaaDoor

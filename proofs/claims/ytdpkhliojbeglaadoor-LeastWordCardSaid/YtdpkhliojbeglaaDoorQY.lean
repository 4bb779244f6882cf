/- Texts put together: Trx Ttf Tvw Tsb Tsc Tsd Tse Tsh. -/
import Derived.Test.YtdpkhliojbeglaaDoorQW
import Derived.Test.YtdpkhliojbeglaaDoorQD
import Derived.BigQuiet
import Derived.Deep.QuietTactic
import Derived.Test.YtdpkhliojbeglaaDoorQX
import Derived.Test.YtdpkhliojbeglaaDoorQM
import Derived.Test.YtdpkhliojbeglaaDoorQQ
import Derived.Test.YtdpkhliojbeglaaDoorQE
import Derived.Test.YtdpkhliojbeglaaDoorQO
import Derived.Deep.Slices
/- What opens and closes: the state of both walks; the developers' open and shut. Stage 14. -/
namespace Go.Proofs.YtdpkhliojbeglaaDoor
open Go.RowKit BS

/-- The entries that are open (the last one first) lie side by side in depth. -/
def depthsOk : List EnN → Prop
  | [] => True
  | x :: r => x.depth = (r.length : Int) + 1 ∧ depthsOk r
/-- Each entry lies at most one deeper than the one ahead. -/
def stepOk : Int → List EnN → Prop
  | _, [] => True
  | p, x :: r => x.depth ≤ p + 1 ∧ 1 ≤ x.depth ∧ stepOk x.depth r
theorem step_forest : ∀ (F : Fo) (d p : Int) (M : List EnN), d ≤ p + 1 → 1 ≤ d → (∀ q, d - 1 ≤ q → stepOk q M) → stepOk p (flF d F ++ M) := by
  intro F
  induction F with
  | nil => intro d p M h1 h2 h3; exact h3 p (by omega)
  | cons n f e ks rest ih1 ih2 =>
    intro d p M h1 h2 h3
    show stepOk p (⟨d, n, f, e⟩ :: (flF (d + 1) ks ++ flF d rest) ++ M)
    rw [List.cons_append]
    refine ⟨h1, h2, ?_⟩
    rw [List.append_assoc]
    exact ih1 (d + 1) d _ (by omega) (by omega) fun q hq => ih2 d q M (by omega) h2 h3
theorem close_len (d : Int) : ∀ st : List EnN, (closeT d st).1.length + (closeT d st).2.length = st.length
  | [] => rfl
  | x :: st => by
    have ih := close_len d st
    unfold closeT
    split
    · simp only [List.length_cons]; omega
    · simp
theorem close_ok {d : Int} : ∀ {st : List EnN}, depthsOk st → depthsOk (closeT d st).2
  | [], h => h
  | x :: st, h => by
    unfold closeT
    split
    · exact close_ok h.2
    · exact h
theorem close_mem {d : Int} : ∀ {st : List EnN} {x}, x ∈ (closeT d st).2 → x ∈ st
  | [], _, h => h
  | y :: st, x, h => by
    unfold closeT at h
    split at h
    · exact List.mem_cons_of_mem _ (close_mem h)
    · exact h
/-- How many stay open. -/
theorem close_left {d : Int} (hd : 1 ≤ d) : ∀ {st : List EnN}, depthsOk st → d ≤ st.length + 1 → ((closeT d st).2.length : Int) = d - 1
  | [], _, h => by simp at h; simp [closeT]; omega
  | x :: st, hok, h => by
    unfold closeT
    rw [hok.1]
    split
    · exact close_left hd hok.2 (by omega)
    · simp at h ⊢; omega
theorem close_one : ∀ {st : List EnN}, depthsOk st → closeT 1 st = closeT 0 st
  | [], _ => rfl
  | x :: st, h => by
    unfold closeT
    rw [if_pos (by rw [h.1]; omega), if_pos (by rw [h.1]; omega), close_one h.2]
theorem row_push (ev : List (Int × Int)) (p : Nat) (z : Int) (y : Nat) : rowF (ev ++ [((p : Int), z)]) y = if y = p then rowF ev p ++ [z] else rowF ev y := by
  rw [rowF_app]
  by_cases h : y = p
  · subst h
    rw [if_pos rfl]
    congr 1
    simp [rowF]
  · rw [if_neg h]
    have : rowF [((p : Int), z)] y = [] := by
      unfold rowF
      rw [List.filter_cons_of_neg (by simpa using fun e => h (by omega))]
      rfl
    rw [this, List.append_nil]
theorem row_len (ev : List (Int × Int)) (y : Nat) : (rowF ev y).length ≤ ev.length := by
  unfold rowF
  rw [List.length_map]
  exact List.length_filter_le _ _
/-- The state: rows by places, and a row of those that are open. -/
structure FrS (base n T : Nat) (S : Nat → Prop) (ev : List (Int × Int)) (st : List EnN) (v : Value) (W : World) : Prop where
  rows : RowsI base n T S (rowF ev) W
  ow : OwE base v st.reverse W
  ap : ∀ g, v.ownBlock = some g → ¬ S g
  bnd : ∀ x ∈ st, ∃ p q : Nat, x.to = p ∧ p < n ∧ x.node = q ∧ q ≤ 100000
section
variable {base n T : Nat} {S : Nat → Prop} {ev : List (Int × Int)} {st : List EnN} {v : Value} {W W' : World}
theorem FrS.below (h : FrS base n T S ev st v W) (hb : Below W.heap.size W W') : FrS base n T S ev st v W' :=
  ⟨h.rows.below hb, h.ow.below hb, h.ap, h.bnd⟩
/-- A step more at place p. -/
theorem FrS.push (h : FrS base n T S ev st v W) (p : Nat) (hp : p < n) (hlen : ev.length ≤ 1000000) (z : Int) (ty : TypeId) :
    ∃ a c g cap W2, W.cell? ⟨T, p, none⟩ = some (.slice a (rowF ev p).length c) ∧
      (Builtin.append_ #[54, 54] ty #[.slice a (rowF ev p).length c, .slice (some ⟨W.heap.size, 0, none⟩) 1 1]).run Tryd.prog (W.alloc (.cells #[.int .i64 z] 3)) = .ok (.slice (some ⟨g, 0, none⟩) ((rowF ev p).length + 1) cap) W2 ∧
      KpA (fun k => (Value.slice a (rowF ev p).length c).ownBlock = some k) W W2 ∧ KpA (fun k => (Value.slice a (rowF ev p).length c).ownBlock = some k) W (W.alloc (.cells #[.int .i64 z] 3)) ∧
      (∀ k, (Value.slice a (rowF ev p).length c).ownBlock = some k → S k ∧ k ≠ T) ∧ W2.frozen? ⟨T, p, none⟩ = false ∧
      ∃ S' : Nat → Prop, FrS base n T S' (ev ++ [((p : Int), z)]) st v (W2.setCell ⟨T, p, none⟩ (.slice (some ⟨g, 0, none⟩) ((rowF ev p).length + 1) cap)) ∧ (∀ k, S' k → S k ∨ W.heap.size ≤ k) ∧
      KpA S W (W2.setCell ⟨T, p, none⟩ (.slice (some ⟨g, 0, none⟩) ((rowF ev p).length + 1) cap)) := by
  obtain ⟨a, c, g, cap, W2, h1, h2, h3, h4, h5, h6, h7, h8⟩ := h.rows.push p hp (Nat.le_trans (row_len ev p) hlen) z ty
  refine ⟨a, c, g, cap, W2, h1, h2, h3, h4, h5, h6, _, ⟨h7.congr (fun y hy => (row_push ev p z y).symm), ?_, ?_, h.bnd⟩, fun k hk => hk.imp id (fun h => h.1), h8⟩
  · exact h.ow.keep (fun k hk => h8.block k (h.ow.lt hk).2 (h.ap k hk))
  · intro k hk hs
    rcases hs with hs | hs
    · exact h.ap k hk hs
    · have := (h.ow.lt hk).2; omega
/-- The last one that is open is so no more. -/
theorem FrS.drop {x : EnN} {a : Option Addr} {m c : Nat} (h : FrS base n T S ev (x :: st) (.slice a m c) W) (hm : m = st.length + 1) : FrS base n T S ev st (.slice a st.length c) W := by
  refine ⟨h.rows, ?_, fun g hg => ?_, fun y hy => h.bnd y (List.mem_cons_of_mem _ hy)⟩
  · have h2 := h.ow.take (by rw [hm]; simp) st.length (by simp)
    have e : (x :: st).reverse.take st.length = st.reverse := by
      rw [List.reverse_cons, List.take_append_of_le_length (by simp), List.take_of_length_le (by simp)]
    rw [e] at h2
    exact h2
  · refine h.ap g ?_
    cases a with
    | none => cases hg
    | some ad => exact hg
end
theorem wp_absX {P : Program} {o : Oper} {a : Act} {w : World} {K : Act → World → Prop} {Q : Exit → Act → World → Prop} (h : ∀ K' : Act → World → Prop, (∀ a' w', K a' w' → K' a' w') → o.wp P a w K' Q) : o.wp P a w K Q := h K (fun _ _ h => h)
theorem exec_appI {v u v' : Value} {W W' : World} {o : Oper} {a : Act} {s x : Operand} (ho : o.op = .call { callee := .builtin .append, args := #[s, x], argTypes := #[54, 54] }) (hs : a.eval s = v) (hx : a.eval x = u)
    (hr : (Builtin.append_ #[54, 54] o.type #[v, u]).run Tryd.prog W = .ok v' W') : (execOp a.eval o).run Tryd.prog W = .ok (.value v') W' := by
  unfold execOp
  simp only [ho, resolve, invoke, builtin, Sem.run_bind, Sem.run_pure, Result.andThen_ok, List.map_toArray, List.map_cons, List.map_nil, hs, hx, hr]
theorem exec_appN {v u v' : Value} {W W' : World} {o : Oper} {a : Act} {s x : Operand} (ho : o.op = .call { callee := .builtin .append, args := #[s, x], argTypes := #[31, 31] }) (hs : a.eval s = v) (hx : a.eval x = u)
    (hr : (Builtin.append_ #[31, 31] o.type #[v, u]).run Tryd.prog W = .ok v' W') : (execOp a.eval o).run Tryd.prog W = .ok (.value v') W' := by
  unfold execOp
  simp only [ho, resolve, invoke, builtin, Sem.run_bind, Sem.run_pure, Result.andThen_ok, List.map_toArray, List.map_cons, List.map_nil, hs, hx, hr]
theorem kp_chain {A A' : Nat → Prop} {a b c : World} (h : KpA A a b) (k : KpA A' b c) (hA : ∀ x, A' x → A x ∨ a.heap.size ≤ x) : KpA A a c :=
  ⟨k.os.trans h.os, k.tape.trans h.tape, k.output.trans h.output, Nat.le_trans h.size k.size, fun i hi hn => (k.block i (Nat.lt_of_lt_of_le hi h.size) (fun h' => (hA i h').elim hn (fun h2 => by omega))).trans (h.block i hi hn)⟩
def lenF : Value → Nat
  | .slice _ n _ => n
  | _ => 0
theorem close_stop {d : Int} {st : List EnN} (hok : depthsOk st) (h : ¬ d ≤ (st.length : Int)) : closeT d st = ([], st) := by
  cases st with
  | nil => rfl
  | cons x r =>
    unfold closeT
    rw [hok.1, if_neg (by simpa using h)]
theorem close_go {d : Int} {x : EnN} {r : List EnN} (hok : depthsOk (x :: r)) (h : d ≤ ((x :: r).length : Int)) : closeT d (x :: r) = ((x.to, 2 * x.node + 1) :: (closeT d r).1, (closeT d r).2) := by
  rw [closeT, hok.1, if_pos (by simpa using h)]
theorem rev_top (x : EnN) (r : List EnN) (h : r.length < (x :: r).reverse.length) : (x :: r).reverse[r.length] = x := by
  simp only [List.reverse_cons]
  rw [List.getElem_append_right (by simp)]
  simp
end Go.Proofs.YtdpkhliojbeglaaDoor

/- The tree that is made, kid by kid; how long it is, plainly. Stage 15. -/
namespace Go.Proofs.YtdpkhliojbeglaaDoor
open Go.RowKit

section
variable (l : List NdN) (c : Nat → Nat → Nat → Bool)
theorem starG_congr (p q j : Nat) {g h : Nat → Nat → Fo} (e : ∀ a b, g a b = h a b) : ∀ m i, starG c g p q j m i = starG c h p q j m i
  | 0, _ => rfl
  | m + 1, i => by
    unfold starG
    rw [e, starG_congr p q j e m]
theorem kids_fuel (hP : PartsOk l) : ∀ k k' q, q < k → q < k' → q < l.length → ∀ i j, kidsG l c k q i j = kidsG l c k' q i j
  | 0, _, _, h, _, _, _, _ => absurd h (by omega)
  | _ + 1, 0, _, _, h, _, _, _ => absurd h (by omega)
  | k + 1, k' + 1, q, h1, h2, hq, i, j => by
    have ih := kids_fuel hP k k'
    have hkk := hP.kind q hq
    unfold kidsG
    by_cases e3 : (ndE l q).kind = 3
    · obtain ⟨a, ha, haq⟩ := hP.a q hq (by omega)
      obtain ⟨b, hb, hbq⟩ := hP.b q hq (.inl e3)
      rw [if_pos e3, if_pos e3, ha, hb, Int.toNat_natCast, Int.toNat_natCast, ih a (by omega) (by omega) (by omega), ih b (by omega) (by omega) (by omega)]
    rw [if_neg e3, if_neg e3]
    by_cases e4 : (ndE l q).kind = 4
    · obtain ⟨a, ha, haq⟩ := hP.a q hq (by omega)
      obtain ⟨b, hb, hbq⟩ := hP.b q hq (.inr e4)
      rw [if_pos e4, if_pos e4, ha, hb, Int.toNat_natCast, Int.toNat_natCast, ih a (by omega) (by omega) (by omega), ih b (by omega) (by omega) (by omega)]
    rw [if_neg e4, if_neg e4]
    by_cases e5 : (ndE l q).kind = 5
    · obtain ⟨a, ha, haq⟩ := hP.a q hq (by omega)
      rw [if_pos e5, if_pos e5, ha, Int.toNat_natCast]
      exact starG_congr c a q j (ih a (by omega) (by omega) (by omega)) _ _
    rw [if_neg e5, if_neg e5]
    by_cases e6 : (ndE l q).kind = 6
    · obtain ⟨a, ha, haq⟩ := hP.a q hq (by omega)
      rw [if_pos e6, if_pos e6, ha, Int.toNat_natCast, ih a (by omega) (by omega) (by omega)]
    rw [if_neg e6, if_neg e6]
    by_cases e7 : 7 ≤ (ndE l q).kind
    · obtain ⟨a, ha, haq⟩ := hP.a q hq (by omega)
      rw [if_pos e7, if_pos e7, ha, Int.toNat_natCast, ih a (by omega) (by omega) (by omega)]
    rw [if_neg e7, if_neg e7]
/-- All uppermost nodes are of lesser nodes, and their trees are those that are made of them. -/
def GrF (k : Nat) : Fo → Prop
  | .nil => True
  | .cons p f m ks rest => p < k ∧ ks = kidsG l c (p + 1) p f m ∧ GrF k rest
theorem star_gr (hP : PartsOk l) (p q j k : Nat) (hpk : p < k) (hp : p < l.length) : ∀ m i, GrF l c k (starG c (kidsG l c k p) p q j m i)
  | 0, _ => trivial
  | m + 1, i => by
    unfold starG
    split
    · exact ⟨hpk, kids_fuel l c hP _ _ _ hpk (by omega) hp _ _, star_gr hP p q j k hpk hp m _⟩
    · trivial
theorem kids_gr (hP : PartsOk l) (q : Nat) (hq : q < l.length) (i j : Nat) : GrF l c q (kidsG l c (q + 1) q i j) := by
  have hkk := hP.kind q hq
  have one : ∀ p, p < q → ∀ f m, GrF l c q (.cons p f m (kidsG l c q p f m) .nil) := fun p hp f m => ⟨hp, kids_fuel l c hP _ _ _ hp (by omega) (by omega) _ _, trivial⟩
  unfold kidsG
  by_cases e3 : (ndE l q).kind = 3
  · obtain ⟨a, ha, haq⟩ := hP.a q hq (by omega)
    obtain ⟨b, hb, hbq⟩ := hP.b q hq (.inl e3)
    rw [if_pos e3, ha, hb, Int.toNat_natCast, Int.toNat_natCast]
    exact ⟨haq, kids_fuel l c hP _ _ _ haq (by omega) (by omega) _ _, one b hbq _ _⟩
  rw [if_neg e3]
  by_cases e4 : (ndE l q).kind = 4
  · obtain ⟨a, ha, haq⟩ := hP.a q hq (by omega)
    obtain ⟨b, hb, hbq⟩ := hP.b q hq (.inr e4)
    rw [if_pos e4, ha, hb, Int.toNat_natCast, Int.toNat_natCast]
    split
    · exact one a haq _ _
    · exact one b hbq _ _
  rw [if_neg e4]
  by_cases e5 : (ndE l q).kind = 5
  · obtain ⟨a, ha, haq⟩ := hP.a q hq (by omega)
    rw [if_pos e5, ha, Int.toNat_natCast]
    exact star_gr l c hP a q j q haq (by omega) _ _
  rw [if_neg e5]
  by_cases e6 : (ndE l q).kind = 6
  · obtain ⟨a, ha, haq⟩ := hP.a q hq (by omega)
    rw [if_pos e6, ha, Int.toNat_natCast]
    split
    · exact one a haq _ _
    · trivial
  rw [if_neg e6]
  by_cases e7 : 7 ≤ (ndE l q).kind
  · obtain ⟨a, ha, haq⟩ := hP.a q hq (by omega)
    rw [if_pos e7, ha, Int.toNat_natCast]
    exact one a haq _ _
  rw [if_neg e7]
  trivial
theorem gr_lt (k : Nat) : ∀ ks, GrF l c k ks → ∀ r ∈ rootsO ks, r.1 < k
  | .nil, _, r, hr => by cases hr
  | .cons p f m ks rest, h, r, hr => by
    rcases List.mem_cons.1 hr with rfl | hr
    · exact h.1
    · exact gr_lt k rest h.2.2 r hr
theorem gr_flat (k : Nat) (d : Int) : ∀ ks, GrF l c k ks → flF d ks = (rootsO ks).flatMap fun r => flF d (.cons r.1 r.2.1 r.2.2 (kidsG l c (r.1 + 1) r.1 r.2.1 r.2.2) .nil)
  | .nil, _ => rfl
  | .cons p f m ks rest, h => by
    obtain ⟨h1, rfl, h3⟩ := h
    rw [flF_one, rootsO, List.flatMap_cons, gr_flat k d rest h3]
end
section
variable {l : List NdN} {w : List Nat}
/-- How many nodes a node's tree has at most: as many as it has parts for each byte, or once. -/
def szB (l : List NdN) (q i j : Nat) : Nat := (q + 1 - lowV l q) * max 1 (j - i)
theorem len_flat (d : Int) (g : Nat × Nat × Nat → List EnN) (f : Nat × Nat × Nat → Nat) : ∀ R : List (Nat × Nat × Nat), (∀ r ∈ R, (g r).length ≤ f r) → (R.flatMap g).length ≤ (R.map f).sum
  | [], _ => Nat.le_refl _
  | r :: R, h => by
    rw [List.flatMap_cons, List.length_append, List.map_cons, List.sum_cons]
    have h1 := h r (List.mem_cons_self ..)
    have h2 := len_flat d g f R (fun x hx => h x (List.mem_cons_of_mem _ hx))
    omega
theorem chain_sum (s : Nat) (p : Nat) : ∀ (R : List (Nat × Nat × Nat)) (i j : Nat), chainR p i j R → (R.map fun r => s * max 1 (r.2.2 - r.2.1)).sum = s * (j - i)
  | [], i, j, h => by
    have h' : i = j := h
    subst h'; simp
  | (n, f, m) :: R, i, j, h => by
    obtain ⟨_, rfl, h3, h4, h5⟩ := h
    have ih := chain_sum s p R m j h5
    rw [List.map_cons, List.sum_cons, ih]
    have e : max 1 (m - f) = m - f := by omega
    show s * max 1 (m - f) + s * (j - m) = _
    rw [e, ← Nat.mul_add]
    congr 1; omega
theorem grow_len (hr : rightT l = true) : ∀ k q i j (d : Int), q < k → q < l.length → canP l w q i j → (flF d (growB l w q i j)).length ≤ szB l q i j
  | 0, _, _, _, _, h, _, _ => absurd h (by omega)
  | k + 1, q, i, j, d, hqk, hq, hcan => by
    have hP := parts_ok l hr
    have ih := grow_len hr k
    obtain ⟨hij, hj⟩ := can_le hcan
    have hg := grow_is (w := w) hP q i j hq hcan
    have hok := hg.1.2.1
    have hno := hg.1.1
    have hgr := kids_gr l (canB l w) hP q hq i j
    have hfl := gr_flat l (canB l w) q (d + 1) _ hgr
    have hlt := gr_lt l (canB l w) q _ hgr
    have hcr := roots_can hok
    have hsum : ((rootsO (kidsG l (canB l w) (q + 1) q i j)).flatMap fun r => flF (d + 1) (.cons r.1 r.2.1 r.2.2 (kidsG l (canB l w) (r.1 + 1) r.1 r.2.1 r.2.2) .nil)).length ≤ ((rootsO (kidsG l (canB l w) (q + 1) q i j)).map fun r => szB l r.1 r.2.1 r.2.2).sum :=
      len_flat (d + 1) _ _ _ fun r hrm => ih r.1 r.2.1 r.2.2 (d + 1) (by have := hlt r hrm; omega) (by have := hlt r hrm; omega) (hcr r hrm)
    have e : (flF d (growB l w q i j)).length = (flF (d + 1) (kidsG l (canB l w) (q + 1) q i j)).length + 1 := by
      unfold growB; simp [flF]
    rw [e, hfl]
    have hnd : ndE l q = l[q] := by simp [ndE, hq]
    obtain ⟨_, _, hcase⟩ := hno
    generalize rootsO (kidsG l (canB l w) (q + 1) q i j) = R at *
    have hlq := lowV_le l q
    have hm1 : 1 ≤ max 1 (j - i) := by omega
    have h1q : (q + 1 - lowV l q) = 1 + (q - lowV l q) := by omega
    have hbase : (q - lowV l q) * max 1 (j - i) + 1 ≤ szB l q i j := by
      unfold szB; rw [h1q, Nat.add_mul, Nat.one_mul]; omega
    suffices hs : (R.map fun r => szB l r.1 r.2.1 r.2.2).sum ≤ (q - lowV l q) * max 1 (j - i) by omega
    rw [hnd] at hcase
    have one : ∀ p : Nat, p < q → p + 1 - lowV l p ≤ q - lowV l q → R = [(p, i, j)] → (R.map fun r => szB l r.1 r.2.1 r.2.2).sum ≤ (q - lowV l q) * max 1 (j - i) := fun p _ hle hR => by
      rw [hR, List.map_cons, List.map_nil, List.sum_cons, List.sum_nil, Nat.add_zero]
      exact Nat.mul_le_mul_right _ hle
    rcases nodek_parts l hr q hq with ⟨h0, ha, hb, hlo⟩ | ⟨a, h0, ha, hb, haq, hlo⟩ | ⟨a, b, h0, ha, hb, hbq, hab, hlo, haq⟩
    · have hk12 : l[q].kind = 1 ∨ l[q].kind = 2 := by
        have := hP.kind q hq; rw [hnd] at this
        unfold pcT at h0
        split at h0
        · omega
        · split at h0 <;> omega
      have hR : R = [] := by rcases hcase with ⟨_, _, h⟩ | ⟨_, _, _, h⟩ | ⟨h, _⟩ | ⟨h, _⟩ | ⟨h, _⟩ | ⟨h, _⟩ | ⟨h, _⟩ <;> first | exact h | omega
      rw [hR]; exact Nat.zero_le _
    · have hle : a + 1 - lowV l a ≤ q - lowV l q := by omega
      have hk58 : 5 ≤ l[q].kind := by
        have := hP.kind q hq; rw [hnd] at this
        unfold pcT at h0
        split at h0
        · omega
        · split at h0 <;> omega
      rcases hcase with ⟨h, _⟩ | ⟨h, _⟩ | ⟨h, _⟩ | ⟨h, _⟩ | ⟨_, p, hp, h⟩ | ⟨_, h⟩ | ⟨_, p, hp, h⟩
      · omega
      · omega
      · omega
      · omega
      · have ep : p = a := by omega
        subst ep
        have hall : ∀ (R : List (Nat × Nat × Nat)) i, chainR p i j R → ∀ r ∈ R, r.1 = p := fun R => by
          induction R with
          | nil => intro i _ r hr; cases hr
          | cons x R ihR =>
            intro i h r hr
            rcases List.mem_cons.1 hr with rfl | hr
            · exact h.1
            · exact ihR _ h.2.2.2.2 r hr
        have hs := chain_sum (p + 1 - lowV l p) p R i j h
        have he : (R.map fun r => szB l r.1 r.2.1 r.2.2) = R.map fun r => (p + 1 - lowV l p) * max 1 (r.2.2 - r.2.1) := List.map_congr_left fun r hr => by unfold szB; rw [hall R i h r hr]
        rw [he, hs]
        exact Nat.mul_le_mul hle (by omega)
      · rcases h with ⟨_, h⟩ | ⟨_, p, hp, h⟩
        · rw [h]; exact Nat.zero_le _
        · have ep : p = a := by omega
          subst ep
          exact one p (by omega) hle h
      · have ep : p = a := by omega
        subst ep
        exact one p (by omega) hle h
    · have hk34 : l[q].kind = 3 ∨ l[q].kind = 4 := by
        have := hP.kind q hq; rw [hnd] at this
        unfold pcT at h0
        split at h0
        · assumption
        · split at h0 <;> omega
      have hlb := lowV_le l b
      have hla := lowV_le l a
      have hs2 : (a + 1 - lowV l a) + (b + 1 - lowV l b) ≤ q - lowV l q := by omega
      rcases hcase with ⟨h, _⟩ | ⟨h, _⟩ | ⟨_, p, r, m, hp, hr', h⟩ | ⟨_, p, hp, h⟩ | ⟨h, _⟩ | ⟨h, _⟩ | ⟨h, _⟩
      · omega
      · omega
      · have ep : p = a := by omega
        have er : r = b := by omega
        subst ep er
        have l1 := can_le (hcr (p, i, m) (by rw [h]; exact List.mem_cons_self ..))
        have l2 := can_le (hcr (r, m, j) (by rw [h]; simp))
        simp only at l1 l2
        rw [h, List.map_cons, List.map_cons, List.map_nil, List.sum_cons, List.sum_cons, List.sum_nil, Nat.add_zero]
        unfold szB
        simp only
        have g1 : (p + 1 - lowV l p) * max 1 (m - i) ≤ (p + 1 - lowV l p) * max 1 (j - i) := Nat.mul_le_mul_left _ (by omega)
        have g2 : (r + 1 - lowV l r) * max 1 (j - m) ≤ (r + 1 - lowV l r) * max 1 (j - i) := Nat.mul_le_mul_left _ (by omega)
        have g3 : (p + 1 - lowV l p) * max 1 (j - i) + (r + 1 - lowV l r) * max 1 (j - i) ≤ (q - lowV l q) * max 1 (j - i) := by rw [← Nat.add_mul]; exact Nat.mul_le_mul_right _ hs2
        omega
      · rcases hp with hp | hp
        · have ep : p = a := by omega
          subst ep
          exact one p (by omega) (by omega) h
        · have ep : p = b := by omega
          subst ep
          exact one p (by omega) (by omega) h
      · omega
      · omega
      · omega
/-- At most as many as there are nodes, for each byte. -/
theorem grow_bound (hr : rightT l = true) (q i j : Nat) (d : Int) (hq : q < l.length) (hcan : canP l w q i j) : (flF d (growB l w q i j)).length ≤ l.length * max 1 w.length := by
  obtain ⟨h1, h2⟩ := can_le hcan
  refine Nat.le_trans (grow_len hr (q + 1) q i j d (Nat.lt_succ_self _) hq hcan) ?_
  unfold szB
  exact Nat.mul_le_mul (by omega) (by omega)
end
end Go.Proofs.YtdpkhliojbeglaaDoor

/- The shortest bytes that a node is, by chapter 12, are those that it can span, and nothing that it can span is ahead of them. Stage 15, plain: LeastWord. -/
namespace Go.Proofs.YtdpkhliojbeglaaDoor
open BS

/-- No longer, and if as long not greater. -/
def sle (a b : List Nat) : Prop := btr b a = false
theorem sle_iff (a b : List Nat) : sle a b ↔ a.length ≤ b.length ∧ (a.length = b.length → ¬ b < a) := by
  unfold sle btr
  by_cases h : b.length = a.length
  · rw [if_neg (by simpa using h), decide_eq_false_iff_not]
    exact ⟨fun g => ⟨by omega, fun _ => g⟩, fun g => g.2 h.symm⟩
  · rw [if_pos h, decide_eq_false_iff_not]
    exact ⟨fun g => ⟨by omega, fun e => absurd e.symm h⟩, fun g => by omega⟩
theorem sle_nil (b : List Nat) : sle [] b := (sle_iff _ _).2 ⟨Nat.zero_le _, fun _ => List.not_lt_nil b⟩
theorem lt_app : ∀ (A' A B' B : List Nat), A'.length = A.length → A' ++ B' < A ++ B → A' < A ∨ A' = A ∧ B' < B
  | [], [], B', B, _, h => .inr ⟨rfl, h⟩
  | x :: A', y :: A, B', B, e, h => by
    rw [List.cons_append, List.cons_append, List.cons_lt_cons_iff] at h
    rcases h with h | ⟨rfl, h⟩
    · exact .inl (List.cons_lt_cons_iff.2 (.inl h))
    · rcases lt_app A' A B' B (by simpa using e) h with h | ⟨rfl, h⟩
      · exact .inl (List.cons_lt_cons_iff.2 (.inr ⟨rfl, h⟩))
      · exact .inr ⟨rfl, ‹B' < B›⟩
theorem sle_append {A A' B B' : List Nat} (h1 : sle A A') (h2 : sle B B') : sle (A ++ B) (A' ++ B') := by
  rw [sle_iff] at *
  rw [List.length_append, List.length_append]
  refine ⟨by omega, fun e h => ?_⟩
  have e1 : A.length = A'.length := by omega
  have e2 : B.length = B'.length := by omega
  rcases lt_app A' A B' B e1.symm h with h | ⟨_, h⟩
  · exact h1.2 e1 h
  · exact h2.2 e2 h
theorem sle_trans {A B C : List Nat} (h1 : sle A B) (h2 : sle B C) : sle A C := by
  rw [sle_iff] at *
  refine ⟨by omega, fun e h => ?_⟩
  have g1 := h1.2 (by omega)
  have g2 := h2.2 (by omega)
  have l1 : A ≤ B := List.not_lt.1 g1
  have l2 : B ≤ C := List.not_lt.1 g2
  exact List.not_lt.2 (List.le_trans l1 l2) h
theorem btr_sle {A B : List Nat} (h : btr A B = true) : sle A B := by
  rw [sle_iff]
  unfold btr at h
  by_cases e : A.length = B.length
  · rw [if_neg (by simpa using e), decide_eq_true_eq] at h
    exact ⟨by omega, fun _ g => List.lt_asymm h g⟩
  · rw [if_pos e, decide_eq_true_eq] at h
    exact ⟨by omega, fun g => absurd g e⟩
theorem nx_least {t : BitVec 256} {x : Nat} (h : t.getLsbD x = true) : ∃ b, nxB t = some b ∧ b ≤ x ∧ t.getLsbD b = true := by
  have hx : x < 256 := by
    rcases Nat.lt_or_ge x 256 with h1 | h1
    · exact h1
    · rw [BitVec.getLsbD_of_ge _ _ h1] at h; cases h
  unfold nxB
  cases hf : (List.range 256).find? fun j => t.getLsbD j with
  | none =>
    have := List.find?_eq_none.1 hf x (List.mem_range.2 hx)
    simp only [h, not_true_eq_false] at this
  | some b =>
    refine ⟨b, rfl, ?_, List.find?_some hf⟩
    obtain ⟨_, i, hi, he, hb⟩ := List.find?_eq_some_iff_getElem.1 hf
    rcases Nat.lt_or_ge x b with h1 | h1
    · exfalso
      have e : b = i := by rw [← he, List.getElem_range]
      have := hb x (by omega)
      rw [List.getElem_range, h] at this
      cases this
    · exact h1
theorem nd_at (l : List NdN) (q : Nat) (h : q < l.length) : ndE l q = l[q] := by unfold ndE; rw [List.getD_eq_getElem?_getD, List.getElem?_eq_getElem h]; rfl
/-- The bytes between. -/
def cutL (w : List Nat) (i j : Nat) : List Nat := (w.drop i).take (j - i)
theorem cut_len {w : List Nat} {i j : Nat} (hj : j ≤ w.length) (hi : i ≤ j) : (cutL w i j).length = j - i := by
  unfold cutL; rw [List.length_take, List.length_drop]; omega
theorem cut_app {w : List Nat} {i m j : Nat} (h1 : i ≤ m) (h2 : m ≤ j) : cutL w i j = cutL w i m ++ cutL w m j := by
  unfold cutL
  rw [show j - i = (m - i) + (j - m) by omega, List.take_add, List.drop_drop, show i + (m - i) = m by omega]
theorem cut_one {w : List Nat} {i : Nat} (h : i < w.length) : cutL w i (i + 1) = [w.getD i 0] := by
  unfold cutL
  rw [show i + 1 - i = 1 by omega, List.drop_eq_getElem_cons h, List.take_succ_cons, List.take_zero, List.getD_eq_getElem?_getD, List.getElem?_eq_getElem h]
  rfl
variable {l : List NdN}
theorem can_sh {w v : List Nat} {a q f e : Nat} (hc : CutW w v a) (h : canP l v q f e) : canP l w q (f + a) (e + a) := by
  obtain ⟨ks, hk⟩ := h
  exact ⟨shF a ks, ok_sh hc (.cons q f e ks .nil) hk⟩
theorem cutW_left (a b : List Nat) : CutW (a ++ b) a 0 := ⟨by rw [List.length_append]; omega, fun i hi => by
  rw [Nat.add_zero, List.getD_eq_getElem?_getD, List.getD_eq_getElem?_getD, List.getElem?_append_left hi]⟩
theorem cutW_right (a b : List Nat) : CutW (a ++ b) b a.length := ⟨by rw [List.length_append]; omega, fun i hi => by
  rw [List.getD_eq_getElem?_getD, List.getD_eq_getElem?_getD, List.getElem?_append_right (by omega), Nat.add_sub_cancel]⟩
/-- What a node can span is no less than its word. -/
theorem word_least (hr : rightT l = true) (w : List Nat) : ∀ k q, q < k → q < l.length → ∀ i j, canP l w q i j → wdI l q = true ∧ sle (wdL l q) (cutL w i j)
  | 0, _, h, _ => absurd h (by omega)
  | k + 1, q, hqk, hq => fun i j hc => by
    have hP := parts_ok l hr
    have ih := word_least hr w k
    obtain ⟨hij, hj⟩ := can_le hc
    obtain ⟨k1, k8⟩ := hP.kind q hq
    have ha := hP.a q hq
    have hb := hP.b q hq
    have hn := nd_at l q hq
    by_cases e1 : (ndE l q).kind = 1 ∨ (ndE l q).kind = 5 ∨ (ndE l q).kind = 6
    · obtain ⟨h1, h2⟩ := wd_nil l hr q hq (by rw [← hn]; exact e1)
      exact ⟨h2, by rw [h1]; exact sle_nil _⟩
    by_cases e2 : (ndE l q).kind = 2
    · obtain ⟨rfl, hs⟩ := (can_2 e2 hij hj).1 hc
      obtain ⟨b, hb1, hb2, _⟩ := nx_least hs
      rcases wd_leaf l hr q hq (by rw [← hn]; exact e2) with ⟨b', g1, _, g3, g4⟩ | ⟨g1, _⟩
      · rw [← hn, hb1] at g1
        cases g1
        refine ⟨g4, ?_⟩
        rw [g3, cut_one (by omega), sle_iff]
        refine ⟨by simp, fun _ h => ?_⟩
        rw [List.cons_lt_cons_iff] at h
        rcases h with h | ⟨_, h⟩
        · omega
        · exact List.not_lt_nil _ h
      · rw [← hn, hb1] at g1
        cases g1
    obtain ⟨p, hp, hpq⟩ := ha (by omega)
    by_cases e3 : (ndE l q).kind = 3
    · obtain ⟨r, hr', hrq⟩ := hb (.inl e3)
      obtain ⟨m, c1, c2⟩ := (can_3 e3 hp hr' hij hj).1 hc
      have l1 := can_le c1
      have l2 := can_le c2
      obtain ⟨a1, a2⟩ := ih p (by omega) (by omega) _ _ c1
      obtain ⟨b1, b2⟩ := ih r (by omega) (by omega) _ _ c2
      obtain ⟨g1, g2⟩ := wd_cat l hr q hq (by rw [← hn]; exact e3) p r (by rw [← hn]; exact hp) (by rw [← hn]; exact hr')
      refine ⟨by rw [g1, a1, b1]; rfl, ?_⟩
      rw [g2, if_pos ⟨a1, b1⟩, cut_app l1.1 l2.1]
      exact sle_append a2 b2
    by_cases e4 : (ndE l q).kind = 4
    · obtain ⟨r, hr', hrq⟩ := hb (.inr e4)
      obtain ⟨g1, g2⟩ := wd_alt l hr q hq (by rw [← hn]; exact e4) p r (by rw [← hn]; exact hp) (by rw [← hn]; exact hr')
      rcases (can_4 e4 hp hr' hij hj).1 hc with c | c
      · obtain ⟨a1, a2⟩ := ih p (by omega) (by omega) _ _ c
        refine ⟨by rw [g1, a1]; rfl, ?_⟩
        rw [g2]
        split
        · rename_i h
          rcases h.2 with h' | h'
          · rw [a1] at h'; cases h'
          · exact sle_trans (btr_sle h') a2
        · exact a2
      · obtain ⟨a1, a2⟩ := ih r (by omega) (by omega) _ _ c
        refine ⟨by rw [g1, a1, Bool.or_true], ?_⟩
        rw [g2]
        split
        · exact a2
        · rename_i h
          refine sle_trans ?_ a2
          cases hb' : btr (wdL l r) (wdL l p)
          · exact hb'
          · exact absurd ⟨a1, .inr hb'⟩ h
    · have e7 : (ndE l q).kind = 7 ∨ (ndE l q).kind = 8 := by omega
      obtain ⟨g1, g2⟩ := wd_same l hr q hq (by rw [← hn]; exact e7) p (by rw [← hn]; exact hp)
      obtain ⟨a1, a2⟩ := ih p (by omega) (by omega) _ _ ((can_7 e7 hp hij hj).1 hc)
      exact ⟨by rw [g2]; exact a1, by rw [g1]; exact a2⟩
/-- A node's word is what it can span. -/
theorem word_can (hr : rightT l = true) : ∀ k q, q < k → q < l.length → wdI l q = true → canP l (wdL l q) q 0 (wdL l q).length
  | 0, _, h, _ => absurd h (by omega)
  | k + 1, q, hqk, hq => fun hc => by
    have hP := parts_ok l hr
    have ih := word_can hr k
    obtain ⟨k1, k8⟩ := hP.kind q hq
    have ha := hP.a q hq
    have hb := hP.b q hq
    have hn := nd_at l q hq
    by_cases e1 : (ndE l q).kind = 1 ∨ (ndE l q).kind = 5 ∨ (ndE l q).kind = 6
    · obtain ⟨h1, h2⟩ := wd_nil l hr q hq (by rw [← hn]; exact e1)
      rw [h1]
      by_cases e : (ndE l q).kind = 1
      · exact (can_1 e (Nat.le_refl _) (Nat.le_refl _)).2 rfl
      obtain ⟨p, hp, hpq⟩ := ha (by omega)
      rcases e1 with e1 | e1 | e1
      · exact absurd e1 e
      · exact (can_5 e1 hp (Nat.le_refl _) (Nat.le_refl _)).2 (.inl rfl)
      · exact (can_6 e1 hp (Nat.le_refl _) (Nat.le_refl _)).2 (.inl rfl)
    by_cases e2 : (ndE l q).kind = 2
    · rcases wd_leaf l hr q hq (by rw [← hn]; exact e2) with ⟨b, g1, _, g3, g4⟩ | ⟨_, _, g1⟩
      · rw [g3]
        refine (can_2 e2 (by simp) (Nat.le_refl _)).2 ⟨rfl, ?_⟩
        rw [hn]
        have := List.find?_some g1
        simpa using this
      · rw [hc] at g1; cases g1
    obtain ⟨p, hp, hpq⟩ := ha (by omega)
    by_cases e3 : (ndE l q).kind = 3
    · obtain ⟨r, hr', hrq⟩ := hb (.inl e3)
      obtain ⟨g1, g2⟩ := wd_cat l hr q hq (by rw [← hn]; exact e3) p r (by rw [← hn]; exact hp) (by rw [← hn]; exact hr')
      rw [g1, Bool.and_eq_true] at hc
      rw [g2, if_pos hc]
      have c1 := can_sh (cutW_left (wdL l p) (wdL l r)) (ih p (by omega) (by omega) hc.1)
      have c2 := can_sh (cutW_right (wdL l p) (wdL l r)) (ih r (by omega) (by omega) hc.2)
      refine (can_3 e3 hp hr' (Nat.zero_le _) (Nat.le_refl _)).2 ⟨(wdL l p).length, c1, ?_⟩
      rw [List.length_append, Nat.add_comm (wdL l p).length]
      rw [Nat.zero_add] at c2
      exact c2
    by_cases e4 : (ndE l q).kind = 4
    · obtain ⟨r, hr', hrq⟩ := hb (.inr e4)
      obtain ⟨g1, g2⟩ := wd_alt l hr q hq (by rw [← hn]; exact e4) p r (by rw [← hn]; exact hp) (by rw [← hn]; exact hr')
      rw [g1, Bool.or_eq_true] at hc
      rw [g2]
      split
      · rename_i h
        exact (can_4 e4 hp hr' (Nat.zero_le _) (Nat.le_refl _)).2 (.inr (ih r (by omega) (by omega) h.1))
      · rename_i h
        refine (can_4 e4 hp hr' (Nat.zero_le _) (Nat.le_refl _)).2 (.inl (ih p (by omega) (by omega) ?_))
        rcases hc with hc | hc
        · exact hc
        · cases hx : wdI l p
          · exact absurd ⟨hc, .inl hx⟩ h
          · rfl
    · have e7 : (ndE l q).kind = 7 ∨ (ndE l q).kind = 8 := by omega
      obtain ⟨g1, g2⟩ := wd_same l hr q hq (by rw [← hn]; exact e7) p (by rw [← hn]; exact hp)
      rw [g1]
      exact (can_7 e7 hp (Nat.zero_le _) (Nat.le_refl _)).2 (ih p (by omega) (by omega) (by rw [← g2]; exact hc))
end Go.Proofs.YtdpkhliojbeglaaDoor

/- The list that frames tell: the developers' builder. Stage 14. -/
namespace Go.Proofs.YtdpkhliojbeglaaDoor
open Go.RowKit BS

/-- The places that are open, as they lie. -/
def opI (op : List Nat) : List Int := op.reverse.map fun q : Nat => (q : Int)
theorem opI_len (op : List Nat) : (opI op).length = op.length := by simp [opI]
theorem opI_push (op : List Nat) (q : Nat) : opI (q :: op) = opI op ++ [(q : Int)] := by simp [opI]
theorem opI_top (q : Nat) (r : List Nat) : (opI (q :: r))[r.length]? = some (q : Int) := by
  rw [opI_push, List.getElem?_append_right (by rw [opI_len]; omega), opI_len, Nat.sub_self]; rfl
theorem opI_drop (q : Nat) (r : List Nat) : (opI (q :: r)).take r.length = opI r := by
  rw [opI_push, List.take_append_of_le_length (by rw [opI_len]; omega), List.take_of_length_le (by rw [opI_len]; omega)]
theorem enCells_set : ∀ (l : List EnN) (q : Nat) (f : Int), q < l.length → enCells (l.set q ⟨(atE l q).depth, (atE l q).node, (atE l q).from_, f⟩) = (enCells l).set (q * 4 + 3) (.int .i64 f)
  | [], q, _, h => absurd h (by simp)
  | x :: l, 0, f, _ => by
    obtain ⟨a, b, c, d⟩ := x
    simp [enCells, atE, enA, enI]
  | x :: l, q + 1, f, h => by
    have ih := enCells_set l q f (by simpa using h)
    have e : ∀ (y : EnN) (m : List EnN), enCells (y :: m) = (enA y).toList ++ enCells m := fun y m => by simp [enCells]
    have ea : atE (x :: l) (q + 1) = atE l q := by simp [atE]
    rw [ea, List.set_cons_succ, e, e, ih, List.set_append_right _ _ (by rw [show (enA x).toList.length = 4 from rfl]; omega), show (enA x).toList.length = 4 from rfl, show (q + 1) * 4 + 3 - 4 = q * 4 + 3 by omega]
section
variable {B b : Nat} {out : List EnN} {op : List Nat} {W W' : World}
theorem own_len {a : Option Addr} {n m c d : Nat} {g : Nat} (h : (Value.slice a n c).ownBlock = some g) : (Value.slice a m d).ownBlock = some g := by
  cases a with
  | none => cases h
  | some ad => exact h
end
end Go.Proofs.YtdpkhliojbeglaaDoor

/- The list that frames tell: the developers' step. Stage 14. -/
namespace Go.Proofs.YtdpkhliojbeglaaDoor
open Go.RowKit BS

section
variable {B b : Nat}
/-- A node is closed, plainly. -/
def popT (out : List EnN) (op : List Nat) (n i : Int) : Option OfS :=
  match op with
  | [] => none
  | q :: r => if (atE out q).node = n then some ⟨out.set q ⟨(atE out q).depth, (atE out q).node, (atE out q).from_, i⟩, r, r.isEmpty⟩ else none
end
end Go.Proofs.YtdpkhliojbeglaaDoor

/- The list that frames tell: the developers' step. Stage 14. -/
namespace Go.Proofs.YtdpkhliojbeglaaDoor
open Go.RowKit BS

theorem pop_ofS (i : Int) (st : OfS) (n : Nat) (hd : st.done = false) (hn : n % 2 = 1) : ofS i st (n : Int) = popT st.out st.op ((n / 2 : Nat) : Int) i := by
  unfold ofS popT
  rw [if_neg (by rw [hd]; simp), if_neg (by omega)]
  rfl
theorem push_ofS (i : Int) (st : OfS) (n : Nat) (hd : st.done = false) (hn : n % 2 = 0) : ofS i st (n : Int) = some ⟨st.out ++ [⟨(st.op.length : Int) + 1, ((n / 2 : Nat) : Int), i, 0⟩], st.out.length :: st.op, false⟩ := by
  unfold ofS
  rw [if_neg (by rw [hd]; simp), if_pos (by omega)]
  rfl
section
variable {B b : Nat}
end
end Go.Proofs.YtdpkhliojbeglaaDoor

/- The list that frames tell: the developers' Of. Stage 14. -/
namespace Go.Proofs.YtdpkhliojbeglaaDoor
open Go.RowKit BS

/-- All numbers of rows are numbers of the machine. -/
def rangeR (fr : List (List Int)) : Prop := ∀ row ∈ fr, ∀ s ∈ row, -9223372036854775808 ≤ s ∧ s < 9223372036854775808
end Go.Proofs.YtdpkhliojbeglaaDoor

/- Slices of entries, of bytes, of rows of numbers, and a struct of two of them, among the arguments, opened. -/
namespace Go.Proofs.YtdpkhliojbeglaaDoor
open Go.ChangeShapes Go.WideShapes Go.ChangeAt Go.RowKit Go.Deep BS

section
variable {H : Type} {enc : TypeId × Value → H} {P : Program}

theorem ent_cells {w : World} {base fuel : Nat} {spare : Nat → Bool} {held : Bool} {t it : TypeId} {f0 f1 f2 f3 : Field} {cs : List Value} {x : DataW H × List MemPlace}
    (hs : P.underlying t = some (.struct #[f0, f1, f2, f3])) (hlc : cs.length = 4) (ho : f0.offset = 0 ∧ f1.offset = 1 ∧ f2.offset = 2 ∧ f3.offset = 3)
    (hty : f0.type = it ∧ f1.type = it ∧ f2.type = it ∧ f3.type = it) (hi : P.underlying it = some (.int .i64)) (hci : P.cellsOf it = 1)
    (hf : DataW.trod enc P w base spare held fuel t cs = some x) : ∃ y : EnN, cs = (enA y).toList := by
  obtain ⟨c0, c1, c2, c3, rfl⟩ : ∃ c0 c1 c2 c3, cs = [c0, c1, c2, c3] := by
    match cs, hlc with
    | [c0, c1, c2, c3], _ => exact ⟨c0, c1, c2, c3, rfl⟩
  obtain ⟨xs, n, _, _, _, hlen, hk⟩ := DataW.trod_struct hs hf
  obtain ⟨o0, o1, o2, o3⟩ := ho
  obtain ⟨t0, t1, t2, t3⟩ := hty
  have e0 := hk 0 f0 rfl
  have e1 := hk 1 f1 rfl
  have e2 := hk 2 f2 rfl
  have e3 := hk 3 f3 rfl
  have hl4 : xs.length = 4 := hlen
  rw [List.getElem?_eq_getElem (by omega), o0, t0, hci] at e0
  rw [List.getElem?_eq_getElem (by omega), o1, t1, hci] at e1
  rw [List.getElem?_eq_getElem (by omega), o2, t2, hci] at e2
  rw [List.getElem?_eq_getElem (by omega), o3, t3, hci] at e3
  obtain ⟨n0, h0, _⟩ := DataW.trod_int hi e0
  obtain ⟨n1, h1, _⟩ := DataW.trod_int hi e1
  obtain ⟨n2, h2, _⟩ := DataW.trod_int hi e2
  obtain ⟨n3, h3, _⟩ := DataW.trod_int hi e3
  have k0 : [c0] = [Value.int .i64 n0] := h0
  have k1 : [c1] = [Value.int .i64 n1] := h1
  have k2 : [c2] = [Value.int .i64 n2] := h2
  have k3 : [c3] = [Value.int .i64 n3] := h3
  simp only [List.cons.injEq, and_true] at k0 k1 k2 k3
  subst k0 k1 k2 k3
  exact ⟨⟨n0, n1, n2, n3⟩, rfl⟩
theorem addr_spot {w : World} {a : Addr} {v : Value} (h : w.cell? (a.add 0) = some v) : ∃ b off, a = ⟨b, off, none⟩ ∧ b < w.heap.size ∧ ∀ n, (⟨b, off, none⟩ : Addr).add n = ⟨b, off + n, none⟩ := by
  obtain ⟨b, off, spot⟩ := a
  have hspot : spot = none := by simpa [Addr.add] using World.cell?_spot h
  subst hspot
  refine ⟨b, off, rfl, World.block_lt_of_cell? w _ h, fun n => ?_⟩
  unfold Addr.add
  by_cases hn : n = 0
  · subst hn; rfl
  · rw [if_neg hn]
/-- A slice of entries. -/
theorem open_entsC {w : World} {base fuel : Nat} {spare : Nat → Bool} {held : Bool} {ts t it : TypeId} {f0 f1 f2 f3 : Field} {cs : List Value} {x : DataW H × List MemPlace}
    (hts : P.underlying ts = some (.slice t)) (hs : P.underlying t = some (.struct #[f0, f1, f2, f3])) (hC : P.cellsOf t = 4) (ho : f0.offset = 0 ∧ f1.offset = 1 ∧ f2.offset = 2 ∧ f3.offset = 3)
    (hty : f0.type = it ∧ f1.type = it ∧ f2.type = it ∧ f3.type = it) (hi : P.underlying it = some (.int .i64)) (hci : P.cellsOf it = 1)
    (hf : DataW.trod enc P w base spare held fuel ts cs = some x) :
    ∃ (l : List EnN) (a : Option Addr) (cap : Nat), cs = [.slice a l.length cap] ∧ l.length ≤ maxLen ∧ l.length ≤ cap ∧ EntsAt l a w := by
  rcases open_slice hts hf with ⟨h1, _⟩ | ⟨a, lv, cv, m, n, D, Pl, h1, _, hlc, hcm, hm, _, hk⟩
  · exact ⟨[], none, 0, h1, Nat.zero_le _, Nat.le_refl _, fun h => absurd rfl h⟩
  · have hlm : lv ≤ m := by rw [hm]; split <;> omega
    have hex : ∀ i, ∃ y : EnN, i < lv → ∀ j, j < 4 → w.cell? (a.add (i * 4 + j)) = (enA y)[j]? := fun i => by
      by_cases hil : i < lv
      · obtain ⟨cs', hc, ht⟩ := hk i (by omega)
        rw [hC] at hc
        obtain ⟨_, hl4, hcell⟩ := World.cells?_some hc
        obtain ⟨y, rfl⟩ := ent_cells hs hl4 ho hty hi hci ht
        refine ⟨y, fun _ j hj => ?_⟩
        have h3 := hcell j hj
        rw [Addr.add_add] at h3
        rw [h3]
        simp
      · exact ⟨zEn, fun h => absurd h hil⟩
    refine ⟨(List.range lv).map fun i => (hex i).choose, some a, cv, by simpa using h1, by simp; omega, by simp; omega, fun hne => ?_⟩
    have h0 : 0 < lv := by
      cases lv with
      | zero => exact absurd rfl hne
      | succ n => omega
    have hc0 : w.cell? (a.add 0) = some (.int .i64 (hex 0).choose.depth) := (hex 0).choose_spec h0 0 (by decide)
    obtain ⟨b, off, rfl, hb, hadd⟩ := addr_spot hc0
    refine ⟨b, off, rfl, hb, fun i hil j hj => ?_⟩
    rw [List.length_map, List.length_range] at hil
    have h5 := (hex i).choose_spec hil j hj
    rw [hadd] at h5
    rw [show off + i * 4 + j = off + (i * 4 + j) by omega, h5]
    simp
theorem open_ents {w : World} {r : Reach} {base b0 : Nat} {spare : Nat → Bool} {held : Bool} {ts t it : TypeId} {f0 f1 f2 f3 : Field} {v : Value} {d : DataW H} {p : List MemPlace}
    (hts : P.underlying ts = some (.slice t)) (hs : P.underlying t = some (.struct #[f0, f1, f2, f3])) (hC : P.cellsOf t = 4) (ho : f0.offset = 0 ∧ f1.offset = 1 ∧ f2.offset = 2 ∧ f3.offset = 3)
    (hty : f0.type = it ∧ f1.type = it ∧ f2.type = it ∧ f3.type = it) (hi : P.underlying it = some (.int .i64)) (hci : P.cellsOf it = 1)
    (hv : Value.okWide P w r b0 ts v) (h : DataW.Trod enc P w base spare held ts v d p) :
    ∃ (l : List EnN) (a : Option Addr) (cap : Nat), v = .slice a l.length cap ∧ l.length ≤ maxLen ∧ l.length ≤ cap ∧ EntsAt l a w := by
  obtain ⟨av, lv, cv, rfl⟩ := okWide_slice hts hv
  obtain ⟨fuel, hf⟩ := h
  obtain ⟨l, a, cap, e, h1, h2, h3⟩ := open_entsC hts hs hC ho hty hi hci hf
  have h4 : Value.slice av lv cv = .slice a l.length cap := by simpa [Value.cells] using e
  exact ⟨l, a, cap, h4, h1, h2, h3⟩
/-- A slice of bytes. -/
theorem open_btsN {w : World} {r : Reach} {base b0 : Nat} {spare : Nat → Bool} {held : Bool} {ts t : TypeId} {v : Value} {d : DataW H} {p : List MemPlace}
    (hts : P.underlying ts = some (.slice t)) (ht : P.underlying t = some (.int .u8)) (hC : P.cellsOf t = 1)
    (hv : Value.okWide P w r b0 ts v) (h : DataW.Trod enc P w base spare held ts v d p) :
    ∃ (l : List Nat) (a : Option Addr) (cap : Nat), v = .slice a l.length cap ∧ l.length ≤ maxLen ∧ (∀ x ∈ l, x < 256) ∧ BtsAt l a w := by
  obtain ⟨av, lv, cv, rfl⟩ := okWide_slice hts hv
  obtain ⟨fuel, hf⟩ := h
  rcases open_slice1 hts hC hf with ⟨h1, _⟩ | ⟨a, len, cap, m, n, V, D, Pl, h1, _, hlc, hcm, hm, _, hk⟩
  · have h2 : Value.slice av lv cv = .slice none 0 0 := by simpa [Value.cells] using h1
    cases h2
    exact ⟨[], none, 0, rfl, Nat.zero_le _, fun x hx => (by cases hx), fun h => absurd rfl h⟩
  · have h2 : Value.slice av lv cv = .slice (some a) len cap := by simpa [Value.cells] using h1
    cases h2
    have hlm : lv ≤ m := by rw [hm]; split <;> omega
    have hex : ∀ i, ∃ y : Nat, y < 256 ∧ (i < lv → w.cell? (a.add i) = some (.int .u8 (y : Nat))) := fun i => by
      by_cases hil : i < lv
      · obtain ⟨hc, htr⟩ := hk i (by omega)
        obtain ⟨y, hy, _, hw⟩ := DataW.trod_int ht htr
        have hb : (Lit.int .u8 y).wf = true := hw
        have h3 : 0 ≤ y ∧ y ≤ 255 := by simpa [Lit.wf, IntKind.min, IntKind.max, IntKind.signed, IntKind.bits] using hb
        have hy' : [V i] = [Value.int .u8 y] := hy
        simp only [List.cons.injEq, and_true] at hy'
        exact ⟨y.toNat, by omega, fun _ => by rw [hc, hy']; congr 2; omega⟩
      · exact ⟨0, by decide, fun h => absurd h hil⟩
    refine ⟨(List.range lv).map fun i => (hex i).choose, some a, cv, by simp, by simp; omega, fun x hx => ?_, fun hne => ?_⟩
    · obtain ⟨i, _, rfl⟩ := List.mem_map.1 hx
      exact (hex i).choose_spec.1
    have h0 : 0 < lv := by
      cases lv with
      | zero => exact absurd rfl hne
      | succ n => omega
    have h4 := (hex 0).choose_spec.2 h0
    obtain ⟨b, off, rfl, hb, hadd⟩ := addr_spot h4
    refine ⟨b, off, rfl, hb, fun i hil => ?_⟩
    rw [List.length_map, List.length_range] at hil
    refine (congrArg w.cell? (hadd i).symm).trans (((hex i).choose_spec.2 hil).trans ?_)
    simp
/-- A row of numbers. -/
theorem open_intsC {w : World} {base fuel : Nat} {spare : Nat → Bool} {held : Bool} {ts t : TypeId} {cs : List Value} {x : DataW H × List MemPlace}
    (hts : P.underlying ts = some (.slice t)) (ht : P.underlying t = some (.int .i64)) (hC : P.cellsOf t = 1) (hf : DataW.trod enc P w base spare held fuel ts cs = some x) :
    ∃ (l : List Int) (a : Option Addr) (cap : Nat), cs = [.slice a l.length cap] ∧ l.length ≤ maxLen ∧ (∀ s ∈ l, -9223372036854775808 ≤ s ∧ s < 9223372036854775808) ∧ IntsO l a w := by
  rcases open_slice1 hts hC hf with ⟨h1, _⟩ | ⟨a, lv, cv, m, n, V, D, Pl, h1, _, hlc, hcm, hm, _, hk⟩
  · exact ⟨[], none, 0, h1, Nat.zero_le _, fun s hs => (by cases hs), fun h => absurd rfl h⟩
  · have hlm : lv ≤ m := by rw [hm]; split <;> omega
    have hex : ∀ i, ∃ y : Int, (-9223372036854775808 ≤ y ∧ y < 9223372036854775808) ∧ (i < lv → w.cell? (a.add i) = some (.int .i64 y)) := fun i => by
      by_cases hil : i < lv
      · obtain ⟨hc, htr⟩ := hk i (by omega)
        obtain ⟨y, hy, _, hw⟩ := DataW.trod_int ht htr
        have hb : (Lit.int .i64 y).wf = true := hw
        have h3 : -9223372036854775808 ≤ y ∧ y ≤ 9223372036854775807 := by simpa [Lit.wf, IntKind.min, IntKind.max, IntKind.signed, IntKind.bits] using hb
        have hy' : [V i] = [Value.int .i64 y] := hy
        simp only [List.cons.injEq, and_true] at hy'
        exact ⟨y, ⟨h3.1, by omega⟩, fun _ => by rw [hc, hy']⟩
      · exact ⟨0, by decide, fun h => absurd h hil⟩
    refine ⟨(List.range lv).map fun i => (hex i).choose, some a, cv, by simpa using h1, by simp; omega, fun s hs => ?_, fun hne => ?_⟩
    · obtain ⟨i, _, rfl⟩ := List.mem_map.1 hs
      exact (hex i).choose_spec.1
    have h0 : 0 < lv := by
      cases lv with
      | zero => exact absurd rfl hne
      | succ n => omega
    have h4 := (hex 0).choose_spec.2 h0
    obtain ⟨b, off, rfl, hb, hadd⟩ := addr_spot h4
    refine ⟨b, off, rfl, hb, fun i hil => ?_⟩
    rw [List.length_map, List.length_range] at hil
    refine (congrArg w.cell? (hadd i).symm).trans (((hex i).choose_spec.2 hil).trans ?_)
    simp
/-- Rows of numbers. -/
theorem open_rowsC {w : World} {base fuel : Nat} {spare : Nat → Bool} {held : Bool} {ts t e : TypeId} {cs : List Value} {x : DataW H × List MemPlace}
    (hts : P.underlying ts = some (.slice t)) (ht : P.underlying t = some (.slice e)) (he : P.underlying e = some (.int .i64)) (hC : P.cellsOf t = 1) (hCe : P.cellsOf e = 1) (hf : DataW.trod enc P w base spare held fuel ts cs = some x) :
    ∃ (l : List (List Int)) (a : Option Addr) (cap : Nat), cs = [.slice a l.length cap] ∧ l.length ≤ maxLen ∧ (∀ row ∈ l, row.length ≤ maxLen) ∧ rangeR l ∧ RowsAt l a w := by
  rcases open_slice1 hts hC hf with ⟨h1, _⟩ | ⟨a, lv, cv, m, n, V, D, Pl, h1, _, hlc, hcm, hm, _, hk⟩
  · exact ⟨[], none, 0, h1, Nat.zero_le _, fun s hs => (by cases hs), fun s hs => (by cases hs), fun h => absurd rfl h⟩
  · have hlm : lv ≤ m := by rw [hm]; split <;> omega
    have hex : ∀ i, ∃ y : List Int, (y.length ≤ maxLen ∧ ∀ s ∈ y, -9223372036854775808 ≤ s ∧ s < 9223372036854775808) ∧ (i < lv → ∃ b c, w.cell? (a.add i) = some (.slice b y.length c) ∧ IntsO y b w) := fun i => by
      by_cases hil : i < lv
      · obtain ⟨hc, htr⟩ := hk i (by omega)
        obtain ⟨y, b, c, e1, h2, h3, h4⟩ := open_intsC ht he hCe htr
        simp only [List.cons.injEq, and_true] at e1
        exact ⟨y, ⟨h2, h3⟩, fun _ => ⟨b, c, by rw [hc, e1], h4⟩⟩
      · exact ⟨[], ⟨Nat.zero_le _, fun s hs => (by cases hs)⟩, fun h => absurd h hil⟩
    refine ⟨(List.range lv).map fun i => (hex i).choose, some a, cv, by simpa using h1, by simp; omega, fun s hs => ?_, fun s hs => ?_, fun hne => ?_⟩
    · obtain ⟨i, _, rfl⟩ := List.mem_map.1 hs
      exact (hex i).choose_spec.1.1
    · obtain ⟨i, _, rfl⟩ := List.mem_map.1 hs
      exact (hex i).choose_spec.1.2
    have h0 : 0 < lv := by
      cases lv with
      | zero => exact absurd rfl hne
      | succ n => omega
    obtain ⟨b0, c0, h4, _⟩ := (hex 0).choose_spec.2 h0
    obtain ⟨b, off, rfl, hb, hadd⟩ := addr_spot h4
    refine ⟨b, off, rfl, hb, fun i hil => ?_⟩
    rw [List.length_map, List.length_range] at hil
    obtain ⟨b1, c1, h5, h6⟩ := (hex i).choose_spec.2 hil
    have e1 : ((List.range lv).map fun i => (hex i).choose)[i]'(by simpa using hil) = (hex i).choose := by simp
    rw [e1]
    exact ⟨b1, c1, (congrArg w.cell? (hadd i).symm).trans h5, h6⟩
/-- A struct of entries and rows. -/
theorem open_twoS {w : World} {r : Reach} {base b0 : Nat} {spare : Nat → Bool} {held : Bool} {tt ts t it rs rt : TypeId} {g0 g1 f0 f1 f2 f3 : Field} {v : Value} {d : DataW H} {p : List MemPlace}
    (htt : P.underlying tt = some (.struct #[g0, g1])) (hg : g0.offset = 0 ∧ g1.offset = 1) (hgt : g0.type = ts ∧ g1.type = rs) (hCtt : P.cellsOf tt = 2) (hCts : P.cellsOf ts = 1) (hCrs : P.cellsOf rs = 1)
    (hts : P.underlying ts = some (.slice t)) (hs : P.underlying t = some (.struct #[f0, f1, f2, f3])) (hC : P.cellsOf t = 4) (ho : f0.offset = 0 ∧ f1.offset = 1 ∧ f2.offset = 2 ∧ f3.offset = 3)
    (hty : f0.type = it ∧ f1.type = it ∧ f2.type = it ∧ f3.type = it) (hi : P.underlying it = some (.int .i64)) (hci : P.cellsOf it = 1)
    (hrs : P.underlying rs = some (.slice rt)) (hrt : P.underlying rt = some (.slice it)) (hCr : P.cellsOf rt = 1)
    (hv : Value.okWide P w r b0 tt v) (h : DataW.Trod enc P w base spare held tt v d p) :
    ∃ (l : List EnN) (a : Option Addr) (ca : Nat) (F : List (List Int)) (b : Option Addr) (cb : Nat), v = .agg #[.slice a l.length ca, .slice b F.length cb] ∧ l.length ≤ maxLen ∧ l.length ≤ ca ∧ EntsAt l a w ∧ F.length ≤ maxLen ∧ (∀ row ∈ F, row.length ≤ maxLen) ∧ rangeR F ∧ RowsAt F b w := by
  obtain ⟨cs, rfl, hsz⟩ := okWide_struct htt hv
  obtain ⟨fuel, hf⟩ := h
  obtain ⟨y0, y1, n, _, hl, h0, h1⟩ := trod_struct2 htt hf
  rw [hCtt] at hsz
  obtain ⟨a, b, rfl⟩ : ∃ a b, cs = #[a, b] := by
    obtain ⟨l⟩ := cs
    match l, hsz with
    | [a, b], _ => exact ⟨a, b, rfl⟩
  rw [hg.1, hgt.1, hCts] at h0
  rw [hg.2, hgt.2, hCrs] at h1
  have h0' : DataW.trod enc P w base spare held n ts [a] = some y0 := h0
  have h1' : DataW.trod enc P w base spare held n rs [b] = some y1 := h1
  obtain ⟨l, aa, ca, e1, k1, k2, k3⟩ := open_entsC hts hs hC ho hty hi hci h0'
  obtain ⟨F, ab, cb, e2, m1, m2, m3, m4⟩ := open_rowsC hrs hrt hi hCr hci h1'
  simp only [List.cons.injEq, and_true] at e1 e2
  subst e1 e2
  exact ⟨l, aa, ca, F, ab, cb, rfl, k1, k2, k3, m1, m2, m3, m4⟩
end
end Go.Proofs.YtdpkhliojbeglaaDoor

/- Texts put together: Trn Trw Trx. -/
import Derived.Test.YtooolhekihijlaaQO
import Derived.Test.YtooolhekihijlaaQI
import Derived.Test.YtooolhekihijlaaQJ
import Derived.Test.YtooolhekihijlaaQN
import Derived.Test.YtooolhekihijlaaQH
import Derived.Test.YtooolhekihijlaaQG
import Derived.Laws.OwnMore
import Derived.Deep.AppendLies
import Derived.Deep.OwnRows
import Derived.Test.YtooolhekihijlaaQE
import Derived.BigQuiet
import Derived.Deep.QuietTactic
/- What a parse tree's groups span, plainly; TreeWithin's spans. Stage 14. -/
namespace Go.Proofs.Ytooolhekihijlaa
open Go.RowKit

/-- Groups that span nothing. -/
def offS (o : List (Int × Int)) (g : List Nat) : List (Int × Int) := g.foldl (fun o n => o.set n (-1, -1)) o
/-- One entry more. -/
def spanS (l : List NdN) (o : List (Int × Int)) (x : EnN) : List (Int × Int) :=
  if 0 ≤ x.node ∧ x.node < l.length then
    if (ndE l x.node.toNat).kind = 7 then o.set (ndE l x.node.toNat).m.toNat (x.from_, x.to)
    else if (ndE l x.node.toNat).kind = 8 then offS o (groupsT l x.node) else o
  else o
def spanI (l : List NdN) : List EnN → List (Int × Int)
  | [] => (-1, -1) :: List.replicate (topL l) (-1, -1)
  | x :: _ => (x.from_, x.to) :: List.replicate (topL l) (-1, -1)
def spansT (l : List NdN) (t : List EnN) : List (Int × Int) := if rightT l = true then t.foldl (spanS l) (spanI l t) else []
theorem grp_num (l : List NdN) (hr : rightT l = true) (i : Nat) (hi : i < l.length) (hk : l[i].kind = 7) : ∃ m : Nat, l[i].m = m ∧ 1 ≤ m ∧ m ≤ topL l := by
  obtain ⟨s, hs, hf⟩ := tr_at l hr i hi
  obtain ⟨h7, _⟩ := (fine_go l i s hs hi).1 hf
  unfold kindT at h7
  have h := of_decide_eq_true h7
  obtain ⟨h1, h9⟩ := h.2.2.2.2.1 hk
  refine ⟨l[i].m.toNat, by omega, by omega, (topL_spec l).1 _ (by omega) (by omega) ((hasG_all l _).2 ⟨l[i], List.getElem_mem hi, hk, by omega⟩)⟩
theorem groups_num (l : List NdN) (q : Int) (n : Nat) (h : n ∈ groupsT l q) : 1 ≤ n ∧ n ≤ topL l := by
  unfold groupsT at h
  split at h
  · obtain ⟨h1, h9, hg⟩ := (grpL_mem l _ _ n).1 h
    obtain ⟨i, x, _, _, hx, hk, hm⟩ := (hasG_iff l _ _ n).1 hg
    obtain ⟨hi, rfl⟩ := List.getElem?_eq_some_iff.1 hx
    exact ⟨h1, (topL_spec l).1 n h1 h9 ((hasG_all l n).2 ⟨_, List.getElem_mem hi, hk, hm⟩)⟩
  · cases h
/-- What is told of spans: of the whole, and of each group. -/
def SpOk (l : List NdN) (t : List EnN) (z : Int × Int) (o : List (Int × Int)) : Prop :=
  o.length = topL l + 1 ∧ o[0]? = some z ∧ ∀ g, 1 ≤ g → g < o.length → o[g]? = some (-1, -1) ∨ ∃ x ∈ t, 0 ≤ x.node ∧ x.node < l.length ∧ (ndE l x.node.toNat).kind = 7 ∧ (ndE l x.node.toNat).m = (g : Int) ∧ o[g]? = some (x.from_, x.to)
theorem off_ok (l : List NdN) (t : List EnN) (z : Int × Int) : ∀ (gs : List Nat) (o : List (Int × Int)), (∀ n ∈ gs, 1 ≤ n) → SpOk l t z o → SpOk l t z (offS o gs)
  | [], _, _, h => h
  | n :: gs, o, hn, h => by
    have hn1 := hn n (List.mem_cons_self ..)
    refine off_ok l t z gs (o.set n (-1, -1)) (fun m hm => hn m (List.mem_cons_of_mem _ hm)) ⟨by rw [List.length_set]; exact h.1, by rw [List.getElem?_set_ne (by omega)]; exact h.2.1, fun g hg hl => ?_⟩
    rw [List.length_set] at hl
    by_cases he : n = g
    · subst he
      exact .inl (by rw [List.getElem?_set_self hl])
    · rw [List.getElem?_set_ne he]
      exact h.2.2 g hg hl
theorem span_ok (l : List NdN) (hr : rightT l = true) (t : List EnN) (z : Int × Int) (x : EnN) (hx : x ∈ t) (o : List (Int × Int)) (h : SpOk l t z o) : SpOk l t z (spanS l o x) := by
  unfold spanS
  split
  · rename_i hn
    have hi : x.node.toNat < l.length := by omega
    have hnd : ndE l x.node.toNat = l[x.node.toNat] := by simp [ndE, hi]
    split
    · rename_i h7
      rw [hnd] at h7
      obtain ⟨m, hm, h1, hT⟩ := grp_num l hr _ hi h7
      rw [hnd, hm, Int.toNat_natCast]
      refine ⟨by rw [List.length_set]; exact h.1, by rw [List.getElem?_set_ne (by omega)]; exact h.2.1, fun g hg hl => ?_⟩
      rw [List.length_set] at hl
      by_cases he : m = g
      · subst he
        exact .inr ⟨x, hx, hn.1, hn.2, by rw [hnd]; exact h7, by rw [hnd]; exact hm, by rw [List.getElem?_set_self hl]⟩
      · rw [List.getElem?_set_ne he]
        exact h.2.2 g hg hl
    · split
      · exact off_ok l t z _ o (fun n hn => (groups_num l _ n hn).1) h
      · exact h
  · exact h
theorem spans_run (l : List NdN) (hr : rightT l = true) (t : List EnN) (z : Int × Int) : ∀ (M : List EnN) (o : List (Int × Int)), (∀ x ∈ M, x ∈ t) → SpOk l t z o → SpOk l t z (M.foldl (spanS l) o)
  | [], _, _, h => h
  | x :: M, o, hM, h => spans_run l hr t z M (spanS l o x) (fun y hy => hM y (List.mem_cons_of_mem _ hy)) (span_ok l hr t z x (hM x (List.mem_cons_self ..)) o h)
theorem init_ok (l : List NdN) (t : List EnN) (z : Int × Int) : SpOk l t z (z :: List.replicate (topL l) (-1, -1)) := by
  refine ⟨by simp, rfl, fun g hg hl => .inl ?_⟩
  obtain ⟨g, rfl⟩ : ∃ k, g = k + 1 := ⟨g - 1, by omega⟩
  simp only [List.length_cons, List.length_replicate] at hl
  rw [List.getElem?_cons_succ, List.getElem?_replicate, if_pos (by omega)]
/-- What a parse tree's groups span: the whole, and for each group nothing, or what an entry of it does. -/
theorem spans_tree (l : List NdN) (w : List Nat) (t : List EnN) (h : treeT l w t = true) : SpOk l t (0, (w.length : Int)) (spansT l t) := by
  obtain ⟨hr, ks, hok, ht⟩ := (tree_iff l w t).1 h
  unfold spansT
  rw [if_pos hr]
  refine spans_run l hr t _ t _ (fun _ hx => hx) ?_
  rw [ht]
  exact init_ok l _ _
end Go.Proofs.Ytooolhekihijlaa

/- Rows of numbers by places, each a row of the call's own; a row of entries. Stage 14. -/
namespace Go.Proofs.Ytooolhekihijlaa
open Go.RowKit BS

theorem infoI12 : (Try.prog.info? 3).map (fun i => (i.zero, i.size, i.bytes)) = some (some (.int .i64 0), 1, 8) := by kernel_rfl
theorem infoE12 : (Try.prog.info? 44).map (fun i => (i.zero, i.size, i.bytes)) = some (some (.agg (enI 0 0 0 0)), 4, 32) := by kernel_rfl
theorem infoR12 : (Try.prog.info? 35).map (fun i => (i.zero, i.size, i.bytes)) = some (some (.slice none 0 0), 1, 24) := by kernel_rfl
theorem owns_take {W : World} {base : Nat} {e : TypeId} {size n m c : Nat} {a : Option Addr} {xs : List Value} (h : W.ownsRow base e size (.slice a n c) n xs) (hm : m ≤ n) : W.ownsRow base e size (.slice a m c) m (xs.take (m * size)) := by
  obtain ⟨hl, hr⟩ := h
  have hle : m * size ≤ n * size := Nat.mul_le_mul_right _ hm
  refine ⟨by rw [List.length_take, hl]; omega, ?_⟩
  rcases hr with ⟨e1, h0⟩ | ⟨g, cap, cur, e1, hb, hg, hc, hc2, hs, ht⟩
  · obtain rfl : m = 0 := by omega
    subst h0
    cases e1
    exact .inl ⟨rfl, rfl⟩
  · cases e1
    exact .inr ⟨g, c, cur, rfl, hb, hg, by omega, hc2, hs, by rw [← ht, List.take_take, show min (m * size) (n * size) = m * size by omega]⟩
theorem own_fresh {W W' : World} {base : Nat} {e : TypeId} {size n : Nat} {v : Value} {xs : List Value} (h : W.ownsRow base e size v n xs) (hb : Below W.heap.size W W') : W'.ownsRow base e size v n xs :=
  owns_keep h fun g hg => hb.block g (World.ownsRow.lt h g hg).2

/-! ### Numbers -/
def OwI (base : Nat) (v : Value) (L : List Int) (W : World) : Prop := W.ownsRow base 3 1 v L.length (L.map (Value.int .i64))
theorem OwI.nil (W : World) (base : Nat) : OwI base (.slice none 0 0) [] W := World.ownsRow_nil _ _ _ _
theorem OwI.form {base : Nat} {v : Value} {L : List Int} {W : World} (h : OwI base v L W) : ∃ a c, v = .slice a L.length c := owns_form h
theorem OwI.below {base : Nat} {v : Value} {L : List Int} {W W' : World} (h : OwI base v L W) (hb : Below W.heap.size W W') : OwI base v L W' := own_fresh h hb
theorem OwI.keep {base : Nat} {v : Value} {L : List Int} {W W' : World} (h : OwI base v L W) (hb : ∀ g, v.ownBlock = some g → W'.heap[g]? = W.heap[g]?) : OwI base v L W' := owns_keep h hb
theorem OwI.lt {base : Nat} {v : Value} {L : List Int} {W : World} (h : OwI base v L W) {g : Nat} (hg : v.ownBlock = some g) : base ≤ g ∧ g < W.heap.size := World.ownsRow.lt h g hg
theorem OwI.ints {base : Nat} {a : Option Addr} {c : Nat} {L : List Int} {W : World} (h : OwI base (.slice a L.length c) L W) : IntsB base L a W := fun hne => by
  have h0 := h
  rcases h.2 with ⟨_, h1⟩ | ⟨g, c', cur, e, hb, hg, _⟩
  · exact absurd (List.eq_nil_of_length_eq_zero h1) hne
  · have e2 : a = some ⟨g, 0, none⟩ := by cases e; rfl
    subst e2
    refine ⟨g, 0, rfl, hb, (Array.getElem?_eq_some_iff.1 hg).1, fun i hi => ?_⟩
    rw [Nat.zero_add]
    refine (World.ownsRow.cellAt h0 i (by omega)).trans ?_
    rw [List.getElem?_map, List.getElem?_eq_getElem hi]; rfl
/-- One number more. -/
theorem push_int {base : Nat} {v : Value} {L : List Int} {W : World} (h : OwI base v L W) (hb : base ≤ W.heap.size) (hn : L.length ≤ 1000000) (z : Int) (ty : TypeId) :
    ∃ g cap W2, (Builtin.append_ #[35, 35] ty #[v, .slice (some ⟨W.heap.size, 0, none⟩) 1 1]).run Try.prog (W.alloc (.cells #[.int .i64 z] 3)) = .ok (.slice (some ⟨g, 0, none⟩) (L.length + 1) cap) W2 ∧
      OwI base (.slice (some ⟨g, 0, none⟩) (L.length + 1) cap) (L ++ [z]) W2 ∧ (W.alloc (.cells #[.int .i64 z] 3)).grownBy W2 v.ownBlock ∧ (v.ownBlock = some g ∨ g = W.heap.size + 1) ∧ g < W2.heap.size := by
  obtain ⟨i0, hinf, hzz⟩ := Option.map_eq_some_iff.1 infoI12
  simp only [Prod.mk.injEq] at hzz
  obtain ⟨hz0, hz1, hz2⟩ := hzz
  have h1 : (W.alloc (.cells #[.int .i64 z] 3)).ownsRow base 3 1 v L.length (L.map (Value.int .i64)) := own_fresh h ((Below.refl _ _).alloc (Nat.le_refl _) _)
  obtain ⟨g, cap, W2, hr, h2, h3, h4, h5⟩ := run_append_lies (P := Try.prog) (W.alloc (.cells #[.int .i64 z] 3)) 35 ty base 3 i0 (.int .i64 0) 1 8 Try.underlying35 hinf hz0 hz1 hz2 rfl (by decide) v L.length _ h1 ⟨W.heap.size, 0, none⟩ 1 1 [.int .i64 z] rfl (Blk.new W _ _).newsL (by simp [Value.oneCell']) (by decide) (by unfold maxLen; omega) (by omega) (by rw [World.size_alloc]; omega) (W.heap.size + 1) (World.size_alloc ..)
  exact ⟨g, cap, W2, hr, by unfold OwI; rw [List.length_append, List.map_append]; exact h2, h3, h4, h5⟩

/-! ### Entries -/
def enCells (l : List EnN) : List Value := l.flatMap fun x => (enA x).toList
theorem enCells_app (l m : List EnN) : enCells (l ++ m) = enCells l ++ enCells m := by simp [enCells]
theorem enCells_len (l : List EnN) : (enCells l).length = l.length * 4 := by
  induction l with
  | nil => rfl
  | cons x l ih =>
    have e : enCells (x :: l) = (enA x).toList ++ enCells l := by simp [enCells]
    rw [e, List.length_append, ih, List.length_cons, show (enA x).toList.length = 4 from rfl]
    omega
theorem enCells_get : ∀ (l : List EnN) (i j : Nat) (h : i < l.length) (_hj : j < 4), (enCells l)[i * 4 + j]? = (enA l[i])[j]?
  | [], _, _, h, _ => absurd h (by simp)
  | x :: l, i, j, h, hj => by
    have e : enCells (x :: l) = (enA x).toList ++ enCells l := by simp [enCells]
    rw [e]
    cases i with
    | zero =>
      rw [List.getElem?_append_left (by rw [show (enA x).toList.length = 4 from rfl]; omega), Nat.zero_mul, Nat.zero_add]
      simp
    | succ i =>
      rw [List.getElem?_append_right (by rw [show (enA x).toList.length = 4 from rfl]; omega), show (enA x).toList.length = 4 from rfl, show (i + 1) * 4 + j - 4 = i * 4 + j by omega]
      exact enCells_get l i j (by simpa using h) hj
theorem enCells_take (l : List EnN) (m : Nat) (_h : m ≤ l.length) : (enCells l).take (m * 4) = enCells (l.take m) := by
  have h := enCells_app (l.take m) (l.drop m)
  rw [List.take_append_drop] at h
  rw [h, List.take_append_of_le_length (by rw [enCells_len, List.length_take]; omega), List.take_of_length_le (by rw [enCells_len, List.length_take]; omega)]
def OwE (base : Nat) (v : Value) (L : List EnN) (W : World) : Prop := W.ownsRow base 44 4 v L.length (enCells L)
theorem OwE.nil (W : World) (base : Nat) : OwE base (.slice none 0 0) [] W := World.ownsRow_nil _ _ _ _
theorem OwE.form {base : Nat} {v : Value} {L : List EnN} {W : World} (h : OwE base v L W) : ∃ a c, v = .slice a L.length c := owns_form h
theorem OwE.below {base : Nat} {v : Value} {L : List EnN} {W W' : World} (h : OwE base v L W) (hb : Below W.heap.size W W') : OwE base v L W' := own_fresh h hb
theorem OwE.keep {base : Nat} {v : Value} {L : List EnN} {W W' : World} (h : OwE base v L W) (hb : ∀ g, v.ownBlock = some g → W'.heap[g]? = W.heap[g]?) : OwE base v L W' := owns_keep h hb
theorem OwE.lt {base : Nat} {v : Value} {L : List EnN} {W : World} (h : OwE base v L W) {g : Nat} (hg : v.ownBlock = some g) : base ≤ g ∧ g < W.heap.size := World.ownsRow.lt h g hg
theorem OwE.take {base : Nat} {a : Option Addr} {c n : Nat} {L : List EnN} {W : World} (h : OwE base (.slice a n c) L W) (hn : n = L.length) (m : Nat) (hm : m ≤ L.length) : OwE base (.slice a m c) (L.take m) W := by
  subst hn
  have h2 := owns_take h hm
  rw [enCells_take L m hm] at h2
  unfold OwE
  rw [List.length_take, Nat.min_eq_left hm]
  exact h2
theorem OwE.ents {base : Nat} {a : Option Addr} {c n : Nat} {L : List EnN} {W : World} (h : OwE base (.slice a n c) L W) : EntsAt L a W := fun hne => by
  have h0 := h
  rcases h.2 with ⟨_, h1⟩ | ⟨g, c', cur, e, hb, hg, _⟩
  · exact absurd (List.eq_nil_of_length_eq_zero h1) hne
  · have e2 : a = some ⟨g, 0, none⟩ := by cases e; rfl
    have hn : n = L.length := by cases e; rfl
    subst e2 hn
    refine ⟨g, 0, rfl, (Array.getElem?_eq_some_iff.1 hg).1, fun i hi j hj => ?_⟩
    rw [Nat.zero_add]
    refine (World.ownsRow.cellAt h0 (i * 4 + j) (by omega)).trans ?_
    exact enCells_get L i j hi hj
/-- The place of a row that is not empty. -/
theorem OwE.blk {base : Nat} {v : Value} {L : List EnN} {W : World} (h : OwE base v L W) (hne : L ≠ []) : ∃ g c, v = .slice (some ⟨g, 0, none⟩) L.length c ∧ base ≤ g ∧ g < W.heap.size ∧ L.length ≤ c := by
  rcases h.2 with ⟨_, h1⟩ | ⟨g, c', cur, e, hb, hg, hc, _⟩
  · exact absurd (List.eq_nil_of_length_eq_zero h1) hne
  · exact ⟨g, c', e, hb, (Array.getElem?_eq_some_iff.1 hg).1, hc⟩
theorem OwE.cap {base : Nat} {a : Option Addr} {c n : Nat} {L : List EnN} {W : World} (h : OwE base (.slice a n c) L W) : n ≤ c := by
  rcases h.2 with ⟨e, h1⟩ | ⟨g, c', cur, e, hb, hg, hc, _⟩
  · cases e; exact Nat.le_refl _
  · cases e; exact hc
/-- One entry more. -/
theorem push_ent {base : Nat} {v : Value} {L : List EnN} {W : World} (h : OwE base v L W) (hb : base ≤ W.heap.size) (hn : L.length ≤ 1000000) (d n f e : Int) (ty : TypeId) :
    ∃ g cap W2, (Builtin.append_ #[22, 22] ty #[v, .slice (some ⟨W.heap.size, 0, none⟩) 1 1]).run Try.prog (W.alloc (.cells (enI d n f e) 44)) = .ok (.slice (some ⟨g, 0, none⟩) (L.length + 1) cap) W2 ∧
      OwE base (.slice (some ⟨g, 0, none⟩) (L.length + 1) cap) (L ++ [⟨d, n, f, e⟩]) W2 ∧ (W.alloc (.cells (enI d n f e) 44)).grownBy W2 v.ownBlock ∧ (v.ownBlock = some g ∨ g = W.heap.size + 1) ∧ g < W2.heap.size := by
  obtain ⟨i0, hinf, hzz⟩ := Option.map_eq_some_iff.1 infoE12
  simp only [Prod.mk.injEq] at hzz
  obtain ⟨hz0, hz1, hz2⟩ := hzz
  have h1 : (W.alloc (.cells (enI d n f e) 44)).ownsRow base 44 4 v L.length (enCells L) := own_fresh h ((Below.refl _ _).alloc (Nat.le_refl _) _)
  obtain ⟨g, cap, W2, hr, h2, h3, h4, h5⟩ := run_append_lies (P := Try.prog) (W.alloc (.cells (enI d n f e) 44)) 22 ty base 44 i0 (.agg (enI 0 0 0 0)) 4 32 Try.underlying22 hinf hz0 hz1 hz2 rfl (by decide) v L.length _ h1 ⟨W.heap.size, 0, none⟩ 1 1 [.int .i64 d, .int .i64 n, .int .i64 f, .int .i64 e] rfl (Blk.new W _ _).newsL (by simp [Value.oneCell']) (by decide) (by unfold maxLen; omega) (by omega) (by rw [World.size_alloc]; omega) (W.heap.size + 1) (World.size_alloc ..)
  exact ⟨g, cap, W2, hr, by unfold OwE; rw [List.length_append, enCells_app]; exact h2, h3, h4, h5⟩

/-! ### Rows by places -/
structure RowsI (base n T : Nat) (S : Nat → Prop) (fL : Nat → List Int) (W : World) : Prop where
  tab : ∃ vs : Array Value, vs.size = n ∧ Blk W T vs 35 ∧
    (∀ x, x < n → ∃ v, vs[x]? = some v ∧ OwI base v (fL x) W ∧ ∀ g, v.ownBlock = some g → S g ∧ g ≠ T) ∧
    (∀ (x y : Nat) (v u : Value) (g : Nat), x ≠ y → vs[x]? = some v → vs[y]? = some u → v.ownBlock = some g → u.ownBlock ≠ some g)
  lt : ∀ g, S g → g < W.heap.size
  has : S T
  lo : base ≤ T
section
variable {base n T : Nat} {S : Nat → Prop} {fL : Nat → List Int} {W W' : World}
theorem RowsI.tl (h : RowsI base n T S fL W) : T < W.heap.size := h.lt T h.has
theorem RowsI.kp {A : Nat → Prop} (h : RowsI base n T S fL W) (k : KpA A W W') (hA : ∀ g, S g → ¬ A g) : RowsI base n T S fL W' := by
  obtain ⟨vs, h1, h2, h3, h4⟩ := h.tab
  exact ⟨⟨vs, h1, h2.kpA k (hA T h.has), fun x hx => by
    obtain ⟨v, e, ho, hs⟩ := h3 x hx
    exact ⟨v, e, ho.keep (fun g hg => k.block g (h.lt g (hs g hg).1) (hA g (hs g hg).1)), hs⟩, h4⟩, fun g hg => Nat.lt_of_lt_of_le (h.lt g hg) k.size, h.has, h.lo⟩
theorem RowsI.below (h : RowsI base n T S fL W) (hb : Below W.heap.size W W') : RowsI base n T S fL W' :=
  h.kp (A := fun _ => False) ((KpA.refl _ W).below hb) (fun _ _ h => h)
theorem RowsI.cell (h : RowsI base n T S fL W) (x : Nat) (hx : x < n) : ∃ a c, W.cell? ⟨T, x, none⟩ = some (.slice a (fL x).length c) ∧ OwI base (.slice a (fL x).length c) (fL x) W ∧ ∀ g, (Value.slice a (fL x).length c).ownBlock = some g → S g ∧ g ≠ T := by
  obtain ⟨vs, h1, h2, h3, h4⟩ := h.tab
  obtain ⟨v, e, ho, hs⟩ := h3 x hx
  obtain ⟨a, c, rfl⟩ := ho.form
  exact ⟨a, c, (h2.cell x).trans e, ho, hs⟩
theorem RowsI.fr (h : RowsI base n T S fL W) (x : Nat) : W.frozen? ⟨T, x, none⟩ = false := by
  obtain ⟨vs, h1, h2, h3, h4⟩ := h.tab
  exact h2.frozen x
/-- New rows, all of them empty. -/
theorem RowsI.new (W : World) (n base : Nat) (hb : base ≤ W.heap.size) : RowsI base n W.heap.size (fun g => g = W.heap.size) (fun _ => []) (W.alloc (.cells (madeCells #[.slice none 0 0] n) 35)) := by
  have hget : ∀ x, x < n → (madeCells #[Value.slice none 0 0] n)[x]? = some (.slice none 0 0) := fun x hx => by
    unfold madeCells
    rw [Array.getElem?_map, Array.getElem?_range, if_pos hx]
    have e : x % 1 = 0 := Nat.mod_one x
    show some ((#[Value.slice none 0 0])[x % 1]!) = _
    rw [e]; rfl
  have hsz : (madeCells #[Value.slice none 0 0] n).size = n := size_madeCells _ _
  refine ⟨⟨_, hsz, Blk.new W _ _, fun x hx => ⟨_, hget x hx, OwI.nil _ _, fun g hg => by cases hg⟩, fun x y v u g _ hv _ hg => ?_⟩, fun g hg => by subst hg; rw [World.size_alloc]; omega, rfl, hb⟩
  have hx : x < n := by have := (Array.getElem?_eq_some_iff.1 hv).1; omega
  rw [hget x hx] at hv
  cases hv
  cases hg
/-- The world of one number more in a row: what the steps of it come to. -/
theorem RowsI.push (h : RowsI base n T S fL W) (x : Nat) (hx : x < n) (hlen : (fL x).length ≤ 1000000) (z : Int) (ty : TypeId) :
    ∃ a c g cap W2, W.cell? ⟨T, x, none⟩ = some (.slice a (fL x).length c) ∧
      (Builtin.append_ #[35, 35] ty #[.slice a (fL x).length c, .slice (some ⟨W.heap.size, 0, none⟩) 1 1]).run Try.prog (W.alloc (.cells #[.int .i64 z] 3)) = .ok (.slice (some ⟨g, 0, none⟩) ((fL x).length + 1) cap) W2 ∧
      KpA (fun k => (Value.slice a (fL x).length c).ownBlock = some k) W W2 ∧ KpA (fun k => (Value.slice a (fL x).length c).ownBlock = some k) W (W.alloc (.cells #[.int .i64 z] 3)) ∧
      (∀ k, (Value.slice a (fL x).length c).ownBlock = some k → S k ∧ k ≠ T) ∧ W2.frozen? ⟨T, x, none⟩ = false ∧
      RowsI base n T (fun k => S k ∨ (W.heap.size ≤ k ∧ k < W2.heap.size)) (fun y => if y = x then fL x ++ [z] else fL y) (W2.setCell ⟨T, x, none⟩ (.slice (some ⟨g, 0, none⟩) ((fL x).length + 1) cap)) ∧
      KpA S W (W2.setCell ⟨T, x, none⟩ (.slice (some ⟨g, 0, none⟩) ((fL x).length + 1) cap)) := by
  obtain ⟨vs, h1, h2, h3, h4⟩ := h.tab
  obtain ⟨v, e, ho, hs⟩ := h3 x hx
  obtain ⟨a, c, rfl⟩ := ho.form
  obtain ⟨g, cap, W2, hr, ho2, hgr, hat, hgl⟩ := push_int ho (Nat.le_trans h.lo (Nat.le_of_lt h.tl)) hlen z ty
  have hk1 : KpA (fun k => (Value.slice a (fL x).length c).ownBlock = some k) W (W.alloc (.cells #[.int .i64 z] 3)) := (KpA.refl _ W).alloc _
  have hk : KpA (fun k => (Value.slice a (fL x).length c).ownBlock = some k) W W2 := hk1.grown hgr (fun k hk => .inl hk)
  have hT2 := h2.kpA hk (fun hh => (hs T hh).2 rfl)
  have hgT : g ≠ T := by
    rcases hat with hat | hat
    · exact (hs g hat).2
    · have := h.tl; omega
  have hgN : S g ∨ (W.heap.size ≤ g ∧ g < W2.heap.size) := by
    rcases hat with hat | hat
    · exact .inl (hs g hat).1
    · exact .inr ⟨by omega, hgl⟩
  have hsz2 : (W2.setCell ⟨T, x, none⟩ (.slice (some ⟨g, 0, none⟩) ((fL x).length + 1) cap)).heap.size = W2.heap.size := by simp
  have hset : ∀ k, k ≠ T → (W2.setCell ⟨T, x, none⟩ (.slice (some ⟨g, 0, none⟩) ((fL x).length + 1) cap)).heap[k]? = W2.heap[k]? := fun k hk => Below.heap_setCell W2 ⟨T, x, none⟩ _ k hk
  have hmine : ∀ y v' k, y ≠ x → vs[y]? = some v' → v'.ownBlock = some k → k ≠ g := fun y v' k hy hv hk' he => by
    subst he
    rcases hat with hat | hat
    · exact h4 x y _ v' k (Ne.symm hy) e hv hat hk'
    · have hy2 : y < n := by have := (Array.getElem?_eq_some_iff.1 hv).1; omega
      obtain ⟨v2, e2, ho3, hs3⟩ := h3 y hy2
      rw [hv] at e2
      cases e2
      have := h.lt k (hs3 k hk').1
      omega
  refine ⟨a, c, g, cap, W2, (h2.cell x).trans e, hr, hk, hk1, hs, hT2.frozen x, ⟨⟨vs.setIfInBounds x (.slice (some ⟨g, 0, none⟩) ((fL x).length + 1) cap), by simp [h1], hT2.set x _, fun y hy => ?_, fun y1 y2 v1 v2 k hne hv1 hv2 hk1 => ?_⟩, fun k hk' => ?_, .inl h.has, h.lo⟩, ?_⟩
  · by_cases hyx : y = x
    · subst hyx
      refine ⟨_, by rw [Array.getElem?_setIfInBounds_self_of_lt (by omega)], ?_, ?_⟩
      · simp only [if_true]
        exact ho2.keep (fun k hk' => by cases hk'; exact hset g hgT)
      · intro k hk'
        cases hk'
        exact ⟨hgN, hgT⟩
    · obtain ⟨v', e', ho', hs'⟩ := h3 y hy
      refine ⟨v', by rw [Array.getElem?_setIfInBounds_ne (Ne.symm hyx)]; exact e', ?_, fun k hk' => ⟨.inl (hs' k hk').1, (hs' k hk').2⟩⟩
      simp only [if_neg hyx]
      refine ho'.keep (fun k hk' => (hset k (hs' k hk').2).trans (hk.block k (h.lt k (hs' k hk').1) (fun h9 => ?_)))
      exact h4 x y _ v' k (Ne.symm hyx) e e' h9 hk'
  · by_cases hy1 : y1 = x
    · subst hy1
      rw [Array.getElem?_setIfInBounds_self_of_lt (by omega)] at hv1
      rw [Array.getElem?_setIfInBounds_ne hne] at hv2
      cases hv1
      cases hk1
      intro hk2
      exact hmine y2 v2 g (Ne.symm hne) hv2 hk2 rfl
    · rw [Array.getElem?_setIfInBounds_ne (Ne.symm hy1)] at hv1
      by_cases hy2 : y2 = x
      · subst hy2
        rw [Array.getElem?_setIfInBounds_self_of_lt (by omega)] at hv2
        cases hv2
        intro hk2
        cases hk2
        exact hmine y1 v1 g hy1 hv1 hk1 rfl
      · rw [Array.getElem?_setIfInBounds_ne (Ne.symm hy2)] at hv2
        exact h4 y1 y2 v1 v2 k hne hv1 hv2 hk1
  · rw [hsz2]
    rcases hk' with hk' | hk'
    · exact Nat.lt_of_lt_of_le (h.lt k hk') hk.size
    · exact hk'.2
  · exact (hk.mono (fun k hk' => (hs k hk').1)).set (.inl h.has) x _
theorem RowsI.congr {fL' : Nat → List Int} (h : RowsI base n T S fL W) (he : ∀ x, x < n → fL x = fL' x) : RowsI base n T S fL' W := by
  obtain ⟨vs, h1, h2, h3, h4⟩ := h.tab
  exact ⟨⟨vs, h1, h2, fun x hx => by rw [← he x hx]; exact h3 x hx, h4⟩, h.lt, h.has, h.lo⟩
/-- Rows of numbers, as they are told. -/
def RowsAt (L : List (List Int)) (a : Option Addr) (W : World) : Prop :=
  L ≠ [] → ∃ g off, a = some ⟨g, off, none⟩ ∧ g < W.heap.size ∧ ∀ i (h : i < L.length), ∃ b c, W.cell? ⟨g, off + i, none⟩ = some (.slice b L[i].length c) ∧ IntsO L[i] b W
theorem RowsAt.below {L : List (List Int)} {a : Option Addr} (h : RowsAt L a W) (hb : Below W.heap.size W W') : RowsAt L a W' := fun hne => by
  obtain ⟨g, off, e, hg, hc⟩ := h hne
  exact ⟨g, off, e, Nat.lt_of_lt_of_le hg hb.size, fun i hi => by
    obtain ⟨b, c, h1, h2⟩ := hc i hi
    exact ⟨b, c, (hb.cell (p := ⟨g, off + i, none⟩) hg).trans h1, h2.below hb⟩⟩
theorem RowsI.at (h : RowsI base n T S fL W) : RowsAt ((List.range n).map fL) (some ⟨T, 0, none⟩) W := fun _ => ⟨T, 0, rfl, h.tl, fun i hi => by
  have hi2 : i < n := by simpa using hi
  obtain ⟨a, c, h1, h2, _⟩ := h.cell i hi2
  have e : ((List.range n).map fL)[i] = fL i := by simp
  rw [e, Nat.zero_add]
  exact ⟨a, c, h1, h2.ints.o⟩⟩
end
end Go.Proofs.Ytooolhekihijlaa

/- What opens and closes: the state of both walks; the developers' open and shut. Stage 14. -/
namespace Go.Proofs.Ytooolhekihijlaa
open Go.RowKit BS

/-- The entries that are open (the last one first) lie side by side in depth. -/
def depthsOk : List EnN → Prop
  | [] => True
  | x :: r => x.depth = (r.length : Int) + 1 ∧ depthsOk r
/-- Each entry lies at most one deeper than the one ahead. -/
def stepOk : Int → List EnN → Prop
  | _, [] => True
  | p, x :: r => x.depth ≤ p + 1 ∧ 1 ≤ x.depth ∧ stepOk x.depth r
theorem step_forest : ∀ (F : Fo) (d p : Int) (M : List EnN), d ≤ p + 1 → 1 ≤ d → (∀ q, d - 1 ≤ q → stepOk q M) → stepOk p (flF d F ++ M) := by
  intro F
  induction F with
  | nil => intro d p M h1 h2 h3; exact h3 p (by omega)
  | cons n f e ks rest ih1 ih2 =>
    intro d p M h1 h2 h3
    show stepOk p (⟨d, n, f, e⟩ :: (flF (d + 1) ks ++ flF d rest) ++ M)
    rw [List.cons_append]
    refine ⟨h1, h2, ?_⟩
    rw [List.append_assoc]
    exact ih1 (d + 1) d _ (by omega) (by omega) fun q hq => ih2 d q M (by omega) h2 h3
theorem close_len (d : Int) : ∀ st : List EnN, (closeT d st).1.length + (closeT d st).2.length = st.length
  | [] => rfl
  | x :: st => by
    have ih := close_len d st
    unfold closeT
    split
    · simp only [List.length_cons]; omega
    · simp
theorem close_ok {d : Int} : ∀ {st : List EnN}, depthsOk st → depthsOk (closeT d st).2
  | [], h => h
  | x :: st, h => by
    unfold closeT
    split
    · exact close_ok h.2
    · exact h
theorem close_mem {d : Int} : ∀ {st : List EnN} {x}, x ∈ (closeT d st).2 → x ∈ st
  | [], _, h => h
  | y :: st, x, h => by
    unfold closeT at h
    split at h
    · exact List.mem_cons_of_mem _ (close_mem h)
    · exact h
/-- How many stay open. -/
theorem close_left {d : Int} (hd : 1 ≤ d) : ∀ {st : List EnN}, depthsOk st → d ≤ st.length + 1 → ((closeT d st).2.length : Int) = d - 1
  | [], _, h => by simp at h; simp [closeT]; omega
  | x :: st, hok, h => by
    unfold closeT
    rw [hok.1]
    split
    · exact close_left hd hok.2 (by omega)
    · simp at h ⊢; omega
theorem close_one : ∀ {st : List EnN}, depthsOk st → closeT 1 st = closeT 0 st
  | [], _ => rfl
  | x :: st, h => by
    unfold closeT
    rw [if_pos (by rw [h.1]; omega), if_pos (by rw [h.1]; omega), close_one h.2]
theorem row_push (ev : List (Int × Int)) (p : Nat) (z : Int) (y : Nat) : rowF (ev ++ [((p : Int), z)]) y = if y = p then rowF ev p ++ [z] else rowF ev y := by
  rw [rowF_app]
  by_cases h : y = p
  · subst h
    rw [if_pos rfl]
    congr 1
    simp [rowF]
  · rw [if_neg h]
    have : rowF [((p : Int), z)] y = [] := by
      unfold rowF
      rw [List.filter_cons_of_neg (by simpa using fun e => h (by omega))]
      rfl
    rw [this, List.append_nil]
theorem row_len (ev : List (Int × Int)) (y : Nat) : (rowF ev y).length ≤ ev.length := by
  unfold rowF
  rw [List.length_map]
  exact List.length_filter_le _ _
/-- The state: rows by places, and a row of those that are open. -/
structure FrS (base n T : Nat) (S : Nat → Prop) (ev : List (Int × Int)) (st : List EnN) (v : Value) (W : World) : Prop where
  rows : RowsI base n T S (rowF ev) W
  ow : OwE base v st.reverse W
  ap : ∀ g, v.ownBlock = some g → ¬ S g
  bnd : ∀ x ∈ st, ∃ p q : Nat, x.to = p ∧ p < n ∧ x.node = q ∧ q ≤ 100000
section
variable {base n T : Nat} {S : Nat → Prop} {ev : List (Int × Int)} {st : List EnN} {v : Value} {W W' : World}
theorem FrS.below (h : FrS base n T S ev st v W) (hb : Below W.heap.size W W') : FrS base n T S ev st v W' :=
  ⟨h.rows.below hb, h.ow.below hb, h.ap, h.bnd⟩
/-- A step more at place p. -/
theorem FrS.push (h : FrS base n T S ev st v W) (p : Nat) (hp : p < n) (hlen : ev.length ≤ 1000000) (z : Int) (ty : TypeId) :
    ∃ a c g cap W2, W.cell? ⟨T, p, none⟩ = some (.slice a (rowF ev p).length c) ∧
      (Builtin.append_ #[35, 35] ty #[.slice a (rowF ev p).length c, .slice (some ⟨W.heap.size, 0, none⟩) 1 1]).run Try.prog (W.alloc (.cells #[.int .i64 z] 3)) = .ok (.slice (some ⟨g, 0, none⟩) ((rowF ev p).length + 1) cap) W2 ∧
      KpA (fun k => (Value.slice a (rowF ev p).length c).ownBlock = some k) W W2 ∧ KpA (fun k => (Value.slice a (rowF ev p).length c).ownBlock = some k) W (W.alloc (.cells #[.int .i64 z] 3)) ∧
      (∀ k, (Value.slice a (rowF ev p).length c).ownBlock = some k → S k ∧ k ≠ T) ∧ W2.frozen? ⟨T, p, none⟩ = false ∧
      ∃ S' : Nat → Prop, FrS base n T S' (ev ++ [((p : Int), z)]) st v (W2.setCell ⟨T, p, none⟩ (.slice (some ⟨g, 0, none⟩) ((rowF ev p).length + 1) cap)) ∧ (∀ k, S' k → S k ∨ W.heap.size ≤ k) ∧
      KpA S W (W2.setCell ⟨T, p, none⟩ (.slice (some ⟨g, 0, none⟩) ((rowF ev p).length + 1) cap)) := by
  obtain ⟨a, c, g, cap, W2, h1, h2, h3, h4, h5, h6, h7, h8⟩ := h.rows.push p hp (Nat.le_trans (row_len ev p) hlen) z ty
  refine ⟨a, c, g, cap, W2, h1, h2, h3, h4, h5, h6, _, ⟨h7.congr (fun y hy => (row_push ev p z y).symm), ?_, ?_, h.bnd⟩, fun k hk => hk.imp id (fun h => h.1), h8⟩
  · exact h.ow.keep (fun k hk => h8.block k (h.ow.lt hk).2 (h.ap k hk))
  · intro k hk hs
    rcases hs with hs | hs
    · exact h.ap k hk hs
    · have := (h.ow.lt hk).2; omega
/-- The last one that is open is so no more. -/
theorem FrS.drop {x : EnN} {a : Option Addr} {m c : Nat} (h : FrS base n T S ev (x :: st) (.slice a m c) W) (hm : m = st.length + 1) : FrS base n T S ev st (.slice a st.length c) W := by
  refine ⟨h.rows, ?_, fun g hg => ?_, fun y hy => h.bnd y (List.mem_cons_of_mem _ hy)⟩
  · have h2 := h.ow.take (by rw [hm]; simp) st.length (by simp)
    have e : (x :: st).reverse.take st.length = st.reverse := by
      rw [List.reverse_cons, List.take_append_of_le_length (by simp), List.take_of_length_le (by simp)]
    rw [e] at h2
    exact h2
  · refine h.ap g ?_
    cases a with
    | none => cases hg
    | some ad => exact hg
end
theorem wp_absX {P : Program} {o : Oper} {a : Act} {w : World} {K : Act → World → Prop} {Q : Exit → Act → World → Prop} (h : ∀ K' : Act → World → Prop, (∀ a' w', K a' w' → K' a' w') → o.wp P a w K' Q) : o.wp P a w K Q := h K (fun _ _ h => h)
theorem exec_appI {v u v' : Value} {W W' : World} {o : Oper} {a : Act} {s x : Operand} (ho : o.op = .call { callee := .builtin .append, args := #[s, x], argTypes := #[35, 35] }) (hs : a.eval s = v) (hx : a.eval x = u)
    (hr : (Builtin.append_ #[35, 35] o.type #[v, u]).run Try.prog W = .ok v' W') : (execOp a.eval o).run Try.prog W = .ok (.value v') W' := by
  unfold execOp
  simp only [ho, resolve, invoke, builtin, Sem.run_bind, Sem.run_pure, Result.andThen_ok, List.map_toArray, List.map_cons, List.map_nil, hs, hx, hr]
theorem exec_appN {v u v' : Value} {W W' : World} {o : Oper} {a : Act} {s x : Operand} (ho : o.op = .call { callee := .builtin .append, args := #[s, x], argTypes := #[22, 22] }) (hs : a.eval s = v) (hx : a.eval x = u)
    (hr : (Builtin.append_ #[22, 22] o.type #[v, u]).run Try.prog W = .ok v' W') : (execOp a.eval o).run Try.prog W = .ok (.value v') W' := by
  unfold execOp
  simp only [ho, resolve, invoke, builtin, Sem.run_bind, Sem.run_pure, Result.andThen_ok, List.map_toArray, List.map_cons, List.map_nil, hs, hx, hr]
set_option maxRecDepth 100000 in
set_option maxHeartbeats 2000000 in
theorem opens_calls (q : Nat) (hq : q ≤ 1000000) (w : World) : Calls Try.prog 42 #[.int .i64 q] w fun e w' => e = .returned (.int .i64 (2 * (q : Int))) ∧ w = w' := by
  have x1 : IntKind.i64.wrap (2 * (q : Int)) = 2 * (q : Int) := IntWalk.i64_in _ (by omega)
  go_enter Try.func42, Try.ntmps42
  go_wp2_with fail
  go_ret
  exact ⟨rfl, rfl⟩
set_option maxRecDepth 100000 in
set_option maxHeartbeats 2000000 in
theorem closes_calls (q : Nat) (hq : q ≤ 1000000) (w : World) : Calls Try.prog 41 #[.int .i64 q] w fun e w' => e = .returned (.int .i64 (2 * (q : Int) + 1)) ∧ w = w' := by
  have x1 : IntKind.i64.wrap (2 * (q : Int)) = 2 * (q : Int) := IntWalk.i64_in _ (by omega)
  have x2 : IntKind.i64.wrap (2 * (q : Int) + 1) = 2 * (q : Int) + 1 := IntWalk.i64_in _ (by omega)
  go_enter Try.func41, Try.ntmps41
  go_wp2_with fail
  go_ret
  exact ⟨rfl, rfl⟩
set_option maxRecDepth 100000 in
set_option maxHeartbeats 16000000 in
theorem recOpen_calls {base n T : Nat} {S : Nat → Prop} {ev : List (Int × Int)} {st : List EnN} {v : Value} (hev : ev.length ≤ 1000000) (d e : Int) (p q : Nat) (hp : p < n) (hq : q ≤ 100000) (w : World) (h : FrS base n T S ev st v w) :
    Calls Try.prog 26 #[.slice (some ⟨T, 0, none⟩) n n, .agg (enI d q p e)] w fun r w' => r = .returned (.tuple #[]) ∧ ∃ S' : Nat → Prop, FrS base n T S' (ev ++ [((p : Int), 2 * (q : Int))]) st v w' ∧ (∀ k, S' k → S k ∨ w.heap.size ≤ k) ∧ KpA S w w' := by
  have hbd : Below w.heap.size w (w.alloc (.cells (enI d q p e) 44)).drew := ((Below.refl _ _).alloc (Nat.le_refl _) _).drew
  have bE : Blk (w.alloc (.cells (enI d q p e) 44)).drew w.heap.size (enI d q p e) 44 := Blk.new w _ _
  have hsz : (w.alloc (.cells (enI d q p e) 44)).drew.heap.size = w.heap.size + 1 := World.size_alloc _ _
  have hf := h.below hbd
  have hSlt := h.rows.lt
  have hHK := (KpA.refl S w).below hbd
  clear h hbd
  have pI : (p : Int) < (n : Int) := by omega
  have pI0 : (0 : Int) ≤ (p : Int) := by omega
  go_enter Try.func26, Try.ntmps26
  go_upto_region 1 with fail
  have hdw : (w.alloc (.cells #[.int .i64 d, .int .i64 q, .int .i64 p, .int .i64 e] 44)).drew = (w.alloc (.cells (enI d q p e) 44)).drew := rfl
  obtain ⟨w1, hw1⟩ : ∃ w1, w1 = w.alloc (.cells (enI d q p e) 44) := ⟨_, rfl⟩
  rw [← hw1] at hf bE hsz hHK ⊢
  clear hdw
  obtain ⟨w2, hw2⟩ : ∃ w2, w2 = w1.drew := ⟨_, rfl⟩
  rw [← hw2] at hf bE hsz hHK
  have t1 := bE.cell 1; have t2 := bE.cell 2
  simp only [List.getElem?_toArray, List.getElem?_cons_zero, List.getElem?_cons_succ] at t1 t2
  obtain ⟨b, cb, g, cap, W2, k1, k2, k3, k4, k5, k6, S', k7, k8, k9⟩ := hf.push p hp hev (2 * (q : Int)) 35
  have HW2 := Lib.hid k2
  have HKP := Lib.hid (show ∀ k W', lvl [w2, w2.alloc (.cells #[.int .i64 (2 * (q : Int))] 3), W2] k W' → KpA (fun k => (Value.slice b (rowF ev p).length cb).ownBlock = some k) w2 W' from fun k W' hl => by
    have hm := hl.mem
    simp only [List.mem_cons, List.not_mem_nil, or_false] at hm
    rcases hm with rfl | rfl | rfl
    · exact KpA.refl _ _
    · exact k4
    · exact k3)
  have HTC := Lib.hid (show ∀ k W', lvl [w2, w2.alloc (.cells #[.int .i64 (2 * (q : Int))] 3), W2] k W' → W'.cell? ⟨T, p, none⟩ = some (.slice b (rowF ev p).length cb) from fun k W' hl => ((HKP.out k W' hl).cell hf.rows.tl (fun hh => (k5 T hh).2 rfl) p).trans k1)
  have HEC := Lib.hid (show ∀ k W' j, lvl [w2, w2.alloc (.cells #[.int .i64 (2 * (q : Int))] 3), W2] k W' → W'.cell? ⟨w.heap.size, j, none⟩ = w2.cell? ⟨w.heap.size, j, none⟩ from fun k W' j hl => (HKP.out k W' hl).cell bE.lt (fun hh => by have := hSlt _ (k5 _ hh).1; omega) j)
  have HS7 := Lib.hid k7
  have HS8 := Lib.hid k8
  have HS9 := Lib.hid k9
  have fT := k6
  have cT : W2.cell? ⟨T, p, none⟩ = some (.slice b (rowF ev p).length cb) := (k3.cell hf.rows.tl (fun hh => (k5 T hh).2 rfl) p).trans k1
  clear k1 k2 k3 k4 k5 k6 k7 k8 k9 hf HKP
  generalize (rowF ev p).length = len at *
  refine region_stepsD (S := lvl [w2, w2.alloc (.cells #[.int .i64 (2 * (q : Int))] 3), W2]) (m := 14) (n := 14) (k := 0) [11, 12] rfl (by kernel_rfl) (by kernel_rfl) (by rw [← hw2]; rfl) ?_
  simp only [List.size_toArray, List.length_cons, List.length_nil, Nat.reduceAdd, Array.replicate_succ, Array.replicate_zero, List.push_toArray, List.nil_append, List.cons_append]
  refine AnyD.next (m := 14) (i := 0) (d := some 4) (v := .slice (some ⟨T, 0, none⟩) n n) [13, 0] rfl rfl (by kernel_rfl) (by kernel_rfl) (by kernel_rfl) (by kernel_rfl) (by kernel_rfl) (fun k => StepsIf.yield (by kernel_rfl) (fun w' hS => by clear hS; go_simp)) ?_
  intro a' ha'
  simp only [Act.put, List.setIfInBounds_toArray, List.set_cons_zero, List.set_cons_succ] at ha'
  subst ha'
  refine AnyD.stepE (m := 14) (i := 1) (d := some 5) [13, 2, 1] rfl rfl (by kernel_rfl) (by kernel_rfl) (by kernel_rfl) (by kernel_rfl) (by kernel_rfl) ?_
  apply Exists.intro
  apply And.intro
  · intro k
    apply StepsIf.yield
    · kernel_rfl
    intro w' hS
    clear hS; go_simp
    rfl
  intro a' ha'
  simp only [Act.put, List.setIfInBounds_toArray, List.set_cons_zero, List.set_cons_succ] at ha'
  subst ha'
  refine AnyD.next (m := 14) (i := 2) (d := some 6) (v := .int .i64 (p : Nat)) [13, 2] rfl rfl (by kernel_rfl) (by kernel_rfl) (by kernel_rfl) (by kernel_rfl) (by kernel_rfl) (fun k => StepsIf.yield (by kernel_rfl) (fun w' hS => by have e2 := (HEC.out k w' 2 hS).trans t2; clear hS; go_simp)) ?_
  intro a' ha'
  simp only [Act.put, List.setIfInBounds_toArray, List.set_cons_zero, List.set_cons_succ] at ha'
  subst ha'
  refine AnyD.next (m := 14) (i := 3) (d := some 7) (v := .slice (some ⟨T, 0, none⟩) n n) [12, 7, 6, 3] rfl rfl (by kernel_rfl) (by kernel_rfl) (by kernel_rfl) (by kernel_rfl) (by kernel_rfl) (fun k => StepsIf.yield (by kernel_rfl) (fun w' hS => by clear hS; go_simp)) ?_
  intro a' ha'
  simp only [Act.put, List.setIfInBounds_toArray, List.set_cons_zero, List.set_cons_succ] at ha'
  subst ha'
  refine AnyD.stepE (m := 14) (i := 4) (d := some 8) [12, 7, 6, 5, 4] rfl rfl (by kernel_rfl) (by kernel_rfl) (by kernel_rfl) (by kernel_rfl) (by kernel_rfl) ?_
  apply Exists.intro
  apply And.intro
  · intro k
    apply StepsIf.yield
    · kernel_rfl
    intro w' hS
    clear hS; go_simp
    rfl
  intro a' ha'
  simp only [Act.put, List.setIfInBounds_toArray, List.set_cons_zero, List.set_cons_succ] at ha'
  subst ha'
  refine AnyD.next (m := 14) (i := 5) (d := some 9) (v := .int .i64 (p : Nat)) [12, 7, 6, 5] rfl rfl (by kernel_rfl) (by kernel_rfl) (by kernel_rfl) (by kernel_rfl) (by kernel_rfl) (fun k => StepsIf.yield (by kernel_rfl) (fun w' hS => by have e2 := (HEC.out k w' 2 hS).trans t2; clear hS; go_simp)) ?_
  intro a' ha'
  simp only [Act.put, List.setIfInBounds_toArray, List.set_cons_zero, List.set_cons_succ] at ha'
  subst ha'
  refine AnyD.next (m := 14) (i := 6) (d := some 10) (v := .pointer (some ⟨T, p, none⟩)) [12, 7, 6] rfl rfl (by kernel_rfl) (by kernel_rfl) (by kernel_rfl) (by kernel_rfl) (by kernel_rfl) (fun k => StepsIf.yield (by kernel_rfl) (fun w' hS => by clear hS; go_simp)) ?_
  intro a' ha'
  simp only [Act.put, List.setIfInBounds_toArray, List.set_cons_zero, List.set_cons_succ] at ha'
  subst ha'
  refine AnyD.next (m := 14) (i := 7) (d := some 11) (v := .slice b len cb) [12, 7] rfl rfl (by kernel_rfl) (by kernel_rfl) (by kernel_rfl) (by kernel_rfl) (by kernel_rfl) (fun k => StepsIf.yield (by kernel_rfl) (fun w' hS => by have e7 := HTC.out k w' hS; clear hS; go_simp)) ?_
  intro a' ha'
  simp only [Act.put, List.setIfInBounds_toArray, List.set_cons_zero, List.set_cons_succ] at ha'
  subst ha'
  refine AnyD.stepE (m := 14) (i := 8) (d := some 12) [12, 11, 10, 9, 8] rfl rfl (by kernel_rfl) (by kernel_rfl) (by kernel_rfl) (by kernel_rfl) (by kernel_rfl) ?_
  apply Exists.intro
  apply And.intro
  · intro k
    apply StepsIf.yield
    · kernel_rfl
    intro w' hS
    clear hS; go_simp
    rfl
  intro a' ha'
  simp only [Act.put, List.setIfInBounds_toArray, List.set_cons_zero, List.set_cons_succ] at ha'
  subst ha'
  refine AnyD.next (m := 14) (i := 9) (d := some 13) (v := .int .i64 (q : Nat)) [12, 11, 10, 9] rfl rfl (by kernel_rfl) (by kernel_rfl) (by kernel_rfl) (by kernel_rfl) (by kernel_rfl) (fun k => StepsIf.yield (by kernel_rfl) (fun w' hS => by have e1 := (HEC.out k w' 1 hS).trans t1; clear hS; go_simp)) ?_
  intro a' ha'
  simp only [Act.put, List.setIfInBounds_toArray, List.set_cons_zero, List.set_cons_succ] at ha'
  subst ha'
  refine AnyD.next (m := 14) (i := 10) (d := some 14) (v := .int .i64 (2 * (q : Int))) [12, 11, 10] rfl rfl (by kernel_rfl) (by kernel_rfl) (by kernel_rfl) (by kernel_rfl) (by kernel_rfl) (fun k => StepsIf.call (by kernel_rfl) (fun w' hS => by clear hS; go_simp) (fun w' hS => (opens_calls q (by omega) w').mono fun e1 w'' hh => ⟨hh.1, hh.2 ▸ hS⟩)) ?_
  intro a' ha'
  simp only [Act.put, List.setIfInBounds_toArray, List.set_cons_zero, List.set_cons_succ] at ha'
  subst ha'
  refine AnyD.turn (m := 14) (i := 11) (d := some 15) (k := 0) (v := .slice (some ⟨w2.heap.size, 0, none⟩) 1 1) rfl rfl (by kernel_rfl) (by kernel_rfl) (by kernel_rfl) (StepsL.lev rfl rfl (by kernel_rfl) (by go_simp)) ?_
  intro a' ha'
  simp only [Act.put, List.setIfInBounds_toArray, List.set_cons_zero, List.set_cons_succ] at ha'
  subst ha'
  refine AnyD.turn (m := 14) (i := 12) (d := some 16) (k := 1) (v := .slice (some ⟨g, 0, none⟩) (len + 1) cap) rfl rfl (by kernel_rfl) (by kernel_rfl) (by kernel_rfl) (StepsL.lev rfl rfl (by kernel_rfl) (exec_appI rfl rfl rfl HW2.out)) ?_
  intro a' ha'
  simp only [Act.put, List.setIfInBounds_toArray, List.set_cons_zero, List.set_cons_succ] at ha'
  subst ha'
  refine AnyD.next (m := 14) (i := 13) (d := some 17) (v := .pointer (some ⟨T, p, none⟩)) [13] rfl rfl (by kernel_rfl) (by kernel_rfl) (by kernel_rfl) (by kernel_rfl) (by kernel_rfl) (fun k => StepsIf.yield (by kernel_rfl) (fun w' hS => by clear hS; go_simp)) ?_
  intro a' ha'
  simp only [Act.put, List.setIfInBounds_toArray, List.set_cons_zero, List.set_cons_succ] at ha'
  subst ha'
  refine AnyD.endC (n := 2) (by kernel_rfl) (by kernel_rfl) (fun w' hS => ?_)
  obtain rfl := hS.is rfl
  refine wpAny_one (i := 14) (o := ⟨none, .store 35 (.tmp 17) (.tmp 16), _, _, _, _⟩) (by kernel_rfl) rfl (by kernel_rfl) ?_
  refine wp_absX (fun K hK => ?_)
  go_simp
  refine hK _ _ ?_
  clear hK K
  refine wpAny_none (P := Try.prog) (by kernel_rfl) ?_
  go_wp2_with fail
  go_end0
  exact ⟨rfl, S', HS7.out, fun k hk => (HS8.out k hk).imp id (fun h => by omega), hHK.trans HS9.out⟩
theorem kp_chain {A A' : Nat → Prop} {a b c : World} (h : KpA A a b) (k : KpA A' b c) (hA : ∀ x, A' x → A x ∨ a.heap.size ≤ x) : KpA A a c :=
  ⟨k.os.trans h.os, k.tape.trans h.tape, k.output.trans h.output, Nat.le_trans h.size k.size, fun i hi hn => (k.block i (Nat.lt_of_lt_of_le hi h.size) (fun h' => (hA i h').elim hn (fun h2 => by omega))).trans (h.block i hi hn)⟩
def lenF : Value → Nat
  | .slice _ n _ => n
  | _ => 0
theorem close_stop {d : Int} {st : List EnN} (hok : depthsOk st) (h : ¬ d ≤ (st.length : Int)) : closeT d st = ([], st) := by
  cases st with
  | nil => rfl
  | cons x r =>
    unfold closeT
    rw [hok.1, if_neg (by simpa using h)]
theorem close_go {d : Int} {x : EnN} {r : List EnN} (hok : depthsOk (x :: r)) (h : d ≤ ((x :: r).length : Int)) : closeT d (x :: r) = ((x.to, 2 * x.node + 1) :: (closeT d r).1, (closeT d r).2) := by
  rw [closeT, hok.1, if_pos (by simpa using h)]
theorem rev_top (x : EnN) (r : List EnN) (h : r.length < (x :: r).reverse.length) : (x :: r).reverse[r.length] = x := by
  simp only [List.reverse_cons]
  rw [List.getElem_append_right (by simp)]
  simp
set_option maxRecDepth 100000 in
set_option maxHeartbeats 32000000 in
theorem shut_calls {base n T : Nat} {S : Nat → Prop} {ev : List (Int × Int)} {st : List EnN} (a0 : Option Addr) (c0 : Nat) (d : Int) (hd : 1 ≤ d) (hok : depthsOk st) (hlen : ev.length + st.length ≤ 100000) (w : World) (h : FrS base n T S ev st (.slice a0 st.length c0) w) :
    Calls Try.prog 25 #[.slice (some ⟨T, 0, none⟩) n n, .slice a0 st.length c0, .int .i64 d] w fun e w' => ∃ (S' : Nat → Prop), e = .returned (.slice a0 (closeT d st).2.length c0) ∧ FrS base n T S' (ev ++ (closeT d st).1) (closeT d st).2 (.slice a0 (closeT d st).2.length c0) w' ∧ (∀ k, S' k → S k ∨ w.heap.size ≤ k) ∧ KpA S w w' := by
  obtain ⟨EV, hEV⟩ : ∃ EV, EV = ev ++ (closeT d st).1 := ⟨_, rfl⟩
  obtain ⟨ST, hST⟩ : ∃ ST, ST = (closeT d st).2 := ⟨_, rfl⟩
  rw [← hEV, ← hST]
  have hSlt0 := h.rows.lt
  have HF0 := Lib.hid h
  clear h
  go_enter Try.func25, Try.ntmps25
  go_wp2_with fail
  go_loopw [1] (fun vo wr => ∃ (S' : Nat → Prop) (ev' : List (Int × Int)) (st' : List EnN), vo = .slice a0 st'.length c0 ∧ FrS base n T S' ev' st' (.slice a0 st'.length c0) wr ∧ depthsOk st' ∧ EV = ev' ++ (closeT d st').1 ∧ ST = (closeT d st').2 ∧ ev'.length + st'.length ≤ 100000 ∧ (∀ k, S' k → S k ∨ w.heap.size ≤ k) ∧ KpA S w wr) (fun vo _ => lenF vo)
  case atStart => exact ⟨S, ev, st, rfl, HF0.out, hok, hEV, hST, hlen, fun k h => .inl h, KpA.refl _ _⟩
  case round =>
    clear HF0 hok hEV hST hlen
    obtain ⟨S1, ev1, st1, rfl, hf0, hok, hEV, hST, hlen, hS1, hK⟩ := hrel
    by_cases hlt : d ≤ (st1.length : Int)
    · obtain ⟨x, r, rfl⟩ : ∃ x r, st1 = x :: r := by
        cases st1 with
        | nil => simp at hlt; omega
        | cons x r => exact ⟨x, r, rfl⟩
      rw [close_go hok hlt] at hEV hST
      simp only at hEV hST
      obtain ⟨p, q, hp1, hp, hq1, hq⟩ := hf0.bnd x (List.mem_cons_self ..)
      have hok2 := hok.2
      obtain ⟨xd, xn, xf, xt⟩ := x
      simp only at hp1 hq1
      subst hp1 hq1
      simp only at hEV
      have hev : ev1.length ≤ 1000000 := by omega
      have p1 : decide (d ≤ (((⟨xd, q, xf, p⟩ : EnN) :: r).length : Int)) = true := decide_eq_true hlt
      have lc : (((⟨xd, q, xf, p⟩ : EnN) :: r).length : Int) = (r.length : Int) + 1 := by simp
      have lc2 : ((⟨xd, q, xf, p⟩ : EnN) :: r).length = r.length + 1 := rfl
      rw [lc] at p1 hlt
      rw [lc2] at hf0 hlen
      have xs : IntKind.i64.wrap ((r.length : Int) + 1 - 1) = (r.length : Int) := by rw [show (r.length : Int) + 1 - 1 = (r.length : Int) by omega]; exact IntWalk.i64_in _ (by omega)
      obtain ⟨g0, c1, e, _, hg0, hcap⟩ := hf0.ow.blk (by simp)
      rw [List.length_reverse, lc2] at e hcap
      cases e
      obtain ⟨g1, o1, e, _, hc⟩ := hf0.ow.ents (by simp)
      cases e
      have hl0 : r.length < ((⟨xd, q, xf, p⟩ : EnN) :: r).reverse.length := by simp
      have dd := fun (j : Nat) (hj : j < 4) => hc r.length hl0 j hj
      rw [rev_top] at dd
      have d0 := dd 0 (by decide); have d1 := dd 1 (by decide); have d2 := dd 2 (by decide); have d3 := dd 3 (by decide)
      simp only [enA, List.getElem?_toArray, List.getElem?_cons_zero, List.getElem?_cons_succ, Nat.zero_add, Nat.add_zero] at d0 d1 d2 d3
      have pI : (p : Int) < (n : Int) := by omega
      have pI0 : (0 : Int) ≤ (p : Int) := by omega
      have rI : (r.length : Int) < (r.length : Int) + 1 := by omega
      have hbd : Below wr.heap.size wr (wr.alloc (.cells (enI xd q xf p) 44)).drew := ((Below.refl _ _).alloc (Nat.le_refl _) _).drew
      have bE : Blk (wr.alloc (.cells (enI xd q xf p) 44)).drew wr.heap.size (enI xd q xf p) 44 := Blk.new wr _ _
      have hsz : (wr.alloc (.cells (enI xd q xf p) 44)).drew.heap.size = wr.heap.size + 1 := World.size_alloc _ _
      have hf := hf0.below hbd
      have hSlt := hf0.rows.lt
      have hKd := hK.below hbd
      clear dd hc hbd
      go_upto_region 3 with fail
      clear d0 d1 d2 d3 hf0
      obtain ⟨w1, hw1⟩ : ∃ w1, w1 = wr.alloc (.cells (enI xd q xf p) 44) := ⟨_, rfl⟩
      rw [← hw1] at hf bE hsz hKd ⊢
      obtain ⟨w2, hw2⟩ : ∃ w2, w2 = w1.drew := ⟨_, rfl⟩
      rw [← hw2] at hf bE hsz hKd
      have hw1s : w1.heap.size = wr.heap.size + 1 := by rw [hw1, World.size_alloc]
      have t1 := bE.cell 1; have t3 := bE.cell 3
      simp only [List.getElem?_toArray, List.getElem?_cons_zero, List.getElem?_cons_succ] at t1 t3
      obtain ⟨b, cb, g, cap, W2, k1, k2, k3, k4, k5, k6, S2, k7, k8, k9⟩ := hf.push p hp hev (2 * (q : Int) + 1) 35
      have HW2 := Lib.hid k2
      have HKP := Lib.hid (show ∀ k W', lvl [w2, w2.alloc (.cells #[.int .i64 (2 * (q : Int) + 1)] 3), W2] k W' → KpA (fun k => (Value.slice b (rowF ev1 p).length cb).ownBlock = some k) w2 W' from fun k W' hl => by
        have hm := hl.mem
        simp only [List.mem_cons, List.not_mem_nil, or_false] at hm
        rcases hm with rfl | rfl | rfl
        · exact KpA.refl _ _
        · exact k4
        · exact k3)
      have HTC := Lib.hid (show ∀ k W', lvl [w2, w2.alloc (.cells #[.int .i64 (2 * (q : Int) + 1)] 3), W2] k W' → W'.cell? ⟨T, p, none⟩ = some (.slice b (rowF ev1 p).length cb) from fun k W' hl => ((HKP.out k W' hl).cell hf.rows.tl (fun hh => (k5 T hh).2 rfl) p).trans k1)
      have HEC := Lib.hid (show ∀ k W' j, lvl [w2, w2.alloc (.cells #[.int .i64 (2 * (q : Int) + 1)] 3), W2] k W' → W'.cell? ⟨wr.heap.size, j, none⟩ = w2.cell? ⟨wr.heap.size, j, none⟩ from fun k W' j hl => (HKP.out k W' hl).cell bE.lt (fun hh => by have := hSlt _ (k5 _ hh).1; omega) j)
      have HS7 := Lib.hid k7
      have HS8 := Lib.hid k8
      have HS9 := Lib.hid k9
      have fT := k6
      have cT : W2.cell? ⟨T, p, none⟩ = some (.slice b (rowF ev1 p).length cb) := (k3.cell hf.rows.tl (fun hh => (k5 T hh).2 rfl) p).trans k1
      clear k1 k2 k3 k4 k5 k6 k7 k8 k9 hf HKP
      generalize (rowF ev1 p).length = len at *
      refine region_stepsD (S := lvl [w2, w2.alloc (.cells #[.int .i64 (2 * (q : Int) + 1)] 3), W2]) (m := 14) (n := 14) (k := 0) [11, 12] rfl (by kernel_rfl) (by kernel_rfl) (by rw [← hw2]; rfl) ?_
      simp only [List.size_toArray, List.length_cons, List.length_nil, Nat.reduceAdd, Array.replicate_succ, Array.replicate_zero, List.push_toArray, List.nil_append, List.cons_append]
      refine AnyD.next (m := 14) (i := 0) (d := some 18) (v := .slice (some ⟨T, 0, none⟩) n n) [13, 0] rfl rfl (by kernel_rfl) (by kernel_rfl) (by kernel_rfl) (by kernel_rfl) (by kernel_rfl) (fun k => StepsIf.yield (by kernel_rfl) (fun w' hS => by clear hS; go_simp)) ?_
      intro a' ha'
      simp only [Act.put, List.setIfInBounds_toArray, List.set_cons_zero, List.set_cons_succ] at ha'
      subst ha'
      refine AnyD.stepE (m := 14) (i := 1) (d := some 19) [13, 2, 1] rfl rfl (by kernel_rfl) (by kernel_rfl) (by kernel_rfl) (by kernel_rfl) (by kernel_rfl) ?_
      apply Exists.intro
      apply And.intro
      · intro k
        apply StepsIf.yield
        · kernel_rfl
        intro w' hS
        clear hS; go_simp
        rfl
      intro a' ha'
      simp only [Act.put, List.setIfInBounds_toArray, List.set_cons_zero, List.set_cons_succ] at ha'
      subst ha'
      refine AnyD.next (m := 14) (i := 2) (d := some 20) (v := .int .i64 (p : Nat)) [13, 2] rfl rfl (by kernel_rfl) (by kernel_rfl) (by kernel_rfl) (by kernel_rfl) (by kernel_rfl) (fun k => StepsIf.yield (by kernel_rfl) (fun w' hS => by have e3 := (HEC.out k w' 3 hS).trans t3; clear hS; go_simp)) ?_
      intro a' ha'
      simp only [Act.put, List.setIfInBounds_toArray, List.set_cons_zero, List.set_cons_succ] at ha'
      subst ha'
      refine AnyD.next (m := 14) (i := 3) (d := some 21) (v := .slice (some ⟨T, 0, none⟩) n n) [12, 7, 6, 3] rfl rfl (by kernel_rfl) (by kernel_rfl) (by kernel_rfl) (by kernel_rfl) (by kernel_rfl) (fun k => StepsIf.yield (by kernel_rfl) (fun w' hS => by clear hS; go_simp)) ?_
      intro a' ha'
      simp only [Act.put, List.setIfInBounds_toArray, List.set_cons_zero, List.set_cons_succ] at ha'
      subst ha'
      refine AnyD.stepE (m := 14) (i := 4) (d := some 22) [12, 7, 6, 5, 4] rfl rfl (by kernel_rfl) (by kernel_rfl) (by kernel_rfl) (by kernel_rfl) (by kernel_rfl) ?_
      apply Exists.intro
      apply And.intro
      · intro k
        apply StepsIf.yield
        · kernel_rfl
        intro w' hS
        clear hS; go_simp
        rfl
      intro a' ha'
      simp only [Act.put, List.setIfInBounds_toArray, List.set_cons_zero, List.set_cons_succ] at ha'
      subst ha'
      refine AnyD.next (m := 14) (i := 5) (d := some 23) (v := .int .i64 (p : Nat)) [12, 7, 6, 5] rfl rfl (by kernel_rfl) (by kernel_rfl) (by kernel_rfl) (by kernel_rfl) (by kernel_rfl) (fun k => StepsIf.yield (by kernel_rfl) (fun w' hS => by have e3 := (HEC.out k w' 3 hS).trans t3; clear hS; go_simp)) ?_
      intro a' ha'
      simp only [Act.put, List.setIfInBounds_toArray, List.set_cons_zero, List.set_cons_succ] at ha'
      subst ha'
      refine AnyD.next (m := 14) (i := 6) (d := some 24) (v := .pointer (some ⟨T, p, none⟩)) [12, 7, 6] rfl rfl (by kernel_rfl) (by kernel_rfl) (by kernel_rfl) (by kernel_rfl) (by kernel_rfl) (fun k => StepsIf.yield (by kernel_rfl) (fun w' hS => by clear hS; go_simp)) ?_
      intro a' ha'
      simp only [Act.put, List.setIfInBounds_toArray, List.set_cons_zero, List.set_cons_succ] at ha'
      subst ha'
      refine AnyD.next (m := 14) (i := 7) (d := some 25) (v := .slice b len cb) [12, 7] rfl rfl (by kernel_rfl) (by kernel_rfl) (by kernel_rfl) (by kernel_rfl) (by kernel_rfl) (fun k => StepsIf.yield (by kernel_rfl) (fun w' hS => by have e7 := HTC.out k w' hS; clear hS; go_simp)) ?_
      intro a' ha'
      simp only [Act.put, List.setIfInBounds_toArray, List.set_cons_zero, List.set_cons_succ] at ha'
      subst ha'
      refine AnyD.stepE (m := 14) (i := 8) (d := some 26) [12, 11, 10, 9, 8] rfl rfl (by kernel_rfl) (by kernel_rfl) (by kernel_rfl) (by kernel_rfl) (by kernel_rfl) ?_
      apply Exists.intro
      apply And.intro
      · intro k
        apply StepsIf.yield
        · kernel_rfl
        intro w' hS
        clear hS; go_simp
        rfl
      intro a' ha'
      simp only [Act.put, List.setIfInBounds_toArray, List.set_cons_zero, List.set_cons_succ] at ha'
      subst ha'
      refine AnyD.next (m := 14) (i := 9) (d := some 27) (v := .int .i64 (q : Nat)) [12, 11, 10, 9] rfl rfl (by kernel_rfl) (by kernel_rfl) (by kernel_rfl) (by kernel_rfl) (by kernel_rfl) (fun k => StepsIf.yield (by kernel_rfl) (fun w' hS => by have e1 := (HEC.out k w' 1 hS).trans t1; clear hS; go_simp)) ?_
      intro a' ha'
      simp only [Act.put, List.setIfInBounds_toArray, List.set_cons_zero, List.set_cons_succ] at ha'
      subst ha'
      refine AnyD.next (m := 14) (i := 10) (d := some 28) (v := .int .i64 (2 * (q : Int) + 1)) [12, 11, 10] rfl rfl (by kernel_rfl) (by kernel_rfl) (by kernel_rfl) (by kernel_rfl) (by kernel_rfl) (fun k => StepsIf.call (by kernel_rfl) (fun w' hS => by clear hS; go_simp) (fun w' hS => (closes_calls q (by omega) w').mono fun e1 w'' hh => ⟨hh.1, hh.2 ▸ hS⟩)) ?_
      intro a' ha'
      simp only [Act.put, List.setIfInBounds_toArray, List.set_cons_zero, List.set_cons_succ] at ha'
      subst ha'
      refine AnyD.turn (m := 14) (i := 11) (d := some 29) (k := 0) (v := .slice (some ⟨w2.heap.size, 0, none⟩) 1 1) rfl rfl (by kernel_rfl) (by kernel_rfl) (by kernel_rfl) (StepsL.lev rfl rfl (by kernel_rfl) (by go_simp)) ?_
      intro a' ha'
      simp only [Act.put, List.setIfInBounds_toArray, List.set_cons_zero, List.set_cons_succ] at ha'
      subst ha'
      refine AnyD.turn (m := 14) (i := 12) (d := some 30) (k := 1) (v := .slice (some ⟨g, 0, none⟩) (len + 1) cap) rfl rfl (by kernel_rfl) (by kernel_rfl) (by kernel_rfl) (StepsL.lev rfl rfl (by kernel_rfl) (exec_appI rfl rfl rfl HW2.out)) ?_
      intro a' ha'
      simp only [Act.put, List.setIfInBounds_toArray, List.set_cons_zero, List.set_cons_succ] at ha'
      subst ha'
      refine AnyD.next (m := 14) (i := 13) (d := some 31) (v := .pointer (some ⟨T, p, none⟩)) [13] rfl rfl (by kernel_rfl) (by kernel_rfl) (by kernel_rfl) (by kernel_rfl) (by kernel_rfl) (fun k => StepsIf.yield (by kernel_rfl) (fun w' hS => by clear hS; go_simp)) ?_
      intro a' ha'
      simp only [Act.put, List.setIfInBounds_toArray, List.set_cons_zero, List.set_cons_succ] at ha'
      subst ha'
      refine AnyD.endC (n := 2) (by kernel_rfl) (by kernel_rfl) (fun w' hS => ?_)
      obtain rfl := hS.is rfl
      refine wpAny_one (i := 14) (o := ⟨none, .store 35 (.tmp 31) (.tmp 30), _, _, _, _⟩) (by kernel_rfl) rfl (by kernel_rfl) ?_
      refine wp_absX (fun K hK => ?_)
      go_simp
      refine hK _ _ ?_
      clear hK K
      refine wpAny_none (P := Try.prog) (by kernel_rfl) ?_
      have hdr := HS7.out.drop (by simp)
      have HDR := Lib.hid hdr
      have HS10 := Lib.hid (kp_chain hKd HS9.out hS1)
      have hsz2 : w.heap.size ≤ wr.heap.size := hK.size
      clear hdr cT fT t1 t3 bE
      generalize w'.setCell ⟨T, p, none⟩ (.slice (some ⟨g, 0, none⟩) (len + 1) cap) = w9 at *
      go_wp2_with fail
      go_roundw
      case rel =>
        refine ⟨S2, ev1 ++ [((p : Int), 2 * (q : Int) + 1)], r, rfl, HDR.out, hok2, by rw [hEV, List.append_assoc]; rfl, hST, by rw [List.length_append, List.length_singleton]; omega, fun k hk => ?_, HS10.out⟩
        rcases HS8.out k hk with h9 | h9
        · exact hS1 k h9
        · exact .inr (by omega)
      case measure => simp [lenF]
    · have hcs := close_stop hok hlt
      rw [hcs] at hEV hST
      simp only [List.append_nil] at hEV
      subst hEV hST
      have p1 : decide (d ≤ (ST.length : Int)) = false := decide_eq_false hlt
      have HF1 := Lib.hid hf0
      have HK1 := Lib.hid hK
      have HS1 := Lib.hid hS1
      clear hf0 hcs hK hS1
      go_wp2_with fail
      go_ret
      exact ⟨rfl, S1, HF1.out, HS1.out, HK1.out⟩
end Go.Proofs.Ytooolhekihijlaa

/- Texts put together: Is Trl Trn Trw. -/
import Derived.Test.YtooolhekihijlaaPK
import Derived.Laws.Slices
import Derived.Test.YtooolhekihijlaaPP
import Derived.Test.YtooolhekihijlaaPJ
import Derived.Test.YtooolhekihijlaaPN
import Derived.Test.YtooolhekihijlaaPE
import Derived.Laws.OwnMore
import Derived.Deep.AppendLies
import Derived.Deep.OwnRows
/- The document's terms: Right, Low, Up. Stage 10. -/
namespace Go.Proofs.Ytooolhekihijlaa
open Go.RowKit BS

/-- The node whose part x is, of the first i nodes. -/
def upA (l : List NdN) (i x : Nat) : Int := match upF l x with | some j => if j < i then (j : Int) else -1 | none => -1
theorem upA_zero (l : List NdN) (x : Nat) : upA l 0 x = -1 := by
  unfold upA
  cases upF l x with
  | none => rfl
  | some j => exact if_neg (Nat.not_lt_zero j)
theorem upA_end (l : List NdN) (x : Nat) : upA l l.length x = upT l x := by
  unfold upA upT
  cases hu : upF l x with
  | none => rfl
  | some j => exact if_pos (up_some l x j hu).1
theorem upA_step (l : List NdN) (h : TermQ l) (i : Nat) (hi : i < l.length) (x : Nat) : upA l (i + 1) x = if (x : Int) ∈ partsT l i then (i : Int) else upA l i x := by
  by_cases hx : (x : Int) ∈ partsT l i
  · rw [if_pos hx]
    unfold upA
    rw [up_of l h i hi x hx]
    exact if_pos (by omega)
  · rw [if_neg hx]
    unfold upA
    cases hu : upF l x with
    | none => rfl
    | some j =>
      have hj : j ≠ i := fun e => hx (by rw [← e]; exact (up_some l x j hu).2)
      by_cases h1 : j < i
      · show (if j < i + 1 then _ else _) = (if j < i then _ else _)
        rw [if_pos h1, if_pos (by omega)]
      · show (if j < i + 1 then _ else _) = (if j < i then _ else _)
        rw [if_neg h1, if_neg (by omega)]
/-- A node's parts. -/
theorem node_parts (l : List NdN) (h : TermQ l) (i : Nat) (hi : i < l.length) :
    (l[i].kids = -1 ∧ l[i].n = -1 ∧ partsT l i = []) ∨ (∃ a : Nat, l[i].kids = a ∧ a < i ∧ l[i].n = -1 ∧ partsT l i = [(a : Int)]) ∨
    (∃ a b : Nat, l[i].kids = a ∧ a < i ∧ l[i].n = b ∧ b < i ∧ partsT l i = [(a : Int), (b : Int)]) := by
  obtain ⟨s, _, hf⟩ := h.fine i hi
  obtain ⟨hk, _, _, _⟩ := (fineT_iff l s i l[i]).1 hf
  obtain ⟨_, h0, h2⟩ := (kindT_two l[i]).1 hk
  have hp := parts_as l h i hi
  have hlt := part_lt l h i hi
  unfold partsT at hlt ⊢
  rcases pc_kinds l[i].kind with c | c | c
  · rw [c, if_neg (by decide), if_neg (by decide)] at hp
    exact .inl ⟨h0 c, h2 (by omega), hp⟩
  · rw [c, if_neg (by decide), if_pos rfl] at hp
    obtain ⟨h3, h4⟩ := hlt l[i].kids (by rw [hp]; simp)
    exact .inr (.inl ⟨l[i].kids.toNat, by omega, by omega, h2 (by omega), by rw [hp, Int.toNat_of_nonneg h3]⟩)
  · rw [c, if_pos rfl] at hp
    obtain ⟨h3, h4⟩ := hlt l[i].kids (by rw [hp]; simp)
    obtain ⟨h5, h6⟩ := hlt l[i].n (by rw [hp]; simp)
    exact .inr (.inr ⟨l[i].kids.toNat, l[i].n.toNat, by omega, by omega, by omega, by omega, by rw [hp, Int.toNat_of_nonneg h3, Int.toNat_of_nonneg h5]⟩)
def upsT (l : List NdN) : List Int := if rightT l = true then (List.range l.length).map (upT l) else []

set_option maxRecDepth 100000 in
set_option maxHeartbeats 4000000 in
theorem tRight_calls (l : List NdN) (hl : l.length ≤ 1000) (a : Option Addr) (cap : Nat) (w : World) (h : NodesAt l a w) :
    Calls Try.prog 31 #[.slice a l.length cap] w fun e w' => e = .returned (.bool (rightT l)) ∧ Below w.heap.size w w' := by
  have HL := Lib.hid (lows_calls l hl a cap w h)
  clear h
  cases hr : rightT l with
  | false =>
    have HR := Lib.hid hr
    clear hr
    go_enter Try.func31, Try.ntmps31
    go_wp2_with fail
    refine HL.out.mono ?_
    rintro e w1 ⟨b, c, rfl, hi, hn, hb⟩
    obtain ⟨rfl, rfl⟩ := hn HR.out
    rw [lowsT_not l HR.out]
    clear hi hn HL
    go_wp2_with fail
    go_ret
    exact ⟨rfl, hb⟩
  | true =>
    obtain ⟨h1, _, _⟩ := of_decide_eq_true hr
    have hne : lowsT l ≠ [] := by
      rw [lowsT_is l hr]
      intro h0
      have := congrArg List.length h0
      rw [List.length_map, List.length_range, List.length_nil] at this
      rw [this, trT] at h1
      cases h1
    have HNE := Lib.hid hne
    clear hr h1 hne
    go_enter Try.func31, Try.ntmps31
    go_wp2_with fail
    refine HL.out.mono ?_
    rintro e w1 ⟨b, c, rfl, hi, hn, hb⟩
    obtain ⟨g, o, rfl, _, _, hcc⟩ := hi HNE.out
    clear hn hi HL hcc
    go_wp2_with fail
    go_ret
    exact ⟨rfl, hb⟩
end Go.Proofs.Ytooolhekihijlaa

/- Is a list a parse tree: the document's Right; what it is plainly. Stage 14. -/
namespace Go.Proofs.Ytooolhekihijlaa
open Go.RowKit BS

theorem parts_ok (l : List NdN) (hr : rightT l = true) : PartsOk l := by
  have hk : ∀ n (h : n < l.length), 1 ≤ l[n].kind ∧ l[n].kind ≤ 8 := kind_range l hr
  have hnd : ∀ n (h : n < l.length), ndE l n = l[n] := fun n h => by simp [ndE, h]
  refine ⟨fun n h => by rw [hnd n h]; exact hk n h, fun n h h3 => ?_, fun n h h34 => ?_⟩
  · rw [hnd n h] at h3 ⊢
    rcases nodek_parts l hr n h with ⟨h0, _⟩ | ⟨a, h0, h1, h2, h3', _⟩ | ⟨a, b, h0, h1, h2, h3', h4, h5, h6⟩
    · rcases pc_zero h0 (hk n h).1 (hk n h).2 with h' | h' <;> omega
    · exact ⟨a, h1, by omega⟩
    · exact ⟨a, h1, h6⟩
  · rw [hnd n h] at h34 ⊢
    have hp : pcT l[n].kind = 2 := by rcases h34 with e | e <;> rw [e] <;> rfl
    rcases nodek_parts l hr n h with ⟨h0, _⟩ | ⟨a, h0, h1, h2, h3', _⟩ | ⟨a, b, h0, h1, h2, h3', h4, h5, h6⟩
    · rw [hp] at h0; cases h0
    · rw [hp] at h0; cases h0
    · exact ⟨b, h2, by omega⟩
/-- Is it a parse tree? -/
def treeT (l : List NdN) (w : List Nat) (t : List EnN) : Bool := rightT l && decide (entF l w t l.length 0 ⟨1, (l.length : Int) - 1, 0, w.length⟩ = some t.length)
theorem tree_iff (l : List NdN) (w : List Nat) (t : List EnN) : treeT l w t = true ↔ rightT l = true ∧ ∃ ks, okF l w (.cons (l.length - 1) 0 w.length ks .nil) ∧ t = flF 1 (.cons (l.length - 1) 0 w.length ks .nil) := by
  unfold treeT
  rw [Bool.and_eq_true, decide_eq_true_iff]
  refine and_congr_right fun hr => ?_
  have hp := parts_ok l hr
  have hl : 0 < l.length := (rightT_q l hr).pos
  have hc : ((l.length : Int) - 1) = ((l.length - 1 : Nat) : Int) := by omega
  rw [hc]
  constructor
  · intro h
    obtain ⟨f', e', ks, h1, h2, hok, _, _, hd⟩ := ent_ok hp l.length 0 1 (l.length - 1) 0 (w.length : Int) t.length (by omega) (by omega) h
    obtain rfl : f' = 0 := by omega
    obtain rfl : e' = w.length := by omega
    refine ⟨ks, hok, ?_⟩
    rw [List.drop_zero, List.drop_length, List.append_nil] at hd
    exact hd
  · rintro ⟨ks, hok, ht⟩
    have h := ent_of hp l.length 0 1 (l.length - 1) 0 w.length ks [] (by omega) (by omega) hok (by rw [List.drop_zero, List.append_nil]; first | done | exact ht)
    rw [← ht, Nat.zero_add] at h
    exact h
theorem resO_eq (o : Option Nat) (n : Nat) : (resO o == (n : Int)) = decide (o = some n) := by
  cases o with
  | none => simp [resO] <;> omega
  | some j => simp [resO]; by_cases h : j = n <;> simp [h] <;> omega
set_option maxRecDepth 100000 in
set_option maxHeartbeats 8000000 in
theorem rTree_calls (l : List NdN) (hl : l.length ≤ 1000) (w : List Nat) (hw : w.length ≤ 1000) (hw8 : ∀ x ∈ w, x < 256) (t : List EnN) (ht : t.length ≤ 1000) (la wa ta : Option Addr) (lc wc tc : Nat) (W : World) (hN : NodesAt l la W) (hT : BtsAt w wa W) (hE : EntsAt t ta W) :
    Calls Try.prog 18 #[.slice la l.length lc, .slice wa w.length wc, .slice ta t.length tc] W fun e W' => e = .returned (.bool (treeT l w t)) ∧ Below W.heap.size W W' := by
  have HR := tRight_calls l hl la lc W hN
  have HN := Lib.hid hN
  have HT := Lib.hid hT
  have HE := Lib.hid hE
  clear hN hT hE
  cases hr : rightT l with
  | false =>
    rw [hr] at HR
    have HX := Lib.hid (show treeT l w t = false by unfold treeT; rw [hr]; rfl)
    clear hr
    go_enter Try.func18, Try.ntmps18
    go_wp2_with fail
    refine HR.mono ?_
    rintro e w1 ⟨rfl, hb⟩
    go_wp2_with fail
    go_ret
    exact ⟨by rw [HX.out] <;> rfl, hb⟩
  | true =>
    rw [hr] at HR
    have hpos : 0 < l.length := (rightT_q l hr).pos
    have HX := Lib.hid (show treeT l w t = (resO (entF l w t l.length 0 ⟨1, ((l.length - 1 : Nat) : Int), 0, w.length⟩) == (t.length : Int)) by
      rw [resO_eq]; unfold treeT; rw [hr, Bool.true_and, show ((l.length : Int) - 1) = ((l.length - 1 : Nat) : Int) by omega])
    have HEC := Lib.hid (ent_calls l w t la wa ta lc wc tc (parts_ok l hr) hl hw hw8 ht l.length (by omega) 0 1 (l.length - 1) 0 w.length)
    have xl : IntKind.i64.wrap ((l.length : Int) - 1) = ((l.length - 1 : Nat) : Int) := by rw [show ((l.length : Int) - 1) = ((l.length - 1 : Nat) : Int) by omega]; exact IntWalk.i64_in _ (by omega)
    have hlq := (rightT_q l hr).len
    clear hr
    generalize treeT l w t = TR at *
    generalize resO (entF l w t l.length 0 ⟨1, ((l.length - 1 : Nat) : Int), 0, w.length⟩) = re at *
    go_enter Try.func18, Try.ntmps18
    go_wp2_with fail
    refine HR.mono ?_
    rintro e w1 ⟨rfl, hb⟩
    have HB := Lib.hid hb
    clear HR hb
    go_wp2_with fail
    refine (HEC.out w1 (by omega) (by omega) (by omega) (by omega) (by omega) (HN.out.below HB.out) (HT.out.below HB.out) (HE.out.below HB.out)).mono ?_
    rintro e w2 ⟨rfl, hb2⟩
    have HB2 := Lib.hid (HB.out.trans (hb2.mono HB.out.size))
    clear hb2 HEC
    go_wp2_with fail
    go_ret
    exact ⟨by rw [HX.out] <;> rfl, HB2.out⟩
end Go.Proofs.Ytooolhekihijlaa

/- What a parse tree's groups span, plainly; TreeWithin's spans. Stage 14. -/
namespace Go.Proofs.Ytooolhekihijlaa
open Go.RowKit

/-- Groups that span nothing. -/
def offS (o : List (Int × Int)) (g : List Nat) : List (Int × Int) := g.foldl (fun o n => o.set n (-1, -1)) o
/-- One entry more. -/
def spanS (l : List NdN) (o : List (Int × Int)) (x : EnN) : List (Int × Int) :=
  if 0 ≤ x.node ∧ x.node < l.length then
    if (ndE l x.node.toNat).kind = 7 then o.set (ndE l x.node.toNat).m.toNat (x.from_, x.to)
    else if (ndE l x.node.toNat).kind = 8 then offS o (groupsT l x.node) else o
  else o
def spanI (l : List NdN) : List EnN → List (Int × Int)
  | [] => (-1, -1) :: List.replicate (topL l) (-1, -1)
  | x :: _ => (x.from_, x.to) :: List.replicate (topL l) (-1, -1)
def spansT (l : List NdN) (t : List EnN) : List (Int × Int) := if rightT l = true then t.foldl (spanS l) (spanI l t) else []
theorem grp_num (l : List NdN) (hr : rightT l = true) (i : Nat) (hi : i < l.length) (hk : l[i].kind = 7) : ∃ m : Nat, l[i].m = m ∧ 1 ≤ m ∧ m ≤ topL l := by
  obtain ⟨s, hs, hf⟩ := tr_at l hr i hi
  obtain ⟨h7, _⟩ := (fine_go l i s hs hi).1 hf
  unfold kindT at h7
  have h := of_decide_eq_true h7
  obtain ⟨h1, h9⟩ := h.2.2.2.2.1 hk
  refine ⟨l[i].m.toNat, by omega, by omega, (topL_spec l).1 _ (by omega) (by omega) ((hasG_all l _).2 ⟨l[i], List.getElem_mem hi, hk, by omega⟩)⟩
theorem groups_num (l : List NdN) (q : Int) (n : Nat) (h : n ∈ groupsT l q) : 1 ≤ n ∧ n ≤ topL l := by
  unfold groupsT at h
  split at h
  · obtain ⟨h1, h9, hg⟩ := (grpL_mem l _ _ n).1 h
    obtain ⟨i, x, _, _, hx, hk, hm⟩ := (hasG_iff l _ _ n).1 hg
    obtain ⟨hi, rfl⟩ := List.getElem?_eq_some_iff.1 hx
    exact ⟨h1, (topL_spec l).1 n h1 h9 ((hasG_all l n).2 ⟨_, List.getElem_mem hi, hk, hm⟩)⟩
  · cases h
/-- What is told of spans: of the whole, and of each group. -/
def SpOk (l : List NdN) (t : List EnN) (z : Int × Int) (o : List (Int × Int)) : Prop :=
  o.length = topL l + 1 ∧ o[0]? = some z ∧ ∀ g, 1 ≤ g → g < o.length → o[g]? = some (-1, -1) ∨ ∃ x ∈ t, 0 ≤ x.node ∧ x.node < l.length ∧ (ndE l x.node.toNat).kind = 7 ∧ (ndE l x.node.toNat).m = (g : Int) ∧ o[g]? = some (x.from_, x.to)
theorem off_ok (l : List NdN) (t : List EnN) (z : Int × Int) : ∀ (gs : List Nat) (o : List (Int × Int)), (∀ n ∈ gs, 1 ≤ n) → SpOk l t z o → SpOk l t z (offS o gs)
  | [], _, _, h => h
  | n :: gs, o, hn, h => by
    have hn1 := hn n (List.mem_cons_self ..)
    refine off_ok l t z gs (o.set n (-1, -1)) (fun m hm => hn m (List.mem_cons_of_mem _ hm)) ⟨by rw [List.length_set]; exact h.1, by rw [List.getElem?_set_ne (by omega)]; exact h.2.1, fun g hg hl => ?_⟩
    rw [List.length_set] at hl
    by_cases he : n = g
    · subst he
      exact .inl (by rw [List.getElem?_set_self hl])
    · rw [List.getElem?_set_ne he]
      exact h.2.2 g hg hl
theorem span_ok (l : List NdN) (hr : rightT l = true) (t : List EnN) (z : Int × Int) (x : EnN) (hx : x ∈ t) (o : List (Int × Int)) (h : SpOk l t z o) : SpOk l t z (spanS l o x) := by
  unfold spanS
  split
  · rename_i hn
    have hi : x.node.toNat < l.length := by omega
    have hnd : ndE l x.node.toNat = l[x.node.toNat] := by simp [ndE, hi]
    split
    · rename_i h7
      rw [hnd] at h7
      obtain ⟨m, hm, h1, hT⟩ := grp_num l hr _ hi h7
      rw [hnd, hm, Int.toNat_natCast]
      refine ⟨by rw [List.length_set]; exact h.1, by rw [List.getElem?_set_ne (by omega)]; exact h.2.1, fun g hg hl => ?_⟩
      rw [List.length_set] at hl
      by_cases he : m = g
      · subst he
        exact .inr ⟨x, hx, hn.1, hn.2, by rw [hnd]; exact h7, by rw [hnd]; exact hm, by rw [List.getElem?_set_self hl]⟩
      · rw [List.getElem?_set_ne he]
        exact h.2.2 g hg hl
    · split
      · exact off_ok l t z _ o (fun n hn => (groups_num l _ n hn).1) h
      · exact h
  · exact h
theorem spans_run (l : List NdN) (hr : rightT l = true) (t : List EnN) (z : Int × Int) : ∀ (M : List EnN) (o : List (Int × Int)), (∀ x ∈ M, x ∈ t) → SpOk l t z o → SpOk l t z (M.foldl (spanS l) o)
  | [], _, _, h => h
  | x :: M, o, hM, h => spans_run l hr t z M (spanS l o x) (fun y hy => hM y (List.mem_cons_of_mem _ hy)) (span_ok l hr t z x (hM x (List.mem_cons_self ..)) o h)
theorem init_ok (l : List NdN) (t : List EnN) (z : Int × Int) : SpOk l t z (z :: List.replicate (topL l) (-1, -1)) := by
  refine ⟨by simp, rfl, fun g hg hl => .inl ?_⟩
  obtain ⟨g, rfl⟩ : ∃ k, g = k + 1 := ⟨g - 1, by omega⟩
  simp only [List.length_cons, List.length_replicate] at hl
  rw [List.getElem?_cons_succ, List.getElem?_replicate, if_pos (by omega)]
/-- What a parse tree's groups span: the whole, and for each group nothing, or what an entry of it does. -/
theorem spans_tree (l : List NdN) (w : List Nat) (t : List EnN) (h : treeT l w t = true) : SpOk l t (0, (w.length : Int)) (spansT l t) := by
  obtain ⟨hr, ks, hok, ht⟩ := (tree_iff l w t).1 h
  unfold spansT
  rw [if_pos hr]
  refine spans_run l hr t _ t _ (fun _ hx => hx) ?_
  rw [ht]
  exact init_ok l _ _
end Go.Proofs.Ytooolhekihijlaa

/- Rows of numbers by places, each a row of the call's own; a row of entries. Stage 14. -/
namespace Go.Proofs.Ytooolhekihijlaa
open Go.RowKit BS

theorem infoI12 : (Try.prog.info? 3).map (fun i => (i.zero, i.size, i.bytes)) = some (some (.int .i64 0), 1, 8) := by kernel_rfl
theorem infoE12 : (Try.prog.info? 44).map (fun i => (i.zero, i.size, i.bytes)) = some (some (.agg (enI 0 0 0 0)), 4, 32) := by kernel_rfl
theorem infoR12 : (Try.prog.info? 35).map (fun i => (i.zero, i.size, i.bytes)) = some (some (.slice none 0 0), 1, 24) := by kernel_rfl
theorem owns_take {W : World} {base : Nat} {e : TypeId} {size n m c : Nat} {a : Option Addr} {xs : List Value} (h : W.ownsRow base e size (.slice a n c) n xs) (hm : m ≤ n) : W.ownsRow base e size (.slice a m c) m (xs.take (m * size)) := by
  obtain ⟨hl, hr⟩ := h
  have hle : m * size ≤ n * size := Nat.mul_le_mul_right _ hm
  refine ⟨by rw [List.length_take, hl]; omega, ?_⟩
  rcases hr with ⟨e1, h0⟩ | ⟨g, cap, cur, e1, hb, hg, hc, hc2, hs, ht⟩
  · obtain rfl : m = 0 := by omega
    subst h0
    cases e1
    exact .inl ⟨rfl, rfl⟩
  · cases e1
    exact .inr ⟨g, c, cur, rfl, hb, hg, by omega, hc2, hs, by rw [← ht, List.take_take, show min (m * size) (n * size) = m * size by omega]⟩
theorem own_fresh {W W' : World} {base : Nat} {e : TypeId} {size n : Nat} {v : Value} {xs : List Value} (h : W.ownsRow base e size v n xs) (hb : Below W.heap.size W W') : W'.ownsRow base e size v n xs :=
  owns_keep h fun g hg => hb.block g (World.ownsRow.lt h g hg).2

/-! ### Numbers -/
def OwI (base : Nat) (v : Value) (L : List Int) (W : World) : Prop := W.ownsRow base 3 1 v L.length (L.map (Value.int .i64))
theorem OwI.nil (W : World) (base : Nat) : OwI base (.slice none 0 0) [] W := World.ownsRow_nil _ _ _ _
theorem OwI.form {base : Nat} {v : Value} {L : List Int} {W : World} (h : OwI base v L W) : ∃ a c, v = .slice a L.length c := owns_form h
theorem OwI.below {base : Nat} {v : Value} {L : List Int} {W W' : World} (h : OwI base v L W) (hb : Below W.heap.size W W') : OwI base v L W' := own_fresh h hb
theorem OwI.keep {base : Nat} {v : Value} {L : List Int} {W W' : World} (h : OwI base v L W) (hb : ∀ g, v.ownBlock = some g → W'.heap[g]? = W.heap[g]?) : OwI base v L W' := owns_keep h hb
theorem OwI.lt {base : Nat} {v : Value} {L : List Int} {W : World} (h : OwI base v L W) {g : Nat} (hg : v.ownBlock = some g) : base ≤ g ∧ g < W.heap.size := World.ownsRow.lt h g hg
theorem OwI.ints {base : Nat} {a : Option Addr} {c : Nat} {L : List Int} {W : World} (h : OwI base (.slice a L.length c) L W) : IntsB base L a W := fun hne => by
  have h0 := h
  rcases h.2 with ⟨_, h1⟩ | ⟨g, c', cur, e, hb, hg, _⟩
  · exact absurd (List.eq_nil_of_length_eq_zero h1) hne
  · have e2 : a = some ⟨g, 0, none⟩ := by cases e; rfl
    subst e2
    refine ⟨g, 0, rfl, hb, (Array.getElem?_eq_some_iff.1 hg).1, fun i hi => ?_⟩
    rw [Nat.zero_add]
    refine (World.ownsRow.cellAt h0 i (by omega)).trans ?_
    rw [List.getElem?_map, List.getElem?_eq_getElem hi]; rfl
/-- One number more. -/
theorem push_int {base : Nat} {v : Value} {L : List Int} {W : World} (h : OwI base v L W) (hb : base ≤ W.heap.size) (hn : L.length ≤ 1000000) (z : Int) (ty : TypeId) :
    ∃ g cap W2, (Builtin.append_ #[35, 35] ty #[v, .slice (some ⟨W.heap.size, 0, none⟩) 1 1]).run Try.prog (W.alloc (.cells #[.int .i64 z] 3)) = .ok (.slice (some ⟨g, 0, none⟩) (L.length + 1) cap) W2 ∧
      OwI base (.slice (some ⟨g, 0, none⟩) (L.length + 1) cap) (L ++ [z]) W2 ∧ (W.alloc (.cells #[.int .i64 z] 3)).grownBy W2 v.ownBlock ∧ (v.ownBlock = some g ∨ g = W.heap.size + 1) ∧ g < W2.heap.size := by
  obtain ⟨i0, hinf, hzz⟩ := Option.map_eq_some_iff.1 infoI12
  simp only [Prod.mk.injEq] at hzz
  obtain ⟨hz0, hz1, hz2⟩ := hzz
  have h1 : (W.alloc (.cells #[.int .i64 z] 3)).ownsRow base 3 1 v L.length (L.map (Value.int .i64)) := own_fresh h ((Below.refl _ _).alloc (Nat.le_refl _) _)
  obtain ⟨g, cap, W2, hr, h2, h3, h4, h5⟩ := run_append_lies (P := Try.prog) (W.alloc (.cells #[.int .i64 z] 3)) 35 ty base 3 i0 (.int .i64 0) 1 8 Try.underlying35 hinf hz0 hz1 hz2 rfl (by decide) v L.length _ h1 ⟨W.heap.size, 0, none⟩ 1 1 [.int .i64 z] rfl (Blk.new W _ _).newsL (by simp [Value.oneCell']) (by decide) (by unfold maxLen; omega) (by omega) (by rw [World.size_alloc]; omega) (W.heap.size + 1) (World.size_alloc ..)
  exact ⟨g, cap, W2, hr, by unfold OwI; rw [List.length_append, List.map_append]; exact h2, h3, h4, h5⟩

/-! ### Entries -/
def enCells (l : List EnN) : List Value := l.flatMap fun x => (enA x).toList
theorem enCells_app (l m : List EnN) : enCells (l ++ m) = enCells l ++ enCells m := by simp [enCells]
theorem enCells_len (l : List EnN) : (enCells l).length = l.length * 4 := by
  induction l with
  | nil => rfl
  | cons x l ih =>
    have e : enCells (x :: l) = (enA x).toList ++ enCells l := by simp [enCells]
    rw [e, List.length_append, ih, List.length_cons, show (enA x).toList.length = 4 from rfl]
    omega
theorem enCells_get : ∀ (l : List EnN) (i j : Nat) (h : i < l.length) (_hj : j < 4), (enCells l)[i * 4 + j]? = (enA l[i])[j]?
  | [], _, _, h, _ => absurd h (by simp)
  | x :: l, i, j, h, hj => by
    have e : enCells (x :: l) = (enA x).toList ++ enCells l := by simp [enCells]
    rw [e]
    cases i with
    | zero =>
      rw [List.getElem?_append_left (by rw [show (enA x).toList.length = 4 from rfl]; omega), Nat.zero_mul, Nat.zero_add]
      simp
    | succ i =>
      rw [List.getElem?_append_right (by rw [show (enA x).toList.length = 4 from rfl]; omega), show (enA x).toList.length = 4 from rfl, show (i + 1) * 4 + j - 4 = i * 4 + j by omega]
      exact enCells_get l i j (by simpa using h) hj
theorem enCells_take (l : List EnN) (m : Nat) (_h : m ≤ l.length) : (enCells l).take (m * 4) = enCells (l.take m) := by
  have h := enCells_app (l.take m) (l.drop m)
  rw [List.take_append_drop] at h
  rw [h, List.take_append_of_le_length (by rw [enCells_len, List.length_take]; omega), List.take_of_length_le (by rw [enCells_len, List.length_take]; omega)]
def OwE (base : Nat) (v : Value) (L : List EnN) (W : World) : Prop := W.ownsRow base 44 4 v L.length (enCells L)
theorem OwE.nil (W : World) (base : Nat) : OwE base (.slice none 0 0) [] W := World.ownsRow_nil _ _ _ _
theorem OwE.form {base : Nat} {v : Value} {L : List EnN} {W : World} (h : OwE base v L W) : ∃ a c, v = .slice a L.length c := owns_form h
theorem OwE.below {base : Nat} {v : Value} {L : List EnN} {W W' : World} (h : OwE base v L W) (hb : Below W.heap.size W W') : OwE base v L W' := own_fresh h hb
theorem OwE.keep {base : Nat} {v : Value} {L : List EnN} {W W' : World} (h : OwE base v L W) (hb : ∀ g, v.ownBlock = some g → W'.heap[g]? = W.heap[g]?) : OwE base v L W' := owns_keep h hb
theorem OwE.lt {base : Nat} {v : Value} {L : List EnN} {W : World} (h : OwE base v L W) {g : Nat} (hg : v.ownBlock = some g) : base ≤ g ∧ g < W.heap.size := World.ownsRow.lt h g hg
theorem OwE.take {base : Nat} {a : Option Addr} {c n : Nat} {L : List EnN} {W : World} (h : OwE base (.slice a n c) L W) (hn : n = L.length) (m : Nat) (hm : m ≤ L.length) : OwE base (.slice a m c) (L.take m) W := by
  subst hn
  have h2 := owns_take h hm
  rw [enCells_take L m hm] at h2
  unfold OwE
  rw [List.length_take, Nat.min_eq_left hm]
  exact h2
theorem OwE.ents {base : Nat} {a : Option Addr} {c n : Nat} {L : List EnN} {W : World} (h : OwE base (.slice a n c) L W) : EntsAt L a W := fun hne => by
  have h0 := h
  rcases h.2 with ⟨_, h1⟩ | ⟨g, c', cur, e, hb, hg, _⟩
  · exact absurd (List.eq_nil_of_length_eq_zero h1) hne
  · have e2 : a = some ⟨g, 0, none⟩ := by cases e; rfl
    have hn : n = L.length := by cases e; rfl
    subst e2 hn
    refine ⟨g, 0, rfl, (Array.getElem?_eq_some_iff.1 hg).1, fun i hi j hj => ?_⟩
    rw [Nat.zero_add]
    refine (World.ownsRow.cellAt h0 (i * 4 + j) (by omega)).trans ?_
    exact enCells_get L i j hi hj
/-- The place of a row that is not empty. -/
theorem OwE.blk {base : Nat} {v : Value} {L : List EnN} {W : World} (h : OwE base v L W) (hne : L ≠ []) : ∃ g c, v = .slice (some ⟨g, 0, none⟩) L.length c ∧ base ≤ g ∧ g < W.heap.size ∧ L.length ≤ c := by
  rcases h.2 with ⟨_, h1⟩ | ⟨g, c', cur, e, hb, hg, hc, _⟩
  · exact absurd (List.eq_nil_of_length_eq_zero h1) hne
  · exact ⟨g, c', e, hb, (Array.getElem?_eq_some_iff.1 hg).1, hc⟩
theorem OwE.cap {base : Nat} {a : Option Addr} {c n : Nat} {L : List EnN} {W : World} (h : OwE base (.slice a n c) L W) : n ≤ c := by
  rcases h.2 with ⟨e, h1⟩ | ⟨g, c', cur, e, hb, hg, hc, _⟩
  · cases e; exact Nat.le_refl _
  · cases e; exact hc
/-- One entry more. -/
theorem push_ent {base : Nat} {v : Value} {L : List EnN} {W : World} (h : OwE base v L W) (hb : base ≤ W.heap.size) (hn : L.length ≤ 1000000) (d n f e : Int) (ty : TypeId) :
    ∃ g cap W2, (Builtin.append_ #[22, 22] ty #[v, .slice (some ⟨W.heap.size, 0, none⟩) 1 1]).run Try.prog (W.alloc (.cells (enI d n f e) 44)) = .ok (.slice (some ⟨g, 0, none⟩) (L.length + 1) cap) W2 ∧
      OwE base (.slice (some ⟨g, 0, none⟩) (L.length + 1) cap) (L ++ [⟨d, n, f, e⟩]) W2 ∧ (W.alloc (.cells (enI d n f e) 44)).grownBy W2 v.ownBlock ∧ (v.ownBlock = some g ∨ g = W.heap.size + 1) ∧ g < W2.heap.size := by
  obtain ⟨i0, hinf, hzz⟩ := Option.map_eq_some_iff.1 infoE12
  simp only [Prod.mk.injEq] at hzz
  obtain ⟨hz0, hz1, hz2⟩ := hzz
  have h1 : (W.alloc (.cells (enI d n f e) 44)).ownsRow base 44 4 v L.length (enCells L) := own_fresh h ((Below.refl _ _).alloc (Nat.le_refl _) _)
  obtain ⟨g, cap, W2, hr, h2, h3, h4, h5⟩ := run_append_lies (P := Try.prog) (W.alloc (.cells (enI d n f e) 44)) 22 ty base 44 i0 (.agg (enI 0 0 0 0)) 4 32 Try.underlying22 hinf hz0 hz1 hz2 rfl (by decide) v L.length _ h1 ⟨W.heap.size, 0, none⟩ 1 1 [.int .i64 d, .int .i64 n, .int .i64 f, .int .i64 e] rfl (Blk.new W _ _).newsL (by simp [Value.oneCell']) (by decide) (by unfold maxLen; omega) (by omega) (by rw [World.size_alloc]; omega) (W.heap.size + 1) (World.size_alloc ..)
  exact ⟨g, cap, W2, hr, by unfold OwE; rw [List.length_append, enCells_app]; exact h2, h3, h4, h5⟩

/-! ### Rows by places -/
structure RowsI (base n T : Nat) (S : Nat → Prop) (fL : Nat → List Int) (W : World) : Prop where
  tab : ∃ vs : Array Value, vs.size = n ∧ Blk W T vs 35 ∧
    (∀ x, x < n → ∃ v, vs[x]? = some v ∧ OwI base v (fL x) W ∧ ∀ g, v.ownBlock = some g → S g ∧ g ≠ T) ∧
    (∀ (x y : Nat) (v u : Value) (g : Nat), x ≠ y → vs[x]? = some v → vs[y]? = some u → v.ownBlock = some g → u.ownBlock ≠ some g)
  lt : ∀ g, S g → g < W.heap.size
  has : S T
  lo : base ≤ T
section
variable {base n T : Nat} {S : Nat → Prop} {fL : Nat → List Int} {W W' : World}
theorem RowsI.tl (h : RowsI base n T S fL W) : T < W.heap.size := h.lt T h.has
theorem RowsI.kp {A : Nat → Prop} (h : RowsI base n T S fL W) (k : KpA A W W') (hA : ∀ g, S g → ¬ A g) : RowsI base n T S fL W' := by
  obtain ⟨vs, h1, h2, h3, h4⟩ := h.tab
  exact ⟨⟨vs, h1, h2.kpA k (hA T h.has), fun x hx => by
    obtain ⟨v, e, ho, hs⟩ := h3 x hx
    exact ⟨v, e, ho.keep (fun g hg => k.block g (h.lt g (hs g hg).1) (hA g (hs g hg).1)), hs⟩, h4⟩, fun g hg => Nat.lt_of_lt_of_le (h.lt g hg) k.size, h.has, h.lo⟩
theorem RowsI.below (h : RowsI base n T S fL W) (hb : Below W.heap.size W W') : RowsI base n T S fL W' :=
  h.kp (A := fun _ => False) ((KpA.refl _ W).below hb) (fun _ _ h => h)
theorem RowsI.cell (h : RowsI base n T S fL W) (x : Nat) (hx : x < n) : ∃ a c, W.cell? ⟨T, x, none⟩ = some (.slice a (fL x).length c) ∧ OwI base (.slice a (fL x).length c) (fL x) W ∧ ∀ g, (Value.slice a (fL x).length c).ownBlock = some g → S g ∧ g ≠ T := by
  obtain ⟨vs, h1, h2, h3, h4⟩ := h.tab
  obtain ⟨v, e, ho, hs⟩ := h3 x hx
  obtain ⟨a, c, rfl⟩ := ho.form
  exact ⟨a, c, (h2.cell x).trans e, ho, hs⟩
theorem RowsI.fr (h : RowsI base n T S fL W) (x : Nat) : W.frozen? ⟨T, x, none⟩ = false := by
  obtain ⟨vs, h1, h2, h3, h4⟩ := h.tab
  exact h2.frozen x
/-- New rows, all of them empty. -/
theorem RowsI.new (W : World) (n base : Nat) (hb : base ≤ W.heap.size) : RowsI base n W.heap.size (fun g => g = W.heap.size) (fun _ => []) (W.alloc (.cells (madeCells #[.slice none 0 0] n) 35)) := by
  have hget : ∀ x, x < n → (madeCells #[Value.slice none 0 0] n)[x]? = some (.slice none 0 0) := fun x hx => by
    unfold madeCells
    rw [Array.getElem?_map, Array.getElem?_range, if_pos hx]
    have e : x % 1 = 0 := Nat.mod_one x
    show some ((#[Value.slice none 0 0])[x % 1]!) = _
    rw [e]; rfl
  have hsz : (madeCells #[Value.slice none 0 0] n).size = n := size_madeCells _ _
  refine ⟨⟨_, hsz, Blk.new W _ _, fun x hx => ⟨_, hget x hx, OwI.nil _ _, fun g hg => by cases hg⟩, fun x y v u g _ hv _ hg => ?_⟩, fun g hg => by subst hg; rw [World.size_alloc]; omega, rfl, hb⟩
  have hx : x < n := by have := (Array.getElem?_eq_some_iff.1 hv).1; omega
  rw [hget x hx] at hv
  cases hv
  cases hg
/-- The world of one number more in a row: what the steps of it come to. -/
theorem RowsI.push (h : RowsI base n T S fL W) (x : Nat) (hx : x < n) (hlen : (fL x).length ≤ 1000000) (z : Int) (ty : TypeId) :
    ∃ a c g cap W2, W.cell? ⟨T, x, none⟩ = some (.slice a (fL x).length c) ∧
      (Builtin.append_ #[35, 35] ty #[.slice a (fL x).length c, .slice (some ⟨W.heap.size, 0, none⟩) 1 1]).run Try.prog (W.alloc (.cells #[.int .i64 z] 3)) = .ok (.slice (some ⟨g, 0, none⟩) ((fL x).length + 1) cap) W2 ∧
      KpA (fun k => (Value.slice a (fL x).length c).ownBlock = some k) W W2 ∧ KpA (fun k => (Value.slice a (fL x).length c).ownBlock = some k) W (W.alloc (.cells #[.int .i64 z] 3)) ∧
      (∀ k, (Value.slice a (fL x).length c).ownBlock = some k → S k ∧ k ≠ T) ∧ W2.frozen? ⟨T, x, none⟩ = false ∧
      RowsI base n T (fun k => S k ∨ (W.heap.size ≤ k ∧ k < W2.heap.size)) (fun y => if y = x then fL x ++ [z] else fL y) (W2.setCell ⟨T, x, none⟩ (.slice (some ⟨g, 0, none⟩) ((fL x).length + 1) cap)) ∧
      KpA S W (W2.setCell ⟨T, x, none⟩ (.slice (some ⟨g, 0, none⟩) ((fL x).length + 1) cap)) := by
  obtain ⟨vs, h1, h2, h3, h4⟩ := h.tab
  obtain ⟨v, e, ho, hs⟩ := h3 x hx
  obtain ⟨a, c, rfl⟩ := ho.form
  obtain ⟨g, cap, W2, hr, ho2, hgr, hat, hgl⟩ := push_int ho (Nat.le_trans h.lo (Nat.le_of_lt h.tl)) hlen z ty
  have hk1 : KpA (fun k => (Value.slice a (fL x).length c).ownBlock = some k) W (W.alloc (.cells #[.int .i64 z] 3)) := (KpA.refl _ W).alloc _
  have hk : KpA (fun k => (Value.slice a (fL x).length c).ownBlock = some k) W W2 := hk1.grown hgr (fun k hk => .inl hk)
  have hT2 := h2.kpA hk (fun hh => (hs T hh).2 rfl)
  have hgT : g ≠ T := by
    rcases hat with hat | hat
    · exact (hs g hat).2
    · have := h.tl; omega
  have hgN : S g ∨ (W.heap.size ≤ g ∧ g < W2.heap.size) := by
    rcases hat with hat | hat
    · exact .inl (hs g hat).1
    · exact .inr ⟨by omega, hgl⟩
  have hsz2 : (W2.setCell ⟨T, x, none⟩ (.slice (some ⟨g, 0, none⟩) ((fL x).length + 1) cap)).heap.size = W2.heap.size := by simp
  have hset : ∀ k, k ≠ T → (W2.setCell ⟨T, x, none⟩ (.slice (some ⟨g, 0, none⟩) ((fL x).length + 1) cap)).heap[k]? = W2.heap[k]? := fun k hk => Below.heap_setCell W2 ⟨T, x, none⟩ _ k hk
  have hmine : ∀ y v' k, y ≠ x → vs[y]? = some v' → v'.ownBlock = some k → k ≠ g := fun y v' k hy hv hk' he => by
    subst he
    rcases hat with hat | hat
    · exact h4 x y _ v' k (Ne.symm hy) e hv hat hk'
    · have hy2 : y < n := by have := (Array.getElem?_eq_some_iff.1 hv).1; omega
      obtain ⟨v2, e2, ho3, hs3⟩ := h3 y hy2
      rw [hv] at e2
      cases e2
      have := h.lt k (hs3 k hk').1
      omega
  refine ⟨a, c, g, cap, W2, (h2.cell x).trans e, hr, hk, hk1, hs, hT2.frozen x, ⟨⟨vs.setIfInBounds x (.slice (some ⟨g, 0, none⟩) ((fL x).length + 1) cap), by simp [h1], hT2.set x _, fun y hy => ?_, fun y1 y2 v1 v2 k hne hv1 hv2 hk1 => ?_⟩, fun k hk' => ?_, .inl h.has, h.lo⟩, ?_⟩
  · by_cases hyx : y = x
    · subst hyx
      refine ⟨_, by rw [Array.getElem?_setIfInBounds_self_of_lt (by omega)], ?_, ?_⟩
      · simp only [if_true]
        exact ho2.keep (fun k hk' => by cases hk'; exact hset g hgT)
      · intro k hk'
        cases hk'
        exact ⟨hgN, hgT⟩
    · obtain ⟨v', e', ho', hs'⟩ := h3 y hy
      refine ⟨v', by rw [Array.getElem?_setIfInBounds_ne (Ne.symm hyx)]; exact e', ?_, fun k hk' => ⟨.inl (hs' k hk').1, (hs' k hk').2⟩⟩
      simp only [if_neg hyx]
      refine ho'.keep (fun k hk' => (hset k (hs' k hk').2).trans (hk.block k (h.lt k (hs' k hk').1) (fun h9 => ?_)))
      exact h4 x y _ v' k (Ne.symm hyx) e e' h9 hk'
  · by_cases hy1 : y1 = x
    · subst hy1
      rw [Array.getElem?_setIfInBounds_self_of_lt (by omega)] at hv1
      rw [Array.getElem?_setIfInBounds_ne hne] at hv2
      cases hv1
      cases hk1
      intro hk2
      exact hmine y2 v2 g (Ne.symm hne) hv2 hk2 rfl
    · rw [Array.getElem?_setIfInBounds_ne (Ne.symm hy1)] at hv1
      by_cases hy2 : y2 = x
      · subst hy2
        rw [Array.getElem?_setIfInBounds_self_of_lt (by omega)] at hv2
        cases hv2
        intro hk2
        cases hk2
        exact hmine y1 v1 g hy1 hv1 hk1 rfl
      · rw [Array.getElem?_setIfInBounds_ne (Ne.symm hy2)] at hv2
        exact h4 y1 y2 v1 v2 k hne hv1 hv2 hk1
  · rw [hsz2]
    rcases hk' with hk' | hk'
    · exact Nat.lt_of_lt_of_le (h.lt k hk') hk.size
    · exact hk'.2
  · exact (hk.mono (fun k hk' => (hs k hk').1)).set (.inl h.has) x _
theorem RowsI.congr {fL' : Nat → List Int} (h : RowsI base n T S fL W) (he : ∀ x, x < n → fL x = fL' x) : RowsI base n T S fL' W := by
  obtain ⟨vs, h1, h2, h3, h4⟩ := h.tab
  exact ⟨⟨vs, h1, h2, fun x hx => by rw [← he x hx]; exact h3 x hx, h4⟩, h.lt, h.has, h.lo⟩
/-- Rows of numbers, as they are told. -/
def RowsAt (L : List (List Int)) (a : Option Addr) (W : World) : Prop :=
  L ≠ [] → ∃ g off, a = some ⟨g, off, none⟩ ∧ g < W.heap.size ∧ ∀ i (h : i < L.length), ∃ b c, W.cell? ⟨g, off + i, none⟩ = some (.slice b L[i].length c) ∧ IntsO L[i] b W
theorem RowsAt.below {L : List (List Int)} {a : Option Addr} (h : RowsAt L a W) (hb : Below W.heap.size W W') : RowsAt L a W' := fun hne => by
  obtain ⟨g, off, e, hg, hc⟩ := h hne
  exact ⟨g, off, e, Nat.lt_of_lt_of_le hg hb.size, fun i hi => by
    obtain ⟨b, c, h1, h2⟩ := hc i hi
    exact ⟨b, c, (hb.cell (p := ⟨g, off + i, none⟩) hg).trans h1, h2.below hb⟩⟩
theorem RowsI.at (h : RowsI base n T S fL W) : RowsAt ((List.range n).map fL) (some ⟨T, 0, none⟩) W := fun _ => ⟨T, 0, rfl, h.tl, fun i hi => by
  have hi2 : i < n := by simpa using hi
  obtain ⟨a, c, h1, h2, _⟩ := h.cell i hi2
  have e : ((List.range n).map fL)[i] = fL i := by simp
  rw [e, Nat.zero_add]
  exact ⟨a, c, h1, h2.ints.o⟩⟩
end
end Go.Proofs.Ytooolhekihijlaa

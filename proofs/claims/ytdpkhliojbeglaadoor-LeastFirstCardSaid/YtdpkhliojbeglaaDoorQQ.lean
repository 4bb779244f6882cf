/- Texts put together: Tre Trf Trz. -/
import Derived.Test.YtdpkhliojbeglaaDoorQM
/- Frames of parse trees, plainly: rows by places; the list that frames tell. Stage 14. -/
namespace Go.Proofs.YtdpkhliojbeglaaDoor
open Go.RowKit

/-- The row of place j. -/
def rowF (ev : List (Int × Int)) (j : Nat) : List Int := (ev.filter fun x => decide (x.1 = (j : Int))).map Prod.snd
def rowsE (ev : List (Int × Int)) (n : Nat) : List (List Int) := (List.range n).map (rowF ev)
theorem rowF_app (a b : List (Int × Int)) (j : Nat) : rowF (a ++ b) j = rowF a j ++ rowF b j := by unfold rowF; rw [List.filter_append, List.map_append]
/-- Places ascend. -/
def ascE (ev : List (Int × Int)) : Prop := ev.Pairwise fun x y => x.1 ≤ y.1
theorem chain_le {p : Nat} : ∀ (R : List (Nat × Nat × Nat)) (f e : Nat), chainR p f e R → f ≤ e
  | [], f, e, h => Nat.le_of_eq h
  | (n, f', m) :: r, f, e, h => by
    obtain ⟨_, _, h1, h2, h3⟩ := h
    have := chain_le r m e h3
    omega
section
variable {l : List NdN} {w : List Nat}
/-- Roots side by side from f to e. -/
def rowR (f e : Nat) : List (Nat × Nat × Nat) → Prop
  | [] => f ≤ e
  | (_, f', m) :: r => f ≤ f' ∧ f' ≤ m ∧ rowR m e r
theorem chain_row {p : Nat} : ∀ (R : List (Nat × Nat × Nat)) (f e : Nat), chainR p f e R → rowR f e R
  | [], _, _, h => Nat.le_of_eq h
  | (n, f', m) :: r, f, e, h => by
    obtain ⟨_, rfl, h1, _, h3⟩ := h
    exact ⟨Nat.le_refl _, by omega, chain_row r m e h3⟩
/-- A node's kids stand side by side within it. -/
theorem node_row {x : NdN} {f e : Nat} {ks : Fo} (h : nodeOk x w f e (rootsO ks)) (hk : okF l w ks) : rowR f e (rootsO ks) := by
  obtain ⟨hfe, _, hc⟩ := h
  have single : ∀ p, rootsO ks = [(p, f, e)] → rowR f e (rootsO ks) := fun p hp => by rw [hp]; exact ⟨Nat.le_refl _, hfe, Nat.le_refl _⟩
  rcases hc with ⟨_, _, hro⟩ | ⟨_, _, _, hro⟩ | ⟨_, p, q, m, _, _, hro⟩ | ⟨_, r, _, hro⟩ | ⟨_, p, _, hch⟩ | ⟨_, ⟨_, hro⟩ | ⟨_, p, _, hro⟩⟩ | ⟨_, p, _, hro⟩
  · rw [hro]; exact hfe
  · rw [hro]; exact hfe
  · cases ks with
    | nil => cases hro
    | cons n1 f1 e1 k1 rest =>
      cases rest with
      | nil => simp only [rootsO, List.cons.injEq] at hro; cases hro.2
      | cons n2 f2 e2 k2 rest2 =>
        rw [hro]
        simp only [rootsO, List.cons.injEq, Prod.mk.injEq] at hro
        have h1 := hk.1.1
        have h2 := hk.2.2.1.1
        refine ⟨Nat.le_refl _, by omega, Nat.le_refl _, by omega, Nat.le_refl _⟩
  · exact single r hro
  · exact chain_row _ _ _ hch
  · rw [hro]; exact hfe
  · exact single p hro
  · exact single p hro
theorem row_le : ∀ (R : List (Nat × Nat × Nat)) (f e : Nat), rowR f e R → f ≤ e
  | [], _, _, h => h
  | (_, f', m) :: r, f, e, h => by
    obtain ⟨h1, h2, h3⟩ := h
    have := row_le r m e h3
    omega
/-- All that a row of trees opens and closes lies between its ends, ascending. -/
theorem ev_asc : ∀ (F : Fo) (f e : Nat), okF l w F → rowR f e (rootsO F) → ascE (evF F) ∧ ∀ x ∈ evF F, (f : Int) ≤ x.1 ∧ x.1 ≤ (e : Int) := by
  intro F
  induction F with
  | nil => intro f e _ _; exact ⟨List.Pairwise.nil, fun x hx => by cases hx⟩
  | cons n f1 e1 ks rest ihk ihr =>
    intro f e hok hrow
    obtain ⟨hno, hkok, hrok⟩ := hok
    obtain ⟨h1, h2, h3⟩ := hrow
    obtain ⟨ak, bk⟩ := ihk f1 e1 hkok (node_row hno hkok)
    obtain ⟨ar, br⟩ := ihr e1 e hrok h3
    have hle := row_le _ _ _ h3
    constructor
    · unfold ascE
      show List.Pairwise _ (((f1 : Int), 2 * (n : Int)) :: (evF ks ++ ((e1 : Int), 2 * (n : Int) + 1) :: evF rest))
      rw [List.pairwise_cons, List.pairwise_append]
      refine ⟨fun x hx => ?_, ak, ?_, fun x hx y hy => ?_⟩
      · rcases List.mem_append.1 hx with hx | hx
        · exact (bk x hx).1
        · rcases List.mem_cons.1 hx with rfl | hx
          · show (f1 : Int) ≤ (e1 : Int); omega
          · have := (br x hx).1; show (f1 : Int) ≤ _; omega
      · rw [List.pairwise_cons]
        exact ⟨fun x hx => (br x hx).1, ar⟩
      · have hb := (bk x hx).2
        rcases List.mem_cons.1 hy with rfl | hy
        · exact hb
        · have := (br y hy).1; omega
    · intro x hx
      have hx' : x ∈ ((f1 : Int), 2 * (n : Int)) :: (evF ks ++ ((e1 : Int), 2 * (n : Int) + 1) :: evF rest) := hx
      rcases List.mem_cons.1 hx' with rfl | hx'
      · show (f : Int) ≤ (f1 : Int) ∧ (f1 : Int) ≤ (e : Int); omega
      · rcases List.mem_append.1 hx' with hx' | hx'
        · have := bk x hx'; omega
        · rcases List.mem_cons.1 hx' with rfl | hx'
          · show (f : Int) ≤ (e1 : Int) ∧ (e1 : Int) ≤ (e : Int); omega
          · have := br x hx'; omega
end
/-- Rows by places, one behind the other, are the steps in their order. -/
theorem rows_flat (ev : List (Int × Int)) (hasc : ascE ev) : ∀ n : Nat, (∀ x ∈ ev, 0 ≤ x.1) → (rowsE ev n).flatten = ((ev.filter fun x => decide (x.1 < (n : Int))).map Prod.snd) := by
  intro n h0
  induction n with
  | zero =>
    have : (ev.filter fun x => decide (x.1 < ((0 : Nat) : Int))) = [] := by
      rw [List.filter_eq_nil_iff]
      intro x hx
      have := h0 x hx
      simp
      omega
    rw [this]
    rfl
  | succ n ih =>
    unfold rowsE at *
    rw [List.range_succ, List.map_append, List.flatten_append, ih]
    show _ ++ [rowF ev n].flatten = _
    rw [List.flatten_singleton]
    unfold rowF
    rw [← List.map_append]
    congr 1
    clear ih h0
    induction ev with
    | nil => rfl
    | cons x r ih =>
      have ha : ascE r := (List.pairwise_cons.1 hasc).2
      have hx : ∀ y ∈ r, x.1 ≤ y.1 := (List.pairwise_cons.1 hasc).1
      have ih := ih ha
      rcases Int.lt_trichotomy x.1 (n : Int) with h1 | h1 | h1
      · rw [List.filter_cons_of_pos (by simpa using h1), List.filter_cons_of_neg (by simp; omega), List.filter_cons_of_pos (by simp; omega), List.cons_append, ih]
      · have hn : (r.filter fun y => decide (y.1 < (n : Int))) = [] := by
          rw [List.filter_eq_nil_iff]
          intro y hy
          have := hx y hy
          simp
          omega
        rw [hn, List.nil_append] at ih
        rw [List.filter_cons_of_neg (by simp; omega), hn, List.nil_append, List.filter_cons_of_pos (by simpa using h1), List.filter_cons_of_pos (by simp; omega), ih]
      · have hn : (r.filter fun y => decide (y.1 < (n : Int))) = [] := by
          rw [List.filter_eq_nil_iff]
          intro y hy
          have := hx y hy
          simp
          omega
        rw [hn, List.nil_append] at ih
        rw [List.filter_cons_of_neg (by simp; omega), hn, List.nil_append, List.filter_cons_of_neg (by simp; omega), List.filter_cons_of_neg (by simp; omega), ih]
end Go.Proofs.YtdpkhliojbeglaaDoor

/- The list that frames tell, plainly; of a parse tree's frames it is the tree. Stage 14. -/
namespace Go.Proofs.YtdpkhliojbeglaaDoor
open Go.RowKit

structure OfS where
  out : List EnN
  op : List Nat
  done : Bool
/-- One step in frame i. -/
def ofS (i : Int) (st : OfS) (s : Int) : Option OfS :=
  if s < 0 ∨ st.done = true then none
  else if s % 2 = 0 then some ⟨st.out ++ [⟨(st.op.length : Int) + 1, s / 2, i, 0⟩], st.out.length :: st.op, false⟩
  else match st.op with
    | [] => none
    | q :: r => if (atE st.out q).node = s / 2 then some ⟨st.out.set q ⟨(atE st.out q).depth, (atE st.out q).node, (atE st.out q).from_, i⟩, r, r.isEmpty⟩ else none
def ofRow (i : Int) : OfS → List Int → Option OfS
  | st, [] => some st
  | st, s :: r => (ofS i st s).bind fun st' => ofRow i st' r
def ofRows (n : Nat) : Nat → OfS → List (List Int) → Option OfS
  | _, st, [] => some st
  | i, st, row :: r => (ofRow i st row).bind fun st' => if st'.done = true ∧ i + 1 < n then none else ofRows n (i + 1) st' r
def listT (fr : List (List Int)) : List EnN × Bool :=
  match ofRows fr.length 0 ⟨[], [], false⟩ fr with
  | some st => if st.done = true then (st.out, true) else ([], false)
  | none => ([], false)
/-- Steps with their places. -/
def ofSeq : OfS → List (Int × Int) → Option OfS
  | st, [] => some st
  | st, x :: r => (ofS x.1 st x.2).bind fun st' => ofSeq st' r
theorem ofSeq_app : ∀ (a b : List (Int × Int)) (st : OfS), ofSeq st (a ++ b) = (ofSeq st a).bind fun st' => ofSeq st' b
  | [], _, _ => rfl
  | x :: a, b, st => by
    show (ofS x.1 st x.2).bind (fun st' => ofSeq st' (a ++ b)) = ((ofS x.1 st x.2).bind fun st' => ofSeq st' a).bind _
    cases ofS x.1 st x.2 with
    | none => rfl
    | some st' => exact ofSeq_app a b st'
theorem ofRow_seq (i : Int) : ∀ (ev : List (Int × Int)) (st : OfS), (∀ x ∈ ev, x.1 = i) → ofRow i st (ev.map Prod.snd) = ofSeq st ev
  | [], _, _ => rfl
  | x :: r, st, h => by
    show (ofS i st x.2).bind (fun st' => ofRow i st' (r.map Prod.snd)) = (ofS x.1 st x.2).bind fun st' => ofSeq st' r
    rw [h x (List.mem_cons_self ..)]
    congr 1
    funext st'
    exact ofRow_seq i r st' fun y hy => h y (List.mem_cons_of_mem _ hy)
/-- Behind the end no step goes on. -/
theorem ofSeq_done {st : OfS} (h : st.done = true) : ∀ {ev : List (Int × Int)}, ev ≠ [] → ofSeq st ev = none
  | [], hne => absurd rfl hne
  | x :: r, _ => by
    show (ofS x.1 st x.2).bind _ = none
    have : ofS x.1 st x.2 = none := by
      unfold ofS
      rw [if_pos (.inr h)]
    rw [this]
    rfl
theorem asc_split (i : Int) : ∀ ev : List (Int × Int), ascE ev → ev.filter (fun x => decide (i ≤ x.1)) = ev.filter (fun x => decide (x.1 = i)) ++ ev.filter (fun x => decide (i + 1 ≤ x.1))
  | [], _ => rfl
  | x :: r, h => by
    have hx : ∀ y ∈ r, x.1 ≤ y.1 := (List.pairwise_cons.1 h).1
    have ih := asc_split i r (List.pairwise_cons.1 h).2
    rcases Int.lt_trichotomy x.1 i with h1 | h1 | h1
    · rw [List.filter_cons_of_neg (by simp; omega), List.filter_cons_of_neg (by simp; omega), List.filter_cons_of_neg (by simp; omega), ih]
    · rw [List.filter_cons_of_pos (by simp; omega), List.filter_cons_of_pos (by simp; omega), List.filter_cons_of_neg (by simp; omega), ih]
      rfl
    · have hn : (r.filter fun y => decide (y.1 = i)) = [] := by
        rw [List.filter_eq_nil_iff]
        intro y hy
        have := hx y hy
        simp
        omega
      rw [hn, List.nil_append] at ih
      rw [List.filter_cons_of_pos (by simp; omega), List.filter_cons_of_neg (by simp; omega), hn, List.nil_append, List.filter_cons_of_pos (by simp; omega), ih]
/-- Frame by frame, or step by step. -/
theorem rows_run (ev : List (Int × Int)) (hasc : ascE ev) (n : Nat) (hl : ∃ x ∈ ev, x.1 = (n : Int)) (stf : OfS) : ∀ k i st, i + k = n + 1 → ofSeq st (ev.filter fun x => decide ((i : Int) ≤ x.1)) = some stf → (∀ x ∈ ev, x.1 ≤ (n : Int)) →
    ofRows (n + 1) i st ((List.range' i k).map (rowF ev)) = some stf
  | 0, i, st, hi, h, hle => by
    have : (ev.filter fun x => decide ((i : Int) ≤ x.1)) = [] := by
      rw [List.filter_eq_nil_iff]
      intro x hx
      have := hle x hx
      simp
      omega
    rw [this] at h
    exact h
  | k + 1, i, st, hi, h, hle => by
    rw [List.range'_succ, List.map_cons]
    rw [asc_split _ ev hasc, ofSeq_app] at h
    obtain ⟨st', h1, h2⟩ := Option.bind_eq_some_iff.1 h
    show (ofRow (i : Int) st (rowF ev i)).bind _ = _
    have h3 : ofRow (i : Int) st (rowF ev i) = some st' := by
      unfold rowF
      rw [ofRow_seq _ _ _ (fun x hx => by simpa using (List.mem_filter.1 hx).2), h1]
    rw [h3]
    show (if st'.done = true ∧ i + 1 < n + 1 then none else ofRows (n + 1) (i + 1) st' _) = _
    have hnd : ¬ (st'.done = true ∧ i + 1 < n + 1) := by
      rintro ⟨hd, hlt⟩
      obtain ⟨x, hx, hxn⟩ := hl
      have hne : (ev.filter fun x => decide ((i : Int) + 1 ≤ x.1)) ≠ [] := by
        intro h0
        have := List.filter_eq_nil_iff.1 h0 x hx
        simp at this
        omega
      rw [ofSeq_done hd hne] at h2
      cases h2
    rw [if_neg hnd]
    refine rows_run ev hasc n hl stf k (i + 1) st' (by omega) ?_ hle
    rw [show (((i + 1 : Nat)) : Int) = (i : Int) + 1 by omega]
    exact h2
/-- Within an open node: what a row of trees opens and closes tells its entries. -/
theorem seq_inner : ∀ (F : Fo) (out : List EnN) (op : List Nat), op ≠ [] → ofSeq ⟨out, op, false⟩ (evF F) = some ⟨out ++ flF ((op.length : Int) + 1) F, op, false⟩ := by
  intro F
  induction F with
  | nil => intro out op _; simp [evF, flF, ofSeq]
  | cons n f e ks rest ihk ihr =>
    intro out op hop
    show (ofS (f : Int) ⟨out, op, false⟩ (2 * (n : Int))).bind (fun st' => ofSeq st' (evF ks ++ ((e : Int), 2 * (n : Int) + 1) :: evF rest)) = _
    have h1 : ofS (f : Int) ⟨out, op, false⟩ (2 * (n : Int)) = some ⟨out ++ [⟨(op.length : Int) + 1, n, f, 0⟩], out.length :: op, false⟩ := by
      unfold ofS
      rw [if_neg (by simp; omega), if_pos (by omega)]
      simp only [show 2 * (n : Int) / 2 = n by omega]
    rw [h1]
    show ofSeq _ (evF ks ++ _) = _
    rw [ofSeq_app, ihk _ _ (by simp)]
    show (ofS (e : Int) ⟨out ++ [⟨(op.length : Int) + 1, n, f, 0⟩] ++ flF (((out.length :: op).length : Int) + 1) ks, out.length :: op, false⟩ (2 * (n : Int) + 1)).bind (fun st' => ofSeq st' (evF rest)) = _
    have hat : atE (out ++ [⟨(op.length : Int) + 1, n, f, 0⟩] ++ flF (((out.length :: op).length : Int) + 1) ks) out.length = ⟨(op.length : Int) + 1, n, f, 0⟩ := by
      unfold atE
      rw [List.append_assoc, List.getD_eq_getElem?_getD, List.getElem?_append_right (Nat.le_refl _), Nat.sub_self]
      rfl
    have h2 : ofS (e : Int) ⟨out ++ [⟨(op.length : Int) + 1, n, f, 0⟩] ++ flF (((out.length :: op).length : Int) + 1) ks, out.length :: op, false⟩ (2 * (n : Int) + 1) = some ⟨out ++ [⟨(op.length : Int) + 1, n, f, e⟩] ++ flF ((op.length : Int) + 1 + 1) ks, op, false⟩ := by
      unfold ofS
      rw [if_neg (by simp; omega), if_neg (by omega)]
      simp only [hat]
      rw [if_pos (by omega)]
      have hemp : op.isEmpty = false := by cases op with | nil => exact absurd rfl hop | cons _ _ => rfl
      rw [hemp]
      congr 2
      rw [List.append_assoc, List.set_append_right _ _ (Nat.le_refl _), Nat.sub_self]
      simp
    rw [h2]
    show ofSeq _ (evF rest) = _
    rw [ihr _ _ hop]
    simp [flF]
/-- Of a tree's steps: the tree, and done. -/
theorem seq_tree (n f e : Nat) (ks : Fo) : ofSeq ⟨[], [], false⟩ (evF (.cons n f e ks .nil)) = some ⟨flF 1 (.cons n f e ks .nil), [], true⟩ := by
  show (ofS (f : Int) ⟨[], [], false⟩ (2 * (n : Int))).bind (fun st' => ofSeq st' (evF ks ++ [((e : Int), 2 * (n : Int) + 1)])) = _
  have h1 : ofS (f : Int) ⟨[], [], false⟩ (2 * (n : Int)) = some ⟨[⟨1, n, f, 0⟩], [0], false⟩ := by
    unfold ofS
    rw [if_neg (by simp; omega), if_pos (by omega)]
    simp only [show 2 * (n : Int) / 2 = n by omega]
    rfl
  rw [h1]
  show ofSeq _ (evF ks ++ _) = _
  rw [ofSeq_app, seq_inner ks _ _ (by simp)]
  show (ofS (e : Int) ⟨[⟨1, n, f, 0⟩] ++ flF (1 + 1) ks, [0], false⟩ (2 * (n : Int) + 1)).bind (fun st' => ofSeq st' []) = _
  have h2 : ofS (e : Int) ⟨[⟨1, n, f, 0⟩] ++ flF (1 + 1) ks, [0], false⟩ (2 * (n : Int) + 1) = some ⟨⟨1, n, f, e⟩ :: flF (1 + 1) ks, [], true⟩ := by
    unfold ofS
    rw [if_neg (by simp; omega), if_neg (by omega)]
    have hat : atE ([⟨1, (n : Int), f, 0⟩] ++ flF (1 + 1) ks) 0 = ⟨1, n, f, 0⟩ := rfl
    simp only [hat]
    rw [if_pos (by omega)]
    rfl
  rw [h2]
  simp [ofSeq, flF]
/-- Of a parse tree's frames: that tree. -/
theorem of_frames {l : List NdN} {w : List Nat} (n : Nat) (ks : Fo) (hok : okF l w (.cons n 0 w.length ks .nil)) : listT (rowsE (evF (.cons n 0 w.length ks .nil)) (w.length + 1)) = (flF 1 (.cons n 0 w.length ks .nil), true) := by
  obtain ⟨hasc, hb⟩ := ev_asc (.cons n 0 w.length ks .nil) 0 w.length hok ⟨Nat.le_refl _, Nat.zero_le _, Nat.le_refl _⟩
  have hall : (evF (.cons n 0 w.length ks .nil)).filter (fun x => decide (((0 : Nat) : Int) ≤ x.1)) = evF (.cons n 0 w.length ks .nil) := by
    rw [List.filter_eq_self]
    intro x hx
    have := (hb x hx).1
    simpa using this
  have hs := seq_tree n 0 w.length ks
  rw [← hall] at hs
  have hr := rows_run _ hasc w.length ⟨((w.length : Int), 2 * (n : Int) + 1), by simp [evF], rfl⟩ _ (w.length + 1) 0 _ (by omega) hs (fun x hx => (hb x hx).2)
  unfold listT
  have hlen : (rowsE (evF (.cons n 0 w.length ks .nil)) (w.length + 1)).length = w.length + 1 := by simp [rowsE]
  rw [hlen]
  unfold rowsE
  rw [List.range_eq_range', hr]
  rfl
end Go.Proofs.YtdpkhliojbeglaaDoor

/- The list that frames tell, as the developers find it: it is the document's. Stage 14. -/
namespace Go.Proofs.YtdpkhliojbeglaaDoor
open Go.RowKit

/-- What holds of what was made so far: places that are open are there, the first one is the lowest, and all is done where nothing is open. -/
structure OfInv (st : OfS) : Prop where
  idx : ∀ q ∈ st.op, q < st.out.length
  bot : st.op ≠ [] → st.op.getLast? = some 0
  dn : st.done = true ↔ st.out ≠ [] ∧ st.op = []
theorem inv_init : OfInv ⟨[], [], false⟩ := ⟨fun _ h => (by cases h), fun h => absurd rfl h, by simp⟩
theorem ofS_inv {i : Int} {st st' : OfS} {s : Int} (h : OfInv st) (e : ofS i st s = some st') : OfInv st' ∧ (st'.done = true → (atE st'.out 0).to = i) ∧ st'.out.length ≤ st.out.length + 1 ∧ st'.op.length ≤ st.op.length + 1 := by
  unfold ofS at e
  by_cases h1 : s < 0 ∨ st.done = true
  · rw [if_pos h1] at e; cases e
  rw [if_neg h1] at e
  by_cases h2 : s % 2 = 0
  · rw [if_pos h2] at e
    cases e
    refine ⟨⟨fun q hq => ?_, fun _ => ?_, by simp⟩, fun hd => by simp at hd, by simp, by simp⟩
    · rw [List.length_append, List.length_singleton]
      rcases List.mem_cons.1 hq with rfl | hq
      · omega
      · have := h.idx q hq; omega
    · by_cases ho : st.op = []
      · have hout : st.out = [] := by
          rcases Classical.em (st.out = []) with h9 | h9
          · exact h9
          · exact absurd (.inr (h.dn.2 ⟨h9, ho⟩)) h1
        simp [ho, hout]
      · show (st.out.length :: st.op).getLast? = some 0
        rw [List.getLast?_cons_of_ne_nil ho]
        exact h.bot ho
  · rw [if_neg h2] at e
    have hidx := h.idx
    have hbot := h.bot
    cases hop : st.op with
    | nil => rw [hop] at e; cases e
    | cons q r =>
      rw [hop] at e hidx hbot
      simp only at e
      by_cases h3 : (atE st.out q).node = s / 2
      · rw [if_pos h3] at e
        cases e
        have hq := hidx q (List.mem_cons_self ..)
        refine ⟨⟨fun x hx => ?_, fun hr => ?_, ?_⟩, fun hd => ?_, by simp, by simp; omega⟩
        · rw [List.length_set]; exact hidx x (List.mem_cons_of_mem _ hx)
        · have := hbot (by simp)
          rw [List.getLast?_cons_of_ne_nil hr] at this
          exact this
        · have hne : st.out ≠ [] := by intro e; rw [e] at hq; simp at hq
          simp [List.isEmpty_iff, hne]
        · simp only [List.isEmpty_iff] at hd
          subst hd
          have h0 := hbot (by simp)
          simp at h0
          subst h0
          rw [atE_lt _ 0 (by rw [List.length_set]; exact hq)]
          simp
      · rw [if_neg h3] at e; cases e
theorem ofRow_inv {i : Int} : ∀ (row : List Int) {st st' : OfS}, OfInv st → ofRow i st row = some st' → OfInv st' ∧ (st.done = false → st'.done = true → (atE st'.out 0).to = i) ∧ st'.out.length ≤ st.out.length + row.length ∧ st'.op.length ≤ st.op.length + row.length
  | [], st, st', h, e => by cases e; exact ⟨h, fun h1 h2 => (by rw [h1] at h2; cases h2), Nat.le_refl _, Nat.le_refl _⟩
  | s :: r, st, st', h, e => by
    rw [ofRow] at e
    cases h1 : ofS i st s with
    | none => rw [h1] at e; cases e
    | some s1 =>
      rw [h1] at e
      simp only [Option.bind_some] at e
      obtain ⟨hi1, hd1, hl1, ho1⟩ := ofS_inv h h1
      obtain ⟨hi2, hd2, hl2, ho2⟩ := ofRow_inv r hi1 e
      refine ⟨hi2, fun _ hd => ?_, by simp only [List.length_cons]; omega, by simp only [List.length_cons]; omega⟩
      cases hs1 : s1.done with
      | false => exact hd2 hs1 hd
      | true =>
        cases r with
        | nil => cases e; exact hd1 hd
        | cons s2 r =>
          rw [ofRow, ofS, if_pos (.inr hs1)] at e
          cases e
theorem ofRow_done {i : Int} {st st' : OfS} {row : List Int} (hd : st.done = true) (e : ofRow i st row = some st') : st' = st := by
  cases row with
  | nil => cases e; rfl
  | cons s r =>
    rw [ofRow, ofS, if_pos (.inr hd)] at e
    cases e
/-- As the developers go through the frames. -/
def ofRowsD : Nat → OfS → List (List Int) → Option OfS
  | _, st, [] => some st
  | i, st, row :: r => (ofRow i st row).bind fun st' => ofRowsD (i + 1) st' r
def devL (n : Nat) (o : Option OfS) : List EnN × Bool :=
  match o with
  | some st => if st.done = true ∧ (atE st.out 0).to = (n : Int) - 1 then (st.out, true) else ([], false)
  | none => ([], false)
def docL (o : Option OfS) : List EnN × Bool :=
  match o with
  | some st => if st.done = true then (st.out, true) else ([], false)
  | none => ([], false)
theorem rowsD_done : ∀ (rows : List (List Int)) (i : Nat) {st st' : OfS}, st.done = true → ofRowsD i st rows = some st' → st' = st
  | [], _, st, st', _, e => by cases e; rfl
  | row :: r, i, st, st', hd, e => by
    rw [ofRowsD] at e
    cases h1 : ofRow i st row with
    | none => rw [h1] at e; cases e
    | some s1 =>
      rw [h1] at e
      simp only [Option.bind_some] at e
      obtain rfl := ofRow_done hd h1
      exact rowsD_done r (i + 1) hd e
theorem dev_doc (n : Nat) : ∀ (rows : List (List Int)) (i : Nat) (st : OfS), n = i + rows.length → OfInv st → st.done = false → devL n (ofRowsD i st rows) = docL (ofRows n i st rows)
  | [], i, st, _, _, hd => by simp [ofRowsD, ofRows, devL, docL, hd]
  | row :: r, i, st, hn, hinv, hd => by
    rw [ofRowsD, ofRows]
    cases h1 : ofRow i st row with
    | none => rfl
    | some s1 =>
      obtain ⟨hi1, hd1, _⟩ := ofRow_inv row hinv h1
      simp only [Option.bind_some]
      cases hs1 : s1.done with
      | false =>
        rw [if_neg (fun h => by cases h.1)]
        exact dev_doc n r (i + 1) s1 (by simp at hn; omega) hi1 hs1
      | true =>
        have hto := hd1 hd hs1
        cases r with
        | nil =>
          simp only [List.length_cons, List.length_nil] at hn
          rw [if_neg (fun h => by omega)]
          simp only [ofRowsD, ofRows, devL, docL]
          rw [if_pos ⟨hs1, by rw [hto]; omega⟩, if_pos hs1]
        | cons r2 rs =>
          simp only [List.length_cons] at hn
          rw [if_pos ⟨rfl, by omega⟩]
          show devL n (ofRowsD (i + 1) s1 (r2 :: rs)) = ([], false)
          cases h2 : ofRowsD (i + 1) s1 (r2 :: rs) with
          | none => rfl
          | some s2 =>
            obtain rfl := rowsD_done _ _ hs1 h2
            show (if s2.done = true ∧ (atE s2.out 0).to = (n : Int) - 1 then (s2.out, true) else ([], false)) = ([], false)
            rw [if_neg (fun h => by have := h.2; rw [hto] at this; omega)]
theorem listT_dev (fr : List (List Int)) : devL fr.length (ofRowsD 0 ⟨[], [], false⟩ fr) = listT fr := by
  rw [dev_doc fr.length fr 0 _ (by omega) inv_init rfl]
  rfl
end Go.Proofs.YtdpkhliojbeglaaDoor

/- Texts put together: Is Trl Ttc Tte Trn Trw Tua Tub Ir. -/
import Derived.Test.YtdpkhliojbeglaaDoorQM
import Derived.Laws.Slices
import Derived.Test.YtdpkhliojbeglaaDoorQR
import Derived.Test.YtdpkhliojbeglaaDoorQL
import Derived.Test.YtdpkhliojbeglaaDoorQO
import Derived.Test.YtdpkhliojbeglaaDoorQK
import Derived.Test.YtdpkhliojbeglaaDoorQQ
import Derived.Test.YtdpkhliojbeglaaDoorQE
import Derived.Laws.OwnMore
import Derived.Deep.AppendLies
import Derived.Deep.OwnRows
import Derived.BigQuiet
import Derived.Outline
import Derived.Deep.DeepCutAuto
/- The document's terms: Right, Low, Up. Stage 10. -/
namespace Go.Proofs.YtdpkhliojbeglaaDoor
open Go.RowKit BS

/-- The node whose part x is, of the first i nodes. -/
def upA (l : List NdN) (i x : Nat) : Int := match upF l x with | some j => if j < i then (j : Int) else -1 | none => -1
theorem upA_zero (l : List NdN) (x : Nat) : upA l 0 x = -1 := by
  unfold upA
  cases upF l x with
  | none => rfl
  | some j => exact if_neg (Nat.not_lt_zero j)
theorem upA_end (l : List NdN) (x : Nat) : upA l l.length x = upT l x := by
  unfold upA upT
  cases hu : upF l x with
  | none => rfl
  | some j => exact if_pos (up_some l x j hu).1
theorem upA_step (l : List NdN) (h : TermQ l) (i : Nat) (hi : i < l.length) (x : Nat) : upA l (i + 1) x = if (x : Int) ∈ partsT l i then (i : Int) else upA l i x := by
  by_cases hx : (x : Int) ∈ partsT l i
  · rw [if_pos hx]
    unfold upA
    rw [up_of l h i hi x hx]
    exact if_pos (by omega)
  · rw [if_neg hx]
    unfold upA
    cases hu : upF l x with
    | none => rfl
    | some j =>
      have hj : j ≠ i := fun e => hx (by rw [← e]; exact (up_some l x j hu).2)
      by_cases h1 : j < i
      · show (if j < i + 1 then _ else _) = (if j < i then _ else _)
        rw [if_pos h1, if_pos (by omega)]
      · show (if j < i + 1 then _ else _) = (if j < i then _ else _)
        rw [if_neg h1, if_neg (by omega)]
/-- A node's parts. -/
theorem node_parts (l : List NdN) (h : TermQ l) (i : Nat) (hi : i < l.length) :
    (l[i].kids = -1 ∧ l[i].n = -1 ∧ partsT l i = []) ∨ (∃ a : Nat, l[i].kids = a ∧ a < i ∧ l[i].n = -1 ∧ partsT l i = [(a : Int)]) ∨
    (∃ a b : Nat, l[i].kids = a ∧ a < i ∧ l[i].n = b ∧ b < i ∧ partsT l i = [(a : Int), (b : Int)]) := by
  obtain ⟨s, _, hf⟩ := h.fine i hi
  obtain ⟨hk, _, _, _⟩ := (fineT_iff l s i l[i]).1 hf
  obtain ⟨_, h0, h2⟩ := (kindT_two l[i]).1 hk
  have hp := parts_as l h i hi
  have hlt := part_lt l h i hi
  unfold partsT at hlt ⊢
  rcases pc_kinds l[i].kind with c | c | c
  · rw [c, if_neg (by decide), if_neg (by decide)] at hp
    exact .inl ⟨h0 c, h2 (by omega), hp⟩
  · rw [c, if_neg (by decide), if_pos rfl] at hp
    obtain ⟨h3, h4⟩ := hlt l[i].kids (by rw [hp]; simp)
    exact .inr (.inl ⟨l[i].kids.toNat, by omega, by omega, h2 (by omega), by rw [hp, Int.toNat_of_nonneg h3]⟩)
  · rw [c, if_pos rfl] at hp
    obtain ⟨h3, h4⟩ := hlt l[i].kids (by rw [hp]; simp)
    obtain ⟨h5, h6⟩ := hlt l[i].n (by rw [hp]; simp)
    exact .inr (.inr ⟨l[i].kids.toNat, l[i].n.toNat, by omega, by omega, by omega, by omega, by rw [hp, Int.toNat_of_nonneg h3, Int.toNat_of_nonneg h5]⟩)
def upsT (l : List NdN) : List Int := if rightT l = true then (List.range l.length).map (upT l) else []

set_option maxRecDepth 100000 in
set_option maxHeartbeats 4000000 in
theorem tRight_calls (l : List NdN) (hl : l.length ≤ 1000) (a : Option Addr) (cap : Nat) (w : World) (h : NodesAt l a w) :
    Calls Tryd.prog 9 #[.slice a l.length cap] w fun e w' => e = .returned (.bool (rightT l)) ∧ Below w.heap.size w w' := by
  have HL := Lib.hid (lows_calls l hl a cap w h)
  clear h
  cases hr : rightT l with
  | false =>
    have HR := Lib.hid hr
    clear hr
    go_enter Tryd.func9, Tryd.ntmps9
    go_wp2_with fail
    refine HL.out.mono ?_
    rintro e w1 ⟨b, c, rfl, hi, hn, hb⟩
    obtain ⟨rfl, rfl⟩ := hn HR.out
    rw [lowsT_not l HR.out]
    clear hi hn HL
    go_wp2_with fail
    go_ret
    exact ⟨rfl, hb⟩
  | true =>
    obtain ⟨h1, _, _⟩ := of_decide_eq_true hr
    have hne : lowsT l ≠ [] := by
      rw [lowsT_is l hr]
      intro h0
      have := congrArg List.length h0
      rw [List.length_map, List.length_range, List.length_nil] at this
      rw [this, trT] at h1
      cases h1
    have HNE := Lib.hid hne
    clear hr h1 hne
    go_enter Tryd.func9, Tryd.ntmps9
    go_wp2_with fail
    refine HL.out.mono ?_
    rintro e w1 ⟨b, c, rfl, hi, hn, hb⟩
    obtain ⟨g, o, rfl, _, _, hcc⟩ := hi HNE.out
    clear hn hi HL hcc
    go_wp2_with fail
    go_ret
    exact ⟨rfl, hb⟩
set_option maxRecDepth 100000 in
set_option maxHeartbeats 4000000 in
theorem tLow_calls (l : List NdN) (hl : l.length ≤ 1000) (a : Option Addr) (cap : Nat) (w : World) (h : NodesAt l a w) :
    Calls Tryd.prog 78 #[.slice a l.length cap] w fun e w' => ∃ b c, e = .returned (.slice b (lowsT l).length c) ∧ IntsB w.heap.size (lowsT l) b w' ∧ Below w.heap.size w w' := by
  have HL := Lib.hid (lows_calls l hl a cap w h)
  clear h
  go_enter Tryd.func78, Tryd.ntmps78
  go_wp2_with fail
  refine HL.out.mono ?_
  rintro e w1 ⟨b, c, rfl, hi, hn, hb⟩
  have HI := Lib.hid hi
  clear HL hn hi
  go_wp2_with fail
  go_ret
  exact ⟨b, c, rfl, HI.out, hb⟩
end Go.Proofs.YtdpkhliojbeglaaDoor

/- Is a list a parse tree: the document's Right; what it is plainly. Stage 14. -/
namespace Go.Proofs.YtdpkhliojbeglaaDoor
open Go.RowKit BS

theorem parts_ok (l : List NdN) (hr : rightT l = true) : PartsOk l := by
  have hk : ∀ n (h : n < l.length), 1 ≤ l[n].kind ∧ l[n].kind ≤ 8 := kind_range l hr
  have hnd : ∀ n (h : n < l.length), ndE l n = l[n] := fun n h => by simp [ndE, h]
  refine ⟨fun n h => by rw [hnd n h]; exact hk n h, fun n h h3 => ?_, fun n h h34 => ?_⟩
  · rw [hnd n h] at h3 ⊢
    rcases nodek_parts l hr n h with ⟨h0, _⟩ | ⟨a, h0, h1, h2, h3', _⟩ | ⟨a, b, h0, h1, h2, h3', h4, h5, h6⟩
    · rcases pc_zero h0 (hk n h).1 (hk n h).2 with h' | h' <;> omega
    · exact ⟨a, h1, by omega⟩
    · exact ⟨a, h1, h6⟩
  · rw [hnd n h] at h34 ⊢
    have hp : pcT l[n].kind = 2 := by rcases h34 with e | e <;> rw [e] <;> rfl
    rcases nodek_parts l hr n h with ⟨h0, _⟩ | ⟨a, h0, h1, h2, h3', _⟩ | ⟨a, b, h0, h1, h2, h3', h4, h5, h6⟩
    · rw [hp] at h0; cases h0
    · rw [hp] at h0; cases h0
    · exact ⟨b, h2, by omega⟩
/-- Is it a parse tree? -/
def treeT (l : List NdN) (w : List Nat) (t : List EnN) : Bool := rightT l && decide (entF l w t l.length 0 ⟨1, (l.length : Int) - 1, 0, w.length⟩ = some t.length)
theorem tree_iff (l : List NdN) (w : List Nat) (t : List EnN) : treeT l w t = true ↔ rightT l = true ∧ ∃ ks, okF l w (.cons (l.length - 1) 0 w.length ks .nil) ∧ t = flF 1 (.cons (l.length - 1) 0 w.length ks .nil) := by
  unfold treeT
  rw [Bool.and_eq_true, decide_eq_true_iff]
  refine and_congr_right fun hr => ?_
  have hp := parts_ok l hr
  have hl : 0 < l.length := (rightT_q l hr).pos
  have hc : ((l.length : Int) - 1) = ((l.length - 1 : Nat) : Int) := by omega
  rw [hc]
  constructor
  · intro h
    obtain ⟨f', e', ks, h1, h2, hok, _, _, hd⟩ := ent_ok hp l.length 0 1 (l.length - 1) 0 (w.length : Int) t.length (by omega) (by omega) h
    obtain rfl : f' = 0 := by omega
    obtain rfl : e' = w.length := by omega
    refine ⟨ks, hok, ?_⟩
    rw [List.drop_zero, List.drop_length, List.append_nil] at hd
    exact hd
  · rintro ⟨ks, hok, ht⟩
    have h := ent_of hp l.length 0 1 (l.length - 1) 0 w.length ks [] (by omega) (by omega) hok (by rw [List.drop_zero, List.append_nil]; first | done | exact ht)
    rw [← ht, Nat.zero_add] at h
    exact h
theorem resO_eq (o : Option Nat) (n : Nat) : (resO o == (n : Int)) = decide (o = some n) := by
  cases o with
  | none => simp [resO] <;> omega
  | some j => simp [resO]; by_cases h : j = n <;> simp [h] <;> omega
set_option maxRecDepth 100000 in
set_option maxHeartbeats 8000000 in
theorem rTree_calls (l : List NdN) (hl : l.length ≤ 1000) (w : List Nat) (hw : w.length ≤ 1000) (hw8 : ∀ x ∈ w, x < 256) (t : List EnN) (ht : t.length ≤ 1000) (la wa ta : Option Addr) (lc wc tc : Nat) (W : World) (hN : NodesAt l la W) (hT : BtsAt w wa W) (hE : EntsAt t ta W) :
    Calls Tryd.prog 21 #[.slice la l.length lc, .slice wa w.length wc, .slice ta t.length tc] W fun e W' => e = .returned (.bool (treeT l w t)) ∧ Below W.heap.size W W' := by
  have HR := tRight_calls l hl la lc W hN
  have HN := Lib.hid hN
  have HT := Lib.hid hT
  have HE := Lib.hid hE
  clear hN hT hE
  cases hr : rightT l with
  | false =>
    rw [hr] at HR
    have HX := Lib.hid (show treeT l w t = false by unfold treeT; rw [hr]; rfl)
    clear hr
    go_enter Tryd.func21, Tryd.ntmps21
    go_wp2_with fail
    refine HR.mono ?_
    rintro e w1 ⟨rfl, hb⟩
    go_wp2_with fail
    go_ret
    exact ⟨by rw [HX.out] <;> rfl, hb⟩
  | true =>
    rw [hr] at HR
    have hpos : 0 < l.length := (rightT_q l hr).pos
    have HX := Lib.hid (show treeT l w t = (resO (entF l w t l.length 0 ⟨1, ((l.length - 1 : Nat) : Int), 0, w.length⟩) == (t.length : Int)) by
      rw [resO_eq]; unfold treeT; rw [hr, Bool.true_and, show ((l.length : Int) - 1) = ((l.length - 1 : Nat) : Int) by omega])
    have HEC := Lib.hid (ent_calls l w t la wa ta lc wc tc (parts_ok l hr) hl hw hw8 ht l.length (by omega) 0 1 (l.length - 1) 0 w.length)
    have xl : IntKind.i64.wrap ((l.length : Int) - 1) = ((l.length - 1 : Nat) : Int) := by rw [show ((l.length : Int) - 1) = ((l.length - 1 : Nat) : Int) by omega]; exact IntWalk.i64_in _ (by omega)
    have hlq := (rightT_q l hr).len
    clear hr
    generalize treeT l w t = TR at *
    generalize resO (entF l w t l.length 0 ⟨1, ((l.length - 1 : Nat) : Int), 0, w.length⟩) = re at *
    go_enter Tryd.func21, Tryd.ntmps21
    go_wp2_with fail
    refine HR.mono ?_
    rintro e w1 ⟨rfl, hb⟩
    have HB := Lib.hid hb
    clear HR hb
    go_wp2_with fail
    refine (HEC.out w1 (by omega) (by omega) (by omega) (by omega) (by omega) (HN.out.below HB.out) (HT.out.below HB.out) (HE.out.below HB.out)).mono ?_
    rintro e w2 ⟨rfl, hb2⟩
    have HB2 := Lib.hid (HB.out.trans (hb2.mono HB.out.size))
    clear hb2 HEC
    go_wp2_with fail
    go_ret
    exact ⟨by rw [HX.out] <;> rfl, HB2.out⟩
end Go.Proofs.YtdpkhliojbeglaaDoor

/- Whether a node can span bytes, as it is told; the tree that is told; none is ahead of it (LeastAhead, plainly). Stage 15. -/
namespace Go.Proofs.YtdpkhliojbeglaaDoor
open Go.RowKit

theorem alt_lt (l : List NdN) (hr : rightT l = true) : AltLt l := by
  intro n h h4
  have hnd : ndE l n = l[n] := by simp [ndE, h]
  rw [hnd] at h4 ⊢
  rcases nodek_parts l hr n h with ⟨h0, _⟩ | ⟨a, h0, h1, h2, h3', _⟩ | ⟨a, b, h0, h1, h2, h3', h4', h5, h6⟩
  · rw [h4] at h0; cases h0
  · rw [h4] at h0; cases h0
  · have := lowV_le l b
    omega
section
variable (l : List NdN) (w : List Nat)
/-- A Star, by its A. -/
def starB (g : Nat → Nat → Bool) (j : Nat) : Nat → Nat → Bool
  | 0, i => i == j
  | m + 1, i => i == j || (List.range (j - i)).any fun s => g i (i + 1 + s) && starB g j m (i + 1 + s)
/-- Can a node span these? -/
def canK : Nat → Nat → Nat → Nat → Bool
  | 0, _, _, _ => false
  | k + 1, q, i, j =>
    if (ndE l q).kind = 1 then i == j
    else if (ndE l q).kind = 2 then j == i + 1 && (ndE l q).set.getLsbD (w.getD i 0)
    else if (ndE l q).kind = 3 then (List.range (j + 1 - i)).any fun s => canK k (ndE l q).kids.toNat i (i + s) && canK k (ndE l q).n.toNat (i + s) j
    else if (ndE l q).kind = 4 then canK k (ndE l q).kids.toNat i j || canK k (ndE l q).n.toNat i j
    else if (ndE l q).kind = 5 then starB (canK k (ndE l q).kids.toNat) j (j - i) i
    else if (ndE l q).kind = 6 then i == j || canK k (ndE l q).kids.toNat i j
    else canK k (ndE l q).kids.toNat i j
def canB (q i j : Nat) : Bool := canK l w (q + 1) q i j
/-- The tree of a node that spans bytes. -/
def growB (q i j : Nat) : Fo := .cons q i j (kidsG l (canB l w) (q + 1) q i j) .nil
/-- The tree of a term: its entries, if there is one. -/
def leastT : Option (List EnN) := if canB l w (l.length - 1) 0 w.length = true then some (flF 1 (growB l w (l.length - 1) 0 w.length)) else none
end
section
variable {l : List NdN} {w : List Nat}
theorem star_iff {q p j : Nat} (hk : (ndE l q).kind = 5) (hp : (ndE l q).kids = p) (hj : j ≤ w.length) {g : Nat → Nat → Bool} (ih : ∀ a b, a ≤ b → b ≤ w.length → (g a b = true ↔ canP l w p a b)) : ∀ m i, j - i ≤ m → i ≤ j → (starB g j m i = true ↔ canP l w q i j) := by
  intro m
  induction m with
  | zero =>
    intro i hm hij
    unfold starB
    rw [beq_iff_eq, can_5 hk hp hij hj]
    exact ⟨.inl, fun _ => by omega⟩
  | succ m ihm =>
    intro i hm hij
    unfold starB
    rw [Bool.or_eq_true, beq_iff_eq, can_5 hk hp hij hj, List.any_eq_true]
    refine or_congr_right ?_
    constructor
    · rintro ⟨s, hs, h⟩
      have hs' := List.mem_range.1 hs
      rw [Bool.and_eq_true, ih _ _ (by omega) (by omega), ihm _ (by omega) (by omega)] at h
      exact ⟨i + 1 + s, by omega, h⟩
    · rintro ⟨k, h1, h2, h3⟩
      have h4 := can_le h3
      refine ⟨k - (i + 1), List.mem_range.2 (by omega), ?_⟩
      rw [show i + 1 + (k - (i + 1)) = k by omega, Bool.and_eq_true, ih _ _ (by omega) (by omega), ihm _ (by omega) h4.1]
      exact ⟨h2, h3⟩
theorem canK_iff (hP : PartsOk l) : ∀ k q i j, q < k → q < l.length → i ≤ j → j ≤ w.length → (canK l w k q i j = true ↔ canP l w q i j)
  | 0, _, _, _, h, _, _, _ => absurd h (by omega)
  | k + 1, q, i, j, hqk, hq, hij, hj => by
    have ih := canK_iff hP k
    obtain ⟨k1, k8⟩ := hP.kind q hq
    have ha := hP.a q hq
    have hb := hP.b q hq
    unfold canK
    by_cases e1 : (ndE l q).kind = 1
    · rw [if_pos e1, can_1 e1 hij hj, beq_iff_eq]
    rw [if_neg e1]
    by_cases e2 : (ndE l q).kind = 2
    · rw [if_pos e2, can_2 e2 hij hj, Bool.and_eq_true, beq_iff_eq]
    rw [if_neg e2]
    obtain ⟨p, hp, hpq⟩ := ha (by omega)
    rw [hp, Int.toNat_natCast]
    by_cases e3 : (ndE l q).kind = 3
    · obtain ⟨r, hr, hrq⟩ := hb (.inl e3)
      rw [if_pos e3, hr, Int.toNat_natCast, can_3 e3 hp hr hij hj, List.any_eq_true]
      constructor
      · rintro ⟨s, hs, h⟩
        have hs' := List.mem_range.1 hs
        rw [Bool.and_eq_true, ih p _ _ (by omega) (by omega) (by omega) (by omega), ih r _ _ (by omega) (by omega) (by omega) hj] at h
        exact ⟨i + s, h⟩
      · rintro ⟨m, h1, h2⟩
        have l1 := can_le h1
        have l2 := can_le h2
        refine ⟨m - i, List.mem_range.2 (by omega), ?_⟩
        rw [show i + (m - i) = m by omega, Bool.and_eq_true, ih p _ _ (by omega) (by omega) (by omega) (by omega), ih r _ _ (by omega) (by omega) (by omega) hj]
        exact ⟨h1, h2⟩
    rw [if_neg e3]
    by_cases e4 : (ndE l q).kind = 4
    · obtain ⟨r, hr, hrq⟩ := hb (.inr e4)
      rw [if_pos e4, hr, Int.toNat_natCast, can_4 e4 hp hr hij hj, Bool.or_eq_true, ih p _ _ (by omega) (by omega) hij hj, ih r _ _ (by omega) (by omega) hij hj]
    rw [if_neg e4]
    by_cases e5 : (ndE l q).kind = 5
    · rw [if_pos e5]
      exact star_iff e5 hp hj (fun a b h1 h2 => ih p a b (by omega) (by omega) h1 h2) _ i (Nat.le_refl _) hij
    rw [if_neg e5]
    by_cases e6 : (ndE l q).kind = 6
    · rw [if_pos e6, can_6 e6 hp hij hj, Bool.or_eq_true, beq_iff_eq, ih p _ _ (by omega) (by omega) hij hj]
    rw [if_neg e6, can_7 (by omega) hp hij hj, ih p _ _ (by omega) (by omega) hij hj]
theorem can_iff (hP : PartsOk l) (q i j : Nat) (hq : q < l.length) (hij : i ≤ j) (hj : j ≤ w.length) : canB l w q i j = true ↔ canP l w q i j :=
  canK_iff hP (q + 1) q i j (Nat.lt_succ_self _) hq hij hj
theorem grow_is (hP : PartsOk l) (q i j : Nat) (hq : q < l.length) (h : canP l w q i j) : GoodF l w (growB l w q i j) :=
  grow_good hP (fun q i j h1 h2 h3 => can_iff hP q i j h1 h2 h3) (q + 1) q i j (Nat.lt_succ_self _) hq h
/-- What LeastAhead says. -/
theorem least_ahead (hr : rightT l = true) :
    (∀ a, leastT l w = some a → treeT l w a = true ∧ ∀ t, treeT l w t = true → aheadT a t ≤ 0) ∧ (leastT l w = none → ∀ t, treeT l w t = false) := by
  have hP := parts_ok l hr
  have h0 : 0 < l.length := (rightT_q l hr).pos
  have hi := can_iff (w := w) hP (l.length - 1) 0 w.length (by omega) (Nat.zero_le _) (Nat.le_refl _)
  constructor
  · intro a h
    unfold leastT at h
    split at h
    · rename_i hc
      cases h
      have hg := grow_is hP (l.length - 1) 0 w.length (by omega) (hi.1 hc)
      refine ⟨(tree_iff l w _).2 ⟨hr, _, hg.1, rfl⟩, fun t ht => ?_⟩
      obtain ⟨_, ks, hk, rfl⟩ := (tree_iff l w t).1 ht
      exact best_ahead (alt_lt l hr) 1 hg.2.2 hg.1 hg.2.1 hk
    · cases h
  · intro h t
    rw [Bool.eq_false_iff]
    intro ht
    obtain ⟨_, ks, hk, _⟩ := (tree_iff l w t).1 ht
    unfold leastT at h
    rw [if_pos (hi.2 ⟨ks, hk⟩)] at h
    cases h
end
end Go.Proofs.YtdpkhliojbeglaaDoor

/- What a node can span as sets of places, plainly: by kinds. Stage 15. -/
namespace Go.Proofs.YtdpkhliojbeglaaDoor
open Go.RowKit BS

theorem bset_ext {a b : BitVec 256} (h : ∀ j, j < 256 → a.getLsbD j = b.getLsbD j) : a = b := BitVec.eq_of_getLsbD_eq h
theorem get_one (x j : Nat) (hj : j < 256) : (one x).getLsbD j = decide (j = x) := by
  unfold one; rw [get_ofFn]; simp [hj]
/-- All sets of some numbers together. -/
def uniL (g : Nat → BitVec 256) (l : List Nat) : BitVec 256 := l.foldl (fun t m => t ||| g m) 0
theorem uniL_snoc (g : Nat → BitVec 256) (l : List Nat) (m : Nat) : uniL g (l ++ [m]) = uniL g l ||| g m := by unfold uniL; rw [List.foldl_append]; rfl
theorem uni_fold (g : Nat → BitVec 256) (j : Nat) : ∀ (l : List Nat) (t : BitVec 256), (l.foldl (fun t m => t ||| g m) t).getLsbD j = (t.getLsbD j || l.any fun m => (g m).getLsbD j)
  | [], t => by simp
  | m :: l, t => by rw [List.foldl_cons, uni_fold g j l, BitVec.getLsbD_or, List.any_cons, Bool.or_assoc]
theorem get_uni (g : Nat → BitVec 256) (l : List Nat) (j : Nat) : (uniL g l).getLsbD j = l.any fun m => (g m).getLsbD j := by
  unfold uniL; rw [uni_fold]; simp
theorem uni_congr {g h : Nat → BitVec 256} {l : List Nat} (e : ∀ m ∈ l, g m = h m) : uniL g l = uniL h l := by
  apply bset_ext
  intro j _
  rw [get_uni, get_uni, Bool.eq_iff_iff, List.any_eq_true, List.any_eq_true]
  exact ⟨fun ⟨m, hm, hj⟩ => ⟨m, hm, e m hm ▸ hj⟩, fun ⟨m, hm, hj⟩ => ⟨m, hm, (e m hm).symm ▸ hj⟩⟩
theorem mem_el (f : Nat → Bool) (k m : Nat) : m ∈ el f k ↔ m < k ∧ f m = true := by
  unfold el; rw [List.mem_filter, List.mem_range]

section
variable (l : List NdN) (w : List Nat)
/-- The places to which a node can span the bytes from i on. -/
def rowS (q i : Nat) : BitVec 256 := ofFn fun j => decide (i ≤ j) && (decide (j ≤ w.length) && canB l w q i j)
end
section
variable {l : List NdN} {w : List Nat}
theorem get_row (q i j : Nat) (hj : j < 256) : (rowS l w q i).getLsbD j = (decide (i ≤ j) && (decide (j ≤ w.length) && canB l w q i j)) := by
  unfold rowS; rw [get_ofFn]; simp [hj]
theorem get_row' (hw : w.length < 256) (q i j : Nat) : (rowS l w q i).getLsbD j = true ↔ i ≤ j ∧ j ≤ w.length ∧ canB l w q i j = true := by
  by_cases hj : j < 256
  · rw [get_row q i j hj]; simp
  · rw [BitVec.getLsbD_of_ge _ _ (by omega)]
    exact ⟨fun h => Bool.noConfusion h, fun h => absurd h.2.1 (by omega)⟩
variable (hP : PartsOk l) (hw : w.length < 256)
include hP hw
theorem row_iff {q i j : Nat} (hq : q < l.length) : (rowS l w q i).getLsbD j = true ↔ i ≤ j ∧ j ≤ w.length ∧ canP l w q i j := by
  rw [get_row' hw]
  exact ⟨fun ⟨a, b, c⟩ => ⟨a, b, (can_iff hP q i j hq a b).1 c⟩, fun ⟨a, b, c⟩ => ⟨a, b, (can_iff hP q i j hq a b).2 c⟩⟩
theorem row_1 {q i : Nat} (hq : q < l.length) (k : (ndE l q).kind = 1) (hi : i ≤ w.length) : rowS l w q i = one i := by
  apply bset_ext; intro j hj
  rw [Bool.eq_iff_iff, row_iff hP hw hq, get_one i j hj, decide_eq_true_iff]
  constructor
  · rintro ⟨a, b, c⟩; exact ((can_1 k a b).1 c).symm
  · rintro rfl; exact ⟨Nat.le_refl _, hi, (can_1 k (Nat.le_refl _) hi).2 rfl⟩
theorem row_2 {q i : Nat} (hq : q < l.length) (k : (ndE l q).kind = 2) : rowS l w q i = if i < w.length ∧ (ndE l q).set.getLsbD (w.getD i 0) = true then one (i + 1) else 0 := by
  apply bset_ext; intro j hj
  rw [Bool.eq_iff_iff, row_iff hP hw hq]
  split
  · rename_i h
    rw [get_one _ j hj, decide_eq_true_iff]
    constructor
    · rintro ⟨a, b, c⟩; exact ((can_2 k a b).1 c).1
    · rintro rfl; exact ⟨by omega, by omega, (can_2 k (by omega) (by omega)).2 ⟨rfl, h.2⟩⟩
  · rename_i h
    constructor
    · rintro ⟨a, b, c⟩
      obtain ⟨e, c⟩ := (can_2 k a b).1 c
      exact absurd ⟨by omega, c⟩ h
    · intro h0; simp at h0
theorem row_3 {q i p r : Nat} (hq : q < l.length) (k : (ndE l q).kind = 3) (hp : (ndE l q).kids = p) (hr : (ndE l q).n = r) (hpl : p < l.length) (hrl : r < l.length) : rowS l w q i = uniL (rowS l w r) (el (rowS l w p i).getLsbD 256) := by
  apply bset_ext; intro j hj
  rw [Bool.eq_iff_iff, row_iff hP hw hq, get_uni, List.any_eq_true]
  constructor
  · rintro ⟨a, b, c⟩
    obtain ⟨m, h1, h2⟩ := (can_3 k hp hr a b).1 c
    have l1 := can_le h1; have l2 := can_le h2
    exact ⟨m, (mem_el _ _ _).2 ⟨by omega, (row_iff hP hw hpl).2 ⟨l1.1, l1.2, h1⟩⟩, (row_iff hP hw hrl).2 ⟨l2.1, l2.2, h2⟩⟩
  · rintro ⟨m, hm, h2⟩
    obtain ⟨_, h1⟩ := (mem_el _ _ _).1 hm
    obtain ⟨a1, b1, c1⟩ := (row_iff hP hw hpl).1 h1
    obtain ⟨a2, b2, c2⟩ := (row_iff hP hw hrl).1 h2
    exact ⟨by omega, b2, (can_3 k hp hr (by omega) b2).2 ⟨m, c1, c2⟩⟩
theorem row_4 {q i p r : Nat} (hq : q < l.length) (k : (ndE l q).kind = 4) (hp : (ndE l q).kids = p) (hr : (ndE l q).n = r) (hpl : p < l.length) (hrl : r < l.length) : rowS l w q i = rowS l w p i ||| rowS l w r i := by
  apply bset_ext; intro j hj
  rw [Bool.eq_iff_iff, row_iff hP hw hq, BitVec.getLsbD_or, Bool.or_eq_true, row_iff hP hw hpl, row_iff hP hw hrl]
  constructor
  · rintro ⟨a, b, c⟩
    rcases (can_4 k hp hr a b).1 c with c | c
    · exact .inl ⟨a, b, c⟩
    · exact .inr ⟨a, b, c⟩
  · rintro (⟨a, b, c⟩ | ⟨a, b, c⟩)
    · exact ⟨a, b, (can_4 k hp hr a b).2 (.inl c)⟩
    · exact ⟨a, b, (can_4 k hp hr a b).2 (.inr c)⟩
theorem row_5 {q i p : Nat} (hq : q < l.length) (k : (ndE l q).kind = 5) (hp : (ndE l q).kids = p) (hpl : p < l.length) (hi : i ≤ w.length) :
    rowS l w q i = uniL (fun m => if m = i then rowS l w p i ||| one i else rowS l w q m) (el (rowS l w p i ||| one i).getLsbD 256) := by
  apply bset_ext; intro j hj
  rw [Bool.eq_iff_iff, row_iff hP hw hq, get_uni, List.any_eq_true]
  have hone : ∀ m, (rowS l w p i ||| one i).getLsbD m = true ↔ m < 256 ∧ ((i ≤ m ∧ m ≤ w.length ∧ canP l w p i m) ∨ m = i) := fun m => by
    rw [BitVec.getLsbD_or, Bool.or_eq_true, row_iff hP hw hpl]
    by_cases hm : m < 256
    · rw [get_one _ m hm, decide_eq_true_iff]; exact ⟨fun h => ⟨hm, h⟩, fun h => h.2⟩
    · rw [BitVec.getLsbD_of_ge _ _ (by omega)]
      exact ⟨fun h => h.elim (fun h => absurd h.2.1 (by omega)) (fun h => Bool.noConfusion h), fun h => absurd h.1 hm⟩
  constructor
  · rintro ⟨a, b, c⟩
    rcases (can_5 k hp a b).1 c with rfl | ⟨m, h1, h2, h3⟩
    · exact ⟨i, (mem_el _ _ _).2 ⟨by omega, (hone i).2 ⟨by omega, .inr rfl⟩⟩, by rw [if_pos rfl]; exact (hone i).2 ⟨by omega, .inr rfl⟩⟩
    · have l2 := can_le h2; have l3 := can_le h3
      refine ⟨m, (mem_el _ _ _).2 ⟨by omega, (hone m).2 ⟨by omega, .inl ⟨l2.1, l2.2, h2⟩⟩⟩, ?_⟩
      rw [if_neg (by omega), row_iff hP hw hq]
      exact ⟨l3.1, l3.2, h3⟩
  · rintro ⟨m, hm, h2⟩
    obtain ⟨hm1, h1⟩ := (mem_el _ _ _).1 hm
    by_cases hmi : m = i
    · rw [if_pos hmi] at h2
      rcases ((hone j).1 h2).2 with ⟨a, b, c⟩ | rfl
      · refine ⟨a, b, (can_5 k hp a b).2 ?_⟩
        by_cases hij : i = j
        · exact .inl hij
        · exact .inr ⟨j, by omega, c, (can_5 k hp (Nat.le_refl _) b).2 (.inl rfl)⟩
      · exact ⟨Nat.le_refl _, hi, (can_5 k hp (Nat.le_refl _) hi).2 (.inl rfl)⟩
    · rw [if_neg hmi] at h2
      obtain ⟨a2, b2, c2⟩ := (row_iff hP hw hq).1 h2
      rcases ((hone m).1 h1).2 with ⟨a, b, c⟩ | e
      · exact ⟨by omega, b2, (can_5 k hp (by omega) b2).2 (.inr ⟨m, by omega, c, c2⟩)⟩
      · exact absurd e hmi
theorem row_6 {q i p : Nat} (hq : q < l.length) (k : (ndE l q).kind = 6) (hp : (ndE l q).kids = p) (hpl : p < l.length) (hi : i ≤ w.length) : rowS l w q i = rowS l w p i ||| one i := by
  apply bset_ext; intro j hj
  rw [Bool.eq_iff_iff, row_iff hP hw hq, BitVec.getLsbD_or, Bool.or_eq_true, row_iff hP hw hpl, get_one _ j hj, decide_eq_true_iff]
  constructor
  · rintro ⟨a, b, c⟩
    rcases (can_6 k hp a b).1 c with rfl | c
    · exact .inr rfl
    · exact .inl ⟨a, b, c⟩
  · rintro (⟨a, b, c⟩ | rfl)
    · exact ⟨a, b, (can_6 k hp a b).2 (.inr c)⟩
    · exact ⟨Nat.le_refl _, hi, (can_6 k hp (Nat.le_refl _) hi).2 (.inl rfl)⟩
theorem row_7 {q i p : Nat} (hq : q < l.length) (k : (ndE l q).kind = 7 ∨ (ndE l q).kind = 8) (hp : (ndE l q).kids = p) (hpl : p < l.length) : rowS l w q i = rowS l w p i := by
  apply bset_ext; intro j hj
  rw [Bool.eq_iff_iff, row_iff hP hw hq, row_iff hP hw hpl]
  exact ⟨fun ⟨a, b, c⟩ => ⟨a, b, (can_7 k hp a b).1 c⟩, fun ⟨a, b, c⟩ => ⟨a, b, (can_7 k hp a b).2 c⟩⟩
end
end Go.Proofs.YtdpkhliojbeglaaDoor

/- What a parse tree's groups span, plainly; TreeWithin's spans. Stage 14. -/
namespace Go.Proofs.YtdpkhliojbeglaaDoor
open Go.RowKit

/-- Groups that span nothing. -/
def offS (o : List (Int × Int)) (g : List Nat) : List (Int × Int) := g.foldl (fun o n => o.set n (-1, -1)) o
/-- One entry more. -/
def spanS (l : List NdN) (o : List (Int × Int)) (x : EnN) : List (Int × Int) :=
  if 0 ≤ x.node ∧ x.node < l.length then
    if (ndE l x.node.toNat).kind = 7 then o.set (ndE l x.node.toNat).m.toNat (x.from_, x.to)
    else if (ndE l x.node.toNat).kind = 8 then offS o (groupsT l x.node) else o
  else o
def spanI (l : List NdN) : List EnN → List (Int × Int)
  | [] => (-1, -1) :: List.replicate (topL l) (-1, -1)
  | x :: _ => (x.from_, x.to) :: List.replicate (topL l) (-1, -1)
def spansT (l : List NdN) (t : List EnN) : List (Int × Int) := if rightT l = true then t.foldl (spanS l) (spanI l t) else []
theorem grp_num (l : List NdN) (hr : rightT l = true) (i : Nat) (hi : i < l.length) (hk : l[i].kind = 7) : ∃ m : Nat, l[i].m = m ∧ 1 ≤ m ∧ m ≤ topL l := by
  obtain ⟨s, hs, hf⟩ := tr_at l hr i hi
  obtain ⟨h7, _⟩ := (fine_go l i s hs hi).1 hf
  unfold kindT at h7
  have h := of_decide_eq_true h7
  obtain ⟨h1, h9⟩ := h.2.2.2.2.1 hk
  refine ⟨l[i].m.toNat, by omega, by omega, (topL_spec l).1 _ (by omega) (by omega) ((hasG_all l _).2 ⟨l[i], List.getElem_mem hi, hk, by omega⟩)⟩
theorem groups_num (l : List NdN) (q : Int) (n : Nat) (h : n ∈ groupsT l q) : 1 ≤ n ∧ n ≤ topL l := by
  unfold groupsT at h
  split at h
  · obtain ⟨h1, h9, hg⟩ := (grpL_mem l _ _ n).1 h
    obtain ⟨i, x, _, _, hx, hk, hm⟩ := (hasG_iff l _ _ n).1 hg
    obtain ⟨hi, rfl⟩ := List.getElem?_eq_some_iff.1 hx
    exact ⟨h1, (topL_spec l).1 n h1 h9 ((hasG_all l n).2 ⟨_, List.getElem_mem hi, hk, hm⟩)⟩
  · cases h
/-- What is told of spans: of the whole, and of each group. -/
def SpOk (l : List NdN) (t : List EnN) (z : Int × Int) (o : List (Int × Int)) : Prop :=
  o.length = topL l + 1 ∧ o[0]? = some z ∧ ∀ g, 1 ≤ g → g < o.length → o[g]? = some (-1, -1) ∨ ∃ x ∈ t, 0 ≤ x.node ∧ x.node < l.length ∧ (ndE l x.node.toNat).kind = 7 ∧ (ndE l x.node.toNat).m = (g : Int) ∧ o[g]? = some (x.from_, x.to)
theorem off_ok (l : List NdN) (t : List EnN) (z : Int × Int) : ∀ (gs : List Nat) (o : List (Int × Int)), (∀ n ∈ gs, 1 ≤ n) → SpOk l t z o → SpOk l t z (offS o gs)
  | [], _, _, h => h
  | n :: gs, o, hn, h => by
    have hn1 := hn n (List.mem_cons_self ..)
    refine off_ok l t z gs (o.set n (-1, -1)) (fun m hm => hn m (List.mem_cons_of_mem _ hm)) ⟨by rw [List.length_set]; exact h.1, by rw [List.getElem?_set_ne (by omega)]; exact h.2.1, fun g hg hl => ?_⟩
    rw [List.length_set] at hl
    by_cases he : n = g
    · subst he
      exact .inl (by rw [List.getElem?_set_self hl])
    · rw [List.getElem?_set_ne he]
      exact h.2.2 g hg hl
theorem span_ok (l : List NdN) (hr : rightT l = true) (t : List EnN) (z : Int × Int) (x : EnN) (hx : x ∈ t) (o : List (Int × Int)) (h : SpOk l t z o) : SpOk l t z (spanS l o x) := by
  unfold spanS
  split
  · rename_i hn
    have hi : x.node.toNat < l.length := by omega
    have hnd : ndE l x.node.toNat = l[x.node.toNat] := by simp [ndE, hi]
    split
    · rename_i h7
      rw [hnd] at h7
      obtain ⟨m, hm, h1, hT⟩ := grp_num l hr _ hi h7
      rw [hnd, hm, Int.toNat_natCast]
      refine ⟨by rw [List.length_set]; exact h.1, by rw [List.getElem?_set_ne (by omega)]; exact h.2.1, fun g hg hl => ?_⟩
      rw [List.length_set] at hl
      by_cases he : m = g
      · subst he
        exact .inr ⟨x, hx, hn.1, hn.2, by rw [hnd]; exact h7, by rw [hnd]; exact hm, by rw [List.getElem?_set_self hl]⟩
      · rw [List.getElem?_set_ne he]
        exact h.2.2 g hg hl
    · split
      · exact off_ok l t z _ o (fun n hn => (groups_num l _ n hn).1) h
      · exact h
  · exact h
theorem spans_run (l : List NdN) (hr : rightT l = true) (t : List EnN) (z : Int × Int) : ∀ (M : List EnN) (o : List (Int × Int)), (∀ x ∈ M, x ∈ t) → SpOk l t z o → SpOk l t z (M.foldl (spanS l) o)
  | [], _, _, h => h
  | x :: M, o, hM, h => spans_run l hr t z M (spanS l o x) (fun y hy => hM y (List.mem_cons_of_mem _ hy)) (span_ok l hr t z x (hM x (List.mem_cons_self ..)) o h)
theorem init_ok (l : List NdN) (t : List EnN) (z : Int × Int) : SpOk l t z (z :: List.replicate (topL l) (-1, -1)) := by
  refine ⟨by simp, rfl, fun g hg hl => .inl ?_⟩
  obtain ⟨g, rfl⟩ : ∃ k, g = k + 1 := ⟨g - 1, by omega⟩
  simp only [List.length_cons, List.length_replicate] at hl
  rw [List.getElem?_cons_succ, List.getElem?_replicate, if_pos (by omega)]
/-- What a parse tree's groups span: the whole, and for each group nothing, or what an entry of it does. -/
theorem spans_tree (l : List NdN) (w : List Nat) (t : List EnN) (h : treeT l w t = true) : SpOk l t (0, (w.length : Int)) (spansT l t) := by
  obtain ⟨hr, ks, hok, ht⟩ := (tree_iff l w t).1 h
  unfold spansT
  rw [if_pos hr]
  refine spans_run l hr t _ t _ (fun _ hx => hx) ?_
  rw [ht]
  exact init_ok l _ _
end Go.Proofs.YtdpkhliojbeglaaDoor

/- Rows of numbers by places, each a row of the call's own; a row of entries. Stage 14. -/
namespace Go.Proofs.YtdpkhliojbeglaaDoor
open Go.RowKit BS

theorem infoI12 : (Tryd.prog.info? 3).map (fun i => (i.zero, i.size, i.bytes)) = some (some (.int .i64 0), 1, 8) := by kernel_rfl
theorem infoE12 : (Tryd.prog.info? 83).map (fun i => (i.zero, i.size, i.bytes)) = some (some (.agg (enI 0 0 0 0)), 4, 32) := by kernel_rfl
theorem infoR12 : (Tryd.prog.info? 54).map (fun i => (i.zero, i.size, i.bytes)) = some (some (.slice none 0 0), 1, 24) := by kernel_rfl
theorem owns_take {W : World} {base : Nat} {e : TypeId} {size n m c : Nat} {a : Option Addr} {xs : List Value} (h : W.ownsRow base e size (.slice a n c) n xs) (hm : m ≤ n) : W.ownsRow base e size (.slice a m c) m (xs.take (m * size)) := by
  obtain ⟨hl, hr⟩ := h
  have hle : m * size ≤ n * size := Nat.mul_le_mul_right _ hm
  refine ⟨by rw [List.length_take, hl]; omega, ?_⟩
  rcases hr with ⟨e1, h0⟩ | ⟨g, cap, cur, e1, hb, hg, hc, hc2, hs, ht⟩
  · obtain rfl : m = 0 := by omega
    subst h0
    cases e1
    exact .inl ⟨rfl, rfl⟩
  · cases e1
    exact .inr ⟨g, c, cur, rfl, hb, hg, by omega, hc2, hs, by rw [← ht, List.take_take, show min (m * size) (n * size) = m * size by omega]⟩
theorem own_fresh {W W' : World} {base : Nat} {e : TypeId} {size n : Nat} {v : Value} {xs : List Value} (h : W.ownsRow base e size v n xs) (hb : Below W.heap.size W W') : W'.ownsRow base e size v n xs :=
  owns_keep h fun g hg => hb.block g (World.ownsRow.lt h g hg).2

/-! ### Numbers -/
def OwI (base : Nat) (v : Value) (L : List Int) (W : World) : Prop := W.ownsRow base 3 1 v L.length (L.map (Value.int .i64))
theorem OwI.nil (W : World) (base : Nat) : OwI base (.slice none 0 0) [] W := World.ownsRow_nil _ _ _ _
theorem OwI.form {base : Nat} {v : Value} {L : List Int} {W : World} (h : OwI base v L W) : ∃ a c, v = .slice a L.length c := owns_form h
theorem OwI.below {base : Nat} {v : Value} {L : List Int} {W W' : World} (h : OwI base v L W) (hb : Below W.heap.size W W') : OwI base v L W' := own_fresh h hb
theorem OwI.keep {base : Nat} {v : Value} {L : List Int} {W W' : World} (h : OwI base v L W) (hb : ∀ g, v.ownBlock = some g → W'.heap[g]? = W.heap[g]?) : OwI base v L W' := owns_keep h hb
theorem OwI.lt {base : Nat} {v : Value} {L : List Int} {W : World} (h : OwI base v L W) {g : Nat} (hg : v.ownBlock = some g) : base ≤ g ∧ g < W.heap.size := World.ownsRow.lt h g hg
theorem OwI.ints {base : Nat} {a : Option Addr} {c : Nat} {L : List Int} {W : World} (h : OwI base (.slice a L.length c) L W) : IntsB base L a W := fun hne => by
  have h0 := h
  rcases h.2 with ⟨_, h1⟩ | ⟨g, c', cur, e, hb, hg, _⟩
  · exact absurd (List.eq_nil_of_length_eq_zero h1) hne
  · have e2 : a = some ⟨g, 0, none⟩ := by cases e; rfl
    subst e2
    refine ⟨g, 0, rfl, hb, (Array.getElem?_eq_some_iff.1 hg).1, fun i hi => ?_⟩
    rw [Nat.zero_add]
    refine (World.ownsRow.cellAt h0 i (by omega)).trans ?_
    rw [List.getElem?_map, List.getElem?_eq_getElem hi]; rfl
/-- One number more. -/
theorem push_int {base : Nat} {v : Value} {L : List Int} {W : World} (h : OwI base v L W) (hb : base ≤ W.heap.size) (hn : L.length ≤ 1000000) (z : Int) (ty : TypeId) :
    ∃ g cap W2, (Builtin.append_ #[54, 54] ty #[v, .slice (some ⟨W.heap.size, 0, none⟩) 1 1]).run Tryd.prog (W.alloc (.cells #[.int .i64 z] 3)) = .ok (.slice (some ⟨g, 0, none⟩) (L.length + 1) cap) W2 ∧
      OwI base (.slice (some ⟨g, 0, none⟩) (L.length + 1) cap) (L ++ [z]) W2 ∧ (W.alloc (.cells #[.int .i64 z] 3)).grownBy W2 v.ownBlock ∧ (v.ownBlock = some g ∨ g = W.heap.size + 1) ∧ g < W2.heap.size := by
  obtain ⟨i0, hinf, hzz⟩ := Option.map_eq_some_iff.1 infoI12
  simp only [Prod.mk.injEq] at hzz
  obtain ⟨hz0, hz1, hz2⟩ := hzz
  have h1 : (W.alloc (.cells #[.int .i64 z] 3)).ownsRow base 3 1 v L.length (L.map (Value.int .i64)) := own_fresh h ((Below.refl _ _).alloc (Nat.le_refl _) _)
  obtain ⟨g, cap, W2, hr, h2, h3, h4, h5⟩ := run_append_lies (P := Tryd.prog) (W.alloc (.cells #[.int .i64 z] 3)) 54 ty base 3 i0 (.int .i64 0) 1 8 Tryd.underlying54 hinf hz0 hz1 hz2 rfl (by decide) v L.length _ h1 ⟨W.heap.size, 0, none⟩ 1 1 [.int .i64 z] rfl (Blk.new W _ _).newsL (by simp [Value.oneCell']) (by decide) (by unfold maxLen; omega) (by omega) (by rw [World.size_alloc]; omega) (W.heap.size + 1) (World.size_alloc ..)
  exact ⟨g, cap, W2, hr, by unfold OwI; rw [List.length_append, List.map_append]; exact h2, h3, h4, h5⟩

/-! ### Entries -/
def enCells (l : List EnN) : List Value := l.flatMap fun x => (enA x).toList
theorem enCells_app (l m : List EnN) : enCells (l ++ m) = enCells l ++ enCells m := by simp [enCells]
theorem enCells_len (l : List EnN) : (enCells l).length = l.length * 4 := by
  induction l with
  | nil => rfl
  | cons x l ih =>
    have e : enCells (x :: l) = (enA x).toList ++ enCells l := by simp [enCells]
    rw [e, List.length_append, ih, List.length_cons, show (enA x).toList.length = 4 from rfl]
    omega
theorem enCells_get : ∀ (l : List EnN) (i j : Nat) (h : i < l.length) (_hj : j < 4), (enCells l)[i * 4 + j]? = (enA l[i])[j]?
  | [], _, _, h, _ => absurd h (by simp)
  | x :: l, i, j, h, hj => by
    have e : enCells (x :: l) = (enA x).toList ++ enCells l := by simp [enCells]
    rw [e]
    cases i with
    | zero =>
      rw [List.getElem?_append_left (by rw [show (enA x).toList.length = 4 from rfl]; omega), Nat.zero_mul, Nat.zero_add]
      simp
    | succ i =>
      rw [List.getElem?_append_right (by rw [show (enA x).toList.length = 4 from rfl]; omega), show (enA x).toList.length = 4 from rfl, show (i + 1) * 4 + j - 4 = i * 4 + j by omega]
      exact enCells_get l i j (by simpa using h) hj
theorem enCells_take (l : List EnN) (m : Nat) (_h : m ≤ l.length) : (enCells l).take (m * 4) = enCells (l.take m) := by
  have h := enCells_app (l.take m) (l.drop m)
  rw [List.take_append_drop] at h
  rw [h, List.take_append_of_le_length (by rw [enCells_len, List.length_take]; omega), List.take_of_length_le (by rw [enCells_len, List.length_take]; omega)]
def OwE (base : Nat) (v : Value) (L : List EnN) (W : World) : Prop := W.ownsRow base 83 4 v L.length (enCells L)
theorem OwE.nil (W : World) (base : Nat) : OwE base (.slice none 0 0) [] W := World.ownsRow_nil _ _ _ _
theorem OwE.form {base : Nat} {v : Value} {L : List EnN} {W : World} (h : OwE base v L W) : ∃ a c, v = .slice a L.length c := owns_form h
theorem OwE.below {base : Nat} {v : Value} {L : List EnN} {W W' : World} (h : OwE base v L W) (hb : Below W.heap.size W W') : OwE base v L W' := own_fresh h hb
theorem OwE.keep {base : Nat} {v : Value} {L : List EnN} {W W' : World} (h : OwE base v L W) (hb : ∀ g, v.ownBlock = some g → W'.heap[g]? = W.heap[g]?) : OwE base v L W' := owns_keep h hb
theorem OwE.lt {base : Nat} {v : Value} {L : List EnN} {W : World} (h : OwE base v L W) {g : Nat} (hg : v.ownBlock = some g) : base ≤ g ∧ g < W.heap.size := World.ownsRow.lt h g hg
theorem OwE.take {base : Nat} {a : Option Addr} {c n : Nat} {L : List EnN} {W : World} (h : OwE base (.slice a n c) L W) (hn : n = L.length) (m : Nat) (hm : m ≤ L.length) : OwE base (.slice a m c) (L.take m) W := by
  subst hn
  have h2 := owns_take h hm
  rw [enCells_take L m hm] at h2
  unfold OwE
  rw [List.length_take, Nat.min_eq_left hm]
  exact h2
theorem OwE.ents {base : Nat} {a : Option Addr} {c n : Nat} {L : List EnN} {W : World} (h : OwE base (.slice a n c) L W) : EntsAt L a W := fun hne => by
  have h0 := h
  rcases h.2 with ⟨_, h1⟩ | ⟨g, c', cur, e, hb, hg, _⟩
  · exact absurd (List.eq_nil_of_length_eq_zero h1) hne
  · have e2 : a = some ⟨g, 0, none⟩ := by cases e; rfl
    have hn : n = L.length := by cases e; rfl
    subst e2 hn
    refine ⟨g, 0, rfl, (Array.getElem?_eq_some_iff.1 hg).1, fun i hi j hj => ?_⟩
    rw [Nat.zero_add]
    refine (World.ownsRow.cellAt h0 (i * 4 + j) (by omega)).trans ?_
    exact enCells_get L i j hi hj
/-- The place of a row that is not empty. -/
theorem OwE.blk {base : Nat} {v : Value} {L : List EnN} {W : World} (h : OwE base v L W) (hne : L ≠ []) : ∃ g c, v = .slice (some ⟨g, 0, none⟩) L.length c ∧ base ≤ g ∧ g < W.heap.size ∧ L.length ≤ c := by
  rcases h.2 with ⟨_, h1⟩ | ⟨g, c', cur, e, hb, hg, hc, _⟩
  · exact absurd (List.eq_nil_of_length_eq_zero h1) hne
  · exact ⟨g, c', e, hb, (Array.getElem?_eq_some_iff.1 hg).1, hc⟩
theorem OwE.cap {base : Nat} {a : Option Addr} {c n : Nat} {L : List EnN} {W : World} (h : OwE base (.slice a n c) L W) : n ≤ c := by
  rcases h.2 with ⟨e, h1⟩ | ⟨g, c', cur, e, hb, hg, hc, _⟩
  · cases e; exact Nat.le_refl _
  · cases e; exact hc
/-- One entry more. -/
theorem push_ent {base : Nat} {v : Value} {L : List EnN} {W : World} (h : OwE base v L W) (hb : base ≤ W.heap.size) (hn : L.length ≤ 1000000) (d n f e : Int) (ty : TypeId) :
    ∃ g cap W2, (Builtin.append_ #[31, 31] ty #[v, .slice (some ⟨W.heap.size, 0, none⟩) 1 1]).run Tryd.prog (W.alloc (.cells (enI d n f e) 83)) = .ok (.slice (some ⟨g, 0, none⟩) (L.length + 1) cap) W2 ∧
      OwE base (.slice (some ⟨g, 0, none⟩) (L.length + 1) cap) (L ++ [⟨d, n, f, e⟩]) W2 ∧ (W.alloc (.cells (enI d n f e) 83)).grownBy W2 v.ownBlock ∧ (v.ownBlock = some g ∨ g = W.heap.size + 1) ∧ g < W2.heap.size := by
  obtain ⟨i0, hinf, hzz⟩ := Option.map_eq_some_iff.1 infoE12
  simp only [Prod.mk.injEq] at hzz
  obtain ⟨hz0, hz1, hz2⟩ := hzz
  have h1 : (W.alloc (.cells (enI d n f e) 83)).ownsRow base 83 4 v L.length (enCells L) := own_fresh h ((Below.refl _ _).alloc (Nat.le_refl _) _)
  obtain ⟨g, cap, W2, hr, h2, h3, h4, h5⟩ := run_append_lies (P := Tryd.prog) (W.alloc (.cells (enI d n f e) 83)) 31 ty base 83 i0 (.agg (enI 0 0 0 0)) 4 32 Tryd.underlying31 hinf hz0 hz1 hz2 rfl (by decide) v L.length _ h1 ⟨W.heap.size, 0, none⟩ 1 1 [.int .i64 d, .int .i64 n, .int .i64 f, .int .i64 e] rfl (Blk.new W _ _).newsL (by simp [Value.oneCell']) (by decide) (by unfold maxLen; omega) (by omega) (by rw [World.size_alloc]; omega) (W.heap.size + 1) (World.size_alloc ..)
  exact ⟨g, cap, W2, hr, by unfold OwE; rw [List.length_append, enCells_app]; exact h2, h3, h4, h5⟩

/-! ### Rows by places -/
structure RowsI (base n T : Nat) (S : Nat → Prop) (fL : Nat → List Int) (W : World) : Prop where
  tab : ∃ vs : Array Value, vs.size = n ∧ Blk W T vs 54 ∧
    (∀ x, x < n → ∃ v, vs[x]? = some v ∧ OwI base v (fL x) W ∧ ∀ g, v.ownBlock = some g → S g ∧ g ≠ T) ∧
    (∀ (x y : Nat) (v u : Value) (g : Nat), x ≠ y → vs[x]? = some v → vs[y]? = some u → v.ownBlock = some g → u.ownBlock ≠ some g)
  lt : ∀ g, S g → g < W.heap.size
  has : S T
  lo : base ≤ T
section
variable {base n T : Nat} {S : Nat → Prop} {fL : Nat → List Int} {W W' : World}
theorem RowsI.tl (h : RowsI base n T S fL W) : T < W.heap.size := h.lt T h.has
theorem RowsI.kp {A : Nat → Prop} (h : RowsI base n T S fL W) (k : KpA A W W') (hA : ∀ g, S g → ¬ A g) : RowsI base n T S fL W' := by
  obtain ⟨vs, h1, h2, h3, h4⟩ := h.tab
  exact ⟨⟨vs, h1, h2.kpA k (hA T h.has), fun x hx => by
    obtain ⟨v, e, ho, hs⟩ := h3 x hx
    exact ⟨v, e, ho.keep (fun g hg => k.block g (h.lt g (hs g hg).1) (hA g (hs g hg).1)), hs⟩, h4⟩, fun g hg => Nat.lt_of_lt_of_le (h.lt g hg) k.size, h.has, h.lo⟩
theorem RowsI.below (h : RowsI base n T S fL W) (hb : Below W.heap.size W W') : RowsI base n T S fL W' :=
  h.kp (A := fun _ => False) ((KpA.refl _ W).below hb) (fun _ _ h => h)
theorem RowsI.cell (h : RowsI base n T S fL W) (x : Nat) (hx : x < n) : ∃ a c, W.cell? ⟨T, x, none⟩ = some (.slice a (fL x).length c) ∧ OwI base (.slice a (fL x).length c) (fL x) W ∧ ∀ g, (Value.slice a (fL x).length c).ownBlock = some g → S g ∧ g ≠ T := by
  obtain ⟨vs, h1, h2, h3, h4⟩ := h.tab
  obtain ⟨v, e, ho, hs⟩ := h3 x hx
  obtain ⟨a, c, rfl⟩ := ho.form
  exact ⟨a, c, (h2.cell x).trans e, ho, hs⟩
theorem RowsI.fr (h : RowsI base n T S fL W) (x : Nat) : W.frozen? ⟨T, x, none⟩ = false := by
  obtain ⟨vs, h1, h2, h3, h4⟩ := h.tab
  exact h2.frozen x
/-- New rows, all of them empty. -/
theorem RowsI.new (W : World) (n base : Nat) (hb : base ≤ W.heap.size) : RowsI base n W.heap.size (fun g => g = W.heap.size) (fun _ => []) (W.alloc (.cells (madeCells #[.slice none 0 0] n) 54)) := by
  have hget : ∀ x, x < n → (madeCells #[Value.slice none 0 0] n)[x]? = some (.slice none 0 0) := fun x hx => by
    unfold madeCells
    rw [Array.getElem?_map, Array.getElem?_range, if_pos hx]
    have e : x % 1 = 0 := Nat.mod_one x
    show some ((#[Value.slice none 0 0])[x % 1]!) = _
    rw [e]; rfl
  have hsz : (madeCells #[Value.slice none 0 0] n).size = n := size_madeCells _ _
  refine ⟨⟨_, hsz, Blk.new W _ _, fun x hx => ⟨_, hget x hx, OwI.nil _ _, fun g hg => by cases hg⟩, fun x y v u g _ hv _ hg => ?_⟩, fun g hg => by subst hg; rw [World.size_alloc]; omega, rfl, hb⟩
  have hx : x < n := by have := (Array.getElem?_eq_some_iff.1 hv).1; omega
  rw [hget x hx] at hv
  cases hv
  cases hg
/-- The world of one number more in a row: what the steps of it come to. -/
theorem RowsI.push (h : RowsI base n T S fL W) (x : Nat) (hx : x < n) (hlen : (fL x).length ≤ 1000000) (z : Int) (ty : TypeId) :
    ∃ a c g cap W2, W.cell? ⟨T, x, none⟩ = some (.slice a (fL x).length c) ∧
      (Builtin.append_ #[54, 54] ty #[.slice a (fL x).length c, .slice (some ⟨W.heap.size, 0, none⟩) 1 1]).run Tryd.prog (W.alloc (.cells #[.int .i64 z] 3)) = .ok (.slice (some ⟨g, 0, none⟩) ((fL x).length + 1) cap) W2 ∧
      KpA (fun k => (Value.slice a (fL x).length c).ownBlock = some k) W W2 ∧ KpA (fun k => (Value.slice a (fL x).length c).ownBlock = some k) W (W.alloc (.cells #[.int .i64 z] 3)) ∧
      (∀ k, (Value.slice a (fL x).length c).ownBlock = some k → S k ∧ k ≠ T) ∧ W2.frozen? ⟨T, x, none⟩ = false ∧
      RowsI base n T (fun k => S k ∨ (W.heap.size ≤ k ∧ k < W2.heap.size)) (fun y => if y = x then fL x ++ [z] else fL y) (W2.setCell ⟨T, x, none⟩ (.slice (some ⟨g, 0, none⟩) ((fL x).length + 1) cap)) ∧
      KpA S W (W2.setCell ⟨T, x, none⟩ (.slice (some ⟨g, 0, none⟩) ((fL x).length + 1) cap)) := by
  obtain ⟨vs, h1, h2, h3, h4⟩ := h.tab
  obtain ⟨v, e, ho, hs⟩ := h3 x hx
  obtain ⟨a, c, rfl⟩ := ho.form
  obtain ⟨g, cap, W2, hr, ho2, hgr, hat, hgl⟩ := push_int ho (Nat.le_trans h.lo (Nat.le_of_lt h.tl)) hlen z ty
  have hk1 : KpA (fun k => (Value.slice a (fL x).length c).ownBlock = some k) W (W.alloc (.cells #[.int .i64 z] 3)) := (KpA.refl _ W).alloc _
  have hk : KpA (fun k => (Value.slice a (fL x).length c).ownBlock = some k) W W2 := hk1.grown hgr (fun k hk => .inl hk)
  have hT2 := h2.kpA hk (fun hh => (hs T hh).2 rfl)
  have hgT : g ≠ T := by
    rcases hat with hat | hat
    · exact (hs g hat).2
    · have := h.tl; omega
  have hgN : S g ∨ (W.heap.size ≤ g ∧ g < W2.heap.size) := by
    rcases hat with hat | hat
    · exact .inl (hs g hat).1
    · exact .inr ⟨by omega, hgl⟩
  have hsz2 : (W2.setCell ⟨T, x, none⟩ (.slice (some ⟨g, 0, none⟩) ((fL x).length + 1) cap)).heap.size = W2.heap.size := by simp
  have hset : ∀ k, k ≠ T → (W2.setCell ⟨T, x, none⟩ (.slice (some ⟨g, 0, none⟩) ((fL x).length + 1) cap)).heap[k]? = W2.heap[k]? := fun k hk => Below.heap_setCell W2 ⟨T, x, none⟩ _ k hk
  have hmine : ∀ y v' k, y ≠ x → vs[y]? = some v' → v'.ownBlock = some k → k ≠ g := fun y v' k hy hv hk' he => by
    subst he
    rcases hat with hat | hat
    · exact h4 x y _ v' k (Ne.symm hy) e hv hat hk'
    · have hy2 : y < n := by have := (Array.getElem?_eq_some_iff.1 hv).1; omega
      obtain ⟨v2, e2, ho3, hs3⟩ := h3 y hy2
      rw [hv] at e2
      cases e2
      have := h.lt k (hs3 k hk').1
      omega
  refine ⟨a, c, g, cap, W2, (h2.cell x).trans e, hr, hk, hk1, hs, hT2.frozen x, ⟨⟨vs.setIfInBounds x (.slice (some ⟨g, 0, none⟩) ((fL x).length + 1) cap), by simp [h1], hT2.set x _, fun y hy => ?_, fun y1 y2 v1 v2 k hne hv1 hv2 hk1 => ?_⟩, fun k hk' => ?_, .inl h.has, h.lo⟩, ?_⟩
  · by_cases hyx : y = x
    · subst hyx
      refine ⟨_, by rw [Array.getElem?_setIfInBounds_self_of_lt (by omega)], ?_, ?_⟩
      · simp only [if_true]
        exact ho2.keep (fun k hk' => by cases hk'; exact hset g hgT)
      · intro k hk'
        cases hk'
        exact ⟨hgN, hgT⟩
    · obtain ⟨v', e', ho', hs'⟩ := h3 y hy
      refine ⟨v', by rw [Array.getElem?_setIfInBounds_ne (Ne.symm hyx)]; exact e', ?_, fun k hk' => ⟨.inl (hs' k hk').1, (hs' k hk').2⟩⟩
      simp only [if_neg hyx]
      refine ho'.keep (fun k hk' => (hset k (hs' k hk').2).trans (hk.block k (h.lt k (hs' k hk').1) (fun h9 => ?_)))
      exact h4 x y _ v' k (Ne.symm hyx) e e' h9 hk'
  · by_cases hy1 : y1 = x
    · subst hy1
      rw [Array.getElem?_setIfInBounds_self_of_lt (by omega)] at hv1
      rw [Array.getElem?_setIfInBounds_ne hne] at hv2
      cases hv1
      cases hk1
      intro hk2
      exact hmine y2 v2 g (Ne.symm hne) hv2 hk2 rfl
    · rw [Array.getElem?_setIfInBounds_ne (Ne.symm hy1)] at hv1
      by_cases hy2 : y2 = x
      · subst hy2
        rw [Array.getElem?_setIfInBounds_self_of_lt (by omega)] at hv2
        cases hv2
        intro hk2
        cases hk2
        exact hmine y1 v1 g hy1 hv1 hk1 rfl
      · rw [Array.getElem?_setIfInBounds_ne (Ne.symm hy2)] at hv2
        exact h4 y1 y2 v1 v2 k hne hv1 hv2 hk1
  · rw [hsz2]
    rcases hk' with hk' | hk'
    · exact Nat.lt_of_lt_of_le (h.lt k hk') hk.size
    · exact hk'.2
  · exact (hk.mono (fun k hk' => (hs k hk').1)).set (.inl h.has) x _
theorem RowsI.congr {fL' : Nat → List Int} (h : RowsI base n T S fL W) (he : ∀ x, x < n → fL x = fL' x) : RowsI base n T S fL' W := by
  obtain ⟨vs, h1, h2, h3, h4⟩ := h.tab
  exact ⟨⟨vs, h1, h2, fun x hx => by rw [← he x hx]; exact h3 x hx, h4⟩, h.lt, h.has, h.lo⟩
/-- Rows of numbers, as they are told. -/
def RowsAt (L : List (List Int)) (a : Option Addr) (W : World) : Prop :=
  L ≠ [] → ∃ g off, a = some ⟨g, off, none⟩ ∧ g < W.heap.size ∧ ∀ i (h : i < L.length), ∃ b c, W.cell? ⟨g, off + i, none⟩ = some (.slice b L[i].length c) ∧ IntsO L[i] b W
theorem RowsAt.below {L : List (List Int)} {a : Option Addr} (h : RowsAt L a W) (hb : Below W.heap.size W W') : RowsAt L a W' := fun hne => by
  obtain ⟨g, off, e, hg, hc⟩ := h hne
  exact ⟨g, off, e, Nat.lt_of_lt_of_le hg hb.size, fun i hi => by
    obtain ⟨b, c, h1, h2⟩ := hc i hi
    exact ⟨b, c, (hb.cell (p := ⟨g, off + i, none⟩) hg).trans h1, h2.below hb⟩⟩
theorem RowsI.at (h : RowsI base n T S fL W) : RowsAt ((List.range n).map fL) (some ⟨T, 0, none⟩) W := fun _ => ⟨T, 0, rfl, h.tl, fun i hi => by
  have hi2 : i < n := by simpa using hi
  obtain ⟨a, c, h1, h2, _⟩ := h.cell i hi2
  have e : ((List.range n).map fL)[i] = fL i := by simp
  rw [e, Nat.zero_add]
  exact ⟨a, c, h1, h2.ints.o⟩⟩
end
end Go.Proofs.YtdpkhliojbeglaaDoor

/- The developers' chart: its rows in memory; known, root. Stage 15. -/
namespace Go.Proofs.YtdpkhliojbeglaaDoor
open Go.RowKit BS

/-- A row's sets in one block: node by node, place by place. -/
def RowD (L B : Nat) (f : Nat → Nat → BitVec 256) (W : World) : Prop :=
  ∃ vs : Array Value, vs.size = L * 260 ∧ Blk W B vs 102 ∧ ∀ q i k, q < L → i < 65 → k < 4 → vs[q * 260 + i * 4 + k]? = some (.int .u64 (wd (f q i) k : Nat))
theorem RowD.lt {L B : Nat} {f : Nat → Nat → BitVec 256} {W : World} (h : RowD L B f W) : B < W.heap.size := by
  obtain ⟨_, _, h, _⟩ := h; exact h.lt
theorem RowD.keep {L B : Nat} {f : Nat → Nat → BitVec 256} {W W' : World} (h : RowD L B f W) (hb : W'.heap[B]? = W.heap[B]?) : RowD L B f W' := by
  obtain ⟨vs, h1, h2, h3⟩ := h; exact ⟨vs, h1, hb.trans h2, h3⟩
theorem RowD.below {L B : Nat} {f : Nat → Nat → BitVec 256} {W W' : World} (h : RowD L B f W) (hb : Below W.heap.size W W') : RowD L B f W' := h.keep (hb.block B h.lt)
theorem RowD.congr {L B : Nat} {f g : Nat → Nat → BitVec 256} {W : World} (h : RowD L B f W) (e : ∀ q i, q < L → i < 65 → f q i = g q i) : RowD L B g W := by
  obtain ⟨vs, h1, h2, h3⟩ := h
  exact ⟨vs, h1, h2, fun q i k hq hi hk => by rw [← e q i hq hi]; exact h3 q i k hq hi hk⟩
theorem RowD.cell {L B : Nat} {f : Nat → Nat → BitVec 256} {W : World} (h : RowD L B f W) (q i k : Nat) (hq : q < L) (hi : i < 65) (hk : k < 4) : W.cell? ⟨B, q * 260 + i * 4 + k, none⟩ = some (.int .u64 (wd (f q i) k : Nat)) := by
  obtain ⟨vs, h1, h2, h3⟩ := h; exact (h2.cell _).trans (h3 q i k hq hi hk)
theorem RowD.frozen {L B : Nat} {f : Nat → Nat → BitVec 256} {W : World} (h : RowD L B f W) (x : Nat) : W.frozen? ⟨B, x, none⟩ = false := by
  obtain ⟨vs, h1, h2, h3⟩ := h; exact h2.frozen x
def setL4 (s : BitVec 256) : List Value := [.int .u64 (wd s 0), .int .u64 (wd s 1), .int .u64 (wd s 2), .int .u64 (wd s 3)]
theorem setL4_get (s : BitVec 256) (k : Nat) (hk : k < 4) : (setL4 s)[k]? = some (.int .u64 (wd s k : Nat)) := by
  have h : k = 0 ∨ k = 1 ∨ k = 2 ∨ k = 3 := by omega
  rcases h with rfl | rfl | rfl | rfl <;> rfl
theorem RowD.rangeAt {L B : Nat} {f : Nat → Nat → BitVec 256} {W : World} (h : RowD L B f W) (q i : Nat) (hq : q < L) (hi : i < 65) : W.rangeAt B (q * 260 + i * 4) (setL4 (f q i)) := by
  obtain ⟨vs, h1, h2, h3⟩ := h
  refine h2.rangeAt _ _ fun j v hv => ?_
  have hj : j < 4 := (List.getElem?_eq_some_iff.1 hv).1
  rw [h3 q i j hq hi hj]
  rw [setL4_get _ j hj] at hv; exact hv
theorem RowD.there {L B : Nat} {f : Nat → Nat → BitVec 256} {W : World} (h : RowD L B f W) (q i : Nat) (hq : q < L) (hi : i < 65) : W.there B (q * 260 + i * 4) 4 := by
  obtain ⟨vs, h1, h2, h3⟩ := h
  exact h2.there _ _ (by omega)
/-- One set changed. -/
def updR (f : Nat → Nat → BitVec 256) (q i : Nat) (s : BitVec 256) : Nat → Nat → BitVec 256 := fun q' i' => if q' = q ∧ i' = i then s else f q' i'
theorem RowD.set {L B : Nat} {f : Nat → Nat → BitVec 256} {W : World} (h : RowD L B f W) (q i : Nat) (s : BitVec 256) (hq : q < L) (hi : i < 65) : RowD L B (updR f q i s) (W.setCells B (q * 260 + i * 4) (setL4 s)) := by
  obtain ⟨vs, h1, h2, h3⟩ := h
  refine ⟨_, by rw [setL_size]; exact h1, h2.setCells (setL4 s) _, fun q' i' k hq' hi' hk => ?_⟩
  have hl4 : (setL4 s).length = 4 := rfl
  rw [setL_get _ _ _ _ (by rw [hl4]; omega), hl4]
  unfold updR
  by_cases e : q' = q ∧ i' = i
  · obtain ⟨rfl, rfl⟩ := e
    rw [if_pos (by omega), if_pos ⟨rfl, rfl⟩, show q' * 260 + i' * 4 + k - (q' * 260 + i' * 4) = k by omega]
    exact setL4_get s k hk
  · rw [if_neg (by omega), if_neg e]
    exact h3 q' i' k hq' hi' hk
/-- New rows. -/
theorem RowD.new (W : World) (L : Nat) (Z : Array Value) (hZ : Z.size = 260) (hz : ∀ x, x < 260 → Z[x]! = .int .u64 0) : RowD L W.heap.size (fun _ _ => 0) (W.alloc (.cells (madeCells Z (L * 260)) 102)) := by
  refine ⟨_, size_madeCells _ _, Blk.new W _ _, fun q i k hq hi hk => ?_⟩
  unfold madeCells
  rw [Array.getElem?_map, Array.getElem?_range, if_pos (by omega)]
  show some (Z[(q * 260 + i * 4 + k) % Z.size]!) = _
  rw [hZ, hz _ (Nat.mod_lt _ (by decide))]
  have e4 : wd 0 k = 0 := by simp [wd]
  rw [e4]; rfl
/-- The chart as a value. -/
@[reducible] def chA (L n B lc wc : Nat) (la wa : Option Addr) : Array Value := #[.slice la L lc, .slice wa n wc, .slice (some ⟨B, 0, none⟩) L L]
theorem ends_slice (b o n : Nat) (hn : n ≤ 64) (x : Int) (hx : x = (n : Int) + 1) (w : World) : (Instr.sliceAt 102 (.pointer (some ⟨b, o, none⟩)) none (some (.int .i64 x)) none).run Tryd.prog w = .ok (.slice (some ⟨b, o, none⟩) (n + 1) 65) w := by
  subst hx
  have ht : Tryd.prog.underlying 102 = some (.array (Tryd.prog.arrayLen 102) (Tryd.prog.elem 102)) := by kernel_rfl
  have hl : Tryd.prog.arrayLen 102 = 65 := by kernel_rfl
  have hsz : ∀ w, (sizeOf (Tryd.prog.elem 102)).run Tryd.prog w = .ok 4 w := fun w => by kernel_rfl
  rw [run_sliceAt_array_h (w := w) (t := 102) (ht := ht) (kh := .i64) (h := (n : Int) + 1) (h0 := by omega) (h2 := by rw [hl]; omega)]
  simp [slicedAt, hsz, hl, Result.andThen, Addr.add]
set_option maxRecDepth 100000 in
set_option maxHeartbeats 4000000 in
theorem known_calls (L n B lc wc q : Nat) (la wa : Option Addr) (hn : n ≤ 64) (hq : q < L) (W : World) :
    Calls Tryd.prog 58 #[.agg (chA L n B lc wc la wa), .int .i64 (q : Nat)] W fun e W' => e = .returned (.slice (some ⟨B, q * 260, none⟩) (n + 1) 65) ∧ Below W.heap.size W W' := by
  have b0 := Blk.new W (chA L n B lc wc la wa) 64
  have hB : Below W.heap.size W (W.alloc (.cells (chA L n B lc wc la wa) 64)) := by go_grown
  have xn : IntKind.i64.wrap ((n : Int) + 1) = (n : Int) + 1 := IntWalk.i64_in _ (by omega)
  have hsl := fun w => ends_slice B (q * 260) n hn _ rfl w
  go_enter Tryd.func58, Tryd.ntmps58
  go_upto_region 1 with fail
  generalize W.alloc (.cells (chA L n B lc wc la wa) 64) = w1 at *
  have c1 := b0.cell 1; have c2 := b0.cell 2
  simp only [chA, List.getElem?_toArray, List.getElem?_cons_zero, List.getElem?_cons_succ] at c1 c2
  clear b0
  go_quiet (fail)
  go_wp2_with fail
  go_ret
  exact ⟨rfl, below_drN hB _⟩
set_option maxRecDepth 100000 in
set_option maxHeartbeats 4000000 in
theorem root_calls (L n B lc wc : Nat) (la wa : Option Addr) (hL : L ≤ 1000) (W : World) :
    Calls Tryd.prog 30 #[.agg (chA L n B lc wc la wa)] W fun e W' => e = .returned (.int .i64 ((L : Int) - 1)) ∧ Below W.heap.size W W' := by
  have b0 := Blk.new W (chA L n B lc wc la wa) 64
  have hB : Below W.heap.size W (W.alloc (.cells (chA L n B lc wc la wa) 64)) := by go_grown
  have xn : IntKind.i64.wrap ((L : Int) - 1) = (L : Int) - 1 := IntWalk.i64_in _ (by omega)
  go_enter Tryd.func30, Tryd.ntmps30
  go_upto_region 1 with fail
  generalize W.alloc (.cells (chA L n B lc wc la wa) 64) = w1 at *
  have c0 := b0.cell 0
  simp only [chA, List.getElem?_toArray, List.getElem?_cons_zero] at c0
  clear b0
  go_wp2_with fail
  go_ret
  exact ⟨rfl, hB⟩
set_option maxRecDepth 100000 in
set_option maxHeartbeats 4000000 in
theorem canC_calls (L n B lc wc q i j : Nat) (la wa : Option Addr) (f : Nat → Nat → BitVec 256) (hq : q < L) (hi : i < 65) (hj : j < 65) (W : World) (hR : RowD L B f W) :
    Calls Tryd.prog 29 #[.agg (chA L n B lc wc la wa), .int .i64 (q : Nat), .int .i64 (i : Nat), .int .i64 (j : Nat)] W fun e W' => e = .returned (.bool ((f q i).getLsbD j)) ∧ Below W.heap.size W W' := by
  have b0 := Blk.new W (chA L n B lc wc la wa) 64
  have hB : Below W.heap.size W (W.alloc (.cells (chA L n B lc wc la wa) 64)) := by go_grown
  have hR1 := hR.below hB
  have d0 := hR1.cell q i 0 hq hi (by decide); have d1 := hR1.cell q i 1 hq hi (by decide); have d2 := hR1.cell q i 2 hq hi (by decide); have d3 := hR1.cell q i 3 hq hi (by decide)
  have hHas := fun w => has_calls (f q i) (j : Int) w (by omega) (by omega)
  have HH := Lib.hid hHas
  clear hHas hR1
  have xj : IntKind.u8.wrap (j : Int) = (j : Int) := by rw [IntKind.wrap_u8]; omega
  rw [Nat.add_zero] at d0
  go_enter Tryd.func29, Tryd.ntmps29
  go_upto_region 1 with fail
  generalize W.alloc (.cells (chA L n B lc wc la wa) 64) = w1 at *
  have c2 := b0.cell 2
  simp only [chA, List.getElem?_toArray, List.getElem?_cons_zero, List.getElem?_cons_succ] at c2
  clear b0
  go_wp2_with (go_at_call 50; refine (HH.out _).mono ?_; rintro e w2 ⟨rfl, hb2⟩)
  go_ret
  exact ⟨rfl, hB.trans (hb2.mono hB.size)⟩
end Go.Proofs.YtdpkhliojbeglaaDoor

/- The developers' stay, step, or. Stage 15. -/
namespace Go.Proofs.YtdpkhliojbeglaaDoor
open Go.RowKit BS

theorem with1_calls (s : BitVec 256) (x : Nat) (hx : x < 256) (g : Nat) (W : World) (hg : g < W.heap.size) (hc : W.cell? ⟨g, 0, none⟩ = some (.int .u8 (x : Nat))) :
    Calls Tryd.prog 91 #[setV s, .slice (some ⟨g, 0, none⟩) 1 1] W fun e W' => e = .returned (setV (s ||| one x)) ∧ Below W.heap.size W W' := by
  have h := callsIn_wide.1 (with_in 3 (by omega) s (.slice (some ⟨g, 0, none⟩) 1 1) (some ⟨g, 0, none⟩) 1 1 rfl [⟨x, hx⟩] (by simp) W ⟨some ⟨g, 0, none⟩, 1, rfl, fun _ => ⟨g, 0, rfl, hg, fun j hj => by
    have h0 : j = 0 := by simpa using hj
    subst h0; exact hc⟩⟩)
  exact h
def putR (f : Nat → Nat → BitVec 256) (q k : Nat) (g : Nat → BitVec 256) : Nat → Nat → BitVec 256 := fun q' i' => if q' = q ∧ i' < k then g i' else f q' i'
theorem putR_succ (f : Nat → Nat → BitVec 256) (q k : Nat) (g : Nat → BitVec 256) : updR (putR f q k g) q k (g k) = putR f q (k + 1) g := by
  funext q' i'
  unfold updR putR
  by_cases h : q' = q ∧ i' = k
  · obtain ⟨rfl, rfl⟩ := h
    rw [if_pos ⟨rfl, rfl⟩, if_pos ⟨rfl, by omega⟩]
  · rw [if_neg h]
    by_cases h2 : q' = q ∧ i' < k
    · rw [if_pos h2, if_pos ⟨h2.1, by omega⟩]
    · rw [if_neg h2, if_neg (by omega)]
theorem putR_at (f : Nat → Nat → BitVec 256) (q k : Nat) (g : Nat → BitVec 256) : putR f q k g q k = f q k := by unfold putR; rw [if_neg (by omega)]
theorem putR_zero (f : Nat → Nat → BitVec 256) (q : Nat) (g : Nat → BitVec 256) : putR f q 0 g = f := by funext q' i'; unfold putR; rw [if_neg (by omega)]
/-- The cells of a set in the middle. -/
theorem RowD.cells4 {L B : Nat} {f : Nat → Nat → BitVec 256} {W : World} (h : RowD L B f W) (q i : Nat) (hq : q < L) (hi : i < 65) :
    (W.cell? ⟨B, q * 260 + i * 4, none⟩ = some (.int .u64 (wd (f q i) 0 : Nat)) ∧ W.cell? ⟨B, q * 260 + i * 4 + 1, none⟩ = some (.int .u64 (wd (f q i) 1 : Nat)) ∧ W.cell? ⟨B, q * 260 + i * 4 + 2, none⟩ = some (.int .u64 (wd (f q i) 2 : Nat)) ∧ W.cell? ⟨B, q * 260 + i * 4 + 3, none⟩ = some (.int .u64 (wd (f q i) 3 : Nat))) ∧
    (W.frozen? ⟨B, q * 260 + i * 4, none⟩ = false ∧ W.frozen? ⟨B, q * 260 + i * 4 + 1, none⟩ = false ∧ W.frozen? ⟨B, q * 260 + i * 4 + 2, none⟩ = false ∧ W.frozen? ⟨B, q * 260 + i * 4 + 3, none⟩ = false) :=
  ⟨⟨by have e := h.cell q i 0 hq hi (by decide); rwa [Nat.add_zero] at e, h.cell q i 1 hq hi (by decide), h.cell q i 2 hq hi (by decide), h.cell q i 3 hq hi (by decide)⟩, h.frozen _, h.frozen _, h.frozen _, h.frozen _⟩
/-- One set more is put. -/
theorem RowD.putS {L B : Nat} {f : Nat → Nat → BitVec 256} {W : World} {q i : Nat} {g : Nat → BitVec 256} (h : RowD L B (putR f q i g) W) (hq : q < L) (hi : i < 65) {s : BitVec 256} (hs : g i = s) : RowD L B (putR f q (i + 1) g) (W.setCells B (q * 260 + i * 4) (setL4 s)) := by
  subst hs
  rw [← putR_succ]
  exact h.set q i (g i) hq hi
theorem RowD.drew {L B : Nat} {f : Nat → Nat → BitVec 256} {W : World} (h : RowD L B f W) : RowD L B f W.drew := h
theorem RowD.alloc {L B : Nat} {f : Nat → Nat → BitVec 256} {W : World} (h : RowD L B f W) (o : Obj) : RowD L B f (W.alloc o) := h.below (by go_grown)
set_option maxRecDepth 100000 in
set_option maxHeartbeats 16000000 in
theorem stay_calls (L n B q : Nat) (f : Nat → Nat → BitVec 256) (hn : n ≤ 64) (hq : q < L) (W : World) (hR : RowD L B f W) :
    Calls Tryd.prog 72 #[.slice (some ⟨B, q * 260, none⟩) (n + 1) 65] W fun e W' => (∃ v, e = .returned v) ∧ RowD L B (putR f q (n + 1) (fun i => f q i ||| one i)) W' ∧ KpA (fun k => k = B) W W' := by
  have HZ := Lib.hid (putR_zero f q (fun i => f q i ||| one i))
  have HA := Lib.hid (putR_at f q · (fun i => f q i ||| one i))
  have HR := Lib.hid hR
  clear hR
  go_enter Tryd.func72, Tryd.ntmps72
  go_wp2_with fail
  go_loopw [5] (fun vi wr => ∃ i : Nat, i ≤ n + 1 ∧ vi = .int .i64 i ∧ RowD L B (putR f q i (fun i => f q i ||| one i)) wr ∧ KpA (fun k => k = B) W wr) (fun vi _ => n + 1 - (intOf vi).toNat)
  case atStart => exact ⟨0, Nat.zero_le _, rfl, by rw [HZ.out]; exact HR.out, KpA.refl _ _⟩
  case round =>
    obtain ⟨i, hi, rfl, hr, hK⟩ := hrel
    by_cases hlt : i < n + 1
    · have p2 : decide (i < n + 1) = true := decide_eq_true hlt
      have p4 : (i : Int) < (n : Int) + 1 := by omega
      have p5 : decide ((i : Int) < (n : Int) + 1) = true := decide_eq_true p4
      have xi : IntKind.i64.wrap ((i : Int) + 1) = (i : Int) + 1 := IntWalk.i64_in _ (by omega)
      have x8 : IntKind.u8.wrap (i : Int) = (i : Int) := by rw [IntKind.wrap_u8]; omega
      have HR1 := Lib.hid hr
      have HK := Lib.hid hK
      have hBl := hr.lt
      obtain ⟨⟨c0, c1, c2, c3⟩, f0, f1, f2, f3⟩ := hr.cells4 q i hq (by omega)
      rw [HA.out i] at c0 c1 c2 c3
      clear hr hK
      go_wp2_with fail
      refine (with1_calls (f q i) i (by omega) wr.heap.size _ (by simp) (by rw [(Blk.new wr #[Value.int .u8 (i : Nat)] 5).cell 0]; rfl)).mono ?_
      rintro e w1 ⟨rfl, hb1⟩
      have hr1 := (HR1.out.alloc (.cells #[Value.int .u8 (i : Nat)] 5)).below hb1
      have hK1 := (HK.out.alloc (.cells #[Value.int .u8 (i : Nat)] 5)).below hb1
      have HR2 := Lib.hid (hr1.putS (s := f q i ||| one i) hq (by omega) rfl)
      have HK2 := Lib.hid (hK1.setCells (g := B) (.inl rfl) (q * 260 + i * 4) (setL4 (f q i ||| one i)))
      obtain ⟨⟨c0, c1, c2, c3⟩, f0, f1, f2, f3⟩ := hr1.cells4 q i hq (by omega)
      clear hr1 hK1 hb1
      generalize f q i ||| one i = s at *
      go_wp2_with fail
      go_roundw
      case rel =>
        exact ⟨i + 1, by omega, rfl, HR2.out, HK2.out⟩
      case measure => simp [intOf]; omega
    · obtain rfl : i = n + 1 := by omega
      go_wp2_with fail
      go_end0
      exact ⟨⟨_, rfl⟩, hr, hK⟩
/-- What a Leaf spans. -/
def stepG (f : Nat → Nat → BitVec 256) (s : BitVec 256) (w : List Nat) (q i : Nat) : BitVec 256 := if s.getLsbD (w.getD i 0) = true then f q i ||| one (i + 1) else f q i
set_option maxRecDepth 100000 in
set_option maxHeartbeats 16000000 in
theorem stepE_calls (L B q : Nat) (f : Nat → Nat → BitVec 256) (s : BitVec 256) (w : List Nat) (wa : Option Addr) (wc : Nat) (hn : w.length ≤ 64) (hw8 : ∀ x ∈ w, x < 256) (hq : q < L) (W : World) (hR : RowD L B f W) (hT : BtsAt w wa W) (hne : ∀ g o, w ≠ [] → wa = some ⟨g, o, none⟩ → g ≠ B) :
    Calls Tryd.prog 73 #[.slice (some ⟨B, q * 260, none⟩) (w.length + 1) 65, setV s, .slice wa w.length wc] W fun e W' => (∃ v, e = .returned v) ∧ RowD L B (putR f q w.length (stepG f s w q)) W' ∧ KpA (fun k => k = B) W W' := by
  have HZ := Lib.hid (putR_zero f q (stepG f s w q))
  have HA := Lib.hid (putR_at f q · (stepG f s w q))
  have hb0 := Blk.new W #[.int .u64 (wd s 0), .int .u64 (wd s 1), .int .u64 (wd s 2), .int .u64 (wd s 3)] 58
  have hB0 : Below W.heap.size W (W.alloc (.cells #[.int .u64 (wd s 0), .int .u64 (wd s 1), .int .u64 (wd s 2), .int .u64 (wd s 3)] 58)) := by go_grown
  have HR := Lib.hid (hR.below hB0)
  have HT := Lib.hid hT
  have HN := Lib.hid hne
  have hBW := hR.lt
  clear hR hT hne
  go_enter Tryd.func73, Tryd.ntmps73
  go_upto_region 1 with fail
  have HK := Lib.hid (show KpA (fun k => k = B) W (W.alloc (.cells #[.int .u64 (wd s 0), .int .u64 (wd s 1), .int .u64 (wd s 2), .int .u64 (wd s 3)] 58)) from (KpA.refl _ W).alloc _)
  have HT0 := Lib.hid (HT.out.below hB0)
  have hz : (W.alloc (.cells #[.int .u64 (wd s 0), .int .u64 (wd s 1), .int .u64 (wd s 2), .int .u64 (wd s 3)] 58)).heap.size = W.heap.size + 1 := World.size_alloc ..
  have HB0 := Lib.hid hb0
  clear hb0 hB0 HT
  generalize W.alloc (.cells #[.int .u64 (wd s 0), .int .u64 (wd s 1), .int .u64 (wd s 2), .int .u64 (wd s 3)] 58) = w0 at *
  have hBW0 : B ≠ W.heap.size := by omega
  generalize W.heap.size = S at *
  go_wp2_with fail
  go_loopw [10] (fun vi wr => ∃ i : Nat, i ≤ w.length ∧ vi = .int .i64 i ∧ RowD L B (putR f q i (stepG f s w q)) wr ∧ KpA (fun k => k = B) w0 wr) (fun vi _ => w.length - (intOf vi).toNat)
  case atStart => exact ⟨0, Nat.zero_le _, rfl, by rw [HZ.out]; exact HR.out, KpA.refl _ _⟩
  case round =>
    obtain ⟨i, hi, rfl, hr, hK⟩ := hrel
    by_cases hlt : i < w.length
    · have p2 : decide (i < w.length) = true := decide_eq_true hlt
      have xi : IntKind.i64.wrap ((i : Int) + 1) = (i : Int) + 1 := IntWalk.i64_in _ (by omega)
      have x8 : IntKind.u8.wrap ((i : Int) + 1) = (i : Int) + 1 := by rw [IntKind.wrap_u8]; omega
      have HR1 := Lib.hid hr
      have HKr := Lib.hid hK
      have hBl := hr.lt
      obtain ⟨g, off, rfl, hgl, hcw⟩ := HT0.out (fun h0 => by rw [h0] at hlt; cases hlt)
      have hwi : w[i] < 256 := hw8 _ (List.getElem_mem _)
      have cw : wr.cell? ⟨g, off + i, none⟩ = some (.int .u8 (w[i] : Nat)) := (hK.cell hgl (fun e => HN.out g off (by rintro rfl; simp at hlt) rfl e) (off + i)).trans (hcw i hlt)
      obtain ⟨⟨b0, b1, b2, b3⟩, _⟩ := (HB0.out.kpA hK (fun e => hBW0 e.symm)).cells4
      have HE := Lib.hid (show w.getD i 0 = w[i] by simp [hlt])
      obtain ⟨⟨c0, c1, c2, c3⟩, f0, f1, f2, f3⟩ := hr.cells4 q i hq (by omega)
      rw [HA.out i] at c0 c1 c2 c3
      have HG := Lib.hid (show stepG f s w q i = if s.getLsbD w[i] = true then f q i ||| one (i + 1) else f q i by unfold stepG; rw [HE.out])
      generalize w[i] = x at *
      have HH := Lib.hid (fun w => has_calls s (x : Int) w (by omega) (by omega))
      have hx0 : ((x : Int)).toNat = x := Int.toNat_natCast x
      rw [hx0] at HH
      obtain ⟨z, hz⟩ : ∃ z, s.getLsbD x = z := ⟨_, rfl⟩
      rw [hz] at HH HG
      have hBs := hBl
      clear hr hK hcw
      cases z
      · have hr2 : RowD L B (putR f q (i + 1) (stepG f s w q)) wr := by
          refine HR1.out.congr fun q' i' h1 h2 => ?_
          unfold putR
          by_cases hc : q' = q ∧ i' = i
          · obtain ⟨rfl, rfl⟩ := hc
            rw [if_neg (by omega), if_pos ⟨rfl, by omega⟩, HG.out]; rfl
          · by_cases hc2 : q' = q ∧ i' < i
            · rw [if_pos hc2, if_pos ⟨hc2.1, by omega⟩]
            · rw [if_neg hc2, if_neg (by omega)]
        have HR2 := Lib.hid hr2
        clear hr2
        go_wp2_with fail
        refine (HH.out _).mono ?_
        rintro e w1 ⟨rfl, hb1⟩
        have hr1 := HR2.out.below hb1
        have hK1 := HKr.out.below hb1
        clear hb1
        have HR3 := Lib.hid hr1
        have HK3 := Lib.hid hK1
        clear hr1 hK1
        go_wp2_with fail
        go_roundw
        case rel => exact ⟨i + 1, by omega, rfl, HR3.out, HK3.out⟩
        case measure => simp [intOf]; omega
      · go_wp2_with fail
        refine (HH.out _).mono ?_
        rintro e w1 ⟨rfl, hb1⟩
        have hbs := hb1.size
        have HR3 := Lib.hid (HR1.out.below hb1)
        have HK3 := Lib.hid (HKr.out.below hb1)
        obtain ⟨⟨c0, c1, c2, c3⟩, f0, f1, f2, f3⟩ := HR3.out.cells4 q i hq (by omega)
        rw [HA.out i] at c0 c1 c2 c3
        have hBl1 := HR3.out.lt
        clear hb1
        go_wp2_with fail
        refine (with1_calls (f q i) (i + 1) (by omega) w1.heap.size _ (by simp) (by rw [(Blk.new w1 #[Value.int .u8 ((i : Int) + 1)] 5).cell 0]; rfl)).mono ?_
        rintro e w2 ⟨rfl, hb2⟩
        have hr2 := (HR3.out.alloc (.cells #[Value.int .u8 ((i : Int) + 1)] 5)).below hb2
        have hK2 := (HK3.out.alloc (.cells #[Value.int .u8 ((i : Int) + 1)] 5)).below hb2
        have HR4 := Lib.hid (hr2.putS (s := f q i ||| one (i + 1)) hq (by omega) (by rw [HG.out]; rfl))
        have HK4 := Lib.hid (hK2.setCells (g := B) (.inl rfl) (q * 260 + i * 4) (setL4 (f q i ||| one (i + 1))))
        obtain ⟨⟨c0, c1, c2, c3⟩, f0, f1, f2, f3⟩ := hr2.cells4 q i hq (by omega)
        clear hr2 hK2 hb2
        generalize f q i ||| one (i + 1) = s2 at *
        go_wp2_with fail
        go_roundw
        case rel => exact ⟨i + 1, by omega, rfl, HR4.out, HK4.out⟩
        case measure => simp [intOf]; omega
    · obtain rfl : i = w.length := by omega
      go_wp2_with fail
      go_end0
      exact ⟨⟨_, rfl⟩, hr, HK.out.trans (hK.mono fun k h => h)⟩
end Go.Proofs.YtdpkhliojbeglaaDoor

/- The document's terms: Deep. Stage 10. -/
namespace Go.Proofs.YtdpkhliojbeglaaDoor
open Go.RowKit BS

def deepsT (l : List NdN) : List Int := if rightT l = true then (List.range l.length).map (fun x => (deepT l x : Int)) else []
end Go.Proofs.YtdpkhliojbeglaaDoor

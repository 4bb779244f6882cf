/- Texts put together: Pg Ua Ub Uc Ud Ue Uf Ug Uj Ui Uq. -/
import Derived.Test.YtbccojjcdcighaaGreatDoorPAc
import Derived.Test.YtbccojjcdcighaaGreatDoorPT
import Derived.Test.YtbccojjcdcighaaGreatDoorPK
import Derived.Test.YtbccojjcdcighaaGreatDoorPL
import Derived.Test.YtbccojjcdcighaaGreatDoorPW
import Derived.Outline
import Derived.Deep.DeepCutAuto
namespace Go.Proofs.YtbccojjcdcighaaGreatDoor
open Go.RowKit BS
end Go.Proofs.YtbccojjcdcighaaGreatDoor

namespace Go.Proofs.YtbccojjcdcighaaGreatDoor
open Go.RowKit BS
mutual
inductive Pc : List NdN → List Nat → Prop
  | set (t : BitVec 256) : Pc [⟨2, 0, 0, 0, t⟩] (textW t)
  | grp {l : List NdN} {τ : List Nat} : Rs l τ → Pc (l ++ [ndG]) ([40] ++ τ ++ [41])
  | rep {l : List NdN} {τ : List Nat} {n : Nat} {m : Int} : Pc l τ → rightN n m = true → Pc (l ++ [⟨4, 1, n, m, 0⟩]) (τ ++ textN n m)
inductive Ps : Nat → List NdN → List Nat → Prop
  | nil : Ps 0 [] []
  | snoc {k : Nat} {l l' : List NdN} {τ τ' : List Nat} : Ps k l τ → Pc l' τ' → Ps (k + 1) (l ++ l') (τ ++ τ')
inductive Rr : Nat → List NdN → List Nat → Prop
  | one {k : Nat} {l : List NdN} {τ : List Nat} : Ps k l τ → Rr 1 (l ++ rowT k) τ
  | snoc {j k : Nat} {l l' : List NdN} {τ τ' : List Nat} : Rr j l τ → Ps k l' τ' → Rr (j + 1) (l ++ (l' ++ rowT k)) (τ ++ [124] ++ τ')
inductive Rs : List NdN → List Nat → Prop
  | rows {j : Nat} {l : List NdN} {τ : List Nat} : Rr j l τ → Rs (l ++ rowsT j) τ
end
def Step (τ : List Nat) (x y : PS) : Prop := ∀ (p q : ByteArray) (k k' : Nat), (p ++ ofT τ ++ q).size < k + p.size → (p ++ ofT τ ++ q).size < k' + (p.size + τ.length) →
  readP (p ++ ofT τ ++ q) k p.size x = readP (p ++ ofT τ ++ q) k' (p.size + τ.length) y
theorem Step.nil (x : PS) : Step [] x x := fun p q k k' h h' => readP_fuel _ _ _ _ _ (by rw [size_mid]; omega) h h'
theorem Step.trans {τ τ' : List Nat} {x y z : PS} (h : Step τ x y) (h' : Step τ' y z) : Step (τ ++ τ') x z := fun p q k k' g g' => by
  have e1 : p ++ ofT (τ ++ τ') ++ q = p ++ ofT τ ++ (ofT τ' ++ q) := by rw [← ofT_append]; simp only [ByteArray.append_assoc]
  have e2 : p ++ ofT τ ++ (ofT τ' ++ q) = (p ++ ofT τ) ++ ofT τ' ++ q := by simp only [ByteArray.append_assoc]
  have hz : (p ++ ofT τ).size = p.size + τ.length := by rw [ByteArray.size_append, size_ofT]
  rw [e1] at g g' ⊢
  rw [List.length_append] at g' ⊢
  rw [h p (ofT τ' ++ q) k (k + k') g (by omega)]
  rw [e2] at g g' ⊢
  have := h' (p ++ ofT τ) q (k + k') k' (by omega) (by omega)
  rw [hz] at this
  rw [this, Nat.add_assoc]
theorem Step.word (w : WN) (x : PS) (hw : OkW w) (hf : ∀ b T, printW w = b :: T → firstP x b = 0) : Step (printW w) x (takeP x w) := fun p q k k' g g' => by
  obtain ⟨hne, hlt, _, hback⟩ := back_word w hw
  have hB := hback p q
  have hz := size_mid p q (printW w)
  have hl : 0 < (printW w).length := List.length_pos_iff.2 hne
  have hb := bt_mid p q (printW w) hlt 0 hl
  obtain ⟨k, rfl⟩ : ∃ m, k = m + 1 := ⟨k - 1, by omega⟩
  rw [Nat.add_zero] at hb
  have hf0 : firstP x (printW w)[0] = 0 := by
    obtain ⟨b, T, hT⟩ := List.exists_cons_of_ne_nil hne
    have e : (printW w)[0] = b := by simp [hT]
    rw [e]; exact hf b T hT
  rw [readP, if_neg (by omega), hb, if_neg (fun g => g hf0), hB]
  show (if (0 : Nat) ≠ 0 then (zPS, 0, 0, 0) else readP (p ++ ofT (printW w) ++ q) k (atW w p.size (printW w).length).fin (takeP x (atW w p.size (printW w).length))) = _
  rw [if_neg (show ¬ (0 : Nat) ≠ 0 by decide)]
  exact readP_fuel _ _ _ _ _ (by show p.size + (printW w).length ≤ _; omega) (by show _ < k + (p.size + (printW w).length); omega) g'
theorem first_other (x : PS) (b : Nat) (h : b ≠ 40 ∧ b ≠ 41 ∧ ¬ (b = 42 ∨ b = 43 ∨ b = 63 ∨ b = 123)) : firstP x b = 0 := by
  unfold firstP
  split
  · rw [if_neg h.2.2, if_neg h.2.1, if_neg h.1]
  · rfl
theorem first_sets (t : BitVec 256) (b : Nat) (T : List Nat) (h : textW t = b :: T) (x : PS) : firstP x b = 0 := by
  obtain ⟨hne, hlt, _, hback⟩ := back_word ⟨1, 0, 0, t, 0, 0⟩ (.inl ⟨rfl, rfl, rfl⟩)
  have hp : printW ⟨1, 0, 0, t, 0, 0⟩ = textW t := rfl
  rw [hp] at hne hlt hback
  have hB := hback ByteArray.empty ByteArray.empty
  have hb := bt_mid ByteArray.empty ByteArray.empty (textW t) hlt 0 (List.length_pos_iff.2 hne)
  have e0 : (textW t)[0]'(List.length_pos_iff.2 hne) = b := by simp [h]
  rw [e0, Nat.add_zero] at hb
  have hk : (nextA (ByteArray.empty ++ ofT (textW t) ++ ByteArray.empty) ByteArray.empty.size).1.kind = 1 := by rw [hB]; rfl
  refine first_other x b ⟨fun h40 => ?_, fun h41 => ?_, fun h4 => ?_⟩
  · unfold nextA at hk
    rw [hb, if_pos h40] at hk
    cases hk
  · unfold nextA at hk
    rw [hb, if_neg (by omega), if_pos h41] at hk
    cases hk
  · unfold nextA at hk
    rw [hb, if_neg (by omega), if_neg (by omega), if_neg (by omega), if_pos h4] at hk
    unfold cntW at hk
    generalize readN (ByteArray.empty ++ ofT (textW t) ++ ByteArray.empty) ByteArray.empty.size = R at hk
    obtain ⟨n, m, q, e, k⟩ := R
    simp only at hk
    by_cases he : e ≠ 0
    · rw [if_pos he] at hk; cases hk
    · rw [if_neg he] at hk; cases hk
theorem g3_rep (n : Nat) (m : Int) : g3 [⟨4, 1, n, m, 0⟩] = 0 := rfl
theorem g3_grp : g3 [ndG] = 1 := rfl
theorem signs_step (w : WN) (hw : OkW w) (x : PS) (b : Nat) (hp : printW w = [b]) (hf : firstP x b = 0) : Step [b] x (takeP x w) := by
  have := Step.word w x hw (fun c T h => by rw [hp] at h; cases h; exact hf)
  rwa [hp] at this
theorem rs_steps {l : List NdN} {τ : List Nat} (h : Rs l τ) : ∀ L st g, g + g3 l ≤ 9 → ∃ L' n r, Step τ ⟨L, (0, 0) :: st, g⟩ ⟨L', (n, r) :: st, g + g3 l⟩ ∧ L' ++ rowT n ++ rowsT (r + 1) = L ++ l := by
  refine Rs.rec (motive_1 := fun l τ _ => ∀ L n r st g, g + g3 l ≤ 9 → Step τ ⟨L, (n, r) :: st, g⟩ ⟨L ++ l, (n + 1, r) :: st, g + g3 l⟩)
    (motive_2 := fun k l τ _ => ∀ L n r st g, g + g3 l ≤ 9 → Step τ ⟨L, (n, r) :: st, g⟩ ⟨L ++ l, (n + k, r) :: st, g + g3 l⟩)
    (motive_3 := fun j l τ _ => ∀ L st g, g + g3 l ≤ 9 → ∃ L' n r, r + 1 = j ∧ Step τ ⟨L, (0, 0) :: st, g⟩ ⟨L', (n, r) :: st, g + g3 l⟩ ∧ L' ++ rowT n = L ++ l)
    (motive_4 := fun l τ _ => ∀ L st g, g + g3 l ≤ 9 → ∃ L' n r, Step τ ⟨L, (0, 0) :: st, g⟩ ⟨L', (n, r) :: st, g + g3 l⟩ ∧ L' ++ rowT n ++ rowsT (r + 1) = L ++ l)
    ?_ ?_ ?_ ?_ ?_ ?_ ?_ ?_ h
  · -- a set
    intro t L n r st g _
    exact Step.word ⟨1, 0, 0, t, 0, 0⟩ ⟨L, (n, r) :: st, g⟩ (.inl ⟨rfl, rfl, rfl⟩) (fun b T hT => first_sets t b T hT _)
  · -- a group
    intro l τ _ ih L n r st g hg
    rw [g3_app, g3_grp] at hg
    have h1 := signs_step ⟨2, 0, 0, 0, 0, 0⟩ (.inr (.inl ⟨.inl rfl, rfl, rfl, rfl⟩)) ⟨L, (n, r) :: st, g⟩ 40 rfl (by
      unfold firstP
      simp only
      rw [if_neg (by decide), if_neg (by decide), if_pos trivial, if_neg (by omega)])
    obtain ⟨L', n', r', h2, h3⟩ := ih L ((n, r) :: st) (g + 1) (by omega)
    have h4 := signs_step ⟨3, 0, 0, 0, 0, 0⟩ (.inr (.inl ⟨.inr (.inl rfl), rfl, rfl, rfl⟩)) ⟨L', (n', r') :: (n, r) :: st, g + 1 + g3 l⟩ 41 rfl rfl
    have h5 := (h1.trans h2).trans h4
    have e : takeP ⟨L', (n', r') :: (n, r) :: st, g + 1 + g3 l⟩ ⟨3, 0, 0, 0, 0, 0⟩ = ⟨L ++ (l ++ [ndG]), (n + 1, r) :: st, g + g3 (l ++ [ndG])⟩ := by
      show (⟨L' ++ rowT n' ++ rowsT (r' + 1) ++ [ndG], (n + 1, r) :: st, g + 1 + g3 l⟩ : PS) = _
      rw [h3, g3_app, g3_grp, List.append_assoc, show g + 1 + g3 l = g + (g3 l + 1) by omega]
    rw [e] at h5
    exact h5
  · -- a repetition
    intro l τ n' m _ hr ih L n r st g hg
    rw [g3_app, g3_rep] at hg
    have h1 := ih L n r st g (by omega)
    have h2 := Step.word ⟨5, 0, 0, 0, n', m⟩ ⟨L ++ l, (n + 1, r) :: st, g + g3 l⟩ (.inr (.inr ⟨rfl, rfl, hr⟩)) (fun b T hT => by
      by_cases hb : b = 40 ∨ b = 41
      · exfalso
        obtain ⟨hne, hlt, _, hback⟩ := back_word ⟨5, 0, 0, 0, n', m⟩ (.inr (.inr ⟨rfl, rfl, hr⟩))
        have hB := hback ByteArray.empty ByteArray.empty
        have hbm := bt_mid ByteArray.empty ByteArray.empty _ hlt 0 (List.length_pos_iff.2 hne)
        have e0 : (printW ⟨5, 0, 0, 0, n', m⟩)[0]'(List.length_pos_iff.2 hne) = b := (List.getElem_of_eq hT _).trans rfl
        rw [e0, Nat.add_zero] at hbm
        obtain ⟨_, _, k5⟩ := next_kinds _ _ _ hB
        have := k5 rfl
        rw [hbm] at this
        omega
      · unfold firstP
        simp only
        by_cases c : b = 42 ∨ b = 43 ∨ b = 63 ∨ b = 123
        · rw [if_pos c, if_neg (by omega)]
        · rw [if_neg c, if_neg (by omega), if_neg (by omega)])
    have h3 := h1.trans h2
    have e : takeP ⟨L ++ l, (n + 1, r) :: st, g + g3 l⟩ ⟨5, 0, 0, 0, n', m⟩ = ⟨L ++ (l ++ [⟨4, 1, n', m, 0⟩]), (n + 1, r) :: st, g + g3 (l ++ [⟨4, 1, n', m, 0⟩])⟩ := by
      show (⟨L ++ l ++ [⟨4, 1, n', m, 0⟩], (n + 1, r) :: st, g + g3 l⟩ : PS) = _
      rw [g3_app, g3_rep, List.append_assoc]
      rfl
    rw [e] at h3
    exact h3
  · -- no pieces
    intro L n r st g _
    have := Step.nil ⟨L, (n, r) :: st, g⟩
    rw [List.append_nil]
    exact this
  · -- a piece more
    intro k l l' τ τ' _ _ ih1 ih2 L n r st g hg
    rw [g3_app] at hg
    have h1 := ih1 L n r st g (by omega)
    have h2 := ih2 (L ++ l) (n + k) r st (g + g3 l) (by omega)
    have h3 := h1.trans h2
    rw [List.append_assoc, Nat.add_assoc n, Nat.add_assoc g, ← g3_app] at h3
    exact h3
  · -- the first row
    intro k l τ _ ih L st g hg
    rw [g3_app, g3_row] at hg
    refine ⟨L ++ l, k, 0, rfl, ?_, by rw [List.append_assoc]⟩
    have h1 := ih L 0 0 st g (by omega)
    rw [Nat.zero_add] at h1
    rw [g3_app, g3_row, Nat.add_zero]
    exact h1
  · -- a row more
    intro j k l l' τ τ' _ _ ih1 ih2 L st g hg
    rw [g3_app, g3_app, g3_row] at hg
    obtain ⟨L', n', r', hj, h1, h2⟩ := ih1 L st g (by omega)
    have h3 := signs_step ⟨4, 0, 0, 0, 0, 0⟩ (.inr (.inl ⟨.inr (.inr rfl), rfl, rfl, rfl⟩)) ⟨L', (n', r') :: st, g + g3 l⟩ 124 rfl rfl
    have e : takeP ⟨L', (n', r') :: st, g + g3 l⟩ ⟨4, 0, 0, 0, 0, 0⟩ = ⟨L ++ l, (0, r' + 1) :: st, g + g3 l⟩ := by
      show (⟨L' ++ rowT n', (0, r' + 1) :: st, g + g3 l⟩ : PS) = _
      rw [h2]
    rw [e] at h3
    have h4 := ih2 (L ++ l) 0 (r' + 1) st (g + g3 l) (by omega)
    rw [Nat.zero_add] at h4
    have h5 := (h1.trans h3).trans h4
    refine ⟨L ++ l ++ l', k, r' + 1, by omega, ?_, by simp only [List.append_assoc]⟩
    rw [g3_app, g3_app, g3_row, Nat.add_zero, ← Nat.add_assoc]
    exact h5
  · -- all rows
    intro j l τ _ ih L st g hg
    rw [g3_app, g3_rows] at hg
    obtain ⟨L', n, r, hj, h1, h2⟩ := ih L st g (by omega)
    refine ⟨L', n, r, ?_, ?_⟩
    · rw [g3_app, g3_rows, Nat.add_zero]; exact h1
    · rw [hj, h2, List.append_assoc]
theorem print_back {l : List NdN} {τ : List Nat} (h : Rs l τ) (hg : g3 l ≤ 9) : (parseN (ofT τ)).2 = (0, 0, 0) ∧ (parseN (ofT τ)).1.l = l := by
  obtain ⟨L', n, r, h1, h2⟩ := rs_steps h [] [] 0 (by omega)
  have e : ByteArray.empty ++ ofT τ ++ ByteArray.empty = ofT τ := by rw [ByteArray.empty_append, ByteArray.append_empty]
  have hz : (ofT τ).size = τ.length := size_ofT τ
  have h3 := h1 ByteArray.empty ByteArray.empty ((ofT τ).size + 1) 1 (by rw [e]; omega) (by rw [e]; show (ofT τ).size < 1 + (0 + τ.length); omega)
  rw [e] at h3
  have h4 : parseN (ofT τ) = (⟨L' ++ rowT n ++ rowsT (r + 1), [], 0 + g3 l⟩, 0, 0, 0) := by
    unfold parseN
    refine Eq.trans h3 ?_
    show readP (ofT τ) 1 (0 + τ.length) ⟨L', (n, r) :: [], 0 + g3 l⟩ = _
    rw [readP, if_pos (by omega), if_neg (by show ¬ 1 < 1; decide)]
    rfl
  rw [h4]
  exact ⟨rfl, h2⟩
end Go.Proofs.YtbccojjcdcighaaGreatDoor

namespace Go.Proofs.YtbccojjcdcighaaGreatDoor
open Go.RowKit BS
def flatR (ts : List (List Nat)) : List Nat := ts.reverse.flatten
def barsR : List (List Nat) → List Nat
  | [] => []
  | [t] => t
  | t :: u :: ts => barsR (u :: ts) ++ [124] ++ t
def txtN (x : NdN) (ts : List (List Nat)) : List Nat :=
  if x.kind = 2 then textW x.set
  else if x.kind = 3 then [40] ++ flatR ts ++ [41]
  else if x.kind = 4 then flatR ts ++ textN x.n x.m
  else if x.kind = 6 then barsR ts
  else flatR ts
def tstF (st : List (List Nat)) : List NdN → List (List Nat)
  | [] => st
  | x :: l => tstF (txtN x (st.take x.kids.toNat) :: st.drop x.kids.toNat) l
theorem tstF_append : ∀ (l m : List NdN) (st : List (List Nat)), tstF st (l ++ m) = tstF (tstF st l) m
  | [], m, st => rfl
  | x :: l, m, st => by rw [List.cons_append, tstF, tstF, tstF_append l m]
def Ent (k : Int) (e : List NdN × List Nat) : Prop :=
  ((k = 2 ∨ k = 3 ∨ k = 4) ∧ Pc e.1 e.2) ∨ (k ≠ 6 ∧ ∃ n l, Ps n l e.2 ∧ e.1 = l ++ rowT n) ∨ (k = 6 ∧ Rs e.1 e.2)
theorem ps_one {l : List NdN} {τ : List Nat} (h : Pc l τ) : Ps 1 l τ := Ps.snoc Ps.nil h
theorem Ent.row {k : Int} {e : List NdN × List Nat} (h : Ent k e) (hk : k ≠ 6) : ∃ n l, Ps n l e.2 ∧ e.1 = l ++ rowT n := by
  rcases h with h | h | h
  · exact ⟨1, e.1, ps_one h.2, (List.append_nil _).symm⟩
  · exact h.2
  · exact absurd h.1 hk
theorem Ent.rows {k : Int} {e : List NdN × List Nat} (h : Ent k e) : Rs e.1 e.2 := by
  by_cases hk : k = 6
  · rcases h with h | h | h
    · omega
    · exact absurd hk h.1
    · exact h.2
  · obtain ⟨n, l, h1, h2⟩ := h.row hk
    have := Rs.rows (Rr.one h1)
    rw [show rowsT 1 = [] from rfl, List.append_nil, ← h2] at this
    exact this
def Ents : List Int → List (List NdN × List Nat) → Prop
  | [], es => es = []
  | k :: ks, es => ∃ e r, es = e :: r ∧ Ent k e ∧ Ents ks r ∧ ((k = 2 ∨ k = 3 ∨ k = 4) → Pc e.1 e.2)
theorem Ents.len : ∀ {ks : List Int} {es : List (List NdN × List Nat)}, Ents ks es → es.length = ks.length
  | [], es, h => by rw [show es = [] from h]; rfl
  | k :: ks, es, h => by
    obtain ⟨e, r, rfl, _, h2, _⟩ := h
    rw [List.length_cons, List.length_cons, h2.len]
theorem Ents.take : ∀ {ks : List Int} {es : List (List NdN × List Nat)} (n : Nat), Ents ks es → Ents (ks.take n) (es.take n)
  | ks, es, 0, h => by rw [List.take_zero, List.take_zero]; rfl
  | [], es, n + 1, h => by rw [show es = [] from h]; rfl
  | k :: ks, es, n + 1, h => by
    obtain ⟨e, r, rfl, h1, h2, h3⟩ := h
    exact ⟨e, r.take n, rfl, h1, h2.take n, h3⟩
theorem Ents.drop : ∀ {ks : List Int} {es : List (List NdN × List Nat)} (n : Nat), Ents ks es → Ents (ks.drop n) (es.drop n)
  | ks, es, 0, h => h
  | [], es, n + 1, h => by rw [show es = [] from h]; rfl
  | k :: ks, es, n + 1, h => by
    obtain ⟨e, r, rfl, h1, h2, h3⟩ := h
    exact h2.drop n
def nodesR (es : List (List NdN × List Nat)) : List NdN := (es.reverse.map (·.1)).flatten
theorem nodesR_cons (e : List NdN × List Nat) (es : List (List NdN × List Nat)) : nodesR (e :: es) = nodesR es ++ e.1 := by
  unfold nodesR
  rw [List.reverse_cons, List.map_append, List.flatten_append]
  simp
theorem flatR_cons (t : List Nat) (ts : List (List Nat)) : flatR (t :: ts) = flatR ts ++ t := by
  unfold flatR
  rw [List.reverse_cons, List.flatten_append]
  simp
theorem pieces_ps : ∀ {ks : List Int} {es : List (List NdN × List Nat)}, Ents ks es → (∀ k ∈ ks, k = 2 ∨ k = 3 ∨ k = 4) → Ps es.length (nodesR es) (flatR (es.map (·.2)))
  | [], es, h, _ => by rw [show es = [] from h]; exact Ps.nil
  | k :: ks, es, h, hk => by
    obtain ⟨e, r, rfl, _, h2, h3⟩ := h
    rw [List.map_cons, flatR_cons, nodesR_cons]
    exact Ps.snoc (pieces_ps h2 (fun y hy => hk y (List.mem_cons_of_mem _ hy))) (h3 (hk k (List.mem_cons_self ..)))
theorem rows_rr : ∀ {ks : List Int} {es : List (List NdN × List Nat)}, Ents ks es → es ≠ [] → (∀ k ∈ ks, k ≠ 6) → Rr es.length (nodesR es) (barsR (es.map (·.2)))
  | [], es, h, hne, _ => absurd (show es = [] from h) hne
  | [k], es, h, _, hk => by
    obtain ⟨e, r, rfl, h1, h2, _⟩ := h
    obtain rfl : r = [] := h2
    obtain ⟨n, l, g1, g2⟩ := h1.row (hk k (List.mem_cons_self ..))
    rw [nodesR_cons, show nodesR [] = [] from rfl, List.nil_append, g2]
    exact Rr.one g1
  | k :: k' :: ks, es, h, _, hk => by
    obtain ⟨e, r, rfl, h1, h2, _⟩ := h
    have hr : r ≠ [] := by
      have := h2.len
      rintro rfl
      simp at this
    have ih := rows_rr h2 hr (fun y hy => hk y (List.mem_cons_of_mem _ hy))
    obtain ⟨n, l, g1, g2⟩ := h1.row (hk k (List.mem_cons_self ..))
    obtain ⟨u, rr, rfl⟩ := List.exists_cons_of_ne_nil hr
    rw [nodesR_cons, g2]
    exact Rr.snoc ih g1
theorem piece_kinds (k : Int) (h : pieceF k = true) : k = 2 ∨ k = 3 ∨ k = 4 := by
  unfold pieceF at h
  simp at h
  omega
theorem kst_texts : ∀ (n : Nat) (l : List NdN), l.length = n → ∀ ks, kstF [] l = some ks → ∃ es, Ents ks es ∧ nodesR es = l ∧ es.map (·.2) = tstF [] l
  | 0, l, hl, ks, h => by
    obtain rfl : l = [] := List.eq_nil_of_length_eq_zero hl
    obtain rfl : [] = ks := by rw [kstF] at h; exact Option.some.inj h
    exact ⟨[], rfl, rfl, rfl⟩
  | n + 1, l, hl, ks, h => by
    obtain ⟨m, x, rfl⟩ : ∃ m x, l = m ++ [x] := by
      have hne : l ≠ [] := by rintro rfl; simp at hl
      exact ⟨l.dropLast, l.getLast hne, (List.dropLast_concat_getLast hne).symm⟩
    have hm : m.length = n := by simpa using hl
    rw [kstF_append] at h
    cases hk : kstF [] m with
    | none => rw [hk] at h; cases h
    | some ks0 =>
      rw [hk, Option.bind_some, kstF_one] at h
      obtain ⟨es, h1, h2, h3⟩ := kst_texts n m hm ks0 hk
      obtain ⟨g1, g2, g3', g4, rfl⟩ := stepK_some ks0 ks x h
      have ht : tstF [] (m ++ [x]) = txtN x ((es.take x.kids.toNat).map (·.2)) :: (es.drop x.kids.toNat).map (·.2) := by
        rw [tstF_append, ← h3, tstF, tstF, List.map_take, List.map_drop]
      have hT := h1.take x.kids.toNat
      have hD := h1.drop x.kids.toNat
      have hlen : (es.take x.kids.toNat).length = x.kids.toNat := by rw [List.length_take, h1.len]; omega
      have hsplit : nodesR (es.drop x.kids.toNat) ++ nodesR (es.take x.kids.toNat) = m := by
        rw [← h2]
        unfold nodesR
        rw [← List.flatten_append, ← List.map_append, ← List.reverse_append, List.take_append_drop]
      generalize hT0 : es.take x.kids.toNat = et at *
      generalize hD0 : es.drop x.kids.toNat = ed at *
      have hmain : ∃ τ, τ = txtN x (et.map (·.2)) ∧ Ent x.kind (nodesR et ++ [x], τ) ∧ ((x.kind = 2 ∨ x.kind = 3 ∨ x.kind = 4) → Pc (nodesR et ++ [x]) τ) := by
        refine ⟨_, rfl, ?_⟩
        obtain ⟨xk, xc, xn, xm, xs⟩ := x
        simp only at *
        unfold nodeF at g1
        simp only at g1
        by_cases c0 : xk ≠ 2 ∧ xs ≠ 0
        · rw [if_pos c0] at g1; cases g1
        rw [if_neg c0] at g1
        by_cases c0' : xk ≠ 4 ∧ (xn ≠ 0 ∨ xm ≠ 0)
        · rw [if_pos c0'] at g1; cases g1
        rw [if_neg c0'] at g1
        by_cases c1 : xk = 1
        · subst c1
          rw [if_pos (.inl rfl)] at g1
          obtain rfl : xc = 0 := by simpa using g1
          obtain rfl : et = [] := List.eq_nil_of_length_eq_zero hlen
          obtain rfl : xs = 0 := Decidable.not_not.1 fun h => c0 ⟨by decide, h⟩
          obtain rfl : xn = 0 := Decidable.not_not.1 fun h => c0' ⟨by decide, .inl h⟩
          obtain rfl : xm = 0 := Decidable.not_not.1 fun h => c0' ⟨by decide, .inr h⟩
          exact ⟨.inr (.inl ⟨by decide, 0, [], Ps.nil, rfl⟩), fun h => by omega⟩
        by_cases c2 : xk = 2
        · subst c2
          rw [if_pos (.inr rfl)] at g1
          obtain rfl : xc = 0 := by simpa using g1
          obtain rfl : et = [] := List.eq_nil_of_length_eq_zero hlen
          obtain rfl : xn = 0 := Decidable.not_not.1 fun h => c0' ⟨by decide, .inl h⟩
          obtain rfl : xm = 0 := Decidable.not_not.1 fun h => c0' ⟨by decide, .inr h⟩
          have hp : Pc [⟨2, 0, 0, 0, xs⟩] (textW xs) := Pc.set xs
          exact ⟨.inl ⟨.inl rfl, hp⟩, fun _ => hp⟩
        obtain rfl : xs = 0 := Decidable.not_not.1 fun h => c0 ⟨c2, h⟩
        rw [if_neg (by omega)] at g1
        by_cases c3 : xk = 3
        · subst c3
          rw [if_pos rfl] at g1
          obtain rfl : xc = 1 := by simpa using g1
          obtain rfl : xn = 0 := Decidable.not_not.1 fun h => c0' ⟨by decide, .inl h⟩
          obtain rfl : xm = 0 := Decidable.not_not.1 fun h => c0' ⟨by decide, .inr h⟩
          obtain ⟨e, rfl⟩ := List.length_eq_one_iff.1 hlen
          have hr : Rs e.1 e.2 := by
            have := hT
            generalize hq : ks0.take (1 : Int).toNat = q at this
            obtain _ | ⟨k, q⟩ := q
            · cases (show [e] = [] from this)
            · obtain ⟨e', r, he, h5, _⟩ := this
              cases he
              exact h5.rows
          have hp : Pc (nodesR [e] ++ [ndG]) ([40] ++ flatR [e.2] ++ [41]) := by
            have := Pc.grp hr
            have e1 : nodesR [e] = e.1 := by rw [nodesR_cons]; rfl
            have e2 : flatR [e.2] = e.2 := by rw [flatR_cons]; rfl
            rw [e1, e2]; exact this
          exact ⟨.inl ⟨.inr (.inl rfl), hp⟩, fun _ => hp⟩
        rw [if_neg c3] at g1
        by_cases c4 : xk = 4
        · subst c4
          rw [if_pos rfl, Bool.and_eq_true] at g1
          obtain rfl : xc = 1 := by simpa using g1.1
          obtain ⟨e, rfl⟩ := List.length_eq_one_iff.1 hlen
          have hr : Pc e.1 e.2 := by
            have := hT
            generalize hq : ks0.take (1 : Int).toNat = q at this g4
            obtain _ | ⟨k, q⟩ := q
            · cases (show [e] = [] from this)
            · obtain ⟨e', r, he, _, _, h6⟩ := this
              cases he
              refine h6 (piece_kinds k ?_)
              have := g4 k (List.mem_cons_self ..)
              unfold kidF at this
              rw [if_neg (by decide), if_pos (.inl rfl)] at this
              exact this
          obtain ⟨n', rfl⟩ : ∃ n' : Nat, xn = n' := by
            have := g1.2
            unfold rightN at this
            rw [Bool.and_eq_true, Bool.and_eq_true, decide_eq_true_iff] at this
            exact ⟨xn.toNat, by omega⟩
          have hp : Pc (nodesR [e] ++ [⟨4, 1, n', xm, 0⟩]) (flatR [e.2] ++ textN n' xm) := by
            have := Pc.rep hr g1.2
            have e1 : nodesR [e] = e.1 := by rw [nodesR_cons]; rfl
            have e2 : flatR [e.2] = e.2 := by rw [flatR_cons]; rfl
            rw [e1, e2]; exact this
          exact ⟨.inl ⟨.inr (.inr rfl), hp⟩, fun _ => hp⟩
        rw [if_neg c4] at g1
        obtain rfl : xn = 0 := Decidable.not_not.1 fun h => c0' ⟨c4, .inl h⟩
        obtain rfl : xm = 0 := Decidable.not_not.1 fun h => c0' ⟨c4, .inr h⟩
        by_cases c56 : xk = 5 ∨ xk = 6
        · rw [if_pos c56, decide_eq_true_iff] at g1
          have hx : (xc.toNat : Int) = xc := by omega
          rcases c56 with c5 | c6
          · subst c5
            have hps := pieces_ps hT (fun k hk => piece_kinds k (by
              have := g4 k hk
              unfold kidF at this
              rw [if_neg (by decide), if_pos (.inr rfl)] at this
              exact this))
            refine ⟨.inr (.inl ⟨by decide, et.length, nodesR et, hps, ?_⟩), fun h => by omega⟩
            unfold rowT
            rw [if_neg (by omega), if_neg (by omega), hlen]
            unfold nd5
            rw [hx]
          · subst c6
            have hrr := rows_rr hT (by rintro rfl; simp at hlen; omega) (fun k hk => by
              have := g4 k hk
              unfold kidF at this
              rw [if_neg (by decide), if_neg (by decide), if_pos rfl] at this
              simpa using this)
            refine ⟨.inr (.inr ⟨rfl, ?_⟩), fun h => by omega⟩
            have := Rs.rows hrr
            unfold rowsT at this
            rw [if_pos (by omega), hlen] at this
            unfold nd6 at this
            rw [hx] at this
            exact this
        · rw [if_neg c56] at g1; cases g1
      obtain ⟨τ, e1, e2, e3⟩ := hmain
      refine ⟨(nodesR et ++ [x], τ) :: ed, ⟨_, _, rfl, e2, hD, e3⟩, ?_, ?_⟩
      · rw [nodesR_cons, ← List.append_assoc, hsplit]
      · rw [List.map_cons, ht, e1]
theorem right_text (l : List NdN) (k : Int) (h : kstF [] l = some [k]) : ∃ τ, tstF [] l = [τ] ∧ Rs l τ := by
  obtain ⟨es, ⟨e, r, rfl, h1, h2, _⟩, h3, h4⟩ := kst_texts l.length l rfl [k] h
  obtain rfl : r = [] := h2
  refine ⟨e.2, by rw [← h4]; rfl, ?_⟩
  have e1 : nodesR [e] = e.1 := by rw [nodesR_cons]; rfl
  rw [e1] at h3
  rw [← h3]
  exact h1.rows
end Go.Proofs.YtbccojjcdcighaaGreatDoor

namespace Go.Proofs.YtbccojjcdcighaaGreatDoor
open Go.RowKit BS
theorem kst_back : ∀ (n : Nat) (l : List NdN), l.length = n → ∀ st, stackF [] (ksN l) = some st → (∀ x ∈ l, nodeF x = true ∧ 0 ≤ x.kids) → RightKids (l.map NdN.kind) (ksN l) →
    ∃ ks, kstF [] l = some ks
  | 0, l, hl, st, h1, h3, h4 => by
    obtain rfl : l = [] := List.eq_nil_of_length_eq_zero hl
    exact ⟨[], rfl⟩
  | n + 1, l, hl, st', h1, h3, h4 => by
    obtain ⟨m, x, rfl⟩ : ∃ m x, l = m ++ [x] := by
      have hne : l ≠ [] := by rintro rfl; simp at hl
      exact ⟨l.dropLast, l.getLast hne, (List.dropLast_concat_getLast hne).symm⟩
    have hm : m.length = n := by simpa using hl
    have hkl : (ksN m).length = m.length := by simp [ksN]
    have ek : ksN (m ++ [x]) = ksN m ++ [x.kids.toNat] := by rw [ksN_app]; rfl
    have em : (m ++ [x]).map NdN.kind = m.map NdN.kind ++ [x.kind] := by simp
    rw [ek, stackF_snoc] at h1
    cases hs : stackF [] (ksN m) with
    | none => rw [hs] at h1; cases h1
    | some st =>
      rw [hs, Option.bind_some] at h1
      have hle : x.kids.toNat ≤ st.length := by
        by_cases hc : x.kids.toNat ≤ st.length
        · exact hc
        · rw [if_neg hc] at h1; cases h1
      have hlast : kindF (m.map NdN.kind ++ [x.kind]) m.length = x.kind := by
        have := kindF_right (m.map NdN.kind) [x.kind] 0
        rw [List.length_map, Nat.zero_add] at this
        exact this
      unfold RightKids at h4
      rw [em, ek, allKids_append _ _ _ _ _ hs, kidsOk_append, allKids_len, Nat.zero_add, hkl] at h4
      obtain ⟨h5, h6, _⟩ := h4
      have h5 : RightKids (m.map NdN.kind) (ksN m) := (rightKids_left (m.map NdN.kind) [x.kind] (ksN m) (by rw [List.length_map, hkl])).1 h5
      obtain ⟨ks, hk⟩ := kst_back n m hm st hs (fun y hy => h3 y (List.mem_append_left _ hy)) h5
      obtain ⟨st1, g1, g2, _, _⟩ := kst_inv m.length m rfl ks hk
      obtain rfl : st = st1 := Option.some.inj (hs.symm.trans g1)
      have hstl : st.length = ks.length := by rw [← g2, List.length_map, posF_len]
      have hsum := stackF_sum (ksN m) [] st hs
      have hsum2 : st.sum = m.length := by rw [hsum]; simp [hkl]
      have hpos := stackF_pos (ksN m) [] st (by simp) hs
      have hlt : ∀ y ∈ posF m.length st, y < m.length := fun y hy => by
        cases hc : st with
        | nil => rw [hc] at hy; cases hy
        | cons z st2 =>
          have : 0 < m.length := by
            have := hpos z (by rw [hc]; exact List.mem_cons_self ..)
            rw [← hsum2, hc, List.sum_cons]; omega
          exact posF_lt m.length st this y hy
      have hmap : (posF m.length st).map (kindF (m.map NdN.kind ++ [x.kind])) = ks := by
        rw [← g2]
        exact List.map_congr_left fun y hy => kindF_left _ _ y (by rw [List.length_map]; exact hlt y hy)
      refine ⟨x.kind :: ks.drop x.kids.toNat, ?_⟩
      obtain ⟨n1, n2⟩ := h3 x (List.mem_append_right _ (List.mem_singleton.2 rfl))
      rw [kstF_append, hk, Option.bind_some, kstF_one]
      unfold stepK
      refine if_pos ⟨n1, n2, by omega, List.all_eq_true.2 fun k hk => ?_⟩
      rw [← hmap, ← List.map_take] at hk
      obtain ⟨y, hy, rfl⟩ := List.mem_map.1 hk
      have := h6 y hy
      rwa [hlast] at this
theorem right_kst (l : List NdN) (h : rightR l = true) : ∃ k, kstF [] l = some [k] := by
  obtain ⟨hf, h2, h3, _⟩ := (rightR_iff l).1 h
  obtain ⟨h0, hst⟩ := (formed_iff (l.map NdN.kids)).1 hf
  have hkl : (ksN l).length = l.length := by simp [ksN]
  have ek : (l.map NdN.kids).map Int.toNat = ksN l := by simp [ksN]
  rw [ek, List.length_map] at hst
  obtain ⟨ks, hk⟩ := kst_back l.length l rfl _ hst (fun x hx => ⟨h2 x hx, h0 _ (List.mem_map_of_mem hx)⟩) h3
  obtain ⟨st1, g1, g2, _, _⟩ := kst_inv l.length l rfl ks hk
  obtain rfl : [l.length] = st1 := Option.some.inj (hst.symm.trans g1)
  exact ⟨_, by rw [hk, ← g2]; rfl⟩
theorem right_back (l : List NdN) (h : rightR l = true) : ∃ τ, tstF [] l = [τ] ∧ (parseN (ofT τ)).2 = (0, 0, 0) ∧ (parseN (ofT τ)).1.l = l := by
  obtain ⟨k, hk⟩ := right_kst l h
  obtain ⟨τ, h1, h2⟩ := right_text l k hk
  exact ⟨τ, h1, print_back h2 ((rightR_iff l).1 h).2.2.2⟩
end Go.Proofs.YtbccojjcdcighaaGreatDoor

namespace Go.Proofs.YtbccojjcdcighaaGreatDoor
open Go.RowKit BS
def txAt (l : List NdN) (i : Nat) : List Nat := (tstF [] (l.take (i + 1))).headD []
theorem tstF_snoc (st : List (List Nat)) (l : List NdN) (x : NdN) : tstF st (l ++ [x]) = txtN x ((tstF st l).take x.kids.toNat) :: (tstF st l).drop x.kids.toNat := by
  rw [tstF_append]; rfl
theorem take_next (l : List NdN) (i : Nat) (h : i < l.length) : l.take (i + 1) = l.take i ++ [l[i]] := by
  rw [List.take_add_one, List.getElem?_eq_getElem h]; rfl
theorem ksN_take (l : List NdN) (i : Nat) : ksN (l.take i) = (ksN l).take i := by simp [ksN, List.map_take]
theorem posF_drop (k : Nat) (st : List Nat) (i : Nat) (h : k ≤ st.length) : (posF i st).drop k = posF (i - (st.take k).sum) (st.drop k) := by
  have hsp := posF_split k st i
  conv => lhs; rw [hsp]
  rw [List.drop_append_of_le_length (by rw [List.length_take, posF_len]; omega), List.drop_of_length_le (by rw [List.length_take]; omega), List.nil_append]
theorem tst_roots (l : List NdN) : ∀ i, i ≤ l.length → ∀ s, stackF [] (ksN (l.take i)) = some s → tstF [] (l.take i) = (posF i s).map (txAt l)
  | 0, _, s, h => by
    rw [List.take_zero] at h
    obtain rfl : [] = s := Option.some.inj h
    rfl
  | i + 1, hi, s', h => by
    have hx := take_next l i hi
    have ek : ksN (l.take (i + 1)) = ksN (l.take i) ++ [l[i].kids.toNat] := by rw [hx, ksN_app]; rfl
    rw [ek, stackF_snoc] at h
    cases hs : stackF [] (ksN (l.take i)) with
    | none => rw [hs] at h; cases h
    | some s =>
      rw [hs, Option.bind_some] at h
      have hle : l[i].kids.toNat ≤ s.length := by
        by_cases hc : l[i].kids.toNat ≤ s.length
        · exact hc
        · rw [if_neg hc] at h; cases h
      rw [if_pos hle] at h
      obtain rfl := Option.some.inj h
      have ih := tst_roots l i (by omega) s hs
      have e1 : tstF [] (l.take (i + 1)) = txtN l[i] ((tstF [] (l.take i)).take l[i].kids.toNat) :: (tstF [] (l.take i)).drop l[i].kids.toNat := by
        rw [hx, tstF_snoc]
      have e2 : txAt l i = txtN l[i] ((tstF [] (l.take i)).take l[i].kids.toNat) := by unfold txAt; rw [e1]; rfl
      rw [e1, posF_step, List.map_cons, e2, ← posF_drop _ _ _ hle, List.map_drop, ← ih]
theorem tx_kids (l : List NdN) (i : Nat) (hi : i < l.length) (s : List Nat) (hs : stackF [] (ksN (l.take i)) = some s) :
    txAt l i = txtN l[i] (((posF i s).take l[i].kids.toNat).map (txAt l)) := by
  have e1 : tstF [] (l.take (i + 1)) = txtN l[i] ((tstF [] (l.take i)).take l[i].kids.toNat) :: (tstF [] (l.take i)).drop l[i].kids.toNat := by
    rw [take_next l i hi, tstF_snoc]
  unfold txAt
  rw [e1, List.headD_cons, tst_roots l i (by omega) s hs, ← List.map_take]
  rfl
theorem tx_root (l : List NdN) (τ : List Nat) (h : tstF [] l = [τ]) (hl : 0 < l.length) : txAt l (l.length - 1) = τ := by
  unfold txAt
  rw [show l.length - 1 + 1 = l.length by omega, List.take_length, h]; rfl
theorem root_back (l : List NdN) (h : rightR l = true) : (parseN (ofT (txAt l (l.length - 1)))).2 = (0, 0, 0) ∧ (parseN (ofT (txAt l (l.length - 1)))).1.l = l := by
  obtain ⟨τ, h1, h2, h3⟩ := right_back l h
  have hl : 0 < l.length := by
    cases l with
    | nil => exact absurd h1 (by simp [tstF])
    | cons a m => simp
  rw [tx_root l τ h1 hl]
  exact ⟨h2, h3⟩
end Go.Proofs.YtbccojjcdcighaaGreatDoor

namespace Go.Proofs.YtbccojjcdcighaaGreatDoor
open Go.RowKit BS
theorem kst_take (l : List NdN) (ks : List Int) (h : kstF [] l = some ks) (i : Nat) : ∃ ks', kstF [] (l.take i) = some ks' := by
  rw [← List.take_append_drop i l, kstF_append] at h
  cases hk : kstF [] (l.take i) with
  | none => rw [hk] at h; cases h
  | some ks' => exact ⟨ks', rfl⟩
theorem Pc.some {l : List NdN} {τ : List Nat} (h : Pc l τ) : l ≠ [] := by
  cases h <;> simp
theorem g3_append (l m : List NdN) : g3 (l ++ m) = g3 l + g3 m := by unfold g3; rw [List.map_append, List.countP_append]
theorem group_back (l : List NdN) (h : rightR l = true) (i : Nat) (hi : i < l.length) (hk : l[i].kind = 3) :
    (parseN (ofT (txAt l i))).2 = (0, 0, 0) ∧ ∃ m, (parseN (ofT (txAt l i))).1.l = m ++ [l[i]] := by
  obtain ⟨k, hk1⟩ := right_kst l h
  obtain ⟨ks, hk2⟩ := kst_take l _ hk1 (i + 1)
  obtain ⟨es, h1, h2, h3⟩ := kst_texts _ (l.take (i + 1)) rfl ks hk2
  obtain ⟨ks0, hk3⟩ := kst_take l _ hk1 i
  have hk4 := hk2
  rw [take_next l i hi, kstF_snoc _ _ _ _ hk3] at hk4
  obtain ⟨_, _, _, _, rfl⟩ := stepK_some _ _ _ hk4
  obtain ⟨e, r, rfl, he, _, hp⟩ := h1
  have hpc := hp (.inr (.inl hk))
  have htx : txAt l i = e.2 := by unfold txAt; rw [← h3]; rfl
  have hg : g3 l ≤ 9 := ((rightR_iff l).1 h).2.2.2
  rw [nodesR_cons] at h2
  have hg2 : g3 e.1 ≤ 9 := by
    have e1 := congrArg g3 (List.take_append_drop (i + 1) l)
    rw [g3_append, ← h2, g3_append] at e1
    omega
  obtain ⟨b1, b2⟩ := print_back he.rows hg2
  rw [htx]
  refine ⟨b1, ?_⟩
  rw [b2]
  have hl : e.1.getLast? = some l[i] := by
    have e1 := congrArg List.getLast? h2
    rw [take_next l i hi, List.getLast?_concat, List.getLast?_append] at e1
    cases hc : e.1.getLast? with
    | none => exact absurd (List.getLast?_eq_none_iff.1 hc) hpc.some
    | some x => rw [hc] at e1; exact e1
  have hc := List.dropLast_concat_getLast hpc.some
  rw [List.getLast?_eq_some_getLast hpc.some] at hl
  rw [Option.some.inj hl] at hc
  exact ⟨e.1.dropLast, hc.symm⟩
end Go.Proofs.YtbccojjcdcighaaGreatDoor

namespace Go.Proofs.YtbccojjcdcighaaGreatDoor
open Go.RowKit BS
theorem tst_frame : ∀ (l : List NdN) (s s' : List Nat), stackF s (ksN l) = some s' → ∀ st rest : List (List Nat), st.length = s.length → tstF (st ++ rest) l = tstF st l ++ rest ∧ (tstF st l).length = s'.length
  | [], s, s', h, st, rest, hl => by
    simp only [ksN, List.map_nil, stackF, Option.some.injEq] at h
    subst h
    exact ⟨rfl, hl⟩
  | x :: l, s, s', h, st, rest, hl => by
    simp only [ksN, List.map_cons, stackF] at h
    by_cases hk : x.kids.toNat ≤ s.length
    · rw [if_pos hk] at h
      have hlen : (txtN x (st.take x.kids.toNat) :: st.drop x.kids.toNat).length = (stepF s x.kids.toNat).length := by
        rw [stepF_len, List.length_cons, List.length_drop, hl]
      obtain ⟨h1, h2⟩ := tst_frame l _ s' h (txtN x (st.take x.kids.toNat) :: st.drop x.kids.toNat) rest hlen
      refine ⟨?_, h2⟩
      rw [tstF, List.take_append_of_le_length (by omega), List.drop_append_of_le_length (by omega), ← List.cons_append, h1]
      rfl
    · rw [if_neg hk] at h; cases h
def txR (l : List NdN) : List Nat := txAt l (l.length - 1)
theorem right_pos (l : List NdN) (h : rightR l = true) : 0 < l.length := by
  obtain ⟨τ, h1, _, _⟩ := right_back l h
  cases l with
  | nil => exact absurd h1 (by simp [tstF])
  | cons a m => simp
theorem right_tst (l : List NdN) (h : rightR l = true) : tstF [] l = [txR l] := by
  obtain ⟨τ, h1, _, _⟩ := right_back l h
  rw [h1]
  exact congrArg (fun x => [x]) (tx_root l τ h1 (right_pos l h)).symm
theorem right_stack (l : List NdN) (h : rightR l = true) : stackF [] (ksN l) = some [l.length] := (formed_stack l ((rightR_iff l).1 h).1).1
theorem tx_group (l : List NdN) (h : rightR l = true) : txR (l ++ [ndG]) = [40] ++ txR l ++ [41] := by
  have h1 : tstF [] (l ++ [ndG]) = [[40] ++ txR l ++ [41]] := by
    rw [tstF_append, right_tst l h]
    simp [tstF, txtN, ndG, flatR]
  exact tx_root _ _ h1 (by simp)
theorem tx_two (l m : List NdN) (h : rightR l = true) (hm : rightR m = true) : txR (l ++ m ++ [ndL]) = txR l ++ [124] ++ txR m := by
  have h1 : tstF [] (l ++ m ++ [ndL]) = [txR l ++ [124] ++ txR m] := by
    have hf := (tst_frame m [] [m.length] (right_stack m hm) [] [txR l] rfl).1
    rw [tstF_append, tstF_append, right_tst l h]
    rw [List.nil_append] at hf
    rw [hf, right_tst m hm]
    simp [tstF, txtN, ndL, barsR]
  exact tx_root _ _ h1 (by simp; omega)
theorem plain_plain (s : ByteArray) (h : (parseN s).2.2.1 = 0) : rightR (parseN s).1.l = true := by
  rcases readP_spec s (s.size + 1) 0 sPS [] (Nat.zero_le _) (by omega) sPS_inv ⟨rfl, rfl, rfl, rfl, rfl⟩ with ⟨h1, _, _⟩ | ⟨_, h2, _⟩
  · exact absurd h h1
  · exact h2
theorem flatR_len (ts : List (List Nat)) : (flatR ts).length = (ts.map List.length).sum := by
  unfold flatR
  rw [List.length_flatten, List.map_reverse, List.sum_reverse]
theorem barsR_len : ∀ ts : List (List Nat), (barsR ts).length ≤ (ts.map List.length).sum + ts.length
  | [] => by simp [barsR]
  | [t] => by simp [barsR]
  | t :: u :: ts => by
    have := barsR_len (u :: ts)
    rw [barsR]
    simp only [List.length_append, List.map_cons, List.sum_cons, List.length_cons, List.length_nil] at this ⊢
    omega
def SS (ts : List (List Nat)) : Nat := (ts.map List.length).sum + ts.length
theorem SS_cons (t : List Nat) (ts : List (List Nat)) : SS (t :: ts) = t.length + 1 + SS ts := by
  simp only [SS, List.map_cons, List.sum_cons, List.length_cons]; omega
theorem SS_split (k : Nat) (ts : List (List Nat)) : SS (ts.take k) + SS (ts.drop k) = SS ts := by
  have h1 := congrArg (fun l : List (List Nat) => (l.map List.length).sum) (List.take_append_drop k ts)
  have h2 := congrArg List.length (List.take_append_drop k ts)
  simp only [List.map_append, List.sum_append, List.length_append] at h1 h2
  unfold SS
  omega
theorem textW_len (t : BitVec 256) : (textW t).length ≤ 800 := by
  unfold textW
  split
  · decide
  · split
    · exact text_len t
    · split
      · split <;> simp
      · simp
theorem textN_len9 (n m : Int) : (textN n m).length ≤ 7 := by
  cases h : rightN n m with
  | false => unfold textN; rw [if_pos h]; decide
  | true => exact (textN_lt n m h).2
theorem txtN_len (x : NdN) (ts : List (List Nat)) : (txtN x ts).length + 1 ≤ SS ts + 810 := by
  have h1 := flatR_len ts
  have h2 := barsR_len ts
  have h3 := textW_len x.set
  have h4 := textN_len9 x.n x.m
  unfold txtN SS
  split
  · omega
  · split
    · simp only [List.length_append, List.length_cons, List.length_nil]; omega
    · split
      · rw [List.length_append]; omega
      · split <;> omega
theorem tst_len : ∀ (l : List NdN) (st : List (List Nat)), SS (tstF st l) ≤ SS st + 810 * l.length
  | [], st => by simp [tstF]
  | x :: l, st => by
    have h1 := tst_len l (txtN x (st.take x.kids.toNat) :: st.drop x.kids.toNat)
    have h2 := txtN_len x (st.take x.kids.toNat)
    have h3 := SS_split x.kids.toNat st
    rw [SS_cons] at h1
    rw [tstF, List.length_cons]
    omega
theorem txAt_len (l : List NdN) (i : Nat) : (txAt l i).length ≤ 810 * (i + 1) := by
  have h1 := tst_len (l.take (i + 1)) []
  have h2 : (l.take (i + 1)).length ≤ i + 1 := by rw [List.length_take]; omega
  have h3 : SS [] = 0 := rfl
  have h4 : (txAt l i).length ≤ SS (tstF [] (l.take (i + 1))) := by
    unfold txAt
    cases tstF [] (l.take (i + 1)) with
    | nil => exact Nat.zero_le _
    | cons t ts => rw [SS_cons, List.headD_cons]; omega
  omega
end Go.Proofs.YtbccojjcdcighaaGreatDoor

namespace Go.Proofs.YtbccojjcdcighaaGreatDoor
open Go.RowKit BS
theorem kidsR_at (l : List NdN) (hf : FormedN l) (i : Nat) (hi : i < l.length) : ∃ K : List Nat, kidsR l i = K.map (fun x : Nat => (x : Int)) ∧ (∀ k ∈ K, k < i) ∧ K.length ≤ i ∧ txAt l i = txtN l[i] ((K.map (txAt l)).reverse) := by
  have hst := (formed_stack l hf).1
  have hkl : (ksN l).length = l.length := (formed_stack l hf).2.1
  have hlk : i < (ksN l).length := by omega
  obtain ⟨s, hs, hks, hsum⟩ := stack_at (ksN l) [] _ hst i hlk
  have hs' : stackF [] (ksN (l.take i)) = some s := by rw [ksN_take]; exact hs
  have hk : (ksN l)[i] = l[i].kids.toNat := by simp [ksN]
  have hlen := len_le_sum s (stackF_pos ((ksN l).take i) [] s (by simp) hs)
  refine ⟨((posF i s).take (ksN l)[i]).reverse, ?_, fun k hkm => ?_, ?_, ?_⟩
  · unfold kidsR
    rw [if_pos ⟨hf, by omega, by omega⟩, show (i : Int).toNat = i from rfl, allKids_at (ksN l) i hlk s hs]
    rfl
  · have hm := List.mem_of_mem_take (List.mem_reverse.1 hkm)
    obtain ⟨j, hj, e⟩ := List.getElem_of_mem hm
    rw [posF_get] at e
    rw [posF_len] at hj
    have : 0 < i := by
      rcases Nat.eq_zero_or_pos i with h0 | h0
      · subst h0
        have hsm : s.sum = 0 := by simpa using hsum
        omega
      · exact h0
    omega
  · rw [List.length_reverse, List.length_take, posF_len]
    have hsm : s.sum = i := by simpa using hsum
    omega
  · rw [tx_kids l i hi s hs', hk, List.map_reverse, List.reverse_reverse]
def accN (k : Int) (ts : List (List Nat)) : List Nat := if k = 6 then barsR ts else flatR ts
theorem accN_nil (k : Int) : accN k [] = [] := by unfold accN; split <;> rfl
theorem accN_flat (k : Int) (hk : k ≠ 6) (t : List Nat) (ts : List (List Nat)) : accN k (t :: ts) = accN k ts ++ t := by
  unfold accN
  rw [if_neg hk, if_neg hk, flatR_cons]
theorem accN_one (k : Int) (t : List Nat) : accN k [t] = t := by
  unfold accN
  split
  · rfl
  · simp [flatR]
theorem accN_bar (t u : List Nat) (ts : List (List Nat)) : accN 6 (t :: u :: ts) = accN 6 (u :: ts) ++ [124] ++ t := by
  unfold accN
  rw [if_pos rfl, if_pos rfl, barsR]
theorem accN_len (k : Int) (ts : List (List Nat)) : (accN k ts).length ≤ SS ts := by
  unfold accN
  split
  · exact barsR_len ts
  · rw [flatR_len]; unfold SS; omega
theorem txtN_acc (x : NdN) (ts : List (List Nat)) : txtN x ts = if x.kind = 2 then textW x.set else if x.kind = 3 then [40] ++ accN x.kind ts ++ [41] else if x.kind = 4 then accN x.kind ts ++ textN x.n x.m else accN x.kind ts := by
  unfold txtN accN
  by_cases h2 : x.kind = 2
  · rw [if_pos h2, if_pos h2]
  by_cases h3 : x.kind = 3
  · rw [if_neg h2, if_neg h2, if_pos h3, if_pos h3, if_neg (by omega)]
  by_cases h4 : x.kind = 4
  · rw [if_neg h2, if_neg h2, if_neg h3, if_neg h3, if_pos h4, if_pos h4, if_neg (by omega)]
  · rw [if_neg h2, if_neg h2, if_neg h3, if_neg h3, if_neg h4, if_neg h4]
theorem kidsT_take (l : List NdN) (K : List Nat) (j : Nat) (h : j < K.length) : (((K.take (j + 1)).map (txAt l)).reverse) = txAt l K[j] :: (((K.take j).map (txAt l)).reverse) := by
  rw [List.take_succ_eq_append_getElem h, List.map_append, List.reverse_append]
  rfl
theorem kidsT_len (l : List NdN) (K : List Nat) (N : Nat) (h : ∀ k ∈ K, k < N) : SS ((K.map (txAt l)).reverse) ≤ (810 * N + 1) * K.length := by
  have h1 : SS ((K.map (txAt l)).reverse) = SS (K.map (txAt l)) := by
    unfold SS
    rw [List.map_reverse, List.sum_reverse, List.length_reverse]
  rw [h1]
  clear h1
  induction K with
  | nil => simp [SS]
  | cons k K ih =>
    have h2 := txAt_len l k
    have h3 := h k (List.mem_cons_self ..)
    have h4 := ih fun x hx => h x (List.mem_cons_of_mem _ hx)
    have h5 : 810 * (k + 1) ≤ 810 * N := Nat.mul_le_mul_left _ h3
    rw [List.map_cons, SS_cons, List.length_cons, Nat.mul_add, Nat.mul_one]
    omega
end Go.Proofs.YtbccojjcdcighaaGreatDoor

namespace Go.Proofs.YtbccojjcdcighaaGreatDoor
open Go.RowKit BS
def accK (l : List NdN) (k : Int) (K : List Nat) (j : Nat) : List Nat := accN k (((K.take j).map (txAt l)).reverse)
def sepN (k : Int) : List Nat := if k = 6 then [124] else []
theorem accK_zero (l : List NdN) (k : Int) (K : List Nat) : accK l k K 0 = [] := accN_nil k
theorem accK_one (l : List NdN) (k : Int) (K : List Nat) (h : 0 < K.length) : accK l k K 1 = txAt l K[0] := by
  unfold accK
  rw [kidsT_take l K 0 h]
  exact accN_one k _
theorem accK_next (l : List NdN) (k : Int) (K : List Nat) (j : Nat) (h : j < K.length) (hj : 0 < j) : accK l k K (j + 1) = accK l k K j ++ sepN k ++ txAt l K[j] := by
  unfold accK sepN
  rw [kidsT_take l K j h]
  by_cases hk : k = 6
  · subst hk
    obtain ⟨j', rfl⟩ : ∃ j', j = j' + 1 := ⟨j - 1, by omega⟩
    rw [kidsT_take l K j' (by omega)]
    rw [if_pos rfl]
    exact accN_bar _ _ _
  · rw [if_neg hk, List.append_nil]
    exact accN_flat k hk _ _
theorem accK_full (l : List NdN) (k : Int) (K : List Nat) : accK l k K K.length = accN k ((K.map (txAt l)).reverse) := by
  unfold accK
  rw [List.take_length]
theorem accK_step_le (l : List NdN) (k : Int) (K : List Nat) (j : Nat) (h : j < K.length) : (accK l k K j).length + (txAt l K[j]).length ≤ (accK l k K (j + 1)).length ∧ (0 < j → (accK l k K j).length + (sepN k).length + (txAt l K[j]).length = (accK l k K (j + 1)).length) := by
  rcases Nat.eq_zero_or_pos j with rfl | hj
  · rw [accK_one l k K h, accK_zero]
    exact ⟨by simp, fun h => absurd h (by omega)⟩
  · rw [accK_next l k K j h hj, List.length_append, List.length_append]
    exact ⟨by omega, fun _ => rfl⟩
theorem accK_mono (l : List NdN) (k : Int) (K : List Nat) (j : Nat) : ∀ m, j + m ≤ K.length → (accK l k K j).length ≤ (accK l k K (j + m)).length
  | 0, _ => Nat.le_refl _
  | m + 1, h => by
    have h1 := accK_mono l k K j m (by omega)
    have h2 := (accK_step_le l k K (j + m) (by omega)).1
    rw [← Nat.add_assoc]
    omega
theorem accK_le (l : List NdN) (k : Int) (K : List Nat) (j : Nat) (h : j ≤ K.length) : (accK l k K j).length ≤ (accK l k K K.length).length := by
  have := accK_mono l k K j (K.length - j) (by omega)
  rw [show j + (K.length - j) = K.length by omega] at this
  exact this
theorem txtN_K (l : List NdN) (x : NdN) (K : List Nat) : txtN x ((K.map (txAt l)).reverse) = if x.kind = 2 then textW x.set else if x.kind = 3 then [40] ++ accK l x.kind K K.length ++ [41] else if x.kind = 4 then accK l x.kind K K.length ++ textN x.n x.m else accK l x.kind K K.length := by
  rw [txtN_acc, accK_full]
theorem accK_len (l : List NdN) (k : Int) (K : List Nat) (N : Nat) (h : ∀ x ∈ K, x < N) (hK : K.length ≤ N) (hN : N ≤ 1000000) : (accK l k K K.length).length ≤ 1000000000000000 := by
  rw [accK_full]
  have h1 := accN_len k ((K.map (txAt l)).reverse)
  have h2 := kidsT_len l K N h
  have h3 : (810 * N + 1) * K.length ≤ (810 * 1000000 + 1) * 1000000 := Nat.mul_le_mul (by omega) (by omega)
  omega
theorem kidsR_short (l : List NdN) (hf : FormedN l) (i : Nat) (hi : i < l.length) : (kidsR l i).length ≤ l[i].kids.toNat := by
  have hst := (formed_stack l hf).1
  have hkl : (ksN l).length = l.length := (formed_stack l hf).2.1
  have hlk : i < (ksN l).length := by omega
  obtain ⟨s, hs, hks, hsum⟩ := stack_at (ksN l) [] _ hst i hlk
  have hk : (ksN l)[i] = l[i].kids.toNat := by simp [ksN]
  unfold kidsR
  rw [if_pos ⟨hf, by omega, by omega⟩, show (i : Int).toNat = i from rfl, allKids_at (ksN l) i hlk s hs]
  rw [← hk]
  simp only [Option.getD_some, List.length_map, List.length_reverse, List.length_take]
  omega
theorem nodeF_kind (x : NdN) (h : nodeF x = true) : (x.kind = 1 ∧ x.kids = 0) ∨ x.kind = 2 ∨ x.kind = 3 ∨ x.kind = 4 ∨ x.kind = 5 ∨ x.kind = 6 := by
  unfold nodeF at h
  split at h
  · cases h
  · split at h
    · cases h
    · split at h
      · rename_i h1
        rcases h1 with h1 | h1
        · exact .inl ⟨h1, by simpa using h⟩
        · exact .inr (.inl h1)
      · split at h
        · rename_i h1; exact .inr (.inr (.inl h1))
        · split at h
          · rename_i h1; exact .inr (.inr (.inr (.inl h1)))
          · split at h
            · rename_i h1; exact .inr (.inr (.inr (.inr h1)))
            · cases h
theorem accK_empty (l : List NdN) (hf : FormedN l) (hn : ∀ x ∈ l, nodeF x = true) (i : Nat) (hi : i < l.length) (K : List Nat) (hK : kidsR l i = K.map (fun x : Nat => (x : Int))) :
    (l[i].kind = 1 ∧ accK l l[i].kind K K.length = []) ∨ l[i].kind = 2 ∨ l[i].kind = 3 ∨ l[i].kind = 4 ∨ l[i].kind = 5 ∨ l[i].kind = 6 := by
  rcases nodeF_kind l[i] (hn _ (List.getElem_mem hi)) with ⟨h1, h0⟩ | h
  · have h2 := kidsR_short l hf i hi
    rw [hK, List.length_map, h0] at h2
    have h3 : K.length = 0 := by have : (0 : Int).toNat = 0 := rfl; omega
    exact .inl ⟨h1, by rw [h3]; exact accK_zero _ _ _⟩
  · exact .inr h
end Go.Proofs.YtbccojjcdcighaaGreatDoor

namespace Go.Proofs.YtbccojjcdcighaaGreatDoor
open Go.RowKit BS
def prT (l : List NdN) : List Nat := if rightR l = true then txR l else []
def prE (l : List NdN) : Nat := if rightR l = true then 0 else 11
def gIx (l : List NdN) (n : Int) : Option Nat := if 0 < n then (List.range l.length).find? (fun i => (numsR l).getD i 0 == n) else none
def grT (l : List NdN) (n : Int) : List Nat := if rightR l = true then (match gIx l n with | some i => txAt l i | none => []) else []
def grE (l : List NdN) (n : Int) : Nat := if rightR l = true then (match gIx l n with | some _ => 0 | none => 1) else 11
def plT (s : ByteArray) : List Nat := if (parseN s).2.2.1 = 0 then txR (parseN s).1.l else []
theorem gIx_some (l : List NdN) (n : Int) (i : Nat) (h : gIx l n = some i) : i < l.length ∧ 0 < n ∧ (numsR l).getD i 0 = n := by
  unfold gIx at h
  by_cases hn : 0 < n
  · rw [if_pos hn] at h
    have h1 := List.mem_of_find?_eq_some h
    have h2 := List.find?_some h
    exact ⟨List.mem_range.1 h1, hn, by simpa using h2⟩
  · rw [if_neg hn] at h; cases h
theorem gIx_kind (l : List NdN) (hr : rightR l = true) (n : Int) (i : Nat) (h : gIx l n = some i) : ∃ hi : i < l.length, l[i].kind = 3 := by
  obtain ⟨hi, hn, he⟩ := gIx_some l n i h
  have hsl := (formed_stack l ((rightR_iff l).1 hr).1).2.2.1
  rw [numsR_get l i (by omega)] at he
  have h3 := (nuN_pos l i (by omega)).1 (by omega)
  refine ⟨hi, ?_⟩
  have : kdN l i = l[i].kind := by simp [kdN, kindF, hi]
  rw [← this]; exact h3
theorem gr_back (l : List NdN) (hr : rightR l = true) (n : Int) (i : Nat) (h : gIx l n = some i) : (parseN (ofT (txAt l i))).2 = (0, 0, 0) ∧ ∃ m x, (parseN (ofT (txAt l i))).1.l = m ++ [x] ∧ x.kind = 3 := by
  obtain ⟨hi, hk⟩ := gIx_kind l hr n i h
  obtain ⟨h1, m, h2⟩ := group_back l hr i hi hk
  exact ⟨h1, m, l[i], h2, hk⟩
def TabP (W : World) : Prop := Tab W ∧ 1 < W.heap.size
theorem TabP.below {B : Nat} {W W' : World} (h : TabP W) (hb : Below B W W') (hB : W.heap.size ≤ B) : TabP W' := ⟨h.1.keep hb (Nat.lt_of_lt_of_le h.2 hB), Nat.lt_of_lt_of_le h.2 hb.size⟩
structure PrintC : Prop where
  print : ∀ (l : List NdN), l.length ≤ 1000 → ∀ (a : Option Addr) (cap : Nat) (w : World), TabP w → NodesAt l a w → Calls Tryz.prog 8 #[.slice a l.length cap] w fun e w' => e = .returned (.tuple #[.string (ofT (prT l)), .int .i64 (prE l)]) ∧ Below w.heap.size w w'
  plain : ∀ (s : ByteArray), s.size ≤ 1000000 → (parseN s).1.l.length ≤ 1000 → ∀ (w : World), TabP w → Calls Tryz.prog 12 #[.string s] w fun e w' => e = .returned (.tuple #[.string (ofT (plT s)), .int .i64 (parseN s).2.2.1, .int .i64 (parseN s).2.2.2]) ∧ Below w.heap.size w w'
  group : ∀ (l : List NdN), l.length ≤ 1000 → ∀ (n : Int) (a : Option Addr) (cap : Nat) (w : World), TabP w → NodesAt l a w → Calls Tryz.prog 10 #[.slice a l.length cap, .int .i64 n] w fun e w' => e = .returned (.tuple #[.string (ofT (grT l n)), .int .i64 (grE l n)]) ∧ Below w.heap.size w w'
end Go.Proofs.YtbccojjcdcighaaGreatDoor

namespace Go.Proofs.YtbccojjcdcighaaGreatDoor
open Go.RowKit BS
def QW (B b : Nat) (out : List Nat) (w w' : World) : Prop := BuB B b out w' ∧ Below B w w' ∧ Lib.OthersKept 5 (some b) w w'
theorem QW.trans {B b : Nat} {o1 o2 : List Nat} {w w1 w2 : World} (h : QW B b o1 w w1) (k : QW B b o2 w1 w2) : QW B b o2 w w2 := ⟨k.1, h.2.1.trans k.2.1, h.2.2.trans k.2.2⟩
theorem keepB {e : TypeId} {b : Option Nat} {w w' : World} (h : Below w.heap.size w w') : Lib.OthersKept e b w w' := fun k o hk _ _ => by
  have hlt : k < w.heap.size := (Array.getElem?_eq_some_iff.1 hk).1
  exact (h.block k hlt).trans hk
theorem QW.quiet {B b : Nat} {out : List Nat} {w w' : World} (h : BuB B b out w) (hB : B ≤ w.heap.size) (hb : Below w.heap.size w w') : QW B b out w w' := ⟨h.below hb, hb.mono hB, keepB hb⟩
theorem QW.refl {B b : Nat} {out : List Nat} {w : World} (h : BuB B b out w) : QW B b out w w := ⟨h, Below.refl _ _, Lib.OthersKept.refl _ _ _⟩
theorem Blk.others {W W' : World} {g b : Nat} {vs : Array Value} {t : TypeId} (h : Blk W g vs t) (hk : Lib.OthersKept 5 (some b) W W') (hg : g ≠ b) (ht : t ≠ 5) : Blk W' g vs t :=
  hk g _ h (fun e => hg (Option.some.inj e)) fun c fz e => by cases e; exact ht rfl
structure PrW (l : List NdN) (a : Option Addr) (g2 : Nat) (vs : Array Value) (b : Nat) (w0 : World) (out : List Nat) (W : World) : Prop where
  bu : BuB w0.heap.size b out W
  below : Below w0.heap.size w0 W
  sz : Blk W g2 vs 3
  nodes : NodesAt l a w0
  tab : TabP w0
  ne : g2 ≠ b
  vals : ∀ j (h : j < (sizesR l).length), vs[j]? = some (.int .i64 (sizesR l)[j])
theorem PrW.step {l : List NdN} {a : Option Addr} {g2 : Nat} {vs : Array Value} {b : Nat} {w0 : World} {out o2 : List Nat} {W W' : World} (h : PrW l a g2 vs b w0 out W) (k : QW w0.heap.size b o2 W W') : PrW l a g2 vs b w0 o2 W' :=
  ⟨k.1, h.below.trans k.2.1, h.sz.others k.2.2 h.ne (by decide), h.nodes, h.tab, h.ne, h.vals⟩
theorem PrW.at {l : List NdN} {a : Option Addr} {g2 : Nat} {vs : Array Value} {b : Nat} {w0 : World} {out : List Nat} {W : World} (h : PrW l a g2 vs b w0 out W) : NodesAt l a W := h.nodes.below h.below
theorem PrW.szAt {l : List NdN} {a : Option Addr} {g2 : Nat} {vs : Array Value} {b : Nat} {w0 : World} {out : List Nat} {W : World} (h : PrW l a g2 vs b w0 out W) : SzAt l g2 W := ⟨h.sz.lt, fun i hi => (h.sz.cell i).trans (h.vals i hi)⟩
theorem PrW.tabs {l : List NdN} {a : Option Addr} {g2 : Nat} {vs : Array Value} {b : Nat} {w0 : World} {out : List Nat} {W : World} (h : PrW l a g2 vs b w0 out W) : TabP W := h.tab.below h.below (Nat.le_refl _)
theorem PrW.le {l : List NdN} {a : Option Addr} {g2 : Nat} {vs : Array Value} {b : Nat} {w0 : World} {out : List Nat} {W : World} (h : PrW l a g2 vs b w0 out W) : w0.heap.size ≤ W.heap.size := h.below.size
theorem PrW.blt {l : List NdN} {a : Option Addr} {g2 : Nat} {vs : Array Value} {b : Nat} {w0 : World} {out : List Nat} {W : World} (h : PrW l a g2 vs b w0 out W) : b < W.heap.size := by
  have go : ∀ p, Lib.BuilderAtF 72 5 w0.heap.size b p (Lib.strCells (ofT out)) W → b < W.heap.size := fun p h => by
    obtain ⟨_, v, hv, _⟩ := h
    exact (Array.getElem?_eq_some_iff.1 hv).1
  exact h.bu.elim (go _) (go _)
theorem PrW.put {l : List NdN} {a : Option Addr} {g2 : Nat} {vs : Array Value} {b : Nat} {w0 : World} {out : List Nat} {W : World} (h : PrW l a g2 vs b w0 out W) (t : List Nat) (hlen : out.length + t.length ≤ 140737488355328) :
    Calls Tryz.prog 34 #[.pointer (some ⟨b, 0, none⟩), .string (ofT t)] W fun e w' => e = .returned (.tuple #[.int .i64 t.length, .nilIface]) ∧ QW w0.heap.size b (out ++ t) W w' :=
  (put_calls _ b out t W h.bu hlen h.le).mono fun _ _ ⟨h1, h2, h3, h4⟩ => ⟨h1, h2, h3, h4⟩
def NSpec (l : List NdN) (a : Option Addr) (cap g2 : Nat) (vs : Array Value) (c2 b : Nat) (w0 : World) (i : Nat) : Prop :=
  ∀ (out : List Nat) (w : World), PrW l a g2 vs b w0 out w → out.length + (txAt l i).length ≤ 140737488355328 →
    Calls Tryz.prog 35 #[.agg (prC a l.length cap (some ⟨g2, 0, none⟩) l.length c2 b), .int .i64 i] w fun e w' => e = .returned (.tuple #[]) ∧ QW w0.heap.size b (out ++ txAt l i) w w'
set_option maxRecDepth 100000 in
set_option maxHeartbeats 8000000 in
theorem pkids_calls (l : List NdN) (hl : l.length ≤ 1000000) (hf : FormedN l) (a : Option Addr) (cap g2 : Nat) (vs : Array Value) (c2 b : Nat) (w0 : World) (i : Nat) (hi : i < l.length) (k : Int) (K : List Nat) (hK : kidsR l i = K.map (fun x : Nat => (x : Int)))
    (ih : ∀ x ∈ K, NSpec l a cap g2 vs c2 b w0 x) (out : List Nat) (w : World) (h : PrW l a g2 vs b w0 out w) (hlen : out.length + (accK l k K K.length).length ≤ 140737488355328) :
    Calls Tryz.prog 58 #[.agg (prC a l.length cap (some ⟨g2, 0, none⟩) l.length c2 b), .int .i64 i, .string (ofT (sepN k))] w fun e w' => e = .returned (.tuple #[]) ∧ QW w0.heap.size b (out ++ accK l k K K.length) w w' := by
  have hKO := fun W (hN : NodesAt l a W) (hz : SzAt l g2 W) => kidsOf_calls l hl hf i hi a cap g2 l.length c2 b W hN hz rfl
  have hKl : K.length ≤ 1000000 := by
    have h1 := kidsR_len l i
    rw [hK, List.length_map] at h1
    omega
  have hmem := h.blt
  rw [hK] at hKO
  rw [List.length_map] at hKO
  have HKO := Lib.hid hKO
  have hstep := fun j hj => accK_step_le l k K j hj
  have hz := accK_zero l k K
  have h1 := accK_one l k K
  have hn := accK_next l k K
  have hle := accK_le l k K
  have hih : ∀ j (hj : j < K.length), NSpec l a cap g2 vs c2 b w0 K[j] := fun j hj => ih _ (List.getElem_mem hj)
  unfold NSpec at hih
  generalize sepN k = sep at *
  have hac : ∀ j, accK l k K j = accK l k K j := fun _ => rfl
  generalize accK l k K = ac at *
  have HIH := Lib.hid hih
  have HST := Lib.hid hstep
  have HZ := Lib.hid hz
  have H1 := Lib.hid h1
  have HNX := Lib.hid hn
  have HLE := Lib.hid hle
  have HPW := Lib.hid h
  have HB0 := Lib.hid h.bu
  clear hKO ih hK hf hac hih hstep hz h1 hn hle h
  generalize l.length = len at *
  go_enter Tryz.func58, Tryz.ntmps58
  have hP := Blk.new w (prC a len cap (some ⟨g2, 0, none⟩) len c2 b) 75
  have hW1 : QW w0.heap.size b out w (w.alloc (.cells (prC a len cap (some ⟨g2, 0, none⟩) len c2 b) 75)) := .quiet HB0.out HPW.out.le ((Below.refl _ _).alloc (Nat.le_refl _) _)
  go_upto_region 1 with fail
  generalize w.alloc (.cells (prC a len cap (some ⟨g2, 0, none⟩) len c2 b) 75) = w1 at *
  have HW1 := Lib.hid hW1
  replace HPW := Lib.hid (HPW.out.step hW1)
  clear hW1
  have p0 := hP.cell 0; have p1 := hP.cell 1; have p2 := hP.cell 2
  simp only [List.getElem?_toArray, List.getElem?_cons_zero, List.getElem?_cons_succ] at p0 p1 p2
  go_wp2_with fail
  refine (HKO.out _ HPW.out.at HPW.out.szAt).mono ?_
  rintro e w2 ⟨kb, rfl, hkb, hkk, hb⟩
  have hw1 : w.heap.size < w1.heap.size := hP.lt
  have hP2 := hP.below hb hP.lt
  have hW2 := QW.quiet HPW.out.bu HPW.out.le hb
  replace HPW := Lib.hid (HPW.out.step hW2)
  have HW2 := Lib.hid (HW1.out.trans hW2)
  have HP2 := Lib.hid hP2
  have HKK := Lib.hid hkk
  clear hb hP hP2 hW2 hkk HKO p0 p1 p2 HW1 HB0
  go_upto_region 2 with fail
  go_loopw [12] (fun v wr => ∃ j : Nat, j ≤ K.length ∧ v = .int .i64 j ∧ QW w0.heap.size b (out ++ ac j) w2 wr) (fun v _ => K.length - (intOf v).toNat)
  case atStart => exact ⟨0, Nat.zero_le _, rfl, by rw [HZ.out, List.append_nil]; exact QW.refl HPW.out.bu⟩
  case round =>
    obtain ⟨j, hj, rfl, hQ⟩ := hrel
    by_cases hlt : j < K.length
    · have hPr := HP2.out.others hQ.2.2 (by omega) (by decide)
      have hKr := HKK.out.others hQ.2.2 (by omega) (by decide)
      have hPW := HPW.out.step hQ
      have ck := (hKr.cell j).trans (intsV_get (K.map (fun x : Nat => (x : Int))) j (by rw [List.length_map]; exact hlt))
      simp only [List.getElem_map] at ck
      have p0 := hPr.cell 0; have p1 := hPr.cell 1; have p2 := hPr.cell 2
      simp only [List.getElem?_toArray, List.getElem?_cons_zero, List.getElem?_cons_succ] at p0 p1 p2
      have hjI : (j : Int) < (K.length : Int) := by omega
      have hq0 : decide ((j : Int) < (K.length : Int)) = true := decide_eq_true hjI
      have xq : IntKind.i64.wrap ((j : Int) + 1) = (j : Int) + 1 := IntWalk.i64_in _ (by omega)
      obtain ⟨s1, s2⟩ := HST.out j hlt
      have hle := HLE.out (j + 1) (by omega)
      rcases Nat.eq_zero_or_pos j with hj0 | hj0
      · subst hj0
        have e0 : (ac 0).length = 0 := by rw [HZ.out]; rfl
        have hih := HIH.out 0 hlt _ _ hPW (by rw [List.length_append]; omega)
        rw [HZ.out, List.append_nil, ← H1.out hlt] at hih
        have HI := Lib.hid hih
        have HQ := Lib.hid hQ
        clear hih hQ hPW hPr hKr s1 s2 hle
        generalize K[0] = kid at *
        go_wp2_with fail
        refine HI.out.mono ?_
        rintro e w3 ⟨rfl, hq⟩
        have HQ3 := Lib.hid (HQ.out.trans hq)
        clear hq p0 p1 p2 ck HI
        go_wp2_with fail
        go_roundw
        case rel => exact ⟨1, by omega, by simp, HQ3.out⟩
        case measure => simp [intOf]; omega
      · have hput := hPW.put sep (by rw [List.length_append]; have := s2 hj0; omega)
        have hjp : decide (0 < (j : Int)) = true := decide_eq_true (by omega)
        have hjp2 : (0 : Int) < (j : Int) := by omega
        have HPU := Lib.hid hput
        have HPWR := Lib.hid hPW
        have HPR := Lib.hid hPr
        have HQ := Lib.hid hQ
        clear hput hQ hPW hPr hKr
        go_wp2_with fail
        refine HPU.out.mono ?_
        rintro e w3 ⟨rfl, hq⟩
        have hPW3 := HPWR.out.step hq
        have hPr3 := HPR.out.others hq.2.2 (by omega) (by decide)
        have p0 := hPr3.cell 0; have p1 := hPr3.cell 1; have p2 := hPr3.cell 2
        simp only [List.getElem?_toArray, List.getElem?_cons_zero, List.getElem?_cons_succ] at p0 p1 p2
        have hih := HIH.out j hlt _ _ hPW3 (by rw [List.length_append, List.length_append]; have := s2 hj0; omega)
        rw [List.append_assoc, List.append_assoc, ← List.append_assoc (ac j), ← HNX.out j hlt hj0] at hih
        have HI := Lib.hid hih
        have HQ3 := Lib.hid (HQ.out.trans hq)
        clear hih hPW3 hPr3 hq HPU HPWR HPR HQ
        generalize K[j] = kid at *
        go_wp2_with fail
        refine HI.out.mono ?_
        rintro e w4 ⟨rfl, hq⟩
        have HQ4 := Lib.hid (HQ3.out.trans hq)
        clear hq p0 p1 p2 HI
        go_wp2_with fail
        go_roundw
        case rel => exact ⟨j + 1, by omega, by simp, HQ4.out⟩
        case measure => simp [intOf]; omega
    · obtain rfl : j = K.length := by omega
      have hq0 : decide ((K.length : Int) < (K.length : Int)) = false := by simp
      have HQ := Lib.hid (HW2.out.trans hQ)
      clear hQ
      go_wp2_with fail
      go_end0
      exact ⟨rfl, HQ.out⟩
end Go.Proofs.YtbccojjcdcighaaGreatDoor

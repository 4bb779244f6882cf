/- Texts put together: Pc Pd Ow Ha Hb Ja Jb Jc Jd Gr Ta Lt Gs Vr Je Dp. -/
import Derived.Test.YthodphgbdmnpoaaPF
import Derived.Test.YthodphgbdmnpoaaPD
import Derived.Laws.AppendOwn
import Derived.Laws.OwnMore
import Derived.Deep.AppendLies
import Derived.Lib.Hide
import Derived.RegionTactic
import Derived.BigRegion
import Derived.BigQuiet
import Derived.Outline
import Derived.Deep.QuietTactic
import Derived.Deep.DeepCutAuto
import Derived.Deep.RegionHeld3
import Derived.Deep.RegionLaw
import Derived.Deep.RegionWith
import Derived.Test.YthodphgbdmnpoaaPE
import Derived.Laws.Rows
import Derived.Laws.Tables
import Derived.Test.YthodphgbdmnpoaaPB
import Derived.Laws.ResultCell
/- What the document parses is a pattern's tree, with a node for each word. Stage 7. -/
namespace Go.Proofs.Ythodphgbdmnpoaa
open Go.RowKit BS

/-- A word's kind by its first byte. -/
theorem next_kinds (s : ByteArray) (a : Nat) (w : WN) (h : nextA s a = (w, 0, 0)) : (w.kind = 2 → bt s a = 40) ∧ (w.kind = 3 → bt s a = 41) ∧ (w.kind = 5 → bt s a = 42 ∨ bt s a = 43 ∨ bt s a = 63 ∨ bt s a = 123) := by
  have one : ∀ (t : BitVec 256) (p q : Nat), (oneW t p q, 0, 0) = (w, (0 : Nat), (0 : Nat)) → w.kind = 1 := fun t p q h => by
    have := (Prod.mk.inj h).1; rw [← this]; rfl
  unfold nextA at h
  by_cases h1 : bt s a = 40
  · rw [if_pos h1] at h
    have := (Prod.mk.inj h).1
    subst this
    exact ⟨fun _ => h1, (fun h => by cases h), (fun h => by cases h)⟩
  rw [if_neg h1] at h
  by_cases h2 : bt s a = 41
  · rw [if_pos h2] at h
    have := (Prod.mk.inj h).1
    subst this
    exact ⟨(fun h => by cases h), fun _ => h2, (fun h => by cases h)⟩
  rw [if_neg h2] at h
  by_cases h3 : bt s a = 124
  · rw [if_pos h3] at h
    have := (Prod.mk.inj h).1
    subst this
    exact ⟨(fun h => by cases h), (fun h => by cases h), (fun h => by cases h)⟩
  rw [if_neg h3] at h
  by_cases h4 : bt s a = 42 ∨ bt s a = 43 ∨ bt s a = 63 ∨ bt s a = 123
  · rw [if_pos h4] at h
    unfold cntW at h
    generalize readN s a = R at h
    obtain ⟨n, m, p, e, k⟩ := R
    simp only at h
    by_cases he : e ≠ 0
    · rw [if_pos he] at h
      exact absurd (Prod.mk.inj (Prod.mk.inj h).2).1 he
    · rw [if_neg he] at h
      have := (Prod.mk.inj h).1
      subst this
      exact ⟨(fun h => by cases h), (fun h => by cases h), fun _ => h4⟩
  rw [if_neg h4] at h
  have key : w.kind = 1 := by
    by_cases h5 : bt s a = 91
    · rw [if_pos h5] at h
      unfold brkW at h
      generalize readR s a = R at h
      obtain ⟨t, p, e, k⟩ := R
      simp only at h
      by_cases he : e ≠ 0
      · rw [if_pos he] at h
        exact absurd (Prod.mk.inj (Prod.mk.inj h).2).1 he
      · rw [if_neg he] at h
        exact one _ _ _ h
    rw [if_neg h5] at h
    by_cases h6 : bt s a = 46
    · rw [if_pos h6] at h
      exact one _ _ _ h
    rw [if_neg h6] at h
    by_cases h7 : bt s a = 94 ∨ bt s a = 36
    · rw [if_pos h7] at h
      cases (Prod.mk.inj (Prod.mk.inj h).2).1
    rw [if_neg h7] at h
    by_cases h8 : bt s a = 92
    · rw [if_pos h8] at h
      unfold slashW at h
      by_cases h9 : s.size ≤ a + 1
      · rw [if_pos h9] at h
        cases (Prod.mk.inj (Prod.mk.inj h).2).1
      rw [if_neg h9] at h
      by_cases h10 : four14 (bt s (a + 1)) = false
      · rw [if_pos h10] at h
        cases (Prod.mk.inj (Prod.mk.inj h).2).1
      · rw [if_neg h10] at h
        exact one _ _ _ h
    · rw [if_neg h8] at h
      exact one _ _ _ h
  exact ⟨fun h => by omega, fun h => by omega, fun h => by omega⟩

/-! ### A node for each word -/
def kc (k : Int) (l : List NdN) : Nat := (l.map NdN.kind).countP (· == k)
theorem kc_app (k : Int) (l m : List NdN) : kc k (l ++ m) = kc k l + kc k m := by unfold kc; rw [List.map_append, List.countP_append]
def altN (l : List NdN) : Nat := (l.map fun x => if x.kind = 6 then x.kids.toNat - 1 else 0).sum
theorem altN_app (l m : List NdN) : altN (l ++ m) = altN l + altN m := by unfold altN; rw [List.map_append, List.sum_append]
def wc (k : Nat) (ws : List WN) : Nat := ws.countP fun w => w.kind == k
theorem wc_snoc (k : Nat) (ws : List WN) (w : WN) : wc k (ws ++ [w]) = wc k ws + if w.kind = k then 1 else 0 := by
  unfold wc
  rw [List.countP_append]
  simp [List.countP_cons]
def rowsN (st : List (Nat × Nat)) : Nat := (st.map (·.2)).sum
theorem rowsN_bump (st : List (Nat × Nat)) : rowsN (bumpP st) = rowsN st := by
  obtain _ | ⟨⟨n, r⟩, st⟩ := st <;> rfl
theorem kc_row (k : Int) (hk : k = 2 ∨ k = 3 ∨ k = 4) (n : Nat) : kc k (rowT n) = 0 := by
  unfold rowT
  by_cases h : n = 0
  · rw [if_pos h]; rcases hk with rfl | rfl | rfl <;> rfl
  · rw [if_neg h]
    by_cases h1 : n = 1
    · rw [if_pos h1]; rfl
    · rw [if_neg h1]; rcases hk with rfl | rfl | rfl <;> rfl
theorem kc_rows (k : Int) (hk : k = 2 ∨ k = 3 ∨ k = 4) (n : Nat) : kc k (rowsT n) = 0 := by
  unfold rowsT
  by_cases h : 1 < n
  · rw [if_pos h]; rcases hk with rfl | rfl | rfl <;> rfl
  · rw [if_neg h]; rfl
theorem altN_row (n : Nat) : altN (rowT n) = 0 := by
  unfold rowT
  by_cases h : n = 0
  · rw [if_pos h]; rfl
  · rw [if_neg h]
    by_cases h1 : n = 1
    · rw [if_pos h1]; rfl
    · rw [if_neg h1]; rfl
theorem altN_rows (r : Nat) : altN (rowsT (r + 1)) = r := by
  unfold rowsT
  by_cases h : 1 < r + 1
  · rw [if_pos h]
    show (r + 1 : Nat) - 1 + 0 = r
    omega
  · rw [if_neg h]
    show 0 = r
    omega
/-- The nodes so far are those of the words so far. -/
def CInv (x : PS) (ws : List WN) : Prop := kc 2 x.l = wc 1 ws ∧ kc 4 x.l = wc 5 ws ∧ x.groups = wc 2 ws ∧ kc 3 x.l = wc 3 ws ∧ altN x.l + rowsN x.st = wc 4 ws
theorem take_cnt (x : PS) (w : WN) (ws : List WN) (hne : x.st ≠ []) (h : CInv x ws) (hw : w.kind = 1 ∨ w.kind = 2 ∨ w.kind = 3 ∨ w.kind = 4 ∨ w.kind = 5) : CInv (takeP x w) (ws ++ [w]) := by
  obtain ⟨h1, h2, h3, h4, h5⟩ := h
  obtain ⟨l, st, gr⟩ := x
  obtain _ | ⟨⟨n, r⟩, st⟩ := st
  · exact absurd rfl hne
  simp only at h1 h2 h3 h4 h5
  have a2 := kc_row 2 (.inl rfl) n
  have a3 := kc_row 3 (.inr (.inl rfl)) n
  have a4 := kc_row 4 (.inr (.inr rfl)) n
  have b2 := kc_rows 2 (.inl rfl) (r + 1)
  have b3 := kc_rows 3 (.inr (.inl rfl)) (r + 1)
  have b4 := kc_rows 4 (.inr (.inr rfl)) (r + 1)
  have a5 := altN_row n
  have b5 := altN_rows r
  unfold CInv takeP
  simp only [wc_snoc]
  rcases hw with c | c | c | c | c
  · rw [if_pos c]
    simp only [kc_app, altN_app, rowsN_bump, c]
    refine ⟨?_, ?_, ?_, ?_, ?_⟩
    · rw [h1]; rfl
    · rw [h2]; rfl
    · rw [h3]; rfl
    · rw [h4]; rfl
    · rw [← h5]
      show altN l + 0 + _ = _ + 0
      omega
  · rw [if_neg (by omega), if_pos c]
    simp only [c]
    refine ⟨h1, h2, by rw [h3]; rfl, h4, ?_⟩
    rw [← h5]
    show altN l + (0 + rowsN ((n, r) :: st)) = _ + 0
    omega
  · rw [if_neg (by omega), if_neg (by omega), if_pos c]
    simp only [rowsP, kc_app, altN_app, rowsN_bump, c, a2, a3, a4, b2, b3, b4, a5, b5]
    have e2 : kc 2 [ndG] = 0 := rfl
    have e3 : kc 3 [ndG] = 1 := rfl
    have e4 : kc 4 [ndG] = 0 := rfl
    have e5 : altN [ndG] = 0 := rfl
    have e6 : rowsN ((n, r) :: st) = r + rowsN st := rfl
    rw [e2, e3, e4, e5]
    rw [e6] at h5
    refine ⟨by rw [h1]; rfl, by rw [h2]; rfl, by rw [h3]; rfl, by rw [h4]; rfl, ?_⟩
    rw [← h5]
    show _ = _ + 0
    omega
  · rw [if_neg (by omega), if_neg (by omega), if_neg (by omega), if_pos c]
    simp only [rowP, kc_app, altN_app, c, a2, a3, a4, a5]
    have e6 : rowsN ((n, r) :: st) = r + rowsN st := rfl
    have e7 : rowsN ((0, r + 1) :: st) = r + 1 + rowsN st := rfl
    rw [e6] at h5
    rw [e7]
    refine ⟨by rw [h1]; rfl, by rw [h2]; rfl, by rw [h3]; rfl, by rw [h4]; rfl, ?_⟩
    rw [← h5]
    show _ = _ + 1
    omega
  · rw [if_neg (by omega), if_neg (by omega), if_neg (by omega), if_neg (by omega), if_pos c]
    simp only [kc_app, altN_app, c]
    refine ⟨?_, ?_, ?_, ?_, ?_⟩
    · rw [h1]; rfl
    · rw [h2]; rfl
    · rw [h3]; rfl
    · rw [h4]; rfl
    · rw [← h5]
      show altN l + 0 + _ = _ + 0
      omega
theorem okW_kind (w : WN) (h : OkW w) : w.kind = 1 ∨ w.kind = 2 ∨ w.kind = 3 ∨ w.kind = 4 ∨ w.kind = 5 := by
  rcases h with h | h | h <;> omega
theorem take_st (x : PS) (w : WN) (hi : PInv (takeP x w)) : (takeP x w).st ≠ [] := hi.1
/-- **What is parsed is a pattern's tree, with a node for each word; beside an error there is none.** -/
theorem readP_spec (s : ByteArray) : ∀ k a x ws, a ≤ s.size → s.size < k + a → PInv x → CInv x ws →
    ((readP s k a x).2.2.1 ≠ 0 ∧ (readP s k a x).1 = zPS ∧ (readP s k a x).2.2.2 ≤ s.size) ∨
    ((readP s k a x).2 = (0, 0, 0) ∧ rightR (readP s k a x).1.l = true ∧ ∃ wl, allN s k a ws = (wl, 0, 0) ∧ kc 2 (readP s k a x).1.l = wc 1 wl ∧ kc 4 (readP s k a x).1.l = wc 5 wl ∧ kc 3 (readP s k a x).1.l = wc 2 wl ∧ wc 2 wl = wc 3 wl ∧ altN (readP s k a x).1.l = wc 4 wl)
  | 0, a, x, ws, ha, hk, _, _ => by omega
  | k + 1, a, x, ws, ha, hk, hi, hc => by
    rw [readP]
    by_cases hend : s.size ≤ a
    · rw [if_pos hend]
      obtain rfl : a = s.size := by omega
      by_cases hop : 1 < x.st.length
      · rw [if_pos hop]
        exact .inl ⟨(by decide : (2 : Nat) ≠ 0), rfl, Nat.le_refl _⟩
      · rw [if_neg hop]
        obtain ⟨hne, ⟨ks, h1, h2⟩, h3, h4⟩ := hi
        obtain ⟨l, st, gr⟩ := x
        obtain _ | ⟨⟨n, r⟩, st⟩ := st
        · exact absurd rfl hne
        obtain rfl : st = [] := by
          cases st with
          | nil => rfl
          | cons _ _ => simp at hop
        obtain ⟨c, rest, g1, g2⟩ := rows_inv l ks n r [] h1 h2
        obtain rfl : rest = [] := g2
        obtain ⟨c1, c2, c3, c4, c5⟩ := hc
        simp only at c1 c2 c3 c4 c5 h3 h4
        have a2 := kc_row 2 (.inl rfl) n
        have a3 := kc_row 3 (.inr (.inl rfl)) n
        have a4 := kc_row 4 (.inr (.inr rfl)) n
        have b2 := kc_rows 2 (.inl rfl) (r + 1)
        have b3 := kc_rows 3 (.inr (.inl rfl)) (r + 1)
        have b4 := kc_rows 4 (.inr (.inr rfl)) (r + 1)
        have a5 := altN_row n
        have b5 := altN_rows r
        have e6 : rowsN [(n, r)] = r + 0 := rfl
        have hg : g3 l = kc 3 l := rfl
        rw [e6] at c5
        simp only [List.length_cons, List.length_nil] at h3
        refine .inr ⟨rfl, ?_, ws, allN_end s k ws, ?_, ?_, ?_, ?_, ?_⟩
        · refine kst_right _ c g1 ?_
          show kc 3 (l ++ rowT n ++ rowsT (r + 1)) ≤ 9
          rw [kc_app, kc_app, a3, b3]
          omega
        · show kc 2 (l ++ rowT n ++ rowsT (r + 1)) = _
          rw [kc_app, kc_app, a2, b2]
          omega
        · show kc 4 (l ++ rowT n ++ rowsT (r + 1)) = _
          rw [kc_app, kc_app, a4, b4]
          omega
        · show kc 3 (l ++ rowT n ++ rowsT (r + 1)) = _
          rw [kc_app, kc_app, a3, b3]
          omega
        · omega
        · show altN (l ++ rowT n ++ rowsT (r + 1)) = _
          rw [altN_app, altN_app, a5, b5]
          omega
    · rw [if_neg hend]
      have hlt : a < s.size := by omega
      by_cases hf : firstP x (bt s a) ≠ 0
      · rw [if_pos hf]
        exact .inl ⟨hf, rfl, by show a + 1 ≤ _; omega⟩
      · rw [if_neg hf]
        have hf0 : firstP x (bt s a) = 0 := Decidable.not_not.1 hf
        have hE := nextA_end s a hlt
        have hkd := next_kinds s a
        have hmore := allN_more s k a ws
        generalize nextA s a = X at *
        obtain ⟨w, e, p⟩ := X
        simp only
        rcases hE with ⟨e1, e2, e3, e4, e5, e6⟩ | ⟨e1, _, _, _, e5, _⟩
        · simp only at e1 e2 e3 e4 e5 e6
          subst e1 e2
          rw [if_neg (by decide), hmore w hlt rfl]
          obtain ⟨k2, k3, k5⟩ := hkd w rfl
          have hi2 := take_inv s a x w hi hf0 e3 k2 k3 k5
          exact readP_spec s k w.fin (takeP x w) (ws ++ [w]) e6 (by omega) hi2 (take_cnt x w ws hi.1 hc (okW_kind w e3))
        · simp only at e1 e5
          rw [if_pos e1]
          exact .inl ⟨e1, rfl, e5⟩
end Go.Proofs.Ythodphgbdmnpoaa

/- What is wrong at a place is wrong there, whatever stands behind; nothing is wrong ahead of it. Stage 7. -/
namespace Go.Proofs.Ythodphgbdmnpoaa
open Go.RowKit BS

theorem Agr.symm {n : Nat} {s s' : ByteArray} (h : Agr n s s') : Agr n s' s := ⟨h.2.1, h.1, fun i hi => (h.2.2 i hi).symm⟩
def cutW (X : WN × Nat × Nat) : Nat := if X.2.1 = 0 then X.1.fin else X.2.2
theorem nextA_agr (s s' : ByteArray) (a : Nat) (ha : a < s.size) (h2 : (nextA s a).2.1 ≠ 2) (hA : Agr (cutW (nextA s a)) s s') : nextA s' a = nextA s a := by
  have hlt : a < cutW (nextA s a) := by
    unfold cutW
    rcases nextA_end s a ha with ⟨e1, _, _, _, e5, _⟩ | ⟨e1, _, _, e4, _, _⟩
    · rw [if_pos e1]; exact e5
    · rw [if_neg e1]; exact e4
  have hb := hA.2.2 a hlt
  have hz := hA.2.1
  unfold nextA at *
  rw [← hb]
  by_cases c1 : bt s a = 40
  · rw [if_pos c1, if_pos c1]
  rw [if_neg c1] at h2 hA hlt ⊢
  rw [if_neg c1]
  by_cases c2 : bt s a = 41
  · rw [if_pos c2, if_pos c2]
  rw [if_neg c2] at h2 hA hlt ⊢
  rw [if_neg c2]
  by_cases c3 : bt s a = 124
  · rw [if_pos c3, if_pos c3]
  rw [if_neg c3] at h2 hA hlt ⊢
  rw [if_neg c3]
  by_cases c4 : bt s a = 42 ∨ bt s a = 43 ∨ bt s a = 63 ∨ bt s a = 123
  · rw [if_pos c4] at h2 hA hlt ⊢
    rw [if_pos c4]
    have hE := cntW_end s a ha c4
    have hcw : cutW (cntW s a) = (if (readN s a).2.2.2.1 = 0 then (readN s a).2.2.1 else (readN s a).2.2.2.2) ∧ (cntW s a).2.1 = (readN s a).2.2.2.1 := by
      unfold cutW cntW
      generalize readN s a = R
      obtain ⟨n, m, p, e, k⟩ := R
      simp only
      by_cases he : e = 0
      · subst he; simp
      · simp [he]
    have he1 : (readN s a).2.2.2.1 ≠ 1 := by
      rw [← hcw.2]
      rcases hE with ⟨e1, _⟩ | ⟨_, e1, _⟩
      · rw [e1]; decide
      · exact e1
    have := readN_agr s s' a he1 (by rw [← hcw.2]; exact h2) (by rw [← hcw.1]; exact hA)
    unfold cntW
    rw [this]
  rw [if_neg c4] at h2 hA hlt ⊢
  rw [if_neg c4]
  by_cases c5 : bt s a = 91
  · rw [if_pos c5] at h2 hA hlt ⊢
    rw [if_pos c5]
    have hE := brkW_end s a ha c5
    have hcw : cutW (brkW s a) = cutT (readR s a) ∧ (brkW s a).2.1 = (readR s a).2.2.1 := by
      unfold cutW cutT brkW
      generalize readR s a = R
      obtain ⟨t, p, e, k⟩ := R
      simp only
      by_cases he : e = 0
      · subst he; simp [oneW]
      · simp [he]
    have he1 : (readR s a).2.2.1 ≠ 1 := by
      rw [← hcw.2]
      rcases hE with ⟨e1, _⟩ | ⟨_, e1, _⟩
      · rw [e1]; decide
      · exact e1
    have := readR_agr s s' a he1 (by rw [← hcw.2]; exact h2) (by rw [← hcw.1]; exact hA)
    unfold brkW
    rw [this]
  rw [if_neg c5] at h2 hA hlt ⊢
  rw [if_neg c5]
  by_cases c6 : bt s a = 46
  · rw [if_pos c6, if_pos c6]
  rw [if_neg c6] at h2 hA hlt ⊢
  rw [if_neg c6]
  by_cases c7 : bt s a = 94 ∨ bt s a = 36
  · rw [if_pos c7, if_pos c7]
  rw [if_neg c7] at h2 hA hlt ⊢
  rw [if_neg c7]
  by_cases c8 : bt s a = 92
  · rw [if_pos c8] at h2 hA hlt ⊢
    rw [if_pos c8]
    unfold slashW at *
    by_cases c9 : s.size ≤ a + 1
    · rw [if_pos c9] at h2
      exact absurd rfl h2
    rw [if_neg c9] at h2 hA hlt ⊢
    have hcut : (if four14 (bt s (a + 1)) = false then (zWN, 3, a + 2) else (oneW (range (bt s (a + 1)) (bt s (a + 1))) a (a + 2), 0, 0) : WN × Nat × Nat) = (if four14 (bt s (a + 1)) = false then (zWN, 3, a + 2) else (oneW (range (bt s (a + 1)) (bt s (a + 1))) a (a + 2), 0, 0)) := rfl
    have hc2 : cutW (if four14 (bt s (a + 1)) = false then (zWN, 3, a + 2) else (oneW (range (bt s (a + 1)) (bt s (a + 1))) a (a + 2), 0, 0)) = a + 2 := by
      by_cases c10 : four14 (bt s (a + 1)) = false
      · rw [if_pos c10]; rfl
      · rw [if_neg c10]; rfl
    rw [hc2] at hA
    have h3 := hA.2.1
    rw [if_neg (by omega), ← hA.2.2 (a + 1) (by omega)]
  · rw [if_neg c8, if_neg c8]
/-- Where it is wrong: behind where it began, and in the text. -/
theorem readP_place (s : ByteArray) : ∀ k a x, a ≤ s.size → s.size < k + a → (readP s k a x).2.2.1 ≠ 0 → (readP s k a x).2.2.1 ≠ 2 → a < (readP s k a x).2.2.2 ∧ (readP s k a x).2.2.2 ≤ s.size
  | 0, a, x, ha, hk, _, _ => by omega
  | k + 1, a, x, ha, hk, h0, h2 => by
    rw [readP] at h0 h2 ⊢
    by_cases hend : s.size ≤ a
    · rw [if_pos hend] at h0 h2
      by_cases hop : 1 < x.st.length
      · rw [if_pos hop] at h2; exact absurd rfl h2
      · rw [if_neg hop] at h0; exact absurd rfl h0
    rw [if_neg hend] at h0 h2 ⊢
    have hlt : a < s.size := by omega
    by_cases hf : firstP x (bt s a) ≠ 0
    · rw [if_pos hf]
      exact ⟨Nat.lt_succ_self a, hlt⟩
    rw [if_neg hf] at h0 h2 ⊢
    have hE := nextA_end s a hlt
    generalize nextA s a = X at *
    obtain ⟨w, e, p⟩ := X
    simp only at h0 h2 ⊢
    rcases hE with ⟨e1, _, _, _, e5, e6⟩ | ⟨e1, _, _, e4, e5, _⟩
    · simp only at e1 e5 e6
      subst e1
      rw [if_neg (by decide)] at h0 h2 ⊢
      have := readP_place s k w.fin (takeP x w) e6 (by omega) h0 h2
      omega
    · simp only at e1 e4 e5
      rw [if_pos e1]
      exact ⟨e4, e5⟩
/-- **What is wrong at a place is wrong there, whatever stands behind.** -/
theorem readP_sure (s s' : ByteArray) : ∀ k k' a x, a ≤ s.size → s.size < k + a → s'.size < k' + a → (readP s k a x).2.2.1 ≠ 0 → (readP s k a x).2.2.1 ≠ 2 → Agr (readP s k a x).2.2.2 s s' → readP s' k' a x = readP s k a x
  | 0, k', a, x, ha, hk, _, _, _, _ => by omega
  | k + 1, k', a, x, ha, hk, hk', h0, h2, hA => by
    have hpl := readP_place s (k + 1) a x ha hk h0 h2
    have hz := hA.2.1
    have hs' : a < s'.size := by omega
    obtain ⟨k', rfl⟩ : ∃ m, k' = m + 1 := ⟨k' - 1, by omega⟩
    have hb := hA.2.2 a hpl.1
    rw [readP] at h0 h2 hA hpl ⊢
    rw [readP]
    by_cases hend : s.size ≤ a
    · rw [if_pos hend] at h0 h2
      by_cases hop : 1 < x.st.length
      · rw [if_pos hop] at h2; exact absurd rfl h2
      · rw [if_neg hop] at h0; exact absurd rfl h0
    rw [if_neg hend] at h0 h2 hA hpl ⊢
    have hlt : a < s.size := by omega
    rw [if_neg (show ¬ s'.size ≤ a by omega), ← hb]
    by_cases hf : firstP x (bt s a) ≠ 0
    · rw [if_pos hf, if_pos hf]
    rw [if_neg hf] at h0 h2 hA hpl ⊢
    rw [if_neg hf]
    have hE := nextA_end s a hlt
    have hag := nextA_agr s s' a hlt
    generalize nextA s a = X at *
    obtain ⟨w, e, p⟩ := X
    simp only at h0 h2 hA hpl ⊢
    rcases hE with ⟨e1, e2, _, _, e5, e6⟩ | ⟨e1, _, _, e4, e5, _⟩
    · simp only at e1 e2 e5 e6
      subst e1
      subst e2
      rw [if_neg (show ¬ (0 : Nat) ≠ 0 by decide)] at h0 h2 hA hpl ⊢
      have hp2 := readP_place s k w.fin (takeP x w) e6 (by omega) h0 h2
      have hx : nextA s' a = (w, 0, 0) := hag (by show (0 : Nat) ≠ 2; decide) (hA.le (by show w.fin ≤ _; omega))
      rw [hx]
      show (if (0 : Nat) ≠ 0 then (zPS, 0, 0, 0) else readP s' k' w.fin (takeP x w)) = _
      rw [if_neg (show ¬ (0 : Nat) ≠ 0 by decide)]
      exact readP_sure s s' k k' w.fin (takeP x w) e6 (by omega) (by omega) h0 h2 hA
    · simp only at e1 e4 e5
      rw [if_pos e1] at h0 h2 hA ⊢
      have hx : nextA s' a = (w, e, p) := hag h2 (by
        have : cutW (w, e, p) = p := if_neg e1
        rw [this]; exact hA)
      rw [hx]
      show (if e ≠ 0 then (zPS, 0, e, p) else readP s' k' w.fin (takeP x w)) = _
      rw [if_pos e1]
/-- **Nothing is wrong ahead of it.** -/
theorem readP_cut (s s' : ByteArray) (k k' a : Nat) (x : PS) (ha' : a ≤ s'.size) (hk : s.size < k + a) (hk' : s'.size < k' + a)
    (hz : s'.size + 1 = (readP s k a x).2.2.2) (hA : Agr s'.size s s') : (readP s' k' a x).2.2.1 = 0 ∨ (readP s' k' a x).2.2.1 = 2 := by
  by_cases g0 : (readP s' k' a x).2.2.1 = 0
  · exact .inl g0
  by_cases g2 : (readP s' k' a x).2.2.1 = 2
  · exact .inr g2
  exfalso
  have hp := readP_place s' k' a x ha' hk' g0 g2
  have he := readP_sure s' s k' k a x ha' hk' hk g0 g2 (hA.symm.le hp.2)
  rw [he] at hz
  omega
end Go.Proofs.Ythodphgbdmnpoaa

/- Rows of a call's own: kept where their blocks are; nodes side by side. -/
namespace Go.Proofs.Ythodphgbdmnpoaa
open Go.RowKit BS

/-- A row of the call's own, kept where its block is. -/
theorem owns_keep {W W' : World} {base : Nat} {e : TypeId} {size : Nat} {v : Value} {n : Nat} {xs : List Value} (h : W.ownsRow base e size v n xs) (hb : ∀ g, v.ownBlock = some g → W'.heap[g]? = W.heap[g]?) : W'.ownsRow base e size v n xs := by
  refine ⟨h.1, ?_⟩
  rcases h.2 with hn | ⟨g, cap, cur, rfl, h1, h2, h3⟩
  · exact .inl hn
  · exact .inr ⟨g, cap, cur, rfl, h1, (hb g rfl).trans h2, h3⟩
theorem owns_form {W : World} {base : Nat} {e : TypeId} {size : Nat} {v : Value} {n : Nat} {xs : List Value} (h : W.ownsRow base e size v n xs) : ∃ a cap, v = .slice a n cap := by
  rcases h.2 with ⟨rfl, rfl⟩ | ⟨g, cap, cur, rfl, _⟩
  · exact ⟨_, _, rfl⟩
  · exact ⟨_, _, rfl⟩
theorem owns_last {W : World} {base : Nat} {e : TypeId} {v x : Value} {n : Nat} {xs : List Value} (h : W.ownsRow base e 1 v (n + 1) (xs ++ [x])) :
    ∃ g cap, v = .slice (some ⟨g, 0, none⟩) (n + 1) cap ∧ base ≤ g ∧ g < W.heap.size ∧ n + 1 ≤ cap ∧ W.cell? ⟨g, n, none⟩ = some x ∧ W.ownsRow base e 1 (.slice (some ⟨g, 0, none⟩) n cap) n xs := by
  have hl := h.1
  rw [List.length_append, List.length_singleton, Nat.mul_one] at hl
  rcases h.2 with ⟨_, h0⟩ | ⟨g, cap, cur, rfl, h1, h2, h3, h4, h5, h6⟩
  · omega
  · have hlt : g < W.heap.size := (Array.getElem?_eq_some_iff.1 h2).1
    refine ⟨g, cap, rfl, h1, hlt, h3, ?_, ⟨by omega, .inr ⟨g, cap, cur, rfl, h1, h2, by omega, h4, h5, ?_⟩⟩⟩
    · have hc : W.cell? ⟨g, n, none⟩ = cur[n]? := by simp [World.cell?, h2]
      have := congrArg (fun l : List Value => l[n]?) h6
      simp only [Nat.mul_one] at this
      rw [List.getElem?_take, if_pos (show n < n + 1 by omega), List.getElem?_append_right (show xs.length ≤ n by omega), show n - xs.length = 0 by omega] at this
      rw [hc, ← Array.getElem?_toList, this]
      rfl
    · have := congrArg (List.take (n * 1)) h6
      rw [List.take_take, show min (n * 1) ((n + 1) * 1) = n * 1 by omega, List.take_append_of_le_length (show n * 1 ≤ xs.length by omega), List.take_of_length_le (show xs.length ≤ n * 1 by omega)] at this
      exact this

/-! ### Nodes side by side -/
theorem info8n : (Try.prog.info? 32).map (fun i => (i.zero, i.size, i.bytes)) = some (some (.agg #[.int .i64 0, .int .i64 0, .int .i64 0, .int .i64 0, .int .u64 0, .int .u64 0, .int .u64 0, .int .u64 0]), 8, 64) := by kernel_rfl
def ndCells (l : List NdN) : List Value := l.flatMap fun x => (ndA x).toList
theorem ndCells_app (l m : List NdN) : ndCells (l ++ m) = ndCells l ++ ndCells m := by simp [ndCells]
theorem ndCells_len (l : List NdN) : (ndCells l).length = l.length * 8 := by
  induction l with
  | nil => rfl
  | cons x l ih =>
    have e : ndCells (x :: l) = (ndA x).toList ++ ndCells l := by simp [ndCells]
    rw [e, List.length_append, ih, List.length_cons, show (ndA x).toList.length = 8 from rfl]
    omega
theorem ndCells_get : ∀ (l : List NdN) (i j : Nat) (h : i < l.length) (_hj : j < 8), (ndCells l)[i * 8 + j]? = (ndA l[i])[j]?
  | [], _, _, h, _ => absurd h (by simp)
  | x :: l, i, j, h, hj => by
    have e : ndCells (x :: l) = (ndA x).toList ++ ndCells l := by simp [ndCells]
    rw [e]
    cases i with
    | zero =>
      rw [List.getElem?_append_left (by rw [show (ndA x).toList.length = 8 from rfl]; omega), Nat.zero_mul, Nat.zero_add]
      simp
    | succ i =>
      rw [List.getElem?_append_right (by rw [show (ndA x).toList.length = 8 from rfl]; omega), show (ndA x).toList.length = 8 from rfl, show (i + 1) * 8 + j - 8 = i * 8 + j by omega]
      exact ndCells_get l i j (by simpa using h) hj
theorem ndCells_one (l : List NdN) : ∀ u ∈ ndCells l, u.oneCell' = true := fun u hu => by
  unfold ndCells at hu
  obtain ⟨x, _, hx⟩ := List.mem_flatMap.1 hu
  have h1 : ((ndA x).toList.all fun y => y.oneCell') = true := by simp [ndA, Value.oneCell']
  exact List.all_eq_true.1 h1 u hx
theorem nodes_news {l : List NdN} {g off : Nat} {W : World} (h : NodesAt l (some ⟨g, off, none⟩) W) : ∀ j u, (ndCells l)[j]? = some u → W.cell? ((⟨g, off, none⟩ : Addr).add j) = some u := fun j u hu => by
  have hj : j < (ndCells l).length := (List.getElem?_eq_some_iff.1 hu).1
  rw [ndCells_len] at hj
  have hne : l ≠ [] := by rintro rfl; simp at hj
  obtain ⟨g', off', e, _, hc⟩ := h hne
  cases e
  have h1 := hc (j / 8) (by omega) (j % 8) (by omega)
  rw [← ndCells_get l (j / 8) (j % 8) (by omega) (by omega), show off + j / 8 * 8 + j % 8 = off + j by omega, show j / 8 * 8 + j % 8 = j by omega, hu] at h1
  have e : (⟨g, off, none⟩ : Addr).add j = ⟨g, off + j, none⟩ := by
    unfold Addr.add
    by_cases h0 : j = 0
    · subst h0; rfl
    · rw [if_neg h0]
  rw [e]
  exact h1
theorem nodes_of_owns {l : List NdN} {v : Value} {base : Nat} {W : World} (h : W.ownsRow base 32 8 v l.length (ndCells l)) (hne : l ≠ []) : ∃ g cap, v = .slice (some ⟨g, 0, none⟩) l.length cap ∧ base ≤ g ∧ NodesAt l (some ⟨g, 0, none⟩) W := by
  rcases h.2 with ⟨_, h0⟩ | ⟨g, cap, cur, rfl, hb, hg, _, _, _, _⟩
  · exact absurd (List.eq_nil_of_length_eq_zero h0) hne
  · refine ⟨g, cap, rfl, hb, fun _ => ⟨g, 0, rfl, (Array.getElem?_eq_some_iff.1 hg).1, fun i hi j hj => ?_⟩⟩
    rw [Nat.zero_add]
    have hjj : i * 8 + j < (ndCells l).length := by rw [ndCells_len]; omega
    exact (h.cellAt (i * 8 + j) (by omega)).trans (ndCells_get l i j hi hj)
theorem owns_empty (W : World) (base : Nat) (hb : base ≤ W.heap.size) : (W.alloc (.cells #[] 32)).ownsRow base 32 8 (.slice (some ⟨W.heap.size, 0, none⟩) 0 0) 0 [] :=
  ⟨rfl, .inr ⟨W.heap.size, 0, #[], rfl, hb, Blk.new W #[] 32, Nat.le_refl _, Nat.zero_le _, rfl, rfl⟩⟩
end Go.Proofs.Ythodphgbdmnpoaa

/- The laws of stage 7: what they want of the package parse; sure. -/
namespace Go.Proofs.Ythodphgbdmnpoaa
open Go.RowKit BS

/-- What the laws want of the package parse. -/
structure ParseC : Prop where
  parse : ∀ (s : ByteArray), s.size ≤ 1000000 → ∀ (w : World), Calls Try.prog 6 #[.string s] w fun e w' => ∃ v, e = .returned (.tuple #[v, .int .i64 (parseN s).2.2.1, .int .i64 (parseN s).2.2.2]) ∧ w'.ownsRow w.heap.size 32 8 v (parseN s).1.l.length (ndCells (parseN s).1.l) ∧ Below w.heap.size w w'
  openG : ∀ (s : ByteArray), s.size ≤ 1000000 → ∀ (w : World), Calls Try.prog 8 #[.string s] w fun e w' => e = .returned (.int .i64 (parseN s).2.1) ∧ Below w.heap.size w w'

/-! ### sure -/
def s71 : ByteArray := ⟨#[97, 40, 98, 124, 41, 42]⟩
def s72 : ByteArray := ⟨#[97, 41]⟩
def s73 : ByteArray := ⟨#[97, 124, 42]⟩
def s74 : ByteArray := ⟨#[97, 40, 40, 98, 41, 99]⟩
theorem s71_len : (parseN s71).1.l.length = 7 := by decide +kernel
theorem s71_e : (parseN s71).2.2 = (0, 0) := by decide +kernel
theorem s71_3 : ((parseN s71).1.l[3]?).map (fun x => x.kind) = some 6 := by decide +kernel
theorem s71_6 : ((parseN s71).1.l[6]?).map (fun x => x.kids) = some 2 := by decide +kernel
theorem s72_e : (parseN s72).2.2 = (8, 2) := by decide +kernel
theorem s73_e : (parseN s73).2.2 = (7, 3) := by decide +kernel
theorem s74_e : (parseN s74).2.1 = 1 := by decide +kernel
theorem s71_c (C : ParseC) (w : World) : Calls Try.prog 6 #[.string ⟨#[97, 40, 98, 124, 41, 42]⟩] w fun e w' => ∃ g cap, e = .returned (.tuple #[.slice (some ⟨g, 0, none⟩) 7 cap, .int .i64 0, .int .i64 0]) ∧
    (g < w'.heap.size ∧ w'.cell? ⟨g, 24, none⟩ = some (.int .i64 6) ∧ w'.cell? ⟨g, 49, none⟩ = some (.int .i64 2)) ∧ Below w.heap.size w w' := by
  refine (C.parse s71 (by decide) w).mono ?_
  rintro e w' ⟨v, rfl, hv, hb⟩
  have h7 := s71_len
  have h3 := s71_3
  have h6 := s71_6
  rw [s71_e]
  generalize (parseN s71).1.l = l at *
  obtain ⟨g, cap, rfl, _, hn⟩ := nodes_of_owns hv (by rintro rfl; cases h7)
  obtain ⟨g', off, e, hlt, hc⟩ := hn (by rintro rfl; cases h7)
  cases e
  rw [h7]
  have c3 := hc 3 (by omega) 0 (by omega)
  have c6 := hc 6 (by omega) 1 (by omega)
  rw [List.getElem?_eq_getElem (by omega)] at h3 h6
  simp only [Option.map_some, Option.some.injEq] at h3 h6
  refine ⟨g, cap, rfl, ⟨hlt, ?_, ?_⟩, hb⟩
  · rw [← h3]; exact c3
  · rw [← h6]; exact c6
set_option maxRecDepth 100000 in
set_option maxHeartbeats 8000000 in
theorem sure7_calls (C : ParseC) (w : World) : Calls Try.prog 5 #[] w fun e w' => e = .returned (.bool true) ∧ Below w.heap.size w w' := by
  have h2 := fun w => C.parse s72 (by decide) w
  have h3 := fun w => C.parse s73 (by decide) w
  have h4 := fun w => C.openG s74 (by decide) w
  rw [s72_e] at h2
  rw [s73_e] at h3
  rw [s74_e] at h4
  have H1 := Lib.hid (s71_c C)
  have H2 : Hid (∀ w, Calls Try.prog 6 #[.string ⟨#[97, 41]⟩] w fun e w' => ∃ v, e = .returned (.tuple #[v, .int .i64 8, .int .i64 2]) ∧ Below w.heap.size w w') := Lib.hid fun w => (h2 w).mono fun _ _ ⟨v, h1, _, h3⟩ => ⟨v, h1, h3⟩
  have H3 : Hid (∀ w, Calls Try.prog 6 #[.string ⟨#[97, 124, 42]⟩] w fun e w' => ∃ v, e = .returned (.tuple #[v, .int .i64 7, .int .i64 3]) ∧ Below w.heap.size w w') := Lib.hid fun w => (h3 w).mono fun _ _ ⟨v, h1, _, h3⟩ => ⟨v, h1, h3⟩
  have H4 : Hid (∀ w, Calls Try.prog 8 #[.string ⟨#[97, 40, 40, 98, 41, 99]⟩] w fun e w' => e = .returned (.int .i64 1) ∧ Below w.heap.size w w') := Lib.hid h4
  clear h2 h3 h4 C
  go_enter Try.func5, Try.ntmps5
  go_wp2_with fail
  refine (H1.out _).mono ?_
  rintro e w1 ⟨g, cap, rfl, ⟨hg, c3, c6⟩, hb⟩
  have HC := Lib.hid (And.intro hg (And.intro c3 c6))
  have HB := Lib.hid hb
  clear hg c3 c6 hb H1
  go_wp2_with fail
  refine (H2.out _).mono ?_
  rintro e w2 ⟨v2, rfl, hb⟩
  have HC2 := Lib.hid (show g < w2.heap.size ∧ w2.cell? ⟨g, 24, none⟩ = some (.int .i64 6) ∧ w2.cell? ⟨g, 49, none⟩ = some (.int .i64 2) from ⟨Nat.lt_of_lt_of_le HC.out.1 hb.size, (hb.cell (p := ⟨g, 24, none⟩) HC.out.1).trans HC.out.2.1, (hb.cell (p := ⟨g, 49, none⟩) HC.out.1).trans HC.out.2.2⟩)
  have HB2 := Lib.hid (HB.out.trans (hb.mono HB.out.size))
  clear HC HB hb H2
  go_wp2_with fail
  refine (H3.out _).mono ?_
  rintro e w3 ⟨v3, rfl, hb⟩
  obtain ⟨c3, c6⟩ := (show w3.cell? ⟨g, 24, none⟩ = some (.int .i64 6) ∧ w3.cell? ⟨g, 49, none⟩ = some (.int .i64 2) from ⟨(hb.cell (p := ⟨g, 24, none⟩) HC2.out.1).trans HC2.out.2.1, (hb.cell (p := ⟨g, 49, none⟩) HC2.out.1).trans HC2.out.2.2⟩)
  have HB3 := Lib.hid (HB2.out.trans (hb.mono HB2.out.size))
  clear HC2 HB2 hb H3
  go_wp2_with fail
  refine (H4.out _).mono ?_
  rintro e w4 ⟨rfl, hb⟩
  have HB4 := Lib.hid (HB3.out.trans (hb.mono HB3.out.size))
  clear hb HB3 c3 c6
  go_wp2_with fail
  go_ret
  exact ⟨rfl, HB4.out⟩
end Go.Proofs.Ythodphgbdmnpoaa

/- The laws of stage 7: ParseSure. -/
namespace Go.Proofs.Ythodphgbdmnpoaa
open Go.RowKit BS

/-- Parse, where its tree is not looked at. -/
theorem parse_ek (C : ParseC) (s : ByteArray) (hs : s.size ≤ 1000000) (w : World) : Calls Try.prog 6 #[.string s] w fun e w' => ∃ v, e = .returned (.tuple #[v, .int .i64 (parseN s).2.2.1, .int .i64 (parseN s).2.2.2]) ∧ Below w.heap.size w w' :=
  (C.parse s hs w).mono fun _ _ ⟨v, h1, _, h3⟩ => ⟨v, h1, h3⟩
set_option maxRecDepth 100000 in
set_option maxHeartbeats 16000000 in
theorem parseSure_calls (C : ParseC) (s more : ByteArray) (hs : s.size ≤ 9223372036854775807) (hm : more.size ≤ 9223372036854775807) (w : World) : Calls Try.prog 3 #[.string s, .string more] w fun e w' => e = .returned (.bool true) ∧ Below w.heap.size w w' := by
  have HSU := Lib.hid (sure7_calls C)
  by_cases hl : 300 < s.size
  · have q : decide (300 < s.size) = true := by simpa using hl
    clear C
    go_enter Try.func3, Try.ntmps3
    go_wp2_with fail
    refine (HSU.out _).mono ?_
    rintro e w1 ⟨rfl, hb⟩
    go_wp2_with fail
    go_ret
    exact ⟨rfl, hb⟩
  have q : decide (300 < s.size) = false := by simpa using hl
  by_cases hl2 : 100 < more.size
  · have q2 : decide (100 < more.size) = true := by simpa using hl2
    clear C
    go_enter Try.func3, Try.ntmps3
    go_wp2_with fail
    refine (HSU.out _).mono ?_
    rintro e w1 ⟨rfl, hb⟩
    go_wp2_with fail
    go_ret
    exact ⟨rfl, hb⟩
  have q2 : decide (100 < more.size) = false := by simpa using hl2
  have hP := parse_ek C s (by omega)
  by_cases h02 : (parseN s).2.2.1 = 0 ∨ (parseN s).2.2.1 = 2
  · generalize (parseN s).2.2.2 = k at *
    generalize (parseN s).2.2.1 = er at *
    have HP := Lib.hid hP
    clear hP C
    rcases h02 with rfl | rfl
    all_goals
      go_enter Try.func3, Try.ntmps3
      go_wp2_with fail
      refine (HP.out _).mono ?_
      rintro e w1 ⟨v, rfl, hb⟩
      have HB := Lib.hid hb
      clear HP hb
      go_wp2_with fail
      refine (HSU.out _).mono ?_
      rintro e w2 ⟨rfl, hb⟩
      have hb2 := HB.out.trans (hb.mono HB.out.size)
      clear HB hb HSU
      go_wp2_with fail
      go_ret
      exact ⟨rfl, hb2⟩
  have h0 : (parseN s).2.2.1 ≠ 0 := fun h => h02 (.inl h)
  have h2 : (parseN s).2.2.1 ≠ 2 := fun h => h02 (.inr h)
  have hpl := readP_place s (s.size + 1) 0 sPS (Nat.zero_le _) (by omega) h0 h2
  change 0 < (parseN s).2.2.2 ∧ (parseN s).2.2.2 ≤ s.size at hpl
  have hA : Agr (parseN s).2.2.2 s (s.extract 0 (parseN s).2.2.2 ++ more) := agr_cut s more _ hpl.2
  have hsz : (s.extract 0 (parseN s).2.2.2 ++ more).size ≤ 1000 := by rw [ByteArray.size_append, ByteArray.size_extract]; omega
  have hS : parseN (s.extract 0 (parseN s).2.2.2 ++ more) = parseN s :=
    readP_sure s (s.extract 0 (parseN s).2.2.2 ++ more) (s.size + 1) _ 0 sPS (Nat.zero_le _) (by omega) (by omega) h0 h2 hA
  have hP2 := parse_ek C (s.extract 0 (parseN s).2.2.2 ++ more) (by omega)
  rw [hS] at hP2
  have hz3 : (s.extract 0 ((parseN s).2.2.2 - 1)).size = (parseN s).2.2.2 - 1 := by rw [ByteArray.size_extract]; omega
  have hC : (parseN (s.extract 0 ((parseN s).2.2.2 - 1))).2.2.1 = 0 ∨ (parseN (s.extract 0 ((parseN s).2.2.2 - 1))).2.2.1 = 2 := by
    refine readP_cut s (s.extract 0 ((parseN s).2.2.2 - 1)) (s.size + 1) _ 0 sPS (Nat.zero_le _) (by omega) (by omega) ?_ ?_
    · rw [hz3]
      change (parseN s).2.2.2 - 1 + 1 = (parseN s).2.2.2
      omega
    · refine ⟨by omega, Nat.le_refl _, fun i hi => ?_⟩
      rw [bt_extract _ _ _ _ (by omega) (by omega), Nat.zero_add]
  have hP3 := parse_ek C (s.extract 0 ((parseN s).2.2.2 - 1)) (by omega)
  generalize (parseN (s.extract 0 ((parseN s).2.2.2 - 1))).2.2.2 = k3 at *
  generalize (parseN (s.extract 0 ((parseN s).2.2.2 - 1))).2.2.1 = g3 at *
  clear hA hS hz3 h02 C
  generalize (parseN s).2.2.2 = k at *
  generalize (parseN s).2.2.1 = er at *
  obtain ⟨k, rfl⟩ : ∃ j, k = j + 1 := ⟨k - 1, by omega⟩
  rw [Nat.add_sub_cancel] at hP3
  have hadd : ∀ w, (Op.stringOp .add (s.extract 0 (k + 1)) more).run Try.prog w = .ok (.string (s.extract 0 (k + 1) ++ more)) w := fun w => run_string_add_sum w _ _ (by rw [ByteArray.size_extract]; omega)
  have HP := Lib.hid hP
  have HP2 := Lib.hid hP2
  have HP3 := Lib.hid hP3
  have qe0 : ((er : Int) == 0) = false := by rw [beq_eq_false_iff_ne]; omega
  have qe2 : ((er : Int) == 2) = false := by rw [beq_eq_false_iff_ne]; omega
  have b1 : decide ((k : Int) + 1 < 1) = false := by rw [decide_eq_false_iff_not]; omega
  have b2 : decide ((s.size : Int) < (k : Int) + 1) = false := by rw [decide_eq_false_iff_not]; omega
  have hk2 := hpl.2
  clear hP hP2 hP3 hsz hpl
  rcases hC with rfl | rfl
  all_goals
    go_enter Try.func3, Try.ntmps3
    go_wp2_with fail
    refine (HP.out _).mono ?_
    rintro e w1 ⟨v, rfl, hb⟩
    have HB := Lib.hid hb
    clear HP hb
    go_wp2_with fail
    refine (HP2.out _).mono ?_
    rintro e w2 ⟨v2, rfl, hb⟩
    have HB2 := Lib.hid (HB.out.trans (hb.mono HB.out.size))
    clear HP2 hb HB
    go_wp2_with fail
    refine (HP3.out _).mono ?_
    rintro e w3 ⟨v3, rfl, hb⟩
    have HB3 := Lib.hid (HB2.out.trans (hb.mono HB2.out.size))
    clear HP3 hb HB2
    go_wp2_with fail
    refine (HSU.out _).mono ?_
    rintro e w4 ⟨rfl, hb⟩
    have hb2 := HB3.out.trans (hb.mono HB3.out.size)
    clear HB3 hb HSU
    go_wp2_with fail
    go_ret
    exact ⟨rfl, hb2⟩
end Go.Proofs.Ythodphgbdmnpoaa

/- The developers' reading of a pattern: what of it lies in memory. Stage 7. -/
namespace Go.Proofs.Ythodphgbdmnpoaa
open Go.RowKit BS

@[reducible] def preA (s : ByteArray) (a : Int) (vN vL : Value) (g : Int) : Array Value := #[.string s, .int .i64 a, vN, vL, .int .i64 g]
def lvCells (st : List (Nat × Nat)) : List Value := st.flatMap fun x => [.int .i64 x.2, .int .i64 x.1]
theorem lvCells_app (l m : List (Nat × Nat)) : lvCells (l ++ m) = lvCells l ++ lvCells m := by simp [lvCells]
theorem lvCells_len (l : List (Nat × Nat)) : (lvCells l).length = l.length * 2 := by
  induction l with
  | nil => rfl
  | cons x l ih =>
    have e : lvCells (x :: l) = [.int .i64 x.2, .int .i64 x.1] ++ lvCells l := by simp [lvCells]
    rw [e, List.length_append, ih, List.length_cons]
    simp; omega
theorem lvCells_last (l : List (Nat × Nat)) (x : Nat × Nat) : (lvCells (l ++ [x]))[l.length * 2]? = some (.int .i64 x.2) ∧ (lvCells (l ++ [x]))[l.length * 2 + 1]? = some (.int .i64 x.1) := by
  rw [lvCells_app]
  constructor
  · rw [List.getElem?_append_right (by rw [lvCells_len]; omega), lvCells_len, Nat.sub_self]; rfl
  · rw [List.getElem?_append_right (by rw [lvCells_len]; omega), lvCells_len, show l.length * 2 + 1 - l.length * 2 = 1 by omega]; rfl
theorem lvCells_set0 (l : List (Nat × Nat)) (n r r' : Nat) : (lvCells (l ++ [(n, r)])).set (l.length * 2) (.int .i64 r') = lvCells (l ++ [(n, r')]) := by
  rw [lvCells_app, lvCells_app, List.set_append_right _ _ (by rw [lvCells_len]; omega), lvCells_len, Nat.sub_self]
  rfl
theorem lvCells_set1 (l : List (Nat × Nat)) (n n' r : Nat) : (lvCells (l ++ [(n, r)])).set (l.length * 2 + 1) (.int .i64 n') = lvCells (l ++ [(n', r)]) := by
  rw [lvCells_app, lvCells_app, List.set_append_right _ _ (by rw [lvCells_len]; omega), lvCells_len, show l.length * 2 + 1 - l.length * 2 = 1 by omega]
  rfl
theorem lvCells_take (l : List (Nat × Nat)) (x : Nat × Nat) : (lvCells (l ++ [x])).take (l.length * 2) = lvCells l := by
  rw [lvCells_app, ← lvCells_len l, List.take_left]

/-- What was read so far lies at R: the nodes and the levels in rows of the call's own. -/
structure RdV (base R : Nat) (s : ByteArray) (a : Nat) (x : PS) (vN vL : Value) (w0 w : World) : Prop where
  blk : Blk w R (preA s a vN vL x.groups) 43
  nodes : w.ownsRow base 32 8 vN x.l.length (ndCells x.l)
  levels : w.ownsRow base 45 2 vL x.st.length (lvCells x.st.reverse)
  nR : vN.ownBlock ≠ some R
  lR : vL.ownBlock ≠ some R
  nl : vN.ownBlock = none ∨ vN.ownBlock ≠ vL.ownBlock
  bR : base ≤ R
  bel : Below base w0 w
theorem owns_lt {w : World} {base : Nat} {e : TypeId} {size : Nat} {v : Value} {n : Nat} {xs : List Value} (h : w.ownsRow base e size v n xs) {g : Nat} (hg : v.ownBlock = some g) : g < w.heap.size := (h.lt g hg).2
theorem owns_below {W W' : World} {base : Nat} {e : TypeId} {size : Nat} {v : Value} {n : Nat} {xs : List Value} (h : W.ownsRow base e size v n xs) (hb : Below W.heap.size W W') : W'.ownsRow base e size v n xs :=
  owns_keep h fun _ hg => hb.block _ (owns_lt h hg)
section
variable {base R : Nat} {s : ByteArray} {a : Nat} {x : PS} {vN vL : Value} {w0 w : World}
theorem RdV.below (h : RdV base R s a x vN vL w0 w) {w' : World} (hb : Below w.heap.size w w') : RdV base R s a x vN vL w0 w' :=
  ⟨h.blk.below hb h.blk.lt, owns_below h.nodes hb, owns_below h.levels hb, h.nR, h.lR, h.nl, h.bR, h.bel.trans (hb.mono (Nat.le_trans h.bR (Nat.le_of_lt h.blk.lt)))⟩
theorem RdV.size (h : RdV base R s a x vN vL w0 w) : base ≤ w.heap.size := Nat.le_trans h.bR (Nat.le_of_lt h.blk.lt)
theorem RdV.alloc (h : RdV base R s a x vN vL w0 w) (o : Obj) : RdV base R s a x vN vL w0 (w.alloc o) := h.below ((Below.refl _ _).alloc (Nat.le_refl _) o)
theorem RdV.drew (h : RdV base R s a x vN vL w0 w) : RdV base R s a x vN vL w0 w.drew := ⟨h.blk, h.nodes, h.levels, h.nR, h.lR, h.nl, h.bR, h.bel.drew⟩
theorem RdV.c (h : RdV base R s a x vN vL w0 w) : w.cell? ⟨R, 0, none⟩ = some (.string s) ∧ w.cell? ⟨R, 1, none⟩ = some (.int .i64 a) ∧ w.cell? ⟨R, 2, none⟩ = some vN ∧ w.cell? ⟨R, 3, none⟩ = some vL ∧ w.cell? ⟨R, 4, none⟩ = some (.int .i64 x.groups) :=
  ⟨h.blk.cell 0, h.blk.cell 1, h.blk.cell 2, h.blk.cell 3, h.blk.cell 4⟩
/-- The levels: where they lie, and what the innermost one is. -/
theorem RdV.top {n r : Nat} {st : List (Nat × Nat)} (h : RdV base R s a x vN vL w0 w) (hx : x.st = (n, r) :: st) : ∃ g cap, vL = .slice (some ⟨g, 0, none⟩) ((st.length + 1 : Nat) : Nat) cap ∧ base ≤ g ∧ g < w.heap.size ∧ g ≠ R ∧ st.length + 1 ≤ cap ∧
    w.cell? ⟨g, st.length * 2, none⟩ = some (.int .i64 r) ∧ w.cell? ⟨g, st.length * 2 + 1, none⟩ = some (.int .i64 n) ∧ w.frozen? ⟨g, st.length * 2, none⟩ = false ∧ w.frozen? ⟨g, st.length * 2 + 1, none⟩ = false ∧ w.frozen? ⟨R, 1, none⟩ = false := by
  have hl := h.levels
  rw [hx, List.length_cons, List.reverse_cons] at hl
  obtain ⟨g, cap, rfl, hb, hlt⟩ := hl.form (by omega)
  have hcap : st.length + 1 ≤ cap := by
    rcases hl.2 with ⟨hv, _⟩ | ⟨g', cap', cur, hv, _, _, hc, _⟩
    · cases hv
    · cases hv; exact hc
  refine ⟨g, cap, rfl, hb, hlt, fun e => h.lR (by rw [← e]; rfl), hcap, ?_, ?_, hl.frozenAt _, hl.frozenAt _, h.blk.frozen 1⟩
  · rw [hl.cellAt _ (by omega)]
    have := (lvCells_last st.reverse (n, r)).1
    rwa [List.length_reverse] at this
  · rw [hl.cellAt _ (by omega)]
    have := (lvCells_last st.reverse (n, r)).2
    rwa [List.length_reverse] at this
/-- The innermost level, written anew. -/
theorem RdV.put {n r : Nat} {st : List (Nat × Nat)} {g cap : Nat} (h : RdV base R s a x vN (.slice (some ⟨g, 0, none⟩) (st.length + 1 : Nat) cap) w0 w) (hx : x.st = (n, r) :: st) (n' : Nat) :
    RdV base R s a ⟨x.l, (n', r) :: st, x.groups⟩ vN (.slice (some ⟨g, 0, none⟩) (st.length + 1 : Nat) cap) w0 (w.setCell ⟨g, st.length * 2 + 1, none⟩ (.int .i64 n')) := by
  have hl := h.levels
  rw [hx, List.length_cons, List.reverse_cons] at hl
  have hbg := (hl.lt g rfl)
  have hgR : R ≠ g := fun e => h.lR (by rw [e]; rfl)
  refine ⟨h.blk.other hgR _ _, ?_, ?_, h.nR, h.lR, h.nl, h.bR, below_set h.bel hbg.1 _ _⟩
  · refine owns_keep h.nodes fun k hk => Below.heap_setCell _ _ _ _ ?_
    show k ≠ g
    rintro rfl
    rcases h.nl with h1 | h1
    · rw [h1] at hk; cases hk
    · exact h1 hk
  · have := hl.stored (st.length * 2 + 1) (.int .i64 n')
    show World.ownsRow _ base _ 2 _ (st.length + 1) (lvCells (((n', r) :: st).reverse))
    rw [List.reverse_cons, ← lvCells_set1 st.reverse n n' r, List.length_reverse]
    exact this.1
theorem RdV.put0 {n r : Nat} {st : List (Nat × Nat)} {g cap : Nat} (h : RdV base R s a x vN (.slice (some ⟨g, 0, none⟩) (st.length + 1 : Nat) cap) w0 w) (hx : x.st = (n, r) :: st) (r' : Nat) :
    RdV base R s a ⟨x.l, (n, r') :: st, x.groups⟩ vN (.slice (some ⟨g, 0, none⟩) (st.length + 1 : Nat) cap) w0 (w.setCell ⟨g, st.length * 2, none⟩ (.int .i64 r')) := by
  have hl := h.levels
  rw [hx, List.length_cons, List.reverse_cons] at hl
  have hbg := (hl.lt g rfl)
  have hgR : R ≠ g := fun e => h.lR (by rw [e]; rfl)
  refine ⟨h.blk.other hgR _ _, ?_, ?_, h.nR, h.lR, h.nl, h.bR, below_set h.bel hbg.1 _ _⟩
  · refine owns_keep h.nodes fun k hk => Below.heap_setCell _ _ _ _ ?_
    show k ≠ g
    rintro rfl
    rcases h.nl with h1 | h1
    · rw [h1] at hk; cases hk
    · exact h1 hk
  · have := hl.stored (st.length * 2) (.int .i64 r')
    show World.ownsRow _ base _ 2 _ (st.length + 1) (lvCells (((n, r') :: st).reverse))
    rw [List.reverse_cons, ← lvCells_set0 st.reverse n r r', List.length_reverse]
    exact this.1
/-- A cell of the struct itself, written anew. -/
theorem RdV.setAt (h : RdV base R s a x vN vL w0 w) (a' : Nat) : RdV base R s a' x vN vL w0 (w.setCell ⟨R, 1, none⟩ (.int .i64 a')) :=
  ⟨by have := h.blk.set 1 (.int .i64 a'); simpa using this, owns_keep h.nodes fun k hk => Below.heap_setCell _ _ _ _ (fun e => h.nR (by rw [hk, e])), owns_keep h.levels fun k hk => Below.heap_setCell _ _ _ _ (fun e => h.lR (by rw [hk, e])), h.nR, h.lR, h.nl, h.bR, below_set h.bel h.bR _ _⟩
theorem RdV.setGroups (h : RdV base R s a x vN vL w0 w) (g : Nat) : RdV base R s a ⟨x.l, x.st, g⟩ vN vL w0 (w.setCell ⟨R, 4, none⟩ (.int .i64 g)) :=
  ⟨by have := h.blk.set 4 (.int .i64 g); simpa using this, owns_keep h.nodes fun k hk => Below.heap_setCell _ _ _ _ (fun e => h.nR (by rw [hk, e])), owns_keep h.levels fun k hk => Below.heap_setCell _ _ _ _ (fun e => h.lR (by rw [hk, e])), h.nR, h.lR, h.nl, h.bR, below_set h.bel h.bR _ _⟩
/-- Nodes more: behind an append. -/
theorem RdV.pushN (h : RdV base R s a x vN vL w0 w) {w1 : World} {nd : NdN} {g cap : Nat} (hown : w1.ownsRow base 32 8 (.slice (some ⟨g, 0, none⟩) (x.l.length + 1 : Nat) cap) (x.l.length + 1) (ndCells x.l ++ (ndA nd).toList)) (hg : w.grownBy w1 vN.ownBlock) (hat : vN.ownBlock = some g ∨ w.heap.size ≤ g) :
    RdV base R s a ⟨x.l ++ [nd], x.st, x.groups⟩ (.slice (some ⟨g, 0, none⟩) (x.l.length + 1 : Nat) cap) vL w0 (w1.setCell ⟨R, 2, none⟩ (.slice (some ⟨g, 0, none⟩) (x.l.length + 1 : Nat) cap)) := by
  have hRg : g ≠ R := by
    rintro rfl
    rcases hat with h1 | h1
    · exact h.nR h1
    · have := h.blk.lt; omega
  have hb : Below base w0 w1 := h.bel.grown hg h.size fun k hk => (h.nodes.lt k hk).1
  refine ⟨?_, ?_, ?_, ?_, h.lR, ?_, h.bR, below_set hb h.bR _ _⟩
  · have := (h.blk.kept hg (fun e => h.nR e.symm)).set 2 (.slice (some ⟨g, 0, none⟩) (x.l.length + 1 : Nat) cap)
    simpa using this
  · show World.ownsRow _ base _ 8 _ (x.l ++ [nd]).length (ndCells (x.l ++ [nd]))
    rw [List.length_append, ndCells_app, show ndCells [nd] = (ndA nd).toList by simp [ndCells]]
    exact owns_keep hown fun k hk => Below.heap_setCell _ _ _ _ (fun e => hRg (by cases hk; exact e))
  · refine owns_keep (h.levels.kept hg ?_) fun k hk => Below.heap_setCell _ _ _ _ (fun e => h.lR (by rw [hk, e]))
    rcases h.nl with h1 | h1
    · rw [h1]
      cases hv : vL.ownBlock with
      | none => exact .inl rfl
      | some k => exact .inr (by simp)
    · exact .inr (Ne.symm h1)
  · intro e; cases e; exact hRg rfl
  · right
    intro e
    have e' : vL.ownBlock = some g := e.symm
    rcases hat with h1 | h1
    · rcases h.nl with h2 | h2
      · rw [h2] at h1; cases h1
      · exact h2 (h1.trans e'.symm)
    · have := owns_lt h.levels e'; omega
/-- A level more: behind an append. -/
theorem RdV.pushL (h : RdV base R s a x vN vL w0 w) {w1 : World} {g cap : Nat} (hown : w1.ownsRow base 45 2 (.slice (some ⟨g, 0, none⟩) (x.st.length + 1 : Nat) cap) (x.st.length + 1) (lvCells x.st.reverse ++ [.int .i64 0, .int .i64 0])) (hg : w.grownBy w1 vL.ownBlock) (hat : vL.ownBlock = some g ∨ w.heap.size ≤ g) :
    RdV base R s a ⟨x.l, (0, 0) :: x.st, x.groups⟩ vN (.slice (some ⟨g, 0, none⟩) (x.st.length + 1 : Nat) cap) w0 (w1.setCell ⟨R, 3, none⟩ (.slice (some ⟨g, 0, none⟩) (x.st.length + 1 : Nat) cap)) := by
  have hRg : g ≠ R := by
    rintro rfl
    rcases hat with h1 | h1
    · exact h.lR h1
    · have := h.blk.lt; omega
  have hb : Below base w0 w1 := h.bel.grown hg h.size fun k hk => (h.levels.lt k hk).1
  refine ⟨?_, ?_, ?_, h.nR, ?_, ?_, h.bR, below_set hb h.bR _ _⟩
  · have := (h.blk.kept hg (fun e => h.lR e.symm)).set 3 (.slice (some ⟨g, 0, none⟩) (x.st.length + 1 : Nat) cap)
    simpa using this
  · refine owns_keep (h.nodes.kept hg ?_) fun k hk => Below.heap_setCell _ _ _ _ (fun e => h.nR (by rw [hk, e]))
    rcases h.nl with h1 | h1
    · exact .inl h1
    · exact .inr h1
  · show World.ownsRow _ base _ 2 _ ((0, 0) :: x.st).length (lvCells ((0, 0) :: x.st).reverse)
    rw [List.length_cons, List.reverse_cons, lvCells_app]
    exact owns_keep hown fun k hk => Below.heap_setCell _ _ _ _ (fun e => hRg (by cases hk; exact e))
  · intro e; cases e; exact hRg rfl
  · rcases h.nl with h1 | h1
    · exact .inl h1
    · right
      intro e
      have e' : vN.ownBlock = some g := e
      rcases hat with h2 | h2
      · exact h1 (e'.trans h2.symm)
      · have := owns_lt h.nodes e'; omega
/-- A level less: by slicing. -/
theorem RdV.popL {p : Nat × Nat} {st : List (Nat × Nat)} {g cap : Nat} (h : RdV base R s a x vN (.slice (some ⟨g, 0, none⟩) (st.length + 1 : Nat) cap) w0 w) (hx : x.st = p :: st) :
    RdV base R s a ⟨x.l, st, x.groups⟩ vN (.slice (some ⟨g, 0, none⟩) (st.length : Nat) cap) w0 (w.setCell ⟨R, 3, none⟩ (.slice (some ⟨g, 0, none⟩) (st.length : Nat) cap)) := by
  have hl := h.levels
  rw [hx, List.length_cons, List.reverse_cons] at hl
  refine ⟨by have := h.blk.set 3 (.slice (some ⟨g, 0, none⟩) (st.length : Nat) cap); simpa using this, owns_keep h.nodes fun k hk => Below.heap_setCell _ _ _ _ (fun e => h.nR (by rw [hk, e])), ?_, h.nR, h.lR, h.nl, h.bR, below_set h.bel h.bR _ _⟩
  refine owns_keep (W := w) ⟨by rw [lvCells_len, List.length_reverse], ?_⟩ fun k hk => Below.heap_setCell _ _ _ _ (fun e => h.lR (by cases hk; exact congrArg some e))
  rcases hl.2 with ⟨hv, _⟩ | ⟨g', cap', cur, hv, h1, h2, h3, h4, h5, h6⟩
  · cases hv
  · cases hv
    refine .inr ⟨g, cap, cur, rfl, h1, h2, (by show st.length ≤ cap; omega), h4, h5, ?_⟩
    have := congrArg (List.take (st.length * 2)) h6
    rw [List.take_take, show min (st.length * 2) ((st.length + 1) * 2) = st.length * 2 by omega] at this
    have e := lvCells_take st.reverse p
    rw [List.length_reverse] at e
    rw [e] at this
    exact this
end
end Go.Proofs.Ythodphgbdmnpoaa

/- The developers' reading: open, level, add, addPiece, endRow, endRows. Stage 7. -/
namespace Go.Proofs.Ythodphgbdmnpoaa
open Go.RowKit BS

set_option maxRecDepth 100000 in
set_option maxHeartbeats 1000000 in
theorem popen_calls (R k : Nat) (ad : Option Addr) (cap : Nat) (w : World) (h3 : w.cell? ⟨R, 3, none⟩ = some (.slice ad (k + 1 : Nat) cap)) (hk : k ≤ 2000000) :
    Calls Try.prog 10 #[.pointer (some ⟨R, 0, none⟩)] w fun e w' => e = .returned (.int .i64 k) ∧ w = w' := by
  go_enter Try.func10, Try.ntmps10
  go_wp2_with fail
  go_ret
  exact ⟨rfl, rfl⟩
set_option maxRecDepth 100000 in
set_option maxHeartbeats 1000000 in
theorem plevel_calls (R g k cap : Nat) (w : World) (h3 : w.cell? ⟨R, 3, none⟩ = some (.slice (some ⟨g, 0, none⟩) (k + 1 : Nat) cap)) (hk : k ≤ 2000000) :
    Calls Try.prog 13 #[.pointer (some ⟨R, 0, none⟩)] w fun e w' => e = .returned (.pointer (some ⟨g, k * 2, none⟩)) ∧ Below w.heap.size w w' := by
  have q0 : (0 : Int) ≤ (k : Int) := by omega
  have q1 : (k : Int) < ((k + 1 : Nat) : Int) := by omega
  go_enter Try.func13, Try.ntmps13
  go_wp2_with fail
  go_quiet (fail)
  go_wp2_with fail
  go_ret
  exact ⟨rfl, below_drN (Below.refl _ _) _⟩

set_option maxRecDepth 100000 in
set_option maxHeartbeats 8000000 in
theorem padd_calls {base R : Nat} {s : ByteArray} {a : Nat} {x : PS} {vN vL : Value} {w0 : World} (nd : NdN) (w : World) (h : RdV base R s a x vN vL w0 w) (hl : x.l.length ≤ 4000000) :
    Calls Try.prog 17 #[.pointer (some ⟨R, 0, none⟩), .agg (ndA nd)] w fun e w' => e = .returned (.tuple #[]) ∧ ∃ vN', RdV base R s a ⟨x.l ++ [nd], x.st, x.groups⟩ vN' vL w0 w' := by
  obtain ⟨i0, hi0, hz0, hz1, hz2⟩ := info_parts info8n
  obtain ⟨k, c, n, m, t⟩ := nd
  have hB := Blk.new w (ndI k c n m t) 32
  have hr := h.alloc (.cells (ndI k c n m t) 32)
  have hne : vN.ownBlock ≠ some w.heap.size := fun e => by have := owns_lt h.nodes e; omega
  have hRlt := h.blk.lt
  clear h
  show Calls Try.prog 17 #[.pointer (some ⟨R, 0, none⟩), .agg (ndI k c n m t)] w fun e w' => e = .returned (.tuple #[]) ∧ ∃ vN', RdV base R s a ⟨x.l ++ [⟨k, c, n, m, t⟩], x.st, x.groups⟩ vN' vL w0 w'
  go_enter Try.func17, Try.ntmps17
  go_upto_region 1 with fail
  generalize w.alloc (.cells (ndI k c n m t) 32) = w1 at *
  generalize w.heap.size = B1 at *
  have cR := hr.c.2.2.1
  have c0 := hB.cell 0; have c1 := hB.cell 1; have c2 := hB.cell 2; have c3 := hB.cell 3; have c4 := hB.cell 4; have c5 := hB.cell 5; have c6 := hB.cell 6; have c7 := hB.cell 7
  simp only [List.getElem?_toArray, List.getElem?_cons_zero, List.getElem?_cons_succ] at c0 c1 c2 c3 c4 c5 c6 c7
  have hBlt := hB.lt
  have hRlt1 := hr.blk.lt
  have nR := hr.nR
  have hsz := hr.size
  have HR := Lib.hid hr
  have ffR := hr.blk.frozen 2
  clear hr hB
  go_region_law
    ((refine step_append_lies _ (by rfl) _ _ _ (by rfl) base 32 i0 _ 8 64 Try.underlying23 hi0 hz0 hz1 hz2 rfl (by omega) vN x.l.length (ndCells x.l) (by rfl) ((HR.out.alloc _).drew).nodes
        ⟨w1.heap.size, 0, none⟩ 1 1 (ndI k c n m t).toList (by rfl) (by rfl) (World.news_of_block (cs := ndI k c n m t) (t := 32) (fr := (0, 0)) (heap_alloc_new w1 _)) (by simp [Value.oneCell'])
        (by omega) (by simp only [maxLen]; omega) (by omega) (by simp; omega) (w1.heap.size + 1) (by simp) ?_; intro g cap w2 hown hgrow hat hlt; have ff2 : w2.frozen? ⟨R, 2, none⟩ = false := (((HR.out.alloc _).drew).blk.kept hgrow (Ne.symm nR)).frozen 2; have cc2 : w2.cell? ⟨R, 2, none⟩ = some vN := (((HR.out.alloc _).drew).blk.kept hgrow (Ne.symm nR)).cell 2))
  all_goals
    go_wp2_with fail
    go_end0
    exact ⟨rfl, _, ((HR.out.alloc _).drew).pushN hown hgrow (hat.imp id fun e => by rw [e]; simp)⟩
set_option maxRecDepth 100000 in
set_option maxHeartbeats 4000000 in
theorem paddPiece_calls {base R : Nat} {s : ByteArray} {a n r : Nat} {l : List NdN} {st : List (Nat × Nat)} {gr : Nat} {vN vL : Value} {w0 : World} (nd : NdN) (w : World) (h : RdV base R s a ⟨l, (n, r) :: st, gr⟩ vN vL w0 w) (hl : l.length ≤ 4000000) (hst : st.length ≤ 2000000) (hn : n ≤ 2000000) :
    Calls Try.prog 20 #[.pointer (some ⟨R, 0, none⟩), .agg (ndA nd)] w fun e w' => e = .returned (.tuple #[]) ∧ ∃ vN', RdV base R s a ⟨l ++ [nd], (n + 1, r) :: st, gr⟩ vN' vL w0 w' := by
  have HA := Lib.hid (fun W vN x (h : RdV base R s a x vN vL w0 W) => padd_calls nd W h)
  obtain ⟨k, c, n', m, t⟩ := nd
  have hB := Blk.new w (ndI k c n' m t) 32
  have hr := h.alloc (.cells (ndI k c n' m t) 32)
  clear h
  show Calls Try.prog 20 #[.pointer (some ⟨R, 0, none⟩), .agg (ndI k c n' m t)] w fun e w' => e = .returned (.tuple #[]) ∧ ∃ vN', RdV base R s a ⟨l ++ [⟨k, c, n', m, t⟩], (n + 1, r) :: st, gr⟩ vN' vL w0 w'
  go_enter Try.func20, Try.ntmps20
  go_upto_region 1 with fail
  generalize w.alloc (.cells (ndI k c n' m t) 32) = w1 at *
  generalize w.heap.size = B1 at *
  have c0 := hB.cell 0; have c1 := hB.cell 1; have c2 := hB.cell 2; have c3 := hB.cell 3; have c4 := hB.cell 4; have c5 := hB.cell 5; have c6 := hB.cell 6; have c7 := hB.cell 7
  simp only [List.getElem?_toArray, List.getElem?_cons_zero, List.getElem?_cons_succ] at c0 c1 c2 c3 c4 c5 c6 c7
  have HR := Lib.hid hr
  clear hr hB
  go_wp2_with fail
  refine (HA.out _ _ _ HR.out hl).mono ?_
  rintro e w2 ⟨rfl, vN', hr⟩
  clear HA HR c0 c1 c2 c3 c4 c5 c6 c7
  obtain ⟨g, cap, rfl, hbg, hgl, hgR, hcap, t0, t1, f0, f1, _⟩ := hr.top rfl
  have HL := Lib.hid (plevel_calls R g st.length cap w2 hr.c.2.2.2.1 hst)
  have HR := Lib.hid hr
  clear t0 t1 f0 f1 hr hgl
  go_wp2_with fail
  refine HL.out.mono ?_
  rintro e w3 ⟨rfl, hb⟩
  clear HL
  have hr := HR.out.below hb
  obtain ⟨_, _, e, _, _, _, _, t0, t1, f0, f1, _⟩ := hr.top rfl
  cases e
  clear HR hb
  have HR := Lib.hid hr
  clear hr
  go_wp2_with fail
  go_end0
  exact ⟨rfl, _, HR.out.put rfl (n + 1)⟩
end Go.Proofs.Ythodphgbdmnpoaa

/- The developers' reading: endRow, endRows, openGroup, shutGroup. Stage 7. -/
namespace Go.Proofs.Ythodphgbdmnpoaa
open Go.RowKit BS

theorem nd_zero (k c n m : Int) : ndA ⟨k, c, n, m, 0⟩ = #[.int .i64 k, .int .i64 c, .int .i64 n, .int .i64 m, .int .u64 0, .int .u64 0, .int .u64 0, .int .u64 0] := by
  have z0 : wd (0 : BitVec 256) 0 = 0 := by decide
  have z1 : wd (0 : BitVec 256) 1 = 0 := by decide
  have z2 : wd (0 : BitVec 256) 2 = 0 := by decide
  have z3 : wd (0 : BitVec 256) 3 = 0 := by decide
  show ndI k c n m 0 = _
  unfold ndI
  rw [z0, z1, z2, z3]
  rfl
set_option maxRecDepth 100000 in
set_option maxHeartbeats 4000000 in
theorem pendRow_calls {base R : Nat} {s : ByteArray} {a n r : Nat} {l : List NdN} {st : List (Nat × Nat)} {gr : Nat} {vN vL : Value} {w0 : World} (w : World) (h : RdV base R s a ⟨l, (n, r) :: st, gr⟩ vN vL w0 w) (hl : l.length ≤ 4000000) (hst : st.length ≤ 2000000) (hn : n ≤ 2000000) (hr' : r ≤ 2000000) :
    Calls Try.prog 16 #[.pointer (some ⟨R, 0, none⟩)] w fun e w' => e = .returned (.tuple #[]) ∧ ∃ vN', RdV base R s a ⟨l ++ rowT n, (0, r + 1) :: st, gr⟩ vN' vL w0 w' := by
  have hA := fun (nd : NdN) W vN x (h : RdV base R s a x vN vL w0 W) => padd_calls nd W h
  obtain ⟨g, cap, rfl, hbg, hgl, hgR, hcap, t0, t1, f0, f1, _⟩ := h.top rfl
  have HL := Lib.hid (plevel_calls R g st.length cap w h.c.2.2.2.1 hst)
  have HR := Lib.hid h
  clear t0 t1 f0 f1 h hgl
  by_cases h0 : n = 0
  · subst h0
    have hA1 := hA nd1
    rw [show nd1 = ⟨1, 0, 0, 0, 0⟩ from rfl, nd_zero] at hA1
    have HA := Lib.hid hA1
    clear hA1 hA
    go_enter Try.func16, Try.ntmps16
    go_wp2_with fail
    refine HL.out.mono ?_
    rintro e w3 ⟨rfl, hb⟩
    clear HL
    have hr := HR.out.below hb
    obtain ⟨_, _, e, _, _, _, _, t0, t1, f0, f1, _⟩ := hr.top rfl
    cases e
    clear HR hb
    have HR := Lib.hid hr
    clear hr
    go_wp2_with fail
    refine (HA.out _ _ _ HR.out hl).mono ?_
    rintro e w4 ⟨rfl, vN', hr⟩
    clear HA HR t0 t1 f0 f1
    obtain ⟨_, _, e, _, _, _, _, t0, t1, f0, f1, _⟩ := hr.top rfl
    cases e
    have HR := Lib.hid hr
    clear hr
    go_wp2_with fail
    go_end0
    exact ⟨rfl, _, (HR.out.put0 rfl (r + 1)).put rfl 0⟩
  by_cases h1 : n = 1
  · subst h1
    clear hA
    go_enter Try.func16, Try.ntmps16
    go_wp2_with fail
    refine HL.out.mono ?_
    rintro e w3 ⟨rfl, hb⟩
    clear HL
    have hr := HR.out.below hb
    obtain ⟨_, _, e, _, _, _, _, t0, t1, f0, f1, _⟩ := hr.top rfl
    cases e
    clear HR hb
    have HR := Lib.hid hr
    clear hr
    go_wp2_with fail
    go_end0
    refine ⟨rfl, vN, ?_⟩
    rw [show l ++ rowT 1 = l from List.append_nil l]
    exact (HR.out.put0 rfl (r + 1)).put rfl 0
  · have hA1 := hA (nd5 n)
    rw [show nd5 n = ⟨5, n, 0, 0, 0⟩ from rfl, nd_zero] at hA1
    have HA := Lib.hid hA1
    clear hA1 hA
    have q0 : ((n : Int) == 0) = false := by rw [beq_eq_false_iff_ne]; omega
    have q1 : ((n : Int) == 1) = false := by rw [beq_eq_false_iff_ne]; omega
    have hT : rowT n = [⟨5, n, 0, 0, 0⟩] := by unfold rowT; rw [if_neg h0, if_neg h1]; rfl
    have HT := Lib.hid hT
    clear hT
    go_enter Try.func16, Try.ntmps16
    go_wp2_with fail
    refine HL.out.mono ?_
    rintro e w3 ⟨rfl, hb⟩
    clear HL
    have hr := HR.out.below hb
    obtain ⟨_, _, e, _, _, _, _, t0, t1, f0, f1, _⟩ := hr.top rfl
    cases e
    clear HR hb
    have HR := Lib.hid hr
    clear hr
    go_wp2_with fail
    refine (HA.out _ _ _ HR.out hl).mono ?_
    rintro e w4 ⟨rfl, vN', hr⟩
    clear HA HR t0 t1 f0 f1
    obtain ⟨_, _, e, _, _, _, _, t0, t1, f0, f1, _⟩ := hr.top rfl
    cases e
    have HR := Lib.hid hr
    clear hr
    go_wp2_with fail
    go_end0
    rw [HT.out]
    exact ⟨rfl, _, (HR.out.put0 rfl (r + 1)).put rfl 0⟩
theorem rowT_len (n : Nat) : (rowT n).length ≤ 1 := by
  unfold rowT
  by_cases h0 : n = 0
  · rw [if_pos h0]; exact Nat.le_refl _
  · rw [if_neg h0]
    by_cases h1 : n = 1
    · rw [if_pos h1]; exact Nat.zero_le _
    · rw [if_neg h1]; exact Nat.le_refl _
theorem rowsT_len (n : Nat) : (rowsT n).length ≤ 1 := by
  unfold rowsT
  by_cases h0 : 1 < n
  · rw [if_pos h0]; exact Nat.le_refl _
  · rw [if_neg h0]; exact Nat.zero_le _
set_option maxRecDepth 100000 in
set_option maxHeartbeats 4000000 in
theorem pendRows_calls {base R : Nat} {s : ByteArray} {a n r : Nat} {l : List NdN} {st : List (Nat × Nat)} {gr : Nat} {vN vL : Value} {w0 : World} (w : World) (h : RdV base R s a ⟨l, (n, r) :: st, gr⟩ vN vL w0 w) (hl : l.length ≤ 3999999) (hst : st.length ≤ 2000000) (hn : n ≤ 2000000) (hr' : r ≤ 2000000) :
    Calls Try.prog 11 #[.pointer (some ⟨R, 0, none⟩)] w fun e w' => e = .returned (.tuple #[]) ∧ ∃ vN', RdV base R s a ⟨l ++ rowT n ++ rowsT (r + 1), (0, r + 1) :: st, gr⟩ vN' vL w0 w' := by
  have HE := Lib.hid (pendRow_calls w h (by omega) hst hn hr')
  have hl2 : (l ++ rowT n).length ≤ 4000000 := by
    rw [List.length_append]
    have := rowT_len n
    omega
  have hA := fun (nd : NdN) W vN x (h : RdV base R s a x vN vL w0 W) => padd_calls nd W h
  obtain ⟨g, cap, rfl, hbg, hgl, hgR, hcap, t0, t1, f0, f1, _⟩ := h.top rfl
  have HL := Lib.hid (fun W (h3 : W.cell? ⟨R, 3, none⟩ = some (.slice (some ⟨g, 0, none⟩) (st.length + 1 : Nat) cap)) => plevel_calls R g st.length cap W h3 hst)
  clear t0 t1 f0 f1 h hgl
  generalize l ++ rowT n = l2 at *
  by_cases h1 : 1 < r + 1
  · have hA1 := hA (nd6 (r + 1))
    rw [show nd6 (r + 1) = ⟨6, (r : Int) + 1, 0, 0, 0⟩ from rfl, nd_zero] at hA1
    have HA := Lib.hid hA1
    have hT : rowsT (r + 1) = [⟨6, (r : Int) + 1, 0, 0, 0⟩] := by unfold rowsT; rw [if_pos h1]; rfl
    have HT := Lib.hid hT
    have q : decide ((1 : Int) < (r : Int) + 1) = true := by rw [decide_eq_true_iff]; omega
    clear hT hA hA1
    go_enter Try.func11, Try.ntmps11
    go_wp2_with fail
    refine HE.out.mono ?_
    rintro e w2 ⟨rfl, vN', hr⟩
    clear HE
    have c3 := hr.c.2.2.2.1
    have HR := Lib.hid hr
    clear hr
    go_wp2_with fail
    refine (HL.out _ c3).mono ?_
    rintro e w3 ⟨rfl, hb⟩
    clear HL
    have hr := HR.out.below hb
    obtain ⟨_, _, e, _, _, _, _, t0, t1, f0, f1, _⟩ := hr.top rfl
    cases e
    clear HR hb c3
    have HR := Lib.hid hr
    clear hr
    go_wp2_with fail
    refine (HA.out _ _ _ HR.out hl2).mono ?_
    rintro e w4 ⟨rfl, vN2, hr⟩
    clear HA HR t0 t1 f0 f1
    have HR := Lib.hid hr
    clear hr
    go_wp2_with fail
    go_end0
    rw [HT.out]
    exact ⟨rfl, _, HR.out⟩
  · have hT : rowsT (r + 1) = [] := by unfold rowsT; rw [if_neg h1]
    have HT := Lib.hid hT
    have q : decide ((1 : Int) < (r : Int) + 1) = false := by rw [decide_eq_false_iff_not]; omega
    clear hT hA
    go_enter Try.func11, Try.ntmps11
    go_wp2_with fail
    refine HE.out.mono ?_
    rintro e w2 ⟨rfl, vN', hr⟩
    clear HE
    have c3 := hr.c.2.2.2.1
    have HR := Lib.hid hr
    clear hr
    go_wp2_with fail
    refine (HL.out _ c3).mono ?_
    rintro e w3 ⟨rfl, hb⟩
    clear HL
    have hr := HR.out.below hb
    obtain ⟨_, _, e, _, _, _, _, t0, t1, f0, f1, _⟩ := hr.top rfl
    cases e
    clear HR hb c3
    have HR := Lib.hid hr
    clear hr
    go_wp2_with fail
    go_end0
    rw [HT.out, List.append_nil]
    exact ⟨rfl, _, HR.out⟩

/-! ### A group's begin -/
theorem info2r : (Try.prog.info? 45).map (fun i => (i.zero, i.size, i.bytes)) = some (some (.agg #[.int .i64 0, .int .i64 0]), 2, 16) := by kernel_rfl
set_option maxRecDepth 100000 in
set_option maxHeartbeats 4000000 in
theorem popenGroup9_calls {R : Nat} (w : World) (c4 : w.cell? ⟨R, 4, none⟩ = some (.int .i64 9)) :
    Calls Try.prog 21 #[.pointer (some ⟨R, 0, none⟩)] w fun e w' => e = .returned (.int .i64 9) ∧ w = w' := by
  go_enter Try.func21, Try.ntmps21
  go_wp2_with fail
  go_ret
  exact ⟨rfl, rfl⟩
set_option maxRecDepth 100000 in
set_option maxHeartbeats 4000000 in
theorem popenGroup_calls {base R : Nat} {s : ByteArray} {a : Nat} {l : List NdN} {st : List (Nat × Nat)} {gr : Nat} {vN vL : Value} {w0 : World} (w : World) (h : RdV base R s a ⟨l, st, gr⟩ vN vL w0 w) (hst : st.length ≤ 2000000) (hg : gr < 9) :
    Calls Try.prog 21 #[.pointer (some ⟨R, 0, none⟩)] w fun e w' => e = .returned (.int .i64 0) ∧ ∃ vL', RdV base R s a ⟨l, (0, 0) :: st, gr + 1⟩ vN vL' w0 w' := by
  obtain ⟨i0, hi0, hz0, hz1, hz2⟩ := info_parts info2r
  have c4 : w.cell? ⟨R, 4, none⟩ = some (.int .i64 gr) := h.c.2.2.2.2
  have q : ((gr : Int) == 9) = false := by rw [beq_eq_false_iff_ne]; omega
  have f4 := h.blk.frozen 4
  have HR : Hid (RdV base R s a ⟨l, st, gr + 1⟩ vN vL w0 (w.setCell ⟨R, 4, none⟩ (.int .i64 ((gr + 1 : Nat) : Int)))) := Lib.hid (h.setGroups (gr + 1))
  clear h
  go_enter Try.func21, Try.ntmps21
  go_upto_region 4 with fail
  rw [show ((gr : Int) + 1) = ((gr + 1 : Nat) : Int) from rfl] at *
  generalize w.setCell ⟨R, 4, none⟩ (.int .i64 ((gr + 1 : Nat) : Int)) = w1 at *
  clear c4 f4
  have hr := HR.out
  have c3 := hr.c.2.2.2.1
  have lR := hr.lR
  have hsz := hr.size
  have hRlt := hr.blk.lt
  clear hr
  go_wp2_with (at_builtin
               go_loud (refine wpList_append_lies _ rfl _ _ 41 rfl base 45 i0 (.agg #[.int .i64 0, .int .i64 0]) 2 16 Try.underlying41 hi0 hz0 hz1 hz2 rfl (by decide) vL st.length (lvCells st.reverse) rfl (HR.out.alloc _).levels ⟨w1.heap.size, 0, none⟩ 1 1 [.int .i64 0, .int .i64 0] rfl rfl (World.news_of_block (cs := #[.int .i64 0, .int .i64 0]) (t := 45) (fr := (0, 0)) (heap_alloc_new w1 _)) (by simp [Value.oneCell']) (by omega) (by simp only [maxLen]; omega) (by omega) (by simp; omega) (w1.heap.size + 1) (by simp) ?_)
               intro g cap w2 hown hgrow hat hlt
               have ff2 := ((HR.out.alloc _).blk.kept hgrow (Ne.symm lR)).frozen 3
               have cc2 : w2.cell? ⟨R, 3, none⟩ = some vL := ((HR.out.alloc _).blk.kept hgrow (Ne.symm lR)).cell 3)
  go_ret
  exact ⟨rfl, _, (HR.out.alloc _).pushL hown hgrow (hat.imp id fun e => by rw [e]; simp)⟩
end Go.Proofs.Ythodphgbdmnpoaa

/- The developers' reading: shutGroup, take. Stage 7. -/
namespace Go.Proofs.Ythodphgbdmnpoaa
open Go.RowKit BS

set_option maxRecDepth 100000 in
set_option maxHeartbeats 4000000 in
theorem pshutGroup8_calls {R : Nat} (ad : Option Addr) (cap : Nat) (w : World) (c3 : w.cell? ⟨R, 3, none⟩ = some (.slice ad 1 cap)) :
    Calls Try.prog 22 #[.pointer (some ⟨R, 0, none⟩)] w fun e w' => e = .returned (.int .i64 8) ∧ w = w' := by
  have HO := Lib.hid (popen_calls R 0 ad cap w c3 (by omega))
  go_enter Try.func22, Try.ntmps22
  go_wp2_with fail
  refine HO.out.mono ?_
  rintro e w2 ⟨rfl, rfl⟩
  go_wp2_with fail
  go_ret
  exact ⟨rfl, rfl⟩
set_option maxRecDepth 100000 in
set_option maxHeartbeats 8000000 in
theorem pshutGroup_calls {base R : Nat} {s : ByteArray} {a n r n2 r2 : Nat} {l : List NdN} {st : List (Nat × Nat)} {gr : Nat} {vN vL : Value} {w0 : World} (w : World) (h : RdV base R s a ⟨l, (n, r) :: (n2, r2) :: st, gr⟩ vN vL w0 w) (hl : l.length ≤ 3999990) (hst : st.length ≤ 1999990) (hn : n ≤ 2000000) (hr' : r ≤ 2000000) (hn2 : n2 ≤ 2000000) :
    Calls Try.prog 22 #[.pointer (some ⟨R, 0, none⟩)] w fun e w' => e = .returned (.int .i64 0) ∧ ∃ vN' vL', RdV base R s a ⟨l ++ rowT n ++ rowsT (r + 1) ++ [ndG], (n2 + 1, r2) :: st, gr⟩ vN' vL' w0 w' := by
  have HE := Lib.hid (pendRows_calls w h (by omega) (by simp only [List.length_cons]; omega) hn hr')
  have hl2 : (l ++ rowT n ++ rowsT (r + 1)).length ≤ 4000000 := by
    rw [List.length_append, List.length_append]
    have h1 := rowT_len n
    have h2 := rowsT_len (r + 1)
    omega
  obtain ⟨g, cap, rfl, hbg, hgl, hgR, hcap, t0, t1, f0, f1, _⟩ := h.top rfl
  have c3 := h.c.2.2.2.1
  simp only [List.length_cons] at hcap
  rw [show ((n2, r2) :: st).length = st.length + 1 from rfl] at *
  clear t0 t1 f0 f1 h hgl
  have HO := Lib.hid (fun W (h3 : W.cell? ⟨R, 3, none⟩ = some (.slice (some ⟨g, 0, none⟩) (st.length + 1 + 1 : Nat) cap)) => popen_calls R (st.length + 1) (some ⟨g, 0, none⟩) cap W h3 (by omega))
  have HP := Lib.hid (fun W vN vL (h : RdV base R s a ⟨l ++ rowT n ++ rowsT (r + 1), (n2, r2) :: st, gr⟩ vN vL w0 W) => paddPiece_calls ndG W h hl2 (by omega) hn2)
  rw [show ndG = ⟨3, 1, 0, 0, 0⟩ from rfl, nd_zero] at HP
  generalize l ++ rowT n ++ rowsT (r + 1) = l2 at *
  have q : ((st.length : Int) + 1 == 0) = false := by rw [beq_eq_false_iff_ne]; omega
  go_enter Try.func22, Try.ntmps22
  go_wp2_with fail
  refine (HO.out _ c3).mono ?_
  rintro e w2 ⟨rfl, rfl⟩
  go_wp2_with fail
  refine HE.out.mono ?_
  rintro e w2 ⟨rfl, vN', hr⟩
  clear HE c3
  have c3 : w2.cell? ⟨R, 3, none⟩ = some (.slice (some ⟨g, 0, none⟩) (st.length + 1 + 1 : Nat) cap) := hr.c.2.2.2.1
  have f3 := hr.blk.frozen 3
  have HR := Lib.hid hr
  have q0 : (0 : Int) ≤ (st.length : Int) + 1 := by omega
  have q1 : (st.length : Int) + 1 ≤ (cap : Int) := by omega
  clear hr
  go_wp2_with fail
  go_region_with (go_at_call 10; refine (HO.out w2.drew c3).mono ?_; rintro e w3 ⟨rfl, rfl⟩)
  all_goals
    have hr : RdV base R s a ⟨l2, (n2, r2) :: st, gr⟩ vN' (.slice (some ⟨g, 0, none⟩) (st.length + 1 : Nat) cap) w0 (w2.drew.setCell ⟨R, 3, none⟩ (.slice (some ⟨g, 0, none⟩) (st.length + 1 : Nat) cap)) := RdV.popL (p := (0, r + 1)) (st := (n2, r2) :: st) HR.out.drew rfl
    go_wp2_with fail
    refine (HP.out _ _ _ hr).mono ?_
    rintro e w4 ⟨rfl, vN2, hr2⟩
    go_wp2_with fail
    go_ret
    exact ⟨rfl, _, _, hr2⟩
end Go.Proofs.Ythodphgbdmnpoaa

/- The document's brackets: bad, special, add, name, thing, Read. -/
namespace Go.Proofs.Ythodphgbdmnpoaa
open Go.RowKit Go.Shelf BS

/-- A state's cells. -/
@[reducible] def stI (t : BitVec 256) (pos err place : Int) (fin neg : Bool) : Array Value := #[.int .u64 (wd t 0), .int .u64 (wd t 1), .int .u64 (wd t 2), .int .u64 (wd t 3), .int .i64 pos, .int .i64 err, .int .i64 place, .bool fin, .bool neg]
def stA (x : BR) : Array Value := stI x.set x.pos x.err x.place x.fin x.neg
def zSt : BitVec 256 := 0

theorem st_one (t : BitVec 256) (pos err place : Int) (fin neg : Bool) : ((stI t pos err place fin neg).all fun x => x.oneCell') = true := by simp [Value.oneCell']

theorem nameR_col (s : ByteArray) (fr : Nat) (x : BR) (n j : Nat) (h : bt s j = 58) : nameR s fr x (n + 1) j =
    if ofB (s.extract fr j).toList = false then badR 5 (j + 1)
      else if s.size ≤ j + 1 then badR 2 s.size
      else if bt s (j + 1) ≠ 93 then badR 3 (j + 2)
      else ⟨x.set ||| ofS (s.extract fr j).toList, j + 2, x.err, x.place, x.fin, x.neg⟩ := by rw [nameR, if_pos h]
theorem nameR_not (s : ByteArray) (fr : Nat) (x : BR) (n j : Nat) (h : ¬ bt s j = 58) : nameR s fr x (n + 1) j = if begB (s.extract fr (j + 1)) = false then badR 5 (j + 1) else nameR s fr x n (j + 1) := by rw [nameR, if_neg h]

end Go.Proofs.Ythodphgbdmnpoaa

/- sure: what must come whatever the input is. -/
namespace Go.Proofs.Ythodphgbdmnpoaa
open Go.RowKit Go.Shelf BS

def s0 : BitVec 256 := withL (range 97 99) [120]
theorem s0_98 : s0.getLsbD 98 = true := by decide +kernel
theorem s0_100 : s0.getLsbD 100 = false := by decide +kernel
theorem s0_cnt : cnt s0.getLsbD 256 = 4 := by decide +kernel
theorem s0_n1 : nextOf s0.getLsbD 100 = 120 := by decide +kernel
theorem s0_n2 : nextOf s0.getLsbD 121 = -1 := by decide +kernel
theorem s0_runs : runsOf (el s0.getLsbD 256) = [(97, 99), (120, 120)] := by decide +kernel

theorem with_calls (s : BitVec 256) (a : Option Addr) (len cap : Nat) (l : List (Fin 256)) (hreach : l.length ≤ 9223372036854775807) (w : World) (hI : BytesAt w.heap.size w (.slice a len cap) l) :
    Calls Try.prog 79 #[setV s, .slice a len cap] w fun e W' => e = .returned (setV (withL s l)) ∧ Below w.heap.size w W' :=
  callsIn_wide.1 (with_in 3 (by omega) s _ a len cap rfl l hreach w hI)
theorem bytes_one (W : World) (t : TypeId) (n : Int) (x : Fin 256) (hn : n = (x.val : Int)) : BytesAt (W.alloc (.cells #[.int .u8 n] t)).heap.size (W.alloc (.cells #[.int .u8 n] t)) (.slice (some ⟨W.heap.size, 0, none⟩) 1 1) [x] := by
  subst hn
  refine ⟨_, 1, rfl, fun _ => ⟨W.heap.size, 0, rfl, by simp, ?_⟩⟩
  intro j hj
  obtain rfl : j = 0 := by simpa using hj
  exact (Blk.new W _ t).cell 0

end Go.Proofs.Ythodphgbdmnpoaa

/- BsetTells: whether any byte is in any set, sets with more bytes, ranges, and what comes of any two sets. -/
namespace Go.Proofs.Ythodphgbdmnpoaa
open Go.RowKit Go.Shelf BS

def SN (w : World) (s : BitVec 256) (W : World) : Prop := (Blk W w.heap.size (setA s) 30 ∧ Blk W (w.heap.size + 1) (setA 0) 30) ∧ Below w.heap.size w W
theorem keepN {w W W' : World} {s : BitVec 256} (h : SN w s W) (hb : Below W.heap.size W W') : SN w s W' := ⟨⟨h.1.1.below hb h.1.1.lt, h.1.2.below hb h.1.2.lt⟩, h.2.trans (hb.mono h.2.size)⟩
theorem drewN {w W : World} {s : BitVec 256} (h : SN w s W) : SN w s W.drew := ⟨⟨h.1.1, h.1.2⟩, h.2.drew⟩

theorem rangeN (x y : Nat) (w : World) (hx : x < 256) (hy : y < 256) : Calls Try.prog 96 #[.int .u8 x, .int .u8 y] w fun e w' => e = .returned (setV (range x y)) ∧ Below w.heap.size w w' := by
  have h := range_calls x y w (by omega) (by omega) (by omega) (by omega)
  rw [Int.toNat_natCast, Int.toNat_natCast] at h; exact h

theorem BytesAt.mono {n n' : Nat} {W : World} {v : Value} {l : List (Fin 256)} (h : BytesAt n W v l) (hn : n ≤ n') : BytesAt n' W v l := by
  obtain ⟨a, cap, e, h⟩ := h
  refine ⟨a, cap, e, fun hne => ?_⟩
  obtain ⟨b, off, e, hlt, hc⟩ := h hne
  exact ⟨b, off, e, by omega, hc⟩
end Go.Proofs.Ythodphgbdmnpoaa

/- The document's brackets: Read. -/
namespace Go.Proofs.Ythodphgbdmnpoaa
open Go.RowKit Go.Shelf BS

theorem startR_pos (s : ByteArray) (a : Nat) (h : a < s.size) : (startR s a).pos ≤ s.size ∧ (startR s a).err = 0 ∧ (startR s a).fin = false ∧ (startR s a).place = 0 := by
  unfold startR
  split <;> exact ⟨by simp only; omega, rfl, rfl, rfl⟩
def leftR (n : Nat) (v : Option Value) : Nat := match v with | some (.int _ p) => n - p.toNat | _ => 0
theorem tup4 (fn : Func) (p a b c : Tmp) (ty : TypeId) (h : fn.results = #[.cell p ty, .tmp a, .tmp b, .tmp c]) (tmps : Array Value) (P : Program) (w : World) :
    (results fn tmps).run P w = ((asAddr (tmps.getD p undef)).run P w).andThen fun x w₁ => ((loadVar ty x).run P w₁).andThen fun v w₂ => .ok (.tuple #[v, tmps.getD a undef, tmps.getD b undef, tmps.getD c undef]) w₂ := by
  simp only [results, h]
  simp [Sem.run_bind, Result.andThen]

end Go.Proofs.Ythodphgbdmnpoaa

/- The document's words: fourteen, one, Byte, Next. -/
namespace Go.Proofs.Ythodphgbdmnpoaa
open Go.RowKit BS

@[reducible] def woI (k a e : Int) (t : BitVec 256) (n m : Int) : Array Value := #[.int .i64 k, .int .i64 a, .int .i64 e, .int .u64 (wd t 0), .int .u64 (wd t 1), .int .u64 (wd t 2), .int .u64 (wd t 3), .int .i64 n, .int .i64 m]
def woA (w : WN) : Array Value := woI w.kind w.pos w.fin w.set w.n w.m
theorem infoWo : (Try.prog.info? 50).map (·.size) = some 9 := by kernel_rfl
theorem wo_one (k a e : Int) (t : BitVec 256) (n m : Int) : ((woI k a e t n m).all fun x => x.oneCell') = true := by simp [Value.oneCell']
theorem infoSe : (Try.prog.info? 30).map (·.size) = some 4 := by kernel_rfl
theorem se_one (t : BitVec 256) : ((setA t).all fun x => x.oneCell') = true := by simp [setA, Value.oneCell']
theorem results_cell2 {P : Program} {fn : Func} {p a b : Tmp} {ty : TypeId} (h : fn.results = #[.cell p ty, .tmp a, .tmp b]) (tmps : Array Value) (w : World) (g : Nat) (t : TypeId) (cs : Array Value) (fr : Nat × Nat) (d : TypeDesc)
    (hp : tmps.getD p undef = .pointer (some ⟨g, 0, none⟩)) (hg : w.heap[g]? = some (.cells cs t fr))
    (hu : P.underlying ty = some d) (hd : (match d with | .struct _ | .array _ _ => true | _ => false) = true) (hi : (P.info? ty).map (·.size) = some cs.size) :
    (results fn tmps).run P w = .ok (.tuple #[.agg cs, tmps.getD a undef, tmps.getD b undef]) w := by
  have hp' : tmps[p]?.getD undef = .pointer (some ⟨g, 0, none⟩) := by simpa using hp
  simp [results, h, hp', asAddr, run_loadVar_row w g t ty cs fr d hg hu hd hi]

theorem four14_no (b k : Nat) (hk : 14 ≤ k) (h : ∀ j, j < k → bt (ofT l14) j ≠ b) : four14 b = false := by
  unfold four14
  rw [Bool.eq_false_iff]
  intro hc
  have hm := List.contains_iff_mem.1 hc
  obtain ⟨j, hj, e⟩ := List.getElem_of_mem hm
  have hj' : j < 14 := hj
  exact h j (by omega) (by rw [bt_ofT l14 (by decide) j hj, e])
theorem four14_yes (b k : Nat) (hk : k < 14) (h : bt (ofT l14) k = b) : four14 b = true := by
  unfold four14
  rw [bt_ofT l14 (by decide) k hk] at h
  exact List.contains_iff_mem.2 (h ▸ List.getElem_mem hk)
end Go.Proofs.Ythodphgbdmnpoaa

/- The developers' reading: take. Stage 7. -/
namespace Go.Proofs.Ythodphgbdmnpoaa
open Go.RowKit BS

set_option maxRecDepth 100000 in
set_option maxHeartbeats 4000000 in
theorem ptake1 {base R : Nat} {s : ByteArray} {a n r : Nat} {l : List NdN} {st : List (Nat × Nat)} {gr : Nat} {vN vL : Value} {w0 : World} (p f : Int) (t : BitVec 256) (n' m' : Int) (w : World) (h : RdV base R s a ⟨l, (n, r) :: st, gr⟩ vN vL w0 w) (hl : l.length ≤ 3999990) (hst : st.length ≤ 1999990) (hn : n ≤ 2000000) :
    Calls Try.prog 15 #[.pointer (some ⟨R, 0, none⟩), .agg (woI 1 p f t n' m')] w fun e w' => e = .returned (.int .i64 0) ∧ ∃ vN', RdV base R s a ⟨l ++ [⟨2, 0, 0, 0, t⟩], (n + 1, r) :: st, gr⟩ vN' vL w0 w' := by
  have hB := Blk.new w (woI 1 p f t n' m') 50
  have hr := h.alloc (.cells (woI 1 p f t n' m') 50)
  have hb0 : Below w.heap.size w (w.alloc (.cells (woI 1 p f t n' m') 50)) := by go_grown
  clear h
  go_enter Try.func15, Try.ntmps15
  go_upto_region 1 with fail
  generalize w.alloc (.cells (woI 1 p f t n' m') 50) = w1 at *
  have HB0 := Lib.hid hb0
  clear hb0
  have HW := Lib.hid (Eq.refl w.heap.size)
  clear HW
  have c0 := hB.cell 0; have c3 := hB.cell 3; have c4 := hB.cell 4; have c5 := hB.cell 5; have c6 := hB.cell 6; have c7 := hB.cell 7; have c8 := hB.cell 8
  simp only [List.getElem?_toArray, List.getElem?_cons_zero, List.getElem?_cons_succ] at c0 c3 c4 c5 c6 c7 c8
  have HR := Lib.hid hr
  clear hr hB
  go_wp2_with fail
  refine (paddPiece_calls ⟨2, 0, 0, 0, t⟩ _ HR.out (by omega) (by omega) hn).mono ?_
  rintro e w2 ⟨rfl, vN', hr2⟩
  go_wp2_with fail
  go_ret
  exact ⟨rfl, _, hr2⟩
set_option maxRecDepth 100000 in
set_option maxHeartbeats 4000000 in
theorem ptake2_9 {base R : Nat} {s : ByteArray} {a n r : Nat} {l : List NdN} {st : List (Nat × Nat)} {vN vL : Value} {w0 : World} (p f : Int) (t : BitVec 256) (n' m' : Int) (w : World) (h : RdV base R s a ⟨l, (n, r) :: st, 9⟩ vN vL w0 w) :
    Calls Try.prog 15 #[.pointer (some ⟨R, 0, none⟩), .agg (woI 2 p f t n' m')] w fun e w' => e = .returned (.int .i64 9) ∧ Below w.heap.size w w' := by
  have hB := Blk.new w (woI 2 p f t n' m') 50
  have hr := h.alloc (.cells (woI 2 p f t n' m') 50)
  have hb0 : Below w.heap.size w (w.alloc (.cells (woI 2 p f t n' m') 50)) := by go_grown
  clear h
  go_enter Try.func15, Try.ntmps15
  go_upto_region 1 with fail
  generalize w.alloc (.cells (woI 2 p f t n' m') 50) = w1 at *
  have HB0 := Lib.hid hb0
  clear hb0
  have HW := Lib.hid (Eq.refl w.heap.size)
  clear HW
  have c0 := hB.cell 0; have c3 := hB.cell 3; have c4 := hB.cell 4; have c5 := hB.cell 5; have c6 := hB.cell 6; have c7 := hB.cell 7; have c8 := hB.cell 8
  simp only [List.getElem?_toArray, List.getElem?_cons_zero, List.getElem?_cons_succ] at c0 c3 c4 c5 c6 c7 c8
  have HR := Lib.hid hr
  have cg := hr.c.2.2.2.2
  clear hr hB
  go_wp2_with fail
  refine (popenGroup9_calls _ cg).mono ?_
  rintro e w2 ⟨rfl, rfl⟩
  go_wp2_with fail
  go_ret
  exact ⟨rfl, HB0.out⟩
set_option maxRecDepth 100000 in
set_option maxHeartbeats 4000000 in
theorem ptake2 {base R : Nat} {s : ByteArray} {a n r : Nat} {l : List NdN} {st : List (Nat × Nat)} {gr : Nat} {vN vL : Value} {w0 : World} (p f : Int) (t : BitVec 256) (n' m' : Int) (w : World) (h : RdV base R s a ⟨l, (n, r) :: st, gr⟩ vN vL w0 w) (hst : st.length ≤ 1999990) (hg : gr < 9) :
    Calls Try.prog 15 #[.pointer (some ⟨R, 0, none⟩), .agg (woI 2 p f t n' m')] w fun e w' => e = .returned (.int .i64 0) ∧ ∃ vL', RdV base R s a ⟨l, (0, 0) :: (n, r) :: st, gr + 1⟩ vN vL' w0 w' := by
  have hB := Blk.new w (woI 2 p f t n' m') 50
  have hr := h.alloc (.cells (woI 2 p f t n' m') 50)
  have hb0 : Below w.heap.size w (w.alloc (.cells (woI 2 p f t n' m') 50)) := by go_grown
  clear h
  go_enter Try.func15, Try.ntmps15
  go_upto_region 1 with fail
  generalize w.alloc (.cells (woI 2 p f t n' m') 50) = w1 at *
  have HB0 := Lib.hid hb0
  clear hb0
  have HW := Lib.hid (Eq.refl w.heap.size)
  clear HW
  have c0 := hB.cell 0; have c3 := hB.cell 3; have c4 := hB.cell 4; have c5 := hB.cell 5; have c6 := hB.cell 6; have c7 := hB.cell 7; have c8 := hB.cell 8
  simp only [List.getElem?_toArray, List.getElem?_cons_zero, List.getElem?_cons_succ] at c0 c3 c4 c5 c6 c7 c8
  have HR := Lib.hid hr
  clear hr hB
  go_wp2_with fail
  refine (popenGroup_calls _ HR.out (by simp only [List.length_cons]; omega) hg).mono ?_
  rintro e w2 ⟨rfl, vL', hr2⟩
  go_wp2_with fail
  go_ret
  exact ⟨rfl, _, hr2⟩
set_option maxRecDepth 100000 in
set_option maxHeartbeats 4000000 in
theorem ptake3_8 {base R : Nat} {s : ByteArray} {a n r : Nat} {l : List NdN} {gr : Nat} {vN vL : Value} {w0 : World} (p f : Int) (t : BitVec 256) (n' m' : Int) (w : World) (h : RdV base R s a ⟨l, [(n, r)], gr⟩ vN vL w0 w) :
    Calls Try.prog 15 #[.pointer (some ⟨R, 0, none⟩), .agg (woI 3 p f t n' m')] w fun e w' => e = .returned (.int .i64 8) ∧ Below w.heap.size w w' := by
  have hB := Blk.new w (woI 3 p f t n' m') 50
  have hr := h.alloc (.cells (woI 3 p f t n' m') 50)
  have hb0 : Below w.heap.size w (w.alloc (.cells (woI 3 p f t n' m') 50)) := by go_grown
  clear h
  go_enter Try.func15, Try.ntmps15
  go_upto_region 1 with fail
  generalize w.alloc (.cells (woI 3 p f t n' m') 50) = w1 at *
  have HB0 := Lib.hid hb0
  clear hb0
  have HW := Lib.hid (Eq.refl w.heap.size)
  clear HW
  have c0 := hB.cell 0; have c3 := hB.cell 3; have c4 := hB.cell 4; have c5 := hB.cell 5; have c6 := hB.cell 6; have c7 := hB.cell 7; have c8 := hB.cell 8
  simp only [List.getElem?_toArray, List.getElem?_cons_zero, List.getElem?_cons_succ] at c0 c3 c4 c5 c6 c7 c8
  have HR := Lib.hid hr
  obtain ⟨g, cap, rfl, _⟩ := hr.top rfl
  have cl := hr.c.2.2.2.1
  clear hr hB
  go_wp2_with fail
  refine (pshutGroup8_calls _ cap _ cl).mono ?_
  rintro e w2 ⟨rfl, rfl⟩
  go_wp2_with fail
  go_ret
  exact ⟨rfl, HB0.out⟩
set_option maxRecDepth 100000 in
set_option maxHeartbeats 4000000 in
theorem ptake3 {base R : Nat} {s : ByteArray} {a n r : Nat} {l : List NdN} {st : List (Nat × Nat)} {gr : Nat} {vN vL : Value} {w0 : World} (p f : Int) (t : BitVec 256) (n' m' : Int) (w : World) {n2 r2 : Nat} (h : RdV base R s a ⟨l, (n, r) :: (n2, r2) :: st, gr⟩ vN vL w0 w) (hl : l.length ≤ 3999990) (hst : st.length ≤ 1999990) (hn : n ≤ 2000000) (hr' : r ≤ 2000000) (hn2 : n2 ≤ 2000000) :
    Calls Try.prog 15 #[.pointer (some ⟨R, 0, none⟩), .agg (woI 3 p f t n' m')] w fun e w' => e = .returned (.int .i64 0) ∧ ∃ vN' vL', RdV base R s a ⟨l ++ rowT n ++ rowsT (r + 1) ++ [ndG], (n2 + 1, r2) :: st, gr⟩ vN' vL' w0 w' := by
  have hB := Blk.new w (woI 3 p f t n' m') 50
  have hr := h.alloc (.cells (woI 3 p f t n' m') 50)
  have hb0 : Below w.heap.size w (w.alloc (.cells (woI 3 p f t n' m') 50)) := by go_grown
  clear h
  go_enter Try.func15, Try.ntmps15
  go_upto_region 1 with fail
  generalize w.alloc (.cells (woI 3 p f t n' m') 50) = w1 at *
  have HB0 := Lib.hid hb0
  clear hb0
  have HW := Lib.hid (Eq.refl w.heap.size)
  clear HW
  have c0 := hB.cell 0; have c3 := hB.cell 3; have c4 := hB.cell 4; have c5 := hB.cell 5; have c6 := hB.cell 6; have c7 := hB.cell 7; have c8 := hB.cell 8
  simp only [List.getElem?_toArray, List.getElem?_cons_zero, List.getElem?_cons_succ] at c0 c3 c4 c5 c6 c7 c8
  have HR := Lib.hid hr
  clear hr hB
  go_wp2_with fail
  refine (pshutGroup_calls _ HR.out hl hst hn hr' hn2).mono ?_
  rintro e w2 ⟨rfl, vN', vL', hr2⟩
  go_wp2_with fail
  go_ret
  exact ⟨rfl, _, _, hr2⟩
set_option maxRecDepth 100000 in
set_option maxHeartbeats 4000000 in
theorem ptake4 {base R : Nat} {s : ByteArray} {a n r : Nat} {l : List NdN} {st : List (Nat × Nat)} {gr : Nat} {vN vL : Value} {w0 : World} (p f : Int) (t : BitVec 256) (n' m' : Int) (w : World) (h : RdV base R s a ⟨l, (n, r) :: st, gr⟩ vN vL w0 w) (hl : l.length ≤ 3999990) (hst : st.length ≤ 1999990) (hn : n ≤ 2000000) (hr' : r ≤ 2000000) :
    Calls Try.prog 15 #[.pointer (some ⟨R, 0, none⟩), .agg (woI 4 p f t n' m')] w fun e w' => e = .returned (.int .i64 0) ∧ ∃ vN', RdV base R s a ⟨l ++ rowT n, (0, r + 1) :: st, gr⟩ vN' vL w0 w' := by
  have hB := Blk.new w (woI 4 p f t n' m') 50
  have hr := h.alloc (.cells (woI 4 p f t n' m') 50)
  have hb0 : Below w.heap.size w (w.alloc (.cells (woI 4 p f t n' m') 50)) := by go_grown
  clear h
  go_enter Try.func15, Try.ntmps15
  go_upto_region 1 with fail
  generalize w.alloc (.cells (woI 4 p f t n' m') 50) = w1 at *
  have HB0 := Lib.hid hb0
  clear hb0
  have HW := Lib.hid (Eq.refl w.heap.size)
  clear HW
  have c0 := hB.cell 0; have c3 := hB.cell 3; have c4 := hB.cell 4; have c5 := hB.cell 5; have c6 := hB.cell 6; have c7 := hB.cell 7; have c8 := hB.cell 8
  simp only [List.getElem?_toArray, List.getElem?_cons_zero, List.getElem?_cons_succ] at c0 c3 c4 c5 c6 c7 c8
  have HR := Lib.hid hr
  clear hr hB
  go_wp2_with fail
  refine (pendRow_calls _ HR.out (by omega) (by omega) hn hr').mono ?_
  rintro e w2 ⟨rfl, vN', hr2⟩
  go_wp2_with fail
  go_ret
  exact ⟨rfl, _, hr2⟩
set_option maxRecDepth 100000 in
set_option maxHeartbeats 4000000 in
theorem ptake5 {base R : Nat} {s : ByteArray} {a n r : Nat} {l : List NdN} {st : List (Nat × Nat)} {gr : Nat} {vN vL : Value} {w0 : World} (p f : Int) (t : BitVec 256) (n' m' : Int) (w : World) (h : RdV base R s a ⟨l, (n, r) :: st, gr⟩ vN vL w0 w) (hl : l.length ≤ 3999990) :
    Calls Try.prog 15 #[.pointer (some ⟨R, 0, none⟩), .agg (woI 5 p f t n' m')] w fun e w' => e = .returned (.int .i64 0) ∧ ∃ vN', RdV base R s a ⟨l ++ [⟨4, 1, n', m', 0⟩], (n, r) :: st, gr⟩ vN' vL w0 w' := by
  have hB := Blk.new w (woI 5 p f t n' m') 50
  have hr := h.alloc (.cells (woI 5 p f t n' m') 50)
  have hb0 : Below w.heap.size w (w.alloc (.cells (woI 5 p f t n' m') 50)) := by go_grown
  clear h
  have hA := fun W (h : RdV base R s a ⟨l, (n, r) :: st, gr⟩ vN vL w0 W) => padd_calls ⟨4, 1, n', m', 0⟩ W h (by simp only; omega)
  rw [nd_zero] at hA
  have HA := Lib.hid hA
  clear hA
  go_enter Try.func15, Try.ntmps15
  go_upto_region 1 with fail
  generalize w.alloc (.cells (woI 5 p f t n' m') 50) = w1 at *
  have HB0 := Lib.hid hb0
  clear hb0
  have HW := Lib.hid (Eq.refl w.heap.size)
  clear HW
  have c0 := hB.cell 0; have c3 := hB.cell 3; have c4 := hB.cell 4; have c5 := hB.cell 5; have c6 := hB.cell 6; have c7 := hB.cell 7; have c8 := hB.cell 8
  simp only [List.getElem?_toArray, List.getElem?_cons_zero, List.getElem?_cons_succ] at c0 c3 c4 c5 c6 c7 c8
  have HR := Lib.hid hr
  clear hr hB
  go_wp2_with fail
  refine (HA.out _ HR.out).mono ?_
  rintro e w2 ⟨rfl, vN', hr2⟩
  go_wp2_with fail
  go_ret
  exact ⟨rfl, _, hr2⟩
end Go.Proofs.Ythodphgbdmnpoaa

/- Brackets, plainly: how the developers' package reads them. -/
namespace Go.Proofs.Ythodphgbdmnpoaa
open Go.RowKit BS

/-- What was read. -/
structure DP where
  set : BitVec 256
  fin : Nat
  err : Nat
  lack : ByteArray

/-- Does one of the bytes L stand at i? -/
def isN (s : ByteArray) (i : Nat) (L : List Nat) : Bool := decide (i < s.size) && L.contains (bt s i)
def shortD (s l : ByteArray) : DP := ⟨0, s.size, 2, l⟩
def badD (e p : Nat) : DP := ⟨0, p, e, eT⟩
def okD (t : BitVec 256) (p : Nat) : DP := ⟨t, p, 0, eT⟩

def betweenD (s : ByteArray) (i : Nat) : DP :=
  if bt s (i + 2) < bt s i then badD 4 (i + 3)
  else if bt s (i + 2) = 91 ∧ isN s (i + 3) [58, 46, 61] = true then badD 3 (i + 4)
  else okD (range (bt s i) (bt s (i + 2))) (i + 3)

/-- How far a name goes. -/
def nmEnd (s : ByteArray) (a : Nat) : Nat → Nat → Nat
  | 0, e => e
  | n + 1, e => if begB (s.extract a (e + 1)) = true then nmEnd s a n (e + 1) else e
/-- How the first name that begins so goes on. -/
def restD (l : ByteArray) : ByteArray := ((tabL.find? fun e => pfx e.1 l).map (fun e => e.1.extract l.size e.1.size)).getD eT
def colT : ByteArray := ofT [58, 93, 93]
def twoT : ByteArray := ofT [93, 93]
def oneT : ByteArray := ofT [93]

def behindD (s : ByteArray) (a e : Nat) : DP :=
  if e = s.size then shortD s (restD (s.extract a s.size) ++ colT)
  else if ofB (s.extract a e).toList = false ∨ bt s e ≠ 58 then badD 5 (e + 1)
  else if e + 1 = s.size then shortD s twoT
  else if bt s (e + 1) ≠ 93 then badD 3 (e + 2)
  else okD (ofS (s.extract a e).toList) (e + 2)
def namedD (s : ByteArray) (a : Nat) : DP := behindD s a (nmEnd s a (s.size - a) a)

def thingD (s : ByteArray) (i : Nat) : DP :=
  if bt s i = 91 ∧ isN s (i + 1) [58] = true then namedD s (i + 2)
  else if bt s i = 91 ∧ isN s (i + 1) [46, 61] = true then badD 3 (i + 2)
  else if (isN s (i + 1) [45] = true ∧ i + 2 < s.size) ∧ bt s (i + 2) ≠ 93 then betweenD s i
  else okD (range (bt s i) (bt s i)) (i + 1)

def loopD (s : ByteArray) (first : Nat) : Nat → BitVec 256 → Nat → DP
  | 0, t, i => okD t i
  | n + 1, t, i =>
    if i = s.size ∧ i = first then shortD s twoT
    else if i = s.size then shortD s oneT
    else if bt s i = 93 ∧ first < i then okD t (i + 1)
    else if (thingD s i).err ≠ 0 then thingD s i
    else loopD s first n (t ||| (thingD s i).set) (thingD s i).fin
def thingsD (s : ByteArray) (first : Nat) : DP := loopD s first (s.size + 1 - first) 0 first

def negD (p : DP) : DP := ⟨~~~p.set, p.fin, p.err, p.lack⟩
def wholeD (s : ByteArray) (at' : Int) : DP :=
  if at' < 0 then badD 1 0
  else if isN s at'.toNat [91] = false then badD 1 0
  else if isN s (at'.toNat + 1) [94] = false then thingsD s (at'.toNat + 1)
  else negD (thingsD s (at'.toNat + 2))
def readD (s : ByteArray) (at' : Int) : BitVec 256 × Nat × Nat × Nat :=
  if (wholeD s at').err ≠ 0 then (0, 0, (wholeD s at').err, (wholeD s at').fin) else ((wholeD s at').set, (wholeD s at').fin, 0, 0)

/-! ### It reads as the document does -/
theorem isN_lt {s : ByteArray} {i : Nat} {L : List Nat} (h : isN s i L = true) : i < s.size := by
  unfold isN at h; simp at h; exact h.1
theorem isN_one (s : ByteArray) (i b : Nat) : isN s i [b] = true ↔ i < s.size ∧ bt s i = b := by
  unfold isN; simp
theorem isN_two (s : ByteArray) (i b c : Nat) : isN s i [b, c] = true ↔ i < s.size ∧ (bt s i = b ∨ bt s i = c) := by
  unfold isN; simp
theorem isN_three (s : ByteArray) (i b c d : Nat) : isN s i [b, c, d] = true ↔ i < s.size ∧ (bt s i = b ∨ bt s i = c ∨ bt s i = d) := by
  unfold isN; simp
theorem spec3_iff (b : Nat) : spec3 b = true ↔ b = 58 ∨ b = 46 ∨ b = 61 := by
  unfold spec3; simp [or_assoc]

/-- What reading ends in, for a bracket with ^ or without. -/
def finD (neg : Bool) (p : DP) : BitVec 256 × Nat × Nat × Nat := if p.err ≠ 0 then (0, 0, p.err, p.fin) else (if neg = true then ~~~p.set else p.set, p.fin, 0, 0)

/-- No name has a : in it. -/
theorem no_colon : ∀ k, k < 12 → ∀ j, j < 16 → bt (tE k).1 j ≠ 58 := by decide +kernel
theorem name_len : ∀ k, k < 12 → (tE k).1.size ≤ 16 ∧ 0 < (tE k).1.size := by decide +kernel
theorem pfx_bt {nm l : ByteArray} (h : pfx nm l = true) : l.size ≤ nm.size ∧ ∀ i, i < l.size → bt l i = bt nm i := by
  unfold pfx at h
  rw [Bool.and_eq_true, decide_eq_true_eq, beq_iff_eq] at h
  obtain ⟨h1, h2⟩ := h
  refine ⟨h1, fun i hi => ?_⟩
  have e : bt (nm.extract 0 l.size) i = bt nm (0 + i) := bt_extract nm 0 l.size i h1 (by omega)
  rw [Nat.zero_add] at e
  rw [← e]
  have e2 : nm.extract 0 l.size = l := by
    apply ByteArray.ext
    apply Array.toList_inj.1
    have := h2
    rw [ByteArray.toList_eq, ByteArray.toList_eq] at this
    exact this
  rw [e2]
theorem begB_iff (l : ByteArray) : begB l = true ↔ ∃ k, k < 12 ∧ pfx (tE k).1 l = true := by
  constructor
  · intro h
    refine Decidable.byContradiction fun hc => ?_
    rw [begB_not l (fun j hj => ?_)] at h
    · exact absurd h (by decide)
    · cases hp : pfx (tE j).1 l with
      | false => rfl
      | true => exact absurd ⟨j, hj, hp⟩ hc
  · rintro ⟨k, hk, h⟩
    exact begB_at l k hk h
theorem beg_colon (s : ByteArray) (a e : Nat) (ha : a ≤ e) (he : e < s.size) (h : bt s e = 58) : begB (s.extract a (e + 1)) = false := by
  cases hb : begB (s.extract a (e + 1)) with
  | false => rfl
  | true =>
    obtain ⟨k, hk, hp⟩ := (begB_iff _).1 hb
    obtain ⟨h1, h2⟩ := pfx_bt hp
    have hs : (s.extract a (e + 1)).size = e + 1 - a := by rw [ByteArray.size_extract]; omega
    have h3 := h2 (e - a) (by omega)
    rw [bt_extract s a (e + 1) (e - a) (by omega) (by omega), show a + (e - a) = e by omega, h] at h3
    have := (name_len k hk).1
    exact absurd h3.symm (no_colon k hk (e - a) (by omega))
end Go.Proofs.Ythodphgbdmnpoaa

/- Texts put together: Pc Pd Ha Pe Pf Pg Qa Fa Fs. -/
import Derived.Test.YtldaaelmifbbhaaGreatPL
import Derived.Test.YtldaaelmifbbhaaGreatPF
/- What the document parses is a pattern's tree, with a node for each word. Stage 7. -/
namespace Go.Proofs.YtldaaelmifbbhaaGreat
open Go.RowKit BS

/-- A word's kind by its first byte. -/
theorem next_kinds (s : ByteArray) (a : Nat) (w : WN) (h : nextA s a = (w, 0, 0)) : (w.kind = 2 → bt s a = 40) ∧ (w.kind = 3 → bt s a = 41) ∧ (w.kind = 5 → bt s a = 42 ∨ bt s a = 43 ∨ bt s a = 63 ∨ bt s a = 123) := by
  have one : ∀ (t : BitVec 256) (p q : Nat), (oneW t p q, 0, 0) = (w, (0 : Nat), (0 : Nat)) → w.kind = 1 := fun t p q h => by
    have := (Prod.mk.inj h).1; rw [← this]; rfl
  unfold nextA at h
  by_cases h1 : bt s a = 40
  · rw [if_pos h1] at h
    have := (Prod.mk.inj h).1
    subst this
    exact ⟨fun _ => h1, (fun h => by cases h), (fun h => by cases h)⟩
  rw [if_neg h1] at h
  by_cases h2 : bt s a = 41
  · rw [if_pos h2] at h
    have := (Prod.mk.inj h).1
    subst this
    exact ⟨(fun h => by cases h), fun _ => h2, (fun h => by cases h)⟩
  rw [if_neg h2] at h
  by_cases h3 : bt s a = 124
  · rw [if_pos h3] at h
    have := (Prod.mk.inj h).1
    subst this
    exact ⟨(fun h => by cases h), (fun h => by cases h), (fun h => by cases h)⟩
  rw [if_neg h3] at h
  by_cases h4 : bt s a = 42 ∨ bt s a = 43 ∨ bt s a = 63 ∨ bt s a = 123
  · rw [if_pos h4] at h
    unfold cntW at h
    generalize readN s a = R at h
    obtain ⟨n, m, p, e, k⟩ := R
    simp only at h
    by_cases he : e ≠ 0
    · rw [if_pos he] at h
      exact absurd (Prod.mk.inj (Prod.mk.inj h).2).1 he
    · rw [if_neg he] at h
      have := (Prod.mk.inj h).1
      subst this
      exact ⟨(fun h => by cases h), (fun h => by cases h), fun _ => h4⟩
  rw [if_neg h4] at h
  have key : w.kind = 1 := by
    by_cases h5 : bt s a = 91
    · rw [if_pos h5] at h
      unfold brkW at h
      generalize readR s a = R at h
      obtain ⟨t, p, e, k⟩ := R
      simp only at h
      by_cases he : e ≠ 0
      · rw [if_pos he] at h
        exact absurd (Prod.mk.inj (Prod.mk.inj h).2).1 he
      · rw [if_neg he] at h
        exact one _ _ _ h
    rw [if_neg h5] at h
    by_cases h6 : bt s a = 46
    · rw [if_pos h6] at h
      exact one _ _ _ h
    rw [if_neg h6] at h
    by_cases h7 : bt s a = 94 ∨ bt s a = 36
    · rw [if_pos h7] at h
      cases (Prod.mk.inj (Prod.mk.inj h).2).1
    rw [if_neg h7] at h
    by_cases h8 : bt s a = 92
    · rw [if_pos h8] at h
      unfold slashW at h
      by_cases h9 : s.size ≤ a + 1
      · rw [if_pos h9] at h
        cases (Prod.mk.inj (Prod.mk.inj h).2).1
      rw [if_neg h9] at h
      by_cases h10 : four14 (bt s (a + 1)) = false
      · rw [if_pos h10] at h
        cases (Prod.mk.inj (Prod.mk.inj h).2).1
      · rw [if_neg h10] at h
        exact one _ _ _ h
    · rw [if_neg h8] at h
      exact one _ _ _ h
  exact ⟨fun h => by omega, fun h => by omega, fun h => by omega⟩

/-! ### A node for each word -/
def kc (k : Int) (l : List NdN) : Nat := (l.map NdN.kind).countP (· == k)
theorem kc_app (k : Int) (l m : List NdN) : kc k (l ++ m) = kc k l + kc k m := by unfold kc; rw [List.map_append, List.countP_append]
def altN (l : List NdN) : Nat := (l.map fun x => if x.kind = 6 then x.kids.toNat - 1 else 0).sum
theorem altN_app (l m : List NdN) : altN (l ++ m) = altN l + altN m := by unfold altN; rw [List.map_append, List.sum_append]
def wc (k : Nat) (ws : List WN) : Nat := ws.countP fun w => w.kind == k
theorem wc_snoc (k : Nat) (ws : List WN) (w : WN) : wc k (ws ++ [w]) = wc k ws + if w.kind = k then 1 else 0 := by
  unfold wc
  rw [List.countP_append]
  simp [List.countP_cons]
def rowsN (st : List (Nat × Nat)) : Nat := (st.map (·.2)).sum
theorem rowsN_bump (st : List (Nat × Nat)) : rowsN (bumpP st) = rowsN st := by
  obtain _ | ⟨⟨n, r⟩, st⟩ := st <;> rfl
theorem kc_row (k : Int) (hk : k = 2 ∨ k = 3 ∨ k = 4) (n : Nat) : kc k (rowT n) = 0 := by
  unfold rowT
  by_cases h : n = 0
  · rw [if_pos h]; rcases hk with rfl | rfl | rfl <;> rfl
  · rw [if_neg h]
    by_cases h1 : n = 1
    · rw [if_pos h1]; rfl
    · rw [if_neg h1]; rcases hk with rfl | rfl | rfl <;> rfl
theorem kc_rows (k : Int) (hk : k = 2 ∨ k = 3 ∨ k = 4) (n : Nat) : kc k (rowsT n) = 0 := by
  unfold rowsT
  by_cases h : 1 < n
  · rw [if_pos h]; rcases hk with rfl | rfl | rfl <;> rfl
  · rw [if_neg h]; rfl
theorem altN_row (n : Nat) : altN (rowT n) = 0 := by
  unfold rowT
  by_cases h : n = 0
  · rw [if_pos h]; rfl
  · rw [if_neg h]
    by_cases h1 : n = 1
    · rw [if_pos h1]; rfl
    · rw [if_neg h1]; rfl
theorem altN_rows (r : Nat) : altN (rowsT (r + 1)) = r := by
  unfold rowsT
  by_cases h : 1 < r + 1
  · rw [if_pos h]
    show (r + 1 : Nat) - 1 + 0 = r
    omega
  · rw [if_neg h]
    show 0 = r
    omega
/-- The nodes so far are those of the words so far. -/
def CInv (x : PS) (ws : List WN) : Prop := kc 2 x.l = wc 1 ws ∧ kc 4 x.l = wc 5 ws ∧ x.groups = wc 2 ws ∧ kc 3 x.l = wc 3 ws ∧ altN x.l + rowsN x.st = wc 4 ws
theorem take_cnt (x : PS) (w : WN) (ws : List WN) (hne : x.st ≠ []) (h : CInv x ws) (hw : w.kind = 1 ∨ w.kind = 2 ∨ w.kind = 3 ∨ w.kind = 4 ∨ w.kind = 5) : CInv (takeP x w) (ws ++ [w]) := by
  obtain ⟨h1, h2, h3, h4, h5⟩ := h
  obtain ⟨l, st, gr⟩ := x
  obtain _ | ⟨⟨n, r⟩, st⟩ := st
  · exact absurd rfl hne
  simp only at h1 h2 h3 h4 h5
  have a2 := kc_row 2 (.inl rfl) n
  have a3 := kc_row 3 (.inr (.inl rfl)) n
  have a4 := kc_row 4 (.inr (.inr rfl)) n
  have b2 := kc_rows 2 (.inl rfl) (r + 1)
  have b3 := kc_rows 3 (.inr (.inl rfl)) (r + 1)
  have b4 := kc_rows 4 (.inr (.inr rfl)) (r + 1)
  have a5 := altN_row n
  have b5 := altN_rows r
  unfold CInv takeP
  simp only [wc_snoc]
  rcases hw with c | c | c | c | c
  · rw [if_pos c]
    simp only [kc_app, altN_app, rowsN_bump, c]
    refine ⟨?_, ?_, ?_, ?_, ?_⟩
    · rw [h1]; rfl
    · rw [h2]; rfl
    · rw [h3]; rfl
    · rw [h4]; rfl
    · rw [← h5]
      show altN l + 0 + _ = _ + 0
      omega
  · rw [if_neg (by omega), if_pos c]
    simp only [c]
    refine ⟨h1, h2, by rw [h3]; rfl, h4, ?_⟩
    rw [← h5]
    show altN l + (0 + rowsN ((n, r) :: st)) = _ + 0
    omega
  · rw [if_neg (by omega), if_neg (by omega), if_pos c]
    simp only [rowsP, kc_app, altN_app, rowsN_bump, c, a2, a3, a4, b2, b3, b4, a5, b5]
    have e2 : kc 2 [ndG] = 0 := rfl
    have e3 : kc 3 [ndG] = 1 := rfl
    have e4 : kc 4 [ndG] = 0 := rfl
    have e5 : altN [ndG] = 0 := rfl
    have e6 : rowsN ((n, r) :: st) = r + rowsN st := rfl
    rw [e2, e3, e4, e5]
    rw [e6] at h5
    refine ⟨by rw [h1]; rfl, by rw [h2]; rfl, by rw [h3]; rfl, by rw [h4]; rfl, ?_⟩
    rw [← h5]
    show _ = _ + 0
    omega
  · rw [if_neg (by omega), if_neg (by omega), if_neg (by omega), if_pos c]
    simp only [rowP, kc_app, altN_app, c, a2, a3, a4, a5]
    have e6 : rowsN ((n, r) :: st) = r + rowsN st := rfl
    have e7 : rowsN ((0, r + 1) :: st) = r + 1 + rowsN st := rfl
    rw [e6] at h5
    rw [e7]
    refine ⟨by rw [h1]; rfl, by rw [h2]; rfl, by rw [h3]; rfl, by rw [h4]; rfl, ?_⟩
    rw [← h5]
    show _ = _ + 1
    omega
  · rw [if_neg (by omega), if_neg (by omega), if_neg (by omega), if_neg (by omega), if_pos c]
    simp only [kc_app, altN_app, c]
    refine ⟨?_, ?_, ?_, ?_, ?_⟩
    · rw [h1]; rfl
    · rw [h2]; rfl
    · rw [h3]; rfl
    · rw [h4]; rfl
    · rw [← h5]
      show altN l + 0 + _ = _ + 0
      omega
theorem okW_kind (w : WN) (h : OkW w) : w.kind = 1 ∨ w.kind = 2 ∨ w.kind = 3 ∨ w.kind = 4 ∨ w.kind = 5 := by
  rcases h with h | h | h <;> omega
theorem take_st (x : PS) (w : WN) (hi : PInv (takeP x w)) : (takeP x w).st ≠ [] := hi.1
/-- **What is parsed is a pattern's tree, with a node for each word; beside an error there is none.** -/
theorem readP_spec (s : ByteArray) : ∀ k a x ws, a ≤ s.size → s.size < k + a → PInv x → CInv x ws →
    ((readP s k a x).2.2.1 ≠ 0 ∧ (readP s k a x).1 = zPS ∧ (readP s k a x).2.2.2 ≤ s.size) ∨
    ((readP s k a x).2 = (0, 0, 0) ∧ rightR (readP s k a x).1.l = true ∧ ∃ wl, allN s k a ws = (wl, 0, 0) ∧ kc 2 (readP s k a x).1.l = wc 1 wl ∧ kc 4 (readP s k a x).1.l = wc 5 wl ∧ kc 3 (readP s k a x).1.l = wc 2 wl ∧ wc 2 wl = wc 3 wl ∧ altN (readP s k a x).1.l = wc 4 wl)
  | 0, a, x, ws, ha, hk, _, _ => by omega
  | k + 1, a, x, ws, ha, hk, hi, hc => by
    rw [readP]
    by_cases hend : s.size ≤ a
    · rw [if_pos hend]
      obtain rfl : a = s.size := by omega
      by_cases hop : 1 < x.st.length
      · rw [if_pos hop]
        exact .inl ⟨(by decide : (2 : Nat) ≠ 0), rfl, Nat.le_refl _⟩
      · rw [if_neg hop]
        obtain ⟨hne, ⟨ks, h1, h2⟩, h3, h4⟩ := hi
        obtain ⟨l, st, gr⟩ := x
        obtain _ | ⟨⟨n, r⟩, st⟩ := st
        · exact absurd rfl hne
        obtain rfl : st = [] := by
          cases st with
          | nil => rfl
          | cons _ _ => simp at hop
        obtain ⟨c, rest, g1, g2⟩ := rows_inv l ks n r [] h1 h2
        obtain rfl : rest = [] := g2
        obtain ⟨c1, c2, c3, c4, c5⟩ := hc
        simp only at c1 c2 c3 c4 c5 h3 h4
        have a2 := kc_row 2 (.inl rfl) n
        have a3 := kc_row 3 (.inr (.inl rfl)) n
        have a4 := kc_row 4 (.inr (.inr rfl)) n
        have b2 := kc_rows 2 (.inl rfl) (r + 1)
        have b3 := kc_rows 3 (.inr (.inl rfl)) (r + 1)
        have b4 := kc_rows 4 (.inr (.inr rfl)) (r + 1)
        have a5 := altN_row n
        have b5 := altN_rows r
        have e6 : rowsN [(n, r)] = r + 0 := rfl
        have hg : g3 l = kc 3 l := rfl
        rw [e6] at c5
        simp only [List.length_cons, List.length_nil] at h3
        refine .inr ⟨rfl, ?_, ws, allN_end s k ws, ?_, ?_, ?_, ?_, ?_⟩
        · refine kst_right _ c g1 ?_
          show kc 3 (l ++ rowT n ++ rowsT (r + 1)) ≤ 9
          rw [kc_app, kc_app, a3, b3]
          omega
        · show kc 2 (l ++ rowT n ++ rowsT (r + 1)) = _
          rw [kc_app, kc_app, a2, b2]
          omega
        · show kc 4 (l ++ rowT n ++ rowsT (r + 1)) = _
          rw [kc_app, kc_app, a4, b4]
          omega
        · show kc 3 (l ++ rowT n ++ rowsT (r + 1)) = _
          rw [kc_app, kc_app, a3, b3]
          omega
        · omega
        · show altN (l ++ rowT n ++ rowsT (r + 1)) = _
          rw [altN_app, altN_app, a5, b5]
          omega
    · rw [if_neg hend]
      have hlt : a < s.size := by omega
      by_cases hf : firstP x (bt s a) ≠ 0
      · rw [if_pos hf]
        exact .inl ⟨hf, rfl, by show a + 1 ≤ _; omega⟩
      · rw [if_neg hf]
        have hf0 : firstP x (bt s a) = 0 := Decidable.not_not.1 hf
        have hE := nextA_end s a hlt
        have hkd := next_kinds s a
        have hmore := allN_more s k a ws
        generalize nextA s a = X at *
        obtain ⟨w, e, p⟩ := X
        simp only
        rcases hE with ⟨e1, e2, e3, e4, e5, e6⟩ | ⟨e1, _, _, _, e5, _⟩
        · simp only at e1 e2 e3 e4 e5 e6
          subst e1 e2
          rw [if_neg (by decide), hmore w hlt rfl]
          obtain ⟨k2, k3, k5⟩ := hkd w rfl
          have hi2 := take_inv s a x w hi hf0 e3 k2 k3 k5
          exact readP_spec s k w.fin (takeP x w) (ws ++ [w]) e6 (by omega) hi2 (take_cnt x w ws hi.1 hc (okW_kind w e3))
        · simp only at e1 e5
          rw [if_pos e1]
          exact .inl ⟨e1, rfl, e5⟩
end Go.Proofs.YtldaaelmifbbhaaGreat

/- What is wrong at a place is wrong there, whatever stands behind; nothing is wrong ahead of it. Stage 7. -/
namespace Go.Proofs.YtldaaelmifbbhaaGreat
open Go.RowKit BS

theorem Agr.symm {n : Nat} {s s' : ByteArray} (h : Agr n s s') : Agr n s' s := ⟨h.2.1, h.1, fun i hi => (h.2.2 i hi).symm⟩
def cutW (X : WN × Nat × Nat) : Nat := if X.2.1 = 0 then X.1.fin else X.2.2
theorem nextA_agr (s s' : ByteArray) (a : Nat) (ha : a < s.size) (h2 : (nextA s a).2.1 ≠ 2) (hA : Agr (cutW (nextA s a)) s s') : nextA s' a = nextA s a := by
  have hlt : a < cutW (nextA s a) := by
    unfold cutW
    rcases nextA_end s a ha with ⟨e1, _, _, _, e5, _⟩ | ⟨e1, _, _, e4, _, _⟩
    · rw [if_pos e1]; exact e5
    · rw [if_neg e1]; exact e4
  have hb := hA.2.2 a hlt
  have hz := hA.2.1
  unfold nextA at *
  rw [← hb]
  by_cases c1 : bt s a = 40
  · rw [if_pos c1, if_pos c1]
  rw [if_neg c1] at h2 hA hlt ⊢
  rw [if_neg c1]
  by_cases c2 : bt s a = 41
  · rw [if_pos c2, if_pos c2]
  rw [if_neg c2] at h2 hA hlt ⊢
  rw [if_neg c2]
  by_cases c3 : bt s a = 124
  · rw [if_pos c3, if_pos c3]
  rw [if_neg c3] at h2 hA hlt ⊢
  rw [if_neg c3]
  by_cases c4 : bt s a = 42 ∨ bt s a = 43 ∨ bt s a = 63 ∨ bt s a = 123
  · rw [if_pos c4] at h2 hA hlt ⊢
    rw [if_pos c4]
    have hE := cntW_end s a ha c4
    have hcw : cutW (cntW s a) = (if (readN s a).2.2.2.1 = 0 then (readN s a).2.2.1 else (readN s a).2.2.2.2) ∧ (cntW s a).2.1 = (readN s a).2.2.2.1 := by
      unfold cutW cntW
      generalize readN s a = R
      obtain ⟨n, m, p, e, k⟩ := R
      simp only
      by_cases he : e = 0
      · subst he; simp
      · simp [he]
    have he1 : (readN s a).2.2.2.1 ≠ 1 := by
      rw [← hcw.2]
      rcases hE with ⟨e1, _⟩ | ⟨_, e1, _⟩
      · rw [e1]; decide
      · exact e1
    have := readN_agr s s' a he1 (by rw [← hcw.2]; exact h2) (by rw [← hcw.1]; exact hA)
    unfold cntW
    rw [this]
  rw [if_neg c4] at h2 hA hlt ⊢
  rw [if_neg c4]
  by_cases c5 : bt s a = 91
  · rw [if_pos c5] at h2 hA hlt ⊢
    rw [if_pos c5]
    have hE := brkW_end s a ha c5
    have hcw : cutW (brkW s a) = cutT (readR s a) ∧ (brkW s a).2.1 = (readR s a).2.2.1 := by
      unfold cutW cutT brkW
      generalize readR s a = R
      obtain ⟨t, p, e, k⟩ := R
      simp only
      by_cases he : e = 0
      · subst he; simp [oneW]
      · simp [he]
    have he1 : (readR s a).2.2.1 ≠ 1 := by
      rw [← hcw.2]
      rcases hE with ⟨e1, _⟩ | ⟨_, e1, _⟩
      · rw [e1]; decide
      · exact e1
    have := readR_agr s s' a he1 (by rw [← hcw.2]; exact h2) (by rw [← hcw.1]; exact hA)
    unfold brkW
    rw [this]
  rw [if_neg c5] at h2 hA hlt ⊢
  rw [if_neg c5]
  by_cases c6 : bt s a = 46
  · rw [if_pos c6, if_pos c6]
  rw [if_neg c6] at h2 hA hlt ⊢
  rw [if_neg c6]
  by_cases c7 : bt s a = 94 ∨ bt s a = 36
  · rw [if_pos c7, if_pos c7]
  rw [if_neg c7] at h2 hA hlt ⊢
  rw [if_neg c7]
  by_cases c8 : bt s a = 92
  · rw [if_pos c8] at h2 hA hlt ⊢
    rw [if_pos c8]
    unfold slashW at *
    by_cases c9 : s.size ≤ a + 1
    · rw [if_pos c9] at h2
      exact absurd rfl h2
    rw [if_neg c9] at h2 hA hlt ⊢
    have hcut : (if four14 (bt s (a + 1)) = false then (zWN, 3, a + 2) else (oneW (range (bt s (a + 1)) (bt s (a + 1))) a (a + 2), 0, 0) : WN × Nat × Nat) = (if four14 (bt s (a + 1)) = false then (zWN, 3, a + 2) else (oneW (range (bt s (a + 1)) (bt s (a + 1))) a (a + 2), 0, 0)) := rfl
    have hc2 : cutW (if four14 (bt s (a + 1)) = false then (zWN, 3, a + 2) else (oneW (range (bt s (a + 1)) (bt s (a + 1))) a (a + 2), 0, 0)) = a + 2 := by
      by_cases c10 : four14 (bt s (a + 1)) = false
      · rw [if_pos c10]; rfl
      · rw [if_neg c10]; rfl
    rw [hc2] at hA
    have h3 := hA.2.1
    rw [if_neg (by omega), ← hA.2.2 (a + 1) (by omega)]
  · rw [if_neg c8, if_neg c8]
/-- Where it is wrong: behind where it began, and in the text. -/
theorem readP_place (s : ByteArray) : ∀ k a x, a ≤ s.size → s.size < k + a → (readP s k a x).2.2.1 ≠ 0 → (readP s k a x).2.2.1 ≠ 2 → a < (readP s k a x).2.2.2 ∧ (readP s k a x).2.2.2 ≤ s.size
  | 0, a, x, ha, hk, _, _ => by omega
  | k + 1, a, x, ha, hk, h0, h2 => by
    rw [readP] at h0 h2 ⊢
    by_cases hend : s.size ≤ a
    · rw [if_pos hend] at h0 h2
      by_cases hop : 1 < x.st.length
      · rw [if_pos hop] at h2; exact absurd rfl h2
      · rw [if_neg hop] at h0; exact absurd rfl h0
    rw [if_neg hend] at h0 h2 ⊢
    have hlt : a < s.size := by omega
    by_cases hf : firstP x (bt s a) ≠ 0
    · rw [if_pos hf]
      exact ⟨Nat.lt_succ_self a, hlt⟩
    rw [if_neg hf] at h0 h2 ⊢
    have hE := nextA_end s a hlt
    generalize nextA s a = X at *
    obtain ⟨w, e, p⟩ := X
    simp only at h0 h2 ⊢
    rcases hE with ⟨e1, _, _, _, e5, e6⟩ | ⟨e1, _, _, e4, e5, _⟩
    · simp only at e1 e5 e6
      subst e1
      rw [if_neg (by decide)] at h0 h2 ⊢
      have := readP_place s k w.fin (takeP x w) e6 (by omega) h0 h2
      omega
    · simp only at e1 e4 e5
      rw [if_pos e1]
      exact ⟨e4, e5⟩
/-- **What is wrong at a place is wrong there, whatever stands behind.** -/
theorem readP_sure (s s' : ByteArray) : ∀ k k' a x, a ≤ s.size → s.size < k + a → s'.size < k' + a → (readP s k a x).2.2.1 ≠ 0 → (readP s k a x).2.2.1 ≠ 2 → Agr (readP s k a x).2.2.2 s s' → readP s' k' a x = readP s k a x
  | 0, k', a, x, ha, hk, _, _, _, _ => by omega
  | k + 1, k', a, x, ha, hk, hk', h0, h2, hA => by
    have hpl := readP_place s (k + 1) a x ha hk h0 h2
    have hz := hA.2.1
    have hs' : a < s'.size := by omega
    obtain ⟨k', rfl⟩ : ∃ m, k' = m + 1 := ⟨k' - 1, by omega⟩
    have hb := hA.2.2 a hpl.1
    rw [readP] at h0 h2 hA hpl ⊢
    rw [readP]
    by_cases hend : s.size ≤ a
    · rw [if_pos hend] at h0 h2
      by_cases hop : 1 < x.st.length
      · rw [if_pos hop] at h2; exact absurd rfl h2
      · rw [if_neg hop] at h0; exact absurd rfl h0
    rw [if_neg hend] at h0 h2 hA hpl ⊢
    have hlt : a < s.size := by omega
    rw [if_neg (show ¬ s'.size ≤ a by omega), ← hb]
    by_cases hf : firstP x (bt s a) ≠ 0
    · rw [if_pos hf, if_pos hf]
    rw [if_neg hf] at h0 h2 hA hpl ⊢
    rw [if_neg hf]
    have hE := nextA_end s a hlt
    have hag := nextA_agr s s' a hlt
    generalize nextA s a = X at *
    obtain ⟨w, e, p⟩ := X
    simp only at h0 h2 hA hpl ⊢
    rcases hE with ⟨e1, e2, _, _, e5, e6⟩ | ⟨e1, _, _, e4, e5, _⟩
    · simp only at e1 e2 e5 e6
      subst e1
      subst e2
      rw [if_neg (show ¬ (0 : Nat) ≠ 0 by decide)] at h0 h2 hA hpl ⊢
      have hp2 := readP_place s k w.fin (takeP x w) e6 (by omega) h0 h2
      have hx : nextA s' a = (w, 0, 0) := hag (by show (0 : Nat) ≠ 2; decide) (hA.le (by show w.fin ≤ _; omega))
      rw [hx]
      show (if (0 : Nat) ≠ 0 then (zPS, 0, 0, 0) else readP s' k' w.fin (takeP x w)) = _
      rw [if_neg (show ¬ (0 : Nat) ≠ 0 by decide)]
      exact readP_sure s s' k k' w.fin (takeP x w) e6 (by omega) (by omega) h0 h2 hA
    · simp only at e1 e4 e5
      rw [if_pos e1] at h0 h2 hA ⊢
      have hx : nextA s' a = (w, e, p) := hag h2 (by
        have : cutW (w, e, p) = p := if_neg e1
        rw [this]; exact hA)
      rw [hx]
      show (if e ≠ 0 then (zPS, 0, e, p) else readP s' k' w.fin (takeP x w)) = _
      rw [if_pos e1]
/-- **Nothing is wrong ahead of it.** -/
theorem readP_cut (s s' : ByteArray) (k k' a : Nat) (x : PS) (ha' : a ≤ s'.size) (hk : s.size < k + a) (hk' : s'.size < k' + a)
    (hz : s'.size + 1 = (readP s k a x).2.2.2) (hA : Agr s'.size s s') : (readP s' k' a x).2.2.1 = 0 ∨ (readP s' k' a x).2.2.1 = 2 := by
  by_cases g0 : (readP s' k' a x).2.2.1 = 0
  · exact .inl g0
  by_cases g2 : (readP s' k' a x).2.2.1 = 2
  · exact .inr g2
  exfalso
  have hp := readP_place s' k' a x ha' hk' g0 g2
  have he := readP_sure s' s k' k a x ha' hk' hk g0 g2 (hA.symm.le hp.2)
  rw [he] at hz
  omega
end Go.Proofs.YtldaaelmifbbhaaGreat

/- The laws of stage 7: what they want of the package parse; sure. -/
namespace Go.Proofs.YtldaaelmifbbhaaGreat
open Go.RowKit BS

/-- What the laws want of the package parse. -/
structure ParseC : Prop where
  parse : ∀ (s : ByteArray), s.size ≤ 1000000 → ∀ (w : World), Calls Tryz.prog 13 #[.string s] w fun e w' => ∃ v, e = .returned (.tuple #[v, .int .i64 (parseN s).2.2.1, .int .i64 (parseN s).2.2.2]) ∧ w'.ownsRow w.heap.size 92 8 v (parseN s).1.l.length (ndCells (parseN s).1.l) ∧ Below w.heap.size w w'
  openG : ∀ (s : ByteArray), s.size ≤ 1000000 → ∀ (w : World), Calls Tryz.prog 20 #[.string s] w fun e w' => e = .returned (.int .i64 (parseN s).2.1) ∧ Below w.heap.size w w'

/-! ### sure -/
def s71 : ByteArray := ⟨#[97, 40, 98, 124, 41, 42]⟩
def s72 : ByteArray := ⟨#[97, 41]⟩
def s73 : ByteArray := ⟨#[97, 124, 42]⟩
def s74 : ByteArray := ⟨#[97, 40, 40, 98, 41, 99]⟩
theorem s71_len : (parseN s71).1.l.length = 7 := by decide +kernel
theorem s71_e : (parseN s71).2.2 = (0, 0) := by decide +kernel
theorem s71_3 : ((parseN s71).1.l[3]?).map (fun x => x.kind) = some 6 := by decide +kernel
theorem s71_6 : ((parseN s71).1.l[6]?).map (fun x => x.kids) = some 2 := by decide +kernel
theorem s72_e : (parseN s72).2.2 = (8, 2) := by decide +kernel
theorem s73_e : (parseN s73).2.2 = (7, 3) := by decide +kernel
theorem s74_e : (parseN s74).2.1 = 1 := by decide +kernel
theorem s71_c (C : ParseC) (w : World) : Calls Tryz.prog 13 #[.string ⟨#[97, 40, 98, 124, 41, 42]⟩] w fun e w' => ∃ g cap, e = .returned (.tuple #[.slice (some ⟨g, 0, none⟩) 7 cap, .int .i64 0, .int .i64 0]) ∧
    (g < w'.heap.size ∧ w'.cell? ⟨g, 24, none⟩ = some (.int .i64 6) ∧ w'.cell? ⟨g, 49, none⟩ = some (.int .i64 2)) ∧ Below w.heap.size w w' := by
  refine (C.parse s71 (by decide) w).mono ?_
  rintro e w' ⟨v, rfl, hv, hb⟩
  have h7 := s71_len
  have h3 := s71_3
  have h6 := s71_6
  rw [s71_e]
  generalize (parseN s71).1.l = l at *
  obtain ⟨g, cap, rfl, _, hn⟩ := nodes_of_owns hv (by rintro rfl; cases h7)
  obtain ⟨g', off, e, hlt, hc⟩ := hn (by rintro rfl; cases h7)
  cases e
  rw [h7]
  have c3 := hc 3 (by omega) 0 (by omega)
  have c6 := hc 6 (by omega) 1 (by omega)
  rw [List.getElem?_eq_getElem (by omega)] at h3 h6
  simp only [Option.map_some, Option.some.injEq] at h3 h6
  refine ⟨g, cap, rfl, ⟨hlt, ?_, ?_⟩, hb⟩
  · rw [← h3]; exact c3
  · rw [← h6]; exact c6
end Go.Proofs.YtldaaelmifbbhaaGreat

/- Brackets, and words, moved: what stands ahead changes nothing but the places. Stage 7. -/
namespace Go.Proofs.YtldaaelmifbbhaaGreat
open Go.RowKit BS

theorem ext_off (p s : ByteArray) (i j : Nat) : (p ++ s).extract (p.size + i) (p.size + j) = s.extract i j := by
  apply ByteArray.ext
  apply Array.toList_inj.1
  rw [ByteArray.data_extract, ByteArray.data_extract, Array.toList_extract, Array.toList_extract]
  have e : (p ++ s).data.toList = p.data.toList ++ s.data.toList := by simp
  have hl : p.data.toList.length = p.size := by simp
  rw [e, List.extract_eq_take_drop, List.extract_eq_take_drop, List.drop_append, hl, List.drop_of_length_le (by omega), List.nil_append, show p.size + i - p.size = i by omega, show p.size + j - (p.size + i) = j - i by omega]
def shB (d : Nat) (r : BR) : BR := if r.err = 0 then ⟨r.set, d + r.pos, 0, r.place, r.fin, r.neg⟩ else badR r.err (d + r.place)
theorem shB_bad (d e q : Nat) (he : e ≠ 0) : shB d (badR e q) = badR e (d + q) := by unfold shB badR; rw [if_neg he]
theorem shB_ok (d : Nat) (t : BitVec 256) (q pl : Nat) (fi ne : Bool) : shB d ⟨t, q, 0, pl, fi, ne⟩ = ⟨t, d + q, 0, pl, fi, ne⟩ := rfl
theorem size_off (p s : ByteArray) : (p ++ s).size = p.size + s.size := ByteArray.size_append
theorem nameR_shift (p s : ByteArray) (fr : Nat) (x : BR) (hx : x.err = 0) : ∀ n j, nameR (p ++ s) (p.size + fr) (shB p.size x) n (p.size + j) = shB p.size (nameR s fr x n j)
  | 0, j => by
    rw [nameR, nameR, shB_bad _ _ _ (by decide), size_off]
  | n + 1, j => by
    obtain ⟨t, q, e, pl, fi, ne⟩ := x
    simp only at hx
    subst hx
    have ih := nameR_shift p s fr ⟨t, q, 0, pl, fi, ne⟩ rfl n (j + 1)
    rw [shB_ok] at ih ⊢
    have eb := bt_off p s j
    have eb1 := bt_off p s (j + 1)
    have ee := ext_off p s fr j
    have ee1 := ext_off p s fr (j + 1)
    rw [show p.size + (j + 1) = p.size + j + 1 by omega] at eb1 ee1 ih
    have hsz := size_off p s
    rw [nameR, nameR, eb, ee, eb1, ee1]
    by_cases c1 : bt s j = 58
    · rw [if_pos c1, if_pos c1]
      by_cases c2 : ofB (s.extract fr j).toList = false
      · rw [if_pos c2, if_pos c2, shB_bad _ _ _ (by decide)]; rfl
      rw [if_neg c2, if_neg c2]
      by_cases c3 : s.size ≤ j + 1
      · rw [if_pos c3, if_pos (by omega), shB_bad _ _ _ (by decide), hsz]
      rw [if_neg c3, if_neg (by omega)]
      by_cases c4 : bt s (j + 1) ≠ 93
      · rw [if_pos c4, if_pos c4, shB_bad _ _ _ (by decide)]; rfl
      · rw [if_neg c4, if_neg c4, shB_ok]; rfl
    rw [if_neg c1, if_neg c1]
    by_cases c2 : begB (s.extract fr (j + 1)) = false
    · rw [if_pos c2, if_pos c2, shB_bad _ _ _ (by decide)]; rfl
    · rw [if_neg c2, if_neg c2]; exact ih
theorem addR_shift (d : Nat) (t : BitVec 256) (q pl lo hi r : Nat) (fi ne : Bool) : addR ⟨t, d + q, 0, pl, fi, ne⟩ lo hi (d + r) = shB d (addR ⟨t, q, 0, pl, fi, ne⟩ lo hi r) := rfl
theorem thingR_shift (p s : ByteArray) (x : BR) (first : Bool) (hx : x.err = 0) : thingR (p ++ s) (shB p.size x) first = shB p.size (thingR s x first) := by
  obtain ⟨t, i, e, pl, fi, ne⟩ := x
  simp only at hx
  subst hx
  have hN := nameR_shift p s (i + 2) ⟨t, i, 0, pl, fi, ne⟩ rfl (s.size - (i + 2)) (i + 2)
  rw [shB_ok] at hN ⊢
  have hsz := size_off p s
  have e0 := bt_off p s i
  have e1 := bt_off p s (i + 1)
  have e2 := bt_off p s (i + 2)
  have e3 := bt_off p s (i + 3)
  rw [show p.size + (i + 1) = p.size + i + 1 by omega] at e1
  rw [show p.size + (i + 2) = p.size + i + 2 by omega] at e2 hN
  rw [show p.size + (i + 3) = p.size + i + 3 by omega] at e3
  unfold thingR
  simp only
  rw [e0, e1, e2, e3, hsz, show p.size + s.size - (p.size + i + 2) = s.size - (i + 2) by omega, hN]
  by_cases c1 : s.size ≤ i
  · rw [if_pos c1, if_pos (by omega), shB_bad _ _ _ (by decide)]
  rw [if_neg c1, if_neg (by omega)]
  by_cases c2 : bt s i = 93 ∧ first = false
  · rw [if_pos c2, if_pos c2, shB_ok]; rfl
  rw [if_neg c2, if_neg c2]
  by_cases c3 : s.size ≤ i + 1
  · rw [if_pos c3, if_pos (by omega), shB_bad _ _ _ (by decide)]
  rw [if_neg c3, if_neg (by omega)]
  by_cases c4 : bt s i = 91 ∧ bt s (i + 1) = 58
  · rw [if_pos c4, if_pos c4]
  rw [if_neg c4, if_neg c4]
  by_cases c5 : bt s i = 91 ∧ spec3 (bt s (i + 1)) = true
  · rw [if_pos c5, if_pos c5, shB_bad _ _ _ (by decide)]; rfl
  rw [if_neg c5, if_neg c5]
  by_cases c6 : bt s (i + 1) ≠ 45
  · rw [if_pos c6, if_pos c6]; exact addR_shift p.size t i pl _ _ (i + 1) fi ne
  rw [if_neg c6, if_neg c6]
  by_cases c7 : s.size ≤ i + 2
  · rw [if_pos c7, if_pos (by omega), shB_bad _ _ _ (by decide)]
  rw [if_neg c7, if_neg (by omega)]
  by_cases c8 : bt s (i + 2) = 93
  · rw [if_pos c8, if_pos c8]; exact addR_shift p.size t i pl _ _ (i + 1) fi ne
  rw [if_neg c8, if_neg c8]
  by_cases c9 : bt s (i + 2) < bt s i
  · rw [if_pos c9, if_pos c9, shB_bad _ _ _ (by decide)]; rfl
  rw [if_neg c9, if_neg c9]
  by_cases c10 : bt s (i + 2) = 91 ∧ s.size ≤ i + 3
  · rw [if_pos c10, if_pos ⟨c10.1, by omega⟩, shB_bad _ _ _ (by decide)]
  rw [if_neg c10, if_neg (fun h => c10 ⟨h.1, by omega⟩)]
  by_cases c11 : bt s (i + 2) = 91 ∧ spec3 (bt s (i + 3)) = true
  · rw [if_pos c11, if_pos c11, shB_bad _ _ _ (by decide)]; rfl
  · rw [if_neg c11, if_neg c11]; exact addR_shift p.size t i pl _ _ (i + 3) fi ne
theorem shB_err (d : Nat) (r : BR) : (shB d r).err = r.err := by
  unfold shB
  by_cases h : r.err = 0
  · rw [if_pos h, h]
  · rw [if_neg h]; rfl
theorem loopR_shift (p s : ByteArray) : ∀ n x first, x.err = 0 → loopR (p ++ s) n (shB p.size x) first = shB p.size (loopR s n x first)
  | 0, x, first, hx => rfl
  | n + 1, x, first, hx => by
    have hf : (shB p.size x).fin = x.fin := by unfold shB; rw [if_pos hx]
    rw [loopR, loopR, hf, thingR_shift p s x first hx, shB_err]
    by_cases c1 : x.fin = true
    · rw [if_pos c1, if_pos c1]
    rw [if_neg c1, if_neg c1]
    by_cases c2 : (thingR s x first).err ≠ 0
    · rw [if_pos c2, if_pos c2]
    · rw [if_neg c2, if_neg c2]
      exact loopR_shift p s n (thingR s x first) false (Decidable.not_not.1 c2)
def shT (d : Nat) (r : BitVec 256 × Nat × Nat × Nat) : BitVec 256 × Nat × Nat × Nat := if r.2.2.1 = 0 then (r.1, d + r.2.1, 0, 0) else (0, 0, r.2.2.1, d + r.2.2.2)
theorem finR_shift (d : Nat) (r : BR) : finR (shB d r) = shT d (finR r) := by
  unfold finR shT
  by_cases h : r.err = 0
  · simp [shB, h]
  · simp [shB, h, badR]
theorem startR_shift (p s : ByteArray) (a : Nat) : startR (p ++ s) (p.size + a) = shB p.size (startR s a) := by
  have e1 := bt_off p s (a + 1)
  rw [show p.size + (a + 1) = p.size + a + 1 by omega] at e1
  unfold startR
  rw [e1, size_off]
  by_cases h : a + 1 < s.size ∧ bt s (a + 1) = 94
  · rw [if_pos h, if_pos ⟨by omega, h.2⟩]; rfl
  · rw [if_neg h, if_neg (fun g => h ⟨by omega, g.2⟩)]; rfl
theorem readR_shift (p s : ByteArray) (a : Nat) (ha : a < s.size) (hb : bt s a = 91) : readR (p ++ s) ((p.size + a : Nat) : Int) = shT p.size (readR s a) := by
  have e0 := bt_off p s a
  have hsz := size_off p s
  have hst : (startR s a).err = 0 ∧ (startR s a).pos ≤ s.size ∧ a < (startR s a).pos := by
    unfold startR
    by_cases h : a + 1 < s.size ∧ bt s (a + 1) = 94
    · rw [if_pos h]; exact ⟨rfl, by show a + 2 ≤ _; omega, by show a < a + 2; omega⟩
    · rw [if_neg h]; exact ⟨rfl, by show a + 1 ≤ _; omega, by show a < a + 1; omega⟩
  have g1 : ¬ ((p.size + a : Nat) : Int) < 0 := by omega
  have g2 : ¬ ((a : Nat) : Int) < 0 := by omega
  have g3 : ¬ ((p ++ s).size ≤ ((p.size + a : Nat) : Int).toNat ∨ bt (p ++ s) ((p.size + a : Nat) : Int).toNat ≠ 91) := by
    rw [show ((p.size + a : Nat) : Int).toNat = p.size + a from rfl, e0, hsz]; omega
  have g4 : ¬ (s.size ≤ ((a : Nat) : Int).toNat ∨ bt s ((a : Nat) : Int).toNat ≠ 91) := by
    rw [show ((a : Nat) : Int).toNat = a from rfl]; omega
  unfold readR
  rw [if_neg g1, if_neg g2, if_neg g3, if_neg g4, show ((p.size + a : Nat) : Int).toNat = p.size + a from rfl, show ((a : Nat) : Int).toNat = a from rfl, hsz, startR_shift, loopR_shift p s _ _ true hst.1, finR_shift]
  rw [← loopR_fuel s (s.size + 1) (p.size + s.size + 1) (startR s a) true (by omega) (.inl hst.2.1) (by omega) (by omega)]
/-- A word, moved. -/
def shW (d : Nat) (X : WN × Nat × Nat) : WN × Nat × Nat := if X.2.1 = 0 then (⟨X.1.kind, d + X.1.pos, d + X.1.fin, X.1.set, X.1.n, X.1.m⟩, 0, 0) else (zWN, X.2.1, d + X.2.2)
theorem nextA_shift (p s : ByteArray) (a : Nat) (ha : a < s.size) : nextA (p ++ s) (p.size + a) = shW p.size (nextA s a) := by
  have e0 := bt_off p s a
  have e1 := bt_off p s (a + 1)
  rw [show p.size + (a + 1) = p.size + a + 1 by omega] at e1
  have hsz := size_off p s
  have hE := nextA_end s a ha
  unfold nextA at hE ⊢
  rw [e0]
  by_cases c1 : bt s a = 40
  · rw [if_pos c1, if_pos c1]; rfl
  rw [if_neg c1] at hE ⊢
  rw [if_neg c1]
  by_cases c2 : bt s a = 41
  · rw [if_pos c2, if_pos c2]; rfl
  rw [if_neg c2] at hE ⊢
  rw [if_neg c2]
  by_cases c3 : bt s a = 124
  · rw [if_pos c3, if_pos c3]; rfl
  rw [if_neg c3] at hE ⊢
  rw [if_neg c3]
  by_cases c4 : bt s a = 42 ∨ bt s a = 43 ∨ bt s a = 63 ∨ bt s a = 123
  · rw [if_pos c4] at hE ⊢
    rw [if_pos c4]
    have he : (cntW s a).2.1 = (readN s a).2.2.2.1 := by
      unfold cntW
      generalize readN s a = R
      obtain ⟨n, m, q, e, k⟩ := R
      simp only
      by_cases he : e = 0
      · subst he; simp
      · simp [he]
    have hne : (readN s a).2.2.2.1 ≠ 1 := by
      rw [← he]
      rcases hE with ⟨g, _⟩ | ⟨_, g, _⟩
      · rw [g]; decide
      · exact g
    have hR := readN_shift p s a ha hne
    unfold cntW
    rw [hR]
    generalize readN s a = R
    obtain ⟨n, m, q, e, k⟩ := R
    unfold shN
    simp only
    by_cases he0 : e = 0
    · subst he0
      simp [shW, Nat.add_comm]
    · simp [he0, shW, Nat.add_comm]
  rw [if_neg c4] at hE ⊢
  rw [if_neg c4]
  by_cases c5 : bt s a = 91
  · rw [if_pos c5, if_pos c5]
    unfold brkW
    rw [readR_shift p s a ha c5]
    generalize readR s a = R
    obtain ⟨t, q, e, k⟩ := R
    unfold shT
    simp only
    by_cases he0 : e = 0
    · subst he0
      simp [shW, oneW]
    · simp [he0, shW]
  rw [if_neg c5] at hE ⊢
  rw [if_neg c5]
  by_cases c6 : bt s a = 46
  · rw [if_pos c6, if_pos c6]; rfl
  rw [if_neg c6] at hE ⊢
  rw [if_neg c6]
  by_cases c7 : bt s a = 94 ∨ bt s a = 36
  · rw [if_pos c7, if_pos c7]; rfl
  rw [if_neg c7] at hE ⊢
  rw [if_neg c7]
  by_cases c8 : bt s a = 92
  · rw [if_pos c8, if_pos c8]
    unfold slashW
    rw [hsz, e1]
    by_cases c9 : s.size ≤ a + 1
    · rw [if_pos c9, if_pos (by omega)]; rfl
    rw [if_neg c9, if_neg (by omega)]
    by_cases c10 : four14 (bt s (a + 1)) = false
    · rw [if_pos c10, if_pos c10]; rfl
    · rw [if_neg c10, if_neg c10]; rfl
  · rw [if_neg c8, if_neg c8]; rfl
end Go.Proofs.YtldaaelmifbbhaaGreat

/- A pattern within a pattern: in parentheses, beside a bar. Stage 7. -/
namespace Go.Proofs.YtldaaelmifbbhaaGreat
open Go.RowKit BS

theorem readP_fuel (s : ByteArray) : ∀ k k' a x, a ≤ s.size → s.size < k + a → s.size < k' + a → readP s k a x = readP s k' a x
  | 0, _, a, x, h, h1, _ => by omega
  | k + 1, 0, a, x, h, _, h2 => by omega
  | k + 1, k' + 1, a, x, h, h1, h2 => by
    rw [readP, readP]
    by_cases hend : s.size ≤ a
    · rw [if_pos hend, if_pos hend]
    rw [if_neg hend, if_neg hend]
    by_cases hf : firstP x (bt s a) ≠ 0
    · rw [if_pos hf, if_pos hf]
    rw [if_neg hf, if_neg hf]
    have hE := nextA_end s a (by omega)
    generalize nextA s a = X at *
    obtain ⟨w, e, p⟩ := X
    simp only
    rcases hE with ⟨e1, _, _, _, e5, e6⟩ | ⟨e1, _⟩
    · simp only at e1 e5 e6
      rw [if_neg (fun g => g e1), if_neg (fun g => g e1)]
      exact readP_fuel s k k' w.fin (takeP x w) e6 (by omega) (by omega)
    · simp only at e1
      rw [if_pos e1, if_pos e1]
/-- What was read when the text ends; nothing, if something is wrong. -/
def readS (s : ByteArray) : Nat → Nat → PS → Option PS
  | 0, _, _ => none
  | k + 1, a, x =>
    if s.size ≤ a then some x
    else if firstP x (bt s a) ≠ 0 then none
    else match nextA s a with
      | (w, e, _) => if e ≠ 0 then none else readS s k w.fin (takeP x w)
theorem readP_S (s : ByteArray) : ∀ k a x, a ≤ s.size → s.size < k + a → (readP s k a x).2.2.1 = 0 → ∃ y, readS s k a x = some y ∧ ¬ 1 < y.st.length ∧ readP s k a x = (rowsP y, 0, 0, 0)
  | 0, a, x, h, h1, _ => by omega
  | k + 1, a, x, h, h1, h0 => by
    rw [readP] at h0 ⊢
    rw [readS]
    by_cases hend : s.size ≤ a
    · rw [if_pos hend] at h0 ⊢
      rw [if_pos hend]
      by_cases hop : 1 < x.st.length
      · rw [if_pos hop] at h0; cases h0
      · rw [if_neg hop]
        exact ⟨x, rfl, hop, rfl⟩
    rw [if_neg hend] at h0 ⊢
    rw [if_neg hend]
    by_cases hf : firstP x (bt s a) ≠ 0
    · rw [if_pos hf] at h0; exact absurd h0 hf
    rw [if_neg hf] at h0 ⊢
    rw [if_neg hf]
    have hE := nextA_end s a (by omega)
    generalize nextA s a = X at *
    obtain ⟨w, e, p⟩ := X
    simp only at h0 ⊢
    rcases hE with ⟨e1, _, _, _, e5, e6⟩ | ⟨e1, _⟩
    · simp only at e1 e5 e6
      rw [if_neg (fun g => g e1)] at h0 ⊢
      rw [if_neg (fun g => g e1)]
      exact readP_S s k w.fin (takeP x w) e6 (by omega) h0
    · simp only at e1
      rw [if_pos e1] at h0
      exact absurd h0 e1

/-! ### Within another one -/
def embS (r0 : Nat) (st0 : List (Nat × Nat)) : List (Nat × Nat) → List (Nat × Nat)
  | [] => []
  | [(n, r)] => (n, r0 + r) :: st0
  | t :: u :: st => t :: embS r0 st0 (u :: st)
theorem embS_ne (r0 : Nat) (st0 : List (Nat × Nat)) (st : List (Nat × Nat)) (h : st ≠ []) : embS r0 st0 st ≠ [] := by
  obtain _ | ⟨t, _ | ⟨u, st⟩⟩ := st
  · exact absurd rfl h
  · simp [embS]
  · simp [embS]
theorem embS_bump (r0 : Nat) (st0 : List (Nat × Nat)) (st : List (Nat × Nat)) (h : st ≠ []) : bumpP (embS r0 st0 st) = embS r0 st0 (bumpP st) := by
  obtain _ | ⟨⟨n, r⟩, _ | ⟨u, st⟩⟩ := st
  · exact absurd rfl h
  · rfl
  · rfl
def emb (L0 : List NdN) (r0 : Nat) (st0 : List (Nat × Nat)) (g0 : Nat) (x : PS) : PS := ⟨L0 ++ x.l, embS r0 st0 x.st, g0 + x.groups⟩
theorem emb_first (L0 : List NdN) (r0 : Nat) (st0 : List (Nat × Nat)) (g0 : Nat) (x : PS) (b : Nat) (hne : x.st ≠ []) (h : firstP x b = 0) (hg : b = 40 → g0 + x.groups < 9) : firstP (emb L0 r0 st0 g0 x) b = 0 := by
  obtain ⟨l, st, gr⟩ := x
  have key : ∀ n r st' (st2 : List (Nat × Nat)), firstP ⟨l, (n, r) :: st', gr⟩ b = 0 → (st' ≠ [] → st2 ≠ []) → ∀ r2, (b = 41 → st' ≠ []) → firstP ⟨L0 ++ l, (n, r2) :: st2, g0 + gr⟩ b = 0 := fun n r st' st2 h hs r2 h41 => by
    unfold firstP at h ⊢
    simp only at h ⊢
    by_cases c1 : b = 42 ∨ b = 43 ∨ b = 63 ∨ b = 123
    · rw [if_pos c1] at h ⊢; exact h
    rw [if_neg c1] at h ⊢
    by_cases c2 : b = 41
    · rw [if_pos c2, if_neg (hs (h41 c2))]
    rw [if_neg c2] at h ⊢
    by_cases c3 : b = 40
    · rw [if_pos c3, if_neg (by have := hg c3; simp only at this; omega)]
    · rw [if_neg c3]
  obtain _ | ⟨⟨n, r⟩, _ | ⟨u, st⟩⟩ := st
  · exact absurd rfl hne
  · have h41 : b ≠ 41 := fun hb => by
      unfold firstP at h
      simp only at h
      rw [if_neg (by omega), if_pos hb, if_pos trivial] at h
      cases h
    exact key n r [] st0 h (fun g => absurd rfl g) _ (fun hb => absurd hb h41)
  · exact key n r (u :: st) (embS r0 st0 (u :: st)) h (fun _ => embS_ne _ _ _ (by simp)) r (fun _ => by simp)
theorem emb_take (L0 : List NdN) (r0 : Nat) (st0 : List (Nat × Nat)) (g0 : Nat) (x : PS) (w : WN) (hne : x.st ≠ []) (h3 : w.kind = 3 → 1 < x.st.length) : takeP (emb L0 r0 st0 g0 x) w = emb L0 r0 st0 g0 (takeP x w) := by
  obtain ⟨l, st, gr⟩ := x
  unfold takeP
  by_cases c1 : w.kind = 1
  · rw [if_pos c1, if_pos c1]
    simp only [emb, List.append_assoc, embS_bump r0 st0 st hne]
  rw [if_neg c1, if_neg c1]
  by_cases c2 : w.kind = 2
  · rw [if_pos c2, if_pos c2]
    obtain _ | ⟨t, st⟩ := st
    · exact absurd rfl hne
    · simp only [emb, embS, Nat.add_assoc]
  rw [if_neg c2, if_neg c2]
  by_cases c3 : w.kind = 3
  · rw [if_pos c3, if_pos c3]
    obtain _ | ⟨⟨n, r⟩, _ | ⟨u, st⟩⟩ := st
    · exact absurd rfl hne
    · have := h3 c3; simp at this
    · simp only [emb, embS, rowsP, List.append_assoc, embS_bump r0 st0 (u :: st) (by simp)]
  rw [if_neg c3, if_neg c3]
  by_cases c4 : w.kind = 4
  · rw [if_pos c4, if_pos c4]
    obtain _ | ⟨⟨n, r⟩, _ | ⟨u, st⟩⟩ := st
    · exact absurd rfl hne
    · simp only [emb, embS, rowP, List.append_assoc, Nat.add_assoc]
    · simp only [emb, embS, rowP, List.append_assoc]
  rw [if_neg c4, if_neg c4]
  by_cases c5 : w.kind = 5
  · rw [if_pos c5, if_pos c5]
    simp only [emb, List.append_assoc]
  · rw [if_neg c5, if_neg c5]
theorem take_groups (x : PS) (w : WN) : x.groups ≤ (takeP x w).groups ∧ (w.kind = 2 → (takeP x w).groups = x.groups + 1) := by
  obtain ⟨l, st, gr⟩ := x
  unfold takeP
  by_cases c1 : w.kind = 1
  · rw [if_pos c1]; exact ⟨Nat.le_refl _, fun h => by omega⟩
  rw [if_neg c1]
  by_cases c2 : w.kind = 2
  · rw [if_pos c2]; exact ⟨Nat.le_succ _, fun _ => rfl⟩
  rw [if_neg c2]
  refine ⟨?_, fun h => absurd h c2⟩
  by_cases c3 : w.kind = 3
  · rw [if_pos c3]; exact Nat.le_refl _
  rw [if_neg c3]
  by_cases c4 : w.kind = 4
  · rw [if_pos c4]
    obtain _ | ⟨⟨n, r⟩, st⟩ := st <;> exact Nat.le_refl _
  rw [if_neg c4]
  by_cases c5 : w.kind = 5
  · rw [if_pos c5]; exact Nat.le_refl _
  · rw [if_neg c5]; exact Nat.le_refl _
theorem readS_groups (s : ByteArray) : ∀ k a x y, readS s k a x = some y → x.groups ≤ y.groups
  | 0, a, x, y, h => by cases h
  | k + 1, a, x, y, h => by
    rw [readS] at h
    by_cases hend : s.size ≤ a
    · rw [if_pos hend] at h
      rw [Option.some.inj h]; exact Nat.le_refl _
    rw [if_neg hend] at h
    by_cases hf : firstP x (bt s a) ≠ 0
    · rw [if_pos hf] at h; cases h
    rw [if_neg hf] at h
    generalize nextA s a = X at *
    obtain ⟨w, e, p⟩ := X
    simp only at h
    by_cases he : e ≠ 0
    · rw [if_pos he] at h; cases h
    · rw [if_neg he] at h
      exact Nat.le_trans (take_groups x w).1 (readS_groups s k w.fin _ y h)
/-- **A pattern is read within another text as it is read alone.** -/
theorem readP_emb (p s q : ByteArray) (L0 : List NdN) (r0 : Nat) (st0 : List (Nat × Nat)) (g0 : Nat) : ∀ k a x y, a ≤ s.size → PInv x → readS s k a x = some y → g0 + y.groups ≤ 9 →
    ∀ k' k'', (p ++ s ++ q).size < k' + (p.size + a) → (p ++ s ++ q).size < k'' + (p.size + s.size) → readP (p ++ s ++ q) k' (p.size + a) (emb L0 r0 st0 g0 x) = readP (p ++ s ++ q) k'' (p.size + s.size) (emb L0 r0 st0 g0 y)
  | 0, a, x, y, _, _, h, _, _, _, _, _ => by cases h
  | k + 1, a, x, y, ha, hi, h, hg, k', k'', hk', hk'' => by
    have hz : (p ++ s ++ q).size = p.size + s.size + q.size := by rw [ByteArray.size_append, ByteArray.size_append]
    rw [readS] at h
    by_cases hend : s.size ≤ a
    · rw [if_pos hend] at h
      obtain rfl := Option.some.inj h
      obtain rfl : a = s.size := by omega
      exact readP_fuel _ _ _ _ _ (by omega) hk' hk''
    rw [if_neg hend] at h
    by_cases hf : firstP x (bt s a) ≠ 0
    · rw [if_pos hf] at h; cases h
    rw [if_neg hf] at h
    have hf0 : firstP x (bt s a) = 0 := Decidable.not_not.1 hf
    have hlt : a < s.size := by omega
    have hE := nextA_end s a hlt
    have hsh := nextA_shift p s a hlt
    have hkd := next_kinds s a
    generalize nextA s a = X at *
    obtain ⟨w, e, pl⟩ := X
    simp only at h
    by_cases he : e ≠ 0
    · rw [if_pos he] at h; cases h
    rw [if_neg he] at h
    rcases hE with ⟨e1, e2, e3, e4, e5, e6⟩ | ⟨e1, _⟩
    · simp only at e1 e2 e3 e4 e5 e6
      subst e1
      subst e2
      obtain ⟨k2, k3, k5⟩ := hkd w rfl
      have hi2 := take_inv s a x w hi hf0 e3 k2 k3 k5
      have hgr := readS_groups s k w.fin _ y h
      have hbt : bt (p ++ s ++ q) (p.size + a) = bt s a := by
        rw [bt_app, if_pos (by rw [ByteArray.size_append]; omega)]
        exact bt_off p s a
      have hx1 : nextA (p ++ s) (p.size + a) = (⟨w.kind, p.size + w.pos, p.size + w.fin, w.set, w.n, w.m⟩, 0, 0) := by
        rw [hsh]; rfl
      have hx2 : nextA (p ++ s ++ q) (p.size + a) = (⟨w.kind, p.size + w.pos, p.size + w.fin, w.set, w.n, w.m⟩, 0, 0) := by
        rw [← hx1]
        refine nextA_agr (p ++ s) (p ++ s ++ q) (p.size + a) (by rw [ByteArray.size_append]; omega) (by rw [hx1]; show (0 : Nat) ≠ 2; decide) ?_
        rw [hx1]
        exact agrApp (p ++ s) q _ (by rw [ByteArray.size_append]; show p.size + w.fin ≤ _; omega)
      have hb40 : bt s a = 40 → w.kind = 2 := fun hb => by
        have hn := hx1
        have hb2 : bt (p ++ s) (p.size + a) = 40 := by rw [bt_off]; exact hb
        unfold nextA at hn
        rw [if_pos hb2] at hn
        have := (Prod.mk.inj hn).1
        exact (congrArg WN.kind this).symm
      have hff : firstP (emb L0 r0 st0 g0 x) (bt s a) = 0 := emb_first L0 r0 st0 g0 x _ hi.1 hf0 (fun hb => by
        have := (take_groups x w).2 (hb40 hb)
        omega)
      obtain ⟨k', rfl⟩ : ∃ m, k' = m + 1 := ⟨k' - 1, by omega⟩
      rw [readP, if_neg (by omega), hbt, if_neg (fun g => g hff), hx2]
      show (if (0 : Nat) ≠ 0 then (zPS, 0, 0, 0) else readP (p ++ s ++ q) k' (p.size + w.fin) (takeP (emb L0 r0 st0 g0 x) ⟨w.kind, p.size + w.pos, p.size + w.fin, w.set, w.n, w.m⟩)) = _
      rw [if_neg (show ¬ (0 : Nat) ≠ 0 by decide)]
      have htk : takeP (emb L0 r0 st0 g0 x) ⟨w.kind, p.size + w.pos, p.size + w.fin, w.set, w.n, w.m⟩ = takeP (emb L0 r0 st0 g0 x) w := rfl
      have h31 : w.kind = 3 → 1 < x.st.length := fun hk3 => by
        have hb := k3 hk3
        obtain ⟨l, st, gr⟩ := x
        obtain _ | ⟨⟨n, r⟩, _ | ⟨u, st⟩⟩ := st
        · exact absurd rfl hi.1
        · unfold firstP at hf0
          simp only at hf0
          rw [if_neg (by omega), if_pos hb, if_pos trivial] at hf0
          cases hf0
        · simp
      rw [htk, emb_take L0 r0 st0 g0 x w hi.1 h31]
      exact readP_emb p s q L0 r0 st0 g0 k w.fin (takeP x w) y e6 hi2 h hg k' k'' (by omega) hk''
    · exact absurd e1 he
end Go.Proofs.YtldaaelmifbbhaaGreat

/- What ParseJoins wants: in parentheses, and beside a bar. Stage 7. -/
namespace Go.Proofs.YtldaaelmifbbhaaGreat
open Go.RowKit BS

/-- A pattern that is one: what was read when it ended. -/
theorem parse_ok (s : ByteArray) (h : (parseN s).2.2.1 = 0) : ∃ l n r g, readS s (s.size + 1) 0 sPS = some ⟨l, [(n, r)], g⟩ ∧ parseN s = (⟨l ++ rowT n ++ rowsT (r + 1), [], g⟩, 0, 0, 0) ∧ kc 3 l = g ∧ g ≤ 9 := by
  obtain ⟨y, h1, h2, h3⟩ := readP_S s (s.size + 1) 0 sPS (Nat.zero_le _) (by omega) h
  have hy : PInv y := by
    have key : ∀ k a x, a ≤ s.size → s.size < k + a → PInv x → readS s k a x = some y → PInv y := by
      intro k
      induction k with
      | zero => intro a x _ _ _ h; cases h
      | succ k ih =>
        intro a x ha hk hi h
        rw [readS] at h
        by_cases hend : s.size ≤ a
        · rw [if_pos hend] at h
          rw [← Option.some.inj h]; exact hi
        rw [if_neg hend] at h
        by_cases hf : firstP x (bt s a) ≠ 0
        · rw [if_pos hf] at h; cases h
        rw [if_neg hf] at h
        have hE := nextA_end s a (by omega)
        have hkd := next_kinds s a
        generalize nextA s a = X at *
        obtain ⟨w, e, p⟩ := X
        simp only at h
        rcases hE with ⟨e1, e2, e3, _, e5, e6⟩ | ⟨e1, _⟩
        · simp only at e1 e2 e3 e5 e6
          subst e1
          subst e2
          rw [if_neg (by decide)] at h
          obtain ⟨k2, k3, k5⟩ := hkd w rfl
          exact ih w.fin _ e6 (by omega) (take_inv s a x w hi (Decidable.not_not.1 hf) e3 k2 k3 k5) h
        · simp only at e1
          rw [if_pos e1] at h; cases h
    exact key (s.size + 1) 0 sPS (Nat.zero_le _) (by omega) sPS_inv h1
  obtain ⟨l, st, g⟩ := y
  obtain ⟨hne, _, h4, h5⟩ := hy
  obtain _ | ⟨⟨n, r⟩, _ | ⟨u, st⟩⟩ := st
  · exact absurd rfl hne
  · refine ⟨l, n, r, g, h1, h3, ?_, h5⟩
    simp only [List.length_cons, List.length_nil] at h4
    show g3 l = g
    omega
  · simp at h2
theorem kc_all (l : List NdN) (n r : Nat) : kc 3 (l ++ rowT n ++ rowsT (r + 1)) = kc 3 l := by
  rw [kc_app, kc_app, kc_row 3 (.inr (.inl rfl)), kc_rows 3 (.inr (.inl rfl))]; rfl
/-- **In parentheses a pattern's tree is in a Group.** -/
theorem parse_group (s : ByteArray) (h : (parseN s).2.2.1 = 0) (hg : kc 3 (parseN s).1.l ≤ 8) : (parseN (ofT [40] ++ s ++ ofT [41])).2 = (0, 0, 0) ∧ (parseN (ofT [40] ++ s ++ ofT [41])).1.l = (parseN s).1.l ++ [ndG] := by
  obtain ⟨l, n, r, g, h1, h2, h3, h4⟩ := parse_ok s h
  rw [h2] at hg
  rw [show (((⟨l ++ rowT n ++ rowsT (r + 1), [], g⟩ : PS), (0 : Nat), (0 : Nat), (0 : Nat)).1.l) = l ++ rowT n ++ rowsT (r + 1) from rfl, kc_all, h3] at hg
  have hp : (ofT [40]).size = 1 := rfl
  have hq : (ofT [41]).size = 1 := rfl
  have hz : (ofT [40] ++ s ++ ofT [41]).size = s.size + 2 := by rw [ByteArray.size_append, ByteArray.size_append, hp, hq]; omega
  have b0 : bt (ofT [40] ++ s ++ ofT [41]) 0 = 40 := by
    rw [bt_app, if_pos (by rw [ByteArray.size_append]; omega), bt_app, if_pos (by omega)]; rfl
  have b1 : bt (ofT [40] ++ s ++ ofT [41]) ((ofT [40]).size + s.size) = 41 := by
    rw [bt_app, if_neg (by rw [ByteArray.size_append]; omega), ByteArray.size_append, Nat.sub_self]; rfl
  have hE := readP_emb (ofT [40]) s (ofT [41]) [] 0 [(0, 0)] 1 (s.size + 1) 0 sPS ⟨l, [(n, r)], g⟩ (Nat.zero_le _) sPS_inv h1 (by simp only; omega) (s.size + 2) 3 (by omega) (by omega)
  have hx0 : nextA (ofT [40] ++ s ++ ofT [41]) 0 = (⟨2, 0, 1, 0, 0, 0⟩, 0, 0) := by
    unfold nextA; rw [if_pos b0]
  have hx1 : nextA (ofT [40] ++ s ++ ofT [41]) ((ofT [40]).size + s.size) = (⟨3, (ofT [40]).size + s.size, (ofT [40]).size + s.size + 1, 0, 0, 0⟩, 0, 0) := by
    unfold nextA; rw [if_neg (by omega), if_pos b1]
  have e : parseN (ofT [40] ++ s ++ ofT [41]) = (⟨l ++ rowT n ++ rowsT (r + 1) ++ [ndG], [], 1 + g⟩, 0, 0, 0) := by
    unfold parseN
    rw [hz, readP, if_neg (by omega), b0, if_neg (by decide), hx0]
    show (if (0 : Nat) ≠ 0 then (zPS, 0, 0, 0) else readP (ofT [40] ++ s ++ ofT [41]) (s.size + 2) 1 (takeP sPS ⟨2, 0, 1, 0, 0, 0⟩)) = _
    rw [if_neg (show ¬ (0 : Nat) ≠ 0 by decide)]
    have ht : takeP sPS ⟨2, 0, 1, 0, 0, 0⟩ = emb [] 0 [(0, 0)] 1 sPS := rfl
    rw [ht]
    refine Eq.trans hE ?_
    rw [readP, if_neg (by omega), b1]
    have hf : firstP (emb [] 0 [(0, 0)] 1 ⟨l, [(n, r)], g⟩) 41 = 0 := rfl
    rw [hf, if_neg (by decide), hx1]
    show (if (0 : Nat) ≠ 0 then (zPS, 0, 0, 0) else readP (ofT [40] ++ s ++ ofT [41]) 2 ((ofT [40]).size + s.size + 1) (takeP (emb [] 0 [(0, 0)] 1 ⟨l, [(n, r)], g⟩) ⟨3, (ofT [40]).size + s.size, (ofT [40]).size + s.size + 1, 0, 0, 0⟩)) = _
    rw [if_neg (show ¬ (0 : Nat) ≠ 0 by decide)]
    have ht2 : takeP (emb [] 0 [(0, 0)] 1 ⟨l, [(n, r)], g⟩) ⟨3, (ofT [40]).size + s.size, (ofT [40]).size + s.size + 1, 0, 0, 0⟩ = ⟨l ++ rowT n ++ rowsT (r + 1) ++ [ndG], [(1, 0)], 1 + g⟩ := by
      show (⟨[] ++ l ++ rowT n ++ rowsT (0 + r + 1) ++ [ndG], [(0 + 1, 0)], 1 + g⟩ : PS) = _
      rw [List.nil_append, Nat.zero_add]
    rw [ht2, readP, if_pos (by omega), if_neg (by show ¬ 1 < 1; decide)]
    show ((⟨l ++ rowT n ++ rowsT (r + 1) ++ [ndG] ++ [] ++ [], [], 1 + g⟩ : PS), (0 : Nat), (0 : Nat), (0 : Nat)) = _
    rw [List.append_nil, List.append_nil]
  rw [e, h2]
  exact ⟨rfl, rfl⟩
def lastK (l : List NdN) : Int := (l.getLast?.map NdN.kind).getD 0
theorem last_rows (l : List NdN) (n r : Nat) (h : lastK (l ++ rowT n ++ rowsT (r + 1)) ≠ 6) : r = 0 := by
  by_cases hr : r = 0
  · exact hr
  · exfalso
    apply h
    unfold rowsT
    rw [if_pos (by omega)]
    unfold lastK
    rw [List.getLast?_append]
    rfl
/-- **Beside a bar: the trees of both, in an Alt.** -/
theorem parse_bar (s t : ByteArray) (h : (parseN s).2.2.1 = 0) (h' : (parseN t).2.2.1 = 0) (hg : kc 3 (parseN s).1.l + kc 3 (parseN t).1.l ≤ 9) (hl : lastK (parseN s).1.l ≠ 6) (hl' : lastK (parseN t).1.l ≠ 6) :
    (parseN (s ++ ofT [124] ++ t)).2 = (0, 0, 0) ∧ (parseN (s ++ ofT [124] ++ t)).1.l = (parseN s).1.l ++ (parseN t).1.l ++ [ndL] := by
  obtain ⟨l, n, r, g, h1, h2, h3, h4⟩ := parse_ok s h
  obtain ⟨m, n', r', g', k1, k2, k3, k4⟩ := parse_ok t h'
  rw [h2] at hg hl
  rw [k2] at hg hl'
  obtain rfl := last_rows l n r hl
  obtain rfl := last_rows m n' r' hl'
  rw [show (((⟨l ++ rowT n ++ rowsT (0 + 1), [], g⟩ : PS), (0 : Nat), (0 : Nat), (0 : Nat)).1.l) = l ++ rowT n ++ rowsT (0 + 1) from rfl, show (((⟨m ++ rowT n' ++ rowsT (0 + 1), [], g'⟩ : PS), (0 : Nat), (0 : Nat), (0 : Nat)).1.l) = m ++ rowT n' ++ rowsT (0 + 1) from rfl, kc_all, kc_all, h3, k3] at hg
  have hq : (ofT [124]).size = 1 := rfl
  have hz : (s ++ ofT [124] ++ t).size = s.size + 1 + t.size := by rw [ByteArray.size_append, ByteArray.size_append, hq]
  have b1 : bt (s ++ ofT [124] ++ t) s.size = 124 := by
    rw [bt_app, if_pos (by rw [ByteArray.size_append]; omega), bt_app, if_neg (by omega), Nat.sub_self]; rfl
  have hE := readP_emb ByteArray.empty s (ofT [124] ++ t) [] 0 [] 0 (s.size + 1) 0 sPS ⟨l, [(n, 0)], g⟩ (Nat.zero_le _) sPS_inv h1 (by simp only; omega)
  have hF := readP_emb (s ++ ofT [124]) t ByteArray.empty (l ++ rowT n) 1 [] g (t.size + 1) 0 sPS ⟨m, [(n', 0)], g'⟩ (Nat.zero_le _) sPS_inv k1 (by simp only; omega)
  have a1 : ByteArray.empty ++ s ++ (ofT [124] ++ t) = s ++ ofT [124] ++ t := by rw [ByteArray.empty_append, ByteArray.append_assoc]
  have a2 : s ++ ofT [124] ++ t ++ ByteArray.empty = s ++ ofT [124] ++ t := ByteArray.append_empty
  rw [a1] at hE
  rw [a2] at hF
  have z0 : (ByteArray.empty : ByteArray).size = 0 := rfl
  have hs1 : (s ++ ofT [124]).size = s.size + 1 := by rw [ByteArray.size_append, hq]
  rw [z0, Nat.zero_add, Nat.zero_add] at hE
  rw [hs1, Nat.add_zero] at hF
  have hx1 : nextA (s ++ ofT [124] ++ t) s.size = (⟨4, s.size, s.size + 1, 0, 0, 0⟩, 0, 0) := by
    unfold nextA; rw [if_neg (by omega), if_neg (by omega), if_pos b1]
  have e : parseN (s ++ ofT [124] ++ t) = (⟨l ++ rowT n ++ m ++ rowT n' ++ [ndL], [], g + g'⟩, 0, 0, 0) := by
    unfold parseN
    have hs0 : sPS = emb [] 0 [] 0 sPS := rfl
    rw [hs0, hE ((s ++ ofT [124] ++ t).size + 1) (t.size + 2) (by omega) (by omega), readP, if_neg (by omega), b1]
    have hf : firstP (emb [] 0 [] 0 ⟨l, [(n, 0)], g⟩) 124 = 0 := rfl
    rw [hf, if_neg (by decide), hx1]
    show (if (0 : Nat) ≠ 0 then (zPS, 0, 0, 0) else readP (s ++ ofT [124] ++ t) (t.size + 1) (s.size + 1) (takeP (emb [] 0 [] 0 ⟨l, [(n, 0)], g⟩) ⟨4, s.size, s.size + 1, 0, 0, 0⟩)) = _
    rw [if_neg (show ¬ (0 : Nat) ≠ 0 by decide)]
    have ht : takeP (emb [] 0 [] 0 ⟨l, [(n, 0)], g⟩) ⟨4, s.size, s.size + 1, 0, 0, 0⟩ = emb (l ++ rowT n) 1 [] g sPS := by
      show (⟨[] ++ l ++ rowT n, [(0, 0 + 0 + 1)], 0 + g⟩ : PS) = ⟨l ++ rowT n ++ [], [(0, 1 + 0)], g + 0⟩
      rw [List.nil_append, List.append_nil, Nat.add_zero g, Nat.zero_add g]
    rw [ht, hF (t.size + 1) 1 (by omega) (by omega), readP, if_pos (by omega), if_neg (by show ¬ 1 < 1; decide)]
    show ((⟨l ++ rowT n ++ m ++ rowT n' ++ rowsT (1 + 0 + 1), [], g + g'⟩ : PS), (0 : Nat), (0 : Nat), (0 : Nat)) = _
    rfl
  rw [e, h2, k2]
  refine ⟨rfl, ?_⟩
  show l ++ rowT n ++ m ++ rowT n' ++ [ndL] = l ++ rowT n ++ [] ++ (m ++ rowT n' ++ []) ++ [ndL]
  rw [List.append_nil, List.append_nil, List.append_assoc (l ++ rowT n) m]
end Go.Proofs.YtldaaelmifbbhaaGreat

/- A beginning is made a pattern: what is open is closed, what was begun is ended. Stage 8. -/
namespace Go.Proofs.YtldaaelmifbbhaaGreat
open Go.RowKit BS

theorem bump_len (st : List (Nat × Nat)) : (bumpP st).length = st.length := by
  obtain _ | ⟨⟨n, r⟩, st⟩ := st <;> rfl
/-- **As many closing signs as there are open groups end a pattern.** -/
theorem close_ok (T : ByteArray) : ∀ d k a x, x.st.length = d + 1 → a + d = T.size → T.size < k + a → (∀ i, i < d → bt T (a + i) = 41) → (readP T k a x).2 = (0, 0, 0)
  | d, 0, a, x, _, h2, h3, _ => by omega
  | 0, k + 1, a, x, h1, h2, h3, _ => by
    rw [readP, if_pos (by omega), if_neg (by omega)]
  | d + 1, k + 1, a, x, h1, h2, h3, h4 => by
    have hb : bt T a = 41 := h4 0 (by omega)
    obtain ⟨l, st, g⟩ := x
    obtain _ | ⟨⟨n, r⟩, _ | ⟨u, st⟩⟩ := st
    · simp at h1
    · simp at h1
    have hf : firstP ⟨l, (n, r) :: u :: st, g⟩ 41 = 0 := rfl
    have hx : nextA T a = (⟨3, a, a + 1, 0, 0, 0⟩, 0, 0) := by
      unfold nextA; rw [if_neg (by omega), if_pos hb]
    rw [readP, if_neg (by omega), hb, hf, if_neg (by decide), hx]
    show (if (0 : Nat) ≠ 0 then (zPS, 0, 0, 0) else readP T k (a + 1) (takeP ⟨l, (n, r) :: u :: st, g⟩ ⟨3, a, a + 1, 0, 0, 0⟩)).2 = _
    rw [if_neg (show ¬ (0 : Nat) ≠ 0 by decide)]
    refine close_ok T d k (a + 1) _ ?_ (by omega) (by omega) (fun i hi => ?_)
    · show (bumpP (u :: st)).length = d + 1
      rw [bump_len]
      simp only [List.length_cons] at h1 ⊢
      omega
    · have := h4 (i + 1) (by omega)
      rwa [show a + (i + 1) = a + 1 + i by omega] at this
/-- Where the words of a text end, or where the first one stands that is none. -/
def lastN (s : ByteArray) : Nat → Nat → Nat
  | 0, a => a
  | k + 1, a => if s.size ≤ a then a else match nextA s a with
    | (w, e, _) => if e ≠ 0 then a else lastN s k w.fin
theorem lastN_end (s : ByteArray) (k a : Nat) (h : s.size ≤ a) : lastN s k a = a := by
  cases k with
  | zero => rfl
  | succ k => rw [lastN, if_pos h]
theorem lastN_err (s : ByteArray) (k a : Nat) (w : WN) (e p : Nat) (hX : nextA s a = (w, e, p)) (he : e ≠ 0) : lastN s k a = a := by
  cases k with
  | zero => rfl
  | succ k =>
    by_cases h : s.size ≤ a
    · rw [lastN, if_pos h]
    · rw [lastN, if_neg h, hX]
      simp only
      rw [if_pos he]
theorem lastN_more (s : ByteArray) (k a : Nat) (w : WN) (p : Nat) (ha : a < s.size) (hX : nextA s a = (w, 0, p)) : lastN s (k + 1) a = lastN s k w.fin := by
  rw [lastN, if_neg (by omega), hX]
  simp only
  rw [if_neg (by decide)]
theorem readP_open (s : ByteArray) (k : Nat) (x : PS) : (readP s (k + 1) s.size x).2.1 = x.st.length - 1 := by
  rw [readP, if_pos (Nat.le_refl _)]
  by_cases h : 1 < x.st.length
  · rw [if_pos h]
  · rw [if_neg h]
    show 0 = _
    omega
/-- Where a text ends too early: all its words are words, but a group is open; or its last word ends too early. In each text that begins so it is read so up to there. -/
theorem readP_short (s : ByteArray) : ∀ k a x, a ≤ s.size → s.size < k + a → PInv x → (readP s k a x).2.2.1 = 0 ∨ (readP s k a x).2.2.1 = 2 →
    ∃ b y, a ≤ b ∧ b ≤ s.size ∧ PInv y ∧ (b = s.size ∨ (b < s.size ∧ firstP y (bt s b) = 0 ∧ (nextA s b).2.1 = 2)) ∧ (∀ k', s.size < k' + a → lastN s k' a = b) ∧
      ∀ s', Agr s.size s s' → ∀ k' k'', s'.size < k' + a → s'.size < k'' + b → readP s' k' a x = readP s' k'' b y
  | 0, a, x, h, h1, _, _ => by omega
  | k + 1, a, x, h, h1, hi, h0 => by
    by_cases hend : s.size ≤ a
    · exact ⟨a, x, Nat.le_refl _, h, hi, .inl (by omega), fun k' _ => lastN_end s k' a hend, fun s' hA k' k'' g1 g2 => readP_fuel s' k' k'' a x (by have := hA.2.1; omega) g1 g2⟩
    have hlt : a < s.size := by omega
    rw [readP, if_neg hend] at h0
    by_cases hf : firstP x (bt s a) ≠ 0
    · rw [if_pos hf] at h0
      exfalso
      have h9 : firstP x (bt s a) = 7 ∨ firstP x (bt s a) = 8 ∨ firstP x (bt s a) = 9 := by
        unfold firstP at hf ⊢
        split
        · rename_i n r st heq
          rw [heq] at hf
          simp only at hf
          split
          · rename_i c
            rw [if_pos c] at hf
            split
            · exact .inl rfl
            · rename_i c2; rw [if_neg c2] at hf; exact absurd rfl hf
          · rename_i c
            rw [if_neg c] at hf
            split
            · rename_i c2
              rw [if_pos c2] at hf
              split
              · exact .inr (.inl rfl)
              · rename_i c3; rw [if_neg c3] at hf; exact absurd rfl hf
            · rename_i c2
              rw [if_neg c2] at hf
              split
              · rename_i c3
                rw [if_pos c3] at hf
                split
                · exact .inr (.inr rfl)
                · rename_i c4; rw [if_neg c4] at hf; exact absurd rfl hf
              · rename_i c3; rw [if_neg c3] at hf; exact absurd rfl hf
        · rename_i heq
          rw [heq] at hf
          exact absurd rfl hf
      simp only at h0
      omega
    have hf0 : firstP x (bt s a) = 0 := Decidable.not_not.1 hf
    rw [if_neg hf] at h0
    have hE := nextA_end s a hlt
    have hag := fun s' => nextA_agr s s' a hlt
    have hkd := next_kinds s a
    by_cases h2 : (nextA s a).2.1 = 2
    · exact ⟨a, x, Nat.le_refl _, h, hi, .inr ⟨hlt, hf0, h2⟩, fun k' _ => lastN_err s k' a (nextA s a).1 (nextA s a).2.1 (nextA s a).2.2 rfl (by rw [h2]; decide), fun s' hA k' k'' g1 g2 => readP_fuel s' k' k'' a x (by have := hA.2.1; omega) g1 g2⟩
    have hmo := fun k' w p => lastN_more s k' a w p hlt
    generalize nextA s a = X at *
    obtain ⟨w, e, p⟩ := X
    simp only at h0 h2
    rcases hE with ⟨e1, e2, e3, _, e5, e6⟩ | ⟨e1, _⟩
    · simp only at e1 e2 e3 e5 e6
      subst e1
      subst e2
      rw [if_neg (by decide)] at h0
      obtain ⟨k2, k3, k5⟩ := hkd w rfl
      obtain ⟨b, y, g1, g2, g3, g4, g6, g5⟩ := readP_short s k w.fin (takeP x w) e6 (by omega) (take_inv s a x w hi hf0 e3 k2 k3 k5) h0
      refine ⟨b, y, by omega, g2, g3, g4, fun k' hk' => ?_, fun s' hA k' k'' c1 c2 => ?_⟩
      · obtain ⟨k', rfl⟩ : ∃ m, k' = m + 1 := ⟨k' - 1, by omega⟩
        rw [hmo k' w _ rfl]
        exact g6 k' (by omega)
      have hz := hA.2.1
      obtain ⟨k', rfl⟩ : ∃ m, k' = m + 1 := ⟨k' - 1, by omega⟩
      have hx : nextA s' a = (w, 0, 0) := hag s' (by show (0 : Nat) ≠ 2; decide) (hA.le (by show w.fin ≤ _; omega))
      rw [readP, if_neg (by omega), ← hA.2.2 a hlt, if_neg hf, hx]
      show (if (0 : Nat) ≠ 0 then (zPS, 0, 0, 0) else readP s' k' w.fin (takeP x w)) = _
      rw [if_neg (show ¬ (0 : Nat) ≠ 0 by decide)]
      exact g5 s' hA k' k'' (by omega) c2
    · simp only at e1
      rw [if_pos e1] at h0
      simp only at h0
      rcases h0 with h0 | h0
      · exact absurd h0 e1
      · exact absurd h0 h2
def shuts (d : Nat) : ByteArray := ofT (List.replicate d 41)
theorem shuts_size (d : Nat) : (shuts d).size = d := by unfold shuts; rw [size_ofT, List.length_replicate]
theorem shuts_bt (d i : Nat) (h : i < d) : bt (shuts d) i = 41 := by
  unfold shuts
  rw [bt_ofT _ (fun x hx => by rw [(List.mem_replicate.1 hx).2]; decide) i (by rw [List.length_replicate]; exact h), List.getElem_replicate]
/-- **A text that ends too early is made a pattern: by what lacks to its last word, if that ends too early, and by closing what is open then.** -/
theorem finish_ok (s : ByteArray) (h : (parseN s).2.2.1 = 0 ∨ (parseN s).2.2.1 = 2) : ∃ b y, b ≤ s.size ∧ PInv y ∧ lastN s (s.size + 1) 0 = b ∧
    ((b = s.size ∧ (parseN s).2.1 = y.st.length - 1 ∧ (parseN (s ++ shuts (y.st.length - 1))).2 = (0, 0, 0)) ∨
     (b < s.size ∧ (nextA s b).2.1 = 2 ∧ ∀ l w, nextA (s ++ l) b = (w, 0, 0) → w.fin = (s ++ l).size → (parseN (s ++ l)).2.1 = (takeP y w).st.length - 1 ∧ (parseN (s ++ l ++ shuts ((takeP y w).st.length - 1))).2 = (0, 0, 0))) := by
  obtain ⟨b, y, g1, g2, g3, g4, gL, g5⟩ := readP_short s (s.size + 1) 0 sPS (Nat.zero_le _) (by omega) sPS_inv h
  refine ⟨b, y, g2, g3, gL _ (by omega), ?_⟩
  rcases g4 with g4 | ⟨g4, g6, g7⟩
  · refine .inl ⟨g4, ?_, ?_⟩
    · unfold parseN
      rw [g5 s ⟨Nat.le_refl _, Nat.le_refl _, fun _ _ => rfl⟩ _ (s.size + 1) (by omega) (by omega), g4, readP_open]
    have hy : 0 < y.st.length := List.length_pos_iff.2 g3.1
    unfold parseN
    rw [g5 (s ++ shuts (y.st.length - 1)) (agrApp s _ _ (Nat.le_refl _)) _ ((s ++ shuts (y.st.length - 1)).size + 1) (by omega) (by omega)]
    refine close_ok _ (y.st.length - 1) _ b y (by omega) (by rw [ByteArray.size_append, shuts_size]; omega) (by omega) (fun i hi => ?_)
    rw [bt_app, if_neg (by omega), show b + i - s.size = i by omega]
    exact shuts_bt _ i hi
  · refine .inr ⟨g4, g7, fun l w hw hfin => ?_⟩
    have hz : (s ++ l).size = s.size + l.size := ByteArray.size_append
    have hE := nextA_end (s ++ l) b (by omega)
    rw [hw] at hE
    have hok : OkW w := by
      rcases hE with ⟨_, _, e3, _⟩ | ⟨e1, _⟩
      · exact e3
      · exact absurd rfl e1
    have hbt : bt (s ++ l) b = bt s b := by rw [bt_app, if_pos g4]
    obtain ⟨k2, k3, k5⟩ := next_kinds (s ++ l) b w hw
    have hi2 := take_inv (s ++ l) b y w g3 (by rw [hbt]; exact g6) hok k2 k3 k5
    have hy : 0 < (takeP y w).st.length := List.length_pos_iff.2 hi2.1
    have hop : (parseN (s ++ l)).2.1 = (takeP y w).st.length - 1 := by
      unfold parseN
      rw [g5 (s ++ l) (agrApp s _ _ (Nat.le_refl _)) _ ((s ++ l).size + 2) (by omega) (by omega), readP, if_neg (by omega), hbt, if_neg (fun g => g g6), hw]
      show (if (0 : Nat) ≠ 0 then (zPS, 0, 0, 0) else readP (s ++ l) ((s ++ l).size + 1) w.fin (takeP y w)).2.1 = _
      rw [if_neg (show ¬ (0 : Nat) ≠ 0 by decide), hfin, readP_open]
    refine ⟨hop, ?_⟩
    clear hop
    generalize hd : (takeP y w).st.length - 1 = d
    have hA : Agr s.size s (s ++ l ++ shuts d) := ⟨Nat.le_refl _, by rw [ByteArray.size_append]; omega, fun i hi => by rw [bt_app, if_pos (by omega), bt_app, if_pos hi]⟩
    have hT : (s ++ l ++ shuts d).size = (s ++ l).size + d := by rw [ByteArray.size_append, shuts_size]
    have hx : nextA (s ++ l ++ shuts d) b = (w, 0, 0) := by
      rw [← hw]
      refine nextA_agr (s ++ l) _ b (by omega) (by rw [hw]; show (0 : Nat) ≠ 2; decide) ?_
      rw [hw]
      exact agrApp (s ++ l) _ _ (by show w.fin ≤ _; omega)
    have hb2 : bt (s ++ l ++ shuts d) b = bt s b := (hA.2.2 b g4).symm
    unfold parseN
    rw [g5 (s ++ l ++ shuts d) hA _ ((s ++ l ++ shuts d).size + 2) (by omega) (by omega), readP, if_neg (by omega), hb2, if_neg (fun g => g g6), hx]
    show (if (0 : Nat) ≠ 0 then (zPS, 0, 0, 0) else readP (s ++ l ++ shuts d) ((s ++ l ++ shuts d).size + 1) w.fin (takeP y w)).2 = _
    rw [if_neg (show ¬ (0 : Nat) ≠ 0 by decide)]
    refine close_ok _ d _ w.fin _ (by omega) (by omega) (by omega) (fun i hi => ?_)
    rw [bt_app, if_neg (by omega), show w.fin + i - (s ++ l).size = i by omega]
    exact shuts_bt d i hi
end Go.Proofs.YtldaaelmifbbhaaGreat

/- Stage 8: beginnings of patterns, plainly; what the laws want of the package finish. -/
namespace Go.Proofs.YtldaaelmifbbhaaGreat
open Go.RowKit BS

/-- Is a text a beginning, is it a pattern? -/
def begN (s : ByteArray) : Bool := decide ((parseN s).2.2.1 = 0 ∨ (parseN s).2.2.1 = 2)
def okP (s : ByteArray) : Bool := decide ((parseN s).2.2.1 = 0)
theorem begN_iff (s : ByteArray) : begN s = true ↔ (parseN s).2.2.1 = 0 ∨ (parseN s).2.2.1 = 2 := decide_eq_true_iff
theorem begN_not (s : ByteArray) (h : begN s = false) : (parseN s).2.2.1 ≠ 0 ∧ (parseN s).2.2.1 ≠ 2 := by
  have := of_decide_eq_false h
  exact ⟨fun h => this (.inl h), fun h => this (.inr h)⟩
theorem okP_iff (s : ByteArray) : okP s = true ↔ (parseN s).2.2.1 = 0 := decide_eq_true_iff
theorem begN_cut (s : ByteArray) (i : Nat) (hi : i ≤ s.size) (h : begN s = true ∨ i < (parseN s).2.2.2) : begN (s.extract 0 i) = true := by
  have hz : (s.extract 0 i).size = i := by rw [ByteArray.size_extract]; omega
  rw [begN_iff]
  by_cases g0 : (parseN (s.extract 0 i)).2.2.1 = 0
  · exact .inl g0
  by_cases g2 : (parseN (s.extract 0 i)).2.2.1 = 2
  · exact .inr g2
  exfalso
  have hp := readP_place (s.extract 0 i) ((s.extract 0 i).size + 1) 0 sPS (Nat.zero_le _) (by omega) g0 g2
  change 0 < (parseN (s.extract 0 i)).2.2.2 ∧ (parseN (s.extract 0 i)).2.2.2 ≤ (s.extract 0 i).size at hp
  have hA : Agr (parseN (s.extract 0 i)).2.2.2 (s.extract 0 i) s := ⟨hp.2, by omega, fun j hj => by rw [bt_extract s 0 i j (by omega) (by omega), Nat.zero_add]⟩
  have he : parseN s = parseN (s.extract 0 i) := readP_sure (s.extract 0 i) s _ _ 0 sPS (Nat.zero_le _) (by omega) (by omega) g0 g2 hA
  rcases h with h | h
  · rw [begN_iff, he] at h
    rcases h with h | h
    · exact g0 h
    · exact g2 h
  · rw [he] at h; omega
theorem begN_place (s : ByteArray) (h : begN s = false) : 0 < (parseN s).2.2.2 ∧ (parseN s).2.2.2 ≤ s.size := by
  obtain ⟨h0, h2⟩ := begN_not s h
  exact readP_place s (s.size + 1) 0 sPS (Nat.zero_le _) (by omega) h0 h2
theorem begN_sure (s more : ByteArray) (h : begN s = false) : parseN (s.extract 0 (parseN s).2.2.2 ++ more) = parseN s := by
  obtain ⟨h0, h2⟩ := begN_not s h
  exact readP_sure s (s.extract 0 (parseN s).2.2.2 ++ more) (s.size + 1) _ 0 sPS (Nat.zero_le _) (by omega) (by omega) h0 h2 (agr_cut s more _ (begN_place s h).2)
theorem begN_sure0 (s : ByteArray) (h : begN s = false) : parseN (s.extract 0 (parseN s).2.2.2) = parseN s := by
  obtain ⟨h0, h2⟩ := begN_not s h
  have hp := begN_place s h
  have hz : (s.extract 0 (parseN s).2.2.2).size = (parseN s).2.2.2 := by rw [ByteArray.size_extract]; omega
  generalize hk : (parseN s).2.2.2 = k at *
  have hA : Agr k s (s.extract 0 k) := ⟨hp.2, by omega, fun j hj => by rw [bt_extract s 0 k j (by omega) (by omega), Nat.zero_add]⟩
  exact readP_sure s (s.extract 0 k) (s.size + 1) _ 0 sPS (Nat.zero_le _) (by omega) (by omega) h0 h2 (by change Agr (parseN s).2.2.2 _ _; rw [hk]; exact hA)
/-- Of the first 0, 1, 2 and so on bytes, whether they are a pattern. -/
def whL (s : ByteArray) (n : Nat) : List Bool := (List.range n).map fun i => okP (s.extract 0 i)
theorem whL_len (s : ByteArray) (n : Nat) : (whL s n).length = n := by simp [whL]
theorem whL_snoc (s : ByteArray) (n : Nat) : whL s (n + 1) = whL s n ++ [okP (s.extract 0 n)] := by
  unfold whL
  rw [List.range_succ, List.map_append]
  rfl
theorem whL_get (s : ByteArray) (n i : Nat) (h : i < n) : (whL s n)[i]? = some (okP (s.extract 0 i)) := by
  unfold whL
  rw [List.getElem?_map, List.getElem?_range h]
  rfl
def boC (l : List Bool) : List Value := l.map fun b => .bool b
theorem boC_snoc (l : List Bool) (b : Bool) : boC (l ++ [b]) = boC l ++ [.bool b] := by simp [boC]
theorem boC_len (l : List Bool) : (boC l).length = l.length := by simp [boC]
theorem boC_get (l : List Bool) (i : Nat) : (boC l)[i]? = (l[i]?).map fun b => .bool b := by simp [boC]
/-- What the laws want of the package finish. -/
structure FinishC : Prop where
  finish : ∀ (s : ByteArray), s.size ≤ 100000 → ∃ t : ByteArray, t.size ≤ 100000 ∧ (begN s = true → okP (s ++ t) = true) ∧ (begN s = false → t = ⟨#[]⟩) ∧
    ∀ (w : World), Calls Tryz.prog 11 #[.string s] w fun e w' => e = .returned (.tuple #[.string t, .bool (begN s)]) ∧ Below w.heap.size w w'
  begins : ∀ (s : ByteArray), s.size ≤ 100000 → ∀ (w : World), Calls Tryz.prog 9 #[.string s] w fun e w' => e = .returned (.bool (begN s)) ∧ Below w.heap.size w w'
  whole : ∀ (s : ByteArray), s.size ≤ 100000 → ∀ (w : World), Calls Tryz.prog 7 #[.string s] w fun e w' => ∃ v, e = .returned v ∧ w'.ownsRow w.heap.size 4 1 v (s.size + 1) (boC (whL s (s.size + 1))) ∧ Below w.heap.size w w'
theorem bools_of {s : ByteArray} {v : Value} {n base : Nat} {W : World} (h : W.ownsRow base 4 1 v (n + 1) (boC (whL s (n + 1)))) : ∃ g cap, v = .slice (some ⟨g, 0, none⟩) (n + 1 : Nat) cap ∧ base ≤ g ∧ g < W.heap.size ∧ ∀ i, i < n + 1 → W.cell? ⟨g, i, none⟩ = some (.bool (okP (s.extract 0 i))) := by
  rcases h.2 with ⟨_, h0⟩ | ⟨g, cap, cur, rfl, hb, hg, _, _, _, _⟩
  · omega
  · refine ⟨g, cap, rfl, hb, (Array.getElem?_eq_some_iff.1 hg).1, fun i hi => ?_⟩
    refine (h.cellAt i (by omega)).trans ?_
    rw [boC_get, whL_get s _ i hi]
    rfl
end Go.Proofs.YtldaaelmifbbhaaGreat

/- The laws of stage 8: sure. -/
namespace Go.Proofs.YtldaaelmifbbhaaGreat
open Go.RowKit BS

/-! ### sure -/
def s81 : ByteArray := ⟨#[40, 97, 91, 98]⟩
def s82 : ByteArray := ⟨#[97, 41]⟩
def s83 : ByteArray := ⟨#[40, 97, 41]⟩
def s84 : ByteArray := ⟨#[97, 123]⟩
def s85 : ByteArray := ⟨#[97, 123, 120]⟩
theorem s81_b : begN s81 = true := by decide +kernel
theorem s82_b : begN s82 = false := by decide +kernel
theorem s84_b : begN s84 = true := by decide +kernel
theorem s85_b : begN s85 = false := by decide +kernel
theorem s83_0 : okP (s83.extract 0 0) = true := by decide +kernel
theorem s83_1 : okP (s83.extract 0 1) = false := by decide +kernel
theorem s83_3 : okP (s83.extract 0 3) = true := by decide +kernel
theorem parse_k (C : ParseC) (s : ByteArray) (hs : s.size ≤ 1000000) (w : World) : Calls Tryz.prog 13 #[.string s] w fun e w' => ∃ v, e = .returned (.tuple #[v, .int .i64 (parseN s).2.2.1, .int .i64 (parseN s).2.2.2]) ∧ Below w.heap.size w w' :=
  (C.parse s hs w).mono fun _ _ ⟨v, h1, _, h3⟩ => ⟨v, h1, h3⟩
theorem s83_c (F : FinishC) (w : World) : Calls Tryz.prog 7 #[.string ⟨#[40, 97, 41]⟩] w fun e w' => ∃ g cap, e = .returned (.slice (some ⟨g, 0, none⟩) 4 cap) ∧
    (g < w'.heap.size ∧ w'.cell? ⟨g, 0, none⟩ = some (.bool true) ∧ w'.cell? ⟨g, 1, none⟩ = some (.bool false) ∧ w'.cell? ⟨g, 3, none⟩ = some (.bool true)) ∧ Below w.heap.size w w' := by
  refine (F.whole s83 (by decide) w).mono ?_
  rintro e w' ⟨v, rfl, hv, hb⟩
  obtain ⟨g, cap, rfl, _, hg, hc⟩ := bools_of hv
  have c0 := hc 0 (by decide); have c1 := hc 1 (by decide); have c3 := hc 3 (by decide)
  rw [s83_0] at c0
  rw [s83_1] at c1
  rw [s83_3] at c3
  exact ⟨g, cap, rfl, ⟨hg, c0, c1, c3⟩, hb⟩
set_option maxRecDepth 100000 in
set_option maxHeartbeats 8000000 in
theorem sure8_calls (C : ParseC) (F : FinishC) (w : World) : Calls Tryz.prog 6 #[] w fun e w' => e = .returned (.bool true) ∧ Below w.heap.size w w' := by
  obtain ⟨t, ht, h1, _, hF⟩ := F.finish s81 (by decide)
  obtain ⟨t2, _, _, h2, hF2⟩ := F.finish s82 (by decide)
  have hz : (s81 ++ t).size ≤ 1000000 := by rw [ByteArray.size_append]; have : s81.size = 4 := rfl; omega
  have hP := parse_k C (s81 ++ t) hz
  rw [(okP_iff _).1 (h1 s81_b)] at hP
  generalize (parseN (s81 ++ t)).2.2.2 = pl at *
  rw [h2 s82_b, s82_b] at hF2
  rw [s81_b] at hF
  have hB4 := F.begins s84 (by decide)
  have hB5 := F.begins s85 (by decide)
  rw [s84_b] at hB4
  rw [s85_b] at hB5
  have hadd : ∀ w, (Op.stringOp .add ⟨#[40, 97, 91, 98]⟩ t).run Tryz.prog w = .ok (.string (s81 ++ t)) w := fun w => run_string_add_sum w _ _ (by show 4 + _ ≤ _; omega)
  have H1 : Hid (∀ w, Calls Tryz.prog 11 #[.string ⟨#[40, 97, 91, 98]⟩] w fun e w' => e = .returned (.tuple #[.string t, .bool true]) ∧ Below w.heap.size w w') := Lib.hid hF
  have H2 : Hid (∀ w, Calls Tryz.prog 11 #[.string ⟨#[97, 41]⟩] w fun e w' => e = .returned (.tuple #[.string ⟨#[]⟩, .bool false]) ∧ Below w.heap.size w w') := Lib.hid hF2
  have H3 : Hid (∀ w, Calls Tryz.prog 13 #[.string (s81 ++ t)] w fun e w' => ∃ v, e = .returned (.tuple #[v, .int .i64 0, .int .i64 pl]) ∧ Below w.heap.size w w') := Lib.hid hP
  have H4 : Hid (∀ w, Calls Tryz.prog 9 #[.string ⟨#[97, 123]⟩] w fun e w' => e = .returned (.bool true) ∧ Below w.heap.size w w') := Lib.hid hB4
  have H5 : Hid (∀ w, Calls Tryz.prog 9 #[.string ⟨#[97, 123, 120]⟩] w fun e w' => e = .returned (.bool false) ∧ Below w.heap.size w w') := Lib.hid hB5
  have H6 := Lib.hid (s83_c F)
  generalize s81 ++ t = st at *
  clear hF hF2 hP hB4 hB5 h1 h2 hz C F
  go_enter Tryz.func6, Tryz.ntmps6
  go_wp2_with fail
  refine (H1.out _).mono ?_
  rintro e w1 ⟨rfl, hb⟩
  have HB := Lib.hid hb
  clear hb H1
  go_wp2_with fail
  refine (H2.out _).mono ?_
  rintro e w2 ⟨rfl, hb⟩
  replace HB := Lib.hid (HB.out.trans (hb.mono HB.out.size))
  clear hb H2
  go_wp2_with fail
  refine (H3.out _).mono ?_
  rintro e w3 ⟨v3, rfl, hb⟩
  replace HB := Lib.hid (HB.out.trans (hb.mono HB.out.size))
  clear hb H3
  go_wp2_with fail
  refine (H6.out _).mono ?_
  rintro e w4 ⟨g, cap, rfl, ⟨hg, c0, c1, c3⟩, hb⟩
  have HC := Lib.hid (And.intro hg (And.intro c0 (And.intro c1 c3)))
  replace HB := Lib.hid (HB.out.trans (hb.mono HB.out.size))
  clear hb H6 hg c0 c1 c3
  go_wp2_with fail
  refine (H4.out _).mono ?_
  rintro e w5 ⟨rfl, hb⟩
  have HC2 := Lib.hid (show g < w5.heap.size ∧ w5.cell? ⟨g, 0, none⟩ = some (.bool true) ∧ w5.cell? ⟨g, 1, none⟩ = some (.bool false) ∧ w5.cell? ⟨g, 3, none⟩ = some (.bool true) from ⟨Nat.lt_of_lt_of_le HC.out.1 hb.size, (hb.cell (p := ⟨g, 0, none⟩) HC.out.1).trans HC.out.2.1, (hb.cell (p := ⟨g, 1, none⟩) HC.out.1).trans HC.out.2.2.1, (hb.cell (p := ⟨g, 3, none⟩) HC.out.1).trans HC.out.2.2.2⟩)
  replace HB := Lib.hid (HB.out.trans (hb.mono HB.out.size))
  clear hb H4 HC
  go_wp2_with fail
  refine (H5.out _).mono ?_
  rintro e w6 ⟨rfl, hb⟩
  obtain ⟨c0, c1, c3⟩ := (show w6.cell? ⟨g, 0, none⟩ = some (.bool true) ∧ w6.cell? ⟨g, 1, none⟩ = some (.bool false) ∧ w6.cell? ⟨g, 3, none⟩ = some (.bool true) from ⟨(hb.cell (p := ⟨g, 0, none⟩) HC2.out.1).trans HC2.out.2.1, (hb.cell (p := ⟨g, 1, none⟩) HC2.out.1).trans HC2.out.2.2.1, (hb.cell (p := ⟨g, 3, none⟩) HC2.out.1).trans HC2.out.2.2.2⟩)
  have hBB := HB.out.trans (hb.mono HB.out.size)
  clear hb H5 HC2 HB
  go_wp2_with fail
  go_ret
  exact ⟨rfl, hBB⟩
end Go.Proofs.YtldaaelmifbbhaaGreat

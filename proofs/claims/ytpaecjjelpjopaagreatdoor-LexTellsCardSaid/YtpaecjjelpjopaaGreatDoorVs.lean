/- Words of a pattern, plainly: the text of a word is read as it; so are texts, one behind the other. -/
import Derived.Test.YtpaecjjelpjopaaGreatDoorVq
namespace Go.Proofs.YtpaecjjelpjopaaGreatDoor
open Go.RowKit BS

theorem bt_mid (p q : ByteArray) (T : List Nat) (hT : ∀ x ∈ T, x < 256) (i : Nat) (h : i < T.length) : bt (p ++ ofT T ++ q) (p.size + i) = T[i] := by
  rw [bt_app, if_pos (by rw [ByteArray.size_append, size_ofT]; omega), bt_off, bt_ofT T hT i h]
theorem size_mid (p q : ByteArray) (T : List Nat) : (p ++ ofT T ++ q).size = p.size + T.length + q.size := by rw [ByteArray.size_append, ByteArray.size_append, size_ofT]

theorem el_all (f : Nat → Bool) : ∀ k, (el f k).length = k → ∀ j, j < k → f j = true
  | 0, _, j, hj => by omega
  | k + 1, h, j, hj => by
    have hl : (el f k).length ≤ k := by unfold el; exact Nat.le_trans (List.length_filter_le _ _) (by simp)
    rw [el_succ] at h
    cases hf : f k with
    | false => rw [hf] at h; simp at h; omega
    | true =>
      rw [hf] at h
      simp at h
      by_cases hjk : j = k
      · subst hjk; exact hf
      · exact el_all f k h j (by omega)
theorem set_all (t : BitVec 256) (h : (el t.getLsbD 256).length = 256) : t = range 0 255 := by
  have := el_all _ 256 h
  apply BitVec.eq_of_getLsbD_eq
  intro j hj
  rw [this j hj, range, get_ofFn]
  simp
  omega
theorem set_one (t : BitVec 256) (b : Nat) (h : el t.getLsbD 256 = [b]) : b < 256 ∧ t = range b b := by
  have hm : ∀ j, j < 256 → (t.getLsbD j = true ↔ j = b) := fun j hj => by
    have : j ∈ el t.getLsbD 256 ↔ j = b := by rw [h]; simp
    rw [← this]
    unfold el
    simp [hj]
  have hb : b < 256 := by
    have : b ∈ el t.getLsbD 256 := by rw [h]; simp
    unfold el at this
    simp at this
    exact this.1
  refine ⟨hb, ?_⟩
  apply BitVec.eq_of_getLsbD_eq
  intro j hj
  rw [range, get_ofFn, Bool.eq_iff_iff, hm j hj]
  simp
  omega
theorem range94_one : (el (range 94 94).getLsbD 256).length = 1 := by decide +kernel
/-- How the text of a set is read. -/
def BackT (t : BitVec 256) (T : List Nat) : Prop := T ≠ [] ∧ (∀ x ∈ T, x < 256) ∧ T.length ≤ 800 ∧ ∀ p q : ByteArray, nextA (p ++ ofT T ++ q) p.size = (oneW t p.size (p.size + T.length), 0, 0)
theorem next_byte (s : ByteArray) (a b : Nat) (h : bt s a = b) (hb : four14 b = false ∨ b = 93 ∨ b = 125) : nextA s a = (oneW (range b b) a (a + 1), 0, 0) := by
  have key : ∀ c, c ∈ [40, 41, 124, 42, 43, 63, 123, 91, 46, 94, 36, 92] → b ≠ c := by
    rintro c hc rfl
    rcases hb with hb | hb | hb
    · have h4 : ∀ x ∈ [40, 41, 124, 42, 43, 63, 123, 91, 46, 94, 36, 92], four14 x = true := by decide
      rw [h4 b hc] at hb; cases hb
    · subst hb; revert hc; decide
    · subst hb; revert hc; decide
  unfold nextA
  rw [h, if_neg (key 40 (by decide)), if_neg (key 41 (by decide)), if_neg (key 124 (by decide)),
    if_neg (fun h => by rcases h with h | h | h | h; exact key 42 (by decide) h; exact key 43 (by decide) h; exact key 63 (by decide) h; exact key 123 (by decide) h),
    if_neg (key 91 (by decide)), if_neg (key 46 (by decide)), if_neg (fun h => by rcases h with h | h; exact key 94 (by decide) h; exact key 36 (by decide) h), if_neg (key 92 (by decide))]
theorem next_slash (s : ByteArray) (a b : Nat) (h0 : bt s a = 92) (hz : a + 1 < s.size) (h1 : bt s (a + 1) = b) (hb : four14 b = true) : nextA s a = (oneW (range b b) a (a + 2), 0, 0) := by
  unfold nextA
  rw [h0, if_neg (by decide), if_neg (by decide), if_neg (by decide), if_neg (by decide), if_neg (by decide), if_neg (by decide), if_neg (by decide), if_pos rfl]
  unfold slashW
  rw [if_neg (by omega), h1, if_neg (by rw [hb]; decide)]
theorem back_set (t : BitVec 256) : BackT t (textW t) := by
  unfold textW
  by_cases h256 : (el t.getLsbD 256).length = 256
  · rw [if_pos h256]
    obtain rfl := set_all t h256
    refine ⟨by decide, by decide, by decide, fun p q => ?_⟩
    have hb : bt (p ++ ofT [46] ++ q) p.size = 46 := bt_mid p q [46] (by decide) 0 (by decide)
    unfold nextA
    rw [hb, if_neg (by decide), if_neg (by decide), if_neg (by decide), if_neg (by decide), if_neg (by decide), if_pos rfl]
    rfl
  rw [if_neg h256]
  by_cases h1 : (el t.getLsbD 256).length ≠ 1
  · rw [if_pos h1]
    have hn : t ≠ range 94 94 := by rintro rfl; exact h1 range94_one
    refine ⟨fun h => hn ((text_nil t).1 h), text_lt t, text_len t, fun p q => ?_⟩
    have hr := readR_back p q t hn
    have h91 : bt (p ++ ofT (textT t) ++ q) p.size = 91 := by
      rcases readR_end (p ++ ofT (textT t) ++ q) p.size with ⟨h, _⟩ | ⟨_, _, h, _⟩
      · rw [hr] at h; cases h
      · exact h
    unfold nextA
    rw [h91, if_neg (by decide), if_neg (by decide), if_neg (by decide), if_neg (by decide), if_pos rfl]
    unfold brkW
    rw [hr]
    rfl
  rw [if_neg h1]
  obtain ⟨b, hb⟩ : ∃ b, el t.getLsbD 256 = [b] := List.length_eq_one_iff.1 (Decidable.not_not.1 h1)
  obtain ⟨hlt, rfl⟩ := set_one t b hb
  rw [hb]
  simp only
  by_cases hf : four14 b = true ∧ b ≠ 93 ∧ b ≠ 125
  · rw [if_pos hf]
    refine ⟨by simp, by simp; omega, by simp, fun p q => ?_⟩
    have hT : ∀ x ∈ [92, b], x < 256 := by simp; omega
    exact next_slash _ p.size b (bt_mid p q [92, b] hT 0 (by simp)) (by rw [size_mid]; simp; omega) (bt_mid p q [92, b] hT 1 (by simp)) hf.1
  · rw [if_neg hf]
    refine ⟨by simp, by simp; omega, by simp, fun p q => ?_⟩
    have hT : ∀ x ∈ [b], x < 256 := by simp; omega
    refine next_byte _ p.size b (bt_mid p q [b] hT 0 (by simp)) ?_
    by_cases h4 : four14 b = true
    · right
      by_cases h93 : b = 93
      · exact .inl h93
      · exact .inr (Decidable.not_not.1 fun h => hf ⟨h4, h93, h⟩)
    · exact .inl (by simpa using h4)

/-- The word at another place. -/
def atW (w : WN) (p l : Nat) : WN := ⟨w.kind, p, p + l, w.set, w.n, w.m⟩
theorem textN_lt (n m : Int) (h : rightN n m = true) : (∀ x ∈ textN n m, x < 256) ∧ (textN n m).length ≤ 7 := by
  have hd : ∀ k, k ≤ 99 → (∀ x ∈ digL k, x < 256) ∧ (digL k).length ≤ 2 := fun k hk => by
    unfold digL
    split
    · simp; omega
    · simp; omega
  have hc : 0 ≤ n ∧ n ≤ 99 ∧ (m = -1 ∨ (n ≤ m ∧ m ≤ 99)) := by
    unfold rightN at h
    simp only [Bool.and_eq_true, Bool.or_eq_true, decide_eq_true_eq, beq_iff_eq] at h
    omega
  have h1 := hd n.toNat (by omega)
  have h2 : m ≠ -1 → _ := fun hm => hd m.toNat (by omega)
  unfold textN
  rw [if_neg (by rw [h]; decide)]
  split
  · simp
  split
  · simp
  split
  · simp
  split
  · refine ⟨fun x hx => ?_, by simp; omega⟩
    simp at hx
    rcases hx with rfl | hx | rfl
    · decide
    · exact h1.1 x hx
    · decide
  split
  · refine ⟨fun x hx => ?_, by simp; omega⟩
    simp at hx
    rcases hx with rfl | hx | rfl | rfl
    · decide
    · exact h1.1 x hx
    · decide
    · decide
  · rename_i hm
    have h2 := h2 hm
    refine ⟨fun x hx => ?_, by simp; omega⟩
    simp at hx
    rcases hx with rfl | hx | rfl | hx | rfl
    · decide
    · exact h1.1 x hx
    · decide
    · exact h2.1 x hx
    · decide
/-- **The text of a word is read as it, whatever stands ahead of it, and behind.** -/
theorem back_word (w : WN) (hw : OkW w) : printW w ≠ [] ∧ (∀ x ∈ printW w, x < 256) ∧ (printW w).length ≤ 800 ∧ ∀ p q : ByteArray, nextA (p ++ ofT (printW w) ++ q) p.size = (atW w p.size (printW w).length, 0, 0) := by
  obtain ⟨k, a, e, t, n, m⟩ := w
  rcases hw with ⟨rfl, rfl, rfl⟩ | ⟨hk, rfl, rfl, rfl⟩ | ⟨rfl, rfl, hr⟩
  · exact back_set t
  · have key : ∀ c : Nat, ∀ k, c < 256 → (∀ s a, bt s a = c → nextA s a = (⟨k, a, a + 1, 0, 0, 0⟩, 0, 0)) → ([c] ≠ [] ∧ (∀ x ∈ [c], x < 256) ∧ [c].length ≤ 800 ∧ ∀ p q : ByteArray, nextA (p ++ ofT [c] ++ q) p.size = (⟨k, p.size, p.size + [c].length, 0, 0, 0⟩, 0, 0)) := fun c k hc h =>
      ⟨by simp, by simpa using hc, by simp, fun p q => h _ _ (bt_mid p q [c] (by simpa using hc) 0 (by simp))⟩
    simp only at hk
    rcases hk with rfl | rfl | rfl
    · exact key 40 2 (by decide) (fun s a h => by unfold nextA; rw [if_pos h])
    · exact key 41 3 (by decide) (fun s a h => by unfold nextA; rw [if_neg (by omega), if_pos h])
    · exact key 124 4 (by decide) (fun s a h => by unfold nextA; rw [if_neg (by omega), if_neg (by omega), if_pos h])
  · have hlt := textN_lt n m hr
    simp only at hr
    refine ⟨(readN_back eT eT n m hr).1, hlt.1, Nat.le_trans hlt.2 (by decide), fun p q => ?_⟩
    show nextA (p ++ ofT (textN n m) ++ q) p.size = (⟨5, p.size, p.size + (textN n m).length, 0, n, m⟩, 0, 0)
    have hb := (readN_back p q n m hr).2
    have hne := (readN_back p q n m hr).1
    have hl : 0 < (textN n m).length := List.length_pos_iff.2 hne
    have hz := size_mid p q (textN n m)
    have hfour : bt (p ++ ofT (textN n m) ++ q) p.size = 42 ∨ bt (p ++ ofT (textN n m) ++ q) p.size = 43 ∨ bt (p ++ ofT (textN n m) ++ q) p.size = 63 ∨ bt (p ++ ofT (textN n m) ++ q) p.size = 123 := by
      have hb2 := hb
      unfold readN at hb2
      rw [if_neg (by omega), show (p.size : Int).toNat = p.size from rfl] at hb2
      unfold signN at hb2
      by_cases g1 : bt (p ++ ofT (textN n m) ++ q) p.size = 42
      · exact .inl g1
      by_cases g2 : bt (p ++ ofT (textN n m) ++ q) p.size = 43
      · exact .inr (.inl g2)
      by_cases g3 : bt (p ++ ofT (textN n m) ++ q) p.size = 63
      · exact .inr (.inr (.inl g3))
      by_cases g4 : bt (p ++ ofT (textN n m) ++ q) p.size = 123
      · exact .inr (.inr (.inr g4))
      rw [if_neg g1, if_neg g2, if_neg g3, if_neg g4] at hb2
      cases hb2
    unfold nextA
    rw [if_neg (by omega), if_neg (by omega), if_neg (by omega), if_pos hfour]
    unfold cntW
    rw [hb]
    rfl

/-- The words, one behind the other, from a place on. -/
def layW : Nat → List WN → List WN
  | _, [] => []
  | p, w :: l => atW w p (printW w).length :: layW (p + (printW w).length) l
def catW (l : List WN) : List Nat := l.flatMap printW
theorem allN_back : ∀ (l : List WN) (p : ByteArray) (k : Nat) (acc : List WN), (∀ w ∈ l, OkW w) → l.length < k → allN (p ++ ofT (catW l)) k p.size acc = (acc ++ layW p.size l, 0, 0)
  | [], p, k + 1, acc, _, _ => by
    rw [allN, if_pos (by rw [show catW [] = [] from rfl, ByteArray.size_append, size_ofT]; simp)]
    simp [layW]
  | w :: l, p, k + 1, acc, hok, hk => by
    obtain ⟨h1, h2, h3, h4⟩ := back_word w (hok w (List.mem_cons_self ..))
    have e : ofT (catW (w :: l)) = ofT (printW w) ++ ofT (catW l) := by rw [ofT_append]; rfl
    have hl : 0 < (printW w).length := List.length_pos_iff.2 h1
    have hn := h4 p (ofT (catW l))
    rw [allN, e, ← ByteArray.append_assoc, if_neg (by rw [size_mid]; omega), hn]
    simp only
    rw [if_neg (by decide)]
    have hz : p.size + (printW w).length = (p ++ ofT (printW w)).size := by rw [ByteArray.size_append, size_ofT]
    show allN _ k (p.size + (printW w).length) _ = _
    rw [hz, allN_back l (p ++ ofT (printW w)) k _ (fun x hx => hok x (List.mem_cons_of_mem _ hx)) (by simp at hk; omega)]
    simp only [layW, List.append_assoc, List.cons_append, List.nil_append]
    rw [← hz]
/-- All words of a text lie side by side, and are words. -/
def SideW : Nat → Nat → List WN → Prop
  | a, e, [] => a = e
  | a, e, w :: l => w.pos = a ∧ a < w.fin ∧ OkW w ∧ SideW w.fin e l
theorem side_snoc (w : WN) : ∀ (l : List WN) (a e : Nat), SideW a e l → w.pos = e → e < w.fin → OkW w → SideW a w.fin (l ++ [w])
  | [], a, e, h, h1, h2, h3 => by
    have h' : a = e := h
    subst h'
    exact ⟨h1, h2, h3, rfl⟩
  | x :: l, a, e, h, h1, h2, h3 => ⟨h.1, h.2.1, h.2.2.1, side_snoc w l _ _ h.2.2.2 h1 h2 h3⟩
theorem allN_side (s : ByteArray) : ∀ k a acc, a ≤ s.size → s.size < k + a → SideW 0 a acc → ((allN s k a acc).2.1 = 0 ∧ (allN s k a acc).2.2 = 0 ∧ SideW 0 s.size (allN s k a acc).1) ∨ ((allN s k a acc).2.1 ≠ 0 ∧ (allN s k a acc).1 = [])
  | 0, a, acc, ha, hk, _ => by omega
  | k + 1, a, acc, ha, hk, hs => by
    rw [allN]
    by_cases h : s.size ≤ a
    · rw [if_pos h]
      obtain rfl : a = s.size := by omega
      exact .inl ⟨rfl, rfl, hs⟩
    · rw [if_neg h]
      have hE := nextA_end s a (by omega)
      generalize nextA s a = X at *
      obtain ⟨w, e, p⟩ := X
      simp only
      rcases hE with ⟨h1, h2, h3, h4, h5, h6⟩ | ⟨h1, _⟩
      · rw [if_neg (by simp only at h1; omega)]
        exact allN_side s k w.fin _ h6 (by simp only at h5; omega) (side_snoc w acc 0 a hs h4 h5 h3)
      · simp only at h1
        rw [if_pos h1]
        exact .inr ⟨h1, rfl⟩
end Go.Proofs.YtpaecjjelpjopaaGreatDoor

/- The developers' brackets are read as the document's. -/
import Derived.Test.YtkkhibamkdgffaaDoorDs
import Derived.Test.YtkkhibamkdgffaaDoorGt
namespace Go.Proofs.YtkkhibamkdgffaaDoor
open Go.RowKit BS

def toR (x : BR) (p : DP) : BR := if p.err ≠ 0 then badR p.err p.fin else ⟨x.set ||| p.set, p.fin, x.err, x.place, x.fin, x.neg⟩
theorem toR_bad (x : BR) (e p : Nat) : toR x (badD (e + 1) p) = badR (e + 1) p := by simp [toR, badD]
theorem toR_short (x : BR) (s l : ByteArray) : toR x (shortD s l) = badR 2 s.size := by simp [toR, shortD]
theorem toR_ok (x : BR) (t : BitVec 256) (p : Nat) : toR x (okD t p) = ⟨x.set ||| t, p, x.err, x.place, x.fin, x.neg⟩ := by simp [toR, okD]

theorem behindD_lt (s : ByteArray) (a e : Nat) (h : e < s.size) : behindD s a e = if ofB (s.extract a e).toList = false ∨ bt s e ≠ 58 then badD 5 (e + 1)
  else if e + 1 = s.size then shortD s twoT
  else if bt s (e + 1) ≠ 93 then badD 3 (e + 2)
  else okD (ofS (s.extract a e).toList) (e + 2) := by rw [behindD, if_neg (by omega : ¬ e = s.size)]
theorem nameR_eq (s : ByteArray) (a : Nat) (x : BR) : ∀ n j, n = s.size - j → a ≤ j → j ≤ s.size → nameR s a x n j = toR x (behindD s a (nmEnd s a n j))
  | 0, j, hn, ha, hj => by
    have : j = s.size := by omega
    subst this
    rw [nmEnd, behindD, if_pos rfl, toR_short]; rfl
  | n + 1, j, hn, ha, hj => by
    have hlt : j < s.size := by omega
    by_cases hc : bt s j = 58
    · rw [nmEnd_off _ _ _ _ (beg_colon s a j ha hlt hc), nameR_col _ _ _ _ _ hc, behindD_lt s a j hlt]
      by_cases h1 : ofB (s.extract a j).toList = false
      · rw [if_pos h1, if_pos (.inl h1), toR_bad]
      · have hn1 : ¬ (ofB (s.extract a j).toList = false ∨ bt s j ≠ 58) := by rintro (h | h); exact h1 h; exact h hc
        rw [if_neg h1, if_neg hn1]
        by_cases h2 : j + 1 = s.size
        · rw [if_pos (show s.size ≤ j + 1 by omega), if_pos h2, toR_short]
        · rw [if_neg (show ¬ s.size ≤ j + 1 by omega), if_neg h2]
          by_cases h3 : bt s (j + 1) ≠ 93
          · rw [if_pos h3, if_pos h3, toR_bad]
          · rw [if_neg h3, if_neg h3, toR_ok]
    · rw [nameR_not _ _ _ _ _ hc]
      cases hb : begB (s.extract a (j + 1)) with
      | false => rw [if_pos rfl, nmEnd_off _ _ _ _ hb, behindD_lt s a j hlt, if_pos (.inr hc), toR_bad]
      | true => rw [if_neg (by decide), nmEnd_on _ _ _ _ hb]; exact nameR_eq s a x n (j + 1) (by omega) (by omega) (by omega)

theorem loopD_short (s : ByteArray) (first n : Nat) (t : BitVec 256) (neg : Bool) : finD neg (loopD s first (n + 1) t s.size) = (0, 0, 2, s.size) := by
  rw [loopD]
  by_cases h : s.size = first
  · rw [if_pos ⟨rfl, h⟩]; simp [finD, shortD]
  · rw [if_neg (fun h' => h h'.2), if_pos rfl]; simp [finD, shortD]
theorem loopD_end (s : ByteArray) (first n : Nat) (t : BitVec 256) (i : Nat) (hi : i < s.size) (h : bt s i = 93 ∧ first < i) : loopD s first (n + 1) t i = okD t (i + 1) := by
  rw [loopD, if_neg (by omega), if_neg (by omega), if_pos h]
theorem loopD_bad (s : ByteArray) (first n : Nat) (t : BitVec 256) (i : Nat) (hi : i < s.size) (h : ¬ (bt s i = 93 ∧ first < i)) (he : (thingD s i).err ≠ 0) : loopD s first (n + 1) t i = thingD s i := by
  rw [loopD, if_neg (by omega), if_neg (by omega), if_neg h, if_pos he]
theorem loopD_on (s : ByteArray) (first n : Nat) (t : BitVec 256) (i : Nat) (hi : i < s.size) (h : ¬ (bt s i = 93 ∧ first < i)) (he : (thingD s i).err = 0) : loopD s first (n + 1) t i = loopD s first n (t ||| (thingD s i).set) (thingD s i).fin := by
  rw [loopD, if_neg (by omega), if_neg (by omega), if_neg h, if_neg (by rw [he]; decide)]
theorem isN_far (s : ByteArray) (i : Nat) (L : List Nat) (h : s.size ≤ i) : isN s i L = false := by
  cases hb : isN s i L with
  | false => rfl
  | true => have := isN_lt hb; omega
theorem isN_not (s : ByteArray) (i : Nat) (b : Nat) (h : bt s i ≠ b) : isN s i [b] = false := by
  cases hb : isN s i [b] with
  | false => rfl
  | true => exact absurd ((isN_one s i b).1 hb).2 h
theorem thingD_byte (s : ByteArray) (i : Nat) (h1 : ¬ (bt s i = 91 ∧ isN s (i + 1) [58] = true)) (h2 : ¬ (bt s i = 91 ∧ isN s (i + 1) [46, 61] = true)) (h3 : ¬ ((isN s (i + 1) [45] = true ∧ i + 2 < s.size) ∧ bt s (i + 2) ≠ 93)) :
    thingD s i = okD (range (bt s i) (bt s i)) (i + 1) := by rw [thingD, if_neg h1, if_neg h2, if_neg h3]
theorem thingD_last (s : ByteArray) (i : Nat) (h : s.size ≤ i + 1) : thingD s i = okD (range (bt s i) (bt s i)) (i + 1) :=
  thingD_byte s i (fun h' => by rw [isN_far s _ _ h] at h'; exact absurd h'.2 (by decide)) (fun h' => by rw [isN_far s _ _ h] at h'; exact absurd h'.2 (by decide)) (fun h' => by omega)

theorem loop_eq (s : ByteArray) (first : Nat) (neg : Bool) : ∀ (m n n' : Nat) (t : BitVec 256) (i : Nat), s.size - i ≤ m → first ≤ i → i ≤ s.size → s.size + 1 ≤ n + i → s.size + 1 ≤ n' + i →
    finR (loopR s n ⟨t, i, 0, 0, false, neg⟩ (decide (i = first))) = finD neg (loopD s first n' t i) := by
  intro m
  induction m with
  | zero =>
    intro n n' t i hm hf hi hn hn'
    obtain ⟨n, rfl⟩ : ∃ k, n = k + 1 := ⟨n - 1, by omega⟩
    obtain ⟨n', rfl⟩ : ∃ k, n' = k + 1 := ⟨n' - 1, by omega⟩
    obtain rfl : i = s.size := by omega
    have ht : thingR s ⟨t, s.size, 0, 0, false, neg⟩ (decide (s.size = first)) = badR 2 s.size := by unfold thingR; rw [if_pos (Nat.le_refl _)]
    rw [loopD_short, loopR_err _ _ _ _ rfl (by rw [ht]; simp [badR]), ht]
    simp [finR, badR]
  | succ m ih =>
    intro n n' t i hm hf hi hn hn'
    by_cases hm' : s.size - i ≤ m
    · exact ih n n' t i hm' hf hi hn hn'
    obtain ⟨n, rfl⟩ : ∃ k, n = k + 1 := ⟨n - 1, by omega⟩
    obtain ⟨n', rfl⟩ : ∃ k, n' = k + 1 := ⟨n' - 1, by omega⟩
    have hlt : i < s.size := by omega
    -- what each kind of step leads to
    have onward : ∀ (u : BitVec 256) (p : Nat), i < p → p ≤ s.size → ¬ (bt s i = 93 ∧ first < i) → thingR s ⟨t, i, 0, 0, false, neg⟩ (decide (i = first)) = ⟨t ||| u, p, 0, 0, false, neg⟩ → thingD s i = okD u p →
        finR (loopR s (n + 1) ⟨t, i, 0, 0, false, neg⟩ (decide (i = first))) = finD neg (loopD s first (n' + 1) t i) := fun u p h1 h2 h3 hR hD => by
      rw [loopR_on _ _ _ _ rfl (by rw [hR]), hR, loopD_on _ _ _ _ _ hlt h3 (by rw [hD]; rfl), hD]
      have := ih n n' (t ||| u) p (by omega) (by omega) h2 (by omega) (by omega)
      rwa [decide_eq_false (by omega : ¬ p = first)] at this
    have wrong : ∀ (e p : Nat), ¬ (bt s i = 93 ∧ first < i) → thingR s ⟨t, i, 0, 0, false, neg⟩ (decide (i = first)) = badR (e + 1) p → (thingD s i).err = e + 1 → (thingD s i).fin = p →
        finR (loopR s (n + 1) ⟨t, i, 0, 0, false, neg⟩ (decide (i = first))) = finD neg (loopD s first (n' + 1) t i) := fun e p h3 hR hD hF => by
      rw [loopR_err _ _ _ _ rfl (by rw [hR]; simp [badR]), hR, loopD_bad _ _ _ _ _ hlt h3 (by rw [hD]; simp)]
      simp [finR, finD, badR, hD, hF]
    have tooShort : thingR s ⟨t, i, 0, 0, false, neg⟩ (decide (i = first)) = badR 2 s.size → finD neg (loopD s first (n' + 1) t i) = (0, 0, 2, s.size) →
        finR (loopR s (n + 1) ⟨t, i, 0, 0, false, neg⟩ (decide (i = first))) = finD neg (loopD s first (n' + 1) t i) := fun hR hD => by
      rw [loopR_err _ _ _ _ rfl (by rw [hR]; simp [badR]), hR, hD]
      simp [finR, badR]
    by_cases hE : bt s i = 93 ∧ first < i
    · have ht : thingR s ⟨t, i, 0, 0, false, neg⟩ (decide (i = first)) = ⟨t, i + 1, 0, 0, true, neg⟩ := by
        unfold thingR; simp only
        rw [if_neg (by omega), if_pos ⟨hE.1, decide_eq_false (by omega)⟩]
      rw [loopR_on _ _ _ _ rfl (by rw [ht]), ht, loopD_end _ _ _ _ _ hlt hE]
      have : loopR s n ⟨t, i + 1, 0, 0, true, neg⟩ false = ⟨t, i + 1, 0, 0, true, neg⟩ := by
        cases n with
        | zero => rfl
        | succ n => exact loopR_fin _ _ _ _ rfl
      rw [this]
      simp [finR, finD, okD]
    have hE' : ¬ (bt s i = 93 ∧ decide (i = first) = false) := fun h => hE ⟨h.1, by have := of_decide_eq_false h.2; omega⟩
    by_cases hL : s.size ≤ i + 1
    · refine tooShort (by unfold thingR; simp only; rw [if_neg (by omega), if_neg hE', if_pos hL]) ?_
      obtain ⟨n', rfl⟩ : ∃ k, n' = k + 1 := ⟨n' - 1, by omega⟩
      rw [loopD_on _ _ _ _ _ hlt hE (by rw [thingD_last s i hL]; rfl), thingD_last s i hL]
      simp only [okD]
      rw [show i + 1 = s.size by omega]
      exact loopD_short ..
    have h1 : i + 1 < s.size := by omega
    have n58 : ∀ b, isN s (i + 1) [b] = true ↔ bt s (i + 1) = b := fun b => by rw [isN_one]; exact ⟨fun h => h.2, fun h => ⟨h1, h⟩⟩
    have n46 : isN s (i + 1) [46, 61] = true ↔ (bt s (i + 1) = 46 ∨ bt s (i + 1) = 61) := by rw [isN_two]; exact ⟨fun h => h.2, fun h => ⟨h1, h⟩⟩
    by_cases hA : bt s i = 91 ∧ bt s (i + 1) = 58
    · have hR : thingR s ⟨t, i, 0, 0, false, neg⟩ (decide (i = first)) = toR ⟨t, i, 0, 0, false, neg⟩ (namedD s (i + 2)) := by
        unfold thingR; simp only
        rw [if_neg (by omega), if_neg hE', if_neg hL, if_pos hA, nameR_eq s (i + 2) _ _ _ rfl (Nat.le_refl _) (by omega)]
        rfl
      have hD : thingD s i = namedD s (i + 2) := by rw [thingD, if_pos ⟨hA.1, (n58 58).2 hA.2⟩]
      by_cases he : (namedD s (i + 2)).err = 0
      · have hok := namedD_ok s (i + 2) i (by omega) (by omega) he
        rw [loopR_on _ _ _ _ rfl (by rw [hR]; simp [toR, he]), hR, loopD_on _ _ _ _ _ hlt hE (by rw [hD]; exact he), hD]
        have := ih n n' (t ||| (namedD s (i + 2)).set) (namedD s (i + 2)).fin (by omega) (by omega) hok.2 (by omega) (by omega)
        rw [decide_eq_false (by omega : ¬ (namedD s (i + 2)).fin = first)] at this
        rw [← this]
        simp [toR, he]
      · obtain ⟨e, he'⟩ : ∃ e, (namedD s (i + 2)).err = e + 1 := ⟨(namedD s (i + 2)).err - 1, by omega⟩
        refine wrong e _ hE ?_ (by rw [hD]; exact he') rfl
        rw [hR, hD, toR, if_pos he, he']
    have hA1 : ¬ (bt s i = 91 ∧ isN s (i + 1) [58] = true) := fun h => hA ⟨h.1, (n58 58).1 h.2⟩
    by_cases hB : bt s i = 91 ∧ spec3 (bt s (i + 1)) = true
    · have h46 : bt s (i + 1) = 46 ∨ bt s (i + 1) = 61 := ((spec3_iff _).1 hB.2).resolve_left (fun h => hA ⟨hB.1, h⟩)
      have hD : thingD s i = badD 3 (i + 2) := by rw [thingD, if_neg hA1, if_pos ⟨hB.1, n46.2 h46⟩]
      refine wrong 2 (i + 2) hE ?_ (by rw [hD]; rfl) (by rw [hD]; rfl)
      unfold thingR; simp only
      rw [if_neg (by omega), if_neg hE', if_neg hL, if_neg hA, if_pos hB]
    have hB1 : ¬ (bt s i = 91 ∧ isN s (i + 1) [46, 61] = true) := fun h => hB ⟨h.1, (spec3_iff _).2 (.inr (n46.1 h.2))⟩
    by_cases hC : bt s (i + 1) ≠ 45
    · refine onward (range (bt s i) (bt s i)) (i + 1) (by omega) (by omega) hE ?_ (thingD_byte s i hA1 hB1 (fun h => hC ((n58 45).1 h.1.1)))
      unfold thingR; simp only
      rw [if_neg (by omega), if_neg hE', if_neg hL, if_neg hA, if_neg hB, if_pos hC]; rfl
    have hC' : bt s (i + 1) = 45 := Decidable.not_not.1 hC
    by_cases hG : s.size ≤ i + 2
    · refine tooShort (by unfold thingR; simp only; rw [if_neg (by omega), if_neg hE', if_neg hL, if_neg hA, if_neg hB, if_neg hC, if_pos hG]) ?_
      have hD := thingD_byte s i hA1 hB1 (fun h => by omega)
      obtain ⟨n', rfl⟩ : ∃ k, n' = k + 2 := ⟨n' - 2, by omega⟩
      rw [loopD_on _ _ _ _ _ hlt hE (by rw [hD]; rfl), hD]
      simp only [okD]
      have hE2 : ¬ (bt s (i + 1) = 93 ∧ first < i + 1) := fun h => by rw [hC'] at h; exact absurd h.1 (by decide)
      rw [loopD_on _ _ _ _ _ h1 hE2 (by rw [thingD_last s (i + 1) (by omega)]; rfl), thingD_last s (i + 1) (by omega)]
      simp only [okD]
      rw [show i + 1 + 1 = s.size by omega]
      exact loopD_short ..
    have h2 : i + 2 < s.size := by omega
    by_cases hH : bt s (i + 2) = 93
    · refine onward (range (bt s i) (bt s i)) (i + 1) (by omega) (by omega) hE ?_ (thingD_byte s i hA1 hB1 (fun h => h.2 hH))
      unfold thingR; simp only
      rw [if_neg (by omega), if_neg hE', if_neg hL, if_neg hA, if_neg hB, if_neg hC, if_neg hG, if_pos hH]; rfl
    have hDb : thingD s i = betweenD s i := by rw [thingD, if_neg hA1, if_neg hB1, if_pos ⟨⟨(n58 45).2 hC', h2⟩, hH⟩]
    by_cases hI : bt s (i + 2) < bt s i
    · have hD : thingD s i = badD 4 (i + 3) := by rw [hDb, betweenD, if_pos hI]
      refine wrong 3 (i + 3) hE ?_ (by rw [hD]; rfl) (by rw [hD]; rfl)
      unfold thingR; simp only
      rw [if_neg (by omega), if_neg hE', if_neg hL, if_neg hA, if_neg hB, if_neg hC, if_neg hG, if_neg hH, if_pos hI]
    by_cases hJ : bt s (i + 2) = 91 ∧ s.size ≤ i + 3
    · refine tooShort (by unfold thingR; simp only; rw [if_neg (by omega), if_neg hE', if_neg hL, if_neg hA, if_neg hB, if_neg hC, if_neg hG, if_neg hH, if_neg hI, if_pos hJ]) ?_
      have hD : thingD s i = okD (range (bt s i) (bt s (i + 2))) (i + 3) := by
        rw [hDb, betweenD, if_neg hI, if_neg (fun h => by rw [isN_far s _ _ hJ.2] at h; exact absurd h.2 (by decide))]
      obtain ⟨n', rfl⟩ : ∃ k, n' = k + 1 := ⟨n' - 1, by omega⟩
      rw [loopD_on _ _ _ _ _ hlt hE (by rw [hD]; rfl), hD]
      simp only [okD]
      rw [show i + 3 = s.size by omega]
      exact loopD_short ..
    by_cases hK : bt s (i + 2) = 91 ∧ spec3 (bt s (i + 3)) = true
    · have h3 : i + 3 < s.size := by
        have := hJ; rw [not_and] at this; have := this hK.1; omega
      have hD : thingD s i = badD 3 (i + 4) := by
        rw [hDb, betweenD, if_neg hI, if_pos ⟨hK.1, (isN_three _ _ _ _ _).2 ⟨h3, (spec3_iff _).1 hK.2⟩⟩]
      refine wrong 2 (i + 4) hE ?_ (by rw [hD]; rfl) (by rw [hD]; rfl)
      unfold thingR; simp only
      rw [if_neg (by omega), if_neg hE', if_neg hL, if_neg hA, if_neg hB, if_neg hC, if_neg hG, if_neg hH, if_neg hI, if_neg hJ, if_pos hK]
    · have hD : thingD s i = okD (range (bt s i) (bt s (i + 2))) (i + 3) := by
        rw [hDb, betweenD, if_neg hI, if_neg (fun h => hK ⟨h.1, (spec3_iff _).2 ((isN_three _ _ _ _ _).1 h.2).2⟩)]
      refine onward _ (i + 3) (by omega) (by omega) hE ?_ hD
      unfold thingR; simp only
      rw [if_neg (by omega), if_neg hE', if_neg hL, if_neg hA, if_neg hB, if_neg hC, if_neg hG, if_neg hH, if_neg hI, if_neg hJ, if_neg hK]; rfl

theorem readD_of (s : ByteArray) (at' : Int) (neg : Bool) (p : DP) (h : wholeD s at' = if neg = true then negD p else p) : readD s at' = finD neg p := by
  unfold readD finD
  rw [h]
  cases neg with
  | false => rfl
  | true => rfl
theorem wholeD_no (s : ByteArray) (k : Nat) (h : isN s k [91] = false) : wholeD s k = badD 1 0 := by
  unfold wholeD
  rw [if_neg (by omega), show (k : Int).toNat = k from rfl, if_pos h]
theorem wholeD_yes (s : ByteArray) (k : Nat) (h : isN s k [91] = true) : wholeD s k = if isN s (k + 1) [94] = false then thingsD s (k + 1) else negD (thingsD s (k + 2)) := by
  unfold wholeD
  rw [if_neg (by omega), show (k : Int).toNat = k from rfl, if_neg (by rw [h]; decide)]
theorem readR_no (s : ByteArray) (k : Nat) (h : isN s k [91] = false) : readR s k = (0, 0, 1, 0) := by
  unfold readR
  rw [if_neg (by omega), show (k : Int).toNat = k from rfl, if_pos]
  refine Decidable.byContradiction fun hc => ?_
  rw [not_or] at hc
  rw [(isN_one s k 91).2 ⟨by omega, Decidable.not_not.1 hc.2⟩] at h
  cases h
theorem readR_yes (s : ByteArray) (k : Nat) (h : isN s k [91] = true) : readR s k = finR (loopR s (s.size + 1) (startR s k) true) := by
  obtain ⟨h1, h2⟩ := (isN_one s k 91).1 h
  unfold readR
  rw [if_neg (by omega), show (k : Int).toNat = k from rfl, if_neg (by rw [h2]; omega)]

theorem readD_eq (s : ByteArray) (at' : Int) : readD s at' = readR s at' := by
  by_cases h0 : at' < 0
  · unfold readD wholeD readR
    rw [if_pos h0, if_pos h0]; simp [badD]
  obtain ⟨k, rfl⟩ : ∃ k : Nat, at' = k := ⟨at'.toNat, by omega⟩
  cases hc : isN s k [91] with
  | false => rw [readR_no s k hc, readD_of s k false (badD 1 0) (wholeD_no s k hc)]; simp [finD, badD]
  | true =>
    obtain ⟨h1, h2⟩ := (isN_one s k 91).1 hc
    rw [readR_yes s k hc]
    cases hd : isN s (k + 1) [94] with
    | false =>
      have hs : startR s k = ⟨0, k + 1, 0, 0, false, false⟩ := by
        rw [startR, if_neg (fun h => by rw [(isN_one s (k + 1) 94).2 h] at hd; cases hd)]
      have := loop_eq s (k + 1) false s.size (s.size + 1) (s.size + 1 - (k + 1)) 0 (k + 1) (by omega) (Nat.le_refl _) (by omega) (by omega) (by omega)
      rw [decide_eq_true rfl] at this
      rw [hs, this]
      exact readD_of s k false _ (by rw [wholeD_yes s k hc, if_pos hd]; rfl)
    | true =>
      have hd' := (isN_one s (k + 1) 94).1 hd
      have hs : startR s k = ⟨0, k + 2, 0, 0, false, true⟩ := by rw [startR, if_pos hd']
      have := loop_eq s (k + 2) true s.size (s.size + 1) (s.size + 1 - (k + 2)) 0 (k + 2) (by omega) (Nat.le_refl _) (by omega) (by omega) (by omega)
      rw [decide_eq_true rfl] at this
      rw [hs, this]
      exact readD_of s k true _ (by rw [wholeD_yes s k hc, if_neg (by rw [hd]; decide)]; rfl)
end Go.Proofs.YtkkhibamkdgffaaDoor

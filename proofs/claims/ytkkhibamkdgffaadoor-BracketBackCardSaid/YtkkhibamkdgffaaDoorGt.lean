/- What is read of a bracket hangs on the bytes up to where it ends alone. -/
import Derived.Test.YtkkhibamkdgffaaDoorGq
namespace Go.Proofs.YtkkhibamkdgffaaDoor
open Go.RowKit BS

/-- The first n bytes are the same. -/
def Agr (n : Nat) (s s' : ByteArray) : Prop := n ≤ s.size ∧ n ≤ s'.size ∧ ∀ i, i < n → bt s i = bt s' i
theorem Agr.le {n m : Nat} {s s' : ByteArray} (h : Agr n s s') (hm : m ≤ n) : Agr m s s' := ⟨by have := h.1; omega, by have := h.2.1; omega, fun i hi => h.2.2 i (by omega)⟩
theorem ext_agr {n : Nat} {s s' : ByteArray} (h : Agr n s s') (i j : Nat) (hj : j ≤ n) : s.extract i j = s'.extract i j := by
  have h1 := h.1
  have h2 := h.2.1
  apply ByteArray.ext
  apply Array.toList_inj.1
  rw [ByteArray.data_extract, ByteArray.data_extract, Array.toList_extract, Array.toList_extract]
  apply List.ext_getElem?
  intro k
  simp only [List.extract_eq_take_drop, List.getElem?_take, List.getElem?_drop]
  by_cases hk : k < j - i
  · simp only [hk, if_true]
    have hb := h.2.2 (i + k) (by omega)
    rw [bt_eq s _ (by omega), bt_eq s' _ (by omega)] at hb
    have e1 : i + k < s.data.toList.length := by have : s.data.toList.length = s.size := by simp
                                                 omega
    have e2 : i + k < s'.data.toList.length := by have : s'.data.toList.length = s'.size := by simp
                                                  omega
    rw [List.getElem?_eq_getElem e1, List.getElem?_eq_getElem e2]
    exact congrArg some (UInt8.toNat.inj hb)
  · simp only [hk, if_false]

/-- How many bytes tell what it is. -/
def cutB (r : BR) : Nat := if r.err = 0 then r.pos else r.place
theorem cut_bad (e p : Nat) : cutB (badR (e + 1) p) = p := by simp [cutB, badR]

theorem nameR_cut (s : ByteArray) (fr : Nat) (x : BR) (hx : x.err = 0) : ∀ n j, (nameR s fr x n j).err ≠ 2 → j < cutB (nameR s fr x n j)
  | 0, j, h => by simp [nameR, badR] at h
  | n + 1, j, h => by
    revert h
    rw [nameR]
    refine ite_ok (fun r : BR => r.err ≠ 2 → j < cutB r) (fun _ => ?_) (fun _ => ?_)
    · refine ite_ok (fun r : BR => r.err ≠ 2 → j < cutB r) (fun _ _ => by rw [cut_bad]; omega) (fun _ => ?_)
      refine ite_ok (fun r : BR => r.err ≠ 2 → j < cutB r) (fun _ h => absurd rfl h) (fun _ => ?_)
      refine ite_ok (fun r : BR => r.err ≠ 2 → j < cutB r) (fun _ _ => by rw [cut_bad]; omega) (fun _ _ => ?_)
      rw [cutB, if_pos hx]; simp only; omega
    · refine ite_ok (fun r : BR => r.err ≠ 2 → j < cutB r) (fun _ _ => by rw [cut_bad]; omega) (fun _ h => ?_)
      have := nameR_cut s fr x hx n (j + 1) h
      omega

theorem nameR_agr (s s' : ByteArray) (fr : Nat) (x : BR) (hx : x.err = 0) : ∀ n n' j, n = s.size - j → n' = s'.size - j → (nameR s fr x n j).err ≠ 2 → Agr (cutB (nameR s fr x n j)) s s' →
    nameR s' fr x n' j = nameR s fr x n j ∧ j < cutB (nameR s fr x n j)
  | 0, _, j, _, _, h, _ => by simp [nameR, badR] at h
  | n + 1, n', j, hn, hn', h, ha => by
    by_cases hc : bt s j = 58
    · by_cases h0 : ofB (s.extract fr j).toList = false
      · have e : nameR s fr x (n + 1) j = badR 5 (j + 1) := by rw [nameR, if_pos hc, if_pos h0]
        rw [e] at h ha ⊢
        rw [cut_bad] at ha ⊢
        have hs' := ha.2.1
        obtain ⟨m, rfl⟩ : ∃ m, n' = m + 1 := ⟨n' - 1, by omega⟩
        refine ⟨?_, by omega⟩
        rw [nameR, ← ha.2.2 j (by omega), if_pos hc, ← ext_agr ha fr j (by omega), if_pos h0]
      · by_cases h1 : s.size ≤ j + 1
        · have e : nameR s fr x (n + 1) j = badR 2 s.size := by rw [nameR, if_pos hc, if_neg h0, if_pos h1]
          rw [e] at h; simp [badR] at h
        · by_cases h2 : bt s (j + 1) ≠ 93
          · have e : nameR s fr x (n + 1) j = badR 3 (j + 2) := by rw [nameR, if_pos hc, if_neg h0, if_neg h1, if_pos h2]
            rw [e] at h ha ⊢
            rw [cut_bad] at ha ⊢
            have hs' := ha.2.1
            obtain ⟨m, rfl⟩ : ∃ m, n' = m + 1 := ⟨n' - 1, by omega⟩
            refine ⟨?_, by omega⟩
            rw [nameR, ← ha.2.2 j (by omega), if_pos hc, ← ext_agr ha fr j (by omega), if_neg h0, if_neg (by omega), ← ha.2.2 (j + 1) (by omega), if_pos h2]
          · have e : nameR s fr x (n + 1) j = ⟨x.set ||| ofS (s.extract fr j).toList, j + 2, x.err, x.place, x.fin, x.neg⟩ := by rw [nameR, if_pos hc, if_neg h0, if_neg h1, if_neg h2]
            have hcut : cutB (nameR s fr x (n + 1) j) = j + 2 := by rw [e, cutB, if_pos hx]
            rw [hcut] at ha ⊢
            have hs' := ha.2.1
            obtain ⟨m, rfl⟩ : ∃ m, n' = m + 1 := ⟨n' - 1, by omega⟩
            refine ⟨?_, by omega⟩
            rw [e, nameR, ← ha.2.2 j (by omega), if_pos hc, ← ext_agr ha fr j (by omega), if_neg h0, if_neg (by omega), ← ha.2.2 (j + 1) (by omega), if_neg h2]
    · by_cases h0 : begB (s.extract fr (j + 1)) = false
      · have e : nameR s fr x (n + 1) j = badR 5 (j + 1) := by rw [nameR, if_neg hc, if_pos h0]
        rw [e] at h ha ⊢
        rw [cut_bad] at ha ⊢
        have hs' := ha.2.1
        obtain ⟨m, rfl⟩ : ∃ m, n' = m + 1 := ⟨n' - 1, by omega⟩
        refine ⟨?_, by omega⟩
        rw [nameR, ← ha.2.2 j (by omega), if_neg hc, ← ext_agr ha fr (j + 1) (by omega), if_pos h0]
      · have e : nameR s fr x (n + 1) j = nameR s fr x n (j + 1) := by rw [nameR, if_neg hc, if_neg h0]
        rw [e] at h ha ⊢
        have hs' := ha.2.1
        have hlt := nameR_cut s fr x hx n (j + 1) h
        obtain ⟨m, rfl⟩ : ∃ m, n' = m + 1 := ⟨n' - 1, by omega⟩
        have ih := nameR_agr s s' fr x hx n m (j + 1) (by omega) (by omega) h ha
        refine ⟨?_, by omega⟩
        rw [nameR, ← ha.2.2 j (by omega), if_neg hc, ← ext_agr ha fr (j + 1) (by omega), if_neg h0]
        exact ih.1

/-- How many bytes are looked at. -/
def needR (s : ByteArray) (x : BR) (first : Bool) : Nat :=
  let i := x.pos
  if bt s i = 93 ∧ first = false then i + 1
  else if bt s i = 91 ∧ bt s (i + 1) = 58 then cutB (thingR s x first)
  else if bt s i = 91 ∧ spec3 (bt s (i + 1)) = true then i + 2
  else if bt s (i + 1) ≠ 45 then i + 2
  else if bt s (i + 2) = 93 then i + 3
  else if bt s (i + 2) < bt s i then i + 3
  else if bt s (i + 2) = 91 then i + 4
  else i + 3

theorem thingR_agr (s s' : ByteArray) (x : BR) (first : Bool) (hx : x.err = 0) (h : (thingR s x first).err ≠ 2) (ha : Agr (needR s x first) s s') : thingR s' x first = thingR s x first ∧ x.pos < needR s x first := by
  by_cases hA : s.size ≤ x.pos
  · have e : thingR s x first = badR 2 s.size := by unfold thingR; simp only [if_pos hA]
    rw [e] at h; simp [badR] at h
  by_cases hB : bt s x.pos = 93 ∧ first = false
  · have e : thingR s x first = ⟨x.set, x.pos + 1, x.err, x.place, true, x.neg⟩ := by unfold thingR; simp only [if_neg hA, if_pos hB]
    have en : needR s x first = x.pos + 1 := by unfold needR; simp only [if_pos hB]
    rw [en] at ha ⊢
    have hs' := ha.2.1
    have e0 := ha.2.2 x.pos (by omega)
    refine ⟨?_, by omega⟩
    rw [e]; unfold thingR
    simp only [← e0, if_neg (show ¬ s'.size ≤ x.pos by omega), if_pos hB]
  by_cases hC : s.size ≤ x.pos + 1
  · have e : thingR s x first = badR 2 s.size := by unfold thingR; simp only [if_neg hA, if_neg hB, if_pos hC]
    rw [e] at h; simp [badR] at h
  by_cases hD : bt s x.pos = 91 ∧ bt s (x.pos + 1) = 58
  · have e : thingR s x first = nameR s (x.pos + 2) x (s.size - (x.pos + 2)) (x.pos + 2) := by unfold thingR; simp only [if_neg hA, if_neg hB, if_neg hC, if_pos hD]
    have en : needR s x first = cutB (nameR s (x.pos + 2) x (s.size - (x.pos + 2)) (x.pos + 2)) := by rw [← e]; unfold needR; simp only [if_neg hB, if_pos hD]
    rw [en] at ha ⊢
    rw [e] at h
    have hs' := ha.2.1
    have hq := nameR_agr s s' (x.pos + 2) x hx _ (s'.size - (x.pos + 2)) (x.pos + 2) rfl rfl h ha
    have e0 := ha.2.2 x.pos (by omega)
    have e1 := ha.2.2 (x.pos + 1) (by omega)
    refine ⟨?_, by omega⟩
    rw [e, ← hq.1]; unfold thingR
    simp only [← e0, ← e1, if_neg (show ¬ s'.size ≤ x.pos by omega), if_neg hB, if_neg (show ¬ s'.size ≤ x.pos + 1 by omega), if_pos hD]
  by_cases hE : bt s x.pos = 91 ∧ spec3 (bt s (x.pos + 1)) = true
  · have e : thingR s x first = badR 3 (x.pos + 2) := by unfold thingR; simp only [if_neg hA, if_neg hB, if_neg hC, if_neg hD, if_pos hE]
    have en : needR s x first = x.pos + 2 := by unfold needR; simp only [if_neg hB, if_neg hD, if_pos hE]
    rw [en] at ha ⊢
    have hs' := ha.2.1
    have e0 := ha.2.2 x.pos (by omega)
    have e1 := ha.2.2 (x.pos + 1) (by omega)
    refine ⟨?_, by omega⟩
    rw [e]; unfold thingR
    simp only [← e0, ← e1, if_neg (show ¬ s'.size ≤ x.pos by omega), if_neg hB, if_neg (show ¬ s'.size ≤ x.pos + 1 by omega), if_neg hD, if_pos hE]
  by_cases hF : bt s (x.pos + 1) ≠ 45
  · have e : thingR s x first = addR x (bt s x.pos) (bt s x.pos) (x.pos + 1) := by unfold thingR; simp only [if_neg hA, if_neg hB, if_neg hC, if_neg hD, if_neg hE, if_pos hF]
    have en : needR s x first = x.pos + 2 := by unfold needR; simp only [if_neg hB, if_neg hD, if_neg hE, if_pos hF]
    rw [en] at ha ⊢
    have hs' := ha.2.1
    have e0 := ha.2.2 x.pos (by omega)
    have e1 := ha.2.2 (x.pos + 1) (by omega)
    refine ⟨?_, by omega⟩
    rw [e]; unfold thingR
    simp only [← e0, ← e1, if_neg (show ¬ s'.size ≤ x.pos by omega), if_neg hB, if_neg (show ¬ s'.size ≤ x.pos + 1 by omega), if_neg hD, if_neg hE, if_pos hF]
  by_cases hG : s.size ≤ x.pos + 2
  · have e : thingR s x first = badR 2 s.size := by unfold thingR; simp only [if_neg hA, if_neg hB, if_neg hC, if_neg hD, if_neg hE, if_neg hF, if_pos hG]
    rw [e] at h; simp [badR] at h
  by_cases hH : bt s (x.pos + 2) = 93
  · have e : thingR s x first = addR x (bt s x.pos) (bt s x.pos) (x.pos + 1) := by unfold thingR; simp only [if_neg hA, if_neg hB, if_neg hC, if_neg hD, if_neg hE, if_neg hF, if_neg hG, if_pos hH]
    have en : needR s x first = x.pos + 3 := by unfold needR; simp only [if_neg hB, if_neg hD, if_neg hE, if_neg hF, if_pos hH]
    rw [en] at ha ⊢
    have hs' := ha.2.1
    have e0 := ha.2.2 x.pos (by omega)
    have e1 := ha.2.2 (x.pos + 1) (by omega)
    have e2 := ha.2.2 (x.pos + 2) (by omega)
    refine ⟨?_, by omega⟩
    rw [e]; unfold thingR
    simp only [← e0, ← e1, ← e2, if_neg (show ¬ s'.size ≤ x.pos by omega), if_neg hB, if_neg (show ¬ s'.size ≤ x.pos + 1 by omega), if_neg hD, if_neg hE, if_neg hF, if_neg (show ¬ s'.size ≤ x.pos + 2 by omega), if_pos hH]
  by_cases hI : bt s (x.pos + 2) < bt s x.pos
  · have e : thingR s x first = badR 4 (x.pos + 3) := by unfold thingR; simp only [if_neg hA, if_neg hB, if_neg hC, if_neg hD, if_neg hE, if_neg hF, if_neg hG, if_neg hH, if_pos hI]
    have en : needR s x first = x.pos + 3 := by unfold needR; simp only [if_neg hB, if_neg hD, if_neg hE, if_neg hF, if_neg hH, if_pos hI]
    rw [en] at ha ⊢
    have hs' := ha.2.1
    have e0 := ha.2.2 x.pos (by omega)
    have e1 := ha.2.2 (x.pos + 1) (by omega)
    have e2 := ha.2.2 (x.pos + 2) (by omega)
    refine ⟨?_, by omega⟩
    rw [e]; unfold thingR
    simp only [← e0, ← e1, ← e2, if_neg (show ¬ s'.size ≤ x.pos by omega), if_neg hB, if_neg (show ¬ s'.size ≤ x.pos + 1 by omega), if_neg hD, if_neg hE, if_neg hF, if_neg (show ¬ s'.size ≤ x.pos + 2 by omega), if_neg hH, if_pos hI]
  by_cases hJ : bt s (x.pos + 2) = 91 ∧ s.size ≤ x.pos + 3
  · have e : thingR s x first = badR 2 s.size := by unfold thingR; simp only [if_neg hA, if_neg hB, if_neg hC, if_neg hD, if_neg hE, if_neg hF, if_neg hG, if_neg hH, if_neg hI, if_pos hJ]
    rw [e] at h; simp [badR] at h
  by_cases h91 : bt s (x.pos + 2) = 91
  · have en : needR s x first = x.pos + 4 := by unfold needR; simp only [if_neg hB, if_neg hD, if_neg hE, if_neg hF, if_neg hH, if_neg hI, if_pos h91]
    rw [en] at ha ⊢
    have hs' := ha.2.1
    have e0 := ha.2.2 x.pos (by omega)
    have e1 := ha.2.2 (x.pos + 1) (by omega)
    have e2 := ha.2.2 (x.pos + 2) (by omega)
    have e3 := ha.2.2 (x.pos + 3) (by omega)
    refine ⟨?_, by omega⟩
    unfold thingR
    simp only [← e0, ← e1, ← e2, ← e3, if_neg (show ¬ s'.size ≤ x.pos by omega), if_neg hA, if_neg hB, if_neg (show ¬ s'.size ≤ x.pos + 1 by omega), if_neg hC, if_neg hD, if_neg hE, if_neg hF, if_neg (show ¬ s'.size ≤ x.pos + 2 by omega), if_neg hG, if_neg hH, if_neg hI, if_neg hJ, if_neg (show ¬ (bt s (x.pos + 2) = 91 ∧ s'.size ≤ x.pos + 3) by omega)]
  · have en : needR s x first = x.pos + 3 := by unfold needR; simp only [if_neg hB, if_neg hD, if_neg hE, if_neg hF, if_neg hH, if_neg hI, if_neg h91]
    rw [en] at ha ⊢
    have hs' := ha.2.1
    have e0 := ha.2.2 x.pos (by omega)
    have e1 := ha.2.2 (x.pos + 1) (by omega)
    have e2 := ha.2.2 (x.pos + 2) (by omega)
    have n1 : ∀ q : Prop, ¬ (bt s (x.pos + 2) = 91 ∧ q) := fun q hq => h91 hq.1
    refine ⟨?_, by omega⟩
    unfold thingR
    simp only [← e0, ← e1, ← e2, if_neg (show ¬ s'.size ≤ x.pos by omega), if_neg hA, if_neg hB, if_neg (show ¬ s'.size ≤ x.pos + 1 by omega), if_neg hC, if_neg hD, if_neg hE, if_neg hF, if_neg (show ¬ s'.size ≤ x.pos + 2 by omega), if_neg hG, if_neg hH, if_neg hI, if_neg (n1 _)]
/-- What a thing comes to, and how many bytes it needs. -/
theorem thing_cases (s : ByteArray) (x : BR) (first : Bool) (h : (thingR s x first).err ≠ 2) :
    (thingR s x first = ⟨x.set, x.pos + 1, x.err, x.place, true, x.neg⟩ ∧ needR s x first = x.pos + 1) ∨
    (thingR s x first = nameR s (x.pos + 2) x (s.size - (x.pos + 2)) (x.pos + 2) ∧ needR s x first = cutB (thingR s x first)) ∨
    (∃ p, x.pos < p ∧ (thingR s x first = badR 3 p ∨ thingR s x first = badR 4 p) ∧ needR s x first = p) ∨
    (∃ lo hi, thingR s x first = addR x lo hi (x.pos + 1) ∧ needR s x first = x.pos + 2) ∨
    (∃ lo hi, thingR s x first = addR x lo hi (x.pos + 1) ∧ needR s x first = x.pos + 3 ∧ bt s (x.pos + 1) = 45 ∧ bt s (x.pos + 2) = 93) ∨
    (∃ lo hi, thingR s x first = addR x lo hi (x.pos + 3) ∧ x.pos < needR s x first ∧ needR s x first ≤ x.pos + 4) := by
  by_cases hA : s.size ≤ x.pos
  · have e : thingR s x first = badR 2 s.size := by unfold thingR; simp only [if_pos hA]
    rw [e] at h; simp [badR] at h
  by_cases hB : bt s x.pos = 93 ∧ first = false
  · exact .inl ⟨by unfold thingR; simp only [if_neg hA, if_pos hB], by unfold needR; simp only [if_pos hB]⟩
  by_cases hC : s.size ≤ x.pos + 1
  · have e : thingR s x first = badR 2 s.size := by unfold thingR; simp only [if_neg hA, if_neg hB, if_pos hC]
    rw [e] at h; simp [badR] at h
  by_cases hD : bt s x.pos = 91 ∧ bt s (x.pos + 1) = 58
  · exact .inr (.inl ⟨by unfold thingR; simp only [if_neg hA, if_neg hB, if_neg hC, if_pos hD], by unfold needR; simp only [if_neg hB, if_pos hD]⟩)
  by_cases hE : bt s x.pos = 91 ∧ spec3 (bt s (x.pos + 1)) = true
  · exact .inr (.inr (.inl ⟨x.pos + 2, by omega, .inl (by unfold thingR; simp only [if_neg hA, if_neg hB, if_neg hC, if_neg hD, if_pos hE]), by unfold needR; simp only [if_neg hB, if_neg hD, if_pos hE]⟩))
  by_cases hF : bt s (x.pos + 1) ≠ 45
  · exact .inr (.inr (.inr (.inl ⟨bt s x.pos, bt s x.pos, by unfold thingR; simp only [if_neg hA, if_neg hB, if_neg hC, if_neg hD, if_neg hE, if_pos hF], by unfold needR; simp only [if_neg hB, if_neg hD, if_neg hE, if_pos hF]⟩)))
  by_cases hG : s.size ≤ x.pos + 2
  · have e : thingR s x first = badR 2 s.size := by unfold thingR; simp only [if_neg hA, if_neg hB, if_neg hC, if_neg hD, if_neg hE, if_neg hF, if_pos hG]
    rw [e] at h; simp [badR] at h
  by_cases hH : bt s (x.pos + 2) = 93
  · exact .inr (.inr (.inr (.inr (.inl ⟨bt s x.pos, bt s x.pos, by unfold thingR; simp only [if_neg hA, if_neg hB, if_neg hC, if_neg hD, if_neg hE, if_neg hF, if_neg hG, if_pos hH], by unfold needR; simp only [if_neg hB, if_neg hD, if_neg hE, if_neg hF, if_pos hH], Decidable.not_not.1 hF, hH⟩))))
  by_cases hI : bt s (x.pos + 2) < bt s x.pos
  · exact .inr (.inr (.inl ⟨x.pos + 3, by omega, .inr (by unfold thingR; simp only [if_neg hA, if_neg hB, if_neg hC, if_neg hD, if_neg hE, if_neg hF, if_neg hG, if_neg hH, if_pos hI]), by unfold needR; simp only [if_neg hB, if_neg hD, if_neg hE, if_neg hF, if_neg hH, if_pos hI]⟩))
  by_cases hJ : bt s (x.pos + 2) = 91 ∧ s.size ≤ x.pos + 3
  · have e : thingR s x first = badR 2 s.size := by unfold thingR; simp only [if_neg hA, if_neg hB, if_neg hC, if_neg hD, if_neg hE, if_neg hF, if_neg hG, if_neg hH, if_neg hI, if_pos hJ]
    rw [e] at h; simp [badR] at h
  by_cases hK : bt s (x.pos + 2) = 91 ∧ spec3 (bt s (x.pos + 3)) = true
  · exact .inr (.inr (.inl ⟨x.pos + 4, by omega, .inl (by unfold thingR; simp only [if_neg hA, if_neg hB, if_neg hC, if_neg hD, if_neg hE, if_neg hF, if_neg hG, if_neg hH, if_neg hI, if_neg hJ, if_pos hK]), by unfold needR; simp only [if_neg hB, if_neg hD, if_neg hE, if_neg hF, if_neg hH, if_neg hI, if_pos hK.1]⟩))
  refine .inr (.inr (.inr (.inr (.inr ⟨bt s x.pos, bt s (x.pos + 2), by unfold thingR; simp only [if_neg hA, if_neg hB, if_neg hC, if_neg hD, if_neg hE, if_neg hF, if_neg hG, if_neg hH, if_neg hI, if_neg hJ, if_neg hK], ?_⟩))))
  by_cases h91 : bt s (x.pos + 2) = 91
  · rw [show needR s x first = x.pos + 4 from by unfold needR; simp only [if_neg hB, if_neg hD, if_neg hE, if_neg hF, if_neg hH, if_neg hI, if_pos h91]]; omega
  · rw [show needR s x first = x.pos + 3 from by unfold needR; simp only [if_neg hB, if_neg hD, if_neg hE, if_neg hF, if_neg hH, if_neg hI, if_neg h91]]; omega

theorem needR_pos (s : ByteArray) (x : BR) (first : Bool) (hx : x.err = 0) (h : (thingR s x first).err ≠ 2) : x.pos < needR s x first := by
  rcases thing_cases s x first h with ⟨_, e⟩ | ⟨e1, e⟩ | ⟨p, hp, _, e⟩ | ⟨_, _, _, e⟩ | ⟨_, _, _, e, _⟩ | ⟨_, _, _, e, _⟩
  · omega
  · rw [e, e1]
    rw [e1] at h
    have := nameR_cut s (x.pos + 2) x hx _ _ h
    omega
  · omega
  · omega
  · omega
  · omega

/-- All that is needed lies ahead of the end. -/
theorem need_le (s : ByteArray) : ∀ (n : Nat) (x : BR) (first : Bool), x.err = 0 → x.fin = false → x.pos ≤ s.size → s.size ≤ n + x.pos → (loopR s (n + 1) x first).err ≠ 2 →
    (thingR s x first).err ≠ 2 ∧ needR s x first ≤ cutB (loopR s (n + 1) x first) ∧ ((loopR s (n + 1) x first).fin = true ∨ (loopR s (n + 1) x first).err ≠ 0)
  | n, x, first, hx, hf, hp, hn, h => by
    by_cases he : (thingR s x first).err = 0
    · have hok := thingR_ok s x first he
      rw [loopR_on s n x first hf he] at h ⊢
      have h2 : (thingR s x first).err ≠ 2 := by rw [he]; decide
      refine ⟨h2, ?_⟩
      by_cases hfin : (thingR s x first).fin = true
      · have e : loopR s n (thingR s x first) false = thingR s x first := by
          cases n with
          | zero => rfl
          | succ m => exact loopR_fin s m _ _ hfin
        rw [e]
        refine ⟨?_, .inl hfin⟩
        have hcut : cutB (thingR s x first) = (thingR s x first).pos := by rw [cutB, if_pos he]
        rcases thing_cases s x first h2 with ⟨e1, e⟩ | ⟨e1, e⟩ | ⟨p, hp, e1 | e1, e⟩ | ⟨lo, hi, e1, e⟩ | ⟨lo, hi, e1, e, _⟩ | ⟨lo, hi, e1, e, _⟩
        · rw [hcut, e, e1]; exact Nat.le_refl _
        · rw [e]; exact Nat.le_refl _
        · rw [e1] at he; simp [badR] at he
        · rw [e1] at he; simp [badR] at he
        · rw [e1] at hfin; simp [addR, hf] at hfin
        · rw [e1] at hfin; simp [addR, hf] at hfin
        · rw [e1] at hfin; simp [addR, hf] at hfin
      · have hfin' : (thingR s x first).fin = false := by simpa using hfin
        obtain ⟨m, rfl⟩ : ∃ m, n = m + 1 := ⟨n - 1, by omega⟩
        have ih := need_le s m (thingR s x first) false he hfin' hok.2.1 (by omega) h
        have hnp := needR_pos s (thingR s x first) false he ih.1
        refine ⟨?_, ih.2.2⟩
        have ih2 := ih.2.1
        rcases thing_cases s x first h2 with ⟨e1, e⟩ | ⟨e1, e⟩ | ⟨p, hp, e1 | e1, e⟩ | ⟨lo, hi, e1, e⟩ | ⟨lo, hi, e1, e, h45, h93⟩ | ⟨lo, hi, e1, _, e⟩
        · rw [e1] at hfin'; simp at hfin'
        · have hcut : cutB (thingR s x first) = (thingR s x first).pos := by rw [cutB, if_pos he]
          omega
        · rw [e1] at he; simp [badR] at he
        · rw [e1] at he; simp [badR] at he
        · have hp1 : (thingR s x first).pos = x.pos + 1 := by rw [e1]; rfl
          omega
        · have hp1 : (thingR s x first).pos = x.pos + 1 := by rw [e1]; rfl
          have hq : needR s (thingR s x first) false = x.pos + 3 := by
            unfold needR
            simp only [hp1, h45, show x.pos + 1 + 1 = x.pos + 2 from rfl, h93]
            simp
          omega
        · have hp1 : (thingR s x first).pos = x.pos + 3 := by rw [e1]; rfl
          omega
    · rw [loopR_err s n x first hf he] at h ⊢
      refine ⟨h, ?_, .inr he⟩
      rcases thing_cases s x first h with ⟨e1, e⟩ | ⟨e1, e⟩ | ⟨p, hp, e1 | e1, e⟩ | ⟨lo, hi, e1, e⟩ | ⟨lo, hi, e1, e, _⟩ | ⟨lo, hi, e1, e, _⟩
      · rw [e1] at he; exact absurd hx he
      · rw [e]; exact Nat.le_refl _
      · rw [e, e1, cut_bad]; exact Nat.le_refl _
      · rw [e, e1, cut_bad]; exact Nat.le_refl _
      · rw [e1] at he; exact absurd hx he
      · rw [e1] at he; exact absurd hx he
      · rw [e1] at he; exact absurd hx he

theorem loopR_fuel (s : ByteArray) : ∀ (n m : Nat) (x : BR) (first : Bool), s.size < n + x.pos → x.pos ≤ s.size ∨ x.fin = true → n ≤ m → 0 < n → loopR s n x first = loopR s m x first
  | 0, _, _, _, _, _, _, h => absurd h (Nat.lt_irrefl 0)
  | n + 1, m, x, first, hn, hp, hm, _ => by
    obtain ⟨m, rfl⟩ : ∃ m', m = m' + 1 := ⟨m - 1, by omega⟩
    by_cases hf : x.fin = true
    · rw [loopR_fin _ _ _ _ hf, loopR_fin _ _ _ _ hf]
    · have hf' : x.fin = false := by simpa using hf
      by_cases he : (thingR s x first).err = 0
      · have hok := thingR_ok s x first he
        rw [loopR_on _ _ _ _ hf' he, loopR_on _ _ _ _ hf' he]
        by_cases hn0 : n = 0
        · have : x.pos ≤ s.size := hp.resolve_right hf
          omega
        · exact loopR_fuel s n m _ false (by omega) (.inl hok.2.1) (by omega) (by omega)
      · rw [loopR_err _ _ _ _ hf' he, loopR_err _ _ _ _ hf' he]

theorem loopR_more (s : ByteArray) : ∀ (n m : Nat) (x : BR) (first : Bool), x.err = 0 → n ≤ m → ((loopR s n x first).fin = true ∨ (loopR s n x first).err ≠ 0) → loopR s m x first = loopR s n x first
  | 0, m, x, first, hx, _, h => by
    have hf : x.fin = true := h.resolve_right (fun he => he hx)
    cases m with
    | zero => rfl
    | succ m => rw [loopR_fin _ _ _ _ hf]; rfl
  | n + 1, m, x, first, hx, hm, h => by
    obtain ⟨m, rfl⟩ : ∃ m', m = m' + 1 := ⟨m - 1, by omega⟩
    by_cases hf : x.fin = true
    · rw [loopR_fin _ _ _ _ hf, loopR_fin _ _ _ _ hf]
    · have hf' : x.fin = false := by simpa using hf
      by_cases he : (thingR s x first).err = 0
      · rw [loopR_on _ _ _ _ hf' he] at h ⊢
        rw [loopR_on _ _ _ _ hf' he]
        exact loopR_more s n m _ false he (by omega) h
      · rw [loopR_err _ _ _ _ hf' he, loopR_err _ _ _ _ hf' he]

theorem loopR_agr (s s' : ByteArray) : ∀ (n : Nat) (x : BR) (first : Bool), x.err = 0 → x.fin = false → x.pos ≤ s.size → s.size ≤ n + x.pos → (loopR s (n + 1) x first).err ≠ 2 → Agr (cutB (loopR s (n + 1) x first)) s s' →
    loopR s' (n + 1) x first = loopR s (n + 1) x first
  | n, x, first, hx, hf, hp, hn, h, ha => by
    have hne := need_le s n x first hx hf hp hn h
    have hth := (thingR_agr s s' x first hx hne.1 (ha.le hne.2.1)).1
    by_cases he : (thingR s x first).err = 0
    · have he' : (thingR s' x first).err = 0 := by rw [hth]; exact he
      have hok := thingR_ok s x first he
      rw [loopR_on s n x first hf he] at h ha ⊢
      rw [loopR_on s' n x first hf he', hth]
      by_cases hfin : (thingR s x first).fin = true
      · cases n with
        | zero => rfl
        | succ m => rw [loopR_fin _ _ _ _ hfin, loopR_fin _ _ _ _ hfin]
      · have hfin' : (thingR s x first).fin = false := by simpa using hfin
        obtain ⟨m, rfl⟩ : ∃ m, n = m + 1 := ⟨n - 1, by omega⟩
        exact loopR_agr s s' m _ false he hfin' hok.2.1 (by omega) h ha
    · have he' : (thingR s' x first).err ≠ 0 := by rw [hth]; exact he
      rw [loopR_err s n x first hf he, loopR_err s' n x first hf he', hth]

theorem startR_pos' (s : ByteArray) (a : Nat) (h : a < s.size) : (startR s a).pos ≤ s.size ∧ (startR s a).err = 0 ∧ (startR s a).fin = false ∧ (startR s a).place = 0 := by
  unfold startR
  split <;> exact ⟨by simp only; omega, rfl, rfl, rfl⟩
/-- What is read: set, end, error, place: how many bytes tell it. -/
def cutT (r : BitVec 256 × Nat × Nat × Nat) : Nat := if r.2.2.1 = 0 then r.2.1 else r.2.2.2
theorem finR_cut (x : BR) : cutT (finR x) = cutB x := by
  unfold cutT finR cutB
  by_cases h : x.err = 0
  · rw [if_neg (show ¬ x.err ≠ 0 by omega), if_pos h]; rfl
  · rw [if_pos (show x.err ≠ 0 from h), if_neg h]; simp only; rw [if_neg h]
theorem finR_err (x : BR) : (finR x).2.2.1 = x.err := by
  unfold finR
  by_cases h : x.err = 0
  · rw [if_neg (show ¬ x.err ≠ 0 by omega), h]
  · rw [if_pos (show x.err ≠ 0 from h)]

theorem startR_agr (s s' : ByteArray) (a : Nat) (n : Nat) (h : Agr n s s') (hn : a + 2 ≤ n) : startR s' a = startR s a := by
  have h1 := h.1
  have h2 := h.2.1
  unfold startR
  rw [← h.2.2 (a + 1) (by omega)]
  simp only [show a + 1 < s.size by omega, show a + 1 < s'.size by omega]

/-- **What is wrong, or a bracket, is told by the bytes up to there.** -/
theorem readR_agr (s s' : ByteArray) (at' : Int) (h1 : (readR s at').2.2.1 ≠ 1) (h2 : (readR s at').2.2.1 ≠ 2) (ha : Agr (cutT (readR s at')) s s') : readR s' at' = readR s at' := by
  unfold readR at h1 h2 ha ⊢
  by_cases q : at' < 0
  · rw [if_pos q] at h1; exact absurd rfl h1
  rw [if_neg q] at h1 h2 ha ⊢
  rw [if_neg q]
  by_cases q2 : s.size ≤ at'.toNat ∨ bt s at'.toNat ≠ 91
  · rw [if_pos q2] at h1; exact absurd rfl h1
  rw [if_neg q2] at h1 h2 ha ⊢
  rw [finR_cut] at ha
  rw [finR_err] at h2
  generalize at'.toNat = a at *
  have hlt : a < s.size := by omega
  obtain ⟨p1, p2, p3, _⟩ := startR_pos' s a hlt
  have hne := need_le s s.size (startR s a) true p2 p3 p1 (by omega) h2
  have hnp := needR_pos s (startR s a) true p2 hne.1
  have hst : a + 1 ≤ (startR s a).pos := by unfold startR; split <;> simp
  have hs' := ha.2.1
  have e0 := ha.2.2 a (by omega)
  have q2' : ¬ (s'.size ≤ a ∨ bt s' a ≠ 91) := by rw [← e0]; omega
  rw [if_neg q2', startR_agr s s' a _ ha (by omega)]
  have hl := loopR_agr s s' s.size (startR s a) true p2 p3 p1 (by omega) h2 ha
  have hf : loopR s' (s'.size + 1) (startR s a) true = loopR s' (s.size + 1) (startR s a) true := by
    rcases Nat.le_total s.size s'.size with hle | hle
    · exact loopR_more s' (s.size + 1) (s'.size + 1) _ true p2 (by omega) (by rw [hl]; exact hne.2.2)
    · exact loopR_fuel s' (s'.size + 1) (s.size + 1) _ true (by omega) (.inl (by omega)) (by omega) (by omega)
  rw [hf, hl]
end Go.Proofs.YtkkhibamkdgffaaDoor

/- Texts put together: Gt Gu Gv Gw Vp Gx Vq Pb. -/
import Derived.Test.YtldaaelmifbbhaaGreatPB
import Derived.Test.YtldaaelmifbbhaaGreatPH
import Derived.Test.YtldaaelmifbbhaaGreatPF
import Derived.Test.YtldaaelmifbbhaaGreatPC
import Derived.Test.YtldaaelmifbbhaaGreatPJ
/- What is read of a bracket hangs on the bytes up to where it ends alone. -/
namespace Go.Proofs.YtldaaelmifbbhaaGreat
open Go.RowKit BS

/-- How many bytes tell what it is. -/
def cutB (r : BR) : Nat := if r.err = 0 then r.pos else r.place
theorem cut_bad (e p : Nat) : cutB (badR (e + 1) p) = p := by simp [cutB, badR]

theorem nameR_cut (s : ByteArray) (fr : Nat) (x : BR) (hx : x.err = 0) : ∀ n j, (nameR s fr x n j).err ≠ 2 → j < cutB (nameR s fr x n j)
  | 0, j, h => by simp [nameR, badR] at h
  | n + 1, j, h => by
    revert h
    rw [nameR]
    refine ite_ok (fun r : BR => r.err ≠ 2 → j < cutB r) (fun _ => ?_) (fun _ => ?_)
    · refine ite_ok (fun r : BR => r.err ≠ 2 → j < cutB r) (fun _ _ => by rw [cut_bad]; omega) (fun _ => ?_)
      refine ite_ok (fun r : BR => r.err ≠ 2 → j < cutB r) (fun _ h => absurd rfl h) (fun _ => ?_)
      refine ite_ok (fun r : BR => r.err ≠ 2 → j < cutB r) (fun _ _ => by rw [cut_bad]; omega) (fun _ _ => ?_)
      rw [cutB, if_pos hx]; simp only; omega
    · refine ite_ok (fun r : BR => r.err ≠ 2 → j < cutB r) (fun _ _ => by rw [cut_bad]; omega) (fun _ h => ?_)
      have := nameR_cut s fr x hx n (j + 1) h
      omega

theorem nameR_agr (s s' : ByteArray) (fr : Nat) (x : BR) (hx : x.err = 0) : ∀ n n' j, n = s.size - j → n' = s'.size - j → (nameR s fr x n j).err ≠ 2 → Agr (cutB (nameR s fr x n j)) s s' →
    nameR s' fr x n' j = nameR s fr x n j ∧ j < cutB (nameR s fr x n j)
  | 0, _, j, _, _, h, _ => by simp [nameR, badR] at h
  | n + 1, n', j, hn, hn', h, ha => by
    by_cases hc : bt s j = 58
    · by_cases h0 : ofB (s.extract fr j).toList = false
      · have e : nameR s fr x (n + 1) j = badR 5 (j + 1) := by rw [nameR, if_pos hc, if_pos h0]
        rw [e] at h ha ⊢
        rw [cut_bad] at ha ⊢
        have hs' := ha.2.1
        obtain ⟨m, rfl⟩ : ∃ m, n' = m + 1 := ⟨n' - 1, by omega⟩
        refine ⟨?_, by omega⟩
        rw [nameR, ← ha.2.2 j (by omega), if_pos hc, ← ext_agr ha fr j (by omega), if_pos h0]
      · by_cases h1 : s.size ≤ j + 1
        · have e : nameR s fr x (n + 1) j = badR 2 s.size := by rw [nameR, if_pos hc, if_neg h0, if_pos h1]
          rw [e] at h; simp [badR] at h
        · by_cases h2 : bt s (j + 1) ≠ 93
          · have e : nameR s fr x (n + 1) j = badR 3 (j + 2) := by rw [nameR, if_pos hc, if_neg h0, if_neg h1, if_pos h2]
            rw [e] at h ha ⊢
            rw [cut_bad] at ha ⊢
            have hs' := ha.2.1
            obtain ⟨m, rfl⟩ : ∃ m, n' = m + 1 := ⟨n' - 1, by omega⟩
            refine ⟨?_, by omega⟩
            rw [nameR, ← ha.2.2 j (by omega), if_pos hc, ← ext_agr ha fr j (by omega), if_neg h0, if_neg (by omega), ← ha.2.2 (j + 1) (by omega), if_pos h2]
          · have e : nameR s fr x (n + 1) j = ⟨x.set ||| ofS (s.extract fr j).toList, j + 2, x.err, x.place, x.fin, x.neg⟩ := by rw [nameR, if_pos hc, if_neg h0, if_neg h1, if_neg h2]
            have hcut : cutB (nameR s fr x (n + 1) j) = j + 2 := by rw [e, cutB, if_pos hx]
            rw [hcut] at ha ⊢
            have hs' := ha.2.1
            obtain ⟨m, rfl⟩ : ∃ m, n' = m + 1 := ⟨n' - 1, by omega⟩
            refine ⟨?_, by omega⟩
            rw [e, nameR, ← ha.2.2 j (by omega), if_pos hc, ← ext_agr ha fr j (by omega), if_neg h0, if_neg (by omega), ← ha.2.2 (j + 1) (by omega), if_neg h2]
    · by_cases h0 : begB (s.extract fr (j + 1)) = false
      · have e : nameR s fr x (n + 1) j = badR 5 (j + 1) := by rw [nameR, if_neg hc, if_pos h0]
        rw [e] at h ha ⊢
        rw [cut_bad] at ha ⊢
        have hs' := ha.2.1
        obtain ⟨m, rfl⟩ : ∃ m, n' = m + 1 := ⟨n' - 1, by omega⟩
        refine ⟨?_, by omega⟩
        rw [nameR, ← ha.2.2 j (by omega), if_neg hc, ← ext_agr ha fr (j + 1) (by omega), if_pos h0]
      · have e : nameR s fr x (n + 1) j = nameR s fr x n (j + 1) := by rw [nameR, if_neg hc, if_neg h0]
        rw [e] at h ha ⊢
        have hs' := ha.2.1
        have hlt := nameR_cut s fr x hx n (j + 1) h
        obtain ⟨m, rfl⟩ : ∃ m, n' = m + 1 := ⟨n' - 1, by omega⟩
        have ih := nameR_agr s s' fr x hx n m (j + 1) (by omega) (by omega) h ha
        refine ⟨?_, by omega⟩
        rw [nameR, ← ha.2.2 j (by omega), if_neg hc, ← ext_agr ha fr (j + 1) (by omega), if_neg h0]
        exact ih.1

/-- How many bytes are looked at. -/
def needR (s : ByteArray) (x : BR) (first : Bool) : Nat :=
  let i := x.pos
  if bt s i = 93 ∧ first = false then i + 1
  else if bt s i = 91 ∧ bt s (i + 1) = 58 then cutB (thingR s x first)
  else if bt s i = 91 ∧ spec3 (bt s (i + 1)) = true then i + 2
  else if bt s (i + 1) ≠ 45 then i + 2
  else if bt s (i + 2) = 93 then i + 3
  else if bt s (i + 2) < bt s i then i + 3
  else if bt s (i + 2) = 91 then i + 4
  else i + 3

theorem thingR_agr (s s' : ByteArray) (x : BR) (first : Bool) (hx : x.err = 0) (h : (thingR s x first).err ≠ 2) (ha : Agr (needR s x first) s s') : thingR s' x first = thingR s x first ∧ x.pos < needR s x first := by
  by_cases hA : s.size ≤ x.pos
  · have e : thingR s x first = badR 2 s.size := by unfold thingR; simp only [if_pos hA]
    rw [e] at h; simp [badR] at h
  by_cases hB : bt s x.pos = 93 ∧ first = false
  · have e : thingR s x first = ⟨x.set, x.pos + 1, x.err, x.place, true, x.neg⟩ := by unfold thingR; simp only [if_neg hA, if_pos hB]
    have en : needR s x first = x.pos + 1 := by unfold needR; simp only [if_pos hB]
    rw [en] at ha ⊢
    have hs' := ha.2.1
    have e0 := ha.2.2 x.pos (by omega)
    refine ⟨?_, by omega⟩
    rw [e]; unfold thingR
    simp only [← e0, if_neg (show ¬ s'.size ≤ x.pos by omega), if_pos hB]
  by_cases hC : s.size ≤ x.pos + 1
  · have e : thingR s x first = badR 2 s.size := by unfold thingR; simp only [if_neg hA, if_neg hB, if_pos hC]
    rw [e] at h; simp [badR] at h
  by_cases hD : bt s x.pos = 91 ∧ bt s (x.pos + 1) = 58
  · have e : thingR s x first = nameR s (x.pos + 2) x (s.size - (x.pos + 2)) (x.pos + 2) := by unfold thingR; simp only [if_neg hA, if_neg hB, if_neg hC, if_pos hD]
    have en : needR s x first = cutB (nameR s (x.pos + 2) x (s.size - (x.pos + 2)) (x.pos + 2)) := by rw [← e]; unfold needR; simp only [if_neg hB, if_pos hD]
    rw [en] at ha ⊢
    rw [e] at h
    have hs' := ha.2.1
    have hq := nameR_agr s s' (x.pos + 2) x hx _ (s'.size - (x.pos + 2)) (x.pos + 2) rfl rfl h ha
    have e0 := ha.2.2 x.pos (by omega)
    have e1 := ha.2.2 (x.pos + 1) (by omega)
    refine ⟨?_, by omega⟩
    rw [e, ← hq.1]; unfold thingR
    simp only [← e0, ← e1, if_neg (show ¬ s'.size ≤ x.pos by omega), if_neg hB, if_neg (show ¬ s'.size ≤ x.pos + 1 by omega), if_pos hD]
  by_cases hE : bt s x.pos = 91 ∧ spec3 (bt s (x.pos + 1)) = true
  · have e : thingR s x first = badR 3 (x.pos + 2) := by unfold thingR; simp only [if_neg hA, if_neg hB, if_neg hC, if_neg hD, if_pos hE]
    have en : needR s x first = x.pos + 2 := by unfold needR; simp only [if_neg hB, if_neg hD, if_pos hE]
    rw [en] at ha ⊢
    have hs' := ha.2.1
    have e0 := ha.2.2 x.pos (by omega)
    have e1 := ha.2.2 (x.pos + 1) (by omega)
    refine ⟨?_, by omega⟩
    rw [e]; unfold thingR
    simp only [← e0, ← e1, if_neg (show ¬ s'.size ≤ x.pos by omega), if_neg hB, if_neg (show ¬ s'.size ≤ x.pos + 1 by omega), if_neg hD, if_pos hE]
  by_cases hF : bt s (x.pos + 1) ≠ 45
  · have e : thingR s x first = addR x (bt s x.pos) (bt s x.pos) (x.pos + 1) := by unfold thingR; simp only [if_neg hA, if_neg hB, if_neg hC, if_neg hD, if_neg hE, if_pos hF]
    have en : needR s x first = x.pos + 2 := by unfold needR; simp only [if_neg hB, if_neg hD, if_neg hE, if_pos hF]
    rw [en] at ha ⊢
    have hs' := ha.2.1
    have e0 := ha.2.2 x.pos (by omega)
    have e1 := ha.2.2 (x.pos + 1) (by omega)
    refine ⟨?_, by omega⟩
    rw [e]; unfold thingR
    simp only [← e0, ← e1, if_neg (show ¬ s'.size ≤ x.pos by omega), if_neg hB, if_neg (show ¬ s'.size ≤ x.pos + 1 by omega), if_neg hD, if_neg hE, if_pos hF]
  by_cases hG : s.size ≤ x.pos + 2
  · have e : thingR s x first = badR 2 s.size := by unfold thingR; simp only [if_neg hA, if_neg hB, if_neg hC, if_neg hD, if_neg hE, if_neg hF, if_pos hG]
    rw [e] at h; simp [badR] at h
  by_cases hH : bt s (x.pos + 2) = 93
  · have e : thingR s x first = addR x (bt s x.pos) (bt s x.pos) (x.pos + 1) := by unfold thingR; simp only [if_neg hA, if_neg hB, if_neg hC, if_neg hD, if_neg hE, if_neg hF, if_neg hG, if_pos hH]
    have en : needR s x first = x.pos + 3 := by unfold needR; simp only [if_neg hB, if_neg hD, if_neg hE, if_neg hF, if_pos hH]
    rw [en] at ha ⊢
    have hs' := ha.2.1
    have e0 := ha.2.2 x.pos (by omega)
    have e1 := ha.2.2 (x.pos + 1) (by omega)
    have e2 := ha.2.2 (x.pos + 2) (by omega)
    refine ⟨?_, by omega⟩
    rw [e]; unfold thingR
    simp only [← e0, ← e1, ← e2, if_neg (show ¬ s'.size ≤ x.pos by omega), if_neg hB, if_neg (show ¬ s'.size ≤ x.pos + 1 by omega), if_neg hD, if_neg hE, if_neg hF, if_neg (show ¬ s'.size ≤ x.pos + 2 by omega), if_pos hH]
  by_cases hI : bt s (x.pos + 2) < bt s x.pos
  · have e : thingR s x first = badR 4 (x.pos + 3) := by unfold thingR; simp only [if_neg hA, if_neg hB, if_neg hC, if_neg hD, if_neg hE, if_neg hF, if_neg hG, if_neg hH, if_pos hI]
    have en : needR s x first = x.pos + 3 := by unfold needR; simp only [if_neg hB, if_neg hD, if_neg hE, if_neg hF, if_neg hH, if_pos hI]
    rw [en] at ha ⊢
    have hs' := ha.2.1
    have e0 := ha.2.2 x.pos (by omega)
    have e1 := ha.2.2 (x.pos + 1) (by omega)
    have e2 := ha.2.2 (x.pos + 2) (by omega)
    refine ⟨?_, by omega⟩
    rw [e]; unfold thingR
    simp only [← e0, ← e1, ← e2, if_neg (show ¬ s'.size ≤ x.pos by omega), if_neg hB, if_neg (show ¬ s'.size ≤ x.pos + 1 by omega), if_neg hD, if_neg hE, if_neg hF, if_neg (show ¬ s'.size ≤ x.pos + 2 by omega), if_neg hH, if_pos hI]
  by_cases hJ : bt s (x.pos + 2) = 91 ∧ s.size ≤ x.pos + 3
  · have e : thingR s x first = badR 2 s.size := by unfold thingR; simp only [if_neg hA, if_neg hB, if_neg hC, if_neg hD, if_neg hE, if_neg hF, if_neg hG, if_neg hH, if_neg hI, if_pos hJ]
    rw [e] at h; simp [badR] at h
  by_cases h91 : bt s (x.pos + 2) = 91
  · have en : needR s x first = x.pos + 4 := by unfold needR; simp only [if_neg hB, if_neg hD, if_neg hE, if_neg hF, if_neg hH, if_neg hI, if_pos h91]
    rw [en] at ha ⊢
    have hs' := ha.2.1
    have e0 := ha.2.2 x.pos (by omega)
    have e1 := ha.2.2 (x.pos + 1) (by omega)
    have e2 := ha.2.2 (x.pos + 2) (by omega)
    have e3 := ha.2.2 (x.pos + 3) (by omega)
    refine ⟨?_, by omega⟩
    unfold thingR
    simp only [← e0, ← e1, ← e2, ← e3, if_neg (show ¬ s'.size ≤ x.pos by omega), if_neg hA, if_neg hB, if_neg (show ¬ s'.size ≤ x.pos + 1 by omega), if_neg hC, if_neg hD, if_neg hE, if_neg hF, if_neg (show ¬ s'.size ≤ x.pos + 2 by omega), if_neg hG, if_neg hH, if_neg hI, if_neg hJ, if_neg (show ¬ (bt s (x.pos + 2) = 91 ∧ s'.size ≤ x.pos + 3) by omega)]
  · have en : needR s x first = x.pos + 3 := by unfold needR; simp only [if_neg hB, if_neg hD, if_neg hE, if_neg hF, if_neg hH, if_neg hI, if_neg h91]
    rw [en] at ha ⊢
    have hs' := ha.2.1
    have e0 := ha.2.2 x.pos (by omega)
    have e1 := ha.2.2 (x.pos + 1) (by omega)
    have e2 := ha.2.2 (x.pos + 2) (by omega)
    have n1 : ∀ q : Prop, ¬ (bt s (x.pos + 2) = 91 ∧ q) := fun q hq => h91 hq.1
    refine ⟨?_, by omega⟩
    unfold thingR
    simp only [← e0, ← e1, ← e2, if_neg (show ¬ s'.size ≤ x.pos by omega), if_neg hA, if_neg hB, if_neg (show ¬ s'.size ≤ x.pos + 1 by omega), if_neg hC, if_neg hD, if_neg hE, if_neg hF, if_neg (show ¬ s'.size ≤ x.pos + 2 by omega), if_neg hG, if_neg hH, if_neg hI, if_neg (n1 _)]
/-- What a thing comes to, and how many bytes it needs. -/
theorem thing_cases (s : ByteArray) (x : BR) (first : Bool) (h : (thingR s x first).err ≠ 2) :
    (thingR s x first = ⟨x.set, x.pos + 1, x.err, x.place, true, x.neg⟩ ∧ needR s x first = x.pos + 1) ∨
    (thingR s x first = nameR s (x.pos + 2) x (s.size - (x.pos + 2)) (x.pos + 2) ∧ needR s x first = cutB (thingR s x first)) ∨
    (∃ p, x.pos < p ∧ (thingR s x first = badR 3 p ∨ thingR s x first = badR 4 p) ∧ needR s x first = p) ∨
    (∃ lo hi, thingR s x first = addR x lo hi (x.pos + 1) ∧ needR s x first = x.pos + 2) ∨
    (∃ lo hi, thingR s x first = addR x lo hi (x.pos + 1) ∧ needR s x first = x.pos + 3 ∧ bt s (x.pos + 1) = 45 ∧ bt s (x.pos + 2) = 93) ∨
    (∃ lo hi, thingR s x first = addR x lo hi (x.pos + 3) ∧ x.pos < needR s x first ∧ needR s x first ≤ x.pos + 4) := by
  by_cases hA : s.size ≤ x.pos
  · have e : thingR s x first = badR 2 s.size := by unfold thingR; simp only [if_pos hA]
    rw [e] at h; simp [badR] at h
  by_cases hB : bt s x.pos = 93 ∧ first = false
  · exact .inl ⟨by unfold thingR; simp only [if_neg hA, if_pos hB], by unfold needR; simp only [if_pos hB]⟩
  by_cases hC : s.size ≤ x.pos + 1
  · have e : thingR s x first = badR 2 s.size := by unfold thingR; simp only [if_neg hA, if_neg hB, if_pos hC]
    rw [e] at h; simp [badR] at h
  by_cases hD : bt s x.pos = 91 ∧ bt s (x.pos + 1) = 58
  · exact .inr (.inl ⟨by unfold thingR; simp only [if_neg hA, if_neg hB, if_neg hC, if_pos hD], by unfold needR; simp only [if_neg hB, if_pos hD]⟩)
  by_cases hE : bt s x.pos = 91 ∧ spec3 (bt s (x.pos + 1)) = true
  · exact .inr (.inr (.inl ⟨x.pos + 2, by omega, .inl (by unfold thingR; simp only [if_neg hA, if_neg hB, if_neg hC, if_neg hD, if_pos hE]), by unfold needR; simp only [if_neg hB, if_neg hD, if_pos hE]⟩))
  by_cases hF : bt s (x.pos + 1) ≠ 45
  · exact .inr (.inr (.inr (.inl ⟨bt s x.pos, bt s x.pos, by unfold thingR; simp only [if_neg hA, if_neg hB, if_neg hC, if_neg hD, if_neg hE, if_pos hF], by unfold needR; simp only [if_neg hB, if_neg hD, if_neg hE, if_pos hF]⟩)))
  by_cases hG : s.size ≤ x.pos + 2
  · have e : thingR s x first = badR 2 s.size := by unfold thingR; simp only [if_neg hA, if_neg hB, if_neg hC, if_neg hD, if_neg hE, if_neg hF, if_pos hG]
    rw [e] at h; simp [badR] at h
  by_cases hH : bt s (x.pos + 2) = 93
  · exact .inr (.inr (.inr (.inr (.inl ⟨bt s x.pos, bt s x.pos, by unfold thingR; simp only [if_neg hA, if_neg hB, if_neg hC, if_neg hD, if_neg hE, if_neg hF, if_neg hG, if_pos hH], by unfold needR; simp only [if_neg hB, if_neg hD, if_neg hE, if_neg hF, if_pos hH], Decidable.not_not.1 hF, hH⟩))))
  by_cases hI : bt s (x.pos + 2) < bt s x.pos
  · exact .inr (.inr (.inl ⟨x.pos + 3, by omega, .inr (by unfold thingR; simp only [if_neg hA, if_neg hB, if_neg hC, if_neg hD, if_neg hE, if_neg hF, if_neg hG, if_neg hH, if_pos hI]), by unfold needR; simp only [if_neg hB, if_neg hD, if_neg hE, if_neg hF, if_neg hH, if_pos hI]⟩))
  by_cases hJ : bt s (x.pos + 2) = 91 ∧ s.size ≤ x.pos + 3
  · have e : thingR s x first = badR 2 s.size := by unfold thingR; simp only [if_neg hA, if_neg hB, if_neg hC, if_neg hD, if_neg hE, if_neg hF, if_neg hG, if_neg hH, if_neg hI, if_pos hJ]
    rw [e] at h; simp [badR] at h
  by_cases hK : bt s (x.pos + 2) = 91 ∧ spec3 (bt s (x.pos + 3)) = true
  · exact .inr (.inr (.inl ⟨x.pos + 4, by omega, .inl (by unfold thingR; simp only [if_neg hA, if_neg hB, if_neg hC, if_neg hD, if_neg hE, if_neg hF, if_neg hG, if_neg hH, if_neg hI, if_neg hJ, if_pos hK]), by unfold needR; simp only [if_neg hB, if_neg hD, if_neg hE, if_neg hF, if_neg hH, if_neg hI, if_pos hK.1]⟩))
  refine .inr (.inr (.inr (.inr (.inr ⟨bt s x.pos, bt s (x.pos + 2), by unfold thingR; simp only [if_neg hA, if_neg hB, if_neg hC, if_neg hD, if_neg hE, if_neg hF, if_neg hG, if_neg hH, if_neg hI, if_neg hJ, if_neg hK], ?_⟩))))
  by_cases h91 : bt s (x.pos + 2) = 91
  · rw [show needR s x first = x.pos + 4 from by unfold needR; simp only [if_neg hB, if_neg hD, if_neg hE, if_neg hF, if_neg hH, if_neg hI, if_pos h91]]; omega
  · rw [show needR s x first = x.pos + 3 from by unfold needR; simp only [if_neg hB, if_neg hD, if_neg hE, if_neg hF, if_neg hH, if_neg hI, if_neg h91]]; omega

theorem needR_pos (s : ByteArray) (x : BR) (first : Bool) (hx : x.err = 0) (h : (thingR s x first).err ≠ 2) : x.pos < needR s x first := by
  rcases thing_cases s x first h with ⟨_, e⟩ | ⟨e1, e⟩ | ⟨p, hp, _, e⟩ | ⟨_, _, _, e⟩ | ⟨_, _, _, e, _⟩ | ⟨_, _, _, e, _⟩
  · omega
  · rw [e, e1]
    rw [e1] at h
    have := nameR_cut s (x.pos + 2) x hx _ _ h
    omega
  · omega
  · omega
  · omega
  · omega

/-- All that is needed lies ahead of the end. -/
theorem need_le (s : ByteArray) : ∀ (n : Nat) (x : BR) (first : Bool), x.err = 0 → x.fin = false → x.pos ≤ s.size → s.size ≤ n + x.pos → (loopR s (n + 1) x first).err ≠ 2 →
    (thingR s x first).err ≠ 2 ∧ needR s x first ≤ cutB (loopR s (n + 1) x first) ∧ ((loopR s (n + 1) x first).fin = true ∨ (loopR s (n + 1) x first).err ≠ 0)
  | n, x, first, hx, hf, hp, hn, h => by
    by_cases he : (thingR s x first).err = 0
    · have hok := thingR_ok s x first he
      rw [loopR_on s n x first hf he] at h ⊢
      have h2 : (thingR s x first).err ≠ 2 := by rw [he]; decide
      refine ⟨h2, ?_⟩
      by_cases hfin : (thingR s x first).fin = true
      · have e : loopR s n (thingR s x first) false = thingR s x first := by
          cases n with
          | zero => rfl
          | succ m => exact loopR_fin s m _ _ hfin
        rw [e]
        refine ⟨?_, .inl hfin⟩
        have hcut : cutB (thingR s x first) = (thingR s x first).pos := by rw [cutB, if_pos he]
        rcases thing_cases s x first h2 with ⟨e1, e⟩ | ⟨e1, e⟩ | ⟨p, hp, e1 | e1, e⟩ | ⟨lo, hi, e1, e⟩ | ⟨lo, hi, e1, e, _⟩ | ⟨lo, hi, e1, e, _⟩
        · rw [hcut, e, e1]; exact Nat.le_refl _
        · rw [e]; exact Nat.le_refl _
        · rw [e1] at he; simp [badR] at he
        · rw [e1] at he; simp [badR] at he
        · rw [e1] at hfin; simp [addR, hf] at hfin
        · rw [e1] at hfin; simp [addR, hf] at hfin
        · rw [e1] at hfin; simp [addR, hf] at hfin
      · have hfin' : (thingR s x first).fin = false := by simpa using hfin
        obtain ⟨m, rfl⟩ : ∃ m, n = m + 1 := ⟨n - 1, by omega⟩
        have ih := need_le s m (thingR s x first) false he hfin' hok.2.1 (by omega) h
        have hnp := needR_pos s (thingR s x first) false he ih.1
        refine ⟨?_, ih.2.2⟩
        have ih2 := ih.2.1
        rcases thing_cases s x first h2 with ⟨e1, e⟩ | ⟨e1, e⟩ | ⟨p, hp, e1 | e1, e⟩ | ⟨lo, hi, e1, e⟩ | ⟨lo, hi, e1, e, h45, h93⟩ | ⟨lo, hi, e1, _, e⟩
        · rw [e1] at hfin'; simp at hfin'
        · have hcut : cutB (thingR s x first) = (thingR s x first).pos := by rw [cutB, if_pos he]
          omega
        · rw [e1] at he; simp [badR] at he
        · rw [e1] at he; simp [badR] at he
        · have hp1 : (thingR s x first).pos = x.pos + 1 := by rw [e1]; rfl
          omega
        · have hp1 : (thingR s x first).pos = x.pos + 1 := by rw [e1]; rfl
          have hq : needR s (thingR s x first) false = x.pos + 3 := by
            unfold needR
            simp only [hp1, h45, show x.pos + 1 + 1 = x.pos + 2 from rfl, h93]
            simp
          omega
        · have hp1 : (thingR s x first).pos = x.pos + 3 := by rw [e1]; rfl
          omega
    · rw [loopR_err s n x first hf he] at h ⊢
      refine ⟨h, ?_, .inr he⟩
      rcases thing_cases s x first h with ⟨e1, e⟩ | ⟨e1, e⟩ | ⟨p, hp, e1 | e1, e⟩ | ⟨lo, hi, e1, e⟩ | ⟨lo, hi, e1, e, _⟩ | ⟨lo, hi, e1, e, _⟩
      · rw [e1] at he; exact absurd hx he
      · rw [e]; exact Nat.le_refl _
      · rw [e, e1, cut_bad]; exact Nat.le_refl _
      · rw [e, e1, cut_bad]; exact Nat.le_refl _
      · rw [e1] at he; exact absurd hx he
      · rw [e1] at he; exact absurd hx he
      · rw [e1] at he; exact absurd hx he

theorem loopR_fuel (s : ByteArray) : ∀ (n m : Nat) (x : BR) (first : Bool), s.size < n + x.pos → x.pos ≤ s.size ∨ x.fin = true → n ≤ m → 0 < n → loopR s n x first = loopR s m x first
  | 0, _, _, _, _, _, _, h => absurd h (Nat.lt_irrefl 0)
  | n + 1, m, x, first, hn, hp, hm, _ => by
    obtain ⟨m, rfl⟩ : ∃ m', m = m' + 1 := ⟨m - 1, by omega⟩
    by_cases hf : x.fin = true
    · rw [loopR_fin _ _ _ _ hf, loopR_fin _ _ _ _ hf]
    · have hf' : x.fin = false := by simpa using hf
      by_cases he : (thingR s x first).err = 0
      · have hok := thingR_ok s x first he
        rw [loopR_on _ _ _ _ hf' he, loopR_on _ _ _ _ hf' he]
        by_cases hn0 : n = 0
        · have : x.pos ≤ s.size := hp.resolve_right hf
          omega
        · exact loopR_fuel s n m _ false (by omega) (.inl hok.2.1) (by omega) (by omega)
      · rw [loopR_err _ _ _ _ hf' he, loopR_err _ _ _ _ hf' he]

theorem loopR_more (s : ByteArray) : ∀ (n m : Nat) (x : BR) (first : Bool), x.err = 0 → n ≤ m → ((loopR s n x first).fin = true ∨ (loopR s n x first).err ≠ 0) → loopR s m x first = loopR s n x first
  | 0, m, x, first, hx, _, h => by
    have hf : x.fin = true := h.resolve_right (fun he => he hx)
    cases m with
    | zero => rfl
    | succ m => rw [loopR_fin _ _ _ _ hf]; rfl
  | n + 1, m, x, first, hx, hm, h => by
    obtain ⟨m, rfl⟩ : ∃ m', m = m' + 1 := ⟨m - 1, by omega⟩
    by_cases hf : x.fin = true
    · rw [loopR_fin _ _ _ _ hf, loopR_fin _ _ _ _ hf]
    · have hf' : x.fin = false := by simpa using hf
      by_cases he : (thingR s x first).err = 0
      · rw [loopR_on _ _ _ _ hf' he] at h ⊢
        rw [loopR_on _ _ _ _ hf' he]
        exact loopR_more s n m _ false he (by omega) h
      · rw [loopR_err _ _ _ _ hf' he, loopR_err _ _ _ _ hf' he]

theorem loopR_agr (s s' : ByteArray) : ∀ (n : Nat) (x : BR) (first : Bool), x.err = 0 → x.fin = false → x.pos ≤ s.size → s.size ≤ n + x.pos → (loopR s (n + 1) x first).err ≠ 2 → Agr (cutB (loopR s (n + 1) x first)) s s' →
    loopR s' (n + 1) x first = loopR s (n + 1) x first
  | n, x, first, hx, hf, hp, hn, h, ha => by
    have hne := need_le s n x first hx hf hp hn h
    have hth := (thingR_agr s s' x first hx hne.1 (ha.le hne.2.1)).1
    by_cases he : (thingR s x first).err = 0
    · have he' : (thingR s' x first).err = 0 := by rw [hth]; exact he
      have hok := thingR_ok s x first he
      rw [loopR_on s n x first hf he] at h ha ⊢
      rw [loopR_on s' n x first hf he', hth]
      by_cases hfin : (thingR s x first).fin = true
      · cases n with
        | zero => rfl
        | succ m => rw [loopR_fin _ _ _ _ hfin, loopR_fin _ _ _ _ hfin]
      · have hfin' : (thingR s x first).fin = false := by simpa using hfin
        obtain ⟨m, rfl⟩ : ∃ m, n = m + 1 := ⟨n - 1, by omega⟩
        exact loopR_agr s s' m _ false he hfin' hok.2.1 (by omega) h ha
    · have he' : (thingR s' x first).err ≠ 0 := by rw [hth]; exact he
      rw [loopR_err s n x first hf he, loopR_err s' n x first hf he', hth]

theorem startR_pos' (s : ByteArray) (a : Nat) (h : a < s.size) : (startR s a).pos ≤ s.size ∧ (startR s a).err = 0 ∧ (startR s a).fin = false ∧ (startR s a).place = 0 := by
  unfold startR
  split <;> exact ⟨by simp only; omega, rfl, rfl, rfl⟩
/-- What is read: set, end, error, place: how many bytes tell it. -/
def cutT (r : BitVec 256 × Nat × Nat × Nat) : Nat := if r.2.2.1 = 0 then r.2.1 else r.2.2.2
theorem finR_cut (x : BR) : cutT (finR x) = cutB x := by
  unfold cutT finR cutB
  by_cases h : x.err = 0
  · rw [if_neg (show ¬ x.err ≠ 0 by omega), if_pos h]; rfl
  · rw [if_pos (show x.err ≠ 0 from h), if_neg h]; simp only; rw [if_neg h]
theorem finR_err (x : BR) : (finR x).2.2.1 = x.err := by
  unfold finR
  by_cases h : x.err = 0
  · rw [if_neg (show ¬ x.err ≠ 0 by omega), h]
  · rw [if_pos (show x.err ≠ 0 from h)]

theorem startR_agr (s s' : ByteArray) (a : Nat) (n : Nat) (h : Agr n s s') (hn : a + 2 ≤ n) : startR s' a = startR s a := by
  have h1 := h.1
  have h2 := h.2.1
  unfold startR
  rw [← h.2.2 (a + 1) (by omega)]
  simp only [show a + 1 < s.size by omega, show a + 1 < s'.size by omega]

/-- **What is wrong, or a bracket, is told by the bytes up to there.** -/
theorem readR_agr (s s' : ByteArray) (at' : Int) (h1 : (readR s at').2.2.1 ≠ 1) (h2 : (readR s at').2.2.1 ≠ 2) (ha : Agr (cutT (readR s at')) s s') : readR s' at' = readR s at' := by
  unfold readR at h1 h2 ha ⊢
  by_cases q : at' < 0
  · rw [if_pos q] at h1; exact absurd rfl h1
  rw [if_neg q] at h1 h2 ha ⊢
  rw [if_neg q]
  by_cases q2 : s.size ≤ at'.toNat ∨ bt s at'.toNat ≠ 91
  · rw [if_pos q2] at h1; exact absurd rfl h1
  rw [if_neg q2] at h1 h2 ha ⊢
  rw [finR_cut] at ha
  rw [finR_err] at h2
  generalize at'.toNat = a at *
  have hlt : a < s.size := by omega
  obtain ⟨p1, p2, p3, _⟩ := startR_pos' s a hlt
  have hne := need_le s s.size (startR s a) true p2 p3 p1 (by omega) h2
  have hnp := needR_pos s (startR s a) true p2 hne.1
  have hst : a + 1 ≤ (startR s a).pos := by unfold startR; split <;> simp
  have hs' := ha.2.1
  have e0 := ha.2.2 a (by omega)
  have q2' : ¬ (s'.size ≤ a ∨ bt s' a ≠ 91) := by rw [← e0]; omega
  rw [if_neg q2', startR_agr s s' a _ ha (by omega)]
  have hl := loopR_agr s s' s.size (startR s a) true p2 p3 p1 (by omega) h2 ha
  have hf : loopR s' (s'.size + 1) (startR s a) true = loopR s' (s.size + 1) (startR s a) true := by
    rcases Nat.le_total s.size s'.size with hle | hle
    · exact loopR_more s' (s.size + 1) (s'.size + 1) _ true p2 (by omega) (by rw [hl]; exact hne.2.2)
    · exact loopR_fuel s' (s'.size + 1) (s.size + 1) _ true (by omega) (.inl (by omega)) (by omega) (by omega)
  rw [hf, hl]
end Go.Proofs.YtldaaelmifbbhaaGreat

/- Where a bracket ends, and where its error is. -/
namespace Go.Proofs.YtldaaelmifbbhaaGreat
open Go.RowKit BS

/-- An error's place lies in the text; where it ends too early, at its end. -/
def PlB (s : ByteArray) (i : Nat) (r : BR) : Prop := r.err ≠ 0 → i < r.place ∧ r.place ≤ s.size ∧ (r.err = 2 → r.place = s.size) ∧ r.err ≠ 1
theorem plB_short (s : ByteArray) (i : Nat) (h : i < s.size) : PlB s i (badR 2 s.size) := fun _ => ⟨h, Nat.le_refl _, fun _ => rfl, by simp [badR]⟩
theorem plB_bad (s : ByteArray) (i e p : Nat) (he : e ≠ 2 ∧ e ≠ 1) (h1 : i < p) (h2 : p ≤ s.size) : PlB s i (badR e p) := fun _ => ⟨h1, h2, fun h => absurd h he.1, he.2⟩
theorem plB_ok (s : ByteArray) (i : Nat) (r : BR) (h : r.err = 0) : PlB s i r := fun he => absurd h he
theorem nameR_pl (s : ByteArray) (fr : Nat) (x : BR) (hx : x.err = 0) (i : Nat) (hi : i < s.size) : ∀ n j, n = s.size - j → i ≤ j → PlB s i (nameR s fr x n j)
  | 0, j, _, _ => plB_short s i hi
  | n + 1, j, hn, hij => by
    rw [nameR]
    refine ite_ok _ (fun _ => ?_) (fun _ => ?_)
    · refine ite_ok _ (fun _ => plB_bad s i 5 _ (by decide) (by omega) (by omega)) (fun _ => ?_)
      refine ite_ok _ (fun _ => plB_short s i hi) (fun _ => ?_)
      refine ite_ok _ (fun _ => plB_bad s i 3 _ (by decide) (by omega) (by omega)) (fun _ => ?_)
      exact plB_ok _ _ _ hx
    · refine ite_ok _ (fun _ => plB_bad s i 5 _ (by decide) (by omega) (by omega)) (fun _ => ?_)
      exact nameR_pl s fr x hx i hi n (j + 1) (by omega) (by omega)
theorem thingR_pl (s : ByteArray) (x : BR) (first : Bool) (hx : x.err = 0) (i : Nat) (hi : i < s.size) (hp : i ≤ x.pos) : PlB s i (thingR s x first) := by
  unfold thingR
  refine ite_ok _ (fun _ => plB_short s i hi) (fun hA => ?_)
  refine ite_ok _ (fun _ => plB_ok _ _ _ hx) (fun _ => ?_)
  refine ite_ok _ (fun _ => plB_short s i hi) (fun hC => ?_)
  refine ite_ok _ (fun _ => nameR_pl s _ x hx i hi _ _ rfl (by omega)) (fun _ => ?_)
  refine ite_ok _ (fun _ => plB_bad s i 3 _ (by decide) (by omega) (by omega)) (fun _ => ?_)
  refine ite_ok _ (fun _ => plB_ok _ _ _ hx) (fun _ => ?_)
  refine ite_ok _ (fun _ => plB_short s i hi) (fun hG => ?_)
  refine ite_ok _ (fun _ => plB_ok _ _ _ hx) (fun _ => ?_)
  refine ite_ok _ (fun _ => plB_bad s i 4 _ (by decide) (by omega) (by omega)) (fun _ => ?_)
  refine ite_ok _ (fun _ => plB_short s i hi) (fun hJ => ?_)
  refine ite_ok _ (fun hK => plB_bad s i 3 _ (by decide) (by omega) ?_) (fun _ => plB_ok _ _ _ hx)
  have := fun h => hJ ⟨hK.1, h⟩
  omega

/-- How the loop ends. -/
theorem loopR_end (s : ByteArray) (i : Nat) (hi : i < s.size) : ∀ (n : Nat) (x : BR) (first : Bool), x.err = 0 → x.fin = false → i ≤ x.pos → x.pos ≤ s.size → s.size ≤ n + x.pos →
    PlB s i (loopR s (n + 1) x first) ∧ ((loopR s (n + 1) x first).err = 0 → i < (loopR s (n + 1) x first).pos ∧ (loopR s (n + 1) x first).pos ≤ s.size ∧ (loopR s (n + 1) x first).fin = true)
  | n, x, first, hx, hf, hix, hp, hn => by
    by_cases he : (thingR s x first).err = 0
    · have hok := thingR_ok s x first he
      rw [loopR_on s n x first hf he]
      by_cases hfin : (thingR s x first).fin = true
      · have e : loopR s n (thingR s x first) false = thingR s x first := by
          cases n with
          | zero => rfl
          | succ m => exact loopR_fin s m _ _ hfin
        rw [e]
        exact ⟨plB_ok _ _ _ he, fun _ => ⟨by omega, hok.2.1, hfin⟩⟩
      · have hfin' : (thingR s x first).fin = false := by simpa using hfin
        by_cases hn0 : n = 0
        · omega
        · obtain ⟨m, rfl⟩ : ∃ m, n = m + 1 := ⟨n - 1, by omega⟩
          exact loopR_end s i hi m _ false he hfin' (by omega) hok.2.1 (by omega)
    · rw [loopR_err s n x first hf he]
      exact ⟨thingR_pl s x first hx i hi hix, fun h => absurd h he⟩

/-- Set, end, error, place. -/
theorem readR_end (s : ByteArray) (at' : Int) :
    (readR s at' = (0, 0, 1, 0) ∧ (at' < 0 ∨ s.size ≤ at'.toNat ∨ bt s at'.toNat ≠ 91)) ∨
    (0 ≤ at' ∧ at'.toNat < s.size ∧ bt s at'.toNat = 91 ∧
      (((readR s at').2.2.1 = 0 ∧ (readR s at').2.2.2 = 0 ∧ at'.toNat < (readR s at').2.1 ∧ (readR s at').2.1 ≤ s.size) ∨
       ((readR s at').2.2.1 ≠ 0 ∧ (readR s at').2.2.1 ≠ 1 ∧ (readR s at').1 = 0 ∧ (readR s at').2.1 = 0 ∧ at'.toNat < (readR s at').2.2.2 ∧ (readR s at').2.2.2 ≤ s.size ∧ ((readR s at').2.2.1 = 2 → (readR s at').2.2.2 = s.size)))) := by
  unfold readR
  by_cases q : at' < 0
  · rw [if_pos q]; exact .inl ⟨rfl, .inl q⟩
  rw [if_neg q]
  by_cases q2 : s.size ≤ at'.toNat ∨ bt s at'.toNat ≠ 91
  · rw [if_pos q2]; exact .inl ⟨rfl, .inr q2⟩
  rw [if_neg q2]
  refine .inr ⟨by omega, by omega, by omega, ?_⟩
  generalize at'.toNat = a at *
  have hlt : a < s.size := by omega
  obtain ⟨p1, p2, p3, _⟩ := startR_pos' s a hlt
  have hst : a ≤ (startR s a).pos := by unfold startR; split <;> simp <;> omega
  have hE := loopR_end s a hlt s.size (startR s a) true p2 p3 hst p1 (by omega)
  generalize loopR s (s.size + 1) (startR s a) true = L at *
  unfold finR
  by_cases he : L.err = 0
  · rw [if_neg (show ¬ L.err ≠ 0 by omega)]
    have := hE.2 he
    exact .inl ⟨rfl, rfl, this.1, this.2.1⟩
  · rw [if_pos (show L.err ≠ 0 from he)]
    have := hE.1 he
    exact .inr ⟨he, this.2.2.2, rfl, rfl, this.1, this.2.1, this.2.2.1⟩
end Go.Proofs.YtldaaelmifbbhaaGreat

/- A bracket of one range. -/
namespace Go.Proofs.YtldaaelmifbbhaaGreat
open Go.RowKit BS

/-- One that is no byte of ']', '[', '^', '-'. -/
def EndB (b : Nat) : Prop := b ≠ 93 ∧ b ≠ 91 ∧ b ≠ 94 ∧ b ≠ 45

theorem thingR_pair (s : ByteArray) (x : BR) (first : Bool) (h : x.pos + 3 < s.size) (h1 : EndB (bt s x.pos)) (h2 : bt s (x.pos + 1) = 45) (h3 : EndB (bt s (x.pos + 2))) :
    thingR s x first = if bt s (x.pos + 2) < bt s x.pos then badR 4 (x.pos + 3) else addR x (bt s x.pos) (bt s (x.pos + 2)) (x.pos + 3) := by
  unfold thingR
  simp only
  rw [if_neg (by omega), if_neg (fun h => h1.1 h.1), if_neg (by omega), if_neg (fun h => h1.2.1 h.1), if_neg (fun h => h1.2.1 h.1), if_neg (by rw [h2]; decide), if_neg (by omega), if_neg h3.1]
  by_cases hc : bt s (x.pos + 2) < bt s x.pos
  · rw [if_pos hc, if_pos hc]
  · rw [if_neg hc, if_neg hc, if_neg (fun h => h3.2.1 h.1), if_neg (fun h => h3.2.1 h.1)]
theorem thingR_end (s : ByteArray) (x : BR) (h : x.pos < s.size) (h1 : bt s x.pos = 93) : thingR s x false = ⟨x.set, x.pos + 1, x.err, x.place, true, x.neg⟩ := by
  unfold thingR
  simp only
  rw [if_neg (by omega), if_pos ⟨h1, trivial⟩]

theorem loopR_pair (s : ByteArray) (x : BR) (hf : x.fin = false) (he : x.err = 0) (n : Nat) (h : x.pos + 3 < s.size) (h1 : EndB (bt s x.pos)) (h2 : bt s (x.pos + 1) = 45) (h3 : EndB (bt s (x.pos + 2)))
    (h4 : bt s (x.pos + 3) = 93) : loopR s (n + 3) x true = if bt s (x.pos + 2) < bt s x.pos then badR 4 (x.pos + 3) else ⟨x.set ||| range (bt s x.pos) (bt s (x.pos + 2)), x.pos + 4, x.err, x.place, true, x.neg⟩ := by
  have ht := thingR_pair s x true h h1 h2 h3
  by_cases hc : bt s (x.pos + 2) < bt s x.pos
  · rw [if_pos hc] at ht ⊢
    rw [loopR, if_neg (by rw [hf]; decide), ht, if_pos (by simp [badR])]
  · rw [if_neg hc] at ht ⊢
    rw [loopR, if_neg (by rw [hf]; decide), ht, if_neg (by simpa [addR] using he)]
    have e2 : thingR s (addR x (bt s x.pos) (bt s (x.pos + 2)) (x.pos + 3)) false = ⟨x.set ||| range (bt s x.pos) (bt s (x.pos + 2)), x.pos + 3 + 1, x.err, x.place, true, x.neg⟩ := thingR_end s _ h h4
    rw [loopR, if_neg (by simp [addR, hf]), e2, if_neg (by simpa using he), loopR_fin _ _ _ _ rfl]

theorem readR_pair (s : ByteArray) (k : Nat) (h : k + 4 < s.size) (h0 : bt s k = 91) (h1 : EndB (bt s (k + 1))) (h2 : bt s (k + 2) = 45) (h3 : EndB (bt s (k + 3))) (h4 : bt s (k + 4) = 93) :
    readR s k = if bt s (k + 3) < bt s (k + 1) then (0, 0, 4, k + 4) else (range (bt s (k + 1)) (bt s (k + 3)), k + 5, 0, 0) := by
  unfold readR
  rw [if_neg (by omega)]
  rw [show (k : Int).toNat = k from rfl, if_neg (by rw [h0]; omega)]
  have es : startR s k = ⟨0, k + 1, 0, 0, false, false⟩ := by rw [startR, if_neg (fun h => h1.2.2.1 h.2)]
  obtain ⟨n, hn⟩ : ∃ n, s.size + 1 = n + 3 := ⟨s.size - 2, by omega⟩
  rw [es, hn, loopR_pair s ⟨0, k + 1, 0, 0, false, false⟩ rfl rfl n h h1 h2 h3 h4]
  simp only
  by_cases hc : bt s (k + 1 + 2) < bt s (k + 1)
  · rw [if_pos hc, if_pos hc]; rfl
  · rw [if_neg hc, if_neg hc]
    simp [finR]
theorem readR_npair (s : ByteArray) (k : Nat) (h : k + 5 < s.size) (h0 : bt s k = 91) (hn : bt s (k + 1) = 94) (h1 : EndB (bt s (k + 2))) (h2 : bt s (k + 3) = 45) (h3 : EndB (bt s (k + 4))) (h4 : bt s (k + 5) = 93) :
    readR s k = if bt s (k + 4) < bt s (k + 2) then (0, 0, 4, k + 5) else (~~~ range (bt s (k + 2)) (bt s (k + 4)), k + 6, 0, 0) := by
  unfold readR
  rw [if_neg (by omega)]
  rw [show (k : Int).toNat = k from rfl, if_neg (by rw [h0]; omega)]
  have es : startR s k = ⟨0, k + 2, 0, 0, false, true⟩ := by rw [startR, if_pos ⟨by omega, hn⟩]
  obtain ⟨n, hn⟩ : ∃ n, s.size + 1 = n + 3 := ⟨s.size - 2, by omega⟩
  rw [es, hn, loopR_pair s ⟨0, k + 2, 0, 0, false, true⟩ rfl rfl n h h1 h2 h3 h4]
  simp only
  by_cases hc : bt s (k + 2 + 2) < bt s (k + 2)
  · rw [if_pos hc, if_pos hc]; rfl
  · rw [if_neg hc, if_neg hc]
    simp [finR]

end Go.Proofs.YtldaaelmifbbhaaGreat

/- The text of a set, and that it is read as the set. -/
namespace Go.Proofs.YtldaaelmifbbhaaGreat
open Go.RowKit BS

/-- The bytes L lie in s from p on. -/
def Lies (s : ByteArray) : Nat → List Nat → Prop
  | p, [] => p ≤ s.size
  | p, a :: L => p < s.size ∧ bt s p = a ∧ Lies s (p + 1) L
theorem Lies.le {s : ByteArray} : ∀ {p : Nat} {L : List Nat}, Lies s p L → p + L.length ≤ s.size
  | _, [], h => h
  | p, _ :: L, h => by have := Lies.le h.2.2; simp only [List.length_cons]; omega

/-- What is read of L, to its end. -/
def Rd (L : List Nat) (first : Bool) (X : BitVec 256) : Prop :=
  ∀ (s : ByteArray) (p : Nat) (t : BitVec 256) (neg : Bool) (n : Nat), Lies s p L → L.length + 1 ≤ n → loopR s n ⟨t, p, 0, 0, false, neg⟩ first = ⟨t ||| X, p + L.length, 0, 0, true, neg⟩

theorem rd_end : Rd [93] false 0 := by
  intro s p t neg n h hn
  obtain ⟨m, rfl⟩ : ∃ m, n = m + 2 := ⟨n - 2, by simp at hn; omega⟩
  have e := thingR_end s ⟨t, p, 0, 0, false, neg⟩ h.1 h.2.1
  rw [loopR, if_neg (by simp), e, if_neg (by simp), loopR_fin _ _ _ _ rfl]
  simp
theorem rd_step {A L : List Nat} {first : Bool} {X : BitVec 256} (lo hi : Nat) (ht : ∀ s p t neg, Lies s p (A ++ L) → thingR s ⟨t, p, 0, 0, false, neg⟩ first = addR ⟨t, p, 0, 0, false, neg⟩ lo hi (p + A.length))
    (hl : ∀ s p, Lies s p (A ++ L) → Lies s (p + A.length) L) (hA : A ≠ []) (h : Rd L false X) : Rd (A ++ L) first (range lo hi ||| X) := by
  intro s p t neg n hs hn
  have hA' := List.length_pos_iff.2 hA
  rw [List.length_append] at hn
  obtain ⟨m, rfl⟩ : ∃ m, n = m + 1 := ⟨n - 1, by omega⟩
  rw [loopR, if_neg (by simp), ht s p t neg hs, if_neg (by simp [addR])]
  have := h s (p + A.length) (t ||| range lo hi) neg m (hl s p hs) (by omega)
  rw [show addR ⟨t, p, 0, 0, false, neg⟩ lo hi (p + A.length) = ⟨t ||| range lo hi, p + A.length, 0, 0, false, neg⟩ from rfl, this, BitVec.or_assoc, List.length_append, Nat.add_assoc]
theorem rd_one {a c : Nat} {L : List Nat} {first : Bool} {X : BitVec 256} (h1 : a ≠ 93 ∨ first = true) (h2 : a = 91 → c ≠ 58 ∧ spec3 c = false) (h3 : c ≠ 45) (h : Rd (c :: L) false X) : Rd (a :: c :: L) first (range a a ||| X) := by
  refine rd_step (A := [a]) (L := c :: L) a a ?_ (fun s p h => h.2.2) (by simp) h
  rintro s p t neg ⟨g1, g2, g3, g4, _⟩
  unfold thingR
  simp only
  rw [if_neg (by omega), g2, g4, if_neg (fun h => ?_), if_neg (by omega), if_neg (fun h => (h2 h.1).1 h.2), if_neg (fun h => ?_), if_pos h3]
  · rfl
  · rw [(h2 h.1).2] at h; exact absurd h.2 (by decide)
  · rcases h1 with h1 | h1
    · exact h1 h.1
    · rw [h1] at h; exact absurd h.2 (by decide)
theorem rd_dash {a : Nat} {L : List Nat} {first : Bool} {X : BitVec 256} (h1 : a ≠ 93 ∨ first = true) (h : Rd (45 :: 93 :: L) false X) : Rd (a :: 45 :: 93 :: L) first (range a a ||| X) := by
  refine rd_step (A := [a]) (L := 45 :: 93 :: L) a a ?_ (fun s p h => h.2.2) (by simp) h
  rintro s p t neg ⟨g1, g2, g3, g4, g5, g6, _⟩
  unfold thingR
  simp only
  rw [show p + 2 = p + 1 + 1 from rfl, if_neg (by omega), g2, g4, g6, if_neg (fun h => ?_), if_neg (by omega), if_neg (fun h => absurd h.2 (by decide)), if_neg (fun h => absurd h.2 (by decide)), if_neg (by decide), if_neg (by omega), if_pos rfl]
  · rfl
  · rcases h1 with h1 | h1
    · exact h1 h.1
    · rw [h1] at h; exact absurd h.2 (by decide)
theorem rd_range {a b : Nat} {L : List Nat} {first : Bool} {X : BitVec 256} (h1 : EndB a) (h2 : EndB b) (hab : a ≤ b) (h : Rd L false X) : Rd (a :: 45 :: b :: L) first (range a b ||| X) := by
  refine rd_step (A := [a, 45, b]) (L := L) a b ?_ (fun s p h => h.2.2.2.2.2.2) (by simp) h
  rintro s p t neg ⟨g1, g2, g3, g4, g5, g6, g7⟩
  unfold thingR
  simp only
  rw [show p + 2 = p + 1 + 1 from rfl, if_neg (by omega), g2, g4, g6, if_neg (fun h => h1.1 h.1), if_neg (by omega), if_neg (fun h => h1.2.1 h.1), if_neg (fun h => h1.2.1 h.1), if_neg (by decide), if_neg (by omega), if_neg h2.1,
    if_neg (by omega), if_neg (fun h => h2.2.1 h.1), if_neg (fun h => h2.2.1 h.1)]
  rfl

/-- What follows may stand behind a byte. -/
def Next (L : List Nat) : Prop := (∃ c L', L = c :: L' ∧ c ≠ 45) ∨ ∃ L', L = 45 :: 93 :: L'
theorem rd_next {a : Nat} {L : List Nat} {first : Bool} {X : BitVec 256} (h1 : a ≠ 93 ∨ first = true) (h2 : a ≠ 91) (hn : Next L) (h : Rd L false X) : Rd (a :: L) first (range a a ||| X) := by
  rcases hn with ⟨c, L', rfl, hc⟩ | ⟨L', rfl⟩
  · exact rd_one h1 (fun e => absurd e h2) hc h
  · exact rd_dash h1 h
theorem rd_byte {a : Nat} {L : List Nat} {first : Bool} {X : BitVec 256} (h1 : EndB a) (hn : Next L) (h : Rd L false X) : Rd (a :: L) first (range a a ||| X) := rd_next (.inl h1.1) h1.2.1 hn h

/-- The text of a run. -/
def runT (r : Nat × Nat) : List Nat := [r.1] ++ (if r.1 + 1 < r.2 then [45] else []) ++ (if r.1 < r.2 then [r.2] else [])
theorem next_runs (rs : List (Nat × Nat)) (L : List Nat) (h : ∀ r ∈ rs, EndB r.1) (hL : Next L) : Next (rs.flatMap runT ++ L) := by
  cases rs with
  | nil => exact hL
  | cons r rs => exact .inl ⟨r.1, (if r.1 + 1 < r.2 then [45] else []) ++ (if r.1 < r.2 then [r.2] else []) ++ (rs.flatMap runT ++ L), by simp [runT], (h r (by simp)).2.2.2⟩
def orR (rs : List (Nat × Nat)) (X : BitVec 256) : BitVec 256 := rs.foldr (fun r t => range r.1 r.2 ||| t) X
theorem range_two (a : Nat) : range a a ||| range (a + 1) (a + 1) = range a (a + 1) := by
  apply BitVec.eq_of_getLsbD_eq
  intro j hj
  rw [BitVec.getLsbD_or, range, range, range, get_ofFn, get_ofFn, get_ofFn]
  simp only [hj, decide_true, Bool.true_and]
  rw [Bool.eq_iff_iff]
  simp only [Bool.or_eq_true, Bool.and_eq_true, decide_eq_true_eq]
  omega
theorem rd_runs : ∀ (rs : List (Nat × Nat)) (L : List Nat) (first : Bool) (X : BitVec 256), (∀ r ∈ rs, EndB r.1 ∧ EndB r.2 ∧ r.1 ≤ r.2) → Next L → (rs = [] → Rd L first X) → Rd L false X → Rd (rs.flatMap runT ++ L) first (orR rs X)
  | [], L, first, X, _, _, h0, _ => h0 rfl
  | r :: rs, L, first, X, hr, hL, _, h => by
    have ih := rd_runs rs L false X (fun r' h' => hr r' (by simp [h'])) hL (fun _ => h) h
    have hN := next_runs rs L (fun r' h' => (hr r' (by simp [h'])).1) hL
    obtain ⟨e1, e2, e3⟩ := hr r (by simp)
    rw [List.flatMap_cons, List.append_assoc]
    show Rd _ _ (range r.1 r.2 ||| orR rs X)
    obtain ⟨a, b⟩ := r
    simp only at e1 e2 e3 ⊢
    by_cases h1 : a + 1 < b
    · have : runT (a, b) = [a, 45, b] := by simp [runT, h1, show a < b by omega]
      rw [this]
      exact rd_range e1 e2 e3 ih
    · by_cases h2 : a < b
      · obtain rfl : b = a + 1 := by omega
        have : runT (a, a + 1) = [a, a + 1] := by simp [runT]
        rw [this, ← range_two, BitVec.or_assoc]
        exact rd_byte e1 (.inl ⟨a + 1, _, rfl, e2.2.2.2⟩) (rd_byte e2 hN ih)
      · obtain rfl : b = a := by omega
        have : runT (b, b) = [b] := by simp [runT]
        rw [this]
        exact rd_byte e1 hN ih

/-- The four bytes that stand apart. -/
def fourS : BitVec 256 := range 93 93 ||| (range 91 91 ||| (range 94 94 ||| range 45 45))
def iT (x : Bool) (n : Nat) : List Nat := if x = true then [n] else []
def gT (x : Bool) (n : Nat) : BitVec 256 := if x = true then range n n else 0
def midT (s : BitVec 256) : List Nat := (rsOf (s &&& ~~~fourS)).flatMap runT
def outT (s : BitVec 256) : List Nat := iT (s.getLsbD 93) 93 ++ midT s ++ iT (s.getLsbD 91) 91
/-- The text of a set. -/
def textT (s : BitVec 256) : List Nat :=
  if s = 0 then [91, 94, 0, 45, 255, 93]
  else if s = range 94 94 then []
  else if outT s = [] then 91 :: (iT (s.getLsbD 45) 45 ++ (iT (s.getLsbD 94) 94 ++ [93]))
  else 91 :: (outT s ++ (iT (s.getLsbD 94) 94 ++ (iT (s.getLsbD 45) 45 ++ [93])))

theorem get_range1 (n j : Nat) (hj : j < 256) : (range n n).getLsbD j = decide (j = n) := by
  rw [range, get_ofFn]
  simp only [hj, decide_true, Bool.true_and]
  rw [Bool.eq_iff_iff]
  simp only [Bool.and_eq_true, decide_eq_true_eq]
  omega
theorem get_gT (x : Bool) (n j : Nat) (hj : j < 256) : (gT x n).getLsbD j = (x && decide (j = n)) := by
  unfold gT
  cases x
  · simp
  · simp [get_range1 n j hj]
theorem get_four (j : Nat) (hj : j < 256) : fourS.getLsbD j = (decide (j = 93) || (decide (j = 91) || (decide (j = 94) || decide (j = 45)))) := by
  simp only [fourS, BitVec.getLsbD_or, get_range1 _ j hj]
theorem set_parts (s : BitVec 256) : gT (s.getLsbD 93) 93 ||| ((s &&& ~~~fourS) ||| (gT (s.getLsbD 91) 91 ||| (gT (s.getLsbD 94) 94 ||| (gT (s.getLsbD 45) 45 ||| 0)))) = s := by
  apply BitVec.eq_of_getLsbD_eq
  intro j hj
  simp only [BitVec.getLsbD_or, BitVec.getLsbD_and, BitVec.getLsbD_not, get_gT _ _ j hj, get_four j hj, hj, decide_true, Bool.true_and]
  by_cases h1 : j = 93
  · subst h1; simp
  by_cases h2 : j = 91
  · subst h2; simp
  by_cases h3 : j = 94
  · subst h3; simp
  by_cases h4 : j = 45
  · subst h4; simp
  simp [h1, h2, h3, h4]
theorem orR_eq (rs : List (Nat × Nat)) (X : BitVec 256) : orR rs X = orAll rs ||| X := by
  have h : ∀ (l : List (Nat × Nat)) (t : BitVec 256), l.foldl (fun t r => t ||| range r.1 r.2) t ||| X = t ||| orR l X := by
    intro l
    induction l with
    | nil => intro t; rfl
    | cons r l ih => intro t; rw [List.foldl_cons, ih, BitVec.or_assoc]; rfl
  have := h rs 0
  rw [orAll, this]; simp
theorem mid_ends (s : BitVec 256) : ∀ r ∈ rsOf (s &&& ~~~fourS), EndB r.1 ∧ EndB r.2 ∧ r.1 ≤ r.2 := by
  intro r hr
  have hinv := rsOf_inv (s &&& ~~~fourS)
  obtain ⟨h1, h2⟩ := hinv.ok r hr
  have key : ∀ j, r.1 ≤ j → j ≤ r.2 → EndB j := by
    intro j h3 h4
    have hj : j < 256 := by omega
    have := (hinv.all j hj).2 ⟨r, hr, h3, h4⟩
    simp only [BitVec.getLsbD_and, BitVec.getLsbD_not, get_four j hj, hj, decide_true, Bool.true_and, Bool.and_eq_true, Bool.not_eq_true', Bool.or_eq_false_iff, decide_eq_false_iff_not] at this
    exact ⟨this.2.1, this.2.2.1, this.2.2.2.1, this.2.2.2.2⟩
  exact ⟨key _ (Nat.le_refl _) h1, key _ h1 (Nat.le_refl _), h1⟩
theorem mid_nil (s : BitVec 256) (h : midT s = []) : s &&& ~~~fourS = 0 := by
  have : rsOf (s &&& ~~~fourS) = [] := by
    cases hr : rsOf (s &&& ~~~fourS) with
    | nil => rfl
    | cons r rs => rw [midT, hr] at h; simp [runT] at h
  rw [← orAll_rsOf (s &&& ~~~fourS), this]; rfl

theorem rd_45 (z : Bool) : Rd (iT z 45 ++ [93]) false (gT z 45 ||| 0) := by
  cases z
  · exact rd_end
  · exact rd_one (.inl (by decide)) (fun h => absurd h (by decide)) (by decide) rd_end
theorem next_45 (z : Bool) : Next (iT z 45 ++ [93]) := by
  cases z
  · exact .inl ⟨93, [], rfl, by decide⟩
  · exact .inr ⟨[], rfl⟩
theorem or_zero (X : BitVec 256) : 0 ||| X = X := by simp
theorem rd_94 (y z : Bool) : Rd (iT y 94 ++ (iT z 45 ++ [93])) false (gT y 94 ||| (gT z 45 ||| 0)) := by
  cases y
  · have := rd_45 z; rw [← or_zero (gT z 45 ||| 0)] at this; exact this
  · exact rd_next (.inl (by decide)) (by decide) (next_45 z) (rd_45 z)
theorem next_94 (y z : Bool) : Next (iT y 94 ++ (iT z 45 ++ [93])) := by
  cases y
  · exact next_45 z
  · exact .inl ⟨94, _, rfl, by decide⟩
theorem rd_91 (x y z first : Bool) (h : first = false ∨ x = true) : Rd (iT x 91 ++ (iT y 94 ++ (iT z 45 ++ [93]))) first (gT x 91 ||| (gT y 94 ||| (gT z 45 ||| 0))) := by
  cases x
  · rcases h with rfl | h
    · have := rd_94 y z; rw [← or_zero (gT y 94 ||| (gT z 45 ||| 0))] at this; exact this
    · exact absurd h (by decide)
  · have h94 := rd_94 y z
    cases y
    · cases z
      · exact rd_one (.inl (by decide)) (fun _ => by decide) (by decide) h94
      · exact rd_dash (.inl (by decide)) h94
    · exact rd_one (.inl (by decide)) (fun _ => by decide) (by decide) h94
theorem next_91 (x y z : Bool) : Next (iT x 91 ++ (iT y 94 ++ (iT z 45 ++ [93]))) := by
  cases x
  · exact next_94 y z
  · exact .inl ⟨91, _, rfl, by decide⟩

theorem rd_out (s : BitVec 256) (h : outT s ≠ []) : Rd (outT s ++ (iT (s.getLsbD 94) 94 ++ (iT (s.getLsbD 45) 45 ++ [93]))) true s := by
  have hm := mid_ends s
  have hp := set_parts s
  have hN := next_runs (rsOf (s &&& ~~~fourS)) _ (fun r hr => (hm r hr).1) (next_91 (s.getLsbD 91) (s.getLsbD 94) (s.getLsbD 45))
  have key : ∀ first, (first = true → midT s = [] → s.getLsbD 91 = true) → Rd (midT s ++ (iT (s.getLsbD 91) 91 ++ (iT (s.getLsbD 94) 94 ++ (iT (s.getLsbD 45) 45 ++ [93])))) first ((s &&& ~~~fourS) ||| (gT (s.getLsbD 91) 91 ||| (gT (s.getLsbD 94) 94 ||| (gT (s.getLsbD 45) 45 ||| 0)))) := by
    intro first hf
    have := rd_runs (rsOf (s &&& ~~~fourS)) _ first _ hm (next_91 (s.getLsbD 91) (s.getLsbD 94) (s.getLsbD 45)) (fun e => rd_91 _ _ _ first (by
      cases first
      · exact .inl rfl
      · exact .inr (hf rfl (by rw [midT, e]; rfl)))) (rd_91 _ _ _ false (.inl rfl))
    rw [orR_eq, orAll_rsOf] at this
    exact this
  rw [outT, List.append_assoc, List.append_assoc] at *
  cases h93 : s.getLsbD 93
  · rw [h93] at hp h
    have := key true (fun _ e => by
      rw [e] at h
      cases h91 : s.getLsbD 91
      · rw [h91] at h; exact absurd rfl h
      · rfl)
    rw [show gT false 93 = 0 from rfl, or_zero] at hp
    rw [hp] at this
    simpa [iT] using this
  · rw [h93] at hp
    have := rd_next (a := 93) (first := true) (.inr rfl) (by decide) hN (key false (fun e => absurd e (by decide)))
    rw [show range 93 93 = gT true 93 from rfl, hp] at this
    exact this

theorem out_head (s : BitVec 256) (h : outT s ≠ []) (T : List Nat) : ∃ c L, outT s ++ T = c :: L ∧ c ≠ 94 := by
  rw [outT] at *
  cases h93 : s.getLsbD 93
  · rw [h93] at h
    cases hr : rsOf (s &&& ~~~fourS) with
    | nil =>
      cases h91 : s.getLsbD 91
      · rw [h91, midT, hr] at h; exact absurd rfl h
      · rw [midT, hr]; exact ⟨91, _, rfl, by decide⟩
    | cons r rs =>
      refine ⟨r.1, (if r.1 + 1 < r.2 then [45] else []) ++ (if r.1 < r.2 then [r.2] else []) ++ rs.flatMap runT ++ iT (s.getLsbD 91) 91 ++ T, ?_, (mid_ends s r (by rw [hr]; simp)).1.2.2.1⟩
      rw [midT, hr]; simp [iT, runT]
  · exact ⟨93, _, rfl, by decide⟩
theorem readR_rd (s : ByteArray) (k c : Nat) (L : List Nat) (X : BitVec 256) (hc : c ≠ 94) (hX : Rd (c :: L) true X) (h : Lies s k (91 :: c :: L)) : readR s k = (X, k + (91 :: c :: L).length, 0, 0) := by
  obtain ⟨h1, h2, h3⟩ := h
  have hle := Lies.le h3
  unfold readR
  rw [if_neg (by omega)]
  rw [show (k : Int).toNat = k from rfl, if_neg (by omega)]
  have es : startR s k = ⟨0, k + 1, 0, 0, false, false⟩ := by rw [startR, if_neg (fun h => hc (by rw [← h3.2.1]; exact h.2))]
  rw [es, hX s (k + 1) 0 false (s.size + 1) h3 (by omega)]
  simp [finR]
  omega
/-- The text of a set is read as the set. -/
theorem readR_text (b : ByteArray) (k : Nat) (s : BitVec 256) (hs : s ≠ range 94 94) (h : Lies b k (textT s)) : readR b k = (s, k + (textT s).length, 0, 0) := by
  unfold textT at h ⊢
  by_cases h0 : s = 0
  · subst h0
    rw [if_pos rfl] at h ⊢
    obtain ⟨g1, e1, g2, e2, g3, e3, g4, e4, g5, e5, g6, e6, _⟩ := h
    have e3' : bt b (k + 2) = 0 := e3
    have e5' : bt b (k + 4) = 255 := e5
    have := readR_npair b k (by omega) e1 e2 (by rw [e3']; exact ⟨by decide, by decide, by decide, by decide⟩) e4 (by rw [e5']; exact ⟨by decide, by decide, by decide, by decide⟩) e6
    rw [this, e3', e5', if_neg (by decide)]
    rw [show ~~~ range 0 255 = (0 : BitVec 256) by decide +kernel]
    rfl
  rw [if_neg h0, if_neg hs] at h ⊢
  by_cases ho : outT s = []
  · rw [if_pos ho] at h ⊢
    have hp := set_parts s
    have ho' := ho
    rw [outT, List.append_eq_nil_iff, List.append_eq_nil_iff] at ho'
    obtain ⟨⟨o1, o2⟩, o3⟩ := ho'
    have h93 : s.getLsbD 93 = false := by cases h : s.getLsbD 93; rfl; rw [h] at o1; exact absurd o1 (by decide)
    have h91 : s.getLsbD 91 = false := by cases h : s.getLsbD 91; rfl; rw [h] at o3; exact absurd o3 (by decide)
    rw [mid_nil s o2, h93, h91, show gT false 93 = 0 from rfl, show gT false 91 = 0 from rfl, or_zero, or_zero, or_zero] at hp
    cases hz : s.getLsbD 45
    · rw [hz] at hp
      cases hy : s.getLsbD 94
      · rw [hy] at hp; exact absurd (hp.symm.trans (by decide +kernel)) h0
      · rw [hy] at hp; exact absurd (hp.symm.trans (by decide +kernel)) hs
    · rw [hz] at h hp
      cases hy : s.getLsbD 94
      · rw [hy] at h hp
        have hX : Rd [45, 93] true (range 45 45 ||| 0) := rd_one (.inl (by decide)) (fun h => absurd h (by decide)) (by decide) rd_end
        rw [show range 45 45 ||| 0 = gT false 94 ||| (gT true 45 ||| 0) from by decide +kernel, hp] at hX
        exact readR_rd b k 45 [93] s (by decide) hX h
      · rw [hy] at h hp
        have hX : Rd [45, 94, 93] true (range 45 45 ||| (range 94 94 ||| 0)) := rd_one (.inl (by decide)) (fun h => absurd h (by decide)) (by decide) (rd_one (.inl (by decide)) (fun h => absurd h (by decide)) (by decide) rd_end)
        rw [show range 45 45 ||| (range 94 94 ||| 0) = gT true 94 ||| (gT true 45 ||| 0) from by decide +kernel, hp] at hX
        exact readR_rd b k 45 [94, 93] s (by decide) hX h
  · rw [if_neg ho] at h ⊢
    have hX := rd_out s ho
    obtain ⟨c, L, e, hc⟩ := out_head s ho (iT (s.getLsbD 94) 94 ++ (iT (s.getLsbD 45) 45 ++ [93]))
    rw [e] at hX h ⊢
    exact readR_rd b k c L s hc hX h

end Go.Proofs.YtldaaelmifbbhaaGreat

/- Words of a pattern, plainly: how the document reads and prints them. -/
namespace Go.Proofs.YtldaaelmifbbhaaGreat
open Go.RowKit BS

structure WN where
  kind : Nat
  pos : Nat
  fin : Nat
  set : BitVec 256
  n : Nat
  m : Int
def zWN : WN := ⟨0, 0, 0, 0, 0, 0⟩
def oneW (t : BitVec 256) (a e : Nat) : WN := ⟨1, a, e, t, 0, 0⟩
/-- The bytes that may stand behind a backslash. -/
def l14 : List Nat := [46, 91, 93, 92, 40, 41, 42, 43, 63, 123, 125, 124, 94, 36]
def four14 (b : Nat) : Bool := l14.contains b
def cntW (s : ByteArray) (a : Nat) : WN × Nat × Nat :=
  match readN s a with
  | (n, m, p, e, k) => if e ≠ 0 then (zWN, e, k) else (⟨5, a, p, 0, n, m⟩, 0, 0)
def brkW (s : ByteArray) (a : Nat) : WN × Nat × Nat :=
  match readR s a with
  | (t, p, e, k) => if e ≠ 0 then (zWN, e, k) else (oneW t a p, 0, 0)
def slashW (s : ByteArray) (a : Nat) : WN × Nat × Nat :=
  if s.size ≤ a + 1 then (zWN, 2, s.size)
  else if four14 (bt s (a + 1)) = false then (zWN, 3, a + 2)
  else (oneW (range (bt s (a + 1)) (bt s (a + 1))) a (a + 2), 0, 0)
def nextA (s : ByteArray) (a : Nat) : WN × Nat × Nat :=
  if bt s a = 40 then (⟨2, a, a + 1, 0, 0, 0⟩, 0, 0)
  else if bt s a = 41 then (⟨3, a, a + 1, 0, 0, 0⟩, 0, 0)
  else if bt s a = 124 then (⟨4, a, a + 1, 0, 0, 0⟩, 0, 0)
  else if bt s a = 42 ∨ bt s a = 43 ∨ bt s a = 63 ∨ bt s a = 123 then cntW s a
  else if bt s a = 91 then brkW s a
  else if bt s a = 46 then (oneW (range 0 255) a (a + 1), 0, 0)
  else if bt s a = 94 ∨ bt s a = 36 then (zWN, 3, a + 1)
  else if bt s a = 92 then slashW s a
  else (oneW (range (bt s a) (bt s a)) a (a + 1), 0, 0)
def nextN (s : ByteArray) (at' : Int) : WN × Nat × Nat :=
  if at' < 0 ∨ (s.size : Int) ≤ at' then (zWN, 1, 0) else nextA s at'.toNat

/-- All words from a place on, behind some. -/
def allN (s : ByteArray) : Nat → Nat → List WN → List WN × Nat × Nat
  | 0, _, l => (l, 0, 0)
  | k + 1, a, l =>
    if s.size ≤ a then (l, 0, 0)
    else match nextA s a with
      | (w, e, p) => if e ≠ 0 then ([], e, p) else allN s k w.fin (l ++ [w])
def wordsN (s : ByteArray) : List WN × Nat × Nat := allN s (s.size + 1) 0 []

def textW (t : BitVec 256) : List Nat :=
  if (el t.getLsbD 256).length = 256 then [46]
  else if (el t.getLsbD 256).length ≠ 1 then textT t
  else match el t.getLsbD 256 with
    | b :: _ => if four14 b = true ∧ b ≠ 93 ∧ b ≠ 125 then [92, b] else [b]
    | [] => []
def printW (w : WN) : List Nat :=
  if w.kind = 1 then textW w.set
  else if w.kind = 2 then [40]
  else if w.kind = 3 then [41]
  else if w.kind = 4 then [124]
  else if w.kind = 5 then textN w.n w.m
  else []

/-! ### What a word is -/
def OkW (w : WN) : Prop := (w.kind = 1 ∧ w.n = 0 ∧ w.m = 0) ∨ ((w.kind = 2 ∨ w.kind = 3 ∨ w.kind = 4) ∧ w.set = 0 ∧ w.n = 0 ∧ w.m = 0) ∨ (w.kind = 5 ∧ w.set = 0 ∧ rightN w.n w.m = true)
/-- The word at a place is one, which ends within the text, or there is an error, whose place is in the text. -/
def EndW (s : ByteArray) (a : Nat) (r : WN × Nat × Nat) : Prop :=
  (r.2.1 = 0 ∧ r.2.2 = 0 ∧ OkW r.1 ∧ r.1.pos = a ∧ a < r.1.fin ∧ r.1.fin ≤ s.size) ∨
  (r.2.1 ≠ 0 ∧ r.2.1 ≠ 1 ∧ r.1 = zWN ∧ a < r.2.2 ∧ r.2.2 ≤ s.size ∧ (r.2.1 = 2 → r.2.2 = s.size))
theorem cntW_end (s : ByteArray) (a : Nat) (h : a < s.size) (hb : bt s a = 42 ∨ bt s a = 43 ∨ bt s a = 63 ∨ bt s a = 123) : EndW s a (cntW s a) := by
  unfold cntW
  have h1 : (readN s a).2.2.2.1 ≠ 1 := by
    unfold readN
    rw [if_neg (by omega), show (a : Int).toNat = a from rfl]
    unfold signN
    rcases hb with e | e | e | e
    · rw [if_pos e]; exact fun h => by cases h
    · rw [if_neg (by omega), if_pos e]; exact fun h => by cases h
    · rw [if_neg (by omega), if_neg (by omega), if_pos e]; exact fun h => by cases h
    · rw [if_neg (by omega), if_neg (by omega), if_neg (by omega), if_pos e]
      rcases runN_end s a (s.size - (a + 1)) (a + 1) ⟨0, 0, 0, false⟩ inv_start (by omega) (by omega) with h | h | h
      · unfold bracesN; rw [h.1]; decide
      · unfold bracesN; rcases h.1 with h | h <;> rw [h] <;> decide
      · unfold bracesN; rw [h]; exact fun h => by cases h
  rcases readN_cases s a with h' | ⟨k, hk, hE⟩
  · rw [h'] at h1; exact absurd rfl h1
  obtain rfl : a = k := by omega
  generalize readN s a = R at *
  obtain ⟨n, m, p, e, k⟩ := R
  simp only [EndN] at hE h1
  rcases hE with ⟨rfl, rfl, g1, g2, g3⟩ | ⟨g1, _, _, _, g5, g6⟩ | g
  · exact .inl ⟨rfl, rfl, .inr (.inr ⟨rfl, rfl, g3⟩), rfl, g1, g2⟩
  · simp only
    rw [if_pos (by omega)]
    exact .inr ⟨by simp only; omega, h1, rfl, g5, g6, fun h => by simp only at h; omega⟩
  · cases g
    exact .inr ⟨(fun h => by cases h), (fun h => by cases h), rfl, h, Nat.le_refl _, fun _ => rfl⟩
end Go.Proofs.YtldaaelmifbbhaaGreat

/- Texts of bytes told by numbers. -/
namespace Go.Proofs.YtldaaelmifbbhaaGreat
open Go.RowKit BS

theorem lies_of (s : ByteArray) : ∀ (L : List Nat) (p : Nat), p + L.length ≤ s.size → (∀ i (h : i < L.length), bt s (p + i) = L[i]) → Lies s p L
  | [], p, h, _ => h
  | a :: L, p, h, hb => by
    simp only [List.length_cons] at h
    refine ⟨by omega, hb 0 (by simp), lies_of s L (p + 1) (by omega) fun i hi => ?_⟩
    have := hb (i + 1) (by simp; omega)
    simpa [Nat.add_assoc, Nat.add_comm 1 i] using this
theorem lies_mid (a b : ByteArray) (L : List Nat) (hL : ∀ x ∈ L, x < 256) : Lies (a ++ ofT L ++ b) a.size L := by
  have hs : (a ++ ofT L).size = a.size + L.length := by rw [ByteArray.size_append, size_ofT]
  refine lies_of _ L _ (by rw [ByteArray.size_append, hs]; omega) fun i hi => ?_
  rw [bt_app, if_pos (by omega), bt_app, if_neg (by omega), Nat.add_sub_cancel_left, bt_ofT L hL i hi]

theorem iT_lt (x : Bool) (n : Nat) (hn : n < 256) : ∀ y ∈ iT x n, y < 256 := by
  intro y hy
  cases x
  · simp [iT] at hy
  · simp [iT] at hy; omega
theorem iT_len (x : Bool) (n : Nat) : (iT x n).length ≤ 1 := by cases x <;> simp [iT]
theorem mid_lt (s : BitVec 256) : ∀ y ∈ midT s, y < 256 := by
  intro y hy
  obtain ⟨r, hr, hy⟩ := List.mem_flatMap.1 hy
  obtain ⟨h1, h2⟩ := (rsOf_inv (s &&& ~~~fourS)).ok r hr
  simp only [runT, List.mem_append, List.mem_singleton] at hy
  rcases hy with (rfl | hy) | hy
  · omega
  · split at hy
    · simp at hy; omega
    · simp at hy
  · split at hy
    · simp at hy; omega
    · simp at hy
theorem out_lt (s : BitVec 256) : ∀ y ∈ outT s, y < 256 := by
  intro y hy
  rcases List.mem_append.1 hy with hy | hy
  · rcases List.mem_append.1 hy with hy | hy
    · exact iT_lt _ _ (by decide) y hy
    · exact mid_lt s y hy
  · exact iT_lt _ _ (by decide) y hy
theorem text_lt (s : BitVec 256) : ∀ y ∈ textT s, y < 256 := by
  unfold textT
  refine ite_ok (fun L : List Nat => ∀ y ∈ L, y < 256) (fun _ => by decide) (fun _ => ?_)
  refine ite_ok (fun L : List Nat => ∀ y ∈ L, y < 256) (fun _ => by decide) (fun _ => ?_)
  refine ite_ok (fun L : List Nat => ∀ y ∈ L, y < 256) (fun _ => ?_) (fun _ => ?_)
  · intro y hy
    rcases List.mem_cons.1 hy with rfl | hy
    · decide
    rcases List.mem_append.1 hy with hy | hy
    · exact iT_lt _ _ (by decide) y hy
    rcases List.mem_append.1 hy with hy | hy
    · exact iT_lt _ _ (by decide) y hy
    · simp at hy; omega
  · intro y hy
    rcases List.mem_cons.1 hy with rfl | hy
    · decide
    rcases List.mem_append.1 hy with hy | hy
    · exact out_lt s y hy
    rcases List.mem_append.1 hy with hy | hy
    · exact iT_lt _ _ (by decide) y hy
    rcases List.mem_append.1 hy with hy | hy
    · exact iT_lt _ _ (by decide) y hy
    · simp at hy; omega
theorem runs_txt_len (rs : List (Nat × Nat)) : (rs.flatMap runT).length ≤ 3 * rs.length := by
  induction rs with
  | nil => simp
  | cons r rs ih =>
    have : (runT r).length ≤ 3 := by
      unfold runT; split <;> split <;> simp
    rw [List.flatMap_cons, List.length_append, List.length_cons]; omega
theorem text_len (s : BitVec 256) : (textT s).length ≤ 800 := by
  have h1 := iT_len (s.getLsbD 93) 93
  have h2 := iT_len (s.getLsbD 91) 91
  have h3 := iT_len (s.getLsbD 94) 94
  have h4 := iT_len (s.getLsbD 45) 45
  have h5 := runs_txt_len (rsOf (s &&& ~~~fourS))
  have h6 := rsOf_len (s &&& ~~~fourS)
  unfold textT
  refine ite_ok (fun L : List Nat => L.length ≤ 800) (fun _ => by decide) (fun _ => ?_)
  refine ite_ok (fun L : List Nat => L.length ≤ 800) (fun _ => by decide) (fun _ => ?_)
  refine ite_ok (fun L : List Nat => L.length ≤ 800) (fun _ => ?_) (fun _ => ?_)
  · simp only [List.length_cons, List.length_append, List.length_nil]; omega
  · simp only [outT, midT, List.length_cons, List.length_append, List.length_nil]; omega
theorem text_nil (s : BitVec 256) : textT s = [] ↔ s = range 94 94 := by
  constructor
  · intro h
    unfold textT at h
    by_cases h0 : s = 0
    · rw [if_pos h0] at h; simp at h
    · rw [if_neg h0] at h
      by_cases h1 : s = range 94 94
      · exact h1
      · rw [if_neg h1] at h
        split at h <;> simp at h
  · intro h
    unfold textT
    rw [if_neg (by rw [h]; decide +kernel), if_pos h]

/-- The text of a set, with anything ahead and behind, is read as the set. -/
theorem readR_back (a b : ByteArray) (s : BitVec 256) (hs : s ≠ range 94 94) : readR (a ++ ofT (textT s) ++ b) a.size = (s, a.size + (textT s).length, 0, 0) :=
  readR_text _ _ s hs (lies_mid a b _ (text_lt s))

end Go.Proofs.YtldaaelmifbbhaaGreat

/- Words of a pattern, plainly: where a word ends; what a word's text is read as. -/
namespace Go.Proofs.YtldaaelmifbbhaaGreat
open Go.RowKit BS

theorem brkW_end (s : ByteArray) (a : Nat) (h : a < s.size) (hb : bt s a = 91) : EndW s a (brkW s a) := by
  unfold brkW
  rcases readR_end s a with ⟨_, h' | h' | h'⟩ | ⟨_, _, _, hE⟩
  · omega
  · rw [show (a : Int).toNat = a from rfl] at h'; omega
  · rw [show (a : Int).toNat = a from rfl] at h'; exact absurd hb h'
  rw [show (a : Int).toNat = a from rfl] at hE
  generalize readR s a = R at *
  obtain ⟨t, p, e, k⟩ := R
  simp only at hE ⊢
  rcases hE with ⟨rfl, rfl, g1, g2⟩ | ⟨g1, g2, _, _, g3, g4, g5⟩
  · exact .inl ⟨rfl, rfl, .inl ⟨rfl, rfl, rfl⟩, rfl, g1, g2⟩
  · rw [if_pos g1]
    exact .inr ⟨g1, g2, rfl, g3, g4, g5⟩
theorem nextA_end (s : ByteArray) (a : Nat) (h : a < s.size) : EndW s a (nextA s a) := by
  unfold nextA
  by_cases h1 : bt s a = 40
  · rw [if_pos h1]; exact .inl ⟨rfl, rfl, .inr (.inl ⟨.inl rfl, rfl, rfl, rfl⟩), rfl, by simp only; omega, by simp only; omega⟩
  rw [if_neg h1]
  by_cases h2 : bt s a = 41
  · rw [if_pos h2]; exact .inl ⟨rfl, rfl, .inr (.inl ⟨.inr (.inl rfl), rfl, rfl, rfl⟩), rfl, by simp only; omega, by simp only; omega⟩
  rw [if_neg h2]
  by_cases h3 : bt s a = 124
  · rw [if_pos h3]; exact .inl ⟨rfl, rfl, .inr (.inl ⟨.inr (.inr rfl), rfl, rfl, rfl⟩), rfl, by simp only; omega, by simp only; omega⟩
  rw [if_neg h3]
  by_cases h4 : bt s a = 42 ∨ bt s a = 43 ∨ bt s a = 63 ∨ bt s a = 123
  · rw [if_pos h4]; exact cntW_end s a h h4
  rw [if_neg h4]
  by_cases h5 : bt s a = 91
  · rw [if_pos h5]; exact brkW_end s a h h5
  rw [if_neg h5]
  have one : ∀ t e, a < e → e ≤ s.size → EndW s a (oneW t a e, 0, 0) := fun t e h1 h2 => .inl ⟨rfl, rfl, .inl ⟨rfl, rfl, rfl⟩, rfl, h1, h2⟩
  by_cases h6 : bt s a = 46
  · rw [if_pos h6]; exact one _ _ (by omega) (by omega)
  rw [if_neg h6]
  by_cases h7 : bt s a = 94 ∨ bt s a = 36
  · rw [if_pos h7]; exact .inr ⟨(fun h => by cases h), (fun h => by cases h), rfl, by simp only; omega, by simp only; omega, fun h => by cases h⟩
  rw [if_neg h7]
  by_cases h8 : bt s a = 92
  · rw [if_pos h8]
    unfold slashW
    by_cases h9 : s.size ≤ a + 1
    · rw [if_pos h9]; exact .inr ⟨(fun h => by cases h), (fun h => by cases h), rfl, h, Nat.le_refl _, fun _ => rfl⟩
    rw [if_neg h9]
    by_cases h10 : four14 (bt s (a + 1)) = false
    · rw [if_pos h10]; exact .inr ⟨(fun h => by cases h), (fun h => by cases h), rfl, by simp only; omega, by simp only; omega, fun h => by cases h⟩
    · rw [if_neg h10]; exact one _ _ (by omega) (by omega)
  · rw [if_neg h8]; exact one _ _ (by omega) (by omega)

/-! ### Counts, moved -/
def shN (d : Nat) (r : Nat × Int × Nat × Nat × Nat) : Nat × Int × Nat × Nat × Nat := if r.2.2.2.1 = 0 then (r.1, r.2.1, r.2.2.1 + d, 0, 0) else (0, 0, 0, r.2.2.2.1, r.2.2.2.2 + d)
theorem bt_off (p s : ByteArray) (i : Nat) : bt (p ++ s) (p.size + i) = bt s i := by rw [bt_app, if_neg (by omega), show p.size + i - p.size = i by omega]
theorem runN_shift (p s : ByteArray) : ∀ k i st, runN (p ++ s) k (p.size + i) st = shN p.size (runN s k i st)
  | 0, i, st => by
    show ((0, 0, 0, 2, (p ++ s).size) : Nat × Int × Nat × Nat × Nat) = (0, 0, 0, 2, s.size + p.size)
    rw [ByteArray.size_append, Nat.add_comm]
  | k + 1, i, st => by
    rw [runN, runN, bt_off]
    cases hs : stepN st (bt s i) with
    | bad e =>
      have he := stepN_bad _ _ _ hs
      simp only [shN]
      rw [if_neg (by omega), show p.size + i + 1 = i + 1 + p.size by omega]
    | fin n m => simp only [shN, if_true]; rw [show p.size + i + 1 = i + 1 + p.size by omega]
    | on st' => simp only; exact runN_shift p s k (i + 1) st'
theorem readN_shift (p s : ByteArray) (a : Nat) (h : a < s.size) (hne : (readN s a).2.2.2.1 ≠ 1) : readN (p ++ s) ((p.size + a : Nat) : Int) = shN p.size (readN s a) := by
  have hz : (p ++ s).size = p.size + s.size := ByteArray.size_append
  unfold readN at hne ⊢
  rw [if_neg (by omega), show (a : Int).toNat = a from rfl] at hne
  rw [if_neg (by omega), if_neg (by omega), show ((p.size + a : Nat) : Int).toNat = p.size + a from rfl, show (a : Int).toNat = a from rfl]
  unfold signN at hne ⊢
  rw [bt_off]
  by_cases h1 : bt s a = 42
  · rw [if_pos h1, if_pos h1]; simp only [shN, if_true]; rw [show p.size + a + 1 = a + 1 + p.size by omega]
  rw [if_neg h1, if_neg h1]
  by_cases h2 : bt s a = 43
  · rw [if_pos h2, if_pos h2]; simp only [shN, if_true]; rw [show p.size + a + 1 = a + 1 + p.size by omega]
  rw [if_neg h2, if_neg h2]
  by_cases h3 : bt s a = 63
  · rw [if_pos h3, if_pos h3]; simp only [shN, if_true]; rw [show p.size + a + 1 = a + 1 + p.size by omega]
  rw [if_neg h3, if_neg h3]
  by_cases h4 : bt s a = 123
  · rw [if_pos h4, if_pos h4]
    unfold bracesN
    rw [hz, show p.size + s.size - (p.size + a + 1) = s.size - (a + 1) by omega, show p.size + a + 1 = p.size + (a + 1) by omega]
    exact runN_shift p s _ _ _
  · rw [if_neg h1, if_neg h2, if_neg h3, if_neg h4] at hne; exact absurd rfl hne
theorem agrApp (s l : ByteArray) (n : Nat) (h : n ≤ s.size) : Agr n s (s ++ l) := ⟨h, by rw [ByteArray.size_append]; omega, fun i hi => by rw [bt_app, if_pos (by omega)]⟩
/-- The text of counts is read as they are, whatever stands ahead of it, and behind. -/
theorem readN_back (p q : ByteArray) (n : Nat) (m : Int) (h : rightN n m = true) :
    textN n m ≠ [] ∧ readN (p ++ ofT (textN n m) ++ q) p.size = (n, m, p.size + (textN n m).length, 0, 0) := by
  obtain ⟨h1, N, hN, h2⟩ := back_read n m h
  obtain rfl : n = N := by omega
  refine ⟨h1, ?_⟩
  have hl : 0 < (textN n m).length := List.length_pos_iff.2 h1
  have e1 : readN (ofT (textN n m) ++ q) 0 = (n, m, (textN n m).length, 0, 0) := by
    rw [← h2]
    refine readN_agr _ _ 0 (by rw [h2]; exact fun h => by cases h) (by rw [h2]; exact fun h => by cases h) ?_
    rw [h2]
    exact agrApp _ _ _ (by rw [size_ofT]; exact Nat.le_refl _)
  rw [ByteArray.append_assoc]
  have hlt : 0 < (ofT (textN n m) ++ q).size := by rw [ByteArray.size_append, size_ofT]; omega
  have e2 := readN_shift p (ofT (textN n m) ++ q) 0 hlt (by rw [show ((0 : Nat) : Int) = 0 from rfl, e1]; exact fun h => by cases h)
  rw [show ((0 : Nat) : Int) = 0 from rfl, e1] at e2
  rw [show p.size + 0 = p.size from rfl] at e2
  rw [e2]
  simp only [shN, if_true]
  rw [Nat.add_comm]
theorem allN_more (s : ByteArray) (k a : Nat) (acc : List WN) (w : WN) (h : a < s.size) (hn : nextA s a = (w, 0, 0)) : allN s (k + 1) a acc = allN s k w.fin (acc ++ [w]) := by
  rw [allN, if_neg (by omega), hn]; rfl
theorem allN_stop (s : ByteArray) (k a : Nat) (acc : List WN) (w : WN) (e p : Nat) (h : a < s.size) (hn : nextA s a = (w, e, p)) (he : e ≠ 0) : allN s (k + 1) a acc = ([], e, p) := by
  rw [allN, if_neg (by omega), hn]; exact if_pos he
theorem allN_end (s : ByteArray) (k : Nat) (acc : List WN) : allN s (k + 1) s.size acc = (acc, 0, 0) := by
  rw [allN, if_pos (Nat.le_refl _)]
end Go.Proofs.YtldaaelmifbbhaaGreat

/- How the document parses, plainly; what it has read is right so far. Stage 7. -/
namespace Go.Proofs.YtldaaelmifbbhaaGreat
open Go.RowKit BS

/-- What was read so far: the nodes; of each group that is open, from the inside on, how many pieces its row has, and how many rows it has ahead; how many groups began. -/
structure PS where
  l : List NdN
  st : List (Nat × Nat)
  groups : Nat
def nd1 : NdN := ⟨1, 0, 0, 0, 0⟩
def nd5 (n : Nat) : NdN := ⟨5, n, 0, 0, 0⟩
def nd6 (n : Nat) : NdN := ⟨6, n, 0, 0, 0⟩
def rowT (n : Nat) : List NdN := if n = 0 then [nd1] else if n = 1 then [] else [nd5 n]
def rowsT (r : Nat) : List NdN := if 1 < r then [nd6 r] else []
def rowP (x : PS) : PS := match x.st with
  | (n, r) :: st => ⟨x.l ++ rowT n, (0, r + 1) :: st, x.groups⟩
  | [] => x
def rowsP (x : PS) : PS := match x.st with
  | (n, r) :: st => ⟨x.l ++ rowT n ++ rowsT (r + 1), st, x.groups⟩
  | [] => x
def bumpP : List (Nat × Nat) → List (Nat × Nat)
  | (n, r) :: st => (n + 1, r) :: st
  | [] => []
/-- What the first byte of a word alone tells. -/
def firstP (x : PS) (b : Nat) : Nat := match x.st with
  | (n, _) :: st =>
    if b = 42 ∨ b = 43 ∨ b = 63 ∨ b = 123 then (if n = 0 then 7 else 0)
    else if b = 41 then (if st = [] then 8 else 0)
    else if b = 40 then (if x.groups = 9 then 9 else 0) else 0
  | [] => 0
def takeP (x : PS) (w : WN) : PS :=
  if w.kind = 1 then ⟨x.l ++ [⟨2, 0, 0, 0, w.set⟩], bumpP x.st, x.groups⟩
  else if w.kind = 2 then ⟨x.l, (0, 0) :: x.st, x.groups + 1⟩
  else if w.kind = 3 then ⟨(rowsP x).l ++ [ndG], bumpP (rowsP x).st, x.groups⟩
  else if w.kind = 4 then rowP x
  else if w.kind = 5 then ⟨x.l ++ [⟨4, 1, w.n, w.m, 0⟩], x.st, x.groups⟩
  else x
def zPS : PS := ⟨[], [], 0⟩
def readP (s : ByteArray) : Nat → Nat → PS → PS × Nat × Nat × Nat
  | 0, _, _ => (zPS, 0, 0, 0)
  | k + 1, a, x =>
    if s.size ≤ a then (if 1 < x.st.length then (zPS, x.st.length - 1, 2, s.size) else (rowsP x, 0, 0, 0))
    else if firstP x (bt s a) ≠ 0 then (zPS, 0, firstP x (bt s a), a + 1)
    else match nextA s a with
      | (w, e, p) => if e ≠ 0 then (zPS, 0, e, p) else readP s k w.fin (takeP x w)
def sPS : PS := ⟨[], [(0, 0)], 0⟩
def parseN (s : ByteArray) : PS × Nat × Nat × Nat := readP s (s.size + 1) 0 sPS

/-! ### What is read is right so far -/
/-- The kinds of what stands side by side: each open group's rows, and its row's pieces. -/
def Lv : List (Nat × Nat) → List Int → Prop
  | [], ks => ks = []
  | (n, r) :: st, ks => ∃ p q rest, ks = p ++ (q ++ rest) ∧ p.length = n ∧ q.length = r ∧ (∀ k ∈ p, pieceF k = true) ∧ (∀ k ∈ q, (k != 6) = true) ∧ Lv st rest
theorem piece_not6 (k : Int) (h : pieceF k = true) : (k != 6) = true := by
  unfold pieceF at h
  simp at h
  rw [bne_iff_ne]
  omega
theorem row_inv (l : List NdN) (ks : List Int) (n r : Nat) (st : List (Nat × Nat)) (h : kstF [] l = some ks) (hL : Lv ((n, r) :: st) ks) : ∃ ks', kstF [] (l ++ rowT n) = some ks' ∧ Lv ((0, r + 1) :: st) ks' := by
  obtain ⟨p, q, rest, rfl, hp, hq, h1, h2, h3⟩ := hL
  unfold rowT
  by_cases h0 : n = 0
  · subst h0
    obtain rfl : p = [] := List.eq_nil_of_length_eq_zero hp
    rw [if_pos rfl, kstF_snoc l nd1 [] _ h]
    refine ⟨1 :: (q ++ rest), ?_, [], 1 :: q, rest, rfl, rfl, by rw [List.length_cons, hq], fun k hk => by simp at hk, fun k hk => ?_, h3⟩
    · unfold stepK
      rw [if_pos ⟨by decide, by decide, Nat.zero_le _, rfl⟩]
      rfl
    · rcases List.mem_cons.1 hk with rfl | hk
      · decide
      · exact h2 k hk
  rw [if_neg h0]
  by_cases hn1 : n = 1
  · subst hn1
    rw [if_pos rfl, List.append_nil]
    refine ⟨_, h, [], p ++ q, rest, by rw [List.nil_append, List.append_assoc], rfl, by rw [List.length_append, hp, hq]; omega, fun k hk => by simp at hk, fun k hk => ?_, h3⟩
    rcases List.mem_append.1 hk with hk | hk
    · exact piece_not6 k (h1 k hk)
    · exact h2 k hk
  rw [if_neg hn1, kstF_snoc l (nd5 n) [] _ h]
  refine ⟨5 :: (q ++ rest), ?_, [], 5 :: q, rest, rfl, rfl, by rw [List.length_cons, hq], fun k hk => by simp at hk, fun k hk => ?_, h3⟩
  · unfold stepK
    have hk : (nd5 n).kids.toNat = n := rfl
    have ht : (p ++ (q ++ rest)).take n = p := by rw [List.take_left' hp]
    have hd : (p ++ (q ++ rest)).drop n = q ++ rest := by rw [List.drop_left' hp]
    have hA : nodeF (nd5 n) = true := by
      unfold nodeF nd5
      simp <;> omega
    have hB : (0 : Int) ≤ (nd5 n).kids := by
      show (0 : Int) ≤ (n : Int)
      omega
    have hC : n ≤ (p ++ (q ++ rest)).length := by rw [List.length_append]; omega
    have hD : (p.all fun k => kidF (nd5 n).kind k) = true := by
      rw [List.all_eq_true]
      intro k hk
      show kidF 5 k = true
      unfold kidF
      rw [if_neg (by decide), if_pos (.inr rfl)]
      exact h1 k hk
    rw [hk, ht, hd, if_pos ⟨hA, hB, hC, hD⟩]
    rfl
  · rcases List.mem_cons.1 hk with rfl | hk
    · decide
    · exact h2 k hk
theorem rows_inv (l : List NdN) (ks : List Int) (n r : Nat) (st : List (Nat × Nat)) (h : kstF [] l = some ks) (hL : Lv ((n, r) :: st) ks) : ∃ k rest, kstF [] (l ++ rowT n ++ rowsT (r + 1)) = some (k :: rest) ∧ Lv st rest := by
  obtain ⟨ks', h1, p, q, rest, rfl, hp, hq, _, g2, g3⟩ := row_inv l ks n r st h hL
  obtain rfl : p = [] := List.eq_nil_of_length_eq_zero hp
  rw [List.nil_append] at h1
  unfold rowsT
  by_cases hr : 1 < r + 1
  · rw [if_pos hr, kstF_snoc _ (nd6 (r + 1)) [] _ h1]
    refine ⟨6, rest, ?_, g3⟩
    unfold stepK
    have hk : (nd6 (r + 1)).kids.toNat = r + 1 := rfl
    have ht : (q ++ rest).take (r + 1) = q := by rw [List.take_left' hq]
    have hd : (q ++ rest).drop (r + 1) = rest := by rw [List.drop_left' hq]
    have hA : nodeF (nd6 (r + 1)) = true := by
      unfold nodeF nd6
      simp <;> omega
    have hB : (0 : Int) ≤ (nd6 (r + 1)).kids := by
      show (0 : Int) ≤ ((r + 1 : Nat) : Int)
      omega
    have hC : r + 1 ≤ (q ++ rest).length := by rw [List.length_append]; omega
    have hD : (q.all fun k => kidF (nd6 (r + 1)).kind k) = true := by
      rw [List.all_eq_true]
      intro k hk
      show kidF 6 k = true
      unfold kidF
      rw [if_neg (by decide), if_neg (by decide), if_pos rfl]
      exact g2 k hk
    rw [hk, ht, hd, if_pos ⟨hA, hB, hC, hD⟩]
    rfl
  · rw [if_neg hr, List.append_nil, h1]
    obtain ⟨k, rfl⟩ := List.length_eq_one_iff.1 (show q.length = 1 by omega)
    exact ⟨k, rest, rfl, g3⟩
theorem lv_bump (k : Int) (hk : pieceF k = true) (st : List (Nat × Nat)) (hne : st ≠ []) (ks : List Int) (h : Lv st ks) : Lv (bumpP st) (k :: ks) := by
  obtain _ | ⟨⟨n, r⟩, st⟩ := st
  · exact absurd rfl hne
  · obtain ⟨p, q, rest, rfl, hp, hq, h1, h2, h3⟩ := h
    refine ⟨k :: p, q, rest, rfl, by rw [List.length_cons, hp], hq, fun y hy => ?_, h2, h3⟩
    rcases List.mem_cons.1 hy with rfl | hy
    · exact hk
    · exact h1 y hy
def g3 (l : List NdN) : Nat := (l.map NdN.kind).countP (· == 3)
theorem g3_app (l m : List NdN) : g3 (l ++ m) = g3 l + g3 m := by unfold g3; rw [List.map_append, List.countP_append]
theorem g3_row (n : Nat) : g3 (rowT n) = 0 := by
  unfold rowT
  by_cases h : n = 0
  · rw [if_pos h]; rfl
  · rw [if_neg h]
    by_cases h1 : n = 1
    · rw [if_pos h1]; rfl
    · rw [if_neg h1]; rfl
theorem g3_rows (n : Nat) : g3 (rowsT n) = 0 := by unfold rowsT; split <;> rfl
/-- All that was read is right, and the groups that began are those that ended and those that are open. -/
def PInv (x : PS) : Prop := x.st ≠ [] ∧ (∃ ks, kstF [] x.l = some ks ∧ Lv x.st ks) ∧ g3 x.l + x.st.length = x.groups + 1 ∧ x.groups ≤ 9
theorem sPS_inv : PInv sPS := ⟨by decide, ⟨[], rfl, [], [], [], rfl, rfl, rfl, fun k hk => by simp at hk, fun k hk => by simp at hk, rfl⟩, rfl, by decide⟩
theorem take_inv (s : ByteArray) (a : Nat) (x : PS) (w : WN) (h : PInv x) (hf : firstP x (bt s a) = 0) (hok : OkW w)
    (hk2 : w.kind = 2 → bt s a = 40) (hk3 : w.kind = 3 → bt s a = 41) (hk5 : w.kind = 5 → bt s a = 42 ∨ bt s a = 43 ∨ bt s a = 63 ∨ bt s a = 123) : PInv (takeP x w) := by
  obtain ⟨hne, ⟨ks, h1, h2⟩, h3, h4⟩ := h
  obtain ⟨l, st, gr⟩ := x
  obtain _ | ⟨⟨n, r⟩, st⟩ := st
  · exact absurd rfl hne
  unfold takeP
  by_cases c1 : w.kind = 1
  · rw [if_pos c1]
    refine ⟨by simp [bumpP], ⟨2 :: ks, ?_, lv_bump 2 (by decide) _ hne ks h2⟩, ?_, h4⟩
    · rw [kstF_snoc l _ [] _ h1]
      unfold stepK
      rw [if_pos ⟨by unfold nodeF; simp, by show (0 : Int) ≤ 0; decide, Nat.zero_le _, rfl⟩]
      rfl
    · rw [g3_app]
      simp only [bumpP, List.length_cons] at h3 ⊢
      have : g3 [⟨2, 0, 0, 0, w.set⟩] = 0 := rfl
      omega
  rw [if_neg c1]
  by_cases c2 : w.kind = 2
  · rw [if_pos c2]
    have hb := hk2 c2
    have hg : gr ≠ 9 := fun h9 => by
      unfold firstP at hf
      simp only at hf
      rw [if_neg (by omega), if_neg (by omega), if_pos hb, if_pos h9] at hf
      cases hf
    simp only at h4
    refine ⟨by simp, ⟨ks, h1, [], [], ks, rfl, rfl, rfl, fun k hk => by simp at hk, fun k hk => by simp at hk, h2⟩, ?_, by simp only; omega⟩
    simp only [List.length_cons] at h3 ⊢
    omega
  rw [if_neg c2]
  by_cases c3 : w.kind = 3
  · rw [if_pos c3]
    have hb := hk3 c3
    have hst : st ≠ [] := fun hs => by
      unfold firstP at hf
      simp only at hf
      rw [if_neg (by omega), if_pos hb, if_pos hs] at hf
      cases hf
    obtain ⟨k, rest, g1, g2⟩ := rows_inv l ks n r st h1 h2
    refine ⟨?_, ⟨3 :: rest, ?_, lv_bump 3 (by decide) st hst rest g2⟩, ?_, h4⟩
    · show bumpP st ≠ []
      obtain _ | ⟨⟨n', r'⟩, st'⟩ := st
      · exact absurd rfl hst
      · simp [bumpP]
    · show kstF [] (l ++ rowT n ++ rowsT (r + 1) ++ [ndG]) = _
      rw [kstF_snoc _ ndG [] _ g1]
      unfold stepK
      rw [if_pos ⟨by decide, by decide, by simp [ndG], rfl⟩]
      rfl
    · show g3 (l ++ rowT n ++ rowsT (r + 1) ++ [ndG]) + (bumpP st).length = gr + 1
      rw [g3_app, g3_app, g3_app, g3_row, g3_rows]
      have : g3 [ndG] = 1 := rfl
      have hbl : (bumpP st).length = st.length := by
        obtain _ | ⟨⟨n', r'⟩, st'⟩ := st
        · rfl
        · rfl
      simp only [List.length_cons] at h3
      omega
  rw [if_neg c3]
  by_cases c4 : w.kind = 4
  · rw [if_pos c4]
    obtain ⟨ks', g1, g2⟩ := row_inv l ks n r st h1 h2
    refine ⟨by simp [rowP], ⟨ks', g1, g2⟩, ?_, h4⟩
    show g3 (l ++ rowT n) + ((0, r + 1) :: st).length = gr + 1
    rw [g3_app, g3_row]
    simp only [List.length_cons] at h3 ⊢
    omega
  rw [if_neg c4]
  by_cases c5 : w.kind = 5
  · rw [if_pos c5]
    have hb := hk5 c5
    have hn : n ≠ 0 := fun h0 => by
      unfold firstP at hf
      simp only at hf
      rw [if_pos hb, if_pos h0] at hf
      cases hf
    obtain ⟨p, q, rest, rfl, hp, hq, g1, g2, g3'⟩ := h2
    obtain _ | ⟨k, p⟩ := p
    · simp at hp; omega
    have hr : rightN w.n w.m = true := by
      rcases hok with h | h | h
      · omega
      · omega
      · exact h.2.2
    refine ⟨by simp, ⟨4 :: (p ++ (q ++ rest)), ?_, 4 :: p, q, rest, rfl, hp, hq, fun y hy => ?_, g2, g3'⟩, ?_, h4⟩
    · rw [kstF_snoc l _ [] _ h1]
      unfold stepK
      have hA : nodeF ⟨4, 1, w.n, w.m, 0⟩ = true := by
        unfold nodeF
        simp [hr]
      have hD : (([k] : List Int).all fun y => kidF 4 y) = true := by
        have := g1 k (List.mem_cons_self ..)
        simp only [List.all_cons, List.all_nil, Bool.and_true]
        unfold kidF
        rw [if_neg (by decide), if_pos (.inl rfl)]
        exact this
      rw [if_pos ⟨hA, by show (0 : Int) ≤ 1; decide, by simp, hD⟩]
      rfl
    · rcases List.mem_cons.1 hy with rfl | hy
      · decide
      · exact g1 y (List.mem_cons_of_mem _ hy)
    · rw [g3_app]
      have : g3 [⟨4, 1, w.n, w.m, 0⟩] = 0 := rfl
      simp only at h3 ⊢
      omega
  · rw [if_neg c5]
    exact ⟨hne, ⟨ks, h1, h2⟩, h3, h4⟩
end Go.Proofs.YtldaaelmifbbhaaGreat

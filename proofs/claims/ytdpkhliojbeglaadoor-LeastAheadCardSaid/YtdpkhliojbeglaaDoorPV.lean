/- Texts put together: Trr Trs Trt. -/
import Derived.Test.YtdpkhliojbeglaaDoorPQ
import Derived.Test.YtdpkhliojbeglaaDoorPD
import Derived.Test.YtdpkhliojbeglaaDoorPN
import Derived.Test.YtdpkhliojbeglaaDoorPE
import Derived.Test.YtdpkhliojbeglaaDoorPB
import Derived.BigQuiet
import Derived.Deep.QuietTactic
/- How the developers read a parse tree, plainly: it is the document's. Stage 14. -/
namespace Go.Proofs.YtdpkhliojbeglaaDoor
open Go.RowKit

/-- The kids of a Star, as long as something is left. -/
def agF (rd : Nat → Nat → Option (Nat × Nat)) (e : Int) : Nat → Nat → Nat → Option (Nat × Nat)
  | 0, _, _ => none
  | m + 1, i, at_ => if (at_ : Int) < e then (rd i at_).bind fun r => if r.1 = at_ then none else agF rd e m r.2 r.1 else some (at_, i)
/-- Which part of an Alt. -/
def chF (x : NdN) (t : List EnN) (i : Nat) : Nat := if i < t.length ∧ (atE t i).node = x.n then x.n.toNat else x.kids.toNat
/-- The kids of a node of depth d, from f on, that is said to end at e. -/
def kdD (rd : Nat → Int → Nat → Nat → Option (Nat × Nat)) (x : NdN) (w : List Nat) (t : List EnN) (i : Nat) (d : Int) (f : Nat) (e : Int) : Option (Nat × Nat) :=
  if x.kind = 2 then (if f < w.length ∧ x.set.getLsbD (w.getD f 0) = true then some (f + 1, i) else none)
  else if x.kind = 3 then (rd i (d + 1) x.kids.toNat f).bind fun r => rd r.2 (d + 1) x.n.toNat r.1
  else if x.kind = 4 then rd i (d + 1) (chF x t i) f
  else if x.kind = 5 then agF (fun i at_ => rd i (d + 1) x.kids.toNat at_) e (w.length + 1) i f
  else if x.kind = 6 then (if e = f then some (f, i) else rd i (d + 1) x.kids.toNat f)
  else if x.kind = 7 ∨ x.kind = 8 then rd i (d + 1) x.kids.toNat f
  else some (f, i)
def rdF (l : List NdN) (w : List Nat) (t : List EnN) : Nat → Nat → Int → Nat → Nat → Option (Nat × Nat)
  | 0, _, _, _, _ => none
  | k + 1, i, d, n, f =>
    if i < t.length ∧ (atE t i).depth = d ∧ (atE t i).node = n ∧ (atE t i).from_ = f then
      (kdD (rdF l w t k) (ndE l n) w t (i + 1) d f (atE t i).to).bind fun r => if (r.1 : Int) = (atE t i).to then some r else none
    else none
section
variable {l : List NdN} {w : List Nat} {t : List EnN}
theorem ent_guard {k i : Nat} {want : EnN} {j : Nat} (h : entF l w t k i want = some j) : i < t.length ∧ atE t i = want ∧ 0 ≤ want.from_ ∧ want.from_ ≤ want.to ∧ want.to ≤ (w.length : Int) := by
  cases k with
  | zero => cases h
  | succ k =>
    unfold entF at h
    split at h
    · assumption
    · cases h
/-- What reading a node answers, and the document's entry of it. -/
def RdIff (l : List NdN) (w : List Nat) (t : List EnN) (k : Nat) : Prop := ∀ i d (n f e j : Nat), n < k → n < l.length → f ≤ w.length →
  (rdF l w t k i d n f = some (e, j) ↔ i < t.length ∧ (atE t i).to = (e : Int) ∧ entF l w t k i ⟨d, n, f, e⟩ = some j)
theorem ag_iff {k : Nat} (ih : RdIff l w t k) (p : Nat) (hp : p < k) (hpl : p < l.length) (d : Int) (e : Nat) (he : e ≤ w.length) (j : Nat) : ∀ m mk i (at_ : Nat), at_ ≤ e → w.length < m + at_ → e - at_ ≤ mk →
    (agF (fun i at_ => rdF l w t k i d p at_) e m i at_ = some (e, j) ↔ kidsF (entF l w t k) t p d e mk i at_ = some j) := by
  intro m
  induction m with
  | zero => intro mk i at_ h1 h2; omega
  | succ m ihm =>
    intro mk i at_ h1 h2 h3
    by_cases hlt : at_ < e
    · have hltI : (at_ : Int) < (e : Int) := by omega
      obtain ⟨mk', rfl⟩ : ∃ q, mk = q + 1 := ⟨mk - 1, by omega⟩
      rw [agF, if_pos hltI, kidsF, if_pos hltI]
      constructor
      · intro h
        cases hr : rdF l w t k i d p at_ with
        | none => rw [hr] at h; cases h
        | some r =>
          obtain ⟨r1, r2⟩ := r
          rw [hr] at h
          simp only [Option.bind_some] at h
          obtain ⟨q1, q2, q3⟩ := (ih i d p at_ r1 r2 hp hpl (by omega)).1 hr
          have g := ent_guard q3
          simp only at g
          by_cases hne : r1 = at_
          · rw [if_pos hne] at h; cases h
          rw [if_neg hne] at h
          rw [q2, if_pos ⟨q1, by omega⟩, q3]
          simp only [Option.bind_some]
          have hle : r1 ≤ e := by
            rcases Nat.lt_or_ge e r1 with h9 | h9
            · exfalso
              cases m with
              | zero => cases h
              | succ m =>
                rw [agF, if_neg (by omega)] at h
                simp only [Option.some.injEq, Prod.mk.injEq] at h
                omega
            · exact h9
          rw [if_pos (by omega)]
          exact (ihm mk' r2 r1 hle (by omega) (by omega)).1 h
      · intro h
        by_cases hc : i < t.length ∧ (at_ : Int) < (atE t i).to
        · rw [if_pos hc] at h
          cases hr : entF l w t k i ⟨d, p, at_, (atE t i).to⟩ with
          | none => rw [hr] at h; cases h
          | some r2 =>
            rw [hr] at h
            simp only [Option.bind_some] at h
            by_cases hte : (atE t i).to ≤ (e : Int)
            · rw [if_pos hte] at h
              obtain ⟨r1, hr1⟩ : ∃ r1 : Nat, (atE t i).to = r1 := ⟨(atE t i).to.toNat, by omega⟩
              rw [hr1] at hr h hte hc
              have hx := (ih i d p at_ r1 r2 hp hpl (by omega)).2 ⟨hc.1, hr1, hr⟩
              rw [hx]
              simp only [Option.bind_some]
              rw [if_neg (by omega)]
              exact (ihm mk' r2 r1 (by omega) (by omega) (by omega)).2 h
            · rw [if_neg hte] at h; cases h
        · rw [if_neg hc] at h; cases h
    · obtain rfl : at_ = e := by omega
      rw [agF, if_neg (by omega), kids_end (by omega)]
      simp
theorem ag_le {k : Nat} (ih : RdIff l w t k) (p : Nat) (hp : p < k) (hpl : p < l.length) (d T : Int) (e j : Nat) : ∀ m i (at_ : Nat), at_ ≤ w.length →
    agF (fun i at_ => rdF l w t k i d p at_) T m i at_ = some (e, j) → at_ ≤ e ∧ e ≤ w.length := by
  intro m
  induction m with
  | zero => intro i at_ _ h; cases h
  | succ m ihm =>
    intro i at_ h1 h
    rw [agF] at h
    by_cases hlt : (at_ : Int) < T
    · rw [if_pos hlt] at h
      cases hr : rdF l w t k i d p at_ with
      | none => rw [hr] at h; cases h
      | some r =>
        obtain ⟨r1, r2⟩ := r
        rw [hr] at h
        simp only [Option.bind_some] at h
        obtain ⟨q1, q2, q3⟩ := (ih i d p at_ r1 r2 hp hpl h1).1 hr
        have g := ent_guard q3
        simp only at g
        by_cases hne : r1 = at_
        · rw [if_pos hne] at h; cases h
        rw [if_neg hne] at h
        have := ihm r2 r1 (by omega) h
        omega
    · rw [if_neg hlt] at h
      simp only [Option.some.injEq, Prod.mk.injEq] at h
      omega
theorem rd_iff (hP : PartsOk l) : ∀ k, RdIff l w t k
  | 0 => fun i d n f e j h => absurd h (Nat.not_lt_zero _)
  | k + 1 => by
    have ih := rd_iff hP k
    intro i d n f e j hn hnl hf
    obtain ⟨hk1, hk8⟩ := hP.kind n hnl
    have hA := hP.a n hnl
    have hB := hP.b n hnl
    rw [rdF]
    by_cases hg : i < t.length ∧ (atE t i).depth = d ∧ (atE t i).node = n ∧ (atE t i).from_ = f
    · rw [if_pos hg]
      obtain ⟨hi, hd, hnn, hff⟩ := hg
      have hAT : atE t i = ⟨d, n, f, (atE t i).to⟩ := by
        generalize atE t i = x at *
        obtain ⟨x1, x2, x3, x4⟩ := x
        simp only at hd hnn hff
        subst hd hnn hff
        rfl
      generalize (atE t i).to = T at *
      have hE : ∀ b : Prop, (b ↔ (T = (e : Int) ∧ entF l w t (k + 1) i ⟨d, n, f, e⟩ = some j)) → (b ↔ (i < t.length ∧ T = (e : Int) ∧ entF l w t (k + 1) i ⟨d, n, f, e⟩ = some j)) := fun b h => h.trans ⟨fun h => ⟨hi, h⟩, fun h => h.2⟩
      apply hE
      have hS : ∀ X : Option (Nat × Nat), ((X.bind fun r => if (r.1 : Int) = T then some r else none) = some (e, j) ↔ T = (e : Int) ∧ X = some (e, j)) := fun X => by
        cases X with
        | none => simp
        | some r =>
          obtain ⟨r1, r2⟩ := r
          simp only [Option.bind_some]
          by_cases h : (r1 : Int) = T
          · rw [if_pos h]
            simp only [Option.some.injEq, Prod.mk.injEq]
            constructor
            · rintro ⟨rfl, rfl⟩; exact ⟨h.symm, rfl, rfl⟩
            · rintro ⟨_, rfl, rfl⟩; exact ⟨rfl, rfl⟩
          · rw [if_neg h]
            simp only [Option.some.injEq, Prod.mk.injEq]
            constructor
            · intro h; cases h
            · rintro ⟨h1, rfl, rfl⟩; exact absurd h1.symm h
      rw [hS]
      refine and_congr_right fun hT => ?_
      subst hT
      have hEN : entF l w t (k + 1) i ⟨d, n, f, e⟩ = if f ≤ e ∧ e ≤ w.length then
          (if (ndE l n).kind = 1 then (if f = e then some (i + 1) else none)
          else if (ndE l n).kind = 2 then (if e = f + 1 ∧ (ndE l n).set.getLsbD (w.getD f 0) = true then some (i + 1) else none)
          else if (ndE l n).kind = 3 then (if i + 1 < t.length then (entF l w t k (i + 1) ⟨d + 1, (ndE l n).kids, f, (atE t (i + 1)).to⟩).bind fun q => if (atE t (i + 1)).to ≤ (e : Int) then entF l w t k q ⟨d + 1, (ndE l n).n, (atE t (i + 1)).to, e⟩ else none else none)
          else if (ndE l n).kind = 4 then entF l w t k (i + 1) ⟨d + 1, if i + 1 < t.length ∧ (atE t (i + 1)).node = (ndE l n).n then (ndE l n).n else (ndE l n).kids, f, e⟩
          else if (ndE l n).kind = 5 then kidsF (entF l w t k) t (ndE l n).kids (d + 1) e ((e : Int) - f).toNat (i + 1) f
          else if (ndE l n).kind = 6 ∧ (f : Int) = e then some (i + 1)
          else entF l w t k (i + 1) ⟨d + 1, (ndE l n).kids, f, e⟩) else none := by
        rw [entF]
        by_cases hc : f ≤ e ∧ e ≤ w.length
        · rw [if_pos hc, if_pos ⟨hi, hAT, by simp, by simp; omega, by simp; omega⟩]
          simp only [Int.toNat_natCast]
          congr 1
          · by_cases h : f = e
            · rw [if_pos (by omega), if_pos h]
            · rw [if_neg (by omega), if_neg h]
          congr 1
          by_cases h : e = f + 1 ∧ (ndE l n).set.getLsbD (w.getD f 0) = true
          · rw [if_pos h, if_pos ⟨by omega, h.2⟩]
          · rw [if_neg h, if_neg (fun h' => h ⟨by omega, h'.2⟩)]
        · rw [if_neg hc, if_neg (fun h => hc (by simp only at h; omega))]
      rw [hEN]
      generalize ndE l n = x at *
      clear hEN hE hS hAT hd hnn hff
      unfold kdD
      have hone : ∀ q : Nat, q < k → q < l.length → (rdF l w t k (i + 1) (d + 1) q f = some (e, j) ↔ f ≤ e ∧ e ≤ w.length ∧ entF l w t k (i + 1) ⟨d + 1, q, f, e⟩ = some j) := fun q h1 h2 => by
        rw [ih (i + 1) (d + 1) q f e j h1 h2 hf]
        constructor
        · rintro ⟨_, _, h⟩
          have g := ent_guard h
          simp only at g
          exact ⟨by omega, by omega, h⟩
        · rintro ⟨_, _, h⟩
          have g := ent_guard h
          exact ⟨g.1, by rw [g.2.1], h⟩
      have hif : ∀ (Y : Option Nat), ((if f ≤ e ∧ e ≤ w.length then Y else none) = some j ↔ f ≤ e ∧ e ≤ w.length ∧ Y = some j) := fun Y => by
        by_cases h : f ≤ e ∧ e ≤ w.length
        · rw [if_pos h]; exact ⟨fun h' => ⟨h.1, h.2, h'⟩, fun h' => h'.2.2⟩
        · rw [if_neg h]; exact ⟨fun h' => (by cases h'), fun h' => absurd ⟨h'.1, h'.2.1⟩ h⟩
      rw [hif]
      rcases (by omega : x.kind = 1 ∨ x.kind = 2 ∨ x.kind = 3 ∨ x.kind = 4 ∨ x.kind = 5 ∨ x.kind = 6 ∨ x.kind = 7 ∨ x.kind = 8) with hk | hk | hk | hk | hk | hk | hk
      · rw [hk]
        simp only [show ¬ ((1 : Int) = 2) by decide, show ¬ ((1 : Int) = 3) by decide, show ¬ ((1 : Int) = 4) by decide, show ¬ ((1 : Int) = 5) by decide, show ¬ ((1 : Int) = 6) by decide, show ¬ ((1 : Int) = 7 ∨ (1 : Int) = 8) by decide, if_false, if_true, Option.some.injEq, Prod.mk.injEq]
        constructor
        · rintro ⟨rfl, rfl⟩; exact ⟨Nat.le_refl _, hf, by rw [if_pos rfl]⟩
        · rintro ⟨_, _, h⟩
          by_cases he : f = e
          · rw [if_pos he] at h; exact ⟨he, Option.some.inj h⟩
          · rw [if_neg he] at h; cases h
      · rw [hk]
        simp only [show ¬ ((2 : Int) = 1) by decide, if_false, if_true]
        constructor
        · intro h
          by_cases hc : f < w.length ∧ x.set.getLsbD (w.getD f 0) = true
          · rw [if_pos hc] at h
            simp only [Option.some.injEq, Prod.mk.injEq] at h
            exact ⟨by omega, by omega, by rw [if_pos ⟨by omega, hc.2⟩, h.2]⟩
          · rw [if_neg hc] at h; cases h
        · rintro ⟨_, h2, h⟩
          by_cases hc : e = f + 1 ∧ x.set.getLsbD (w.getD f 0) = true
          · rw [if_pos hc] at h
            rw [if_pos ⟨by omega, hc.2⟩, hc.1, Option.some.inj h]
          · rw [if_neg hc] at h; cases h
      · obtain ⟨p, hp1, hp2⟩ := hA (by omega)
        obtain ⟨q, hq1, hq2⟩ := hB (.inl hk)
        rw [hk, hp1, hq1]
        simp only [show ¬ ((3 : Int) = 1) by decide, show ¬ ((3 : Int) = 2) by decide, if_false, if_true, Int.toNat_natCast]
        constructor
        · intro h
          cases hr : rdF l w t k (i + 1) (d + 1) p f with
          | none => rw [hr] at h; cases h
          | some r =>
            obtain ⟨r1, r2⟩ := r
            rw [hr] at h
            simp only [Option.bind_some] at h
            obtain ⟨a1, a2, a3⟩ := (ih _ _ p f r1 r2 (by omega) (by omega) hf).1 hr
            have g := ent_guard a3
            simp only at g
            obtain ⟨b1, b2, b3⟩ := (ih _ _ q r1 e j (by omega) (by omega) (by omega)).1 h
            have g2 := ent_guard b3
            simp only at g2
            refine ⟨by omega, by omega, ?_⟩
            rw [if_pos a1, a2, a3]
            simp only [Option.bind_some]
            rw [if_pos (by omega), b3]
        · rintro ⟨h1, h2, h⟩
          by_cases hlt : i + 1 < t.length
          · rw [if_pos hlt] at h
            cases hr : entF l w t k (i + 1) ⟨d + 1, p, f, (atE t (i + 1)).to⟩ with
            | none => rw [hr] at h; cases h
            | some r2 =>
              rw [hr] at h
              simp only [Option.bind_some] at h
              have g := ent_guard hr
              simp only at g
              obtain ⟨r1, hr1⟩ : ∃ r1 : Nat, (atE t (i + 1)).to = r1 := ⟨(atE t (i + 1)).to.toNat, by omega⟩
              rw [hr1] at hr h g
              by_cases hle : (r1 : Int) ≤ (e : Int)
              · rw [if_pos hle] at h
                rw [(ih _ _ p f r1 r2 (by omega) (by omega) hf).2 ⟨hlt, hr1, hr⟩]
                have g2 := ent_guard h
                simp only [Option.bind_some]
                exact (ih _ _ q r1 e j (by omega) (by omega) (by omega)).2 ⟨g2.1, by rw [g2.2.1], h⟩
              · rw [if_neg hle] at h; cases h
          · rw [if_neg hlt] at h; cases h
      · obtain ⟨p, hp1, hp2⟩ := hA (by omega)
        obtain ⟨q, hq1, hq2⟩ := hB (.inr hk)
        unfold chF
        rw [hk, hp1, hq1]
        simp only [show ¬ ((4 : Int) = 1) by decide, show ¬ ((4 : Int) = 2) by decide, show ¬ ((4 : Int) = 3) by decide, if_false, if_true, Int.toNat_natCast]
        by_cases hc : i + 1 < t.length ∧ (atE t (i + 1)).node = (q : Int)
        · rw [if_pos hc, if_pos hc]
          exact hone q (by omega) (by omega)
        · rw [if_neg hc, if_neg hc]
          exact hone p (by omega) (by omega)
      · obtain ⟨p, hp1, hp2⟩ := hA (by omega)
        rw [hk, hp1]
        simp only [show ¬ ((5 : Int) = 1) by decide, show ¬ ((5 : Int) = 2) by decide, show ¬ ((5 : Int) = 3) by decide, show ¬ ((5 : Int) = 4) by decide, if_false, if_true, Int.toNat_natCast]
        constructor
        · intro h
          obtain ⟨h1, h2⟩ := ag_le ih p (by omega) (by omega) _ _ e j _ _ f hf h
          exact ⟨h1, h2, (ag_iff ih p (by omega) (by omega) (d + 1) e h2 j (w.length + 1) _ _ f h1 (by omega) (by omega)).1 h⟩
        · rintro ⟨h1, h2, h⟩
          exact (ag_iff ih p (by omega) (by omega) (d + 1) e h2 j (w.length + 1) _ _ f h1 (by omega) (by omega)).2 h
      · obtain ⟨p, hp1, hp2⟩ := hA (by omega)
        rw [hk, hp1]
        simp only [show ¬ ((6 : Int) = 1) by decide, show ¬ ((6 : Int) = 2) by decide, show ¬ ((6 : Int) = 3) by decide, show ¬ ((6 : Int) = 4) by decide, show ¬ ((6 : Int) = 5) by decide, if_false, if_true, true_and, Int.toNat_natCast]
        by_cases he : (f : Int) = e
        · rw [if_pos he, if_pos he.symm]
          simp only [Option.some.injEq, Prod.mk.injEq]
          constructor
          · rintro ⟨rfl, rfl⟩; exact ⟨Nat.le_refl _, hf, rfl⟩
          · rintro ⟨_, _, rfl⟩; exact ⟨by omega, rfl⟩
        · rw [if_neg he, if_neg (fun h => he h.symm)]
          exact hone p (by omega) (by omega)
      · have hk' : x.kind = 7 ∨ x.kind = 8 := hk
        obtain ⟨p, hp1, hp2⟩ := hA (by omega)
        rw [hp1, if_neg (by omega), if_neg (by omega), if_neg (by omega), if_neg (by omega), if_neg (by omega), if_pos hk', if_neg (by omega), if_neg (by omega), if_neg (by omega), if_neg (by omega), if_neg (by omega), if_neg (by omega), Int.toNat_natCast]
        exact hone p (by omega) (by omega)
    · rw [if_neg hg]
      constructor
      · intro h; cases h
      · rintro ⟨h1, _, h⟩
        have g := ent_guard h
        exact absurd ⟨h1, by rw [g.2.1], by rw [g.2.1], by rw [g.2.1]⟩ hg
theorem tree_dev (l : List NdN) (w : List Nat) (t : List EnN) (hr : rightT l = true) : treeT l w t = decide (rdF l w t l.length 0 1 (l.length - 1) 0 = some (w.length, t.length)) := by
  have hpos : 0 < l.length := (rightT_q l hr).pos
  unfold treeT
  rw [hr, Bool.true_and, Bool.eq_iff_iff, decide_eq_true_iff, decide_eq_true_iff, rd_iff (parts_ok l hr) l.length 0 1 (l.length - 1) 0 w.length t.length (by omega) (by omega) (Nat.zero_le _), show ((l.length : Int) - 1) = ((l.length - 1 : Nat) : Int) by omega]
  constructor
  · intro h
    have g := ent_guard h
    exact ⟨g.1, by rw [g.2.1], h⟩
  · exact fun h => h.2.2
end
end Go.Proofs.YtdpkhliojbeglaaDoor

/- How the developers read a parse tree: byteOf, chosen, both, again. Stage 14. -/
namespace Go.Proofs.YtdpkhliojbeglaaDoor
open Go.RowKit BS

/-- The reader's cells. -/
@[reducible] def rdC (la : Option Addr) (ln lc : Nat) (wa : Option Addr) (wn wc : Nat) (v : Value) : Array Value := #[.slice la ln lc, .slice wa wn wc, v]
/-- The reader, of which the first i entries are taken; all that it reads is older. -/
structure RdX (l : List NdN) (w : List Nat) (t : List EnN) (la : Option Addr) (lc : Nat) (wa : Option Addr) (wc : Nat) (W0 : World) (R : Nat) (i : Nat) (W : World) : Prop where
  left : ∃ a c, t.length - i ≤ c ∧ EntsAt (t.drop i) a W0 ∧ Blk W R (rdC la l.length lc wa w.length wc (.slice a (t.length - i) c)) 85
  old : Below W0.heap.size W0 W
  new : W0.heap.size ≤ R
section
variable {l : List NdN} {w : List Nat} {t : List EnN} {la wa : Option Addr} {lc wc : Nat} {W0 : World} {R : Nat}
theorem RdX.below {i : Nat} {W W' : World} (h : RdX l w t la lc wa wc W0 R i W) (hb : Below W.heap.size W W') : RdX l w t la lc wa wc W0 R i W' := by
  obtain ⟨a, c, h1, h2, h3⟩ := h.left
  exact ⟨⟨a, c, h1, h2, h3.below hb h3.lt⟩, h.old.trans (hb.mono h.old.size), h.new⟩
theorem RdX.lt {i : Nat} {W : World} (h : RdX l w t la lc wa wc W0 R i W) : R < W.heap.size := by
  obtain ⟨a, c, h1, h2, h3⟩ := h.left
  exact h3.lt
/-- What a call of the reader's answers. -/
def ResD (X : Nat → World → Prop) : Option (Nat × Nat) → Ending → World → Prop
  | some r, e, W => e = .returned (.tuple #[.int .i64 (r.1 : Nat), .bool true]) ∧ X r.2 W
  | none, e, _ => ∃ v : Int, e = .returned (.tuple #[.int .i64 v, .bool false])
theorem ResD.tuple {X : Nat → World → Prop} {O : Option (Nat × Nat)} {e : Ending} {W : World} (h : ResD X O e W) : ∃ (x : Int) (b : Bool), e = .returned (.tuple #[.int .i64 x, .bool b]) ∧ ResD X O (.returned (.tuple #[.int .i64 x, .bool b])) W := by
  cases O with
  | none => obtain ⟨v, rfl⟩ := h; exact ⟨v, false, rfl, v, rfl⟩
  | some r => obtain ⟨rfl, h2⟩ := h; exact ⟨r.1, true, rfl, rfl, h2⟩
def RdG (l : List NdN) (w : List Nat) (t : List EnN) (la : Option Addr) (lc : Nat) (wa : Option Addr) (wc : Nat) (W0 : World) (R k : Nat) : Prop :=
  ∀ (i : Nat) (d : Int) (n f : Nat) (W : World), n < k → n < l.length → i ≤ t.length → f ≤ w.length → 0 ≤ d → d + k ≤ 100000 → RdX l w t la lc wa wc W0 R i W →
    Calls Tryd.prog 42 #[.pointer (some ⟨R, 0, none⟩), .int .i64 n, .int .i64 d, .int .i64 f] W fun e W' => ResD (RdX l w t la lc wa wc W0 R) (rdF l w t k i d n f) e W' ∧ KpA (fun g => g = R) W W'
theorem rd_bound (hP : PartsOk l) {k i : Nat} {d : Int} {n f e j : Nat} (hn : n < k) (hnl : n < l.length) (hf : f ≤ w.length) (h : rdF l w t k i d n f = some (e, j)) : f ≤ e ∧ e ≤ w.length ∧ i < j ∧ j ≤ t.length := by
  obtain ⟨h1, h2, h3⟩ := (rd_iff hP k i d n f e j hn hnl hf).1 h
  have g := ent_guard h3
  obtain ⟨f', e', ks, _, _, _, h4, h5, _⟩ := ent_ok hP k i d n f e j hn hnl h3
  simp only at g
  exact ⟨by omega, by omega, h4, h5⟩
set_option maxRecDepth 100000 in
set_option maxHeartbeats 16000000 in
theorem byteOf_calls (hw8 : ∀ x ∈ w, x < 256) (hw : w.length ≤ 1000) (hT : BtsAt w wa W0) (s : BitVec 256) (i f : Nat) (_hf : f ≤ w.length) (W : World) (h : RdX l w t la lc wa wc W0 R i W) :
    Calls Tryd.prog 83 #[.pointer (some ⟨R, 0, none⟩), setV s, .int .i64 f] W fun e W' => ResD (RdX l w t la lc wa wc W0 R) (if f < w.length ∧ s.getLsbD (w.getD f 0) = true then some (f + 1, i) else none) e W' ∧ KpA (fun g => g = R) W W' := by
  have HX := Lib.hid (h.below ((Below.refl _ _).alloc (Nat.le_refl _) (.cells (setA s) 58)))
  have HK := Lib.hid ((KpA.refl (fun g => g = R) W).alloc (.cells (setA s) 58))
  have hS := Blk.new W (setA s) 58
  obtain ⟨a, c, _, _, hb⟩ := HX.out.left
  have c1 := hb.cell 1
  have s0 := hS.cell 0; have s1 := hS.cell 1; have s2 := hS.cell 2; have s3 := hS.cell 3
  simp only [List.getElem?_toArray, List.getElem?_cons_zero, List.getElem?_cons_succ] at c1 s0 s1 s2 s3
  have xf : IntKind.i64.wrap ((f : Int) + 1) = ((f + 1 : Nat) : Int) := by rw [IntWalk.i64_in _ (by omega)]; rfl
  clear h hS hb
  by_cases hlt : f < w.length
  · obtain ⟨g, off, rfl, hg, hc⟩ := hT (by rintro rfl; simp at hlt)
    have p1 : decide ((w.length : Int) ≤ (f : Int)) = false := by rw [decide_eq_false_iff_not]; omega
    have p2 : decide (w.length ≤ f) = false := by rw [decide_eq_false_iff_not]; omega
    have p3 : (f : Int) < (w.length : Int) := by omega
    have hb8 := hw8 w[f] (List.getElem_mem hlt)
    have d0 := (HX.out.old.cell (p := ⟨g, off + f, none⟩) hg).trans (hc f hlt)
    have HHS := Lib.hid (fun W => has_calls s (w[f] : Nat) W (by omega) (by omega))
    have HGD := Lib.hid (show w.getD f 0 = w[f] by simp [List.getD_eq_getElem?_getD, List.getElem?_eq_getElem hlt])
    rw [HGD.out]
    clear hc HGD
    generalize w[f] = x at *
    rw [Int.toNat_natCast] at HHS
    obtain ⟨b, hbb⟩ : ∃ b, b = s.getLsbD x := ⟨_, rfl⟩
    rw [← hbb] at HHS ⊢
    clear hbb
    obtain ⟨O, hO⟩ : ∃ O, O = (if f < w.length ∧ b = true then some (f + 1, i) else none) := ⟨_, rfl⟩
    rw [← hO]
    have HOO := Lib.hid hO
    clear hO
    have HFC := Lib.hid (show ∀ w', Below (W.alloc (.cells (setA s) 58)).heap.size (W.alloc (.cells (setA s) 58)) w' → w'.cell? ⟨R, 1, none⟩ = some (.slice (some ⟨g, off, none⟩) w.length wc) ∧ w'.cell? ⟨g, off + f, none⟩ = some (.int .u8 x) ∧ w'.cell? ⟨W.heap.size, 0, none⟩ = some (.int .u64 (wd s 0)) ∧ w'.cell? ⟨W.heap.size, 1, none⟩ = some (.int .u64 (wd s 1)) ∧ w'.cell? ⟨W.heap.size, 2, none⟩ = some (.int .u64 (wd s 2)) ∧ w'.cell? ⟨W.heap.size, 3, none⟩ = some (.int .u64 (wd s 3)) from fun w' hb =>
      ⟨(hb.cell (p := ⟨R, 1, none⟩) HX.out.lt).trans c1, (hb.cell (p := ⟨g, off + f, none⟩) (Nat.lt_of_lt_of_le hg HX.out.old.size)).trans d0, (hb.cell (p := ⟨W.heap.size, 0, none⟩) (by show W.heap.size < _; rw [World.size_alloc]; omega)).trans s0, (hb.cell (p := ⟨W.heap.size, 1, none⟩) (by show W.heap.size < _; rw [World.size_alloc]; omega)).trans s1, (hb.cell (p := ⟨W.heap.size, 2, none⟩) (by show W.heap.size < _; rw [World.size_alloc]; omega)).trans s2, (hb.cell (p := ⟨W.heap.size, 3, none⟩) (by show W.heap.size < _; rw [World.size_alloc]; omega)).trans s3⟩)
    clear hT d0
    go_enter Tryd.func83, Tryd.ntmps83
    go_upto_region 1 with fail
    generalize W.alloc (.cells (setA s) 58) = w1 at *
    go_upto_region 3 with fail
    refine region_steps (S := fun w' => Below w1.heap.size w1 w') (by kernel_rfl) ((Below.refl _ _).drew) ?_
    simp only [List.size_toArray, List.length_cons, List.length_nil, Nat.reduceAdd, Array.replicate_succ, Array.replicate_zero, List.push_toArray, List.nil_append, List.cons_append]
    refine AnyS.stepE (i := 0) (d := some 15) rfl rfl (by kernel_rfl) (by kernel_rfl) (by kernel_rfl) ?_
    apply Exists.intro
    apply And.intro
    · apply StepsIf.yield
      · kernel_rfl
      intro w' hS
      clear hS; go_simp
      rfl
    intro a' ha'
    simp only [Act.put, List.setIfInBounds_toArray, List.set_cons_zero, List.set_cons_succ] at ha'
    subst ha'
    refine AnyS.next (i := 1) (d := some 16) (v := .int .i64 ((f + 1 : Nat) : Int)) rfl rfl (by kernel_rfl) (by kernel_rfl) (by kernel_rfl) (StepsIf.yield (by kernel_rfl) (fun w' hS => by clear hS; go_simp)) ?_
    intro a' ha'
    simp only [Act.put, List.setIfInBounds_toArray, List.set_cons_zero, List.set_cons_succ] at ha'
    subst ha'
    refine AnyS.next (i := 2) (d := some 17) (v := setV s) rfl rfl (by kernel_rfl) (by kernel_rfl) (by kernel_rfl) (StepsIf.yield (by kernel_rfl) (fun w' hS => by obtain ⟨f1, f2, f3, f4, f5, f6⟩ := HFC.out w' hS; clear hS; go_simp)) ?_
    intro a' ha'
    simp only [Act.put, List.setIfInBounds_toArray, List.set_cons_zero, List.set_cons_succ] at ha'
    subst ha'
    refine AnyS.stepE (i := 3) (d := some 18) rfl rfl (by kernel_rfl) (by kernel_rfl) (by kernel_rfl) ?_
    apply Exists.intro
    apply And.intro
    · apply StepsIf.yield
      · kernel_rfl
      intro w' hS
      clear hS; go_simp
      rfl
    intro a' ha'
    simp only [Act.put, List.setIfInBounds_toArray, List.set_cons_zero, List.set_cons_succ] at ha'
    subst ha'
    refine AnyS.stepE (i := 4) (d := some 19) rfl rfl (by kernel_rfl) (by kernel_rfl) (by kernel_rfl) ?_
    apply Exists.intro
    apply And.intro
    · apply StepsIf.yield
      · kernel_rfl
      intro w' hS
      clear hS; go_simp
      rfl
    intro a' ha'
    simp only [Act.put, List.setIfInBounds_toArray, List.set_cons_zero, List.set_cons_succ] at ha'
    subst ha'
    refine AnyS.stepE (i := 5) (d := some 20) rfl rfl (by kernel_rfl) (by kernel_rfl) (by kernel_rfl) ?_
    apply Exists.intro
    apply And.intro
    · apply StepsIf.yield
      · kernel_rfl
      intro w' hS
      clear hS; go_simp
      rfl
    intro a' ha'
    simp only [Act.put, List.setIfInBounds_toArray, List.set_cons_zero, List.set_cons_succ] at ha'
    subst ha'
    refine AnyS.next (i := 6) (d := some 21) (v := .slice (some ⟨g, off, none⟩) w.length wc) rfl rfl (by kernel_rfl) (by kernel_rfl) (by kernel_rfl) (StepsIf.yield (by kernel_rfl) (fun w' hS => by obtain ⟨f1, f2, f3, f4, f5, f6⟩ := HFC.out w' hS; clear hS; go_simp)) ?_
    intro a' ha'
    simp only [Act.put, List.setIfInBounds_toArray, List.set_cons_zero, List.set_cons_succ] at ha'
    subst ha'
    refine AnyS.stepE (i := 7) (d := some 22) rfl rfl (by kernel_rfl) (by kernel_rfl) (by kernel_rfl) ?_
    apply Exists.intro
    apply And.intro
    · apply StepsIf.yield
      · kernel_rfl
      intro w' hS
      clear hS; go_simp
      rfl
    intro a' ha'
    simp only [Act.put, List.setIfInBounds_toArray, List.set_cons_zero, List.set_cons_succ] at ha'
    subst ha'
    refine AnyS.stepE (i := 8) (d := some 23) rfl rfl (by kernel_rfl) (by kernel_rfl) (by kernel_rfl) ?_
    apply Exists.intro
    apply And.intro
    · apply StepsIf.yield
      · kernel_rfl
      intro w' hS
      clear hS; go_simp
      rfl
    intro a' ha'
    simp only [Act.put, List.setIfInBounds_toArray, List.set_cons_zero, List.set_cons_succ] at ha'
    subst ha'
    refine AnyS.next (i := 9) (d := some 24) (v := .int .u8 (x : Nat)) rfl rfl (by kernel_rfl) (by kernel_rfl) (by kernel_rfl) (StepsIf.yield (by kernel_rfl) (fun w' hS => by obtain ⟨f1, f2, f3, f4, f5, f6⟩ := HFC.out w' hS; clear hS; go_simp)) ?_
    intro a' ha'
    simp only [Act.put, List.setIfInBounds_toArray, List.set_cons_zero, List.set_cons_succ] at ha'
    subst ha'
    refine AnyS.next (i := 10) (d := some 25) (v := .bool b) rfl rfl (by kernel_rfl) (by kernel_rfl) (by kernel_rfl) (StepsIf.call (by kernel_rfl) (fun w' hS => by clear hS; go_simp) (fun w' hS => (HHS.out w').mono fun e1 w'' hh => ⟨hh.1, hS.trans (hh.2.mono hS.size)⟩)) ?_
    intro a' ha'
    simp only [Act.put, List.setIfInBounds_toArray, List.set_cons_zero, List.set_cons_succ] at ha'
    subst ha'
    refine AnyS.stepE (i := 11) (d := some 6) rfl rfl (by kernel_rfl) (by kernel_rfl) (by kernel_rfl) ?_
    apply Exists.intro
    apply And.intro
    · apply StepsIf.yield
      · kernel_rfl
      intro w' hS
      clear hS; go_simp
      rfl
    intro a' ha'
    simp only [Act.put, List.setIfInBounds_toArray, List.set_cons_zero, List.set_cons_succ] at ha'
    subst ha'
    refine AnyS.stepE (i := 12) (d := some 7) rfl rfl (by kernel_rfl) (by kernel_rfl) (by kernel_rfl) ?_
    apply Exists.intro
    apply And.intro
    · apply StepsIf.yield
      · kernel_rfl
      intro w' hS
      clear hS; go_simp
      rfl
    intro a' ha'
    simp only [Act.put, List.setIfInBounds_toArray, List.set_cons_zero, List.set_cons_succ] at ha'
    subst ha'
    refine AnyS.done (by kernel_rfl) ?_ _
    intro w2 hS
    have HX2 := Lib.hid (HX.out.below hS)
    have HK2 := Lib.hid (HK.out.below hS)
    clear hS
    go_wp2_with fail
    go_ret2
    refine ⟨?_, HK2.out⟩
    have hO := HOO.out
    cases b with
    | true => rw [hO, if_pos ⟨hlt, rfl⟩]; exact ⟨rfl, HX2.out⟩
    | false => rw [hO, if_neg (fun h => by cases h.2)]; exact ⟨_, rfl⟩
  · have p1 : decide ((w.length : Int) ≤ (f : Int)) = true := by rw [decide_eq_true_iff]; omega
    have p2 : decide (w.length ≤ f) = true := by rw [decide_eq_true_iff]; omega
    rw [if_neg (fun h => hlt h.1)]
    clear s0 s1 s2 s3 hT
    go_enter Tryd.func83, Tryd.ntmps83
    go_upto_region 1 with fail
    generalize W.alloc (.cells (setA s) 58) = w1 at *
    go_wp2_with fail
    go_ret2
    exact ⟨⟨_, rfl⟩, HK.out⟩
set_option maxRecDepth 100000 in
set_option maxHeartbeats 16000000 in
theorem chosen_calls (_ht : t.length ≤ 1000) (k0 p q m : Int) (s : BitVec 256) (i : Nat) (_hi : i ≤ t.length) (W : World) (h : RdX l w t la lc wa wc W0 R i W) :
    Calls Tryd.prog 85 #[.pointer (some ⟨R, 0, none⟩), .agg (ndI k0 p q m s)] W fun e W' => e = .returned (.int .i64 (if i < t.length ∧ (atE t i).node = q then q else p)) ∧ Below W.heap.size W W' := by
  have hS := Blk.new W (ndI k0 p q m s) 60
  have HB := Lib.hid (show Below W.heap.size W (W.alloc (.cells (ndI k0 p q m s) 60)) from (Below.refl _ _).alloc (Nat.le_refl _) _)
  have h2 := h.below HB.out
  obtain ⟨a, c, _, hE, hb⟩ := h2.left
  have c2 := hb.cell 2
  have s1 := hS.cell 1; have s2 := hS.cell 2
  simp only [List.getElem?_toArray, List.getElem?_cons_zero, List.getElem?_cons_succ] at c2 s1 s2
  have HO := Lib.hid h2.old
  clear h h2 hb hS
  by_cases hlt : i < t.length
  · have hne : t.drop i ≠ [] := fun e => by have := congrArg List.length e; simp at this; omega
    obtain ⟨g, off, rfl, hg, hc⟩ := hE hne
    have hl0 : 0 < (t.drop i).length := by simp; omega
    have d1 := (HO.out.cell (p := ⟨g, off + 0 * 4 + 1, none⟩) hg).trans (hc 0 hl0 1 (by decide))
    rw [show (t.drop i)[0] = atE t i by rw [atE_lt t i hlt]; simp] at d1
    simp only [enA, List.getElem?_toArray, List.getElem?_cons_zero, List.getElem?_cons_succ, Nat.zero_mul, Nat.add_zero] at d1
    generalize (atE t i).node = z at *
    have g1 : decide ((0 : Int) < ((t.length - i : Nat) : Int)) = true := by rw [decide_eq_true_iff]; omega
    have g2 : (0 : Int) < ((t.length - i : Nat) : Int) := by omega
    have g3 : decide (0 < t.length - i) = true := by rw [decide_eq_true_iff]; omega
    have g4 : 0 < t.length - i := by omega
    clear hc hE hne hl0 HO
    generalize t.length - i = T at *
    by_cases hz : z = q
    · subst hz
      rw [if_pos ⟨hlt, rfl⟩]
      go_enter Tryd.func85, Tryd.ntmps85
      go_upto_region 1 with fail
      generalize W.alloc (.cells (ndI k0 p z m s) 60) = w1 at *
      go_quiet (fail)
      go_wp2_with fail
      go_ret
      exact ⟨rfl, below_drN HB.out nq⟩
    · rw [if_neg (fun h => hz h.2)]
      have q1 : (z == q) = false := beq_eq_false_iff_ne.2 hz
      go_enter Tryd.func85, Tryd.ntmps85
      go_upto_region 1 with fail
      generalize W.alloc (.cells (ndI k0 p q m s) 60) = w1 at *
      go_quiet (fail)
      go_wp2_with fail
      go_ret
      exact ⟨rfl, below_drN HB.out nq⟩
  · have hz : t.length - i = 0 := by omega
    rw [hz] at c2
    rw [if_neg (fun h => hlt h.1)]
    clear hE HO
    go_enter Tryd.func85, Tryd.ntmps85
    go_upto_region 1 with fail
    generalize W.alloc (.cells (ndI k0 p q m s) 60) = w1 at *
    go_quiet (fail)
    go_wp2_with fail
    go_ret
    exact ⟨rfl, below_drN HB.out nq⟩
end
end Go.Proofs.YtdpkhliojbeglaaDoor

/- How the developers read a parse tree: both, again. Stage 14. -/
namespace Go.Proofs.YtdpkhliojbeglaaDoor
open Go.RowKit BS

theorem Blk.kpR {W W' : World} {R g : Nat} {vs : Array Value} {ty : TypeId} (h : Blk W g vs ty) (k : KpA (fun x => x = R) W W') (hne : g ≠ R) : Blk W' g vs ty := (k.block g h.lt hne).trans h
section
variable {l : List NdN} {w : List Nat} {t : List EnN} {la wa : Option Addr} {lc wc : Nat} {W0 : World} {R : Nat}
set_option maxRecDepth 100000 in
set_option maxHeartbeats 16000000 in
theorem both_calls (hP : PartsOk l) (_hw : w.length ≤ 1000) {k : Nat} (HG : RdG l w t la lc wa wc W0 R k) (k0 m : Int) (p q : Nat) (s : BitVec 256) (hp : p < k) (hq : q < k) (hpl : p < l.length) (hql : q < l.length)
    (i : Nat) (d n T : Int) (f : Nat) (hd : 0 ≤ d) (hdk : d + 1 + k ≤ 100000) (hi : i ≤ t.length) (hf : f ≤ w.length) (W : World) (h : RdX l w t la lc wa wc W0 R i W) :
    Calls Tryd.prog 84 #[.pointer (some ⟨R, 0, none⟩), .agg (ndI k0 p q m s), .agg (enI d n f T)] W fun e W' => ResD (RdX l w t la lc wa wc W0 R) ((rdF l w t k i (d + 1) p f).bind fun r => rdF l w t k r.2 (d + 1) q r.1) e W' ∧ KpA (fun g => g = R) W W' := by
  have hRW := h.lt
  have bN := (Blk.new W (ndI k0 p q m s) 60).alloc (.cells (enI d n f T) 83)
  have bE := Blk.new (W.alloc (.cells (ndI k0 p q m s) 60)) (enI d n f T) 83
  rw [World.size_alloc] at bE
  have HK := Lib.hid (((KpA.refl (fun g => g = R) W).alloc (.cells (ndI k0 p q m s) 60)).alloc (.cells (enI d n f T) 83))
  have HX := Lib.hid (h.below (((Below.refl _ _).alloc (Nat.le_refl _) (.cells (ndI k0 p q m s) 60)).alloc (by rw [World.size_alloc]; omega) (.cells (enI d n f T) 83)))
  have xd : IntKind.i64.wrap (d + 1) = d + 1 := IntWalk.i64_in _ (by omega)
  have HG1 := Lib.hid (fun W1 h1 => HG i (d + 1) p f W1 hp hpl hi hf (by omega) hdk h1)
  have HG2 := Lib.hid (fun j e W1 h1 h2 h3 => HG j (d + 1) q e W1 hq hql h1 h2 (by omega) hdk h3)
  have HBD := Lib.hid (fun e j => @rd_bound l w t hP k i (d + 1) p f e j hp hpl hf)
  obtain ⟨OB, hOB⟩ : ∃ O, O = (rdF l w t k i (d + 1) p f).bind fun r => rdF l w t k r.2 (d + 1) q r.1 := ⟨_, rfl⟩
  rw [← hOB]
  obtain ⟨O, hO⟩ : ∃ O, O = rdF l w t k i (d + 1) p f := ⟨_, rfl⟩
  rw [← hO] at HBD HG1 hOB
  have HOB := Lib.hid hOB
  clear h HG hP hO hOB
  have r1 := bN.cell 1; have r2 := bN.cell 2
  have t0 := bE.cell 0; have t2 := bE.cell 2
  simp only [List.getElem?_toArray, List.getElem?_cons_zero, List.getElem?_cons_succ] at r1 r2 t0 t2
  go_enter Tryd.func84, Tryd.ntmps84
  go_upto_region 1 with fail
  generalize (W.alloc (.cells (ndI k0 p q m s) 60)).alloc (.cells (enI d n f T) 83) = w1 at *
  have hHG1 := HG1.out w1 HX.out
  clear HG1
  go_wp2_with fail
  refine hHG1.mono ?_
  rintro e w2 ⟨hr, hk⟩
  have HK2 := Lib.hid (HK.out.trans (hk.mono (fun _ h => h)))
  have bN2 := bN.kpR hk (by omega)
  have bE2 := bE.kpR hk (by omega)
  clear r1 r2 t0 t2 hk hHG1 bN bE HK HX
  cases O with
  | none =>
    obtain ⟨v, rfl⟩ := hr
    clear bN2 bE2
    go_wp2_with fail
    go_ret2
    rw [HOB.out]
    exact ⟨⟨_, rfl⟩, HK2.out⟩
  | some r =>
    obtain ⟨e1, j1⟩ := r
    obtain ⟨rfl, hx⟩ := hr
    simp only at hx
    obtain ⟨b1, b2, b3, b4⟩ := HBD.out e1 j1 rfl
    have hHG2 := HG2.out j1 e1 w2 b4 b2 hx
    have hob := HOB.out
    rw [Option.bind_some] at hob
    simp only at hob
    rw [← hob] at hHG2
    clear hob HOB hx HG2 HBD
    have r1 := bN2.cell 1; have r2 := bN2.cell 2
    have t0 := bE2.cell 0; have t2 := bE2.cell 2
    simp only [List.getElem?_toArray, List.getElem?_cons_zero, List.getElem?_cons_succ] at r1 r2 t0 t2
    clear bN2 bE2
    go_wp2_with fail
    refine hHG2.mono ?_
    rintro e w3 ⟨hr, hk⟩
    have HK3 := Lib.hid (HK2.out.trans (hk.mono (fun _ h => h)))
    clear r1 r2 t0 t2 hk hHG2 HK2
    cases OB with
    | none =>
      obtain ⟨v, rfl⟩ := hr
      go_wp2_with fail
      go_ret2
      exact ⟨⟨_, rfl⟩, HK3.out⟩
    | some r =>
      obtain ⟨e2, j2⟩ := r
      obtain ⟨rfl, hx⟩ := hr
      simp only at hx
      have HX3 := Lib.hid hx
      clear hx
      go_wp2_with fail
      go_ret2
      exact ⟨⟨rfl, HX3.out⟩, HK3.out⟩
set_option maxRecDepth 100000 in
set_option maxHeartbeats 16000000 in
theorem again_calls (hP : PartsOk l) (_hw : w.length ≤ 1000) {k : Nat} (HG : RdG l w t la lc wa wc W0 R k) (k0 q m : Int) (p : Nat) (s : BitVec 256) (hp : p < k) (hpl : p < l.length)
    (i : Nat) (d n T : Int) (f : Nat) (hd : 0 ≤ d) (hdk : d + 1 + k ≤ 100000) (hi : i ≤ t.length) (hf : f ≤ w.length) (W : World) (h : RdX l w t la lc wa wc W0 R i W) :
    Calls Tryd.prog 86 #[.pointer (some ⟨R, 0, none⟩), .agg (ndI k0 p q m s), .agg (enI d n f T)] W fun e W' => ResD (RdX l w t la lc wa wc W0 R) (agF (fun i at_ => rdF l w t k i (d + 1) p at_) T (w.length + 1) i f) e W' ∧ KpA (fun g => g = R) W W' := by
  have hRW := h.lt
  have bN := (Blk.new W (ndI k0 p q m s) 60).alloc (.cells (enI d n f T) 83)
  have bE := Blk.new (W.alloc (.cells (ndI k0 p q m s) 60)) (enI d n f T) 83
  rw [World.size_alloc] at bE
  have HK := Lib.hid (((KpA.refl (fun g => g = R) W).alloc (.cells (ndI k0 p q m s) 60)).alloc (.cells (enI d n f T) 83))
  have HX := Lib.hid (h.below (((Below.refl _ _).alloc (Nat.le_refl _) (.cells (ndI k0 p q m s) 60)).alloc (by rw [World.size_alloc]; omega) (.cells (enI d n f T) 83)))
  have xd : IntKind.i64.wrap (d + 1) = d + 1 := IntWalk.i64_in _ (by omega)
  have HG2 := Lib.hid (fun j e W1 h1 h2 h3 => HG j (d + 1) p e W1 hp hpl h1 h2 (by omega) hdk h3)
  have HBD := Lib.hid (fun j a e j' (ha : a ≤ w.length) => @rd_bound l w t hP k j (d + 1) p a e j' hp hpl ha)
  clear h HG hP
  obtain ⟨rd, hrd⟩ : ∃ rd, rd = fun i at_ => rdF l w t k i (d + 1) p at_ := ⟨_, rfl⟩
  have HRD := Lib.hid (fun i at_ => (congrFun (congrFun hrd i) at_))
  rw [← hrd]
  clear hrd
  obtain ⟨O, hO⟩ : ∃ O, agF rd T (w.length + 1) i f = O := ⟨_, rfl⟩
  rw [hO]
  have HO := Lib.hid hO
  clear hO
  have r1 := bN.cell 1
  have t0 := bE.cell 0; have t2 := bE.cell 2; have t3 := bE.cell 3
  simp only [List.getElem?_toArray, List.getElem?_cons_zero, List.getElem?_cons_succ] at r1 t0 t2 t3
  go_enter Tryd.func86, Tryd.ntmps86
  go_upto_region 1 with fail
  generalize (W.alloc (.cells (ndI k0 p q m s) 60)).alloc (.cells (enI d n f T) 83) = w1 at *
  go_wp2_with fail
  clear r1 t0 t2 t3
  go_loopw [8] (fun v wr => ∃ (i' a m' : Nat), v = .int .i64 a ∧ a ≤ w.length ∧ i' ≤ t.length ∧ w.length < m' + a ∧ agF rd T m' i' a = O ∧ RdX l w t la lc wa wc W0 R i' wr ∧ KpA (fun g => g = R) w1 wr) (fun v _ => w.length + 1 - (intOf v).toNat)
  case atStart => exact ⟨i, f, w.length + 1, rfl, hf, hi, by omega, HO.out, HX.out, KpA.refl _ _⟩
  case round =>
    obtain ⟨i', a, m', rfl, ha, hi', hm', hag, hx, hk⟩ := hrel
    have bN2 := bN.kpR hk (by omega)
    have bE2 := bE.kpR hk (by omega)
    have HKR := Lib.hid (HK.out.trans hk)
    have HKW := Lib.hid hk
    obtain ⟨m', rfl⟩ : ∃ q, m' = q + 1 := ⟨m' - 1, by omega⟩
    rw [agF] at hag
    have r1 := bN2.cell 1
    have t0 := bE2.cell 0; have t3 := bE2.cell 3
    simp only [List.getElem?_toArray, List.getElem?_cons_zero, List.getElem?_cons_succ] at r1 t0 t3
    clear bN bE bN2 bE2 HO HX HK hk
    by_cases hlt : (a : Int) < T
    · rw [if_pos hlt, HRD.out] at hag
      have p1 : decide ((a : Int) < T) = true := decide_eq_true hlt
      have hHG2 := HG2.out i' a wr hi' ha hx
      have hbd := fun e j => HBD.out i' a e j ha
      obtain ⟨O2, hO2⟩ : ∃ O, O = rdF l w t k i' (d + 1) p a := ⟨_, rfl⟩
      rw [← hO2] at hHG2 hag hbd
      have HAG := Lib.hid hag
      have HBD2 := Lib.hid hbd
      clear hO2 hx HG2 HBD hag hbd hlt
      go_wp2_with fail
      refine hHG2.mono ?_
      rintro e w3 ⟨hr, hk⟩
      have HK3 := Lib.hid (HKR.out.trans hk)
      have HK4 := Lib.hid (HKW.out.trans hk)
      clear r1 t0 t3 hk hHG2 HKR HKW p1
      cases O2 with
      | none =>
        obtain ⟨v, rfl⟩ := hr
        go_wp2_with fail
        go_ret2
        rw [← HAG.out]
        exact ⟨⟨_, rfl⟩, HK3.out⟩
      | some r =>
        obtain ⟨e2, j2⟩ := r
        obtain ⟨rfl, hx⟩ := hr
        simp only at hx
        have hag := HAG.out
        rw [Option.bind_some] at hag
        simp only at hag
        have HX3 := Lib.hid hx
        obtain ⟨b1, b2, b3, b4⟩ := HBD2.out e2 j2 rfl
        clear hx HAG HBD2
        by_cases he : e2 = a
        · subst he
          rw [if_pos rfl] at hag
          go_wp2_with fail
          go_ret2
          rw [← hag]
          exact ⟨⟨_, rfl⟩, HK3.out⟩
        · rw [if_neg he] at hag
          have q1 : ((e2 : Int) == (a : Int)) = false := beq_eq_false_iff_ne.2 (by omega)
          have q2 : (e2 == a) = false := beq_eq_false_iff_ne.2 he
          have HAG := Lib.hid hag
          have HNE := Lib.hid (show a < e2 by omega)
          clear hag he
          go_wp2_with fail
          have hne := HNE.out
          go_roundw
          case rel => exact ⟨j2, e2, m', rfl, b2, b4, by omega, HAG.out, HX3.out, HK4.out⟩
          case measure => simp [intOf]; omega
    · rw [if_neg hlt] at hag
      have p1 : decide ((a : Int) < T) = false := decide_eq_false hlt
      have HX3 := Lib.hid hx
      clear hx hlt
      go_wp2_with fail
      go_ret2
      rw [← hag]
      exact ⟨⟨rfl, HX3.out⟩, HKR.out⟩
end
end Go.Proofs.YtdpkhliojbeglaaDoor

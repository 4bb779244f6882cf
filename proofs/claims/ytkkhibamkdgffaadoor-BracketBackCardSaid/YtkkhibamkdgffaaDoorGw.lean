/- The text of a set, and that it is read as the set. -/
import Derived.Test.YtkkhibamkdgffaaDoorGv
import Derived.Test.YtkkhibamkdgffaaDoorRm
namespace Go.Proofs.YtkkhibamkdgffaaDoor
open Go.RowKit BS

/-- The bytes L lie in s from p on. -/
def Lies (s : ByteArray) : Nat → List Nat → Prop
  | p, [] => p ≤ s.size
  | p, a :: L => p < s.size ∧ bt s p = a ∧ Lies s (p + 1) L
theorem Lies.le {s : ByteArray} : ∀ {p : Nat} {L : List Nat}, Lies s p L → p + L.length ≤ s.size
  | _, [], h => h
  | p, _ :: L, h => by have := Lies.le h.2.2; simp only [List.length_cons]; omega

/-- What is read of L, to its end. -/
def Rd (L : List Nat) (first : Bool) (X : BitVec 256) : Prop :=
  ∀ (s : ByteArray) (p : Nat) (t : BitVec 256) (neg : Bool) (n : Nat), Lies s p L → L.length + 1 ≤ n → loopR s n ⟨t, p, 0, 0, false, neg⟩ first = ⟨t ||| X, p + L.length, 0, 0, true, neg⟩

theorem rd_end : Rd [93] false 0 := by
  intro s p t neg n h hn
  obtain ⟨m, rfl⟩ : ∃ m, n = m + 2 := ⟨n - 2, by simp at hn; omega⟩
  have e := thingR_end s ⟨t, p, 0, 0, false, neg⟩ h.1 h.2.1
  rw [loopR, if_neg (by simp), e, if_neg (by simp), loopR_fin _ _ _ _ rfl]
  simp
theorem rd_step {A L : List Nat} {first : Bool} {X : BitVec 256} (lo hi : Nat) (ht : ∀ s p t neg, Lies s p (A ++ L) → thingR s ⟨t, p, 0, 0, false, neg⟩ first = addR ⟨t, p, 0, 0, false, neg⟩ lo hi (p + A.length))
    (hl : ∀ s p, Lies s p (A ++ L) → Lies s (p + A.length) L) (hA : A ≠ []) (h : Rd L false X) : Rd (A ++ L) first (range lo hi ||| X) := by
  intro s p t neg n hs hn
  have hA' := List.length_pos_iff.2 hA
  rw [List.length_append] at hn
  obtain ⟨m, rfl⟩ : ∃ m, n = m + 1 := ⟨n - 1, by omega⟩
  rw [loopR, if_neg (by simp), ht s p t neg hs, if_neg (by simp [addR])]
  have := h s (p + A.length) (t ||| range lo hi) neg m (hl s p hs) (by omega)
  rw [show addR ⟨t, p, 0, 0, false, neg⟩ lo hi (p + A.length) = ⟨t ||| range lo hi, p + A.length, 0, 0, false, neg⟩ from rfl, this, BitVec.or_assoc, List.length_append, Nat.add_assoc]
theorem rd_one {a c : Nat} {L : List Nat} {first : Bool} {X : BitVec 256} (h1 : a ≠ 93 ∨ first = true) (h2 : a = 91 → c ≠ 58 ∧ spec3 c = false) (h3 : c ≠ 45) (h : Rd (c :: L) false X) : Rd (a :: c :: L) first (range a a ||| X) := by
  refine rd_step (A := [a]) (L := c :: L) a a ?_ (fun s p h => h.2.2) (by simp) h
  rintro s p t neg ⟨g1, g2, g3, g4, _⟩
  unfold thingR
  simp only
  rw [if_neg (by omega), g2, g4, if_neg (fun h => ?_), if_neg (by omega), if_neg (fun h => (h2 h.1).1 h.2), if_neg (fun h => ?_), if_pos h3]
  · rfl
  · rw [(h2 h.1).2] at h; exact absurd h.2 (by decide)
  · rcases h1 with h1 | h1
    · exact h1 h.1
    · rw [h1] at h; exact absurd h.2 (by decide)
theorem rd_dash {a : Nat} {L : List Nat} {first : Bool} {X : BitVec 256} (h1 : a ≠ 93 ∨ first = true) (h : Rd (45 :: 93 :: L) false X) : Rd (a :: 45 :: 93 :: L) first (range a a ||| X) := by
  refine rd_step (A := [a]) (L := 45 :: 93 :: L) a a ?_ (fun s p h => h.2.2) (by simp) h
  rintro s p t neg ⟨g1, g2, g3, g4, g5, g6, _⟩
  unfold thingR
  simp only
  rw [show p + 2 = p + 1 + 1 from rfl, if_neg (by omega), g2, g4, g6, if_neg (fun h => ?_), if_neg (by omega), if_neg (fun h => absurd h.2 (by decide)), if_neg (fun h => absurd h.2 (by decide)), if_neg (by decide), if_neg (by omega), if_pos rfl]
  · rfl
  · rcases h1 with h1 | h1
    · exact h1 h.1
    · rw [h1] at h; exact absurd h.2 (by decide)
theorem rd_range {a b : Nat} {L : List Nat} {first : Bool} {X : BitVec 256} (h1 : EndB a) (h2 : EndB b) (hab : a ≤ b) (h : Rd L false X) : Rd (a :: 45 :: b :: L) first (range a b ||| X) := by
  refine rd_step (A := [a, 45, b]) (L := L) a b ?_ (fun s p h => h.2.2.2.2.2.2) (by simp) h
  rintro s p t neg ⟨g1, g2, g3, g4, g5, g6, g7⟩
  unfold thingR
  simp only
  rw [show p + 2 = p + 1 + 1 from rfl, if_neg (by omega), g2, g4, g6, if_neg (fun h => h1.1 h.1), if_neg (by omega), if_neg (fun h => h1.2.1 h.1), if_neg (fun h => h1.2.1 h.1), if_neg (by decide), if_neg (by omega), if_neg h2.1,
    if_neg (by omega), if_neg (fun h => h2.2.1 h.1), if_neg (fun h => h2.2.1 h.1)]
  rfl

/-- What follows may stand behind a byte. -/
def Next (L : List Nat) : Prop := (∃ c L', L = c :: L' ∧ c ≠ 45) ∨ ∃ L', L = 45 :: 93 :: L'
theorem rd_next {a : Nat} {L : List Nat} {first : Bool} {X : BitVec 256} (h1 : a ≠ 93 ∨ first = true) (h2 : a ≠ 91) (hn : Next L) (h : Rd L false X) : Rd (a :: L) first (range a a ||| X) := by
  rcases hn with ⟨c, L', rfl, hc⟩ | ⟨L', rfl⟩
  · exact rd_one h1 (fun e => absurd e h2) hc h
  · exact rd_dash h1 h
theorem rd_byte {a : Nat} {L : List Nat} {first : Bool} {X : BitVec 256} (h1 : EndB a) (hn : Next L) (h : Rd L false X) : Rd (a :: L) first (range a a ||| X) := rd_next (.inl h1.1) h1.2.1 hn h

/-- The text of a run. -/
def runT (r : Nat × Nat) : List Nat := [r.1] ++ (if r.1 + 1 < r.2 then [45] else []) ++ (if r.1 < r.2 then [r.2] else [])
theorem next_runs (rs : List (Nat × Nat)) (L : List Nat) (h : ∀ r ∈ rs, EndB r.1) (hL : Next L) : Next (rs.flatMap runT ++ L) := by
  cases rs with
  | nil => exact hL
  | cons r rs => exact .inl ⟨r.1, (if r.1 + 1 < r.2 then [45] else []) ++ (if r.1 < r.2 then [r.2] else []) ++ (rs.flatMap runT ++ L), by simp [runT], (h r (by simp)).2.2.2⟩
def orR (rs : List (Nat × Nat)) (X : BitVec 256) : BitVec 256 := rs.foldr (fun r t => range r.1 r.2 ||| t) X
theorem range_two (a : Nat) : range a a ||| range (a + 1) (a + 1) = range a (a + 1) := by
  apply BitVec.eq_of_getLsbD_eq
  intro j hj
  rw [BitVec.getLsbD_or, range, range, range, get_ofFn, get_ofFn, get_ofFn]
  simp only [hj, decide_true, Bool.true_and]
  rw [Bool.eq_iff_iff]
  simp only [Bool.or_eq_true, Bool.and_eq_true, decide_eq_true_eq]
  omega
theorem rd_runs : ∀ (rs : List (Nat × Nat)) (L : List Nat) (first : Bool) (X : BitVec 256), (∀ r ∈ rs, EndB r.1 ∧ EndB r.2 ∧ r.1 ≤ r.2) → Next L → (rs = [] → Rd L first X) → Rd L false X → Rd (rs.flatMap runT ++ L) first (orR rs X)
  | [], L, first, X, _, _, h0, _ => h0 rfl
  | r :: rs, L, first, X, hr, hL, _, h => by
    have ih := rd_runs rs L false X (fun r' h' => hr r' (by simp [h'])) hL (fun _ => h) h
    have hN := next_runs rs L (fun r' h' => (hr r' (by simp [h'])).1) hL
    obtain ⟨e1, e2, e3⟩ := hr r (by simp)
    rw [List.flatMap_cons, List.append_assoc]
    show Rd _ _ (range r.1 r.2 ||| orR rs X)
    obtain ⟨a, b⟩ := r
    simp only at e1 e2 e3 ⊢
    by_cases h1 : a + 1 < b
    · have : runT (a, b) = [a, 45, b] := by simp [runT, h1, show a < b by omega]
      rw [this]
      exact rd_range e1 e2 e3 ih
    · by_cases h2 : a < b
      · obtain rfl : b = a + 1 := by omega
        have : runT (a, a + 1) = [a, a + 1] := by simp [runT]
        rw [this, ← range_two, BitVec.or_assoc]
        exact rd_byte e1 (.inl ⟨a + 1, _, rfl, e2.2.2.2⟩) (rd_byte e2 hN ih)
      · obtain rfl : b = a := by omega
        have : runT (b, b) = [b] := by simp [runT]
        rw [this]
        exact rd_byte e1 hN ih

/-- The four bytes that stand apart. -/
def fourS : BitVec 256 := range 93 93 ||| (range 91 91 ||| (range 94 94 ||| range 45 45))
def iT (x : Bool) (n : Nat) : List Nat := if x = true then [n] else []
def gT (x : Bool) (n : Nat) : BitVec 256 := if x = true then range n n else 0
def midT (s : BitVec 256) : List Nat := (rsOf (s &&& ~~~fourS)).flatMap runT
def outT (s : BitVec 256) : List Nat := iT (s.getLsbD 93) 93 ++ midT s ++ iT (s.getLsbD 91) 91
/-- The text of a set. -/
def textT (s : BitVec 256) : List Nat :=
  if s = 0 then [91, 94, 0, 45, 255, 93]
  else if s = range 94 94 then []
  else if outT s = [] then 91 :: (iT (s.getLsbD 45) 45 ++ (iT (s.getLsbD 94) 94 ++ [93]))
  else 91 :: (outT s ++ (iT (s.getLsbD 94) 94 ++ (iT (s.getLsbD 45) 45 ++ [93])))

theorem get_range1 (n j : Nat) (hj : j < 256) : (range n n).getLsbD j = decide (j = n) := by
  rw [range, get_ofFn]
  simp only [hj, decide_true, Bool.true_and]
  rw [Bool.eq_iff_iff]
  simp only [Bool.and_eq_true, decide_eq_true_eq]
  omega
theorem get_gT (x : Bool) (n j : Nat) (hj : j < 256) : (gT x n).getLsbD j = (x && decide (j = n)) := by
  unfold gT
  cases x
  · simp
  · simp [get_range1 n j hj]
theorem get_four (j : Nat) (hj : j < 256) : fourS.getLsbD j = (decide (j = 93) || (decide (j = 91) || (decide (j = 94) || decide (j = 45)))) := by
  simp only [fourS, BitVec.getLsbD_or, get_range1 _ j hj]
theorem set_parts (s : BitVec 256) : gT (s.getLsbD 93) 93 ||| ((s &&& ~~~fourS) ||| (gT (s.getLsbD 91) 91 ||| (gT (s.getLsbD 94) 94 ||| (gT (s.getLsbD 45) 45 ||| 0)))) = s := by
  apply BitVec.eq_of_getLsbD_eq
  intro j hj
  simp only [BitVec.getLsbD_or, BitVec.getLsbD_and, BitVec.getLsbD_not, get_gT _ _ j hj, get_four j hj, hj, decide_true, Bool.true_and]
  by_cases h1 : j = 93
  · subst h1; simp
  by_cases h2 : j = 91
  · subst h2; simp
  by_cases h3 : j = 94
  · subst h3; simp
  by_cases h4 : j = 45
  · subst h4; simp
  simp [h1, h2, h3, h4]
theorem orR_eq (rs : List (Nat × Nat)) (X : BitVec 256) : orR rs X = orAll rs ||| X := by
  have h : ∀ (l : List (Nat × Nat)) (t : BitVec 256), l.foldl (fun t r => t ||| range r.1 r.2) t ||| X = t ||| orR l X := by
    intro l
    induction l with
    | nil => intro t; rfl
    | cons r l ih => intro t; rw [List.foldl_cons, ih, BitVec.or_assoc]; rfl
  have := h rs 0
  rw [orAll, this]; simp
theorem mid_ends (s : BitVec 256) : ∀ r ∈ rsOf (s &&& ~~~fourS), EndB r.1 ∧ EndB r.2 ∧ r.1 ≤ r.2 := by
  intro r hr
  have hinv := rsOf_inv (s &&& ~~~fourS)
  obtain ⟨h1, h2⟩ := hinv.ok r hr
  have key : ∀ j, r.1 ≤ j → j ≤ r.2 → EndB j := by
    intro j h3 h4
    have hj : j < 256 := by omega
    have := (hinv.all j hj).2 ⟨r, hr, h3, h4⟩
    simp only [BitVec.getLsbD_and, BitVec.getLsbD_not, get_four j hj, hj, decide_true, Bool.true_and, Bool.and_eq_true, Bool.not_eq_true', Bool.or_eq_false_iff, decide_eq_false_iff_not] at this
    exact ⟨this.2.1, this.2.2.1, this.2.2.2.1, this.2.2.2.2⟩
  exact ⟨key _ (Nat.le_refl _) h1, key _ h1 (Nat.le_refl _), h1⟩
theorem mid_nil (s : BitVec 256) (h : midT s = []) : s &&& ~~~fourS = 0 := by
  have : rsOf (s &&& ~~~fourS) = [] := by
    cases hr : rsOf (s &&& ~~~fourS) with
    | nil => rfl
    | cons r rs => rw [midT, hr] at h; simp [runT] at h
  rw [← orAll_rsOf (s &&& ~~~fourS), this]; rfl

theorem rd_45 (z : Bool) : Rd (iT z 45 ++ [93]) false (gT z 45 ||| 0) := by
  cases z
  · exact rd_end
  · exact rd_one (.inl (by decide)) (fun h => absurd h (by decide)) (by decide) rd_end
theorem next_45 (z : Bool) : Next (iT z 45 ++ [93]) := by
  cases z
  · exact .inl ⟨93, [], rfl, by decide⟩
  · exact .inr ⟨[], rfl⟩
theorem or_zero (X : BitVec 256) : 0 ||| X = X := by simp
theorem rd_94 (y z : Bool) : Rd (iT y 94 ++ (iT z 45 ++ [93])) false (gT y 94 ||| (gT z 45 ||| 0)) := by
  cases y
  · have := rd_45 z; rw [← or_zero (gT z 45 ||| 0)] at this; exact this
  · exact rd_next (.inl (by decide)) (by decide) (next_45 z) (rd_45 z)
theorem next_94 (y z : Bool) : Next (iT y 94 ++ (iT z 45 ++ [93])) := by
  cases y
  · exact next_45 z
  · exact .inl ⟨94, _, rfl, by decide⟩
theorem rd_91 (x y z first : Bool) (h : first = false ∨ x = true) : Rd (iT x 91 ++ (iT y 94 ++ (iT z 45 ++ [93]))) first (gT x 91 ||| (gT y 94 ||| (gT z 45 ||| 0))) := by
  cases x
  · rcases h with rfl | h
    · have := rd_94 y z; rw [← or_zero (gT y 94 ||| (gT z 45 ||| 0))] at this; exact this
    · exact absurd h (by decide)
  · have h94 := rd_94 y z
    cases y
    · cases z
      · exact rd_one (.inl (by decide)) (fun _ => by decide) (by decide) h94
      · exact rd_dash (.inl (by decide)) h94
    · exact rd_one (.inl (by decide)) (fun _ => by decide) (by decide) h94
theorem next_91 (x y z : Bool) : Next (iT x 91 ++ (iT y 94 ++ (iT z 45 ++ [93]))) := by
  cases x
  · exact next_94 y z
  · exact .inl ⟨91, _, rfl, by decide⟩

theorem rd_out (s : BitVec 256) (h : outT s ≠ []) : Rd (outT s ++ (iT (s.getLsbD 94) 94 ++ (iT (s.getLsbD 45) 45 ++ [93]))) true s := by
  have hm := mid_ends s
  have hp := set_parts s
  have hN := next_runs (rsOf (s &&& ~~~fourS)) _ (fun r hr => (hm r hr).1) (next_91 (s.getLsbD 91) (s.getLsbD 94) (s.getLsbD 45))
  have key : ∀ first, (first = true → midT s = [] → s.getLsbD 91 = true) → Rd (midT s ++ (iT (s.getLsbD 91) 91 ++ (iT (s.getLsbD 94) 94 ++ (iT (s.getLsbD 45) 45 ++ [93])))) first ((s &&& ~~~fourS) ||| (gT (s.getLsbD 91) 91 ||| (gT (s.getLsbD 94) 94 ||| (gT (s.getLsbD 45) 45 ||| 0)))) := by
    intro first hf
    have := rd_runs (rsOf (s &&& ~~~fourS)) _ first _ hm (next_91 (s.getLsbD 91) (s.getLsbD 94) (s.getLsbD 45)) (fun e => rd_91 _ _ _ first (by
      cases first
      · exact .inl rfl
      · exact .inr (hf rfl (by rw [midT, e]; rfl)))) (rd_91 _ _ _ false (.inl rfl))
    rw [orR_eq, orAll_rsOf] at this
    exact this
  rw [outT, List.append_assoc, List.append_assoc] at *
  cases h93 : s.getLsbD 93
  · rw [h93] at hp h
    have := key true (fun _ e => by
      rw [e] at h
      cases h91 : s.getLsbD 91
      · rw [h91] at h; exact absurd rfl h
      · rfl)
    rw [show gT false 93 = 0 from rfl, or_zero] at hp
    rw [hp] at this
    simpa [iT] using this
  · rw [h93] at hp
    have := rd_next (a := 93) (first := true) (.inr rfl) (by decide) hN (key false (fun e => absurd e (by decide)))
    rw [show range 93 93 = gT true 93 from rfl, hp] at this
    exact this

theorem out_head (s : BitVec 256) (h : outT s ≠ []) (T : List Nat) : ∃ c L, outT s ++ T = c :: L ∧ c ≠ 94 := by
  rw [outT] at *
  cases h93 : s.getLsbD 93
  · rw [h93] at h
    cases hr : rsOf (s &&& ~~~fourS) with
    | nil =>
      cases h91 : s.getLsbD 91
      · rw [h91, midT, hr] at h; exact absurd rfl h
      · rw [midT, hr]; exact ⟨91, _, rfl, by decide⟩
    | cons r rs =>
      refine ⟨r.1, (if r.1 + 1 < r.2 then [45] else []) ++ (if r.1 < r.2 then [r.2] else []) ++ rs.flatMap runT ++ iT (s.getLsbD 91) 91 ++ T, ?_, (mid_ends s r (by rw [hr]; simp)).1.2.2.1⟩
      rw [midT, hr]; simp [iT, runT]
  · exact ⟨93, _, rfl, by decide⟩
theorem readR_rd (s : ByteArray) (k c : Nat) (L : List Nat) (X : BitVec 256) (hc : c ≠ 94) (hX : Rd (c :: L) true X) (h : Lies s k (91 :: c :: L)) : readR s k = (X, k + (91 :: c :: L).length, 0, 0) := by
  obtain ⟨h1, h2, h3⟩ := h
  have hle := Lies.le h3
  unfold readR
  rw [if_neg (by omega)]
  rw [show (k : Int).toNat = k from rfl, if_neg (by omega)]
  have es : startR s k = ⟨0, k + 1, 0, 0, false, false⟩ := by rw [startR, if_neg (fun h => hc (by rw [← h3.2.1]; exact h.2))]
  rw [es, hX s (k + 1) 0 false (s.size + 1) h3 (by omega)]
  simp [finR]
  omega
/-- The text of a set is read as the set. -/
theorem readR_text (b : ByteArray) (k : Nat) (s : BitVec 256) (hs : s ≠ range 94 94) (h : Lies b k (textT s)) : readR b k = (s, k + (textT s).length, 0, 0) := by
  unfold textT at h ⊢
  by_cases h0 : s = 0
  · subst h0
    rw [if_pos rfl] at h ⊢
    obtain ⟨g1, e1, g2, e2, g3, e3, g4, e4, g5, e5, g6, e6, _⟩ := h
    have e3' : bt b (k + 2) = 0 := e3
    have e5' : bt b (k + 4) = 255 := e5
    have := readR_npair b k (by omega) e1 e2 (by rw [e3']; exact ⟨by decide, by decide, by decide, by decide⟩) e4 (by rw [e5']; exact ⟨by decide, by decide, by decide, by decide⟩) e6
    rw [this, e3', e5', if_neg (by decide)]
    rw [show ~~~ range 0 255 = (0 : BitVec 256) by decide +kernel]
    rfl
  rw [if_neg h0, if_neg hs] at h ⊢
  by_cases ho : outT s = []
  · rw [if_pos ho] at h ⊢
    have hp := set_parts s
    have ho' := ho
    rw [outT, List.append_eq_nil_iff, List.append_eq_nil_iff] at ho'
    obtain ⟨⟨o1, o2⟩, o3⟩ := ho'
    have h93 : s.getLsbD 93 = false := by cases h : s.getLsbD 93; rfl; rw [h] at o1; exact absurd o1 (by decide)
    have h91 : s.getLsbD 91 = false := by cases h : s.getLsbD 91; rfl; rw [h] at o3; exact absurd o3 (by decide)
    rw [mid_nil s o2, h93, h91, show gT false 93 = 0 from rfl, show gT false 91 = 0 from rfl, or_zero, or_zero, or_zero] at hp
    cases hz : s.getLsbD 45
    · rw [hz] at hp
      cases hy : s.getLsbD 94
      · rw [hy] at hp; exact absurd (hp.symm.trans (by decide +kernel)) h0
      · rw [hy] at hp; exact absurd (hp.symm.trans (by decide +kernel)) hs
    · rw [hz] at h hp
      cases hy : s.getLsbD 94
      · rw [hy] at h hp
        have hX : Rd [45, 93] true (range 45 45 ||| 0) := rd_one (.inl (by decide)) (fun h => absurd h (by decide)) (by decide) rd_end
        rw [show range 45 45 ||| 0 = gT false 94 ||| (gT true 45 ||| 0) from by decide +kernel, hp] at hX
        exact readR_rd b k 45 [93] s (by decide) hX h
      · rw [hy] at h hp
        have hX : Rd [45, 94, 93] true (range 45 45 ||| (range 94 94 ||| 0)) := rd_one (.inl (by decide)) (fun h => absurd h (by decide)) (by decide) (rd_one (.inl (by decide)) (fun h => absurd h (by decide)) (by decide) rd_end)
        rw [show range 45 45 ||| (range 94 94 ||| 0) = gT true 94 ||| (gT true 45 ||| 0) from by decide +kernel, hp] at hX
        exact readR_rd b k 45 [94, 93] s (by decide) hX h
  · rw [if_neg ho] at h ⊢
    have hX := rd_out s ho
    obtain ⟨c, L, e, hc⟩ := out_head s ho (iT (s.getLsbD 94) 94 ++ (iT (s.getLsbD 45) 45 ++ [93]))
    rw [e] at hX h ⊢
    exact readR_rd b k c L s hc hX h

end Go.Proofs.YtkkhibamkdgffaaDoor

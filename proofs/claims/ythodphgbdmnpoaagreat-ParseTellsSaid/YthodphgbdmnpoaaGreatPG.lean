/- Texts put together: Gw Vp Gx Vq Pb Pc Pd Ow Ha Hc. -/
import Derived.Test.YthodphgbdmnpoaaGreatPF
import Derived.Test.YthodphgbdmnpoaaGreatPB
import Derived.Test.YthodphgbdmnpoaaGreatPC
import Derived.Test.YthodphgbdmnpoaaGreatPD
import Derived.Laws.AppendOwn
import Derived.Laws.OwnMore
import Derived.Deep.AppendLies
import Derived.WalkLawsBesides
import Derived.Laws.StructEq
import Derived.BigQuiet
import Derived.Deep.QuietTactic
import Derived.Lib.Hide
/- The text of a set, and that it is read as the set. -/
namespace Go.Proofs.YthodphgbdmnpoaaGreat
open Go.RowKit BS

/-- The bytes L lie in s from p on. -/
def Lies (s : ByteArray) : Nat → List Nat → Prop
  | p, [] => p ≤ s.size
  | p, a :: L => p < s.size ∧ bt s p = a ∧ Lies s (p + 1) L
theorem Lies.le {s : ByteArray} : ∀ {p : Nat} {L : List Nat}, Lies s p L → p + L.length ≤ s.size
  | _, [], h => h
  | p, _ :: L, h => by have := Lies.le h.2.2; simp only [List.length_cons]; omega

/-- What is read of L, to its end. -/
def Rd (L : List Nat) (first : Bool) (X : BitVec 256) : Prop :=
  ∀ (s : ByteArray) (p : Nat) (t : BitVec 256) (neg : Bool) (n : Nat), Lies s p L → L.length + 1 ≤ n → loopR s n ⟨t, p, 0, 0, false, neg⟩ first = ⟨t ||| X, p + L.length, 0, 0, true, neg⟩

theorem rd_end : Rd [93] false 0 := by
  intro s p t neg n h hn
  obtain ⟨m, rfl⟩ : ∃ m, n = m + 2 := ⟨n - 2, by simp at hn; omega⟩
  have e := thingR_end s ⟨t, p, 0, 0, false, neg⟩ h.1 h.2.1
  rw [loopR, if_neg (by simp), e, if_neg (by simp), loopR_fin _ _ _ _ rfl]
  simp
theorem rd_step {A L : List Nat} {first : Bool} {X : BitVec 256} (lo hi : Nat) (ht : ∀ s p t neg, Lies s p (A ++ L) → thingR s ⟨t, p, 0, 0, false, neg⟩ first = addR ⟨t, p, 0, 0, false, neg⟩ lo hi (p + A.length))
    (hl : ∀ s p, Lies s p (A ++ L) → Lies s (p + A.length) L) (hA : A ≠ []) (h : Rd L false X) : Rd (A ++ L) first (range lo hi ||| X) := by
  intro s p t neg n hs hn
  have hA' := List.length_pos_iff.2 hA
  rw [List.length_append] at hn
  obtain ⟨m, rfl⟩ : ∃ m, n = m + 1 := ⟨n - 1, by omega⟩
  rw [loopR, if_neg (by simp), ht s p t neg hs, if_neg (by simp [addR])]
  have := h s (p + A.length) (t ||| range lo hi) neg m (hl s p hs) (by omega)
  rw [show addR ⟨t, p, 0, 0, false, neg⟩ lo hi (p + A.length) = ⟨t ||| range lo hi, p + A.length, 0, 0, false, neg⟩ from rfl, this, BitVec.or_assoc, List.length_append, Nat.add_assoc]
theorem rd_one {a c : Nat} {L : List Nat} {first : Bool} {X : BitVec 256} (h1 : a ≠ 93 ∨ first = true) (h2 : a = 91 → c ≠ 58 ∧ spec3 c = false) (h3 : c ≠ 45) (h : Rd (c :: L) false X) : Rd (a :: c :: L) first (range a a ||| X) := by
  refine rd_step (A := [a]) (L := c :: L) a a ?_ (fun s p h => h.2.2) (by simp) h
  rintro s p t neg ⟨g1, g2, g3, g4, _⟩
  unfold thingR
  simp only
  rw [if_neg (by omega), g2, g4, if_neg (fun h => ?_), if_neg (by omega), if_neg (fun h => (h2 h.1).1 h.2), if_neg (fun h => ?_), if_pos h3]
  · rfl
  · rw [(h2 h.1).2] at h; exact absurd h.2 (by decide)
  · rcases h1 with h1 | h1
    · exact h1 h.1
    · rw [h1] at h; exact absurd h.2 (by decide)
theorem rd_dash {a : Nat} {L : List Nat} {first : Bool} {X : BitVec 256} (h1 : a ≠ 93 ∨ first = true) (h : Rd (45 :: 93 :: L) false X) : Rd (a :: 45 :: 93 :: L) first (range a a ||| X) := by
  refine rd_step (A := [a]) (L := 45 :: 93 :: L) a a ?_ (fun s p h => h.2.2) (by simp) h
  rintro s p t neg ⟨g1, g2, g3, g4, g5, g6, _⟩
  unfold thingR
  simp only
  rw [show p + 2 = p + 1 + 1 from rfl, if_neg (by omega), g2, g4, g6, if_neg (fun h => ?_), if_neg (by omega), if_neg (fun h => absurd h.2 (by decide)), if_neg (fun h => absurd h.2 (by decide)), if_neg (by decide), if_neg (by omega), if_pos rfl]
  · rfl
  · rcases h1 with h1 | h1
    · exact h1 h.1
    · rw [h1] at h; exact absurd h.2 (by decide)
theorem rd_range {a b : Nat} {L : List Nat} {first : Bool} {X : BitVec 256} (h1 : EndB a) (h2 : EndB b) (hab : a ≤ b) (h : Rd L false X) : Rd (a :: 45 :: b :: L) first (range a b ||| X) := by
  refine rd_step (A := [a, 45, b]) (L := L) a b ?_ (fun s p h => h.2.2.2.2.2.2) (by simp) h
  rintro s p t neg ⟨g1, g2, g3, g4, g5, g6, g7⟩
  unfold thingR
  simp only
  rw [show p + 2 = p + 1 + 1 from rfl, if_neg (by omega), g2, g4, g6, if_neg (fun h => h1.1 h.1), if_neg (by omega), if_neg (fun h => h1.2.1 h.1), if_neg (fun h => h1.2.1 h.1), if_neg (by decide), if_neg (by omega), if_neg h2.1,
    if_neg (by omega), if_neg (fun h => h2.2.1 h.1), if_neg (fun h => h2.2.1 h.1)]
  rfl

/-- What follows may stand behind a byte. -/
def Next (L : List Nat) : Prop := (∃ c L', L = c :: L' ∧ c ≠ 45) ∨ ∃ L', L = 45 :: 93 :: L'
theorem rd_next {a : Nat} {L : List Nat} {first : Bool} {X : BitVec 256} (h1 : a ≠ 93 ∨ first = true) (h2 : a ≠ 91) (hn : Next L) (h : Rd L false X) : Rd (a :: L) first (range a a ||| X) := by
  rcases hn with ⟨c, L', rfl, hc⟩ | ⟨L', rfl⟩
  · exact rd_one h1 (fun e => absurd e h2) hc h
  · exact rd_dash h1 h
theorem rd_byte {a : Nat} {L : List Nat} {first : Bool} {X : BitVec 256} (h1 : EndB a) (hn : Next L) (h : Rd L false X) : Rd (a :: L) first (range a a ||| X) := rd_next (.inl h1.1) h1.2.1 hn h

/-- The text of a run. -/
def runT (r : Nat × Nat) : List Nat := [r.1] ++ (if r.1 + 1 < r.2 then [45] else []) ++ (if r.1 < r.2 then [r.2] else [])
theorem next_runs (rs : List (Nat × Nat)) (L : List Nat) (h : ∀ r ∈ rs, EndB r.1) (hL : Next L) : Next (rs.flatMap runT ++ L) := by
  cases rs with
  | nil => exact hL
  | cons r rs => exact .inl ⟨r.1, (if r.1 + 1 < r.2 then [45] else []) ++ (if r.1 < r.2 then [r.2] else []) ++ (rs.flatMap runT ++ L), by simp [runT], (h r (by simp)).2.2.2⟩
def orR (rs : List (Nat × Nat)) (X : BitVec 256) : BitVec 256 := rs.foldr (fun r t => range r.1 r.2 ||| t) X
theorem range_two (a : Nat) : range a a ||| range (a + 1) (a + 1) = range a (a + 1) := by
  apply BitVec.eq_of_getLsbD_eq
  intro j hj
  rw [BitVec.getLsbD_or, range, range, range, get_ofFn, get_ofFn, get_ofFn]
  simp only [hj, decide_true, Bool.true_and]
  rw [Bool.eq_iff_iff]
  simp only [Bool.or_eq_true, Bool.and_eq_true, decide_eq_true_eq]
  omega
theorem rd_runs : ∀ (rs : List (Nat × Nat)) (L : List Nat) (first : Bool) (X : BitVec 256), (∀ r ∈ rs, EndB r.1 ∧ EndB r.2 ∧ r.1 ≤ r.2) → Next L → (rs = [] → Rd L first X) → Rd L false X → Rd (rs.flatMap runT ++ L) first (orR rs X)
  | [], L, first, X, _, _, h0, _ => h0 rfl
  | r :: rs, L, first, X, hr, hL, _, h => by
    have ih := rd_runs rs L false X (fun r' h' => hr r' (by simp [h'])) hL (fun _ => h) h
    have hN := next_runs rs L (fun r' h' => (hr r' (by simp [h'])).1) hL
    obtain ⟨e1, e2, e3⟩ := hr r (by simp)
    rw [List.flatMap_cons, List.append_assoc]
    show Rd _ _ (range r.1 r.2 ||| orR rs X)
    obtain ⟨a, b⟩ := r
    simp only at e1 e2 e3 ⊢
    by_cases h1 : a + 1 < b
    · have : runT (a, b) = [a, 45, b] := by simp [runT, h1, show a < b by omega]
      rw [this]
      exact rd_range e1 e2 e3 ih
    · by_cases h2 : a < b
      · obtain rfl : b = a + 1 := by omega
        have : runT (a, a + 1) = [a, a + 1] := by simp [runT]
        rw [this, ← range_two, BitVec.or_assoc]
        exact rd_byte e1 (.inl ⟨a + 1, _, rfl, e2.2.2.2⟩) (rd_byte e2 hN ih)
      · obtain rfl : b = a := by omega
        have : runT (b, b) = [b] := by simp [runT]
        rw [this]
        exact rd_byte e1 hN ih

/-- The four bytes that stand apart. -/
def fourS : BitVec 256 := range 93 93 ||| (range 91 91 ||| (range 94 94 ||| range 45 45))
def iT (x : Bool) (n : Nat) : List Nat := if x = true then [n] else []
def gT (x : Bool) (n : Nat) : BitVec 256 := if x = true then range n n else 0
def midT (s : BitVec 256) : List Nat := (rsOf (s &&& ~~~fourS)).flatMap runT
def outT (s : BitVec 256) : List Nat := iT (s.getLsbD 93) 93 ++ midT s ++ iT (s.getLsbD 91) 91
/-- The text of a set. -/
def textT (s : BitVec 256) : List Nat :=
  if s = 0 then [91, 94, 0, 45, 255, 93]
  else if s = range 94 94 then []
  else if outT s = [] then 91 :: (iT (s.getLsbD 45) 45 ++ (iT (s.getLsbD 94) 94 ++ [93]))
  else 91 :: (outT s ++ (iT (s.getLsbD 94) 94 ++ (iT (s.getLsbD 45) 45 ++ [93])))

theorem get_range1 (n j : Nat) (hj : j < 256) : (range n n).getLsbD j = decide (j = n) := by
  rw [range, get_ofFn]
  simp only [hj, decide_true, Bool.true_and]
  rw [Bool.eq_iff_iff]
  simp only [Bool.and_eq_true, decide_eq_true_eq]
  omega
theorem get_gT (x : Bool) (n j : Nat) (hj : j < 256) : (gT x n).getLsbD j = (x && decide (j = n)) := by
  unfold gT
  cases x
  · simp
  · simp [get_range1 n j hj]
theorem get_four (j : Nat) (hj : j < 256) : fourS.getLsbD j = (decide (j = 93) || (decide (j = 91) || (decide (j = 94) || decide (j = 45)))) := by
  simp only [fourS, BitVec.getLsbD_or, get_range1 _ j hj]
theorem set_parts (s : BitVec 256) : gT (s.getLsbD 93) 93 ||| ((s &&& ~~~fourS) ||| (gT (s.getLsbD 91) 91 ||| (gT (s.getLsbD 94) 94 ||| (gT (s.getLsbD 45) 45 ||| 0)))) = s := by
  apply BitVec.eq_of_getLsbD_eq
  intro j hj
  simp only [BitVec.getLsbD_or, BitVec.getLsbD_and, BitVec.getLsbD_not, get_gT _ _ j hj, get_four j hj, hj, decide_true, Bool.true_and]
  by_cases h1 : j = 93
  · subst h1; simp
  by_cases h2 : j = 91
  · subst h2; simp
  by_cases h3 : j = 94
  · subst h3; simp
  by_cases h4 : j = 45
  · subst h4; simp
  simp [h1, h2, h3, h4]
theorem orR_eq (rs : List (Nat × Nat)) (X : BitVec 256) : orR rs X = orAll rs ||| X := by
  have h : ∀ (l : List (Nat × Nat)) (t : BitVec 256), l.foldl (fun t r => t ||| range r.1 r.2) t ||| X = t ||| orR l X := by
    intro l
    induction l with
    | nil => intro t; rfl
    | cons r l ih => intro t; rw [List.foldl_cons, ih, BitVec.or_assoc]; rfl
  have := h rs 0
  rw [orAll, this]; simp
theorem mid_ends (s : BitVec 256) : ∀ r ∈ rsOf (s &&& ~~~fourS), EndB r.1 ∧ EndB r.2 ∧ r.1 ≤ r.2 := by
  intro r hr
  have hinv := rsOf_inv (s &&& ~~~fourS)
  obtain ⟨h1, h2⟩ := hinv.ok r hr
  have key : ∀ j, r.1 ≤ j → j ≤ r.2 → EndB j := by
    intro j h3 h4
    have hj : j < 256 := by omega
    have := (hinv.all j hj).2 ⟨r, hr, h3, h4⟩
    simp only [BitVec.getLsbD_and, BitVec.getLsbD_not, get_four j hj, hj, decide_true, Bool.true_and, Bool.and_eq_true, Bool.not_eq_true', Bool.or_eq_false_iff, decide_eq_false_iff_not] at this
    exact ⟨this.2.1, this.2.2.1, this.2.2.2.1, this.2.2.2.2⟩
  exact ⟨key _ (Nat.le_refl _) h1, key _ h1 (Nat.le_refl _), h1⟩
theorem mid_nil (s : BitVec 256) (h : midT s = []) : s &&& ~~~fourS = 0 := by
  have : rsOf (s &&& ~~~fourS) = [] := by
    cases hr : rsOf (s &&& ~~~fourS) with
    | nil => rfl
    | cons r rs => rw [midT, hr] at h; simp [runT] at h
  rw [← orAll_rsOf (s &&& ~~~fourS), this]; rfl

theorem rd_45 (z : Bool) : Rd (iT z 45 ++ [93]) false (gT z 45 ||| 0) := by
  cases z
  · exact rd_end
  · exact rd_one (.inl (by decide)) (fun h => absurd h (by decide)) (by decide) rd_end
theorem next_45 (z : Bool) : Next (iT z 45 ++ [93]) := by
  cases z
  · exact .inl ⟨93, [], rfl, by decide⟩
  · exact .inr ⟨[], rfl⟩
theorem or_zero (X : BitVec 256) : 0 ||| X = X := by simp
theorem rd_94 (y z : Bool) : Rd (iT y 94 ++ (iT z 45 ++ [93])) false (gT y 94 ||| (gT z 45 ||| 0)) := by
  cases y
  · have := rd_45 z; rw [← or_zero (gT z 45 ||| 0)] at this; exact this
  · exact rd_next (.inl (by decide)) (by decide) (next_45 z) (rd_45 z)
theorem next_94 (y z : Bool) : Next (iT y 94 ++ (iT z 45 ++ [93])) := by
  cases y
  · exact next_45 z
  · exact .inl ⟨94, _, rfl, by decide⟩
theorem rd_91 (x y z first : Bool) (h : first = false ∨ x = true) : Rd (iT x 91 ++ (iT y 94 ++ (iT z 45 ++ [93]))) first (gT x 91 ||| (gT y 94 ||| (gT z 45 ||| 0))) := by
  cases x
  · rcases h with rfl | h
    · have := rd_94 y z; rw [← or_zero (gT y 94 ||| (gT z 45 ||| 0))] at this; exact this
    · exact absurd h (by decide)
  · have h94 := rd_94 y z
    cases y
    · cases z
      · exact rd_one (.inl (by decide)) (fun _ => by decide) (by decide) h94
      · exact rd_dash (.inl (by decide)) h94
    · exact rd_one (.inl (by decide)) (fun _ => by decide) (by decide) h94
theorem next_91 (x y z : Bool) : Next (iT x 91 ++ (iT y 94 ++ (iT z 45 ++ [93]))) := by
  cases x
  · exact next_94 y z
  · exact .inl ⟨91, _, rfl, by decide⟩

theorem rd_out (s : BitVec 256) (h : outT s ≠ []) : Rd (outT s ++ (iT (s.getLsbD 94) 94 ++ (iT (s.getLsbD 45) 45 ++ [93]))) true s := by
  have hm := mid_ends s
  have hp := set_parts s
  have hN := next_runs (rsOf (s &&& ~~~fourS)) _ (fun r hr => (hm r hr).1) (next_91 (s.getLsbD 91) (s.getLsbD 94) (s.getLsbD 45))
  have key : ∀ first, (first = true → midT s = [] → s.getLsbD 91 = true) → Rd (midT s ++ (iT (s.getLsbD 91) 91 ++ (iT (s.getLsbD 94) 94 ++ (iT (s.getLsbD 45) 45 ++ [93])))) first ((s &&& ~~~fourS) ||| (gT (s.getLsbD 91) 91 ||| (gT (s.getLsbD 94) 94 ||| (gT (s.getLsbD 45) 45 ||| 0)))) := by
    intro first hf
    have := rd_runs (rsOf (s &&& ~~~fourS)) _ first _ hm (next_91 (s.getLsbD 91) (s.getLsbD 94) (s.getLsbD 45)) (fun e => rd_91 _ _ _ first (by
      cases first
      · exact .inl rfl
      · exact .inr (hf rfl (by rw [midT, e]; rfl)))) (rd_91 _ _ _ false (.inl rfl))
    rw [orR_eq, orAll_rsOf] at this
    exact this
  rw [outT, List.append_assoc, List.append_assoc] at *
  cases h93 : s.getLsbD 93
  · rw [h93] at hp h
    have := key true (fun _ e => by
      rw [e] at h
      cases h91 : s.getLsbD 91
      · rw [h91] at h; exact absurd rfl h
      · rfl)
    rw [show gT false 93 = 0 from rfl, or_zero] at hp
    rw [hp] at this
    simpa [iT] using this
  · rw [h93] at hp
    have := rd_next (a := 93) (first := true) (.inr rfl) (by decide) hN (key false (fun e => absurd e (by decide)))
    rw [show range 93 93 = gT true 93 from rfl, hp] at this
    exact this

theorem out_head (s : BitVec 256) (h : outT s ≠ []) (T : List Nat) : ∃ c L, outT s ++ T = c :: L ∧ c ≠ 94 := by
  rw [outT] at *
  cases h93 : s.getLsbD 93
  · rw [h93] at h
    cases hr : rsOf (s &&& ~~~fourS) with
    | nil =>
      cases h91 : s.getLsbD 91
      · rw [h91, midT, hr] at h; exact absurd rfl h
      · rw [midT, hr]; exact ⟨91, _, rfl, by decide⟩
    | cons r rs =>
      refine ⟨r.1, (if r.1 + 1 < r.2 then [45] else []) ++ (if r.1 < r.2 then [r.2] else []) ++ rs.flatMap runT ++ iT (s.getLsbD 91) 91 ++ T, ?_, (mid_ends s r (by rw [hr]; simp)).1.2.2.1⟩
      rw [midT, hr]; simp [iT, runT]
  · exact ⟨93, _, rfl, by decide⟩
theorem readR_rd (s : ByteArray) (k c : Nat) (L : List Nat) (X : BitVec 256) (hc : c ≠ 94) (hX : Rd (c :: L) true X) (h : Lies s k (91 :: c :: L)) : readR s k = (X, k + (91 :: c :: L).length, 0, 0) := by
  obtain ⟨h1, h2, h3⟩ := h
  have hle := Lies.le h3
  unfold readR
  rw [if_neg (by omega)]
  rw [show (k : Int).toNat = k from rfl, if_neg (by omega)]
  have es : startR s k = ⟨0, k + 1, 0, 0, false, false⟩ := by rw [startR, if_neg (fun h => hc (by rw [← h3.2.1]; exact h.2))]
  rw [es, hX s (k + 1) 0 false (s.size + 1) h3 (by omega)]
  simp [finR]
  omega
/-- The text of a set is read as the set. -/
theorem readR_text (b : ByteArray) (k : Nat) (s : BitVec 256) (hs : s ≠ range 94 94) (h : Lies b k (textT s)) : readR b k = (s, k + (textT s).length, 0, 0) := by
  unfold textT at h ⊢
  by_cases h0 : s = 0
  · subst h0
    rw [if_pos rfl] at h ⊢
    obtain ⟨g1, e1, g2, e2, g3, e3, g4, e4, g5, e5, g6, e6, _⟩ := h
    have e3' : bt b (k + 2) = 0 := e3
    have e5' : bt b (k + 4) = 255 := e5
    have := readR_npair b k (by omega) e1 e2 (by rw [e3']; exact ⟨by decide, by decide, by decide, by decide⟩) e4 (by rw [e5']; exact ⟨by decide, by decide, by decide, by decide⟩) e6
    rw [this, e3', e5', if_neg (by decide)]
    rw [show ~~~ range 0 255 = (0 : BitVec 256) by decide +kernel]
    rfl
  rw [if_neg h0, if_neg hs] at h ⊢
  by_cases ho : outT s = []
  · rw [if_pos ho] at h ⊢
    have hp := set_parts s
    have ho' := ho
    rw [outT, List.append_eq_nil_iff, List.append_eq_nil_iff] at ho'
    obtain ⟨⟨o1, o2⟩, o3⟩ := ho'
    have h93 : s.getLsbD 93 = false := by cases h : s.getLsbD 93; rfl; rw [h] at o1; exact absurd o1 (by decide)
    have h91 : s.getLsbD 91 = false := by cases h : s.getLsbD 91; rfl; rw [h] at o3; exact absurd o3 (by decide)
    rw [mid_nil s o2, h93, h91, show gT false 93 = 0 from rfl, show gT false 91 = 0 from rfl, or_zero, or_zero, or_zero] at hp
    cases hz : s.getLsbD 45
    · rw [hz] at hp
      cases hy : s.getLsbD 94
      · rw [hy] at hp; exact absurd (hp.symm.trans (by decide +kernel)) h0
      · rw [hy] at hp; exact absurd (hp.symm.trans (by decide +kernel)) hs
    · rw [hz] at h hp
      cases hy : s.getLsbD 94
      · rw [hy] at h hp
        have hX : Rd [45, 93] true (range 45 45 ||| 0) := rd_one (.inl (by decide)) (fun h => absurd h (by decide)) (by decide) rd_end
        rw [show range 45 45 ||| 0 = gT false 94 ||| (gT true 45 ||| 0) from by decide +kernel, hp] at hX
        exact readR_rd b k 45 [93] s (by decide) hX h
      · rw [hy] at h hp
        have hX : Rd [45, 94, 93] true (range 45 45 ||| (range 94 94 ||| 0)) := rd_one (.inl (by decide)) (fun h => absurd h (by decide)) (by decide) (rd_one (.inl (by decide)) (fun h => absurd h (by decide)) (by decide) rd_end)
        rw [show range 45 45 ||| (range 94 94 ||| 0) = gT true 94 ||| (gT true 45 ||| 0) from by decide +kernel, hp] at hX
        exact readR_rd b k 45 [94, 93] s (by decide) hX h
  · rw [if_neg ho] at h ⊢
    have hX := rd_out s ho
    obtain ⟨c, L, e, hc⟩ := out_head s ho (iT (s.getLsbD 94) 94 ++ (iT (s.getLsbD 45) 45 ++ [93]))
    rw [e] at hX h ⊢
    exact readR_rd b k c L s hc hX h

end Go.Proofs.YthodphgbdmnpoaaGreat

/- Words of a pattern, plainly: how the document reads and prints them. -/
namespace Go.Proofs.YthodphgbdmnpoaaGreat
open Go.RowKit BS

structure WN where
  kind : Nat
  pos : Nat
  fin : Nat
  set : BitVec 256
  n : Nat
  m : Int
def zWN : WN := ⟨0, 0, 0, 0, 0, 0⟩
def oneW (t : BitVec 256) (a e : Nat) : WN := ⟨1, a, e, t, 0, 0⟩
/-- The bytes that may stand behind a backslash. -/
def l14 : List Nat := [46, 91, 93, 92, 40, 41, 42, 43, 63, 123, 125, 124, 94, 36]
def four14 (b : Nat) : Bool := l14.contains b
def cntW (s : ByteArray) (a : Nat) : WN × Nat × Nat :=
  match readN s a with
  | (n, m, p, e, k) => if e ≠ 0 then (zWN, e, k) else (⟨5, a, p, 0, n, m⟩, 0, 0)
def brkW (s : ByteArray) (a : Nat) : WN × Nat × Nat :=
  match readR s a with
  | (t, p, e, k) => if e ≠ 0 then (zWN, e, k) else (oneW t a p, 0, 0)
def slashW (s : ByteArray) (a : Nat) : WN × Nat × Nat :=
  if s.size ≤ a + 1 then (zWN, 2, s.size)
  else if four14 (bt s (a + 1)) = false then (zWN, 3, a + 2)
  else (oneW (range (bt s (a + 1)) (bt s (a + 1))) a (a + 2), 0, 0)
def nextA (s : ByteArray) (a : Nat) : WN × Nat × Nat :=
  if bt s a = 40 then (⟨2, a, a + 1, 0, 0, 0⟩, 0, 0)
  else if bt s a = 41 then (⟨3, a, a + 1, 0, 0, 0⟩, 0, 0)
  else if bt s a = 124 then (⟨4, a, a + 1, 0, 0, 0⟩, 0, 0)
  else if bt s a = 42 ∨ bt s a = 43 ∨ bt s a = 63 ∨ bt s a = 123 then cntW s a
  else if bt s a = 91 then brkW s a
  else if bt s a = 46 then (oneW (range 0 255) a (a + 1), 0, 0)
  else if bt s a = 94 ∨ bt s a = 36 then (zWN, 3, a + 1)
  else if bt s a = 92 then slashW s a
  else (oneW (range (bt s a) (bt s a)) a (a + 1), 0, 0)
def nextN (s : ByteArray) (at' : Int) : WN × Nat × Nat :=
  if at' < 0 ∨ (s.size : Int) ≤ at' then (zWN, 1, 0) else nextA s at'.toNat

/-- All words from a place on, behind some. -/
def allN (s : ByteArray) : Nat → Nat → List WN → List WN × Nat × Nat
  | 0, _, l => (l, 0, 0)
  | k + 1, a, l =>
    if s.size ≤ a then (l, 0, 0)
    else match nextA s a with
      | (w, e, p) => if e ≠ 0 then ([], e, p) else allN s k w.fin (l ++ [w])
def wordsN (s : ByteArray) : List WN × Nat × Nat := allN s (s.size + 1) 0 []

def textW (t : BitVec 256) : List Nat :=
  if (el t.getLsbD 256).length = 256 then [46]
  else if (el t.getLsbD 256).length ≠ 1 then textT t
  else match el t.getLsbD 256 with
    | b :: _ => if four14 b = true ∧ b ≠ 93 ∧ b ≠ 125 then [92, b] else [b]
    | [] => []
def printW (w : WN) : List Nat :=
  if w.kind = 1 then textW w.set
  else if w.kind = 2 then [40]
  else if w.kind = 3 then [41]
  else if w.kind = 4 then [124]
  else if w.kind = 5 then textN w.n w.m
  else []

/-! ### What a word is -/
def OkW (w : WN) : Prop := (w.kind = 1 ∧ w.n = 0 ∧ w.m = 0) ∨ ((w.kind = 2 ∨ w.kind = 3 ∨ w.kind = 4) ∧ w.set = 0 ∧ w.n = 0 ∧ w.m = 0) ∨ (w.kind = 5 ∧ w.set = 0 ∧ rightN w.n w.m = true)
/-- The word at a place is one, which ends within the text, or there is an error, whose place is in the text. -/
def EndW (s : ByteArray) (a : Nat) (r : WN × Nat × Nat) : Prop :=
  (r.2.1 = 0 ∧ r.2.2 = 0 ∧ OkW r.1 ∧ r.1.pos = a ∧ a < r.1.fin ∧ r.1.fin ≤ s.size) ∨
  (r.2.1 ≠ 0 ∧ r.2.1 ≠ 1 ∧ r.1 = zWN ∧ a < r.2.2 ∧ r.2.2 ≤ s.size ∧ (r.2.1 = 2 → r.2.2 = s.size))
theorem cntW_end (s : ByteArray) (a : Nat) (h : a < s.size) (hb : bt s a = 42 ∨ bt s a = 43 ∨ bt s a = 63 ∨ bt s a = 123) : EndW s a (cntW s a) := by
  unfold cntW
  have h1 : (readN s a).2.2.2.1 ≠ 1 := by
    unfold readN
    rw [if_neg (by omega), show (a : Int).toNat = a from rfl]
    unfold signN
    rcases hb with e | e | e | e
    · rw [if_pos e]; exact fun h => by cases h
    · rw [if_neg (by omega), if_pos e]; exact fun h => by cases h
    · rw [if_neg (by omega), if_neg (by omega), if_pos e]; exact fun h => by cases h
    · rw [if_neg (by omega), if_neg (by omega), if_neg (by omega), if_pos e]
      rcases runN_end s a (s.size - (a + 1)) (a + 1) ⟨0, 0, 0, false⟩ inv_start (by omega) (by omega) with h | h | h
      · unfold bracesN; rw [h.1]; decide
      · unfold bracesN; rcases h.1 with h | h <;> rw [h] <;> decide
      · unfold bracesN; rw [h]; exact fun h => by cases h
  rcases readN_cases s a with h' | ⟨k, hk, hE⟩
  · rw [h'] at h1; exact absurd rfl h1
  obtain rfl : a = k := by omega
  generalize readN s a = R at *
  obtain ⟨n, m, p, e, k⟩ := R
  simp only [EndN] at hE h1
  rcases hE with ⟨rfl, rfl, g1, g2, g3⟩ | ⟨g1, _, _, _, g5, g6⟩ | g
  · exact .inl ⟨rfl, rfl, .inr (.inr ⟨rfl, rfl, g3⟩), rfl, g1, g2⟩
  · simp only
    rw [if_pos (by omega)]
    exact .inr ⟨by simp only; omega, h1, rfl, g5, g6, fun h => by simp only at h; omega⟩
  · cases g
    exact .inr ⟨(fun h => by cases h), (fun h => by cases h), rfl, h, Nat.le_refl _, fun _ => rfl⟩
end Go.Proofs.YthodphgbdmnpoaaGreat

/- Texts of bytes told by numbers. -/
namespace Go.Proofs.YthodphgbdmnpoaaGreat
open Go.RowKit BS

theorem lies_of (s : ByteArray) : ∀ (L : List Nat) (p : Nat), p + L.length ≤ s.size → (∀ i (h : i < L.length), bt s (p + i) = L[i]) → Lies s p L
  | [], p, h, _ => h
  | a :: L, p, h, hb => by
    simp only [List.length_cons] at h
    refine ⟨by omega, hb 0 (by simp), lies_of s L (p + 1) (by omega) fun i hi => ?_⟩
    have := hb (i + 1) (by simp; omega)
    simpa [Nat.add_assoc, Nat.add_comm 1 i] using this
theorem lies_mid (a b : ByteArray) (L : List Nat) (hL : ∀ x ∈ L, x < 256) : Lies (a ++ ofT L ++ b) a.size L := by
  have hs : (a ++ ofT L).size = a.size + L.length := by rw [ByteArray.size_append, size_ofT]
  refine lies_of _ L _ (by rw [ByteArray.size_append, hs]; omega) fun i hi => ?_
  rw [bt_app, if_pos (by omega), bt_app, if_neg (by omega), Nat.add_sub_cancel_left, bt_ofT L hL i hi]

theorem iT_lt (x : Bool) (n : Nat) (hn : n < 256) : ∀ y ∈ iT x n, y < 256 := by
  intro y hy
  cases x
  · simp [iT] at hy
  · simp [iT] at hy; omega
theorem iT_len (x : Bool) (n : Nat) : (iT x n).length ≤ 1 := by cases x <;> simp [iT]
theorem mid_lt (s : BitVec 256) : ∀ y ∈ midT s, y < 256 := by
  intro y hy
  obtain ⟨r, hr, hy⟩ := List.mem_flatMap.1 hy
  obtain ⟨h1, h2⟩ := (rsOf_inv (s &&& ~~~fourS)).ok r hr
  simp only [runT, List.mem_append, List.mem_singleton] at hy
  rcases hy with (rfl | hy) | hy
  · omega
  · split at hy
    · simp at hy; omega
    · simp at hy
  · split at hy
    · simp at hy; omega
    · simp at hy
theorem out_lt (s : BitVec 256) : ∀ y ∈ outT s, y < 256 := by
  intro y hy
  rcases List.mem_append.1 hy with hy | hy
  · rcases List.mem_append.1 hy with hy | hy
    · exact iT_lt _ _ (by decide) y hy
    · exact mid_lt s y hy
  · exact iT_lt _ _ (by decide) y hy
theorem text_lt (s : BitVec 256) : ∀ y ∈ textT s, y < 256 := by
  unfold textT
  refine ite_ok (fun L : List Nat => ∀ y ∈ L, y < 256) (fun _ => by decide) (fun _ => ?_)
  refine ite_ok (fun L : List Nat => ∀ y ∈ L, y < 256) (fun _ => by decide) (fun _ => ?_)
  refine ite_ok (fun L : List Nat => ∀ y ∈ L, y < 256) (fun _ => ?_) (fun _ => ?_)
  · intro y hy
    rcases List.mem_cons.1 hy with rfl | hy
    · decide
    rcases List.mem_append.1 hy with hy | hy
    · exact iT_lt _ _ (by decide) y hy
    rcases List.mem_append.1 hy with hy | hy
    · exact iT_lt _ _ (by decide) y hy
    · simp at hy; omega
  · intro y hy
    rcases List.mem_cons.1 hy with rfl | hy
    · decide
    rcases List.mem_append.1 hy with hy | hy
    · exact out_lt s y hy
    rcases List.mem_append.1 hy with hy | hy
    · exact iT_lt _ _ (by decide) y hy
    rcases List.mem_append.1 hy with hy | hy
    · exact iT_lt _ _ (by decide) y hy
    · simp at hy; omega
theorem runs_txt_len (rs : List (Nat × Nat)) : (rs.flatMap runT).length ≤ 3 * rs.length := by
  induction rs with
  | nil => simp
  | cons r rs ih =>
    have : (runT r).length ≤ 3 := by
      unfold runT; split <;> split <;> simp
    rw [List.flatMap_cons, List.length_append, List.length_cons]; omega
theorem text_len (s : BitVec 256) : (textT s).length ≤ 800 := by
  have h1 := iT_len (s.getLsbD 93) 93
  have h2 := iT_len (s.getLsbD 91) 91
  have h3 := iT_len (s.getLsbD 94) 94
  have h4 := iT_len (s.getLsbD 45) 45
  have h5 := runs_txt_len (rsOf (s &&& ~~~fourS))
  have h6 := rsOf_len (s &&& ~~~fourS)
  unfold textT
  refine ite_ok (fun L : List Nat => L.length ≤ 800) (fun _ => by decide) (fun _ => ?_)
  refine ite_ok (fun L : List Nat => L.length ≤ 800) (fun _ => by decide) (fun _ => ?_)
  refine ite_ok (fun L : List Nat => L.length ≤ 800) (fun _ => ?_) (fun _ => ?_)
  · simp only [List.length_cons, List.length_append, List.length_nil]; omega
  · simp only [outT, midT, List.length_cons, List.length_append, List.length_nil]; omega
theorem text_nil (s : BitVec 256) : textT s = [] ↔ s = range 94 94 := by
  constructor
  · intro h
    unfold textT at h
    by_cases h0 : s = 0
    · rw [if_pos h0] at h; simp at h
    · rw [if_neg h0] at h
      by_cases h1 : s = range 94 94
      · exact h1
      · rw [if_neg h1] at h
        split at h <;> simp at h
  · intro h
    unfold textT
    rw [if_neg (by rw [h]; decide +kernel), if_pos h]

/-- The text of a set, with anything ahead and behind, is read as the set. -/
theorem readR_back (a b : ByteArray) (s : BitVec 256) (hs : s ≠ range 94 94) : readR (a ++ ofT (textT s) ++ b) a.size = (s, a.size + (textT s).length, 0, 0) :=
  readR_text _ _ s hs (lies_mid a b _ (text_lt s))

end Go.Proofs.YthodphgbdmnpoaaGreat

/- Words of a pattern, plainly: where a word ends; what a word's text is read as. -/
namespace Go.Proofs.YthodphgbdmnpoaaGreat
open Go.RowKit BS

theorem brkW_end (s : ByteArray) (a : Nat) (h : a < s.size) (hb : bt s a = 91) : EndW s a (brkW s a) := by
  unfold brkW
  rcases readR_end s a with ⟨_, h' | h' | h'⟩ | ⟨_, _, _, hE⟩
  · omega
  · rw [show (a : Int).toNat = a from rfl] at h'; omega
  · rw [show (a : Int).toNat = a from rfl] at h'; exact absurd hb h'
  rw [show (a : Int).toNat = a from rfl] at hE
  generalize readR s a = R at *
  obtain ⟨t, p, e, k⟩ := R
  simp only at hE ⊢
  rcases hE with ⟨rfl, rfl, g1, g2⟩ | ⟨g1, g2, _, _, g3, g4, g5⟩
  · exact .inl ⟨rfl, rfl, .inl ⟨rfl, rfl, rfl⟩, rfl, g1, g2⟩
  · rw [if_pos g1]
    exact .inr ⟨g1, g2, rfl, g3, g4, g5⟩
theorem nextA_end (s : ByteArray) (a : Nat) (h : a < s.size) : EndW s a (nextA s a) := by
  unfold nextA
  by_cases h1 : bt s a = 40
  · rw [if_pos h1]; exact .inl ⟨rfl, rfl, .inr (.inl ⟨.inl rfl, rfl, rfl, rfl⟩), rfl, by simp only; omega, by simp only; omega⟩
  rw [if_neg h1]
  by_cases h2 : bt s a = 41
  · rw [if_pos h2]; exact .inl ⟨rfl, rfl, .inr (.inl ⟨.inr (.inl rfl), rfl, rfl, rfl⟩), rfl, by simp only; omega, by simp only; omega⟩
  rw [if_neg h2]
  by_cases h3 : bt s a = 124
  · rw [if_pos h3]; exact .inl ⟨rfl, rfl, .inr (.inl ⟨.inr (.inr rfl), rfl, rfl, rfl⟩), rfl, by simp only; omega, by simp only; omega⟩
  rw [if_neg h3]
  by_cases h4 : bt s a = 42 ∨ bt s a = 43 ∨ bt s a = 63 ∨ bt s a = 123
  · rw [if_pos h4]; exact cntW_end s a h h4
  rw [if_neg h4]
  by_cases h5 : bt s a = 91
  · rw [if_pos h5]; exact brkW_end s a h h5
  rw [if_neg h5]
  have one : ∀ t e, a < e → e ≤ s.size → EndW s a (oneW t a e, 0, 0) := fun t e h1 h2 => .inl ⟨rfl, rfl, .inl ⟨rfl, rfl, rfl⟩, rfl, h1, h2⟩
  by_cases h6 : bt s a = 46
  · rw [if_pos h6]; exact one _ _ (by omega) (by omega)
  rw [if_neg h6]
  by_cases h7 : bt s a = 94 ∨ bt s a = 36
  · rw [if_pos h7]; exact .inr ⟨(fun h => by cases h), (fun h => by cases h), rfl, by simp only; omega, by simp only; omega, fun h => by cases h⟩
  rw [if_neg h7]
  by_cases h8 : bt s a = 92
  · rw [if_pos h8]
    unfold slashW
    by_cases h9 : s.size ≤ a + 1
    · rw [if_pos h9]; exact .inr ⟨(fun h => by cases h), (fun h => by cases h), rfl, h, Nat.le_refl _, fun _ => rfl⟩
    rw [if_neg h9]
    by_cases h10 : four14 (bt s (a + 1)) = false
    · rw [if_pos h10]; exact .inr ⟨(fun h => by cases h), (fun h => by cases h), rfl, by simp only; omega, by simp only; omega, fun h => by cases h⟩
    · rw [if_neg h10]; exact one _ _ (by omega) (by omega)
  · rw [if_neg h8]; exact one _ _ (by omega) (by omega)

/-! ### Counts, moved -/
def shN (d : Nat) (r : Nat × Int × Nat × Nat × Nat) : Nat × Int × Nat × Nat × Nat := if r.2.2.2.1 = 0 then (r.1, r.2.1, r.2.2.1 + d, 0, 0) else (0, 0, 0, r.2.2.2.1, r.2.2.2.2 + d)
theorem bt_off (p s : ByteArray) (i : Nat) : bt (p ++ s) (p.size + i) = bt s i := by rw [bt_app, if_neg (by omega), show p.size + i - p.size = i by omega]
theorem runN_shift (p s : ByteArray) : ∀ k i st, runN (p ++ s) k (p.size + i) st = shN p.size (runN s k i st)
  | 0, i, st => by
    show ((0, 0, 0, 2, (p ++ s).size) : Nat × Int × Nat × Nat × Nat) = (0, 0, 0, 2, s.size + p.size)
    rw [ByteArray.size_append, Nat.add_comm]
  | k + 1, i, st => by
    rw [runN, runN, bt_off]
    cases hs : stepN st (bt s i) with
    | bad e =>
      have he := stepN_bad _ _ _ hs
      simp only [shN]
      rw [if_neg (by omega), show p.size + i + 1 = i + 1 + p.size by omega]
    | fin n m => simp only [shN, if_true]; rw [show p.size + i + 1 = i + 1 + p.size by omega]
    | on st' => simp only; exact runN_shift p s k (i + 1) st'
theorem readN_shift (p s : ByteArray) (a : Nat) (h : a < s.size) (hne : (readN s a).2.2.2.1 ≠ 1) : readN (p ++ s) ((p.size + a : Nat) : Int) = shN p.size (readN s a) := by
  have hz : (p ++ s).size = p.size + s.size := ByteArray.size_append
  unfold readN at hne ⊢
  rw [if_neg (by omega), show (a : Int).toNat = a from rfl] at hne
  rw [if_neg (by omega), if_neg (by omega), show ((p.size + a : Nat) : Int).toNat = p.size + a from rfl, show (a : Int).toNat = a from rfl]
  unfold signN at hne ⊢
  rw [bt_off]
  by_cases h1 : bt s a = 42
  · rw [if_pos h1, if_pos h1]; simp only [shN, if_true]; rw [show p.size + a + 1 = a + 1 + p.size by omega]
  rw [if_neg h1, if_neg h1]
  by_cases h2 : bt s a = 43
  · rw [if_pos h2, if_pos h2]; simp only [shN, if_true]; rw [show p.size + a + 1 = a + 1 + p.size by omega]
  rw [if_neg h2, if_neg h2]
  by_cases h3 : bt s a = 63
  · rw [if_pos h3, if_pos h3]; simp only [shN, if_true]; rw [show p.size + a + 1 = a + 1 + p.size by omega]
  rw [if_neg h3, if_neg h3]
  by_cases h4 : bt s a = 123
  · rw [if_pos h4, if_pos h4]
    unfold bracesN
    rw [hz, show p.size + s.size - (p.size + a + 1) = s.size - (a + 1) by omega, show p.size + a + 1 = p.size + (a + 1) by omega]
    exact runN_shift p s _ _ _
  · rw [if_neg h1, if_neg h2, if_neg h3, if_neg h4] at hne; exact absurd rfl hne
theorem agrApp (s l : ByteArray) (n : Nat) (h : n ≤ s.size) : Agr n s (s ++ l) := ⟨h, by rw [ByteArray.size_append]; omega, fun i hi => by rw [bt_app, if_pos (by omega)]⟩
/-- The text of counts is read as they are, whatever stands ahead of it, and behind. -/
theorem readN_back (p q : ByteArray) (n : Nat) (m : Int) (h : rightN n m = true) :
    textN n m ≠ [] ∧ readN (p ++ ofT (textN n m) ++ q) p.size = (n, m, p.size + (textN n m).length, 0, 0) := by
  obtain ⟨h1, N, hN, h2⟩ := back_read n m h
  obtain rfl : n = N := by omega
  refine ⟨h1, ?_⟩
  have hl : 0 < (textN n m).length := List.length_pos_iff.2 h1
  have e1 : readN (ofT (textN n m) ++ q) 0 = (n, m, (textN n m).length, 0, 0) := by
    rw [← h2]
    refine readN_agr _ _ 0 (by rw [h2]; exact fun h => by cases h) (by rw [h2]; exact fun h => by cases h) ?_
    rw [h2]
    exact agrApp _ _ _ (by rw [size_ofT]; exact Nat.le_refl _)
  rw [ByteArray.append_assoc]
  have hlt : 0 < (ofT (textN n m) ++ q).size := by rw [ByteArray.size_append, size_ofT]; omega
  have e2 := readN_shift p (ofT (textN n m) ++ q) 0 hlt (by rw [show ((0 : Nat) : Int) = 0 from rfl, e1]; exact fun h => by cases h)
  rw [show ((0 : Nat) : Int) = 0 from rfl, e1] at e2
  rw [show p.size + 0 = p.size from rfl] at e2
  rw [e2]
  simp only [shN, if_true]
  rw [Nat.add_comm]
theorem allN_more (s : ByteArray) (k a : Nat) (acc : List WN) (w : WN) (h : a < s.size) (hn : nextA s a = (w, 0, 0)) : allN s (k + 1) a acc = allN s k w.fin (acc ++ [w]) := by
  rw [allN, if_neg (by omega), hn]; rfl
theorem allN_stop (s : ByteArray) (k a : Nat) (acc : List WN) (w : WN) (e p : Nat) (h : a < s.size) (hn : nextA s a = (w, e, p)) (he : e ≠ 0) : allN s (k + 1) a acc = ([], e, p) := by
  rw [allN, if_neg (by omega), hn]; exact if_pos he
theorem allN_end (s : ByteArray) (k : Nat) (acc : List WN) : allN s (k + 1) s.size acc = (acc, 0, 0) := by
  rw [allN, if_pos (Nat.le_refl _)]
end Go.Proofs.YthodphgbdmnpoaaGreat

/- How the document parses, plainly; what it has read is right so far. Stage 7. -/
namespace Go.Proofs.YthodphgbdmnpoaaGreat
open Go.RowKit BS

/-- What was read so far: the nodes; of each group that is open, from the inside on, how many pieces its row has, and how many rows it has ahead; how many groups began. -/
structure PS where
  l : List NdN
  st : List (Nat × Nat)
  groups : Nat
def nd1 : NdN := ⟨1, 0, 0, 0, 0⟩
def nd5 (n : Nat) : NdN := ⟨5, n, 0, 0, 0⟩
def nd6 (n : Nat) : NdN := ⟨6, n, 0, 0, 0⟩
def rowT (n : Nat) : List NdN := if n = 0 then [nd1] else if n = 1 then [] else [nd5 n]
def rowsT (r : Nat) : List NdN := if 1 < r then [nd6 r] else []
def rowP (x : PS) : PS := match x.st with
  | (n, r) :: st => ⟨x.l ++ rowT n, (0, r + 1) :: st, x.groups⟩
  | [] => x
def rowsP (x : PS) : PS := match x.st with
  | (n, r) :: st => ⟨x.l ++ rowT n ++ rowsT (r + 1), st, x.groups⟩
  | [] => x
def bumpP : List (Nat × Nat) → List (Nat × Nat)
  | (n, r) :: st => (n + 1, r) :: st
  | [] => []
/-- What the first byte of a word alone tells. -/
def firstP (x : PS) (b : Nat) : Nat := match x.st with
  | (n, _) :: st =>
    if b = 42 ∨ b = 43 ∨ b = 63 ∨ b = 123 then (if n = 0 then 7 else 0)
    else if b = 41 then (if st = [] then 8 else 0)
    else if b = 40 then (if x.groups = 9 then 9 else 0) else 0
  | [] => 0
def takeP (x : PS) (w : WN) : PS :=
  if w.kind = 1 then ⟨x.l ++ [⟨2, 0, 0, 0, w.set⟩], bumpP x.st, x.groups⟩
  else if w.kind = 2 then ⟨x.l, (0, 0) :: x.st, x.groups + 1⟩
  else if w.kind = 3 then ⟨(rowsP x).l ++ [ndG], bumpP (rowsP x).st, x.groups⟩
  else if w.kind = 4 then rowP x
  else if w.kind = 5 then ⟨x.l ++ [⟨4, 1, w.n, w.m, 0⟩], x.st, x.groups⟩
  else x
def zPS : PS := ⟨[], [], 0⟩
def readP (s : ByteArray) : Nat → Nat → PS → PS × Nat × Nat × Nat
  | 0, _, _ => (zPS, 0, 0, 0)
  | k + 1, a, x =>
    if s.size ≤ a then (if 1 < x.st.length then (zPS, x.st.length - 1, 2, s.size) else (rowsP x, 0, 0, 0))
    else if firstP x (bt s a) ≠ 0 then (zPS, 0, firstP x (bt s a), a + 1)
    else match nextA s a with
      | (w, e, p) => if e ≠ 0 then (zPS, 0, e, p) else readP s k w.fin (takeP x w)
def sPS : PS := ⟨[], [(0, 0)], 0⟩
def parseN (s : ByteArray) : PS × Nat × Nat × Nat := readP s (s.size + 1) 0 sPS

/-! ### What is read is right so far -/
/-- The kinds of what stands side by side: each open group's rows, and its row's pieces. -/
def Lv : List (Nat × Nat) → List Int → Prop
  | [], ks => ks = []
  | (n, r) :: st, ks => ∃ p q rest, ks = p ++ (q ++ rest) ∧ p.length = n ∧ q.length = r ∧ (∀ k ∈ p, pieceF k = true) ∧ (∀ k ∈ q, (k != 6) = true) ∧ Lv st rest
theorem piece_not6 (k : Int) (h : pieceF k = true) : (k != 6) = true := by
  unfold pieceF at h
  simp at h
  rw [bne_iff_ne]
  omega
theorem row_inv (l : List NdN) (ks : List Int) (n r : Nat) (st : List (Nat × Nat)) (h : kstF [] l = some ks) (hL : Lv ((n, r) :: st) ks) : ∃ ks', kstF [] (l ++ rowT n) = some ks' ∧ Lv ((0, r + 1) :: st) ks' := by
  obtain ⟨p, q, rest, rfl, hp, hq, h1, h2, h3⟩ := hL
  unfold rowT
  by_cases h0 : n = 0
  · subst h0
    obtain rfl : p = [] := List.eq_nil_of_length_eq_zero hp
    rw [if_pos rfl, kstF_snoc l nd1 [] _ h]
    refine ⟨1 :: (q ++ rest), ?_, [], 1 :: q, rest, rfl, rfl, by rw [List.length_cons, hq], fun k hk => by simp at hk, fun k hk => ?_, h3⟩
    · unfold stepK
      rw [if_pos ⟨by decide, by decide, Nat.zero_le _, rfl⟩]
      rfl
    · rcases List.mem_cons.1 hk with rfl | hk
      · decide
      · exact h2 k hk
  rw [if_neg h0]
  by_cases hn1 : n = 1
  · subst hn1
    rw [if_pos rfl, List.append_nil]
    refine ⟨_, h, [], p ++ q, rest, by rw [List.nil_append, List.append_assoc], rfl, by rw [List.length_append, hp, hq]; omega, fun k hk => by simp at hk, fun k hk => ?_, h3⟩
    rcases List.mem_append.1 hk with hk | hk
    · exact piece_not6 k (h1 k hk)
    · exact h2 k hk
  rw [if_neg hn1, kstF_snoc l (nd5 n) [] _ h]
  refine ⟨5 :: (q ++ rest), ?_, [], 5 :: q, rest, rfl, rfl, by rw [List.length_cons, hq], fun k hk => by simp at hk, fun k hk => ?_, h3⟩
  · unfold stepK
    have hk : (nd5 n).kids.toNat = n := rfl
    have ht : (p ++ (q ++ rest)).take n = p := by rw [List.take_left' hp]
    have hd : (p ++ (q ++ rest)).drop n = q ++ rest := by rw [List.drop_left' hp]
    have hA : nodeF (nd5 n) = true := by
      unfold nodeF nd5
      simp <;> omega
    have hB : (0 : Int) ≤ (nd5 n).kids := by
      show (0 : Int) ≤ (n : Int)
      omega
    have hC : n ≤ (p ++ (q ++ rest)).length := by rw [List.length_append]; omega
    have hD : (p.all fun k => kidF (nd5 n).kind k) = true := by
      rw [List.all_eq_true]
      intro k hk
      show kidF 5 k = true
      unfold kidF
      rw [if_neg (by decide), if_pos (.inr rfl)]
      exact h1 k hk
    rw [hk, ht, hd, if_pos ⟨hA, hB, hC, hD⟩]
    rfl
  · rcases List.mem_cons.1 hk with rfl | hk
    · decide
    · exact h2 k hk
theorem rows_inv (l : List NdN) (ks : List Int) (n r : Nat) (st : List (Nat × Nat)) (h : kstF [] l = some ks) (hL : Lv ((n, r) :: st) ks) : ∃ k rest, kstF [] (l ++ rowT n ++ rowsT (r + 1)) = some (k :: rest) ∧ Lv st rest := by
  obtain ⟨ks', h1, p, q, rest, rfl, hp, hq, _, g2, g3⟩ := row_inv l ks n r st h hL
  obtain rfl : p = [] := List.eq_nil_of_length_eq_zero hp
  rw [List.nil_append] at h1
  unfold rowsT
  by_cases hr : 1 < r + 1
  · rw [if_pos hr, kstF_snoc _ (nd6 (r + 1)) [] _ h1]
    refine ⟨6, rest, ?_, g3⟩
    unfold stepK
    have hk : (nd6 (r + 1)).kids.toNat = r + 1 := rfl
    have ht : (q ++ rest).take (r + 1) = q := by rw [List.take_left' hq]
    have hd : (q ++ rest).drop (r + 1) = rest := by rw [List.drop_left' hq]
    have hA : nodeF (nd6 (r + 1)) = true := by
      unfold nodeF nd6
      simp <;> omega
    have hB : (0 : Int) ≤ (nd6 (r + 1)).kids := by
      show (0 : Int) ≤ ((r + 1 : Nat) : Int)
      omega
    have hC : r + 1 ≤ (q ++ rest).length := by rw [List.length_append]; omega
    have hD : (q.all fun k => kidF (nd6 (r + 1)).kind k) = true := by
      rw [List.all_eq_true]
      intro k hk
      show kidF 6 k = true
      unfold kidF
      rw [if_neg (by decide), if_neg (by decide), if_pos rfl]
      exact g2 k hk
    rw [hk, ht, hd, if_pos ⟨hA, hB, hC, hD⟩]
    rfl
  · rw [if_neg hr, List.append_nil, h1]
    obtain ⟨k, rfl⟩ := List.length_eq_one_iff.1 (show q.length = 1 by omega)
    exact ⟨k, rest, rfl, g3⟩
theorem lv_bump (k : Int) (hk : pieceF k = true) (st : List (Nat × Nat)) (hne : st ≠ []) (ks : List Int) (h : Lv st ks) : Lv (bumpP st) (k :: ks) := by
  obtain _ | ⟨⟨n, r⟩, st⟩ := st
  · exact absurd rfl hne
  · obtain ⟨p, q, rest, rfl, hp, hq, h1, h2, h3⟩ := h
    refine ⟨k :: p, q, rest, rfl, by rw [List.length_cons, hp], hq, fun y hy => ?_, h2, h3⟩
    rcases List.mem_cons.1 hy with rfl | hy
    · exact hk
    · exact h1 y hy
def g3 (l : List NdN) : Nat := (l.map NdN.kind).countP (· == 3)
theorem g3_app (l m : List NdN) : g3 (l ++ m) = g3 l + g3 m := by unfold g3; rw [List.map_append, List.countP_append]
theorem g3_row (n : Nat) : g3 (rowT n) = 0 := by
  unfold rowT
  by_cases h : n = 0
  · rw [if_pos h]; rfl
  · rw [if_neg h]
    by_cases h1 : n = 1
    · rw [if_pos h1]; rfl
    · rw [if_neg h1]; rfl
theorem g3_rows (n : Nat) : g3 (rowsT n) = 0 := by unfold rowsT; split <;> rfl
/-- All that was read is right, and the groups that began are those that ended and those that are open. -/
def PInv (x : PS) : Prop := x.st ≠ [] ∧ (∃ ks, kstF [] x.l = some ks ∧ Lv x.st ks) ∧ g3 x.l + x.st.length = x.groups + 1 ∧ x.groups ≤ 9
theorem sPS_inv : PInv sPS := ⟨by decide, ⟨[], rfl, [], [], [], rfl, rfl, rfl, fun k hk => by simp at hk, fun k hk => by simp at hk, rfl⟩, rfl, by decide⟩
theorem take_inv (s : ByteArray) (a : Nat) (x : PS) (w : WN) (h : PInv x) (hf : firstP x (bt s a) = 0) (hok : OkW w)
    (hk2 : w.kind = 2 → bt s a = 40) (hk3 : w.kind = 3 → bt s a = 41) (hk5 : w.kind = 5 → bt s a = 42 ∨ bt s a = 43 ∨ bt s a = 63 ∨ bt s a = 123) : PInv (takeP x w) := by
  obtain ⟨hne, ⟨ks, h1, h2⟩, h3, h4⟩ := h
  obtain ⟨l, st, gr⟩ := x
  obtain _ | ⟨⟨n, r⟩, st⟩ := st
  · exact absurd rfl hne
  unfold takeP
  by_cases c1 : w.kind = 1
  · rw [if_pos c1]
    refine ⟨by simp [bumpP], ⟨2 :: ks, ?_, lv_bump 2 (by decide) _ hne ks h2⟩, ?_, h4⟩
    · rw [kstF_snoc l _ [] _ h1]
      unfold stepK
      rw [if_pos ⟨by unfold nodeF; simp, by show (0 : Int) ≤ 0; decide, Nat.zero_le _, rfl⟩]
      rfl
    · rw [g3_app]
      simp only [bumpP, List.length_cons] at h3 ⊢
      have : g3 [⟨2, 0, 0, 0, w.set⟩] = 0 := rfl
      omega
  rw [if_neg c1]
  by_cases c2 : w.kind = 2
  · rw [if_pos c2]
    have hb := hk2 c2
    have hg : gr ≠ 9 := fun h9 => by
      unfold firstP at hf
      simp only at hf
      rw [if_neg (by omega), if_neg (by omega), if_pos hb, if_pos h9] at hf
      cases hf
    simp only at h4
    refine ⟨by simp, ⟨ks, h1, [], [], ks, rfl, rfl, rfl, fun k hk => by simp at hk, fun k hk => by simp at hk, h2⟩, ?_, by simp only; omega⟩
    simp only [List.length_cons] at h3 ⊢
    omega
  rw [if_neg c2]
  by_cases c3 : w.kind = 3
  · rw [if_pos c3]
    have hb := hk3 c3
    have hst : st ≠ [] := fun hs => by
      unfold firstP at hf
      simp only at hf
      rw [if_neg (by omega), if_pos hb, if_pos hs] at hf
      cases hf
    obtain ⟨k, rest, g1, g2⟩ := rows_inv l ks n r st h1 h2
    refine ⟨?_, ⟨3 :: rest, ?_, lv_bump 3 (by decide) st hst rest g2⟩, ?_, h4⟩
    · show bumpP st ≠ []
      obtain _ | ⟨⟨n', r'⟩, st'⟩ := st
      · exact absurd rfl hst
      · simp [bumpP]
    · show kstF [] (l ++ rowT n ++ rowsT (r + 1) ++ [ndG]) = _
      rw [kstF_snoc _ ndG [] _ g1]
      unfold stepK
      rw [if_pos ⟨by decide, by decide, by simp [ndG], rfl⟩]
      rfl
    · show g3 (l ++ rowT n ++ rowsT (r + 1) ++ [ndG]) + (bumpP st).length = gr + 1
      rw [g3_app, g3_app, g3_app, g3_row, g3_rows]
      have : g3 [ndG] = 1 := rfl
      have hbl : (bumpP st).length = st.length := by
        obtain _ | ⟨⟨n', r'⟩, st'⟩ := st
        · rfl
        · rfl
      simp only [List.length_cons] at h3
      omega
  rw [if_neg c3]
  by_cases c4 : w.kind = 4
  · rw [if_pos c4]
    obtain ⟨ks', g1, g2⟩ := row_inv l ks n r st h1 h2
    refine ⟨by simp [rowP], ⟨ks', g1, g2⟩, ?_, h4⟩
    show g3 (l ++ rowT n) + ((0, r + 1) :: st).length = gr + 1
    rw [g3_app, g3_row]
    simp only [List.length_cons] at h3 ⊢
    omega
  rw [if_neg c4]
  by_cases c5 : w.kind = 5
  · rw [if_pos c5]
    have hb := hk5 c5
    have hn : n ≠ 0 := fun h0 => by
      unfold firstP at hf
      simp only at hf
      rw [if_pos hb, if_pos h0] at hf
      cases hf
    obtain ⟨p, q, rest, rfl, hp, hq, g1, g2, g3'⟩ := h2
    obtain _ | ⟨k, p⟩ := p
    · simp at hp; omega
    have hr : rightN w.n w.m = true := by
      rcases hok with h | h | h
      · omega
      · omega
      · exact h.2.2
    refine ⟨by simp, ⟨4 :: (p ++ (q ++ rest)), ?_, 4 :: p, q, rest, rfl, hp, hq, fun y hy => ?_, g2, g3'⟩, ?_, h4⟩
    · rw [kstF_snoc l _ [] _ h1]
      unfold stepK
      have hA : nodeF ⟨4, 1, w.n, w.m, 0⟩ = true := by
        unfold nodeF
        simp [hr]
      have hD : (([k] : List Int).all fun y => kidF 4 y) = true := by
        have := g1 k (List.mem_cons_self ..)
        simp only [List.all_cons, List.all_nil, Bool.and_true]
        unfold kidF
        rw [if_neg (by decide), if_pos (.inl rfl)]
        exact this
      rw [if_pos ⟨hA, by show (0 : Int) ≤ 1; decide, by simp, hD⟩]
      rfl
    · rcases List.mem_cons.1 hy with rfl | hy
      · decide
      · exact g1 y (List.mem_cons_of_mem _ hy)
    · rw [g3_app]
      have : g3 [⟨4, 1, w.n, w.m, 0⟩] = 0 := rfl
      simp only at h3 ⊢
      omega
  · rw [if_neg c5]
    exact ⟨hne, ⟨ks, h1, h2⟩, h3, h4⟩
end Go.Proofs.YthodphgbdmnpoaaGreat

/- What the document parses is a pattern's tree, with a node for each word. Stage 7. -/
namespace Go.Proofs.YthodphgbdmnpoaaGreat
open Go.RowKit BS

/-- A word's kind by its first byte. -/
theorem next_kinds (s : ByteArray) (a : Nat) (w : WN) (h : nextA s a = (w, 0, 0)) : (w.kind = 2 → bt s a = 40) ∧ (w.kind = 3 → bt s a = 41) ∧ (w.kind = 5 → bt s a = 42 ∨ bt s a = 43 ∨ bt s a = 63 ∨ bt s a = 123) := by
  have one : ∀ (t : BitVec 256) (p q : Nat), (oneW t p q, 0, 0) = (w, (0 : Nat), (0 : Nat)) → w.kind = 1 := fun t p q h => by
    have := (Prod.mk.inj h).1; rw [← this]; rfl
  unfold nextA at h
  by_cases h1 : bt s a = 40
  · rw [if_pos h1] at h
    have := (Prod.mk.inj h).1
    subst this
    exact ⟨fun _ => h1, (fun h => by cases h), (fun h => by cases h)⟩
  rw [if_neg h1] at h
  by_cases h2 : bt s a = 41
  · rw [if_pos h2] at h
    have := (Prod.mk.inj h).1
    subst this
    exact ⟨(fun h => by cases h), fun _ => h2, (fun h => by cases h)⟩
  rw [if_neg h2] at h
  by_cases h3 : bt s a = 124
  · rw [if_pos h3] at h
    have := (Prod.mk.inj h).1
    subst this
    exact ⟨(fun h => by cases h), (fun h => by cases h), (fun h => by cases h)⟩
  rw [if_neg h3] at h
  by_cases h4 : bt s a = 42 ∨ bt s a = 43 ∨ bt s a = 63 ∨ bt s a = 123
  · rw [if_pos h4] at h
    unfold cntW at h
    generalize readN s a = R at h
    obtain ⟨n, m, p, e, k⟩ := R
    simp only at h
    by_cases he : e ≠ 0
    · rw [if_pos he] at h
      exact absurd (Prod.mk.inj (Prod.mk.inj h).2).1 he
    · rw [if_neg he] at h
      have := (Prod.mk.inj h).1
      subst this
      exact ⟨(fun h => by cases h), (fun h => by cases h), fun _ => h4⟩
  rw [if_neg h4] at h
  have key : w.kind = 1 := by
    by_cases h5 : bt s a = 91
    · rw [if_pos h5] at h
      unfold brkW at h
      generalize readR s a = R at h
      obtain ⟨t, p, e, k⟩ := R
      simp only at h
      by_cases he : e ≠ 0
      · rw [if_pos he] at h
        exact absurd (Prod.mk.inj (Prod.mk.inj h).2).1 he
      · rw [if_neg he] at h
        exact one _ _ _ h
    rw [if_neg h5] at h
    by_cases h6 : bt s a = 46
    · rw [if_pos h6] at h
      exact one _ _ _ h
    rw [if_neg h6] at h
    by_cases h7 : bt s a = 94 ∨ bt s a = 36
    · rw [if_pos h7] at h
      cases (Prod.mk.inj (Prod.mk.inj h).2).1
    rw [if_neg h7] at h
    by_cases h8 : bt s a = 92
    · rw [if_pos h8] at h
      unfold slashW at h
      by_cases h9 : s.size ≤ a + 1
      · rw [if_pos h9] at h
        cases (Prod.mk.inj (Prod.mk.inj h).2).1
      rw [if_neg h9] at h
      by_cases h10 : four14 (bt s (a + 1)) = false
      · rw [if_pos h10] at h
        cases (Prod.mk.inj (Prod.mk.inj h).2).1
      · rw [if_neg h10] at h
        exact one _ _ _ h
    · rw [if_neg h8] at h
      exact one _ _ _ h
  exact ⟨fun h => by omega, fun h => by omega, fun h => by omega⟩

/-! ### A node for each word -/
def kc (k : Int) (l : List NdN) : Nat := (l.map NdN.kind).countP (· == k)
theorem kc_app (k : Int) (l m : List NdN) : kc k (l ++ m) = kc k l + kc k m := by unfold kc; rw [List.map_append, List.countP_append]
def altN (l : List NdN) : Nat := (l.map fun x => if x.kind = 6 then x.kids.toNat - 1 else 0).sum
theorem altN_app (l m : List NdN) : altN (l ++ m) = altN l + altN m := by unfold altN; rw [List.map_append, List.sum_append]
def wc (k : Nat) (ws : List WN) : Nat := ws.countP fun w => w.kind == k
theorem wc_snoc (k : Nat) (ws : List WN) (w : WN) : wc k (ws ++ [w]) = wc k ws + if w.kind = k then 1 else 0 := by
  unfold wc
  rw [List.countP_append]
  simp [List.countP_cons]
def rowsN (st : List (Nat × Nat)) : Nat := (st.map (·.2)).sum
theorem rowsN_bump (st : List (Nat × Nat)) : rowsN (bumpP st) = rowsN st := by
  obtain _ | ⟨⟨n, r⟩, st⟩ := st <;> rfl
theorem kc_row (k : Int) (hk : k = 2 ∨ k = 3 ∨ k = 4) (n : Nat) : kc k (rowT n) = 0 := by
  unfold rowT
  by_cases h : n = 0
  · rw [if_pos h]; rcases hk with rfl | rfl | rfl <;> rfl
  · rw [if_neg h]
    by_cases h1 : n = 1
    · rw [if_pos h1]; rfl
    · rw [if_neg h1]; rcases hk with rfl | rfl | rfl <;> rfl
theorem kc_rows (k : Int) (hk : k = 2 ∨ k = 3 ∨ k = 4) (n : Nat) : kc k (rowsT n) = 0 := by
  unfold rowsT
  by_cases h : 1 < n
  · rw [if_pos h]; rcases hk with rfl | rfl | rfl <;> rfl
  · rw [if_neg h]; rfl
theorem altN_row (n : Nat) : altN (rowT n) = 0 := by
  unfold rowT
  by_cases h : n = 0
  · rw [if_pos h]; rfl
  · rw [if_neg h]
    by_cases h1 : n = 1
    · rw [if_pos h1]; rfl
    · rw [if_neg h1]; rfl
theorem altN_rows (r : Nat) : altN (rowsT (r + 1)) = r := by
  unfold rowsT
  by_cases h : 1 < r + 1
  · rw [if_pos h]
    show (r + 1 : Nat) - 1 + 0 = r
    omega
  · rw [if_neg h]
    show 0 = r
    omega
/-- The nodes so far are those of the words so far. -/
def CInv (x : PS) (ws : List WN) : Prop := kc 2 x.l = wc 1 ws ∧ kc 4 x.l = wc 5 ws ∧ x.groups = wc 2 ws ∧ kc 3 x.l = wc 3 ws ∧ altN x.l + rowsN x.st = wc 4 ws
theorem take_cnt (x : PS) (w : WN) (ws : List WN) (hne : x.st ≠ []) (h : CInv x ws) (hw : w.kind = 1 ∨ w.kind = 2 ∨ w.kind = 3 ∨ w.kind = 4 ∨ w.kind = 5) : CInv (takeP x w) (ws ++ [w]) := by
  obtain ⟨h1, h2, h3, h4, h5⟩ := h
  obtain ⟨l, st, gr⟩ := x
  obtain _ | ⟨⟨n, r⟩, st⟩ := st
  · exact absurd rfl hne
  simp only at h1 h2 h3 h4 h5
  have a2 := kc_row 2 (.inl rfl) n
  have a3 := kc_row 3 (.inr (.inl rfl)) n
  have a4 := kc_row 4 (.inr (.inr rfl)) n
  have b2 := kc_rows 2 (.inl rfl) (r + 1)
  have b3 := kc_rows 3 (.inr (.inl rfl)) (r + 1)
  have b4 := kc_rows 4 (.inr (.inr rfl)) (r + 1)
  have a5 := altN_row n
  have b5 := altN_rows r
  unfold CInv takeP
  simp only [wc_snoc]
  rcases hw with c | c | c | c | c
  · rw [if_pos c]
    simp only [kc_app, altN_app, rowsN_bump, c]
    refine ⟨?_, ?_, ?_, ?_, ?_⟩
    · rw [h1]; rfl
    · rw [h2]; rfl
    · rw [h3]; rfl
    · rw [h4]; rfl
    · rw [← h5]
      show altN l + 0 + _ = _ + 0
      omega
  · rw [if_neg (by omega), if_pos c]
    simp only [c]
    refine ⟨h1, h2, by rw [h3]; rfl, h4, ?_⟩
    rw [← h5]
    show altN l + (0 + rowsN ((n, r) :: st)) = _ + 0
    omega
  · rw [if_neg (by omega), if_neg (by omega), if_pos c]
    simp only [rowsP, kc_app, altN_app, rowsN_bump, c, a2, a3, a4, b2, b3, b4, a5, b5]
    have e2 : kc 2 [ndG] = 0 := rfl
    have e3 : kc 3 [ndG] = 1 := rfl
    have e4 : kc 4 [ndG] = 0 := rfl
    have e5 : altN [ndG] = 0 := rfl
    have e6 : rowsN ((n, r) :: st) = r + rowsN st := rfl
    rw [e2, e3, e4, e5]
    rw [e6] at h5
    refine ⟨by rw [h1]; rfl, by rw [h2]; rfl, by rw [h3]; rfl, by rw [h4]; rfl, ?_⟩
    rw [← h5]
    show _ = _ + 0
    omega
  · rw [if_neg (by omega), if_neg (by omega), if_neg (by omega), if_pos c]
    simp only [rowP, kc_app, altN_app, c, a2, a3, a4, a5]
    have e6 : rowsN ((n, r) :: st) = r + rowsN st := rfl
    have e7 : rowsN ((0, r + 1) :: st) = r + 1 + rowsN st := rfl
    rw [e6] at h5
    rw [e7]
    refine ⟨by rw [h1]; rfl, by rw [h2]; rfl, by rw [h3]; rfl, by rw [h4]; rfl, ?_⟩
    rw [← h5]
    show _ = _ + 1
    omega
  · rw [if_neg (by omega), if_neg (by omega), if_neg (by omega), if_neg (by omega), if_pos c]
    simp only [kc_app, altN_app, c]
    refine ⟨?_, ?_, ?_, ?_, ?_⟩
    · rw [h1]; rfl
    · rw [h2]; rfl
    · rw [h3]; rfl
    · rw [h4]; rfl
    · rw [← h5]
      show altN l + 0 + _ = _ + 0
      omega
theorem okW_kind (w : WN) (h : OkW w) : w.kind = 1 ∨ w.kind = 2 ∨ w.kind = 3 ∨ w.kind = 4 ∨ w.kind = 5 := by
  rcases h with h | h | h <;> omega
theorem take_st (x : PS) (w : WN) (hi : PInv (takeP x w)) : (takeP x w).st ≠ [] := hi.1
/-- **What is parsed is a pattern's tree, with a node for each word; beside an error there is none.** -/
theorem readP_spec (s : ByteArray) : ∀ k a x ws, a ≤ s.size → s.size < k + a → PInv x → CInv x ws →
    ((readP s k a x).2.2.1 ≠ 0 ∧ (readP s k a x).1 = zPS ∧ (readP s k a x).2.2.2 ≤ s.size) ∨
    ((readP s k a x).2 = (0, 0, 0) ∧ rightR (readP s k a x).1.l = true ∧ ∃ wl, allN s k a ws = (wl, 0, 0) ∧ kc 2 (readP s k a x).1.l = wc 1 wl ∧ kc 4 (readP s k a x).1.l = wc 5 wl ∧ kc 3 (readP s k a x).1.l = wc 2 wl ∧ wc 2 wl = wc 3 wl ∧ altN (readP s k a x).1.l = wc 4 wl)
  | 0, a, x, ws, ha, hk, _, _ => by omega
  | k + 1, a, x, ws, ha, hk, hi, hc => by
    rw [readP]
    by_cases hend : s.size ≤ a
    · rw [if_pos hend]
      obtain rfl : a = s.size := by omega
      by_cases hop : 1 < x.st.length
      · rw [if_pos hop]
        exact .inl ⟨(by decide : (2 : Nat) ≠ 0), rfl, Nat.le_refl _⟩
      · rw [if_neg hop]
        obtain ⟨hne, ⟨ks, h1, h2⟩, h3, h4⟩ := hi
        obtain ⟨l, st, gr⟩ := x
        obtain _ | ⟨⟨n, r⟩, st⟩ := st
        · exact absurd rfl hne
        obtain rfl : st = [] := by
          cases st with
          | nil => rfl
          | cons _ _ => simp at hop
        obtain ⟨c, rest, g1, g2⟩ := rows_inv l ks n r [] h1 h2
        obtain rfl : rest = [] := g2
        obtain ⟨c1, c2, c3, c4, c5⟩ := hc
        simp only at c1 c2 c3 c4 c5 h3 h4
        have a2 := kc_row 2 (.inl rfl) n
        have a3 := kc_row 3 (.inr (.inl rfl)) n
        have a4 := kc_row 4 (.inr (.inr rfl)) n
        have b2 := kc_rows 2 (.inl rfl) (r + 1)
        have b3 := kc_rows 3 (.inr (.inl rfl)) (r + 1)
        have b4 := kc_rows 4 (.inr (.inr rfl)) (r + 1)
        have a5 := altN_row n
        have b5 := altN_rows r
        have e6 : rowsN [(n, r)] = r + 0 := rfl
        have hg : g3 l = kc 3 l := rfl
        rw [e6] at c5
        simp only [List.length_cons, List.length_nil] at h3
        refine .inr ⟨rfl, ?_, ws, allN_end s k ws, ?_, ?_, ?_, ?_, ?_⟩
        · refine kst_right _ c g1 ?_
          show kc 3 (l ++ rowT n ++ rowsT (r + 1)) ≤ 9
          rw [kc_app, kc_app, a3, b3]
          omega
        · show kc 2 (l ++ rowT n ++ rowsT (r + 1)) = _
          rw [kc_app, kc_app, a2, b2]
          omega
        · show kc 4 (l ++ rowT n ++ rowsT (r + 1)) = _
          rw [kc_app, kc_app, a4, b4]
          omega
        · show kc 3 (l ++ rowT n ++ rowsT (r + 1)) = _
          rw [kc_app, kc_app, a3, b3]
          omega
        · omega
        · show altN (l ++ rowT n ++ rowsT (r + 1)) = _
          rw [altN_app, altN_app, a5, b5]
          omega
    · rw [if_neg hend]
      have hlt : a < s.size := by omega
      by_cases hf : firstP x (bt s a) ≠ 0
      · rw [if_pos hf]
        exact .inl ⟨hf, rfl, by show a + 1 ≤ _; omega⟩
      · rw [if_neg hf]
        have hf0 : firstP x (bt s a) = 0 := Decidable.not_not.1 hf
        have hE := nextA_end s a hlt
        have hkd := next_kinds s a
        have hmore := allN_more s k a ws
        generalize nextA s a = X at *
        obtain ⟨w, e, p⟩ := X
        simp only
        rcases hE with ⟨e1, e2, e3, e4, e5, e6⟩ | ⟨e1, _, _, _, e5, _⟩
        · simp only at e1 e2 e3 e4 e5 e6
          subst e1 e2
          rw [if_neg (by decide), hmore w hlt rfl]
          obtain ⟨k2, k3, k5⟩ := hkd w rfl
          have hi2 := take_inv s a x w hi hf0 e3 k2 k3 k5
          exact readP_spec s k w.fin (takeP x w) (ws ++ [w]) e6 (by omega) hi2 (take_cnt x w ws hi.1 hc (okW_kind w e3))
        · simp only at e1 e5
          rw [if_pos e1]
          exact .inl ⟨e1, rfl, e5⟩
end Go.Proofs.YthodphgbdmnpoaaGreat

/- What is wrong at a place is wrong there, whatever stands behind; nothing is wrong ahead of it. Stage 7. -/
namespace Go.Proofs.YthodphgbdmnpoaaGreat
open Go.RowKit BS

theorem Agr.symm {n : Nat} {s s' : ByteArray} (h : Agr n s s') : Agr n s' s := ⟨h.2.1, h.1, fun i hi => (h.2.2 i hi).symm⟩
def cutW (X : WN × Nat × Nat) : Nat := if X.2.1 = 0 then X.1.fin else X.2.2
theorem nextA_agr (s s' : ByteArray) (a : Nat) (ha : a < s.size) (h2 : (nextA s a).2.1 ≠ 2) (hA : Agr (cutW (nextA s a)) s s') : nextA s' a = nextA s a := by
  have hlt : a < cutW (nextA s a) := by
    unfold cutW
    rcases nextA_end s a ha with ⟨e1, _, _, _, e5, _⟩ | ⟨e1, _, _, e4, _, _⟩
    · rw [if_pos e1]; exact e5
    · rw [if_neg e1]; exact e4
  have hb := hA.2.2 a hlt
  have hz := hA.2.1
  unfold nextA at *
  rw [← hb]
  by_cases c1 : bt s a = 40
  · rw [if_pos c1, if_pos c1]
  rw [if_neg c1] at h2 hA hlt ⊢
  rw [if_neg c1]
  by_cases c2 : bt s a = 41
  · rw [if_pos c2, if_pos c2]
  rw [if_neg c2] at h2 hA hlt ⊢
  rw [if_neg c2]
  by_cases c3 : bt s a = 124
  · rw [if_pos c3, if_pos c3]
  rw [if_neg c3] at h2 hA hlt ⊢
  rw [if_neg c3]
  by_cases c4 : bt s a = 42 ∨ bt s a = 43 ∨ bt s a = 63 ∨ bt s a = 123
  · rw [if_pos c4] at h2 hA hlt ⊢
    rw [if_pos c4]
    have hE := cntW_end s a ha c4
    have hcw : cutW (cntW s a) = (if (readN s a).2.2.2.1 = 0 then (readN s a).2.2.1 else (readN s a).2.2.2.2) ∧ (cntW s a).2.1 = (readN s a).2.2.2.1 := by
      unfold cutW cntW
      generalize readN s a = R
      obtain ⟨n, m, p, e, k⟩ := R
      simp only
      by_cases he : e = 0
      · subst he; simp
      · simp [he]
    have he1 : (readN s a).2.2.2.1 ≠ 1 := by
      rw [← hcw.2]
      rcases hE with ⟨e1, _⟩ | ⟨_, e1, _⟩
      · rw [e1]; decide
      · exact e1
    have := readN_agr s s' a he1 (by rw [← hcw.2]; exact h2) (by rw [← hcw.1]; exact hA)
    unfold cntW
    rw [this]
  rw [if_neg c4] at h2 hA hlt ⊢
  rw [if_neg c4]
  by_cases c5 : bt s a = 91
  · rw [if_pos c5] at h2 hA hlt ⊢
    rw [if_pos c5]
    have hE := brkW_end s a ha c5
    have hcw : cutW (brkW s a) = cutT (readR s a) ∧ (brkW s a).2.1 = (readR s a).2.2.1 := by
      unfold cutW cutT brkW
      generalize readR s a = R
      obtain ⟨t, p, e, k⟩ := R
      simp only
      by_cases he : e = 0
      · subst he; simp [oneW]
      · simp [he]
    have he1 : (readR s a).2.2.1 ≠ 1 := by
      rw [← hcw.2]
      rcases hE with ⟨e1, _⟩ | ⟨_, e1, _⟩
      · rw [e1]; decide
      · exact e1
    have := readR_agr s s' a he1 (by rw [← hcw.2]; exact h2) (by rw [← hcw.1]; exact hA)
    unfold brkW
    rw [this]
  rw [if_neg c5] at h2 hA hlt ⊢
  rw [if_neg c5]
  by_cases c6 : bt s a = 46
  · rw [if_pos c6, if_pos c6]
  rw [if_neg c6] at h2 hA hlt ⊢
  rw [if_neg c6]
  by_cases c7 : bt s a = 94 ∨ bt s a = 36
  · rw [if_pos c7, if_pos c7]
  rw [if_neg c7] at h2 hA hlt ⊢
  rw [if_neg c7]
  by_cases c8 : bt s a = 92
  · rw [if_pos c8] at h2 hA hlt ⊢
    rw [if_pos c8]
    unfold slashW at *
    by_cases c9 : s.size ≤ a + 1
    · rw [if_pos c9] at h2
      exact absurd rfl h2
    rw [if_neg c9] at h2 hA hlt ⊢
    have hcut : (if four14 (bt s (a + 1)) = false then (zWN, 3, a + 2) else (oneW (range (bt s (a + 1)) (bt s (a + 1))) a (a + 2), 0, 0) : WN × Nat × Nat) = (if four14 (bt s (a + 1)) = false then (zWN, 3, a + 2) else (oneW (range (bt s (a + 1)) (bt s (a + 1))) a (a + 2), 0, 0)) := rfl
    have hc2 : cutW (if four14 (bt s (a + 1)) = false then (zWN, 3, a + 2) else (oneW (range (bt s (a + 1)) (bt s (a + 1))) a (a + 2), 0, 0)) = a + 2 := by
      by_cases c10 : four14 (bt s (a + 1)) = false
      · rw [if_pos c10]; rfl
      · rw [if_neg c10]; rfl
    rw [hc2] at hA
    have h3 := hA.2.1
    rw [if_neg (by omega), ← hA.2.2 (a + 1) (by omega)]
  · rw [if_neg c8, if_neg c8]
/-- Where it is wrong: behind where it began, and in the text. -/
theorem readP_place (s : ByteArray) : ∀ k a x, a ≤ s.size → s.size < k + a → (readP s k a x).2.2.1 ≠ 0 → (readP s k a x).2.2.1 ≠ 2 → a < (readP s k a x).2.2.2 ∧ (readP s k a x).2.2.2 ≤ s.size
  | 0, a, x, ha, hk, _, _ => by omega
  | k + 1, a, x, ha, hk, h0, h2 => by
    rw [readP] at h0 h2 ⊢
    by_cases hend : s.size ≤ a
    · rw [if_pos hend] at h0 h2
      by_cases hop : 1 < x.st.length
      · rw [if_pos hop] at h2; exact absurd rfl h2
      · rw [if_neg hop] at h0; exact absurd rfl h0
    rw [if_neg hend] at h0 h2 ⊢
    have hlt : a < s.size := by omega
    by_cases hf : firstP x (bt s a) ≠ 0
    · rw [if_pos hf]
      exact ⟨Nat.lt_succ_self a, hlt⟩
    rw [if_neg hf] at h0 h2 ⊢
    have hE := nextA_end s a hlt
    generalize nextA s a = X at *
    obtain ⟨w, e, p⟩ := X
    simp only at h0 h2 ⊢
    rcases hE with ⟨e1, _, _, _, e5, e6⟩ | ⟨e1, _, _, e4, e5, _⟩
    · simp only at e1 e5 e6
      subst e1
      rw [if_neg (by decide)] at h0 h2 ⊢
      have := readP_place s k w.fin (takeP x w) e6 (by omega) h0 h2
      omega
    · simp only at e1 e4 e5
      rw [if_pos e1]
      exact ⟨e4, e5⟩
/-- **What is wrong at a place is wrong there, whatever stands behind.** -/
theorem readP_sure (s s' : ByteArray) : ∀ k k' a x, a ≤ s.size → s.size < k + a → s'.size < k' + a → (readP s k a x).2.2.1 ≠ 0 → (readP s k a x).2.2.1 ≠ 2 → Agr (readP s k a x).2.2.2 s s' → readP s' k' a x = readP s k a x
  | 0, k', a, x, ha, hk, _, _, _, _ => by omega
  | k + 1, k', a, x, ha, hk, hk', h0, h2, hA => by
    have hpl := readP_place s (k + 1) a x ha hk h0 h2
    have hz := hA.2.1
    have hs' : a < s'.size := by omega
    obtain ⟨k', rfl⟩ : ∃ m, k' = m + 1 := ⟨k' - 1, by omega⟩
    have hb := hA.2.2 a hpl.1
    rw [readP] at h0 h2 hA hpl ⊢
    rw [readP]
    by_cases hend : s.size ≤ a
    · rw [if_pos hend] at h0 h2
      by_cases hop : 1 < x.st.length
      · rw [if_pos hop] at h2; exact absurd rfl h2
      · rw [if_neg hop] at h0; exact absurd rfl h0
    rw [if_neg hend] at h0 h2 hA hpl ⊢
    have hlt : a < s.size := by omega
    rw [if_neg (show ¬ s'.size ≤ a by omega), ← hb]
    by_cases hf : firstP x (bt s a) ≠ 0
    · rw [if_pos hf, if_pos hf]
    rw [if_neg hf] at h0 h2 hA hpl ⊢
    rw [if_neg hf]
    have hE := nextA_end s a hlt
    have hag := nextA_agr s s' a hlt
    generalize nextA s a = X at *
    obtain ⟨w, e, p⟩ := X
    simp only at h0 h2 hA hpl ⊢
    rcases hE with ⟨e1, e2, _, _, e5, e6⟩ | ⟨e1, _, _, e4, e5, _⟩
    · simp only at e1 e2 e5 e6
      subst e1
      subst e2
      rw [if_neg (show ¬ (0 : Nat) ≠ 0 by decide)] at h0 h2 hA hpl ⊢
      have hp2 := readP_place s k w.fin (takeP x w) e6 (by omega) h0 h2
      have hx : nextA s' a = (w, 0, 0) := hag (by show (0 : Nat) ≠ 2; decide) (hA.le (by show w.fin ≤ _; omega))
      rw [hx]
      show (if (0 : Nat) ≠ 0 then (zPS, 0, 0, 0) else readP s' k' w.fin (takeP x w)) = _
      rw [if_neg (show ¬ (0 : Nat) ≠ 0 by decide)]
      exact readP_sure s s' k k' w.fin (takeP x w) e6 (by omega) (by omega) h0 h2 hA
    · simp only at e1 e4 e5
      rw [if_pos e1] at h0 h2 hA ⊢
      have hx : nextA s' a = (w, e, p) := hag h2 (by
        have : cutW (w, e, p) = p := if_neg e1
        rw [this]; exact hA)
      rw [hx]
      show (if e ≠ 0 then (zPS, 0, e, p) else readP s' k' w.fin (takeP x w)) = _
      rw [if_pos e1]
/-- **Nothing is wrong ahead of it.** -/
theorem readP_cut (s s' : ByteArray) (k k' a : Nat) (x : PS) (ha' : a ≤ s'.size) (hk : s.size < k + a) (hk' : s'.size < k' + a)
    (hz : s'.size + 1 = (readP s k a x).2.2.2) (hA : Agr s'.size s s') : (readP s' k' a x).2.2.1 = 0 ∨ (readP s' k' a x).2.2.1 = 2 := by
  by_cases g0 : (readP s' k' a x).2.2.1 = 0
  · exact .inl g0
  by_cases g2 : (readP s' k' a x).2.2.1 = 2
  · exact .inr g2
  exfalso
  have hp := readP_place s' k' a x ha' hk' g0 g2
  have he := readP_sure s' s k' k a x ha' hk' hk g0 g2 (hA.symm.le hp.2)
  rw [he] at hz
  omega
end Go.Proofs.YthodphgbdmnpoaaGreat

/- Rows of a call's own: kept where their blocks are; nodes side by side. -/
namespace Go.Proofs.YthodphgbdmnpoaaGreat
open Go.RowKit BS

/-- A row of the call's own, kept where its block is. -/
theorem owns_keep {W W' : World} {base : Nat} {e : TypeId} {size : Nat} {v : Value} {n : Nat} {xs : List Value} (h : W.ownsRow base e size v n xs) (hb : ∀ g, v.ownBlock = some g → W'.heap[g]? = W.heap[g]?) : W'.ownsRow base e size v n xs := by
  refine ⟨h.1, ?_⟩
  rcases h.2 with hn | ⟨g, cap, cur, rfl, h1, h2, h3⟩
  · exact .inl hn
  · exact .inr ⟨g, cap, cur, rfl, h1, (hb g rfl).trans h2, h3⟩
theorem owns_form {W : World} {base : Nat} {e : TypeId} {size : Nat} {v : Value} {n : Nat} {xs : List Value} (h : W.ownsRow base e size v n xs) : ∃ a cap, v = .slice a n cap := by
  rcases h.2 with ⟨rfl, rfl⟩ | ⟨g, cap, cur, rfl, _⟩
  · exact ⟨_, _, rfl⟩
  · exact ⟨_, _, rfl⟩
theorem owns_last {W : World} {base : Nat} {e : TypeId} {v x : Value} {n : Nat} {xs : List Value} (h : W.ownsRow base e 1 v (n + 1) (xs ++ [x])) :
    ∃ g cap, v = .slice (some ⟨g, 0, none⟩) (n + 1) cap ∧ base ≤ g ∧ g < W.heap.size ∧ n + 1 ≤ cap ∧ W.cell? ⟨g, n, none⟩ = some x ∧ W.ownsRow base e 1 (.slice (some ⟨g, 0, none⟩) n cap) n xs := by
  have hl := h.1
  rw [List.length_append, List.length_singleton, Nat.mul_one] at hl
  rcases h.2 with ⟨_, h0⟩ | ⟨g, cap, cur, rfl, h1, h2, h3, h4, h5, h6⟩
  · omega
  · have hlt : g < W.heap.size := (Array.getElem?_eq_some_iff.1 h2).1
    refine ⟨g, cap, rfl, h1, hlt, h3, ?_, ⟨by omega, .inr ⟨g, cap, cur, rfl, h1, h2, by omega, h4, h5, ?_⟩⟩⟩
    · have hc : W.cell? ⟨g, n, none⟩ = cur[n]? := by simp [World.cell?, h2]
      have := congrArg (fun l : List Value => l[n]?) h6
      simp only [Nat.mul_one] at this
      rw [List.getElem?_take, if_pos (show n < n + 1 by omega), List.getElem?_append_right (show xs.length ≤ n by omega), show n - xs.length = 0 by omega] at this
      rw [hc, ← Array.getElem?_toList, this]
      rfl
    · have := congrArg (List.take (n * 1)) h6
      rw [List.take_take, show min (n * 1) ((n + 1) * 1) = n * 1 by omega, List.take_append_of_le_length (show n * 1 ≤ xs.length by omega), List.take_of_length_le (show xs.length ≤ n * 1 by omega)] at this
      exact this

/-! ### Nodes side by side -/
theorem info8n : (Tryz.prog.info? 36).map (fun i => (i.zero, i.size, i.bytes)) = some (some (.agg #[.int .i64 0, .int .i64 0, .int .i64 0, .int .i64 0, .int .u64 0, .int .u64 0, .int .u64 0, .int .u64 0]), 8, 64) := by kernel_rfl
def ndCells (l : List NdN) : List Value := l.flatMap fun x => (ndA x).toList
theorem ndCells_app (l m : List NdN) : ndCells (l ++ m) = ndCells l ++ ndCells m := by simp [ndCells]
theorem ndCells_len (l : List NdN) : (ndCells l).length = l.length * 8 := by
  induction l with
  | nil => rfl
  | cons x l ih =>
    have e : ndCells (x :: l) = (ndA x).toList ++ ndCells l := by simp [ndCells]
    rw [e, List.length_append, ih, List.length_cons, show (ndA x).toList.length = 8 from rfl]
    omega
theorem ndCells_get : ∀ (l : List NdN) (i j : Nat) (h : i < l.length) (_hj : j < 8), (ndCells l)[i * 8 + j]? = (ndA l[i])[j]?
  | [], _, _, h, _ => absurd h (by simp)
  | x :: l, i, j, h, hj => by
    have e : ndCells (x :: l) = (ndA x).toList ++ ndCells l := by simp [ndCells]
    rw [e]
    cases i with
    | zero =>
      rw [List.getElem?_append_left (by rw [show (ndA x).toList.length = 8 from rfl]; omega), Nat.zero_mul, Nat.zero_add]
      simp
    | succ i =>
      rw [List.getElem?_append_right (by rw [show (ndA x).toList.length = 8 from rfl]; omega), show (ndA x).toList.length = 8 from rfl, show (i + 1) * 8 + j - 8 = i * 8 + j by omega]
      exact ndCells_get l i j (by simpa using h) hj
theorem ndCells_one (l : List NdN) : ∀ u ∈ ndCells l, u.oneCell' = true := fun u hu => by
  unfold ndCells at hu
  obtain ⟨x, _, hx⟩ := List.mem_flatMap.1 hu
  have h1 : ((ndA x).toList.all fun y => y.oneCell') = true := by simp [ndA, Value.oneCell']
  exact List.all_eq_true.1 h1 u hx
theorem nodes_news {l : List NdN} {g off : Nat} {W : World} (h : NodesAt l (some ⟨g, off, none⟩) W) : ∀ j u, (ndCells l)[j]? = some u → W.cell? ((⟨g, off, none⟩ : Addr).add j) = some u := fun j u hu => by
  have hj : j < (ndCells l).length := (List.getElem?_eq_some_iff.1 hu).1
  rw [ndCells_len] at hj
  have hne : l ≠ [] := by rintro rfl; simp at hj
  obtain ⟨g', off', e, _, hc⟩ := h hne
  cases e
  have h1 := hc (j / 8) (by omega) (j % 8) (by omega)
  rw [← ndCells_get l (j / 8) (j % 8) (by omega) (by omega), show off + j / 8 * 8 + j % 8 = off + j by omega, show j / 8 * 8 + j % 8 = j by omega, hu] at h1
  have e : (⟨g, off, none⟩ : Addr).add j = ⟨g, off + j, none⟩ := by
    unfold Addr.add
    by_cases h0 : j = 0
    · subst h0; rfl
    · rw [if_neg h0]
  rw [e]
  exact h1
theorem nodes_of_owns {l : List NdN} {v : Value} {base : Nat} {W : World} (h : W.ownsRow base 36 8 v l.length (ndCells l)) (hne : l ≠ []) : ∃ g cap, v = .slice (some ⟨g, 0, none⟩) l.length cap ∧ base ≤ g ∧ NodesAt l (some ⟨g, 0, none⟩) W := by
  rcases h.2 with ⟨_, h0⟩ | ⟨g, cap, cur, rfl, hb, hg, _, _, _, _⟩
  · exact absurd (List.eq_nil_of_length_eq_zero h0) hne
  · refine ⟨g, cap, rfl, hb, fun _ => ⟨g, 0, rfl, (Array.getElem?_eq_some_iff.1 hg).1, fun i hi j hj => ?_⟩⟩
    rw [Nat.zero_add]
    have hjj : i * 8 + j < (ndCells l).length := by rw [ndCells_len]; omega
    exact (h.cellAt (i * 8 + j) (by omega)).trans (ndCells_get l i j hi hj)
theorem owns_empty (W : World) (base : Nat) (hb : base ≤ W.heap.size) : (W.alloc (.cells #[] 36)).ownsRow base 36 8 (.slice (some ⟨W.heap.size, 0, none⟩) 0 0) 0 [] :=
  ⟨rfl, .inr ⟨W.heap.size, 0, #[], rfl, hb, Blk.new W #[] 36, Nat.le_refl _, Nat.zero_le _, rfl, rfl⟩⟩
end Go.Proofs.YthodphgbdmnpoaaGreat

/- The laws of stage 7: what they want of the package parse; sure. -/
namespace Go.Proofs.YthodphgbdmnpoaaGreat
open Go.RowKit BS

/-- What the laws want of the package parse. -/
structure ParseC : Prop where
  parse : ∀ (s : ByteArray), s.size ≤ 1000000 → ∀ (w : World), Calls Tryz.prog 5 #[.string s] w fun e w' => ∃ v, e = .returned (.tuple #[v, .int .i64 (parseN s).2.2.1, .int .i64 (parseN s).2.2.2]) ∧ w'.ownsRow w.heap.size 36 8 v (parseN s).1.l.length (ndCells (parseN s).1.l) ∧ Below w.heap.size w w'
  openG : ∀ (s : ByteArray), s.size ≤ 1000000 → ∀ (w : World), Calls Tryz.prog 8 #[.string s] w fun e w' => e = .returned (.int .i64 (parseN s).2.1) ∧ Below w.heap.size w w'

/-! ### sure -/
def s71 : ByteArray := ⟨#[97, 40, 98, 124, 41, 42]⟩
def s72 : ByteArray := ⟨#[97, 41]⟩
def s73 : ByteArray := ⟨#[97, 124, 42]⟩
def s74 : ByteArray := ⟨#[97, 40, 40, 98, 41, 99]⟩
theorem s71_len : (parseN s71).1.l.length = 7 := by decide +kernel
theorem s71_e : (parseN s71).2.2 = (0, 0) := by decide +kernel
theorem s71_3 : ((parseN s71).1.l[3]?).map (fun x => x.kind) = some 6 := by decide +kernel
theorem s71_6 : ((parseN s71).1.l[6]?).map (fun x => x.kids) = some 2 := by decide +kernel
theorem s72_e : (parseN s72).2.2 = (8, 2) := by decide +kernel
theorem s73_e : (parseN s73).2.2 = (7, 3) := by decide +kernel
theorem s74_e : (parseN s74).2.1 = 1 := by decide +kernel
theorem s71_c (C : ParseC) (w : World) : Calls Tryz.prog 5 #[.string ⟨#[97, 40, 98, 124, 41, 42]⟩] w fun e w' => ∃ g cap, e = .returned (.tuple #[.slice (some ⟨g, 0, none⟩) 7 cap, .int .i64 0, .int .i64 0]) ∧
    (g < w'.heap.size ∧ w'.cell? ⟨g, 24, none⟩ = some (.int .i64 6) ∧ w'.cell? ⟨g, 49, none⟩ = some (.int .i64 2)) ∧ Below w.heap.size w w' := by
  refine (C.parse s71 (by decide) w).mono ?_
  rintro e w' ⟨v, rfl, hv, hb⟩
  have h7 := s71_len
  have h3 := s71_3
  have h6 := s71_6
  rw [s71_e]
  generalize (parseN s71).1.l = l at *
  obtain ⟨g, cap, rfl, _, hn⟩ := nodes_of_owns hv (by rintro rfl; cases h7)
  obtain ⟨g', off, e, hlt, hc⟩ := hn (by rintro rfl; cases h7)
  cases e
  rw [h7]
  have c3 := hc 3 (by omega) 0 (by omega)
  have c6 := hc 6 (by omega) 1 (by omega)
  rw [List.getElem?_eq_getElem (by omega)] at h3 h6
  simp only [Option.map_some, Option.some.injEq] at h3 h6
  refine ⟨g, cap, rfl, ⟨hlt, ?_, ?_⟩, hb⟩
  · rw [← h3]; exact c3
  · rw [← h6]; exact c6
set_option maxRecDepth 100000 in
set_option maxHeartbeats 8000000 in
theorem sure7_calls (C : ParseC) (w : World) : Calls Tryz.prog 4 #[] w fun e w' => e = .returned (.bool true) ∧ Below w.heap.size w w' := by
  have h2 := fun w => C.parse s72 (by decide) w
  have h3 := fun w => C.parse s73 (by decide) w
  have h4 := fun w => C.openG s74 (by decide) w
  rw [s72_e] at h2
  rw [s73_e] at h3
  rw [s74_e] at h4
  have H1 := Lib.hid (s71_c C)
  have H2 : Hid (∀ w, Calls Tryz.prog 5 #[.string ⟨#[97, 41]⟩] w fun e w' => ∃ v, e = .returned (.tuple #[v, .int .i64 8, .int .i64 2]) ∧ Below w.heap.size w w') := Lib.hid fun w => (h2 w).mono fun _ _ ⟨v, h1, _, h3⟩ => ⟨v, h1, h3⟩
  have H3 : Hid (∀ w, Calls Tryz.prog 5 #[.string ⟨#[97, 124, 42]⟩] w fun e w' => ∃ v, e = .returned (.tuple #[v, .int .i64 7, .int .i64 3]) ∧ Below w.heap.size w w') := Lib.hid fun w => (h3 w).mono fun _ _ ⟨v, h1, _, h3⟩ => ⟨v, h1, h3⟩
  have H4 : Hid (∀ w, Calls Tryz.prog 8 #[.string ⟨#[97, 40, 40, 98, 41, 99]⟩] w fun e w' => e = .returned (.int .i64 1) ∧ Below w.heap.size w w') := Lib.hid h4
  clear h2 h3 h4 C
  go_enter Tryz.func4, Tryz.ntmps4
  go_wp2_with fail
  refine (H1.out _).mono ?_
  rintro e w1 ⟨g, cap, rfl, ⟨hg, c3, c6⟩, hb⟩
  have HC := Lib.hid (And.intro hg (And.intro c3 c6))
  have HB := Lib.hid hb
  clear hg c3 c6 hb H1
  go_wp2_with fail
  refine (H2.out _).mono ?_
  rintro e w2 ⟨v2, rfl, hb⟩
  have HC2 := Lib.hid (show g < w2.heap.size ∧ w2.cell? ⟨g, 24, none⟩ = some (.int .i64 6) ∧ w2.cell? ⟨g, 49, none⟩ = some (.int .i64 2) from ⟨Nat.lt_of_lt_of_le HC.out.1 hb.size, (hb.cell (p := ⟨g, 24, none⟩) HC.out.1).trans HC.out.2.1, (hb.cell (p := ⟨g, 49, none⟩) HC.out.1).trans HC.out.2.2⟩)
  have HB2 := Lib.hid (HB.out.trans (hb.mono HB.out.size))
  clear HC HB hb H2
  go_wp2_with fail
  refine (H3.out _).mono ?_
  rintro e w3 ⟨v3, rfl, hb⟩
  obtain ⟨c3, c6⟩ := (show w3.cell? ⟨g, 24, none⟩ = some (.int .i64 6) ∧ w3.cell? ⟨g, 49, none⟩ = some (.int .i64 2) from ⟨(hb.cell (p := ⟨g, 24, none⟩) HC2.out.1).trans HC2.out.2.1, (hb.cell (p := ⟨g, 49, none⟩) HC2.out.1).trans HC2.out.2.2⟩)
  have HB3 := Lib.hid (HB2.out.trans (hb.mono HB2.out.size))
  clear HC2 HB2 hb H3
  go_wp2_with fail
  refine (H4.out _).mono ?_
  rintro e w4 ⟨rfl, hb⟩
  have HB4 := Lib.hid (HB3.out.trans (hb.mono HB3.out.size))
  clear hb HB3 c3 c6
  go_wp2_with fail
  go_ret
  exact ⟨rfl, HB4.out⟩
end Go.Proofs.YthodphgbdmnpoaaGreat

/- The laws of stage 7: are two trees the same (they are). -/
namespace Go.Proofs.YthodphgbdmnpoaaGreat
open Go.RowKit BS

/-- append under a guard that says yes. -/
theorem wpList_append_want {P : Program} (w : World) {ops : Array Oper} {rest : List Oper} {o : Oper} {a : Act} {Q : Exit → Act → World → Prop} (hgd : Region.wanted o (yielded ops a.tmps) = true) (s x : Operand) (t : TypeId)
    (ho : o.op = .call { callee := .builtin .append, args := #[s, x], argTypes := #[t, t] })
    (base : Nat) (e : TypeId) (i : TypeInfo) (z : Value) (size bytes : Nat) (ht : P.underlying t = some (.slice e)) (hi : P.info? e = some i) (hz : i.zero = some z)
    (hsize : i.size = size) (hby : i.bytes = bytes) (hzs : z.cells.size = size) (hsz : 0 < size)
    (v : Value) (n : Nat) (xs : List Value) (hs : a.eval s = v) (hown : w.ownsRow base e size v n xs)
    (ad : Addr) (m c : Nat) (news : List Value) (hx : a.eval x = .slice (some ad) m c) (hl : news.length = m * size) (hnews : ∀ j u, news[j]? = some u → w.cell? (ad.add j) = some u) (h1 : ∀ u ∈ news, u.oneCell' = true)
    (h63 : n + m ≤ maxLen) (hbytes : (n + m) * bytes ≤ 140737488355328) (hbase : base ≤ w.heap.size)
    (h : ∀ v' w', w'.ownsRow base e size v' (n + m) (xs ++ news) → w.grownBy w' v.ownBlock → (v' = .slice none 0 0 ↔ v = .slice none 0 0 ∧ m = 0) → wpList P ops Q rest (a.put o.dst v') w') : wpList P ops Q (o :: rest) a w :=
  BigFrame.wpList_want hgd fun _ hK => wp_append_own w s x t ho base e i z size bytes ht hi hz hsize hby hzs hsz v n xs hs hown ad m c news hx hl hnews h1 h63 hbytes hbase fun v' w' h2 h3 h4 => hK _ _ (h v' w' h2 h3 h4)
set_option maxRecDepth 100000 in
set_option maxHeartbeats 2000000 in
theorem eqNode_same (k c n m : Int) (t : BitVec 256) (w : World) :
    (Op.equalIn 10000 36 (.agg #[.int .i64 k, .int .i64 c, .int .i64 n, .int .i64 m, .int .u64 (wd t 0), .int .u64 (wd t 1), .int .u64 (wd t 2), .int .u64 (wd t 3)]) (.agg #[.int .i64 k, .int .i64 c, .int .i64 n, .int .i64 m, .int .u64 (wd t 0), .int .u64 (wd t 1), .int .u64 (wd t 2), .int .u64 (wd t 3)])).run Tryz.prog w = .ok true w := by
  have hs : ∀ w, (Op.equalIn 9999 34 (.agg #[.int .u64 (wd t 0), .int .u64 (wd t 1), .int .u64 (wd t 2), .int .u64 (wd t 3)]) (.agg #[.int .u64 (wd t 0), .int .u64 (wd t 1), .int .u64 (wd t 2), .int .u64 (wd t 3)])).run Tryz.prog w = .ok true w := fun w => by
    have h := eqArr (k := .u64) Tryz.underlying34 Tryz.underlying32 size64 agg64 9997 [(wd t 0 : Int), wd t 1, wd t 2, wd t 3] [(wd t 0 : Int), wd t 1, wd t 2, wd t 3] rfl rfl w
    refine Eq.trans h ?_
    simp
  go_simp
set_option maxRecDepth 100000 in
set_option maxHeartbeats 8000000 in
theorem sameN_calls (l : List NdN) (hl : l.length ≤ 9000000) (a b : Option Addr) (ca cb : Nat) (w : World) (ha : NodesAt l a w) (hb : NodesAt l b w) :
    Calls Tryz.prog 7 #[.slice a l.length ca, .slice b l.length cb] w fun e w' => e = .returned (.bool true) ∧ Below w.heap.size w w' := by
  have HA := Lib.hid ha
  have HB := Lib.hid hb
  clear ha hb
  go_enter Tryz.func7, Tryz.ntmps7
  go_wp2_with fail
  go_loopw [5] (fun v wr => ∃ i : Nat, i ≤ l.length ∧ v = .int .i64 i ∧ Below w.heap.size w wr) (fun v _ => l.length - (intOf v).toNat)
  case atStart => exact ⟨0, Nat.zero_le _, rfl, Below.refl _ _⟩
  case round =>
    obtain ⟨i, hi, rfl, hW⟩ := hrel
    by_cases hlt : i < l.length
    · obtain ⟨g, off, rfl, hg, hc⟩ := HA.out.below hW (by rintro rfl; simp at hlt)
      obtain ⟨g2, off2, rfl, hg2, hc2⟩ := HB.out.below hW (by rintro rfl; simp at hlt)
      have c0 := hc i hlt 0 (by decide); have c1 := hc i hlt 1 (by decide); have c2 := hc i hlt 2 (by decide); have c3 := hc i hlt 3 (by decide); have c4 := hc i hlt 4 (by decide); have c5 := hc i hlt 5 (by decide); have c6 := hc i hlt 6 (by decide); have c7 := hc i hlt 7 (by decide)
      have d0 := hc2 i hlt 0 (by decide); have d1 := hc2 i hlt 1 (by decide); have d2 := hc2 i hlt 2 (by decide); have d3 := hc2 i hlt 3 (by decide); have d4 := hc2 i hlt 4 (by decide); have d5 := hc2 i hlt 5 (by decide); have d6 := hc2 i hlt 6 (by decide); have d7 := hc2 i hlt 7 (by decide)
      generalize l[i] = x at *
      obtain ⟨k, c, n, m, t⟩ := x
      simp only [ndA, List.getElem?_toArray, List.getElem?_cons_zero, List.getElem?_cons_succ, Nat.add_zero] at c0 c1 c2 c3 c4 c5 c6 c7 d0 d1 d2 d3 d4 d5 d6 d7
      have q0 : (0 : Int) ≤ (i : Int) := by omega
      have q1 : (i : Int) < (l.length : Int) := by omega
      have he := eqNode_same k c n m t
      have HWW := Lib.hid hW
      clear hc hc2 hW hg hg2
      go_wp2_with fail
      go_quiet (fail)
      go_wp2_with fail
      go_roundw
      case rel => exact ⟨i + 1, by omega, by simp, below_drN HWW.out _⟩
      case measure => simp [intOf]; omega
    · obtain rfl : i = l.length := by omega
      go_wp2_with fail
      go_ret
      exact ⟨rfl, hW⟩
end Go.Proofs.YthodphgbdmnpoaaGreat

/- Texts put together: Gt Gu Gv Gw Vp Gx Vq Pb Pc Pd Pe Pf Vs Ja. -/
import Derived.Test.YtbccojjcdcighaaGreatDoorPB
import Derived.Test.YtbccojjcdcighaaGreatDoorPAa
import Derived.Test.YtbccojjcdcighaaGreatDoorPU
import Derived.Test.YtbccojjcdcighaaGreatDoorPG
import Derived.Test.YtbccojjcdcighaaGreatDoorPT
import Derived.Test.YtbccojjcdcighaaGreatDoorPM
import Derived.Test.YtbccojjcdcighaaGreatDoorPC
import Derived.Lib.Hide
namespace Go.Proofs.YtbccojjcdcighaaGreatDoor
open Go.RowKit BS
theorem startR_pos' (s : ByteArray) (a : Nat) (h : a < s.size) : (startR s a).pos ≤ s.size ∧ (startR s a).err = 0 ∧ (startR s a).fin = false ∧ (startR s a).place = 0 := by
  unfold startR
  split <;> exact ⟨by simp only; omega, rfl, rfl, rfl⟩
end Go.Proofs.YtbccojjcdcighaaGreatDoor

namespace Go.Proofs.YtbccojjcdcighaaGreatDoor
open Go.RowKit BS
def PlB (s : ByteArray) (i : Nat) (r : BR) : Prop := r.err ≠ 0 → i < r.place ∧ r.place ≤ s.size ∧ (r.err = 2 → r.place = s.size) ∧ r.err ≠ 1
theorem plB_short (s : ByteArray) (i : Nat) (h : i < s.size) : PlB s i (badR 2 s.size) := fun _ => ⟨h, Nat.le_refl _, fun _ => rfl, by simp [badR]⟩
theorem plB_bad (s : ByteArray) (i e p : Nat) (he : e ≠ 2 ∧ e ≠ 1) (h1 : i < p) (h2 : p ≤ s.size) : PlB s i (badR e p) := fun _ => ⟨h1, h2, fun h => absurd h he.1, he.2⟩
theorem plB_ok (s : ByteArray) (i : Nat) (r : BR) (h : r.err = 0) : PlB s i r := fun he => absurd h he
theorem nameR_pl (s : ByteArray) (fr : Nat) (x : BR) (hx : x.err = 0) (i : Nat) (hi : i < s.size) : ∀ n j, n = s.size - j → i ≤ j → PlB s i (nameR s fr x n j)
  | 0, j, _, _ => plB_short s i hi
  | n + 1, j, hn, hij => by
    rw [nameR]
    refine ite_ok _ (fun _ => ?_) (fun _ => ?_)
    · refine ite_ok _ (fun _ => plB_bad s i 5 _ (by decide) (by omega) (by omega)) (fun _ => ?_)
      refine ite_ok _ (fun _ => plB_short s i hi) (fun _ => ?_)
      refine ite_ok _ (fun _ => plB_bad s i 3 _ (by decide) (by omega) (by omega)) (fun _ => ?_)
      exact plB_ok _ _ _ hx
    · refine ite_ok _ (fun _ => plB_bad s i 5 _ (by decide) (by omega) (by omega)) (fun _ => ?_)
      exact nameR_pl s fr x hx i hi n (j + 1) (by omega) (by omega)
theorem thingR_pl (s : ByteArray) (x : BR) (first : Bool) (hx : x.err = 0) (i : Nat) (hi : i < s.size) (hp : i ≤ x.pos) : PlB s i (thingR s x first) := by
  unfold thingR
  refine ite_ok _ (fun _ => plB_short s i hi) (fun hA => ?_)
  refine ite_ok _ (fun _ => plB_ok _ _ _ hx) (fun _ => ?_)
  refine ite_ok _ (fun _ => plB_short s i hi) (fun hC => ?_)
  refine ite_ok _ (fun _ => nameR_pl s _ x hx i hi _ _ rfl (by omega)) (fun _ => ?_)
  refine ite_ok _ (fun _ => plB_bad s i 3 _ (by decide) (by omega) (by omega)) (fun _ => ?_)
  refine ite_ok _ (fun _ => plB_ok _ _ _ hx) (fun _ => ?_)
  refine ite_ok _ (fun _ => plB_short s i hi) (fun hG => ?_)
  refine ite_ok _ (fun _ => plB_ok _ _ _ hx) (fun _ => ?_)
  refine ite_ok _ (fun _ => plB_bad s i 4 _ (by decide) (by omega) (by omega)) (fun _ => ?_)
  refine ite_ok _ (fun _ => plB_short s i hi) (fun hJ => ?_)
  refine ite_ok _ (fun hK => plB_bad s i 3 _ (by decide) (by omega) ?_) (fun _ => plB_ok _ _ _ hx)
  have := fun h => hJ ⟨hK.1, h⟩
  omega
theorem loopR_end (s : ByteArray) (i : Nat) (hi : i < s.size) : ∀ (n : Nat) (x : BR) (first : Bool), x.err = 0 → x.fin = false → i ≤ x.pos → x.pos ≤ s.size → s.size ≤ n + x.pos →
    PlB s i (loopR s (n + 1) x first) ∧ ((loopR s (n + 1) x first).err = 0 → i < (loopR s (n + 1) x first).pos ∧ (loopR s (n + 1) x first).pos ≤ s.size ∧ (loopR s (n + 1) x first).fin = true)
  | n, x, first, hx, hf, hix, hp, hn => by
    by_cases he : (thingR s x first).err = 0
    · have hok := thingR_ok s x first he
      rw [loopR_on s n x first hf he]
      by_cases hfin : (thingR s x first).fin = true
      · have e : loopR s n (thingR s x first) false = thingR s x first := by
          cases n with
          | zero => rfl
          | succ m => exact loopR_fin s m _ _ hfin
        rw [e]
        exact ⟨plB_ok _ _ _ he, fun _ => ⟨by omega, hok.2.1, hfin⟩⟩
      · have hfin' : (thingR s x first).fin = false := by simpa using hfin
        by_cases hn0 : n = 0
        · omega
        · obtain ⟨m, rfl⟩ : ∃ m, n = m + 1 := ⟨n - 1, by omega⟩
          exact loopR_end s i hi m _ false he hfin' (by omega) hok.2.1 (by omega)
    · rw [loopR_err s n x first hf he]
      exact ⟨thingR_pl s x first hx i hi hix, fun h => absurd h he⟩
theorem readR_end (s : ByteArray) (at' : Int) :
    (readR s at' = (0, 0, 1, 0) ∧ (at' < 0 ∨ s.size ≤ at'.toNat ∨ bt s at'.toNat ≠ 91)) ∨
    (0 ≤ at' ∧ at'.toNat < s.size ∧ bt s at'.toNat = 91 ∧
      (((readR s at').2.2.1 = 0 ∧ (readR s at').2.2.2 = 0 ∧ at'.toNat < (readR s at').2.1 ∧ (readR s at').2.1 ≤ s.size) ∨
       ((readR s at').2.2.1 ≠ 0 ∧ (readR s at').2.2.1 ≠ 1 ∧ (readR s at').1 = 0 ∧ (readR s at').2.1 = 0 ∧ at'.toNat < (readR s at').2.2.2 ∧ (readR s at').2.2.2 ≤ s.size ∧ ((readR s at').2.2.1 = 2 → (readR s at').2.2.2 = s.size)))) := by
  unfold readR
  by_cases q : at' < 0
  · rw [if_pos q]; exact .inl ⟨rfl, .inl q⟩
  rw [if_neg q]
  by_cases q2 : s.size ≤ at'.toNat ∨ bt s at'.toNat ≠ 91
  · rw [if_pos q2]; exact .inl ⟨rfl, .inr q2⟩
  rw [if_neg q2]
  refine .inr ⟨by omega, by omega, by omega, ?_⟩
  generalize at'.toNat = a at *
  have hlt : a < s.size := by omega
  obtain ⟨p1, p2, p3, _⟩ := startR_pos' s a hlt
  have hst : a ≤ (startR s a).pos := by unfold startR; split <;> simp <;> omega
  have hE := loopR_end s a hlt s.size (startR s a) true p2 p3 hst p1 (by omega)
  generalize loopR s (s.size + 1) (startR s a) true = L at *
  unfold finR
  by_cases he : L.err = 0
  · rw [if_neg (show ¬ L.err ≠ 0 by omega)]
    have := hE.2 he
    exact .inl ⟨rfl, rfl, this.1, this.2.1⟩
  · rw [if_pos (show L.err ≠ 0 from he)]
    have := hE.1 he
    exact .inr ⟨he, this.2.2.2, rfl, rfl, this.1, this.2.1, this.2.2.1⟩
end Go.Proofs.YtbccojjcdcighaaGreatDoor

namespace Go.Proofs.YtbccojjcdcighaaGreatDoor
open Go.RowKit BS
def EndB (b : Nat) : Prop := b ≠ 93 ∧ b ≠ 91 ∧ b ≠ 94 ∧ b ≠ 45
theorem thingR_pair (s : ByteArray) (x : BR) (first : Bool) (h : x.pos + 3 < s.size) (h1 : EndB (bt s x.pos)) (h2 : bt s (x.pos + 1) = 45) (h3 : EndB (bt s (x.pos + 2))) :
    thingR s x first = if bt s (x.pos + 2) < bt s x.pos then badR 4 (x.pos + 3) else addR x (bt s x.pos) (bt s (x.pos + 2)) (x.pos + 3) := by
  unfold thingR
  simp only
  rw [if_neg (by omega), if_neg (fun h => h1.1 h.1), if_neg (by omega), if_neg (fun h => h1.2.1 h.1), if_neg (fun h => h1.2.1 h.1), if_neg (by rw [h2]; decide), if_neg (by omega), if_neg h3.1]
  by_cases hc : bt s (x.pos + 2) < bt s x.pos
  · rw [if_pos hc, if_pos hc]
  · rw [if_neg hc, if_neg hc, if_neg (fun h => h3.2.1 h.1), if_neg (fun h => h3.2.1 h.1)]
theorem thingR_end (s : ByteArray) (x : BR) (h : x.pos < s.size) (h1 : bt s x.pos = 93) : thingR s x false = ⟨x.set, x.pos + 1, x.err, x.place, true, x.neg⟩ := by
  unfold thingR
  simp only
  rw [if_neg (by omega), if_pos ⟨h1, trivial⟩]
theorem loopR_pair (s : ByteArray) (x : BR) (hf : x.fin = false) (he : x.err = 0) (n : Nat) (h : x.pos + 3 < s.size) (h1 : EndB (bt s x.pos)) (h2 : bt s (x.pos + 1) = 45) (h3 : EndB (bt s (x.pos + 2)))
    (h4 : bt s (x.pos + 3) = 93) : loopR s (n + 3) x true = if bt s (x.pos + 2) < bt s x.pos then badR 4 (x.pos + 3) else ⟨x.set ||| range (bt s x.pos) (bt s (x.pos + 2)), x.pos + 4, x.err, x.place, true, x.neg⟩ := by
  have ht := thingR_pair s x true h h1 h2 h3
  by_cases hc : bt s (x.pos + 2) < bt s x.pos
  · rw [if_pos hc] at ht ⊢
    rw [loopR, if_neg (by rw [hf]; decide), ht, if_pos (by simp [badR])]
  · rw [if_neg hc] at ht ⊢
    rw [loopR, if_neg (by rw [hf]; decide), ht, if_neg (by simpa [addR] using he)]
    have e2 : thingR s (addR x (bt s x.pos) (bt s (x.pos + 2)) (x.pos + 3)) false = ⟨x.set ||| range (bt s x.pos) (bt s (x.pos + 2)), x.pos + 3 + 1, x.err, x.place, true, x.neg⟩ := thingR_end s _ h h4
    rw [loopR, if_neg (by simp [addR, hf]), e2, if_neg (by simpa using he), loopR_fin _ _ _ _ rfl]
theorem readR_npair (s : ByteArray) (k : Nat) (h : k + 5 < s.size) (h0 : bt s k = 91) (hn : bt s (k + 1) = 94) (h1 : EndB (bt s (k + 2))) (h2 : bt s (k + 3) = 45) (h3 : EndB (bt s (k + 4))) (h4 : bt s (k + 5) = 93) :
    readR s k = if bt s (k + 4) < bt s (k + 2) then (0, 0, 4, k + 5) else (~~~ range (bt s (k + 2)) (bt s (k + 4)), k + 6, 0, 0) := by
  unfold readR
  rw [if_neg (by omega)]
  rw [show (k : Int).toNat = k from rfl, if_neg (by rw [h0]; omega)]
  have es : startR s k = ⟨0, k + 2, 0, 0, false, true⟩ := by rw [startR, if_pos ⟨by omega, hn⟩]
  obtain ⟨n, hn⟩ : ∃ n, s.size + 1 = n + 3 := ⟨s.size - 2, by omega⟩
  rw [es, hn, loopR_pair s ⟨0, k + 2, 0, 0, false, true⟩ rfl rfl n h h1 h2 h3 h4]
  simp only
  by_cases hc : bt s (k + 2 + 2) < bt s (k + 2)
  · rw [if_pos hc, if_pos hc]; rfl
  · rw [if_neg hc, if_neg hc]
    simp [finR]
end Go.Proofs.YtbccojjcdcighaaGreatDoor

namespace Go.Proofs.YtbccojjcdcighaaGreatDoor
open Go.RowKit BS
def Lies (s : ByteArray) : Nat → List Nat → Prop
  | p, [] => p ≤ s.size
  | p, a :: L => p < s.size ∧ bt s p = a ∧ Lies s (p + 1) L
theorem Lies.le {s : ByteArray} : ∀ {p : Nat} {L : List Nat}, Lies s p L → p + L.length ≤ s.size
  | _, [], h => h
  | p, _ :: L, h => by have := Lies.le h.2.2; simp only [List.length_cons]; omega
def Rd (L : List Nat) (first : Bool) (X : BitVec 256) : Prop :=
  ∀ (s : ByteArray) (p : Nat) (t : BitVec 256) (neg : Bool) (n : Nat), Lies s p L → L.length + 1 ≤ n → loopR s n ⟨t, p, 0, 0, false, neg⟩ first = ⟨t ||| X, p + L.length, 0, 0, true, neg⟩
theorem rd_end : Rd [93] false 0 := by
  intro s p t neg n h hn
  obtain ⟨m, rfl⟩ : ∃ m, n = m + 2 := ⟨n - 2, by simp at hn; omega⟩
  have e := thingR_end s ⟨t, p, 0, 0, false, neg⟩ h.1 h.2.1
  rw [loopR, if_neg (by simp), e, if_neg (by simp), loopR_fin _ _ _ _ rfl]
  simp
theorem rd_step {A L : List Nat} {first : Bool} {X : BitVec 256} (lo hi : Nat) (ht : ∀ s p t neg, Lies s p (A ++ L) → thingR s ⟨t, p, 0, 0, false, neg⟩ first = addR ⟨t, p, 0, 0, false, neg⟩ lo hi (p + A.length))
    (hl : ∀ s p, Lies s p (A ++ L) → Lies s (p + A.length) L) (hA : A ≠ []) (h : Rd L false X) : Rd (A ++ L) first (range lo hi ||| X) := by
  intro s p t neg n hs hn
  have hA' := List.length_pos_iff.2 hA
  rw [List.length_append] at hn
  obtain ⟨m, rfl⟩ : ∃ m, n = m + 1 := ⟨n - 1, by omega⟩
  rw [loopR, if_neg (by simp), ht s p t neg hs, if_neg (by simp [addR])]
  have := h s (p + A.length) (t ||| range lo hi) neg m (hl s p hs) (by omega)
  rw [show addR ⟨t, p, 0, 0, false, neg⟩ lo hi (p + A.length) = ⟨t ||| range lo hi, p + A.length, 0, 0, false, neg⟩ from rfl, this, BitVec.or_assoc, List.length_append, Nat.add_assoc]
theorem rd_one {a c : Nat} {L : List Nat} {first : Bool} {X : BitVec 256} (h1 : a ≠ 93 ∨ first = true) (h2 : a = 91 → c ≠ 58 ∧ spec3 c = false) (h3 : c ≠ 45) (h : Rd (c :: L) false X) : Rd (a :: c :: L) first (range a a ||| X) := by
  refine rd_step (A := [a]) (L := c :: L) a a ?_ (fun s p h => h.2.2) (by simp) h
  rintro s p t neg ⟨g1, g2, g3, g4, _⟩
  unfold thingR
  simp only
  rw [if_neg (by omega), g2, g4, if_neg (fun h => ?_), if_neg (by omega), if_neg (fun h => (h2 h.1).1 h.2), if_neg (fun h => ?_), if_pos h3]
  · rfl
  · rw [(h2 h.1).2] at h; exact absurd h.2 (by decide)
  · rcases h1 with h1 | h1
    · exact h1 h.1
    · rw [h1] at h; exact absurd h.2 (by decide)
theorem rd_dash {a : Nat} {L : List Nat} {first : Bool} {X : BitVec 256} (h1 : a ≠ 93 ∨ first = true) (h : Rd (45 :: 93 :: L) false X) : Rd (a :: 45 :: 93 :: L) first (range a a ||| X) := by
  refine rd_step (A := [a]) (L := 45 :: 93 :: L) a a ?_ (fun s p h => h.2.2) (by simp) h
  rintro s p t neg ⟨g1, g2, g3, g4, g5, g6, _⟩
  unfold thingR
  simp only
  rw [show p + 2 = p + 1 + 1 from rfl, if_neg (by omega), g2, g4, g6, if_neg (fun h => ?_), if_neg (by omega), if_neg (fun h => absurd h.2 (by decide)), if_neg (fun h => absurd h.2 (by decide)), if_neg (by decide), if_neg (by omega), if_pos rfl]
  · rfl
  · rcases h1 with h1 | h1
    · exact h1 h.1
    · rw [h1] at h; exact absurd h.2 (by decide)
theorem rd_range {a b : Nat} {L : List Nat} {first : Bool} {X : BitVec 256} (h1 : EndB a) (h2 : EndB b) (hab : a ≤ b) (h : Rd L false X) : Rd (a :: 45 :: b :: L) first (range a b ||| X) := by
  refine rd_step (A := [a, 45, b]) (L := L) a b ?_ (fun s p h => h.2.2.2.2.2.2) (by simp) h
  rintro s p t neg ⟨g1, g2, g3, g4, g5, g6, g7⟩
  unfold thingR
  simp only
  rw [show p + 2 = p + 1 + 1 from rfl, if_neg (by omega), g2, g4, g6, if_neg (fun h => h1.1 h.1), if_neg (by omega), if_neg (fun h => h1.2.1 h.1), if_neg (fun h => h1.2.1 h.1), if_neg (by decide), if_neg (by omega), if_neg h2.1,
    if_neg (by omega), if_neg (fun h => h2.2.1 h.1), if_neg (fun h => h2.2.1 h.1)]
  rfl
def Next (L : List Nat) : Prop := (∃ c L', L = c :: L' ∧ c ≠ 45) ∨ ∃ L', L = 45 :: 93 :: L'
theorem rd_next {a : Nat} {L : List Nat} {first : Bool} {X : BitVec 256} (h1 : a ≠ 93 ∨ first = true) (h2 : a ≠ 91) (hn : Next L) (h : Rd L false X) : Rd (a :: L) first (range a a ||| X) := by
  rcases hn with ⟨c, L', rfl, hc⟩ | ⟨L', rfl⟩
  · exact rd_one h1 (fun e => absurd e h2) hc h
  · exact rd_dash h1 h
theorem rd_byte {a : Nat} {L : List Nat} {first : Bool} {X : BitVec 256} (h1 : EndB a) (hn : Next L) (h : Rd L false X) : Rd (a :: L) first (range a a ||| X) := rd_next (.inl h1.1) h1.2.1 hn h
def runT (r : Nat × Nat) : List Nat := [r.1] ++ (if r.1 + 1 < r.2 then [45] else []) ++ (if r.1 < r.2 then [r.2] else [])
theorem next_runs (rs : List (Nat × Nat)) (L : List Nat) (h : ∀ r ∈ rs, EndB r.1) (hL : Next L) : Next (rs.flatMap runT ++ L) := by
  cases rs with
  | nil => exact hL
  | cons r rs => exact .inl ⟨r.1, (if r.1 + 1 < r.2 then [45] else []) ++ (if r.1 < r.2 then [r.2] else []) ++ (rs.flatMap runT ++ L), by simp [runT], (h r (by simp)).2.2.2⟩
def orR (rs : List (Nat × Nat)) (X : BitVec 256) : BitVec 256 := rs.foldr (fun r t => range r.1 r.2 ||| t) X
theorem range_two (a : Nat) : range a a ||| range (a + 1) (a + 1) = range a (a + 1) := by
  apply BitVec.eq_of_getLsbD_eq
  intro j hj
  rw [BitVec.getLsbD_or, range, range, range, get_ofFn, get_ofFn, get_ofFn]
  simp only [hj, decide_true, Bool.true_and]
  rw [Bool.eq_iff_iff]
  simp only [Bool.or_eq_true, Bool.and_eq_true, decide_eq_true_eq]
  omega
theorem rd_runs : ∀ (rs : List (Nat × Nat)) (L : List Nat) (first : Bool) (X : BitVec 256), (∀ r ∈ rs, EndB r.1 ∧ EndB r.2 ∧ r.1 ≤ r.2) → Next L → (rs = [] → Rd L first X) → Rd L false X → Rd (rs.flatMap runT ++ L) first (orR rs X)
  | [], L, first, X, _, _, h0, _ => h0 rfl
  | r :: rs, L, first, X, hr, hL, _, h => by
    have ih := rd_runs rs L false X (fun r' h' => hr r' (by simp [h'])) hL (fun _ => h) h
    have hN := next_runs rs L (fun r' h' => (hr r' (by simp [h'])).1) hL
    obtain ⟨e1, e2, e3⟩ := hr r (by simp)
    rw [List.flatMap_cons, List.append_assoc]
    show Rd _ _ (range r.1 r.2 ||| orR rs X)
    obtain ⟨a, b⟩ := r
    simp only at e1 e2 e3 ⊢
    by_cases h1 : a + 1 < b
    · have : runT (a, b) = [a, 45, b] := by simp [runT, h1, show a < b by omega]
      rw [this]
      exact rd_range e1 e2 e3 ih
    · by_cases h2 : a < b
      · obtain rfl : b = a + 1 := by omega
        have : runT (a, a + 1) = [a, a + 1] := by simp [runT]
        rw [this, ← range_two, BitVec.or_assoc]
        exact rd_byte e1 (.inl ⟨a + 1, _, rfl, e2.2.2.2⟩) (rd_byte e2 hN ih)
      · obtain rfl : b = a := by omega
        have : runT (b, b) = [b] := by simp [runT]
        rw [this]
        exact rd_byte e1 hN ih
def fourS : BitVec 256 := range 93 93 ||| (range 91 91 ||| (range 94 94 ||| range 45 45))
def iT (x : Bool) (n : Nat) : List Nat := if x = true then [n] else []
def gT (x : Bool) (n : Nat) : BitVec 256 := if x = true then range n n else 0
def midT (s : BitVec 256) : List Nat := (rsOf (s &&& ~~~fourS)).flatMap runT
def outT (s : BitVec 256) : List Nat := iT (s.getLsbD 93) 93 ++ midT s ++ iT (s.getLsbD 91) 91
def textT (s : BitVec 256) : List Nat :=
  if s = 0 then [91, 94, 0, 45, 255, 93]
  else if s = range 94 94 then []
  else if outT s = [] then 91 :: (iT (s.getLsbD 45) 45 ++ (iT (s.getLsbD 94) 94 ++ [93]))
  else 91 :: (outT s ++ (iT (s.getLsbD 94) 94 ++ (iT (s.getLsbD 45) 45 ++ [93])))
theorem get_range1 (n j : Nat) (hj : j < 256) : (range n n).getLsbD j = decide (j = n) := by
  rw [range, get_ofFn]
  simp only [hj, decide_true, Bool.true_and]
  rw [Bool.eq_iff_iff]
  simp only [Bool.and_eq_true, decide_eq_true_eq]
  omega
theorem get_gT (x : Bool) (n j : Nat) (hj : j < 256) : (gT x n).getLsbD j = (x && decide (j = n)) := by
  unfold gT
  cases x
  · simp
  · simp [get_range1 n j hj]
theorem get_four (j : Nat) (hj : j < 256) : fourS.getLsbD j = (decide (j = 93) || (decide (j = 91) || (decide (j = 94) || decide (j = 45)))) := by
  simp only [fourS, BitVec.getLsbD_or, get_range1 _ j hj]
theorem set_parts (s : BitVec 256) : gT (s.getLsbD 93) 93 ||| ((s &&& ~~~fourS) ||| (gT (s.getLsbD 91) 91 ||| (gT (s.getLsbD 94) 94 ||| (gT (s.getLsbD 45) 45 ||| 0)))) = s := by
  apply BitVec.eq_of_getLsbD_eq
  intro j hj
  simp only [BitVec.getLsbD_or, BitVec.getLsbD_and, BitVec.getLsbD_not, get_gT _ _ j hj, get_four j hj, hj, decide_true, Bool.true_and]
  by_cases h1 : j = 93
  · subst h1; simp
  by_cases h2 : j = 91
  · subst h2; simp
  by_cases h3 : j = 94
  · subst h3; simp
  by_cases h4 : j = 45
  · subst h4; simp
  simp [h1, h2, h3, h4]
theorem orR_eq (rs : List (Nat × Nat)) (X : BitVec 256) : orR rs X = orAll rs ||| X := by
  have h : ∀ (l : List (Nat × Nat)) (t : BitVec 256), l.foldl (fun t r => t ||| range r.1 r.2) t ||| X = t ||| orR l X := by
    intro l
    induction l with
    | nil => intro t; rfl
    | cons r l ih => intro t; rw [List.foldl_cons, ih, BitVec.or_assoc]; rfl
  have := h rs 0
  rw [orAll, this]; simp
theorem mid_ends (s : BitVec 256) : ∀ r ∈ rsOf (s &&& ~~~fourS), EndB r.1 ∧ EndB r.2 ∧ r.1 ≤ r.2 := by
  intro r hr
  have hinv := rsOf_inv (s &&& ~~~fourS)
  obtain ⟨h1, h2⟩ := hinv.ok r hr
  have key : ∀ j, r.1 ≤ j → j ≤ r.2 → EndB j := by
    intro j h3 h4
    have hj : j < 256 := by omega
    have := (hinv.all j hj).2 ⟨r, hr, h3, h4⟩
    simp only [BitVec.getLsbD_and, BitVec.getLsbD_not, get_four j hj, hj, decide_true, Bool.true_and, Bool.and_eq_true, Bool.not_eq_true', Bool.or_eq_false_iff, decide_eq_false_iff_not] at this
    exact ⟨this.2.1, this.2.2.1, this.2.2.2.1, this.2.2.2.2⟩
  exact ⟨key _ (Nat.le_refl _) h1, key _ h1 (Nat.le_refl _), h1⟩
theorem mid_nil (s : BitVec 256) (h : midT s = []) : s &&& ~~~fourS = 0 := by
  have : rsOf (s &&& ~~~fourS) = [] := by
    cases hr : rsOf (s &&& ~~~fourS) with
    | nil => rfl
    | cons r rs => rw [midT, hr] at h; simp [runT] at h
  rw [← orAll_rsOf (s &&& ~~~fourS), this]; rfl
theorem rd_45 (z : Bool) : Rd (iT z 45 ++ [93]) false (gT z 45 ||| 0) := by
  cases z
  · exact rd_end
  · exact rd_one (.inl (by decide)) (fun h => absurd h (by decide)) (by decide) rd_end
theorem next_45 (z : Bool) : Next (iT z 45 ++ [93]) := by
  cases z
  · exact .inl ⟨93, [], rfl, by decide⟩
  · exact .inr ⟨[], rfl⟩
theorem or_zero (X : BitVec 256) : 0 ||| X = X := by simp
theorem rd_94 (y z : Bool) : Rd (iT y 94 ++ (iT z 45 ++ [93])) false (gT y 94 ||| (gT z 45 ||| 0)) := by
  cases y
  · have := rd_45 z; rw [← or_zero (gT z 45 ||| 0)] at this; exact this
  · exact rd_next (.inl (by decide)) (by decide) (next_45 z) (rd_45 z)
theorem next_94 (y z : Bool) : Next (iT y 94 ++ (iT z 45 ++ [93])) := by
  cases y
  · exact next_45 z
  · exact .inl ⟨94, _, rfl, by decide⟩
theorem rd_91 (x y z first : Bool) (h : first = false ∨ x = true) : Rd (iT x 91 ++ (iT y 94 ++ (iT z 45 ++ [93]))) first (gT x 91 ||| (gT y 94 ||| (gT z 45 ||| 0))) := by
  cases x
  · rcases h with rfl | h
    · have := rd_94 y z; rw [← or_zero (gT y 94 ||| (gT z 45 ||| 0))] at this; exact this
    · exact absurd h (by decide)
  · have h94 := rd_94 y z
    cases y
    · cases z
      · exact rd_one (.inl (by decide)) (fun _ => by decide) (by decide) h94
      · exact rd_dash (.inl (by decide)) h94
    · exact rd_one (.inl (by decide)) (fun _ => by decide) (by decide) h94
theorem next_91 (x y z : Bool) : Next (iT x 91 ++ (iT y 94 ++ (iT z 45 ++ [93]))) := by
  cases x
  · exact next_94 y z
  · exact .inl ⟨91, _, rfl, by decide⟩
theorem rd_out (s : BitVec 256) (h : outT s ≠ []) : Rd (outT s ++ (iT (s.getLsbD 94) 94 ++ (iT (s.getLsbD 45) 45 ++ [93]))) true s := by
  have hm := mid_ends s
  have hp := set_parts s
  have hN := next_runs (rsOf (s &&& ~~~fourS)) _ (fun r hr => (hm r hr).1) (next_91 (s.getLsbD 91) (s.getLsbD 94) (s.getLsbD 45))
  have key : ∀ first, (first = true → midT s = [] → s.getLsbD 91 = true) → Rd (midT s ++ (iT (s.getLsbD 91) 91 ++ (iT (s.getLsbD 94) 94 ++ (iT (s.getLsbD 45) 45 ++ [93])))) first ((s &&& ~~~fourS) ||| (gT (s.getLsbD 91) 91 ||| (gT (s.getLsbD 94) 94 ||| (gT (s.getLsbD 45) 45 ||| 0)))) := by
    intro first hf
    have := rd_runs (rsOf (s &&& ~~~fourS)) _ first _ hm (next_91 (s.getLsbD 91) (s.getLsbD 94) (s.getLsbD 45)) (fun e => rd_91 _ _ _ first (by
      cases first
      · exact .inl rfl
      · exact .inr (hf rfl (by rw [midT, e]; rfl)))) (rd_91 _ _ _ false (.inl rfl))
    rw [orR_eq, orAll_rsOf] at this
    exact this
  rw [outT, List.append_assoc, List.append_assoc] at *
  cases h93 : s.getLsbD 93
  · rw [h93] at hp h
    have := key true (fun _ e => by
      rw [e] at h
      cases h91 : s.getLsbD 91
      · rw [h91] at h; exact absurd rfl h
      · rfl)
    rw [show gT false 93 = 0 from rfl, or_zero] at hp
    rw [hp] at this
    simpa [iT] using this
  · rw [h93] at hp
    have := rd_next (a := 93) (first := true) (.inr rfl) (by decide) hN (key false (fun e => absurd e (by decide)))
    rw [show range 93 93 = gT true 93 from rfl, hp] at this
    exact this
theorem out_head (s : BitVec 256) (h : outT s ≠ []) (T : List Nat) : ∃ c L, outT s ++ T = c :: L ∧ c ≠ 94 := by
  rw [outT] at *
  cases h93 : s.getLsbD 93
  · rw [h93] at h
    cases hr : rsOf (s &&& ~~~fourS) with
    | nil =>
      cases h91 : s.getLsbD 91
      · rw [h91, midT, hr] at h; exact absurd rfl h
      · rw [midT, hr]; exact ⟨91, _, rfl, by decide⟩
    | cons r rs =>
      refine ⟨r.1, (if r.1 + 1 < r.2 then [45] else []) ++ (if r.1 < r.2 then [r.2] else []) ++ rs.flatMap runT ++ iT (s.getLsbD 91) 91 ++ T, ?_, (mid_ends s r (by rw [hr]; simp)).1.2.2.1⟩
      rw [midT, hr]; simp [iT, runT]
  · exact ⟨93, _, rfl, by decide⟩
theorem readR_rd (s : ByteArray) (k c : Nat) (L : List Nat) (X : BitVec 256) (hc : c ≠ 94) (hX : Rd (c :: L) true X) (h : Lies s k (91 :: c :: L)) : readR s k = (X, k + (91 :: c :: L).length, 0, 0) := by
  obtain ⟨h1, h2, h3⟩ := h
  have hle := Lies.le h3
  unfold readR
  rw [if_neg (by omega)]
  rw [show (k : Int).toNat = k from rfl, if_neg (by omega)]
  have es : startR s k = ⟨0, k + 1, 0, 0, false, false⟩ := by rw [startR, if_neg (fun h => hc (by rw [← h3.2.1]; exact h.2))]
  rw [es, hX s (k + 1) 0 false (s.size + 1) h3 (by omega)]
  simp [finR]
  omega
theorem readR_text (b : ByteArray) (k : Nat) (s : BitVec 256) (hs : s ≠ range 94 94) (h : Lies b k (textT s)) : readR b k = (s, k + (textT s).length, 0, 0) := by
  unfold textT at h ⊢
  by_cases h0 : s = 0
  · subst h0
    rw [if_pos rfl] at h ⊢
    obtain ⟨g1, e1, g2, e2, g3, e3, g4, e4, g5, e5, g6, e6, _⟩ := h
    have e3' : bt b (k + 2) = 0 := e3
    have e5' : bt b (k + 4) = 255 := e5
    have := readR_npair b k (by omega) e1 e2 (by rw [e3']; exact ⟨by decide, by decide, by decide, by decide⟩) e4 (by rw [e5']; exact ⟨by decide, by decide, by decide, by decide⟩) e6
    rw [this, e3', e5', if_neg (by decide)]
    rw [show ~~~ range 0 255 = (0 : BitVec 256) by decide +kernel]
    rfl
  rw [if_neg h0, if_neg hs] at h ⊢
  by_cases ho : outT s = []
  · rw [if_pos ho] at h ⊢
    have hp := set_parts s
    have ho' := ho
    rw [outT, List.append_eq_nil_iff, List.append_eq_nil_iff] at ho'
    obtain ⟨⟨o1, o2⟩, o3⟩ := ho'
    have h93 : s.getLsbD 93 = false := by cases h : s.getLsbD 93; rfl; rw [h] at o1; exact absurd o1 (by decide)
    have h91 : s.getLsbD 91 = false := by cases h : s.getLsbD 91; rfl; rw [h] at o3; exact absurd o3 (by decide)
    rw [mid_nil s o2, h93, h91, show gT false 93 = 0 from rfl, show gT false 91 = 0 from rfl, or_zero, or_zero, or_zero] at hp
    cases hz : s.getLsbD 45
    · rw [hz] at hp
      cases hy : s.getLsbD 94
      · rw [hy] at hp; exact absurd (hp.symm.trans (by decide +kernel)) h0
      · rw [hy] at hp; exact absurd (hp.symm.trans (by decide +kernel)) hs
    · rw [hz] at h hp
      cases hy : s.getLsbD 94
      · rw [hy] at h hp
        have hX : Rd [45, 93] true (range 45 45 ||| 0) := rd_one (.inl (by decide)) (fun h => absurd h (by decide)) (by decide) rd_end
        rw [show range 45 45 ||| 0 = gT false 94 ||| (gT true 45 ||| 0) from by decide +kernel, hp] at hX
        exact readR_rd b k 45 [93] s (by decide) hX h
      · rw [hy] at h hp
        have hX : Rd [45, 94, 93] true (range 45 45 ||| (range 94 94 ||| 0)) := rd_one (.inl (by decide)) (fun h => absurd h (by decide)) (by decide) (rd_one (.inl (by decide)) (fun h => absurd h (by decide)) (by decide) rd_end)
        rw [show range 45 45 ||| (range 94 94 ||| 0) = gT true 94 ||| (gT true 45 ||| 0) from by decide +kernel, hp] at hX
        exact readR_rd b k 45 [94, 93] s (by decide) hX h
  · rw [if_neg ho] at h ⊢
    have hX := rd_out s ho
    obtain ⟨c, L, e, hc⟩ := out_head s ho (iT (s.getLsbD 94) 94 ++ (iT (s.getLsbD 45) 45 ++ [93]))
    rw [e] at hX h ⊢
    exact readR_rd b k c L s hc hX h
end Go.Proofs.YtbccojjcdcighaaGreatDoor

namespace Go.Proofs.YtbccojjcdcighaaGreatDoor
open Go.RowKit BS
structure WN where
  kind : Nat
  pos : Nat
  fin : Nat
  set : BitVec 256
  n : Nat
  m : Int
def zWN : WN := ⟨0, 0, 0, 0, 0, 0⟩
def oneW (t : BitVec 256) (a e : Nat) : WN := ⟨1, a, e, t, 0, 0⟩
def l14 : List Nat := [46, 91, 93, 92, 40, 41, 42, 43, 63, 123, 125, 124, 94, 36]
def four14 (b : Nat) : Bool := l14.contains b
def cntW (s : ByteArray) (a : Nat) : WN × Nat × Nat :=
  match readN s a with
  | (n, m, p, e, k) => if e ≠ 0 then (zWN, e, k) else (⟨5, a, p, 0, n, m⟩, 0, 0)
def brkW (s : ByteArray) (a : Nat) : WN × Nat × Nat :=
  match readR s a with
  | (t, p, e, k) => if e ≠ 0 then (zWN, e, k) else (oneW t a p, 0, 0)
def slashW (s : ByteArray) (a : Nat) : WN × Nat × Nat :=
  if s.size ≤ a + 1 then (zWN, 2, s.size)
  else if four14 (bt s (a + 1)) = false then (zWN, 3, a + 2)
  else (oneW (range (bt s (a + 1)) (bt s (a + 1))) a (a + 2), 0, 0)
def nextA (s : ByteArray) (a : Nat) : WN × Nat × Nat :=
  if bt s a = 40 then (⟨2, a, a + 1, 0, 0, 0⟩, 0, 0)
  else if bt s a = 41 then (⟨3, a, a + 1, 0, 0, 0⟩, 0, 0)
  else if bt s a = 124 then (⟨4, a, a + 1, 0, 0, 0⟩, 0, 0)
  else if bt s a = 42 ∨ bt s a = 43 ∨ bt s a = 63 ∨ bt s a = 123 then cntW s a
  else if bt s a = 91 then brkW s a
  else if bt s a = 46 then (oneW (range 0 255) a (a + 1), 0, 0)
  else if bt s a = 94 ∨ bt s a = 36 then (zWN, 3, a + 1)
  else if bt s a = 92 then slashW s a
  else (oneW (range (bt s a) (bt s a)) a (a + 1), 0, 0)
def nextN (s : ByteArray) (at' : Int) : WN × Nat × Nat :=
  if at' < 0 ∨ (s.size : Int) ≤ at' then (zWN, 1, 0) else nextA s at'.toNat
def allN (s : ByteArray) : Nat → Nat → List WN → List WN × Nat × Nat
  | 0, _, l => (l, 0, 0)
  | k + 1, a, l =>
    if s.size ≤ a then (l, 0, 0)
    else match nextA s a with
      | (w, e, p) => if e ≠ 0 then ([], e, p) else allN s k w.fin (l ++ [w])
def textW (t : BitVec 256) : List Nat :=
  if (el t.getLsbD 256).length = 256 then [46]
  else if (el t.getLsbD 256).length ≠ 1 then textT t
  else match el t.getLsbD 256 with
    | b :: _ => if four14 b = true ∧ b ≠ 93 ∧ b ≠ 125 then [92, b] else [b]
    | [] => []
def printW (w : WN) : List Nat :=
  if w.kind = 1 then textW w.set
  else if w.kind = 2 then [40]
  else if w.kind = 3 then [41]
  else if w.kind = 4 then [124]
  else if w.kind = 5 then textN w.n w.m
  else []
def OkW (w : WN) : Prop := (w.kind = 1 ∧ w.n = 0 ∧ w.m = 0) ∨ ((w.kind = 2 ∨ w.kind = 3 ∨ w.kind = 4) ∧ w.set = 0 ∧ w.n = 0 ∧ w.m = 0) ∨ (w.kind = 5 ∧ w.set = 0 ∧ rightN w.n w.m = true)
def EndW (s : ByteArray) (a : Nat) (r : WN × Nat × Nat) : Prop :=
  (r.2.1 = 0 ∧ r.2.2 = 0 ∧ OkW r.1 ∧ r.1.pos = a ∧ a < r.1.fin ∧ r.1.fin ≤ s.size) ∨
  (r.2.1 ≠ 0 ∧ r.2.1 ≠ 1 ∧ r.1 = zWN ∧ a < r.2.2 ∧ r.2.2 ≤ s.size ∧ (r.2.1 = 2 → r.2.2 = s.size))
theorem cntW_end (s : ByteArray) (a : Nat) (h : a < s.size) (hb : bt s a = 42 ∨ bt s a = 43 ∨ bt s a = 63 ∨ bt s a = 123) : EndW s a (cntW s a) := by
  unfold cntW
  have h1 : (readN s a).2.2.2.1 ≠ 1 := by
    unfold readN
    rw [if_neg (by omega), show (a : Int).toNat = a from rfl]
    unfold signN
    rcases hb with e | e | e | e
    · rw [if_pos e]; exact fun h => by cases h
    · rw [if_neg (by omega), if_pos e]; exact fun h => by cases h
    · rw [if_neg (by omega), if_neg (by omega), if_pos e]; exact fun h => by cases h
    · rw [if_neg (by omega), if_neg (by omega), if_neg (by omega), if_pos e]
      rcases runN_end s a (s.size - (a + 1)) (a + 1) ⟨0, 0, 0, false⟩ inv_start (by omega) (by omega) with h | h | h
      · unfold bracesN; rw [h.1]; decide
      · unfold bracesN; rcases h.1 with h | h <;> rw [h] <;> decide
      · unfold bracesN; rw [h]; exact fun h => by cases h
  rcases readN_cases s a with h' | ⟨k, hk, hE⟩
  · rw [h'] at h1; exact absurd rfl h1
  obtain rfl : a = k := by omega
  generalize readN s a = R at *
  obtain ⟨n, m, p, e, k⟩ := R
  simp only [EndN] at hE h1
  rcases hE with ⟨rfl, rfl, g1, g2, g3⟩ | ⟨g1, _, _, _, g5, g6⟩ | g
  · exact .inl ⟨rfl, rfl, .inr (.inr ⟨rfl, rfl, g3⟩), rfl, g1, g2⟩
  · simp only
    rw [if_pos (by omega)]
    exact .inr ⟨by simp only; omega, h1, rfl, g5, g6, fun h => by simp only at h; omega⟩
  · cases g
    exact .inr ⟨(fun h => by cases h), (fun h => by cases h), rfl, h, Nat.le_refl _, fun _ => rfl⟩
end Go.Proofs.YtbccojjcdcighaaGreatDoor

namespace Go.Proofs.YtbccojjcdcighaaGreatDoor
open Go.RowKit BS
theorem lies_of (s : ByteArray) : ∀ (L : List Nat) (p : Nat), p + L.length ≤ s.size → (∀ i (h : i < L.length), bt s (p + i) = L[i]) → Lies s p L
  | [], p, h, _ => h
  | a :: L, p, h, hb => by
    simp only [List.length_cons] at h
    refine ⟨by omega, hb 0 (by simp), lies_of s L (p + 1) (by omega) fun i hi => ?_⟩
    have := hb (i + 1) (by simp; omega)
    simpa [Nat.add_assoc, Nat.add_comm 1 i] using this
theorem lies_mid (a b : ByteArray) (L : List Nat) (hL : ∀ x ∈ L, x < 256) : Lies (a ++ ofT L ++ b) a.size L := by
  have hs : (a ++ ofT L).size = a.size + L.length := by rw [ByteArray.size_append, size_ofT]
  refine lies_of _ L _ (by rw [ByteArray.size_append, hs]; omega) fun i hi => ?_
  rw [bt_app, if_pos (by omega), bt_app, if_neg (by omega), Nat.add_sub_cancel_left, bt_ofT L hL i hi]
theorem iT_lt (x : Bool) (n : Nat) (hn : n < 256) : ∀ y ∈ iT x n, y < 256 := by
  intro y hy
  cases x
  · simp [iT] at hy
  · simp [iT] at hy; omega
theorem iT_len (x : Bool) (n : Nat) : (iT x n).length ≤ 1 := by cases x <;> simp [iT]
theorem mid_lt (s : BitVec 256) : ∀ y ∈ midT s, y < 256 := by
  intro y hy
  obtain ⟨r, hr, hy⟩ := List.mem_flatMap.1 hy
  obtain ⟨h1, h2⟩ := (rsOf_inv (s &&& ~~~fourS)).ok r hr
  simp only [runT, List.mem_append, List.mem_singleton] at hy
  rcases hy with (rfl | hy) | hy
  · omega
  · split at hy
    · simp at hy; omega
    · simp at hy
  · split at hy
    · simp at hy; omega
    · simp at hy
theorem out_lt (s : BitVec 256) : ∀ y ∈ outT s, y < 256 := by
  intro y hy
  rcases List.mem_append.1 hy with hy | hy
  · rcases List.mem_append.1 hy with hy | hy
    · exact iT_lt _ _ (by decide) y hy
    · exact mid_lt s y hy
  · exact iT_lt _ _ (by decide) y hy
theorem text_lt (s : BitVec 256) : ∀ y ∈ textT s, y < 256 := by
  unfold textT
  refine ite_ok (fun L : List Nat => ∀ y ∈ L, y < 256) (fun _ => by decide) (fun _ => ?_)
  refine ite_ok (fun L : List Nat => ∀ y ∈ L, y < 256) (fun _ => by decide) (fun _ => ?_)
  refine ite_ok (fun L : List Nat => ∀ y ∈ L, y < 256) (fun _ => ?_) (fun _ => ?_)
  · intro y hy
    rcases List.mem_cons.1 hy with rfl | hy
    · decide
    rcases List.mem_append.1 hy with hy | hy
    · exact iT_lt _ _ (by decide) y hy
    rcases List.mem_append.1 hy with hy | hy
    · exact iT_lt _ _ (by decide) y hy
    · simp at hy; omega
  · intro y hy
    rcases List.mem_cons.1 hy with rfl | hy
    · decide
    rcases List.mem_append.1 hy with hy | hy
    · exact out_lt s y hy
    rcases List.mem_append.1 hy with hy | hy
    · exact iT_lt _ _ (by decide) y hy
    rcases List.mem_append.1 hy with hy | hy
    · exact iT_lt _ _ (by decide) y hy
    · simp at hy; omega
theorem runs_txt_len (rs : List (Nat × Nat)) : (rs.flatMap runT).length ≤ 3 * rs.length := by
  induction rs with
  | nil => simp
  | cons r rs ih =>
    have : (runT r).length ≤ 3 := by
      unfold runT; split <;> split <;> simp
    rw [List.flatMap_cons, List.length_append, List.length_cons]; omega
theorem text_len (s : BitVec 256) : (textT s).length ≤ 800 := by
  have h1 := iT_len (s.getLsbD 93) 93
  have h2 := iT_len (s.getLsbD 91) 91
  have h3 := iT_len (s.getLsbD 94) 94
  have h4 := iT_len (s.getLsbD 45) 45
  have h5 := runs_txt_len (rsOf (s &&& ~~~fourS))
  have h6 := rsOf_len (s &&& ~~~fourS)
  unfold textT
  refine ite_ok (fun L : List Nat => L.length ≤ 800) (fun _ => by decide) (fun _ => ?_)
  refine ite_ok (fun L : List Nat => L.length ≤ 800) (fun _ => by decide) (fun _ => ?_)
  refine ite_ok (fun L : List Nat => L.length ≤ 800) (fun _ => ?_) (fun _ => ?_)
  · simp only [List.length_cons, List.length_append, List.length_nil]; omega
  · simp only [outT, midT, List.length_cons, List.length_append, List.length_nil]; omega
theorem text_nil (s : BitVec 256) : textT s = [] ↔ s = range 94 94 := by
  constructor
  · intro h
    unfold textT at h
    by_cases h0 : s = 0
    · rw [if_pos h0] at h; simp at h
    · rw [if_neg h0] at h
      by_cases h1 : s = range 94 94
      · exact h1
      · rw [if_neg h1] at h
        split at h <;> simp at h
  · intro h
    unfold textT
    rw [if_neg (by rw [h]; decide +kernel), if_pos h]
theorem readR_back (a b : ByteArray) (s : BitVec 256) (hs : s ≠ range 94 94) : readR (a ++ ofT (textT s) ++ b) a.size = (s, a.size + (textT s).length, 0, 0) :=
  readR_text _ _ s hs (lies_mid a b _ (text_lt s))
end Go.Proofs.YtbccojjcdcighaaGreatDoor

namespace Go.Proofs.YtbccojjcdcighaaGreatDoor
open Go.RowKit BS
theorem brkW_end (s : ByteArray) (a : Nat) (h : a < s.size) (hb : bt s a = 91) : EndW s a (brkW s a) := by
  unfold brkW
  rcases readR_end s a with ⟨_, h' | h' | h'⟩ | ⟨_, _, _, hE⟩
  · omega
  · rw [show (a : Int).toNat = a from rfl] at h'; omega
  · rw [show (a : Int).toNat = a from rfl] at h'; exact absurd hb h'
  rw [show (a : Int).toNat = a from rfl] at hE
  generalize readR s a = R at *
  obtain ⟨t, p, e, k⟩ := R
  simp only at hE ⊢
  rcases hE with ⟨rfl, rfl, g1, g2⟩ | ⟨g1, g2, _, _, g3, g4, g5⟩
  · exact .inl ⟨rfl, rfl, .inl ⟨rfl, rfl, rfl⟩, rfl, g1, g2⟩
  · rw [if_pos g1]
    exact .inr ⟨g1, g2, rfl, g3, g4, g5⟩
theorem nextA_end (s : ByteArray) (a : Nat) (h : a < s.size) : EndW s a (nextA s a) := by
  unfold nextA
  by_cases h1 : bt s a = 40
  · rw [if_pos h1]; exact .inl ⟨rfl, rfl, .inr (.inl ⟨.inl rfl, rfl, rfl, rfl⟩), rfl, by simp only; omega, by simp only; omega⟩
  rw [if_neg h1]
  by_cases h2 : bt s a = 41
  · rw [if_pos h2]; exact .inl ⟨rfl, rfl, .inr (.inl ⟨.inr (.inl rfl), rfl, rfl, rfl⟩), rfl, by simp only; omega, by simp only; omega⟩
  rw [if_neg h2]
  by_cases h3 : bt s a = 124
  · rw [if_pos h3]; exact .inl ⟨rfl, rfl, .inr (.inl ⟨.inr (.inr rfl), rfl, rfl, rfl⟩), rfl, by simp only; omega, by simp only; omega⟩
  rw [if_neg h3]
  by_cases h4 : bt s a = 42 ∨ bt s a = 43 ∨ bt s a = 63 ∨ bt s a = 123
  · rw [if_pos h4]; exact cntW_end s a h h4
  rw [if_neg h4]
  by_cases h5 : bt s a = 91
  · rw [if_pos h5]; exact brkW_end s a h h5
  rw [if_neg h5]
  have one : ∀ t e, a < e → e ≤ s.size → EndW s a (oneW t a e, 0, 0) := fun t e h1 h2 => .inl ⟨rfl, rfl, .inl ⟨rfl, rfl, rfl⟩, rfl, h1, h2⟩
  by_cases h6 : bt s a = 46
  · rw [if_pos h6]; exact one _ _ (by omega) (by omega)
  rw [if_neg h6]
  by_cases h7 : bt s a = 94 ∨ bt s a = 36
  · rw [if_pos h7]; exact .inr ⟨(fun h => by cases h), (fun h => by cases h), rfl, by simp only; omega, by simp only; omega, fun h => by cases h⟩
  rw [if_neg h7]
  by_cases h8 : bt s a = 92
  · rw [if_pos h8]
    unfold slashW
    by_cases h9 : s.size ≤ a + 1
    · rw [if_pos h9]; exact .inr ⟨(fun h => by cases h), (fun h => by cases h), rfl, h, Nat.le_refl _, fun _ => rfl⟩
    rw [if_neg h9]
    by_cases h10 : four14 (bt s (a + 1)) = false
    · rw [if_pos h10]; exact .inr ⟨(fun h => by cases h), (fun h => by cases h), rfl, by simp only; omega, by simp only; omega, fun h => by cases h⟩
    · rw [if_neg h10]; exact one _ _ (by omega) (by omega)
  · rw [if_neg h8]; exact one _ _ (by omega) (by omega)
def shN (d : Nat) (r : Nat × Int × Nat × Nat × Nat) : Nat × Int × Nat × Nat × Nat := if r.2.2.2.1 = 0 then (r.1, r.2.1, r.2.2.1 + d, 0, 0) else (0, 0, 0, r.2.2.2.1, r.2.2.2.2 + d)
theorem bt_off (p s : ByteArray) (i : Nat) : bt (p ++ s) (p.size + i) = bt s i := by rw [bt_app, if_neg (by omega), show p.size + i - p.size = i by omega]
theorem runN_shift (p s : ByteArray) : ∀ k i st, runN (p ++ s) k (p.size + i) st = shN p.size (runN s k i st)
  | 0, i, st => by
    show ((0, 0, 0, 2, (p ++ s).size) : Nat × Int × Nat × Nat × Nat) = (0, 0, 0, 2, s.size + p.size)
    rw [ByteArray.size_append, Nat.add_comm]
  | k + 1, i, st => by
    rw [runN, runN, bt_off]
    cases hs : stepN st (bt s i) with
    | bad e =>
      have he := stepN_bad _ _ _ hs
      simp only [shN]
      rw [if_neg (by omega), show p.size + i + 1 = i + 1 + p.size by omega]
    | fin n m => simp only [shN, if_true]; rw [show p.size + i + 1 = i + 1 + p.size by omega]
    | on st' => simp only; exact runN_shift p s k (i + 1) st'
theorem readN_shift (p s : ByteArray) (a : Nat) (h : a < s.size) (hne : (readN s a).2.2.2.1 ≠ 1) : readN (p ++ s) ((p.size + a : Nat) : Int) = shN p.size (readN s a) := by
  have hz : (p ++ s).size = p.size + s.size := ByteArray.size_append
  unfold readN at hne ⊢
  rw [if_neg (by omega), show (a : Int).toNat = a from rfl] at hne
  rw [if_neg (by omega), if_neg (by omega), show ((p.size + a : Nat) : Int).toNat = p.size + a from rfl, show (a : Int).toNat = a from rfl]
  unfold signN at hne ⊢
  rw [bt_off]
  by_cases h1 : bt s a = 42
  · rw [if_pos h1, if_pos h1]; simp only [shN, if_true]; rw [show p.size + a + 1 = a + 1 + p.size by omega]
  rw [if_neg h1, if_neg h1]
  by_cases h2 : bt s a = 43
  · rw [if_pos h2, if_pos h2]; simp only [shN, if_true]; rw [show p.size + a + 1 = a + 1 + p.size by omega]
  rw [if_neg h2, if_neg h2]
  by_cases h3 : bt s a = 63
  · rw [if_pos h3, if_pos h3]; simp only [shN, if_true]; rw [show p.size + a + 1 = a + 1 + p.size by omega]
  rw [if_neg h3, if_neg h3]
  by_cases h4 : bt s a = 123
  · rw [if_pos h4, if_pos h4]
    unfold bracesN
    rw [hz, show p.size + s.size - (p.size + a + 1) = s.size - (a + 1) by omega, show p.size + a + 1 = p.size + (a + 1) by omega]
    exact runN_shift p s _ _ _
  · rw [if_neg h1, if_neg h2, if_neg h3, if_neg h4] at hne; exact absurd rfl hne
theorem agrApp (s l : ByteArray) (n : Nat) (h : n ≤ s.size) : Agr n s (s ++ l) := ⟨h, by rw [ByteArray.size_append]; omega, fun i hi => by rw [bt_app, if_pos (by omega)]⟩
theorem readN_back (p q : ByteArray) (n : Nat) (m : Int) (h : rightN n m = true) :
    textN n m ≠ [] ∧ readN (p ++ ofT (textN n m) ++ q) p.size = (n, m, p.size + (textN n m).length, 0, 0) := by
  obtain ⟨h1, N, hN, h2⟩ := back_read n m h
  obtain rfl : n = N := by omega
  refine ⟨h1, ?_⟩
  have hl : 0 < (textN n m).length := List.length_pos_iff.2 h1
  have e1 : readN (ofT (textN n m) ++ q) 0 = (n, m, (textN n m).length, 0, 0) := by
    rw [← h2]
    refine readN_agr _ _ 0 (by rw [h2]; exact fun h => by cases h) (by rw [h2]; exact fun h => by cases h) ?_
    rw [h2]
    exact agrApp _ _ _ (by rw [size_ofT]; exact Nat.le_refl _)
  rw [ByteArray.append_assoc]
  have hlt : 0 < (ofT (textN n m) ++ q).size := by rw [ByteArray.size_append, size_ofT]; omega
  have e2 := readN_shift p (ofT (textN n m) ++ q) 0 hlt (by rw [show ((0 : Nat) : Int) = 0 from rfl, e1]; exact fun h => by cases h)
  rw [show ((0 : Nat) : Int) = 0 from rfl, e1] at e2
  rw [show p.size + 0 = p.size from rfl] at e2
  rw [e2]
  simp only [shN, if_true]
  rw [Nat.add_comm]
theorem allN_more (s : ByteArray) (k a : Nat) (acc : List WN) (w : WN) (h : a < s.size) (hn : nextA s a = (w, 0, 0)) : allN s (k + 1) a acc = allN s k w.fin (acc ++ [w]) := by
  rw [allN, if_neg (by omega), hn]; rfl
theorem allN_end (s : ByteArray) (k : Nat) (acc : List WN) : allN s (k + 1) s.size acc = (acc, 0, 0) := by
  rw [allN, if_pos (Nat.le_refl _)]
end Go.Proofs.YtbccojjcdcighaaGreatDoor

namespace Go.Proofs.YtbccojjcdcighaaGreatDoor
open Go.RowKit BS
structure PS where
  l : List NdN
  st : List (Nat × Nat)
  groups : Nat
def nd1 : NdN := ⟨1, 0, 0, 0, 0⟩
def nd5 (n : Nat) : NdN := ⟨5, n, 0, 0, 0⟩
def nd6 (n : Nat) : NdN := ⟨6, n, 0, 0, 0⟩
def rowT (n : Nat) : List NdN := if n = 0 then [nd1] else if n = 1 then [] else [nd5 n]
def rowsT (r : Nat) : List NdN := if 1 < r then [nd6 r] else []
def rowP (x : PS) : PS := match x.st with
  | (n, r) :: st => ⟨x.l ++ rowT n, (0, r + 1) :: st, x.groups⟩
  | [] => x
def rowsP (x : PS) : PS := match x.st with
  | (n, r) :: st => ⟨x.l ++ rowT n ++ rowsT (r + 1), st, x.groups⟩
  | [] => x
def bumpP : List (Nat × Nat) → List (Nat × Nat)
  | (n, r) :: st => (n + 1, r) :: st
  | [] => []
def firstP (x : PS) (b : Nat) : Nat := match x.st with
  | (n, _) :: st =>
    if b = 42 ∨ b = 43 ∨ b = 63 ∨ b = 123 then (if n = 0 then 7 else 0)
    else if b = 41 then (if st = [] then 8 else 0)
    else if b = 40 then (if x.groups = 9 then 9 else 0) else 0
  | [] => 0
def takeP (x : PS) (w : WN) : PS :=
  if w.kind = 1 then ⟨x.l ++ [⟨2, 0, 0, 0, w.set⟩], bumpP x.st, x.groups⟩
  else if w.kind = 2 then ⟨x.l, (0, 0) :: x.st, x.groups + 1⟩
  else if w.kind = 3 then ⟨(rowsP x).l ++ [ndG], bumpP (rowsP x).st, x.groups⟩
  else if w.kind = 4 then rowP x
  else if w.kind = 5 then ⟨x.l ++ [⟨4, 1, w.n, w.m, 0⟩], x.st, x.groups⟩
  else x
def zPS : PS := ⟨[], [], 0⟩
def readP (s : ByteArray) : Nat → Nat → PS → PS × Nat × Nat × Nat
  | 0, _, _ => (zPS, 0, 0, 0)
  | k + 1, a, x =>
    if s.size ≤ a then (if 1 < x.st.length then (zPS, x.st.length - 1, 2, s.size) else (rowsP x, 0, 0, 0))
    else if firstP x (bt s a) ≠ 0 then (zPS, 0, firstP x (bt s a), a + 1)
    else match nextA s a with
      | (w, e, p) => if e ≠ 0 then (zPS, 0, e, p) else readP s k w.fin (takeP x w)
def sPS : PS := ⟨[], [(0, 0)], 0⟩
def parseN (s : ByteArray) : PS × Nat × Nat × Nat := readP s (s.size + 1) 0 sPS
def Lv : List (Nat × Nat) → List Int → Prop
  | [], ks => ks = []
  | (n, r) :: st, ks => ∃ p q rest, ks = p ++ (q ++ rest) ∧ p.length = n ∧ q.length = r ∧ (∀ k ∈ p, pieceF k = true) ∧ (∀ k ∈ q, (k != 6) = true) ∧ Lv st rest
theorem piece_not6 (k : Int) (h : pieceF k = true) : (k != 6) = true := by
  unfold pieceF at h
  simp at h
  rw [bne_iff_ne]
  omega
theorem row_inv (l : List NdN) (ks : List Int) (n r : Nat) (st : List (Nat × Nat)) (h : kstF [] l = some ks) (hL : Lv ((n, r) :: st) ks) : ∃ ks', kstF [] (l ++ rowT n) = some ks' ∧ Lv ((0, r + 1) :: st) ks' := by
  obtain ⟨p, q, rest, rfl, hp, hq, h1, h2, h3⟩ := hL
  unfold rowT
  by_cases h0 : n = 0
  · subst h0
    obtain rfl : p = [] := List.eq_nil_of_length_eq_zero hp
    rw [if_pos rfl, kstF_snoc l nd1 [] _ h]
    refine ⟨1 :: (q ++ rest), ?_, [], 1 :: q, rest, rfl, rfl, by rw [List.length_cons, hq], fun k hk => by simp at hk, fun k hk => ?_, h3⟩
    · unfold stepK
      rw [if_pos ⟨by decide, by decide, Nat.zero_le _, rfl⟩]
      rfl
    · rcases List.mem_cons.1 hk with rfl | hk
      · decide
      · exact h2 k hk
  rw [if_neg h0]
  by_cases hn1 : n = 1
  · subst hn1
    rw [if_pos rfl, List.append_nil]
    refine ⟨_, h, [], p ++ q, rest, by rw [List.nil_append, List.append_assoc], rfl, by rw [List.length_append, hp, hq]; omega, fun k hk => by simp at hk, fun k hk => ?_, h3⟩
    rcases List.mem_append.1 hk with hk | hk
    · exact piece_not6 k (h1 k hk)
    · exact h2 k hk
  rw [if_neg hn1, kstF_snoc l (nd5 n) [] _ h]
  refine ⟨5 :: (q ++ rest), ?_, [], 5 :: q, rest, rfl, rfl, by rw [List.length_cons, hq], fun k hk => by simp at hk, fun k hk => ?_, h3⟩
  · unfold stepK
    have hk : (nd5 n).kids.toNat = n := rfl
    have ht : (p ++ (q ++ rest)).take n = p := by rw [List.take_left' hp]
    have hd : (p ++ (q ++ rest)).drop n = q ++ rest := by rw [List.drop_left' hp]
    have hA : nodeF (nd5 n) = true := by
      unfold nodeF nd5
      simp <;> omega
    have hB : (0 : Int) ≤ (nd5 n).kids := by
      show (0 : Int) ≤ (n : Int)
      omega
    have hC : n ≤ (p ++ (q ++ rest)).length := by rw [List.length_append]; omega
    have hD : (p.all fun k => kidF (nd5 n).kind k) = true := by
      rw [List.all_eq_true]
      intro k hk
      show kidF 5 k = true
      unfold kidF
      rw [if_neg (by decide), if_pos (.inr rfl)]
      exact h1 k hk
    rw [hk, ht, hd, if_pos ⟨hA, hB, hC, hD⟩]
    rfl
  · rcases List.mem_cons.1 hk with rfl | hk
    · decide
    · exact h2 k hk
theorem rows_inv (l : List NdN) (ks : List Int) (n r : Nat) (st : List (Nat × Nat)) (h : kstF [] l = some ks) (hL : Lv ((n, r) :: st) ks) : ∃ k rest, kstF [] (l ++ rowT n ++ rowsT (r + 1)) = some (k :: rest) ∧ Lv st rest := by
  obtain ⟨ks', h1, p, q, rest, rfl, hp, hq, _, g2, g3⟩ := row_inv l ks n r st h hL
  obtain rfl : p = [] := List.eq_nil_of_length_eq_zero hp
  rw [List.nil_append] at h1
  unfold rowsT
  by_cases hr : 1 < r + 1
  · rw [if_pos hr, kstF_snoc _ (nd6 (r + 1)) [] _ h1]
    refine ⟨6, rest, ?_, g3⟩
    unfold stepK
    have hk : (nd6 (r + 1)).kids.toNat = r + 1 := rfl
    have ht : (q ++ rest).take (r + 1) = q := by rw [List.take_left' hq]
    have hd : (q ++ rest).drop (r + 1) = rest := by rw [List.drop_left' hq]
    have hA : nodeF (nd6 (r + 1)) = true := by
      unfold nodeF nd6
      simp <;> omega
    have hB : (0 : Int) ≤ (nd6 (r + 1)).kids := by
      show (0 : Int) ≤ ((r + 1 : Nat) : Int)
      omega
    have hC : r + 1 ≤ (q ++ rest).length := by rw [List.length_append]; omega
    have hD : (q.all fun k => kidF (nd6 (r + 1)).kind k) = true := by
      rw [List.all_eq_true]
      intro k hk
      show kidF 6 k = true
      unfold kidF
      rw [if_neg (by decide), if_neg (by decide), if_pos rfl]
      exact g2 k hk
    rw [hk, ht, hd, if_pos ⟨hA, hB, hC, hD⟩]
    rfl
  · rw [if_neg hr, List.append_nil, h1]
    obtain ⟨k, rfl⟩ := List.length_eq_one_iff.1 (show q.length = 1 by omega)
    exact ⟨k, rest, rfl, g3⟩
theorem lv_bump (k : Int) (hk : pieceF k = true) (st : List (Nat × Nat)) (hne : st ≠ []) (ks : List Int) (h : Lv st ks) : Lv (bumpP st) (k :: ks) := by
  obtain _ | ⟨⟨n, r⟩, st⟩ := st
  · exact absurd rfl hne
  · obtain ⟨p, q, rest, rfl, hp, hq, h1, h2, h3⟩ := h
    refine ⟨k :: p, q, rest, rfl, by rw [List.length_cons, hp], hq, fun y hy => ?_, h2, h3⟩
    rcases List.mem_cons.1 hy with rfl | hy
    · exact hk
    · exact h1 y hy
def g3 (l : List NdN) : Nat := (l.map NdN.kind).countP (· == 3)
theorem g3_app (l m : List NdN) : g3 (l ++ m) = g3 l + g3 m := by unfold g3; rw [List.map_append, List.countP_append]
theorem g3_row (n : Nat) : g3 (rowT n) = 0 := by
  unfold rowT
  by_cases h : n = 0
  · rw [if_pos h]; rfl
  · rw [if_neg h]
    by_cases h1 : n = 1
    · rw [if_pos h1]; rfl
    · rw [if_neg h1]; rfl
theorem g3_rows (n : Nat) : g3 (rowsT n) = 0 := by unfold rowsT; split <;> rfl
def PInv (x : PS) : Prop := x.st ≠ [] ∧ (∃ ks, kstF [] x.l = some ks ∧ Lv x.st ks) ∧ g3 x.l + x.st.length = x.groups + 1 ∧ x.groups ≤ 9
theorem sPS_inv : PInv sPS := ⟨by decide, ⟨[], rfl, [], [], [], rfl, rfl, rfl, fun k hk => by simp at hk, fun k hk => by simp at hk, rfl⟩, rfl, by decide⟩
theorem take_inv (s : ByteArray) (a : Nat) (x : PS) (w : WN) (h : PInv x) (hf : firstP x (bt s a) = 0) (hok : OkW w)
    (hk2 : w.kind = 2 → bt s a = 40) (hk3 : w.kind = 3 → bt s a = 41) (hk5 : w.kind = 5 → bt s a = 42 ∨ bt s a = 43 ∨ bt s a = 63 ∨ bt s a = 123) : PInv (takeP x w) := by
  obtain ⟨hne, ⟨ks, h1, h2⟩, h3, h4⟩ := h
  obtain ⟨l, st, gr⟩ := x
  obtain _ | ⟨⟨n, r⟩, st⟩ := st
  · exact absurd rfl hne
  unfold takeP
  by_cases c1 : w.kind = 1
  · rw [if_pos c1]
    refine ⟨by simp [bumpP], ⟨2 :: ks, ?_, lv_bump 2 (by decide) _ hne ks h2⟩, ?_, h4⟩
    · rw [kstF_snoc l _ [] _ h1]
      unfold stepK
      rw [if_pos ⟨by unfold nodeF; simp, by show (0 : Int) ≤ 0; decide, Nat.zero_le _, rfl⟩]
      rfl
    · rw [g3_app]
      simp only [bumpP, List.length_cons] at h3 ⊢
      have : g3 [⟨2, 0, 0, 0, w.set⟩] = 0 := rfl
      omega
  rw [if_neg c1]
  by_cases c2 : w.kind = 2
  · rw [if_pos c2]
    have hb := hk2 c2
    have hg : gr ≠ 9 := fun h9 => by
      unfold firstP at hf
      simp only at hf
      rw [if_neg (by omega), if_neg (by omega), if_pos hb, if_pos h9] at hf
      cases hf
    simp only at h4
    refine ⟨by simp, ⟨ks, h1, [], [], ks, rfl, rfl, rfl, fun k hk => by simp at hk, fun k hk => by simp at hk, h2⟩, ?_, by simp only; omega⟩
    simp only [List.length_cons] at h3 ⊢
    omega
  rw [if_neg c2]
  by_cases c3 : w.kind = 3
  · rw [if_pos c3]
    have hb := hk3 c3
    have hst : st ≠ [] := fun hs => by
      unfold firstP at hf
      simp only at hf
      rw [if_neg (by omega), if_pos hb, if_pos hs] at hf
      cases hf
    obtain ⟨k, rest, g1, g2⟩ := rows_inv l ks n r st h1 h2
    refine ⟨?_, ⟨3 :: rest, ?_, lv_bump 3 (by decide) st hst rest g2⟩, ?_, h4⟩
    · show bumpP st ≠ []
      obtain _ | ⟨⟨n', r'⟩, st'⟩ := st
      · exact absurd rfl hst
      · simp [bumpP]
    · show kstF [] (l ++ rowT n ++ rowsT (r + 1) ++ [ndG]) = _
      rw [kstF_snoc _ ndG [] _ g1]
      unfold stepK
      rw [if_pos ⟨by decide, by decide, by simp [ndG], rfl⟩]
      rfl
    · show g3 (l ++ rowT n ++ rowsT (r + 1) ++ [ndG]) + (bumpP st).length = gr + 1
      rw [g3_app, g3_app, g3_app, g3_row, g3_rows]
      have : g3 [ndG] = 1 := rfl
      have hbl : (bumpP st).length = st.length := by
        obtain _ | ⟨⟨n', r'⟩, st'⟩ := st
        · rfl
        · rfl
      simp only [List.length_cons] at h3
      omega
  rw [if_neg c3]
  by_cases c4 : w.kind = 4
  · rw [if_pos c4]
    obtain ⟨ks', g1, g2⟩ := row_inv l ks n r st h1 h2
    refine ⟨by simp [rowP], ⟨ks', g1, g2⟩, ?_, h4⟩
    show g3 (l ++ rowT n) + ((0, r + 1) :: st).length = gr + 1
    rw [g3_app, g3_row]
    simp only [List.length_cons] at h3 ⊢
    omega
  rw [if_neg c4]
  by_cases c5 : w.kind = 5
  · rw [if_pos c5]
    have hb := hk5 c5
    have hn : n ≠ 0 := fun h0 => by
      unfold firstP at hf
      simp only at hf
      rw [if_pos hb, if_pos h0] at hf
      cases hf
    obtain ⟨p, q, rest, rfl, hp, hq, g1, g2, g3'⟩ := h2
    obtain _ | ⟨k, p⟩ := p
    · simp at hp; omega
    have hr : rightN w.n w.m = true := by
      rcases hok with h | h | h
      · omega
      · omega
      · exact h.2.2
    refine ⟨by simp, ⟨4 :: (p ++ (q ++ rest)), ?_, 4 :: p, q, rest, rfl, hp, hq, fun y hy => ?_, g2, g3'⟩, ?_, h4⟩
    · rw [kstF_snoc l _ [] _ h1]
      unfold stepK
      have hA : nodeF ⟨4, 1, w.n, w.m, 0⟩ = true := by
        unfold nodeF
        simp [hr]
      have hD : (([k] : List Int).all fun y => kidF 4 y) = true := by
        have := g1 k (List.mem_cons_self ..)
        simp only [List.all_cons, List.all_nil, Bool.and_true]
        unfold kidF
        rw [if_neg (by decide), if_pos (.inl rfl)]
        exact this
      rw [if_pos ⟨hA, by show (0 : Int) ≤ 1; decide, by simp, hD⟩]
      rfl
    · rcases List.mem_cons.1 hy with rfl | hy
      · decide
      · exact g1 y (List.mem_cons_of_mem _ hy)
    · rw [g3_app]
      have : g3 [⟨4, 1, w.n, w.m, 0⟩] = 0 := rfl
      simp only at h3 ⊢
      omega
  · rw [if_neg c5]
    exact ⟨hne, ⟨ks, h1, h2⟩, h3, h4⟩
end Go.Proofs.YtbccojjcdcighaaGreatDoor

namespace Go.Proofs.YtbccojjcdcighaaGreatDoor
open Go.RowKit BS
theorem next_kinds (s : ByteArray) (a : Nat) (w : WN) (h : nextA s a = (w, 0, 0)) : (w.kind = 2 → bt s a = 40) ∧ (w.kind = 3 → bt s a = 41) ∧ (w.kind = 5 → bt s a = 42 ∨ bt s a = 43 ∨ bt s a = 63 ∨ bt s a = 123) := by
  have one : ∀ (t : BitVec 256) (p q : Nat), (oneW t p q, 0, 0) = (w, (0 : Nat), (0 : Nat)) → w.kind = 1 := fun t p q h => by
    have := (Prod.mk.inj h).1; rw [← this]; rfl
  unfold nextA at h
  by_cases h1 : bt s a = 40
  · rw [if_pos h1] at h
    have := (Prod.mk.inj h).1
    subst this
    exact ⟨fun _ => h1, (fun h => by cases h), (fun h => by cases h)⟩
  rw [if_neg h1] at h
  by_cases h2 : bt s a = 41
  · rw [if_pos h2] at h
    have := (Prod.mk.inj h).1
    subst this
    exact ⟨(fun h => by cases h), fun _ => h2, (fun h => by cases h)⟩
  rw [if_neg h2] at h
  by_cases h3 : bt s a = 124
  · rw [if_pos h3] at h
    have := (Prod.mk.inj h).1
    subst this
    exact ⟨(fun h => by cases h), (fun h => by cases h), (fun h => by cases h)⟩
  rw [if_neg h3] at h
  by_cases h4 : bt s a = 42 ∨ bt s a = 43 ∨ bt s a = 63 ∨ bt s a = 123
  · rw [if_pos h4] at h
    unfold cntW at h
    generalize readN s a = R at h
    obtain ⟨n, m, p, e, k⟩ := R
    simp only at h
    by_cases he : e ≠ 0
    · rw [if_pos he] at h
      exact absurd (Prod.mk.inj (Prod.mk.inj h).2).1 he
    · rw [if_neg he] at h
      have := (Prod.mk.inj h).1
      subst this
      exact ⟨(fun h => by cases h), (fun h => by cases h), fun _ => h4⟩
  rw [if_neg h4] at h
  have key : w.kind = 1 := by
    by_cases h5 : bt s a = 91
    · rw [if_pos h5] at h
      unfold brkW at h
      generalize readR s a = R at h
      obtain ⟨t, p, e, k⟩ := R
      simp only at h
      by_cases he : e ≠ 0
      · rw [if_pos he] at h
        exact absurd (Prod.mk.inj (Prod.mk.inj h).2).1 he
      · rw [if_neg he] at h
        exact one _ _ _ h
    rw [if_neg h5] at h
    by_cases h6 : bt s a = 46
    · rw [if_pos h6] at h
      exact one _ _ _ h
    rw [if_neg h6] at h
    by_cases h7 : bt s a = 94 ∨ bt s a = 36
    · rw [if_pos h7] at h
      cases (Prod.mk.inj (Prod.mk.inj h).2).1
    rw [if_neg h7] at h
    by_cases h8 : bt s a = 92
    · rw [if_pos h8] at h
      unfold slashW at h
      by_cases h9 : s.size ≤ a + 1
      · rw [if_pos h9] at h
        cases (Prod.mk.inj (Prod.mk.inj h).2).1
      rw [if_neg h9] at h
      by_cases h10 : four14 (bt s (a + 1)) = false
      · rw [if_pos h10] at h
        cases (Prod.mk.inj (Prod.mk.inj h).2).1
      · rw [if_neg h10] at h
        exact one _ _ _ h
    · rw [if_neg h8] at h
      exact one _ _ _ h
  exact ⟨fun h => by omega, fun h => by omega, fun h => by omega⟩
def kc (k : Int) (l : List NdN) : Nat := (l.map NdN.kind).countP (· == k)
theorem kc_app (k : Int) (l m : List NdN) : kc k (l ++ m) = kc k l + kc k m := by unfold kc; rw [List.map_append, List.countP_append]
def altN (l : List NdN) : Nat := (l.map fun x => if x.kind = 6 then x.kids.toNat - 1 else 0).sum
theorem altN_app (l m : List NdN) : altN (l ++ m) = altN l + altN m := by unfold altN; rw [List.map_append, List.sum_append]
def wc (k : Nat) (ws : List WN) : Nat := ws.countP fun w => w.kind == k
theorem wc_snoc (k : Nat) (ws : List WN) (w : WN) : wc k (ws ++ [w]) = wc k ws + if w.kind = k then 1 else 0 := by
  unfold wc
  rw [List.countP_append]
  simp [List.countP_cons]
def rowsN (st : List (Nat × Nat)) : Nat := (st.map (·.2)).sum
theorem rowsN_bump (st : List (Nat × Nat)) : rowsN (bumpP st) = rowsN st := by
  obtain _ | ⟨⟨n, r⟩, st⟩ := st <;> rfl
theorem kc_row (k : Int) (hk : k = 2 ∨ k = 3 ∨ k = 4) (n : Nat) : kc k (rowT n) = 0 := by
  unfold rowT
  by_cases h : n = 0
  · rw [if_pos h]; rcases hk with rfl | rfl | rfl <;> rfl
  · rw [if_neg h]
    by_cases h1 : n = 1
    · rw [if_pos h1]; rfl
    · rw [if_neg h1]; rcases hk with rfl | rfl | rfl <;> rfl
theorem kc_rows (k : Int) (hk : k = 2 ∨ k = 3 ∨ k = 4) (n : Nat) : kc k (rowsT n) = 0 := by
  unfold rowsT
  by_cases h : 1 < n
  · rw [if_pos h]; rcases hk with rfl | rfl | rfl <;> rfl
  · rw [if_neg h]; rfl
theorem altN_row (n : Nat) : altN (rowT n) = 0 := by
  unfold rowT
  by_cases h : n = 0
  · rw [if_pos h]; rfl
  · rw [if_neg h]
    by_cases h1 : n = 1
    · rw [if_pos h1]; rfl
    · rw [if_neg h1]; rfl
theorem altN_rows (r : Nat) : altN (rowsT (r + 1)) = r := by
  unfold rowsT
  by_cases h : 1 < r + 1
  · rw [if_pos h]
    show (r + 1 : Nat) - 1 + 0 = r
    omega
  · rw [if_neg h]
    show 0 = r
    omega
def CInv (x : PS) (ws : List WN) : Prop := kc 2 x.l = wc 1 ws ∧ kc 4 x.l = wc 5 ws ∧ x.groups = wc 2 ws ∧ kc 3 x.l = wc 3 ws ∧ altN x.l + rowsN x.st = wc 4 ws
theorem take_cnt (x : PS) (w : WN) (ws : List WN) (hne : x.st ≠ []) (h : CInv x ws) (hw : w.kind = 1 ∨ w.kind = 2 ∨ w.kind = 3 ∨ w.kind = 4 ∨ w.kind = 5) : CInv (takeP x w) (ws ++ [w]) := by
  obtain ⟨h1, h2, h3, h4, h5⟩ := h
  obtain ⟨l, st, gr⟩ := x
  obtain _ | ⟨⟨n, r⟩, st⟩ := st
  · exact absurd rfl hne
  simp only at h1 h2 h3 h4 h5
  have a2 := kc_row 2 (.inl rfl) n
  have a3 := kc_row 3 (.inr (.inl rfl)) n
  have a4 := kc_row 4 (.inr (.inr rfl)) n
  have b2 := kc_rows 2 (.inl rfl) (r + 1)
  have b3 := kc_rows 3 (.inr (.inl rfl)) (r + 1)
  have b4 := kc_rows 4 (.inr (.inr rfl)) (r + 1)
  have a5 := altN_row n
  have b5 := altN_rows r
  unfold CInv takeP
  simp only [wc_snoc]
  rcases hw with c | c | c | c | c
  · rw [if_pos c]
    simp only [kc_app, altN_app, rowsN_bump, c]
    refine ⟨?_, ?_, ?_, ?_, ?_⟩
    · rw [h1]; rfl
    · rw [h2]; rfl
    · rw [h3]; rfl
    · rw [h4]; rfl
    · rw [← h5]
      show altN l + 0 + _ = _ + 0
      omega
  · rw [if_neg (by omega), if_pos c]
    simp only [c]
    refine ⟨h1, h2, by rw [h3]; rfl, h4, ?_⟩
    rw [← h5]
    show altN l + (0 + rowsN ((n, r) :: st)) = _ + 0
    omega
  · rw [if_neg (by omega), if_neg (by omega), if_pos c]
    simp only [rowsP, kc_app, altN_app, rowsN_bump, c, a2, a3, a4, b2, b3, b4, a5, b5]
    have e2 : kc 2 [ndG] = 0 := rfl
    have e3 : kc 3 [ndG] = 1 := rfl
    have e4 : kc 4 [ndG] = 0 := rfl
    have e5 : altN [ndG] = 0 := rfl
    have e6 : rowsN ((n, r) :: st) = r + rowsN st := rfl
    rw [e2, e3, e4, e5]
    rw [e6] at h5
    refine ⟨by rw [h1]; rfl, by rw [h2]; rfl, by rw [h3]; rfl, by rw [h4]; rfl, ?_⟩
    rw [← h5]
    show _ = _ + 0
    omega
  · rw [if_neg (by omega), if_neg (by omega), if_neg (by omega), if_pos c]
    simp only [rowP, kc_app, altN_app, c, a2, a3, a4, a5]
    have e6 : rowsN ((n, r) :: st) = r + rowsN st := rfl
    have e7 : rowsN ((0, r + 1) :: st) = r + 1 + rowsN st := rfl
    rw [e6] at h5
    rw [e7]
    refine ⟨by rw [h1]; rfl, by rw [h2]; rfl, by rw [h3]; rfl, by rw [h4]; rfl, ?_⟩
    rw [← h5]
    show _ = _ + 1
    omega
  · rw [if_neg (by omega), if_neg (by omega), if_neg (by omega), if_neg (by omega), if_pos c]
    simp only [kc_app, altN_app, c]
    refine ⟨?_, ?_, ?_, ?_, ?_⟩
    · rw [h1]; rfl
    · rw [h2]; rfl
    · rw [h3]; rfl
    · rw [h4]; rfl
    · rw [← h5]
      show altN l + 0 + _ = _ + 0
      omega
theorem okW_kind (w : WN) (h : OkW w) : w.kind = 1 ∨ w.kind = 2 ∨ w.kind = 3 ∨ w.kind = 4 ∨ w.kind = 5 := by
  rcases h with h | h | h <;> omega
theorem readP_spec (s : ByteArray) : ∀ k a x ws, a ≤ s.size → s.size < k + a → PInv x → CInv x ws →
    ((readP s k a x).2.2.1 ≠ 0 ∧ (readP s k a x).1 = zPS ∧ (readP s k a x).2.2.2 ≤ s.size) ∨
    ((readP s k a x).2 = (0, 0, 0) ∧ rightR (readP s k a x).1.l = true ∧ ∃ wl, allN s k a ws = (wl, 0, 0) ∧ kc 2 (readP s k a x).1.l = wc 1 wl ∧ kc 4 (readP s k a x).1.l = wc 5 wl ∧ kc 3 (readP s k a x).1.l = wc 2 wl ∧ wc 2 wl = wc 3 wl ∧ altN (readP s k a x).1.l = wc 4 wl)
  | 0, a, x, ws, ha, hk, _, _ => by omega
  | k + 1, a, x, ws, ha, hk, hi, hc => by
    rw [readP]
    by_cases hend : s.size ≤ a
    · rw [if_pos hend]
      obtain rfl : a = s.size := by omega
      by_cases hop : 1 < x.st.length
      · rw [if_pos hop]
        exact .inl ⟨(by decide : (2 : Nat) ≠ 0), rfl, Nat.le_refl _⟩
      · rw [if_neg hop]
        obtain ⟨hne, ⟨ks, h1, h2⟩, h3, h4⟩ := hi
        obtain ⟨l, st, gr⟩ := x
        obtain _ | ⟨⟨n, r⟩, st⟩ := st
        · exact absurd rfl hne
        obtain rfl : st = [] := by
          cases st with
          | nil => rfl
          | cons _ _ => simp at hop
        obtain ⟨c, rest, g1, g2⟩ := rows_inv l ks n r [] h1 h2
        obtain rfl : rest = [] := g2
        obtain ⟨c1, c2, c3, c4, c5⟩ := hc
        simp only at c1 c2 c3 c4 c5 h3 h4
        have a2 := kc_row 2 (.inl rfl) n
        have a3 := kc_row 3 (.inr (.inl rfl)) n
        have a4 := kc_row 4 (.inr (.inr rfl)) n
        have b2 := kc_rows 2 (.inl rfl) (r + 1)
        have b3 := kc_rows 3 (.inr (.inl rfl)) (r + 1)
        have b4 := kc_rows 4 (.inr (.inr rfl)) (r + 1)
        have a5 := altN_row n
        have b5 := altN_rows r
        have e6 : rowsN [(n, r)] = r + 0 := rfl
        have hg : g3 l = kc 3 l := rfl
        rw [e6] at c5
        simp only [List.length_cons, List.length_nil] at h3
        refine .inr ⟨rfl, ?_, ws, allN_end s k ws, ?_, ?_, ?_, ?_, ?_⟩
        · refine kst_right _ c g1 ?_
          show kc 3 (l ++ rowT n ++ rowsT (r + 1)) ≤ 9
          rw [kc_app, kc_app, a3, b3]
          omega
        · show kc 2 (l ++ rowT n ++ rowsT (r + 1)) = _
          rw [kc_app, kc_app, a2, b2]
          omega
        · show kc 4 (l ++ rowT n ++ rowsT (r + 1)) = _
          rw [kc_app, kc_app, a4, b4]
          omega
        · show kc 3 (l ++ rowT n ++ rowsT (r + 1)) = _
          rw [kc_app, kc_app, a3, b3]
          omega
        · omega
        · show altN (l ++ rowT n ++ rowsT (r + 1)) = _
          rw [altN_app, altN_app, a5, b5]
          omega
    · rw [if_neg hend]
      have hlt : a < s.size := by omega
      by_cases hf : firstP x (bt s a) ≠ 0
      · rw [if_pos hf]
        exact .inl ⟨hf, rfl, by show a + 1 ≤ _; omega⟩
      · rw [if_neg hf]
        have hf0 : firstP x (bt s a) = 0 := Decidable.not_not.1 hf
        have hE := nextA_end s a hlt
        have hkd := next_kinds s a
        have hmore := allN_more s k a ws
        generalize nextA s a = X at *
        obtain ⟨w, e, p⟩ := X
        simp only
        rcases hE with ⟨e1, e2, e3, e4, e5, e6⟩ | ⟨e1, _, _, _, e5, _⟩
        · simp only at e1 e2 e3 e4 e5 e6
          subst e1 e2
          rw [if_neg (by decide), hmore w hlt rfl]
          obtain ⟨k2, k3, k5⟩ := hkd w rfl
          have hi2 := take_inv s a x w hi hf0 e3 k2 k3 k5
          exact readP_spec s k w.fin (takeP x w) (ws ++ [w]) e6 (by omega) hi2 (take_cnt x w ws hi.1 hc (okW_kind w e3))
        · simp only at e1 e5
          rw [if_pos e1]
          exact .inl ⟨e1, rfl, e5⟩
end Go.Proofs.YtbccojjcdcighaaGreatDoor

namespace Go.Proofs.YtbccojjcdcighaaGreatDoor
open Go.RowKit BS
end Go.Proofs.YtbccojjcdcighaaGreatDoor

namespace Go.Proofs.YtbccojjcdcighaaGreatDoor
open Go.RowKit BS
end Go.Proofs.YtbccojjcdcighaaGreatDoor

namespace Go.Proofs.YtbccojjcdcighaaGreatDoor
open Go.RowKit BS
theorem readP_fuel (s : ByteArray) : ∀ k k' a x, a ≤ s.size → s.size < k + a → s.size < k' + a → readP s k a x = readP s k' a x
  | 0, _, a, x, h, h1, _ => by omega
  | k + 1, 0, a, x, h, _, h2 => by omega
  | k + 1, k' + 1, a, x, h, h1, h2 => by
    rw [readP, readP]
    by_cases hend : s.size ≤ a
    · rw [if_pos hend, if_pos hend]
    rw [if_neg hend, if_neg hend]
    by_cases hf : firstP x (bt s a) ≠ 0
    · rw [if_pos hf, if_pos hf]
    rw [if_neg hf, if_neg hf]
    have hE := nextA_end s a (by omega)
    generalize nextA s a = X at *
    obtain ⟨w, e, p⟩ := X
    simp only
    rcases hE with ⟨e1, _, _, _, e5, e6⟩ | ⟨e1, _⟩
    · simp only at e1 e5 e6
      rw [if_neg (fun g => g e1), if_neg (fun g => g e1)]
      exact readP_fuel s k k' w.fin (takeP x w) e6 (by omega) (by omega)
    · simp only at e1
      rw [if_pos e1, if_pos e1]
end Go.Proofs.YtbccojjcdcighaaGreatDoor

namespace Go.Proofs.YtbccojjcdcighaaGreatDoor
open Go.RowKit BS
theorem bt_mid (p q : ByteArray) (T : List Nat) (hT : ∀ x ∈ T, x < 256) (i : Nat) (h : i < T.length) : bt (p ++ ofT T ++ q) (p.size + i) = T[i] := by
  rw [bt_app, if_pos (by rw [ByteArray.size_append, size_ofT]; omega), bt_off, bt_ofT T hT i h]
theorem size_mid (p q : ByteArray) (T : List Nat) : (p ++ ofT T ++ q).size = p.size + T.length + q.size := by rw [ByteArray.size_append, ByteArray.size_append, size_ofT]
theorem el_all (f : Nat → Bool) : ∀ k, (el f k).length = k → ∀ j, j < k → f j = true
  | 0, _, j, hj => by omega
  | k + 1, h, j, hj => by
    have hl : (el f k).length ≤ k := by unfold el; exact Nat.le_trans (List.length_filter_le _ _) (by simp)
    rw [el_succ] at h
    cases hf : f k with
    | false => rw [hf] at h; simp at h; omega
    | true =>
      rw [hf] at h
      simp at h
      by_cases hjk : j = k
      · subst hjk; exact hf
      · exact el_all f k h j (by omega)
theorem set_all (t : BitVec 256) (h : (el t.getLsbD 256).length = 256) : t = range 0 255 := by
  have := el_all _ 256 h
  apply BitVec.eq_of_getLsbD_eq
  intro j hj
  rw [this j hj, range, get_ofFn]
  simp
  omega
theorem set_one (t : BitVec 256) (b : Nat) (h : el t.getLsbD 256 = [b]) : b < 256 ∧ t = range b b := by
  have hm : ∀ j, j < 256 → (t.getLsbD j = true ↔ j = b) := fun j hj => by
    have : j ∈ el t.getLsbD 256 ↔ j = b := by rw [h]; simp
    rw [← this]
    unfold el
    simp [hj]
  have hb : b < 256 := by
    have : b ∈ el t.getLsbD 256 := by rw [h]; simp
    unfold el at this
    simp at this
    exact this.1
  refine ⟨hb, ?_⟩
  apply BitVec.eq_of_getLsbD_eq
  intro j hj
  rw [range, get_ofFn, Bool.eq_iff_iff, hm j hj]
  simp
  omega
theorem range94_one : (el (range 94 94).getLsbD 256).length = 1 := by decide +kernel
def BackT (t : BitVec 256) (T : List Nat) : Prop := T ≠ [] ∧ (∀ x ∈ T, x < 256) ∧ T.length ≤ 800 ∧ ∀ p q : ByteArray, nextA (p ++ ofT T ++ q) p.size = (oneW t p.size (p.size + T.length), 0, 0)
theorem next_byte (s : ByteArray) (a b : Nat) (h : bt s a = b) (hb : four14 b = false ∨ b = 93 ∨ b = 125) : nextA s a = (oneW (range b b) a (a + 1), 0, 0) := by
  have key : ∀ c, c ∈ [40, 41, 124, 42, 43, 63, 123, 91, 46, 94, 36, 92] → b ≠ c := by
    rintro c hc rfl
    rcases hb with hb | hb | hb
    · have h4 : ∀ x ∈ [40, 41, 124, 42, 43, 63, 123, 91, 46, 94, 36, 92], four14 x = true := by decide
      rw [h4 b hc] at hb; cases hb
    · subst hb; revert hc; decide
    · subst hb; revert hc; decide
  unfold nextA
  rw [h, if_neg (key 40 (by decide)), if_neg (key 41 (by decide)), if_neg (key 124 (by decide)),
    if_neg (fun h => by rcases h with h | h | h | h; exact key 42 (by decide) h; exact key 43 (by decide) h; exact key 63 (by decide) h; exact key 123 (by decide) h),
    if_neg (key 91 (by decide)), if_neg (key 46 (by decide)), if_neg (fun h => by rcases h with h | h; exact key 94 (by decide) h; exact key 36 (by decide) h), if_neg (key 92 (by decide))]
theorem next_slash (s : ByteArray) (a b : Nat) (h0 : bt s a = 92) (hz : a + 1 < s.size) (h1 : bt s (a + 1) = b) (hb : four14 b = true) : nextA s a = (oneW (range b b) a (a + 2), 0, 0) := by
  unfold nextA
  rw [h0, if_neg (by decide), if_neg (by decide), if_neg (by decide), if_neg (by decide), if_neg (by decide), if_neg (by decide), if_neg (by decide), if_pos rfl]
  unfold slashW
  rw [if_neg (by omega), h1, if_neg (by rw [hb]; decide)]
theorem back_set (t : BitVec 256) : BackT t (textW t) := by
  unfold textW
  by_cases h256 : (el t.getLsbD 256).length = 256
  · rw [if_pos h256]
    obtain rfl := set_all t h256
    refine ⟨by decide, by decide, by decide, fun p q => ?_⟩
    have hb : bt (p ++ ofT [46] ++ q) p.size = 46 := bt_mid p q [46] (by decide) 0 (by decide)
    unfold nextA
    rw [hb, if_neg (by decide), if_neg (by decide), if_neg (by decide), if_neg (by decide), if_neg (by decide), if_pos rfl]
    rfl
  rw [if_neg h256]
  by_cases h1 : (el t.getLsbD 256).length ≠ 1
  · rw [if_pos h1]
    have hn : t ≠ range 94 94 := by rintro rfl; exact h1 range94_one
    refine ⟨fun h => hn ((text_nil t).1 h), text_lt t, text_len t, fun p q => ?_⟩
    have hr := readR_back p q t hn
    have h91 : bt (p ++ ofT (textT t) ++ q) p.size = 91 := by
      rcases readR_end (p ++ ofT (textT t) ++ q) p.size with ⟨h, _⟩ | ⟨_, _, h, _⟩
      · rw [hr] at h; cases h
      · exact h
    unfold nextA
    rw [h91, if_neg (by decide), if_neg (by decide), if_neg (by decide), if_neg (by decide), if_pos rfl]
    unfold brkW
    rw [hr]
    rfl
  rw [if_neg h1]
  obtain ⟨b, hb⟩ : ∃ b, el t.getLsbD 256 = [b] := List.length_eq_one_iff.1 (Decidable.not_not.1 h1)
  obtain ⟨hlt, rfl⟩ := set_one t b hb
  rw [hb]
  simp only
  by_cases hf : four14 b = true ∧ b ≠ 93 ∧ b ≠ 125
  · rw [if_pos hf]
    refine ⟨by simp, by simp; omega, by simp, fun p q => ?_⟩
    have hT : ∀ x ∈ [92, b], x < 256 := by simp; omega
    exact next_slash _ p.size b (bt_mid p q [92, b] hT 0 (by simp)) (by rw [size_mid]; simp; omega) (bt_mid p q [92, b] hT 1 (by simp)) hf.1
  · rw [if_neg hf]
    refine ⟨by simp, by simp; omega, by simp, fun p q => ?_⟩
    have hT : ∀ x ∈ [b], x < 256 := by simp; omega
    refine next_byte _ p.size b (bt_mid p q [b] hT 0 (by simp)) ?_
    by_cases h4 : four14 b = true
    · right
      by_cases h93 : b = 93
      · exact .inl h93
      · exact .inr (Decidable.not_not.1 fun h => hf ⟨h4, h93, h⟩)
    · exact .inl (by simpa using h4)
def atW (w : WN) (p l : Nat) : WN := ⟨w.kind, p, p + l, w.set, w.n, w.m⟩
theorem textN_lt (n m : Int) (h : rightN n m = true) : (∀ x ∈ textN n m, x < 256) ∧ (textN n m).length ≤ 7 := by
  have hd : ∀ k, k ≤ 99 → (∀ x ∈ digL k, x < 256) ∧ (digL k).length ≤ 2 := fun k hk => by
    unfold digL
    split
    · simp; omega
    · simp; omega
  have hc : 0 ≤ n ∧ n ≤ 99 ∧ (m = -1 ∨ (n ≤ m ∧ m ≤ 99)) := by
    unfold rightN at h
    simp only [Bool.and_eq_true, Bool.or_eq_true, decide_eq_true_eq, beq_iff_eq] at h
    omega
  have h1 := hd n.toNat (by omega)
  have h2 : m ≠ -1 → _ := fun hm => hd m.toNat (by omega)
  unfold textN
  rw [if_neg (by rw [h]; decide)]
  split
  · simp
  split
  · simp
  split
  · simp
  split
  · refine ⟨fun x hx => ?_, by simp; omega⟩
    simp at hx
    rcases hx with rfl | hx | rfl
    · decide
    · exact h1.1 x hx
    · decide
  split
  · refine ⟨fun x hx => ?_, by simp; omega⟩
    simp at hx
    rcases hx with rfl | hx | rfl | rfl
    · decide
    · exact h1.1 x hx
    · decide
    · decide
  · rename_i hm
    have h2 := h2 hm
    refine ⟨fun x hx => ?_, by simp; omega⟩
    simp at hx
    rcases hx with rfl | hx | rfl | hx | rfl
    · decide
    · exact h1.1 x hx
    · decide
    · exact h2.1 x hx
    · decide
theorem back_word (w : WN) (hw : OkW w) : printW w ≠ [] ∧ (∀ x ∈ printW w, x < 256) ∧ (printW w).length ≤ 800 ∧ ∀ p q : ByteArray, nextA (p ++ ofT (printW w) ++ q) p.size = (atW w p.size (printW w).length, 0, 0) := by
  obtain ⟨k, a, e, t, n, m⟩ := w
  rcases hw with ⟨rfl, rfl, rfl⟩ | ⟨hk, rfl, rfl, rfl⟩ | ⟨rfl, rfl, hr⟩
  · exact back_set t
  · have key : ∀ c : Nat, ∀ k, c < 256 → (∀ s a, bt s a = c → nextA s a = (⟨k, a, a + 1, 0, 0, 0⟩, 0, 0)) → ([c] ≠ [] ∧ (∀ x ∈ [c], x < 256) ∧ [c].length ≤ 800 ∧ ∀ p q : ByteArray, nextA (p ++ ofT [c] ++ q) p.size = (⟨k, p.size, p.size + [c].length, 0, 0, 0⟩, 0, 0)) := fun c k hc h =>
      ⟨by simp, by simpa using hc, by simp, fun p q => h _ _ (bt_mid p q [c] (by simpa using hc) 0 (by simp))⟩
    simp only at hk
    rcases hk with rfl | rfl | rfl
    · exact key 40 2 (by decide) (fun s a h => by unfold nextA; rw [if_pos h])
    · exact key 41 3 (by decide) (fun s a h => by unfold nextA; rw [if_neg (by omega), if_pos h])
    · exact key 124 4 (by decide) (fun s a h => by unfold nextA; rw [if_neg (by omega), if_neg (by omega), if_pos h])
  · have hlt := textN_lt n m hr
    simp only at hr
    refine ⟨(readN_back eT eT n m hr).1, hlt.1, Nat.le_trans hlt.2 (by decide), fun p q => ?_⟩
    show nextA (p ++ ofT (textN n m) ++ q) p.size = (⟨5, p.size, p.size + (textN n m).length, 0, n, m⟩, 0, 0)
    have hb := (readN_back p q n m hr).2
    have hne := (readN_back p q n m hr).1
    have hl : 0 < (textN n m).length := List.length_pos_iff.2 hne
    have hz := size_mid p q (textN n m)
    have hfour : bt (p ++ ofT (textN n m) ++ q) p.size = 42 ∨ bt (p ++ ofT (textN n m) ++ q) p.size = 43 ∨ bt (p ++ ofT (textN n m) ++ q) p.size = 63 ∨ bt (p ++ ofT (textN n m) ++ q) p.size = 123 := by
      have hb2 := hb
      unfold readN at hb2
      rw [if_neg (by omega), show (p.size : Int).toNat = p.size from rfl] at hb2
      unfold signN at hb2
      by_cases g1 : bt (p ++ ofT (textN n m) ++ q) p.size = 42
      · exact .inl g1
      by_cases g2 : bt (p ++ ofT (textN n m) ++ q) p.size = 43
      · exact .inr (.inl g2)
      by_cases g3 : bt (p ++ ofT (textN n m) ++ q) p.size = 63
      · exact .inr (.inr (.inl g3))
      by_cases g4 : bt (p ++ ofT (textN n m) ++ q) p.size = 123
      · exact .inr (.inr (.inr g4))
      rw [if_neg g1, if_neg g2, if_neg g3, if_neg g4] at hb2
      cases hb2
    unfold nextA
    rw [if_neg (by omega), if_neg (by omega), if_neg (by omega), if_pos hfour]
    unfold cntW
    rw [hb]
    rfl
end Go.Proofs.YtbccojjcdcighaaGreatDoor

namespace Go.Proofs.YtbccojjcdcighaaGreatDoor
open Go.RowKit BS
@[reducible] def preA (s : ByteArray) (a : Int) (vN vL : Value) (g : Int) : Array Value := #[.string s, .int .i64 a, vN, vL, .int .i64 g]
def lvCells (st : List (Nat × Nat)) : List Value := st.flatMap fun x => [.int .i64 x.2, .int .i64 x.1]
theorem lvCells_app (l m : List (Nat × Nat)) : lvCells (l ++ m) = lvCells l ++ lvCells m := by simp [lvCells]
theorem lvCells_len (l : List (Nat × Nat)) : (lvCells l).length = l.length * 2 := by
  induction l with
  | nil => rfl
  | cons x l ih =>
    have e : lvCells (x :: l) = [.int .i64 x.2, .int .i64 x.1] ++ lvCells l := by simp [lvCells]
    rw [e, List.length_append, ih, List.length_cons]
    simp; omega
theorem lvCells_last (l : List (Nat × Nat)) (x : Nat × Nat) : (lvCells (l ++ [x]))[l.length * 2]? = some (.int .i64 x.2) ∧ (lvCells (l ++ [x]))[l.length * 2 + 1]? = some (.int .i64 x.1) := by
  rw [lvCells_app]
  constructor
  · rw [List.getElem?_append_right (by rw [lvCells_len]; omega), lvCells_len, Nat.sub_self]; rfl
  · rw [List.getElem?_append_right (by rw [lvCells_len]; omega), lvCells_len, show l.length * 2 + 1 - l.length * 2 = 1 by omega]; rfl
theorem lvCells_set0 (l : List (Nat × Nat)) (n r r' : Nat) : (lvCells (l ++ [(n, r)])).set (l.length * 2) (.int .i64 r') = lvCells (l ++ [(n, r')]) := by
  rw [lvCells_app, lvCells_app, List.set_append_right _ _ (by rw [lvCells_len]; omega), lvCells_len, Nat.sub_self]
  rfl
theorem lvCells_set1 (l : List (Nat × Nat)) (n n' r : Nat) : (lvCells (l ++ [(n, r)])).set (l.length * 2 + 1) (.int .i64 n') = lvCells (l ++ [(n', r)]) := by
  rw [lvCells_app, lvCells_app, List.set_append_right _ _ (by rw [lvCells_len]; omega), lvCells_len, show l.length * 2 + 1 - l.length * 2 = 1 by omega]
  rfl
theorem lvCells_take (l : List (Nat × Nat)) (x : Nat × Nat) : (lvCells (l ++ [x])).take (l.length * 2) = lvCells l := by
  rw [lvCells_app, ← lvCells_len l, List.take_left]
structure RdV (base R : Nat) (s : ByteArray) (a : Nat) (x : PS) (vN vL : Value) (w0 w : World) : Prop where
  blk : Blk w R (preA s a vN vL x.groups) 63
  nodes : w.ownsRow base 45 8 vN x.l.length (ndCells x.l)
  levels : w.ownsRow base 86 2 vL x.st.length (lvCells x.st.reverse)
  nR : vN.ownBlock ≠ some R
  lR : vL.ownBlock ≠ some R
  nl : vN.ownBlock = none ∨ vN.ownBlock ≠ vL.ownBlock
  bR : base ≤ R
  bel : Below base w0 w
theorem owns_lt {w : World} {base : Nat} {e : TypeId} {size : Nat} {v : Value} {n : Nat} {xs : List Value} (h : w.ownsRow base e size v n xs) {g : Nat} (hg : v.ownBlock = some g) : g < w.heap.size := (h.lt g hg).2
theorem owns_below {W W' : World} {base : Nat} {e : TypeId} {size : Nat} {v : Value} {n : Nat} {xs : List Value} (h : W.ownsRow base e size v n xs) (hb : Below W.heap.size W W') : W'.ownsRow base e size v n xs :=
  owns_keep h fun _ hg => hb.block _ (owns_lt h hg)
section
variable {base R : Nat} {s : ByteArray} {a : Nat} {x : PS} {vN vL : Value} {w0 w : World}
theorem RdV.below (h : RdV base R s a x vN vL w0 w) {w' : World} (hb : Below w.heap.size w w') : RdV base R s a x vN vL w0 w' :=
  ⟨h.blk.below hb h.blk.lt, owns_below h.nodes hb, owns_below h.levels hb, h.nR, h.lR, h.nl, h.bR, h.bel.trans (hb.mono (Nat.le_trans h.bR (Nat.le_of_lt h.blk.lt)))⟩
theorem RdV.size (h : RdV base R s a x vN vL w0 w) : base ≤ w.heap.size := Nat.le_trans h.bR (Nat.le_of_lt h.blk.lt)
theorem RdV.alloc (h : RdV base R s a x vN vL w0 w) (o : Obj) : RdV base R s a x vN vL w0 (w.alloc o) := h.below ((Below.refl _ _).alloc (Nat.le_refl _) o)
theorem RdV.drew (h : RdV base R s a x vN vL w0 w) : RdV base R s a x vN vL w0 w.drew := ⟨h.blk, h.nodes, h.levels, h.nR, h.lR, h.nl, h.bR, h.bel.drew⟩
theorem RdV.c (h : RdV base R s a x vN vL w0 w) : w.cell? ⟨R, 0, none⟩ = some (.string s) ∧ w.cell? ⟨R, 1, none⟩ = some (.int .i64 a) ∧ w.cell? ⟨R, 2, none⟩ = some vN ∧ w.cell? ⟨R, 3, none⟩ = some vL ∧ w.cell? ⟨R, 4, none⟩ = some (.int .i64 x.groups) :=
  ⟨h.blk.cell 0, h.blk.cell 1, h.blk.cell 2, h.blk.cell 3, h.blk.cell 4⟩
theorem RdV.top {n r : Nat} {st : List (Nat × Nat)} (h : RdV base R s a x vN vL w0 w) (hx : x.st = (n, r) :: st) : ∃ g cap, vL = .slice (some ⟨g, 0, none⟩) ((st.length + 1 : Nat) : Nat) cap ∧ base ≤ g ∧ g < w.heap.size ∧ g ≠ R ∧ st.length + 1 ≤ cap ∧
    w.cell? ⟨g, st.length * 2, none⟩ = some (.int .i64 r) ∧ w.cell? ⟨g, st.length * 2 + 1, none⟩ = some (.int .i64 n) ∧ w.frozen? ⟨g, st.length * 2, none⟩ = false ∧ w.frozen? ⟨g, st.length * 2 + 1, none⟩ = false ∧ w.frozen? ⟨R, 1, none⟩ = false := by
  have hl := h.levels
  rw [hx, List.length_cons, List.reverse_cons] at hl
  obtain ⟨g, cap, rfl, hb, hlt⟩ := hl.form (by omega)
  have hcap : st.length + 1 ≤ cap := by
    rcases hl.2 with ⟨hv, _⟩ | ⟨g', cap', cur, hv, _, _, hc, _⟩
    · cases hv
    · cases hv; exact hc
  refine ⟨g, cap, rfl, hb, hlt, fun e => h.lR (by rw [← e]; rfl), hcap, ?_, ?_, hl.frozenAt _, hl.frozenAt _, h.blk.frozen 1⟩
  · rw [hl.cellAt _ (by omega)]
    have := (lvCells_last st.reverse (n, r)).1
    rwa [List.length_reverse] at this
  · rw [hl.cellAt _ (by omega)]
    have := (lvCells_last st.reverse (n, r)).2
    rwa [List.length_reverse] at this
theorem RdV.put {n r : Nat} {st : List (Nat × Nat)} {g cap : Nat} (h : RdV base R s a x vN (.slice (some ⟨g, 0, none⟩) (st.length + 1 : Nat) cap) w0 w) (hx : x.st = (n, r) :: st) (n' : Nat) :
    RdV base R s a ⟨x.l, (n', r) :: st, x.groups⟩ vN (.slice (some ⟨g, 0, none⟩) (st.length + 1 : Nat) cap) w0 (w.setCell ⟨g, st.length * 2 + 1, none⟩ (.int .i64 n')) := by
  have hl := h.levels
  rw [hx, List.length_cons, List.reverse_cons] at hl
  have hbg := (hl.lt g rfl)
  have hgR : R ≠ g := fun e => h.lR (by rw [e]; rfl)
  refine ⟨h.blk.other hgR _ _, ?_, ?_, h.nR, h.lR, h.nl, h.bR, below_set h.bel hbg.1 _ _⟩
  · refine owns_keep h.nodes fun k hk => Below.heap_setCell _ _ _ _ ?_
    show k ≠ g
    rintro rfl
    rcases h.nl with h1 | h1
    · rw [h1] at hk; cases hk
    · exact h1 hk
  · have := hl.stored (st.length * 2 + 1) (.int .i64 n')
    show World.ownsRow _ base _ 2 _ (st.length + 1) (lvCells (((n', r) :: st).reverse))
    rw [List.reverse_cons, ← lvCells_set1 st.reverse n n' r, List.length_reverse]
    exact this.1
theorem RdV.put0 {n r : Nat} {st : List (Nat × Nat)} {g cap : Nat} (h : RdV base R s a x vN (.slice (some ⟨g, 0, none⟩) (st.length + 1 : Nat) cap) w0 w) (hx : x.st = (n, r) :: st) (r' : Nat) :
    RdV base R s a ⟨x.l, (n, r') :: st, x.groups⟩ vN (.slice (some ⟨g, 0, none⟩) (st.length + 1 : Nat) cap) w0 (w.setCell ⟨g, st.length * 2, none⟩ (.int .i64 r')) := by
  have hl := h.levels
  rw [hx, List.length_cons, List.reverse_cons] at hl
  have hbg := (hl.lt g rfl)
  have hgR : R ≠ g := fun e => h.lR (by rw [e]; rfl)
  refine ⟨h.blk.other hgR _ _, ?_, ?_, h.nR, h.lR, h.nl, h.bR, below_set h.bel hbg.1 _ _⟩
  · refine owns_keep h.nodes fun k hk => Below.heap_setCell _ _ _ _ ?_
    show k ≠ g
    rintro rfl
    rcases h.nl with h1 | h1
    · rw [h1] at hk; cases hk
    · exact h1 hk
  · have := hl.stored (st.length * 2) (.int .i64 r')
    show World.ownsRow _ base _ 2 _ (st.length + 1) (lvCells (((n, r') :: st).reverse))
    rw [List.reverse_cons, ← lvCells_set0 st.reverse n r r', List.length_reverse]
    exact this.1
theorem RdV.setAt (h : RdV base R s a x vN vL w0 w) (a' : Nat) : RdV base R s a' x vN vL w0 (w.setCell ⟨R, 1, none⟩ (.int .i64 a')) :=
  ⟨by have := h.blk.set 1 (.int .i64 a'); simpa using this, owns_keep h.nodes fun k hk => Below.heap_setCell _ _ _ _ (fun e => h.nR (by rw [hk, e])), owns_keep h.levels fun k hk => Below.heap_setCell _ _ _ _ (fun e => h.lR (by rw [hk, e])), h.nR, h.lR, h.nl, h.bR, below_set h.bel h.bR _ _⟩
theorem RdV.setGroups (h : RdV base R s a x vN vL w0 w) (g : Nat) : RdV base R s a ⟨x.l, x.st, g⟩ vN vL w0 (w.setCell ⟨R, 4, none⟩ (.int .i64 g)) :=
  ⟨by have := h.blk.set 4 (.int .i64 g); simpa using this, owns_keep h.nodes fun k hk => Below.heap_setCell _ _ _ _ (fun e => h.nR (by rw [hk, e])), owns_keep h.levels fun k hk => Below.heap_setCell _ _ _ _ (fun e => h.lR (by rw [hk, e])), h.nR, h.lR, h.nl, h.bR, below_set h.bel h.bR _ _⟩
theorem RdV.pushN (h : RdV base R s a x vN vL w0 w) {w1 : World} {nd : NdN} {g cap : Nat} (hown : w1.ownsRow base 45 8 (.slice (some ⟨g, 0, none⟩) (x.l.length + 1 : Nat) cap) (x.l.length + 1) (ndCells x.l ++ (ndA nd).toList)) (hg : w.grownBy w1 vN.ownBlock) (hat : vN.ownBlock = some g ∨ w.heap.size ≤ g) :
    RdV base R s a ⟨x.l ++ [nd], x.st, x.groups⟩ (.slice (some ⟨g, 0, none⟩) (x.l.length + 1 : Nat) cap) vL w0 (w1.setCell ⟨R, 2, none⟩ (.slice (some ⟨g, 0, none⟩) (x.l.length + 1 : Nat) cap)) := by
  have hRg : g ≠ R := by
    rintro rfl
    rcases hat with h1 | h1
    · exact h.nR h1
    · have := h.blk.lt; omega
  have hb : Below base w0 w1 := h.bel.grown hg h.size fun k hk => (h.nodes.lt k hk).1
  refine ⟨?_, ?_, ?_, ?_, h.lR, ?_, h.bR, below_set hb h.bR _ _⟩
  · have := (h.blk.kept hg (fun e => h.nR e.symm)).set 2 (.slice (some ⟨g, 0, none⟩) (x.l.length + 1 : Nat) cap)
    simpa using this
  · show World.ownsRow _ base _ 8 _ (x.l ++ [nd]).length (ndCells (x.l ++ [nd]))
    rw [List.length_append, ndCells_app, show ndCells [nd] = (ndA nd).toList by simp [ndCells]]
    exact owns_keep hown fun k hk => Below.heap_setCell _ _ _ _ (fun e => hRg (by cases hk; exact e))
  · refine owns_keep (h.levels.kept hg ?_) fun k hk => Below.heap_setCell _ _ _ _ (fun e => h.lR (by rw [hk, e]))
    rcases h.nl with h1 | h1
    · rw [h1]
      cases hv : vL.ownBlock with
      | none => exact .inl rfl
      | some k => exact .inr (by simp)
    · exact .inr (Ne.symm h1)
  · intro e; cases e; exact hRg rfl
  · right
    intro e
    have e' : vL.ownBlock = some g := e.symm
    rcases hat with h1 | h1
    · rcases h.nl with h2 | h2
      · rw [h2] at h1; cases h1
      · exact h2 (h1.trans e'.symm)
    · have := owns_lt h.levels e'; omega
theorem RdV.pushL (h : RdV base R s a x vN vL w0 w) {w1 : World} {g cap : Nat} (hown : w1.ownsRow base 86 2 (.slice (some ⟨g, 0, none⟩) (x.st.length + 1 : Nat) cap) (x.st.length + 1) (lvCells x.st.reverse ++ [.int .i64 0, .int .i64 0])) (hg : w.grownBy w1 vL.ownBlock) (hat : vL.ownBlock = some g ∨ w.heap.size ≤ g) :
    RdV base R s a ⟨x.l, (0, 0) :: x.st, x.groups⟩ vN (.slice (some ⟨g, 0, none⟩) (x.st.length + 1 : Nat) cap) w0 (w1.setCell ⟨R, 3, none⟩ (.slice (some ⟨g, 0, none⟩) (x.st.length + 1 : Nat) cap)) := by
  have hRg : g ≠ R := by
    rintro rfl
    rcases hat with h1 | h1
    · exact h.lR h1
    · have := h.blk.lt; omega
  have hb : Below base w0 w1 := h.bel.grown hg h.size fun k hk => (h.levels.lt k hk).1
  refine ⟨?_, ?_, ?_, h.nR, ?_, ?_, h.bR, below_set hb h.bR _ _⟩
  · have := (h.blk.kept hg (fun e => h.lR e.symm)).set 3 (.slice (some ⟨g, 0, none⟩) (x.st.length + 1 : Nat) cap)
    simpa using this
  · refine owns_keep (h.nodes.kept hg ?_) fun k hk => Below.heap_setCell _ _ _ _ (fun e => h.nR (by rw [hk, e]))
    rcases h.nl with h1 | h1
    · exact .inl h1
    · exact .inr h1
  · show World.ownsRow _ base _ 2 _ ((0, 0) :: x.st).length (lvCells ((0, 0) :: x.st).reverse)
    rw [List.length_cons, List.reverse_cons, lvCells_app]
    exact owns_keep hown fun k hk => Below.heap_setCell _ _ _ _ (fun e => hRg (by cases hk; exact e))
  · intro e; cases e; exact hRg rfl
  · rcases h.nl with h1 | h1
    · exact .inl h1
    · right
      intro e
      have e' : vN.ownBlock = some g := e
      rcases hat with h2 | h2
      · exact h1 (e'.trans h2.symm)
      · have := owns_lt h.nodes e'; omega
theorem RdV.popL {p : Nat × Nat} {st : List (Nat × Nat)} {g cap : Nat} (h : RdV base R s a x vN (.slice (some ⟨g, 0, none⟩) (st.length + 1 : Nat) cap) w0 w) (hx : x.st = p :: st) :
    RdV base R s a ⟨x.l, st, x.groups⟩ vN (.slice (some ⟨g, 0, none⟩) (st.length : Nat) cap) w0 (w.setCell ⟨R, 3, none⟩ (.slice (some ⟨g, 0, none⟩) (st.length : Nat) cap)) := by
  have hl := h.levels
  rw [hx, List.length_cons, List.reverse_cons] at hl
  refine ⟨by have := h.blk.set 3 (.slice (some ⟨g, 0, none⟩) (st.length : Nat) cap); simpa using this, owns_keep h.nodes fun k hk => Below.heap_setCell _ _ _ _ (fun e => h.nR (by rw [hk, e])), ?_, h.nR, h.lR, h.nl, h.bR, below_set h.bel h.bR _ _⟩
  refine owns_keep (W := w) ⟨by rw [lvCells_len, List.length_reverse], ?_⟩ fun k hk => Below.heap_setCell _ _ _ _ (fun e => h.lR (by cases hk; exact congrArg some e))
  rcases hl.2 with ⟨hv, _⟩ | ⟨g', cap', cur, hv, h1, h2, h3, h4, h5, h6⟩
  · cases hv
  · cases hv
    refine .inr ⟨g, cap, cur, rfl, h1, h2, (by show st.length ≤ cap; omega), h4, h5, ?_⟩
    have := congrArg (List.take (st.length * 2)) h6
    rw [List.take_take, show min (st.length * 2) ((st.length + 1) * 2) = st.length * 2 by omega] at this
    have e := lvCells_take st.reverse p
    rw [List.length_reverse] at e
    rw [e] at this
    exact this
end
end Go.Proofs.YtbccojjcdcighaaGreatDoor

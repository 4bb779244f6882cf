/- Texts put together: Ttb Trc Iu. -/
import Derived.Test.YtdpkhliojbeglaaDoorPJ
import Derived.Test.YtdpkhliojbeglaaDoorPI
import Derived.Test.YtdpkhliojbeglaaDoorPB
import Derived.Outline
import Derived.Deep.DeepCutAuto
/- What a node can span, by kinds, and the tree that is made from the root on, plainly. Stage 15. -/
namespace Go.Proofs.YtdpkhliojbeglaaDoor
open Go.RowKit

section
variable {l : List NdN} {w : List Nat}
theorem can_le {q f e : Nat} (h : canP l w q f e) : f ≤ e ∧ e ≤ w.length := by
  obtain ⟨ks, h, _⟩ := h
  exact ⟨h.1, h.2.1⟩
theorem can_1 {q i j : Nat} (k : (ndE l q).kind = 1) (hij : i ≤ j) (hj : j ≤ w.length) : canP l w q i j ↔ i = j := by
  constructor
  · rintro ⟨ks, ⟨_, _, c⟩, _⟩
    rcases c with ⟨_, h, _⟩ | ⟨k', _⟩ | ⟨k', _⟩ | ⟨k', _⟩ | ⟨k', _⟩ | ⟨k', _⟩ | ⟨k', _⟩ <;> omega
  · exact fun h => ⟨.nil, ⟨hij, hj, .inl ⟨k, h, rfl⟩⟩, trivial, trivial⟩
theorem can_2 {q i j : Nat} (k : (ndE l q).kind = 2) (hij : i ≤ j) (hj : j ≤ w.length) : canP l w q i j ↔ j = i + 1 ∧ (ndE l q).set.getLsbD (w.getD i 0) = true := by
  constructor
  · rintro ⟨ks, ⟨_, _, c⟩, _⟩
    rcases c with ⟨k', _⟩ | ⟨_, h, h', _⟩ | ⟨k', _⟩ | ⟨k', _⟩ | ⟨k', _⟩ | ⟨k', _⟩ | ⟨k', _⟩ <;> first | omega | skip
    exact ⟨h, h'⟩
  · exact fun h => ⟨.nil, ⟨hij, hj, .inr (.inl ⟨k, h.1, h.2, rfl⟩)⟩, trivial, trivial⟩
theorem can_3 {q i j p r : Nat} (k : (ndE l q).kind = 3) (hp : (ndE l q).kids = p) (hr : (ndE l q).n = r) (hij : i ≤ j) (hj : j ≤ w.length) : canP l w q i j ↔ ∃ m, canP l w p i m ∧ canP l w r m j := by
  constructor
  · rintro ⟨ks, ⟨_, _, c⟩, hok, _⟩
    have hcan := roots_can hok
    rcases c with ⟨k', _⟩ | ⟨k', _⟩ | ⟨k', p', r', m, hp', hr', b⟩ | ⟨k', _⟩ | ⟨k', _⟩ | ⟨k', _⟩ | ⟨k', _⟩ <;> first | omega | skip
    have ep : p' = p := by omega
    have er : r' = r := by omega
    subst ep er
    rw [b] at hcan
    exact ⟨m, hcan _ (List.mem_cons_self ..), hcan (r', m, j) (by simp)⟩
  · rintro ⟨m, ⟨k1, h1, h1', _⟩, ⟨k2, h2, h2', _⟩⟩
    exact ⟨.cons p i m k1 (.cons r m j k2 .nil), ⟨hij, hj, .inr (.inr (.inl ⟨k, p, r, m, hp, hr, rfl⟩))⟩, ⟨h1, h1', h2, h2', trivial⟩, trivial⟩
theorem can_4 {q i j p r : Nat} (k : (ndE l q).kind = 4) (hp : (ndE l q).kids = p) (hr : (ndE l q).n = r) (hij : i ≤ j) (hj : j ≤ w.length) : canP l w q i j ↔ canP l w p i j ∨ canP l w r i j := by
  constructor
  · rintro ⟨ks, ⟨_, _, c⟩, hok, _⟩
    have hcan := roots_can hok
    rcases c with ⟨k', _⟩ | ⟨k', _⟩ | ⟨k', _⟩ | ⟨k', p', hp', b⟩ | ⟨k', _⟩ | ⟨k', _⟩ | ⟨k', _⟩ <;> first | omega | skip
    rw [b] at hcan
    have h := hcan _ (List.mem_cons_self ..)
    rcases hp' with h' | h'
    · have ep : p' = p := by omega
      exact .inl (ep ▸ h)
    · have ep : p' = r := by omega
      exact .inr (ep ▸ h)
  · rintro (⟨k1, h1, h1', _⟩ | ⟨k1, h1, h1', _⟩)
    · exact ⟨.cons p i j k1 .nil, ⟨hij, hj, .inr (.inr (.inr (.inl ⟨k, p, .inl hp, rfl⟩)))⟩, ⟨h1, h1', trivial⟩, trivial⟩
    · exact ⟨.cons r i j k1 .nil, ⟨hij, hj, .inr (.inr (.inr (.inl ⟨k, r, .inr hr, rfl⟩)))⟩, ⟨h1, h1', trivial⟩, trivial⟩
theorem star_kids {q i j p : Nat} (k : (ndE l q).kind = 5) (hp : (ndE l q).kids = p) (h : canP l w q i j) : ∃ ks, okF l w ks ∧ chainR p i j (rootsO ks) := by
  obtain ⟨ks, ⟨_, _, c⟩, hok, _⟩ := h
  rcases c with ⟨k', _⟩ | ⟨k', _⟩ | ⟨k', _⟩ | ⟨k', _⟩ | ⟨k', p', hp', b⟩ | ⟨k', _⟩ | ⟨k', _⟩ <;> first | omega | skip
  have ep : p' = p := by omega
  exact ⟨ks, hok, ep ▸ b⟩
theorem can_5 {q i j p : Nat} (k : (ndE l q).kind = 5) (hp : (ndE l q).kids = p) (hij : i ≤ j) (hj : j ≤ w.length) : canP l w q i j ↔ i = j ∨ ∃ m, i < m ∧ canP l w p i m ∧ canP l w q m j := by
  constructor
  · intro h
    obtain ⟨ks, hok, hc⟩ := star_kids k hp h
    cases ks with
    | nil => exact .inl hc
    | cons n f e k1 rest =>
      obtain ⟨rfl, rfl, h1, h2, hr⟩ := hc
      exact .inr ⟨e, h1, ⟨k1, hok.1, hok.2.1, trivial⟩, ⟨rest, ⟨h2, hj, .inr (.inr (.inr (.inr (.inl ⟨k, _, hp, hr⟩))))⟩, hok.2.2, trivial⟩⟩
  · rintro (h | ⟨m, h1, ⟨k1, h2, h2', _⟩, h3⟩)
    · exact ⟨.nil, ⟨hij, hj, .inr (.inr (.inr (.inr (.inl ⟨k, _, hp, h⟩))))⟩, trivial, trivial⟩
    · obtain ⟨ks, hok, hc⟩ := star_kids k hp h3
      exact ⟨.cons p i m k1 ks, ⟨hij, hj, .inr (.inr (.inr (.inr (.inl ⟨k, _, hp, rfl, rfl, h1, (can_le h3).1, hc⟩))))⟩, ⟨h2, h2', hok⟩, trivial⟩
theorem can_6 {q i j p : Nat} (k : (ndE l q).kind = 6) (hp : (ndE l q).kids = p) (hij : i ≤ j) (hj : j ≤ w.length) : canP l w q i j ↔ i = j ∨ canP l w p i j := by
  constructor
  · rintro ⟨ks, ⟨_, _, c⟩, hok, _⟩
    have hcan := roots_can hok
    rcases c with ⟨k', _⟩ | ⟨k', _⟩ | ⟨k', _⟩ | ⟨k', _⟩ | ⟨k', _⟩ | ⟨k', b⟩ | ⟨k', _⟩ <;> first | omega | skip
    rcases b with ⟨h, _⟩ | ⟨_, p', hp', b⟩
    · exact .inl h
    · rw [b] at hcan
      have ep : p' = p := by omega
      exact .inr (ep ▸ hcan _ (List.mem_cons_self ..))
  · intro h
    by_cases hlt : i < j
    · obtain ⟨k1, h1, h1', _⟩ := h.resolve_left (by omega)
      exact ⟨.cons p i j k1 .nil, ⟨hij, hj, .inr (.inr (.inr (.inr (.inr (.inl ⟨k, .inr ⟨hlt, p, hp, rfl⟩⟩)))))⟩, ⟨h1, h1', trivial⟩, trivial⟩
    · exact ⟨.nil, ⟨hij, hj, .inr (.inr (.inr (.inr (.inr (.inl ⟨k, .inl ⟨by omega, rfl⟩⟩)))))⟩, trivial, trivial⟩
theorem can_7 {q i j p : Nat} (k : (ndE l q).kind = 7 ∨ (ndE l q).kind = 8) (hp : (ndE l q).kids = p) (hij : i ≤ j) (hj : j ≤ w.length) : canP l w q i j ↔ canP l w p i j := by
  constructor
  · rintro ⟨ks, ⟨_, _, c⟩, hok, _⟩
    have hcan := roots_can hok
    rcases c with ⟨k', _⟩ | ⟨k', _⟩ | ⟨k', _⟩ | ⟨k', _⟩ | ⟨k', _⟩ | ⟨k', _⟩ | ⟨k', p', hp', b⟩ <;> first | omega | skip
    rw [b] at hcan
    have ep : p' = p := by omega
    exact ep ▸ hcan _ (List.mem_cons_self ..)
  · rintro ⟨k1, h1, h1', _⟩
    exact ⟨.cons p i j k1 .nil, ⟨hij, hj, .inr (.inr (.inr (.inr (.inr (.inr ⟨k, p, hp, rfl⟩)))))⟩, ⟨h1, h1', trivial⟩, trivial⟩
end
/-- The greatest number up to j of which something holds. -/
def downB (P : Nat → Bool) : Nat → Nat
  | 0 => 0
  | j + 1 => if P (j + 1) then j + 1 else downB P j
theorem down_le (P : Nat → Bool) : ∀ j, downB P j ≤ j
  | 0 => Nat.le_refl _
  | j + 1 => by
    unfold downB
    have := down_le P j
    split <;> omega
theorem down_ge (P : Nat → Bool) : ∀ j m, m ≤ j → P m = true → m ≤ downB P j ∧ P (downB P j) = true
  | 0, m, h, hp => by
    obtain rfl : m = 0 := by omega
    exact ⟨Nat.le_refl _, hp⟩
  | j + 1, m, h, hp => by
    unfold downB
    by_cases hj : P (j + 1) = true
    · rw [if_pos hj]; exact ⟨h, hj⟩
    · rw [if_neg hj]
      by_cases hm : m = j + 1
      · subst hm; exact absurd hp hj
      · exact down_ge P j m (by omega) hp
section
variable (l : List NdN) (c : Nat → Nat → Nat → Bool)
/-- A Star's kids. -/
def starG (g : Nat → Nat → Fo) (p q j : Nat) : Nat → Nat → Fo
  | 0, _ => .nil
  | m + 1, i => if i < j then .cons p i (downB (fun k => c p i k && c q k j) j) (g i (downB (fun k => c p i k && c q k j) j)) (starG g p q j m (downB (fun k => c p i k && c q k j) j)) else .nil
/-- A node's kids. -/
def kidsG : Nat → Nat → Nat → Nat → Fo
  | 0, _, _, _ => .nil
  | k + 1, q, i, j =>
    if (ndE l q).kind = 3 then .cons (ndE l q).kids.toNat i (downB (fun m => c (ndE l q).kids.toNat i m && c (ndE l q).n.toNat m j) j) (kidsG k (ndE l q).kids.toNat i (downB (fun m => c (ndE l q).kids.toNat i m && c (ndE l q).n.toNat m j) j)) (.cons (ndE l q).n.toNat (downB (fun m => c (ndE l q).kids.toNat i m && c (ndE l q).n.toNat m j) j) j (kidsG k (ndE l q).n.toNat (downB (fun m => c (ndE l q).kids.toNat i m && c (ndE l q).n.toNat m j) j) j) .nil)
    else if (ndE l q).kind = 4 then (if c (ndE l q).kids.toNat i j then .cons (ndE l q).kids.toNat i j (kidsG k (ndE l q).kids.toNat i j) .nil else .cons (ndE l q).n.toNat i j (kidsG k (ndE l q).n.toNat i j) .nil)
    else if (ndE l q).kind = 5 then starG c (kidsG k (ndE l q).kids.toNat) (ndE l q).kids.toNat q j (j - i) i
    else if (ndE l q).kind = 6 then (if i < j then .cons (ndE l q).kids.toNat i j (kidsG k (ndE l q).kids.toNat i j) .nil else .nil)
    else if 7 ≤ (ndE l q).kind then .cons (ndE l q).kids.toNat i j (kidsG k (ndE l q).kids.toNat i j) .nil
    else .nil
end
section
variable {l : List NdN} {w : List Nat} {c : Nat → Nat → Nat → Bool}
/-- A tree that is right and made so. -/
def GoodF (l : List NdN) (w : List Nat) (ks : Fo) : Prop := okF l w ks ∧ bestF l w ks ∧ inF l ks
theorem GoodF.nil : GoodF l w .nil := ⟨trivial, trivial, trivial⟩
theorem GoodF.cons {q f e : Nat} {ks rest : Fo} (hq : q < l.length) (h1 : nodeOk (ndE l q) w f e (rootsO ks)) (h2 : greedy l w q f e (rootsO ks)) (h : GoodF l w ks) (hr : GoodF l w rest) : GoodF l w (.cons q f e ks rest) :=
  ⟨⟨h1, h.1, hr.1⟩, ⟨h2, h.2.1, hr.2.1⟩, hq, h.2.2, hr.2.2⟩
theorem GoodF.kid {q f e : Nat} {ks rest : Fo} (h : GoodF l w (.cons q f e ks .nil)) (hr : GoodF l w rest) : GoodF l w (.cons q f e ks rest) :=
  ⟨⟨h.1.1, h.1.2.1, hr.1⟩, ⟨h.2.1.1, h.2.1.2.1, hr.2.1⟩, h.2.2.1, h.2.2.2.1, hr.2.2⟩
theorem star_good (hc : ∀ q i j, q < l.length → i ≤ j → j ≤ w.length → (c q i j = true ↔ canP l w q i j)) {q p j : Nat} (hk : (ndE l q).kind = 5) (hp : (ndE l q).kids = p) (hq : q < l.length) (hpl : p < l.length) {g : Nat → Nat → Fo} (ih : ∀ a b, canP l w p a b → GoodF l w (.cons p a b (g a b) .nil)) :
    ∀ m i, j - i ≤ m → canP l w q i j → GoodF l w (starG c g p q j m i) ∧ chainR p i j (rootsO (starG c g p q j m i)) ∧ gchR l w q p j (rootsO (starG c g p q j m i)) := by
  intro m
  induction m with
  | zero =>
    intro i hm hcan
    have := can_le hcan
    exact ⟨.nil, (show i = j by omega), trivial⟩
  | succ m ihm =>
    intro i hm hcan
    obtain ⟨hij, hj⟩ := can_le hcan
    unfold starG
    by_cases hlt : i < j
    · rw [if_pos hlt]
      obtain ⟨b, hb, h1, h2⟩ := ((can_5 hk hp hij hj).1 hcan).resolve_left (by omega)
      obtain ⟨hbi, hbj⟩ := can_le h2
      have hP : (fun k => c p i k && c q k j) b = true := by
        show (c p i b && c q b j) = true
        rw [(hc p i b hpl (by omega) (by omega)).2 h1, (hc q b j hq (by omega) hj).2 h2]; rfl
      obtain ⟨hge, hr⟩ := down_ge (fun k => c p i k && c q k j) j b hbi hP
      have hle := down_le (fun k => c p i k && c q k j) j
      have hmax : ∀ m', canP l w p i m' → canP l w q m' j → m' ≤ downB (fun k => c p i k && c q k j) j := fun m' g1 g2 => by
        have l1 := can_le g1
        have l2 := can_le g2
        refine (down_ge (fun k => c p i k && c q k j) j m' l2.1 ?_).1
        show (c p i m' && c q m' j) = true
        rw [(hc p i m' hpl l1.1 l1.2).2 g1, (hc q m' j hq l2.1 hj).2 g2]; rfl
      generalize downB (fun k => c p i k && c q k j) j = k at *
      have hr' : (c p i k && c q k j) = true := hr
      rw [Bool.and_eq_true] at hr'
      have c1 := (hc p i k hpl (by omega) (by omega)).1 hr'.1
      have c2 := (hc q k j hq hle hj).1 hr'.2
      obtain ⟨r1, r2, r3⟩ := ihm k (by omega) c2
      exact ⟨(ih i k c1).kid r1, ⟨rfl, rfl, by omega, hle, r2⟩, ⟨fun m' _ _ g1 g2 => hmax m' g1 g2, r3⟩⟩
    · rw [if_neg hlt]
      exact ⟨.nil, (show i = j by omega), trivial⟩
theorem grow_good (hP : PartsOk l) (hc : ∀ q i j, q < l.length → i ≤ j → j ≤ w.length → (c q i j = true ↔ canP l w q i j)) : ∀ k q i j, q < k → q < l.length → canP l w q i j → GoodF l w (.cons q i j (kidsG l c k q i j) .nil)
  | 0, _, _, _, h, _, _ => absurd h (by omega)
  | k + 1, q, i, j, hqk, hq, hcan => by
    have ih := grow_good hP hc k
    obtain ⟨hij, hj⟩ := can_le hcan
    obtain ⟨k1, k8⟩ := hP.kind q hq
    have ha := hP.a q hq
    have hb := hP.b q hq
    unfold kidsG
    by_cases e3 : (ndE l q).kind = 3
    · obtain ⟨p, hp, hpq⟩ := ha (by omega)
      obtain ⟨r, hr, hrq⟩ := hb (.inl e3)
      rw [if_pos e3, hp, hr, Int.toNat_natCast, Int.toNat_natCast]
      obtain ⟨m, g1, g2⟩ := (can_3 e3 hp hr hij hj).1 hcan
      have hmax : ∀ m', canP l w p i m' → canP l w r m' j → m' ≤ downB (fun m => c p i m && c r m j) j ∧ (c p i (downB (fun m => c p i m && c r m j) j) && c r (downB (fun m => c p i m && c r m j) j) j) = true := fun m' g1 g2 => by
        have l1 := can_le g1
        have l2 := can_le g2
        refine down_ge (fun m => c p i m && c r m j) j m' l2.1 ?_
        show (c p i m' && c r m' j) = true
        rw [(hc p i m' (by omega) l1.1 l1.2).2 g1, (hc r m' j (by omega) l2.1 hj).2 g2]; rfl
      have hle := down_le (fun m => c p i m && c r m j) j
      generalize downB (fun m => c p i m && c r m j) j = d at *
      obtain ⟨hmd, hr'⟩ := hmax m g1 g2
      rw [Bool.and_eq_true] at hr'
      have l1 := can_le g1
      have c1 := (hc p i d (by omega) (by omega) (by omega)).1 hr'.1
      have c2 := (hc r d j (by omega) hle hj).1 hr'.2
      refine .cons hq ⟨hij, hj, .inr (.inr (.inl ⟨e3, p, r, d, hp, hr, rfl⟩))⟩ ⟨fun _ p' r' m' he m'' x1 x2 => ?_, fun h => by omega, fun h => by omega⟩ ((ih p i d (by omega) (by omega) c1).kid (ih r d j (by omega) (by omega) c2)) .nil
      have he' : [(p, i, d), (r, d, j)] = [(p', i, m'), (r', m', j)] := he
      simp only [List.cons.injEq, Prod.mk.injEq, and_true, true_and] at he'
      obtain ⟨⟨rfl, rfl⟩, rfl, _⟩ := he'
      exact (hmax m'' x1 x2).1
    rw [if_neg e3]
    by_cases e4 : (ndE l q).kind = 4
    · obtain ⟨p, hp, hpq⟩ := ha (by omega)
      obtain ⟨r, hr, hrq⟩ := hb (.inr e4)
      rw [if_pos e4, hp, hr, Int.toNat_natCast, Int.toNat_natCast]
      by_cases hA : c p i j = true
      · rw [if_pos hA]
        refine .cons hq ⟨hij, hj, .inr (.inr (.inr (.inl ⟨e4, p, .inl hp, rfl⟩)))⟩ ⟨fun h => by omega, fun _ p' hp' _ => ?_, fun h => by omega⟩ (ih p i j (by omega) (by omega) ((hc p i j (by omega) hij hj).1 hA)) .nil
        have : p' = p := by omega
        rw [this]; rfl
      · rw [if_neg hA]
        refine .cons hq ⟨hij, hj, .inr (.inr (.inr (.inl ⟨e4, r, .inr hr, rfl⟩)))⟩ ⟨fun h => by omega, fun _ p' hp' hx => ?_, fun h => by omega⟩ (ih r i j (by omega) (by omega) (((can_4 e4 hp hr hij hj).1 hcan).resolve_left fun h => hA ((hc p i j (by omega) hij hj).2 h))) .nil
        have : p' = p := by omega
        exact absurd ((hc p i j (by omega) hij hj).2 (this ▸ hx)) hA
    rw [if_neg e4]
    by_cases e5 : (ndE l q).kind = 5
    · obtain ⟨p, hp, hpq⟩ := ha (by omega)
      rw [if_pos e5, hp, Int.toNat_natCast]
      obtain ⟨r1, r2, r3⟩ := star_good hc e5 hp hq (by omega) (fun a b h => ih p a b (by omega) (by omega) h) (j - i) i (Nat.le_refl _) hcan
      refine .cons hq ⟨hij, hj, .inr (.inr (.inr (.inr (.inl ⟨e5, p, hp, r2⟩))))⟩ ⟨fun h => by omega, fun h => by omega, fun _ p' hp' => ?_⟩ r1 .nil
      have : p' = p := by omega
      rw [this]; exact r3
    rw [if_neg e5]
    by_cases e6 : (ndE l q).kind = 6
    · obtain ⟨p, hp, hpq⟩ := ha (by omega)
      rw [if_pos e6, hp, Int.toNat_natCast]
      have hg : ∀ R, greedy l w q i j R := fun R => ⟨fun h => by omega, fun h => by omega, fun h => by omega⟩
      by_cases hlt : i < j
      · rw [if_pos hlt]
        exact .cons hq ⟨hij, hj, .inr (.inr (.inr (.inr (.inr (.inl ⟨e6, .inr ⟨hlt, p, hp, rfl⟩⟩)))))⟩ (hg _) (ih p i j (by omega) (by omega) (((can_6 e6 hp hij hj).1 hcan).resolve_left (by omega))) .nil
      · rw [if_neg hlt]
        exact .cons hq ⟨hij, hj, .inr (.inr (.inr (.inr (.inr (.inl ⟨e6, .inl ⟨by omega, rfl⟩⟩)))))⟩ (hg _) .nil .nil
    rw [if_neg e6]
    have hg : ∀ R, greedy l w q i j R := fun R => ⟨fun h => by omega, fun h => by omega, fun h => by omega⟩
    by_cases e7 : 7 ≤ (ndE l q).kind
    · obtain ⟨p, hp, hpq⟩ := ha (by omega)
      rw [if_pos e7, hp, Int.toNat_natCast]
      have e7' : (ndE l q).kind = 7 ∨ (ndE l q).kind = 8 := by omega
      exact .cons hq ⟨hij, hj, .inr (.inr (.inr (.inr (.inr (.inr ⟨e7', p, hp, rfl⟩)))))⟩ (hg _) (ih p i j (by omega) (by omega) ((can_7 e7' hp hij hj).1 hcan)) .nil
    rw [if_neg e7]
    by_cases e1 : (ndE l q).kind = 1
    · exact .cons hq ⟨hij, hj, .inl ⟨e1, (can_1 e1 hij hj).1 hcan, rfl⟩⟩ (hg _) .nil .nil
    · have e2 : (ndE l q).kind = 2 := by omega
      obtain ⟨h1, h2⟩ := (can_2 e2 hij hj).1 hcan
      exact .cons hq ⟨hij, hj, .inr (.inl ⟨e2, h1, h2, rfl⟩)⟩ (hg _) .nil .nil
end
end Go.Proofs.YtdpkhliojbeglaaDoor

/- Parse trees, plainly: a parse tree is what the document asks; which lists are parse trees. Stage 14. -/
namespace Go.Proofs.YtdpkhliojbeglaaDoor
open Go.RowKit

theorem at_of_drop {t r : List EnN} {x : EnN} {i : Nat} (h : t.drop i = x :: r) : i < t.length ∧ atE t i = x ∧ t.drop (i + 1) = r := by
  have hi : i < t.length := by
    rcases Nat.lt_or_ge i t.length with h1 | h1
    · exact h1
    · rw [List.drop_of_length_le h1] at h; cases h
  rw [drop_one t i hi] at h
  injection h with h1 h2
  exact ⟨hi, h1, h2⟩
theorem drop_app {t a b : List EnN} {i : Nat} (h : t.drop i = a ++ b) : t.drop (i + a.length) = b := by
  rw [← List.drop_drop, h]
  exact List.drop_left
/-- How many entries. -/
theorem flF_len (d d' : Int) (F : Fo) : (flF d F).length = (flF d' F).length := by
  induction F generalizing d d' with
  | nil => rfl
  | cons n f e ks rest ih1 ih2 =>
    simp only [flF, List.length_cons, List.length_append]
    rw [ih1 (d + 1) (d' + 1), ih2 d d']
section
variable {l : List NdN} {w : List Nat} {t : List EnN}
def EntOf (l : List NdN) (w : List Nat) (t : List EnN) (k : Nat) : Prop := ∀ i d (n f e : Nat) ks R, n < k → n < l.length → okF l w (.cons n f e ks .nil) → t.drop i = flF d (.cons n f e ks .nil) ++ R → entF l w t k i ⟨d, n, f, e⟩ = some (i + (flF d (.cons n f e ks .nil)).length)
theorem kids_of {k : Nat} (ih : EntOf l w t k) (p : Nat) (hp : p < k) (hpl : p < l.length) (d : Int) (e : Nat) : ∀ ks m i (at_ : Nat) R, okF l w ks → chainR p at_ e (rootsO ks) → e - at_ ≤ m → t.drop i = flF d ks ++ R → kidsF (entF l w t k) t p d e m i at_ = some (i + (flF d ks).length) := by
  intro ks
  induction ks with
  | nil =>
    intro m i at_ R _ hch hm h
    have : at_ = e := hch
    subst this
    cases m with
    | zero => unfold kidsF; rw [if_neg (by omega)]; rfl
    | succ m => unfold kidsF; rw [if_neg (by omega)]; rfl
  | cons n f m1 k1 rest _ ihr =>
    intro m i at_ R hok hch hm h
    obtain ⟨rfl, rfl, h1, h2, h3⟩ := hch
    obtain ⟨hno, hk1, hrok⟩ := hok
    cases m with
    | zero => omega
    | succ m =>
      have h0 : t.drop i = flF d (.cons n f m1 k1 .nil) ++ (flF d rest ++ R) := by rw [h, flF_one, List.append_assoc]
      obtain ⟨hi, hat, _⟩ := at_of_drop (show t.drop i = ⟨d, n, f, m1⟩ :: (flF (d + 1) k1 ++ flF d .nil ++ (flF d rest ++ R)) from h0)
      have he := ih i d n f m1 k1 _ hp hpl ⟨hno, hk1, trivial⟩ h0
      unfold kidsF
      rw [if_pos (by omega), if_pos ⟨hi, by rw [hat]; show (f : Int) < m1; omega⟩, hat]
      show (entF l w t k i ⟨d, n, f, m1⟩).bind _ = _
      rw [he]
      show (if (m1 : Int) ≤ (e : Int) then kidsF (entF l w t k) t n d e m (i + (flF d (.cons n f m1 k1 .nil)).length) (m1 : Int) else none) = _
      rw [if_pos (by omega)]
      rw [ihr m _ m1 R hrok h3 (by omega) (drop_app h0)]
      congr 1
      rw [flF_one d n f m1 k1 rest, List.length_append]
      omega
theorem ent_of (hP : PartsOk l) : ∀ k, EntOf l w t k
  | 0 => fun i d n f e ks R hn => absurd hn (by omega)
  | k + 1 => by
    intro i d n f e ks R hn hnl hok h
    have ih := ent_of hP k
    obtain ⟨⟨hfe, hel, hcase⟩, hkok, _⟩ := hok
    obtain ⟨hi, hat, hd⟩ := at_of_drop (show t.drop i = ⟨d, n, f, e⟩ :: (flF (d + 1) ks ++ flF d .nil ++ R) from h)
    have hd' : t.drop (i + 1) = flF (d + 1) ks ++ R := by rw [hd]; simp [flF]
    have hlen : (flF d (.cons n f e ks .nil)).length = (flF (d + 1) ks).length + 1 := by simp [flF]
    obtain ⟨hk1, hk8⟩ := hP.kind n hnl
    rw [hlen]
    unfold entF
    rw [if_pos ⟨hi, hat, by show (0 : Int) ≤ (f : Int); omega, by show (f : Int) ≤ e; omega, by show (e : Int) ≤ _; omega⟩]
    simp only [Int.toNat_natCast]
    have single : ∀ r : Nat, r < n → rootsO ks = [(r, f, e)] → entF l w t k (i + 1) ⟨d + 1, (r : Int), (f : Int), (e : Int)⟩ = some (i + ((flF (d + 1) ks).length + 1)) := fun r hr hro => by
      cases ks with
      | nil => cases hro
      | cons n' f' e' k1 rest =>
        simp only [rootsO, List.cons.injEq, Prod.mk.injEq] at hro
        obtain ⟨⟨rfl, rfl, rfl⟩, hrest⟩ := hro
        cases rest with
        | cons _ _ _ _ _ => cases hrest
        | nil =>
          rw [ih (i + 1) (d + 1) n' f' e' k1 R (by omega) (by omega) hkok hd']
          congr 1
          omega
    rcases hcase with ⟨k1, hh, hro⟩ | ⟨k2, hh, hs, hro⟩ | ⟨k3, p, q, m, hp, hq, hro⟩ | ⟨k4, r, hr, hro⟩ | ⟨k5, p, hp, hch⟩ | ⟨k6, hh⟩ | ⟨k78, p, hp, hro⟩
    · have hks : ks = .nil := by cases ks with | nil => rfl | cons _ _ _ _ _ => cases hro
      subst hks
      rw [if_pos k1, if_pos (by omega)]
      rfl
    · have hks : ks = .nil := by cases ks with | nil => rfl | cons _ _ _ _ _ => cases hro
      subst hks
      rw [if_neg (by omega), if_pos k2, if_pos ⟨by omega, hs⟩]
      rfl
    · rw [if_neg (by omega), if_neg (by omega), if_pos k3]
      cases ks with
      | nil => cases hro
      | cons n1 f1 e1 kk1 rest =>
        simp only [rootsO, List.cons.injEq, Prod.mk.injEq] at hro
        obtain ⟨⟨rfl, rfl, rfl⟩, hrest⟩ := hro
        cases rest with
        | nil => cases hrest
        | cons n2 f2 e2 kk2 rest2 =>
          simp only [rootsO, List.cons.injEq, Prod.mk.injEq] at hrest
          obtain ⟨⟨rfl, rfl, rfl⟩, hrest2⟩ := hrest
          cases rest2 with
          | cons _ _ _ _ _ => cases hrest2
          | nil =>
            obtain ⟨p', hp', hpn⟩ := hP.a n hnl (by omega)
            obtain ⟨q', hq', hqn⟩ := hP.b n hnl (.inl k3)
            have h0 : t.drop (i + 1) = flF (d + 1) (.cons n1 f1 f2 kk1 .nil) ++ (flF (d + 1) (.cons n2 f2 e2 kk2 .nil) ++ R) := by rw [hd', flF_one, List.append_assoc]
            obtain ⟨hi1, hat1, _⟩ := at_of_drop (show t.drop (i + 1) = ⟨d + 1, n1, f1, f2⟩ :: (flF (d + 1 + 1) kk1 ++ flF (d + 1) .nil ++ (flF (d + 1) (.cons n2 f2 e2 kk2 .nil) ++ R)) from h0)
            rw [if_pos hi1, hat1, hp, hq]
            have e1 := ih (i + 1) (d + 1) n1 f1 f2 kk1 _ (by omega) (by omega) ⟨hkok.1, hkok.2.1, trivial⟩ h0
            show (entF l w t k (i + 1) ⟨d + 1, n1, f1, f2⟩).bind _ = _
            rw [e1, Option.bind_some, if_pos (by have := hkok.2.2.1.1; show (f2 : Int) ≤ e2; omega)]
            rw [ih _ (d + 1) n2 f2 e2 kk2 R (by omega) (by omega) hkok.2.2 (drop_app h0)]
            congr 1
            rw [flF_one (d + 1) n1 f1 f2 kk1 (.cons n2 f2 e2 kk2 .nil), List.length_append]
            omega
    · rw [if_neg (by omega), if_neg (by omega), if_neg (by omega), if_pos k4]
      obtain ⟨p, hp, hpn⟩ := hP.a n hnl (by omega)
      obtain ⟨q, hq, hqn⟩ := hP.b n hnl (.inr k4)
      have hat1 : i + 1 < t.length ∧ (atE t (i + 1)).node = (r : Int) := by
        cases ks with
        | nil => cases hro
        | cons n' f' e' k1 rest =>
          simp only [rootsO, List.cons.injEq, Prod.mk.injEq] at hro
          obtain ⟨⟨rfl, rfl, rfl⟩, _⟩ := hro
          obtain ⟨h1, h2, _⟩ := at_of_drop (show t.drop (i + 1) = ⟨d + 1, n', f', e'⟩ :: ((flF (d + 1 + 1) k1 ++ flF (d + 1) rest) ++ R) from hd')
          exact ⟨h1, by rw [h2]⟩
      have hsel : (if i + 1 < t.length ∧ (atE t (i + 1)).node = (ndE l n).n then (ndE l n).n else (ndE l n).kids) = (r : Int) := by
        by_cases hc : (atE t (i + 1)).node = (ndE l n).n
        · rw [if_pos ⟨hat1.1, hc⟩, ← hc, hat1.2]
        · rw [if_neg (fun hh => hc hh.2)]
          rcases hr with hr | hr
          · exact hr
          · exact absurd (by rw [hat1.2, hr]) hc
      rw [hsel]
      exact single r (by omega) hro
    · rw [if_neg (by omega), if_neg (by omega), if_neg (by omega), if_neg (by omega), if_pos k5, hp]
      obtain ⟨p', hp', hpn⟩ := hP.a n hnl (by omega)
      have := kids_of ih p (by omega) (by omega) (d + 1) e ks ((e : Int) - f).toNat (i + 1) f R hkok hch (by omega) hd'
      rw [this]
      congr 1
      omega
    · rw [if_neg (by omega), if_neg (by omega), if_neg (by omega), if_neg (by omega), if_neg (by omega)]
      rcases hh with ⟨he, hro⟩ | ⟨he, p, hp, hro⟩
      · have hks : ks = .nil := by cases ks with | nil => rfl | cons _ _ _ _ _ => cases hro
        subst hks
        rw [if_pos ⟨k6, by omega⟩]
        rfl
      · obtain ⟨p', hp', hpn⟩ := hP.a n hnl (by omega)
        rw [if_neg (by omega), hp]
        exact single p (by omega) hro
    · obtain ⟨p', hp', hpn⟩ := hP.a n hnl (by omega)
      rw [if_neg (by omega), if_neg (by omega), if_neg (by omega), if_neg (by omega), if_neg (by omega), if_neg (by omega), hp]
      exact single p (by omega) hro
end
end Go.Proofs.YtdpkhliojbeglaaDoor

/- The document's terms: part. Stage 10. -/
namespace Go.Proofs.YtdpkhliojbeglaaDoor
open Go.RowKit BS

set_option maxRecDepth 100000 in
set_option maxHeartbeats 4000000 in
theorem part_calls (k : Int) (w : World) : Calls Tryd.prog 48 #[.int .i64 k] w fun e w' => e = .returned (.tuple #[.bool (decide (pcT k ≠ 0)), .bool (decide (pcT k = 2))]) ∧ w = w' := by
  have go : ∀ (b1 b2 : Bool), decide (pcT k ≠ 0) = b1 → decide (pcT k = 2) = b2 → ∀ q3 q8 e3 e4 : Bool, decide (3 ≤ k) = q3 → decide (k ≤ 8) = q8 → (k == 3) = e3 → (k == 4) = e4 → (q3 && q8) = b1 → (e3 || e4) = b2 →
      Calls Tryd.prog 48 #[.int .i64 k] w fun e w' => e = .returned (.tuple #[.bool b1, .bool b2]) ∧ w = w' := by
    intro b1 b2 _ _ q3 q8 e3 e4 h3 h8 g3 g4 hb1 hb2
    subst hb1 hb2
    cases q3
    · cases e3
      · go_enter Tryd.func48, Tryd.ntmps48
        go_wp2_with fail
        exact bodyPost_ret (v := .tuple #[.bool false, .bool e4]) (by simp [results, Tryd.results48, go_sem]) rfl ⟨by simp, rfl⟩
      · go_enter Tryd.func48, Tryd.ntmps48
        go_wp2_with fail
        exact bodyPost_ret (v := .tuple #[.bool false, .bool true]) (by simp [results, Tryd.results48, go_sem]) rfl ⟨by simp, rfl⟩
    · cases e3
      · go_enter Tryd.func48, Tryd.ntmps48
        go_wp2_with fail
        exact bodyPost_ret (v := .tuple #[.bool q8, .bool e4]) (by simp [results, Tryd.results48, go_sem]) rfl ⟨by simp, rfl⟩
      · go_enter Tryd.func48, Tryd.ntmps48
        go_wp2_with fail
        exact bodyPost_ret (v := .tuple #[.bool q8, .bool true]) (by simp [results, Tryd.results48, go_sem]) rfl ⟨by simp, rfl⟩
  refine (go _ _ rfl rfl _ _ _ _ rfl rfl rfl rfl ?_ ?_).mono fun _ _ h => h
  · unfold pcT
    by_cases h34 : k = 3 ∨ k = 4
    · rw [if_pos h34, decide_eq_true (by omega), decide_eq_true (by omega)]; rfl
    · rw [if_neg h34]
      by_cases h38 : 3 ≤ k ∧ k ≤ 8
      · rw [if_pos h38, decide_eq_true h38.1, decide_eq_true h38.2]; rfl
      · rw [if_neg h38]
        rw [show (decide ((0 : Nat) ≠ 0)) = false from rfl, ← Bool.decide_and]
        exact decide_eq_false h38
  · unfold pcT
    by_cases h3 : k = 3
    · subst h3; rfl
    · by_cases h4 : k = 4
      · subst h4; rfl
      · rw [if_neg (by omega), show (k == 3) = false from beq_eq_false_iff_ne.2 h3, show (k == 4) = false from beq_eq_false_iff_ne.2 h4]
        split <;> rfl
end Go.Proofs.YtdpkhliojbeglaaDoor

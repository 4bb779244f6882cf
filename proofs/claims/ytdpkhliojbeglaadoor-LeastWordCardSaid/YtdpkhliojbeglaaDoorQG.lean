/- Texts put together: Ar An Am. -/
import Derived.WalkKit
/- Ranks: what stands at a place of a total order. Nothing of the program is used. -/
namespace Go.Proofs.YtdpkhliojbeglaaDoor

theorem pigeon_le : ∀ (G : Nat) (l : List Nat), l.Nodup → (∀ x ∈ l, 1 ≤ x ∧ x ≤ G) → l.length ≤ G
  | 0, l, _, h => by
    cases l with
    | nil => exact Nat.le_refl _
    | cons x l => have := h x (List.mem_cons_self ..); omega
  | G + 1, l, hn, h => by
    by_cases hm : G + 1 ∈ l
    · have h1 := pigeon_le G (l.erase (G + 1)) (hn.erase _) (fun x hx => by
        have hx2 := (List.Nodup.mem_erase_iff hn).1 hx
        have := h x hx2.2
        omega)
      rw [List.length_erase_of_mem hm] at h1
      omega
    · have := pigeon_le G l hn (fun x hx => by
        have := h x hx
        have : x ≠ G + 1 := fun e => hm (e ▸ hx)
        omega)
      omega
/-- As many numbers from 1 to G as G, no two the same, are all of them. -/
theorem pigeon : ∀ (G : Nat) (l : List Nat), l.Nodup → l.length = G → (∀ x ∈ l, 1 ≤ x ∧ x ≤ G) → ∀ n, 1 ≤ n → n ≤ G → n ∈ l
  | 0, _, _, _, _, n, h1, h2 => by omega
  | G + 1, l, hn, hl, h, n, h1, h2 => by
    by_cases hm : G + 1 ∈ l
    · by_cases hng : n = G + 1
      · rw [hng]; exact hm
      · have := pigeon G (l.erase (G + 1)) (hn.erase _) (by rw [List.length_erase_of_mem hm]; omega) (fun x hx => by
          have hx2 := (List.Nodup.mem_erase_iff hn).1 hx
          have := h x hx2.2
          omega) n h1 (by omega)
        exact List.mem_of_mem_erase this
    · have := pigeon_le G l hn (fun x hx => by
        have := h x hx
        have : x ≠ G + 1 := fun e => hm (e ▸ hx)
        omega)
      omega
variable {α : Type}
/-- How many of a list are not behind x. -/
def rankL (le : α → α → Bool) (l : List α) (x : α) : Nat := l.countP fun y => le y x
structure Total (le : α → α → Bool) : Prop where
  refl : ∀ x, le x x = true
  trans : ∀ x y z, le x y = true → le y z = true → le x z = true
  anti : ∀ x y, le x y = true → le y x = true → x = y
  total : ∀ x y, le x y = true ∨ le y x = true
theorem rank_lt (le : α → α → Bool) (T : Total le) : ∀ (l : List α) (x y : α), y ∈ l → le x y = true → x ≠ y → rankL le l x < rankL le l y
  | [], _, _, h, _, _ => by cases h
  | z :: l, x, y, h, hxy, hne => by
    have hle : rankL le l x ≤ rankL le l y := List.countP_mono_left fun w _ hw => T.trans w x y hw hxy
    have ex : rankL le (z :: l) x = rankL le l x + if le z x = true then 1 else 0 := List.countP_cons ..
    have ey : rankL le (z :: l) y = rankL le l y + if le z y = true then 1 else 0 := List.countP_cons ..
    rw [ex, ey]
    by_cases hz : y = z
    · subst hz
      rw [if_pos (T.refl y), if_neg (fun h => hne (T.anti x y hxy h))]
      omega
    · have hy : y ∈ l := by
        rcases List.mem_cons.1 h with h | h
        · exact absurd h hz
        · exact h
      have := rank_lt le T l x y hy hxy hne
      by_cases h1 : le z x = true
      · rw [if_pos h1, if_pos (T.trans z x y h1 hxy)]; omega
      · rw [if_neg h1]; split <;> omega
theorem rank_pos (le : α → α → Bool) (T : Total le) (l : List α) (x : α) (h : x ∈ l) : 1 ≤ rankL le l x ∧ rankL le l x ≤ l.length :=
  ⟨List.countP_pos_iff.2 ⟨x, h, T.refl x⟩, List.countP_le_length⟩
theorem rank_inj (le : α → α → Bool) (T : Total le) (l : List α) (x y : α) (hx : x ∈ l) (hy : y ∈ l) (h : rankL le l x = rankL le l y) : x = y := by
  by_cases hne : x = y
  · exact hne
  · rcases T.total x y with h1 | h1
    · have := rank_lt le T l x y hy h1 hne; omega
    · have := rank_lt le T l y x hx h1 (Ne.symm hne); omega
theorem ranks_nodup (le : α → α → Bool) (T : Total le) (l : List α) : ∀ (m : List α), m.Nodup → (∀ x ∈ m, x ∈ l) → (m.map (rankL le l)).Nodup
  | [], _, _ => List.nodup_nil
  | x :: m, hn, hm => by
    rw [List.map_cons, List.nodup_cons]
    rw [List.nodup_cons] at hn
    refine ⟨fun h => ?_, ranks_nodup le T l m hn.2 (fun y hy => hm y (List.mem_cons_of_mem _ hy))⟩
    obtain ⟨y, hy, e⟩ := List.mem_map.1 h
    have := rank_inj le T l y x (hm y (List.mem_cons_of_mem _ hy)) (hm x (List.mem_cons_self ..)) e
    exact hn.1 (this ▸ hy)
/-- **Each number from 1 on, up to how many there are, is the rank of just one.** -/
theorem rank_once (le : α → α → Bool) (T : Total le) (l : List α) (hn : l.Nodup) (n : Nat) (h1 : 1 ≤ n) (h2 : n ≤ l.length) : (l.map (rankL le l)).count n = 1 := by
  have hd := ranks_nodup le T l l hn (fun x hx => hx)
  have hm : n ∈ l.map (rankL le l) := pigeon l.length _ hd (by simp) (fun x hx => by
    obtain ⟨y, hy, rfl⟩ := List.mem_map.1 hx
    exact rank_pos le T l y hy) n h1 h2
  rw [hd.count, if_pos hm]
end Go.Proofs.YtdpkhliojbeglaaDoor

/- The numbers of groups, plainly: ranks by where they begin. Nothing of the program is used. -/
namespace Go.Proofs.YtdpkhliojbeglaaDoor

/-- y does not stand behind x: it begins earlier, or at the same place and holds it. -/
def leF (f : Nat → Int) (y x : Nat) : Bool := decide (f y < f x ∨ (f y = f x ∧ x ≤ y))
theorem leF_iff (f : Nat → Int) (y x : Nat) : leF f y x = true ↔ f y < f x ∨ (f y = f x ∧ x ≤ y) := decide_eq_true_iff
theorem leF_total (f : Nat → Int) : Total (leF f) where
  refl x := (leF_iff f x x).2 (.inr ⟨rfl, Nat.le_refl _⟩)
  trans x y z h1 h2 := by rw [leF_iff] at h1 h2 ⊢; omega
  anti x y h1 h2 := by rw [leF_iff] at h1 h2; omega
  total x y := by rw [leF_iff, leF_iff]; omega
/-- A group around all: it is the first, and all others are one later. -/
theorem rank_new (f : Nat → Int) (l : List Nat) (n : Nat) (hn : f n = -1) (hf : ∀ y ∈ l, -1 ≤ f y) (hl : ∀ y ∈ l, y < n) :
    rankL (leF f) (l ++ [n]) n = 1 ∧ ∀ x ∈ l, rankL (leF f) (l ++ [n]) x = rankL (leF f) l x + 1 := by
  constructor
  · have h0 : rankL (leF f) l n = 0 := List.countP_eq_zero.2 fun y hy h => by
      have h1 := (leF_iff f y n).1 h
      have := hf y hy
      have := hl y hy
      omega
    unfold rankL at h0 ⊢
    rw [List.countP_append, h0, List.countP_singleton, if_pos ((leF_iff f n n).2 (.inr ⟨rfl, Nat.le_refl _⟩))]
  · intro x hx
    have h1 := hf x hx
    have h2 := hl x hx
    unfold rankL
    rw [List.countP_append, List.countP_singleton, if_pos ((leF_iff f n x).2 (by omega))]
/-- Two orders that are the same on a list give the same ranks. -/
theorem rank_congr (f g : Nat → Int) (l : List Nat) (h : ∀ y ∈ l, f y = g y) (x : Nat) (hx : x ∈ l) : rankL (leF f) l x = rankL (leF g) l x := by
  unfold rankL
  refine List.countP_congr fun y hy => ?_
  rw [leF_iff, leF_iff, h y hy, h x hx]
end Go.Proofs.YtdpkhliojbeglaaDoor

/- Groups' numbers, plainly. Nothing of the program is used. -/
namespace Go.Proofs.YtdpkhliojbeglaaDoor

/-- The places of groups. -/
def grpF (kd : Nat → Int) (n : Nat) : List Nat := (List.range n).filter fun i => kd i == 3
/-- A node's number; 0, if it is no group. -/
def numF (kd : Nat → Int) (f : Nat → Int) (n i : Nat) : Nat := if kd i = 3 then rankL (leF f) (grpF kd n) i else 0
theorem grp_mem (kd : Nat → Int) (n i : Nat) : i ∈ grpF kd n ↔ i < n ∧ kd i = 3 := by unfold grpF; simp
theorem grp_nodup (kd : Nat → Int) (n : Nat) : (grpF kd n).Nodup := List.nodup_range.filter _
/-- As the document counts. -/
theorem num_count (kd f : Nat → Int) (n i : Nat) (h : kd i = 3) : numF kd f n i = (List.range n).countP fun k => kd k == 3 && leF f k i := by
  unfold numF rankL grpF
  rw [if_pos h, List.countP_filter]
  exact List.countP_congr fun x _ => by rw [Bool.and_comm]
theorem num_le (kd f : Nat → Int) (n i : Nat) : numF kd f n i ≤ (grpF kd n).length := by
  unfold numF
  by_cases h : kd i = 3
  · rw [if_pos h]; exact List.countP_le_length
  · rw [if_neg h]; exact Nat.zero_le _
theorem num_pos (kd f : Nat → Int) (n i : Nat) (hi : i < n) : 0 < numF kd f n i ↔ kd i = 3 := by
  unfold numF
  by_cases h : kd i = 3
  · rw [if_pos h]
    exact ⟨fun _ => h, fun _ => (rank_pos _ (leF_total f) _ i ((grp_mem kd n i).2 ⟨hi, h⟩)).1⟩
  · rw [if_neg h]
    exact ⟨fun h0 => absurd h0 (by decide), fun h1 => absurd h1 h⟩
/-- **Each number up to how many groups there are is told once.** -/
theorem told_once (kd f : Nat → Int) (n m : Nat) (h1 : 1 ≤ m) (h2 : m ≤ (grpF kd n).length) : ((List.range n).countP fun i => numF kd f n i == m) = 1 := by
  have h := rank_once (leF f) (leF_total f) (grpF kd n) (grp_nodup kd n) m h1 h2
  rw [List.count, List.countP_map] at h
  unfold grpF at h
  rw [List.countP_filter] at h
  rw [← h]
  refine List.countP_congr fun i _ => ?_
  unfold numF
  by_cases hk : kd i = 3
  · rw [if_pos hk]
    simp [Function.comp, hk, grpF]
  · rw [if_neg hk]
    have e : (kd i == 3) = false := by simpa using hk
    simp [e]
    omega
/-- In a group around all the numbers are one more. -/
theorem num_grows (kd kd' f f' : Nat → Int) (n : Nat) (hk : ∀ i, i < n → kd' i = kd i) (hn : kd' n = 3) (hf : ∀ i, i < n → f' i = f i) (hfn : f' n = -1) (hlow : ∀ i, i < n → -1 ≤ f i) :
    numF kd' f' (n + 1) n = 1 ∧ ∀ i, i < n → kd i = 3 → numF kd' f' (n + 1) i = numF kd f n i + 1 := by
  have eg : grpF kd' (n + 1) = grpF kd n ++ [n] := by
    unfold grpF
    rw [List.range_succ, List.filter_append]
    have e1 : (List.range n).filter (fun i => kd' i == 3) = (List.range n).filter fun i => kd i == 3 := List.filter_congr fun i hi => by rw [hk i (List.mem_range.1 hi)]
    rw [e1]
    simp [hn]
  have hm : ∀ y ∈ grpF kd n, y < n ∧ kd y = 3 := fun y hy => (grp_mem kd n y).1 hy
  obtain ⟨r1, r2⟩ := rank_new f' (grpF kd n) n hfn (fun y hy => by rw [hf y (hm y hy).1]; exact hlow y (hm y hy).1) (fun y hy => (hm y hy).1)
  refine ⟨by unfold numF; rw [if_pos hn, eg]; exact r1, fun i hi h3 => ?_⟩
  have hi' : i ∈ grpF kd n := (grp_mem kd n i).2 ⟨hi, h3⟩
  unfold numF
  rw [if_pos (by rw [hk i hi]; exact h3), if_pos h3, eg, r2 i hi', rank_congr f' f (grpF kd n) (fun y hy => hf y (hm y hy).1) i hi']
end Go.Proofs.YtdpkhliojbeglaaDoor

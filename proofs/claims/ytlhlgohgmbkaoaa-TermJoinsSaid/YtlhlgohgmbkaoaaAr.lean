/- Ranks: what stands at a place of a total order. Nothing of the program is used. -/
import Derived.WalkKit
namespace Go.Proofs.Ytlhlgohgmbkaoaa

theorem pigeon_le : ∀ (G : Nat) (l : List Nat), l.Nodup → (∀ x ∈ l, 1 ≤ x ∧ x ≤ G) → l.length ≤ G
  | 0, l, _, h => by
    cases l with
    | nil => exact Nat.le_refl _
    | cons x l => have := h x (List.mem_cons_self ..); omega
  | G + 1, l, hn, h => by
    by_cases hm : G + 1 ∈ l
    · have h1 := pigeon_le G (l.erase (G + 1)) (hn.erase _) (fun x hx => by
        have hx2 := (List.Nodup.mem_erase_iff hn).1 hx
        have := h x hx2.2
        omega)
      rw [List.length_erase_of_mem hm] at h1
      omega
    · have := pigeon_le G l hn (fun x hx => by
        have := h x hx
        have : x ≠ G + 1 := fun e => hm (e ▸ hx)
        omega)
      omega
/-- As many numbers from 1 to G as G, no two the same, are all of them. -/
theorem pigeon : ∀ (G : Nat) (l : List Nat), l.Nodup → l.length = G → (∀ x ∈ l, 1 ≤ x ∧ x ≤ G) → ∀ n, 1 ≤ n → n ≤ G → n ∈ l
  | 0, _, _, _, _, n, h1, h2 => by omega
  | G + 1, l, hn, hl, h, n, h1, h2 => by
    by_cases hm : G + 1 ∈ l
    · by_cases hng : n = G + 1
      · rw [hng]; exact hm
      · have := pigeon G (l.erase (G + 1)) (hn.erase _) (by rw [List.length_erase_of_mem hm]; omega) (fun x hx => by
          have hx2 := (List.Nodup.mem_erase_iff hn).1 hx
          have := h x hx2.2
          omega) n h1 (by omega)
        exact List.mem_of_mem_erase this
    · have := pigeon_le G l hn (fun x hx => by
        have := h x hx
        have : x ≠ G + 1 := fun e => hm (e ▸ hx)
        omega)
      omega
variable {α : Type}
/-- How many of a list are not behind x. -/
def rankL (le : α → α → Bool) (l : List α) (x : α) : Nat := l.countP fun y => le y x
structure Total (le : α → α → Bool) : Prop where
  refl : ∀ x, le x x = true
  trans : ∀ x y z, le x y = true → le y z = true → le x z = true
  anti : ∀ x y, le x y = true → le y x = true → x = y
  total : ∀ x y, le x y = true ∨ le y x = true
theorem rank_lt (le : α → α → Bool) (T : Total le) : ∀ (l : List α) (x y : α), y ∈ l → le x y = true → x ≠ y → rankL le l x < rankL le l y
  | [], _, _, h, _, _ => by cases h
  | z :: l, x, y, h, hxy, hne => by
    have hle : rankL le l x ≤ rankL le l y := List.countP_mono_left fun w _ hw => T.trans w x y hw hxy
    have ex : rankL le (z :: l) x = rankL le l x + if le z x = true then 1 else 0 := List.countP_cons ..
    have ey : rankL le (z :: l) y = rankL le l y + if le z y = true then 1 else 0 := List.countP_cons ..
    rw [ex, ey]
    by_cases hz : y = z
    · subst hz
      rw [if_pos (T.refl y), if_neg (fun h => hne (T.anti x y hxy h))]
      omega
    · have hy : y ∈ l := by
        rcases List.mem_cons.1 h with h | h
        · exact absurd h hz
        · exact h
      have := rank_lt le T l x y hy hxy hne
      by_cases h1 : le z x = true
      · rw [if_pos h1, if_pos (T.trans z x y h1 hxy)]; omega
      · rw [if_neg h1]; split <;> omega
theorem rank_pos (le : α → α → Bool) (T : Total le) (l : List α) (x : α) (h : x ∈ l) : 1 ≤ rankL le l x ∧ rankL le l x ≤ l.length :=
  ⟨List.countP_pos_iff.2 ⟨x, h, T.refl x⟩, List.countP_le_length⟩
theorem rank_inj (le : α → α → Bool) (T : Total le) (l : List α) (x y : α) (hx : x ∈ l) (hy : y ∈ l) (h : rankL le l x = rankL le l y) : x = y := by
  by_cases hne : x = y
  · exact hne
  · rcases T.total x y with h1 | h1
    · have := rank_lt le T l x y hy h1 hne; omega
    · have := rank_lt le T l y x hx h1 (Ne.symm hne); omega
theorem ranks_nodup (le : α → α → Bool) (T : Total le) (l : List α) : ∀ (m : List α), m.Nodup → (∀ x ∈ m, x ∈ l) → (m.map (rankL le l)).Nodup
  | [], _, _ => List.nodup_nil
  | x :: m, hn, hm => by
    rw [List.map_cons, List.nodup_cons]
    rw [List.nodup_cons] at hn
    refine ⟨fun h => ?_, ranks_nodup le T l m hn.2 (fun y hy => hm y (List.mem_cons_of_mem _ hy))⟩
    obtain ⟨y, hy, e⟩ := List.mem_map.1 h
    have := rank_inj le T l y x (hm y (List.mem_cons_of_mem _ hy)) (hm x (List.mem_cons_self ..)) e
    exact hn.1 (this ▸ hy)
/-- **Each number from 1 on, up to how many there are, is the rank of just one.** -/
theorem rank_once (le : α → α → Bool) (T : Total le) (l : List α) (hn : l.Nodup) (n : Nat) (h1 : 1 ≤ n) (h2 : n ≤ l.length) : (l.map (rankL le l)).count n = 1 := by
  have hd := ranks_nodup le T l l hn (fun x hx => hx)
  have hm : n ∈ l.map (rankL le l) := pigeon l.length _ hd (by simp) (fun x hx => by
    obtain ⟨y, hy, rfl⟩ := List.mem_map.1 hx
    exact rank_pos le T l y hy) n h1 h2
  rw [hd.count, if_pos hm]
end Go.Proofs.Ytlhlgohgmbkaoaa

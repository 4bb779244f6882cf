/- The laws of stage 12: NullNested. -/
import Derived.Test.YtajlcaconnkodaaDoorPV
import Derived.Test.YtajlcaconnkodaaDoorPJ
import Derived.Outline
import Derived.Deep.DeepCutAuto
namespace Go.Proofs.YtajlcaconnkodaaDoor
open Go.RowKit BS

/-- Marks of n nodes. -/
structure MkS (n Z : Nat) (f : Nat → Bool) (W : World) : Prop where
  mark : ∃ us : Array Value, us.size = n ∧ (∀ x, x < n → us[x]? = some (.bool (f x))) ∧ Blk W Z us 4
theorem MkS.lt {n Z : Nat} {f : Nat → Bool} {W : World} (h : MkS n Z f W) : Z < W.heap.size := by
  obtain ⟨us, _, _, h3⟩ := h.mark
  exact h3.lt
theorem MkS.cell {n Z : Nat} {f : Nat → Bool} {W : World} (h : MkS n Z f W) (x : Nat) (hx : x < n) : W.cell? ⟨Z, x, none⟩ = some (.bool (f x)) := by
  obtain ⟨us, _, h2, h3⟩ := h.mark
  exact (h3.cell x).trans (h2 x hx)
theorem MkS.fr {n Z : Nat} {f : Nat → Bool} {W : World} (h : MkS n Z f W) (x : Nat) : W.frozen? ⟨Z, x, none⟩ = false := by
  obtain ⟨us, _, _, h3⟩ := h.mark
  exact h3.frozen x
theorem MkS.below {n Z : Nat} {f : Nat → Bool} {W W' : World} (h : MkS n Z f W) (hb : Below W.heap.size W W') : MkS n Z f W' := by
  obtain ⟨us, h1, h2, h3⟩ := h.mark
  exact ⟨us, h1, h2, h3.below hb h3.lt⟩
theorem MkS.kept {n Z : Nat} {f : Nat → Bool} {W W' : World} {row : Option Nat} (h : MkS n Z f W) (hg : W.grownBy W' row) (hne : some Z ≠ row) : MkS n Z f W' := by
  obtain ⟨us, h1, h2, h3⟩ := h.mark
  exact ⟨us, h1, h2, h3.kept hg hne⟩
theorem MkS.set {n Z : Nat} {f : Nat → Bool} {W : World} (h : MkS n Z f W) (i : Nat) (b : Bool) : MkS n Z (fun x => if x = i then b else f x) (W.setCell ⟨Z, i, none⟩ (.bool b)) := by
  obtain ⟨us, h1, h2, h3⟩ := h.mark
  refine ⟨us.setIfInBounds i (.bool b), by simp [h1], fun x hx => ?_, h3.set i _⟩
  show _ = some (Value.bool (if x = i then b else f x))
  by_cases hxi : x = i
  · subst hxi
    rw [if_pos rfl, Array.getElem?_setIfInBounds_self_of_lt (by omega)]
  · rw [if_neg hxi, Array.getElem?_setIfInBounds_ne (Ne.symm hxi)]
    exact h2 x hx
theorem MkS.congr {n Z : Nat} {f g : Nat → Bool} {W : World} (h : MkS n Z f W) (e : ∀ x, x < n → f x = g x) : MkS n Z g W := by
  obtain ⟨us, h1, h2, h3⟩ := h.mark
  exact ⟨us, h1, fun x hx => by rw [← e x hx]; exact h2 x hx, h3⟩
/-- A step that goes through: it closes the node that is open last, or opens one. -/
theorem ns_some {l : List NdN} {q s : Nat} {i0 : Bool} {op : List Nat} {σ : Nat → Bool} {st : List Nat × (Nat → Bool)} (h : nsStep l q s i0 (op, σ) = some st) :
    s / 2 < l.length ∧ ((s % 2 = 1 ∧ ∃ r, op = s / 2 :: r ∧ st = (r, σ)) ∨
      (s % 2 = 0 ∧ σ (s / 2) = false ∧ canF l (s / 2) = true ∧ st = (s / 2 :: op, fun y => decide (y = s / 2) || σ y) ∧ ((i0 = true ∧ s / 2 = q) ∨ (i0 = false ∧ ∃ t r, ∃ ht : t < l.length, op = t :: r ∧ entryB l l[t] (s / 2) = true)))) := by
  unfold nsStep at h
  split at h
  · cases h
  · rename_i h1
    refine ⟨by omega, ?_⟩
    split at h
    · rename_i h2
      left
      refine ⟨h2, ?_⟩
      cases op with
      | nil => cases h
      | cons t r =>
        simp only at h
        split at h
        · rename_i h3
          exact ⟨r, by rw [h3], (Option.some.inj h).symm⟩
        · cases h
    · rename_i h2
      right
      split at h
      · cases h
      · rename_i h3
        simp only at h3
        have h3a : σ (s / 2) = false := by
          cases hh : σ (s / 2) with
          | false => rfl
          | true => exact absurd (.inl hh) h3
        have h3b : canF l (s / 2) = true := by
          cases hh : canF l (s / 2) with
          | true => rfl
          | false => exact absurd (.inr hh) h3
        split at h
        · rename_i h4
          split at h
          · rename_i h5
            exact ⟨by omega, h3a, h3b, (Option.some.inj h).symm, .inl ⟨h4, h5⟩⟩
          · cases h
        · rename_i h4
          cases op with
          | nil => cases h
          | cons t r =>
            simp only at h
            cases ht : l[t]? with
            | none => rw [ht] at h; cases h
            | some U =>
              rw [ht] at h
              simp only at h
              obtain ⟨hlt, rfl⟩ := List.getElem?_eq_some_iff.1 ht
              split at h
              · rename_i h5
                exact ⟨by omega, h3a, h3b, (Option.some.inj h).symm, .inr ⟨by simpa using h4, t, r, hlt, rfl, h5⟩⟩
              · cases h
/-- A node is opened only as a part of the one that is open. -/
theorem entry_parts (l : List NdN) (hr : rightT l = true) (t x : Nat) (ht : t < l.length) (h : entryB l l[t] x = true) :
    ((l[t].kind = 7 ∨ l[t].kind = 8) ∧ l[t].kids = (x : Int)) ∨ (l[t].kind = 3 ∧ ∃ p : Nat, p < l.length ∧ ((l[t].kids = (x : Int) ∧ l[t].n = (p : Int) ∧ p ≠ x) ∨ (l[t].kids = (p : Int) ∧ l[t].n = (x : Int) ∧ p ≠ x))) ∨
      (l[t].kind = 4 ∧ ∃ p : Nat, p < l.length ∧ ((l[t].kids = (x : Int) ∧ l[t].n = (p : Int) ∧ p ≠ x) ∨ (l[t].kids = (p : Int) ∧ l[t].n = (x : Int) ∧ p ≠ x ∧ canF l p = false))) := by
  unfold entryB at h
  have h := of_decide_eq_true h
  obtain ⟨h1, h5, h6, h4⟩ := h
  rcases nodek_parts l hr t ht with ⟨h0, hk, hn, _⟩ | ⟨a, h0, hk, hn, h3, _⟩ | ⟨a, b, h0, hk, hn, h3, h4', _, h6'⟩
  · omega
  · rcases pc_one h0 with h | h | h | h
    · exact absurd h h5
    · exact absurd h h6
    all_goals
      refine .inl ⟨by omega, ?_⟩
      omega
  · have hlb := lowV_le l b
    rcases pc_two h0 with h | h
    · refine .inr (.inl ⟨h, ?_⟩)
      rcases h1 with h1 | h1
      · exact ⟨b, by omega, .inl ⟨h1, hn, by omega⟩⟩
      · exact ⟨a, by omega, .inr ⟨hk, h1, by omega⟩⟩
    · refine .inr (.inr ⟨h, ?_⟩)
      rcases h1 with h1 | h1
      · exact ⟨b, by omega, .inl ⟨h1, hn, by omega⟩⟩
      · refine ⟨a, by omega, .inr ⟨hk, h1, by omega, ?_⟩⟩
        have e : l[t].kids.toNat = a := by rw [hk]; omega
        rw [e] at h4
        cases hc : canF l a with
        | false => rfl
        | true => exact absurd ⟨h, h1.symm, hc⟩ h4
theorem OwS.pop {base : Nat} {v : Value} {L : List Nat} {x : Nat} {W : World} (h : OwS base v (L ++ [x]) W) : ∃ g c, v = .slice (some ⟨g, 0, none⟩) (L.length + 1) c ∧ g < W.heap.size ∧ base ≤ g ∧ L.length + 1 ≤ c ∧ W.cell? ⟨g, L.length, none⟩ = some (.int .i64 (x : Nat)) ∧ OwS base (.slice (some ⟨g, 0, none⟩) L.length c) L W := by
  unfold OwS at h
  rw [List.length_append, List.map_append] at h
  obtain ⟨g, c, e, h1, h2, h3, h4, h5⟩ := owns_last h
  exact ⟨g, c, e, h2, h1, h3, h4, h5⟩
theorem can_root (l : List NdN) (hr : rightT l = true) : canF l (l.length - 1) = (wordI l && decide ((wordL l).length = 0)) := by
  have hpos := right_pos l hr
  obtain ⟨e1, e2⟩ := word_is l hr
  rw [e1, e2, Bool.eq_iff_iff, can_word l hr _ (by omega)]
  unfold wdI wdL
  cases wdF l (l.length - 1) with
  | none => simp
  | some L => cases L <;> simp
end Go.Proofs.YtajlcaconnkodaaDoor

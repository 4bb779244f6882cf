/- Plain facts on runs: they lie apart, ascending, and are together the set. -/
import Derived.Test.YtkkhibamkdgffaaDoorSz
namespace Go.Proofs.YtkkhibamkdgffaaDoor
open Go.RowKit BS

structure RunsInv (f : Nat → Bool) (k : Nat) (rs : List (Nat × Nat)) : Prop where
  ok : ∀ r ∈ rs, r.1 ≤ r.2 ∧ r.2 < k
  apart : rs.Pairwise fun r r' => r.2 + 2 ≤ r'.1
  all : ∀ j, j < k → (f j = true ↔ ∃ r ∈ rs, r.1 ≤ j ∧ j ≤ r.2)

theorem runsInv (f : Nat → Bool) : ∀ k, k ≤ 256 → RunsInv f k (runsOf (el f k))
  | 0, _ => ⟨fun _ h => by simp [el, runsOf] at h, by simp [el, runsOf], fun j hj => by omega⟩
  | k + 1, hk => by
    have ih := runsInv f k (by omega)
    rw [el_succ]
    by_cases hf : f k = true
    · rw [hf, if_pos rfl, runsOf_snoc]
      generalize runsOf (el f k) = rs at *
      rcases nil_or_snoc rs with rfl | ⟨rs', a, b, rfl⟩
      · rw [runStep_none]
        refine ⟨fun r hr => ?_, by simp, fun j hj => ?_⟩
        · simp at hr; subst hr; exact ⟨Nat.le_refl _, by simp⟩
        · by_cases hjk : j = k
          · subst hjk; simp [hf]
          · have := ih.all j (by omega)
            simp at this
            simp [this]; omega
      · have hb := ih.ok (a, b) (by simp)
        simp only at hb
        have hap := List.pairwise_append.1 ih.apart
        by_cases hbk : (b + 1) % 256 = k
        · rw [runStep_grow _ _ _ _ hbk]
          have hb1 : b + 1 = k := by omega
          refine ⟨fun r hr => ?_, ?_, fun j hj => ?_⟩
          · rcases List.mem_append.1 hr with h | h
            · have := ih.ok r (by simp [h]); exact ⟨this.1, by omega⟩
            · simp at h; subst h; simp only; omega
          · refine List.pairwise_append.2 ⟨hap.1, by simp, fun r hr r' hr' => ?_⟩
            simp at hr'; subst hr'
            exact hap.2.2 r hr (a, b) (by simp)
          · by_cases hjk : j = k
            · subst hjk; simp only [hf, true_iff]; exact ⟨(a, j), by simp, by simp only; omega⟩
            · rw [ih.all j (by omega)]
              constructor
              · rintro ⟨r, hr, h1, h2⟩
                rcases List.mem_append.1 hr with h | h
                · exact ⟨r, by simp [h], h1, h2⟩
                · simp at h; subst h; exact ⟨(a, k), by simp, h1, by simp only at h2 ⊢; omega⟩
              · rintro ⟨r, hr, h1, h2⟩
                rcases List.mem_append.1 hr with h | h
                · exact ⟨r, by simp [h], h1, h2⟩
                · simp at h; subst h; exact ⟨(a, b), by simp, h1, by simp only at h2 ⊢; omega⟩
        · rw [runStep_new _ _ _ _ hbk]
          have hb1 : b + 1 ≠ k := fun e => hbk (by omega)
          refine ⟨fun r hr => ?_, ?_, fun j hj => ?_⟩
          · rcases List.mem_append.1 hr with h | h
            · have := ih.ok r h; exact ⟨this.1, by omega⟩
            · simp at h; subst h; exact ⟨Nat.le_refl _, by simp⟩
          · refine List.pairwise_append.2 ⟨ih.apart, by simp, fun r hr r' hr' => ?_⟩
            simp at hr'; subst hr'
            rcases List.mem_append.1 hr with h | h
            · have h1 := hap.2.2 r h (a, b) (by simp)
              simp only at h1 ⊢; omega
            · simp at h; subst h; simp only; omega
          · by_cases hjk : j = k
            · subst hjk; simp only [hf, true_iff]; exact ⟨(j, j), by simp, Nat.le_refl _, Nat.le_refl _⟩
            · rw [ih.all j (by omega)]
              constructor
              · rintro ⟨r, hr, h1, h2⟩
                exact ⟨r, List.mem_append_left _ hr, h1, h2⟩
              · rintro ⟨r, hr, h1, h2⟩
                rcases List.mem_append.1 hr with h | h
                · exact ⟨r, h, h1, h2⟩
                · simp at h; subst h; simp only at h1 h2; omega
    · rw [if_neg hf, List.append_nil]
      refine ⟨fun r hr => ⟨(ih.ok r hr).1, by have := (ih.ok r hr).2; omega⟩, ih.apart, fun j hj => ?_⟩
      by_cases hjk : j = k
      · subst hjk
        refine ⟨fun h => absurd h hf, ?_⟩
        rintro ⟨r, hr, h1, h2⟩
        have := (ih.ok r hr).2; omega
      · exact ih.all j (by omega)

/-- The runs of a set. -/
def rsOf (s : BitVec 256) : List (Nat × Nat) := runsOf (el s.getLsbD 256)
theorem rsOf_inv (s : BitVec 256) : RunsInv s.getLsbD 256 (rsOf s) := runsInv _ 256 (Nat.le_refl _)
theorem rsOf_ok (s : BitVec 256) (i : Nat) (h : i < (rsOf s).length) : (rsOf s)[i].1 ≤ (rsOf s)[i].2 ∧ (rsOf s)[i].2 < 256 := (rsOf_inv s).ok _ (List.getElem_mem h)
theorem rsOf_apart (s : BitVec 256) (i : Nat) (h : i + 1 < (rsOf s).length) : (rsOf s)[i].2 + 2 ≤ (rsOf s)[i + 1].1 :=
  List.pairwise_iff_getElem.1 (rsOf_inv s).apart i (i + 1) (by omega) h (by omega)
theorem rsOf_len (s : BitVec 256) : (rsOf s).length ≤ 256 := Nat.le_trans (runsOf_len _) (el_len _ _)

/-- The sets of some runs, together. -/
def orAll (rs : List (Nat × Nat)) : BitVec 256 := rs.foldl (fun t r => t ||| range r.1 r.2) 0
theorem orAll_snoc (rs : List (Nat × Nat)) (r : Nat × Nat) : orAll (rs ++ [r]) = orAll rs ||| range r.1 r.2 := by simp [orAll]
theorem get_orAll (rs : List (Nat × Nat)) (j : Nat) (hj : j < 256) : (orAll rs).getLsbD j = true ↔ ∃ r ∈ rs, r.1 ≤ j ∧ j ≤ r.2 := by
  suffices h : ∀ t, (rs.foldl (fun t r => t ||| range r.1 r.2) t).getLsbD j = true ↔ (t.getLsbD j = true ∨ ∃ r ∈ rs, r.1 ≤ j ∧ j ≤ r.2) by
    have := h 0; simpa [orAll] using this
  induction rs with
  | nil => intro t; simp
  | cons r rs ih =>
    intro t
    rw [List.foldl_cons, ih, BitVec.getLsbD_or, range, get_ofFn]
    simp only [hj, decide_true, Bool.true_and, Bool.or_eq_true, Bool.and_eq_true, decide_eq_true_eq, List.mem_cons, exists_eq_or_imp]
    constructor
    · rintro ((h | h) | h)
      · exact .inl h
      · exact .inr (.inl h)
      · exact .inr (.inr h)
    · rintro (h | h | h)
      · exact .inl (.inl h)
      · exact .inl (.inr h)
      · exact .inr h
theorem orAll_rsOf (s : BitVec 256) : orAll (rsOf s) = s := by
  apply BitVec.eq_of_getLsbD_eq
  intro j hj
  rw [Bool.eq_iff_iff, get_orAll _ _ hj]
  exact ((rsOf_inv s).all j hj).symm

theorem runCells_get (rs : List (Nat × Nat)) (j : Nat) (h : j < rs.length) : (runCells rs)[j * 2]? = some (.int .u8 (rs[j].1 : Int)) ∧ (runCells rs)[j * 2 + 1]? = some (.int .u8 (rs[j].2 : Int)) := by
  induction rs generalizing j with
  | nil => simp at h
  | cons r rs ih =>
    cases j with
    | zero => simp [runCells]
    | succ j =>
      have := ih j (by simpa using h)
      simp only [runCells, List.flatMap_cons] at this ⊢
      rw [show (j + 1) * 2 = j * 2 + 2 by omega]
      simpa using this

/-- Block g holds the runs rs. -/
def RowAt (g : Nat) (rs : List (Nat × Nat)) (W : World) : Prop := g < W.heap.size ∧ ∀ j (h : j < rs.length), W.cell? ⟨g, j * 2, none⟩ = some (.int .u8 (rs[j].1 : Int)) ∧ W.cell? ⟨g, j * 2 + 1, none⟩ = some (.int .u8 (rs[j].2 : Int))
theorem RowAt.below {g : Nat} {rs : List (Nat × Nat)} {W W' : World} (h : RowAt g rs W) (hb : Below W.heap.size W W') : RowAt g rs W' :=
  ⟨Nat.lt_of_lt_of_le h.1 hb.size, fun j hj => ⟨(hb.cell (p := ⟨g, j * 2, none⟩) h.1).trans (h.2 j hj).1, (hb.cell (p := ⟨g, j * 2 + 1, none⟩) h.1).trans (h.2 j hj).2⟩⟩
theorem RowAt.set {g : Nat} {rs : List (Nat × Nat)} {W : World} (h : RowAt g rs W) {B : Nat} (hne : g ≠ B) (i : Nat) (v : Value) : RowAt g rs (W.setCell ⟨B, i, none⟩ v) := by
  have hs := Below.heap_setCell W ⟨B, i, none⟩ v g hne
  exact ⟨by simpa using h.1, fun j hj => ⟨(World.cell?_of_block (w := W) (a := ⟨g, j * 2, none⟩) hs).trans (h.2 j hj).1, (World.cell?_of_block (w := W) (a := ⟨g, j * 2 + 1, none⟩) hs).trans (h.2 j hj).2⟩⟩
/-- What Runs hands back: a slice of that many, in a new block, where there are any. -/
theorem row_of_owns {base : Nat} {e : TypeId} {v : Value} {rs : List (Nat × Nat)} {W : World} (h : W.ownsRow base e 2 v rs.length (runCells rs)) :
    ∃ a cap, v = .slice a rs.length cap ∧ (rs ≠ [] → ∃ g, a = some ⟨g, 0, none⟩ ∧ base ≤ g ∧ RowAt g rs W) := by
  rcases h.2 with ⟨rfl, h0⟩ | ⟨g, cap, cur, rfl, hb, hg, _, _, _, _⟩
  · exact ⟨none, 0, by rw [h0], fun hne => absurd (List.eq_nil_of_length_eq_zero h0) hne⟩
  · refine ⟨_, cap, rfl, fun _ => ⟨g, rfl, hb, (Array.getElem?_eq_some_iff.1 hg).1, fun j hj => ?_⟩⟩
    have h1 := h.cellAt (j * 2) (by omega)
    have h2 := h.cellAt (j * 2 + 1) (by omega)
    exact ⟨h1.trans (runCells_get rs j hj).1, h2.trans (runCells_get rs j hj).2⟩
end Go.Proofs.YtkkhibamkdgffaaDoor

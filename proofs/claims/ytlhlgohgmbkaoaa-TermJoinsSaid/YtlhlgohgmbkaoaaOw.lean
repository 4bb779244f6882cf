/- Rows of a call's own: kept where their blocks are; nodes side by side. -/
import Derived.Test.YtlhlgohgmbkaoaaAb
import Derived.Laws.AppendOwn
import Derived.Laws.OwnMore
import Derived.Deep.AppendLies
namespace Go.Proofs.Ytlhlgohgmbkaoaa
open Go.RowKit BS

/-- A row of the call's own, kept where its block is. -/
theorem owns_keep {W W' : World} {base : Nat} {e : TypeId} {size : Nat} {v : Value} {n : Nat} {xs : List Value} (h : W.ownsRow base e size v n xs) (hb : ∀ g, v.ownBlock = some g → W'.heap[g]? = W.heap[g]?) : W'.ownsRow base e size v n xs := by
  refine ⟨h.1, ?_⟩
  rcases h.2 with hn | ⟨g, cap, cur, rfl, h1, h2, h3⟩
  · exact .inl hn
  · exact .inr ⟨g, cap, cur, rfl, h1, (hb g rfl).trans h2, h3⟩
theorem owns_form {W : World} {base : Nat} {e : TypeId} {size : Nat} {v : Value} {n : Nat} {xs : List Value} (h : W.ownsRow base e size v n xs) : ∃ a cap, v = .slice a n cap := by
  rcases h.2 with ⟨rfl, rfl⟩ | ⟨g, cap, cur, rfl, _⟩
  · exact ⟨_, _, rfl⟩
  · exact ⟨_, _, rfl⟩
theorem owns_last {W : World} {base : Nat} {e : TypeId} {v x : Value} {n : Nat} {xs : List Value} (h : W.ownsRow base e 1 v (n + 1) (xs ++ [x])) :
    ∃ g cap, v = .slice (some ⟨g, 0, none⟩) (n + 1) cap ∧ base ≤ g ∧ g < W.heap.size ∧ n + 1 ≤ cap ∧ W.cell? ⟨g, n, none⟩ = some x ∧ W.ownsRow base e 1 (.slice (some ⟨g, 0, none⟩) n cap) n xs := by
  have hl := h.1
  rw [List.length_append, List.length_singleton, Nat.mul_one] at hl
  rcases h.2 with ⟨_, h0⟩ | ⟨g, cap, cur, rfl, h1, h2, h3, h4, h5, h6⟩
  · omega
  · have hlt : g < W.heap.size := (Array.getElem?_eq_some_iff.1 h2).1
    refine ⟨g, cap, rfl, h1, hlt, h3, ?_, ⟨by omega, .inr ⟨g, cap, cur, rfl, h1, h2, by omega, h4, h5, ?_⟩⟩⟩
    · have hc : W.cell? ⟨g, n, none⟩ = cur[n]? := by simp [World.cell?, h2]
      have := congrArg (fun l : List Value => l[n]?) h6
      simp only [Nat.mul_one] at this
      rw [List.getElem?_take, if_pos (show n < n + 1 by omega), List.getElem?_append_right (show xs.length ≤ n by omega), show n - xs.length = 0 by omega] at this
      rw [hc, ← Array.getElem?_toList, this]
      rfl
    · have := congrArg (List.take (n * 1)) h6
      rw [List.take_take, show min (n * 1) ((n + 1) * 1) = n * 1 by omega, List.take_append_of_le_length (show n * 1 ≤ xs.length by omega), List.take_of_length_le (show xs.length ≤ n * 1 by omega)] at this
      exact this

/-! ### Nodes side by side -/
def ndCells (l : List NdN) : List Value := l.flatMap fun x => (ndA x).toList
theorem ndCells_app (l m : List NdN) : ndCells (l ++ m) = ndCells l ++ ndCells m := by simp [ndCells]
theorem ndCells_len (l : List NdN) : (ndCells l).length = l.length * 8 := by
  induction l with
  | nil => rfl
  | cons x l ih =>
    have e : ndCells (x :: l) = (ndA x).toList ++ ndCells l := by simp [ndCells]
    rw [e, List.length_append, ih, List.length_cons, show (ndA x).toList.length = 8 from rfl]
    omega
theorem ndCells_get : ∀ (l : List NdN) (i j : Nat) (h : i < l.length) (_hj : j < 8), (ndCells l)[i * 8 + j]? = (ndA l[i])[j]?
  | [], _, _, h, _ => absurd h (by simp)
  | x :: l, i, j, h, hj => by
    have e : ndCells (x :: l) = (ndA x).toList ++ ndCells l := by simp [ndCells]
    rw [e]
    cases i with
    | zero =>
      rw [List.getElem?_append_left (by rw [show (ndA x).toList.length = 8 from rfl]; omega), Nat.zero_mul, Nat.zero_add]
      simp
    | succ i =>
      rw [List.getElem?_append_right (by rw [show (ndA x).toList.length = 8 from rfl]; omega), show (ndA x).toList.length = 8 from rfl, show (i + 1) * 8 + j - 8 = i * 8 + j by omega]
      exact ndCells_get l i j (by simpa using h) hj
theorem ndCells_one (l : List NdN) : ∀ u ∈ ndCells l, u.oneCell' = true := fun u hu => by
  unfold ndCells at hu
  obtain ⟨x, _, hx⟩ := List.mem_flatMap.1 hu
  have h1 : ((ndA x).toList.all fun y => y.oneCell') = true := by simp [ndA, Value.oneCell']
  exact List.all_eq_true.1 h1 u hx
theorem nodes_news {l : List NdN} {g off : Nat} {W : World} (h : NodesAt l (some ⟨g, off, none⟩) W) : ∀ j u, (ndCells l)[j]? = some u → W.cell? ((⟨g, off, none⟩ : Addr).add j) = some u := fun j u hu => by
  have hj : j < (ndCells l).length := (List.getElem?_eq_some_iff.1 hu).1
  rw [ndCells_len] at hj
  have hne : l ≠ [] := by rintro rfl; simp at hj
  obtain ⟨g', off', e, _, hc⟩ := h hne
  cases e
  have h1 := hc (j / 8) (by omega) (j % 8) (by omega)
  rw [← ndCells_get l (j / 8) (j % 8) (by omega) (by omega), show off + j / 8 * 8 + j % 8 = off + j by omega, show j / 8 * 8 + j % 8 = j by omega, hu] at h1
  have e : (⟨g, off, none⟩ : Addr).add j = ⟨g, off + j, none⟩ := by
    unfold Addr.add
    by_cases h0 : j = 0
    · subst h0; rfl
    · rw [if_neg h0]
  rw [e]
  exact h1
end Go.Proofs.Ytlhlgohgmbkaoaa

/- Texts put together: Xd Xj. -/
import Derived.Test.YtdpkhliojbeglaaDoorQI
import Derived.Test.YtdpkhliojbeglaaDoorQJ
import Derived.Test.YtdpkhliojbeglaaDoorQE
import Derived.Test.YtdpkhliojbeglaaDoorQW
import Derived.Test.YtdpkhliojbeglaaDoorQN
import Derived.Test.YtdpkhliojbeglaaDoorQC
import Derived.Laws.Slices
/- The document's Can. Stage 12. -/
namespace Go.Proofs.YtdpkhliojbeglaaDoor
open Go.RowKit BS

theorem boolZ_get' (n k : Nat) (h : k < n) : (madeCells #[Value.bool false] n)[k]? = some (.bool false) := by
  unfold madeCells
  rw [Array.getElem?_map, Array.getElem?_range, if_pos h]
  show some (#[Value.bool false][k % 1]!) = _
  rw [Nat.mod_one]
  rfl
/-- What stands of node x when i nodes are done. -/
def cnI (l : List NdN) (i x : Nat) : Bool := if x < i then canF l x else false
end Go.Proofs.YtdpkhliojbeglaaDoor

/- The document's Word. Stage 12. -/
namespace Go.Proofs.YtdpkhliojbeglaaDoor
open Go.RowKit BS

/-- What Word tells. -/
def wordL (l : List NdN) : List Nat := (wordT l).getD []
def wordI (l : List NdN) : Bool := (wordT l).isSome
theorem word_is (l : List NdN) (hr : rightT l = true) : wordL l = wdL l (l.length - 1) ∧ wordI l = wdI l (l.length - 1) := by
  unfold wordL wordI wordT wdL wdI
  rw [if_pos hr]
  exact ⟨rfl, rfl⟩
theorem word_not (l : List NdN) (hr : rightT l = false) : wordL l = [] ∧ wordI l = false := by
  unfold wordL wordI wordT
  rw [hr]
  exact ⟨rfl, rfl⟩
theorem right_pos (l : List NdN) (hr : rightT l = true) : 0 < l.length := by
  cases l with
  | nil => revert hr; decide
  | cons x r => simp
/-- What stands of node x when i nodes are done. -/
def pL (l : List NdN) (i x : Nat) : List Nat := if x < i then wdL l x else []
def pI (l : List NdN) (i x : Nat) : Bool := if x < i then wdI l x else false
theorem p_ne (l : List NdN) (i x : Nat) (h : x ≠ i) : pL l i x = pL l (i + 1) x ∧ pI l i x = pI l (i + 1) x := by
  unfold pL pI
  by_cases h1 : x < i
  · rw [if_pos h1, if_pos (by omega), if_pos h1, if_pos (by omega)]; exact ⟨rfl, rfl⟩
  · rw [if_neg h1, if_neg (by omega), if_neg h1, if_neg (by omega)]; exact ⟨rfl, rfl⟩
theorem p_at (l : List NdN) (i : Nat) : pL l (i + 1) i = wdL l i ∧ pI l (i + 1) i = wdI l i := by
  unfold pL pI
  rw [if_pos (by omega), if_pos (by omega)]; exact ⟨rfl, rfl⟩
theorem p_now (l : List NdN) (i : Nat) : pL l i i = [] ∧ pI l i i = false := by
  unfold pL pI
  rw [if_neg (by omega), if_neg (by omega)]; exact ⟨rfl, rfl⟩
theorem pw_none {l : List NdN} {n T Z i : Nat} {W : World} (h : WdS n T Z (pL l i) (pI l i) W) (h1 : wdL l i = []) (h2 : wdI l i = false) : WdS n T Z (pL l (i + 1)) (pI l (i + 1)) W :=
  h.congr (fun x _ => by
    by_cases hx : x = i
    · rw [hx, (p_at l i).1, (p_now l i).1, h1]
    · exact (p_ne l i x hx).1) (fun x _ => by
    by_cases hx : x = i
    · rw [hx, (p_at l i).2, (p_now l i).2, h2]
    · exact (p_ne l i x hx).2)
theorem pw_mark {l : List NdN} {n T Z i : Nat} {W : World} (h : WdS n T Z (pL l i) (pI l i) W) (h1 : wdL l i = []) (b : Bool) (h2 : wdI l i = b) : WdS n T Z (pL l (i + 1)) (pI l (i + 1)) (W.setCell ⟨Z, i, none⟩ (.bool b)) :=
  (h.setI i b).congr (fun x _ => by
    by_cases hx : x = i
    · rw [hx, (p_at l i).1, (p_now l i).1, h1]
    · exact (p_ne l i x hx).1) (fun x _ => by
    by_cases hx : x = i
    · rw [if_pos hx, hx, (p_at l i).2, h2]
    · rw [if_neg hx]; exact (p_ne l i x hx).2)
theorem pw_both {l : List NdN} {n T Z i : Nat} {fL : Nat → List Nat} {fI : Nat → Bool} {W : World} {v : Value} (h : WdS n T Z fL fI W) (o1 : ∀ x, x ≠ i → fL x = pL l i x) (o2 : ∀ x, x ≠ i → fI x = pI l i x) (hv : RowV (wdL l i) v W) (b : Bool) (h2 : wdI l i = b) :
    WdS n T Z (pL l (i + 1)) (pI l (i + 1)) ((W.setCell ⟨T, i, none⟩ v).setCell ⟨Z, i, none⟩ (.bool b)) :=
  ((h.setL i hv).setI i b).congr (fun x _ => by
    by_cases hx : x = i
    · rw [if_pos hx, hx, (p_at l i).1]
    · rw [if_neg hx, o1 x hx]; exact (p_ne l i x hx).1) (fun x _ => by
    by_cases hx : x = i
    · rw [if_pos hx, hx, (p_at l i).2, h2]
    · rw [if_neg hx, o2 x hx]; exact (p_ne l i x hx).2)
theorem rowZ_get (n k : Nat) (h : k < n) : (madeCells #[Value.slice none 0 0] n)[k]? = some (.slice none 0 0) := by
  unfold madeCells
  rw [Array.getElem?_map, Array.getElem?_range, if_pos h]
  show some (#[Value.slice none 0 0][k % 1]!) = _
  rw [Nat.mod_one]
  rfl
theorem WdS.drew {n T Z : Nat} {fL : Nat → List Nat} {fI : Nat → Bool} {W : World} (h : WdS n T Z fL fI W) : WdS n T Z fL fI W.drew := h.below (Below.refl _ _).drew
theorem wds_two (l : List NdN) (w1 : World) (vs us : Array Value) (h1 : vs.size = l.length) (h2 : us.size = l.length) (h3 : ∀ x, x < l.length → vs[x]? = some (.slice none 0 0)) (h4 : ∀ x, x < l.length → us[x]? = some (.bool false)) :
    WdS l.length w1.heap.size (w1.heap.size + 1) (pL l 0) (pI l 0) ((w1.drew.alloc (.cells vs 23)).alloc (.cells us 4)) ∧ Below w1.heap.size w1 ((w1.drew.alloc (.cells vs 23)).alloc (.cells us 4)) := by
  have hB : Below w1.heap.size w1 ((w1.drew.alloc (.cells vs 23)).alloc (.cells us 4)) := ((Below.refl w1.heap.size w1).drew.alloc (Nat.le_refl _) _).alloc (by simp) _
  refine ⟨⟨by omega, ⟨vs, h1, fun x hx => ⟨_, h3 x hx, ?_⟩, (Blk.new w1.drew vs 23).alloc _⟩, us, h2, fun x hx => ?_, ?_⟩, hB⟩
  · rw [pL, if_neg (by omega)]; exact RowV.nil _
  · rw [h4 x hx, pI, if_neg (by omega)]
  · have := Blk.new (w1.drew.alloc (.cells vs 23)) us 4
    rw [World.size_alloc] at this
    exact this
theorem wds_two' (l : List NdN) (w1 : World) (vs us : Array Value) (h1 : vs.size = l.length) (h2 : us.size = l.length) (h3 : ∀ x, x < l.length → vs[x]? = some (.slice none 0 0)) (h4 : ∀ x, x < l.length → us[x]? = some (.bool false)) :
    WdS l.length (w1.heap.size + 1) w1.heap.size (pL l 0) (pI l 0) ((w1.drew.alloc (.cells us 4)).alloc (.cells vs 23)) ∧ Below w1.heap.size w1 ((w1.drew.alloc (.cells us 4)).alloc (.cells vs 23)) := by
  have hB : Below w1.heap.size w1 ((w1.drew.alloc (.cells us 4)).alloc (.cells vs 23)) := ((Below.refl w1.heap.size w1).drew.alloc (Nat.le_refl _) _).alloc (by simp) _
  refine ⟨⟨by omega, ⟨vs, h1, fun x hx => ⟨_, h3 x hx, ?_⟩, ?_⟩, us, h2, fun x hx => ?_, (Blk.new w1.drew us 4).alloc _⟩, hB⟩
  · rw [pL, if_neg (by omega)]; exact RowV.nil _
  · have := Blk.new (w1.drew.alloc (.cells us 4)) vs 23
    rw [World.size_alloc] at this
    exact this
  · rw [h4 x hx, pI, if_neg (by omega)]
theorem below_set2 {n B C : Nat} {W W' : World} (hb : Below n W W') (hB : n ≤ B) (hC : n ≤ C) (i : Nat) (v u : Value) : Below n W ((W'.setCell ⟨B, i, none⟩ v).setCell ⟨C, i, none⟩ u) := below_set (below_set hb hB i v) hC i u
end Go.Proofs.YtdpkhliojbeglaaDoor

/- Words of a pattern, plainly: what LexBack says of them. -/
import Derived.Test.YtpaecjjelpjopaaGreatDoorVm
namespace Go.Proofs.YtpaecjjelpjopaaGreatDoor
open Go.RowKit BS

def endAt : Nat → List WN → Nat → Nat
  | a, _, 0 => a
  | a, [], _ + 1 => a
  | _, w :: l, i + 1 => endAt w.fin l i
theorem endAt_succ : ∀ (l : List WN) (a i : Nat) (h : i < l.length), endAt a l (i + 1) = l[i].fin
  | w :: l, a, 0, _ => by cases l <;> rfl
  | w :: l, a, i + 1, h => endAt_succ l w.fin i (by simpa using h)
theorem side_at : ∀ (l : List WN) (a e : Nat), SideW a e l → ∀ i (h : i < l.length), l[i].pos = endAt a l i ∧ endAt a l i < l[i].fin ∧ OkW l[i]
  | _ :: _, _, _, hs, 0, _ => ⟨hs.1, hs.2.1, hs.2.2.1⟩
  | w :: l, _, e, hs, i + 1, h => side_at l w.fin e hs.2.2.2 i (by simpa using h)
theorem side_end : ∀ (l : List WN) (a e : Nat), SideW a e l → endAt a l l.length = e
  | [], _, _, hs => hs
  | w :: l, _, e, hs => side_end l w.fin e hs.2.2.2
theorem words_side (s : ByteArray) (h : (wordsN s).2.1 = 0) : SideW 0 s.size (wordsN s).1 := by
  rcases allN_side s (s.size + 1) 0 [] (Nat.zero_le _) (by omega) rfl with h1 | h1
  · exact h1.2.2
  · exact absurd h h1.1
theorem words_none (s : ByteArray) (h : (wordsN s).2.1 ≠ 0) : (wordsN s).1 = [] := by
  rcases allN_side s (s.size + 1) 0 [] (Nat.zero_le _) (by omega) rfl with h1 | h1
  · exact absurd h1.1 h
  · exact h1.2
theorem cat_take (l : List WN) (i : Nat) (h : i < l.length) : catW (l.take (i + 1)) = catW (l.take i) ++ printW l[i] := by
  have e : l.take (i + 1) = l.take i ++ [l[i]] := by rw [List.take_add_one, List.getElem?_eq_getElem h]; rfl
  unfold catW
  rw [e, List.flatMap_append]
  simp
theorem cat_len (l : List WN) (h : ∀ w ∈ l, OkW w) : l.length ≤ (catW l).length ∧ (catW l).length ≤ 800 * l.length := by
  induction l with
  | nil => exact ⟨Nat.le_refl _, Nat.le_refl _⟩
  | cons w l ih =>
    obtain ⟨h1, h2⟩ := ih (fun x hx => h x (List.mem_cons_of_mem _ hx))
    obtain ⟨g1, _, g3, _⟩ := back_word w (h w (List.mem_cons_self ..))
    have hl : 0 < (printW w).length := List.length_pos_iff.2 g1
    have e : (catW (w :: l)).length = (printW w).length + (catW l).length := by simp [catW]
    rw [e]
    simp only [List.length_cons]
    omega
theorem side_ok (l : List WN) (a e : Nat) (hs : SideW a e l) : ∀ w ∈ l, OkW w := fun w hw => by
  obtain ⟨i, hi, rfl⟩ := List.getElem_of_mem hw
  exact (side_at l a e hs i hi).2.2
theorem take_len (l : List WN) (i : Nat) (h : ∀ w ∈ l, OkW w) : (catW (l.take i)).length ≤ 800 * l.length := by
  have := (cat_len (l.take i) (fun w hw => h w (List.mem_of_mem_take hw))).2
  have h2 : (l.take i).length ≤ l.length := by simp; omega
  omega
/-- The text of a word alone is read as it. -/
theorem next_print (x : WN) (h : OkW x) : nextN (ofT (printW x)) 0 = (atW x 0 (printW x).length, 0, 0) := by
  obtain ⟨h1, h2, h3, h4⟩ := back_word x h
  have hl : 0 < (printW x).length := List.length_pos_iff.2 h1
  have := h4 eT eT
  rw [eT_app] at this
  have e : ofT (printW x) ++ eT = ofT (printW x) := by apply ByteArray.ext; simp [eT]
  rw [e] at this
  unfold nextN
  rw [if_neg (by rw [size_ofT]; omega)]
  exact this
theorem words_cat (l : List WN) (h : ∀ w ∈ l, OkW w) : wordsN (ofT (catW l)) = (layW 0 l, 0, 0) := by
  have := allN_back l eT ((ofT (catW l)).size + 1) [] h (by rw [size_ofT]; have := (cat_len l h).1; omega)
  rw [eT_app] at this
  exact this
theorem lay_len : ∀ (l : List WN) (p : Nat), (layW p l).length = l.length
  | [], _ => rfl
  | w :: l, p => by simp [layW, lay_len l]
theorem lay_at : ∀ (l : List WN) (p i : Nat) (h : i < l.length) (h' : i < (layW p l).length), ∃ q r, (layW p l)[i] = atW l[i] q r
  | w :: l, p, 0, _, _ => ⟨_, _, rfl⟩
  | w :: l, p, i + 1, h, h' => lay_at l _ i (by simpa using h) (by simpa [layW] using h')

/-- Where the words of a slice lie. -/
def WIn (l : List WN) (a : Option Addr) (W : World) : Prop := l ≠ [] → ∃ g, a = some ⟨g, 0, none⟩ ∧ g < W.heap.size ∧ ∀ i (h : i < l.length), SWo g i l[i] W
theorem WIn.below {l : List WN} {a : Option Addr} {W W' : World} (h : WIn l a W) (hb : Below W.heap.size W W') : WIn l a W' := fun hne => by
  obtain ⟨g, e, hg, hc⟩ := h hne
  exact ⟨g, e, Nat.lt_of_lt_of_le hg hb.size, fun i hi j hj => (hb.cell (p := ⟨g, i * 9 + j, none⟩) hg).trans (hc i hi j hj)⟩
theorem WIn.alloc {l : List WN} {a : Option Addr} {W : World} (h : WIn l a W) (o : Obj) : WIn l a (W.alloc o) := h.below ((Below.refl _ _).alloc (Nat.le_refl _) o)
theorem WIn.drew {l : List WN} {a : Option Addr} {W : World} (h : WIn l a W) : WIn l a W.drew := h
theorem WordsAt.wIn {l : List WN} {v : Value} {W : World} (h : WordsAt l v W) : ∃ a cap, v = .slice a l.length cap ∧ WIn l a W := by
  obtain ⟨a, cap, e, h⟩ := h
  exact ⟨a, cap, e, h⟩
theorem TabG.drew {W : World} (h : TabG W) : TabG W.drew := h
end Go.Proofs.YtpaecjjelpjopaaGreatDoor

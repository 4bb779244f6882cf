/- Texts of bytes told by numbers. -/
import Derived.Test.YtkkhibamkdgffaaDoorGw
namespace Go.Proofs.YtkkhibamkdgffaaDoor
open Go.RowKit BS

/-- The text of the bytes L. -/
def ofT (L : List Nat) : ByteArray := ⟨(L.map UInt8.ofNat).toArray⟩
theorem size_ofT (L : List Nat) : (ofT L).size = L.length := by simp [ofT, ByteArray.size]
theorem ofT_append (L M : List Nat) : ofT L ++ ofT M = ofT (L ++ M) := by
  apply ByteArray.ext
  simp [ofT]
theorem bt_app (a b : ByteArray) (i : Nat) : bt (a ++ b) i = if i < a.size then bt a i else bt b (i - a.size) := by
  unfold bt
  have e : (a ++ b).data.toList = a.data.toList ++ b.data.toList := by simp
  have hl : a.data.toList.length = a.size := by simp
  rw [e]
  by_cases h : i < a.size
  · rw [if_pos h, List.getD_eq_getElem?_getD, List.getD_eq_getElem?_getD, List.getElem?_append_left (by omega)]
  · rw [if_neg h, List.getD_eq_getElem?_getD, List.getD_eq_getElem?_getD, List.getElem?_append_right (by omega), hl]
theorem bt_ofT (L : List Nat) (hL : ∀ x ∈ L, x < 256) (i : Nat) (h : i < L.length) : bt (ofT L) i = L[i] := by
  unfold bt ofT
  simp only [List.getD_eq_getElem?_getD]
  rw [List.getElem?_eq_getElem (by simpa using h), Option.getD_some]
  have := hL L[i] (List.getElem_mem h)
  simp
  omega
theorem lies_of (s : ByteArray) : ∀ (L : List Nat) (p : Nat), p + L.length ≤ s.size → (∀ i (h : i < L.length), bt s (p + i) = L[i]) → Lies s p L
  | [], p, h, _ => h
  | a :: L, p, h, hb => by
    simp only [List.length_cons] at h
    refine ⟨by omega, hb 0 (by simp), lies_of s L (p + 1) (by omega) fun i hi => ?_⟩
    have := hb (i + 1) (by simp; omega)
    simpa [Nat.add_assoc, Nat.add_comm 1 i] using this
theorem lies_mid (a b : ByteArray) (L : List Nat) (hL : ∀ x ∈ L, x < 256) : Lies (a ++ ofT L ++ b) a.size L := by
  have hs : (a ++ ofT L).size = a.size + L.length := by rw [ByteArray.size_append, size_ofT]
  refine lies_of _ L _ (by rw [ByteArray.size_append, hs]; omega) fun i hi => ?_
  rw [bt_app, if_pos (by omega), bt_app, if_neg (by omega), Nat.add_sub_cancel_left, bt_ofT L hL i hi]

theorem iT_lt (x : Bool) (n : Nat) (hn : n < 256) : ∀ y ∈ iT x n, y < 256 := by
  intro y hy
  cases x
  · simp [iT] at hy
  · simp [iT] at hy; omega
theorem iT_len (x : Bool) (n : Nat) : (iT x n).length ≤ 1 := by cases x <;> simp [iT]
theorem mid_lt (s : BitVec 256) : ∀ y ∈ midT s, y < 256 := by
  intro y hy
  obtain ⟨r, hr, hy⟩ := List.mem_flatMap.1 hy
  obtain ⟨h1, h2⟩ := (rsOf_inv (s &&& ~~~fourS)).ok r hr
  simp only [runT, List.mem_append, List.mem_singleton] at hy
  rcases hy with (rfl | hy) | hy
  · omega
  · split at hy
    · simp at hy; omega
    · simp at hy
  · split at hy
    · simp at hy; omega
    · simp at hy
theorem out_lt (s : BitVec 256) : ∀ y ∈ outT s, y < 256 := by
  intro y hy
  rcases List.mem_append.1 hy with hy | hy
  · rcases List.mem_append.1 hy with hy | hy
    · exact iT_lt _ _ (by decide) y hy
    · exact mid_lt s y hy
  · exact iT_lt _ _ (by decide) y hy
theorem text_lt (s : BitVec 256) : ∀ y ∈ textT s, y < 256 := by
  unfold textT
  refine ite_ok (fun L : List Nat => ∀ y ∈ L, y < 256) (fun _ => by decide) (fun _ => ?_)
  refine ite_ok (fun L : List Nat => ∀ y ∈ L, y < 256) (fun _ => by decide) (fun _ => ?_)
  refine ite_ok (fun L : List Nat => ∀ y ∈ L, y < 256) (fun _ => ?_) (fun _ => ?_)
  · intro y hy
    rcases List.mem_cons.1 hy with rfl | hy
    · decide
    rcases List.mem_append.1 hy with hy | hy
    · exact iT_lt _ _ (by decide) y hy
    rcases List.mem_append.1 hy with hy | hy
    · exact iT_lt _ _ (by decide) y hy
    · simp at hy; omega
  · intro y hy
    rcases List.mem_cons.1 hy with rfl | hy
    · decide
    rcases List.mem_append.1 hy with hy | hy
    · exact out_lt s y hy
    rcases List.mem_append.1 hy with hy | hy
    · exact iT_lt _ _ (by decide) y hy
    rcases List.mem_append.1 hy with hy | hy
    · exact iT_lt _ _ (by decide) y hy
    · simp at hy; omega
theorem runs_txt_len (rs : List (Nat × Nat)) : (rs.flatMap runT).length ≤ 3 * rs.length := by
  induction rs with
  | nil => simp
  | cons r rs ih =>
    have : (runT r).length ≤ 3 := by
      unfold runT; split <;> split <;> simp
    rw [List.flatMap_cons, List.length_append, List.length_cons]; omega
theorem text_len (s : BitVec 256) : (textT s).length ≤ 800 := by
  have h1 := iT_len (s.getLsbD 93) 93
  have h2 := iT_len (s.getLsbD 91) 91
  have h3 := iT_len (s.getLsbD 94) 94
  have h4 := iT_len (s.getLsbD 45) 45
  have h5 := runs_txt_len (rsOf (s &&& ~~~fourS))
  have h6 := rsOf_len (s &&& ~~~fourS)
  unfold textT
  refine ite_ok (fun L : List Nat => L.length ≤ 800) (fun _ => by decide) (fun _ => ?_)
  refine ite_ok (fun L : List Nat => L.length ≤ 800) (fun _ => by decide) (fun _ => ?_)
  refine ite_ok (fun L : List Nat => L.length ≤ 800) (fun _ => ?_) (fun _ => ?_)
  · simp only [List.length_cons, List.length_append, List.length_nil]; omega
  · simp only [outT, midT, List.length_cons, List.length_append, List.length_nil]; omega
theorem text_nil (s : BitVec 256) : textT s = [] ↔ s = range 94 94 := by
  constructor
  · intro h
    unfold textT at h
    by_cases h0 : s = 0
    · rw [if_pos h0] at h; simp at h
    · rw [if_neg h0] at h
      by_cases h1 : s = range 94 94
      · exact h1
      · rw [if_neg h1] at h
        split at h <;> simp at h
  · intro h
    unfold textT
    rw [if_neg (by rw [h]; decide +kernel), if_pos h]

/-- The text of a set, with anything ahead and behind, is read as the set. -/
theorem readR_back (a b : ByteArray) (s : BitVec 256) (hs : s ≠ range 94 94) : readR (a ++ ofT (textT s) ++ b) a.size = (s, a.size + (textT s).length, 0, 0) :=
  readR_text _ _ s hs (lies_mid a b _ (text_lt s))

end Go.Proofs.YtkkhibamkdgffaaDoor

/- Texts put together: Tb Np Nr Ns. -/
import Derived.Test.YtdpkhliojbeglaaDoorChecked
import Derived.WalkKit
import Derived.Laws.BytesArg
import Derived.Laws.Concat
import Derived.Lib.Hide
import Derived.LoopTactic
import Derived.Laws.ResultCell
import Derived.WalkLawsBesides
import Derived.Handy
/- Texts as bytes: their bytes, one by one; texts told by numbers; texts that are alike up to a place. -/
namespace Go.Proofs.YtdpkhliojbeglaaDoor
open Go.RowKit

/-- Byte i of a text. -/
def bt (s : ByteArray) (i : Nat) : Nat := (s.data.toList.getD i 0).toNat
theorem bt_eq (s : ByteArray) (i : Nat) (h : i < s.size) : bt s i = s[i].toNat := by
  have h' : i < s.data.toList.length := by simpa using h
  unfold bt
  rw [List.getD_eq_getElem?_getD, List.getElem?_eq_getElem h', Option.getD_some]
  rfl
theorem bt_lt (s : ByteArray) (i : Nat) : bt s i < 256 := UInt8.toNat_lt _
/-- The text of the bytes L. -/
def ofT (L : List Nat) : ByteArray := ⟨(L.map UInt8.ofNat).toArray⟩
theorem size_ofT (L : List Nat) : (ofT L).size = L.length := by simp [ofT, ByteArray.size]
theorem ofT_append (L M : List Nat) : ofT L ++ ofT M = ofT (L ++ M) := by
  apply ByteArray.ext
  simp [ofT]
theorem bt_app (a b : ByteArray) (i : Nat) : bt (a ++ b) i = if i < a.size then bt a i else bt b (i - a.size) := by
  unfold bt
  have e : (a ++ b).data.toList = a.data.toList ++ b.data.toList := by simp
  have hl : a.data.toList.length = a.size := by simp
  rw [e]
  by_cases h : i < a.size
  · rw [if_pos h, List.getD_eq_getElem?_getD, List.getD_eq_getElem?_getD, List.getElem?_append_left (by omega)]
  · rw [if_neg h, List.getD_eq_getElem?_getD, List.getD_eq_getElem?_getD, List.getElem?_append_right (by omega), hl]
theorem bt_ofT (L : List Nat) (hL : ∀ x ∈ L, x < 256) (i : Nat) (h : i < L.length) : bt (ofT L) i = L[i] := by
  unfold bt ofT
  simp only [List.getD_eq_getElem?_getD]
  rw [List.getElem?_eq_getElem (by simpa using h), Option.getD_some]
  have := hL L[i] (List.getElem_mem h)
  simp
  omega
/-- The first n bytes are the same. -/
def Agr (n : Nat) (s s' : ByteArray) : Prop := n ≤ s.size ∧ n ≤ s'.size ∧ ∀ i, i < n → bt s i = bt s' i
theorem Agr.le {n m : Nat} {s s' : ByteArray} (h : Agr n s s') (hm : m ≤ n) : Agr m s s' := ⟨by have := h.1; omega, by have := h.2.1; omega, fun i hi => h.2.2 i (by omega)⟩
theorem ext_agr {n : Nat} {s s' : ByteArray} (h : Agr n s s') (i j : Nat) (hj : j ≤ n) : s.extract i j = s'.extract i j := by
  have h1 := h.1
  have h2 := h.2.1
  apply ByteArray.ext
  apply Array.toList_inj.1
  rw [ByteArray.data_extract, ByteArray.data_extract, Array.toList_extract, Array.toList_extract]
  apply List.ext_getElem?
  intro k
  simp only [List.extract_eq_take_drop, List.getElem?_take, List.getElem?_drop]
  by_cases hk : k < j - i
  · simp only [hk, if_true]
    have hb := h.2.2 (i + k) (by omega)
    rw [bt_eq s _ (by omega), bt_eq s' _ (by omega)] at hb
    have e1 : i + k < s.data.toList.length := by have : s.data.toList.length = s.size := by simp
                                                 omega
    have e2 : i + k < s'.data.toList.length := by have : s'.data.toList.length = s'.size := by simp
                                                  omega
    rw [List.getElem?_eq_getElem e1, List.getElem?_eq_getElem e2]
    exact congrArg some (UInt8.toNat.inj hb)
  · simp only [hk, if_false]
def eT : ByteArray := ⟨#[]⟩
theorem bt_extract (s : ByteArray) (a e i : Nat) (he : e ≤ s.size) (h : a + i < e) : bt (s.extract a e) i = bt s (a + i) := by
  have h1 : i < (s.extract a e).size := by rw [ByteArray.size_extract]; omega
  rw [bt_eq _ i h1, bt_eq _ (a + i) (by omega), ByteArray.getElem_extract]
theorem ba_ext {a b : ByteArray} (h : a.size = b.size) (hb : ∀ i, i < a.size → bt a i = bt b i) : a = b := by
  apply ByteArray.ext
  apply Array.ext
  · exact h
  · intro i h1 h2
    have e := hb i h1
    rw [bt_eq a i h1, bt_eq b i h2] at e
    exact UInt8.toNat_inj.1 e
theorem numsT (L : List Nat) : strOfNums (L.map (fun n : Nat => (n : Int))) = ofT L := by
  unfold strOfNums ofT
  rw [List.map_map]
  rfl
theorem cvL (W : World) (t : TypeId) (L : List Nat) (C : Array Value) (hC : ∀ i (h : i < L.length), C[i]? = some (.int .u8 (L[i] : Int))) (m : Nat × Nat) : (convert 23 9 (.slice (some ⟨W.heap.size, 0, none⟩) L.length L.length)).run Tryd.prog (W.alloc (.cells C t m)) = .ok (.string (ofT L)) (W.alloc (.cells C t m)) := by
  rw [← numsT L]
  refine run_convert_bytes_arg (P := Tryd.prog) (W.alloc (.cells C t m)) 23 5 Tryd.underlying23 Tryd.underlying5 W.heap.size 0 L.length L.length _ (by simp) (fun i hi => ?_) 9 Tryd.underlying9
  rw [Nat.zero_add, World.cell?_alloc_mark]
  rw [hC i hi]
  simp [List.getD_eq_getElem?_getD, List.getElem?_map, List.getElem?_eq_getElem hi]
theorem cv1 (W : World) (t : TypeId) (a : Nat) : (convert 23 9 (.slice (some ⟨W.heap.size, 0, none⟩) 1 1)).run Tryd.prog (W.alloc (.cells #[.int .u8 a] t)) = .ok (.string (ofT [a])) (W.alloc (.cells #[.int .u8 a] t)) := cvL W t [a] _ (fun i h => by
    have h2 : i < 1 := h
    rcases (by omega : i = 0) with rfl
    rfl) (0, 0)
theorem cv2 (W : World) (t : TypeId) (a b : Nat) : (convert 23 9 (.slice (some ⟨W.heap.size, 0, none⟩) 2 2)).run Tryd.prog (W.alloc (.cells #[.int .u8 a, .int .u8 b] t)) = .ok (.string (ofT [a, b])) (W.alloc (.cells #[.int .u8 a, .int .u8 b] t)) := cvL W t [a, b] _ (fun i h => by
    have h2 : i < 2 := h
    rcases (by omega : i = 0 ∨ i = 1) with rfl | rfl <;> rfl) (0, 0)
theorem cv3 (W : World) (t : TypeId) (a b c : Nat) : (convert 23 9 (.slice (some ⟨W.heap.size, 0, none⟩) 3 3)).run Tryd.prog (W.alloc (.cells #[.int .u8 a, .int .u8 b, .int .u8 c] t)) = .ok (.string (ofT [a, b, c])) (W.alloc (.cells #[.int .u8 a, .int .u8 b, .int .u8 c] t)) := cvL W t [a, b, c] _ (fun i h => by
    have h2 : i < 3 := h
    rcases (by omega : i = 0 ∨ i = 1 ∨ i = 2) with rfl | rfl | rfl <;> rfl) (0, 0)
theorem eT_app (a : ByteArray) : eT ++ a = a := by
  apply ByteArray.ext; simp [eT]
theorem toL (L : List Nat) : (ofT L).toList = L.map UInt8.ofNat := by rw [ByteArray.toList_eq]; simp [ofT]
theorem addT (L M : List Nat) (h : L.length + M.length ≤ 9223372036854775807) (w : World) : (Op.stringOp .add (ofT L) (ofT M)).run Tryd.prog w = .ok (.string (ofT (L ++ M))) w := by
  rw [← ofT_append]; exact run_string_add_sum w _ _ (by rw [size_ofT, size_ofT]; exact h)
theorem agr_cut (s more : ByteArray) (n : Nat) (h : n ≤ s.size) : Agr n s (s.extract 0 n ++ more) := by
  have hz : (s.extract 0 n).size = n := by rw [ByteArray.size_extract]; omega
  refine ⟨h, by rw [ByteArray.size_append]; omega, fun i hi => ?_⟩
  rw [bt_app, if_pos (by omega), bt_extract s 0 n i h (by omega), Nat.zero_add]
end Go.Proofs.YtdpkhliojbeglaaDoor

/- Counts, plainly: how the document reads them. -/
namespace Go.Proofs.YtdpkhliojbeglaaDoor
open Go.RowKit

/-- How far counts were read. -/
structure NS where
  n : Nat
  m : Nat
  hv : Nat
  sec : Bool
inductive NR where
  | bad (e : Nat)
  | fin (n : Nat) (m : Int)
  | on (st : NS)

/-- The number that is read. -/
def curN (st : NS) : Nat := if st.sec = true then st.m else st.n
def putN (st : NS) (x : Nat) : NS := if st.sec = true then ⟨st.n, x, st.hv + 1, st.sec⟩ else ⟨x, st.m, st.hv + 1, st.sec⟩
def mostN (st : NS) (x : Nat) : Nat := if st.hv + 1 = 1 ∧ 0 < x then 10 * x + 9 else x
/-- One byte more. -/
def stepN (st : NS) (b : Nat) : NR :=
  if 48 ≤ b ∧ b ≤ 57 then
    if st.hv = 2 ∨ (st.hv = 1 ∧ curN st = 0) then .bad 6
    else if st.sec = true ∧ mostN st (10 * curN st + (b - 48)) < st.n then .bad 6
    else .on (putN st (10 * curN st + (b - 48)))
  else if b = 44 ∧ st.sec = false ∧ 0 < st.hv then .on ⟨st.n, st.m, 0, true⟩
  else if b = 125 ∧ st.sec = false ∧ 0 < st.hv then .fin st.n st.n
  else if b = 125 ∧ st.sec = true ∧ st.hv = 0 then .fin st.n (-1)
  else if b = 125 ∧ st.sec = true ∧ st.n ≤ st.m then .fin st.n st.m
  else if b = 125 ∧ st.sec = true then .bad 6
  else .bad 3

/-- From, to, where they end, the error, its place. -/
def runN (s : ByteArray) : Nat → Nat → NS → Nat × Int × Nat × Nat × Nat
  | 0, _, _ => (0, 0, 0, 2, s.size)
  | k + 1, i, st => match stepN st (bt s i) with
    | .bad e => (0, 0, 0, e, i + 1)
    | .fin n m => (n, m, i + 1, 0, 0)
    | .on st' => runN s k (i + 1) st'
def bracesN (s : ByteArray) (i : Nat) : Nat × Int × Nat × Nat × Nat := runN s (s.size - i) i ⟨0, 0, 0, false⟩
def signN (s : ByteArray) (k : Nat) : Nat × Int × Nat × Nat × Nat :=
  if bt s k = 42 then (0, -1, k + 1, 0, 0)
  else if bt s k = 43 then (1, -1, k + 1, 0, 0)
  else if bt s k = 63 then (0, 1, k + 1, 0, 0)
  else if bt s k = 123 then bracesN s (k + 1)
  else (0, 0, 0, 1, 0)
def readN (s : ByteArray) (at' : Int) : Nat × Int × Nat × Nat × Nat :=
  if at' < 0 ∨ (s.size : Int) ≤ at' then (0, 0, 0, 1, 0) else signN s at'.toNat

/-! ### What is kept -/
def InvN (st : NS) : Prop := st.hv ≤ 2 ∧ (st.hv = 0 → curN st = 0) ∧ (st.hv ≤ 1 → curN st ≤ 9) ∧ curN st ≤ 99 ∧ st.n ≤ 99 ∧ st.m ≤ 99 ∧ (st.sec = false → st.m = 0)
theorem inv_start : InvN ⟨0, 0, 0, false⟩ := by unfold InvN curN; simp
def rightN (n m : Int) : Bool := decide (0 ≤ n) && decide (n ≤ 99) && (m == -1 || (decide (n ≤ m) && decide (m ≤ 99)))
theorem stepN_on (st st' : NS) (b : Nat) (h : InvN st) (e : stepN st b = .on st') : InvN st' := by
  obtain ⟨h1, h2, h3, h4, h5, h6, h7⟩ := h
  unfold stepN at e
  split at e
  · rename_i hd
    split at e
    · cases e
    · rename_i hh
      split at e
      · cases e
      · cases e
        have hc : 10 * curN st + (b - 48) ≤ 99 ∧ (st.hv = 0 → 10 * curN st + (b - 48) ≤ 9) := by
          have : st.hv = 0 ∨ st.hv = 1 := by omega
          rcases this with h0 | h0
          · have := h2 h0; omega
          · have := h3 (by omega); omega
        generalize 10 * curN st + (b - 48) = x at *
        obtain ⟨n, m, hv, sec⟩ := st
        cases sec <;> simp [InvN, curN, putN] at * <;> omega
  · split at e
    · rename_i hc
      cases e
      have := h7 hc.2.1
      simp [InvN, curN] at *
      omega
    · split at e
      · cases e
      · split at e
        · cases e
        · split at e
          · cases e
          · split at e <;> cases e
theorem stepN_fin (st : NS) (b n : Nat) (m : Int) (h : InvN st) (e : stepN st b = .fin n m) : rightN n m = true := by
  obtain ⟨h1, h2, h3, h4, h5, h6, h7⟩ := h
  have key : ∀ (x : Nat) (y : Int), x ≤ 99 → (y = -1 ∨ ((x : Int) ≤ y ∧ y ≤ 99)) → rightN x y = true := fun x y hx hy => by
    unfold rightN
    rw [decide_eq_true (by omega), decide_eq_true (by omega)]
    rcases hy with rfl | ⟨hy, hy2⟩
    · simp
    · rw [decide_eq_true hy, decide_eq_true hy2]; simp
  unfold stepN at e
  split at e
  · split at e
    · cases e
    · split at e <;> cases e
  · split at e
    · cases e
    · split at e
      · cases e; exact key _ _ h5 (.inr ⟨by omega, by omega⟩)
      · split at e
        · cases e; exact key _ _ h5 (.inl rfl)
        · split at e
          · rename_i hc
            cases e; exact key _ _ h5 (.inr ⟨by omega, by omega⟩)
          · split at e <;> cases e
theorem stepN_bad (st : NS) (b e : Nat) (h : stepN st b = .bad e) : e = 6 ∨ e = 3 := by
  unfold stepN at h
  split at h
  · split at h
    · cases h; exact .inl rfl
    · split at h <;> cases h; exact .inl rfl
  · split at h
    · cases h
    · split at h
      · cases h
      · split at h
        · cases h
        · split at h
          · cases h
          · split at h <;> cases h
            · exact .inl rfl
            · exact .inr rfl

/-- What the reading ends in. -/
def EndN (s : ByteArray) (i : Nat) (r : Nat × Int × Nat × Nat × Nat) : Prop :=
  (r.2.2.2.1 = 0 ∧ r.2.2.2.2 = 0 ∧ i < r.2.2.1 ∧ r.2.2.1 ≤ s.size ∧ rightN r.1 r.2.1 = true) ∨
  ((r.2.2.2.1 = 6 ∨ r.2.2.2.1 = 3) ∧ r.1 = 0 ∧ r.2.1 = 0 ∧ r.2.2.1 = 0 ∧ i < r.2.2.2.2 ∧ r.2.2.2.2 ≤ s.size) ∨
  (r = (0, 0, 0, 2, s.size))
theorem runN_end (s : ByteArray) (a : Nat) : ∀ k i st, InvN st → a ≤ i → k + i = s.size → EndN s a (runN s k i st)
  | 0, i, st, _, _, _ => .inr (.inr rfl)
  | k + 1, i, st, hi, ha, hk => by
    rw [runN]
    cases hs : stepN st (bt s i) with
    | bad e => exact .inr (.inl ⟨stepN_bad _ _ _ hs, rfl, rfl, rfl, by simp only; omega, by simp only; omega⟩)
    | fin n m => exact .inl ⟨rfl, rfl, by simp only; omega, by simp only; omega, stepN_fin _ _ _ _ hi hs⟩
    | on st' => exact runN_end s a k (i + 1) st' (stepN_on _ _ _ hi hs) (by omega) (by omega)
theorem runN_agr (s s' : ByteArray) : ∀ k k' i st, k + i = s.size → k' + i = s'.size → (runN s k i st).2.2.2.1 ≠ 2 →
    Agr (if (runN s k i st).2.2.2.1 = 0 then (runN s k i st).2.2.1 else (runN s k i st).2.2.2.2) s s' → runN s' k' i st = runN s k i st
  | 0, k', i, st, _, _, h, _ => absurd rfl h
  | k + 1, k', i, st, h1, h2, h, ha => by
    rw [runN] at h ha ⊢
    have low : ∀ kk j stt, i < j → kk + j = s.size → (runN s kk j stt).2.2.2.1 ≠ 2 → i < (if (runN s kk j stt).2.2.2.1 = 0 then (runN s kk j stt).2.2.1 else (runN s kk j stt).2.2.2.2) := by
      intro kk
      induction kk with
      | zero => intro j stt _ _ h; exact absurd rfl h
      | succ kk ih =>
        intro j stt hj hk h
        rw [runN] at h ⊢
        cases hs : stepN stt (bt s j) with
        | bad e => simp only; have := stepN_bad _ _ _ hs; rw [if_neg (by omega)]; omega
        | fin n m => simp only; rw [if_pos trivial]; omega
        | on st' => rw [hs] at h; simp only at h ⊢; exact ih (j + 1) st' (by omega) (by omega) h
    have hlt : i < (if (match stepN st (bt s i) with
      | .bad e => ((0, 0, 0, e, i + 1) : Nat × Int × Nat × Nat × Nat)
      | .fin n m => (n, m, i + 1, 0, 0)
      | .on st' => runN s k (i + 1) st').2.2.2.1 = 0 then (match stepN st (bt s i) with
      | .bad e => ((0, 0, 0, e, i + 1) : Nat × Int × Nat × Nat × Nat)
      | .fin n m => (n, m, i + 1, 0, 0)
      | .on st' => runN s k (i + 1) st').2.2.1 else (match stepN st (bt s i) with
      | .bad e => ((0, 0, 0, e, i + 1) : Nat × Int × Nat × Nat × Nat)
      | .fin n m => (n, m, i + 1, 0, 0)
      | .on st' => runN s k (i + 1) st').2.2.2.2) := by
      cases hs : stepN st (bt s i) with
      | bad e => have := stepN_bad _ _ _ hs; simp only; rw [if_neg (by omega)]; omega
      | fin n m => simp only; rw [if_pos trivial]; omega
      | on st' => rw [hs] at h; simp only at h ⊢; exact low k (i + 1) st' (by omega) (by omega) h
    have hb := ha.2.2 i hlt
    have hz := ha.2.1
    obtain ⟨k', rfl⟩ : ∃ j, k' = j + 1 := ⟨k' - 1, by omega⟩
    rw [runN, ← hb]
    cases hs : stepN st (bt s i) with
    | bad e => rfl
    | fin n m => rfl
    | on st' =>
      rw [hs] at h ha
      exact runN_agr s s' k k' (i + 1) st' (by omega) (by omega) h ha

theorem readN_cases (s : ByteArray) (at' : Int) : readN s at' = (0, 0, 0, 1, 0) ∨ ∃ a : Nat, at' = a ∧ EndN s a (readN s at') := by
  unfold readN
  by_cases h : at' < 0 ∨ (s.size : Int) ≤ at'
  · rw [if_pos h]; exact .inl rfl
  rw [if_neg h]
  obtain ⟨a, rfl⟩ : ∃ a : Nat, at' = a := ⟨at'.toNat, by omega⟩
  rw [show (a : Int).toNat = a from rfl]
  have hlt : a < s.size := by omega
  unfold signN
  by_cases h1 : bt s a = 42
  · rw [if_pos h1]; exact .inr ⟨a, rfl, .inl ⟨rfl, rfl, by simp only; omega, by simp only; omega, show rightN ((0 : Nat) : Int) (-1) = true from by decide⟩⟩
  rw [if_neg h1]
  by_cases h2 : bt s a = 43
  · rw [if_pos h2]; exact .inr ⟨a, rfl, .inl ⟨rfl, rfl, by simp only; omega, by simp only; omega, show rightN ((1 : Nat) : Int) (-1) = true from by decide⟩⟩
  rw [if_neg h2]
  by_cases h3 : bt s a = 63
  · rw [if_pos h3]; exact .inr ⟨a, rfl, .inl ⟨rfl, rfl, by simp only; omega, by simp only; omega, show rightN ((0 : Nat) : Int) 1 = true from by decide⟩⟩
  rw [if_neg h3]
  by_cases h4 : bt s a = 123
  · rw [if_pos h4]; exact .inr ⟨a, rfl, runN_end s a _ _ _ inv_start (by omega) (by omega)⟩
  · rw [if_neg h4]; exact .inl rfl
/-- **What is wrong, or counts, are told by the bytes up to there.** -/
theorem readN_agr (s s' : ByteArray) (at' : Int) (h1 : (readN s at').2.2.2.1 ≠ 1) (h2 : (readN s at').2.2.2.1 ≠ 2)
    (ha : Agr (if (readN s at').2.2.2.1 = 0 then (readN s at').2.2.1 else (readN s at').2.2.2.2) s s') : readN s' at' = readN s at' := by
  rcases readN_cases s at' with h | ⟨a, rfl, hE⟩
  · rw [h] at h1; exact absurd rfl h1
  have hlt : a < (if (readN s a).2.2.2.1 = 0 then (readN s a).2.2.1 else (readN s a).2.2.2.2) := by
    rcases hE with ⟨e1, _, e3, _⟩ | ⟨e1, _, _, _, e5, _⟩ | e
    · rw [if_pos e1]; exact e3
    · rw [if_neg (by omega)]; exact e5
    · rw [e] at h2; exact absurd rfl h2
  have hz := ha.1
  have hz' := ha.2.1
  have hb := ha.2.2 a hlt
  unfold readN at h1 h2 ha ⊢
  have hn : ¬ ((a : Int) < 0 ∨ (s.size : Int) ≤ a) := by omega
  have hn' : ¬ ((a : Int) < 0 ∨ (s'.size : Int) ≤ a) := by omega
  rw [if_neg hn] at h1 h2 ha ⊢
  rw [if_neg hn']
  rw [show (a : Int).toNat = a from rfl] at *
  unfold signN at h1 h2 ha ⊢
  rw [← hb]
  by_cases g1 : bt s a = 42
  · rw [if_pos g1, if_pos g1]
  rw [if_neg g1] at h1 h2 ha ⊢; rw [if_neg g1]
  by_cases g2 : bt s a = 43
  · rw [if_pos g2, if_pos g2]
  rw [if_neg g2] at h1 h2 ha ⊢; rw [if_neg g2]
  by_cases g3 : bt s a = 63
  · rw [if_pos g3, if_pos g3]
  rw [if_neg g3] at h1 h2 ha ⊢; rw [if_neg g3]
  by_cases g4 : bt s a = 123
  · rw [if_pos g4] at h1 h2 ha ⊢; rw [if_pos g4]
    exact runN_agr s s' _ _ _ _ (by omega) (by omega) h2 ha
  · rw [if_neg g4, if_neg g4]

/-! ### The text of counts -/
def digL (n : Nat) : List Nat := if 10 ≤ n then [48 + n / 10, 48 + n % 10] else [48 + n]
def textN (n m : Int) : List Nat :=
  if rightN n m = false then []
  else if n = 0 ∧ m = -1 then [42]
  else if n = 1 ∧ m = -1 then [43]
  else if n = 0 ∧ m = 1 then [63]
  else if n = m then 123 :: (digL n.toNat ++ [125])
  else if m = -1 then 123 :: (digL n.toNat ++ [44, 125])
  else 123 :: (digL n.toNat ++ (44 :: (digL m.toNat ++ [125])))
end Go.Proofs.YtdpkhliojbeglaaDoor

/- The document's counts: digit, braces, Read. -/
namespace Go.Proofs.YtdpkhliojbeglaaDoor
open Go.RowKit

theorem int_eq {k : IntKind} {a b : Int} (h : a = b) : Value.int k a = .int k b := by rw [h]
def tupN (r : Nat × Int × Nat × Nat × Nat) : Value := .tuple #[.int .i64 r.1, .int .i64 r.2.1, .int .i64 r.2.2.1, .int .i64 r.2.2.2.1, .int .i64 r.2.2.2.2]
end Go.Proofs.YtdpkhliojbeglaaDoor

/- The document's counts: Read, Right, Digits, Text. -/
namespace Go.Proofs.YtdpkhliojbeglaaDoor
open Go.RowKit

theorem digL_len (n : Nat) : (digL n).length ≤ 2 := by unfold digL; split <;> simp

end Go.Proofs.YtdpkhliojbeglaaDoor

/- What lacks makes a word: by a bracket's lack, by counts' lack, by a byte behind a backslash. -/
import Derived.Test.YtpaecjjelpjopaaGreatDoorVl
import Derived.Test.YtpaecjjelpjopaaGreatDoorP6
import Derived.Test.YtpaecjjelpjopaaGreatDoorP9
namespace Go.Proofs.YtpaecjjelpjopaaGreatDoor
open Go.RowKit BS

theorem next_at (s : ByteArray) (a : Nat) (h : a < s.size) : nextN s a = nextA s a := by
  unfold nextN
  rw [if_neg (by omega)]; rfl
theorem lackW_far (s : ByteArray) (at' : Int) (h : at' < 0 ∨ (s.size : Int) ≤ at') : LackW s at' eT := by
  have e : nextN s at' = (zWN, 1, 0) := by unfold nextN; rw [if_pos h]
  exact ⟨fun _ => rfl, fun h => by rw [e] at h; cases h⟩
/-- Where nothing lacks. -/
theorem lackW_none (s : ByteArray) (at' : Int) (h : (nextN s at').2.1 ≠ 2) : LackW s at' eT := ⟨fun _ => rfl, fun h2 => absurd h2 h⟩
theorem next_brk (s : ByteArray) (a : Nat) (h : bt s a = 91) : nextA s a = brkW s a := by
  unfold nextA
  rw [if_neg (by omega), if_neg (by omega), if_neg (by omega), if_neg (by omega), if_pos h]
theorem next_cnt (s : ByteArray) (a : Nat) (h : bt s a = 42 ∨ bt s a = 43 ∨ bt s a = 63 ∨ bt s a = 123) : nextA s a = cntW s a := by
  unfold nextA
  rw [if_neg (by omega), if_neg (by omega), if_neg (by omega), if_pos h]
/-- A bracket. -/
theorem lackW_brk (s : ByteArray) (a : Nat) (ha : a < s.size) (h : bt s a = 91) : LackW s a (wholeD s a).lack := by
  obtain ⟨t, p, e, k, hR⟩ : ∃ t p e k, readR s a = (t, p, e, k) := ⟨_, _, _, _, rfl⟩
  have hL := lackE s a t p e k _ hR rfl
  generalize (wholeD s a).lack = l at *
  have hn : nextN s a = brkW s a := by rw [next_at s a ha, next_brk s a h]
  have he : (nextN s a).2.1 = e := by
    rw [hn]; unfold brkW; rw [hR]; simp only
    by_cases h0 : e = 0
    · rw [if_neg (by omega), h0]
    · rw [if_pos h0]
  unfold LackW
  rw [he]
  rcases hL with ⟨h1, rfl⟩ | ⟨h1, h2, h3, t', ht⟩
  · exact ⟨fun _ => rfl, fun h => absurd h h1⟩
  · refine ⟨fun h => absurd h1 h, fun _ => ⟨h2, by omega, oneW t' a (s ++ l).size, ?_, rfl, rfl⟩⟩
    have hz : (s ++ l).size = s.size + l.size := ByteArray.size_append
    have hb : bt (s ++ l) a = 91 := by rw [bt_app, if_pos ha]; exact h
    rw [next_at _ a (by omega), next_brk _ a hb]
    unfold brkW
    rw [ht, hz]
    rfl
/-- Counts. -/
theorem lackW_cnt (s : ByteArray) (a : Nat) (ha : a < s.size) (h : bt s a = 42 ∨ bt s a = 43 ∨ bt s a = 63 ∨ bt s a = 123) : LackW s a (ofT (readD4 s a).lack) := by
  obtain ⟨n, m, p, e, k, hR⟩ : ∃ n m p e k, readN s a = (n, m, p, e, k) := ⟨_, _, _, _, _, rfl⟩
  obtain ⟨l1, l2⟩ := lackN_read s a
  generalize ofT (readD4 s a).lack = l at *
  have hn : nextN s a = cntW s a := by rw [next_at s a ha, next_cnt s a h]
  have he : (nextN s a).2.1 = e := by
    rw [hn]; unfold cntW; rw [hR]; simp only
    by_cases h0 : e = 0
    · rw [if_neg (by omega), h0]
    · rw [if_pos h0]
  rw [hR] at l1 l2
  simp only at l1 l2
  unfold LackW
  rw [he]
  refine ⟨l1, fun h2 => ?_⟩
  obtain ⟨g1, g2, n', m', g3⟩ := l2 h2
  refine ⟨g1, g2, ⟨5, a, (s ++ l).size, 0, n', m'⟩, ?_, rfl, rfl⟩
  have hz : (s ++ l).size = s.size + l.size := ByteArray.size_append
  have hb : bt (s ++ l) a = bt s a := by rw [bt_app, if_pos ha]
  rw [next_at _ a (by omega), next_cnt _ a (by rw [hb]; exact h)]
  unfold cntW
  rw [g3]
  rfl
/-- A backslash at the end: any of the fourteen makes a word. -/
theorem lackW_slash (s : ByteArray) (a c : Nat) (ha : a + 1 = s.size) (h : bt s a = 92) (hc : four14 c = true) (hlt : c < 256) : LackW s a (ofT [c]) := by
  have hn : nextN s a = (zWN, 2, s.size) := by
    rw [next_at s a (by omega)]
    unfold nextA
    rw [if_neg (by omega), if_neg (by omega), if_neg (by omega), if_neg (by omega), if_neg (by omega), if_neg (by omega), if_neg (by omega), if_pos h]
    unfold slashW
    rw [if_pos (by omega)]
  unfold LackW
  rw [hn]
  have hz : (s ++ ofT [c]).size = s.size + 1 := by rw [ByteArray.size_append, size_ofT]; rfl
  refine ⟨fun h => absurd rfl h, fun _ => ⟨by rw [size_ofT]; simp, by rw [size_ofT]; simp, oneW (range c c) a (a + 2), ?_, rfl, by rw [hz]; show a + 2 = _; omega⟩⟩
  rw [next_at _ a (by omega)]
  refine next_slash _ a c (by rw [bt_app, if_pos (by omega)]; exact h) (by omega) ?_ hc
  rw [ha, bt_app, if_neg (by omega), Nat.sub_self]
  have := bt_ofT [c] (by simpa using hlt) 0 (by simp)
  simpa using this
/-- A backslash that has a byte behind it, or a byte that is none of these, lacks nothing. -/
theorem next_err2 (s : ByteArray) (a : Nat) (ha : a < s.size) (h : (nextN s a).2.1 = 2) : bt s a = 91 ∨ bt s a = 123 ∨ (bt s a = 92 ∧ a + 1 = s.size) := by
  rw [next_at s a ha] at h
  unfold nextA at h
  by_cases h1 : bt s a = 40
  · rw [if_pos h1] at h; cases h
  rw [if_neg h1] at h
  by_cases h2 : bt s a = 41
  · rw [if_pos h2] at h; cases h
  rw [if_neg h2] at h
  by_cases h3 : bt s a = 124
  · rw [if_pos h3] at h; cases h
  rw [if_neg h3] at h
  by_cases h4 : bt s a = 42 ∨ bt s a = 43 ∨ bt s a = 63 ∨ bt s a = 123
  · rw [if_pos h4] at h
    rcases h4 with e | e | e | e
    · exfalso
      unfold cntW readN at h
      rw [if_neg (by omega), show (a : Int).toNat = a from rfl] at h
      unfold signN at h
      rw [if_pos e] at h; cases h
    · exfalso
      unfold cntW readN at h
      rw [if_neg (by omega), show (a : Int).toNat = a from rfl] at h
      unfold signN at h
      rw [if_neg (by omega), if_pos e] at h; cases h
    · exfalso
      unfold cntW readN at h
      rw [if_neg (by omega), show (a : Int).toNat = a from rfl] at h
      unfold signN at h
      rw [if_neg (by omega), if_neg (by omega), if_pos e] at h; cases h
    · exact .inr (.inl e)
  rw [if_neg h4] at h
  by_cases h5 : bt s a = 91
  · exact .inl h5
  rw [if_neg h5] at h
  by_cases h6 : bt s a = 46
  · rw [if_pos h6] at h; cases h
  rw [if_neg h6] at h
  by_cases h7 : bt s a = 94 ∨ bt s a = 36
  · rw [if_pos h7] at h; cases h
  rw [if_neg h7] at h
  by_cases h8 : bt s a = 92
  · rw [if_pos h8] at h
    unfold slashW at h
    by_cases h9 : s.size ≤ a + 1
    · exact .inr (.inr ⟨h8, by omega⟩)
    · rw [if_neg h9] at h
      by_cases h10 : four14 (bt s (a + 1)) = false
      · rw [if_pos h10] at h; cases h
      · rw [if_neg h10] at h; cases h
  · rw [if_neg h8] at h; cases h
end Go.Proofs.YtpaecjjelpjopaaGreatDoor

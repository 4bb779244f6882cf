/- Texts put together: Hf Ja Jb Jc Jd Je Dp Dq. -/
import Derived.Test.YthodphgbdmnpoaaGreatDoorPG
import Derived.Test.YthodphgbdmnpoaaGreatDoorPI
import Derived.Test.YthodphgbdmnpoaaGreatDoorPK
import Derived.Test.YthodphgbdmnpoaaGreatDoorPD
import Derived.Lib.Hide
import Derived.RegionTactic
import Derived.BigRegion
import Derived.BigQuiet
import Derived.Outline
import Derived.Deep.QuietTactic
import Derived.Deep.DeepCutAuto
import Derived.Deep.RegionHeld3
import Derived.Deep.RegionLaw
import Derived.Deep.RegionWith
import Derived.Test.YthodphgbdmnpoaaGreatDoorPB
import Derived.Test.YthodphgbdmnpoaaGreatDoorPH
import Derived.Lib.IndexAny
import Derived.Lib.Bytealg
import Derived.WalkLawsBesides
import Derived.IntWalk
import Derived.Laws.ResultCell
/- The laws of stage 7: ParseRight. -/
namespace Go.Proofs.YthodphgbdmnpoaaGreatDoor
open Go.RowKit BS

/-! ### Words and nodes, counted -/
theorem kc_take7 (k : Int) (l : List NdN) (i : Nat) (h : i < l.length) : kc k (l.take (i + 1)) = kc k (l.take i) + if l[i].kind = k then 1 else 0 := by
  rw [List.take_succ_eq_append_getElem h, kc_app]
  congr 1
  unfold kc
  by_cases hk : l[i].kind = k
  · rw [if_pos hk]; simp [hk]
  · rw [if_neg hk]; simp [hk]
theorem wc_take7 (k : Nat) (l : List WN) (i : Nat) (h : i < l.length) : wc k (l.take (i + 1)) = wc k (l.take i) + if l[i].kind = k then 1 else 0 := by
  rw [List.take_succ_eq_append_getElem h, wc_snoc]
theorem kc_le (k : Int) (l : List NdN) : kc k l ≤ l.length := by
  unfold kc
  refine Nat.le_trans List.countP_le_length ?_
  rw [List.length_map]; exact Nat.le_refl _
theorem wc_le (k : Nat) (l : List WN) : wc k l ≤ l.length := by unfold wc; exact List.countP_le_length
theorem altN_take7 (l : List NdN) (i : Nat) (h : i < l.length) : altN (l.take (i + 1)) = altN (l.take i) + if l[i].kind = 6 then l[i].kids.toNat - 1 else 0 := by
  rw [List.take_succ_eq_append_getElem h, altN_app]
  congr 1
theorem altN_take_le (l : List NdN) (i : Nat) : altN (l.take i) ≤ altN l := by
  have h := altN_app (l.take i) (l.drop i)
  rw [List.take_append_drop] at h
  omega
theorem allN_len7 (s : ByteArray) : ∀ k a acc, (allN s k a acc).1.length ≤ acc.length + (s.size - a)
  | 0, a, acc => by rw [allN]; simp only; omega
  | k + 1, a, acc => by
    rw [allN]
    by_cases h : s.size ≤ a
    · rw [if_pos h]; simp only; omega
    · rw [if_neg h]
      have hE := nextA_end s a (by omega)
      generalize nextA s a = X at *
      obtain ⟨x, e, p⟩ := X
      simp only
      by_cases he : e ≠ 0
      · rw [if_pos he]; simp
      · rw [if_neg he]
        rcases hE with ⟨_, _, _, _, h5, h6⟩ | ⟨h1, _⟩
        · have := allN_len7 s k x.fin (acc ++ [x])
          simp only at h5 h6
          simp at this
          omega
        · exact absurd h1 he
theorem side_ok : ∀ (l : List WN) (a e : Nat), SideW a e l → ∀ w ∈ l, OkW w
  | [], _, _, _ => fun w hw => by cases hw
  | x :: l, a, e, h => fun w hw => by
    rcases List.mem_cons.1 hw with rfl | hw
    · exact h.2.2.1
    · exact side_ok l _ _ h.2.2.2 w hw
theorem node_kind (x : NdN) (h : nodeF x = true) : 1 ≤ x.kind ∧ x.kind ≤ 6 := by
  unfold nodeF at h
  by_cases h1 : x.kind = 1 ∨ x.kind = 2
  · omega
  by_cases h3 : x.kind = 3
  · omega
  by_cases h4 : x.kind = 4
  · omega
  by_cases h5 : x.kind = 5 ∨ x.kind = 6
  · omega
  · rw [if_neg h1, if_neg h3, if_neg h4, if_neg h5] at h
    split at h
    · cases h
    · split at h <;> cases h
theorem node_alt (x : NdN) (h : nodeF x = true) (hk : x.kind = 6) : 2 ≤ x.kids := by
  unfold nodeF at h
  split at h
  · cases h
  · split at h
    · cases h
    · rw [if_neg (by omega), if_neg (by omega), if_neg (by omega), if_pos (.inr hk)] at h
      exact of_decide_eq_true h
theorem readP_len7 (s : ByteArray) : ∀ k a x, a ≤ s.size → x.l.length ≤ 3 * a → (readP s k a x).1.l.length ≤ 3 * s.size + 2
  | 0, _, _, _, _ => by rw [readP]; exact Nat.zero_le _
  | k + 1, a, x, ha, hx => by
    rw [readP]
    by_cases h0 : s.size ≤ a
    · rw [if_pos h0]
      by_cases h1 : 1 < x.st.length
      · rw [if_pos h1]; exact Nat.zero_le _
      · rw [if_neg h1]
        obtain ⟨l, st, g⟩ := x
        obtain _ | ⟨⟨n, r⟩, st⟩ := st
        · show l.length ≤ _
          simp only at hx; omega
        · show (l ++ rowT n ++ rowsT (r + 1)).length ≤ _
          have e1 : (rowT n).length ≤ 1 := by
            unfold rowT
            by_cases h0 : n = 0
            · rw [if_pos h0]; exact Nat.le_refl _
            · rw [if_neg h0]
              by_cases h1 : n = 1
              · rw [if_pos h1]; exact Nat.zero_le _
              · rw [if_neg h1]; exact Nat.le_refl _
          have e2 : (rowsT (r + 1)).length ≤ 1 := by
            unfold rowsT
            by_cases h0 : 1 < r + 1
            · rw [if_pos h0]; exact Nat.le_refl _
            · rw [if_neg h0]; exact Nat.zero_le _
          simp only at hx
          rw [List.length_append, List.length_append]; omega
    rw [if_neg h0]
    by_cases h1 : firstP x (bt s a) ≠ 0
    · rw [if_pos h1]; exact Nat.zero_le _
    rw [if_neg h1]
    have hE := nextA_end s a (by omega)
    generalize nextA s a = X at *
    obtain ⟨w, e, p⟩ := X
    simp only at hE ⊢
    by_cases h2 : e ≠ 0
    · rw [if_pos h2]; exact Nat.zero_le _
    rw [if_neg h2]
    rcases hE with ⟨_, _, _, _, h5, h6⟩ | ⟨h1, _⟩
    · simp only at h5 h6
      refine readP_len7 s k w.fin (takeP x w) h6 ?_
      obtain ⟨l, st, g⟩ := x
      simp only at hx
      have r1 : ∀ n, (rowT n).length ≤ 1 := fun n => by
        unfold rowT
        by_cases h0 : n = 0
        · rw [if_pos h0]; exact Nat.le_refl _
        · rw [if_neg h0]
          by_cases h1 : n = 1
          · rw [if_pos h1]; exact Nat.zero_le _
          · rw [if_neg h1]; exact Nat.le_refl _
      have r2 : ∀ n, (rowsT n).length ≤ 1 := fun n => by
        unfold rowsT
        by_cases h0 : 1 < n
        · rw [if_pos h0]; exact Nat.le_refl _
        · rw [if_neg h0]; exact Nat.zero_le _
      unfold takeP
      by_cases c1 : w.kind = 1
      · rw [if_pos c1]; simp; omega
      rw [if_neg c1]
      by_cases c2 : w.kind = 2
      · rw [if_pos c2]; simp only; omega
      rw [if_neg c2]
      by_cases c3 : w.kind = 3
      · rw [if_pos c3]
        obtain _ | ⟨⟨n, r⟩, st⟩ := st
        · show (l ++ [ndG]).length ≤ _
          rw [List.length_append, List.length_singleton]; omega
        · show (l ++ rowT n ++ rowsT (r + 1) ++ [ndG]).length ≤ _
          have e1 := r1 n
          have e2 := r2 (r + 1)
          rw [List.length_append, List.length_append, List.length_append, List.length_singleton]; omega
      rw [if_neg c3]
      by_cases c4 : w.kind = 4
      · rw [if_pos c4]
        obtain _ | ⟨⟨n, r⟩, st⟩ := st
        · show l.length ≤ _
          omega
        · show (l ++ rowT n).length ≤ _
          have e1 := r1 n
          rw [List.length_append]; omega
      rw [if_neg c4]
      by_cases c5 : w.kind = 5
      · rw [if_pos c5]; simp; omega
      · rw [if_neg c5]; simp only; omega
    · exact absurd h1 h2
theorem right_len (s : ByteArray) : (parseN s).1.l.length ≤ 3 * s.size + 2 := readP_len7 s _ 0 sPS (Nat.zero_le _) (by decide)
theorem words_of_owns7 {base : Nat} {e : TypeId} {v : Value} {l : List WN} {W : World} (h : W.ownsRow base e 9 v l.length (woCells l)) : ∃ a cap, v = .slice a l.length cap ∧ (l ≠ [] → ∃ g, a = some ⟨g, 0, none⟩ ∧ base ≤ g ∧ g < W.heap.size ∧ ∀ i (h : i < l.length) j, j < 9 → W.cell? ⟨g, i * 9 + j, none⟩ = (woA l[i])[j]?) := by
  rcases h.2 with ⟨rfl, h0⟩ | ⟨g, cap, cur, rfl, hb, hg, _, _, _, _⟩
  · exact ⟨none, 0, by rw [h0], fun hne => absurd (List.eq_nil_of_length_eq_zero h0) hne⟩
  · exact ⟨_, cap, rfl, fun _ => ⟨g, rfl, hb, (Array.getElem?_eq_some_iff.1 hg).1, fun i hi j hj => (h.cellAt (i * 9 + j) (by omega)).trans (woCells_get l i j hi hj)⟩⟩
/-- Words that lie elsewhere than in block B. -/
def WK (ws : List WN) (a : Option Addr) (B : Nat) (W : World) : Prop := ws ≠ [] → ∃ g, a = some ⟨g, 0, none⟩ ∧ g ≠ B ∧ ∀ i (h : i < ws.length) j, j < 9 → W.cell? ⟨g, i * 9 + j, none⟩ = (woA ws[i])[j]?
theorem WK.set {ws : List WN} {a : Option Addr} {B : Nat} {W : World} (h : WK ws a B W) (x : Nat) (v : Value) : WK ws a B (W.setCell ⟨B, x, none⟩ v) := fun hne => by
  obtain ⟨g, e, hg, hc⟩ := h hne
  exact ⟨g, e, hg, fun i hi j hj => (World.cell?_of_block (w := W) (a := ⟨g, i * 9 + j, none⟩) (Below.heap_setCell W ⟨B, x, none⟩ v g hg)).trans (hc i hi j hj)⟩
@[reducible] def cn8 (c0 c1 c2 c3 c4 c5 c6 c7 : Int) : Array Value := #[.int .i64 c0, .int .i64 c1, .int .i64 c2, .int .i64 c3, .int .i64 c4, .int .i64 c5, .int .i64 c6, .int .i64 c7]
def talN (l : List NdN) : Array Value := cn8 (kc 0 l : Nat) (kc 1 l : Nat) (kc 2 l : Nat) (kc 3 l : Nat) (kc 4 l : Nat) (kc 5 l : Nat) (kc 6 l : Nat) (kc 7 l : Nat)
def talW (l : List NdN) (ws : List WN) : Array Value := cn8 (kc 0 l : Nat) (kc 1 l : Nat) ((kc 2 l : Int) - (wc 1 ws : Int)) (kc 3 l : Nat) ((kc 4 l : Int) - (wc 5 ws : Int)) (kc 5 l : Nat) (kc 6 l : Nat) (kc 7 l : Nat)
theorem talW_nil (l : List NdN) : talW l [] = talN l := by
  unfold talW talN
  rw [show wc 1 [] = 0 from rfl, show wc 5 [] = 0 from rfl]
  simp
theorem talN_step1 {W : World} {g : Nat} {T : TypeId} (l : List NdN) (i : Nat) (h : i < l.length) (hk : l[i].kind = 1) (hb : Blk W g (talN (l.take i)) T) : Blk (W.setCell ⟨g, 1, none⟩ (.int .i64 ((kc 1 (l.take i) : Nat) + 1))) g (talN (l.take (i + 1))) T := by
  have st := fun k => kc_take7 k l i h
  rw [hk] at st
  have := hb.set 1 (.int .i64 ((kc 1 (l.take i) : Nat) + 1))
  unfold talN at this ⊢
  rw [st 0, st 1, st 2, st 3, st 4, st 5, st 6, st 7]
  simpa using this
theorem talN_step2 {W : World} {g : Nat} {T : TypeId} (l : List NdN) (i : Nat) (h : i < l.length) (hk : l[i].kind = 2) (hb : Blk W g (talN (l.take i)) T) : Blk (W.setCell ⟨g, 2, none⟩ (.int .i64 ((kc 2 (l.take i) : Nat) + 1))) g (talN (l.take (i + 1))) T := by
  have st := fun k => kc_take7 k l i h
  rw [hk] at st
  have := hb.set 2 (.int .i64 ((kc 2 (l.take i) : Nat) + 1))
  unfold talN at this ⊢
  rw [st 0, st 1, st 2, st 3, st 4, st 5, st 6, st 7]
  simpa using this
theorem talN_step3 {W : World} {g : Nat} {T : TypeId} (l : List NdN) (i : Nat) (h : i < l.length) (hk : l[i].kind = 3) (hb : Blk W g (talN (l.take i)) T) : Blk (W.setCell ⟨g, 3, none⟩ (.int .i64 ((kc 3 (l.take i) : Nat) + 1))) g (talN (l.take (i + 1))) T := by
  have st := fun k => kc_take7 k l i h
  rw [hk] at st
  have := hb.set 3 (.int .i64 ((kc 3 (l.take i) : Nat) + 1))
  unfold talN at this ⊢
  rw [st 0, st 1, st 2, st 3, st 4, st 5, st 6, st 7]
  simpa using this
theorem talN_step4 {W : World} {g : Nat} {T : TypeId} (l : List NdN) (i : Nat) (h : i < l.length) (hk : l[i].kind = 4) (hb : Blk W g (talN (l.take i)) T) : Blk (W.setCell ⟨g, 4, none⟩ (.int .i64 ((kc 4 (l.take i) : Nat) + 1))) g (talN (l.take (i + 1))) T := by
  have st := fun k => kc_take7 k l i h
  rw [hk] at st
  have := hb.set 4 (.int .i64 ((kc 4 (l.take i) : Nat) + 1))
  unfold talN at this ⊢
  rw [st 0, st 1, st 2, st 3, st 4, st 5, st 6, st 7]
  simpa using this
theorem talN_step5 {W : World} {g : Nat} {T : TypeId} (l : List NdN) (i : Nat) (h : i < l.length) (hk : l[i].kind = 5) (hb : Blk W g (talN (l.take i)) T) : Blk (W.setCell ⟨g, 5, none⟩ (.int .i64 ((kc 5 (l.take i) : Nat) + 1))) g (talN (l.take (i + 1))) T := by
  have st := fun k => kc_take7 k l i h
  rw [hk] at st
  have := hb.set 5 (.int .i64 ((kc 5 (l.take i) : Nat) + 1))
  unfold talN at this ⊢
  rw [st 0, st 1, st 2, st 3, st 4, st 5, st 6, st 7]
  simpa using this
theorem talN_step6 {W : World} {g : Nat} {T : TypeId} (l : List NdN) (i : Nat) (h : i < l.length) (hk : l[i].kind = 6) (hb : Blk W g (talN (l.take i)) T) : Blk (W.setCell ⟨g, 6, none⟩ (.int .i64 ((kc 6 (l.take i) : Nat) + 1))) g (talN (l.take (i + 1))) T := by
  have st := fun k => kc_take7 k l i h
  rw [hk] at st
  have := hb.set 6 (.int .i64 ((kc 6 (l.take i) : Nat) + 1))
  unfold talN at this ⊢
  rw [st 0, st 1, st 2, st 3, st 4, st 5, st 6, st 7]
  simpa using this
theorem talW_step1 {W : World} {g : Nat} {T : TypeId} (l : List NdN) (ws : List WN) (i : Nat) (h : i < ws.length) (hk : ws[i].kind = 1) (hb : Blk W g (talW l (ws.take i)) T) : Blk (W.setCell ⟨g, 2, none⟩ (.int .i64 ((kc 2 l : Int) - (wc 1 (ws.take i) : Int) - 1))) g (talW l (ws.take (i + 1))) T := by
  have s1 := wc_take7 1 ws i h
  have s5 := wc_take7 5 ws i h
  rw [hk] at s1 s5
  have := hb.set 2 (.int .i64 ((kc 2 l : Int) - (wc 1 (ws.take i) : Int) - 1))
  unfold talW at this ⊢
  rw [s1, s5]
  simp at this ⊢
  rw [show (kc 2 l : Int) - ((wc 1 (ws.take i) : Int) + 1) = (kc 2 l : Int) - (wc 1 (ws.take i) : Int) - 1 by omega]
  exact this
theorem talW_step5 {W : World} {g : Nat} {T : TypeId} (l : List NdN) (ws : List WN) (i : Nat) (h : i < ws.length) (hk : ws[i].kind = 5) (hb : Blk W g (talW l (ws.take i)) T) : Blk (W.setCell ⟨g, 4, none⟩ (.int .i64 ((kc 4 l : Int) - (wc 5 (ws.take i) : Int) - 1))) g (talW l (ws.take (i + 1))) T := by
  have s1 := wc_take7 1 ws i h
  have s5 := wc_take7 5 ws i h
  rw [hk] at s1 s5
  have := hb.set 4 (.int .i64 ((kc 4 l : Int) - (wc 5 (ws.take i) : Int) - 1))
  unfold talW at this ⊢
  rw [s1, s5]
  simp at this ⊢
  rw [show (kc 4 l : Int) - ((wc 5 (ws.take i) : Int) + 1) = (kc 4 l : Int) - (wc 5 (ws.take i) : Int) - 1 by omega]
  exact this
theorem talW_same {W : World} {g : Nat} {T : TypeId} (l : List NdN) (ws : List WN) (i : Nat) (h : i < ws.length) (h1 : ws[i].kind ≠ 1) (h5 : ws[i].kind ≠ 5) (hb : Blk W g (talW l (ws.take i)) T) : Blk W g (talW l (ws.take (i + 1))) T := by
  have s1 := wc_take7 1 ws i h
  have s5 := wc_take7 5 ws i h
  rw [if_neg h1] at s1
  rw [if_neg h5] at s5
  unfold talW at hb ⊢
  rw [s1, s5]
  exact hb
/-- What ParseRight wants to know of a tree and of its words. -/
structure RightQ (s : ByteArray) (l : List NdN) (ws : List WN) : Prop where
  right : rightR l = true
  kind : ∀ i (h : i < l.length), 1 ≤ l[i].kind ∧ l[i].kind ≤ 6
  alt : ∀ i (h : i < l.length), l[i].kind = 6 → 2 ≤ l[i].kids
  words : wordsN s = (ws, 0, 0)
  wk : ∀ i (h : i < ws.length), ws[i].kind = 1 ∨ ws[i].kind = 2 ∨ ws[i].kind = 3 ∨ ws[i].kind = 4 ∨ ws[i].kind = 5
  len : ws.length ≤ s.size
  e2 : kc 2 l = wc 1 ws
  e4 : kc 4 l = wc 5 ws
  e3 : kc 3 l = wc 2 ws
  e5 : wc 2 ws = wc 3 ws
  e6 : altN l = wc 4 ws
theorem right_q (s : ByteArray) : ((parseN s).2.2.1 ≠ 0 ∧ (parseN s).1.l = [] ∧ (parseN s).2.2.2 ≤ s.size) ∨ ((parseN s).2.2 = (0, 0) ∧ ∃ ws, RightQ s (parseN s).1.l ws) := by
  rcases readP_spec s (s.size + 1) 0 sPS [] (Nat.zero_le _) (by omega) sPS_inv ⟨rfl, rfl, rfl, rfl, rfl⟩ with ⟨h1, h2, h3⟩ | ⟨h1, h2, ws, h3, h4, h5, h6, h7, h8⟩
  · exact .inl ⟨h1, congrArg PS.l h2, h3⟩
  · refine .inr ⟨congrArg (fun x : Nat × Nat × Nat => x.2) h1, ws, ?_⟩
    change rightR (parseN s).1.l = true at h2
    have hn := ((rightR_iff _).1 h2).2.1
    change wordsN s = (ws, 0, 0) at h3
    have hsd : SideW 0 s.size ws := by
      rcases allN_side s (s.size + 1) 0 [] (Nat.zero_le _) (by omega) rfl with ⟨_, _, h⟩ | ⟨h, _⟩
      · change SideW 0 s.size (wordsN s).1 at h
        rw [h3] at h; exact h
      · change (wordsN s).2.1 ≠ 0 at h
        rw [h3] at h; exact absurd rfl h
    have hlen := allN_len7 s (s.size + 1) 0 []
    change (wordsN s).1.length ≤ 0 + (s.size - 0) at hlen
    rw [h3] at hlen
    exact ⟨h2, fun i h => node_kind _ (hn _ (List.getElem_mem h)), fun i h => node_alt _ (hn _ (List.getElem_mem h)), h3, fun i h => okW_kind _ (side_ok ws 0 s.size hsd _ (List.getElem_mem h)), by simpa using hlen, h4, h5, h6, h7, h8⟩
set_option maxRecDepth 100000 in
set_option maxHeartbeats 32000000 in
theorem parseRight_calls (C : ParseC) (s : ByteArray) (hs : s.size ≤ 9223372036854775807) (w : World) : Calls Tryz.prog 3 #[.string s] w fun e w' => e = .returned (.bool true) ∧ Below w.heap.size w w' := by
  have HSU := Lib.hid (sure7_calls C)
  have HB := Lib.hid (Below.refl w.heap.size w)
  by_cases hl : 300 < s.size
  · have q : decide (300 < s.size) = true := by simpa using hl
    clear C
    go_enter Tryz.func3, Tryz.ntmps3
    go_wp2_with fail
    refine (HSU.out _).mono ?_
    rintro e wz ⟨rfl, hb⟩
    have hBB := HB.out.trans (hb.mono HB.out.size)
    clear HSU hb
    go_wp2_with fail
    go_ret
    exact ⟨rfl, hBB⟩
  have q : decide (300 < s.size) = false := by simpa using hl
  have hP := C.parse s (by omega)
  have hA := rAllW_calls s (by omega)
  have hpl := right_len s
  rcases right_q s with ⟨h1, h2, h3⟩ | ⟨h1, ws, hQ⟩
  · rw [h2] at hP
    generalize (parseN s).2.2.1 = er at *
    generalize (parseN s).2.2.2 = ep at *
    have qe : ((er : Int) != 0) = true := by rw [bne_iff_ne]; omega
    have HP := Lib.hid hP
    have q5 : decide ((ep : Int) ≤ (s.size : Int)) = true := by rw [decide_eq_true_iff]; omega
    have q6 : decide ((0 : Int) ≤ (ep : Int)) = true := by rw [decide_eq_true_iff]; omega
    have q7 : decide (ep ≤ s.size) = true := decide_eq_true h3
    clear hP hA h1 h2 C hpl
    go_enter Tryz.func3, Tryz.ntmps3
    go_wp2_with fail
    refine (HP.out _).mono ?_
    rintro e w1 ⟨v, rfl, hv, hb⟩
    obtain ⟨va, vc, rfl⟩ := owns_form hv
    replace HB := Lib.hid (HB.out.trans (hb.mono HB.out.size))
    clear HP hb hv
    go_wp2_with fail
    refine (HSU.out _).mono ?_
    rintro e wz ⟨rfl, hb⟩
    have hBB := HB.out.trans (hb.mono HB.out.size)
    clear HSU hb
    go_wp2_with fail
    go_ret
    exact ⟨rfl, hBB⟩
  rw [h1] at hP
  generalize (parseN s).1.l = l at *
  have hne : l ≠ [] := by
    rintro rfl
    exact absurd (formed_pos [] ((rightR_iff []).1 hQ.right).1) (by simp)
  rw [hQ.words] at hA
  have hRI := fun a cap W h => aRight_calls l (by omega) a cap W h
  rw [hQ.right] at hRI
  have HP : Hid (∀ w, Calls Tryz.prog 5 #[.string s] w fun e w' => ∃ v, e = .returned (.tuple #[v, .int .i64 0, .int .i64 0]) ∧ w'.ownsRow w.heap.size 32 8 v l.length (ndCells l) ∧ Below w.heap.size w w') := Lib.hid hP
  have HA : Hid (∀ w, Calls Tryz.prog 6 #[.string s] w fun e w' => ∃ v, e = .returned (.tuple #[v, .int .i64 0, .int .i64 0]) ∧ w'.ownsRow w.heap.size 37 9 v ws.length (woCells ws) ∧ Below w.heap.size w w') := Lib.hid hA
  have HRI := Lib.hid hRI
  have HQ := Lib.hid hQ
  have hwl := hQ.len
  have hll : l.length ≤ 1000 := by omega
  clear hP hA hRI hQ h1 C hpl
  go_enter Tryz.func3, Tryz.ntmps3
  go_wp2_with fail
  refine (HP.out _).mono ?_
  rintro e w1 ⟨v, rfl, hv, hb⟩
  obtain ⟨gN, cN, rfl, _, hn⟩ := nodes_of_owns hv hne
  replace HB := Lib.hid (HB.out.trans (hb.mono HB.out.size))
  have HN := Lib.hid hn
  clear HP hb hv hn
  have HM := Lib.hid (Blk.new w1 (talN (l.take 0)) 27)
  have HBM : Hid (Below w1.heap.size w1 (w1.alloc (.cells (talN (l.take 0)) 27))) := Lib.hid (by go_grown)
  go_upto_region 7 with fail
  have e0 : w1.alloc (.cells #[.int .i64 0, .int .i64 0, .int .i64 0, .int .i64 0, .int .i64 0, .int .i64 0, .int .i64 0, .int .i64 0] 27) = w1.alloc (.cells (talN (l.take 0)) 27) := rfl
  try rw [e0]
  clear e0
  generalize w1.alloc (.cells (talN (l.take 0)) 27) = w2 at *
  go_wp2_with fail
  go_loopw [7] (fun v wr => ∃ i : Nat, i ≤ l.length ∧ v = .int .i64 i ∧ Blk wr w1.heap.size (talN (l.take i)) 27 ∧ Below w1.heap.size w1 wr) (fun v _ => l.length - (intOf v).toNat)
  case atStart => exact ⟨0, Nat.zero_le _, rfl, HM.out, HBM.out⟩
  case round =>
    clear HM HBM
    obtain ⟨i, hi, rfl, hbk, hW⟩ := hrel
    have HW := Lib.hid hW
    by_cases hlt : i < l.length
    · have hd : decide ((i : Int) < (l.length : Int)) = true := by rw [decide_eq_true_iff]; omega
      have hd2 : decide (i < l.length) = true := by rw [decide_eq_true_iff]; omega
      have c0 : wr.cell? ⟨gN, i * 8, none⟩ = some (.int .i64 l[i].kind) := by
        obtain ⟨g', o', e, h1, h2⟩ := HN.out.below hW hne
        cases e
        have := h2 i hlt 0 (by decide)
        rw [Nat.zero_add, Nat.add_zero] at this
        exact this
      have hkk := HQ.out.kind i hlt
      have hgN : gN ≠ w1.heap.size := by
        obtain ⟨g', o', e, h1, h2⟩ := HN.out hne
        cases e
        omega
      clear hW
      rcases (show l[i].kind = 1 ∨ l[i].kind = 2 ∨ l[i].kind = 3 ∨ l[i].kind = 4 ∨ l[i].kind = 5 ∨ l[i].kind = 6 by omega) with hk | hk | hk | hk | hk | hk
      all_goals clear hkk
      · have HB2 := Lib.hid (fun W' => talN_step1 (W := W') (g := w1.heap.size) (T := 27) l i hlt hk)
        have HBK := Lib.hid hbk
        have cM := hbk.cell 1
        have fM := hbk.frozen 1
        unfold talN at cM
        simp only [List.getElem?_toArray, List.getElem?_cons_zero, List.getElem?_cons_succ] at cM
        have kb := kc_le 1 (l.take i)
        rw [List.length_take] at kb
        rw [hk] at c0
        have HK := Lib.hid hk
        generalize kc 1 (l.take i) = cn at *
        clear hbk hk
        go_wp2_with fail
        go_roundw
        case rel => exact ⟨i + 1, by omega, by simp, HB2.out _ HBK.out, below_set HW.out (Nat.le_refl _) 1 _⟩
        case measure => simp [intOf]; omega
      · have HB2 := Lib.hid (fun W' => talN_step2 (W := W') (g := w1.heap.size) (T := 27) l i hlt hk)
        have HBK := Lib.hid hbk
        have cM := hbk.cell 2
        have fM := hbk.frozen 2
        unfold talN at cM
        simp only [List.getElem?_toArray, List.getElem?_cons_zero, List.getElem?_cons_succ] at cM
        have kb := kc_le 2 (l.take i)
        rw [List.length_take] at kb
        rw [hk] at c0
        have HK := Lib.hid hk
        generalize kc 2 (l.take i) = cn at *
        clear hbk hk
        go_wp2_with fail
        go_roundw
        case rel => exact ⟨i + 1, by omega, by simp, HB2.out _ HBK.out, below_set HW.out (Nat.le_refl _) 2 _⟩
        case measure => simp [intOf]; omega
      · have HB2 := Lib.hid (fun W' => talN_step3 (W := W') (g := w1.heap.size) (T := 27) l i hlt hk)
        have HBK := Lib.hid hbk
        have cM := hbk.cell 3
        have fM := hbk.frozen 3
        unfold talN at cM
        simp only [List.getElem?_toArray, List.getElem?_cons_zero, List.getElem?_cons_succ] at cM
        have kb := kc_le 3 (l.take i)
        rw [List.length_take] at kb
        rw [hk] at c0
        have HK := Lib.hid hk
        generalize kc 3 (l.take i) = cn at *
        clear hbk hk
        go_wp2_with fail
        go_roundw
        case rel => exact ⟨i + 1, by omega, by simp, HB2.out _ HBK.out, below_set HW.out (Nat.le_refl _) 3 _⟩
        case measure => simp [intOf]; omega
      · have HB2 := Lib.hid (fun W' => talN_step4 (W := W') (g := w1.heap.size) (T := 27) l i hlt hk)
        have HBK := Lib.hid hbk
        have cM := hbk.cell 4
        have fM := hbk.frozen 4
        unfold talN at cM
        simp only [List.getElem?_toArray, List.getElem?_cons_zero, List.getElem?_cons_succ] at cM
        have kb := kc_le 4 (l.take i)
        rw [List.length_take] at kb
        rw [hk] at c0
        have HK := Lib.hid hk
        generalize kc 4 (l.take i) = cn at *
        clear hbk hk
        go_wp2_with fail
        go_roundw
        case rel => exact ⟨i + 1, by omega, by simp, HB2.out _ HBK.out, below_set HW.out (Nat.le_refl _) 4 _⟩
        case measure => simp [intOf]; omega
      · have HB2 := Lib.hid (fun W' => talN_step5 (W := W') (g := w1.heap.size) (T := 27) l i hlt hk)
        have HBK := Lib.hid hbk
        have cM := hbk.cell 5
        have fM := hbk.frozen 5
        unfold talN at cM
        simp only [List.getElem?_toArray, List.getElem?_cons_zero, List.getElem?_cons_succ] at cM
        have kb := kc_le 5 (l.take i)
        rw [List.length_take] at kb
        rw [hk] at c0
        have HK := Lib.hid hk
        generalize kc 5 (l.take i) = cn at *
        clear hbk hk
        go_wp2_with fail
        go_roundw
        case rel => exact ⟨i + 1, by omega, by simp, HB2.out _ HBK.out, below_set HW.out (Nat.le_refl _) 5 _⟩
        case measure => simp [intOf]; omega
      · have HB2 := Lib.hid (fun W' => talN_step6 (W := W') (g := w1.heap.size) (T := 27) l i hlt hk)
        have HBK := Lib.hid hbk
        have cM := hbk.cell 6
        have fM := hbk.frozen 6
        unfold talN at cM
        simp only [List.getElem?_toArray, List.getElem?_cons_zero, List.getElem?_cons_succ] at cM
        have kb := kc_le 6 (l.take i)
        rw [List.length_take] at kb
        rw [hk] at c0
        have HK := Lib.hid hk
        generalize kc 6 (l.take i) = cn at *
        clear hbk hk
        go_wp2_with fail
        go_roundw
        case rel => exact ⟨i + 1, by omega, by simp, HB2.out _ HBK.out, below_set HW.out (Nat.le_refl _) 6 _⟩
        case measure => simp [intOf]; omega
    obtain rfl : i = l.length := by omega
    rw [List.take_length] at hbk
    have HBK := Lib.hid hbk
    clear hbk hW
    go_wp2_with fail
    refine (HA.out _).mono ?_
    rintro e w3 ⟨vW, rfl, hv, hb⟩
    obtain ⟨aW, cW, rfl, hws⟩ := words_of_owns7 hv
    have hM4 : w1.heap.size < w3.heap.size := Nat.lt_of_lt_of_le HBK.out.lt hb.size
    have HB3 := Lib.hid (HW.out.trans (hb.mono HW.out.size))
    have HM3 : Hid (Blk w3 w1.heap.size (talW l (ws.take 0)) 27) := Lib.hid (by rw [List.take_zero, talW_nil]; exact HBK.out.below hb HBK.out.lt)
    have HWS : Hid (WK ws aW w1.heap.size w3) := Lib.hid (fun hne => by
      obtain ⟨g, e, h1, h2, h3⟩ := hws hne
      exact ⟨g, e, by have := HBK.out.lt; omega, h3⟩)
    clear HBK hws hv hb HW HA
    go_wp2_with fail
    go_loopw [8, 9, 10, 14] (fun vo vs vb v wr => ∃ i : Nat, i ≤ ws.length ∧ v = .int .i64 i ∧ vo = .int .i64 (wc 2 (ws.take i) : Nat) ∧ vs = .int .i64 (wc 3 (ws.take i) : Nat) ∧ vb = .int .i64 (wc 4 (ws.take i) : Nat) ∧ Blk wr w1.heap.size (talW l (ws.take i)) 27 ∧ WK ws aW w1.heap.size wr ∧ Below w1.heap.size w1 wr) (fun _ _ _ v _ => ws.length - (intOf v).toNat)
    case atStart => exact ⟨0, Nat.zero_le _, rfl, rfl, rfl, rfl, HM3.out, HWS.out, HB3.out⟩
    case round =>
      clear HM3 HWS HB3
      obtain ⟨i, hi, rfl, rfl, rfl, rfl, hbk, hwk, hW⟩ := hrel
      have HW := Lib.hid hW
      have HWK := Lib.hid hwk
      by_cases hlt : i < ws.length
      · have hd : decide ((i : Int) < (ws.length : Int)) = true := by rw [decide_eq_true_iff]; omega
        have hd2 : decide (i < ws.length) = true := by rw [decide_eq_true_iff]; omega
        obtain ⟨gW, rfl, hgW, hc⟩ := hwk (by rintro rfl; simp at hlt)
        have c0 := hc i hlt 0 (by decide)
        rw [Nat.add_zero] at c0
        have hkk := HQ.out.wk i hlt
        have b2 := wc_le 2 (ws.take i); have b3 := wc_le 3 (ws.take i); have b4 := wc_le 4 (ws.take i)
        rw [List.length_take] at b2 b3 b4
        clear hW hc
        rcases hkk with hk | hk | hk | hk | hk
        · have HK := Lib.hid hk
          have c0' : wr.cell? ⟨gW, i * 9, none⟩ = some (.int .i64 1) := c0.trans (by show some (Value.int .i64 ((ws[i].kind : Nat) : Int)) = _; rw [hk]; rfl)
          have HB2 := Lib.hid (fun W' => talW_step1 (W := W') (g := w1.heap.size) (T := 27) l ws i hlt HK.out)
          have HBK := Lib.hid hbk
          have cM := hbk.cell 2
          have fM := hbk.frozen 2
          unfold talW at cM
          simp only [List.getElem?_toArray, List.getElem?_cons_zero, List.getElem?_cons_succ] at cM
          have kb := kc_le 2 l
          have wb := wc_le 1 (ws.take i)
          rw [List.length_take] at wb
          generalize kc 2 l = kcc at *
          generalize wc 1 (ws.take i) = wcc at *
          clear hbk
          clear hk c0
          go_wp2_with fail
          go_roundw
          case rel => exact ⟨i + 1, by omega, by simp, by rw [wc_take7 2 ws i hlt, HK.out]; simp, by rw [wc_take7 3 ws i hlt, HK.out]; simp, by rw [wc_take7 4 ws i hlt, HK.out]; simp, HB2.out _ HBK.out, HWK.out.set 2 _, below_set HW.out (Nat.le_refl _) 2 _⟩
          case measure => simp [intOf]; omega
        · have HK := Lib.hid hk
          have c0' : wr.cell? ⟨gW, i * 9, none⟩ = some (.int .i64 2) := c0.trans (by show some (Value.int .i64 ((ws[i].kind : Nat) : Int)) = _; rw [hk]; rfl)
          have HBK := Lib.hid hbk
          clear hbk
          clear hk c0
          go_wp2_with fail
          go_roundw
          case rel => exact ⟨i + 1, by omega, by simp, by rw [wc_take7 2 ws i hlt, HK.out]; simp, by rw [wc_take7 3 ws i hlt, HK.out]; simp, by rw [wc_take7 4 ws i hlt, HK.out]; simp, talW_same l ws i hlt (by rw [HK.out]; decide) (by rw [HK.out]; decide) HBK.out, HWK.out, HW.out⟩
          case measure => simp [intOf]; omega
        · have HK := Lib.hid hk
          have c0' : wr.cell? ⟨gW, i * 9, none⟩ = some (.int .i64 3) := c0.trans (by show some (Value.int .i64 ((ws[i].kind : Nat) : Int)) = _; rw [hk]; rfl)
          have HBK := Lib.hid hbk
          clear hbk
          clear hk c0
          go_wp2_with fail
          go_roundw
          case rel => exact ⟨i + 1, by omega, by simp, by rw [wc_take7 2 ws i hlt, HK.out]; simp, by rw [wc_take7 3 ws i hlt, HK.out]; simp, by rw [wc_take7 4 ws i hlt, HK.out]; simp, talW_same l ws i hlt (by rw [HK.out]; decide) (by rw [HK.out]; decide) HBK.out, HWK.out, HW.out⟩
          case measure => simp [intOf]; omega
        · have HK := Lib.hid hk
          have c0' : wr.cell? ⟨gW, i * 9, none⟩ = some (.int .i64 4) := c0.trans (by show some (Value.int .i64 ((ws[i].kind : Nat) : Int)) = _; rw [hk]; rfl)
          have HBK := Lib.hid hbk
          clear hbk
          clear hk c0
          go_wp2_with fail
          go_roundw
          case rel => exact ⟨i + 1, by omega, by simp, by rw [wc_take7 2 ws i hlt, HK.out]; simp, by rw [wc_take7 3 ws i hlt, HK.out]; simp, by rw [wc_take7 4 ws i hlt, HK.out]; simp, talW_same l ws i hlt (by rw [HK.out]; decide) (by rw [HK.out]; decide) HBK.out, HWK.out, HW.out⟩
          case measure => simp [intOf]; omega
        · have HK := Lib.hid hk
          have c0' : wr.cell? ⟨gW, i * 9, none⟩ = some (.int .i64 5) := c0.trans (by show some (Value.int .i64 ((ws[i].kind : Nat) : Int)) = _; rw [hk]; rfl)
          have HB2 := Lib.hid (fun W' => talW_step5 (W := W') (g := w1.heap.size) (T := 27) l ws i hlt HK.out)
          have HBK := Lib.hid hbk
          have cM := hbk.cell 4
          have fM := hbk.frozen 4
          unfold talW at cM
          simp only [List.getElem?_toArray, List.getElem?_cons_zero, List.getElem?_cons_succ] at cM
          have kb := kc_le 4 l
          have wb := wc_le 5 (ws.take i)
          rw [List.length_take] at wb
          generalize kc 4 l = kcc at *
          generalize wc 5 (ws.take i) = wcc at *
          clear hbk
          clear hk c0
          go_wp2_with fail
          go_roundw
          case rel => exact ⟨i + 1, by omega, by simp, by rw [wc_take7 2 ws i hlt, HK.out]; simp, by rw [wc_take7 3 ws i hlt, HK.out]; simp, by rw [wc_take7 4 ws i hlt, HK.out]; simp, HB2.out _ HBK.out, HWK.out.set 4 _, below_set HW.out (Nat.le_refl _) 4 _⟩
          case measure => simp [intOf]; omega
      obtain rfl : i = ws.length := by omega
      rw [List.take_length] at hbk ⊢
      have hT : talW l ws = cn8 (kc 0 l : Nat) (kc 1 l : Nat) 0 (wc 2 ws : Nat) 0 (kc 5 l : Nat) (kc 6 l : Nat) (kc 7 l : Nat) := by
        unfold talW
        rw [HQ.out.e2, HQ.out.e4, HQ.out.e3]
        simp
      rw [hT] at hbk
      rw [← HQ.out.e5, ← HQ.out.e6]
      have hab : altN l ≤ 300 := by
        have := wc_le 4 ws
        rw [← HQ.out.e6] at this; omega
      have HBK := Lib.hid hbk
      have HNW := Lib.hid (HN.out.below hW)
      have hM5 := hbk.lt
      clear hbk hwk hT HWK hi
      generalize wc 2 ws = wo at *
      obtain ⟨w4, rfl⟩ : ∃ W, W = wr := ⟨_, rfl⟩
      have HKK := Lib.hid HQ.out.kind
      have HAA := Lib.hid HQ.out.alt
      clear HQ hW
      go_wp2_with fail
      go_loopw [15, 16] (fun vr v wr => ∃ i : Nat, i ≤ l.length ∧ v = .int .i64 i ∧ vr = .int .i64 (altN (l.take i) : Nat) ∧ Below w4.heap.size w4 wr) (fun _ v _ => l.length - (intOf v).toNat)
      case atStart => exact ⟨0, Nat.zero_le _, rfl, rfl, Below.refl _ _⟩
      case round =>
        obtain ⟨i, hi, rfl, rfl, hW5⟩ := hrel
        have HW5 := Lib.hid hW5
        by_cases hlt : i < l.length
        · have hd : decide ((i : Int) < (l.length : Int)) = true := by rw [decide_eq_true_iff]; omega
          have hd2 : decide (i < l.length) = true := by rw [decide_eq_true_iff]; omega
          obtain ⟨g', o', e, h1, h2⟩ := HNW.out.below hW5 hne
          cases e
          have c0 := h2 i hlt 0 (by decide)
          have c1 := h2 i hlt 1 (by decide)
          simp only [ndA, List.getElem?_toArray, List.getElem?_cons_zero, List.getElem?_cons_succ, Nat.zero_add, Nat.add_zero] at c0 c1
          have hst := altN_take7 l i hlt
          have hle := altN_take_le l (i + 1)
          have hal := HAA.out i hlt
          generalize l[i].kind = kd at *
          generalize l[i].kids = kk at *
          generalize hE : altN (l.take (i + 1)) = an1 at *
          have HE := Lib.hid hE
          clear hE
          generalize altN (l.take i) = an at *
          have HST := Lib.hid hst
          clear h2 hW5
          by_cases h6 : kd = 6
          · subst h6
            have hk2 := hal rfl
            rw [if_pos rfl] at hst
            have hkb : kk ≤ 1000 := by omega
            have hanb : an ≤ 300 := by omega
            have hR := Lib.hid (show ((an1 : Nat) : Int) = (an : Int) + kk - 1 by omega)
            clear hst hal hle
            go_wp2_with fail
            go_roundw
            case rel => exact ⟨i + 1, by omega, by simp, by rw [HE.out, hR.out], HW5.out⟩
            case measure => simp [intOf]; omega
          · have q6 : (kd == 6) = false := by rw [beq_eq_false_iff_ne]; exact h6
            rw [if_neg h6] at hst
            have hR := Lib.hid (show an1 = an by omega)
            clear hst hal hle
            go_wp2_with fail
            go_roundw
            case rel => exact ⟨i + 1, by omega, by simp, by rw [HE.out, hR.out], HW5.out⟩
            case measure => simp [intOf]; omega
        obtain rfl : i = l.length := by omega
        rw [List.take_length]
        have HNX := Lib.hid (HNW.out.below hW5)
        have hbx := HBK.out.below hW5 hM5
        have HBB := Lib.hid (HB.out.trans ((HW.out.trans (hW5.mono (Nat.le_of_lt hM5))).mono HB.out.size))
        clear HB
        have HBX := Lib.hid hbx
        clear hW5 HW5 hbx
        go_wp2_with fail
        refine (HRI.out _ _ _ HNX.out).mono ?_
        rintro e w6 ⟨rfl, hb⟩
        have hbx := HBX.out.below hb HBX.out.lt
        have HB := Lib.hid (HBB.out.trans (hb.mono HBB.out.size))
        have c2 := hbx.cell 2
        have c3 := hbx.cell 3
        have c4 := hbx.cell 4
        simp only [List.getElem?_toArray, List.getElem?_cons_zero, List.getElem?_cons_succ] at c2 c3 c4
        clear HBB HBX HNX hb hbx HRI
        go_wp2_with fail
        refine (HSU.out _).mono ?_
        rintro e wz ⟨rfl, hb⟩
        have hBB := HB.out.trans (hb.mono HB.out.size)
        clear HSU hb
        go_wp2_with fail
        go_ret
        exact ⟨rfl, hBB⟩

end Go.Proofs.YthodphgbdmnpoaaGreatDoor

/- The developers' reading of a pattern: what of it lies in memory. Stage 7. -/
namespace Go.Proofs.YthodphgbdmnpoaaGreatDoor
open Go.RowKit BS

@[reducible] def preA (s : ByteArray) (a : Int) (vN vL : Value) (g : Int) : Array Value := #[.string s, .int .i64 a, vN, vL, .int .i64 g]
def lvCells (st : List (Nat × Nat)) : List Value := st.flatMap fun x => [.int .i64 x.2, .int .i64 x.1]
theorem lvCells_app (l m : List (Nat × Nat)) : lvCells (l ++ m) = lvCells l ++ lvCells m := by simp [lvCells]
theorem lvCells_len (l : List (Nat × Nat)) : (lvCells l).length = l.length * 2 := by
  induction l with
  | nil => rfl
  | cons x l ih =>
    have e : lvCells (x :: l) = [.int .i64 x.2, .int .i64 x.1] ++ lvCells l := by simp [lvCells]
    rw [e, List.length_append, ih, List.length_cons]
    simp; omega
theorem lvCells_last (l : List (Nat × Nat)) (x : Nat × Nat) : (lvCells (l ++ [x]))[l.length * 2]? = some (.int .i64 x.2) ∧ (lvCells (l ++ [x]))[l.length * 2 + 1]? = some (.int .i64 x.1) := by
  rw [lvCells_app]
  constructor
  · rw [List.getElem?_append_right (by rw [lvCells_len]; omega), lvCells_len, Nat.sub_self]; rfl
  · rw [List.getElem?_append_right (by rw [lvCells_len]; omega), lvCells_len, show l.length * 2 + 1 - l.length * 2 = 1 by omega]; rfl
theorem lvCells_set0 (l : List (Nat × Nat)) (n r r' : Nat) : (lvCells (l ++ [(n, r)])).set (l.length * 2) (.int .i64 r') = lvCells (l ++ [(n, r')]) := by
  rw [lvCells_app, lvCells_app, List.set_append_right _ _ (by rw [lvCells_len]; omega), lvCells_len, Nat.sub_self]
  rfl
theorem lvCells_set1 (l : List (Nat × Nat)) (n n' r : Nat) : (lvCells (l ++ [(n, r)])).set (l.length * 2 + 1) (.int .i64 n') = lvCells (l ++ [(n', r)]) := by
  rw [lvCells_app, lvCells_app, List.set_append_right _ _ (by rw [lvCells_len]; omega), lvCells_len, show l.length * 2 + 1 - l.length * 2 = 1 by omega]
  rfl
theorem lvCells_take (l : List (Nat × Nat)) (x : Nat × Nat) : (lvCells (l ++ [x])).take (l.length * 2) = lvCells l := by
  rw [lvCells_app, ← lvCells_len l, List.take_left]

/-- What was read so far lies at R: the nodes and the levels in rows of the call's own. -/
structure RdV (base R : Nat) (s : ByteArray) (a : Nat) (x : PS) (vN vL : Value) (w0 w : World) : Prop where
  blk : Blk w R (preA s a vN vL x.groups) 49
  nodes : w.ownsRow base 32 8 vN x.l.length (ndCells x.l)
  levels : w.ownsRow base 60 2 vL x.st.length (lvCells x.st.reverse)
  nR : vN.ownBlock ≠ some R
  lR : vL.ownBlock ≠ some R
  nl : vN.ownBlock = none ∨ vN.ownBlock ≠ vL.ownBlock
  bR : base ≤ R
  bel : Below base w0 w
theorem owns_lt {w : World} {base : Nat} {e : TypeId} {size : Nat} {v : Value} {n : Nat} {xs : List Value} (h : w.ownsRow base e size v n xs) {g : Nat} (hg : v.ownBlock = some g) : g < w.heap.size := (h.lt g hg).2
theorem owns_below {W W' : World} {base : Nat} {e : TypeId} {size : Nat} {v : Value} {n : Nat} {xs : List Value} (h : W.ownsRow base e size v n xs) (hb : Below W.heap.size W W') : W'.ownsRow base e size v n xs :=
  owns_keep h fun _ hg => hb.block _ (owns_lt h hg)
section
variable {base R : Nat} {s : ByteArray} {a : Nat} {x : PS} {vN vL : Value} {w0 w : World}
theorem RdV.below (h : RdV base R s a x vN vL w0 w) {w' : World} (hb : Below w.heap.size w w') : RdV base R s a x vN vL w0 w' :=
  ⟨h.blk.below hb h.blk.lt, owns_below h.nodes hb, owns_below h.levels hb, h.nR, h.lR, h.nl, h.bR, h.bel.trans (hb.mono (Nat.le_trans h.bR (Nat.le_of_lt h.blk.lt)))⟩
theorem RdV.size (h : RdV base R s a x vN vL w0 w) : base ≤ w.heap.size := Nat.le_trans h.bR (Nat.le_of_lt h.blk.lt)
theorem RdV.alloc (h : RdV base R s a x vN vL w0 w) (o : Obj) : RdV base R s a x vN vL w0 (w.alloc o) := h.below ((Below.refl _ _).alloc (Nat.le_refl _) o)
theorem RdV.drew (h : RdV base R s a x vN vL w0 w) : RdV base R s a x vN vL w0 w.drew := ⟨h.blk, h.nodes, h.levels, h.nR, h.lR, h.nl, h.bR, h.bel.drew⟩
theorem RdV.c (h : RdV base R s a x vN vL w0 w) : w.cell? ⟨R, 0, none⟩ = some (.string s) ∧ w.cell? ⟨R, 1, none⟩ = some (.int .i64 a) ∧ w.cell? ⟨R, 2, none⟩ = some vN ∧ w.cell? ⟨R, 3, none⟩ = some vL ∧ w.cell? ⟨R, 4, none⟩ = some (.int .i64 x.groups) :=
  ⟨h.blk.cell 0, h.blk.cell 1, h.blk.cell 2, h.blk.cell 3, h.blk.cell 4⟩
/-- The levels: where they lie, and what the innermost one is. -/
theorem RdV.top {n r : Nat} {st : List (Nat × Nat)} (h : RdV base R s a x vN vL w0 w) (hx : x.st = (n, r) :: st) : ∃ g cap, vL = .slice (some ⟨g, 0, none⟩) ((st.length + 1 : Nat) : Nat) cap ∧ base ≤ g ∧ g < w.heap.size ∧ g ≠ R ∧ st.length + 1 ≤ cap ∧
    w.cell? ⟨g, st.length * 2, none⟩ = some (.int .i64 r) ∧ w.cell? ⟨g, st.length * 2 + 1, none⟩ = some (.int .i64 n) ∧ w.frozen? ⟨g, st.length * 2, none⟩ = false ∧ w.frozen? ⟨g, st.length * 2 + 1, none⟩ = false ∧ w.frozen? ⟨R, 1, none⟩ = false := by
  have hl := h.levels
  rw [hx, List.length_cons, List.reverse_cons] at hl
  obtain ⟨g, cap, rfl, hb, hlt⟩ := hl.form (by omega)
  have hcap : st.length + 1 ≤ cap := by
    rcases hl.2 with ⟨hv, _⟩ | ⟨g', cap', cur, hv, _, _, hc, _⟩
    · cases hv
    · cases hv; exact hc
  refine ⟨g, cap, rfl, hb, hlt, fun e => h.lR (by rw [← e]; rfl), hcap, ?_, ?_, hl.frozenAt _, hl.frozenAt _, h.blk.frozen 1⟩
  · rw [hl.cellAt _ (by omega)]
    have := (lvCells_last st.reverse (n, r)).1
    rwa [List.length_reverse] at this
  · rw [hl.cellAt _ (by omega)]
    have := (lvCells_last st.reverse (n, r)).2
    rwa [List.length_reverse] at this
/-- The innermost level, written anew. -/
theorem RdV.put {n r : Nat} {st : List (Nat × Nat)} {g cap : Nat} (h : RdV base R s a x vN (.slice (some ⟨g, 0, none⟩) (st.length + 1 : Nat) cap) w0 w) (hx : x.st = (n, r) :: st) (n' : Nat) :
    RdV base R s a ⟨x.l, (n', r) :: st, x.groups⟩ vN (.slice (some ⟨g, 0, none⟩) (st.length + 1 : Nat) cap) w0 (w.setCell ⟨g, st.length * 2 + 1, none⟩ (.int .i64 n')) := by
  have hl := h.levels
  rw [hx, List.length_cons, List.reverse_cons] at hl
  have hbg := (hl.lt g rfl)
  have hgR : R ≠ g := fun e => h.lR (by rw [e]; rfl)
  refine ⟨h.blk.other hgR _ _, ?_, ?_, h.nR, h.lR, h.nl, h.bR, below_set h.bel hbg.1 _ _⟩
  · refine owns_keep h.nodes fun k hk => Below.heap_setCell _ _ _ _ ?_
    show k ≠ g
    rintro rfl
    rcases h.nl with h1 | h1
    · rw [h1] at hk; cases hk
    · exact h1 hk
  · have := hl.stored (st.length * 2 + 1) (.int .i64 n')
    show World.ownsRow _ base _ 2 _ (st.length + 1) (lvCells (((n', r) :: st).reverse))
    rw [List.reverse_cons, ← lvCells_set1 st.reverse n n' r, List.length_reverse]
    exact this.1
theorem RdV.put0 {n r : Nat} {st : List (Nat × Nat)} {g cap : Nat} (h : RdV base R s a x vN (.slice (some ⟨g, 0, none⟩) (st.length + 1 : Nat) cap) w0 w) (hx : x.st = (n, r) :: st) (r' : Nat) :
    RdV base R s a ⟨x.l, (n, r') :: st, x.groups⟩ vN (.slice (some ⟨g, 0, none⟩) (st.length + 1 : Nat) cap) w0 (w.setCell ⟨g, st.length * 2, none⟩ (.int .i64 r')) := by
  have hl := h.levels
  rw [hx, List.length_cons, List.reverse_cons] at hl
  have hbg := (hl.lt g rfl)
  have hgR : R ≠ g := fun e => h.lR (by rw [e]; rfl)
  refine ⟨h.blk.other hgR _ _, ?_, ?_, h.nR, h.lR, h.nl, h.bR, below_set h.bel hbg.1 _ _⟩
  · refine owns_keep h.nodes fun k hk => Below.heap_setCell _ _ _ _ ?_
    show k ≠ g
    rintro rfl
    rcases h.nl with h1 | h1
    · rw [h1] at hk; cases hk
    · exact h1 hk
  · have := hl.stored (st.length * 2) (.int .i64 r')
    show World.ownsRow _ base _ 2 _ (st.length + 1) (lvCells (((n, r') :: st).reverse))
    rw [List.reverse_cons, ← lvCells_set0 st.reverse n r r', List.length_reverse]
    exact this.1
/-- A cell of the struct itself, written anew. -/
theorem RdV.setAt (h : RdV base R s a x vN vL w0 w) (a' : Nat) : RdV base R s a' x vN vL w0 (w.setCell ⟨R, 1, none⟩ (.int .i64 a')) :=
  ⟨by have := h.blk.set 1 (.int .i64 a'); simpa using this, owns_keep h.nodes fun k hk => Below.heap_setCell _ _ _ _ (fun e => h.nR (by rw [hk, e])), owns_keep h.levels fun k hk => Below.heap_setCell _ _ _ _ (fun e => h.lR (by rw [hk, e])), h.nR, h.lR, h.nl, h.bR, below_set h.bel h.bR _ _⟩
theorem RdV.setGroups (h : RdV base R s a x vN vL w0 w) (g : Nat) : RdV base R s a ⟨x.l, x.st, g⟩ vN vL w0 (w.setCell ⟨R, 4, none⟩ (.int .i64 g)) :=
  ⟨by have := h.blk.set 4 (.int .i64 g); simpa using this, owns_keep h.nodes fun k hk => Below.heap_setCell _ _ _ _ (fun e => h.nR (by rw [hk, e])), owns_keep h.levels fun k hk => Below.heap_setCell _ _ _ _ (fun e => h.lR (by rw [hk, e])), h.nR, h.lR, h.nl, h.bR, below_set h.bel h.bR _ _⟩
/-- Nodes more: behind an append. -/
theorem RdV.pushN (h : RdV base R s a x vN vL w0 w) {w1 : World} {nd : NdN} {g cap : Nat} (hown : w1.ownsRow base 32 8 (.slice (some ⟨g, 0, none⟩) (x.l.length + 1 : Nat) cap) (x.l.length + 1) (ndCells x.l ++ (ndA nd).toList)) (hg : w.grownBy w1 vN.ownBlock) (hat : vN.ownBlock = some g ∨ w.heap.size ≤ g) :
    RdV base R s a ⟨x.l ++ [nd], x.st, x.groups⟩ (.slice (some ⟨g, 0, none⟩) (x.l.length + 1 : Nat) cap) vL w0 (w1.setCell ⟨R, 2, none⟩ (.slice (some ⟨g, 0, none⟩) (x.l.length + 1 : Nat) cap)) := by
  have hRg : g ≠ R := by
    rintro rfl
    rcases hat with h1 | h1
    · exact h.nR h1
    · have := h.blk.lt; omega
  have hb : Below base w0 w1 := h.bel.grown hg h.size fun k hk => (h.nodes.lt k hk).1
  refine ⟨?_, ?_, ?_, ?_, h.lR, ?_, h.bR, below_set hb h.bR _ _⟩
  · have := (h.blk.kept hg (fun e => h.nR e.symm)).set 2 (.slice (some ⟨g, 0, none⟩) (x.l.length + 1 : Nat) cap)
    simpa using this
  · show World.ownsRow _ base _ 8 _ (x.l ++ [nd]).length (ndCells (x.l ++ [nd]))
    rw [List.length_append, ndCells_app, show ndCells [nd] = (ndA nd).toList by simp [ndCells]]
    exact owns_keep hown fun k hk => Below.heap_setCell _ _ _ _ (fun e => hRg (by cases hk; exact e))
  · refine owns_keep (h.levels.kept hg ?_) fun k hk => Below.heap_setCell _ _ _ _ (fun e => h.lR (by rw [hk, e]))
    rcases h.nl with h1 | h1
    · rw [h1]
      cases hv : vL.ownBlock with
      | none => exact .inl rfl
      | some k => exact .inr (by simp)
    · exact .inr (Ne.symm h1)
  · intro e; cases e; exact hRg rfl
  · right
    intro e
    have e' : vL.ownBlock = some g := e.symm
    rcases hat with h1 | h1
    · rcases h.nl with h2 | h2
      · rw [h2] at h1; cases h1
      · exact h2 (h1.trans e'.symm)
    · have := owns_lt h.levels e'; omega
/-- A level more: behind an append. -/
theorem RdV.pushL (h : RdV base R s a x vN vL w0 w) {w1 : World} {g cap : Nat} (hown : w1.ownsRow base 60 2 (.slice (some ⟨g, 0, none⟩) (x.st.length + 1 : Nat) cap) (x.st.length + 1) (lvCells x.st.reverse ++ [.int .i64 0, .int .i64 0])) (hg : w.grownBy w1 vL.ownBlock) (hat : vL.ownBlock = some g ∨ w.heap.size ≤ g) :
    RdV base R s a ⟨x.l, (0, 0) :: x.st, x.groups⟩ vN (.slice (some ⟨g, 0, none⟩) (x.st.length + 1 : Nat) cap) w0 (w1.setCell ⟨R, 3, none⟩ (.slice (some ⟨g, 0, none⟩) (x.st.length + 1 : Nat) cap)) := by
  have hRg : g ≠ R := by
    rintro rfl
    rcases hat with h1 | h1
    · exact h.lR h1
    · have := h.blk.lt; omega
  have hb : Below base w0 w1 := h.bel.grown hg h.size fun k hk => (h.levels.lt k hk).1
  refine ⟨?_, ?_, ?_, h.nR, ?_, ?_, h.bR, below_set hb h.bR _ _⟩
  · have := (h.blk.kept hg (fun e => h.lR e.symm)).set 3 (.slice (some ⟨g, 0, none⟩) (x.st.length + 1 : Nat) cap)
    simpa using this
  · refine owns_keep (h.nodes.kept hg ?_) fun k hk => Below.heap_setCell _ _ _ _ (fun e => h.nR (by rw [hk, e]))
    rcases h.nl with h1 | h1
    · exact .inl h1
    · exact .inr h1
  · show World.ownsRow _ base _ 2 _ ((0, 0) :: x.st).length (lvCells ((0, 0) :: x.st).reverse)
    rw [List.length_cons, List.reverse_cons, lvCells_app]
    exact owns_keep hown fun k hk => Below.heap_setCell _ _ _ _ (fun e => hRg (by cases hk; exact e))
  · intro e; cases e; exact hRg rfl
  · rcases h.nl with h1 | h1
    · exact .inl h1
    · right
      intro e
      have e' : vN.ownBlock = some g := e
      rcases hat with h2 | h2
      · exact h1 (e'.trans h2.symm)
      · have := owns_lt h.nodes e'; omega
/-- A level less: by slicing. -/
theorem RdV.popL {p : Nat × Nat} {st : List (Nat × Nat)} {g cap : Nat} (h : RdV base R s a x vN (.slice (some ⟨g, 0, none⟩) (st.length + 1 : Nat) cap) w0 w) (hx : x.st = p :: st) :
    RdV base R s a ⟨x.l, st, x.groups⟩ vN (.slice (some ⟨g, 0, none⟩) (st.length : Nat) cap) w0 (w.setCell ⟨R, 3, none⟩ (.slice (some ⟨g, 0, none⟩) (st.length : Nat) cap)) := by
  have hl := h.levels
  rw [hx, List.length_cons, List.reverse_cons] at hl
  refine ⟨by have := h.blk.set 3 (.slice (some ⟨g, 0, none⟩) (st.length : Nat) cap); simpa using this, owns_keep h.nodes fun k hk => Below.heap_setCell _ _ _ _ (fun e => h.nR (by rw [hk, e])), ?_, h.nR, h.lR, h.nl, h.bR, below_set h.bel h.bR _ _⟩
  refine owns_keep (W := w) ⟨by rw [lvCells_len, List.length_reverse], ?_⟩ fun k hk => Below.heap_setCell _ _ _ _ (fun e => h.lR (by cases hk; exact congrArg some e))
  rcases hl.2 with ⟨hv, _⟩ | ⟨g', cap', cur, hv, h1, h2, h3, h4, h5, h6⟩
  · cases hv
  · cases hv
    refine .inr ⟨g, cap, cur, rfl, h1, h2, (by show st.length ≤ cap; omega), h4, h5, ?_⟩
    have := congrArg (List.take (st.length * 2)) h6
    rw [List.take_take, show min (st.length * 2) ((st.length + 1) * 2) = st.length * 2 by omega] at this
    have e := lvCells_take st.reverse p
    rw [List.length_reverse] at e
    rw [e] at this
    exact this
end
end Go.Proofs.YthodphgbdmnpoaaGreatDoor

/- The developers' reading: open, level, add, addPiece, endRow, endRows. Stage 7. -/
namespace Go.Proofs.YthodphgbdmnpoaaGreatDoor
open Go.RowKit BS

set_option maxRecDepth 100000 in
set_option maxHeartbeats 1000000 in
theorem popen_calls (R k : Nat) (ad : Option Addr) (cap : Nat) (w : World) (h3 : w.cell? ⟨R, 3, none⟩ = some (.slice ad (k + 1 : Nat) cap)) (hk : k ≤ 2000000) :
    Calls Tryz.prog 10 #[.pointer (some ⟨R, 0, none⟩)] w fun e w' => e = .returned (.int .i64 k) ∧ w = w' := by
  go_enter Tryz.func10, Tryz.ntmps10
  go_wp2_with fail
  go_ret
  exact ⟨rfl, rfl⟩
set_option maxRecDepth 100000 in
set_option maxHeartbeats 1000000 in
theorem plevel_calls (R g k cap : Nat) (w : World) (h3 : w.cell? ⟨R, 3, none⟩ = some (.slice (some ⟨g, 0, none⟩) (k + 1 : Nat) cap)) (hk : k ≤ 2000000) :
    Calls Tryz.prog 17 #[.pointer (some ⟨R, 0, none⟩)] w fun e w' => e = .returned (.pointer (some ⟨g, k * 2, none⟩)) ∧ Below w.heap.size w w' := by
  have q0 : (0 : Int) ≤ (k : Int) := by omega
  have q1 : (k : Int) < ((k + 1 : Nat) : Int) := by omega
  go_enter Tryz.func17, Tryz.ntmps17
  go_wp2_with fail
  go_quiet (fail)
  go_wp2_with fail
  go_ret
  exact ⟨rfl, below_drN (Below.refl _ _) _⟩

set_option maxRecDepth 100000 in
set_option maxHeartbeats 8000000 in
theorem padd_calls {base R : Nat} {s : ByteArray} {a : Nat} {x : PS} {vN vL : Value} {w0 : World} (nd : NdN) (w : World) (h : RdV base R s a x vN vL w0 w) (hl : x.l.length ≤ 4000000) :
    Calls Tryz.prog 21 #[.pointer (some ⟨R, 0, none⟩), .agg (ndA nd)] w fun e w' => e = .returned (.tuple #[]) ∧ ∃ vN', RdV base R s a ⟨x.l ++ [nd], x.st, x.groups⟩ vN' vL w0 w' := by
  obtain ⟨i0, hi0, hz0, hz1, hz2⟩ := info_parts info8n
  obtain ⟨k, c, n, m, t⟩ := nd
  have hB := Blk.new w (ndI k c n m t) 32
  have hr := h.alloc (.cells (ndI k c n m t) 32)
  have hne : vN.ownBlock ≠ some w.heap.size := fun e => by have := owns_lt h.nodes e; omega
  have hRlt := h.blk.lt
  clear h
  show Calls Tryz.prog 21 #[.pointer (some ⟨R, 0, none⟩), .agg (ndI k c n m t)] w fun e w' => e = .returned (.tuple #[]) ∧ ∃ vN', RdV base R s a ⟨x.l ++ [⟨k, c, n, m, t⟩], x.st, x.groups⟩ vN' vL w0 w'
  go_enter Tryz.func21, Tryz.ntmps21
  go_upto_region 1 with fail
  generalize w.alloc (.cells (ndI k c n m t) 32) = w1 at *
  generalize w.heap.size = B1 at *
  have cR := hr.c.2.2.1
  have c0 := hB.cell 0; have c1 := hB.cell 1; have c2 := hB.cell 2; have c3 := hB.cell 3; have c4 := hB.cell 4; have c5 := hB.cell 5; have c6 := hB.cell 6; have c7 := hB.cell 7
  simp only [List.getElem?_toArray, List.getElem?_cons_zero, List.getElem?_cons_succ] at c0 c1 c2 c3 c4 c5 c6 c7
  have hBlt := hB.lt
  have hRlt1 := hr.blk.lt
  have nR := hr.nR
  have hsz := hr.size
  have HR := Lib.hid hr
  have ffR := hr.blk.frozen 2
  clear hr hB
  go_region_law
    ((refine step_append_lies _ (by rfl) _ _ _ (by rfl) base 32 i0 _ 8 64 Tryz.underlying23 hi0 hz0 hz1 hz2 rfl (by omega) vN x.l.length (ndCells x.l) (by rfl) ((HR.out.alloc _).drew).nodes
        ⟨w1.heap.size, 0, none⟩ 1 1 (ndI k c n m t).toList (by rfl) (by rfl) (World.news_of_block (cs := ndI k c n m t) (t := 32) (fr := (0, 0)) (heap_alloc_new w1 _)) (by simp [Value.oneCell'])
        (by omega) (by simp only [maxLen]; omega) (by omega) (by simp; omega) (w1.heap.size + 1) (by simp) ?_; intro g cap w2 hown hgrow hat hlt; have ff2 : w2.frozen? ⟨R, 2, none⟩ = false := (((HR.out.alloc _).drew).blk.kept hgrow (Ne.symm nR)).frozen 2; have cc2 : w2.cell? ⟨R, 2, none⟩ = some vN := (((HR.out.alloc _).drew).blk.kept hgrow (Ne.symm nR)).cell 2))
  all_goals
    go_wp2_with fail
    go_end0
    exact ⟨rfl, _, ((HR.out.alloc _).drew).pushN hown hgrow (hat.imp id fun e => by rw [e]; simp)⟩
set_option maxRecDepth 100000 in
set_option maxHeartbeats 4000000 in
theorem paddPiece_calls {base R : Nat} {s : ByteArray} {a n r : Nat} {l : List NdN} {st : List (Nat × Nat)} {gr : Nat} {vN vL : Value} {w0 : World} (nd : NdN) (w : World) (h : RdV base R s a ⟨l, (n, r) :: st, gr⟩ vN vL w0 w) (hl : l.length ≤ 4000000) (hst : st.length ≤ 2000000) (hn : n ≤ 2000000) :
    Calls Tryz.prog 35 #[.pointer (some ⟨R, 0, none⟩), .agg (ndA nd)] w fun e w' => e = .returned (.tuple #[]) ∧ ∃ vN', RdV base R s a ⟨l ++ [nd], (n + 1, r) :: st, gr⟩ vN' vL w0 w' := by
  have HA := Lib.hid (fun W vN x (h : RdV base R s a x vN vL w0 W) => padd_calls nd W h)
  obtain ⟨k, c, n', m, t⟩ := nd
  have hB := Blk.new w (ndI k c n' m t) 32
  have hr := h.alloc (.cells (ndI k c n' m t) 32)
  clear h
  show Calls Tryz.prog 35 #[.pointer (some ⟨R, 0, none⟩), .agg (ndI k c n' m t)] w fun e w' => e = .returned (.tuple #[]) ∧ ∃ vN', RdV base R s a ⟨l ++ [⟨k, c, n', m, t⟩], (n + 1, r) :: st, gr⟩ vN' vL w0 w'
  go_enter Tryz.func35, Tryz.ntmps35
  go_upto_region 1 with fail
  generalize w.alloc (.cells (ndI k c n' m t) 32) = w1 at *
  generalize w.heap.size = B1 at *
  have c0 := hB.cell 0; have c1 := hB.cell 1; have c2 := hB.cell 2; have c3 := hB.cell 3; have c4 := hB.cell 4; have c5 := hB.cell 5; have c6 := hB.cell 6; have c7 := hB.cell 7
  simp only [List.getElem?_toArray, List.getElem?_cons_zero, List.getElem?_cons_succ] at c0 c1 c2 c3 c4 c5 c6 c7
  have HR := Lib.hid hr
  clear hr hB
  go_wp2_with fail
  refine (HA.out _ _ _ HR.out hl).mono ?_
  rintro e w2 ⟨rfl, vN', hr⟩
  clear HA HR c0 c1 c2 c3 c4 c5 c6 c7
  obtain ⟨g, cap, rfl, hbg, hgl, hgR, hcap, t0, t1, f0, f1, _⟩ := hr.top rfl
  have HL := Lib.hid (plevel_calls R g st.length cap w2 hr.c.2.2.2.1 hst)
  have HR := Lib.hid hr
  clear t0 t1 f0 f1 hr hgl
  go_wp2_with fail
  refine HL.out.mono ?_
  rintro e w3 ⟨rfl, hb⟩
  clear HL
  have hr := HR.out.below hb
  obtain ⟨_, _, e, _, _, _, _, t0, t1, f0, f1, _⟩ := hr.top rfl
  cases e
  clear HR hb
  have HR := Lib.hid hr
  clear hr
  go_wp2_with fail
  go_end0
  exact ⟨rfl, _, HR.out.put rfl (n + 1)⟩
end Go.Proofs.YthodphgbdmnpoaaGreatDoor

/- The developers' reading: endRow, endRows, openGroup, shutGroup. Stage 7. -/
namespace Go.Proofs.YthodphgbdmnpoaaGreatDoor
open Go.RowKit BS

theorem nd_zero (k c n m : Int) : ndA ⟨k, c, n, m, 0⟩ = #[.int .i64 k, .int .i64 c, .int .i64 n, .int .i64 m, .int .u64 0, .int .u64 0, .int .u64 0, .int .u64 0] := by
  have z0 : wd (0 : BitVec 256) 0 = 0 := by decide
  have z1 : wd (0 : BitVec 256) 1 = 0 := by decide
  have z2 : wd (0 : BitVec 256) 2 = 0 := by decide
  have z3 : wd (0 : BitVec 256) 3 = 0 := by decide
  show ndI k c n m 0 = _
  unfold ndI
  rw [z0, z1, z2, z3]
  rfl
set_option maxRecDepth 100000 in
set_option maxHeartbeats 4000000 in
theorem pendRow_calls {base R : Nat} {s : ByteArray} {a n r : Nat} {l : List NdN} {st : List (Nat × Nat)} {gr : Nat} {vN vL : Value} {w0 : World} (w : World) (h : RdV base R s a ⟨l, (n, r) :: st, gr⟩ vN vL w0 w) (hl : l.length ≤ 4000000) (hst : st.length ≤ 2000000) (hn : n ≤ 2000000) (hr' : r ≤ 2000000) :
    Calls Tryz.prog 20 #[.pointer (some ⟨R, 0, none⟩)] w fun e w' => e = .returned (.tuple #[]) ∧ ∃ vN', RdV base R s a ⟨l ++ rowT n, (0, r + 1) :: st, gr⟩ vN' vL w0 w' := by
  have hA := fun (nd : NdN) W vN x (h : RdV base R s a x vN vL w0 W) => padd_calls nd W h
  obtain ⟨g, cap, rfl, hbg, hgl, hgR, hcap, t0, t1, f0, f1, _⟩ := h.top rfl
  have HL := Lib.hid (plevel_calls R g st.length cap w h.c.2.2.2.1 hst)
  have HR := Lib.hid h
  clear t0 t1 f0 f1 h hgl
  by_cases h0 : n = 0
  · subst h0
    have hA1 := hA nd1
    rw [show nd1 = ⟨1, 0, 0, 0, 0⟩ from rfl, nd_zero] at hA1
    have HA := Lib.hid hA1
    clear hA1 hA
    go_enter Tryz.func20, Tryz.ntmps20
    go_wp2_with fail
    refine HL.out.mono ?_
    rintro e w3 ⟨rfl, hb⟩
    clear HL
    have hr := HR.out.below hb
    obtain ⟨_, _, e, _, _, _, _, t0, t1, f0, f1, _⟩ := hr.top rfl
    cases e
    clear HR hb
    have HR := Lib.hid hr
    clear hr
    go_wp2_with fail
    refine (HA.out _ _ _ HR.out hl).mono ?_
    rintro e w4 ⟨rfl, vN', hr⟩
    clear HA HR t0 t1 f0 f1
    obtain ⟨_, _, e, _, _, _, _, t0, t1, f0, f1, _⟩ := hr.top rfl
    cases e
    have HR := Lib.hid hr
    clear hr
    go_wp2_with fail
    go_end0
    exact ⟨rfl, _, (HR.out.put0 rfl (r + 1)).put rfl 0⟩
  by_cases h1 : n = 1
  · subst h1
    clear hA
    go_enter Tryz.func20, Tryz.ntmps20
    go_wp2_with fail
    refine HL.out.mono ?_
    rintro e w3 ⟨rfl, hb⟩
    clear HL
    have hr := HR.out.below hb
    obtain ⟨_, _, e, _, _, _, _, t0, t1, f0, f1, _⟩ := hr.top rfl
    cases e
    clear HR hb
    have HR := Lib.hid hr
    clear hr
    go_wp2_with fail
    go_end0
    refine ⟨rfl, vN, ?_⟩
    rw [show l ++ rowT 1 = l from List.append_nil l]
    exact (HR.out.put0 rfl (r + 1)).put rfl 0
  · have hA1 := hA (nd5 n)
    rw [show nd5 n = ⟨5, n, 0, 0, 0⟩ from rfl, nd_zero] at hA1
    have HA := Lib.hid hA1
    clear hA1 hA
    have q0 : ((n : Int) == 0) = false := by rw [beq_eq_false_iff_ne]; omega
    have q1 : ((n : Int) == 1) = false := by rw [beq_eq_false_iff_ne]; omega
    have hT : rowT n = [⟨5, n, 0, 0, 0⟩] := by unfold rowT; rw [if_neg h0, if_neg h1]; rfl
    have HT := Lib.hid hT
    clear hT
    go_enter Tryz.func20, Tryz.ntmps20
    go_wp2_with fail
    refine HL.out.mono ?_
    rintro e w3 ⟨rfl, hb⟩
    clear HL
    have hr := HR.out.below hb
    obtain ⟨_, _, e, _, _, _, _, t0, t1, f0, f1, _⟩ := hr.top rfl
    cases e
    clear HR hb
    have HR := Lib.hid hr
    clear hr
    go_wp2_with fail
    refine (HA.out _ _ _ HR.out hl).mono ?_
    rintro e w4 ⟨rfl, vN', hr⟩
    clear HA HR t0 t1 f0 f1
    obtain ⟨_, _, e, _, _, _, _, t0, t1, f0, f1, _⟩ := hr.top rfl
    cases e
    have HR := Lib.hid hr
    clear hr
    go_wp2_with fail
    go_end0
    rw [HT.out]
    exact ⟨rfl, _, (HR.out.put0 rfl (r + 1)).put rfl 0⟩
theorem rowT_len (n : Nat) : (rowT n).length ≤ 1 := by
  unfold rowT
  by_cases h0 : n = 0
  · rw [if_pos h0]; exact Nat.le_refl _
  · rw [if_neg h0]
    by_cases h1 : n = 1
    · rw [if_pos h1]; exact Nat.zero_le _
    · rw [if_neg h1]; exact Nat.le_refl _
theorem rowsT_len (n : Nat) : (rowsT n).length ≤ 1 := by
  unfold rowsT
  by_cases h0 : 1 < n
  · rw [if_pos h0]; exact Nat.le_refl _
  · rw [if_neg h0]; exact Nat.zero_le _
set_option maxRecDepth 100000 in
set_option maxHeartbeats 4000000 in
theorem pendRows_calls {base R : Nat} {s : ByteArray} {a n r : Nat} {l : List NdN} {st : List (Nat × Nat)} {gr : Nat} {vN vL : Value} {w0 : World} (w : World) (h : RdV base R s a ⟨l, (n, r) :: st, gr⟩ vN vL w0 w) (hl : l.length ≤ 3999999) (hst : st.length ≤ 2000000) (hn : n ≤ 2000000) (hr' : r ≤ 2000000) :
    Calls Tryz.prog 11 #[.pointer (some ⟨R, 0, none⟩)] w fun e w' => e = .returned (.tuple #[]) ∧ ∃ vN', RdV base R s a ⟨l ++ rowT n ++ rowsT (r + 1), (0, r + 1) :: st, gr⟩ vN' vL w0 w' := by
  have HE := Lib.hid (pendRow_calls w h (by omega) hst hn hr')
  have hl2 : (l ++ rowT n).length ≤ 4000000 := by
    rw [List.length_append]
    have := rowT_len n
    omega
  have hA := fun (nd : NdN) W vN x (h : RdV base R s a x vN vL w0 W) => padd_calls nd W h
  obtain ⟨g, cap, rfl, hbg, hgl, hgR, hcap, t0, t1, f0, f1, _⟩ := h.top rfl
  have HL := Lib.hid (fun W (h3 : W.cell? ⟨R, 3, none⟩ = some (.slice (some ⟨g, 0, none⟩) (st.length + 1 : Nat) cap)) => plevel_calls R g st.length cap W h3 hst)
  clear t0 t1 f0 f1 h hgl
  generalize l ++ rowT n = l2 at *
  by_cases h1 : 1 < r + 1
  · have hA1 := hA (nd6 (r + 1))
    rw [show nd6 (r + 1) = ⟨6, (r : Int) + 1, 0, 0, 0⟩ from rfl, nd_zero] at hA1
    have HA := Lib.hid hA1
    have hT : rowsT (r + 1) = [⟨6, (r : Int) + 1, 0, 0, 0⟩] := by unfold rowsT; rw [if_pos h1]; rfl
    have HT := Lib.hid hT
    have q : decide ((1 : Int) < (r : Int) + 1) = true := by rw [decide_eq_true_iff]; omega
    clear hT hA hA1
    go_enter Tryz.func11, Tryz.ntmps11
    go_wp2_with fail
    refine HE.out.mono ?_
    rintro e w2 ⟨rfl, vN', hr⟩
    clear HE
    have c3 := hr.c.2.2.2.1
    have HR := Lib.hid hr
    clear hr
    go_wp2_with fail
    refine (HL.out _ c3).mono ?_
    rintro e w3 ⟨rfl, hb⟩
    clear HL
    have hr := HR.out.below hb
    obtain ⟨_, _, e, _, _, _, _, t0, t1, f0, f1, _⟩ := hr.top rfl
    cases e
    clear HR hb c3
    have HR := Lib.hid hr
    clear hr
    go_wp2_with fail
    refine (HA.out _ _ _ HR.out hl2).mono ?_
    rintro e w4 ⟨rfl, vN2, hr⟩
    clear HA HR t0 t1 f0 f1
    have HR := Lib.hid hr
    clear hr
    go_wp2_with fail
    go_end0
    rw [HT.out]
    exact ⟨rfl, _, HR.out⟩
  · have hT : rowsT (r + 1) = [] := by unfold rowsT; rw [if_neg h1]
    have HT := Lib.hid hT
    have q : decide ((1 : Int) < (r : Int) + 1) = false := by rw [decide_eq_false_iff_not]; omega
    clear hT hA
    go_enter Tryz.func11, Tryz.ntmps11
    go_wp2_with fail
    refine HE.out.mono ?_
    rintro e w2 ⟨rfl, vN', hr⟩
    clear HE
    have c3 := hr.c.2.2.2.1
    have HR := Lib.hid hr
    clear hr
    go_wp2_with fail
    refine (HL.out _ c3).mono ?_
    rintro e w3 ⟨rfl, hb⟩
    clear HL
    have hr := HR.out.below hb
    obtain ⟨_, _, e, _, _, _, _, t0, t1, f0, f1, _⟩ := hr.top rfl
    cases e
    clear HR hb c3
    have HR := Lib.hid hr
    clear hr
    go_wp2_with fail
    go_end0
    rw [HT.out, List.append_nil]
    exact ⟨rfl, _, HR.out⟩

/-! ### A group's begin -/
theorem info2r : (Tryz.prog.info? 60).map (fun i => (i.zero, i.size, i.bytes)) = some (some (.agg #[.int .i64 0, .int .i64 0]), 2, 16) := by kernel_rfl
set_option maxRecDepth 100000 in
set_option maxHeartbeats 4000000 in
theorem popenGroup9_calls {R : Nat} (w : World) (c4 : w.cell? ⟨R, 4, none⟩ = some (.int .i64 9)) :
    Calls Tryz.prog 36 #[.pointer (some ⟨R, 0, none⟩)] w fun e w' => e = .returned (.int .i64 9) ∧ w = w' := by
  go_enter Tryz.func36, Tryz.ntmps36
  go_wp2_with fail
  go_ret
  exact ⟨rfl, rfl⟩
set_option maxRecDepth 100000 in
set_option maxHeartbeats 4000000 in
theorem popenGroup_calls {base R : Nat} {s : ByteArray} {a : Nat} {l : List NdN} {st : List (Nat × Nat)} {gr : Nat} {vN vL : Value} {w0 : World} (w : World) (h : RdV base R s a ⟨l, st, gr⟩ vN vL w0 w) (hst : st.length ≤ 2000000) (hg : gr < 9) :
    Calls Tryz.prog 36 #[.pointer (some ⟨R, 0, none⟩)] w fun e w' => e = .returned (.int .i64 0) ∧ ∃ vL', RdV base R s a ⟨l, (0, 0) :: st, gr + 1⟩ vN vL' w0 w' := by
  obtain ⟨i0, hi0, hz0, hz1, hz2⟩ := info_parts info2r
  have c4 : w.cell? ⟨R, 4, none⟩ = some (.int .i64 gr) := h.c.2.2.2.2
  have q : ((gr : Int) == 9) = false := by rw [beq_eq_false_iff_ne]; omega
  have f4 := h.blk.frozen 4
  have HR : Hid (RdV base R s a ⟨l, st, gr + 1⟩ vN vL w0 (w.setCell ⟨R, 4, none⟩ (.int .i64 ((gr + 1 : Nat) : Int)))) := Lib.hid (h.setGroups (gr + 1))
  clear h
  go_enter Tryz.func36, Tryz.ntmps36
  go_upto_region 4 with fail
  rw [show ((gr : Int) + 1) = ((gr + 1 : Nat) : Int) from rfl] at *
  generalize w.setCell ⟨R, 4, none⟩ (.int .i64 ((gr + 1 : Nat) : Int)) = w1 at *
  clear c4 f4
  have hr := HR.out
  have c3 := hr.c.2.2.2.1
  have lR := hr.lR
  have hsz := hr.size
  have hRlt := hr.blk.lt
  clear hr
  go_wp2_with (at_builtin
               go_loud (refine wpList_append_lies _ rfl _ _ 47 rfl base 60 i0 (.agg #[.int .i64 0, .int .i64 0]) 2 16 Tryz.underlying47 hi0 hz0 hz1 hz2 rfl (by decide) vL st.length (lvCells st.reverse) rfl (HR.out.alloc _).levels ⟨w1.heap.size, 0, none⟩ 1 1 [.int .i64 0, .int .i64 0] rfl rfl (World.news_of_block (cs := #[.int .i64 0, .int .i64 0]) (t := 60) (fr := (0, 0)) (heap_alloc_new w1 _)) (by simp [Value.oneCell']) (by omega) (by simp only [maxLen]; omega) (by omega) (by simp; omega) (w1.heap.size + 1) (by simp) ?_)
               intro g cap w2 hown hgrow hat hlt
               have ff2 := ((HR.out.alloc _).blk.kept hgrow (Ne.symm lR)).frozen 3
               have cc2 : w2.cell? ⟨R, 3, none⟩ = some vL := ((HR.out.alloc _).blk.kept hgrow (Ne.symm lR)).cell 3)
  go_ret
  exact ⟨rfl, _, (HR.out.alloc _).pushL hown hgrow (hat.imp id fun e => by rw [e]; simp)⟩
end Go.Proofs.YthodphgbdmnpoaaGreatDoor

/- The developers' reading: shutGroup, take. Stage 7. -/
namespace Go.Proofs.YthodphgbdmnpoaaGreatDoor
open Go.RowKit BS

set_option maxRecDepth 100000 in
set_option maxHeartbeats 4000000 in
theorem pshutGroup8_calls {R : Nat} (ad : Option Addr) (cap : Nat) (w : World) (c3 : w.cell? ⟨R, 3, none⟩ = some (.slice ad 1 cap)) :
    Calls Tryz.prog 37 #[.pointer (some ⟨R, 0, none⟩)] w fun e w' => e = .returned (.int .i64 8) ∧ w = w' := by
  have HO := Lib.hid (popen_calls R 0 ad cap w c3 (by omega))
  go_enter Tryz.func37, Tryz.ntmps37
  go_wp2_with fail
  refine HO.out.mono ?_
  rintro e w2 ⟨rfl, rfl⟩
  go_wp2_with fail
  go_ret
  exact ⟨rfl, rfl⟩
set_option maxRecDepth 100000 in
set_option maxHeartbeats 8000000 in
theorem pshutGroup_calls {base R : Nat} {s : ByteArray} {a n r n2 r2 : Nat} {l : List NdN} {st : List (Nat × Nat)} {gr : Nat} {vN vL : Value} {w0 : World} (w : World) (h : RdV base R s a ⟨l, (n, r) :: (n2, r2) :: st, gr⟩ vN vL w0 w) (hl : l.length ≤ 3999990) (hst : st.length ≤ 1999990) (hn : n ≤ 2000000) (hr' : r ≤ 2000000) (hn2 : n2 ≤ 2000000) :
    Calls Tryz.prog 37 #[.pointer (some ⟨R, 0, none⟩)] w fun e w' => e = .returned (.int .i64 0) ∧ ∃ vN' vL', RdV base R s a ⟨l ++ rowT n ++ rowsT (r + 1) ++ [ndG], (n2 + 1, r2) :: st, gr⟩ vN' vL' w0 w' := by
  have HE := Lib.hid (pendRows_calls w h (by omega) (by simp only [List.length_cons]; omega) hn hr')
  have hl2 : (l ++ rowT n ++ rowsT (r + 1)).length ≤ 4000000 := by
    rw [List.length_append, List.length_append]
    have h1 := rowT_len n
    have h2 := rowsT_len (r + 1)
    omega
  obtain ⟨g, cap, rfl, hbg, hgl, hgR, hcap, t0, t1, f0, f1, _⟩ := h.top rfl
  have c3 := h.c.2.2.2.1
  simp only [List.length_cons] at hcap
  rw [show ((n2, r2) :: st).length = st.length + 1 from rfl] at *
  clear t0 t1 f0 f1 h hgl
  have HO := Lib.hid (fun W (h3 : W.cell? ⟨R, 3, none⟩ = some (.slice (some ⟨g, 0, none⟩) (st.length + 1 + 1 : Nat) cap)) => popen_calls R (st.length + 1) (some ⟨g, 0, none⟩) cap W h3 (by omega))
  have HP := Lib.hid (fun W vN vL (h : RdV base R s a ⟨l ++ rowT n ++ rowsT (r + 1), (n2, r2) :: st, gr⟩ vN vL w0 W) => paddPiece_calls ndG W h hl2 (by omega) hn2)
  rw [show ndG = ⟨3, 1, 0, 0, 0⟩ from rfl, nd_zero] at HP
  generalize l ++ rowT n ++ rowsT (r + 1) = l2 at *
  have q : ((st.length : Int) + 1 == 0) = false := by rw [beq_eq_false_iff_ne]; omega
  go_enter Tryz.func37, Tryz.ntmps37
  go_wp2_with fail
  refine (HO.out _ c3).mono ?_
  rintro e w2 ⟨rfl, rfl⟩
  go_wp2_with fail
  refine HE.out.mono ?_
  rintro e w2 ⟨rfl, vN', hr⟩
  clear HE c3
  have c3 : w2.cell? ⟨R, 3, none⟩ = some (.slice (some ⟨g, 0, none⟩) (st.length + 1 + 1 : Nat) cap) := hr.c.2.2.2.1
  have f3 := hr.blk.frozen 3
  have HR := Lib.hid hr
  have q0 : (0 : Int) ≤ (st.length : Int) + 1 := by omega
  have q1 : (st.length : Int) + 1 ≤ (cap : Int) := by omega
  clear hr
  go_wp2_with fail
  go_region_with (go_at_call 10; refine (HO.out w2.drew c3).mono ?_; rintro e w3 ⟨rfl, rfl⟩)
  all_goals
    have hr : RdV base R s a ⟨l2, (n2, r2) :: st, gr⟩ vN' (.slice (some ⟨g, 0, none⟩) (st.length + 1 : Nat) cap) w0 (w2.drew.setCell ⟨R, 3, none⟩ (.slice (some ⟨g, 0, none⟩) (st.length + 1 : Nat) cap)) := RdV.popL (p := (0, r + 1)) (st := (n2, r2) :: st) HR.out.drew rfl
    go_wp2_with fail
    refine (HP.out _ _ _ hr).mono ?_
    rintro e w4 ⟨rfl, vN2, hr2⟩
    go_wp2_with fail
    go_ret
    exact ⟨rfl, _, _, hr2⟩
end Go.Proofs.YthodphgbdmnpoaaGreatDoor

/- The developers' reading: take. Stage 7. -/
namespace Go.Proofs.YthodphgbdmnpoaaGreatDoor
open Go.RowKit BS

set_option maxRecDepth 100000 in
set_option maxHeartbeats 4000000 in
theorem ptake1 {base R : Nat} {s : ByteArray} {a n r : Nat} {l : List NdN} {st : List (Nat × Nat)} {gr : Nat} {vN vL : Value} {w0 : World} (p f : Int) (t : BitVec 256) (n' m' : Int) (w : World) (h : RdV base R s a ⟨l, (n, r) :: st, gr⟩ vN vL w0 w) (hl : l.length ≤ 3999990) (hst : st.length ≤ 1999990) (hn : n ≤ 2000000) :
    Calls Tryz.prog 19 #[.pointer (some ⟨R, 0, none⟩), .agg (woI 1 p f t n' m')] w fun e w' => e = .returned (.int .i64 0) ∧ ∃ vN', RdV base R s a ⟨l ++ [⟨2, 0, 0, 0, t⟩], (n + 1, r) :: st, gr⟩ vN' vL w0 w' := by
  have hB := Blk.new w (woI 1 p f t n' m') 37
  have hr := h.alloc (.cells (woI 1 p f t n' m') 37)
  have hb0 : Below w.heap.size w (w.alloc (.cells (woI 1 p f t n' m') 37)) := by go_grown
  clear h
  go_enter Tryz.func19, Tryz.ntmps19
  go_upto_region 1 with fail
  generalize w.alloc (.cells (woI 1 p f t n' m') 37) = w1 at *
  have HB0 := Lib.hid hb0
  clear hb0
  have HW := Lib.hid (Eq.refl w.heap.size)
  clear HW
  have c0 := hB.cell 0; have c3 := hB.cell 3; have c4 := hB.cell 4; have c5 := hB.cell 5; have c6 := hB.cell 6; have c7 := hB.cell 7; have c8 := hB.cell 8
  simp only [List.getElem?_toArray, List.getElem?_cons_zero, List.getElem?_cons_succ] at c0 c3 c4 c5 c6 c7 c8
  have HR := Lib.hid hr
  clear hr hB
  go_wp2_with fail
  refine (paddPiece_calls ⟨2, 0, 0, 0, t⟩ _ HR.out (by omega) (by omega) hn).mono ?_
  rintro e w2 ⟨rfl, vN', hr2⟩
  go_wp2_with fail
  go_ret
  exact ⟨rfl, _, hr2⟩
set_option maxRecDepth 100000 in
set_option maxHeartbeats 4000000 in
theorem ptake2_9 {base R : Nat} {s : ByteArray} {a n r : Nat} {l : List NdN} {st : List (Nat × Nat)} {vN vL : Value} {w0 : World} (p f : Int) (t : BitVec 256) (n' m' : Int) (w : World) (h : RdV base R s a ⟨l, (n, r) :: st, 9⟩ vN vL w0 w) :
    Calls Tryz.prog 19 #[.pointer (some ⟨R, 0, none⟩), .agg (woI 2 p f t n' m')] w fun e w' => e = .returned (.int .i64 9) ∧ Below w.heap.size w w' := by
  have hB := Blk.new w (woI 2 p f t n' m') 37
  have hr := h.alloc (.cells (woI 2 p f t n' m') 37)
  have hb0 : Below w.heap.size w (w.alloc (.cells (woI 2 p f t n' m') 37)) := by go_grown
  clear h
  go_enter Tryz.func19, Tryz.ntmps19
  go_upto_region 1 with fail
  generalize w.alloc (.cells (woI 2 p f t n' m') 37) = w1 at *
  have HB0 := Lib.hid hb0
  clear hb0
  have HW := Lib.hid (Eq.refl w.heap.size)
  clear HW
  have c0 := hB.cell 0; have c3 := hB.cell 3; have c4 := hB.cell 4; have c5 := hB.cell 5; have c6 := hB.cell 6; have c7 := hB.cell 7; have c8 := hB.cell 8
  simp only [List.getElem?_toArray, List.getElem?_cons_zero, List.getElem?_cons_succ] at c0 c3 c4 c5 c6 c7 c8
  have HR := Lib.hid hr
  have cg := hr.c.2.2.2.2
  clear hr hB
  go_wp2_with fail
  refine (popenGroup9_calls _ cg).mono ?_
  rintro e w2 ⟨rfl, rfl⟩
  go_wp2_with fail
  go_ret
  exact ⟨rfl, HB0.out⟩
set_option maxRecDepth 100000 in
set_option maxHeartbeats 4000000 in
theorem ptake2 {base R : Nat} {s : ByteArray} {a n r : Nat} {l : List NdN} {st : List (Nat × Nat)} {gr : Nat} {vN vL : Value} {w0 : World} (p f : Int) (t : BitVec 256) (n' m' : Int) (w : World) (h : RdV base R s a ⟨l, (n, r) :: st, gr⟩ vN vL w0 w) (hst : st.length ≤ 1999990) (hg : gr < 9) :
    Calls Tryz.prog 19 #[.pointer (some ⟨R, 0, none⟩), .agg (woI 2 p f t n' m')] w fun e w' => e = .returned (.int .i64 0) ∧ ∃ vL', RdV base R s a ⟨l, (0, 0) :: (n, r) :: st, gr + 1⟩ vN vL' w0 w' := by
  have hB := Blk.new w (woI 2 p f t n' m') 37
  have hr := h.alloc (.cells (woI 2 p f t n' m') 37)
  have hb0 : Below w.heap.size w (w.alloc (.cells (woI 2 p f t n' m') 37)) := by go_grown
  clear h
  go_enter Tryz.func19, Tryz.ntmps19
  go_upto_region 1 with fail
  generalize w.alloc (.cells (woI 2 p f t n' m') 37) = w1 at *
  have HB0 := Lib.hid hb0
  clear hb0
  have HW := Lib.hid (Eq.refl w.heap.size)
  clear HW
  have c0 := hB.cell 0; have c3 := hB.cell 3; have c4 := hB.cell 4; have c5 := hB.cell 5; have c6 := hB.cell 6; have c7 := hB.cell 7; have c8 := hB.cell 8
  simp only [List.getElem?_toArray, List.getElem?_cons_zero, List.getElem?_cons_succ] at c0 c3 c4 c5 c6 c7 c8
  have HR := Lib.hid hr
  clear hr hB
  go_wp2_with fail
  refine (popenGroup_calls _ HR.out (by simp only [List.length_cons]; omega) hg).mono ?_
  rintro e w2 ⟨rfl, vL', hr2⟩
  go_wp2_with fail
  go_ret
  exact ⟨rfl, _, hr2⟩
set_option maxRecDepth 100000 in
set_option maxHeartbeats 4000000 in
theorem ptake3_8 {base R : Nat} {s : ByteArray} {a n r : Nat} {l : List NdN} {gr : Nat} {vN vL : Value} {w0 : World} (p f : Int) (t : BitVec 256) (n' m' : Int) (w : World) (h : RdV base R s a ⟨l, [(n, r)], gr⟩ vN vL w0 w) :
    Calls Tryz.prog 19 #[.pointer (some ⟨R, 0, none⟩), .agg (woI 3 p f t n' m')] w fun e w' => e = .returned (.int .i64 8) ∧ Below w.heap.size w w' := by
  have hB := Blk.new w (woI 3 p f t n' m') 37
  have hr := h.alloc (.cells (woI 3 p f t n' m') 37)
  have hb0 : Below w.heap.size w (w.alloc (.cells (woI 3 p f t n' m') 37)) := by go_grown
  clear h
  go_enter Tryz.func19, Tryz.ntmps19
  go_upto_region 1 with fail
  generalize w.alloc (.cells (woI 3 p f t n' m') 37) = w1 at *
  have HB0 := Lib.hid hb0
  clear hb0
  have HW := Lib.hid (Eq.refl w.heap.size)
  clear HW
  have c0 := hB.cell 0; have c3 := hB.cell 3; have c4 := hB.cell 4; have c5 := hB.cell 5; have c6 := hB.cell 6; have c7 := hB.cell 7; have c8 := hB.cell 8
  simp only [List.getElem?_toArray, List.getElem?_cons_zero, List.getElem?_cons_succ] at c0 c3 c4 c5 c6 c7 c8
  have HR := Lib.hid hr
  obtain ⟨g, cap, rfl, _⟩ := hr.top rfl
  have cl := hr.c.2.2.2.1
  clear hr hB
  go_wp2_with fail
  refine (pshutGroup8_calls _ cap _ cl).mono ?_
  rintro e w2 ⟨rfl, rfl⟩
  go_wp2_with fail
  go_ret
  exact ⟨rfl, HB0.out⟩
set_option maxRecDepth 100000 in
set_option maxHeartbeats 4000000 in
theorem ptake3 {base R : Nat} {s : ByteArray} {a n r : Nat} {l : List NdN} {st : List (Nat × Nat)} {gr : Nat} {vN vL : Value} {w0 : World} (p f : Int) (t : BitVec 256) (n' m' : Int) (w : World) {n2 r2 : Nat} (h : RdV base R s a ⟨l, (n, r) :: (n2, r2) :: st, gr⟩ vN vL w0 w) (hl : l.length ≤ 3999990) (hst : st.length ≤ 1999990) (hn : n ≤ 2000000) (hr' : r ≤ 2000000) (hn2 : n2 ≤ 2000000) :
    Calls Tryz.prog 19 #[.pointer (some ⟨R, 0, none⟩), .agg (woI 3 p f t n' m')] w fun e w' => e = .returned (.int .i64 0) ∧ ∃ vN' vL', RdV base R s a ⟨l ++ rowT n ++ rowsT (r + 1) ++ [ndG], (n2 + 1, r2) :: st, gr⟩ vN' vL' w0 w' := by
  have hB := Blk.new w (woI 3 p f t n' m') 37
  have hr := h.alloc (.cells (woI 3 p f t n' m') 37)
  have hb0 : Below w.heap.size w (w.alloc (.cells (woI 3 p f t n' m') 37)) := by go_grown
  clear h
  go_enter Tryz.func19, Tryz.ntmps19
  go_upto_region 1 with fail
  generalize w.alloc (.cells (woI 3 p f t n' m') 37) = w1 at *
  have HB0 := Lib.hid hb0
  clear hb0
  have HW := Lib.hid (Eq.refl w.heap.size)
  clear HW
  have c0 := hB.cell 0; have c3 := hB.cell 3; have c4 := hB.cell 4; have c5 := hB.cell 5; have c6 := hB.cell 6; have c7 := hB.cell 7; have c8 := hB.cell 8
  simp only [List.getElem?_toArray, List.getElem?_cons_zero, List.getElem?_cons_succ] at c0 c3 c4 c5 c6 c7 c8
  have HR := Lib.hid hr
  clear hr hB
  go_wp2_with fail
  refine (pshutGroup_calls _ HR.out hl hst hn hr' hn2).mono ?_
  rintro e w2 ⟨rfl, vN', vL', hr2⟩
  go_wp2_with fail
  go_ret
  exact ⟨rfl, _, _, hr2⟩
set_option maxRecDepth 100000 in
set_option maxHeartbeats 4000000 in
theorem ptake4 {base R : Nat} {s : ByteArray} {a n r : Nat} {l : List NdN} {st : List (Nat × Nat)} {gr : Nat} {vN vL : Value} {w0 : World} (p f : Int) (t : BitVec 256) (n' m' : Int) (w : World) (h : RdV base R s a ⟨l, (n, r) :: st, gr⟩ vN vL w0 w) (hl : l.length ≤ 3999990) (hst : st.length ≤ 1999990) (hn : n ≤ 2000000) (hr' : r ≤ 2000000) :
    Calls Tryz.prog 19 #[.pointer (some ⟨R, 0, none⟩), .agg (woI 4 p f t n' m')] w fun e w' => e = .returned (.int .i64 0) ∧ ∃ vN', RdV base R s a ⟨l ++ rowT n, (0, r + 1) :: st, gr⟩ vN' vL w0 w' := by
  have hB := Blk.new w (woI 4 p f t n' m') 37
  have hr := h.alloc (.cells (woI 4 p f t n' m') 37)
  have hb0 : Below w.heap.size w (w.alloc (.cells (woI 4 p f t n' m') 37)) := by go_grown
  clear h
  go_enter Tryz.func19, Tryz.ntmps19
  go_upto_region 1 with fail
  generalize w.alloc (.cells (woI 4 p f t n' m') 37) = w1 at *
  have HB0 := Lib.hid hb0
  clear hb0
  have HW := Lib.hid (Eq.refl w.heap.size)
  clear HW
  have c0 := hB.cell 0; have c3 := hB.cell 3; have c4 := hB.cell 4; have c5 := hB.cell 5; have c6 := hB.cell 6; have c7 := hB.cell 7; have c8 := hB.cell 8
  simp only [List.getElem?_toArray, List.getElem?_cons_zero, List.getElem?_cons_succ] at c0 c3 c4 c5 c6 c7 c8
  have HR := Lib.hid hr
  clear hr hB
  go_wp2_with fail
  refine (pendRow_calls _ HR.out (by omega) (by omega) hn hr').mono ?_
  rintro e w2 ⟨rfl, vN', hr2⟩
  go_wp2_with fail
  go_ret
  exact ⟨rfl, _, hr2⟩
set_option maxRecDepth 100000 in
set_option maxHeartbeats 4000000 in
theorem ptake5 {base R : Nat} {s : ByteArray} {a n r : Nat} {l : List NdN} {st : List (Nat × Nat)} {gr : Nat} {vN vL : Value} {w0 : World} (p f : Int) (t : BitVec 256) (n' m' : Int) (w : World) (h : RdV base R s a ⟨l, (n, r) :: st, gr⟩ vN vL w0 w) (hl : l.length ≤ 3999990) :
    Calls Tryz.prog 19 #[.pointer (some ⟨R, 0, none⟩), .agg (woI 5 p f t n' m')] w fun e w' => e = .returned (.int .i64 0) ∧ ∃ vN', RdV base R s a ⟨l ++ [⟨4, 1, n', m', 0⟩], (n, r) :: st, gr⟩ vN' vL w0 w' := by
  have hB := Blk.new w (woI 5 p f t n' m') 37
  have hr := h.alloc (.cells (woI 5 p f t n' m') 37)
  have hb0 : Below w.heap.size w (w.alloc (.cells (woI 5 p f t n' m') 37)) := by go_grown
  clear h
  have hA := fun W (h : RdV base R s a ⟨l, (n, r) :: st, gr⟩ vN vL w0 W) => padd_calls ⟨4, 1, n', m', 0⟩ W h (by simp only; omega)
  rw [nd_zero] at hA
  have HA := Lib.hid hA
  clear hA
  go_enter Tryz.func19, Tryz.ntmps19
  go_upto_region 1 with fail
  generalize w.alloc (.cells (woI 5 p f t n' m') 37) = w1 at *
  have HB0 := Lib.hid hb0
  clear hb0
  have HW := Lib.hid (Eq.refl w.heap.size)
  clear HW
  have c0 := hB.cell 0; have c3 := hB.cell 3; have c4 := hB.cell 4; have c5 := hB.cell 5; have c6 := hB.cell 6; have c7 := hB.cell 7; have c8 := hB.cell 8
  simp only [List.getElem?_toArray, List.getElem?_cons_zero, List.getElem?_cons_succ] at c0 c3 c4 c5 c6 c7 c8
  have HR := Lib.hid hr
  clear hr hB
  go_wp2_with fail
  refine (HA.out _ HR.out).mono ?_
  rintro e w2 ⟨rfl, vN', hr2⟩
  go_wp2_with fail
  go_ret
  exact ⟨rfl, _, hr2⟩
end Go.Proofs.YthodphgbdmnpoaaGreatDoor

/- Brackets, plainly: how the developers' package reads them. -/
namespace Go.Proofs.YthodphgbdmnpoaaGreatDoor
open Go.RowKit BS

/-- What was read. -/
structure DP where
  set : BitVec 256
  fin : Nat
  err : Nat
  lack : ByteArray

/-- Does one of the bytes L stand at i? -/
def isN (s : ByteArray) (i : Nat) (L : List Nat) : Bool := decide (i < s.size) && L.contains (bt s i)
def shortD (s l : ByteArray) : DP := ⟨0, s.size, 2, l⟩
def badD (e p : Nat) : DP := ⟨0, p, e, eT⟩
def okD (t : BitVec 256) (p : Nat) : DP := ⟨t, p, 0, eT⟩

def betweenD (s : ByteArray) (i : Nat) : DP :=
  if bt s (i + 2) < bt s i then badD 4 (i + 3)
  else if bt s (i + 2) = 91 ∧ isN s (i + 3) [58, 46, 61] = true then badD 3 (i + 4)
  else okD (range (bt s i) (bt s (i + 2))) (i + 3)

/-- How far a name goes. -/
def nmEnd (s : ByteArray) (a : Nat) : Nat → Nat → Nat
  | 0, e => e
  | n + 1, e => if begB (s.extract a (e + 1)) = true then nmEnd s a n (e + 1) else e
/-- How the first name that begins so goes on. -/
def restD (l : ByteArray) : ByteArray := ((tabL.find? fun e => pfx e.1 l).map (fun e => e.1.extract l.size e.1.size)).getD eT
def colT : ByteArray := ofT [58, 93, 93]
def twoT : ByteArray := ofT [93, 93]
def oneT : ByteArray := ofT [93]

def behindD (s : ByteArray) (a e : Nat) : DP :=
  if e = s.size then shortD s (restD (s.extract a s.size) ++ colT)
  else if ofB (s.extract a e).toList = false ∨ bt s e ≠ 58 then badD 5 (e + 1)
  else if e + 1 = s.size then shortD s twoT
  else if bt s (e + 1) ≠ 93 then badD 3 (e + 2)
  else okD (ofS (s.extract a e).toList) (e + 2)
def namedD (s : ByteArray) (a : Nat) : DP := behindD s a (nmEnd s a (s.size - a) a)

def thingD (s : ByteArray) (i : Nat) : DP :=
  if bt s i = 91 ∧ isN s (i + 1) [58] = true then namedD s (i + 2)
  else if bt s i = 91 ∧ isN s (i + 1) [46, 61] = true then badD 3 (i + 2)
  else if (isN s (i + 1) [45] = true ∧ i + 2 < s.size) ∧ bt s (i + 2) ≠ 93 then betweenD s i
  else okD (range (bt s i) (bt s i)) (i + 1)

def loopD (s : ByteArray) (first : Nat) : Nat → BitVec 256 → Nat → DP
  | 0, t, i => okD t i
  | n + 1, t, i =>
    if i = s.size ∧ i = first then shortD s twoT
    else if i = s.size then shortD s oneT
    else if bt s i = 93 ∧ first < i then okD t (i + 1)
    else if (thingD s i).err ≠ 0 then thingD s i
    else loopD s first n (t ||| (thingD s i).set) (thingD s i).fin
def thingsD (s : ByteArray) (first : Nat) : DP := loopD s first (s.size + 1 - first) 0 first

def negD (p : DP) : DP := ⟨~~~p.set, p.fin, p.err, p.lack⟩
def wholeD (s : ByteArray) (at' : Int) : DP :=
  if at' < 0 then badD 1 0
  else if isN s at'.toNat [91] = false then badD 1 0
  else if isN s (at'.toNat + 1) [94] = false then thingsD s (at'.toNat + 1)
  else negD (thingsD s (at'.toNat + 2))
def readD (s : ByteArray) (at' : Int) : BitVec 256 × Nat × Nat × Nat :=
  if (wholeD s at').err ≠ 0 then (0, 0, (wholeD s at').err, (wholeD s at').fin) else ((wholeD s at').set, (wholeD s at').fin, 0, 0)

/-! ### It reads as the document does -/
theorem isN_lt {s : ByteArray} {i : Nat} {L : List Nat} (h : isN s i L = true) : i < s.size := by
  unfold isN at h; simp at h; exact h.1
theorem isN_one (s : ByteArray) (i b : Nat) : isN s i [b] = true ↔ i < s.size ∧ bt s i = b := by
  unfold isN; simp
theorem isN_two (s : ByteArray) (i b c : Nat) : isN s i [b, c] = true ↔ i < s.size ∧ (bt s i = b ∨ bt s i = c) := by
  unfold isN; simp
theorem isN_three (s : ByteArray) (i b c d : Nat) : isN s i [b, c, d] = true ↔ i < s.size ∧ (bt s i = b ∨ bt s i = c ∨ bt s i = d) := by
  unfold isN; simp
theorem spec3_iff (b : Nat) : spec3 b = true ↔ b = 58 ∨ b = 46 ∨ b = 61 := by
  unfold spec3; simp [or_assoc]

/-- What reading ends in, for a bracket with ^ or without. -/
def finD (neg : Bool) (p : DP) : BitVec 256 × Nat × Nat × Nat := if p.err ≠ 0 then (0, 0, p.err, p.fin) else (if neg = true then ~~~p.set else p.set, p.fin, 0, 0)

/-- No name has a : in it. -/
theorem no_colon : ∀ k, k < 12 → ∀ j, j < 16 → bt (tE k).1 j ≠ 58 := by decide +kernel
theorem name_len : ∀ k, k < 12 → (tE k).1.size ≤ 16 ∧ 0 < (tE k).1.size := by decide +kernel
theorem pfx_bt {nm l : ByteArray} (h : pfx nm l = true) : l.size ≤ nm.size ∧ ∀ i, i < l.size → bt l i = bt nm i := by
  unfold pfx at h
  rw [Bool.and_eq_true, decide_eq_true_eq, beq_iff_eq] at h
  obtain ⟨h1, h2⟩ := h
  refine ⟨h1, fun i hi => ?_⟩
  have e : bt (nm.extract 0 l.size) i = bt nm (0 + i) := bt_extract nm 0 l.size i h1 (by omega)
  rw [Nat.zero_add] at e
  rw [← e]
  have e2 : nm.extract 0 l.size = l := by
    apply ByteArray.ext
    apply Array.toList_inj.1
    have := h2
    rw [ByteArray.toList_eq, ByteArray.toList_eq] at this
    exact this
  rw [e2]
theorem begB_iff (l : ByteArray) : begB l = true ↔ ∃ k, k < 12 ∧ pfx (tE k).1 l = true := by
  constructor
  · intro h
    refine Decidable.byContradiction fun hc => ?_
    rw [begB_not l (fun j hj => ?_)] at h
    · exact absurd h (by decide)
    · cases hp : pfx (tE j).1 l with
      | false => rfl
      | true => exact absurd ⟨j, hj, hp⟩ hc
  · rintro ⟨k, hk, h⟩
    exact begB_at l k hk h
theorem beg_colon (s : ByteArray) (a e : Nat) (ha : a ≤ e) (he : e < s.size) (h : bt s e = 58) : begB (s.extract a (e + 1)) = false := by
  cases hb : begB (s.extract a (e + 1)) with
  | false => rfl
  | true =>
    obtain ⟨k, hk, hp⟩ := (begB_iff _).1 hb
    obtain ⟨h1, h2⟩ := pfx_bt hp
    have hs : (s.extract a (e + 1)).size = e + 1 - a := by rw [ByteArray.size_extract]; omega
    have h3 := h2 (e - a) (by omega)
    rw [bt_extract s a (e + 1) (e - a) (by omega) (by omega), show a + (e - a) = e by omega, h] at h3
    have := (name_len k hk).1
    exact absurd h3.symm (no_colon k hk (e - a) (by omega))
end Go.Proofs.YthodphgbdmnpoaaGreatDoor

/- The developers' brackets: isAt, short, between. -/
namespace Go.Proofs.YthodphgbdmnpoaaGreatDoor
open Go.RowKit Go.Shelf BS

set_option maxRecDepth 100000 in
theorem sib_calls (s : ByteArray) (c : Int) (w : World) : Calls Tryz.prog 33 #[.string s, .int .u8 c] w fun e w' => e = .returned (.int .i64 (Lib.indexByte s.data.toList c.toNat.toUInt8)) ∧ w = w' := by
  go_enter Tryz.func33, Tryz.ntmps33
  go_wp2_with fail
  rw [run_callFunc_extern Tryz.func43 (by kernel_rfl) (by kernel_rfl) (by kernel_rfl) (e := Extern.BytealgIndexByte.indexByte) (by kernel_rfl), Lib.run_indexByteString]
  simp only [Result.andThen]
  rw [Oper.upon_value]
  go_wp2_with fail
  go_ret
  exact ⟨rfl, rfl⟩
set_option maxRecDepth 100000 in
theorem ib_calls (s : ByteArray) (c : Int) (w : World) : Calls Tryz.prog 16 #[.string s, .int .u8 c] w fun e w' => e = .returned (.int .i64 (Lib.indexByte s.data.toList c.toNat.toUInt8)) ∧ w = w' := by
  go_enter Tryz.func16, Tryz.ntmps16
  go_wp2_with (go_at_call 33; refine (sib_calls s c _).mono ?_; rintro e w' ⟨rfl, rfl⟩)
  go_ret
  exact ⟨rfl, rfl⟩
/-- Is a byte one of some: by what IndexByte tells. -/
theorem ib_eq (L : List Nat) (hL : ∀ x ∈ L, x < 256) (b : Nat) (hb : b < 256) : decide (0 ≤ Lib.indexByte (ofT L).data.toList ((b : Int)).toNat.toUInt8) = L.contains b := by
  rw [← Lib.contains_iff_indexByte]
  have e : (ofT L).data.toList = L.map UInt8.ofNat := by simp [ofT]
  rw [e]
  induction L with
  | nil => rfl
  | cons a L ih =>
    rw [List.map_cons, List.contains_cons, List.contains_cons, ih (fun x hx => hL x (List.mem_cons_of_mem _ hx)) (by simp [ofT])]
    congr 1
    have ha := hL a (List.mem_cons_self ..)
    rw [Bool.eq_iff_iff, beq_iff_eq, beq_iff_eq]
    constructor
    · intro h
      have h2 := congrArg UInt8.toNat h
      simp at h2
      omega
    · rintro rfl; simp

def isI (s : ByteArray) (i : Int) (L : List Nat) : Bool := if i < 0 then false else isN s i.toNat L
set_option maxRecDepth 100000 in
set_option maxHeartbeats 1000000 in
theorem isAt_calls (s : ByteArray) (_hs : s.size ≤ 1000000) (i : Int) (L : List Nat) (hL : ∀ x ∈ L, x < 256) (w : World) : Calls Tryz.prog 133 #[.string s, .int .i64 i, .string (ofT L)] w fun e w' => e = .returned (.bool (isI s i L)) ∧ w = w' := by
  by_cases h0 : i < 0
  · have q : decide (0 ≤ i) = false := by rw [decide_eq_false_iff_not]; omega
    have hr : isI s i L = false := by unfold isI; rw [if_pos h0]
    rw [hr]
    go_enter Tryz.func133, Tryz.ntmps133
    go_wp2_with fail
    go_ret
    exact ⟨rfl, rfl⟩
  · obtain ⟨k, rfl⟩ : ∃ k : Nat, i = k := ⟨i.toNat, by omega⟩
    have hr : isI s k L = isN s k L := by unfold isI; rw [if_neg h0]; rfl
    rw [hr]
    clear hr h0
    by_cases h1 : k < s.size
    · have hi := ib_eq L hL (bt s k) (bt_lt s k)
      have hb0 : s[k].toNat = bt s k := (bt_eq s k h1).symm
      have hn : isN s k L = L.contains (bt s k) := by unfold isN; simp [h1]
      rw [hn, ← hi]
      have HB := Lib.hid (ib_calls (ofT L) (bt s k))
      generalize Lib.indexByte (ofT L).data.toList ((bt s k : Int)).toNat.toUInt8 = r at *
      clear hn hi hL
      generalize ofT L = t at *
      go_enter Tryz.func133, Tryz.ntmps133
      go_wp2_with (go_at_call 16; refine (HB.out _).mono ?_; rintro e w' ⟨rfl, rfl⟩)
      go_ret
      exact ⟨rfl, rfl⟩
    · have hn : isN s k L = false := by unfold isN; simp [h1]
      rw [hn]
      clear hL hn
      generalize ofT L = t at *
      go_enter Tryz.func133, Tryz.ntmps133
      go_wp2_with fail
      go_ret
      exact ⟨rfl, rfl⟩
theorem isNat_calls (s : ByteArray) (hs : s.size ≤ 1000000) (i : Nat) (L : List Nat) (hL : ∀ x ∈ L, x < 256) (w : World) : Calls Tryz.prog 133 #[.string s, .int .i64 i, .string (ofT L)] w fun e w' => e = .returned (.bool (isN s i L)) ∧ w = w' := by
  have h := isAt_calls s hs i L hL w
  have hr : isI s i L = isN s i L := by unfold isI; rw [if_neg (by omega)]; rfl
  rw [hr] at h
  exact h

/-- What was read, as a value. -/
@[reducible] def ptI (t : BitVec 256) (p e : Int) (l : ByteArray) : Array Value := #[.int .u64 (wd t 0), .int .u64 (wd t 1), .int .u64 (wd t 2), .int .u64 (wd t 3), .int .i64 p, .int .i64 e, .string l]
def ptA (p : DP) : Array Value := ptI p.set p.fin p.err p.lack
theorem infoPt : (Tryz.prog.info? 177).map (·.size) = some 7 := by kernel_rfl

/-! ### By walks -/
theorem pt_one (t : BitVec 256) (p e : Int) (l : ByteArray) : ((ptI t p e l).all fun x => x.oneCell') = true := by simp [Value.oneCell']
set_option maxRecDepth 100000 in
set_option maxHeartbeats 1000000 in
theorem short_calls (s l : ByteArray) (w : World) : Calls Tryz.prog 135 #[.string s, .string l] w fun en w' => en = .returned (.agg (ptA (shortD s l))) ∧ Below w.heap.size w w' := by
  go_enter Tryz.func135, Tryz.ntmps135
  go_wp2
  have hR := Blk.new w (ptI 0 s.size 2 l) 177
  have hB : Below w.heap.size w (w.alloc (.cells (ptI 0 s.size 2 l) 177)) := by go_grown
  exact bodyPost_ret (v := .agg (ptI 0 s.size 2 l)) (results_cell_row rfl _ _ w.heap.size 177 (ptI 0 s.size 2 l) (0, 0) _ rfl hR Tryz.underlying177 rfl infoPt) rfl ⟨rfl, hB⟩

theorem bitB (b n : Nat) : ((b : Int) == (n : Int)) = decide (b = n) := by rw [Bool.eq_iff_iff, beq_iff_eq, decide_eq_true_iff]; omega
set_option maxRecDepth 100000 in
set_option maxHeartbeats 4000000 in
theorem between_calls (s : ByteArray) (hs : s.size ≤ 1000000) (i : Nat) (hi : i + 2 < s.size) (w : World) :
    Calls Tryz.prog 139 #[.string s, .int .i64 i] w fun en w' => en = .returned (.agg (ptA (betweenD s i))) ∧ Below w.heap.size w w' := by
  have HR := Lib.hid (Blk.new w (ptI 0 0 0 eT) 177)
  have HB : Hid (Below w.heap.size w (w.alloc (.cells (ptI 0 0 0 eT) 177))) := Lib.hid (by go_grown)
  have hz : w.heap.size + 1 ≤ (w.alloc (.cells (ptI 0 0 0 eT) 177)).heap.size := by simp
  have h0 : i < s.size := by omega
  have b0 : s[i].toNat = bt s i := (bt_eq s i h0).symm
  have b2 : s[i + 2].toNat = bt s (i + 2) := (bt_eq s (i + 2) hi).symm
  have hl0 := bt_lt s i
  have hl2 := bt_lt s (i + 2)
  go_enter Tryz.func139, Tryz.ntmps139
  go_upto_region 1 with fail
  have e0 : w.alloc (.cells #[.int .u64 0, .int .u64 0, .int .u64 0, .int .u64 0, .int .i64 0, .int .i64 0, .string ⟨#[]⟩] 177) = w.alloc (.cells (ptI 0 0 0 eT) 177) := rfl
  rw [e0]
  clear e0
  generalize w.alloc (.cells (ptI 0 0 0 eT) 177) = w1 at *
  have u0 : (i : Int) < (s.size : Int) := by omega
  have u2 : (i : Int) + 2 < (s.size : Int) := by omega
  have u3 : (0 : Int) ≤ (i : Int) + 2 := by omega
  have u4 : ((i : Int) + 2).toNat = i + 2 := by omega
  have x2 : IntKind.i64.wrap ((i : Int) + 2) = (i : Int) + 2 := IntWalk.i64_in _ (by omega)
  have x3 : IntKind.i64.wrap ((i : Int) + 3) = (i : Int) + 3 := IntWalk.i64_in _ (by omega)
  go_quiet (fail)
  clear u0 u2 u3 u4 x2 x3
  have HR2 := Lib.hid (HR.out.drewN nq)
  have HB2 := Lib.hid (below_drN HB.out nq)
  have hz2 : w.heap.size + 1 ≤ (w1.drewN nq).heap.size := hz
  clear HR HB hz
  have HR := HR2
  have HB := HB2
  have hz := hz2
  clear HR2 HB2 hz2
  generalize w1.drewN nq = w1 at *
  by_cases hI : bt s (i + 2) < bt s i
  · have q : decide (bt s (i + 2) < bt s i) = true := by simpa using hI
    have HRES := Lib.hid (show betweenD s i = badD 4 (i + 3) by unfold betweenD; rw [if_pos hI])
    go_wp2_with ((with_reducible refine wpList_store_st (o := ⟨none, .store 177 _ _, _, _, _, _⟩) rfl 177 _ _ rfl w.heap.size rfl rfl (run_storeAt_row _ w.heap.size 177 177 (ptI 0 0 0 eT) (ptI 0 ((i : Int) + 3) 4 eT) ?_ ?_ ?_ ?_) ?_); exact HR.out; exact infoPt; rfl; exact pt_one _ _ _ _)
    exact bodyPost_ret (v := .agg (ptI 0 ((i : Int) + 3) 4 eT)) (results_cell_row rfl _ _ w.heap.size 177 (ptI 0 ((i : Int) + 3) 4 eT) (0, 0) _ rfl (Blk.setRow HR.out) Tryz.underlying177 rfl infoPt) rfl ⟨by rw [HRES.out] <;> rfl, below_row HB.out (by omega) _⟩
  have q : decide (bt s (i + 2) < bt s i) = false := by simpa using hI
  go_upto_region 4 with fail
  go_cut [23] from 24 to 30 (fun x wx => x = .bool (decide (bt s (i + 2) = 91 ∧ isN s (i + 3) [58, 46, 61] = true)) ∧ w1 = wx)
  case first =>
    cases hc : decide (bt s (i + 2) = 91) with
    | true =>
      have hc' : bt s (i + 2) = 91 := of_decide_eq_true hc
      have q1 : ((bt s (i + 2) : Int) == 91) = true := by rw [beq_iff_eq]; omega
      have HC := Lib.hid hc'
      clear hc hc'
      have HA := isNat_calls s hs (i + 3) [58, 46, 61] (by decide)
      rw [show ((i + 3 : Nat) : Int) = (i : Int) + 3 from rfl, show ofT [58, 46, 61] = ⟨#[58, 46, 61]⟩ from rfl] at HA
      have HA2 := Lib.hid HA
      clear HA
      go_wp2_with (go_at_call 133; refine (HA2.out _).mono ?_; rintro e w' ⟨rfl, rfl⟩)
      go_meet
      exact ⟨by simp [HC.out], rfl⟩
    | false =>
      have hc' : ¬ bt s (i + 2) = 91 := of_decide_eq_false hc
      have q1 : ((bt s (i + 2) : Int) == 91) = false := by rw [beq_eq_false_iff_ne]; omega
      have HC := Lib.hid hc'
      clear hc hc'
      go_wp2_with fail
      go_meet
      exact ⟨by simp [HC.out], rfl⟩
  case rest =>
  obtain ⟨rfl, rfl⟩ := hcut
  by_cases hJ : bt s (i + 2) = 91 ∧ isN s (i + 3) [58, 46, 61] = true
  · have q2 : decide (bt s (i + 2) = 91 ∧ isN s (i + 3) [58, 46, 61] = true) = true := decide_eq_true hJ
    have HRES := Lib.hid (show betweenD s i = badD 3 (i + 4) by unfold betweenD; rw [if_neg hI, if_pos hJ])
    rw [q2]
    clear q2 hJ
    go_wp2_with ((with_reducible refine wpList_store_st (o := ⟨none, .store 177 _ _, _, _, _, _⟩) rfl 177 _ _ rfl w.heap.size rfl rfl (run_storeAt_row _ w.heap.size 177 177 (ptI 0 0 0 eT) (ptI 0 ((i : Int) + 4) 3 eT) ?_ ?_ ?_ ?_) ?_); exact HR.out; exact infoPt; rfl; exact pt_one _ _ _ _)
    exact bodyPost_ret (v := .agg (ptI 0 ((i : Int) + 4) 3 eT)) (results_cell_row rfl _ _ w.heap.size 177 (ptI 0 ((i : Int) + 4) 3 eT) (0, 0) _ rfl (Blk.setRow HR.out) Tryz.underlying177 rfl infoPt) rfl ⟨by rw [HRES.out] <;> rfl, below_row HB.out (by omega) _⟩
  have q2 : decide (bt s (i + 2) = 91 ∧ isN s (i + 3) [58, 46, 61] = true) = false := decide_eq_false hJ
  rw [q2]
  clear q2
  have hg : betweenD s i = okD (range (bt s i) (bt s (i + 2))) (i + 3) := by unfold betweenD; rw [if_neg hI, if_neg hJ]
  have hrg := fun w' => range_calls (bt s i) (bt s (i + 2)) w' (by omega) (by omega) (by omega) (by omega)
  rw [show ((bt s i : Int)).toNat = bt s i from rfl, show ((bt s (i + 2) : Int)).toNat = bt s (i + 2) from rfl] at hrg
  generalize range (bt s i) (bt s (i + 2)) = r at *
  have HRES := Lib.hid hg
  have HRG := Lib.hid hrg
  clear hg hrg hJ
  go_wp2_with fail
  refine (HRG.out _).mono ?_
  rintro e w2 ⟨rfl, hb⟩
  have HR2 := Lib.hid (HR.out.below hb (Blk.lt HR.out))
  have HB2 := Lib.hid (HB.out.trans (hb.mono (by omega)))
  have hz2 := Nat.le_trans hz hb.size
  clear HR HB hz hb
  have HR := HR2
  have HB := HB2
  have hz := hz2
  clear HR2 HB2 hz2
  go_wp2_with ((with_reducible refine wpList_store_st (o := ⟨none, .store 177 _ _, _, _, _, _⟩) rfl 177 _ _ rfl w.heap.size rfl rfl (run_storeAt_row _ w.heap.size 177 177 (ptI 0 0 0 eT) (ptI r ((i : Int) + 3) 0 eT) ?_ ?_ ?_ ?_) ?_); exact HR.out; exact infoPt; rfl; exact pt_one _ _ _ _)
  exact bodyPost_ret (v := .agg (ptI r ((i : Int) + 3) 0 eT)) (results_cell_row rfl _ _ w.heap.size 177 (ptI r ((i : Int) + 3) 0 eT) (0, 0) _ rfl (Blk.setRow HR.out) Tryz.underlying177 rfl infoPt) rfl ⟨by rw [HRES.out] <;> rfl, below_row HB.out (by omega) _⟩
end Go.Proofs.YthodphgbdmnpoaaGreatDoor

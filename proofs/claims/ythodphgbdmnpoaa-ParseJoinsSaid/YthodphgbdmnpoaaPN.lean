/- Texts put together: Hd. -/
import Derived.Test.YthodphgbdmnpoaaPG
import Derived.Test.YthodphgbdmnpoaaPM
import Derived.Deep.RegionHeld3
import Derived.Outline
import Derived.Deep.DeepCutAuto
/- The laws of stage 7: ParseJoins. -/
namespace Go.Proofs.Ythodphgbdmnpoaa
open Go.RowKit BS

theorem ndG_cells7 : ndCells [ndG] = [.int .i64 3, .int .i64 1, .int .i64 0, .int .i64 0, .int .u64 0, .int .u64 0, .int .u64 0, .int .u64 0] := by
  have z1 : wd (0 : BitVec 256) 1 = 0 := by decide
  have z2 : wd (0 : BitVec 256) 2 = 0 := by decide
  have z3 : wd (0 : BitVec 256) 3 = 0 := by decide
  show ([.int .i64 3, .int .i64 1, .int .i64 0, .int .i64 0, .int .u64 ((wd (0 : BitVec 256) 0 : Nat) : Int), .int .u64 ((wd (0 : BitVec 256) 1 : Nat) : Int), .int .u64 ((wd (0 : BitVec 256) 2 : Nat) : Int), .int .u64 ((wd (0 : BitVec 256) 3 : Nat) : Int)] : List Value) = _
  rw [z1, z2, z3]
  rfl
theorem ndL_cells7 : ndCells [ndL] = [.int .i64 6, .int .i64 2, .int .i64 0, .int .i64 0, .int .u64 0, .int .u64 0, .int .u64 0, .int .u64 0] := by
  have z1 : wd (0 : BitVec 256) 1 = 0 := by decide
  have z2 : wd (0 : BitVec 256) 2 = 0 := by decide
  have z3 : wd (0 : BitVec 256) 3 = 0 := by decide
  show ([.int .i64 6, .int .i64 2, .int .i64 0, .int .i64 0, .int .u64 ((wd (0 : BitVec 256) 0 : Nat) : Int), .int .u64 ((wd (0 : BitVec 256) 1 : Nat) : Int), .int .u64 ((wd (0 : BitVec 256) 2 : Nat) : Int), .int .u64 ((wd (0 : BitVec 256) 3 : Nat) : Int)] : List Value) = _
  rw [z1, z2, z3]
  rfl
theorem kc_take (k : Int) (l : List NdN) (i : Nat) (h : i < l.length) : kc k (l.take (i + 1)) = kc k (l.take i) + if l[i].kind = k then 1 else 0 := by
  rw [List.take_succ_eq_append_getElem h, kc_app]
  congr 1
  unfold kc
  by_cases hk : l[i].kind = k
  · rw [if_pos hk]; simp [hk]
  · rw [if_neg hk]; simp [hk]
/-- A pattern's tree has a node, and few of them. -/
theorem parse_ne (s : ByteArray) (h : (parseN s).2.2.1 = 0) : (parseN s).1.l ≠ [] := by
  rcases readP_spec s (s.size + 1) 0 sPS [] (Nat.zero_le _) (by omega) sPS_inv ⟨rfl, rfl, rfl, rfl, rfl⟩ with ⟨h1, _⟩ | ⟨_, h2, _⟩
  · exact absurd h h1
  · intro h0
    change rightR (parseN s).1.l = true at h2
    rw [h0] at h2
    exact absurd (formed_pos [] ((rightR_iff []).1 h2).1) (by simp)
theorem readP_len (s : ByteArray) : ∀ k a x, a ≤ s.size → x.l.length ≤ 3 * a → (readP s k a x).1.l.length ≤ 3 * s.size + 2
  | 0, _, _, _, _ => by rw [readP]; exact Nat.zero_le _
  | k + 1, a, x, ha, hx => by
    rw [readP]
    by_cases h0 : s.size ≤ a
    · rw [if_pos h0]
      by_cases h1 : 1 < x.st.length
      · rw [if_pos h1]; exact Nat.zero_le _
      · rw [if_neg h1]
        obtain ⟨l, st, g⟩ := x
        obtain _ | ⟨⟨n, r⟩, st⟩ := st
        · show l.length ≤ _
          simp only at hx; omega
        · show (l ++ rowT n ++ rowsT (r + 1)).length ≤ _
          have e1 : (rowT n).length ≤ 1 := by
            unfold rowT
            by_cases h0 : n = 0
            · rw [if_pos h0]; exact Nat.le_refl _
            · rw [if_neg h0]
              by_cases h1 : n = 1
              · rw [if_pos h1]; exact Nat.zero_le _
              · rw [if_neg h1]; exact Nat.le_refl _
          have e2 : (rowsT (r + 1)).length ≤ 1 := by
            unfold rowsT
            by_cases h0 : 1 < r + 1
            · rw [if_pos h0]; exact Nat.le_refl _
            · rw [if_neg h0]; exact Nat.zero_le _
          simp only at hx
          rw [List.length_append, List.length_append]; omega
    rw [if_neg h0]
    by_cases h1 : firstP x (bt s a) ≠ 0
    · rw [if_pos h1]; exact Nat.zero_le _
    rw [if_neg h1]
    have hE := nextA_end s a (by omega)
    generalize nextA s a = X at *
    obtain ⟨w, e, p⟩ := X
    simp only at hE ⊢
    by_cases h2 : e ≠ 0
    · rw [if_pos h2]; exact Nat.zero_le _
    rw [if_neg h2]
    rcases hE with ⟨_, _, _, _, h5, h6⟩ | ⟨h1, _⟩
    · simp only at h5 h6
      refine readP_len s k w.fin (takeP x w) h6 ?_
      obtain ⟨l, st, g⟩ := x
      simp only at hx
      have r1 : ∀ n, (rowT n).length ≤ 1 := fun n => by
        unfold rowT
        by_cases h0 : n = 0
        · rw [if_pos h0]; exact Nat.le_refl _
        · rw [if_neg h0]
          by_cases h1 : n = 1
          · rw [if_pos h1]; exact Nat.zero_le _
          · rw [if_neg h1]; exact Nat.le_refl _
      have r2 : ∀ n, (rowsT n).length ≤ 1 := fun n => by
        unfold rowsT
        by_cases h0 : 1 < n
        · rw [if_pos h0]; exact Nat.le_refl _
        · rw [if_neg h0]; exact Nat.zero_le _
      unfold takeP
      by_cases c1 : w.kind = 1
      · rw [if_pos c1]; simp; omega
      rw [if_neg c1]
      by_cases c2 : w.kind = 2
      · rw [if_pos c2]; simp only; omega
      rw [if_neg c2]
      by_cases c3 : w.kind = 3
      · rw [if_pos c3]
        obtain _ | ⟨⟨n, r⟩, st⟩ := st
        · show (l ++ [ndG]).length ≤ _
          rw [List.length_append, List.length_singleton]; omega
        · show (l ++ rowT n ++ rowsT (r + 1) ++ [ndG]).length ≤ _
          have e1 := r1 n
          have e2 := r2 (r + 1)
          rw [List.length_append, List.length_append, List.length_append, List.length_singleton]; omega
      rw [if_neg c3]
      by_cases c4 : w.kind = 4
      · rw [if_pos c4]
        obtain _ | ⟨⟨n, r⟩, st⟩ := st
        · show l.length ≤ _
          omega
        · show (l ++ rowT n).length ≤ _
          have e1 := r1 n
          rw [List.length_append]; omega
      rw [if_neg c4]
      by_cases c5 : w.kind = 5
      · rw [if_pos c5]; simp; omega
      · rw [if_neg c5]; simp only; omega
    · exact absurd h1 h2
theorem parse_len (s : ByteArray) : (parseN s).1.l.length ≤ 3 * s.size + 2 := readP_len s _ 0 sPS (Nat.zero_le _) (by decide)
/-- Parse, where there is a tree. -/
theorem parse_nodes (C : ParseC) (s : ByteArray) (hs : s.size ≤ 1000000) (l : List NdN) (er pl : Nat) (h1 : (parseN s).1.l = l) (h2 : (parseN s).2.2 = (er, pl)) (hne : l ≠ []) (w : World) : Calls Try.prog 6 #[.string s] w fun e w' => ∃ g cap, e = .returned (.tuple #[.slice (some ⟨g, 0, none⟩) l.length cap, .int .i64 er, .int .i64 pl]) ∧ NodesAt l (some ⟨g, 0, none⟩) w' ∧ Below w.heap.size w w' := by
  refine (C.parse s hs w).mono ?_
  rintro e w' ⟨v, rfl, hv, hb⟩
  rw [h2]
  rw [h1] at hv
  obtain ⟨g, cap, rfl, _, hn⟩ := nodes_of_owns hv hne
  exact ⟨g, cap, rfl, hn, hb⟩
theorem parse_nodes0 (C : ParseC) (s : ByteArray) (hs : s.size ≤ 1000000) (l : List NdN) (h1 : (parseN s).1.l = l) (h2 : (parseN s).2.2 = (0, 0)) (hne : l ≠ []) (w : World) : Calls Try.prog 6 #[.string s] w fun e w' => ∃ g cap, e = .returned (.tuple #[.slice (some ⟨g, 0, none⟩) l.length cap, .int .i64 0, .int .i64 0]) ∧ NodesAt l (some ⟨g, 0, none⟩) w' ∧ Below w.heap.size w w' := parse_nodes C s hs l 0 0 h1 h2 hne w
theorem NodesAt.alloc7 {l : List NdN} {a : Option Addr} {W : World} (h : NodesAt l a W) (o : Obj) : NodesAt l a (W.alloc o) := h.below ((Below.refl _ _).alloc (Nat.le_refl _) o)
theorem last_kind (l : List NdN) (k : Nat) (h : l.length = k + 1) : lastK l = (l[k]'(by omega)).kind := by
  unfold lastK
  rw [List.getLast?_eq_getElem?, show l.length - 1 = k by omega, List.getElem?_eq_getElem (by omega)]
  rfl
set_option maxRecDepth 100000 in
set_option maxHeartbeats 32000000 in
theorem joins_main (C : ParseC) (s t : ByteArray) (hs : s.size ≤ 100) (ht : t.size ≤ 100) (h : (parseN s).2.2.1 = 0) (h' : (parseN t).2.2.1 = 0) (w : World) : Calls Try.prog 4 #[.string s, .string t] w fun e w' => e = .returned (.bool true) ∧ Below w.heap.size w w' := by
  have HSU := Lib.hid (sure7_calls C)
  obtain ⟨i0, hinf, hz0, hz1, hz2⟩ := info_parts info8n
  have q1 : decide (100 < s.size) = false := by rw [decide_eq_false_iff_not]; omega
  have q2 : decide (100 < t.size) = false := by rw [decide_eq_false_iff_not]; omega
  have e1 : (parseN s).2.2 = (0, 0) := by obtain ⟨_, _, _, _, _, k, _⟩ := parse_ok s h; rw [k]
  have e2 : (parseN t).2.2 = (0, 0) := by obtain ⟨_, _, _, _, _, k, _⟩ := parse_ok t h'; rw [k]
  have hne1 := parse_ne s h
  have hne2 := parse_ne t h'
  have hl1 := parse_len s
  have hl2 := parse_len t
  have hGR := parse_group s h
  have hBA := parse_bar s t h h'
  have P1 := fun w => parse_nodes0 C s (by omega) _ rfl e1 hne1 w
  have P2 := fun w => parse_nodes0 C t (by omega) _ rfl e2 hne2 w
  have P3 := fun (hg : kc 3 (parseN s).1.l ≤ 8) w => parse_nodes0 C (ofT [40] ++ s ++ ofT [41]) (by rw [ByteArray.size_append, ByteArray.size_append, size_ofT, size_ofT]; simp; omega) ((parseN s).1.l ++ [ndG]) (hGR hg).2 (by rw [(hGR hg).1]) (by simp) w
  have P4 := fun hg hk hk' w => parse_nodes0 C (s ++ ofT [124] ++ t) (by rw [ByteArray.size_append, ByteArray.size_append, size_ofT]; simp; omega) ((parseN s).1.l ++ (parseN t).1.l ++ [ndL]) (hBA hg hk hk').2 (by rw [(hBA hg hk hk').1]) (by simp) w
  clear hGR hBA e1 e2 h h' C
  generalize (parseN s).1.l = l at *
  generalize (parseN t).1.l = m at *
  obtain ⟨L, hL⟩ : ∃ L, l ++ m = L := ⟨_, rfl⟩
  rw [hL] at P4
  have hkL : kc 3 L = kc 3 l + kc 3 m := by rw [← hL, kc_app]
  have hLl : L.length = l.length + m.length := by rw [← hL, List.length_append]
  have hLc : ndCells L = ndCells l ++ ndCells m := by rw [← hL, ndCells_app]
  have hLne : L ≠ [] := by rw [← hL]; intro h; exact hne1 (List.append_eq_nil_iff.1 h).1
  have hadd1 : ∀ w, (Op.stringOp .add (⟨#[40]⟩ : ByteArray) s).run Try.prog w = .ok (.string (ofT [40] ++ s)) w := fun w => run_string_add_sum w _ _ (by show 1 + s.size ≤ _; omega)
  have hadd2 : ∀ w, (Op.stringOp .add (ofT [40] ++ s) (⟨#[41]⟩ : ByteArray)).run Try.prog w = .ok (.string (ofT [40] ++ s ++ ofT [41])) w := fun w => run_string_add_sum w _ _ (by rw [ByteArray.size_append, size_ofT]; show [40].length + s.size + 1 ≤ _; simp; omega)
  have hadd3 : ∀ w, (Op.stringOp .add s (⟨#[124]⟩ : ByteArray)).run Try.prog w = .ok (.string (s ++ ofT [124])) w := fun w => run_string_add_sum w _ _ (by show s.size + 1 ≤ _; omega)
  have hadd4 : ∀ w, (Op.stringOp .add (s ++ ofT [124]) t).run Try.prog w = .ok (.string (s ++ ofT [124] ++ t)) w := fun w => run_string_add_sum w _ _ (by rw [ByteArray.size_append, size_ofT]; simp; omega)
  generalize ofT [40] ++ s ++ ofT [41] = sg at *
  generalize ofT [40] ++ s = sg0 at *
  generalize s ++ ofT [124] ++ t = sb at *
  generalize s ++ ofT [124] = sb0 at *
  have HP1 := Lib.hid P1
  have HP2 := Lib.hid P2
  have HP3 := Lib.hid P3
  have HP4 := Lib.hid P4
  have HL := Lib.hid (show _ ∧ _ ∧ _ ∧ _ from ⟨hL, hkL, hLl, hLc⟩)
  have HB := Lib.hid (Below.refl w.heap.size w)
  have hpl : 0 < l.length := List.length_pos_iff.2 hne1
  have hpm : 0 < m.length := List.length_pos_iff.2 hne2
  have ql : ((l.length : Int) == 0) = false := by rw [beq_eq_false_iff_ne]; omega
  have qm : ((m.length : Int) == 0) = false := by rw [beq_eq_false_iff_ne]; omega
  have hLb : L.length ≤ 700 := by omega
  clear P1 P2 P3 P4 hL hkL hLc hLl
  go_enter Try.func4, Try.ntmps4
  go_wp2_with fail
  refine (HP1.out _).mono ?_
  rintro e w1 ⟨ga, ca, rfl, hn, hb⟩
  have HN := Lib.hid hn
  replace HB := Lib.hid (HB.out.trans (hb.mono HB.out.size))
  clear hn hb HP1
  go_wp2_with fail
  refine (HP2.out _).mono ?_
  rintro e w2 ⟨gb, cb, rfl, hn, hb⟩
  have HM := Lib.hid hn
  replace HN := Lib.hid (HN.out.below hb)
  replace HB := Lib.hid (HB.out.trans (hb.mono HB.out.size))
  clear hn hb HP2
  go_upto_region 8 with fail
  have hw3 := HB.out.size
  have hown0 := owns_empty w2 w2.heap.size (Nat.le_refl _)
  have hnews := nodes_news (HN.out.alloc7 (.cells #[] 32))
  have BW : Below w2.heap.size w2 (w2.alloc (.cells #[] 32)) := (Below.refl _ _).alloc (Nat.le_refl _) _
  go_wp2_with (at_builtin;
               first
               | (refine wpList_append_own _ rfl _ _ 23 rfl w2.heap.size 32 i0 (.agg #[.int .i64 0, .int .i64 0, .int .i64 0, .int .i64 0, .int .u64 0, .int .u64 0, .int .u64 0, .int .u64 0]) 8 64 Try.underlying23 hinf hz0 hz1 hz2 rfl (by decide) _ 0 [] rfl hown0 ⟨ga, 0, none⟩ l.length ca (ndCells l) rfl (ndCells_len l) hnews (ndCells_one l) (by unfold maxLen; omega) (by omega) BW.size ?_
                  intro v1 w4 hown1 hgrow1 _
                  rw [Nat.zero_add, List.nil_append] at hown1
                  have BW4 := BW.grown hgrow1 BW.size (fun b hb => (hown0.lt b hb).1)
                  have hnewsM := nodes_news (HM.out.below BW4)
                  clear hown0 hnews BW hgrow1
                  have HO1 := Lib.hid hown1)
               | (refine wpList_append_own _ rfl _ _ 23 rfl w2.heap.size 32 i0 (.agg #[.int .i64 0, .int .i64 0, .int .i64 0, .int .i64 0, .int .u64 0, .int .u64 0, .int .u64 0, .int .u64 0]) 8 64 Try.underlying23 hinf hz0 hz1 hz2 rfl (by decide) _ l.length (ndCells l) rfl HO1.out ⟨gb, 0, none⟩ m.length cb (ndCells m) rfl (ndCells_len m) hnewsM (ndCells_one m) (by unfold maxLen; omega) (by omega) BW4.size ?_
                  intro v2 w5 hown2 hgrow2 _
                  have hown3 : w5.ownsRow w2.heap.size 32 8 v2 L.length (ndCells L) := by
                    rw [HL.out.2.2.1, HL.out.2.2.2]; exact hown2
                  have BW5 := BW4.grown hgrow2 BW4.size (fun b hb => (HO1.out.lt b hb).1)
                  obtain ⟨gA, cA, hv2, _, hnA⟩ := nodes_of_owns hown3 hLne
                  subst hv2
                  have HA := Lib.hid hnA
                  replace HN := Lib.hid (HN.out.below BW5)
                  replace HM := Lib.hid (HM.out.below BW5)
                  replace HB := Lib.hid (HB.out.trans (BW5.mono HB.out.size))
                  clear hown1 hown2 hown3 hgrow2 hnA BW4 BW5 HO1 hnewsM))
  go_loopw [11, 13] (fun v x wr => ∃ i : Nat, i ≤ L.length ∧ x = .int .i64 i ∧ v = .int .i64 (kc 3 (L.take i) : Nat) ∧ Below w5.heap.size w5 wr) (fun _ x _ => L.length - (intOf x).toNat)
  case atStart => exact ⟨0, Nat.zero_le _, rfl, rfl, Below.refl _ _⟩
  case round =>
    obtain ⟨i, hi, rfl, rfl, hW⟩ := hrel
    by_cases hlt : i < L.length
    · have hd : decide ((i : Int) < (L.length : Int)) = true := by rw [decide_eq_true_iff]; omega
      have hd2 : decide (i < L.length) = true := by rw [decide_eq_true_iff]; omega
      have c0 : wr.cell? ⟨gA, i * 8, none⟩ = some (.int .i64 L[i].kind) := by
        obtain ⟨g', o', e, h1, h2⟩ := HA.out.below hW hLne
        cases e
        have := h2 i hlt 0 (by decide)
        rw [Nat.zero_add, Nat.add_zero] at this
        exact this
      have hst := kc_take 3 L i hlt
      have hkb : kc 3 (L.take i) ≤ 700 := by
        refine Nat.le_trans List.countP_le_length ?_
        rw [List.length_map, List.length_take]; omega
      have HST := Lib.hid hst
      have HW := Lib.hid hW
      clear hst hW
      generalize hkk : L[i].kind = kd at *
      generalize kc 3 (L.take i) = cn at *
      clear hkk
      by_cases h3 : kd = 3
      · subst h3
        go_wp2_with fail
        go_roundw
        case rel => exact ⟨i + 1, by omega, by simp, by rw [HST.out, if_pos rfl]; rfl, HW.out⟩
        case measure => simp [intOf]; omega
      · have q3 : (kd == 3) = false := by rw [beq_eq_false_iff_ne]; exact h3
        go_wp2_with fail
        go_roundw
        case rel => exact ⟨i + 1, by omega, by simp, by rw [HST.out, if_neg h3]; rfl, HW.out⟩
        case measure => simp [intOf]; omega
    · obtain rfl : i = L.length := by omega
      rw [List.take_length, HL.out.2.1]
      have hBW := hW
      replace HN := Lib.hid (HN.out.below hW)
      replace HM := Lib.hid (HM.out.below hW)
      replace HA := Lib.hid (HA.out.below hW)
      replace HB := Lib.hid (HB.out.trans (hW.mono HB.out.size))
      clear hW hBW
      by_cases h8 : 8 < kc 3 l + kc 3 m
      · have q8 : decide ((8 : Int) < ((kc 3 l + kc 3 m : Nat) : Int)) = true := by rw [decide_eq_true_iff]; omega
        go_wp2_with fail
        refine (HSU.out _).mono ?_
        rintro e wz ⟨rfl, hb⟩
        have hBB := HB.out.trans (hb.mono HB.out.size)
        clear HSU hb
        go_wp2_with fail
        go_ret
        exact ⟨rfl, hBB⟩
      have q8 : decide ((8 : Int) < ((kc 3 l + kc 3 m : Nat) : Int)) = false := by rw [decide_eq_false_iff_not]; omega
      have h8l : kc 3 l ≤ 8 := by omega
      have h9 : kc 3 l + kc 3 m ≤ 9 := by omega
      have HP3' := Lib.hid (HP3.out h8l)
      have HP4' := Lib.hid (HP4.out h9)
      clear HP3 HP4
      generalize hkg : kc 3 l + kc 3 m = KG at *
      have HKG := Lib.hid hkg
      clear hkg h8l h9 h8
      have hlG : (l ++ [ndG]).length = l.length + 1 := by simp
      have hlL : (L ++ [ndL]).length = L.length + 1 := by simp
      have HLG := Lib.hid hlG
      have HLL := Lib.hid hlL
      have hS1 := sameN_calls (l ++ [ndG]) (by rw [hlG]; omega)
      have hS2 := sameN_calls (L ++ [ndL]) (by rw [hlL]; omega)
      rw [hlG] at hS1
      rw [hlL] at hS2
      have HS1 := Lib.hid hS1
      have HS2 := Lib.hid hS2
      clear hlG hlL hS1 hS2
      go_wp2_with fail
      refine (HP3'.out _).mono ?_
      rintro e w6 ⟨gc, cc, rfl, hn, hb⟩
      have HC := Lib.hid hn
      replace HN := Lib.hid (HN.out.below hb)
      replace HM := Lib.hid (HM.out.below hb)
      replace HA := Lib.hid (HA.out.below hb)
      replace HB := Lib.hid (HB.out.trans (hb.mono HB.out.size))
      clear hn hb HP3'
      have hw6 := HB.out.size
      have hown0 := owns_empty w6 w6.heap.size (Nat.le_refl _)
      have hnews := nodes_news (HN.out.alloc7 (.cells #[] 32))
      have BW : Below w6.heap.size w6 (w6.alloc (.cells #[] 32)) := (Below.refl _ _).alloc (Nat.le_refl _) _
      go_wp2_with (at_builtin; first | ((refine wpList_append_want _ rfl _ _ 23 rfl w6.heap.size 32 i0 (.agg #[.int .i64 0, .int .i64 0, .int .i64 0, .int .i64 0, .int .u64 0, .int .u64 0, .int .u64 0, .int .u64 0]) 8 64 Try.underlying23 hinf hz0 hz1 hz2 rfl (by decide) _ 0 [] rfl hown0 ⟨ga, 0, none⟩ l.length ca (ndCells l) rfl (ndCells_len l) hnews (ndCells_one l) (by unfold maxLen; omega) (by omega) BW.size ?_); intro v1 w7 hown1 hgrow1 _; rw [Nat.zero_add, List.nil_append] at hown1; have BW7 := BW.grown hgrow1 BW.size (fun b hb => (hown0.lt b hb).1); clear hown0 hnews BW hgrow1; have HO1 := Lib.hid hown1; clear hown1) | ((refine wpList_append_want _ rfl _ _ 23 rfl w6.heap.size 32 i0 (.agg #[.int .i64 0, .int .i64 0, .int .i64 0, .int .i64 0, .int .u64 0, .int .u64 0, .int .u64 0, .int .u64 0]) 8 64 Try.underlying23 hinf hz0 hz1 hz2 rfl (by decide) _ l.length (ndCells l) rfl (HO1.out.alloc _) ⟨w7.heap.size, 0, none⟩ 1 1 [.int .i64 3, .int .i64 1, .int .i64 0, .int .i64 0, .int .u64 0, .int .u64 0, .int .u64 0, .int .u64 0] rfl rfl (Blk.new w7 _ _).newsL (by simp [Value.oneCell']) (by unfold maxLen; omega) (by omega) (by have := BW7.size; simp; omega) ?_); intro v2 w8 hown2 hgrow2 _; have hown3 : w8.ownsRow w6.heap.size 32 8 v2 (l ++ [ndG]).length (ndCells (l ++ [ndG])) := (by rw [ndCells_app, ndG_cells7, List.length_append]; exact hown2); have BW8 := (BW7.alloc BW7.size _).grown hgrow2 (by have := BW7.size; simp; omega) (fun b hb => (HO1.out.lt b hb).1); obtain ⟨Gb, Gc, hv2, _, hng⟩ := nodes_of_owns hown3 (by simp); rw [HLG.out] at hv2; subst hv2; have HG := Lib.hid hng; replace HC := Lib.hid (HC.out.below BW8); replace HN := Lib.hid (HN.out.below BW8); replace HM := Lib.hid (HM.out.below BW8); replace HA := Lib.hid (HA.out.below BW8); replace HB := Lib.hid (HB.out.trans (BW8.mono HB.out.size)); clear hown2 hown3 hgrow2 hng BW7 BW8 HO1))
      refine (HS1.out _ _ _ _ _ HC.out HG.out).mono ?_
      rintro e w9 ⟨rfl, hb⟩
      clear HC HG
      replace HN := Lib.hid (HN.out.below hb)
      replace HM := Lib.hid (HM.out.below hb)
      replace HA := Lib.hid (HA.out.below hb)
      replace HB := Lib.hid (HB.out.trans (hb.mono HB.out.size))
      clear hb HS1
      obtain ⟨kl, hkl⟩ : ∃ k, l.length = k + 1 := ⟨l.length - 1, by omega⟩
      obtain ⟨km, hkm⟩ : ∃ k, m.length = k + 1 := ⟨m.length - 1, by omega⟩
      have HKL := Lib.hid hkl
      have HKM := Lib.hid hkm
      clear hkl hkm
      go_upto_region 19 with fail
      have hkl := HKL.out
      have hkm := HKM.out
      have hLK := last_kind l kl hkl
      have hMK := last_kind m km hkm
      clear HKL HKM
      go_cut [17, 18] from 111 to 122 (fun v17 v18 wx => ∃ gx gy : Nat, v17 = .pointer (some ⟨gx, 0, none⟩) ∧ v18 = .pointer (some ⟨gy, 0, none⟩) ∧ wx.cell? ⟨gx, 0, none⟩ = some (.int .i64 (lastK l)) ∧ wx.cell? ⟨gy, 0, none⟩ = some (.int .i64 (lastK m)) ∧ Below w9.heap.size w9 wx)
      case first =>
        obtain ⟨g', o', e, hlt1, c1⟩ := HN.out hne1
        cases e
        obtain ⟨g', o', e, hlt2, c2⟩ := HM.out hne2
        cases e
        have cx0 := c1 kl (by omega) 0 (by decide); have cx1 := c1 kl (by omega) 1 (by decide); have cx2 := c1 kl (by omega) 2 (by decide); have cx3 := c1 kl (by omega) 3 (by decide); have cx4 := c1 kl (by omega) 4 (by decide); have cx5 := c1 kl (by omega) 5 (by decide); have cx6 := c1 kl (by omega) 6 (by decide); have cx7 := c1 kl (by omega) 7 (by decide)
        have cy0 := c2 km (by omega) 0 (by decide); have cy1 := c2 km (by omega) 1 (by decide); have cy2 := c2 km (by omega) 2 (by decide); have cy3 := c2 km (by omega) 3 (by decide); have cy4 := c2 km (by omega) 4 (by decide); have cy5 := c2 km (by omega) 5 (by decide); have cy6 := c2 km (by omega) 6 (by decide); have cy7 := c2 km (by omega) 7 (by decide)
        generalize l[kl] = X at *
        generalize m[km] = Y at *
        obtain ⟨xk, xc, xn, xm, xs⟩ := X
        obtain ⟨yk, yc, yn, ym, ys⟩ := Y
        simp only at hLK hMK
        have HLK := Lib.hid hLK
        have HMK := Lib.hid hMK
        simp only [ndA, List.getElem?_toArray, List.getElem?_cons_zero, List.getElem?_cons_succ, Nat.add_zero, Nat.zero_add] at cx0 cx1 cx2 cx3 cx4 cx5 cx6 cx7 cy0 cy1 cy2 cy3 cy4 cy5 cy6 cy7
        have n1 := World.new_ne w9 _ cx0
        have n2 := World.new_ne w9 _ cy0
        have i0' : (0 : Int) ≤ (kl : Int) := by omega
        have i1' : (kl : Int) < (l.length : Int) := by omega
        have j0' : (0 : Int) ≤ (km : Int) := by omega
        have j1' : (km : Int) < (m.length : Int) := by omega
        have x1 : IntKind.i64.wrap ((l.length : Int) - 1) = kl := by rw [IntWalk.i64_in _ (by omega)]; omega
        have x2 : IntKind.i64.wrap ((m.length : Int) - 1) = km := by rw [IntWalk.i64_in _ (by omega)]; omega
        clear c1 c2 hLK hMK
        clear hkl hkm
        go_region_held3 (fun w' => (w'.cell? ⟨ga, kl * 8, none⟩ = some (.int .i64 xk) ∧ w'.cell? ⟨ga, kl * 8 + 1, none⟩ = some (.int .i64 xc) ∧ w'.cell? ⟨ga, kl * 8 + 2, none⟩ = some (.int .i64 xn) ∧ w'.cell? ⟨ga, kl * 8 + 3, none⟩ = some (.int .i64 xm) ∧ w'.cell? ⟨ga, kl * 8 + 4, none⟩ = some (.int .u64 (wd xs 0)) ∧ w'.cell? ⟨ga, kl * 8 + 5, none⟩ = some (.int .u64 (wd xs 1)) ∧ w'.cell? ⟨ga, kl * 8 + 6, none⟩ = some (.int .u64 (wd xs 2)) ∧ w'.cell? ⟨ga, kl * 8 + 7, none⟩ = some (.int .u64 (wd xs 3))) ∧
            (w'.cell? ⟨gb, km * 8, none⟩ = some (.int .i64 yk) ∧ w'.cell? ⟨gb, km * 8 + 1, none⟩ = some (.int .i64 yc) ∧ w'.cell? ⟨gb, km * 8 + 2, none⟩ = some (.int .i64 yn) ∧ w'.cell? ⟨gb, km * 8 + 3, none⟩ = some (.int .i64 ym) ∧ w'.cell? ⟨gb, km * 8 + 4, none⟩ = some (.int .u64 (wd ys 0)) ∧ w'.cell? ⟨gb, km * 8 + 5, none⟩ = some (.int .u64 (wd ys 1)) ∧ w'.cell? ⟨gb, km * 8 + 6, none⟩ = some (.int .u64 (wd ys 2)) ∧ w'.cell? ⟨gb, km * 8 + 7, none⟩ = some (.int .u64 (wd ys 3)))) (go_keep) (fail)
        · go_wp2_with fail
          go_meet
          refine ⟨_, _, rfl, rfl, ?_, ?_, ?_⟩
          · rw [HLK.out]; exact ((Blk.new w9 _ _).alloc _).cell 0
          · rw [HMK.out]; simp
          · go_grown
        · go_wp2_with fail
          go_meet
          refine ⟨_, _, rfl, rfl, ?_, ?_, ?_⟩
          · rw [HLK.out]; simp
          · rw [HMK.out]; exact ((Blk.new w9 _ _).alloc _).cell 0
          · go_grown
      case rest =>
      obtain ⟨gx, gy, rfl, rfl, cx, cy, hb⟩ := hcut
      replace HN := Lib.hid (HN.out.below hb)
      replace HM := Lib.hid (HM.out.below hb)
      replace HA := Lib.hid (HA.out.below hb)
      replace HB := Lib.hid (HB.out.trans (hb.mono HB.out.size))
      clear hb hLK hMK hkl hkm
      by_cases x6 : lastK l = 6
      · have qx : (lastK l == 6) = true := by rw [beq_iff_eq]; exact x6
        generalize lastK l = XK at *
        generalize lastK m = YK at *
        clear x6
        go_wp2_with fail
        refine (HSU.out _).mono ?_
        rintro e wz ⟨rfl, hb⟩
        have hBB := HB.out.trans (hb.mono HB.out.size)
        clear HSU hb
        go_wp2_with fail
        go_ret
        exact ⟨rfl, hBB⟩
      by_cases y6 : lastK m = 6
      · have qx : (lastK l == 6) = false := by rw [beq_eq_false_iff_ne]; exact x6
        have qy : (lastK m == 6) = true := by rw [beq_iff_eq]; exact y6
        clear x6 y6
        generalize lastK l = XK at *
        generalize lastK m = YK at *
        go_wp2_with fail
        refine (HSU.out _).mono ?_
        rintro e wz ⟨rfl, hb⟩
        have hBB := HB.out.trans (hb.mono HB.out.size)
        clear HSU hb
        go_wp2_with fail
        go_ret
        exact ⟨rfl, hBB⟩
      have qx : (lastK l == 6) = false := by rw [beq_eq_false_iff_ne]; exact x6
      have qy : (lastK m == 6) = false := by rw [beq_eq_false_iff_ne]; exact y6
      have HQ4 := Lib.hid (HP4'.out x6 y6)
      clear HP4' x6 y6
      generalize lastK l = XK at *
      generalize lastK m = YK at *
      go_wp2_with fail
      refine (HQ4.out _).mono ?_
      rintro e w10 ⟨gd, cd, rfl, hn, hb⟩
      have HC := Lib.hid hn
      replace HN := Lib.hid (HN.out.below hb)
      replace HM := Lib.hid (HM.out.below hb)
      replace HA := Lib.hid (HA.out.below hb)
      replace HB := Lib.hid (HB.out.trans (hb.mono HB.out.size))
      clear hn hb HQ4 cx cy
      have hw10 := HB.out.size
      have hown0 := owns_empty w10 w10.heap.size (Nat.le_refl _)
      have hnews := nodes_news (HA.out.alloc7 (.cells #[] 32))
      have BW : Below w10.heap.size w10 (w10.alloc (.cells #[] 32)) := (Below.refl _ _).alloc (Nat.le_refl _) _
      go_wp2_with (at_builtin; first | ((refine wpList_append_want _ rfl _ _ 23 rfl w10.heap.size 32 i0 (.agg #[.int .i64 0, .int .i64 0, .int .i64 0, .int .i64 0, .int .u64 0, .int .u64 0, .int .u64 0, .int .u64 0]) 8 64 Try.underlying23 hinf hz0 hz1 hz2 rfl (by decide) _ 0 [] rfl hown0 ⟨gA, 0, none⟩ L.length cA (ndCells L) rfl (ndCells_len L) hnews (ndCells_one L) (by unfold maxLen; omega) (by omega) BW.size ?_); intro v1 w11 hown1 hgrow1 _; rw [Nat.zero_add, List.nil_append] at hown1; have BW7 := BW.grown hgrow1 BW.size (fun b hb => (hown0.lt b hb).1); clear hown0 hnews BW hgrow1; have HO1 := Lib.hid hown1; clear hown1) | ((refine wpList_append_want _ rfl _ _ 23 rfl w10.heap.size 32 i0 (.agg #[.int .i64 0, .int .i64 0, .int .i64 0, .int .i64 0, .int .u64 0, .int .u64 0, .int .u64 0, .int .u64 0]) 8 64 Try.underlying23 hinf hz0 hz1 hz2 rfl (by decide) _ L.length (ndCells L) rfl (HO1.out.alloc _) ⟨w11.heap.size, 0, none⟩ 1 1 [.int .i64 6, .int .i64 2, .int .i64 0, .int .i64 0, .int .u64 0, .int .u64 0, .int .u64 0, .int .u64 0] rfl rfl (Blk.new w11 _ _).newsL (by simp [Value.oneCell']) (by unfold maxLen; omega) (by omega) (by have := BW7.size; simp; omega) ?_); intro v2 w12 hown2 hgrow2 _; have hown3 : w12.ownsRow w10.heap.size 32 8 v2 (L ++ [ndL]).length (ndCells (L ++ [ndL])) := (by rw [ndCells_app, ndL_cells7, List.length_append]; exact hown2); have BW8 := (BW7.alloc BW7.size _).grown hgrow2 (by have := BW7.size; simp; omega) (fun b hb => (HO1.out.lt b hb).1); obtain ⟨Gb, Gc, hv2, _, hng⟩ := nodes_of_owns hown3 (by simp); rw [HLL.out] at hv2; subst hv2; have HG := Lib.hid hng; replace HC := Lib.hid (HC.out.below BW8); replace HB := Lib.hid (HB.out.trans (BW8.mono HB.out.size)); clear hown2 hown3 hgrow2 hng BW7 BW8 HO1))
      refine (HS2.out _ _ _ _ _ HC.out HG.out).mono ?_
      rintro e w13 ⟨rfl, hb⟩
      clear HC HG HN HM HA
      replace HB := Lib.hid (HB.out.trans (hb.mono HB.out.size))
      clear hb HS2
      go_wp2_with fail
      refine (HSU.out _).mono ?_
      rintro e wz ⟨rfl, hb⟩
      have hBB := HB.out.trans (hb.mono HB.out.size)
      clear HSU hb
      go_wp2_with fail
      go_ret
      exact ⟨rfl, hBB⟩
set_option maxRecDepth 100000 in
set_option maxHeartbeats 8000000 in
theorem parseJoins_calls (C : ParseC) (s t : ByteArray) (hs : s.size ≤ 9223372036854775807) (ht : t.size ≤ 9223372036854775807) (w : World) : Calls Try.prog 4 #[.string s, .string t] w fun e w' => e = .returned (.bool true) ∧ Below w.heap.size w w' := by
  have HSU := Lib.hid (sure7_calls C)
  have HB := Lib.hid (Below.refl w.heap.size w)
  by_cases hl : 100 < s.size
  · have q : decide (100 < s.size) = true := by simpa using hl
    clear C
    go_enter Try.func4, Try.ntmps4
    go_wp2_with fail
    refine (HSU.out _).mono ?_
    rintro e wz ⟨rfl, hb⟩
    have hBB := HB.out.trans (hb.mono HB.out.size)
    clear HSU hb
    go_wp2_with fail
    go_ret
    exact ⟨rfl, hBB⟩
  have q : decide (100 < s.size) = false := by simpa using hl
  by_cases hl2 : 100 < t.size
  · have q2 : decide (100 < t.size) = true := by simpa using hl2
    clear C
    go_enter Try.func4, Try.ntmps4
    go_wp2_with fail
    refine (HSU.out _).mono ?_
    rintro e wz ⟨rfl, hb⟩
    have hBB := HB.out.trans (hb.mono HB.out.size)
    clear HSU hb
    go_wp2_with fail
    go_ret
    exact ⟨rfl, hBB⟩
  have q2 : decide (100 < t.size) = false := by simpa using hl2
  by_cases h : (parseN s).2.2.1 = 0
  · by_cases h' : (parseN t).2.2.1 = 0
    · exact joins_main C s t (by omega) (by omega) h h' w
    · have hP := parse_ek C s (by omega)
      have hQ := parse_ek C t (by omega)
      rw [h] at hP
      generalize (parseN t).2.2.1 = f at *
      generalize (parseN t).2.2.2 = fp at *
      generalize (parseN s).2.2.2 = ep at *
      have qf : ((f : Int) != 0) = true := by rw [bne_iff_ne]; omega
      have HP : Hid (∀ w, Calls Try.prog 6 #[.string s] w fun e w' => ∃ v, e = .returned (.tuple #[v, .int .i64 0, .int .i64 ep]) ∧ Below w.heap.size w w') := Lib.hid hP
      have HQ := Lib.hid hQ
      clear hP hQ C h h'
      go_enter Try.func4, Try.ntmps4
      go_wp2_with fail
      refine (HP.out _).mono ?_
      rintro e w1 ⟨v, rfl, hb⟩
      replace HB := Lib.hid (HB.out.trans (hb.mono HB.out.size))
      clear HP hb
      go_wp2_with fail
      refine (HQ.out _).mono ?_
      rintro e w2 ⟨v2, rfl, hb⟩
      replace HB := Lib.hid (HB.out.trans (hb.mono HB.out.size))
      clear HQ hb
      go_wp2_with fail
      refine (HSU.out _).mono ?_
      rintro e wz ⟨rfl, hb⟩
      have hBB := HB.out.trans (hb.mono HB.out.size)
      clear HSU hb
      go_wp2_with fail
      go_ret
      exact ⟨rfl, hBB⟩
  · have hP := parse_ek C s (by omega)
    have hQ := parse_ek C t (by omega)
    generalize (parseN t).2.2.1 = f at *
    generalize (parseN t).2.2.2 = fp at *
    generalize (parseN s).2.2.1 = er at *
    generalize (parseN s).2.2.2 = ep at *
    have qf : ((er : Int) != 0) = true := by rw [bne_iff_ne]; omega
    have HP := Lib.hid hP
    have HQ := Lib.hid hQ
    clear hP hQ C h
    go_enter Try.func4, Try.ntmps4
    go_wp2_with fail
    refine (HP.out _).mono ?_
    rintro e w1 ⟨v, rfl, hb⟩
    replace HB := Lib.hid (HB.out.trans (hb.mono HB.out.size))
    clear HP hb
    go_wp2_with fail
    refine (HQ.out _).mono ?_
    rintro e w2 ⟨v2, rfl, hb⟩
    replace HB := Lib.hid (HB.out.trans (hb.mono HB.out.size))
    clear HQ hb
    go_wp2_with fail
    refine (HSU.out _).mono ?_
    rintro e wz ⟨rfl, hb⟩
    have hBB := HB.out.trans (hb.mono HB.out.size)
    clear HSU hb
    go_wp2_with fail
    go_ret
    exact ⟨rfl, hBB⟩
end Go.Proofs.Ythodphgbdmnpoaa

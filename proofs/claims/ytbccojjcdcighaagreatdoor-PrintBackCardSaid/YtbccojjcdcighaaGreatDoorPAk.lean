/- Texts put together: Dw Dm. -/
import Derived.Test.YtbccojjcdcighaaGreatDoorPB
import Derived.Test.YtbccojjcdcighaaGreatDoorPAj
import Derived.Test.YtbccojjcdcighaaGreatDoorPAc
import Derived.Laws.BytesArg
namespace Go.Proofs.YtbccojjcdcighaaGreatDoor
open Go.RowKit BS
theorem pfx_of {nm l : ByteArray} (h : l.size ≤ nm.size) (hb : ∀ i, i < l.size → bt l i = bt nm i) : pfx nm l = true := by
  have hz : (nm.extract 0 l.size).size = l.size := by rw [ByteArray.size_extract]; omega
  have e : nm.extract 0 l.size = l := ba_ext hz (fun i hi => by rw [bt_extract nm 0 l.size i h (by omega), Nat.zero_add, hb i (by omega)])
  unfold pfx
  rw [e, decide_eq_true h]; simp
structure Goes (s s' : ByteArray) : Prop where
  le : s.size < s'.size
  same : ∀ i, i < s.size → bt s' i = bt s i
theorem goes_app (s l : ByteArray) (h : 0 < l.size) : Goes s (s ++ l) := ⟨by rw [ByteArray.size_append]; omega, fun i hi => by rw [bt_app, if_pos hi]⟩
theorem Goes.ext {s s' : ByteArray} (h : Goes s s') (a e : Nat) (he : e ≤ s.size) : s'.extract a e = s.extract a e := by
  have := h.le
  refine ba_ext (by rw [ByteArray.size_extract, ByteArray.size_extract]; omega) fun i hi => ?_
  rw [ByteArray.size_extract] at hi
  rw [bt_extract s' a e i (by omega) (by omega), bt_extract s a e i he (by omega), h.same _ (by omega)]
theorem Goes.isN {s s' : ByteArray} (h : Goes s s') (i : Nat) (L : List Nat) (hi : i < s.size) : isN s' i L = Go.Proofs.YtbccojjcdcighaaGreatDoor.isN s i L := by
  have := h.le
  unfold Go.Proofs.YtbccojjcdcighaaGreatDoor.isN
  rw [h.same i hi, decide_eq_true hi, decide_eq_true (by omega : i < s'.size)]
theorem isN_93 (s : ByteArray) (i : Nat) (L : List Nat) (h : bt s i = 93) (hL : L.contains 93 = false) : isN s i L = false := by
  unfold isN; rw [h, hL]; simp
theorem nmEnd_keep {s s' : ByteArray} (h : Goes s s') (a : Nat) : ∀ n n' e, s.size = n + e → s'.size = n' + e → nmEnd s a n e < s.size → nmEnd s' a n' e = nmEnd s a n e
  | 0, n', e, h1, _, hlt => by rw [nmEnd] at hlt; omega
  | n + 1, n', e, h1, h2, hlt => by
    have hle := h.le
    obtain ⟨n', rfl⟩ : ∃ k, n' = k + 1 := ⟨n' - 1, by omega⟩
    cases hb : begB (s.extract a (e + 1)) with
    | false => rw [nmEnd_off _ _ _ _ hb, nmEnd_off _ _ _ _ (by rw [h.ext a (e + 1) (by omega)]; exact hb)]
    | true =>
      rw [nmEnd_on _ _ _ _ hb] at hlt ⊢
      rw [nmEnd_on _ _ _ _ (by rw [h.ext a (e + 1) (by omega)]; exact hb)]
      exact nmEnd_keep h a n n' (e + 1) (by omega) (by omega) hlt
theorem nmEnd_run (s : ByteArray) (a E : Nat) (hE : begB (s.extract a (E + 1)) = false) : ∀ n e, e ≤ E → E < n + e → (∀ j, e ≤ j → j < E → begB (s.extract a (j + 1)) = true) → nmEnd s a n e = E
  | 0, e, h1, h2, _ => by omega
  | n + 1, e, h1, h2, hb => by
    by_cases he : e = E
    · rw [he, nmEnd_off _ _ _ _ hE]
    · rw [nmEnd_on _ _ _ _ (hb e (Nat.le_refl _) (by omega))]
      exact nmEnd_run s a E hE n (e + 1) (by omega) (by omega) (fun j h3 h4 => hb j (by omega) h4)
theorem nmEnd_all (s : ByteArray) (a : Nat) : ∀ n e, ∀ j, e ≤ j → j < nmEnd s a n e → begB (s.extract a (j + 1)) = true
  | 0, e, j, h1, h2 => by rw [nmEnd] at h2; omega
  | n + 1, e, j, h1, h2 => by
    cases hb : begB (s.extract a (e + 1)) with
    | false => rw [nmEnd_off _ _ _ _ hb] at h2; omega
    | true =>
      rw [nmEnd_on _ _ _ _ hb] at h2
      by_cases hj : j = e
      · rw [hj]; exact hb
      · exact nmEnd_all s a n (e + 1) j (by omega) h2
def LkD (p : DP) : Prop := p.err ≠ 2 → p.lack = eT
theorem lkD_bad (e p : Nat) : LkD (badD e p) := fun _ => rfl
theorem lkD_ok (t : BitVec 256) (p : Nat) : LkD (okD t p) := fun _ => rfl
theorem lkD_short (s l : ByteArray) : LkD (shortD s l) := fun h => absurd rfl h
theorem behindD_lk (s : ByteArray) (a e : Nat) : LkD (behindD s a e) := by
  unfold behindD
  exact ite_ok _ (fun _ => lkD_short _ _) (fun _ => ite_ok _ (fun _ => lkD_bad _ _) (fun _ => ite_ok _ (fun _ => lkD_short _ _) (fun _ => ite_ok _ (fun _ => lkD_bad _ _) (fun _ => lkD_ok _ _))))
theorem betweenD_lk (s : ByteArray) (i : Nat) : LkD (betweenD s i) := by
  unfold betweenD
  exact ite_ok _ (fun _ => lkD_bad _ _) (fun _ => ite_ok _ (fun _ => lkD_bad _ _) (fun _ => lkD_ok _ _))
theorem thingD_lk (s : ByteArray) (i : Nat) : LkD (thingD s i) := by
  unfold thingD
  exact ite_ok _ (fun _ => behindD_lk _ _ _) (fun _ => ite_ok _ (fun _ => lkD_bad _ _) (fun _ => ite_ok _ (fun _ => betweenD_lk _ _) (fun _ => lkD_ok _ _)))
theorem loopD_lk (s : ByteArray) (first : Nat) : ∀ n t i, LkD (loopD s first n t i)
  | 0, t, i => lkD_ok _ _
  | n + 1, t, i => by
    unfold loopD
    exact ite_ok _ (fun _ => lkD_short _ _) (fun _ => ite_ok _ (fun _ => lkD_short _ _) (fun _ => ite_ok _ (fun _ => lkD_ok _ _) (fun _ => ite_ok _ (fun _ => thingD_lk _ _) (fun _ => loopD_lk s first n _ _))))
theorem wholeD_lk (s : ByteArray) (at' : Int) : LkD (wholeD s at') := by
  unfold wholeD
  refine ite_ok _ (fun _ => lkD_bad _ _) (fun _ => ite_ok _ (fun _ => lkD_bad _ _) (fun _ => ite_ok _ (fun _ => loopD_lk _ _ _ _ _) (fun _ => ?_)))
  intro h
  exact loopD_lk s _ _ _ _ h
theorem rest_name (s : ByteArray) (a : Nat) (ha : a ≤ s.size) (h : nmEnd s a (s.size - a) a = s.size) : ∃ k, k < 12 ∧ s.size - a ≤ (tE k).1.size ∧ (∀ i, i < s.size - a → bt s (a + i) = bt (tE k).1 i) ∧ restD (s.extract a s.size) = (tE k).1.extract (s.size - a) (tE k).1.size := by
  have hz : (s.extract a s.size).size = s.size - a := by rw [ByteArray.size_extract]; omega
  have hb : begB (s.extract a s.size) = true := by
    by_cases hs : a = s.size
    · refine (begB_iff _).2 ⟨0, by decide, pfx_of (by omega) fun i hi => by omega⟩
    · have := nmEnd_all s a (s.size - a) a (s.size - 1) (by omega) (by omega)
      rwa [show s.size - 1 + 1 = s.size by omega] at this
  obtain ⟨k, hk, hf, hp⟩ : ∃ k, k < 12 ∧ (∀ j, j < k → pfx (tE j).1 (s.extract a s.size) = false) ∧ pfx (tE k).1 (s.extract a s.size) = true := by
    obtain ⟨k0, hk0, hp0⟩ := (begB_iff _).1 hb
    refine Decidable.byContradiction fun hc => ?_
    have key : ∀ j, j < 12 → pfx (tE j).1 (s.extract a s.size) = false := fun j => by
      induction j using Nat.strongRecOn with
      | _ j ih =>
        intro hj
        cases hp : pfx (tE j).1 (s.extract a s.size) with
        | false => rfl
        | true => exact absurd ⟨j, hj, fun i hi => ih i hi (by omega), hp⟩ hc
    rw [key k0 hk0] at hp0; cases hp0
  obtain ⟨h1, h2⟩ := pfx_bt hp
  refine ⟨k, hk, by omega, fun i hi => ?_, ?_⟩
  · rw [← h2 i (by omega), bt_extract s a s.size i (Nat.le_refl _) (by omega)]
  · rw [restD_at _ k hk hf hp, cutP, if_pos hp, hz]
theorem colT_bt : bt colT 0 = 58 ∧ bt colT 1 = 93 ∧ bt colT 2 = 93 ∧ colT.size = 3 := by decide
theorem twoT_bt : bt twoT 0 = 93 ∧ bt twoT 1 = 93 ∧ twoT.size = 2 := by decide
theorem oneT_bt : bt oneT 0 = 93 ∧ oneT.size = 1 := by decide
theorem named_lack (s : ByteArray) (a : Nat) (ha : a ≤ s.size) (h : (namedD s a).err = 2) :
    (0 < (namedD s a).lack.size ∧ (namedD s a).lack.size ≤ 19) ∧ ∃ c, namedD (s ++ (namedD s a).lack) a = okD c ((s ++ (namedD s a).lack).size - 1) ∧ bt (s ++ (namedD s a).lack) ((s ++ (namedD s a).lack).size - 1) = 93 := by
  obtain ⟨c1, c2, c3, c4⟩ := colT_bt
  obtain ⟨t1, t2, t3⟩ := twoT_bt
  have hE := nmEnd_le s a (s.size - a) a
  by_cases h1 : nmEnd s a (s.size - a) a = s.size
  · have hl : (namedD s a).lack = restD (s.extract a s.size) ++ colT := by rw [namedD, h1, behindD, if_pos rfl]; rfl
    obtain ⟨k, hk, n1, n2, n3⟩ := rest_name s a ha h1
    have hnl := name_len k hk
    generalize hnm : (tE k).1 = nm at *
    have hrz : (nm.extract (s.size - a) nm.size).size = nm.size - (s.size - a) := by rw [ByteArray.size_extract]; omega
    rw [hl, n3]
    generalize hl' : nm.extract (s.size - a) nm.size ++ colT = l at *
    have hlz : l.size = nm.size - (s.size - a) + 3 := by rw [← hl', ByteArray.size_append, hrz, c4]
    refine ⟨⟨by omega, by omega⟩, ?_⟩
    have hz : (s ++ l).size = a + nm.size + 3 := by rw [ByteArray.size_append, hlz]; omega
    -- its bytes
    have hb : ∀ i, i < nm.size → bt (s ++ l) (a + i) = bt nm i := fun i hi => by
      rw [bt_app]
      by_cases hi2 : a + i < s.size
      · rw [if_pos hi2, n2 i (by omega)]
      · rw [if_neg hi2, ← hl', bt_app, if_pos (by omega), bt_extract nm _ _ _ (Nat.le_refl _) (by omega)]
        congr 1; omega
    have hc : ∀ j, j < 3 → bt (s ++ l) (a + nm.size + j) = bt colT j := fun j hj => by
      rw [bt_app, if_neg (by omega), ← hl', bt_app, if_neg (by omega)]
      congr 1; omega
    have e0 : bt (s ++ l) (a + nm.size) = 58 := by have := hc 0 (by omega); rw [c1] at this; exact this
    have e1 : bt (s ++ l) (a + nm.size + 1) = 93 := by rw [hc 1 (by omega), c2]
    have e2 : bt (s ++ l) (a + nm.size + 2) = 93 := by rw [hc 2 (by omega), c3]
    have hext : (s ++ l).extract a (a + nm.size) = nm := ba_ext (by rw [ByteArray.size_extract]; omega) fun i hi => by
      rw [ByteArray.size_extract] at hi
      rw [bt_extract _ _ _ _ (by omega) (by omega), hb i (by omega)]
    have hrun : nmEnd (s ++ l) a ((s ++ l).size - a) a = a + nm.size := by
      refine nmEnd_run _ _ _ (beg_colon _ _ _ (by omega) (by omega) e0) _ _ (by omega) (by omega) fun j h3 h4 => ?_
      refine (begB_iff _).2 ⟨k, hk, ?_⟩
      rw [hnm]
      refine pfx_of (by rw [ByteArray.size_extract]; omega) fun i hi => ?_
      rw [ByteArray.size_extract] at hi
      rw [bt_extract _ _ _ _ (by omega) (by omega), hb i (by omega)]
    refine ⟨ofS nm.toList, ?_, ?_⟩
    · rw [namedD, hrun, behindD_lt _ _ _ (by omega), hext]
      have ho : ofB nm.toList = true := by rw [← hnm]; exact ofB_self k hk
      have hn1 : ¬ (ofB nm.toList = false ∨ bt (s ++ l) (a + nm.size) ≠ 58) := by rintro (h | h); rw [ho] at h; cases h; exact h e0
      rw [if_neg hn1, if_neg (show ¬ a + nm.size + 1 = (s ++ l).size by omega), if_neg (by rw [e1]; decide)]
      rw [show (s ++ l).size - 1 = a + nm.size + 2 by omega]
    · rw [show (s ++ l).size - 1 = a + nm.size + 2 by omega]; exact e2
  · have hlt : nmEnd s a (s.size - a) a < s.size := by omega
    have hk := hE.1
    generalize hE' : nmEnd s a (s.size - a) a = e at *
    have hb : namedD s a = behindD s a e := by rw [namedD, hE']
    rw [behindD_lt s a e hlt] at hb
    rw [hb] at h
    by_cases g1 : ofB (s.extract a e).toList = false ∨ bt s e ≠ 58
    · rw [if_pos g1] at h; simp [badD] at h
    rw [if_neg g1] at h hb
    by_cases g2 : e + 1 = s.size
    · rw [if_pos g2] at hb
      rw [hb]
      simp only [shortD]
      refine ⟨by rw [t3]; decide, ?_⟩
      have hg := goes_app s twoT (by rw [t3]; decide)
      have hz : (s ++ twoT).size = s.size + 2 := by rw [ByteArray.size_append, t3]
      have f0 : bt (s ++ twoT) (e + 1) = 93 := by rw [bt_app, if_neg (by omega), g2, Nat.sub_self, t1]
      have f1 : bt (s ++ twoT) (s.size + 1) = 93 := by rw [bt_app, if_neg (by omega), show s.size + 1 - s.size = 1 by omega, t2]
      have hrun : nmEnd (s ++ twoT) a ((s ++ twoT).size - a) a = e := by
        rw [nmEnd_keep hg a (s.size - a) _ a (by omega) (by omega) (by rw [hE']; exact hlt), hE']
      refine ⟨ofS (s.extract a e).toList, ?_, ?_⟩
      · rw [namedD, hrun, behindD_lt _ _ _ (by omega), hg.ext a e (by omega), hg.same e hlt, if_neg g1, if_neg (show ¬ e + 1 = (s ++ twoT).size by omega), if_neg (by rw [f0]; decide)]
        rw [show (s ++ twoT).size - 1 = e + 2 by omega]
      · rw [show (s ++ twoT).size - 1 = s.size + 1 by omega]; exact f1
    · rw [if_neg g2] at h
      by_cases g3 : bt s (e + 1) ≠ 93
      · rw [if_pos g3] at h; simp [badD] at h
      · rw [if_neg g3] at h; simp [okD] at h
theorem named_keep {s s' : ByteArray} (hg : Goes s s') (a : Nat) (ha : a ≤ s.size) (h : (namedD s a).err = 0) : namedD s' a = namedD s a := by
  have hE := nmEnd_le s a (s.size - a) a
  by_cases h1 : nmEnd s a (s.size - a) a = s.size
  · rw [namedD, h1, behindD, if_pos rfl] at h; simp [shortD] at h
  have hlt : nmEnd s a (s.size - a) a < s.size := by omega
  have hle := hg.le
  have hrun : nmEnd s' a (s'.size - a) a = nmEnd s a (s.size - a) a := nmEnd_keep hg a (s.size - a) _ a (by omega) (by omega) hlt
  rw [namedD, behindD_lt _ _ _ hlt] at h
  rw [namedD, namedD, hrun]
  generalize nmEnd s a (s.size - a) a = e at *
  rw [behindD_lt _ _ _ hlt, behindD_lt _ _ _ (by omega), hg.ext a e (by omega), hg.same e hlt]
  by_cases g1 : ofB (s.extract a e).toList = false ∨ bt s e ≠ 58
  · rw [if_pos g1, if_pos g1]
  rw [if_neg g1] at h ⊢
  rw [if_neg g1]
  by_cases g2 : e + 1 = s.size
  · rw [if_pos g2] at h; simp [shortD] at h
  rw [if_neg g2, if_neg (show ¬ e + 1 = s'.size by omega), hg.same (e + 1) (by omega)]
theorem thing_keep {s s' : ByteArray} (hg : Goes s s') (i : Nat) (hi : i < s.size) (h : (thingD s i).err = 0) (H : bt s' s.size = 93 ∨ (thingD s i).fin + 1 < s.size) : thingD s' i = thingD s i := by
  have hle := hg.le
  have at1 : ∀ (j : Nat) (L : List Nat), L.contains 93 = false → j ≤ s.size → (j = s.size → bt s' s.size = 93) → isN s' j L = isN s j L := fun j L hL hj h93 => by
    by_cases hjs : j = s.size
    · rw [hjs, isN_93 s' s.size L (h93 hjs) hL, isN_far s s.size L (Nat.le_refl _)]
    · exact hg.isN j L (by omega)
  by_cases hA : bt s i = 91 ∧ isN s (i + 1) [58] = true
  · have hlt := isN_lt hA.2
    have e1 : thingD s i = namedD s (i + 2) := by rw [thingD, if_pos hA]
    have e2 : thingD s' i = namedD s' (i + 2) := by rw [thingD, if_pos ⟨by rw [hg.same i hi]; exact hA.1, by rw [hg.isN _ _ hlt]; exact hA.2⟩]
    rw [e1] at h
    rw [e1, e2]
    exact named_keep hg (i + 2) (by omega) h
  by_cases hB : bt s i = 91 ∧ isN s (i + 1) [46, 61] = true
  · rw [thingD, if_neg hA, if_pos hB] at h; simp [badD] at h
  by_cases hC : (isN s (i + 1) [45] = true ∧ i + 2 < s.size) ∧ bt s (i + 2) ≠ 93
  · have e1 : thingD s i = betweenD s i := by rw [thingD, if_neg hA, if_neg hB, if_pos hC]
    have hlt := hC.1.2
    have hA' : ¬ (bt s' i = 91 ∧ isN s' (i + 1) [58] = true) := by rw [hg.same i hi, hg.isN _ _ (by omega)]; exact hA
    have hB' : ¬ (bt s' i = 91 ∧ isN s' (i + 1) [46, 61] = true) := by rw [hg.same i hi, hg.isN _ _ (by omega)]; exact hB
    have hC' : (isN s' (i + 1) [45] = true ∧ i + 2 < s'.size) ∧ bt s' (i + 2) ≠ 93 := by rw [hg.isN _ _ (by omega), hg.same (i + 2) hlt]; exact ⟨⟨hC.1.1, by omega⟩, hC.2⟩
    have e2 : thingD s' i = betweenD s' i := by rw [thingD, if_neg hA', if_neg hB', if_pos hC']
    rw [e1] at h H
    rw [e1, e2]
    unfold betweenD at h H ⊢
    rw [hg.same (i + 2) hlt, hg.same i hi]
    by_cases g1 : bt s (i + 2) < bt s i
    · rw [if_pos g1] at h; simp [badD] at h
    rw [if_neg g1] at h H ⊢
    rw [if_neg g1]
    by_cases g2 : bt s (i + 2) = 91 ∧ isN s (i + 3) [58, 46, 61] = true
    · rw [if_pos g2] at h; simp [badD] at h
    rw [if_neg g2] at H ⊢
    have hf : (okD (range (bt s i) (bt s (i + 2))) (i + 3)).fin = i + 3 := rfl
    rw [hf] at H
    rw [at1 (i + 3) _ (by decide) (by omega) (fun e => H.resolve_right (by omega)), if_neg g2]
  · have e1 : thingD s i = okD (range (bt s i) (bt s i)) (i + 1) := thingD_byte s i hA hB hC
    have hf : (thingD s i).fin = i + 1 := by rw [e1]; rfl
    rw [hf] at H
    have h1 : ∀ L : List Nat, L.contains 93 = false → isN s' (i + 1) L = isN s (i + 1) L := fun L hL => at1 (i + 1) L hL (by omega) (fun e => H.resolve_right (by omega))
    rw [e1, thingD_byte s' i (by rw [hg.same i hi, h1 _ (by decide)]; exact hA) (by rw [hg.same i hi, h1 _ (by decide)]; exact hB), hg.same i hi]
    rw [h1 _ (by decide)]
    intro hc
    have hlt := isN_lt hc.1.1
    by_cases h2 : i + 2 < s.size
    · exact hC ⟨⟨hc.1.1, h2⟩, by rw [← hg.same (i + 2) h2]; exact hc.2⟩
    · have : i + 2 = s.size := by omega
      rw [this] at hc
      exact hc.2 (H.resolve_right (by omega))
theorem thing_lack (s : ByteArray) (i : Nat) (hi : i < s.size) (h : (thingD s i).err = 2) :
    i + 1 < s.size ∧ (0 < (thingD s i).lack.size ∧ (thingD s i).lack.size ≤ 19) ∧ ∃ c, thingD (s ++ (thingD s i).lack) i = okD c ((s ++ (thingD s i).lack).size - 1) ∧ bt (s ++ (thingD s i).lack) ((s ++ (thingD s i).lack).size - 1) = 93 := by
  by_cases hA : bt s i = 91 ∧ isN s (i + 1) [58] = true
  · have hlt := isN_lt hA.2
    have e1 : thingD s i = namedD s (i + 2) := by rw [thingD, if_pos hA]
    rw [e1] at h ⊢
    obtain ⟨hz, c, h1, h2⟩ := named_lack s (i + 2) (by omega) h
    have hg := goes_app s _ hz.1
    refine ⟨hlt, hz, c, ?_, h2⟩
    rw [thingD, if_pos ⟨by rw [hg.same i hi]; exact hA.1, by rw [hg.isN _ _ hlt]; exact hA.2⟩]
    exact h1
  · exfalso
    unfold thingD at h
    rw [if_neg hA] at h
    by_cases hB : bt s i = 91 ∧ isN s (i + 1) [46, 61] = true
    · rw [if_pos hB] at h; simp [badD] at h
    rw [if_neg hB] at h
    by_cases hC : (isN s (i + 1) [45] = true ∧ i + 2 < s.size) ∧ bt s (i + 2) ≠ 93
    · rw [if_pos hC] at h
      unfold betweenD at h
      by_cases g1 : bt s (i + 2) < bt s i
      · rw [if_pos g1] at h; simp [badD] at h
      rw [if_neg g1] at h
      by_cases g2 : bt s (i + 2) = 91 ∧ isN s (i + 3) [58, 46, 61] = true
      · rw [if_pos g2] at h; simp [badD] at h
      · rw [if_neg g2] at h; simp [okD] at h
    · rw [if_neg hC] at h; simp [okD] at h
theorem loop_lack (s : ByteArray) (first : Nat) : ∀ (m : Nat) (t : BitVec 256) (i n : Nat) (l : ByteArray), s.size - i ≤ m → first ≤ i → i ≤ s.size → s.size + 1 ≤ n + i → (loopD s first n t i).err = 2 → l = (loopD s first n t i).lack →
    (0 < l.size ∧ l.size ≤ 19) ∧ (bt (s ++ l) s.size = 93 ∨ i + 1 < s.size) ∧ ∀ n', (s ++ l).size + 1 ≤ n' + i → ∃ t', loopD (s ++ l) first n' t i = okD t' (s ++ l).size := by
  obtain ⟨t1, t2, t3⟩ := twoT_bt
  obtain ⟨o1, o2⟩ := oneT_bt
  intro m
  induction m with
  | zero =>
    intro t i n l hm hf hi hn he hl
    obtain ⟨n, rfl⟩ : ∃ k, n = k + 1 := ⟨n - 1, by omega⟩
    obtain rfl : i = s.size := by omega
    by_cases hif : s.size = first
    · rw [loopD, if_pos ⟨rfl, hif⟩] at hl
      simp only [shortD] at hl
      subst hl
      have hz : (s ++ twoT).size = s.size + 2 := by rw [ByteArray.size_append, t3]
      have f0 : bt (s ++ twoT) s.size = 93 := by rw [bt_app, if_neg (by omega), Nat.sub_self, t1]
      have f1 : bt (s ++ twoT) (s.size + 1) = 93 := by rw [bt_app, if_neg (by omega), show s.size + 1 - s.size = 1 by omega, t2]
      refine ⟨by rw [t3]; decide, .inl f0, fun n' hn' => ?_⟩
      obtain ⟨n', rfl⟩ : ∃ k, n' = k + 2 := ⟨n' - 2, by omega⟩
      have hnA : ¬ (bt (s ++ twoT) s.size = 91 ∧ isN (s ++ twoT) (s.size + 1) [58] = true) := by rw [f0]; intro h; exact absurd h.1 (by decide)
      have hnB : ¬ (bt (s ++ twoT) s.size = 91 ∧ isN (s ++ twoT) (s.size + 1) [46, 61] = true) := by rw [f0]; intro h; exact absurd h.1 (by decide)
      have hnC : ¬ ((isN (s ++ twoT) (s.size + 1) [45] = true ∧ s.size + 2 < (s ++ twoT).size) ∧ bt (s ++ twoT) (s.size + 2) ≠ 93) := fun h => by omega
      have ht := thingD_byte _ _ hnA hnB hnC
      rw [loopD_on _ _ _ _ _ (by omega) (by omega) (by rw [ht]; rfl), ht]
      simp only [okD]
      rw [loopD_end _ _ _ _ _ (by omega) ⟨f1, by omega⟩]
      exact ⟨_, by rw [hz]; rfl⟩
    · rw [loopD, if_neg (fun h => hif h.2), if_pos rfl] at hl
      simp only [shortD] at hl
      subst hl
      have hz : (s ++ oneT).size = s.size + 1 := by rw [ByteArray.size_append, o2]
      have f0 : bt (s ++ oneT) s.size = 93 := by rw [bt_app, if_neg (by omega), Nat.sub_self, o1]
      refine ⟨by rw [o2]; decide, .inl f0, fun n' hn' => ?_⟩
      obtain ⟨n', rfl⟩ : ∃ k, n' = k + 1 := ⟨n' - 1, by omega⟩
      rw [loopD_end _ _ _ _ _ (by omega) ⟨f0, by omega⟩]
      exact ⟨_, by rw [hz]⟩
  | succ m ih =>
    intro t i n l hm hf hi hn he hl
    by_cases hm' : s.size - i ≤ m
    · exact ih t i n l hm' hf hi hn he hl
    obtain ⟨n, rfl⟩ : ∃ k, n = k + 1 := ⟨n - 1, by omega⟩
    have hlt : i < s.size := by omega
    by_cases hE : bt s i = 93 ∧ first < i
    · rw [loopD_end _ _ _ _ _ hlt hE] at he; simp [okD] at he
    by_cases hte : (thingD s i).err = 0
    · rw [loopD_on _ _ _ _ _ hlt hE hte] at he hl
      have hok := thingD_ok s i hlt hte
      obtain ⟨hz, H, hgo⟩ := ih _ (thingD s i).fin n l (by omega) (by omega) hok.2 (by omega) he hl
      have hg := goes_app s l hz.1
      have hle := hg.le
      have hk := thing_keep hg i hlt hte H
      refine ⟨hz, ?_, fun n' hn' => ?_⟩
      · rcases H with H | H
        · exact .inl H
        · exact .inr (by omega)
      · obtain ⟨n', rfl⟩ : ∃ k, n' = k + 1 := ⟨n' - 1, by omega⟩
        rw [loopD_on _ _ _ _ _ (by omega) (by rw [hg.same i hlt]; exact hE) (by rw [hk]; exact hte), hk]
        exact hgo n' (by omega)
    · rw [loopD_bad _ _ _ _ _ hlt hE hte] at he hl
      obtain ⟨h1, hz, c, hc, hb⟩ := thing_lack s i hlt he
      rw [← hl] at hz hc hb
      have hg := goes_app s l hz.1
      have hle := hg.le
      refine ⟨hz, .inr h1, fun n' hn' => ?_⟩
      obtain ⟨n', rfl⟩ : ∃ k, n' = k + 2 := ⟨n' - 2, by omega⟩
      rw [loopD_on _ _ _ _ _ (by omega) (by rw [hg.same i hlt]; exact hE) (by rw [hc]; rfl), hc]
      simp only [okD]
      rw [loopD_end _ _ _ _ _ (by omega) ⟨hb, by omega⟩]
      exact ⟨_, by rw [show (s ++ l).size - 1 + 1 = (s ++ l).size by omega]; rfl⟩
theorem whole_lack (s : ByteArray) (at' : Int) (h : (wholeD s at').err = 2) :
    (0 < (wholeD s at').lack.size ∧ (wholeD s at').lack.size ≤ 19) ∧ ∃ t, readD (s ++ (wholeD s at').lack) at' = (t, (s ++ (wholeD s at').lack).size, 0, 0) := by
  by_cases h0 : at' < 0
  · unfold wholeD at h; rw [if_pos h0] at h; simp [badD] at h
  obtain ⟨k, rfl⟩ : ∃ k : Nat, at' = k := ⟨at'.toNat, by omega⟩
  cases hc : isN s k [91] with
  | false => rw [wholeD_no s k hc] at h; simp [badD] at h
  | true =>
    obtain ⟨h1, h2⟩ := (isN_one s k 91).1 hc
    have hw := wholeD_yes s k hc
    cases hd : isN s (k + 1) [94] with
    | false =>
      rw [if_pos hd] at hw
      rw [hw] at h ⊢
      obtain ⟨hz, H, hgo⟩ := loop_lack s (k + 1) s.size 0 (k + 1) (s.size + 1 - (k + 1)) _ (by omega) (Nat.le_refl _) (by omega) (by omega) h rfl
      have e : (loopD s (k + 1) (s.size + 1 - (k + 1)) 0 (k + 1)).lack = (thingsD s (k + 1)).lack := rfl
      rw [e] at hz H hgo
      generalize (thingsD s (k + 1)).lack = l at *
      have hg := goes_app s l hz.1
      have hle := hg.le
      refine ⟨hz, ?_⟩
      have hc' : isN (s ++ l) k [91] = true := by rw [hg.isN _ _ h1]; exact hc
      have hd' : isN (s ++ l) (k + 1) [94] = false := by
        by_cases h3 : k + 1 < s.size
        · rw [hg.isN _ _ h3]; exact hd
        · have : k + 1 = s.size := by omega
          rw [this]
          exact isN_93 _ _ _ (H.resolve_right (by omega)) (by decide)
      obtain ⟨t', ht⟩ := hgo ((s ++ l).size + 1 - (k + 1)) (by omega)
      refine ⟨t', ?_⟩
      rw [readD_of (s ++ l) k false (thingsD (s ++ l) (k + 1)) (by rw [wholeD_yes _ k hc', if_pos hd']; rfl), thingsD, ht]
      simp [finD, okD]
    | true =>
      obtain ⟨h3, _⟩ := (isN_one s (k + 1) 94).1 hd
      rw [if_neg (by rw [hd]; decide)] at hw
      rw [hw] at h ⊢
      simp only [negD] at h ⊢
      obtain ⟨hz, H, hgo⟩ := loop_lack s (k + 2) s.size 0 (k + 2) (s.size + 1 - (k + 2)) _ (by omega) (Nat.le_refl _) (by omega) (by omega) h rfl
      have e : (loopD s (k + 2) (s.size + 1 - (k + 2)) 0 (k + 2)).lack = (thingsD s (k + 2)).lack := rfl
      rw [e] at hz H hgo
      generalize (thingsD s (k + 2)).lack = l at *
      have hg := goes_app s l hz.1
      have hle := hg.le
      refine ⟨hz, ?_⟩
      have hc' : isN (s ++ l) k [91] = true := by rw [hg.isN _ _ h1]; exact hc
      have hd' : isN (s ++ l) (k + 1) [94] = true := by rw [hg.isN _ _ h3]; exact hd
      obtain ⟨t', ht⟩ := hgo ((s ++ l).size + 1 - (k + 2)) (by omega)
      refine ⟨~~~t', ?_⟩
      rw [readD_of (s ++ l) k true (thingsD (s ++ l) (k + 2)) (by rw [wholeD_yes _ k hc', if_neg (by rw [hd']; decide)]; rfl), thingsD, ht]
      simp [finD, okD]
end Go.Proofs.YtbccojjcdcighaaGreatDoor

namespace Go.Proofs.YtbccojjcdcighaaGreatDoor
open Go.RowKit Go.Shelf BS
def LackE (s : ByteArray) (at' : Int) (e : Nat) (l : ByteArray) : Prop :=
  (e ≠ 2 ∧ l = eT) ∨ (e = 2 ∧ 0 < l.size ∧ l.size ≤ 19 ∧ ∃ t, readR (s ++ l) at' = (t, s.size + l.size, 0, 0))
theorem lackE (s : ByteArray) (at' : Int) (t : BitVec 256) (p e k : Nat) (l : ByteArray) (h : readR s at' = (t, p, e, k)) (hl : (wholeD s at').lack = l) : LackE s at' e l := by
  have he : (wholeD s at').err = e := by
    have h1 := readD_eq s at'
    rw [h] at h1
    unfold readD at h1
    by_cases g : (wholeD s at').err ≠ 0
    · rw [if_pos g] at h1
      simp only [Prod.mk.injEq] at h1
      exact h1.2.2.1
    · rw [if_neg g] at h1
      simp only [Prod.mk.injEq] at h1
      have := h1.2.2.1
      omega
  by_cases h2 : e = 2
  · have := whole_lack s at' (by rw [he]; exact h2)
    rw [hl] at this
    obtain ⟨⟨h3, h4⟩, t', ht⟩ := this
    rw [readD_eq, ByteArray.size_append] at ht
    exact .inr ⟨h2, h3, h4, t', ht⟩
  · have := wholeD_lk s at' (by rw [he]; exact h2)
    rw [hl] at this
    exact .inl ⟨h2, this⟩
end Go.Proofs.YtbccojjcdcighaaGreatDoor

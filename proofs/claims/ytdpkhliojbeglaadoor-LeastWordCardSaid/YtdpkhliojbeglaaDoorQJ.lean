/- Texts put together: Tf Tg Th. -/
import Derived.Test.YtdpkhliojbeglaaDoorQI
import Derived.Test.YtdpkhliojbeglaaDoorQK
import Derived.Test.YtdpkhliojbeglaaDoorQE
import Derived.Outline
import Derived.Deep.DeepCutAuto
import Derived.BigQuiet
/- What a pattern's tree is as a term, plainly: its groups, its Stars and Maybes; Lower. Stage 11. -/
namespace Go.Proofs.YtdpkhliojbeglaaDoor
open Go.RowKit BS

/-! ### Groups -/
theorem in_jn (c : TT → TT → TT) (hc : ∀ a b n, inG (c a b) n → inG a n ∨ inG b n) (n : Int) : ∀ L : List TT, inG (jnT c L) n → ∃ t ∈ L, inG t n
  | [], h => h.elim
  | [t], h => ⟨t, List.mem_singleton.2 rfl, h⟩
  | t :: u :: L, h => by
    rw [jnT] at h
    · rcases hc _ _ _ h with h | h
      · exact ⟨t, List.mem_cons_self .., h⟩
      · obtain ⟨v, hv, h⟩ := in_jn c hc n (u :: L) h
        exact ⟨v, List.mem_cons_of_mem _ hv, h⟩
    · simp
theorem in_lk (one : TT) (n : Int) : ∀ k, inG (lkT one k) n → inG one n
  | 0, h => h.elim
  | 1, h => h
  | k + 2, h => by
    rw [lkT] at h
    · exact h.elim id (in_lk one n (k + 1))
    · omega
theorem in_all (one : TT) (many more n : Int) (t : TT) (ht : t ∈ allT one many more) (h : inG t n) : inG one n := by
  unfold allT at ht
  rcases List.mem_append.1 ht with ht | ht
  · rw [List.eq_of_mem_replicate ht] at h; exact h
  · split at ht
    · rw [List.mem_singleton] at ht; subst ht; exact h
    · split at ht
      · rw [List.mem_singleton] at ht; subst ht; exact in_lk one n _ h
      · simp at ht
theorem ok_jn (c : TT → TT → TT) (hc : ∀ a b, okG a → okG b → okG (c a b)) : ∀ L : List TT, (∀ t ∈ L, okG t) → okG (jnT c L)
  | [], _ => trivial
  | [t], h => h t (List.mem_singleton.2 rfl)
  | t :: u :: L, h => by
    rw [jnT]
    · exact hc _ _ (h t (List.mem_cons_self ..)) (ok_jn c hc (u :: L) fun v hv => h v (List.mem_cons_of_mem _ hv))
    · simp
theorem ok_lk (one : TT) (h : okG one) : ∀ k, okG (lkT one k)
  | 0 => trivial
  | 1 => h
  | k + 2 => by
    rw [lkT]
    · exact ⟨h, ok_lk one h (k + 1)⟩
    · omega
theorem okg_all (one : TT) (many more : Int) (h : okG one) (t : TT) (ht : t ∈ allT one many more) : okG t := by
  unfold allT at ht
  rcases List.mem_append.1 ht with ht | ht
  · rw [List.eq_of_mem_replicate ht]; exact h
  · split at ht
    · rw [List.mem_singleton] at ht; subst ht; exact h
    · split at ht
      · rw [List.mem_singleton] at ht; subst ht; exact ok_lk one h _
      · simp at ht
theorem nums_get (l : List NdN) (h : FormedN l) (i : Nat) (hi : i < l.length) : (numsR l).getD i 0 = (nuN l i : Int) := numsR_get l i (by rw [(formed_stack l h).2.2.1]; exact hi)
/-- A group of a node's term is a group of the tree's, at the node or ahead of it. -/
theorem tm_in (l : List NdN) (h : rightR l = true) : ∀ m i, i ≤ m → ∀ _ : i < l.length, ∀ n, inG (tmV l i) n → ∃ j, j ≤ i ∧ kdN l j = 3 ∧ (nuN l j : Int) = n := by
  intro m
  induction m with
  | zero => exact fun i him hi => tm_in' i hi (fun x hx => by omega)
  | succ m ih => exact fun i him hi => tm_in' i hi (fun x hx hxl => ih x (by omega) hxl)
where
  tm_in' (i : Nat) (hi : i < l.length) (ih : ∀ x, x < i → ∀ _ : x < l.length, ∀ n, inG (tmV l x) n → ∃ j, j ≤ x ∧ kdN l j = 3 ∧ (nuN l j : Int) = n) (n : Int) (hn : inG (tmV l i) n) : ∃ j, j ≤ i ∧ kdN l j = 3 ∧ (nuN l j : Int) = n := by
    have hf := right_formed l h
    have step : ∀ x : Nat, x < i → inG (tmV l x) n → ∃ j, j ≤ i ∧ kdN l j = 3 ∧ (nuN l j : Int) = n := fun x hx hxn => by
      obtain ⟨j, h1, h2⟩ := ih x hx (by omega) n hxn
      exact ⟨j, by omega, h2⟩
    rcases node_right l h i hi with ⟨hk, hK⟩ | ⟨hk, hK⟩ | ⟨a, hk, hK, ha⟩ | ⟨a, hk, hK, ha, hr⟩ | ⟨hk, hK⟩
    · rw [tm_eps l h i hi (.inl hk)] at hn; exact hn.elim
    · rw [tm_leaf l h i hi hk] at hn; exact hn.elim
    · rw [tm_grp l h i hi hk a hK] at hn
      rcases hn with hn | hn
      · exact ⟨i, Nat.le_refl _, by rw [kdN_get l i hi]; exact hk, by rw [hn, nums_get l hf i hi]⟩
      · exact step a ha hn
    · by_cases hm : l[i].m = 0
      · rw [tm_eps l h i hi (.inr ⟨hk, hm⟩)] at hn; exact hn.elim
      · rw [tm_rep l h i hi hk hm a hK] at hn
        obtain ⟨t, ht, hn⟩ := in_jn .cat (fun _ _ _ h => h) n _ hn
        exact step a ha (in_all (.iter (tmV l a)) _ _ _ t ht hn)
    · have : ∃ t ∈ (kidsR l i).map (fun k => tmV l k.toNat), inG t n := by
        rcases hk with hk | hk
        · rw [tm_cat l h i hi hk] at hn
          exact in_jn .cat (fun _ _ _ h => h) n _ hn
        · rw [tm_alt l h i hi hk] at hn
          exact in_jn .alt (fun _ _ _ h => h) n _ hn
      obtain ⟨t, ht, hn⟩ := this
      obtain ⟨x, hx, rfl⟩ := List.mem_map.1 ht
      obtain ⟨h1, h2⟩ := kid_lt l hf i hi x hx
      exact step x.toNat (by omega) hn
theorem nu_inj (l : List NdN) (h : FormedN l) (i j : Nat) (hi : i < l.length) (hj : j < l.length) (ki : kdN l i = 3) (kj : kdN l j = 3) (e : nuN l i = nuN l j) : i = j := by
  have hs := (formed_stack l h).2.2.1
  unfold nuN numF at e
  rw [if_pos ki, if_pos kj, hs] at e
  exact rank_inj (leF (fiN l)) (leF_total (fiN l)) (grpF (kdN l) l.length) i j ((grp_mem _ _ _).2 ⟨hi, ki⟩) ((grp_mem _ _ _).2 ⟨hj, kj⟩) e
theorem nu_nine (l : List NdN) (h : rightR l = true) (i : Nat) (hi : i < l.length) (ki : kdN l i = 3) : 1 ≤ nuN l i ∧ nuN l i ≤ 9 ∧ nuN l i ≤ grpN l l.length := by
  obtain ⟨hf, _, _, h9⟩ := (rightR_iff l).1 h
  have hs := (formed_stack l hf).2.2.1
  have h1 := (nuN_pos l i (by rw [hs]; exact hi)).2 ki
  have h2 := nuN_le l i
  rw [hs] at h2
  have h3 := grpN_count l
  omega
theorem tm_ok (l : List NdN) (h : rightR l = true) : ∀ m i, i ≤ m → ∀ _ : i < l.length, okG (tmV l i) := by
  intro m
  induction m with
  | zero => exact fun i him hi => tm_ok' i hi (fun x hx => by omega)
  | succ m ih => exact fun i him hi => tm_ok' i hi (fun x hx hxl => ih x (by omega) hxl)
where
  tm_ok' (i : Nat) (hi : i < l.length) (ih : ∀ x, x < i → ∀ _ : x < l.length, okG (tmV l x)) : okG (tmV l i) := by
    have hf := right_formed l h
    rcases node_right l h i hi with ⟨hk, hK⟩ | ⟨hk, hK⟩ | ⟨a, hk, hK, ha⟩ | ⟨a, hk, hK, ha, hr⟩ | ⟨hk, hK⟩
    · rw [tm_eps l h i hi (.inl hk)]; exact trivial
    · rw [tm_leaf l h i hi hk]; exact trivial
    · rw [tm_grp l h i hi hk a hK, nums_get l hf i hi]
      have ki : kdN l i = 3 := by rw [kdN_get l i hi]; exact hk
      obtain ⟨h1, h2, _⟩ := nu_nine l h i hi ki
      refine ⟨⟨by omega, by omega, fun hin => ?_⟩, ih a ha (by omega)⟩
      obtain ⟨j, hj, kj, e⟩ := tm_in l h a a (Nat.le_refl _) (by omega) _ hin
      have := nu_inj l hf i j hi (by omega) ki kj (by omega)
      omega
    · by_cases hm : l[i].m = 0
      · rw [tm_eps l h i hi (.inr ⟨hk, hm⟩)]; exact trivial
      · rw [tm_rep l h i hi hk hm a hK]
        exact ok_jn .cat (fun _ _ h1 h2 => ⟨h1, h2⟩) _ fun t ht => okg_all (.iter (tmV l a)) _ _ (ih a ha (by omega)) t ht
    · have hall : ∀ t ∈ (kidsR l i).map (fun k => tmV l k.toNat), okG t := fun t ht => by
        obtain ⟨x, hx, rfl⟩ := List.mem_map.1 ht
        obtain ⟨h1, h2⟩ := kid_lt l hf i hi x hx
        exact ih x.toNat (by omega) (by omega)
      rcases hk with hk | hk
      · rw [tm_cat l h i hi hk]; exact ok_jn .cat (fun _ _ h1 h2 => ⟨h1, h2⟩) _ hall
      · rw [tm_alt l h i hi hk]; exact ok_jn .alt (fun _ _ h1 h2 => ⟨h1, h2⟩) _ hall
/-! ### Stars and Maybes -/
def isI : TT → Prop
  | .iter _ => True
  | _ => False
def isC : TT → Prop
  | .cat a _ => isI a
  | _ => False
def okS : TT → Prop
  | .eps => True
  | .leaf _ => True
  | .cat a b => okS a ∧ okS b
  | .alt a b => okS a ∧ okS b
  | .star a => isI a ∧ okS a
  | .maybe a => (isI a ∨ isC a) ∧ okS a
  | .grp _ a => okS a
  | .iter a => okS a
theorem os_jn (c : TT → TT → TT) (hc : ∀ a b, okS a → okS b → okS (c a b)) : ∀ L : List TT, (∀ t ∈ L, okS t) → okS (jnT c L)
  | [], _ => trivial
  | [t], h => h t (List.mem_singleton.2 rfl)
  | t :: u :: L, h => by
    rw [jnT]
    · exact hc _ _ (h t (List.mem_cons_self ..)) (os_jn c hc (u :: L) fun v hv => h v (List.mem_cons_of_mem _ hv))
    · simp
theorem os_lk (one : TT) (hi : isI one) (h : okS one) : ∀ k, okS (lkT one k)
  | 0 => trivial
  | 1 => ⟨.inl hi, h⟩
  | k + 2 => by
    rw [lkT]
    · exact ⟨.inr hi, h, os_lk one hi h (k + 1)⟩
    · omega
theorem os_all (one : TT) (many more : Int) (hi : isI one) (h : okS one) (t : TT) (ht : t ∈ allT one many more) : okS t := by
  unfold allT at ht
  rcases List.mem_append.1 ht with ht | ht
  · rw [List.eq_of_mem_replicate ht]; exact h
  · split at ht
    · rw [List.mem_singleton] at ht; subst ht; exact ⟨hi, h⟩
    · split at ht
      · rw [List.mem_singleton] at ht; subst ht; exact os_lk one hi h _
      · simp at ht
theorem tm_os (l : List NdN) (h : rightR l = true) : ∀ m i, i ≤ m → ∀ _ : i < l.length, okS (tmV l i) := by
  intro m
  induction m with
  | zero => exact fun i him hi => tm_os' i hi (fun x hx => by omega)
  | succ m ih => exact fun i him hi => tm_os' i hi (fun x hx hxl => ih x (by omega) hxl)
where
  tm_os' (i : Nat) (hi : i < l.length) (ih : ∀ x, x < i → ∀ _ : x < l.length, okS (tmV l x)) : okS (tmV l i) := by
    have hf := right_formed l h
    rcases node_right l h i hi with ⟨hk, hK⟩ | ⟨hk, hK⟩ | ⟨a, hk, hK, ha⟩ | ⟨a, hk, hK, ha, hr⟩ | ⟨hk, hK⟩
    · rw [tm_eps l h i hi (.inl hk)]; exact trivial
    · rw [tm_leaf l h i hi hk]; exact trivial
    · rw [tm_grp l h i hi hk a hK]
      exact ih a ha (by omega)
    · by_cases hm : l[i].m = 0
      · rw [tm_eps l h i hi (.inr ⟨hk, hm⟩)]; exact trivial
      · rw [tm_rep l h i hi hk hm a hK]
        exact os_jn .cat (fun _ _ h1 h2 => ⟨h1, h2⟩) _ fun t ht => os_all (.iter (tmV l a)) _ _ trivial (ih a ha (by omega)) t ht
    · have hall : ∀ t ∈ (kidsR l i).map (fun k => tmV l k.toNat), okS t := fun t ht => by
        obtain ⟨x, hx, rfl⟩ := List.mem_map.1 ht
        obtain ⟨h1, h2⟩ := kid_lt l hf i hi x hx
        exact ih x.toNat (by omega) (by omega)
      rcases hk with hk | hk
      · rw [tm_cat l h i hi hk]; exact os_jn .cat (fun _ _ h1 h2 => ⟨h1, h2⟩) _ hall
      · rw [tm_alt l h i hi hk]; exact os_jn .alt (fun _ _ h1 h2 => ⟨h1, h2⟩) _ hall
/-- What a list says of its Stars and Maybes. -/
def SMn (L : List NdN) (i : Nat) : Prop := ∀ x, L[i]? = some x →
  (x.kind = 5 → ∃ (a : Nat) (y : NdN), x.kids = a ∧ L[a]? = some y ∧ y.kind = 8) ∧
  (x.kind = 6 → ∃ (a : Nat) (y : NdN), x.kids = a ∧ L[a]? = some y ∧ (y.kind = 8 ∨ (y.kind = 3 ∧ ∃ (b : Nat) (z : NdN), y.kids = b ∧ L[b]? = some z ∧ z.kind = 8)))
theorem sm_left (L M : List NdN) (i : Nat) (hi : i < L.length) (h : SMn L i) : SMn (L ++ M) i := fun x hx => by
  rw [List.getElem?_append_left hi] at hx
  have up : ∀ (a : Nat) (y : NdN), L[a]? = some y → (L ++ M)[a]? = some y := fun a y hy => by
    rw [List.getElem?_append_left (List.getElem?_eq_some_iff.1 hy).1]; exact hy
  obtain ⟨h1, h2⟩ := h x hx
  constructor
  · intro h5
    obtain ⟨a, y, e1, e2, e3⟩ := h1 h5
    exact ⟨a, y, e1, up a y e2, e3⟩
  · intro h6
    obtain ⟨a, y, e1, e2, e3⟩ := h2 h6
    exact ⟨a, y, e1, up a y e2, e3.imp id fun ⟨e4, b, z, e5, e6, e7⟩ => ⟨e4, b, z, e5, up b z e6, e7⟩⟩
theorem sm_right (L M : List NdN) (j : Nat) (h : SMn M j) : SMn (L ++ M.map (shN L.length)) (L.length + j) := fun x hx => by
  have up : ∀ (a : Nat) (y : NdN), M[a]? = some y → (L ++ M.map (shN L.length))[L.length + a]? = some (shN L.length y) := fun a y hy => by
    rw [List.getElem?_append_right (by omega), Nat.add_sub_cancel_left, List.getElem?_map, hy]; rfl
  rw [List.getElem?_append_right (by omega), Nat.add_sub_cancel_left, List.getElem?_map] at hx
  obtain ⟨x0, hx0, rfl⟩ := Option.map_eq_some_iff.1 hx
  obtain ⟨h1, h2⟩ := h x0 hx0
  have ek : ∀ (y : NdN) (a : Nat), y.kids = a → (shN L.length y).kids = ((L.length + a : Nat) : Int) := fun y a e => by
    show (if 0 ≤ y.kids then y.kids + (L.length : Int) else y.kids) = _
    rw [if_pos (by omega)]; omega
  constructor
  · intro h5
    obtain ⟨a, y, e1, e2, e3⟩ := h1 h5
    exact ⟨L.length + a, _, ek x0 a e1, up a y e2, e3⟩
  · intro h6
    obtain ⟨a, y, e1, e2, e3⟩ := h2 h6
    exact ⟨L.length + a, _, ek x0 a e1, up a y e2, e3.imp id fun ⟨e4, b, z, e5, e6, e7⟩ => ⟨e4, L.length + b, _, ek y b e5, up b z e6, e7⟩⟩
/-- The last node of a tree's list. -/
theorem enc_last (t : TT) : ∃ x, (enc t)[(enc t).length - 1]? = some x ∧ (isI t → x.kind = 8) ∧ (isC t → x.kind = 3 ∧ ∃ (b : Nat) (z : NdN), x.kids = b ∧ (enc t)[b]? = some z ∧ z.kind = 8) := by
  have hj : ∀ (a b : List NdN) (k : Int), (joinT a b k)[(joinT a b k).length - 1]? = some ⟨k, (a.length : Int) - 1, (a.length : Int) + b.length - 1, 0, 0⟩ := fun a b k => by
    rw [joinT_len, Nat.add_sub_cancel, List.getElem?_eq_getElem (by rw [joinT_len]; omega), joinT_r]
  have hu : ∀ (a : List NdN) (k n : Int), (unT a k n)[(unT a k n).length - 1]? = some ⟨k, (a.length : Int) - 1, -1, n, 0⟩ := fun a k n => by
    rw [unT_len, Nat.add_sub_cancel]
    unfold unT
    rw [List.getElem?_append_right (Nat.le_refl _), Nat.sub_self]; rfl
  cases t with
  | eps => exact ⟨_, rfl, fun h => h.elim, fun h => h.elim⟩
  | leaf s => exact ⟨_, rfl, fun h => h.elim, fun h => h.elim⟩
  | cat a b =>
    refine ⟨_, hj _ _ _, fun h => h.elim, fun h => ⟨rfl, (enc a).length - 1, ?_⟩⟩
    cases a with
    | iter c =>
      have hp := enc_ne (.iter c)
      have hl : 0 < (enc (.iter c)).length := List.length_pos_iff.2 hp
      refine ⟨⟨8, ((enc c).length : Int) - 1, -1, 0, 0⟩, by show ((enc (.iter c)).length : Int) - 1 = _; omega, ?_, rfl⟩
      show (joinT (enc (.iter c)) (enc b) 3)[_]? = _
      rw [List.getElem?_eq_getElem (by rw [joinT_len]; omega), joinT_a _ _ _ _ (by omega), ← List.getElem?_eq_getElem (by omega)]
      exact hu (enc c) 8 0
    | _ => exact h.elim
  | alt a b => exact ⟨_, hj _ _ _, fun h => h.elim, fun h => h.elim⟩
  | star a => exact ⟨_, hu _ _ _, fun h => h.elim, fun h => h.elim⟩
  | maybe a => exact ⟨_, hu _ _ _, fun h => h.elim, fun h => h.elim⟩
  | grp n a => exact ⟨_, hu _ _ _, fun h => h.elim, fun h => h.elim⟩
  | iter a => exact ⟨_, hu _ _ _, fun _ => rfl, fun h => h.elim⟩
theorem sm_join (a b : List NdN) (k : Int) (hk : k ≠ 5 ∧ k ≠ 6) (ha : ∀ i, i < a.length → SMn a i) (hb : ∀ i, i < b.length → SMn b i) : ∀ i, i < (joinT a b k).length → SMn (joinT a b k) i := fun i hi => by
  rw [joinT_len] at hi
  unfold joinT
  rcases Nat.lt_or_ge i (a.length + b.length) with h1 | h1
  · refine sm_left _ _ i (by simp; omega) ?_
    rcases Nat.lt_or_ge i a.length with h2 | h2
    · exact sm_left _ _ i h2 (ha i h2)
    · obtain ⟨j, rfl⟩ : ∃ j, i = a.length + j := ⟨i - a.length, by omega⟩
      exact sm_right a b j (hb j (by omega))
  · intro x hx
    have e : i = (a ++ b.map (shN a.length)).length := by simp; omega
    rw [e, List.getElem?_append_right (Nat.le_refl _), Nat.sub_self] at hx
    cases hx
    exact ⟨fun h => absurd h hk.1, fun h => absurd h hk.2⟩
theorem sm_un (a : List NdN) (k n : Int) (ha : ∀ i, i < a.length → SMn a i) (hl : SMn (unT a k n) a.length) : ∀ i, i < (unT a k n).length → SMn (unT a k n) i := fun i hi => by
  rw [unT_len] at hi
  rcases Nat.lt_or_ge i a.length with h1 | h1
  · exact sm_left _ _ i h1 (ha i h1)
  · obtain rfl : i = a.length := by omega
    exact hl
theorem enc_sm : ∀ t, okS t → ∀ i, i < (enc t).length → SMn (enc t) i
  | .eps, _ => fun i hi x hx => by
    obtain rfl : i = 0 := by have : i < 1 := hi; omega
    cases hx
    exact ⟨fun h => absurd h (by decide), fun h => absurd h (by decide)⟩
  | .leaf s, _ => fun i hi x hx => by
    obtain rfl : i = 0 := by have : i < 1 := hi; omega
    cases hx
    exact ⟨fun h => absurd (show (2 : Int) = 5 from h) (by decide), fun h => absurd (show (2 : Int) = 6 from h) (by decide)⟩
  | .cat a b, h => sm_join _ _ 3 (by decide) (enc_sm a h.1) (enc_sm b h.2)
  | .alt a b, h => sm_join _ _ 4 (by decide) (enc_sm a h.1) (enc_sm b h.2)
  | .star a, h => sm_un _ 5 0 (enc_sm a h.2) (lastP a 5 0 (fun x hl => ⟨fun _ => hl.1 h.1, fun h6 => absurd h6 (by decide)⟩))
  | .maybe a, h => sm_un _ 6 0 (enc_sm a h.2) (lastP a 6 0 (fun x hl => ⟨fun h5 => absurd h5 (by decide), fun _ => h.1.elim (fun hi => .inl (hl.1 hi)) (fun hc => .inr (hl.2 hc))⟩))
  | .grp n a, h => sm_un _ 7 n (enc_sm a h) (lastP a 7 n (fun x hl => ⟨fun h5 => absurd h5 (by decide), fun h6 => absurd h6 (by decide)⟩))
  | .iter a, h => sm_un _ 8 0 (enc_sm a h) (lastP a 8 0 (fun x hl => ⟨fun h5 => absurd h5 (by decide), fun h6 => absurd h6 (by decide)⟩))
where
  lastP (a : TT) (k n : Int) (hh : ∀ x : NdN, ((isI a → x.kind = 8) ∧ (isC a → x.kind = 3 ∧ ∃ (b : Nat) (z : NdN), x.kids = b ∧ (enc a)[b]? = some z ∧ z.kind = 8)) → (k = 5 → x.kind = 8) ∧ (k = 6 → x.kind = 8 ∨ (x.kind = 3 ∧ ∃ (b : Nat) (z : NdN), x.kids = b ∧ (enc a)[b]? = some z ∧ z.kind = 8))) : SMn (unT (enc a) k n) (enc a).length := fun y hy => by
    unfold unT at hy ⊢
    rw [List.getElem?_append_right (Nat.le_refl _), Nat.sub_self] at hy
    cases hy
    obtain ⟨x, hx, hI, hC⟩ := enc_last a
    have hp : 0 < (enc a).length := List.length_pos_iff.2 (enc_ne a)
    obtain ⟨g5, g6⟩ := hh x ⟨hI, hC⟩
    have up : ∀ (b : Nat) (y : NdN), (enc a)[b]? = some y → (enc a ++ [(⟨k, ((enc a).length : Int) - 1, -1, n, 0⟩ : NdN)])[b]? = some y := fun b y hy => by
      rw [List.getElem?_append_left (List.getElem?_eq_some_iff.1 hy).1]; exact hy
    constructor
    · intro h5
      exact ⟨(enc a).length - 1, x, by show ((enc a).length : Int) - 1 = _; omega, up _ _ hx, g5 h5⟩
    · intro h6
      refine ⟨(enc a).length - 1, x, by show ((enc a).length : Int) - 1 = _; omega, up _ _ hx, (g6 h6).imp id ?_⟩
      rintro ⟨e1, b, z, e2, e3, e4⟩
      exact ⟨e1, b, z, e2, up b z e3, e4⟩
/-! ### Lower -/
def rootS (l : List NdN) : Nat := szV l (l.length - 1)
def rootL (l : List NdN) : Nat := lvV l (l.length - 1)
/-- The size that is told. -/
def sizeN (l : List NdN) : Nat := if rightR l = true then mn (rootS l) else 0
def sizeL (l : List NdN) : Nat := if rightR l = true then mn (rootL l) else 0
def largeB (l : List NdN) (terms places : Int) : Bool := decide (min terms 400 < (sizeN l : Int)) || (decide (min places 64 < (sizeL l : Int)) && decide (0 < sizeL l))
def lwE (l : List NdN) (terms places : Int) : Nat := if rightR l = true then (if largeB l terms places = true then 10 else 0) else 11
def lwT (l : List NdN) (terms places : Int) : List NdN := if lwE l terms places = 0 then enc (tmV l (l.length - 1)) else []
theorem lw_zero (l : List NdN) (t p : Int) (h : lwE l t p = 0) : rightR l = true ∧ rootS l ≤ 400 ∧ rootL l ≤ 64 ∧ lwT l t p = enc (tmV l (l.length - 1)) := by
  refine ⟨?_, ?_, ?_, if_pos h⟩ <;> unfold lwE at h <;> split at h
  · assumption
  · cases h
  all_goals first | cases h | skip
  all_goals
    rename_i hr
    split at h
    · cases h
    · rename_i hl
      unfold largeB sizeN sizeL mn at hl
      rw [if_pos hr, if_pos hr] at hl
      simp only [Bool.or_eq_true, Bool.and_eq_true, decide_eq_true_eq] at hl
      omega
/-- **What is made is a term.** -/
theorem lw_right (l : List NdN) (t p : Int) (h : lwE l t p = 0) : rightT (lwT l t p) = true ∧ (lwT l t p).length = rootS l ∧ lfT (lwT l t p) = rootL l ∧ (∀ i, i < (lwT l t p).length → SMn (lwT l t p) i) ∧ topL (lwT l t p) ≤ grpN l l.length := by
  obtain ⟨hr, hs, hl, e⟩ := lw_zero l t p h
  have hp := formed_pos l (right_formed l hr)
  rw [e]
  have hok := tm_ok l hr (l.length - 1) (l.length - 1) (Nat.le_refl _) (by omega)
  refine ⟨q_right _ (enc_q _ hok hs hl), enc_len _, enc_lf _, enc_sm _ (tm_os l hr (l.length - 1) (l.length - 1) (Nat.le_refl _) (by omega)), ?_⟩
  rcases (topL_spec (enc (tmV l (l.length - 1)))).2 with h0 | ⟨_, _, hg⟩
  · omega
  · have hin := (enc_grp _ _).1 ((hasG_all _ _).1 hg)
    obtain ⟨j, hj, kj, ej⟩ := tm_in l hr (l.length - 1) (l.length - 1) (Nat.le_refl _) (by omega) _ hin
    have := (nu_nine l hr j (by omega) kj).2.2
    omega
end Go.Proofs.YtdpkhliojbeglaaDoor

/- What a pattern's tree is as a term, plainly: of two trees in an Alt. Stage 11. -/
namespace Go.Proofs.YtdpkhliojbeglaaDoor
open Go.RowKit BS

/-- Two trees, and an Alt above. -/
def altL (l m : List NdN) : List NdN := l ++ m ++ [ndL]
theorem altL_len (l m : List NdN) : (altL l m).length = l.length + m.length + 1 := by simp [altL]; omega
theorem altL_a (l m : List NdN) (i : Nat) (h : i < l.length) : (altL l m)[i]'(by rw [altL_len]; omega) = l[i] := by
  unfold altL
  rw [List.getElem_append_left (by simp; omega), List.getElem_append_left h]
theorem altL_b (l m : List NdN) (j : Nat) (h : j < m.length) : (altL l m)[l.length + j]'(by rw [altL_len]; omega) = m[j] := by
  unfold altL
  rw [List.getElem_append_left (by simp; omega), List.getElem_append_right (by omega)]
  simp
theorem altL_r (l m : List NdN) : (altL l m)[l.length + m.length]'(by rw [altL_len]; omega) = ndL := by
  unfold altL
  rw [List.getElem_append_right (by simp)]
  simp
theorem ks_alt (l m : List NdN) : ksN (altL l m) = ksN l ++ ksN m ++ [2] := by
  unfold altL
  rw [ksN_app, ksN_app]
  rfl
theorem kids_of (l : List NdN) (h : FormedN l) (i : Nat) (hi : i < l.length) (s : List Nat) (hs : stackF [] ((ksN l).take i) = some s) (k : Nat) (hk : (ksN l)[i]? = some k) : kidsR l i = (((posF i s).take k).reverse).map (fun x : Nat => (x : Int)) := by
  have hlk : i < (ksN l).length := (List.getElem?_eq_some_iff.1 hk).1
  unfold kidsR
  rw [if_pos ⟨h, by omega, by omega⟩, show (i : Int).toNat = i from rfl, allKids_at (ksN l) i hlk s hs, Option.getD_some, (List.getElem?_eq_some_iff.1 hk).2]
theorem posF_add (d : Nat) : ∀ (s t : List Nat) (j k : Nat), (∀ z ∈ s, 0 < z) → s.sum ≤ j → k ≤ s.length → (posF (d + j) (s ++ t)).take k = ((posF j s).take k).map (d + ·)
  | s, t, j, 0, _, _, _ => by simp
  | [], t, j, k + 1, _, _, h => by simp at h
  | z :: s, t, j, k + 1, hp, hs, hk => by
    have hz := hp z (List.mem_cons_self ..)
    simp only [List.sum_cons] at hs
    simp only [List.cons_append, posF, List.take_succ_cons, List.map_cons]
    have e : d + j - z = d + (j - z) := by omega
    rw [e, posF_add d s t (j - z) k (fun y hy => hp y (List.mem_cons_of_mem _ hy)) (by omega) (by simpa using hk)]
    congr 1
    omega
theorem kids_altA (l m : List NdN) (hl : FormedN l) (hm : FormedN m) (i : Nat) (hi : i < l.length) : kidsR (altL l m) i = kidsR l i := by
  obtain ⟨hst, hlen, _⟩ := formed_stack l hl
  have hlk : i < (ksN l).length := by omega
  obtain ⟨s, hs, _, _⟩ := stack_at (ksN l) [] _ hst i hlk
  rw [kids_of l hl i hi s hs _ (List.getElem?_eq_getElem hlk), kids_of (altL l m) (formed_two l m hl hm) i (by rw [altL_len]; omega) s ?_ _ ?_]
  · rw [ks_alt, List.take_append_of_le_length (by simp; omega), List.take_append_of_le_length (by omega)]; exact hs
  · rw [ks_alt, List.getElem?_append_left (by simp; omega), List.getElem?_append_left hlk, List.getElem?_eq_getElem hlk]
theorem kids_altB (l m : List NdN) (hl : FormedN l) (hm : FormedN m) (j : Nat) (hj : j < m.length) : kidsR (altL l m) ((l.length + j : Nat) : Int) = (kidsR m j).map fun x => (l.length : Int) + x := by
  obtain ⟨hsl, hll, _⟩ := formed_stack l hl
  obtain ⟨hsm, hlm, _⟩ := formed_stack m hm
  have hlk : j < (ksN m).length := by omega
  obtain ⟨s, hs, hks, _⟩ := stack_at (ksN m) [] _ hsm j hlk
  have hpos := stackF_pos ((ksN m).take j) [] s (by simp) hs
  have hsum := stackF_sum _ _ _ hs
  rw [List.length_take] at hsum
  simp only [List.sum_nil, Nat.zero_add] at hsum
  rw [kids_of m hm j hj s hs _ (List.getElem?_eq_getElem hlk), kids_of (altL l m) (formed_two l m hl hm) (l.length + j) (by rw [altL_len]; omega) (s ++ [l.length]) ?_ (ksN m)[j] ?_]
  · rw [posF_add l.length s _ j _ hpos (by omega) hks, List.map_reverse, List.map_reverse, List.map_reverse, List.map_map, List.map_map]
    congr 1
  · rw [ks_alt, List.take_append_of_le_length (by simp; omega), show l.length + j = (ksN l).length + j by omega, List.take_length_add_append, stackF_append, hsl]
    have := stackF_below [l.length] ((ksN m).take j) [] _ hs
    simpa using this
  · rw [ks_alt, List.getElem?_append_left (by simp; omega), List.getElem?_append_right (by omega), hll, Nat.add_sub_cancel_left, List.getElem?_eq_getElem hlk]
theorem kids_altR (l m : List NdN) (hl : FormedN l) (hm : FormedN m) : kidsR (altL l m) ((l.length + m.length : Nat) : Int) = [(l.length : Int) - 1, (l.length : Int) + m.length - 1] := by
  obtain ⟨hsl, hll, _⟩ := formed_stack l hl
  obtain ⟨hsm, hlm, _⟩ := formed_stack m hm
  have h1 := formed_pos l hl
  have h2 := formed_pos m hm
  rw [kids_of (altL l m) (formed_two l m hl hm) (l.length + m.length) (by rw [altL_len]; omega) [m.length, l.length] ?_ 2 ?_]
  · simp only [posF, List.take_succ_cons, List.take_zero, List.reverse_cons, List.reverse_nil, List.nil_append, List.cons_append, List.map_cons, List.map_nil]
    rw [show ((l.length + m.length - m.length - 1 : Nat) : Int) = (l.length : Int) - 1 by omega, show ((l.length + m.length - 1 : Nat) : Int) = (l.length : Int) + m.length - 1 by omega]
  · rw [ks_alt, List.take_append_of_le_length (by simp; omega), List.take_of_length_le (by simp; omega), stackF_append, hsl]
    have := stackF_below [l.length] (ksN m) [] _ hsm
    simpa using this
  · rw [ks_alt, List.getElem?_append_right (by simp; omega)]
    simp [hll, hlm]
/-! ### What may be nothing, and how great -/
theorem size_full (l : List NdN) (h : rightR l = true) (i : Nat) (hi : i < l.length) :
    szE l[i] (kidsR l i).length (smN (szV l) (kidsR l i)) (smN (lvV l) (kidsR l i)) (nulV l ((kidsR l i).headD 0).toNat) = (szV l i, lvV l i) := by
  rcases node_right l h i hi with ⟨hk, hK⟩ | ⟨hk, hK⟩ | ⟨a, hk, hK, ha⟩ | ⟨a, hk, hK, ha, hr⟩ | ⟨hk, hK⟩
  · have e := tm_eps l h i hi (.inl hk)
    unfold szE szV lvV
    rw [if_pos hk, e, hK]
    rfl
  · have e := tm_leaf l h i hi hk
    unfold szE szV lvV
    rw [if_neg (by omega), if_pos hk, e]
    rfl
  · have e := tm_grp l h i hi hk a hK
    unfold szE szV lvV
    rw [if_neg (by omega), if_neg (by omega), if_pos hk, e, hK]
    simp [smN, szT, lvT]
  · by_cases hm : l[i].m = 0
    · have e := tm_eps l h i hi (.inr ⟨hk, hm⟩)
      unfold szE szV lvV
      rw [if_neg (by omega), if_neg (by omega), if_neg (by omega), if_neg (by omega), if_pos hm, e]
      rfl
    · have e := tm_rep l h i hi hk hm a hK
      obtain ⟨many, hc1, hmb, hc2⟩ := cp_bounds l[i] (nulV l a) hr hm
      unfold szE szV lvV
      rw [if_neg (by omega), if_neg (by omega), if_neg (by omega), if_neg (by omega), if_neg hm, e, hK]
      have e1 : smN (fun i => szT (tmV l i)) [(a : Int)] = szT (tmV l a) := by simp [smN]
      have e2 : smN (fun i => lvT (tmV l i)) [(a : Int)] = lvT (tmV l a) := by simp [smN]
      rw [e1, e2, show ([(a : Int)].headD 0).toNat = a from rfl, hc1]
      generalize (cpN l[i] (nulV l a)).2 = more at *
      have hcc : more = -1 ∨ ∃ k : Nat, more = k ∧ 0 < many + k := hc2.imp id (fun ⟨k, h1, _, h3⟩ => ⟨k, h1, h3⟩)
      rw [rep_sz _ many more hcc, rep_lv _ many more hcc]
      simp only [Int.toNat_natCast, szT, lvT]
      by_cases hm1 : more = -1
      · rw [if_pos hm1, if_pos hm1, if_pos hm1]
      · rw [if_neg hm1, if_neg hm1, if_neg hm1]
  · have hne : (kidsR l i).map (fun k => tmV l k.toNat) ≠ [] := by intro h; have := congrArg List.length h; simp at this; rw [this] at hK; simp at hK
    have e1 : szT (tmV l i) = smN (szV l) (kidsR l i) + ((kidsR l i).length - 1) := by
      rcases hk with hk | hk
      · rw [tm_cat l h i hi hk, jn_sz .cat (fun _ _ => rfl) _ hne, sum_kids, List.length_map]; rfl
      · rw [tm_alt l h i hi hk, jn_sz .alt (fun _ _ => rfl) _ hne, sum_kids, List.length_map]; rfl
    have e2 : lvT (tmV l i) = smN (lvV l) (kidsR l i) := by
      rcases hk with hk | hk
      · rw [tm_cat l h i hi hk, jn_lv .cat (fun _ _ => rfl), sum_kids]; rfl
      · rw [tm_alt l h i hi hk, jn_lv .alt (fun _ _ => rfl), sum_kids]; rfl
    unfold szE
    rw [if_neg (by omega), if_neg (by omega), if_neg (by omega), if_pos hk]
    unfold szV at e1 ⊢
    unfold lvV at e2 ⊢
    rw [e1, e2]
    congr 1
    omega
theorem nl_get (l l' : List NdN) (i i' : Nat) (hi : i < l.length) (hi' : i' < l'.length) (e : l[i] = l'[i']) (ks : List Bool) : nlN l i ks = nlN l' i' ks := by
  unfold nlN
  rw [getD_z l i hi, getD_z l' i' hi', e]
/-- In an Alt of two trees the first one's nodes are what they were. -/
theorem altA (l m : List NdN) (hl : rightR l = true) (hm : rightR m = true) (hJ : rightR (altL l m) = true) : ∀ n i, i ≤ n → i < l.length → nulV (altL l m) i = nulV l i ∧ szV (altL l m) i = szV l i ∧ lvV (altL l m) i = lvV l i := by
  have fl := right_formed l hl
  have fm := right_formed m hm
  have fJ := right_formed _ hJ
  have main : ∀ i (hi : i < l.length), (∀ x, x < i → nulV (altL l m) x = nulV l x ∧ szV (altL l m) x = szV l x ∧ lvV (altL l m) x = lvV l x) → nulV (altL l m) i = nulV l i ∧ szV (altL l m) i = szV l i ∧ lvV (altL l m) i = lvV l i := fun i hi ih => by
    have hiJ : i < (altL l m).length := by rw [altL_len]; omega
    have hk := kids_altA l m fl fm i hi
    have hx := altL_a l m i hi
    have hlt := kid_lt l fl i hi
    have e1 : (kidsR l i).map (fun k => nulV (altL l m) k.toNat) = (kidsR l i).map (fun k => nulV l k.toNat) := List.map_congr_left fun k hk => by
      obtain ⟨h1, h2⟩ := hlt k hk
      exact (ih k.toNat (by omega)).1
    have e2 : smN (szV (altL l m)) (kidsR l i) = smN (szV l) (kidsR l i) := by
      unfold smN
      congr 1
      exact List.map_congr_left fun k hk => by
        obtain ⟨h1, h2⟩ := hlt k hk
        exact (ih k.toNat (by omega)).2.1
    have e3 : smN (lvV (altL l m)) (kidsR l i) = smN (lvV l) (kidsR l i) := by
      unfold smN
      congr 1
      exact List.map_congr_left fun k hk => by
        obtain ⟨h1, h2⟩ := hlt k hk
        exact (ih k.toNat (by omega)).2.2
    have hn : nulV (altL l m) i = nulV l i := by
      rw [nul_eq _ fJ i hiJ, nul_eq l fl i hi, hk, e1]
      exact nl_get _ _ i i hiJ hi hx _
    have hh : (szE l[i] (kidsR l i).length (smN (szV l) (kidsR l i)) (smN (lvV l) (kidsR l i)) (nulV (altL l m) ((kidsR l i).headD 0).toNat)) = (szE l[i] (kidsR l i).length (smN (szV l) (kidsR l i)) (smN (lvV l) (kidsR l i)) (nulV l ((kidsR l i).headD 0).toNat)) := by
      cases hK : kidsR l i with
      | nil => rcases node_right l hl i hi with ⟨hq, _⟩ | ⟨hq, _⟩ | ⟨a, _, h2, _⟩ | ⟨a, _, h2, _⟩ | ⟨_, h2⟩
               · unfold szE; simp only [if_pos hq]
               · unfold szE; simp only [if_neg (show ¬ l[i].kind = 1 by omega), if_pos hq]
               · rw [h2] at hK; cases hK
               · rw [h2] at hK; cases hK
               · rw [hK] at h2; simp at h2
      | cons y Y =>
        obtain ⟨h1, h2⟩ := hlt y (by rw [hK]; exact List.mem_cons_self ..)
        show szE _ _ _ _ (nulV (altL l m) y.toNat) = szE _ _ _ _ (nulV l y.toNat)
        rw [(ih y.toNat (by omega)).1]
    have hs := size_full (altL l m) hJ i hiJ
    rw [hk, hx, e2, e3, hh, size_full l hl i hi] at hs
    have h1 := congrArg Prod.fst hs
    have h2 := congrArg Prod.snd hs
    exact ⟨hn, h1.symm, h2.symm⟩
  intro n
  induction n with
  | zero => exact fun i him hi => main i hi (fun x hx => by omega)
  | succ n ih => exact fun i him hi => main i hi (fun x hx => ih x (by omega) (by omega))
/-- .. and so are the second one's. -/
theorem altB (l m : List NdN) (hl : rightR l = true) (hm : rightR m = true) (hJ : rightR (altL l m) = true) : ∀ n j, j ≤ n → j < m.length → nulV (altL l m) (l.length + j) = nulV m j ∧ szV (altL l m) (l.length + j) = szV m j ∧ lvV (altL l m) (l.length + j) = lvV m j := by
  have fl := right_formed l hl
  have fm := right_formed m hm
  have fJ := right_formed _ hJ
  have main : ∀ j (hj : j < m.length), (∀ x, x < j → nulV (altL l m) (l.length + x) = nulV m x ∧ szV (altL l m) (l.length + x) = szV m x ∧ lvV (altL l m) (l.length + x) = lvV m x) → nulV (altL l m) (l.length + j) = nulV m j ∧ szV (altL l m) (l.length + j) = szV m j ∧ lvV (altL l m) (l.length + j) = lvV m j := fun j hj ih => by
    have hiJ : l.length + j < (altL l m).length := by rw [altL_len]; omega
    have hk := kids_altB l m fl fm j hj
    have hx := altL_b l m j hj
    have hlt := kid_lt m fm j hj
    have et : ∀ k ∈ kidsR m j, ((l.length : Int) + k).toNat = l.length + k.toNat ∧ k.toNat < j := fun k hk => by
      obtain ⟨h1, h2⟩ := hlt k hk
      omega
    have e1 : ((kidsR m j).map fun x => (l.length : Int) + x).map (fun k => nulV (altL l m) k.toNat) = (kidsR m j).map (fun k => nulV m k.toNat) := by
      rw [List.map_map]
      exact List.map_congr_left fun k hk => by
        obtain ⟨h1, h2⟩ := et k hk
        show nulV (altL l m) ((l.length : Int) + k).toNat = _
        rw [h1]
        exact (ih k.toNat h2).1
    have e2 : smN (szV (altL l m)) ((kidsR m j).map fun x => (l.length : Int) + x) = smN (szV m) (kidsR m j) := by
      unfold smN
      rw [List.map_map]
      congr 1
      exact List.map_congr_left fun k hk => by
        obtain ⟨h1, h2⟩ := et k hk
        show szV (altL l m) ((l.length : Int) + k).toNat = _
        rw [h1]
        exact (ih k.toNat h2).2.1
    have e3 : smN (lvV (altL l m)) ((kidsR m j).map fun x => (l.length : Int) + x) = smN (lvV m) (kidsR m j) := by
      unfold smN
      rw [List.map_map]
      congr 1
      exact List.map_congr_left fun k hk => by
        obtain ⟨h1, h2⟩ := et k hk
        show lvV (altL l m) ((l.length : Int) + k).toNat = _
        rw [h1]
        exact (ih k.toNat h2).2.2
    have hn : nulV (altL l m) (l.length + j) = nulV m j := by
      rw [nul_eq _ fJ _ hiJ, nul_eq m fm j hj, hk, e1]
      exact nl_get _ _ _ j hiJ hj hx _
    have hh : (szE m[j] (kidsR m j).length (smN (szV m) (kidsR m j)) (smN (lvV m) (kidsR m j)) (nulV (altL l m) (((kidsR m j).map fun x => (l.length : Int) + x).headD 0).toNat)) = (szE m[j] (kidsR m j).length (smN (szV m) (kidsR m j)) (smN (lvV m) (kidsR m j)) (nulV m ((kidsR m j).headD 0).toNat)) := by
      cases hK : kidsR m j with
      | nil => rcases node_right m hm j hj with ⟨hq, _⟩ | ⟨hq, _⟩ | ⟨a, _, h2, _⟩ | ⟨a, _, h2, _⟩ | ⟨_, h2⟩
               · unfold szE; simp only [if_pos hq]
               · unfold szE; simp only [if_neg (show ¬ m[j].kind = 1 by omega), if_pos hq]
               · rw [h2] at hK; cases hK
               · rw [h2] at hK; cases hK
               · rw [hK] at h2; simp at h2
      | cons y Y =>
        obtain ⟨h1, h2⟩ := et y (by rw [hK]; exact List.mem_cons_self ..)
        show szE _ _ _ _ (nulV (altL l m) ((l.length : Int) + y).toNat) = szE _ _ _ _ (nulV m y.toNat)
        rw [h1, (ih y.toNat h2).1]
    have hs := size_full (altL l m) hJ (l.length + j) hiJ
    rw [hk, hx, e2, e3, List.length_map, hh, size_full m hm j hj] at hs
    have h1 := congrArg Prod.fst hs
    have h2 := congrArg Prod.snd hs
    exact ⟨hn, h1.symm, h2.symm⟩
  intro n
  induction n with
  | zero => exact fun j hjm hj => main j hj (fun x hx => by omega)
  | succ n ih => exact fun j hjm hj => main j hj (fun x hx => ih x (by omega) (by omega))
/-- **Of two patterns' trees in an Alt.** -/
theorem alt_sizes (l m : List NdN) (hl : rightR l = true) (hm : rightR m = true) (hJ : rightR (altL l m) = true) :
    rootS (altL l m) = rootS l + rootS m + 1 ∧ rootL (altL l m) = rootL l + rootL m ∧ nulV (altL l m) (l.length + m.length) = (nulV l (l.length - 1) || nulV m (m.length - 1)) := by
  have fl := right_formed l hl
  have fm := right_formed m hm
  have fJ := right_formed _ hJ
  have p1 := formed_pos l fl
  have p2 := formed_pos m fm
  have hiJ : l.length + m.length < (altL l m).length := by rw [altL_len]; omega
  have hk := kids_altR l m fl fm
  have hx := altL_r l m
  obtain ⟨a1, a2, a3⟩ := altA l m hl hm hJ (l.length - 1) (l.length - 1) (Nat.le_refl _) (by omega)
  obtain ⟨b1, b2, b3⟩ := altB l m hl hm hJ (m.length - 1) (m.length - 1) (Nat.le_refl _) (by omega)
  have t1 : ((l.length : Int) - 1).toNat = l.length - 1 := by omega
  have t2 : ((l.length : Int) + m.length - 1).toNat = l.length + (m.length - 1) := by omega
  have hs := size_full (altL l m) hJ (l.length + m.length) hiJ
  rw [hk, hx] at hs
  have er : (altL l m).length - 1 = l.length + m.length := by rw [altL_len]; omega
  have q1 : smN (szV (altL l m)) [(l.length : Int) - 1, (l.length : Int) + m.length - 1] = rootS l + rootS m := by
    show szV (altL l m) ((l.length : Int) - 1).toNat + (szV (altL l m) ((l.length : Int) + m.length - 1).toNat + 0) = _
    rw [t1, t2, a2, b2]; rfl
  have q2 : smN (lvV (altL l m)) [(l.length : Int) - 1, (l.length : Int) + m.length - 1] = rootL l + rootL m := by
    show lvV (altL l m) ((l.length : Int) - 1).toNat + (lvV (altL l m) ((l.length : Int) + m.length - 1).toNat + 0) = _
    rw [t1, t2, a3, b3]; rfl
  rw [q1, q2] at hs
  have h1 := congrArg Prod.fst hs
  have h2 := congrArg Prod.snd hs
  refine ⟨?_, ?_, ?_⟩
  · unfold rootS at *
    rw [er]
    exact h1.symm
  · unfold rootL at *
    rw [er]
    exact h2.symm
  · rw [nul_eq _ fJ _ hiJ, hk]
    unfold nlN
    rw [getD_z _ _ hiJ, hx]
    show ([nulV (altL l m) ((l.length : Int) - 1).toNat, nulV (altL l m) ((l.length : Int) + m.length - 1).toNat].any id) = _
    rw [t1, t2, a1, b1]
    simp
end Go.Proofs.YtdpkhliojbeglaaDoor

/- The document's terms of trees: cut, copies, least, Null. Stage 11. -/
namespace Go.Proofs.YtdpkhliojbeglaaDoor
open Go.RowKit BS

/-- Truth values in memory that is new. -/
def BoolsB (base : Nat) (l : List Bool) (a : Option Addr) (W : World) : Prop := l ≠ [] → ∃ g o, a = some ⟨g, o, none⟩ ∧ base ≤ g ∧ g < W.heap.size ∧ ∀ i (h : i < l.length), W.cell? ⟨g, o + i, none⟩ = some (.bool l[i])
theorem BoolsB.below {base : Nat} {l : List Bool} {a : Option Addr} {W W' : World} (h : BoolsB base l a W) (hb : Below W.heap.size W W') : BoolsB base l a W' := fun hne => by
  obtain ⟨g, o, e, h0, hg, hc⟩ := h hne
  exact ⟨g, o, e, h0, Nat.lt_of_lt_of_le hg hb.size, fun i hi => (hb.cell (p := ⟨g, o + i, none⟩) hg).trans (hc i hi)⟩
def nullsR (l : List NdN) : List Bool := if rightR l = true then (List.range l.length).map (nulV l) else []
theorem nullsR_is (l : List NdN) (h : rightR l = true) : nullsR l = (List.range l.length).map (nulV l) := if_pos h
/-- All kids', and one of them. -/
def allK (l : List NdN) (K : List Int) : Bool := (K.map fun k => nulV l k.toNat).all id
def anyK (l : List NdN) (K : List Int) : Bool := (K.map fun k => nulV l k.toNat).any id
theorem allK_snoc (l : List NdN) (K : List Int) (k : Int) : allK l (K ++ [k]) = (allK l K && nulV l k.toNat) := by simp [allK]
theorem anyK_snoc (l : List NdN) (K : List Int) (k : Int) : anyK l (K ++ [k]) = (anyK l K || nulV l k.toNat) := by simp [anyK]
def nlE (x : NdN) (al an : Bool) : Bool := if x.kind = 1 then true else if x.kind = 3 ∨ x.kind = 5 then al else if x.kind = 4 then (x.m == 0) || ((x.n == 0) || al) else if x.kind = 6 then an else false
theorem nul_step (l : List NdN) (h : FormedN l) (i : Nat) (hi : i < l.length) : nulV l i = nlE l[i] (allK l (kidsR l i)) (anyK l (kidsR l i)) := by
  rw [nul_eq l h i hi]
  unfold nlN
  rw [getD_z l i hi]
  rfl
end Go.Proofs.YtdpkhliojbeglaaDoor

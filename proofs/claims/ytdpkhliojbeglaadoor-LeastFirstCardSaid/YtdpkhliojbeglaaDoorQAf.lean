/- Texts put together: Tvz Tuq. -/
import Derived.Test.YtdpkhliojbeglaaDoorQY
import Derived.Test.YtdpkhliojbeglaaDoorQAh
import Derived.Test.YtdpkhliojbeglaaDoorQAe
/- What is found, moved: the tree of bytes that stand in others. Stage 15, plain: LeastFirst. -/
namespace Go.Proofs.YtdpkhliojbeglaaDoor
open BS
variable {l : List NdN}
theorem beq_sh (i j a : Nat) : (i + a == j + a) = (i == j) := by
  rw [Bool.eq_iff_iff, beq_iff_eq, beq_iff_eq]; omega
theorem starB_sh {g g' : Nat → Nat → Bool} {a j n : Nat} (hj : j ≤ n) (hg : ∀ x y, x ≤ y → y ≤ n → g' (x + a) (y + a) = g x y) : ∀ m i, i ≤ j → starB g' (j + a) m (i + a) = starB g j m i
  | 0, i, _ => beq_sh i j a
  | m + 1, i, hi => by
    unfold starB
    rw [beq_sh, show j + a - (i + a) = j - i by omega]
    congr 1
    rw [Bool.eq_iff_iff, List.any_eq_true, List.any_eq_true]
    have key : ∀ s ∈ List.range (j - i), (g' (i + a) (i + a + 1 + s) && starB g' (j + a) m (i + a + 1 + s)) = (g i (i + 1 + s) && starB g j m (i + 1 + s)) := fun s hs => by
      have hs' := List.mem_range.1 hs
      rw [show i + a + 1 + s = (i + 1 + s) + a by omega, hg i (i + 1 + s) (by omega) (by omega), starB_sh hj hg m (i + 1 + s) (by omega)]
    constructor
    · rintro ⟨s, hs, h⟩; exact ⟨s, hs, by rw [← key s hs]; exact h⟩
    · rintro ⟨s, hs, h⟩; exact ⟨s, hs, by rw [key s hs]; exact h⟩
theorem canK_sh {w v : List Nat} {a : Nat} (hc : CutW w v a) : ∀ k q i j, i ≤ j → j ≤ v.length → canK l w k q (i + a) (j + a) = canK l v k q i j
  | 0, _, _, _, _, _ => rfl
  | k + 1, q, i, j, hij, hj => by
    have ih := canK_sh hc k
    unfold canK
    by_cases e1 : (ndE l q).kind = 1
    · rw [if_pos e1, if_pos e1, beq_sh]
    rw [if_neg e1, if_neg e1]
    by_cases e2 : (ndE l q).kind = 2
    · rw [if_pos e2, if_pos e2, show i + a + 1 = (i + 1) + a by omega, beq_sh]
      by_cases h : j = i + 1
      · rw [hc.2 i (by omega)]
      · rw [show (j == i + 1) = false by rw [beq_eq_false_iff_ne]; exact h]; rfl
    rw [if_neg e2, if_neg e2]
    by_cases e3 : (ndE l q).kind = 3
    · rw [if_pos e3, if_pos e3, show j + a + 1 - (i + a) = j + 1 - i by omega]
      have key : ∀ s ∈ List.range (j + 1 - i), (canK l w k (ndE l q).kids.toNat (i + a) (i + a + s) && canK l w k (ndE l q).n.toNat (i + a + s) (j + a)) = (canK l v k (ndE l q).kids.toNat i (i + s) && canK l v k (ndE l q).n.toNat (i + s) j) := fun s hs => by
        have hs' := List.mem_range.1 hs
        rw [show i + a + s = (i + s) + a by omega, ih _ i (i + s) (by omega) (by omega), ih _ (i + s) j (by omega) hj]
      rw [Bool.eq_iff_iff, List.any_eq_true, List.any_eq_true]
      constructor
      · rintro ⟨s, hs, h⟩; exact ⟨s, hs, by rw [← key s hs]; exact h⟩
      · rintro ⟨s, hs, h⟩; exact ⟨s, hs, by rw [key s hs]; exact h⟩
    rw [if_neg e3, if_neg e3]
    by_cases e4 : (ndE l q).kind = 4
    · rw [if_pos e4, if_pos e4, ih _ i j hij hj, ih _ i j hij hj]
    rw [if_neg e4, if_neg e4]
    by_cases e5 : (ndE l q).kind = 5
    · rw [if_pos e5, if_pos e5, show j + a - (i + a) = j - i by omega]
      exact starB_sh hj (fun x y h1 h2 => ih _ x y h1 h2) _ i hij
    rw [if_neg e5, if_neg e5]
    by_cases e6 : (ndE l q).kind = 6
    · rw [if_pos e6, if_pos e6, beq_sh, ih _ i j hij hj]
    rw [if_neg e6, if_neg e6, ih _ i j hij hj]
theorem canB_sh {w v : List Nat} {a : Nat} (hc : CutW w v a) (q i j : Nat) (hij : i ≤ j) (hj : j ≤ v.length) : canB l w q (i + a) (j + a) = canB l v q i j :=
  canK_sh hc (q + 1) q i j hij hj
theorem down_at (P : Nat → Bool) (j : Nat) (h : P j = true) : downB P j = j := by
  cases j with
  | zero => rfl
  | succ j => unfold downB; rw [if_pos h]
theorem down_sh {P P' : Nat → Bool} {a i : Nat} : ∀ j, (∀ m, i ≤ m → m ≤ j → P' (m + a) = P m) → (∃ m, i ≤ m ∧ m ≤ j ∧ P m = true) → downB P' (j + a) = downB P j + a := fun j => by
  induction j with
  | zero =>
    rintro h ⟨m, h1, h2, h3⟩
    obtain rfl : m = 0 := by omega
    rw [down_at P 0 h3]
    exact down_at P' (0 + a) (by rw [h 0 h1 h2]; exact h3)
  | succ j ih =>
    rintro h ⟨m, h1, h2, h3⟩
    by_cases hp : P (j + 1) = true
    · rw [down_at P _ hp]
      exact down_at P' _ (by rw [h (j + 1) (by omega) (Nat.le_refl _)]; exact hp)
    · have hp' : ¬ P' (j + a + 1) = true := by rw [show j + a + 1 = j + 1 + a by omega, h (j + 1) (by omega) (Nat.le_refl _)]; exact hp
      have hm : m ≤ j := by
        rcases Nat.lt_or_ge j m with h4 | h4
        · obtain rfl : m = j + 1 := by omega
          exact absurd h3 hp
        · exact h4
      rw [show j + 1 + a = (j + a) + 1 by omega]
      show (if P' (j + a + 1) then j + a + 1 else downB P' (j + a)) = (if P (j + 1) then j + 1 else downB P j) + a
      rw [if_neg hp, if_neg hp']
      exact ih (fun m h5 h6 => h m h5 (by omega)) ⟨m, h1, hm, h3⟩
theorem starG_sh {w v : List Nat} {a : Nat} (hP : PartsOk l) (hc : CutW w v a) {q p : Nat} (hq : q < l.length) (hpl : p < l.length) (hk : (ndE l q).kind = 5) (hp : (ndE l q).kids = p) {j : Nat} (hj : j ≤ v.length) {g g' : Nat → Nat → Fo}
    (ih : ∀ x y, canP l v p x y → g' (x + a) (y + a) = shF a (g x y)) : ∀ m i, canP l v q i j → starG (canB l w) g' p q (j + a) m (i + a) = shF a (starG (canB l v) g p q j m i)
  | 0, _, _ => rfl
  | m + 1, i, hcan => by
    have hij := (can_le hcan).1
    unfold starG
    by_cases h : i < j
    · rw [if_pos h, if_pos (by omega)]
      obtain ⟨x, hx, c1, c2⟩ : ∃ x, i < x ∧ canP l v p i x ∧ canP l v q x j := by
        rcases (can_5 hk hp hij hj).1 hcan with h1 | h1
        · omega
        · exact h1
      have hxj := (can_le c2).1
      have hd := down_sh (P := fun k => canB l v p i k && canB l v q k j) (P' := fun k => canB l w p (i + a) k && canB l w q k (j + a)) (a := a) (i := i) j (fun y h1 h2 => by
        show (canB l w p (i + a) (y + a) && canB l w q (y + a) (j + a)) = _
        rw [canB_sh hc p i y h1 (by omega), canB_sh hc q y j h2 hj]) ⟨x, by omega, hxj, by
        show (canB l v p i x && canB l v q x j) = true
        rw [Bool.and_eq_true]
        exact ⟨(can_iff hP p i x hpl (by omega) (by omega)).2 c1, (can_iff hP q x j hq hxj hj).2 c2⟩⟩
      have hge := down_ge (fun k => canB l v p i k && canB l v q k j) j x hxj (by
        show (canB l v p i x && canB l v q x j) = true
        rw [Bool.and_eq_true]
        exact ⟨(can_iff hP p i x hpl (by omega) (by omega)).2 c1, (can_iff hP q x j hq hxj hj).2 c2⟩)
      have hle := down_le (fun k => canB l v p i k && canB l v q k j) j
      rw [hd]
      generalize downB (fun k => canB l v p i k && canB l v q k j) j = D at *
      obtain ⟨g1, g2⟩ := hge
      have g2' : (canB l v p i D && canB l v q D j) = true := g2
      rw [Bool.and_eq_true] at g2'
      rw [ih i D ((can_iff hP p i D hpl (by omega) (by omega)).1 g2'.1), starG_sh hP hc hq hpl hk hp hj ih m D ((can_iff hP q D j hq hle hj).1 g2'.2)]
      rfl
    · rw [if_neg h, if_neg (by omega)]
      rfl
theorem kids_sh {w v : List Nat} {a : Nat} (hP : PartsOk l) (hc : CutW w v a) : ∀ k q i j, q < k → q < l.length → canP l v q i j → kidsG l (canB l w) k q (i + a) (j + a) = shF a (kidsG l (canB l v) k q i j)
  | 0, _, _, _, h, _, _ => absurd h (by omega)
  | k + 1, q, i, j, hqk, hq, hcan => by
    have ih := kids_sh hP hc k
    obtain ⟨k1, k8⟩ := hP.kind q hq
    have ha := hP.a q hq
    have hb := hP.b q hq
    obtain ⟨hij, hj⟩ := can_le hcan
    unfold kidsG
    by_cases e3 : (ndE l q).kind = 3
    · obtain ⟨p, hp, hpq⟩ := ha (by omega)
      obtain ⟨r, hr, hrq⟩ := hb (.inl e3)
      rw [if_pos e3, if_pos e3, hp, hr, Int.toNat_natCast, Int.toNat_natCast]
      obtain ⟨x, c1, c2⟩ := (can_3 e3 hp hr hij hj).1 hcan
      have hx1 := (can_le c1).1
      have hx2 := (can_le c2).1
      have hpx : (canB l v p i x && canB l v r x j) = true := by
        rw [Bool.and_eq_true]
        exact ⟨(can_iff hP p i x (by omega) hx1 (by omega)).2 c1, (can_iff hP r x j (by omega) hx2 hj).2 c2⟩
      have hd := down_sh (P := fun k => canB l v p i k && canB l v r k j) (P' := fun k => canB l w p (i + a) k && canB l w r k (j + a)) (a := a) (i := i) j (fun y h1 h2 => by
        show (canB l w p (i + a) (y + a) && canB l w r (y + a) (j + a)) = _
        rw [canB_sh hc p i y h1 (by omega), canB_sh hc r y j h2 hj]) ⟨x, hx1, hx2, hpx⟩
      have hge := down_ge (fun k => canB l v p i k && canB l v r k j) j x hx2 hpx
      have hle := down_le (fun k => canB l v p i k && canB l v r k j) j
      rw [hd]
      generalize downB (fun k => canB l v p i k && canB l v r k j) j = D at *
      obtain ⟨g1, g2⟩ := hge
      have g2' : (canB l v p i D && canB l v r D j) = true := g2
      rw [Bool.and_eq_true] at g2'
      rw [ih p i D (by omega) (by omega) ((can_iff hP p i D (by omega) (by omega) (by omega)).1 g2'.1), ih r D j (by omega) (by omega) ((can_iff hP r D j (by omega) hle hj).1 g2'.2)]
      rfl
    rw [if_neg e3, if_neg e3]
    by_cases e4 : (ndE l q).kind = 4
    · obtain ⟨p, hp, hpq⟩ := ha (by omega)
      obtain ⟨r, hr, hrq⟩ := hb (.inr e4)
      rw [if_pos e4, if_pos e4, hp, hr, Int.toNat_natCast, Int.toNat_natCast, canB_sh hc p i j hij hj]
      by_cases h : canB l v p i j = true
      · rw [if_pos h, if_pos h, ih p i j (by omega) (by omega) ((can_iff hP p i j (by omega) hij hj).1 h)]
        rfl
      · rw [if_neg h, if_neg h, ih r i j (by omega) (by omega) (by
          rcases (can_4 e4 hp hr hij hj).1 hcan with c | c
          · exact absurd ((can_iff hP p i j (by omega) hij hj).2 c) h
          · exact c)]
        rfl
    rw [if_neg e4, if_neg e4]
    by_cases e5 : (ndE l q).kind = 5
    · obtain ⟨p, hp, hpq⟩ := ha (by omega)
      rw [if_pos e5, if_pos e5, hp, Int.toNat_natCast, show j + a - (i + a) = j - i by omega]
      exact starG_sh hP hc hq (by omega) e5 hp hj (fun x y h => ih p x y (by omega) (by omega) h) _ i hcan
    rw [if_neg e5, if_neg e5]
    by_cases e6 : (ndE l q).kind = 6
    · obtain ⟨p, hp, hpq⟩ := ha (by omega)
      rw [if_pos e6, if_pos e6, hp, Int.toNat_natCast]
      by_cases h : i < j
      · rw [if_pos h, if_pos (by omega), ih p i j (by omega) (by omega) (by
          rcases (can_6 e6 hp hij hj).1 hcan with c | c
          · omega
          · exact c)]
        rfl
      · rw [if_neg h, if_neg (by omega)]
        rfl
    rw [if_neg e6, if_neg e6]
    by_cases e7 : 7 ≤ (ndE l q).kind
    · obtain ⟨p, hp, hpq⟩ := ha (by omega)
      rw [if_pos e7, if_pos e7, hp, Int.toNat_natCast, ih p i j (by omega) (by omega) ((can_7 (by omega) hp hij hj).1 hcan)]
      rfl
    · rw [if_neg e7, if_neg e7]
      rfl
theorem grow_sh {w v : List Nat} {a : Nat} (hP : PartsOk l) (hc : CutW w v a) (q i j : Nat) (hq : q < l.length) (h : canP l v q i j) : growB l w q (i + a) (j + a) = shF a (growB l v q i j) := by
  unfold growB
  rw [kids_sh hP hc (q + 1) q i j (Nat.lt_succ_self _) hq h]
  rfl
/-! ### What groups span, moved -/
def shz (a : Nat) (z : Int × Int) : Int × Int := if 0 ≤ z.1 then (z.1 + a, z.2 + a) else z
theorem shz_off (a : Nat) : shz a (-1, -1) = (-1, -1) := if_neg (by decide)
theorem offS_sh (a : Nat) : ∀ (g : List Nat) (o : List (Int × Int)), offS (o.map (shz a)) g = (offS o g).map (shz a)
  | [], _ => rfl
  | n :: g, o => by
    show offS ((o.map (shz a)).set n (-1, -1)) g = (offS (o.set n (-1, -1)) g).map (shz a)
    rw [← offS_sh a g, List.map_set, shz_off]
def shx (a : Nat) (x : EnN) : EnN := ⟨x.depth, x.node, x.from_ + a, x.to + a⟩
theorem spanS_sh (a : Nat) (o : List (Int × Int)) (x : EnN) (hx : 0 ≤ x.from_) : spanS l (o.map (shz a)) (shx a x) = (spanS l o x).map (shz a) := by
  unfold spanS shx
  simp only
  split
  · split
    · rw [List.map_set]
      congr 1
      unfold shz
      rw [if_pos hx]
    · split
      · exact offS_sh a _ _
      · rfl
  · rfl
theorem spans_fold (a : Nat) : ∀ (t : List EnN) (o : List (Int × Int)), (∀ x ∈ t, 0 ≤ x.from_) → (t.map (shx a)).foldl (spanS l) (o.map (shz a)) = (t.foldl (spanS l) o).map (shz a)
  | [], _, _ => rfl
  | x :: t, o, h => by
    rw [List.map_cons, List.foldl_cons, List.foldl_cons, spanS_sh a o x (h x (List.mem_cons_self ..))]
    exact spans_fold a t _ fun y hy => h y (List.mem_cons_of_mem _ hy)
theorem spanI_sh (a : Nat) (t : List EnN) (h : ∀ x ∈ t, 0 ≤ x.from_) : spanI l (t.map (shx a)) = (spanI l t).map (shz a) := by
  cases t with
  | nil => show (-1, -1) :: _ = List.map (shz a) ((-1, -1) :: _); rw [List.map_cons, List.map_replicate, shz_off]
  | cons x t =>
    show (x.from_ + a, x.to + a) :: _ = List.map (shz a) ((x.from_, x.to) :: _)
    rw [List.map_cons, List.map_replicate, shz_off]
    congr 1
    unfold shz
    rw [if_pos (h x (List.mem_cons_self ..))]
theorem spansT_sh (a : Nat) (t : List EnN) (h : ∀ x ∈ t, 0 ≤ x.from_) : spansT l (t.map (shx a)) = (spansT l t).map (shz a) := by
  unfold spansT
  split
  · rw [spanI_sh a t h]; exact spans_fold a t _ h
  · rfl
theorem flF_from : ∀ (ks : Fo) (d : Int), ∀ x ∈ flF d ks, 0 ≤ x.from_
  | .nil, _, x, h => by simp [flF] at h
  | .cons n f e ks rest, d, x, h => by
    simp only [flF, List.mem_cons, List.mem_append] at h
    rcases h with rfl | h | h
    · exact Int.natCast_nonneg _
    · exact flF_from ks _ x h
    · exact flF_from rest _ x h
theorem cut_cutW {w : List Nat} {a b : Nat} (h1 : a ≤ b) (h2 : b ≤ w.length) : CutW w (cutL w a b) a := by
  have hl := cut_len (w := w) h2 h1
  refine ⟨by omega, fun i hi => ?_⟩
  unfold cutL
  rw [List.getD_eq_getElem?_getD, List.getD_eq_getElem?_getD, List.getElem?_take_of_lt (by omega), List.getElem?_drop, Nat.add_comm]
theorem flF_to {w : List Nat} : ∀ (ks : Fo) (d : Int), okF l w ks → ∀ x ∈ flF d ks, (0 ≤ x.from_ ∧ x.from_ ≤ w.length) ∧ 0 ≤ x.to ∧ x.to ≤ w.length
  | .nil, _, _, x, h => by simp [flF] at h
  | .cons n f e ks rest, d, hk, x, h => by
    simp only [flF, List.mem_cons, List.mem_append] at h
    rcases h with rfl | h | h
    · have h1 := hk.1.1
      have h2 := hk.1.2.1
      show (0 ≤ (f : Int) ∧ (f : Int) ≤ w.length) ∧ 0 ≤ (e : Int) ∧ (e : Int) ≤ w.length
      omega
    · exact flF_to ks _ hk.2.1 x h
    · exact flF_to rest _ hk.2.2 x h
theorem upd_at (f : Int × Int → Int × Int) (S : List (Int × Int)) (i : Nat) (h : i < S.length) :
    ((S.take i).map f ++ S.drop i)[i]? = some S[i] ∧ (S.take (i + 1)).map f ++ S.drop (i + 1) = ((S.take i).map f ++ S.drop i).set i (f S[i]) := by
  have hl : ((S.take i).map f).length = i := by rw [List.length_map, List.length_take]; omega
  have hd := List.drop_eq_getElem_cons h
  refine ⟨?_, ?_⟩
  · rw [List.getElem?_append_right (by omega), hl, Nat.sub_self, hd]; rfl
  · rw [List.set_append_right _ _ (by omega), hl, Nat.sub_self, hd, List.set_cons_zero, List.take_succ_eq_append_getElem h, List.map_append, List.append_assoc]; rfl
/-- What LeastFirst says, plainly. -/
theorem first_cases (w : List Nat) (hr : rightT l = true) (hw : w.length ≤ 64) :
    (foundV l w = ([], 7) ∧ ∀ F T, (canV l w ((l.length : Int) - 1) F T).1 = false) ∨
    ∃ (a b : Nat) (S : List (Int × Int)), a ≤ b ∧ b ≤ w.length ∧ foundV l w = (S.map (shz a), 0) ∧ matchV l (cutL w a b) = (S, 0) ∧ 0 < S.length ∧ S.length ≤ 100 ∧ S[0]? = some (0, ((b - a : Nat) : Int)) ∧ (∀ i (h : i < S.length), -1 ≤ S[i].1 ∧ S[i].1 ≤ 64 ∧ -1 ≤ S[i].2 ∧ S[i].2 ≤ 64) ∧
      (∀ F T, (canV l w ((l.length : Int) - 1) F T).1 = true → ¬ (F < a ∨ F = a ∧ (b : Int) < T)) ∧ (treeV l (cutL w a b)).1.length ≤ l.length * max 1 (b - a) := by
  have h0 : 0 < l.length := (rightT_q l hr).pos
  have hP := parts_ok l hr
  have ef := foundV_3 (w := w) hr (by omega)
  have hcv : ∀ F T, (canV l w ((l.length : Int) - 1) F T).1 = true → ∃ x y : Nat, F = x ∧ T = y ∧ x ≤ y ∧ y ≤ w.length ∧ canB l w (l.length - 1) x y = true := fun F T h => by
    rw [canV_3 hr (by omega)] at h
    split at h
    · rename_i hd
      have hd' := of_decide_eq_true hd
      refine ⟨F.toNat, T.toNat, by omega, by omega, by omega, by omega, ?_⟩
      rw [show ((l.length : Int) - 1).toNat = l.length - 1 by omega] at h
      exact h
    · cases h
  cases hf : findT l w with
  | none =>
    refine .inl ⟨by rw [ef, hf]; rfl, fun F T => ?_⟩
    cases hc : (canV l w ((l.length : Int) - 1) F T).1
    · rfl
    · obtain ⟨x, y, rfl, rfl, h1, h2, h3⟩ := hcv F T hc
      have := find_none _ _ _ 0 (by omega) hf x y (Nat.zero_le _) h1 h2
      rw [this] at h3
      cases h3
  | some ab =>
    obtain ⟨a, b⟩ := ab
    obtain ⟨_, hab, hbn, hcb, hall⟩ := find_some _ _ _ _ _ _ hf
    have hcut := cut_cutW hab hbn
    have hlen := cut_len hbn hab
    have hcv2 : canB l (cutL w a b) (l.length - 1) 0 (b - a) = true := by
      rw [← canB_sh hcut (l.length - 1) 0 (b - a) (Nat.zero_le _) (by omega), Nat.zero_add, show b - a + a = b by omega]
      exact hcb
    have hcp := (can_iff (w := cutL w a b) hP (l.length - 1) 0 (b - a) (by omega) (Nat.zero_le _) (by omega)).1 hcv2
    have hg := grow_sh hP hcut (l.length - 1) 0 (b - a) (by omega) hcp
    rw [Nat.zero_add, show b - a + a = b by omega] at hg
    have et := treeV_3 (w := cutL w a b) hr (by omega)
    rw [hlen, if_pos hcv2] at et
    have hgood := grow_is hP (l.length - 1) 0 (b - a) (by omega) hcp
    have htt : treeT l (cutL w a b) (flF 1 (growB l (cutL w a b) (l.length - 1) 0 (b - a))) = true := by
      have h2 : okF l (cutL w a b) (growB l (cutL w a b) (l.length - 1) 0 (cutL w a b).length) := by rw [hlen]; exact hgood.1
      have h3 : flF 1 (growB l (cutL w a b) (l.length - 1) 0 (b - a)) = flF 1 (growB l (cutL w a b) (l.length - 1) 0 (cutL w a b).length) := by rw [hlen]
      rw [h3]
      exact (tree_iff l _ _).2 ⟨hr, _, h2, rfl⟩
    obtain ⟨s1, s2, s3⟩ := spans_tree l _ _ htt
    have hT9 : topL l ≤ 9 := by rcases (topL_spec l).2 with h | h <;> omega
    refine .inr ⟨a, b, spansT l (flF 1 (growB l (cutL w a b) (l.length - 1) 0 (b - a))), hab, hbn, ?_, ?_, by omega, by omega, by rw [s2, hlen], fun i hi => ?_, ?_, ?_⟩
    · rw [ef, hf]
      show (spansT l (flF 1 (growB l w (l.length - 1) a b)), (0 : Int)) = _
      rw [hg, fl_sh]
      exact Prod.ext (spansT_sh a _ (flF_from _ _)) rfl
    · unfold matchV
      rw [et]
      rfl
    · have hto := flF_to _ 1 hgood.1
      rcases Nat.eq_zero_or_pos i with h0 | h0
      · subst h0
        rw [List.getElem?_eq_getElem hi, hlen] at s2
        rw [Option.some.inj s2]
        show -1 ≤ (0 : Int) ∧ (0 : Int) ≤ 64 ∧ -1 ≤ ((b - a : Nat) : Int) ∧ ((b - a : Nat) : Int) ≤ 64
        omega
      · rcases s3 i h0 hi with h3 | ⟨x, hx, _, _, _, _, h3⟩
        · rw [List.getElem?_eq_getElem hi] at h3
          rw [Option.some.inj h3]
          decide
        · rw [List.getElem?_eq_getElem hi] at h3
          rw [Option.some.inj h3]
          have h4 := hto x hx
          rw [hlen] at h4
          show -1 ≤ x.from_ ∧ x.from_ ≤ 64 ∧ -1 ≤ x.to ∧ x.to ≤ 64
          omega
    · intro F T h hx
      obtain ⟨x, y, rfl, rfl, h1, h2, h3⟩ := hcv F T h
      have := hall x y (Nat.zero_le _) h1 h2 h3
      omega
    · rw [et]
      have := grow_bound hr (l.length - 1) 0 (b - a) 1 (by omega) hcp
      rw [hlen] at this
      exact this
end Go.Proofs.YtdpkhliojbeglaaDoor

/- The developers' Match: what it tells lies in memory that is new. Stage 15. -/
namespace Go.Proofs.YtdpkhliojbeglaaDoor
open Go.RowKit BS

set_option maxRecDepth 100000 in
set_option maxHeartbeats 16000000 in
theorem matchN_calls (l : List NdN) (hl : l.length ≤ 1000) (hr : rightT l = true) (w : List Nat) (hwn : w.length ≤ 1000000) (hw8 : ∀ x ∈ w, x < 256) (lcp wcp : Nat) (la wa : Option Addr) (hf : (treeV l w).1.length ≤ 1000) (S : List (Int × Int)) (hm : matchV l w = (S, 0)) (W : World) (hN : NodesAt l la W) (hT : BtsAt w wa W) (hTab : Tab W) (hg : 0 < W.heap.size) :
    Calls Tryd.prog 16 #[.slice la l.length lcp, .slice wa w.length wcp] W fun e W' => ∃ R c, e = .returned (.tuple #[.slice (some ⟨R, 0, none⟩) S.length c, .int .i64 0]) ∧ W.heap.size ≤ R ∧ SpsAt S R W' ∧ Below W.heap.size W W' := by
  have HTR := Lib.hid (treeL_calls l hl w hwn hw8 lcp wcp la wa W hN hT hTab hg)
  have HN := Lib.hid hN
  have HRT := Lib.hid hr
  clear hN hT hTab hw8 hr
  unfold matchV at hm
  generalize treeV l w = TV at *
  obtain ⟨t, er⟩ := TV
  simp only at hf HTR hm
  have he : er = 0 := by
    by_cases he : er = 0
    · exact he
    · rw [if_pos he] at hm
      cases hm
      rfl
  subst he
  have hS : spansT l t = S := by
    rw [if_neg (by decide)] at hm
    exact congrArg Prod.fst hm
  clear hm
  go_enter Tryd.func16, Tryd.ntmps16
  go_wp2_with fail
  refine HTR.out.mono ?_
  rintro e w2 ⟨v, rfl, ho, hb⟩
  obtain ⟨ta, tc, rfl⟩ := ho.form
  have hsp := spansX_calls l hl t hf la ta lcp tc w2 (HN.out.below hb) ho.ents
  rw [hS] at hsp
  have HSP := Lib.hid hsp
  have HB := Lib.hid hb
  clear ho hb hsp
  go_wp2_with fail
  refine HSP.out.mono ?_
  rintro e w3 ⟨b, c, rfl, hs, hb3, hx⟩
  obtain ⟨R, rfl, hR, hsp⟩ := hx HRT.out
  have HS := Lib.hid hsp
  have HR := Lib.hid (Nat.le_trans HB.out.size hR)
  have HB3 := Lib.hid (HB.out.trans (hb3.mono HB.out.size))
  clear hs hb3 hx hR hsp
  go_wp2_with fail
  go_ret2
  exact ⟨_, _, rfl, HR.out, HS.out, HB3.out⟩
end Go.Proofs.YtdpkhliojbeglaaDoor

/- Texts put together: Ax Ag. -/
import Derived.Test.YtpncomjpmilbkaaDoorPF
/- Where a node's kids stand: side by side, right ahead of it. Nothing of the program is used. -/
namespace Go.Proofs.YtpncomjpmilbkaaDoor

theorem take_sum (s : List Nat) (j : Nat) (h : j < s.length) : (s.take (j + 1)).sum = (s.take j).sum + s[j] := by
  have e : s.take (j + 1) = s.take j ++ [s[j]] := by rw [List.take_add_one, List.getElem?_eq_getElem h]; rfl
  rw [e, List.sum_append]
  simp
theorem take_sum_le (s : List Nat) (j : Nat) : (s.take j).sum ≤ s.sum := by
  have h : s.sum = (s.take j).sum + (s.drop j).sum := by rw [← List.sum_append, List.take_append_drop]
  omega
theorem kid_at (s : List Nat) (i j : Nat) (hp : ∀ x ∈ s, 0 < x) (hs : s.sum ≤ i) (h : j < s.length) (h' : j < (posF i s).length) :
    (posF i s)[j] + 1 + (s.take j).sum = i ∧ (posF i s)[j] + 1 = s[j] + (i - (s.take (j + 1)).sum) := by
  have e := posF_get s i j h'
  have t := take_sum s j h
  have l := take_sum_le s (j + 1)
  have p := hp s[j] (List.getElem_mem h)
  rw [e]
  omega
/-- The size that stands at a kid's place. -/
theorem kid_size (out s : List Nat) (i j : Nat) (hi : out.length = i) (h : RootsF out s) (hj : j < s.length) (h' : j < (posF i s).length) : out[(posF i s)[j]]? = some s[j] := by
  obtain ⟨h1, h2⟩ := h j hj
  rw [posF_get s i j h', ← h2, hi]
  congr 1
  omega
/-- The sizes up to a node are what its stack says. -/
theorem roots_at (ks : List Nat) (i : Nat) (hi : i < ks.length) (s : List Nat) (hs : stackF [] (ks.take i) = some s) :
    RootsF (sizesF [] (ks.take i)) s ∧ (sizesF [] ks).take i = sizesF [] (ks.take i) ∧ (sizesF [] ks)[i]? = some (1 + (s.take ks[i]).sum) := by
  have hr := roots_all (ks.take i) [] [] s (by simp) (by intro j hj; simp at hj) hs
  rw [List.nil_append] at hr
  have e : ks = ks.take i ++ (ks[i] :: ks.drop (i + 1)) := by rw [← List.drop_eq_getElem_cons hi, List.take_append_drop]
  have hl : (sizesF [] (ks.take i)).length = i := by rw [sizesF_len, List.length_take]; omega
  have ea : sizesF [] ks = sizesF [] (ks.take i) ++ (1 + (s.take ks[i]).sum) :: sizesF (stepF s ks[i]) (ks.drop (i + 1)) := by
    have : ∀ (as bs st st' : List Nat), stackF st as = some st' → sizesF st (as ++ bs) = sizesF st as ++ sizesF st' bs := by
      intro as
      induction as with
      | nil => intro bs st st' h; cases h; rfl
      | cons a as ih =>
        intro bs st st' h
        rw [stackF] at h
        by_cases hk : a ≤ st.length
        · rw [if_pos hk] at h
          rw [List.cons_append, sizesF, sizesF, List.cons_append, ih bs _ _ h]
        · rw [if_neg hk] at h; cases h
    conv => lhs; rw [e]
    rw [this _ _ _ _ hs, sizesF]
  refine ⟨hr, ?_, ?_⟩
  · rw [ea, List.take_append_of_le_length (by omega), List.take_of_length_le (by omega)]
  · rw [ea, List.getElem?_append_right (by omega), hl, Nat.sub_self]
    rfl
end Go.Proofs.YtpncomjpmilbkaaDoor

/- Patterns' trees, plainly: Right, and what of two trees is one. Nothing of the program is used. -/
namespace Go.Proofs.YtpncomjpmilbkaaDoor

/-- May a node of a kind stand in a row, or be repeated? -/
def pieceF (k : Int) : Bool := k == 2 || k == 3 || k == 4
/-- May a node be a kid of a kind? -/
def kidF (o k : Int) : Bool := if o = 3 then true else if o = 4 ∨ o = 5 then pieceF k else if o = 6 then k != 6 else false
/-- By the kinds: each kid of the nodes from a place on may be one. -/
def KidsOk (f : Nat → Int) : Nat → List (List Nat) → Prop
  | _, [] => True
  | i, c :: cs => (∀ x ∈ c, kidF (f i) (f x) = true) ∧ KidsOk f (i + 1) cs
theorem kidsOk_append (f : Nat → Int) : ∀ (as bs : List (List Nat)) (i : Nat), KidsOk f i (as ++ bs) ↔ KidsOk f i as ∧ KidsOk f (i + as.length) bs
  | [], bs, i => by simp [KidsOk]
  | c :: cs, bs, i => by
    rw [List.cons_append, KidsOk, KidsOk, kidsOk_append f cs bs (i + 1), List.length_cons, show i + 1 + cs.length = i + (cs.length + 1) by omega, and_assoc]
theorem kidsOk_congr (f g : Nat → Int) : ∀ (cs : List (List Nat)) (i : Nat), (∀ x, x < i + cs.length → f x = g x) → (∀ c ∈ cs, ∀ x ∈ c, x < i + cs.length) → KidsOk f i cs → KidsOk g i cs
  | [], _, _, _, _ => trivial
  | c :: cs, i, hf, hc, h => by
    rw [List.length_cons] at hf hc
    refine ⟨fun x hx => ?_, kidsOk_congr f g cs (i + 1) (fun x hx => hf x (by omega)) (fun d hd x hx => by have := hc d (List.mem_cons_of_mem _ hd) x hx; omega) h.2⟩
    rw [← hf i (by omega), ← hf x (hc c (List.mem_cons_self ..) x hx)]
    exact h.1 x hx
theorem kidsOk_shift (f : Nat → Int) (d : Nat) : ∀ (cs : List (List Nat)) (i : Nat), KidsOk f (i + d) (cs.map (List.map (· + d))) ↔ KidsOk (fun x => f (x + d)) i cs
  | [], _ => Iff.rfl
  | c :: cs, i => by
    rw [List.map_cons, KidsOk, KidsOk, show i + d + 1 = i + 1 + d by omega, kidsOk_shift f d cs (i + 1)]
    simp
theorem posF_lt (i : Nat) (s : List Nat) (h0 : 0 < i) : ∀ x ∈ posF i s, x < i := fun x hx => by
  obtain ⟨j, hj, rfl⟩ := List.getElem_of_mem hx
  rw [posF_get s i j hj]
  omega
/-- Kids stand ahead of their node. -/
theorem allKids_lt : ∀ (ks st : List Nat) (i : Nat), (st ≠ [] → 0 < i) → ∀ c ∈ allKids i st ks, ∀ x ∈ c, x < i + ks.length
  | [], _, _, _, c, hc => by cases hc
  | k :: ks, st, i, h0, c, hc => by
    rw [allKids, List.mem_cons] at hc
    intro x hx
    rw [List.length_cons]
    rcases hc with rfl | hc
    · have hx' := List.mem_of_mem_take hx
      cases st with
      | nil => cases hx'
      | cons z st => have := posF_lt i (z :: st) (h0 (by simp)) x hx'; omega
    · have := allKids_lt ks (stepF st k) (i + 1) (fun _ => by omega) c hc x hx
      omega
theorem allKids_len : ∀ (ks st : List Nat) (i : Nat), (allKids i st ks).length = ks.length
  | [], _, _ => rfl
  | k :: ks, st, i => by rw [allKids, List.length_cons, List.length_cons, allKids_len ks]

/-- The kinds of a list of nodes. -/
def kindF (l : List Int) (x : Nat) : Int := l.getD x 0
/-- Each node's kids may be its kids. -/
def RightKids (kinds : List Int) (ks : List Nat) : Prop := KidsOk (kindF kinds) 0 (allKids 0 [] ks)
theorem kindF_left (a b : List Int) (x : Nat) (h : x < a.length) : kindF (a ++ b) x = kindF a x := by
  unfold kindF
  rw [List.getD_eq_getElem?_getD, List.getD_eq_getElem?_getD, List.getElem?_append_left h]
theorem kindF_right (a b : List Int) (x : Nat) : kindF (a ++ b) (x + a.length) = kindF b x := by
  unfold kindF
  rw [List.getD_eq_getElem?_getD, List.getD_eq_getElem?_getD, List.getElem?_append_right (by omega), Nat.add_sub_cancel]
theorem rightKids_left (a b : List Int) (ks : List Nat) (hl : a.length = ks.length) : KidsOk (kindF (a ++ b)) 0 (allKids 0 [] ks) ↔ RightKids a ks := by
  have hx : ∀ x, x < 0 + (allKids 0 [] ks).length → kindF (a ++ b) x = kindF a x := fun x hx => kindF_left a b x (by rw [allKids_len] at hx; omega)
  have hc : ∀ c ∈ allKids 0 [] ks, ∀ x ∈ c, x < 0 + (allKids 0 [] ks).length := by rw [allKids_len]; exact allKids_lt ks [] 0 (fun h => absurd rfl h)
  exact ⟨kidsOk_congr _ _ _ 0 hx hc, kidsOk_congr _ _ _ 0 (fun x h => (hx x h).symm) hc⟩
/-- **A Group around a tree: its kids may be its kids if those of the tree may.** -/
theorem rightKids_group (a : List Int) (ks : List Nat) (hl : a.length = ks.length) (h : stackF [] ks = some [ks.length]) : RightKids (a ++ [3]) (ks ++ [1]) ↔ RightKids a ks := by
  unfold RightKids
  rw [allKids_append ks [1] [] _ 0 h, kidsOk_append, rightKids_left a [3] ks hl, allKids_len]
  have hk : kindF (a ++ [3]) (0 + ks.length) = 3 := by
    have := kindF_right a [3] 0
    rw [hl] at this
    exact this
  refine ⟨fun h => h.1, fun h => ⟨h, ?_⟩⟩
  refine ⟨fun x _ => ?_, trivial⟩
  rw [hk]
  rfl
/-- **Two trees side by side, and an Alt of them.** -/
theorem rightKids_two (a b : List Int) (ka kb : List Nat) (ha : a.length = ka.length) (hb : b.length = kb.length) (h1 : stackF [] ka = some [ka.length]) (h2 : stackF [] kb = some [kb.length]) :
    RightKids (a ++ b ++ [6]) (ka ++ kb ++ [2]) ↔ RightKids a ka ∧ RightKids b kb ∧ (kindF a (a.length - 1) != 6) = true ∧ (kindF b (b.length - 1) != 6) = true := by
  have hst : stackF [] (ka ++ kb) = some [kb.length, ka.length] := by
    rw [stackF_append, h1]
    exact stackF_below [ka.length] kb [] _ h2
  have hpa : 0 < ka.length := by
    cases ka with
    | nil => cases h1
    | cons => simp
  have hpb : 0 < kb.length := by
    cases kb with
    | nil => cases h2
    | cons => simp
  unfold RightKids
  rw [allKids_append (ka ++ kb) [2] [] _ 0 hst, allKids_append ka kb [] _ 0 h1, kidsOk_append, kidsOk_append, List.append_assoc a b [6], rightKids_left a (b ++ [6]) ka ha, List.length_append, allKids_len, allKids_len, List.length_append]
  have hm : allKids (0 + ka.length) [ka.length] kb = (allKids 0 [] kb).map (List.map (· + ka.length)) := allKids_below [ka.length] ka.length kb [] _ 0 (by simp) (by simp) h2
  rw [hm, kidsOk_shift]
  have hf : ∀ x, kindF (a ++ (b ++ [6])) (x + ka.length) = kindF (b ++ [6]) x := fun x => by rw [← ha]; exact kindF_right a (b ++ [6]) x
  have e2 : KidsOk (fun x => kindF (a ++ (b ++ [6])) (x + ka.length)) 0 (allKids 0 [] kb) ↔ RightKids b kb := by
    rw [← rightKids_left b [6] kb hb]
    rw [show (fun x => kindF (a ++ (b ++ [6])) (x + ka.length)) = kindF (b ++ [6]) from funext hf]
  rw [e2]
  have hroot : allKids (0 + (ka.length + kb.length)) [kb.length, ka.length] [2] = [[ka.length + kb.length - 1, ka.length - 1]] := by
    simp [allKids, posF]
  rw [hroot]
  have k6 : kindF (a ++ (b ++ [6])) (0 + (ka.length + kb.length)) = 6 := by
    rw [show 0 + (ka.length + kb.length) = kb.length + ka.length by omega, hf, ← hb]
    have := kindF_right b [6] 0
    rw [Nat.zero_add] at this
    exact this
  have kl : kindF (a ++ (b ++ [6])) (ka.length - 1) = kindF a (a.length - 1) := by rw [ha]; exact kindF_left a _ _ (by omega)
  have kr : kindF (a ++ (b ++ [6])) (ka.length + kb.length - 1) = kindF b (b.length - 1) := by
    rw [show ka.length + kb.length - 1 = (kb.length - 1) + ka.length by omega, hf, hb]
    exact kindF_left b [6] _ (by omega)
  have e3 : KidsOk (kindF (a ++ (b ++ [6]))) (0 + (ka.length + kb.length)) [[ka.length + kb.length - 1, ka.length - 1]] ↔ (kindF a (a.length - 1) != 6) = true ∧ (kindF b (b.length - 1) != 6) = true := by
    simp only [KidsOk, and_true, List.mem_cons, List.not_mem_nil, or_false, forall_eq_or_imp, forall_eq]
    rw [k6, kl, kr]
    unfold kidF
    rw [if_neg (by decide), if_neg (by decide), if_pos rfl, if_neg (by decide), if_neg (by decide), if_pos rfl]
    exact And.comm
  rw [e3]
  exact and_assoc
end Go.Proofs.YtpncomjpmilbkaaDoor

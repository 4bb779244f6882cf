/- Texts put together: Tl Tm Tn. -/
import Derived.Test.YtpncomjpmilbkaaDoorPS
/- The document's terms of trees: join, lacks. Stage 11. -/
namespace Go.Proofs.YtpncomjpmilbkaaDoor
open Go.RowKit BS

theorem cells_top (k u v : Int) : ndCells [⟨k, u, v, 0, 0⟩] = [.int .i64 k, .int .i64 u, .int .i64 v, .int .i64 0, .int .u64 0, .int .u64 0, .int .u64 0, .int .u64 0] := by
  have z1 : wd (0 : BitVec 256) 1 = 0 := by decide
  have z2 : wd (0 : BitVec 256) 2 = 0 := by decide
  have z3 : wd (0 : BitVec 256) 3 = 0 := by decide
  rw [cells_one]
  show [Value.int .i64 k, .int .i64 u, .int .i64 v, .int .i64 0, .int .u64 ((wd (0 : BitVec 256) 0 : Nat) : Int), .int .u64 ((wd (0 : BitVec 256) 1 : Nat) : Int), .int .u64 ((wd (0 : BitVec 256) 2 : Nat) : Int), .int .u64 ((wd (0 : BitVec 256) 3 : Nat) : Int)] = _
  rw [z1, z2, z3]
  rfl
/-- All that nodes point to stands in the list. -/
def Bdd (L : List NdN) : Prop := ∀ x ∈ L, x.kids < (L.length : Int) ∧ x.n < (L.length : Int)
theorem bdd_join (a b : List NdN) (k : Int) (ha : Bdd a) (hb : Bdd b) : Bdd (joinT a b k) := fun x hx => by
  rw [joinT_len]
  unfold joinT at hx
  simp only [List.mem_append, List.mem_map, List.mem_singleton] at hx
  rcases hx with (hx | ⟨y, hy, rfl⟩) | rfl
  · have := ha x hx; omega
  · have := hb y hy
    unfold shN
    simp only
    constructor <;> split <;> omega
  · simp only; omega
theorem bdd_un (a : List NdN) (k n : Int) (ha : Bdd a) : Bdd (unT a k n) := fun x hx => by
  rw [unT_len]
  unfold unT at hx
  rw [List.mem_append, List.mem_singleton] at hx
  rcases hx with hx | rfl
  · have := ha x hx; omega
  · simp only; omega
theorem bdd_enc : ∀ t, Bdd (enc t)
  | .eps => fun x hx => by rw [enc, List.mem_singleton] at hx; subst hx; exact ⟨by decide, by decide⟩
  | .leaf s => fun x hx => by rw [enc, List.mem_singleton] at hx; subst hx; exact ⟨by show (-1 : Int) < 1; decide, by show (-1 : Int) < 1; decide⟩
  | .cat a b => bdd_join _ _ _ (bdd_enc a) (bdd_enc b)
  | .alt a b => bdd_join _ _ _ (bdd_enc a) (bdd_enc b)
  | .star a => bdd_un _ _ _ (bdd_enc a)
  | .maybe a => bdd_un _ _ _ (bdd_enc a)
  | .grp _ a => bdd_un _ _ _ (bdd_enc a)
  | .iter a => bdd_un _ _ _ (bdd_enc a)
/-- Terms, put together from the right. -/
def jnL (k : Int) : List (List NdN) → List NdN
  | [] => []
  | [a] => a
  | a :: b :: r => joinT a (jnL k (b :: r)) k
theorem jn_enc (c : TT → TT → TT) (k : Int) (hc : ∀ a b, enc (c a b) = joinT (enc a) (enc b) k) : ∀ ts : List TT, ts ≠ [] → enc (jnT c ts) = jnL k (ts.map enc)
  | [], h => absurd rfl h
  | [t], _ => rfl
  | t :: u :: r, _ => by
    rw [jnT, hc, jn_enc c k hc (u :: r) (by simp)]
    · rfl
    · simp
def lkL (one : List NdN) : Nat → List NdN
  | 0 => []
  | 1 => unT one 6 0
  | k + 1 => unT (joinT one (lkL one k) 3) 6 0
theorem lk_enc (t : TT) : ∀ k, 0 < k → enc (lkT t k) = lkL (enc t) k
  | 1, _ => rfl
  | k + 2, _ => by
    have ih := lk_enc t (k + 1) (by omega)
    show enc (.maybe (.cat t (lkT t (k + 1)))) = unT (joinT (enc t) (lkL (enc t) (k + 1)) 3) 6 0
    rw [enc, enc, ih]
theorem bdd_lk (one : List NdN) (h : Bdd one) : ∀ k, Bdd (lkL one k)
  | 0 => fun x hx => by simp [lkL] at hx
  | 1 => bdd_un _ _ _ h
  | k + 2 => by
    rw [lkL]
    · exact bdd_un _ _ _ (bdd_join _ _ _ h (bdd_lk one h (k + 1)))
    · omega
theorem jnL_pos (k : Int) : ∀ Ls : List (List NdN), Ls ≠ [] → (∀ M ∈ Ls, M ≠ []) → 0 < (jnL k Ls).length
  | [], h, _ => absurd rfl h
  | [a], _, h => List.length_pos_iff.2 (h a (List.mem_singleton.2 rfl))
  | a :: b :: r, _, _ => by rw [jnL, joinT_len]; omega
theorem bdd_jn (k : Int) : ∀ Ls : List (List NdN), (∀ M ∈ Ls, Bdd M) → Bdd (jnL k Ls)
  | [], _ => fun x hx => by simp [jnL] at hx
  | [a], h => h a (List.mem_singleton.2 rfl)
  | a :: b :: r, h => bdd_join _ _ _ (h a (List.mem_cons_self ..)) (bdd_jn k (b :: r) fun M hM => h M (List.mem_cons_of_mem _ hM))
/-- Slices of terms, side by side. -/
def PartsAt (Ls : List (List NdN)) (g off : Nat) (W : World) : Prop := g < W.heap.size ∧ ∀ i (h : i < Ls.length), ∃ gi ci, W.cell? ⟨g, off + i, none⟩ = some (.slice (some ⟨gi, 0, none⟩) Ls[i].length ci) ∧ gi < W.heap.size ∧ NodesAt Ls[i] (some ⟨gi, 0, none⟩) W
theorem PartsAt.below {Ls : List (List NdN)} {g off : Nat} {W W' : World} (h : PartsAt Ls g off W) (hb : Below W.heap.size W W') : PartsAt Ls g off W' :=
  ⟨Nat.lt_of_lt_of_le h.1 hb.size, fun i hi => by
    obtain ⟨gi, ci, h1, h2, h3⟩ := h.2 i hi
    exact ⟨gi, ci, (hb.cell (p := ⟨g, off + i, none⟩) h.1).trans h1, Nat.lt_of_lt_of_le h2 hb.size, h3.below hb⟩⟩
theorem PartsAt.tail {A : List NdN} {Ls : List (List NdN)} {g off : Nat} {W : World} (h : PartsAt (A :: Ls) g off W) : PartsAt Ls g (off + 1) W :=
  ⟨h.1, fun i hi => by
    obtain ⟨gi, ci, h1, h2⟩ := h.2 (i + 1) (by simpa using hi)
    rw [show off + (i + 1) = off + 1 + i by omega] at h1
    exact ⟨gi, ci, h1, h2⟩⟩
set_option maxRecDepth 100000 in
set_option maxHeartbeats 16000000 in
theorem join_calls (k : Int) : ∀ (Ls : List (List NdN)), Ls ≠ [] → (∀ M ∈ Ls, M ≠ [] ∧ Bdd M) → (jnL k Ls).length ≤ 1000 → Ls.length ≤ 1000 → ∀ (g off cap : Nat), Ls.length ≤ cap → ∀ (w : World), PartsAt Ls g off w →
    Calls Tryd.prog 53 #[.slice (some ⟨g, off, none⟩) Ls.length cap, .int .i64 k] w fun e w' => ∃ v, e = .returned v ∧ ((Ls.length = 1 ∧ w.cell? ⟨g, off, none⟩ = some v ∧ w = w') ∨
      (∃ gv cv, v = .slice (some ⟨gv, 0, none⟩) (jnL k Ls).length cv ∧ OwT w.heap.size v (jnL k Ls) w' ∧ Below w.heap.size w w'))
  | [], h, _, _, _ => absurd rfl h
  | [A], _, hall, hln, _ => fun g off cap hcap w h => by
    obtain ⟨gi, ci, h1, h2, h3⟩ := h.2 0 (by simp)
    rw [Nat.add_zero] at h1
    simp only [List.getElem_cons_zero] at h1
    show Calls _ _ #[.slice (some ⟨g, off, none⟩) 1 cap, _] _ _
    go_enter Tryd.func53, Tryd.ntmps53
    go_wp2_with fail
    go_ret
    exact ⟨_, rfl, .inl ⟨trivial, h1, rfl⟩⟩
  | A :: B :: R, _, hall, hln, hln2 => fun g off cap hcap w h => by
    have ih := join_calls k (B :: R) (by simp) (fun M hM => hall M (List.mem_cons_of_mem _ hM))
    obtain ⟨hAne, hAb⟩ := hall A (List.mem_cons_self ..)
    have hA1 : 0 < A.length := List.length_pos_iff.2 hAne
    have hMb0 := bdd_jn k (B :: R) (fun M hM => (hall M (List.mem_cons_of_mem _ hM)).2)
    have hM1 := jnL_pos k (B :: R) (by simp) (fun M hM => (hall M (List.mem_cons_of_mem _ hM)).1)
    rw [jnL, joinT_len] at hln
    rw [jnL]
    generalize hMd : jnL k (B :: R) = M at *
    have hM2 : M.length ≤ 1000 := by omega
    have hA2 : A.length ≤ 1000 := by omega
    have hMb : ∀ x ∈ M, x.kids ≤ 1000 ∧ x.n ≤ 1000 := fun x hx => by have := hMb0 x hx; omega
    have hAb2 : ∀ x ∈ A, x.kids ≤ 1000 ∧ x.n ≤ 1000 := fun x hx => by have := hAb x hx; omega
    have ih2 := ih hM2 (by simp only [List.length_cons] at hln2 ⊢; omega)
    simp only [List.length_cons] at hcap hln2 ih2 ⊢
    obtain ⟨ga, ca, h1, h2, h3⟩ := h.2 0 (by simp)
    rw [Nat.add_zero] at h1
    simp only [List.getElem_cons_zero] at h1 h3
    obtain ⟨gB, cB, b1, b2, b3⟩ := h.tail.2 0 (by simp)
    rw [Nat.add_zero] at b1
    simp only [List.getElem_cons_zero] at b1 b3
    have HT := Lib.hid h.tail
    have HIH := Lib.hid ih2
    have HM1 := Lib.hid hMd
    obtain ⟨n, hn⟩ : ∃ n, R.length + 1 = n := ⟨_, rfl⟩
    rw [hn] at hcap hln2 HIH ⊢
    have HNN := Lib.hid hn
    have hc1 : ¬ (cap = 1) := by omega
    have hc2 : ¬ (1 = cap) := by omega
    have hc3 : 1 < cap := by omega
    have hc4 : 0 < cap - 1 := by omega
    have hc5 : ¬ (cap - 1 = 0) := by omega
    have hc6 : n + 1 - 1 = n := by omega
    have q1 : ((n : Int) + 1 == 1) = false := by rw [beq_eq_false_iff_ne]; omega
    have xa : IntKind.i64.wrap ((A.length : Int) - 1) = (A.length : Int) - 1 := IntWalk.i64_in _ (by omega)
    obtain ⟨i0, hinf, hz0, hz1, hz2⟩ := info_parts info8u
    clear hall ih h hMb0 hMd ih2 hn
    go_enter Tryd.func53, Tryd.ntmps53
    go_wp2_with fail
    refine (shift_calls [] A (by simp) hA1 hA2 hAb2 w.heap.size _ ga 0 ca w (Nat.le_refl _) (World.ownsRow_nil _ _ _ _) h3 (by simp [Value.ownBlock])).mono ?_
    rintro e w2 ⟨g1, c1, rfl, ho1, hk1, hat1⟩
    rw [behL_nil] at ho1
    rw [show ([] : List NdN).length + A.length = A.length by simp] at ho1 ⊢
    have hb2 : Below w.heap.size w w2 := hk1.toBelow (Nat.le_refl _) (fun x hx => by simp [Value.ownBlock] at hx)
    have hg1 := World.ownsRow.lt ho1 g1 rfl
    have HO1 := Lib.hid ho1
    have HB2 := Lib.hid hb2
    have HT2 := Lib.hid (HT.out.below hb2)
    have b1' := (hb2.cell (p := ⟨g, off + 1, none⟩) HT.out.1).trans b1
    have b3' := b3.below hb2
    clear ho1 hk1 hat1 hb2 HT b1 b3 h1 h3
    go_wp2_with fail
    clear hc1 hc2 hc3 hc4 hc5 hc6 q1
    refine (HIH.out g (off + 1) (cap - 1) (by omega) w2 HT2.out).mono ?_
    rintro e w3 ⟨v2, rfl, ⟨hone, hc, rfl⟩ | ⟨gv, cv, rfl, ho2, hb3⟩⟩
    · have hR : R = [] := List.length_eq_zero_iff.1 (by have := HNN.out; omega)
      subst hR
      have hMB : B = M := HM1.out
      subst hMB
      rw [b1'] at hc
      have hv2 := Option.some.inj hc
      subst hv2
      have hne : g1 ≠ gB := by omega
      have HM := Lib.hid b3'
      have HB3 := HB2
      obtain ⟨gb, hgb⟩ : ∃ gb, gb = gB := ⟨gB, rfl⟩
      obtain ⟨cb, hcb⟩ : ∃ cb, cb = cB := ⟨cB, rfl⟩
      subst hgb hcb
      clear hc b1' b3' HIH HM1 HNN hone HT2
      go_wp2_with fail
      have hsz3 := HB3.out.size
      refine (shift_calls A B hA2 hM1 hM2 hMb w.heap.size _ gb 0 cb w2 hsz3 HO1.out HM.out (fun h => hne (by cases h; rfl))).mono ?_
      rintro e w4 ⟨g4, c4, rfl, ho4, hk4, hat4⟩
      have hg1w := (World.ownsRow.lt HO1.out g1 rfl).1
      have hB4 := HB3.out.trans (hk4.toBelow (n := w.heap.size) hsz3 (fun x hx => by cases hx; exact hg1w))
      have hlen4 := behL_len A B
      have BWA : Below w.heap.size w (w4.alloc (.cells #[.int .i64 k, .int .i64 ((A.length : Int) - 1), .int .i64 ((A.length : Int) + (B.length : Int) - 1), .int .i64 0, .int .u64 0, .int .u64 0, .int .u64 0, .int .u64 0] 44)) := hB4.alloc hB4.size _
      have hsz : w.heap.size ≤ (w4.alloc (.cells #[.int .i64 k, .int .i64 ((A.length : Int) - 1), .int .i64 ((A.length : Int) + (B.length : Int) - 1), .int .i64 0, .int .u64 0, .int .u64 0, .int .u64 0, .int .u64 0] 44)).heap.size := BWA.size
      have HO4 := Lib.hid (show w4.ownsRow w.heap.size 44 8 (.slice (some ⟨g4, 0, none⟩) (A.length + B.length) c4) (A.length + B.length) (ndCells (behL A B)) from by have := ho4; unfold OwT at this; rw [hlen4] at this; exact this)
      have HAFT := Lib.hid (show ∀ v W, W.ownsRow w.heap.size 44 8 v (A.length + B.length + 1) (ndCells (behL A B) ++ [.int .i64 k, .int .i64 ((A.length : Int) - 1), .int .i64 ((A.length : Int) + (B.length : Int) - 1), .int .i64 0, .int .u64 0, .int .u64 0, .int .u64 0, .int .u64 0]) → (w4.alloc (.cells #[.int .i64 k, .int .i64 ((A.length : Int) - 1), .int .i64 ((A.length : Int) + (B.length : Int) - 1), .int .i64 0, .int .u64 0, .int .u64 0, .int .u64 0, .int .u64 0] 44)).grownBy W (some g4) → OwT w.heap.size v (joinT A B k) W ∧ Below w.heap.size w W from fun v W h1 h2 => by
        refine ⟨?_, BWA.grown h2 hsz (fun b hb => by cases hb; exact (World.ownsRow.lt HO4.out g4 rfl).1)⟩
        unfold OwT
        have e : joinT A B k = behL A B ++ [⟨k, (A.length : Int) - 1, (A.length : Int) + B.length - 1, 0, 0⟩] := rfl
        rw [e, ndCells_app, cells_top, List.length_append, hlen4]
        exact h1)
      have x2 : IntKind.i64.wrap ((A.length : Int) + (B.length : Int) - 1) = (A.length : Int) + (B.length : Int) - 1 := IntWalk.i64_in _ (by omega)
      clear ho4 hk4 hat4 HO1 HM HB3 hB4 BWA hsz3 hg1w
      go_wp2_with (at_builtin; refine wpList_append_own _ rfl _ _ 31 rfl w.heap.size 44 i0 (.agg #[.int .i64 0, .int .i64 0, .int .i64 0, .int .i64 0, .int .u64 0, .int .u64 0, .int .u64 0, .int .u64 0]) 8 64 Tryd.underlying31 hinf hz0 hz1 hz2 rfl (by decide) _ (A.length + B.length) (ndCells (behL A B)) rfl (HO4.out.alloc _) ⟨w4.heap.size, 0, none⟩ 1 1 [.int .i64 k, .int .i64 ((A.length : Int) - 1), .int .i64 ((A.length : Int) + (B.length : Int) - 1), .int .i64 0, .int .u64 0, .int .u64 0, .int .u64 0, .int .u64 0] rfl rfl (Blk.new w4 _ _).newsL (by simp [Value.oneCell']) (by unfold maxLen; omega) (by omega) hsz ?_; intro v5 w5 hown5 hgrow5 _; obtain ⟨hr1, hr2⟩ := HAFT.out v5 w5 hown5 hgrow5; have HR1 := Lib.hid hr1; have HR2 := Lib.hid hr2; clear hown5 hgrow5 hr1 hr2)
      go_ret
      obtain ⟨gv, cv, e, _, _, _⟩ := HR1.out.nodes (by intro h; have := congrArg List.length h; rw [joinT_len] at this; simp at this)
      exact ⟨v5, rfl, .inr ⟨gv, cv, e, HR1.out, HR2.out⟩⟩
    · obtain ⟨gb, cb, e, hgb1, hgb2, hnb⟩ := ho2.nodes (List.length_pos_iff.1 hM1)
      cases e
      have hg1w := (World.ownsRow.lt HO1.out g1 rfl).2
      have hne : g1 ≠ gv := by omega
      have HM := Lib.hid hnb
      have HO1' := Lib.hid (HO1.out.below hb3)
      have HB3 := Lib.hid (HB2.out.trans (hb3.mono HB2.out.size))
      clear HO1
      have HO1 := HO1'
      obtain ⟨gb, hgb⟩ : ∃ gb, gb = gv := ⟨gv, rfl⟩
      obtain ⟨cb, hcb⟩ : ∃ cb, cb = cv := ⟨cv, rfl⟩
      subst hgb hcb
      clear HO1' ho2 hb3 hnb b1' b3' HIH HM1 HNN HT2 HB2 hg1w
      go_wp2_with fail
      have hsz3 := HB3.out.size
      refine (shift_calls A M hA2 hM1 hM2 hMb w.heap.size _ gb 0 cb w3 hsz3 HO1.out HM.out (fun h => hne (by cases h; rfl))).mono ?_
      rintro e w4 ⟨g4, c4, rfl, ho4, hk4, hat4⟩
      have hg1w := (World.ownsRow.lt HO1.out g1 rfl).1
      have hB4 := HB3.out.trans (hk4.toBelow (n := w.heap.size) hsz3 (fun x hx => by cases hx; exact hg1w))
      have hlen4 := behL_len A M
      have BWA : Below w.heap.size w (w4.alloc (.cells #[.int .i64 k, .int .i64 ((A.length : Int) - 1), .int .i64 ((A.length : Int) + (M.length : Int) - 1), .int .i64 0, .int .u64 0, .int .u64 0, .int .u64 0, .int .u64 0] 44)) := hB4.alloc hB4.size _
      have hsz : w.heap.size ≤ (w4.alloc (.cells #[.int .i64 k, .int .i64 ((A.length : Int) - 1), .int .i64 ((A.length : Int) + (M.length : Int) - 1), .int .i64 0, .int .u64 0, .int .u64 0, .int .u64 0, .int .u64 0] 44)).heap.size := BWA.size
      have HO4 := Lib.hid (show w4.ownsRow w.heap.size 44 8 (.slice (some ⟨g4, 0, none⟩) (A.length + M.length) c4) (A.length + M.length) (ndCells (behL A M)) from by have := ho4; unfold OwT at this; rw [hlen4] at this; exact this)
      have HAFT := Lib.hid (show ∀ v W, W.ownsRow w.heap.size 44 8 v (A.length + M.length + 1) (ndCells (behL A M) ++ [.int .i64 k, .int .i64 ((A.length : Int) - 1), .int .i64 ((A.length : Int) + (M.length : Int) - 1), .int .i64 0, .int .u64 0, .int .u64 0, .int .u64 0, .int .u64 0]) → (w4.alloc (.cells #[.int .i64 k, .int .i64 ((A.length : Int) - 1), .int .i64 ((A.length : Int) + (M.length : Int) - 1), .int .i64 0, .int .u64 0, .int .u64 0, .int .u64 0, .int .u64 0] 44)).grownBy W (some g4) → OwT w.heap.size v (joinT A M k) W ∧ Below w.heap.size w W from fun v W h1 h2 => by
        refine ⟨?_, BWA.grown h2 hsz (fun b hb => by cases hb; exact (World.ownsRow.lt HO4.out g4 rfl).1)⟩
        unfold OwT
        have e : joinT A M k = behL A M ++ [⟨k, (A.length : Int) - 1, (A.length : Int) + M.length - 1, 0, 0⟩] := rfl
        rw [e, ndCells_app, cells_top, List.length_append, hlen4]
        exact h1)
      have x2 : IntKind.i64.wrap ((A.length : Int) + (M.length : Int) - 1) = (A.length : Int) + (M.length : Int) - 1 := IntWalk.i64_in _ (by omega)
      clear ho4 hk4 hat4 HO1 HM HB3 hB4 BWA hsz3 hg1w
      go_wp2_with (at_builtin; refine wpList_append_own _ rfl _ _ 31 rfl w.heap.size 44 i0 (.agg #[.int .i64 0, .int .i64 0, .int .i64 0, .int .i64 0, .int .u64 0, .int .u64 0, .int .u64 0, .int .u64 0]) 8 64 Tryd.underlying31 hinf hz0 hz1 hz2 rfl (by decide) _ (A.length + M.length) (ndCells (behL A M)) rfl (HO4.out.alloc _) ⟨w4.heap.size, 0, none⟩ 1 1 [.int .i64 k, .int .i64 ((A.length : Int) - 1), .int .i64 ((A.length : Int) + (M.length : Int) - 1), .int .i64 0, .int .u64 0, .int .u64 0, .int .u64 0, .int .u64 0] rfl rfl (Blk.new w4 _ _).newsL (by simp [Value.oneCell']) (by unfold maxLen; omega) (by omega) hsz ?_; intro v5 w5 hown5 hgrow5 _; obtain ⟨hr1, hr2⟩ := HAFT.out v5 w5 hown5 hgrow5; have HR1 := Lib.hid hr1; have HR2 := Lib.hid hr2; clear hown5 hgrow5 hr1 hr2)
      go_ret
      obtain ⟨gv, cv, e, _, _, _⟩ := HR1.out.nodes (by intro h; have := congrArg List.length h; rw [joinT_len] at this; simp at this)
      exact ⟨v5, rfl, .inr ⟨gv, cv, e, HR1.out, HR2.out⟩⟩
end Go.Proofs.YtpncomjpmilbkaaDoor

/- The document's terms of trees: lacks. Stage 11. -/
namespace Go.Proofs.YtpncomjpmilbkaaDoor
open Go.RowKit BS

theorem lkL_len (one : List NdN) : ∀ k, 0 < k → (lkL one k).length = k * one.length + (k - 1) + k
  | 1, _ => by rw [lkL, unT_len]; omega
  | k + 2, _ => by
    have ih := lkL_len one (k + 1) (by omega)
    show (unT (joinT one (lkL one (k + 1)) 3) 6 0).length = _
    rw [unT_len, joinT_len, ih, Nat.succ_mul (k + 1)]
    omega
theorem lkL_succ (one : List NdN) (k : Nat) (h : 0 < k) : lkL one (k + 1) = unT (joinT one (lkL one k) 3) 6 0 := by
  obtain ⟨j, rfl⟩ : ∃ j, k = j + 1 := ⟨k - 1, by omega⟩
  rfl
set_option maxRecDepth 100000 in
set_option maxHeartbeats 16000000 in
theorem lacks_calls (one : List NdN) (h1 : 0 < one.length) (hbd : Bdd one) : ∀ (k : Nat), 0 < k → (lkL one k).length ≤ 1000 → ∀ (g c : Nat) (w : World), NodesAt one (some ⟨g, 0, none⟩) w → g < w.heap.size →
    Calls Tryd.prog 55 #[.slice (some ⟨g, 0, none⟩) one.length c, .int .i64 (k : Nat)] w fun e w' => ∃ gv cv, e = .returned (.slice (some ⟨gv, 0, none⟩) (lkL one k).length cv) ∧ OwT w.heap.size (.slice (some ⟨gv, 0, none⟩) (lkL one k).length cv) (lkL one k) w' ∧ Below w.heap.size w w'
  | 1, _, hl => fun g c w h hg => by
    rw [show lkL one 1 = unT one 6 0 from rfl, unT_len] at hl ⊢
    have hb2 : ∀ x ∈ one, x.kids ≤ 1000 ∧ x.n ≤ 1000 := fun x hx => by have := hbd x hx; omega
    go_enter Tryd.func55, Tryd.ntmps55
    go_wp2_with fail
    refine (shift_calls [] one (by simp) h1 (by omega) hb2 w.heap.size _ g 0 c w (Nat.le_refl _) (World.ownsRow_nil _ _ _ _) h (by simp [Value.ownBlock])).mono ?_
    rintro e w2 ⟨g1, c1, rfl, ho1, hk1, hat1⟩
    rw [behL_nil] at ho1
    rw [show ([] : List NdN).length + one.length = one.length by simp] at ho1 ⊢
    have hb3 : Below w.heap.size w w2 := hk1.toBelow (Nat.le_refl _) (fun x hx => by simp [Value.ownBlock] at hx)
    have hg1 := (World.ownsRow.lt ho1 g1 rfl).1
    have HB := Lib.hid hb3
    have HU := Lib.hid (unary_calls one h1 (by omega) 6 0 w.heap.size _ w2 hb3.size ho1)
    clear ho1 hk1 hat1 hb3
    go_wp2_with fail
    refine HU.out.mono ?_
    rintro e w3 ⟨g4, c4, rfl, ho4, hk4, _⟩
    have HO := Lib.hid ho4
    have HB2 := Lib.hid (HB.out.trans (hk4.toBelow (n := w.heap.size) HB.out.size (fun x hx => by cases hx; exact hg1)))
    clear ho4 hk4 HU
    go_wp2_with fail
    go_ret
    exact ⟨g4, c4, rfl, HO.out, HB2.out⟩
  | k + 2, _, hl => fun g c w h hg => by
    have ih := lacks_calls one h1 hbd (k + 1) (by omega)
    rw [lkL_succ one (k + 1) (by omega), unT_len, joinT_len] at hl ⊢
    have hlp : 0 < (lkL one (k + 1)).length := by rw [lkL_len one (k + 1) (by omega)]; omega
    have hbl := bdd_lk one hbd (k + 1)
    have hkl := lkL_len one (k + 1) (by omega)
    have hkb : k + 1 ≤ 1000 := by omega
    generalize lkL one (k + 1) = M at *
    have ih2 := ih (by omega) g c
    have HIH := Lib.hid (fun w h hg => ih2 w h hg)
    have HN := Lib.hid h
    have q1 : (((k + 2 : Nat) : Int) == 1) = false := by rw [beq_eq_false_iff_ne]; omega
    obtain ⟨n, hn⟩ : ∃ n, k + 1 = n := ⟨_, rfl⟩
    have hn2 : ((k + 2 : Nat) : Int) = (n : Int) + 1 := by omega
    rw [hn2] at q1 ⊢
    rw [hn] at HIH
    have xn : IntKind.i64.wrap ((n : Int) + 1 - 1) = (n : Int) := by rw [IntWalk.i64_in _ (by omega)]; omega
    have xn2 : IntKind.i64.wrap (n : Int) = (n : Int) := IntWalk.i64_in _ (by omega)
    clear ih ih2 h hn hn2 hkl
    go_enter Tryd.func55, Tryd.ntmps55
    go_wp2_with fail
    refine (HIH.out _ HN.out hg).mono ?_
    rintro e w2 ⟨gv, cv, rfl, ho, hb⟩
    obtain ⟨gv', cv', e, hgv1, hgv2, hnv⟩ := ho.nodes (List.length_pos_iff.1 hlp)
    cases e
    have HN2 := Lib.hid (HN.out.below hb)
    have HV := Lib.hid hnv
    have HB := Lib.hid hb
    have hgw : g < w2.heap.size := Nat.lt_of_lt_of_le hg hb.size
    clear HIH ho hnv hb HN
    have hP := Blk.new w2 #[.slice (some ⟨g, 0, none⟩) one.length c, .slice (some ⟨gv, 0, none⟩) M.length cv] 31
    have hal : Below w2.heap.size w2 (w2.alloc (.cells #[.slice (some ⟨g, 0, none⟩) one.length c, .slice (some ⟨gv, 0, none⟩) M.length cv] 31)) := (Below.refl _ _).alloc (Nat.le_refl _) _
    have hPA : PartsAt [one, M] w2.heap.size 0 (w2.alloc (.cells #[.slice (some ⟨g, 0, none⟩) one.length c, .slice (some ⟨gv, 0, none⟩) M.length cv] 31)) := ⟨hP.lt, fun i hi => by
      simp only [List.length_cons, List.length_nil] at hi
      have hsz := hal.size
      obtain rfl | rfl : i = 0 ∨ i = 1 := by omega
      · exact ⟨g, c, hP.cell 0, by omega, HN2.out.below hal⟩
      · exact ⟨gv, cv, hP.cell 1, by omega, HV.out.below hal⟩⟩
    have hJC := join_calls 3 [one, M] (by simp) (fun L hL => by
      simp only [List.mem_cons, List.not_mem_nil, or_false] at hL
      rcases hL with rfl | rfl
      · exact ⟨List.length_pos_iff.1 h1, hbd⟩
      · exact ⟨List.length_pos_iff.1 hlp, hbl⟩) (by show (joinT one M 3).length ≤ 1000; rw [joinT_len]; omega) (by show 2 ≤ 1000; decide) w2.heap.size 0 2 (Nat.le_refl _) _ hPA
    have HJC := Lib.hid hJC
    have HB3 := Lib.hid (HB.out.trans (hal.mono HB.out.size))
    clear hP hal hPA hJC HB HN2 HV
    have hlj : (joinT one M 3).length = one.length + M.length + 1 := joinT_len _ _ _
    go_wp2_with fail
    generalize w2.alloc (.cells #[.slice (some ⟨g, 0, none⟩) one.length c, .slice (some ⟨gv, 0, none⟩) M.length cv] 31) = w3 at *
    refine HJC.out.mono ?_
    rintro e w4 ⟨v, rfl, ⟨h0, _, _⟩ | ⟨gj, cj, rfl, ho4, hb4⟩⟩
    · exact absurd h0 (by show ¬ (2 : Nat) = 1; decide)
    have ho4' : OwT w3.heap.size (.slice (some ⟨gj, 0, none⟩) (joinT one M 3).length cj) (joinT one M 3) w4 := ho4
    have hgj := (World.ownsRow.lt ho4' gj rfl).1
    have hB4 := HB3.out.trans (hb4.mono HB3.out.size)
    have hbs : w.heap.size ≤ gj := Nat.le_trans HB3.out.size hgj
    have HB4 := Lib.hid hB4
    have HU := Lib.hid (unary_calls (joinT one M 3) (by omega) (by omega) 6 0 w.heap.size _ w4 hB4.size (ho4'.mono HB3.out.size))
    rw [show (jnL 3 [one, M]).length = one.length + M.length + 1 from hlj]
    rw [hlj] at HU
    clear HJC ho4 ho4' hb4 hgj hB4 HB3
    go_wp2_with fail
    refine HU.out.mono ?_
    rintro e w5 ⟨g5, c5, rfl, ho5, hk5, _⟩
    have HO := Lib.hid ho5
    have HB5 := Lib.hid (HB4.out.trans (hk5.toBelow (n := w.heap.size) HB4.out.size (fun x hx => by cases hx; exact hbs)))
    clear ho5 hk5 HU HB4
    go_wp2_with fail
    go_ret
    exact ⟨g5, c5, rfl, HO.out, HB5.out⟩
end Go.Proofs.YtpncomjpmilbkaaDoor

/- The document's terms of trees: what node wants. Stage 11. -/
namespace Go.Proofs.YtpncomjpmilbkaaDoor
open Go.RowKit BS

/-- What node is handed: the nodes, which may be nothing, and the groups' numbers. -/
structure NdArg (l : List NdN) (a : Option Addr) (gn on gm om : Nat) (W : World) : Prop where
  nodes : NodesAt l a W
  nl : gn < W.heap.size
  nulls : ∀ x, x < l.length → W.cell? ⟨gn, on + x, none⟩ = some (.bool (nulV l x))
  ml : gm < W.heap.size
  nums : ∀ x, x < l.length → W.cell? ⟨gm, om + x, none⟩ = some (.int .i64 ((numsR l).getD x 0))
theorem NdArg.below {l : List NdN} {a : Option Addr} {gn on gm om : Nat} {W W' : World} (h : NdArg l a gn on gm om W) (hb : Below W.heap.size W W') : NdArg l a gn on gm om W' :=
  ⟨h.nodes.below hb, Nat.lt_of_lt_of_le h.nl hb.size, fun x hx => (hb.cell (p := ⟨gn, on + x, none⟩) h.nl).trans (h.nulls x hx), Nat.lt_of_lt_of_le h.ml hb.size, fun x hx => (hb.cell (p := ⟨gm, om + x, none⟩) h.ml).trans (h.nums x hx)⟩
/-- A row of slices of the call's own. -/
def OwP (base : Nat) (v : Value) (vals : List Value) (W : World) : Prop := W.ownsRow base 31 1 v vals.length vals
theorem own_ne {W : World} {base base' : Nat} {v vp : Value} {L : List NdN} {vals : List Value} {g : Nat} (h : OwT base v L W) (hp : OwP base' vp vals W) (hg : v.ownBlock = some g) : vp.ownBlock ≠ some g := by
  intro hq
  rcases h.2 with ⟨rfl, _⟩ | ⟨g1, cap, cur, rfl, _, hb, _⟩
  · simp [Value.ownBlock] at hg
  · rcases hp.2 with ⟨rfl, _⟩ | ⟨g2, cap2, cur2, rfl, _, hb2, _⟩
    · simp [Value.ownBlock] at hq
    · have e1 : g1 = g := by simpa [Value.ownBlock] using hg
      have e2 : g2 = g := by simpa [Value.ownBlock] using hq
      rw [e1] at hb
      rw [e2, hb] at hb2
      have := Option.some.inj hb2
      simp only [Obj.cells.injEq] at this
      exact absurd this.2.1 (by decide)
/-- Each value is a row of a term's nodes. -/
def TmsIn (base : Nat) (Ls : List (List NdN)) (vals : List Value) (W : World) : Prop := vals.length = Ls.length ∧ ∀ x (hx : x < Ls.length), ∃ g c, vals[x]? = some (.slice (some ⟨g, 0, none⟩) Ls[x].length c) ∧ OwT base (.slice (some ⟨g, 0, none⟩) Ls[x].length c) Ls[x] W
theorem TmsIn.nil (base : Nat) (W : World) : TmsIn base [] [] W := ⟨rfl, fun x hx => absurd hx (Nat.not_lt_zero x)⟩
theorem TmsIn.keep {base : Nat} {Ls : List (List NdN)} {vals : List Value} {W W' : World} (h : TmsIn base Ls vals W) (hk : ∀ v L, OwT base v L W → OwT base v L W') : TmsIn base Ls vals W' :=
  ⟨h.1, fun x hx => by obtain ⟨g, c, h1, h2⟩ := h.2 x hx; exact ⟨g, c, h1, hk _ _ h2⟩⟩
theorem TmsIn.below {base : Nat} {Ls : List (List NdN)} {vals : List Value} {W W' : World} (h : TmsIn base Ls vals W) (hb : Below W.heap.size W W') : TmsIn base Ls vals W' := h.keep fun _ _ h => h.below hb
theorem TmsIn.snoc {base : Nat} {Ls : List (List NdN)} {vals : List Value} {W : World} (h : TmsIn base Ls vals W) (L : List NdN) (g c : Nat) (hL : OwT base (.slice (some ⟨g, 0, none⟩) L.length c) L W) : TmsIn base (Ls ++ [L]) (vals ++ [.slice (some ⟨g, 0, none⟩) L.length c]) W := by
  refine ⟨by simp [h.1], fun x hx => ?_⟩
  rw [List.length_append, List.length_cons, List.length_nil] at hx
  rcases Nat.lt_or_ge x Ls.length with h1 | h1
  · obtain ⟨g', c', e1, e2⟩ := h.2 x h1
    rw [List.getElem_append_left h1]
    exact ⟨g', c', by rw [List.getElem?_append_left (by rw [h.1]; exact h1)]; exact e1, e2⟩
  · obtain rfl : x = Ls.length := by omega
    have e : (Ls ++ [L])[Ls.length]'(by simp) = L := by rw [List.getElem_append_right (Nat.le_refl _)]; simp
    rw [e]
    exact ⟨g, c, by rw [List.getElem?_append_right (by rw [h.1]; exact Nat.le_refl _), h.1, Nat.sub_self]; rfl, hL⟩
theorem TmsIn.parts {base base' : Nat} {Ls : List (List NdN)} {vals : List Value} {W : World} {v : Value} (h : TmsIn base Ls vals W) (hne : ∀ L ∈ Ls, L ≠ []) (hl : Ls ≠ []) (ho : OwP base' v vals W) : ∃ g cap, v = .slice (some ⟨g, 0, none⟩) Ls.length cap ∧ Ls.length ≤ cap ∧ PartsAt Ls g 0 W := by
  have hlen : 0 < vals.length := by rw [h.1]; exact List.length_pos_iff.2 hl
  rcases ho.2 with ⟨_, h0⟩ | ⟨g, cap, cur, rfl, hb, hg, hcap, _⟩
  · omega
  · have hgl : g < W.heap.size := (Array.getElem?_eq_some_iff.1 hg).1
    refine ⟨g, cap, by rw [h.1], by rw [← h.1]; exact hcap, hgl, fun i hi => ?_⟩
    obtain ⟨gi, ci, e1, e2⟩ := h.2 i hi
    obtain ⟨gi', ci', e3, _, hgl2, hn⟩ := e2.nodes (hne _ (List.getElem_mem hi))
    cases e3
    rw [Nat.zero_add]
    have hi2 : i < vals.length := by rw [h.1]; exact hi
    exact ⟨gi, ci, (World.ownsRow.cellAt ho i (by omega)).trans e1, hgl2, hn⟩
theorem infoSl : (Tryd.prog.info? 31).map (fun i => (i.zero, i.size, i.bytes)) = some (some (.slice none 0 0), 1, 24) := by kernel_rfl
/-- One node in a block of its own. -/
theorem own_one (W : World) (base : Nat) (hb : base ≤ W.heap.size) (x : NdN) (cs : Array Value) (hcs : cs = ndA x) : OwT base (.slice (some ⟨W.heap.size, 0, none⟩) 1 1) [x] (W.alloc (.cells cs 44)) := by
  subst hcs
  refine ⟨by rw [ndCells_len], .inr ⟨W.heap.size, 1, ndA x, rfl, hb, Blk.new W _ 44, Nat.le_refl _, by unfold maxLen; decide, rfl, ?_⟩⟩
  rw [cells_one]
  exact List.take_of_length_le (Nat.le_refl _)
theorem cells_node (k : Int) (t : BitVec 256) : (#[.int .i64 k, .int .i64 (-1), .int .i64 (-1), .int .i64 0, .int .u64 (wd t 0), .int .u64 (wd t 1), .int .u64 (wd t 2), .int .u64 (wd t 3)] : Array Value) = ndA ⟨k, -1, -1, 0, t⟩ := rfl
theorem cells_eps : (#[.int .i64 1, .int .i64 (-1), .int .i64 (-1), .int .i64 0, .int .u64 0, .int .u64 0, .int .u64 0, .int .u64 0] : Array Value) = ndA ⟨1, -1, -1, 0, 0⟩ := by
  have z1 : wd (0 : BitVec 256) 1 = 0 := by decide
  have z2 : wd (0 : BitVec 256) 2 = 0 := by decide
  have z3 : wd (0 : BitVec 256) 3 = 0 := by decide
  show _ = #[Value.int .i64 1, .int .i64 (-1), .int .i64 (-1), .int .i64 0, .int .u64 ((wd (0 : BitVec 256) 0 : Nat) : Int), .int .u64 ((wd (0 : BitVec 256) 1 : Nat) : Int), .int .u64 ((wd (0 : BitVec 256) 2 : Nat) : Int), .int .u64 ((wd (0 : BitVec 256) 3 : Nat) : Int)]
  rw [z1, z2, z3]
  rfl
/-- The terms of kids. -/
def kdT (l : List NdN) (K : List Int) : List (List NdN) := K.map fun k => enc (tmV l k.toNat)
theorem kdT_len (l : List NdN) (K : List Int) : (kdT l K).length = K.length := by simp [kdT]
theorem kdT_snoc (l : List NdN) (K : List Int) (k : Int) : kdT l (K ++ [k]) = kdT l K ++ [enc (tmV l k.toNat)] := by simp [kdT]
theorem kdT_ne (l : List NdN) (K : List Int) : ∀ L ∈ kdT l K, L ≠ [] := fun L hL => by
  obtain ⟨k, _, rfl⟩ := List.mem_map.1 hL
  exact enc_ne _
theorem kdT_bdd (l : List NdN) (K : List Int) : ∀ L ∈ kdT l K, Bdd L := fun L hL => by
  obtain ⟨k, _, rfl⟩ := List.mem_map.1 hL
  exact bdd_enc _
end Go.Proofs.YtpncomjpmilbkaaDoor

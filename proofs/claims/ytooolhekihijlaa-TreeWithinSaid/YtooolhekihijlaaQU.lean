/- Texts put together: Ip Of Trm. -/
import Derived.Test.YtooolhekihijlaaQP
import Derived.Test.YtooolhekihijlaaQQ
import Derived.Laws.Rows
import Derived.Test.YtooolhekihijlaaQO
/- The laws of stage 10: what they want of the package term; sure, TermTells, TermGroups. -/
namespace Go.Proofs.Ytooolhekihijlaa
open Go.RowKit BS

/-! ### sure -/
def l10 : List NdN := [⟨2, -1, -1, 0, 0⟩, ⟨7, 0, -1, 3, 0⟩, ⟨2, -1, -1, 0, 0⟩, ⟨3, 1, 2, 0, 0⟩]
@[reducible] def c10 : Array Value := #[.int .i64 2, .int .i64 (-1), .int .i64 (-1), .int .i64 0, .int .u64 0, .int .u64 0, .int .u64 0, .int .u64 0, .int .i64 7, .int .i64 0, .int .i64 (-1), .int .i64 3, .int .u64 0, .int .u64 0, .int .u64 0, .int .u64 0, .int .i64 2, .int .i64 (-1), .int .i64 (-1), .int .i64 0, .int .u64 0, .int .u64 0, .int .u64 0, .int .u64 0, .int .i64 3, .int .i64 1, .int .i64 2, .int .i64 0, .int .u64 0, .int .u64 0, .int .u64 0, .int .u64 0]
theorem l10_right : rightT l10 = true := by decide +kernel
theorem l10_not : rightT (l10.take 3) = false := by decide +kernel
theorem l10_up : upsT l10 = [1, 3, 3, -1] := by decide +kernel
theorem l10_deep : deepsT l10 = [3, 2, 2, 1] := by decide +kernel
theorem l10_low : lowsT l10 = [0, 0, 2, 0] := by decide +kernel
theorem l10_top : topT l10 = 3 := by decide +kernel
theorem l10_groups : groupsL l10 1 = [3] := by decide +kernel
set_option maxRecDepth 100000 in
theorem l10_at (W : World) : NodesAt l10 (some ⟨W.heap.size, 0, none⟩) (W.alloc (.cells c10 49)) := fun _ => by
  have hb := Blk.new W c10 49
  refine ⟨W.heap.size, 0, rfl, hb.lt, fun i hi j hj => ?_⟩
  have hi' : i < 4 := hi
  have z1 : wd (0 : BitVec 256) 1 = 0 := by decide
  have z2 : wd (0 : BitVec 256) 2 = 0 := by decide
  have z3 : wd (0 : BitVec 256) 3 = 0 := by decide
  rw [hb.cell]
  obtain rfl | rfl | rfl | rfl : i = 0 ∨ i = 1 ∨ i = 2 ∨ i = 3 := by omega
  all_goals
    obtain rfl | rfl | rfl | rfl | rfl | rfl | rfl | rfl : j = 0 ∨ j = 1 ∨ j = 2 ∨ j = 3 ∨ j = 4 ∨ j = 5 ∨ j = 6 ∨ j = 7 := by omega
    all_goals first
      | rfl
      | (show some (Value.int .u64 0) = some (.int .u64 ((wd (0 : BitVec 256) 1 : Nat) : Int)); rw [z1]; rfl)
      | (show some (Value.int .u64 0) = some (.int .u64 ((wd (0 : BitVec 256) 2 : Nat) : Int)); rw [z2]; rfl)
      | (show some (Value.int .u64 0) = some (.int .u64 ((wd (0 : BitVec 256) 3 : Nat) : Int)); rw [z3]; rfl)
end Go.Proofs.Ytooolhekihijlaa

/- The developers' terms: Right, Low, Groups, Top. Stage 10. -/
namespace Go.Proofs.Ytooolhekihijlaa
open Go.RowKit BS

set_option maxRecDepth 100000 in
set_option maxHeartbeats 4000000 in
theorem tmright_calls (l : List NdN) (hl : l.length ≤ 1000) (a : Option Addr) (cap : Nat) (w : World) (h : NodesAt l a w) :
    Calls Try.prog 29 #[.slice a l.length cap] w fun e w' => e = .returned (.bool (rightT l)) ∧ Below w.heap.size w w' := by
  have HT := Lib.hid (termOf_calls l hl a cap w h)
  clear h
  go_enter Try.func29, Try.ntmps29
  go_wp2_with fail
  refine HT.out.mono ?_
  rintro e w1 ⟨hb, ⟨hr, a', n', c', L, G, rfl⟩ | ⟨hr, L, G, rfl, _, _, _, _, _⟩⟩
  · have HR := Lib.hid hr
    have HB := Lib.hid (hb.alloc hb.size (.cells (tmC a' n' c' L G) 78))
    clear HT hb hr
    go_wp2_with fail
    go_ret
    exact ⟨by rw [HR.out] <;> rfl, HB.out⟩
  · have HR := Lib.hid hr
    have HB := Lib.hid (hb.alloc hb.size (.cells (tmC a l.length cap (some ⟨L, 0, none⟩) (some ⟨G, 0, none⟩)) 78))
    clear HT hb hr
    go_wp2_with fail
    go_ret
    exact ⟨by rw [HR.out] <;> rfl, HB.out⟩
/-! ### Groups -/
theorem any_zero (l : List NdN) (hr : rightT l = true) (lo i : Nat) : anyG l lo 0 i = false := by
  unfold anyG
  rw [List.any_eq_false]
  intro j _
  rw [Bool.and_eq_true]
  rintro ⟨_, h2⟩
  cases hx : l[j]? with
  | none => rw [hx] at h2; cases h2
  | some x =>
    rw [hx] at h2
    obtain ⟨h7, hm⟩ := of_decide_eq_true h2
    obtain ⟨hj, rfl⟩ := List.getElem?_eq_some_iff.1 hx
    obtain ⟨s, hs, hf⟩ := (rightT_q l hr).fine j hj
    have hk := ((fineT_iff l s j l[j]).1 hf).1
    have := ((kindT_two l[j]).1 hk).1.2.2.2.2 h7
    omega
theorem groups_nm (l : List NdN) (hr : rightT l = true) (Q : Nat) (hQ : Q < l.length) : nmL (mI l l.length Q) 10 = groupsL l Q := by
  have e : mI l l.length Q = hasG l (lowV l Q) Q := by
    funext m
    unfold mI
    rw [if_pos hQ]
    rfl
  have hg : groupsL l Q = (grpL l (lowV l Q) Q).map (fun n : Nat => (n : Int)) := by
    unfold groupsL groupsT
    rw [if_pos ⟨hr, by omega, by omega⟩, Int.toNat_natCast, lowT_V l (rightT_q l hr) Q hQ, Int.toNat_natCast]
  rw [e, hg]
  unfold nmL grpL
  congr 1
  have h0 : hasG l (lowV l Q) Q 0 = false := any_zero l hr _ (Q + 1)
  have e2 : List.range 10 = 0 :: (List.range 9).map (· + 1) := by decide
  rw [e2, List.filter_cons_of_neg (by rw [h0]; exact Bool.false_ne_true)]
set_option maxRecDepth 100000 in
set_option maxHeartbeats 8000000 in
theorem groups_calls (l : List NdN) (hl : l.length ≤ 1000) (q : Int) (a : Option Addr) (cap : Nat) (w : World) (h : NodesAt l a w) :
    Calls Try.prog 49 #[.slice a l.length cap, .int .i64 q] w fun e w' => ∃ b c, e = .returned (.slice b (groupsL l q).length c) ∧ IntsB w.heap.size (groupsL l q) b w' ∧ Below w.heap.size w w' := by
  have HT := Lib.hid (termOf_calls l hl a cap w h)
  have hnone : (¬ (rightT l = true ∧ 0 ≤ q ∧ q < l.length)) → groupsL l q = [] := fun hn => by
    unfold groupsL groupsT
    rw [if_neg hn]; rfl
  have HNO := Lib.hid hnone
  clear h hnone
  go_enter Try.func49, Try.ntmps49
  go_wp2_with fail
  refine HT.out.mono ?_
  rintro e w1 ⟨hb, ⟨hr, a', n', c', L, G, rfl⟩ | ⟨hr, L, G, rfl, hL, hG, hL2, hG2, hS⟩⟩
  · have HG := Lib.hid (HNO.out (fun h => by rw [hr] at h; exact absurd h.1 Bool.false_ne_true))
    have HB := Lib.hid (hb.alloc hb.size (.cells (tmC a' n' c' L G) 78))
    clear HT hb hr HNO
    go_wp2_with fail
    go_ret
    exact ⟨none, 0, by rw [HG.out]; rfl, fun h => absurd HG.out h, HB.out⟩
  · have HB := Lib.hid (hb.alloc hb.size (.cells (tmC a l.length cap (some ⟨L, 0, none⟩) (some ⟨G, 0, none⟩)) 78))
    by_cases hq : 0 ≤ q ∧ q < l.length
    · obtain ⟨Q, rfl⟩ : ∃ Q : Nat, q = Q := ⟨q.toNat, by omega⟩
      have hQ : Q < l.length := by omega
      have q1 : decide ((Q : Int) < 0) = false := by rw [decide_eq_false_iff_not]; omega
      have q2 : decide ((l.length : Int) ≤ (Q : Int)) = false := by rw [decide_eq_false_iff_not]; omega
      have q3 : decide (l.length ≤ Q) = false := by rw [decide_eq_false_iff_not]; omega
      have hQI : (Q : Int) < (l.length : Int) := by omega
      have hQd : decide (Q < l.length) = true := decide_eq_true hQ
      have hX := Blk.new w1 (tmC a l.length cap (some ⟨L, 0, none⟩) (some ⟨G, 0, none⟩)) 78
      have HS := Lib.hid (hS.below ((Below.refl w1.heap.size w1).alloc (Nat.le_refl _) (.cells (tmC a l.length cap (some ⟨L, 0, none⟩) (some ⟨G, 0, none⟩)) 78)))
      have HNM := Lib.hid (groups_nm l hr Q hQ)
      clear HT hb hr hS HNO hq
      go_upto_region 2 with fail
      generalize w1.alloc (.cells (tmC a l.length cap (some ⟨L, 0, none⟩) (some ⟨G, 0, none⟩)) 78) = w2 at *
      have c2 := hX.cell 2
      simp only [List.getElem?_toArray, List.getElem?_cons_zero, List.getElem?_cons_succ] at c2
      have hrow := HS.out.row Q hQ
      generalize mI l l.length Q = f at *
      clear hX HS
      have hIM : (Try.prog.info? 94).map (·.size) = some (mkV f).toList.length := infoMk
      go_wp2_with (with_reducible refine wpList_load_mid (op := ⟨_, .load 94 _, _, _, _, _⟩) rfl 94 _ rfl G (Q * 10) rfl (mkV f).toList _ hrow Try.underlying94 rfl hIM ?_)
      refine (numbers_calls f _).mono ?_
      rintro e w3 ⟨b, c, rfl, hi, hb3⟩
      rw [HNM.out] at hi ⊢
      have HI := Lib.hid (show IntsB w.heap.size (groupsL l Q) b w3 from fun hne => by
        obtain ⟨g, o, e, h0, h1, h2⟩ := hi hne
        exact ⟨g, o, e, Nat.le_trans HB.out.size h0, h1, h2⟩)
      have HB3 := Lib.hid (HB.out.trans (hb3.mono HB.out.size))
      clear hi hb3 c2 hrow
      go_wp2_with fail
      go_ret
      exact ⟨b, c, rfl, HI.out, HB3.out⟩
    · have HG := Lib.hid (HNO.out (fun h => hq h.2))
      clear HT hb hr hS HNO
      by_cases h0 : q < 0
      · have q1 : decide (q < 0) = true := decide_eq_true h0
        clear hq h0
        go_wp2_with fail
        go_ret
        exact ⟨none, 0, by rw [HG.out]; rfl, fun h => absurd HG.out h, HB.out⟩
      · have q1 : decide (q < 0) = false := decide_eq_false h0
        have q2 : decide ((l.length : Int) ≤ q) = true := by rw [decide_eq_true_iff]; omega
        clear hq h0
        go_wp2_with fail
        go_ret
        exact ⟨none, 0, by rw [HG.out]; rfl, fun h => absurd HG.out h, HB.out⟩
/-! ### Top -/
def mxF (L : List Nat) : Nat := L.foldl max 0
theorem mxF_snoc (L : List Nat) (x : Nat) : mxF (L ++ [x]) = max (mxF L) x := by simp [mxF]
theorem mxF_le (L : List Nat) (b : Nat) (h : ∀ x ∈ L, x ≤ b) : mxF L ≤ b := by
  have : ∀ (L : List Nat) (a : Nat), a ≤ b → (∀ x ∈ L, x ≤ b) → L.foldl max a ≤ b := fun L => by
    induction L with
    | nil => intro a ha _; exact ha
    | cons x L ih => intro a ha hx; exact ih _ (Nat.max_le.2 ⟨ha, hx x (List.mem_cons_self ..)⟩) fun y hy => hx y (List.mem_cons_of_mem _ hy)
  exact this L 0 (Nat.zero_le _) h
theorem mxF_last (L : List Nat) (h : L.Pairwise (· < ·)) : mxF L = (L.getLast?).getD 0 := by
  rcases List.eq_nil_or_concat L with rfl | ⟨M, x, rfl⟩
  · rfl
  · rw [List.concat_eq_append] at *
    rw [mxF_snoc, List.getLast?_concat, Option.getD_some]
    have := mxF_le M x (fun y hy => Nat.le_of_lt ((List.pairwise_append.1 h).2.2 y hy x (List.mem_singleton.2 rfl)))
    omega
theorem maxI (x y : Nat) : (if x < y then (y : Int) else (x : Int)) = ((max x y : Nat) : Int) := by
  by_cases h : x < y
  · rw [if_pos h, Nat.max_eq_right (by omega)]
  · rw [if_neg h, Nat.max_eq_left (by omega)]
set_option maxRecDepth 100000 in
set_option maxHeartbeats 8000000 in
theorem top_calls (l : List NdN) (hl : l.length ≤ 1000) (a : Option Addr) (cap : Nat) (w : World) (h : NodesAt l a w) :
    Calls Try.prog 33 #[.slice a l.length cap] w fun e w' => e = .returned (.int .i64 (topT l : Nat)) ∧ Below w.heap.size w w' := by
  have HG := Lib.hid (groups_calls l hl ((l.length : Int) - 1) a cap w h)
  have xl : IntKind.i64.wrap ((l.length : Int) - 1) = (l.length : Int) - 1 := IntWalk.i64_in _ (by omega)
  clear h
  have hT : topT l = mxF (groupsT l ((l.length : Int) - 1)) := by
    unfold topT
    cases hr : rightT l with
    | false =>
      unfold groupsT
      rw [if_neg Bool.false_ne_true, hr, if_neg (fun h => Bool.false_ne_true h.1)]
      rfl
    | true =>
      rw [if_pos rfl, groups_root l hr, mxF_last _ (grpL_sorted l 0 (l.length - 1))]
      rfl
  unfold groupsL at HG
  have hg9 := groupsT_len l ((l.length : Int) - 1)
  generalize groupsT l ((l.length : Int) - 1) = G at *
  generalize topT l = T at *
  subst hT
  rw [List.length_map] at HG
  go_enter Try.func33, Try.ntmps33
  go_wp2_with fail
  refine HG.out.mono ?_
  rintro e w1 ⟨b, c, rfl, hi, hb⟩
  have HI := Lib.hid hi
  have HB := Lib.hid hb
  clear HG hi hb
  go_upto_region 3 with fail
  go_loop [3, 12] (fun vt vi => ∃ j : Nat, j ≤ G.length ∧ vi = .int .i64 j ∧ vt = .int .i64 (mxF (G.take j) : Nat)) (fun _ vi => G.length - (intOf vi).toNat)
  case atStart => exact ⟨0, Nat.zero_le _, rfl, rfl⟩
  case round =>
    obtain ⟨j, hj, rfl, rfl⟩ := hrel
    by_cases hlt : j < G.length
    · have hjd : decide ((j : Int) < (G.length : Int)) = true := by rw [decide_eq_true_iff]; omega
      have hjd2 : decide (j < G.length) = true := decide_eq_true hlt
      have hjI : (j : Int) < (G.length : Int) := by omega
      have xj : IntKind.i64.wrap ((j : Int) + 1) = (j : Int) + 1 := IntWalk.i64_in _ (by omega)
      obtain ⟨g, o, rfl, _, hg, hc⟩ := HI.out (by intro h0; have := congrArg List.length h0; simp at this; rw [this] at hlt; simp at hlt)
      have cg := hc j (by simpa using hlt)
      rw [List.getElem_map] at cg
      have hmx := maxI (mxF (G.take j)) G[j]
      rw [← mxF_snoc, ← List.take_succ_eq_append_getElem hlt] at hmx
      clear hc
      generalize hm1 : mxF (G.take (j + 1)) = m1 at *
      have HM := Lib.hid hm1
      generalize mxF (G.take j) = m0 at *
      generalize G[j] = x at *
      clear hm1
      go_wp2_with fail
      go_round
      case rel => exact ⟨j + 1, by omega, by simp, by rw [HM.out]⟩
      case measure => simp [intOf]; omega
    · obtain rfl : j = G.length := by omega
      have hjd : decide ((G.length : Int) < (G.length : Int)) = false := by simp
      rw [List.take_of_length_le (Nat.le_refl _)]
      go_wp2_with fail
      go_ret
      exact ⟨rfl, HB.out⟩
end Go.Proofs.Ytooolhekihijlaa

/- Are two lists of entries the same: the document's Same. Stage 14. -/
namespace Go.Proofs.Ytooolhekihijlaa
open Go.RowKit BS

theorem ahead_zero (a b : List EnN) (hl : a.length = b.length) : aheadT a b = 0 ↔ a = b := by
  constructor
  · intro h
    have h2 := (lexU_zero (atE a) (atE b) (max a.length b.length) 0).1 h
    refine List.ext_getElem hl fun i h1 h3 => ?_
    have := h2 i (Nat.zero_le _) (by omega)
    rw [atE_lt a i h1, atE_lt b i h3] at this
    exact this
  · rintro rfl; exact ahead_self a
set_option maxRecDepth 100000 in
set_option maxHeartbeats 8000000 in
theorem sameE_calls (a b : List EnN) (ha : a.length ≤ 100000) (hb : b.length ≤ 100000) (ad bd : Option Addr) (ca cb : Nat) (w : World) (h : EntsAt a ad w) (k : EntsAt b bd w) :
    Calls Try.prog 15 #[.slice ad a.length ca, .slice bd b.length cb] w fun e w' => e = .returned (.bool (decide (a = b))) ∧ Below w.heap.size w w' := by
  by_cases hl : a.length = b.length
  · have HA := Lib.hid (rAhead_calls a b ha hb ad bd ca cb w h k)
    have HR := Lib.hid (show decide (a = b) = (aheadT a b == 0) by
      rw [Bool.eq_iff_iff, decide_eq_true_iff, beq_iff_eq, ahead_zero a b hl])
    clear h k
    generalize aheadT a b = x at *
    generalize decide (a = b) = R at *
    have q1 : ((a.length : Int) == (b.length : Int)) = true := beq_iff_eq.2 (by omega)
    have q2 : (a.length == b.length) = true := beq_iff_eq.2 hl
    have q3 : decide (a.length = b.length) = true := decide_eq_true hl
    clear hl
    go_enter Try.func15, Try.ntmps15
    go_wp2_with fail
    refine HA.out.mono ?_
    rintro e w1 ⟨rfl, hb1⟩
    go_wp2_with fail
    go_ret
    exact ⟨by rw [HR.out] <;> rfl, hb1⟩
  · have HR := Lib.hid (show decide (a = b) = false from decide_eq_false (fun e => hl (by rw [e])))
    have q1 : ((a.length : Int) == (b.length : Int)) = false := beq_eq_false_iff_ne.2 (by omega)
    have q2 : (a.length == b.length) = false := beq_eq_false_iff_ne.2 hl
    have q3 : decide (a.length = b.length) = false := decide_eq_false hl
    clear h k
    go_enter Try.func15, Try.ntmps15
    go_wp2_with fail
    go_ret
    exact ⟨by rw [HR.out] <;> rfl, Below.refl _ _⟩
end Go.Proofs.Ytooolhekihijlaa

/- Texts put together: Ip Of Tro Tsm. -/
import Derived.Test.YtdpkhliojbeglaaDoorQX
import Derived.Laws.Rows
import Derived.Test.YtdpkhliojbeglaaDoorQW
import Derived.Test.YtdpkhliojbeglaaDoorQC
import Derived.BigQuiet
import Derived.Deep.QuietTactic
/- The laws of stage 10: what they want of the package term; sure, TermTells, TermGroups. -/
namespace Go.Proofs.YtdpkhliojbeglaaDoor
open Go.RowKit BS

/-! ### sure -/
def l10 : List NdN := [⟨2, -1, -1, 0, 0⟩, ⟨7, 0, -1, 3, 0⟩, ⟨2, -1, -1, 0, 0⟩, ⟨3, 1, 2, 0, 0⟩]
@[reducible] def c10 : Array Value := #[.int .i64 2, .int .i64 (-1), .int .i64 (-1), .int .i64 0, .int .u64 0, .int .u64 0, .int .u64 0, .int .u64 0, .int .i64 7, .int .i64 0, .int .i64 (-1), .int .i64 3, .int .u64 0, .int .u64 0, .int .u64 0, .int .u64 0, .int .i64 2, .int .i64 (-1), .int .i64 (-1), .int .i64 0, .int .u64 0, .int .u64 0, .int .u64 0, .int .u64 0, .int .i64 3, .int .i64 1, .int .i64 2, .int .i64 0, .int .u64 0, .int .u64 0, .int .u64 0, .int .u64 0]
theorem l10_right : rightT l10 = true := by decide +kernel
theorem l10_not : rightT (l10.take 3) = false := by decide +kernel
theorem l10_up : upsT l10 = [1, 3, 3, -1] := by decide +kernel
theorem l10_deep : deepsT l10 = [3, 2, 2, 1] := by decide +kernel
theorem l10_low : lowsT l10 = [0, 0, 2, 0] := by decide +kernel
theorem l10_top : topT l10 = 3 := by decide +kernel
theorem l10_groups : groupsL l10 1 = [3] := by decide +kernel
set_option maxRecDepth 100000 in
theorem l10_at (W : World) : NodesAt l10 (some ⟨W.heap.size, 0, none⟩) (W.alloc (.cells c10 60)) := fun _ => by
  have hb := Blk.new W c10 60
  refine ⟨W.heap.size, 0, rfl, hb.lt, fun i hi j hj => ?_⟩
  have hi' : i < 4 := hi
  have z1 : wd (0 : BitVec 256) 1 = 0 := by decide
  have z2 : wd (0 : BitVec 256) 2 = 0 := by decide
  have z3 : wd (0 : BitVec 256) 3 = 0 := by decide
  rw [hb.cell]
  obtain rfl | rfl | rfl | rfl : i = 0 ∨ i = 1 ∨ i = 2 ∨ i = 3 := by omega
  all_goals
    obtain rfl | rfl | rfl | rfl | rfl | rfl | rfl | rfl : j = 0 ∨ j = 1 ∨ j = 2 ∨ j = 3 ∨ j = 4 ∨ j = 5 ∨ j = 6 ∨ j = 7 := by omega
    all_goals first
      | rfl
      | (show some (Value.int .u64 0) = some (.int .u64 ((wd (0 : BitVec 256) 1 : Nat) : Int)); rw [z1]; rfl)
      | (show some (Value.int .u64 0) = some (.int .u64 ((wd (0 : BitVec 256) 2 : Nat) : Int)); rw [z2]; rfl)
      | (show some (Value.int .u64 0) = some (.int .u64 ((wd (0 : BitVec 256) 3 : Nat) : Int)); rw [z3]; rfl)
end Go.Proofs.YtdpkhliojbeglaaDoor

/- The developers' terms: Right, Low, Groups, Top. Stage 10. -/
namespace Go.Proofs.YtdpkhliojbeglaaDoor
open Go.RowKit BS

set_option maxRecDepth 100000 in
set_option maxHeartbeats 4000000 in
theorem tmright_calls (l : List NdN) (hl : l.length ≤ 1000) (a : Option Addr) (cap : Nat) (w : World) (h : NodesAt l a w) :
    Calls Tryd.prog 41 #[.slice a l.length cap] w fun e w' => e = .returned (.bool (rightT l)) ∧ Below w.heap.size w w' := by
  have HT := Lib.hid (termOf_calls l hl a cap w h)
  clear h
  go_enter Tryd.func41, Tryd.ntmps41
  go_wp2_with fail
  refine HT.out.mono ?_
  rintro e w1 ⟨hb, ⟨hr, a', n', c', L, G, rfl⟩ | ⟨hr, L, G, rfl, _, _, _, _, _⟩⟩
  · have HR := Lib.hid hr
    have HB := Lib.hid (hb.alloc hb.size (.cells (tmC a' n' c' L G) 120))
    clear HT hb hr
    go_wp2_with fail
    go_ret
    exact ⟨by rw [HR.out] <;> rfl, HB.out⟩
  · have HR := Lib.hid hr
    have HB := Lib.hid (hb.alloc hb.size (.cells (tmC a l.length cap (some ⟨L, 0, none⟩) (some ⟨G, 0, none⟩)) 120))
    clear HT hb hr
    go_wp2_with fail
    go_ret
    exact ⟨by rw [HR.out] <;> rfl, HB.out⟩
/-! ### Groups -/
theorem any_zero (l : List NdN) (hr : rightT l = true) (lo i : Nat) : anyG l lo 0 i = false := by
  unfold anyG
  rw [List.any_eq_false]
  intro j _
  rw [Bool.and_eq_true]
  rintro ⟨_, h2⟩
  cases hx : l[j]? with
  | none => rw [hx] at h2; cases h2
  | some x =>
    rw [hx] at h2
    obtain ⟨h7, hm⟩ := of_decide_eq_true h2
    obtain ⟨hj, rfl⟩ := List.getElem?_eq_some_iff.1 hx
    obtain ⟨s, hs, hf⟩ := (rightT_q l hr).fine j hj
    have hk := ((fineT_iff l s j l[j]).1 hf).1
    have := ((kindT_two l[j]).1 hk).1.2.2.2.2 h7
    omega
theorem groups_nm (l : List NdN) (hr : rightT l = true) (Q : Nat) (hQ : Q < l.length) : nmL (mI l l.length Q) 10 = groupsL l Q := by
  have e : mI l l.length Q = hasG l (lowV l Q) Q := by
    funext m
    unfold mI
    rw [if_pos hQ]
    rfl
  have hg : groupsL l Q = (grpL l (lowV l Q) Q).map (fun n : Nat => (n : Int)) := by
    unfold groupsL groupsT
    rw [if_pos ⟨hr, by omega, by omega⟩, Int.toNat_natCast, lowT_V l (rightT_q l hr) Q hQ, Int.toNat_natCast]
  rw [e, hg]
  unfold nmL grpL
  congr 1
  have h0 : hasG l (lowV l Q) Q 0 = false := any_zero l hr _ (Q + 1)
  have e2 : List.range 10 = 0 :: (List.range 9).map (· + 1) := by decide
  rw [e2, List.filter_cons_of_neg (by rw [h0]; exact Bool.false_ne_true)]
set_option maxRecDepth 100000 in
set_option maxHeartbeats 8000000 in
theorem groups_calls (l : List NdN) (hl : l.length ≤ 1000) (q : Int) (a : Option Addr) (cap : Nat) (w : World) (h : NodesAt l a w) :
    Calls Tryd.prog 77 #[.slice a l.length cap, .int .i64 q] w fun e w' => ∃ b c, e = .returned (.slice b (groupsL l q).length c) ∧ IntsB w.heap.size (groupsL l q) b w' ∧ Below w.heap.size w w' := by
  have HT := Lib.hid (termOf_calls l hl a cap w h)
  have hnone : (¬ (rightT l = true ∧ 0 ≤ q ∧ q < l.length)) → groupsL l q = [] := fun hn => by
    unfold groupsL groupsT
    rw [if_neg hn]; rfl
  have HNO := Lib.hid hnone
  clear h hnone
  go_enter Tryd.func77, Tryd.ntmps77
  go_wp2_with fail
  refine HT.out.mono ?_
  rintro e w1 ⟨hb, ⟨hr, a', n', c', L, G, rfl⟩ | ⟨hr, L, G, rfl, hL, hG, hL2, hG2, hS⟩⟩
  · have HG := Lib.hid (HNO.out (fun h => by rw [hr] at h; exact absurd h.1 Bool.false_ne_true))
    have HB := Lib.hid (hb.alloc hb.size (.cells (tmC a' n' c' L G) 120))
    clear HT hb hr HNO
    go_wp2_with fail
    go_ret
    exact ⟨none, 0, by rw [HG.out]; rfl, fun h => absurd HG.out h, HB.out⟩
  · have HB := Lib.hid (hb.alloc hb.size (.cells (tmC a l.length cap (some ⟨L, 0, none⟩) (some ⟨G, 0, none⟩)) 120))
    by_cases hq : 0 ≤ q ∧ q < l.length
    · obtain ⟨Q, rfl⟩ : ∃ Q : Nat, q = Q := ⟨q.toNat, by omega⟩
      have hQ : Q < l.length := by omega
      have q1 : decide ((Q : Int) < 0) = false := by rw [decide_eq_false_iff_not]; omega
      have q2 : decide ((l.length : Int) ≤ (Q : Int)) = false := by rw [decide_eq_false_iff_not]; omega
      have q3 : decide (l.length ≤ Q) = false := by rw [decide_eq_false_iff_not]; omega
      have hQI : (Q : Int) < (l.length : Int) := by omega
      have hQd : decide (Q < l.length) = true := decide_eq_true hQ
      have hX := Blk.new w1 (tmC a l.length cap (some ⟨L, 0, none⟩) (some ⟨G, 0, none⟩)) 120
      have HS := Lib.hid (hS.below ((Below.refl w1.heap.size w1).alloc (Nat.le_refl _) (.cells (tmC a l.length cap (some ⟨L, 0, none⟩) (some ⟨G, 0, none⟩)) 120)))
      have HNM := Lib.hid (groups_nm l hr Q hQ)
      clear HT hb hr hS HNO hq
      go_upto_region 2 with fail
      generalize w1.alloc (.cells (tmC a l.length cap (some ⟨L, 0, none⟩) (some ⟨G, 0, none⟩)) 120) = w2 at *
      have c2 := hX.cell 2
      simp only [List.getElem?_toArray, List.getElem?_cons_zero, List.getElem?_cons_succ] at c2
      have hrow := HS.out.row Q hQ
      generalize mI l l.length Q = f at *
      clear hX HS
      have hIM : (Tryd.prog.info? 152).map (·.size) = some (mkV f).toList.length := infoMk
      go_wp2_with (with_reducible refine wpList_load_mid (op := ⟨_, .load 152 _, _, _, _, _⟩) rfl 152 _ rfl G (Q * 10) rfl (mkV f).toList _ hrow Tryd.underlying152 rfl hIM ?_)
      refine (numbers_calls f _).mono ?_
      rintro e w3 ⟨b, c, rfl, hi, hb3⟩
      rw [HNM.out] at hi ⊢
      have HI := Lib.hid (show IntsB w.heap.size (groupsL l Q) b w3 from fun hne => by
        obtain ⟨g, o, e, h0, h1, h2⟩ := hi hne
        exact ⟨g, o, e, Nat.le_trans HB.out.size h0, h1, h2⟩)
      have HB3 := Lib.hid (HB.out.trans (hb3.mono HB.out.size))
      clear hi hb3 c2 hrow
      go_wp2_with fail
      go_ret
      exact ⟨b, c, rfl, HI.out, HB3.out⟩
    · have HG := Lib.hid (HNO.out (fun h => hq h.2))
      clear HT hb hr hS HNO
      by_cases h0 : q < 0
      · have q1 : decide (q < 0) = true := decide_eq_true h0
        clear hq h0
        go_wp2_with fail
        go_ret
        exact ⟨none, 0, by rw [HG.out]; rfl, fun h => absurd HG.out h, HB.out⟩
      · have q1 : decide (q < 0) = false := decide_eq_false h0
        have q2 : decide ((l.length : Int) ≤ q) = true := by rw [decide_eq_true_iff]; omega
        clear hq h0
        go_wp2_with fail
        go_ret
        exact ⟨none, 0, by rw [HG.out]; rfl, fun h => absurd HG.out h, HB.out⟩
/-! ### Top -/
def mxF (L : List Nat) : Nat := L.foldl max 0
theorem mxF_snoc (L : List Nat) (x : Nat) : mxF (L ++ [x]) = max (mxF L) x := by simp [mxF]
theorem mxF_le (L : List Nat) (b : Nat) (h : ∀ x ∈ L, x ≤ b) : mxF L ≤ b := by
  have : ∀ (L : List Nat) (a : Nat), a ≤ b → (∀ x ∈ L, x ≤ b) → L.foldl max a ≤ b := fun L => by
    induction L with
    | nil => intro a ha _; exact ha
    | cons x L ih => intro a ha hx; exact ih _ (Nat.max_le.2 ⟨ha, hx x (List.mem_cons_self ..)⟩) fun y hy => hx y (List.mem_cons_of_mem _ hy)
  exact this L 0 (Nat.zero_le _) h
theorem mxF_last (L : List Nat) (h : L.Pairwise (· < ·)) : mxF L = (L.getLast?).getD 0 := by
  rcases List.eq_nil_or_concat L with rfl | ⟨M, x, rfl⟩
  · rfl
  · rw [List.concat_eq_append] at *
    rw [mxF_snoc, List.getLast?_concat, Option.getD_some]
    have := mxF_le M x (fun y hy => Nat.le_of_lt ((List.pairwise_append.1 h).2.2 y hy x (List.mem_singleton.2 rfl)))
    omega
theorem maxI (x y : Nat) : (if x < y then (y : Int) else (x : Int)) = ((max x y : Nat) : Int) := by
  by_cases h : x < y
  · rw [if_pos h, Nat.max_eq_right (by omega)]
  · rw [if_neg h, Nat.max_eq_left (by omega)]
set_option maxRecDepth 100000 in
set_option maxHeartbeats 8000000 in
theorem top_calls (l : List NdN) (hl : l.length ≤ 1000) (a : Option Addr) (cap : Nat) (w : World) (h : NodesAt l a w) :
    Calls Tryd.prog 53 #[.slice a l.length cap] w fun e w' => e = .returned (.int .i64 (topT l : Nat)) ∧ Below w.heap.size w w' := by
  have HG := Lib.hid (groups_calls l hl ((l.length : Int) - 1) a cap w h)
  have xl : IntKind.i64.wrap ((l.length : Int) - 1) = (l.length : Int) - 1 := IntWalk.i64_in _ (by omega)
  clear h
  have hT : topT l = mxF (groupsT l ((l.length : Int) - 1)) := by
    unfold topT
    cases hr : rightT l with
    | false =>
      unfold groupsT
      rw [if_neg Bool.false_ne_true, hr, if_neg (fun h => Bool.false_ne_true h.1)]
      rfl
    | true =>
      rw [if_pos rfl, groups_root l hr, mxF_last _ (grpL_sorted l 0 (l.length - 1))]
      rfl
  unfold groupsL at HG
  have hg9 := groupsT_len l ((l.length : Int) - 1)
  generalize groupsT l ((l.length : Int) - 1) = G at *
  generalize topT l = T at *
  subst hT
  rw [List.length_map] at HG
  go_enter Tryd.func53, Tryd.ntmps53
  go_wp2_with fail
  refine HG.out.mono ?_
  rintro e w1 ⟨b, c, rfl, hi, hb⟩
  have HI := Lib.hid hi
  have HB := Lib.hid hb
  clear HG hi hb
  go_upto_region 3 with fail
  go_loop [3, 12] (fun vt vi => ∃ j : Nat, j ≤ G.length ∧ vi = .int .i64 j ∧ vt = .int .i64 (mxF (G.take j) : Nat)) (fun _ vi => G.length - (intOf vi).toNat)
  case atStart => exact ⟨0, Nat.zero_le _, rfl, rfl⟩
  case round =>
    obtain ⟨j, hj, rfl, rfl⟩ := hrel
    by_cases hlt : j < G.length
    · have hjd : decide ((j : Int) < (G.length : Int)) = true := by rw [decide_eq_true_iff]; omega
      have hjd2 : decide (j < G.length) = true := decide_eq_true hlt
      have hjI : (j : Int) < (G.length : Int) := by omega
      have xj : IntKind.i64.wrap ((j : Int) + 1) = (j : Int) + 1 := IntWalk.i64_in _ (by omega)
      obtain ⟨g, o, rfl, _, hg, hc⟩ := HI.out (by intro h0; have := congrArg List.length h0; simp at this; rw [this] at hlt; simp at hlt)
      have cg := hc j (by simpa using hlt)
      rw [List.getElem_map] at cg
      have hmx := maxI (mxF (G.take j)) G[j]
      rw [← mxF_snoc, ← List.take_succ_eq_append_getElem hlt] at hmx
      clear hc
      generalize hm1 : mxF (G.take (j + 1)) = m1 at *
      have HM := Lib.hid hm1
      generalize mxF (G.take j) = m0 at *
      generalize G[j] = x at *
      clear hm1
      go_wp2_with fail
      go_round
      case rel => exact ⟨j + 1, by omega, by simp, by rw [HM.out]⟩
      case measure => simp [intOf]; omega
    · obtain rfl : j = G.length := by omega
      have hjd : decide ((G.length : Int) < (G.length : Int)) = false := by simp
      rw [List.take_of_length_le (Nat.le_refl _)]
      go_wp2_with fail
      go_ret
      exact ⟨rfl, HB.out⟩
end Go.Proofs.YtdpkhliojbeglaaDoor

/- What groups span: the document's Spans. Stage 14. -/
namespace Go.Proofs.YtdpkhliojbeglaaDoor
open Go.RowKit BS

@[reducible] def spC (f e : Int) : Array Value := #[.int .i64 f, .int .i64 e]
theorem infoSp : (Tryd.prog.info? 25).map (fun i => (i.zero, i.size, i.bytes)) = some (some (.agg (spC 0 0)), 2, 16) := by kernel_rfl
def spZ (n : Nat) : Array Value := madeCells (spC 0 0) (n * 2)
theorem spZ_get (n k : Nat) (h : k < n) : (spZ n)[k * 2]? = some (.int .i64 0) ∧ (spZ n)[k * 2 + 1]? = some (.int .i64 0) := by
  unfold spZ madeCells
  rw [Array.getElem?_map, Array.getElem?_range, if_pos (by omega), Array.getElem?_map, Array.getElem?_range, if_pos (by omega)]
  have e1 : (k * 2) % 2 = 0 := by omega
  have e2 : (k * 2 + 1) % 2 = 1 := by omega
  constructor
  · show some ((spC 0 0)[(k * 2) % 2]!) = _
    rw [e1]; rfl
  · show some ((spC 0 0)[(k * 2 + 1) % 2]!) = _
    rw [e2]; rfl
theorem makeSp (n : Nat) (hn : n ≤ 1000) (W : World) : (Instr.makeSlice 43 (.int .i64 (n : Int)) (.int .i64 (n : Int))).run Tryd.prog W = .ok (.slice (some ⟨W.heap.size, 0, none⟩) n n) (W.alloc (.cells (spZ n) 25)) := by
  obtain ⟨i, hi, hzz⟩ := Option.map_eq_some_iff.1 infoSp
  simp only [Prod.mk.injEq] at hzz
  obtain ⟨hz, hs, hb⟩ := hzz
  have := run_make (P := Tryd.prog) W 43 25 i _ Tryd.underlying43 hi hz .i64 .i64 n n (by omega) (by omega) (by rw [hb]; omega) (by omega)
  rw [hs, Int.toNat_natCast] at this
  exact this
/-- A slice of spans. -/
def SpnAt (o : List (Int × Int)) (a : Option Addr) (W : World) : Prop :=
  o ≠ [] → ∃ g off, a = some ⟨g, off, none⟩ ∧ g < W.heap.size ∧ ∀ i (h : i < o.length), W.cell? ⟨g, off + i * 2, none⟩ = some (.int .i64 o[i].1) ∧ W.cell? ⟨g, off + i * 2 + 1, none⟩ = some (.int .i64 o[i].2)
theorem SpnAt.below {o : List (Int × Int)} {a : Option Addr} {W W' : World} (h : SpnAt o a W) (hb : Below W.heap.size W W') : SpnAt o a W' := fun hne => by
  obtain ⟨g, off, e, hg, hc⟩ := h hne
  exact ⟨g, off, e, Nat.lt_of_lt_of_le hg hb.size, fun i hi => ⟨(hb.cell (p := ⟨g, off + i * 2, none⟩) hg).trans (hc i hi).1, (hb.cell (p := ⟨g, off + i * 2 + 1, none⟩) hg).trans (hc i hi).2⟩⟩
/-- A whole block of spans. -/
def SpsAt (o : List (Int × Int)) (R : Nat) (W : World) : Prop :=
  ∃ vs : Array Value, vs.size = o.length * 2 ∧ (∀ x (h : x < o.length), vs[x * 2]? = some (.int .i64 o[x].1) ∧ vs[x * 2 + 1]? = some (.int .i64 o[x].2)) ∧ Blk W R vs 25
variable {o : List (Int × Int)} {R : Nat} {W W' : World}
theorem SpsAt.lt (h : SpsAt o R W) : R < W.heap.size := by
  obtain ⟨_, _, _, h3⟩ := h
  exact h3.lt
theorem SpsAt.below (h : SpsAt o R W) (hb : Below W.heap.size W W') : SpsAt o R W' := by
  obtain ⟨vs, h1, h2, h3⟩ := h
  exact ⟨vs, h1, h2, h3.below hb h3.lt⟩
theorem SpsAt.drew (h : SpsAt o R W) : SpsAt o R W.drew := h
theorem SpsAt.cell (h : SpsAt o R W) (x : Nat) (hx : x < o.length) : W.cell? ⟨R, x * 2, none⟩ = some (.int .i64 o[x].1) ∧ W.cell? ⟨R, x * 2 + 1, none⟩ = some (.int .i64 o[x].2) := by
  obtain ⟨vs, _, h2, h3⟩ := h
  exact ⟨(h3.cell _).trans (h2 x hx).1, (h3.cell _).trans (h2 x hx).2⟩
theorem SpsAt.fr (h : SpsAt o R W) (x : Nat) : W.frozen? ⟨R, x, none⟩ = false := by
  obtain ⟨_, _, _, h3⟩ := h
  exact h3.frozen x
theorem SpsAt.set (h : SpsAt o R W) (i : Nat) (_hi : i < o.length) (f e : Int) : SpsAt (o.set i (f, e)) R ((W.setCell ⟨R, i * 2, none⟩ (.int .i64 f)).setCell ⟨R, i * 2 + 1, none⟩ (.int .i64 e)) := by
  obtain ⟨vs, h1, h2, h3⟩ := h
  refine ⟨(vs.setIfInBounds (i * 2) (.int .i64 f)).setIfInBounds (i * 2 + 1) (.int .i64 e), by simp [h1], fun x hx => ?_, (h3.set _ _).set _ _⟩
  rw [List.length_set] at hx
  by_cases hxi : i = x
  · subst hxi
    rw [List.getElem_set_self]
    constructor
    · rw [Array.getElem?_setIfInBounds_ne (by omega), Array.getElem?_setIfInBounds_self_of_lt (by omega)]
    · rw [Array.getElem?_setIfInBounds_self_of_lt (by rw [Array.size_setIfInBounds]; omega)]
  · rw [List.getElem_set_ne hxi]
    constructor
    · rw [Array.getElem?_setIfInBounds_ne (by omega), Array.getElem?_setIfInBounds_ne (by omega)]; exact (h2 x hx).1
    · rw [Array.getElem?_setIfInBounds_ne (by omega), Array.getElem?_setIfInBounds_ne (by omega)]; exact (h2 x hx).2
theorem SpsAt.new (n : Nat) (W : World) : SpsAt (List.replicate n (0, 0)) W.heap.size (W.alloc (.cells (spZ n) 25)) :=
  ⟨spZ n, by rw [List.length_replicate]; exact size_madeCells _ _, fun x hx => by rw [List.length_replicate] at hx; simp only [List.getElem_replicate]; exact spZ_get n x hx, Blk.new W _ _⟩
theorem SpsAt.at (h : SpsAt o R W) : SpnAt o (some ⟨R, 0, none⟩) W := fun _ => ⟨R, 0, rfl, h.lt, fun i hi => by
  simp only [Nat.zero_add]
  exact h.cell i hi⟩
theorem off_len (gs : List Nat) : ∀ o : List (Int × Int), (offS o gs).length = o.length := by
  induction gs with
  | nil => exact fun _ => rfl
  | cons n gs ih => exact fun o => (ih _).trans (List.length_set ..)
theorem spanS_len (l : List NdN) (o : List (Int × Int)) (x : EnN) : (spanS l o x).length = o.length := by
  unfold spanS
  repeat' split
  · exact List.length_set ..
  · exact off_len _ o
  · rfl
  · rfl
theorem spanR_len (l : List NdN) : ∀ (M : List EnN) (o : List (Int × Int)), (M.foldl (spanS l) o).length = o.length
  | [], _ => rfl
  | x :: M, o => (spanR_len l M _).trans (spanS_len l o x)
theorem off_snoc (o : List (Int × Int)) (gs : List Nat) (g : Nat) : offS o (gs ++ [g]) = (offS o gs).set g (-1, -1) := by unfold offS; rw [List.foldl_append]; rfl
theorem all_minus {o : List (Int × Int)} {T : Nat} (hl : o.length = T + 1) (h : ∀ x, x < T + 1 → o[x]? = some (-1, -1)) : o = (-1, -1) :: List.replicate T (-1, -1) := by
  refine List.ext_getElem? fun x => ?_
  by_cases hx : x < T + 1
  · rw [h x hx, ← List.replicate_succ, List.getElem?_replicate, if_pos hx]
  · rw [List.getElem?_eq_none (by omega), List.getElem?_eq_none (by simp; omega)]
theorem ints_set {L : List Int} {b : Option Addr} (h : IntsB (R + 1) L b W) (i : Nat) (v : Value) : IntsB (R + 1) L b (W.setCell ⟨R, i, none⟩ v) := fun hne => by
  obtain ⟨g, o, e, hb, hg, hc⟩ := h hne
  refine ⟨g, o, e, hb, by simpa using hg, fun j hj => ?_⟩
  refine Eq.trans ?_ (hc j hj)
  unfold World.cell?
  simp only
  rw [Below.heap_setCell W ⟨R, i, none⟩ v g (by show g ≠ R; omega)]
theorem groups_len (l : List NdN) (q : Int) : (groupsT l q).length ≤ 9 := by
  unfold groupsT
  split
  · exact Nat.le_trans (List.length_filter_le _ _) (by simp)
  · exact Nat.zero_le _
theorem wp_absK {P : Program} {o : Oper} {a : Act} {w : World} {K : Act → World → Prop} {Q : Exit → Act → World → Prop} (h : ∀ K' : Act → World → Prop, (∀ a' w', K a' w' → K' a' w') → o.wp P a w K' Q) : o.wp P a w K Q := h K (fun _ _ h => h)
set_option maxRecDepth 100000 in
set_option maxHeartbeats 64000000 in
theorem rSpans_calls (l : List NdN) (hl : l.length ≤ 1000) (t : List EnN) (ht : t.length ≤ 1000) (la ta : Option Addr) (lc tc : Nat) (W : World) (hN : NodesAt l la W) (hE : EntsAt t ta W) :
    Calls Tryd.prog 38 #[.slice la l.length lc, .slice ta t.length tc] W fun e W' => ∃ b c, e = .returned (.slice b (spansT l t).length c) ∧ SpnAt (spansT l t) b W' ∧ Below W.heap.size W W' := by
  have HR := tRight_calls l hl la lc W hN
  have HN := Lib.hid hN
  have HE := Lib.hid hE
  clear hN hE
  cases hr : rightT l with
  | false =>
    rw [hr] at HR
    have HX := Lib.hid (show spansT l t = [] by unfold spansT; rw [hr]; rfl)
    clear hr
    go_enter Tryd.func38, Tryd.ntmps38
    go_wp2_with fail
    refine HR.mono ?_
    rintro e w1 ⟨rfl, hb⟩
    go_wp2_with fail
    go_ret
    rw [HX.out]
    exact ⟨_, _, rfl, fun hh => absurd rfl hh, hb⟩
  | true =>
  rw [hr] at HR
  have HX := Lib.hid (show spansT l t = t.foldl (spanS l) (spanI l t) by unfold spansT; rw [if_pos hr])
  have HTC := Lib.hid (fun W' (hW : Below W.heap.size W W') => tTop_calls l hl la lc W' (HN.out.below hW))
  have hTT : topT l = topL l := by unfold topT; rw [if_pos hr]
  rw [hTT] at HTC
  have hT9 : topL l ≤ 9 := by rcases (topL_spec l).2 with h | h <;> omega
  have HGN := Lib.hid (grp_num l hr)
  have HGS := Lib.hid (groups_num l)
  have HI := Lib.hid (show (∀ x r, t = x :: r → spanI l t = (x.from_, x.to) :: List.replicate (topL l) (-1, -1)) ∧ (t = [] → spanI l t = (-1, -1) :: List.replicate (topL l) (-1, -1)) from ⟨fun x r e => by rw [e]; rfl, fun e => by rw [e]; rfl⟩)
  have HGC := Lib.hid (fun (q : Int) W' (hW : Below W.heap.size W W') => tGroups_calls l hl q la lc W' (HN.out.below hW))
  clear hTT hr
  generalize topL l = T at *
  have xT : IntKind.i64.wrap ((T : Int) + 1) = (T : Int) + 1 := IntWalk.i64_in _ (by omega)
  have hmk := fun W => makeSp (T + 1) (by omega) W
  rw [show ((T + 1 : Nat) : Int) = (T : Int) + 1 from rfl] at hmk
  go_enter Tryd.func38, Tryd.ntmps38
  go_wp2_with fail
  refine HR.mono ?_
  rintro e w1 ⟨rfl, hb⟩
  have HB1 := Lib.hid hb
  clear HR hb
  go_wp2_with fail
  refine (HTC.out w1 HB1.out).mono ?_
  rintro e w2 ⟨rfl, hb2⟩
  have HB2 := Lib.hid (HB1.out.trans (hb2.mono HB1.out.size))
  clear HTC hb2 HB1
  go_upto_region 4 with fail
  have HS0 := Lib.hid (SpsAt.new (T + 1) w2)
  have HB3 := Lib.hid (HB2.out.alloc HB2.out.size (.cells (spZ (T + 1)) 25))
  have hRW : W.heap.size ≤ w2.heap.size := HB2.out.size
  clear HB2 hmk xT
  generalize w2.alloc (.cells (spZ (T + 1)) 25) = w3 at *
  generalize w2.heap.size = R at *
  clear w2
  go_wp2_with fail
  go_loopw [6] (fun vi wr => ∃ i : Nat, i ≤ T + 1 ∧ vi = .int .i64 i ∧ (∃ o : List (Int × Int), o.length = T + 1 ∧ (∀ x, x < i → o[x]? = some (-1, -1)) ∧ SpsAt o R wr) ∧ Below W.heap.size W wr) (fun vi _ => T + 1 - (intOf vi).toNat)
  case atStart => exact ⟨0, Nat.zero_le _, rfl, ⟨_, List.length_replicate .., fun x hx => absurd hx (by omega), HS0.out⟩, HB3.out⟩
  case round =>
    obtain ⟨i, hi, rfl, ⟨o, hol, hom, hs⟩, hB⟩ := hrel
    by_cases hlt : i < T + 1
    · have p1 : decide ((i : Int) < ((T + 1 : Nat) : Int)) = true := by rw [decide_eq_true_iff]; omega
      have p2 : decide (i < T + 1) = true := decide_eq_true hlt
      have p3 : (i : Int) < ((T + 1 : Nat) : Int) := by omega
      have p4 : (i : Int) < (T : Int) + 1 := by omega
      have p5 : decide ((i : Int) < (T : Int) + 1) = true := decide_eq_true p4
      have xi : IntKind.i64.wrap ((i : Int) + 1) = (i : Int) + 1 := IntWalk.i64_in _ (by omega)
      obtain ⟨c0, c1⟩ := hs.cell i (by omega)
      have f0 := hs.fr (i * 2); have f1 := hs.fr (i * 2 + 1)
      have HS2 := Lib.hid (hs.set i (by omega) (-1) (-1))
      have HB4 := Lib.hid (below_set (below_set hB (show W.heap.size ≤ R from hRW) (i * 2) (.int .i64 (-1))) (show W.heap.size ≤ R from hRW) (i * 2 + 1) (.int .i64 (-1)))
      have HOM := Lib.hid hom
      clear hs hB hom HS0 HB3
      go_wp2_with fail
      go_roundw
      case rel =>
        refine ⟨i + 1, by omega, by simp, ⟨o.set i (-1, -1), by rw [List.length_set]; exact hol, fun x hx => ?_, HS2.out⟩, HB4.out⟩
        by_cases he : i = x
        · subst he; rw [List.getElem?_set_self (by omega)]
        · rw [List.getElem?_set_ne he]; exact HOM.out x (by omega)
      case measure => simp [intOf]; omega
    · obtain rfl : i = T + 1 := by omega
      have p1 : decide ((T : Int) + 1 < ((T + 1 : Nat) : Int)) = false := by rw [decide_eq_false_iff_not]; omega
      have ho := all_minus hol hom
      have HOL := Lib.hid hol
      clear hol hom HS0 HB3
      subst ho
      have HS1 := Lib.hid hs
      have HB1 := Lib.hid hB
      clear hs hB
      obtain ⟨z, hz⟩ : ∃ z, decide (0 < t.length) = z := ⟨_, rfl⟩
      go_upto_if 30 with fail
      go_cut [5] from 31 to 41 (fun v wx => v = .slice (some ⟨R, 0, none⟩) (T + 1) (T + 1) ∧ SpsAt (spanI l t) R wx ∧ Below W.heap.size W wx)
      case first =>
        cases z
        case true =>
          have h0 : 0 < t.length := of_decide_eq_true hz
          have p3 : decide ((0 : Int) < (t.length : Int)) = true := by rw [decide_eq_true_iff]; omega
          have p4 : (0 : Int) < (t.length : Int) := by omega
          obtain ⟨g, off, rfl, hg, hc⟩ := HE.out (by rintro rfl; simp at h0)
          have d2 := (HB1.out.cell (p := ⟨g, off + 0 * 4 + 2, none⟩) hg).trans (hc 0 h0 2 (by decide))
          have d3 := (HB1.out.cell (p := ⟨g, off + 0 * 4 + 3, none⟩) hg).trans (hc 0 h0 3 (by decide))
          simp only [enA, List.getElem?_toArray, List.getElem?_cons_zero, List.getElem?_cons_succ, Nat.zero_mul, Nat.add_zero] at d2 d3
          have hI : spanI l t = (t[0].from_, t[0].to) :: List.replicate T (-1, -1) := by
            obtain ⟨x, r, e⟩ : ∃ x r, t = x :: r := by
              cases t with
              | nil => simp at h0
              | cons x r => exact ⟨x, r, rfl⟩
            rw [HI.out.1 x r e]; simp [e]
          have HII := Lib.hid hI
          generalize t[0].from_ = fx at *
          generalize t[0].to = tx at *
          obtain ⟨c0, c1⟩ := HS1.out.cell 0 (by simp)
          obtain ⟨b0, b1⟩ := HS1.out.drew.cell 0 (by simp)
          simp only [Nat.zero_mul, Nat.zero_add] at c0 c1 b0 b1
          have f0 := HS1.out.drew.fr 0; have f1 := HS1.out.drew.fr 1
          have e0 := HS1.out.fr 0; have e1 := HS1.out.fr 1
          have HS2 := Lib.hid (HS1.out.set 0 (by simp) fx tx).drew
          have HB4 := Lib.hid (below_set (below_set HB1.out (show W.heap.size ≤ R from hRW) (0 * 2) (.int .i64 fx)) (show W.heap.size ≤ R from hRW) (0 * 2 + 1) (.int .i64 tx)).drew
          clear hc hI HB1 HS1
          go_upto_region 9 with fail
          refine region_stepsT (S := fun W => W = wr.drew) (m := 11) (n := 11) (k := 0) rfl (by kernel_rfl) rfl ?_
          simp only [List.size_toArray, List.length_cons, List.length_nil, Nat.reduceAdd, Array.replicate_succ, Array.replicate_zero, List.push_toArray, List.nil_append, List.cons_append]
          refine AnyT.nextC (m := 11) (i := 0) (d := some 31) (v := .slice (some ⟨R, 0, none⟩) (T + 1) (T + 1)) [10, 0] rfl rfl (by kernel_rfl) (by kernel_rfl) (by kernel_rfl) (by kernel_rfl) (StepsIf.yield (by kernel_rfl) (fun w' hS => by clear hS; go_simp)) ?_
          intro a' ha'
          simp only [Act.put, List.setIfInBounds_toArray, List.set_cons_zero, List.set_cons_succ] at ha'
          subst ha'
          refine AnyT.nextC (m := 11) (i := 1) (d := some 32) (v := .slice (some ⟨g, off, none⟩) t.length tc) [9, 4, 3, 2, 1] rfl rfl (by kernel_rfl) (by kernel_rfl) (by kernel_rfl) (by kernel_rfl) (StepsIf.yield (by kernel_rfl) (fun w' hS => by clear hS; go_simp)) ?_
          intro a' ha'
          simp only [Act.put, List.setIfInBounds_toArray, List.set_cons_zero, List.set_cons_succ] at ha'
          subst ha'
          refine AnyT.nextC (m := 11) (i := 2) (d := some 33) (v := .pointer (some ⟨g, off, none⟩)) [9, 4, 3, 2] rfl rfl (by kernel_rfl) (by kernel_rfl) (by kernel_rfl) (by kernel_rfl) (StepsIf.yield (by kernel_rfl) (fun w' hS => by clear hS; go_simp)) ?_
          intro a' ha'
          simp only [Act.put, List.setIfInBounds_toArray, List.set_cons_zero, List.set_cons_succ] at ha'
          subst ha'
          refine AnyT.nextC (m := 11) (i := 3) (d := some 34) (v := .pointer (some ⟨g, off + 2, none⟩)) [9, 4, 3] rfl rfl (by kernel_rfl) (by kernel_rfl) (by kernel_rfl) (by kernel_rfl) (StepsIf.yield (by kernel_rfl) (fun w' hS => by clear hS; go_simp)) ?_
          intro a' ha'
          simp only [Act.put, List.setIfInBounds_toArray, List.set_cons_zero, List.set_cons_succ] at ha'
          subst ha'
          refine AnyT.nextC (m := 11) (i := 4) (d := some 35) (v := .int .i64 fx) [9, 4] rfl rfl (by kernel_rfl) (by kernel_rfl) (by kernel_rfl) (by kernel_rfl) (StepsIf.yield (by kernel_rfl) (fun w' hS => by rw [hS]; clear hS; go_simp)) ?_
          intro a' ha'
          simp only [Act.put, List.setIfInBounds_toArray, List.set_cons_zero, List.set_cons_succ] at ha'
          subst ha'
          refine AnyT.nextC (m := 11) (i := 5) (d := some 36) (v := .slice (some ⟨g, off, none⟩) t.length tc) [9, 8, 7, 6, 5] rfl rfl (by kernel_rfl) (by kernel_rfl) (by kernel_rfl) (by kernel_rfl) (StepsIf.yield (by kernel_rfl) (fun w' hS => by clear hS; go_simp)) ?_
          intro a' ha'
          simp only [Act.put, List.setIfInBounds_toArray, List.set_cons_zero, List.set_cons_succ] at ha'
          subst ha'
          refine AnyT.nextC (m := 11) (i := 6) (d := some 37) (v := .pointer (some ⟨g, off, none⟩)) [9, 8, 7, 6] rfl rfl (by kernel_rfl) (by kernel_rfl) (by kernel_rfl) (by kernel_rfl) (StepsIf.yield (by kernel_rfl) (fun w' hS => by clear hS; go_simp)) ?_
          intro a' ha'
          simp only [Act.put, List.setIfInBounds_toArray, List.set_cons_zero, List.set_cons_succ] at ha'
          subst ha'
          refine AnyT.nextC (m := 11) (i := 7) (d := some 38) (v := .pointer (some ⟨g, off + 3, none⟩)) [9, 8, 7] rfl rfl (by kernel_rfl) (by kernel_rfl) (by kernel_rfl) (by kernel_rfl) (StepsIf.yield (by kernel_rfl) (fun w' hS => by clear hS; go_simp)) ?_
          intro a' ha'
          simp only [Act.put, List.setIfInBounds_toArray, List.set_cons_zero, List.set_cons_succ] at ha'
          subst ha'
          refine AnyT.nextC (m := 11) (i := 8) (d := some 39) (v := .int .i64 tx) [9, 8] rfl rfl (by kernel_rfl) (by kernel_rfl) (by kernel_rfl) (by kernel_rfl) (StepsIf.yield (by kernel_rfl) (fun w' hS => by rw [hS]; clear hS; go_simp)) ?_
          intro a' ha'
          simp only [Act.put, List.setIfInBounds_toArray, List.set_cons_zero, List.set_cons_succ] at ha'
          subst ha'
          refine AnyT.nextC (m := 11) (i := 9) (d := some 40) (v := .agg #[.int .i64 fx, .int .i64 tx]) [9] rfl rfl (by kernel_rfl) (by kernel_rfl) (by kernel_rfl) (by kernel_rfl) (StepsIf.yield (by kernel_rfl) (fun w' hS => by clear hS; go_simp)) ?_
          intro a' ha'
          simp only [Act.put, List.setIfInBounds_toArray, List.set_cons_zero, List.set_cons_succ] at ha'
          subst ha'
          refine AnyT.nextC (m := 11) (i := 10) (d := some 41) (v := .pointer (some ⟨R, 0, none⟩)) [10] rfl rfl (by kernel_rfl) (by kernel_rfl) (by kernel_rfl) (by kernel_rfl) (StepsIf.yield (by kernel_rfl) (fun w' hS => by clear hS; go_simp)) ?_
          intro a' ha'
          simp only [Act.put, List.setIfInBounds_toArray, List.set_cons_zero, List.set_cons_succ] at ha'
          subst ha'
          refine AnyT.endC (by kernel_rfl) (fun w' hS => ?_)
          subst hS
          refine wpAny_one (i := 11) (o := ⟨none, .store 25 (.tmp 41) (.tmp 40), _, _, _, _⟩) (by kernel_rfl) rfl (by kernel_rfl) ?_
          refine wp_absK (fun K hK => ?_)
          go_simp
          refine hK _ _ ?_
          clear hK K
          refine wpAny_none (P := Tryd.prog) (by kernel_rfl) ?_
          go_wp2_with fail
          go_meet
          exact ⟨rfl, by rw [HII.out]; exact HS2.out, HB4.out⟩
        case false =>
          have h0 : ¬ 0 < t.length := of_decide_eq_false hz
          have HII := Lib.hid (HI.out.2 (List.eq_nil_of_length_eq_zero (by omega)))
          go_wp2_with fail
          go_meet
          exact ⟨rfl, by rw [HII.out]; exact HS1.out, HB1.out⟩
      case rest =>
      obtain ⟨rfl, hs2, hb2⟩ := hcut
      have HS2 := Lib.hid hs2
      have HB2 := Lib.hid hb2
      clear hs2 hb2 HS1 HB1
      have hIl : (spanI l t).length = T + 1 := by
        cases ht0 : t with
        | nil => rw [← ht0, HI.out.2 ht0]; simp
        | cons x r => rw [← ht0, HI.out.1 x r ht0]; simp
      have HSL := Lib.hid (show (spansT l t).length = T + 1 by rw [HX.out, spanR_len]; exact hIl)
      clear hz HOL
      go_wp2_with fail
      go_loopw [7] (fun vi wq => ∃ i : Nat, i ≤ t.length ∧ vi = .int .i64 i ∧ SpsAt ((t.take i).foldl (spanS l) (spanI l t)) R wq ∧ Below W.heap.size W wq) (fun vi _ => t.length - (intOf vi).toNat)
      case atStart => exact ⟨0, Nat.zero_le _, rfl, HS2.out, HB2.out⟩
      case round =>
        obtain ⟨i, hi, rfl, hs, hB⟩ := hrel
        clear HS2 HB2
        by_cases hlt : i < t.length
        · have p2 : decide (i < t.length) = true := decide_eq_true hlt
          have p3 : decide ((i : Int) < (t.length : Int)) = true := by rw [decide_eq_true_iff]; omega
          have p4 : (i : Int) < (t.length : Int) := by omega
          have xi : IntKind.i64.wrap ((i : Int) + 1) = (i : Int) + 1 := IntWalk.i64_in _ (by omega)
          obtain ⟨g, off, rfl, hg, hc⟩ := HE.out (by rintro rfl; simp at hlt)
          have d1 := (hB.cell (p := ⟨g, off + i * 4 + 1, none⟩) hg).trans (hc i hlt 1 (by decide))
          have d2 := (hB.cell (p := ⟨g, off + i * 4 + 2, none⟩) hg).trans (hc i hlt 2 (by decide))
          have d3 := (hB.cell (p := ⟨g, off + i * 4 + 3, none⟩) hg).trans (hc i hlt 3 (by decide))
          simp only [enA, List.getElem?_toArray, List.getElem?_cons_zero, List.getElem?_cons_succ] at d1 d2 d3
          have hstep : (t.take (i + 1)).foldl (spanS l) (spanI l t) = spanS l ((t.take i).foldl (spanS l) (spanI l t)) t[i] := by
            rw [List.take_succ_eq_append_getElem hlt, List.foldl_append]; rfl
          have hol : ((t.take i).foldl (spanS l) (spanI l t)).length = T + 1 := by rw [spanR_len]; exact hIl
          generalize (t.take i).foldl (spanS l) (spanI l t) = o at *
          generalize t[i] = x at *
          obtain ⟨xd, xn, xf, xt⟩ := x
          replace hstep := hstep.trans (show spanS l o ⟨xd, xn, xf, xt⟩ = (if 0 ≤ xn ∧ xn < l.length then (if (ndE l xn.toNat).kind = 7 then o.set (ndE l xn.toNat).m.toNat (xf, xt) else if (ndE l xn.toNat).kind = 8 then offS o (groupsT l xn) else o) else o) from rfl)
          simp only at d1 d2 d3
          have HS := Lib.hid hs
          have HB := Lib.hid hB
          by_cases hq : 0 ≤ xn ∧ xn < l.length
          · obtain ⟨q, rfl⟩ : ∃ q : Nat, xn = q := ⟨xn.toNat, by omega⟩
            have hql : q < l.length := by omega
            have q1 : decide ((q : Int) < 0) = false := by rw [decide_eq_false_iff_not]; omega
            have q2 : decide ((l.length : Int) ≤ (q : Int)) = false := by rw [decide_eq_false_iff_not]; omega
            have q3 : decide (l.length ≤ q) = false := by rw [decide_eq_false_iff_not]; omega
            have q4 : (q : Int) < (l.length : Int) := by omega
            have q5 : decide (q < l.length) = true := decide_eq_true hql
            obtain ⟨gl, ol, rfl, hgl, hcl⟩ := HN.out (by rintro rfl; simp at hql)
            have n0 := (hB.cell (p := ⟨gl, ol + q * 8, none⟩) hgl).trans (hcl q hql 0 (by decide))
            have n3 := (hB.cell (p := ⟨gl, ol + q * 8 + 3, none⟩) hgl).trans (hcl q hql 3 (by decide))
            have hw0 := hcl q hql 0 (by decide)
            simp only [ndA, List.getElem?_toArray, List.getElem?_cons_zero, List.getElem?_cons_succ, Nat.add_zero] at n0 n3 hw0
            have hnd : ndE l q = l[q] := by simp [ndE, hql]
            rw [if_pos hq, Int.toNat_natCast] at hstep
            simp only [hnd] at hstep
            have hgn := HGN.out q hql
            generalize l[q].m = km at *
            generalize l[q].kind = kk at *
            clear hc hcl hnd hq hs hB
            by_cases h7 : kk = 7
            · subst h7
              obtain ⟨m, rfl, hm1, hmT⟩ := hgn rfl
              rw [if_pos rfl, Int.toNat_natCast] at hstep
              have hmI : (m : Int) < (T : Int) + 1 := by omega
              have hmd : decide (m < T + 1) = true := by rw [decide_eq_true_iff]; omega
              obtain ⟨c0, c1⟩ := HS.out.cell m (by omega)
              obtain ⟨b0, b1⟩ := HS.out.drew.cell m (by omega)
              have f0 := HS.out.drew.fr (m * 2); have f1 := HS.out.drew.fr (m * 2 + 1)
              have e0 := HS.out.fr (m * 2); have e1 := HS.out.fr (m * 2 + 1)
              have HS5 := Lib.hid (HS.out.set m (by omega) xf xt).drew
              have HB5 := Lib.hid (below_set (below_set HB.out (show W.heap.size ≤ R from hRW) (m * 2) (.int .i64 xf)) (show W.heap.size ≤ R from hRW) (m * 2 + 1) (.int .i64 xt)).drew
              have HST := Lib.hid hstep
              have N05 := Lib.hid ((HB5.out.cell (p := ⟨gl, ol + q * 8, none⟩) hgl).trans hw0)
              clear hstep HS HB
              go_upto_region 16 with fail
              refine region_stepsT (S := fun W => W = wr.drew) (m := 18) (n := 18) (k := 0) rfl (by kernel_rfl) rfl ?_
              simp only [List.size_toArray, List.length_cons, List.length_nil, Nat.reduceAdd, Array.replicate_succ, Array.replicate_zero, List.push_toArray, List.nil_append, List.cons_append]
              refine AnyT.nextC (m := 18) (i := 0) (d := some 67) (v := .slice (some ⟨R, 0, none⟩) (T + 1) (T + 1)) [17, 0] rfl rfl (by kernel_rfl) (by kernel_rfl) (by kernel_rfl) (by kernel_rfl) (StepsIf.yield (by kernel_rfl) (fun w' hS => by clear hS; go_simp)) ?_
              intro a' ha'
              simp only [Act.put, List.setIfInBounds_toArray, List.set_cons_zero, List.set_cons_succ] at ha'
              subst ha'
              refine AnyT.nextC (m := 18) (i := 1) (d := some 68) (v := .slice (some ⟨gl, ol, none⟩) l.length lc) [17, 5, 4, 3, 1] rfl rfl (by kernel_rfl) (by kernel_rfl) (by kernel_rfl) (by kernel_rfl) (StepsIf.yield (by kernel_rfl) (fun w' hS => by clear hS; go_simp)) ?_
              intro a' ha'
              simp only [Act.put, List.setIfInBounds_toArray, List.set_cons_zero, List.set_cons_succ] at ha'
              subst ha'
              refine AnyT.nextC (m := 18) (i := 2) (d := some 69) (v := .int .i64 (q : Nat)) [17, 5, 4, 3, 2] rfl rfl (by kernel_rfl) (by kernel_rfl) (by kernel_rfl) (by kernel_rfl) (StepsIf.yield (by kernel_rfl) (fun w' hS => by clear hS; go_simp)) ?_
              intro a' ha'
              simp only [Act.put, List.setIfInBounds_toArray, List.set_cons_zero, List.set_cons_succ] at ha'
              subst ha'
              refine AnyT.nextC (m := 18) (i := 3) (d := some 70) (v := .pointer (some ⟨gl, ol + q * 8, none⟩)) [17, 5, 4, 3] rfl rfl (by kernel_rfl) (by kernel_rfl) (by kernel_rfl) (by kernel_rfl) (StepsIf.yield (by kernel_rfl) (fun w' hS => by clear hS; go_simp)) ?_
              intro a' ha'
              simp only [Act.put, List.setIfInBounds_toArray, List.set_cons_zero, List.set_cons_succ] at ha'
              subst ha'
              refine AnyT.nextC (m := 18) (i := 4) (d := some 71) (v := .pointer (some ⟨gl, ol + q * 8 + 3, none⟩)) [17, 5, 4] rfl rfl (by kernel_rfl) (by kernel_rfl) (by kernel_rfl) (by kernel_rfl) (StepsIf.yield (by kernel_rfl) (fun w' hS => by clear hS; go_simp)) ?_
              intro a' ha'
              simp only [Act.put, List.setIfInBounds_toArray, List.set_cons_zero, List.set_cons_succ] at ha'
              subst ha'
              refine AnyT.nextC (m := 18) (i := 5) (d := some 72) (v := .int .i64 (m : Nat)) [17, 5] rfl rfl (by kernel_rfl) (by kernel_rfl) (by kernel_rfl) (by kernel_rfl) (StepsIf.yield (by kernel_rfl) (fun w' hS => by rw [hS]; clear hS; go_simp)) ?_
              intro a' ha'
              simp only [Act.put, List.setIfInBounds_toArray, List.set_cons_zero, List.set_cons_succ] at ha'
              subst ha'
              refine AnyT.nextC (m := 18) (i := 6) (d := some 73) (v := .slice (some ⟨g, off, none⟩) t.length tc) [16, 10, 9, 8, 6] rfl rfl (by kernel_rfl) (by kernel_rfl) (by kernel_rfl) (by kernel_rfl) (StepsIf.yield (by kernel_rfl) (fun w' hS => by clear hS; go_simp)) ?_
              intro a' ha'
              simp only [Act.put, List.setIfInBounds_toArray, List.set_cons_zero, List.set_cons_succ] at ha'
              subst ha'
              refine AnyT.nextC (m := 18) (i := 7) (d := some 74) (v := .int .i64 (i : Nat)) [16, 10, 9, 8, 7] rfl rfl (by kernel_rfl) (by kernel_rfl) (by kernel_rfl) (by kernel_rfl) (StepsIf.yield (by kernel_rfl) (fun w' hS => by clear hS; go_simp)) ?_
              intro a' ha'
              simp only [Act.put, List.setIfInBounds_toArray, List.set_cons_zero, List.set_cons_succ] at ha'
              subst ha'
              refine AnyT.nextC (m := 18) (i := 8) (d := some 75) (v := .pointer (some ⟨g, off + i * 4, none⟩)) [16, 10, 9, 8] rfl rfl (by kernel_rfl) (by kernel_rfl) (by kernel_rfl) (by kernel_rfl) (StepsIf.yield (by kernel_rfl) (fun w' hS => by clear hS; go_simp)) ?_
              intro a' ha'
              simp only [Act.put, List.setIfInBounds_toArray, List.set_cons_zero, List.set_cons_succ] at ha'
              subst ha'
              refine AnyT.nextC (m := 18) (i := 9) (d := some 76) (v := .pointer (some ⟨g, off + i * 4 + 2, none⟩)) [16, 10, 9] rfl rfl (by kernel_rfl) (by kernel_rfl) (by kernel_rfl) (by kernel_rfl) (StepsIf.yield (by kernel_rfl) (fun w' hS => by clear hS; go_simp)) ?_
              intro a' ha'
              simp only [Act.put, List.setIfInBounds_toArray, List.set_cons_zero, List.set_cons_succ] at ha'
              subst ha'
              refine AnyT.nextC (m := 18) (i := 10) (d := some 77) (v := .int .i64 xf) [16, 10] rfl rfl (by kernel_rfl) (by kernel_rfl) (by kernel_rfl) (by kernel_rfl) (StepsIf.yield (by kernel_rfl) (fun w' hS => by rw [hS]; clear hS; go_simp)) ?_
              intro a' ha'
              simp only [Act.put, List.setIfInBounds_toArray, List.set_cons_zero, List.set_cons_succ] at ha'
              subst ha'
              refine AnyT.nextC (m := 18) (i := 11) (d := some 78) (v := .slice (some ⟨g, off, none⟩) t.length tc) [16, 15, 14, 13, 11] rfl rfl (by kernel_rfl) (by kernel_rfl) (by kernel_rfl) (by kernel_rfl) (StepsIf.yield (by kernel_rfl) (fun w' hS => by clear hS; go_simp)) ?_
              intro a' ha'
              simp only [Act.put, List.setIfInBounds_toArray, List.set_cons_zero, List.set_cons_succ] at ha'
              subst ha'
              refine AnyT.nextC (m := 18) (i := 12) (d := some 79) (v := .int .i64 (i : Nat)) [16, 15, 14, 13, 12] rfl rfl (by kernel_rfl) (by kernel_rfl) (by kernel_rfl) (by kernel_rfl) (StepsIf.yield (by kernel_rfl) (fun w' hS => by clear hS; go_simp)) ?_
              intro a' ha'
              simp only [Act.put, List.setIfInBounds_toArray, List.set_cons_zero, List.set_cons_succ] at ha'
              subst ha'
              refine AnyT.nextC (m := 18) (i := 13) (d := some 80) (v := .pointer (some ⟨g, off + i * 4, none⟩)) [16, 15, 14, 13] rfl rfl (by kernel_rfl) (by kernel_rfl) (by kernel_rfl) (by kernel_rfl) (StepsIf.yield (by kernel_rfl) (fun w' hS => by clear hS; go_simp)) ?_
              intro a' ha'
              simp only [Act.put, List.setIfInBounds_toArray, List.set_cons_zero, List.set_cons_succ] at ha'
              subst ha'
              refine AnyT.nextC (m := 18) (i := 14) (d := some 81) (v := .pointer (some ⟨g, off + i * 4 + 3, none⟩)) [16, 15, 14] rfl rfl (by kernel_rfl) (by kernel_rfl) (by kernel_rfl) (by kernel_rfl) (StepsIf.yield (by kernel_rfl) (fun w' hS => by clear hS; go_simp)) ?_
              intro a' ha'
              simp only [Act.put, List.setIfInBounds_toArray, List.set_cons_zero, List.set_cons_succ] at ha'
              subst ha'
              refine AnyT.nextC (m := 18) (i := 15) (d := some 82) (v := .int .i64 xt) [16, 15] rfl rfl (by kernel_rfl) (by kernel_rfl) (by kernel_rfl) (by kernel_rfl) (StepsIf.yield (by kernel_rfl) (fun w' hS => by rw [hS]; clear hS; go_simp)) ?_
              intro a' ha'
              simp only [Act.put, List.setIfInBounds_toArray, List.set_cons_zero, List.set_cons_succ] at ha'
              subst ha'
              refine AnyT.nextC (m := 18) (i := 16) (d := some 83) (v := .agg #[.int .i64 xf, .int .i64 xt]) [16] rfl rfl (by kernel_rfl) (by kernel_rfl) (by kernel_rfl) (by kernel_rfl) (StepsIf.yield (by kernel_rfl) (fun w' hS => by clear hS; go_simp)) ?_
              intro a' ha'
              simp only [Act.put, List.setIfInBounds_toArray, List.set_cons_zero, List.set_cons_succ] at ha'
              subst ha'
              refine AnyT.nextC (m := 18) (i := 17) (d := some 84) (v := .pointer (some ⟨R, m * 2, none⟩)) [17] rfl rfl (by kernel_rfl) (by kernel_rfl) (by kernel_rfl) (by kernel_rfl) (StepsIf.yield (by kernel_rfl) (fun w' hS => by clear hS; go_simp)) ?_
              intro a' ha'
              simp only [Act.put, List.setIfInBounds_toArray, List.set_cons_zero, List.set_cons_succ] at ha'
              subst ha'
              refine AnyT.endC (by kernel_rfl) (fun w' hS => ?_)
              subst hS
              refine wpAny_one (i := 18) (o := ⟨none, .store 25 (.tmp 84) (.tmp 83), _, _, _, _⟩) (by kernel_rfl) rfl (by kernel_rfl) ?_
              refine wp_absK (fun K hK => ?_)
              go_simp
              refine hK _ _ ?_
              clear hK K
              refine wpAny_none (P := Tryd.prog) (by kernel_rfl) ?_
              clear c0 c1 b0 b1 f0 f1 e0 e1 d1 d2 d3 n3
              have n0 := N05.out
              go_wp2_with fail
              go_roundw
              case rel => exact ⟨i + 1, by omega, by simp, by rw [HST.out]; exact HS5.out, HB5.out⟩
              case measure => simp [intOf]; omega
            · have k7 : (kk == 7) = false := beq_eq_false_iff_ne.2 h7
              have k7' : decide (kk = 7) = false := decide_eq_false h7
              rw [if_neg h7] at hstep
              by_cases h8 : kk = 8
              · subst h8
                rw [if_pos rfl] at hstep
                have HST := Lib.hid hstep
                have HGQ := Lib.hid (HGS.out (q : Int))
                have hcall : Calls Tryd.prog 57 #[.slice (some ⟨gl, ol, none⟩) l.length lc, .int .i64 (q : Int)] wr fun e w' => ∃ b c, e = .returned (.slice b (groupsT l (q : Int)).length c) ∧ IntsB wr.heap.size ((groupsT l (q : Int)).map fun n : Nat => (n : Int)) b w' ∧ Below wr.heap.size wr w' := (HGC.out (q : Int) wr HB.out).mono (fun e w' h => by
                  obtain ⟨b, c, rfl, h1, h2⟩ := h
                  exact ⟨b, c, by unfold groupsL; rw [List.length_map], h1, h2⟩)
                have hg9 := groups_len l (q : Int)
                generalize groupsT l (q : Int) = G at *
                clear hstep n3 d2 d3 hgn
                go_wp2_with fail
                refine hcall.mono ?_
                rintro e w4 ⟨b, c, rfl, hG, hb4⟩
                have HS4 := Lib.hid (HS.out.below hb4)
                have HB4 := Lib.hid (HB.out.trans (hb4.mono HB.out.size))
                have hRlt : R < wr.heap.size := HS.out.lt
                have HG := Lib.hid (show IntsB (R + 1) (G.map fun n : Nat => (n : Int)) b w4 from fun hne => by
                  obtain ⟨g', o', e', hb', hg', hc'⟩ := hG hne
                  exact ⟨g', o', e', by omega, hg', hc'⟩)
                clear hcall hG hb4 HS HB n0 hRlt
                go_wp2_with fail
                go_loopw [10] (fun vk w5 => ∃ j : Nat, j ≤ G.length ∧ vk = .int .i64 j ∧ SpsAt (offS o (G.take j)) R w5 ∧ IntsB (R + 1) (G.map fun n : Nat => (n : Int)) b w5 ∧ Below W.heap.size W w5) (fun vk _ => G.length - (intOf vk).toNat)
                case atStart => exact ⟨0, Nat.zero_le _, rfl, HS4.out, HG.out, HB4.out⟩
                case round =>
                  obtain ⟨j, hj, rfl, hs, hG, hB⟩ := hrel
                  clear HS4 HG HB4
                  by_cases hjl : j < G.length
                  · have j2 : decide (j < G.length) = true := decide_eq_true hjl
                    have j3 : decide ((j : Int) < (G.length : Int)) = true := by rw [decide_eq_true_iff]; omega
                    have j4 : (j : Int) < (G.length : Int) := by omega
                    have xj : IntKind.i64.wrap ((j : Int) + 1) = (j : Int) + 1 := IntWalk.i64_in _ (by omega)
                    obtain ⟨gg, og, rfl, hgb, hgs, hgc⟩ := hG (by intro e; rw [List.map_eq_nil_iff] at e; rw [e] at hjl; simp at hjl)
                    have cg := hgc j (by rw [List.length_map]; exact hjl)
                    rw [List.getElem_map] at cg
                    have hn := HGQ.out G[j] (List.getElem_mem hjl)
                    have hol2 : (offS o (G.take j)).length = T + 1 := by rw [off_len]; exact hol
                    have hsn : offS o (G.take (j + 1)) = (offS o (G.take j)).set G[j] (-1, -1) := by rw [List.take_succ_eq_append_getElem hjl, off_snoc]
                    generalize G[j] = gn at *
                    have hmI : (gn : Int) < (T : Int) + 1 := by omega
                    have hmd : decide (gn < T + 1) = true := by rw [decide_eq_true_iff]; omega
                    obtain ⟨c0, c1⟩ := hs.cell gn (by omega)
                    have f0 := hs.fr (gn * 2); have f1 := hs.fr (gn * 2 + 1)
                    have HS5 := Lib.hid (hs.set gn (by omega) (-1) (-1))
                    have HG5 := Lib.hid (ints_set (ints_set hG (gn * 2) (.int .i64 (-1))) (gn * 2 + 1) (.int .i64 (-1)))
                    have HB5 := Lib.hid (below_set (below_set hB (show W.heap.size ≤ R from hRW) (gn * 2) (.int .i64 (-1))) (show W.heap.size ≤ R from hRW) (gn * 2 + 1) (.int .i64 (-1)))
                    have HSN := Lib.hid hsn
                    clear hs hG hB hsn hgc
                    go_wp2_with fail
                    go_roundw
                    case rel => exact ⟨j + 1, by omega, by simp, by rw [HSN.out]; exact HS5.out, HG5.out, HB5.out⟩
                    case measure => simp [intOf]; omega
                  · obtain rfl : j = G.length := by omega
                    rw [List.take_length] at hs
                    have HS5 := Lib.hid hs
                    have HB5 := Lib.hid hB
                    clear hs hG hB
                    go_wp2_with fail
                    go_roundw
                    case rel =>
                      iterate 69 apply Exists.intro
                      refine ⟨⟨i + 1, by omega, ?_, by rw [HST.out]; exact HS5.out, HB5.out⟩, rfl⟩
                      simp
                    case measure => simp [intOf]; omega
              · have k8 : (kk == 8) = false := beq_eq_false_iff_ne.2 h8
                have k8' : decide (kk = 8) = false := decide_eq_false h8
                rw [if_neg h8] at hstep
                have HST := Lib.hid hstep
                clear hstep
                go_wp2_with fail
                go_roundw
                case rel => exact ⟨i + 1, by omega, by simp, by rw [HST.out]; exact HS.out, HB.out⟩
                case measure => simp [intOf]; omega
          · rw [if_neg hq] at hstep
            have HST := Lib.hid hstep
            clear hstep hc hs hB
            rcases Int.lt_or_le xn 0 with h0 | h0
            · have q1 : decide (xn < 0) = true := decide_eq_true h0
              clear hq h0
              go_wp2_with fail
              go_roundw
              case rel => exact ⟨i + 1, by omega, by simp, by rw [HST.out]; exact HS.out, HB.out⟩
              case measure => simp [intOf]; omega
            · have q1 : decide (xn < 0) = false := by rw [decide_eq_false_iff_not]; omega
              have q2 : decide ((l.length : Int) ≤ xn) = true := by rw [decide_eq_true_iff]; omega
              clear hq h0
              go_wp2_with fail
              go_roundw
              case rel => exact ⟨i + 1, by omega, by simp, by rw [HST.out]; exact HS.out, HB.out⟩
              case measure => simp [intOf]; omega
        · obtain rfl : i = t.length := by omega
          rw [List.take_length, ← HX.out] at hs
          have HS := Lib.hid hs
          clear hs
          go_wp2_with fail
          go_ret
          exact ⟨_, T + 1, by rw [HSL.out] <;> rfl, HS.out.at, hB⟩
end Go.Proofs.YtdpkhliojbeglaaDoor

/- What groups span: the developers' nowhere, groupsIn. Stage 14. -/
namespace Go.Proofs.YtdpkhliojbeglaaDoor
open Go.RowKit BS

theorem infoSp2 : (Tryd.prog.info? 25).map (·.size) = some 2 := by kernel_rfl
set_option maxRecDepth 100000 in
set_option maxHeartbeats 4000000 in
theorem nowhere_calls (w : World) : Calls Tryd.prog 54 #[] w fun e w' => e = .returned (.agg (spC (-1) (-1))) ∧ Below w.heap.size w w' := by
  have hR := Blk.new w (spC 0 0) 25
  have hB0 : Below w.heap.size w (w.alloc (.cells (spC 0 0) 25)) := (Below.refl _ _).alloc (Nat.le_refl _) _
  have HR3 := Lib.hid ((hR.set 0 (.int .i64 (-1))).set 1 (.int .i64 (-1)))
  have HB3 := Lib.hid (below_set (below_set hB0 (Nat.le_refl _) 0 (.int .i64 (-1))) (Nat.le_refl _) 1 (.int .i64 (-1)))
  have r0 := hR.cell 0; have r1 := hR.cell 1
  have s0 := hR.frozen 0; have s1 := hR.frozen 1
  simp only [List.getElem?_toArray, List.getElem?_cons_zero, List.getElem?_cons_succ] at r0 r1
  clear hR hB0
  go_enter Tryd.func54, Tryd.ntmps54
  go_upto_region 1 with fail
  generalize w.alloc (.cells (spC 0 0) 25) = w1 at *
  go_wp2_with fail
  exact bodyPost_ret (v := .agg (spC (-1) (-1))) (results_cell_row rfl _ _ w.heap.size 25 (spC (-1) (-1)) (0, 0) _ rfl HR3.out Tryd.underlying25 rfl infoSp2) rfl ⟨rfl, HB3.out⟩
/-- The groups in each Iter of the first i nodes. -/
def gIn (l : List NdN) (i x : Nat) : List Int := if x < i ∧ (ndE l x).kind = 8 then groupsL l x else []
/-- Rows that were stored one by one. -/
def RowG (n G : Nat) (f : Nat → List Int) (W : World) : Prop := ∃ vs : Array Value, vs.size = n ∧ Blk W G vs 54 ∧ ∀ x, x < n → ∃ b c, vs[x]? = some (.slice b (f x).length c) ∧ IntsB (G + 1) (f x) b W
theorem RowG.below {n G : Nat} {f : Nat → List Int} {W W' : World} (h : RowG n G f W) (hb : Below W.heap.size W W') : RowG n G f W' := by
  obtain ⟨vs, h1, h2, h3⟩ := h
  exact ⟨vs, h1, h2.below hb h2.lt, fun x hx => by
    obtain ⟨b, c, e, hi⟩ := h3 x hx
    exact ⟨b, c, e, hi.below hb⟩⟩
theorem RowG.set {n G : Nat} {f : Nat → List Int} {W : World} (h : RowG n G f W) (i : Nat) {L : List Int} {b : Option Addr} (c : Nat) (hL : IntsB (G + 1) L b W) : RowG n G (fun x => if x = i then L else f x) (W.setCell ⟨G, i, none⟩ (.slice b L.length c)) := by
  obtain ⟨vs, h1, h2, h3⟩ := h
  refine ⟨vs.setIfInBounds i (.slice b L.length c), by simp [h1], h2.set i _, fun x hx => ?_⟩
  by_cases hxi : x = i
  · subst hxi
    simp only [if_true]
    exact ⟨b, c, by rw [Array.getElem?_setIfInBounds_self_of_lt (by omega)], ints_set hL _ _⟩
  · simp only [if_neg hxi]
    obtain ⟨b2, c2, e, hi⟩ := h3 x hx
    exact ⟨b2, c2, by rw [Array.getElem?_setIfInBounds_ne (Ne.symm hxi)]; exact e, ints_set hi _ _⟩
theorem RowG.congr {n G : Nat} {f g : Nat → List Int} {W : World} (h : RowG n G f W) (he : ∀ x, x < n → f x = g x) : RowG n G g W := by
  obtain ⟨vs, h1, h2, h3⟩ := h
  exact ⟨vs, h1, h2, fun x hx => by rw [← he x hx]; exact h3 x hx⟩
theorem RowG.at {n G : Nat} {f : Nat → List Int} {W : World} (h : RowG n G f W) : RowsAt ((List.range n).map f) (some ⟨G, 0, none⟩) W := fun _ => by
  obtain ⟨vs, h1, h2, h3⟩ := h
  refine ⟨G, 0, rfl, h2.lt, fun i hi => ?_⟩
  have hi2 : i < n := by simpa using hi
  obtain ⟨b, c, e1, e2⟩ := h3 i hi2
  have e : ((List.range n).map f)[i] = f i := by simp
  rw [e, Nat.zero_add]
  exact ⟨b, c, (h2.cell i).trans e1, e2.o⟩
theorem RowG.new (W : World) (n : Nat) : RowG n W.heap.size (fun _ => []) (W.alloc (.cells (madeCells #[.slice none 0 0] n) 54)) := by
  refine ⟨_, size_madeCells _ _, Blk.new W _ _, fun x hx => ⟨none, 0, ?_, fun h => absurd rfl h⟩⟩
  unfold madeCells
  rw [Array.getElem?_map, Array.getElem?_range, if_pos hx]
  have e : x % 1 = 0 := Nat.mod_one x
  show some ((#[Value.slice none 0 0])[x % 1]!) = _
  rw [e]; rfl
theorem ints_more {b b' : Nat} {L : List Int} {a : Option Addr} {W : World} (h : IntsB b L a W) (hb : b' ≤ b) : IntsB b' L a W := fun hne => by
  obtain ⟨g, o, e, h1, h2, h3⟩ := h hne
  exact ⟨g, o, e, Nat.le_trans hb h1, h2, h3⟩
set_option maxRecDepth 100000 in
set_option maxHeartbeats 16000000 in
theorem groupsIn_calls (l : List NdN) (hl : l.length ≤ 1000) (la : Option Addr) (lc : Nat) (W : World) (hN : NodesAt l la W) :
    Calls Tryd.prog 55 #[.slice la l.length lc] W fun e W' => ∃ G, e = .returned (.slice (some ⟨G, 0, none⟩) l.length l.length) ∧ W.heap.size ≤ G ∧ RowG l.length G (gIn l l.length) W' ∧ Below W.heap.size W W' := by
  have HN := Lib.hid hN
  have HGC := Lib.hid (fun (q : Int) W' (hW : Below W.heap.size W W') => groups_calls l hl q la lc W' (HN.out.below hW))
  have hmk := fun W => run_make_row' (P := Tryd.prog) 108 54 (.slice none 0 0) 24 Tryd.underlying108 infoR12 rfl .i64 .i64 l.length (by omega) (by omega) W
  have HB0 := Lib.hid ((Below.refl W.heap.size W).alloc (Nat.le_refl _) (.cells (madeCells #[.slice none 0 0] l.length) 54))
  have HR0 := Lib.hid (RowG.new W l.length)
  have hz0 : W.heap.size < (W.alloc (.cells (madeCells #[.slice none 0 0] l.length) 54)).heap.size := by rw [World.size_alloc]; omega
  clear hN
  go_enter Tryd.func55, Tryd.ntmps55
  go_upto_region 2 with fail
  clear hmk
  generalize W.alloc (.cells (madeCells #[.slice none 0 0] l.length) 54) = w1 at *
  go_wp2_with fail
  go_loopw [11] (fun vi wr => ∃ i : Nat, i ≤ l.length ∧ vi = .int .i64 i ∧ RowG l.length W.heap.size (gIn l i) wr ∧ Below W.heap.size W wr ∧ w1.heap.size ≤ wr.heap.size) (fun vi _ => l.length - (intOf vi).toNat)
  case atStart => exact ⟨0, Nat.zero_le _, rfl, HR0.out.congr (fun x _ => by unfold gIn; rw [if_neg (fun h => absurd h.1 (Nat.not_lt_zero _))]), HB0.out, Nat.le_refl _⟩
  case round =>
    obtain ⟨i, hi, rfl, hs, hB, hz⟩ := hrel
    clear HR0 HB0
    by_cases hlt : i < l.length
    · have p1 : decide ((i : Int) < (l.length : Int)) = true := by rw [decide_eq_true_iff]; omega
      have p2 : decide (i < l.length) = true := decide_eq_true hlt
      have p4 : (i : Int) < (l.length : Int) := by omega
      have xi : IntKind.i64.wrap ((i : Int) + 1) = (i : Int) + 1 := IntWalk.i64_in _ (by omega)
      obtain ⟨gl, ol, rfl, hgl, hcl⟩ := HN.out (by rintro rfl; simp at hlt)
      have cc := fun (j : Nat) (hj : j < 8) => (hB.cell (p := ⟨gl, ol + i * 8 + j, none⟩) hgl).trans (hcl i hlt j hj)
      have hstep : ∀ x, gIn l (i + 1) x = if x = i then (if (ndE l i).kind = 8 then groupsL l i else []) else gIn l i x := fun x => by
        unfold gIn
        by_cases hx : x = i
        · subst hx
          rw [if_pos rfl]
          by_cases h8 : (ndE l x).kind = 8
          · rw [if_pos ⟨by omega, h8⟩, if_pos h8]
          · rw [if_neg (fun h => h8 h.2), if_neg h8]
        · rw [if_neg hx]
          by_cases h8 : x < i ∧ (ndE l x).kind = 8
          · rw [if_pos h8, if_pos ⟨by omega, h8.2⟩]
          · rw [if_neg h8, if_neg (fun h => h8 ⟨by omega, h.2⟩)]
      have hold : gIn l i i = [] := by unfold gIn; rw [if_neg (fun h => absurd h.1 (Nat.lt_irrefl i))]
      have hnd : ndE l i = l[i] := by simp [ndE, hlt]
      rw [hnd] at hstep
      generalize l[i] = x at *
      obtain ⟨k0, a, b, m, s⟩ := x
      simp only at hstep
      have c0 := cc 0 (by decide); have c1 := cc 1 (by decide); have c2 := cc 2 (by decide); have c3 := cc 3 (by decide); have c4 := cc 4 (by decide); have c5 := cc 5 (by decide); have c6 := cc 6 (by decide); have c7 := cc 7 (by decide)
      simp only [ndA, List.getElem?_toArray, List.getElem?_cons_zero, List.getElem?_cons_succ, Nat.add_zero] at c0 c1 c2 c3 c4 c5 c6 c7
      have bN := Blk.new wr (ndI k0 a b m s) 60
      have hba : Below wr.heap.size wr (wr.alloc (.cells (ndI k0 a b m s) 60)) := (Below.refl _ _).alloc (Nat.le_refl _) _
      have HS := Lib.hid (hs.below hba)
      have HB := Lib.hid (hB.trans (hba.mono hB.size))
      have HST := Lib.hid hstep
      have hz2 := Nat.le_trans hz hba.size
      clear cc hcl hs hB hba hnd hstep
      go_upto_region 5 with fail
      clear c0 c1 c2 c3 c4 c5 c6 c7
      generalize wr.alloc (.cells (ndI k0 a b m s) 60) = w2 at *
      have d0 := bN.cell 0
      simp only [List.getElem?_toArray, List.getElem?_cons_zero] at d0
      clear bN
      by_cases h8 : k0 = 8
      · subst h8
        go_wp2_with fail
        refine (HGC.out i w2 HB.out).mono ?_
        rintro e w3 ⟨gb, gc, rfl, hgi, hb3⟩
        have hs3 := HS.out.below hb3
        have HS4 := Lib.hid (hs3.set i gc (ints_more hgi (by omega)))
        obtain ⟨vs, v1, v2, v3⟩ := hs3
        have hvi : vs[i]? ≠ none := by rw [Array.getElem?_eq_getElem (by omega)]; simp
        obtain ⟨ob, oc, ov, _⟩ := v3 i hlt
        have cS := (v2.cell i).trans ov
        have fS := v2.frozen i
        have HB4 := Lib.hid (below_set (HB.out.trans (hb3.mono HB.out.size)) (Nat.le_refl _) i (.slice gb (groupsL l i).length gc))
        have hz4 := Nat.le_trans hz2 hb3.size
        clear v1 v2 v3 hvi ov hgi hb3 HS HB d0
        go_wp2_with fail
        go_roundw
        case rel => exact ⟨i + 1, by omega, by simp, HS4.out.congr (fun x _ => by rw [HST.out x]; by_cases hx : x = i <;> simp [hx]), HB4.out, by simpa using hz4⟩
        case measure => simp [intOf]; omega
      · have q8 : (k0 == 8) = false := beq_eq_false_iff_ne.2 h8
        have HST2 := Lib.hid (show ∀ x, gIn l (i + 1) x = gIn l i x from fun x => by
          rw [HST.out x]
          by_cases hx : x = i
          · subst hx; rw [if_pos rfl, if_neg h8, hold]
          · rw [if_neg hx])
        clear HST h8
        go_wp2_with fail
        go_roundw
        case rel => exact ⟨i + 1, by omega, by simp, HS.out.congr (fun x _ => (HST2.out x).symm), HB.out, hz2⟩
        case measure => simp [intOf]; omega
    · obtain rfl : i = l.length := by omega
      have p1 : decide ((l.length : Int) < (l.length : Int)) = false := by rw [decide_eq_false_iff_not]; omega
      have HS := Lib.hid hs
      have HB := Lib.hid hB
      clear hs hB
      go_wp2_with fail
      go_ret
      exact ⟨_, rfl, Nat.le_refl _, HS.out, HB.out⟩
end Go.Proofs.YtdpkhliojbeglaaDoor

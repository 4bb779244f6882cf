/- Texts put together: Tq Tr Ts. -/
import Derived.Test.YtpncomjpmilbkaaDoorPAc
import Derived.Test.YtpncomjpmilbkaaDoorPJ
import Derived.Test.YtpncomjpmilbkaaDoorPK
import Derived.Test.YtpncomjpmilbkaaDoorPE
import Derived.Test.YtpncomjpmilbkaaDoorPC
import Derived.WalkLawsBesides
import Derived.Laws.StructEq
import Derived.BigQuiet
import Derived.Deep.QuietTactic
import Derived.Lib.Hide
/- The laws of stage 11: are two terms the same (they are); what they want of lower. -/
namespace Go.Proofs.YtpncomjpmilbkaaDoor
open Go.RowKit BS

set_option maxRecDepth 100000 in
set_option maxHeartbeats 2000000 in
theorem eqTerm_same (k c n m : Int) (t : BitVec 256) (w : World) :
    (Op.equalIn 10000 44 (.agg #[.int .i64 k, .int .i64 c, .int .i64 n, .int .i64 m, .int .u64 (wd t 0), .int .u64 (wd t 1), .int .u64 (wd t 2), .int .u64 (wd t 3)]) (.agg #[.int .i64 k, .int .i64 c, .int .i64 n, .int .i64 m, .int .u64 (wd t 0), .int .u64 (wd t 1), .int .u64 (wd t 2), .int .u64 (wd t 3)])).run Tryd.prog w = .ok true w := by
  have hs : ∀ w, (Op.equalIn 9999 42 (.agg #[.int .u64 (wd t 0), .int .u64 (wd t 1), .int .u64 (wd t 2), .int .u64 (wd t 3)]) (.agg #[.int .u64 (wd t 0), .int .u64 (wd t 1), .int .u64 (wd t 2), .int .u64 (wd t 3)])).run Tryd.prog w = .ok true w := fun w => by
    have h := eqArr (k := .u64) Tryd.underlying42 Tryd.underlying40 size64 agg64 9997 [(wd t 0 : Int), wd t 1, wd t 2, wd t 3] [(wd t 0 : Int), wd t 1, wd t 2, wd t 3] rfl rfl w
    refine Eq.trans h ?_
    simp
  go_simp
set_option maxRecDepth 100000 in
set_option maxHeartbeats 8000000 in
theorem sameT_calls (l : List NdN) (hl : l.length ≤ 9000000) (a b : Option Addr) (ca cb : Nat) (w : World) (ha : NodesAt l a w) (hb : NodesAt l b w) :
    Calls Tryd.prog 14 #[.slice a l.length ca, .slice b l.length cb] w fun e w' => e = .returned (.bool true) ∧ Below w.heap.size w w' := by
  have HA := Lib.hid ha
  have HB := Lib.hid hb
  clear ha hb
  go_enter Tryd.func14, Tryd.ntmps14
  go_wp2_with fail
  go_loopw [5] (fun v wr => ∃ i : Nat, i ≤ l.length ∧ v = .int .i64 i ∧ Below w.heap.size w wr) (fun v _ => l.length - (intOf v).toNat)
  case atStart => exact ⟨0, Nat.zero_le _, rfl, Below.refl _ _⟩
  case round =>
    obtain ⟨i, hi, rfl, hW⟩ := hrel
    by_cases hlt : i < l.length
    · obtain ⟨g, off, rfl, hg, hc⟩ := HA.out.below hW (by rintro rfl; simp at hlt)
      obtain ⟨g2, off2, rfl, hg2, hc2⟩ := HB.out.below hW (by rintro rfl; simp at hlt)
      have c0 := hc i hlt 0 (by decide); have c1 := hc i hlt 1 (by decide); have c2 := hc i hlt 2 (by decide); have c3 := hc i hlt 3 (by decide); have c4 := hc i hlt 4 (by decide); have c5 := hc i hlt 5 (by decide); have c6 := hc i hlt 6 (by decide); have c7 := hc i hlt 7 (by decide)
      have d0 := hc2 i hlt 0 (by decide); have d1 := hc2 i hlt 1 (by decide); have d2 := hc2 i hlt 2 (by decide); have d3 := hc2 i hlt 3 (by decide); have d4 := hc2 i hlt 4 (by decide); have d5 := hc2 i hlt 5 (by decide); have d6 := hc2 i hlt 6 (by decide); have d7 := hc2 i hlt 7 (by decide)
      generalize l[i] = x at *
      obtain ⟨k, c, n, m, t⟩ := x
      simp only [ndA, List.getElem?_toArray, List.getElem?_cons_zero, List.getElem?_cons_succ, Nat.add_zero] at c0 c1 c2 c3 c4 c5 c6 c7 d0 d1 d2 d3 d4 d5 d6 d7
      have q0 : (0 : Int) ≤ (i : Int) := by omega
      have q1 : (i : Int) < (l.length : Int) := by omega
      have he := eqTerm_same k c n m t
      have HWW := Lib.hid hW
      clear hc hc2 hW hg hg2
      go_wp2_with fail
      go_quiet (fail)
      go_wp2_with fail
      go_roundw
      case rel => exact ⟨i + 1, by omega, by simp, below_drN HWW.out _⟩
      case measure => simp [intOf]; omega
    · obtain rfl : i = l.length := by omega
      go_wp2_with fail
      go_ret
      exact ⟨rfl, hW⟩
/-- What the laws of stage 11 want of the developers' lower. -/
structure LowC : Prop where
  null : ∀ (l : List NdN), l.length ≤ 1000 → ∀ (a : Option Addr) (cap : Nat) (w : World), NodesAt l a w → Calls Tryd.prog 8 #[.slice a l.length cap] w fun e w' => ∃ b c, e = .returned (.slice b (nullsR l).length c) ∧ BoolsB w.heap.size (nullsR l) b w' ∧ Below w.heap.size w w'
  size : ∀ (l : List NdN), l.length ≤ 1000 → ∀ (a : Option Addr) (cap : Nat) (w : World), NodesAt l a w → Calls Tryd.prog 10 #[.slice a l.length cap] w fun e w' => e = .returned (.tuple #[.int .i64 (sizeN l : Nat), .int .i64 (sizeL l : Nat)]) ∧ Below w.heap.size w w'
  lower : ∀ (l : List NdN), l.length ≤ 1000 → ∀ (a : Option Addr) (cap : Nat) (terms places states : Int) (w : World), NodesAt l a w → Calls Tryd.prog 12 #[.slice a l.length cap, .agg #[.int .i64 terms, .int .i64 places, .int .i64 states]] w fun e w' => ∃ b c, e = .returned (.tuple #[.slice b (lwT l terms places).length c, .int .i64 (lwE l terms places : Nat)]) ∧ NodesAt (lwT l terms places) b w' ∧ Below w.heap.size w w'
end Go.Proofs.YtpncomjpmilbkaaDoor

/- The laws of stage 11: sure, LowerTells. -/
namespace Go.Proofs.YtpncomjpmilbkaaDoor
open Go.RowKit BS

theorem rLow2_calls (l : List NdN) (hl : l.length ≤ 1000) (a : Option Addr) (cap : Nat) (terms places states : Int) (w : World) (h : NodesAt l a w) :
    Calls Tryd.prog 13 #[.slice a l.length cap, .agg #[.int .i64 terms, .int .i64 places, .int .i64 states]] w fun e w' => ∃ b c, e = .returned (.tuple #[.slice b (lwT l terms places).length c, .int .i64 (lwE l terms places : Nat)]) ∧ NodesAt (lwT l terms places) b w' ∧ Below w.heap.size w w' := by
  refine (rLower_calls l hl a cap terms places states w h).mono ?_
  rintro e w' ⟨v, rfl, ho, hb⟩
  obtain ⟨b, c, rfl⟩ := owns_form ho
  refine ⟨b, c, rfl, fun hne => ?_, hb⟩
  obtain ⟨g, c', e, _, _, hn⟩ := ho.nodes hne
  cases e
  exact hn hne
/-! ### sure -/
def l11 : List NdN := [⟨2, 0, 0, 0, 0⟩, ⟨4, 1, 2, 3, 0⟩]
@[reducible] def c11 : Array Value := #[.int .i64 2, .int .i64 0, .int .i64 0, .int .i64 0, .int .u64 0, .int .u64 0, .int .u64 0, .int .u64 0, .int .i64 4, .int .i64 1, .int .i64 2, .int .i64 3, .int .u64 0, .int .u64 0, .int .u64 0, .int .u64 0]
theorem l11_size : sizeN l11 = 9 := by decide +kernel
theorem l11_leafs : sizeL l11 = 3 := by decide +kernel
theorem l11_null : (nullsR l11).length = 2 := by decide +kernel
theorem l11_err : lwE l11 400 64 = 0 := by decide +kernel
theorem l11_large : lwE l11 8 64 = 10 := by decide +kernel
theorem l11_none : lwT l11 8 64 = [] := by decide +kernel
theorem l11_len : (lwT l11 400 64).length = 9 := by decide +kernel
theorem l11_top : ((lwT l11 400 64).getD 8 zN).kind = 3 := by decide +kernel
set_option maxRecDepth 100000 in
theorem l11_at (W : World) : NodesAt l11 (some ⟨W.heap.size, 0, none⟩) (W.alloc (.cells c11 46)) := fun _ => by
  have hb := Blk.new W c11 46
  refine ⟨W.heap.size, 0, rfl, hb.lt, fun i hi j hj => ?_⟩
  have hi' : i < 2 := hi
  have z1 : wd (0 : BitVec 256) 1 = 0 := by decide
  have z2 : wd (0 : BitVec 256) 2 = 0 := by decide
  have z3 : wd (0 : BitVec 256) 3 = 0 := by decide
  rw [hb.cell]
  obtain rfl | rfl : i = 0 ∨ i = 1 := by omega
  all_goals
    obtain rfl | rfl | rfl | rfl | rfl | rfl | rfl | rfl : j = 0 ∨ j = 1 ∨ j = 2 ∨ j = 3 ∨ j = 4 ∨ j = 5 ∨ j = 6 ∨ j = 7 := by omega
    all_goals first
      | rfl
      | (show some (Value.int .u64 0) = some (.int .u64 ((wd (0 : BitVec 256) 1 : Nat) : Int)); rw [z1]; rfl)
      | (show some (Value.int .u64 0) = some (.int .u64 ((wd (0 : BitVec 256) 2 : Nat) : Int)); rw [z2]; rfl)
      | (show some (Value.int .u64 0) = some (.int .u64 ((wd (0 : BitVec 256) 3 : Nat) : Int)); rw [z3]; rfl)
set_option maxRecDepth 100000 in
set_option maxHeartbeats 16000000 in
theorem sure11_calls (C : LowC) (w : World) : Calls Tryd.prog 7 #[] w fun e w' => e = .returned (.bool true) ∧ Below w.heap.size w w' := by
  have h1 := fun W h => C.size l11 (by decide) (some ⟨w.heap.size, 0, none⟩) 2 W h
  rw [l11_size, l11_leafs] at h1
  have h2 := fun W h => C.lower l11 (by decide) (some ⟨w.heap.size, 0, none⟩) 2 400 64 0 W h
  rw [l11_err, l11_len] at h2
  have h3 := fun W h => C.lower l11 (by decide) (some ⟨w.heap.size, 0, none⟩) 2 8 64 0 W h
  rw [l11_large, l11_none] at h3
  have h4 := fun W h => C.null l11 (by decide) (some ⟨w.heap.size, 0, none⟩) 2 W h
  rw [l11_null] at h4
  have hxl := l11_len
  have hxk := l11_top
  generalize lwT l11 400 64 = X at *
  have H1 : Hid (∀ W, NodesAt l11 (some ⟨w.heap.size, 0, none⟩) W → Calls Tryd.prog 10 #[.slice (some ⟨w.heap.size, 0, none⟩) 2 2] W fun e W' => e = .returned (.tuple #[.int .i64 9, .int .i64 3]) ∧ Below W.heap.size W W') := Lib.hid h1
  have H2 : Hid (∀ W, NodesAt l11 (some ⟨w.heap.size, 0, none⟩) W → Calls Tryd.prog 12 #[.slice (some ⟨w.heap.size, 0, none⟩) 2 2, .agg #[.int .i64 400, .int .i64 64, .int .i64 0]] W fun e W' => ∃ b c, e = .returned (.tuple #[.slice b 9 c, .int .i64 0]) ∧ NodesAt X b W' ∧ Below W.heap.size W W') := Lib.hid h2
  have H3 : Hid (∀ W, NodesAt l11 (some ⟨w.heap.size, 0, none⟩) W → Calls Tryd.prog 12 #[.slice (some ⟨w.heap.size, 0, none⟩) 2 2, .agg #[.int .i64 8, .int .i64 64, .int .i64 0]] W fun e W' => ∃ b c, e = .returned (.tuple #[.slice b 0 c, .int .i64 10]) ∧ NodesAt [] b W' ∧ Below W.heap.size W W') := Lib.hid h3
  have H4 : Hid (∀ W, NodesAt l11 (some ⟨w.heap.size, 0, none⟩) W → Calls Tryd.prog 8 #[.slice (some ⟨w.heap.size, 0, none⟩) 2 2] W fun e W' => ∃ b c, e = .returned (.slice b 2 c) ∧ BoolsB W.heap.size (nullsR l11) b W' ∧ Below W.heap.size W W') := Lib.hid h4
  clear h1 h2 h3 h4 C
  have HXL := Lib.hid hxl
  have HXK := Lib.hid hxk
  clear hxl hxk
  have HN := Lib.hid (l11_at w)
  have HB : Hid (Below w.heap.size w (w.alloc (.cells c11 46))) := Lib.hid ((Below.refl _ _).alloc (Nat.le_refl _) _)
  go_enter Tryd.func7, Tryd.ntmps7
  go_upto_region 2 with fail
  generalize w.alloc (.cells c11 46) = w1 at *
  go_wp2_with fail
  refine (H1.out _ HN.out).mono ?_
  rintro e w2 ⟨rfl, hb⟩
  replace HN := Lib.hid (HN.out.below hb)
  replace HB := Lib.hid (HB.out.trans (hb.mono HB.out.size))
  clear hb H1
  go_wp2_with fail
  refine (H2.out _ HN.out).mono ?_
  rintro e w3 ⟨bx, cx, rfl, hx, hb⟩
  have HX := Lib.hid hx
  replace HN := Lib.hid (HN.out.below hb)
  replace HB := Lib.hid (HB.out.trans (hb.mono HB.out.size))
  clear hb hx H2
  go_wp2_with fail
  refine (H3.out _ HN.out).mono ?_
  rintro e w4 ⟨by1, cy, rfl, _, hb⟩
  have HX4 := Lib.hid (HX.out.below hb)
  replace HN := Lib.hid (HN.out.below hb)
  replace HB := Lib.hid (HB.out.trans (hb.mono HB.out.size))
  clear hb H3 HX
  obtain ⟨g, off, rfl, hg, hc⟩ := HX4.out (by have := HXL.out; rintro rfl; simp at this)
  have c8 := hc 8 (by rw [HXL.out]; decide) 0 (by decide)
  have hk8 : (X[8]'(by rw [HXL.out]; decide)).kind = 3 := by
    have := HXK.out
    rw [List.getD_eq_getElem?_getD, List.getElem?_eq_getElem (by rw [HXL.out]; decide), Option.getD_some] at this
    exact this
  have c8' : w4.cell? ⟨g, off + 64, none⟩ = some (.int .i64 3) := by
    rw [Nat.add_zero] at c8
    refine c8.trans ?_
    show some (Value.int .i64 (X[8]'(by rw [HXL.out]; decide)).kind) = _
    rw [hk8]
  clear hc c8 hk8 HX4
  go_wp2_with fail
  refine (H4.out _ HN.out).mono ?_
  rintro e w5 ⟨bz, cz, rfl, _, hb⟩
  replace HB := Lib.hid (HB.out.trans (hb.mono HB.out.size))
  clear hb H4
  go_wp2_with fail
  go_ret
  exact ⟨rfl, HB.out⟩
set_option maxRecDepth 100000 in
set_option maxHeartbeats 16000000 in
theorem lowerTells_calls (C : LowC) (l : List NdN) (hl : l.length ≤ 9223372036854775807) (a : Option Addr) (cap : Nat) (w : World) (h : NodesAt l a w) :
    Calls Tryd.prog 3 #[.slice a l.length cap] w fun e w' => e = .returned (.bool true) ∧ Below w.heap.size w w' := by
  have HSU := Lib.hid (sure11_calls C)
  have HN := Lib.hid h
  clear h
  by_cases h5 : 60 < l.length
  · have q : decide (60 < l.length) = true := decide_eq_true h5
    have q' : decide ((60 : Int) < (l.length : Int)) = true := by rw [decide_eq_true_iff]; omega
    clear C h5
    go_enter Tryd.func3, Tryd.ntmps3
    go_wp2_with fail
    refine (HSU.out _).mono ?_
    rintro e wz ⟨rfl, hb⟩
    go_wp2_with fail
    go_ret
    exact ⟨rfl, hb⟩
  have q : decide (60 < l.length) = false := decide_eq_false h5
  have q' : decide ((60 : Int) < (l.length : Int)) = false := by rw [decide_eq_false_iff_not]; omega
  have HO1 := Lib.hid (fun W h => C.null l (by omega) a cap W h)
  have HR1 := Lib.hid (fun W h => rNull_calls l (by omega) a cap W h)
  have HO2 := Lib.hid (fun W h => C.size l (by omega) a cap W h)
  have HR2 := Lib.hid (fun W h => rSize_calls l (by omega) a cap W h)
  have hNl : (nullsR l).length ≤ 60 := by unfold nullsR; split <;> simp <;> omega
  generalize nullsR l = NL at *
  generalize sizeN l = sn at *
  generalize sizeL l = sl at *
  clear C h5
  go_enter Tryd.func3, Tryd.ntmps3
  go_wp2_with fail
  refine (HO1.out _ HN.out).mono ?_
  rintro e w1 ⟨b1, k1, rfl, hx, hb⟩
  replace HN := Lib.hid (HN.out.below hb)
  have HB := Lib.hid hb
  have HX := Lib.hid hx
  clear hb hx HO1
  go_wp2_with fail
  refine (HR1.out _ HN.out).mono ?_
  rintro e w2 ⟨b2, k2, rfl, hy, hb⟩
  replace HN := Lib.hid (HN.out.below hb)
  replace HX := Lib.hid (HX.out.below hb)
  replace HB := Lib.hid (HB.out.trans (hb.mono HB.out.size))
  have HY := Lib.hid hy
  clear hb hy HR1
  go_upto_region 7 with fail
  go_loopw [5] (fun v wr => ∃ i : Nat, i ≤ NL.length ∧ v = .int .i64 i ∧ Below w2.heap.size w2 wr) (fun v _ => NL.length - (intOf v).toNat)
  case atStart => exact ⟨0, Nat.zero_le _, rfl, Below.refl _ _⟩
  case round =>
    obtain ⟨i, hi, rfl, hW⟩ := hrel
    by_cases hlt : i < NL.length
    · obtain ⟨g, off, rfl, _, hg, hc⟩ := HX.out.below hW (by rintro rfl; simp at hlt)
      obtain ⟨g2, off2, rfl, _, hg2, hc2⟩ := HY.out.below hW (by rintro rfl; simp at hlt)
      have c0 := hc i hlt
      have d0 := hc2 i hlt
      generalize NL[i] = bv at c0 d0
      have q0 : (0 : Int) ≤ (i : Int) := by omega
      have q1 : (i : Int) < (NL.length : Int) := by omega
      have q2 : decide ((i : Int) < (NL.length : Int)) = true := by rw [decide_eq_true_iff]; omega
      have q3 : decide (i < NL.length) = true := decide_eq_true hlt
      have xj : IntKind.i64.wrap ((i : Int) + 1) = (i : Int) + 1 := IntWalk.i64_in _ (by omega)
      have HWW := Lib.hid hW
      clear hc hc2 hW hg hg2
      go_wp2_with fail
      go_quiet (fail)
      go_wp2_with fail
      go_roundw
      case rel => exact ⟨i + 1, by omega, by simp, below_drN HWW.out _⟩
      case measure => simp [intOf]; omega
    · obtain rfl : i = NL.length := by omega
      have HWW := Lib.hid hW
      replace HN := Lib.hid (HN.out.below hW)
      clear hW hlt
      go_wp2_with fail
      refine (HO2.out _ HN.out).mono ?_
      rintro e w3 ⟨rfl, hb⟩
      replace HN := Lib.hid (HN.out.below hb)
      have HB3 := Lib.hid (HWW.out.trans (hb.mono HWW.out.size))
      clear hb HO2
      go_wp2_with fail
      refine (HR2.out _ HN.out).mono ?_
      rintro e w4 ⟨rfl, hb⟩
      have HB4 := Lib.hid (HB3.out.trans (hb.mono HB3.out.size))
      clear hb HR2
      go_wp2_with fail
      refine (HSU.out _).mono ?_
      rintro e w5 ⟨rfl, hb⟩
      have HB5 := Lib.hid (HB.out.trans ((HB4.out.trans (hb.mono HB4.out.size)).mono HB.out.size))
      clear hb
      go_wp2_with fail
      go_ret
      exact ⟨rfl, HB5.out⟩
end Go.Proofs.YtpncomjpmilbkaaDoor

/- The laws of stage 11: LowerMakes. -/
namespace Go.Proofs.YtpncomjpmilbkaaDoor
open Go.RowKit BS

theorem lwT_le (l : List NdN) (t p : Int) : (lwT l t p).length ≤ 400 := by
  by_cases h : lwE l t p = 0
  · obtain ⟨_, hs, _, e⟩ := lw_zero l t p h
    rw [e, enc_len]
    exact hs
  · rw [lwT, if_neg h]; simp
set_option maxRecDepth 100000 in
set_option maxHeartbeats 16000000 in
theorem lowerMakes_calls (C : LowC) (l : List NdN) (hl : l.length ≤ 9223372036854775807) (a : Option Addr) (cap : Nat) (terms places states : Int) (w : World) (h : NodesAt l a w) :
    Calls Tryd.prog 4 #[.slice a l.length cap, .agg #[.int .i64 terms, .int .i64 places, .int .i64 states]] w fun e w' => e = .returned (.bool true) ∧ Below w.heap.size w w' := by
  have HSU := Lib.hid (sure11_calls C)
  have hBA : Below w.heap.size w (w.alloc (.cells #[.int .i64 terms, .int .i64 places, .int .i64 states] 30)) := (Below.refl _ _).alloc (Nat.le_refl _) _
  have b0 := Blk.new w #[.int .i64 terms, .int .i64 places, .int .i64 states] 30
  have HN := Lib.hid (h.below hBA)
  have HB := Lib.hid hBA
  clear h hBA
  have x1 := b0.lt
  have d0 := b0.cell 0
  have d1 := b0.cell 1
  have d2 := b0.cell 2
  have B0 := Lib.hid b0
  clear b0
  generalize hw1 : w.alloc (.cells #[.int .i64 terms, .int .i64 places, .int .i64 states] 30) = w1 at *
  by_cases h5 : 60 < l.length
  · have q : decide (60 < l.length) = true := decide_eq_true h5
    have q' : decide ((60 : Int) < (l.length : Int)) = true := by rw [decide_eq_true_iff]; omega
    clear C h5
    go_enter Tryd.func4, Tryd.ntmps4
    go_wp2_with fail
    refine (HSU.out _).mono ?_
    rintro e wz ⟨rfl, hb⟩
    have HZ := Lib.hid (HB.out.trans (hb.mono HB.out.size))
    clear hb
    go_wp2_with fail
    go_ret
    exact ⟨rfl, HZ.out⟩
  have q : decide (60 < l.length) = false := decide_eq_false h5
  have q' : decide ((60 : Int) < (l.length : Int)) = false := by rw [decide_eq_false_iff_not]; omega
  have HO1 := Lib.hid (fun W h => C.lower l (by omega) a cap terms places states W h)
  have HR1 := Lib.hid (fun W h => rLow2_calls l (by omega) a cap terms places states W h)
  have HXL := Lib.hid (lwT_le l terms places)
  generalize lwT l terms places = X at *
  generalize lwE l terms places = ee at *
  clear C h5
  go_enter Tryd.func4, Tryd.ntmps4
  go_upto_region 3 with fail
  clear hw1
  go_wp2_with fail
  refine (HO1.out _ HN.out).mono ?_
  rintro e w2 ⟨b1, k1, rfl, hx, hb⟩
  have b2 := B0.out.below hb x1
  replace HN := Lib.hid (HN.out.below hb)
  replace HB := Lib.hid (HB.out.trans (hb.mono HB.out.size))
  have HX := Lib.hid hx
  clear hb hx HO1 d0 d1 d2 B0
  have d0 := b2.cell 0
  have d1 := b2.cell 1
  have d2 := b2.cell 2
  have x2 := b2.lt
  clear b2
  go_wp2_with fail
  refine (HR1.out _ HN.out).mono ?_
  rintro e w3 ⟨b3, k3, rfl, hy, hb⟩
  have HY := Lib.hid hy
  replace HX := Lib.hid (HX.out.below hb)
  replace HB := Lib.hid (HB.out.trans (hb.mono HB.out.size))
  clear hb hy HR1 d0 d1 d2
  have HS := Lib.hid (sameT_calls X (by have := HXL.out; omega) b1 b3 k1 k3 w3 HX.out HY.out)
  clear HX HY
  go_wp2_with fail
  refine HS.out.mono ?_
  rintro e w4 ⟨rfl, hb⟩
  replace HB := Lib.hid (HB.out.trans (hb.mono HB.out.size))
  clear hb HS
  go_wp2_with fail
  refine (HSU.out _).mono ?_
  rintro e w5 ⟨rfl, hb⟩
  replace HB := Lib.hid (HB.out.trans (hb.mono HB.out.size))
  clear hb
  go_wp2_with fail
  go_ret
  exact ⟨rfl, HB.out⟩
end Go.Proofs.YtpncomjpmilbkaaDoor

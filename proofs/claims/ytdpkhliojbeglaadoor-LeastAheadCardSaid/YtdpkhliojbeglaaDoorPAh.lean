/- Texts put together: Twa Twb Twc. -/
import Derived.Test.YtdpkhliojbeglaaDoorPAg
import Derived.Test.YtdpkhliojbeglaaDoorPX
import Derived.BigQuiet
import Derived.Lib.SlBytesConst
import Derived.Test.YtdpkhliojbeglaaDoorPAb
import Derived.Test.YtdpkhliojbeglaaDoorPQ
import Derived.Test.YtdpkhliojbeglaaDoorPN
import Derived.Test.YtdpkhliojbeglaaDoorPE
/- Stage 15: few, letter, Spanned; what the laws call. -/
namespace Go.Proofs.YtdpkhliojbeglaaDoor
open Go.RowKit BS

set_option maxRecDepth 100000 in
set_option maxHeartbeats 4000000 in
theorem few15_calls (l w : Nat) (a b : Option Addr) (ca cb : Nat) (W : World) (hl : l ≤ 9223372036854775807) (hw : w ≤ 9223372036854775807) :
    Calls Tryd.prog 8 #[.slice a l ca, .slice b w cb] W fun e W' => e = .returned (.bool (decide (l ≤ 40 ∧ w ≤ 24))) ∧ W = W' := by
  obtain ⟨E, hE⟩ : ∃ E, E = decide (l ≤ 40 ∧ w ≤ 24) := ⟨_, rfl⟩
  rw [← hE]
  by_cases h1 : l ≤ 40
  · have q1 : decide (l ≤ 40) = true := decide_eq_true h1
    have q2 : decide ((l : Int) ≤ 40) = true := by rw [decide_eq_true_iff]; omega
    by_cases h2 : w ≤ 24
    · have q3 : decide (w ≤ 24) = true := decide_eq_true h2
      have q4 : decide ((w : Int) ≤ 24) = true := by rw [decide_eq_true_iff]; omega
      have HX := Lib.hid (show E = true by rw [hE, decide_eq_true ⟨h1, h2⟩])
      clear hE h1 h2
      go_enter Tryd.func8, Tryd.ntmps8
      go_wp2_with fail
      go_ret
      exact ⟨by rw [HX.out] <;> rfl, rfl⟩
    · have q3 : decide (w ≤ 24) = false := decide_eq_false h2
      have q4 : decide ((w : Int) ≤ 24) = false := by rw [decide_eq_false_iff_not]; omega
      have HX := Lib.hid (show E = false by rw [hE]; exact decide_eq_false (fun h => h2 h.2))
      clear hE h1 h2
      go_enter Tryd.func8, Tryd.ntmps8
      go_wp2_with fail
      go_ret
      exact ⟨by rw [HX.out] <;> rfl, rfl⟩
  · have q1 : decide (l ≤ 40) = false := decide_eq_false h1
    have q2 : decide ((l : Int) ≤ 40) = false := by rw [decide_eq_false_iff_not]; omega
    have HX := Lib.hid (show E = false by rw [hE]; exact decide_eq_false (fun h => h1 h.1))
    clear hE h1
    go_enter Tryd.func8, Tryd.ntmps8
    go_wp2_with fail
    go_ret
    exact ⟨by rw [HX.out] <;> rfl, rfl⟩
set_option maxRecDepth 100000 in
set_option maxHeartbeats 2000000 in
theorem eqSpn (a b c d : Int) (w : World) :
    (Op.equalIn 10000 25 (.agg #[.int .i64 a, .int .i64 b]) (.agg #[.int .i64 c, .int .i64 d])).run Tryd.prog w = .ok (decide (a = c ∧ b = d)) w := by
  go_simp
  by_cases h1 : a = c <;> by_cases h2 : b = d <;> simp [h1, h2]
set_option maxRecDepth 100000 in
set_option maxHeartbeats 8000000 in
theorem spanned_calls (x y : List (Int × Int)) (hx : x.length ≤ 1000) (hy : y.length ≤ 1000) (a b : Option Addr) (ca cb : Nat) (W : World) (h1 : SpnAt x a W) (h2 : SpnAt y b W) :
    Calls Tryd.prog 20 #[.slice a x.length ca, .slice b y.length cb] W fun e W' => e = .returned (.bool (decide (x = y))) ∧ Below W.heap.size W W' := by
  obtain ⟨E, hE⟩ : ∃ E, E = decide (x = y) := ⟨_, rfl⟩
  rw [← hE]
  have HE := Lib.hid hE
  clear hE
  by_cases hl : x.length = y.length
  · have q1 : ((x.length : Int) != (y.length : Int)) = false := by rw [bne_eq_false_iff_eq]; omega
    have q0 : (x.length != y.length) = false := by rw [bne_eq_false_iff_eq]; exact hl
    have H1 := Lib.hid h1
    have H2 := Lib.hid h2
    have HEQ := Lib.hid eqSpn
    clear h1 h2
    rw [← hl]
    have q2 : ((x.length : Int) != (x.length : Int)) = false := by rw [bne_eq_false_iff_eq]
    go_enter Tryd.func20, Tryd.ntmps20
    go_wp2_with fail
    go_loopw [5] (fun vi wr => ∃ i : Nat, i ≤ x.length ∧ vi = .int .i64 i ∧ (∀ k, k < i → x[k]? = y[k]?) ∧ Below W.heap.size W wr) (fun vi _ => x.length - (intOf vi).toNat)
    case atStart => exact ⟨0, Nat.zero_le _, rfl, fun k h => absurd h (by omega), Below.refl _ _⟩
    case round =>
      obtain ⟨i, hi, rfl, hall, hB⟩ := hrel
      have HA := Lib.hid hall
      have HB := Lib.hid hB
      by_cases hlt : i < x.length
      · have p2 : decide (i < x.length) = true := decide_eq_true hlt
        have p4 : (i : Int) < (x.length : Int) := by omega
        have xi : IntKind.i64.wrap ((i : Int) + 1) = (i : Int) + 1 := IntWalk.i64_in _ (by omega)
        obtain ⟨g1, o1, rfl, hg1, hc1⟩ := (H1.out.below hB) (by intro h0; rw [h0] at hlt; simp at hlt)
        obtain ⟨g2, o2, rfl, hg2, hc2⟩ := (H2.out.below hB) (by intro h0; rw [h0] at hl; simp only [List.length_nil] at hl; omega)
        obtain ⟨c0, c1⟩ := hc1 i hlt
        obtain ⟨d0, d1⟩ := hc2 i (by omega)
        have hxi : x[i]? = some x[i] := List.getElem?_eq_getElem hlt
        have hyi : y[i]? = some (y[i]'(by omega)) := List.getElem?_eq_getElem (by omega)
        obtain ⟨⟨xa, xb⟩, hxx⟩ : ∃ z, x[i] = z := ⟨_, rfl⟩
        obtain ⟨⟨ya, yb⟩, hyy⟩ : ∃ z, y[i]'(by omega) = z := ⟨_, rfl⟩
        rw [hxx] at c0 c1 hxi
        rw [hyy] at d0 d1 hyi
        simp only at c0 c1 d0 d1
        have heq := HEQ.out xa xb ya yb
        have HXI := Lib.hid hxi
        have HYI := Lib.hid hyi
        obtain ⟨z, hz⟩ : ∃ z, decide (xa = ya ∧ xb = yb) = z := ⟨_, rfl⟩
        rw [hz] at heq
        have HZ := Lib.hid hz
        have hef : z = false → E = false := fun hz0 => by
          rw [HE.out]
          refine decide_eq_false fun hxy => ?_
          have h3 := HXI.out
          subst hxy
          rw [HYI.out] at h3
          have h4 := of_decide_eq_false (HZ.out.trans hz0)
          cases h3
          exact h4 ⟨rfl, rfl⟩
        clear hall hc1 hc2 hB hxi hyi hxx hyy hz
        cases z
        · have HEF : Hid (E = false) := Lib.hid (hef rfl)
          clear hef
          go_upto_region 6 with fail
          go_quiet (fail)
          go_wp2_with fail
          go_ret
          exact ⟨by rw [HEF.out]; rfl, below_drN HB.out _⟩
        · clear hef
          go_upto_region 6 with fail
          go_quiet (fail)
          go_wp2_with fail
          go_roundw
          case rel =>
            refine ⟨i + 1, by omega, rfl, fun k hk => ?_, below_drN HB.out _⟩
            by_cases hki : k = i
            · subst hki
              rw [HXI.out, HYI.out]
              obtain ⟨h5, h6⟩ := of_decide_eq_true HZ.out
              rw [h5, h6]
            · exact HA.out k (by omega)
          case measure => simp [intOf]; omega
      · obtain rfl : i = x.length := by omega
        have HXY := Lib.hid (show x = y from List.ext_getElem? fun k => by
          by_cases hk : k < x.length
          · exact hall k hk
          · rw [List.getElem?_eq_none (by omega), List.getElem?_eq_none (by omega)])
        clear hall hB
        go_wp2_with fail
        go_ret
        exact ⟨by rw [HE.out, decide_eq_true HXY.out]; rfl, HB.out⟩
  · have q1 : ((x.length : Int) != (y.length : Int)) = true := by rw [bne_iff_ne]; omega
    have q0 : (x.length != y.length) = true := by rw [bne_iff_ne]; exact hl
    have HX := Lib.hid (show E = false by rw [HE.out]; exact decide_eq_false (fun h => hl (by rw [h])))
    go_enter Tryd.func20, Tryd.ntmps20
    go_wp2_with fail
    go_ret
    exact ⟨by rw [HX.out]; rfl, Below.refl _ _⟩
@[reducible] def c97 : Array Value := #[.int .i64 2, .int .i64 (-1), .int .i64 (-1), .int .i64 0, .int .u64 0, .int .u64 8589934592, .int .u64 0, .int .u64 0]
@[reducible] def c98 : Array Value := #[.int .i64 2, .int .i64 (-1), .int .i64 (-1), .int .i64 0, .int .u64 0, .int .u64 17179869184, .int .u64 0, .int .u64 0]
set_option maxRecDepth 100000 in
set_option maxHeartbeats 4000000 in
theorem letter97 (W : World) : Calls Tryd.prog 27 #[.int .i64 97] W fun e W' => e = .returned (.agg c97) ∧ Below W.heap.size W W' := by
  go_enter Tryd.func27, Tryd.ntmps27
  go_wp2_with fail
  exact bodyPost_ret (results_cell_row rfl _ _ W.heap.size 60 c97 (0, 0) _ rfl ((Blk.new W c97 60).alloc _) Tryd.underlying60 rfl (by kernel_rfl)) rfl ⟨rfl, by go_grown⟩
set_option maxRecDepth 100000 in
set_option maxHeartbeats 4000000 in
theorem letter98 (W : World) : Calls Tryd.prog 27 #[.int .i64 98] W fun e W' => e = .returned (.agg c98) ∧ Below W.heap.size W W' := by
  go_enter Tryd.func27, Tryd.ntmps27
  go_wp2_with fail
  exact bodyPost_ret (results_cell_row rfl _ _ W.heap.size 60 c98 (0, 0) _ rfl ((Blk.new W c98 60).alloc _) Tryd.underlying60 rfl (by kernel_rfl)) rfl ⟨rfl, by go_grown⟩
/-! ### What must come -/
def sA : BitVec 256 := BitVec.ofNat 256 (2 ^ 97)
def sB : BitVec 256 := BitVec.ofNat 256 (2 ^ 98)
def l15 : List NdN := [⟨2, -1, -1, 0, sA⟩, ⟨2, -1, -1, 0, sA⟩, ⟨2, -1, -1, 0, sB⟩, ⟨3, 1, 2, 0, 0⟩, ⟨4, 0, 3, 0, 0⟩, ⟨7, 4, -1, 1, 0⟩, ⟨2, -1, -1, 0, sB⟩, ⟨6, 6, -1, 0, 0⟩, ⟨3, 5, 7, 0, 0⟩]
theorem m15 : matchV l15 [97, 98] = ([(0, 2), (0, 2)], 0) := by
  have h1 : (matchV l15 [97, 98]).1 = [(0, 2), (0, 2)] := by decide +kernel
  have h2 : (matchV l15 [97, 98]).2 = 0 := by decide +kernel
  exact Prod.ext h1 h2
theorem f15 : foundV l15 [99, 97, 98, 97] = ([(1, 3), (1, 3)], 0) := by
  have h1 : (foundV l15 [99, 97, 98, 97]).1 = [(1, 3), (1, 3)] := by decide +kernel
  have h2 : (foundV l15 [99, 97, 98, 97]).2 = 0 := by decide +kernel
  exact Prod.ext h1 h2
theorem t15 : (treeV l15 [98]).2 = 7 := by decide +kernel
theorem n15 : (treeV l15 [97, 98]).1.length ≤ 1000 := by decide +kernel
@[reducible] def k15 (k a b m : Int) : Array Value := #[.int .i64 k, .int .i64 a, .int .i64 b, .int .i64 m, .int .u64 0, .int .u64 0, .int .u64 0, .int .u64 0]
@[reducible] def d15 : Array Value := #[.int .i64 2, .int .i64 (-1), .int .i64 (-1), .int .i64 0, .int .u64 0, .int .u64 8589934592, .int .u64 0, .int .u64 0, .int .i64 2, .int .i64 (-1), .int .i64 (-1), .int .i64 0, .int .u64 0, .int .u64 8589934592, .int .u64 0, .int .u64 0, .int .i64 2, .int .i64 (-1), .int .i64 (-1), .int .i64 0, .int .u64 0, .int .u64 17179869184, .int .u64 0, .int .u64 0,
  .int .i64 3, .int .i64 1, .int .i64 2, .int .i64 0, .int .u64 0, .int .u64 0, .int .u64 0, .int .u64 0, .int .i64 4, .int .i64 0, .int .i64 3, .int .i64 0, .int .u64 0, .int .u64 0, .int .u64 0, .int .u64 0, .int .i64 7, .int .i64 4, .int .i64 (-1), .int .i64 1, .int .u64 0, .int .u64 0, .int .u64 0, .int .u64 0,
  .int .i64 2, .int .i64 (-1), .int .i64 (-1), .int .i64 0, .int .u64 0, .int .u64 17179869184, .int .u64 0, .int .u64 0, .int .i64 6, .int .i64 6, .int .i64 (-1), .int .i64 0, .int .u64 0, .int .u64 0, .int .u64 0, .int .u64 0, .int .i64 3, .int .i64 5, .int .i64 7, .int .i64 0, .int .u64 0, .int .u64 0, .int .u64 0, .int .u64 0]
theorem wdA : wd sA 0 = 0 ∧ wd sA 1 = 8589934592 ∧ wd sA 2 = 0 ∧ wd sA 3 = 0 := by decide +kernel
theorem wdB : wd sB 0 = 0 ∧ wd sB 1 = 17179869184 ∧ wd sB 2 = 0 ∧ wd sB 3 = 0 := by decide +kernel
theorem ndSA : ndA ⟨2, -1, -1, 0, sA⟩ = c97 := by
  obtain ⟨y0, y1, y2, y3⟩ := wdA
  generalize sA = s at *
  show #[Value.int .i64 2, .int .i64 (-1), .int .i64 (-1), .int .i64 0, .int .u64 ((wd s 0 : Nat) : Int), .int .u64 ((wd s 1 : Nat) : Int), .int .u64 ((wd s 2 : Nat) : Int), .int .u64 ((wd s 3 : Nat) : Int)] = _
  rw [y0, y1, y2, y3]; rfl
theorem ndSB : ndA ⟨2, -1, -1, 0, sB⟩ = c98 := by
  obtain ⟨y0, y1, y2, y3⟩ := wdB
  generalize sB = s at *
  show #[Value.int .i64 2, .int .i64 (-1), .int .i64 (-1), .int .i64 0, .int .u64 ((wd s 0 : Nat) : Int), .int .u64 ((wd s 1 : Nat) : Int), .int .u64 ((wd s 2 : Nat) : Int), .int .u64 ((wd s 3 : Nat) : Int)] = _
  rw [y0, y1, y2, y3]; rfl
theorem ndS0 (k a b m : Int) : ndA ⟨k, a, b, m, 0⟩ = k15 k a b m := by
  have z0 : wd (0 : BitVec 256) 0 = 0 := by decide
  have z1 : wd (0 : BitVec 256) 1 = 0 := by decide
  have z2 : wd (0 : BitVec 256) 2 = 0 := by decide
  have z3 : wd (0 : BitVec 256) 3 = 0 := by decide
  generalize (0 : BitVec 256) = s at *
  show #[Value.int .i64 k, .int .i64 a, .int .i64 b, .int .i64 m, .int .u64 ((wd s 0 : Nat) : Int), .int .u64 ((wd s 1 : Nat) : Int), .int .u64 ((wd s 2 : Nat) : Int), .int .u64 ((wd s 3 : Nat) : Int)] = _
  rw [z0, z1, z2, z3]; rfl
theorem l15_at (W : World) : NodesAt l15 (some ⟨W.heap.size, 0, none⟩) (W.alloc (.cells d15 60)) := fun _ => by
  have hb := Blk.new W d15 60
  refine ⟨W.heap.size, 0, rfl, hb.lt, fun i hi j hj => ?_⟩
  have hi' : i < 9 := hi
  rw [hb.cell]
  have hjj : j = 0 ∨ j = 1 ∨ j = 2 ∨ j = 3 ∨ j = 4 ∨ j = 5 ∨ j = 6 ∨ j = 7 := by omega
  obtain rfl | rfl | rfl | rfl | rfl | rfl | rfl | rfl | rfl : i = 0 ∨ i = 1 ∨ i = 2 ∨ i = 3 ∨ i = 4 ∨ i = 5 ∨ i = 6 ∨ i = 7 ∨ i = 8 := by omega
  · rw [show l15[0] = ⟨2, -1, -1, 0, sA⟩ from rfl, ndSA]; rcases hjj with rfl | rfl | rfl | rfl | rfl | rfl | rfl | rfl <;> rfl
  · rw [show l15[1] = ⟨2, -1, -1, 0, sA⟩ from rfl, ndSA]; rcases hjj with rfl | rfl | rfl | rfl | rfl | rfl | rfl | rfl <;> rfl
  · rw [show l15[2] = ⟨2, -1, -1, 0, sB⟩ from rfl, ndSB]; rcases hjj with rfl | rfl | rfl | rfl | rfl | rfl | rfl | rfl <;> rfl
  · rw [show l15[3] = ⟨3, 1, 2, 0, 0⟩ from rfl, ndS0]; rcases hjj with rfl | rfl | rfl | rfl | rfl | rfl | rfl | rfl <;> rfl
  · rw [show l15[4] = ⟨4, 0, 3, 0, 0⟩ from rfl, ndS0]; rcases hjj with rfl | rfl | rfl | rfl | rfl | rfl | rfl | rfl <;> rfl
  · rw [show l15[5] = ⟨7, 4, -1, 1, 0⟩ from rfl, ndS0]; rcases hjj with rfl | rfl | rfl | rfl | rfl | rfl | rfl | rfl <;> rfl
  · rw [show l15[6] = ⟨2, -1, -1, 0, sB⟩ from rfl, ndSB]; rcases hjj with rfl | rfl | rfl | rfl | rfl | rfl | rfl | rfl <;> rfl
  · rw [show l15[7] = ⟨6, 6, -1, 0, 0⟩ from rfl, ndS0]; rcases hjj with rfl | rfl | rfl | rfl | rfl | rfl | rfl | rfl <;> rfl
  · rw [show l15[8] = ⟨3, 5, 7, 0, 0⟩ from rfl, ndS0]; rcases hjj with rfl | rfl | rfl | rfl | rfl | rfl | rfl | rfl <;> rfl
theorem bts_at (xs : List Nat) (cs : Array Value) (hc : ∀ i (h : i < xs.length), cs[i]? = some (.int .u8 (xs[i] : Nat))) (W : World) (m : Nat × Nat) : BtsAt xs (some ⟨W.heap.size, 0, none⟩) (W.alloc (.cells cs 5 m)) := fun _ => by
  have hb : (W.alloc (.cells cs 5 m)).heap[W.heap.size]? = some (.cells cs 5 m) := heap_alloc_new W _
  refine ⟨W.heap.size, 0, rfl, by simp, fun i hi => ?_⟩
  unfold World.cell?
  simp only [Nat.zero_add]
  rw [hb]
  exact hc i hi
theorem spn_at (a b : Int) (W : World) : SpnAt [(a, b), (a, b)] (some ⟨W.heap.size, 0, none⟩) (W.alloc (.cells #[.int .i64 a, .int .i64 b, .int .i64 a, .int .i64 b] 25)) := fun _ => by
  have hb := Blk.new W #[.int .i64 a, .int .i64 b, .int .i64 a, .int .i64 b] 25
  refine ⟨W.heap.size, 0, rfl, hb.lt, fun i hi => ?_⟩
  have hi' : i < 2 := hi
  rw [hb.cell, hb.cell]
  obtain rfl | rfl : i = 0 ∨ i = 1 := by omega
  · exact ⟨rfl, rfl⟩
  · exact ⟨rfl, rfl⟩
end Go.Proofs.YtdpkhliojbeglaaDoor

/- Stage 15: sure. -/
namespace Go.Proofs.YtdpkhliojbeglaaDoor
open Go.RowKit BS

@[reducible] def GTab (W : World) : Prop := Tab W ∧ 0 < W.heap.size
theorem GTab.keep {W W' : World} (h : GTab W) (hb : Below W.heap.size W W') : GTab W' := ⟨h.1.keep hb h.2, Nat.lt_of_lt_of_le h.2 hb.size⟩
set_option maxRecDepth 100000 in
set_option maxHeartbeats 32000000 in
theorem sure15_calls (w : World) (hTab : GTab w) : Calls Tryd.prog 10 #[] w fun e w' => e = .returned (.bool true) ∧ Below w.heap.size w w' := by
  have b1 : ∀ x ∈ [97, 98], x < 256 := by decide
  have b2 : ∀ x ∈ [99, 97, 98, 97], x < 256 := by decide
  have b3 : ∀ x ∈ [98], x < 256 := by decide
  have hm := fun la wa W (h1 : NodesAt l15 la W) (h2 : BtsAt [97, 98] wa W) (h3 : GTab W) => matchL_calls l15 (by decide) [97, 98] (by decide) b1 9 2 la wa n15 W h1 h2 h3.1 h3.2
  rw [m15] at hm
  have HM : Hid (∀ la wa W, NodesAt l15 la W → BtsAt [97, 98] wa W → GTab W → Calls Tryd.prog 16 #[.slice la 9 9, .slice wa 2 2] W fun e W' => ∃ b c, e = .returned (.tuple #[.slice b 2 c, .int .i64 0]) ∧ SpnAt [(0, 2), (0, 2)] b W' ∧ Below W.heap.size W W') := Lib.hid hm
  have hf := fun la wa W (h1 : NodesAt l15 la W) (h2 : BtsAt [99, 97, 98, 97] wa W) (h3 : GTab W) => findL_calls l15 (by decide) [99, 97, 98, 97] (by decide) b2 9 4 la wa (fun _ _ => by decide) W h1 h2 h3.1 h3.2
  rw [f15] at hf
  have HF : Hid (∀ la wa W, NodesAt l15 la W → BtsAt [99, 97, 98, 97] wa W → GTab W → Calls Tryd.prog 18 #[.slice la 9 9, .slice wa 4 4] W fun e W' => ∃ b c, e = .returned (.tuple #[.slice b 2 c, .int .i64 0]) ∧ SpnAt [(1, 3), (1, 3)] b W' ∧ Below W.heap.size W W') := Lib.hid hf
  have ht := fun la wa W (h1 : NodesAt l15 la W) (h2 : BtsAt [98] wa W) (h3 : GTab W) => treeL_calls l15 (by decide) [98] (by decide) b3 9 1 la wa W h1 h2 h3.1 h3.2
  rw [t15] at ht
  have HT : Hid (∀ la wa W, NodesAt l15 la W → BtsAt [98] wa W → GTab W → Calls Tryd.prog 11 #[.slice la 9 9, .slice wa 1 1] W fun e W' => ∃ v, e = .returned (.tuple #[v, .int .i64 7]) ∧ OwE W.heap.size v (treeV l15 [98]).1 W' ∧ Below W.heap.size W W') := Lib.hid ht
  have hs1 := fun a b ca cb W (h1 : SpnAt [(0, 2), (0, 2)] a W) (h2 : SpnAt [(0, 2), (0, 2)] b W) => spanned_calls [(0, 2), (0, 2)] [(0, 2), (0, 2)] (by decide) (by decide) a b ca cb W h1 h2
  rw [decide_eq_true rfl] at hs1
  have HS1 : Hid (∀ a b ca cb W, SpnAt [(0, 2), (0, 2)] a W → SpnAt [(0, 2), (0, 2)] b W → Calls Tryd.prog 20 #[.slice a 2 ca, .slice b 2 cb] W fun e W' => e = .returned (.bool true) ∧ Below W.heap.size W W') := Lib.hid hs1
  have hs2 := fun a b ca cb W (h1 : SpnAt [(1, 3), (1, 3)] a W) (h2 : SpnAt [(1, 3), (1, 3)] b W) => spanned_calls [(1, 3), (1, 3)] [(1, 3), (1, 3)] (by decide) (by decide) a b ca cb W h1 h2
  rw [decide_eq_true rfl] at hs2
  have HS2 : Hid (∀ a b ca cb W, SpnAt [(1, 3), (1, 3)] a W → SpnAt [(1, 3), (1, 3)] b W → Calls Tryd.prog 20 #[.slice a 2 ca, .slice b 2 cb] W fun e W' => e = .returned (.bool true) ∧ Below W.heap.size W W') := Lib.hid hs2
  have HA := Lib.hid (fun W => letter97 W)
  have HBB := Lib.hid (fun W => letter98 W)
  have HG := Lib.hid hTab
  clear hm hf ht hs1 hs2 b1 b2 b3 hTab
  have hcva : ∀ W : World, (convert 23 23 (.slice (some ⟨W.heap.size, 0, none⟩) 2 2)).run Tryd.prog (W.alloc (.cells #[.int .u8 97, .int .u8 98] 5)) = .ok (.slice (some ⟨W.heap.size, 0, none⟩) 2 2) (W.alloc (.cells #[.int .u8 97, .int .u8 98] 5 (2, 3))) := fun W => Lib.run_convert_bytes_const W 23 5 #[.int .u8 97, .int .u8 98] 2 2 Tryd.underlying23 Tryd.underlying5
  have hcvb : ∀ W : World, (convert 23 23 (.slice (some ⟨W.heap.size, 0, none⟩) 4 4)).run Tryd.prog (W.alloc (.cells #[.int .u8 99, .int .u8 97, .int .u8 98, .int .u8 97] 5)) = .ok (.slice (some ⟨W.heap.size, 0, none⟩) 4 4) (W.alloc (.cells #[.int .u8 99, .int .u8 97, .int .u8 98, .int .u8 97] 5 (4, 5))) := fun W => Lib.run_convert_bytes_const W 23 5 #[.int .u8 99, .int .u8 97, .int .u8 98, .int .u8 97] 4 4 Tryd.underlying23 Tryd.underlying5
  have hcvc : ∀ W : World, (convert 23 23 (.slice (some ⟨W.heap.size, 0, none⟩) 1 1)).run Tryd.prog (W.alloc (.cells #[.int .u8 98] 5)) = .ok (.slice (some ⟨W.heap.size, 0, none⟩) 1 1) (W.alloc (.cells #[.int .u8 98] 5 (1, 2))) := fun W => Lib.run_convert_bytes_const W 23 5 #[.int .u8 98] 1 1 Tryd.underlying23 Tryd.underlying5
  go_enter Tryd.func10, Tryd.ntmps10
  go_wp2_with fail
  refine (HA.out _).mono ?_
  rintro e w1 ⟨rfl, hb1⟩
  have HB1 := Lib.hid hb1
  clear hb1
  go_wp2_with fail
  refine (HA.out _).mono ?_
  rintro e w2 ⟨rfl, hb2⟩
  have HB2 := Lib.hid (HB1.out.trans (hb2.mono HB1.out.size))
  clear hb2 HB1
  go_wp2_with fail
  refine (HBB.out _).mono ?_
  rintro e w3 ⟨rfl, hb3⟩
  have HB3 := Lib.hid (HB2.out.trans (hb3.mono HB2.out.size))
  clear hb3 HB2
  go_wp2_with fail
  refine (HBB.out _).mono ?_
  rintro e w4 ⟨rfl, hb4⟩
  have HB4 := Lib.hid (HB3.out.trans (hb4.mono HB3.out.size))
  clear hb4 HB3
  have HN := Lib.hid (l15_at w4)
  have HB5 : Hid (Below w.heap.size w (w4.alloc (.cells d15 60))) := Lib.hid (HB4.out.alloc HB4.out.size _)
  clear HB4 HA HBB
  go_upto_region 2 with fail
  generalize w4.alloc (.cells d15 60) = w5 at *
  have HBX := HB5
  clear HB5
  go_wp2_with fail
  have hbb : Below w5.heap.size w5 (w5.alloc (.cells #[.int .u8 97, .int .u8 98] 5 (2, 3))) := (Below.refl _ _).alloc (Nat.le_refl _) _
  have hb := HBX.out.trans (hbb.mono HBX.out.size)
  have HC := Lib.hid (HM.out _ _ _ (HN.out.below hbb) (bts_at [97, 98] #[.int .u8 97, .int .u8 98] (by intro i hi; simp only [List.length_cons, List.length_nil] at hi; match i, hi with | 0, _ => rfl | 1, _ => rfl) w5 (2, 3)) (HG.out.keep hb))
  have HN' := Lib.hid (HN.out.below hbb)
  have HB' := Lib.hid hb
  clear hbb hb HN HBX  HM
  refine HC.out.mono ?_
  rintro e w6 ⟨sm, cm, rfl, hsm, hb⟩
  have HN := Lib.hid (HN'.out.below hb)
  have HBX := Lib.hid (HB'.out.trans (hb.mono HB'.out.size))
  clear hb HN' HB' HC 
  have HSM := Lib.hid hsm
  clear hsm
  go_wp2_with fail
  have hbb : Below w6.heap.size w6 (w6.alloc (.cells #[.int .u8 99, .int .u8 97, .int .u8 98, .int .u8 97] 5 (4, 5))) := (Below.refl _ _).alloc (Nat.le_refl _) _
  have hb := HBX.out.trans (hbb.mono HBX.out.size)
  have HC := Lib.hid (HF.out _ _ _ (HN.out.below hbb) (bts_at [99, 97, 98, 97] #[.int .u8 99, .int .u8 97, .int .u8 98, .int .u8 97] (by intro i hi; simp only [List.length_cons, List.length_nil] at hi; match i, hi with | 0, _ => rfl | 1, _ => rfl | 2, _ => rfl | 3, _ => rfl) w6 (4, 5)) (HG.out.keep hb))
  have HN' := Lib.hid (HN.out.below hbb)
  have HB' := Lib.hid hb
  have HSM' := Lib.hid (HSM.out.below hbb)
  clear hbb hb HN HBX HSM HF
  refine HC.out.mono ?_
  rintro e w7 ⟨sf, cf, rfl, hsf, hb⟩
  have HN := Lib.hid (HN'.out.below hb)
  have HBX := Lib.hid (HB'.out.trans (hb.mono HB'.out.size))
  have HSM := Lib.hid (HSM'.out.below hb)
  clear hb HN' HB' HC HSM'
  have HSF := Lib.hid hsf
  clear hsf
  go_wp2_with fail
  have hbb : Below w7.heap.size w7 (w7.alloc (.cells #[.int .u8 98] 5 (1, 2))) := (Below.refl _ _).alloc (Nat.le_refl _) _
  have hb := HBX.out.trans (hbb.mono HBX.out.size)
  have HC := Lib.hid (HT.out _ _ _ (HN.out.below hbb) (bts_at [98] #[.int .u8 98] (by intro i hi; simp only [List.length_cons, List.length_nil] at hi; match i, hi with | 0, _ => rfl) w7 (1, 2)) (HG.out.keep hb))
  have HN' := Lib.hid (HN.out.below hbb)
  have HB' := Lib.hid hb
  have HSM' := Lib.hid (HSM.out.below hbb)
  have HSF' := Lib.hid (HSF.out.below hbb)
  clear hbb hb HN HBX HSM HSF HT
  refine HC.out.mono ?_
  rintro e w8 ⟨v, rfl, _, hb⟩
  have HN := Lib.hid (HN'.out.below hb)
  have HBX := Lib.hid (HB'.out.trans (hb.mono HB'.out.size))
  have HSM := Lib.hid (HSM'.out.below hb)
  have HSF := Lib.hid (HSF'.out.below hb)
  clear hb HN' HB' HC HSM' HSF'
  clear HN HG
  go_wp2_with fail
  have hbb : Below w8.heap.size w8 (w8.alloc (.cells #[.int .i64 0, .int .i64 2, .int .i64 0, .int .i64 2] 25)) := (Below.refl _ _).alloc (Nat.le_refl _) _
  have HC := Lib.hid (HS1.out _ _ cm 2 _ (HSM.out.below hbb) (spn_at 0 2 w8))
  have HBX2 := Lib.hid (HBX.out.trans (hbb.mono HBX.out.size))
  have HSF2 := Lib.hid (HSF.out.below hbb)
  clear hbb HBX HSM HS1 HSF
  refine HC.out.mono ?_
  rintro e w9 ⟨rfl, hb⟩
  have HBX := Lib.hid (HBX2.out.trans (hb.mono HBX2.out.size))
  have HSF := Lib.hid (HSF2.out.below hb)
  clear hb HBX2 HC HSF2
  go_wp2_with fail
  have hbb : Below w9.heap.size w9 (w9.alloc (.cells #[.int .i64 1, .int .i64 3, .int .i64 1, .int .i64 3] 25)) := (Below.refl _ _).alloc (Nat.le_refl _) _
  have HC := Lib.hid (HS2.out _ _ cf 2 _ (HSF.out.below hbb) (spn_at 1 3 w9))
  have HBX2 := Lib.hid (HBX.out.trans (hbb.mono HBX.out.size))
  clear hbb HBX HSF HS2 
  refine HC.out.mono ?_
  rintro e wa ⟨rfl, hb⟩
  have HBX := Lib.hid (HBX2.out.trans (hb.mono HBX2.out.size))
  clear hb HBX2 HC 
  go_wp2_with fail
  go_ret
  exact ⟨rfl, HBX.out⟩
end Go.Proofs.YtdpkhliojbeglaaDoor

/- Stage 15: LeastAhead. -/
namespace Go.Proofs.YtdpkhliojbeglaaDoor
open Go.RowKit BS

/-- What LeastAhead says of what Tree answers. -/
theorem treeV_cases (l : List NdN) (w : List Nat) (hw : w.length ≤ 64) :
    (∃ er : Int, treeV l w = ([], er) ∧ er ≠ 0 ∧ ∀ t, treeT l w t = false) ∨
    (∃ a, treeV l w = (a, 0) ∧ a.length ≤ l.length * max 1 w.length ∧ treeT l w a = true ∧ ∀ t, treeT l w t = true → aheadT a t ≤ 0) := by
  cases hr : rightT l
  · refine .inl ⟨11, treeV_1 hr, by decide, fun t => ?_⟩
    cases ht : treeT l w t
    · rfl
    · obtain ⟨h1, _⟩ := (tree_iff l w t).1 ht
      rw [hr] at h1
      cases h1
  · have h0 : 0 < l.length := (rightT_q l hr).pos
    obtain ⟨g1, g2⟩ := least_ahead (l := l) (w := w) hr
    have e := treeV_3 (w := w) hr (by omega)
    by_cases hc : canB l w (l.length - 1) 0 w.length = true
    · rw [if_pos hc] at e
      have hl : leastT l w = some (flF 1 (growB l w (l.length - 1) 0 w.length)) := by unfold leastT; rw [if_pos hc]
      obtain ⟨h1, h2⟩ := g1 _ hl
      exact .inr ⟨_, e, grow_bound hr _ _ _ _ (by omega) ((can_iff (parts_ok l hr) _ _ _ (by omega) (Nat.zero_le _) (Nat.le_refl _)).1 hc), h1, h2⟩
    · rw [if_neg hc] at e
      have hl : leastT l w = none := by unfold leastT; rw [if_neg hc]
      exact .inl ⟨7, e, by decide, g2 hl⟩
set_option maxRecDepth 100000 in
set_option maxHeartbeats 32000000 in
theorem leastAhead_calls (l : List NdN) (hl : l.length ≤ 9223372036854775807) (w : List Nat) (hw : w.length ≤ 9223372036854775807) (hw8 : ∀ x ∈ w, x < 256) (t : List EnN) (ht : t.length ≤ 9223372036854775807)
    (ad wd td : Option Addr) (cl cw ct : Nat) (W : World) (hN : NodesAt l ad W) (hT : BtsAt w wd W) (hE : EntsAt t td W) (hG : GTab W) :
    Calls Tryd.prog 5 #[.slice ad l.length cl, .slice wd w.length cw, .slice td t.length ct] W fun e W' => e = .returned (.bool true) ∧ Below W.heap.size W W' := by
  have HSU := Lib.hid (fun (W' : World) (h : Below W.heap.size W W') => sure15_calls W' (hG.keep h))
  have HFEW := Lib.hid (few15_calls l.length w.length ad wd cl cw W hl hw)
  have HN := Lib.hid hN
  have HT := Lib.hid hT
  have HE := Lib.hid hE
  have HG := Lib.hid hG
  obtain ⟨FB, hFB⟩ : ∃ FB, FB = decide (l.length ≤ 40 ∧ w.length ≤ 24) := ⟨_, rfl⟩
  rw [← hFB] at HFEW
  have HFB := Lib.hid hFB
  clear hN hT hE hFB hG
  cases FB with
  | false =>
    go_enter Tryd.func5, Tryd.ntmps5
    go_wp2_with fail
    refine HFEW.out.mono ?_
    rintro e w2 ⟨rfl, rfl⟩
    go_wp2_with fail
    refine (HSU.out _ (Below.refl _ _)).mono ?_
    rintro e w3 ⟨rfl, hb3⟩
    go_wp2_with fail
    go_ret
    exact ⟨rfl, hb3⟩
  | true =>
  obtain ⟨hl40, hw24⟩ := of_decide_eq_true HFB.out.symm
  by_cases h6 : 600 < t.length
  · have q1 : decide (600 < t.length) = true := decide_eq_true h6
    have q2 : decide ((600 : Int) < (t.length : Int)) = true := by rw [decide_eq_true_iff]; omega
    go_enter Tryd.func5, Tryd.ntmps5
    go_wp2_with fail
    refine HFEW.out.mono ?_
    rintro e w2 ⟨rfl, rfl⟩
    go_wp2_with fail
    refine (HSU.out _ (Below.refl _ _)).mono ?_
    rintro e w3 ⟨rfl, hb3⟩
    go_wp2_with fail
    go_ret
    exact ⟨rfl, hb3⟩
  have q1 : decide (600 < t.length) = false := decide_eq_false h6
  have q2 : decide ((600 : Int) < (t.length : Int)) = false := by rw [decide_eq_false_iff_not]; omega
  have HTR := treeL_calls l (by omega) w (by omega) hw8 cl cw ad wd W HN.out HT.out HG.out.1 HG.out.2
  have HIS := Lib.hid (fun W' (hW : Below W.heap.size W W') => rTree_calls l (by omega) w (by omega) hw8 t (by omega) ad wd td cl cw ct W' (HN.out.below hW) (HT.out.below hW) (HE.out.below hW))
  rcases treeV_cases l w (by omega) with ⟨er, hv, her, hno⟩ | ⟨a, hv, hlen, hta, hleast⟩
  · rw [hv] at HTR
    have HTR := Lib.hid HTR
    rw [hno t] at HIS
    have p1 : (er != 0) = true := by rw [bne_iff_ne]; exact her
    clear hv her hno
    go_enter Tryd.func5, Tryd.ntmps5
    go_wp2_with fail
    refine HFEW.out.mono ?_
    rintro e w2 ⟨rfl, rfl⟩
    go_wp2_with fail
    refine HTR.out.mono ?_
    rintro e w3 ⟨v, rfl, how, hb3⟩
    obtain ⟨va, vc, rfl⟩ := how.form
    have HB3 := Lib.hid hb3
    clear how hb3
    go_wp2_with fail
    refine (HIS.out _ HB3.out).mono ?_
    rintro e w4 ⟨rfl, hb4⟩
    have HB4 := Lib.hid (HB3.out.trans (hb4.mono HB3.out.size))
    clear hb4
    go_wp2_with fail
    refine (HSU.out _ HB4.out).mono ?_
    rintro e w5 ⟨rfl, hb5⟩
    go_wp2_with fail
    go_ret
    exact ⟨rfl, HB4.out.trans (hb5.mono HB4.out.size)⟩
  · rw [hv] at HTR
    have HTR := Lib.hid HTR
    have hal : a.length ≤ 1000 := by
      have : l.length * max 1 w.length ≤ 40 * 24 := Nat.mul_le_mul hl40 (by omega)
      omega
    have HR1 := Lib.hid (fun W' va vc (hW : Below W.heap.size W W') (hA : EntsAt a va W') => rTree_calls l (by omega) w (by omega) hw8 a hal ad wd va cl cw vc W' (HN.out.below hW) (HT.out.below hW) hA)
    have HR2 := Lib.hid (fun W' va vc (hvc : a.length ≤ vc) (hW : Below W.heap.size W W') (hA : EntsAt a va W') => treeRight_calls l (by omega) w (by omega) hw8 a hal ad wd va cl cw vc hvc W' (HN.out.below hW) (HT.out.below hW) hA)
    have HA1 := Lib.hid (fun W' va vc (hW : Below W.heap.size W W') (hA : EntsAt a va W') => aheadD_calls a t (by omega) (by omega) va td vc ct W' hA (HE.out.below hW))
    have HA2 := Lib.hid (fun W' va vc (hW : Below W.heap.size W W') (hA : EntsAt a va W') => rAhead_calls a t (by omega) (by omega) va td vc ct W' hA (HE.out.below hW))
    have hle : treeT l w t = true → aheadT a t ≤ 0 := hleast t
    rw [hta] at HR1 HR2
    generalize aheadT a t = X at *
    generalize treeT l w t = Z at *
    clear hv hta hleast hlen
    go_enter Tryd.func5, Tryd.ntmps5
    go_wp2_with fail
    refine HFEW.out.mono ?_
    rintro e w2 ⟨rfl, rfl⟩
    go_wp2_with fail
    refine HTR.out.mono ?_
    rintro e w3 ⟨v, rfl, how, hb3⟩
    obtain ⟨va, vc, rfl⟩ := how.form
    have HVC := Lib.hid how.cap
    have HA := Lib.hid how.ents
    have HB3 := Lib.hid hb3
    clear how hb3
    go_wp2_with fail
    refine (HIS.out _ HB3.out).mono ?_
    rintro e w4 ⟨rfl, hb4⟩
    have HB4 := Lib.hid (HB3.out.trans (hb4.mono HB3.out.size))
    have HA4 := Lib.hid (HA.out.below hb4)
    clear hb4 HA HB3
    go_wp2_with fail
    refine (HR1.out _ _ _ HB4.out HA4.out).mono ?_
    rintro e w5 ⟨rfl, hb5⟩
    have HB5 := Lib.hid (HB4.out.trans (hb5.mono HB4.out.size))
    have HA5 := Lib.hid (HA4.out.below hb5)
    clear hb5 HA4 HB4
    go_wp2_with fail
    refine (HR2.out _ _ _ HVC.out HB5.out HA5.out).mono ?_
    rintro e w6 ⟨rfl, hb6⟩
    have HB6 := Lib.hid (HB5.out.trans (hb6.mono HB5.out.size))
    have HA6 := Lib.hid (HA5.out.below hb6)
    clear hb6 HA5 HB5
    cases Z
    · clear hle
      go_wp2_with fail
      refine (HSU.out _ HB6.out).mono ?_
      rintro e w7 ⟨rfl, hb7⟩
      go_wp2_with fail
      go_ret
      exact ⟨rfl, HB6.out.trans (hb7.mono HB6.out.size)⟩
    · have r1 : decide (X ≤ 0) = true := decide_eq_true (hle rfl)
      clear hle
      go_wp2_with fail
      refine (HA1.out _ _ _ HB6.out HA6.out).mono ?_
      rintro e w7 ⟨rfl, hb7⟩
      have HB7 := Lib.hid (HB6.out.trans (hb7.mono HB6.out.size))
      have HA7 := Lib.hid (HA6.out.below hb7)
      clear hb7 HA6 HB6
      go_wp2_with fail
      refine (HA2.out _ _ _ HB7.out HA7.out).mono ?_
      rintro e w8 ⟨rfl, hb8⟩
      have HB8 := Lib.hid (HB7.out.trans (hb8.mono HB7.out.size))
      clear hb8 HA7 HB7
      go_wp2_with fail
      refine (HSU.out _ HB8.out).mono ?_
      rintro e w9 ⟨rfl, hb9⟩
      go_wp2_with fail
      go_ret
      exact ⟨rfl, HB8.out.trans (hb9.mono HB8.out.size)⟩
end Go.Proofs.YtdpkhliojbeglaaDoor

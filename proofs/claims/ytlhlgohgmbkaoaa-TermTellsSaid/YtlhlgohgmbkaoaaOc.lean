/- The developers' terms: stands. Stage 10. -/
import Derived.Test.YtlhlgohgmbkaoaaOb
namespace Go.Proofs.Ytlhlgohgmbkaoaa
open Go.RowKit BS

/-- A list of nodes with where each begins, and its marks. -/
@[reducible] def tmC (a : Option Addr) (n cap : Nat) (L G : Option Addr) : Array Value := #[.slice a n cap, .slice L n n, .slice G n n]
/-- Does a node stand right behind its parts? -/
def stB (lw : Nat → Nat) (i : Nat) (k c n : Int) : Bool :=
  if k = 1 ∨ k = 2 then (c == -1) && (n == -1)
  else if k = 5 ∨ k = 6 ∨ k = 7 ∨ k = 8 then decide (0 < i) && ((c == (i : Int) - 1) && (n == -1))
  else if k = 3 ∨ k = 4 then decide (0 < i) && (decide (0 < lw (i - 1)) && ((n == (i : Int) - 1) && (c == (lw (i - 1) : Int) - 1)))
  else false
set_option maxRecDepth 100000 in
set_option maxHeartbeats 32000000 in
theorem stands_calls (l : List NdN) (hl : l.length ≤ 1000) (i : Nat) (hi : i < l.length) (a : Option Addr) (cap L : Nat) (G : Option Addr) (lw : Nat → Nat) (hlb : lw (i - 1) ≤ 1000) (w : World) (h : NodesAt l a w) (hL : L < w.heap.size) (hlw : 0 < i → w.cell? ⟨L, i - 1, none⟩ = some (.int .i64 (lw (i - 1) : Nat))) :
    Calls Try.prog 26 #[.agg (tmC a l.length cap (some ⟨L, 0, none⟩) G), .int .i64 i] w fun e w' => e = .returned (.bool (stB lw i l[i].kind l[i].kids l[i].n)) ∧ Below w.heap.size w w' := by
  have hne : l ≠ [] := by rintro rfl; simp at hi
  obtain ⟨g, off, rfl, hg, hc⟩ := h hne
  have hB0 : Below w.heap.size w (w.alloc (.cells (tmC (some ⟨g, off, none⟩) l.length cap (some ⟨L, 0, none⟩) G) 39)) := by go_grown
  have hT := Blk.new w (tmC (some ⟨g, off, none⟩) l.length cap (some ⟨L, 0, none⟩) G) 39
  have hz : (w.alloc (.cells (tmC (some ⟨g, off, none⟩) l.length cap (some ⟨L, 0, none⟩) G) 39)).heap.size = w.heap.size + 1 := World.size_alloc ..
  have hcell := fun (j : Nat) (hj : j < 8) => (hB0.cell (p := ⟨g, off + i * 8 + j, none⟩) hg).trans (hc i hi j hj)
  have hlc := fun h0 => (hB0.cell (p := ⟨L, i - 1, none⟩) hL).trans (hlw h0)
  have d0 := hcell 0 (by decide); have d1 := hcell 1 (by decide); have d2 := hcell 2 (by decide); have d3 := hcell 3 (by decide); have d4 := hcell 4 (by decide); have d5 := hcell 5 (by decide); have d6 := hcell 6 (by decide); have d7 := hcell 7 (by decide)
  simp only [ndA, List.getElem?_toArray, List.getElem?_cons_zero, List.getElem?_cons_succ, Nat.add_zero] at d0 d1 d2 d3 d4 d5 d6 d7
  generalize l[i] = x at *
  obtain ⟨k, kc, kn, km, t⟩ := x
  simp only at d0 d1 d2 d3 d4 d5 d6 d7
  obtain ⟨R, hR⟩ : ∃ R, stB lw i k kc kn = R := ⟨_, rfl⟩
  show Calls _ _ _ _ fun e w' => e = .returned (.bool (stB lw i k kc kn)) ∧ Below w.heap.size w w'
  rw [hR]
  unfold stB at hR
  have HR := Lib.hid hR
  have hii : (i : Int) < (l.length : Int) := by omega
  have hd : decide (i < l.length) = true := by rw [decide_eq_true_iff]; omega
  clear hR hcell hlw hc hne h
  go_enter Try.func26, Try.ntmps26
  go_upto_region 1 with fail
  generalize w.alloc (.cells (tmC (some ⟨g, off, none⟩) l.length cap (some ⟨L, 0, none⟩) G) 39) = w1 at *
  have t0 := hT.cell 0; have t1 := hT.cell 1
  simp only [List.getElem?_toArray, List.getElem?_cons_zero, List.getElem?_cons_succ] at t0 t1
  have hN := Blk.new w1 (ndI k kc kn km t) 35
  have hB2 := hB0.alloc hB0.size (.cells (ndI k kc kn km t) 35)
  have hT2 := hT.alloc (.cells (ndI k kc kn km t) 35)
  have hlc2 := fun h0 => (((Below.refl w1.heap.size w1).alloc (Nat.le_refl _) (.cells (ndI k kc kn km t) 35)).cell (p := ⟨L, i - 1, none⟩) (show L < w1.heap.size by omega)).trans (hlc h0)
  rw [hz] at hN
  go_upto_region 2 with fail
  clear d0 d1 d2 d3 d4 d5 d6 d7 hT t0 t1 hB0 hlc
  generalize w1.alloc (.cells (ndI k kc kn km t) 35) = w2 at *
  have n0 := hN.cell 0; have n1 := hN.cell 1; have n2 := hN.cell 2
  have t1 := hT2.cell 1
  simp only [List.getElem?_toArray, List.getElem?_cons_zero, List.getElem?_cons_succ] at n0 n1 n2 t1
  clear hN hT2 hz
  have HB := Lib.hid hB2
  clear hB2
  by_cases c12 : k = 1 ∨ k = 2
  · rw [if_pos c12] at HR
    clear hlc2 t1
    cases hA : (kc == -1) with
    | false =>
      rw [hA, Bool.false_and] at HR
      rcases c12 with rfl | rfl
      all_goals
        go_wp2_with fail
        go_ret
        exact ⟨by rw [← HR.out] <;> rfl, HB.out⟩
    | true =>
      rw [hA, Bool.true_and] at HR
      rcases c12 with rfl | rfl
      all_goals
        go_wp2_with fail
        go_ret
        exact ⟨by rw [← HR.out] <;> rfl, HB.out⟩
  rw [if_neg c12] at HR
  have q1 : (k == 1) = false := by rw [beq_eq_false_iff_ne]; omega
  have q2 : (k == 2) = false := by rw [beq_eq_false_iff_ne]; omega
  by_cases c58 : k = 5 ∨ k = 6 ∨ k = 7 ∨ k = 8
  · rw [if_pos c58] at HR
    clear hlc2 t1 q1 q2 c12
    have xi : IntKind.i64.wrap ((i : Int) - 1) = (i : Int) - 1 := IntWalk.i64_in _ (by omega)
    by_cases h0 : 0 < i
    · have hp : decide ((0 : Int) < (i : Int)) = true := by rw [decide_eq_true_iff]; omega
      have hp' : decide (0 < i) = true := decide_eq_true h0
      rw [hp', Bool.true_and] at HR
      clear h0
      cases hA : (kc == (i : Int) - 1) with
      | false =>
        rw [hA, Bool.false_and] at HR
        rcases c58 with rfl | rfl | rfl | rfl
        all_goals
          go_wp2_with fail
          go_ret
          exact ⟨by rw [← HR.out] <;> rfl, HB.out⟩
      | true =>
        rw [hA, Bool.true_and] at HR
        rcases c58 with rfl | rfl | rfl | rfl
        all_goals
          go_wp2_with fail
          go_ret
          exact ⟨by rw [← HR.out] <;> rfl, HB.out⟩
    · obtain rfl : i = 0 := by omega
      have HR2 := Lib.hid (show false = R from by rw [← HR.out]; rfl)
      clear HR h0
      rcases c58 with rfl | rfl | rfl | rfl
      all_goals
        go_wp2_with fail
        go_ret
        exact ⟨by rw [← HR2.out] <;> rfl, HB.out⟩
  rw [if_neg c58] at HR
  by_cases c34 : k = 3 ∨ k = 4
  · rw [if_pos c34] at HR
    clear q1 q2 c12 c58
    by_cases h0 : 0 < i
    · have xi : IntKind.i64.wrap ((i : Int) - 1) = ((i - 1 : Nat) : Int) := by rw [IntWalk.i64_in _ (by omega)]; omega
      have hp : decide ((0 : Int) < (i : Int)) = true := by rw [decide_eq_true_iff]; omega
      have hp' : decide (0 < i) = true := decide_eq_true h0
      have ei : (i : Int) - 1 = ((i - 1 : Nat) : Int) := by omega
      have hl1 := hlc2 h0
      rw [hp', Bool.true_and, ei] at HR
      have hiI : ((i - 1 : Nat) : Int) < (l.length : Int) := by omega
      have hid : decide (i - 1 < l.length) = true := by rw [decide_eq_true_iff]; omega
      generalize lw (i - 1) = lo at *
      have xl : IntKind.i64.wrap ((lo : Int) - 1) = (lo : Int) - 1 := IntWalk.i64_in _ (by omega)
      generalize i - 1 = j at *
      clear hlc2 ei
      by_cases hlo : 0 < lo
      · have hq : decide ((0 : Int) < (lo : Int)) = true := by rw [decide_eq_true_iff]; omega
        have hq' : decide (0 < lo) = true := decide_eq_true hlo
        rw [hq', Bool.true_and] at HR
        clear h0 hlo
        cases hA : (kn == (j : Int)) with
        | false =>
          rw [hA, Bool.false_and] at HR
          rcases c34 with rfl | rfl
          all_goals
            go_upto_region 13 with fail
            go_quiet (fail)
            go_wp2_with fail
            go_ret
            exact ⟨by rw [← HR.out] <;> rfl, below_drN HB.out _⟩
        | true =>
          rw [hA, Bool.true_and] at HR
          rcases c34 with rfl | rfl
          all_goals
            go_upto_region 13 with fail
            go_quiet (fail)
            go_wp2_with fail
            go_ret
            exact ⟨by rw [← HR.out] <;> rfl, below_drN HB.out _⟩
      · obtain rfl : lo = 0 := by omega
        have hq : decide ((0 : Int) < ((0 : Nat) : Int)) = false := by decide
        have HR2 := Lib.hid (show false = R from by rw [← HR.out]; rfl)
        clear HR h0 hlo
        rcases c34 with rfl | rfl
        all_goals
          go_upto_region 13 with fail
          go_quiet (fail)
          go_wp2_with fail
          go_ret
          exact ⟨by rw [← HR2.out] <;> rfl, below_drN HB.out _⟩
    · obtain rfl : i = 0 := by omega
      have HR2 := Lib.hid (show false = R from by rw [← HR.out]; rfl)
      clear HR h0 hlc2
      rcases c34 with rfl | rfl
      all_goals
        go_upto_region 13 with fail
        go_quiet (fail)
        go_wp2_with fail
        go_ret
        exact ⟨by rw [← HR2.out] <;> rfl, below_drN HB.out _⟩
  · rw [if_neg c34] at HR
    have q3 : (k == 3) = false := by rw [beq_eq_false_iff_ne]; omega
    have q4 : (k == 4) = false := by rw [beq_eq_false_iff_ne]; omega
    have q5 : (k == 5) = false := by rw [beq_eq_false_iff_ne]; omega
    have q6 : (k == 6) = false := by rw [beq_eq_false_iff_ne]; omega
    have q7 : (k == 7) = false := by rw [beq_eq_false_iff_ne]; omega
    have q8 : (k == 8) = false := by rw [beq_eq_false_iff_ne]; omega
    clear c12 c58 c34 hlc2 t1
    go_wp2_with fail
    go_ret
    exact ⟨by rw [← HR.out] <;> rfl, HB.out⟩
end Go.Proofs.Ytlhlgohgmbkaoaa

/- With: a set with some bytes more. -/
import Derived.Test.YtkkhibamkdgffaaDoorSu
import Derived.Test.YtkkhibamkdgffaaDoorBk
namespace Go.Proofs.YtkkhibamkdgffaaDoor
open Go.RowKit Go.Shelf BS
attribute [local go_sem] Oper.semAt_some

/-- The set of one number. -/
def one (x : Nat) : BitVec 256 := ofFn fun j => decide (j = x)
def withL (s : BitVec 256) (l : List (Fin 256)) : BitVec 256 := l.foldl (fun t x => t ||| one x.val) s
theorem withL_snoc (s : BitVec 256) (l : List (Fin 256)) (x : Fin 256) : withL s (l ++ [x]) = withL s l ||| one x.val := by simp [withL]

theorem wd_one (x i : Nat) (hi : i < 4) : wd (one x) i = if x / 64 = i then 2 ^ (x % 64) else 0 := by
  apply Nat.eq_of_testBit_eq; intro j
  rw [testBit_wd, one, get_ofFn]
  by_cases h : x / 64 = i
  · rw [if_pos h, Nat.testBit_two_pow]
    by_cases hj : j < 64
    · simp only [hj, show 64 * i + j < 256 by omega, decide_true, Bool.true_and, decide_eq_decide]; omega
    · simp only [hj, decide_false, Bool.false_and]
      symm; rw [decide_eq_false_iff_not]; omega
  · rw [if_neg h, Nat.zero_testBit]
    by_cases hj : j < 64
    · simp only [hj, show 64 * i + j < 256 by omega, decide_true, Bool.true_and, decide_eq_false_iff_not]; omega
    · simp [hj]

theorem or_one_same (t : BitVec 256) (x i : Nat) (hi : i < 4) (h : x / 64 = i) : bits .or .u64 (wd t i : Int) (IntKind.u64.wrap (2 ^ (x % 64))) = (wd (t ||| one x) i : Int) := by
  have h1 : x % 64 < 64 := Nat.mod_lt _ (by decide)
  have h2 : (2 : Nat) ^ (x % 64) < 2 ^ 64 := Nat.pow_lt_pow_right (by decide) h1
  have h3 : ((2 : Int) ^ (x % 64)) = ((2 ^ (x % 64) : Nat) : Int) := by simp
  rw [h3, wrap_u64_nat _ h2, bits_or_nat _ _ (wd_lt _ _) h2, wd_or, wd_one x i hi, if_pos h]
theorem or_one_other (t : BitVec 256) (x i : Nat) (hi : i < 4) (h : x / 64 ≠ i) : wd t i = wd (t ||| one x) i := by
  rw [wd_or, wd_one x i hi, if_neg h, Nat.or_zero]

@[reducible] def setA (s : BitVec 256) : Array Value := #[.int .u64 (wd s 0), .int .u64 (wd s 1), .int .u64 (wd s 2), .int .u64 (wd s 3)]

theorem Blk.cells4 {W : World} {B : Nat} {a b c d : Value} {t : TypeId} (h : Blk W B #[a, b, c, d] t) : (W.cell? ⟨B, 0, none⟩ = some a ∧ W.cell? ⟨B, 1, none⟩ = some b ∧ W.cell? ⟨B, 2, none⟩ = some c ∧ W.cell? ⟨B, 3, none⟩ = some d) ∧
    (W.frozen? ⟨B, 0, none⟩ = false ∧ W.frozen? ⟨B, 1, none⟩ = false ∧ W.frozen? ⟨B, 2, none⟩ = false ∧ W.frozen? ⟨B, 3, none⟩ = false) :=
  ⟨⟨h.cell 0, h.cell 1, h.cell 2, h.cell 3⟩, h.frozen 0, h.frozen 1, h.frozen 2, h.frozen 3⟩

theorem setA_or (t : BitVec 256) (x : Nat) (h0 : x / 64 = 0) : (setA t).setIfInBounds 0 (.int .u64 (bits .or .u64 (wd t 0 : Int) (IntKind.u64.wrap (2 ^ (x % 64))))) = setA (t ||| one x) := by
  rw [or_one_same t x 0 (by decide) h0, setA, setA, ← or_one_other t x 1 (by decide) (by omega), ← or_one_other t x 2 (by decide) (by omega), ← or_one_other t x 3 (by decide) (by omega)]; rfl
theorem setA_or1 (t : BitVec 256) (x : Nat) (h0 : x / 64 = 1) : (setA t).setIfInBounds 1 (.int .u64 (bits .or .u64 (wd t 1 : Int) (IntKind.u64.wrap (2 ^ (x % 64))))) = setA (t ||| one x) := by
  rw [or_one_same t x 1 (by decide) h0, setA, setA, ← or_one_other t x 0 (by decide) (by omega), ← or_one_other t x 2 (by decide) (by omega), ← or_one_other t x 3 (by decide) (by omega)]; rfl
theorem setA_or2 (t : BitVec 256) (x : Nat) (h0 : x / 64 = 2) : (setA t).setIfInBounds 2 (.int .u64 (bits .or .u64 (wd t 2 : Int) (IntKind.u64.wrap (2 ^ (x % 64))))) = setA (t ||| one x) := by
  rw [or_one_same t x 2 (by decide) h0, setA, setA, ← or_one_other t x 0 (by decide) (by omega), ← or_one_other t x 1 (by decide) (by omega), ← or_one_other t x 3 (by decide) (by omega)]; rfl
theorem setA_or3 (t : BitVec 256) (x : Nat) (h0 : x / 64 = 3) : (setA t).setIfInBounds 3 (.int .u64 (bits .or .u64 (wd t 3 : Int) (IntKind.u64.wrap (2 ^ (x % 64))))) = setA (t ||| one x) := by
  rw [or_one_same t x 3 (by decide) h0, setA, setA, ← or_one_other t x 0 (by decide) (by omega), ← or_one_other t x 1 (by decide) (by omega), ← or_one_other t x 2 (by decide) (by omega)]; rfl

set_option maxRecDepth 100000 in
set_option maxHeartbeats 2000000 in
/-- With. -/
theorem with_in (n : Nat) (hn : 3 ≤ n) (s : BitVec 256) (v : Value) (a : Option Addr) (len cap : Nat) (hv : v = .slice a len cap) (l : List (Fin 256)) (hreach : l.length ≤ 9223372036854775807) (w : World) (hI : BytesAt w.heap.size w v l) :
    CallsIn Fence.wide n Tryd.prog 7 #[setV s, v] w fun e W' => e = .returned (setV (withL s l)) ∧ Below w.heap.size w W' := by
  have h1 : 1 ≤ n := by omega
  subst hv
  refine callsIn_of_wp_marks Tryd.func7 rfl trivial ?_ rfl
  simp only [Tryd.ntmps7, List.size_toArray, List.length_cons, List.length_nil, Nat.reduceAdd, Nat.reduceSub, Array.replicate_succ, Array.replicate_zero, List.push_toArray, List.append_toArray, List.nil_append, List.cons_append]
  gi_wp2_with (refine ⟨trivial, ?_⟩; gi_at_call 18; refine (values_in (n - 1) _ _ _ _).mono ?_; rintro e w' ⟨rfl, rfl⟩)
  obtain ⟨w0, hw0⟩ : ∃ w0, ((w.alloc (.cells (setA s) 24)).alloc (.cells #[.int .u64 0, .int .u64 0, .int .u64 0, .int .u64 0] 24)) = w0 := ⟨_, rfl⟩
  have bS : Blk w0 w.heap.size (setA s) 24 := by rw [← hw0]; exact (Blk.new w _ _).alloc _
  have bR : Blk w0 (w.heap.size + 1) #[.int .u64 0, .int .u64 0, .int .u64 0, .int .u64 0] 24 := by
    rw [← hw0]; have := Blk.new (w.alloc (.cells (setA s) 24)) #[.int .u64 0, .int .u64 0, .int .u64 0, .int .u64 0] 24; rwa [World.size_alloc] at this
  have hz0 : w0.heap.size = w.heap.size + 2 := by rw [← hw0]; simp
  have hB0 : Below w.heap.size w w0 := by rw [← hw0]; go_grown
  rw [show ((w.alloc (.cells #[.int .u64 (wd s 0), .int .u64 (wd s 1), .int .u64 (wd s 2), .int .u64 (wd s 3)] 24)).alloc (.cells #[.int .u64 0, .int .u64 0, .int .u64 0, .int .u64 0] 24)) = w0 from hw0]
  have bN := Boxed.new w0 40 (.slice a len cap)
  rw [show w.heap.size + 1 + 1 = w0.heap.size by omega]
  clear hw0
  have hz1 : w.heap.size + 2 ≤ w0.heap.size := by omega
  clear hz0
  refine wpIn_rangeFunc_ownG rfl h1 (gf := 24) (lb := #[.pointer (some ⟨w0.heap.size, 0, none⟩)]) rfl trivial (enters_of Tryd.func24 (by kernel_rfl) rfl)
    (values_stops (n - 1) (by omega) w0.heap.size w.heap.size _ l hreach _ (by simp) (by simp; omega) bN.cell (hI.keep (hB0.alloc (by omega) _))) belowK_t (belowK_b (by simp; omega)) (Below.refl _ _) (fun _ => rfl)
    (fun pre W => (Blk W w.heap.size (setA (withL s pre)) 24 ∧ Blk W (w.heap.size + 1) #[.int .u64 0, .int .u64 0, .int .u64 0, .int .u64 0] 24) ∧ Below w.heap.size w W)
    (fun _ _ _ => False)
    (OwnFrom.and (Own.from (fun s' A B row hs hg hr => ⟨hs.1.kept hg (hs.1.not_row hr), hs.2.kept hg (hs.2.not_row hr)⟩) _) (ownFrom_below (Nat.le_refl _) (by simp; omega)))
    (fun _ _ _ _ _ hs _ _ => hs)
    ⟨⟨bS.alloc _, bR.alloc _⟩, hB0.alloc (by omega) _⟩
    (fun x => { tmps := #[setV s, .slice a len cap, .pointer (some ⟨w.heap.size, 0, none⟩), undef, .pointer (some ⟨w.heap.size + 1, 0, none⟩), .int .u8 (x.val : Int), .slice a len cap,
          .func (.func 24) #[] #[.pointer (some ⟨w0.heap.size, 0, none⟩)], .int .u8 (x.val : Int), undef, undef, undef, undef, undef, undef, undef, undef, undef, undef], defers := [] }) ?assign ?body ?done ?stop
  case assign =>
    intro l x W K hK
    gi_wp2
    exact hK
  case body =>
    rintro l pre x W ⟨⟨bS, bR⟩, hB⟩ _
    obtain ⟨⟨c0, c1, c2, c3⟩, f0, f1, f2, f3⟩ := bS.cells4
    have hx := x.isLt
    have HW := Lib.hid (withL_snoc s pre x)
    generalize withL s pre = t at *
    obtain ⟨x, hx'⟩ := x
    simp only at hx HW ⊢
    have hx2 : 0 ≤ (x : Int) % 64 := by omega
    have hx3 : (x : Int) % 64 < 64 := by omega
    have h4 : (x : Int) / 64 = 0 ∨ (x : Int) / 64 = 1 ∨ (x : Int) / 64 = 2 ∨ (x : Int) / 64 = 3 := by omega
    rcases h4 with hx4 | hx4 | hx4 | hx4
    · gi_wp2
      refine ⟨(KeepsOthers.setCell _ _ _).from _, below_set (Below.refl _ _) (Nat.le_refl _) _ _, ⟨?_, bR.other (by omega) _ _⟩, below_set hB (Nat.le_refl _) _ _⟩
      rw [HW.out, ← setA_or t x (by omega)]
      exact bS.set 0 _
    · gi_wp2
      refine ⟨(KeepsOthers.setCell _ _ _).from _, below_set (Below.refl _ _) (Nat.le_refl _) _ _, ⟨?_, bR.other (by omega) _ _⟩, below_set hB (Nat.le_refl _) _ _⟩
      rw [HW.out, ← setA_or1 t x (by omega)]
      exact bS.set 1 _
    · gi_wp2
      refine ⟨(KeepsOthers.setCell _ _ _).from _, below_set (Below.refl _ _) (Nat.le_refl _) _ _, ⟨?_, bR.other (by omega) _ _⟩, below_set hB (Nat.le_refl _) _ _⟩
      rw [HW.out, ← setA_or2 t x (by omega)]
      exact bS.set 2 _
    · gi_wp2
      refine ⟨(KeepsOthers.setCell _ _ _).from _, below_set (Below.refl _ _) (Nat.le_refl _) _ _, ⟨?_, bR.other (by omega) _ _⟩, below_set hB (Nat.le_refl _) _ _⟩
      rw [HW.out, ← setA_or3 t x (by omega)]
      exact bS.set 3 _
  case done =>
    rintro D ys W hD rfl ⟨⟨bS, bR⟩, hB⟩ hK
    obtain ⟨⟨c0, c1, c2, c3⟩, f0, f1, f2, f3⟩ := bS.cells4
    obtain ⟨⟨d0, d1, d2, d3⟩, g0, g1, g2, g3⟩ := bR.cells4
    gi_wp2
    generalize withL s ys = t at *
    have bR' := (((bR.set 0 (.int .u64 (wd t 0))).set 1 (.int .u64 (wd t 1))).set 2 (.int .u64 (wd t 2))).set 3 (.int .u64 (wd t 3))
    have hB' := below_set (below_set (below_set (below_set hB (B := w.heap.size + 1) (by omega) 0 (.int .u64 (wd t 0))) (B := w.heap.size + 1) (by omega) 1 (.int .u64 (wd t 1))) (B := w.heap.size + 1) (by omega) 2 (.int .u64 (wd t 2))) (B := w.heap.size + 1) (by omega) 3 (.int .u64 (wd t 3))
    have hK' := ((((KeepsOthers.setCell W ⟨w.heap.size + 1, 0, none⟩ (.int .u64 (wd t 0))).trans (KeepsOthers.setCell _ ⟨w.heap.size + 1, 1, none⟩ (.int .u64 (wd t 1)))).trans (KeepsOthers.setCell _ ⟨w.heap.size + 1, 2, none⟩ (.int .u64 (wd t 2)))).trans (KeepsOthers.setCell _ ⟨w.heap.size + 1, 3, none⟩ (.int .u64 (wd t 3)))).same D _ hK rfl
    generalize (((W.setCell ⟨w.heap.size + 1, 0, none⟩ (.int .u64 (wd t 0))).setCell ⟨w.heap.size + 1, 1, none⟩ (.int .u64 (wd t 1))).setCell ⟨w.heap.size + 1, 2, none⟩ (.int .u64 (wd t 2))).setCell ⟨w.heap.size + 1, 3, none⟩ (.int .u64 (wd t 3)) = W4 at *
    refine ⟨by simp, .inl ⟨_, _, rfl, run_takeDeferred hK', ?_⟩⟩
    have bR2 : Blk (W4.putObj D (.deferred none)) (w.heap.size + 1) (setA t) 24 := bR'.putObj _ hK' rfl
    obtain ⟨⟨e0, e1, e2, e3⟩, _⟩ := bR2.cells4
    refine ⟨setV t, ?_, rfl, hB'.trans (belowK_b (w := w) (Nat.le_refl _) _ D _ _ (by simp at hD; omega) hK' rfl rfl)⟩
    simp [results, Tryd.f7, go_sem, e0, e1, e2, e3]
  case stop =>
    rintro D c pre W _ _ h _
    exact h.elim
end Go.Proofs.YtkkhibamkdgffaaDoor

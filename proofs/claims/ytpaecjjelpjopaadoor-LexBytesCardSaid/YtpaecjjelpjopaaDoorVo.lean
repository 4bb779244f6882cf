/- The laws of stage 5: LexBytes. -/
import Derived.Test.YtpaecjjelpjopaaDoorVl
namespace Go.Proofs.YtpaecjjelpjopaaDoor
open Go.RowKit BS

theorem tabG_set {W : World} {n : Nat} (h : TabG W) (hn : 0 < n) (i : Nat) (v : Value) : TabG (W.setCell ⟨n, i, none⟩ v) := by
  have hb : Below n W (W.setCell ⟨n, i, none⟩ v) := below_set (Below.refl _ _) (Nat.le_refl _) i v
  exact ⟨h.1.keep hb hn, by simpa using h.2⟩
/-- Of a byte: the text of the set that has it alone is read as it; it is the byte alone just if that is read as it. -/
def bytesB (b : Nat) : Bool :=
  let t := range b b
  let T := textW t
  let r := nextN (ofT T) 0
  let x := nextN (ofT [b]) 0
  decide (T.length = 1 ∨ T.length = 2) && decide (r.2.1 = 0) && decide (r.2.2 = 0) && decide (r.1.kind = 1) && decide (r.1.pos = 0) && decide (r.1.fin = T.length) && decide (r.1.set = t) && decide (r.1.n = 0) && decide (r.1.m = 0) &&
    ((decide (x.2.1 = 0) && decide (x.1.kind = 1) && decide (x.1.set = t)) == decide (T.length = 1))
theorem bytes_all : ∀ b, b < 256 → bytesB b = true := by decide +kernel
theorem one_range (b : Nat) : one b = range b b := by
  apply BitVec.eq_of_getLsbD_eq
  intro j hj
  rw [one, range, get_ofFn, get_ofFn, Bool.eq_iff_iff]
  simp
  omega
theorem shl_set (b i : Nat) (hi : i < 4) (h : b / 64 = i) : (#[.int .u64 0, .int .u64 0, .int .u64 0, .int .u64 0] : Array Value).setIfInBounds i (.int .u64 (IntKind.u64.wrap (2 ^ (b % 64)))) = setA (range b b) := by
  have h1 : b % 64 < 64 := Nat.mod_lt _ (by decide)
  have h2 : (2 : Nat) ^ (b % 64) < 2 ^ 64 := Nat.pow_lt_pow_right (by decide) h1
  have h3 : ((2 : Int) ^ (b % 64)) = ((2 ^ (b % 64) : Nat) : Int) := by simp
  rw [← one_range, h3, wrap_u64_nat _ h2, setA, wd_one b 0 (by decide), wd_one b 1 (by decide), wd_one b 2 (by decide), wd_one b 3 (by decide)]
  rcases (by omega : i = 0 ∨ i = 1 ∨ i = 2 ∨ i = 3) with rfl | rfl | rfl | rfl <;> rw [h] <;> rfl

set_option maxRecDepth 100000 in
set_option maxHeartbeats 16000000 in
theorem bytes5_calls (C : LexC) (b : Nat) (hb256 : b < 256) (w : World) (hT : TabG w) : Calls Tryd.prog 4 #[.int .u8 b] w fun en w' => en = .returned (.bool true) ∧ Below w.heap.size w w' := by
  have hall := bytes_all b hb256
  unfold bytesB at hall
  simp only [Bool.and_eq_true, decide_eq_true_eq, beq_iff_eq] at hall
  obtain ⟨⟨⟨⟨⟨⟨⟨⟨⟨hN, r1⟩, r2⟩, r3⟩, r4⟩, r5⟩, r6⟩, r7⟩, r8⟩, hx⟩ := hall
  have HTX := Lib.hid (C.text (range b b))
  have hSz : (ofT (textW (range b b))).size = (textW (range b b)).length := size_ofT _
  have hY := C.next (ofT (textW (range b b))) (by rw [hSz]; omega) 0
  have hX := C.next (ofT [b]) (by rw [size_ofT]; simp) 0
  have HSU := Lib.hid (sure5_calls C)
  have HT := Lib.hid hT
  have hTW := hT.2
  have hset := shl_set b
  have hcv : ∀ W : World, (convert 34 9 (.slice (some ⟨W.heap.size, 0, none⟩) 1 1)).run Tryd.prog (W.alloc (.cells #[.int .u8 b] 5)) = .ok (.string (ofT [b])) (W.alloc (.cells #[.int .u8 b] 5)) := fun W => cv1 W 5 b
  generalize ofT [b] = bT at *
  generalize nextN bT 0 = X at *
  generalize nextN (ofT (textW (range b b))) 0 = Y at *
  generalize (textW (range b b)).length = N at *
  generalize ofT (textW (range b b)) = tt at *
  generalize range b b = t at *
  obtain ⟨⟨xk, xa, xf, xs, xn, xm⟩, xe, xp⟩ := X
  obtain ⟨⟨yk, ya, yf, ys, yn, ym⟩, ye, yp⟩ := Y
  simp only at r1 r2 r3 r4 r5 r6 r7 r8 hx
  subst r1 r2 r3 r4 r5 r6 r7 r8
  have HY : Hid (∀ w, TabG w → Calls Tryd.prog 7 #[.string tt, .int .i64 0] w fun en w' => en = .returned (.tuple #[.agg (woI 1 0 yf ys 0 0), .int .i64 0, .int .i64 0]) ∧ Below w.heap.size w w') := Lib.hid hY
  have HX : Hid (∀ w, TabG w → Calls Tryd.prog 7 #[.string bT, .int .i64 0] w fun en w' => en = .returned (.tuple #[.agg (woI xk xa xf xs xn xm), .int .i64 xe, .int .i64 xp]) ∧ Below w.heap.size w w') := Lib.hid hX
  clear hX hY hT C
  have HX2 := Lib.hid hx
  have HSET := Lib.hid hset
  have HCV := Lib.hid hcv
  have HN := Lib.hid hN
  clear hx hset hcv hN
  have hS := Blk.new w #[.int .u64 0, .int .u64 0, .int .u64 0, .int .u64 0] 26
  replace HT := Lib.hid (HT.out.alloc (.cells #[.int .u64 0, .int .u64 0, .int .u64 0, .int .u64 0] 26))
  have HB : Hid (Below w.heap.size w (w.alloc (.cells #[.int .u64 0, .int .u64 0, .int .u64 0, .int .u64 0] 26))) := Lib.hid (by go_grown)
  have hz : w.heap.size + 1 ≤ (w.alloc (.cells #[.int .u64 0, .int .u64 0, .int .u64 0, .int .u64 0] 26)).heap.size := by simp
  have HTW := Lib.hid hTW
  clear hTW
  go_enter Tryd.func4, Tryd.ntmps4
  go_upto_region 2 with fail
  generalize w.alloc (.cells #[.int .u64 0, .int .u64 0, .int .u64 0, .int .u64 0] 26) = w1 at *
  obtain ⟨⟨c0, c1, c2, c3⟩, f0, f1, f2, f3⟩ := hS.cells4
  have hx2 : 0 ≤ (b : Int) % 64 := by omega
  have hx3 : (b : Int) % 64 < 64 := by omega
  have h4 : (b : Int) / 64 = 0 ∨ (b : Int) / 64 = 1 ∨ (b : Int) / 64 = 2 ∨ (b : Int) / 64 = 3 := by omega
  have SBX := Lib.hid hS
  clear hS
  rcases h4 with hx4 | hx4 | hx4 | hx4
  · go_upto_region 3 with fail
    have hval := HSET.out 0 (by decide) (by omega)
    have SB : Hid (Blk (w1.setCell ⟨w.heap.size, 0, none⟩ (.int .u64 (IntKind.u64.wrap (2 ^ (b % 64))))) w.heap.size (setA ys) 26) := Lib.hid (by rw [← hval]; exact SBX.out.set 0 _)
    replace HT : Hid (TabG (w1.setCell ⟨w.heap.size, 0, none⟩ (.int .u64 (IntKind.u64.wrap (2 ^ (b % 64)))))) := Lib.hid (tabG_set HT.out (HTW.out) 0 _)
    replace HB := Lib.hid (below_set HB.out (Nat.le_refl _) 0 (.int .u64 (IntKind.u64.wrap (2 ^ (b % 64)))))
    have hz2 : w.heap.size + 1 ≤ (w1.setCell ⟨w.heap.size, 0, none⟩ (.int .u64 (IntKind.u64.wrap (2 ^ (b % 64))))).heap.size := by simpa using hz
    clear hz SBX hval c0 c1 c2 c3 f0 f1 f2 f3 HSET hx2 hx3 hx4
    have hz := Nat.le_of_succ_le hz2
    clear hz2
    generalize w1.setCell ⟨w.heap.size, 0, none⟩ (.int .u64 (IntKind.u64.wrap (2 ^ (b % 64)))) = w2 at *
    obtain ⟨⟨c0, c1, c2, c3⟩, _⟩ := SB.out.cells4
    go_wp2_with fail
    refine (HTX.out _ HT.out).mono ?_
    rintro en w3 ⟨rfl, hb⟩
    clear c0 c1 c2 c3
    have SBx := Lib.hid (SB.out.below hb (Blk.lt SB.out))
    have HTx := Lib.hid (HT.out.below hb)
    have HBx := Lib.hid (HB.out.trans (hb.mono (by omega)))
    have hzx := Nat.le_trans hz hb.size
    clear SB HT HB hz hb
    have SB := SBx
    have HT := HTx
    have HB := HBx
    have hz := hzx
    clear SBx HTx HBx hzx
    clear HTX
    go_wp2_with fail
    refine (HY.out _ HT.out).mono ?_
    rintro en w4 ⟨rfl, hb⟩
    have SBx := Lib.hid (SB.out.below hb (Blk.lt SB.out))
    have HTx := Lib.hid (HT.out.below hb)
    have HBx := Lib.hid (HB.out.trans (hb.mono (by omega)))
    have hzx := Nat.le_trans hz hb.size
    clear SB HT HB hz hb
    have SB := SBx
    have HT := HTx
    have HB := HBx
    have hz := hzx
    clear SBx HTx HBx hzx
    clear HY
    go_upto_region 5 with fail
    have BA : Hid (Blk (w4.alloc (.cells #[.int .i64 1, .int .i64 0, .int .i64 yf, .int .u64 (wd ys 0), .int .u64 (wd ys 1), .int .u64 (wd ys 2), .int .u64 (wd ys 3), .int .i64 0, .int .i64 0] 28)) w4.heap.size (woI 1 0 yf ys 0 0) 28) := Lib.hid (Blk.new w4 (woI 1 0 yf ys 0 0) 28)
    replace SB := Lib.hid (SB.out.alloc (.cells #[.int .i64 1, .int .i64 0, .int .i64 yf, .int .u64 (wd ys 0), .int .u64 (wd ys 1), .int .u64 (wd ys 2), .int .u64 (wd ys 3), .int .i64 0, .int .i64 0] 28))
    replace HT := Lib.hid (HT.out.alloc (.cells #[.int .i64 1, .int .i64 0, .int .i64 yf, .int .u64 (wd ys 0), .int .u64 (wd ys 1), .int .u64 (wd ys 2), .int .u64 (wd ys 3), .int .i64 0, .int .i64 0] 28))
    replace HB := Lib.hid (HB.out.alloc (by omega) (.cells #[.int .i64 1, .int .i64 0, .int .i64 yf, .int .u64 (wd ys 0), .int .u64 (wd ys 1), .int .u64 (wd ys 2), .int .u64 (wd ys 3), .int .i64 0, .int .i64 0] 28))
    have hzx : w.heap.size ≤ (w4.alloc (.cells #[.int .i64 1, .int .i64 0, .int .i64 yf, .int .u64 (wd ys 0), .int .u64 (wd ys 1), .int .u64 (wd ys 2), .int .u64 (wd ys 3), .int .i64 0, .int .i64 0] 28)).heap.size := by simp; omega
    clear hz
    have hz := hzx
    clear hzx
    generalize w4.alloc (.cells #[.int .i64 1, .int .i64 0, .int .i64 yf, .int .u64 (wd ys 0), .int .u64 (wd ys 1), .int .u64 (wd ys 2), .int .u64 (wd ys 3), .int .i64 0, .int .i64 0] 28) = w4n at *
    generalize w4.heap.size = gBA at *
    have hcv := HCV.out w4n
    clear HCV
    go_wp2_with fail
    replace SB := Lib.hid (SB.out.alloc (.cells #[.int .u8 b] 5))
    replace BA := Lib.hid (BA.out.alloc (.cells #[.int .u8 b] 5))
    replace HT := Lib.hid (HT.out.alloc (.cells #[.int .u8 b] 5))
    replace HB := Lib.hid (HB.out.alloc (by omega) (.cells #[.int .u8 b] 5))
    have hzx : w.heap.size ≤ (w4n.alloc (.cells #[.int .u8 b] 5)).heap.size := by simp; omega
    clear hz hcv
    have hz := hzx
    clear hzx
    generalize w4n.alloc (.cells #[.int .u8 b] 5) = w5 at *
    refine (HX.out _ HT.out).mono ?_
    rintro en w6 ⟨rfl, hb⟩
    have SBx := Lib.hid (SB.out.below hb (Blk.lt SB.out))
    have BAx := Lib.hid (BA.out.below hb (Blk.lt BA.out))
    have HTx := Lib.hid (HT.out.below hb)
    have HBx := Lib.hid (HB.out.trans (hb.mono (by omega)))
    have hzx := Nat.le_trans hz hb.size
    clear SB BA HT HB hz hb
    have SB := SBx
    have BA := BAx
    have HT := HTx
    have HB := HBx
    have hz := hzx
    clear SBx BAx HTx HBx hzx
    clear HX
    go_upto_region 6 with fail
    have BB : Hid (Blk (w6.alloc (.cells #[.int .i64 xk, .int .i64 xa, .int .i64 xf, .int .u64 (wd xs 0), .int .u64 (wd xs 1), .int .u64 (wd xs 2), .int .u64 (wd xs 3), .int .i64 xn, .int .i64 xm] 28)) w6.heap.size (woI xk xa xf xs xn xm) 28) := Lib.hid (Blk.new w6 (woI xk xa xf xs xn xm) 28)
    replace SB := Lib.hid (SB.out.alloc (.cells #[.int .i64 xk, .int .i64 xa, .int .i64 xf, .int .u64 (wd xs 0), .int .u64 (wd xs 1), .int .u64 (wd xs 2), .int .u64 (wd xs 3), .int .i64 xn, .int .i64 xm] 28))
    replace BA := Lib.hid (BA.out.alloc (.cells #[.int .i64 xk, .int .i64 xa, .int .i64 xf, .int .u64 (wd xs 0), .int .u64 (wd xs 1), .int .u64 (wd xs 2), .int .u64 (wd xs 3), .int .i64 xn, .int .i64 xm] 28))
    replace HT := Lib.hid (HT.out.alloc (.cells #[.int .i64 xk, .int .i64 xa, .int .i64 xf, .int .u64 (wd xs 0), .int .u64 (wd xs 1), .int .u64 (wd xs 2), .int .u64 (wd xs 3), .int .i64 xn, .int .i64 xm] 28))
    replace HB := Lib.hid (HB.out.alloc (by omega) (.cells #[.int .i64 xk, .int .i64 xa, .int .i64 xf, .int .u64 (wd xs 0), .int .u64 (wd xs 1), .int .u64 (wd xs 2), .int .u64 (wd xs 3), .int .i64 xn, .int .i64 xm] 28))
    have hzx : w.heap.size ≤ (w6.alloc (.cells #[.int .i64 xk, .int .i64 xa, .int .i64 xf, .int .u64 (wd xs 0), .int .u64 (wd xs 1), .int .u64 (wd xs 2), .int .u64 (wd xs 3), .int .i64 xn, .int .i64 xm] 28)).heap.size := by simp; omega
    clear hz
    have hz := hzx
    clear hzx
    generalize w6.alloc (.cells #[.int .i64 xk, .int .i64 xa, .int .i64 xf, .int .u64 (wd xs 0), .int .u64 (wd xs 1), .int .u64 (wd xs 2), .int .u64 (wd xs 3), .int .i64 xn, .int .i64 xm] 28) = w6n at *
    generalize w6.heap.size = gBB at *
    obtain ⟨⟨s0, s1, s2, s3⟩, _⟩ := SB.out.cells4
    have a0 := BA.out.cell 0; have a2 := BA.out.cell 2; have a3 := BA.out.cell 3; have a4 := BA.out.cell 4; have a5 := BA.out.cell 5; have a6 := BA.out.cell 6
    have b0 := BB.out.cell 0; have b3 := BB.out.cell 3; have b4 := BB.out.cell 4; have b5 := BB.out.cell 5; have b6 := BB.out.cell 6
    simp only [List.getElem?_toArray, List.getElem?_cons_zero, List.getElem?_cons_succ] at a0 a2 a3 a4 a5 a6 b0 b3 b4 b5 b6
    have eyy : ∀ w, (Op.equalIn 10000 26 (setV ys) (setV ys)).run Tryd.prog w = .ok true w := eq_set_same ys
    have exy : ∀ w, (Op.equalIn 10000 26 (setV xs) (setV ys)).run Tryd.prog w = .ok (decide (xs = ys)) w := eq_set xs ys
    clear SB BA BB
    have h12 := HX2.out
    have hn12 := HN.out
    clear HX2 HN
    by_cases e1 : xe = 0
    · subst e1
      by_cases e2 : xk = 1
      · subst e2
        by_cases e3 : xs = ys
        · have hN1 : yf = 1 := by simpa [e3] using h12
          subst hN1
          have e3' : decide (xs = ys) = true := decide_eq_true e3
          rw [e3'] at exy
          clear h12 hn12 e3 e3'
          go_wp2_with fail
          refine (HSU.out _ HT.out).mono ?_
          rintro en w9 ⟨rfl, hb⟩
          have hBz := HB.out.trans (hb.mono (by omega))
          clear HSU HT s0 s1 s2 s3 a0 a2 a3 a4 a5 a6 b0 b3 b4 b5 b6 eyy exy
          go_wp2_with fail
          go_ret
          exact ⟨rfl, hBz⟩
        · have hN2 : yf = 2 := by
            have : ¬ yf = 1 := by simpa [e3] using h12
            omega
          subst hN2
          have e3' : decide (xs = ys) = false := decide_eq_false e3
          rw [e3'] at exy
          clear h12 hn12 e3 e3'
          go_wp2_with fail
          refine (HSU.out _ HT.out).mono ?_
          rintro en w9 ⟨rfl, hb⟩
          have hBz := HB.out.trans (hb.mono (by omega))
          clear HSU HT s0 s1 s2 s3 a0 a2 a3 a4 a5 a6 b0 b3 b4 b5 b6 eyy exy
          go_wp2_with fail
          go_ret
          exact ⟨rfl, hBz⟩
      · have hN2 : yf = 2 := by
          have : ¬ yf = 1 := by simpa [e2] using h12
          omega
        subst hN2
        have q : ((xk : Int) == 1) = false := by rw [beq_eq_false_iff_ne]; omega
        clear h12 hn12 e2
        go_wp2_with fail
        refine (HSU.out _ HT.out).mono ?_
        rintro en w9 ⟨rfl, hb⟩
        have hBz := HB.out.trans (hb.mono (by omega))
        clear HSU HT s0 s1 s2 s3 a0 a2 a3 a4 a5 a6 b0 b3 b4 b5 b6 eyy exy
        go_wp2_with fail
        go_ret
        exact ⟨rfl, hBz⟩
    · have hN2 : yf = 2 := by
        have : ¬ yf = 1 := by simpa [e1] using h12
        omega
      subst hN2
      have q : ((xe : Int) == 0) = false := by rw [beq_eq_false_iff_ne]; omega
      clear h12 hn12 e1
      go_wp2_with fail
      refine (HSU.out _ HT.out).mono ?_
      rintro en w9 ⟨rfl, hb⟩
      have hBz := HB.out.trans (hb.mono (by omega))
      clear HSU HT s0 s1 s2 s3 a0 a2 a3 a4 a5 a6 b0 b3 b4 b5 b6 eyy exy
      go_wp2_with fail
      go_ret
      exact ⟨rfl, hBz⟩
  · go_upto_region 3 with fail
    have hval := HSET.out 1 (by decide) (by omega)
    have SB : Hid (Blk (w1.setCell ⟨w.heap.size, 1, none⟩ (.int .u64 (IntKind.u64.wrap (2 ^ (b % 64))))) w.heap.size (setA ys) 26) := Lib.hid (by rw [← hval]; exact SBX.out.set 1 _)
    replace HT : Hid (TabG (w1.setCell ⟨w.heap.size, 1, none⟩ (.int .u64 (IntKind.u64.wrap (2 ^ (b % 64)))))) := Lib.hid (tabG_set HT.out (HTW.out) 1 _)
    replace HB := Lib.hid (below_set HB.out (Nat.le_refl _) 1 (.int .u64 (IntKind.u64.wrap (2 ^ (b % 64)))))
    have hz2 : w.heap.size + 1 ≤ (w1.setCell ⟨w.heap.size, 1, none⟩ (.int .u64 (IntKind.u64.wrap (2 ^ (b % 64))))).heap.size := by simpa using hz
    clear hz SBX hval c0 c1 c2 c3 f0 f1 f2 f3 HSET hx2 hx3 hx4
    have hz := Nat.le_of_succ_le hz2
    clear hz2
    generalize w1.setCell ⟨w.heap.size, 1, none⟩ (.int .u64 (IntKind.u64.wrap (2 ^ (b % 64)))) = w2 at *
    obtain ⟨⟨c0, c1, c2, c3⟩, _⟩ := SB.out.cells4
    go_wp2_with fail
    refine (HTX.out _ HT.out).mono ?_
    rintro en w3 ⟨rfl, hb⟩
    clear c0 c1 c2 c3
    have SBx := Lib.hid (SB.out.below hb (Blk.lt SB.out))
    have HTx := Lib.hid (HT.out.below hb)
    have HBx := Lib.hid (HB.out.trans (hb.mono (by omega)))
    have hzx := Nat.le_trans hz hb.size
    clear SB HT HB hz hb
    have SB := SBx
    have HT := HTx
    have HB := HBx
    have hz := hzx
    clear SBx HTx HBx hzx
    clear HTX
    go_wp2_with fail
    refine (HY.out _ HT.out).mono ?_
    rintro en w4 ⟨rfl, hb⟩
    have SBx := Lib.hid (SB.out.below hb (Blk.lt SB.out))
    have HTx := Lib.hid (HT.out.below hb)
    have HBx := Lib.hid (HB.out.trans (hb.mono (by omega)))
    have hzx := Nat.le_trans hz hb.size
    clear SB HT HB hz hb
    have SB := SBx
    have HT := HTx
    have HB := HBx
    have hz := hzx
    clear SBx HTx HBx hzx
    clear HY
    go_upto_region 5 with fail
    have BA : Hid (Blk (w4.alloc (.cells #[.int .i64 1, .int .i64 0, .int .i64 yf, .int .u64 (wd ys 0), .int .u64 (wd ys 1), .int .u64 (wd ys 2), .int .u64 (wd ys 3), .int .i64 0, .int .i64 0] 28)) w4.heap.size (woI 1 0 yf ys 0 0) 28) := Lib.hid (Blk.new w4 (woI 1 0 yf ys 0 0) 28)
    replace SB := Lib.hid (SB.out.alloc (.cells #[.int .i64 1, .int .i64 0, .int .i64 yf, .int .u64 (wd ys 0), .int .u64 (wd ys 1), .int .u64 (wd ys 2), .int .u64 (wd ys 3), .int .i64 0, .int .i64 0] 28))
    replace HT := Lib.hid (HT.out.alloc (.cells #[.int .i64 1, .int .i64 0, .int .i64 yf, .int .u64 (wd ys 0), .int .u64 (wd ys 1), .int .u64 (wd ys 2), .int .u64 (wd ys 3), .int .i64 0, .int .i64 0] 28))
    replace HB := Lib.hid (HB.out.alloc (by omega) (.cells #[.int .i64 1, .int .i64 0, .int .i64 yf, .int .u64 (wd ys 0), .int .u64 (wd ys 1), .int .u64 (wd ys 2), .int .u64 (wd ys 3), .int .i64 0, .int .i64 0] 28))
    have hzx : w.heap.size ≤ (w4.alloc (.cells #[.int .i64 1, .int .i64 0, .int .i64 yf, .int .u64 (wd ys 0), .int .u64 (wd ys 1), .int .u64 (wd ys 2), .int .u64 (wd ys 3), .int .i64 0, .int .i64 0] 28)).heap.size := by simp; omega
    clear hz
    have hz := hzx
    clear hzx
    generalize w4.alloc (.cells #[.int .i64 1, .int .i64 0, .int .i64 yf, .int .u64 (wd ys 0), .int .u64 (wd ys 1), .int .u64 (wd ys 2), .int .u64 (wd ys 3), .int .i64 0, .int .i64 0] 28) = w4n at *
    generalize w4.heap.size = gBA at *
    have hcv := HCV.out w4n
    clear HCV
    go_wp2_with fail
    replace SB := Lib.hid (SB.out.alloc (.cells #[.int .u8 b] 5))
    replace BA := Lib.hid (BA.out.alloc (.cells #[.int .u8 b] 5))
    replace HT := Lib.hid (HT.out.alloc (.cells #[.int .u8 b] 5))
    replace HB := Lib.hid (HB.out.alloc (by omega) (.cells #[.int .u8 b] 5))
    have hzx : w.heap.size ≤ (w4n.alloc (.cells #[.int .u8 b] 5)).heap.size := by simp; omega
    clear hz hcv
    have hz := hzx
    clear hzx
    generalize w4n.alloc (.cells #[.int .u8 b] 5) = w5 at *
    refine (HX.out _ HT.out).mono ?_
    rintro en w6 ⟨rfl, hb⟩
    have SBx := Lib.hid (SB.out.below hb (Blk.lt SB.out))
    have BAx := Lib.hid (BA.out.below hb (Blk.lt BA.out))
    have HTx := Lib.hid (HT.out.below hb)
    have HBx := Lib.hid (HB.out.trans (hb.mono (by omega)))
    have hzx := Nat.le_trans hz hb.size
    clear SB BA HT HB hz hb
    have SB := SBx
    have BA := BAx
    have HT := HTx
    have HB := HBx
    have hz := hzx
    clear SBx BAx HTx HBx hzx
    clear HX
    go_upto_region 6 with fail
    have BB : Hid (Blk (w6.alloc (.cells #[.int .i64 xk, .int .i64 xa, .int .i64 xf, .int .u64 (wd xs 0), .int .u64 (wd xs 1), .int .u64 (wd xs 2), .int .u64 (wd xs 3), .int .i64 xn, .int .i64 xm] 28)) w6.heap.size (woI xk xa xf xs xn xm) 28) := Lib.hid (Blk.new w6 (woI xk xa xf xs xn xm) 28)
    replace SB := Lib.hid (SB.out.alloc (.cells #[.int .i64 xk, .int .i64 xa, .int .i64 xf, .int .u64 (wd xs 0), .int .u64 (wd xs 1), .int .u64 (wd xs 2), .int .u64 (wd xs 3), .int .i64 xn, .int .i64 xm] 28))
    replace BA := Lib.hid (BA.out.alloc (.cells #[.int .i64 xk, .int .i64 xa, .int .i64 xf, .int .u64 (wd xs 0), .int .u64 (wd xs 1), .int .u64 (wd xs 2), .int .u64 (wd xs 3), .int .i64 xn, .int .i64 xm] 28))
    replace HT := Lib.hid (HT.out.alloc (.cells #[.int .i64 xk, .int .i64 xa, .int .i64 xf, .int .u64 (wd xs 0), .int .u64 (wd xs 1), .int .u64 (wd xs 2), .int .u64 (wd xs 3), .int .i64 xn, .int .i64 xm] 28))
    replace HB := Lib.hid (HB.out.alloc (by omega) (.cells #[.int .i64 xk, .int .i64 xa, .int .i64 xf, .int .u64 (wd xs 0), .int .u64 (wd xs 1), .int .u64 (wd xs 2), .int .u64 (wd xs 3), .int .i64 xn, .int .i64 xm] 28))
    have hzx : w.heap.size ≤ (w6.alloc (.cells #[.int .i64 xk, .int .i64 xa, .int .i64 xf, .int .u64 (wd xs 0), .int .u64 (wd xs 1), .int .u64 (wd xs 2), .int .u64 (wd xs 3), .int .i64 xn, .int .i64 xm] 28)).heap.size := by simp; omega
    clear hz
    have hz := hzx
    clear hzx
    generalize w6.alloc (.cells #[.int .i64 xk, .int .i64 xa, .int .i64 xf, .int .u64 (wd xs 0), .int .u64 (wd xs 1), .int .u64 (wd xs 2), .int .u64 (wd xs 3), .int .i64 xn, .int .i64 xm] 28) = w6n at *
    generalize w6.heap.size = gBB at *
    obtain ⟨⟨s0, s1, s2, s3⟩, _⟩ := SB.out.cells4
    have a0 := BA.out.cell 0; have a2 := BA.out.cell 2; have a3 := BA.out.cell 3; have a4 := BA.out.cell 4; have a5 := BA.out.cell 5; have a6 := BA.out.cell 6
    have b0 := BB.out.cell 0; have b3 := BB.out.cell 3; have b4 := BB.out.cell 4; have b5 := BB.out.cell 5; have b6 := BB.out.cell 6
    simp only [List.getElem?_toArray, List.getElem?_cons_zero, List.getElem?_cons_succ] at a0 a2 a3 a4 a5 a6 b0 b3 b4 b5 b6
    have eyy : ∀ w, (Op.equalIn 10000 26 (setV ys) (setV ys)).run Tryd.prog w = .ok true w := eq_set_same ys
    have exy : ∀ w, (Op.equalIn 10000 26 (setV xs) (setV ys)).run Tryd.prog w = .ok (decide (xs = ys)) w := eq_set xs ys
    clear SB BA BB
    have h12 := HX2.out
    have hn12 := HN.out
    clear HX2 HN
    by_cases e1 : xe = 0
    · subst e1
      by_cases e2 : xk = 1
      · subst e2
        by_cases e3 : xs = ys
        · have hN1 : yf = 1 := by simpa [e3] using h12
          subst hN1
          have e3' : decide (xs = ys) = true := decide_eq_true e3
          rw [e3'] at exy
          clear h12 hn12 e3 e3'
          go_wp2_with fail
          refine (HSU.out _ HT.out).mono ?_
          rintro en w9 ⟨rfl, hb⟩
          have hBz := HB.out.trans (hb.mono (by omega))
          clear HSU HT s0 s1 s2 s3 a0 a2 a3 a4 a5 a6 b0 b3 b4 b5 b6 eyy exy
          go_wp2_with fail
          go_ret
          exact ⟨rfl, hBz⟩
        · have hN2 : yf = 2 := by
            have : ¬ yf = 1 := by simpa [e3] using h12
            omega
          subst hN2
          have e3' : decide (xs = ys) = false := decide_eq_false e3
          rw [e3'] at exy
          clear h12 hn12 e3 e3'
          go_wp2_with fail
          refine (HSU.out _ HT.out).mono ?_
          rintro en w9 ⟨rfl, hb⟩
          have hBz := HB.out.trans (hb.mono (by omega))
          clear HSU HT s0 s1 s2 s3 a0 a2 a3 a4 a5 a6 b0 b3 b4 b5 b6 eyy exy
          go_wp2_with fail
          go_ret
          exact ⟨rfl, hBz⟩
      · have hN2 : yf = 2 := by
          have : ¬ yf = 1 := by simpa [e2] using h12
          omega
        subst hN2
        have q : ((xk : Int) == 1) = false := by rw [beq_eq_false_iff_ne]; omega
        clear h12 hn12 e2
        go_wp2_with fail
        refine (HSU.out _ HT.out).mono ?_
        rintro en w9 ⟨rfl, hb⟩
        have hBz := HB.out.trans (hb.mono (by omega))
        clear HSU HT s0 s1 s2 s3 a0 a2 a3 a4 a5 a6 b0 b3 b4 b5 b6 eyy exy
        go_wp2_with fail
        go_ret
        exact ⟨rfl, hBz⟩
    · have hN2 : yf = 2 := by
        have : ¬ yf = 1 := by simpa [e1] using h12
        omega
      subst hN2
      have q : ((xe : Int) == 0) = false := by rw [beq_eq_false_iff_ne]; omega
      clear h12 hn12 e1
      go_wp2_with fail
      refine (HSU.out _ HT.out).mono ?_
      rintro en w9 ⟨rfl, hb⟩
      have hBz := HB.out.trans (hb.mono (by omega))
      clear HSU HT s0 s1 s2 s3 a0 a2 a3 a4 a5 a6 b0 b3 b4 b5 b6 eyy exy
      go_wp2_with fail
      go_ret
      exact ⟨rfl, hBz⟩
  · go_upto_region 3 with fail
    have hval := HSET.out 2 (by decide) (by omega)
    have SB : Hid (Blk (w1.setCell ⟨w.heap.size, 2, none⟩ (.int .u64 (IntKind.u64.wrap (2 ^ (b % 64))))) w.heap.size (setA ys) 26) := Lib.hid (by rw [← hval]; exact SBX.out.set 2 _)
    replace HT : Hid (TabG (w1.setCell ⟨w.heap.size, 2, none⟩ (.int .u64 (IntKind.u64.wrap (2 ^ (b % 64)))))) := Lib.hid (tabG_set HT.out (HTW.out) 2 _)
    replace HB := Lib.hid (below_set HB.out (Nat.le_refl _) 2 (.int .u64 (IntKind.u64.wrap (2 ^ (b % 64)))))
    have hz2 : w.heap.size + 1 ≤ (w1.setCell ⟨w.heap.size, 2, none⟩ (.int .u64 (IntKind.u64.wrap (2 ^ (b % 64))))).heap.size := by simpa using hz
    clear hz SBX hval c0 c1 c2 c3 f0 f1 f2 f3 HSET hx2 hx3 hx4
    have hz := Nat.le_of_succ_le hz2
    clear hz2
    generalize w1.setCell ⟨w.heap.size, 2, none⟩ (.int .u64 (IntKind.u64.wrap (2 ^ (b % 64)))) = w2 at *
    obtain ⟨⟨c0, c1, c2, c3⟩, _⟩ := SB.out.cells4
    go_wp2_with fail
    refine (HTX.out _ HT.out).mono ?_
    rintro en w3 ⟨rfl, hb⟩
    clear c0 c1 c2 c3
    have SBx := Lib.hid (SB.out.below hb (Blk.lt SB.out))
    have HTx := Lib.hid (HT.out.below hb)
    have HBx := Lib.hid (HB.out.trans (hb.mono (by omega)))
    have hzx := Nat.le_trans hz hb.size
    clear SB HT HB hz hb
    have SB := SBx
    have HT := HTx
    have HB := HBx
    have hz := hzx
    clear SBx HTx HBx hzx
    clear HTX
    go_wp2_with fail
    refine (HY.out _ HT.out).mono ?_
    rintro en w4 ⟨rfl, hb⟩
    have SBx := Lib.hid (SB.out.below hb (Blk.lt SB.out))
    have HTx := Lib.hid (HT.out.below hb)
    have HBx := Lib.hid (HB.out.trans (hb.mono (by omega)))
    have hzx := Nat.le_trans hz hb.size
    clear SB HT HB hz hb
    have SB := SBx
    have HT := HTx
    have HB := HBx
    have hz := hzx
    clear SBx HTx HBx hzx
    clear HY
    go_upto_region 5 with fail
    have BA : Hid (Blk (w4.alloc (.cells #[.int .i64 1, .int .i64 0, .int .i64 yf, .int .u64 (wd ys 0), .int .u64 (wd ys 1), .int .u64 (wd ys 2), .int .u64 (wd ys 3), .int .i64 0, .int .i64 0] 28)) w4.heap.size (woI 1 0 yf ys 0 0) 28) := Lib.hid (Blk.new w4 (woI 1 0 yf ys 0 0) 28)
    replace SB := Lib.hid (SB.out.alloc (.cells #[.int .i64 1, .int .i64 0, .int .i64 yf, .int .u64 (wd ys 0), .int .u64 (wd ys 1), .int .u64 (wd ys 2), .int .u64 (wd ys 3), .int .i64 0, .int .i64 0] 28))
    replace HT := Lib.hid (HT.out.alloc (.cells #[.int .i64 1, .int .i64 0, .int .i64 yf, .int .u64 (wd ys 0), .int .u64 (wd ys 1), .int .u64 (wd ys 2), .int .u64 (wd ys 3), .int .i64 0, .int .i64 0] 28))
    replace HB := Lib.hid (HB.out.alloc (by omega) (.cells #[.int .i64 1, .int .i64 0, .int .i64 yf, .int .u64 (wd ys 0), .int .u64 (wd ys 1), .int .u64 (wd ys 2), .int .u64 (wd ys 3), .int .i64 0, .int .i64 0] 28))
    have hzx : w.heap.size ≤ (w4.alloc (.cells #[.int .i64 1, .int .i64 0, .int .i64 yf, .int .u64 (wd ys 0), .int .u64 (wd ys 1), .int .u64 (wd ys 2), .int .u64 (wd ys 3), .int .i64 0, .int .i64 0] 28)).heap.size := by simp; omega
    clear hz
    have hz := hzx
    clear hzx
    generalize w4.alloc (.cells #[.int .i64 1, .int .i64 0, .int .i64 yf, .int .u64 (wd ys 0), .int .u64 (wd ys 1), .int .u64 (wd ys 2), .int .u64 (wd ys 3), .int .i64 0, .int .i64 0] 28) = w4n at *
    generalize w4.heap.size = gBA at *
    have hcv := HCV.out w4n
    clear HCV
    go_wp2_with fail
    replace SB := Lib.hid (SB.out.alloc (.cells #[.int .u8 b] 5))
    replace BA := Lib.hid (BA.out.alloc (.cells #[.int .u8 b] 5))
    replace HT := Lib.hid (HT.out.alloc (.cells #[.int .u8 b] 5))
    replace HB := Lib.hid (HB.out.alloc (by omega) (.cells #[.int .u8 b] 5))
    have hzx : w.heap.size ≤ (w4n.alloc (.cells #[.int .u8 b] 5)).heap.size := by simp; omega
    clear hz hcv
    have hz := hzx
    clear hzx
    generalize w4n.alloc (.cells #[.int .u8 b] 5) = w5 at *
    refine (HX.out _ HT.out).mono ?_
    rintro en w6 ⟨rfl, hb⟩
    have SBx := Lib.hid (SB.out.below hb (Blk.lt SB.out))
    have BAx := Lib.hid (BA.out.below hb (Blk.lt BA.out))
    have HTx := Lib.hid (HT.out.below hb)
    have HBx := Lib.hid (HB.out.trans (hb.mono (by omega)))
    have hzx := Nat.le_trans hz hb.size
    clear SB BA HT HB hz hb
    have SB := SBx
    have BA := BAx
    have HT := HTx
    have HB := HBx
    have hz := hzx
    clear SBx BAx HTx HBx hzx
    clear HX
    go_upto_region 6 with fail
    have BB : Hid (Blk (w6.alloc (.cells #[.int .i64 xk, .int .i64 xa, .int .i64 xf, .int .u64 (wd xs 0), .int .u64 (wd xs 1), .int .u64 (wd xs 2), .int .u64 (wd xs 3), .int .i64 xn, .int .i64 xm] 28)) w6.heap.size (woI xk xa xf xs xn xm) 28) := Lib.hid (Blk.new w6 (woI xk xa xf xs xn xm) 28)
    replace SB := Lib.hid (SB.out.alloc (.cells #[.int .i64 xk, .int .i64 xa, .int .i64 xf, .int .u64 (wd xs 0), .int .u64 (wd xs 1), .int .u64 (wd xs 2), .int .u64 (wd xs 3), .int .i64 xn, .int .i64 xm] 28))
    replace BA := Lib.hid (BA.out.alloc (.cells #[.int .i64 xk, .int .i64 xa, .int .i64 xf, .int .u64 (wd xs 0), .int .u64 (wd xs 1), .int .u64 (wd xs 2), .int .u64 (wd xs 3), .int .i64 xn, .int .i64 xm] 28))
    replace HT := Lib.hid (HT.out.alloc (.cells #[.int .i64 xk, .int .i64 xa, .int .i64 xf, .int .u64 (wd xs 0), .int .u64 (wd xs 1), .int .u64 (wd xs 2), .int .u64 (wd xs 3), .int .i64 xn, .int .i64 xm] 28))
    replace HB := Lib.hid (HB.out.alloc (by omega) (.cells #[.int .i64 xk, .int .i64 xa, .int .i64 xf, .int .u64 (wd xs 0), .int .u64 (wd xs 1), .int .u64 (wd xs 2), .int .u64 (wd xs 3), .int .i64 xn, .int .i64 xm] 28))
    have hzx : w.heap.size ≤ (w6.alloc (.cells #[.int .i64 xk, .int .i64 xa, .int .i64 xf, .int .u64 (wd xs 0), .int .u64 (wd xs 1), .int .u64 (wd xs 2), .int .u64 (wd xs 3), .int .i64 xn, .int .i64 xm] 28)).heap.size := by simp; omega
    clear hz
    have hz := hzx
    clear hzx
    generalize w6.alloc (.cells #[.int .i64 xk, .int .i64 xa, .int .i64 xf, .int .u64 (wd xs 0), .int .u64 (wd xs 1), .int .u64 (wd xs 2), .int .u64 (wd xs 3), .int .i64 xn, .int .i64 xm] 28) = w6n at *
    generalize w6.heap.size = gBB at *
    obtain ⟨⟨s0, s1, s2, s3⟩, _⟩ := SB.out.cells4
    have a0 := BA.out.cell 0; have a2 := BA.out.cell 2; have a3 := BA.out.cell 3; have a4 := BA.out.cell 4; have a5 := BA.out.cell 5; have a6 := BA.out.cell 6
    have b0 := BB.out.cell 0; have b3 := BB.out.cell 3; have b4 := BB.out.cell 4; have b5 := BB.out.cell 5; have b6 := BB.out.cell 6
    simp only [List.getElem?_toArray, List.getElem?_cons_zero, List.getElem?_cons_succ] at a0 a2 a3 a4 a5 a6 b0 b3 b4 b5 b6
    have eyy : ∀ w, (Op.equalIn 10000 26 (setV ys) (setV ys)).run Tryd.prog w = .ok true w := eq_set_same ys
    have exy : ∀ w, (Op.equalIn 10000 26 (setV xs) (setV ys)).run Tryd.prog w = .ok (decide (xs = ys)) w := eq_set xs ys
    clear SB BA BB
    have h12 := HX2.out
    have hn12 := HN.out
    clear HX2 HN
    by_cases e1 : xe = 0
    · subst e1
      by_cases e2 : xk = 1
      · subst e2
        by_cases e3 : xs = ys
        · have hN1 : yf = 1 := by simpa [e3] using h12
          subst hN1
          have e3' : decide (xs = ys) = true := decide_eq_true e3
          rw [e3'] at exy
          clear h12 hn12 e3 e3'
          go_wp2_with fail
          refine (HSU.out _ HT.out).mono ?_
          rintro en w9 ⟨rfl, hb⟩
          have hBz := HB.out.trans (hb.mono (by omega))
          clear HSU HT s0 s1 s2 s3 a0 a2 a3 a4 a5 a6 b0 b3 b4 b5 b6 eyy exy
          go_wp2_with fail
          go_ret
          exact ⟨rfl, hBz⟩
        · have hN2 : yf = 2 := by
            have : ¬ yf = 1 := by simpa [e3] using h12
            omega
          subst hN2
          have e3' : decide (xs = ys) = false := decide_eq_false e3
          rw [e3'] at exy
          clear h12 hn12 e3 e3'
          go_wp2_with fail
          refine (HSU.out _ HT.out).mono ?_
          rintro en w9 ⟨rfl, hb⟩
          have hBz := HB.out.trans (hb.mono (by omega))
          clear HSU HT s0 s1 s2 s3 a0 a2 a3 a4 a5 a6 b0 b3 b4 b5 b6 eyy exy
          go_wp2_with fail
          go_ret
          exact ⟨rfl, hBz⟩
      · have hN2 : yf = 2 := by
          have : ¬ yf = 1 := by simpa [e2] using h12
          omega
        subst hN2
        have q : ((xk : Int) == 1) = false := by rw [beq_eq_false_iff_ne]; omega
        clear h12 hn12 e2
        go_wp2_with fail
        refine (HSU.out _ HT.out).mono ?_
        rintro en w9 ⟨rfl, hb⟩
        have hBz := HB.out.trans (hb.mono (by omega))
        clear HSU HT s0 s1 s2 s3 a0 a2 a3 a4 a5 a6 b0 b3 b4 b5 b6 eyy exy
        go_wp2_with fail
        go_ret
        exact ⟨rfl, hBz⟩
    · have hN2 : yf = 2 := by
        have : ¬ yf = 1 := by simpa [e1] using h12
        omega
      subst hN2
      have q : ((xe : Int) == 0) = false := by rw [beq_eq_false_iff_ne]; omega
      clear h12 hn12 e1
      go_wp2_with fail
      refine (HSU.out _ HT.out).mono ?_
      rintro en w9 ⟨rfl, hb⟩
      have hBz := HB.out.trans (hb.mono (by omega))
      clear HSU HT s0 s1 s2 s3 a0 a2 a3 a4 a5 a6 b0 b3 b4 b5 b6 eyy exy
      go_wp2_with fail
      go_ret
      exact ⟨rfl, hBz⟩
  · go_upto_region 3 with fail
    have hval := HSET.out 3 (by decide) (by omega)
    have SB : Hid (Blk (w1.setCell ⟨w.heap.size, 3, none⟩ (.int .u64 (IntKind.u64.wrap (2 ^ (b % 64))))) w.heap.size (setA ys) 26) := Lib.hid (by rw [← hval]; exact SBX.out.set 3 _)
    replace HT : Hid (TabG (w1.setCell ⟨w.heap.size, 3, none⟩ (.int .u64 (IntKind.u64.wrap (2 ^ (b % 64)))))) := Lib.hid (tabG_set HT.out (HTW.out) 3 _)
    replace HB := Lib.hid (below_set HB.out (Nat.le_refl _) 3 (.int .u64 (IntKind.u64.wrap (2 ^ (b % 64)))))
    have hz2 : w.heap.size + 1 ≤ (w1.setCell ⟨w.heap.size, 3, none⟩ (.int .u64 (IntKind.u64.wrap (2 ^ (b % 64))))).heap.size := by simpa using hz
    clear hz SBX hval c0 c1 c2 c3 f0 f1 f2 f3 HSET hx2 hx3 hx4
    have hz := Nat.le_of_succ_le hz2
    clear hz2
    generalize w1.setCell ⟨w.heap.size, 3, none⟩ (.int .u64 (IntKind.u64.wrap (2 ^ (b % 64)))) = w2 at *
    obtain ⟨⟨c0, c1, c2, c3⟩, _⟩ := SB.out.cells4
    go_wp2_with fail
    refine (HTX.out _ HT.out).mono ?_
    rintro en w3 ⟨rfl, hb⟩
    clear c0 c1 c2 c3
    have SBx := Lib.hid (SB.out.below hb (Blk.lt SB.out))
    have HTx := Lib.hid (HT.out.below hb)
    have HBx := Lib.hid (HB.out.trans (hb.mono (by omega)))
    have hzx := Nat.le_trans hz hb.size
    clear SB HT HB hz hb
    have SB := SBx
    have HT := HTx
    have HB := HBx
    have hz := hzx
    clear SBx HTx HBx hzx
    clear HTX
    go_wp2_with fail
    refine (HY.out _ HT.out).mono ?_
    rintro en w4 ⟨rfl, hb⟩
    have SBx := Lib.hid (SB.out.below hb (Blk.lt SB.out))
    have HTx := Lib.hid (HT.out.below hb)
    have HBx := Lib.hid (HB.out.trans (hb.mono (by omega)))
    have hzx := Nat.le_trans hz hb.size
    clear SB HT HB hz hb
    have SB := SBx
    have HT := HTx
    have HB := HBx
    have hz := hzx
    clear SBx HTx HBx hzx
    clear HY
    go_upto_region 5 with fail
    have BA : Hid (Blk (w4.alloc (.cells #[.int .i64 1, .int .i64 0, .int .i64 yf, .int .u64 (wd ys 0), .int .u64 (wd ys 1), .int .u64 (wd ys 2), .int .u64 (wd ys 3), .int .i64 0, .int .i64 0] 28)) w4.heap.size (woI 1 0 yf ys 0 0) 28) := Lib.hid (Blk.new w4 (woI 1 0 yf ys 0 0) 28)
    replace SB := Lib.hid (SB.out.alloc (.cells #[.int .i64 1, .int .i64 0, .int .i64 yf, .int .u64 (wd ys 0), .int .u64 (wd ys 1), .int .u64 (wd ys 2), .int .u64 (wd ys 3), .int .i64 0, .int .i64 0] 28))
    replace HT := Lib.hid (HT.out.alloc (.cells #[.int .i64 1, .int .i64 0, .int .i64 yf, .int .u64 (wd ys 0), .int .u64 (wd ys 1), .int .u64 (wd ys 2), .int .u64 (wd ys 3), .int .i64 0, .int .i64 0] 28))
    replace HB := Lib.hid (HB.out.alloc (by omega) (.cells #[.int .i64 1, .int .i64 0, .int .i64 yf, .int .u64 (wd ys 0), .int .u64 (wd ys 1), .int .u64 (wd ys 2), .int .u64 (wd ys 3), .int .i64 0, .int .i64 0] 28))
    have hzx : w.heap.size ≤ (w4.alloc (.cells #[.int .i64 1, .int .i64 0, .int .i64 yf, .int .u64 (wd ys 0), .int .u64 (wd ys 1), .int .u64 (wd ys 2), .int .u64 (wd ys 3), .int .i64 0, .int .i64 0] 28)).heap.size := by simp; omega
    clear hz
    have hz := hzx
    clear hzx
    generalize w4.alloc (.cells #[.int .i64 1, .int .i64 0, .int .i64 yf, .int .u64 (wd ys 0), .int .u64 (wd ys 1), .int .u64 (wd ys 2), .int .u64 (wd ys 3), .int .i64 0, .int .i64 0] 28) = w4n at *
    generalize w4.heap.size = gBA at *
    have hcv := HCV.out w4n
    clear HCV
    go_wp2_with fail
    replace SB := Lib.hid (SB.out.alloc (.cells #[.int .u8 b] 5))
    replace BA := Lib.hid (BA.out.alloc (.cells #[.int .u8 b] 5))
    replace HT := Lib.hid (HT.out.alloc (.cells #[.int .u8 b] 5))
    replace HB := Lib.hid (HB.out.alloc (by omega) (.cells #[.int .u8 b] 5))
    have hzx : w.heap.size ≤ (w4n.alloc (.cells #[.int .u8 b] 5)).heap.size := by simp; omega
    clear hz hcv
    have hz := hzx
    clear hzx
    generalize w4n.alloc (.cells #[.int .u8 b] 5) = w5 at *
    refine (HX.out _ HT.out).mono ?_
    rintro en w6 ⟨rfl, hb⟩
    have SBx := Lib.hid (SB.out.below hb (Blk.lt SB.out))
    have BAx := Lib.hid (BA.out.below hb (Blk.lt BA.out))
    have HTx := Lib.hid (HT.out.below hb)
    have HBx := Lib.hid (HB.out.trans (hb.mono (by omega)))
    have hzx := Nat.le_trans hz hb.size
    clear SB BA HT HB hz hb
    have SB := SBx
    have BA := BAx
    have HT := HTx
    have HB := HBx
    have hz := hzx
    clear SBx BAx HTx HBx hzx
    clear HX
    go_upto_region 6 with fail
    have BB : Hid (Blk (w6.alloc (.cells #[.int .i64 xk, .int .i64 xa, .int .i64 xf, .int .u64 (wd xs 0), .int .u64 (wd xs 1), .int .u64 (wd xs 2), .int .u64 (wd xs 3), .int .i64 xn, .int .i64 xm] 28)) w6.heap.size (woI xk xa xf xs xn xm) 28) := Lib.hid (Blk.new w6 (woI xk xa xf xs xn xm) 28)
    replace SB := Lib.hid (SB.out.alloc (.cells #[.int .i64 xk, .int .i64 xa, .int .i64 xf, .int .u64 (wd xs 0), .int .u64 (wd xs 1), .int .u64 (wd xs 2), .int .u64 (wd xs 3), .int .i64 xn, .int .i64 xm] 28))
    replace BA := Lib.hid (BA.out.alloc (.cells #[.int .i64 xk, .int .i64 xa, .int .i64 xf, .int .u64 (wd xs 0), .int .u64 (wd xs 1), .int .u64 (wd xs 2), .int .u64 (wd xs 3), .int .i64 xn, .int .i64 xm] 28))
    replace HT := Lib.hid (HT.out.alloc (.cells #[.int .i64 xk, .int .i64 xa, .int .i64 xf, .int .u64 (wd xs 0), .int .u64 (wd xs 1), .int .u64 (wd xs 2), .int .u64 (wd xs 3), .int .i64 xn, .int .i64 xm] 28))
    replace HB := Lib.hid (HB.out.alloc (by omega) (.cells #[.int .i64 xk, .int .i64 xa, .int .i64 xf, .int .u64 (wd xs 0), .int .u64 (wd xs 1), .int .u64 (wd xs 2), .int .u64 (wd xs 3), .int .i64 xn, .int .i64 xm] 28))
    have hzx : w.heap.size ≤ (w6.alloc (.cells #[.int .i64 xk, .int .i64 xa, .int .i64 xf, .int .u64 (wd xs 0), .int .u64 (wd xs 1), .int .u64 (wd xs 2), .int .u64 (wd xs 3), .int .i64 xn, .int .i64 xm] 28)).heap.size := by simp; omega
    clear hz
    have hz := hzx
    clear hzx
    generalize w6.alloc (.cells #[.int .i64 xk, .int .i64 xa, .int .i64 xf, .int .u64 (wd xs 0), .int .u64 (wd xs 1), .int .u64 (wd xs 2), .int .u64 (wd xs 3), .int .i64 xn, .int .i64 xm] 28) = w6n at *
    generalize w6.heap.size = gBB at *
    obtain ⟨⟨s0, s1, s2, s3⟩, _⟩ := SB.out.cells4
    have a0 := BA.out.cell 0; have a2 := BA.out.cell 2; have a3 := BA.out.cell 3; have a4 := BA.out.cell 4; have a5 := BA.out.cell 5; have a6 := BA.out.cell 6
    have b0 := BB.out.cell 0; have b3 := BB.out.cell 3; have b4 := BB.out.cell 4; have b5 := BB.out.cell 5; have b6 := BB.out.cell 6
    simp only [List.getElem?_toArray, List.getElem?_cons_zero, List.getElem?_cons_succ] at a0 a2 a3 a4 a5 a6 b0 b3 b4 b5 b6
    have eyy : ∀ w, (Op.equalIn 10000 26 (setV ys) (setV ys)).run Tryd.prog w = .ok true w := eq_set_same ys
    have exy : ∀ w, (Op.equalIn 10000 26 (setV xs) (setV ys)).run Tryd.prog w = .ok (decide (xs = ys)) w := eq_set xs ys
    clear SB BA BB
    have h12 := HX2.out
    have hn12 := HN.out
    clear HX2 HN
    by_cases e1 : xe = 0
    · subst e1
      by_cases e2 : xk = 1
      · subst e2
        by_cases e3 : xs = ys
        · have hN1 : yf = 1 := by simpa [e3] using h12
          subst hN1
          have e3' : decide (xs = ys) = true := decide_eq_true e3
          rw [e3'] at exy
          clear h12 hn12 e3 e3'
          go_wp2_with fail
          refine (HSU.out _ HT.out).mono ?_
          rintro en w9 ⟨rfl, hb⟩
          have hBz := HB.out.trans (hb.mono (by omega))
          clear HSU HT s0 s1 s2 s3 a0 a2 a3 a4 a5 a6 b0 b3 b4 b5 b6 eyy exy
          go_wp2_with fail
          go_ret
          exact ⟨rfl, hBz⟩
        · have hN2 : yf = 2 := by
            have : ¬ yf = 1 := by simpa [e3] using h12
            omega
          subst hN2
          have e3' : decide (xs = ys) = false := decide_eq_false e3
          rw [e3'] at exy
          clear h12 hn12 e3 e3'
          go_wp2_with fail
          refine (HSU.out _ HT.out).mono ?_
          rintro en w9 ⟨rfl, hb⟩
          have hBz := HB.out.trans (hb.mono (by omega))
          clear HSU HT s0 s1 s2 s3 a0 a2 a3 a4 a5 a6 b0 b3 b4 b5 b6 eyy exy
          go_wp2_with fail
          go_ret
          exact ⟨rfl, hBz⟩
      · have hN2 : yf = 2 := by
          have : ¬ yf = 1 := by simpa [e2] using h12
          omega
        subst hN2
        have q : ((xk : Int) == 1) = false := by rw [beq_eq_false_iff_ne]; omega
        clear h12 hn12 e2
        go_wp2_with fail
        refine (HSU.out _ HT.out).mono ?_
        rintro en w9 ⟨rfl, hb⟩
        have hBz := HB.out.trans (hb.mono (by omega))
        clear HSU HT s0 s1 s2 s3 a0 a2 a3 a4 a5 a6 b0 b3 b4 b5 b6 eyy exy
        go_wp2_with fail
        go_ret
        exact ⟨rfl, hBz⟩
    · have hN2 : yf = 2 := by
        have : ¬ yf = 1 := by simpa [e1] using h12
        omega
      subst hN2
      have q : ((xe : Int) == 0) = false := by rw [beq_eq_false_iff_ne]; omega
      clear h12 hn12 e1
      go_wp2_with fail
      refine (HSU.out _ HT.out).mono ?_
      rintro en w9 ⟨rfl, hb⟩
      have hBz := HB.out.trans (hb.mono (by omega))
      clear HSU HT s0 s1 s2 s3 a0 a2 a3 a4 a5 a6 b0 b3 b4 b5 b6 eyy exy
      go_wp2_with fail
      go_ret
      exact ⟨rfl, hBz⟩
end Go.Proofs.YtpaecjjelpjopaaDoor

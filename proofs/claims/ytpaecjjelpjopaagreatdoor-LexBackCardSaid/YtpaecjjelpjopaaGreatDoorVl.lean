/- The laws of stage 5: what they want of the package lex; sure, LexTells. -/
import Derived.Test.YtpaecjjelpjopaaGreatDoorVt
import Derived.Test.YtpaecjjelpjopaaGreatDoorVu
import Derived.Test.YtpaecjjelpjopaaGreatDoorVe
import Derived.Test.YtpaecjjelpjopaaGreatDoorTa
namespace Go.Proofs.YtpaecjjelpjopaaGreatDoor
open Go.RowKit BS

/-- The library's table lies. -/
def TabG (W : World) : Prop := Tab W ∧ 0 < W.heap.size
theorem TabG.below {W W' : World} (h : TabG W) (hb : Below W.heap.size W W') : TabG W' := ⟨h.1.keep hb h.2, Nat.lt_of_lt_of_le h.2 hb.size⟩
theorem TabG.alloc {W : World} (h : TabG W) (o : Obj) : TabG (W.alloc o) := h.below ((Below.refl _ _).alloc (Nat.le_refl _) o)
/-- A slice of words. -/
def WordsAt (l : List WN) (v : Value) (W : World) : Prop :=
  ∃ a cap, v = .slice a l.length cap ∧ (l ≠ [] → ∃ g, a = some ⟨g, 0, none⟩ ∧ g < W.heap.size ∧ ∀ i (h : i < l.length) j, j < 9 → W.cell? ⟨g, i * 9 + j, none⟩ = (woA l[i])[j]?)
theorem WordsAt.below {l : List WN} {v : Value} {W W' : World} (h : WordsAt l v W) (hb : Below W.heap.size W W') : WordsAt l v W' := by
  obtain ⟨a, cap, e, h⟩ := h
  refine ⟨a, cap, e, fun hne => ?_⟩
  obtain ⟨g, e, hg, hc⟩ := h hne
  exact ⟨g, e, Nat.lt_of_lt_of_le hg hb.size, fun i hi j hj => (hb.cell (p := ⟨g, i * 9 + j, none⟩) hg).trans (hc i hi j hj)⟩
theorem WordsAt.alloc {l : List WN} {v : Value} {W : World} (h : WordsAt l v W) (o : Obj) : WordsAt l v (W.alloc o) := h.below ((Below.refl _ _).alloc (Nat.le_refl _) o)
theorem words_of_owns {base : Nat} {e : TypeId} {v : Value} {l : List WN} {W : World} (h : W.ownsRow base e 9 v l.length (woCells l)) : WordsAt l v W := by
  rcases h.2 with ⟨rfl, h0⟩ | ⟨g, cap, cur, rfl, hb, hg, _, _, _, _⟩
  · exact ⟨none, 0, by rw [h0], fun hne => absurd (List.eq_nil_of_length_eq_zero h0) hne⟩
  · exact ⟨_, cap, rfl, fun _ => ⟨g, rfl, (Array.getElem?_eq_some_iff.1 hg).1, fun i hi j hj => (h.cellAt (i * 9 + j) (by omega)).trans (woCells_get l i j hi hj)⟩⟩

/-- What Lack must bring about. -/
def LackW (s : ByteArray) (at' : Int) (l : ByteArray) : Prop :=
  ((nextN s at').2.1 ≠ 2 → l = eT) ∧ ((nextN s at').2.1 = 2 → 0 < l.size ∧ l.size ≤ 200 ∧ ∃ x : WN, nextN (s ++ l) at' = (x, 0, 0) ∧ (x.pos : Int) = at' ∧ x.fin = (s ++ l).size)
/-- What the laws want of the package lex. -/
structure LexC : Prop where
  next : ∀ (s : ByteArray), s.size ≤ 1000000 → ∀ (at' : Int) (w : World), TabG w → Calls Tryz.prog 8 #[.string s, .int .i64 at'] w fun en w' => en = .returned (.tuple #[.agg (woA (nextN s at').1), .int .i64 (nextN s at').2.1, .int .i64 (nextN s at').2.2]) ∧ Below w.heap.size w w'
  all : ∀ (s : ByteArray), s.size ≤ 1000000 → ∀ (w : World), TabG w → Calls Tryz.prog 10 #[.string s] w fun en w' => ∃ v, en = .returned (.tuple #[v, .int .i64 (wordsN s).2.1, .int .i64 (wordsN s).2.2]) ∧ WordsAt (wordsN s).1 v w' ∧ Below w.heap.size w w'
  text : ∀ (t : BitVec 256) (w : World), TabG w → Calls Tryz.prog 13 #[setV t] w fun en w' => en = .returned (.string (ofT (textW t))) ∧ Below w.heap.size w w'
  print : ∀ (k a e : Int) (t : BitVec 256) (n m : Int) (w : World), TabG w → Calls Tryz.prog 15 #[.agg (woI k a e t n m)] w fun en w' => en = .returned (.string (ofT (printV k t n m))) ∧ Below w.heap.size w w'

/-! ### sure -/
def sA5 : ByteArray := ⟨#[97, 123, 50, 125, 124, 91, 98, 99, 93]⟩
def sB5 : ByteArray := ⟨#[97, 94]⟩
theorem sA5_len : (wordsN sA5).1.length = 4 := by decide +kernel
theorem sA5_w0 : ((wordsN sA5).1[0]?).map (fun w => w.set) = some (range 97 97) := by decide +kernel
theorem sA5_w1 : ((wordsN sA5).1[1]?).map (fun w => (w.kind, w.n)) = some (5, 2) := by decide +kernel
theorem sA5_w3 : ((wordsN sA5).1[3]?).map (fun w => w.fin) = some 9 := by decide +kernel
theorem sA5_e : (wordsN sA5).2 = (0, 0) := by decide +kernel
theorem sB5_e : (wordsN sB5).2 = (3, 2) := by decide +kernel
theorem text97 : ofT (textW (range 97 97)) = ⟨#[97]⟩ := by decide +kernel
theorem sA5_c (C : LexC) (w : World) (hT : TabG w) : Calls Tryz.prog 10 #[.string ⟨#[97, 123, 50, 125, 124, 91, 98, 99, 93]⟩] w fun en w' => ∃ g cap, en = .returned (.tuple #[.slice (some ⟨g, 0, none⟩) 4 cap, .int .i64 0, .int .i64 0]) ∧
    (g < w'.heap.size ∧ w'.cell? ⟨g, 3, none⟩ = some (.int .u64 (wd (range 97 97) 0)) ∧ w'.cell? ⟨g, 4, none⟩ = some (.int .u64 (wd (range 97 97) 1)) ∧ w'.cell? ⟨g, 5, none⟩ = some (.int .u64 (wd (range 97 97) 2)) ∧ w'.cell? ⟨g, 6, none⟩ = some (.int .u64 (wd (range 97 97) 3)) ∧
      w'.cell? ⟨g, 9, none⟩ = some (.int .i64 5) ∧ w'.cell? ⟨g, 16, none⟩ = some (.int .i64 2) ∧ w'.cell? ⟨g, 29, none⟩ = some (.int .i64 9)) ∧ Below w.heap.size w w' := by
  refine (C.all sA5 (by decide) w hT).mono ?_
  rintro e w' ⟨v, rfl, hv, hb⟩
  have h4 := sA5_len
  have h0 := sA5_w0
  have h1 := sA5_w1
  have h3 := sA5_w3
  rw [sA5_e]
  generalize (wordsN sA5).1 = l at *
  obtain ⟨a, cap, rfl, hc⟩ := hv
  obtain ⟨g, rfl, hg, hc⟩ := hc (by intro h; rw [h] at h4; cases h4)
  rw [h4]
  have c0 := fun j hj => hc 0 (by omega) j hj
  have c1 := fun j hj => hc 1 (by omega) j hj
  have c3 := fun j hj => hc 3 (by omega) j hj
  rw [List.getElem?_eq_getElem (by omega)] at h0 h1 h3
  simp only [Option.map_some, Option.some.injEq, Prod.mk.injEq] at h0 h1 h3
  refine ⟨g, cap, rfl, ⟨hg, ?_, ?_, ?_, ?_, ?_, ?_, ?_⟩, hb⟩
  · rw [← h0]; exact c0 3 (by decide)
  · rw [← h0]; exact c0 4 (by decide)
  · rw [← h0]; exact c0 5 (by decide)
  · rw [← h0]; exact c0 6 (by decide)
  · refine (c1 0 (by decide)).trans ?_
    show some (Value.int .i64 (l[1].kind : Int)) = _
    rw [h1.1]; rfl
  · refine (c1 7 (by decide)).trans ?_
    show some (Value.int .i64 (l[1].n : Int)) = _
    rw [h1.2]; rfl
  · refine (c3 2 (by decide)).trans ?_
    show some (Value.int .i64 (l[3].fin : Int)) = _
    rw [h3]; rfl
theorem sB5_c (C : LexC) (w : World) (hT : TabG w) : Calls Tryz.prog 10 #[.string ⟨#[97, 94]⟩] w fun en w' => ∃ v, en = .returned (.tuple #[v, .int .i64 3, .int .i64 2]) ∧ Below w.heap.size w w' := by
  refine (C.all sB5 (by decide) w hT).mono ?_
  rintro e w' ⟨v, rfl, _, hb⟩
  rw [sB5_e]
  exact ⟨v, rfl, hb⟩
theorem sC5_c (C : LexC) (w : World) (hT : TabG w) : Calls Tryz.prog 13 #[setV (range 97 97)] w fun en w' => en = .returned (.string ⟨#[97]⟩) ∧ Below w.heap.size w w' := by
  have h := C.text (range 97 97) w hT
  rw [text97] at h
  exact h
set_option maxRecDepth 100000 in
set_option maxHeartbeats 4000000 in
theorem sure5_calls (C : LexC) (w : World) (hT : TabG w) : Calls Tryz.prog 7 #[] w fun e w' => e = .returned (.bool true) ∧ Below w.heap.size w w' := by
  have HA := Lib.hid (sA5_c C)
  have HB := Lib.hid (sB5_c C)
  have HC := Lib.hid (sC5_c C)
  have HT := Lib.hid hT
  clear hT C
  generalize range 97 97 = t at *
  go_enter Tryz.func7, Tryz.ntmps7
  go_wp2_with fail
  refine (HA.out _ HT.out).mono ?_
  rintro e w1 ⟨g, cap, rfl, ⟨hg, c3, c4, c5, c6, c9, c16, c29⟩, hb⟩
  have HT1 := Lib.hid (HT.out.below hb)
  have hB1 := hb
  clear hb HA HT
  go_wp2_with fail
  refine (HB.out _ HT1.out).mono ?_
  rintro e w2 ⟨v, rfl, hb⟩
  have HT2 := Lib.hid (HT1.out.below hb)
  have hB2 := hB1.trans (hb.mono hB1.size)
  replace c3 := (hb.cell (p := ⟨g, 3, none⟩) hg).trans c3
  replace c4 := (hb.cell (p := ⟨g, 4, none⟩) hg).trans c4
  replace c5 := (hb.cell (p := ⟨g, 5, none⟩) hg).trans c5
  replace c6 := (hb.cell (p := ⟨g, 6, none⟩) hg).trans c6
  replace c9 := (hb.cell (p := ⟨g, 9, none⟩) hg).trans c9
  replace c16 := (hb.cell (p := ⟨g, 16, none⟩) hg).trans c16
  replace c29 := (hb.cell (p := ⟨g, 29, none⟩) hg).trans c29
  clear hb HB hB1 HT1 hg
  go_wp2_with fail
  refine (HC.out _ HT2.out).mono ?_
  rintro e w3 ⟨rfl, hb⟩
  have hB3 := hB2.trans (hb.mono hB2.size)
  clear hb hB2 HC c3 c4 c5 c6 c9 c16 c29
  go_wp2_with fail
  go_ret
  exact ⟨rfl, hB3⟩

/-! ### LexTells -/
set_option maxRecDepth 100000 in
set_option maxHeartbeats 4000000 in
theorem tells5_calls (C : LexC) (s : ByteArray) (hs : s.size ≤ 9223372036854775807) (at' : Int) (w : World) (hT : TabG w) : Calls Tryz.prog 3 #[.string s, .int .i64 at'] w fun e w' => e = .returned (.bool true) ∧ Below w.heap.size w w' := by
  by_cases hl : 400 < s.size
  · have q : decide ((400 : Int) < (s.size : Int)) = true := by rw [decide_eq_true_iff]; omega
    go_enter Tryz.func3, Tryz.ntmps3
    go_wp2_with fail
    refine (sure5_calls C _ hT).mono ?_
    rintro e w1 ⟨rfl, hb⟩
    go_wp2_with fail
    go_ret
    exact ⟨rfl, hb⟩
  have q : decide ((400 : Int) < (s.size : Int)) = false := by rw [decide_eq_false_iff_not]; omega
  have HD := Lib.hid (C.next s (by omega) at')
  have HR := Lib.hid (rNext_calls s (by omega) at')
  have HSU := Lib.hid (sure5_calls C)
  have HT := Lib.hid hT
  generalize nextN s at' = X at *
  obtain ⟨⟨k, a, f, t, n, m⟩, e, p⟩ := X
  replace HD : Hid (∀ w, TabG w → Calls Tryz.prog 8 #[.string s, .int .i64 at'] w fun en w' => en = .returned (.tuple #[.agg (woI k a f t n m), .int .i64 e, .int .i64 p]) ∧ Below w.heap.size w w') := HD
  replace HR : Hid (∀ w, Calls Tryz.prog 9 #[.string s, .int .i64 at'] w fun en w' => en = .returned (.tuple #[.agg (woI k a f t n m), .int .i64 e, .int .i64 p]) ∧ Below w.heap.size w w') := HR
  clear hT C hl
  have heq := eqWord_same k a f t n m
  have HB := Lib.hid (Below.refl w.heap.size w)
  have hz := Nat.le_refl w.heap.size
  go_enter Tryz.func3, Tryz.ntmps3
  go_wp2_with fail
  refine (HD.out _ HT.out).mono ?_
  rintro en w1 ⟨rfl, hb⟩
  have HTx := Lib.hid (HT.out.below hb)
  have HBx := Lib.hid (HB.out.trans (hb.mono (by omega)))
  have hzx := Nat.le_trans hz hb.size
  clear  HT HB hz hb
  have HT := HTx
  have HB := HBx
  have hz := hzx
  clear HTx HBx hzx
  clear HD
  go_upto_region 4 with fail
  have BA : Hid (Blk (w1.alloc (.cells #[.int .i64 k, .int .i64 a, .int .i64 f, .int .u64 (wd t 0), .int .u64 (wd t 1), .int .u64 (wd t 2), .int .u64 (wd t 3), .int .i64 n, .int .i64 m] 27)) w1.heap.size (woI k a f t n m) 27) := Lib.hid (Blk.new w1 (woI k a f t n m) 27)
  replace HT := Lib.hid (HT.out.alloc (.cells #[.int .i64 k, .int .i64 a, .int .i64 f, .int .u64 (wd t 0), .int .u64 (wd t 1), .int .u64 (wd t 2), .int .u64 (wd t 3), .int .i64 n, .int .i64 m] 27))
  replace HB := Lib.hid (HB.out.alloc (by omega) (.cells #[.int .i64 k, .int .i64 a, .int .i64 f, .int .u64 (wd t 0), .int .u64 (wd t 1), .int .u64 (wd t 2), .int .u64 (wd t 3), .int .i64 n, .int .i64 m] 27))
  have hzx : w.heap.size ≤ (w1.alloc (.cells #[.int .i64 k, .int .i64 a, .int .i64 f, .int .u64 (wd t 0), .int .u64 (wd t 1), .int .u64 (wd t 2), .int .u64 (wd t 3), .int .i64 n, .int .i64 m] 27)).heap.size := by simp; omega
  clear hz
  have hz := hzx
  clear hzx
  generalize w1.alloc (.cells #[.int .i64 k, .int .i64 a, .int .i64 f, .int .u64 (wd t 0), .int .u64 (wd t 1), .int .u64 (wd t 2), .int .u64 (wd t 3), .int .i64 n, .int .i64 m] 27) = w1n at *
  generalize w1.heap.size = gBA at *
  go_wp2_with fail
  refine (HR.out _).mono ?_
  rintro en w2 ⟨rfl, hb⟩
  have BAx := Lib.hid (BA.out.below hb (Blk.lt BA.out))
  have HTx := Lib.hid (HT.out.below hb)
  have HBx := Lib.hid (HB.out.trans (hb.mono (by omega)))
  have hzx := Nat.le_trans hz hb.size
  clear BA HT HB hz hb
  have BA := BAx
  have HT := HTx
  have HB := HBx
  have hz := hzx
  clear BAx HTx HBx hzx
  clear HR
  go_upto_region 5 with fail
  have BB : Hid (Blk (w2.alloc (.cells #[.int .i64 k, .int .i64 a, .int .i64 f, .int .u64 (wd t 0), .int .u64 (wd t 1), .int .u64 (wd t 2), .int .u64 (wd t 3), .int .i64 n, .int .i64 m] 27)) w2.heap.size (woI k a f t n m) 27) := Lib.hid (Blk.new w2 (woI k a f t n m) 27)
  replace BA := Lib.hid (BA.out.alloc (.cells #[.int .i64 k, .int .i64 a, .int .i64 f, .int .u64 (wd t 0), .int .u64 (wd t 1), .int .u64 (wd t 2), .int .u64 (wd t 3), .int .i64 n, .int .i64 m] 27))
  replace HT := Lib.hid (HT.out.alloc (.cells #[.int .i64 k, .int .i64 a, .int .i64 f, .int .u64 (wd t 0), .int .u64 (wd t 1), .int .u64 (wd t 2), .int .u64 (wd t 3), .int .i64 n, .int .i64 m] 27))
  replace HB := Lib.hid (HB.out.alloc (by omega) (.cells #[.int .i64 k, .int .i64 a, .int .i64 f, .int .u64 (wd t 0), .int .u64 (wd t 1), .int .u64 (wd t 2), .int .u64 (wd t 3), .int .i64 n, .int .i64 m] 27))
  have hzx : w.heap.size ≤ (w2.alloc (.cells #[.int .i64 k, .int .i64 a, .int .i64 f, .int .u64 (wd t 0), .int .u64 (wd t 1), .int .u64 (wd t 2), .int .u64 (wd t 3), .int .i64 n, .int .i64 m] 27)).heap.size := by simp; omega
  clear hz
  have hz := hzx
  clear hzx
  generalize w2.alloc (.cells #[.int .i64 k, .int .i64 a, .int .i64 f, .int .u64 (wd t 0), .int .u64 (wd t 1), .int .u64 (wd t 2), .int .u64 (wd t 3), .int .i64 n, .int .i64 m] 27) = w2n at *
  generalize w2.heap.size = gBB at *
  have c0 := BA.out.cell 0
  have c1 := BA.out.cell 1
  have c2 := BA.out.cell 2
  have c3 := BA.out.cell 3
  have c4 := BA.out.cell 4
  have c5 := BA.out.cell 5
  have c6 := BA.out.cell 6
  have c7 := BA.out.cell 7
  have c8 := BA.out.cell 8
  simp only [List.getElem?_toArray, List.getElem?_cons_zero, List.getElem?_cons_succ] at c0 c1 c2 c3 c4 c5 c6 c7 c8
  have d0 := BB.out.cell 0
  have d1 := BB.out.cell 1
  have d2 := BB.out.cell 2
  have d3 := BB.out.cell 3
  have d4 := BB.out.cell 4
  have d5 := BB.out.cell 5
  have d6 := BB.out.cell 6
  have d7 := BB.out.cell 7
  have d8 := BB.out.cell 8
  simp only [List.getElem?_toArray, List.getElem?_cons_zero, List.getElem?_cons_succ] at d0 d1 d2 d3 d4 d5 d6 d7 d8
  go_wp2_with fail
  refine (HSU.out _ HT.out).mono ?_
  rintro en w3 ⟨rfl, hb⟩
  have hBz := HB.out.trans (hb.mono (by omega))
  clear heq HSU BA BB c0 c1 c2 c3 c4 c5 c6 c7 c8 d0 d1 d2 d3 d4 d5 d6 d7 d8
  go_wp2_with fail
  go_ret
  exact ⟨rfl, hBz⟩
end Go.Proofs.YtpaecjjelpjopaaGreatDoor

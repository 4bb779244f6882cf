/- The developers' words: All. -/
import Derived.Test.YtpaecjjelpjopaaGreatDoorWs
import Derived.Test.YtpaecjjelpjopaaGreatDoorVu
namespace Go.Proofs.YtpaecjjelpjopaaGreatDoor
open Go.RowKit Go.Shelf BS

set_option maxRecDepth 100000 in
set_option maxHeartbeats 16000000 in
theorem all5_owns (s : ByteArray) (hs : s.size ≤ 1000000) (w : World) :
    Calls Tryz.prog 10 #[.string s] w fun e w' => ∃ v, e = .returned (.tuple #[v, .int .i64 (wordsN s).2.1, .int .i64 (wordsN s).2.2]) ∧ w'.ownsRow w.heap.size 27 9 v (wordsN s).1.length (woCells (wordsN s).1) ∧ Below w.heap.size w w' := by
  obtain ⟨i0, hi, hz0, hz1, hz2⟩ := info_parts info9w
  have hg : allN s (s.size + 1) 0 [] = wordsN s := rfl
  generalize wordsN s = R at *
  have HG := Lib.hid hg
  clear hg
  go_enter Tryz.func10, Tryz.ntmps10
  go_wp2_with fail
  go_loopw [5, 6] (fun v i wr => ∃ (k a : Nat) (l : List WN), a ≤ s.size ∧ l.length ≤ a ∧ s.size < k + a ∧ i = .int .i64 a ∧ allN s k a l = R ∧ wr.ownsRow w.heap.size 27 9 v l.length (woCells l) ∧ Below w.heap.size w wr) (fun _ i _ => s.size - (intOf i).toNat)
  case atStart => exact ⟨s.size + 1, 0, [], Nat.zero_le _, Nat.le_refl _, by omega, rfl, HG.out, World.ownsRow_nil _ _ _ _, Below.refl _ _⟩
  case round =>
    clear HG
    obtain ⟨k, a, l, ha, hl, hk, rfl, hres, hr, hB⟩ := hrel
    obtain ⟨k, rfl⟩ : ∃ m, k = m + 1 := ⟨k - 1, by omega⟩
    by_cases hlt : a < s.size
    · have hE := nextA_end s a hlt
      have hN := read5_calls s hs a
      rw [← (next_in s a hlt).1] at hN
      have hmore := allN_more s k a l
      have hstop := allN_stop s k a l
      generalize lackG5 s a = lk at *
      generalize hX : nextA s a = X at *
      obtain ⟨x, e, p⟩ := X
      obtain ⟨xk, xa, xf, xs, xn, xm⟩ := x
      have HN : Hid (∀ w, Calls Tryz.prog 17 #[.string s, .int .i64 a] w fun en w' => en = .returned (.agg (rgI xk xa xf xs xn xm e p lk)) ∧ Below w.heap.size w w') := Lib.hid hN
      clear hN
      rcases hE with ⟨h1, h2, h3, h4, h5, h6⟩ | ⟨h1, _⟩
      · simp only at h1 h2 h4 h5 h6
        subst h1
        subst h2
        replace h4 := h4.symm
        subst h4
        rw [hmore _ hlt rfl] at hres
        have HRES := Lib.hid hres
        have HB := Lib.hid hB
        clear hres hmore hstop h3 hX hB
        have hla : l.length ≤ 1000000 := by omega
        go_wp2_with fail
        refine (HN.out _).mono ?_
        rintro en w2 ⟨rfl, hb2⟩
        have hr2 := row_below hr hb2
        have hB2 := HB.out.trans (hb2.mono HB.out.size)
        clear hr hb2 HB HN
        go_upto_region 5 with fail
        have BA := Blk.new w2 (rgI xk a xf xs xn xm (0 : Nat) (0 : Nat) lk) 45
        have hr3 := hr2.alloc (.cells (rgI xk a xf xs xn xm (0 : Nat) (0 : Nat) lk) 45)
        have hB3 := hB2.alloc hB2.size (.cells (rgI xk a xf xs xn xm (0 : Nat) (0 : Nat) lk) 45)
        have hgA : w.heap.size ≤ w2.heap.size := hB2.size
        have hneA := fun k e => Nat.ne_of_lt (hr2.lt k e).2
        clear hr2 hB2
        generalize w2.alloc (.cells (rgI xk a xf xs xn xm (0 : Nat) (0 : Nat) lk) 45) = w3 at *
        generalize w2.heap.size = gA at *
        have c0 := BA.cell 0; have c1 := BA.cell 1; have c2 := BA.cell 2; have c3 := BA.cell 3; have c4 := BA.cell 4; have c5 := BA.cell 5; have c6 := BA.cell 6; have c7 := BA.cell 7; have c8 := BA.cell 8; have c9 := BA.cell 9; have c10 := BA.cell 10
        simp only [List.getElem?_toArray, List.getElem?_cons_zero, List.getElem?_cons_succ] at c0 c1 c2 c3 c4 c5 c6 c7 c8 c9 c10
        have HBA := Lib.hid BA
        clear BA
        go_wp2_with (at_builtin
                     go_loud (refine wpList_append_own _ rfl _ _ 34 rfl w.heap.size 27 i0 (.agg #[.int .i64 0, .int .i64 0, .int .i64 0, .int .u64 0, .int .u64 0, .int .u64 0, .int .u64 0, .int .i64 0, .int .i64 0]) 9 72 Tryz.underlying34 hi hz0 hz1 hz2 rfl (by decide) _ _ _ rfl (hr3.alloc _) ⟨w3.heap.size, 0, none⟩ 1 1 (woI xk a xf xs xn xm).toList rfl rfl (Blk.new w3 _ _).newsL (by simp [Value.oneCell']) (by unfold maxLen; omega) (by omega) (by have := hB3.size; simp; omega) ?_)
                     intro v' w4 hown' hgrow _
                     have HO := Lib.hid hown'
                     have hBA4 := (HBA.out.alloc _).kept hgrow (fun e => hneA _ e.symm rfl)
                     have hB4 := (hB3.alloc hB3.size _).grown hgrow (by have := hB3.size; simp; omega) (fun b hb => (hr3.lt b hb).1)
                     clear hown' hr3 hB3 hgrow c0 c1 c2 c3 c4 c5 c6 c7 c8 c9 c10
                     have c2 := hBA4.cell 2
                     simp only [List.getElem?_toArray, List.getElem?_cons_zero, List.getElem?_cons_succ] at c2)
        skip
        go_roundw
        case rel => exact ⟨k, xf, l ++ [⟨xk, a, xf, xs, xn, xm⟩], h6, by simp; omega, by omega, rfl, HRES.out, by rw [woCells_snoc, List.length_append]; exact HO.out, hB4⟩
        case measure => simp [intOf]; omega
      · simp only at h1
        rw [hstop _ _ _ hlt rfl h1] at hres
        have qe : ((e : Int) != 0) = true := by rw [bne_iff_ne]; omega
        have HB := Lib.hid hB
        subst hres
        clear hmore hstop hX hB h1
        go_wp2_with fail
        refine (HN.out _).mono ?_
        rintro en w2 ⟨rfl, hb2⟩
        have hr2 := row_below hr hb2
        have hB2 := (HB.out.trans (hb2.mono HB.out.size))
        clear hb2 HB HN hr
        go_upto_region 5 with fail
        have BA := Blk.new w2 (rgI xk xa xf xs xn xm e p lk) 45
        have hr3 := hr2.alloc (.cells (rgI xk xa xf xs xn xm e p lk) 45)
        have hB3 := hB2.alloc hB2.size (.cells (rgI xk xa xf xs xn xm e p lk) 45)
        have hgA : w.heap.size ≤ w2.heap.size := hB2.size
        have hneA := fun k e => Nat.ne_of_lt (hr2.lt k e).2
        clear hr2 hB2
        generalize w2.alloc (.cells (rgI xk xa xf xs xn xm e p lk) 45) = w3 at *
        generalize w2.heap.size = gA at *
        have c0 := BA.cell 0; have c1 := BA.cell 1; have c2 := BA.cell 2; have c3 := BA.cell 3; have c4 := BA.cell 4; have c5 := BA.cell 5; have c6 := BA.cell 6; have c7 := BA.cell 7; have c8 := BA.cell 8; have c9 := BA.cell 9; have c10 := BA.cell 10
        simp only [List.getElem?_toArray, List.getElem?_cons_zero, List.getElem?_cons_succ] at c0 c1 c2 c3 c4 c5 c6 c7 c8 c9 c10
        have HBA := Lib.hid BA
        clear BA
        clear hr3 hneA hgA
        go_upto_region 6 with fail
        clear c0 c1 c2 c3 c4 c5 c6 c7 c8 HBA
        go_quiet (fail)
        go_wp2_with fail
        exact bodyPost_ret (v := .tuple #[.slice none 0 0, .int .i64 e, .int .i64 p]) (by simp [results, Tryz.results10, go_sem]) rfl ⟨_, rfl, World.ownsRow_nil _ _ _ _, below_drN hB3 _⟩
    · obtain rfl : a = s.size := by omega
      rw [allN_end] at hres
      subst hres
      go_wp2_with fail
      exact bodyPost_ret (v := .tuple #[_, .int .i64 0, .int .i64 0]) (by simp [results, Tryz.results10, go_sem] <;> rfl) rfl ⟨_, rfl, hr, hB⟩
end Go.Proofs.YtpaecjjelpjopaaGreatDoor

/- Texts put together: Jh Ji Hc Pe Pf Pg. -/
import Derived.Test.YthodphgbdmnpoaaPL
import Derived.Test.YthodphgbdmnpoaaPG
import Derived.Test.YthodphgbdmnpoaaPB
import Derived.Test.YthodphgbdmnpoaaPD
import Derived.WalkLawsBesides
import Derived.Laws.StructEq
import Derived.BigQuiet
import Derived.Deep.QuietTactic
import Derived.Lib.Hide
/- The developers' reading: read. Stage 7. -/
namespace Go.Proofs.Ythodphgbdmnpoaa
open Go.RowKit BS

theorem info40 : (Try.prog.info? 40).map (·.size) = some 2 := by kernel_rfl
/-- Where the reading begins. -/
theorem start_rd (s : ByteArray) (w : World) : RdV w.heap.size (w.heap.size + 1) s 0 sPS (.slice none 0 0) (.slice (some ⟨w.heap.size, 0, none⟩) 1 1) w ((w.alloc (.cells #[.int .i64 0, .int .i64 0] 45)).alloc (.cells (preA s 0 (.slice none 0 0) (.slice (some ⟨w.heap.size, 0, none⟩) 1 1) 0) 43)) := by
  have h1 := Blk.new w #[.int .i64 0, .int .i64 0] 45
  have h2 := Blk.new (w.alloc (.cells #[.int .i64 0, .int .i64 0] 45)) (preA s 0 (.slice none 0 0) (.slice (some ⟨w.heap.size, 0, none⟩) 1 1) 0) 43
  rw [World.size_alloc] at h2
  refine ⟨h2, World.ownsRow_nil _ _ _ _, ⟨rfl, .inr ⟨w.heap.size, 1, _, rfl, Nat.le_refl _, h1.alloc _, Nat.le_refl _, by decide, rfl, rfl⟩⟩, by simp [Value.ownBlock], by simp [Value.ownBlock], .inl rfl, by omega, by go_grown⟩
/-- What read tells. -/
def ReadQ (s : ByteArray) (w : World) (RES : PS × Nat × Nat) (e : Ending) (w' : World) : Prop :=
  (RES.2.1 ≠ 0 ∧ e = .returned (.tuple #[.pointer none, .int .i64 RES.2.1, .int .i64 RES.2.2]) ∧ Below w.heap.size w w') ∨
  (RES.2.1 = 0 ∧ ∃ R a vN vL, e = .returned (.tuple #[.pointer (some ⟨R, 0, none⟩), .int .i64 0, .int .i64 0]) ∧ RdV w.heap.size R s a RES.1 vN vL w w' ∧ Bnd s.size RES.1 ∧ RES.1.st ≠ [])
theorem bnd_le {a b : Nat} {x : PS} (h : Bnd a x) (hb : a ≤ b) : Bnd b x := ⟨by have := h.1; omega, by have := h.2.1; omega, fun p hp => by have := h.2.2 p hp; exact ⟨by omega, by omega⟩⟩
set_option maxRecDepth 100000 in
set_option maxHeartbeats 32000000 in
theorem pread_calls (s : ByteArray) (hs : s.size ≤ 1000000) (w : World) :
    Calls Try.prog 9 #[.string s] w fun e w' => ReadQ s w (readM s (s.size + 1) 0 sPS) e w' := by
  have HG := Lib.hid (start_rd s w)
  have hR : readM s (s.size + 1) 0 sPS = readM s (s.size + 1) 0 sPS := rfl
  generalize hRES : readM s (s.size + 1) 0 sPS = RES at *
  have HRES := Lib.hid hRES
  clear hRES hR
  go_enter Try.func9, Try.ntmps9
  go_upto_region 2 with fail
  have e0 : (w.alloc (.cells #[.int .i64 0, .int .i64 0] 45)).alloc (.cells #[.string s, .int .i64 0, .slice none 0 0, .slice (some ⟨w.heap.size, 0, none⟩) 1 1, .int .i64 0] 43) = (w.alloc (.cells #[.int .i64 0, .int .i64 0] 45)).alloc (.cells (preA s 0 (.slice none 0 0) (.slice (some ⟨w.heap.size, 0, none⟩) 1 1) 0) 43) := rfl
  try rw [e0]
  clear e0
  generalize (w.alloc (.cells #[.int .i64 0, .int .i64 0] 45)).alloc (.cells (preA s 0 (.slice none 0 0) (.slice (some ⟨w.heap.size, 0, none⟩) 1 1) 0) 43) = w1 at *
  go_loopw [9] (fun _ wr => ∃ (k a : Nat) (x : PS) (vN vL : Value), a ≤ s.size ∧ s.size < k + a ∧ readM s k a x = RES ∧ PInv x ∧ Bnd a x ∧ RdV w.heap.size (w.heap.size + 1) s a x vN vL w wr) (fun _ wr => s.size - (intOf ((wr.cell? ⟨w.heap.size + 1, 1, none⟩).getD undef)).toNat)
  case atStart => exact ⟨s.size + 1, 0, sPS, _, _, Nat.zero_le _, by omega, HRES.out, sPS_inv, sPS_bnd, HG.out⟩
  case round =>
    clear HG HRES
    obtain ⟨k, a, x, vN, vL, ha, hk, hres, hpi, hbd, hr⟩ := hrel
    obtain ⟨k, rfl⟩ : ∃ m, k = m + 1 := ⟨k - 1, by omega⟩
    have c1 := hr.c.2.1
    have HC1 := Lib.hid c1
    by_cases hlt : a < s.size
    · obtain ⟨l, st, gr⟩ := x
      obtain _ | ⟨⟨n, r⟩, st⟩ := st
      · exact absurd rfl hpi.1
      have hsl := hbd.2.1
      simp only [List.length_cons] at hsl
      obtain ⟨gL, capL, rfl, _⟩ := hr.top rfl
      have c3 : wr.cell? ⟨w.heap.size + 1, 3, none⟩ = some (.slice (some ⟨gL, 0, none⟩) (st.length + 1 : Nat) capL) := hr.c.2.2.2.1
      have HLV := Lib.hid (fun W (h3 : W.cell? ⟨w.heap.size + 1, 3, none⟩ = some (.slice (some ⟨gL, 0, none⟩) (st.length + 1 : Nat) capL)) => plevel_calls (w.heap.size + 1) gL st.length capL W h3 (by omega))
      have HR := Lib.hid hr
      have HB := Lib.hid hr.bel
      clear hr hsl
      have hb0 : s[a].toNat = bt s a := (bt_eq s a hlt).symm
      have hi := ib_eq [42, 43, 63, 123] (by decide) (bt s a) (bt_lt s a)
      have HI : Hid (∀ w, Calls Try.prog 12 #[.string ⟨#[42, 43, 63, 123]⟩, .int .u8 (bt s a)] w fun e w' => e = .returned (.int .i64 (Lib.indexByte (ofT [42, 43, 63, 123]).data.toList ((bt s a : Int)).toNat.toUInt8)) ∧ w = w') := Lib.hid (ib_calls (ofT [42, 43, 63, 123]) (bt s a))
      generalize Lib.indexByte (ofT [42, 43, 63, 123]).data.toList ((bt s a : Int)).toNat.toUInt8 = ix at *
      by_cases hc : bt s a = 42 ∨ bt s a = 43 ∨ bt s a = 63 ∨ bt s a = 123
      · have hix : decide (0 ≤ ix) = true := by rw [hi]; rcases hc with h | h | h | h <;> rw [h] <;> rfl
        clear hi
        by_cases hn : n = 0
        · subst hn
          rw [readM_first s k a _ 7 hlt (by unfold firstP; simp only; rw [if_pos hc]; simp) (by decide)] at hres
          subst hres
          clear hpi hbd hc
          go_wp2_with (go_at_call 12; refine (HI.out _).mono ?_; rintro e w' ⟨rfl, rfl⟩)
          refine (HLV.out _ c3).mono ?_
          rintro e w1 ⟨rfl, hb1⟩
          have hr1 := HR.out.below hb1
          have c1' := hr1.c.2.1
          clear HR c1 c3 hb1 HB HLV
          obtain ⟨_, _, ee, _, _, _, _, t0, t1, f0, f1, _⟩ := hr1.top rfl
          cases ee
          have HB := Lib.hid hr1.bel
          clear hr1
          go_wp2_with fail
          go_quiet (fail)
          go_wp2_with fail
          exact bodyPost_ret (v := .tuple #[.pointer none, .int .i64 7, .int .i64 ((a : Int) + 1)]) (by simp [results, Try.results9, go_sem] <;> rfl) rfl (.inl ⟨(show (7 : Nat) ≠ 0 by decide), rfl, below_drN HB.out _⟩)
        · have qn : ((n : Int) == 0) = false := by rw [beq_eq_false_iff_ne]; omega
          obtain ⟨vX, hvX⟩ : ∃ X, nextA s a = X := ⟨_, rfl⟩
          obtain ⟨⟨xk, xp, xf, xt, xn, xm⟩, er, pl⟩ := vX
          have hE := nextA_end s a hlt
          have hcc : bt s a = 42 ∨ bt s a = 43 ∨ bt s a = 63 ∨ bt s a = 123 → n ≠ 0 := fun _ => hn
          rw [hvX] at hE
          rcases hE with ⟨h1, h2, h3, h4, h5, h6⟩ | ⟨h1, _⟩
          · simp only at h1 h2 h4 h5 h6
            subst h1
            subst h2
            subst h4
            have hNX := fun W (h : RdV w.heap.size (w.heap.size + 1) s xp ⟨l, (n, r) :: st, gr⟩ vN (.slice (some ⟨gL, 0, none⟩) (st.length + 1 : Nat) capL) w W) => pnext_calls hs xk xp xf xt xn xm 0 0 (by rw [← (next_in s xp hlt).1]; exact hvX) W h
            simp only [if_true] at hNX
            have hft := first_tk s xp ⟨l, (n, r) :: st, gr⟩ n r st ⟨xk, xp, xf, xt, xn, xm⟩ rfl hvX hcc
            have hTK := fun W (h : RdV w.heap.size (w.heap.size + 1) s xf ⟨l, (n, r) :: st, gr⟩ vN (.slice (some ⟨gL, 0, none⟩) (st.length + 1 : Nat) capL) w W) => ptake_calls hs ⟨l, (n, r) :: st, gr⟩ ⟨xk, xp, xf, xt, xn, xm⟩ h3 hbd (by simp) ha hpi.2.2.2 W h
            have hbd2 := take_bnd xp xf ⟨l, (n, r) :: st, gr⟩ ⟨xk, xp, xf, xt, xn, xm⟩ hbd h5
            by_cases htk : tkE ⟨l, (n, r) :: st, gr⟩ ⟨xk, xp, xf, xt, xn, xm⟩ = 0
            · rw [htk] at hft
              have hpi2 := take_inv s xp ⟨l, (n, r) :: st, gr⟩ ⟨xk, xp, xf, xt, xn, xm⟩ hpi hft h3 (next_kinds s xp _ hvX).1 (next_kinds s xp _ hvX).2.1 (next_kinds s xp _ hvX).2.2
              rw [readM_step s k xp _ ⟨xk, xp, xf, xt, xn, xm⟩ 0 hlt hft hvX] at hres
              rw [htk] at hTK
              have HNX : Hid (∀ W, RdV w.heap.size (w.heap.size + 1) s xp ⟨l, (n, r) :: st, gr⟩ vN (.slice (some ⟨gL, 0, none⟩) (st.length + 1 : Nat) capL) w W → Calls Try.prog 14 #[.pointer (some ⟨w.heap.size + 1, 0, none⟩)] W fun e w' => e = .returned (.tuple #[.agg (woI xk xp xf xt xn xm), .int .i64 0, .int .i64 0]) ∧ RdV w.heap.size (w.heap.size + 1) s xf ⟨l, (n, r) :: st, gr⟩ vN (.slice (some ⟨gL, 0, none⟩) (st.length + 1 : Nat) capL) w w') := Lib.hid hNX
              have HTK : Hid (∀ W, RdV w.heap.size (w.heap.size + 1) s xf ⟨l, (n, r) :: st, gr⟩ vN (.slice (some ⟨gL, 0, none⟩) (st.length + 1 : Nat) capL) w W → Calls Try.prog 15 #[.pointer (some ⟨w.heap.size + 1, 0, none⟩), .agg (woI xk xp xf xt xn xm)] W fun e w' => e = .returned (.int .i64 0) ∧ (0 = 0 → ∃ vN' vL', RdV w.heap.size (w.heap.size + 1) s xf (takeP ⟨l, (n, r) :: st, gr⟩ ⟨xk, xp, xf, xt, xn, xm⟩) vN' vL' w w') ∧ ((0 : Nat) ≠ 0 → Below W.heap.size W w')) := Lib.hid hTK
              have HF := Lib.hid (show _ ∧ _ ∧ _ ∧ _ ∧ _ from ⟨hres, hpi2, hbd2, h5, h6⟩)
              clear hres hpi2 hbd2 h5 h6 hNX hTK hft htk h3 hvX hcc hpi hbd
              go_wp2_with (go_at_call 12; refine (HI.out _).mono ?_; rintro e w' ⟨rfl, rfl⟩)
              refine (HLV.out _ c3).mono ?_
              rintro e w1 ⟨rfl, hb1⟩
              have hr1 := HR.out.below hb1
              clear HR c1 c3 hb1 HB HLV
              obtain ⟨_, _, ee, _, _, _, _, t0, t1, f0, f1, _⟩ := hr1.top rfl
              cases ee
              have HR := Lib.hid hr1
              have HB := Lib.hid hr1.bel
              clear hr1
              go_wp2_with fail
              refine (HNX.out _ HR.out).mono ?_
              rintro e w2 ⟨rfl, hr2⟩
              clear HNX HR HB
              go_upto_region 6 with fail
              have HW := Lib.hid (Blk.new w2 (woI xk xp xf xt xn xm) 50)
              have HR := Lib.hid (hr2.alloc (.cells (woI xk xp xf xt xn xm) 50))
              clear hr2
              generalize w2.alloc (.cells (woI xk xp xf xt xn xm) 50) = w3 at *
              generalize w2.heap.size = gW at *
              have g0 := HW.out.cell 0; have g1 := HW.out.cell 1; have g2 := HW.out.cell 2; have g3 := HW.out.cell 3; have g4 := HW.out.cell 4; have g5 := HW.out.cell 5; have g6 := HW.out.cell 6; have g7 := HW.out.cell 7; have g8 := HW.out.cell 8
              simp only [List.getElem?_toArray, List.getElem?_cons_zero, List.getElem?_cons_succ] at g0 g1 g2 g3 g4 g5 g6 g7 g8
              go_wp2_with fail
              refine (HTK.out _ HR.out).mono ?_
              rintro e w4 ⟨rfl, hr4, _⟩
              obtain ⟨vN2, vL2, hr4⟩ := hr4 trivial
              clear HTK HR HW g0 g1 g2 g3 g4 g5 g6 g7 g8
              have HR := Lib.hid hr4
              have cA := hr4.c.2.1
              clear hr4
              go_wp2_with fail
              go_roundw
              case rel =>
                obtain ⟨q1, q2, q3, q4, q5⟩ := HF.out
                exact ⟨k, xf, _, vN2, vL2, q5, by omega, q1, q2, q3, HR.out⟩
              case measure =>
                obtain ⟨_, _, _, q4, _⟩ := HF.out
                rw [cA, HC1.out]
                simp [intOf]; omega
            · have hfn : firstP ⟨l, (n, r) :: st, gr⟩ (bt s xp) ≠ 0 := by rw [hft]; exact htk
              rw [readM_first s k xp _ _ hlt hft htk] at hres
              have qe : ((tkE ⟨l, (n, r) :: st, gr⟩ ⟨xk, xp, xf, xt, xn, xm⟩ : Int) != 0) = true := by rw [bne_iff_ne]; omega
              have HNE := Lib.hid htk
              generalize tkE ⟨l, (n, r) :: st, gr⟩ ⟨xk, xp, xf, xt, xn, xm⟩ = TE at *
              have HNX : Hid (∀ W, RdV w.heap.size (w.heap.size + 1) s xp ⟨l, (n, r) :: st, gr⟩ vN (.slice (some ⟨gL, 0, none⟩) (st.length + 1 : Nat) capL) w W → Calls Try.prog 14 #[.pointer (some ⟨w.heap.size + 1, 0, none⟩)] W fun e w' => e = .returned (.tuple #[.agg (woI xk xp xf xt xn xm), .int .i64 0, .int .i64 0]) ∧ RdV w.heap.size (w.heap.size + 1) s xf ⟨l, (n, r) :: st, gr⟩ vN (.slice (some ⟨gL, 0, none⟩) (st.length + 1 : Nat) capL) w w') := Lib.hid hNX
              have HTK : Hid (∀ W, RdV w.heap.size (w.heap.size + 1) s xf ⟨l, (n, r) :: st, gr⟩ vN (.slice (some ⟨gL, 0, none⟩) (st.length + 1 : Nat) capL) w W → Calls Try.prog 15 #[.pointer (some ⟨w.heap.size + 1, 0, none⟩), .agg (woI xk xp xf xt xn xm)] W fun e w' => e = .returned (.int .i64 TE) ∧ (TE = 0 → ∃ vN' vL', RdV w.heap.size (w.heap.size + 1) s xf (takeP ⟨l, (n, r) :: st, gr⟩ ⟨xk, xp, xf, xt, xn, xm⟩) vN' vL' w w') ∧ (TE ≠ 0 → Below W.heap.size W w')) := Lib.hid hTK
              have HRS := Lib.hid hres
              clear hres hbd2 h5 h6 hNX hTK hft htk h3 hvX hcc hpi hbd hfn
              go_wp2_with (go_at_call 12; refine (HI.out _).mono ?_; rintro e w' ⟨rfl, rfl⟩)
              refine (HLV.out _ c3).mono ?_
              rintro e w1 ⟨rfl, hb1⟩
              have hr1 := HR.out.below hb1
              clear HR c1 c3 hb1 HB HLV
              obtain ⟨_, _, ee, _, _, _, _, t0, t1, f0, f1, _⟩ := hr1.top rfl
              cases ee
              have HR := Lib.hid hr1
              have HB := Lib.hid hr1.bel
              clear hr1
              go_wp2_with fail
              refine (HNX.out _ HR.out).mono ?_
              rintro e w2 ⟨rfl, hr2⟩
              clear HNX HR HB
              go_upto_region 6 with fail
              have HW := Lib.hid (Blk.new w2 (woI xk xp xf xt xn xm) 50)
              have HR := Lib.hid (hr2.alloc (.cells (woI xk xp xf xt xn xm) 50))
              clear hr2
              generalize w2.alloc (.cells (woI xk xp xf xt xn xm) 50) = w3 at *
              generalize w2.heap.size = gW at *
              have g0 := HW.out.cell 0; have g1 := HW.out.cell 1; have g2 := HW.out.cell 2; have g3 := HW.out.cell 3; have g4 := HW.out.cell 4; have g5 := HW.out.cell 5; have g6 := HW.out.cell 6; have g7 := HW.out.cell 7; have g8 := HW.out.cell 8
              simp only [List.getElem?_toArray, List.getElem?_cons_zero, List.getElem?_cons_succ] at g0 g1 g2 g3 g4 g5 g6 g7 g8
              go_wp2_with fail
              refine (HTK.out _ HR.out).mono ?_
              rintro e w4 ⟨rfl, _, hb4⟩
              replace hb4 := hb4 HNE.out
              have hw4 := HW.out.below hb4 HW.out.lt
              have HB4 := Lib.hid ((HR.out.below hb4).bel)
              clear HTK HR HW g0 g1 g2 g3 g4 g5 g6 g7 g8 hb4
              have g1 := hw4.cell 1
              simp only [List.getElem?_toArray, List.getElem?_cons_zero, List.getElem?_cons_succ] at g1
              clear hw4
              go_wp2_with fail
              go_quiet (fail)
              go_wp2_with fail
              rw [← HRS.out]
              exact bodyPost_ret (v := .tuple #[.pointer none, .int .i64 TE, .int .i64 ((xp : Int) + 1)]) (by simp [results, Try.results9, go_sem] <;> rfl) rfl (.inl ⟨HNE.out, rfl, below_drN HB4.out _⟩)
          · simp only at h1
            have hft := first_err s a ⟨l, (n, r) :: st, gr⟩ n r st _ er pl rfl hvX h1 hcc
            rw [readM_err s k a _ _ er pl hlt hft hvX h1] at hres
            have hNX := fun W (h : RdV w.heap.size (w.heap.size + 1) s a ⟨l, (n, r) :: st, gr⟩ vN (.slice (some ⟨gL, 0, none⟩) (st.length + 1 : Nat) capL) w W) => pnext_calls hs xk xp xf xt xn xm er pl (by rw [← (next_in s a hlt).1]; exact hvX) W h
            simp only [if_neg h1] at hNX
            have HNX : Hid (∀ W, RdV w.heap.size (w.heap.size + 1) s a ⟨l, (n, r) :: st, gr⟩ vN (.slice (some ⟨gL, 0, none⟩) (st.length + 1 : Nat) capL) w W → Calls Try.prog 14 #[.pointer (some ⟨w.heap.size + 1, 0, none⟩)] W fun e w' => e = .returned (.tuple #[.agg (woI xk xp xf xt xn xm), .int .i64 er, .int .i64 pl]) ∧ RdV w.heap.size (w.heap.size + 1) s a ⟨l, (n, r) :: st, gr⟩ vN (.slice (some ⟨gL, 0, none⟩) (st.length + 1 : Nat) capL) w w') := Lib.hid hNX
            have qe : ((er : Int) != 0) = true := by rw [bne_iff_ne]; omega
            have HNE := Lib.hid h1
            have HRS := Lib.hid hres
            clear hres hNX hft h1 hvX hcc hpi hbd
            go_wp2_with (go_at_call 12; refine (HI.out _).mono ?_; rintro e w' ⟨rfl, rfl⟩)
            refine (HLV.out _ c3).mono ?_
            rintro e w1 ⟨rfl, hb1⟩
            have hr1 := HR.out.below hb1
            clear HR c1 c3 hb1 HB HLV
            obtain ⟨_, _, ee, _, _, _, _, t0, t1, f0, f1, _⟩ := hr1.top rfl
            cases ee
            have HR := Lib.hid hr1
            have HB := Lib.hid hr1.bel
            clear hr1
            go_wp2_with fail
            refine (HNX.out _ HR.out).mono ?_
            rintro e w2 ⟨rfl, hr2⟩
            clear HNX HR HB
            have HB2 := Lib.hid hr2.bel
            have hsz := hr2.size
            clear hr2
            go_wp2_with fail
            rw [← HRS.out]
            exact bodyPost_ret (v := .tuple #[.pointer none, .int .i64 er, .int .i64 pl]) (by simp [results, Try.results9, go_sem] <;> rfl) rfl (.inl ⟨HNE.out, rfl, HB2.out.alloc hsz _⟩)
      · have hix : decide (0 ≤ ix) = false := by
          rw [hi, Bool.eq_false_iff]
          intro h
          simp at h
          omega
        clear hi
        obtain ⟨vX, hvX⟩ : ∃ X, nextA s a = X := ⟨_, rfl⟩
        obtain ⟨⟨xk, xp, xf, xt, xn, xm⟩, er, pl⟩ := vX
        have hE := nextA_end s a hlt
        have hcc : bt s a = 42 ∨ bt s a = 43 ∨ bt s a = 63 ∨ bt s a = 123 → n ≠ 0 := fun h => absurd h hc
        rw [hvX] at hE
        rcases hE with ⟨h1, h2, h3, h4, h5, h6⟩ | ⟨h1, _⟩
        · simp only at h1 h2 h4 h5 h6
          subst h1
          subst h2
          subst h4
          have hNX := fun W (h : RdV w.heap.size (w.heap.size + 1) s xp ⟨l, (n, r) :: st, gr⟩ vN (.slice (some ⟨gL, 0, none⟩) (st.length + 1 : Nat) capL) w W) => pnext_calls hs xk xp xf xt xn xm 0 0 (by rw [← (next_in s xp hlt).1]; exact hvX) W h
          simp only [if_true] at hNX
          have hft := first_tk s xp ⟨l, (n, r) :: st, gr⟩ n r st ⟨xk, xp, xf, xt, xn, xm⟩ rfl hvX hcc
          have hTK := fun W (h : RdV w.heap.size (w.heap.size + 1) s xf ⟨l, (n, r) :: st, gr⟩ vN (.slice (some ⟨gL, 0, none⟩) (st.length + 1 : Nat) capL) w W) => ptake_calls hs ⟨l, (n, r) :: st, gr⟩ ⟨xk, xp, xf, xt, xn, xm⟩ h3 hbd (by simp) ha hpi.2.2.2 W h
          have hbd2 := take_bnd xp xf ⟨l, (n, r) :: st, gr⟩ ⟨xk, xp, xf, xt, xn, xm⟩ hbd h5
          by_cases htk : tkE ⟨l, (n, r) :: st, gr⟩ ⟨xk, xp, xf, xt, xn, xm⟩ = 0
          · rw [htk] at hft
            have hpi2 := take_inv s xp ⟨l, (n, r) :: st, gr⟩ ⟨xk, xp, xf, xt, xn, xm⟩ hpi hft h3 (next_kinds s xp _ hvX).1 (next_kinds s xp _ hvX).2.1 (next_kinds s xp _ hvX).2.2
            rw [readM_step s k xp _ ⟨xk, xp, xf, xt, xn, xm⟩ 0 hlt hft hvX] at hres
            rw [htk] at hTK
            have HNX : Hid (∀ W, RdV w.heap.size (w.heap.size + 1) s xp ⟨l, (n, r) :: st, gr⟩ vN (.slice (some ⟨gL, 0, none⟩) (st.length + 1 : Nat) capL) w W → Calls Try.prog 14 #[.pointer (some ⟨w.heap.size + 1, 0, none⟩)] W fun e w' => e = .returned (.tuple #[.agg (woI xk xp xf xt xn xm), .int .i64 0, .int .i64 0]) ∧ RdV w.heap.size (w.heap.size + 1) s xf ⟨l, (n, r) :: st, gr⟩ vN (.slice (some ⟨gL, 0, none⟩) (st.length + 1 : Nat) capL) w w') := Lib.hid hNX
            have HTK : Hid (∀ W, RdV w.heap.size (w.heap.size + 1) s xf ⟨l, (n, r) :: st, gr⟩ vN (.slice (some ⟨gL, 0, none⟩) (st.length + 1 : Nat) capL) w W → Calls Try.prog 15 #[.pointer (some ⟨w.heap.size + 1, 0, none⟩), .agg (woI xk xp xf xt xn xm)] W fun e w' => e = .returned (.int .i64 0) ∧ (0 = 0 → ∃ vN' vL', RdV w.heap.size (w.heap.size + 1) s xf (takeP ⟨l, (n, r) :: st, gr⟩ ⟨xk, xp, xf, xt, xn, xm⟩) vN' vL' w w') ∧ ((0 : Nat) ≠ 0 → Below W.heap.size W w')) := Lib.hid hTK
            have HF := Lib.hid (show _ ∧ _ ∧ _ ∧ _ ∧ _ from ⟨hres, hpi2, hbd2, h5, h6⟩)
            clear hres hpi2 hbd2 h5 h6 hNX hTK hft htk h3 hvX hcc hpi hbd
            go_wp2_with (go_at_call 12; refine (HI.out _).mono ?_; rintro e w' ⟨rfl, rfl⟩)
            refine (HNX.out _ HR.out).mono ?_
            rintro e w2 ⟨rfl, hr2⟩
            clear HNX HR HB
            go_upto_region 6 with fail
            have HW := Lib.hid (Blk.new w2 (woI xk xp xf xt xn xm) 50)
            have HR := Lib.hid (hr2.alloc (.cells (woI xk xp xf xt xn xm) 50))
            clear hr2
            generalize w2.alloc (.cells (woI xk xp xf xt xn xm) 50) = w3 at *
            generalize w2.heap.size = gW at *
            have g0 := HW.out.cell 0; have g1 := HW.out.cell 1; have g2 := HW.out.cell 2; have g3 := HW.out.cell 3; have g4 := HW.out.cell 4; have g5 := HW.out.cell 5; have g6 := HW.out.cell 6; have g7 := HW.out.cell 7; have g8 := HW.out.cell 8
            simp only [List.getElem?_toArray, List.getElem?_cons_zero, List.getElem?_cons_succ] at g0 g1 g2 g3 g4 g5 g6 g7 g8
            go_wp2_with fail
            refine (HTK.out _ HR.out).mono ?_
            rintro e w4 ⟨rfl, hr4, _⟩
            obtain ⟨vN2, vL2, hr4⟩ := hr4 trivial
            clear HTK HR HW g0 g1 g2 g3 g4 g5 g6 g7 g8
            have HR := Lib.hid hr4
            have cA := hr4.c.2.1
            clear hr4
            go_wp2_with fail
            go_roundw
            case rel =>
              obtain ⟨q1, q2, q3, q4, q5⟩ := HF.out
              exact ⟨k, xf, _, vN2, vL2, q5, by omega, q1, q2, q3, HR.out⟩
            case measure =>
              obtain ⟨_, _, _, q4, _⟩ := HF.out
              rw [cA, HC1.out]
              simp [intOf]; omega
          · have hfn : firstP ⟨l, (n, r) :: st, gr⟩ (bt s xp) ≠ 0 := by rw [hft]; exact htk
            rw [readM_first s k xp _ _ hlt hft htk] at hres
            have qe : ((tkE ⟨l, (n, r) :: st, gr⟩ ⟨xk, xp, xf, xt, xn, xm⟩ : Int) != 0) = true := by rw [bne_iff_ne]; omega
            have HNE := Lib.hid htk
            generalize tkE ⟨l, (n, r) :: st, gr⟩ ⟨xk, xp, xf, xt, xn, xm⟩ = TE at *
            have HNX : Hid (∀ W, RdV w.heap.size (w.heap.size + 1) s xp ⟨l, (n, r) :: st, gr⟩ vN (.slice (some ⟨gL, 0, none⟩) (st.length + 1 : Nat) capL) w W → Calls Try.prog 14 #[.pointer (some ⟨w.heap.size + 1, 0, none⟩)] W fun e w' => e = .returned (.tuple #[.agg (woI xk xp xf xt xn xm), .int .i64 0, .int .i64 0]) ∧ RdV w.heap.size (w.heap.size + 1) s xf ⟨l, (n, r) :: st, gr⟩ vN (.slice (some ⟨gL, 0, none⟩) (st.length + 1 : Nat) capL) w w') := Lib.hid hNX
            have HTK : Hid (∀ W, RdV w.heap.size (w.heap.size + 1) s xf ⟨l, (n, r) :: st, gr⟩ vN (.slice (some ⟨gL, 0, none⟩) (st.length + 1 : Nat) capL) w W → Calls Try.prog 15 #[.pointer (some ⟨w.heap.size + 1, 0, none⟩), .agg (woI xk xp xf xt xn xm)] W fun e w' => e = .returned (.int .i64 TE) ∧ (TE = 0 → ∃ vN' vL', RdV w.heap.size (w.heap.size + 1) s xf (takeP ⟨l, (n, r) :: st, gr⟩ ⟨xk, xp, xf, xt, xn, xm⟩) vN' vL' w w') ∧ (TE ≠ 0 → Below W.heap.size W w')) := Lib.hid hTK
            have HRS := Lib.hid hres
            clear hres hbd2 h5 h6 hNX hTK hft htk h3 hvX hcc hpi hbd hfn
            go_wp2_with (go_at_call 12; refine (HI.out _).mono ?_; rintro e w' ⟨rfl, rfl⟩)
            refine (HNX.out _ HR.out).mono ?_
            rintro e w2 ⟨rfl, hr2⟩
            clear HNX HR HB
            go_upto_region 6 with fail
            have HW := Lib.hid (Blk.new w2 (woI xk xp xf xt xn xm) 50)
            have HR := Lib.hid (hr2.alloc (.cells (woI xk xp xf xt xn xm) 50))
            clear hr2
            generalize w2.alloc (.cells (woI xk xp xf xt xn xm) 50) = w3 at *
            generalize w2.heap.size = gW at *
            have g0 := HW.out.cell 0; have g1 := HW.out.cell 1; have g2 := HW.out.cell 2; have g3 := HW.out.cell 3; have g4 := HW.out.cell 4; have g5 := HW.out.cell 5; have g6 := HW.out.cell 6; have g7 := HW.out.cell 7; have g8 := HW.out.cell 8
            simp only [List.getElem?_toArray, List.getElem?_cons_zero, List.getElem?_cons_succ] at g0 g1 g2 g3 g4 g5 g6 g7 g8
            go_wp2_with fail
            refine (HTK.out _ HR.out).mono ?_
            rintro e w4 ⟨rfl, _, hb4⟩
            replace hb4 := hb4 HNE.out
            have hw4 := HW.out.below hb4 HW.out.lt
            have HB4 := Lib.hid ((HR.out.below hb4).bel)
            clear HTK HR HW g0 g1 g2 g3 g4 g5 g6 g7 g8 hb4
            have g1 := hw4.cell 1
            simp only [List.getElem?_toArray, List.getElem?_cons_zero, List.getElem?_cons_succ] at g1
            clear hw4
            go_wp2_with fail
            go_quiet (fail)
            go_wp2_with fail
            rw [← HRS.out]
            exact bodyPost_ret (v := .tuple #[.pointer none, .int .i64 TE, .int .i64 ((xp : Int) + 1)]) (by simp [results, Try.results9, go_sem] <;> rfl) rfl (.inl ⟨HNE.out, rfl, below_drN HB4.out _⟩)
        · simp only at h1
          have hft := first_err s a ⟨l, (n, r) :: st, gr⟩ n r st _ er pl rfl hvX h1 hcc
          rw [readM_err s k a _ _ er pl hlt hft hvX h1] at hres
          have hNX := fun W (h : RdV w.heap.size (w.heap.size + 1) s a ⟨l, (n, r) :: st, gr⟩ vN (.slice (some ⟨gL, 0, none⟩) (st.length + 1 : Nat) capL) w W) => pnext_calls hs xk xp xf xt xn xm er pl (by rw [← (next_in s a hlt).1]; exact hvX) W h
          simp only [if_neg h1] at hNX
          have HNX : Hid (∀ W, RdV w.heap.size (w.heap.size + 1) s a ⟨l, (n, r) :: st, gr⟩ vN (.slice (some ⟨gL, 0, none⟩) (st.length + 1 : Nat) capL) w W → Calls Try.prog 14 #[.pointer (some ⟨w.heap.size + 1, 0, none⟩)] W fun e w' => e = .returned (.tuple #[.agg (woI xk xp xf xt xn xm), .int .i64 er, .int .i64 pl]) ∧ RdV w.heap.size (w.heap.size + 1) s a ⟨l, (n, r) :: st, gr⟩ vN (.slice (some ⟨gL, 0, none⟩) (st.length + 1 : Nat) capL) w w') := Lib.hid hNX
          have qe : ((er : Int) != 0) = true := by rw [bne_iff_ne]; omega
          have HNE := Lib.hid h1
          have HRS := Lib.hid hres
          clear hres hNX hft h1 hvX hcc hpi hbd
          go_wp2_with (go_at_call 12; refine (HI.out _).mono ?_; rintro e w' ⟨rfl, rfl⟩)
          refine (HNX.out _ HR.out).mono ?_
          rintro e w2 ⟨rfl, hr2⟩
          clear HNX HR HB
          have HB2 := Lib.hid hr2.bel
          have hsz := hr2.size
          clear hr2
          go_wp2_with fail
          rw [← HRS.out]
          exact bodyPost_ret (v := .tuple #[.pointer none, .int .i64 er, .int .i64 pl]) (by simp [results, Try.results9, go_sem] <;> rfl) rfl (.inl ⟨HNE.out, rfl, HB2.out.alloc hsz _⟩)
    · obtain rfl : a = s.size := by omega
      rw [readM_end] at hres
      subst hres
      have HR := Lib.hid hr
      have HF := Lib.hid (show _ ∧ _ from ⟨hpi.1, hbd⟩)
      clear hpi hbd hr
      go_wp2_with fail
      exact bodyPost_ret (v := .tuple #[.pointer (some ⟨w.heap.size + 1, 0, none⟩), .int .i64 0, .int .i64 0]) (by simp [results, Try.results9, go_sem] <;> rfl) rfl (.inr ⟨rfl, _, _, _, _, rfl, HR.out, HF.out.2, HF.out.1⟩)
end Go.Proofs.Ythodphgbdmnpoaa

/- The developers' parse: Parse, Open. Stage 7. -/
namespace Go.Proofs.Ythodphgbdmnpoaa
open Go.RowKit BS

set_option maxRecDepth 100000 in
set_option maxHeartbeats 8000000 in
theorem parse_dev (s : ByteArray) (hs : s.size ≤ 1000000) (w : World) :
    Calls Try.prog 6 #[.string s] w fun e w' => ∃ v, e = .returned (.tuple #[v, .int .i64 (parseN s).2.2.1, .int .i64 (parseN s).2.2.2]) ∧
      w'.ownsRow w.heap.size 32 8 v (parseN s).1.l.length (ndCells (parseN s).1.l) ∧ Below w.heap.size w w' := by
  have hP : parseN s = finM s (readM s (s.size + 1) 0 sPS) := readP_D s _ _ _
  rw [hP]
  clear hP
  have hRd := pread_calls s hs w
  generalize readM s (s.size + 1) 0 sPS = RES at *
  obtain ⟨y, er, pl⟩ := RES
  have HRd := Lib.hid hRd
  clear hRd
  by_cases he : er = 0
  · subst he
    obtain ⟨l, st, gr⟩ := y
    obtain _ | ⟨⟨n, r⟩, st⟩ := st
    · go_enter Try.func6, Try.ntmps6
      go_wp2_with fail
      refine HRd.out.mono ?_
      rintro e w2 (⟨h1, _⟩ | ⟨_, R, a, vN, vL, _, _, _, h3⟩)
      · exact absurd rfl h1
      · exact absurd rfl h3
    by_cases h0 : st = []
    · subst h0
      have hf : finM s (⟨l, [(n, r)], gr⟩, 0, pl) = (⟨l ++ rowT n ++ rowsT (r + 1), [], gr⟩, 0, 0, 0) := by
        unfold finM
        rw [if_neg (show ¬ (0 : Nat) ≠ 0 by decide), if_neg (show ¬ 1 < ([(n, r)] : List (Nat × Nat)).length by simp)]
        rfl
      rw [hf]
      clear hf
      go_enter Try.func6, Try.ntmps6
      go_wp2_with fail
      refine HRd.out.mono ?_
      rintro e w2 (⟨h1, _⟩ | ⟨_, R, a, vN, vL, rfl, hr, hbd, _⟩)
      · exact absurd rfl h1
      clear HRd
      obtain ⟨b1, b2, b3⟩ := hbd
      have b4 := b3 (n, r) (List.mem_cons_self ..)
      simp only at b1 b4
      obtain ⟨gL, capL, rfl, _⟩ := hr.top rfl
      have HO := Lib.hid (popen_calls R 0 (some ⟨gL, 0, none⟩) capL w2 hr.c.2.2.2.1 (by omega))
      have HE := Lib.hid (pendRows_calls w2 hr (by omega) (by simp) (by omega) (by omega))
      clear hr b1 b2 b3 b4
      go_wp2_with fail
      refine HO.out.mono ?_
      rintro e w3 ⟨rfl, rfl⟩
      clear HO
      go_wp2_with fail
      refine HE.out.mono ?_
      rintro e w3 ⟨rfl, vN', hr⟩
      clear HE
      have c2 := hr.c.2.2.1
      have HF := Lib.hid (And.intro hr.nodes hr.bel)
      clear hr
      go_wp2_with fail
      exact bodyPost_ret (v := .tuple #[vN', .int .i64 0, .int .i64 0]) (by simp [results, Try.results6, go_sem] <;> rfl) rfl ⟨_, rfl, HF.out.1, HF.out.2⟩
    · have hl : 0 < st.length := Nat.pos_of_ne_zero fun h => h0 (List.eq_nil_of_length_eq_zero h)
      have hf : finM s (⟨l, (n, r) :: st, gr⟩, 0, pl) = (zPS, st.length, 2, s.size) := by
        unfold finM
        rw [if_neg (show ¬ (0 : Nat) ≠ 0 by decide), if_pos (show 1 < ((n, r) :: st).length by rw [List.length_cons]; omega)]
        rfl
      rw [hf]
      clear hf
      have q : decide ((0 : Int) < (st.length : Int)) = true := by rw [decide_eq_true_iff]; omega
      go_enter Try.func6, Try.ntmps6
      go_wp2_with fail
      refine HRd.out.mono ?_
      rintro e w2 (⟨h1, _⟩ | ⟨_, R, a, vN, vL, rfl, hr, hbd, _⟩)
      · exact absurd rfl h1
      clear HRd
      have b2 := hbd.2.1
      simp only [List.length_cons] at b2
      obtain ⟨gL, capL, rfl, _⟩ := hr.top rfl
      have HO := Lib.hid (popen_calls R st.length (some ⟨gL, 0, none⟩) capL w2 hr.c.2.2.2.1 (by omega))
      have HB := Lib.hid hr.bel
      clear hr hbd b2
      go_wp2_with fail
      refine HO.out.mono ?_
      rintro e w3 ⟨rfl, rfl⟩
      clear HO
      go_wp2_with fail
      exact bodyPost_ret (v := .tuple #[.slice none 0 0, .int .i64 2, .int .i64 s.size]) (by simp [results, Try.results6, go_sem] <;> rfl) rfl ⟨_, rfl, World.ownsRow_nil _ _ _ _, HB.out⟩
  · have hf : finM s (y, er, pl) = (zPS, 0, er, pl) := by unfold finM; rw [if_pos he]
    rw [hf]
    clear hf
    have qe : ((er : Int) != 0) = true := by rw [bne_iff_ne]; omega
    have HNE := Lib.hid he
    clear he
    go_enter Try.func6, Try.ntmps6
    go_wp2_with fail
    refine HRd.out.mono ?_
    rintro e w2 (⟨_, rfl, hb⟩ | ⟨h1, _⟩)
    · go_wp2_with fail
      exact bodyPost_ret (v := .tuple #[.slice none 0 0, .int .i64 er, .int .i64 pl]) (by simp [results, Try.results6, go_sem] <;> rfl) rfl ⟨_, rfl, World.ownsRow_nil _ _ _ _, hb⟩
    · exact absurd h1 HNE.out

set_option maxRecDepth 100000 in
set_option maxHeartbeats 8000000 in
theorem open_dev (s : ByteArray) (hs : s.size ≤ 1000000) (w : World) :
    Calls Try.prog 8 #[.string s] w fun e w' => e = .returned (.int .i64 (parseN s).2.1) ∧ Below w.heap.size w w' := by
  have hP : parseN s = finM s (readM s (s.size + 1) 0 sPS) := readP_D s _ _ _
  rw [hP]
  clear hP
  have hRd := pread_calls s hs w
  generalize readM s (s.size + 1) 0 sPS = RES at *
  obtain ⟨y, er, pl⟩ := RES
  have HRd := Lib.hid hRd
  clear hRd
  by_cases he : er = 0
  · subst he
    obtain ⟨l, st, gr⟩ := y
    obtain _ | ⟨⟨n, r⟩, st⟩ := st
    · go_enter Try.func8, Try.ntmps8
      go_wp2_with fail
      refine HRd.out.mono ?_
      rintro e w2 (⟨h1, _⟩ | ⟨_, R, a, vN, vL, _, _, _, h3⟩)
      · exact absurd rfl h1
      · exact absurd rfl h3
    have hf : (finM s (⟨l, (n, r) :: st, gr⟩, 0, pl)).2.1 = st.length := by
      unfold finM
      rw [if_neg (show ¬ (0 : Nat) ≠ 0 by decide)]
      by_cases h1 : 1 < ((n, r) :: st).length
      · rw [if_pos h1]; rfl
      · rw [if_neg h1]
        rw [List.length_cons] at h1
        show 0 = st.length
        omega
    rw [hf]
    clear hf
    go_enter Try.func8, Try.ntmps8
    go_wp2_with fail
    refine HRd.out.mono ?_
    rintro e w2 (⟨h1, _⟩ | ⟨_, R, a, vN, vL, rfl, hr, hbd, _⟩)
    · exact absurd rfl h1
    clear HRd
    have b2 := hbd.2.1
    simp only [List.length_cons] at b2
    obtain ⟨gL, capL, rfl, _⟩ := hr.top rfl
    have HO := Lib.hid (popen_calls R st.length (some ⟨gL, 0, none⟩) capL w2 hr.c.2.2.2.1 (by omega))
    have HB := Lib.hid hr.bel
    clear hr hbd b2
    go_wp2_with fail
    refine HO.out.mono ?_
    rintro e w3 ⟨rfl, rfl⟩
    clear HO
    go_wp2_with fail
    go_ret
    exact ⟨rfl, HB.out⟩
  · have hf : finM s (y, er, pl) = (zPS, 0, er, pl) := by unfold finM; rw [if_pos he]
    rw [hf]
    clear hf
    have qe : ((er : Int) != 0) = true := by rw [bne_iff_ne]; omega
    have HNE := Lib.hid he
    clear he
    go_enter Try.func8, Try.ntmps8
    go_wp2_with fail
    refine HRd.out.mono ?_
    rintro e w2 (⟨_, rfl, hb⟩ | ⟨h1, _⟩)
    · go_wp2_with fail
      go_ret
      exact ⟨rfl, hb⟩
    · exact absurd h1 HNE.out
end Go.Proofs.Ythodphgbdmnpoaa

/- The laws of stage 7: are two trees the same (they are). -/
namespace Go.Proofs.Ythodphgbdmnpoaa
open Go.RowKit BS

/-- append under a guard that says yes. -/
theorem wpList_append_want {P : Program} (w : World) {ops : Array Oper} {rest : List Oper} {o : Oper} {a : Act} {Q : Exit → Act → World → Prop} (hgd : Region.wanted o (yielded ops a.tmps) = true) (s x : Operand) (t : TypeId)
    (ho : o.op = .call { callee := .builtin .append, args := #[s, x], argTypes := #[t, t] })
    (base : Nat) (e : TypeId) (i : TypeInfo) (z : Value) (size bytes : Nat) (ht : P.underlying t = some (.slice e)) (hi : P.info? e = some i) (hz : i.zero = some z)
    (hsize : i.size = size) (hby : i.bytes = bytes) (hzs : z.cells.size = size) (hsz : 0 < size)
    (v : Value) (n : Nat) (xs : List Value) (hs : a.eval s = v) (hown : w.ownsRow base e size v n xs)
    (ad : Addr) (m c : Nat) (news : List Value) (hx : a.eval x = .slice (some ad) m c) (hl : news.length = m * size) (hnews : ∀ j u, news[j]? = some u → w.cell? (ad.add j) = some u) (h1 : ∀ u ∈ news, u.oneCell' = true)
    (h63 : n + m ≤ maxLen) (hbytes : (n + m) * bytes ≤ 140737488355328) (hbase : base ≤ w.heap.size)
    (h : ∀ v' w', w'.ownsRow base e size v' (n + m) (xs ++ news) → w.grownBy w' v.ownBlock → (v' = .slice none 0 0 ↔ v = .slice none 0 0 ∧ m = 0) → wpList P ops Q rest (a.put o.dst v') w') : wpList P ops Q (o :: rest) a w :=
  BigFrame.wpList_want hgd fun _ hK => wp_append_own w s x t ho base e i z size bytes ht hi hz hsize hby hzs hsz v n xs hs hown ad m c news hx hl hnews h1 h63 hbytes hbase fun v' w' h2 h3 h4 => hK _ _ (h v' w' h2 h3 h4)
set_option maxRecDepth 100000 in
set_option maxHeartbeats 2000000 in
theorem eqNode_same (k c n m : Int) (t : BitVec 256) (w : World) :
    (Op.equalIn 10000 32 (.agg #[.int .i64 k, .int .i64 c, .int .i64 n, .int .i64 m, .int .u64 (wd t 0), .int .u64 (wd t 1), .int .u64 (wd t 2), .int .u64 (wd t 3)]) (.agg #[.int .i64 k, .int .i64 c, .int .i64 n, .int .i64 m, .int .u64 (wd t 0), .int .u64 (wd t 1), .int .u64 (wd t 2), .int .u64 (wd t 3)])).run Try.prog w = .ok true w := by
  have hs : ∀ w, (Op.equalIn 9999 30 (.agg #[.int .u64 (wd t 0), .int .u64 (wd t 1), .int .u64 (wd t 2), .int .u64 (wd t 3)]) (.agg #[.int .u64 (wd t 0), .int .u64 (wd t 1), .int .u64 (wd t 2), .int .u64 (wd t 3)])).run Try.prog w = .ok true w := fun w => by
    have h := eqArr (k := .u64) Try.underlying30 Try.underlying28 size64 agg64 9997 [(wd t 0 : Int), wd t 1, wd t 2, wd t 3] [(wd t 0 : Int), wd t 1, wd t 2, wd t 3] rfl rfl w
    refine Eq.trans h ?_
    simp
  go_simp
set_option maxRecDepth 100000 in
set_option maxHeartbeats 8000000 in
theorem sameN_calls (l : List NdN) (hl : l.length ≤ 9000000) (a b : Option Addr) (ca cb : Nat) (w : World) (ha : NodesAt l a w) (hb : NodesAt l b w) :
    Calls Try.prog 7 #[.slice a l.length ca, .slice b l.length cb] w fun e w' => e = .returned (.bool true) ∧ Below w.heap.size w w' := by
  have HA := Lib.hid ha
  have HB := Lib.hid hb
  clear ha hb
  go_enter Try.func7, Try.ntmps7
  go_wp2_with fail
  go_loopw [5] (fun v wr => ∃ i : Nat, i ≤ l.length ∧ v = .int .i64 i ∧ Below w.heap.size w wr) (fun v _ => l.length - (intOf v).toNat)
  case atStart => exact ⟨0, Nat.zero_le _, rfl, Below.refl _ _⟩
  case round =>
    obtain ⟨i, hi, rfl, hW⟩ := hrel
    by_cases hlt : i < l.length
    · obtain ⟨g, off, rfl, hg, hc⟩ := HA.out.below hW (by rintro rfl; simp at hlt)
      obtain ⟨g2, off2, rfl, hg2, hc2⟩ := HB.out.below hW (by rintro rfl; simp at hlt)
      have c0 := hc i hlt 0 (by decide); have c1 := hc i hlt 1 (by decide); have c2 := hc i hlt 2 (by decide); have c3 := hc i hlt 3 (by decide); have c4 := hc i hlt 4 (by decide); have c5 := hc i hlt 5 (by decide); have c6 := hc i hlt 6 (by decide); have c7 := hc i hlt 7 (by decide)
      have d0 := hc2 i hlt 0 (by decide); have d1 := hc2 i hlt 1 (by decide); have d2 := hc2 i hlt 2 (by decide); have d3 := hc2 i hlt 3 (by decide); have d4 := hc2 i hlt 4 (by decide); have d5 := hc2 i hlt 5 (by decide); have d6 := hc2 i hlt 6 (by decide); have d7 := hc2 i hlt 7 (by decide)
      generalize l[i] = x at *
      obtain ⟨k, c, n, m, t⟩ := x
      simp only [ndA, List.getElem?_toArray, List.getElem?_cons_zero, List.getElem?_cons_succ, Nat.add_zero] at c0 c1 c2 c3 c4 c5 c6 c7 d0 d1 d2 d3 d4 d5 d6 d7
      have q0 : (0 : Int) ≤ (i : Int) := by omega
      have q1 : (i : Int) < (l.length : Int) := by omega
      have he := eqNode_same k c n m t
      have HWW := Lib.hid hW
      clear hc hc2 hW hg hg2
      go_wp2_with fail
      go_quiet (fail)
      go_wp2_with fail
      go_roundw
      case rel => exact ⟨i + 1, by omega, by simp, below_drN HWW.out _⟩
      case measure => simp [intOf]; omega
    · obtain rfl : i = l.length := by omega
      go_wp2_with fail
      go_ret
      exact ⟨rfl, hW⟩
end Go.Proofs.Ythodphgbdmnpoaa

/- Brackets, and words, moved: what stands ahead changes nothing but the places. Stage 7. -/
namespace Go.Proofs.Ythodphgbdmnpoaa
open Go.RowKit BS

theorem ext_off (p s : ByteArray) (i j : Nat) : (p ++ s).extract (p.size + i) (p.size + j) = s.extract i j := by
  apply ByteArray.ext
  apply Array.toList_inj.1
  rw [ByteArray.data_extract, ByteArray.data_extract, Array.toList_extract, Array.toList_extract]
  have e : (p ++ s).data.toList = p.data.toList ++ s.data.toList := by simp
  have hl : p.data.toList.length = p.size := by simp
  rw [e, List.extract_eq_take_drop, List.extract_eq_take_drop, List.drop_append, hl, List.drop_of_length_le (by omega), List.nil_append, show p.size + i - p.size = i by omega, show p.size + j - (p.size + i) = j - i by omega]
def shB (d : Nat) (r : BR) : BR := if r.err = 0 then ⟨r.set, d + r.pos, 0, r.place, r.fin, r.neg⟩ else badR r.err (d + r.place)
theorem shB_bad (d e q : Nat) (he : e ≠ 0) : shB d (badR e q) = badR e (d + q) := by unfold shB badR; rw [if_neg he]
theorem shB_ok (d : Nat) (t : BitVec 256) (q pl : Nat) (fi ne : Bool) : shB d ⟨t, q, 0, pl, fi, ne⟩ = ⟨t, d + q, 0, pl, fi, ne⟩ := rfl
theorem size_off (p s : ByteArray) : (p ++ s).size = p.size + s.size := ByteArray.size_append
theorem nameR_shift (p s : ByteArray) (fr : Nat) (x : BR) (hx : x.err = 0) : ∀ n j, nameR (p ++ s) (p.size + fr) (shB p.size x) n (p.size + j) = shB p.size (nameR s fr x n j)
  | 0, j => by
    rw [nameR, nameR, shB_bad _ _ _ (by decide), size_off]
  | n + 1, j => by
    obtain ⟨t, q, e, pl, fi, ne⟩ := x
    simp only at hx
    subst hx
    have ih := nameR_shift p s fr ⟨t, q, 0, pl, fi, ne⟩ rfl n (j + 1)
    rw [shB_ok] at ih ⊢
    have eb := bt_off p s j
    have eb1 := bt_off p s (j + 1)
    have ee := ext_off p s fr j
    have ee1 := ext_off p s fr (j + 1)
    rw [show p.size + (j + 1) = p.size + j + 1 by omega] at eb1 ee1 ih
    have hsz := size_off p s
    rw [nameR, nameR, eb, ee, eb1, ee1]
    by_cases c1 : bt s j = 58
    · rw [if_pos c1, if_pos c1]
      by_cases c2 : ofB (s.extract fr j).toList = false
      · rw [if_pos c2, if_pos c2, shB_bad _ _ _ (by decide)]; rfl
      rw [if_neg c2, if_neg c2]
      by_cases c3 : s.size ≤ j + 1
      · rw [if_pos c3, if_pos (by omega), shB_bad _ _ _ (by decide), hsz]
      rw [if_neg c3, if_neg (by omega)]
      by_cases c4 : bt s (j + 1) ≠ 93
      · rw [if_pos c4, if_pos c4, shB_bad _ _ _ (by decide)]; rfl
      · rw [if_neg c4, if_neg c4, shB_ok]; rfl
    rw [if_neg c1, if_neg c1]
    by_cases c2 : begB (s.extract fr (j + 1)) = false
    · rw [if_pos c2, if_pos c2, shB_bad _ _ _ (by decide)]; rfl
    · rw [if_neg c2, if_neg c2]; exact ih
theorem addR_shift (d : Nat) (t : BitVec 256) (q pl lo hi r : Nat) (fi ne : Bool) : addR ⟨t, d + q, 0, pl, fi, ne⟩ lo hi (d + r) = shB d (addR ⟨t, q, 0, pl, fi, ne⟩ lo hi r) := rfl
theorem thingR_shift (p s : ByteArray) (x : BR) (first : Bool) (hx : x.err = 0) : thingR (p ++ s) (shB p.size x) first = shB p.size (thingR s x first) := by
  obtain ⟨t, i, e, pl, fi, ne⟩ := x
  simp only at hx
  subst hx
  have hN := nameR_shift p s (i + 2) ⟨t, i, 0, pl, fi, ne⟩ rfl (s.size - (i + 2)) (i + 2)
  rw [shB_ok] at hN ⊢
  have hsz := size_off p s
  have e0 := bt_off p s i
  have e1 := bt_off p s (i + 1)
  have e2 := bt_off p s (i + 2)
  have e3 := bt_off p s (i + 3)
  rw [show p.size + (i + 1) = p.size + i + 1 by omega] at e1
  rw [show p.size + (i + 2) = p.size + i + 2 by omega] at e2 hN
  rw [show p.size + (i + 3) = p.size + i + 3 by omega] at e3
  unfold thingR
  simp only
  rw [e0, e1, e2, e3, hsz, show p.size + s.size - (p.size + i + 2) = s.size - (i + 2) by omega, hN]
  by_cases c1 : s.size ≤ i
  · rw [if_pos c1, if_pos (by omega), shB_bad _ _ _ (by decide)]
  rw [if_neg c1, if_neg (by omega)]
  by_cases c2 : bt s i = 93 ∧ first = false
  · rw [if_pos c2, if_pos c2, shB_ok]; rfl
  rw [if_neg c2, if_neg c2]
  by_cases c3 : s.size ≤ i + 1
  · rw [if_pos c3, if_pos (by omega), shB_bad _ _ _ (by decide)]
  rw [if_neg c3, if_neg (by omega)]
  by_cases c4 : bt s i = 91 ∧ bt s (i + 1) = 58
  · rw [if_pos c4, if_pos c4]
  rw [if_neg c4, if_neg c4]
  by_cases c5 : bt s i = 91 ∧ spec3 (bt s (i + 1)) = true
  · rw [if_pos c5, if_pos c5, shB_bad _ _ _ (by decide)]; rfl
  rw [if_neg c5, if_neg c5]
  by_cases c6 : bt s (i + 1) ≠ 45
  · rw [if_pos c6, if_pos c6]; exact addR_shift p.size t i pl _ _ (i + 1) fi ne
  rw [if_neg c6, if_neg c6]
  by_cases c7 : s.size ≤ i + 2
  · rw [if_pos c7, if_pos (by omega), shB_bad _ _ _ (by decide)]
  rw [if_neg c7, if_neg (by omega)]
  by_cases c8 : bt s (i + 2) = 93
  · rw [if_pos c8, if_pos c8]; exact addR_shift p.size t i pl _ _ (i + 1) fi ne
  rw [if_neg c8, if_neg c8]
  by_cases c9 : bt s (i + 2) < bt s i
  · rw [if_pos c9, if_pos c9, shB_bad _ _ _ (by decide)]; rfl
  rw [if_neg c9, if_neg c9]
  by_cases c10 : bt s (i + 2) = 91 ∧ s.size ≤ i + 3
  · rw [if_pos c10, if_pos ⟨c10.1, by omega⟩, shB_bad _ _ _ (by decide)]
  rw [if_neg c10, if_neg (fun h => c10 ⟨h.1, by omega⟩)]
  by_cases c11 : bt s (i + 2) = 91 ∧ spec3 (bt s (i + 3)) = true
  · rw [if_pos c11, if_pos c11, shB_bad _ _ _ (by decide)]; rfl
  · rw [if_neg c11, if_neg c11]; exact addR_shift p.size t i pl _ _ (i + 3) fi ne
theorem shB_err (d : Nat) (r : BR) : (shB d r).err = r.err := by
  unfold shB
  by_cases h : r.err = 0
  · rw [if_pos h, h]
  · rw [if_neg h]; rfl
theorem loopR_shift (p s : ByteArray) : ∀ n x first, x.err = 0 → loopR (p ++ s) n (shB p.size x) first = shB p.size (loopR s n x first)
  | 0, x, first, hx => rfl
  | n + 1, x, first, hx => by
    have hf : (shB p.size x).fin = x.fin := by unfold shB; rw [if_pos hx]
    rw [loopR, loopR, hf, thingR_shift p s x first hx, shB_err]
    by_cases c1 : x.fin = true
    · rw [if_pos c1, if_pos c1]
    rw [if_neg c1, if_neg c1]
    by_cases c2 : (thingR s x first).err ≠ 0
    · rw [if_pos c2, if_pos c2]
    · rw [if_neg c2, if_neg c2]
      exact loopR_shift p s n (thingR s x first) false (Decidable.not_not.1 c2)
def shT (d : Nat) (r : BitVec 256 × Nat × Nat × Nat) : BitVec 256 × Nat × Nat × Nat := if r.2.2.1 = 0 then (r.1, d + r.2.1, 0, 0) else (0, 0, r.2.2.1, d + r.2.2.2)
theorem finR_shift (d : Nat) (r : BR) : finR (shB d r) = shT d (finR r) := by
  unfold finR shT
  by_cases h : r.err = 0
  · simp [shB, h]
  · simp [shB, h, badR]
theorem startR_shift (p s : ByteArray) (a : Nat) : startR (p ++ s) (p.size + a) = shB p.size (startR s a) := by
  have e1 := bt_off p s (a + 1)
  rw [show p.size + (a + 1) = p.size + a + 1 by omega] at e1
  unfold startR
  rw [e1, size_off]
  by_cases h : a + 1 < s.size ∧ bt s (a + 1) = 94
  · rw [if_pos h, if_pos ⟨by omega, h.2⟩]; rfl
  · rw [if_neg h, if_neg (fun g => h ⟨by omega, g.2⟩)]; rfl
theorem readR_shift (p s : ByteArray) (a : Nat) (ha : a < s.size) (hb : bt s a = 91) : readR (p ++ s) ((p.size + a : Nat) : Int) = shT p.size (readR s a) := by
  have e0 := bt_off p s a
  have hsz := size_off p s
  have hst : (startR s a).err = 0 ∧ (startR s a).pos ≤ s.size ∧ a < (startR s a).pos := by
    unfold startR
    by_cases h : a + 1 < s.size ∧ bt s (a + 1) = 94
    · rw [if_pos h]; exact ⟨rfl, by show a + 2 ≤ _; omega, by show a < a + 2; omega⟩
    · rw [if_neg h]; exact ⟨rfl, by show a + 1 ≤ _; omega, by show a < a + 1; omega⟩
  have g1 : ¬ ((p.size + a : Nat) : Int) < 0 := by omega
  have g2 : ¬ ((a : Nat) : Int) < 0 := by omega
  have g3 : ¬ ((p ++ s).size ≤ ((p.size + a : Nat) : Int).toNat ∨ bt (p ++ s) ((p.size + a : Nat) : Int).toNat ≠ 91) := by
    rw [show ((p.size + a : Nat) : Int).toNat = p.size + a from rfl, e0, hsz]; omega
  have g4 : ¬ (s.size ≤ ((a : Nat) : Int).toNat ∨ bt s ((a : Nat) : Int).toNat ≠ 91) := by
    rw [show ((a : Nat) : Int).toNat = a from rfl]; omega
  unfold readR
  rw [if_neg g1, if_neg g2, if_neg g3, if_neg g4, show ((p.size + a : Nat) : Int).toNat = p.size + a from rfl, show ((a : Nat) : Int).toNat = a from rfl, hsz, startR_shift, loopR_shift p s _ _ true hst.1, finR_shift]
  rw [← loopR_fuel s (s.size + 1) (p.size + s.size + 1) (startR s a) true (by omega) (.inl hst.2.1) (by omega) (by omega)]
/-- A word, moved. -/
def shW (d : Nat) (X : WN × Nat × Nat) : WN × Nat × Nat := if X.2.1 = 0 then (⟨X.1.kind, d + X.1.pos, d + X.1.fin, X.1.set, X.1.n, X.1.m⟩, 0, 0) else (zWN, X.2.1, d + X.2.2)
theorem nextA_shift (p s : ByteArray) (a : Nat) (ha : a < s.size) : nextA (p ++ s) (p.size + a) = shW p.size (nextA s a) := by
  have e0 := bt_off p s a
  have e1 := bt_off p s (a + 1)
  rw [show p.size + (a + 1) = p.size + a + 1 by omega] at e1
  have hsz := size_off p s
  have hE := nextA_end s a ha
  unfold nextA at hE ⊢
  rw [e0]
  by_cases c1 : bt s a = 40
  · rw [if_pos c1, if_pos c1]; rfl
  rw [if_neg c1] at hE ⊢
  rw [if_neg c1]
  by_cases c2 : bt s a = 41
  · rw [if_pos c2, if_pos c2]; rfl
  rw [if_neg c2] at hE ⊢
  rw [if_neg c2]
  by_cases c3 : bt s a = 124
  · rw [if_pos c3, if_pos c3]; rfl
  rw [if_neg c3] at hE ⊢
  rw [if_neg c3]
  by_cases c4 : bt s a = 42 ∨ bt s a = 43 ∨ bt s a = 63 ∨ bt s a = 123
  · rw [if_pos c4] at hE ⊢
    rw [if_pos c4]
    have he : (cntW s a).2.1 = (readN s a).2.2.2.1 := by
      unfold cntW
      generalize readN s a = R
      obtain ⟨n, m, q, e, k⟩ := R
      simp only
      by_cases he : e = 0
      · subst he; simp
      · simp [he]
    have hne : (readN s a).2.2.2.1 ≠ 1 := by
      rw [← he]
      rcases hE with ⟨g, _⟩ | ⟨_, g, _⟩
      · rw [g]; decide
      · exact g
    have hR := readN_shift p s a ha hne
    unfold cntW
    rw [hR]
    generalize readN s a = R
    obtain ⟨n, m, q, e, k⟩ := R
    unfold shN
    simp only
    by_cases he0 : e = 0
    · subst he0
      simp [shW, Nat.add_comm]
    · simp [he0, shW, Nat.add_comm]
  rw [if_neg c4] at hE ⊢
  rw [if_neg c4]
  by_cases c5 : bt s a = 91
  · rw [if_pos c5, if_pos c5]
    unfold brkW
    rw [readR_shift p s a ha c5]
    generalize readR s a = R
    obtain ⟨t, q, e, k⟩ := R
    unfold shT
    simp only
    by_cases he0 : e = 0
    · subst he0
      simp [shW, oneW]
    · simp [he0, shW]
  rw [if_neg c5] at hE ⊢
  rw [if_neg c5]
  by_cases c6 : bt s a = 46
  · rw [if_pos c6, if_pos c6]; rfl
  rw [if_neg c6] at hE ⊢
  rw [if_neg c6]
  by_cases c7 : bt s a = 94 ∨ bt s a = 36
  · rw [if_pos c7, if_pos c7]; rfl
  rw [if_neg c7] at hE ⊢
  rw [if_neg c7]
  by_cases c8 : bt s a = 92
  · rw [if_pos c8, if_pos c8]
    unfold slashW
    rw [hsz, e1]
    by_cases c9 : s.size ≤ a + 1
    · rw [if_pos c9, if_pos (by omega)]; rfl
    rw [if_neg c9, if_neg (by omega)]
    by_cases c10 : four14 (bt s (a + 1)) = false
    · rw [if_pos c10, if_pos c10]; rfl
    · rw [if_neg c10, if_neg c10]; rfl
  · rw [if_neg c8, if_neg c8]; rfl
end Go.Proofs.Ythodphgbdmnpoaa

/- A pattern within a pattern: in parentheses, beside a bar. Stage 7. -/
namespace Go.Proofs.Ythodphgbdmnpoaa
open Go.RowKit BS

theorem readP_fuel (s : ByteArray) : ∀ k k' a x, a ≤ s.size → s.size < k + a → s.size < k' + a → readP s k a x = readP s k' a x
  | 0, _, a, x, h, h1, _ => by omega
  | k + 1, 0, a, x, h, _, h2 => by omega
  | k + 1, k' + 1, a, x, h, h1, h2 => by
    rw [readP, readP]
    by_cases hend : s.size ≤ a
    · rw [if_pos hend, if_pos hend]
    rw [if_neg hend, if_neg hend]
    by_cases hf : firstP x (bt s a) ≠ 0
    · rw [if_pos hf, if_pos hf]
    rw [if_neg hf, if_neg hf]
    have hE := nextA_end s a (by omega)
    generalize nextA s a = X at *
    obtain ⟨w, e, p⟩ := X
    simp only
    rcases hE with ⟨e1, _, _, _, e5, e6⟩ | ⟨e1, _⟩
    · simp only at e1 e5 e6
      rw [if_neg (fun g => g e1), if_neg (fun g => g e1)]
      exact readP_fuel s k k' w.fin (takeP x w) e6 (by omega) (by omega)
    · simp only at e1
      rw [if_pos e1, if_pos e1]
/-- What was read when the text ends; nothing, if something is wrong. -/
def readS (s : ByteArray) : Nat → Nat → PS → Option PS
  | 0, _, _ => none
  | k + 1, a, x =>
    if s.size ≤ a then some x
    else if firstP x (bt s a) ≠ 0 then none
    else match nextA s a with
      | (w, e, _) => if e ≠ 0 then none else readS s k w.fin (takeP x w)
theorem readP_S (s : ByteArray) : ∀ k a x, a ≤ s.size → s.size < k + a → (readP s k a x).2.2.1 = 0 → ∃ y, readS s k a x = some y ∧ ¬ 1 < y.st.length ∧ readP s k a x = (rowsP y, 0, 0, 0)
  | 0, a, x, h, h1, _ => by omega
  | k + 1, a, x, h, h1, h0 => by
    rw [readP] at h0 ⊢
    rw [readS]
    by_cases hend : s.size ≤ a
    · rw [if_pos hend] at h0 ⊢
      rw [if_pos hend]
      by_cases hop : 1 < x.st.length
      · rw [if_pos hop] at h0; cases h0
      · rw [if_neg hop]
        exact ⟨x, rfl, hop, rfl⟩
    rw [if_neg hend] at h0 ⊢
    rw [if_neg hend]
    by_cases hf : firstP x (bt s a) ≠ 0
    · rw [if_pos hf] at h0; exact absurd h0 hf
    rw [if_neg hf] at h0 ⊢
    rw [if_neg hf]
    have hE := nextA_end s a (by omega)
    generalize nextA s a = X at *
    obtain ⟨w, e, p⟩ := X
    simp only at h0 ⊢
    rcases hE with ⟨e1, _, _, _, e5, e6⟩ | ⟨e1, _⟩
    · simp only at e1 e5 e6
      rw [if_neg (fun g => g e1)] at h0 ⊢
      rw [if_neg (fun g => g e1)]
      exact readP_S s k w.fin (takeP x w) e6 (by omega) h0
    · simp only at e1
      rw [if_pos e1] at h0
      exact absurd h0 e1

/-! ### Within another one -/
def embS (r0 : Nat) (st0 : List (Nat × Nat)) : List (Nat × Nat) → List (Nat × Nat)
  | [] => []
  | [(n, r)] => (n, r0 + r) :: st0
  | t :: u :: st => t :: embS r0 st0 (u :: st)
theorem embS_ne (r0 : Nat) (st0 : List (Nat × Nat)) (st : List (Nat × Nat)) (h : st ≠ []) : embS r0 st0 st ≠ [] := by
  obtain _ | ⟨t, _ | ⟨u, st⟩⟩ := st
  · exact absurd rfl h
  · simp [embS]
  · simp [embS]
theorem embS_bump (r0 : Nat) (st0 : List (Nat × Nat)) (st : List (Nat × Nat)) (h : st ≠ []) : bumpP (embS r0 st0 st) = embS r0 st0 (bumpP st) := by
  obtain _ | ⟨⟨n, r⟩, _ | ⟨u, st⟩⟩ := st
  · exact absurd rfl h
  · rfl
  · rfl
def emb (L0 : List NdN) (r0 : Nat) (st0 : List (Nat × Nat)) (g0 : Nat) (x : PS) : PS := ⟨L0 ++ x.l, embS r0 st0 x.st, g0 + x.groups⟩
theorem emb_first (L0 : List NdN) (r0 : Nat) (st0 : List (Nat × Nat)) (g0 : Nat) (x : PS) (b : Nat) (hne : x.st ≠ []) (h : firstP x b = 0) (hg : b = 40 → g0 + x.groups < 9) : firstP (emb L0 r0 st0 g0 x) b = 0 := by
  obtain ⟨l, st, gr⟩ := x
  have key : ∀ n r st' (st2 : List (Nat × Nat)), firstP ⟨l, (n, r) :: st', gr⟩ b = 0 → (st' ≠ [] → st2 ≠ []) → ∀ r2, (b = 41 → st' ≠ []) → firstP ⟨L0 ++ l, (n, r2) :: st2, g0 + gr⟩ b = 0 := fun n r st' st2 h hs r2 h41 => by
    unfold firstP at h ⊢
    simp only at h ⊢
    by_cases c1 : b = 42 ∨ b = 43 ∨ b = 63 ∨ b = 123
    · rw [if_pos c1] at h ⊢; exact h
    rw [if_neg c1] at h ⊢
    by_cases c2 : b = 41
    · rw [if_pos c2, if_neg (hs (h41 c2))]
    rw [if_neg c2] at h ⊢
    by_cases c3 : b = 40
    · rw [if_pos c3, if_neg (by have := hg c3; simp only at this; omega)]
    · rw [if_neg c3]
  obtain _ | ⟨⟨n, r⟩, _ | ⟨u, st⟩⟩ := st
  · exact absurd rfl hne
  · have h41 : b ≠ 41 := fun hb => by
      unfold firstP at h
      simp only at h
      rw [if_neg (by omega), if_pos hb, if_pos trivial] at h
      cases h
    exact key n r [] st0 h (fun g => absurd rfl g) _ (fun hb => absurd hb h41)
  · exact key n r (u :: st) (embS r0 st0 (u :: st)) h (fun _ => embS_ne _ _ _ (by simp)) r (fun _ => by simp)
theorem emb_take (L0 : List NdN) (r0 : Nat) (st0 : List (Nat × Nat)) (g0 : Nat) (x : PS) (w : WN) (hne : x.st ≠ []) (h3 : w.kind = 3 → 1 < x.st.length) : takeP (emb L0 r0 st0 g0 x) w = emb L0 r0 st0 g0 (takeP x w) := by
  obtain ⟨l, st, gr⟩ := x
  unfold takeP
  by_cases c1 : w.kind = 1
  · rw [if_pos c1, if_pos c1]
    simp only [emb, List.append_assoc, embS_bump r0 st0 st hne]
  rw [if_neg c1, if_neg c1]
  by_cases c2 : w.kind = 2
  · rw [if_pos c2, if_pos c2]
    obtain _ | ⟨t, st⟩ := st
    · exact absurd rfl hne
    · simp only [emb, embS, Nat.add_assoc]
  rw [if_neg c2, if_neg c2]
  by_cases c3 : w.kind = 3
  · rw [if_pos c3, if_pos c3]
    obtain _ | ⟨⟨n, r⟩, _ | ⟨u, st⟩⟩ := st
    · exact absurd rfl hne
    · have := h3 c3; simp at this
    · simp only [emb, embS, rowsP, List.append_assoc, embS_bump r0 st0 (u :: st) (by simp)]
  rw [if_neg c3, if_neg c3]
  by_cases c4 : w.kind = 4
  · rw [if_pos c4, if_pos c4]
    obtain _ | ⟨⟨n, r⟩, _ | ⟨u, st⟩⟩ := st
    · exact absurd rfl hne
    · simp only [emb, embS, rowP, List.append_assoc, Nat.add_assoc]
    · simp only [emb, embS, rowP, List.append_assoc]
  rw [if_neg c4, if_neg c4]
  by_cases c5 : w.kind = 5
  · rw [if_pos c5, if_pos c5]
    simp only [emb, List.append_assoc]
  · rw [if_neg c5, if_neg c5]
theorem take_groups (x : PS) (w : WN) : x.groups ≤ (takeP x w).groups ∧ (w.kind = 2 → (takeP x w).groups = x.groups + 1) := by
  obtain ⟨l, st, gr⟩ := x
  unfold takeP
  by_cases c1 : w.kind = 1
  · rw [if_pos c1]; exact ⟨Nat.le_refl _, fun h => by omega⟩
  rw [if_neg c1]
  by_cases c2 : w.kind = 2
  · rw [if_pos c2]; exact ⟨Nat.le_succ _, fun _ => rfl⟩
  rw [if_neg c2]
  refine ⟨?_, fun h => absurd h c2⟩
  by_cases c3 : w.kind = 3
  · rw [if_pos c3]; exact Nat.le_refl _
  rw [if_neg c3]
  by_cases c4 : w.kind = 4
  · rw [if_pos c4]
    obtain _ | ⟨⟨n, r⟩, st⟩ := st <;> exact Nat.le_refl _
  rw [if_neg c4]
  by_cases c5 : w.kind = 5
  · rw [if_pos c5]; exact Nat.le_refl _
  · rw [if_neg c5]; exact Nat.le_refl _
theorem readS_groups (s : ByteArray) : ∀ k a x y, readS s k a x = some y → x.groups ≤ y.groups
  | 0, a, x, y, h => by cases h
  | k + 1, a, x, y, h => by
    rw [readS] at h
    by_cases hend : s.size ≤ a
    · rw [if_pos hend] at h
      rw [Option.some.inj h]; exact Nat.le_refl _
    rw [if_neg hend] at h
    by_cases hf : firstP x (bt s a) ≠ 0
    · rw [if_pos hf] at h; cases h
    rw [if_neg hf] at h
    generalize nextA s a = X at *
    obtain ⟨w, e, p⟩ := X
    simp only at h
    by_cases he : e ≠ 0
    · rw [if_pos he] at h; cases h
    · rw [if_neg he] at h
      exact Nat.le_trans (take_groups x w).1 (readS_groups s k w.fin _ y h)
/-- **A pattern is read within another text as it is read alone.** -/
theorem readP_emb (p s q : ByteArray) (L0 : List NdN) (r0 : Nat) (st0 : List (Nat × Nat)) (g0 : Nat) : ∀ k a x y, a ≤ s.size → PInv x → readS s k a x = some y → g0 + y.groups ≤ 9 →
    ∀ k' k'', (p ++ s ++ q).size < k' + (p.size + a) → (p ++ s ++ q).size < k'' + (p.size + s.size) → readP (p ++ s ++ q) k' (p.size + a) (emb L0 r0 st0 g0 x) = readP (p ++ s ++ q) k'' (p.size + s.size) (emb L0 r0 st0 g0 y)
  | 0, a, x, y, _, _, h, _, _, _, _, _ => by cases h
  | k + 1, a, x, y, ha, hi, h, hg, k', k'', hk', hk'' => by
    have hz : (p ++ s ++ q).size = p.size + s.size + q.size := by rw [ByteArray.size_append, ByteArray.size_append]
    rw [readS] at h
    by_cases hend : s.size ≤ a
    · rw [if_pos hend] at h
      obtain rfl := Option.some.inj h
      obtain rfl : a = s.size := by omega
      exact readP_fuel _ _ _ _ _ (by omega) hk' hk''
    rw [if_neg hend] at h
    by_cases hf : firstP x (bt s a) ≠ 0
    · rw [if_pos hf] at h; cases h
    rw [if_neg hf] at h
    have hf0 : firstP x (bt s a) = 0 := Decidable.not_not.1 hf
    have hlt : a < s.size := by omega
    have hE := nextA_end s a hlt
    have hsh := nextA_shift p s a hlt
    have hkd := next_kinds s a
    generalize nextA s a = X at *
    obtain ⟨w, e, pl⟩ := X
    simp only at h
    by_cases he : e ≠ 0
    · rw [if_pos he] at h; cases h
    rw [if_neg he] at h
    rcases hE with ⟨e1, e2, e3, e4, e5, e6⟩ | ⟨e1, _⟩
    · simp only at e1 e2 e3 e4 e5 e6
      subst e1
      subst e2
      obtain ⟨k2, k3, k5⟩ := hkd w rfl
      have hi2 := take_inv s a x w hi hf0 e3 k2 k3 k5
      have hgr := readS_groups s k w.fin _ y h
      have hbt : bt (p ++ s ++ q) (p.size + a) = bt s a := by
        rw [bt_app, if_pos (by rw [ByteArray.size_append]; omega)]
        exact bt_off p s a
      have hx1 : nextA (p ++ s) (p.size + a) = (⟨w.kind, p.size + w.pos, p.size + w.fin, w.set, w.n, w.m⟩, 0, 0) := by
        rw [hsh]; rfl
      have hx2 : nextA (p ++ s ++ q) (p.size + a) = (⟨w.kind, p.size + w.pos, p.size + w.fin, w.set, w.n, w.m⟩, 0, 0) := by
        rw [← hx1]
        refine nextA_agr (p ++ s) (p ++ s ++ q) (p.size + a) (by rw [ByteArray.size_append]; omega) (by rw [hx1]; show (0 : Nat) ≠ 2; decide) ?_
        rw [hx1]
        exact agrApp (p ++ s) q _ (by rw [ByteArray.size_append]; show p.size + w.fin ≤ _; omega)
      have hb40 : bt s a = 40 → w.kind = 2 := fun hb => by
        have hn := hx1
        have hb2 : bt (p ++ s) (p.size + a) = 40 := by rw [bt_off]; exact hb
        unfold nextA at hn
        rw [if_pos hb2] at hn
        have := (Prod.mk.inj hn).1
        exact (congrArg WN.kind this).symm
      have hff : firstP (emb L0 r0 st0 g0 x) (bt s a) = 0 := emb_first L0 r0 st0 g0 x _ hi.1 hf0 (fun hb => by
        have := (take_groups x w).2 (hb40 hb)
        omega)
      obtain ⟨k', rfl⟩ : ∃ m, k' = m + 1 := ⟨k' - 1, by omega⟩
      rw [readP, if_neg (by omega), hbt, if_neg (fun g => g hff), hx2]
      show (if (0 : Nat) ≠ 0 then (zPS, 0, 0, 0) else readP (p ++ s ++ q) k' (p.size + w.fin) (takeP (emb L0 r0 st0 g0 x) ⟨w.kind, p.size + w.pos, p.size + w.fin, w.set, w.n, w.m⟩)) = _
      rw [if_neg (show ¬ (0 : Nat) ≠ 0 by decide)]
      have htk : takeP (emb L0 r0 st0 g0 x) ⟨w.kind, p.size + w.pos, p.size + w.fin, w.set, w.n, w.m⟩ = takeP (emb L0 r0 st0 g0 x) w := rfl
      have h31 : w.kind = 3 → 1 < x.st.length := fun hk3 => by
        have hb := k3 hk3
        obtain ⟨l, st, gr⟩ := x
        obtain _ | ⟨⟨n, r⟩, _ | ⟨u, st⟩⟩ := st
        · exact absurd rfl hi.1
        · unfold firstP at hf0
          simp only at hf0
          rw [if_neg (by omega), if_pos hb, if_pos trivial] at hf0
          cases hf0
        · simp
      rw [htk, emb_take L0 r0 st0 g0 x w hi.1 h31]
      exact readP_emb p s q L0 r0 st0 g0 k w.fin (takeP x w) y e6 hi2 h hg k' k'' (by omega) hk''
    · exact absurd e1 he
end Go.Proofs.Ythodphgbdmnpoaa

/- What ParseJoins wants: in parentheses, and beside a bar. Stage 7. -/
namespace Go.Proofs.Ythodphgbdmnpoaa
open Go.RowKit BS

/-- A pattern that is one: what was read when it ended. -/
theorem parse_ok (s : ByteArray) (h : (parseN s).2.2.1 = 0) : ∃ l n r g, readS s (s.size + 1) 0 sPS = some ⟨l, [(n, r)], g⟩ ∧ parseN s = (⟨l ++ rowT n ++ rowsT (r + 1), [], g⟩, 0, 0, 0) ∧ kc 3 l = g ∧ g ≤ 9 := by
  obtain ⟨y, h1, h2, h3⟩ := readP_S s (s.size + 1) 0 sPS (Nat.zero_le _) (by omega) h
  have hy : PInv y := by
    have key : ∀ k a x, a ≤ s.size → s.size < k + a → PInv x → readS s k a x = some y → PInv y := by
      intro k
      induction k with
      | zero => intro a x _ _ _ h; cases h
      | succ k ih =>
        intro a x ha hk hi h
        rw [readS] at h
        by_cases hend : s.size ≤ a
        · rw [if_pos hend] at h
          rw [← Option.some.inj h]; exact hi
        rw [if_neg hend] at h
        by_cases hf : firstP x (bt s a) ≠ 0
        · rw [if_pos hf] at h; cases h
        rw [if_neg hf] at h
        have hE := nextA_end s a (by omega)
        have hkd := next_kinds s a
        generalize nextA s a = X at *
        obtain ⟨w, e, p⟩ := X
        simp only at h
        rcases hE with ⟨e1, e2, e3, _, e5, e6⟩ | ⟨e1, _⟩
        · simp only at e1 e2 e3 e5 e6
          subst e1
          subst e2
          rw [if_neg (by decide)] at h
          obtain ⟨k2, k3, k5⟩ := hkd w rfl
          exact ih w.fin _ e6 (by omega) (take_inv s a x w hi (Decidable.not_not.1 hf) e3 k2 k3 k5) h
        · simp only at e1
          rw [if_pos e1] at h; cases h
    exact key (s.size + 1) 0 sPS (Nat.zero_le _) (by omega) sPS_inv h1
  obtain ⟨l, st, g⟩ := y
  obtain ⟨hne, _, h4, h5⟩ := hy
  obtain _ | ⟨⟨n, r⟩, _ | ⟨u, st⟩⟩ := st
  · exact absurd rfl hne
  · refine ⟨l, n, r, g, h1, h3, ?_, h5⟩
    simp only [List.length_cons, List.length_nil] at h4
    show g3 l = g
    omega
  · simp at h2
theorem kc_all (l : List NdN) (n r : Nat) : kc 3 (l ++ rowT n ++ rowsT (r + 1)) = kc 3 l := by
  rw [kc_app, kc_app, kc_row 3 (.inr (.inl rfl)), kc_rows 3 (.inr (.inl rfl))]; rfl
/-- **In parentheses a pattern's tree is in a Group.** -/
theorem parse_group (s : ByteArray) (h : (parseN s).2.2.1 = 0) (hg : kc 3 (parseN s).1.l ≤ 8) : (parseN (ofT [40] ++ s ++ ofT [41])).2 = (0, 0, 0) ∧ (parseN (ofT [40] ++ s ++ ofT [41])).1.l = (parseN s).1.l ++ [ndG] := by
  obtain ⟨l, n, r, g, h1, h2, h3, h4⟩ := parse_ok s h
  rw [h2] at hg
  rw [show (((⟨l ++ rowT n ++ rowsT (r + 1), [], g⟩ : PS), (0 : Nat), (0 : Nat), (0 : Nat)).1.l) = l ++ rowT n ++ rowsT (r + 1) from rfl, kc_all, h3] at hg
  have hp : (ofT [40]).size = 1 := rfl
  have hq : (ofT [41]).size = 1 := rfl
  have hz : (ofT [40] ++ s ++ ofT [41]).size = s.size + 2 := by rw [ByteArray.size_append, ByteArray.size_append, hp, hq]; omega
  have b0 : bt (ofT [40] ++ s ++ ofT [41]) 0 = 40 := by
    rw [bt_app, if_pos (by rw [ByteArray.size_append]; omega), bt_app, if_pos (by omega)]; rfl
  have b1 : bt (ofT [40] ++ s ++ ofT [41]) ((ofT [40]).size + s.size) = 41 := by
    rw [bt_app, if_neg (by rw [ByteArray.size_append]; omega), ByteArray.size_append, Nat.sub_self]; rfl
  have hE := readP_emb (ofT [40]) s (ofT [41]) [] 0 [(0, 0)] 1 (s.size + 1) 0 sPS ⟨l, [(n, r)], g⟩ (Nat.zero_le _) sPS_inv h1 (by simp only; omega) (s.size + 2) 3 (by omega) (by omega)
  have hx0 : nextA (ofT [40] ++ s ++ ofT [41]) 0 = (⟨2, 0, 1, 0, 0, 0⟩, 0, 0) := by
    unfold nextA; rw [if_pos b0]
  have hx1 : nextA (ofT [40] ++ s ++ ofT [41]) ((ofT [40]).size + s.size) = (⟨3, (ofT [40]).size + s.size, (ofT [40]).size + s.size + 1, 0, 0, 0⟩, 0, 0) := by
    unfold nextA; rw [if_neg (by omega), if_pos b1]
  have e : parseN (ofT [40] ++ s ++ ofT [41]) = (⟨l ++ rowT n ++ rowsT (r + 1) ++ [ndG], [], 1 + g⟩, 0, 0, 0) := by
    unfold parseN
    rw [hz, readP, if_neg (by omega), b0, if_neg (by decide), hx0]
    show (if (0 : Nat) ≠ 0 then (zPS, 0, 0, 0) else readP (ofT [40] ++ s ++ ofT [41]) (s.size + 2) 1 (takeP sPS ⟨2, 0, 1, 0, 0, 0⟩)) = _
    rw [if_neg (show ¬ (0 : Nat) ≠ 0 by decide)]
    have ht : takeP sPS ⟨2, 0, 1, 0, 0, 0⟩ = emb [] 0 [(0, 0)] 1 sPS := rfl
    rw [ht]
    refine Eq.trans hE ?_
    rw [readP, if_neg (by omega), b1]
    have hf : firstP (emb [] 0 [(0, 0)] 1 ⟨l, [(n, r)], g⟩) 41 = 0 := rfl
    rw [hf, if_neg (by decide), hx1]
    show (if (0 : Nat) ≠ 0 then (zPS, 0, 0, 0) else readP (ofT [40] ++ s ++ ofT [41]) 2 ((ofT [40]).size + s.size + 1) (takeP (emb [] 0 [(0, 0)] 1 ⟨l, [(n, r)], g⟩) ⟨3, (ofT [40]).size + s.size, (ofT [40]).size + s.size + 1, 0, 0, 0⟩)) = _
    rw [if_neg (show ¬ (0 : Nat) ≠ 0 by decide)]
    have ht2 : takeP (emb [] 0 [(0, 0)] 1 ⟨l, [(n, r)], g⟩) ⟨3, (ofT [40]).size + s.size, (ofT [40]).size + s.size + 1, 0, 0, 0⟩ = ⟨l ++ rowT n ++ rowsT (r + 1) ++ [ndG], [(1, 0)], 1 + g⟩ := by
      show (⟨[] ++ l ++ rowT n ++ rowsT (0 + r + 1) ++ [ndG], [(0 + 1, 0)], 1 + g⟩ : PS) = _
      rw [List.nil_append, Nat.zero_add]
    rw [ht2, readP, if_pos (by omega), if_neg (by show ¬ 1 < 1; decide)]
    show ((⟨l ++ rowT n ++ rowsT (r + 1) ++ [ndG] ++ [] ++ [], [], 1 + g⟩ : PS), (0 : Nat), (0 : Nat), (0 : Nat)) = _
    rw [List.append_nil, List.append_nil]
  rw [e, h2]
  exact ⟨rfl, rfl⟩
def lastK (l : List NdN) : Int := (l.getLast?.map NdN.kind).getD 0
theorem last_rows (l : List NdN) (n r : Nat) (h : lastK (l ++ rowT n ++ rowsT (r + 1)) ≠ 6) : r = 0 := by
  by_cases hr : r = 0
  · exact hr
  · exfalso
    apply h
    unfold rowsT
    rw [if_pos (by omega)]
    unfold lastK
    rw [List.getLast?_append]
    rfl
/-- **Beside a bar: the trees of both, in an Alt.** -/
theorem parse_bar (s t : ByteArray) (h : (parseN s).2.2.1 = 0) (h' : (parseN t).2.2.1 = 0) (hg : kc 3 (parseN s).1.l + kc 3 (parseN t).1.l ≤ 9) (hl : lastK (parseN s).1.l ≠ 6) (hl' : lastK (parseN t).1.l ≠ 6) :
    (parseN (s ++ ofT [124] ++ t)).2 = (0, 0, 0) ∧ (parseN (s ++ ofT [124] ++ t)).1.l = (parseN s).1.l ++ (parseN t).1.l ++ [ndL] := by
  obtain ⟨l, n, r, g, h1, h2, h3, h4⟩ := parse_ok s h
  obtain ⟨m, n', r', g', k1, k2, k3, k4⟩ := parse_ok t h'
  rw [h2] at hg hl
  rw [k2] at hg hl'
  obtain rfl := last_rows l n r hl
  obtain rfl := last_rows m n' r' hl'
  rw [show (((⟨l ++ rowT n ++ rowsT (0 + 1), [], g⟩ : PS), (0 : Nat), (0 : Nat), (0 : Nat)).1.l) = l ++ rowT n ++ rowsT (0 + 1) from rfl, show (((⟨m ++ rowT n' ++ rowsT (0 + 1), [], g'⟩ : PS), (0 : Nat), (0 : Nat), (0 : Nat)).1.l) = m ++ rowT n' ++ rowsT (0 + 1) from rfl, kc_all, kc_all, h3, k3] at hg
  have hq : (ofT [124]).size = 1 := rfl
  have hz : (s ++ ofT [124] ++ t).size = s.size + 1 + t.size := by rw [ByteArray.size_append, ByteArray.size_append, hq]
  have b1 : bt (s ++ ofT [124] ++ t) s.size = 124 := by
    rw [bt_app, if_pos (by rw [ByteArray.size_append]; omega), bt_app, if_neg (by omega), Nat.sub_self]; rfl
  have hE := readP_emb ByteArray.empty s (ofT [124] ++ t) [] 0 [] 0 (s.size + 1) 0 sPS ⟨l, [(n, 0)], g⟩ (Nat.zero_le _) sPS_inv h1 (by simp only; omega)
  have hF := readP_emb (s ++ ofT [124]) t ByteArray.empty (l ++ rowT n) 1 [] g (t.size + 1) 0 sPS ⟨m, [(n', 0)], g'⟩ (Nat.zero_le _) sPS_inv k1 (by simp only; omega)
  have a1 : ByteArray.empty ++ s ++ (ofT [124] ++ t) = s ++ ofT [124] ++ t := by rw [ByteArray.empty_append, ByteArray.append_assoc]
  have a2 : s ++ ofT [124] ++ t ++ ByteArray.empty = s ++ ofT [124] ++ t := ByteArray.append_empty
  rw [a1] at hE
  rw [a2] at hF
  have z0 : (ByteArray.empty : ByteArray).size = 0 := rfl
  have hs1 : (s ++ ofT [124]).size = s.size + 1 := by rw [ByteArray.size_append, hq]
  rw [z0, Nat.zero_add, Nat.zero_add] at hE
  rw [hs1, Nat.add_zero] at hF
  have hx1 : nextA (s ++ ofT [124] ++ t) s.size = (⟨4, s.size, s.size + 1, 0, 0, 0⟩, 0, 0) := by
    unfold nextA; rw [if_neg (by omega), if_neg (by omega), if_pos b1]
  have e : parseN (s ++ ofT [124] ++ t) = (⟨l ++ rowT n ++ m ++ rowT n' ++ [ndL], [], g + g'⟩, 0, 0, 0) := by
    unfold parseN
    have hs0 : sPS = emb [] 0 [] 0 sPS := rfl
    rw [hs0, hE ((s ++ ofT [124] ++ t).size + 1) (t.size + 2) (by omega) (by omega), readP, if_neg (by omega), b1]
    have hf : firstP (emb [] 0 [] 0 ⟨l, [(n, 0)], g⟩) 124 = 0 := rfl
    rw [hf, if_neg (by decide), hx1]
    show (if (0 : Nat) ≠ 0 then (zPS, 0, 0, 0) else readP (s ++ ofT [124] ++ t) (t.size + 1) (s.size + 1) (takeP (emb [] 0 [] 0 ⟨l, [(n, 0)], g⟩) ⟨4, s.size, s.size + 1, 0, 0, 0⟩)) = _
    rw [if_neg (show ¬ (0 : Nat) ≠ 0 by decide)]
    have ht : takeP (emb [] 0 [] 0 ⟨l, [(n, 0)], g⟩) ⟨4, s.size, s.size + 1, 0, 0, 0⟩ = emb (l ++ rowT n) 1 [] g sPS := by
      show (⟨[] ++ l ++ rowT n, [(0, 0 + 0 + 1)], 0 + g⟩ : PS) = ⟨l ++ rowT n ++ [], [(0, 1 + 0)], g + 0⟩
      rw [List.nil_append, List.append_nil, Nat.add_zero g, Nat.zero_add g]
    rw [ht, hF (t.size + 1) 1 (by omega) (by omega), readP, if_pos (by omega), if_neg (by show ¬ 1 < 1; decide)]
    show ((⟨l ++ rowT n ++ m ++ rowT n' ++ rowsT (1 + 0 + 1), [], g + g'⟩ : PS), (0 : Nat), (0 : Nat), (0 : Nat)) = _
    rfl
  rw [e, h2, k2]
  refine ⟨rfl, ?_⟩
  show l ++ rowT n ++ m ++ rowT n' ++ [ndL] = l ++ rowT n ++ [] ++ (m ++ rowT n' ++ []) ++ [ndL]
  rw [List.append_nil, List.append_nil, List.append_assoc (l ++ rowT n) m]
end Go.Proofs.Ythodphgbdmnpoaa

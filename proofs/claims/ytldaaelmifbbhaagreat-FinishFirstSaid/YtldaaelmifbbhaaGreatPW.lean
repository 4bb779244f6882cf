/- Texts put together: Ji Eg Ei Ew Ez. -/
import Derived.Test.YtldaaelmifbbhaaGreatPU
import Derived.Test.YtldaaelmifbbhaaGreatPO
import Derived.Test.YtldaaelmifbbhaaGreatPV
import Derived.Test.YtldaaelmifbbhaaGreatSl
import Derived.Test.YtldaaelmifbbhaaGreatPT
import Derived.Deep.OwnRows
/- The developers' parse: Parse, Open. Stage 7. -/
namespace Go.Proofs.YtldaaelmifbbhaaGreat
open Go.RowKit BS

set_option maxRecDepth 100000 in
set_option maxHeartbeats 8000000 in
theorem parse_dev (s : ByteArray) (hs : s.size ≤ 1000000) (w : World) :
    Calls Tryz.prog 13 #[.string s] w fun e w' => ∃ v, e = .returned (.tuple #[v, .int .i64 (parseN s).2.2.1, .int .i64 (parseN s).2.2.2]) ∧
      w'.ownsRow w.heap.size 92 8 v (parseN s).1.l.length (ndCells (parseN s).1.l) ∧ Below w.heap.size w w' := by
  have hP : parseN s = finM s (readM s (s.size + 1) 0 sPS) := readP_D s _ _ _
  rw [hP]
  clear hP
  have hRd := pread_calls s hs w
  generalize readM s (s.size + 1) 0 sPS = RES at *
  obtain ⟨y, er, pl⟩ := RES
  have HRd := Lib.hid hRd
  clear hRd
  by_cases he : er = 0
  · subst he
    obtain ⟨l, st, gr⟩ := y
    obtain _ | ⟨⟨n, r⟩, st⟩ := st
    · go_enter Tryz.func13, Tryz.ntmps13
      go_wp2_with fail
      refine HRd.out.mono ?_
      rintro e w2 (⟨h1, _⟩ | ⟨_, R, a, vN, vL, _, _, _, h3⟩)
      · exact absurd rfl h1
      · exact absurd rfl h3
    by_cases h0 : st = []
    · subst h0
      have hf : finM s (⟨l, [(n, r)], gr⟩, 0, pl) = (⟨l ++ rowT n ++ rowsT (r + 1), [], gr⟩, 0, 0, 0) := by
        unfold finM
        rw [if_neg (show ¬ (0 : Nat) ≠ 0 by decide), if_neg (show ¬ 1 < ([(n, r)] : List (Nat × Nat)).length by simp)]
        rfl
      rw [hf]
      clear hf
      go_enter Tryz.func13, Tryz.ntmps13
      go_wp2_with fail
      refine HRd.out.mono ?_
      rintro e w2 (⟨h1, _⟩ | ⟨_, R, a, vN, vL, rfl, hr, hbd, _⟩)
      · exact absurd rfl h1
      clear HRd
      obtain ⟨b1, b2, b3⟩ := hbd
      have b4 := b3 (n, r) (List.mem_cons_self ..)
      simp only at b1 b4
      obtain ⟨gL, capL, rfl, _⟩ := hr.top rfl
      have HO := Lib.hid (popen_calls R 0 (some ⟨gL, 0, none⟩) capL w2 hr.c.2.2.2.1 (by omega))
      have HE := Lib.hid (pendRows_calls w2 hr (by omega) (by simp) (by omega) (by omega))
      clear hr b1 b2 b3 b4
      go_wp2_with fail
      refine HO.out.mono ?_
      rintro e w3 ⟨rfl, rfl⟩
      clear HO
      go_wp2_with fail
      refine HE.out.mono ?_
      rintro e w3 ⟨rfl, vN', hr⟩
      clear HE
      have c2 := hr.c.2.2.1
      have HF := Lib.hid (And.intro hr.nodes hr.bel)
      clear hr
      go_wp2_with fail
      exact bodyPost_ret (v := .tuple #[vN', .int .i64 0, .int .i64 0]) (by simp [results, Tryz.results13, go_sem] <;> rfl) rfl ⟨_, rfl, HF.out.1, HF.out.2⟩
    · have hl : 0 < st.length := Nat.pos_of_ne_zero fun h => h0 (List.eq_nil_of_length_eq_zero h)
      have hf : finM s (⟨l, (n, r) :: st, gr⟩, 0, pl) = (zPS, st.length, 2, s.size) := by
        unfold finM
        rw [if_neg (show ¬ (0 : Nat) ≠ 0 by decide), if_pos (show 1 < ((n, r) :: st).length by rw [List.length_cons]; omega)]
        rfl
      rw [hf]
      clear hf
      have q : decide ((0 : Int) < (st.length : Int)) = true := by rw [decide_eq_true_iff]; omega
      go_enter Tryz.func13, Tryz.ntmps13
      go_wp2_with fail
      refine HRd.out.mono ?_
      rintro e w2 (⟨h1, _⟩ | ⟨_, R, a, vN, vL, rfl, hr, hbd, _⟩)
      · exact absurd rfl h1
      clear HRd
      have b2 := hbd.2.1
      simp only [List.length_cons] at b2
      obtain ⟨gL, capL, rfl, _⟩ := hr.top rfl
      have HO := Lib.hid (popen_calls R st.length (some ⟨gL, 0, none⟩) capL w2 hr.c.2.2.2.1 (by omega))
      have HB := Lib.hid hr.bel
      clear hr hbd b2
      go_wp2_with fail
      refine HO.out.mono ?_
      rintro e w3 ⟨rfl, rfl⟩
      clear HO
      go_wp2_with fail
      exact bodyPost_ret (v := .tuple #[.slice none 0 0, .int .i64 2, .int .i64 s.size]) (by simp [results, Tryz.results13, go_sem] <;> rfl) rfl ⟨_, rfl, World.ownsRow_nil _ _ _ _, HB.out⟩
  · have hf : finM s (y, er, pl) = (zPS, 0, er, pl) := by unfold finM; rw [if_pos he]
    rw [hf]
    clear hf
    have qe : ((er : Int) != 0) = true := by rw [bne_iff_ne]; omega
    have HNE := Lib.hid he
    clear he
    go_enter Tryz.func13, Tryz.ntmps13
    go_wp2_with fail
    refine HRd.out.mono ?_
    rintro e w2 (⟨_, rfl, hb⟩ | ⟨h1, _⟩)
    · go_wp2_with fail
      exact bodyPost_ret (v := .tuple #[.slice none 0 0, .int .i64 er, .int .i64 pl]) (by simp [results, Tryz.results13, go_sem] <;> rfl) rfl ⟨_, rfl, World.ownsRow_nil _ _ _ _, hb⟩
    · exact absurd h1 HNE.out

set_option maxRecDepth 100000 in
set_option maxHeartbeats 8000000 in
theorem open_dev (s : ByteArray) (hs : s.size ≤ 1000000) (w : World) :
    Calls Tryz.prog 20 #[.string s] w fun e w' => e = .returned (.int .i64 (parseN s).2.1) ∧ Below w.heap.size w w' := by
  have hP : parseN s = finM s (readM s (s.size + 1) 0 sPS) := readP_D s _ _ _
  rw [hP]
  clear hP
  have hRd := pread_calls s hs w
  generalize readM s (s.size + 1) 0 sPS = RES at *
  obtain ⟨y, er, pl⟩ := RES
  have HRd := Lib.hid hRd
  clear hRd
  by_cases he : er = 0
  · subst he
    obtain ⟨l, st, gr⟩ := y
    obtain _ | ⟨⟨n, r⟩, st⟩ := st
    · go_enter Tryz.func20, Tryz.ntmps20
      go_wp2_with fail
      refine HRd.out.mono ?_
      rintro e w2 (⟨h1, _⟩ | ⟨_, R, a, vN, vL, _, _, _, h3⟩)
      · exact absurd rfl h1
      · exact absurd rfl h3
    have hf : (finM s (⟨l, (n, r) :: st, gr⟩, 0, pl)).2.1 = st.length := by
      unfold finM
      rw [if_neg (show ¬ (0 : Nat) ≠ 0 by decide)]
      by_cases h1 : 1 < ((n, r) :: st).length
      · rw [if_pos h1]; rfl
      · rw [if_neg h1]
        rw [List.length_cons] at h1
        show 0 = st.length
        omega
    rw [hf]
    clear hf
    go_enter Tryz.func20, Tryz.ntmps20
    go_wp2_with fail
    refine HRd.out.mono ?_
    rintro e w2 (⟨h1, _⟩ | ⟨_, R, a, vN, vL, rfl, hr, hbd, _⟩)
    · exact absurd rfl h1
    clear HRd
    have b2 := hbd.2.1
    simp only [List.length_cons] at b2
    obtain ⟨gL, capL, rfl, _⟩ := hr.top rfl
    have HO := Lib.hid (popen_calls R st.length (some ⟨gL, 0, none⟩) capL w2 hr.c.2.2.2.1 (by omega))
    have HB := Lib.hid hr.bel
    clear hr hbd b2
    go_wp2_with fail
    refine HO.out.mono ?_
    rintro e w3 ⟨rfl, rfl⟩
    clear HO
    go_wp2_with fail
    go_ret
    exact ⟨rfl, HB.out⟩
  · have hf : finM s (y, er, pl) = (zPS, 0, er, pl) := by unfold finM; rw [if_pos he]
    rw [hf]
    clear hf
    have qe : ((er : Int) != 0) = true := by rw [bne_iff_ne]; omega
    have HNE := Lib.hid he
    clear he
    go_enter Tryz.func20, Tryz.ntmps20
    go_wp2_with fail
    refine HRd.out.mono ?_
    rintro e w2 (⟨_, rfl, hb⟩ | ⟨h1, _⟩)
    · go_wp2_with fail
      go_ret
      exact ⟨rfl, hb⟩
    · exact absurd h1 HNE.out
end Go.Proofs.YtldaaelmifbbhaaGreat

/- The developers' finish: reach, Begins, unread, opened, join, Finish. Stage 8. -/
namespace Go.Proofs.YtldaaelmifbbhaaGreat
open Go.RowKit BS

theorem parse_e (s : ByteArray) (hs : s.size ≤ 1000000) (w : World) : Calls Tryz.prog 13 #[.string s] w fun e w' => ∃ v, e = .returned (.tuple #[v, .int .i64 (parseN s).2.2.1, .int .i64 (parseN s).2.2.2]) ∧ Below w.heap.size w w' :=
  (parse_dev s hs w).mono fun _ _ ⟨v, h1, _, h3⟩ => ⟨v, h1, h3⟩
set_option maxRecDepth 100000 in
set_option maxHeartbeats 8000000 in
theorem reach_calls (s : ByteArray) (hs : s.size ≤ 1000000) (w : World) : Calls Tryz.prog 14 #[.string s] w fun e w' => e = .returned (.int .i64 (rchN s)) ∧ Below w.heap.size w w' := by
  have hP := parse_e s hs w
  have hpl := begN_place s
  unfold rchN
  unfold begN at *
  generalize (parseN s).2.2.2 = pl at *
  generalize (parseN s).2.2.1 = er at *
  by_cases h0 : er = 0
  · subst h0
    rw [if_pos (by decide)]
    have HP := Lib.hid hP
    clear hP hpl
    go_enter Tryz.func14, Tryz.ntmps14
    go_wp2_with fail
    refine HP.out.mono ?_
    rintro e w1 ⟨v, rfl, hb⟩
    clear HP
    go_wp2_with fail
    go_ret
    exact ⟨rfl, hb⟩
  by_cases h2 : er = 2
  · subst h2
    rw [if_pos (by decide)]
    have HP := Lib.hid hP
    clear hP hpl
    go_enter Tryz.func14, Tryz.ntmps14
    go_wp2_with fail
    refine HP.out.mono ?_
    rintro e w1 ⟨v, rfl, hb⟩
    clear HP
    go_wp2_with fail
    go_ret
    exact ⟨rfl, hb⟩
  · have q0 : ((er : Int) == 0) = false := by rw [beq_eq_false_iff_ne]; omega
    have q2 : ((er : Int) == 2) = false := by rw [beq_eq_false_iff_ne]; omega
    have hd : decide (er = 0 ∨ er = 2) = false := by rw [decide_eq_false_iff_not]; omega
    have hp := hpl hd
    rw [hd, if_neg (by decide)]
    have hx : IntKind.i64.wrap ((pl : Int) - 1) = ((pl - 1 : Nat) : Int) := by
      rw [IntWalk.i64_in _ (by omega)]
      omega
    generalize pl - 1 = r at *
    have HP := Lib.hid hP
    clear hP hd h0 h2 hpl
    go_enter Tryz.func14, Tryz.ntmps14
    go_wp2_with fail
    refine HP.out.mono ?_
    rintro e w1 ⟨v, rfl, hb⟩
    clear HP
    go_wp2_with fail
    go_ret
    exact ⟨rfl, hb⟩
set_option maxRecDepth 100000 in
set_option maxHeartbeats 8000000 in
theorem begins_dev (s : ByteArray) (hs : s.size ≤ 1000000) (w : World) : Calls Tryz.prog 9 #[.string s] w fun e w' => e = .returned (.bool (begN s)) ∧ Below w.heap.size w w' := by
  have HR := Lib.hid (reach_calls s hs w)
  have hle := rch_le s
  have hq : ((rchN s : Int) == (s.size : Int)) = begN s := by
    rw [← rch_beg s]
    by_cases h : rchN s = s.size
    · rw [decide_eq_true h, h]; simp
    · rw [decide_eq_false h, beq_eq_false_iff_ne]; omega
  generalize rchN s = r at *
  generalize begN s = b at *
  go_enter Tryz.func9, Tryz.ntmps9
  go_wp2_with fail
  refine HR.out.mono ?_
  rintro e w1 ⟨rfl, hb⟩
  clear HR
  go_wp2_with fail
  go_ret
  exact ⟨rfl, hb⟩
set_option maxRecDepth 100000 in
set_option maxHeartbeats 8000000 in
theorem unread_calls (s : ByteArray) (hs : s.size ≤ 1000000) (w : World) : Calls Tryz.prog 18 #[.string s] w fun e w' => e = .returned (.int .i64 (lastN s (s.size + 1) 0)) ∧ Below w.heap.size w w' := by
  generalize hR : lastN s (s.size + 1) 0 = R
  have HR := Lib.hid hR
  clear hR
  go_enter Tryz.func18, Tryz.ntmps18
  go_wp2_with fail
  go_loopw [3] (fun i wr => ∃ a k : Nat, a ≤ s.size ∧ s.size < k + a ∧ i = .int .i64 a ∧ lastN s k a = R ∧ Below w.heap.size w wr) (fun i _ => s.size - (intOf i).toNat)
  case atStart => exact ⟨0, s.size + 1, Nat.zero_le _, by omega, rfl, HR.out, Below.refl _ _⟩
  case round =>
    clear HR
    obtain ⟨a, k, ha, hk, rfl, hres, hB⟩ := hrel
    have hN := next5_dev s hs a
    have hfin := word_fin s a
    have hat := nextN_at s a
    generalize hX : nextN s a = X at *
    obtain ⟨⟨xk, xa, xf, xs, xn, xm⟩, e, p⟩ := X
    have HN : Hid (∀ w, Calls Tryz.prog 15 #[.string s, .int .i64 a] w fun en w' => en = .returned (.tuple #[.agg (woI xk xa xf xs xn xm), .int .i64 e, .int .i64 p]) ∧ Below w.heap.size w w') := Lib.hid hN
    have HB := Lib.hid hB
    clear hN hB
    by_cases he : e = 0
    · subst he
      obtain ⟨f1, f2⟩ := hfin _ _ rfl
      simp only at f1 f2
      obtain ⟨k, rfl⟩ : ∃ m, k = m + 1 := ⟨k - 1, by omega⟩
      rw [lastN_more s k a _ p (by omega) (hat (by omega)).symm] at hres
      have HRES := Lib.hid hres
      clear hres hat hX hfin
      go_wp2_with fail
      refine (HN.out _).mono ?_
      rintro en w2 ⟨rfl, hb2⟩
      have hB2 := HB.out.trans (hb2.mono HB.out.size)
      clear hb2 HB HN
      go_wp2_with fail
      go_roundw
      case rel => exact ⟨xf, k, f2, by omega, rfl, HRES.out, hB2.alloc hB2.size _⟩
      case measure => simp [intOf]; omega
    · have qe : ((e : Int) != 0) = true := by rw [bne_iff_ne]; omega
      have hres' : R = a := by
        rw [← hres]
        by_cases hlt : a < s.size
        · exact lastN_err s k a _ e p (hat hlt).symm he
        · exact lastN_end s k a (by omega)
      subst hres'
      clear hres hat hX hfin
      go_wp2_with fail
      refine (HN.out _).mono ?_
      rintro en w2 ⟨rfl, hb2⟩
      have hB2 := HB.out.trans (hb2.mono HB.out.size)
      clear hb2 HB HN
      go_wp2_with fail
      exact bodyPost_ret (v := _) (by simp [results, Tryz.results18, go_sem] <;> rfl) rfl ⟨rfl, hB2.alloc hB2.size _⟩
set_option maxRecDepth 100000 in
set_option maxHeartbeats 8000000 in
theorem opened_calls (k p e : Nat) (t : BitVec 256) (n : Nat) (m : Int) (w : World) : Calls Tryz.prog 16 #[.agg (woI k p e t n m)] w fun en w' => en = .returned (.int .i64 (opN k)) ∧ Below w.heap.size w w' := by
  have hB : Below w.heap.size w (w.alloc (.cells (woI k p e t n m) 40)) := by go_grown
  by_cases h2 : k = 2
  · subst h2
    go_enter Tryz.func16, Tryz.ntmps16
    go_wp2_with fail
    go_ret
    exact ⟨rfl, hB⟩
  by_cases h3 : k = 3
  · subst h3
    go_enter Tryz.func16, Tryz.ntmps16
    go_wp2_with fail
    go_ret
    exact ⟨rfl, hB⟩
  · have q2 : ((k : Int) == 2) = false := by rw [beq_eq_false_iff_ne]; omega
    have q3 : ((k : Int) == 3) = false := by rw [beq_eq_false_iff_ne]; omega
    have ho : opN k = 0 := by unfold opN; rw [if_neg h2, if_neg h3]
    rw [ho]
    go_enter Tryz.func16, Tryz.ntmps16
    go_wp2_with fail
    go_ret
    exact ⟨rfl, hB⟩
theorem join2 (a b : ByteArray) : (⟨(Lib.join ([a, b].map (·.data.toList)) (⟨#[]⟩ : ByteArray).data.toList).toArray⟩ : ByteArray) = a ++ b := by
  apply ByteArray.ext
  simp [Lib.join, ByteArray.data_append]
set_option maxRecDepth 100000 in
set_option maxHeartbeats 8000000 in
theorem join_calls (a b : ByteArray) (ha : a.size ≤ 2000000) (hb : b.size ≤ 2000000) (g : Nat) (w : World) (h0 : w.cell? ⟨g, 0, none⟩ = some (.string a)) (h1 : w.cell? ⟨g, 1, none⟩ = some (.string b)) (hg : g < w.heap.size) :
    Calls Tryz.prog 21 #[.slice (some ⟨g, 0, none⟩) 2 2] w fun e w' => e = .returned (.string (a ++ b)) ∧ Below w.heap.size w w' := by
  have hl : (Lib.join ([a, b].map (·.data.toList)) (⟨#[]⟩ : ByteArray).data.toList).length ≤ 140737488355328 := by
    have hz : ∀ l : List UInt8, (⟨l.toArray⟩ : ByteArray).size = l.length := fun l => by show l.toArray.size = _; exact List.size_toArray
    have h := congrArg ByteArray.size (join2 a b)
    rw [hz, ByteArray.size_append] at h
    omega
  have hJ := Tryz.strings_Join g 0 2 [a, b] ⟨#[]⟩ w (by
    intro j x hx
    match j, hx with
    | 0, hx => cases hx; exact h0
    | 1, hx => cases hx; exact h1) hg (by simp) (by simp) hl
  rw [join2] at hJ
  have HJ : Hid (Calls Tryz.prog 33 #[.slice (some ⟨g, 0, none⟩) 2 2, .string ⟨#[]⟩] w fun e w' => e = .returned (.string (a ++ b)) ∧ Below w.heap.size w w') := Lib.hid hJ
  clear hJ
  go_enter Tryz.func21, Tryz.ntmps21
  go_wp2_with fail
  refine HJ.out.mono ?_
  rintro e w1 ⟨rfl, hbb⟩
  clear HJ
  go_wp2_with fail
  go_ret
  exact ⟨rfl, hbb⟩
end Go.Proofs.YtldaaelmifbbhaaGreat

/- The developers' finish: Finish. Stage 8. -/
namespace Go.Proofs.YtldaaelmifbbhaaGreat
open Go.RowKit BS

theorem readP_open_le (s : ByteArray) : ∀ k a x, a ≤ s.size → PInv x → (readP s k a x).2.1 ≤ 9
  | 0, a, x, _, _ => Nat.zero_le _
  | k + 1, a, x, h, hi => by
    rw [readP]
    by_cases hend : s.size ≤ a
    · rw [if_pos hend]
      obtain ⟨_, _, h3, h4⟩ := hi
      by_cases c : 1 < x.st.length
      · rw [if_pos c]
        show x.st.length - 1 ≤ 9
        omega
      · rw [if_neg c]
        exact Nat.zero_le _
    rw [if_neg hend]
    by_cases hf : firstP x (bt s a) ≠ 0
    · rw [if_pos hf]; exact Nat.zero_le _
    rw [if_neg hf]
    have hE := nextA_end s a (by omega)
    have hkd := next_kinds s a
    generalize nextA s a = X at *
    obtain ⟨w, e, p⟩ := X
    show (if e ≠ 0 then (zPS, 0, e, p) else readP s k w.fin (takeP x w)).2.1 ≤ 9
    rcases hE with ⟨e1, e2, e3, _, e5, e6⟩ | ⟨e1, _⟩
    · simp only at e1 e2 e3 e5 e6
      subst e1
      subst e2
      rw [if_neg (by decide)]
      obtain ⟨k2, k3, k5⟩ := hkd w rfl
      exact readP_open_le s k w.fin _ e6 (take_inv s a x w hi (Decidable.not_not.1 hf) e3 k2 k3 k5)
    · rw [if_pos e1]; exact Nat.zero_le _
theorem open_le (s : ByteArray) : (parseN s).2.1 ≤ 9 := readP_open_le s _ 0 sPS (Nat.zero_le _) sPS_inv
theorem repeat_shuts (d : Nat) : (⟨(Lib.repeatL (⟨#[41]⟩ : ByteArray).data.toList d).toArray⟩ : ByteArray) = shuts d := by
  have h : ∀ d, Lib.repeatL (⟨#[41]⟩ : ByteArray).data.toList d = (List.replicate d 41).map UInt8.ofNat := fun d => by
    induction d with
    | zero => rfl
    | succ d ih =>
      rw [Lib.repeatL, ih]
      rfl
  rw [h]
  rfl
theorem join_new (a b : ByteArray) (ha : a.size ≤ 2000000) (hb : b.size ≤ 2000000) (w : World) :
    Calls Tryz.prog 21 #[.slice (some ⟨w.heap.size, 0, none⟩) 2 2] (w.alloc (.cells #[.string a, .string b] 9)) fun e w' => e = .returned (.string (a ++ b)) ∧ Below w.heap.size w w' := by
  have hB := Blk.new w #[.string a, .string b] 9
  have hbw : Below w.heap.size w (w.alloc (.cells #[.string a, .string b] 9)) := by go_grown
  exact (join_calls a b ha hb w.heap.size _ (hB.cell 0) (hB.cell 1) hB.lt).mono fun _ _ ⟨h1, h2⟩ => ⟨h1, hbw.trans (h2.mono hbw.size)⟩
set_option maxRecDepth 100000 in
set_option maxHeartbeats 8000000 in
theorem finish_no (s : ByteArray) (hs : s.size ≤ 1000000) (hb : begN s = false) (w : World) : Calls Tryz.prog 11 #[.string s] w fun e w' => e = .returned (.tuple #[.string ⟨#[]⟩, .bool false]) ∧ Below w.heap.size w w' := by
  have hB := begins_dev s hs w
  rw [hb] at hB
  have HB := Lib.hid hB
  clear hB hb
  go_enter Tryz.func11, Tryz.ntmps11
  go_wp2_with fail
  refine HB.out.mono ?_
  rintro e w1 ⟨rfl, hb⟩
  clear HB
  go_wp2_with fail
  exact bodyPost_ret (v := .tuple #[.string ⟨#[]⟩, .bool false]) (by simp [results, Tryz.results11, go_sem] <;> rfl) rfl ⟨rfl, hb⟩
set_option maxRecDepth 100000 in
set_option maxHeartbeats 8000000 in
theorem finish_yes (s : ByteArray) (hs : s.size ≤ 100000) (hb : begN s = true) (l : ByteArray) (hl : l.size ≤ 200) (d : Nat) (hd : d ≤ 9) (hdd : (parseN (s ++ l)).2.1 = d) (hlk : lackG5 s ((lastN s (s.size + 1) 0 : Nat) : Int) = l) (w : World) :
    Calls Tryz.prog 11 #[.string s] w fun e w' => e = .returned (.tuple #[.string (l ++ shuts d), .bool true]) ∧ Below w.heap.size w w' := by
  have hB := begins_dev s (by omega) w
  rw [hb] at hB
  have HU := Lib.hid (unread_calls s (by omega))
  have hL := lack5_dev s (by omega) ((lastN s (s.size + 1) 0 : Nat) : Int)
  rw [hlk] at hL
  have hsl : (s ++ l).size ≤ 1000000 := by rw [ByteArray.size_append]; omega
  have hO := open_dev (s ++ l) hsl
  rw [hdd] at hO
  have hRp := Tryz.strings_Repeat ⟨#[41]⟩ d
  rw [repeat_shuts] at hRp
  have hds := shuts_size d
  have HRp : Hid (∀ w : World, Calls Tryz.prog 19 #[.string ⟨#[41]⟩, .int .i64 d] w fun e w' => e = .returned (.string (shuts d)) ∧ Below w.heap.size w w') := Lib.hid (fun w => hRp w (by omega) (by show 1 * d ≤ _; omega))
  generalize lastN s (s.size + 1) 0 = at1 at *
  have HJ1 := Lib.hid (join_new s l (by omega) (by omega))
  have HJ2 := Lib.hid (join_new l (shuts d) (by omega) (by omega))
  have HL := Lib.hid hL
  have HO := Lib.hid hO
  have HBe := Lib.hid hB
  clear hL hO hB hRp hb hlk hdd hds
  generalize s ++ l = sl at *
  generalize shuts d = sd at *
  go_enter Tryz.func11, Tryz.ntmps11
  go_wp2_with fail
  refine HBe.out.mono ?_
  rintro e w1 ⟨rfl, hb⟩
  have HB := Lib.hid hb
  clear HBe hb
  go_wp2_with fail
  refine (HU.out _).mono ?_
  rintro e w2 ⟨rfl, hb⟩
  replace HB := Lib.hid (HB.out.trans (hb.mono HB.out.size))
  clear HU hb
  go_wp2_with fail
  refine (HL.out _).mono ?_
  rintro e w3 ⟨rfl, hb⟩
  replace HB := Lib.hid (HB.out.trans (hb.mono HB.out.size))
  clear HL hb
  go_wp2_with fail
  refine (HJ1.out _).mono ?_
  rintro e w4 ⟨rfl, hb⟩
  replace HB := Lib.hid (HB.out.trans (hb.mono HB.out.size))
  clear HJ1 hb
  go_wp2_with fail
  refine (HO.out _).mono ?_
  rintro e w5 ⟨rfl, hb⟩
  replace HB := Lib.hid (HB.out.trans (hb.mono HB.out.size))
  clear HO hb
  go_wp2_with fail
  refine (HRp.out _).mono ?_
  rintro e w6 ⟨rfl, hb⟩
  replace HB := Lib.hid (HB.out.trans (hb.mono HB.out.size))
  clear HRp hb
  go_wp2_with fail
  refine (HJ2.out _).mono ?_
  rintro e w7 ⟨rfl, hb⟩
  have hBB := HB.out.trans (hb.mono HB.out.size)
  clear HJ2 hb HB
  go_wp2_with fail
  exact bodyPost_ret (v := .tuple #[.string (l ++ sd), .bool true]) (by simp [results, Tryz.results11, go_sem] <;> rfl) rfl ⟨rfl, hBB⟩
end Go.Proofs.YtldaaelmifbbhaaGreat

/- The developers' finish: Whole; the package does what the laws want of it. Stage 8. -/
namespace Go.Proofs.YtldaaelmifbbhaaGreat
open Go.RowKit BS

theorem infoBoolE : (Tryz.prog.info? 4).map (fun i => (i.zero, i.size, i.bytes)) = some (some (.bool false), 1, 1) := by kernel_rfl
/-- What is told so far: of the first k parts what they are, of the others nothing. -/
def TellW (s : ByteArray) (k : Nat) (vs : Array Value) : Prop := vs.size = s.size + 1 ∧ ∀ i, i < s.size + 1 → vs[i]? = some (.bool (if i < k then okP (s.extract 0 i) else false))
theorem tellW_zero (s : ByteArray) : TellW s 0 (madeCells #[Value.bool false] (s.size + 1)) := by
  refine ⟨by simp [madeCells], fun i hi => ?_⟩
  rw [if_neg (by omega)]
  simp [madeCells, hi, Nat.mod_one]
theorem tellW_set (s : ByteArray) (k : Nat) (vs : Array Value) (h : TellW s k vs) (hk : k < s.size + 1) : TellW s (k + 1) (vs.setIfInBounds k (.bool (okP (s.extract 0 k)))) := by
  refine ⟨by rw [Array.size_setIfInBounds]; exact h.1, fun i hi => ?_⟩
  by_cases hik : i = k
  · subst hik
    rw [if_pos (by omega)]
    have := h.1
    simp [this, hk]
  · rw [Array.getElem?_setIfInBounds_ne (Ne.symm hik), h.2 i hi]
    by_cases c : i < k
    · rw [if_pos c, if_pos (by omega)]
    · rw [if_neg c, if_neg (by omega)]
theorem tellW_skip (s : ByteArray) (k : Nat) (vs : Array Value) (h : TellW s k vs) (hno : okP (s.extract 0 k) = false) : TellW s (k + 1) vs := by
  refine ⟨h.1, fun i hi => ?_⟩
  rw [h.2 i hi]
  by_cases hik : i = k
  · subst hik
    rw [if_neg (by omega), if_pos (by omega), hno]
  by_cases c : i < k
  · rw [if_pos c, if_pos (by omega)]
  · rw [if_neg c, if_neg (by omega)]
theorem tellW_end (s : ByteArray) (vs : Array Value) (h : TellW s (rchN s + 1) vs) : vs.toList = boC (whL s (s.size + 1)) := by
  apply List.ext_getElem?
  intro i
  rw [boC_get]
  by_cases hi : i < s.size + 1
  · rw [whL_get s _ i hi, Array.getElem?_toList, h.2 i hi]
    by_cases c : i < rchN s + 1
    · rw [if_pos c]; rfl
    · rw [if_neg c, rch_past s i (by omega) (by omega)]; rfl
  · rw [List.getElem?_eq_none (l := whL s (s.size + 1)) (by rw [whL_len]; omega), Array.getElem?_toList, Array.getElem?_eq_none (xs := vs) (by rw [h.1]; omega)]
    rfl
set_option maxRecDepth 100000 in
set_option maxHeartbeats 16000000 in
theorem whole_dev (s : ByteArray) (hs : s.size ≤ 1000000) (w : World) : Calls Tryz.prog 7 #[.string s] w fun e w' => ∃ g, e = .returned (.slice (some ⟨g, 0, none⟩) (s.size + 1 : Nat) (s.size + 1 : Nat)) ∧ w.heap.size ≤ g ∧
    (∃ vs : Array Value, vs.toList = boC (whL s (s.size + 1)) ∧ Blk w' g vs 4) ∧ Below w.heap.size w w' := by
  have hmk : ∀ W : World, (Instr.makeSlice 23 (.int .i64 ((s.size : Int) + 1)) (.int .i64 ((s.size : Int) + 1))).run Tryz.prog W = .ok (.slice (some ⟨W.heap.size, 0, none⟩) (s.size + 1) (s.size + 1)) (W.alloc (.cells (madeCells #[Value.bool false] (s.size + 1)) 4)) := fun W => run_make_row' (P := Tryz.prog) 23 4 (.bool false) 1 Tryz.underlying23 infoBoolE rfl .i64 .i64 (s.size + 1) (by omega) (by omega) W
  have hx1 : IntKind.i64.wrap ((s.size : Int) + 1) = (s.size : Int) + 1 := IntWalk.i64_in _ (by omega)
  have HT := Lib.hid (tellW_zero s)
  have HE := Lib.hid (tellW_end s)
  have HBK := Lib.hid (Blk.new w (madeCells #[Value.bool false] (s.size + 1)) 4)
  have HB : Hid (Below w.heap.size w (w.alloc (.cells (madeCells #[Value.bool false] (s.size + 1)) 4))) := Lib.hid (by go_grown)
  have hz : w.heap.size + 1 = (w.alloc (.cells (madeCells #[Value.bool false] (s.size + 1)) 4)).heap.size := by simp
  have HR := Lib.hid (reach_calls s hs)
  have hrl := rch_le s
  have HWS := Lib.hid (wi_start s)
  have hx2 : IntKind.i64.wrap ((rchN s : Int) + 1) = (rchN s : Int) + 1 := IntWalk.i64_in _ (by omega)
  go_enter Tryz.func7, Tryz.ntmps7
  go_upto_region 2 with fail
  generalize w.alloc (.cells (madeCells #[Value.bool false] (s.size + 1)) 4) = w1 at *
  generalize madeCells #[Value.bool false] (s.size + 1) = vs0 at *
  clear hmk
  go_wp2_with fail
  refine (HR.out _).mono ?_
  rintro e w2 ⟨rfl, hb⟩
  replace HBK := Lib.hid (HBK.out.below hb (by omega))
  replace HB := Lib.hid (HB.out.trans (hb.mono (by omega)))
  clear HR hb hz
  have hx2' := hx2
  go_wp2_with fail
  go_loopw [4, 5, 17] (fun v4 v5 v17 wr => ∃ (k a : Nat) (o : Int) (vs : Array Value), k ≤ rchN s + 1 ∧ v17 = .int .i64 k ∧ v4 = .int .i64 a ∧ v5 = .int .i64 o ∧ a ≤ s.size ∧ -(k : Int) ≤ o ∧ o ≤ (k : Int) ∧ WI s k a o ∧ TellW s k vs ∧ Blk wr w.heap.size vs 4 ∧ Below w.heap.size w wr) (fun _ _ v17 _ => rchN s + 1 - (intOf v17).toNat)
  case atStart => exact ⟨0, 0, 0, vs0, Nat.zero_le _, rfl, rfl, rfl, Nat.zero_le _, by omega, by omega, HWS.out, HT.out, HBK.out, HB.out⟩
  case round =>
    clear HWS HT HBK HB
    obtain ⟨k, a, o, vs, hk, rfl, rfl, rfl, ha, ho1, ho2, hW, hT, hK, hB⟩ := hrel
    have xk : IntKind.i64.wrap ((k : Int) + 1) = (k : Int) + 1 := IntWalk.i64_in _ (by omega)
    by_cases hlt : k < rchN s + 1
    · have q1 : decide ((k : Int) < (rchN s : Int) + 1) = true := by rw [decide_eq_true_iff]; omega
      by_cases hne : k = a
      · subst hne
        have hok := wi_ok s k o hW (by omega)
        have hts := tellW_set s k vs hT (by omega)
        rw [hok] at hts
        have hsz := hT.1
        have cK : (vs[k]?).isSome = true := by rw [Array.getElem?_eq_getElem (by omega)]; rfl
        obtain ⟨old, hold⟩ : ∃ old, vs[k]? = some old := ⟨_, Array.getElem?_eq_getElem (by omega)⟩
        have ck := (hK.cell k).trans hold
        have fk := hK.frozen k
        have dk : (k : Int) < (s.size : Int) + 1 := by omega
        have hww := wi_word s k o hW (by omega)
        have hwn := wi_none s k o hW (by omega)
        have hfin := word_fin s k
        have hN := next5_dev s hs k
        generalize hX : nextN s k = X at *
        obtain ⟨⟨xk', xa, xf, xs, xn, xm⟩, e, p⟩ := X
        have HN : Hid (∀ w, Calls Tryz.prog 15 #[.string s, .int .i64 k] w fun en w' => en = .returned (.tuple #[.agg (woI xk' xa xf xs xn xm), .int .i64 e, .int .i64 p]) ∧ Below w.heap.size w w') := Lib.hid hN
        have HK := Lib.hid hK
        have HB := Lib.hid hB
        have HTS := Lib.hid hts
        clear hN hK hB hT hW hok hold cK hX hts
        have hod : (o == 0) = decide (o = 0) := by
          by_cases h0 : o = 0
          · subst h0; rfl
          · rw [decide_eq_false h0, beq_eq_false_iff_ne]; exact h0
        go_upto_region 8 with fail
        have hK2 := HK.out.set k (.bool (o == 0))
        have hB2 := below_set HB.out (Nat.le_refl _) k (.bool (o == 0))
        rw [hod] at hK2 hB2
        clear HK HB ck fk hod
        generalize wr.setCell ⟨w.heap.size, k, none⟩ (.bool (decide (o = 0))) = wy at *
        have HK := Lib.hid hK2
        have HB := Lib.hid hB2
        have hgw : w.heap.size < wy.heap.size := hK2.lt
        clear hK2 hB2
        by_cases he : e = 0
        · subst he
          obtain ⟨f1, f2⟩ := hfin _ _ rfl
          simp only at f1 f2
          have HW := Lib.hid (hww _ _ rfl)
          obtain ⟨n1, n2⟩ := opN_le xk'
          have HO := Lib.hid (opened_calls xk' xa xf xs xn xm)
          have xo : IntKind.i64.wrap (o + opN xk') = o + opN xk' := IntWalk.i64_in _ (by omega)
          clear hww hwn hfin
          go_wp2_with fail
          refine (HN.out _).mono ?_
          rintro en w3 ⟨rfl, hb⟩
          replace HK := Lib.hid (HK.out.below hb hgw)
          replace HB := Lib.hid (HB.out.trans (hb.mono HB.out.size))
          clear HN hb
          go_wp2_with fail
          have hK4 := HK.out.alloc (.cells (woI xk' xa xf xs xn xm) 40)
          have hB4 := HB.out.alloc HB.out.size (.cells (woI xk' xa xf xs xn xm) 40)
          have hO := HO.out (w3.alloc (.cells (woI xk' xa xf xs xn xm) 40))
          clear HK HB HO
          generalize w3.alloc (.cells (woI xk' xa xf xs xn xm) 40) = w4 at *
          refine hO.mono ?_
          rintro en w5 ⟨rfl, hb⟩
          have HK := Lib.hid (hK4.below hb hK4.lt)
          have HB := Lib.hid (hB4.trans (hb.mono hB4.size))
          clear hO hb hK4 hB4
          go_wp2_with fail
          go_roundw
          case rel => exact ⟨k + 1, xf, o + opN xk', _, by omega, by simp, rfl, rfl, f2, by omega, by omega, HW.out, HTS.out, HK.out, HB.out⟩
          case measure => simp [intOf]; omega
        · have qe : ((e : Int) == 0) = false := by rw [beq_eq_false_iff_ne]; omega
          have HW := Lib.hid (hwn he)
          clear hww hwn hfin
          go_wp2_with fail
          refine (HN.out _).mono ?_
          rintro en w3 ⟨rfl, hb⟩
          replace HK := Lib.hid (HK.out.below hb hgw)
          replace HB := Lib.hid (HB.out.trans (hb.mono HB.out.size))
          clear HN hb
          go_wp2_with fail
          go_roundw
          case rel => exact ⟨k + 1, k, o, _, by omega, by simp, rfl, rfl, by omega, by omega, by omega, HW.out, HTS.out, HK.out.alloc _, HB.out.alloc HB.out.size _⟩
          case measure => simp [intOf]; omega
      · have hs2 := wi_skip s k a o hW (by omega) hne
        have HW := Lib.hid hs2.2
        have HT := Lib.hid (tellW_skip s k vs hT hs2.1)
        have HK := Lib.hid hK
        have HB := Lib.hid hB
        have q2 : ((k : Int) != (a : Int)) = true := by rw [bne_iff_ne]; omega
        clear hs2 hW hT hK hB
        go_wp2_with fail
        go_roundw
        case rel => exact ⟨k + 1, a, o, vs, by omega, by simp, rfl, rfl, ha, by omega, by omega, HW.out, HT.out, HK.out, HB.out⟩
        case measure => simp [intOf]; omega
    · obtain rfl : k = rchN s + 1 := by omega
      have q1 : decide (((rchN s + 1 : Nat) : Int) < (rchN s : Int) + 1) = false := by rw [decide_eq_false_iff_not]; omega
      have HK := Lib.hid hK
      have HB := Lib.hid hB
      have HL := Lib.hid (HE.out vs hT)
      clear hK hB hT hW
      go_wp2_with fail
      exact bodyPost_ret (v := _) (by simp [results, Tryz.results7, go_sem] <;> rfl) rfl ⟨_, rfl, Nat.le_refl _, ⟨vs, HL.out, HK.out⟩, HB.out⟩
end Go.Proofs.YtldaaelmifbbhaaGreat

/- The package finish does what the laws want of it. Stage 8. -/
namespace Go.Proofs.YtldaaelmifbbhaaGreat
open Go.RowKit BS

theorem finC : FinishC where
  finish := fun s hs => by
    cases hb : begN s with
    | false => exact ⟨⟨#[]⟩, by decide, (fun h => by cases h), fun _ => rfl, fun w => finish_no s (by omega) hb w⟩
    | true =>
      obtain ⟨h1, h2⟩ := finish_lack s hb (lackG5 s ((lastN s (s.size + 1) 0 : Nat) : Int)) (lackG5_ok s _)
      have ho := open_le (s ++ lackG5 s ((lastN s (s.size + 1) 0 : Nat) : Int))
      have hF := finish_yes s hs hb _ h1 _ ho rfl rfl
      generalize lackG5 s ((lastN s (s.size + 1) 0 : Nat) : Int) = l at *
      refine ⟨l ++ shuts (parseN (s ++ l)).2.1, by rw [ByteArray.size_append, shuts_size]; omega, fun _ => ?_, (fun h => by cases h), hF⟩
      rw [← ByteArray.append_assoc]
      exact h2
  begins := fun s hs w => begins_dev s (by omega) w
  whole := fun s hs w => (whole_dev s (by omega) w).mono fun _ _ ⟨g, h1, h2, ⟨vs, h3, h5⟩, h4⟩ => by
    have hl : (boC (whL s (s.size + 1))).length = s.size + 1 := by rw [boC_len, whL_len]
    have hz : vs.size = s.size + 1 := by rw [← hl, ← h3]; exact Array.length_toList.symm
    exact ⟨_, h1, ⟨by rw [hl]; omega, .inr ⟨g, s.size + 1, vs, rfl, h2, h5, Nat.le_refl _, by unfold maxLen; omega, by rw [hz]; omega, by rw [h3, List.take_of_length_le (by rw [hl]; omega)]⟩⟩, h4⟩
end Go.Proofs.YtldaaelmifbbhaaGreat

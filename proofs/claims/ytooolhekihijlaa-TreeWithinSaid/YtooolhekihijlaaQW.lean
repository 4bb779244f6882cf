/- Texts put together: Tse Tsk. -/
import Derived.Test.YtooolhekihijlaaQS
import Derived.Test.YtooolhekihijlaaQR
import Derived.Test.YtooolhekihijlaaQV
/- The list that frames tell: the developers' Of. Stage 14. -/
namespace Go.Proofs.Ytooolhekihijlaa
open Go.RowKit BS

/-- All numbers of rows are numbers of the machine. -/
def rangeR (fr : List (List Int)) : Prop := ∀ row ∈ fr, ∀ s ∈ row, -9223372036854775808 ≤ s ∧ s < 9223372036854775808
theorem infoBld : (Try.prog.info? 60).map (·.size) = some 2 := by kernel_rfl
theorem bld_new (W : World) : BldS W.heap.size W.heap.size [] [] (W.alloc (.cells #[.slice none 0 0, .slice none 0 0] 60)) :=
  ⟨⟨none, 0, none, 0, Blk.new W _ _, OwE.nil _ _, OwI.nil _ _, fun g h => (by cases h), fun g h => (by cases h)⟩, Nat.le_refl _⟩
set_option maxRecDepth 100000 in
set_option maxHeartbeats 32000000 in
theorem ofD_calls (fr : List (List Int)) (hn : fr.length ≤ 10000) (hm : fr.flatten.length ≤ 10000) (hrg : rangeR fr) (a : Option Addr) (cp : Nat) (W : World) (hR : RowsAt fr a W) :
    Calls Try.prog 14 #[.slice a fr.length cp] W fun e W' => ∃ b c, e = .returned (.tuple #[.slice b (listT fr).1.length c, .bool (listT fr).2]) ∧ EntsAt (listT fr).1 b W' ∧ Below W.heap.size W W' := by
  obtain ⟨LT, hLT⟩ : ∃ LT, LT = listT fr := ⟨_, rfl⟩
  have hdev := listT_dev fr
  rw [← hLT] at hdev ⊢
  have hB0 := Lib.hid (bld_new W)
  have hBW := Lib.hid ((Below.refl W.heap.size W).alloc (Nat.le_refl _) (.cells #[.slice none 0 0, .slice none 0 0] 60))
  obtain ⟨OT, hOT⟩ : ∃ OT, OT = ofRowsD 0 ⟨[], [], false⟩ fr := ⟨_, rfl⟩
  rw [← hOT] at hdev
  have HDEV := Lib.hid hdev
  have HOT := Lib.hid hOT
  have HRR := Lib.hid hR
  have HRG := Lib.hid hrg
  clear hdev hLT hOT hR hrg
  go_enter Try.func14, Try.ntmps14
  go_upto_region 2 with fail
  generalize W.alloc (.cells #[.slice none 0 0, .slice none 0 0] 60) = w1 at *
  go_wp2_with fail
  go_loopw [11] (fun vi wr => ∃ (i : Nat) (st : OfS), i ≤ fr.length ∧ vi = .int .i64 i ∧ OfInv st ∧ BldS W.heap.size W.heap.size st.out st.op wr ∧ OT = ofRowsD i st (fr.drop i) ∧ st.out.length + (fr.drop i).flatten.length ≤ 10000 ∧ st.op.length + (fr.drop i).flatten.length ≤ 10000 ∧ Below W.heap.size W wr) (fun vi _ => fr.length - (intOf vi).toNat)
  case atStart => exact ⟨0, ⟨[], [], false⟩, Nat.zero_le _, rfl, inv_init, hB0.out, by rw [List.drop_zero]; exact HOT.out, by simpa using hm, by simpa using hm, hBW.out⟩
  case round =>
    obtain ⟨i, st, hi, rfl, hinv, hb, hot, hl1, hl2, hB⟩ := hrel
    clear hB0 hBW HOT
    by_cases hlt : i < fr.length
    · have p1 : decide ((i : Int) < (fr.length : Int)) = true := by rw [decide_eq_true_iff]; omega
      have p2 : decide (i < fr.length) = true := decide_eq_true hlt
      have p4 : (i : Int) < (fr.length : Int) := by omega
      have xi : IntKind.i64.wrap ((i : Int) + 1) = (i : Int) + 1 := IntWalk.i64_in _ (by omega)
      obtain ⟨g, off, rfl, hg, hc⟩ := HRR.out (by rintro rfl; simp at hlt)
      obtain ⟨ra, rc, hcell, hints⟩ := hc i hlt
      have c0 := (hB.cell (p := ⟨g, off + i, none⟩) hg).trans hcell
      have hrow := HRG.out fr[i] (List.getElem_mem hlt)
      rw [List.drop_eq_getElem_cons hlt] at hot hl1 hl2
      rw [ofRowsD] at hot
      simp only [List.flatten_cons, List.length_append] at hl1 hl2
      have hdl : (fr.drop (i + 1)).flatten.length ≤ 10000 := by omega
      generalize fr[i] = row at *
      have HOT := Lib.hid hot
      have HINT := Lib.hid hints
      have HROW := Lib.hid hrow
      have HBS := Lib.hid hb
      have HBB := Lib.hid hB
      have HINV := Lib.hid hinv
      obtain ⟨OR, hOR⟩ : ∃ OR, OR = ofRow (i : Int) st row := ⟨_, rfl⟩
      rw [← hOR] at HOT
      have HOR := Lib.hid hOR
      clear hc hcell hints hrow hot hb hB hinv hOR
      go_wp2_with fail
      go_loopw [18] (fun vk wq => ∃ (k : Nat) (s2 : OfS), k ≤ row.length ∧ vk = .int .i64 k ∧ OfInv s2 ∧ BldS W.heap.size W.heap.size s2.out s2.op wq ∧ OR = ofRow (i : Int) s2 (row.drop k) ∧ s2.out.length + (row.length - k) + (fr.drop (i + 1)).flatten.length ≤ 10000 ∧ s2.op.length + (row.length - k) + (fr.drop (i + 1)).flatten.length ≤ 10000 ∧ Below W.heap.size W wq) (fun vk _ => row.length - (intOf vk).toNat)
      case atStart => exact ⟨0, st, Nat.zero_le _, rfl, HINV.out, HBS.out, by rw [List.drop_zero]; exact HOR.out, by omega, by omega, HBB.out⟩
      case round =>
        obtain ⟨k, s2, hk, rfl, hinv, hb, hor, hk1, hk2, hB⟩ := hrel
        clear HINV HBS HBB HOR
        by_cases hklt : k < row.length
        · have q1 : decide ((k : Int) < (row.length : Int)) = true := by rw [decide_eq_true_iff]; omega
          have q2 : decide (k < row.length) = true := decide_eq_true hklt
          have q4 : (k : Int) < (row.length : Int) := by omega
          have xk : IntKind.i64.wrap ((k : Int) + 1) = (k : Int) + 1 := IntWalk.i64_in _ (by omega)
          obtain ⟨g2, o2, rfl, hg2, hc2⟩ := HINT.out (by rintro rfl; simp at hklt)
          have d0 := (hB.cell (p := ⟨g2, o2 + k, none⟩) hg2).trans (hc2 k hklt)
          have hrs := HROW.out row[k] (List.getElem_mem hklt)
          rw [List.drop_eq_getElem_cons hklt, ofRow] at hor
          generalize row[k] = s at *
          have HST := Lib.hid (step_calls hinv (by omega) (by omega) s hrs.1 hrs.2 i (by omega) _ hb)
          have HIN2 := Lib.hid (fun st' => @ofS_inv (i : Int) s2 st' s hinv)
          have HBB := Lib.hid hB
          have HOR := Lib.hid hor
          obtain ⟨O2, hO2⟩ : ∃ O2, O2 = ofS (i : Int) s2 s := ⟨_, rfl⟩
          rw [← hO2] at HST HIN2 HOR
          clear hc2 hor hb hB hinv hO2 hrs
          go_wp2_with fail
          refine HST.out.mono ?_
          rintro e w3 ⟨hr, hb3⟩
          have HB3 := Lib.hid (HBB.out.trans hb3)
          clear hb3 HST
          cases O2 with
          | none =>
            obtain rfl := hr
            have HL := Lib.hid (show LT = ([], false) by
              have h1 : OR = none := HOR.out
              have h2 := HOT.out
              rw [h1] at h2
              have h3 : OT = none := h2
              have h4 := HDEV.out
              rw [h3] at h4
              exact h4.symm)
            go_wp2_with fail
            go_ret2
            rw [HL.out]
            exact ⟨none, 0, rfl, fun h => absurd rfl h, HB3.out⟩
          | some s3 =>
            obtain ⟨rfl, hx⟩ := hr
            have HX := Lib.hid hx
            obtain ⟨hi3, _, hl3, hl4⟩ := HIN2.out s3 rfl
            have HI3 := Lib.hid hi3
            have HOR2 := Lib.hid (show OR = ofRow (i : Int) s3 (row.drop (k + 1)) from HOR.out)
            clear hx hi3 HIN2 HOR
            go_wp2_with fail
            go_roundw
            case rel => exact ⟨k + 1, s3, by omega, by simp, HI3.out, HX.out, HOR2.out, by omega, by omega, HB3.out⟩
            case measure => simp [intOf]; omega
        · obtain rfl : k = row.length := by omega
          rw [List.drop_eq_nil_of_le (Nat.le_refl _), ofRow] at hor
          have HOT2 := Lib.hid (show OT = ofRowsD (i + 1) s2 (fr.drop (i + 1)) by
            have h2 := HOT.out
            rw [hor] at h2
            exact h2)
          have HX := Lib.hid hb
          have HI3 := Lib.hid hinv
          have HB3 := Lib.hid hB
          clear hb hinv hB hor HOT
          go_wp2_with fail
          go_roundw
          case rel => exact ⟨i + 1, s2, by omega, by simp, HI3.out, HX.out, HOT2.out, by omega, by omega, HB3.out⟩
          case measure => simp [intOf]; omega
    · obtain rfl : i = fr.length := by omega
      rw [List.drop_eq_nil_of_le (Nat.le_refl _), ofRowsD] at hot
      rw [hot] at HDEV
      have HL := Lib.hid (show LT = if st.done = true ∧ (atE st.out 0).to = (fr.length : Int) - 1 then (st.out, true) else ([], false) from HDEV.out.symm)
      have hdn : decide (st.out ≠ [] ∧ st.op = []) = st.done := by rw [Bool.eq_iff_iff, decide_eq_true_iff]; exact hinv.dn.symm
      have HEN := Lib.hid (ended_calls wr hb)
      rw [hdn] at HEN
      have hne := hinv.dn
      obtain ⟨av, cv, au, cu, h1, h2, _⟩ := hb.ex
      have c0 := h1.cell 0
      simp only [List.getElem?_toArray, List.getElem?_cons_zero] at c0
      have HB3 := Lib.hid hB
      have HE := Lib.hid h2.ents
      clear hot HDEV hdn hinv hb h1 h2 hB
      cases hd : st.done with
      | false =>
        rw [hd] at HEN
        have HL2 := Lib.hid (show LT = ([], false) by rw [HL.out, if_neg (fun h => by rw [hd] at h; cases h.1)])
        clear HL hne hd
        go_wp2_with fail
        refine HEN.out.mono ?_
        rintro e w3 ⟨rfl, rfl⟩
        go_wp2_with fail
        go_ret2
        rw [HL2.out]
        exact ⟨none, 0, rfl, fun h => absurd rfl h, HB3.out⟩
      | true =>
        rw [hd] at HEN
        have hno : st.out ≠ [] := (hne.1 hd).1
        have hpos : 0 < st.out.length := List.length_pos_iff.2 hno
        have r4 : (0 : Int) < (st.out.length : Int) := by omega
        obtain ⟨gv, ov, rfl, hgv, hcv⟩ := HE.out hno
        have d3 := hcv 0 hpos 3 (by decide)
        rw [← atE_lt st.out 0 hpos] at d3
        simp only [enA, List.getElem?_toArray, List.getElem?_cons_zero, List.getElem?_cons_succ, Nat.zero_mul, Nat.add_zero] at d3
        have xl : IntKind.i64.wrap ((fr.length : Int) - 1) = (fr.length : Int) - 1 := IntWalk.i64_in _ (by omega)
        by_cases hto : (atE st.out 0).to = (fr.length : Int) - 1
        · have HL2 := Lib.hid (show LT = (st.out, true) by rw [HL.out, if_pos ⟨hd, hto⟩])
          generalize (atE st.out 0).to = z at *
          subst hto
          clear HL hne hd hcv
          go_wp2_with fail
          refine HEN.out.mono ?_
          rintro e w3 ⟨rfl, rfl⟩
          go_wp2_with fail
          go_ret2
          rw [HL2.out]
          exact ⟨_, _, rfl, HE.out, HB3.out⟩
        · have HL2 := Lib.hid (show LT = ([], false) by rw [HL.out, if_neg (fun h => hto h.2)])
          have q1 : ((atE st.out 0).to == (fr.length : Int) - 1) = false := beq_eq_false_iff_ne.2 hto
          generalize (atE st.out 0).to = z at *
          clear HL hne hd hcv hto
          go_wp2_with fail
          refine HEN.out.mono ?_
          rintro e w3 ⟨rfl, rfl⟩
          go_wp2_with fail
          go_ret2
          rw [HL2.out]
          exact ⟨none, 0, rfl, fun h => absurd rfl h, HB3.out⟩
end Go.Proofs.Ytooolhekihijlaa

/- What frames hold, plainly; few. Stage 14. -/
namespace Go.Proofs.Ytooolhekihijlaa
open Go.RowKit BS

theorem ev_nodes : ∀ (F : Fo) (d : Int) (x : Int × Int), x ∈ evF F → ∃ y ∈ flF d F, x.2 = 2 * y.node ∨ x.2 = 2 * y.node + 1 := by
  intro F
  induction F with
  | nil => intro d x hx; cases hx
  | cons n f e ks rest ih1 ih2 =>
    intro d x hx
    have e1 : flF d (.cons n f e ks rest) = ⟨d, n, f, e⟩ :: (flF (d + 1) ks ++ flF d rest) := rfl
    rw [e1]
    have hx' : x ∈ ((f : Int), 2 * (n : Int)) :: (evF ks ++ ((e : Int), 2 * (n : Int) + 1) :: evF rest) := hx
    rcases List.mem_cons.1 hx' with rfl | hx'
    · exact ⟨_, List.mem_cons_self .., .inl rfl⟩
    · rcases List.mem_append.1 hx' with hx' | hx'
      · obtain ⟨y, hy, h⟩ := ih1 (d + 1) x hx'
        exact ⟨y, List.mem_cons_of_mem _ (List.mem_append_left _ hy), h⟩
      · rcases List.mem_cons.1 hx' with rfl | hx'
        · exact ⟨_, List.mem_cons_self .., .inr rfl⟩
        · obtain ⟨y, hy, h⟩ := ih2 d x hx'
          exact ⟨y, List.mem_cons_of_mem _ (List.mem_append_right _ hy), h⟩
theorem frEvents_len (t : List EnN) : (frEvents t).length ≤ 2 * t.length := by
  have h1 := frRun_len t ([], [])
  have h2 := close_len 0 (frRun ([], []) t).2
  unfold frEvents
  rw [List.length_append]
  simp only [List.length_nil] at h1
  omega
/-- Of a parse tree's frames: how many steps they have, that these are small, and that they tell the tree. -/
theorem frames_tree (l : List NdN) (hl : l.length ≤ 1000) (w : List Nat) (t : List EnN) (ht : t.length ≤ 1000) (h : treeT l w t = true) :
    (framesT l w t).flatten.length ≤ 2000 ∧ rangeR (framesT l w t) ∧ listT (framesT l w t) = (t, true) := by
  obtain ⟨hrt, ks, hok, hteq⟩ := (tree_iff l w t).1 h
  have hpos : 0 < l.length := (rightT_q l hrt).pos
  have hev : frEvents t = evF (.cons (l.length - 1) 0 w.length ks .nil) := by rw [hteq, fr_tree _ 1 (by omega)]
  have hF : framesT l w t = rowsE (evF (.cons (l.length - 1) 0 w.length ks .nil)) (w.length + 1) := by unfold framesT; rw [if_pos h, hev]
  have hasc := ev_asc (.cons (l.length - 1) 0 w.length ks .nil) 0 w.length hok ⟨Nat.le_refl _, Nat.zero_le _, Nat.le_refl _⟩
  refine ⟨?_, ?_, ?_⟩
  · rw [hF, rows_flat _ hasc.1 (w.length + 1) (fun x hx => by have := (hasc.2 x hx).1; omega), List.length_map]
    refine Nat.le_trans (List.length_filter_le _ _) ?_
    rw [← hev]
    have := frEvents_len t
    omega
  · rw [hF]
    intro row hr s hs
    unfold rowsE at hr
    obtain ⟨j, _, rfl⟩ := List.mem_map.1 hr
    unfold rowF at hs
    obtain ⟨x, hx, rfl⟩ := List.mem_map.1 hs
    obtain ⟨y, hy, hxy⟩ := ev_nodes _ 1 x (List.mem_filter.1 hx).1
    obtain ⟨h1, h2, _⟩ := nodes_in (parts_ok l hrt) _ 1 l.length (Nat.le_refl _) hok (fun r hr => by simp [rootsO] at hr; rw [hr]; simp; omega) y hy
    omega
  · rw [hF, of_frames (l.length - 1) ks hok, ← hteq]
theorem ofRows_len (n : Nat) : ∀ (rows : List (List Int)) (i : Nat) (st st' : OfS), OfInv st → ofRows n i st rows = some st' → st'.out.length ≤ st.out.length + rows.flatten.length
  | [], i, st, st', _, e => by cases e; simp
  | row :: r, i, st, st', hi, e => by
    rw [ofRows] at e
    cases h1 : ofRow (i : Int) st row with
    | none => rw [h1] at e; cases e
    | some s1 =>
      rw [h1] at e
      simp only [Option.bind_some] at e
      obtain ⟨hi1, _, hl1, _⟩ := ofRow_inv row hi h1
      split at e
      · cases e
      · have := ofRows_len n r (i + 1) s1 st' hi1 e
        simp only [List.flatten_cons, List.length_append]
        omega
theorem listT_len (fr : List (List Int)) : (listT fr).1.length ≤ fr.flatten.length := by
  unfold listT
  split
  · rename_i st h
    have := ofRows_len _ _ _ _ _ inv_init h
    simp only [List.length_nil, Nat.zero_add] at this
    split
    · exact this
    · simp
  · simp
theorem take_flat (F : List (List Int)) (i : Nat) (h : i < F.length) : (F.take (i + 1)).flatten.length = (F.take i).flatten.length + F[i].length := by
  rw [List.take_succ_eq_append_getElem h, List.flatten_append, List.length_append]
  simp
set_option maxRecDepth 100000 in
set_option maxHeartbeats 4000000 in
theorem few14_calls (l w t : Nat) (a b c : Option Addr) (ca cb cc : Nat) (W : World) (hl : l ≤ 9223372036854775807) (hw : w ≤ 9223372036854775807) (ht : t ≤ 9223372036854775807) :
    Calls Try.prog 10 #[.slice a l ca, .slice b w cb, .slice c t cc] W fun e W' => e = .returned (.bool (decide (l ≤ 60 ∧ w ≤ 60 ∧ t ≤ 600))) ∧ W = W' := by
  obtain ⟨E, hE⟩ : ∃ E, E = decide (l ≤ 60 ∧ w ≤ 60 ∧ t ≤ 600) := ⟨_, rfl⟩
  rw [← hE]
  by_cases h1 : l ≤ 60
  · have q1 : decide (l ≤ 60) = true := decide_eq_true h1
    have q2 : decide ((l : Int) ≤ 60) = true := by rw [decide_eq_true_iff]; omega
    by_cases h2 : w ≤ 60
    · have q3 : decide (w ≤ 60) = true := decide_eq_true h2
      have q4 : decide ((w : Int) ≤ 60) = true := by rw [decide_eq_true_iff]; omega
      by_cases h3 : t ≤ 600
      · have q5 : decide (t ≤ 600) = true := decide_eq_true h3
        have q6 : decide ((t : Int) ≤ 600) = true := by rw [decide_eq_true_iff]; omega
        have HX := Lib.hid (show E = true by rw [hE, decide_eq_true ⟨h1, h2, h3⟩])
        clear hE h1 h2 h3
        go_enter Try.func10, Try.ntmps10
        go_wp2_with fail
        go_ret
        exact ⟨by rw [HX.out] <;> rfl, rfl⟩
      · have q5 : decide (t ≤ 600) = false := decide_eq_false h3
        have q6 : decide ((t : Int) ≤ 600) = false := by rw [decide_eq_false_iff_not]; omega
        have HX := Lib.hid (show E = false by rw [hE]; exact decide_eq_false (fun h => h3 h.2.2))
        clear hE h1 h2 h3
        go_enter Try.func10, Try.ntmps10
        go_wp2_with fail
        go_ret
        exact ⟨by rw [HX.out] <;> rfl, rfl⟩
    · have q3 : decide (w ≤ 60) = false := decide_eq_false h2
      have q4 : decide ((w : Int) ≤ 60) = false := by rw [decide_eq_false_iff_not]; omega
      have HX := Lib.hid (show E = false by rw [hE]; exact decide_eq_false (fun h => h2 h.2.1))
      clear hE h1 h2
      go_enter Try.func10, Try.ntmps10
      go_wp2_with fail
      go_ret
      exact ⟨by rw [HX.out] <;> rfl, rfl⟩
  · have q1 : decide (l ≤ 60) = false := decide_eq_false h1
    have q2 : decide ((l : Int) ≤ 60) = false := by rw [decide_eq_false_iff_not]; omega
    have HX := Lib.hid (show E = false by rw [hE]; exact decide_eq_false (fun h => h1 h.1))
    clear hE h1
    go_enter Try.func10, Try.ntmps10
    go_wp2_with fail
    go_ret
    exact ⟨by rw [HX.out] <;> rfl, rfl⟩
end Go.Proofs.Ytooolhekihijlaa

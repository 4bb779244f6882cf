/- Texts put together: Twe. -/
import Derived.Test.YtdpkhliojbeglaaDoorQAi
import Derived.Test.YtdpkhliojbeglaaDoorQY
import Derived.Test.YtdpkhliojbeglaaDoorQZ
import Derived.Test.YtdpkhliojbeglaaDoorQW
import Derived.Test.YtdpkhliojbeglaaDoorQAh
import Derived.BigQuiet
import Derived.WalkLawsBesides
/- Stage 15: LeastWord. -/
namespace Go.Proofs.YtdpkhliojbeglaaDoor
open Go.RowKit BS

/-- What LeastWord says, plainly. -/
theorem word_cases (l : List NdN) (w : List Nat) (hr : rightT l = true) (hw : w.length ≤ 64) (hl : l.length ≤ 64) :
    (wordI l = false ∧ treeV l w = ([], 7)) ∨
    (wordI l = true ∧ (wordL l).length ≤ l.length ∧ (∀ x ∈ wordL l, x < 256) ∧ (∃ a, treeV l (wordL l) = (a, 0)) ∧ (treeV l w = ([], 7) ∨ (∃ a, treeV l w = (a, 0)) ∧ sle (wordL l) w)) := by
  have h0 : 0 < l.length := (rightT_q l hr).pos
  have hP := parts_ok l hr
  obtain ⟨e1, e2⟩ := word_is l hr
  rw [e1, e2]
  have e := treeV_3 (w := w) hr (by omega)
  have hlen := wdL_len l hr (l.length - 1) (by omega)
  have hlw : (∃ a, treeV l w = (a, 0)) ∧ wdI l (l.length - 1) = true ∧ sle (wdL l (l.length - 1)) w ∨ treeV l w = ([], 7) := by
    by_cases hc : canB l w (l.length - 1) 0 w.length = true
    · obtain ⟨h1, h2⟩ := word_least hr w l.length (l.length - 1) (by omega) (by omega) _ _ ((can_iff hP _ _ _ (by omega) (Nat.zero_le _) (Nat.le_refl _)).1 hc)
      have e3 : cutL w 0 w.length = w := by unfold cutL; simp
      rw [e3] at h2
      exact .inl ⟨⟨_, by rw [e, if_pos hc]⟩, h1, h2⟩
    · exact .inr (by rw [e, if_neg hc])
  cases hi : wdI l (l.length - 1)
  · rcases hlw with ⟨_, h, _⟩ | h
    · rw [hi] at h; cases h
    · exact .inl ⟨rfl, h⟩
  · have hc := word_can hr l.length (l.length - 1) (by omega) (by omega) hi
    have ew := treeV_3 (w := wdL l (l.length - 1)) hr (by omega)
    rw [if_pos ((can_iff hP _ _ _ (by omega) (Nat.zero_le _) (Nat.le_refl _)).2 hc)] at ew
    refine .inr ⟨rfl, hlen, wdL_lt l hr _ (by omega), ⟨_, ew⟩, ?_⟩
    rcases hlw with ⟨h1, _, h2⟩ | h
    · exact .inr ⟨h1, h2⟩
    · exact .inl h
theorem RowV.bts {L : List Nat} {a : Option Addr} {n c : Nat} {W : World} (h : RowV L (.slice a n c) W) : BtsAt L a W := fun hne => by
  rcases h with ⟨_, h⟩ | ⟨g, o, c', e, hg, hc⟩
  · exact absurd h hne
  · cases e; exact ⟨g, o, rfl, hg, hc⟩
theorem BtsAt.text {L : List Nat} {a : Option Addr} {W : World} (h : BtsAt L a W) (c : Nat) : (convert 23 9 (.slice a L.length c)).run Tryd.prog W = .ok (.string (ofT L)) W := by
  by_cases hne : L = []
  · subst hne
    cases a with
    | none => exact run_convert_bytes_nil (P := Tryd.prog) W 23 5 Tryd.underlying23 Tryd.underlying5 0 c 9 Tryd.underlying9
    | some p =>
      have hl : (loadCells p 0).run Tryd.prog W = .ok (([] : List Int).map (Value.int .u8)).toArray W := by
        have := run_loadCells_list (P := Tryd.prog) W p (([] : List Int).map (Value.int .u8)) (fun j v hj => by simp at hj)
        simpa using this
      rw [List.length_nil, run_convert_bytes_string W _ _ 5 _ 0 c Tryd.underlying23 Tryd.underlying5 Tryd.underlying9, run_bytesToString W p 0 c [] hl]
      rfl
  · obtain ⟨g, o, rfl, hg, hc⟩ := h hne
    exact RowV.text (.inr ⟨g, o, c, rfl, hg, hc⟩)
set_option maxRecDepth 100000 in
set_option maxHeartbeats 32000000 in
theorem leastWord_calls (l : List NdN) (hl : l.length ≤ 9223372036854775807) (w : List Nat) (hw : w.length ≤ 9223372036854775807) (hw8 : ∀ x ∈ w, x < 256)
    (ad wd : Option Addr) (cl cw : Nat) (W : World) (hN : NodesAt l ad W) (hT : BtsAt w wd W) (hG : GTab W) :
    Calls Tryd.prog 7 #[.slice ad l.length cl, .slice wd w.length cw] W fun e W' => e = .returned (.bool true) ∧ Below W.heap.size W W' := by
  have HSU := Lib.hid (fun (W' : World) (h : Below W.heap.size W W') => sure15_calls W' (hG.keep h))
  have HFEW := Lib.hid (few15_calls l.length w.length ad wd cl cw W hl hw)
  have HN := Lib.hid hN
  have HT := Lib.hid hT
  have HG := Lib.hid hG
  obtain ⟨FB, hFB⟩ : ∃ FB, FB = decide (l.length ≤ 40 ∧ w.length ≤ 24) := ⟨_, rfl⟩
  rw [← hFB] at HFEW
  have HFB := Lib.hid hFB
  clear hN hT hFB hG
  cases FB with
  | false =>
    go_enter Tryd.func7, Tryd.ntmps7
    go_wp2_with fail
    refine HFEW.out.mono ?_
    rintro e w2 ⟨rfl, rfl⟩
    go_wp2_with fail
    refine (HSU.out _ (Below.refl _ _)).mono ?_
    rintro e w3 ⟨rfl, hb3⟩
    go_wp2_with fail
    go_ret
    exact ⟨rfl, hb3⟩
  | true =>
  obtain ⟨hl40, hw24⟩ := of_decide_eq_true HFB.out.symm
  have HRI := tRight_calls l (by omega) ad cl W HN.out
  cases hr : rightT l
  · rw [hr] at HRI
    have HRI := Lib.hid HRI
    go_enter Tryd.func7, Tryd.ntmps7
    go_wp2_with fail
    refine HFEW.out.mono ?_
    rintro e w2 ⟨rfl, rfl⟩
    go_wp2_with fail
    refine HRI.out.mono ?_
    rintro e w3 ⟨rfl, hb3⟩
    have HB3 := Lib.hid hb3
    clear hb3
    go_wp2_with fail
    refine (HSU.out _ HB3.out).mono ?_
    rintro e w4 ⟨rfl, hb4⟩
    go_wp2_with fail
    go_ret
    exact ⟨rfl, HB3.out.trans (hb4.mono HB3.out.size)⟩
  rw [hr] at HRI
  have HRI := Lib.hid HRI
  have HWO := Lib.hid (fun W' (hW : Below W.heap.size W W') => dword_calls l (by omega) ad cl W' (HG.out.keep hW).1 (HG.out.keep hW).2 (HN.out.below hW))
  have HTR := Lib.hid (fun W' (hW : Below W.heap.size W W') => treeL_calls l (by omega) w (by omega) hw8 cl cw ad wd W' (HN.out.below hW) (HT.out.below hW) (HG.out.keep hW).1 (HG.out.keep hW).2)
  rcases word_cases l w hr (by omega) (by omega) with ⟨hi, ht⟩ | ⟨hi, hsl, hs8, ⟨sa, hst⟩, hcase⟩
  · rw [hi] at HWO
    rw [ht] at HTR
    clear hi ht
    go_enter Tryd.func7, Tryd.ntmps7
    go_wp2_with fail
    refine HFEW.out.mono ?_
    rintro e w2 ⟨rfl, rfl⟩
    go_wp2_with fail
    refine HRI.out.mono ?_
    rintro e w3 ⟨rfl, hb3⟩
    have HB3 := Lib.hid hb3
    clear hb3
    go_wp2_with fail
    refine (HWO.out _ HB3.out).mono ?_
    rintro e w4 ⟨v, rfl, _, hb4⟩
    have HB4 := Lib.hid (HB3.out.trans (hb4.mono HB3.out.size))
    clear hb4 HB3
    go_wp2_with fail
    refine (HTR.out _ HB4.out).mono ?_
    rintro e w5 ⟨v2, rfl, _, hb5⟩
    have HB5 := Lib.hid (HB4.out.trans (hb5.mono HB4.out.size))
    clear hb5 HB4
    go_wp2_with fail
    refine (HSU.out _ HB5.out).mono ?_
    rintro e w6 ⟨rfl, hb6⟩
    go_wp2_with fail
    go_ret
    exact ⟨rfl, HB5.out.trans (hb6.mono HB5.out.size)⟩
  rw [hi] at HWO
  have HTS := fun W' va vc (hW : Below W.heap.size W W') (hv : BtsAt (wordL l) va W') => treeL_calls l (by omega) (wordL l) (by omega) hs8 cl vc ad va W' (HN.out.below hW) hv (HG.out.keep hW).1 (HG.out.keep hW).2
  rw [hst] at HTS
  have HTS := Lib.hid HTS
  have p1 : decide (60 < (wordL l).length) = false := decide_eq_false (by omega)
  have p2 : decide ((60 : Int) < ((wordL l).length : Int)) = false := decide_eq_false (by omega)
  clear hi hst
  generalize wordL l = S at *
  obtain ⟨er, her, hcs⟩ : ∃ er : Int, (treeV l w).2 = er ∧ (er = 7 ∨ er = 0 ∧ sle S w) := by
    rcases hcase with h | ⟨⟨a, h⟩, h2⟩
    · exact ⟨7, by rw [h], .inl rfl⟩
    · exact ⟨0, by rw [h], .inr ⟨rfl, h2⟩⟩
  rw [her] at HTR
  clear hcase her
  go_enter Tryd.func7, Tryd.ntmps7
  go_wp2_with fail
  refine HFEW.out.mono ?_
  rintro e w2 ⟨rfl, rfl⟩
  go_wp2_with fail
  refine HRI.out.mono ?_
  rintro e w3 ⟨rfl, hb3⟩
  have HB3 := Lib.hid hb3
  clear hb3
  go_wp2_with fail
  refine (HWO.out _ HB3.out).mono ?_
  rintro e w4 ⟨v, rfl, hrv, hb4⟩
  obtain ⟨va, vc, rfl⟩ := hrv.form
  have HV4 := Lib.hid hrv.bts
  have HB4 := Lib.hid (HB3.out.trans (hb4.mono HB3.out.size))
  clear hb4 HB3 hrv
  go_wp2_with fail
  refine (HTR.out _ HB4.out).mono ?_
  rintro e w5 ⟨v2, rfl, _, hb5⟩
  have HV5 := Lib.hid (HV4.out.below hb5)
  have HB5 := Lib.hid (HB4.out.trans (hb5.mono HB4.out.size))
  clear hb5 HB4 HV4
  go_wp2_with fail
  refine (HTS.out _ _ _ HB5.out HV5.out).mono ?_
  rintro e w6 ⟨v3, rfl, _, hb6⟩
  have HV6 := Lib.hid (HV5.out.below hb6)
  have HB6 := Lib.hid (HB5.out.trans (hb6.mono HB5.out.size))
  clear hb6 HB5 HV5
  rcases hcs with rfl | ⟨rfl, hsle⟩
  · go_wp2_with fail
    refine (HSU.out _ HB6.out).mono ?_
    rintro e w7 ⟨rfl, hb7⟩
    go_wp2_with fail
    go_ret
    exact ⟨rfl, HB6.out.trans (hb7.mono HB6.out.size)⟩
  rw [sle_iff] at hsle
  by_cases hlt : S.length < w.length
  · have r1 : decide (S.length < w.length) = true := decide_eq_true hlt
    have r2 : decide ((S.length : Int) < (w.length : Int)) = true := decide_eq_true (by omega)
    clear hsle hlt
    go_wp2_with fail
    refine (HSU.out _ HB6.out).mono ?_
    rintro e w7 ⟨rfl, hb7⟩
    go_wp2_with fail
    go_ret
    exact ⟨rfl, HB6.out.trans (hb7.mono HB6.out.size)⟩
  · have r1 : decide (S.length < w.length) = false := decide_eq_false hlt
    have r2 : decide ((S.length : Int) < (w.length : Int)) = false := decide_eq_false (by omega)
    have r3 : decide (w.length = S.length) = true := decide_eq_true (by omega)
    have r4 : ((w.length : Int) == (S.length : Int)) = true := by rw [beq_iff_eq]; omega
    have c1 := (HT.out.below HB6.out).text cw
    have c2 := HV6.out.text vc
    have hls : Op.bytesLess (ofT w).toList (ofT S).toList = false := by
      rw [toL_ofT, toL_ofT, less_ofT w S hw8 hs8]
      exact decide_eq_false (hsle.2 (by omega))
    clear hsle hlt
    go_wp2_with fail
    refine (HSU.out _ HB6.out).mono ?_
    rintro e w7 ⟨rfl, hb7⟩
    go_wp2_with fail
    go_ret
    exact ⟨rfl, HB6.out.trans (hb7.mono HB6.out.size)⟩
end Go.Proofs.YtdpkhliojbeglaaDoor

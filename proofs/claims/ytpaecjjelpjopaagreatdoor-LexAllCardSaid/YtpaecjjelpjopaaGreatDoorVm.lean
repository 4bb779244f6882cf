/- The laws of stage 5: LexLack, LexAll. -/
import Derived.Test.YtpaecjjelpjopaaGreatDoorVl
namespace Go.Proofs.YtpaecjjelpjopaaGreatDoor
open Go.RowKit BS

/-! ### LexAll -/
theorem allN_len (s : ByteArray) : ∀ k a acc, (allN s k a acc).1.length ≤ acc.length + (s.size - a)
  | 0, a, acc => by rw [allN]; simp only; omega
  | k + 1, a, acc => by
    rw [allN]
    by_cases h : s.size ≤ a
    · rw [if_pos h]; simp only; omega
    · rw [if_neg h]
      have hE := nextA_end s a (by omega)
      generalize nextA s a = X at *
      obtain ⟨x, e, p⟩ := X
      simp only
      by_cases he : e ≠ 0
      · rw [if_pos he]; simp
      · rw [if_neg he]
        rcases hE with ⟨_, _, _, _, h5, h6⟩ | ⟨h1, _⟩
        · have := allN_len s k x.fin (acc ++ [x])
          simp only at h5 h6
          simp at this
          omega
        · exact absurd h1 he
theorem wordsN_len (s : ByteArray) : (wordsN s).1.length ≤ s.size := by
  have := allN_len s (s.size + 1) 0 []
  simpa [wordsN] using this
def SWo (g i : Nat) (x : WN) (W : World) : Prop := ∀ j, j < 9 → W.cell? ⟨g, i * 9 + j, none⟩ = (woA x)[j]?
def SSm (w : World) (g1 g2 i : Nat) (x : WN) (W : World) : Prop := SWo g1 i x W ∧ SWo g2 i x W ∧ W = w
set_option maxRecDepth 100000 in
set_option maxHeartbeats 8000000 in
theorem same5_calls (l : List WN) (hlen : l.length ≤ 1000000) (v1 v2 : Value) (w : World) (h1 : WordsAt l v1 w) (h2 : WordsAt l v2 w) : Calls Tryz.prog 12 #[v1, v2] w fun e w' => e = .returned (.bool true) ∧ Below w.heap.size w w' := by
  obtain ⟨a1, c1, rfl, h1⟩ := h1
  obtain ⟨a2, c2, rfl, h2⟩ := h2
  have H1 := Lib.hid h1
  have H2 := Lib.hid h2
  clear h1 h2
  go_enter Tryz.func12, Tryz.ntmps12
  go_wp2_with fail
  go_loopw [5] (fun x wr => ∃ k : Nat, k ≤ l.length ∧ x = .int .i64 k ∧ (l ≠ [] → ∃ g, a1 = some ⟨g, 0, none⟩ ∧ ∀ i (h : i < l.length), SWo g i l[i] wr) ∧ (l ≠ [] → ∃ g, a2 = some ⟨g, 0, none⟩ ∧ ∀ i (h : i < l.length), SWo g i l[i] wr) ∧ Below w.heap.size w wr) (fun x _ => l.length - (intOf x).toNat)
  case atStart =>
    refine ⟨0, Nat.zero_le _, rfl, fun hne => ?_, fun hne => ?_, Below.refl _ _⟩
    · obtain ⟨g, e, _, hc⟩ := H1.out hne; exact ⟨g, e, hc⟩
    · obtain ⟨g, e, _, hc⟩ := H2.out hne; exact ⟨g, e, hc⟩
  case round =>
    clear H1 H2
    obtain ⟨k, hk, rfl, h1, h2, hB⟩ := hrel
    by_cases hlt : k < l.length
    · have hne : l ≠ [] := by rintro rfl; simp at hlt
      obtain ⟨g1, rfl, p1⟩ := h1 hne
      obtain ⟨g2, rfl, p2⟩ := h2 hne
      have hd : decide ((k : Int) < (l.length : Int)) = true := by rw [decide_eq_true_iff]; omega
      have hd2 : decide (k < l.length) = true := by rw [decide_eq_true_iff]; omega
      have H1 := Lib.hid p1
      have H2 := Lib.hid p2
      have HB := Lib.hid hB
      have h0 : SSm wr.drew g1 g2 k l[k] wr.drew := ⟨p1 k hlt, p2 k hlt, rfl⟩
      generalize hX : l[k] = x at *
      obtain ⟨xk, xa, xf, xs, xn, xm⟩ := x
      have heq := eqWord_same xk xa xf xs xn xm
      have HNE := Lib.hid hne
      clear h1 h2 p1 p2 hB hX hne
      go_wp2_with fail
      refine region_steps (S := SSm wr.drew g1 g2 k ⟨xk, xa, xf, xs, xn, xm⟩) (by kernel_rfl) h0 ?_
      simp only [List.size_toArray, List.length_cons, List.length_nil, Nat.reduceAdd, Array.replicate_succ, Array.replicate_zero, List.push_toArray, List.nil_append, List.cons_append]
      refine AnyS.stepE (i := 0) (d := some 17) rfl rfl (by kernel_rfl) (by kernel_rfl) (by kernel_rfl) ?_
      apply Exists.intro
      apply And.intro
      · apply StepsIf.yield
        · kernel_rfl
        intro w' hS
        clear hS; go_simp
        rfl
      intro a' ha'
      simp only [Act.put, List.setIfInBounds_toArray, List.set_cons_zero, List.set_cons_succ] at ha'
      subst ha'
      refine AnyS.stepE (i := 1) (d := some 18) rfl rfl (by kernel_rfl) (by kernel_rfl) (by kernel_rfl) ?_
      apply Exists.intro
      apply And.intro
      · apply StepsIf.yield
        · kernel_rfl
        intro w' hS
        clear hS; go_simp
        rfl
      intro a' ha'
      simp only [Act.put, List.setIfInBounds_toArray, List.set_cons_zero, List.set_cons_succ] at ha'
      subst ha'
      refine AnyS.next (i := 2) (d := some 19) (v := .pointer (some ⟨g1, k * 9, none⟩)) rfl rfl (by kernel_rfl) (by kernel_rfl) (by kernel_rfl) (StepsIf.yield (by kernel_rfl) (fun w' hS => by clear hS; go_simp)) ?_
      intro a' ha'
      simp only [Act.put, List.setIfInBounds_toArray, List.set_cons_zero, List.set_cons_succ] at ha'
      subst ha'
      refine AnyS.next (i := 3) (d := some 20) (v := .agg (woI xk xa xf xs xn xm)) rfl rfl (by kernel_rfl) (by kernel_rfl) (by kernel_rfl) (StepsIf.yield (by kernel_rfl) (fun w' hS => by have c0 := hS.1 0 (by decide); have c1 := hS.1 1 (by decide); have c2 := hS.1 2 (by decide); have c3 := hS.1 3 (by decide); have c4 := hS.1 4 (by decide); have c5 := hS.1 5 (by decide); have c6 := hS.1 6 (by decide); have c7 := hS.1 7 (by decide); have c8 := hS.1 8 (by decide); simp only [woA, List.getElem?_toArray, List.getElem?_cons_zero, List.getElem?_cons_succ, Nat.add_zero] at c0 c1 c2 c3 c4 c5 c6 c7 c8; clear hS; go_simp)) ?_
      intro a' ha'
      simp only [Act.put, List.setIfInBounds_toArray, List.set_cons_zero, List.set_cons_succ] at ha'
      subst ha'
      refine AnyS.stepE (i := 4) (d := some 21) rfl rfl (by kernel_rfl) (by kernel_rfl) (by kernel_rfl) ?_
      apply Exists.intro
      apply And.intro
      · apply StepsIf.yield
        · kernel_rfl
        intro w' hS
        clear hS; go_simp
        rfl
      intro a' ha'
      simp only [Act.put, List.setIfInBounds_toArray, List.set_cons_zero, List.set_cons_succ] at ha'
      subst ha'
      refine AnyS.stepE (i := 5) (d := some 22) rfl rfl (by kernel_rfl) (by kernel_rfl) (by kernel_rfl) ?_
      apply Exists.intro
      apply And.intro
      · apply StepsIf.yield
        · kernel_rfl
        intro w' hS
        clear hS; go_simp
        rfl
      intro a' ha'
      simp only [Act.put, List.setIfInBounds_toArray, List.set_cons_zero, List.set_cons_succ] at ha'
      subst ha'
      refine AnyS.next (i := 6) (d := some 23) (v := .pointer (some ⟨g2, k * 9, none⟩)) rfl rfl (by kernel_rfl) (by kernel_rfl) (by kernel_rfl) (StepsIf.yield (by kernel_rfl) (fun w' hS => by clear hS; go_simp)) ?_
      intro a' ha'
      simp only [Act.put, List.setIfInBounds_toArray, List.set_cons_zero, List.set_cons_succ] at ha'
      subst ha'
      refine AnyS.next (i := 7) (d := some 24) (v := .agg (woI xk xa xf xs xn xm)) rfl rfl (by kernel_rfl) (by kernel_rfl) (by kernel_rfl) (StepsIf.yield (by kernel_rfl) (fun w' hS => by have c0 := hS.2.1 0 (by decide); have c1 := hS.2.1 1 (by decide); have c2 := hS.2.1 2 (by decide); have c3 := hS.2.1 3 (by decide); have c4 := hS.2.1 4 (by decide); have c5 := hS.2.1 5 (by decide); have c6 := hS.2.1 6 (by decide); have c7 := hS.2.1 7 (by decide); have c8 := hS.2.1 8 (by decide); simp only [woA, List.getElem?_toArray, List.getElem?_cons_zero, List.getElem?_cons_succ, Nat.add_zero] at c0 c1 c2 c3 c4 c5 c6 c7 c8; clear hS; go_simp)) ?_
      intro a' ha'
      simp only [Act.put, List.setIfInBounds_toArray, List.set_cons_zero, List.set_cons_succ] at ha'
      subst ha'
      refine AnyS.next (i := 8) (d := some 25) (v := .bool false) rfl rfl (by kernel_rfl) (by kernel_rfl) (by kernel_rfl) (StepsIf.yield (by kernel_rfl) (fun w' hS => by clear hS; go_simp)) ?_
      intro a' ha'
      simp only [Act.put, List.setIfInBounds_toArray, List.set_cons_zero, List.set_cons_succ] at ha'
      subst ha'
      refine AnyS.done (by kernel_rfl) (fun w6 hS => ?_) _
      obtain ⟨_, _, rfl⟩ := hS
      go_wp2_with fail
      go_roundw
      case rel => exact ⟨k + 1, by omega, by simp, fun _ => ⟨g1, rfl, fun i hi => H1.out i (by omega)⟩, fun _ => ⟨g2, rfl, fun i hi => H2.out i (by omega)⟩, HB.out.drew⟩
      case measure => simp [intOf]; omega
    · have hd : decide ((k : Int) < (l.length : Int)) = false := by rw [decide_eq_false_iff_not]; omega
      have hd2 : decide (k < l.length) = false := by rw [decide_eq_false_iff_not]; omega
      clear h1 h2
      go_wp2_with fail
      go_ret
      exact ⟨rfl, hB⟩

set_option maxRecDepth 100000 in
set_option maxHeartbeats 8000000 in
theorem all5_calls (C : LexC) (s : ByteArray) (hs : s.size ≤ 9223372036854775807) (w : World) (hT : TabG w) : Calls Tryz.prog 4 #[.string s] w fun e w' => e = .returned (.bool true) ∧ Below w.heap.size w w' := by
  by_cases hl : 400 < s.size
  · have q : decide ((400 : Int) < (s.size : Int)) = true := by rw [decide_eq_true_iff]; omega
    go_enter Tryz.func4, Tryz.ntmps4
    go_wp2_with fail
    refine (sure5_calls C _ hT).mono ?_
    rintro e w1 ⟨rfl, hb⟩
    go_wp2_with fail
    go_ret
    exact ⟨rfl, hb⟩
  have q : decide ((400 : Int) < (s.size : Int)) = false := by rw [decide_eq_false_iff_not]; omega
  have HD := Lib.hid (C.all s (by omega))
  have HR := Lib.hid (rAllW_calls s (by omega))
  have HSU := Lib.hid (sure5_calls C)
  have HT := Lib.hid hT
  have hlen : (wordsN s).1.length ≤ 1000000 := Nat.le_trans (wordsN_len s) (by omega)
  generalize wordsN s = X at *
  obtain ⟨l, e, p⟩ := X
  have HSM := Lib.hid (same5_calls l hlen)
  simp only at HD HR
  clear hT C hl hlen
  go_enter Tryz.func4, Tryz.ntmps4
  go_wp2_with fail
  refine (HD.out _ HT.out).mono ?_
  rintro en w1 ⟨v1, rfl, hv1, hb⟩
  have HT1 := Lib.hid (HT.out.below hb)
  have hB1 := hb
  clear hb HD HT
  have HV1 := Lib.hid hv1
  clear hv1
  go_wp2_with fail
  refine (HR.out _).mono ?_
  rintro en w2 ⟨v2, rfl, hv2, hb⟩
  have HT2 := Lib.hid (HT1.out.below hb)
  have hB2 := hB1.trans (hb.mono hB1.size)
  have HV1' := Lib.hid (HV1.out.below hb)
  have HV2 := Lib.hid (words_of_owns hv2)
  clear hb HR HT1 hB1 HV1 hv2
  go_wp2_with fail
  refine (HSM.out _ _ _ HV1'.out HV2.out).mono ?_
  rintro en w3 ⟨rfl, hb⟩
  have HT3 := Lib.hid (HT2.out.below hb)
  have hB3 := hB2.trans (hb.mono hB2.size)
  clear hb HSM HT2 hB2 HV1' HV2
  go_wp2_with fail
  refine (HSU.out _ HT3.out).mono ?_
  rintro en w4 ⟨rfl, hb⟩
  have hB4 := hB3.trans (hb.mono hB3.size)
  clear hb HSU HT3 hB3
  go_wp2_with fail
  go_ret
  exact ⟨rfl, hB4⟩
end Go.Proofs.YtpaecjjelpjopaaGreatDoor

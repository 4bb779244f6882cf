/- Texts put together: Hn Uh He Us Uk Ul Ji Uv Um Un. -/
import Derived.Test.YtbccojjcdcighaaGreatDoorPAp
import Derived.Test.YtbccojjcdcighaaGreatDoorPAe
import Derived.Test.YtbccojjcdcighaaGreatDoorPK
import Derived.Test.YtbccojjcdcighaaGreatDoorPP
import Derived.Test.YtbccojjcdcighaaGreatDoorPAn
import Derived.Test.YtbccojjcdcighaaGreatDoorPO
import Derived.Test.YtbccojjcdcighaaGreatDoorPM
import Derived.Outline
import Derived.Deep.DeepCutAuto
import Derived.BigQuiet
import Derived.Deep.QuietTactic
import Derived.Test.YtbccojjcdcighaaGreatDoorPD
import Derived.Test.YtbccojjcdcighaaGreatDoorPAd
import Derived.Test.YtbccojjcdcighaaGreatDoorPC
import Derived.Test.YtbccojjcdcighaaGreatDoorPX
import Derived.Laws.EntriesVeiled
namespace Go.Proofs.YtbccojjcdcighaaGreatDoor
open Go.RowKit BS
end Go.Proofs.YtbccojjcdcighaaGreatDoor

namespace Go.Proofs.YtbccojjcdcighaaGreatDoor
open Go.RowKit BS
set_option maxRecDepth 100000 in
set_option maxHeartbeats 16000000 in
theorem rNode9_calls (l : List NdN) (hl : l.length ≤ 1000000) (hf : FormedN l) (a : Option Addr) (cap : Nat) : ∀ (i : Nat) (_ : i < l.length) (w : World) (_ : NodesAt l a w),
    Calls Tryz.prog 19 #[.slice a l.length cap, .int .i64 i] w fun e w' => e = .returned (.string (ofT (txAt l i))) ∧ Below w.heap.size w w' := by
  intro i
  induction i using Nat.strongRecOn with
  | _ i ih =>
  intro hi w h
  obtain ⟨K, hK, hlt, hKl, htx⟩ := kidsR_at l hf i hi
  have hKC := fun W h => rKids_calls l hl i a cap W h
  rw [hK, List.length_map] at hKC
  rw [txtN_K] at htx
  have hne : l ≠ [] := by rintro rfl; simp at hi
  have hKb : K.length ≤ 1000000 := by omega
  have HKC := Lib.hid hKC
  have HN := Lib.hid h
  have hnx := accK_next l l[i].kind K
  have hn1 := accK_one l l[i].kind K
  have hn0 := accK_zero l l[i].kind K
  have hLE := accK_le l l[i].kind K
  have hLN := accK_len l l[i].kind K l.length (fun x hx => by have := hlt x hx; omega) (by omega) hl
  have hTL : ∀ j (h : j < K.length), (txAt l K[j]).length ≤ 1000000000 := fun j h => by
    have h1 := txAt_len l K[j]
    have h2 := hlt K[j] (List.getElem_mem h)
    omega
  have hih : ∀ j (h : j < K.length) (W : World), NodesAt l a W → Calls Tryz.prog 19 #[.slice a l.length cap, .int .i64 (K[j] : Nat)] W fun e w' => e = .returned (.string (ofT (txAt l K[j]))) ∧ Below W.heap.size W w' := fun j h W hW => ih K[j] (hlt _ (List.getElem_mem h)) (by have := hlt K[j] (List.getElem_mem h); omega) W hW
  generalize accK l l[i].kind K = ac at *
  generalize txAt l i = Y at *
  have HIH := Lib.hid hih
  have HTL := Lib.hid hTL
  have HLE := Lib.hid hLE
  have HLN := Lib.hid hLN
  have HNX := Lib.hid hnx
  have HN1 := Lib.hid hn1
  have HN0 := Lib.hid hn0
  have hcell : ∀ W, NodesAt l a W → ∃ g off, a = some ⟨g, off, none⟩ ∧ ∀ j, j < 8 → W.cell? ⟨g, off + i * 8 + j, none⟩ = (ndA l[i])[j]? := fun W hW => by
    obtain ⟨g, off, e, _, hc⟩ := hW hne
    exact ⟨g, off, e, fun j hj => hc i hi j hj⟩
  have HC := Lib.hid hcell
  generalize l[i] = x at *
  have HTX := Lib.hid htx
  have q0 : (i : Int) < (l.length : Int) := by omega
  have q0d : decide ((i : Int) < (l.length : Int)) = true := decide_eq_true q0
  have q1 : i < l.length := hi
  clear ih hK hlt hKC hih hTL hLE hLN hnx hn1 hn0 hcell h htx hf hKl
  generalize l.length = len at *
  go_enter Tryz.func19, Tryz.ntmps19
  go_wp2_with fail
  refine (HKC.out _ HN.out).mono ?_
  rintro e w1 ⟨kb, kc, rfl, hka, hb⟩
  replace HN := Lib.hid (HN.out.below hb)
  have HB := Lib.hid hb
  have HKA := Lib.hid hka
  clear hka hb HKC
  --HERE
  go_upto_region 3 with fail
  go_wp2_with fail
  go_loopw [6, 7] (fun vo vk wr => ∃ j : Nat, j ≤ K.length ∧ vk = .int .i64 j ∧ vo = .string (ofT (ac j)) ∧ Below w1.heap.size w1 wr) (fun _ vk _ => K.length - (intOf vk).toNat)
  case atStart => exact ⟨0, Nat.zero_le _, rfl, by rw [HN0.out] <;> rfl, Below.refl _ _⟩
  case round =>
    obtain ⟨j, hj, rfl, rfl, hW⟩ := hrel
    by_cases hlt : j < K.length
    · have HNw := Lib.hid (HN.out.below hW)
      obtain ⟨g, off, rfl, hc⟩ := HC.out _ HNw.out
      have c0 := hc 0 (by decide)
      simp only [ndA, List.getElem?_toArray, List.getElem?_cons_zero, Nat.add_zero] at c0
      obtain ⟨gk, rfl, hgk, hck⟩ := HKA.out.below hW (by intro h; have := congrArg List.length h; rw [List.length_map, List.length_nil] at this; omega)
      have ck := hck j (by rw [List.length_map]; exact hlt)
      simp only [List.getElem_map] at ck
      have hi2 := HIH.out j hlt wr HNw.out
      have HWW := Lib.hid hW
      have ht := HTL.out j hlt
      have hle := HLE.out j (by omega)
      have hln := HLN.out
      have hdj : decide ((j : Int) < (K.length : Int)) = true := by rw [decide_eq_true_iff]; omega
      have hdj2 : decide (j < K.length) = true := decide_eq_true hlt
      have xq : IntKind.i64.wrap ((j : Int) + 1) = (j : Int) + 1 := IntWalk.i64_in _ (by omega)
      have hjK : (j : Int) < (K.length : Int) := by omega
      clear hc hck hW
      rcases Nat.eq_zero_or_pos j with hj0 | hj0
      · subst hj0
        have ha := addT (ac 0) (txAt l K[0]) (by omega)
        have hn1 := HN1.out hlt
        have e0 : ac 0 ++ txAt l K[0] = ac 1 := by rw [HN0.out, hn1]; rfl
        rw [e0] at ha
        have HA := Lib.hid ha
        have HI := Lib.hid hi2
        clear ha hi2 hn1 e0 ht hle hln
        generalize txAt l K[0] = tx at *
        generalize K[0] = kid at *
        go_wp2_with fail
        have ha := HA.out
        refine HI.out.mono ?_
        rintro e w3 ⟨rfl, hb⟩
        have HW3 := Lib.hid (HWW.out.trans (hb.mono HWW.out.size))
        clear hb HI HA ck c0
        go_wp2_with fail
        go_roundw
        case rel => exact ⟨1, by omega, by simp, rfl, HW3.out⟩
        case measure => simp [intOf]; omega
      · have hnx := HNX.out j hlt hj0
        have hjp : decide ((0 : Int) < (j : Int)) = true := by rw [decide_eq_true_iff]; omega
        have hjp2 : (0 : Int) < (j : Int) := by omega
        by_cases h6 : x.kind = 6
        · have q6 : (x.kind == 6) = true := by rw [h6]; rfl
          have ha := addT (ac j) [124] (by simp; omega)
          rw [show ofT [124] = ⟨#[124]⟩ from rfl] at ha
          have hs : sepN x.kind = [124] := by rw [h6]; rfl
          rw [hs] at hnx
          have ha2 := addT (ac j ++ [124]) (txAt l K[j]) (by rw [List.length_append]; simp; omega)
          rw [← hnx] at ha2
          have HA2 := Lib.hid ha2
          have HI := Lib.hid hi2
          clear ha2 hi2 hnx hs ht hle hln h6
          generalize txAt l K[j] = tx at *
          generalize K[j] = kid at *
          generalize ac j ++ [124] = acb at *
          go_wp2_with fail
          have ha2 := HA2.out
          refine HI.out.mono ?_
          rintro e w3 ⟨rfl, hb⟩
          have HW3 := Lib.hid (HWW.out.trans (hb.mono HWW.out.size))
          clear hb HI HA2 ck c0
          go_wp2_with fail
          go_roundw
          case rel => exact ⟨j + 1, by omega, by simp, rfl, HW3.out⟩
          case measure => simp [intOf]; omega
        · have q6 : (x.kind == 6) = false := by rw [beq_eq_false_iff_ne]; exact h6
          have hs : sepN x.kind = [] := by unfold sepN; rw [if_neg h6]
          rw [hs, List.append_nil] at hnx
          have ha := addT (ac j) (txAt l K[j]) (by omega)
          rw [← hnx] at ha
          have HA := Lib.hid ha
          have HI := Lib.hid hi2
          clear ha hi2 hnx hs ht hle hln h6
          generalize txAt l K[j] = tx at *
          generalize K[j] = kid at *
          go_wp2_with fail
          have ha := HA.out
          refine HI.out.mono ?_
          rintro e w3 ⟨rfl, hb⟩
          have HW3 := Lib.hid (HWW.out.trans (hb.mono HWW.out.size))
          clear hb HI HA ck c0
          go_wp2_with fail
          go_roundw
          case rel => exact ⟨j + 1, by omega, by simp, rfl, HW3.out⟩
          case measure => simp [intOf]; omega
    · obtain rfl : j = K.length := by omega
      have HNw := Lib.hid (HN.out.below hW)
      have HWW := Lib.hid (HB.out.trans (hW.mono HB.out.size))
      have hdj : decide ((K.length : Int) < (K.length : Int)) = false := by simp
      have HCC : Hid (∀ W, Below wr.heap.size wr W → NodesAt l a W) := Lib.hid (fun W hb => HNw.out.below hb)
      obtain ⟨g, off, rfl, hc⟩ := HC.out _ HNw.out
      obtain ⟨k, kc, n, m, t⟩ := x
      have hcc : ∀ W, Below wr.heap.size wr W → ∀ j, j < 8 → W.cell? ⟨g, off + i * 8 + j, none⟩ = (ndA ⟨k, kc, n, m, t⟩)[j]? := fun W hb => by
        obtain ⟨g', off', e, h⟩ := HC.out _ (HCC.out W hb)
        cases e
        exact h
      have HC2 : Hid (∀ W, Below wr.heap.size wr W → W.cell? ⟨g, off + i * 8 + 2, none⟩ = some (.int .i64 n)) := Lib.hid (fun W hb => hcc W hb 2 (by decide))
      have HC3 : Hid (∀ W, Below wr.heap.size wr W → W.cell? ⟨g, off + i * 8 + 3, none⟩ = some (.int .i64 m)) := Lib.hid (fun W hb => hcc W hb 3 (by decide))
      have c0 := hc 0 (by decide); have c4 := hc 4 (by decide); have c5 := hc 5 (by decide); have c6 := hc 6 (by decide); have c7 := hc 7 (by decide)
      simp only [ndA, List.getElem?_toArray, List.getElem?_cons_zero, List.getElem?_cons_succ, Nat.add_zero] at c0 c4 c5 c6 c7
      have hln := HLN.out
      have HT2 := Lib.hid (fun w => rTextW_calls t w)
      have HB4 := Lib.hid (fun w => textN_calls n m w)
      have htx := HTX.out
      simp only at htx hln
      have hb3 := textN_len9 n m
      clear hc hcc hW HC HCC HIH HTL HLE HNX HN1 HN0 HN HNw HKA HB HLN HTX
      by_cases h2 : k = 2
      · subst h2
        rw [if_pos rfl] at htx
        subst htx
        clear HC2 HC3 HB4 hb3
        go_wp2_with fail
        refine (HT2.out _).mono ?_
        rintro e w3 ⟨rfl, hb⟩
        have HW3 := Lib.hid (HWW.out.trans (hb.mono HWW.out.size))
        clear hb HT2 c0 c4 c5 c6 c7
        go_wp2_with fail
        go_ret
        exact ⟨rfl, HW3.out⟩
      have q2 : (k == 2) = false := by rw [beq_eq_false_iff_ne]; exact h2
      rw [if_neg h2] at htx
      clear c4 c5 c6 c7 HT2
      by_cases h3 : k = 3
      · subst h3
        rw [if_pos rfl] at htx
        have a1 := addT [40] (ac K.length) (by simp; omega)
        have a2 := addT ([40] ++ ac K.length) [41] (by simp; omega)
        rw [← htx] at a2
        rw [show ofT [40] = ⟨#[40]⟩ from rfl] at a1
        rw [show ofT [41] = ⟨#[41]⟩ from rfl] at a2
        clear HC2 HC3 HB4 hb3 htx h2
        generalize [40] ++ ac K.length = z1 at *
        go_wp2_with fail
        go_ret
        exact ⟨rfl, HWW.out⟩
      have q3 : (k == 3) = false := by rw [beq_eq_false_iff_ne]; exact h3
      rw [if_neg h3] at htx
      by_cases h4 : k = 4
      · subst h4
        rw [if_pos rfl] at htx
        have ha := addT (ac K.length) (textN n m) (by omega)
        have HAD := Lib.hid ha
        clear ha h2 h3
        have h0 : Below wr.heap.size wr wr.drew := (Below.refl _ _).drew
        subst htx
        clear hb3 hln
        go_upto_region 15 with fail
        refine region_steps (S := fun W => Below wr.heap.size wr W) (by kernel_rfl) h0 ?_
        clear h0 c0
        simp only [List.size_toArray, List.length_cons, List.length_nil, Nat.reduceAdd, Array.replicate_succ, Array.replicate_zero, List.push_toArray, List.nil_append, List.cons_append]
        refine AnyS.stepE (i := 0) (d := some 57) rfl rfl (by kernel_rfl) (by kernel_rfl) (by kernel_rfl) ?_
        apply Exists.intro
        apply And.intro
        · apply StepsIf.yield
          · kernel_rfl
          intro w' hS
          clear hS; go_simp
          rfl
        intro a' ha'
        simp only [Act.put, List.setIfInBounds_toArray, List.set_cons_zero, List.set_cons_succ] at ha'
        subst ha'
        refine AnyS.stepE (i := 1) (d := some 58) rfl rfl (by kernel_rfl) (by kernel_rfl) (by kernel_rfl) ?_
        apply Exists.intro
        apply And.intro
        · apply StepsIf.yield
          · kernel_rfl
          intro w' hS
          clear hS; go_simp
          rfl
        intro a' ha'
        simp only [Act.put, List.setIfInBounds_toArray, List.set_cons_zero, List.set_cons_succ] at ha'
        subst ha'
        refine AnyS.stepE (i := 2) (d := some 59) rfl rfl (by kernel_rfl) (by kernel_rfl) (by kernel_rfl) ?_
        apply Exists.intro
        apply And.intro
        · apply StepsIf.yield
          · kernel_rfl
          intro w' hS
          clear hS; go_simp
          rfl
        intro a' ha'
        simp only [Act.put, List.setIfInBounds_toArray, List.set_cons_zero, List.set_cons_succ] at ha'
        subst ha'
        refine AnyS.stepE (i := 3) (d := some 60) rfl rfl (by kernel_rfl) (by kernel_rfl) (by kernel_rfl) ?_
        apply Exists.intro
        apply And.intro
        · apply StepsIf.yield
          · kernel_rfl
          intro w' hS
          clear hS; go_simp
          rfl
        intro a' ha'
        simp only [Act.put, List.setIfInBounds_toArray, List.set_cons_zero, List.set_cons_succ] at ha'
        subst ha'
        refine AnyS.stepE (i := 4) (d := some 61) rfl rfl (by kernel_rfl) (by kernel_rfl) (by kernel_rfl) ?_
        apply Exists.intro
        apply And.intro
        · apply StepsIf.yield
          · kernel_rfl
          intro w' hS
          clear hS; go_simp
          rfl
        intro a' ha'
        simp only [Act.put, List.setIfInBounds_toArray, List.set_cons_zero, List.set_cons_succ] at ha'
        subst ha'
        refine AnyS.stepE (i := 5) (d := some 62) rfl rfl (by kernel_rfl) (by kernel_rfl) (by kernel_rfl) ?_
        apply Exists.intro
        apply And.intro
        · apply StepsIf.yield
          · kernel_rfl
          intro w' hS
          have c := HC2.out w' hS; clear hS; go_simp
          rfl
        intro a' ha'
        simp only [Act.put, List.setIfInBounds_toArray, List.set_cons_zero, List.set_cons_succ] at ha'
        subst ha'
        refine AnyS.stepE (i := 6) (d := some 63) rfl rfl (by kernel_rfl) (by kernel_rfl) (by kernel_rfl) ?_
        apply Exists.intro
        apply And.intro
        · apply StepsIf.yield
          · kernel_rfl
          intro w' hS
          clear hS; go_simp
          rfl
        intro a' ha'
        simp only [Act.put, List.setIfInBounds_toArray, List.set_cons_zero, List.set_cons_succ] at ha'
        subst ha'
        refine AnyS.stepE (i := 7) (d := some 64) rfl rfl (by kernel_rfl) (by kernel_rfl) (by kernel_rfl) ?_
        apply Exists.intro
        apply And.intro
        · apply StepsIf.yield
          · kernel_rfl
          intro w' hS
          clear hS; go_simp
          rfl
        intro a' ha'
        simp only [Act.put, List.setIfInBounds_toArray, List.set_cons_zero, List.set_cons_succ] at ha'
        subst ha'
        refine AnyS.stepE (i := 8) (d := some 65) rfl rfl (by kernel_rfl) (by kernel_rfl) (by kernel_rfl) ?_
        apply Exists.intro
        apply And.intro
        · apply StepsIf.yield
          · kernel_rfl
          intro w' hS
          clear hS; go_simp
          rfl
        intro a' ha'
        simp only [Act.put, List.setIfInBounds_toArray, List.set_cons_zero, List.set_cons_succ] at ha'
        subst ha'
        refine AnyS.stepE (i := 9) (d := some 66) rfl rfl (by kernel_rfl) (by kernel_rfl) (by kernel_rfl) ?_
        apply Exists.intro
        apply And.intro
        · apply StepsIf.yield
          · kernel_rfl
          intro w' hS
          clear hS; go_simp
          rfl
        intro a' ha'
        simp only [Act.put, List.setIfInBounds_toArray, List.set_cons_zero, List.set_cons_succ] at ha'
        subst ha'
        refine AnyS.stepE (i := 10) (d := some 67) rfl rfl (by kernel_rfl) (by kernel_rfl) (by kernel_rfl) ?_
        apply Exists.intro
        apply And.intro
        · apply StepsIf.yield
          · kernel_rfl
          intro w' hS
          have c := HC3.out w' hS; clear hS; go_simp
          rfl
        intro a' ha'
        simp only [Act.put, List.setIfInBounds_toArray, List.set_cons_zero, List.set_cons_succ] at ha'
        subst ha'
        refine AnyS.next (i := 11) (d := some 68) (v := .string (ofT (textN n m))) rfl rfl (by kernel_rfl) (by kernel_rfl) (by kernel_rfl) (StepsIf.call (by kernel_rfl) (fun w' hS => by clear hS; go_simp) (fun w' hS => (HB4.out w').mono (fun _ _ ⟨h1, h2⟩ => ⟨h1, hS.trans (h2.mono hS.size)⟩))) ?_
        intro a' ha'
        simp only [Act.put, List.setIfInBounds_toArray, List.set_cons_zero, List.set_cons_succ] at ha'
        subst ha'
        refine AnyS.next (i := 12) (d := some 69) (v := .string (ofT (ac K.length ++ textN n m))) rfl rfl (by kernel_rfl) (by kernel_rfl) (by kernel_rfl) (StepsIf.yield (by kernel_rfl) (fun w' hS => by have ha := HAD.out; clear hS; go_simp)) ?_
        intro a' ha'
        simp only [Act.put, List.setIfInBounds_toArray, List.set_cons_zero, List.set_cons_succ] at ha'
        subst ha'
        refine AnyS.stepE (i := 13) (d := some 4) rfl rfl (by kernel_rfl) (by kernel_rfl) (by kernel_rfl) ?_
        apply Exists.intro
        apply And.intro
        · apply StepsIf.yield
          · kernel_rfl
          intro w' hS
          clear hS; go_simp
          rfl
        intro a' ha'
        simp only [Act.put, List.setIfInBounds_toArray, List.set_cons_zero, List.set_cons_succ] at ha'
        subst ha'
        refine AnyS.done (by kernel_rfl) (fun w3 hS => ?_) _
        have HW3 := Lib.hid (HWW.out.trans (hS.mono HWW.out.size))
        clear hS
        go_wp2_with fail
        go_ret
        exact ⟨rfl, HW3.out⟩
      have q4 : (k == 4) = false := by rw [beq_eq_false_iff_ne]; exact h4
      rw [if_neg h4] at htx
      subst htx
      clear HC2 HC3 HB4 hb3 h2 h3 h4
      go_wp2_with fail
      go_ret
      exact ⟨rfl, HWW.out⟩
end Go.Proofs.YtbccojjcdcighaaGreatDoor

namespace Go.Proofs.YtbccojjcdcighaaGreatDoor
open Go.RowKit BS
theorem nodes_any {l : List NdN} {v : Value} {base : Nat} {W : World} (h : W.ownsRow base 45 8 v l.length (ndCells l)) : ∃ a cap, v = .slice a l.length cap ∧ NodesAt l a W := by
  by_cases hne : l = []
  · obtain ⟨a, cap, e⟩ := owns_form h
    exact ⟨a, cap, e, fun h => absurd hne h⟩
  · obtain ⟨g, cap, e, _, hn⟩ := nodes_of_owns h hne
    exact ⟨_, cap, e, hn⟩
end Go.Proofs.YtbccojjcdcighaaGreatDoor

namespace Go.Proofs.YtbccojjcdcighaaGreatDoor
open Go.RowKit BS
theorem gIx_is (l : List NdN) (n : Int) (i : Nat) (hi : i < l.length) (hn : 0 < n) (h : (numsR l).getD i 0 = n) (hb : ∀ j, j < i → (numsR l).getD j 0 ≠ n) : gIx l n = some i := by
  unfold gIx
  rw [if_pos hn, List.find?_range_eq_some]
  exact ⟨by rw [h]; exact beq_self_eq_true n, List.mem_range.2 hi, fun j hj => by rw [Bool.not_eq_true', beq_eq_false_iff_ne]; exact hb j hj⟩
theorem gIx_no (l : List NdN) (n : Int) (h : 0 < n → ∀ j, j < l.length → (numsR l).getD j 0 ≠ n) : gIx l n = none := by
  unfold gIx
  by_cases hn : 0 < n
  · rw [if_pos hn, List.find?_range_eq_none]
    exact fun j hj => by rw [Bool.not_eq_true', beq_eq_false_iff_ne]; exact h hn j hj
  · rw [if_neg hn]
theorem gr_some (l : List NdN) (hr : rightR l = true) (n : Int) (i : Nat) (h : gIx l n = some i) : grT l n = txAt l i ∧ grE l n = 0 := by
  unfold grT grE
  rw [if_pos hr, if_pos hr, h]
  exact ⟨rfl, rfl⟩
theorem gr_none (l : List NdN) (hr : rightR l = true) (n : Int) (h : gIx l n = none) : grT l n = [] ∧ grE l n = 1 := by
  unfold grT grE
  rw [if_pos hr, if_pos hr, h]
  exact ⟨rfl, rfl⟩
theorem gr_not (l : List NdN) (hr : rightR l = false) (n : Int) : grT l n = [] ∧ grE l n = 11 := by
  unfold grT grE
  rw [hr]
  exact ⟨rfl, rfl⟩
theorem right_nodes (l : List NdN) (h : rightR l = true) : FormedN l ∧ (∀ x ∈ l, nodeF x = true) ∧ 0 < l.length := ⟨((rightR_iff l).1 h).1, ((rightR_iff l).1 h).2.1, right_pos l h⟩
theorem parse_zero (s : ByteArray) (h : (parseN s).2.2.1 = 0) : (parseN s).2.2.2 = 0 := by
  rcases readP_spec s (s.size + 1) 0 sPS [] (Nat.zero_le _) (by omega) sPS_inv ⟨rfl, rfl, rfl, rfl, rfl⟩ with ⟨h1, _, _⟩ | ⟨h1, _, _⟩
  · exact absurd h h1
  · exact congrArg (fun x => x.2.2) h1
theorem ofT_nil : ofT [] = ⟨#[]⟩ := rfl
set_option maxRecDepth 100000 in
set_option maxHeartbeats 4000000 in
theorem rPrint9_calls (l : List NdN) (hl : l.length ≤ 1000000) (a : Option Addr) (cap : Nat) (w : World) (h : NodesAt l a w) :
    Calls Tryz.prog 9 #[.slice a l.length cap] w fun e w' => e = .returned (.tuple #[.string (ofT (prT l)), .int .i64 (prE l)]) ∧ Below w.heap.size w w' := by
  have HR := Lib.hid (rRight_calls l hl a cap w h)
  unfold prT prE
  cases hr : rightR l with
  | false =>
    rw [hr] at HR
    clear hr h
    simp only [Bool.false_eq_true, if_false, ofT_nil]
    go_enter Tryz.func9, Tryz.ntmps9
    go_wp2_with fail
    refine HR.out.mono ?_
    rintro e w1 ⟨rfl, hb⟩
    clear HR
    go_wp2_with fail
    exact bodyPost_ret (v := .tuple #[.string ⟨#[]⟩, .int .i64 11]) (by simp [results, Tryz.results9, go_sem] <;> rfl) rfl ⟨rfl, hb⟩
  | true =>
    rw [hr] at HR
    obtain ⟨hf, _, hp⟩ := right_nodes l hr
    have HN := Lib.hid (fun W (hW : NodesAt l a W) => rNode9_calls l hl hf a cap (l.length - 1) (by omega) W hW)
    have HA := Lib.hid h
    have xl : IntKind.i64.wrap ((l.length : Int) - 1) = ((l.length - 1 : Nat) : Int) := by rw [IntWalk.i64_in _ (by omega)]; omega
    simp only [if_true]
    unfold txR
    clear hr h hf
    generalize txAt l (l.length - 1) = t at *
    go_enter Tryz.func9, Tryz.ntmps9
    go_wp2_with fail
    refine HR.out.mono ?_
    rintro e w1 ⟨rfl, hb⟩
    replace HA := Lib.hid (HA.out.below hb)
    have HB := Lib.hid hb
    clear HR hb
    go_wp2_with fail
    refine (HN.out _ HA.out).mono ?_
    rintro e w2 ⟨rfl, hb⟩
    replace HB := Lib.hid (HB.out.trans (hb.mono HB.out.size))
    clear hb HN HA xl
    go_wp2_with fail
    exact bodyPost_ret (v := .tuple #[.string (ofT t), .int .i64 0]) (by simp [results, Tryz.results9, go_sem] <;> rfl) rfl ⟨rfl, HB.out⟩
set_option maxRecDepth 100000 in
set_option maxHeartbeats 8000000 in
theorem rGroup9_calls (l : List NdN) (hl : l.length ≤ 1000000) (n : Int) (a : Option Addr) (cap : Nat) (w : World) (h : NodesAt l a w) :
    Calls Tryz.prog 11 #[.slice a l.length cap, .int .i64 n] w fun e w' => e = .returned (.tuple #[.string (ofT (grT l n)), .int .i64 (grE l n)]) ∧ Below w.heap.size w w' := by
  have HR := Lib.hid (rRight_calls l hl a cap w h)
  cases hr : rightR l with
  | false =>
    rw [hr] at HR
    obtain ⟨e1, e2⟩ := gr_not l hr n
    rw [e1, e2, ofT_nil]
    clear hr h e1 e2
    go_enter Tryz.func11, Tryz.ntmps11
    go_wp2_with fail
    refine HR.out.mono ?_
    rintro e w1 ⟨rfl, hb⟩
    clear HR
    go_wp2_with fail
    exact bodyPost_ret (v := .tuple #[.string ⟨#[]⟩, .int .i64 11]) (by simp [results, Tryz.results11, go_sem] <;> rfl) rfl ⟨rfl, hb⟩
  | true =>
    rw [hr] at HR
    obtain ⟨hf, _, hp⟩ := right_nodes l hr
    have HN := Lib.hid (fun i (hi : i < l.length) W (hW : NodesAt l a W) => rNode9_calls l hl hf a cap i hi W hW)
    have HU := Lib.hid (fun W (hW : NodesAt l a W) => rNumbers_calls l hl a cap W hW)
    have hnl : (numsR l).length = l.length := by rw [numsR_len, (formed_stack l hf).2.2.1]
    rw [hnl] at HU
    have HA := Lib.hid h
    have HG := Lib.hid (gIx_is l n)
    have HG0 := Lib.hid (gIx_no l n)
    have HNL := Lib.hid hnl
    have hgf := gr_some l hr n
    have hgn := gr_none l hr n
    generalize grT l n = T at *
    generalize grE l n = E at *
    have HGF := Lib.hid hgf
    have HGN := Lib.hid hgn
    clear hr h hf hnl hgf hgn
    go_enter Tryz.func11, Tryz.ntmps11
    go_wp2_with fail
    refine HR.out.mono ?_
    rintro e w1 ⟨rfl, hb⟩
    replace HA := Lib.hid (HA.out.below hb)
    have HB := Lib.hid hb
    clear HR hb
    go_wp2_with fail
    refine (HU.out _ HA.out).mono ?_
    rintro e w2 ⟨bb, kb, rfl, hia, hb⟩
    replace HA := Lib.hid (HA.out.below hb)
    replace HB := Lib.hid (HB.out.trans (hb.mono HB.out.size))
    obtain ⟨gb, rfl, hgb, hcb⟩ := hia (by intro h; have := HNL.out; rw [h] at this; simp at this; omega)
    have HC := Lib.hid hcb
    clear hb hia HU hcb
    go_wp2_with fail
    go_loopw [7] (fun v wr => ∃ i : Nat, i ≤ l.length ∧ v = .int .i64 i ∧ (0 < n → ∀ j, j < i → (numsR l).getD j 0 ≠ n) ∧ Below w2.heap.size w2 wr) (fun v _ => l.length - (intOf v).toNat)
    case atStart => exact ⟨0, Nat.zero_le _, rfl, fun _ j hj => by omega, Below.refl _ _⟩
    case round =>
      obtain ⟨i, hi, rfl, hno, hW⟩ := hrel
      have HNO := Lib.hid hno
      clear hno
      by_cases hlt : i < l.length
      · have hi' : i < (numsR l).length := by rw [HNL.out]; exact hlt
        have ck := (hW.cell (p := ⟨gb, i, none⟩) hgb).trans (HC.out i hi')
        have hgd : (numsR l).getD i 0 = (numsR l)[i] := by rw [List.getD_eq_getElem?_getD, List.getElem?_eq_getElem hi', Option.getD_some]
        have HGD := Lib.hid hgd
        have hdi : decide ((i : Int) < (l.length : Int)) = true := by rw [decide_eq_true_iff]; omega
        have hdi2 : decide (i < l.length) = true := decide_eq_true hlt
        have hii : (i : Int) < (l.length : Int) := by omega
        have xq : IntKind.i64.wrap ((i : Int) + 1) = (i : Int) + 1 := IntWalk.i64_in _ (by omega)
        have HAr := Lib.hid (HA.out.below hW)
        have HBr := Lib.hid (HB.out.trans (hW.mono HB.out.size))
        have HW := Lib.hid hW
        clear hgd hW
        generalize (numsR l)[i] = nu at *
        by_cases hn : 0 < n
        · have hnd : decide (0 < n) = true := decide_eq_true hn
          by_cases hq : nu = n
          · have q : (nu == n) = true := by rw [hq]; exact beq_self_eq_true n
            obtain ⟨rfl, rfl⟩ := HGF.out i (HG.out i hlt hn (by rw [HGD.out]; exact hq) (HNO.out hn))
            have HNi := Lib.hid (HN.out i hlt _ HAr.out)
            clear HNO HGD hq HG HG0 HGF HGN HN
            go_wp2_with fail
            refine HNi.out.mono ?_
            rintro e w3 ⟨rfl, hb⟩
            have HB3 := Lib.hid (HBr.out.trans (hb.mono HBr.out.size))
            clear hb ck HNi
            go_wp2_with fail
            exact bodyPost_ret (v := .tuple #[.string (ofT (txAt l i)), .int .i64 0]) (by simp [results, Tryz.results11, go_sem] <;> rfl) rfl ⟨rfl, HB3.out⟩
          · have q : (nu == n) = false := by rw [beq_eq_false_iff_ne]; exact hq
            go_wp2_with fail
            go_roundw
            case rel => exact ⟨i + 1, by omega, by simp, fun hn j hj => by
              by_cases hji : j = i
              · subst hji; rw [HGD.out]; exact hq
              · exact HNO.out hn j (by omega), HW.out⟩
            case measure => simp [intOf]; omega
        · have hnd : decide (0 < n) = false := decide_eq_false hn
          go_wp2_with fail
          go_roundw
          case rel => exact ⟨i + 1, by omega, by simp, fun h => absurd h hn, HW.out⟩
          case measure => simp [intOf]; omega
      · obtain rfl : i = l.length := by omega
        have hdi : decide ((l.length : Int) < (l.length : Int)) = false := by simp
        obtain ⟨rfl, rfl⟩ := HGN.out (HG0.out HNO.out)
        have HBr := Lib.hid (HB.out.trans (hW.mono HB.out.size))
        clear hW HNO HG HG0 HGF HGN HN
        go_wp2_with fail
        exact bodyPost_ret (v := .tuple #[.string ⟨#[]⟩, .int .i64 1]) (by simp [results, Tryz.results11, go_sem] <;> rfl) rfl ⟨by rw [ofT_nil] <;> rfl, HBr.out⟩
end Go.Proofs.YtbccojjcdcighaaGreatDoor

namespace Go.Proofs.YtbccojjcdcighaaGreatDoor
open Go.RowKit BS
def s91 : ByteArray := ⟨#[91, 97, 97, 93, 123, 48, 44, 125, 124, 92, 93]⟩
def l91 : List NdN := [⟨1, 0, 0, 0, 0⟩, ndG]
theorem s91_e : (parseN s91).2.2.1 = 0 ∧ (parseN s91).2.2.2 = 0 := by decide +kernel
theorem s91_t : plT s91 = [97, 42, 124, 93] := by decide +kernel
theorem s91_l : (parseN s91).1.l.length ≤ 1000 := by decide +kernel
theorem l91_t : grT l91 1 = [40, 41] := by decide +kernel
theorem l91_e : grE l91 1 = 0 := by decide +kernel
theorem l92_e : prE [ndG] = 11 := by decide +kernel
theorem nodes2 (g : Nat) (W : World) (h : Blk W g #[.int .i64 1, .int .i64 0, .int .i64 0, .int .i64 0, .int .u64 0, .int .u64 0, .int .u64 0, .int .u64 0, .int .i64 3, .int .i64 1, .int .i64 0, .int .i64 0, .int .u64 0, .int .u64 0, .int .u64 0, .int .u64 0] 45) : NodesAt l91 (some ⟨g, 0, none⟩) W ∧ NodesAt [ndG] (some ⟨g, 8, none⟩) W := by
  refine ⟨fun _ => ⟨g, 0, rfl, h.lt, fun i hi j hj => ?_⟩, fun _ => ⟨g, 8, rfl, h.lt, fun i hi j hj => ?_⟩⟩
  · have hi2 : i < 2 := hi
    refine (h.cell (0 + i * 8 + j)).trans ?_
    rcases (show i = 0 ∨ i = 1 by omega) with rfl | rfl <;> rcases (show j = 0 ∨ j = 1 ∨ j = 2 ∨ j = 3 ∨ j = 4 ∨ j = 5 ∨ j = 6 ∨ j = 7 by omega) with rfl | rfl | rfl | rfl | rfl | rfl | rfl | rfl <;> (simp [l91, ndG, ndA] <;> rfl)
  · have hi2 : i < 1 := hi
    obtain rfl : i = 0 := by omega
    refine (h.cell (8 + 0 * 8 + j)).trans ?_
    rcases (show j = 0 ∨ j = 1 ∨ j = 2 ∨ j = 3 ∨ j = 4 ∨ j = 5 ∨ j = 6 ∨ j = 7 by omega) with rfl | rfl | rfl | rfl | rfl | rfl | rfl | rfl <;> (simp [ndG, ndA] <;> rfl)
set_option maxRecDepth 100000 in
set_option maxHeartbeats 16000000 in
theorem sure9_calls (P : PrintC) (w : World) (hT : TabP w) : Calls Tryz.prog 7 #[] w fun e w' => e = .returned (.bool true) ∧ Below w.heap.size w w' := by
  have hP := P.plain s91 (by decide) s91_l
  have hG := fun a cap W hT h => P.group l91 (by decide) 1 a cap W hT h
  have hR := fun a cap W hT h => P.print [ndG] (by decide) a cap W hT h
  rw [s91_t, s91_e.1, s91_e.2] at hP
  rw [l91_t, l91_e] at hG
  rw [l92_e] at hR
  generalize prT [ndG] = tX at *
  have H1 : Hid (∀ w, TabP w → Calls Tryz.prog 12 #[.string ⟨#[91, 97, 97, 93, 123, 48, 44, 125, 124, 92, 93]⟩] w fun e w' => e = .returned (.tuple #[.string ⟨#[97, 42, 124, 93]⟩, .int .i64 0, .int .i64 0]) ∧ Below w.heap.size w w') := Lib.hid hP
  have H2 : Hid (∀ a cap W, TabP W → NodesAt l91 a W → Calls Tryz.prog 10 #[.slice a 2 cap, .int .i64 1] W fun e w' => e = .returned (.tuple #[.string ⟨#[40, 41]⟩, .int .i64 0]) ∧ Below W.heap.size W w') := Lib.hid hG
  have H3 : Hid (∀ a cap W, TabP W → NodesAt [ndG] a W → Calls Tryz.prog 8 #[.slice a 1 cap] W fun e w' => e = .returned (.tuple #[.string (ofT tX), .int .i64 11]) ∧ Below W.heap.size W w') := Lib.hid hR
  have HT := Lib.hid hT
  clear hP hG hR hT P
  go_enter Tryz.func7, Tryz.ntmps7
  go_wp2_with fail
  refine (H1.out _ HT.out).mono ?_
  rintro e w1 ⟨rfl, hb⟩
  have HB := Lib.hid hb
  replace HT := Lib.hid (HT.out.below hb (Nat.le_refl _))
  clear hb H1
  go_wp2_with fail
  have hbk := Blk.new w1 #[.int .i64 1, .int .i64 0, .int .i64 0, .int .i64 0, .int .u64 0, .int .u64 0, .int .u64 0, .int .u64 0, .int .i64 3, .int .i64 1, .int .i64 0, .int .i64 0, .int .u64 0, .int .u64 0, .int .u64 0, .int .u64 0] 45
  obtain ⟨hn1, hn2⟩ := nodes2 _ _ hbk
  have hba := (Below.refl w1.heap.size w1).alloc (Nat.le_refl _) (.cells #[.int .i64 1, .int .i64 0, .int .i64 0, .int .i64 0, .int .u64 0, .int .u64 0, .int .u64 0, .int .u64 0, .int .i64 3, .int .i64 1, .int .i64 0, .int .i64 0, .int .u64 0, .int .u64 0, .int .u64 0, .int .u64 0] 45)
  generalize w1.alloc (.cells #[.int .i64 1, .int .i64 0, .int .i64 0, .int .i64 0, .int .u64 0, .int .u64 0, .int .u64 0, .int .u64 0, .int .i64 3, .int .i64 1, .int .i64 0, .int .i64 0, .int .u64 0, .int .u64 0, .int .u64 0, .int .u64 0] 45) = w2 at *
  replace HT := Lib.hid (HT.out.below hba (Nat.le_refl _))
  replace HB := Lib.hid (HB.out.trans (hba.mono HB.out.size))
  have HN2 := Lib.hid hn2
  refine (H2.out _ _ _ HT.out hn1).mono ?_
  rintro e w3 ⟨rfl, hb⟩
  replace HT := Lib.hid (HT.out.below hb (Nat.le_refl _))
  replace HB := Lib.hid (HB.out.trans (hb.mono HB.out.size))
  replace HN2 := Lib.hid (HN2.out.below hb)
  clear hb H2 hn1 hn2 hbk hba
  go_wp2_with fail
  refine (H3.out _ _ _ HT.out HN2.out).mono ?_
  rintro e w4 ⟨rfl, hb⟩
  replace HB := Lib.hid (HB.out.trans (hb.mono HB.out.size))
  clear hb H3
  go_wp2_with fail
  go_ret
  exact ⟨rfl, HB.out⟩
end Go.Proofs.YtbccojjcdcighaaGreatDoor

namespace Go.Proofs.YtbccojjcdcighaaGreatDoor
open Go.RowKit BS
set_option maxRecDepth 100000 in
set_option maxHeartbeats 16000000 in
theorem printTells_calls (P : PrintC) (l : List NdN) (hl : l.length ≤ 9223372036854775807) (n : Int) (a : Option Addr) (cap : Nat) (w : World) (hT : TabP w) (h : NodesAt l a w) :
    Calls Tryz.prog 3 #[.slice a l.length cap, .int .i64 n] w fun e w' => e = .returned (.bool true) ∧ Below w.heap.size w w' := by
  have HSU := Lib.hid (sure9_calls P)
  have HB := Lib.hid (Below.refl w.heap.size w)
  have HT := Lib.hid hT
  clear hT
  by_cases h6 : 60 < l.length
  · have q : decide (60 < l.length) = true := by simpa using h6
    have q' : decide ((60 : Int) < (l.length : Int)) = true := by rw [decide_eq_true_iff]; omega
    clear P h
    go_enter Tryz.func3, Tryz.ntmps3
    go_wp2_with fail
    refine (HSU.out _ HT.out).mono ?_
    rintro e wz ⟨rfl, hb⟩
    go_wp2_with fail
    go_ret
    exact ⟨rfl, hb⟩
  have q : decide (60 < l.length) = false := by simpa using h6
  have q' : decide ((60 : Int) < (l.length : Int)) = false := by rw [decide_eq_false_iff_not]; omega
  have H1 := Lib.hid (fun W hT h => P.print l (by omega) a cap W hT h)
  have H2 := Lib.hid (fun W h => rPrint9_calls l (by omega) a cap W h)
  have H3 := Lib.hid (fun W hT h => P.group l (by omega) n a cap W hT h)
  have H4 := Lib.hid (fun W h => rGroup9_calls l (by omega) n a cap W h)
  have HN := Lib.hid h
  generalize prE l = e1 at *
  generalize grE l n = e2 at *
  generalize ofT (prT l) = t1 at *
  generalize ofT (grT l n) = t2 at *
  clear P h
  go_enter Tryz.func3, Tryz.ntmps3
  go_wp2_with fail
  refine (H1.out _ HT.out HN.out).mono ?_
  rintro e w1 ⟨rfl, hb⟩
  replace HN := Lib.hid (HN.out.below hb)
  replace HT := Lib.hid (HT.out.below hb (Nat.le_refl _))
  replace HB := Lib.hid (HB.out.trans (hb.mono HB.out.size))
  clear hb H1
  go_wp2_with fail
  refine (H2.out _ HN.out).mono ?_
  rintro e w2 ⟨rfl, hb⟩
  replace HN := Lib.hid (HN.out.below hb)
  replace HT := Lib.hid (HT.out.below hb (Nat.le_refl _))
  replace HB := Lib.hid (HB.out.trans (hb.mono HB.out.size))
  clear hb H2
  go_wp2_with fail
  refine (H3.out _ HT.out HN.out).mono ?_
  rintro e w3 ⟨rfl, hb⟩
  replace HN := Lib.hid (HN.out.below hb)
  replace HT := Lib.hid (HT.out.below hb (Nat.le_refl _))
  replace HB := Lib.hid (HB.out.trans (hb.mono HB.out.size))
  clear hb H3
  go_wp2_with fail
  refine (H4.out _ HN.out).mono ?_
  rintro e w4 ⟨rfl, hb⟩
  replace HT := Lib.hid (HT.out.below hb (Nat.le_refl _))
  replace HB := Lib.hid (HB.out.trans (hb.mono HB.out.size))
  clear hb H4 HN
  go_wp2_with fail
  refine (HSU.out _ HT.out).mono ?_
  rintro e wz ⟨rfl, hb⟩
  have hBB := HB.out.trans (hb.mono HB.out.size)
  clear HSU hb
  go_wp2_with fail
  go_ret
  exact ⟨rfl, hBB⟩
end Go.Proofs.YtbccojjcdcighaaGreatDoor

namespace Go.Proofs.YtbccojjcdcighaaGreatDoor
open Go.RowKit BS
set_option maxRecDepth 100000 in
set_option maxHeartbeats 8000000 in
theorem parse_dev (s : ByteArray) (hs : s.size ≤ 1000000) (w : World) :
    Calls Tryz.prog 15 #[.string s] w fun e w' => ∃ v, e = .returned (.tuple #[v, .int .i64 (parseN s).2.2.1, .int .i64 (parseN s).2.2.2]) ∧
      w'.ownsRow w.heap.size 45 8 v (parseN s).1.l.length (ndCells (parseN s).1.l) ∧ Below w.heap.size w w' := by
  have hP : parseN s = finM s (readM s (s.size + 1) 0 sPS) := readP_D s _ _ _
  rw [hP]
  clear hP
  have hRd := pread_calls s hs w
  generalize readM s (s.size + 1) 0 sPS = RES at *
  obtain ⟨y, er, pl⟩ := RES
  have HRd := Lib.hid hRd
  clear hRd
  by_cases he : er = 0
  · subst he
    obtain ⟨l, st, gr⟩ := y
    obtain _ | ⟨⟨n, r⟩, st⟩ := st
    · go_enter Tryz.func15, Tryz.ntmps15
      go_wp2_with fail
      refine HRd.out.mono ?_
      rintro e w2 (⟨h1, _⟩ | ⟨_, R, a, vN, vL, _, _, _, h3⟩)
      · exact absurd rfl h1
      · exact absurd rfl h3
    by_cases h0 : st = []
    · subst h0
      have hf : finM s (⟨l, [(n, r)], gr⟩, 0, pl) = (⟨l ++ rowT n ++ rowsT (r + 1), [], gr⟩, 0, 0, 0) := by
        unfold finM
        rw [if_neg (show ¬ (0 : Nat) ≠ 0 by decide), if_neg (show ¬ 1 < ([(n, r)] : List (Nat × Nat)).length by simp)]
        rfl
      rw [hf]
      clear hf
      go_enter Tryz.func15, Tryz.ntmps15
      go_wp2_with fail
      refine HRd.out.mono ?_
      rintro e w2 (⟨h1, _⟩ | ⟨_, R, a, vN, vL, rfl, hr, hbd, _⟩)
      · exact absurd rfl h1
      clear HRd
      obtain ⟨b1, b2, b3⟩ := hbd
      have b4 := b3 (n, r) (List.mem_cons_self ..)
      simp only at b1 b4
      obtain ⟨gL, capL, rfl, _⟩ := hr.top rfl
      have HO := Lib.hid (popen_calls R 0 (some ⟨gL, 0, none⟩) capL w2 hr.c.2.2.2.1 (by omega))
      have HE := Lib.hid (pendRows_calls w2 hr (by omega) (by simp) (by omega) (by omega))
      clear hr b1 b2 b3 b4
      go_wp2_with fail
      refine HO.out.mono ?_
      rintro e w3 ⟨rfl, rfl⟩
      clear HO
      go_wp2_with fail
      refine HE.out.mono ?_
      rintro e w3 ⟨rfl, vN', hr⟩
      clear HE
      have c2 := hr.c.2.2.1
      have HF := Lib.hid (And.intro hr.nodes hr.bel)
      clear hr
      go_wp2_with fail
      exact bodyPost_ret (v := .tuple #[vN', .int .i64 0, .int .i64 0]) (by simp [results, Tryz.results15, go_sem] <;> rfl) rfl ⟨_, rfl, HF.out.1, HF.out.2⟩
    · have hl : 0 < st.length := Nat.pos_of_ne_zero fun h => h0 (List.eq_nil_of_length_eq_zero h)
      have hf : finM s (⟨l, (n, r) :: st, gr⟩, 0, pl) = (zPS, st.length, 2, s.size) := by
        unfold finM
        rw [if_neg (show ¬ (0 : Nat) ≠ 0 by decide), if_pos (show 1 < ((n, r) :: st).length by rw [List.length_cons]; omega)]
        rfl
      rw [hf]
      clear hf
      have q : decide ((0 : Int) < (st.length : Int)) = true := by rw [decide_eq_true_iff]; omega
      go_enter Tryz.func15, Tryz.ntmps15
      go_wp2_with fail
      refine HRd.out.mono ?_
      rintro e w2 (⟨h1, _⟩ | ⟨_, R, a, vN, vL, rfl, hr, hbd, _⟩)
      · exact absurd rfl h1
      clear HRd
      have b2 := hbd.2.1
      simp only [List.length_cons] at b2
      obtain ⟨gL, capL, rfl, _⟩ := hr.top rfl
      have HO := Lib.hid (popen_calls R st.length (some ⟨gL, 0, none⟩) capL w2 hr.c.2.2.2.1 (by omega))
      have HB := Lib.hid hr.bel
      clear hr hbd b2
      go_wp2_with fail
      refine HO.out.mono ?_
      rintro e w3 ⟨rfl, rfl⟩
      clear HO
      go_wp2_with fail
      exact bodyPost_ret (v := .tuple #[.slice none 0 0, .int .i64 2, .int .i64 s.size]) (by simp [results, Tryz.results15, go_sem] <;> rfl) rfl ⟨_, rfl, World.ownsRow_nil _ _ _ _, HB.out⟩
  · have hf : finM s (y, er, pl) = (zPS, 0, er, pl) := by unfold finM; rw [if_pos he]
    rw [hf]
    clear hf
    have qe : ((er : Int) != 0) = true := by rw [bne_iff_ne]; omega
    have HNE := Lib.hid he
    clear he
    go_enter Tryz.func15, Tryz.ntmps15
    go_wp2_with fail
    refine HRd.out.mono ?_
    rintro e w2 (⟨_, rfl, hb⟩ | ⟨h1, _⟩)
    · go_wp2_with fail
      exact bodyPost_ret (v := .tuple #[.slice none 0 0, .int .i64 er, .int .i64 pl]) (by simp [results, Tryz.results15, go_sem] <;> rfl) rfl ⟨_, rfl, World.ownsRow_nil _ _ _ _, hb⟩
    · exact absurd h1 HNE.out
end Go.Proofs.YtbccojjcdcighaaGreatDoor

namespace Go.Proofs.YtbccojjcdcighaaGreatDoor
open Go.RowKit BS
set_option maxRecDepth 100000 in
set_option maxHeartbeats 8000000 in
theorem text_calls (l : List NdN) (hl : l.length ≤ 1000) (hr : rightR l = true) (i : Nat) (hi : i < l.length) (a : Option Addr) (cap : Nat) (w : World) (hT : TabP w) (h : NodesAt l a w) :
    Calls Tryz.prog 18 #[.slice a l.length cap, .int .i64 i] w fun e w' => e = .returned (.string (ofT (txAt l i))) ∧ Below w.heap.size w w' := by
  obtain ⟨hf, hnf, hp⟩ := right_nodes l hr
  have HSZ := Lib.hid (fun W (hW : NodesAt l a W) => aSizes2_calls l (by omega) a cap W hW)
  have hsr : (sizesR l).length = l.length := by rw [sizesR_len, if_pos hf]
  rw [hsr] at HSZ
  have HNO := Lib.hid (fun g2 vs c2 b w0 => pnode_calls l (by omega) hf hnf a cap g2 vs c2 b w0 i hi)
  have htl : (txAt l i).length ≤ 140737488355328 := by have := txAt_len l i; omega
  have hne := formed_ne hf
  have HN := Lib.hid h
  have HT := Lib.hid hT
  have hmf : ∀ (fn : Fn) (first cap : Array Value) (w : World), (Instr.makeFunc fn first cap).run Tryz.prog w = .ok (.func fn first cap) w := fun _ _ _ _ => rfl
  clear h hT hf hnf hp hr
  go_enter Tryz.func18, Tryz.ntmps18
  have hb0 := Blk.new w #[.pointer none, .slice none 0 0] 72
  have hB0 : Below w.heap.size w (w.alloc (.cells #[.pointer none, .slice none 0 0] 72)) := (Below.refl _ _).alloc (Nat.le_refl _) _
  go_upto_region 2 with fail
  generalize w.alloc (.cells #[.pointer none, .slice none 0 0] 72) = w1 at *
  have hlt1 := hb0.lt
  go_wp2_with fail
  refine (HSZ.out _ (HN.out.below hB0)).mono ?_
  rintro e w2 ⟨sb, sc, rfl, hsz, hb⟩
  obtain ⟨g2, vs, rfl, hg2, hvs, hvv⟩ := hsz hne
  have hBU : BuB w.heap.size w.heap.size [] w2 := BuB.new _ _ _ (Nat.le_refl _) (hb0.below hb hb0.lt)
  have hPW : PrW l a g2 vs w.heap.size w [] w2 := ⟨hBU, hB0.trans (hb.mono hB0.size), hvs, HN.out, HT.out, by omega, hvv⟩
  have hPW3 := hPW.step (.quiet hBU hPW.le ((Below.refl w2.heap.size w2).alloc (Nat.le_refl _) (.cells (prC a l.length cap (some ⟨g2, 0, none⟩) l.length sc w.heap.size) 75)))
  have hP := Blk.new w2 (prC a l.length cap (some ⟨g2, 0, none⟩) l.length sc w.heap.size) 75
  have HPW := Lib.hid hPW3
  have HP := Lib.hid hP
  have HB := Lib.hid (hPW3.below)
  clear hPW hPW3 hBU hb hb0 hB0 hP hsz hvv HSZ
  go_upto_region 3 with fail
  generalize w2.alloc (.cells (prC a l.length cap (some ⟨g2, 0, none⟩) l.length sc w.heap.size) 75) = w3 at *
  have p0 := HP.out.cell 0; have p1 := HP.out.cell 1; have p2 := HP.out.cell 2
  simp only [List.getElem?_toArray, List.getElem?_cons_zero, List.getElem?_cons_succ] at p0 p1 p2
  have HNC := Lib.hid (HNO.out g2 vs sc w.heap.size w [] w3 HPW.out (by rw [List.length_nil]; omega))
  clear HNO HP hmf
  go_wp2_with fail
  refine HNC.out.mono ?_
  rintro e w4 ⟨rfl, hq⟩
  rw [List.nil_append] at hq
  have HSC := Lib.hid (str_calls w.heap.size w.heap.size (txAt l i) w4 hq.1 (HPW.out.step hq).le)
  have HB4 := Lib.hid (HPW.out.step hq).below
  clear HNC hq p0 p1 p2
  go_wp2_with fail
  refine HSC.out.mono ?_
  rintro e w5 ⟨rfl, hb⟩
  have HB5 := Lib.hid (HB4.out.trans hb)
  clear hb HSC
  go_wp2_with fail
  go_ret
  exact ⟨rfl, HB5.out⟩
set_option maxRecDepth 100000 in
set_option maxHeartbeats 8000000 in
theorem index_calls (L : List Int) (hl : L.length ≤ 1000000) (v : Int) (a : Option Addr) (cap : Nat) (w : World) (h : IntsO L a w) :
    Calls Tryz.prog 39 #[.slice a L.length cap, .int .i64 v] w fun e w' => (∃ r : Int, e = .returned (.int .i64 r) ∧ ((∃ i : Nat, i < L.length ∧ r = i ∧ L.getD i 0 = v ∧ ∀ j, j < i → L.getD j 0 ≠ v) ∨ (r = -1 ∧ ∀ j, j < L.length → L.getD j 0 ≠ v))) ∧ Below w.heap.size w w' := by
  have HI := Lib.hid h
  clear h
  go_enter Tryz.func39, Tryz.ntmps39
  go_wp2_with fail
  go_loopw [8] (fun x wr => ∃ i : Nat, i ≤ L.length ∧ x = .int .i64 i ∧ (∀ j, j < i → L.getD j 0 ≠ v) ∧ Below w.heap.size w wr) (fun x _ => L.length - (intOf x).toNat)
  case atStart => exact ⟨0, Nat.zero_le _, rfl, fun j hj => by omega, Below.refl _ _⟩
  case round =>
    obtain ⟨i, hi, rfl, hno, hW⟩ := hrel
    have HNO := Lib.hid hno
    have HW := Lib.hid hW
    clear hno
    by_cases hlt : i < L.length
    · obtain ⟨g, o, rfl, hg, hc⟩ := HI.out.below hW (by rintro rfl; simp at hlt)
      have ck := hc i hlt
      have hgd : L.getD i 0 = L[i] := by rw [List.getD_eq_getElem?_getD, List.getElem?_eq_getElem hlt, Option.getD_some]
      have HGD := Lib.hid hgd
      have hdi : decide ((i : Int) < (L.length : Int)) = true := by rw [decide_eq_true_iff]; omega
      have hdi2 : decide (i < L.length) = true := decide_eq_true hlt
      have hii : (i : Int) < (L.length : Int) := by omega
      have xq : IntKind.i64.wrap ((i : Int) + 1) = (i : Int) + 1 := IntWalk.i64_in _ (by omega)
      clear hgd hc hW
      generalize L[i] = nu at *
      by_cases hq : v = nu
      · have q : (v == nu) = true := by rw [hq]; exact beq_self_eq_true nu
        have HR := Lib.hid (show ∃ i' : Nat, i' < L.length ∧ (i : Int) = i' ∧ L.getD i' 0 = v ∧ ∀ j, j < i' → L.getD j 0 ≠ v from ⟨i, hlt, rfl, by rw [HGD.out, hq], HNO.out⟩)
        clear HGD hq HNO
        go_wp2_with fail
        go_ret
        exact ⟨⟨_, rfl, .inl HR.out⟩, HW.out⟩
      · have q : (v == nu) = false := by rw [beq_eq_false_iff_ne]; exact hq
        go_wp2_with fail
        go_roundw
        case rel => exact ⟨i + 1, by omega, by simp, fun j hj => by
          by_cases hji : j = i
          · subst hji; rw [HGD.out]; exact fun h => hq h.symm
          · exact HNO.out j (by omega), HW.out⟩
        case measure => simp [intOf]; omega
    · obtain rfl : i = L.length := by omega
      have hdi : decide ((L.length : Int) < (L.length : Int)) = false := by simp
      clear hW
      go_wp2_with fail
      go_ret
      exact ⟨⟨_, rfl, .inr ⟨rfl, HNO.out⟩⟩, HW.out⟩
set_option maxRecDepth 100000 in
set_option maxHeartbeats 4000000 in
theorem nodeOf_calls (l : List NdN) (hl : l.length ≤ 1000) (hr : rightR l = true) (n : Int) (a : Option Addr) (cap : Nat) (w : World) (h : NodesAt l a w) :
    Calls Tryz.prog 20 #[.slice a l.length cap, .int .i64 n] w fun e w' => (∃ r : Int, e = .returned (.int .i64 r) ∧ ((∃ i : Nat, gIx l n = some i ∧ r = i) ∨ (gIx l n = none ∧ r = -1))) ∧ Below w.heap.size w w' := by
  obtain ⟨hf, _, hp⟩ := right_nodes l hr
  have hnl : (numsR l).length = l.length := by rw [numsR_len, (formed_stack l hf).2.2.1]
  have HN := Lib.hid (aNumbers_calls l (by omega) a cap w h)
  have HX := Lib.hid (fun a cap W (hW : IntsO (numsR l) a W) => index_calls (numsR l) (by omega) n a cap W hW)
  have HG := Lib.hid (gIx_is l n)
  have HG0 := Lib.hid (gIx_no l n)
  have HNL := Lib.hid hnl
  clear h hf hr hnl
  by_cases hn : n < 1
  · have hd : decide (n < 1) = true := decide_eq_true hn
    have HR := Lib.hid (HG0.out (fun h => by omega))
    clear HN HX HG HG0 hn
    go_enter Tryz.func20, Tryz.ntmps20
    go_wp2_with fail
    go_ret
    exact ⟨⟨_, rfl, .inr ⟨HR.out, rfl⟩⟩, Below.refl _ _⟩
  · have hd : decide (n < 1) = false := decide_eq_false hn
    go_enter Tryz.func20, Tryz.ntmps20
    go_wp2_with fail
    refine HN.out.mono ?_
    rintro e w1 ⟨b, c, rfl, hi, hb⟩
    have HI := Lib.hid hi.o
    have HB := Lib.hid hb
    clear hi hb HN
    go_wp2_with fail
    refine (HX.out _ _ _ HI.out).mono ?_
    rintro e w2 ⟨⟨r, rfl, hr⟩, hb⟩
    replace HB := Lib.hid (HB.out.trans (hb.mono HB.out.size))
    have HR := Lib.hid hr
    clear hb hr HX
    go_wp2_with fail
    go_ret
    refine ⟨⟨_, rfl, ?_⟩, HB.out⟩
    rcases HR.out with ⟨i, hi, rfl, he, hno⟩ | ⟨rfl, hno⟩
    · exact .inl ⟨i, HG.out i (by rw [HNL.out] at hi; exact hi) (by omega) he hno, rfl⟩
    · exact .inr ⟨HG0.out (fun _ j hj => hno j (by rw [HNL.out]; exact hj)), rfl⟩
set_option maxRecDepth 100000 in
set_option maxHeartbeats 4000000 in
theorem dPrint_calls (l : List NdN) (hl : l.length ≤ 1000) (a : Option Addr) (cap : Nat) (w : World) (hT : TabP w) (h : NodesAt l a w) :
    Calls Tryz.prog 8 #[.slice a l.length cap] w fun e w' => e = .returned (.tuple #[.string (ofT (prT l)), .int .i64 (prE l)]) ∧ Below w.heap.size w w' := by
  have HR := Lib.hid (aRight_calls l (by omega) a cap w h)
  unfold prT prE
  cases hr : rightR l with
  | false =>
    rw [hr] at HR
    clear hr h hT
    simp only [Bool.false_eq_true, if_false, ofT_nil]
    go_enter Tryz.func8, Tryz.ntmps8
    go_wp2_with fail
    refine HR.out.mono ?_
    rintro e w1 ⟨rfl, hb⟩
    clear HR
    go_wp2_with fail
    exact bodyPost_ret (v := .tuple #[.string ⟨#[]⟩, .int .i64 11]) (by simp [results, Tryz.results8, go_sem] <;> rfl) rfl ⟨rfl, hb⟩
  | true =>
    rw [hr] at HR
    obtain ⟨hf, _, hp⟩ := right_nodes l hr
    have HN := Lib.hid (fun W (hT : TabP W) (hW : NodesAt l a W) => text_calls l hl hr (l.length - 1) (by omega) a cap W hT hW)
    have HA := Lib.hid h
    have HT := Lib.hid hT
    have xl : IntKind.i64.wrap ((l.length : Int) - 1) = ((l.length - 1 : Nat) : Int) := by rw [IntWalk.i64_in _ (by omega)]; omega
    simp only [if_true]
    unfold txR
    clear hr h hf hT
    generalize txAt l (l.length - 1) = t at *
    go_enter Tryz.func8, Tryz.ntmps8
    go_wp2_with fail
    refine HR.out.mono ?_
    rintro e w1 ⟨rfl, hb⟩
    replace HA := Lib.hid (HA.out.below hb)
    replace HT := Lib.hid (HT.out.below hb (Nat.le_refl _))
    have HB := Lib.hid hb
    clear HR hb
    go_wp2_with fail
    refine (HN.out _ HT.out HA.out).mono ?_
    rintro e w2 ⟨rfl, hb⟩
    replace HB := Lib.hid (HB.out.trans (hb.mono HB.out.size))
    clear hb HN HA xl
    go_wp2_with fail
    exact bodyPost_ret (v := .tuple #[.string (ofT t), .int .i64 0]) (by simp [results, Tryz.results8, go_sem] <;> rfl) rfl ⟨rfl, HB.out⟩
set_option maxRecDepth 100000 in
set_option maxHeartbeats 4000000 in
theorem dGroup_calls (l : List NdN) (hl : l.length ≤ 1000) (n : Int) (a : Option Addr) (cap : Nat) (w : World) (hT : TabP w) (h : NodesAt l a w) :
    Calls Tryz.prog 10 #[.slice a l.length cap, .int .i64 n] w fun e w' => e = .returned (.tuple #[.string (ofT (grT l n)), .int .i64 (grE l n)]) ∧ Below w.heap.size w w' := by
  have HR := Lib.hid (aRight_calls l (by omega) a cap w h)
  cases hr : rightR l with
  | false =>
    rw [hr] at HR
    obtain ⟨e1, e2⟩ := gr_not l hr n
    rw [e1, e2, ofT_nil]
    clear hr h hT e1 e2
    go_enter Tryz.func10, Tryz.ntmps10
    go_wp2_with fail
    refine HR.out.mono ?_
    rintro e w1 ⟨rfl, hb⟩
    clear HR
    go_wp2_with fail
    exact bodyPost_ret (v := .tuple #[.string ⟨#[]⟩, .int .i64 11]) (by simp [results, Tryz.results10, go_sem] <;> rfl) rfl ⟨rfl, hb⟩
  | true =>
    rw [hr] at HR
    have HN := Lib.hid (fun W (hW : NodesAt l a W) => nodeOf_calls l hl hr n a cap W hW)
    have HX := Lib.hid (fun i (hi : i < l.length) W (hT : TabP W) (hW : NodesAt l a W) => text_calls l hl hr i hi a cap W hT hW)
    have HA := Lib.hid h
    have HT := Lib.hid hT
    have HGF := Lib.hid (gr_some l hr n)
    have HGN := Lib.hid (gr_none l hr n)
    have HGI := Lib.hid (fun i h => (gIx_some l n i h).1)
    generalize grT l n = T at *
    generalize grE l n = E at *
    clear hr h hT
    go_enter Tryz.func10, Tryz.ntmps10
    go_wp2_with fail
    refine HR.out.mono ?_
    rintro e w1 ⟨rfl, hb⟩
    replace HA := Lib.hid (HA.out.below hb)
    replace HT := Lib.hid (HT.out.below hb (Nat.le_refl _))
    have HB := Lib.hid hb
    clear HR hb
    go_wp2_with fail
    refine (HN.out _ HA.out).mono ?_
    rintro e w2 ⟨⟨r, rfl, hr⟩, hb⟩
    replace HA := Lib.hid (HA.out.below hb)
    replace HT := Lib.hid (HT.out.below hb (Nat.le_refl _))
    replace HB := Lib.hid (HB.out.trans (hb.mono HB.out.size))
    clear hb HN
    rcases hr with ⟨i, hg, rfl⟩ | ⟨hg, rfl⟩
    · obtain ⟨rfl, rfl⟩ := HGF.out i hg
      have HXi := Lib.hid (HX.out i (HGI.out i hg) _ HT.out HA.out)
      have hd : decide ((i : Int) < 0) = false := by rw [decide_eq_false_iff_not]; omega
      clear HGF HGN HGI hg HX
      go_wp2_with fail
      refine HXi.out.mono ?_
      rintro e w3 ⟨rfl, hb⟩
      replace HB := Lib.hid (HB.out.trans (hb.mono HB.out.size))
      clear hb HXi
      go_wp2_with fail
      exact bodyPost_ret (v := .tuple #[.string (ofT (txAt l i)), .int .i64 0]) (by simp [results, Tryz.results10, go_sem] <;> rfl) rfl ⟨rfl, HB.out⟩
    · obtain ⟨rfl, rfl⟩ := HGN.out hg
      clear HGF HGN HGI hg HX
      go_wp2_with fail
      exact bodyPost_ret (v := .tuple #[.string ⟨#[]⟩, .int .i64 1]) (by simp [results, Tryz.results10, go_sem] <;> rfl) rfl ⟨rfl, HB.out⟩
set_option maxRecDepth 100000 in
set_option maxHeartbeats 4000000 in
theorem dPlain_calls (s : ByteArray) (hs : s.size ≤ 1000000) (hl : (parseN s).1.l.length ≤ 1000) (w : World) (hT : TabP w) :
    Calls Tryz.prog 12 #[.string s] w fun e w' => e = .returned (.tuple #[.string (ofT (plT s)), .int .i64 (parseN s).2.2.1, .int .i64 (parseN s).2.2.2]) ∧ Below w.heap.size w w' := by
  have hP := parse_dev s hs w
  have hpl : (parseN s).2.2.1 = 0 → rightR (parseN s).1.l = true := plain_plain s
  have hp0 := parse_zero s
  unfold plT
  generalize parseN s = R at *
  obtain ⟨⟨l, st, gr⟩, op, er, pl⟩ := R
  simp only at hP hpl hp0 hl ⊢
  have HP := Lib.hid hP
  have HT := Lib.hid hT
  clear hP hT
  by_cases he : er = 0
  · subst he
    have hr := hpl rfl
    obtain rfl := hp0 rfl
    have hn := fun a cap W (hT : TabP W) (hW : NodesAt l a W) => dPrint_calls l hl a cap W hT hW
    have e1 : prT l = txR l := if_pos hr
    have e2 : prE l = 0 := if_pos hr
    rw [e1, e2] at hn
    have HN := Lib.hid hn
    rw [if_pos rfl]
    clear hpl hp0 hr hn e1 e2
    generalize txR l = t at *
    go_enter Tryz.func12, Tryz.ntmps12
    go_wp2_with fail
    refine HP.out.mono ?_
    rintro e w1 ⟨v, rfl, ho, hb⟩
    obtain ⟨a, cap, rfl, hn⟩ := nodes_any ho
    have HA := Lib.hid hn
    replace HT := Lib.hid (HT.out.below hb (Nat.le_refl _))
    have HB := Lib.hid hb
    clear HP hb ho hn
    go_wp2_with fail
    refine (HN.out _ _ _ HT.out HA.out).mono ?_
    rintro e w2 ⟨rfl, hb⟩
    replace HB := Lib.hid (HB.out.trans (hb.mono HB.out.size))
    clear hb HN HA
    go_wp2_with fail
    exact bodyPost_ret (v := .tuple #[.string (ofT t), .int .i64 0, .int .i64 0]) (by simp [results, Tryz.results12, go_sem] <;> rfl) rfl ⟨rfl, HB.out⟩
  · have q : ((er : Int) != 0) = true := by rw [bne_iff_ne]; omega
    rw [if_neg he, ofT_nil]
    clear hpl hp0 he
    go_enter Tryz.func12, Tryz.ntmps12
    go_wp2_with fail
    refine HP.out.mono ?_
    rintro e w1 ⟨v, rfl, ho, hb⟩
    clear HP ho
    go_wp2_with fail
    exact bodyPost_ret (v := .tuple #[.string ⟨#[]⟩, .int .i64 er, .int .i64 pl]) (by simp [results, Tryz.results12, go_sem] <;> rfl) rfl ⟨rfl, hb⟩
theorem printC : PrintC where
  print := fun l hl a cap w hT h => dPrint_calls l hl a cap w hT h
  plain := fun s hs hl w hT => dPlain_calls s hs hl w hT
  group := fun l hl n a cap w hT h => dGroup_calls l hl n a cap w hT h
end Go.Proofs.YtbccojjcdcighaaGreatDoor

namespace Go.Proofs.YtbccojjcdcighaaGreatDoor
open Go.RowKit BS
theorem tx_size (l : List NdN) (hl : l.length ≤ 1000) (i : Nat) (hi : i < l.length) : (ofT (txAt l i)).size ≤ 1000000 := by
  rw [size_ofT]
  have := txAt_len l i
  omega
set_option maxRecDepth 100000 in
set_option maxHeartbeats 16000000 in
theorem printBack_calls (P : PrintC) (l : List NdN) (hl : l.length ≤ 9223372036854775807) (n : Int) (a : Option Addr) (cap : Nat) (w : World) (hT : TabP w) (h : NodesAt l a w) :
    Calls Tryz.prog 5 #[.slice a l.length cap, .int .i64 n] w fun e w' => e = .returned (.bool true) ∧ Below w.heap.size w w' := by
  have HSU := Lib.hid (sure9_calls P)
  have HB := Lib.hid (Below.refl w.heap.size w)
  have HT := Lib.hid hT
  clear hT
  by_cases h6 : 60 < l.length
  · have q : decide (60 < l.length) = true := by simpa using h6
    have q' : decide ((60 : Int) < (l.length : Int)) = true := by rw [decide_eq_true_iff]; omega
    clear P h
    go_enter Tryz.func5, Tryz.ntmps5
    go_wp2_with fail
    refine (HSU.out _ HT.out).mono ?_
    rintro e wz ⟨rfl, hb⟩
    go_wp2_with fail
    go_ret
    exact ⟨rfl, hb⟩
  have q : decide (60 < l.length) = false := by simpa using h6
  have q' : decide ((60 : Int) < (l.length : Int)) = false := by rw [decide_eq_false_iff_not]; omega
  have h1 := fun W hT h => P.print l (by omega) a cap W hT h
  have HN := Lib.hid h
  cases hr : rightR l with
  | false =>
    have e1 : prT l = [] := by unfold prT; rw [hr]; rfl
    have e2 : prE l = 11 := by unfold prE; rw [hr]; rfl
    rw [e1, e2, show ofT [] = ⟨#[]⟩ from rfl] at h1
    have h2 := fun W h => rRight_calls l (by omega) a cap W h
    rw [hr] at h2
    have H1 := Lib.hid h1
    have H2 := Lib.hid h2
    clear P h h1 h2 e1 e2 hr
    go_enter Tryz.func5, Tryz.ntmps5
    go_wp2_with fail
    refine (H1.out _ HT.out HN.out).mono ?_
    rintro e w1 ⟨rfl, hb⟩
    replace HN := Lib.hid (HN.out.below hb)
    replace HT := Lib.hid (HT.out.below hb (Nat.le_refl _))
    replace HB := Lib.hid (HB.out.trans (hb.mono HB.out.size))
    clear hb H1
    go_wp2_with fail
    refine (H2.out _ HN.out).mono ?_
    rintro e w2 ⟨rfl, hb⟩
    replace HT := Lib.hid (HT.out.below hb (Nat.le_refl _))
    replace HB := Lib.hid (HB.out.trans (hb.mono HB.out.size))
    clear hb H2
    go_wp2_with fail
    refine (HSU.out _ HT.out).mono ?_
    rintro e wz ⟨rfl, hb⟩
    have hBB := HB.out.trans (hb.mono HB.out.size)
    clear HSU hb
    go_wp2_with fail
    go_ret
    exact ⟨rfl, hBB⟩
  | true =>
  have hp := right_pos l hr
  have e1 : prT l = txAt l (l.length - 1) := by unfold prT; rw [hr]; rfl
  have e2 : prE l = 0 := by unfold prE; rw [hr]; rfl
  rw [e1, e2] at h1
  have hpa := parse_dev (ofT (txAt l (l.length - 1))) (tx_size l (by omega) _ (by omega))
  obtain ⟨k1, k2⟩ := root_back l hr
  have k11 := congrArg (fun x => x.2.1) k1
  have k12 := congrArg (fun x => x.2.2) k1
  simp only at k11 k12
  rw [k11, k12, k2] at hpa
  have H1 := Lib.hid h1
  have H2 := Lib.hid hpa
  have H3 := Lib.hid (fun b ca W ha hb => sameN_calls l (by omega) a b cap ca W ha hb)
  have H4 := Lib.hid (fun W hT h => P.group l (by omega) n a cap W hT h)
  clear h h1 hpa k1 k2 k11 k12 e1 e2
  generalize ofT (txAt l (l.length - 1)) = t1 at *
  cases hg : gIx l n with
  | none =>
    obtain ⟨g1, g2⟩ := gr_none l hr n hg
    have h4 := H4.out
    rw [g1, g2, show ofT [] = ⟨#[]⟩ from rfl] at h4
    replace H4 := Lib.hid h4
    clear P h4 g1 g2 hg hr
    go_enter Tryz.func5, Tryz.ntmps5
    go_wp2_with fail
    refine (H1.out _ HT.out HN.out).mono ?_
    rintro e w1 ⟨rfl, hb⟩
    replace HN := Lib.hid (HN.out.below hb)
    replace HT := Lib.hid (HT.out.below hb (Nat.le_refl _))
    replace HB := Lib.hid (HB.out.trans (hb.mono HB.out.size))
    clear hb H1
    go_wp2_with fail
    refine (H2.out _).mono ?_
    rintro e w2 ⟨v, rfl, ho, hb⟩
    obtain ⟨b, cb, rfl, hnb⟩ := nodes_any ho
    replace HN := Lib.hid (HN.out.below hb)
    have HM := Lib.hid hnb
    replace HT := Lib.hid (HT.out.below hb (Nat.le_refl _))
    replace HB := Lib.hid (HB.out.trans (hb.mono HB.out.size))
    clear hb H2 ho hnb
    go_wp2_with fail
    refine (H3.out _ _ _ HN.out HM.out).mono ?_
    rintro e w3 ⟨rfl, hb⟩
    replace HN := Lib.hid (HN.out.below hb)
    replace HT := Lib.hid (HT.out.below hb (Nat.le_refl _))
    replace HB := Lib.hid (HB.out.trans (hb.mono HB.out.size))
    clear hb H3 HM
    go_wp2_with fail
    refine (H4.out _ HT.out HN.out).mono ?_
    rintro e w4 ⟨rfl, hb⟩
    replace HT := Lib.hid (HT.out.below hb (Nat.le_refl _))
    replace HB := Lib.hid (HB.out.trans (hb.mono HB.out.size))
    clear hb H4
    go_wp2_with fail
    refine (HSU.out _ HT.out).mono ?_
    rintro e wz ⟨rfl, hb⟩
    have hBB := HB.out.trans (hb.mono HB.out.size)
    clear HSU hb
    go_wp2_with fail
    go_ret
    exact ⟨rfl, hBB⟩
  | some i =>
    obtain ⟨g1, g2⟩ := gr_some l hr n i hg
    have h4 := H4.out
    rw [g1, g2] at h4
    replace H4 := Lib.hid h4
    have hi := (gIx_some l n i hg).1
    obtain ⟨k1, m, x, k2, hx⟩ := gr_back l hr n i hg
    have hpb := parse_dev (ofT (txAt l i)) (tx_size l (by omega) i hi)
    have hml : m.length + 1 ≤ 10000000 := by
      have h1 := right_len (ofT (txAt l i))
      have h2 := tx_size l (by omega) i hi
      rw [k2, List.length_append, List.length_singleton] at h1
      omega
    have k11 := congrArg (fun x => x.2.1) k1
    have k12 := congrArg (fun x => x.2.2) k1
    simp only at k11 k12
    rw [k11, k12, k2] at hpb
    have H5 := Lib.hid hpb
    clear P h4 g1 g2 hg hr k1 k2 k11 k12 hpb hi
    generalize ofT (txAt l i) = t2 at *
    go_enter Tryz.func5, Tryz.ntmps5
    go_wp2_with fail
    refine (H1.out _ HT.out HN.out).mono ?_
    rintro e w1 ⟨rfl, hb⟩
    replace HN := Lib.hid (HN.out.below hb)
    replace HT := Lib.hid (HT.out.below hb (Nat.le_refl _))
    replace HB := Lib.hid (HB.out.trans (hb.mono HB.out.size))
    clear hb H1
    go_wp2_with fail
    refine (H2.out _).mono ?_
    rintro e w2 ⟨v, rfl, ho, hb⟩
    obtain ⟨b, cb, rfl, hnb⟩ := nodes_any ho
    replace HN := Lib.hid (HN.out.below hb)
    have HM := Lib.hid hnb
    replace HT := Lib.hid (HT.out.below hb (Nat.le_refl _))
    replace HB := Lib.hid (HB.out.trans (hb.mono HB.out.size))
    clear hb H2 ho hnb
    go_wp2_with fail
    refine (H3.out _ _ _ HN.out HM.out).mono ?_
    rintro e w3 ⟨rfl, hb⟩
    replace HN := Lib.hid (HN.out.below hb)
    replace HT := Lib.hid (HT.out.below hb (Nat.le_refl _))
    replace HB := Lib.hid (HB.out.trans (hb.mono HB.out.size))
    clear hb H3 HM
    go_wp2_with fail
    refine (H4.out _ HT.out HN.out).mono ?_
    rintro e w4 ⟨rfl, hb⟩
    replace HT := Lib.hid (HT.out.below hb (Nat.le_refl _))
    replace HB := Lib.hid (HB.out.trans (hb.mono HB.out.size))
    clear hb H4 HN
    go_wp2_with fail
    refine (H5.out _).mono ?_
    rintro e w5 ⟨v, rfl, ho, hb⟩
    obtain ⟨g, cg, rfl, _, hng⟩ := nodes_of_owns ho (by simp)
    have hlen : (m ++ [x]).length = m.length + 1 := by simp
    obtain ⟨g', o', eg, hgg, hcc⟩ := hng (by simp)
    cases eg
    have cl := hcc m.length (by rw [hlen]; omega) 0 (by decide)
    rw [List.getElem_append_right (Nat.le_refl _)] at cl
    simp only [Nat.sub_self, List.getElem_cons_zero, ndA, List.getElem?_toArray, List.getElem?_cons_zero, Nat.zero_add, Nat.add_zero, hx] at cl
    rw [hlen]
    have xl : IntKind.i64.wrap (((m.length + 1 : Nat) : Int) - 1) = (m.length : Int) := by rw [IntWalk.i64_in _ (by omega)]; omega
    have xl2 : IntKind.i64.wrap ((m.length : Int) + 1 - 1) = (m.length : Int) := by rw [IntWalk.i64_in _ (by omega)]; omega
    have hlt1 : m.length < m.length + 1 := by omega
    have hlt2 : (m.length : Int) < (m.length : Int) + 1 := by omega
    have hps : decide ((0 : Int) < ((m.length + 1 : Nat) : Int)) = true := by rw [decide_eq_true_iff]; omega
    have hps2 : decide ((0 : Int) < (m.length : Int) + 1) = true := by rw [decide_eq_true_iff]; omega
    replace HT := Lib.hid (HT.out.below hb (Nat.le_refl _))
    replace HB := Lib.hid (HB.out.trans (hb.mono HB.out.size))
    clear hb H5 ho hng hcc hlen hx hgg
    go_wp2_with fail
    refine (HSU.out _ HT.out).mono ?_
    rintro e wz ⟨rfl, hb⟩
    have hBB := HB.out.trans (hb.mono HB.out.size)
    clear HSU hb
    go_wp2_with fail
    go_ret
    exact ⟨rfl, hBB⟩
end Go.Proofs.YtbccojjcdcighaaGreatDoor

namespace Go.Proofs.YtbccojjcdcighaaGreatDoor
open Go.RowKit BS
theorem ndG_cells9 : ndCells [ndG] = [.int .i64 3, .int .i64 1, .int .i64 0, .int .i64 0, .int .u64 0, .int .u64 0, .int .u64 0, .int .u64 0] := by
  have z1 : wd (0 : BitVec 256) 1 = 0 := by decide
  have z2 : wd (0 : BitVec 256) 2 = 0 := by decide
  have z3 : wd (0 : BitVec 256) 3 = 0 := by decide
  show ([.int .i64 3, .int .i64 1, .int .i64 0, .int .i64 0, .int .u64 ((wd (0 : BitVec 256) 0 : Nat) : Int), .int .u64 ((wd (0 : BitVec 256) 1 : Nat) : Int), .int .u64 ((wd (0 : BitVec 256) 2 : Nat) : Int), .int .u64 ((wd (0 : BitVec 256) 3 : Nat) : Int)] : List Value) = _
  rw [z1, z2, z3]
  rfl
theorem ndL_cells9 : ndCells [ndL] = [.int .i64 6, .int .i64 2, .int .i64 0, .int .i64 0, .int .u64 0, .int .u64 0, .int .u64 0, .int .u64 0] := by
  have z1 : wd (0 : BitVec 256) 1 = 0 := by decide
  have z2 : wd (0 : BitVec 256) 2 = 0 := by decide
  have z3 : wd (0 : BitVec 256) 3 = 0 := by decide
  show ([.int .i64 6, .int .i64 2, .int .i64 0, .int .i64 0, .int .u64 ((wd (0 : BitVec 256) 0 : Nat) : Int), .int .u64 ((wd (0 : BitVec 256) 1 : Nat) : Int), .int .u64 ((wd (0 : BitVec 256) 2 : Nat) : Int), .int .u64 ((wd (0 : BitVec 256) 3 : Nat) : Int)] : List Value) = _
  rw [z1, z2, z3]
  rfl
theorem grpN_two (l m : List NdN) : grpN (l ++ m) (l.length + m.length) = grpN l l.length + grpN m m.length := by
  rw [← List.length_append, grpN_count, grpN_count, grpN_count, List.map_append, List.countP_append]
theorem print_right (P : PrintC) (l : List NdN) (hr : rightR l = true) (hl : l.length ≤ 1000) (a : Option Addr) (cap : Nat) (w : World) (hT : TabP w) (h : NodesAt l a w) :
    Calls Tryz.prog 8 #[.slice a l.length cap] w fun e w' => e = .returned (.tuple #[.string (ofT (txR l)), .int .i64 0]) ∧ Below w.heap.size w w' := by
  have h1 := P.print l hl a cap w hT h
  have e1 : prT l = txR l := by unfold prT; rw [hr]; rfl
  have e2 : prE l = 0 := by unfold prE; rw [hr]; rfl
  rw [e1, e2] at h1
  exact h1
theorem txR_size (l : List NdN) (hl : l.length ≤ 1000) (hp : 0 < l.length) : (txR l).length ≤ 1000000 := by
  have := txAt_len l (l.length - 1)
  unfold txR
  omega
set_option maxRecDepth 100000 in
set_option maxHeartbeats 32000000 in
theorem printParts_calls (P : PrintC) (l m : List NdN) (hn : l.length ≤ 9223372036854775807) (hnm : m.length ≤ 9223372036854775807) (a b : Option Addr) (cap capm : Nat) (w : World) (hT : TabP w) (h : NodesAt l a w) (hm : NodesAt m b w) : Calls Tryz.prog 6 #[.slice a l.length cap, .slice b m.length capm] w fun e w' => e = .returned (.bool true) ∧ Below w.heap.size w w' := by
  have HSU := Lib.hid (sure9_calls P)
  have HN := Lib.hid h
  have HM := Lib.hid hm
  have HB := Lib.hid (Below.refl w.heap.size w)
  have HT := Lib.hid hT
  clear h hm hT
  by_cases hl : 40 < l.length
  · have q1 : decide (40 < l.length) = true := decide_eq_true hl
    have q1' : decide ((40 : Int) < (l.length : Int)) = true := by rw [decide_eq_true_iff]; omega
    clear P hl
    go_enter Tryz.func6, Tryz.ntmps6
    go_wp2_with fail
    refine (HSU.out _ HT.out).mono ?_
    rintro e wz ⟨rfl, hb⟩
    have hBB := HB.out.trans (hb.mono HB.out.size)
    clear HSU hb
    go_wp2_with fail
    go_ret
    exact ⟨rfl, hBB⟩
  have q1 : decide (40 < l.length) = false := decide_eq_false hl
  have q1' : decide ((40 : Int) < (l.length : Int)) = false := by rw [decide_eq_false_iff_not]; omega
  by_cases hl2 : 40 < m.length
  · have q2 : decide (40 < m.length) = true := decide_eq_true hl2
    have q2' : decide ((40 : Int) < (m.length : Int)) = true := by rw [decide_eq_true_iff]; omega
    clear P hl hl2
    go_enter Tryz.func6, Tryz.ntmps6
    go_wp2_with fail
    refine (HSU.out _ HT.out).mono ?_
    rintro e wz ⟨rfl, hb⟩
    have hBB := HB.out.trans (hb.mono HB.out.size)
    clear HSU hb
    go_wp2_with fail
    go_ret
    exact ⟨rfl, hBB⟩
  have q2 : decide (40 < m.length) = false := decide_eq_false hl2
  have q2' : decide ((40 : Int) < (m.length : Int)) = false := by rw [decide_eq_false_iff_not]; omega
  have r1 := fun W h => rRight_calls l (by omega) a cap W h
  have r2 := fun W h => rRight_calls m (by omega) b capm W h
  cases hr1 : rightR l with
  | false =>
    rw [hr1] at r1
    have HR1 := Lib.hid r1
    clear P r1 r2 hr1 hl hl2
    go_enter Tryz.func6, Tryz.ntmps6
    go_wp2_with fail
    refine (HR1.out _ HN.out).mono ?_
    rintro e w1 ⟨rfl, hb⟩
    replace HT := Lib.hid (HT.out.below hb (Nat.le_refl _))
    replace HB := Lib.hid (HB.out.trans (hb.mono HB.out.size))
    clear hb HR1 HN HM
    go_wp2_with fail
    refine (HSU.out _ HT.out).mono ?_
    rintro e wz ⟨rfl, hb⟩
    have hBB := HB.out.trans (hb.mono HB.out.size)
    clear HSU hb
    go_wp2_with fail
    go_ret
    exact ⟨rfl, hBB⟩
  | true =>
  rw [hr1] at r1
  have HR1 := Lib.hid r1
  cases hr2 : rightR m with
  | false =>
    rw [hr2] at r2
    have HR2 := Lib.hid r2
    clear P r1 r2 hr1 hr2 hl hl2
    go_enter Tryz.func6, Tryz.ntmps6
    go_wp2_with fail
    refine (HR1.out _ HN.out).mono ?_
    rintro e w1 ⟨rfl, hb⟩
    replace HM := Lib.hid (HM.out.below hb)
    replace HT := Lib.hid (HT.out.below hb (Nat.le_refl _))
    replace HB := Lib.hid (HB.out.trans (hb.mono HB.out.size))
    clear hb HR1 HN
    go_wp2_with fail
    refine (HR2.out _ HM.out).mono ?_
    rintro e w2 ⟨rfl, hb⟩
    replace HT := Lib.hid (HT.out.below hb (Nat.le_refl _))
    replace HB := Lib.hid (HB.out.trans (hb.mono HB.out.size))
    clear hb HR2 HM
    go_wp2_with fail
    refine (HSU.out _ HT.out).mono ?_
    rintro e wz ⟨rfl, hb⟩
    have hBB := HB.out.trans (hb.mono HB.out.size)
    clear HSU hb
    go_wp2_with fail
    go_ret
    exact ⟨rfl, hBB⟩
  | true =>
  rw [hr2] at r2
  have HR2 := Lib.hid r2
  have hpl := right_pos l hr1
  have hpm := right_pos m hr2
  have hnel : l ≠ [] := by rintro rfl; simp at hpl
  have hnem : m ≠ [] := by rintro rfl; simp at hpm
  obtain ⟨g, off, rfl, hg, hc⟩ := HN.out hnel
  obtain ⟨gm, offm, rfl, hgm, hcm⟩ := HM.out hnem
  have HP1 := Lib.hid (fun W hT h => print_right P l hr1 (by omega) (some ⟨g, off, none⟩) cap W hT h)
  have HP2 := Lib.hid (fun W hT h => print_right P m hr2 (by omega) (some ⟨gm, offm, none⟩) capm W hT h)
  have hgr := right_group l hr1
  have htw := right_two l m hr1 hr2
  have htg := tx_group l hr1
  have htt := tx_two l m hr1 hr2
  have hgl : (l ++ [ndG]).length = l.length + 1 := by simp
  have htl : (l ++ m ++ [ndL]).length = l.length + m.length + 1 := by simp; omega
  have HG1 := Lib.hid (fun (hg9 : grpN l l.length < 9) ga capg W hT h => by
    have hx := print_right P (l ++ [ndG]) (by rw [hgr]; exact decide_eq_true hg9) (by omega) ga capg W hT h
    rw [hgl, htg] at hx
    exact hx)
  have HG2 := Lib.hid (fun (h1 : (kdN l (l.length - 1) != 6) = true) (h2 : (kdN m (m.length - 1) != 6) = true) (h9 : grpN l l.length + grpN m m.length ≤ 9) ga capg W hT h => by
    have hx := print_right P (l ++ m ++ [ndL]) (by rw [htw, h1, h2, decide_eq_true h9]; rfl) (by omega) ga capg W hT h
    rw [htl, htt] at hx
    exact hx)
  have hs1 := txR_size l (by omega) hpl
  have hs2 := txR_size m (by omega) hpm
  have a1 := addT [40] (txR l) (by simp; omega)
  have a2 := addT ([40] ++ txR l) [41] (by simp; omega)
  have a3 := addT (txR l) [124] (by simp; omega)
  have a4 := addT (txR l ++ [124]) (txR m) (by simp; omega)
  rw [show ofT [40] = ⟨#[40]⟩ from rfl] at a1
  rw [show ofT [41] = ⟨#[41]⟩ from rfl] at a2
  rw [show ofT [124] = ⟨#[124]⟩ from rfl] at a3
  have HA1 := Lib.hid a1
  have HA2 := Lib.hid a2
  have HA3 := Lib.hid a3
  have HA4 := Lib.hid a4
  have HGT := Lib.hid (grpN_two l m)
  have HKL := Lib.hid (kdN_get l)
  have HKM := Lib.hid (kdN_get m)
  have HKA := Lib.hid (kdN_get (l ++ m))
  have HGS := Lib.hid (grpN_step (l ++ m))
  have HGLE := Lib.hid (grpN_le (l ++ m))
  have hall : (l ++ m).length = l.length + m.length := List.length_append
  have hneA : l ++ m ≠ [] := by simp [hnel]
  obtain ⟨i0, hinf, hz0, hz1, hz2⟩ := info_parts info8n
  clear P r1 r2 hr1 hr2 hgr htw htg htt hc hcm hgl htl a1 a2 a3 a4 hs1 hs2
  generalize ofT ([40] ++ txR l ++ [41]) = tg at *
  generalize ofT ([40] ++ txR l) = tg1 at *
  generalize ofT (txR l ++ [124] ++ txR m) = tt at *
  generalize ofT (txR l ++ [124]) = tt1 at *
  generalize ofT (txR l) = tl at *
  generalize ofT (txR m) = tm at *
  go_enter Tryz.func6, Tryz.ntmps6
  go_wp2_with fail
  refine (HR1.out _ HN.out).mono ?_
  rintro e w1 ⟨rfl, hb⟩
  replace HN := Lib.hid (HN.out.below hb)
  replace HM := Lib.hid (HM.out.below hb)
  replace HT := Lib.hid (HT.out.below hb (Nat.le_refl _))
  replace HB := Lib.hid (HB.out.trans (hb.mono HB.out.size))
  clear hb HR1
  go_wp2_with fail
  refine (HR2.out _ HM.out).mono ?_
  rintro e w2 ⟨rfl, hb⟩
  replace HN := Lib.hid (HN.out.below hb)
  replace HM := Lib.hid (HM.out.below hb)
  replace HT := Lib.hid (HT.out.below hb (Nat.le_refl _))
  replace HB := Lib.hid (HB.out.trans (hb.mono HB.out.size))
  clear hb HR2
  go_wp2_with fail
  refine (HP1.out _ HT.out HN.out).mono ?_
  rintro e w3 ⟨rfl, hb⟩
  replace HN := Lib.hid (HN.out.below hb)
  replace HM := Lib.hid (HM.out.below hb)
  replace HT := Lib.hid (HT.out.below hb (Nat.le_refl _))
  replace HB := Lib.hid (HB.out.trans (hb.mono HB.out.size))
  clear hb HP1
  go_wp2_with fail
  refine (HP2.out _ HT.out HM.out).mono ?_
  rintro e w4 ⟨rfl, hb⟩
  replace HN := Lib.hid (HN.out.below hb)
  replace HM := Lib.hid (HM.out.below hb)
  replace HT := Lib.hid (HT.out.below hb (Nat.le_refl _))
  replace HB := Lib.hid (HB.out.trans (hb.mono HB.out.size))
  clear hb HP2
  have hown0 := owns_empty w4 w4.heap.size (Nat.le_refl _)
  have hnews := nodes_news (HN.out.alloc (.cells #[] 45))
  have BW : Below w4.heap.size w4 (w4.alloc (.cells #[] 45)) := (Below.refl _ _).alloc (Nat.le_refl _) _
  go_wp2_with (at_builtin
               first
               | (refine wpList_append_own _ rfl _ _ 22 rfl w4.heap.size 45 i0 (.agg #[.int .i64 0, .int .i64 0, .int .i64 0, .int .i64 0, .int .u64 0, .int .u64 0, .int .u64 0, .int .u64 0]) 8 64 Tryz.underlying22 hinf hz0 hz1 hz2 rfl (by decide) _ 0 [] rfl hown0 ⟨g, off, none⟩ l.length cap (ndCells l) rfl (ndCells_len l) hnews (ndCells_one l) (by unfold maxLen; omega) (by omega) BW.size ?_
                  intro v1 w5 hown1 hgrow1 _
                  rw [Nat.zero_add, List.nil_append] at hown1
                  have BW4 := BW.grown hgrow1 BW.size (fun b hb => (hown0.lt b hb).1)
                  have hnewm := nodes_news (HM.out.below BW4)
                  clear hown0 hnews BW hgrow1
                  have HO1 := Lib.hid hown1)
               | (refine wpList_append_own _ rfl _ _ 22 rfl w4.heap.size 45 i0 (.agg #[.int .i64 0, .int .i64 0, .int .i64 0, .int .i64 0, .int .u64 0, .int .u64 0, .int .u64 0, .int .u64 0]) 8 64 Tryz.underlying22 hinf hz0 hz1 hz2 rfl (by decide) _ l.length (ndCells l) rfl HO1.out ⟨gm, offm, none⟩ m.length capm (ndCells m) rfl (ndCells_len m) hnewm (ndCells_one m) (by unfold maxLen; omega) (by omega) BW4.size ?_
                  intro v2 w6 hown2 hgrow2 _
                  have hown3 : w6.ownsRow w4.heap.size 45 8 v2 (l ++ m).length (ndCells (l ++ m)) := by
                    rw [ndCells_app, List.length_append]; exact hown2
                  have BW5 := BW4.grown hgrow2 BW4.size (fun b hb => (HO1.out.lt b hb).1)
                  obtain ⟨g3, cap3, hv3, _, hng⟩ := nodes_of_owns hown3 hneA
                  rw [hall] at hv3
                  subst hv3
                  have HAL := Lib.hid hng
                  replace HN := Lib.hid (HN.out.below BW5)
                  replace HM := Lib.hid (HM.out.below BW5)
                  replace HT := Lib.hid (HT.out.below BW5 (Nat.le_refl _))
                  replace HB := Lib.hid (HB.out.trans (BW5.mono HB.out.size))
                  clear hnewm hown2 hown3 hgrow2 hng BW4 BW5 HO1))
  go_loopw [9, 11] (fun v x wr => ∃ i : Nat, i ≤ l.length + m.length ∧ x = .int .i64 i ∧ v = .int .i64 (grpN (l ++ m) i : Nat) ∧ Below w6.heap.size w6 wr) (fun _ x _ => l.length + m.length - (intOf x).toNat)
  case atStart => exact ⟨0, Nat.zero_le _, rfl, rfl, Below.refl _ _⟩
  case round =>
    obtain ⟨i, hi, rfl, rfl, hW⟩ := hrel
    have HW := Lib.hid hW
    by_cases hlt : i < l.length + m.length
    · obtain ⟨g', o', eg, hgg, hcc⟩ := HAL.out.below hW hneA
      cases eg
      have ck := hcc i (by rw [hall]; exact hlt) 0 (by decide)
      have hk := HKA.out i (by rw [hall]; exact hlt)
      have hgs := HGS.out i
      have hle := HGLE.out i
      have ck2 : wr.cell? ⟨g3, i * 8, none⟩ = some (.int .i64 (kdN (l ++ m) i)) := by
        rw [hk]
        rw [Nat.zero_add, Nat.add_zero] at ck
        exact ck
      generalize kdN (l ++ m) i = kd at *
      generalize hgi : grpN (l ++ m) i = gi at *
      have HGI := Lib.hid hgs
      have hdi : decide ((i : Int) < ((l.length + m.length : Nat) : Int)) = true := by rw [decide_eq_true_iff]; omega
      have hdi1 : decide ((i : Int) < (l.length : Int) + (m.length : Int)) = true := by rw [decide_eq_true_iff]; omega
      have hdi2 : decide (i < l.length + m.length) = true := decide_eq_true hlt
      have hiI : (i : Int) < (l.length : Int) + (m.length : Int) := by omega
      have xi : IntKind.i64.wrap ((i : Int) + 1) = (i : Int) + 1 := IntWalk.i64_in _ (by omega)
      have xg : IntKind.i64.wrap ((gi : Int) + 1) = (gi : Int) + 1 := IntWalk.i64_in _ (by omega)
      clear hgs hgi hk ck hcc hgg hW
      by_cases h3 : kd = 3
      · have qb : (kd == 3) = true := by rw [h3]; rfl
        go_wp2_with fail
        go_roundw
        case rel => exact ⟨i + 1, by omega, by simp, by rw [HGI.out, qb, if_pos rfl]; rfl, HW.out⟩
        case measure => simp [intOf]; omega
      · have qb : (kd == 3) = false := by rw [beq_eq_false_iff_ne]; exact h3
        go_wp2_with fail
        go_roundw
        case rel => exact ⟨i + 1, by omega, by simp, by rw [HGI.out, qb]; rfl, HW.out⟩
        case measure => simp [intOf]; omega
    · obtain rfl : i = l.length + m.length := by omega
      have hdi : decide (((l.length + m.length : Nat) : Int) < ((l.length + m.length : Nat) : Int)) = false := by simp
      have hdi1 : decide ((l.length : Int) + (m.length : Int) < (l.length : Int) + (m.length : Int)) = false := by simp
      have hdi2 : decide (l.length + m.length < l.length + m.length) = false := by simp
      replace HN := Lib.hid (HN.out.below hW)
      replace HM := Lib.hid (HM.out.below hW)
      replace HAL := Lib.hid (HAL.out.below hW)
      replace HT := Lib.hid (HT.out.below hW (Nat.le_refl _))
      replace HB := Lib.hid (HB.out.trans (hW.mono HB.out.size))
      rw [HGT.out]
      clear HKA HGS HGLE HW hW
      generalize grpN l l.length = Gl at *
      generalize grpN m m.length = Gm at *
      by_cases h8 : 8 < Gl + Gm
      · have q8 : decide (8 < Gl + Gm) = true := decide_eq_true h8
        have q8' : decide ((8 : Int) < ((Gl + Gm : Nat) : Int)) = true := by rw [decide_eq_true_iff]; omega
        have q8'' : decide ((8 : Int) < (Gl : Int) + (Gm : Int)) = true := by rw [decide_eq_true_iff]; omega
        clear HG1 HG2 HA1 HA2 HA3 HA4
        go_wp2_with fail
        refine (HSU.out _ HT.out).mono ?_
        rintro e wz ⟨rfl, hb⟩
        have hBB := HB.out.trans (hb.mono HB.out.size)
        clear HSU hb
        go_wp2_with fail
        go_ret
        exact ⟨rfl, hBB⟩
      have q8 : decide (8 < Gl + Gm) = false := decide_eq_false h8
      have q8' : decide ((8 : Int) < ((Gl + Gm : Nat) : Int)) = false := by rw [decide_eq_false_iff_not]; omega
      have q8'' : decide ((8 : Int) < (Gl : Int) + (Gm : Int)) = false := by rw [decide_eq_false_iff_not]; omega
      have HGG := Lib.hid (HG1.out (by omega))
      have HGH := Lib.hid (fun h1 h2 => HG2.out h1 h2 (by omega))
      clear HG1 HG2
      go_upto_region 14 with fail
      clear q8 q8' q8'' hdi hdi1 hdi2
      have hown0 := owns_empty wr wr.heap.size (Nat.le_refl _)
      have hnews := nodes_news (HN.out.alloc (.cells #[] 45))
      have BW : Below wr.heap.size wr (wr.alloc (.cells #[] 45)) := (Below.refl _ _).alloc (Nat.le_refl _) _
      go_wp2_with (at_builtin
                   first
                   | (refine wpList_append_own _ rfl _ _ 22 rfl wr.heap.size 45 i0 (.agg #[.int .i64 0, .int .i64 0, .int .i64 0, .int .i64 0, .int .u64 0, .int .u64 0, .int .u64 0, .int .u64 0]) 8 64 Tryz.underlying22 hinf hz0 hz1 hz2 rfl (by decide) _ 0 [] rfl hown0 ⟨g, off, none⟩ l.length cap (ndCells l) rfl (ndCells_len l) hnews (ndCells_one l) (by unfold maxLen; omega) (by omega) BW.size ?_
                      intro v1 w7 hown1 hgrow1 _
                      rw [Nat.zero_add, List.nil_append] at hown1
                      have BW4 := BW.grown hgrow1 BW.size (fun b hb => (hown0.lt b hb).1)
                      clear hown0 hnews BW hgrow1
                      have HO1 := Lib.hid hown1)
                   | (refine wpList_append_own _ rfl _ _ 22 rfl wr.heap.size 45 i0 (.agg #[.int .i64 0, .int .i64 0, .int .i64 0, .int .i64 0, .int .u64 0, .int .u64 0, .int .u64 0, .int .u64 0]) 8 64 Tryz.underlying22 hinf hz0 hz1 hz2 rfl (by decide) _ l.length (ndCells l) rfl (HO1.out.alloc _) ⟨w7.heap.size, 0, none⟩ 1 1 [.int .i64 3, .int .i64 1, .int .i64 0, .int .i64 0, .int .u64 0, .int .u64 0, .int .u64 0, .int .u64 0] rfl rfl (Blk.new w7 _ _).newsL (by simp [Value.oneCell']) (by unfold maxLen; omega) (by omega) (by have := BW4.size; simp; omega) ?_
                      intro v2 w8 hown2 hgrow2 _
                      have hown3 : w8.ownsRow wr.heap.size 45 8 v2 (l ++ [ndG]).length (ndCells (l ++ [ndG])) := by
                        rw [ndCells_app, ndG_cells9, List.length_append]; exact hown2
                      have BW5 := (BW4.alloc BW4.size _).grown hgrow2 (by have := BW4.size; simp; omega) (fun b hb => (HO1.out.lt b hb).1)
                      obtain ⟨g4, cap4, hv4, _, hng⟩ := nodes_of_owns hown3 (by simp)
                      rw [List.length_append, show ([ndG] : List NdN).length = 1 from rfl] at hv4
                      subst hv4
                      have HGN := Lib.hid hng
                      replace HN := Lib.hid (HN.out.below BW5)
                      replace HM := Lib.hid (HM.out.below BW5)
                      replace HAL := Lib.hid (HAL.out.below BW5)
                      replace HT := Lib.hid (HT.out.below BW5 (Nat.le_refl _))
                      replace HB := Lib.hid (HB.out.trans (BW5.mono HB.out.size))
                      clear hown2 hown3 hgrow2 hng BW4 BW5 HO1))
      refine (HGG.out _ _ _ HT.out HGN.out).mono ?_
      rintro e w9 ⟨rfl, hb⟩
      replace HN := Lib.hid (HN.out.below hb)
      replace HM := Lib.hid (HM.out.below hb)
      replace HAL := Lib.hid (HAL.out.below hb)
      replace HT := Lib.hid (HT.out.below hb (Nat.le_refl _))
      replace HB := Lib.hid (HB.out.trans (hb.mono HB.out.size))
      clear hb HGG HGN
      have a1 := HA1.out
      have a2 := HA2.out
      obtain ⟨gl', ol', eg, hgl1, hcl⟩ := HN.out hnel
      cases eg
      obtain ⟨gm', om', eg, hgm1, hcm⟩ := HM.out hnem
      cases eg
      have cl := hcl (l.length - 1) (by omega) 0 (by decide)
      have cm := hcm (m.length - 1) (by omega) 0 (by decide)
      have hkl := HKL.out (l.length - 1) (by omega)
      have hkm := HKM.out (m.length - 1) (by omega)
      have cl2 : w9.cell? ⟨g, off + (l.length - 1) * 8, none⟩ = some (.int .i64 (kdN l (l.length - 1))) := by rw [hkl]; exact cl
      have cm2 : w9.cell? ⟨gm, offm + (m.length - 1) * 8, none⟩ = some (.int .i64 (kdN m (m.length - 1))) := by rw [hkm]; exact cm
      clear cl cm hkl hkm hcl hcm HKL HKM
      generalize kdN l (l.length - 1) = kl at *
      generalize kdN m (m.length - 1) = km at *
      have xl : IntKind.i64.wrap ((l.length : Int) - 1) = ((l.length - 1 : Nat) : Int) := by rw [IntWalk.i64_in _ (by omega)]; omega
      have xm : IntKind.i64.wrap ((m.length : Int) - 1) = ((m.length - 1 : Nat) : Int) := by rw [IntWalk.i64_in _ (by omega)]; omega
      have bl : l.length - 1 < l.length := by omega
      have bm : m.length - 1 < m.length := by omega
      have dl : decide (l.length - 1 < l.length) = true := decide_eq_true bl
      have dm : decide (m.length - 1 < m.length) = true := decide_eq_true bm
      have bl' : ((l.length - 1 : Nat) : Int) < (l.length : Int) := by omega
      have bm' : ((m.length - 1 : Nat) : Int) < (m.length : Int) := by omega
      by_cases k6 : kl = 6
      · have qk : (kl == 6) = true := by rw [k6]; rfl
        go_wp2_with fail
        refine (HSU.out _ HT.out).mono ?_
        rintro e wz ⟨rfl, hb⟩
        have hBB := HB.out.trans (hb.mono HB.out.size)
        clear HSU hb
        go_wp2_with fail
        go_ret
        exact ⟨rfl, hBB⟩
      have qk : (kl == 6) = false := by rw [beq_eq_false_iff_ne]; exact k6
      by_cases k7 : km = 6
      · have qm : (km == 6) = true := by rw [k7]; rfl
        go_wp2_with fail
        refine (HSU.out _ HT.out).mono ?_
        rintro e wz ⟨rfl, hb⟩
        have hBB := HB.out.trans (hb.mono HB.out.size)
        clear HSU hb
        go_wp2_with fail
        go_ret
        exact ⟨rfl, hBB⟩
      have qm : (km == 6) = false := by rw [beq_eq_false_iff_ne]; exact k7
      have HGG := Lib.hid (HGH.out (by rw [bne_iff_ne]; exact k6) (by rw [bne_iff_ne]; exact k7))
      clear HGH k6 k7
      go_upto_region 19 with fail
      clear a1 a2 cl2 cm2 xl xm bl bm dl dm bl' bm' qk qm
      have hown0 := owns_empty w9 w9.heap.size (Nat.le_refl _)
      have hnews := nodes_news (HAL.out.alloc (.cells #[] 45))
      have BW : Below w9.heap.size w9 (w9.alloc (.cells #[] 45)) := (Below.refl _ _).alloc (Nat.le_refl _) _
      go_wp2_with (at_builtin
                   first
                   | (refine wpList_append_own _ rfl _ _ 22 rfl w9.heap.size 45 i0 (.agg #[.int .i64 0, .int .i64 0, .int .i64 0, .int .i64 0, .int .u64 0, .int .u64 0, .int .u64 0, .int .u64 0]) 8 64 Tryz.underlying22 hinf hz0 hz1 hz2 rfl (by decide) _ 0 [] rfl hown0 ⟨g3, 0, none⟩ (l.length + m.length) cap3 (ndCells (l ++ m)) rfl (by rw [ndCells_len, hall]) hnews (ndCells_one (l ++ m)) (by unfold maxLen; omega) (by omega) BW.size ?_
                      intro v1 w10 hown1 hgrow1 _
                      rw [Nat.zero_add, List.nil_append] at hown1
                      have BW4 := BW.grown hgrow1 BW.size (fun b hb => (hown0.lt b hb).1)
                      clear hown0 hnews BW hgrow1
                      have HO1 := Lib.hid hown1)
                   | (refine wpList_append_own _ rfl _ _ 22 rfl w9.heap.size 45 i0 (.agg #[.int .i64 0, .int .i64 0, .int .i64 0, .int .i64 0, .int .u64 0, .int .u64 0, .int .u64 0, .int .u64 0]) 8 64 Tryz.underlying22 hinf hz0 hz1 hz2 rfl (by decide) _ (l.length + m.length) (ndCells (l ++ m)) rfl (HO1.out.alloc _) ⟨w10.heap.size, 0, none⟩ 1 1 [.int .i64 6, .int .i64 2, .int .i64 0, .int .i64 0, .int .u64 0, .int .u64 0, .int .u64 0, .int .u64 0] rfl rfl (Blk.new w10 _ _).newsL (by simp [Value.oneCell']) (by unfold maxLen; omega) (by omega) (by have := BW4.size; simp; omega) ?_
                      intro v2 w11 hown2 hgrow2 _
                      have hown3 : w11.ownsRow w9.heap.size 45 8 v2 (l ++ m ++ [ndL]).length (ndCells (l ++ m ++ [ndL])) := by
                        rw [ndCells_app (l ++ m), ndL_cells9, List.length_append, hall]; exact hown2
                      have BW5 := (BW4.alloc BW4.size _).grown hgrow2 (by have := BW4.size; simp; omega) (fun b hb => (HO1.out.lt b hb).1)
                      obtain ⟨g5, cap5, hv5, _, hng⟩ := nodes_of_owns hown3 (by simp)
                      rw [List.length_append, hall, show ([ndL] : List NdN).length = 1 from rfl] at hv5
                      subst hv5
                      have HTW := Lib.hid hng
                      replace HT := Lib.hid (HT.out.below BW5 (Nat.le_refl _))
                      replace HB := Lib.hid (HB.out.trans (BW5.mono HB.out.size))
                      clear hown2 hown3 hgrow2 hng BW4 BW5 HO1))
      refine (HGG.out _ _ _ HT.out HTW.out).mono ?_
      rintro e w12 ⟨rfl, hb⟩
      replace HT := Lib.hid (HT.out.below hb (Nat.le_refl _))
      replace HB := Lib.hid (HB.out.trans (hb.mono HB.out.size))
      clear hb HGG HTW HN HM HAL
      have a3 := HA3.out
      have a4 := HA4.out
      go_wp2_with fail
      refine (HSU.out _ HT.out).mono ?_
      rintro e wz ⟨rfl, hb⟩
      have hBB := HB.out.trans (hb.mono HB.out.size)
      clear HSU hb
      go_wp2_with fail
      go_ret
      exact ⟨rfl, hBB⟩
end Go.Proofs.YtbccojjcdcighaaGreatDoor

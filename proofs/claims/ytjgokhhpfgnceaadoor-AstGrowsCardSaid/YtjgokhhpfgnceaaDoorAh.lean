/- The document's trees: Numbers. -/
import Derived.Test.YtjgokhhpfgnceaaDoorAj
import Derived.Outline
import Derived.Deep.DeepCutAuto
namespace Go.Proofs.YtjgokhhpfgnceaaDoor
open Go.RowKit BS

def SNm (w0 : World) (g i k : Nat) (x y : Int) (W : World) : Prop := W.cell? ⟨g, i, none⟩ = some (.int .i64 x) ∧ W.cell? ⟨g, k, none⟩ = some (.int .i64 y) ∧ W = w0
set_option maxRecDepth 100000 in
set_option maxHeartbeats 16000000 in
theorem rNumbers_calls (l : List NdN) (hl : l.length ≤ 1000000) (a : Option Addr) (cap : Nat) (w : World) (h : NodesAt l a w) :
    Calls Tryd.prog 20 #[.slice a l.length cap] w fun e w' => ∃ b c, e = .returned (.slice b (numsR l).length c) ∧ IntsAt (numsR l) b w' ∧ Below w.heap.size w w' := by
  have HS := Lib.hid (rSizes_calls l hl a cap w h)
  have HN := Lib.hid h
  have hle := sizesR_le l
  have HBD := Lib.hid (sizesR_bound l)
  have HFI := Lib.hid (fiN_get l)
  have HKD := Lib.hid (kdN_get l)
  have HST := Lib.hid (cntN_step l)
  have HCL := Lib.hid (cntN_le l)
  have HCN := Lib.hid (cntN_num l)
  have HNZ : Hid (∀ i, kdN l i ≠ 3 → numF (kdN l) (fiN l) (sizesR l).length i = 0) := Lib.hid (fun i h => if_neg h)
  have HNR := Lib.hid (show numsR l = (List.range (sizesR l).length).map (fun i => ((numF (kdN l) (fiN l) (sizesR l).length i : Nat) : Int)) from rfl)
  clear h
  generalize hz : sizesR l = z at HS HBD HFI HCN HNZ HNR hle
  clear hz
  have hmk := fun W => run_make_row' (P := Tryd.prog) 26 3 (.int .i64 0) 8 Tryd.underlying26 (by kernel_rfl) rfl .i64 .i64 z.length (by omega) (by omega) W
  have hmz : (madeCells #[Value.int .i64 0] z.length).size = z.length := by simp [madeCells]
  have hm0 : ∀ t, t < z.length → (madeCells #[Value.int .i64 0] z.length)[t]? = some (.int .i64 0) := fun t ht => by
    simp [madeCells, ht, Nat.mod_one]
  generalize madeCells #[Value.int .i64 0] z.length = vs0 at *
  go_enter Tryd.func20, Tryd.ntmps20
  go_wp2_with fail
  refine HS.out.mono ?_
  rintro e w1 ⟨b, c, rfl, hzz, hb⟩
  have hBn := Blk.new w1 vs0 3
  have hB0 : Below w1.heap.size w1 (w1.alloc (.cells vs0 3)) := (Below.refl _ _).alloc (Nat.le_refl _) _
  have HZ := Lib.hid hzz
  have HB1 := Lib.hid hb
  clear hzz hb HS
  go_wp2_with fail
  generalize w1.alloc (.cells vs0 3) = w2 at *
  clear hmk
  go_loopw [5] (fun x wr => ∃ i : Nat, i ≤ z.length ∧ x = .int .i64 i ∧ (∃ vs : Array Value, vs.size = z.length ∧ (∀ t, t < i → vs[t]? = some (.int .i64 ((numF (kdN l) (fiN l) z.length t : Nat) : Int))) ∧ (∀ t, i ≤ t → t < z.length → vs[t]? = some (.int .i64 0)) ∧ Blk wr w1.heap.size vs 3) ∧ Below w1.heap.size w1 wr) (fun x _ => z.length - (intOf x).toNat)
  case atStart => exact ⟨0, Nat.zero_le _, rfl, ⟨vs0, hmz, fun t ht => by omega, fun t _ ht => hm0 t ht, hBn⟩, hB0⟩
  case round =>
    clear hBn hB0 hmz hm0
    obtain ⟨i, hi, rfl, ⟨vs, hvs, hno, hnz, hbk⟩, hB⟩ := hrel
    by_cases hlt : i < z.length
    · have hd : decide ((i : Int) < (z.length : Int)) = true := by rw [decide_eq_true_iff]; omega
      have hd2 : decide (i < z.length) = true := by rw [decide_eq_true_iff]; omega
      have hlt2 : i < l.length := by omega
      have hdl : decide (i < l.length) = true := by rw [decide_eq_true_iff]; omega
      have hne : l ≠ [] := by rintro rfl; simp at hlt2
      have hnez : z ≠ [] := by rintro rfl; simp at hlt
      obtain ⟨g, off, rfl, hg, hc⟩ := HN.out hne
      obtain ⟨g2, rfl, hg2, hcz⟩ := HZ.out hnez
      have HC := Lib.hid hc
      have HCZ := Lib.hid hcz
      have c1 : wr.cell? ⟨g, off + i * 8, none⟩ = some (.int .i64 (kdN l i)) := by
        rw [HKD.out i hlt2]
        exact (hB.cell (p := ⟨g, off + i * 8, none⟩) (Nat.lt_of_lt_of_le hg HB1.out.size)).trans ((HB1.out.cell (p := ⟨g, off + i * 8, none⟩) hg).trans (hc i hlt2 0 (by decide)))
      have xi : IntKind.i64.wrap ((i : Int) + 1) = (i : Int) + 1 := IntWalk.i64_in _ (by omega)
      have HB := Lib.hid hB
      have HBK := Lib.hid hbk
      have HNO := Lib.hid hno
      have HNL := Lib.hid hnz
      clear hc hcz hB hbk hno hnz hne hnez
      by_cases hk3 : kdN l i = 3
      · have q3 : (kdN l i != 3) = false := by rw [hk3]; rfl
        have HK3 := Lib.hid hk3
        rw [hk3] at c1
        have hbi := HBD.out i hlt
        have cz1 := fun (W : World) (hW : Below w1.heap.size w1 W) => (hW.cell (p := ⟨g2, i, none⟩) hg2).trans (HCZ.out i hlt)
        have hfi := HFI.out i hlt
        generalize hZI : z[i] = zi at *
        have xf : IntKind.i64.wrap ((i : Int) - zi) = (i : Int) - zi := IntWalk.i64_in _ (by omega)
        have HZ1 := Lib.hid cz1
        have HF1 := Lib.hid hfi
        clear hk3 cz1 hfi hZI
        go_wp2_with fail
        clear c1 q3
        go_loopw [6] (fun x wr => ∃ k : Nat, k ≤ z.length ∧ x = .int .i64 k ∧ (∃ vs : Array Value, vs.size = z.length ∧ (∀ t, t < i → vs[t]? = some (.int .i64 ((numF (kdN l) (fiN l) z.length t : Nat) : Int))) ∧ vs[i]? = some (.int .i64 (cntN l i k : Nat)) ∧ (∀ t, i < t → t < z.length → vs[t]? = some (.int .i64 0)) ∧ Blk wr w1.heap.size vs 3) ∧ Below w1.heap.size w1 wr) (fun x _ => z.length - (intOf x).toNat)
        case atStart => exact ⟨0, Nat.zero_le _, rfl, ⟨vs, hvs, HNO.out, HNL.out i (Nat.le_refl _) hlt, fun t h1 h2 => HNL.out t (by omega) h2, HBK.out⟩, HB.out⟩
        case round =>
          clear HNO HNL HBK HB hvs
          obtain ⟨k, hk, rfl, ⟨vs, hvs, hno, hci, hnz, hbk⟩, hB⟩ := hrel
          have HNO := Lib.hid hno
          have HNL := Lib.hid hnz
          have HCI := Lib.hid hci
          have HBK := Lib.hid hbk
          have HB := Lib.hid hB
          clear hno hnz hci hbk hB
          by_cases hkl : k < z.length
          · have hdk : decide ((k : Int) < (z.length : Int)) = true := by rw [decide_eq_true_iff]; omega
            have hdk2 : decide (k < z.length) = true := by rw [decide_eq_true_iff]; omega
            have hkl2 : k < l.length := by omega
            have hdk3 : decide (k < l.length) = true := by rw [decide_eq_true_iff]; omega
            have hbk2 := HBD.out k hkl
            have hfk := HFI.out k hkl
            have cz2 := (HB.out.cell (p := ⟨g2, k, none⟩) hg2).trans (HCZ.out k hkl)
            have cz1 := HZ1.out _ HB.out
            have ck := (HB.out.cell (p := ⟨g, off + k * 8, none⟩) (Nat.lt_of_lt_of_le hg HB1.out.size)).trans ((HB1.out.cell (p := ⟨g, off + k * 8, none⟩) hg).trans (HC.out k hkl2 0 (by decide)))
            have ek : (ndA l[k])[0]? = some (.int .i64 (kdN l k)) := by rw [HKD.out k hkl2]; rfl
            rw [ek] at ck
            have hst := HST.out i k
            have hcl := HCL.out i k
            have hleF := leF_iff (fiN l) k i
            generalize hZK : z[k] = zk at *
            have xk : IntKind.i64.wrap ((k : Int) - zk) = (k : Int) - zk := IntWalk.i64_in _ (by omega)
            have xk1 : IntKind.i64.wrap ((k : Int) + 1) = (k : Int) + 1 := IntWalk.i64_in _ (by omega)
            have HFK := Lib.hid hfk
            have HLF := Lib.hid hleF
            have HS2 := Lib.hid hst
            have h0 : SNm wr.drew g2 i k zi zk wr.drew := ⟨cz1, cz2, rfl⟩
            have HCK := Lib.hid (show wr.drew.cell? ⟨g, off + k * 8, none⟩ = some (.int .i64 (kdN l k)) from ck)
            replace HB : Hid (Below w1.heap.size w1 wr.drew) := Lib.hid HB.out.drew
            replace HBK : Hid (Blk wr.drew w1.heap.size vs 3) := Lib.hid HBK.out.drew
            clear hfk hleF hst ek ck cz1 cz2 hZK
            go_upto_region 10 with fail
            refine region_steps (S := SNm wr.drew g2 i k zi zk) (by kernel_rfl) h0 ?_
            clear h0
            simp only [List.size_toArray, List.length_cons, List.length_nil, Nat.reduceAdd, Array.replicate_succ, Array.replicate_zero, List.push_toArray, List.nil_append, List.cons_append]
            refine AnyS.stepE (i := 0) (d := some 32) rfl rfl (by kernel_rfl) (by kernel_rfl) (by kernel_rfl) ?_
            apply Exists.intro
            apply And.intro
            · apply StepsIf.yield
              · kernel_rfl
              intro w' hS
              clear hS; go_simp
              rfl
            intro a' ha'
            simp only [Act.put, List.setIfInBounds_toArray, List.set_cons_zero, List.set_cons_succ] at ha'
            subst ha'
            refine AnyS.stepE (i := 1) (d := some 33) rfl rfl (by kernel_rfl) (by kernel_rfl) (by kernel_rfl) ?_
            apply Exists.intro
            apply And.intro
            · apply StepsIf.yield
              · kernel_rfl
              intro w' hS
              clear hS; go_simp
              rfl
            intro a' ha'
            simp only [Act.put, List.setIfInBounds_toArray, List.set_cons_zero, List.set_cons_succ] at ha'
            subst ha'
            refine AnyS.stepE (i := 2) (d := some 34) rfl rfl (by kernel_rfl) (by kernel_rfl) (by kernel_rfl) ?_
            apply Exists.intro
            apply And.intro
            · apply StepsIf.yield
              · kernel_rfl
              intro w' hS
              clear hS; go_simp
              rfl
            intro a' ha'
            simp only [Act.put, List.setIfInBounds_toArray, List.set_cons_zero, List.set_cons_succ] at ha'
            subst ha'
            refine AnyS.next (i := 3) (d := some 35) (v := .pointer (some ⟨g2, i, none⟩)) rfl rfl (by kernel_rfl) (by kernel_rfl) (by kernel_rfl) (StepsIf.yield (by kernel_rfl) (fun w' hS => by clear hS; go_simp)) ?_
            intro a' ha'
            simp only [Act.put, List.setIfInBounds_toArray, List.set_cons_zero, List.set_cons_succ] at ha'
            subst ha'
            refine AnyS.next (i := 4) (d := some 36) (v := .int .i64 zi) rfl rfl (by kernel_rfl) (by kernel_rfl) (by kernel_rfl) (StepsIf.yield (by kernel_rfl) (fun w' hS => by have s := hS.1; clear hS; go_simp)) ?_
            intro a' ha'
            simp only [Act.put, List.setIfInBounds_toArray, List.set_cons_zero, List.set_cons_succ] at ha'
            subst ha'
            refine AnyS.next (i := 5) (d := some 37) (v := .int .i64 ((i : Int) - zi)) rfl rfl (by kernel_rfl) (by kernel_rfl) (by kernel_rfl) (StepsIf.yield (by kernel_rfl) (fun w' hS => by clear hS; go_simp)) ?_
            intro a' ha'
            simp only [Act.put, List.setIfInBounds_toArray, List.set_cons_zero, List.set_cons_succ] at ha'
            subst ha'
            refine AnyS.stepE (i := 6) (d := some 38) rfl rfl (by kernel_rfl) (by kernel_rfl) (by kernel_rfl) ?_
            apply Exists.intro
            apply And.intro
            · apply StepsIf.yield
              · kernel_rfl
              intro w' hS
              clear hS; go_simp
              rfl
            intro a' ha'
            simp only [Act.put, List.setIfInBounds_toArray, List.set_cons_zero, List.set_cons_succ] at ha'
            subst ha'
            refine AnyS.stepE (i := 7) (d := some 39) rfl rfl (by kernel_rfl) (by kernel_rfl) (by kernel_rfl) ?_
            apply Exists.intro
            apply And.intro
            · apply StepsIf.yield
              · kernel_rfl
              intro w' hS
              clear hS; go_simp
              rfl
            intro a' ha'
            simp only [Act.put, List.setIfInBounds_toArray, List.set_cons_zero, List.set_cons_succ] at ha'
            subst ha'
            refine AnyS.stepE (i := 8) (d := some 40) rfl rfl (by kernel_rfl) (by kernel_rfl) (by kernel_rfl) ?_
            apply Exists.intro
            apply And.intro
            · apply StepsIf.yield
              · kernel_rfl
              intro w' hS
              clear hS; go_simp
              rfl
            intro a' ha'
            simp only [Act.put, List.setIfInBounds_toArray, List.set_cons_zero, List.set_cons_succ] at ha'
            subst ha'
            refine AnyS.next (i := 9) (d := some 41) (v := .pointer (some ⟨g2, k, none⟩)) rfl rfl (by kernel_rfl) (by kernel_rfl) (by kernel_rfl) (StepsIf.yield (by kernel_rfl) (fun w' hS => by clear hS; go_simp)) ?_
            intro a' ha'
            simp only [Act.put, List.setIfInBounds_toArray, List.set_cons_zero, List.set_cons_succ] at ha'
            subst ha'
            refine AnyS.next (i := 10) (d := some 42) (v := .int .i64 zk) rfl rfl (by kernel_rfl) (by kernel_rfl) (by kernel_rfl) (StepsIf.yield (by kernel_rfl) (fun w' hS => by have s := hS.2.1; clear hS; go_simp)) ?_
            intro a' ha'
            simp only [Act.put, List.setIfInBounds_toArray, List.set_cons_zero, List.set_cons_succ] at ha'
            subst ha'
            refine AnyS.next (i := 11) (d := some 43) (v := .int .i64 ((k : Int) - zk)) rfl rfl (by kernel_rfl) (by kernel_rfl) (by kernel_rfl) (StepsIf.yield (by kernel_rfl) (fun w' hS => by clear hS; go_simp)) ?_
            intro a' ha'
            simp only [Act.put, List.setIfInBounds_toArray, List.set_cons_zero, List.set_cons_succ] at ha'
            subst ha'
            refine AnyS.next (i := 12) (d := some 7) (v := .int .i64 ((i : Int) - zi)) rfl rfl (by kernel_rfl) (by kernel_rfl) (by kernel_rfl) (StepsIf.yield (by kernel_rfl) (fun w' hS => by clear hS; go_simp)) ?_
            intro a' ha'
            simp only [Act.put, List.setIfInBounds_toArray, List.set_cons_zero, List.set_cons_succ] at ha'
            subst ha'
            refine AnyS.next (i := 13) (d := some 8) (v := .int .i64 ((k : Int) - zk)) rfl rfl (by kernel_rfl) (by kernel_rfl) (by kernel_rfl) (StepsIf.yield (by kernel_rfl) (fun w' hS => by clear hS; go_simp)) ?_
            intro a' ha'
            simp only [Act.put, List.setIfInBounds_toArray, List.set_cons_zero, List.set_cons_succ] at ha'
            subst ha'
            refine AnyS.done (by kernel_rfl) (fun w6 hS => ?_) _
            obtain ⟨_, _, rfl⟩ := hS
            generalize wr.drew = w7 at *
            have ck := HCK.out
            have ci := (HBK.out.cell i).trans HCI.out
            have fi := HBK.out.frozen i
            generalize hkk : kdN l k = kk at *
            have HKK := Lib.hid hkk
            have HE1 := Lib.hid (show fiN l k = (k : Int) - zk from HFK.out)
            have HE2 := Lib.hid (show fiN l i = (i : Int) - zi from HF1.out)
            have ywrap : IntKind.i64.wrap ((cntN l i k : Nat) + 1 : Int) = ((cntN l i k : Nat) : Int) + 1 := IntWalk.i64_in _ (by omega)
            generalize hcc : cntN l i k = cc at *
            clear hkk hcc HFK hbk2 hcl HCK HCI
            by_cases hq : kk = 3 ∧ ((k : Int) - zk < (i : Int) - zi ∨ ((k : Int) - zk = (i : Int) - zi ∧ i ≤ k))
            · have hone : cntN l i (k + 1) = cc + 1 := by
                rw [HS2.out]
                have e1 : leF (fiN l) k i = true := by rw [HLF.out, HE1.out, HE2.out]; exact hq.2
                rw [e1, hq.1]; rfl
              have HONE := Lib.hid hone
              have qk : (kk == 3) = true := by rw [hq.1]; rfl
              clear hone HS2 HLF HE1
              rcases hq.2 with hq2 | hq2
              · have q1 : decide ((k : Int) - zk < (i : Int) - zi) = true := by simpa using hq2
                clear hq hq2
                go_wp2_with fail
                go_roundw
                case rel =>
                  refine ⟨k + 1, by omega, by simp, ⟨vs.setIfInBounds i (.int .i64 ((cc : Int) + 1)), by simp [hvs], fun t ht => ?_, ?_, fun t h1 h2 => ?_, HBK.out.set i _⟩, below_set HB.out (Nat.le_refl _) i _⟩
                  · rw [Array.getElem?_setIfInBounds_ne (by omega)]; exact HNO.out t ht
                  · rw [HONE.out]; simp [hvs, hlt]
                  · rw [Array.getElem?_setIfInBounds_ne (by omega)]; exact HNL.out t h1 h2
                case measure => simp [intOf]; omega
              · have q1 : decide ((k : Int) - zk < (i : Int) - zi) = false := by rw [decide_eq_false_iff_not]; omega
                have q2 : ((k : Int) - zk == (i : Int) - zi) = true := by rw [beq_iff_eq]; omega
                have q4 : decide ((i : Int) ≤ (k : Int)) = true := by rw [decide_eq_true_iff]; omega
                have q5 : decide (i ≤ k) = true := by rw [decide_eq_true_iff]; omega
                clear hq hq2
                go_wp2_with fail
                go_roundw
                case rel =>
                  refine ⟨k + 1, by omega, by simp, ⟨vs.setIfInBounds i (.int .i64 ((cc : Int) + 1)), by simp [hvs], fun t ht => ?_, ?_, fun t h1 h2 => ?_, HBK.out.set i _⟩, below_set HB.out (Nat.le_refl _) i _⟩
                  · rw [Array.getElem?_setIfInBounds_ne (by omega)]; exact HNO.out t ht
                  · rw [HONE.out]; simp [hvs, hlt]
                  · rw [Array.getElem?_setIfInBounds_ne (by omega)]; exact HNL.out t h1 h2
                case measure => simp [intOf]; omega
            · have hone : cntN l i (k + 1) = cc := by
                rw [HS2.out]
                have e1 : (kk == 3 && leF (fiN l) k i) = false := by
                  cases hb : (kk == 3 && leF (fiN l) k i) with
                  | false => rfl
                  | true =>
                    rw [Bool.and_eq_true, beq_iff_eq, HLF.out, HE1.out, HE2.out] at hb
                    exact absurd hb hq
                rw [e1]; rfl
              have HONE := Lib.hid hone
              clear hone HS2 HLF HE1
              by_cases hk3 : kk = 3
              · have qk : (kk == 3) = true := by rw [hk3]; rfl
                have q1 : decide ((k : Int) - zk < (i : Int) - zi) = false := by rw [decide_eq_false_iff_not]; omega
                by_cases he : (k : Int) - zk = (i : Int) - zi
                · have q2 : ((k : Int) - zk == (i : Int) - zi) = true := by rw [beq_iff_eq]; omega
                  have q4 : decide ((i : Int) ≤ (k : Int)) = false := by rw [decide_eq_false_iff_not]; omega
                  have q5 : decide (i ≤ k) = false := by rw [decide_eq_false_iff_not]; omega
                  clear hq he hk3
                  go_wp2_with fail
                  go_roundw
                  case rel =>
                    refine ⟨k + 1, by omega, by simp, ⟨vs, hvs, HNO.out, ?_, HNL.out, HBK.out⟩, HB.out⟩
                    rw [HONE.out, ← ci, HBK.out.cell i]
                  case measure => simp [intOf]; omega
                · have q2 : ((k : Int) - zk == (i : Int) - zi) = false := by rw [beq_eq_false_iff_ne]; omega
                  clear hq he hk3
                  go_wp2_with fail
                  go_roundw
                  case rel =>
                    refine ⟨k + 1, by omega, by simp, ⟨vs, hvs, HNO.out, ?_, HNL.out, HBK.out⟩, HB.out⟩
                    rw [HONE.out, ← ci, HBK.out.cell i]
                  case measure => simp [intOf]; omega
              · have qk : (kk == 3) = false := by rw [beq_eq_false_iff_ne]; exact hk3
                clear hq hk3
                go_wp2_with fail
                go_roundw
                case rel =>
                  refine ⟨k + 1, by omega, by simp, ⟨vs, hvs, HNO.out, ?_, HNL.out, HBK.out⟩, HB.out⟩
                  rw [HONE.out, ← ci, HBK.out.cell i]
                case measure => simp [intOf]; omega
          · obtain rfl : k = z.length := by omega
            have hdk : decide ((z.length : Int) < (z.length : Int)) = false := by simp
            have hdk2 : decide (z.length < z.length) = false := by simp
            go_wp2_with fail
            go_roundw
            case rel =>
              refine ⟨i + 1, by omega, by simp, ⟨vs, hvs, fun t ht => ?_, fun t h1 h2 => HNL.out t (by omega) h2, HBK.out⟩, HB.out⟩
              by_cases hti : t = i
              · subst hti
                rw [HCI.out, HCN.out t HK3.out]
              · exact HNO.out t (by omega)
            case measure => simp [intOf]; omega
      · have q3 : (kdN l i != 3) = true := by rw [bne_iff_ne]; exact hk3
        have HK3 := Lib.hid (HNZ.out i hk3)
        generalize hkk : kdN l i = kk at *
        clear hk3 hkk
        go_wp2_with fail
        go_roundw
        case rel =>
          refine ⟨i + 1, by omega, by simp, ⟨vs, hvs, fun t ht => ?_, fun t h1 h2 => HNL.out t (by omega) h2, HBK.out⟩, HB.out⟩
          by_cases hti : t = i
          · subst hti
            rw [HNL.out t (Nat.le_refl _) hlt, HK3.out]
            rfl
          · exact HNO.out t (by omega)
        case measure => simp [intOf]; omega
    · obtain rfl : i = z.length := by omega
      have hd : decide ((z.length : Int) < (z.length : Int)) = false := by simp
      have hd2 : decide (z.length < z.length) = false := by simp
      have HBK := Lib.hid hbk
      have HNO := Lib.hid hno
      have HB := Lib.hid hB
      clear hbk hno hnz hB
      go_wp2_with fail
      go_ret
      have hnl : (numsR l).length = z.length := by rw [HNR.out, List.length_map, List.length_range]
      refine ⟨some ⟨w1.heap.size, 0, none⟩, z.length, by rw [hnl] <;> rfl, fun _ => ⟨w1.heap.size, rfl, HBK.out.lt, fun x hx => ?_⟩, HB1.out.trans (HB.out.mono HB1.out.size)⟩
      rw [hnl] at hx
      rw [HBK.out.cell x, HNO.out x hx]
      have hg' : (numsR l)[x]'(by omega) = ((numF (kdN l) (fiN l) z.length x : Nat) : Int) := by simp only [HNR.out, List.getElem_map, List.getElem_range]
      rw [hg']
end Go.Proofs.YtjgokhhpfgnceaaDoor

/- Texts put together: Tsl. -/
import Derived.Test.YtooolhekihijlaaQW
import Derived.Test.YtooolhekihijlaaQZ
/- TreeFrames. Stage 14. -/
namespace Go.Proofs.Ytooolhekihijlaa
open Go.RowKit BS

/-- What the two answers' region leaves. -/
def U14 (la wa ta : Value) (E n : Nat) : Nat → List Value → Value → Prop
  | 0, _, v => v = la
  | 1, _, v => v = wa
  | 2, _, v => v = .pointer (some ⟨E, 0, none⟩)
  | 3, _, v => v = ta
  | 4, _, v => ∃ b c, v = .slice b n c
  | 5, _, v => v = la
  | 6, _, v => v = wa
  | 7, _, v => v = .pointer (some ⟨E, 0, none⟩)
  | 8, _, v => v = ta
  | 9, _, v => ∃ b c, v = .slice b n c
  | _, l, v => l.head? = some v
def V14 (FT : List (List Int)) : Nat → Value → World → Prop
  | 4, v, w => ∃ b c, v = .slice b FT.length c ∧ RowsAt FT b w
  | 9, v, w => ∃ b c, v = .slice b FT.length c ∧ RowsAt FT b w
  | _, _, _ => True
theorem keep14 {FT : List (List Int)} (j : Nat) (v : Value) (w w' : World) (ht : Below w.heap.size w w') (hv : V14 FT j v w) : V14 FT j v w' := by
  by_cases h4 : j = 4
  · subst h4
    obtain ⟨b, c, e, h⟩ := hv
    exact ⟨b, c, e, h.below ht⟩
  by_cases h9 : j = 9
  · subst h9
    obtain ⟨b, c, e, h⟩ := hv
    exact ⟨b, c, e, h.below ht⟩
  unfold V14
  split
  · exact absurd rfl h4
  · exact absurd rfl h9
  · trivial
theorem row_two {FT : List (List Int)} {b : Option Addr} {W : World} (h : RowsAt FT b W) (i : Nat) (hi : i < FT.length) : ∃ g off, b = some ⟨g, off, none⟩ ∧ g < W.heap.size ∧ ∃ r c, W.cell? ⟨g, off + i, none⟩ = some (.slice r FT[i].length c) ∧ IntsO FT[i] r W := by
  obtain ⟨g, off, e, hg, hc⟩ := h (by rintro rfl; simp at hi)
  exact ⟨g, off, e, hg, hc i hi⟩
set_option maxRecDepth 100000 in
set_option maxHeartbeats 64000000 in
theorem treeFrames_calls (l : List NdN) (hl : l.length ≤ 9223372036854775807) (w : List Nat) (hw : w.length ≤ 9223372036854775807) (hw8 : ∀ x ∈ w, x < 256) (t : List EnN) (ht : t.length ≤ 9223372036854775807) (F : List (List Int)) (hF : F.length ≤ 9223372036854775807) (hFr : ∀ row ∈ F, row.length ≤ 9223372036854775807) (hrg : rangeR F)
    (ad wd td fd : Option Addr) (cl cw ca cb : Nat) (hca : t.length ≤ ca) (W : World) (hN : NodesAt l ad W) (hT : BtsAt w wd W) (hE : EntsAt t td W) (hR : RowsAt F fd W) :
    Calls Try.prog 5 #[.slice ad l.length cl, .slice wd w.length cw, .agg #[.slice td t.length ca, .slice fd F.length cb]] W fun e W' => e = .returned (.bool true) ∧ Below W.heap.size W W' := by
  have HSU := Lib.hid (fun (W : World) => sure14_calls W)
  have bE := Blk.new W #[.slice td t.length ca, .slice fd F.length cb] 31
  have hbe : Below W.heap.size W (W.alloc (.cells #[.slice td t.length ca, .slice fd F.length cb] 31)) := (Below.refl _ _).alloc (Nat.le_refl _) _
  have hzE : W.heap.size < (W.alloc (.cells #[.slice td t.length ca, .slice fd F.length cb] 31)).heap.size := by rw [World.size_alloc]; omega
  have HFEW := Lib.hid (fun W' => few14_calls l.length w.length t.length ad wd td cl cw ca W' hl hw ht)
  have HN := Lib.hid hN
  have HT := Lib.hid hT
  have HE := Lib.hid hE
  have HRF := Lib.hid hR
  have c0 := bE.cell 0; have c1 := bE.cell 1
  simp only [List.getElem?_toArray, List.getElem?_cons_zero, List.getElem?_cons_succ] at c0 c1
  have HB := Lib.hid hbe
  have HCE := Lib.hid (show ∀ W', Below (W.alloc (.cells #[.slice td t.length ca, .slice fd F.length cb] 31)).heap.size (W.alloc (.cells #[.slice td t.length ca, .slice fd F.length cb] 31)) W' → W'.cell? ⟨W.heap.size, 0, none⟩ = some (.slice td t.length ca) ∧ W'.cell? ⟨W.heap.size, 1, none⟩ = some (.slice fd F.length cb) from fun W' hb => ⟨(hb.cell (p := ⟨W.heap.size, 0, none⟩) hzE).trans c0, (hb.cell (p := ⟨W.heap.size, 1, none⟩) hzE).trans c1⟩)
  obtain ⟨FB, hFB⟩ : ∃ FB, FB = decide (l.length ≤ 60 ∧ w.length ≤ 60 ∧ t.length ≤ 600) := ⟨_, rfl⟩
  rw [← hFB] at HFEW
  have HFB := Lib.hid hFB
  clear hN hT hE hR hFB bE hbe hzE
  go_enter Try.func5, Try.ntmps5
  go_upto_region 1 with fail
  generalize W.alloc (.cells #[.slice td t.length ca, .slice fd F.length cb] 31) = w1 at *
  go_wp2_with fail
  refine (HFEW.out _).mono ?_
  rintro e w2 ⟨rfl, rfl⟩
  clear HFEW
  cases FB with
  | false =>
    go_wp2_with fail
    refine (HSU.out _).mono ?_
    rintro e w3 ⟨rfl, hb3⟩
    go_wp2_with fail
    go_ret
    exact ⟨rfl, HB.out.trans (hb3.mono HB.out.size)⟩
  | true =>
  obtain ⟨hl60, hw60, ht600⟩ := of_decide_eq_true HFB.out.symm
  by_cases hF80 : 80 < F.length
  · have q1 : decide (80 < F.length) = true := decide_eq_true hF80
    have q2 : decide ((80 : Int) < (F.length : Int)) = true := by rw [decide_eq_true_iff]; omega
    go_wp2_with fail
    refine (HSU.out _).mono ?_
    rintro e w3 ⟨rfl, hb3⟩
    go_wp2_with fail
    go_ret
    exact ⟨rfl, HB.out.trans (hb3.mono HB.out.size)⟩
  have q1 : decide (80 < F.length) = false := decide_eq_false hF80
  have q2 : decide ((80 : Int) < (F.length : Int)) = false := by rw [decide_eq_false_iff_not]; omega
  obtain ⟨FT, hFT⟩ : ∃ FT, FT = framesT l w t := ⟨_, rfl⟩
  have HD := Lib.hid (fun W' (hW : Below W.heap.size W W') => framesD_calls l (by omega) w (by omega) hw8 t (by omega) ad wd td cl cw ca hca W' (HN.out.below hW) (HT.out.below hW) (HE.out.below hW))
  have HRR := Lib.hid (fun W' (hW : Below W.heap.size W W') => rFrames_calls l (by omega) w (by omega) hw8 t (by omega) ad wd td cl cw ca W' (HN.out.below hW) (HT.out.below hW) (HE.out.below hW))
  rw [← hFT] at HD HRR
  have HLE : FT.length ≤ 61 ∧ (0 < FT.length → FT.flatten.length ≤ 2000 ∧ rangeR FT ∧ listT FT = (t, true)) := by
    rw [hFT]
    cases htt : treeT l w t with
    | false =>
      have : framesT l w t = [] := by unfold framesT; rw [htt]; rfl
      rw [this]
      exact ⟨by simp, fun h => absurd h (by simp)⟩
    | true => exact ⟨by rw [frames_len l w t htt]; omega, fun _ => frames_tree l (by omega) w t (by omega) htt⟩
  obtain ⟨hn61, htree⟩ := HLE
  have HTREE := Lib.hid htree
  have hBz : W.heap.size ≤ w1.heap.size := HB.out.size
  clear hFT htree c0 c1
  have c0 := (HCE.out w1 (Below.refl _ _)).1; have c1 := (HCE.out w1 (Below.refl _ _)).2
  go_upto_region 3 with fail
  clear c0 c1
  have hl60' := hl60
  refine region_stepsH (S := fun _ w' => Below w1.heap.size w1 w') (U := U14 (.slice ad l.length cl) (.slice wd w.length cw) (.slice td t.length ca) W.heap.size FT.length) (V := V14 FT) (T := fun _ w' w'' => Below w'.heap.size w' w'') [] (by kernel_rfl) (fun i j v w' w'' _ _ hb hv => keep14 j v w' w'' hb hv) (by kernel_rfl) (by kernel_rfl) ((Below.refl _ _).drew) ?_
  simp only [List.size_toArray, List.length_cons, List.length_nil, Nat.reduceAdd, Array.replicate_succ, Array.replicate_zero, List.push_toArray, List.nil_append, List.cons_append]
  refine AnyH.step (i := 0) (d := some 31) rfl rfl (by kernel_rfl) (by kernel_rfl) (by kernel_rfl) (by kernel_rfl) (by kernel_rfl) ⟨_, rfl⟩ (fun k => StepsH.run (by kernel_rfl) (fun w' hS hD => ⟨.slice ad l.length cl, w', ?_, rfl, trivial, Below.refl _ _, hS⟩)) ?_
  · clear hS hD; go_simp
    try rfl
  rintro v' rfl a' ha'
  simp only [Act.put, List.setIfInBounds_toArray, List.set_cons_zero, List.set_cons_succ] at ha'
  subst ha'
  refine AnyH.step (i := 1) (d := some 32) rfl rfl (by kernel_rfl) (by kernel_rfl) (by kernel_rfl) (by kernel_rfl) (by kernel_rfl) ⟨_, rfl⟩ (fun k => StepsH.run (by kernel_rfl) (fun w' hS hD => ⟨.slice wd w.length cw, w', ?_, rfl, trivial, Below.refl _ _, hS⟩)) ?_
  · clear hS hD; go_simp
    try rfl
  rintro v' rfl a' ha'
  simp only [Act.put, List.setIfInBounds_toArray, List.set_cons_zero, List.set_cons_succ] at ha'
  subst ha'
  refine AnyH.step (i := 2) (d := some 33) rfl rfl (by kernel_rfl) (by kernel_rfl) (by kernel_rfl) (by kernel_rfl) (by kernel_rfl) ⟨_, rfl⟩ (fun k => StepsH.run (by kernel_rfl) (fun w' hS hD => ⟨.pointer (some ⟨W.heap.size, 0, none⟩), w', ?_, rfl, trivial, Below.refl _ _, hS⟩)) ?_
  · clear hS hD; go_simp
    try rfl
  rintro v' rfl a' ha'
  simp only [Act.put, List.setIfInBounds_toArray, List.set_cons_zero, List.set_cons_succ] at ha'
  subst ha'
  refine AnyH.step (i := 3) (d := some 34) rfl rfl (by kernel_rfl) (by kernel_rfl) (by kernel_rfl) (by kernel_rfl) (by kernel_rfl) ⟨_, rfl⟩ (fun k => StepsH.run (by kernel_rfl) (fun w' hS hD => ⟨.slice td t.length ca, w', ?_, rfl, trivial, Below.refl _ _, hS⟩)) ?_
  · obtain ⟨e0, e1⟩ := HCE.out w' hS
    clear hS hD; go_simp
    try rfl
  rintro v' rfl a' ha'
  simp only [Act.put, List.setIfInBounds_toArray, List.set_cons_zero, List.set_cons_succ] at ha'
  subst ha'
  refine AnyH.step (i := 4) (d := some 35) rfl rfl (by kernel_rfl) (by kernel_rfl) (by kernel_rfl) (by kernel_rfl) (by kernel_rfl) ⟨_, none, 0, rfl⟩ (fun k => StepsH.call (f := 11) (args := #[.slice ad l.length cl, .slice wd w.length cw, .slice td t.length ca]) (by kernel_rfl) (fun w' hS => by clear hS; go_simp) (fun w' hS hD => (HD.out w' (HB.out.trans (hS.mono HB.out.size))).mono fun e w'' hh => ?_)) ?_
  · obtain ⟨b, c, rfl, h1, h2⟩ := hh
    exact ⟨_, rfl, ⟨b, c, rfl⟩, ⟨b, c, rfl, h1⟩, h2, hS.trans (h2.mono hS.size)⟩
  rintro v' ⟨b4, c4, rfl⟩ a' ha'
  simp only [Act.put, List.setIfInBounds_toArray, List.set_cons_zero, List.set_cons_succ] at ha'
  subst ha'
  refine AnyH.step (i := 5) (d := some 36) rfl rfl (by kernel_rfl) (by kernel_rfl) (by kernel_rfl) (by kernel_rfl) (by kernel_rfl) ⟨_, rfl⟩ (fun k => StepsH.run (by kernel_rfl) (fun w' hS hD => ⟨.slice ad l.length cl, w', ?_, rfl, trivial, Below.refl _ _, hS⟩)) ?_
  · clear hS hD; go_simp
    try rfl
  rintro v' rfl a' ha'
  simp only [Act.put, List.setIfInBounds_toArray, List.set_cons_zero, List.set_cons_succ] at ha'
  subst ha'
  refine AnyH.step (i := 6) (d := some 37) rfl rfl (by kernel_rfl) (by kernel_rfl) (by kernel_rfl) (by kernel_rfl) (by kernel_rfl) ⟨_, rfl⟩ (fun k => StepsH.run (by kernel_rfl) (fun w' hS hD => ⟨.slice wd w.length cw, w', ?_, rfl, trivial, Below.refl _ _, hS⟩)) ?_
  · clear hS hD; go_simp
    try rfl
  rintro v' rfl a' ha'
  simp only [Act.put, List.setIfInBounds_toArray, List.set_cons_zero, List.set_cons_succ] at ha'
  subst ha'
  refine AnyH.step (i := 7) (d := some 38) rfl rfl (by kernel_rfl) (by kernel_rfl) (by kernel_rfl) (by kernel_rfl) (by kernel_rfl) ⟨_, rfl⟩ (fun k => StepsH.run (by kernel_rfl) (fun w' hS hD => ⟨.pointer (some ⟨W.heap.size, 0, none⟩), w', ?_, rfl, trivial, Below.refl _ _, hS⟩)) ?_
  · clear hS hD; go_simp
    try rfl
  rintro v' rfl a' ha'
  simp only [Act.put, List.setIfInBounds_toArray, List.set_cons_zero, List.set_cons_succ] at ha'
  subst ha'
  refine AnyH.step (i := 8) (d := some 39) rfl rfl (by kernel_rfl) (by kernel_rfl) (by kernel_rfl) (by kernel_rfl) (by kernel_rfl) ⟨_, rfl⟩ (fun k => StepsH.run (by kernel_rfl) (fun w' hS hD => ⟨.slice td t.length ca, w', ?_, rfl, trivial, Below.refl _ _, hS⟩)) ?_
  · obtain ⟨e0, e1⟩ := HCE.out w' hS
    clear hS hD; go_simp
    try rfl
  rintro v' rfl a' ha'
  simp only [Act.put, List.setIfInBounds_toArray, List.set_cons_zero, List.set_cons_succ] at ha'
  subst ha'
  refine AnyH.step (i := 9) (d := some 40) rfl rfl (by kernel_rfl) (by kernel_rfl) (by kernel_rfl) (by kernel_rfl) (by kernel_rfl) ⟨_, none, 0, rfl⟩ (fun k => StepsH.call (f := 12) (args := #[.slice ad l.length cl, .slice wd w.length cw, .slice td t.length ca]) (by kernel_rfl) (fun w' hS => by clear hS; go_simp) (fun w' hS hD => (HRR.out w' (HB.out.trans (hS.mono HB.out.size))).mono fun e w'' hh => ?_)) ?_
  · obtain ⟨b, c, rfl, h1, h2⟩ := hh
    exact ⟨_, rfl, ⟨b, c, rfl⟩, ⟨b, c, rfl, h1⟩, h2, hS.trans (h2.mono hS.size)⟩
  rintro v' ⟨b9, c9, rfl⟩ a' ha'
  simp only [Act.put, List.setIfInBounds_toArray, List.set_cons_zero, List.set_cons_succ] at ha'
  subst ha'
  refine AnyH.step (i := 10) (d := some 7) rfl rfl (by kernel_rfl) (by kernel_rfl) (by kernel_rfl) (by kernel_rfl) (by kernel_rfl) ⟨.slice b4 FT.length c4, show List.head? _ = some _ from by kernel_rfl⟩ (fun k => StepsH.run (by kernel_rfl) (fun w' hS hD => ⟨.slice b4 FT.length c4, w', ?_, show List.head? _ = some _ from by kernel_rfl, trivial, Below.refl _ _, hS⟩)) ?_
  · clear hS hD; go_simp
    try rfl
  rintro v' hv' a' ha'
  have hv1 : some (Value.slice b4 FT.length c4) = some v' := hv'
  have hv2 := Option.some.inj hv1
  subst hv2
  simp only [Act.put, List.setIfInBounds_toArray, List.set_cons_zero, List.set_cons_succ] at ha'
  subst ha'
  refine AnyH.step (i := 11) (d := some 8) rfl rfl (by kernel_rfl) (by kernel_rfl) (by kernel_rfl) (by kernel_rfl) (by kernel_rfl) ⟨.slice b9 FT.length c9, show List.head? _ = some _ from by kernel_rfl⟩ (fun k => StepsH.run (by kernel_rfl) (fun w' hS hD => ⟨.slice b9 FT.length c9, w', ?_, show List.head? _ = some _ from by kernel_rfl, trivial, Below.refl _ _, hS⟩)) ?_
  · clear hS hD; go_simp
    try rfl
  rintro v' hv' a' ha'
  have hv1 : some (Value.slice b9 FT.length c9) = some v' := hv'
  have hv2 := Option.some.inj hv1
  subst hv2
  simp only [Act.put, List.setIfInBounds_toArray, List.set_cons_zero, List.set_cons_succ] at ha'
  subst ha'
  refine AnyH.done (k := 0) (by kernel_rfl) (by kernel_rfl) (fun w3 hS hFA => ?_) _
  have h4 := hFA 4 _ 35 rfl rfl rfl
  have h9 := hFA 9 _ 40 rfl rfl rfl
  obtain ⟨ba, ka, ea, hra⟩ : ∃ b c, (Value.slice b4 FT.length c4) = .slice b FT.length c ∧ RowsAt FT b w3 := h4
  obtain ⟨bb, kb, eb, hrb⟩ : ∃ b c, (Value.slice b9 FT.length c9) = .slice b FT.length c ∧ RowsAt FT b w3 := h9
  cases ea
  cases eb
  have HB3 := Lib.hid (HB.out.trans (hS.mono HB.out.size))
  have HS3 := Lib.hid hS
  have HRA := Lib.hid hra
  have HRB := Lib.hid hrb
  clear hFA hra hrb hS HD HRR
  generalize hn : FT.length = n at *
  go_wp2_with fail
  go_loopw [9] (fun vi wr => ∃ i : Nat, i ≤ n ∧ vi = .int .i64 i ∧ Below w3.heap.size w3 wr) (fun vi _ => n - (intOf vi).toNat)
  case atStart => exact ⟨0, Nat.zero_le _, rfl, Below.refl _ _⟩
  case round =>
    obtain ⟨i, hi, rfl, hB⟩ := hrel
    by_cases hlt : i < n
    · have p1 : decide ((i : Int) < (n : Int)) = true := by rw [decide_eq_true_iff]; omega
      have p2 : decide (i < n) = true := decide_eq_true hlt
      have p4 : (i : Int) < (n : Int) := by omega
      have xi : IntKind.i64.wrap ((i : Int) + 1) = (i : Int) + 1 := IntWalk.i64_in _ (by omega)
      have hltF : i < FT.length := by omega
      obtain ⟨ga, oa, rfl, hga, ra, ca', hca1, hia⟩ := row_two HRA.out i hltF
      obtain ⟨gb, ob, rfl, hgb, rb, cb', hcb1, hib⟩ := row_two HRB.out i hltF
      have HCA := Lib.hid (show ∀ W', Below wr.heap.size wr W' → W'.cell? ⟨ga, oa + i, none⟩ = some (.slice ra FT[i].length ca') ∧ W'.cell? ⟨gb, ob + i, none⟩ = some (.slice rb FT[i].length cb') from fun W' hb => by
        have hb2 := hB.trans (hb.mono hB.size)
        exact ⟨(hb2.cell (p := ⟨ga, oa + i, none⟩) hga).trans hca1, (hb2.cell (p := ⟨gb, ob + i, none⟩) hgb).trans hcb1⟩)
      have hfl : FT[i].length ≤ 2000 := by
        have h1 := (HTREE.out (by omega)).1
        have h2 := take_flat FT i hltF
        have h3 : (FT.take (i + 1)).flatten.length ≤ FT.flatten.length := by
          conv => rhs; rw [← List.take_append_drop (i + 1) FT]
          rw [List.flatten_append, List.length_append]
          omega
        omega
      have HIC := Lib.hid (fun W' (hb : Below wr.heap.size wr W') => by
        have hb2 := hB.trans (hb.mono hB.size)
        exact ints_same FT[i] (by omega) ra rb ca' cb' W' (hia.below hb2) (hib.below hb2))
      generalize FT[i].length = m at *
      have HBB := Lib.hid hB
      clear hca1 hia hcb1 hib hB hfl
      go_upto_region 9 with fail
      refine region_steps (S := fun w' => Below wr.heap.size wr w') (by kernel_rfl) ((Below.refl _ _).drew) ?_
      simp only [List.size_toArray, List.length_cons, List.length_nil, Nat.reduceAdd, Array.replicate_succ, Array.replicate_zero, List.push_toArray, List.nil_append, List.cons_append]
      refine AnyS.next (i := 0) (d := some 52) (v := .slice (some ⟨ga, oa, none⟩) n c4) rfl rfl (by kernel_rfl) (by kernel_rfl) (by kernel_rfl) (StepsIf.yield (by kernel_rfl) (fun w' hS => by clear hS; go_simp)) ?_
      intro a' ha'
      simp only [Act.put, List.setIfInBounds_toArray, List.set_cons_zero, List.set_cons_succ] at ha'
      subst ha'
      refine AnyS.next (i := 1) (d := some 53) (v := .int .i64 (i : Nat)) rfl rfl (by kernel_rfl) (by kernel_rfl) (by kernel_rfl) (StepsIf.yield (by kernel_rfl) (fun w' hS => by clear hS; go_simp)) ?_
      intro a' ha'
      simp only [Act.put, List.setIfInBounds_toArray, List.set_cons_zero, List.set_cons_succ] at ha'
      subst ha'
      refine AnyS.next (i := 2) (d := some 54) (v := .pointer (some ⟨ga, oa + i, none⟩)) rfl rfl (by kernel_rfl) (by kernel_rfl) (by kernel_rfl) (StepsIf.yield (by kernel_rfl) (fun w' hS => by clear hS; go_simp)) ?_
      intro a' ha'
      simp only [Act.put, List.setIfInBounds_toArray, List.set_cons_zero, List.set_cons_succ] at ha'
      subst ha'
      refine AnyS.next (i := 3) (d := some 55) (v := (.slice ra m ca')) rfl rfl (by kernel_rfl) (by kernel_rfl) (by kernel_rfl) (StepsIf.yield (by kernel_rfl) (fun w' hS => by obtain ⟨e0, e1⟩ := HCA.out w' hS; clear hS; go_simp)) ?_
      intro a' ha'
      simp only [Act.put, List.setIfInBounds_toArray, List.set_cons_zero, List.set_cons_succ] at ha'
      subst ha'
      refine AnyS.next (i := 4) (d := some 56) (v := .slice (some ⟨gb, ob, none⟩) n c9) rfl rfl (by kernel_rfl) (by kernel_rfl) (by kernel_rfl) (StepsIf.yield (by kernel_rfl) (fun w' hS => by clear hS; go_simp)) ?_
      intro a' ha'
      simp only [Act.put, List.setIfInBounds_toArray, List.set_cons_zero, List.set_cons_succ] at ha'
      subst ha'
      refine AnyS.next (i := 5) (d := some 57) (v := .int .i64 (i : Nat)) rfl rfl (by kernel_rfl) (by kernel_rfl) (by kernel_rfl) (StepsIf.yield (by kernel_rfl) (fun w' hS => by clear hS; go_simp)) ?_
      intro a' ha'
      simp only [Act.put, List.setIfInBounds_toArray, List.set_cons_zero, List.set_cons_succ] at ha'
      subst ha'
      refine AnyS.next (i := 6) (d := some 58) (v := .pointer (some ⟨gb, ob + i, none⟩)) rfl rfl (by kernel_rfl) (by kernel_rfl) (by kernel_rfl) (StepsIf.yield (by kernel_rfl) (fun w' hS => by clear hS; go_simp)) ?_
      intro a' ha'
      simp only [Act.put, List.setIfInBounds_toArray, List.set_cons_zero, List.set_cons_succ] at ha'
      subst ha'
      refine AnyS.next (i := 7) (d := some 59) (v := (.slice rb m cb')) rfl rfl (by kernel_rfl) (by kernel_rfl) (by kernel_rfl) (StepsIf.yield (by kernel_rfl) (fun w' hS => by obtain ⟨e0, e1⟩ := HCA.out w' hS; clear hS; go_simp)) ?_
      intro a' ha'
      simp only [Act.put, List.setIfInBounds_toArray, List.set_cons_zero, List.set_cons_succ] at ha'
      subst ha'
      refine AnyS.next (i := 8) (d := some 60) (v := .bool true) rfl rfl (by kernel_rfl) (by kernel_rfl) (by kernel_rfl) (StepsIf.call (by kernel_rfl) (fun w' hS => by clear hS; go_simp) (fun w' hS => (HIC.out w' hS).mono fun e1 w'' hh => ⟨hh.1, hS.trans (hh.2.mono hS.size)⟩)) ?_
      intro a' ha'
      simp only [Act.put, List.setIfInBounds_toArray, List.set_cons_zero, List.set_cons_succ] at ha'
      subst ha'
      refine AnyS.next (i := 9) (d := some 61) (v := .bool false) rfl rfl (by kernel_rfl) (by kernel_rfl) (by kernel_rfl) (StepsIf.yield (by kernel_rfl) (fun w' hS => by clear hS; go_simp)) ?_
      intro a' ha'
      simp only [Act.put, List.setIfInBounds_toArray, List.set_cons_zero, List.set_cons_succ] at ha'
      subst ha'
      refine AnyS.done (by kernel_rfl) ?_ _
      intro w5 hS
      have HB5 := Lib.hid (HBB.out.trans (hS.mono HBB.out.size))
      clear hS HCA HIC HBB
      go_wp2_with fail
      go_roundw
      case rel => exact ⟨i + 1, by omega, by simp, HB5.out⟩
      case measure => simp [intOf]; omega
    · obtain rfl : i = n := by omega
      have p1 : decide ((i : Int) < (i : Int)) = false := by rw [decide_eq_false_iff_not]; omega
      have HBB := Lib.hid hB
      clear hB
      have HW3 := Lib.hid (show ∀ W', Below w3.heap.size w3 W' → Below w1.heap.size w1 W' ∧ Below W.heap.size W W' from fun W' hb => ⟨HS3.out.trans (hb.mono HS3.out.size), HB3.out.trans (hb.mono HB3.out.size)⟩)
      obtain ⟨z, hz⟩ : ∃ z, decide (0 < i) = z := ⟨_, rfl⟩
      go_upto_if 64 with fail
      go_cut [10, 11] from 65 to 78 (fun _ _ wx => Below w3.heap.size w3 wx)
      case first =>
        cases z
        case true =>
          have h0 : 0 < i := of_decide_eq_true hz
          obtain ⟨t1, t2, t3⟩ := HTREE.out h0
          have HOF := Lib.hid (fun W' (hb : Below w3.heap.size w3 W') => ofD_calls FT (by omega) (by omega) t2 b4 c4 W' (HRA.out.below hb))
          rw [t3, hn] at HOF
          have HSA := Lib.hid (fun (b : Option Addr) (c : Nat) W' (hb : Below W.heap.size W W') (h : EntsAt t b W') => sameE_calls t t (by omega) (by omega) b td c ca W' h (HE.out.below hb))
          rw [decide_eq_true rfl] at HSA
          clear t1 t2 t3 h0 hz
          go_wp2_with fail
          refine (HOF.out _ HBB.out).mono ?_
          rintro e w6 ⟨bu, cu, rfl, hu, hb6⟩
          have hb7 := HBB.out.trans (hb6.mono HBB.out.size)
          have HB6 := Lib.hid hb7
          obtain ⟨e0, e1⟩ := HCE.out w6 (HW3.out w6 hb7).1
          have HU := Lib.hid hu
          clear hb6 hb7 hu HOF HBB
          go_wp2_with fail
          refine (HSA.out _ _ _ (HW3.out _ HB6.out).2 HU.out).mono ?_
          rintro e w7 ⟨rfl, hb7⟩
          have HB7 := Lib.hid (HB6.out.trans (hb7.mono HB6.out.size))
          clear hb7 e0 e1 HU HSA HB6
          go_wp2_with fail
          go_meet
          exact HB7.out
        case false =>
          go_wp2_with fail
          go_meet
          exact HBB.out
      case rest =>
        have HBX := Lib.hid hcut
        clear hcut HBB p1 HRA HRB HTREE hz
        obtain ⟨e0, e1⟩ := HCE.out _ (HW3.out _ HBX.out).1
        go_wp2_with fail
        clear e0 e1
        go_loopw [12, 13] (fun vm vi wr => ∃ k : Nat, k ≤ F.length ∧ vi = .int .i64 k ∧ vm = .int .i64 ((F.take k).flatten.length : Nat) ∧ (F.take k).flatten.length ≤ 1000 ∧ Below w3.heap.size w3 wr) (fun _ vi _ => F.length - (intOf vi).toNat)
        case atStart => exact ⟨0, Nat.zero_le _, rfl, by simp, by simp, HBX.out⟩
        case round =>
          obtain ⟨k, hk, rfl, rfl, hk1, hB⟩ := hrel
          clear HBX
          obtain ⟨hB1, hBW⟩ := HW3.out _ hB
          obtain ⟨e0, e1⟩ := HCE.out _ hB1
          by_cases hklt : k < F.length
          · have p1 : decide ((k : Int) < (F.length : Int)) = true := by rw [decide_eq_true_iff]; omega
            have p2 : decide (k < F.length) = true := decide_eq_true hklt
            have p4 : (k : Int) < (F.length : Int) := by omega
            have xk : IntKind.i64.wrap ((k : Int) + 1) = (k : Int) + 1 := IntWalk.i64_in _ (by omega)
            obtain ⟨gf, of, rfl, hgf, rf, cf, hcf, _⟩ := row_two HRF.out k hklt
            have cF := (hBW.cell (p := ⟨gf, of + k, none⟩) hgf).trans hcf
            have htk := take_flat F k hklt
            have hrl := hFr F[k] (List.getElem_mem hklt)
            generalize F[k].length = rl at *
            generalize hmany : (F.take k).flatten.length = many at *
            have HBB := Lib.hid hB
            clear hB hB1 hBW hcf
            by_cases hbig : rl ≤ 200 ∧ many ≤ 600
            · have r1 : decide (200 < rl) = false := by rw [decide_eq_false_iff_not]; omega
              have r2 : decide ((200 : Int) < (rl : Int)) = false := by rw [decide_eq_false_iff_not]; omega
              have r3 : decide (600 < many) = false := by rw [decide_eq_false_iff_not]; omega
              have r4 : decide ((600 : Int) < (many : Int)) = false := by rw [decide_eq_false_iff_not]; omega
              have xm : IntKind.i64.wrap ((many : Int) + (rl : Int)) = (many : Int) + (rl : Int) := IntWalk.i64_in _ (by omega)
              have HTK := Lib.hid htk
              clear htk
              go_wp2_with fail
              go_roundw
              case rel => exact ⟨k + 1, by omega, by simp, by rw [HTK.out] <;> simp, by rw [HTK.out]; omega, HBB.out⟩
              case measure => simp [intOf]; omega
            · have hcond : (decide (200 < rl) = true ∧ decide ((200 : Int) < (rl : Int)) = true) ∨ (decide (200 < rl) = false ∧ decide ((200 : Int) < (rl : Int)) = false ∧ decide (600 < many) = true ∧ decide ((600 : Int) < (many : Int)) = true) := by
                by_cases h1 : 200 < rl
                · exact .inl ⟨decide_eq_true h1, by rw [decide_eq_true_iff]; omega⟩
                · exact .inr ⟨decide_eq_false h1, by rw [decide_eq_false_iff_not]; omega, by rw [decide_eq_true_iff]; omega, by rw [decide_eq_true_iff]; omega⟩
              rcases hcond with ⟨r1, r2⟩ | ⟨r1, r2, r3, r4⟩
              all_goals
                go_wp2_with fail
                refine (HSU.out _).mono ?_
                rintro e w7 ⟨rfl, hb7⟩
                have hfin := (HW3.out _ HBB.out).2
                go_wp2_with fail
                go_ret
                exact ⟨rfl, hfin.trans (hb7.mono hfin.size)⟩
          · obtain rfl : k = F.length := by omega
            have p1 : decide ((F.length : Int) < (F.length : Int)) = false := by rw [decide_eq_false_iff_not]; omega
            rw [List.take_of_length_le (Nat.le_refl _)] at hk1
            have hll := listT_len F
            have HO1 := Lib.hid (fun W' (hb : Below W.heap.size W W') => ofD_calls F (by omega) (by omega) hrg fd cb W' (HRF.out.below hb))
            have HO2 := Lib.hid (fun W' (hb : Below W.heap.size W W') => rOf_calls F (by omega) (by omega) hrg fd cb W' (HRF.out.below hb))
            generalize listT F = LF at *
            obtain ⟨lf, bf⟩ := LF
            simp only at hll HO1 HO2
            have HSA := Lib.hid (fun (b : Option Addr) (c : Nat) (b2 : Option Addr) (c2 : Nat) W' (h : EntsAt lf b W') (h2 : EntsAt lf b2 W') => sameE_calls lf lf (by omega) (by omega) b b2 c c2 W' h h2)
            rw [decide_eq_true rfl] at HSA
            have HBB := Lib.hid hB
            have HBY := Lib.hid hBW
            clear hB hBW hB1
            go_wp2_with fail
            refine (HO1.out _ HBY.out).mono ?_
            rintro e w6 ⟨bx, cx, rfl, hx, hb6⟩
            have HB6 := Lib.hid (HBB.out.trans (hb6.mono HBB.out.size))
            have HX := Lib.hid hx
            clear hx hb6 e0 e1 HBB HBY HO1
            obtain ⟨hB1, hBW⟩ := HW3.out _ HB6.out
            obtain ⟨e0, e1⟩ := HCE.out _ hB1
            have HBY := Lib.hid hBW
            clear hB1 hBW
            go_wp2_with fail
            refine (HO2.out _ HBY.out).mono ?_
            rintro e w7 ⟨by_, cy, rfl, hy, hb7⟩
            have HB7 := Lib.hid (HBY.out.trans (hb7.mono HBY.out.size))
            have HY := Lib.hid hy
            have HX7 := Lib.hid (HX.out.below hb7)
            clear hy hb7 e0 e1 HBY HO2 HX HB6
            go_wp2_with fail
            refine (HSA.out _ _ _ _ _ HX7.out HY.out).mono ?_
            rintro e w8 ⟨rfl, hb8⟩
            have HB8 := Lib.hid (HB7.out.trans (hb8.mono HB7.out.size))
            clear hb8 HX7 HY HB7 HSA
            have hbb : (bf == bf) = true := by cases bf <;> rfl
            go_wp2_with fail
            refine (HSU.out _).mono ?_
            rintro e w9 ⟨rfl, hb9⟩
            go_wp2_with fail
            go_ret
            exact ⟨rfl, HB8.out.trans (hb9.mono HB8.out.size)⟩
end Go.Proofs.Ytooolhekihijlaa

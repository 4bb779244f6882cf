/- TreeWithin. Stage 14. -/
import Derived.Test.YtooolhekihijlaaTsn
import Derived.Test.YtooolhekihijlaaQW
import Derived.Test.YtooolhekihijlaaQZ
namespace Go.Proofs.Ytooolhekihijlaa
open Go.RowKit BS

set_option maxRecDepth 100000 in
set_option maxHeartbeats 2000000 in
theorem eqSp (a b c d : Int) (w : World) :
    (Op.equalIn 10000 42 (.agg (spC a b)) (.agg (spC c d))).run Try.prog w = .ok (decide (a = c ∧ b = d)) w := by
  go_simp
  by_cases h1 : a = c <;> by_cases h2 : b = d <;> simp [h1, h2]
theorem step_depth : ∀ (L : List EnN) (p : Int), stepOk p L → ∀ i, i < L.length → 1 ≤ (atE L i).depth ∧ (atE L i).depth ≤ p + 1 + i
  | [], _, _, i, h => absurd h (by simp)
  | x :: L, p, h, 0, _ => ⟨h.2.1, by have := h.1; simp [atE]; omega⟩
  | x :: L, p, h, i + 1, hi => by
    have h2 := step_depth L x.depth h.2.2 i (by simpa using hi)
    rw [show atE (x :: L) (i + 1) = atE L i from atE_cons x L i]
    have := h.1
    refine ⟨h2.1, ?_⟩
    have := h2.2
    push_cast
    omega
/-- Does entry i tell what group g spans? -/
def hitE (l : List NdN) (t : List EnN) (g : Nat) (z : Int × Int) (i : Nat) : Bool :=
  decide ((ndE l (atE t i).node.toNat).kind = 7) && decide ((ndE l (atE t i).node.toNat).m = (g : Int)) && decide ((atE t i).from_ = z.1) && decide ((atE t i).to = z.2)
def anyE (l : List NdN) (t : List EnN) (g : Nat) (z : Int × Int) : Nat → Bool
  | 0 => false
  | i + 1 => anyE l t g z i || hitE l t g z i
theorem anyE_of (l : List NdN) (t : List EnN) (g : Nat) (z : Int × Int) (i : Nat) (h : hitE l t g z i = true) : ∀ n, i < n → anyE l t g z n = true
  | 0, h0 => absurd h0 (Nat.not_lt_zero _)
  | n + 1, h0 => by
    rw [anyE, Bool.or_eq_true]
    by_cases hi : i = n
    · subst hi; exact .inr h
    · exact .inl (anyE_of l t g z i h n (by omega))
/-- What TreeWithin asks of a parse tree, plainly. -/
theorem within_tree (l : List NdN) (w : List Nat) (t : List EnN) (h : treeT l w t = true) :
    0 < l.length ∧ rightT l = true ∧ (spansT l t).length = topL l + 1 ∧ (∀ i, 0 < i → i < t.length → ∃ k, AboveE t i k) ∧ (∀ i, i < t.length → 1 ≤ (atE t i).depth ∧ (atE t i).depth ≤ 1 + i) ∧ (∀ i, i < t.length → ∃ q : Nat, (atE t i).node = q ∧ q < l.length) ∧
      (spansT l t)[0]? = some (0, (w.length : Int)) ∧ (∀ g z, 1 ≤ g → (spansT l t)[g]? = some z → z ≠ (-1, -1) → anyE l t g z t.length = true) := by
  obtain ⟨hrt, ks, hok, hteq⟩ := (tree_iff l w t).1 h
  have hpos : 0 < l.length := (rightT_q l hrt).pos
  obtain ⟨s1, s2, s3⟩ := spans_tree l w t h
  have hn := nest_tree (l := l) (w := w) (l.length - 1) w.length ks hok
  rw [← hteq] at hn
  have hst : stepOk 0 t := by
    have := step_forest (.cons (l.length - 1) 0 w.length ks .nil) 1 0 [] (by omega) (by omega) (fun _ _ => trivial)
    rw [List.append_nil, ← hteq] at this
    exact this
  have hin : ∀ i, i < t.length → ∃ q : Nat, (atE t i).node = q ∧ q < l.length := fun i hi => by
    have hx : atE t i ∈ flF 1 (.cons (l.length - 1) 0 w.length ks .nil) := by rw [← hteq, atE_lt t i hi]; exact List.getElem_mem hi
    obtain ⟨h1, h2, _⟩ := nodes_in (parts_ok l hrt) _ 1 l.length (Nat.le_refl _) hok (fun r hr => by simp [rootsO] at hr; rw [hr]; simp; omega) _ hx
    exact ⟨(atE t i).node.toNat, by omega, by omega⟩
  refine ⟨hpos, hrt, s1, fun i h0 hi => (hn i h0 hi).2, fun i hi => by have := step_depth t 0 hst i hi; omega, hin, s2, fun g z hg hz hne => ?_⟩
  have hgl : g < (spansT l t).length := (List.getElem?_eq_some_iff.1 hz).1
  rcases s3 g hg hgl with h1 | ⟨x, hx, h1, h2, h7, hm, hs⟩
  · rw [hz] at h1
    exact absurd (Option.some.inj h1) hne
  · rw [hz] at hs
    have hzz := Option.some.inj hs
    obtain ⟨i, hi, rfl⟩ := List.mem_iff_getElem.1 hx
    refine anyE_of l t g z i ?_ t.length hi
    unfold hitE
    rw [atE_lt t i hi, decide_eq_true h7, decide_eq_true hm, hzz]
    simp
set_option maxRecDepth 100000 in
set_option maxHeartbeats 64000000 in
theorem treeWithin_calls (l : List NdN) (hl : l.length ≤ 9223372036854775807) (w : List Nat) (hw : w.length ≤ 9223372036854775807) (hw8 : ∀ x ∈ w, x < 256) (t : List EnN) (ht : t.length ≤ 9223372036854775807)
    (ad wd td : Option Addr) (cl cw ct : Nat) (hct : t.length ≤ ct) (W : World) (hN : NodesAt l ad W) (hT : BtsAt w wd W) (hE : EntsAt t td W) :
    Calls Try.prog 6 #[.slice ad l.length cl, .slice wd w.length cw, .slice td t.length ct] W fun e W' => e = .returned (.bool true) ∧ Below W.heap.size W W' := by
  have HSU := Lib.hid (fun (W : World) => sure14_calls W)
  have HFEW := Lib.hid (few14_calls l.length w.length t.length ad wd td cl cw ct W hl hw ht)
  have HN := Lib.hid hN
  have HT := Lib.hid hT
  have HE := Lib.hid hE
  obtain ⟨FB, hFB⟩ : ∃ FB, FB = decide (l.length ≤ 60 ∧ w.length ≤ 60 ∧ t.length ≤ 600) := ⟨_, rfl⟩
  rw [← hFB] at HFEW
  have HFB := Lib.hid hFB
  clear hN hT hE hFB
  cases FB with
  | false =>
    go_enter Try.func6, Try.ntmps6
    go_wp2_with fail
    refine HFEW.out.mono ?_
    rintro e w2 ⟨rfl, rfl⟩
    go_wp2_with fail
    refine (HSU.out _).mono ?_
    rintro e w3 ⟨rfl, hb3⟩
    go_wp2_with fail
    go_ret
    exact ⟨rfl, hb3⟩
  | true =>
  obtain ⟨hl60, hw60, ht600⟩ := of_decide_eq_true HFB.out.symm
  have HD := Lib.hid (fun W' (hW : Below W.heap.size W W') => treeRight_calls l (by omega) w (by omega) hw8 t (by omega) ad wd td cl cw ct hct W' (HN.out.below hW) (HT.out.below hW) (HE.out.below hW))
  have HRR := Lib.hid (fun W' (hW : Below W.heap.size W W') => rTree_calls l (by omega) w (by omega) hw8 t (by omega) ad wd td cl cw ct W' (HN.out.below hW) (HT.out.below hW) (HE.out.below hW))
  cases htt : treeT l w t with
  | false =>
    rw [htt] at HD HRR
    go_enter Try.func6, Try.ntmps6
    go_wp2_with fail
    refine HFEW.out.mono ?_
    rintro e w2 ⟨rfl, rfl⟩
    go_wp2_with fail
    refine (HD.out _ (Below.refl _ _)).mono ?_
    rintro e w3 ⟨rfl, hb3⟩
    have HB3 := Lib.hid hb3
    clear hb3
    go_wp2_with fail
    refine (HSU.out _).mono ?_
    rintro e w4 ⟨rfl, hb4⟩
    go_wp2_with fail
    go_ret
    exact ⟨rfl, HB3.out.trans (hb4.mono HB3.out.size)⟩
  | true =>
  rw [htt] at HD HRR
  obtain ⟨hpos, hrt, hsl, hab, hdp, hnd, hs0, hsg⟩ := within_tree l w t htt
  have HSPN := Lib.hid (fun W' (hW : Below W.heap.size W W') => spansD_calls l (by omega) t (by omega) ad td cl ct W' (HN.out.below hW) (HE.out.below hW))
  have hT9 : topL l ≤ 9 := by rcases (topL_spec l).2 with h | h <;> omega
  obtain ⟨gl, ol, rfl, hgl, hcl⟩ := HN.out (by rintro rfl; simp at hpos)
  have HCL := Lib.hid (show ∀ W' i (hi : i < l.length) j, j < 8 → Below W.heap.size W W' → W'.cell? ⟨gl, ol + i * 8 + j, none⟩ = (ndA (ndE l i))[j]? from fun W' i hi j hj hb => by
    rw [show ndE l i = l[i] by simp [ndE, hi]]
    exact (hb.cell (p := ⟨gl, ol + i * 8 + j, none⟩) hgl).trans (hcl i hi j hj))
  have HAB := Lib.hid hab
  have HDP := Lib.hid hdp
  have HND := Lib.hid hnd
  have HSG := Lib.hid hsg
  generalize hSS : spansT l t = SS at *
  generalize topL l = T at *
  clear hcl hab hdp hnd hsg htt hrt hSS
  have hs0l : SS[0]'(by omega) = (0, (w.length : Int)) := by
    have := List.getElem?_eq_getElem (l := SS) (i := 0) (by omega)
    rw [hs0] at this
    exact (Option.some.inj this).symm
  go_enter Try.func6, Try.ntmps6
  go_wp2_with fail
  refine HFEW.out.mono ?_
  rintro e w2 ⟨rfl, rfl⟩
  go_wp2_with fail
  refine (HD.out _ (Below.refl _ _)).mono ?_
  rintro e w3 ⟨rfl, hb3⟩
  have HB3 := Lib.hid hb3
  clear hb3
  go_wp2_with fail
  refine (HRR.out _ HB3.out).mono ?_
  rintro e w4 ⟨rfl, hb4⟩
  have HB4 := Lib.hid (HB3.out.trans (hb4.mono HB3.out.size))
  clear hb4 HB3
  go_wp2_with fail
  refine (HSPN.out _ HB4.out).mono ?_
  rintro e w5 ⟨bs, cs, rfl, hsp, hb5⟩
  have HB5 := Lib.hid (HB4.out.trans (hb5.mono HB4.out.size))
  clear hb5 HB4 HD HRR HSPN HFEW
  obtain ⟨gs, os, rfl, hgs, hcs⟩ := hsp (by intro e; rw [e] at hsl; simp at hsl)
  rw [hsl]
  have HCS := Lib.hid (show ∀ W' g (hg : g < T + 1), Below w5.heap.size w5 W' → ∃ z : Int × Int, SS[g]? = some z ∧ W'.cell? ⟨gs, os + g * 2, none⟩ = some (.int .i64 z.1) ∧ W'.cell? ⟨gs, os + g * 2 + 1, none⟩ = some (.int .i64 z.2) from fun W' g hg hb => by
    have hg2 : g < SS.length := by omega
    exact ⟨SS[g], List.getElem?_eq_getElem hg2, (hb.cell (p := ⟨gs, os + g * 2, none⟩) hgs).trans (hcs g hg2).1, (hb.cell (p := ⟨gs, os + g * 2 + 1, none⟩) hgs).trans (hcs g hg2).2⟩)
  have z0 := (hcs 0 (by omega)).1
  have z1 := (hcs 0 (by omega)).2
  rw [hs0l] at z0 z1
  simp only [Nat.zero_mul, Nat.add_zero] at z0 z1
  have he := eqSp 0 (w.length : Int) 0 (w.length : Int)
  rw [decide_eq_true ⟨rfl, rfl⟩] at he
  have tI : (((T + 1 : Nat) : Int) == 0) = false := beq_eq_false_iff_ne.2 (by omega)
  have tI2 : ((T : Int) + 1 == 0) = false := beq_eq_false_iff_ne.2 (by omega)
  have tI3 : (0 : Int) < (T : Int) + 1 := by omega
  clear hcs hsp
  go_wp2_with fail
  clear he z0 z1
  go_loopw [8] (fun vi wr => ∃ i : Nat, 1 ≤ i ∧ (i ≤ t.length ∨ i = 1) ∧ vi = .int .i64 i ∧ Below w5.heap.size w5 wr) (fun vi _ => t.length - (intOf vi).toNat)
  case atStart => exact ⟨1, Nat.le_refl _, .inr rfl, rfl, Below.refl _ _⟩
  case round =>
    obtain ⟨i, hi1, hi2, rfl, hB⟩ := hrel
    have HB6 := Lib.hid hB
    have HBW := Lib.hid (HB5.out.trans (hB.mono HB5.out.size))
    by_cases hlt : i < t.length
    · have p1 : decide ((i : Int) < (t.length : Int)) = true := by rw [decide_eq_true_iff]; omega
      have p2 : decide (i < t.length) = true := decide_eq_true hlt
      have p4 : (i : Int) < (t.length : Int) := by omega
      have xi : IntKind.i64.wrap ((i : Int) + 1) = (i : Int) + 1 := IntWalk.i64_in _ (by omega)
      have xm : IntKind.i64.wrap ((i : Int) - 1) = ((i - 1 : Nat) : Int) := by rw [show ((i : Int) - 1) = ((i - 1 : Nat) : Int) by omega]; exact IntWalk.i64_in _ (by omega)
      obtain ⟨K, hKi, hKd, hKj, hKf, hKt⟩ := HAB.out i (by omega) hlt
      obtain ⟨g, off, rfl, hg, hc⟩ := HE.out (by rintro rfl; simp at hlt)
      have HCT := Lib.hid (show ∀ W' k (hk : k < t.length) j, j < 4 → Below W.heap.size W W' → W'.cell? ⟨g, off + k * 4 + j, none⟩ = (enA (atE t k))[j]? from fun W' k hk j hj hb => by
        rw [atE_lt t k hk]
        exact (hb.cell (p := ⟨g, off + k * 4 + j, none⟩) hg).trans (hc k hk j hj))
      have hdi := HDP.out i hlt
      have HKJ := Lib.hid hKj
      clear hc hKj hB
      go_wp2_with fail
      go_loopw [9] (fun vk wq => ∃ k : Nat, K ≤ k ∧ k < i ∧ vk = .int .i64 k ∧ Below w5.heap.size w5 wq) (fun vk _ => (intOf vk).toNat)
      case atStart => exact ⟨i - 1, by omega, by omega, rfl, HB6.out⟩
      case round =>
        obtain ⟨k, hk1, hk2, rfl, hB⟩ := hrel
        clear HB6 HBW
        have hBW := HB5.out.trans (hB.mono HB5.out.size)
        have hkt : k < t.length := by omega
        have kI : (k : Int) < (t.length : Int) := by omega
        have a0 := HCT.out _ k hkt 0 (by decide) hBW
        have b0 := HCT.out _ i hlt 0 (by decide) hBW
        simp only [enA, List.getElem?_toArray, List.getElem?_cons_zero, Nat.add_zero] at a0 b0
        by_cases hkK : k = K
        · subst hkK
          have r1 : decide ((atE t i).depth ≤ (atE t k).depth) = false := by rw [decide_eq_false_iff_not]; omega
          have a2 := HCT.out _ k hkt 2 (by decide) hBW
          have b2 := HCT.out _ i hlt 2 (by decide) hBW
          have a3 := HCT.out _ k hkt 3 (by decide) hBW
          have b3 := HCT.out _ i hlt 3 (by decide) hBW
          simp only [enA, List.getElem?_toArray, List.getElem?_cons_zero, List.getElem?_cons_succ] at a2 b2 a3 b3
          have xdi : IntKind.i64.wrap ((atE t i).depth - 1) = (atE t k).depth := by rw [show (atE t i).depth - 1 = (atE t k).depth by omega]; exact IntWalk.i64_in _ (by omega)
          have r3 : decide ((atE t i).from_ < (atE t k).from_) = false := by rw [decide_eq_false_iff_not]; omega
          have r4 : decide ((atE t k).to < (atE t i).to) = false := by rw [decide_eq_false_iff_not]; omega
          have HB7 := Lib.hid hB
          clear hB hBW hKd hKf hKt hdi HKJ
          generalize (atE t i).depth = di at *
          generalize (atE t k).depth = dk at *
          generalize (atE t i).from_ = fi at *
          generalize (atE t k).from_ = fk at *
          generalize (atE t i).to = ti at *
          generalize (atE t k).to = tk at *
          go_upto_region 10 with fail
          go_quiet (fail)
          go_upto_region 12 with fail
          go_quiet (fail)
          go_wp2_with fail
          go_roundw
          case rel =>
            first
              | exact ⟨i + 1, by omega, .inl (by omega), by simp, by first | exact below_drN (below_drN HB7.out _) _ | exact below_drN HB7.out _⟩
              | (iterate 11 apply Exists.intro
                 exact ⟨⟨i + 1, by omega, .inl (by omega), by simp, by first | exact below_drN (below_drN HB7.out _) _ | exact below_drN HB7.out _⟩, rfl⟩)
              | (iterate 12 apply Exists.intro
                 exact ⟨⟨i + 1, by omega, .inl (by omega), by simp, by first | exact below_drN (below_drN HB7.out _) _ | exact below_drN HB7.out _⟩, rfl⟩)
          case measure => simp [intOf]; omega
        · have r1 : decide ((atE t i).depth ≤ (atE t k).depth) = true := by rw [decide_eq_true_iff]; exact HKJ.out k (by omega) hk2
          have xk : IntKind.i64.wrap ((k : Int) - 1) = ((k - 1 : Nat) : Int) := by rw [show ((k : Int) - 1) = ((k - 1 : Nat) : Int) by omega]; exact IntWalk.i64_in _ (by omega)
          have HB7 := Lib.hid hB
          clear hB hBW
          go_upto_region 10 with fail
          go_quiet (fail)
          go_wp2_with fail
          go_roundw
          case rel => exact ⟨k - 1, by omega, by omega, rfl, below_drN HB7.out nq⟩
          case measure => simp [intOf]; omega
    · have p1 : decide ((i : Int) < (t.length : Int)) = false := by rw [decide_eq_false_iff_not]; omega
      have p2 : decide (i < t.length) = false := decide_eq_false hlt
      clear hB HBW
      go_wp2_with fail
      go_loopw [10] (fun vg wr => ∃ g : Nat, 1 ≤ g ∧ g ≤ T + 1 ∧ vg = .int .i64 g ∧ Below w5.heap.size w5 wr) (fun vg _ => T + 1 - (intOf vg).toNat)
      case atStart => exact ⟨1, Nat.le_refl _, by omega, rfl, HB6.out⟩
      case round =>
        obtain ⟨g, hg1, hg2, rfl, hB⟩ := hrel
        clear HB6
        by_cases hgT : g < T + 1
        · have p3 : decide ((g : Int) < ((T + 1 : Nat) : Int)) = true := by rw [decide_eq_true_iff]; omega
          have p4 : decide ((g : Int) < (T : Int) + 1) = true := by rw [decide_eq_true_iff]; omega
          have p5 : (g : Int) < (T : Int) + 1 := by omega
          have p6 : decide (g < T + 1) = true := decide_eq_true hgT
          have xg : IntKind.i64.wrap ((g : Int) + 1) = (g : Int) + 1 := IntWalk.i64_in _ (by omega)
          obtain ⟨⟨z1, z2⟩, hz, k1, k2⟩ := HCS.out _ g hgT hB
          simp only at k1 k2
          have HZ := Lib.hid (fun hne => HSG.out g (z1, z2) hg1 hz hne)
          have HZC := Lib.hid (show ∀ W', Below w5.heap.size w5 W' → W'.cell? ⟨gs, os + g * 2, none⟩ = some (.int .i64 z1) ∧ W'.cell? ⟨gs, os + g * 2 + 1, none⟩ = some (.int .i64 z2) from fun W' hb => by
            obtain ⟨z', hz', k1', k2'⟩ := HCS.out W' g hgT hb
            rw [hz] at hz'
            cases Option.some.inj hz'
            exact ⟨k1', k2'⟩)
          have HB7 := Lib.hid hB
          clear hB
          go_upto_region 17 with fail
          go_cut [127] from 114 to 127 (fun v wx => v = .bool (decide (z1 = -1 ∧ z2 = -1)) ∧ wr = wx)
          case first =>
            by_cases e1 : z1 = -1
            · by_cases e2 : z2 = -1
              · subst e1 e2
                go_wp2_with fail
                go_meet
                exact ⟨by simp, rfl⟩
              · subst e1
                have s2 : (z2 == -1) = false := beq_eq_false_iff_ne.2 e2
                have HD2 := Lib.hid (show decide ((-1 : Int) = -1 ∧ z2 = -1) = false from decide_eq_false (fun h => e2 h.2))
                clear e2
                go_wp2_with fail
                go_meet
                exact ⟨by rw [HD2.out], rfl⟩
            · have s1 : (z1 == -1) = false := beq_eq_false_iff_ne.2 e1
              have HD2 := Lib.hid (show decide (z1 = -1 ∧ z2 = -1) = false from decide_eq_false (fun h => e1 h.1))
              clear e1
              go_wp2_with fail
              go_meet
              exact ⟨by rw [HD2.out], rfl⟩
          case rest =>
          obtain ⟨rfl, rfl⟩ := hcut
          cases hzz : decide (z1 = -1 ∧ z2 = -1) with
          | true =>
            clear hzz k1 k2
            go_wp2_with fail
            go_roundw
            case rel => exact ⟨g + 1, by omega, by omega, by simp, HB7.out⟩
            case measure => simp [intOf]; omega
          | false =>
            have hall := HZ.out (fun h => of_decide_eq_false hzz (by simpa using h))
            have HALL := Lib.hid hall
            clear hzz k1 k2 hall HZ
            go_wp2_with fail
            go_loopw [11, 12] (fun v11 v12 wq => ∃ i : Nat, i ≤ t.length ∧ v12 = .int .i64 i ∧ v11 = .bool (anyE l t g (z1, z2) i) ∧ Below w5.heap.size w5 wq) (fun _ v12 _ => t.length - (intOf v12).toNat)
            case atStart => exact ⟨0, Nat.zero_le _, rfl, rfl, HB7.out⟩
            case round =>
              obtain ⟨i, hi, rfl, rfl, hB⟩ := hrel
              clear HB7
              by_cases hit : i < t.length
              · have y1 : decide ((i : Int) < (t.length : Int)) = true := by rw [decide_eq_true_iff]; omega
                have y2 : decide (i < t.length) = true := decide_eq_true hit
                have y4 : (i : Int) < (t.length : Int) := by omega
                have xi : IntKind.i64.wrap ((i : Int) + 1) = (i : Int) + 1 := IntWalk.i64_in _ (by omega)
                have hBW := HB5.out.trans (hB.mono HB5.out.size)
                obtain ⟨gt, ot, rfl, hgt, hc⟩ := HE.out (by rintro rfl; simp at hit)
                have hc' := hc i hit
                rw [← atE_lt t i hit] at hc'
                have HTC := Lib.hid (show ∀ W' j, j < 4 → Below W.heap.size W W' → W'.cell? ⟨gt, ot + i * 4 + j, none⟩ = (enA (atE t i))[j]? from fun W' j hj hb => (hb.cell (p := ⟨gt, ot + i * 4 + j, none⟩) hgt).trans (hc' j hj))
                obtain ⟨q, hq1, hq2⟩ := HND.out i hit
                have hstep : anyE l t g (z1, z2) (i + 1) = (anyE l t g (z1, z2) i || hitE l t g (z1, z2) i) := rfl
                unfold hitE at hstep
                rw [hq1, Int.toNat_natCast] at hstep
                have qI : (q : Int) < (l.length : Int) := by omega
                have qd : decide (q < l.length) = true := decide_eq_true hq2
                have cc := fun j hj => HCL.out _ q hq2 j hj hBW
                obtain ⟨A1, hA1⟩ : ∃ A1, anyE l t g (z1, z2) (i + 1) = A1 := ⟨_, rfl⟩
                rw [hA1] at hstep
                have HAE := Lib.hid hA1
                clear hA1
                generalize anyE l t g (z1, z2) i = A0 at *
                generalize ndE l q = nd at *
                obtain ⟨kk, ka, kb, km, ks⟩ := nd
                generalize hxx : atE t i = x at *
                obtain ⟨xd, xn, xf, xt⟩ := x
                simp only at hq1 hstep
                subst hq1
                have c0 := cc 0 (by decide); have c1 := cc 1 (by decide); have c2 := cc 2 (by decide); have c3 := cc 3 (by decide); have c4 := cc 4 (by decide); have c5 := cc 5 (by decide); have c6 := cc 6 (by decide); have c7 := cc 7 (by decide)
                simp only [ndA, List.getElem?_toArray, List.getElem?_cons_zero, List.getElem?_cons_succ, Nat.add_zero] at c0 c1 c2 c3 c4 c5 c6 c7
                have t1 := HTC.out _ 1 (by decide) hBW
                simp only [enA, List.getElem?_toArray, List.getElem?_cons_zero, List.getElem?_cons_succ] at t1
                have bN := Blk.new wr (ndI kk ka kb km ks) 49
                have hba : Below wr.heap.size wr (wr.alloc (.cells (ndI kk ka kb km ks) 49)) := (Below.refl _ _).alloc (Nat.le_refl _) _
                have hB2 := hB.trans (hba.mono hB.size)
                have hBW2 := hBW.trans (hba.mono hBW.size)
                clear cc hc hc' hB hBW hba hxx
                go_upto_region 23 with fail
                clear c0 c1 c2 c3 c4 c5 c6 c7 t1
                generalize wr.alloc (.cells (ndI kk ka kb km ks) 49) = w8 at *
                generalize wr.heap.size = N0 at *
                have n0 := bN.cell 0; have n3 := bN.cell 3
                have t2 := HTC.out _ 2 (by decide) hBW2
                have t3 := HTC.out _ 3 (by decide) hBW2
                simp only [enA, List.getElem?_toArray, List.getElem?_cons_zero, List.getElem?_cons_succ] at n0 n3 t2 t3
                obtain ⟨k1, k2⟩ := HZC.out _ hB2
                have HB8 := Lib.hid hB2
                have HST := Lib.hid hstep
                clear bN hB2 hBW2 hstep
                cases A0 with
                | true =>
                  have HA1 := Lib.hid (show A1 = true by rw [HST.out]; rfl)
                  clear HST
                  go_quiet (fail)
                  go_wp2_with fail
                  go_roundw
                  case rel =>
                    first
                      | exact ⟨i + 1, by omega, by simp, by rw [HAE.out, HA1.out] <;> first | rfl | simp, below_drN HB8.out nq⟩
                      | (apply Exists.intro
                         exact ⟨⟨i + 1, by omega, by simp, by rw [HAE.out, HA1.out] <;> first | rfl | simp, below_drN HB8.out nq⟩, rfl⟩)
                  case measure => simp [intOf]; omega
                | false =>
                  by_cases e7 : kk = 7
                  · subst e7
                    by_cases eg : km = (g : Int)
                    · subst eg
                      by_cases ef : xf = z1
                      · subst ef
                        have u1 : (xt == z2) = decide (xt = z2) := by rw [Bool.eq_iff_iff]; simp
                        have HA1 := Lib.hid (show A1 = decide (xt = z2) by rw [HST.out]; simp)
                        clear HST
                        generalize decide (xt = z2) = bz at *
                        go_quiet (fail)
                        go_wp2_with fail
                        go_roundw
                        case rel =>
                          first
                            | exact ⟨i + 1, by omega, by simp, by rw [HAE.out, HA1.out] <;> first | rfl | simp, below_drN HB8.out nq⟩
                            | (apply Exists.intro
                               exact ⟨⟨i + 1, by omega, by simp, by rw [HAE.out, HA1.out] <;> first | rfl | simp, below_drN HB8.out nq⟩, rfl⟩)
                        case measure => simp [intOf]; omega
                      · have u1 : (xf == z1) = false := beq_eq_false_iff_ne.2 ef
                        have HA1 := Lib.hid (show A1 = false by rw [HST.out, decide_eq_false ef]; simp)
                        clear HST ef
                        go_quiet (fail)
                        go_wp2_with fail
                        go_roundw
                        case rel =>
                          first
                            | exact ⟨i + 1, by omega, by simp, by rw [HAE.out, HA1.out] <;> first | rfl | simp, below_drN HB8.out nq⟩
                            | (apply Exists.intro
                               exact ⟨⟨i + 1, by omega, by simp, by rw [HAE.out, HA1.out] <;> first | rfl | simp, below_drN HB8.out nq⟩, rfl⟩)
                        case measure => simp [intOf]; omega
                    · have u1 : (km == (g : Int)) = false := beq_eq_false_iff_ne.2 eg
                      have HA1 := Lib.hid (show A1 = false by rw [HST.out, decide_eq_false eg]; simp)
                      clear HST eg
                      go_quiet (fail)
                      go_wp2_with fail
                      go_roundw
                      case rel =>
                        first
                          | exact ⟨i + 1, by omega, by simp, by rw [HAE.out, HA1.out] <;> first | rfl | simp, below_drN HB8.out nq⟩
                          | (apply Exists.intro
                             exact ⟨⟨i + 1, by omega, by simp, by rw [HAE.out, HA1.out] <;> first | rfl | simp, below_drN HB8.out nq⟩, rfl⟩)
                      case measure => simp [intOf]; omega
                  · have u1 : (kk == 7) = false := beq_eq_false_iff_ne.2 e7
                    have HA1 := Lib.hid (show A1 = false by rw [HST.out, decide_eq_false e7]; simp)
                    clear HST e7
                    go_quiet (fail)
                    go_wp2_with fail
                    go_roundw
                    case rel =>
                      first
                        | exact ⟨i + 1, by omega, by simp, by rw [HAE.out, HA1.out] <;> first | rfl | simp, below_drN HB8.out nq⟩
                        | (apply Exists.intro
                           exact ⟨⟨i + 1, by omega, by simp, by rw [HAE.out, HA1.out] <;> first | rfl | simp, below_drN HB8.out nq⟩, rfl⟩)
                    case measure => simp [intOf]; omega
              · obtain rfl : i = t.length := by omega
                have y1 : decide ((t.length : Int) < (t.length : Int)) = false := by rw [decide_eq_false_iff_not]; omega
                have HB9 := Lib.hid hB
                have hall := HALL.out
                clear hB
                rw [hall]
                go_wp2_with fail
                go_roundw
                case rel =>
                  first
                    | exact ⟨g + 1, by omega, by omega, by simp, HB9.out⟩
                    | (iterate 100 (first | apply Exists.intro | skip)
                       exact ⟨⟨g + 1, by omega, by omega, by simp, HB9.out⟩, rfl⟩)
                case measure => simp [intOf]; omega
        · obtain rfl : g = T + 1 := by omega
          have p3 : decide ((T : Int) + 1 < ((T + 1 : Nat) : Int)) = false := by rw [decide_eq_false_iff_not]; omega
          have p4 : decide ((T : Int) + 1 < (T : Int) + 1) = false := by rw [decide_eq_false_iff_not]; omega
          have HB9 := Lib.hid (HB5.out.trans (hB.mono HB5.out.size))
          clear hB
          go_wp2_with fail
          refine (HSU.out _).mono ?_
          rintro e wz ⟨rfl, hbz⟩
          go_wp2_with fail
          go_ret
          exact ⟨rfl, HB9.out.trans (hbz.mono HB9.out.size)⟩
end Go.Proofs.Ytooolhekihijlaa

/- Texts put together: Ai As At Av Iz. -/
import Derived.Test.YtpncomjpmilbkaaDoorPI
import Derived.Test.YtpncomjpmilbkaaDoorPH
import Derived.Test.YtpncomjpmilbkaaDoorPE
import Derived.Outline
import Derived.Deep.DeepCutAuto
import Derived.Test.YtpncomjpmilbkaaDoorPC
import Derived.Test.YtpncomjpmilbkaaDoorPF
/- The document's trees: node, Right. -/
namespace Go.Proofs.YtpncomjpmilbkaaDoor
open Go.RowKit BS

set_option maxRecDepth 100000 in
set_option maxHeartbeats 8000000 in
theorem node_calls (k c n m : Int) (t : BitVec 256) (w : World) : Calls Tryd.prog 31 #[.agg (ndI k c n m t)] w fun e w' => e = .returned (.bool (nodeF ⟨k, c, n, m, t⟩)) ∧ Below w.heap.size w w' := by
  have b0 := Blk.new w (ndI k c n m t) 46
  have hB : Below w.heap.size w (w.alloc (.cells (ndI k c n m t) 46)) := by go_grown
  have hee0 : ∀ w', (Op.equalIn 10000 42 (setV t) (.agg #[.int .u64 0, .int .u64 0, .int .u64 0, .int .u64 0])).run Tryd.prog w' = .ok (decide (t = 0)) w' := eq_set t 0
  have HEE := Lib.hid hee0
  clear hee0
  have HRT := Lib.hid (rightN_calls n m)
  have HF := Lib.hid (show nodeF ⟨k, c, n, m, t⟩ = if k ≠ 2 ∧ t ≠ 0 then false else if k ≠ 4 ∧ (n ≠ 0 ∨ m ≠ 0) then false else if k = 1 ∨ k = 2 then c == 0 else if k = 3 then c == 1 else if k = 4 then c == 1 && rightN n m else if k = 5 ∨ k = 6 then decide (2 ≤ c) else false from rfl)
  generalize nodeF ⟨k, c, n, m, t⟩ = R at *
  generalize rightN n m = rn at *
  go_enter Tryd.func31, Tryd.ntmps31
  go_upto_region 1 with fail
  have e0 : w.alloc (.cells #[.int .i64 k, .int .i64 c, .int .i64 n, .int .i64 m, .int .u64 (wd t 0), .int .u64 (wd t 1), .int .u64 (wd t 2), .int .u64 (wd t 3)] 46) = w.alloc (.cells (ndI k c n m t) 46) := rfl
  try rw [e0]
  clear e0
  generalize w.alloc (.cells (ndI k c n m t) 46) = w1 at *
  have c0 := b0.cell 0; have c1 := b0.cell 1; have c2 := b0.cell 2; have c3 := b0.cell 3; have c4 := b0.cell 4; have c5 := b0.cell 5; have c6 := b0.cell 6; have c7 := b0.cell 7
  simp only [List.getElem?_toArray, List.getElem?_cons_zero, List.getElem?_cons_succ] at c0 c1 c2 c3 c4 c5 c6 c7
  clear b0
  by_cases hA : k ≠ 2 ∧ t ≠ 0
  · have q2 : (k != 2) = true := by rw [bne_iff_ne]; exact hA.1
    have qt : ∀ w', (Op.equalIn 10000 42 (setV t) (.agg #[.int .u64 0, .int .u64 0, .int .u64 0, .int .u64 0])).run Tryd.prog w' = .ok false w' := fun w' => by rw [HEE.out w', decide_eq_false hA.2]
    have HR := Lib.hid (show R = false by rw [HF.out]; rw [if_pos hA])
    clear HF HRT
    go_wp2_with fail
    go_ret
    exact ⟨by rw [HR.out] <;> rfl, hB⟩
  by_cases hB2 : k ≠ 4 ∧ (n ≠ 0 ∨ m ≠ 0)
  · have q4 : (k != 4) = true := by rw [bne_iff_ne]; exact hB2.1
    have HR := Lib.hid (show R = false by rw [HF.out, if_neg hA, if_pos hB2])
    clear HF HRT
    by_cases hk2 : k = 2
    · have q2 : (k != 2) = false := by rw [hk2]; rfl
      by_cases hn : n = 0
      · have qn : (n != 0) = false := by rw [hn]; rfl
        have qm : (m != 0) = true := by rw [bne_iff_ne]; exact hB2.2.resolve_left (fun h => h hn)
        clear hA hB2 hk2 hn
        go_wp2_with fail
        go_ret
        exact ⟨by rw [HR.out] <;> rfl, hB⟩
      · have qn : (n != 0) = true := by rw [bne_iff_ne]; exact hn
        clear hA hB2 hk2 hn
        go_wp2_with fail
        go_ret
        exact ⟨by rw [HR.out] <;> rfl, hB⟩
    · have q2 : (k != 2) = true := by rw [bne_iff_ne]; exact hk2
      have qt : ∀ w', (Op.equalIn 10000 42 (setV t) (.agg #[.int .u64 0, .int .u64 0, .int .u64 0, .int .u64 0])).run Tryd.prog w' = .ok true w' := fun w' => by rw [HEE.out w', decide_eq_true (Decidable.not_not.1 fun h => hA ⟨hk2, h⟩)]
      by_cases hn : n = 0
      · have qn : (n != 0) = false := by rw [hn]; rfl
        have qm : (m != 0) = true := by rw [bne_iff_ne]; exact hB2.2.resolve_left (fun h => h hn)
        clear hA hB2 hk2 hn
        go_wp2_with fail
        go_ret
        exact ⟨by rw [HR.out] <;> rfl, hB⟩
      · have qn : (n != 0) = true := by rw [bne_iff_ne]; exact hn
        clear hA hB2 hk2 hn
        go_wp2_with fail
        go_ret
        exact ⟨by rw [HR.out] <;> rfl, hB⟩
  have ht : k ≠ 2 → t = 0 := fun h => Decidable.not_not.1 fun h2 => hA ⟨h, h2⟩
  have hn : k ≠ 4 → n = 0 := fun h => Decidable.not_not.1 fun h2 => hB2 ⟨h, .inl h2⟩
  have hm : k ≠ 4 → m = 0 := fun h => Decidable.not_not.1 fun h2 => hB2 ⟨h, .inr h2⟩
  replace HF : Hid (R = if k = 1 ∨ k = 2 then c == 0 else if k = 3 then c == 1 else if k = 4 then c == 1 && rn else if k = 5 ∨ k = 6 then decide (2 ≤ c) else false) := Lib.hid (by rw [HF.out, if_neg hA, if_neg hB2])
  clear hA hB2
  by_cases hk2 : k = 2
  · subst hk2
    have qn : (n != 0) = false := by rw [hn (by decide)]; rfl
    have qm : (m != 0) = false := by rw [hm (by decide)]; rfl
    have HR := Lib.hid (show R = (c == 0) by rw [HF.out]; rfl)
    clear HF HRT ht hn hm
    go_wp2_with fail
    go_ret
    exact ⟨by rw [HR.out] <;> rfl, hB⟩
  have q2 : (k != 2) = true := by rw [bne_iff_ne]; exact hk2
  have q2' : (k == 2) = false := by rw [beq_eq_false_iff_ne]; exact hk2
  have qt : ∀ w', (Op.equalIn 10000 42 (setV t) (.agg #[.int .u64 0, .int .u64 0, .int .u64 0, .int .u64 0])).run Tryd.prog w' = .ok true w' := fun w' => by rw [HEE.out w', decide_eq_true (ht hk2)]
  clear ht
  by_cases hk4 : k = 4
  · subst hk4
    clear hn hm
    cases hc : (c == 1) with
    | true =>
      have HR := Lib.hid (show R = rn by rw [HF.out, hc]; simp)
      clear HF
      go_wp2_with fail
      refine (HRT.out _).mono ?_
      rintro e w2 ⟨rfl, rfl⟩
      clear HRT
      go_wp2_with fail
      go_ret
      exact ⟨by rw [HR.out] <;> rfl, hB⟩
    | false =>
      have HR := Lib.hid (show R = false by rw [HF.out, hc]; simp)
      clear HF HRT
      go_wp2_with fail
      go_ret
      exact ⟨by rw [HR.out] <;> rfl, hB⟩
  have q4 : (k != 4) = true := by rw [bne_iff_ne]; exact hk4
  have q4' : (k == 4) = false := by rw [beq_eq_false_iff_ne]; exact hk4
  have qn : (n != 0) = false := by rw [hn hk4]; rfl
  have qm : (m != 0) = false := by rw [hm hk4]; rfl
  clear hn hm HRT
  by_cases hk1 : k = 1
  · subst hk1
    have HR := Lib.hid (show R = (c == 0) by rw [HF.out]; rfl)
    clear HF
    go_wp2_with fail
    go_ret
    exact ⟨by rw [HR.out] <;> rfl, hB⟩
  have q1' : (k == 1) = false := by rw [beq_eq_false_iff_ne]; exact hk1
  by_cases hk3 : k = 3
  · subst hk3
    have HR := Lib.hid (show R = (c == 1) by rw [HF.out]; rfl)
    clear HF
    go_wp2_with fail
    go_ret
    exact ⟨by rw [HR.out] <;> rfl, hB⟩
  have q3' : (k == 3) = false := by rw [beq_eq_false_iff_ne]; exact hk3
  by_cases hk5 : k = 5
  · subst hk5
    have HR := Lib.hid (show R = decide (2 ≤ c) by rw [HF.out]; rfl)
    clear HF
    go_wp2_with fail
    go_ret
    exact ⟨by rw [HR.out] <;> rfl, hB⟩
  have q5' : (k == 5) = false := by rw [beq_eq_false_iff_ne]; exact hk5
  by_cases hk6 : k = 6
  · subst hk6
    have HR := Lib.hid (show R = decide (2 ≤ c) by rw [HF.out]; rfl)
    clear HF
    go_wp2_with fail
    go_ret
    exact ⟨by rw [HR.out] <;> rfl, hB⟩
  have q6' : (k == 6) = false := by rw [beq_eq_false_iff_ne]; exact hk6
  have HR := Lib.hid (show R = false by rw [HF.out, if_neg (by omega), if_neg hk3, if_neg hk4, if_neg (by omega)])
  clear HF
  go_wp2_with fail
  go_ret
  exact ⟨by rw [HR.out] <;> rfl, hB⟩

theorem kidsR_bound (l : List NdN) (i : Nat) (x : Int) (hx : x ∈ kidsR l i) : 0 ≤ x ∧ x < l.length := by
  unfold kidsR at hx
  by_cases hf : manyF 0 (l.map NdN.kids) = some 1 ∧ 0 ≤ (i : Int) ∧ (i : Int) < (l.length : Int)
  · rw [if_pos hf] at hx
    obtain ⟨y, hy, rfl⟩ := List.mem_map.1 hx
    rw [List.mem_reverse, show (i : Int).toNat = i from rfl] at hy
    have hkl : (ksN l).length = l.length := by simp [ksN]
    have hlt := allKids_lt (ksN l) [] 0 (fun h => absurd rfl h)
    have hal := allKids_len (ksN l) [] 0
    have hi : i < (allKids 0 [] (ksN l)).length := by rw [hal, hkl]; omega
    rw [List.getElem?_eq_getElem hi, Option.getD_some] at hy
    have := hlt _ (List.getElem_mem hi) y hy
    omega
  · rw [if_neg hf] at hx; cases hx
theorem kidsR_len (l : List NdN) (i : Nat) : (kidsR l i).length ≤ l.length := by
  unfold kidsR
  by_cases hf : manyF 0 (l.map NdN.kids) = some 1 ∧ 0 ≤ (i : Int) ∧ (i : Int) < (l.length : Int)
  · rw [if_pos hf, show (i : Int).toNat = i from rfl]
    obtain ⟨hk0, hst⟩ := (formed_iff (l.map NdN.kids)).1 hf.1
    have hst : stackF [] (ksN l) = some [(l.map NdN.kids).length] := hst
    have hkl : (ksN l).length = l.length := by simp [ksN]
    have hi : i < (ksN l).length := by omega
    obtain ⟨s, hs, hks, hsum⟩ := stack_at (ksN l) [] _ hst i hi
    have hpl := len_le_sum s (stackF_pos ((ksN l).take i) [] s (by simp) hs)
    have hsumi : s.sum = i := by simpa using hsum
    rw [allKids_at (ksN l) i hi s hs, Option.getD_some, List.length_map, List.length_reverse, List.length_take, posF_len]
    omega
  · rw [if_neg hf]; exact Nat.zero_le _
def SRi (w0 : World) (g off i x : Nat) (a b : Int) (g2 k : Nat) (W : World) : Prop :=
  (W.cell? ⟨g, off + i * 8, none⟩ = some (.int .i64 a) ∧ W.cell? ⟨g, off + x * 8, none⟩ = some (.int .i64 b) ∧ W.cell? ⟨g2, k, none⟩ = some (.int .i64 x)) ∧ W = w0
/-- Up to node i, and to kid k of it, all is right. -/
theorem okN_split (l : List NdN) (i : Nat) (h : i < l.length) : okN l i = (nodeF l[i] && kidsOkB l i) := by
  unfold okN
  rw [List.getD_eq_getElem?_getD, List.getElem?_eq_getElem h, Option.getD_some]
theorem rightR_no (l : List NdN) (i : Nat) (h : i < l.length) (h2 : okN l i = false) : rightR l = false := by
  unfold rightR
  have : (List.range l.length).all (okN l) = false := by
    rw [List.all_eq_false]
    exact ⟨i, List.mem_range.2 h, by rw [h2]; decide⟩
  rw [this]; simp
set_option maxRecDepth 100000 in
set_option maxHeartbeats 16000000 in
theorem rRight_calls (l : List NdN) (hl : l.length ≤ 1000000) (a : Option Addr) (cap : Nat) (w : World) (h : NodesAt l a w) :
    Calls Tryd.prog 15 #[.slice a l.length cap] w fun e w' => e = .returned (.bool (rightR l)) ∧ Below w.heap.size w w' := by
  have HFO := Lib.hid (rFormed_calls l hl a cap w h)
  have HN := Lib.hid h
  by_cases hf : manyF 0 (l.map NdN.kids) = some 1
  · rw [decide_eq_true hf] at HFO
    have HKC := Lib.hid (fun i W (hW : NodesAt l a W) => rKids_calls l hl i a cap W hW)
    have HND := Lib.hid node_calls
    have HKI := Lib.hid kid_calls
    have HKB := Lib.hid (kidsR_bound l)
    have HOK := Lib.hid (okN_split l)
    have HNO := Lib.hid (rightR_no l)
    have HKD := Lib.hid (kdN_get l)
    have HGS := Lib.hid (grpN_step l)
    have HGL := Lib.hid (grpN_le l)
    have HR := Lib.hid (show rightR l = ((List.range l.length).all (okN l) && decide (grpN l l.length ≤ 9)) by unfold rightR; rw [decide_eq_true hf]; rfl)
    have HKO := Lib.hid (show ∀ i, kidsOkB l i = (kidsR l i).all fun x => kidF (kdN l i) (kdN l x.toNat) from fun _ => rfl)
    clear h hf
    go_enter Tryd.func15, Tryd.ntmps15
    go_wp2_with fail
    refine HFO.out.mono ?_
    rintro e w1 ⟨rfl, rfl⟩
    go_wp2_with fail
    go_loopw [3, 4] (fun v x wr => ∃ i : Nat, i ≤ l.length ∧ x = .int .i64 i ∧ v = .int .i64 (grpN l i : Nat) ∧ (∀ j, j < i → okN l j = true) ∧ Below w.heap.size w wr) (fun _ x _ => l.length - (intOf x).toNat)
    case atStart => exact ⟨0, Nat.zero_le _, rfl, rfl, fun j hj => by omega, Below.refl _ _⟩
    case round =>
      obtain ⟨i, hi, rfl, rfl, hok, hB⟩ := hrel
      have HB := Lib.hid hB
      have HOKS := Lib.hid hok
      clear hB hok
      by_cases hlt : i < l.length
      · have hd : decide ((i : Int) < (l.length : Int)) = true := by rw [decide_eq_true_iff]; omega
        have hd2 : decide (i < l.length) = true := by rw [decide_eq_true_iff]; omega
        have hne : l ≠ [] := by rintro rfl; simp at hlt
        obtain ⟨g, off, rfl, hg, hc⟩ := HN.out hne
        have HC := Lib.hid hc
        have hcell := fun (W : World) (hW : Below w.heap.size w W) (j : Nat) (hj : j < 8) => (hW.cell (p := ⟨g, off + i * 8 + j, none⟩) hg).trans (hc i hlt j hj)
        have HCE := Lib.hid hcell
        have hki := HKD.out i hlt
        have hoki := HOK.out i hlt
        have hgl := HGL.out i
        have HND1 := HND.out l[i].kind l[i].kids l[i].n l[i].m l[i].set
        have hnf : nodeF ⟨l[i].kind, l[i].kids, l[i].n, l[i].m, l[i].set⟩ = nodeF l[i] := rfl
        rw [hnf] at HND1
        have HNDD := Lib.hid HND1
        have d0 := HCE.out wr HB.out 0 (by decide); have d1 := HCE.out wr HB.out 1 (by decide); have d2 := HCE.out wr HB.out 2 (by decide); have d3 := HCE.out wr HB.out 3 (by decide); have d4 := HCE.out wr HB.out 4 (by decide); have d5 := HCE.out wr HB.out 5 (by decide); have d6 := HCE.out wr HB.out 6 (by decide); have d7 := HCE.out wr HB.out 7 (by decide)
        simp only [ndA, List.getElem?_toArray, List.getElem?_cons_zero, List.getElem?_cons_succ, Nat.add_zero] at d0 d1 d2 d3 d4 d5 d6 d7
        generalize l[i].kind = k at *
        generalize l[i].kids = kc at *
        generalize l[i].n = kn at *
        generalize l[i].m = km at *
        generalize l[i].set = kt at *
        generalize nodeF l[i] = nf at *
        have HKI2 := Lib.hid hki
        have HOKI := Lib.hid hoki
        have xg : IntKind.i64.wrap ((grpN l i : Nat) + 1 : Int) = ((grpN l i : Nat) : Int) + 1 := IntWalk.i64_in _ (by omega)
        clear hc hcell hki hoki HND1 hnf hne
        go_wp2_with fail
        refine (HNDD.out _).mono ?_
        rintro e w2 ⟨rfl, hb⟩
        replace HB := Lib.hid (HB.out.trans (hb.mono HB.out.size))
        clear hb HNDD d0 d1 d2 d3 d4 d5 d6 d7
        cases nf with
        | false =>
          have HRR := Lib.hid (HNO.out i hlt (by rw [HOKI.out]; rfl))
          go_wp2_with fail
          go_ret
          exact ⟨by rw [HRR.out] <;> rfl, HB.out⟩
        | true =>
          have d0 := HCE.out w2 HB.out 0 (by decide)
          have HKK : Hid (kdN l i = l[i].kind) := Lib.hid (HKD.out i hlt)
          have e0 : (ndA l[i])[0]? = some (.int .i64 (kdN l i)) := by rw [HKK.out]; rfl
          rw [e0, Nat.add_zero] at d0
          clear e0
          have hgs := HGS.out i
          generalize hG : grpN l i = G at *
          generalize hKI : kdN l i = K at *
          go_upto_if 27 with fail
          go_cut [3] (fun v wx => v = .int .i64 (grpN l (i + 1) : Nat) ∧ w2 = wx)
          case first =>
            by_cases h3 : K = 3
            · have q : (K == 3) = true := by rw [h3]; rfl
              rw [q, if_pos rfl] at hgs
              have HGG := Lib.hid hgs
              clear hgs h3 hG hgl
              go_wp2_with fail
              go_meet
              exact ⟨by rw [HGG.out] <;> rfl, rfl⟩
            · have q : (K == 3) = false := by rw [beq_eq_false_iff_ne]; exact h3
              rw [q] at hgs
              have HGG := Lib.hid hgs
              clear hgs h3 hG hgl
              go_wp2_with fail
              go_meet
              exact ⟨by rw [HGG.out] <;> rfl, rfl⟩
          case rest =>
          obtain ⟨rfl, rfl⟩ := hcut
          clear hgs hG xg hgl
          generalize hG2 : grpN l (i + 1) = G2 at *
          have HG2 := Lib.hid hG2
          clear hG2 d0
          have HNW := Lib.hid (fun (W : World) (hW : Below w.heap.size w W) => HN.out.below hW)
          go_wp2_with fail
          refine (HKC.out i _ (HNW.out _ HB.out)).mono ?_
          rintro e w3 ⟨b, cc, rfl, hia, hb⟩
          replace HB := Lib.hid (HB.out.trans (hb.mono HB.out.size))
          have HIA := Lib.hid hia
          clear hb hia
          have HKB1 := Lib.hid (HKB.out i)
          have hkrl := kidsR_len l i
          have HKIE := Lib.hid hKI
          have HKO1 := Lib.hid (HKO.out i)
          generalize hKR : kidsR l i = kr at *
          clear hKR
          go_wp2_with fail
          go_loopw [6] (fun x wr => ∃ k : Nat, k ≤ kr.length ∧ x = .int .i64 k ∧ (∀ j (h : j < kr.length), j < k → kidF K (kdN l (kr[j]).toNat) = true) ∧ Below w3.heap.size w3 wr) (fun x _ => kr.length - (intOf x).toNat)
          case atStart => exact ⟨0, Nat.zero_le _, rfl, fun j _ hj => by omega, Below.refl _ _⟩
          case round =>
            obtain ⟨k, hk, rfl, hkk, hB3⟩ := hrel
            have HB3 := Lib.hid hB3
            have HKS := Lib.hid hkk
            clear hB3 hkk
            by_cases hkl : k < kr.length
            · have hdk : decide ((k : Int) < (kr.length : Int)) = true := by rw [decide_eq_true_iff]; omega
              have hdk2 : decide (k < kr.length) = true := by rw [decide_eq_true_iff]; omega
              have hnek : kr ≠ [] := by rintro rfl; simp at hkl
              have xk1 : IntKind.i64.wrap ((k : Int) + 1) = (k : Int) + 1 := IntWalk.i64_in _ (by omega)
              obtain ⟨g2, rfl, hg2, hc2⟩ := HIA.out hnek
              have hbx := HKB1.out kr[k] (List.getElem_mem hkl)
              have cx := (HB3.out.cell (p := ⟨g2, k, none⟩) hg2).trans (hc2 k hkl)
              obtain ⟨x, hx⟩ := Int.eq_ofNat_of_zero_le hbx.1
              have hkx := HKD.out x (by omega)
              have hxl : x < l.length := by omega
              have hdx : decide (x < l.length) = true := by rw [decide_eq_true_iff]; omega
              have hBW := HB.out.trans (HB3.out.mono HB.out.size)
              have ci := HCE.out _ hBW 0 (by decide)
              have cxk := (hBW.cell (p := ⟨g, off + x * 8, none⟩) hg).trans (HC.out x hxl 0 (by decide))
              have e0 : (ndA l[i])[0]? = some (.int .i64 K) := by rw [HKK.out]; rfl
              have e1 : (ndA l[x])[0]? = some (.int .i64 (kdN l x)) := by rw [hkx]; rfl
              rw [e0, Nat.add_zero] at ci
              rw [e1] at cxk
              rw [hx] at cx
              have HXX := Lib.hid (show kr[k] = (x : Int) from hx)
              generalize hKX : kdN l x = X at *
              have HKX := Lib.hid hKX
              have HKID := HKI.out K X
              generalize hr : kidF K X = r at *
              have HRR := Lib.hid hr
              have h0 : SRi wr.drew g off i x K X g2 k wr.drew := ⟨⟨ci, cxk, cx⟩, rfl⟩
              replace HB3 : Hid (Below w3.heap.size w3 wr.drew) := Lib.hid HB3.out.drew
              clear hnek hc2 hbx cx hx hkx hBW ci cxk e0 e1 hKX hr
              go_upto_region 15 with fail
              refine region_steps (S := SRi wr.drew g off i x K X g2 k) (by kernel_rfl) h0 ?_
              clear h0
              simp only [List.size_toArray, List.length_cons, List.length_nil, Nat.reduceAdd, Array.replicate_succ, Array.replicate_zero, List.push_toArray, List.nil_append, List.cons_append]
              refine AnyS.stepE (i := 0) (d := some 39) rfl rfl (by kernel_rfl) (by kernel_rfl) (by kernel_rfl) ?_
              apply Exists.intro
              apply And.intro
              · apply StepsIf.yield
                · kernel_rfl
                intro w' hS
                clear hS; go_simp
                rfl
              intro a' ha'
              simp only [Act.put, List.setIfInBounds_toArray, List.set_cons_zero, List.set_cons_succ] at ha'
              subst ha'
              refine AnyS.stepE (i := 1) (d := some 40) rfl rfl (by kernel_rfl) (by kernel_rfl) (by kernel_rfl) ?_
              apply Exists.intro
              apply And.intro
              · apply StepsIf.yield
                · kernel_rfl
                intro w' hS
                clear hS; go_simp
                rfl
              intro a' ha'
              simp only [Act.put, List.setIfInBounds_toArray, List.set_cons_zero, List.set_cons_succ] at ha'
              subst ha'
              refine AnyS.next (i := 2) (d := some 41) (v := .pointer (some ⟨g, off + i * 8, none⟩)) rfl rfl (by kernel_rfl) (by kernel_rfl) (by kernel_rfl) (StepsIf.yield (by kernel_rfl) (fun w' hS => by clear hS; go_simp)) ?_
              intro a' ha'
              simp only [Act.put, List.setIfInBounds_toArray, List.set_cons_zero, List.set_cons_succ] at ha'
              subst ha'
              refine AnyS.next (i := 3) (d := some 42) (v := .pointer (some ⟨g, off + i * 8, none⟩)) rfl rfl (by kernel_rfl) (by kernel_rfl) (by kernel_rfl) (StepsIf.yield (by kernel_rfl) (fun w' hS => by clear hS; go_simp)) ?_
              intro a' ha'
              simp only [Act.put, List.setIfInBounds_toArray, List.set_cons_zero, List.set_cons_succ] at ha'
              subst ha'
              refine AnyS.next (i := 4) (d := some 43) (v := .int .i64 K) rfl rfl (by kernel_rfl) (by kernel_rfl) (by kernel_rfl) (StepsIf.yield (by kernel_rfl) (fun w' hS => by have s := hS.1.1; clear hS; go_simp)) ?_
              intro a' ha'
              simp only [Act.put, List.setIfInBounds_toArray, List.set_cons_zero, List.set_cons_succ] at ha'
              subst ha'
              refine AnyS.stepE (i := 5) (d := some 44) rfl rfl (by kernel_rfl) (by kernel_rfl) (by kernel_rfl) ?_
              apply Exists.intro
              apply And.intro
              · apply StepsIf.yield
                · kernel_rfl
                intro w' hS
                clear hS; go_simp
                rfl
              intro a' ha'
              simp only [Act.put, List.setIfInBounds_toArray, List.set_cons_zero, List.set_cons_succ] at ha'
              subst ha'
              refine AnyS.stepE (i := 6) (d := some 45) rfl rfl (by kernel_rfl) (by kernel_rfl) (by kernel_rfl) ?_
              apply Exists.intro
              apply And.intro
              · apply StepsIf.yield
                · kernel_rfl
                intro w' hS
                clear hS; go_simp
                rfl
              intro a' ha'
              simp only [Act.put, List.setIfInBounds_toArray, List.set_cons_zero, List.set_cons_succ] at ha'
              subst ha'
              refine AnyS.stepE (i := 7) (d := some 46) rfl rfl (by kernel_rfl) (by kernel_rfl) (by kernel_rfl) ?_
              apply Exists.intro
              apply And.intro
              · apply StepsIf.yield
                · kernel_rfl
                intro w' hS
                clear hS; go_simp
                rfl
              intro a' ha'
              simp only [Act.put, List.setIfInBounds_toArray, List.set_cons_zero, List.set_cons_succ] at ha'
              subst ha'
              refine AnyS.next (i := 8) (d := some 47) (v := .pointer (some ⟨g2, k, none⟩)) rfl rfl (by kernel_rfl) (by kernel_rfl) (by kernel_rfl) (StepsIf.yield (by kernel_rfl) (fun w' hS => by clear hS; go_simp)) ?_
              intro a' ha'
              simp only [Act.put, List.setIfInBounds_toArray, List.set_cons_zero, List.set_cons_succ] at ha'
              subst ha'
              refine AnyS.next (i := 9) (d := some 48) (v := .int .i64 x) rfl rfl (by kernel_rfl) (by kernel_rfl) (by kernel_rfl) (StepsIf.yield (by kernel_rfl) (fun w' hS => by have s := hS.1.2.2; clear hS; go_simp)) ?_
              intro a' ha'
              simp only [Act.put, List.setIfInBounds_toArray, List.set_cons_zero, List.set_cons_succ] at ha'
              subst ha'
              refine AnyS.next (i := 10) (d := some 49) (v := .pointer (some ⟨g, off + x * 8, none⟩)) rfl rfl (by kernel_rfl) (by kernel_rfl) (by kernel_rfl) (StepsIf.yield (by kernel_rfl) (fun w' hS => by clear hS; go_simp)) ?_
              intro a' ha'
              simp only [Act.put, List.setIfInBounds_toArray, List.set_cons_zero, List.set_cons_succ] at ha'
              subst ha'
              refine AnyS.next (i := 11) (d := some 50) (v := .pointer (some ⟨g, off + x * 8, none⟩)) rfl rfl (by kernel_rfl) (by kernel_rfl) (by kernel_rfl) (StepsIf.yield (by kernel_rfl) (fun w' hS => by clear hS; go_simp)) ?_
              intro a' ha'
              simp only [Act.put, List.setIfInBounds_toArray, List.set_cons_zero, List.set_cons_succ] at ha'
              subst ha'
              refine AnyS.next (i := 12) (d := some 51) (v := .int .i64 X) rfl rfl (by kernel_rfl) (by kernel_rfl) (by kernel_rfl) (StepsIf.yield (by kernel_rfl) (fun w' hS => by have s := hS.1.2.1; clear hS; go_simp)) ?_
              intro a' ha'
              simp only [Act.put, List.setIfInBounds_toArray, List.set_cons_zero, List.set_cons_succ] at ha'
              subst ha'
              refine AnyS.next (i := 13) (d := some 52) (v := .bool r) rfl rfl (by kernel_rfl) (by kernel_rfl) (by kernel_rfl) (StepsIf.call (by kernel_rfl) (fun w' hS => by clear hS; go_simp) (fun w' hS => (HKID w').mono fun e w'' h => ⟨h.1, h.2 ▸ hS⟩)) ?_
              intro a' ha'
              simp only [Act.put, List.setIfInBounds_toArray, List.set_cons_zero, List.set_cons_succ] at ha'
              subst ha'
              refine AnyS.next (i := 14) (d := some 53) (v := .bool (!r)) rfl rfl (by kernel_rfl) (by kernel_rfl) (by kernel_rfl) (StepsIf.yield (by kernel_rfl) (fun w' hS => by clear hS; go_simp)) ?_
              intro a' ha'
              simp only [Act.put, List.setIfInBounds_toArray, List.set_cons_zero, List.set_cons_succ] at ha'
              subst ha'
              refine AnyS.done (by kernel_rfl) (fun w6 hS => ?_) _
              obtain ⟨_, rfl⟩ := hS
              clear HKID
              generalize wr.drew = w7 at *
              cases r with
              | true =>
                go_wp2_with fail
                go_roundw
                case rel =>
                  refine ⟨k + 1, by omega, by simp, fun j hj hjk => ?_, HB3.out⟩
                  by_cases hje : j = k
                  · subst hje
                    rw [HXX.out, show ((x : Int)).toNat = x from rfl, HKX.out]
                    exact HRR.out
                  · exact HKS.out j hj (by omega)
                case measure => simp [intOf]; omega
              | false =>
                have HRES := Lib.hid (HNO.out i hlt (by
                  rw [HOKI.out, HKO1.out, Bool.true_and, List.all_eq_false]
                  refine ⟨kr[k], List.getElem_mem hkl, ?_⟩
                  rw [HXX.out, show ((x : Int)).toNat = x from rfl, HKX.out, HKIE.out, HRR.out]
                  decide))
                go_wp2_with fail
                go_ret
                exact ⟨by rw [HRES.out] <;> rfl, HB.out.trans (HB3.out.mono HB.out.size)⟩
            · obtain rfl : k = kr.length := by omega
              have hdk : decide ((kr.length : Int) < (kr.length : Int)) = false := by simp
              have hdk2 : decide (kr.length < kr.length) = false := by simp
              have hall : kidsOkB l i = true := by
                rw [HKO1.out, List.all_eq_true]
                intro y hy
                obtain ⟨j, hj, rfl⟩ := List.getElem_of_mem hy
                rw [HKIE.out]
                exact HKS.out j hj hj
              have HALL := Lib.hid hall
              clear hall
              have xi : IntKind.i64.wrap ((i : Int) + 1) = (i : Int) + 1 := IntWalk.i64_in _ (by omega)
              go_wp2_with fail
              go_roundw
              case rel =>
                refine ⟨i + 1, by omega, by simp, by rw [HG2.out], fun j hj => ?_, HB.out.trans (HB3.out.mono HB.out.size)⟩
                by_cases hji : j = i
                · subst hji
                  rw [HOKI.out, HALL.out]; rfl
                · exact HOKS.out j (by omega)
              case measure => simp [intOf]; omega
      · obtain rfl : i = l.length := by omega
        have hd : decide ((l.length : Int) < (l.length : Int)) = false := by simp
        have hd2 : decide (l.length < l.length) = false := by simp
        have hall : (List.range l.length).all (okN l) = true := by
          rw [List.all_eq_true]
          exact fun x hx => HOKS.out x (List.mem_range.1 hx)
        have HRR := Lib.hid (show rightR l = decide (grpN l l.length ≤ 9) by rw [HR.out, hall]; rfl)
        clear hall
        have q9 : decide (((grpN l l.length : Nat) : Int) ≤ 9) = decide (grpN l l.length ≤ 9) := by rw [Bool.eq_iff_iff, decide_eq_true_iff, decide_eq_true_iff]; omega
        generalize grpN l l.length = G at *
        go_wp2_with fail
        go_ret
        exact ⟨by rw [HRR.out] <;> simp, HB.out⟩
  · rw [decide_eq_false hf] at HFO
    have HRR := Lib.hid (show rightR l = false by unfold rightR; rw [decide_eq_false hf]; rfl)
    go_enter Tryd.func15, Tryd.ntmps15
    go_wp2_with fail
    refine HFO.out.mono ?_
    rintro e w1 ⟨rfl, rfl⟩
    go_wp2_with fail
    go_ret
    exact ⟨by rw [HRR.out] <;> rfl, Below.refl _ _⟩
end Go.Proofs.YtpncomjpmilbkaaDoor

/- The laws of stage 6: what they want of the package ast; sure, AstTells, AstKids, AstNumbers. -/
namespace Go.Proofs.YtpncomjpmilbkaaDoor
open Go.RowKit BS

/-- A slice of whole numbers in memory that is new. -/
def IntsB (base : Nat) (l : List Int) (a : Option Addr) (W : World) : Prop := l ≠ [] → ∃ g o, a = some ⟨g, o, none⟩ ∧ base ≤ g ∧ g < W.heap.size ∧ ∀ i (h : i < l.length), W.cell? ⟨g, o + i, none⟩ = some (.int .i64 l[i])
theorem IntsB.o {base : Nat} {l : List Int} {a : Option Addr} {W : World} (h : IntsB base l a W) : IntsO l a W := fun hne => by
  obtain ⟨g, o, e, _, hg, hc⟩ := h hne
  exact ⟨g, o, e, hg, hc⟩
theorem IntsB.below {base : Nat} {l : List Int} {a : Option Addr} {W W' : World} (h : IntsB base l a W) (hb : Below W.heap.size W W') : IntsB base l a W' := fun hne => by
  obtain ⟨g, o, e, h0, hg, hc⟩ := h hne
  exact ⟨g, o, e, h0, Nat.lt_of_lt_of_le hg hb.size, fun i hi => (hb.cell (p := ⟨g, o + i, none⟩) hg).trans (hc i hi)⟩
theorem IntsB.set {base : Nat} {l : List Int} {a : Option Addr} {W : World} (h : IntsB base l a W) {B : Nat} (hB : B < base) (x : Nat) (v : Value) : IntsB base l a (W.setCell ⟨B, x, none⟩ v) := fun hne => by
  obtain ⟨g, o, e, h0, hg, hc⟩ := h hne
  refine ⟨g, o, e, h0, by simpa using hg, fun i hi => ?_⟩
  exact (World.cell?_of_block (w := W) (a := ⟨g, o + i, none⟩) (Below.heap_setCell W ⟨B, x, none⟩ _ g (by show g ≠ B; omega))).trans (hc i hi)
theorem IntsO.alloc {l : List Int} {a : Option Addr} {W : World} (h : IntsO l a W) (o : Obj) : IntsO l a (W.alloc o) := h.below ((Below.refl _ _).alloc (Nat.le_refl _) o)
theorem NodesAt.alloc {l : List NdN} {a : Option Addr} {W : World} (h : NodesAt l a W) (o : Obj) : NodesAt l a (W.alloc o) := h.below ((Below.refl _ _).alloc (Nat.le_refl _) o)
/-- Whole numbers in a block of their own. -/
theorem IntsO.of_blk {l : List Int} {W : World} {g : Nat} {t : TypeId} (h : Blk W g (l.map (Value.int .i64)).toArray t) : IntsO l (some ⟨g, 0, none⟩) W := fun _ =>
  ⟨g, 0, rfl, h.lt, fun i hi => by rw [Nat.zero_add, h.cell i]; simp [hi]⟩

/-! ### sure -/
def l6 : List NdN := [⟨2, 0, 0, 0, 0⟩, ⟨2, 0, 0, 0, 0⟩, ⟨3, 1, 0, 0, 0⟩, ⟨5, 2, 0, 0, 0⟩]
@[reducible] def c6 : Array Value := #[.int .i64 2, .int .i64 0, .int .i64 0, .int .i64 0, .int .u64 0, .int .u64 0, .int .u64 0, .int .u64 0, .int .i64 2, .int .i64 0, .int .i64 0, .int .i64 0, .int .u64 0, .int .u64 0, .int .u64 0, .int .u64 0, .int .i64 3, .int .i64 1, .int .i64 0, .int .i64 0, .int .u64 0, .int .u64 0, .int .u64 0, .int .u64 0, .int .i64 5, .int .i64 2, .int .i64 0, .int .i64 0, .int .u64 0, .int .u64 0, .int .u64 0, .int .u64 0]
theorem l6_formed : decide (manyF 0 (l6.map NdN.kids) = some 1) = true := by decide +kernel
theorem l6_right : rightR l6 = true := by decide +kernel
theorem l6_two : decide (manyF 0 ((l6.take 2).map NdN.kids) = some 1) = false := by decide +kernel
theorem l6_kids : kidsR l6 3 = [0, 2] := by decide +kernel
theorem l6_sizes : sizesR l6 = [1, 1, 2, 4] := by decide +kernel
theorem l6_nums : numsR l6 = [0, 0, 1, 0] := by decide +kernel
set_option maxRecDepth 100000 in
theorem l6_at (W : World) : NodesAt l6 (some ⟨W.heap.size, 0, none⟩) (W.alloc (.cells c6 46)) := fun _ => by
  have hb := Blk.new W c6 46
  refine ⟨W.heap.size, 0, rfl, hb.lt, fun i hi j hj => ?_⟩
  have hi' : i < 4 := hi
  have z1 : wd (0 : BitVec 256) 1 = 0 := by decide
  have z2 : wd (0 : BitVec 256) 2 = 0 := by decide
  have z3 : wd (0 : BitVec 256) 3 = 0 := by decide
  rw [hb.cell]
  obtain rfl | rfl | rfl | rfl : i = 0 ∨ i = 1 ∨ i = 2 ∨ i = 3 := by omega
  all_goals
    obtain rfl | rfl | rfl | rfl | rfl | rfl | rfl | rfl : j = 0 ∨ j = 1 ∨ j = 2 ∨ j = 3 ∨ j = 4 ∨ j = 5 ∨ j = 6 ∨ j = 7 := by omega
    all_goals first
      | rfl
      | (show some (Value.int .u64 0) = some (.int .u64 ((wd (0 : BitVec 256) 1 : Nat) : Int)); rw [z1]; rfl)
      | (show some (Value.int .u64 0) = some (.int .u64 ((wd (0 : BitVec 256) 2 : Nat) : Int)); rw [z2]; rfl)
      | (show some (Value.int .u64 0) = some (.int .u64 ((wd (0 : BitVec 256) 3 : Nat) : Int)); rw [z3]; rfl)
theorem nodes_take (l : List NdN) (n : Nat) (a : Option Addr) (W : World) (h : NodesAt l a W) : NodesAt (l.take n) a W := fun hne => by
  obtain ⟨g, off, e, hg, hc⟩ := h (fun h => by rw [h] at hne; simp at hne)
  refine ⟨g, off, e, hg, fun i hi j hj => ?_⟩
  rw [List.length_take] at hi
  rw [hc i (by omega) j hj, List.getElem_take]

/-! ### few -/
theorem kidsR_lenI (l : List NdN) (i : Int) : (kidsR l i).length ≤ l.length := by
  by_cases h : 0 ≤ i
  · obtain ⟨n, rfl⟩ := Int.eq_ofNat_of_zero_le h
    exact kidsR_len l n
  · unfold kidsR
    rw [if_neg (by omega)]
    exact Nat.zero_le _
theorem numsR_len (l : List NdN) : (numsR l).length = (sizesR l).length := by unfold numsR; rw [List.length_map, List.length_range]
end Go.Proofs.YtpncomjpmilbkaaDoor

/- Patterns' trees, plainly: what AstParts wants of a list of nodes that is a tree. -/
namespace Go.Proofs.YtpncomjpmilbkaaDoor
open Go.RowKit BS

@[reducible] def FormedN (l : List NdN) : Prop := manyF 0 (l.map NdN.kids) = some 1
theorem formed_stack (l : List NdN) (hf : FormedN l) : stackF [] (ksN l) = some [l.length] ∧ (ksN l).length = l.length ∧ (sizesR l).length = l.length ∧ (sizesF [] (ksN l)).length = l.length ∧ sizesR l = (sizesF [] (ksN l)).map (fun x : Nat => (x : Int)) := by
  obtain ⟨hk0, hst⟩ := (formed_iff (l.map NdN.kids)).1 hf
  have hst : stackF [] (ksN l) = some [(l.map NdN.kids).length] := hst
  rw [List.length_map] at hst
  have hkl : (ksN l).length = l.length := by simp [ksN]
  refine ⟨hst, hkl, ?_, by rw [sizesF_len, hkl], if_pos hf⟩
  rw [sizesR_len]
  exact if_pos hf
theorem formed_pos (l : List NdN) (hf : FormedN l) : 0 < l.length := by
  cases l with
  | nil => exact absurd hf (by unfold FormedN; decide)
  | cons => simp
/-- The kids of a node stand side by side, right ahead of it: A k is where kid k begins. -/
theorem kids_row (l : List NdN) (hf : FormedN l) (i : Nat) (hi : i < l.length) : ∃ A : Nat → Nat, A (kidsR l i).length = i ∧ A 0 ≤ i ∧ (A 0 : Int) = (i : Int) + 1 - (sizesR l).getD i 0 ∧
    ∀ k (h : k < (kidsR l i).length), A k < A (k + 1) ∧ A (k + 1) ≤ i ∧ (kidsR l i)[k] = ((A (k + 1) - 1 : Nat) : Int) ∧ (sizesR l).getD (A (k + 1) - 1) 0 = ((A (k + 1) - A k : Nat) : Int) := by
  obtain ⟨hst, hkl, hrl, hsl, hR⟩ := formed_stack l hf
  have hlk : i < (ksN l).length := by omega
  obtain ⟨s, hs, hks, hsum⟩ := stack_at (ksN l) [] _ hst i hlk
  obtain ⟨hr, ht, hsi⟩ := roots_at (ksN l) i hlk s hs
  rw [← ht] at hr
  have hpos := stackF_pos ((ksN l).take i) [] s (by simp) hs
  have hsumi : s.sum = i := by simpa using hsum
  have htl : ((sizesF [] (ksN l)).take i).length = i := by rw [List.length_take]; omega
  generalize hK : (ksN l)[i] = K at *
  have hkid : kidsR l i = (((posF i s).take K).reverse).map (fun x : Nat => (x : Int)) := by
    unfold kidsR
    rw [if_pos ⟨hf, by omega, by omega⟩, show (i : Int).toNat = i from rfl, allKids_at (ksN l) i hlk s hs, hK]
    rfl
  have hPl : ((posF i s).take K).length = K := by rw [List.length_take, posF_len]; omega
  have hlen : (kidsR l i).length = K := by rw [hkid, List.length_map, List.length_reverse, hPl]
  refine ⟨fun k => i - (s.take (K - k)).sum, ?_, Nat.sub_le _ _, ?_, ?_⟩
  · rw [hlen]; simp
  · have e1 : (sizesR l).getD i 0 = ((1 + (s.take K).sum : Nat) : Int) := by
      rw [List.getD_eq_getElem?_getD, hR, List.getElem?_map, hsi]; rfl
    rw [e1]
    have := take_sum_le s K
    simp only [Nat.sub_zero]
    omega
  · intro k h
    rw [hlen] at h
    have hj : K - 1 - k < s.length := by omega
    have hts := take_sum s (K - 1 - k) hj
    have hzp := hpos _ (List.getElem_mem hj)
    have hle := take_sum_le s (K - 1 - k + 1)
    rw [show K - 1 - k + 1 = K - k by omega] at hts hle
    have e1 : K - (k + 1) = K - 1 - k := by omega
    obtain ⟨r1, r2⟩ := hr (K - 1 - k) hj
    rw [htl] at r1 r2
    simp only [e1]
    refine ⟨by omega, by omega, ?_, ?_⟩
    · have hg : (kidsR l i)[k]'(by omega) = ((((posF i s).take K)[K - 1 - k]'(by omega) : Nat) : Int) := by
        simp only [hkid, List.getElem_map, List.getElem_reverse, hPl]
      rw [hg, List.getElem_take, posF_get]
    · have hp : i - (s.take (K - 1 - k)).sum - 1 < (sizesF [] (ksN l)).length := by omega
      rw [show i - 1 - (s.take (K - 1 - k)).sum = i - (s.take (K - 1 - k)).sum - 1 by omega] at r2
      rw [List.getElem?_take, if_pos (by omega)] at r2
      rw [List.getD_eq_getElem?_getD, hR, List.getElem?_map, r2]
      show ((s[K - 1 - k] : Nat) : Int) = _
      omega
theorem sizes_last (l : List NdN) (hf : FormedN l) : (sizesR l).getD (l.length - 1) 0 = (l.length : Int) := by
  obtain ⟨hst, hkl, hrl, hsl, hR⟩ := formed_stack l hf
  have hp := formed_pos l hf
  have hlk : l.length - 1 < (ksN l).length := by omega
  obtain ⟨s, hs, hks, hsum⟩ := stack_at (ksN l) [] _ hst (l.length - 1) hlk
  obtain ⟨_, _, hsi⟩ := roots_at (ksN l) (l.length - 1) hlk s hs
  have hsumi : s.sum = l.length - 1 := by simpa using hsum
  have e : ksN l = (ksN l).take (l.length - 1) ++ [(ksN l)[l.length - 1]] := by
    have h1 := List.take_append_drop (l.length - 1) (ksN l)
    rw [List.drop_eq_getElem_cons hlk, List.drop_of_length_le (by omega)] at h1
    exact h1.symm
  rw [e, stackF_snoc, hs] at hst
  have h2 : stepF s (ksN l)[l.length - 1] = [l.length] := by
    simp only [Option.bind_some] at hst
    rw [if_pos hks] at hst
    exact Option.some.inj hst
  have h3 : 1 + (s.take (ksN l)[l.length - 1]).sum = l.length := by
    unfold stepF at h2
    exact (List.cons.inj h2).1
  rw [List.getD_eq_getElem?_getD, hR, List.getElem?_map, hsi]
  show ((1 + (s.take (ksN l)[l.length - 1]).sum : Nat) : Int) = _
  rw [h3]
/-- How often a place has been a kid of the first i nodes. -/
def heldN (l : List NdN) (i x : Nat) : Nat := (((allKids 0 [] (ksN l)).take i).flatten).count x
theorem heldN_step (l : List NdN) (hf : FormedN l) (i : Nat) (hi : i < l.length) (x : Nat) : heldN l (i + 1) x = heldN l i x + (kidsR l i).count (x : Int) := by
  obtain ⟨hst, hkl, _⟩ := formed_stack l hf
  have hal := allKids_len (ksN l) [] 0
  have hlt : i < (allKids 0 [] (ksN l)).length := by omega
  unfold heldN
  rw [List.take_succ_eq_append_getElem hlt, List.flatten_append, List.count_append]
  congr 1
  have hk : kidsR l i = (((allKids 0 [] (ksN l))[i]).reverse).map (fun x : Nat => (x : Int)) := by
    unfold kidsR
    rw [if_pos ⟨hf, by omega, by omega⟩, show (i : Int).toNat = i from rfl, List.getElem?_eq_getElem hlt, Option.getD_some]
  rw [hk]
  have hinj : ∀ (m : List Nat), (m.map (fun x : Nat => (x : Int))).count (x : Int) = m.count x := fun m => by
    induction m with
    | nil => rfl
    | cons y m ih =>
      rw [List.map_cons, List.count_cons, List.count_cons, ih]
      congr 1
      by_cases h : y = x
      · subst h; simp
      · have h2 : ¬ ((y : Int) = (x : Int)) := by omega
        simp [h, h2]
  rw [hinj, List.count_reverse]
  simp
theorem heldN_all (l : List NdN) (hf : FormedN l) (x : Nat) (hx : x < l.length) : heldN l l.length x = if x = l.length - 1 then 0 else 1 := by
  obtain ⟨hst, hkl, _⟩ := formed_stack l hf
  have hal := allKids_len (ksN l) [] 0
  unfold heldN
  rw [List.take_of_length_le (by omega)]
  exact kids_tree (ksN l) l.length hkl hst x hx
theorem heldN_le (l : List NdN) (hf : FormedN l) : ∀ i, i ≤ l.length → ∀ x, x < l.length → heldN l i x ≤ 1 := fun i hi x hx => by
  have h1 := heldN_all l hf x hx
  have h2 : heldN l i x ≤ heldN l l.length x := by
    unfold heldN
    have e : (allKids 0 [] (ksN l)).take i = ((allKids 0 [] (ksN l)).take l.length).take i := by rw [List.take_take, Nat.min_eq_left hi]
    have e2 := congrArg (fun cs => (cs.flatten).count x) (List.take_append_drop i ((allKids 0 [] (ksN l)).take l.length))
    simp only [List.flatten_append, List.count_append] at e2
    rw [e]
    omega
  split at h1 <;> omega
/-- Node i's number; how many of the first i nodes have number m. -/
def nuN (l : List NdN) (i : Nat) : Nat := numF (kdN l) (fiN l) (sizesR l).length i
theorem numsR_get (l : List NdN) (i : Nat) (h : i < (sizesR l).length) : (numsR l).getD i 0 = (nuN l i : Int) := by
  unfold numsR nuN
  rw [List.getD_eq_getElem?_getD, List.getElem?_map, List.getElem?_range h]
  rfl
theorem grpN_len (l : List NdN) (n : Nat) : (grpF (kdN l) n).length = grpN l n := by
  unfold grpF grpN
  rw [List.countP_eq_length_filter]
theorem nuN_le (l : List NdN) (i : Nat) : nuN l i ≤ grpN l (sizesR l).length := by
  have := num_le (kdN l) (fiN l) (sizesR l).length i
  rw [grpN_len] at this
  exact this
theorem nuN_pos (l : List NdN) (i : Nat) (hi : i < (sizesR l).length) : 0 < nuN l i ↔ kdN l i = 3 := num_pos _ _ _ _ hi
def toldN (l : List NdN) (i m : Nat) : Nat := (List.range i).countP fun j => nuN l j == m
theorem toldN_step (l : List NdN) (i m : Nat) : toldN l (i + 1) m = toldN l i m + if nuN l i = m then 1 else 0 := by
  unfold toldN
  rw [List.range_succ, List.countP_append]
  simp [List.countP_cons]
theorem toldN_le (l : List NdN) (i m : Nat) : toldN l i m ≤ i := by
  unfold toldN
  have := List.countP_le_length (p := fun j => nuN l j == m) (l := List.range i)
  rw [List.length_range] at this
  exact this
theorem toldN_all (l : List NdN) (m : Nat) (h1 : 1 ≤ m) (h2 : m ≤ grpN l (sizesR l).length) : toldN l (sizesR l).length m = 1 := by
  rw [← grpN_len] at h2
  exact told_once (kdN l) (fiN l) (sizesR l).length m h1 h2
end Go.Proofs.YtpncomjpmilbkaaDoor

/- Patterns' trees, plainly: what AstGrows wants: a Group around a tree, an Alt of two. -/
namespace Go.Proofs.YtpncomjpmilbkaaDoor
open Go.RowKit BS

theorem kidsOk_iff (f : Nat → Int) : ∀ (cs : List (List Nat)) (i : Nat), KidsOk f i cs ↔ ∀ j (h : j < cs.length), ∀ x ∈ cs[j], kidF (f (i + j)) (f x) = true
  | [], i => by simp [KidsOk]
  | c :: cs, i => by
    rw [KidsOk, kidsOk_iff f cs (i + 1)]
    constructor
    · rintro ⟨h1, h2⟩ j hj x hx
      cases j with
      | zero => exact h1 x hx
      | succ j =>
        have := h2 j (by simpa using hj) x hx
        rwa [show i + 1 + j = i + (j + 1) by omega] at this
    · intro h
      refine ⟨fun x hx => h 0 (by simp) x hx, fun j hj x hx => ?_⟩
      have := h (j + 1) (by simpa using hj) x hx
      rwa [show i + (j + 1) = i + 1 + j by omega] at this
theorem kidsOkB_iff (l : List NdN) (hf : FormedN l) : (∀ i, i < l.length → kidsOkB l i = true) ↔ RightKids (l.map NdN.kind) (ksN l) := by
  obtain ⟨hst, hkl, _⟩ := formed_stack l hf
  have hal := allKids_len (ksN l) [] 0
  unfold RightKids
  rw [kidsOk_iff]
  have hk : ∀ i (h : i < (allKids 0 [] (ksN l)).length), kidsR l i = (((allKids 0 [] (ksN l))[i]).reverse).map (fun x : Nat => (x : Int)) := fun i h => by
    unfold kidsR
    rw [if_pos ⟨hf, by omega, by omega⟩, show (i : Int).toNat = i from rfl, List.getElem?_eq_getElem h, Option.getD_some]
  constructor
  · intro h j hj x hx
    have h1 := h j (by omega)
    unfold kidsOkB at h1
    rw [hk j hj, List.all_eq_true] at h1
    have := h1 (x : Int) (List.mem_map.2 ⟨x, List.mem_reverse.2 hx, rfl⟩)
    rw [Nat.zero_add]
    exact this
  · intro h i hi
    unfold kidsOkB
    rw [hk i (by omega), List.all_eq_true]
    intro y hy
    obtain ⟨x, hx, rfl⟩ := List.mem_map.1 hy
    have := h i (by omega) x (List.mem_reverse.1 hx)
    rw [Nat.zero_add] at this
    exact this
theorem grpN_count (l : List NdN) : grpN l l.length = (l.map NdN.kind).countP (· == 3) := by
  have e : (List.range l.length).map (kdN l) = l.map NdN.kind := by
    apply List.ext_getElem (by simp)
    intro i h1 h2
    rw [List.getElem_map, List.getElem_range, List.getElem_map]
    exact kdN_get l i (by simpa using h2)
  rw [← e, List.countP_map]
  rfl
theorem rightR_iff (l : List NdN) : rightR l = true ↔ FormedN l ∧ (∀ x ∈ l, nodeF x = true) ∧ RightKids (l.map NdN.kind) (ksN l) ∧ (l.map NdN.kind).countP (· == 3) ≤ 9 := by
  unfold rightR
  rw [Bool.and_eq_true, Bool.and_eq_true, decide_eq_true_iff, decide_eq_true_iff, List.all_eq_true, grpN_count]
  constructor
  · rintro ⟨h1, h2, h3⟩
    have h4 : ∀ i (h : i < l.length), nodeF l[i] = true ∧ kidsOkB l i = true := fun i h => by
      have := h2 i (List.mem_range.2 h)
      rw [okN_split l i h, Bool.and_eq_true] at this
      exact this
    refine ⟨h1, fun x hx => ?_, (kidsOkB_iff l h1).1 (fun i hi => (h4 i hi).2), h3⟩
    obtain ⟨i, hi, rfl⟩ := List.getElem_of_mem hx
    exact (h4 i hi).1
  · rintro ⟨h1, h2, h3, h4⟩
    refine ⟨h1, fun i hi => ?_, h4⟩
    have hi := List.mem_range.1 hi
    rw [okN_split l i hi, Bool.and_eq_true]
    exact ⟨h2 _ (List.getElem_mem hi), (kidsOkB_iff l h1).2 h3 i hi⟩
def ndG : NdN := ⟨3, 1, 0, 0, 0⟩
def ndL : NdN := ⟨6, 2, 0, 0, 0⟩
theorem formed_of (l : List NdN) (h1 : ∀ x ∈ l, 0 ≤ x.kids) (h2 : stackF [] (ksN l) = some [l.length]) : FormedN l := by
  unfold FormedN
  rw [formed_iff]
  refine ⟨fun k hk => ?_, by rw [List.length_map]; exact h2⟩
  obtain ⟨x, hx, rfl⟩ := List.mem_map.1 hk
  exact h1 x hx
theorem formed_kids (l : List NdN) (hf : FormedN l) : ∀ x ∈ l, 0 ≤ x.kids := fun x hx => ((formed_iff (l.map NdN.kids)).1 hf).1 x.kids (List.mem_map_of_mem hx)
theorem ksN_app (l m : List NdN) : ksN (l ++ m) = ksN l ++ ksN m := by simp [ksN]
theorem formed_group (l : List NdN) (hf : FormedN l) : FormedN (l ++ [ndG]) := by
  obtain ⟨hst, hkl, _⟩ := formed_stack l hf
  refine formed_of _ (fun x hx => ?_) ?_
  · rcases List.mem_append.1 hx with h | h
    · exact formed_kids l hf x h
    · rw [List.mem_singleton.1 h]; decide
  · rw [ksN_app, stackF_append, hst]
    show stackF [l.length] [1] = _
    unfold stackF stackF
    rw [if_pos (by simp)]
    simp [stepF, Nat.add_comm]
theorem formed_two (l m : List NdN) (hl : FormedN l) (hm : FormedN m) : FormedN (l ++ m ++ [ndL]) := by
  obtain ⟨h1, _⟩ := formed_stack l hl
  obtain ⟨h2, _⟩ := formed_stack m hm
  refine formed_of _ (fun x hx => ?_) ?_
  · rcases List.mem_append.1 hx with h | h
    · rcases List.mem_append.1 h with h | h
      · exact formed_kids l hl x h
      · exact formed_kids m hm x h
    · rw [List.mem_singleton.1 h]; decide
  · have h3 := stackF_below [l.length] (ksN m) [] [m.length] h2
    rw [ksN_app, ksN_app, stackF_append, stackF_append, h1]
    show ((stackF [l.length] (ksN m)).bind fun st' => stackF st' [2]) = _
    rw [show [l.length] = ([] : List Nat) ++ [l.length] from rfl, h3]
    show stackF [m.length, l.length] [2] = _
    unfold stackF stackF
    rw [if_pos (by simp)]
    simp [stepF]
    omega
/-- **A Group around a pattern's tree is one just if there are not too many.** -/
theorem right_group (l : List NdN) (h : rightR l = true) : rightR (l ++ [ndG]) = decide (grpN l l.length < 9) := by
  obtain ⟨h1, h2, h3, h4⟩ := (rightR_iff l).1 h
  obtain ⟨hst, hkl, _⟩ := formed_stack l h1
  rw [Bool.eq_iff_iff, rightR_iff, decide_eq_true_iff, grpN_count]
  have e : (l ++ [ndG]).map NdN.kind = l.map NdN.kind ++ [3] := by simp [ndG]
  have ek : ksN (l ++ [ndG]) = ksN l ++ [1] := by rw [ksN_app]; rfl
  rw [e, ek, List.countP_append, rightKids_group _ _ (by rw [List.length_map, hkl]) (by rw [hkl]; exact hst)]
  constructor
  · rintro ⟨_, _, _, h5⟩
    have : ([3] : List Int).countP (· == 3) = 1 := by decide
    omega
  · intro h5
    have : ([3] : List Int).countP (· == 3) = 1 := by decide
    refine ⟨formed_group l h1, fun x hx => ?_, h3, by omega⟩
    rcases List.mem_append.1 hx with h | h
    · exact h2 x h
    · rw [List.mem_singleton.1 h]; decide
theorem right_two (l m : List NdN) (h : rightR l = true) (hm : rightR m = true) : rightR (l ++ m ++ [ndL]) = ((kdN l (l.length - 1) != 6) && (kdN m (m.length - 1) != 6) && decide (grpN l l.length + grpN m m.length ≤ 9)) := by
  obtain ⟨h1, h2, h3, h4⟩ := (rightR_iff l).1 h
  obtain ⟨g1, g2, g3, g4⟩ := (rightR_iff m).1 hm
  obtain ⟨hst, hkl, _⟩ := formed_stack l h1
  obtain ⟨gst, gkl, _⟩ := formed_stack m g1
  rw [Bool.eq_iff_iff, rightR_iff, Bool.and_eq_true, Bool.and_eq_true, decide_eq_true_iff, grpN_count, grpN_count]
  have e : (l ++ m ++ [ndL]).map NdN.kind = l.map NdN.kind ++ m.map NdN.kind ++ [6] := by simp [ndL]
  have ek : ksN (l ++ m ++ [ndL]) = ksN l ++ ksN m ++ [2] := by rw [ksN_app, ksN_app]; rfl
  have hc : ([6] : List Int).countP (· == 3) = 0 := by decide
  rw [e, ek, List.countP_append, List.countP_append, hc, rightKids_two _ _ _ _ (by rw [List.length_map, hkl]) (by rw [List.length_map, gkl]) (by rw [hkl]; exact hst) (by rw [gkl]; exact gst), List.length_map, List.length_map]
  constructor
  · rintro ⟨_, _, ⟨_, _, h5, h6⟩, h7⟩
    exact ⟨⟨h5, h6⟩, by omega⟩
  · rintro ⟨⟨h5, h6⟩, h7⟩
    refine ⟨formed_two l m h1 g1, fun x hx => ?_, ⟨h3, g3, h5, h6⟩, by omega⟩
    rcases List.mem_append.1 hx with h | h
    · rcases List.mem_append.1 h with h | h
      · exact h2 x h
      · exact g2 x h
    · rw [List.mem_singleton.1 h]; decide
/-- **In a Group around all the numbers are one more.** -/
theorem nums_group (l : List NdN) (hf : FormedN l) : (numsR (l ++ [ndG])).length = l.length + 1 ∧ (numsR (l ++ [ndG])).getD l.length 0 = 1 ∧
    ∀ i, i < l.length → kdN l i = 3 → (numsR (l ++ [ndG])).getD i 0 = (numsR l).getD i 0 + 1 := by
  obtain ⟨hst, hkl, hrl, hsl, hR⟩ := formed_stack l hf
  obtain ⟨gst, gkl, grl, gsl, gR⟩ := formed_stack (l ++ [ndG]) (formed_group l hf)
  rw [List.length_append] at grl
  have hsz : sizesR (l ++ [ndG]) = sizesR l ++ [((1 + l.length : Nat) : Int)] := by
    rw [gR, hR, ksN_app, show ksN [ndG] = [1] from rfl, sizesF_snoc _ _ _ _ hst, List.map_append]
    simp
  have hkd : ∀ i, i < l.length → kdN (l ++ [ndG]) i = kdN l i := fun i hi => by
    rw [kdN_get l i hi, kdN_get (l ++ [ndG]) i (by simp; omega), List.getElem_append_left hi]
  have hkn : kdN (l ++ [ndG]) l.length = 3 := by
    rw [kdN_get _ l.length (by simp)]
    simp [ndG]
  have hfi : ∀ i, i < l.length → fiN (l ++ [ndG]) i = fiN l i := fun i hi => by
    unfold fiN
    rw [hsz, List.getD_eq_getElem?_getD, List.getD_eq_getElem?_getD, List.getElem?_append_left (by omega)]
  have hfn : fiN (l ++ [ndG]) l.length = -1 := by
    unfold fiN
    rw [hsz, List.getD_eq_getElem?_getD, List.getElem?_append_right (by omega), hrl, Nat.sub_self]
    simp
    omega
  have hlow : ∀ i, i < l.length → -1 ≤ fiN l i := fun i hi => by
    rw [fiN_get l i (by omega)]
    have := sizesR_bound l i (by omega)
    omega
  obtain ⟨r1, r2⟩ := num_grows (kdN l) (kdN (l ++ [ndG])) (fiN l) (fiN (l ++ [ndG])) l.length hkd hkn hfi hfn hlow
  have hn1 : (sizesR (l ++ [ndG])).length = l.length + 1 := grl
  refine ⟨by rw [numsR_len, hn1], ?_, fun i hi h3 => ?_⟩
  · rw [numsR_get _ _ (by omega)]
    unfold nuN
    rw [hn1, r1]; rfl
  · rw [numsR_get _ _ (by omega), numsR_get _ _ (by omega)]
    unfold nuN
    rw [hn1, hrl, r2 i hi h3]; rfl
end Go.Proofs.YtpncomjpmilbkaaDoor

/- Terms as lists of nodes, plainly. Stage 10. A term's node is kept as a node of a tree is: kind, A as kids, B as n, N as m, set. -/
namespace Go.Proofs.YtpncomjpmilbkaaDoor
open Go.RowKit BS

/-- How many parts a kind has. -/
def pcT (k : Int) : Nat := if k = 3 ∨ k = 4 then 2 else if 3 ≤ k ∧ k ≤ 8 then 1 else 0
def psT (l : List NdN) : List Nat := l.map fun x => pcT x.kind
/-- What a node may have, whatever stands ahead of it. -/
def kindT (x : NdN) : Bool := decide (1 ≤ x.kind ∧ x.kind ≤ 8 ∧ (x.kind = 2 ∨ x.set = 0) ∧ (x.kind = 7 ∨ x.m = 0) ∧ (x.kind = 7 → 1 ≤ x.m ∧ x.m ≤ 9) ∧ (pcT x.kind = 0 → x.kids = -1) ∧ (pcT x.kind ≠ 2 → x.n = -1))
/-- Its parts stand where they must: those are the places, the last one first. -/
def argT (x : NdN) (ps : List Nat) : Bool :=
  if pcT x.kind = 2 then decide (x.n = ((ps.getD 0 0 : Nat) : Int) ∧ x.kids = ((ps.getD 1 0 : Nat) : Int))
  else if pcT x.kind = 1 then decide (x.kids = ((ps.getD 0 0 : Nat) : Int)) else true
/-- No Group of its number from a place on. -/
def noT (l : List NdN) (x : NdN) (lo i : Nat) : Bool := decide (x.kind = 7 → ∀ k, k < i → lo ≤ k → ∀ y, l[k]? = some y → ¬ (y.kind = 7 ∧ y.m = x.m))
/-- Is node i fine behind those trees? -/
def fineT (l : List NdN) (s : List Nat) (i : Nat) (x : NdN) : Bool :=
  kindT x && (decide (pcT x.kind ≤ s.length) && (argT x (posF i s) && noT l x (i - (s.take (pcT x.kind)).sum) i))
/-- The trees behind i nodes, if all of them are fine. -/
def trT (l : List NdN) : Nat → Option (List Nat)
  | 0 => some []
  | i + 1 => (trT l i).bind fun s => (l[i]?).bind fun x => if fineT l s i x = true then some (stepF s (pcT x.kind)) else none
def lfT (l : List NdN) : Nat := (l.map NdN.kind).countP (· == 2)
/-- Is a list a term? -/
def rightT (l : List NdN) : Bool := decide (trT l l.length = some [l.length] ∧ l.length ≤ 400 ∧ lfT l ≤ 64)
theorem trT_step (l : List NdN) (i : Nat) (s : List Nat) (h : trT l (i + 1) = some s) : ∃ s0, trT l i = some s0 ∧ ∃ h : i < l.length, fineT l s0 i l[i] = true ∧ s = stepF s0 (pcT l[i].kind) := by
  rw [trT] at h
  obtain ⟨s0, h0, h1⟩ := Option.bind_eq_some_iff.1 h
  obtain ⟨x, h2, h3⟩ := Option.bind_eq_some_iff.1 h1
  obtain ⟨hi, rfl⟩ := List.getElem?_eq_some_iff.1 h2
  by_cases hf : fineT l s0 i l[i] = true
  · rw [if_pos hf] at h3
    exact ⟨s0, h0, hi, hf, (Option.some.inj h3).symm⟩
  · rw [if_neg hf] at h3; cases h3
theorem trT_more (l : List NdN) (i : Nat) (s : List Nat) (h : trT l i = some s) (hi : i < l.length) (hf : fineT l s i l[i] = true) : trT l (i + 1) = some (stepF s (pcT l[i].kind)) := by
  rw [trT, h, List.getElem?_eq_getElem hi]
  show (if fineT l s i l[i] = true then _ else _) = _
  rw [if_pos hf]
theorem trT_stop (l : List NdN) (i : Nat) (s : List Nat) (h : trT l i = some s) (hi : i < l.length) (hf : fineT l s i l[i] = false) : trT l (i + 1) = none := by
  rw [trT, h, List.getElem?_eq_getElem hi]
  show (if fineT l s i l[i] = true then _ else _) = _
  rw [if_neg (by rw [hf]; decide)]
theorem trT_none (l : List NdN) (i : Nat) (h : trT l i = none) : ∀ j, i ≤ j → trT l j = none
  | 0, hj => by
    have : i = 0 := by omega
    subst this; exact h
  | j + 1, hj => by
    rcases Nat.lt_or_ge i (j + 1) with h1 | h1
    · rw [trT, trT_none l i h j (by omega)]; rfl
    · have : i = j + 1 := by omega
      subst this; exact h
theorem psT_len (l : List NdN) : (psT l).length = l.length := by simp [psT]
theorem psT_get (l : List NdN) (i : Nat) (h : i < l.length) : (psT l)[i]'(by rw [psT_len]; exact h) = pcT l[i].kind := by simp [psT]
theorem fineT_len (l : List NdN) (s : List Nat) (i : Nat) (x : NdN) (h : fineT l s i x = true) : pcT x.kind ≤ s.length := by
  unfold fineT at h
  simp only [Bool.and_eq_true, decide_eq_true_eq] at h
  exact h.2.1
theorem trT_stack (l : List NdN) : ∀ i s, trT l i = some s → i ≤ l.length ∧ stackF [] ((psT l).take i) = some s
  | 0, s, h => by
    rw [trT] at h
    cases h
    exact ⟨Nat.zero_le _, by rw [List.take_zero]; rfl⟩
  | i + 1, s, h => by
    obtain ⟨s0, h0, hi, hf, rfl⟩ := trT_step l i s h
    obtain ⟨_, h2⟩ := trT_stack l i s0 h0
    refine ⟨hi, ?_⟩
    rw [List.take_succ_eq_append_getElem (by rw [psT_len]; exact hi), stackF_snoc, h2, psT_get l i hi]
    show (if pcT l[i].kind ≤ s0.length then _ else _) = _
    rw [if_pos (fineT_len l s0 i _ hf)]
theorem trT_before (l : List NdN) (i : Nat) (s : List Nat) (h : trT l i = some s) (j : Nat) (hj : j ≤ i) : ∃ s', trT l j = some s' := by
  cases hs : trT l j with
  | some s' => exact ⟨s', rfl⟩
  | none => rw [trT_none l j hs i hj] at h; cases h
/-- What a term is. -/
structure TermQ (l : List NdN) : Prop where
  stack : stackF [] (psT l) = some [l.length]
  pos : 0 < l.length
  len : l.length ≤ 400
  leaf : lfT l ≤ 64
  fine : ∀ i (h : i < l.length), ∃ s, stackF [] ((psT l).take i) = some s ∧ fineT l s i l[i] = true
theorem rightT_q (l : List NdN) (h : rightT l = true) : TermQ l := by
  obtain ⟨h1, h2, h3⟩ := of_decide_eq_true h
  have hst := (trT_stack l _ _ h1).2
  rw [List.take_of_length_le (by rw [psT_len]; exact Nat.le_refl _)] at hst
  refine ⟨hst, ?_, h2, h3, fun i hi => ?_⟩
  · rcases Nat.eq_zero_or_pos l.length with h0 | h0
    · rw [h0, trT] at h1; cases h1
    · exact h0
  · obtain ⟨s', hs'⟩ := trT_before l _ _ h1 (i + 1) hi
    obtain ⟨s0, h4, _, h5, _⟩ := trT_step l i s' hs'
    exact ⟨s0, (trT_stack l i s0 h4).2, h5⟩
theorem q_right (l : List NdN) (h : TermQ l) : rightT l = true := by
  refine decide_eq_true ⟨?_, h.len, h.leaf⟩
  have hall : ∀ i, i ≤ l.length → ∃ s, trT l i = some s := fun i => by
    induction i with
    | zero => intro _; exact ⟨[], rfl⟩
    | succ i ih =>
      intro hi
      obtain ⟨s, hs⟩ := ih (by omega)
      obtain ⟨s', h1, h2⟩ := h.fine i hi
      have e := (trT_stack l i s hs).2
      rw [h1] at e
      cases e
      exact ⟨_, trT_more l i _ hs hi h2⟩
  obtain ⟨s, hs⟩ := hall l.length (Nat.le_refl _)
  have e := (trT_stack l _ s hs).2
  rw [List.take_of_length_le (by rw [psT_len]; exact Nat.le_refl _), h.stack] at e
  cases e
  exact hs
/-! ### A term as a tree -/
def asN (x : NdN) : NdN := ⟨x.kind, ((pcT x.kind : Nat) : Int), 0, 0, 0⟩
def asL (l : List NdN) : List NdN := l.map asN
theorem asL_len (l : List NdN) : (asL l).length = l.length := by simp [asL]
theorem asL_get (l : List NdN) (i : Nat) (h : i < l.length) : (asL l)[i]'(by rw [asL_len]; exact h) = asN l[i] := by simp [asL]
theorem ksN_as (l : List NdN) : ksN (asL l) = psT l := by
  unfold ksN asL psT
  rw [List.map_map, List.map_map]
  rfl
theorem formed_as (l : List NdN) (h : TermQ l) : FormedN (asL l) := by
  refine formed_of (asL l) (fun x hx => ?_) (by rw [ksN_as, asL_len]; exact h.stack)
  obtain ⟨y, _, rfl⟩ := List.mem_map.1 hx
  exact Int.natCast_nonneg _
/-- **The parts of a node stand where its kids would.** -/
theorem parts_as (l : List NdN) (h : TermQ l) (i : Nat) (hi : i < l.length) : kidsR (asL l) i = if pcT l[i].kind = 2 then [l[i].kids, l[i].n] else if pcT l[i].kind = 1 then [l[i].kids] else [] := by
  have hf := formed_as l h
  obtain ⟨s, hs, hfi⟩ := h.fine i hi
  have hlk : i < (ksN (asL l)).length := by rw [ksN_as, psT_len]; exact hi
  have hk : (ksN (asL l))[i] = pcT l[i].kind := by
    have : (psT l)[i]'(by rw [psT_len]; exact hi) = pcT l[i].kind := psT_get l i hi
    simpa only [ksN_as] using this
  unfold kidsR
  rw [if_pos ⟨hf, by omega, by rw [asL_len]; omega⟩, show (i : Int).toNat = i from rfl, allKids_at (ksN (asL l)) i hlk s (by rw [ksN_as]; exact hs), hk]
  unfold fineT at hfi
  simp only [Bool.and_eq_true, decide_eq_true_eq] at hfi
  obtain ⟨_, h2, h3, _⟩ := hfi
  have hpl := posF_len s i
  generalize posF i s = ps at *
  unfold argT at h3
  by_cases c2 : pcT l[i].kind = 2
  · rw [if_pos c2] at h3 ⊢
    obtain ⟨h4, h5⟩ := of_decide_eq_true h3
    rw [c2] at h2 ⊢
    obtain _ | ⟨p, _ | ⟨q, ps⟩⟩ := ps
    · simp at hpl; omega
    · simp at hpl; omega
    · simp at h4 h5 ⊢
      exact ⟨h5.symm, h4.symm⟩
  · rw [if_neg c2] at h3 ⊢
    by_cases c1 : pcT l[i].kind = 1
    · rw [if_pos c1] at h3 ⊢
      have h4 := of_decide_eq_true h3
      rw [c1] at h2 ⊢
      obtain _ | ⟨p, ps⟩ := ps
      · simp at hpl; omega
      · simp at h4 ⊢
        exact h4.symm
    · rw [if_neg c1]
      have : pcT l[i].kind = 0 := by
        have : pcT l[i].kind = 0 ∨ pcT l[i].kind = 1 ∨ pcT l[i].kind = 2 := by
          unfold pcT
          split
          · exact .inr (.inr rfl)
          · split
            · exact .inr (.inl rfl)
            · exact .inl rfl
        omega
      rw [this]
      rfl
/-- The first node of what a node is. -/
def lowT (l : List NdN) (i : Nat) : Int := (i : Int) + 1 - (sizesR (asL l)).getD i 0
end Go.Proofs.YtpncomjpmilbkaaDoor

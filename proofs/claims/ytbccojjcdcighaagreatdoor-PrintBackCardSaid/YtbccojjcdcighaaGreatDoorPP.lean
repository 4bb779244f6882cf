/- Texts put together: Ai. -/
import Derived.Test.YtbccojjcdcighaaGreatDoorPK
import Derived.Test.YtbccojjcdcighaaGreatDoorPO
import Derived.Test.YtbccojjcdcighaaGreatDoorPB
import Derived.Outline
import Derived.Deep.DeepCutAuto
namespace Go.Proofs.YtbccojjcdcighaaGreatDoor
open Go.RowKit BS
set_option maxRecDepth 100000 in
set_option maxHeartbeats 8000000 in
theorem node_calls (k c n m : Int) (t : BitVec 256) (w : World) : Calls Tryz.prog 24 #[.agg (ndI k c n m t)] w fun e w' => e = .returned (.bool (nodeF ⟨k, c, n, m, t⟩)) ∧ Below w.heap.size w w' := by
  have b0 := Blk.new w (ndI k c n m t) 45
  have hB : Below w.heap.size w (w.alloc (.cells (ndI k c n m t) 45)) := by go_grown
  have hee0 : ∀ w', (Op.equalIn 10000 43 (setV t) (.agg #[.int .u64 0, .int .u64 0, .int .u64 0, .int .u64 0])).run Tryz.prog w' = .ok (decide (t = 0)) w' := eq_set t 0
  have HEE := Lib.hid hee0
  clear hee0
  have HRT := Lib.hid (rightN_calls n m)
  have HF := Lib.hid (show nodeF ⟨k, c, n, m, t⟩ = if k ≠ 2 ∧ t ≠ 0 then false else if k ≠ 4 ∧ (n ≠ 0 ∨ m ≠ 0) then false else if k = 1 ∨ k = 2 then c == 0 else if k = 3 then c == 1 else if k = 4 then c == 1 && rightN n m else if k = 5 ∨ k = 6 then decide (2 ≤ c) else false from rfl)
  generalize nodeF ⟨k, c, n, m, t⟩ = R at *
  generalize rightN n m = rn at *
  go_enter Tryz.func24, Tryz.ntmps24
  go_upto_region 1 with fail
  have e0 : w.alloc (.cells #[.int .i64 k, .int .i64 c, .int .i64 n, .int .i64 m, .int .u64 (wd t 0), .int .u64 (wd t 1), .int .u64 (wd t 2), .int .u64 (wd t 3)] 45) = w.alloc (.cells (ndI k c n m t) 45) := rfl
  try rw [e0]
  clear e0
  generalize w.alloc (.cells (ndI k c n m t) 45) = w1 at *
  have c0 := b0.cell 0; have c1 := b0.cell 1; have c2 := b0.cell 2; have c3 := b0.cell 3; have c4 := b0.cell 4; have c5 := b0.cell 5; have c6 := b0.cell 6; have c7 := b0.cell 7
  simp only [List.getElem?_toArray, List.getElem?_cons_zero, List.getElem?_cons_succ] at c0 c1 c2 c3 c4 c5 c6 c7
  clear b0
  by_cases hA : k ≠ 2 ∧ t ≠ 0
  · have q2 : (k != 2) = true := by rw [bne_iff_ne]; exact hA.1
    have qt : ∀ w', (Op.equalIn 10000 43 (setV t) (.agg #[.int .u64 0, .int .u64 0, .int .u64 0, .int .u64 0])).run Tryz.prog w' = .ok false w' := fun w' => by rw [HEE.out w', decide_eq_false hA.2]
    have HR := Lib.hid (show R = false by rw [HF.out]; rw [if_pos hA])
    clear HF HRT
    go_wp2_with fail
    go_ret
    exact ⟨by rw [HR.out] <;> rfl, hB⟩
  by_cases hB2 : k ≠ 4 ∧ (n ≠ 0 ∨ m ≠ 0)
  · have q4 : (k != 4) = true := by rw [bne_iff_ne]; exact hB2.1
    have HR := Lib.hid (show R = false by rw [HF.out, if_neg hA, if_pos hB2])
    clear HF HRT
    by_cases hk2 : k = 2
    · have q2 : (k != 2) = false := by rw [hk2]; rfl
      by_cases hn : n = 0
      · have qn : (n != 0) = false := by rw [hn]; rfl
        have qm : (m != 0) = true := by rw [bne_iff_ne]; exact hB2.2.resolve_left (fun h => h hn)
        clear hA hB2 hk2 hn
        go_wp2_with fail
        go_ret
        exact ⟨by rw [HR.out] <;> rfl, hB⟩
      · have qn : (n != 0) = true := by rw [bne_iff_ne]; exact hn
        clear hA hB2 hk2 hn
        go_wp2_with fail
        go_ret
        exact ⟨by rw [HR.out] <;> rfl, hB⟩
    · have q2 : (k != 2) = true := by rw [bne_iff_ne]; exact hk2
      have qt : ∀ w', (Op.equalIn 10000 43 (setV t) (.agg #[.int .u64 0, .int .u64 0, .int .u64 0, .int .u64 0])).run Tryz.prog w' = .ok true w' := fun w' => by rw [HEE.out w', decide_eq_true (Decidable.not_not.1 fun h => hA ⟨hk2, h⟩)]
      by_cases hn : n = 0
      · have qn : (n != 0) = false := by rw [hn]; rfl
        have qm : (m != 0) = true := by rw [bne_iff_ne]; exact hB2.2.resolve_left (fun h => h hn)
        clear hA hB2 hk2 hn
        go_wp2_with fail
        go_ret
        exact ⟨by rw [HR.out] <;> rfl, hB⟩
      · have qn : (n != 0) = true := by rw [bne_iff_ne]; exact hn
        clear hA hB2 hk2 hn
        go_wp2_with fail
        go_ret
        exact ⟨by rw [HR.out] <;> rfl, hB⟩
  have ht : k ≠ 2 → t = 0 := fun h => Decidable.not_not.1 fun h2 => hA ⟨h, h2⟩
  have hn : k ≠ 4 → n = 0 := fun h => Decidable.not_not.1 fun h2 => hB2 ⟨h, .inl h2⟩
  have hm : k ≠ 4 → m = 0 := fun h => Decidable.not_not.1 fun h2 => hB2 ⟨h, .inr h2⟩
  replace HF : Hid (R = if k = 1 ∨ k = 2 then c == 0 else if k = 3 then c == 1 else if k = 4 then c == 1 && rn else if k = 5 ∨ k = 6 then decide (2 ≤ c) else false) := Lib.hid (by rw [HF.out, if_neg hA, if_neg hB2])
  clear hA hB2
  by_cases hk2 : k = 2
  · subst hk2
    have qn : (n != 0) = false := by rw [hn (by decide)]; rfl
    have qm : (m != 0) = false := by rw [hm (by decide)]; rfl
    have HR := Lib.hid (show R = (c == 0) by rw [HF.out]; rfl)
    clear HF HRT ht hn hm
    go_wp2_with fail
    go_ret
    exact ⟨by rw [HR.out] <;> rfl, hB⟩
  have q2 : (k != 2) = true := by rw [bne_iff_ne]; exact hk2
  have q2' : (k == 2) = false := by rw [beq_eq_false_iff_ne]; exact hk2
  have qt : ∀ w', (Op.equalIn 10000 43 (setV t) (.agg #[.int .u64 0, .int .u64 0, .int .u64 0, .int .u64 0])).run Tryz.prog w' = .ok true w' := fun w' => by rw [HEE.out w', decide_eq_true (ht hk2)]
  clear ht
  by_cases hk4 : k = 4
  · subst hk4
    clear hn hm
    cases hc : (c == 1) with
    | true =>
      have HR := Lib.hid (show R = rn by rw [HF.out, hc]; simp)
      clear HF
      go_wp2_with fail
      refine (HRT.out _).mono ?_
      rintro e w2 ⟨rfl, rfl⟩
      clear HRT
      go_wp2_with fail
      go_ret
      exact ⟨by rw [HR.out] <;> rfl, hB⟩
    | false =>
      have HR := Lib.hid (show R = false by rw [HF.out, hc]; simp)
      clear HF HRT
      go_wp2_with fail
      go_ret
      exact ⟨by rw [HR.out] <;> rfl, hB⟩
  have q4 : (k != 4) = true := by rw [bne_iff_ne]; exact hk4
  have q4' : (k == 4) = false := by rw [beq_eq_false_iff_ne]; exact hk4
  have qn : (n != 0) = false := by rw [hn hk4]; rfl
  have qm : (m != 0) = false := by rw [hm hk4]; rfl
  clear hn hm HRT
  by_cases hk1 : k = 1
  · subst hk1
    have HR := Lib.hid (show R = (c == 0) by rw [HF.out]; rfl)
    clear HF
    go_wp2_with fail
    go_ret
    exact ⟨by rw [HR.out] <;> rfl, hB⟩
  have q1' : (k == 1) = false := by rw [beq_eq_false_iff_ne]; exact hk1
  by_cases hk3 : k = 3
  · subst hk3
    have HR := Lib.hid (show R = (c == 1) by rw [HF.out]; rfl)
    clear HF
    go_wp2_with fail
    go_ret
    exact ⟨by rw [HR.out] <;> rfl, hB⟩
  have q3' : (k == 3) = false := by rw [beq_eq_false_iff_ne]; exact hk3
  by_cases hk5 : k = 5
  · subst hk5
    have HR := Lib.hid (show R = decide (2 ≤ c) by rw [HF.out]; rfl)
    clear HF
    go_wp2_with fail
    go_ret
    exact ⟨by rw [HR.out] <;> rfl, hB⟩
  have q5' : (k == 5) = false := by rw [beq_eq_false_iff_ne]; exact hk5
  by_cases hk6 : k = 6
  · subst hk6
    have HR := Lib.hid (show R = decide (2 ≤ c) by rw [HF.out]; rfl)
    clear HF
    go_wp2_with fail
    go_ret
    exact ⟨by rw [HR.out] <;> rfl, hB⟩
  have q6' : (k == 6) = false := by rw [beq_eq_false_iff_ne]; exact hk6
  have HR := Lib.hid (show R = false by rw [HF.out, if_neg (by omega), if_neg hk3, if_neg hk4, if_neg (by omega)])
  clear HF
  go_wp2_with fail
  go_ret
  exact ⟨by rw [HR.out] <;> rfl, hB⟩
theorem kidsR_bound (l : List NdN) (i : Nat) (x : Int) (hx : x ∈ kidsR l i) : 0 ≤ x ∧ x < l.length := by
  unfold kidsR at hx
  by_cases hf : manyF 0 (l.map NdN.kids) = some 1 ∧ 0 ≤ (i : Int) ∧ (i : Int) < (l.length : Int)
  · rw [if_pos hf] at hx
    obtain ⟨y, hy, rfl⟩ := List.mem_map.1 hx
    rw [List.mem_reverse, show (i : Int).toNat = i from rfl] at hy
    have hkl : (ksN l).length = l.length := by simp [ksN]
    have hlt := allKids_lt (ksN l) [] 0 (fun h => absurd rfl h)
    have hal := allKids_len (ksN l) [] 0
    have hi : i < (allKids 0 [] (ksN l)).length := by rw [hal, hkl]; omega
    rw [List.getElem?_eq_getElem hi, Option.getD_some] at hy
    have := hlt _ (List.getElem_mem hi) y hy
    omega
  · rw [if_neg hf] at hx; cases hx
theorem kidsR_len (l : List NdN) (i : Nat) : (kidsR l i).length ≤ l.length := by
  unfold kidsR
  by_cases hf : manyF 0 (l.map NdN.kids) = some 1 ∧ 0 ≤ (i : Int) ∧ (i : Int) < (l.length : Int)
  · rw [if_pos hf, show (i : Int).toNat = i from rfl]
    obtain ⟨hk0, hst⟩ := (formed_iff (l.map NdN.kids)).1 hf.1
    have hst : stackF [] (ksN l) = some [(l.map NdN.kids).length] := hst
    have hkl : (ksN l).length = l.length := by simp [ksN]
    have hi : i < (ksN l).length := by omega
    obtain ⟨s, hs, hks, hsum⟩ := stack_at (ksN l) [] _ hst i hi
    have hpl := len_le_sum s (stackF_pos ((ksN l).take i) [] s (by simp) hs)
    have hsumi : s.sum = i := by simpa using hsum
    rw [allKids_at (ksN l) i hi s hs, Option.getD_some, List.length_map, List.length_reverse, List.length_take, posF_len]
    omega
  · rw [if_neg hf]; exact Nat.zero_le _
def SRi (w0 : World) (g off i x : Nat) (a b : Int) (g2 k : Nat) (W : World) : Prop :=
  (W.cell? ⟨g, off + i * 8, none⟩ = some (.int .i64 a) ∧ W.cell? ⟨g, off + x * 8, none⟩ = some (.int .i64 b) ∧ W.cell? ⟨g2, k, none⟩ = some (.int .i64 x)) ∧ W = w0
theorem okN_split (l : List NdN) (i : Nat) (h : i < l.length) : okN l i = (nodeF l[i] && kidsOkB l i) := by
  unfold okN
  rw [List.getD_eq_getElem?_getD, List.getElem?_eq_getElem h, Option.getD_some]
theorem rightR_no (l : List NdN) (i : Nat) (h : i < l.length) (h2 : okN l i = false) : rightR l = false := by
  unfold rightR
  have : (List.range l.length).all (okN l) = false := by
    rw [List.all_eq_false]
    exact ⟨i, List.mem_range.2 h, by rw [h2]; decide⟩
  rw [this]; simp
set_option maxRecDepth 100000 in
set_option maxHeartbeats 16000000 in
theorem rRight_calls (l : List NdN) (hl : l.length ≤ 1000000) (a : Option Addr) (cap : Nat) (w : World) (h : NodesAt l a w) :
    Calls Tryz.prog 14 #[.slice a l.length cap] w fun e w' => e = .returned (.bool (rightR l)) ∧ Below w.heap.size w w' := by
  have HFO := Lib.hid (rFormed_calls l hl a cap w h)
  have HN := Lib.hid h
  by_cases hf : manyF 0 (l.map NdN.kids) = some 1
  · rw [decide_eq_true hf] at HFO
    have HKC := Lib.hid (fun i W (hW : NodesAt l a W) => rKids_calls l hl i a cap W hW)
    have HND := Lib.hid node_calls
    have HKI := Lib.hid kid_calls
    have HKB := Lib.hid (kidsR_bound l)
    have HOK := Lib.hid (okN_split l)
    have HNO := Lib.hid (rightR_no l)
    have HKD := Lib.hid (kdN_get l)
    have HGS := Lib.hid (grpN_step l)
    have HGL := Lib.hid (grpN_le l)
    have HR := Lib.hid (show rightR l = ((List.range l.length).all (okN l) && decide (grpN l l.length ≤ 9)) by unfold rightR; rw [decide_eq_true hf]; rfl)
    have HKO := Lib.hid (show ∀ i, kidsOkB l i = (kidsR l i).all fun x => kidF (kdN l i) (kdN l x.toNat) from fun _ => rfl)
    clear h hf
    go_enter Tryz.func14, Tryz.ntmps14
    go_wp2_with fail
    refine HFO.out.mono ?_
    rintro e w1 ⟨rfl, rfl⟩
    go_wp2_with fail
    go_loopw [3, 4] (fun v x wr => ∃ i : Nat, i ≤ l.length ∧ x = .int .i64 i ∧ v = .int .i64 (grpN l i : Nat) ∧ (∀ j, j < i → okN l j = true) ∧ Below w.heap.size w wr) (fun _ x _ => l.length - (intOf x).toNat)
    case atStart => exact ⟨0, Nat.zero_le _, rfl, rfl, fun j hj => by omega, Below.refl _ _⟩
    case round =>
      obtain ⟨i, hi, rfl, rfl, hok, hB⟩ := hrel
      have HB := Lib.hid hB
      have HOKS := Lib.hid hok
      clear hB hok
      by_cases hlt : i < l.length
      · have hd : decide ((i : Int) < (l.length : Int)) = true := by rw [decide_eq_true_iff]; omega
        have hd2 : decide (i < l.length) = true := by rw [decide_eq_true_iff]; omega
        have hne : l ≠ [] := by rintro rfl; simp at hlt
        obtain ⟨g, off, rfl, hg, hc⟩ := HN.out hne
        have HC := Lib.hid hc
        have hcell := fun (W : World) (hW : Below w.heap.size w W) (j : Nat) (hj : j < 8) => (hW.cell (p := ⟨g, off + i * 8 + j, none⟩) hg).trans (hc i hlt j hj)
        have HCE := Lib.hid hcell
        have hki := HKD.out i hlt
        have hoki := HOK.out i hlt
        have hgl := HGL.out i
        have HND1 := HND.out l[i].kind l[i].kids l[i].n l[i].m l[i].set
        have hnf : nodeF ⟨l[i].kind, l[i].kids, l[i].n, l[i].m, l[i].set⟩ = nodeF l[i] := rfl
        rw [hnf] at HND1
        have HNDD := Lib.hid HND1
        have d0 := HCE.out wr HB.out 0 (by decide); have d1 := HCE.out wr HB.out 1 (by decide); have d2 := HCE.out wr HB.out 2 (by decide); have d3 := HCE.out wr HB.out 3 (by decide); have d4 := HCE.out wr HB.out 4 (by decide); have d5 := HCE.out wr HB.out 5 (by decide); have d6 := HCE.out wr HB.out 6 (by decide); have d7 := HCE.out wr HB.out 7 (by decide)
        simp only [ndA, List.getElem?_toArray, List.getElem?_cons_zero, List.getElem?_cons_succ, Nat.add_zero] at d0 d1 d2 d3 d4 d5 d6 d7
        generalize l[i].kind = k at *
        generalize l[i].kids = kc at *
        generalize l[i].n = kn at *
        generalize l[i].m = km at *
        generalize l[i].set = kt at *
        generalize nodeF l[i] = nf at *
        have HKI2 := Lib.hid hki
        have HOKI := Lib.hid hoki
        have xg : IntKind.i64.wrap ((grpN l i : Nat) + 1 : Int) = ((grpN l i : Nat) : Int) + 1 := IntWalk.i64_in _ (by omega)
        clear hc hcell hki hoki HND1 hnf hne
        go_wp2_with fail
        refine (HNDD.out _).mono ?_
        rintro e w2 ⟨rfl, hb⟩
        replace HB := Lib.hid (HB.out.trans (hb.mono HB.out.size))
        clear hb HNDD d0 d1 d2 d3 d4 d5 d6 d7
        cases nf with
        | false =>
          have HRR := Lib.hid (HNO.out i hlt (by rw [HOKI.out]; rfl))
          go_wp2_with fail
          go_ret
          exact ⟨by rw [HRR.out] <;> rfl, HB.out⟩
        | true =>
          have d0 := HCE.out w2 HB.out 0 (by decide)
          have HKK : Hid (kdN l i = l[i].kind) := Lib.hid (HKD.out i hlt)
          have e0 : (ndA l[i])[0]? = some (.int .i64 (kdN l i)) := by rw [HKK.out]; rfl
          rw [e0, Nat.add_zero] at d0
          clear e0
          have hgs := HGS.out i
          generalize hG : grpN l i = G at *
          generalize hKI : kdN l i = K at *
          go_upto_if 27 with fail
          go_cut [3] (fun v wx => v = .int .i64 (grpN l (i + 1) : Nat) ∧ w2 = wx)
          case first =>
            by_cases h3 : K = 3
            · have q : (K == 3) = true := by rw [h3]; rfl
              rw [q, if_pos rfl] at hgs
              have HGG := Lib.hid hgs
              clear hgs h3 hG hgl
              go_wp2_with fail
              go_meet
              exact ⟨by rw [HGG.out] <;> rfl, rfl⟩
            · have q : (K == 3) = false := by rw [beq_eq_false_iff_ne]; exact h3
              rw [q] at hgs
              have HGG := Lib.hid hgs
              clear hgs h3 hG hgl
              go_wp2_with fail
              go_meet
              exact ⟨by rw [HGG.out] <;> rfl, rfl⟩
          case rest =>
          obtain ⟨rfl, rfl⟩ := hcut
          clear hgs hG xg hgl
          generalize hG2 : grpN l (i + 1) = G2 at *
          have HG2 := Lib.hid hG2
          clear hG2 d0
          have HNW := Lib.hid (fun (W : World) (hW : Below w.heap.size w W) => HN.out.below hW)
          go_wp2_with fail
          refine (HKC.out i _ (HNW.out _ HB.out)).mono ?_
          rintro e w3 ⟨b, cc, rfl, hia, hb⟩
          replace HB := Lib.hid (HB.out.trans (hb.mono HB.out.size))
          have HIA := Lib.hid hia
          clear hb hia
          have HKB1 := Lib.hid (HKB.out i)
          have hkrl := kidsR_len l i
          have HKIE := Lib.hid hKI
          have HKO1 := Lib.hid (HKO.out i)
          generalize hKR : kidsR l i = kr at *
          clear hKR
          go_wp2_with fail
          go_loopw [6] (fun x wr => ∃ k : Nat, k ≤ kr.length ∧ x = .int .i64 k ∧ (∀ j (h : j < kr.length), j < k → kidF K (kdN l (kr[j]).toNat) = true) ∧ Below w3.heap.size w3 wr) (fun x _ => kr.length - (intOf x).toNat)
          case atStart => exact ⟨0, Nat.zero_le _, rfl, fun j _ hj => by omega, Below.refl _ _⟩
          case round =>
            obtain ⟨k, hk, rfl, hkk, hB3⟩ := hrel
            have HB3 := Lib.hid hB3
            have HKS := Lib.hid hkk
            clear hB3 hkk
            by_cases hkl : k < kr.length
            · have hdk : decide ((k : Int) < (kr.length : Int)) = true := by rw [decide_eq_true_iff]; omega
              have hdk2 : decide (k < kr.length) = true := by rw [decide_eq_true_iff]; omega
              have hnek : kr ≠ [] := by rintro rfl; simp at hkl
              have xk1 : IntKind.i64.wrap ((k : Int) + 1) = (k : Int) + 1 := IntWalk.i64_in _ (by omega)
              obtain ⟨g2, rfl, hg2, hc2⟩ := HIA.out hnek
              have hbx := HKB1.out kr[k] (List.getElem_mem hkl)
              have cx := (HB3.out.cell (p := ⟨g2, k, none⟩) hg2).trans (hc2 k hkl)
              obtain ⟨x, hx⟩ := Int.eq_ofNat_of_zero_le hbx.1
              have hkx := HKD.out x (by omega)
              have hxl : x < l.length := by omega
              have hdx : decide (x < l.length) = true := by rw [decide_eq_true_iff]; omega
              have hBW := HB.out.trans (HB3.out.mono HB.out.size)
              have ci := HCE.out _ hBW 0 (by decide)
              have cxk := (hBW.cell (p := ⟨g, off + x * 8, none⟩) hg).trans (HC.out x hxl 0 (by decide))
              have e0 : (ndA l[i])[0]? = some (.int .i64 K) := by rw [HKK.out]; rfl
              have e1 : (ndA l[x])[0]? = some (.int .i64 (kdN l x)) := by rw [hkx]; rfl
              rw [e0, Nat.add_zero] at ci
              rw [e1] at cxk
              rw [hx] at cx
              have HXX := Lib.hid (show kr[k] = (x : Int) from hx)
              generalize hKX : kdN l x = X at *
              have HKX := Lib.hid hKX
              have HKID := HKI.out K X
              generalize hr : kidF K X = r at *
              have HRR := Lib.hid hr
              have h0 : SRi wr.drew g off i x K X g2 k wr.drew := ⟨⟨ci, cxk, cx⟩, rfl⟩
              replace HB3 : Hid (Below w3.heap.size w3 wr.drew) := Lib.hid HB3.out.drew
              clear hnek hc2 hbx cx hx hkx hBW ci cxk e0 e1 hKX hr
              go_upto_region 15 with fail
              refine region_steps (S := SRi wr.drew g off i x K X g2 k) (by kernel_rfl) h0 ?_
              clear h0
              simp only [List.size_toArray, List.length_cons, List.length_nil, Nat.reduceAdd, Array.replicate_succ, Array.replicate_zero, List.push_toArray, List.nil_append, List.cons_append]
              refine AnyS.stepE (i := 0) (d := some 39) rfl rfl (by kernel_rfl) (by kernel_rfl) (by kernel_rfl) ?_
              apply Exists.intro
              apply And.intro
              · apply StepsIf.yield
                · kernel_rfl
                intro w' hS
                clear hS; go_simp
                rfl
              intro a' ha'
              simp only [Act.put, List.setIfInBounds_toArray, List.set_cons_zero, List.set_cons_succ] at ha'
              subst ha'
              refine AnyS.stepE (i := 1) (d := some 40) rfl rfl (by kernel_rfl) (by kernel_rfl) (by kernel_rfl) ?_
              apply Exists.intro
              apply And.intro
              · apply StepsIf.yield
                · kernel_rfl
                intro w' hS
                clear hS; go_simp
                rfl
              intro a' ha'
              simp only [Act.put, List.setIfInBounds_toArray, List.set_cons_zero, List.set_cons_succ] at ha'
              subst ha'
              refine AnyS.next (i := 2) (d := some 41) (v := .pointer (some ⟨g, off + i * 8, none⟩)) rfl rfl (by kernel_rfl) (by kernel_rfl) (by kernel_rfl) (StepsIf.yield (by kernel_rfl) (fun w' hS => by clear hS; go_simp)) ?_
              intro a' ha'
              simp only [Act.put, List.setIfInBounds_toArray, List.set_cons_zero, List.set_cons_succ] at ha'
              subst ha'
              refine AnyS.next (i := 3) (d := some 42) (v := .pointer (some ⟨g, off + i * 8, none⟩)) rfl rfl (by kernel_rfl) (by kernel_rfl) (by kernel_rfl) (StepsIf.yield (by kernel_rfl) (fun w' hS => by clear hS; go_simp)) ?_
              intro a' ha'
              simp only [Act.put, List.setIfInBounds_toArray, List.set_cons_zero, List.set_cons_succ] at ha'
              subst ha'
              refine AnyS.next (i := 4) (d := some 43) (v := .int .i64 K) rfl rfl (by kernel_rfl) (by kernel_rfl) (by kernel_rfl) (StepsIf.yield (by kernel_rfl) (fun w' hS => by have s := hS.1.1; clear hS; go_simp)) ?_
              intro a' ha'
              simp only [Act.put, List.setIfInBounds_toArray, List.set_cons_zero, List.set_cons_succ] at ha'
              subst ha'
              refine AnyS.stepE (i := 5) (d := some 44) rfl rfl (by kernel_rfl) (by kernel_rfl) (by kernel_rfl) ?_
              apply Exists.intro
              apply And.intro
              · apply StepsIf.yield
                · kernel_rfl
                intro w' hS
                clear hS; go_simp
                rfl
              intro a' ha'
              simp only [Act.put, List.setIfInBounds_toArray, List.set_cons_zero, List.set_cons_succ] at ha'
              subst ha'
              refine AnyS.stepE (i := 6) (d := some 45) rfl rfl (by kernel_rfl) (by kernel_rfl) (by kernel_rfl) ?_
              apply Exists.intro
              apply And.intro
              · apply StepsIf.yield
                · kernel_rfl
                intro w' hS
                clear hS; go_simp
                rfl
              intro a' ha'
              simp only [Act.put, List.setIfInBounds_toArray, List.set_cons_zero, List.set_cons_succ] at ha'
              subst ha'
              refine AnyS.stepE (i := 7) (d := some 46) rfl rfl (by kernel_rfl) (by kernel_rfl) (by kernel_rfl) ?_
              apply Exists.intro
              apply And.intro
              · apply StepsIf.yield
                · kernel_rfl
                intro w' hS
                clear hS; go_simp
                rfl
              intro a' ha'
              simp only [Act.put, List.setIfInBounds_toArray, List.set_cons_zero, List.set_cons_succ] at ha'
              subst ha'
              refine AnyS.next (i := 8) (d := some 47) (v := .pointer (some ⟨g2, k, none⟩)) rfl rfl (by kernel_rfl) (by kernel_rfl) (by kernel_rfl) (StepsIf.yield (by kernel_rfl) (fun w' hS => by clear hS; go_simp)) ?_
              intro a' ha'
              simp only [Act.put, List.setIfInBounds_toArray, List.set_cons_zero, List.set_cons_succ] at ha'
              subst ha'
              refine AnyS.next (i := 9) (d := some 48) (v := .int .i64 x) rfl rfl (by kernel_rfl) (by kernel_rfl) (by kernel_rfl) (StepsIf.yield (by kernel_rfl) (fun w' hS => by have s := hS.1.2.2; clear hS; go_simp)) ?_
              intro a' ha'
              simp only [Act.put, List.setIfInBounds_toArray, List.set_cons_zero, List.set_cons_succ] at ha'
              subst ha'
              refine AnyS.next (i := 10) (d := some 49) (v := .pointer (some ⟨g, off + x * 8, none⟩)) rfl rfl (by kernel_rfl) (by kernel_rfl) (by kernel_rfl) (StepsIf.yield (by kernel_rfl) (fun w' hS => by clear hS; go_simp)) ?_
              intro a' ha'
              simp only [Act.put, List.setIfInBounds_toArray, List.set_cons_zero, List.set_cons_succ] at ha'
              subst ha'
              refine AnyS.next (i := 11) (d := some 50) (v := .pointer (some ⟨g, off + x * 8, none⟩)) rfl rfl (by kernel_rfl) (by kernel_rfl) (by kernel_rfl) (StepsIf.yield (by kernel_rfl) (fun w' hS => by clear hS; go_simp)) ?_
              intro a' ha'
              simp only [Act.put, List.setIfInBounds_toArray, List.set_cons_zero, List.set_cons_succ] at ha'
              subst ha'
              refine AnyS.next (i := 12) (d := some 51) (v := .int .i64 X) rfl rfl (by kernel_rfl) (by kernel_rfl) (by kernel_rfl) (StepsIf.yield (by kernel_rfl) (fun w' hS => by have s := hS.1.2.1; clear hS; go_simp)) ?_
              intro a' ha'
              simp only [Act.put, List.setIfInBounds_toArray, List.set_cons_zero, List.set_cons_succ] at ha'
              subst ha'
              refine AnyS.next (i := 13) (d := some 52) (v := .bool r) rfl rfl (by kernel_rfl) (by kernel_rfl) (by kernel_rfl) (StepsIf.call (by kernel_rfl) (fun w' hS => by clear hS; go_simp) (fun w' hS => (HKID w').mono fun e w'' h => ⟨h.1, h.2 ▸ hS⟩)) ?_
              intro a' ha'
              simp only [Act.put, List.setIfInBounds_toArray, List.set_cons_zero, List.set_cons_succ] at ha'
              subst ha'
              refine AnyS.next (i := 14) (d := some 53) (v := .bool (!r)) rfl rfl (by kernel_rfl) (by kernel_rfl) (by kernel_rfl) (StepsIf.yield (by kernel_rfl) (fun w' hS => by clear hS; go_simp)) ?_
              intro a' ha'
              simp only [Act.put, List.setIfInBounds_toArray, List.set_cons_zero, List.set_cons_succ] at ha'
              subst ha'
              refine AnyS.done (by kernel_rfl) (fun w6 hS => ?_) _
              obtain ⟨_, rfl⟩ := hS
              clear HKID
              generalize wr.drew = w7 at *
              cases r with
              | true =>
                go_wp2_with fail
                go_roundw
                case rel =>
                  refine ⟨k + 1, by omega, by simp, fun j hj hjk => ?_, HB3.out⟩
                  by_cases hje : j = k
                  · subst hje
                    rw [HXX.out, show ((x : Int)).toNat = x from rfl, HKX.out]
                    exact HRR.out
                  · exact HKS.out j hj (by omega)
                case measure => simp [intOf]; omega
              | false =>
                have HRES := Lib.hid (HNO.out i hlt (by
                  rw [HOKI.out, HKO1.out, Bool.true_and, List.all_eq_false]
                  refine ⟨kr[k], List.getElem_mem hkl, ?_⟩
                  rw [HXX.out, show ((x : Int)).toNat = x from rfl, HKX.out, HKIE.out, HRR.out]
                  decide))
                go_wp2_with fail
                go_ret
                exact ⟨by rw [HRES.out] <;> rfl, HB.out.trans (HB3.out.mono HB.out.size)⟩
            · obtain rfl : k = kr.length := by omega
              have hdk : decide ((kr.length : Int) < (kr.length : Int)) = false := by simp
              have hdk2 : decide (kr.length < kr.length) = false := by simp
              have hall : kidsOkB l i = true := by
                rw [HKO1.out, List.all_eq_true]
                intro y hy
                obtain ⟨j, hj, rfl⟩ := List.getElem_of_mem hy
                rw [HKIE.out]
                exact HKS.out j hj hj
              have HALL := Lib.hid hall
              clear hall
              have xi : IntKind.i64.wrap ((i : Int) + 1) = (i : Int) + 1 := IntWalk.i64_in _ (by omega)
              go_wp2_with fail
              go_roundw
              case rel =>
                refine ⟨i + 1, by omega, by simp, by rw [HG2.out], fun j hj => ?_, HB.out.trans (HB3.out.mono HB.out.size)⟩
                by_cases hji : j = i
                · subst hji
                  rw [HOKI.out, HALL.out]; rfl
                · exact HOKS.out j (by omega)
              case measure => simp [intOf]; omega
      · obtain rfl : i = l.length := by omega
        have hd : decide ((l.length : Int) < (l.length : Int)) = false := by simp
        have hd2 : decide (l.length < l.length) = false := by simp
        have hall : (List.range l.length).all (okN l) = true := by
          rw [List.all_eq_true]
          exact fun x hx => HOKS.out x (List.mem_range.1 hx)
        have HRR := Lib.hid (show rightR l = decide (grpN l l.length ≤ 9) by rw [HR.out, hall]; rfl)
        clear hall
        have q9 : decide (((grpN l l.length : Nat) : Int) ≤ 9) = decide (grpN l l.length ≤ 9) := by rw [Bool.eq_iff_iff, decide_eq_true_iff, decide_eq_true_iff]; omega
        generalize grpN l l.length = G at *
        go_wp2_with fail
        go_ret
        exact ⟨by rw [HRR.out] <;> simp, HB.out⟩
  · rw [decide_eq_false hf] at HFO
    have HRR := Lib.hid (show rightR l = false by unfold rightR; rw [decide_eq_false hf]; rfl)
    go_enter Tryz.func14, Tryz.ntmps14
    go_wp2_with fail
    refine HFO.out.mono ?_
    rintro e w1 ⟨rfl, rfl⟩
    go_wp2_with fail
    go_ret
    exact ⟨by rw [HRR.out] <;> rfl, Below.refl _ _⟩
end Go.Proofs.YtbccojjcdcighaaGreatDoor

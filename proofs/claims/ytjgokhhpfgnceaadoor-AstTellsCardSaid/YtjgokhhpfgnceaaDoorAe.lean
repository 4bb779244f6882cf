/- The document's trees: Kids. -/
import Derived.Test.YtjgokhhpfgnceaaDoorAd
import Derived.Test.YtjgokhhpfgnceaaDoorAw
namespace Go.Proofs.YtjgokhhpfgnceaaDoor
open Go.RowKit BS

theorem allKids_at (ks : List Nat) (i : Nat) (hi : i < ks.length) (s : List Nat) (hs : stackF [] (ks.take i) = some s) : (allKids 0 [] ks)[i]? = some ((posF i s).take ks[i]) := by
  have e : ks = ks.take i ++ (ks[i] :: ks.drop (i + 1)) := by rw [← List.drop_eq_getElem_cons hi, List.take_append_drop]
  have hl : (allKids 0 [] (ks.take i)).length = i := by rw [allKids_len, List.length_take]; omega
  have ea : allKids 0 [] ks = allKids 0 [] (ks.take i) ++ (posF i s).take ks[i] :: allKids (i + 1) (stepF s ks[i]) (ks.drop (i + 1)) := by
    conv => lhs; rw [e]
    rw [allKids_append _ _ _ _ _ hs, List.length_take, show 0 + min i ks.length = i by omega, allKids]
  rw [ea, List.getElem?_append_right (by omega), hl, Nat.sub_self]
  rfl
/-- The places of a node's kids, from the left. -/
def kidsR (l : List NdN) (i : Int) : List Int := if manyF 0 (l.map NdN.kids) = some 1 ∧ 0 ≤ i ∧ i < (l.length : Int) then ((((allKids 0 [] (ksN l))[i.toNat]?).getD []).reverse).map (fun x : Nat => (x : Int)) else []
set_option maxRecDepth 100000 in
set_option maxHeartbeats 8000000 in
theorem rKids_calls (l : List NdN) (hl : l.length ≤ 1000000) (i0 : Int) (a : Option Addr) (cap : Nat) (w : World) (h : NodesAt l a w) :
    Calls Tryd.prog 18 #[.slice a l.length cap, .int .i64 i0] w fun e w' => ∃ b c, e = .returned (.slice b (kidsR l i0).length c) ∧ IntsAt (kidsR l i0) b w' ∧ Below w.heap.size w w' := by
  have HS := Lib.hid (rSizes_calls l hl a cap w h)
  have HN := Lib.hid h
  have hsr : (sizesR l).length = if manyF 0 (l.map NdN.kids) = some 1 then l.length else 0 := by
    unfold sizesR
    by_cases hf : manyF 0 (l.map NdN.kids) = some 1
    · rw [if_pos hf, if_pos hf, List.length_map, sizesF_len]; simp [ksN]
    · rw [if_neg hf, if_neg hf]; rfl
  clear h
  by_cases hin : manyF 0 (l.map NdN.kids) = some 1 ∧ 0 ≤ i0 ∧ i0 < (l.length : Int)
  · obtain ⟨hf, hi0, hi1⟩ := hin
    obtain ⟨i, rfl⟩ : ∃ i : Nat, i0 = i := ⟨i0.toNat, by omega⟩
    have hlt : i < l.length := by omega
    rw [if_pos hf] at hsr
    obtain ⟨hk0, hst⟩ := (formed_iff (l.map NdN.kids)).1 hf
    have hst : stackF [] (ksN l) = some [(l.map NdN.kids).length] := hst
    have hkl : (ksN l).length = l.length := by simp [ksN]
    have hlk : i < (ksN l).length := by rw [hkl]; exact hlt
    have hne : l ≠ [] := by rintro rfl; simp at hlt
    obtain ⟨g, off, rfl, hg, hc⟩ := HN.out hne
    obtain ⟨s, hs, hks, hsum⟩ := stack_at (ksN l) [] _ hst i hlk
    obtain ⟨hr, ht, _⟩ := roots_at (ksN l) i hlk s hs
    rw [← ht] at hr
    have hpl := len_le_sum s (stackF_pos ((ksN l).take i) [] s (by simp) hs)
    have hkk : (l[i].kids : Int) = ((ksN l)[i] : Nat) := by
      have h0 := hk0 l[i].kids (List.mem_map_of_mem (List.getElem_mem hlt))
      simp only [ksN, List.getElem_map]
      omega
    have hR : sizesR l = (sizesF [] (ksN l)).map (fun x : Nat => (x : Int)) := if_pos hf
    have hsl : (sizesF [] (ksN l)).length = l.length := by rw [sizesF_len, hkl]
    have hkid : kidsR l i = (((posF i s).take (ksN l)[i]).reverse).map (fun x : Nat => (x : Int)) := by
      unfold kidsR
      rw [if_pos ⟨hf, hi0, hi1⟩, show (i : Int).toNat = i from rfl, allKids_at (ksN l) i hlk s hs]
      rfl
    have htl : ((sizesF [] (ksN l)).take i).length = i := by rw [List.length_take]; omega
    generalize hK : (ksN l)[i] = K at *
    generalize sizesF [] (ksN l) = sz at *
    have hsumi : s.sum = i := by simpa using hsum
    have hPl : ((posF i s).take K).length = K := by rw [List.length_take, posF_len]; omega
    have hc1 := hc i hlt 1 (by decide)
    have c0 : w.cell? ⟨g, off + i * 8 + 1, none⟩ = some (.int .i64 (K : Int)) := by rw [← hkk]; exact hc1
    have HK := Lib.hid hkid
    have HRT := Lib.hid hr
    have HR := Lib.hid hR
    have HPL := Lib.hid hPl
    have HC0 := Lib.hid c0
    clear hkid hr hR hPl hc1 c0 hk0 hst hs ht hkk hsum hc HN hf hne hlk hkl hK
    have hmk := fun W => run_make_row' (P := Tryd.prog) 26 3 (.int .i64 0) 8 Tryd.underlying26 (by kernel_rfl) rfl .i64 .i64 K (by omega) (by omega) W
    have hmz : (madeCells #[Value.int .i64 0] K).size = K := by simp [madeCells]
    have q0 : decide ((i : Int) < 0) = false := by rw [decide_eq_false_iff_not]; omega
    have q1 : decide (((sizesR l).length : Int) ≤ (i : Int)) = false := by rw [decide_eq_false_iff_not]; omega
    have q1n : decide ((sizesR l).length ≤ i) = false := by rw [decide_eq_false_iff_not]; omega
    have xi : IntKind.i64.wrap ((i : Int) - 1) = (i : Int) - 1 := IntWalk.i64_in _ (by omega)
    have xK : IntKind.i64.wrap ((K : Int) - 1) = (K : Int) - 1 := IntWalk.i64_in _ (by omega)
    generalize madeCells #[Value.int .i64 0] K = vs0 at *
    have HSR := Lib.hid hsr
    clear hsr
    go_enter Tryd.func18, Tryd.ntmps18
    go_wp2_with fail
    refine HS.out.mono ?_
    rintro e w1 ⟨b, c, rfl, hz, hb⟩
    obtain ⟨g2, rfl, hg2, hz⟩ := hz (fun h => by have := HSR.out; rw [h] at this; simp at this; omega)
    have c1 := (hb.cell (p := ⟨g, off + i * 8 + 1, none⟩) hg).trans HC0.out
    have hBn := Blk.new w1 vs0 3
    have hB0 : Below w1.heap.size w1 (w1.alloc (.cells vs0 3)) := (Below.refl _ _).alloc (Nat.le_refl _) _
    have HZ := Lib.hid hz
    have HB1 := Lib.hid hb
    clear hz hb HS
    go_wp2_with fail
    generalize hw2 : w1.alloc (.cells vs0 3) = w2 at *
    clear hmk hw2 c1
    go_loopw [7, 8] (fun va vk wr => ∃ j : Nat, j ≤ K ∧ va = .int .i64 ((i : Int) - 1 - ((s.take j).sum : Nat)) ∧ vk = .int .i64 ((K : Int) - 1 - (j : Int)) ∧ (∃ vs : Array Value, vs.size = K ∧ (∀ t, t < j → vs[K - 1 - t]? = some (.int .i64 ((i - (s.take t).sum - 1 : Nat) : Int))) ∧ Blk wr w1.heap.size vs 3) ∧ Below w1.heap.size w1 wr) (fun _ vk _ => (intOf vk + 1).toNat)
    case atStart => exact ⟨0, Nat.zero_le _, by simp, by simp, ⟨vs0, hmz, fun t ht => by omega, hBn⟩, hB0⟩
    case round =>
      clear hBn hB0 hmz
      obtain ⟨j, hj, rfl, rfl, ⟨vs, hvs, hno, hb⟩, hB⟩ := hrel
      by_cases hjl : j < K
      · obtain ⟨r1, r2⟩ := HRT.out j (by omega)
        rw [htl] at r1 r2
        have hts := take_sum s j (by omega)
        have hle2 := take_sum_le s (j + 1)
        generalize hS : (s.take j).sum = S at *
        generalize hS1 : (s.take (j + 1)).sum = S1 at *
        generalize s[j] = z at *
        have hpz : i - 1 - S < sz.length := by omega
        have hz : sz[i - 1 - S] = z := by
          rw [List.getElem?_take, if_pos (by omega), List.getElem?_eq_getElem hpz] at r2
          exact Option.some.inj r2
        have hps : i - 1 - S < (sizesR l).length := by have := HSR.out; omega
        have cz := (hB.cell (p := ⟨g2, i - 1 - S, none⟩) hg2).trans (HZ.out (i - 1 - S) hps)
        have ez : (sizesR l)[i - 1 - S] = (z : Int) := by simp only [HR.out, List.getElem_map, hz]
        rw [ez] at cz
        obtain ⟨old, hold⟩ : ∃ old, vs[K - 1 - j]? = some old := ⟨vs[K - 1 - j]'(by omega), by simp [show K - 1 - j < vs.size by omega]⟩
        have hci := (hb.cell (K - 1 - j)).trans hold
        have hfi := hb.frozen (K - 1 - j)
        have hat : (i : Int) - 1 - (S : Int) = ((i - 1 - S : Nat) : Int) := by omega
        have hkt : (K : Int) - 1 - (j : Int) = ((K - 1 - j : Nat) : Int) := by omega
        have cz2 : ((wr.setCell ⟨w1.heap.size, K - 1 - j, none⟩ (.int .i64 ((i - 1 - S : Nat) : Int)))).cell? ⟨g2, i - 1 - S, none⟩ = some (.int .i64 (z : Int)) := (World.cell?_of_block (w := wr) (a := ⟨g2, i - 1 - S, none⟩) (Below.heap_setCell wr ⟨w1.heap.size, K - 1 - j, none⟩ _ g2 (Nat.ne_of_lt hg2))).trans cz
        have HTS := Lib.hid hts
        have HLE2 := Lib.hid hle2
        have HAT := Lib.hid hat
        have HKT := Lib.hid hkt
        have HS1 := Lib.hid hS1
        have HSS := Lib.hid hS
        have HNO := Lib.hid hno
        have HBK := Lib.hid hb
        have HB := Lib.hid hB
        have hpn : i - 1 - S < l.length := by omega
        have hrl : (sizesR l).length = l.length := HSR.out
        have hzb : S + z ≤ i := by omega
        rw [hat, hkt]
        clear hts hle2 hat hkt hS hS1 r1 r2 hz ez hold hno hb hB hps hpz cz
        generalize hP : i - 1 - S = p at *
        have HP := Lib.hid hP
        clear hP
        generalize hQ : K - 1 - j = qk at *
        have hqK : qk < K := by omega
        have HQ := Lib.hid hQ
        clear hQ
        have xz : IntKind.i64.wrap ((p : Int) - (z : Int)) = (p : Int) - (z : Int) := IntWalk.i64_in _ (by omega)
        have xq : IntKind.i64.wrap ((qk : Int) - 1) = (qk : Int) - 1 := IntWalk.i64_in _ (by omega)
        have hq0 : decide ((0 : Int) ≤ (qk : Int)) = true := by rw [decide_eq_true_iff]; omega
        have XZ := Lib.hid xz
        have XQ := Lib.hid xq
        go_wp2_with fail
        go_roundw
        case rel =>
          have e1 := HTS.out
          have e2 := HAT.out
          have e3 := HS1.out
          have e4 := XZ.out
          have e5 := XQ.out
          have e6 := HKT.out
          have e7 := HQ.out
          have e8 := HP.out
          refine ⟨j + 1, by omega, by rw [e3, e1]; congr 1; omega, by congr 1; omega, ⟨vs.setIfInBounds qk (.int .i64 (p : Int)), by simp [hvs], fun t ht => ?_, HBK.out.set qk _⟩, below_set HB.out (Nat.le_refl _) qk _⟩
          by_cases htj : t = j
          · subst htj
            rw [e7, HSS.out]
            have : i - S - 1 = p := by omega
            rw [this]
            simp [hvs, hqK]
          · rw [Array.getElem?_setIfInBounds_ne (by omega)]
            exact HNO.out t (by omega)
        case measure => simp [intOf] <;> omega
      · obtain rfl : j = K := by omega
        have hq0 : decide ((0 : Int) ≤ (j : Int) - 1 - (j : Int)) = false := by rw [decide_eq_false_iff_not]; omega
        have HB := Lib.hid hB
        have HBK := Lib.hid hb
        have HNO := Lib.hid hno
        clear hB hb hno
        go_wp2_with fail
        go_ret
        have hkl : (kidsR l i).length = j := by rw [HK.out, List.length_map, List.length_reverse, HPL.out]
        refine ⟨some ⟨w1.heap.size, 0, none⟩, j, by rw [hkl] <;> rfl, fun _ => ⟨w1.heap.size, rfl, HBK.out.lt, fun x hx => ?_⟩, HB1.out.trans (HB.out.mono HB1.out.size)⟩
        rw [hkl] at hx
        have h1 := (HBK.out.cell (j - 1 - (j - 1 - x))).trans (HNO.out (j - 1 - x) (by omega))
        rw [show j - 1 - (j - 1 - x) = x by omega] at h1
        rw [h1]
        have hlen := HPL.out
        have hg' : (kidsR l i)[x] = ((((posF i s).take j)[j - 1 - x]'(by omega) : Nat) : Int) := by
          simp only [HK.out, List.getElem_map, List.getElem_reverse, hlen]
        rw [hg', List.getElem_take, posF_get]
  · have hk : kidsR l i0 = [] := if_neg hin
    rw [hk]
    have hbad : i0 < 0 ∨ ((sizesR l).length : Int) ≤ i0 := by
      rw [hsr]
      by_cases hf : manyF 0 (l.map NdN.kids) = some 1
      · rw [if_pos hf]
        by_cases h0 : i0 < 0
        · exact .inl h0
        · exact .inr (Int.not_lt.1 fun h => hin ⟨hf, by omega, h⟩)
      · rw [if_neg hf]
        by_cases h0 : i0 < 0
        · exact .inl h0
        · exact .inr (by show (0 : Int) ≤ i0; omega)
    generalize sizesR l = z at *
    clear hk hin hsr
    by_cases h0 : i0 < 0
    · have q0 : decide (i0 < 0) = true := decide_eq_true h0
      clear h0 hbad
      go_enter Tryd.func18, Tryd.ntmps18
      go_wp2_with fail
      refine HS.out.mono ?_
      rintro e w1 ⟨b, c, rfl, _, hb⟩
      go_wp2_with fail
      go_ret
      exact ⟨none, 0, rfl, fun h => absurd rfl h, hb⟩
    · have q0 : decide (i0 < 0) = false := decide_eq_false h0
      have q1 : decide ((z.length : Int) ≤ i0) = true := by rw [decide_eq_true_iff]; omega
      clear h0 hbad
      go_enter Tryd.func18, Tryd.ntmps18
      go_wp2_with fail
      refine HS.out.mono ?_
      rintro e w1 ⟨b, c, rfl, _, hb⟩
      go_wp2_with fail
      go_ret
      exact ⟨none, 0, rfl, fun h => absurd rfl h, hb⟩
end Go.Proofs.YtjgokhhpfgnceaaDoor

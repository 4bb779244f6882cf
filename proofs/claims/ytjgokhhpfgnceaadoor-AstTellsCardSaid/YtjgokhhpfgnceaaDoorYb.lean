/- The developers' trees: a tree's kids; Formed, Sizes, Kids. -/
import Derived.Test.YtjgokhhpfgnceaaDoorYa
namespace Go.Proofs.YtjgokhhpfgnceaaDoor
open Go.RowKit BS

/-- A tree's sizes in memory. -/
def SzAt (l : List NdN) (b : Nat) (W : World) : Prop := b < W.heap.size ∧ ∀ i (h : i < (sizesR l).length), W.cell? ⟨b, i, none⟩ = some (.int .i64 (sizesR l)[i])
theorem SzAt.below {l : List NdN} {b : Nat} {W W' : World} (h : SzAt l b W) (hb : Below W.heap.size W W') : SzAt l b W' :=
  ⟨Nat.lt_of_lt_of_le h.1 hb.size, fun i hi => (hb.cell (p := ⟨b, i, none⟩) h.1).trans (h.2 i hi)⟩
theorem SzAt.of {l : List NdN} (hne : sizesR l ≠ []) {b n : Nat} {W : World} (h : IntsB n (sizesR l) (some ⟨b, 0, none⟩) W) : SzAt l b W ∧ n ≤ b := by
  obtain ⟨g, o, e, h0, hg, hc⟩ := h hne
  cases e
  exact ⟨⟨hg, fun i hi => by rw [← hc i hi, Nat.zero_add]⟩, h0⟩
/-- Whole numbers, as cells. -/
def intsV (l : List Int) : Array Value := (l.map (Value.int .i64)).toArray
theorem intsV_size (l : List Int) : (intsV l).size = l.length := by simp [intsV]
theorem intsV_get (l : List Int) (i : Nat) (h : i < l.length) : (intsV l)[i]? = some (.int .i64 l[i]) := by simp [intsV, h]
theorem intsV_ext (l : List Int) (vs : Array Value) (hs : vs.size = l.length) (h : ∀ i (h : i < l.length), vs[i]? = some (.int .i64 l[i])) : vs = intsV l := by
  apply Array.ext
  · rw [hs, intsV_size]
  · intro i h1 h2
    rw [hs] at h1
    have e1 := h i h1
    have e2 := intsV_get l i h1
    rw [Array.getElem?_eq_getElem (by omega)] at e1
    rw [Array.getElem?_eq_getElem (by rw [intsV_size]; exact h1)] at e2
    exact Option.some.inj (e1.trans e2.symm)

set_option maxRecDepth 100000 in
set_option maxHeartbeats 16000000 in
theorem tKids_calls (l : List NdN) (hl : l.length ≤ 1000000) (hf : manyF 0 (l.map NdN.kids) = some 1) (i : Nat) (hlt : i < l.length) (a : Option Addr) (cap g2 : Nat) (w : World) (h : NodesAt l a w) (hZ : SzAt l g2 w) :
    Calls Tryd.prog 26 #[.agg (trC a l.length cap (some ⟨g2, 0, none⟩) l.length l.length), .int .i64 i] w fun e w' => ∃ b, e = .returned (.slice (some ⟨b, 0, none⟩) (kidsR l i).length (kidsR l i).length) ∧ w.heap.size ≤ b ∧ Blk w' b (intsV (kidsR l i)) 3 ∧ Below w.heap.size w w' := by
  have hsr : (sizesR l).length = l.length := by
    unfold sizesR
    rw [if_pos hf, List.length_map, sizesF_len]; simp [ksN]
  obtain ⟨hk0, hst⟩ := (formed_iff (l.map NdN.kids)).1 hf
  have hst : stackF [] (ksN l) = some [(l.map NdN.kids).length] := hst
  have hkl : (ksN l).length = l.length := by simp [ksN]
  have hlk : i < (ksN l).length := by rw [hkl]; exact hlt
  have hne : l ≠ [] := by rintro rfl; simp at hlt
  obtain ⟨g, off, rfl, hg, hc⟩ := h hne
  obtain ⟨s, hs, hks, hsum⟩ := stack_at (ksN l) [] _ hst i hlk
  obtain ⟨hr, ht, _⟩ := roots_at (ksN l) i hlk s hs
  rw [← ht] at hr
  have hpl := len_le_sum s (stackF_pos ((ksN l).take i) [] s (by simp) hs)
  have hkk : (l[i].kids : Int) = ((ksN l)[i] : Nat) := by
    have h0 := hk0 l[i].kids (List.mem_map_of_mem (List.getElem_mem hlt))
    simp only [ksN, List.getElem_map]
    omega
  have hR : sizesR l = (sizesF [] (ksN l)).map (fun x : Nat => (x : Int)) := if_pos hf
  have hsl : (sizesF [] (ksN l)).length = l.length := by rw [sizesF_len, hkl]
  have hkid : kidsR l i = (((posF i s).take (ksN l)[i]).reverse).map (fun x : Nat => (x : Int)) := by
    unfold kidsR
    rw [if_pos ⟨hf, by omega, by omega⟩, show (i : Int).toNat = i from rfl, allKids_at (ksN l) i hlk s hs]
    rfl
  have htl : ((sizesF [] (ksN l)).take i).length = i := by rw [List.length_take]; omega
  generalize hK : (ksN l)[i] = K at *
  generalize sizesF [] (ksN l) = sz at *
  have hsumi : s.sum = i := by simpa using hsum
  have hPl : ((posF i s).take K).length = K := by rw [List.length_take, posF_len]; omega
  have hc1 := hc i hlt 1 (by decide)
  have c0 : w.cell? ⟨g, off + i * 8 + 1, none⟩ = some (.int .i64 (K : Int)) := by rw [← hkk]; exact hc1
  have hKL : (kidsR l i).length = K := by rw [hkid, List.length_map, List.length_reverse, hPl]
  have HK := Lib.hid hkid
  have HKLN := Lib.hid hKL
  have HRT := Lib.hid hr
  have HR := Lib.hid hR
  have HPL := Lib.hid hPl
  have HZ := Lib.hid hZ
  have HSR := Lib.hid hsr
  clear hkid hr hR hPl hc1 hk0 hst hs ht hkk hsum hc hf hne hlk hkl hK hKL hZ hsr h
  have hmk := fun W => run_make_row' (P := Tryd.prog) 26 3 (.int .i64 0) 8 Tryd.underlying26 (by kernel_rfl) rfl .i64 .i64 K (by omega) (by omega) W
  have hmz : (madeCells #[Value.int .i64 0] K).size = K := by simp [madeCells]
  have xi : IntKind.i64.wrap ((i : Int) - 1) = (i : Int) - 1 := IntWalk.i64_in _ (by omega)
  have xK : IntKind.i64.wrap ((K : Int) - 1) = (K : Int) - 1 := IntWalk.i64_in _ (by omega)
  have hii : (i : Int) < (l.length : Int) := by omega
  have hd : decide (i < l.length) = true := by rw [decide_eq_true_iff]; omega
  generalize madeCells #[Value.int .i64 0] K = vs0 at *
  go_enter Tryd.func26, Tryd.ntmps26
  have hT := Blk.new w (trC (some ⟨g, off, none⟩) l.length cap (some ⟨g2, 0, none⟩) l.length l.length) 37
  have hB1 : Below w.heap.size w (w.alloc (.cells (trC (some ⟨g, off, none⟩) l.length cap (some ⟨g2, 0, none⟩) l.length l.length) 37)) := by go_grown
  have hz1 : w.heap.size + 1 = (w.alloc (.cells (trC (some ⟨g, off, none⟩) l.length cap (some ⟨g2, 0, none⟩) l.length l.length) 37)).heap.size := by simp
  go_upto_region 1 with fail
  generalize w.alloc (.cells (trC (some ⟨g, off, none⟩) l.length cap (some ⟨g2, 0, none⟩) l.length l.length) 37) = w1 at *
  have c1 := (hB1.cell (p := ⟨g, off + i * 8 + 1, none⟩) hg).trans c0
  have t0 := hT.cell 0; have t1 := hT.cell 1
  simp only [List.getElem?_toArray, List.getElem?_cons_zero, List.getElem?_cons_succ] at t0 t1
  have hBn := Blk.new w1 vs0 3
  have hB0 : Below w1.heap.size w1 (w1.alloc (.cells vs0 3)) := (Below.refl _ _).alloc (Nat.le_refl _) _
  have HB1 := Lib.hid hB1
  go_upto_region 2 with fail
  generalize hw2 : w1.alloc (.cells vs0 3) = w2 at *
  have hT2 : Blk w2 w.heap.size (trC (some ⟨g, off, none⟩) l.length cap (some ⟨g2, 0, none⟩) l.length l.length) 37 := by rw [← hw2]; exact hT.alloc _
  clear hmk hw2 c1 t0 t1 c0 hB1 hT
  have HT2 := Lib.hid hT2
  clear hT2
  go_upto_region 4 with fail
  go_loopw [6, 7] (fun va vk wr => ∃ j : Nat, j ≤ K ∧ va = .int .i64 ((i : Int) - 1 - ((s.take j).sum : Nat)) ∧ vk = .int .i64 ((K : Int) - 1 - (j : Int)) ∧ (∃ vs : Array Value, vs.size = K ∧ (∀ t, t < j → vs[K - 1 - t]? = some (.int .i64 ((i - (s.take t).sum - 1 : Nat) : Int))) ∧ Blk wr w1.heap.size vs 3) ∧ Below w1.heap.size w1 wr ∧ Blk wr w.heap.size (trC (some ⟨g, off, none⟩) l.length cap (some ⟨g2, 0, none⟩) l.length l.length) 37) (fun _ vk _ => (intOf vk + 1).toNat)
  case atStart => exact ⟨0, Nat.zero_le _, by simp, by simp, ⟨vs0, hmz, fun t ht => by omega, hBn⟩, hB0, HT2.out⟩
  case round =>
    clear hBn hB0 hmz HT2
    obtain ⟨j, hj, rfl, rfl, ⟨vs, hvs, hno, hb⟩, hB, hT⟩ := hrel
    by_cases hjl : j < K
    · obtain ⟨r1, r2⟩ := HRT.out j (by omega)
      rw [htl] at r1 r2
      have hts := take_sum s j (by omega)
      have hle2 := take_sum_le s (j + 1)
      generalize hS : (s.take j).sum = S at *
      generalize hS1 : (s.take (j + 1)).sum = S1 at *
      generalize s[j] = z at *
      have hpz : i - 1 - S < sz.length := by omega
      have hz : sz[i - 1 - S] = z := by
        rw [List.getElem?_take, if_pos (by omega), List.getElem?_eq_getElem hpz] at r2
        exact Option.some.inj r2
      have hps : i - 1 - S < (sizesR l).length := by have := HSR.out; omega
      have hg2 := HZ.out.1
      have hg21 : g2 < w1.heap.size := by omega
      have cz := (hB.cell (p := ⟨g2, i - 1 - S, none⟩) hg21).trans ((HB1.out.cell (p := ⟨g2, i - 1 - S, none⟩) hg2).trans (HZ.out.2 (i - 1 - S) hps))
      have ez : (sizesR l)[i - 1 - S] = (z : Int) := by simp only [HR.out, List.getElem_map, hz]
      rw [ez] at cz
      obtain ⟨old, hold⟩ : ∃ old, vs[K - 1 - j]? = some old := ⟨vs[K - 1 - j]'(by omega), by simp [show K - 1 - j < vs.size by omega]⟩
      have hci := (hb.cell (K - 1 - j)).trans hold
      have hfi := hb.frozen (K - 1 - j)
      have hat : (i : Int) - 1 - (S : Int) = ((i - 1 - S : Nat) : Int) := by omega
      have hkt : (K : Int) - 1 - (j : Int) = ((K - 1 - j : Nat) : Int) := by omega
      have cz2 : ((wr.setCell ⟨w1.heap.size, K - 1 - j, none⟩ (.int .i64 ((i - 1 - S : Nat) : Int)))).cell? ⟨g2, i - 1 - S, none⟩ = some (.int .i64 (z : Int)) := (World.cell?_of_block (w := wr) (a := ⟨g2, i - 1 - S, none⟩) (Below.heap_setCell wr ⟨w1.heap.size, K - 1 - j, none⟩ _ g2 (Nat.ne_of_lt hg21))).trans cz
      have hTS := hT.other (show w.heap.size ≠ w1.heap.size by omega) (K - 1 - j) (.int .i64 ((i - 1 - S : Nat) : Int))
      have t1 := hTS.cell 1
      simp only [List.getElem?_toArray, List.getElem?_cons_zero, List.getElem?_cons_succ] at t1
      have HTS := Lib.hid hts
      have HLE2 := Lib.hid hle2
      have HAT := Lib.hid hat
      have HKT := Lib.hid hkt
      have HS1 := Lib.hid hS1
      have HSS := Lib.hid hS
      have HNO := Lib.hid hno
      have HBK := Lib.hid hb
      have HB := Lib.hid hB
      have HTT := Lib.hid hTS
      have hpn : i - 1 - S < l.length := by omega
      have hzb : S + z ≤ i := by omega
      rw [hat, hkt]
      clear hts hle2 hat hkt hS hS1 r1 r2 hz ez hold hno hb hB hps hpz cz hT hTS
      generalize hP : i - 1 - S = p at *
      have HP := Lib.hid hP
      clear hP
      generalize hQ : K - 1 - j = qk at *
      have hqK : qk < K := by omega
      have HQ := Lib.hid hQ
      clear hQ
      have xz : IntKind.i64.wrap ((p : Int) - (z : Int)) = (p : Int) - (z : Int) := IntWalk.i64_in _ (by omega)
      have xq : IntKind.i64.wrap ((qk : Int) - 1) = (qk : Int) - 1 := IntWalk.i64_in _ (by omega)
      have hq0 : decide ((0 : Int) ≤ (qk : Int)) = true := by rw [decide_eq_true_iff]; omega
      have XZ := Lib.hid xz
      have XQ := Lib.hid xq
      go_wp2_with fail
      go_roundw
      case rel =>
        have e1 := HTS.out
        have e2 := HAT.out
        have e3 := HS1.out
        have e4 := XZ.out
        have e5 := XQ.out
        have e6 := HKT.out
        have e7 := HQ.out
        have e8 := HP.out
        refine ⟨j + 1, by omega, by rw [e3, e1]; congr 1; omega, by congr 1; omega, ⟨vs.setIfInBounds qk (.int .i64 (p : Int)), by simp [hvs], fun t ht => ?_, HBK.out.set qk _⟩, below_set HB.out (Nat.le_refl _) qk _, HTT.out⟩
        by_cases htj : t = j
        · subst htj
          rw [e7, HSS.out]
          have : i - S - 1 = p := by omega
          rw [this]
          simp [hvs, hqK]
        · rw [Array.getElem?_setIfInBounds_ne (by omega)]
          exact HNO.out t (by omega)
      case measure => simp [intOf] <;> omega
    · obtain rfl : j = K := by omega
      have hq0 : decide ((0 : Int) ≤ (j : Int) - 1 - (j : Int)) = false := by rw [decide_eq_false_iff_not]; omega
      have HB := Lib.hid hB
      have HBK := Lib.hid hb
      have HNO := Lib.hid hno
      clear hB hb hno hT
      go_wp2_with fail
      go_ret
      have hkl := HKLN.out
      have hvv : vs = intsV (kidsR l i) := intsV_ext _ _ (by rw [hvs, hkl]) fun x hx => by
        rw [hkl] at hx
        have h1 := HNO.out (j - 1 - x) (by omega)
        rw [show j - 1 - (j - 1 - x) = x by omega] at h1
        rw [h1]
        have hlen := HPL.out
        have hg' : (kidsR l i)[x] = ((((posF i s).take j)[j - 1 - x]'(by omega) : Nat) : Int) := by
          simp only [HK.out, List.getElem_map, List.getElem_reverse, hlen]
        rw [hg', List.getElem_take, posF_get]
      rw [← hvv]
      refine ⟨w1.heap.size, by rw [hkl] <;> rfl, by omega, HBK.out, HB1.out.trans (HB.out.mono HB1.out.size)⟩

theorem formed_ne {l : List NdN} (hf : manyF 0 (l.map NdN.kids) = some 1) : sizesR l ≠ [] := by
  have hsr : (sizesR l).length = l.length := by
    unfold sizesR
    rw [if_pos hf, List.length_map, sizesF_len]; simp [ksN]
  intro h
  rw [h] at hsr
  have : l = [] := List.length_eq_zero_iff.1 (by simpa using hsr.symm)
  subst this
  cases hf
theorem sizesR_no {l : List NdN} (hf : manyF 0 (l.map NdN.kids) ≠ some 1) : sizesR l = [] := if_neg hf

set_option maxRecDepth 100000 in
set_option maxHeartbeats 4000000 in
theorem aFormed_calls (l : List NdN) (hl : l.length ≤ 1000000) (a : Option Addr) (cap : Nat) (w : World) (h : NodesAt l a w) :
    Calls Tryd.prog 10 #[.slice a l.length cap] w fun e w' => e = .returned (.bool (decide (manyF 0 (l.map NdN.kids) = some 1))) ∧ Below w.heap.size w w' := by
  have HT := Lib.hid (treeOf_calls l hl a cap w h)
  clear h
  go_enter Tryd.func10, Tryd.ntmps10
  go_wp2_with fail
  refine HT.out.mono ?_
  rintro e w1 ⟨hb, ⟨hf, rfl⟩ | ⟨hf, b, rfl, -⟩⟩
  · clear HT
    have HF := Lib.hid (decide_eq_false hf)
    have hB := Lib.hid (hb.alloc hb.size (.cells (trC none 0 0 none 0 0) 37))
    clear hf
    go_wp2_with fail
    go_ret
    exact ⟨by rw [HF.out] <;> rfl, hB.out⟩
  · clear HT
    have HF := Lib.hid (decide_eq_true hf)
    have hB := Lib.hid (hb.alloc hb.size (.cells (trC a l.length cap (some ⟨b, 0, none⟩) l.length l.length) 37))
    clear hf
    go_wp2_with fail
    go_ret
    exact ⟨by rw [HF.out] <;> rfl, hB.out⟩
set_option maxRecDepth 100000 in
set_option maxHeartbeats 4000000 in
theorem aSizes_calls (l : List NdN) (hl : l.length ≤ 1000000) (a : Option Addr) (cap : Nat) (w : World) (h : NodesAt l a w) :
    Calls Tryd.prog 15 #[.slice a l.length cap] w fun e w' => ∃ b c, e = .returned (.slice b (sizesR l).length c) ∧ IntsB w.heap.size (sizesR l) b w' ∧ Below w.heap.size w w' := by
  have HT := Lib.hid (treeOf_calls l hl a cap w h)
  clear h
  go_enter Tryd.func15, Tryd.ntmps15
  go_wp2_with fail
  refine HT.out.mono ?_
  rintro e w1 ⟨hb, ⟨hf, rfl⟩ | ⟨hf, b, rfl, hi⟩⟩
  · clear HT
    have HF := Lib.hid (sizesR_no hf)
    have hB := Lib.hid (hb.alloc hb.size (.cells (trC none 0 0 none 0 0) 37))
    clear hf
    go_wp2_with fail
    go_ret
    exact ⟨none, 0, by rw [HF.out] <;> rfl, fun h => absurd HF.out h, hB.out⟩
  · clear HT
    have HL := Lib.hid (show (sizesR l).length = l.length by rw [sizesR_len, if_pos hf])
    have hB := Lib.hid (hb.alloc hb.size (.cells (trC a l.length cap (some ⟨b, 0, none⟩) l.length l.length) 37))
    have HI := Lib.hid (hi.below ((Below.refl _ _).alloc (Nat.le_refl _) (.cells (trC a l.length cap (some ⟨b, 0, none⟩) l.length l.length) 37)))
    clear hf hi
    go_wp2_with fail
    go_ret
    exact ⟨some ⟨b, 0, none⟩, l.length, by rw [HL.out] <;> rfl, HI.out, hB.out⟩
set_option maxRecDepth 100000 in
set_option maxHeartbeats 4000000 in
theorem aKids_calls (l : List NdN) (hl : l.length ≤ 1000000) (i0 : Int) (a : Option Addr) (cap : Nat) (w : World) (h : NodesAt l a w) :
    Calls Tryd.prog 17 #[.slice a l.length cap, .int .i64 i0] w fun e w' => ∃ b c, e = .returned (.slice b (kidsR l i0).length c) ∧ IntsB w.heap.size (kidsR l i0) b w' ∧ Below w.heap.size w w' := by
  have HT := Lib.hid (treeOf_calls l hl a cap w h)
  have HN := Lib.hid h
  clear h
  go_enter Tryd.func17, Tryd.ntmps17
  go_wp2_with fail
  refine HT.out.mono ?_
  rintro e w1 ⟨hb, ⟨hf, rfl⟩ | ⟨hf, b, rfl, hi⟩⟩
  · clear HT
    have HF := Lib.hid (show kidsR l i0 = [] from if_neg fun h => hf h.1)
    have hB := Lib.hid (hb.alloc hb.size (.cells (trC none 0 0 none 0 0) 37))
    clear hf
    go_wp2_with fail
    go_ret
    exact ⟨none, 0, by rw [HF.out] <;> rfl, fun h => absurd HF.out h, hB.out⟩
  · clear HT
    obtain ⟨hz, -⟩ := SzAt.of (formed_ne hf) hi
    have HB := Lib.hid (hb.alloc hb.size (.cells (trC a l.length cap (some ⟨b, 0, none⟩) l.length l.length) 37))
    have hZ := Lib.hid (hz.below ((Below.refl _ _).alloc (Nat.le_refl _) (.cells (trC a l.length cap (some ⟨b, 0, none⟩) l.length l.length) 37)))
    have hT := Blk.new w1 (trC a l.length cap (some ⟨b, 0, none⟩) l.length l.length) 37
    have hW : Hid (NodesAt l a (w1.alloc (.cells (trC a l.length cap (some ⟨b, 0, none⟩) l.length l.length) 37))) := Lib.hid (HN.out.below HB.out)
    clear hi hz hb
    have HF := Lib.hid hf
    by_cases hneg : i0 < 0
    · have q0 : decide (i0 < 0) = true := decide_eq_true hneg
      have HE := Lib.hid (show kidsR l i0 = [] from if_neg fun h => by omega)
      clear hneg hf
      go_wp2_with fail
      go_ret
      exact ⟨none, 0, by rw [HE.out] <;> rfl, fun h => absurd HE.out h, HB.out⟩
    have q0 : decide (i0 < 0) = false := decide_eq_false hneg
    by_cases hbig : (l.length : Int) ≤ i0
    · have q1 : decide ((l.length : Int) ≤ i0) = true := decide_eq_true hbig
      have HE := Lib.hid (show kidsR l i0 = [] from if_neg fun h => by omega)
      clear hneg hbig hf
      go_wp2_with fail
      go_ret
      exact ⟨none, 0, by rw [HE.out] <;> rfl, fun h => absurd HE.out h, HB.out⟩
    have q1 : decide ((l.length : Int) ≤ i0) = false := decide_eq_false hbig
    obtain ⟨i, rfl⟩ : ∃ i : Nat, i0 = i := ⟨i0.toNat, by omega⟩
    have q2 : decide (l.length ≤ i) = false := decide_eq_false (by omega)
    have HK := Lib.hid (fun W h1 h2 => tKids_calls l hl hf i (by omega) a cap b W h1 h2)
    have t0 := hT.cell 0; have t1 := hT.cell 1
    simp only [List.getElem?_toArray, List.getElem?_cons_zero, List.getElem?_cons_succ] at t0 t1
    clear hneg hbig hf hT
    go_upto_region 2 with fail
    generalize w1.alloc (.cells (trC a l.length cap (some ⟨b, 0, none⟩) l.length l.length) 37) = w2 at *
    go_wp2_with fail
    refine (HK.out _ hW.out hZ.out).mono ?_
    rintro e w3 ⟨c, rfl, hc, hbl, hb3⟩
    have HBL := Lib.hid hbl
    have HB3 := Lib.hid hb3
    clear HK hbl hb3
    go_wp2_with fail
    go_ret
    refine ⟨some ⟨c, 0, none⟩, (kidsR l (i : Int)).length, rfl, fun _ => ⟨c, 0, rfl, Nat.le_trans HB.out.size hc, HBL.out.lt, fun j hj => ?_⟩, HB.out.trans (HB3.out.mono HB.out.size)⟩
    rw [Nat.zero_add, HBL.out.cell, intsV_get _ _ hj]
end Go.Proofs.YtjgokhhpfgnceaaDoor

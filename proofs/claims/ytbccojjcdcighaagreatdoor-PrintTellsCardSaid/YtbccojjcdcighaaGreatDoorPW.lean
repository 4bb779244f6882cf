/- Texts put together: Yb Ys Yd Up Yc. -/
import Derived.Test.YtbccojjcdcighaaGreatDoorPT
import Derived.RegionTactic
import Derived.BigRegion
import Derived.Deep.LoopGhost
import Derived.Test.YtbccojjcdcighaaGreatDoorPC
import Derived.Test.YtbccojjcdcighaaGreatDoorPV
namespace Go.Proofs.YtbccojjcdcighaaGreatDoor
open Go.RowKit BS
def SzAt (l : List NdN) (b : Nat) (W : World) : Prop := b < W.heap.size ∧ ∀ i (h : i < (sizesR l).length), W.cell? ⟨b, i, none⟩ = some (.int .i64 (sizesR l)[i])
theorem SzAt.below {l : List NdN} {b : Nat} {W W' : World} (h : SzAt l b W) (hb : Below W.heap.size W W') : SzAt l b W' :=
  ⟨Nat.lt_of_lt_of_le h.1 hb.size, fun i hi => (hb.cell (p := ⟨b, i, none⟩) h.1).trans (h.2 i hi)⟩
theorem SzAt.of {l : List NdN} (hne : sizesR l ≠ []) {b n : Nat} {W : World} (h : IntsB n (sizesR l) (some ⟨b, 0, none⟩) W) : SzAt l b W ∧ n ≤ b := by
  obtain ⟨g, o, e, h0, hg, hc⟩ := h hne
  cases e
  exact ⟨⟨hg, fun i hi => by rw [← hc i hi, Nat.zero_add]⟩, h0⟩
def intsV (l : List Int) : Array Value := (l.map (Value.int .i64)).toArray
theorem intsV_size (l : List Int) : (intsV l).size = l.length := by simp [intsV]
theorem intsV_get (l : List Int) (i : Nat) (h : i < l.length) : (intsV l)[i]? = some (.int .i64 l[i]) := by simp [intsV, h]
theorem intsV_ext (l : List Int) (vs : Array Value) (hs : vs.size = l.length) (h : ∀ i (h : i < l.length), vs[i]? = some (.int .i64 l[i])) : vs = intsV l := by
  apply Array.ext
  · rw [hs, intsV_size]
  · intro i h1 h2
    rw [hs] at h1
    have e1 := h i h1
    have e2 := intsV_get l i h1
    rw [Array.getElem?_eq_getElem (by omega)] at e1
    rw [Array.getElem?_eq_getElem (by rw [intsV_size]; exact h1)] at e2
    exact Option.some.inj (e1.trans e2.symm)
set_option maxRecDepth 100000 in
set_option maxHeartbeats 16000000 in
theorem tKids_calls (l : List NdN) (hl : l.length ≤ 1000000) (hf : manyF 0 (l.map NdN.kids) = some 1) (i : Nat) (hlt : i < l.length) (a : Option Addr) (cap g2 : Nat) (w : World) (h : NodesAt l a w) (hZ : SzAt l g2 w) :
    Calls Tryz.prog 54 #[.agg (trC a l.length cap (some ⟨g2, 0, none⟩) l.length l.length), .int .i64 i] w fun e w' => ∃ b, e = .returned (.slice (some ⟨b, 0, none⟩) (kidsR l i).length (kidsR l i).length) ∧ w.heap.size ≤ b ∧ Blk w' b (intsV (kidsR l i)) 3 ∧ Below w.heap.size w w' := by
  have hsr : (sizesR l).length = l.length := by
    unfold sizesR
    rw [if_pos hf, List.length_map, sizesF_len]; simp [ksN]
  obtain ⟨hk0, hst⟩ := (formed_iff (l.map NdN.kids)).1 hf
  have hst : stackF [] (ksN l) = some [(l.map NdN.kids).length] := hst
  have hkl : (ksN l).length = l.length := by simp [ksN]
  have hlk : i < (ksN l).length := by rw [hkl]; exact hlt
  have hne : l ≠ [] := by rintro rfl; simp at hlt
  obtain ⟨g, off, rfl, hg, hc⟩ := h hne
  obtain ⟨s, hs, hks, hsum⟩ := stack_at (ksN l) [] _ hst i hlk
  obtain ⟨hr, ht, _⟩ := roots_at (ksN l) i hlk s hs
  rw [← ht] at hr
  have hpl := len_le_sum s (stackF_pos ((ksN l).take i) [] s (by simp) hs)
  have hkk : (l[i].kids : Int) = ((ksN l)[i] : Nat) := by
    have h0 := hk0 l[i].kids (List.mem_map_of_mem (List.getElem_mem hlt))
    simp only [ksN, List.getElem_map]
    omega
  have hR : sizesR l = (sizesF [] (ksN l)).map (fun x : Nat => (x : Int)) := if_pos hf
  have hsl : (sizesF [] (ksN l)).length = l.length := by rw [sizesF_len, hkl]
  have hkid : kidsR l i = (((posF i s).take (ksN l)[i]).reverse).map (fun x : Nat => (x : Int)) := by
    unfold kidsR
    rw [if_pos ⟨hf, by omega, by omega⟩, show (i : Int).toNat = i from rfl, allKids_at (ksN l) i hlk s hs]
    rfl
  have htl : ((sizesF [] (ksN l)).take i).length = i := by rw [List.length_take]; omega
  generalize hK : (ksN l)[i] = K at *
  generalize sizesF [] (ksN l) = sz at *
  have hsumi : s.sum = i := by simpa using hsum
  have hPl : ((posF i s).take K).length = K := by rw [List.length_take, posF_len]; omega
  have hc1 := hc i hlt 1 (by decide)
  have c0 : w.cell? ⟨g, off + i * 8 + 1, none⟩ = some (.int .i64 (K : Int)) := by rw [← hkk]; exact hc1
  have hKL : (kidsR l i).length = K := by rw [hkid, List.length_map, List.length_reverse, hPl]
  have HK := Lib.hid hkid
  have HKLN := Lib.hid hKL
  have HRT := Lib.hid hr
  have HR := Lib.hid hR
  have HPL := Lib.hid hPl
  have HZ := Lib.hid hZ
  have HSR := Lib.hid hsr
  clear hkid hr hR hPl hc1 hk0 hst hs ht hkk hsum hc hf hne hlk hkl hK hKL hZ hsr h
  have hmk := fun W => run_make_row' (P := Tryz.prog) 48 3 (.int .i64 0) 8 Tryz.underlying48 (by kernel_rfl) rfl .i64 .i64 K (by omega) (by omega) W
  have hmz : (madeCells #[Value.int .i64 0] K).size = K := by simp [madeCells]
  have xi : IntKind.i64.wrap ((i : Int) - 1) = (i : Int) - 1 := IntWalk.i64_in _ (by omega)
  have xK : IntKind.i64.wrap ((K : Int) - 1) = (K : Int) - 1 := IntWalk.i64_in _ (by omega)
  have hii : (i : Int) < (l.length : Int) := by omega
  have hd : decide (i < l.length) = true := by rw [decide_eq_true_iff]; omega
  generalize madeCells #[Value.int .i64 0] K = vs0 at *
  go_enter Tryz.func54, Tryz.ntmps54
  have hT := Blk.new w (trC (some ⟨g, off, none⟩) l.length cap (some ⟨g2, 0, none⟩) l.length l.length) 65
  have hB1 : Below w.heap.size w (w.alloc (.cells (trC (some ⟨g, off, none⟩) l.length cap (some ⟨g2, 0, none⟩) l.length l.length) 65)) := by go_grown
  have hz1 : w.heap.size + 1 = (w.alloc (.cells (trC (some ⟨g, off, none⟩) l.length cap (some ⟨g2, 0, none⟩) l.length l.length) 65)).heap.size := by simp
  go_upto_region 1 with fail
  generalize w.alloc (.cells (trC (some ⟨g, off, none⟩) l.length cap (some ⟨g2, 0, none⟩) l.length l.length) 65) = w1 at *
  have c1 := (hB1.cell (p := ⟨g, off + i * 8 + 1, none⟩) hg).trans c0
  have t0 := hT.cell 0; have t1 := hT.cell 1
  simp only [List.getElem?_toArray, List.getElem?_cons_zero, List.getElem?_cons_succ] at t0 t1
  have hBn := Blk.new w1 vs0 3
  have hB0 : Below w1.heap.size w1 (w1.alloc (.cells vs0 3)) := (Below.refl _ _).alloc (Nat.le_refl _) _
  have HB1 := Lib.hid hB1
  go_upto_region 2 with fail
  generalize hw2 : w1.alloc (.cells vs0 3) = w2 at *
  have hT2 : Blk w2 w.heap.size (trC (some ⟨g, off, none⟩) l.length cap (some ⟨g2, 0, none⟩) l.length l.length) 65 := by rw [← hw2]; exact hT.alloc _
  clear hmk hw2 c1 t0 t1 c0 hB1 hT
  have HT2 := Lib.hid hT2
  clear hT2
  go_upto_region 4 with fail
  go_loopw [6, 7] (fun va vk wr => ∃ j : Nat, j ≤ K ∧ va = .int .i64 ((i : Int) - 1 - ((s.take j).sum : Nat)) ∧ vk = .int .i64 ((K : Int) - 1 - (j : Int)) ∧ (∃ vs : Array Value, vs.size = K ∧ (∀ t, t < j → vs[K - 1 - t]? = some (.int .i64 ((i - (s.take t).sum - 1 : Nat) : Int))) ∧ Blk wr w1.heap.size vs 3) ∧ Below w1.heap.size w1 wr ∧ Blk wr w.heap.size (trC (some ⟨g, off, none⟩) l.length cap (some ⟨g2, 0, none⟩) l.length l.length) 65) (fun _ vk _ => (intOf vk + 1).toNat)
  case atStart => exact ⟨0, Nat.zero_le _, by simp, by simp, ⟨vs0, hmz, fun t ht => by omega, hBn⟩, hB0, HT2.out⟩
  case round =>
    clear hBn hB0 hmz HT2
    obtain ⟨j, hj, rfl, rfl, ⟨vs, hvs, hno, hb⟩, hB, hT⟩ := hrel
    by_cases hjl : j < K
    · obtain ⟨r1, r2⟩ := HRT.out j (by omega)
      rw [htl] at r1 r2
      have hts := take_sum s j (by omega)
      have hle2 := take_sum_le s (j + 1)
      generalize hS : (s.take j).sum = S at *
      generalize hS1 : (s.take (j + 1)).sum = S1 at *
      generalize s[j] = z at *
      have hpz : i - 1 - S < sz.length := by omega
      have hz : sz[i - 1 - S] = z := by
        rw [List.getElem?_take, if_pos (by omega), List.getElem?_eq_getElem hpz] at r2
        exact Option.some.inj r2
      have hps : i - 1 - S < (sizesR l).length := by have := HSR.out; omega
      have hg2 := HZ.out.1
      have hg21 : g2 < w1.heap.size := by omega
      have cz := (hB.cell (p := ⟨g2, i - 1 - S, none⟩) hg21).trans ((HB1.out.cell (p := ⟨g2, i - 1 - S, none⟩) hg2).trans (HZ.out.2 (i - 1 - S) hps))
      have ez : (sizesR l)[i - 1 - S] = (z : Int) := by simp only [HR.out, List.getElem_map, hz]
      rw [ez] at cz
      obtain ⟨old, hold⟩ : ∃ old, vs[K - 1 - j]? = some old := ⟨vs[K - 1 - j]'(by omega), by simp [show K - 1 - j < vs.size by omega]⟩
      have hci := (hb.cell (K - 1 - j)).trans hold
      have hfi := hb.frozen (K - 1 - j)
      have hat : (i : Int) - 1 - (S : Int) = ((i - 1 - S : Nat) : Int) := by omega
      have hkt : (K : Int) - 1 - (j : Int) = ((K - 1 - j : Nat) : Int) := by omega
      have cz2 : ((wr.setCell ⟨w1.heap.size, K - 1 - j, none⟩ (.int .i64 ((i - 1 - S : Nat) : Int)))).cell? ⟨g2, i - 1 - S, none⟩ = some (.int .i64 (z : Int)) := (World.cell?_of_block (w := wr) (a := ⟨g2, i - 1 - S, none⟩) (Below.heap_setCell wr ⟨w1.heap.size, K - 1 - j, none⟩ _ g2 (Nat.ne_of_lt hg21))).trans cz
      have hTS := hT.other (show w.heap.size ≠ w1.heap.size by omega) (K - 1 - j) (.int .i64 ((i - 1 - S : Nat) : Int))
      have t1 := hTS.cell 1
      simp only [List.getElem?_toArray, List.getElem?_cons_zero, List.getElem?_cons_succ] at t1
      have HTS := Lib.hid hts
      have HLE2 := Lib.hid hle2
      have HAT := Lib.hid hat
      have HKT := Lib.hid hkt
      have HS1 := Lib.hid hS1
      have HSS := Lib.hid hS
      have HNO := Lib.hid hno
      have HBK := Lib.hid hb
      have HB := Lib.hid hB
      have HTT := Lib.hid hTS
      have hpn : i - 1 - S < l.length := by omega
      have hzb : S + z ≤ i := by omega
      rw [hat, hkt]
      clear hts hle2 hat hkt hS hS1 r1 r2 hz ez hold hno hb hB hps hpz cz hT hTS
      generalize hP : i - 1 - S = p at *
      have HP := Lib.hid hP
      clear hP
      generalize hQ : K - 1 - j = qk at *
      have hqK : qk < K := by omega
      have HQ := Lib.hid hQ
      clear hQ
      have xz : IntKind.i64.wrap ((p : Int) - (z : Int)) = (p : Int) - (z : Int) := IntWalk.i64_in _ (by omega)
      have xq : IntKind.i64.wrap ((qk : Int) - 1) = (qk : Int) - 1 := IntWalk.i64_in _ (by omega)
      have hq0 : decide ((0 : Int) ≤ (qk : Int)) = true := by rw [decide_eq_true_iff]; omega
      have XZ := Lib.hid xz
      have XQ := Lib.hid xq
      go_wp2_with fail
      go_roundw
      case rel =>
        have e1 := HTS.out
        have e2 := HAT.out
        have e3 := HS1.out
        have e4 := XZ.out
        have e5 := XQ.out
        have e6 := HKT.out
        have e7 := HQ.out
        have e8 := HP.out
        refine ⟨j + 1, by omega, by rw [e3, e1]; congr 1; omega, by congr 1; omega, ⟨vs.setIfInBounds qk (.int .i64 (p : Int)), by simp [hvs], fun t ht => ?_, HBK.out.set qk _⟩, below_set HB.out (Nat.le_refl _) qk _, HTT.out⟩
        by_cases htj : t = j
        · subst htj
          rw [e7, HSS.out]
          have : i - S - 1 = p := by omega
          rw [this]
          simp [hvs, hqK]
        · rw [Array.getElem?_setIfInBounds_ne (by omega)]
          exact HNO.out t (by omega)
      case measure => simp [intOf] <;> omega
    · obtain rfl : j = K := by omega
      have hq0 : decide ((0 : Int) ≤ (j : Int) - 1 - (j : Int)) = false := by rw [decide_eq_false_iff_not]; omega
      have HB := Lib.hid hB
      have HBK := Lib.hid hb
      have HNO := Lib.hid hno
      clear hB hb hno hT
      go_wp2_with fail
      go_ret
      have hkl := HKLN.out
      have hvv : vs = intsV (kidsR l i) := intsV_ext _ _ (by rw [hvs, hkl]) fun x hx => by
        rw [hkl] at hx
        have h1 := HNO.out (j - 1 - x) (by omega)
        rw [show j - 1 - (j - 1 - x) = x by omega] at h1
        rw [h1]
        have hlen := HPL.out
        have hg' : (kidsR l i)[x] = ((((posF i s).take j)[j - 1 - x]'(by omega) : Nat) : Int) := by
          simp only [HK.out, List.getElem_map, List.getElem_reverse, hlen]
        rw [hg', List.getElem_take, posF_get]
      rw [← hvv]
      refine ⟨w1.heap.size, by rw [hkl] <;> rfl, by omega, HBK.out, HB1.out.trans (HB.out.mono HB1.out.size)⟩
theorem formed_ne {l : List NdN} (hf : manyF 0 (l.map NdN.kids) = some 1) : sizesR l ≠ [] := by
  have hsr : (sizesR l).length = l.length := by
    unfold sizesR
    rw [if_pos hf, List.length_map, sizesF_len]; simp [ksN]
  intro h
  rw [h] at hsr
  have : l = [] := List.length_eq_zero_iff.1 (by simpa using hsr.symm)
  subst this
  cases hf
theorem sizesR_no {l : List NdN} (hf : manyF 0 (l.map NdN.kids) ≠ some 1) : sizesR l = [] := if_neg hf
end Go.Proofs.YtbccojjcdcighaaGreatDoor

namespace Go.Proofs.YtbccojjcdcighaaGreatDoor
open Go.RowKit BS
def SzB (base : Nat) (l : List Int) (a : Option Addr) (W : World) : Prop := l ≠ [] → ∃ g vs, a = some ⟨g, 0, none⟩ ∧ base ≤ g ∧ Blk W g vs 3 ∧ ∀ j (h : j < l.length), vs[j]? = some (.int .i64 l[j])
set_option maxRecDepth 100000 in
set_option maxHeartbeats 4000000 in
theorem aSizes2_calls (l : List NdN) (hl : l.length ≤ 1000000) (a : Option Addr) (cap : Nat) (w : World) (h : NodesAt l a w) :
    Calls Tryz.prog 33 #[.slice a l.length cap] w fun e w' => ∃ b c, e = .returned (.slice b (sizesR l).length c) ∧ SzB w.heap.size (sizesR l) b w' ∧ Below w.heap.size w w' := by
  have HT := Lib.hid (treeOf2_calls l hl a cap w h)
  clear h
  go_enter Tryz.func33, Tryz.ntmps33
  go_wp2_with fail
  refine HT.out.mono ?_
  rintro e w1 ⟨hb, ⟨hf, rfl⟩ | ⟨hf, b, rfl, hbb, vs, hv, hvs⟩⟩
  · clear HT
    have HF := Lib.hid (sizesR_no hf)
    have hB := Lib.hid (hb.alloc hb.size (.cells (trC none 0 0 none 0 0) 65))
    clear hf
    go_wp2_with fail
    go_ret
    exact ⟨none, 0, by rw [HF.out] <;> rfl, fun h => absurd HF.out h, hB.out⟩
  · clear HT
    have HL := Lib.hid (show (sizesR l).length = l.length by rw [sizesR_len, if_pos hf])
    have hB := Lib.hid (hb.alloc hb.size (.cells (trC a l.length cap (some ⟨b, 0, none⟩) l.length l.length) 65))
    have HI := Lib.hid (hv.alloc (.cells (trC a l.length cap (some ⟨b, 0, none⟩) l.length l.length) 65))
    have HV := Lib.hid hvs
    clear hf hv hvs
    go_wp2_with fail
    go_ret
    exact ⟨some ⟨b, 0, none⟩, l.length, by rw [HL.out] <;> rfl, fun _ => ⟨b, vs, rfl, hbb, HI.out, HV.out⟩, hB.out⟩
end Go.Proofs.YtbccojjcdcighaaGreatDoor

namespace Go.Proofs.YtbccojjcdcighaaGreatDoor
open Go.RowKit BS
set_option maxRecDepth 100000 in
set_option maxHeartbeats 8000000 in
theorem reverse_calls (l : List Int) (hl : l.length ≤ 1000000) (b : Nat) (w : World) (h : Blk w b (intsV l) 3) :
    Calls Tryz.prog 89 #[.slice (some ⟨b, 0, none⟩) l.length l.length] w fun e w' => e = .returned (.tuple #[]) ∧ Blk w' b (intsV l.reverse) 3 ∧ Below b w w' ∧ w.heap.size = w'.heap.size := by
  have HL := Lib.hid h
  have hx : IntKind.i64.wrap ((l.length : Int) - 1) = (l.length : Int) - 1 := IntWalk.i64_in _ (by omega)
  clear h
  go_enter Tryz.func89, Tryz.ntmps89
  go_wp2_with fail
  go_loopw [2, 3] (fun vi vj wr => ∃ i : Nat, 2 * i ≤ l.length + 1 ∧ vi = .int .i64 i ∧ vj = .int .i64 ((l.length : Int) - 1 - (i : Int)) ∧ (∃ vs : Array Value, vs.size = l.length ∧ (∀ j, (h : j < l.length) → vs[j]? = some (.int .i64 (if j < i ∨ l.length - 1 - i < j then l[l.length - 1 - j]'(by omega) else l[j]))) ∧ Blk wr b vs 3) ∧ Below b w wr ∧ w.heap.size = wr.heap.size) (fun vi _ _ => l.length - (intOf vi).toNat)
  case atStart => exact ⟨0, by omega, rfl, by simp, ⟨intsV l, intsV_size l, fun j hj => by rw [intsV_get l j hj, if_neg (by omega)], HL.out⟩, Below.refl _ _, rfl⟩
  case round =>
    clear HL
    obtain ⟨i, hi, rfl, rfl, ⟨vs, hvs, hno, hb⟩, hB, hz⟩ := hrel
    by_cases hlt : (i : Int) < (l.length : Int) - 1 - (i : Int)
    · have q : decide ((i : Int) < (l.length : Int) - 1 - (i : Int)) = true := decide_eq_true hlt
      obtain ⟨j, hj⟩ : ∃ j : Nat, (l.length : Int) - 1 - (i : Int) = j := ⟨l.length - 1 - i, by omega⟩
      have hjl : j < l.length := by omega
      have hil : i < l.length := by omega
      have hij : i < j := by omega
      have ci := (hb.cell i).trans (hno i hil)
      have cj := (hb.cell j).trans (hno j hjl)
      rw [if_neg (by omega)] at ci cj
      have fi := hb.frozen i
      have fj := hb.frozen j
      rw [hj] at q
      have HJ := Lib.hid hj
      have HNO := Lib.hid hno
      have HBK := Lib.hid hb
      have HB := Lib.hid hB
      rw [hj]
      have xi : IntKind.i64.wrap ((i : Int) + 1) = (i : Int) + 1 := IntWalk.i64_in _ (by omega)
      have xj : IntKind.i64.wrap ((j : Int) - 1) = (j : Int) - 1 := IntWalk.i64_in _ (by omega)
      have dj : decide (j < l.length) = true := decide_eq_true hjl
      have di : decide (i < l.length) = true := decide_eq_true hil
      have djI : (j : Int) < (l.length : Int) := by omega
      have diI : (i : Int) < (l.length : Int) := by omega
      clear hj hno hb hB hlt
      have hii : ¬ (i = j) := by omega
      generalize hA : l[i] = A at *
      generalize hC : l[j] = C at *
      go_upto_region 3 with fail
      go_region
      go_wp2_with fail
      go_roundw
      case rel =>
        have hJ := HJ.out
        refine ⟨i + 1, by omega, by simp, by congr 1; have := HJ.out; omega, ⟨(vs.setIfInBounds i (.int .i64 C)).setIfInBounds j (.int .i64 A), by simp [hvs], fun x hx => ?_, ((HBK.out.set i _).set j _).drew⟩, ((below_set (below_set HB.out (Nat.le_refl _) i _) (Nat.le_refl _) j _)).drew, by simpa using hz⟩
        have hj2 : l.length - 1 - i = j := by have := HJ.out; omega
        by_cases hxj : x = j
        · subst hxj
          rw [if_pos (by omega)]
          have e : l.length - 1 - x = i := by omega
          simp only [e, hA]
          simp [hvs, hjl]
        · rw [Array.getElem?_setIfInBounds_ne (Ne.symm hxj)]
          by_cases hxi : x = i
          · subst hxi
            rw [if_pos (by omega)]
            simp only [hj2, hC]
            simp [hvs, hil]
          · rw [Array.getElem?_setIfInBounds_ne (Ne.symm hxi), HNO.out x hx]
            by_cases h1 : x < i ∨ l.length - 1 - i < x
            · rw [if_pos h1, if_pos (by omega)]
            · rw [if_neg h1, if_neg (by omega)]
      case measure => simp [intOf]; omega
    · have q : decide ((i : Int) < (l.length : Int) - 1 - (i : Int)) = false := decide_eq_false hlt
      have HB := Lib.hid hB
      have HBK := Lib.hid hb
      have hvv : vs = intsV l.reverse := intsV_ext _ _ (by rw [hvs, List.length_reverse]) fun x hx => by
        rw [List.length_reverse] at hx
        rw [hno x hx, List.getElem_reverse]
        by_cases h1 : x < i ∨ l.length - 1 - i < x
        · rw [if_pos h1]
        · rw [if_neg h1]
          have e : l.length - 1 - x = x := by omega
          simp only [e]
      clear hB hb hno hlt
      go_wp2_with fail
      go_end0
      exact ⟨rfl, by rw [← hvv]; exact HBK.out, HB.out, hz⟩
end Go.Proofs.YtbccojjcdcighaaGreatDoor

namespace Go.Proofs.YtbccojjcdcighaaGreatDoor
open Go.RowKit BS
@[reducible] def prC (a : Option Addr) (n cap : Nat) (sb : Option Addr) (m c b : Nat) : Array Value := #[.slice a n cap, .slice sb m c, .func (.func 34) #[.pointer (some ⟨b, 0, none⟩)] #[]]
set_option maxRecDepth 100000 in
set_option maxHeartbeats 16000000 in
theorem kidsOf_calls (l : List NdN) (hl : l.length ≤ 1000000) (hf : manyF 0 (l.map NdN.kids) = some 1) (i : Nat) (hlt : i < l.length) (a : Option Addr) (cap g2 n2 c2 b2 : Nat) (w : World) (h : NodesAt l a w) (hZ : SzAt l g2 w) (hn2 : n2 = l.length) :
    Calls Tryz.prog 81 #[.agg (prC a l.length cap (some ⟨g2, 0, none⟩) n2 c2 b2), .int .i64 i] w fun e w' => ∃ b, e = .returned (.slice (some ⟨b, 0, none⟩) (kidsR l i).length (kidsR l i).length) ∧ w.heap.size ≤ b ∧ Blk w' b (intsV (kidsR l i)) 3 ∧ Below w.heap.size w w' := by
  have hsr : (sizesR l).length = l.length := by
    unfold sizesR
    rw [if_pos hf, List.length_map, sizesF_len]; simp [ksN]
  obtain ⟨hk0, hst⟩ := (formed_iff (l.map NdN.kids)).1 hf
  have hst : stackF [] (ksN l) = some [(l.map NdN.kids).length] := hst
  have hkl : (ksN l).length = l.length := by simp [ksN]
  have hlk : i < (ksN l).length := by rw [hkl]; exact hlt
  have hne : l ≠ [] := by rintro rfl; simp at hlt
  obtain ⟨g, off, rfl, hg, hc⟩ := h hne
  obtain ⟨s, hs, hks, hsum⟩ := stack_at (ksN l) [] _ hst i hlk
  obtain ⟨hr, ht, _⟩ := roots_at (ksN l) i hlk s hs
  rw [← ht] at hr
  have hpl := len_le_sum s (stackF_pos ((ksN l).take i) [] s (by simp) hs)
  have hkk : (l[i].kids : Int) = ((ksN l)[i] : Nat) := by
    have h0 := hk0 l[i].kids (List.mem_map_of_mem (List.getElem_mem hlt))
    simp only [ksN, List.getElem_map]
    omega
  have hR : sizesR l = (sizesF [] (ksN l)).map (fun x : Nat => (x : Int)) := if_pos hf
  have hsl : (sizesF [] (ksN l)).length = l.length := by rw [sizesF_len, hkl]
  have hkid : kidsR l i = (((posF i s).take (ksN l)[i]).map (fun x : Nat => (x : Int))).reverse := by
    unfold kidsR
    rw [if_pos ⟨hf, by omega, by omega⟩, show (i : Int).toNat = i from rfl, allKids_at (ksN l) i hlk s hs, ← List.map_reverse]
    rfl
  have htl : ((sizesF [] (ksN l)).take i).length = i := by rw [List.length_take]; omega
  generalize hK : (ksN l)[i] = K at *
  generalize sizesF [] (ksN l) = sz at *
  have hsumi : s.sum = i := by simpa using hsum
  have hPl : ((posF i s).take K).length = K := by rw [List.length_take, posF_len]; omega
  have hc1 := hc i hlt 1 (by decide)
  have c0 : w.cell? ⟨g, off + i * 8 + 1, none⟩ = some (.int .i64 (K : Int)) := by rw [← hkk]; exact hc1
  have hKL : (kidsR l i).length = K := by rw [hkid, List.length_reverse, List.length_map, hPl]
  generalize hM : ((posF i s).take K).map (fun x : Nat => (x : Int)) = M at *
  have hML : M.length = K := by rw [← hM, List.length_map, hPl]
  have hMg : ∀ x (hx : x < M.length), M[x] = ((i - (s.take x).sum - 1 : Nat) : Int) := fun x hx => by
    subst hM
    rw [List.getElem_map, List.getElem_take, posF_get]
  have HRV := Lib.hid (reverse_calls M (by omega))
  rw [hML] at HRV
  have HMG := Lib.hid hMg
  have HML := Lib.hid hML
  have HK := Lib.hid hkid
  have HKLN := Lib.hid hKL
  have HRT := Lib.hid hr
  have HR := Lib.hid hR
  have HZ := Lib.hid hZ
  have HSR := Lib.hid hsr
  clear hkid hr hR hPl hc1 hk0 hst hs ht hkk hsum hc hf hne hlk hkl hK hKL hZ hsr h hM hMg hML
  have hmk := fun W => run_make_row' (P := Tryz.prog) 48 3 (.int .i64 0) 8 Tryz.underlying48 (by kernel_rfl) rfl .i64 .i64 K (by omega) (by omega) W
  have hmz : (madeCells #[Value.int .i64 0] K).size = K := by simp [madeCells]
  have xi : IntKind.i64.wrap ((i : Int) - 1) = (i : Int) - 1 := IntWalk.i64_in _ (by omega)
  have hii : (i : Int) < (l.length : Int) := by omega
  have hd : decide (i < l.length) = true := by rw [decide_eq_true_iff]; omega
  subst hn2
  generalize madeCells #[Value.int .i64 0] K = vs0 at *
  go_enter Tryz.func81, Tryz.ntmps81
  have hT := Blk.new w (prC (some ⟨g, off, none⟩) l.length cap (some ⟨g2, 0, none⟩) l.length c2 b2) 75
  have hB1 : Below w.heap.size w (w.alloc (.cells (prC (some ⟨g, off, none⟩) l.length cap (some ⟨g2, 0, none⟩) l.length c2 b2) 75)) := by go_grown
  have hz1 : w.heap.size + 1 = (w.alloc (.cells (prC (some ⟨g, off, none⟩) l.length cap (some ⟨g2, 0, none⟩) l.length c2 b2) 75)).heap.size := by simp
  go_upto_region 1 with fail
  generalize w.alloc (.cells (prC (some ⟨g, off, none⟩) l.length cap (some ⟨g2, 0, none⟩) l.length c2 b2) 75) = w1 at *
  have c1 := (hB1.cell (p := ⟨g, off + i * 8 + 1, none⟩) hg).trans c0
  have t0 := hT.cell 0; have t1 := hT.cell 1
  simp only [List.getElem?_toArray, List.getElem?_cons_zero, List.getElem?_cons_succ] at t0 t1
  have hBn := Blk.new w1 vs0 3
  have hB0 : Below w1.heap.size w1 (w1.alloc (.cells vs0 3)) := (Below.refl _ _).alloc (Nat.le_refl _) _
  have HB1 := Lib.hid hB1
  go_upto_region 2 with fail
  generalize hw2 : w1.alloc (.cells vs0 3) = w2 at *
  have hT2 : Blk w2 w.heap.size (prC (some ⟨g, off, none⟩) l.length cap (some ⟨g2, 0, none⟩) l.length c2 b2) 75 := by rw [← hw2]; exact hT.alloc _
  clear hmk hw2 c1 t0 t1 c0 hB1 hT
  have HT2 := Lib.hid hT2
  clear hT2
  go_upto_region 4 with fail
  go_loopw [6, 19] (fun va vk wr => ∃ j : Nat, j ≤ K ∧ va = .int .i64 ((i : Int) - 1 - ((s.take j).sum : Nat)) ∧ vk = .int .i64 j ∧ (∃ vs : Array Value, vs.size = K ∧ (∀ t, t < j → vs[t]? = some (.int .i64 ((i - (s.take t).sum - 1 : Nat) : Int))) ∧ Blk wr w1.heap.size vs 3) ∧ Below w1.heap.size w1 wr ∧ Blk wr w.heap.size (prC (some ⟨g, off, none⟩) l.length cap (some ⟨g2, 0, none⟩) l.length c2 b2) 75) (fun _ vk _ => K - (intOf vk).toNat)
  case atStart => exact ⟨0, Nat.zero_le _, by simp, rfl, ⟨vs0, hmz, fun t ht => by omega, hBn⟩, hB0, HT2.out⟩
  case round =>
    clear hBn hB0 hmz HT2
    obtain ⟨j, hj, rfl, rfl, ⟨vs, hvs, hno, hb⟩, hB, hT⟩ := hrel
    by_cases hjl : j < K
    · obtain ⟨r1, r2⟩ := HRT.out j (by omega)
      rw [htl] at r1 r2
      have hts := take_sum s j (by omega)
      have hle2 := take_sum_le s (j + 1)
      generalize hS : (s.take j).sum = S at *
      generalize hS1 : (s.take (j + 1)).sum = S1 at *
      generalize s[j] = z at *
      have hpz : i - 1 - S < sz.length := by omega
      have hz : sz[i - 1 - S] = z := by
        rw [List.getElem?_take, if_pos (by omega), List.getElem?_eq_getElem hpz] at r2
        exact Option.some.inj r2
      have hps : i - 1 - S < (sizesR l).length := by have := HSR.out; omega
      have hg2 := HZ.out.1
      have hg21 : g2 < w1.heap.size := by omega
      have cz := (hB.cell (p := ⟨g2, i - 1 - S, none⟩) hg21).trans ((HB1.out.cell (p := ⟨g2, i - 1 - S, none⟩) hg2).trans (HZ.out.2 (i - 1 - S) hps))
      have ez : (sizesR l)[i - 1 - S] = (z : Int) := by simp only [HR.out, List.getElem_map, hz]
      rw [ez] at cz
      obtain ⟨old, hold⟩ : ∃ old, vs[j]? = some old := ⟨vs[j]'(by omega), by simp [show j < vs.size by omega]⟩
      have hci := (hb.cell j).trans hold
      have hfi := hb.frozen j
      have hat : (i : Int) - 1 - (S : Int) = ((i - 1 - S : Nat) : Int) := by omega
      have cz2 : ((wr.setCell ⟨w1.heap.size, j, none⟩ (.int .i64 ((i - 1 - S : Nat) : Int)))).cell? ⟨g2, i - 1 - S, none⟩ = some (.int .i64 (z : Int)) := (World.cell?_of_block (w := wr) (a := ⟨g2, i - 1 - S, none⟩) (Below.heap_setCell wr ⟨w1.heap.size, j, none⟩ _ g2 (Nat.ne_of_lt hg21))).trans cz
      have hTS := hT.other (show w.heap.size ≠ w1.heap.size by omega) j (.int .i64 ((i - 1 - S : Nat) : Int))
      have t1 := hTS.cell 1
      simp only [List.getElem?_toArray, List.getElem?_cons_zero, List.getElem?_cons_succ] at t1
      have HTS := Lib.hid hts
      have HLE2 := Lib.hid hle2
      have HAT := Lib.hid hat
      have HS1 := Lib.hid hS1
      have HSS := Lib.hid hS
      have HNO := Lib.hid hno
      have HBK := Lib.hid hb
      have HB := Lib.hid hB
      have HTT := Lib.hid hTS
      have hpn : i - 1 - S < l.length := by omega
      have hzb : S + z ≤ i := by omega
      rw [hat]
      clear hts hle2 hat hS hS1 r1 r2 hz ez hold hno hb hB hps hpz cz hT hTS
      generalize hP : i - 1 - S = p at *
      have HP := Lib.hid hP
      clear hP
      have xz : IntKind.i64.wrap ((p : Int) - (z : Int)) = (p : Int) - (z : Int) := IntWalk.i64_in _ (by omega)
      have xq : IntKind.i64.wrap ((j : Int) + 1) = (j : Int) + 1 := IntWalk.i64_in _ (by omega)
      have hjI : (j : Int) < (K : Int) := by omega
      have hq0 : decide ((j : Int) < (K : Int)) = true := decide_eq_true hjI
      have XZ := Lib.hid xz
      go_wp2_with fail
      go_roundw
      case rel =>
        have e1 := HTS.out
        have e2 := HAT.out
        have e3 := HS1.out
        have e4 := XZ.out
        have e8 := HP.out
        refine ⟨j + 1, by omega, by rw [e3, e1]; congr 1; omega, by simp, ⟨vs.setIfInBounds j (.int .i64 (p : Int)), by simp [hvs], fun t ht => ?_, HBK.out.set j _⟩, below_set HB.out (Nat.le_refl _) j _, HTT.out⟩
        by_cases htj : t = j
        · subst htj
          rw [HSS.out]
          have : i - S - 1 = p := by omega
          rw [this]
          simp [hvs, hjl]
        · rw [Array.getElem?_setIfInBounds_ne (by omega)]
          exact HNO.out t (by omega)
      case measure => simp [intOf] <;> omega
    · obtain rfl : j = K := by omega
      have hq0 : decide ((j : Int) < (j : Int)) = false := by rw [decide_eq_false_iff_not]; omega
      have HB := Lib.hid hB
      have hvv : vs = intsV M := intsV_ext _ _ (by rw [hvs, HML.out]) fun x hx => by
        rw [HMG.out x hx]
        exact hno x (by rw [HML.out] at hx; exact hx)
      rw [hvv] at hb
      have HBK := Lib.hid hb
      clear hB hb hno hT hvv
      go_wp2_with fail
      refine (HRV.out _ _ HBK.out).mono ?_
      rintro e w3 ⟨rfl, hb3, hbb, hz3⟩
      have HB3 := Lib.hid hb3
      have HBB := Lib.hid hbb
      clear hb3 hbb
      go_wp2_with fail
      go_ret
      refine ⟨w1.heap.size, by rw [HKLN.out] <;> rfl, by omega, by rw [HK.out]; exact HB3.out, ?_⟩
      exact (HB1.out.trans (HB.out.mono HB1.out.size)).trans (HBB.out.mono HB1.out.size)
end Go.Proofs.YtbccojjcdcighaaGreatDoor

namespace Go.Proofs.YtbccojjcdcighaaGreatDoor
open Go.RowKit BS
set_option maxHeartbeats 1000000 in
theorem mayHold_calls (o k : Int) (w : World) : Calls Tryz.prog 55 #[.int .i64 o, .int .i64 k] w fun e w' => e = .returned (.bool (kidF o k)) ∧ w = w' := by
  have hg : kidF o k = kidF o k := rfl
  conv at hg => rhs; unfold kidF pieceF
  generalize kidF o k = R at *
  have HG := Lib.hid hg
  clear hg
  by_cases h3 : o = 3
  · subst h3
    go_enter Tryz.func55, Tryz.ntmps55
    go_wp2_with fail
    go_ret
    exact ⟨by rw [HG.out] <;> rfl, rfl⟩
  have q3 : (o == 3) = false := by rw [beq_eq_false_iff_ne]; omega
  by_cases h4 : o = 4 ∨ o = 5
  · have HR := Lib.hid (show R = (k == 2 || k == 3 || k == 4) by rw [HG.out, if_neg h3, if_pos h4])
    clear HG h3
    cases hk2 : (k == 2) with
    | true =>
      rw [hk2] at HR
      rcases h4 with rfl | rfl
      all_goals
        go_enter Tryz.func55, Tryz.ntmps55
        go_wp2_with fail
        go_ret
        exact ⟨by rw [HR.out] <;> rfl, rfl⟩
    | false =>
      rw [hk2] at HR
      cases hk3 : (k == 3) with
      | true =>
        rw [hk3] at HR
        rcases h4 with rfl | rfl
        all_goals
          go_enter Tryz.func55, Tryz.ntmps55
          go_wp2_with fail
          go_ret
          exact ⟨by rw [HR.out] <;> rfl, rfl⟩
      | false =>
        rw [hk3] at HR
        generalize hk : (k == 4) = z at HR
        rcases h4 with rfl | rfl
        all_goals
          go_enter Tryz.func55, Tryz.ntmps55
          go_wp2_with fail
          go_ret
          exact ⟨by rw [HR.out] <;> simp, rfl⟩
  have q4 : (o == 4) = false := by rw [beq_eq_false_iff_ne]; omega
  have q5 : (o == 5) = false := by rw [beq_eq_false_iff_ne]; omega
  by_cases h6 : o = 6
  · subst h6
    have HR := Lib.hid (show R = (k != 6) by rw [HG.out]; rfl)
    clear HG h3 h4
    go_enter Tryz.func55, Tryz.ntmps55
    go_wp2_with fail
    go_ret
    exact ⟨by rw [HR.out] <;> rfl, rfl⟩
  have q6 : (o == 6) = false := by rw [beq_eq_false_iff_ne]; omega
  have HR := Lib.hid (show R = false by rw [HG.out, if_neg h3, if_neg h4, if_neg h6])
  clear HG h3 h4 h6
  go_enter Tryz.func55, Tryz.ntmps55
  go_wp2_with fail
  go_ret
  exact ⟨by rw [HR.out] <;> rfl, rfl⟩
set_option maxRecDepth 100000 in
set_option maxHeartbeats 4000000 in
theorem noCounts_calls (k c n m : Int) (t : BitVec 256) (w : World) : Calls Tryz.prog 51 #[.agg (ndI k c n m t)] w fun e w' => e = .returned (.bool (n == 0 && m == 0)) ∧ Below w.heap.size w w' := by
  have hB : Below w.heap.size w (w.alloc (.cells (ndI k c n m t) 45)) := by go_grown
  have b0 := Blk.new w (ndI k c n m t) 45
  generalize hR : (n == 0 && m == 0) = R
  have HR := Lib.hid hR
  clear hR
  go_enter Tryz.func51, Tryz.ntmps51
  go_upto_region 1 with fail
  generalize w.alloc (.cells (ndI k c n m t) 45) = w1 at *
  have c2 := b0.cell 2; have c3 := b0.cell 3
  simp only [List.getElem?_toArray, List.getElem?_cons_zero, List.getElem?_cons_succ] at c2 c3
  clear b0
  cases hn : (n == 0) with
  | true =>
    rw [hn, Bool.true_and] at HR
    generalize hm : (m == 0) = z at *
    go_wp2_with fail
    go_ret
    exact ⟨by rw [← HR.out] <;> rfl, hB⟩
  | false =>
    rw [hn, Bool.false_and] at HR
    go_wp2_with fail
    go_ret
    exact ⟨by rw [← HR.out] <;> rfl, hB⟩
set_option maxRecDepth 100000 in
set_option maxHeartbeats 4000000 in
theorem noSet_calls (k c n m : Int) (t : BitVec 256) (w : World) : Calls Tryz.prog 52 #[.agg (ndI k c n m t)] w fun e w' => e = .returned (.bool (decide (t = 0))) ∧ Below w.heap.size w w' := by
  have hB : Below w.heap.size w (w.alloc (.cells (ndI k c n m t) 45)) := by go_grown
  have b0 := Blk.new w (ndI k c n m t) 45
  have hee0 : ∀ w', (Op.equalIn 10000 43 (setV t) (.agg #[.int .u64 0, .int .u64 0, .int .u64 0, .int .u64 0])).run Tryz.prog w' = .ok (decide (t = 0)) w' := eq_set t 0
  generalize decide (t = 0) = r at *
  go_enter Tryz.func52, Tryz.ntmps52
  go_upto_region 1 with fail
  generalize w.alloc (.cells (ndI k c n m t) 45) = w1 at *
  have c4 := b0.cell 4; have c5 := b0.cell 5; have c6 := b0.cell 6; have c7 := b0.cell 7
  simp only [List.getElem?_toArray, List.getElem?_cons_zero, List.getElem?_cons_succ] at c4 c5 c6 c7
  clear b0
  go_wp2_with fail
  go_ret
  exact ⟨rfl, hB⟩
theorem textN_nil (n m : Int) : (!(ofT (textN n m)).toList.isEmpty) = rightN n m := by
  rw [toL, List.isEmpty_map]
  unfold textN
  cases rightN n m with
  | false => rfl
  | true =>
    rw [if_neg (by decide)]
    repeat' split
    all_goals rfl
set_option maxRecDepth 100000 in
set_option maxHeartbeats 4000000 in
theorem hasCounts_calls (k c n m : Int) (t : BitVec 256) (w : World) : Calls Tryz.prog 53 #[.agg (ndI k c n m t)] w fun e w' => e = .returned (.bool (rightN n m)) ∧ Below w.heap.size w w' := by
  have hB : Below w.heap.size w (w.alloc (.cells (ndI k c n m t) 45)) := by go_grown
  have b0 := Blk.new w (ndI k c n m t) 45
  have HT := Lib.hid (bText_calls n m)
  have HL := textN_nil n m
  generalize rightN n m = R at *
  generalize textN n m = T at *
  go_enter Tryz.func53, Tryz.ntmps53
  go_upto_region 1 with fail
  generalize w.alloc (.cells (ndI k c n m t) 45) = w1 at *
  have c2 := b0.cell 2; have c3 := b0.cell 3
  simp only [List.getElem?_toArray, List.getElem?_cons_zero, List.getElem?_cons_succ] at c2 c3
  clear b0
  go_wp2_with fail
  refine (HT.out _).mono ?_
  rintro e w2 ⟨rfl, hb⟩
  have hB2 := hB.trans (hb.mono hB.size)
  clear HT hB hb
  go_wp2_with fail
  go_ret
  exact ⟨by rw [← HL] <;> rfl, hB2⟩
set_option maxRecDepth 100000 in
set_option maxHeartbeats 16000000 in
theorem aright_calls (k c n m : Int) (t : BitVec 256) (w : World) : Calls Tryz.prog 31 #[.agg (ndI k c n m t)] w fun e w' => e = .returned (.bool (nodeF ⟨k, c, n, m, t⟩)) ∧ Below w.heap.size w w' := by
  have hB : Below w.heap.size w (w.alloc (.cells (ndI k c n m t) 45)) := by go_grown
  have hb := Blk.new w (ndI k c n m t) 45
  have hz : w.heap.size < (w.alloc (.cells (ndI k c n m t) 45)).heap.size := by simp
  have HNC := Lib.hid (noCounts_calls k c n m t)
  have HNS := Lib.hid (noSet_calls k c n m t)
  have HHC := Lib.hid (hasCounts_calls k c n m t)
  have HF := Lib.hid (show nodeF ⟨k, c, n, m, t⟩ = if k ≠ 2 ∧ t ≠ 0 then false else if k ≠ 4 ∧ (n ≠ 0 ∨ m ≠ 0) then false else if k = 1 ∨ k = 2 then c == 0 else if k = 3 then c == 1 else if k = 4 then c == 1 && rightN n m else if k = 5 ∨ k = 6 then decide (2 ≤ c) else false from rfl)
  generalize nodeF ⟨k, c, n, m, t⟩ = R at *
  have HNN := Lib.hid (show (n == 0 && m == 0) = true ↔ ¬ (n ≠ 0 ∨ m ≠ 0) by simp)
  have HTT := Lib.hid (show decide (t = 0) = true ↔ ¬ (t ≠ 0) by simp)
  generalize (n == 0 && m == 0) = A at *
  generalize decide (t = 0) = B at *
  generalize rightN n m = C at *
  have HR : Hid (R = if k = 1 then (c == 0) && A && B else if k = 2 then (c == 0) && A else if k = 3 then (c == 1) && A && B else if k = 4 then (c == 1) && C && B else if k = 5 ∨ k = 6 then decide (2 ≤ c) && A && B else false) := Lib.hid (by
    have h1 := HNN.out
    have h2 := HTT.out
    rw [HF.out]
    by_cases k2 : k = 2
    · subst k2
      rw [if_neg (by simp)]
      by_cases hn : n ≠ 0 ∨ m ≠ 0
      · have hA : A = false := by cases A with | false => rfl | true => exact absurd hn (h1.1 rfl)
        rw [if_pos ⟨by decide, hn⟩, hA]; simp
      · rw [if_neg (fun h => hn h.2), h1.2 hn]; simp
    · by_cases ht : t ≠ 0
      · have hBf : B = false := by cases B with | false => rfl | true => exact absurd ht (h2.1 rfl)
        rw [if_pos ⟨k2, ht⟩, hBf]; simp [k2]
      · rw [if_neg (fun h => ht h.2), h2.2 ht]
        by_cases k4 : k = 4
        · subst k4; simp
        · by_cases hn : n ≠ 0 ∨ m ≠ 0
          · have hA : A = false := by cases A with | false => rfl | true => exact absurd hn (h1.1 rfl)
            rw [if_pos ⟨k4, hn⟩, hA]; simp [k2, k4]
          · rw [if_neg (fun h => hn h.2), h1.2 hn]; simp [k2, k4])
  clear HF HNN HTT
  go_enter Tryz.func31, Tryz.ntmps31
  go_upto_region 1 with fail
  generalize w.alloc (.cells (ndI k c n m t) 45) = w1 at *
  have HC : Hid (∀ W, Below w1.heap.size w1 W → ∀ j, j < 8 → W.cell? ⟨w.heap.size, j, none⟩ = (ndI k c n m t)[j]?) := Lib.hid fun W hW j _ => (hb.below hW hz).cell j
  have b0 := HC.out w1 (Below.refl _ _) 0 (by decide); have b1 := HC.out w1 (Below.refl _ _) 1 (by decide); have b2 := HC.out w1 (Below.refl _ _) 2 (by decide); have b3 := HC.out w1 (Below.refl _ _) 3 (by decide); have b4 := HC.out w1 (Below.refl _ _) 4 (by decide); have b5 := HC.out w1 (Below.refl _ _) 5 (by decide); have b6 := HC.out w1 (Below.refl _ _) 6 (by decide); have b7 := HC.out w1 (Below.refl _ _) 7 (by decide)
  simp only [List.getElem?_toArray, List.getElem?_cons_zero, List.getElem?_cons_succ] at b0 b1 b2 b3 b4 b5 b6 b7
  have hB0 : Below w1.heap.size w1 w1 := Below.refl _ _
  clear hb
  by_cases k1 : k = 1
  · subst k1
    replace HR : Hid (R = ((c == 0) && A && B)) := Lib.hid (by rw [HR.out]; rfl)
    cases hc : (c == 0) with
    | false =>
      rw [hc] at HR
      go_wp2_with fail
      go_ret
      exact ⟨by rw [HR.out] <;> rfl, hB.trans (hB0.mono hB.size)⟩
    | true =>
      rw [hc] at HR
      cases A with
      | false =>
        go_wp2_with fail
        refine (HNC.out _).mono ?_
        rintro e wq ⟨rfl, hq⟩
        have hB1 := hB0.trans (hq.mono hB0.size)
        clear hq b0 b1 b2 b3 b4 b5 b6 b7 hB0
        have b0 := HC.out _ hB1 0 (by decide); have b1 := HC.out _ hB1 1 (by decide); have b2 := HC.out _ hB1 2 (by decide); have b3 := HC.out _ hB1 3 (by decide); have b4 := HC.out _ hB1 4 (by decide); have b5 := HC.out _ hB1 5 (by decide); have b6 := HC.out _ hB1 6 (by decide); have b7 := HC.out _ hB1 7 (by decide)
        simp only [List.getElem?_toArray, List.getElem?_cons_zero, List.getElem?_cons_succ] at b0 b1 b2 b3 b4 b5 b6 b7
        go_wp2_with fail
        go_ret
        exact ⟨by rw [HR.out] <;> rfl, hB.trans (hB1.mono hB.size)⟩
      | true =>
        go_wp2_with fail
        refine (HNC.out _).mono ?_
        rintro e wq ⟨rfl, hq⟩
        have hB1 := hB0.trans (hq.mono hB0.size)
        clear hq b0 b1 b2 b3 b4 b5 b6 b7 hB0
        have b0 := HC.out _ hB1 0 (by decide); have b1 := HC.out _ hB1 1 (by decide); have b2 := HC.out _ hB1 2 (by decide); have b3 := HC.out _ hB1 3 (by decide); have b4 := HC.out _ hB1 4 (by decide); have b5 := HC.out _ hB1 5 (by decide); have b6 := HC.out _ hB1 6 (by decide); have b7 := HC.out _ hB1 7 (by decide)
        simp only [List.getElem?_toArray, List.getElem?_cons_zero, List.getElem?_cons_succ] at b0 b1 b2 b3 b4 b5 b6 b7
        go_wp2_with fail
        refine (HNS.out _).mono ?_
        rintro e wq ⟨rfl, hq⟩
        have hB2 := hB1.trans (hq.mono hB1.size)
        clear hq b0 b1 b2 b3 b4 b5 b6 b7 hB1
        have b0 := HC.out _ hB2 0 (by decide); have b1 := HC.out _ hB2 1 (by decide); have b2 := HC.out _ hB2 2 (by decide); have b3 := HC.out _ hB2 3 (by decide); have b4 := HC.out _ hB2 4 (by decide); have b5 := HC.out _ hB2 5 (by decide); have b6 := HC.out _ hB2 6 (by decide); have b7 := HC.out _ hB2 7 (by decide)
        simp only [List.getElem?_toArray, List.getElem?_cons_zero, List.getElem?_cons_succ] at b0 b1 b2 b3 b4 b5 b6 b7
        go_wp2_with fail
        go_ret
        exact ⟨by rw [HR.out] <;> rfl, hB.trans (hB2.mono hB.size)⟩
  have q1 : (k == 1) = false := by rw [beq_eq_false_iff_ne]; exact k1
  by_cases k2 : k = 2
  · subst k2
    replace HR : Hid (R = ((c == 0) && A)) := Lib.hid (by rw [HR.out]; rfl)
    cases hc : (c == 0) with
    | false =>
      rw [hc] at HR
      go_wp2_with fail
      go_ret
      exact ⟨by rw [HR.out] <;> rfl, hB.trans (hB0.mono hB.size)⟩
    | true =>
      rw [hc] at HR
      cases A with
      | false =>
        go_wp2_with fail
        refine (HNC.out _).mono ?_
        rintro e wq ⟨rfl, hq⟩
        have hB1 := hB0.trans (hq.mono hB0.size)
        clear hq b0 b1 b2 b3 b4 b5 b6 b7 hB0
        have b0 := HC.out _ hB1 0 (by decide); have b1 := HC.out _ hB1 1 (by decide); have b2 := HC.out _ hB1 2 (by decide); have b3 := HC.out _ hB1 3 (by decide); have b4 := HC.out _ hB1 4 (by decide); have b5 := HC.out _ hB1 5 (by decide); have b6 := HC.out _ hB1 6 (by decide); have b7 := HC.out _ hB1 7 (by decide)
        simp only [List.getElem?_toArray, List.getElem?_cons_zero, List.getElem?_cons_succ] at b0 b1 b2 b3 b4 b5 b6 b7
        go_wp2_with fail
        go_ret
        exact ⟨by rw [HR.out] <;> rfl, hB.trans (hB1.mono hB.size)⟩
      | true =>
        go_wp2_with fail
        refine (HNC.out _).mono ?_
        rintro e wq ⟨rfl, hq⟩
        have hB1 := hB0.trans (hq.mono hB0.size)
        clear hq b0 b1 b2 b3 b4 b5 b6 b7 hB0
        have b0 := HC.out _ hB1 0 (by decide); have b1 := HC.out _ hB1 1 (by decide); have b2 := HC.out _ hB1 2 (by decide); have b3 := HC.out _ hB1 3 (by decide); have b4 := HC.out _ hB1 4 (by decide); have b5 := HC.out _ hB1 5 (by decide); have b6 := HC.out _ hB1 6 (by decide); have b7 := HC.out _ hB1 7 (by decide)
        simp only [List.getElem?_toArray, List.getElem?_cons_zero, List.getElem?_cons_succ] at b0 b1 b2 b3 b4 b5 b6 b7
        go_wp2_with fail
        go_ret
        exact ⟨by rw [HR.out] <;> rfl, hB.trans (hB1.mono hB.size)⟩
  have q2 : (k == 2) = false := by rw [beq_eq_false_iff_ne]; exact k2
  by_cases k3 : k = 3
  · subst k3
    replace HR : Hid (R = ((c == 1) && A && B)) := Lib.hid (by rw [HR.out]; rfl)
    cases hc : (c == 1) with
    | false =>
      rw [hc] at HR
      go_wp2_with fail
      go_ret
      exact ⟨by rw [HR.out] <;> rfl, hB.trans (hB0.mono hB.size)⟩
    | true =>
      rw [hc] at HR
      cases A with
      | false =>
        go_wp2_with fail
        refine (HNC.out _).mono ?_
        rintro e wq ⟨rfl, hq⟩
        have hB1 := hB0.trans (hq.mono hB0.size)
        clear hq b0 b1 b2 b3 b4 b5 b6 b7 hB0
        have b0 := HC.out _ hB1 0 (by decide); have b1 := HC.out _ hB1 1 (by decide); have b2 := HC.out _ hB1 2 (by decide); have b3 := HC.out _ hB1 3 (by decide); have b4 := HC.out _ hB1 4 (by decide); have b5 := HC.out _ hB1 5 (by decide); have b6 := HC.out _ hB1 6 (by decide); have b7 := HC.out _ hB1 7 (by decide)
        simp only [List.getElem?_toArray, List.getElem?_cons_zero, List.getElem?_cons_succ] at b0 b1 b2 b3 b4 b5 b6 b7
        go_wp2_with fail
        go_ret
        exact ⟨by rw [HR.out] <;> rfl, hB.trans (hB1.mono hB.size)⟩
      | true =>
        go_wp2_with fail
        refine (HNC.out _).mono ?_
        rintro e wq ⟨rfl, hq⟩
        have hB1 := hB0.trans (hq.mono hB0.size)
        clear hq b0 b1 b2 b3 b4 b5 b6 b7 hB0
        have b0 := HC.out _ hB1 0 (by decide); have b1 := HC.out _ hB1 1 (by decide); have b2 := HC.out _ hB1 2 (by decide); have b3 := HC.out _ hB1 3 (by decide); have b4 := HC.out _ hB1 4 (by decide); have b5 := HC.out _ hB1 5 (by decide); have b6 := HC.out _ hB1 6 (by decide); have b7 := HC.out _ hB1 7 (by decide)
        simp only [List.getElem?_toArray, List.getElem?_cons_zero, List.getElem?_cons_succ] at b0 b1 b2 b3 b4 b5 b6 b7
        go_wp2_with fail
        refine (HNS.out _).mono ?_
        rintro e wq ⟨rfl, hq⟩
        have hB2 := hB1.trans (hq.mono hB1.size)
        clear hq b0 b1 b2 b3 b4 b5 b6 b7 hB1
        have b0 := HC.out _ hB2 0 (by decide); have b1 := HC.out _ hB2 1 (by decide); have b2 := HC.out _ hB2 2 (by decide); have b3 := HC.out _ hB2 3 (by decide); have b4 := HC.out _ hB2 4 (by decide); have b5 := HC.out _ hB2 5 (by decide); have b6 := HC.out _ hB2 6 (by decide); have b7 := HC.out _ hB2 7 (by decide)
        simp only [List.getElem?_toArray, List.getElem?_cons_zero, List.getElem?_cons_succ] at b0 b1 b2 b3 b4 b5 b6 b7
        go_wp2_with fail
        go_ret
        exact ⟨by rw [HR.out] <;> rfl, hB.trans (hB2.mono hB.size)⟩
  have q3 : (k == 3) = false := by rw [beq_eq_false_iff_ne]; exact k3
  by_cases k4 : k = 4
  · subst k4
    replace HR : Hid (R = ((c == 1) && C && B)) := Lib.hid (by rw [HR.out]; rfl)
    cases hc : (c == 1) with
    | false =>
      rw [hc] at HR
      go_wp2_with fail
      go_ret
      exact ⟨by rw [HR.out] <;> rfl, hB.trans (hB0.mono hB.size)⟩
    | true =>
      rw [hc] at HR
      cases C with
      | false =>
        go_wp2_with fail
        refine (HHC.out _).mono ?_
        rintro e wq ⟨rfl, hq⟩
        have hB1 := hB0.trans (hq.mono hB0.size)
        clear hq b0 b1 b2 b3 b4 b5 b6 b7 hB0
        have b0 := HC.out _ hB1 0 (by decide); have b1 := HC.out _ hB1 1 (by decide); have b2 := HC.out _ hB1 2 (by decide); have b3 := HC.out _ hB1 3 (by decide); have b4 := HC.out _ hB1 4 (by decide); have b5 := HC.out _ hB1 5 (by decide); have b6 := HC.out _ hB1 6 (by decide); have b7 := HC.out _ hB1 7 (by decide)
        simp only [List.getElem?_toArray, List.getElem?_cons_zero, List.getElem?_cons_succ] at b0 b1 b2 b3 b4 b5 b6 b7
        go_wp2_with fail
        go_ret
        exact ⟨by rw [HR.out] <;> rfl, hB.trans (hB1.mono hB.size)⟩
      | true =>
        go_wp2_with fail
        refine (HHC.out _).mono ?_
        rintro e wq ⟨rfl, hq⟩
        have hB1 := hB0.trans (hq.mono hB0.size)
        clear hq b0 b1 b2 b3 b4 b5 b6 b7 hB0
        have b0 := HC.out _ hB1 0 (by decide); have b1 := HC.out _ hB1 1 (by decide); have b2 := HC.out _ hB1 2 (by decide); have b3 := HC.out _ hB1 3 (by decide); have b4 := HC.out _ hB1 4 (by decide); have b5 := HC.out _ hB1 5 (by decide); have b6 := HC.out _ hB1 6 (by decide); have b7 := HC.out _ hB1 7 (by decide)
        simp only [List.getElem?_toArray, List.getElem?_cons_zero, List.getElem?_cons_succ] at b0 b1 b2 b3 b4 b5 b6 b7
        go_wp2_with fail
        refine (HNS.out _).mono ?_
        rintro e wq ⟨rfl, hq⟩
        have hB2 := hB1.trans (hq.mono hB1.size)
        clear hq b0 b1 b2 b3 b4 b5 b6 b7 hB1
        have b0 := HC.out _ hB2 0 (by decide); have b1 := HC.out _ hB2 1 (by decide); have b2 := HC.out _ hB2 2 (by decide); have b3 := HC.out _ hB2 3 (by decide); have b4 := HC.out _ hB2 4 (by decide); have b5 := HC.out _ hB2 5 (by decide); have b6 := HC.out _ hB2 6 (by decide); have b7 := HC.out _ hB2 7 (by decide)
        simp only [List.getElem?_toArray, List.getElem?_cons_zero, List.getElem?_cons_succ] at b0 b1 b2 b3 b4 b5 b6 b7
        go_wp2_with fail
        go_ret
        exact ⟨by rw [HR.out] <;> rfl, hB.trans (hB2.mono hB.size)⟩
  have q4 : (k == 4) = false := by rw [beq_eq_false_iff_ne]; exact k4
  by_cases k5 : k = 5
  · subst k5
    replace HR : Hid (R = (decide (2 ≤ c) && A && B)) := Lib.hid (by rw [HR.out]; rfl)
    cases hc : decide (2 ≤ c) with
    | false =>
      rw [hc] at HR
      go_wp2_with fail
      go_ret
      exact ⟨by rw [HR.out] <;> rfl, hB.trans (hB0.mono hB.size)⟩
    | true =>
      rw [hc] at HR
      cases A with
      | false =>
        go_wp2_with fail
        refine (HNC.out _).mono ?_
        rintro e wq ⟨rfl, hq⟩
        have hB1 := hB0.trans (hq.mono hB0.size)
        clear hq b0 b1 b2 b3 b4 b5 b6 b7 hB0
        have b0 := HC.out _ hB1 0 (by decide); have b1 := HC.out _ hB1 1 (by decide); have b2 := HC.out _ hB1 2 (by decide); have b3 := HC.out _ hB1 3 (by decide); have b4 := HC.out _ hB1 4 (by decide); have b5 := HC.out _ hB1 5 (by decide); have b6 := HC.out _ hB1 6 (by decide); have b7 := HC.out _ hB1 7 (by decide)
        simp only [List.getElem?_toArray, List.getElem?_cons_zero, List.getElem?_cons_succ] at b0 b1 b2 b3 b4 b5 b6 b7
        go_wp2_with fail
        go_ret
        exact ⟨by rw [HR.out] <;> rfl, hB.trans (hB1.mono hB.size)⟩
      | true =>
        go_wp2_with fail
        refine (HNC.out _).mono ?_
        rintro e wq ⟨rfl, hq⟩
        have hB1 := hB0.trans (hq.mono hB0.size)
        clear hq b0 b1 b2 b3 b4 b5 b6 b7 hB0
        have b0 := HC.out _ hB1 0 (by decide); have b1 := HC.out _ hB1 1 (by decide); have b2 := HC.out _ hB1 2 (by decide); have b3 := HC.out _ hB1 3 (by decide); have b4 := HC.out _ hB1 4 (by decide); have b5 := HC.out _ hB1 5 (by decide); have b6 := HC.out _ hB1 6 (by decide); have b7 := HC.out _ hB1 7 (by decide)
        simp only [List.getElem?_toArray, List.getElem?_cons_zero, List.getElem?_cons_succ] at b0 b1 b2 b3 b4 b5 b6 b7
        go_wp2_with fail
        refine (HNS.out _).mono ?_
        rintro e wq ⟨rfl, hq⟩
        have hB2 := hB1.trans (hq.mono hB1.size)
        clear hq b0 b1 b2 b3 b4 b5 b6 b7 hB1
        have b0 := HC.out _ hB2 0 (by decide); have b1 := HC.out _ hB2 1 (by decide); have b2 := HC.out _ hB2 2 (by decide); have b3 := HC.out _ hB2 3 (by decide); have b4 := HC.out _ hB2 4 (by decide); have b5 := HC.out _ hB2 5 (by decide); have b6 := HC.out _ hB2 6 (by decide); have b7 := HC.out _ hB2 7 (by decide)
        simp only [List.getElem?_toArray, List.getElem?_cons_zero, List.getElem?_cons_succ] at b0 b1 b2 b3 b4 b5 b6 b7
        go_wp2_with fail
        go_ret
        exact ⟨by rw [HR.out] <;> rfl, hB.trans (hB2.mono hB.size)⟩
  have q5 : (k == 5) = false := by rw [beq_eq_false_iff_ne]; exact k5
  by_cases k6 : k = 6
  · subst k6
    replace HR : Hid (R = (decide (2 ≤ c) && A && B)) := Lib.hid (by rw [HR.out]; rfl)
    cases hc : decide (2 ≤ c) with
    | false =>
      rw [hc] at HR
      go_wp2_with fail
      go_ret
      exact ⟨by rw [HR.out] <;> rfl, hB.trans (hB0.mono hB.size)⟩
    | true =>
      rw [hc] at HR
      cases A with
      | false =>
        go_wp2_with fail
        refine (HNC.out _).mono ?_
        rintro e wq ⟨rfl, hq⟩
        have hB1 := hB0.trans (hq.mono hB0.size)
        clear hq b0 b1 b2 b3 b4 b5 b6 b7 hB0
        have b0 := HC.out _ hB1 0 (by decide); have b1 := HC.out _ hB1 1 (by decide); have b2 := HC.out _ hB1 2 (by decide); have b3 := HC.out _ hB1 3 (by decide); have b4 := HC.out _ hB1 4 (by decide); have b5 := HC.out _ hB1 5 (by decide); have b6 := HC.out _ hB1 6 (by decide); have b7 := HC.out _ hB1 7 (by decide)
        simp only [List.getElem?_toArray, List.getElem?_cons_zero, List.getElem?_cons_succ] at b0 b1 b2 b3 b4 b5 b6 b7
        go_wp2_with fail
        go_ret
        exact ⟨by rw [HR.out] <;> rfl, hB.trans (hB1.mono hB.size)⟩
      | true =>
        go_wp2_with fail
        refine (HNC.out _).mono ?_
        rintro e wq ⟨rfl, hq⟩
        have hB1 := hB0.trans (hq.mono hB0.size)
        clear hq b0 b1 b2 b3 b4 b5 b6 b7 hB0
        have b0 := HC.out _ hB1 0 (by decide); have b1 := HC.out _ hB1 1 (by decide); have b2 := HC.out _ hB1 2 (by decide); have b3 := HC.out _ hB1 3 (by decide); have b4 := HC.out _ hB1 4 (by decide); have b5 := HC.out _ hB1 5 (by decide); have b6 := HC.out _ hB1 6 (by decide); have b7 := HC.out _ hB1 7 (by decide)
        simp only [List.getElem?_toArray, List.getElem?_cons_zero, List.getElem?_cons_succ] at b0 b1 b2 b3 b4 b5 b6 b7
        go_wp2_with fail
        refine (HNS.out _).mono ?_
        rintro e wq ⟨rfl, hq⟩
        have hB2 := hB1.trans (hq.mono hB1.size)
        clear hq b0 b1 b2 b3 b4 b5 b6 b7 hB1
        have b0 := HC.out _ hB2 0 (by decide); have b1 := HC.out _ hB2 1 (by decide); have b2 := HC.out _ hB2 2 (by decide); have b3 := HC.out _ hB2 3 (by decide); have b4 := HC.out _ hB2 4 (by decide); have b5 := HC.out _ hB2 5 (by decide); have b6 := HC.out _ hB2 6 (by decide); have b7 := HC.out _ hB2 7 (by decide)
        simp only [List.getElem?_toArray, List.getElem?_cons_zero, List.getElem?_cons_succ] at b0 b1 b2 b3 b4 b5 b6 b7
        go_wp2_with fail
        go_ret
        exact ⟨by rw [HR.out] <;> rfl, hB.trans (hB2.mono hB.size)⟩
  have q6 : (k == 6) = false := by rw [beq_eq_false_iff_ne]; exact k6
  replace HR : Hid (R = false) := Lib.hid (by rw [HR.out, if_neg k1, if_neg k2, if_neg k3, if_neg k4, if_neg (by omega)])
  clear k1 k2 k3 k4 k5 k6
  go_wp2_with fail
  go_ret
  exact ⟨by rw [HR.out] <;> rfl, hB.trans (hB0.mono hB.size)⟩
def SRy (w0 : World) (tb g off i x n cap : Nat) (A B : Int) (W : World) : Prop :=
  (W.cell? ⟨tb, 0, none⟩ = some (.slice (some ⟨g, off, none⟩) n cap) ∧ W.cell? ⟨g, off + i * 8, none⟩ = some (.int .i64 A) ∧ W.cell? ⟨g, off + x * 8, none⟩ = some (.int .i64 B)) ∧ W = w0
set_option maxRecDepth 100000 in
set_option maxHeartbeats 16000000 in
theorem rightKids_calls (l : List NdN) (hl : l.length ≤ 1000000) (hf : manyF 0 (l.map NdN.kids) = some 1) (i : Nat) (hlt : i < l.length) (a : Option Addr) (cap g2 : Nat) (w : World) (h : NodesAt l a w) (hZ : SzAt l g2 w) :
    Calls Tryz.prog 32 #[.agg (trC a l.length cap (some ⟨g2, 0, none⟩) l.length l.length), .int .i64 i] w fun e w' => e = .returned (.bool (kidsOkB l i)) ∧ Below w.heap.size w w' := by
  have HKC := Lib.hid (fun W h1 h2 => tKids_calls l hl hf i hlt a cap g2 W h1 h2)
  have HMH := Lib.hid mayHold_calls
  have hne : l ≠ [] := by rintro rfl; simp at hlt
  obtain ⟨g, off, rfl, hg, hc⟩ := h hne
  have HC := Lib.hid hc
  have HKB1 := Lib.hid (kidsR_bound l i)
  have hkrl := kidsR_len l i
  have HKD := Lib.hid (kdN_get l)
  have HKO1 : Hid (kidsOkB l i = (kidsR l i).all fun x => kidF (kdN l i) (kdN l x.toNat)) := Lib.hid rfl
  have hki := kdN_get l i hlt
  have HKK := Lib.hid hki
  have di : decide (i < l.length) = true := by rw [decide_eq_true_iff]; exact hlt
  have hT := Blk.new w (trC (some ⟨g, off, none⟩) l.length cap (some ⟨g2, 0, none⟩) l.length l.length) 65
  have hB : Below w.heap.size w (w.alloc (.cells (trC (some ⟨g, off, none⟩) l.length cap (some ⟨g2, 0, none⟩) l.length l.length) 65)) := by go_grown
  have hz : w.heap.size < (w.alloc (.cells (trC (some ⟨g, off, none⟩) l.length cap (some ⟨g2, 0, none⟩) l.length l.length) 65)).heap.size := by simp
  have HN := Lib.hid h
  have HZ := Lib.hid hZ
  clear hc hne hki h hZ hf
  generalize hKI : kdN l i = K at *
  generalize kidsOkB l i = R at *
  go_enter Tryz.func32, Tryz.ntmps32
  go_upto_region 1 with fail
  generalize w.alloc (.cells (trC (some ⟨g, off, none⟩) l.length cap (some ⟨g2, 0, none⟩) l.length l.length) 65) = w1 at *
  have t0 := hT.cell 0; have t1 := hT.cell 1
  simp only [List.getElem?_toArray, List.getElem?_cons_zero, List.getElem?_cons_succ] at t0 t1
  have HB := Lib.hid hB
  have HT := Lib.hid hT
  clear hB hT
  go_wp2_with fail
  refine (HKC.out _ (HN.out.below HB.out) (HZ.out.below HB.out)).mono ?_
  rintro e w3 ⟨b, rfl, hbb, hbl, hb⟩
  have HT3 := Lib.hid (HT.out.below hb hz)
  replace HB := Lib.hid (HB.out.trans (hb.mono HB.out.size))
  have HBL := Lib.hid hbl
  have hz3 := Nat.lt_of_lt_of_le hz hb.size
  clear hb hbl HT t0 t1 HKC
  generalize hKR : kidsR l i = kr at *
  clear hKR
  go_upto_region 2 with fail
  go_loopw [11] (fun x wr => ∃ k : Nat, k ≤ kr.length ∧ x = .int .i64 k ∧ (∀ j (h : j < kr.length), j < k → kidF K (kdN l (kr[j]).toNat) = true) ∧ Below w3.heap.size w3 wr) (fun x _ => kr.length - (intOf x).toNat)
  case atStart => exact ⟨0, Nat.zero_le _, rfl, fun j _ hj => by omega, Below.refl _ _⟩
  case round =>
    obtain ⟨k, hk, rfl, hkk, hB3⟩ := hrel
    have HB3 := Lib.hid hB3
    have HKS := Lib.hid hkk
    clear hB3 hkk
    by_cases hkl : k < kr.length
    · have hdk : decide ((k : Int) < (kr.length : Int)) = true := by rw [decide_eq_true_iff]; omega
      have hdk2 : decide (k < kr.length) = true := by rw [decide_eq_true_iff]; omega
      have xk1 : IntKind.i64.wrap ((k : Int) + 1) = (k : Int) + 1 := IntWalk.i64_in _ (by omega)
      have hbx := HKB1.out kr[k] (List.getElem_mem hkl)
      have cx := (HBL.out.below HB3.out HBL.out.lt).cell k
      rw [intsV_get _ _ hkl] at cx
      obtain ⟨x, hx⟩ := Int.eq_ofNat_of_zero_le hbx.1
      have hkx := HKD.out x (by omega)
      have hxl : x < l.length := by omega
      have hdx : decide (x < l.length) = true := by rw [decide_eq_true_iff]; omega
      have hBW := HB.out.trans (HB3.out.mono HB.out.size)
      have ci := (hBW.cell (p := ⟨g, off + i * 8, none⟩) hg).trans (HC.out i hlt 0 (by decide))
      have cxk := (hBW.cell (p := ⟨g, off + x * 8, none⟩) hg).trans (HC.out x hxl 0 (by decide))
      have ct := (HT3.out.below HB3.out hz3).cell 0
      simp only [List.getElem?_toArray, List.getElem?_cons_zero] at ct
      have e0 : (ndA l[i])[0]? = some (.int .i64 K) := by rw [HKK.out]; rfl
      have e1 : (ndA l[x])[0]? = some (.int .i64 (kdN l x)) := by rw [hkx]; rfl
      rw [e0] at ci
      rw [e1] at cxk
      rw [hx] at cx
      have HXX := Lib.hid (show kr[k] = (x : Int) from hx)
      generalize hKX : kdN l x = X at *
      have HKX := Lib.hid hKX
      have HKID := HMH.out K X
      generalize hr : kidF K X = r at *
      have HRR := Lib.hid hr
      have h0 : SRy wr.drew w.heap.size g off i x l.length cap K X wr.drew := ⟨⟨ct, ci, cxk⟩, rfl⟩
      replace HB3 : Hid (Below w3.heap.size w3 wr.drew) := Lib.hid HB3.out.drew
      clear hbx hx hkx hBW ci cxk e0 e1 hKX hr ct
      go_upto_region 4 with fail
      refine region_steps (S := SRy wr.drew w.heap.size g off i x l.length cap K X) (by kernel_rfl) h0 ?_
      clear h0 cx
      simp only [List.size_toArray, List.length_cons, List.length_nil, Nat.reduceAdd, Array.replicate_succ, Array.replicate_zero, List.push_toArray, List.nil_append, List.cons_append]
      refine AnyS.stepE (i := 0) (d := some 15) rfl rfl (by kernel_rfl) (by kernel_rfl) (by kernel_rfl) ?_
      apply Exists.intro
      apply And.intro
      · apply StepsIf.yield
        · kernel_rfl
        intro w' hS
        clear hS; go_simp
        rfl
      intro a' ha'
      simp only [Act.put, List.setIfInBounds_toArray, List.set_cons_zero, List.set_cons_succ] at ha'
      subst ha'
      refine AnyS.next (i := 1) (d := some 16) (v := .slice (some ⟨g, off, none⟩) l.length cap) rfl rfl (by kernel_rfl) (by kernel_rfl) (by kernel_rfl) (StepsIf.yield (by kernel_rfl) (fun w' hS => by have s := hS.1.1; clear hS; go_simp)) ?_
      intro a' ha'
      simp only [Act.put, List.setIfInBounds_toArray, List.set_cons_zero, List.set_cons_succ] at ha'
      subst ha'
      refine AnyS.stepE (i := 2) (d := some 17) rfl rfl (by kernel_rfl) (by kernel_rfl) (by kernel_rfl) ?_
      apply Exists.intro
      apply And.intro
      · apply StepsIf.yield
        · kernel_rfl
        intro w' hS
        clear hS; go_simp
        rfl
      intro a' ha'
      simp only [Act.put, List.setIfInBounds_toArray, List.set_cons_zero, List.set_cons_succ] at ha'
      subst ha'
      refine AnyS.next (i := 3) (d := some 18) (v := .pointer (some ⟨g, off + i * 8, none⟩)) rfl rfl (by kernel_rfl) (by kernel_rfl) (by kernel_rfl) (StepsIf.yield (by kernel_rfl) (fun w' hS => by clear hS; go_simp)) ?_
      intro a' ha'
      simp only [Act.put, List.setIfInBounds_toArray, List.set_cons_zero, List.set_cons_succ] at ha'
      subst ha'
      refine AnyS.next (i := 4) (d := some 19) (v := .pointer (some ⟨g, off + i * 8, none⟩)) rfl rfl (by kernel_rfl) (by kernel_rfl) (by kernel_rfl) (StepsIf.yield (by kernel_rfl) (fun w' hS => by clear hS; go_simp)) ?_
      intro a' ha'
      simp only [Act.put, List.setIfInBounds_toArray, List.set_cons_zero, List.set_cons_succ] at ha'
      subst ha'
      refine AnyS.next (i := 5) (d := some 20) (v := .int .i64 K) rfl rfl (by kernel_rfl) (by kernel_rfl) (by kernel_rfl) (StepsIf.yield (by kernel_rfl) (fun w' hS => by have s := hS.1.2.1; clear hS; go_simp)) ?_
      intro a' ha'
      simp only [Act.put, List.setIfInBounds_toArray, List.set_cons_zero, List.set_cons_succ] at ha'
      subst ha'
      refine AnyS.stepE (i := 6) (d := some 21) rfl rfl (by kernel_rfl) (by kernel_rfl) (by kernel_rfl) ?_
      apply Exists.intro
      apply And.intro
      · apply StepsIf.yield
        · kernel_rfl
        intro w' hS
        clear hS; go_simp
        rfl
      intro a' ha'
      simp only [Act.put, List.setIfInBounds_toArray, List.set_cons_zero, List.set_cons_succ] at ha'
      subst ha'
      refine AnyS.next (i := 7) (d := some 22) (v := .slice (some ⟨g, off, none⟩) l.length cap) rfl rfl (by kernel_rfl) (by kernel_rfl) (by kernel_rfl) (StepsIf.yield (by kernel_rfl) (fun w' hS => by have s := hS.1.1; clear hS; go_simp)) ?_
      intro a' ha'
      simp only [Act.put, List.setIfInBounds_toArray, List.set_cons_zero, List.set_cons_succ] at ha'
      subst ha'
      refine AnyS.stepE (i := 8) (d := some 23) rfl rfl (by kernel_rfl) (by kernel_rfl) (by kernel_rfl) ?_
      apply Exists.intro
      apply And.intro
      · apply StepsIf.yield
        · kernel_rfl
        intro w' hS
        clear hS; go_simp
        rfl
      intro a' ha'
      simp only [Act.put, List.setIfInBounds_toArray, List.set_cons_zero, List.set_cons_succ] at ha'
      subst ha'
      refine AnyS.next (i := 9) (d := some 24) (v := .pointer (some ⟨g, off + x * 8, none⟩)) rfl rfl (by kernel_rfl) (by kernel_rfl) (by kernel_rfl) (StepsIf.yield (by kernel_rfl) (fun w' hS => by clear hS; go_simp)) ?_
      intro a' ha'
      simp only [Act.put, List.setIfInBounds_toArray, List.set_cons_zero, List.set_cons_succ] at ha'
      subst ha'
      refine AnyS.next (i := 10) (d := some 25) (v := .pointer (some ⟨g, off + x * 8, none⟩)) rfl rfl (by kernel_rfl) (by kernel_rfl) (by kernel_rfl) (StepsIf.yield (by kernel_rfl) (fun w' hS => by clear hS; go_simp)) ?_
      intro a' ha'
      simp only [Act.put, List.setIfInBounds_toArray, List.set_cons_zero, List.set_cons_succ] at ha'
      subst ha'
      refine AnyS.next (i := 11) (d := some 26) (v := .int .i64 X) rfl rfl (by kernel_rfl) (by kernel_rfl) (by kernel_rfl) (StepsIf.yield (by kernel_rfl) (fun w' hS => by have s := hS.1.2.2; clear hS; go_simp)) ?_
      intro a' ha'
      simp only [Act.put, List.setIfInBounds_toArray, List.set_cons_zero, List.set_cons_succ] at ha'
      subst ha'
      refine AnyS.next (i := 12) (d := some 27) (v := .bool r) rfl rfl (by kernel_rfl) (by kernel_rfl) (by kernel_rfl) (StepsIf.call (by kernel_rfl) (fun w' hS => by clear hS; go_simp) (fun w' hS => (HKID w').mono fun e w'' h => ⟨h.1, h.2 ▸ hS⟩)) ?_
      intro a' ha'
      simp only [Act.put, List.setIfInBounds_toArray, List.set_cons_zero, List.set_cons_succ] at ha'
      subst ha'
      refine AnyS.next (i := 13) (d := some 28) (v := .bool (!r)) rfl rfl (by kernel_rfl) (by kernel_rfl) (by kernel_rfl) (StepsIf.yield (by kernel_rfl) (fun w' hS => by clear hS; go_simp)) ?_
      intro a' ha'
      simp only [Act.put, List.setIfInBounds_toArray, List.set_cons_zero, List.set_cons_succ] at ha'
      subst ha'
      refine AnyS.done (by kernel_rfl) (fun w6 hS => ?_) _
      obtain ⟨_, rfl⟩ := hS
      clear HKID
      generalize wr.drew = w7 at *
      cases r with
      | true =>
        go_wp2_with fail
        go_roundw
        case rel =>
          refine ⟨k + 1, by omega, by simp, fun j hj hjk => ?_, HB3.out⟩
          by_cases hje : j = k
          · subst hje
            rw [HXX.out, show ((x : Int)).toNat = x from rfl, HKX.out]
            exact HRR.out
          · exact HKS.out j hj (by omega)
        case measure => simp [intOf]; omega
      | false =>
        have HRES := Lib.hid (show R = false by
          rw [HKO1.out, List.all_eq_false]
          refine ⟨kr[k], List.getElem_mem hkl, ?_⟩
          rw [HXX.out, show ((x : Int)).toNat = x from rfl, HKX.out, HRR.out]
          decide)
        go_wp2_with fail
        go_ret
        exact ⟨by rw [HRES.out] <;> rfl, HB.out.trans (HB3.out.mono HB.out.size)⟩
    · obtain rfl : k = kr.length := by omega
      have hdk : decide ((kr.length : Int) < (kr.length : Int)) = false := by simp
      have hdk2 : decide (kr.length < kr.length) = false := by simp
      have HRES := Lib.hid (show R = true by
        rw [HKO1.out, List.all_eq_true]
        intro y hy
        obtain ⟨j, hj, rfl⟩ := List.getElem_of_mem hy
        exact HKS.out j hj hj)
      go_wp2_with fail
      go_ret
      exact ⟨by rw [HRES.out] <;> rfl, HB.out.trans (HB3.out.mono HB.out.size)⟩
set_option maxRecDepth 100000 in
set_option maxHeartbeats 16000000 in
theorem aRight_calls (l : List NdN) (hl : l.length ≤ 1000000) (a : Option Addr) (cap : Nat) (w : World) (h : NodesAt l a w) :
    Calls Tryz.prog 17 #[.slice a l.length cap] w fun e w' => e = .returned (.bool (rightR l)) ∧ Below w.heap.size w w' := by
  have HTO := Lib.hid (treeOf_calls l hl a cap w h)
  have HN := Lib.hid h
  clear h
  go_enter Tryz.func17, Tryz.ntmps17
  go_wp2_with fail
  refine HTO.out.mono ?_
  rintro e w1 ⟨hb, ⟨hf, rfl⟩ | ⟨hf, b, rfl, hi⟩⟩
  · clear HTO
    have HRR := Lib.hid (show rightR l = false by unfold rightR; rw [decide_eq_false hf]; rfl)
    have hB := Lib.hid (hb.alloc hb.size (.cells (trC none 0 0 none 0 0) 65))
    clear hf
    go_wp2_with fail
    go_ret
    exact ⟨by rw [HRR.out] <;> rfl, hB.out⟩
  · clear HTO
    obtain ⟨hz, hwb⟩ := SzAt.of (formed_ne hf) hi
    have hB1 := hb.alloc hb.size (.cells (trC a l.length cap (some ⟨b, 0, none⟩) l.length l.length) 65)
    have hZ1 := hz.below ((Below.refl _ _).alloc (Nat.le_refl _) (.cells (trC a l.length cap (some ⟨b, 0, none⟩) l.length l.length) 65))
    have hT1 := Blk.new w1 (trC a l.length cap (some ⟨b, 0, none⟩) l.length l.length) 65
    have hsz1 : w1.heap.size < (w1.alloc (.cells (trC a l.length cap (some ⟨b, 0, none⟩) l.length l.length) 65)).heap.size := by simp
    clear hi hz hb
    have HRK := Lib.hid (fun i hlt W h1 h2 => rightKids_calls l hl hf i hlt a cap b W h1 h2)
    have HND := Lib.hid aright_calls
    have HOK := Lib.hid (okN_split l)
    have HNO := Lib.hid (rightR_no l)
    have HKD := Lib.hid (kdN_get l)
    have HGS := Lib.hid (grpN_step l)
    have HGL := Lib.hid (grpN_le l)
    have HR := Lib.hid (show rightR l = ((List.range l.length).all (okN l) && decide (grpN l l.length ≤ 9)) by unfold rightR; rw [decide_eq_true hf]; rfl)
    clear hf
    go_upto_region 5 with fail
    generalize w1.alloc (.cells (trC a l.length cap (some ⟨b, 0, none⟩) l.length l.length) 65) = w2 at *
    have hwb2 : b < w2.heap.size := hZ1.1
    go_upto_region 6 with fail
    go_loopw [5, 17] (fun v x wr => ∃ i : Nat, i ≤ l.length ∧ x = .int .i64 i ∧ v = .int .i64 (grpN l i : Nat) ∧ (∀ j, j < i → okN l j = true) ∧ Below w.heap.size w wr ∧ Blk wr w1.heap.size (trC a l.length cap (some ⟨b, 0, none⟩) l.length l.length) 65 ∧ SzAt l b wr) (fun _ x _ => l.length - (intOf x).toNat)
    case atStart => exact ⟨0, Nat.zero_le _, rfl, rfl, fun j hj => by omega, hB1, hT1, hZ1⟩
    case round =>
      clear hB1 hT1 hZ1
      obtain ⟨i, hi, rfl, rfl, hok, hB, hT, hZ⟩ := hrel
      have HB := Lib.hid hB
      have HOKS := Lib.hid hok
      have HZ := Lib.hid hZ
      by_cases hlt : i < l.length
      · have hd : decide ((i : Int) < (l.length : Int)) = true := by rw [decide_eq_true_iff]; omega
        have hd2 : decide (i < l.length) = true := by rw [decide_eq_true_iff]; omega
        have hne : l ≠ [] := by rintro rfl; simp at hlt
        obtain ⟨g, off, rfl, hg, hc⟩ := HN.out hne
        have hcell := fun (j : Nat) (hj : j < 8) => (hB.cell (p := ⟨g, off + i * 8 + j, none⟩) hg).trans (hc i hlt j hj)
        have hki := HKD.out i hlt
        have hoki := HOK.out i hlt
        have hgl := HGL.out i
        have hgs := HGS.out i
        have HNO1 := Lib.hid (HNO.out i hlt)
        have HNDD := Lib.hid (HND.out l[i].kind l[i].kids l[i].n l[i].m l[i].set)
        rw [show nodeF ⟨l[i].kind, l[i].kids, l[i].n, l[i].m, l[i].set⟩ = nodeF l[i] from rfl] at HNDD
        have d0 := hcell 0 (by decide); have d1 := hcell 1 (by decide); have d2 := hcell 2 (by decide); have d3 := hcell 3 (by decide); have d4 := hcell 4 (by decide); have d5 := hcell 5 (by decide); have d6 := hcell 6 (by decide); have d7 := hcell 7 (by decide)
        simp only [ndA, List.getElem?_toArray, List.getElem?_cons_zero, List.getElem?_cons_succ, Nat.add_zero] at d0 d1 d2 d3 d4 d5 d6 d7
        rw [hki] at hgs
        clear hcell hc hne hki hok
        generalize l[i].kind = k at *
        generalize l[i].kids = kc at *
        generalize l[i].n = kn at *
        generalize l[i].m = km at *
        generalize l[i].set = kt at *
        generalize nodeF l[i] = nf at *
        have hN := Blk.new wr (ndI k kc kn km kt) 45
        have hT2 := hT.alloc (.cells (ndI k kc kn km kt) 45)
        have hB2 := hB.alloc hB.size (.cells (ndI k kc kn km kt) 45)
        have hsn : wr.heap.size < (wr.alloc (.cells (ndI k kc kn km kt) 45)).heap.size := by simp
        have hs1 : w1.heap.size < wr.heap.size := hT.lt
        have hZ2 := hZ.below ((Below.refl _ _).alloc (Nat.le_refl _) (.cells (ndI k kc kn km kt) 45))
        clear hB hT hZ HB HZ
        go_upto_region 8 with fail
        clear d0 d1 d2 d3 d4 d5 d6 d7
        generalize wr.alloc (.cells (ndI k kc kn km kt) 45) = wn at *
        have c0 := hN.cell 0; have c1 := hN.cell 1; have c2 := hN.cell 2; have c3 := hN.cell 3; have c4 := hN.cell 4; have c5 := hN.cell 5; have c6 := hN.cell 6; have c7 := hN.cell 7
        simp only [List.getElem?_toArray, List.getElem?_cons_zero, List.getElem?_cons_succ] at c0 c1 c2 c3 c4 c5 c6 c7
        go_wp2_with fail
        refine (HNDD.out _).mono ?_
        rintro e w3 ⟨rfl, hb3⟩
        have hB3 := hB2.trans (hb3.mono hB2.size)
        have hT3 := hT2.below hb3 hT2.lt
        have hZ3 := hZ2.below hb3
        have hN3 := hN.below hb3 hN.lt
        clear c0 c1 c2 c3 c4 c5 c6 c7 hb3 hB2 hT2 hZ2 hN HNDD
        cases nf with
        | false =>
          have HRR := Lib.hid (HNO1.out (by rw [hoki]; rfl))
          clear hoki
          go_wp2_with fail
          go_ret
          exact ⟨by rw [HRR.out] <;> rfl, hB3⟩
        | true =>
          rw [Bool.true_and] at hoki
          have t0 := hT3.cell 0; have t1 := hT3.cell 1
          simp only [List.getElem?_toArray, List.getElem?_cons_zero, List.getElem?_cons_succ] at t0 t1
          have HRKI := Lib.hid (HRK.out i hlt)
          generalize kidsOkB l i = ko at *
          go_wp2_with fail
          refine (HRKI.out _ (HN.out.below hB3) hZ3).mono ?_
          rintro e w4 ⟨rfl, hb4⟩
          have hB4 := hB3.trans (hb4.mono hB3.size)
          have hT4 := hT3.below hb4 hT3.lt
          have hZ4 := hZ3.below hb4
          have hN4 := hN3.below hb4 hN3.lt
          clear t0 t1 hb4 hB3 hT3 hZ3 hN3 HRKI
          cases ko with
          | false =>
            have HRR := Lib.hid (HNO1.out hoki)
            clear hoki
            go_wp2_with fail
            go_ret
            exact ⟨by rw [HRR.out] <;> rfl, hB4⟩
          | true =>
            have c0 := hN4.cell 0
            simp only [List.getElem?_toArray, List.getElem?_cons_zero] at c0
            have HOKI := Lib.hid hoki
            have xg : IntKind.i64.wrap ((grpN l i : Nat) + 1 : Int) = ((grpN l i : Nat) : Int) + 1 := IntWalk.i64_in _ (by omega)
            have xi : IntKind.i64.wrap ((i : Int) + 1) = (i : Int) + 1 := IntWalk.i64_in _ (by omega)
            clear hoki hN4
            by_cases h3 : k = 3
            · have q : (k == 3) = true := by rw [h3]; rfl
              rw [q, if_pos rfl] at hgs
              have HGG := Lib.hid hgs
              clear hgs h3
              generalize grpN l i = G at *
              go_wp2_with fail
              go_roundw
              case rel =>
                refine ⟨i + 1, by omega, by simp, by rw [HGG.out] <;> rfl, fun j hj => ?_, hB4, hT4, hZ4⟩
                by_cases hji : j = i
                · subst hji; exact HOKI.out
                · exact HOKS.out j (by omega)
              case measure => simp [intOf]; omega
            · have q : (k == 3) = false := by rw [beq_eq_false_iff_ne]; exact h3
              rw [q] at hgs
              have HGG := Lib.hid hgs
              clear hgs h3
              generalize grpN l i = G at *
              go_wp2_with fail
              go_roundw
              case rel =>
                refine ⟨i + 1, by omega, by simp, by rw [HGG.out] <;> rfl, fun j hj => ?_, hB4, hT4, hZ4⟩
                by_cases hji : j = i
                · subst hji; exact HOKI.out
                · exact HOKS.out j (by omega)
              case measure => simp [intOf]; omega
      · obtain rfl : i = l.length := by omega
        have hd : decide ((l.length : Int) < (l.length : Int)) = false := by simp
        have hd2 : decide (l.length < l.length) = false := by simp
        have hall : (List.range l.length).all (okN l) = true := by
          rw [List.all_eq_true]
          exact fun x hx => HOKS.out x (List.mem_range.1 hx)
        have HRR := Lib.hid (show rightR l = decide (grpN l l.length ≤ 9) by rw [HR.out, hall]; rfl)
        clear hall hok hB hT hZ
        have q9 : decide (((grpN l l.length : Nat) : Int) ≤ 9) = decide (grpN l l.length ≤ 9) := by rw [Bool.eq_iff_iff, decide_eq_true_iff, decide_eq_true_iff]; omega
        generalize grpN l l.length = G at *
        go_wp2_with fail
        go_ret
        exact ⟨by rw [HRR.out] <;> simp, HB.out⟩
end Go.Proofs.YtbccojjcdcighaaGreatDoor

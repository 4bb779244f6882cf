/- Texts put together: Yb Ma Mb Mc Me. -/
import Derived.Test.YthodphgbdmnpoaaGreatDoorPI
import Derived.Test.YthodphgbdmnpoaaGreatDoorPB
import Derived.Test.YthodphgbdmnpoaaGreatDoorPD
import Derived.Lib.Hide
import Derived.LoopTactic
import Derived.Handy
import Derived.WalkLawsBesides
import Derived.IntWalk
import Derived.BigQuiet
import Derived.Outline
import Derived.Deep.QuietTactic
import Derived.Deep.DeepCutAuto
import Derived.Laws.ResultCell
import Derived.Test.YthodphgbdmnpoaaGreatDoorPC
/- The developers' trees: a tree's kids; Formed, Sizes, Kids. -/
namespace Go.Proofs.YthodphgbdmnpoaaGreatDoor
open Go.RowKit BS

/-- A tree's sizes in memory. -/
def SzAt (l : List NdN) (b : Nat) (W : World) : Prop := b < W.heap.size ∧ ∀ i (h : i < (sizesR l).length), W.cell? ⟨b, i, none⟩ = some (.int .i64 (sizesR l)[i])
theorem SzAt.below {l : List NdN} {b : Nat} {W W' : World} (h : SzAt l b W) (hb : Below W.heap.size W W') : SzAt l b W' :=
  ⟨Nat.lt_of_lt_of_le h.1 hb.size, fun i hi => (hb.cell (p := ⟨b, i, none⟩) h.1).trans (h.2 i hi)⟩
theorem SzAt.of {l : List NdN} (hne : sizesR l ≠ []) {b n : Nat} {W : World} (h : IntsB n (sizesR l) (some ⟨b, 0, none⟩) W) : SzAt l b W ∧ n ≤ b := by
  obtain ⟨g, o, e, h0, hg, hc⟩ := h hne
  cases e
  exact ⟨⟨hg, fun i hi => by rw [← hc i hi, Nat.zero_add]⟩, h0⟩
/-- Whole numbers, as cells. -/
def intsV (l : List Int) : Array Value := (l.map (Value.int .i64)).toArray
theorem intsV_size (l : List Int) : (intsV l).size = l.length := by simp [intsV]
theorem intsV_get (l : List Int) (i : Nat) (h : i < l.length) : (intsV l)[i]? = some (.int .i64 l[i]) := by simp [intsV, h]
theorem intsV_ext (l : List Int) (vs : Array Value) (hs : vs.size = l.length) (h : ∀ i (h : i < l.length), vs[i]? = some (.int .i64 l[i])) : vs = intsV l := by
  apply Array.ext
  · rw [hs, intsV_size]
  · intro i h1 h2
    rw [hs] at h1
    have e1 := h i h1
    have e2 := intsV_get l i h1
    rw [Array.getElem?_eq_getElem (by omega)] at e1
    rw [Array.getElem?_eq_getElem (by rw [intsV_size]; exact h1)] at e2
    exact Option.some.inj (e1.trans e2.symm)

set_option maxRecDepth 100000 in
set_option maxHeartbeats 16000000 in
theorem tKids_calls (l : List NdN) (hl : l.length ≤ 1000000) (hf : manyF 0 (l.map NdN.kids) = some 1) (i : Nat) (hlt : i < l.length) (a : Option Addr) (cap g2 : Nat) (w : World) (h : NodesAt l a w) (hZ : SzAt l g2 w) :
    Calls Tryz.prog 31 #[.agg (trC a l.length cap (some ⟨g2, 0, none⟩) l.length l.length), .int .i64 i] w fun e w' => ∃ b, e = .returned (.slice (some ⟨b, 0, none⟩) (kidsR l i).length (kidsR l i).length) ∧ w.heap.size ≤ b ∧ Blk w' b (intsV (kidsR l i)) 3 ∧ Below w.heap.size w w' := by
  have hsr : (sizesR l).length = l.length := by
    unfold sizesR
    rw [if_pos hf, List.length_map, sizesF_len]; simp [ksN]
  obtain ⟨hk0, hst⟩ := (formed_iff (l.map NdN.kids)).1 hf
  have hst : stackF [] (ksN l) = some [(l.map NdN.kids).length] := hst
  have hkl : (ksN l).length = l.length := by simp [ksN]
  have hlk : i < (ksN l).length := by rw [hkl]; exact hlt
  have hne : l ≠ [] := by rintro rfl; simp at hlt
  obtain ⟨g, off, rfl, hg, hc⟩ := h hne
  obtain ⟨s, hs, hks, hsum⟩ := stack_at (ksN l) [] _ hst i hlk
  obtain ⟨hr, ht, _⟩ := roots_at (ksN l) i hlk s hs
  rw [← ht] at hr
  have hpl := len_le_sum s (stackF_pos ((ksN l).take i) [] s (by simp) hs)
  have hkk : (l[i].kids : Int) = ((ksN l)[i] : Nat) := by
    have h0 := hk0 l[i].kids (List.mem_map_of_mem (List.getElem_mem hlt))
    simp only [ksN, List.getElem_map]
    omega
  have hR : sizesR l = (sizesF [] (ksN l)).map (fun x : Nat => (x : Int)) := if_pos hf
  have hsl : (sizesF [] (ksN l)).length = l.length := by rw [sizesF_len, hkl]
  have hkid : kidsR l i = (((posF i s).take (ksN l)[i]).reverse).map (fun x : Nat => (x : Int)) := by
    unfold kidsR
    rw [if_pos ⟨hf, by omega, by omega⟩, show (i : Int).toNat = i from rfl, allKids_at (ksN l) i hlk s hs]
    rfl
  have htl : ((sizesF [] (ksN l)).take i).length = i := by rw [List.length_take]; omega
  generalize hK : (ksN l)[i] = K at *
  generalize sizesF [] (ksN l) = sz at *
  have hsumi : s.sum = i := by simpa using hsum
  have hPl : ((posF i s).take K).length = K := by rw [List.length_take, posF_len]; omega
  have hc1 := hc i hlt 1 (by decide)
  have c0 : w.cell? ⟨g, off + i * 8 + 1, none⟩ = some (.int .i64 (K : Int)) := by rw [← hkk]; exact hc1
  have hKL : (kidsR l i).length = K := by rw [hkid, List.length_map, List.length_reverse, hPl]
  have HK := Lib.hid hkid
  have HKLN := Lib.hid hKL
  have HRT := Lib.hid hr
  have HR := Lib.hid hR
  have HPL := Lib.hid hPl
  have HZ := Lib.hid hZ
  have HSR := Lib.hid hsr
  clear hkid hr hR hPl hc1 hk0 hst hs ht hkk hsum hc hf hne hlk hkl hK hKL hZ hsr h
  have hmk := fun W => run_make_row' (P := Tryz.prog) 52 3 (.int .i64 0) 8 Tryz.underlying52 (by kernel_rfl) rfl .i64 .i64 K (by omega) (by omega) W
  have hmz : (madeCells #[Value.int .i64 0] K).size = K := by simp [madeCells]
  have xi : IntKind.i64.wrap ((i : Int) - 1) = (i : Int) - 1 := IntWalk.i64_in _ (by omega)
  have xK : IntKind.i64.wrap ((K : Int) - 1) = (K : Int) - 1 := IntWalk.i64_in _ (by omega)
  have hii : (i : Int) < (l.length : Int) := by omega
  have hd : decide (i < l.length) = true := by rw [decide_eq_true_iff]; omega
  generalize madeCells #[Value.int .i64 0] K = vs0 at *
  go_enter Tryz.func31, Tryz.ntmps31
  have hT := Blk.new w (trC (some ⟨g, off, none⟩) l.length cap (some ⟨g2, 0, none⟩) l.length l.length) 54
  have hB1 : Below w.heap.size w (w.alloc (.cells (trC (some ⟨g, off, none⟩) l.length cap (some ⟨g2, 0, none⟩) l.length l.length) 54)) := by go_grown
  have hz1 : w.heap.size + 1 = (w.alloc (.cells (trC (some ⟨g, off, none⟩) l.length cap (some ⟨g2, 0, none⟩) l.length l.length) 54)).heap.size := by simp
  go_upto_region 1 with fail
  generalize w.alloc (.cells (trC (some ⟨g, off, none⟩) l.length cap (some ⟨g2, 0, none⟩) l.length l.length) 54) = w1 at *
  have c1 := (hB1.cell (p := ⟨g, off + i * 8 + 1, none⟩) hg).trans c0
  have t0 := hT.cell 0; have t1 := hT.cell 1
  simp only [List.getElem?_toArray, List.getElem?_cons_zero, List.getElem?_cons_succ] at t0 t1
  have hBn := Blk.new w1 vs0 3
  have hB0 : Below w1.heap.size w1 (w1.alloc (.cells vs0 3)) := (Below.refl _ _).alloc (Nat.le_refl _) _
  have HB1 := Lib.hid hB1
  go_upto_region 2 with fail
  generalize hw2 : w1.alloc (.cells vs0 3) = w2 at *
  have hT2 : Blk w2 w.heap.size (trC (some ⟨g, off, none⟩) l.length cap (some ⟨g2, 0, none⟩) l.length l.length) 54 := by rw [← hw2]; exact hT.alloc _
  clear hmk hw2 c1 t0 t1 c0 hB1 hT
  have HT2 := Lib.hid hT2
  clear hT2
  go_upto_region 4 with fail
  go_loopw [6, 7] (fun va vk wr => ∃ j : Nat, j ≤ K ∧ va = .int .i64 ((i : Int) - 1 - ((s.take j).sum : Nat)) ∧ vk = .int .i64 ((K : Int) - 1 - (j : Int)) ∧ (∃ vs : Array Value, vs.size = K ∧ (∀ t, t < j → vs[K - 1 - t]? = some (.int .i64 ((i - (s.take t).sum - 1 : Nat) : Int))) ∧ Blk wr w1.heap.size vs 3) ∧ Below w1.heap.size w1 wr ∧ Blk wr w.heap.size (trC (some ⟨g, off, none⟩) l.length cap (some ⟨g2, 0, none⟩) l.length l.length) 54) (fun _ vk _ => (intOf vk + 1).toNat)
  case atStart => exact ⟨0, Nat.zero_le _, by simp, by simp, ⟨vs0, hmz, fun t ht => by omega, hBn⟩, hB0, HT2.out⟩
  case round =>
    clear hBn hB0 hmz HT2
    obtain ⟨j, hj, rfl, rfl, ⟨vs, hvs, hno, hb⟩, hB, hT⟩ := hrel
    by_cases hjl : j < K
    · obtain ⟨r1, r2⟩ := HRT.out j (by omega)
      rw [htl] at r1 r2
      have hts := take_sum s j (by omega)
      have hle2 := take_sum_le s (j + 1)
      generalize hS : (s.take j).sum = S at *
      generalize hS1 : (s.take (j + 1)).sum = S1 at *
      generalize s[j] = z at *
      have hpz : i - 1 - S < sz.length := by omega
      have hz : sz[i - 1 - S] = z := by
        rw [List.getElem?_take, if_pos (by omega), List.getElem?_eq_getElem hpz] at r2
        exact Option.some.inj r2
      have hps : i - 1 - S < (sizesR l).length := by have := HSR.out; omega
      have hg2 := HZ.out.1
      have hg21 : g2 < w1.heap.size := by omega
      have cz := (hB.cell (p := ⟨g2, i - 1 - S, none⟩) hg21).trans ((HB1.out.cell (p := ⟨g2, i - 1 - S, none⟩) hg2).trans (HZ.out.2 (i - 1 - S) hps))
      have ez : (sizesR l)[i - 1 - S] = (z : Int) := by simp only [HR.out, List.getElem_map, hz]
      rw [ez] at cz
      obtain ⟨old, hold⟩ : ∃ old, vs[K - 1 - j]? = some old := ⟨vs[K - 1 - j]'(by omega), by simp [show K - 1 - j < vs.size by omega]⟩
      have hci := (hb.cell (K - 1 - j)).trans hold
      have hfi := hb.frozen (K - 1 - j)
      have hat : (i : Int) - 1 - (S : Int) = ((i - 1 - S : Nat) : Int) := by omega
      have hkt : (K : Int) - 1 - (j : Int) = ((K - 1 - j : Nat) : Int) := by omega
      have cz2 : ((wr.setCell ⟨w1.heap.size, K - 1 - j, none⟩ (.int .i64 ((i - 1 - S : Nat) : Int)))).cell? ⟨g2, i - 1 - S, none⟩ = some (.int .i64 (z : Int)) := (World.cell?_of_block (w := wr) (a := ⟨g2, i - 1 - S, none⟩) (Below.heap_setCell wr ⟨w1.heap.size, K - 1 - j, none⟩ _ g2 (Nat.ne_of_lt hg21))).trans cz
      have hTS := hT.other (show w.heap.size ≠ w1.heap.size by omega) (K - 1 - j) (.int .i64 ((i - 1 - S : Nat) : Int))
      have t1 := hTS.cell 1
      simp only [List.getElem?_toArray, List.getElem?_cons_zero, List.getElem?_cons_succ] at t1
      have HTS := Lib.hid hts
      have HLE2 := Lib.hid hle2
      have HAT := Lib.hid hat
      have HKT := Lib.hid hkt
      have HS1 := Lib.hid hS1
      have HSS := Lib.hid hS
      have HNO := Lib.hid hno
      have HBK := Lib.hid hb
      have HB := Lib.hid hB
      have HTT := Lib.hid hTS
      have hpn : i - 1 - S < l.length := by omega
      have hzb : S + z ≤ i := by omega
      rw [hat, hkt]
      clear hts hle2 hat hkt hS hS1 r1 r2 hz ez hold hno hb hB hps hpz cz hT hTS
      generalize hP : i - 1 - S = p at *
      have HP := Lib.hid hP
      clear hP
      generalize hQ : K - 1 - j = qk at *
      have hqK : qk < K := by omega
      have HQ := Lib.hid hQ
      clear hQ
      have xz : IntKind.i64.wrap ((p : Int) - (z : Int)) = (p : Int) - (z : Int) := IntWalk.i64_in _ (by omega)
      have xq : IntKind.i64.wrap ((qk : Int) - 1) = (qk : Int) - 1 := IntWalk.i64_in _ (by omega)
      have hq0 : decide ((0 : Int) ≤ (qk : Int)) = true := by rw [decide_eq_true_iff]; omega
      have XZ := Lib.hid xz
      have XQ := Lib.hid xq
      go_wp2_with fail
      go_roundw
      case rel =>
        have e1 := HTS.out
        have e2 := HAT.out
        have e3 := HS1.out
        have e4 := XZ.out
        have e5 := XQ.out
        have e6 := HKT.out
        have e7 := HQ.out
        have e8 := HP.out
        refine ⟨j + 1, by omega, by rw [e3, e1]; congr 1; omega, by congr 1; omega, ⟨vs.setIfInBounds qk (.int .i64 (p : Int)), by simp [hvs], fun t ht => ?_, HBK.out.set qk _⟩, below_set HB.out (Nat.le_refl _) qk _, HTT.out⟩
        by_cases htj : t = j
        · subst htj
          rw [e7, HSS.out]
          have : i - S - 1 = p := by omega
          rw [this]
          simp [hvs, hqK]
        · rw [Array.getElem?_setIfInBounds_ne (by omega)]
          exact HNO.out t (by omega)
      case measure => simp [intOf] <;> omega
    · obtain rfl : j = K := by omega
      have hq0 : decide ((0 : Int) ≤ (j : Int) - 1 - (j : Int)) = false := by rw [decide_eq_false_iff_not]; omega
      have HB := Lib.hid hB
      have HBK := Lib.hid hb
      have HNO := Lib.hid hno
      clear hB hb hno hT
      go_wp2_with fail
      go_ret
      have hkl := HKLN.out
      have hvv : vs = intsV (kidsR l i) := intsV_ext _ _ (by rw [hvs, hkl]) fun x hx => by
        rw [hkl] at hx
        have h1 := HNO.out (j - 1 - x) (by omega)
        rw [show j - 1 - (j - 1 - x) = x by omega] at h1
        rw [h1]
        have hlen := HPL.out
        have hg' : (kidsR l i)[x] = ((((posF i s).take j)[j - 1 - x]'(by omega) : Nat) : Int) := by
          simp only [HK.out, List.getElem_map, List.getElem_reverse, hlen]
        rw [hg', List.getElem_take, posF_get]
      rw [← hvv]
      refine ⟨w1.heap.size, by rw [hkl] <;> rfl, by omega, HBK.out, HB1.out.trans (HB.out.mono HB1.out.size)⟩

theorem formed_ne {l : List NdN} (hf : manyF 0 (l.map NdN.kids) = some 1) : sizesR l ≠ [] := by
  have hsr : (sizesR l).length = l.length := by
    unfold sizesR
    rw [if_pos hf, List.length_map, sizesF_len]; simp [ksN]
  intro h
  rw [h] at hsr
  have : l = [] := List.length_eq_zero_iff.1 (by simpa using hsr.symm)
  subst this
  cases hf
theorem sizesR_no {l : List NdN} (hf : manyF 0 (l.map NdN.kids) ≠ some 1) : sizesR l = [] := if_neg hf

end Go.Proofs.YthodphgbdmnpoaaGreatDoor

/- The developers' counts: plainly; fault, short, signs, right, full, most. -/
namespace Go.Proofs.YthodphgbdmnpoaaGreatDoor
open Go.RowKit

/-! ### Plainly -/
def fullD (v d : Nat) : Bool := d == 2 || (decide (0 < d) && v == 0)
def mostD (v d : Nat) : Nat := if fullD v d = true then v else 10 * v + 9
/-- Value, digits, place, error. -/
def digD (s : ByteArray) (least : Nat) : Nat → Nat → Nat → Nat → Nat × Nat × Nat × Nat
  | 0, i, v, d => (v, d, i, 0)
  | k + 1, i, v, d =>
    if 48 ≤ bt s i ∧ bt s i ≤ 57 then
      if fullD v d = true then (0, 0, i + 1, 6)
      else if mostD (10 * v + (bt s i - 48)) (d + 1) < least then (0, 0, i + 1, 6)
      else digD s least k (i + 1) (10 * v + (bt s i - 48)) (d + 1)
    else (v, d, i, 0)
def digsD (s : ByteArray) (i least : Nat) : Nat × Nat × Nat × Nat := digD s least (s.size - i) i 0 0
structure RD where
  n : Nat
  m : Int
  fin : Nat
  lack : List Nat
  err : Nat
def badC (e p : Nat) : RD := ⟨0, 0, p, [], e⟩
def shortR (s : ByteArray) (l : List Nat) : RD := ⟨0, 0, s.size, l, 2⟩
def okR (n : Nat) (m : Int) (p : Nat) : RD := ⟨n, m, p, [], 0⟩
def lessD (v d n : Nat) : Bool := decide (0 < d) && decide (v < n)
def commaD (s : ByteArray) (i n : Nat) : RD :=
  match digsD s i n with
  | (v, d, p, e) =>
    if e ≠ 0 then badC e p
    else if p = s.size ∧ lessD v d n = true then shortR s [57, 125]
    else if p = s.size then shortR s [125]
    else if bt s p ≠ 125 then badC 3 (p + 1)
    else if lessD v d n = true then badC 6 (p + 1)
    else if d = 0 then okR n (-1) (p + 1)
    else okR n v (p + 1)
def bracesD (s : ByteArray) (i : Nat) : RD :=
  match digsD s i 0 with
  | (v, d, p, e) =>
    if e ≠ 0 then badC e p
    else if p = s.size ∧ d = 0 then shortR s [48, 125]
    else if p = s.size then shortR s [125]
    else if 0 < d ∧ bt s p = 125 then okR v v (p + 1)
    else if 0 < d ∧ bt s p = 44 then commaD s (p + 1) v
    else badC 3 (p + 1)
def readD4 (s : ByteArray) (at' : Int) : RD :=
  if at' < 0 ∨ (s.size : Int) ≤ at' then badC 1 0
  else if bt s at'.toNat = 123 then bracesD s (at'.toNat + 1)
  else if bt s at'.toNat = 42 then okR 0 (-1) (at'.toNat + 1)
  else if bt s at'.toNat = 43 then okR 1 (-1) (at'.toNat + 1)
  else if bt s at'.toNat = 63 then okR 0 1 (at'.toNat + 1)
  else badC 1 0

/-! ### Small functions -/
@[reducible] def rdI (n m p : Int) (l : ByteArray) (e : Int) : Array Value := #[.int .i64 n, .int .i64 m, .int .i64 p, .string l, .int .i64 e]
def rdA (r : RD) : Array Value := rdI r.n r.m r.fin (ofT r.lack) r.err
theorem infoRd : (Tryz.prog.info? 159).map (·.size) = some 5 := by kernel_rfl
theorem rdC_one (n m p : Int) (l : ByteArray) (e : Int) : ((rdI n m p l e).all fun x => x.oneCell') = true := by simp [Value.oneCell']
theorem infoNu : (Tryz.prog.info? 163).map (·.size) = some 2 := by kernel_rfl

set_option maxRecDepth 100000 in
set_option maxHeartbeats 1000000 in
theorem faultD_calls (e p : Int) (w : World) : Calls Tryz.prog 111 #[.int .i64 e, .int .i64 p] w fun en w' => en = .returned (.agg (rdI 0 0 p eT e)) ∧ Below w.heap.size w w' := by
  go_enter Tryz.func111, Tryz.ntmps111
  go_wp2
  have hR := Blk.new w (rdI 0 0 p eT e) 159
  have hB : Below w.heap.size w (w.alloc (.cells (rdI 0 0 p eT e) 159)) := by go_grown
  exact bodyPost_ret (v := .agg (rdI 0 0 p eT e)) (results_cell_row rfl _ _ w.heap.size 159 (rdI 0 0 p eT e) (0, 0) _ rfl hR Tryz.underlying159 rfl infoRd) rfl ⟨rfl, hB⟩

@[reducible] def sgI : Array Value := #[.int .u8 42, .int .i64 0, .int .i64 (-1), .int .u8 43, .int .i64 1, .int .i64 (-1), .int .u8 63, .int .i64 0, .int .i64 1]
theorem infoSg : (Tryz.prog.info? 100).map (·.size) = some 9 := by kernel_rfl
set_option maxRecDepth 100000 in
set_option maxHeartbeats 1000000 in
theorem signs_calls (w : World) : Calls Tryz.prog 52 #[] w fun en w' => en = .returned (.agg sgI) ∧ Below w.heap.size w w' := by
  go_enter Tryz.func52, Tryz.ntmps52
  go_wp2
  have hR := Blk.new w sgI 100
  have hB : Below w.heap.size w (w.alloc (.cells sgI 100)) := by go_grown
  exact bodyPost_ret (v := .agg sgI) (results_cell_row rfl _ _ w.heap.size 100 sgI (0, 0) _ rfl hR Tryz.underlying100 rfl infoSg) rfl ⟨rfl, hB⟩

set_option maxHeartbeats 1000000 in
theorem full_calls (v d : Nat) (w : World) : Calls Tryz.prog 116 #[.agg #[.int .i64 v, .int .i64 d]] w fun en w' => en = .returned (.bool (fullD v d)) ∧ Below w.heap.size w w' := by
  have q1 : ((d : Int) == 2) = (d == 2) := by rw [Bool.eq_iff_iff, beq_iff_eq, beq_iff_eq]; omega
  have q3 : ((v : Int) == 0) = (v == 0) := by rw [Bool.eq_iff_iff, beq_iff_eq, beq_iff_eq]; omega
  have q2 : decide (0 < (d : Int)) = decide (0 < d) := by rw [Bool.eq_iff_iff, decide_eq_true_iff, decide_eq_true_iff]; omega
  have HF := Lib.hid (show fullD v d = (d == 2 || (decide (0 < d) && v == 0)) from rfl)
  cases h1 : (d == 2) with
  | true =>
    rw [h1] at HF q1
    go_enter Tryz.func116, Tryz.ntmps116
    go_wp2
    go_ret
    exact ⟨by rw [HF.out] <;> simp, by go_grown⟩
  | false =>
    rw [h1] at HF q1
    cases h2 : decide (0 < d) with
    | false =>
      rw [h2] at HF q2
      go_enter Tryz.func116, Tryz.ntmps116
      go_wp2
      go_ret
      exact ⟨by rw [HF.out] <;> simp, by go_grown⟩
    | true =>
      rw [h2] at HF q2
      go_enter Tryz.func116, Tryz.ntmps116
      go_wp2
      go_ret
      exact ⟨by rw [HF.out] <;> simp, by go_grown⟩
set_option maxHeartbeats 1000000 in
theorem most_calls (v d : Nat) (hv : v ≤ 999) (w : World) : Calls Tryz.prog 117 #[.agg #[.int .i64 v, .int .i64 d]] w fun en w' => en = .returned (.int .i64 (mostD v d)) ∧ Below w.heap.size w w' := by
  have HF := Lib.hid (full_calls v d)
  have HM := Lib.hid (show mostD v d = if fullD v d = true then v else 10 * v + 9 from rfl)
  generalize mostD v d = M at *
  have hC := Blk.new w #[.int .i64 v, .int .i64 d] 163
  have hB : Below w.heap.size w (w.alloc (.cells #[.int .i64 v, .int .i64 d] 163)) := by go_grown
  have hz : w.heap.size ≤ (w.alloc (.cells #[.int .i64 v, .int .i64 d] 163)).heap.size := by simp
  cases h : fullD v d with
  | true =>
    rw [h] at HF HM
    obtain rfl : M = v := HM.out
    clear HM h
    go_enter Tryz.func117, Tryz.ntmps117
    go_wp2_with fail
    refine (HF.out _).mono ?_
    rintro e w1 ⟨rfl, hb⟩
    have c0 := (hC.below hb hC.lt).cell 0
    simp only [List.getElem?_toArray, List.getElem?_cons_zero] at c0
    have hB2 := hB.trans (hb.mono hz)
    clear hB hC hb HF
    go_wp2_with fail
    go_ret
    exact ⟨rfl, hB2⟩
  | false =>
    rw [h] at HF HM
    obtain rfl : M = 10 * v + 9 := HM.out
    clear HM h
    go_enter Tryz.func117, Tryz.ntmps117
    go_wp2_with fail
    refine (HF.out _).mono ?_
    rintro e w1 ⟨rfl, hb⟩
    have c0 := (hC.below hb hC.lt).cell 0
    simp only [List.getElem?_toArray, List.getElem?_cons_zero] at c0
    have hB2 := hB.trans (hb.mono hz)
    clear hB hC hb HF
    go_wp2_with fail
    go_ret
    exact ⟨by simp, hB2⟩

theorem rightN_nat (n m : Int) : rightN n m = (decide (0 ≤ n) && decide (n ≤ 99) && (m == -1 || (decide (n ≤ m) && decide (m ≤ 99)))) := rfl
set_option maxHeartbeats 1000000 in
theorem right_calls (n m : Int) (w : World) : Calls Tryz.prog 51 #[.agg #[.int .i64 n, .int .i64 m]] w fun en w' => en = .returned (.bool (rightN n m)) ∧ Below w.heap.size w w' := by
  have HF := Lib.hid (rightN_nat n m)
  generalize rightN n m = R at *
  by_cases h1 : n < 0
  · have q : decide (n < 0) = true := by simpa using h1
    have q0 : decide (0 ≤ n) = false := by rw [decide_eq_false_iff_not]; omega
    have hR : R = false := by rw [HF.out, q0]; rfl
    subst hR
    clear HF q0 h1
    go_enter Tryz.func51, Tryz.ntmps51
    go_wp2
    go_ret
    exact ⟨rfl, by go_grown⟩
  have q0 : decide (0 ≤ n) = true := by rw [decide_eq_true_iff]; omega
  rw [q0] at HF
  have q : decide (n < 0) = false := by rw [decide_eq_false_iff_not]; omega
  by_cases h2 : 99 < n
  · have q1 : decide (99 < n) = true := by simpa using h2
    have q3 : decide (n ≤ 99) = false := by rw [decide_eq_false_iff_not]; omega
    have hR : R = false := by rw [HF.out, q3]; rfl
    subst hR
    clear HF q0 h1 q3
    go_enter Tryz.func51, Tryz.ntmps51
    go_wp2
    go_ret
    exact ⟨rfl, by go_grown⟩
  have q1 : decide (99 < n) = false := by rw [decide_eq_false_iff_not]; omega
  have q3 : decide (n ≤ 99) = true := by rw [decide_eq_true_iff]; omega
  rw [q3] at HF
  clear q3 q0
  cases e1 : (m == -1) with
  | true =>
    rw [e1] at HF
    have hR : R = true := by rw [HF.out]; rfl
    subst hR
    clear HF h1 h2
    go_enter Tryz.func51, Tryz.ntmps51
    go_wp2
    go_ret
    exact ⟨rfl, by go_grown⟩
  | false =>
    rw [e1] at HF
    cases e2 : decide (n ≤ m) with
    | false =>
      rw [e2] at HF
      have hR : R = false := by rw [HF.out]; rfl
      subst hR
      clear HF h1 h2
      go_enter Tryz.func51, Tryz.ntmps51
      go_wp2
      go_ret
      exact ⟨rfl, by go_grown⟩
    | true =>
      rw [e2] at HF
      have hR : R = decide (m ≤ 99) := by rw [HF.out]; simp
      subst hR
      clear HF h1 h2
      go_enter Tryz.func51, Tryz.ntmps51
      go_wp2
      go_ret
      exact ⟨rfl, by go_grown⟩

set_option maxRecDepth 100000 in
set_option maxHeartbeats 1000000 in
theorem shortR_calls (s l : ByteArray) (w : World) : Calls Tryz.prog 114 #[.string s, .string l] w fun en w' => en = .returned (.agg (rdI 0 0 s.size l 2)) ∧ Below w.heap.size w w' := by
  have HF := Lib.hid (faultD_calls 2 s.size)
  have hC := Blk.new w (rdI 0 0 0 eT 0) 159
  have hB : Below w.heap.size w (w.alloc (.cells (rdI 0 0 0 eT 0) 159)) := by go_grown
  have hz : w.heap.size + 1 ≤ (w.alloc (.cells (rdI 0 0 0 eT 0) 159)).heap.size := by simp
  go_enter Tryz.func114, Tryz.ntmps114
  go_upto_region 1 with fail
  have e0 : w.alloc (.cells #[.int .i64 0, .int .i64 0, .int .i64 0, .string ⟨#[]⟩, .int .i64 0] 159) = w.alloc (.cells (rdI 0 0 0 eT 0) 159) := rfl
  rw [e0]
  clear e0
  generalize w.alloc (.cells (rdI 0 0 0 eT 0) 159) = w1 at *
  go_wp2_with fail
  refine (HF.out _).mono ?_
  rintro e w2 ⟨rfl, hb⟩
  have HR := Lib.hid ((hC.below hb hC.lt).alloc (.cells (rdI 0 0 s.size eT 2) 159))
  have HS := Lib.hid (Blk.new w2 (rdI 0 0 s.size eT 2) 159)
  have hz2 := Nat.le_trans hz hb.size
  have HB := Lib.hid ((hB.trans (hb.mono (by omega))).alloc (by omega) (.cells (rdI 0 0 s.size eT 2) 159))
  clear hC hB hz hb HF
  go_upto_region 2 with fail
  have e0 : w2.alloc (.cells #[.int .i64 0, .int .i64 0, .int .i64 s.size, .string ⟨#[]⟩, .int .i64 2] 159) = w2.alloc (.cells (rdI 0 0 s.size eT 2) 159) := rfl
  try rw [e0]
  clear e0
  generalize w2.alloc (.cells (rdI 0 0 s.size eT 2) 159) = w3 at *
  generalize w2.heap.size = B at *
  have c3 := HS.out.cell 3
  have f3 := HS.out.frozen 3
  simp only [List.getElem?_toArray, List.getElem?_cons_zero, List.getElem?_cons_succ] at c3
  go_upto_region 3 with fail
  clear c3 f3
  have hne : w.heap.size ≠ B := by omega
  have HR2 := Lib.hid (HR.out.other hne 3 (.string l))
  have hS2 : Blk (w3.setCell ⟨B, 3, none⟩ (.string l)) B (rdI 0 0 s.size l 2) 159 := HS.out.set 3 (.string l)
  have HB2 := Lib.hid (below_set HB.out (show w.heap.size ≤ B by omega) 3 (.string l))
  clear HR HS HB
  generalize w3.setCell ⟨B, 3, none⟩ (.string l) = w4 at *
  have c0 := hS2.cell 0
  have c1 := hS2.cell 1
  have c2 := hS2.cell 2
  have c3 := hS2.cell 3
  have c4 := hS2.cell 4
  simp only [List.getElem?_toArray, List.getElem?_cons_zero, List.getElem?_cons_succ] at c0 c1 c2 c3 c4
  clear hS2
  have HR := HR2
  go_wp2_with ((with_reducible refine wpList_store_st (o := ⟨none, .store 159 _ _, _, _, _, _⟩) rfl 159 _ _ rfl w.heap.size rfl rfl (run_storeAt_row _ w.heap.size 159 159 (rdI 0 0 0 eT 0) (rdI 0 0 s.size l 2) ?_ ?_ ?_ ?_) ?_); exact HR.out; exact infoRd; rfl; exact rdC_one _ _ _ _ _)
  exact bodyPost_ret (v := .agg (rdI 0 0 s.size l 2)) (results_cell_row rfl _ _ w.heap.size 159 (rdI 0 0 s.size l 2) (0, 0) _ rfl (Blk.setRow HR.out) Tryz.underlying159 rfl infoRd) rfl ⟨rfl, below_row HB2.out (by omega) _⟩
end Go.Proofs.YthodphgbdmnpoaaGreatDoor

/- The developers' counts: digits. -/
namespace Go.Proofs.YthodphgbdmnpoaaGreatDoor
open Go.RowKit

@[reducible] def nuI (v d : Int) : Array Value := #[.int .i64 v, .int .i64 d]
theorem nu_one (v d : Int) : ((nuI v d).all fun x => x.oneCell') = true := by simp [Value.oneCell']
def SDi (w : World) (v d : Int) (W : World) : Prop := (Blk W w.heap.size (nuI 0 0) 163 ∧ Blk W (w.heap.size + 1) (nuI v d) 163) ∧ Below w.heap.size w W
theorem SDi.drewS {w W : World} {v d : Int} (h : SDi w v d W) : SDi w v d W.drew := ⟨⟨h.1.1, h.1.2⟩, h.2.drew⟩
theorem SDi.keep {w W W' : World} {v d : Int} (h : SDi w v d W) (hb : Below W.heap.size W W') : SDi w v d W' := ⟨⟨h.1.1.below hb h.1.1.lt, h.1.2.below hb h.1.2.lt⟩, h.2.trans (hb.mono h.2.size)⟩
theorem SDi.set {w W : World} {v d v' d' : Int} (h : SDi w v d W) : SDi w v' d' ((W.setCell ⟨w.heap.size + 1, 0, none⟩ (.int .i64 v')).setCell ⟨w.heap.size + 1, 1, none⟩ (.int .i64 d')) := by
  have hne : w.heap.size ≠ w.heap.size + 1 := by omega
  exact ⟨⟨(h.1.1.other hne 0 _).other hne 1 _, (h.1.2.set 0 _).set 1 _⟩, below_set (below_set h.2 (show w.heap.size ≤ w.heap.size + 1 by omega) 0 _) (show w.heap.size ≤ w.heap.size + 1 by omega) 1 _⟩
def dgV (r : Nat × Nat × Nat × Nat) : Value := .tuple #[.agg (nuI r.1 r.2.1), .int .i64 r.2.2.1, .int .i64 r.2.2.2]
def InvD (v d : Nat) : Prop := d ≤ 2 ∧ (d = 0 → v = 0) ∧ (d ≤ 1 → v ≤ 9) ∧ v ≤ 99

set_option maxRecDepth 100000 in
set_option maxHeartbeats 16000000 in
theorem digsD_calls (s : ByteArray) (hs : s.size ≤ 1000000) (i0 least : Nat) (hi0 : i0 ≤ s.size) (w : World) :
    Calls Tryz.prog 113 #[.string s, .int .i64 i0, .int .i64 least] w fun en w' => en = .returned (dgV (digsD s i0 least)) ∧ Below w.heap.size w w' := by
  have hS0 : SDi w 0 0 ((w.alloc (.cells (nuI 0 0) 163)).alloc (.cells (nuI 0 0) 163)) := by
    refine ⟨⟨(Blk.new w _ _).alloc _, ?_⟩, by go_grown⟩
    have := Blk.new (w.alloc (.cells (nuI 0 0) 163)) (nuI 0 0) 163
    rwa [World.size_alloc] at this
  have HS0 := Lib.hid hS0
  clear hS0
  generalize hR : digsD s i0 least = R
  unfold digsD at hR
  have HRR := Lib.hid hR
  clear hR
  go_enter Tryz.func113, Tryz.ntmps113
  go_wp2_with fail
  have e0 : (w.alloc (.cells #[.int .i64 0, .int .i64 0] 163)).alloc (.cells #[.int .i64 0, .int .i64 0] 163) = (w.alloc (.cells (nuI 0 0) 163)).alloc (.cells (nuI 0 0) 163) := rfl
  try rw [e0]
  clear e0
  generalize (w.alloc (.cells (nuI 0 0) 163)).alloc (.cells (nuI 0 0) 163) = w1 at *
  go_loopw [1] (fun x wr => ∃ (v d i : Nat), InvD v d ∧ i ≤ s.size ∧ x = .int .i64 i ∧ digD s least (s.size - i) i v d = R ∧ SDi w v d wr) (fun x _ => s.size - (intOf x).toNat)
  case atStart => exact ⟨0, 0, i0, ⟨by omega, fun _ => rfl, by omega, by omega⟩, hi0, rfl, HRR.out, HS0.out⟩
  case round =>
    clear HRR HS0
    obtain ⟨v, d, i, hI, hi, rfl, hres, hS⟩ := hrel
    obtain ⟨i1, i2, i3, i4⟩ := hI
    by_cases hlt : i < s.size
    · have b0 : s[i].toNat = bt s i := (bt_eq s i hlt).symm
      have hb := bt_lt s i
      rw [show s.size - i = (s.size - (i + 1)) + 1 by omega, digD] at hres
      generalize bt s i = b at *
      by_cases hd : 48 ≤ b ∧ b ≤ 57
      · have hd1 := hd.1
        have hd2 := hd.2
        have q1 : decide ((48 : Int) ≤ (b : Int)) = true := by rw [decide_eq_true_eq]; omega
        have q2 : decide ((b : Int) ≤ 57) = true := by rw [decide_eq_true_eq]; omega
        rw [if_pos hd] at hres
        clear hd
        have HF := Lib.hid (full_calls v d)
        cases hf : fullD v d with
        | true =>
          rw [hf] at hres HF
          rw [if_pos rfl] at hres
          subst hres
          clear hf
          have c0 := hS.1.2.cell 0
          have c1 := hS.1.2.cell 1
          simp only [List.getElem?_toArray, List.getElem?_cons_zero, List.getElem?_cons_succ] at c0 c1
          have HS := Lib.hid hS
          clear hS
          go_wp2_with fail
          refine (HF.out _).mono ?_
          rintro e w2 ⟨rfl, hb2⟩
          have HS2 := Lib.hid (HS.out.keep hb2)
          clear HS hb2 HF c0 c1
          go_wp2_with ((with_reducible refine wpList_store_st (o := ⟨none, .store 163 _ _, _, _, _, _⟩) rfl 163 _ _ rfl w.heap.size rfl rfl (run_storeAt_row _ w.heap.size 163 163 (nuI 0 0) (nuI 0 0) ?_ ?_ ?_ ?_) ?_); exact HS2.out.1.1; exact infoNu; rfl; exact nu_one _ _)
          have hG := Blk.setRow (cs := nuI 0 0) HS2.out.1.1
          have e0 := hG.cell 0; have e1 := hG.cell 1
          simp only [List.getElem?_toArray, List.getElem?_cons_zero, List.getElem?_cons_succ] at e0 e1
          exact bodyPost_ret (v := .tuple #[.agg (nuI 0 0), .int .i64 ((i : Int) + 1), .int .i64 6]) (by simp [results, Tryz.results113, go_sem, e0, e1]) rfl ⟨rfl, below_row HS2.out.2 (Nat.le_refl _) _⟩
        | false =>
          rw [hf] at hres HF
          rw [if_neg (by decide)] at hres
          have hd01 : d ≤ 1 := by
            have h : ¬ (d = 2) := by rintro rfl; simp [fullD] at hf
            omega
          have hv9 : v ≤ 9 := i3 hd01
          have hInv : InvD (10 * v + (b - 48)) (d + 1) := by
            refine ⟨by omega, fun h => by omega, fun h => ?_, by omega⟩
            have h0 : d = 0 := by omega
            have := i2 h0
            omega
          have c0 := hS.1.2.cell 0
          have c1 := hS.1.2.cell 1
          simp only [List.getElem?_toArray, List.getElem?_cons_zero, List.getElem?_cons_succ] at c0 c1
          have HI := Lib.hid hInv
          have HS := Lib.hid hS
          clear hS hf i1 i2 i3 i4 hInv
          go_wp2_with fail
          refine (HF.out _).mono ?_
          rintro e w2 ⟨rfl, hb2⟩
          have HS2 := Lib.hid (HS.out.keep hb2)
          clear HS hb2 HF c0 c1
          have HM := Lib.hid (most_calls (10 * v + (b - 48)) (d + 1) (by omega))
          have HRES := Lib.hid hres
          clear hres
          have hx : 10 * (v : Int) + ((b : Int) - 48) = ((10 * v + (b - 48) : Nat) : Int) := by omega
          have hy : (d : Int) + 1 = ((d + 1 : Nat) : Int) := by omega
          have x1 : IntKind.i64.wrap (10 * (v : Int)) = 10 * (v : Int) := IntWalk.i64_in _ (by omega)
          have x2 : IntKind.u8.wrap ((b : Int) - 48) = (b : Int) - 48 := by rw [IntKind.wrap_u8]; omega
          have x3 : IntKind.i64.wrap ((b : Int) - 48) = (b : Int) - 48 := IntWalk.i64_in _ (by omega)
          have x4 : IntKind.i64.wrap ((10 * v + (b - 48) : Nat) : Int) = ((10 * v + (b - 48) : Nat) : Int) := IntWalk.i64_in _ (by omega)
          have x5 : IntKind.i64.wrap ((d + 1 : Nat) : Int) = ((d + 1 : Nat) : Int) := IntWalk.i64_in _ (by omega)
          generalize hV : 10 * v + (b - 48) = V at *
          generalize hD : d + 1 = D at *
          go_wp2_with fail
          refine region_stepsM (S := SDi w v d) (m := 13) rfl (by kernel_rfl) HS2.out.drewS ?_
          clear HS2
          simp only [List.size_toArray, List.length_cons, List.length_nil, Nat.reduceAdd, Array.replicate_succ, Array.replicate_zero, List.push_toArray, List.nil_append, List.cons_append]
          refine AnyM.next (m := 13) (i := 0) (d := some 31) (v := .pointer (some ⟨w.heap.size + 1, 0, none⟩)) rfl rfl (by kernel_rfl) (by kernel_rfl) (by kernel_rfl) (by kernel_rfl) (StepsIf.yield (by kernel_rfl) (fun w' hS => by clear hS; go_simp)) ?_
          intro a' ha'
          simp only [Act.put, List.setIfInBounds_toArray, List.set_cons_zero, List.set_cons_succ] at ha'
          subst ha'
          refine AnyM.next (m := 13) (i := 1) (d := some 32) (v := .int .i64 v) rfl rfl (by kernel_rfl) (by kernel_rfl) (by kernel_rfl) (by kernel_rfl) (StepsIf.yield (by kernel_rfl) (fun w' hS => by have c0 := hS.1.2.cell 0; have c1 := hS.1.2.cell 1; simp only [List.getElem?_toArray, List.getElem?_cons_zero, List.getElem?_cons_succ] at c0 c1; clear hS; go_simp)) ?_
          intro a' ha'
          simp only [Act.put, List.setIfInBounds_toArray, List.set_cons_zero, List.set_cons_succ] at ha'
          subst ha'
          refine AnyM.next (m := 13) (i := 2) (d := some 33) (v := .int .i64 (10 * v)) rfl rfl (by kernel_rfl) (by kernel_rfl) (by kernel_rfl) (by kernel_rfl) (StepsIf.yield (by kernel_rfl) (fun w' hS => by clear hS; go_simp)) ?_
          intro a' ha'
          simp only [Act.put, List.setIfInBounds_toArray, List.set_cons_zero, List.set_cons_succ] at ha'
          subst ha'
          refine AnyM.next (m := 13) (i := 3) (d := some 34) (v := .string s) rfl rfl (by kernel_rfl) (by kernel_rfl) (by kernel_rfl) (by kernel_rfl) (StepsIf.yield (by kernel_rfl) (fun w' hS => by clear hS; go_simp)) ?_
          intro a' ha'
          simp only [Act.put, List.setIfInBounds_toArray, List.set_cons_zero, List.set_cons_succ] at ha'
          subst ha'
          refine AnyM.next (m := 13) (i := 4) (d := some 35) (v := .int .i64 i) rfl rfl (by kernel_rfl) (by kernel_rfl) (by kernel_rfl) (by kernel_rfl) (StepsIf.yield (by kernel_rfl) (fun w' hS => by clear hS; go_simp)) ?_
          intro a' ha'
          simp only [Act.put, List.setIfInBounds_toArray, List.set_cons_zero, List.set_cons_succ] at ha'
          subst ha'
          refine AnyM.next (m := 13) (i := 5) (d := some 36) (v := .int .u8 b) rfl rfl (by kernel_rfl) (by kernel_rfl) (by kernel_rfl) (by kernel_rfl) (StepsIf.yield (by kernel_rfl) (fun w' hS => by clear hS; go_simp)) ?_
          intro a' ha'
          simp only [Act.put, List.setIfInBounds_toArray, List.set_cons_zero, List.set_cons_succ] at ha'
          subst ha'
          refine AnyM.next (m := 13) (i := 6) (d := some 37) (v := .int .u8 ((b : Int) - 48)) rfl rfl (by kernel_rfl) (by kernel_rfl) (by kernel_rfl) (by kernel_rfl) (StepsIf.yield (by kernel_rfl) (fun w' hS => by clear hS; go_simp)) ?_
          intro a' ha'
          simp only [Act.put, List.setIfInBounds_toArray, List.set_cons_zero, List.set_cons_succ] at ha'
          subst ha'
          refine AnyM.next (m := 13) (i := 7) (d := some 38) (v := .int .i64 ((b : Int) - 48)) rfl rfl (by kernel_rfl) (by kernel_rfl) (by kernel_rfl) (by kernel_rfl) (StepsIf.yield (by kernel_rfl) (fun w' hS => by clear hS; go_simp)) ?_
          intro a' ha'
          simp only [Act.put, List.setIfInBounds_toArray, List.set_cons_zero, List.set_cons_succ] at ha'
          subst ha'
          refine AnyM.next (m := 13) (i := 8) (d := some 39) (v := .int .i64 V) rfl rfl (by kernel_rfl) (by kernel_rfl) (by kernel_rfl) (by kernel_rfl) (StepsIf.yield (by kernel_rfl) (fun w' hS => by clear hS; go_simp)) ?_
          intro a' ha'
          simp only [Act.put, List.setIfInBounds_toArray, List.set_cons_zero, List.set_cons_succ] at ha'
          subst ha'
          refine AnyM.next (m := 13) (i := 9) (d := some 40) (v := .pointer (some ⟨w.heap.size + 1, 1, none⟩)) rfl rfl (by kernel_rfl) (by kernel_rfl) (by kernel_rfl) (by kernel_rfl) (StepsIf.yield (by kernel_rfl) (fun w' hS => by clear hS; go_simp)) ?_
          intro a' ha'
          simp only [Act.put, List.setIfInBounds_toArray, List.set_cons_zero, List.set_cons_succ] at ha'
          subst ha'
          refine AnyM.next (m := 13) (i := 10) (d := some 41) (v := .int .i64 d) rfl rfl (by kernel_rfl) (by kernel_rfl) (by kernel_rfl) (by kernel_rfl) (StepsIf.yield (by kernel_rfl) (fun w' hS => by have c0 := hS.1.2.cell 0; have c1 := hS.1.2.cell 1; simp only [List.getElem?_toArray, List.getElem?_cons_zero, List.getElem?_cons_succ] at c0 c1; clear hS; go_simp)) ?_
          intro a' ha'
          simp only [Act.put, List.setIfInBounds_toArray, List.set_cons_zero, List.set_cons_succ] at ha'
          subst ha'
          refine AnyM.next (m := 13) (i := 11) (d := some 42) (v := .int .i64 D) rfl rfl (by kernel_rfl) (by kernel_rfl) (by kernel_rfl) (by kernel_rfl) (StepsIf.yield (by kernel_rfl) (fun w' hS => by clear hS; go_simp)) ?_
          intro a' ha'
          simp only [Act.put, List.setIfInBounds_toArray, List.set_cons_zero, List.set_cons_succ] at ha'
          subst ha'
          refine AnyM.next (m := 13) (i := 12) (d := some 43) (v := .agg (nuI V D)) rfl rfl (by kernel_rfl) (by kernel_rfl) (by kernel_rfl) (by kernel_rfl) (StepsIf.yield (by kernel_rfl) (fun w' hS => by clear hS; go_simp)) ?_
          intro a' ha'
          simp only [Act.put, List.setIfInBounds_toArray, List.set_cons_zero, List.set_cons_succ] at ha'
          subst ha'
          refine AnyM.last rfl (by kernel_rfl) (by kernel_rfl) (by kernel_rfl) (fun w3 hS K hK => ?_)
          have c0 := hS.1.2.cell 0; have c1 := hS.1.2.cell 1
          have f0 := hS.1.2.frozen 0; have f1 := hS.1.2.frozen 1
          simp only [List.getElem?_toArray, List.getElem?_cons_zero, List.getElem?_cons_succ] at c0 c1
          have HS := Lib.hid (SDi.set (v' := V) (d' := D) hS)
          clear hS
          go_simp
          refine hK _ _ ?_
          clear hK K c0 c1 f0 f1
          generalize (w3.setCell ⟨w.heap.size + 1, 0, none⟩ (.int .i64 V)).setCell ⟨w.heap.size + 1, 1, none⟩ (.int .i64 D) = w4 at *
          have c0 := HS.out.1.2.cell 0; have c1 := HS.out.1.2.cell 1
          simp only [List.getElem?_toArray, List.getElem?_cons_zero, List.getElem?_cons_succ] at c0 c1
          go_wp2_with fail
          refine (HM.out _).mono ?_
          rintro e w5 ⟨rfl, hb5⟩
          have HS2 := Lib.hid (HS.out.keep hb5)
          clear HS hb5 HM c0 c1
          generalize mostD V D = M at *
          by_cases hm : M < least
          · have q : decide (M < least) = true := by simpa using hm
            have hR := HRES.out
            rw [if_pos hm] at hR
            subst hR
            clear HRES hm
            go_wp2_with ((with_reducible refine wpList_store_st (o := ⟨none, .store 163 _ _, _, _, _, _⟩) rfl 163 _ _ rfl w.heap.size rfl rfl (run_storeAt_row _ w.heap.size 163 163 (nuI 0 0) (nuI 0 0) ?_ ?_ ?_ ?_) ?_); exact HS2.out.1.1; exact infoNu; rfl; exact nu_one _ _)
            have hG := Blk.setRow (cs := nuI 0 0) HS2.out.1.1
            have e0 := hG.cell 0; have e1 := hG.cell 1
            simp only [List.getElem?_toArray, List.getElem?_cons_zero, List.getElem?_cons_succ] at e0 e1
            exact bodyPost_ret (v := .tuple #[.agg (nuI 0 0), .int .i64 ((i : Int) + 1), .int .i64 6]) (by simp [results, Tryz.results113, go_sem, e0, e1]) rfl ⟨rfl, below_row HS2.out.2 (Nat.le_refl _) _⟩
          · have q : decide (M < least) = false := by simpa using hm
            have hR := HRES.out
            rw [if_neg hm] at hR
            clear HRES hm
            have HR := Lib.hid hR
            clear hR
            go_wp2_with fail
            go_roundw
            case rel => exact ⟨V, D, i + 1, HI.out, by omega, by simp, HR.out, HS2.out⟩
            case measure => simp [intOf]; omega
      · rw [if_neg hd] at hres
        subst hres
        by_cases hd1 : 48 ≤ b
        · have q1 : decide ((48 : Int) ≤ (b : Int)) = true := by rw [decide_eq_true_eq]; omega
          have q2 : decide ((b : Int) ≤ 57) = false := by rw [decide_eq_false_iff_not]; omega
          clear hd
          have HS2 := Lib.hid hS
          have c0 := hS.1.2.cell 0
          have c1 := hS.1.2.cell 1
          simp only [List.getElem?_toArray, List.getElem?_cons_zero, List.getElem?_cons_succ] at c0 c1
          clear hS i1 i2 i3 i4
          go_wp2_with ((with_reducible refine wpList_store_st (o := ⟨none, .store 163 _ _, _, _, _, _⟩) rfl 163 _ _ rfl w.heap.size rfl rfl (run_storeAt_row _ w.heap.size 163 163 (nuI 0 0) (nuI v d) ?_ ?_ ?_ ?_) ?_); exact HS2.out.1.1; exact infoNu; rfl; exact nu_one _ _)
          have hG := Blk.setRow (cs := nuI v d) HS2.out.1.1
          have e0 := hG.cell 0; have e1 := hG.cell 1
          simp only [List.getElem?_toArray, List.getElem?_cons_zero, List.getElem?_cons_succ] at e0 e1
          exact bodyPost_ret (v := .tuple #[.agg (nuI v d), .int .i64 (i : Int), .int .i64 0]) (by simp [results, Tryz.results113, go_sem, e0, e1]) rfl ⟨rfl, below_row HS2.out.2 (Nat.le_refl _) _⟩
        · have q1 : decide ((48 : Int) ≤ (b : Int)) = false := by rw [decide_eq_false_iff_not]; omega
          clear hd
          have HS2 := Lib.hid hS
          have c0 := hS.1.2.cell 0
          have c1 := hS.1.2.cell 1
          simp only [List.getElem?_toArray, List.getElem?_cons_zero, List.getElem?_cons_succ] at c0 c1
          clear hS i1 i2 i3 i4
          go_wp2_with ((with_reducible refine wpList_store_st (o := ⟨none, .store 163 _ _, _, _, _, _⟩) rfl 163 _ _ rfl w.heap.size rfl rfl (run_storeAt_row _ w.heap.size 163 163 (nuI 0 0) (nuI v d) ?_ ?_ ?_ ?_) ?_); exact HS2.out.1.1; exact infoNu; rfl; exact nu_one _ _)
          have hG := Blk.setRow (cs := nuI v d) HS2.out.1.1
          have e0 := hG.cell 0; have e1 := hG.cell 1
          simp only [List.getElem?_toArray, List.getElem?_cons_zero, List.getElem?_cons_succ] at e0 e1
          exact bodyPost_ret (v := .tuple #[.agg (nuI v d), .int .i64 (i : Int), .int .i64 0]) (by simp [results, Tryz.results113, go_sem, e0, e1]) rfl ⟨rfl, below_row HS2.out.2 (Nat.le_refl _) _⟩
    · obtain rfl : i = s.size := by omega
      rw [Nat.sub_self] at hres
      have hres : (v, d, s.size, 0) = R := hres
      subst hres
      have HS2 := Lib.hid hS
      have c0 := hS.1.2.cell 0
      have c1 := hS.1.2.cell 1
      simp only [List.getElem?_toArray, List.getElem?_cons_zero, List.getElem?_cons_succ] at c0 c1
      clear hS i1 i2 i3 i4
      go_wp2_with ((with_reducible refine wpList_store_st (o := ⟨none, .store 163 _ _, _, _, _, _⟩) rfl 163 _ _ rfl w.heap.size rfl rfl (run_storeAt_row _ w.heap.size 163 163 (nuI 0 0) (nuI v d) ?_ ?_ ?_ ?_) ?_); exact HS2.out.1.1; exact infoNu; rfl; exact nu_one _ _)
      have hG := Blk.setRow (cs := nuI v d) HS2.out.1.1
      have e0 := hG.cell 0; have e1 := hG.cell 1
      simp only [List.getElem?_toArray, List.getElem?_cons_zero, List.getElem?_cons_succ] at e0 e1
      exact bodyPost_ret (v := .tuple #[.agg (nuI v d), .int .i64 (s.size : Int), .int .i64 0]) (by simp [results, Tryz.results113, go_sem, e0, e1]) rfl ⟨rfl, below_row HS2.out.2 (Nat.le_refl _) _⟩
end Go.Proofs.YthodphgbdmnpoaaGreatDoor

/- The developers' counts: what digits end in; behindComma, inBraces. -/
namespace Go.Proofs.YthodphgbdmnpoaaGreatDoor
open Go.RowKit

theorem invD_start : InvD 0 0 := ⟨by omega, fun _ => rfl, fun _ => by omega, by omega⟩
theorem invD_step (v d b : Nat) (h : InvD v d) (hb : 48 ≤ b ∧ b ≤ 57) (hf : fullD v d = false) : InvD (10 * v + (b - 48)) (d + 1) := by
  obtain ⟨i1, i2, i3, i4⟩ := h
  have h2 : ¬ (d = 2) := by rintro rfl; simp [fullD] at hf
  have hv9 : v ≤ 9 := i3 (by omega)
  refine ⟨by omega, fun h => by omega, fun h => ?_, by omega⟩
  have := i2 (by omega)
  omega
/-- What a number ends in. -/
def EndD (s : ByteArray) (least i : Nat) (r : Nat × Nat × Nat × Nat) : Prop :=
  (r.2.2.2 = 0 ∧ i ≤ r.2.2.1 ∧ r.2.2.1 ≤ s.size ∧ InvD r.1 r.2.1 ∧ (r.2.2.1 = s.size ∨ ¬ (48 ≤ bt s r.2.2.1 ∧ bt s r.2.2.1 ≤ 57)) ∧ (0 < r.2.1 → least ≤ mostD r.1 r.2.1)) ∨
  (∃ p, r = (0, 0, p, 6) ∧ i < p ∧ p ≤ s.size)
theorem digD_end (s : ByteArray) (least a : Nat) : ∀ k i v d, InvD v d → a ≤ i → k + i = s.size → (0 < d → least ≤ mostD v d) → EndD s least a (digD s least k i v d)
  | 0, i, v, d, h, ha, hk, hm => .inl ⟨rfl, ha, by simp only [digD]; omega, h, .inl (by simp only [digD]; omega), hm⟩
  | k + 1, i, v, d, h, ha, hk, hm => by
    rw [digD]
    by_cases hd : 48 ≤ bt s i ∧ bt s i ≤ 57
    · rw [if_pos hd]
      cases hf : fullD v d with
      | true => rw [if_pos rfl]; exact .inr ⟨i + 1, rfl, by omega, by omega⟩
      | false =>
        rw [if_neg (by decide)]
        by_cases hl : mostD (10 * v + (bt s i - 48)) (d + 1) < least
        · rw [if_pos hl]; exact .inr ⟨i + 1, rfl, by omega, by omega⟩
        · rw [if_neg hl]; exact digD_end s least a k (i + 1) _ _ (invD_step v d _ h hd hf) (by omega) (by omega) (fun _ => by omega)
    · rw [if_neg hd]; exact .inl ⟨rfl, ha, by simp only; omega, h, .inr hd, hm⟩
theorem digsD_end (s : ByteArray) (i least : Nat) (hi : i ≤ s.size) : EndD s least i (digsD s i least) := digD_end s least i _ i 0 0 invD_start (Nat.le_refl _) (by omega) (fun h => by omega)

set_option maxRecDepth 100000 in
set_option maxHeartbeats 16000000 in
theorem commaD_calls (s : ByteArray) (hs : s.size ≤ 1000000) (i n : Nat) (hi : i ≤ s.size) (w : World) :
    Calls Tryz.prog 115 #[.string s, .int .i64 i, .int .i64 n] w fun en w' => en = .returned (.agg (rdA (commaD s i n))) ∧ Below w.heap.size w w' := by
  have HR := Lib.hid (Blk.new w (rdI 0 0 0 eT 0) 159)
  have HB : Hid (Below w.heap.size w (w.alloc (.cells (rdI 0 0 0 eT 0) 159))) := Lib.hid (by go_grown)
  have hz : w.heap.size + 1 ≤ (w.alloc (.cells (rdI 0 0 0 eT 0) 159)).heap.size := by simp
  have HD := Lib.hid (digsD_calls s hs i n hi)
  have hE := digsD_end s i n hi
  have hg : commaD s i n = commaD s i n := rfl
  conv at hg => rhs; unfold commaD
  generalize digsD s i n = X at *
  obtain ⟨v, d, p, e⟩ := X
  simp only at hg hE
  generalize commaD s i n = Y at *
  replace HD : Hid (∀ w, Calls Tryz.prog 113 #[.string s, .int .i64 i, .int .i64 n] w fun en w' => en = .returned (.tuple #[.agg (nuI v d), .int .i64 p, .int .i64 e]) ∧ Below w.heap.size w w') := HD
  have hp : p ≤ s.size := by
    rcases hE with ⟨_, _, h, _⟩ | ⟨q, h, _, h2⟩
    · exact h
    · cases h; exact h2
  have hv : v ≤ 99 := by
    rcases hE with ⟨_, _, _, h, _⟩ | ⟨q, h, _, h2⟩
    · exact h.2.2.2
    · cases h; omega
  clear hE
  go_enter Tryz.func115, Tryz.ntmps115
  go_upto_region 1 with fail
  have e0 : w.alloc (.cells #[.int .i64 0, .int .i64 0, .int .i64 0, .string ⟨#[]⟩, .int .i64 0] 159) = w.alloc (.cells (rdI 0 0 0 eT 0) 159) := rfl
  try rw [e0]
  clear e0
  generalize w.alloc (.cells (rdI 0 0 0 eT 0) 159) = w1 at *
  go_wp2_with fail
  refine (HD.out _).mono ?_
  rintro en w2 ⟨rfl, hb⟩
  have HR2 := Lib.hid (HR.out.below hb (Blk.lt HR.out))
  have HB2 := Lib.hid (HB.out.trans (hb.mono (by omega)))
  have hz2 := Nat.le_trans hz hb.size
  clear HR HB hz hb
  have HR := HR2
  have HB := HB2
  have hz := hz2
  clear HR2 HB2 hz2
  clear HD
  go_upto_region 2 with fail
  have HP := Lib.hid (Blk.new w2 (nuI v d) 163)
  replace HR := Lib.hid (HR.out.alloc (.cells (nuI v d) 163))
  replace HB := Lib.hid (HB.out.alloc (by omega) (.cells (nuI v d) 163))
  have hz2 : w.heap.size + 1 ≤ (w2.alloc (.cells (nuI v d) 163)).heap.size := by simp; omega
  clear hz
  have hz := hz2
  clear hz2
  generalize w2.alloc (.cells (nuI v d) 163) = w3 at *
  generalize w2.heap.size = B at *
  have c0 := HP.out.cell 0
  have c1 := HP.out.cell 1
  simp only [List.getElem?_toArray, List.getElem?_cons_zero, List.getElem?_cons_succ] at c0 c1
  clear HP
  have HG := Lib.hid hg
  clear hg
  by_cases hd : 0 < d
  · by_cases hv2 : v < n
    · have hxx := hd
      have hls : lessD v d n = true := by simp [lessD, hd, hv2]
      rw [hls] at HG
      clear hls
      have qd : decide (0 < d) = true := by simpa using hd
      have qv : decide (v < n) = true := by simpa using hv2
      by_cases he : e = 0
      · subst he
        have hG := HG.out
        rw [if_neg (show ¬ ((0 : Nat) ≠ 0) from fun h => h rfl)] at hG
        replace HG := Lib.hid hG
        clear hG
        by_cases hps : p = s.size
        · subst hps
          have HRES := Lib.hid (show Y = shortR s [57, 125] by rw [HG.out, if_pos ⟨rfl, rfl⟩])
          clear HG 
          have HFA := Lib.hid (shortR_calls s ⟨#[57, 125]⟩)
          go_wp2_with fail
          refine (HFA.out _).mono ?_
          rintro en w4 ⟨rfl, hb⟩
          have HR2 := Lib.hid (HR.out.below hb (Blk.lt HR.out))
          have HB2 := Lib.hid (HB.out.trans (hb.mono (by omega)))
          have hz2 := Nat.le_trans hz hb.size
          clear HR HB hz hb
          have HR := HR2
          have HB := HB2
          have hz := hz2
          clear HR2 HB2 hz2
          go_wp2_with ((with_reducible refine wpList_store_st (o := ⟨none, .store 159 _ _, _, _, _, _⟩) rfl 159 _ _ rfl w.heap.size rfl rfl (run_storeAt_row _ w.heap.size 159 159 (rdI 0 0 0 eT 0) (rdI 0 0 s.size ⟨#[57, 125]⟩ 2) ?_ ?_ ?_ ?_) ?_); exact HR.out; exact infoRd; rfl; exact rdC_one _ _ _ _ _)
          exact bodyPost_ret (v := .agg (rdI 0 0 s.size ⟨#[57, 125]⟩ 2)) (results_cell_row rfl _ _ w.heap.size 159 (rdI 0 0 s.size ⟨#[57, 125]⟩ 2) (0, 0) _ rfl (Blk.setRow HR.out) Tryz.underlying159 rfl infoRd) rfl ⟨by rw [HRES.out] <;> rfl, below_row HB.out (by omega) _⟩
        have hlt : p < s.size := by omega
        have qp : ((p : Int) == (s.size : Int)) = false := by rw [beq_eq_false_iff_ne]; omega
        have b0 : s[p].toNat = bt s p := (bt_eq s p hlt).symm
        generalize bt s p = b at *
        have hG := HG.out
        rw [if_neg (fun h => hps h.1), if_neg hps] at hG
        replace HG := Lib.hid hG
        clear hG hps
        by_cases hb125 : b = 125
        · subst hb125
          have HRES := Lib.hid (show Y = badC 6 (p + 1) by rw [HG.out, if_neg (fun h => h rfl), if_pos rfl])
          clear HG 
          have HFA := Lib.hid (faultD_calls 6 ((p : Int) + 1))
          go_wp2_with fail
          refine (HFA.out _).mono ?_
          rintro en w4 ⟨rfl, hb⟩
          have HR2 := Lib.hid (HR.out.below hb (Blk.lt HR.out))
          have HB2 := Lib.hid (HB.out.trans (hb.mono (by omega)))
          have hz2 := Nat.le_trans hz hb.size
          clear HR HB hz hb
          have HR := HR2
          have HB := HB2
          have hz := hz2
          clear HR2 HB2 hz2
          go_wp2_with ((with_reducible refine wpList_store_st (o := ⟨none, .store 159 _ _, _, _, _, _⟩) rfl 159 _ _ rfl w.heap.size rfl rfl (run_storeAt_row _ w.heap.size 159 159 (rdI 0 0 0 eT 0) (rdI 0 0 ((p : Int) + 1) eT 6) ?_ ?_ ?_ ?_) ?_); exact HR.out; exact infoRd; rfl; exact rdC_one _ _ _ _ _)
          exact bodyPost_ret (v := .agg (rdI 0 0 ((p : Int) + 1) eT 6)) (results_cell_row rfl _ _ w.heap.size 159 (rdI 0 0 ((p : Int) + 1) eT 6) (0, 0) _ rfl (Blk.setRow HR.out) Tryz.underlying159 rfl infoRd) rfl ⟨by rw [HRES.out] <;> rfl, below_row HB.out (by omega) _⟩
        · have qb : ((b : Int) != 125) = true := by rw [bne_iff_ne]; omega
          have HRES := Lib.hid (show Y = badC 3 (p + 1) by rw [HG.out, if_pos hb125])
          clear HG 
          have HFA := Lib.hid (faultD_calls 3 ((p : Int) + 1))
          go_wp2_with fail
          refine (HFA.out _).mono ?_
          rintro en w4 ⟨rfl, hb⟩
          have HR2 := Lib.hid (HR.out.below hb (Blk.lt HR.out))
          have HB2 := Lib.hid (HB.out.trans (hb.mono (by omega)))
          have hz2 := Nat.le_trans hz hb.size
          clear HR HB hz hb
          have HR := HR2
          have HB := HB2
          have hz := hz2
          clear HR2 HB2 hz2
          go_wp2_with ((with_reducible refine wpList_store_st (o := ⟨none, .store 159 _ _, _, _, _, _⟩) rfl 159 _ _ rfl w.heap.size rfl rfl (run_storeAt_row _ w.heap.size 159 159 (rdI 0 0 0 eT 0) (rdI 0 0 ((p : Int) + 1) eT 3) ?_ ?_ ?_ ?_) ?_); exact HR.out; exact infoRd; rfl; exact rdC_one _ _ _ _ _)
          exact bodyPost_ret (v := .agg (rdI 0 0 ((p : Int) + 1) eT 3)) (results_cell_row rfl _ _ w.heap.size 159 (rdI 0 0 ((p : Int) + 1) eT 3) (0, 0) _ rfl (Blk.setRow HR.out) Tryz.underlying159 rfl infoRd) rfl ⟨by rw [HRES.out] <;> rfl, below_row HB.out (by omega) _⟩
      · have qe : ((e : Int) != 0) = true := by rw [bne_iff_ne]; omega
        have HRES := Lib.hid (show Y = badC e p by rw [HG.out, if_pos he])
        clear HG 
        have HFA := Lib.hid (faultD_calls e p)
        go_wp2_with fail
        refine (HFA.out _).mono ?_
        rintro en w4 ⟨rfl, hb⟩
        have HR2 := Lib.hid (HR.out.below hb (Blk.lt HR.out))
        have HB2 := Lib.hid (HB.out.trans (hb.mono (by omega)))
        have hz2 := Nat.le_trans hz hb.size
        clear HR HB hz hb
        have HR := HR2
        have HB := HB2
        have hz := hz2
        clear HR2 HB2 hz2
        go_wp2_with ((with_reducible refine wpList_store_st (o := ⟨none, .store 159 _ _, _, _, _, _⟩) rfl 159 _ _ rfl w.heap.size rfl rfl (run_storeAt_row _ w.heap.size 159 159 (rdI 0 0 0 eT 0) (rdI 0 0 p eT e) ?_ ?_ ?_ ?_) ?_); exact HR.out; exact infoRd; rfl; exact rdC_one _ _ _ _ _)
        exact bodyPost_ret (v := .agg (rdI 0 0 p eT e)) (results_cell_row rfl _ _ w.heap.size 159 (rdI 0 0 p eT e) (0, 0) _ rfl (Blk.setRow HR.out) Tryz.underlying159 rfl infoRd) rfl ⟨by rw [HRES.out] <;> rfl, below_row HB.out (by omega) _⟩
    · have hxx := hd
      have hls : lessD v d n = false := by simp [lessD, hd, hv2]
      rw [hls] at HG
      clear hls
      have qd : decide (0 < d) = true := by simpa using hd
      have qv : decide (v < n) = false := by simpa using hv2
      by_cases he : e = 0
      · subst he
        have hG := HG.out
        rw [if_neg (show ¬ ((0 : Nat) ≠ 0) from fun h => h rfl)] at hG
        replace HG := Lib.hid hG
        clear hG
        by_cases hps : p = s.size
        · subst hps
          have HRES := Lib.hid (show Y = shortR s [125] by rw [HG.out, if_neg (fun h => by cases h.2), if_pos rfl])
          clear HG 
          have HFA := Lib.hid (shortR_calls s ⟨#[125]⟩)
          go_wp2_with fail
          refine (HFA.out _).mono ?_
          rintro en w4 ⟨rfl, hb⟩
          have HR2 := Lib.hid (HR.out.below hb (Blk.lt HR.out))
          have HB2 := Lib.hid (HB.out.trans (hb.mono (by omega)))
          have hz2 := Nat.le_trans hz hb.size
          clear HR HB hz hb
          have HR := HR2
          have HB := HB2
          have hz := hz2
          clear HR2 HB2 hz2
          go_wp2_with ((with_reducible refine wpList_store_st (o := ⟨none, .store 159 _ _, _, _, _, _⟩) rfl 159 _ _ rfl w.heap.size rfl rfl (run_storeAt_row _ w.heap.size 159 159 (rdI 0 0 0 eT 0) (rdI 0 0 s.size ⟨#[125]⟩ 2) ?_ ?_ ?_ ?_) ?_); exact HR.out; exact infoRd; rfl; exact rdC_one _ _ _ _ _)
          exact bodyPost_ret (v := .agg (rdI 0 0 s.size ⟨#[125]⟩ 2)) (results_cell_row rfl _ _ w.heap.size 159 (rdI 0 0 s.size ⟨#[125]⟩ 2) (0, 0) _ rfl (Blk.setRow HR.out) Tryz.underlying159 rfl infoRd) rfl ⟨by rw [HRES.out] <;> rfl, below_row HB.out (by omega) _⟩
        have hlt : p < s.size := by omega
        have qp : ((p : Int) == (s.size : Int)) = false := by rw [beq_eq_false_iff_ne]; omega
        have b0 : s[p].toNat = bt s p := (bt_eq s p hlt).symm
        generalize bt s p = b at *
        have hG := HG.out
        rw [if_neg (fun h => hps h.1), if_neg hps] at hG
        replace HG := Lib.hid hG
        clear hG hps
        by_cases hb125 : b = 125
        · subst hb125
          have qz : ((d : Int) == 0) = false := by rw [beq_eq_false_iff_ne]; omega
          have HRES := Lib.hid (show Y = okR n v (p + 1) by rw [HG.out, if_neg (fun h => h rfl), if_neg (by decide), if_neg (by omega)])
          clear HG 
          go_wp2_with ((with_reducible refine wpList_store_st (o := ⟨none, .store 159 _ _, _, _, _, _⟩) rfl 159 _ _ rfl w.heap.size rfl rfl (run_storeAt_row _ w.heap.size 159 159 (rdI 0 0 0 eT 0) (rdI n v ((p : Int) + 1) eT 0) ?_ ?_ ?_ ?_) ?_); exact HR.out; exact infoRd; rfl; exact rdC_one _ _ _ _ _)
          exact bodyPost_ret (v := .agg (rdI n v ((p : Int) + 1) eT 0)) (results_cell_row rfl _ _ w.heap.size 159 (rdI n v ((p : Int) + 1) eT 0) (0, 0) _ rfl (Blk.setRow HR.out) Tryz.underlying159 rfl infoRd) rfl ⟨by rw [HRES.out] <;> rfl, below_row HB.out (by omega) _⟩
        · have qb : ((b : Int) != 125) = true := by rw [bne_iff_ne]; omega
          have HRES := Lib.hid (show Y = badC 3 (p + 1) by rw [HG.out, if_pos hb125])
          clear HG 
          have HFA := Lib.hid (faultD_calls 3 ((p : Int) + 1))
          go_wp2_with fail
          refine (HFA.out _).mono ?_
          rintro en w4 ⟨rfl, hb⟩
          have HR2 := Lib.hid (HR.out.below hb (Blk.lt HR.out))
          have HB2 := Lib.hid (HB.out.trans (hb.mono (by omega)))
          have hz2 := Nat.le_trans hz hb.size
          clear HR HB hz hb
          have HR := HR2
          have HB := HB2
          have hz := hz2
          clear HR2 HB2 hz2
          go_wp2_with ((with_reducible refine wpList_store_st (o := ⟨none, .store 159 _ _, _, _, _, _⟩) rfl 159 _ _ rfl w.heap.size rfl rfl (run_storeAt_row _ w.heap.size 159 159 (rdI 0 0 0 eT 0) (rdI 0 0 ((p : Int) + 1) eT 3) ?_ ?_ ?_ ?_) ?_); exact HR.out; exact infoRd; rfl; exact rdC_one _ _ _ _ _)
          exact bodyPost_ret (v := .agg (rdI 0 0 ((p : Int) + 1) eT 3)) (results_cell_row rfl _ _ w.heap.size 159 (rdI 0 0 ((p : Int) + 1) eT 3) (0, 0) _ rfl (Blk.setRow HR.out) Tryz.underlying159 rfl infoRd) rfl ⟨by rw [HRES.out] <;> rfl, below_row HB.out (by omega) _⟩
      · have qe : ((e : Int) != 0) = true := by rw [bne_iff_ne]; omega
        have HRES := Lib.hid (show Y = badC e p by rw [HG.out, if_pos he])
        clear HG 
        have HFA := Lib.hid (faultD_calls e p)
        go_wp2_with fail
        refine (HFA.out _).mono ?_
        rintro en w4 ⟨rfl, hb⟩
        have HR2 := Lib.hid (HR.out.below hb (Blk.lt HR.out))
        have HB2 := Lib.hid (HB.out.trans (hb.mono (by omega)))
        have hz2 := Nat.le_trans hz hb.size
        clear HR HB hz hb
        have HR := HR2
        have HB := HB2
        have hz := hz2
        clear HR2 HB2 hz2
        go_wp2_with ((with_reducible refine wpList_store_st (o := ⟨none, .store 159 _ _, _, _, _, _⟩) rfl 159 _ _ rfl w.heap.size rfl rfl (run_storeAt_row _ w.heap.size 159 159 (rdI 0 0 0 eT 0) (rdI 0 0 p eT e) ?_ ?_ ?_ ?_) ?_); exact HR.out; exact infoRd; rfl; exact rdC_one _ _ _ _ _)
        exact bodyPost_ret (v := .agg (rdI 0 0 p eT e)) (results_cell_row rfl _ _ w.heap.size 159 (rdI 0 0 p eT e) (0, 0) _ rfl (Blk.setRow HR.out) Tryz.underlying159 rfl infoRd) rfl ⟨by rw [HRES.out] <;> rfl, below_row HB.out (by omega) _⟩
  · have hxx := hd
    have hls : lessD v d n = false := by simp [lessD, hd]
    rw [hls] at HG
    clear hls
    obtain rfl : d = 0 := by omega
    by_cases he : e = 0
    · subst he
      have hG := HG.out
      rw [if_neg (show ¬ ((0 : Nat) ≠ 0) from fun h => h rfl)] at hG
      replace HG := Lib.hid hG
      clear hG
      by_cases hps : p = s.size
      · subst hps
        have HRES := Lib.hid (show Y = shortR s [125] by rw [HG.out, if_neg (fun h => by cases h.2), if_pos rfl])
        clear HG 
        have HFA := Lib.hid (shortR_calls s ⟨#[125]⟩)
        go_wp2_with fail
        refine (HFA.out _).mono ?_
        rintro en w4 ⟨rfl, hb⟩
        have HR2 := Lib.hid (HR.out.below hb (Blk.lt HR.out))
        have HB2 := Lib.hid (HB.out.trans (hb.mono (by omega)))
        have hz2 := Nat.le_trans hz hb.size
        clear HR HB hz hb
        have HR := HR2
        have HB := HB2
        have hz := hz2
        clear HR2 HB2 hz2
        go_wp2_with ((with_reducible refine wpList_store_st (o := ⟨none, .store 159 _ _, _, _, _, _⟩) rfl 159 _ _ rfl w.heap.size rfl rfl (run_storeAt_row _ w.heap.size 159 159 (rdI 0 0 0 eT 0) (rdI 0 0 s.size ⟨#[125]⟩ 2) ?_ ?_ ?_ ?_) ?_); exact HR.out; exact infoRd; rfl; exact rdC_one _ _ _ _ _)
        exact bodyPost_ret (v := .agg (rdI 0 0 s.size ⟨#[125]⟩ 2)) (results_cell_row rfl _ _ w.heap.size 159 (rdI 0 0 s.size ⟨#[125]⟩ 2) (0, 0) _ rfl (Blk.setRow HR.out) Tryz.underlying159 rfl infoRd) rfl ⟨by rw [HRES.out] <;> rfl, below_row HB.out (by omega) _⟩
      have hlt : p < s.size := by omega
      have qp : ((p : Int) == (s.size : Int)) = false := by rw [beq_eq_false_iff_ne]; omega
      have b0 : s[p].toNat = bt s p := (bt_eq s p hlt).symm
      generalize bt s p = b at *
      have hG := HG.out
      rw [if_neg (fun h => hps h.1), if_neg hps] at hG
      replace HG := Lib.hid hG
      clear hG hps
      by_cases hb125 : b = 125
      · subst hb125
        have HRES := Lib.hid (show Y = okR n (-1) (p + 1) by rw [HG.out, if_neg (fun h => h rfl), if_neg (by decide), if_pos rfl])
        clear HG 
        go_wp2_with ((with_reducible refine wpList_store_st (o := ⟨none, .store 159 _ _, _, _, _, _⟩) rfl 159 _ _ rfl w.heap.size rfl rfl (run_storeAt_row _ w.heap.size 159 159 (rdI 0 0 0 eT 0) (rdI n (-1) ((p : Int) + 1) eT 0) ?_ ?_ ?_ ?_) ?_); exact HR.out; exact infoRd; rfl; exact rdC_one _ _ _ _ _)
        exact bodyPost_ret (v := .agg (rdI n (-1) ((p : Int) + 1) eT 0)) (results_cell_row rfl _ _ w.heap.size 159 (rdI n (-1) ((p : Int) + 1) eT 0) (0, 0) _ rfl (Blk.setRow HR.out) Tryz.underlying159 rfl infoRd) rfl ⟨by rw [HRES.out] <;> rfl, below_row HB.out (by omega) _⟩
      · have qb : ((b : Int) != 125) = true := by rw [bne_iff_ne]; omega
        have HRES := Lib.hid (show Y = badC 3 (p + 1) by rw [HG.out, if_pos hb125])
        clear HG 
        have HFA := Lib.hid (faultD_calls 3 ((p : Int) + 1))
        go_wp2_with fail
        refine (HFA.out _).mono ?_
        rintro en w4 ⟨rfl, hb⟩
        have HR2 := Lib.hid (HR.out.below hb (Blk.lt HR.out))
        have HB2 := Lib.hid (HB.out.trans (hb.mono (by omega)))
        have hz2 := Nat.le_trans hz hb.size
        clear HR HB hz hb
        have HR := HR2
        have HB := HB2
        have hz := hz2
        clear HR2 HB2 hz2
        go_wp2_with ((with_reducible refine wpList_store_st (o := ⟨none, .store 159 _ _, _, _, _, _⟩) rfl 159 _ _ rfl w.heap.size rfl rfl (run_storeAt_row _ w.heap.size 159 159 (rdI 0 0 0 eT 0) (rdI 0 0 ((p : Int) + 1) eT 3) ?_ ?_ ?_ ?_) ?_); exact HR.out; exact infoRd; rfl; exact rdC_one _ _ _ _ _)
        exact bodyPost_ret (v := .agg (rdI 0 0 ((p : Int) + 1) eT 3)) (results_cell_row rfl _ _ w.heap.size 159 (rdI 0 0 ((p : Int) + 1) eT 3) (0, 0) _ rfl (Blk.setRow HR.out) Tryz.underlying159 rfl infoRd) rfl ⟨by rw [HRES.out] <;> rfl, below_row HB.out (by omega) _⟩
    · have qe : ((e : Int) != 0) = true := by rw [bne_iff_ne]; omega
      have HRES := Lib.hid (show Y = badC e p by rw [HG.out, if_pos he])
      clear HG 
      have HFA := Lib.hid (faultD_calls e p)
      go_wp2_with fail
      refine (HFA.out _).mono ?_
      rintro en w4 ⟨rfl, hb⟩
      have HR2 := Lib.hid (HR.out.below hb (Blk.lt HR.out))
      have HB2 := Lib.hid (HB.out.trans (hb.mono (by omega)))
      have hz2 := Nat.le_trans hz hb.size
      clear HR HB hz hb
      have HR := HR2
      have HB := HB2
      have hz := hz2
      clear HR2 HB2 hz2
      go_wp2_with ((with_reducible refine wpList_store_st (o := ⟨none, .store 159 _ _, _, _, _, _⟩) rfl 159 _ _ rfl w.heap.size rfl rfl (run_storeAt_row _ w.heap.size 159 159 (rdI 0 0 0 eT 0) (rdI 0 0 p eT e) ?_ ?_ ?_ ?_) ?_); exact HR.out; exact infoRd; rfl; exact rdC_one _ _ _ _ _)
      exact bodyPost_ret (v := .agg (rdI 0 0 p eT e)) (results_cell_row rfl _ _ w.heap.size 159 (rdI 0 0 p eT e) (0, 0) _ rfl (Blk.setRow HR.out) Tryz.underlying159 rfl infoRd) rfl ⟨by rw [HRES.out] <;> rfl, below_row HB.out (by omega) _⟩
set_option maxRecDepth 100000 in
set_option maxHeartbeats 16000000 in
theorem bracesD_calls (s : ByteArray) (hs : s.size ≤ 1000000) (i : Nat) (hi : i ≤ s.size) (w : World) :
    Calls Tryz.prog 112 #[.string s, .int .i64 i] w fun en w' => en = .returned (.agg (rdA (bracesD s i))) ∧ Below w.heap.size w w' := by
  have HR := Lib.hid (Blk.new w (rdI 0 0 0 eT 0) 159)
  have HB : Hid (Below w.heap.size w (w.alloc (.cells (rdI 0 0 0 eT 0) 159))) := Lib.hid (by go_grown)
  have hz : w.heap.size + 1 ≤ (w.alloc (.cells (rdI 0 0 0 eT 0) 159)).heap.size := by simp
  have HD := Lib.hid (digsD_calls s hs i 0 hi)
  have hE := digsD_end s i 0 hi
  have hg : bracesD s i = bracesD s i := rfl
  conv at hg => rhs; unfold bracesD
  generalize digsD s i 0 = X at *
  obtain ⟨v, d, p, e⟩ := X
  simp only at hg hE
  generalize bracesD s i = Y at *
  replace HD : Hid (∀ w, Calls Tryz.prog 113 #[.string s, .int .i64 i, .int .i64 0] w fun en w' => en = .returned (.tuple #[.agg (nuI v d), .int .i64 p, .int .i64 e]) ∧ Below w.heap.size w w') := HD
  have hp : p ≤ s.size := by
    rcases hE with ⟨_, _, h, _⟩ | ⟨q, h, _, h2⟩
    · exact h
    · cases h; exact h2
  have hv : v ≤ 99 := by
    rcases hE with ⟨_, _, _, h, _⟩ | ⟨q, h, _, h2⟩
    · exact h.2.2.2
    · cases h; omega
  clear hE
  go_enter Tryz.func112, Tryz.ntmps112
  go_upto_region 1 with fail
  have e0 : w.alloc (.cells #[.int .i64 0, .int .i64 0, .int .i64 0, .string ⟨#[]⟩, .int .i64 0] 159) = w.alloc (.cells (rdI 0 0 0 eT 0) 159) := rfl
  try rw [e0]
  clear e0
  generalize w.alloc (.cells (rdI 0 0 0 eT 0) 159) = w1 at *
  go_wp2_with fail
  refine (HD.out _).mono ?_
  rintro en w2 ⟨rfl, hb⟩
  have HR2 := Lib.hid (HR.out.below hb (Blk.lt HR.out))
  have HB2 := Lib.hid (HB.out.trans (hb.mono (by omega)))
  have hz2 := Nat.le_trans hz hb.size
  clear HR HB hz hb
  have HR := HR2
  have HB := HB2
  have hz := hz2
  clear HR2 HB2 hz2
  clear HD
  go_upto_region 2 with fail
  have HP := Lib.hid (Blk.new w2 (nuI v d) 163)
  replace HR := Lib.hid (HR.out.alloc (.cells (nuI v d) 163))
  replace HB := Lib.hid (HB.out.alloc (by omega) (.cells (nuI v d) 163))
  have hz2 : w.heap.size + 1 ≤ (w2.alloc (.cells (nuI v d) 163)).heap.size := by simp; omega
  clear hz
  have hz := hz2
  clear hz2
  generalize w2.alloc (.cells (nuI v d) 163) = w3 at *
  generalize w2.heap.size = B at *
  have c0 := HP.out.cell 0
  have c1 := HP.out.cell 1
  simp only [List.getElem?_toArray, List.getElem?_cons_zero, List.getElem?_cons_succ] at c0 c1
  clear HP
  have HG := Lib.hid hg
  clear hg
  by_cases he : e = 0
  · subst he
    have hG := HG.out
    rw [if_neg (show ¬ ((0 : Nat) ≠ 0) from fun h => h rfl)] at hG
    replace HG := Lib.hid hG
    clear hG
    by_cases hd : d = 0
    · subst hd
      by_cases hps : p = s.size
      · subst hps
        have HRES := Lib.hid (show Y = shortR s [48, 125] by rw [HG.out, if_pos ⟨rfl, rfl⟩])
        clear HG 
        have HFA := Lib.hid (shortR_calls s ⟨#[48, 125]⟩)
        go_wp2_with fail
        refine (HFA.out _).mono ?_
        rintro en w4 ⟨rfl, hb⟩
        have HR2 := Lib.hid (HR.out.below hb (Blk.lt HR.out))
        have HB2 := Lib.hid (HB.out.trans (hb.mono (by omega)))
        have hz2 := Nat.le_trans hz hb.size
        clear HR HB hz hb
        have HR := HR2
        have HB := HB2
        have hz := hz2
        clear HR2 HB2 hz2
        go_wp2_with ((with_reducible refine wpList_store_st (o := ⟨none, .store 159 _ _, _, _, _, _⟩) rfl 159 _ _ rfl w.heap.size rfl rfl (run_storeAt_row _ w.heap.size 159 159 (rdI 0 0 0 eT 0) (rdI 0 0 s.size ⟨#[48, 125]⟩ 2) ?_ ?_ ?_ ?_) ?_); exact HR.out; exact infoRd; rfl; exact rdC_one _ _ _ _ _)
        exact bodyPost_ret (v := .agg (rdI 0 0 s.size ⟨#[48, 125]⟩ 2)) (results_cell_row rfl _ _ w.heap.size 159 (rdI 0 0 s.size ⟨#[48, 125]⟩ 2) (0, 0) _ rfl (Blk.setRow HR.out) Tryz.underlying159 rfl infoRd) rfl ⟨by rw [HRES.out] <;> rfl, below_row HB.out (by omega) _⟩
      have qp : ((p : Int) == (s.size : Int)) = false := by rw [beq_eq_false_iff_ne]; omega
      have HRES := Lib.hid (show Y = badC 3 (p + 1) by rw [HG.out, if_neg (fun h => hps h.1), if_neg hps, if_neg (fun h => absurd h.1 (by omega)), if_neg (fun h => absurd h.1 (by omega))])
      clear HG 
      have HFA := Lib.hid (faultD_calls 3 ((p : Int) + 1))
      go_wp2_with fail
      refine (HFA.out _).mono ?_
      rintro en w4 ⟨rfl, hb⟩
      have HR2 := Lib.hid (HR.out.below hb (Blk.lt HR.out))
      have HB2 := Lib.hid (HB.out.trans (hb.mono (by omega)))
      have hz2 := Nat.le_trans hz hb.size
      clear HR HB hz hb
      have HR := HR2
      have HB := HB2
      have hz := hz2
      clear HR2 HB2 hz2
      go_wp2_with ((with_reducible refine wpList_store_st (o := ⟨none, .store 159 _ _, _, _, _, _⟩) rfl 159 _ _ rfl w.heap.size rfl rfl (run_storeAt_row _ w.heap.size 159 159 (rdI 0 0 0 eT 0) (rdI 0 0 ((p : Int) + 1) eT 3) ?_ ?_ ?_ ?_) ?_); exact HR.out; exact infoRd; rfl; exact rdC_one _ _ _ _ _)
      exact bodyPost_ret (v := .agg (rdI 0 0 ((p : Int) + 1) eT 3)) (results_cell_row rfl _ _ w.heap.size 159 (rdI 0 0 ((p : Int) + 1) eT 3) (0, 0) _ rfl (Blk.setRow HR.out) Tryz.underlying159 rfl infoRd) rfl ⟨by rw [HRES.out] <;> rfl, below_row HB.out (by omega) _⟩
    have qd : decide (0 < d) = true := by rw [decide_eq_true_iff]; omega
    have qd0 : ((d : Int) == 0) = false := by rw [beq_eq_false_iff_ne]; omega
    have hd0 : 0 < d := by omega
    by_cases hps : p = s.size
    · subst hps
      have HRES := Lib.hid (show Y = shortR s [125] by rw [HG.out, if_neg (fun h => hd h.2), if_pos rfl])
      clear HG 
      have HFA := Lib.hid (shortR_calls s ⟨#[125]⟩)
      go_wp2_with fail
      refine (HFA.out _).mono ?_
      rintro en w4 ⟨rfl, hb⟩
      have HR2 := Lib.hid (HR.out.below hb (Blk.lt HR.out))
      have HB2 := Lib.hid (HB.out.trans (hb.mono (by omega)))
      have hz2 := Nat.le_trans hz hb.size
      clear HR HB hz hb
      have HR := HR2
      have HB := HB2
      have hz := hz2
      clear HR2 HB2 hz2
      go_wp2_with ((with_reducible refine wpList_store_st (o := ⟨none, .store 159 _ _, _, _, _, _⟩) rfl 159 _ _ rfl w.heap.size rfl rfl (run_storeAt_row _ w.heap.size 159 159 (rdI 0 0 0 eT 0) (rdI 0 0 s.size ⟨#[125]⟩ 2) ?_ ?_ ?_ ?_) ?_); exact HR.out; exact infoRd; rfl; exact rdC_one _ _ _ _ _)
      exact bodyPost_ret (v := .agg (rdI 0 0 s.size ⟨#[125]⟩ 2)) (results_cell_row rfl _ _ w.heap.size 159 (rdI 0 0 s.size ⟨#[125]⟩ 2) (0, 0) _ rfl (Blk.setRow HR.out) Tryz.underlying159 rfl infoRd) rfl ⟨by rw [HRES.out] <;> rfl, below_row HB.out (by omega) _⟩
    have hlt : p < s.size := by omega
    have qp : ((p : Int) == (s.size : Int)) = false := by rw [beq_eq_false_iff_ne]; omega
    have b0 : s[p].toNat = bt s p := (bt_eq s p hlt).symm
    generalize bt s p = b at *
    have hG := HG.out
    rw [if_neg (fun h => hps h.1), if_neg hps] at hG
    replace HG := Lib.hid hG
    clear hG
    by_cases hb125 : b = 125
    · subst hb125
      have HRES := Lib.hid (show Y = okR v v (p + 1) by rw [HG.out, if_pos ⟨hd0, rfl⟩])
      clear HG 
      go_wp2_with ((with_reducible refine wpList_store_st (o := ⟨none, .store 159 _ _, _, _, _, _⟩) rfl 159 _ _ rfl w.heap.size rfl rfl (run_storeAt_row _ w.heap.size 159 159 (rdI 0 0 0 eT 0) (rdI v v ((p : Int) + 1) eT 0) ?_ ?_ ?_ ?_) ?_); exact HR.out; exact infoRd; rfl; exact rdC_one _ _ _ _ _)
      exact bodyPost_ret (v := .agg (rdI v v ((p : Int) + 1) eT 0)) (results_cell_row rfl _ _ w.heap.size 159 (rdI v v ((p : Int) + 1) eT 0) (0, 0) _ rfl (Blk.setRow HR.out) Tryz.underlying159 rfl infoRd) rfl ⟨by rw [HRES.out] <;> rfl, below_row HB.out (by omega) _⟩
    have qb : ((b : Int) == 125) = false := by rw [beq_eq_false_iff_ne]; omega
    by_cases hb44 : b = 44
    · subst hb44
      have hC := commaD_calls s hs (p + 1) v (by omega)
      have hZ : Y = commaD s (p + 1) v := by rw [HG.out, if_neg (fun h => absurd h.2 (by decide)), if_pos ⟨hd0, rfl⟩]
      generalize commaD s (p + 1) v = Z at *
      obtain ⟨zn, zm, zp, zl, ze⟩ := Z
      have HRES := Lib.hid hZ
      clear HG hZ
      have HFA : Hid (∀ w, Calls Tryz.prog 115 #[.string s, .int .i64 ((p : Int) + 1), .int .i64 v] w fun en w' => en = .returned (.agg (rdI zn zm zp (ofT zl) ze)) ∧ Below w.heap.size w w') := Lib.hid hC
      clear hC
      go_wp2_with fail
      refine (HFA.out _).mono ?_
      rintro en w4 ⟨rfl, hb⟩
      have HR2 := Lib.hid (HR.out.below hb (Blk.lt HR.out))
      have HB2 := Lib.hid (HB.out.trans (hb.mono (by omega)))
      have hz2 := Nat.le_trans hz hb.size
      clear HR HB hz hb
      have HR := HR2
      have HB := HB2
      have hz := hz2
      clear HR2 HB2 hz2
      go_wp2_with ((with_reducible refine wpList_store_st (o := ⟨none, .store 159 _ _, _, _, _, _⟩) rfl 159 _ _ rfl w.heap.size rfl rfl (run_storeAt_row _ w.heap.size 159 159 (rdI 0 0 0 eT 0) (rdI zn zm zp (ofT zl) ze) ?_ ?_ ?_ ?_) ?_); exact HR.out; exact infoRd; rfl; exact rdC_one _ _ _ _ _)
      exact bodyPost_ret (v := .agg (rdI zn zm zp (ofT zl) ze)) (results_cell_row rfl _ _ w.heap.size 159 (rdI zn zm zp (ofT zl) ze) (0, 0) _ rfl (Blk.setRow HR.out) Tryz.underlying159 rfl infoRd) rfl ⟨by rw [HRES.out] <;> rfl, below_row HB.out (by omega) _⟩
    have qc : ((b : Int) == 44) = false := by rw [beq_eq_false_iff_ne]; omega
    have HRES := Lib.hid (show Y = badC 3 (p + 1) by rw [HG.out, if_neg (fun h => hb125 h.2), if_neg (fun h => hb44 h.2)])
    clear HG 
    have HFA := Lib.hid (faultD_calls 3 ((p : Int) + 1))
    go_wp2_with fail
    refine (HFA.out _).mono ?_
    rintro en w4 ⟨rfl, hb⟩
    have HR2 := Lib.hid (HR.out.below hb (Blk.lt HR.out))
    have HB2 := Lib.hid (HB.out.trans (hb.mono (by omega)))
    have hz2 := Nat.le_trans hz hb.size
    clear HR HB hz hb
    have HR := HR2
    have HB := HB2
    have hz := hz2
    clear HR2 HB2 hz2
    go_wp2_with ((with_reducible refine wpList_store_st (o := ⟨none, .store 159 _ _, _, _, _, _⟩) rfl 159 _ _ rfl w.heap.size rfl rfl (run_storeAt_row _ w.heap.size 159 159 (rdI 0 0 0 eT 0) (rdI 0 0 ((p : Int) + 1) eT 3) ?_ ?_ ?_ ?_) ?_); exact HR.out; exact infoRd; rfl; exact rdC_one _ _ _ _ _)
    exact bodyPost_ret (v := .agg (rdI 0 0 ((p : Int) + 1) eT 3)) (results_cell_row rfl _ _ w.heap.size 159 (rdI 0 0 ((p : Int) + 1) eT 3) (0, 0) _ rfl (Blk.setRow HR.out) Tryz.underlying159 rfl infoRd) rfl ⟨by rw [HRES.out] <;> rfl, below_row HB.out (by omega) _⟩
  · have qe : ((e : Int) != 0) = true := by rw [bne_iff_ne]; omega
    have HRES := Lib.hid (show Y = badC e p by rw [HG.out, if_pos he])
    clear HG 
    have HFA := Lib.hid (faultD_calls e p)
    go_wp2_with fail
    refine (HFA.out _).mono ?_
    rintro en w4 ⟨rfl, hb⟩
    have HR2 := Lib.hid (HR.out.below hb (Blk.lt HR.out))
    have HB2 := Lib.hid (HB.out.trans (hb.mono (by omega)))
    have hz2 := Nat.le_trans hz hb.size
    clear HR HB hz hb
    have HR := HR2
    have HB := HB2
    have hz := hz2
    clear HR2 HB2 hz2
    go_wp2_with ((with_reducible refine wpList_store_st (o := ⟨none, .store 159 _ _, _, _, _, _⟩) rfl 159 _ _ rfl w.heap.size rfl rfl (run_storeAt_row _ w.heap.size 159 159 (rdI 0 0 0 eT 0) (rdI 0 0 p eT e) ?_ ?_ ?_ ?_) ?_); exact HR.out; exact infoRd; rfl; exact rdC_one _ _ _ _ _)
    exact bodyPost_ret (v := .agg (rdI 0 0 p eT e)) (results_cell_row rfl _ _ w.heap.size 159 (rdI 0 0 p eT e) (0, 0) _ rfl (Blk.setRow HR.out) Tryz.underlying159 rfl infoRd) rfl ⟨by rw [HRES.out] <;> rfl, below_row HB.out (by omega) _⟩
end Go.Proofs.YthodphgbdmnpoaaGreatDoor

/- The developers' counts: read. -/
namespace Go.Proofs.YthodphgbdmnpoaaGreatDoor
open Go.RowKit

def SRe (w : World) (B : Nat) (c n m : Int) (W : World) : Prop := (Blk W w.heap.size (rdI 0 0 0 eT 0) 159 ∧ Blk W B #[.int .u8 c, .int .i64 n, .int .i64 m] 99 ∧ w.heap.size + 1 ≤ B) ∧ Below w.heap.size w W
theorem SRe.drewS {w W : World} {B : Nat} {c n m : Int} (h : SRe w B c n m W) : SRe w B c n m W.drew := ⟨⟨h.1.1, h.1.2.1, h.1.2.2⟩, h.2.drew⟩

set_option maxRecDepth 100000 in
set_option maxHeartbeats 16000000 in
theorem readD4_calls (s : ByteArray) (hs : s.size ≤ 1000000) (at' : Int) (w : World) :
    Calls Tryz.prog 110 #[.string s, .int .i64 at'] w fun en w' => en = .returned (.agg (rdA (readD4 s at'))) ∧ Below w.heap.size w w' := by
  have HR := Lib.hid (Blk.new w (rdI 0 0 0 eT 0) 159)
  have HB : Hid (Below w.heap.size w (w.alloc (.cells (rdI 0 0 0 eT 0) 159))) := Lib.hid (by go_grown)
  have hz : w.heap.size + 1 ≤ (w.alloc (.cells (rdI 0 0 0 eT 0) 159)).heap.size := by simp
  have HFA := Lib.hid (faultD_calls 1 0)
  have HSG := Lib.hid signs_calls
  have hg : readD4 s at' = readD4 s at' := rfl
  conv at hg => rhs; unfold readD4
  by_cases hat : at' < 0 ∨ (s.size : Int) ≤ at'
  · rw [if_pos hat] at hg
    generalize readD4 s at' = Y at *
    have HRES := Lib.hid hg
    clear hg
    by_cases h0 : at' < 0
    · have q0 : decide (at' < 0) = true := by simpa using h0
      clear hat h0
      go_enter Tryz.func110, Tryz.ntmps110
      go_upto_region 1 with fail
      have e0 : w.alloc (.cells #[.int .i64 0, .int .i64 0, .int .i64 0, .string ⟨#[]⟩, .int .i64 0] 159) = w.alloc (.cells (rdI 0 0 0 eT 0) 159) := rfl
      try rw [e0]
      clear e0
      generalize w.alloc (.cells (rdI 0 0 0 eT 0) 159) = w1 at *
      go_wp2_with fail
      refine (HFA.out _).mono ?_
      rintro en w4 ⟨rfl, hb⟩
      have HR2 := Lib.hid (HR.out.below hb (Blk.lt HR.out))
      have HB2 := Lib.hid (HB.out.trans (hb.mono (by omega)))
      have hz2 := Nat.le_trans hz hb.size
      clear HR HB hz hb
      have HR := HR2
      have HB := HB2
      have hz := hz2
      clear HR2 HB2 hz2
      go_wp2_with ((with_reducible refine wpList_store_st (o := ⟨none, .store 159 _ _, _, _, _, _⟩) rfl 159 _ _ rfl w.heap.size rfl rfl (run_storeAt_row _ w.heap.size 159 159 (rdI 0 0 0 eT 0) (rdI 0 0 0 eT 1) ?_ ?_ ?_ ?_) ?_); exact HR.out; exact infoRd; rfl; exact rdC_one _ _ _ _ _)
      exact bodyPost_ret (v := .agg (rdI 0 0 0 eT 1)) (results_cell_row rfl _ _ w.heap.size 159 (rdI 0 0 0 eT 1) (0, 0) _ rfl (Blk.setRow HR.out) Tryz.underlying159 rfl infoRd) rfl ⟨by rw [HRES.out] <;> rfl, below_row HB.out (by omega) _⟩
    · have q0 : decide (at' < 0) = false := by simpa using h0
      have q1 : decide ((s.size : Int) ≤ at') = true := by rw [decide_eq_true_iff]; omega
      clear hat
      go_enter Tryz.func110, Tryz.ntmps110
      go_upto_region 1 with fail
      have e0 : w.alloc (.cells #[.int .i64 0, .int .i64 0, .int .i64 0, .string ⟨#[]⟩, .int .i64 0] 159) = w.alloc (.cells (rdI 0 0 0 eT 0) 159) := rfl
      try rw [e0]
      clear e0
      generalize w.alloc (.cells (rdI 0 0 0 eT 0) 159) = w1 at *
      go_wp2_with fail
      refine (HFA.out _).mono ?_
      rintro en w4 ⟨rfl, hb⟩
      have HR2 := Lib.hid (HR.out.below hb (Blk.lt HR.out))
      have HB2 := Lib.hid (HB.out.trans (hb.mono (by omega)))
      have hz2 := Nat.le_trans hz hb.size
      clear HR HB hz hb
      have HR := HR2
      have HB := HB2
      have hz := hz2
      clear HR2 HB2 hz2
      go_wp2_with ((with_reducible refine wpList_store_st (o := ⟨none, .store 159 _ _, _, _, _, _⟩) rfl 159 _ _ rfl w.heap.size rfl rfl (run_storeAt_row _ w.heap.size 159 159 (rdI 0 0 0 eT 0) (rdI 0 0 0 eT 1) ?_ ?_ ?_ ?_) ?_); exact HR.out; exact infoRd; rfl; exact rdC_one _ _ _ _ _)
      exact bodyPost_ret (v := .agg (rdI 0 0 0 eT 1)) (results_cell_row rfl _ _ w.heap.size 159 (rdI 0 0 0 eT 1) (0, 0) _ rfl (Blk.setRow HR.out) Tryz.underlying159 rfl infoRd) rfl ⟨by rw [HRES.out] <;> rfl, below_row HB.out (by omega) _⟩
  rw [if_neg hat] at hg
  obtain ⟨a, rfl⟩ : ∃ a : Nat, at' = a := ⟨at'.toNat, by omega⟩
  rw [show (a : Int).toNat = a from rfl] at hg
  have hlt : a < s.size := by omega
  clear hat
  have b0 : s[a].toNat = bt s a := (bt_eq s a hlt).symm
  by_cases h123 : bt s a = 123
  · rw [if_pos h123] at hg
    generalize readD4 s a = Y at *
    rw [h123] at b0
    have hC := bracesD_calls s hs (a + 1) (by omega)
    generalize bracesD s (a + 1) = Z at *
    obtain ⟨zn, zm, zp, zl, ze⟩ := Z
    have HRES := Lib.hid hg
    clear hg HFA h123
    have HFA : Hid (∀ w, Calls Tryz.prog 112 #[.string s, .int .i64 ((a : Int) + 1)] w fun en w' => en = .returned (.agg (rdI zn zm zp (ofT zl) ze)) ∧ Below w.heap.size w w') := Lib.hid hC
    clear hC
    go_enter Tryz.func110, Tryz.ntmps110
    go_upto_region 1 with fail
    have e0 : w.alloc (.cells #[.int .i64 0, .int .i64 0, .int .i64 0, .string ⟨#[]⟩, .int .i64 0] 159) = w.alloc (.cells (rdI 0 0 0 eT 0) 159) := rfl
    try rw [e0]
    clear e0
    generalize w.alloc (.cells (rdI 0 0 0 eT 0) 159) = w1 at *
    go_wp2_with fail
    refine (HFA.out _).mono ?_
    rintro en w4 ⟨rfl, hb⟩
    have HR2 := Lib.hid (HR.out.below hb (Blk.lt HR.out))
    have HB2 := Lib.hid (HB.out.trans (hb.mono (by omega)))
    have hz2 := Nat.le_trans hz hb.size
    clear HR HB hz hb
    have HR := HR2
    have HB := HB2
    have hz := hz2
    clear HR2 HB2 hz2
    go_wp2_with ((with_reducible refine wpList_store_st (o := ⟨none, .store 159 _ _, _, _, _, _⟩) rfl 159 _ _ rfl w.heap.size rfl rfl (run_storeAt_row _ w.heap.size 159 159 (rdI 0 0 0 eT 0) (rdI zn zm zp (ofT zl) ze) ?_ ?_ ?_ ?_) ?_); exact HR.out; exact infoRd; rfl; exact rdC_one _ _ _ _ _)
    exact bodyPost_ret (v := .agg (rdI zn zm zp (ofT zl) ze)) (results_cell_row rfl _ _ w.heap.size 159 (rdI zn zm zp (ofT zl) ze) (0, 0) _ rfl (Blk.setRow HR.out) Tryz.underlying159 rfl infoRd) rfl ⟨by rw [HRES.out] <;> rfl, below_row HB.out (by omega) _⟩
  rw [if_neg h123] at hg
  have hb256 := bt_lt s a
  generalize bt s a = b at *
  have q123 : ((b : Int) == 123) = false := by rw [beq_eq_false_iff_ne]; omega
  generalize readD4 s a = Y at *
  have HG := Lib.hid hg
  clear hg h123
  go_enter Tryz.func110, Tryz.ntmps110
  go_upto_region 1 with fail
  have e0 : w.alloc (.cells #[.int .i64 0, .int .i64 0, .int .i64 0, .string ⟨#[]⟩, .int .i64 0] 159) = w.alloc (.cells (rdI 0 0 0 eT 0) 159) := rfl
  try rw [e0]
  clear e0
  generalize w.alloc (.cells (rdI 0 0 0 eT 0) 159) = w1 at *
  go_wp2_with fail
  refine (HSG.out _).mono ?_
  rintro en w4 ⟨rfl, hb⟩
  have HR2 := Lib.hid (HR.out.below hb (Blk.lt HR.out))
  have HB2 := Lib.hid (HB.out.trans (hb.mono (by omega)))
  have hz2 := Nat.le_trans hz hb.size
  clear HR HB hz hb
  have HR := HR2
  have HB := HB2
  have hz := hz2
  clear HR2 HB2 hz2
  clear HSG q123
  go_wp2_with fail
  go_loopw [25] (fun x wr => ∃ k : Nat, k ≤ 3 ∧ x = .int .i64 k ∧ (1 ≤ k → b ≠ 42) ∧ (2 ≤ k → b ≠ 43) ∧ (3 ≤ k → b ≠ 63) ∧ Blk wr w.heap.size (rdI 0 0 0 eT 0) 159 ∧ Below w.heap.size w wr ∧ w.heap.size + 1 ≤ wr.heap.size) (fun x _ => 3 - (intOf x).toNat)
  case atStart => exact ⟨0, by omega, rfl, fun h => by omega, fun h => by omega, fun h => by omega, HR.out, HB.out, hz⟩
  case round =>
    clear HR HB hz
    obtain ⟨k, hk, rfl, k1, k2, k3, hR, hB, hz⟩ := hrel
    have HR := Lib.hid hR
    have HB := Lib.hid hB
    clear hR hB
    rcases (by omega : k = 0 ∨ k = 1 ∨ k = 2 ∨ k = 3) with rfl | rfl | rfl | rfl
    · have h0 : SRe w wr.heap.size 42 0 (-1) (wr.alloc (.cells #[.int .u8 42, .int .i64 0, .int .i64 (-1)] 99)) := ⟨⟨HR.out.alloc _, Blk.new wr _ _, hz⟩, HB.out.alloc (by omega) _⟩
      have hz2 : w.heap.size + 1 ≤ (wr.alloc (.cells #[.int .u8 42, .int .i64 0, .int .i64 (-1)] 99)).heap.size := by simp; omega
      clear HR HB
      have hix : ∀ w', (Instr.index 100 (.agg sgI) (.int .i64 0)).run Tryz.prog w' = .ok (.agg #[.int .u8 42, .int .i64 0, .int .i64 (-1)]) w' := fun w' => by kernel_rfl
      go_wp2_with fail
      clear hix
      generalize wr.alloc (.cells #[.int .u8 42, .int .i64 0, .int .i64 (-1)] 99) = w5 at *
      generalize wr.heap.size = B at *
      refine region_steps (S := SRe w B 42 0 (-1)) (by kernel_rfl) h0.drewS ?_
      clear h0 hz2
      simp only [List.size_toArray, List.length_cons, List.length_nil, Nat.reduceAdd, Array.replicate_succ, Array.replicate_zero, List.push_toArray, List.nil_append, List.cons_append]
      refine AnyS.next (i := 0) (d := some 28) (v := .pointer (some ⟨B, 0, none⟩)) rfl rfl (by kernel_rfl) (by kernel_rfl) (by kernel_rfl) (StepsIf.yield (by kernel_rfl) (fun w' hS => by clear hS; go_simp)) ?_
      intro a' ha'
      simp only [Act.put, List.setIfInBounds_toArray, List.set_cons_zero, List.set_cons_succ] at ha'
      subst ha'
      refine AnyS.next (i := 1) (d := some 29) (v := .int .u8 42) rfl rfl (by kernel_rfl) (by kernel_rfl) (by kernel_rfl) (StepsIf.yield (by kernel_rfl) (fun w' hS => by have c0 := hS.1.2.1.cell 0; simp only [List.getElem?_toArray, List.getElem?_cons_zero] at c0; clear hS; go_simp)) ?_
      intro a' ha'
      simp only [Act.put, List.setIfInBounds_toArray, List.set_cons_zero, List.set_cons_succ] at ha'
      subst ha'
      refine AnyS.next (i := 2) (d := some 30) (v := .string s) rfl rfl (by kernel_rfl) (by kernel_rfl) (by kernel_rfl) (StepsIf.yield (by kernel_rfl) (fun w' hS => by clear hS; go_simp)) ?_
      intro a' ha'
      simp only [Act.put, List.setIfInBounds_toArray, List.set_cons_zero, List.set_cons_succ] at ha'
      subst ha'
      refine AnyS.next (i := 3) (d := some 31) (v := .int .i64 a) rfl rfl (by kernel_rfl) (by kernel_rfl) (by kernel_rfl) (StepsIf.yield (by kernel_rfl) (fun w' hS => by clear hS; go_simp)) ?_
      intro a' ha'
      simp only [Act.put, List.setIfInBounds_toArray, List.set_cons_zero, List.set_cons_succ] at ha'
      subst ha'
      refine AnyS.next (i := 4) (d := some 32) (v := .int .u8 b) rfl rfl (by kernel_rfl) (by kernel_rfl) (by kernel_rfl) (StepsIf.yield (by kernel_rfl) (fun w' hS => by clear hS; go_simp)) ?_
      intro a' ha'
      simp only [Act.put, List.setIfInBounds_toArray, List.set_cons_zero, List.set_cons_succ] at ha'
      subst ha'
      refine AnyS.next (i := 5) (d := some 33) (v := .bool ((42 : Int) == (b : Int))) rfl rfl (by kernel_rfl) (by kernel_rfl) (by kernel_rfl) (StepsIf.yield (by kernel_rfl) (fun w' hS => by clear hS; go_simp)) ?_
      intro a' ha'
      simp only [Act.put, List.setIfInBounds_toArray, List.set_cons_zero, List.set_cons_succ] at ha'
      subst ha'
      refine AnyS.done (by kernel_rfl) (fun w6 hS => ?_) _
      have c1 := hS.1.2.1.cell 1; have c2 := hS.1.2.1.cell 2
      simp only [List.getElem?_toArray, List.getElem?_cons_zero, List.getElem?_cons_succ] at c1 c2
      have HR := Lib.hid hS.1.1
      have HB := Lib.hid hS.2
      have hz2 : w.heap.size + 1 ≤ w6.heap.size := by have := hS.1.2.1.lt; have := hS.1.2.2; omega
      clear hS
      by_cases hbb : b = 42
      · subst hbb
        have HRES := Lib.hid (show Y = okR 0 (-1) (a + 1) by rw [HG.out]; rfl)
        clear HG k1 k2 k3 hz
        go_wp2_with ((with_reducible refine wpList_store_st (o := ⟨none, .store 159 _ _, _, _, _, _⟩) rfl 159 _ _ rfl w.heap.size rfl rfl (run_storeAt_row _ w.heap.size 159 159 (rdI 0 0 0 eT 0) (rdI 0 (-1) ((a : Int) + 1) eT 0) ?_ ?_ ?_ ?_) ?_); exact HR.out; exact infoRd; rfl; exact rdC_one _ _ _ _ _)
        exact bodyPost_ret (v := .agg (rdI 0 (-1) ((a : Int) + 1) eT 0)) (results_cell_row rfl _ _ w.heap.size 159 (rdI 0 (-1) ((a : Int) + 1) eT 0) (0, 0) _ rfl (Blk.setRow HR.out) Tryz.underlying159 rfl infoRd) rfl ⟨by rw [HRES.out] <;> rfl, below_row HB.out (by omega) _⟩
      · have qb : ((42 : Int) == (b : Int)) = false := by rw [beq_eq_false_iff_ne]; omega
        clear c1 c2
        go_wp2_with fail
        go_roundw
        case rel => exact ⟨1, by omega, rfl, fun _ => by first | exact hbb | exact k1 (by omega), fun h => by first | omega | exact hbb | exact k2 (by omega), fun h => by first | omega | exact hbb, HR.out, HB.out, hz2⟩
        case measure => simp [intOf]
    · have h0 : SRe w wr.heap.size 43 1 (-1) (wr.alloc (.cells #[.int .u8 43, .int .i64 1, .int .i64 (-1)] 99)) := ⟨⟨HR.out.alloc _, Blk.new wr _ _, hz⟩, HB.out.alloc (by omega) _⟩
      have hz2 : w.heap.size + 1 ≤ (wr.alloc (.cells #[.int .u8 43, .int .i64 1, .int .i64 (-1)] 99)).heap.size := by simp; omega
      clear HR HB
      have hix : ∀ w', (Instr.index 100 (.agg sgI) (.int .i64 1)).run Tryz.prog w' = .ok (.agg #[.int .u8 43, .int .i64 1, .int .i64 (-1)]) w' := fun w' => by kernel_rfl
      go_wp2_with fail
      clear hix
      generalize wr.alloc (.cells #[.int .u8 43, .int .i64 1, .int .i64 (-1)] 99) = w5 at *
      generalize wr.heap.size = B at *
      refine region_steps (S := SRe w B 43 1 (-1)) (by kernel_rfl) h0.drewS ?_
      clear h0 hz2
      simp only [List.size_toArray, List.length_cons, List.length_nil, Nat.reduceAdd, Array.replicate_succ, Array.replicate_zero, List.push_toArray, List.nil_append, List.cons_append]
      refine AnyS.next (i := 0) (d := some 28) (v := .pointer (some ⟨B, 0, none⟩)) rfl rfl (by kernel_rfl) (by kernel_rfl) (by kernel_rfl) (StepsIf.yield (by kernel_rfl) (fun w' hS => by clear hS; go_simp)) ?_
      intro a' ha'
      simp only [Act.put, List.setIfInBounds_toArray, List.set_cons_zero, List.set_cons_succ] at ha'
      subst ha'
      refine AnyS.next (i := 1) (d := some 29) (v := .int .u8 43) rfl rfl (by kernel_rfl) (by kernel_rfl) (by kernel_rfl) (StepsIf.yield (by kernel_rfl) (fun w' hS => by have c0 := hS.1.2.1.cell 0; simp only [List.getElem?_toArray, List.getElem?_cons_zero] at c0; clear hS; go_simp)) ?_
      intro a' ha'
      simp only [Act.put, List.setIfInBounds_toArray, List.set_cons_zero, List.set_cons_succ] at ha'
      subst ha'
      refine AnyS.next (i := 2) (d := some 30) (v := .string s) rfl rfl (by kernel_rfl) (by kernel_rfl) (by kernel_rfl) (StepsIf.yield (by kernel_rfl) (fun w' hS => by clear hS; go_simp)) ?_
      intro a' ha'
      simp only [Act.put, List.setIfInBounds_toArray, List.set_cons_zero, List.set_cons_succ] at ha'
      subst ha'
      refine AnyS.next (i := 3) (d := some 31) (v := .int .i64 a) rfl rfl (by kernel_rfl) (by kernel_rfl) (by kernel_rfl) (StepsIf.yield (by kernel_rfl) (fun w' hS => by clear hS; go_simp)) ?_
      intro a' ha'
      simp only [Act.put, List.setIfInBounds_toArray, List.set_cons_zero, List.set_cons_succ] at ha'
      subst ha'
      refine AnyS.next (i := 4) (d := some 32) (v := .int .u8 b) rfl rfl (by kernel_rfl) (by kernel_rfl) (by kernel_rfl) (StepsIf.yield (by kernel_rfl) (fun w' hS => by clear hS; go_simp)) ?_
      intro a' ha'
      simp only [Act.put, List.setIfInBounds_toArray, List.set_cons_zero, List.set_cons_succ] at ha'
      subst ha'
      refine AnyS.next (i := 5) (d := some 33) (v := .bool ((43 : Int) == (b : Int))) rfl rfl (by kernel_rfl) (by kernel_rfl) (by kernel_rfl) (StepsIf.yield (by kernel_rfl) (fun w' hS => by clear hS; go_simp)) ?_
      intro a' ha'
      simp only [Act.put, List.setIfInBounds_toArray, List.set_cons_zero, List.set_cons_succ] at ha'
      subst ha'
      refine AnyS.done (by kernel_rfl) (fun w6 hS => ?_) _
      have c1 := hS.1.2.1.cell 1; have c2 := hS.1.2.1.cell 2
      simp only [List.getElem?_toArray, List.getElem?_cons_zero, List.getElem?_cons_succ] at c1 c2
      have HR := Lib.hid hS.1.1
      have HB := Lib.hid hS.2
      have hz2 : w.heap.size + 1 ≤ w6.heap.size := by have := hS.1.2.1.lt; have := hS.1.2.2; omega
      clear hS
      by_cases hbb : b = 43
      · subst hbb
        have HRES := Lib.hid (show Y = okR 1 (-1) (a + 1) by rw [HG.out]; rfl)
        clear HG k1 k2 k3 hz
        go_wp2_with ((with_reducible refine wpList_store_st (o := ⟨none, .store 159 _ _, _, _, _, _⟩) rfl 159 _ _ rfl w.heap.size rfl rfl (run_storeAt_row _ w.heap.size 159 159 (rdI 0 0 0 eT 0) (rdI 1 (-1) ((a : Int) + 1) eT 0) ?_ ?_ ?_ ?_) ?_); exact HR.out; exact infoRd; rfl; exact rdC_one _ _ _ _ _)
        exact bodyPost_ret (v := .agg (rdI 1 (-1) ((a : Int) + 1) eT 0)) (results_cell_row rfl _ _ w.heap.size 159 (rdI 1 (-1) ((a : Int) + 1) eT 0) (0, 0) _ rfl (Blk.setRow HR.out) Tryz.underlying159 rfl infoRd) rfl ⟨by rw [HRES.out] <;> rfl, below_row HB.out (by omega) _⟩
      · have qb : ((43 : Int) == (b : Int)) = false := by rw [beq_eq_false_iff_ne]; omega
        clear c1 c2
        go_wp2_with fail
        go_roundw
        case rel => exact ⟨2, by omega, rfl, fun _ => by first | exact hbb | exact k1 (by omega), fun h => by first | omega | exact hbb | exact k2 (by omega), fun h => by first | omega | exact hbb, HR.out, HB.out, hz2⟩
        case measure => simp [intOf]
    · have h0 : SRe w wr.heap.size 63 0 (1) (wr.alloc (.cells #[.int .u8 63, .int .i64 0, .int .i64 (1)] 99)) := ⟨⟨HR.out.alloc _, Blk.new wr _ _, hz⟩, HB.out.alloc (by omega) _⟩
      have hz2 : w.heap.size + 1 ≤ (wr.alloc (.cells #[.int .u8 63, .int .i64 0, .int .i64 (1)] 99)).heap.size := by simp; omega
      clear HR HB
      have hix : ∀ w', (Instr.index 100 (.agg sgI) (.int .i64 2)).run Tryz.prog w' = .ok (.agg #[.int .u8 63, .int .i64 0, .int .i64 (1)]) w' := fun w' => by kernel_rfl
      go_wp2_with fail
      clear hix
      generalize wr.alloc (.cells #[.int .u8 63, .int .i64 0, .int .i64 (1)] 99) = w5 at *
      generalize wr.heap.size = B at *
      refine region_steps (S := SRe w B 63 0 (1)) (by kernel_rfl) h0.drewS ?_
      clear h0 hz2
      simp only [List.size_toArray, List.length_cons, List.length_nil, Nat.reduceAdd, Array.replicate_succ, Array.replicate_zero, List.push_toArray, List.nil_append, List.cons_append]
      refine AnyS.next (i := 0) (d := some 28) (v := .pointer (some ⟨B, 0, none⟩)) rfl rfl (by kernel_rfl) (by kernel_rfl) (by kernel_rfl) (StepsIf.yield (by kernel_rfl) (fun w' hS => by clear hS; go_simp)) ?_
      intro a' ha'
      simp only [Act.put, List.setIfInBounds_toArray, List.set_cons_zero, List.set_cons_succ] at ha'
      subst ha'
      refine AnyS.next (i := 1) (d := some 29) (v := .int .u8 63) rfl rfl (by kernel_rfl) (by kernel_rfl) (by kernel_rfl) (StepsIf.yield (by kernel_rfl) (fun w' hS => by have c0 := hS.1.2.1.cell 0; simp only [List.getElem?_toArray, List.getElem?_cons_zero] at c0; clear hS; go_simp)) ?_
      intro a' ha'
      simp only [Act.put, List.setIfInBounds_toArray, List.set_cons_zero, List.set_cons_succ] at ha'
      subst ha'
      refine AnyS.next (i := 2) (d := some 30) (v := .string s) rfl rfl (by kernel_rfl) (by kernel_rfl) (by kernel_rfl) (StepsIf.yield (by kernel_rfl) (fun w' hS => by clear hS; go_simp)) ?_
      intro a' ha'
      simp only [Act.put, List.setIfInBounds_toArray, List.set_cons_zero, List.set_cons_succ] at ha'
      subst ha'
      refine AnyS.next (i := 3) (d := some 31) (v := .int .i64 a) rfl rfl (by kernel_rfl) (by kernel_rfl) (by kernel_rfl) (StepsIf.yield (by kernel_rfl) (fun w' hS => by clear hS; go_simp)) ?_
      intro a' ha'
      simp only [Act.put, List.setIfInBounds_toArray, List.set_cons_zero, List.set_cons_succ] at ha'
      subst ha'
      refine AnyS.next (i := 4) (d := some 32) (v := .int .u8 b) rfl rfl (by kernel_rfl) (by kernel_rfl) (by kernel_rfl) (StepsIf.yield (by kernel_rfl) (fun w' hS => by clear hS; go_simp)) ?_
      intro a' ha'
      simp only [Act.put, List.setIfInBounds_toArray, List.set_cons_zero, List.set_cons_succ] at ha'
      subst ha'
      refine AnyS.next (i := 5) (d := some 33) (v := .bool ((63 : Int) == (b : Int))) rfl rfl (by kernel_rfl) (by kernel_rfl) (by kernel_rfl) (StepsIf.yield (by kernel_rfl) (fun w' hS => by clear hS; go_simp)) ?_
      intro a' ha'
      simp only [Act.put, List.setIfInBounds_toArray, List.set_cons_zero, List.set_cons_succ] at ha'
      subst ha'
      refine AnyS.done (by kernel_rfl) (fun w6 hS => ?_) _
      have c1 := hS.1.2.1.cell 1; have c2 := hS.1.2.1.cell 2
      simp only [List.getElem?_toArray, List.getElem?_cons_zero, List.getElem?_cons_succ] at c1 c2
      have HR := Lib.hid hS.1.1
      have HB := Lib.hid hS.2
      have hz2 : w.heap.size + 1 ≤ w6.heap.size := by have := hS.1.2.1.lt; have := hS.1.2.2; omega
      clear hS
      by_cases hbb : b = 63
      · subst hbb
        have HRES := Lib.hid (show Y = okR 0 (1) (a + 1) by rw [HG.out]; rfl)
        clear HG k1 k2 k3 hz
        go_wp2_with ((with_reducible refine wpList_store_st (o := ⟨none, .store 159 _ _, _, _, _, _⟩) rfl 159 _ _ rfl w.heap.size rfl rfl (run_storeAt_row _ w.heap.size 159 159 (rdI 0 0 0 eT 0) (rdI 0 (1) ((a : Int) + 1) eT 0) ?_ ?_ ?_ ?_) ?_); exact HR.out; exact infoRd; rfl; exact rdC_one _ _ _ _ _)
        exact bodyPost_ret (v := .agg (rdI 0 (1) ((a : Int) + 1) eT 0)) (results_cell_row rfl _ _ w.heap.size 159 (rdI 0 (1) ((a : Int) + 1) eT 0) (0, 0) _ rfl (Blk.setRow HR.out) Tryz.underlying159 rfl infoRd) rfl ⟨by rw [HRES.out] <;> rfl, below_row HB.out (by omega) _⟩
      · have qb : ((63 : Int) == (b : Int)) = false := by rw [beq_eq_false_iff_ne]; omega
        clear c1 c2
        go_wp2_with fail
        go_roundw
        case rel => exact ⟨3, by omega, rfl, fun _ => by first | exact hbb | exact k1 (by omega), fun h => by first | omega | exact hbb | exact k2 (by omega), fun h => by first | omega | exact hbb, HR.out, HB.out, hz2⟩
        case measure => simp [intOf]
    · have HRES := Lib.hid (show Y = badC 1 0 by rw [HG.out, if_neg (k1 (by omega)), if_neg (k2 (by omega)), if_neg (k3 (by omega))])
      clear HG k1 k2 k3
      go_wp2_with fail
      refine (HFA.out _).mono ?_
      rintro en w4 ⟨rfl, hb⟩
      have HR2 := Lib.hid (HR.out.below hb (Blk.lt HR.out))
      have HB2 := Lib.hid (HB.out.trans (hb.mono (by omega)))
      have hz2 := Nat.le_trans hz hb.size
      clear HR HB hz hb
      have HR := HR2
      have HB := HB2
      have hz := hz2
      clear HR2 HB2 hz2
      go_wp2_with ((with_reducible refine wpList_store_st (o := ⟨none, .store 159 _ _, _, _, _, _⟩) rfl 159 _ _ rfl w.heap.size rfl rfl (run_storeAt_row _ w.heap.size 159 159 (rdI 0 0 0 eT 0) (rdI 0 0 0 eT 1) ?_ ?_ ?_ ?_) ?_); exact HR.out; exact infoRd; rfl; exact rdC_one _ _ _ _ _)
      exact bodyPost_ret (v := .agg (rdI 0 0 0 eT 1)) (results_cell_row rfl _ _ w.heap.size 159 (rdI 0 0 0 eT 1) (0, 0) _ rfl (Blk.setRow HR.out) Tryz.underlying159 rfl infoRd) rfl ⟨by rw [HRES.out] <;> rfl, below_row HB.out (by omega) _⟩
end Go.Proofs.YthodphgbdmnpoaaGreatDoor

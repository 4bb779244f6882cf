/- Texts put together: Ab Ac Ad Ae Aj Ah. -/
import Derived.Test.YtpncomjpmilbkaaDoorChecked
import Derived.Test.YtpncomjpmilbkaaDoorPC
import Derived.Test.YtpncomjpmilbkaaDoorPD
import Derived.Test.YtpncomjpmilbkaaDoorPF
import Derived.WalkLawsBesides
import Derived.LoopTactic
import Derived.Lib.Hide
import Derived.Handy
import Derived.IntWalk
import Derived.Test.YtpncomjpmilbkaaDoorPG
import Derived.Test.YtpncomjpmilbkaaDoorPA
import Derived.Deep.OwnRows
import Derived.Outline
import Derived.Deep.DeepCutAuto
/- The document's trees: Formed. -/
namespace Go.Proofs.YtpncomjpmilbkaaDoor
open Go.RowKit BS

structure NdN where
  kind : Int
  kids : Int
  n : Int
  m : Int
  set : BitVec 256
@[reducible] def ndI (k c n m : Int) (t : BitVec 256) : Array Value := #[.int .i64 k, .int .i64 c, .int .i64 n, .int .i64 m, .int .u64 (wd t 0), .int .u64 (wd t 1), .int .u64 (wd t 2), .int .u64 (wd t 3)]
def ndA (x : NdN) : Array Value := ndI x.kind x.kids x.n x.m x.set
/-- A slice of nodes. -/
def NodesAt (l : List NdN) (a : Option Addr) (W : World) : Prop :=
  l ≠ [] → ∃ g off, a = some ⟨g, off, none⟩ ∧ g < W.heap.size ∧ ∀ i (h : i < l.length) j, j < 8 → W.cell? ⟨g, off + i * 8 + j, none⟩ = (ndA l[i])[j]?
theorem NodesAt.below {l : List NdN} {a : Option Addr} {W W' : World} (h : NodesAt l a W) (hb : Below W.heap.size W W') : NodesAt l a W' := fun hne => by
  obtain ⟨g, off, e, hg, hc⟩ := h hne
  exact ⟨g, off, e, Nat.lt_of_lt_of_le hg hb.size, fun i hi j hj => (hb.cell (p := ⟨g, off + i * 8 + j, none⟩) hg).trans (hc i hi j hj)⟩

set_option maxRecDepth 100000 in
set_option maxHeartbeats 4000000 in
theorem rFormed_calls (l : List NdN) (hl : l.length ≤ 1000000) (a : Option Addr) (cap : Nat) (w : World) (h : NodesAt l a w) :
    Calls Tryd.prog 30 #[.slice a l.length cap] w fun e w' => e = .returned (.bool (decide (manyF 0 (l.map NdN.kids) = some 1))) ∧ w = w' := by
  generalize hR : manyF 0 (l.map NdN.kids) = R
  have HR := Lib.hid hR
  have HN := Lib.hid h
  clear hR h
  go_enter Tryd.func30, Tryd.ntmps30
  go_wp2_with fail
  go_loop [3, 4] (fun vm vi => ∃ (M i : Nat), i ≤ l.length ∧ M ≤ i ∧ vm = .int .i64 M ∧ vi = .int .i64 i ∧ manyF M ((l.drop i).map NdN.kids) = R) (fun _ vi => l.length - (intOf vi).toNat)
  case atStart => exact ⟨0, 0, Nat.zero_le _, Nat.le_refl _, rfl, rfl, by rw [List.drop_zero]; exact HR.out⟩
  case round =>
    clear HR
    obtain ⟨M, i, hi, hM, rfl, rfl, hres⟩ := hrel
    by_cases hlt : i < l.length
    · have hne : l ≠ [] := by rintro rfl; simp at hlt
      obtain ⟨g, off, rfl, hg, hc⟩ := HN.out hne
      have hd : decide ((i : Int) < (l.length : Int)) = true := by rw [decide_eq_true_iff]; omega
      have hd2 : decide (i < l.length) = true := by rw [decide_eq_true_iff]; omega
      rw [List.drop_eq_getElem_cons hlt, List.map_cons, manyF] at hres
      have c1 := hc i hlt 1 (by decide)
      clear hc hne
      generalize l[i] = x at *
      obtain ⟨xk, xc, xn, xm, xs⟩ := x
      simp only [ndA, List.getElem?_toArray, List.getElem?_cons_zero, List.getElem?_cons_succ] at c1 hres
      by_cases h0 : xc < 0
      · have q0 : decide (xc < 0) = true := decide_eq_true h0
        rw [if_pos (.inl h0)] at hres
        have HRES := Lib.hid hres
        clear hres h0
        go_wp2_with fail
        go_ret
        exact ⟨by rw [← HRES.out] <;> rfl, rfl⟩
      have q0 : decide (xc < 0) = false := decide_eq_false h0
      by_cases h1 : (M : Int) < xc
      · have q1 : decide ((M : Int) < xc) = true := decide_eq_true h1
        rw [if_pos (.inr h1)] at hres
        have HRES := Lib.hid hres
        clear hres h0 h1
        go_wp2_with fail
        go_ret
        exact ⟨by rw [← HRES.out] <;> rfl, rfl⟩
      have q1 : decide ((M : Int) < xc) = false := decide_eq_false h1
      rw [if_neg (fun h => by rcases h with h | h; exact h0 h; exact h1 h)] at hres
      obtain ⟨C, rfl⟩ : ∃ C : Nat, xc = C := ⟨xc.toNat, by omega⟩
      rw [Int.toNat_natCast] at hres
      have HRES := Lib.hid hres
      have x1 : IntKind.i64.wrap ((M : Int) - (C : Int)) = (M : Int) - (C : Int) := IntWalk.i64_in _ (by omega)
      have x2 : IntKind.i64.wrap ((M : Int) - (C : Int) + 1) = (M : Int) - (C : Int) + 1 := IntWalk.i64_in _ (by omega)
      have hCM : C ≤ M := by omega
      clear hres h0 h1
      go_wp2_with fail
      go_round
      case rel => exact ⟨M - C + 1, i + 1, by omega, by omega, by congr 1; omega, by simp, HRES.out⟩
      case measure => simp [intOf]; omega
    · obtain rfl : i = l.length := by omega
      have hd : decide ((l.length : Int) < (l.length : Int)) = false := by simp
      rw [List.drop_length, List.map_nil, manyF] at hres
      have HRES := Lib.hid hres
      clear hres
      by_cases h1 : M = 1
      · subst h1
        go_wp2_with fail
        go_ret
        exact ⟨by rw [← HRES.out] <;> rfl, rfl⟩
      · have q : ((M : Int) == 1) = false := by rw [beq_eq_false_iff_ne]; omega
        have HM := Lib.hid h1
        clear h1
        go_wp2_with fail
        go_ret
        exact ⟨by rw [← HRES.out, decide_eq_false (fun h => HM.out (Option.some.inj h))] <;> rfl, rfl⟩
end Go.Proofs.YtpncomjpmilbkaaDoor

/- The document's trees: piece, kid; Ints of the same numbers. -/
namespace Go.Proofs.YtpncomjpmilbkaaDoor
open Go.RowKit BS

set_option maxHeartbeats 1000000 in
theorem piece_calls (k : Int) (w : World) : Calls Tryd.prog 57 #[.int .i64 k] w fun e w' => e = .returned (.bool (pieceF k)) ∧ w = w' := by
  have HF := Lib.hid (show pieceF k = (k == 2 || k == 3 || k == 4) from rfl)
  generalize pieceF k = R at *
  cases h2 : (k == 2) with
  | true =>
    rw [h2] at HF
    go_enter Tryd.func57, Tryd.ntmps57
    go_wp2
    go_ret
    exact ⟨by rw [HF.out] <;> simp, rfl⟩
  | false =>
    rw [h2] at HF
    cases h3 : (k == 3) with
    | true =>
      rw [h3] at HF
      go_enter Tryd.func57, Tryd.ntmps57
      go_wp2
      go_ret
      exact ⟨by rw [HF.out] <;> simp, rfl⟩
    | false =>
      rw [h3] at HF
      generalize hk : (k == 4) = z at HF
      go_enter Tryd.func57, Tryd.ntmps57
      go_wp2
      go_ret
      exact ⟨by rw [HF.out] <;> simp, rfl⟩
set_option maxHeartbeats 1000000 in
theorem kid_calls (o k : Int) (w : World) : Calls Tryd.prog 32 #[.int .i64 o, .int .i64 k] w fun e w' => e = .returned (.bool (kidF o k)) ∧ w = w' := by
  have HP := Lib.hid (piece_calls k)
  have hg : kidF o k = kidF o k := rfl
  conv at hg => rhs; unfold kidF
  generalize kidF o k = R at *
  generalize pieceF k = P at *
  have HG := Lib.hid hg
  clear hg
  by_cases h3 : o = 3
  · subst h3
    go_enter Tryd.func32, Tryd.ntmps32
    go_wp2_with fail
    go_ret
    exact ⟨by rw [HG.out] <;> rfl, rfl⟩
  have q3 : (o == 3) = false := by rw [beq_eq_false_iff_ne]; omega
  by_cases h4 : o = 4 ∨ o = 5
  · have HR := Lib.hid (show R = P by rw [HG.out, if_neg h3, if_pos h4])
    clear HG h3
    rcases h4 with rfl | rfl
    · go_enter Tryd.func32, Tryd.ntmps32
      go_wp2_with fail
      refine (HP.out _).mono ?_
      rintro e w' ⟨rfl, rfl⟩
      go_wp2_with fail
      go_ret
      exact ⟨by rw [HR.out] <;> rfl, rfl⟩
    · go_enter Tryd.func32, Tryd.ntmps32
      go_wp2_with fail
      refine (HP.out _).mono ?_
      rintro e w' ⟨rfl, rfl⟩
      go_wp2_with fail
      go_ret
      exact ⟨by rw [HR.out] <;> rfl, rfl⟩
  have q4 : (o == 4) = false := by rw [beq_eq_false_iff_ne]; omega
  have q5 : (o == 5) = false := by rw [beq_eq_false_iff_ne]; omega
  by_cases h6 : o = 6
  · subst h6
    have HR := Lib.hid (show R = (k != 6) by rw [HG.out]; rfl)
    clear HG h3 h4
    go_enter Tryd.func32, Tryd.ntmps32
    go_wp2_with fail
    go_ret
    exact ⟨by rw [HR.out] <;> rfl, rfl⟩
  have q6 : (o == 6) = false := by rw [beq_eq_false_iff_ne]; omega
  have HR := Lib.hid (show R = false by rw [HG.out, if_neg h3, if_neg h4, if_neg h6])
  clear HG h3 h4 h6
  go_enter Tryd.func32, Tryd.ntmps32
  go_wp2_with fail
  go_ret
  exact ⟨by rw [HR.out] <;> rfl, rfl⟩

/-- A slice of whole numbers. -/
def IntsAt (l : List Int) (a : Option Addr) (W : World) : Prop := l ≠ [] → ∃ g, a = some ⟨g, 0, none⟩ ∧ g < W.heap.size ∧ ∀ i (h : i < l.length), W.cell? ⟨g, i, none⟩ = some (.int .i64 l[i])
theorem IntsAt.below {l : List Int} {a : Option Addr} {W W' : World} (h : IntsAt l a W) (hb : Below W.heap.size W W') : IntsAt l a W' := fun hne => by
  obtain ⟨g, e, hg, hc⟩ := h hne
  exact ⟨g, e, Nat.lt_of_lt_of_le hg hb.size, fun i hi => (hb.cell (p := ⟨g, i, none⟩) hg).trans (hc i hi)⟩
/-- A slice of whole numbers that may begin within its block. -/
def IntsO (l : List Int) (a : Option Addr) (W : World) : Prop := l ≠ [] → ∃ g o, a = some ⟨g, o, none⟩ ∧ g < W.heap.size ∧ ∀ i (h : i < l.length), W.cell? ⟨g, o + i, none⟩ = some (.int .i64 l[i])
theorem IntsO.below {l : List Int} {a : Option Addr} {W W' : World} (h : IntsO l a W) (hb : Below W.heap.size W W') : IntsO l a W' := fun hne => by
  obtain ⟨g, o, e, hg, hc⟩ := h hne
  exact ⟨g, o, e, Nat.lt_of_lt_of_le hg hb.size, fun i hi => (hb.cell (p := ⟨g, o + i, none⟩) hg).trans (hc i hi)⟩
theorem IntsAt.o {l : List Int} {a : Option Addr} {W : World} (h : IntsAt l a W) : IntsO l a W := fun hne => by
  obtain ⟨g, e, hg, hc⟩ := h hne
  exact ⟨g, 0, e, hg, fun i hi => by rw [Nat.zero_add]; exact hc i hi⟩
def SIn (w : World) (g1 o1 g2 o2 i : Nat) (x : Int) (W : World) : Prop := W.cell? ⟨g1, o1 + i, none⟩ = some (.int .i64 x) ∧ W.cell? ⟨g2, o2 + i, none⟩ = some (.int .i64 x) ∧ W = w
end Go.Proofs.YtpncomjpmilbkaaDoor

/- The document's trees: Sizes. -/
namespace Go.Proofs.YtpncomjpmilbkaaDoor
open Go.RowKit BS

theorem len_le_sum : ∀ (s : List Nat), (∀ x ∈ s, 0 < x) → s.length ≤ s.sum
  | [], _ => Nat.le_refl _
  | z :: s, h => by
    have h1 := h z (List.mem_cons_self ..)
    have h2 := len_le_sum s (fun x hx => h x (List.mem_cons_of_mem _ hx))
    rw [List.length_cons, List.sum_cons]
    omega
/-- Kids' numbers, and sizes, of a list of nodes. -/
def ksN (l : List NdN) : List Nat := (l.map NdN.kids).map Int.toNat
def sizesR (l : List NdN) : List Int := if manyF 0 (l.map NdN.kids) = some 1 then (sizesF [] (ksN l)).map (fun x : Nat => (x : Int)) else []
set_option maxRecDepth 100000 in
set_option maxHeartbeats 8000000 in
theorem rSizes_calls (l : List NdN) (hl : l.length ≤ 1000000) (a : Option Addr) (cap : Nat) (w : World) (h : NodesAt l a w) :
    Calls Tryd.prog 40 #[.slice a l.length cap] w fun e w' => ∃ b c, e = .returned (.slice b (sizesR l).length c) ∧ IntsAt (sizesR l) b w' ∧ Below w.heap.size w w' := by
  have HF := Lib.hid (rFormed_calls l hl a cap w h)
  have HN := Lib.hid h
  clear h
  by_cases hf : manyF 0 (l.map NdN.kids) = some 1
  · rw [decide_eq_true hf] at HF
    obtain ⟨hk0, hst⟩ := (formed_iff (l.map NdN.kids)).1 hf
    have hst : stackF [] (ksN l) = some [(l.map NdN.kids).length] := hst
    have hkl : (ksN l).length = l.length := by simp [ksN]
    have hsl : (sizesF [] (ksN l)).length = l.length := by rw [sizesF_len, hkl]
    have hR : sizesR l = (sizesF [] (ksN l)).map (fun x : Nat => (x : Int)) := if_pos hf
    have hRl : (sizesR l).length = l.length := by rw [hR, List.length_map, hsl]
    have HR := Lib.hid hR
    have HRl := Lib.hid hRl
    have hkx : ∀ i (h : i < l.length) (h' : i < (ksN l).length), (l[i].kids : Int) = ((ksN l)[i] : Nat) := fun i h h' => by
      have h0 := hk0 l[i].kids (List.mem_map_of_mem (List.getElem_mem h))
      simp only [ksN, List.getElem_map]
      omega
    have hstack := stack_at (ksN l) [] _ hst
    have hroots := roots_at (ksN l)
    have hpos := fun i s (hs : stackF [] ((ksN l).take i) = some s) => stackF_pos ((ksN l).take i) [] s (by simp) hs
    have HKX := Lib.hid hkx
    have HST := Lib.hid hstack
    have HRO := Lib.hid hroots
    have HPO := Lib.hid hpos
    have HKL := Lib.hid hkl
    clear hf hk0 hst hR hRl hkx hstack hroots hpos hkl
    have hmk := run_make_row' (P := Tryd.prog) 50 3 (.int .i64 0) 8 Tryd.underlying50 (by kernel_rfl) rfl .i64 .i64 l.length (by omega) (by omega)
    have hmz : (madeCells #[Value.int .i64 0] l.length).size = l.length := by simp [madeCells]
    have hBn := Blk.new w (madeCells #[Value.int .i64 0] l.length) 3
    have hB0 : Below w.heap.size w (w.alloc (.cells (madeCells #[Value.int .i64 0] l.length) 3)) := (Below.refl _ _).alloc (Nat.le_refl _) _
    generalize madeCells #[Value.int .i64 0] l.length = vs0 at *
    generalize sizesF [] (ksN l) = sz at *
    go_enter Tryd.func40, Tryd.ntmps40
    go_wp2_with fail
    refine HF.out.mono ?_
    rintro e w' ⟨rfl, rfl⟩
    go_wp2_with fail
    generalize w.alloc (.cells vs0 3) = w1 at *
    clear hmk HF
    go_loopw [4] (fun x wr => ∃ i : Nat, i ≤ l.length ∧ x = .int .i64 i ∧ (∃ vs : Array Value, vs.size = l.length ∧ (∀ j (h : j < sz.length), j < i → vs[j]? = some (.int .i64 (sz[j] : Int))) ∧ Blk wr w.heap.size vs 3) ∧ Below w.heap.size w wr) (fun x _ => l.length - (intOf x).toNat)
    case atStart => exact ⟨0, Nat.zero_le _, rfl, ⟨vs0, hmz, fun j _ hj => by omega, hBn⟩, hB0⟩
    case round =>
      clear hBn hB0 hmz
      obtain ⟨i, hi, rfl, ⟨vs, hvs, hno, hb⟩, hB⟩ := hrel
      by_cases hlt : i < l.length
      · have hne : l ≠ [] := by rintro rfl; simp at hlt
        have hlk : i < (ksN l).length := by rw [HKL.out]; exact hlt
        obtain ⟨g, off, rfl, hg, hc⟩ := HN.out hne
        obtain ⟨s, hs, hks, hsum⟩ := HST.out i hlk
        obtain ⟨hr, ht, hsi⟩ := HRO.out i hlk s hs
        rw [← ht] at hr
        have hpl := len_le_sum s (HPO.out i s hs)
        have hkk := HKX.out i hlt hlk
        generalize hK : (ksN l)[i] = K at *
        have c1 : wr.cell? ⟨g, off + i * 8 + 1, none⟩ = some (.int .i64 (K : Int)) := by
          rw [← hkk]
          exact (hB.cell (p := ⟨g, off + i * 8 + 1, none⟩) hg).trans (hc i hlt 1 (by decide))
        have hd : decide ((i : Int) < (l.length : Int)) = true := by rw [decide_eq_true_iff]; omega
        have hd2 : decide (i < l.length) = true := by rw [decide_eq_true_iff]; omega
        have htl : (sz.take i).length = i := by rw [List.length_take]; omega
        have hcell := fun j => hb.cell j
        have hfi := hb.frozen i
        obtain ⟨old, hold⟩ : ∃ old, vs[i]? = some old := ⟨vs[i]'(by omega), by simp [show i < vs.size by omega]⟩
        have hci := (hb.cell i).trans hold
        have xi : IntKind.i64.wrap ((i : Int) - 1) = (i : Int) - 1 := IntWalk.i64_in _ (by omega)
        have HB := Lib.hid hB
        have HBK := Lib.hid hb
        have HNO := Lib.hid hno
        have HRT := Lib.hid hr
        have HSI := Lib.hid hsi
        have HCE := Lib.hid hcell
        have hsumi : s.sum = i := by simpa using hsum
        clear hB hb hno hr hsi hc hkk ht hs hcell hne hsum hold hlk hK hg
        go_wp2_with fail
        go_loop [5, 6] (fun va vk => ∃ k : Nat, k ≤ K ∧ va = .int .i64 ((i : Int) - 1 - ((s.take k).sum : Nat)) ∧ vk = .int .i64 k) (fun _ vk => K - (intOf vk).toNat)
        case atStart => exact ⟨0, Nat.zero_le _, by simp, rfl⟩
        case round =>
          obtain ⟨k, hk, rfl, rfl⟩ := hrel
          have hle := take_sum_le s k
          by_cases hkl : k < K
          · obtain ⟨h1, h2⟩ := HRT.out k (by omega)
            rw [htl] at h1 h2
            have hts := take_sum s k (by omega)
            have hle2 := take_sum_le s (k + 1)
            generalize hS : (s.take k).sum = S at *
            generalize hS1 : (s.take (k + 1)).sum = S1 at *
            generalize s[k] = z at *
            have hpz : (i - 1 - S) < sz.length := by omega
            have hz : sz[i - 1 - S] = z := by
              rw [List.getElem?_take, if_pos (by omega), List.getElem?_eq_getElem hpz] at h2
              exact Option.some.inj h2
            have cp := (HCE.out (i - 1 - S)).trans (HNO.out (i - 1 - S) hpz (by omega))
            rw [hz] at cp
            have hat : (i : Int) - 1 - (S : Int) = ((i - 1 - S : Nat) : Int) := by omega
            have hpn : i - 1 - S < l.length := by omega
            have HTS := Lib.hid hts
            have HLE2 := Lib.hid hle2
            have HAT := Lib.hid hat
            have HS1 := Lib.hid hS1
            rw [hat]
            clear h1 h2 hz hpz hts hle2 hat hS hS1 hle
            have hq : decide ((k : Int) < (K : Int)) = true := by rw [decide_eq_true_iff]; omega
            have hq2 : decide (k < K) = true := by rw [decide_eq_true_iff]; omega
            have hlt2 : S + z ≤ i := by have := HTS.out; have := HLE2.out; omega
            generalize hP : i - 1 - S = p at *
            have HP := Lib.hid hP
            clear hP
            have xz : IntKind.i64.wrap ((p : Int) - (z : Int)) = (p : Int) - (z : Int) := IntWalk.i64_in _ (by omega)
            have XZ := Lib.hid xz
            have xk : IntKind.i64.wrap ((k : Int) + 1) = (k : Int) + 1 := IntWalk.i64_in _ (by omega)
            go_wp2_with fail
            go_round
            case rel =>
              refine ⟨k + 1, by omega, ?_, by simp⟩
              have e1 := HTS.out
              have e2 := HAT.out
              have e3 := HS1.out
              have e4 := XZ.out
              rw [e3, e1]
              congr 1
              omega
            case measure => simp [intOf]; omega
          · obtain rfl : k = K := by omega
            have hq : decide ((k : Int) < (k : Int)) = false := by simp
            generalize hS : (s.take k).sum = S at *
            have xa : IntKind.i64.wrap ((i : Int) - ((i : Int) - 1 - (S : Int))) = 1 + (S : Int) := by rw [show (i : Int) - ((i : Int) - 1 - (S : Int)) = 1 + (S : Int) by omega]; exact IntWalk.i64_in _ (by omega)
            have hxa : (i : Int) - ((i : Int) - 1 - (S : Int)) = 1 + (S : Int) := by omega
            go_wp2_with fail
            go_roundw
            case rel =>
              refine ⟨i + 1, by omega, by simp, ⟨vs.setIfInBounds i (.int .i64 (1 + (S : Int))), by simp [hvs], fun j h hj => ?_, HBK.out.set i _⟩, below_set HB.out (Nat.le_refl _) i _⟩
              by_cases hji : j = i
              · subst hji
                have e1 := HSI.out
                rw [List.getElem?_eq_getElem h] at e1
                rw [Option.some.inj e1]
                simp [hvs, hlt]
              · rw [Array.getElem?_setIfInBounds_ne (Ne.symm hji)]
                exact HNO.out j h (by omega)
            case measure => simp [intOf]; omega
      · obtain rfl : i = l.length := by omega
        have hd : decide ((l.length : Int) < (l.length : Int)) = false := by simp
        have HB := Lib.hid hB
        have HBK := Lib.hid hb
        have HNO := Lib.hid hno
        clear hB hb hno HN
        go_wp2_with fail
        go_ret
        refine ⟨some ⟨w.heap.size, 0, none⟩, l.length, by rw [HRl.out] <;> rfl, fun _ => ⟨w.heap.size, rfl, HBK.out.lt, fun j hj => ?_⟩, HB.out⟩
        rw [HRl.out] at hj
        have h1 := (HBK.out.cell j).trans (HNO.out j (by omega) hj)
        rw [h1]
        simp only [HR.out, List.getElem_map]
  · rw [decide_eq_false hf] at HF
    have hR : sizesR l = [] := if_neg hf
    rw [hR]
    clear hf hR
    go_enter Tryd.func40, Tryd.ntmps40
    go_wp2_with fail
    refine HF.out.mono ?_
    rintro e w' ⟨rfl, rfl⟩
    go_wp2_with fail
    go_ret
    exact ⟨none, 0, rfl, fun h => absurd rfl h, Below.refl _ _⟩
end Go.Proofs.YtpncomjpmilbkaaDoor

/- The document's trees: Kids. -/
namespace Go.Proofs.YtpncomjpmilbkaaDoor
open Go.RowKit BS

theorem allKids_at (ks : List Nat) (i : Nat) (hi : i < ks.length) (s : List Nat) (hs : stackF [] (ks.take i) = some s) : (allKids 0 [] ks)[i]? = some ((posF i s).take ks[i]) := by
  have e : ks = ks.take i ++ (ks[i] :: ks.drop (i + 1)) := by rw [← List.drop_eq_getElem_cons hi, List.take_append_drop]
  have hl : (allKids 0 [] (ks.take i)).length = i := by rw [allKids_len, List.length_take]; omega
  have ea : allKids 0 [] ks = allKids 0 [] (ks.take i) ++ (posF i s).take ks[i] :: allKids (i + 1) (stepF s ks[i]) (ks.drop (i + 1)) := by
    conv => lhs; rw [e]
    rw [allKids_append _ _ _ _ _ hs, List.length_take, show 0 + min i ks.length = i by omega, allKids]
  rw [ea, List.getElem?_append_right (by omega), hl, Nat.sub_self]
  rfl
/-- The places of a node's kids, from the left. -/
def kidsR (l : List NdN) (i : Int) : List Int := if manyF 0 (l.map NdN.kids) = some 1 ∧ 0 ≤ i ∧ i < (l.length : Int) then ((((allKids 0 [] (ksN l))[i.toNat]?).getD []).reverse).map (fun x : Nat => (x : Int)) else []
set_option maxRecDepth 100000 in
set_option maxHeartbeats 8000000 in
theorem rKids_calls (l : List NdN) (hl : l.length ≤ 1000000) (i0 : Int) (a : Option Addr) (cap : Nat) (w : World) (h : NodesAt l a w) :
    Calls Tryd.prog 20 #[.slice a l.length cap, .int .i64 i0] w fun e w' => ∃ b c, e = .returned (.slice b (kidsR l i0).length c) ∧ IntsAt (kidsR l i0) b w' ∧ Below w.heap.size w w' := by
  have HS := Lib.hid (rSizes_calls l hl a cap w h)
  have HN := Lib.hid h
  have hsr : (sizesR l).length = if manyF 0 (l.map NdN.kids) = some 1 then l.length else 0 := by
    unfold sizesR
    by_cases hf : manyF 0 (l.map NdN.kids) = some 1
    · rw [if_pos hf, if_pos hf, List.length_map, sizesF_len]; simp [ksN]
    · rw [if_neg hf, if_neg hf]; rfl
  clear h
  by_cases hin : manyF 0 (l.map NdN.kids) = some 1 ∧ 0 ≤ i0 ∧ i0 < (l.length : Int)
  · obtain ⟨hf, hi0, hi1⟩ := hin
    obtain ⟨i, rfl⟩ : ∃ i : Nat, i0 = i := ⟨i0.toNat, by omega⟩
    have hlt : i < l.length := by omega
    rw [if_pos hf] at hsr
    obtain ⟨hk0, hst⟩ := (formed_iff (l.map NdN.kids)).1 hf
    have hst : stackF [] (ksN l) = some [(l.map NdN.kids).length] := hst
    have hkl : (ksN l).length = l.length := by simp [ksN]
    have hlk : i < (ksN l).length := by rw [hkl]; exact hlt
    have hne : l ≠ [] := by rintro rfl; simp at hlt
    obtain ⟨g, off, rfl, hg, hc⟩ := HN.out hne
    obtain ⟨s, hs, hks, hsum⟩ := stack_at (ksN l) [] _ hst i hlk
    obtain ⟨hr, ht, _⟩ := roots_at (ksN l) i hlk s hs
    rw [← ht] at hr
    have hpl := len_le_sum s (stackF_pos ((ksN l).take i) [] s (by simp) hs)
    have hkk : (l[i].kids : Int) = ((ksN l)[i] : Nat) := by
      have h0 := hk0 l[i].kids (List.mem_map_of_mem (List.getElem_mem hlt))
      simp only [ksN, List.getElem_map]
      omega
    have hR : sizesR l = (sizesF [] (ksN l)).map (fun x : Nat => (x : Int)) := if_pos hf
    have hsl : (sizesF [] (ksN l)).length = l.length := by rw [sizesF_len, hkl]
    have hkid : kidsR l i = (((posF i s).take (ksN l)[i]).reverse).map (fun x : Nat => (x : Int)) := by
      unfold kidsR
      rw [if_pos ⟨hf, hi0, hi1⟩, show (i : Int).toNat = i from rfl, allKids_at (ksN l) i hlk s hs]
      rfl
    have htl : ((sizesF [] (ksN l)).take i).length = i := by rw [List.length_take]; omega
    generalize hK : (ksN l)[i] = K at *
    generalize sizesF [] (ksN l) = sz at *
    have hsumi : s.sum = i := by simpa using hsum
    have hPl : ((posF i s).take K).length = K := by rw [List.length_take, posF_len]; omega
    have hc1 := hc i hlt 1 (by decide)
    have c0 : w.cell? ⟨g, off + i * 8 + 1, none⟩ = some (.int .i64 (K : Int)) := by rw [← hkk]; exact hc1
    have HK := Lib.hid hkid
    have HRT := Lib.hid hr
    have HR := Lib.hid hR
    have HPL := Lib.hid hPl
    have HC0 := Lib.hid c0
    clear hkid hr hR hPl hc1 c0 hk0 hst hs ht hkk hsum hc HN hf hne hlk hkl hK
    have hmk := fun W => run_make_row' (P := Tryd.prog) 50 3 (.int .i64 0) 8 Tryd.underlying50 (by kernel_rfl) rfl .i64 .i64 K (by omega) (by omega) W
    have hmz : (madeCells #[Value.int .i64 0] K).size = K := by simp [madeCells]
    have q0 : decide ((i : Int) < 0) = false := by rw [decide_eq_false_iff_not]; omega
    have q1 : decide (((sizesR l).length : Int) ≤ (i : Int)) = false := by rw [decide_eq_false_iff_not]; omega
    have q1n : decide ((sizesR l).length ≤ i) = false := by rw [decide_eq_false_iff_not]; omega
    have xi : IntKind.i64.wrap ((i : Int) - 1) = (i : Int) - 1 := IntWalk.i64_in _ (by omega)
    have xK : IntKind.i64.wrap ((K : Int) - 1) = (K : Int) - 1 := IntWalk.i64_in _ (by omega)
    generalize madeCells #[Value.int .i64 0] K = vs0 at *
    have HSR := Lib.hid hsr
    clear hsr
    go_enter Tryd.func20, Tryd.ntmps20
    go_wp2_with fail
    refine HS.out.mono ?_
    rintro e w1 ⟨b, c, rfl, hz, hb⟩
    obtain ⟨g2, rfl, hg2, hz⟩ := hz (fun h => by have := HSR.out; rw [h] at this; simp at this; omega)
    have c1 := (hb.cell (p := ⟨g, off + i * 8 + 1, none⟩) hg).trans HC0.out
    have hBn := Blk.new w1 vs0 3
    have hB0 : Below w1.heap.size w1 (w1.alloc (.cells vs0 3)) := (Below.refl _ _).alloc (Nat.le_refl _) _
    have HZ := Lib.hid hz
    have HB1 := Lib.hid hb
    clear hz hb HS
    go_wp2_with fail
    generalize hw2 : w1.alloc (.cells vs0 3) = w2 at *
    clear hmk hw2 c1
    go_loopw [7, 8] (fun va vk wr => ∃ j : Nat, j ≤ K ∧ va = .int .i64 ((i : Int) - 1 - ((s.take j).sum : Nat)) ∧ vk = .int .i64 ((K : Int) - 1 - (j : Int)) ∧ (∃ vs : Array Value, vs.size = K ∧ (∀ t, t < j → vs[K - 1 - t]? = some (.int .i64 ((i - (s.take t).sum - 1 : Nat) : Int))) ∧ Blk wr w1.heap.size vs 3) ∧ Below w1.heap.size w1 wr) (fun _ vk _ => (intOf vk + 1).toNat)
    case atStart => exact ⟨0, Nat.zero_le _, by simp, by simp, ⟨vs0, hmz, fun t ht => by omega, hBn⟩, hB0⟩
    case round =>
      clear hBn hB0 hmz
      obtain ⟨j, hj, rfl, rfl, ⟨vs, hvs, hno, hb⟩, hB⟩ := hrel
      by_cases hjl : j < K
      · obtain ⟨r1, r2⟩ := HRT.out j (by omega)
        rw [htl] at r1 r2
        have hts := take_sum s j (by omega)
        have hle2 := take_sum_le s (j + 1)
        generalize hS : (s.take j).sum = S at *
        generalize hS1 : (s.take (j + 1)).sum = S1 at *
        generalize s[j] = z at *
        have hpz : i - 1 - S < sz.length := by omega
        have hz : sz[i - 1 - S] = z := by
          rw [List.getElem?_take, if_pos (by omega), List.getElem?_eq_getElem hpz] at r2
          exact Option.some.inj r2
        have hps : i - 1 - S < (sizesR l).length := by have := HSR.out; omega
        have cz := (hB.cell (p := ⟨g2, i - 1 - S, none⟩) hg2).trans (HZ.out (i - 1 - S) hps)
        have ez : (sizesR l)[i - 1 - S] = (z : Int) := by simp only [HR.out, List.getElem_map, hz]
        rw [ez] at cz
        obtain ⟨old, hold⟩ : ∃ old, vs[K - 1 - j]? = some old := ⟨vs[K - 1 - j]'(by omega), by simp [show K - 1 - j < vs.size by omega]⟩
        have hci := (hb.cell (K - 1 - j)).trans hold
        have hfi := hb.frozen (K - 1 - j)
        have hat : (i : Int) - 1 - (S : Int) = ((i - 1 - S : Nat) : Int) := by omega
        have hkt : (K : Int) - 1 - (j : Int) = ((K - 1 - j : Nat) : Int) := by omega
        have cz2 : ((wr.setCell ⟨w1.heap.size, K - 1 - j, none⟩ (.int .i64 ((i - 1 - S : Nat) : Int)))).cell? ⟨g2, i - 1 - S, none⟩ = some (.int .i64 (z : Int)) := (World.cell?_of_block (w := wr) (a := ⟨g2, i - 1 - S, none⟩) (Below.heap_setCell wr ⟨w1.heap.size, K - 1 - j, none⟩ _ g2 (Nat.ne_of_lt hg2))).trans cz
        have HTS := Lib.hid hts
        have HLE2 := Lib.hid hle2
        have HAT := Lib.hid hat
        have HKT := Lib.hid hkt
        have HS1 := Lib.hid hS1
        have HSS := Lib.hid hS
        have HNO := Lib.hid hno
        have HBK := Lib.hid hb
        have HB := Lib.hid hB
        have hpn : i - 1 - S < l.length := by omega
        have hrl : (sizesR l).length = l.length := HSR.out
        have hzb : S + z ≤ i := by omega
        rw [hat, hkt]
        clear hts hle2 hat hkt hS hS1 r1 r2 hz ez hold hno hb hB hps hpz cz
        generalize hP : i - 1 - S = p at *
        have HP := Lib.hid hP
        clear hP
        generalize hQ : K - 1 - j = qk at *
        have hqK : qk < K := by omega
        have HQ := Lib.hid hQ
        clear hQ
        have xz : IntKind.i64.wrap ((p : Int) - (z : Int)) = (p : Int) - (z : Int) := IntWalk.i64_in _ (by omega)
        have xq : IntKind.i64.wrap ((qk : Int) - 1) = (qk : Int) - 1 := IntWalk.i64_in _ (by omega)
        have hq0 : decide ((0 : Int) ≤ (qk : Int)) = true := by rw [decide_eq_true_iff]; omega
        have XZ := Lib.hid xz
        have XQ := Lib.hid xq
        go_wp2_with fail
        go_roundw
        case rel =>
          have e1 := HTS.out
          have e2 := HAT.out
          have e3 := HS1.out
          have e4 := XZ.out
          have e5 := XQ.out
          have e6 := HKT.out
          have e7 := HQ.out
          have e8 := HP.out
          refine ⟨j + 1, by omega, by rw [e3, e1]; congr 1; omega, by congr 1; omega, ⟨vs.setIfInBounds qk (.int .i64 (p : Int)), by simp [hvs], fun t ht => ?_, HBK.out.set qk _⟩, below_set HB.out (Nat.le_refl _) qk _⟩
          by_cases htj : t = j
          · subst htj
            rw [e7, HSS.out]
            have : i - S - 1 = p := by omega
            rw [this]
            simp [hvs, hqK]
          · rw [Array.getElem?_setIfInBounds_ne (by omega)]
            exact HNO.out t (by omega)
        case measure => simp [intOf] <;> omega
      · obtain rfl : j = K := by omega
        have hq0 : decide ((0 : Int) ≤ (j : Int) - 1 - (j : Int)) = false := by rw [decide_eq_false_iff_not]; omega
        have HB := Lib.hid hB
        have HBK := Lib.hid hb
        have HNO := Lib.hid hno
        clear hB hb hno
        go_wp2_with fail
        go_ret
        have hkl : (kidsR l i).length = j := by rw [HK.out, List.length_map, List.length_reverse, HPL.out]
        refine ⟨some ⟨w1.heap.size, 0, none⟩, j, by rw [hkl] <;> rfl, fun _ => ⟨w1.heap.size, rfl, HBK.out.lt, fun x hx => ?_⟩, HB1.out.trans (HB.out.mono HB1.out.size)⟩
        rw [hkl] at hx
        have h1 := (HBK.out.cell (j - 1 - (j - 1 - x))).trans (HNO.out (j - 1 - x) (by omega))
        rw [show j - 1 - (j - 1 - x) = x by omega] at h1
        rw [h1]
        have hlen := HPL.out
        have hg' : (kidsR l i)[x] = ((((posF i s).take j)[j - 1 - x]'(by omega) : Nat) : Int) := by
          simp only [HK.out, List.getElem_map, List.getElem_reverse, hlen]
        rw [hg', List.getElem_take, posF_get]
  · have hk : kidsR l i0 = [] := if_neg hin
    rw [hk]
    have hbad : i0 < 0 ∨ ((sizesR l).length : Int) ≤ i0 := by
      rw [hsr]
      by_cases hf : manyF 0 (l.map NdN.kids) = some 1
      · rw [if_pos hf]
        by_cases h0 : i0 < 0
        · exact .inl h0
        · exact .inr (Int.not_lt.1 fun h => hin ⟨hf, by omega, h⟩)
      · rw [if_neg hf]
        by_cases h0 : i0 < 0
        · exact .inl h0
        · exact .inr (by show (0 : Int) ≤ i0; omega)
    generalize sizesR l = z at *
    clear hk hin hsr
    by_cases h0 : i0 < 0
    · have q0 : decide (i0 < 0) = true := decide_eq_true h0
      clear h0 hbad
      go_enter Tryd.func20, Tryd.ntmps20
      go_wp2_with fail
      refine HS.out.mono ?_
      rintro e w1 ⟨b, c, rfl, _, hb⟩
      go_wp2_with fail
      go_ret
      exact ⟨none, 0, rfl, fun h => absurd rfl h, hb⟩
    · have q0 : decide (i0 < 0) = false := decide_eq_false h0
      have q1 : decide ((z.length : Int) ≤ i0) = true := by rw [decide_eq_true_iff]; omega
      clear h0 hbad
      go_enter Tryd.func20, Tryd.ntmps20
      go_wp2_with fail
      refine HS.out.mono ?_
      rintro e w1 ⟨b, c, rfl, _, hb⟩
      go_wp2_with fail
      go_ret
      exact ⟨none, 0, rfl, fun h => absurd rfl h, hb⟩
end Go.Proofs.YtpncomjpmilbkaaDoor

/- Patterns' trees, plainly: groups' numbers of a list of nodes; a node by itself; a pattern's tree. -/
namespace Go.Proofs.YtpncomjpmilbkaaDoor
open Go.RowKit BS

theorem sizesR_len (l : List NdN) : (sizesR l).length = if manyF 0 (l.map NdN.kids) = some 1 then l.length else 0 := by
  unfold sizesR
  by_cases hf : manyF 0 (l.map NdN.kids) = some 1
  · rw [if_pos hf, if_pos hf, List.length_map, sizesF_len]; simp [ksN]
  · rw [if_neg hf, if_neg hf]; rfl
theorem sizesR_le (l : List NdN) : (sizesR l).length ≤ l.length := by
  rw [sizesR_len]
  split
  · exact Nat.le_refl _
  · exact Nat.zero_le _
/-- Node i's kind; where its first node is, less one. -/
def kdN (l : List NdN) : Nat → Int := kindF (l.map NdN.kind)
def fiN (l : List NdN) (i : Nat) : Int := (i : Int) - (sizesR l).getD i 0
/-- Groups' numbers. -/
def numsR (l : List NdN) : List Int := (List.range (sizesR l).length).map fun i => ((numF (kdN l) (fiN l) (sizesR l).length i : Nat) : Int)
theorem kdN_get (l : List NdN) (i : Nat) (h : i < l.length) : kdN l i = l[i].kind := by
  unfold kdN kindF
  rw [List.getD_eq_getElem?_getD, List.getElem?_eq_getElem (by simpa using h), Option.getD_some, List.getElem_map]
theorem fiN_get (l : List NdN) (i : Nat) (h : i < (sizesR l).length) : fiN l i = (i : Int) - (sizesR l)[i] := by
  unfold fiN
  rw [List.getD_eq_getElem?_getD, List.getElem?_eq_getElem h, Option.getD_some]
theorem sizesR_bound (l : List NdN) (i : Nat) (h : i < (sizesR l).length) : 0 ≤ (sizesR l)[i] ∧ (sizesR l)[i] ≤ i + 1 := by
  have hf : manyF 0 (l.map NdN.kids) = some 1 := by
    rw [sizesR_len] at h
    by_cases hf : manyF 0 (l.map NdN.kids) = some 1
    · exact hf
    · rw [if_neg hf] at h; omega
  have hR : sizesR l = (sizesF [] (ksN l)).map (fun x : Nat => (x : Int)) := if_pos hf
  obtain ⟨hk0, hst⟩ := (formed_iff (l.map NdN.kids)).1 hf
  have hst : stackF [] (ksN l) = some [(l.map NdN.kids).length] := hst
  have hkl : (ksN l).length = l.length := by simp [ksN]
  have hi : i < (ksN l).length := by
    rw [sizesR_len, if_pos hf] at h
    omega
  obtain ⟨s, hs, hks, hsum⟩ := stack_at (ksN l) [] _ hst i hi
  obtain ⟨_, _, hsi⟩ := roots_at (ksN l) i hi s hs
  have hle := take_sum_le s (ksN l)[i]
  have hi2 : i < (sizesF [] (ksN l)).length := by rw [sizesF_len]; exact hi
  have e : (sizesR l)[i] = (((sizesF [] (ksN l))[i] : Nat) : Int) := by simp only [hR, List.getElem_map]
  have hs2 : s.sum = i := by simpa using hsum
  rw [e]
  rw [List.getElem?_eq_getElem hi2] at hsi
  have hsi := Option.some.inj hsi
  omega
/-- How many of the first k nodes are groups that do not begin behind node i's. -/
def cntN (l : List NdN) (i k : Nat) : Nat := (List.range k).countP fun k => kdN l k == 3 && leF (fiN l) k i
theorem cntN_step (l : List NdN) (i k : Nat) : cntN l i (k + 1) = cntN l i k + if (kdN l k == 3 && leF (fiN l) k i) = true then 1 else 0 := by
  unfold cntN
  rw [List.range_succ, List.countP_append]
  simp [List.countP_cons]
theorem cntN_le (l : List NdN) (i k : Nat) : cntN l i k ≤ k := by
  unfold cntN
  have := List.countP_le_length (p := fun k => kdN l k == 3 && leF (fiN l) k i) (l := List.range k)
  rw [List.length_range] at this
  exact this
theorem cntN_num (l : List NdN) (i : Nat) (h : kdN l i = 3) : cntN l i (sizesR l).length = numF (kdN l) (fiN l) (sizesR l).length i := (num_count _ _ _ _ h).symm

/-- May a node be, but for its kids' kinds? -/
def nodeF (x : NdN) : Bool :=
  if x.kind ≠ 2 ∧ x.set ≠ 0 then false
  else if x.kind ≠ 4 ∧ (x.n ≠ 0 ∨ x.m ≠ 0) then false
  else if x.kind = 1 ∨ x.kind = 2 then x.kids == 0
  else if x.kind = 3 then x.kids == 1
  else if x.kind = 4 then x.kids == 1 && rightN x.n x.m
  else if x.kind = 5 ∨ x.kind = 6 then decide (2 ≤ x.kids)
  else false
/-- May node i's kids be its kids? -/
def kidsOkB (l : List NdN) (i : Nat) : Bool := (kidsR l i).all fun x => kidF (kdN l i) (kdN l x.toNat)
def okN (l : List NdN) (i : Nat) : Bool := nodeF (l.getD i ⟨0, 0, 0, 0, 0⟩) && kidsOkB l i
def grpN (l : List NdN) (k : Nat) : Nat := (List.range k).countP fun i => kdN l i == 3
/-- Is a list a pattern's tree? -/
def rightR (l : List NdN) : Bool := decide (manyF 0 (l.map NdN.kids) = some 1) && ((List.range l.length).all (okN l) && decide (grpN l l.length ≤ 9))
theorem grpN_step (l : List NdN) (k : Nat) : grpN l (k + 1) = grpN l k + if (kdN l k == 3) = true then 1 else 0 := by
  unfold grpN
  rw [List.range_succ, List.countP_append]
  simp [List.countP_cons]
theorem grpN_le (l : List NdN) (k : Nat) : grpN l k ≤ k := by
  unfold grpN
  have := List.countP_le_length (p := fun i => kdN l i == 3) (l := List.range k)
  rw [List.length_range] at this
  exact this
end Go.Proofs.YtpncomjpmilbkaaDoor

/- The document's trees: Numbers. -/
namespace Go.Proofs.YtpncomjpmilbkaaDoor
open Go.RowKit BS

def SNm (w0 : World) (g i k : Nat) (x y : Int) (W : World) : Prop := W.cell? ⟨g, i, none⟩ = some (.int .i64 x) ∧ W.cell? ⟨g, k, none⟩ = some (.int .i64 y) ∧ W = w0
set_option maxRecDepth 100000 in
set_option maxHeartbeats 16000000 in
theorem rNumbers_calls (l : List NdN) (hl : l.length ≤ 1000000) (a : Option Addr) (cap : Nat) (w : World) (h : NodesAt l a w) :
    Calls Tryd.prog 29 #[.slice a l.length cap] w fun e w' => ∃ b c, e = .returned (.slice b (numsR l).length c) ∧ IntsAt (numsR l) b w' ∧ Below w.heap.size w w' := by
  have HS := Lib.hid (rSizes_calls l hl a cap w h)
  have HN := Lib.hid h
  have hle := sizesR_le l
  have HBD := Lib.hid (sizesR_bound l)
  have HFI := Lib.hid (fiN_get l)
  have HKD := Lib.hid (kdN_get l)
  have HST := Lib.hid (cntN_step l)
  have HCL := Lib.hid (cntN_le l)
  have HCN := Lib.hid (cntN_num l)
  have HNZ : Hid (∀ i, kdN l i ≠ 3 → numF (kdN l) (fiN l) (sizesR l).length i = 0) := Lib.hid (fun i h => if_neg h)
  have HNR := Lib.hid (show numsR l = (List.range (sizesR l).length).map (fun i => ((numF (kdN l) (fiN l) (sizesR l).length i : Nat) : Int)) from rfl)
  clear h
  generalize hz : sizesR l = z at HS HBD HFI HCN HNZ HNR hle
  clear hz
  have hmk := fun W => run_make_row' (P := Tryd.prog) 50 3 (.int .i64 0) 8 Tryd.underlying50 (by kernel_rfl) rfl .i64 .i64 z.length (by omega) (by omega) W
  have hmz : (madeCells #[Value.int .i64 0] z.length).size = z.length := by simp [madeCells]
  have hm0 : ∀ t, t < z.length → (madeCells #[Value.int .i64 0] z.length)[t]? = some (.int .i64 0) := fun t ht => by
    simp [madeCells, ht, Nat.mod_one]
  generalize madeCells #[Value.int .i64 0] z.length = vs0 at *
  go_enter Tryd.func29, Tryd.ntmps29
  go_wp2_with fail
  refine HS.out.mono ?_
  rintro e w1 ⟨b, c, rfl, hzz, hb⟩
  have hBn := Blk.new w1 vs0 3
  have hB0 : Below w1.heap.size w1 (w1.alloc (.cells vs0 3)) := (Below.refl _ _).alloc (Nat.le_refl _) _
  have HZ := Lib.hid hzz
  have HB1 := Lib.hid hb
  clear hzz hb HS
  go_wp2_with fail
  generalize w1.alloc (.cells vs0 3) = w2 at *
  clear hmk
  go_loopw [5] (fun x wr => ∃ i : Nat, i ≤ z.length ∧ x = .int .i64 i ∧ (∃ vs : Array Value, vs.size = z.length ∧ (∀ t, t < i → vs[t]? = some (.int .i64 ((numF (kdN l) (fiN l) z.length t : Nat) : Int))) ∧ (∀ t, i ≤ t → t < z.length → vs[t]? = some (.int .i64 0)) ∧ Blk wr w1.heap.size vs 3) ∧ Below w1.heap.size w1 wr) (fun x _ => z.length - (intOf x).toNat)
  case atStart => exact ⟨0, Nat.zero_le _, rfl, ⟨vs0, hmz, fun t ht => by omega, fun t _ ht => hm0 t ht, hBn⟩, hB0⟩
  case round =>
    clear hBn hB0 hmz hm0
    obtain ⟨i, hi, rfl, ⟨vs, hvs, hno, hnz, hbk⟩, hB⟩ := hrel
    by_cases hlt : i < z.length
    · have hd : decide ((i : Int) < (z.length : Int)) = true := by rw [decide_eq_true_iff]; omega
      have hd2 : decide (i < z.length) = true := by rw [decide_eq_true_iff]; omega
      have hlt2 : i < l.length := by omega
      have hdl : decide (i < l.length) = true := by rw [decide_eq_true_iff]; omega
      have hne : l ≠ [] := by rintro rfl; simp at hlt2
      have hnez : z ≠ [] := by rintro rfl; simp at hlt
      obtain ⟨g, off, rfl, hg, hc⟩ := HN.out hne
      obtain ⟨g2, rfl, hg2, hcz⟩ := HZ.out hnez
      have HC := Lib.hid hc
      have HCZ := Lib.hid hcz
      have c1 : wr.cell? ⟨g, off + i * 8, none⟩ = some (.int .i64 (kdN l i)) := by
        rw [HKD.out i hlt2]
        exact (hB.cell (p := ⟨g, off + i * 8, none⟩) (Nat.lt_of_lt_of_le hg HB1.out.size)).trans ((HB1.out.cell (p := ⟨g, off + i * 8, none⟩) hg).trans (hc i hlt2 0 (by decide)))
      have xi : IntKind.i64.wrap ((i : Int) + 1) = (i : Int) + 1 := IntWalk.i64_in _ (by omega)
      have HB := Lib.hid hB
      have HBK := Lib.hid hbk
      have HNO := Lib.hid hno
      have HNL := Lib.hid hnz
      clear hc hcz hB hbk hno hnz hne hnez
      by_cases hk3 : kdN l i = 3
      · have q3 : (kdN l i != 3) = false := by rw [hk3]; rfl
        have HK3 := Lib.hid hk3
        rw [hk3] at c1
        have hbi := HBD.out i hlt
        have cz1 := fun (W : World) (hW : Below w1.heap.size w1 W) => (hW.cell (p := ⟨g2, i, none⟩) hg2).trans (HCZ.out i hlt)
        have hfi := HFI.out i hlt
        generalize hZI : z[i] = zi at *
        have xf : IntKind.i64.wrap ((i : Int) - zi) = (i : Int) - zi := IntWalk.i64_in _ (by omega)
        have HZ1 := Lib.hid cz1
        have HF1 := Lib.hid hfi
        clear hk3 cz1 hfi hZI
        go_wp2_with fail
        clear c1 q3
        go_loopw [6] (fun x wr => ∃ k : Nat, k ≤ z.length ∧ x = .int .i64 k ∧ (∃ vs : Array Value, vs.size = z.length ∧ (∀ t, t < i → vs[t]? = some (.int .i64 ((numF (kdN l) (fiN l) z.length t : Nat) : Int))) ∧ vs[i]? = some (.int .i64 (cntN l i k : Nat)) ∧ (∀ t, i < t → t < z.length → vs[t]? = some (.int .i64 0)) ∧ Blk wr w1.heap.size vs 3) ∧ Below w1.heap.size w1 wr) (fun x _ => z.length - (intOf x).toNat)
        case atStart => exact ⟨0, Nat.zero_le _, rfl, ⟨vs, hvs, HNO.out, HNL.out i (Nat.le_refl _) hlt, fun t h1 h2 => HNL.out t (by omega) h2, HBK.out⟩, HB.out⟩
        case round =>
          clear HNO HNL HBK HB hvs
          obtain ⟨k, hk, rfl, ⟨vs, hvs, hno, hci, hnz, hbk⟩, hB⟩ := hrel
          have HNO := Lib.hid hno
          have HNL := Lib.hid hnz
          have HCI := Lib.hid hci
          have HBK := Lib.hid hbk
          have HB := Lib.hid hB
          clear hno hnz hci hbk hB
          by_cases hkl : k < z.length
          · have hdk : decide ((k : Int) < (z.length : Int)) = true := by rw [decide_eq_true_iff]; omega
            have hdk2 : decide (k < z.length) = true := by rw [decide_eq_true_iff]; omega
            have hkl2 : k < l.length := by omega
            have hdk3 : decide (k < l.length) = true := by rw [decide_eq_true_iff]; omega
            have hbk2 := HBD.out k hkl
            have hfk := HFI.out k hkl
            have cz2 := (HB.out.cell (p := ⟨g2, k, none⟩) hg2).trans (HCZ.out k hkl)
            have cz1 := HZ1.out _ HB.out
            have ck := (HB.out.cell (p := ⟨g, off + k * 8, none⟩) (Nat.lt_of_lt_of_le hg HB1.out.size)).trans ((HB1.out.cell (p := ⟨g, off + k * 8, none⟩) hg).trans (HC.out k hkl2 0 (by decide)))
            have ek : (ndA l[k])[0]? = some (.int .i64 (kdN l k)) := by rw [HKD.out k hkl2]; rfl
            rw [ek] at ck
            have hst := HST.out i k
            have hcl := HCL.out i k
            have hleF := leF_iff (fiN l) k i
            generalize hZK : z[k] = zk at *
            have xk : IntKind.i64.wrap ((k : Int) - zk) = (k : Int) - zk := IntWalk.i64_in _ (by omega)
            have xk1 : IntKind.i64.wrap ((k : Int) + 1) = (k : Int) + 1 := IntWalk.i64_in _ (by omega)
            have HFK := Lib.hid hfk
            have HLF := Lib.hid hleF
            have HS2 := Lib.hid hst
            have h0 : SNm wr.drew g2 i k zi zk wr.drew := ⟨cz1, cz2, rfl⟩
            have HCK := Lib.hid (show wr.drew.cell? ⟨g, off + k * 8, none⟩ = some (.int .i64 (kdN l k)) from ck)
            replace HB : Hid (Below w1.heap.size w1 wr.drew) := Lib.hid HB.out.drew
            replace HBK : Hid (Blk wr.drew w1.heap.size vs 3) := Lib.hid HBK.out.drew
            clear hfk hleF hst ek ck cz1 cz2 hZK
            go_upto_region 10 with fail
            refine region_steps (S := SNm wr.drew g2 i k zi zk) (by kernel_rfl) h0 ?_
            clear h0
            simp only [List.size_toArray, List.length_cons, List.length_nil, Nat.reduceAdd, Array.replicate_succ, Array.replicate_zero, List.push_toArray, List.nil_append, List.cons_append]
            refine AnyS.stepE (i := 0) (d := some 32) rfl rfl (by kernel_rfl) (by kernel_rfl) (by kernel_rfl) ?_
            apply Exists.intro
            apply And.intro
            · apply StepsIf.yield
              · kernel_rfl
              intro w' hS
              clear hS; go_simp
              rfl
            intro a' ha'
            simp only [Act.put, List.setIfInBounds_toArray, List.set_cons_zero, List.set_cons_succ] at ha'
            subst ha'
            refine AnyS.stepE (i := 1) (d := some 33) rfl rfl (by kernel_rfl) (by kernel_rfl) (by kernel_rfl) ?_
            apply Exists.intro
            apply And.intro
            · apply StepsIf.yield
              · kernel_rfl
              intro w' hS
              clear hS; go_simp
              rfl
            intro a' ha'
            simp only [Act.put, List.setIfInBounds_toArray, List.set_cons_zero, List.set_cons_succ] at ha'
            subst ha'
            refine AnyS.stepE (i := 2) (d := some 34) rfl rfl (by kernel_rfl) (by kernel_rfl) (by kernel_rfl) ?_
            apply Exists.intro
            apply And.intro
            · apply StepsIf.yield
              · kernel_rfl
              intro w' hS
              clear hS; go_simp
              rfl
            intro a' ha'
            simp only [Act.put, List.setIfInBounds_toArray, List.set_cons_zero, List.set_cons_succ] at ha'
            subst ha'
            refine AnyS.next (i := 3) (d := some 35) (v := .pointer (some ⟨g2, i, none⟩)) rfl rfl (by kernel_rfl) (by kernel_rfl) (by kernel_rfl) (StepsIf.yield (by kernel_rfl) (fun w' hS => by clear hS; go_simp)) ?_
            intro a' ha'
            simp only [Act.put, List.setIfInBounds_toArray, List.set_cons_zero, List.set_cons_succ] at ha'
            subst ha'
            refine AnyS.next (i := 4) (d := some 36) (v := .int .i64 zi) rfl rfl (by kernel_rfl) (by kernel_rfl) (by kernel_rfl) (StepsIf.yield (by kernel_rfl) (fun w' hS => by have s := hS.1; clear hS; go_simp)) ?_
            intro a' ha'
            simp only [Act.put, List.setIfInBounds_toArray, List.set_cons_zero, List.set_cons_succ] at ha'
            subst ha'
            refine AnyS.next (i := 5) (d := some 37) (v := .int .i64 ((i : Int) - zi)) rfl rfl (by kernel_rfl) (by kernel_rfl) (by kernel_rfl) (StepsIf.yield (by kernel_rfl) (fun w' hS => by clear hS; go_simp)) ?_
            intro a' ha'
            simp only [Act.put, List.setIfInBounds_toArray, List.set_cons_zero, List.set_cons_succ] at ha'
            subst ha'
            refine AnyS.stepE (i := 6) (d := some 38) rfl rfl (by kernel_rfl) (by kernel_rfl) (by kernel_rfl) ?_
            apply Exists.intro
            apply And.intro
            · apply StepsIf.yield
              · kernel_rfl
              intro w' hS
              clear hS; go_simp
              rfl
            intro a' ha'
            simp only [Act.put, List.setIfInBounds_toArray, List.set_cons_zero, List.set_cons_succ] at ha'
            subst ha'
            refine AnyS.stepE (i := 7) (d := some 39) rfl rfl (by kernel_rfl) (by kernel_rfl) (by kernel_rfl) ?_
            apply Exists.intro
            apply And.intro
            · apply StepsIf.yield
              · kernel_rfl
              intro w' hS
              clear hS; go_simp
              rfl
            intro a' ha'
            simp only [Act.put, List.setIfInBounds_toArray, List.set_cons_zero, List.set_cons_succ] at ha'
            subst ha'
            refine AnyS.stepE (i := 8) (d := some 40) rfl rfl (by kernel_rfl) (by kernel_rfl) (by kernel_rfl) ?_
            apply Exists.intro
            apply And.intro
            · apply StepsIf.yield
              · kernel_rfl
              intro w' hS
              clear hS; go_simp
              rfl
            intro a' ha'
            simp only [Act.put, List.setIfInBounds_toArray, List.set_cons_zero, List.set_cons_succ] at ha'
            subst ha'
            refine AnyS.next (i := 9) (d := some 41) (v := .pointer (some ⟨g2, k, none⟩)) rfl rfl (by kernel_rfl) (by kernel_rfl) (by kernel_rfl) (StepsIf.yield (by kernel_rfl) (fun w' hS => by clear hS; go_simp)) ?_
            intro a' ha'
            simp only [Act.put, List.setIfInBounds_toArray, List.set_cons_zero, List.set_cons_succ] at ha'
            subst ha'
            refine AnyS.next (i := 10) (d := some 42) (v := .int .i64 zk) rfl rfl (by kernel_rfl) (by kernel_rfl) (by kernel_rfl) (StepsIf.yield (by kernel_rfl) (fun w' hS => by have s := hS.2.1; clear hS; go_simp)) ?_
            intro a' ha'
            simp only [Act.put, List.setIfInBounds_toArray, List.set_cons_zero, List.set_cons_succ] at ha'
            subst ha'
            refine AnyS.next (i := 11) (d := some 43) (v := .int .i64 ((k : Int) - zk)) rfl rfl (by kernel_rfl) (by kernel_rfl) (by kernel_rfl) (StepsIf.yield (by kernel_rfl) (fun w' hS => by clear hS; go_simp)) ?_
            intro a' ha'
            simp only [Act.put, List.setIfInBounds_toArray, List.set_cons_zero, List.set_cons_succ] at ha'
            subst ha'
            refine AnyS.next (i := 12) (d := some 7) (v := .int .i64 ((i : Int) - zi)) rfl rfl (by kernel_rfl) (by kernel_rfl) (by kernel_rfl) (StepsIf.yield (by kernel_rfl) (fun w' hS => by clear hS; go_simp)) ?_
            intro a' ha'
            simp only [Act.put, List.setIfInBounds_toArray, List.set_cons_zero, List.set_cons_succ] at ha'
            subst ha'
            refine AnyS.next (i := 13) (d := some 8) (v := .int .i64 ((k : Int) - zk)) rfl rfl (by kernel_rfl) (by kernel_rfl) (by kernel_rfl) (StepsIf.yield (by kernel_rfl) (fun w' hS => by clear hS; go_simp)) ?_
            intro a' ha'
            simp only [Act.put, List.setIfInBounds_toArray, List.set_cons_zero, List.set_cons_succ] at ha'
            subst ha'
            refine AnyS.done (by kernel_rfl) (fun w6 hS => ?_) _
            obtain ⟨_, _, rfl⟩ := hS
            generalize wr.drew = w7 at *
            have ck := HCK.out
            have ci := (HBK.out.cell i).trans HCI.out
            have fi := HBK.out.frozen i
            generalize hkk : kdN l k = kk at *
            have HKK := Lib.hid hkk
            have HE1 := Lib.hid (show fiN l k = (k : Int) - zk from HFK.out)
            have HE2 := Lib.hid (show fiN l i = (i : Int) - zi from HF1.out)
            have ywrap : IntKind.i64.wrap ((cntN l i k : Nat) + 1 : Int) = ((cntN l i k : Nat) : Int) + 1 := IntWalk.i64_in _ (by omega)
            generalize hcc : cntN l i k = cc at *
            clear hkk hcc HFK hbk2 hcl HCK HCI
            by_cases hq : kk = 3 ∧ ((k : Int) - zk < (i : Int) - zi ∨ ((k : Int) - zk = (i : Int) - zi ∧ i ≤ k))
            · have hone : cntN l i (k + 1) = cc + 1 := by
                rw [HS2.out]
                have e1 : leF (fiN l) k i = true := by rw [HLF.out, HE1.out, HE2.out]; exact hq.2
                rw [e1, hq.1]; rfl
              have HONE := Lib.hid hone
              have qk : (kk == 3) = true := by rw [hq.1]; rfl
              clear hone HS2 HLF HE1
              rcases hq.2 with hq2 | hq2
              · have q1 : decide ((k : Int) - zk < (i : Int) - zi) = true := by simpa using hq2
                clear hq hq2
                go_wp2_with fail
                go_roundw
                case rel =>
                  refine ⟨k + 1, by omega, by simp, ⟨vs.setIfInBounds i (.int .i64 ((cc : Int) + 1)), by simp [hvs], fun t ht => ?_, ?_, fun t h1 h2 => ?_, HBK.out.set i _⟩, below_set HB.out (Nat.le_refl _) i _⟩
                  · rw [Array.getElem?_setIfInBounds_ne (by omega)]; exact HNO.out t ht
                  · rw [HONE.out]; simp [hvs, hlt]
                  · rw [Array.getElem?_setIfInBounds_ne (by omega)]; exact HNL.out t h1 h2
                case measure => simp [intOf]; omega
              · have q1 : decide ((k : Int) - zk < (i : Int) - zi) = false := by rw [decide_eq_false_iff_not]; omega
                have q2 : ((k : Int) - zk == (i : Int) - zi) = true := by rw [beq_iff_eq]; omega
                have q4 : decide ((i : Int) ≤ (k : Int)) = true := by rw [decide_eq_true_iff]; omega
                have q5 : decide (i ≤ k) = true := by rw [decide_eq_true_iff]; omega
                clear hq hq2
                go_wp2_with fail
                go_roundw
                case rel =>
                  refine ⟨k + 1, by omega, by simp, ⟨vs.setIfInBounds i (.int .i64 ((cc : Int) + 1)), by simp [hvs], fun t ht => ?_, ?_, fun t h1 h2 => ?_, HBK.out.set i _⟩, below_set HB.out (Nat.le_refl _) i _⟩
                  · rw [Array.getElem?_setIfInBounds_ne (by omega)]; exact HNO.out t ht
                  · rw [HONE.out]; simp [hvs, hlt]
                  · rw [Array.getElem?_setIfInBounds_ne (by omega)]; exact HNL.out t h1 h2
                case measure => simp [intOf]; omega
            · have hone : cntN l i (k + 1) = cc := by
                rw [HS2.out]
                have e1 : (kk == 3 && leF (fiN l) k i) = false := by
                  cases hb : (kk == 3 && leF (fiN l) k i) with
                  | false => rfl
                  | true =>
                    rw [Bool.and_eq_true, beq_iff_eq, HLF.out, HE1.out, HE2.out] at hb
                    exact absurd hb hq
                rw [e1]; rfl
              have HONE := Lib.hid hone
              clear hone HS2 HLF HE1
              by_cases hk3 : kk = 3
              · have qk : (kk == 3) = true := by rw [hk3]; rfl
                have q1 : decide ((k : Int) - zk < (i : Int) - zi) = false := by rw [decide_eq_false_iff_not]; omega
                by_cases he : (k : Int) - zk = (i : Int) - zi
                · have q2 : ((k : Int) - zk == (i : Int) - zi) = true := by rw [beq_iff_eq]; omega
                  have q4 : decide ((i : Int) ≤ (k : Int)) = false := by rw [decide_eq_false_iff_not]; omega
                  have q5 : decide (i ≤ k) = false := by rw [decide_eq_false_iff_not]; omega
                  clear hq he hk3
                  go_wp2_with fail
                  go_roundw
                  case rel =>
                    refine ⟨k + 1, by omega, by simp, ⟨vs, hvs, HNO.out, ?_, HNL.out, HBK.out⟩, HB.out⟩
                    rw [HONE.out, ← ci, HBK.out.cell i]
                  case measure => simp [intOf]; omega
                · have q2 : ((k : Int) - zk == (i : Int) - zi) = false := by rw [beq_eq_false_iff_ne]; omega
                  clear hq he hk3
                  go_wp2_with fail
                  go_roundw
                  case rel =>
                    refine ⟨k + 1, by omega, by simp, ⟨vs, hvs, HNO.out, ?_, HNL.out, HBK.out⟩, HB.out⟩
                    rw [HONE.out, ← ci, HBK.out.cell i]
                  case measure => simp [intOf]; omega
              · have qk : (kk == 3) = false := by rw [beq_eq_false_iff_ne]; exact hk3
                clear hq hk3
                go_wp2_with fail
                go_roundw
                case rel =>
                  refine ⟨k + 1, by omega, by simp, ⟨vs, hvs, HNO.out, ?_, HNL.out, HBK.out⟩, HB.out⟩
                  rw [HONE.out, ← ci, HBK.out.cell i]
                case measure => simp [intOf]; omega
          · obtain rfl : k = z.length := by omega
            have hdk : decide ((z.length : Int) < (z.length : Int)) = false := by simp
            have hdk2 : decide (z.length < z.length) = false := by simp
            go_wp2_with fail
            go_roundw
            case rel =>
              refine ⟨i + 1, by omega, by simp, ⟨vs, hvs, fun t ht => ?_, fun t h1 h2 => HNL.out t (by omega) h2, HBK.out⟩, HB.out⟩
              by_cases hti : t = i
              · subst hti
                rw [HCI.out, HCN.out t HK3.out]
              · exact HNO.out t (by omega)
            case measure => simp [intOf]; omega
      · have q3 : (kdN l i != 3) = true := by rw [bne_iff_ne]; exact hk3
        have HK3 := Lib.hid (HNZ.out i hk3)
        generalize hkk : kdN l i = kk at *
        clear hk3 hkk
        go_wp2_with fail
        go_roundw
        case rel =>
          refine ⟨i + 1, by omega, by simp, ⟨vs, hvs, fun t ht => ?_, fun t h1 h2 => HNL.out t (by omega) h2, HBK.out⟩, HB.out⟩
          by_cases hti : t = i
          · subst hti
            rw [HNL.out t (Nat.le_refl _) hlt, HK3.out]
            rfl
          · exact HNO.out t (by omega)
        case measure => simp [intOf]; omega
    · obtain rfl : i = z.length := by omega
      have hd : decide ((z.length : Int) < (z.length : Int)) = false := by simp
      have hd2 : decide (z.length < z.length) = false := by simp
      have HBK := Lib.hid hbk
      have HNO := Lib.hid hno
      have HB := Lib.hid hB
      clear hbk hno hnz hB
      go_wp2_with fail
      go_ret
      have hnl : (numsR l).length = z.length := by rw [HNR.out, List.length_map, List.length_range]
      refine ⟨some ⟨w1.heap.size, 0, none⟩, z.length, by rw [hnl] <;> rfl, fun _ => ⟨w1.heap.size, rfl, HBK.out.lt, fun x hx => ?_⟩, HB1.out.trans (HB.out.mono HB1.out.size)⟩
      rw [hnl] at hx
      rw [HBK.out.cell x, HNO.out x hx]
      have hg' : (numsR l)[x]'(by omega) = ((numF (kdN l) (fiN l) z.length x : Nat) : Int) := by simp only [HNR.out, List.getElem_map, List.getElem_range]
      rw [hg']
end Go.Proofs.YtpncomjpmilbkaaDoor

/- The document's trees: Sizes. -/
import Derived.Test.YtjgokhhpfgnceaaDoorAc
import Derived.Test.YtjgokhhpfgnceaaDoorAx
import Derived.Deep.OwnRows
namespace Go.Proofs.YtjgokhhpfgnceaaDoor
open Go.RowKit BS

theorem len_le_sum : ∀ (s : List Nat), (∀ x ∈ s, 0 < x) → s.length ≤ s.sum
  | [], _ => Nat.le_refl _
  | z :: s, h => by
    have h1 := h z (List.mem_cons_self ..)
    have h2 := len_le_sum s (fun x hx => h x (List.mem_cons_of_mem _ hx))
    rw [List.length_cons, List.sum_cons]
    omega
/-- Kids' numbers, and sizes, of a list of nodes. -/
def ksN (l : List NdN) : List Nat := (l.map NdN.kids).map Int.toNat
def sizesR (l : List NdN) : List Int := if manyF 0 (l.map NdN.kids) = some 1 then (sizesF [] (ksN l)).map (fun x : Nat => (x : Int)) else []
set_option maxRecDepth 100000 in
set_option maxHeartbeats 8000000 in
theorem rSizes_calls (l : List NdN) (hl : l.length ≤ 1000000) (a : Option Addr) (cap : Nat) (w : World) (h : NodesAt l a w) :
    Calls Tryd.prog 16 #[.slice a l.length cap] w fun e w' => ∃ b c, e = .returned (.slice b (sizesR l).length c) ∧ IntsAt (sizesR l) b w' ∧ Below w.heap.size w w' := by
  have HF := Lib.hid (rFormed_calls l hl a cap w h)
  have HN := Lib.hid h
  clear h
  by_cases hf : manyF 0 (l.map NdN.kids) = some 1
  · rw [decide_eq_true hf] at HF
    obtain ⟨hk0, hst⟩ := (formed_iff (l.map NdN.kids)).1 hf
    have hst : stackF [] (ksN l) = some [(l.map NdN.kids).length] := hst
    have hkl : (ksN l).length = l.length := by simp [ksN]
    have hsl : (sizesF [] (ksN l)).length = l.length := by rw [sizesF_len, hkl]
    have hR : sizesR l = (sizesF [] (ksN l)).map (fun x : Nat => (x : Int)) := if_pos hf
    have hRl : (sizesR l).length = l.length := by rw [hR, List.length_map, hsl]
    have HR := Lib.hid hR
    have HRl := Lib.hid hRl
    have hkx : ∀ i (h : i < l.length) (h' : i < (ksN l).length), (l[i].kids : Int) = ((ksN l)[i] : Nat) := fun i h h' => by
      have h0 := hk0 l[i].kids (List.mem_map_of_mem (List.getElem_mem h))
      simp only [ksN, List.getElem_map]
      omega
    have hstack := stack_at (ksN l) [] _ hst
    have hroots := roots_at (ksN l)
    have hpos := fun i s (hs : stackF [] ((ksN l).take i) = some s) => stackF_pos ((ksN l).take i) [] s (by simp) hs
    have HKX := Lib.hid hkx
    have HST := Lib.hid hstack
    have HRO := Lib.hid hroots
    have HPO := Lib.hid hpos
    have HKL := Lib.hid hkl
    clear hf hk0 hst hR hRl hkx hstack hroots hpos hkl
    have hmk := run_make_row' (P := Tryd.prog) 26 3 (.int .i64 0) 8 Tryd.underlying26 (by kernel_rfl) rfl .i64 .i64 l.length (by omega) (by omega)
    have hmz : (madeCells #[Value.int .i64 0] l.length).size = l.length := by simp [madeCells]
    have hBn := Blk.new w (madeCells #[Value.int .i64 0] l.length) 3
    have hB0 : Below w.heap.size w (w.alloc (.cells (madeCells #[Value.int .i64 0] l.length) 3)) := (Below.refl _ _).alloc (Nat.le_refl _) _
    generalize madeCells #[Value.int .i64 0] l.length = vs0 at *
    generalize sizesF [] (ksN l) = sz at *
    go_enter Tryd.func16, Tryd.ntmps16
    go_wp2_with fail
    refine HF.out.mono ?_
    rintro e w' ⟨rfl, rfl⟩
    go_wp2_with fail
    generalize w.alloc (.cells vs0 3) = w1 at *
    clear hmk HF
    go_loopw [4] (fun x wr => ∃ i : Nat, i ≤ l.length ∧ x = .int .i64 i ∧ (∃ vs : Array Value, vs.size = l.length ∧ (∀ j (h : j < sz.length), j < i → vs[j]? = some (.int .i64 (sz[j] : Int))) ∧ Blk wr w.heap.size vs 3) ∧ Below w.heap.size w wr) (fun x _ => l.length - (intOf x).toNat)
    case atStart => exact ⟨0, Nat.zero_le _, rfl, ⟨vs0, hmz, fun j _ hj => by omega, hBn⟩, hB0⟩
    case round =>
      clear hBn hB0 hmz
      obtain ⟨i, hi, rfl, ⟨vs, hvs, hno, hb⟩, hB⟩ := hrel
      by_cases hlt : i < l.length
      · have hne : l ≠ [] := by rintro rfl; simp at hlt
        have hlk : i < (ksN l).length := by rw [HKL.out]; exact hlt
        obtain ⟨g, off, rfl, hg, hc⟩ := HN.out hne
        obtain ⟨s, hs, hks, hsum⟩ := HST.out i hlk
        obtain ⟨hr, ht, hsi⟩ := HRO.out i hlk s hs
        rw [← ht] at hr
        have hpl := len_le_sum s (HPO.out i s hs)
        have hkk := HKX.out i hlt hlk
        generalize hK : (ksN l)[i] = K at *
        have c1 : wr.cell? ⟨g, off + i * 8 + 1, none⟩ = some (.int .i64 (K : Int)) := by
          rw [← hkk]
          exact (hB.cell (p := ⟨g, off + i * 8 + 1, none⟩) hg).trans (hc i hlt 1 (by decide))
        have hd : decide ((i : Int) < (l.length : Int)) = true := by rw [decide_eq_true_iff]; omega
        have hd2 : decide (i < l.length) = true := by rw [decide_eq_true_iff]; omega
        have htl : (sz.take i).length = i := by rw [List.length_take]; omega
        have hcell := fun j => hb.cell j
        have hfi := hb.frozen i
        obtain ⟨old, hold⟩ : ∃ old, vs[i]? = some old := ⟨vs[i]'(by omega), by simp [show i < vs.size by omega]⟩
        have hci := (hb.cell i).trans hold
        have xi : IntKind.i64.wrap ((i : Int) - 1) = (i : Int) - 1 := IntWalk.i64_in _ (by omega)
        have HB := Lib.hid hB
        have HBK := Lib.hid hb
        have HNO := Lib.hid hno
        have HRT := Lib.hid hr
        have HSI := Lib.hid hsi
        have HCE := Lib.hid hcell
        have hsumi : s.sum = i := by simpa using hsum
        clear hB hb hno hr hsi hc hkk ht hs hcell hne hsum hold hlk hK hg
        go_wp2_with fail
        go_loop [5, 6] (fun va vk => ∃ k : Nat, k ≤ K ∧ va = .int .i64 ((i : Int) - 1 - ((s.take k).sum : Nat)) ∧ vk = .int .i64 k) (fun _ vk => K - (intOf vk).toNat)
        case atStart => exact ⟨0, Nat.zero_le _, by simp, rfl⟩
        case round =>
          obtain ⟨k, hk, rfl, rfl⟩ := hrel
          have hle := take_sum_le s k
          by_cases hkl : k < K
          · obtain ⟨h1, h2⟩ := HRT.out k (by omega)
            rw [htl] at h1 h2
            have hts := take_sum s k (by omega)
            have hle2 := take_sum_le s (k + 1)
            generalize hS : (s.take k).sum = S at *
            generalize hS1 : (s.take (k + 1)).sum = S1 at *
            generalize s[k] = z at *
            have hpz : (i - 1 - S) < sz.length := by omega
            have hz : sz[i - 1 - S] = z := by
              rw [List.getElem?_take, if_pos (by omega), List.getElem?_eq_getElem hpz] at h2
              exact Option.some.inj h2
            have cp := (HCE.out (i - 1 - S)).trans (HNO.out (i - 1 - S) hpz (by omega))
            rw [hz] at cp
            have hat : (i : Int) - 1 - (S : Int) = ((i - 1 - S : Nat) : Int) := by omega
            have hpn : i - 1 - S < l.length := by omega
            have HTS := Lib.hid hts
            have HLE2 := Lib.hid hle2
            have HAT := Lib.hid hat
            have HS1 := Lib.hid hS1
            rw [hat]
            clear h1 h2 hz hpz hts hle2 hat hS hS1 hle
            have hq : decide ((k : Int) < (K : Int)) = true := by rw [decide_eq_true_iff]; omega
            have hq2 : decide (k < K) = true := by rw [decide_eq_true_iff]; omega
            have hlt2 : S + z ≤ i := by have := HTS.out; have := HLE2.out; omega
            generalize hP : i - 1 - S = p at *
            have HP := Lib.hid hP
            clear hP
            have xz : IntKind.i64.wrap ((p : Int) - (z : Int)) = (p : Int) - (z : Int) := IntWalk.i64_in _ (by omega)
            have XZ := Lib.hid xz
            have xk : IntKind.i64.wrap ((k : Int) + 1) = (k : Int) + 1 := IntWalk.i64_in _ (by omega)
            go_wp2_with fail
            go_round
            case rel =>
              refine ⟨k + 1, by omega, ?_, by simp⟩
              have e1 := HTS.out
              have e2 := HAT.out
              have e3 := HS1.out
              have e4 := XZ.out
              rw [e3, e1]
              congr 1
              omega
            case measure => simp [intOf]; omega
          · obtain rfl : k = K := by omega
            have hq : decide ((k : Int) < (k : Int)) = false := by simp
            generalize hS : (s.take k).sum = S at *
            have xa : IntKind.i64.wrap ((i : Int) - ((i : Int) - 1 - (S : Int))) = 1 + (S : Int) := by rw [show (i : Int) - ((i : Int) - 1 - (S : Int)) = 1 + (S : Int) by omega]; exact IntWalk.i64_in _ (by omega)
            have hxa : (i : Int) - ((i : Int) - 1 - (S : Int)) = 1 + (S : Int) := by omega
            go_wp2_with fail
            go_roundw
            case rel =>
              refine ⟨i + 1, by omega, by simp, ⟨vs.setIfInBounds i (.int .i64 (1 + (S : Int))), by simp [hvs], fun j h hj => ?_, HBK.out.set i _⟩, below_set HB.out (Nat.le_refl _) i _⟩
              by_cases hji : j = i
              · subst hji
                have e1 := HSI.out
                rw [List.getElem?_eq_getElem h] at e1
                rw [Option.some.inj e1]
                simp [hvs, hlt]
              · rw [Array.getElem?_setIfInBounds_ne (Ne.symm hji)]
                exact HNO.out j h (by omega)
            case measure => simp [intOf]; omega
      · obtain rfl : i = l.length := by omega
        have hd : decide ((l.length : Int) < (l.length : Int)) = false := by simp
        have HB := Lib.hid hB
        have HBK := Lib.hid hb
        have HNO := Lib.hid hno
        clear hB hb hno HN
        go_wp2_with fail
        go_ret
        refine ⟨some ⟨w.heap.size, 0, none⟩, l.length, by rw [HRl.out] <;> rfl, fun _ => ⟨w.heap.size, rfl, HBK.out.lt, fun j hj => ?_⟩, HB.out⟩
        rw [HRl.out] at hj
        have h1 := (HBK.out.cell j).trans (HNO.out j (by omega) hj)
        rw [h1]
        simp only [HR.out, List.getElem_map]
  · rw [decide_eq_false hf] at HF
    have hR : sizesR l = [] := if_neg hf
    rw [hR]
    clear hf hR
    go_enter Tryd.func16, Tryd.ntmps16
    go_wp2_with fail
    refine HF.out.mono ?_
    rintro e w' ⟨rfl, rfl⟩
    go_wp2_with fail
    go_ret
    exact ⟨none, 0, rfl, fun h => absurd rfl h, Below.refl _ _⟩
end Go.Proofs.YtjgokhhpfgnceaaDoor

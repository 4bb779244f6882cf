/- The developers' trees: slices.Reverse. -/
import Derived.Test.YtjgokhhpfgnceaaDoorYb
import Derived.RegionTactic
import Derived.BigRegion
import Derived.Deep.LoopGhost
namespace Go.Proofs.YtjgokhhpfgnceaaDoor
open Go.RowKit BS

theorem intsV_rev (l : List Int) (i : Nat) (h : i < l.length) : (intsV l.reverse)[i]? = some (.int .i64 (l[l.length - 1 - i]'(by omega))) := by
  rw [intsV_get _ _ (by simpa using h), List.getElem_reverse]
set_option maxRecDepth 100000 in
set_option maxHeartbeats 8000000 in
theorem reverse_calls (l : List Int) (hl : l.length ≤ 1000000) (b : Nat) (w : World) (h : Blk w b (intsV l) 3) :
    Calls Tryd.prog 35 #[.slice (some ⟨b, 0, none⟩) l.length l.length] w fun e w' => e = .returned (.tuple #[]) ∧ Blk w' b (intsV l.reverse) 3 ∧ Below b w w' ∧ w.heap.size = w'.heap.size := by
  have HL := Lib.hid h
  have hx : IntKind.i64.wrap ((l.length : Int) - 1) = (l.length : Int) - 1 := IntWalk.i64_in _ (by omega)
  clear h
  go_enter Tryd.func35, Tryd.ntmps35
  go_wp2_with fail
  go_loopw [2, 3] (fun vi vj wr => ∃ i : Nat, 2 * i ≤ l.length + 1 ∧ vi = .int .i64 i ∧ vj = .int .i64 ((l.length : Int) - 1 - (i : Int)) ∧ (∃ vs : Array Value, vs.size = l.length ∧ (∀ j, (h : j < l.length) → vs[j]? = some (.int .i64 (if j < i ∨ l.length - 1 - i < j then l[l.length - 1 - j]'(by omega) else l[j]))) ∧ Blk wr b vs 3) ∧ Below b w wr ∧ w.heap.size = wr.heap.size) (fun vi _ _ => l.length - (intOf vi).toNat)
  case atStart => exact ⟨0, by omega, rfl, by simp, ⟨intsV l, intsV_size l, fun j hj => by rw [intsV_get l j hj, if_neg (by omega)], HL.out⟩, Below.refl _ _, rfl⟩
  case round =>
    clear HL
    obtain ⟨i, hi, rfl, rfl, ⟨vs, hvs, hno, hb⟩, hB, hz⟩ := hrel
    by_cases hlt : (i : Int) < (l.length : Int) - 1 - (i : Int)
    · have q : decide ((i : Int) < (l.length : Int) - 1 - (i : Int)) = true := decide_eq_true hlt
      obtain ⟨j, hj⟩ : ∃ j : Nat, (l.length : Int) - 1 - (i : Int) = j := ⟨l.length - 1 - i, by omega⟩
      have hjl : j < l.length := by omega
      have hil : i < l.length := by omega
      have hij : i < j := by omega
      have ci := (hb.cell i).trans (hno i hil)
      have cj := (hb.cell j).trans (hno j hjl)
      rw [if_neg (by omega)] at ci cj
      have fi := hb.frozen i
      have fj := hb.frozen j
      rw [hj] at q
      have HJ := Lib.hid hj
      have HNO := Lib.hid hno
      have HBK := Lib.hid hb
      have HB := Lib.hid hB
      rw [hj]
      have xi : IntKind.i64.wrap ((i : Int) + 1) = (i : Int) + 1 := IntWalk.i64_in _ (by omega)
      have xj : IntKind.i64.wrap ((j : Int) - 1) = (j : Int) - 1 := IntWalk.i64_in _ (by omega)
      have dj : decide (j < l.length) = true := decide_eq_true hjl
      have di : decide (i < l.length) = true := decide_eq_true hil
      have djI : (j : Int) < (l.length : Int) := by omega
      have diI : (i : Int) < (l.length : Int) := by omega
      clear hj hno hb hB hlt
      have hii : ¬ (i = j) := by omega
      generalize hA : l[i] = A at *
      generalize hC : l[j] = C at *
      go_upto_region 3 with fail
      go_region
      go_wp2_with fail
      go_roundw
      case rel =>
        have hJ := HJ.out
        refine ⟨i + 1, by omega, by simp, by congr 1; have := HJ.out; omega, ⟨(vs.setIfInBounds i (.int .i64 C)).setIfInBounds j (.int .i64 A), by simp [hvs], fun x hx => ?_, ((HBK.out.set i _).set j _).drew⟩, ((below_set (below_set HB.out (Nat.le_refl _) i _) (Nat.le_refl _) j _)).drew, by simpa using hz⟩
        have hj2 : l.length - 1 - i = j := by have := HJ.out; omega
        by_cases hxj : x = j
        · subst hxj
          rw [if_pos (by omega)]
          have e : l.length - 1 - x = i := by omega
          simp only [e, hA]
          simp [hvs, hjl]
        · rw [Array.getElem?_setIfInBounds_ne (Ne.symm hxj)]
          by_cases hxi : x = i
          · subst hxi
            rw [if_pos (by omega)]
            simp only [hj2, hC]
            simp [hvs, hil]
          · rw [Array.getElem?_setIfInBounds_ne (Ne.symm hxi), HNO.out x hx]
            by_cases h1 : x < i ∨ l.length - 1 - i < x
            · rw [if_pos h1, if_pos (by omega)]
            · rw [if_neg h1, if_neg (by omega)]
      case measure => simp [intOf]; omega
    · have q : decide ((i : Int) < (l.length : Int) - 1 - (i : Int)) = false := decide_eq_false hlt
      have HB := Lib.hid hB
      have HBK := Lib.hid hb
      have hvv : vs = intsV l.reverse := intsV_ext _ _ (by rw [hvs, List.length_reverse]) fun x hx => by
        rw [List.length_reverse] at hx
        rw [hno x hx, List.getElem_reverse]
        by_cases h1 : x < i ∨ l.length - 1 - i < x
        · rw [if_pos h1]
        · rw [if_neg h1]
          have e : l.length - 1 - x = x := by omega
          simp only [e]
      clear hB hb hno hlt
      go_wp2_with fail
      go_end0
      exact ⟨rfl, by rw [← hvv]; exact HBK.out, HB.out, hz⟩
end Go.Proofs.YtjgokhhpfgnceaaDoor

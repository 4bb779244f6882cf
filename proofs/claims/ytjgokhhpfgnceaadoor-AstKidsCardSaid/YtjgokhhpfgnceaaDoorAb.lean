/- The document's trees: Formed. -/
import Derived.Test.YtjgokhhpfgnceaaDoorChecked
import Derived.Test.YtjgokhhpfgnceaaDoorBk
import Derived.Test.YtjgokhhpfgnceaaDoorSm
import Derived.Test.YtjgokhhpfgnceaaDoorAf
import Derived.WalkLawsBesides
import Derived.LoopTactic
import Derived.Lib.Hide
import Derived.Handy
import Derived.IntWalk
namespace Go.Proofs.YtjgokhhpfgnceaaDoor
open Go.RowKit BS

structure NdN where
  kind : Int
  kids : Int
  n : Int
  m : Int
  set : BitVec 256
@[reducible] def ndI (k c n m : Int) (t : BitVec 256) : Array Value := #[.int .i64 k, .int .i64 c, .int .i64 n, .int .i64 m, .int .u64 (wd t 0), .int .u64 (wd t 1), .int .u64 (wd t 2), .int .u64 (wd t 3)]
def ndA (x : NdN) : Array Value := ndI x.kind x.kids x.n x.m x.set
/-- A slice of nodes. -/
def NodesAt (l : List NdN) (a : Option Addr) (W : World) : Prop :=
  l ≠ [] → ∃ g off, a = some ⟨g, off, none⟩ ∧ g < W.heap.size ∧ ∀ i (h : i < l.length) j, j < 8 → W.cell? ⟨g, off + i * 8 + j, none⟩ = (ndA l[i])[j]?
theorem NodesAt.below {l : List NdN} {a : Option Addr} {W W' : World} (h : NodesAt l a W) (hb : Below W.heap.size W W') : NodesAt l a W' := fun hne => by
  obtain ⟨g, off, e, hg, hc⟩ := h hne
  exact ⟨g, off, e, Nat.lt_of_lt_of_le hg hb.size, fun i hi j hj => (hb.cell (p := ⟨g, off + i * 8 + j, none⟩) hg).trans (hc i hi j hj)⟩

set_option maxRecDepth 100000 in
set_option maxHeartbeats 4000000 in
theorem rFormed_calls (l : List NdN) (hl : l.length ≤ 1000000) (a : Option Addr) (cap : Nat) (w : World) (h : NodesAt l a w) :
    Calls Tryd.prog 11 #[.slice a l.length cap] w fun e w' => e = .returned (.bool (decide (manyF 0 (l.map NdN.kids) = some 1))) ∧ w = w' := by
  generalize hR : manyF 0 (l.map NdN.kids) = R
  have HR := Lib.hid hR
  have HN := Lib.hid h
  clear hR h
  go_enter Tryd.func11, Tryd.ntmps11
  go_wp2_with fail
  go_loop [3, 4] (fun vm vi => ∃ (M i : Nat), i ≤ l.length ∧ M ≤ i ∧ vm = .int .i64 M ∧ vi = .int .i64 i ∧ manyF M ((l.drop i).map NdN.kids) = R) (fun _ vi => l.length - (intOf vi).toNat)
  case atStart => exact ⟨0, 0, Nat.zero_le _, Nat.le_refl _, rfl, rfl, by rw [List.drop_zero]; exact HR.out⟩
  case round =>
    clear HR
    obtain ⟨M, i, hi, hM, rfl, rfl, hres⟩ := hrel
    by_cases hlt : i < l.length
    · have hne : l ≠ [] := by rintro rfl; simp at hlt
      obtain ⟨g, off, rfl, hg, hc⟩ := HN.out hne
      have hd : decide ((i : Int) < (l.length : Int)) = true := by rw [decide_eq_true_iff]; omega
      have hd2 : decide (i < l.length) = true := by rw [decide_eq_true_iff]; omega
      rw [List.drop_eq_getElem_cons hlt, List.map_cons, manyF] at hres
      have c1 := hc i hlt 1 (by decide)
      clear hc hne
      generalize l[i] = x at *
      obtain ⟨xk, xc, xn, xm, xs⟩ := x
      simp only [ndA, List.getElem?_toArray, List.getElem?_cons_zero, List.getElem?_cons_succ] at c1 hres
      by_cases h0 : xc < 0
      · have q0 : decide (xc < 0) = true := decide_eq_true h0
        rw [if_pos (.inl h0)] at hres
        have HRES := Lib.hid hres
        clear hres h0
        go_wp2_with fail
        go_ret
        exact ⟨by rw [← HRES.out] <;> rfl, rfl⟩
      have q0 : decide (xc < 0) = false := decide_eq_false h0
      by_cases h1 : (M : Int) < xc
      · have q1 : decide ((M : Int) < xc) = true := decide_eq_true h1
        rw [if_pos (.inr h1)] at hres
        have HRES := Lib.hid hres
        clear hres h0 h1
        go_wp2_with fail
        go_ret
        exact ⟨by rw [← HRES.out] <;> rfl, rfl⟩
      have q1 : decide ((M : Int) < xc) = false := decide_eq_false h1
      rw [if_neg (fun h => by rcases h with h | h; exact h0 h; exact h1 h)] at hres
      obtain ⟨C, rfl⟩ : ∃ C : Nat, xc = C := ⟨xc.toNat, by omega⟩
      rw [Int.toNat_natCast] at hres
      have HRES := Lib.hid hres
      have x1 : IntKind.i64.wrap ((M : Int) - (C : Int)) = (M : Int) - (C : Int) := IntWalk.i64_in _ (by omega)
      have x2 : IntKind.i64.wrap ((M : Int) - (C : Int) + 1) = (M : Int) - (C : Int) + 1 := IntWalk.i64_in _ (by omega)
      have hCM : C ≤ M := by omega
      clear hres h0 h1
      go_wp2_with fail
      go_round
      case rel => exact ⟨M - C + 1, i + 1, by omega, by omega, by congr 1; omega, by simp, HRES.out⟩
      case measure => simp [intOf]; omega
    · obtain rfl : i = l.length := by omega
      have hd : decide ((l.length : Int) < (l.length : Int)) = false := by simp
      rw [List.drop_length, List.map_nil, manyF] at hres
      have HRES := Lib.hid hres
      clear hres
      by_cases h1 : M = 1
      · subst h1
        go_wp2_with fail
        go_ret
        exact ⟨by rw [← HRES.out] <;> rfl, rfl⟩
      · have q : ((M : Int) == 1) = false := by rw [beq_eq_false_iff_ne]; omega
        have HM := Lib.hid h1
        clear h1
        go_wp2_with fail
        go_ret
        exact ⟨by rw [← HRES.out, decide_eq_false (fun h => HM.out (Option.some.inj h))] <;> rfl, rfl⟩
end Go.Proofs.YtjgokhhpfgnceaaDoor

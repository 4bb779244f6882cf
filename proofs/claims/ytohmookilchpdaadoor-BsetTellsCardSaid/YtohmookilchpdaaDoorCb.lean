/- A slice of bytes that comes in, opened. -/
import Derived.Test.YtohmookilchpdaaDoorCd
import Derived.Test.YtohmookilchpdaaDoorSu
namespace Go.Proofs.YtohmookilchpdaaDoor
open Go.ChangeShapes Go.WideShapes Go.ChangeAt Go.RowKit BS

theorem open_bytes {H : Type} {enc : TypeId × Value → H} {P : Program} {w : World} {spare : Nat → Bool} {held : Bool} {t e : TypeId} {fuel : Nat} {v : Value} {x : DataW H × List MemPlace} (ht : P.underlying t = some (.slice e)) (he : P.underlying e = some (.int .u8)) (hce : P.cellsOf e = 1)
    (h : DataW.trod enc P w 0 spare held fuel t [v] = some x) : ∃ (a : Option Addr) (cap : Nat) (l : List (Fin 256)), v = .slice a l.length cap ∧ l.length ≤ 9223372036854775807 ∧ BytesAt w.heap.size w (.slice a l.length cap) l := by
  rcases open_ints ht he hce h with ⟨hv, _⟩ | ⟨a, len, cap, zs, hv, _, hlc, hcm, hz, _, hcell, hwf⟩
  · refine ⟨none, 0, [], ?_, by simp, none, 0, rfl, fun h => absurd rfl h⟩
    simpa using hv
  · have hzl : len ≤ zs.length := by rw [hz]; split <;> omega
    have hlen : ((zs.take len).map fun z => Fin.ofNat 256 z.toNat).length = len := by simp [hzl]
    refine ⟨some a, cap, (zs.take len).map fun z => Fin.ofNat 256 z.toNat, ?_, ?_, some a, cap, rfl, fun hne => ?_⟩
    · rw [hlen]; simpa using hv
    · rw [hlen]; unfold maxLen at hcm; omega
    · have h0 : 0 < len := by
        rw [← hlen]; exact List.length_pos_iff.2 hne
      obtain ⟨b, off, rfl, hc⟩ := ints_at hcell (by omega)
      refine ⟨b, off, rfl, World.block_lt_of_cell? w _ (hc 0 (by omega)), fun j hj => ?_⟩
      have hj' : j < len := by rw [hlen] at hj; exact hj
      rw [hc j (by omega)]
      have hjz : j < zs.length := by omega
      have hw := hwf zs[j] (List.getElem_mem hjz)
      have h2 : 0 ≤ zs[j] ∧ zs[j] ≤ 255 := by simpa [Lit.wf, IntKind.min, IntKind.max, IntKind.signed, IntKind.bits] using hw
      simp only [List.getElem_map, List.getElem_take]
      show some (Value.int .u8 (zs.getD j 0)) = some (Value.int .u8 ((zs[j].toNat % 256 : Nat) : Int))
      rw [List.getD_eq_getElem?_getD, List.getElem?_eq_getElem hjz, Option.getD_some]
      have hq : zs[j] = ((zs[j].toNat % 256 : Nat) : Int) := by omega
      exact congrArg (fun n => some (Value.int .u8 n)) hq
end Go.Proofs.YtohmookilchpdaaDoor

/- Texts put together: Rz. -/
import Derived.Test.YtbccojjcdcighaaGreatDoorPD
import Derived.Test.YtbccojjcdcighaaGreatDoorPC
import Derived.Test.YtbccojjcdcighaaGreatDoorPR
import Derived.Lib.SlBytesConst
namespace Go.Proofs.YtbccojjcdcighaaGreatDoor
open Go Go.RowKit
def TM (n0 : Nat) (w w' : World) : Prop := Below n0 w w' ∧ ∀ (b : Nat) C e m, w.heap[b]? = some (Obj.cells C e m) → ∃ m', w'.heap[b]? = some (Obj.cells C e m')
theorem TM.refl (n0 : Nat) (w : World) : TM n0 w w := ⟨Below.refl _ _, fun _ _ _ m h => ⟨m, h⟩⟩
theorem TM.of_below {n0 : Nat} {w w' : World} (h : Below w.heap.size w w') (hn : n0 ≤ w.heap.size) : TM n0 w w' :=
  ⟨h.mono hn, fun b _ _ m hb => ⟨m, (h.block b (Array.getElem?_eq_some_iff.1 hb).1).trans hb⟩⟩
theorem freeze_kept (w : World) (b k : Nat) (n0 : Nat) (hb : n0 ≤ b) : TM n0 w (w.freeze ⟨b, k, none⟩ 1) := by
  have hf : w.freeze ⟨b, k, none⟩ 1 = { w with heap := w.heap.modify b fun
      | .cells c elem (lo, hi) => .cells c elem (if lo == hi then (k, k + 1) else (min lo k, max hi (k + 1)))
      | o => o } := rfl
  rw [hf]
  refine ⟨⟨rfl, rfl, rfl, by simp, fun j hj => ?_⟩, fun c C e m hc => ?_⟩
  · show (w.heap.modify b _)[j]? = _
    rw [Array.getElem?_modify]
    rw [if_neg (by omega)]
  · show ∃ m', (w.heap.modify b _)[c]? = _
    rw [Array.getElem?_modify]
    by_cases h : b = c
    · subst h
      rw [if_pos rfl, hc]
      exact ⟨_, rfl⟩
    · rw [if_neg h]
      exact ⟨m, hc⟩
theorem run_convert_mark {P : Program} (w : World) (t e : TypeId) (b : Nat) (C : Array Value) (m : Nat × Nat) (n c : Nat) (ht : P.underlying t = some (.slice e)) (he : P.underlying e = some (.int .u8)) (hb : w.heap[b]? = some (.cells C e m)) :
    (convert t t (.slice (some ⟨b, 0, none⟩) n c)).run P w = .ok (.slice (some ⟨b, 0, none⟩) n c) (w.freeze ⟨b, C.size, none⟩ 1) := by
  have hsh : w.shape? b = some (e, C.size) := by unfold World.shape?; rw [hb]
  simp [convert, run_underlying ht, run_underlying he, markStringish, hsh]
def MarkB (n0 : Nat) (u8 : TypeId) (l : List (Fin 256)) (v : Value) (W : World) : Prop := ∃ b m, v = .slice (some ⟨b, 0, none⟩) l.length l.length ∧ n0 ≤ b ∧ W.heap[b]? = some (.cells (byW l) u8 m)
theorem MarkB.kept {n0 : Nat} {u8 : TypeId} {l : List (Fin 256)} {v : Value} {w w' : World} (h : MarkB n0 u8 l v w) (ht : TM n0 w w') : MarkB n0 u8 l v w' := by
  obtain ⟨b, m, h1, h2, h3⟩ := h
  obtain ⟨m', h4⟩ := ht.2 b _ _ _ h3
  exact ⟨b, m', h1, h2, h4⟩
theorem MarkB.new (n0 : Nat) (u8 : TypeId) (l : List (Fin 256)) (W : World) (hn : n0 ≤ W.heap.size) : MarkB n0 u8 l (.slice (some ⟨W.heap.size, 0, none⟩) l.length l.length) (W.alloc (.cells (byW l) u8)) :=
  ⟨_, (0, 0), rfl, hn, World.alloc_heap_new W _⟩
theorem MarkB.bytes {n0 : Nat} {u8 : TypeId} {l : List (Fin 256)} {v : Value} {W : World} (h : MarkB n0 u8 l v W) : BytesAt W.heap.size W v l := by
  obtain ⟨b, m, h1, h2, h3⟩ := h
  refine ⟨_, l.length, h1, fun _ => ⟨b, 0, rfl, (Array.getElem?_eq_some_iff.1 h3).1, fun j hj => ?_⟩⟩
  rw [Nat.zero_add]
  simp [World.cell?, h3, byW, hj]
theorem MarkB.convert {P : Program} {n0 : Nat} {u8 t : TypeId} {l : List (Fin 256)} {v : Value} {W : World} (h : MarkB n0 u8 l v W) (ht : P.underlying t = some (.slice u8)) (he : P.underlying u8 = some (.int .u8)) :
    ∃ W', (Go.convert t t v).run P W = .ok v W' ∧ MarkB n0 u8 l v W' ∧ TM n0 W W' := by
  have hk := h
  obtain ⟨b, m, rfl, h2, h3⟩ := h
  have hT := freeze_kept W b (byW l).size n0 h2
  exact ⟨_, run_convert_mark W t u8 b _ m _ _ ht he h3, hk.kept hT, hT⟩
end Go.Proofs.YtbccojjcdcighaaGreatDoor

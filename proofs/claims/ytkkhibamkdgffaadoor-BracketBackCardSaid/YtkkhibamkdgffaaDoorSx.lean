/- The calls on sets of bytes: ranges, and whether a byte is in a set. -/
import Derived.Test.YtkkhibamkdgffaaDoorSw
namespace Go.Proofs.YtkkhibamkdgffaaDoor
open Go.RowKit BS

theorem next {B : Nat} {a b c : World} (h : Below B a b) (k : Below b.heap.size b c) (hB : B ≤ a.heap.size) : Below B a c :=
  h.trans (k.mono (Nat.le_trans hB h.size))
theorem upfrom {w w' : World} {o : Obj} (h : Below (w.alloc o).heap.size (w.alloc o) w') : Below w.heap.size w w' :=
  ((Below.refl _ w).alloc (Nat.le_refl _) _).trans (h.mono (by simp))

theorem box4 {w w' : World} {a b c d : Value} {t : TypeId} (h : Below (w.alloc (.cells #[a, b, c, d] t)).heap.size (w.alloc (.cells #[a, b, c, d] t)) w') :
    (w'.cell? ⟨w.heap.size, 0, none⟩ = some a ∧ w'.cell? ⟨w.heap.size, 1, none⟩ = some b ∧ w'.cell? ⟨w.heap.size, 2, none⟩ = some c ∧ w'.cell? ⟨w.heap.size, 3, none⟩ = some d) ∧
    (w'.frozen? ⟨w.heap.size, 0, none⟩ = false ∧ w'.frozen? ⟨w.heap.size, 1, none⟩ = false ∧ w'.frozen? ⟨w.heap.size, 2, none⟩ = false ∧ w'.frozen? ⟨w.heap.size, 3, none⟩ = false) := by
  obtain ⟨hc, hf⟩ := bcell h
  have hz : w.heap.size < (w.alloc (.cells #[a, b, c, d] t)).heap.size := by simp
  rw [hc _ _ hz, hc _ _ hz, hc _ _ hz, hc _ _ hz, hf _ _ hz, hf _ _ hz, hf _ _ hz, hf _ _ hz]
  refine ⟨⟨?_, ?_, ?_, ?_⟩, ?_, ?_, ?_, ?_⟩ <;> simp [go_sem]

set_option maxHeartbeats 400000 in
/-- Range. -/
theorem range_calls (lo hi : Int) (w : World) (h0 : 0 ≤ lo) (hl : lo < 256) (h1 : 0 ≤ hi) (hh : hi < 256) :
    Calls Tryd.prog 43 #[.int .u8 lo, .int .u8 hi] w fun e w' => e = .returned (setV (range lo.toNat hi.toNat)) ∧ Below w.heap.size w w' := by
  go_enter Tryd.func43, Tryd.ntmps43
  go_wp2_with fail
  refine (below_calls _ _ (by omega) (by omega)).mono ?_
  rintro e w1 ⟨rfl, hb1⟩
  go_wp2_with fail
  refine (below_calls _ _ (by omega) (by omega)).mono ?_
  rintro e w2 ⟨rfl, hb2⟩
  go_wp2_with fail
  refine (less_calls _ _ _).mono ?_
  rintro e w3 ⟨rfl, hb3⟩
  have hB := next (next hb1 hb2 (Nat.le_refl _)) hb3 (Nat.le_refl _)
  clear hb1 hb2 hb3
  obtain ⟨⟨c0, c1, c2, c3⟩, f0, f1, f2, f3⟩ := box4 hB
  have hG := upfrom hB
  clear hB
  go_wp2
  refine bodyPost_ret (v := setV (mask (hi + 1).toNat &&& ~~~mask lo.toNat)) (by simp [results, Tryd.results43, go_sem, c0, c1, c2, c3]) rfl ⟨?_, ?_⟩
  · rw [← range_eq, show (hi + 1).toNat = hi.toNat + 1 by omega]
  · go_grown

theorem has_word' (a : BitVec 256) (x : Int) (i k : Nat) (hx : x.toNat = 64 * i + k) (hk : k < 64) : (bits .and .u64 ((wd a i : Int) / 2 ^ k) 1 == 1) = a.getLsbD x.toNat := by
  rw [hx, has_word a i k hk]

set_option maxHeartbeats 400000 in
/-- Has. -/
theorem has_calls (a : BitVec 256) (x : Int) (w : World) (h0 : 0 ≤ x) (h1 : x < 256) :
    Calls Tryd.prog 21 #[setV a, .int .u8 x] w fun e w' => e = .returned (.bool (a.getLsbD x.toNat)) ∧ Below w.heap.size w w' := by
  have hx2 : 0 ≤ x % 64 := by omega
  have hx3 : x % 64 < 64 := by omega
  have h4 : x / 64 = 0 ∨ x / 64 = 1 ∨ x / 64 = 2 ∨ x / 64 = 3 := by omega
  rcases h4 with hx | hx | hx | hx
  all_goals
    go_enter Tryd.func21, Tryd.ntmps21
    go_wp2
    go_returns
    refine ⟨ret_bool (has_word' a x _ _ ?_ ?_), by go_grown⟩ <;> omega
end Go.Proofs.YtkkhibamkdgffaaDoor

/- Texts put together: Co Cn Cr Gp Gq Gr. -/
import Derived.Test.YtbccojjcdcighaaGreatDoorPZ
import Derived.Test.YtbccojjcdcighaaGreatDoorPY
import Derived.Test.YtbccojjcdcighaaGreatDoorPB
import Derived.Laws.ResultCell
import Derived.Deep.WholeRow
import Derived.Test.YtbccojjcdcighaaGreatDoorPC
import Derived.Laws.Rows
import Derived.Laws.Tables
namespace Go.Proofs.YtbccojjcdcighaaGreatDoor
open Go.RowKit Go.Shelf BS
theorem ret_bool' {a b : Bool} (h : a = b) : Ending.returned (.bool a) = .returned (.bool b) := by rw [h]
set_option maxRecDepth 100000 in
set_option maxHeartbeats 2000000 in
theorem cOf_calls (name : ByteArray) (w : World) : Calls Tryz.prog 202 #[.string name] w fun e w' => e = .returned (.tuple #[setV (ofS name.toList), .bool (ofB name.toList)]) ∧ Below w.heap.size w w' := by
  have b0 := Blk.new w (setA 0) 43
  have hB0 : Below w.heap.size w (w.alloc (.cells (setA 0) 43)) := by go_grown
  go_enter Tryz.func202, Tryz.ntmps202
  go_wp2_with fail
  refine (table_calls _).mono ?_
  rintro e w1 ⟨rfl, hb1⟩
  replace b0 := b0.below hb1 (by simp)
  replace hB0 := hB0.trans (hb1.mono (by simp))
  clear hb1
  go_wp2_with fail
  go_loopw [7] (fun i wr => ∃ k : Nat, k ≤ 12 ∧ i = .int .i64 k ∧ (∀ j, j < k → (tE j).1.toList ≠ name.toList) ∧ Blk wr w.heap.size (setA 0) 43 ∧ Below w.heap.size w wr) (fun i _ => 12 - (intOf i).toNat)
  case atStart => exact ⟨0, by omega, rfl, fun j hj => by omega, b0, hB0⟩
  case round =>
    clear b0 hB0
    obtain ⟨k, hk, rfl, hno, hb, hB⟩ := hrel
    have HN := Lib.hid hno
    clear hno
    by_cases hkl : k < 12
    · have hix := tab_index k hkl
      by_cases hq : (tE k).1.toList = name.toList
      · have HS := Lib.hid (ofS_at name.toList k hkl HN.out hq)
        have HO := Lib.hid (ofB_at name.toList k hkl HN.out hq)
        have hqb : ((tE k).1.toList == name.toList) = true := beq_iff_eq.2 hq
        clear hq
        generalize (tE k).1 = nm at *
        generalize (tE k).2 = st at *
        obtain ⟨⟨c0, c1, c2, c3⟩, f0, f1, f2, f3⟩ := hb.cells4
        have hlt := hb.lt
        have hne : w.heap.size ≠ wr.heap.size := by omega
        go_wp2
        obtain ⟨hR, hBB⟩ := fin4 hb hB (Nat.le_refl _) st
        replace hR := hR.alloc (.cells #[.string nm, .int .u64 (wd st 0), .int .u64 (wd st 1), .int .u64 (wd st 2), .int .u64 (wd st 3)] 235)
        replace hBB := hBB.alloc (by simp; omega) (.cells #[.string nm, .int .u64 (wd st 0), .int .u64 (wd st 1), .int .u64 (wd st 2), .int .u64 (wd st 3)] 235)
        clear c0 c1 c2 c3 f0 f1 f2 f3 hb hB hix hqb
        generalize (((((wr.setCell ⟨w.heap.size, 0, none⟩ (.int .u64 (wd st 0))).setCell ⟨w.heap.size, 1, none⟩ (.int .u64 (wd st 1))).setCell ⟨w.heap.size, 2, none⟩ (.int .u64 (wd st 2))).setCell ⟨w.heap.size, 3, none⟩ (.int .u64 (wd st 3))).alloc (.cells #[.string nm, .int .u64 (wd st 0), .int .u64 (wd st 1), .int .u64 (wd st 2), .int .u64 (wd st 3)] 235)) = W4 at *
        obtain ⟨⟨e0, e1, e2, e3⟩, _⟩ := hR.cells4
        exact bodyPost_ret (v := .tuple #[setV st, .bool true]) (by simp [results, Tryz.results202, go_sem, e0, e1, e2, e3]) rfl ⟨by rw [HS.out, HO.out], hBB⟩
      · have hqb : ((tE k).1.toList == name.toList) = false := beq_eq_false_iff_ne.2 hq
        have HQ := Lib.hid hq
        clear hq
        generalize hnm : (tE k).1 = nm at hqb hix
        generalize (tE k).2 = st at *
        have HNM := Lib.hid hnm
        clear hnm
        go_wp2
        go_roundw
        case rel =>
          refine ⟨k + 1, by omega, by simp, fun j hj => ?_, hb.alloc _, hB.alloc hB.size _⟩
          by_cases hjk : j = k
          · subst hjk; exact HQ.out
          · exact HN.out j (by omega)
        case measure => simp [intOf]; omega
    · obtain rfl : k = 12 := by omega
      obtain ⟨⟨c0, c1, c2, c3⟩, f0, f1, f2, f3⟩ := hb.cells4
      go_wp2
      obtain ⟨hR, hBB⟩ := fin4 hb hB (Nat.le_refl _) 0
      have e9 : ((((wr.setCell ⟨w.heap.size, 0, none⟩ (.int .u64 0)).setCell ⟨w.heap.size, 1, none⟩ (.int .u64 0)).setCell ⟨w.heap.size, 2, none⟩ (.int .u64 0)).setCell ⟨w.heap.size, 3, none⟩ (.int .u64 0)) = ((((wr.setCell ⟨w.heap.size, 0, none⟩ (.int .u64 (wd 0 0))).setCell ⟨w.heap.size, 1, none⟩ (.int .u64 (wd 0 1))).setCell ⟨w.heap.size, 2, none⟩ (.int .u64 (wd 0 2))).setCell ⟨w.heap.size, 3, none⟩ (.int .u64 (wd 0 3))) := rfl
      rw [e9]
      clear e9 c0 c1 c2 c3 f0 f1 f2 f3 hb hB
      generalize ((((wr.setCell ⟨w.heap.size, 0, none⟩ (.int .u64 (wd 0 0))).setCell ⟨w.heap.size, 1, none⟩ (.int .u64 (wd 0 1))).setCell ⟨w.heap.size, 2, none⟩ (.int .u64 (wd 0 2))).setCell ⟨w.heap.size, 3, none⟩ (.int .u64 (wd 0 3))) = W4 at *
      obtain ⟨⟨e0, e1, e2, e3⟩, _⟩ := hR.cells4
      exact bodyPost_ret (v := .tuple #[setV 0, .bool false]) (by simp [results, Tryz.results202, go_sem, e0, e1, e2, e3]) rfl ⟨by rw [ofS_not _ HN.out, ofB_not _ HN.out], hBB⟩
def pfx (nm s : ByteArray) : Bool := decide (s.size ≤ nm.size) && ((nm.extract 0 s.size).toList == s.toList)
def begB (l : ByteArray) : Bool := tabL.any fun e => pfx e.1 l
theorem begB_at (l : ByteArray) (k : Nat) (hk : k < 12) (h : pfx (tE k).1 l = true) : begB l = true := by
  unfold begB
  rw [List.any_eq_true]
  exact ⟨tabL[k], List.getElem_mem _, by rw [← tE_eq k hk]; exact h⟩
theorem begB_not (l : ByteArray) (hf : ∀ j, j < 12 → pfx (tE j).1 l = false) : begB l = false := by
  unfold begB
  rw [List.any_eq_false]
  intro x hx
  obtain ⟨j, hj, rfl⟩ := List.getElem_of_mem hx
  rw [← tE_eq j hj, hf j hj]
  simp
set_option maxHeartbeats 1000000 in
theorem hp1_calls (s p : ByteArray) (_hs : s.size ≤ 9223372036854775807) (_hp : p.size ≤ 9223372036854775807) (w : World) : Calls Tryz.prog 209 #[.string s, .string p] w fun e w' => e = .returned (.bool (pfx s p)) ∧ w = w' := by
  by_cases hl : p.size ≤ s.size
  · have h1 : decide (p.size ≤ s.size) = true := by simpa using hl
    go_enter Tryz.func209, Tryz.ntmps209
    go_wp2
    go_ret
    exact ⟨ret_bool' (by simp only [pfx, h1, Bool.true_and]), rfl⟩
  · have h1 : decide (p.size ≤ s.size) = false := by simpa using hl
    go_enter Tryz.func209, Tryz.ntmps209
    go_wp2
    go_ret
    exact ⟨ret_bool' (by simp only [pfx, h1, Bool.false_and]), rfl⟩
set_option maxHeartbeats 1000000 in
theorem hp_calls (s p : ByteArray) (hs : s.size ≤ 9223372036854775807) (hp : p.size ≤ 9223372036854775807) (w : World) : Calls Tryz.prog 206 #[.string s, .string p] w fun e w' => e = .returned (.bool (pfx s p)) ∧ w = w' := by
  go_enter Tryz.func206, Tryz.ntmps206
  go_wp2_with (go_at_call 209; refine (hp1_calls s p hs hp _).mono ?_; rintro e w' ⟨rfl, rfl⟩)
  go_ret
  exact ⟨rfl, rfl⟩
theorem tE_size (k : Nat) (hk : k < 12) : (tE k).1.size ≤ 9223372036854775807 := by
  have h : ∀ j, j < 12 → decide ((tE j).1.size ≤ 9223372036854775807) = true := by decide +kernel
  simpa using h k hk
set_option maxRecDepth 100000 in
set_option maxHeartbeats 2000000 in
theorem cBegins_calls (s : ByteArray) (hs : s.size ≤ 9223372036854775807) (w : World) : Calls Tryz.prog 201 #[.string s] w fun e w' => e = .returned (.bool (begB s)) ∧ Below w.heap.size w w' := by
  go_enter Tryz.func201, Tryz.ntmps201
  go_wp2_with fail
  refine (table_calls _).mono ?_
  rintro e w1 ⟨rfl, hb1⟩
  go_wp2_with fail
  go_loopw [6] (fun i wr => ∃ k : Nat, k ≤ 12 ∧ i = .int .i64 k ∧ (∀ j, j < k → pfx (tE j).1 s = false) ∧ Below w.heap.size w wr) (fun i _ => 12 - (intOf i).toNat)
  case atStart => exact ⟨0, by omega, rfl, fun j hj => by omega, hb1⟩
  case round =>
    clear hb1
    obtain ⟨k, hk, rfl, hno, hB⟩ := hrel
    have HN := Lib.hid hno
    clear hno
    by_cases hkl : k < 12
    · have hix := tab_index k hkl
      have hnz := tE_size k hkl
      cases hq : pfx (tE k).1 s with
      | true =>
        have HS := Lib.hid (begB_at s k hkl hq)
        have HQ := Lib.hid hq
        clear hq
        generalize (tE k).1 = nm at *
        generalize (tE k).2 = st at *
        go_wp2_with (go_at_call 206; refine (hp_calls nm s hnz hs _).mono ?_; rintro e w' ⟨rfl, rfl⟩; rw [HQ.out])
        go_ret
        exact ⟨by rw [HS.out]; rfl, hB.alloc hB.size _⟩
      | false =>
        have HQ := Lib.hid hq
        clear hq
        generalize hnm : (tE k).1 = nm at hix hnz
        generalize (tE k).2 = st at *
        have HNM := Lib.hid hnm
        clear hnm
        go_wp2_with (go_at_call 206; refine (hp_calls nm s hnz hs _).mono ?_; rintro e w' ⟨rfl, rfl⟩; rw [← HNM.out, HQ.out])
        go_roundw
        case rel =>
          refine ⟨k + 1, by omega, by simp, fun j hj => ?_, hB.alloc hB.size _⟩
          by_cases hjk : j = k
          · subst hjk; exact HQ.out
          · exact HN.out j (by omega)
        case measure => simp [intOf]; omega
    · obtain rfl : k = 12 := by omega
      go_wp2
      go_ret
      exact ⟨by rw [begB_not _ HN.out]; rfl, hB⟩
set_option maxHeartbeats 1000000 in
theorem cAny_calls (w : World) : Calls Tryz.prog 76 #[] w fun e w' => e = .returned (setV (~~~(0 : BitVec 256))) ∧ Below w.heap.size w w' := by
  have b0 := Blk.new w (setA 0) 43
  have hB0 : Below w.heap.size w (w.alloc (.cells (setA 0) 43)) := by go_grown
  go_enter Tryz.func76, Tryz.ntmps76
  go_wp2_with fail
  refine (not_calls 0 _).mono ?_
  rintro e w1 ⟨rfl, hb1⟩
  replace b0 := b0.below hb1 (by simp)
  replace hB0 := hB0.trans (hb1.mono (by simp))
  clear hb1
  obtain ⟨⟨c0, c1, c2, c3⟩, f0, f1, f2, f3⟩ := b0.cells4
  generalize ht : (~~~(0 : BitVec 256)) = t at *
  have HT := Lib.hid ht
  clear ht
  go_wp2
  obtain ⟨hR, hBB⟩ := fin4 b0 hB0 (Nat.le_refl _) t
  clear c0 c1 c2 c3 f0 f1 f2 f3 b0 hB0
  generalize ((((w1.setCell ⟨w.heap.size, 0, none⟩ (.int .u64 (wd t 0))).setCell ⟨w.heap.size, 1, none⟩ (.int .u64 (wd t 1))).setCell ⟨w.heap.size, 2, none⟩ (.int .u64 (wd t 2))).setCell ⟨w.heap.size, 3, none⟩ (.int .u64 (wd t 3))) = W4 at *
  obtain ⟨⟨e0, e1, e2, e3⟩, _⟩ := hR.cells4
  exact bodyPost_ret (v := setV t) (by simp [results, Tryz.results76, go_sem, e0, e1, e2, e3]) rfl ⟨by rw [HT.out], hBB⟩
end Go.Proofs.YtbccojjcdcighaaGreatDoor

namespace Go.Proofs.YtbccojjcdcighaaGreatDoor
open Go.RowKit Go.Shelf BS
def namV : Array Value := (tabL.map fun e => Value.string e.1).toArray
theorem namV_get (k : Nat) (h : k < 12) : namV[k]? = some (.string (tE k).1) := by
  have h1 : k < tabL.length := h
  simp only [namV, List.getElem?_toArray, List.getElem?_map, List.getElem?_eq_getElem h1, Option.map_some, tE_eq k h] <;> rfl
@[reducible] def tabZ : Array Value := #[.string ⟨#[]⟩, .int .u64 0, .int .u64 0, .int .u64 0, .int .u64 0, .string ⟨#[]⟩, .int .u64 0, .int .u64 0, .int .u64 0, .int .u64 0, .string ⟨#[]⟩, .int .u64 0, .int .u64 0, .int .u64 0, .int .u64 0, .string ⟨#[]⟩, .int .u64 0, .int .u64 0, .int .u64 0, .int .u64 0, .string ⟨#[]⟩, .int .u64 0, .int .u64 0, .int .u64 0, .int .u64 0, .string ⟨#[]⟩, .int .u64 0, .int .u64 0, .int .u64 0, .int .u64 0, .string ⟨#[]⟩, .int .u64 0, .int .u64 0, .int .u64 0, .int .u64 0, .string ⟨#[]⟩, .int .u64 0, .int .u64 0, .int .u64 0, .int .u64 0, .string ⟨#[]⟩, .int .u64 0, .int .u64 0, .int .u64 0, .int .u64 0, .string ⟨#[]⟩, .int .u64 0, .int .u64 0, .int .u64 0, .int .u64 0, .string ⟨#[]⟩, .int .u64 0, .int .u64 0, .int .u64 0, .int .u64 0, .string ⟨#[]⟩, .int .u64 0, .int .u64 0, .int .u64 0, .int .u64 0]
theorem mk12 (w : World) : (Instr.makeSlice 192 (.int .i64 12) (.int .i64 12)).run Tryz.prog w = .ok (.slice (some ⟨w.heap.size, 0, none⟩) 12 12) (w.alloc (.cells #[.string ⟨#[]⟩, .string ⟨#[]⟩, .string ⟨#[]⟩, .string ⟨#[]⟩, .string ⟨#[]⟩, .string ⟨#[]⟩, .string ⟨#[]⟩, .string ⟨#[]⟩, .string ⟨#[]⟩, .string ⟨#[]⟩, .string ⟨#[]⟩, .string ⟨#[]⟩] 9)) := by kernel_rfl
theorem wpList_store_row {P : Program} {ops : Array Oper} {rest : List Oper} {o : Oper} {a : Act} {w w' : World} {Q : Exit → Act → World → Prop} {cs : Array Value} (hgd : o.guard = none) (ty : TypeId) (x y : Operand) (ho : o.op = .store ty x y)
    (g : Nat) (hx : a.eval x = .pointer (some ⟨g, 0, none⟩)) (hy : a.eval y = .agg cs) (hst : (Instr.storeAt ty (.pointer (some ⟨g, 0, none⟩)) (.agg cs)).run P w = .ok () w') (h : wpList P ops Q rest (a.put o.dst undef) w') : wpList P ops Q (o :: rest) a w :=
  wpList_plain hgd fun _ hK => wp_store_row ty x y ho g hx hy hst (hK _ _ h)
set_option maxRecDepth 100000 in
set_option maxHeartbeats 2000000 in
theorem cNames_calls (w : World) : Calls Tryz.prog 207 #[] w fun e w' => ∃ g, e = .returned (.slice (some ⟨g, 0, none⟩) 12 12) ∧ (w.heap.size ≤ g ∧ Blk w' g namV 9) ∧ Below w.heap.size w w' := by
  have hmk := mk12
  go_enter Tryz.func207, Tryz.ntmps207
  go_wp2_with fail
  refine (table_calls _).mono ?_
  rintro e w1 ⟨rfl, hb1⟩
  go_wp2_with (first
    | (with_reducible refine wpList_store_row (o := ⟨none, .store 236 _ _, _, _, _, _⟩) rfl 236 _ _ rfl w1.heap.size rfl rfl (run_storeAt_new w1 236 tabZ tabV (by kernel_rfl) rfl tabV_one) ?_
       have hbT := Blk.new w1 tabV 236)
    | (with_reducible refine wpList_load_row (o := ⟨_, .load 236 _, _, _, _, _⟩) rfl 236 _ rfl w1.heap.size rfl 236 tabV (0, 0) _ ?_ Tryz.underlying236 rfl ?_ ?_
       · exact hbT.alloc _
       · kernel_rfl))
  have hbN := Blk.new (w1.alloc (.cells tabV 236)) #[.string ⟨#[]⟩, .string ⟨#[]⟩, .string ⟨#[]⟩, .string ⟨#[]⟩, .string ⟨#[]⟩, .string ⟨#[]⟩, .string ⟨#[]⟩, .string ⟨#[]⟩, .string ⟨#[]⟩, .string ⟨#[]⟩, .string ⟨#[]⟩, .string ⟨#[]⟩] 9
  rw [World.size_alloc] at hbN
  have hB : Below w.heap.size w ((w1.alloc (.cells tabV 236)).alloc (.cells #[.string ⟨#[]⟩, .string ⟨#[]⟩, .string ⟨#[]⟩, .string ⟨#[]⟩, .string ⟨#[]⟩, .string ⟨#[]⟩, .string ⟨#[]⟩, .string ⟨#[]⟩, .string ⟨#[]⟩, .string ⟨#[]⟩, .string ⟨#[]⟩, .string ⟨#[]⟩] 9)) := (hb1.alloc hb1.size _).alloc (by have := hb1.size; simp; omega) _
  clear hbT hmk
  have hz := hb1.size
  have hG : w.heap.size ≤ w1.heap.size + 1 := by omega
  clear hb1 hz
  generalize (w1.alloc (.cells tabV 236)).alloc (.cells #[.string ⟨#[]⟩, .string ⟨#[]⟩, .string ⟨#[]⟩, .string ⟨#[]⟩, .string ⟨#[]⟩, .string ⟨#[]⟩, .string ⟨#[]⟩, .string ⟨#[]⟩, .string ⟨#[]⟩, .string ⟨#[]⟩, .string ⟨#[]⟩, .string ⟨#[]⟩] 9) = w2 at *
  generalize w1.heap.size + 1 = G at *
  go_loopw [8] (fun i wr => ∃ k : Nat, k ≤ 12 ∧ i = .int .i64 k ∧ (∃ vs : Array Value, vs.size = 12 ∧ (∀ j, j < k → vs[j]? = some (.string (tE j).1)) ∧ Blk wr G vs 9) ∧ Below w.heap.size w wr) (fun i _ => 12 - (intOf i).toNat)
  case atStart => exact ⟨0, by omega, rfl, ⟨_, rfl, fun j hj => by omega, hbN⟩, hB⟩
  case round =>
    clear hbN hB
    obtain ⟨k, hk, rfl, ⟨vs, hvs, hno, hb⟩, hB⟩ := hrel
    have HN := Lib.hid hno
    clear hno
    by_cases hkl : k < 12
    · have hix := tab_index k hkl
      have hd : decide (k < 12) = true := by simpa using hkl
      obtain ⟨old, hold⟩ : ∃ old, vs[k]? = some old := ⟨vs[k]'(by omega), by simp [show k < vs.size by omega]⟩
      generalize hnm : (tE k).1 = nm at hix
      generalize (tE k).2 = st at *
      have HNM := Lib.hid hnm
      clear hnm
      have hc := ((hb.alloc (.cells #[.string nm, .int .u64 (wd st 0), .int .u64 (wd st 1), .int .u64 (wd st 2), .int .u64 (wd st 3)] 235)).cell k).trans hold
      have hf := (hb.alloc (.cells #[.string nm, .int .u64 (wd st 0), .int .u64 (wd st 1), .int .u64 (wd st 2), .int .u64 (wd st 3)] 235)).frozen k
      go_wp2
      go_roundw
      case rel =>
        refine ⟨k + 1, by omega, by simp, ⟨vs.setIfInBounds k (.string nm), by simp [hvs], fun j hj => ?_, (hb.alloc _).set k _⟩, ?_⟩
        · by_cases hjk : j = k
          · subst hjk
            rw [HNM.out]
            simp [hvs, hkl]
          · rw [Array.getElem?_setIfInBounds_ne (Ne.symm hjk)]
            exact HN.out j (by omega)
        · exact below_set (hB.alloc hB.size _) hG _ _
      case measure => simp [intOf]; omega
    · obtain rfl : k = 12 := by omega
      have hv : vs = namV := by
        apply Array.ext
        · rw [hvs]; rfl
        · intro i h1 h2
          have e1 := HN.out i (by omega)
          have e2 := namV_get i (by omega)
          rw [Array.getElem?_eq_getElem h1] at e1
          rw [Array.getElem?_eq_getElem h2] at e2
          exact Option.some.inj (e1.trans e2.symm)
      subst hv
      go_wp2
      go_ret
      exact ⟨G, rfl, ⟨hG, hb⟩, hB⟩
end Go.Proofs.YtbccojjcdcighaaGreatDoor

namespace Go.Proofs.YtbccojjcdcighaaGreatDoor
open Go.RowKit Go.Shelf BS
theorem ofB_self : ∀ k, k < 12 → ofB (tE k).1.toList = true := by decide +kernel
end Go.Proofs.YtbccojjcdcighaaGreatDoor

namespace Go.Proofs.YtbccojjcdcighaaGreatDoor
open Go.RowKit BS
structure BR where
  set : BitVec 256
  pos : Nat
  err : Nat
  place : Nat
  fin : Bool
  neg : Bool
def badR (e p : Nat) : BR := ⟨0, 0, e, p, false, false⟩
def addR (x : BR) (lo hi pos : Nat) : BR := ⟨x.set ||| range lo hi, pos, x.err, x.place, x.fin, x.neg⟩
def spec3 (b : Nat) : Bool := b == 58 || b == 46 || b == 61
def nameR (s : ByteArray) (fr : Nat) (x : BR) : Nat → Nat → BR
  | 0, _ => badR 2 s.size
  | n + 1, j =>
    if bt s j = 58 then
      if ofB (s.extract fr j).toList = false then badR 5 (j + 1)
      else if s.size ≤ j + 1 then badR 2 s.size
      else if bt s (j + 1) ≠ 93 then badR 3 (j + 2)
      else ⟨x.set ||| ofS (s.extract fr j).toList, j + 2, x.err, x.place, x.fin, x.neg⟩
    else if begB (s.extract fr (j + 1)) = false then badR 5 (j + 1)
    else nameR s fr x n (j + 1)
def thingR (s : ByteArray) (x : BR) (first : Bool) : BR :=
  let i := x.pos
  if s.size ≤ i then badR 2 s.size
  else if bt s i = 93 ∧ first = false then ⟨x.set, i + 1, x.err, x.place, true, x.neg⟩
  else if s.size ≤ i + 1 then badR 2 s.size
  else if bt s i = 91 ∧ bt s (i + 1) = 58 then nameR s (i + 2) x (s.size - (i + 2)) (i + 2)
  else if bt s i = 91 ∧ spec3 (bt s (i + 1)) = true then badR 3 (i + 2)
  else if bt s (i + 1) ≠ 45 then addR x (bt s i) (bt s i) (i + 1)
  else if s.size ≤ i + 2 then badR 2 s.size
  else if bt s (i + 2) = 93 then addR x (bt s i) (bt s i) (i + 1)
  else if bt s (i + 2) < bt s i then badR 4 (i + 3)
  else if bt s (i + 2) = 91 ∧ s.size ≤ i + 3 then badR 2 s.size
  else if bt s (i + 2) = 91 ∧ spec3 (bt s (i + 3)) = true then badR 3 (i + 4)
  else addR x (bt s i) (bt s (i + 2)) (i + 3)
def loopR (s : ByteArray) : Nat → BR → Bool → BR
  | 0, x, _ => x
  | n + 1, x, first =>
    if x.fin = true then x
    else if (thingR s x first).err ≠ 0 then thingR s x first
    else loopR s n (thingR s x first) false
def startR (s : ByteArray) (a : Nat) : BR := if a + 1 < s.size ∧ bt s (a + 1) = 94 then ⟨0, a + 2, 0, 0, false, true⟩ else ⟨0, a + 1, 0, 0, false, false⟩
def finR (x : BR) : BitVec 256 × Nat × Nat × Nat := if x.err ≠ 0 then (0, 0, x.err, x.place) else (if x.neg = true then ~~~x.set else x.set, x.pos, 0, 0)
def readR (s : ByteArray) (at' : Int) : BitVec 256 × Nat × Nat × Nat :=
  if at' < 0 then (0, 0, 1, 0)
  else if s.size ≤ at'.toNat ∨ bt s at'.toNat ≠ 91 then (0, 0, 1, 0)
  else finR (loopR s (s.size + 1) (startR s at'.toNat) true)
end Go.Proofs.YtbccojjcdcighaaGreatDoor

namespace Go.Proofs.YtbccojjcdcighaaGreatDoor
open Go.RowKit BS
theorem nameR_ok (s : ByteArray) (fr : Nat) (x : BR) : ∀ n j, n = s.size - j → (nameR s fr x n j).err = 0 → j < (nameR s fr x n j).pos ∧ (nameR s fr x n j).pos ≤ s.size ∧ (nameR s fr x n j).neg = x.neg ∧ (nameR s fr x n j).fin = x.fin
  | 0, j, _, h => by simp [nameR, badR] at h
  | n + 1, j, hn, h => by
    unfold nameR at h ⊢
    split at h
    · rename_i hc
      rw [if_pos hc]
      split at h
      · simp [badR] at h
      · rename_i h1
        rw [if_neg h1]
        split at h
        · simp [badR] at h
        · rename_i h2
          rw [if_neg h2]
          split at h
          · simp [badR] at h
          · rename_i h3
            rw [if_neg h3]
            exact ⟨by simp only; omega, by simp only; omega, rfl, rfl⟩
    · rename_i hc
      rw [if_neg hc]
      split at h
      · simp [badR] at h
      · rename_i h1
        rw [if_neg h1]
        have := nameR_ok s fr x n (j + 1) (by omega) h
        exact ⟨by omega, this.2.1, this.2.2⟩
theorem ite_ok {α : Type} (P : α → Prop) {c : Prop} [Decidable c] {a b : α} (h1 : c → P a) (h2 : ¬ c → P b) : P (if c then a else b) := by
  by_cases h : c
  · rw [if_pos h]; exact h1 h
  · rw [if_neg h]; exact h2 h
def OkB (s : ByteArray) (x r : BR) : Prop := r.err = 0 → x.pos < r.pos ∧ r.pos ≤ s.size ∧ r.neg = x.neg
theorem okB_bad (s : ByteArray) (x : BR) (e p : Nat) : OkB s x (badR (e + 1) p) := fun h => by simp [badR] at h
theorem okB_add (s : ByteArray) (x : BR) (lo hi p : Nat) (h1 : x.pos < p) (h2 : p ≤ s.size) : OkB s x (addR x lo hi p) := fun _ => ⟨h1, h2, rfl⟩
theorem thingR_okB (s : ByteArray) (x : BR) (first : Bool) : OkB s x (thingR s x first) := by
  unfold thingR
  refine ite_ok _ (fun _ => okB_bad _ _ 1 _) (fun hA => ?_)
  refine ite_ok _ (fun _ _ => ⟨Nat.lt_succ_self _, by simp only; omega, rfl⟩) (fun _ => ?_)
  refine ite_ok _ (fun _ => okB_bad _ _ 1 _) (fun hC => ?_)
  refine ite_ok _ (fun _ h => ?_) (fun _ => ?_)
  · have := nameR_ok s (x.pos + 2) x (s.size - (x.pos + 2)) (x.pos + 2) rfl h
    exact ⟨by omega, this.2.1, this.2.2.1⟩
  refine ite_ok _ (fun _ => okB_bad _ _ 2 _) (fun _ => ?_)
  refine ite_ok _ (fun _ => okB_add _ _ _ _ _ (by omega) (by omega)) (fun _ => ?_)
  refine ite_ok _ (fun _ => okB_bad _ _ 1 _) (fun hG => ?_)
  refine ite_ok _ (fun _ => okB_add _ _ _ _ _ (by omega) (by omega)) (fun _ => ?_)
  refine ite_ok _ (fun _ => okB_bad _ _ 3 _) (fun _ => ?_)
  refine ite_ok _ (fun _ => okB_bad _ _ 1 _) (fun _ => ?_)
  refine ite_ok _ (fun _ => okB_bad _ _ 2 _) (fun _ => ?_)
  exact okB_add _ _ _ _ _ (by omega) (by omega)
theorem thingR_ok (s : ByteArray) (x : BR) (first : Bool) (h : (thingR s x first).err = 0) : x.pos < (thingR s x first).pos ∧ (thingR s x first).pos ≤ s.size ∧ (thingR s x first).neg = x.neg := thingR_okB s x first h
theorem loopR_fin (s : ByteArray) (n : Nat) (x : BR) (first : Bool) (h : x.fin = true) : loopR s (n + 1) x first = x := by rw [loopR, if_pos h]
theorem loopR_err (s : ByteArray) (n : Nat) (x : BR) (first : Bool) (h : x.fin = false) (he : (thingR s x first).err ≠ 0) : loopR s (n + 1) x first = thingR s x first := by rw [loopR, if_neg (by rw [h]; decide), if_pos he]
theorem loopR_on (s : ByteArray) (n : Nat) (x : BR) (first : Bool) (h : x.fin = false) (he : (thingR s x first).err = 0) : loopR s (n + 1) x first = loopR s n (thingR s x first) false := by rw [loopR, if_neg (by rw [h]; decide), if_neg (by rw [he]; decide)]
end Go.Proofs.YtbccojjcdcighaaGreatDoor

namespace Go.Proofs.YtbccojjcdcighaaGreatDoor
open Go.RowKit Go.Shelf BS
theorem nameR_col (s : ByteArray) (fr : Nat) (x : BR) (n j : Nat) (h : bt s j = 58) : nameR s fr x (n + 1) j =
    if ofB (s.extract fr j).toList = false then badR 5 (j + 1)
      else if s.size ≤ j + 1 then badR 2 s.size
      else if bt s (j + 1) ≠ 93 then badR 3 (j + 2)
      else ⟨x.set ||| ofS (s.extract fr j).toList, j + 2, x.err, x.place, x.fin, x.neg⟩ := by rw [nameR, if_pos h]
theorem nameR_not (s : ByteArray) (fr : Nat) (x : BR) (n j : Nat) (h : ¬ bt s j = 58) : nameR s fr x (n + 1) j = if begB (s.extract fr (j + 1)) = false then badR 5 (j + 1) else nameR s fr x n (j + 1) := by rw [nameR, if_neg h]
end Go.Proofs.YtbccojjcdcighaaGreatDoor

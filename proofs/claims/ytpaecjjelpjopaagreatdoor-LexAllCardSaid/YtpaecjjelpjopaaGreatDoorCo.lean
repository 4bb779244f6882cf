/- class.Of, Begins, Find, Names, Any: as the table says. -/
import Derived.Test.YtpaecjjelpjopaaGreatDoorCp
import Derived.Test.YtpaecjjelpjopaaGreatDoorRb
import Derived.Test.YtpaecjjelpjopaaGreatDoorP1
import Derived.Laws.ResultCell
namespace Go.Proofs.YtpaecjjelpjopaaGreatDoor
open Go.RowKit Go.Shelf BS

theorem ret_bool' {a b : Bool} (h : a = b) : Ending.returned (.bool a) = .returned (.bool b) := by rw [h]

set_option maxRecDepth 100000 in
set_option maxHeartbeats 2000000 in
theorem cOf_calls (name : ByteArray) (w : World) : Calls Tryz.prog 148 #[.string name] w fun e w' => e = .returned (.tuple #[setV (ofS name.toList), .bool (ofB name.toList)]) ∧ Below w.heap.size w w' := by
  have b0 := Blk.new w (setA 0) 25
  have hB0 : Below w.heap.size w (w.alloc (.cells (setA 0) 25)) := by go_grown
  go_enter Tryz.func148, Tryz.ntmps148
  go_wp2_with fail
  refine (table_calls _).mono ?_
  rintro e w1 ⟨rfl, hb1⟩
  replace b0 := b0.below hb1 (by simp)
  replace hB0 := hB0.trans (hb1.mono (by simp))
  clear hb1
  go_wp2_with fail
  go_loopw [7] (fun i wr => ∃ k : Nat, k ≤ 12 ∧ i = .int .i64 k ∧ (∀ j, j < k → (tE j).1.toList ≠ name.toList) ∧ Blk wr w.heap.size (setA 0) 25 ∧ Below w.heap.size w wr) (fun i _ => 12 - (intOf i).toNat)
  case atStart => exact ⟨0, by omega, rfl, fun j hj => by omega, b0, hB0⟩
  case round =>
    clear b0 hB0
    obtain ⟨k, hk, rfl, hno, hb, hB⟩ := hrel
    have HN := Lib.hid hno
    clear hno
    by_cases hkl : k < 12
    · have hix := tab_index k hkl
      by_cases hq : (tE k).1.toList = name.toList
      · have HS := Lib.hid (ofS_at name.toList k hkl HN.out hq)
        have HO := Lib.hid (ofB_at name.toList k hkl HN.out hq)
        have hqb : ((tE k).1.toList == name.toList) = true := beq_iff_eq.2 hq
        clear hq
        generalize (tE k).1 = nm at *
        generalize (tE k).2 = st at *
        obtain ⟨⟨c0, c1, c2, c3⟩, f0, f1, f2, f3⟩ := hb.cells4
        have hlt := hb.lt
        have hne : w.heap.size ≠ wr.heap.size := by omega
        go_wp2
        obtain ⟨hR, hBB⟩ := fin4 hb hB (Nat.le_refl _) st
        replace hR := hR.alloc (.cells #[.string nm, .int .u64 (wd st 0), .int .u64 (wd st 1), .int .u64 (wd st 2), .int .u64 (wd st 3)] 171)
        replace hBB := hBB.alloc (by simp; omega) (.cells #[.string nm, .int .u64 (wd st 0), .int .u64 (wd st 1), .int .u64 (wd st 2), .int .u64 (wd st 3)] 171)
        clear c0 c1 c2 c3 f0 f1 f2 f3 hb hB hix hqb
        generalize (((((wr.setCell ⟨w.heap.size, 0, none⟩ (.int .u64 (wd st 0))).setCell ⟨w.heap.size, 1, none⟩ (.int .u64 (wd st 1))).setCell ⟨w.heap.size, 2, none⟩ (.int .u64 (wd st 2))).setCell ⟨w.heap.size, 3, none⟩ (.int .u64 (wd st 3))).alloc (.cells #[.string nm, .int .u64 (wd st 0), .int .u64 (wd st 1), .int .u64 (wd st 2), .int .u64 (wd st 3)] 171)) = W4 at *
        obtain ⟨⟨e0, e1, e2, e3⟩, _⟩ := hR.cells4
        exact bodyPost_ret (v := .tuple #[setV st, .bool true]) (by simp [results, Tryz.results148, go_sem, e0, e1, e2, e3]) rfl ⟨by rw [HS.out, HO.out], hBB⟩
      · have hqb : ((tE k).1.toList == name.toList) = false := beq_eq_false_iff_ne.2 hq
        have HQ := Lib.hid hq
        clear hq
        generalize hnm : (tE k).1 = nm at hqb hix
        generalize (tE k).2 = st at *
        have HNM := Lib.hid hnm
        clear hnm
        go_wp2
        go_roundw
        case rel =>
          refine ⟨k + 1, by omega, by simp, fun j hj => ?_, hb.alloc _, hB.alloc hB.size _⟩
          by_cases hjk : j = k
          · subst hjk; exact HQ.out
          · exact HN.out j (by omega)
        case measure => simp [intOf]; omega
    · obtain rfl : k = 12 := by omega
      obtain ⟨⟨c0, c1, c2, c3⟩, f0, f1, f2, f3⟩ := hb.cells4
      go_wp2
      obtain ⟨hR, hBB⟩ := fin4 hb hB (Nat.le_refl _) 0
      have e9 : ((((wr.setCell ⟨w.heap.size, 0, none⟩ (.int .u64 0)).setCell ⟨w.heap.size, 1, none⟩ (.int .u64 0)).setCell ⟨w.heap.size, 2, none⟩ (.int .u64 0)).setCell ⟨w.heap.size, 3, none⟩ (.int .u64 0)) = ((((wr.setCell ⟨w.heap.size, 0, none⟩ (.int .u64 (wd 0 0))).setCell ⟨w.heap.size, 1, none⟩ (.int .u64 (wd 0 1))).setCell ⟨w.heap.size, 2, none⟩ (.int .u64 (wd 0 2))).setCell ⟨w.heap.size, 3, none⟩ (.int .u64 (wd 0 3))) := rfl
      rw [e9]
      clear e9 c0 c1 c2 c3 f0 f1 f2 f3 hb hB
      generalize ((((wr.setCell ⟨w.heap.size, 0, none⟩ (.int .u64 (wd 0 0))).setCell ⟨w.heap.size, 1, none⟩ (.int .u64 (wd 0 1))).setCell ⟨w.heap.size, 2, none⟩ (.int .u64 (wd 0 2))).setCell ⟨w.heap.size, 3, none⟩ (.int .u64 (wd 0 3))) = W4 at *
      obtain ⟨⟨e0, e1, e2, e3⟩, _⟩ := hR.cells4
      exact bodyPost_ret (v := .tuple #[setV 0, .bool false]) (by simp [results, Tryz.results148, go_sem, e0, e1, e2, e3]) rfl ⟨by rw [ofS_not _ HN.out, ofB_not _ HN.out], hBB⟩

/-! ### Begins -/
def pfx (nm s : ByteArray) : Bool := decide (s.size ≤ nm.size) && ((nm.extract 0 s.size).toList == s.toList)
def begB (l : ByteArray) : Bool := tabL.any fun e => pfx e.1 l
theorem begB_at (l : ByteArray) (k : Nat) (hk : k < 12) (h : pfx (tE k).1 l = true) : begB l = true := by
  unfold begB
  rw [List.any_eq_true]
  exact ⟨tabL[k], List.getElem_mem _, by rw [← tE_eq k hk]; exact h⟩
theorem begB_not (l : ByteArray) (hf : ∀ j, j < 12 → pfx (tE j).1 l = false) : begB l = false := by
  unfold begB
  rw [List.any_eq_false]
  intro x hx
  obtain ⟨j, hj, rfl⟩ := List.getElem_of_mem hx
  rw [← tE_eq j hj, hf j hj]
  simp

set_option maxHeartbeats 1000000 in
theorem hp1_calls (s p : ByteArray) (_hs : s.size ≤ 9223372036854775807) (_hp : p.size ≤ 9223372036854775807) (w : World) : Calls Tryz.prog 155 #[.string s, .string p] w fun e w' => e = .returned (.bool (pfx s p)) ∧ w = w' := by
  by_cases hl : p.size ≤ s.size
  · have h1 : decide (p.size ≤ s.size) = true := by simpa using hl
    go_enter Tryz.func155, Tryz.ntmps155
    go_wp2
    go_ret
    exact ⟨ret_bool' (by simp only [pfx, h1, Bool.true_and]), rfl⟩
  · have h1 : decide (p.size ≤ s.size) = false := by simpa using hl
    go_enter Tryz.func155, Tryz.ntmps155
    go_wp2
    go_ret
    exact ⟨ret_bool' (by simp only [pfx, h1, Bool.false_and]), rfl⟩
set_option maxHeartbeats 1000000 in
theorem hp_calls (s p : ByteArray) (hs : s.size ≤ 9223372036854775807) (hp : p.size ≤ 9223372036854775807) (w : World) : Calls Tryz.prog 152 #[.string s, .string p] w fun e w' => e = .returned (.bool (pfx s p)) ∧ w = w' := by
  go_enter Tryz.func152, Tryz.ntmps152
  go_wp2_with (go_at_call 155; refine (hp1_calls s p hs hp _).mono ?_; rintro e w' ⟨rfl, rfl⟩)
  go_ret
  exact ⟨rfl, rfl⟩
theorem tE_size (k : Nat) (hk : k < 12) : (tE k).1.size ≤ 9223372036854775807 := by
  have h : ∀ j, j < 12 → decide ((tE j).1.size ≤ 9223372036854775807) = true := by decide +kernel
  simpa using h k hk

set_option maxRecDepth 100000 in
set_option maxHeartbeats 2000000 in
theorem cBegins_calls (s : ByteArray) (hs : s.size ≤ 9223372036854775807) (w : World) : Calls Tryz.prog 147 #[.string s] w fun e w' => e = .returned (.bool (begB s)) ∧ Below w.heap.size w w' := by
  go_enter Tryz.func147, Tryz.ntmps147
  go_wp2_with fail
  refine (table_calls _).mono ?_
  rintro e w1 ⟨rfl, hb1⟩
  go_wp2_with fail
  go_loopw [6] (fun i wr => ∃ k : Nat, k ≤ 12 ∧ i = .int .i64 k ∧ (∀ j, j < k → pfx (tE j).1 s = false) ∧ Below w.heap.size w wr) (fun i _ => 12 - (intOf i).toNat)
  case atStart => exact ⟨0, by omega, rfl, fun j hj => by omega, hb1⟩
  case round =>
    clear hb1
    obtain ⟨k, hk, rfl, hno, hB⟩ := hrel
    have HN := Lib.hid hno
    clear hno
    by_cases hkl : k < 12
    · have hix := tab_index k hkl
      have hnz := tE_size k hkl
      cases hq : pfx (tE k).1 s with
      | true =>
        have HS := Lib.hid (begB_at s k hkl hq)
        have HQ := Lib.hid hq
        clear hq
        generalize (tE k).1 = nm at *
        generalize (tE k).2 = st at *
        go_wp2_with (go_at_call 152; refine (hp_calls nm s hnz hs _).mono ?_; rintro e w' ⟨rfl, rfl⟩; rw [HQ.out])
        go_ret
        exact ⟨by rw [HS.out]; rfl, hB.alloc hB.size _⟩
      | false =>
        have HQ := Lib.hid hq
        clear hq
        generalize hnm : (tE k).1 = nm at hix hnz
        generalize (tE k).2 = st at *
        have HNM := Lib.hid hnm
        clear hnm
        go_wp2_with (go_at_call 152; refine (hp_calls nm s hnz hs _).mono ?_; rintro e w' ⟨rfl, rfl⟩; rw [← HNM.out, HQ.out])
        go_roundw
        case rel =>
          refine ⟨k + 1, by omega, by simp, fun j hj => ?_, hB.alloc hB.size _⟩
          by_cases hjk : j = k
          · subst hjk; exact HQ.out
          · exact HN.out j (by omega)
        case measure => simp [intOf]; omega
    · obtain rfl : k = 12 := by omega
      go_wp2
      go_ret
      exact ⟨by rw [begB_not _ HN.out]; rfl, hB⟩

/-! ### Find -/
def fndS (s : BitVec 256) : ByteArray := ((tabL.find? fun e => e.2 == s).map (·.1)).getD ⟨#[]⟩
theorem fndS_at (s : BitVec 256) (k : Nat) (hk : k < 12) (hf : ∀ j, j < k → (tE j).2 ≠ s) (h : (tE k).2 = s) : fndS s = (tE k).1 := by
  have h1 : (tabL.find? fun e => e.2 == s) = some (tE k) := by
    rw [tE_eq k hk]
    refine find_at _ tabL k hk (fun j hj => ?_) ?_
    · have := hf j hj
      rw [tE_eq j (by omega)] at this
      exact beq_eq_false_iff_ne.2 this
    · rw [tE_eq k hk] at h
      exact beq_iff_eq.2 h
  rw [fndS, h1]; rfl
theorem fndS_not (s : BitVec 256) (hf : ∀ j, j < 12 → (tE j).2 ≠ s) : fndS s = ⟨#[]⟩ := by
  have h1 : (tabL.find? fun e => e.2 == s) = none := by
    refine find_not _ tabL fun j hj => ?_
    have := hf j hj
    rw [tE_eq j hj] at this
    exact beq_eq_false_iff_ne.2 this
  rw [fndS, h1]; rfl

set_option maxHeartbeats 1000000 in
theorem cAny_calls (w : World) : Calls Tryz.prog 24 #[] w fun e w' => e = .returned (setV (~~~(0 : BitVec 256))) ∧ Below w.heap.size w w' := by
  have b0 := Blk.new w (setA 0) 25
  have hB0 : Below w.heap.size w (w.alloc (.cells (setA 0) 25)) := by go_grown
  go_enter Tryz.func24, Tryz.ntmps24
  go_wp2_with fail
  refine (not_calls 0 _).mono ?_
  rintro e w1 ⟨rfl, hb1⟩
  replace b0 := b0.below hb1 (by simp)
  replace hB0 := hB0.trans (hb1.mono (by simp))
  clear hb1
  obtain ⟨⟨c0, c1, c2, c3⟩, f0, f1, f2, f3⟩ := b0.cells4
  generalize ht : (~~~(0 : BitVec 256)) = t at *
  have HT := Lib.hid ht
  clear ht
  go_wp2
  obtain ⟨hR, hBB⟩ := fin4 b0 hB0 (Nat.le_refl _) t
  clear c0 c1 c2 c3 f0 f1 f2 f3 b0 hB0
  generalize ((((w1.setCell ⟨w.heap.size, 0, none⟩ (.int .u64 (wd t 0))).setCell ⟨w.heap.size, 1, none⟩ (.int .u64 (wd t 1))).setCell ⟨w.heap.size, 2, none⟩ (.int .u64 (wd t 2))).setCell ⟨w.heap.size, 3, none⟩ (.int .u64 (wd t 3))) = W4 at *
  obtain ⟨⟨e0, e1, e2, e3⟩, _⟩ := hR.cells4
  exact bodyPost_ret (v := setV t) (by simp [results, Tryz.results24, go_sem, e0, e1, e2, e3]) rfl ⟨by rw [HT.out], hBB⟩
end Go.Proofs.YtpaecjjelpjopaaGreatDoor

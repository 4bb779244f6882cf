/- The document's classes: Of, Begins, Find. -/
import Derived.Test.YtpaecjjelpjopaaGreatDoorCo
import Derived.Test.YtpaecjjelpjopaaGreatDoorCn
namespace Go.Proofs.YtpaecjjelpjopaaGreatDoor
open Go.RowKit Go.Shelf BS

def SI (w : World) (f : Nat → Bool) (W : World) : Prop :=
  ∃ arr, Bools arr f ∧ (Blk W w.heap.size (setA 0) 25 ∧ Blk W (w.heap.size + 1) arr 72) ∧ Below w.heap.size w W
def NamAt (g : Nat) (W : World) : Prop := Blk W g namV 9
theorem NamAt.cell {g : Nat} {W : World} (h : NamAt g W) (k : Nat) (hk : k < 12) : W.cell? ⟨g, k, none⟩ = some (.string (tE k).1) := (Blk.cell h k).trans (namV_get k hk)

set_option maxRecDepth 100000 in
set_option maxHeartbeats 4000000 in
theorem rOf_calls (name : ByteArray) (w : World) : Calls Tryz.prog 63 #[.string name] w fun e w' => e = .returned (.tuple #[setV (ofS name.toList), .bool (ofB name.toList)]) ∧ Below w.heap.size w w' := by
  obtain ⟨zs, hzb, hz⟩ := zeroBools
  have h0 : SI w (fun j => decide (j < 0) && isC name.toList (j : Int)) ((w.alloc (.cells (setA 0) 25)).alloc (.cells zs 72)) := by
    refine ⟨zs, hzb.congr (fun j _ => by simp), ⟨(Blk.new w _ _).alloc _, ?_⟩, by go_grown⟩
    have := Blk.new (w.alloc (.cells (setA 0) 25)) zs 72
    rwa [World.size_alloc] at this
  clear hzb
  go_enter Tryz.func63, Tryz.ntmps63
  go_wp2_with fail
  have e0 : (w.alloc (.cells #[.int .u64 0, .int .u64 0, .int .u64 0, .int .u64 0] 25)).alloc (.cells zs 72) = (w.alloc (.cells (setA 0) 25)).alloc (.cells zs 72) := rfl
  rw [e0]
  clear e0 hz
  generalize (w.alloc (.cells (setA 0) 25)).alloc (.cells zs 72) = w1 at *
  go_loopw [5] (fun i wr => ∃ k : Nat, k ≤ 256 ∧ i = .int .i64 k ∧ SI w (fun j => decide (j < k) && isC name.toList (j : Int)) wr) (fun i _ => 256 - (intOf i).toNat)
  case atStart => exact ⟨0, by omega, rfl, h0⟩
  case round =>
    clear h0
    obtain ⟨k, hk, rfl, arr, hb, ⟨bR, bL⟩, hB⟩ := hrel
    by_cases hkl : k < 256
    · have hc := (bL.cell k).trans (hb.2 k hkl)
      have hf := bL.frozen k
      have HB := Lib.hid hb
      clear hb
      go_wp2_with (go_at_call 68; refine (is_calls _ _ _).mono ?_; rintro e w' ⟨rfl, rfl⟩)
      go_roundw
      case rel =>
        refine ⟨k + 1, by omega, by simp, _, (HB.out.set k (isC name.toList (k : Int))).congr ?_, ⟨bR.other (by omega) _ _, bL.set k _⟩, below_set hB (by omega) _ _⟩
        intro j _
        by_cases hjk : j = k
        · subst hjk; simp
        · have : (j < k + 1) ↔ (j < k) := by omega
          simp [hjk, this]
      case measure => simp [intOf]; omega
    · obtain rfl : k = 256 := by omega
      replace hb := hb.congr (g := fun j => isC name.toList (j : Int)) (fun j hj => by simp [hj])
      have HO := Lib.hid (of_calls arr _ hb)
      have hi3 : (Tryz.prog.info? 72).map (·.size) = some arr.size := by rw [hb.1]; exact infoBools
      have HI := Lib.hid hi3
      clear hb hi3
      go_wp2_with fail
      refine (rNames_calls _).mono ?_
      rintro e w2 ⟨g, rfl, ⟨hg, hN⟩, hb2⟩
      have bR2 := bR.below hb2 bR.lt
      have bL2 := bL.below hb2 bL.lt
      have hB2 := hB.trans (hb2.mono hB.size)
      have hg1 : w.heap.size < g := Nat.lt_of_lt_of_le bR.lt hg
      have hg2 : w.heap.size + 1 < g := Nat.lt_of_lt_of_le bL.lt hg
      have HN : Hid (NamAt g w2) := Lib.hid hN
      clear hN hg hb2 bR bL hB
      go_wp2_with fail
      go_loopw [7] (fun i wr => ∃ k : Nat, k ≤ 12 ∧ i = .int .i64 k ∧ (∀ j, j < k → (tE j).1.toList ≠ name.toList) ∧ w2 = wr) (fun i _ => 12 - (intOf i).toNat)
      case atStart => exact ⟨0, by omega, rfl, fun j hj => by omega, rfl⟩
      case round =>
        obtain ⟨k, hk, rfl, hno, rfl⟩ := hrel
        have HNO := Lib.hid hno
        clear hno
        by_cases hkl : k < 12
        · have hcn := HN.out.cell k hkl
          by_cases hq : (tE k).1.toList = name.toList
          · have HS := Lib.hid (ofS_at name.toList k hkl HNO.out hq)
            have HO2 := Lib.hid (ofB_at name.toList k hkl HNO.out hq)
            have HI2 := Lib.hid (isS_of name.toList k hkl hq)
            have hqb : ((tE k).1.toList == name.toList) = true := beq_iff_eq.2 hq
            clear hq
            generalize (tE k).1 = nm at *
            have HL := Lib.hid bL2
            have HB2 := Lib.hid hB2
            clear bL2 hB2
            go_wp2_with (refine wpList_load_row rfl 72 _ rfl (w.heap.size + 1) rfl 72 arr (0, 0) _ HL.out Tryz.underlying72 rfl HI.out ?_)
            refine (HO.out _).mono ?_
            rintro e w3 ⟨rfl, hb3⟩
            have bR3 := bR2.below hb3 bR2.lt
            have hB3 := HB2.out.trans (hb3.mono HB2.out.size)
            obtain ⟨⟨d0, d1, d2, d3⟩, g0, g1, g2, g3⟩ := bR3.cells4
            clear hb3 bR2 hcn hqb
            have ht : ofFn (fun j => isC name.toList (j : Int)) = (tE k).2 := HI2.out
            rw [ht]
            clear ht
            generalize hst : (tE k).2 = t at *
            have HT := Lib.hid hst
            clear hst
            go_wp2
            obtain ⟨hR, hBB⟩ := fin4 bR3 hB3 (Nat.le_refl _) t
            clear d0 d1 d2 d3 g0 g1 g2 g3 bR3 hB3
            generalize (((w3.setCell ⟨w.heap.size, 0, none⟩ (.int .u64 (wd t 0))).setCell ⟨w.heap.size, 1, none⟩ (.int .u64 (wd t 1))).setCell ⟨w.heap.size, 2, none⟩ (.int .u64 (wd t 2))).setCell ⟨w.heap.size, 3, none⟩ (.int .u64 (wd t 3)) = W4 at *
            obtain ⟨⟨e0, e1, e2, e3⟩, _⟩ := hR.cells4
            refine bodyPost_ret (v := .tuple #[setV t, .bool true]) ?_ ?_ ?_
            · simp [results, Tryz.results63, go_sem, e0, e1, e2, e3]
            · rfl
            · exact ⟨by rw [HS.out, HO2.out], hBB⟩
          · have hqb : ((tE k).1.toList == name.toList) = false := beq_eq_false_iff_ne.2 hq
            have HQ := Lib.hid hq
            clear hq
            generalize hnm : (tE k).1 = nm at hqb hcn
            have HNM := Lib.hid hnm
            clear hnm
            go_wp2
            go_roundw
            case rel =>
              refine ⟨k + 1, by omega, by simp, fun j hj => ?_, trivial⟩
              by_cases hjk : j = k
              · subst hjk; exact HQ.out
              · exact HNO.out j (by omega)
            case measure => simp [intOf]; omega
        · obtain rfl : k = 12 := by omega
          obtain ⟨⟨c0, c1, c2, c3⟩, f0, f1, f2, f3⟩ := bR2.cells4
          go_wp2
          obtain ⟨hR, hBB⟩ := fin4 bR2 hB2 (Nat.le_refl _) 0
          have e9 : ((((w2.setCell ⟨w.heap.size, 0, none⟩ (.int .u64 0)).setCell ⟨w.heap.size, 1, none⟩ (.int .u64 0)).setCell ⟨w.heap.size, 2, none⟩ (.int .u64 0)).setCell ⟨w.heap.size, 3, none⟩ (.int .u64 0)) = ((((w2.setCell ⟨w.heap.size, 0, none⟩ (.int .u64 (wd 0 0))).setCell ⟨w.heap.size, 1, none⟩ (.int .u64 (wd 0 1))).setCell ⟨w.heap.size, 2, none⟩ (.int .u64 (wd 0 2))).setCell ⟨w.heap.size, 3, none⟩ (.int .u64 (wd 0 3))) := rfl
          rw [e9]
          clear e9 c0 c1 c2 c3 f0 f1 f2 f3 bR2 hB2
          generalize ((((w2.setCell ⟨w.heap.size, 0, none⟩ (.int .u64 (wd 0 0))).setCell ⟨w.heap.size, 1, none⟩ (.int .u64 (wd 0 1))).setCell ⟨w.heap.size, 2, none⟩ (.int .u64 (wd 0 2))).setCell ⟨w.heap.size, 3, none⟩ (.int .u64 (wd 0 3))) = W4 at *
          obtain ⟨⟨e0, e1, e2, e3⟩, _⟩ := hR.cells4
          exact bodyPost_ret (v := .tuple #[setV 0, .bool false]) (by simp [results, Tryz.results63, go_sem, e0, e1, e2, e3]) rfl ⟨by rw [ofS_not _ HNO.out, ofB_not _ HNO.out], hBB⟩

set_option maxRecDepth 100000 in
set_option maxHeartbeats 4000000 in
theorem rBegins_calls (s : ByteArray) (_hs : s.size ≤ 9223372036854775807) (w : World) : Calls Tryz.prog 64 #[.string s] w fun e w' => e = .returned (.bool (begB s)) ∧ Below w.heap.size w w' := by
  go_enter Tryz.func64, Tryz.ntmps64
  go_wp2_with fail
  refine (rNames_calls _).mono ?_
  rintro e w2 ⟨g, rfl, ⟨hg, hN⟩, hb2⟩
  have HN : Hid (NamAt g w2) := Lib.hid hN
  clear hN hg
  go_wp2_with fail
  go_loopw [4] (fun i wr => ∃ k : Nat, k ≤ 12 ∧ i = .int .i64 k ∧ (∀ j, j < k → pfx (tE j).1 s = false) ∧ w2 = wr) (fun i _ => 12 - (intOf i).toNat)
  case atStart => exact ⟨0, by omega, rfl, fun j hj => by omega, rfl⟩
  case round =>
    obtain ⟨k, hk, rfl, hno, rfl⟩ := hrel
    have HNO := Lib.hid hno
    clear hno
    by_cases hkl : k < 12
    · have hcn := HN.out.cell k hkl
      have hnz := tE_size k hkl
      have key : ∀ nm : ByteArray, (tE k).1 = nm → pfx (tE k).1 s = pfx nm s := fun nm h => by rw [h]
      cases hq : pfx (tE k).1 s with
      | true =>
        have HS := Lib.hid (begB_at s k hkl hq)
        generalize (tE k).1 = nm at *
        have hq' := hq
        simp only [pfx, Bool.and_eq_true, decide_eq_true_eq] at hq'
        obtain ⟨q1, q2⟩ := hq'
        have q3 : decide (s.size ≤ nm.size) = true := by simpa using q1
        clear hq key
        go_wp2
        go_ret
        exact ⟨by rw [HS.out]; rfl, hb2⟩
      | false =>
        have HQ := Lib.hid hq
        clear hq
        generalize hnm : (tE k).1 = nm at hcn hnz
        have hq' : pfx nm s = false := by rw [← key nm hnm]; exact HQ.out
        clear key
        have HNM := Lib.hid hnm
        clear hnm
        by_cases q1 : s.size ≤ nm.size
        · have q3 : decide (s.size ≤ nm.size) = true := by simpa using q1
          have q2 : ((nm.extract 0 s.size).toList == s.toList) = false := by simpa [pfx, q3] using hq'
          clear hq'
          go_wp2
          go_roundw
          case rel =>
            refine ⟨k + 1, by omega, by simp, fun j hj => ?_, trivial⟩
            by_cases hjk : j = k
            · subst hjk; exact HQ.out
            · exact HNO.out j (by omega)
          case measure => simp [intOf]; omega
        · have q3 : decide (s.size ≤ nm.size) = false := by simpa using q1
          clear hq'
          go_wp2
          go_roundw
          case rel =>
            refine ⟨k + 1, by omega, by simp, fun j hj => ?_, trivial⟩
            by_cases hjk : j = k
            · subst hjk; exact HQ.out
            · exact HNO.out j (by omega)
          case measure => simp [intOf]; omega
    · obtain rfl : k = 12 := by omega
      go_wp2
      go_ret
      exact ⟨by rw [begB_not _ HNO.out]; rfl, hb2⟩

theorem ofS_self : ∀ k, k < 12 → ofS (tE k).1.toList = (tE k).2
  | 0, _ => by decide +kernel
  | 1, _ => by decide +kernel
  | 2, _ => by decide +kernel
  | 3, _ => by decide +kernel
  | 4, _ => by decide +kernel
  | 5, _ => by decide +kernel
  | 6, _ => by decide +kernel
  | 7, _ => by decide +kernel
  | 8, _ => by decide +kernel
  | 9, _ => by decide +kernel
  | 10, _ => by decide +kernel
  | 11, _ => by decide +kernel
  | n + 12, h => by omega
theorem ofB_self : ∀ k, k < 12 → ofB (tE k).1.toList = true := by decide +kernel

end Go.Proofs.YtpaecjjelpjopaaGreatDoor

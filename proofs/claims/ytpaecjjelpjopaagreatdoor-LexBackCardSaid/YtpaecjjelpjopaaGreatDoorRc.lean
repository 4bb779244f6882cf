/- The document's sets, by the reference's own calls: Next, All, Runs. -/
import Derived.Test.YtpaecjjelpjopaaGreatDoorRb
import Derived.Test.YtpaecjjelpjopaaGreatDoorP3
namespace Go.Proofs.YtpaecjjelpjopaaGreatDoor
open Go.RowKit BS

theorem rhasN' (a : BitVec 256) (x : Nat) (w : World) (hx : x < 256) : Calls Tryz.prog 48 #[setV a, .int .i64 x] w fun e w' => e = .returned (.bool (a.getLsbD x)) ∧ Below w.heap.size w w' := by
  have h := rhas_calls a x w (by omega) (by omega)
  rw [Int.toNat_natCast] at h; exact h

theorem row_below {W W' : World} {base : Nat} {e : TypeId} {size : Nat} {v : Value} {n : Nat} {xs : List Value} (h : W.ownsRow base e size v n xs) (hb : Below W.heap.size W W') : W'.ownsRow base e size v n xs := by
  refine h.kept (row := none) ⟨hb.os, hb.tape, hb.output, hb.size, fun k hk _ => hb.block k hk⟩ ?_
  by_cases hv : v.ownBlock = none
  · exact .inl hv
  · exact .inr hv

theorem info1b : (Tryz.prog.info? 5).map (fun i => (i.zero, i.size, i.bytes)) = some (some (.int .u8 0), 1, 1) := by kernel_rfl
theorem Blk.news1 {W : World} {B : Nat} {a : Value} {t : TypeId} (h : Blk W B #[a] t) : ∀ j u, [a][j]? = some u → W.cell? ((⟨B, 0, none⟩ : Addr).add j) = some u := by
  intro j u hu
  rw [Addr.add_mid, Nat.zero_add, h.cell j]
  simpa using hu
def byteCells (l : List Nat) : List Value := l.map fun (x : Nat) => Value.int .u8 (x : Int)
theorem byteCells_snoc (l : List Nat) (x : Nat) : byteCells (l ++ [x]) = byteCells l ++ [.int .u8 (x : Int)] := by simp [byteCells]

set_option maxRecDepth 100000 in
set_option maxHeartbeats 1000000 in
/-- All, by the document. -/
theorem rall_calls (s : BitVec 256) (w : World) :
    Calls Tryz.prog 29 #[setV s] w fun e w' => ∃ v, e = .returned v ∧ w'.ownsRow w.heap.size 5 1 v (el s.getLsbD 256).length (byteCells (el s.getLsbD 256)) ∧ Below w.heap.size w w' := by
  obtain ⟨i0, hi, hz0, hz1, hz2⟩ := info_parts info1b
  have b0 := Blk.new w (setA s) 25
  have hB0 : Below w.heap.size w (w.alloc (.cells (setA s) 25)) := by go_grown
  go_enter Tryz.func29, Tryz.ntmps29
  go_wp2_with fail
  have e0 : w.alloc (.cells #[.int .u64 (wd s 0), .int .u64 (wd s 1), .int .u64 (wd s 2), .int .u64 (wd s 3)] 25) = w.alloc (.cells (setA s) 25) := rfl
  rw [e0]
  clear e0
  generalize w.alloc (.cells (setA s) 25) = w1 at *
  go_loopw [3, 4] (fun v i wr => ∃ k : Nat, k ≤ 256 ∧ i = .int .i64 k ∧ wr.ownsRow w.heap.size 5 1 v (el s.getLsbD k).length (byteCells (el s.getLsbD k)) ∧ Blk wr w.heap.size (setA s) 25 ∧ Below w.heap.size w wr) (fun _ i _ => 256 - (intOf i).toNat)
  case atStart => exact ⟨0, Nat.zero_le _, rfl, (by rw [el_zero]; exact World.ownsRow_nil _ _ _ _), b0, hB0⟩
  case round =>
    clear b0 hB0
    obtain ⟨k, hk, rfl, hr, hbk, hB⟩ := hrel
    obtain ⟨⟨c0, c1, c2, c3⟩, _⟩ := hbk.cells4
    by_cases hkl : k < 256
    · cases hx : s.getLsbD k with
      | false =>
        have HX := Lib.hid hx
        have HR := Lib.hid hr
        have BK := Lib.hid hbk
        have HB := Lib.hid hB
        clear hx hr hbk hB
        go_wp2_with (go_at_call 48; refine (rhasN' s k _ hkl).mono ?_; rintro e w2 ⟨rfl, hb2⟩; rw [HX.out])
        go_roundw
        case rel =>
          refine ⟨k + 1, by omega, by simp, ?_, BK.out.below hb2 BK.out.lt, HB.out.trans (hb2.mono HB.out.size)⟩
          rw [el_succ, HX.out]
          simpa using row_below HR.out hb2
        case measure => simp [intOf]; omega
      | true =>
        have HX := Lib.hid hx
        have hl := el_len s.getLsbD k
        have HE : Hid (el s.getLsbD (k + 1) = el s.getLsbD k ++ [k]) := by show el s.getLsbD (k + 1) = _; rw [el_succ, hx]; rfl
        clear hx
        generalize el s.getLsbD k = ls at *
        have BK := Lib.hid hbk
        have HB := Lib.hid hB
        clear hbk hB
        go_wp2_with (first
          | (go_at_call 48; refine (rhasN' s k _ hkl).mono ?_; rintro e w2 ⟨rfl, hb2⟩; rw [HX.out]
             have hr2 := row_below hr hb2
             have BK2 := Lib.hid (BK.out.below hb2 BK.out.lt)
             have HB2 := Lib.hid (HB.out.trans (hb2.mono HB.out.size))
             clear hr hb2 BK HB)
          | (at_builtin
             refine wpList_append_own _ rfl _ _ 59 rfl w.heap.size 5 i0 (.int .u8 0) 1 1 Tryz.underlying59 hi hz0 hz1 hz2 rfl (by decide) _ _ _ rfl (hr2.alloc _) ⟨w2.heap.size, 0, none⟩ 1 1 [.int .u8 (k : Nat)] rfl rfl (Blk.new w2 _ _).news1 (by simp [Value.oneCell']) (by unfold maxLen; omega) (by omega) (by have := HB2.out.size; simp; omega) ?_
             intro v' w3 hown' hgrow _
             have BK3 := Lib.hid ((BK2.out.alloc _).kept hgrow (BK2.out.not_own (by decide) hr2))
             have HB3 := Lib.hid ((HB2.out.alloc HB2.out.size _).grown hgrow (by have := HB2.out.size; simp; omega) (fun b hb => (hr2.lt b hb).1))
             have HO := Lib.hid hown'
             clear hown' hr2 BK2 HB2 hgrow))
        go_roundw
        case rel =>
          refine ⟨k + 1, by omega, by simp, ?_, BK3.out, HB3.out⟩
          rw [HE.out, byteCells_snoc]
          simpa using HO.out
        case measure => simp [intOf]; omega
    · obtain rfl : k = 256 := by omega
      go_wp2
      go_ret
      exact ⟨_, rfl, hr, hB⟩
end Go.Proofs.YtpaecjjelpjopaaGreatDoor

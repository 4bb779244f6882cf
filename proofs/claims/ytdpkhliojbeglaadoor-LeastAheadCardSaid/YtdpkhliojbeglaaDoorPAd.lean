/- Texts put together: Tui. -/
import Derived.Test.YtdpkhliojbeglaaDoorPAa
import Derived.Test.YtdpkhliojbeglaaDoorPX
/- The developers' chartOf. Stage 15. -/
namespace Go.Proofs.YtdpkhliojbeglaaDoor
open Go.RowKit BS

theorem infoRow : (Tryd.prog.info? 102).map (fun i => (i.zero.map Value.cells, i.size, i.bytes)) = some (some (List.replicate 260 (Value.int .u64 0)).toArray, 260, 2080) := by kernel_rfl
theorem makeRows (L : Nat) (hL : L ≤ 1000) (W : World) : ∃ Z : Array Value, Z.size = 260 ∧ (∀ x, x < 260 → Z[x]! = .int .u64 0) ∧
    (Instr.makeSlice 62 (.int .i64 (L : Int)) (.int .i64 (L : Int))).run Tryd.prog W = .ok (.slice (some ⟨W.heap.size, 0, none⟩) L L) (W.alloc (.cells (madeCells Z (L * 260)) 102)) := by
  obtain ⟨i, hi, hzz⟩ := Option.map_eq_some_iff.1 infoRow
  simp only [Prod.mk.injEq] at hzz
  obtain ⟨hz, hs, hb⟩ := hzz
  obtain ⟨z, hz1, hz2⟩ := Option.map_eq_some_iff.1 hz
  refine ⟨z.cells, by rw [hz2]; simp only [List.size_toArray, List.length_replicate], fun x hx => ?_, ?_⟩
  · rw [hz2]
    have : x < (List.replicate 260 (Value.int .u64 0)).toArray.size := by simp only [List.size_toArray, List.length_replicate]; exact hx
    rw [getElem!_pos _ x this]; simp only [List.getElem_toArray, List.getElem_replicate]
  · have := run_make (P := Tryd.prog) W 62 102 i _ Tryd.underlying62 hi hz1 .i64 .i64 L L (by omega) (by omega) (by rw [hb]; omega) (by omega)
    rw [hs, Int.toNat_natCast] at this
    exact this
theorem results_cellC {P : Program} {fn : Func} {p a : Tmp} {ty : TypeId} (h : fn.results = #[.cell p ty, .tmp a]) (tmps : Array Value) (w : World) (g : Nat) (t : TypeId) (cs : Array Value) (fr : Nat × Nat) (d : TypeDesc)
    (hp : tmps.getD p undef = .pointer (some ⟨g, 0, none⟩)) (hg : w.heap[g]? = some (.cells cs t fr))
    (hu : P.underlying ty = some d) (hd : (match d with | .struct _ | .array _ _ => true | _ => false) = true) (hi : (P.info? ty).map (·.size) = some cs.size) :
    (results fn tmps).run P w = .ok (.tuple #[.agg cs, tmps.getD a undef]) w := by
  have hp' : tmps[p]?.getD undef = .pointer (some ⟨g, 0, none⟩) := by simpa using hp
  simp [results, h, hp', asAddr, run_loadVar_row w g t ty cs fr d hg hu hd hi]
theorem NodesAt.kpA {l : List NdN} {a : Option Addr} {A : Nat → Prop} {W W' : World} (h : NodesAt l a W) (k : KpA A W W') (hA : ∀ g o, l ≠ [] → a = some ⟨g, o, none⟩ → ¬ A g) : NodesAt l a W' := fun hne => by
  obtain ⟨g, off, e, hg, hc⟩ := h hne
  exact ⟨g, off, e, Nat.lt_of_lt_of_le hg k.size, fun i hi j hj => (k.cell hg (hA g off hne e) (off + i * 8 + j)).trans (hc i hi j hj)⟩
theorem BtsAt.kpA {l : List Nat} {a : Option Addr} {A : Nat → Prop} {W W' : World} (h : BtsAt l a W) (k : KpA A W W') (hA : ∀ g o, l ≠ [] → a = some ⟨g, o, none⟩ → ¬ A g) : BtsAt l a W' := fun hne => by
  obtain ⟨g, off, e, hg, hc⟩ := h hne
  exact ⟨g, off, e, Nat.lt_of_lt_of_le hg k.size, fun i hi => (k.cell hg (hA g off hne e) (off + i)).trans (hc i hi)⟩
/-- No chart. -/
@[reducible] def chZ : Array Value := #[.slice none 0 0, .slice none 0 0, .slice none 0 0]
/-- What chartOf answers. -/
def ChR (l : List NdN) (w : List Nat) (lcp wcp : Nat) (la wa : Option Addr) (W : World) (e : Ending) (W' : World) : Prop :=
  (if rightT l = false then e = .returned (.tuple #[.agg chZ, .int .i64 11]) else if 64 < w.length then e = .returned (.tuple #[.agg chZ, .int .i64 12]) else
    ∃ B, W.heap.size ≤ B ∧ e = .returned (.tuple #[.agg (chA l.length w.length B lcp wcp la wa), .int .i64 0]) ∧ RowD l.length B (stQ l w l.length) W') ∧ Below W.heap.size W W'
set_option maxRecDepth 100000 in
set_option maxHeartbeats 16000000 in
theorem chartOf_calls (l : List NdN) (hl : l.length ≤ 1000) (w : List Nat) (hwn : w.length ≤ 1000000) (hw8 : ∀ x ∈ w, x < 256) (lcp wcp : Nat) (la wa : Option Addr) (W : World) (hN : NodesAt l la W) (hT : BtsAt w wa W) (hTab : Tab W) (hg : 0 < W.heap.size) :
    Calls Tryd.prog 28 #[.slice la l.length lcp, .slice wa w.length wcp] W fun e W' => ChR l w lcp wcp la wa W e W' := by
  have hB0 : Below W.heap.size W (W.alloc (.cells chZ 64)) := by go_grown
  have b0 := Blk.new W chZ 64
  have hz0 : (W.alloc (.cells chZ 64)).heap.size = W.heap.size + 1 := World.size_alloc ..
  have HR := Lib.hid (fun W' h => tmright_calls l hl la lcp W' h)
  have HN := Lib.hid (hN.below hB0)
  have HT := Lib.hid (hT.below hB0)
  have HTB := Lib.hid (hTab.keep hB0 hg)
  have HB := Lib.hid hB0
  have HBL := Lib.hid b0
  have HLA := Lib.hid (show ∀ g o, la = some ⟨g, o, none⟩ → l ≠ [] → g < W.heap.size from fun g o e hne => by
    obtain ⟨g', o', e', h1, _⟩ := hN hne; rw [e] at e'; cases e'; exact h1)
  have HWA := Lib.hid (show ∀ g o, wa = some ⟨g, o, none⟩ → w ≠ [] → g < W.heap.size from fun g o e hne => by
    obtain ⟨g', o', e', h1, _⟩ := hT hne; rw [e] at e'; cases e'; exact h1)
  have HW8 := Lib.hid hw8
  clear hN hT hTab hw8 hB0 b0
  have hs0 : W.heap.size < (W.alloc (.cells chZ 64)).heap.size := by omega
  unfold ChR
  have hz3 : ∀ x y z : Value, (#[x, y, z] : Array Value).size = 3 := fun _ _ _ => rfl
  cases hr : rightT l
  · simp only [if_true]
    rw [hr] at HR
    go_enter Tryd.func28, Tryd.ntmps28
    go_upto_region 1 with fail
    generalize W.alloc (.cells chZ 64) = w1 at *
    go_wp2_with fail
    refine (HR.out w1 HN.out).mono ?_
    rintro e w2 ⟨rfl, hb2⟩
    have hbl := HBL.out.below hb2 HBL.out.lt
    obtain ⟨c0, c1, c2⟩ := blk3 hbl
    have f0 := hbl.frozen 0; have f1 := hbl.frozen 1; have f2 := hbl.frozen 2
    have HB2 := Lib.hid (HB.out.trans (hb2.mono HB.out.size))
    have HB3 := Lib.hid (show Blk (((w2.setCell ⟨W.heap.size, 0, none⟩ (.slice none 0 0)).setCell ⟨W.heap.size, 1, none⟩ (.slice none 0 0)).setCell ⟨W.heap.size, 2, none⟩ (.slice none 0 0)) W.heap.size chZ 64 from ((hbl.set 0 (.slice none 0 0)).set 1 (.slice none 0 0)).set 2 (.slice none 0 0))
    have HB4 := Lib.hid (below_set (below_set (below_set HB2.out (Nat.le_refl W.heap.size) 0 (.slice none 0 0)) (Nat.le_refl W.heap.size) 1 (.slice none 0 0)) (Nat.le_refl W.heap.size) 2 (.slice none 0 0))
    clear hbl hb2
    go_wp2_with fail
    exact bodyPost_ret (results_cellC rfl _ _ W.heap.size 64 chZ (0, 0) _ rfl HB3.out Tryd.underlying64 rfl (by kernel_rfl)) rfl ⟨rfl, HB4.out⟩
  · simp only [Bool.true_eq_false, if_false]
    rw [hr] at HR
    by_cases hlen : 64 < w.length
    · simp only [hlen, if_true]
      have q1 : decide (64 < (w.length : Int)) = true := by rw [decide_eq_true_iff]; omega
      have q2 : decide (64 < w.length) = true := decide_eq_true hlen
      go_enter Tryd.func28, Tryd.ntmps28
      go_upto_region 1 with fail
      generalize W.alloc (.cells chZ 64) = w1 at *
      go_wp2_with fail
      refine (HR.out w1 HN.out).mono ?_
      rintro e w2 ⟨rfl, hb2⟩
      have hbl := HBL.out.below hb2 HBL.out.lt
      obtain ⟨c0, c1, c2⟩ := blk3 hbl
      have f0 := hbl.frozen 0; have f1 := hbl.frozen 1; have f2 := hbl.frozen 2
      have HB2 := Lib.hid (HB.out.trans (hb2.mono HB.out.size))
      have HB3 := Lib.hid (show Blk (((w2.setCell ⟨W.heap.size, 0, none⟩ (.slice none 0 0)).setCell ⟨W.heap.size, 1, none⟩ (.slice none 0 0)).setCell ⟨W.heap.size, 2, none⟩ (.slice none 0 0)) W.heap.size chZ 64 from ((hbl.set 0 (.slice none 0 0)).set 1 (.slice none 0 0)).set 2 (.slice none 0 0))
      have HB4 := Lib.hid (below_set (below_set (below_set HB2.out (Nat.le_refl W.heap.size) 0 (.slice none 0 0)) (Nat.le_refl W.heap.size) 1 (.slice none 0 0)) (Nat.le_refl W.heap.size) 2 (.slice none 0 0))
      clear hbl hb2
      go_wp2_with fail
      exact bodyPost_ret (results_cellC rfl _ _ W.heap.size 64 chZ (0, 0) _ rfl HB3.out Tryd.underlying64 rfl (by kernel_rfl)) rfl ⟨rfl, HB4.out⟩
    · simp only [hlen, if_false]
      have q1 : decide (64 < (w.length : Int)) = false := by rw [decide_eq_false_iff_not]; omega
      have q2 : decide (64 < w.length) = false := decide_eq_false hlen
      go_enter Tryd.func28, Tryd.ntmps28
      go_upto_region 1 with fail
      generalize W.alloc (.cells chZ 64) = w1 at *
      go_wp2_with fail
      refine (HR.out w1 HN.out).mono ?_
      rintro e w2 ⟨rfl, hb2⟩
      have HBL2 := Lib.hid (HBL.out.below hb2 HBL.out.lt)
      have HB2 := Lib.hid (HB.out.trans (hb2.mono HB.out.size))
      obtain ⟨Z, hZ, hz, hmk⟩ := makeRows l.length hl w2
      have HRW := Lib.hid (RowD.new w2 l.length Z hZ hz)
      have HN2 := Lib.hid (HN.out.below hb2)
      have HT2 := Lib.hid (HT.out.below hb2)
      have HTB2 := Lib.hid (HTB.out.keep hb2 (by omega))
      have hw2 : W.heap.size < w2.heap.size := Nat.lt_of_lt_of_le hs0 hb2.size
      clear hb2 hZ hz HBL HB HN HT HTB
      go_upto_region 6 with fail
      have hzw : ((w2.alloc (.cells (madeCells Z (l.length * 260)) 102)).alloc (.cells (chA l.length w.length w2.heap.size lcp wcp la wa) 64)).heap.size = w2.heap.size + 2 := by simp only [World.size_alloc]
      have hB12 : Below w2.heap.size w2 ((w2.alloc (.cells (madeCells Z (l.length * 260)) 102)).alloc (.cells (chA l.length w.length w2.heap.size lcp wcp la wa) 64)) := by go_grown
      have HCH := Lib.hid (show Blk ((w2.alloc (.cells (madeCells Z (l.length * 260)) 102)).alloc (.cells (chA l.length w.length w2.heap.size lcp wcp la wa) 64)) (w2.heap.size + 1) (chA l.length w.length w2.heap.size lcp wcp la wa) 64 by have h := Blk.new (w2.alloc (.cells (madeCells Z (l.length * 260)) 102)) (chA l.length w.length w2.heap.size lcp wcp la wa) 64; rwa [World.size_alloc] at h)
      have HR3 := Lib.hid (show RowD l.length w2.heap.size (stQ l w 0) ((w2.alloc (.cells (madeCells Z (l.length * 260)) 102)).alloc (.cells (chA l.length w.length w2.heap.size lcp wcp la wa) 64)) from (HRW.out.alloc _).congr fun q i _ _ => by unfold stQ; rw [if_neg (by omega)])
      have HBL3 := Lib.hid (HBL2.out.below hB12 (by omega))
      have HB3 := Lib.hid (HB2.out.trans (hB12.mono (by omega)))
      have HN3 := Lib.hid (HN2.out.below hB12)
      have HT3 := Lib.hid (HT2.out.below hB12)
      have HTB3 := Lib.hid (HTB2.out.keep hB12 (by omega))
      clear hB12 HRW HBL2 HB2 HN2 HT2 HTB2 hmk
      generalize (w2.alloc (.cells (madeCells Z (l.length * 260)) 102)).alloc (.cells (chA l.length w.length w2.heap.size lcp wcp la wa) 64) = w3 at *
      generalize w2.heap.size = B at *
      clear w2
      have HLB := Lib.hid (show ∀ g o, l ≠ [] → la = some ⟨g, o, none⟩ → g ≠ B from fun g o hne e => by have := HLA.out g o e hne; omega)
      have HWB := Lib.hid (show ∀ g o, w ≠ [] → wa = some ⟨g, o, none⟩ → g ≠ B from fun g o hne e => by have := HWA.out g o e hne; omega)
      go_wp2_with fail
      go_loopw [24] (fun vi wr => ∃ q : Nat, q ≤ l.length ∧ vi = .int .i64 q ∧ RowD l.length B (stQ l w q) wr ∧ KpA (fun k => k = B) w3 wr) (fun vi _ => l.length - (intOf vi).toNat)
      case atStart => exact ⟨0, Nat.zero_le _, rfl, HR3.out, KpA.refl _ _⟩
      case round =>
        obtain ⟨q, hq, rfl, hrow, hK⟩ := hrel
        have HRr := Lib.hid hrow
        have HKr := Lib.hid hK
        have HCr := Lib.hid (HCH.out.kpA hK (by omega))
        obtain ⟨d0, d1, d2⟩ := blk3 HCr.out
        by_cases hlt : q < l.length
        · have p2 : decide (q < l.length) = true := decide_eq_true hlt
          have p4 : (q : Int) < (l.length : Int) := by omega
          have xi : IntKind.i64.wrap ((q : Int) + 1) = (q : Int) + 1 := IntWalk.i64_in _ (by omega)
          clear hrow hK
          go_wp2_with fail
          refine (learnL_calls l hr hl w (by omega) HW8.out B lcp wcp q la wa hlt wr ?_ ?_ (fun g o e => HLB.out g o (by rintro rfl; simp at hlt) e) ?_ HRr.out (HTB3.out.kpA HKr.out (by omega) (by omega)) (by omega)).mono ?_
          · exact HN3.out.kpA HKr.out HLB.out
          · exact HT3.out.kpA HKr.out HWB.out
          · exact HWB.out
          rintro e w5 ⟨⟨v, rfl⟩, hr5, hk5⟩
          have HR5 := Lib.hid hr5
          have HK5 := Lib.hid (HKr.out.trans hk5)
          clear hr5 hk5
          go_wp2_with fail
          go_roundw
          case rel => exact ⟨q + 1, by omega, rfl, HR5.out, HK5.out⟩
          case measure => simp [intOf]; omega
        · obtain rfl : q = l.length := by omega
          have HBr := Lib.hid (HBL3.out.kpA hK (by omega))
          obtain ⟨c0, c1, c2⟩ := blk3 HBr.out
          have f0 := HBr.out.frozen 0; have f1 := HBr.out.frozen 1; have f2 := HBr.out.frozen 2
          have HRB := Lib.hid (show Blk (((wr.setCell ⟨W.heap.size, 0, none⟩ (.slice la l.length lcp)).setCell ⟨W.heap.size, 1, none⟩ (.slice wa w.length wcp)).setCell ⟨W.heap.size, 2, none⟩ (.slice (some ⟨B, 0, none⟩) l.length l.length)) W.heap.size (chA l.length w.length B lcp wcp la wa) 64 from ((HBr.out.set 0 (.slice la l.length lcp)).set 1 (.slice wa w.length wcp)).set 2 (.slice (some ⟨B, 0, none⟩) l.length l.length))
          have hbb : Below W.heap.size W wr := HB3.out.trans (hK.toBelow (by omega) (fun k hk => by omega))
          have HB4 := Lib.hid (below_set (below_set (below_set hbb (Nat.le_refl W.heap.size) 0 (.slice la l.length lcp)) (Nat.le_refl W.heap.size) 1 (.slice wa w.length wcp)) (Nat.le_refl W.heap.size) 2 (.slice (some ⟨B, 0, none⟩) l.length l.length))
          have HRO := Lib.hid (((hrow.keep (Below.heap_setCell wr ⟨W.heap.size, 0, none⟩ (.slice la l.length lcp) B (by show B ≠ W.heap.size; omega))).keep (Below.heap_setCell _ ⟨W.heap.size, 1, none⟩ (.slice wa w.length wcp) B (by show B ≠ W.heap.size; omega))).keep (Below.heap_setCell _ ⟨W.heap.size, 2, none⟩ (.slice (some ⟨B, 0, none⟩) l.length l.length) B (by show B ≠ W.heap.size; omega)))
          clear hbb hrow hK
          go_wp2_with fail
          exact bodyPost_ret (results_cellC rfl _ _ W.heap.size 64 (chA l.length w.length B lcp wcp la wa) (0, 0) _ rfl HRB.out Tryd.underlying64 rfl (by kernel_rfl)) rfl ⟨⟨B, by omega, rfl, HRO.out⟩, HB4.out⟩
end Go.Proofs.YtdpkhliojbeglaaDoor

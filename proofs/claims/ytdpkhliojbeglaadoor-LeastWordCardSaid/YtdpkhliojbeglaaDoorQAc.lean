/- Texts put together: Tui Tuj Tuk. -/
import Derived.Test.YtdpkhliojbeglaaDoorQAb
import Derived.Test.YtdpkhliojbeglaaDoorQAa
import Derived.Test.YtdpkhliojbeglaaDoorQX
import Derived.Test.YtdpkhliojbeglaaDoorQO
/- The developers' chartOf. Stage 15. -/
namespace Go.Proofs.YtdpkhliojbeglaaDoor
open Go.RowKit BS

theorem infoRow : (Tryd.prog.info? 102).map (fun i => (i.zero.map Value.cells, i.size, i.bytes)) = some (some (List.replicate 260 (Value.int .u64 0)).toArray, 260, 2080) := by kernel_rfl
theorem makeRows (L : Nat) (hL : L ≤ 1000) (W : World) : ∃ Z : Array Value, Z.size = 260 ∧ (∀ x, x < 260 → Z[x]! = .int .u64 0) ∧
    (Instr.makeSlice 62 (.int .i64 (L : Int)) (.int .i64 (L : Int))).run Tryd.prog W = .ok (.slice (some ⟨W.heap.size, 0, none⟩) L L) (W.alloc (.cells (madeCells Z (L * 260)) 102)) := by
  obtain ⟨i, hi, hzz⟩ := Option.map_eq_some_iff.1 infoRow
  simp only [Prod.mk.injEq] at hzz
  obtain ⟨hz, hs, hb⟩ := hzz
  obtain ⟨z, hz1, hz2⟩ := Option.map_eq_some_iff.1 hz
  refine ⟨z.cells, by rw [hz2]; simp only [List.size_toArray, List.length_replicate], fun x hx => ?_, ?_⟩
  · rw [hz2]
    have : x < (List.replicate 260 (Value.int .u64 0)).toArray.size := by simp only [List.size_toArray, List.length_replicate]; exact hx
    rw [getElem!_pos _ x this]; simp only [List.getElem_toArray, List.getElem_replicate]
  · have := run_make (P := Tryd.prog) W 62 102 i _ Tryd.underlying62 hi hz1 .i64 .i64 L L (by omega) (by omega) (by rw [hb]; omega) (by omega)
    rw [hs, Int.toNat_natCast] at this
    exact this
theorem results_cellC {P : Program} {fn : Func} {p a : Tmp} {ty : TypeId} (h : fn.results = #[.cell p ty, .tmp a]) (tmps : Array Value) (w : World) (g : Nat) (t : TypeId) (cs : Array Value) (fr : Nat × Nat) (d : TypeDesc)
    (hp : tmps.getD p undef = .pointer (some ⟨g, 0, none⟩)) (hg : w.heap[g]? = some (.cells cs t fr))
    (hu : P.underlying ty = some d) (hd : (match d with | .struct _ | .array _ _ => true | _ => false) = true) (hi : (P.info? ty).map (·.size) = some cs.size) :
    (results fn tmps).run P w = .ok (.tuple #[.agg cs, tmps.getD a undef]) w := by
  have hp' : tmps[p]?.getD undef = .pointer (some ⟨g, 0, none⟩) := by simpa using hp
  simp [results, h, hp', asAddr, run_loadVar_row w g t ty cs fr d hg hu hd hi]
theorem NodesAt.kpA {l : List NdN} {a : Option Addr} {A : Nat → Prop} {W W' : World} (h : NodesAt l a W) (k : KpA A W W') (hA : ∀ g o, l ≠ [] → a = some ⟨g, o, none⟩ → ¬ A g) : NodesAt l a W' := fun hne => by
  obtain ⟨g, off, e, hg, hc⟩ := h hne
  exact ⟨g, off, e, Nat.lt_of_lt_of_le hg k.size, fun i hi j hj => (k.cell hg (hA g off hne e) (off + i * 8 + j)).trans (hc i hi j hj)⟩
theorem BtsAt.kpA {l : List Nat} {a : Option Addr} {A : Nat → Prop} {W W' : World} (h : BtsAt l a W) (k : KpA A W W') (hA : ∀ g o, l ≠ [] → a = some ⟨g, o, none⟩ → ¬ A g) : BtsAt l a W' := fun hne => by
  obtain ⟨g, off, e, hg, hc⟩ := h hne
  exact ⟨g, off, e, Nat.lt_of_lt_of_le hg k.size, fun i hi => (k.cell hg (hA g off hne e) (off + i)).trans (hc i hi)⟩
/-- No chart. -/
@[reducible] def chZ : Array Value := #[.slice none 0 0, .slice none 0 0, .slice none 0 0]
/-- What chartOf answers. -/
def ChR (l : List NdN) (w : List Nat) (lcp wcp : Nat) (la wa : Option Addr) (W : World) (e : Ending) (W' : World) : Prop :=
  (if rightT l = false then e = .returned (.tuple #[.agg chZ, .int .i64 11]) else if 64 < w.length then e = .returned (.tuple #[.agg chZ, .int .i64 12]) else
    ∃ B, W.heap.size ≤ B ∧ e = .returned (.tuple #[.agg (chA l.length w.length B lcp wcp la wa), .int .i64 0]) ∧ RowD l.length B (stQ l w l.length) W') ∧ Below W.heap.size W W'
set_option maxRecDepth 100000 in
set_option maxHeartbeats 16000000 in
theorem chartOf_calls (l : List NdN) (hl : l.length ≤ 1000) (w : List Nat) (hwn : w.length ≤ 1000000) (hw8 : ∀ x ∈ w, x < 256) (lcp wcp : Nat) (la wa : Option Addr) (W : World) (hN : NodesAt l la W) (hT : BtsAt w wa W) (hTab : Tab W) (hg : 0 < W.heap.size) :
    Calls Tryd.prog 28 #[.slice la l.length lcp, .slice wa w.length wcp] W fun e W' => ChR l w lcp wcp la wa W e W' := by
  have hB0 : Below W.heap.size W (W.alloc (.cells chZ 64)) := by go_grown
  have b0 := Blk.new W chZ 64
  have hz0 : (W.alloc (.cells chZ 64)).heap.size = W.heap.size + 1 := World.size_alloc ..
  have HR := Lib.hid (fun W' h => tmright_calls l hl la lcp W' h)
  have HN := Lib.hid (hN.below hB0)
  have HT := Lib.hid (hT.below hB0)
  have HTB := Lib.hid (hTab.keep hB0 hg)
  have HB := Lib.hid hB0
  have HBL := Lib.hid b0
  have HLA := Lib.hid (show ∀ g o, la = some ⟨g, o, none⟩ → l ≠ [] → g < W.heap.size from fun g o e hne => by
    obtain ⟨g', o', e', h1, _⟩ := hN hne; rw [e] at e'; cases e'; exact h1)
  have HWA := Lib.hid (show ∀ g o, wa = some ⟨g, o, none⟩ → w ≠ [] → g < W.heap.size from fun g o e hne => by
    obtain ⟨g', o', e', h1, _⟩ := hT hne; rw [e] at e'; cases e'; exact h1)
  have HW8 := Lib.hid hw8
  clear hN hT hTab hw8 hB0 b0
  have hs0 : W.heap.size < (W.alloc (.cells chZ 64)).heap.size := by omega
  unfold ChR
  have hz3 : ∀ x y z : Value, (#[x, y, z] : Array Value).size = 3 := fun _ _ _ => rfl
  cases hr : rightT l
  · simp only [if_true]
    rw [hr] at HR
    go_enter Tryd.func28, Tryd.ntmps28
    go_upto_region 1 with fail
    generalize W.alloc (.cells chZ 64) = w1 at *
    go_wp2_with fail
    refine (HR.out w1 HN.out).mono ?_
    rintro e w2 ⟨rfl, hb2⟩
    have hbl := HBL.out.below hb2 HBL.out.lt
    obtain ⟨c0, c1, c2⟩ := blk3 hbl
    have f0 := hbl.frozen 0; have f1 := hbl.frozen 1; have f2 := hbl.frozen 2
    have HB2 := Lib.hid (HB.out.trans (hb2.mono HB.out.size))
    have HB3 := Lib.hid (show Blk (((w2.setCell ⟨W.heap.size, 0, none⟩ (.slice none 0 0)).setCell ⟨W.heap.size, 1, none⟩ (.slice none 0 0)).setCell ⟨W.heap.size, 2, none⟩ (.slice none 0 0)) W.heap.size chZ 64 from ((hbl.set 0 (.slice none 0 0)).set 1 (.slice none 0 0)).set 2 (.slice none 0 0))
    have HB4 := Lib.hid (below_set (below_set (below_set HB2.out (Nat.le_refl W.heap.size) 0 (.slice none 0 0)) (Nat.le_refl W.heap.size) 1 (.slice none 0 0)) (Nat.le_refl W.heap.size) 2 (.slice none 0 0))
    clear hbl hb2
    go_wp2_with fail
    exact bodyPost_ret (results_cellC rfl _ _ W.heap.size 64 chZ (0, 0) _ rfl HB3.out Tryd.underlying64 rfl (by kernel_rfl)) rfl ⟨rfl, HB4.out⟩
  · simp only [Bool.true_eq_false, if_false]
    rw [hr] at HR
    by_cases hlen : 64 < w.length
    · simp only [hlen, if_true]
      have q1 : decide (64 < (w.length : Int)) = true := by rw [decide_eq_true_iff]; omega
      have q2 : decide (64 < w.length) = true := decide_eq_true hlen
      go_enter Tryd.func28, Tryd.ntmps28
      go_upto_region 1 with fail
      generalize W.alloc (.cells chZ 64) = w1 at *
      go_wp2_with fail
      refine (HR.out w1 HN.out).mono ?_
      rintro e w2 ⟨rfl, hb2⟩
      have hbl := HBL.out.below hb2 HBL.out.lt
      obtain ⟨c0, c1, c2⟩ := blk3 hbl
      have f0 := hbl.frozen 0; have f1 := hbl.frozen 1; have f2 := hbl.frozen 2
      have HB2 := Lib.hid (HB.out.trans (hb2.mono HB.out.size))
      have HB3 := Lib.hid (show Blk (((w2.setCell ⟨W.heap.size, 0, none⟩ (.slice none 0 0)).setCell ⟨W.heap.size, 1, none⟩ (.slice none 0 0)).setCell ⟨W.heap.size, 2, none⟩ (.slice none 0 0)) W.heap.size chZ 64 from ((hbl.set 0 (.slice none 0 0)).set 1 (.slice none 0 0)).set 2 (.slice none 0 0))
      have HB4 := Lib.hid (below_set (below_set (below_set HB2.out (Nat.le_refl W.heap.size) 0 (.slice none 0 0)) (Nat.le_refl W.heap.size) 1 (.slice none 0 0)) (Nat.le_refl W.heap.size) 2 (.slice none 0 0))
      clear hbl hb2
      go_wp2_with fail
      exact bodyPost_ret (results_cellC rfl _ _ W.heap.size 64 chZ (0, 0) _ rfl HB3.out Tryd.underlying64 rfl (by kernel_rfl)) rfl ⟨rfl, HB4.out⟩
    · simp only [hlen, if_false]
      have q1 : decide (64 < (w.length : Int)) = false := by rw [decide_eq_false_iff_not]; omega
      have q2 : decide (64 < w.length) = false := decide_eq_false hlen
      go_enter Tryd.func28, Tryd.ntmps28
      go_upto_region 1 with fail
      generalize W.alloc (.cells chZ 64) = w1 at *
      go_wp2_with fail
      refine (HR.out w1 HN.out).mono ?_
      rintro e w2 ⟨rfl, hb2⟩
      have HBL2 := Lib.hid (HBL.out.below hb2 HBL.out.lt)
      have HB2 := Lib.hid (HB.out.trans (hb2.mono HB.out.size))
      obtain ⟨Z, hZ, hz, hmk⟩ := makeRows l.length hl w2
      have HRW := Lib.hid (RowD.new w2 l.length Z hZ hz)
      have HN2 := Lib.hid (HN.out.below hb2)
      have HT2 := Lib.hid (HT.out.below hb2)
      have HTB2 := Lib.hid (HTB.out.keep hb2 (by omega))
      have hw2 : W.heap.size < w2.heap.size := Nat.lt_of_lt_of_le hs0 hb2.size
      clear hb2 hZ hz HBL HB HN HT HTB
      go_upto_region 6 with fail
      have hzw : ((w2.alloc (.cells (madeCells Z (l.length * 260)) 102)).alloc (.cells (chA l.length w.length w2.heap.size lcp wcp la wa) 64)).heap.size = w2.heap.size + 2 := by simp only [World.size_alloc]
      have hB12 : Below w2.heap.size w2 ((w2.alloc (.cells (madeCells Z (l.length * 260)) 102)).alloc (.cells (chA l.length w.length w2.heap.size lcp wcp la wa) 64)) := by go_grown
      have HCH := Lib.hid (show Blk ((w2.alloc (.cells (madeCells Z (l.length * 260)) 102)).alloc (.cells (chA l.length w.length w2.heap.size lcp wcp la wa) 64)) (w2.heap.size + 1) (chA l.length w.length w2.heap.size lcp wcp la wa) 64 by have h := Blk.new (w2.alloc (.cells (madeCells Z (l.length * 260)) 102)) (chA l.length w.length w2.heap.size lcp wcp la wa) 64; rwa [World.size_alloc] at h)
      have HR3 := Lib.hid (show RowD l.length w2.heap.size (stQ l w 0) ((w2.alloc (.cells (madeCells Z (l.length * 260)) 102)).alloc (.cells (chA l.length w.length w2.heap.size lcp wcp la wa) 64)) from (HRW.out.alloc _).congr fun q i _ _ => by unfold stQ; rw [if_neg (by omega)])
      have HBL3 := Lib.hid (HBL2.out.below hB12 (by omega))
      have HB3 := Lib.hid (HB2.out.trans (hB12.mono (by omega)))
      have HN3 := Lib.hid (HN2.out.below hB12)
      have HT3 := Lib.hid (HT2.out.below hB12)
      have HTB3 := Lib.hid (HTB2.out.keep hB12 (by omega))
      clear hB12 HRW HBL2 HB2 HN2 HT2 HTB2 hmk
      generalize (w2.alloc (.cells (madeCells Z (l.length * 260)) 102)).alloc (.cells (chA l.length w.length w2.heap.size lcp wcp la wa) 64) = w3 at *
      generalize w2.heap.size = B at *
      clear w2
      have HLB := Lib.hid (show ∀ g o, l ≠ [] → la = some ⟨g, o, none⟩ → g ≠ B from fun g o hne e => by have := HLA.out g o e hne; omega)
      have HWB := Lib.hid (show ∀ g o, w ≠ [] → wa = some ⟨g, o, none⟩ → g ≠ B from fun g o hne e => by have := HWA.out g o e hne; omega)
      go_wp2_with fail
      go_loopw [24] (fun vi wr => ∃ q : Nat, q ≤ l.length ∧ vi = .int .i64 q ∧ RowD l.length B (stQ l w q) wr ∧ KpA (fun k => k = B) w3 wr) (fun vi _ => l.length - (intOf vi).toNat)
      case atStart => exact ⟨0, Nat.zero_le _, rfl, HR3.out, KpA.refl _ _⟩
      case round =>
        obtain ⟨q, hq, rfl, hrow, hK⟩ := hrel
        have HRr := Lib.hid hrow
        have HKr := Lib.hid hK
        have HCr := Lib.hid (HCH.out.kpA hK (by omega))
        obtain ⟨d0, d1, d2⟩ := blk3 HCr.out
        by_cases hlt : q < l.length
        · have p2 : decide (q < l.length) = true := decide_eq_true hlt
          have p4 : (q : Int) < (l.length : Int) := by omega
          have xi : IntKind.i64.wrap ((q : Int) + 1) = (q : Int) + 1 := IntWalk.i64_in _ (by omega)
          clear hrow hK
          go_wp2_with fail
          refine (learnL_calls l hr hl w (by omega) HW8.out B lcp wcp q la wa hlt wr ?_ ?_ (fun g o e => HLB.out g o (by rintro rfl; simp at hlt) e) ?_ HRr.out (HTB3.out.kpA HKr.out (by omega) (by omega)) (by omega)).mono ?_
          · exact HN3.out.kpA HKr.out HLB.out
          · exact HT3.out.kpA HKr.out HWB.out
          · exact HWB.out
          rintro e w5 ⟨⟨v, rfl⟩, hr5, hk5⟩
          have HR5 := Lib.hid hr5
          have HK5 := Lib.hid (HKr.out.trans hk5)
          clear hr5 hk5
          go_wp2_with fail
          go_roundw
          case rel => exact ⟨q + 1, by omega, rfl, HR5.out, HK5.out⟩
          case measure => simp [intOf]; omega
        · obtain rfl : q = l.length := by omega
          have HBr := Lib.hid (HBL3.out.kpA hK (by omega))
          obtain ⟨c0, c1, c2⟩ := blk3 HBr.out
          have f0 := HBr.out.frozen 0; have f1 := HBr.out.frozen 1; have f2 := HBr.out.frozen 2
          have HRB := Lib.hid (show Blk (((wr.setCell ⟨W.heap.size, 0, none⟩ (.slice la l.length lcp)).setCell ⟨W.heap.size, 1, none⟩ (.slice wa w.length wcp)).setCell ⟨W.heap.size, 2, none⟩ (.slice (some ⟨B, 0, none⟩) l.length l.length)) W.heap.size (chA l.length w.length B lcp wcp la wa) 64 from ((HBr.out.set 0 (.slice la l.length lcp)).set 1 (.slice wa w.length wcp)).set 2 (.slice (some ⟨B, 0, none⟩) l.length l.length))
          have hbb : Below W.heap.size W wr := HB3.out.trans (hK.toBelow (by omega) (fun k hk => by omega))
          have HB4 := Lib.hid (below_set (below_set (below_set hbb (Nat.le_refl W.heap.size) 0 (.slice la l.length lcp)) (Nat.le_refl W.heap.size) 1 (.slice wa w.length wcp)) (Nat.le_refl W.heap.size) 2 (.slice (some ⟨B, 0, none⟩) l.length l.length))
          have HRO := Lib.hid (((hrow.keep (Below.heap_setCell wr ⟨W.heap.size, 0, none⟩ (.slice la l.length lcp) B (by show B ≠ W.heap.size; omega))).keep (Below.heap_setCell _ ⟨W.heap.size, 1, none⟩ (.slice wa w.length wcp) B (by show B ≠ W.heap.size; omega))).keep (Below.heap_setCell _ ⟨W.heap.size, 2, none⟩ (.slice (some ⟨B, 0, none⟩) l.length l.length) B (by show B ≠ W.heap.size; omega)))
          clear hbb hrow hK
          go_wp2_with fail
          exact bodyPost_ret (results_cellC rfl _ _ W.heap.size 64 (chA l.length w.length B lcp wcp la wa) (0, 0) _ rfl HRB.out Tryd.underlying64 rfl (by kernel_rfl)) rfl ⟨⟨B, by omega, rfl, HRO.out⟩, HB4.out⟩
end Go.Proofs.YtdpkhliojbeglaaDoor

/- The developers' has, found. Stage 15. -/
namespace Go.Proofs.YtdpkhliojbeglaaDoor
open Go.RowKit BS

set_option maxRecDepth 100000 in
set_option maxHeartbeats 16000000 in
theorem has_ch (L n B lcp wcp : Nat) (la wa : Option Addr) (q F T : Int) (hL : L ≤ 1000) (W : World) :
    Calls Tryd.prog 36 #[.agg (chA L n B lcp wcp la wa), .int .i64 q, .agg #[.int .i64 F, .int .i64 T]] W fun e W' => e = .returned (.bool (decide (0 ≤ q ∧ q < L ∧ 0 ≤ F ∧ F ≤ T ∧ T ≤ n))) ∧ Below W.heap.size W W' := by
  have HB := Lib.hid (show Below W.heap.size W ((W.alloc (.cells (chA L n B lcp wcp la wa) 64)).alloc (.cells #[.int .i64 F, .int .i64 T] 25)) by go_grown)
  have b0 := (Blk.new W (chA L n B lcp wcp la wa) 64).alloc (.cells #[.int .i64 F, .int .i64 T] 25)
  have b1 := Blk.new (W.alloc (.cells (chA L n B lcp wcp la wa) 64)) #[.int .i64 F, .int .i64 T] 25
  rw [World.size_alloc] at b1
  have hz : ((W.alloc (.cells (chA L n B lcp wcp la wa) 64)).alloc (.cells #[.int .i64 F, .int .i64 T] 25)).heap.size = W.heap.size + 2 := by simp only [World.size_alloc]
  have HRT := Lib.hid (fun W => root_calls L n B lcp wcp la wa hL W)
  have HP0 := Lib.hid b0
  have HP1 := Lib.hid b1
  clear b0 b1
  obtain ⟨d, hd⟩ : ∃ d, decide (0 ≤ q ∧ q < L ∧ 0 ≤ F ∧ F ≤ T ∧ T ≤ n) = d := ⟨_, rfl⟩
  rw [hd]
  have HD := Lib.hid hd
  clear hd
  by_cases h1 : 0 ≤ q
  · have q1 : decide (0 ≤ q) = true := decide_eq_true h1
    go_enter Tryd.func36, Tryd.ntmps36
    go_upto_region 1 with fail
    generalize (W.alloc (.cells (chA L n B lcp wcp la wa) 64)).alloc (.cells #[.int .i64 F, .int .i64 T] 25) = w1 at *
    obtain ⟨c0, c1, c2⟩ := blk3 HP0.out
    have g0 := HP1.out.cell 0; have g1 := HP1.out.cell 1
    simp only [List.getElem?_toArray, List.getElem?_cons_zero, List.getElem?_cons_succ] at g0 g1
    go_wp2_with fail
    refine (HRT.out _).mono ?_
    rintro e w2 ⟨rfl, hb2⟩
    have HP2 := Lib.hid (HP0.out.below hb2 HP0.out.lt)
    have HP3 := Lib.hid (HP1.out.below hb2 HP1.out.lt)
    have HB2 := Lib.hid (HB.out.trans (hb2.mono HB.out.size))
    clear hb2 c0 c1 c2 g0 g1
    obtain ⟨c0, c1, c2⟩ := blk3 HP2.out
    have g0 := HP3.out.cell 0; have g1 := HP3.out.cell 1
    simp only [List.getElem?_toArray, List.getElem?_cons_zero, List.getElem?_cons_succ] at g0 g1
    by_cases h2 : q ≤ (L : Int) - 1
    · have q2 : decide (q ≤ (L : Int) - 1) = true := decide_eq_true h2
      by_cases h3 : 0 ≤ F
      · have q3 : decide (0 ≤ F) = true := decide_eq_true h3
        by_cases h4 : F ≤ T
        · have q4 : decide (F ≤ T) = true := decide_eq_true h4
          by_cases h5 : T ≤ n
          · have q5 : decide (T ≤ (n : Int)) = true := decide_eq_true h5
            go_wp2_with fail
            go_ret
            exact ⟨by rw [← HD.out, decide_eq_true (by omega)]; rfl, HB2.out⟩
          · have q5 : decide (T ≤ (n : Int)) = false := decide_eq_false h5
            go_wp2_with fail
            go_ret
            exact ⟨by rw [← HD.out, decide_eq_false (by omega)]; rfl, HB2.out⟩
        · have q4 : decide (F ≤ T) = false := decide_eq_false h4
          go_wp2_with fail
          go_ret
          exact ⟨by rw [← HD.out, decide_eq_false (by omega)]; rfl, HB2.out⟩
      · have q3 : decide (0 ≤ F) = false := decide_eq_false h3
        go_wp2_with fail
        go_ret
        exact ⟨by rw [← HD.out, decide_eq_false (by omega)]; rfl, HB2.out⟩
    · have q2 : decide (q ≤ (L : Int) - 1) = false := decide_eq_false h2
      go_wp2_with fail
      go_ret
      exact ⟨by rw [← HD.out, decide_eq_false (by omega)]; rfl, HB2.out⟩
  · have q1 : decide (0 ≤ q) = false := decide_eq_false h1
    go_enter Tryd.func36, Tryd.ntmps36
    go_wp2_with fail
    go_ret
    exact ⟨by rw [← HD.out, decide_eq_false (by omega)]; rfl, HB.out⟩
/-! ### The last run -/
theorem runStep_end (rs : List (Nat × Nat)) (x : Nat) : ∃ rs' a, runStep rs x = rs' ++ [(a, x)] := by
  rcases nil_or_snoc rs with rfl | ⟨rs', a, b, rfl⟩
  · exact ⟨[], x, rfl⟩
  · by_cases h : (b + 1) % 256 = x
    · exact ⟨rs', a, runStep_grow rs' a b x h⟩
    · exact ⟨rs' ++ [(a, b)], x, runStep_new rs' a b x h⟩
theorem runsOf_end (l : List Nat) (x : Nat) : ∃ rs a, runsOf (l ++ [x]) = rs ++ [(a, x)] := by
  rw [runsOf_snoc]; exact runStep_end _ _
theorem el_end (f : Nat → Bool) : ∀ k, (el f k = [] ∧ ∀ m, m < k → f m = false) ∨ ∃ l x, el f k = l ++ [x] ∧ x < k ∧ f x = true ∧ ∀ m, m < k → f m = true → m ≤ x
  | 0 => .inl ⟨rfl, fun m h => absurd h (by omega)⟩
  | k + 1 => by
    rw [el_succ]
    cases hf : f k with
    | true => exact .inr ⟨el f k, k, by simp, by omega, hf, fun m h _ => by omega⟩
    | false =>
      rcases el_end f k with ⟨h1, h2⟩ | ⟨l, x, h1, h2, h3, h4⟩
      · refine .inl ⟨by simp [h1], fun m hm => ?_⟩
        by_cases hk : m = k
        · rw [hk]; exact hf
        · exact h2 m (by omega)
      · refine .inr ⟨l, x, by simp [h1], by omega, h3, fun m hm hfm => ?_⟩
        by_cases hk : m = k
        · subst hk; rw [hf] at hfm; cases hfm
        · exact h4 m (by omega) hfm
theorem row_last (l : List NdN) (w : List Nat) (hw : w.length < 256) (q i : Nat) :
    (el (rowS l w q i).getLsbD 256 = [] ∧ lastO (canB l w q i) i w.length = none) ∨ ∃ L x, el (rowS l w q i).getLsbD 256 = L ++ [x] ∧ x ≤ w.length ∧ lastO (canB l w q i) i w.length = some x := by
  rcases el_end (rowS l w q i).getLsbD 256 with ⟨h1, h2⟩ | ⟨L, x, h1, h2, h3, h4⟩
  · refine .inl ⟨h1, ?_⟩
    cases hl : lastO (canB l w q i) i w.length with
    | none => rfl
    | some k =>
      obtain ⟨a, b, c, _⟩ := last_some _ _ _ _ hl
      have h5 := h2 k (by omega)
      rw [(get_row' hw q i k).2 ⟨a, b, c⟩] at h5
      cases h5
  · obtain ⟨a, b, c⟩ := (get_row' hw q i x).1 h3
    refine .inr ⟨L, x, h1, b, ?_⟩
    cases hl : lastO (canB l w q i) i w.length with
    | none =>
      have := last_none _ _ _ hl x b a
      rw [this] at c; cases c
    | some k =>
      obtain ⟨a', b', c', d'⟩ := last_some _ _ _ _ hl
      have h5 := h4 k (by omega) ((get_row' hw q i k).2 ⟨a', b', c'⟩)
      have h6 := d' x b a c
      rw [show k = x by omega]
theorem runsX_calls (s : BitVec 256) (W : World) (hT : Tab W) (hg : 0 < W.heap.size) :
    Calls Tryd.prog 59 #[setV s] W fun e W' => ∃ v, e = .returned v ∧ W'.ownsRow W.heap.size 116 2 v (runsOf (el s.getLsbD 256)).length (runCells (runsOf (el s.getLsbD 256))) ∧ Below W.heap.size W W' :=
  callsIn_wide.1 (runs_in 3 (by omega) s W hT hg)
/-- What is found, from place i on. -/
def fndV : Option (Nat × Nat) → Value
  | some (a, b) => .tuple #[.agg #[.int .i64 (a : Nat), .int .i64 (b : Nat)], .bool true]
  | none => .tuple #[.agg #[.int .i64 0, .int .i64 0], .bool false]
set_option maxRecDepth 100000 in
set_option maxHeartbeats 32000000 in
theorem found_ch (l : List NdN) (hl : l.length ≤ 1000) (hl0 : 0 < l.length) (w : List Nat) (hw : w.length ≤ 64) (B lcp wcp : Nat) (la wa : Option Addr) (W : World) (hR : RowD l.length B (stQ l w l.length) W) (hTab : Tab W) (hg : 0 < W.heap.size) :
    Calls Tryd.prog 39 #[.agg (chA l.length w.length B lcp wcp la wa)] W fun e W' => e = .returned (fndV (findT l w)) ∧ Below W.heap.size W W' := by
  have HB := Lib.hid (show Below W.heap.size W ((W.alloc (.cells (chA l.length w.length B lcp wcp la wa) 64)).alloc (.cells #[.int .i64 0, .int .i64 0] 25)) by go_grown)
  have b0 := (Blk.new W (chA l.length w.length B lcp wcp la wa) 64).alloc (.cells #[.int .i64 0, .int .i64 0] 25)
  have b1 := Blk.new (W.alloc (.cells (chA l.length w.length B lcp wcp la wa) 64)) #[.int .i64 0, .int .i64 0] 25
  rw [World.size_alloc] at b1
  have hz : ((W.alloc (.cells (chA l.length w.length B lcp wcp la wa) 64)).alloc (.cells #[.int .i64 0, .int .i64 0] 25)).heap.size = W.heap.size + 2 := by simp only [World.size_alloc]
  have HRT := Lib.hid (fun W => root_calls l.length w.length B lcp wcp la wa hl W)
  have HKN := Lib.hid (fun W => known_calls l.length w.length B lcp wcp (l.length - 1) la wa hw (by omega) W)
  have hcast : ((l.length - 1 : Nat) : Int) = (l.length : Int) - 1 := by omega
  rw [hcast] at HKN
  have HP0 := Lib.hid b0
  have HP1 := Lib.hid b1
  have HR := Lib.hid (hR.below HB.out)
  have HTB := Lib.hid (hTab.keep HB.out hg)
  have HST := Lib.hid (show ∀ i, i ≤ w.length → stQ l w l.length (l.length - 1) i = rowS l w (l.length - 1) i from fun i h => by unfold stQ; rw [if_pos ⟨by omega, h⟩])
  have HLA := Lib.hid (fun i => row_last l w (by omega) (l.length - 1) i)
  clear b0 b1 hR hTab
  obtain ⟨FT, hFT⟩ : ∃ FT, findT l w = FT := ⟨_, rfl⟩
  rw [hFT]
  go_enter Tryd.func39, Tryd.ntmps39
  go_upto_region 1 with fail
  generalize (W.alloc (.cells (chA l.length w.length B lcp wcp la wa) 64)).alloc (.cells #[.int .i64 0, .int .i64 0] 25) = w1 at *
  refine region_steps (S := fun w' => Below w1.heap.size w1 w') (by kernel_rfl) ((Below.refl _ _).drew) ?_
  simp only [List.size_toArray, List.length_cons, List.length_nil, Nat.reduceAdd, Array.replicate_succ, Array.replicate_zero, List.push_toArray, List.nil_append, List.cons_append]
  refine AnyS.next (i := 0) (d := some 7) (v := .agg (chA l.length w.length B lcp wcp la wa)) rfl rfl (by kernel_rfl) (by kernel_rfl) (by kernel_rfl) (StepsIf.yield (by kernel_rfl) (fun w' hS => by obtain ⟨c0, c1, c2⟩ := blk3 (HP0.out.below hS (by omega)); clear hS; go_simp)) ?_
  intro a' ha'
  simp only [Act.put, List.setIfInBounds_toArray, List.set_cons_zero, List.set_cons_succ] at ha'
  subst ha'
  refine AnyS.next (i := 1) (d := some 8) (v := .agg (chA l.length w.length B lcp wcp la wa)) rfl rfl (by kernel_rfl) (by kernel_rfl) (by kernel_rfl) (StepsIf.yield (by kernel_rfl) (fun w' hS => by obtain ⟨c0, c1, c2⟩ := blk3 (HP0.out.below hS (by omega)); clear hS; go_simp)) ?_
  intro a' ha'
  simp only [Act.put, List.setIfInBounds_toArray, List.set_cons_zero, List.set_cons_succ] at ha'
  subst ha'
  refine AnyS.next (i := 2) (d := some 9) (v := .int .i64 ((l.length : Int) - 1)) rfl rfl (by kernel_rfl) (by kernel_rfl) (by kernel_rfl) (StepsIf.call (by kernel_rfl) (fun w' hS => by clear hS; go_simp) (fun w' hS => (HRT.out w').mono fun e w'' h => ⟨h.1, hS.trans (h.2.mono hS.size)⟩)) ?_
  intro a' ha'
  simp only [Act.put, List.setIfInBounds_toArray, List.set_cons_zero, List.set_cons_succ] at ha'
  subst ha'
  refine AnyS.next (i := 3) (d := some 10) (v := .slice (some ⟨B, (l.length - 1) * 260, none⟩) (w.length + 1) 65) rfl rfl (by kernel_rfl) (by kernel_rfl) (by kernel_rfl) (StepsIf.call (by kernel_rfl) (fun w' hS => by clear hS; go_simp) (fun w' hS => (HKN.out w').mono fun e w'' h => ⟨h.1, hS.trans (h.2.mono hS.size)⟩)) ?_
  intro a' ha'
  simp only [Act.put, List.setIfInBounds_toArray, List.set_cons_zero, List.set_cons_succ] at ha'
  subst ha'
  refine AnyS.next (i := 4) (d := some 11) (v := .int .i64 ((w.length : Int) + 1)) rfl rfl (by kernel_rfl) (by kernel_rfl) (by kernel_rfl) (StepsIf.yield (by kernel_rfl) (fun w' hS => by clear hS; go_simp)) ?_
  intro a' ha'
  simp only [Act.put, List.setIfInBounds_toArray, List.set_cons_zero, List.set_cons_succ] at ha'
  subst ha'
  refine AnyS.next (i := 5) (d := some 12) (v := .int .i64 0) rfl rfl (by kernel_rfl) (by kernel_rfl) (by kernel_rfl) (StepsIf.yield (by kernel_rfl) (fun w' hS => by clear hS; go_simp)) ?_
  intro a' ha'
  simp only [Act.put, List.setIfInBounds_toArray, List.set_cons_zero, List.set_cons_succ] at ha'
  subst ha'
  refine AnyS.done (by kernel_rfl) (fun w2 hS => ?_) _
  have HP2 := Lib.hid (HP1.out.below hS (by omega))
  have HB2 := Lib.hid (HB.out.trans (hS.mono HB.out.size))
  have HR2 := Lib.hid (HR.out.below hS)
  have HTB2 := Lib.hid (HTB.out.keep hS (by omega))
  have hz2 : W.heap.size + 2 ≤ w2.heap.size := by have := hS.size; omega
  have HF0 := Lib.hid (show FT = findF (canB l w (l.length - 1)) w.length (w.length + 1 - 0) 0 from hFT.symm)
  clear hFT
  have HFS := Lib.hid (show ∀ i, i < w.length + 1 → findF (canB l w (l.length - 1)) w.length (w.length + 1 - i) i = match lastO (canB l w (l.length - 1) i) i w.length with | some j => some (i, j) | none => findF (canB l w (l.length - 1)) w.length (w.length + 1 - (i + 1)) (i + 1) from fun i hi => by
    rw [show w.length + 1 - i = (w.length + 1 - (i + 1)) + 1 by omega]; rfl)
  have HFE := Lib.hid (show findF (canB l w (l.length - 1)) w.length (w.length + 1 - (w.length + 1)) (w.length + 1) = none by rw [Nat.sub_self]; rfl)
  clear hS HP0 HP1 HB HR HTB HRT HKN
  go_wp2_with fail
  go_loopw [12] (fun vi wr => ∃ i : Nat, i ≤ w.length + 1 ∧ vi = .int .i64 i ∧ FT = findF (canB l w (l.length - 1)) w.length (w.length + 1 - i) i ∧ Below w2.heap.size w2 wr) (fun vi _ => w.length + 1 - (intOf vi).toNat)
  case atStart => exact ⟨0, Nat.zero_le _, rfl, HF0.out, Below.refl _ _⟩
  case round =>
    obtain ⟨i, hi, rfl, hF, hB⟩ := hrel
    have HBr := Lib.hid (HB2.out.trans (hB.mono (by omega)))
    have HRr := Lib.hid (HR2.out.below hB)
    have HTr := Lib.hid (HTB2.out.keep hB (by omega))
    have HPr := Lib.hid (HP2.out.below hB (by omega))
    have hzr : W.heap.size + 2 ≤ wr.heap.size := Nat.le_trans hz2 hB.size
    have HBB := Lib.hid hB
    have HF := Lib.hid hF
    clear hB hF
    by_cases hlt : i < w.length + 1
    · have p2 : decide (i < w.length + 1) = true := decide_eq_true hlt
      have p4 : (i : Int) < (w.length : Int) + 1 := by omega
      have p5 : decide ((i : Int) < (w.length : Int) + 1) = true := decide_eq_true p4
      have xi : IntKind.i64.wrap ((i : Int) + 1) = (i : Int) + 1 := IntWalk.i64_in _ (by omega)
      obtain ⟨⟨c0, c1, c2, c3⟩, _⟩ := HRr.out.cells4 (l.length - 1) i (by omega) (by omega)
      rw [HST.out i (by omega)] at c0 c1 c2 c3
      have hla := HLA.out i
      have HNX := Lib.hid (HFS.out i hlt)
      generalize rowS l w (l.length - 1) i = s at *
      go_wp2_with fail
      refine (runsX_calls s _ ?_ ?_).mono ?_
      · exact HTr.out.keep (show Below wr.heap.size wr (wr.alloc (.cells #[.int .u64 (wd s 0), .int .u64 (wd s 1), .int .u64 (wd s 2), .int .u64 (wd s 3)] 58)) by go_grown) (by omega)
      · rw [World.size_alloc]; omega
      rintro e w4 ⟨v, rfl, ho, hb4⟩
      have hb4' : Below wr.heap.size wr w4 := (show Below wr.heap.size wr (wr.alloc (.cells #[.int .u64 (wd s 0), .int .u64 (wd s 1), .int .u64 (wd s 2), .int .u64 (wd s 3)] 58)) by go_grown).trans (hb4.mono (by simp))
      have HB4 := Lib.hid (HBr.out.trans (hb4'.mono (by omega)))
      have HBB4 := Lib.hid (HBB.out.trans (hb4'.mono HBB.out.size))
      have HP4 := Lib.hid (HPr.out.below hb4' (by omega))
      clear hb4 hb4'
      rcases hla with ⟨he, hla⟩ | ⟨L, x, he, hxl, hla⟩
      · rw [he] at ho
        rw [hla] at HNX
        obtain ⟨a, c, rfl⟩ := owns_form ho
        have HE : Hid (FT = findF (canB l w (l.length - 1)) w.length (w.length + 1 - (i + 1)) (i + 1)) := Lib.hid (HF.out.trans HNX.out)
        clear ho he hla
        go_wp2_with fail
        go_roundw
        case rel => exact ⟨i + 1, by omega, rfl, HE.out, HBB4.out⟩
        case measure => simp [intOf]; omega
      · rw [hla] at HNX
        obtain ⟨rs, a0, hrs⟩ := runsOf_end L x
        rw [he, hrs] at ho
        have hlen : (rs ++ [(a0, x)]).length = rs.length + 1 := by simp
        rw [hlen] at ho
        obtain ⟨g, cap, rfl⟩ := ownsRow_succ ho
        have hcl := (ho.cellAt (rs.length * 2 + 1) (by omega)).trans (runCells_last rs a0 x)
        have HE : Hid (FT = some (i, x)) := Lib.hid (HF.out.trans HNX.out)
        have hrl : rs.length ≤ 256 := by
          have h1 := runsOf_len (L ++ [x]); have h2 := el_len s.getLsbD 256
          rw [he] at h2; rw [hrs] at h1; rw [hlen] at h1; omega
        have xl : IntKind.i64.wrap ((rs.length : Int) + 1 - 1) = (rs.length : Int) := by rw [show (rs.length : Int) + 1 - 1 = rs.length by omega]; exact IntWalk.i64_in _ (by omega)
        have q0 := HP4.out.cell 0; have q1 := HP4.out.cell 1
        have f0 := HP4.out.frozen 0; have f1 := HP4.out.frozen 1
        simp only [List.getElem?_toArray, List.getElem?_cons_zero, List.getElem?_cons_succ] at q0 q1
        have HBW := Lib.hid (below_set (below_set HB4.out (B := W.heap.size + 1) (by omega) 0 (.int .i64 (i : Nat))) (B := W.heap.size + 1) (by omega) 1 (.int .i64 (x : Nat)))
        have HPW := Lib.hid (show Blk ((w4.setCell ⟨W.heap.size + 1, 0, none⟩ (.int .i64 (i : Nat))).setCell ⟨W.heap.size + 1, 1, none⟩ (.int .i64 (x : Nat))) (W.heap.size + 1) #[.int .i64 (i : Nat), .int .i64 (x : Nat)] 25 from (HP4.out.set 0 (.int .i64 (i : Nat))).set 1 (.int .i64 (x : Nat)))
        clear ho he hla hrs hlen
        go_wp2_with fail
        exact bodyPost_ret (results_cellC rfl _ _ (W.heap.size + 1) 25 _ (0, 0) _ rfl HPW.out Tryd.underlying25 rfl (by kernel_rfl)) rfl ⟨by rw [HE.out]; rfl, HBW.out⟩
    · obtain rfl : i = w.length + 1 := by omega
      rw [HFE.out] at HF
      have q0 := HPr.out.cell 0; have q1 := HPr.out.cell 1
      have f0 := HPr.out.frozen 0; have f1 := HPr.out.frozen 1
      simp only [List.getElem?_toArray, List.getElem?_cons_zero, List.getElem?_cons_succ] at q0 q1
      have HBW := Lib.hid (below_set (below_set HBr.out (B := W.heap.size + 1) (by omega) 0 (.int .i64 0)) (B := W.heap.size + 1) (by omega) 1 (.int .i64 0))
      have HPW := Lib.hid (show Blk ((wr.setCell ⟨W.heap.size + 1, 0, none⟩ (.int .i64 0)).setCell ⟨W.heap.size + 1, 1, none⟩ (.int .i64 0)) (W.heap.size + 1) #[.int .i64 0, .int .i64 0] 25 from (HPr.out.set 0 (.int .i64 0)).set 1 (.int .i64 0))
      go_wp2_with fail
      exact bodyPost_ret (results_cellC rfl _ _ (W.heap.size + 1) 25 _ (0, 0) _ rfl HPW.out Tryd.underlying25 rfl (by kernel_rfl)) rfl ⟨by rw [HF.out]; rfl, HBW.out⟩
end Go.Proofs.YtdpkhliojbeglaaDoor

/- The developers' kid, split. Stage 15. -/
namespace Go.Proofs.YtdpkhliojbeglaaDoor
open Go.RowKit BS

set_option maxRecDepth 100000 in
set_option maxHeartbeats 4000000 in
theorem kid_calls (R : Nat) (d q f t : Int) (hd : 0 ≤ d ∧ d ≤ 1000000) (W : World) (hR : R < W.heap.size) (hc : W.cell? ⟨R, 0, none⟩ = some (.int .i64 d)) :
    Calls Tryd.prog 94 #[.int .i64 q, .int .i64 f, .int .i64 t, .pointer (some ⟨R, 0, none⟩)] W fun e W' => e = .returned (.agg (enI (d + 1) q f t)) ∧ Below W.heap.size W W' := by
  have xd : IntKind.i64.wrap (d + 1) = d + 1 := IntWalk.i64_in _ (by omega)
  have hb0 : Below W.heap.size W (W.alloc (.cells (enI 0 0 0 0) 83)) := by go_grown
  have b0 := Blk.new W (enI 0 0 0 0) 83
  have c0 := (hb0.cell (p := ⟨R, 0, none⟩) hR).trans hc
  have HBX := Lib.hid (show Blk ((W.alloc (.cells (enI 0 0 0 0) 83)).setCells W.heap.size 0 [.int .i64 (d + 1), .int .i64 q, .int .i64 f, .int .i64 t]) W.heap.size (enI (d + 1) q f t) 83 from b0.setCells [.int .i64 (d + 1), .int .i64 q, .int .i64 f, .int .i64 t] 0)
  have HBB := Lib.hid (below_cells hb0 (Nat.le_refl W.heap.size) 0 [.int .i64 (d + 1), .int .i64 q, .int .i64 f, .int .i64 t])
  have t0 := b0.cell 0; have t1 := b0.cell 1; have t2 := b0.cell 2; have t3 := b0.cell 3
  have f0 := b0.frozen 0; have f1 := b0.frozen 1; have f2 := b0.frozen 2; have f3 := b0.frozen 3
  simp only [List.getElem?_toArray, List.getElem?_cons_zero, List.getElem?_cons_succ] at t0 t1 t2 t3
  clear hb0 b0 hc
  go_enter Tryd.func94, Tryd.ntmps94
  go_upto_region 1 with fail
  generalize W.alloc (.cells (enI 0 0 0 0) 83) = w1 at *
  go_wp2_with fail
  first
    | exact bodyPost_ret (results_cell_row rfl _ _ W.heap.size 83 _ (0, 0) _ rfl HBX.out Tryd.underlying83 rfl (by kernel_rfl)) rfl ⟨rfl, HBB.out⟩
    | trace_state
/-- What can be spanned, by the whole chart. -/
theorem can_all (l : List NdN) (w : List Nat) (hw : w.length ≤ 64) (q i j : Nat) (hq : q < l.length) (hij : i ≤ j) (hj : j ≤ w.length) : (stQ l w l.length q i).getLsbD j = canB l w q i j := by
  unfold stQ
  rw [if_pos ⟨hq, by omega⟩, get_row q i j (by omega)]
  simp [hij, hj]
theorem down_step (P : Nat → Bool) (j : Nat) (h : P (j + 1) = false) : downB P (j + 1) = downB P j := by rw [downB, if_neg (by rw [h]; simp)]
theorem down_here (P : Nat → Bool) (j : Nat) (h : P j = true) : downB P j = j := by
  cases j with
  | zero => rfl
  | succ j => rw [downB, if_pos h]
set_option maxRecDepth 100000 in
set_option maxHeartbeats 16000000 in
theorem split_calls (l : List NdN) (_hl : l.length ≤ 1000) (w : List Nat) (hw : w.length ≤ 64) (B lcp wcp : Nat) (la wa : Option Addr) (p r F T : Nat) (hp : p < l.length) (hr : r < l.length) (hT : T ≤ w.length)
    (hex : ∃ m, F ≤ m ∧ m ≤ T ∧ (canB l w p F m && canB l w r m T) = true) (W : World) (hR : RowD l.length B (stQ l w l.length) W) :
    Calls Tryd.prog 95 #[.agg (chA l.length w.length B lcp wcp la wa), .int .i64 (p : Nat), .int .i64 (r : Nat), .agg #[.int .i64 (F : Nat), .int .i64 (T : Nat)]] W fun e W' => e = .returned (.int .i64 (downB (fun m => canB l w p F m && canB l w r m T) T : Nat)) ∧ Below W.heap.size W W' := by
  obtain ⟨m0, h1, h2, h3⟩ := hex
  have HB := Lib.hid (show Below W.heap.size W ((W.alloc (.cells (chA l.length w.length B lcp wcp la wa) 64)).alloc (.cells #[.int .i64 (F : Nat), .int .i64 (T : Nat)] 25)) by go_grown)
  have b0 := (Blk.new W (chA l.length w.length B lcp wcp la wa) 64).alloc (.cells #[.int .i64 (F : Nat), .int .i64 (T : Nat)] 25)
  have b1 := Blk.new (W.alloc (.cells (chA l.length w.length B lcp wcp la wa) 64)) #[.int .i64 (F : Nat), .int .i64 (T : Nat)] 25
  rw [World.size_alloc] at b1
  have hz : ((W.alloc (.cells (chA l.length w.length B lcp wcp la wa) 64)).alloc (.cells #[.int .i64 (F : Nat), .int .i64 (T : Nat)] 25)).heap.size = W.heap.size + 2 := by simp only [World.size_alloc]
  have HP0 := Lib.hid b0
  have HP1 := Lib.hid b1
  have HR := Lib.hid (hR.below HB.out)
  have HCA := Lib.hid (fun (q i j : Nat) (hq : q < l.length) (hij : i ≤ j) (hj : j ≤ w.length) (W' : World) (h : RowD l.length B (stQ l w l.length) W') => (canC_calls l.length w.length B lcp wcp q i j la wa (stQ l w l.length) hq (by omega) (by omega) W' h).mono fun e w' h => show e = .returned (.bool (canB l w q i j)) ∧ Below W'.heap.size W' w' from ⟨by rw [← can_all l w hw q i j hq hij hj]; exact h.1, h.2⟩)
  obtain ⟨D, hD⟩ : ∃ D, downB (fun m => canB l w p F m && canB l w r m T) T = D := ⟨_, rfl⟩
  rw [hD]
  have HD := Lib.hid hD
  have H3 := Lib.hid h3
  clear b0 b1 hR hD h3
  go_enter Tryd.func95, Tryd.ntmps95
  go_upto_region 1 with fail
  generalize (W.alloc (.cells (chA l.length w.length B lcp wcp la wa) 64)).alloc (.cells #[.int .i64 (F : Nat), .int .i64 (T : Nat)] 25) = w1 at *
  have g0 := HP1.out.cell 0; have g1 := HP1.out.cell 1
  simp only [List.getElem?_toArray, List.getElem?_cons_zero, List.getElem?_cons_succ] at g0 g1
  go_wp2_with fail
  clear g0 g1
  go_loopw [9] (fun vi wr => ∃ j : Nat, m0 ≤ j ∧ j ≤ T ∧ vi = .int .i64 j ∧ downB (fun m => canB l w p F m && canB l w r m T) j = D ∧ Below w1.heap.size w1 wr) (fun vi _ => (intOf vi).toNat)
  case atStart => exact ⟨T, h2, Nat.le_refl _, rfl, HD.out, Below.refl _ _⟩
  case round =>
    obtain ⟨j, hmj, hjT, rfl, hd, hB⟩ := hrel
    have HPr0 := Lib.hid (HP0.out.below hB (by omega))
    have HPr1 := Lib.hid (HP1.out.below hB (by omega))
    have HRr := Lib.hid (HR.out.below hB)
    have HBr := Lib.hid hB
    have hzr : W.heap.size + 2 ≤ wr.heap.size := by have := hB.size; omega
    have HDD := Lib.hid hd
    clear hB hd
    obtain ⟨c0, c1, c2⟩ := blk3 HPr0.out
    have g0 := HPr1.out.cell 0; have g1 := HPr1.out.cell 1
    simp only [List.getElem?_toArray, List.getElem?_cons_zero, List.getElem?_cons_succ] at g0 g1
    have xj : IntKind.i64.wrap ((j : Int) - 1) = (j : Int) - 1 := IntWalk.i64_in _ (by omega)
    go_wp2_with fail
    refine (HCA.out p F j hp (by omega) (by omega) _ HRr.out).mono ?_
    rintro e w3 ⟨rfl, hb3⟩
    have HB3 := Lib.hid (HBr.out.trans (hb3.mono HBr.out.size))
    have HP03 := Lib.hid (HPr0.out.below hb3 (by omega))
    have HP13 := Lib.hid (HPr1.out.below hb3 (by omega))
    have HR3 := Lib.hid (HRr.out.below hb3)
    have hz3 : W.heap.size + 2 ≤ w3.heap.size := Nat.le_trans hzr hb3.size
    clear hb3 c0 c1 c2 g0 g1
    obtain ⟨c0, c1, c2⟩ := blk3 HP03.out
    have g0 := HP13.out.cell 0; have g1 := HP13.out.cell 1
    simp only [List.getElem?_toArray, List.getElem?_cons_zero, List.getElem?_cons_succ] at g0 g1
    obtain ⟨z1, hz1⟩ : ∃ z, canB l w p F j = z := ⟨_, rfl⟩
    rw [hz1]
    have HZ1 := Lib.hid hz1
    clear hz1
    cases z1
    · -- not this one
      have hne : j ≠ m0 := by
        rintro rfl
        have := H3.out
        rw [HZ1.out] at this; cases this
      have HNX := Lib.hid (show downB (fun m => canB l w p F m && canB l w r m T) (j - 1) = D by
        rw [← HDD.out]
        obtain ⟨j', rfl⟩ : ∃ j', j = j' + 1 := ⟨j - 1, by omega⟩
        rw [down_step _ j' (by show (canB l w p F (j' + 1) && _) = false; rw [HZ1.out]; rfl)]; rfl)
      go_wp2_with fail
      go_roundw
      case rel => exact ⟨j - 1, by omega, by omega, congrArg _ (by omega), HNX.out, HB3.out⟩
      case measure => simp [intOf]; omega
    · go_wp2_with fail
      refine (HCA.out r j T hr (by omega) (by omega) _ HR3.out).mono ?_
      rintro e w4 ⟨rfl, hb4⟩
      have HB4 := Lib.hid (HB3.out.trans (hb4.mono HB3.out.size))
      clear hb4
      obtain ⟨z2, hz2⟩ : ∃ z, canB l w r j T = z := ⟨_, rfl⟩
      rw [hz2]
      have HZ2 := Lib.hid hz2
      clear hz2
      cases z2
      · have hne : j ≠ m0 := by
          rintro rfl
          have := H3.out
          rw [HZ2.out, Bool.and_false] at this; cases this
        have HNX := Lib.hid (show downB (fun m => canB l w p F m && canB l w r m T) (j - 1) = D by
          rw [← HDD.out]
          obtain ⟨j', rfl⟩ : ∃ j', j = j' + 1 := ⟨j - 1, by omega⟩
          rw [down_step _ j' (by show (_ && canB l w r (j' + 1) T) = false; rw [HZ2.out, Bool.and_false])]; rfl)
        go_wp2_with fail
        go_roundw
        case rel => exact ⟨j - 1, by omega, by omega, congrArg _ (by omega), HNX.out, HB4.out⟩
        case measure => simp [intOf]; omega
      · have HE := Lib.hid (show j = D by
          rw [← HDD.out]
          exact (down_here _ j (by show (canB l w p F j && canB l w r j T) = true; rw [HZ1.out, HZ2.out]; rfl)).symm)
        go_wp2_with fail
        go_ret
        exact ⟨by rw [← HE.out]; rfl, HB.out.trans (HB4.out.mono (by omega))⟩
end Go.Proofs.YtdpkhliojbeglaaDoor

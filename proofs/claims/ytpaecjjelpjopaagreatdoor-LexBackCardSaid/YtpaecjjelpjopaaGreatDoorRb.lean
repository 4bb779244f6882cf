/- The document's sets, by the reference's own calls: Range, Both, Not. -/
import Derived.Test.YtpaecjjelpjopaaGreatDoorRa
import Derived.Test.YtpaecjjelpjopaaGreatDoorP1
namespace Go.Proofs.YtpaecjjelpjopaaGreatDoor
open Go.RowKit BS

theorem infoBools : (Tryz.prog.info? 72).map (·.size) = some 256 := by kernel_rfl
theorem zeroBools : ∃ zs : Array Value, Bools zs (fun _ => false) ∧ ∀ w, (zeroValue 72).run Tryz.prog w = .ok (.agg zs) w := by
  refine ⟨Array.replicate 256 (.bool false), ⟨by simp, fun i hi => by simp [hi]⟩, fun w => ?_⟩
  have h : (zeroValue 72).run Tryz.prog w = .ok (.agg (Array.replicate 256 (.bool false))) w := by kernel_rfl
  exact h

theorem Bools.congr {arr : Array Value} {f g : Nat → Bool} (h : Bools arr f) (e : ∀ j, j < 256 → f j = g j) : Bools arr g := ⟨h.1, fun i hi => by rw [h.2 i hi, e i hi]⟩

def SG (w : World) (f : Nat → Bool) (W : World) : Prop :=
  ∃ arr, Bools arr f ∧ (Blk W w.heap.size (setA 0) 25 ∧ Blk W (w.heap.size + 1) arr 72) ∧ Below w.heap.size w W

set_option maxRecDepth 100000 in
set_option maxHeartbeats 2000000 in
/-- Range, by the document. -/
theorem rrange_calls (lo hi : Nat) (w : World) (h1 : lo < 256) (h2 : hi < 256) :
    Calls Tryz.prog 21 #[.int .i64 lo, .int .i64 hi] w fun e w' => e = .returned (setV (range lo hi)) ∧ Below w.heap.size w w' := by
  obtain ⟨zs, hzb, hz⟩ := zeroBools
  have h0 : SG w (fun j => decide (lo ≤ j) && decide (j < lo)) ((w.alloc (.cells (setA 0) 25)).alloc (.cells zs 72)) := by
    refine ⟨zs, hzb.congr (fun j _ => ?_), ⟨(Blk.new w _ _).alloc _, ?_⟩, by go_grown⟩
    · by_cases h : lo ≤ j
      · simp [show ¬ j < lo by omega]
      · simp [h]
    · have := Blk.new (w.alloc (.cells (setA 0) 25)) zs 72
      rwa [World.size_alloc] at this
  clear hzb
  go_enter Tryz.func21, Tryz.ntmps21
  go_wp2_with fail
  have e0 : (w.alloc (.cells #[.int .u64 0, .int .u64 0, .int .u64 0, .int .u64 0] 25)).alloc (.cells zs 72) = (w.alloc (.cells (setA 0) 25)).alloc (.cells zs 72) := rfl
  rw [e0]
  clear e0 hz
  generalize (w.alloc (.cells (setA 0) 25)).alloc (.cells zs 72) = w1 at *
  go_loopw [6] (fun i wr => ∃ k : Nat, lo ≤ k ∧ k ≤ 256 ∧ (k ≤ hi + 1 ∨ k = lo) ∧ i = .int .i64 k ∧ SG w (fun j => decide (lo ≤ j) && decide (j < k)) wr) (fun i _ => 256 - (intOf i).toNat)
  case atStart => exact ⟨lo, Nat.le_refl _, by omega, .inr rfl, rfl, h0⟩
  case round =>
    clear h0
    obtain ⟨k, hlk, hk, hkh, rfl, arr, hb, ⟨bR, bL⟩, hB⟩ := hrel
    by_cases hkl : k ≤ hi
    · have hc := (bL.cell k).trans (hb.2 k (by omega))
      have hf := bL.frozen k
      have HB := Lib.hid hb
      clear hb hkh
      go_wp2
      go_roundw
      case rel =>
        refine ⟨k + 1, by omega, by omega, .inl (by omega), by simp, _, (HB.out.set k true).congr ?_, ⟨bR.other (by omega) _ _, bL.set k _⟩, below_set hB (by omega) _ _⟩
        intro j _
        by_cases hjk : j = k
        · subst hjk; simp [hlk]
        · have : (j < k + 1) ↔ (j < k) := by omega
          simp [hjk, this]
      case measure => simp [intOf]; omega
    · have he : ofFn (fun j => decide (lo ≤ j) && decide (j < k)) = range lo hi := by
        unfold range
        apply ofFn_congr; intro j _
        by_cases h : lo ≤ j
        · simp only [h, decide_true, Bool.true_and, decide_eq_decide]; omega
        · simp [h]
      have hOf := of_calls arr _ hb
      rw [he] at hOf
      have HO := Lib.hid hOf
      have hi3 : (Tryz.prog.info? 72).map (·.size) = some arr.size := by rw [hb.1]; exact infoBools
      have HI := Lib.hid hi3
      have BL := Lib.hid bL
      clear hb hOf he hkh bL hi3
      go_wp2_with (refine wpList_load_row rfl 72 _ rfl (w.heap.size + 1) rfl 72 arr (0, 0) _ BL.out Tryz.underlying72 rfl HI.out ?_)
      refine (HO.out _).mono ?_
      rintro e w2 ⟨rfl, hb2⟩
      have bR2 := bR.below hb2 bR.lt
      have hB2 := hB.trans (hb2.mono hB.size)
      obtain ⟨⟨d0, d1, d2, d3⟩, g0, g1, g2, g3⟩ := bR2.cells4
      have HB2 := Lib.hid hB2
      have BR2 := Lib.hid bR2
      clear hb2 BL HI HO hB bR hB2 bR2
      generalize ht : range lo hi = t at *
      have HT := Lib.hid ht
      clear ht
      go_wp2
      obtain ⟨hR, hB⟩ := fin4 BR2.out HB2.out (Nat.le_refl _) t
      clear d0 d1 d2 d3 g0 g1 g2 g3 HB2 BR2
      generalize (((w2.setCell ⟨w.heap.size, 0, none⟩ (.int .u64 (wd t 0))).setCell ⟨w.heap.size, 1, none⟩ (.int .u64 (wd t 1))).setCell ⟨w.heap.size, 2, none⟩ (.int .u64 (wd t 2))).setCell ⟨w.heap.size, 3, none⟩ (.int .u64 (wd t 3)) = W4 at *
      obtain ⟨⟨e0, e1, e2, e3⟩, _⟩ := hR.cells4
      exact bodyPost_ret (v := setV t) (by simp [results, Tryz.results21, go_sem, e0, e1, e2, e3]) rfl ⟨by rw [HT.out], hB⟩

def bothF (how : Nat) (x y : Bool) : Bool := (how == 1 && (x || y)) || (how == 2 && x && y) || (how == 3 && x && !y)

def S2 (w : World) (a b : BitVec 256) (arr : Array Value) (W : World) : Prop :=
  (Blk W w.heap.size (setA a) 25 ∧ Blk W (w.heap.size + 1) (setA b) 25 ∧ Blk W (w.heap.size + 1 + 1) (setA 0) 25 ∧ Blk W (w.heap.size + 1 + 1 + 1) arr 72) ∧ Below w.heap.size w W
theorem keep2 {w W W' : World} {a b : BitVec 256} {arr : Array Value} (h : S2 w a b arr W) (hb : Below W.heap.size W W') : S2 w a b arr W' :=
  ⟨⟨h.1.1.below hb h.1.1.lt, h.1.2.1.below hb h.1.2.1.lt, h.1.2.2.1.below hb h.1.2.2.1.lt, h.1.2.2.2.below hb h.1.2.2.2.lt⟩, h.2.trans (hb.mono h.2.size)⟩
theorem drew2 {w W : World} {a b : BitVec 256} {arr : Array Value} (h : S2 w a b arr W) : S2 w a b arr W.drew := ⟨⟨h.1.1, h.1.2.1, h.1.2.2.1, h.1.2.2.2⟩, h.2.drew⟩

set_option maxRecDepth 100000 in
set_option maxHeartbeats 4000000 in
/-- Both, by the document, at each of its three ways. -/
theorem both_calls (a b : BitVec 256) (how : Nat) (hhow : how = 1 ∨ how = 2 ∨ how = 3) (w : World) :
    Calls Tryz.prog 51 #[setV a, setV b, .int .i64 how] w fun e w' => e = .returned (setV (ofFn fun j => bothF how (a.getLsbD j) (b.getLsbD j))) ∧ Below w.heap.size w w' := by
  obtain ⟨zs, hzb, hz⟩ := zeroBools
  have h0 : ∃ arr, Bools arr (fun j => decide (j < 0) && bothF how (a.getLsbD j) (b.getLsbD j)) ∧ S2 w a b arr ((((w.alloc (.cells (setA a) 25)).alloc (.cells (setA b) 25)).alloc (.cells (setA 0) 25)).alloc (.cells zs 72)) := by
    refine ⟨zs, hzb.congr (fun j _ => by simp), ⟨(((Blk.new w _ _).alloc _).alloc _).alloc _, ?_, ?_, ?_⟩, by go_grown⟩
    · have := ((Blk.new (w.alloc (.cells (setA a) 25)) (setA b) 25).alloc (.cells (setA 0) 25)).alloc (.cells zs 72)
      rwa [World.size_alloc] at this
    · have := (Blk.new ((w.alloc (.cells (setA a) 25)).alloc (.cells (setA b) 25)) (setA 0) 25).alloc (.cells zs 72)
      rwa [World.size_alloc, World.size_alloc] at this
    · have := Blk.new (((w.alloc (.cells (setA a) 25)).alloc (.cells (setA b) 25)).alloc (.cells (setA 0) 25)) zs 72
      rwa [World.size_alloc, World.size_alloc, World.size_alloc] at this
  clear hzb
  have HH := Lib.hid hhow
  clear hhow
  go_enter Tryz.func51, Tryz.ntmps51
  go_wp2_with fail
  have e0 : ((((w.alloc (.cells #[.int .u64 (wd a 0), .int .u64 (wd a 1), .int .u64 (wd a 2), .int .u64 (wd a 3)] 25)).alloc (.cells #[.int .u64 (wd b 0), .int .u64 (wd b 1), .int .u64 (wd b 2), .int .u64 (wd b 3)] 25)).alloc (.cells #[.int .u64 0, .int .u64 0, .int .u64 0, .int .u64 0] 25)).alloc (.cells zs 72)) = ((((w.alloc (.cells (setA a) 25)).alloc (.cells (setA b) 25)).alloc (.cells (setA 0) 25)).alloc (.cells zs 72)) := rfl
  rw [e0]
  clear e0 hz
  generalize ((((w.alloc (.cells (setA a) 25)).alloc (.cells (setA b) 25)).alloc (.cells (setA 0) 25)).alloc (.cells zs 72)) = w1 at *
  go_loopw [8] (fun i wr => ∃ k : Nat, k ≤ 256 ∧ i = .int .i64 k ∧ ∃ arr, Bools arr (fun j => decide (j < k) && bothF how (a.getLsbD j) (b.getLsbD j)) ∧ S2 w a b arr wr) (fun i _ => 256 - (intOf i).toNat)
  case atStart => exact ⟨0, by omega, rfl, h0⟩
  case round =>
    clear h0
    obtain ⟨k, hk, rfl, arr, hb, hU⟩ := hrel
    by_cases hkl : k < 256
    · have HB := Lib.hid hb
      clear hb
      go_wp2_with fail
      refine region_steps (S := S2 w a b arr) (by kernel_rfl) (drew2 hU) ?_
      simp only [List.size_toArray, List.length_cons, List.length_nil, Nat.reduceAdd, Array.replicate_succ, Array.replicate_zero, List.push_toArray, List.nil_append, List.cons_append]
      refine AnyS.next (i := 0) (d := some 15) (v := setV a) rfl rfl (by kernel_rfl) (by kernel_rfl) (by kernel_rfl) (StepsIf.yield (by kernel_rfl) (fun w' hS => by obtain ⟨⟨c0, c1, c2, c3⟩, _⟩ := hS.1.1.cells4; clear hS; go_simp)) ?_
      intro a' ha'
      simp only [Act.put, List.setIfInBounds_toArray, List.set_cons_zero, List.set_cons_succ] at ha'
      subst ha'
      refine AnyS.next (i := 1) (d := some 16) (v := .int .i64 ((k : Nat) : Int)) rfl rfl (by kernel_rfl) (by kernel_rfl) (by kernel_rfl) (StepsIf.yield (by kernel_rfl) (fun w' hS => by clear hS; go_simp)) ?_
      intro a' ha'
      simp only [Act.put, List.setIfInBounds_toArray, List.set_cons_zero, List.set_cons_succ] at ha'
      subst ha'
      refine AnyS.next (i := 2) (d := some 17) (v := .bool (a.getLsbD k)) rfl rfl (by kernel_rfl) (by kernel_rfl) (by kernel_rfl) (StepsIf.call (by kernel_rfl) (fun w' hS => by clear hS; go_simp) (fun w' hS => (rhas_calls a k w' (by omega) (by omega)).mono fun e w'' h => ⟨h.1, keep2 hS h.2⟩)) ?_
      intro a' ha'
      simp only [Act.put, List.setIfInBounds_toArray, List.set_cons_zero, List.set_cons_succ] at ha'
      subst ha'
      refine AnyS.next (i := 3) (d := some 18) (v := setV b) rfl rfl (by kernel_rfl) (by kernel_rfl) (by kernel_rfl) (StepsIf.yield (by kernel_rfl) (fun w' hS => by obtain ⟨⟨c0, c1, c2, c3⟩, _⟩ := hS.1.2.1.cells4; clear hS; go_simp)) ?_
      intro a' ha'
      simp only [Act.put, List.setIfInBounds_toArray, List.set_cons_zero, List.set_cons_succ] at ha'
      subst ha'
      refine AnyS.next (i := 4) (d := some 19) (v := .int .i64 ((k : Nat) : Int)) rfl rfl (by kernel_rfl) (by kernel_rfl) (by kernel_rfl) (StepsIf.yield (by kernel_rfl) (fun w' hS => by clear hS; go_simp)) ?_
      intro a' ha'
      simp only [Act.put, List.setIfInBounds_toArray, List.set_cons_zero, List.set_cons_succ] at ha'
      subst ha'
      refine AnyS.next (i := 5) (d := some 20) (v := .bool (b.getLsbD k)) rfl rfl (by kernel_rfl) (by kernel_rfl) (by kernel_rfl) (StepsIf.call (by kernel_rfl) (fun w' hS => by clear hS; go_simp) (fun w' hS => (rhas_calls b k w' (by omega) (by omega)).mono fun e w'' h => ⟨h.1, keep2 hS h.2⟩)) ?_
      intro a' ha'
      simp only [Act.put, List.setIfInBounds_toArray, List.set_cons_zero, List.set_cons_succ] at ha'
      subst ha'
      refine AnyS.next (i := 6) (d := some 9) (v := .bool (a.getLsbD k)) rfl rfl (by kernel_rfl) (by kernel_rfl) (by kernel_rfl) (StepsIf.yield (by kernel_rfl) (fun w' hS => by clear hS; go_simp)) ?_
      intro a' ha'
      simp only [Act.put, List.setIfInBounds_toArray, List.set_cons_zero, List.set_cons_succ] at ha'
      subst ha'
      refine AnyS.next (i := 7) (d := some 10) (v := .bool (b.getLsbD k)) rfl rfl (by kernel_rfl) (by kernel_rfl) (by kernel_rfl) (StepsIf.yield (by kernel_rfl) (fun w' hS => by clear hS; go_simp)) ?_
      intro a' ha'
      simp only [Act.put, List.setIfInBounds_toArray, List.set_cons_zero, List.set_cons_succ] at ha'
      subst ha'
      refine AnyS.done (by kernel_rfl) ?_ _
      clear hU
      intro w2 hU
      have hc := (hU.1.2.2.2.cell k).trans (HB.out.2 k hkl)
      have hf := hU.1.2.2.2.frozen k
      have HU := Lib.hid hU
      clear hU
      have key : ∀ v, v = bothF how (a.getLsbD k) (b.getLsbD k) → ∃ arr', Bools arr' (fun j => decide (j < k + 1) && bothF how (a.getLsbD j) (b.getLsbD j)) ∧ S2 w a b arr' (w2.setCell ⟨w.heap.size + 1 + 1 + 1, k, none⟩ (.bool v)) := fun v hv => by
        refine ⟨_, (HB.out.set k v).congr ?_, ⟨HU.out.1.1.other (by omega) _ _, HU.out.1.2.1.other (by omega) _ _, HU.out.1.2.2.1.other (by omega) _ _, HU.out.1.2.2.2.set k _⟩, below_set HU.out.2 (by omega) _ _⟩
        intro j _
        by_cases hjk : j = k
        · subst hjk; simp [hv]
        · have : (j < k + 1) ↔ (j < k) := by omega
          simp [hjk, this]
      have KEY := Lib.hid key
      clear key
      generalize a.getLsbD k = x at *
      generalize b.getLsbD k = y at *
      rcases HH.out with rfl | rfl | rfl <;> cases x <;> cases y
      all_goals
        go_wp2
        go_roundw
        case rel => exact ⟨k + 1, by omega, by simp, KEY.out _ rfl⟩
        case measure => simp [intOf]; omega
    · obtain rfl : k = 256 := by omega
      have hOf := of_calls arr _ (hb.congr (g := fun j => bothF how (a.getLsbD j) (b.getLsbD j)) (fun j hj => by simp [hj]))
      have HO := Lib.hid hOf
      have hi3 : (Tryz.prog.info? 72).map (·.size) = some arr.size := by rw [hb.1]; exact infoBools
      have HI := Lib.hid hi3
      have bR := hU.1.2.2.1
      have hB := hU.2
      have BL := Lib.hid hU.1.2.2.2
      clear hb hOf hi3 hU HH
      go_wp2_with (refine wpList_load_row rfl 72 _ rfl (w.heap.size + 1 + 1 + 1) rfl 72 arr (0, 0) _ BL.out Tryz.underlying72 rfl HI.out ?_)
      refine (HO.out _).mono ?_
      rintro e w2 ⟨rfl, hb2⟩
      have bR2 := bR.below hb2 bR.lt
      have hB2 := hB.trans (hb2.mono hB.size)
      obtain ⟨⟨d0, d1, d2, d3⟩, g0, g1, g2, g3⟩ := bR2.cells4
      have HB2 := Lib.hid hB2
      have BR2 := Lib.hid bR2
      clear hb2 BL HI HO hB bR hB2 bR2
      generalize ht : (ofFn fun j => bothF how (a.getLsbD j) (b.getLsbD j)) = t at *
      have HT := Lib.hid ht
      clear ht
      go_wp2
      obtain ⟨hR, hB⟩ := fin4 BR2.out HB2.out (by omega) t
      clear d0 d1 d2 d3 g0 g1 g2 g3 HB2 BR2
      generalize (((w2.setCell ⟨w.heap.size + 1 + 1, 0, none⟩ (.int .u64 (wd t 0))).setCell ⟨w.heap.size + 1 + 1, 1, none⟩ (.int .u64 (wd t 1))).setCell ⟨w.heap.size + 1 + 1, 2, none⟩ (.int .u64 (wd t 2))).setCell ⟨w.heap.size + 1 + 1, 3, none⟩ (.int .u64 (wd t 3)) = W4 at *
      obtain ⟨⟨e0, e1, e2, e3⟩, _⟩ := hR.cells4
      exact bodyPost_ret (v := setV t) (by simp [results, Tryz.results51, go_sem, e0, e1, e2, e3]) rfl ⟨by rw [HT.out], hB⟩

theorem both_or (a b : BitVec 256) : (ofFn fun j => bothF 1 (a.getLsbD j) (b.getLsbD j)) = a ||| b := by
  apply BitVec.eq_of_getLsbD_eq; intro j hj
  rw [get_ofFn, BitVec.getLsbD_or]; simp only [hj]
  cases a.getLsbD j <;> cases b.getLsbD j <;> rfl
theorem both_and (a b : BitVec 256) : (ofFn fun j => bothF 2 (a.getLsbD j) (b.getLsbD j)) = a &&& b := by
  apply BitVec.eq_of_getLsbD_eq; intro j hj
  rw [get_ofFn, BitVec.getLsbD_and]; simp only [hj]
  cases a.getLsbD j <;> cases b.getLsbD j <;> rfl
theorem both_less (a b : BitVec 256) : (ofFn fun j => bothF 3 (a.getLsbD j) (b.getLsbD j)) = a &&& ~~~b := by
  apply BitVec.eq_of_getLsbD_eq; intro j hj
  rw [get_ofFn, BitVec.getLsbD_and, BitVec.getLsbD_not]; simp only [hj]
  cases a.getLsbD j <;> cases b.getLsbD j <;> rfl
theorem ror_calls (a b : BitVec 256) (w : World) : Calls Tryz.prog 51 #[setV a, setV b, .int .i64 1] w fun e w' => e = .returned (setV (a ||| b)) ∧ Below w.heap.size w w' := by
  have h := both_calls a b 1 (.inl rfl) w
  rw [both_or] at h; exact h
theorem rand_calls (a b : BitVec 256) (w : World) : Calls Tryz.prog 51 #[setV a, setV b, .int .i64 2] w fun e w' => e = .returned (setV (a &&& b)) ∧ Below w.heap.size w w' := by
  have h := both_calls a b 2 (.inr (.inl rfl)) w
  rw [both_and] at h; exact h
theorem rless_calls (a b : BitVec 256) (w : World) : Calls Tryz.prog 51 #[setV a, setV b, .int .i64 3] w fun e w' => e = .returned (setV (a &&& ~~~b)) ∧ Below w.heap.size w w' := by
  have h := both_calls a b 3 (.inr (.inr rfl)) w
  rw [both_less] at h; exact h

theorem full_not (s : BitVec 256) : (range 0 255 &&& ~~~s) = ~~~s := by
  apply BitVec.eq_of_getLsbD_eq; intro j hj
  rw [BitVec.getLsbD_and, BitVec.getLsbD_not, range, get_ofFn]
  simp [hj, show j ≤ 255 by omega]

end Go.Proofs.YtpaecjjelpjopaaGreatDoor

/- Texts put together: Rb Co Cn Cr Gp Gq Gt Gu Gv Sz Rm. -/
import Derived.Test.YthodphgbdmnpoaaGreatPE
import Derived.Test.YthodphgbdmnpoaaGreatPB
import Derived.Laws.ResultCell
import Derived.Deep.WholeRow
import Derived.Test.YthodphgbdmnpoaaGreatPD
import Derived.Deep.MidRow
import Derived.Maps.AppendAt
/- The document's sets, by the reference's own calls: Range, Both, Not. -/
namespace Go.Proofs.YthodphgbdmnpoaaGreat
open Go.RowKit BS

theorem infoBools : (Tryz.prog.info? 85).map (·.size) = some 256 := by kernel_rfl
theorem zeroBools : ∃ zs : Array Value, Bools zs (fun _ => false) ∧ ∀ w, (zeroValue 85).run Tryz.prog w = .ok (.agg zs) w := by
  refine ⟨Array.replicate 256 (.bool false), ⟨by simp, fun i hi => by simp [hi]⟩, fun w => ?_⟩
  have h : (zeroValue 85).run Tryz.prog w = .ok (.agg (Array.replicate 256 (.bool false))) w := by kernel_rfl
  exact h

theorem Bools.congr {arr : Array Value} {f g : Nat → Bool} (h : Bools arr f) (e : ∀ j, j < 256 → f j = g j) : Bools arr g := ⟨h.1, fun i hi => by rw [h.2 i hi, e i hi]⟩

def SG (w : World) (f : Nat → Bool) (W : World) : Prop :=
  ∃ arr, Bools arr f ∧ (Blk W w.heap.size (setA 0) 34 ∧ Blk W (w.heap.size + 1) arr 85) ∧ Below w.heap.size w W

set_option maxRecDepth 100000 in
set_option maxHeartbeats 2000000 in
/-- Range, by the document. -/
theorem rrange_calls (lo hi : Nat) (w : World) (h1 : lo < 256) (h2 : hi < 256) :
    Calls Tryz.prog 32 #[.int .i64 lo, .int .i64 hi] w fun e w' => e = .returned (setV (range lo hi)) ∧ Below w.heap.size w w' := by
  obtain ⟨zs, hzb, hz⟩ := zeroBools
  have h0 : SG w (fun j => decide (lo ≤ j) && decide (j < lo)) ((w.alloc (.cells (setA 0) 34)).alloc (.cells zs 85)) := by
    refine ⟨zs, hzb.congr (fun j _ => ?_), ⟨(Blk.new w _ _).alloc _, ?_⟩, by go_grown⟩
    · by_cases h : lo ≤ j
      · simp [show ¬ j < lo by omega]
      · simp [h]
    · have := Blk.new (w.alloc (.cells (setA 0) 34)) zs 85
      rwa [World.size_alloc] at this
  clear hzb
  go_enter Tryz.func32, Tryz.ntmps32
  go_wp2_with fail
  have e0 : (w.alloc (.cells #[.int .u64 0, .int .u64 0, .int .u64 0, .int .u64 0] 34)).alloc (.cells zs 85) = (w.alloc (.cells (setA 0) 34)).alloc (.cells zs 85) := rfl
  rw [e0]
  clear e0 hz
  generalize (w.alloc (.cells (setA 0) 34)).alloc (.cells zs 85) = w1 at *
  go_loopw [6] (fun i wr => ∃ k : Nat, lo ≤ k ∧ k ≤ 256 ∧ (k ≤ hi + 1 ∨ k = lo) ∧ i = .int .i64 k ∧ SG w (fun j => decide (lo ≤ j) && decide (j < k)) wr) (fun i _ => 256 - (intOf i).toNat)
  case atStart => exact ⟨lo, Nat.le_refl _, by omega, .inr rfl, rfl, h0⟩
  case round =>
    clear h0
    obtain ⟨k, hlk, hk, hkh, rfl, arr, hb, ⟨bR, bL⟩, hB⟩ := hrel
    by_cases hkl : k ≤ hi
    · have hc := (bL.cell k).trans (hb.2 k (by omega))
      have hf := bL.frozen k
      have HB := Lib.hid hb
      clear hb hkh
      go_wp2
      go_roundw
      case rel =>
        refine ⟨k + 1, by omega, by omega, .inl (by omega), by simp, _, (HB.out.set k true).congr ?_, ⟨bR.other (by omega) _ _, bL.set k _⟩, below_set hB (by omega) _ _⟩
        intro j _
        by_cases hjk : j = k
        · subst hjk; simp [hlk]
        · have : (j < k + 1) ↔ (j < k) := by omega
          simp [hjk, this]
      case measure => simp [intOf]; omega
    · have he : ofFn (fun j => decide (lo ≤ j) && decide (j < k)) = range lo hi := by
        unfold range
        apply ofFn_congr; intro j _
        by_cases h : lo ≤ j
        · simp only [h, decide_true, Bool.true_and, decide_eq_decide]; omega
        · simp [h]
      have hOf := of_calls arr _ hb
      rw [he] at hOf
      have HO := Lib.hid hOf
      have hi3 : (Tryz.prog.info? 85).map (·.size) = some arr.size := by rw [hb.1]; exact infoBools
      have HI := Lib.hid hi3
      have BL := Lib.hid bL
      clear hb hOf he hkh bL hi3
      go_wp2_with (refine wpList_load_row rfl 85 _ rfl (w.heap.size + 1) rfl 85 arr (0, 0) _ BL.out Tryz.underlying85 rfl HI.out ?_)
      refine (HO.out _).mono ?_
      rintro e w2 ⟨rfl, hb2⟩
      have bR2 := bR.below hb2 bR.lt
      have hB2 := hB.trans (hb2.mono hB.size)
      obtain ⟨⟨d0, d1, d2, d3⟩, g0, g1, g2, g3⟩ := bR2.cells4
      have HB2 := Lib.hid hB2
      have BR2 := Lib.hid bR2
      clear hb2 BL HI HO hB bR hB2 bR2
      generalize ht : range lo hi = t at *
      have HT := Lib.hid ht
      clear ht
      go_wp2
      obtain ⟨hR, hB⟩ := fin4 BR2.out HB2.out (Nat.le_refl _) t
      clear d0 d1 d2 d3 g0 g1 g2 g3 HB2 BR2
      generalize (((w2.setCell ⟨w.heap.size, 0, none⟩ (.int .u64 (wd t 0))).setCell ⟨w.heap.size, 1, none⟩ (.int .u64 (wd t 1))).setCell ⟨w.heap.size, 2, none⟩ (.int .u64 (wd t 2))).setCell ⟨w.heap.size, 3, none⟩ (.int .u64 (wd t 3)) = W4 at *
      obtain ⟨⟨e0, e1, e2, e3⟩, _⟩ := hR.cells4
      exact bodyPost_ret (v := setV t) (by simp [results, Tryz.results32, go_sem, e0, e1, e2, e3]) rfl ⟨by rw [HT.out], hB⟩

def bothF (how : Nat) (x y : Bool) : Bool := (how == 1 && (x || y)) || (how == 2 && x && y) || (how == 3 && x && !y)

def S2 (w : World) (a b : BitVec 256) (arr : Array Value) (W : World) : Prop :=
  (Blk W w.heap.size (setA a) 34 ∧ Blk W (w.heap.size + 1) (setA b) 34 ∧ Blk W (w.heap.size + 1 + 1) (setA 0) 34 ∧ Blk W (w.heap.size + 1 + 1 + 1) arr 85) ∧ Below w.heap.size w W
theorem keep2 {w W W' : World} {a b : BitVec 256} {arr : Array Value} (h : S2 w a b arr W) (hb : Below W.heap.size W W') : S2 w a b arr W' :=
  ⟨⟨h.1.1.below hb h.1.1.lt, h.1.2.1.below hb h.1.2.1.lt, h.1.2.2.1.below hb h.1.2.2.1.lt, h.1.2.2.2.below hb h.1.2.2.2.lt⟩, h.2.trans (hb.mono h.2.size)⟩
theorem drew2 {w W : World} {a b : BitVec 256} {arr : Array Value} (h : S2 w a b arr W) : S2 w a b arr W.drew := ⟨⟨h.1.1, h.1.2.1, h.1.2.2.1, h.1.2.2.2⟩, h.2.drew⟩

set_option maxRecDepth 100000 in
set_option maxHeartbeats 4000000 in
/-- Both, by the document, at each of its three ways. -/
theorem both_calls (a b : BitVec 256) (how : Nat) (hhow : how = 1 ∨ how = 2 ∨ how = 3) (w : World) :
    Calls Tryz.prog 49 #[setV a, setV b, .int .i64 how] w fun e w' => e = .returned (setV (ofFn fun j => bothF how (a.getLsbD j) (b.getLsbD j))) ∧ Below w.heap.size w w' := by
  obtain ⟨zs, hzb, hz⟩ := zeroBools
  have h0 : ∃ arr, Bools arr (fun j => decide (j < 0) && bothF how (a.getLsbD j) (b.getLsbD j)) ∧ S2 w a b arr ((((w.alloc (.cells (setA a) 34)).alloc (.cells (setA b) 34)).alloc (.cells (setA 0) 34)).alloc (.cells zs 85)) := by
    refine ⟨zs, hzb.congr (fun j _ => by simp), ⟨(((Blk.new w _ _).alloc _).alloc _).alloc _, ?_, ?_, ?_⟩, by go_grown⟩
    · have := ((Blk.new (w.alloc (.cells (setA a) 34)) (setA b) 34).alloc (.cells (setA 0) 34)).alloc (.cells zs 85)
      rwa [World.size_alloc] at this
    · have := (Blk.new ((w.alloc (.cells (setA a) 34)).alloc (.cells (setA b) 34)) (setA 0) 34).alloc (.cells zs 85)
      rwa [World.size_alloc, World.size_alloc] at this
    · have := Blk.new (((w.alloc (.cells (setA a) 34)).alloc (.cells (setA b) 34)).alloc (.cells (setA 0) 34)) zs 85
      rwa [World.size_alloc, World.size_alloc, World.size_alloc] at this
  clear hzb
  have HH := Lib.hid hhow
  clear hhow
  go_enter Tryz.func49, Tryz.ntmps49
  go_wp2_with fail
  have e0 : ((((w.alloc (.cells #[.int .u64 (wd a 0), .int .u64 (wd a 1), .int .u64 (wd a 2), .int .u64 (wd a 3)] 34)).alloc (.cells #[.int .u64 (wd b 0), .int .u64 (wd b 1), .int .u64 (wd b 2), .int .u64 (wd b 3)] 34)).alloc (.cells #[.int .u64 0, .int .u64 0, .int .u64 0, .int .u64 0] 34)).alloc (.cells zs 85)) = ((((w.alloc (.cells (setA a) 34)).alloc (.cells (setA b) 34)).alloc (.cells (setA 0) 34)).alloc (.cells zs 85)) := rfl
  rw [e0]
  clear e0 hz
  generalize ((((w.alloc (.cells (setA a) 34)).alloc (.cells (setA b) 34)).alloc (.cells (setA 0) 34)).alloc (.cells zs 85)) = w1 at *
  go_loopw [8] (fun i wr => ∃ k : Nat, k ≤ 256 ∧ i = .int .i64 k ∧ ∃ arr, Bools arr (fun j => decide (j < k) && bothF how (a.getLsbD j) (b.getLsbD j)) ∧ S2 w a b arr wr) (fun i _ => 256 - (intOf i).toNat)
  case atStart => exact ⟨0, by omega, rfl, h0⟩
  case round =>
    clear h0
    obtain ⟨k, hk, rfl, arr, hb, hU⟩ := hrel
    by_cases hkl : k < 256
    · have HB := Lib.hid hb
      clear hb
      go_wp2_with fail
      refine region_steps (S := S2 w a b arr) (by kernel_rfl) (drew2 hU) ?_
      simp only [List.size_toArray, List.length_cons, List.length_nil, Nat.reduceAdd, Array.replicate_succ, Array.replicate_zero, List.push_toArray, List.nil_append, List.cons_append]
      refine AnyS.next (i := 0) (d := some 15) (v := setV a) rfl rfl (by kernel_rfl) (by kernel_rfl) (by kernel_rfl) (StepsIf.yield (by kernel_rfl) (fun w' hS => by obtain ⟨⟨c0, c1, c2, c3⟩, _⟩ := hS.1.1.cells4; clear hS; go_simp)) ?_
      intro a' ha'
      simp only [Act.put, List.setIfInBounds_toArray, List.set_cons_zero, List.set_cons_succ] at ha'
      subst ha'
      refine AnyS.next (i := 1) (d := some 16) (v := .int .i64 ((k : Nat) : Int)) rfl rfl (by kernel_rfl) (by kernel_rfl) (by kernel_rfl) (StepsIf.yield (by kernel_rfl) (fun w' hS => by clear hS; go_simp)) ?_
      intro a' ha'
      simp only [Act.put, List.setIfInBounds_toArray, List.set_cons_zero, List.set_cons_succ] at ha'
      subst ha'
      refine AnyS.next (i := 2) (d := some 17) (v := .bool (a.getLsbD k)) rfl rfl (by kernel_rfl) (by kernel_rfl) (by kernel_rfl) (StepsIf.call (by kernel_rfl) (fun w' hS => by clear hS; go_simp) (fun w' hS => (rhas_calls a k w' (by omega) (by omega)).mono fun e w'' h => ⟨h.1, keep2 hS h.2⟩)) ?_
      intro a' ha'
      simp only [Act.put, List.setIfInBounds_toArray, List.set_cons_zero, List.set_cons_succ] at ha'
      subst ha'
      refine AnyS.next (i := 3) (d := some 18) (v := setV b) rfl rfl (by kernel_rfl) (by kernel_rfl) (by kernel_rfl) (StepsIf.yield (by kernel_rfl) (fun w' hS => by obtain ⟨⟨c0, c1, c2, c3⟩, _⟩ := hS.1.2.1.cells4; clear hS; go_simp)) ?_
      intro a' ha'
      simp only [Act.put, List.setIfInBounds_toArray, List.set_cons_zero, List.set_cons_succ] at ha'
      subst ha'
      refine AnyS.next (i := 4) (d := some 19) (v := .int .i64 ((k : Nat) : Int)) rfl rfl (by kernel_rfl) (by kernel_rfl) (by kernel_rfl) (StepsIf.yield (by kernel_rfl) (fun w' hS => by clear hS; go_simp)) ?_
      intro a' ha'
      simp only [Act.put, List.setIfInBounds_toArray, List.set_cons_zero, List.set_cons_succ] at ha'
      subst ha'
      refine AnyS.next (i := 5) (d := some 20) (v := .bool (b.getLsbD k)) rfl rfl (by kernel_rfl) (by kernel_rfl) (by kernel_rfl) (StepsIf.call (by kernel_rfl) (fun w' hS => by clear hS; go_simp) (fun w' hS => (rhas_calls b k w' (by omega) (by omega)).mono fun e w'' h => ⟨h.1, keep2 hS h.2⟩)) ?_
      intro a' ha'
      simp only [Act.put, List.setIfInBounds_toArray, List.set_cons_zero, List.set_cons_succ] at ha'
      subst ha'
      refine AnyS.next (i := 6) (d := some 9) (v := .bool (a.getLsbD k)) rfl rfl (by kernel_rfl) (by kernel_rfl) (by kernel_rfl) (StepsIf.yield (by kernel_rfl) (fun w' hS => by clear hS; go_simp)) ?_
      intro a' ha'
      simp only [Act.put, List.setIfInBounds_toArray, List.set_cons_zero, List.set_cons_succ] at ha'
      subst ha'
      refine AnyS.next (i := 7) (d := some 10) (v := .bool (b.getLsbD k)) rfl rfl (by kernel_rfl) (by kernel_rfl) (by kernel_rfl) (StepsIf.yield (by kernel_rfl) (fun w' hS => by clear hS; go_simp)) ?_
      intro a' ha'
      simp only [Act.put, List.setIfInBounds_toArray, List.set_cons_zero, List.set_cons_succ] at ha'
      subst ha'
      refine AnyS.done (by kernel_rfl) ?_ _
      clear hU
      intro w2 hU
      have hc := (hU.1.2.2.2.cell k).trans (HB.out.2 k hkl)
      have hf := hU.1.2.2.2.frozen k
      have HU := Lib.hid hU
      clear hU
      have key : ∀ v, v = bothF how (a.getLsbD k) (b.getLsbD k) → ∃ arr', Bools arr' (fun j => decide (j < k + 1) && bothF how (a.getLsbD j) (b.getLsbD j)) ∧ S2 w a b arr' (w2.setCell ⟨w.heap.size + 1 + 1 + 1, k, none⟩ (.bool v)) := fun v hv => by
        refine ⟨_, (HB.out.set k v).congr ?_, ⟨HU.out.1.1.other (by omega) _ _, HU.out.1.2.1.other (by omega) _ _, HU.out.1.2.2.1.other (by omega) _ _, HU.out.1.2.2.2.set k _⟩, below_set HU.out.2 (by omega) _ _⟩
        intro j _
        by_cases hjk : j = k
        · subst hjk; simp [hv]
        · have : (j < k + 1) ↔ (j < k) := by omega
          simp [hjk, this]
      have KEY := Lib.hid key
      clear key
      generalize a.getLsbD k = x at *
      generalize b.getLsbD k = y at *
      rcases HH.out with rfl | rfl | rfl <;> cases x <;> cases y
      all_goals
        go_wp2
        go_roundw
        case rel => exact ⟨k + 1, by omega, by simp, KEY.out _ rfl⟩
        case measure => simp [intOf]; omega
    · obtain rfl : k = 256 := by omega
      have hOf := of_calls arr _ (hb.congr (g := fun j => bothF how (a.getLsbD j) (b.getLsbD j)) (fun j hj => by simp [hj]))
      have HO := Lib.hid hOf
      have hi3 : (Tryz.prog.info? 85).map (·.size) = some arr.size := by rw [hb.1]; exact infoBools
      have HI := Lib.hid hi3
      have bR := hU.1.2.2.1
      have hB := hU.2
      have BL := Lib.hid hU.1.2.2.2
      clear hb hOf hi3 hU HH
      go_wp2_with (refine wpList_load_row rfl 85 _ rfl (w.heap.size + 1 + 1 + 1) rfl 85 arr (0, 0) _ BL.out Tryz.underlying85 rfl HI.out ?_)
      refine (HO.out _).mono ?_
      rintro e w2 ⟨rfl, hb2⟩
      have bR2 := bR.below hb2 bR.lt
      have hB2 := hB.trans (hb2.mono hB.size)
      obtain ⟨⟨d0, d1, d2, d3⟩, g0, g1, g2, g3⟩ := bR2.cells4
      have HB2 := Lib.hid hB2
      have BR2 := Lib.hid bR2
      clear hb2 BL HI HO hB bR hB2 bR2
      generalize ht : (ofFn fun j => bothF how (a.getLsbD j) (b.getLsbD j)) = t at *
      have HT := Lib.hid ht
      clear ht
      go_wp2
      obtain ⟨hR, hB⟩ := fin4 BR2.out HB2.out (by omega) t
      clear d0 d1 d2 d3 g0 g1 g2 g3 HB2 BR2
      generalize (((w2.setCell ⟨w.heap.size + 1 + 1, 0, none⟩ (.int .u64 (wd t 0))).setCell ⟨w.heap.size + 1 + 1, 1, none⟩ (.int .u64 (wd t 1))).setCell ⟨w.heap.size + 1 + 1, 2, none⟩ (.int .u64 (wd t 2))).setCell ⟨w.heap.size + 1 + 1, 3, none⟩ (.int .u64 (wd t 3)) = W4 at *
      obtain ⟨⟨e0, e1, e2, e3⟩, _⟩ := hR.cells4
      exact bodyPost_ret (v := setV t) (by simp [results, Tryz.results49, go_sem, e0, e1, e2, e3]) rfl ⟨by rw [HT.out], hB⟩

theorem both_or (a b : BitVec 256) : (ofFn fun j => bothF 1 (a.getLsbD j) (b.getLsbD j)) = a ||| b := by
  apply BitVec.eq_of_getLsbD_eq; intro j hj
  rw [get_ofFn, BitVec.getLsbD_or]; simp only [hj]
  cases a.getLsbD j <;> cases b.getLsbD j <;> rfl
theorem both_and (a b : BitVec 256) : (ofFn fun j => bothF 2 (a.getLsbD j) (b.getLsbD j)) = a &&& b := by
  apply BitVec.eq_of_getLsbD_eq; intro j hj
  rw [get_ofFn, BitVec.getLsbD_and]; simp only [hj]
  cases a.getLsbD j <;> cases b.getLsbD j <;> rfl
theorem both_less (a b : BitVec 256) : (ofFn fun j => bothF 3 (a.getLsbD j) (b.getLsbD j)) = a &&& ~~~b := by
  apply BitVec.eq_of_getLsbD_eq; intro j hj
  rw [get_ofFn, BitVec.getLsbD_and, BitVec.getLsbD_not]; simp only [hj]
  cases a.getLsbD j <;> cases b.getLsbD j <;> rfl
theorem ror_calls (a b : BitVec 256) (w : World) : Calls Tryz.prog 49 #[setV a, setV b, .int .i64 1] w fun e w' => e = .returned (setV (a ||| b)) ∧ Below w.heap.size w w' := by
  have h := both_calls a b 1 (.inl rfl) w
  rw [both_or] at h; exact h
theorem rand_calls (a b : BitVec 256) (w : World) : Calls Tryz.prog 49 #[setV a, setV b, .int .i64 2] w fun e w' => e = .returned (setV (a &&& b)) ∧ Below w.heap.size w w' := by
  have h := both_calls a b 2 (.inr (.inl rfl)) w
  rw [both_and] at h; exact h
theorem rless_calls (a b : BitVec 256) (w : World) : Calls Tryz.prog 49 #[setV a, setV b, .int .i64 3] w fun e w' => e = .returned (setV (a &&& ~~~b)) ∧ Below w.heap.size w w' := by
  have h := both_calls a b 3 (.inr (.inr rfl)) w
  rw [both_less] at h; exact h

theorem full_not (s : BitVec 256) : (range 0 255 &&& ~~~s) = ~~~s := by
  apply BitVec.eq_of_getLsbD_eq; intro j hj
  rw [BitVec.getLsbD_and, BitVec.getLsbD_not, range, get_ofFn]
  simp [hj, show j ≤ 255 by omega]

end Go.Proofs.YthodphgbdmnpoaaGreat

/- class.Of, Begins, Find, Names, Any: as the table says. -/
namespace Go.Proofs.YthodphgbdmnpoaaGreat
open Go.RowKit Go.Shelf BS

theorem ret_bool' {a b : Bool} (h : a = b) : Ending.returned (.bool a) = .returned (.bool b) := by rw [h]

set_option maxRecDepth 100000 in
set_option maxHeartbeats 2000000 in
theorem cOf_calls (name : ByteArray) (w : World) : Calls Tryz.prog 123 #[.string name] w fun e w' => e = .returned (.tuple #[setV (ofS name.toList), .bool (ofB name.toList)]) ∧ Below w.heap.size w w' := by
  have b0 := Blk.new w (setA 0) 34
  have hB0 : Below w.heap.size w (w.alloc (.cells (setA 0) 34)) := by go_grown
  go_enter Tryz.func123, Tryz.ntmps123
  go_wp2_with fail
  refine (table_calls _).mono ?_
  rintro e w1 ⟨rfl, hb1⟩
  replace b0 := b0.below hb1 (by simp)
  replace hB0 := hB0.trans (hb1.mono (by simp))
  clear hb1
  go_wp2_with fail
  go_loopw [7] (fun i wr => ∃ k : Nat, k ≤ 12 ∧ i = .int .i64 k ∧ (∀ j, j < k → (tE j).1.toList ≠ name.toList) ∧ Blk wr w.heap.size (setA 0) 34 ∧ Below w.heap.size w wr) (fun i _ => 12 - (intOf i).toNat)
  case atStart => exact ⟨0, by omega, rfl, fun j hj => by omega, b0, hB0⟩
  case round =>
    clear b0 hB0
    obtain ⟨k, hk, rfl, hno, hb, hB⟩ := hrel
    have HN := Lib.hid hno
    clear hno
    by_cases hkl : k < 12
    · have hix := tab_index k hkl
      by_cases hq : (tE k).1.toList = name.toList
      · have HS := Lib.hid (ofS_at name.toList k hkl HN.out hq)
        have HO := Lib.hid (ofB_at name.toList k hkl HN.out hq)
        have hqb : ((tE k).1.toList == name.toList) = true := beq_iff_eq.2 hq
        clear hq
        generalize (tE k).1 = nm at *
        generalize (tE k).2 = st at *
        obtain ⟨⟨c0, c1, c2, c3⟩, f0, f1, f2, f3⟩ := hb.cells4
        have hlt := hb.lt
        have hne : w.heap.size ≠ wr.heap.size := by omega
        go_wp2
        obtain ⟨hR, hBB⟩ := fin4 hb hB (Nat.le_refl _) st
        replace hR := hR.alloc (.cells #[.string nm, .int .u64 (wd st 0), .int .u64 (wd st 1), .int .u64 (wd st 2), .int .u64 (wd st 3)] 164)
        replace hBB := hBB.alloc (by simp; omega) (.cells #[.string nm, .int .u64 (wd st 0), .int .u64 (wd st 1), .int .u64 (wd st 2), .int .u64 (wd st 3)] 164)
        clear c0 c1 c2 c3 f0 f1 f2 f3 hb hB hix hqb
        generalize (((((wr.setCell ⟨w.heap.size, 0, none⟩ (.int .u64 (wd st 0))).setCell ⟨w.heap.size, 1, none⟩ (.int .u64 (wd st 1))).setCell ⟨w.heap.size, 2, none⟩ (.int .u64 (wd st 2))).setCell ⟨w.heap.size, 3, none⟩ (.int .u64 (wd st 3))).alloc (.cells #[.string nm, .int .u64 (wd st 0), .int .u64 (wd st 1), .int .u64 (wd st 2), .int .u64 (wd st 3)] 164)) = W4 at *
        obtain ⟨⟨e0, e1, e2, e3⟩, _⟩ := hR.cells4
        exact bodyPost_ret (v := .tuple #[setV st, .bool true]) (by simp [results, Tryz.results123, go_sem, e0, e1, e2, e3]) rfl ⟨by rw [HS.out, HO.out], hBB⟩
      · have hqb : ((tE k).1.toList == name.toList) = false := beq_eq_false_iff_ne.2 hq
        have HQ := Lib.hid hq
        clear hq
        generalize hnm : (tE k).1 = nm at hqb hix
        generalize (tE k).2 = st at *
        have HNM := Lib.hid hnm
        clear hnm
        go_wp2
        go_roundw
        case rel =>
          refine ⟨k + 1, by omega, by simp, fun j hj => ?_, hb.alloc _, hB.alloc hB.size _⟩
          by_cases hjk : j = k
          · subst hjk; exact HQ.out
          · exact HN.out j (by omega)
        case measure => simp [intOf]; omega
    · obtain rfl : k = 12 := by omega
      obtain ⟨⟨c0, c1, c2, c3⟩, f0, f1, f2, f3⟩ := hb.cells4
      go_wp2
      obtain ⟨hR, hBB⟩ := fin4 hb hB (Nat.le_refl _) 0
      have e9 : ((((wr.setCell ⟨w.heap.size, 0, none⟩ (.int .u64 0)).setCell ⟨w.heap.size, 1, none⟩ (.int .u64 0)).setCell ⟨w.heap.size, 2, none⟩ (.int .u64 0)).setCell ⟨w.heap.size, 3, none⟩ (.int .u64 0)) = ((((wr.setCell ⟨w.heap.size, 0, none⟩ (.int .u64 (wd 0 0))).setCell ⟨w.heap.size, 1, none⟩ (.int .u64 (wd 0 1))).setCell ⟨w.heap.size, 2, none⟩ (.int .u64 (wd 0 2))).setCell ⟨w.heap.size, 3, none⟩ (.int .u64 (wd 0 3))) := rfl
      rw [e9]
      clear e9 c0 c1 c2 c3 f0 f1 f2 f3 hb hB
      generalize ((((wr.setCell ⟨w.heap.size, 0, none⟩ (.int .u64 (wd 0 0))).setCell ⟨w.heap.size, 1, none⟩ (.int .u64 (wd 0 1))).setCell ⟨w.heap.size, 2, none⟩ (.int .u64 (wd 0 2))).setCell ⟨w.heap.size, 3, none⟩ (.int .u64 (wd 0 3))) = W4 at *
      obtain ⟨⟨e0, e1, e2, e3⟩, _⟩ := hR.cells4
      exact bodyPost_ret (v := .tuple #[setV 0, .bool false]) (by simp [results, Tryz.results123, go_sem, e0, e1, e2, e3]) rfl ⟨by rw [ofS_not _ HN.out, ofB_not _ HN.out], hBB⟩

/-! ### Begins -/
def pfx (nm s : ByteArray) : Bool := decide (s.size ≤ nm.size) && ((nm.extract 0 s.size).toList == s.toList)
def begB (l : ByteArray) : Bool := tabL.any fun e => pfx e.1 l
theorem begB_at (l : ByteArray) (k : Nat) (hk : k < 12) (h : pfx (tE k).1 l = true) : begB l = true := by
  unfold begB
  rw [List.any_eq_true]
  exact ⟨tabL[k], List.getElem_mem _, by rw [← tE_eq k hk]; exact h⟩
theorem begB_not (l : ByteArray) (hf : ∀ j, j < 12 → pfx (tE j).1 l = false) : begB l = false := by
  unfold begB
  rw [List.any_eq_false]
  intro x hx
  obtain ⟨j, hj, rfl⟩ := List.getElem_of_mem hx
  rw [← tE_eq j hj, hf j hj]
  simp

set_option maxHeartbeats 1000000 in
theorem hp1_calls (s p : ByteArray) (_hs : s.size ≤ 9223372036854775807) (_hp : p.size ≤ 9223372036854775807) (w : World) : Calls Tryz.prog 132 #[.string s, .string p] w fun e w' => e = .returned (.bool (pfx s p)) ∧ w = w' := by
  by_cases hl : p.size ≤ s.size
  · have h1 : decide (p.size ≤ s.size) = true := by simpa using hl
    go_enter Tryz.func132, Tryz.ntmps132
    go_wp2
    go_ret
    exact ⟨ret_bool' (by simp only [pfx, h1, Bool.true_and]), rfl⟩
  · have h1 : decide (p.size ≤ s.size) = false := by simpa using hl
    go_enter Tryz.func132, Tryz.ntmps132
    go_wp2
    go_ret
    exact ⟨ret_bool' (by simp only [pfx, h1, Bool.false_and]), rfl⟩
set_option maxHeartbeats 1000000 in
theorem hp_calls (s p : ByteArray) (hs : s.size ≤ 9223372036854775807) (hp : p.size ≤ 9223372036854775807) (w : World) : Calls Tryz.prog 127 #[.string s, .string p] w fun e w' => e = .returned (.bool (pfx s p)) ∧ w = w' := by
  go_enter Tryz.func127, Tryz.ntmps127
  go_wp2_with (go_at_call 132; refine (hp1_calls s p hs hp _).mono ?_; rintro e w' ⟨rfl, rfl⟩)
  go_ret
  exact ⟨rfl, rfl⟩
theorem tE_size (k : Nat) (hk : k < 12) : (tE k).1.size ≤ 9223372036854775807 := by
  have h : ∀ j, j < 12 → decide ((tE j).1.size ≤ 9223372036854775807) = true := by decide +kernel
  simpa using h k hk

set_option maxRecDepth 100000 in
set_option maxHeartbeats 2000000 in
theorem cBegins_calls (s : ByteArray) (hs : s.size ≤ 9223372036854775807) (w : World) : Calls Tryz.prog 122 #[.string s] w fun e w' => e = .returned (.bool (begB s)) ∧ Below w.heap.size w w' := by
  go_enter Tryz.func122, Tryz.ntmps122
  go_wp2_with fail
  refine (table_calls _).mono ?_
  rintro e w1 ⟨rfl, hb1⟩
  go_wp2_with fail
  go_loopw [6] (fun i wr => ∃ k : Nat, k ≤ 12 ∧ i = .int .i64 k ∧ (∀ j, j < k → pfx (tE j).1 s = false) ∧ Below w.heap.size w wr) (fun i _ => 12 - (intOf i).toNat)
  case atStart => exact ⟨0, by omega, rfl, fun j hj => by omega, hb1⟩
  case round =>
    clear hb1
    obtain ⟨k, hk, rfl, hno, hB⟩ := hrel
    have HN := Lib.hid hno
    clear hno
    by_cases hkl : k < 12
    · have hix := tab_index k hkl
      have hnz := tE_size k hkl
      cases hq : pfx (tE k).1 s with
      | true =>
        have HS := Lib.hid (begB_at s k hkl hq)
        have HQ := Lib.hid hq
        clear hq
        generalize (tE k).1 = nm at *
        generalize (tE k).2 = st at *
        go_wp2_with (go_at_call 127; refine (hp_calls nm s hnz hs _).mono ?_; rintro e w' ⟨rfl, rfl⟩; rw [HQ.out])
        go_ret
        exact ⟨by rw [HS.out]; rfl, hB.alloc hB.size _⟩
      | false =>
        have HQ := Lib.hid hq
        clear hq
        generalize hnm : (tE k).1 = nm at hix hnz
        generalize (tE k).2 = st at *
        have HNM := Lib.hid hnm
        clear hnm
        go_wp2_with (go_at_call 127; refine (hp_calls nm s hnz hs _).mono ?_; rintro e w' ⟨rfl, rfl⟩; rw [← HNM.out, HQ.out])
        go_roundw
        case rel =>
          refine ⟨k + 1, by omega, by simp, fun j hj => ?_, hB.alloc hB.size _⟩
          by_cases hjk : j = k
          · subst hjk; exact HQ.out
          · exact HN.out j (by omega)
        case measure => simp [intOf]; omega
    · obtain rfl : k = 12 := by omega
      go_wp2
      go_ret
      exact ⟨by rw [begB_not _ HN.out]; rfl, hB⟩

/-! ### Find -/
def fndS (s : BitVec 256) : ByteArray := ((tabL.find? fun e => e.2 == s).map (·.1)).getD ⟨#[]⟩
theorem fndS_at (s : BitVec 256) (k : Nat) (hk : k < 12) (hf : ∀ j, j < k → (tE j).2 ≠ s) (h : (tE k).2 = s) : fndS s = (tE k).1 := by
  have h1 : (tabL.find? fun e => e.2 == s) = some (tE k) := by
    rw [tE_eq k hk]
    refine find_at _ tabL k hk (fun j hj => ?_) ?_
    · have := hf j hj
      rw [tE_eq j (by omega)] at this
      exact beq_eq_false_iff_ne.2 this
    · rw [tE_eq k hk] at h
      exact beq_iff_eq.2 h
  rw [fndS, h1]; rfl
theorem fndS_not (s : BitVec 256) (hf : ∀ j, j < 12 → (tE j).2 ≠ s) : fndS s = ⟨#[]⟩ := by
  have h1 : (tabL.find? fun e => e.2 == s) = none := by
    refine find_not _ tabL fun j hj => ?_
    have := hf j hj
    rw [tE_eq j hj] at this
    exact beq_eq_false_iff_ne.2 this
  rw [fndS, h1]; rfl

set_option maxHeartbeats 1000000 in
theorem cAny_calls (w : World) : Calls Tryz.prog 107 #[] w fun e w' => e = .returned (setV (~~~(0 : BitVec 256))) ∧ Below w.heap.size w w' := by
  have b0 := Blk.new w (setA 0) 34
  have hB0 : Below w.heap.size w (w.alloc (.cells (setA 0) 34)) := by go_grown
  go_enter Tryz.func107, Tryz.ntmps107
  go_wp2_with fail
  refine (not_calls 0 _).mono ?_
  rintro e w1 ⟨rfl, hb1⟩
  replace b0 := b0.below hb1 (by simp)
  replace hB0 := hB0.trans (hb1.mono (by simp))
  clear hb1
  obtain ⟨⟨c0, c1, c2, c3⟩, f0, f1, f2, f3⟩ := b0.cells4
  generalize ht : (~~~(0 : BitVec 256)) = t at *
  have HT := Lib.hid ht
  clear ht
  go_wp2
  obtain ⟨hR, hBB⟩ := fin4 b0 hB0 (Nat.le_refl _) t
  clear c0 c1 c2 c3 f0 f1 f2 f3 b0 hB0
  generalize ((((w1.setCell ⟨w.heap.size, 0, none⟩ (.int .u64 (wd t 0))).setCell ⟨w.heap.size, 1, none⟩ (.int .u64 (wd t 1))).setCell ⟨w.heap.size, 2, none⟩ (.int .u64 (wd t 2))).setCell ⟨w.heap.size, 3, none⟩ (.int .u64 (wd t 3))) = W4 at *
  obtain ⟨⟨e0, e1, e2, e3⟩, _⟩ := hR.cells4
  exact bodyPost_ret (v := setV t) (by simp [results, Tryz.results107, go_sem, e0, e1, e2, e3]) rfl ⟨by rw [HT.out], hBB⟩
end Go.Proofs.YthodphgbdmnpoaaGreat

/- class.Names, and the document's Names: the twelve names. -/
namespace Go.Proofs.YthodphgbdmnpoaaGreat
open Go.RowKit Go.Shelf BS

def namV : Array Value := (tabL.map fun e => Value.string e.1).toArray
theorem namV_get (k : Nat) (h : k < 12) : namV[k]? = some (.string (tE k).1) := by
  have h1 : k < tabL.length := h
  simp only [namV, List.getElem?_toArray, List.getElem?_map, List.getElem?_eq_getElem h1, Option.map_some, tE_eq k h] <;> rfl

set_option maxRecDepth 100000 in
set_option maxHeartbeats 2000000 in
theorem rNames_calls (w : World) : Calls Tryz.prog 54 #[] w fun e w' => ∃ g, e = .returned (.slice (some ⟨g, 0, none⟩) 12 12) ∧ (w.heap.size ≤ g ∧ Blk w' g namV 9) ∧ Below w.heap.size w w' := by
  go_enter Tryz.func54, Tryz.ntmps54
  go_wp2
  go_ret
  exact ⟨w.heap.size, rfl, ⟨Nat.le_refl _, Blk.new w namV _⟩, (Below.refl _ _).alloc (Nat.le_refl _) _⟩

@[reducible] def tabZ : Array Value := #[.string ⟨#[]⟩, .int .u64 0, .int .u64 0, .int .u64 0, .int .u64 0, .string ⟨#[]⟩, .int .u64 0, .int .u64 0, .int .u64 0, .int .u64 0, .string ⟨#[]⟩, .int .u64 0, .int .u64 0, .int .u64 0, .int .u64 0, .string ⟨#[]⟩, .int .u64 0, .int .u64 0, .int .u64 0, .int .u64 0, .string ⟨#[]⟩, .int .u64 0, .int .u64 0, .int .u64 0, .int .u64 0, .string ⟨#[]⟩, .int .u64 0, .int .u64 0, .int .u64 0, .int .u64 0, .string ⟨#[]⟩, .int .u64 0, .int .u64 0, .int .u64 0, .int .u64 0, .string ⟨#[]⟩, .int .u64 0, .int .u64 0, .int .u64 0, .int .u64 0, .string ⟨#[]⟩, .int .u64 0, .int .u64 0, .int .u64 0, .int .u64 0, .string ⟨#[]⟩, .int .u64 0, .int .u64 0, .int .u64 0, .int .u64 0, .string ⟨#[]⟩, .int .u64 0, .int .u64 0, .int .u64 0, .int .u64 0, .string ⟨#[]⟩, .int .u64 0, .int .u64 0, .int .u64 0, .int .u64 0]
theorem mk12 (w : World) : (Instr.makeSlice 106 (.int .i64 12) (.int .i64 12)).run Tryz.prog w = .ok (.slice (some ⟨w.heap.size, 0, none⟩) 12 12) (w.alloc (.cells #[.string ⟨#[]⟩, .string ⟨#[]⟩, .string ⟨#[]⟩, .string ⟨#[]⟩, .string ⟨#[]⟩, .string ⟨#[]⟩, .string ⟨#[]⟩, .string ⟨#[]⟩, .string ⟨#[]⟩, .string ⟨#[]⟩, .string ⟨#[]⟩, .string ⟨#[]⟩] 9)) := by kernel_rfl
theorem wpList_store_row {P : Program} {ops : Array Oper} {rest : List Oper} {o : Oper} {a : Act} {w w' : World} {Q : Exit → Act → World → Prop} {cs : Array Value} (hgd : o.guard = none) (ty : TypeId) (x y : Operand) (ho : o.op = .store ty x y)
    (g : Nat) (hx : a.eval x = .pointer (some ⟨g, 0, none⟩)) (hy : a.eval y = .agg cs) (hst : (Instr.storeAt ty (.pointer (some ⟨g, 0, none⟩)) (.agg cs)).run P w = .ok () w') (h : wpList P ops Q rest (a.put o.dst undef) w') : wpList P ops Q (o :: rest) a w :=
  wpList_plain hgd fun _ hK => wp_store_row ty x y ho g hx hy hst (hK _ _ h)

set_option maxRecDepth 100000 in
set_option maxHeartbeats 2000000 in
theorem cNames_calls (w : World) : Calls Tryz.prog 128 #[] w fun e w' => ∃ g, e = .returned (.slice (some ⟨g, 0, none⟩) 12 12) ∧ (w.heap.size ≤ g ∧ Blk w' g namV 9) ∧ Below w.heap.size w w' := by
  have hmk := mk12
  go_enter Tryz.func128, Tryz.ntmps128
  go_wp2_with fail
  refine (table_calls _).mono ?_
  rintro e w1 ⟨rfl, hb1⟩
  go_wp2_with (first
    | (with_reducible refine wpList_store_row (o := ⟨none, .store 165 _ _, _, _, _, _⟩) rfl 165 _ _ rfl w1.heap.size rfl rfl (run_storeAt_new w1 165 tabZ tabV (by kernel_rfl) rfl tabV_one) ?_
       have hbT := Blk.new w1 tabV 165)
    | (with_reducible refine wpList_load_row (o := ⟨_, .load 165 _, _, _, _, _⟩) rfl 165 _ rfl w1.heap.size rfl 165 tabV (0, 0) _ ?_ Tryz.underlying165 rfl ?_ ?_
       · exact hbT.alloc _
       · kernel_rfl))
  have hbN := Blk.new (w1.alloc (.cells tabV 165)) #[.string ⟨#[]⟩, .string ⟨#[]⟩, .string ⟨#[]⟩, .string ⟨#[]⟩, .string ⟨#[]⟩, .string ⟨#[]⟩, .string ⟨#[]⟩, .string ⟨#[]⟩, .string ⟨#[]⟩, .string ⟨#[]⟩, .string ⟨#[]⟩, .string ⟨#[]⟩] 9
  rw [World.size_alloc] at hbN
  have hB : Below w.heap.size w ((w1.alloc (.cells tabV 165)).alloc (.cells #[.string ⟨#[]⟩, .string ⟨#[]⟩, .string ⟨#[]⟩, .string ⟨#[]⟩, .string ⟨#[]⟩, .string ⟨#[]⟩, .string ⟨#[]⟩, .string ⟨#[]⟩, .string ⟨#[]⟩, .string ⟨#[]⟩, .string ⟨#[]⟩, .string ⟨#[]⟩] 9)) := (hb1.alloc hb1.size _).alloc (by have := hb1.size; simp; omega) _
  clear hbT hmk
  have hz := hb1.size
  have hG : w.heap.size ≤ w1.heap.size + 1 := by omega
  clear hb1 hz
  generalize (w1.alloc (.cells tabV 165)).alloc (.cells #[.string ⟨#[]⟩, .string ⟨#[]⟩, .string ⟨#[]⟩, .string ⟨#[]⟩, .string ⟨#[]⟩, .string ⟨#[]⟩, .string ⟨#[]⟩, .string ⟨#[]⟩, .string ⟨#[]⟩, .string ⟨#[]⟩, .string ⟨#[]⟩, .string ⟨#[]⟩] 9) = w2 at *
  generalize w1.heap.size + 1 = G at *
  go_loopw [8] (fun i wr => ∃ k : Nat, k ≤ 12 ∧ i = .int .i64 k ∧ (∃ vs : Array Value, vs.size = 12 ∧ (∀ j, j < k → vs[j]? = some (.string (tE j).1)) ∧ Blk wr G vs 9) ∧ Below w.heap.size w wr) (fun i _ => 12 - (intOf i).toNat)
  case atStart => exact ⟨0, by omega, rfl, ⟨_, rfl, fun j hj => by omega, hbN⟩, hB⟩
  case round =>
    clear hbN hB
    obtain ⟨k, hk, rfl, ⟨vs, hvs, hno, hb⟩, hB⟩ := hrel
    have HN := Lib.hid hno
    clear hno
    by_cases hkl : k < 12
    · have hix := tab_index k hkl
      have hd : decide (k < 12) = true := by simpa using hkl
      obtain ⟨old, hold⟩ : ∃ old, vs[k]? = some old := ⟨vs[k]'(by omega), by simp [show k < vs.size by omega]⟩
      generalize hnm : (tE k).1 = nm at hix
      generalize (tE k).2 = st at *
      have HNM := Lib.hid hnm
      clear hnm
      have hc := ((hb.alloc (.cells #[.string nm, .int .u64 (wd st 0), .int .u64 (wd st 1), .int .u64 (wd st 2), .int .u64 (wd st 3)] 164)).cell k).trans hold
      have hf := (hb.alloc (.cells #[.string nm, .int .u64 (wd st 0), .int .u64 (wd st 1), .int .u64 (wd st 2), .int .u64 (wd st 3)] 164)).frozen k
      go_wp2
      go_roundw
      case rel =>
        refine ⟨k + 1, by omega, by simp, ⟨vs.setIfInBounds k (.string nm), by simp [hvs], fun j hj => ?_, (hb.alloc _).set k _⟩, ?_⟩
        · by_cases hjk : j = k
          · subst hjk
            rw [HNM.out]
            simp [hvs, hkl]
          · rw [Array.getElem?_setIfInBounds_ne (Ne.symm hjk)]
            exact HN.out j (by omega)
        · exact below_set (hB.alloc hB.size _) hG _ _
      case measure => simp [intOf]; omega
    · obtain rfl : k = 12 := by omega
      have hv : vs = namV := by
        apply Array.ext
        · rw [hvs]; rfl
        · intro i h1 h2
          have e1 := HN.out i (by omega)
          have e2 := namV_get i (by omega)
          rw [Array.getElem?_eq_getElem h1] at e1
          rw [Array.getElem?_eq_getElem h2] at e2
          exact Option.some.inj (e1.trans e2.symm)
      subst hv
      go_wp2
      go_ret
      exact ⟨G, rfl, ⟨hG, hb⟩, hB⟩
end Go.Proofs.YthodphgbdmnpoaaGreat

/- The document's classes: Of, Begins, Find. -/
namespace Go.Proofs.YthodphgbdmnpoaaGreat
open Go.RowKit Go.Shelf BS

def SI (w : World) (f : Nat → Bool) (W : World) : Prop :=
  ∃ arr, Bools arr f ∧ (Blk W w.heap.size (setA 0) 34 ∧ Blk W (w.heap.size + 1) arr 85) ∧ Below w.heap.size w W
def NamAt (g : Nat) (W : World) : Prop := Blk W g namV 9
theorem NamAt.cell {g : Nat} {W : World} (h : NamAt g W) (k : Nat) (hk : k < 12) : W.cell? ⟨g, k, none⟩ = some (.string (tE k).1) := (Blk.cell h k).trans (namV_get k hk)

set_option maxRecDepth 100000 in
set_option maxHeartbeats 4000000 in
theorem rOf_calls (name : ByteArray) (w : World) : Calls Tryz.prog 50 #[.string name] w fun e w' => e = .returned (.tuple #[setV (ofS name.toList), .bool (ofB name.toList)]) ∧ Below w.heap.size w w' := by
  obtain ⟨zs, hzb, hz⟩ := zeroBools
  have h0 : SI w (fun j => decide (j < 0) && isC name.toList (j : Int)) ((w.alloc (.cells (setA 0) 34)).alloc (.cells zs 85)) := by
    refine ⟨zs, hzb.congr (fun j _ => by simp), ⟨(Blk.new w _ _).alloc _, ?_⟩, by go_grown⟩
    have := Blk.new (w.alloc (.cells (setA 0) 34)) zs 85
    rwa [World.size_alloc] at this
  clear hzb
  go_enter Tryz.func50, Tryz.ntmps50
  go_wp2_with fail
  have e0 : (w.alloc (.cells #[.int .u64 0, .int .u64 0, .int .u64 0, .int .u64 0] 34)).alloc (.cells zs 85) = (w.alloc (.cells (setA 0) 34)).alloc (.cells zs 85) := rfl
  rw [e0]
  clear e0 hz
  generalize (w.alloc (.cells (setA 0) 34)).alloc (.cells zs 85) = w1 at *
  go_loopw [5] (fun i wr => ∃ k : Nat, k ≤ 256 ∧ i = .int .i64 k ∧ SI w (fun j => decide (j < k) && isC name.toList (j : Int)) wr) (fun i _ => 256 - (intOf i).toNat)
  case atStart => exact ⟨0, by omega, rfl, h0⟩
  case round =>
    clear h0
    obtain ⟨k, hk, rfl, arr, hb, ⟨bR, bL⟩, hB⟩ := hrel
    by_cases hkl : k < 256
    · have hc := (bL.cell k).trans (hb.2 k hkl)
      have hf := bL.frozen k
      have HB := Lib.hid hb
      clear hb
      go_wp2_with (go_at_call 53; refine (is_calls _ _ _).mono ?_; rintro e w' ⟨rfl, rfl⟩)
      go_roundw
      case rel =>
        refine ⟨k + 1, by omega, by simp, _, (HB.out.set k (isC name.toList (k : Int))).congr ?_, ⟨bR.other (by omega) _ _, bL.set k _⟩, below_set hB (by omega) _ _⟩
        intro j _
        by_cases hjk : j = k
        · subst hjk; simp
        · have : (j < k + 1) ↔ (j < k) := by omega
          simp [hjk, this]
      case measure => simp [intOf]; omega
    · obtain rfl : k = 256 := by omega
      replace hb := hb.congr (g := fun j => isC name.toList (j : Int)) (fun j hj => by simp [hj])
      have HO := Lib.hid (of_calls arr _ hb)
      have hi3 : (Tryz.prog.info? 85).map (·.size) = some arr.size := by rw [hb.1]; exact infoBools
      have HI := Lib.hid hi3
      clear hb hi3
      go_wp2_with fail
      refine (rNames_calls _).mono ?_
      rintro e w2 ⟨g, rfl, ⟨hg, hN⟩, hb2⟩
      have bR2 := bR.below hb2 bR.lt
      have bL2 := bL.below hb2 bL.lt
      have hB2 := hB.trans (hb2.mono hB.size)
      have hg1 : w.heap.size < g := Nat.lt_of_lt_of_le bR.lt hg
      have hg2 : w.heap.size + 1 < g := Nat.lt_of_lt_of_le bL.lt hg
      have HN : Hid (NamAt g w2) := Lib.hid hN
      clear hN hg hb2 bR bL hB
      go_wp2_with fail
      go_loopw [7] (fun i wr => ∃ k : Nat, k ≤ 12 ∧ i = .int .i64 k ∧ (∀ j, j < k → (tE j).1.toList ≠ name.toList) ∧ w2 = wr) (fun i _ => 12 - (intOf i).toNat)
      case atStart => exact ⟨0, by omega, rfl, fun j hj => by omega, rfl⟩
      case round =>
        obtain ⟨k, hk, rfl, hno, rfl⟩ := hrel
        have HNO := Lib.hid hno
        clear hno
        by_cases hkl : k < 12
        · have hcn := HN.out.cell k hkl
          by_cases hq : (tE k).1.toList = name.toList
          · have HS := Lib.hid (ofS_at name.toList k hkl HNO.out hq)
            have HO2 := Lib.hid (ofB_at name.toList k hkl HNO.out hq)
            have HI2 := Lib.hid (isS_of name.toList k hkl hq)
            have hqb : ((tE k).1.toList == name.toList) = true := beq_iff_eq.2 hq
            clear hq
            generalize (tE k).1 = nm at *
            have HL := Lib.hid bL2
            have HB2 := Lib.hid hB2
            clear bL2 hB2
            go_wp2_with (refine wpList_load_row rfl 85 _ rfl (w.heap.size + 1) rfl 85 arr (0, 0) _ HL.out Tryz.underlying85 rfl HI.out ?_)
            refine (HO.out _).mono ?_
            rintro e w3 ⟨rfl, hb3⟩
            have bR3 := bR2.below hb3 bR2.lt
            have hB3 := HB2.out.trans (hb3.mono HB2.out.size)
            obtain ⟨⟨d0, d1, d2, d3⟩, g0, g1, g2, g3⟩ := bR3.cells4
            clear hb3 bR2 hcn hqb
            have ht : ofFn (fun j => isC name.toList (j : Int)) = (tE k).2 := HI2.out
            rw [ht]
            clear ht
            generalize hst : (tE k).2 = t at *
            have HT := Lib.hid hst
            clear hst
            go_wp2
            obtain ⟨hR, hBB⟩ := fin4 bR3 hB3 (Nat.le_refl _) t
            clear d0 d1 d2 d3 g0 g1 g2 g3 bR3 hB3
            generalize (((w3.setCell ⟨w.heap.size, 0, none⟩ (.int .u64 (wd t 0))).setCell ⟨w.heap.size, 1, none⟩ (.int .u64 (wd t 1))).setCell ⟨w.heap.size, 2, none⟩ (.int .u64 (wd t 2))).setCell ⟨w.heap.size, 3, none⟩ (.int .u64 (wd t 3)) = W4 at *
            obtain ⟨⟨e0, e1, e2, e3⟩, _⟩ := hR.cells4
            refine bodyPost_ret (v := .tuple #[setV t, .bool true]) ?_ ?_ ?_
            · simp [results, Tryz.results50, go_sem, e0, e1, e2, e3]
            · rfl
            · exact ⟨by rw [HS.out, HO2.out], hBB⟩
          · have hqb : ((tE k).1.toList == name.toList) = false := beq_eq_false_iff_ne.2 hq
            have HQ := Lib.hid hq
            clear hq
            generalize hnm : (tE k).1 = nm at hqb hcn
            have HNM := Lib.hid hnm
            clear hnm
            go_wp2
            go_roundw
            case rel =>
              refine ⟨k + 1, by omega, by simp, fun j hj => ?_, trivial⟩
              by_cases hjk : j = k
              · subst hjk; exact HQ.out
              · exact HNO.out j (by omega)
            case measure => simp [intOf]; omega
        · obtain rfl : k = 12 := by omega
          obtain ⟨⟨c0, c1, c2, c3⟩, f0, f1, f2, f3⟩ := bR2.cells4
          go_wp2
          obtain ⟨hR, hBB⟩ := fin4 bR2 hB2 (Nat.le_refl _) 0
          have e9 : ((((w2.setCell ⟨w.heap.size, 0, none⟩ (.int .u64 0)).setCell ⟨w.heap.size, 1, none⟩ (.int .u64 0)).setCell ⟨w.heap.size, 2, none⟩ (.int .u64 0)).setCell ⟨w.heap.size, 3, none⟩ (.int .u64 0)) = ((((w2.setCell ⟨w.heap.size, 0, none⟩ (.int .u64 (wd 0 0))).setCell ⟨w.heap.size, 1, none⟩ (.int .u64 (wd 0 1))).setCell ⟨w.heap.size, 2, none⟩ (.int .u64 (wd 0 2))).setCell ⟨w.heap.size, 3, none⟩ (.int .u64 (wd 0 3))) := rfl
          rw [e9]
          clear e9 c0 c1 c2 c3 f0 f1 f2 f3 bR2 hB2
          generalize ((((w2.setCell ⟨w.heap.size, 0, none⟩ (.int .u64 (wd 0 0))).setCell ⟨w.heap.size, 1, none⟩ (.int .u64 (wd 0 1))).setCell ⟨w.heap.size, 2, none⟩ (.int .u64 (wd 0 2))).setCell ⟨w.heap.size, 3, none⟩ (.int .u64 (wd 0 3))) = W4 at *
          obtain ⟨⟨e0, e1, e2, e3⟩, _⟩ := hR.cells4
          exact bodyPost_ret (v := .tuple #[setV 0, .bool false]) (by simp [results, Tryz.results50, go_sem, e0, e1, e2, e3]) rfl ⟨by rw [ofS_not _ HNO.out, ofB_not _ HNO.out], hBB⟩

set_option maxRecDepth 100000 in
set_option maxHeartbeats 4000000 in
theorem rBegins_calls (s : ByteArray) (_hs : s.size ≤ 9223372036854775807) (w : World) : Calls Tryz.prog 51 #[.string s] w fun e w' => e = .returned (.bool (begB s)) ∧ Below w.heap.size w w' := by
  go_enter Tryz.func51, Tryz.ntmps51
  go_wp2_with fail
  refine (rNames_calls _).mono ?_
  rintro e w2 ⟨g, rfl, ⟨hg, hN⟩, hb2⟩
  have HN : Hid (NamAt g w2) := Lib.hid hN
  clear hN hg
  go_wp2_with fail
  go_loopw [4] (fun i wr => ∃ k : Nat, k ≤ 12 ∧ i = .int .i64 k ∧ (∀ j, j < k → pfx (tE j).1 s = false) ∧ w2 = wr) (fun i _ => 12 - (intOf i).toNat)
  case atStart => exact ⟨0, by omega, rfl, fun j hj => by omega, rfl⟩
  case round =>
    obtain ⟨k, hk, rfl, hno, rfl⟩ := hrel
    have HNO := Lib.hid hno
    clear hno
    by_cases hkl : k < 12
    · have hcn := HN.out.cell k hkl
      have hnz := tE_size k hkl
      have key : ∀ nm : ByteArray, (tE k).1 = nm → pfx (tE k).1 s = pfx nm s := fun nm h => by rw [h]
      cases hq : pfx (tE k).1 s with
      | true =>
        have HS := Lib.hid (begB_at s k hkl hq)
        generalize (tE k).1 = nm at *
        have hq' := hq
        simp only [pfx, Bool.and_eq_true, decide_eq_true_eq] at hq'
        obtain ⟨q1, q2⟩ := hq'
        have q3 : decide (s.size ≤ nm.size) = true := by simpa using q1
        clear hq key
        go_wp2
        go_ret
        exact ⟨by rw [HS.out]; rfl, hb2⟩
      | false =>
        have HQ := Lib.hid hq
        clear hq
        generalize hnm : (tE k).1 = nm at hcn hnz
        have hq' : pfx nm s = false := by rw [← key nm hnm]; exact HQ.out
        clear key
        have HNM := Lib.hid hnm
        clear hnm
        by_cases q1 : s.size ≤ nm.size
        · have q3 : decide (s.size ≤ nm.size) = true := by simpa using q1
          have q2 : ((nm.extract 0 s.size).toList == s.toList) = false := by simpa [pfx, q3] using hq'
          clear hq'
          go_wp2
          go_roundw
          case rel =>
            refine ⟨k + 1, by omega, by simp, fun j hj => ?_, trivial⟩
            by_cases hjk : j = k
            · subst hjk; exact HQ.out
            · exact HNO.out j (by omega)
          case measure => simp [intOf]; omega
        · have q3 : decide (s.size ≤ nm.size) = false := by simpa using q1
          clear hq'
          go_wp2
          go_roundw
          case rel =>
            refine ⟨k + 1, by omega, by simp, fun j hj => ?_, trivial⟩
            by_cases hjk : j = k
            · subst hjk; exact HQ.out
            · exact HNO.out j (by omega)
          case measure => simp [intOf]; omega
    · obtain rfl : k = 12 := by omega
      go_wp2
      go_ret
      exact ⟨by rw [begB_not _ HNO.out]; rfl, hb2⟩

theorem ofS_self : ∀ k, k < 12 → ofS (tE k).1.toList = (tE k).2
  | 0, _ => by decide +kernel
  | 1, _ => by decide +kernel
  | 2, _ => by decide +kernel
  | 3, _ => by decide +kernel
  | 4, _ => by decide +kernel
  | 5, _ => by decide +kernel
  | 6, _ => by decide +kernel
  | 7, _ => by decide +kernel
  | 8, _ => by decide +kernel
  | 9, _ => by decide +kernel
  | 10, _ => by decide +kernel
  | 11, _ => by decide +kernel
  | n + 12, h => by omega
theorem ofB_self : ∀ k, k < 12 → ofB (tE k).1.toList = true := by decide +kernel

end Go.Proofs.YthodphgbdmnpoaaGreat

/- Brackets, plainly: how the document reads them. -/
namespace Go.Proofs.YthodphgbdmnpoaaGreat
open Go.RowKit BS

/-- How far a bracket was read. -/
structure BR where
  set : BitVec 256
  pos : Nat
  err : Nat
  place : Nat
  fin : Bool
  neg : Bool

def badR (e p : Nat) : BR := ⟨0, 0, e, p, false, false⟩
def addR (x : BR) (lo hi pos : Nat) : BR := ⟨x.set ||| range lo hi, pos, x.err, x.place, x.fin, x.neg⟩
def spec3 (b : Nat) : Bool := b == 58 || b == 46 || b == 61

/-- A class, of which the name begins at fr. -/
def nameR (s : ByteArray) (fr : Nat) (x : BR) : Nat → Nat → BR
  | 0, _ => badR 2 s.size
  | n + 1, j =>
    if bt s j = 58 then
      if ofB (s.extract fr j).toList = false then badR 5 (j + 1)
      else if s.size ≤ j + 1 then badR 2 s.size
      else if bt s (j + 1) ≠ 93 then badR 3 (j + 2)
      else ⟨x.set ||| ofS (s.extract fr j).toList, j + 2, x.err, x.place, x.fin, x.neg⟩
    else if begB (s.extract fr (j + 1)) = false then badR 5 (j + 1)
    else nameR s fr x n (j + 1)

/-- One thing more, or the end. -/
def thingR (s : ByteArray) (x : BR) (first : Bool) : BR :=
  let i := x.pos
  if s.size ≤ i then badR 2 s.size
  else if bt s i = 93 ∧ first = false then ⟨x.set, i + 1, x.err, x.place, true, x.neg⟩
  else if s.size ≤ i + 1 then badR 2 s.size
  else if bt s i = 91 ∧ bt s (i + 1) = 58 then nameR s (i + 2) x (s.size - (i + 2)) (i + 2)
  else if bt s i = 91 ∧ spec3 (bt s (i + 1)) = true then badR 3 (i + 2)
  else if bt s (i + 1) ≠ 45 then addR x (bt s i) (bt s i) (i + 1)
  else if s.size ≤ i + 2 then badR 2 s.size
  else if bt s (i + 2) = 93 then addR x (bt s i) (bt s i) (i + 1)
  else if bt s (i + 2) < bt s i then badR 4 (i + 3)
  else if bt s (i + 2) = 91 ∧ s.size ≤ i + 3 then badR 2 s.size
  else if bt s (i + 2) = 91 ∧ spec3 (bt s (i + 3)) = true then badR 3 (i + 4)
  else addR x (bt s i) (bt s (i + 2)) (i + 3)

/-- Thing by thing. -/
def loopR (s : ByteArray) : Nat → BR → Bool → BR
  | 0, x, _ => x
  | n + 1, x, first =>
    if x.fin = true then x
    else if (thingR s x first).err ≠ 0 then thingR s x first
    else loopR s n (thingR s x first) false

def startR (s : ByteArray) (a : Nat) : BR := if a + 1 < s.size ∧ bt s (a + 1) = 94 then ⟨0, a + 2, 0, 0, false, true⟩ else ⟨0, a + 1, 0, 0, false, false⟩
def finR (x : BR) : BitVec 256 × Nat × Nat × Nat := if x.err ≠ 0 then (0, 0, x.err, x.place) else (if x.neg = true then ~~~x.set else x.set, x.pos, 0, 0)
def readR (s : ByteArray) (at' : Int) : BitVec 256 × Nat × Nat × Nat :=
  if at' < 0 then (0, 0, 1, 0)
  else if s.size ≤ at'.toNat ∨ bt s at'.toNat ≠ 91 then (0, 0, 1, 0)
  else finR (loopR s (s.size + 1) (startR s at'.toNat) true)

end Go.Proofs.YthodphgbdmnpoaaGreat

/- Plain facts on how the document reads a bracket. -/
namespace Go.Proofs.YthodphgbdmnpoaaGreat
open Go.RowKit BS

theorem nameR_ok (s : ByteArray) (fr : Nat) (x : BR) : ∀ n j, n = s.size - j → (nameR s fr x n j).err = 0 → j < (nameR s fr x n j).pos ∧ (nameR s fr x n j).pos ≤ s.size ∧ (nameR s fr x n j).neg = x.neg ∧ (nameR s fr x n j).fin = x.fin
  | 0, j, _, h => by simp [nameR, badR] at h
  | n + 1, j, hn, h => by
    unfold nameR at h ⊢
    split at h
    · rename_i hc
      rw [if_pos hc]
      split at h
      · simp [badR] at h
      · rename_i h1
        rw [if_neg h1]
        split at h
        · simp [badR] at h
        · rename_i h2
          rw [if_neg h2]
          split at h
          · simp [badR] at h
          · rename_i h3
            rw [if_neg h3]
            exact ⟨by simp only; omega, by simp only; omega, rfl, rfl⟩
    · rename_i hc
      rw [if_neg hc]
      split at h
      · simp [badR] at h
      · rename_i h1
        rw [if_neg h1]
        have := nameR_ok s fr x n (j + 1) (by omega) h
        exact ⟨by omega, this.2.1, this.2.2⟩

/-- By cases on a test, both known. -/
theorem ite_ok {α : Type} (P : α → Prop) {c : Prop} [Decidable c] {a b : α} (h1 : c → P a) (h2 : ¬ c → P b) : P (if c then a else b) := by
  by_cases h : c
  · rw [if_pos h]; exact h1 h
  · rw [if_neg h]; exact h2 h
def OkB (s : ByteArray) (x r : BR) : Prop := r.err = 0 → x.pos < r.pos ∧ r.pos ≤ s.size ∧ r.neg = x.neg
theorem okB_bad (s : ByteArray) (x : BR) (e p : Nat) : OkB s x (badR (e + 1) p) := fun h => by simp [badR] at h
theorem okB_add (s : ByteArray) (x : BR) (lo hi p : Nat) (h1 : x.pos < p) (h2 : p ≤ s.size) : OkB s x (addR x lo hi p) := fun _ => ⟨h1, h2, rfl⟩
theorem thingR_okB (s : ByteArray) (x : BR) (first : Bool) : OkB s x (thingR s x first) := by
  unfold thingR
  refine ite_ok _ (fun _ => okB_bad _ _ 1 _) (fun hA => ?_)
  refine ite_ok _ (fun _ _ => ⟨Nat.lt_succ_self _, by simp only; omega, rfl⟩) (fun _ => ?_)
  refine ite_ok _ (fun _ => okB_bad _ _ 1 _) (fun hC => ?_)
  refine ite_ok _ (fun _ h => ?_) (fun _ => ?_)
  · have := nameR_ok s (x.pos + 2) x (s.size - (x.pos + 2)) (x.pos + 2) rfl h
    exact ⟨by omega, this.2.1, this.2.2.1⟩
  refine ite_ok _ (fun _ => okB_bad _ _ 2 _) (fun _ => ?_)
  refine ite_ok _ (fun _ => okB_add _ _ _ _ _ (by omega) (by omega)) (fun _ => ?_)
  refine ite_ok _ (fun _ => okB_bad _ _ 1 _) (fun hG => ?_)
  refine ite_ok _ (fun _ => okB_add _ _ _ _ _ (by omega) (by omega)) (fun _ => ?_)
  refine ite_ok _ (fun _ => okB_bad _ _ 3 _) (fun _ => ?_)
  refine ite_ok _ (fun _ => okB_bad _ _ 1 _) (fun _ => ?_)
  refine ite_ok _ (fun _ => okB_bad _ _ 2 _) (fun _ => ?_)
  exact okB_add _ _ _ _ _ (by omega) (by omega)
theorem thingR_ok (s : ByteArray) (x : BR) (first : Bool) (h : (thingR s x first).err = 0) : x.pos < (thingR s x first).pos ∧ (thingR s x first).pos ≤ s.size ∧ (thingR s x first).neg = x.neg := thingR_okB s x first h
theorem loopR_fin (s : ByteArray) (n : Nat) (x : BR) (first : Bool) (h : x.fin = true) : loopR s (n + 1) x first = x := by rw [loopR, if_pos h]
theorem loopR_err (s : ByteArray) (n : Nat) (x : BR) (first : Bool) (h : x.fin = false) (he : (thingR s x first).err ≠ 0) : loopR s (n + 1) x first = thingR s x first := by rw [loopR, if_neg (by rw [h]; decide), if_pos he]
theorem loopR_on (s : ByteArray) (n : Nat) (x : BR) (first : Bool) (h : x.fin = false) (he : (thingR s x first).err = 0) : loopR s (n + 1) x first = loopR s n (thingR s x first) false := by rw [loopR, if_neg (by rw [h]; decide), if_neg (by rw [he]; decide)]
end Go.Proofs.YthodphgbdmnpoaaGreat

/- What is read of a bracket hangs on the bytes up to where it ends alone. -/
namespace Go.Proofs.YthodphgbdmnpoaaGreat
open Go.RowKit BS

/-- How many bytes tell what it is. -/
def cutB (r : BR) : Nat := if r.err = 0 then r.pos else r.place
theorem cut_bad (e p : Nat) : cutB (badR (e + 1) p) = p := by simp [cutB, badR]

theorem nameR_cut (s : ByteArray) (fr : Nat) (x : BR) (hx : x.err = 0) : ∀ n j, (nameR s fr x n j).err ≠ 2 → j < cutB (nameR s fr x n j)
  | 0, j, h => by simp [nameR, badR] at h
  | n + 1, j, h => by
    revert h
    rw [nameR]
    refine ite_ok (fun r : BR => r.err ≠ 2 → j < cutB r) (fun _ => ?_) (fun _ => ?_)
    · refine ite_ok (fun r : BR => r.err ≠ 2 → j < cutB r) (fun _ _ => by rw [cut_bad]; omega) (fun _ => ?_)
      refine ite_ok (fun r : BR => r.err ≠ 2 → j < cutB r) (fun _ h => absurd rfl h) (fun _ => ?_)
      refine ite_ok (fun r : BR => r.err ≠ 2 → j < cutB r) (fun _ _ => by rw [cut_bad]; omega) (fun _ _ => ?_)
      rw [cutB, if_pos hx]; simp only; omega
    · refine ite_ok (fun r : BR => r.err ≠ 2 → j < cutB r) (fun _ _ => by rw [cut_bad]; omega) (fun _ h => ?_)
      have := nameR_cut s fr x hx n (j + 1) h
      omega

theorem nameR_agr (s s' : ByteArray) (fr : Nat) (x : BR) (hx : x.err = 0) : ∀ n n' j, n = s.size - j → n' = s'.size - j → (nameR s fr x n j).err ≠ 2 → Agr (cutB (nameR s fr x n j)) s s' →
    nameR s' fr x n' j = nameR s fr x n j ∧ j < cutB (nameR s fr x n j)
  | 0, _, j, _, _, h, _ => by simp [nameR, badR] at h
  | n + 1, n', j, hn, hn', h, ha => by
    by_cases hc : bt s j = 58
    · by_cases h0 : ofB (s.extract fr j).toList = false
      · have e : nameR s fr x (n + 1) j = badR 5 (j + 1) := by rw [nameR, if_pos hc, if_pos h0]
        rw [e] at h ha ⊢
        rw [cut_bad] at ha ⊢
        have hs' := ha.2.1
        obtain ⟨m, rfl⟩ : ∃ m, n' = m + 1 := ⟨n' - 1, by omega⟩
        refine ⟨?_, by omega⟩
        rw [nameR, ← ha.2.2 j (by omega), if_pos hc, ← ext_agr ha fr j (by omega), if_pos h0]
      · by_cases h1 : s.size ≤ j + 1
        · have e : nameR s fr x (n + 1) j = badR 2 s.size := by rw [nameR, if_pos hc, if_neg h0, if_pos h1]
          rw [e] at h; simp [badR] at h
        · by_cases h2 : bt s (j + 1) ≠ 93
          · have e : nameR s fr x (n + 1) j = badR 3 (j + 2) := by rw [nameR, if_pos hc, if_neg h0, if_neg h1, if_pos h2]
            rw [e] at h ha ⊢
            rw [cut_bad] at ha ⊢
            have hs' := ha.2.1
            obtain ⟨m, rfl⟩ : ∃ m, n' = m + 1 := ⟨n' - 1, by omega⟩
            refine ⟨?_, by omega⟩
            rw [nameR, ← ha.2.2 j (by omega), if_pos hc, ← ext_agr ha fr j (by omega), if_neg h0, if_neg (by omega), ← ha.2.2 (j + 1) (by omega), if_pos h2]
          · have e : nameR s fr x (n + 1) j = ⟨x.set ||| ofS (s.extract fr j).toList, j + 2, x.err, x.place, x.fin, x.neg⟩ := by rw [nameR, if_pos hc, if_neg h0, if_neg h1, if_neg h2]
            have hcut : cutB (nameR s fr x (n + 1) j) = j + 2 := by rw [e, cutB, if_pos hx]
            rw [hcut] at ha ⊢
            have hs' := ha.2.1
            obtain ⟨m, rfl⟩ : ∃ m, n' = m + 1 := ⟨n' - 1, by omega⟩
            refine ⟨?_, by omega⟩
            rw [e, nameR, ← ha.2.2 j (by omega), if_pos hc, ← ext_agr ha fr j (by omega), if_neg h0, if_neg (by omega), ← ha.2.2 (j + 1) (by omega), if_neg h2]
    · by_cases h0 : begB (s.extract fr (j + 1)) = false
      · have e : nameR s fr x (n + 1) j = badR 5 (j + 1) := by rw [nameR, if_neg hc, if_pos h0]
        rw [e] at h ha ⊢
        rw [cut_bad] at ha ⊢
        have hs' := ha.2.1
        obtain ⟨m, rfl⟩ : ∃ m, n' = m + 1 := ⟨n' - 1, by omega⟩
        refine ⟨?_, by omega⟩
        rw [nameR, ← ha.2.2 j (by omega), if_neg hc, ← ext_agr ha fr (j + 1) (by omega), if_pos h0]
      · have e : nameR s fr x (n + 1) j = nameR s fr x n (j + 1) := by rw [nameR, if_neg hc, if_neg h0]
        rw [e] at h ha ⊢
        have hs' := ha.2.1
        have hlt := nameR_cut s fr x hx n (j + 1) h
        obtain ⟨m, rfl⟩ : ∃ m, n' = m + 1 := ⟨n' - 1, by omega⟩
        have ih := nameR_agr s s' fr x hx n m (j + 1) (by omega) (by omega) h ha
        refine ⟨?_, by omega⟩
        rw [nameR, ← ha.2.2 j (by omega), if_neg hc, ← ext_agr ha fr (j + 1) (by omega), if_neg h0]
        exact ih.1

/-- How many bytes are looked at. -/
def needR (s : ByteArray) (x : BR) (first : Bool) : Nat :=
  let i := x.pos
  if bt s i = 93 ∧ first = false then i + 1
  else if bt s i = 91 ∧ bt s (i + 1) = 58 then cutB (thingR s x first)
  else if bt s i = 91 ∧ spec3 (bt s (i + 1)) = true then i + 2
  else if bt s (i + 1) ≠ 45 then i + 2
  else if bt s (i + 2) = 93 then i + 3
  else if bt s (i + 2) < bt s i then i + 3
  else if bt s (i + 2) = 91 then i + 4
  else i + 3

theorem thingR_agr (s s' : ByteArray) (x : BR) (first : Bool) (hx : x.err = 0) (h : (thingR s x first).err ≠ 2) (ha : Agr (needR s x first) s s') : thingR s' x first = thingR s x first ∧ x.pos < needR s x first := by
  by_cases hA : s.size ≤ x.pos
  · have e : thingR s x first = badR 2 s.size := by unfold thingR; simp only [if_pos hA]
    rw [e] at h; simp [badR] at h
  by_cases hB : bt s x.pos = 93 ∧ first = false
  · have e : thingR s x first = ⟨x.set, x.pos + 1, x.err, x.place, true, x.neg⟩ := by unfold thingR; simp only [if_neg hA, if_pos hB]
    have en : needR s x first = x.pos + 1 := by unfold needR; simp only [if_pos hB]
    rw [en] at ha ⊢
    have hs' := ha.2.1
    have e0 := ha.2.2 x.pos (by omega)
    refine ⟨?_, by omega⟩
    rw [e]; unfold thingR
    simp only [← e0, if_neg (show ¬ s'.size ≤ x.pos by omega), if_pos hB]
  by_cases hC : s.size ≤ x.pos + 1
  · have e : thingR s x first = badR 2 s.size := by unfold thingR; simp only [if_neg hA, if_neg hB, if_pos hC]
    rw [e] at h; simp [badR] at h
  by_cases hD : bt s x.pos = 91 ∧ bt s (x.pos + 1) = 58
  · have e : thingR s x first = nameR s (x.pos + 2) x (s.size - (x.pos + 2)) (x.pos + 2) := by unfold thingR; simp only [if_neg hA, if_neg hB, if_neg hC, if_pos hD]
    have en : needR s x first = cutB (nameR s (x.pos + 2) x (s.size - (x.pos + 2)) (x.pos + 2)) := by rw [← e]; unfold needR; simp only [if_neg hB, if_pos hD]
    rw [en] at ha ⊢
    rw [e] at h
    have hs' := ha.2.1
    have hq := nameR_agr s s' (x.pos + 2) x hx _ (s'.size - (x.pos + 2)) (x.pos + 2) rfl rfl h ha
    have e0 := ha.2.2 x.pos (by omega)
    have e1 := ha.2.2 (x.pos + 1) (by omega)
    refine ⟨?_, by omega⟩
    rw [e, ← hq.1]; unfold thingR
    simp only [← e0, ← e1, if_neg (show ¬ s'.size ≤ x.pos by omega), if_neg hB, if_neg (show ¬ s'.size ≤ x.pos + 1 by omega), if_pos hD]
  by_cases hE : bt s x.pos = 91 ∧ spec3 (bt s (x.pos + 1)) = true
  · have e : thingR s x first = badR 3 (x.pos + 2) := by unfold thingR; simp only [if_neg hA, if_neg hB, if_neg hC, if_neg hD, if_pos hE]
    have en : needR s x first = x.pos + 2 := by unfold needR; simp only [if_neg hB, if_neg hD, if_pos hE]
    rw [en] at ha ⊢
    have hs' := ha.2.1
    have e0 := ha.2.2 x.pos (by omega)
    have e1 := ha.2.2 (x.pos + 1) (by omega)
    refine ⟨?_, by omega⟩
    rw [e]; unfold thingR
    simp only [← e0, ← e1, if_neg (show ¬ s'.size ≤ x.pos by omega), if_neg hB, if_neg (show ¬ s'.size ≤ x.pos + 1 by omega), if_neg hD, if_pos hE]
  by_cases hF : bt s (x.pos + 1) ≠ 45
  · have e : thingR s x first = addR x (bt s x.pos) (bt s x.pos) (x.pos + 1) := by unfold thingR; simp only [if_neg hA, if_neg hB, if_neg hC, if_neg hD, if_neg hE, if_pos hF]
    have en : needR s x first = x.pos + 2 := by unfold needR; simp only [if_neg hB, if_neg hD, if_neg hE, if_pos hF]
    rw [en] at ha ⊢
    have hs' := ha.2.1
    have e0 := ha.2.2 x.pos (by omega)
    have e1 := ha.2.2 (x.pos + 1) (by omega)
    refine ⟨?_, by omega⟩
    rw [e]; unfold thingR
    simp only [← e0, ← e1, if_neg (show ¬ s'.size ≤ x.pos by omega), if_neg hB, if_neg (show ¬ s'.size ≤ x.pos + 1 by omega), if_neg hD, if_neg hE, if_pos hF]
  by_cases hG : s.size ≤ x.pos + 2
  · have e : thingR s x first = badR 2 s.size := by unfold thingR; simp only [if_neg hA, if_neg hB, if_neg hC, if_neg hD, if_neg hE, if_neg hF, if_pos hG]
    rw [e] at h; simp [badR] at h
  by_cases hH : bt s (x.pos + 2) = 93
  · have e : thingR s x first = addR x (bt s x.pos) (bt s x.pos) (x.pos + 1) := by unfold thingR; simp only [if_neg hA, if_neg hB, if_neg hC, if_neg hD, if_neg hE, if_neg hF, if_neg hG, if_pos hH]
    have en : needR s x first = x.pos + 3 := by unfold needR; simp only [if_neg hB, if_neg hD, if_neg hE, if_neg hF, if_pos hH]
    rw [en] at ha ⊢
    have hs' := ha.2.1
    have e0 := ha.2.2 x.pos (by omega)
    have e1 := ha.2.2 (x.pos + 1) (by omega)
    have e2 := ha.2.2 (x.pos + 2) (by omega)
    refine ⟨?_, by omega⟩
    rw [e]; unfold thingR
    simp only [← e0, ← e1, ← e2, if_neg (show ¬ s'.size ≤ x.pos by omega), if_neg hB, if_neg (show ¬ s'.size ≤ x.pos + 1 by omega), if_neg hD, if_neg hE, if_neg hF, if_neg (show ¬ s'.size ≤ x.pos + 2 by omega), if_pos hH]
  by_cases hI : bt s (x.pos + 2) < bt s x.pos
  · have e : thingR s x first = badR 4 (x.pos + 3) := by unfold thingR; simp only [if_neg hA, if_neg hB, if_neg hC, if_neg hD, if_neg hE, if_neg hF, if_neg hG, if_neg hH, if_pos hI]
    have en : needR s x first = x.pos + 3 := by unfold needR; simp only [if_neg hB, if_neg hD, if_neg hE, if_neg hF, if_neg hH, if_pos hI]
    rw [en] at ha ⊢
    have hs' := ha.2.1
    have e0 := ha.2.2 x.pos (by omega)
    have e1 := ha.2.2 (x.pos + 1) (by omega)
    have e2 := ha.2.2 (x.pos + 2) (by omega)
    refine ⟨?_, by omega⟩
    rw [e]; unfold thingR
    simp only [← e0, ← e1, ← e2, if_neg (show ¬ s'.size ≤ x.pos by omega), if_neg hB, if_neg (show ¬ s'.size ≤ x.pos + 1 by omega), if_neg hD, if_neg hE, if_neg hF, if_neg (show ¬ s'.size ≤ x.pos + 2 by omega), if_neg hH, if_pos hI]
  by_cases hJ : bt s (x.pos + 2) = 91 ∧ s.size ≤ x.pos + 3
  · have e : thingR s x first = badR 2 s.size := by unfold thingR; simp only [if_neg hA, if_neg hB, if_neg hC, if_neg hD, if_neg hE, if_neg hF, if_neg hG, if_neg hH, if_neg hI, if_pos hJ]
    rw [e] at h; simp [badR] at h
  by_cases h91 : bt s (x.pos + 2) = 91
  · have en : needR s x first = x.pos + 4 := by unfold needR; simp only [if_neg hB, if_neg hD, if_neg hE, if_neg hF, if_neg hH, if_neg hI, if_pos h91]
    rw [en] at ha ⊢
    have hs' := ha.2.1
    have e0 := ha.2.2 x.pos (by omega)
    have e1 := ha.2.2 (x.pos + 1) (by omega)
    have e2 := ha.2.2 (x.pos + 2) (by omega)
    have e3 := ha.2.2 (x.pos + 3) (by omega)
    refine ⟨?_, by omega⟩
    unfold thingR
    simp only [← e0, ← e1, ← e2, ← e3, if_neg (show ¬ s'.size ≤ x.pos by omega), if_neg hA, if_neg hB, if_neg (show ¬ s'.size ≤ x.pos + 1 by omega), if_neg hC, if_neg hD, if_neg hE, if_neg hF, if_neg (show ¬ s'.size ≤ x.pos + 2 by omega), if_neg hG, if_neg hH, if_neg hI, if_neg hJ, if_neg (show ¬ (bt s (x.pos + 2) = 91 ∧ s'.size ≤ x.pos + 3) by omega)]
  · have en : needR s x first = x.pos + 3 := by unfold needR; simp only [if_neg hB, if_neg hD, if_neg hE, if_neg hF, if_neg hH, if_neg hI, if_neg h91]
    rw [en] at ha ⊢
    have hs' := ha.2.1
    have e0 := ha.2.2 x.pos (by omega)
    have e1 := ha.2.2 (x.pos + 1) (by omega)
    have e2 := ha.2.2 (x.pos + 2) (by omega)
    have n1 : ∀ q : Prop, ¬ (bt s (x.pos + 2) = 91 ∧ q) := fun q hq => h91 hq.1
    refine ⟨?_, by omega⟩
    unfold thingR
    simp only [← e0, ← e1, ← e2, if_neg (show ¬ s'.size ≤ x.pos by omega), if_neg hA, if_neg hB, if_neg (show ¬ s'.size ≤ x.pos + 1 by omega), if_neg hC, if_neg hD, if_neg hE, if_neg hF, if_neg (show ¬ s'.size ≤ x.pos + 2 by omega), if_neg hG, if_neg hH, if_neg hI, if_neg (n1 _)]
/-- What a thing comes to, and how many bytes it needs. -/
theorem thing_cases (s : ByteArray) (x : BR) (first : Bool) (h : (thingR s x first).err ≠ 2) :
    (thingR s x first = ⟨x.set, x.pos + 1, x.err, x.place, true, x.neg⟩ ∧ needR s x first = x.pos + 1) ∨
    (thingR s x first = nameR s (x.pos + 2) x (s.size - (x.pos + 2)) (x.pos + 2) ∧ needR s x first = cutB (thingR s x first)) ∨
    (∃ p, x.pos < p ∧ (thingR s x first = badR 3 p ∨ thingR s x first = badR 4 p) ∧ needR s x first = p) ∨
    (∃ lo hi, thingR s x first = addR x lo hi (x.pos + 1) ∧ needR s x first = x.pos + 2) ∨
    (∃ lo hi, thingR s x first = addR x lo hi (x.pos + 1) ∧ needR s x first = x.pos + 3 ∧ bt s (x.pos + 1) = 45 ∧ bt s (x.pos + 2) = 93) ∨
    (∃ lo hi, thingR s x first = addR x lo hi (x.pos + 3) ∧ x.pos < needR s x first ∧ needR s x first ≤ x.pos + 4) := by
  by_cases hA : s.size ≤ x.pos
  · have e : thingR s x first = badR 2 s.size := by unfold thingR; simp only [if_pos hA]
    rw [e] at h; simp [badR] at h
  by_cases hB : bt s x.pos = 93 ∧ first = false
  · exact .inl ⟨by unfold thingR; simp only [if_neg hA, if_pos hB], by unfold needR; simp only [if_pos hB]⟩
  by_cases hC : s.size ≤ x.pos + 1
  · have e : thingR s x first = badR 2 s.size := by unfold thingR; simp only [if_neg hA, if_neg hB, if_pos hC]
    rw [e] at h; simp [badR] at h
  by_cases hD : bt s x.pos = 91 ∧ bt s (x.pos + 1) = 58
  · exact .inr (.inl ⟨by unfold thingR; simp only [if_neg hA, if_neg hB, if_neg hC, if_pos hD], by unfold needR; simp only [if_neg hB, if_pos hD]⟩)
  by_cases hE : bt s x.pos = 91 ∧ spec3 (bt s (x.pos + 1)) = true
  · exact .inr (.inr (.inl ⟨x.pos + 2, by omega, .inl (by unfold thingR; simp only [if_neg hA, if_neg hB, if_neg hC, if_neg hD, if_pos hE]), by unfold needR; simp only [if_neg hB, if_neg hD, if_pos hE]⟩))
  by_cases hF : bt s (x.pos + 1) ≠ 45
  · exact .inr (.inr (.inr (.inl ⟨bt s x.pos, bt s x.pos, by unfold thingR; simp only [if_neg hA, if_neg hB, if_neg hC, if_neg hD, if_neg hE, if_pos hF], by unfold needR; simp only [if_neg hB, if_neg hD, if_neg hE, if_pos hF]⟩)))
  by_cases hG : s.size ≤ x.pos + 2
  · have e : thingR s x first = badR 2 s.size := by unfold thingR; simp only [if_neg hA, if_neg hB, if_neg hC, if_neg hD, if_neg hE, if_neg hF, if_pos hG]
    rw [e] at h; simp [badR] at h
  by_cases hH : bt s (x.pos + 2) = 93
  · exact .inr (.inr (.inr (.inr (.inl ⟨bt s x.pos, bt s x.pos, by unfold thingR; simp only [if_neg hA, if_neg hB, if_neg hC, if_neg hD, if_neg hE, if_neg hF, if_neg hG, if_pos hH], by unfold needR; simp only [if_neg hB, if_neg hD, if_neg hE, if_neg hF, if_pos hH], Decidable.not_not.1 hF, hH⟩))))
  by_cases hI : bt s (x.pos + 2) < bt s x.pos
  · exact .inr (.inr (.inl ⟨x.pos + 3, by omega, .inr (by unfold thingR; simp only [if_neg hA, if_neg hB, if_neg hC, if_neg hD, if_neg hE, if_neg hF, if_neg hG, if_neg hH, if_pos hI]), by unfold needR; simp only [if_neg hB, if_neg hD, if_neg hE, if_neg hF, if_neg hH, if_pos hI]⟩))
  by_cases hJ : bt s (x.pos + 2) = 91 ∧ s.size ≤ x.pos + 3
  · have e : thingR s x first = badR 2 s.size := by unfold thingR; simp only [if_neg hA, if_neg hB, if_neg hC, if_neg hD, if_neg hE, if_neg hF, if_neg hG, if_neg hH, if_neg hI, if_pos hJ]
    rw [e] at h; simp [badR] at h
  by_cases hK : bt s (x.pos + 2) = 91 ∧ spec3 (bt s (x.pos + 3)) = true
  · exact .inr (.inr (.inl ⟨x.pos + 4, by omega, .inl (by unfold thingR; simp only [if_neg hA, if_neg hB, if_neg hC, if_neg hD, if_neg hE, if_neg hF, if_neg hG, if_neg hH, if_neg hI, if_neg hJ, if_pos hK]), by unfold needR; simp only [if_neg hB, if_neg hD, if_neg hE, if_neg hF, if_neg hH, if_neg hI, if_pos hK.1]⟩))
  refine .inr (.inr (.inr (.inr (.inr ⟨bt s x.pos, bt s (x.pos + 2), by unfold thingR; simp only [if_neg hA, if_neg hB, if_neg hC, if_neg hD, if_neg hE, if_neg hF, if_neg hG, if_neg hH, if_neg hI, if_neg hJ, if_neg hK], ?_⟩))))
  by_cases h91 : bt s (x.pos + 2) = 91
  · rw [show needR s x first = x.pos + 4 from by unfold needR; simp only [if_neg hB, if_neg hD, if_neg hE, if_neg hF, if_neg hH, if_neg hI, if_pos h91]]; omega
  · rw [show needR s x first = x.pos + 3 from by unfold needR; simp only [if_neg hB, if_neg hD, if_neg hE, if_neg hF, if_neg hH, if_neg hI, if_neg h91]]; omega

theorem needR_pos (s : ByteArray) (x : BR) (first : Bool) (hx : x.err = 0) (h : (thingR s x first).err ≠ 2) : x.pos < needR s x first := by
  rcases thing_cases s x first h with ⟨_, e⟩ | ⟨e1, e⟩ | ⟨p, hp, _, e⟩ | ⟨_, _, _, e⟩ | ⟨_, _, _, e, _⟩ | ⟨_, _, _, e, _⟩
  · omega
  · rw [e, e1]
    rw [e1] at h
    have := nameR_cut s (x.pos + 2) x hx _ _ h
    omega
  · omega
  · omega
  · omega
  · omega

/-- All that is needed lies ahead of the end. -/
theorem need_le (s : ByteArray) : ∀ (n : Nat) (x : BR) (first : Bool), x.err = 0 → x.fin = false → x.pos ≤ s.size → s.size ≤ n + x.pos → (loopR s (n + 1) x first).err ≠ 2 →
    (thingR s x first).err ≠ 2 ∧ needR s x first ≤ cutB (loopR s (n + 1) x first) ∧ ((loopR s (n + 1) x first).fin = true ∨ (loopR s (n + 1) x first).err ≠ 0)
  | n, x, first, hx, hf, hp, hn, h => by
    by_cases he : (thingR s x first).err = 0
    · have hok := thingR_ok s x first he
      rw [loopR_on s n x first hf he] at h ⊢
      have h2 : (thingR s x first).err ≠ 2 := by rw [he]; decide
      refine ⟨h2, ?_⟩
      by_cases hfin : (thingR s x first).fin = true
      · have e : loopR s n (thingR s x first) false = thingR s x first := by
          cases n with
          | zero => rfl
          | succ m => exact loopR_fin s m _ _ hfin
        rw [e]
        refine ⟨?_, .inl hfin⟩
        have hcut : cutB (thingR s x first) = (thingR s x first).pos := by rw [cutB, if_pos he]
        rcases thing_cases s x first h2 with ⟨e1, e⟩ | ⟨e1, e⟩ | ⟨p, hp, e1 | e1, e⟩ | ⟨lo, hi, e1, e⟩ | ⟨lo, hi, e1, e, _⟩ | ⟨lo, hi, e1, e, _⟩
        · rw [hcut, e, e1]; exact Nat.le_refl _
        · rw [e]; exact Nat.le_refl _
        · rw [e1] at he; simp [badR] at he
        · rw [e1] at he; simp [badR] at he
        · rw [e1] at hfin; simp [addR, hf] at hfin
        · rw [e1] at hfin; simp [addR, hf] at hfin
        · rw [e1] at hfin; simp [addR, hf] at hfin
      · have hfin' : (thingR s x first).fin = false := by simpa using hfin
        obtain ⟨m, rfl⟩ : ∃ m, n = m + 1 := ⟨n - 1, by omega⟩
        have ih := need_le s m (thingR s x first) false he hfin' hok.2.1 (by omega) h
        have hnp := needR_pos s (thingR s x first) false he ih.1
        refine ⟨?_, ih.2.2⟩
        have ih2 := ih.2.1
        rcases thing_cases s x first h2 with ⟨e1, e⟩ | ⟨e1, e⟩ | ⟨p, hp, e1 | e1, e⟩ | ⟨lo, hi, e1, e⟩ | ⟨lo, hi, e1, e, h45, h93⟩ | ⟨lo, hi, e1, _, e⟩
        · rw [e1] at hfin'; simp at hfin'
        · have hcut : cutB (thingR s x first) = (thingR s x first).pos := by rw [cutB, if_pos he]
          omega
        · rw [e1] at he; simp [badR] at he
        · rw [e1] at he; simp [badR] at he
        · have hp1 : (thingR s x first).pos = x.pos + 1 := by rw [e1]; rfl
          omega
        · have hp1 : (thingR s x first).pos = x.pos + 1 := by rw [e1]; rfl
          have hq : needR s (thingR s x first) false = x.pos + 3 := by
            unfold needR
            simp only [hp1, h45, show x.pos + 1 + 1 = x.pos + 2 from rfl, h93]
            simp
          omega
        · have hp1 : (thingR s x first).pos = x.pos + 3 := by rw [e1]; rfl
          omega
    · rw [loopR_err s n x first hf he] at h ⊢
      refine ⟨h, ?_, .inr he⟩
      rcases thing_cases s x first h with ⟨e1, e⟩ | ⟨e1, e⟩ | ⟨p, hp, e1 | e1, e⟩ | ⟨lo, hi, e1, e⟩ | ⟨lo, hi, e1, e, _⟩ | ⟨lo, hi, e1, e, _⟩
      · rw [e1] at he; exact absurd hx he
      · rw [e]; exact Nat.le_refl _
      · rw [e, e1, cut_bad]; exact Nat.le_refl _
      · rw [e, e1, cut_bad]; exact Nat.le_refl _
      · rw [e1] at he; exact absurd hx he
      · rw [e1] at he; exact absurd hx he
      · rw [e1] at he; exact absurd hx he

theorem loopR_fuel (s : ByteArray) : ∀ (n m : Nat) (x : BR) (first : Bool), s.size < n + x.pos → x.pos ≤ s.size ∨ x.fin = true → n ≤ m → 0 < n → loopR s n x first = loopR s m x first
  | 0, _, _, _, _, _, _, h => absurd h (Nat.lt_irrefl 0)
  | n + 1, m, x, first, hn, hp, hm, _ => by
    obtain ⟨m, rfl⟩ : ∃ m', m = m' + 1 := ⟨m - 1, by omega⟩
    by_cases hf : x.fin = true
    · rw [loopR_fin _ _ _ _ hf, loopR_fin _ _ _ _ hf]
    · have hf' : x.fin = false := by simpa using hf
      by_cases he : (thingR s x first).err = 0
      · have hok := thingR_ok s x first he
        rw [loopR_on _ _ _ _ hf' he, loopR_on _ _ _ _ hf' he]
        by_cases hn0 : n = 0
        · have : x.pos ≤ s.size := hp.resolve_right hf
          omega
        · exact loopR_fuel s n m _ false (by omega) (.inl hok.2.1) (by omega) (by omega)
      · rw [loopR_err _ _ _ _ hf' he, loopR_err _ _ _ _ hf' he]

theorem loopR_more (s : ByteArray) : ∀ (n m : Nat) (x : BR) (first : Bool), x.err = 0 → n ≤ m → ((loopR s n x first).fin = true ∨ (loopR s n x first).err ≠ 0) → loopR s m x first = loopR s n x first
  | 0, m, x, first, hx, _, h => by
    have hf : x.fin = true := h.resolve_right (fun he => he hx)
    cases m with
    | zero => rfl
    | succ m => rw [loopR_fin _ _ _ _ hf]; rfl
  | n + 1, m, x, first, hx, hm, h => by
    obtain ⟨m, rfl⟩ : ∃ m', m = m' + 1 := ⟨m - 1, by omega⟩
    by_cases hf : x.fin = true
    · rw [loopR_fin _ _ _ _ hf, loopR_fin _ _ _ _ hf]
    · have hf' : x.fin = false := by simpa using hf
      by_cases he : (thingR s x first).err = 0
      · rw [loopR_on _ _ _ _ hf' he] at h ⊢
        rw [loopR_on _ _ _ _ hf' he]
        exact loopR_more s n m _ false he (by omega) h
      · rw [loopR_err _ _ _ _ hf' he, loopR_err _ _ _ _ hf' he]

theorem loopR_agr (s s' : ByteArray) : ∀ (n : Nat) (x : BR) (first : Bool), x.err = 0 → x.fin = false → x.pos ≤ s.size → s.size ≤ n + x.pos → (loopR s (n + 1) x first).err ≠ 2 → Agr (cutB (loopR s (n + 1) x first)) s s' →
    loopR s' (n + 1) x first = loopR s (n + 1) x first
  | n, x, first, hx, hf, hp, hn, h, ha => by
    have hne := need_le s n x first hx hf hp hn h
    have hth := (thingR_agr s s' x first hx hne.1 (ha.le hne.2.1)).1
    by_cases he : (thingR s x first).err = 0
    · have he' : (thingR s' x first).err = 0 := by rw [hth]; exact he
      have hok := thingR_ok s x first he
      rw [loopR_on s n x first hf he] at h ha ⊢
      rw [loopR_on s' n x first hf he', hth]
      by_cases hfin : (thingR s x first).fin = true
      · cases n with
        | zero => rfl
        | succ m => rw [loopR_fin _ _ _ _ hfin, loopR_fin _ _ _ _ hfin]
      · have hfin' : (thingR s x first).fin = false := by simpa using hfin
        obtain ⟨m, rfl⟩ : ∃ m, n = m + 1 := ⟨n - 1, by omega⟩
        exact loopR_agr s s' m _ false he hfin' hok.2.1 (by omega) h ha
    · have he' : (thingR s' x first).err ≠ 0 := by rw [hth]; exact he
      rw [loopR_err s n x first hf he, loopR_err s' n x first hf he', hth]

theorem startR_pos' (s : ByteArray) (a : Nat) (h : a < s.size) : (startR s a).pos ≤ s.size ∧ (startR s a).err = 0 ∧ (startR s a).fin = false ∧ (startR s a).place = 0 := by
  unfold startR
  split <;> exact ⟨by simp only; omega, rfl, rfl, rfl⟩
/-- What is read: set, end, error, place: how many bytes tell it. -/
def cutT (r : BitVec 256 × Nat × Nat × Nat) : Nat := if r.2.2.1 = 0 then r.2.1 else r.2.2.2
theorem finR_cut (x : BR) : cutT (finR x) = cutB x := by
  unfold cutT finR cutB
  by_cases h : x.err = 0
  · rw [if_neg (show ¬ x.err ≠ 0 by omega), if_pos h]; rfl
  · rw [if_pos (show x.err ≠ 0 from h), if_neg h]; simp only; rw [if_neg h]
theorem finR_err (x : BR) : (finR x).2.2.1 = x.err := by
  unfold finR
  by_cases h : x.err = 0
  · rw [if_neg (show ¬ x.err ≠ 0 by omega), h]
  · rw [if_pos (show x.err ≠ 0 from h)]

theorem startR_agr (s s' : ByteArray) (a : Nat) (n : Nat) (h : Agr n s s') (hn : a + 2 ≤ n) : startR s' a = startR s a := by
  have h1 := h.1
  have h2 := h.2.1
  unfold startR
  rw [← h.2.2 (a + 1) (by omega)]
  simp only [show a + 1 < s.size by omega, show a + 1 < s'.size by omega]

/-- **What is wrong, or a bracket, is told by the bytes up to there.** -/
theorem readR_agr (s s' : ByteArray) (at' : Int) (h1 : (readR s at').2.2.1 ≠ 1) (h2 : (readR s at').2.2.1 ≠ 2) (ha : Agr (cutT (readR s at')) s s') : readR s' at' = readR s at' := by
  unfold readR at h1 h2 ha ⊢
  by_cases q : at' < 0
  · rw [if_pos q] at h1; exact absurd rfl h1
  rw [if_neg q] at h1 h2 ha ⊢
  rw [if_neg q]
  by_cases q2 : s.size ≤ at'.toNat ∨ bt s at'.toNat ≠ 91
  · rw [if_pos q2] at h1; exact absurd rfl h1
  rw [if_neg q2] at h1 h2 ha ⊢
  rw [finR_cut] at ha
  rw [finR_err] at h2
  generalize at'.toNat = a at *
  have hlt : a < s.size := by omega
  obtain ⟨p1, p2, p3, _⟩ := startR_pos' s a hlt
  have hne := need_le s s.size (startR s a) true p2 p3 p1 (by omega) h2
  have hnp := needR_pos s (startR s a) true p2 hne.1
  have hst : a + 1 ≤ (startR s a).pos := by unfold startR; split <;> simp
  have hs' := ha.2.1
  have e0 := ha.2.2 a (by omega)
  have q2' : ¬ (s'.size ≤ a ∨ bt s' a ≠ 91) := by rw [← e0]; omega
  rw [if_neg q2', startR_agr s s' a _ ha (by omega)]
  have hl := loopR_agr s s' s.size (startR s a) true p2 p3 p1 (by omega) h2 ha
  have hf : loopR s' (s'.size + 1) (startR s a) true = loopR s' (s.size + 1) (startR s a) true := by
    rcases Nat.le_total s.size s'.size with hle | hle
    · exact loopR_more s' (s.size + 1) (s'.size + 1) _ true p2 (by omega) (by rw [hl]; exact hne.2.2)
    · exact loopR_fuel s' (s'.size + 1) (s.size + 1) _ true (by omega) (.inl (by omega)) (by omega) (by omega)
  rw [hf, hl]
end Go.Proofs.YthodphgbdmnpoaaGreat

/- Where a bracket ends, and where its error is. -/
namespace Go.Proofs.YthodphgbdmnpoaaGreat
open Go.RowKit BS

/-- An error's place lies in the text; where it ends too early, at its end. -/
def PlB (s : ByteArray) (i : Nat) (r : BR) : Prop := r.err ≠ 0 → i < r.place ∧ r.place ≤ s.size ∧ (r.err = 2 → r.place = s.size) ∧ r.err ≠ 1
theorem plB_short (s : ByteArray) (i : Nat) (h : i < s.size) : PlB s i (badR 2 s.size) := fun _ => ⟨h, Nat.le_refl _, fun _ => rfl, by simp [badR]⟩
theorem plB_bad (s : ByteArray) (i e p : Nat) (he : e ≠ 2 ∧ e ≠ 1) (h1 : i < p) (h2 : p ≤ s.size) : PlB s i (badR e p) := fun _ => ⟨h1, h2, fun h => absurd h he.1, he.2⟩
theorem plB_ok (s : ByteArray) (i : Nat) (r : BR) (h : r.err = 0) : PlB s i r := fun he => absurd h he
theorem nameR_pl (s : ByteArray) (fr : Nat) (x : BR) (hx : x.err = 0) (i : Nat) (hi : i < s.size) : ∀ n j, n = s.size - j → i ≤ j → PlB s i (nameR s fr x n j)
  | 0, j, _, _ => plB_short s i hi
  | n + 1, j, hn, hij => by
    rw [nameR]
    refine ite_ok _ (fun _ => ?_) (fun _ => ?_)
    · refine ite_ok _ (fun _ => plB_bad s i 5 _ (by decide) (by omega) (by omega)) (fun _ => ?_)
      refine ite_ok _ (fun _ => plB_short s i hi) (fun _ => ?_)
      refine ite_ok _ (fun _ => plB_bad s i 3 _ (by decide) (by omega) (by omega)) (fun _ => ?_)
      exact plB_ok _ _ _ hx
    · refine ite_ok _ (fun _ => plB_bad s i 5 _ (by decide) (by omega) (by omega)) (fun _ => ?_)
      exact nameR_pl s fr x hx i hi n (j + 1) (by omega) (by omega)
theorem thingR_pl (s : ByteArray) (x : BR) (first : Bool) (hx : x.err = 0) (i : Nat) (hi : i < s.size) (hp : i ≤ x.pos) : PlB s i (thingR s x first) := by
  unfold thingR
  refine ite_ok _ (fun _ => plB_short s i hi) (fun hA => ?_)
  refine ite_ok _ (fun _ => plB_ok _ _ _ hx) (fun _ => ?_)
  refine ite_ok _ (fun _ => plB_short s i hi) (fun hC => ?_)
  refine ite_ok _ (fun _ => nameR_pl s _ x hx i hi _ _ rfl (by omega)) (fun _ => ?_)
  refine ite_ok _ (fun _ => plB_bad s i 3 _ (by decide) (by omega) (by omega)) (fun _ => ?_)
  refine ite_ok _ (fun _ => plB_ok _ _ _ hx) (fun _ => ?_)
  refine ite_ok _ (fun _ => plB_short s i hi) (fun hG => ?_)
  refine ite_ok _ (fun _ => plB_ok _ _ _ hx) (fun _ => ?_)
  refine ite_ok _ (fun _ => plB_bad s i 4 _ (by decide) (by omega) (by omega)) (fun _ => ?_)
  refine ite_ok _ (fun _ => plB_short s i hi) (fun hJ => ?_)
  refine ite_ok _ (fun hK => plB_bad s i 3 _ (by decide) (by omega) ?_) (fun _ => plB_ok _ _ _ hx)
  have := fun h => hJ ⟨hK.1, h⟩
  omega

/-- How the loop ends. -/
theorem loopR_end (s : ByteArray) (i : Nat) (hi : i < s.size) : ∀ (n : Nat) (x : BR) (first : Bool), x.err = 0 → x.fin = false → i ≤ x.pos → x.pos ≤ s.size → s.size ≤ n + x.pos →
    PlB s i (loopR s (n + 1) x first) ∧ ((loopR s (n + 1) x first).err = 0 → i < (loopR s (n + 1) x first).pos ∧ (loopR s (n + 1) x first).pos ≤ s.size ∧ (loopR s (n + 1) x first).fin = true)
  | n, x, first, hx, hf, hix, hp, hn => by
    by_cases he : (thingR s x first).err = 0
    · have hok := thingR_ok s x first he
      rw [loopR_on s n x first hf he]
      by_cases hfin : (thingR s x first).fin = true
      · have e : loopR s n (thingR s x first) false = thingR s x first := by
          cases n with
          | zero => rfl
          | succ m => exact loopR_fin s m _ _ hfin
        rw [e]
        exact ⟨plB_ok _ _ _ he, fun _ => ⟨by omega, hok.2.1, hfin⟩⟩
      · have hfin' : (thingR s x first).fin = false := by simpa using hfin
        by_cases hn0 : n = 0
        · omega
        · obtain ⟨m, rfl⟩ : ∃ m, n = m + 1 := ⟨n - 1, by omega⟩
          exact loopR_end s i hi m _ false he hfin' (by omega) hok.2.1 (by omega)
    · rw [loopR_err s n x first hf he]
      exact ⟨thingR_pl s x first hx i hi hix, fun h => absurd h he⟩

/-- Set, end, error, place. -/
theorem readR_end (s : ByteArray) (at' : Int) :
    (readR s at' = (0, 0, 1, 0) ∧ (at' < 0 ∨ s.size ≤ at'.toNat ∨ bt s at'.toNat ≠ 91)) ∨
    (0 ≤ at' ∧ at'.toNat < s.size ∧ bt s at'.toNat = 91 ∧
      (((readR s at').2.2.1 = 0 ∧ (readR s at').2.2.2 = 0 ∧ at'.toNat < (readR s at').2.1 ∧ (readR s at').2.1 ≤ s.size) ∨
       ((readR s at').2.2.1 ≠ 0 ∧ (readR s at').2.2.1 ≠ 1 ∧ (readR s at').1 = 0 ∧ (readR s at').2.1 = 0 ∧ at'.toNat < (readR s at').2.2.2 ∧ (readR s at').2.2.2 ≤ s.size ∧ ((readR s at').2.2.1 = 2 → (readR s at').2.2.2 = s.size)))) := by
  unfold readR
  by_cases q : at' < 0
  · rw [if_pos q]; exact .inl ⟨rfl, .inl q⟩
  rw [if_neg q]
  by_cases q2 : s.size ≤ at'.toNat ∨ bt s at'.toNat ≠ 91
  · rw [if_pos q2]; exact .inl ⟨rfl, .inr q2⟩
  rw [if_neg q2]
  refine .inr ⟨by omega, by omega, by omega, ?_⟩
  generalize at'.toNat = a at *
  have hlt : a < s.size := by omega
  obtain ⟨p1, p2, p3, _⟩ := startR_pos' s a hlt
  have hst : a ≤ (startR s a).pos := by unfold startR; split <;> simp <;> omega
  have hE := loopR_end s a hlt s.size (startR s a) true p2 p3 hst p1 (by omega)
  generalize loopR s (s.size + 1) (startR s a) true = L at *
  unfold finR
  by_cases he : L.err = 0
  · rw [if_neg (show ¬ L.err ≠ 0 by omega)]
    have := hE.2 he
    exact .inl ⟨rfl, rfl, this.1, this.2.1⟩
  · rw [if_pos (show L.err ≠ 0 from he)]
    have := hE.1 he
    exact .inr ⟨he, this.2.2.2, rfl, rfl, this.1, this.2.1, this.2.2.1⟩
end Go.Proofs.YthodphgbdmnpoaaGreat

/- A bracket of one range. -/
namespace Go.Proofs.YthodphgbdmnpoaaGreat
open Go.RowKit BS

/-- One that is no byte of ']', '[', '^', '-'. -/
def EndB (b : Nat) : Prop := b ≠ 93 ∧ b ≠ 91 ∧ b ≠ 94 ∧ b ≠ 45

theorem thingR_pair (s : ByteArray) (x : BR) (first : Bool) (h : x.pos + 3 < s.size) (h1 : EndB (bt s x.pos)) (h2 : bt s (x.pos + 1) = 45) (h3 : EndB (bt s (x.pos + 2))) :
    thingR s x first = if bt s (x.pos + 2) < bt s x.pos then badR 4 (x.pos + 3) else addR x (bt s x.pos) (bt s (x.pos + 2)) (x.pos + 3) := by
  unfold thingR
  simp only
  rw [if_neg (by omega), if_neg (fun h => h1.1 h.1), if_neg (by omega), if_neg (fun h => h1.2.1 h.1), if_neg (fun h => h1.2.1 h.1), if_neg (by rw [h2]; decide), if_neg (by omega), if_neg h3.1]
  by_cases hc : bt s (x.pos + 2) < bt s x.pos
  · rw [if_pos hc, if_pos hc]
  · rw [if_neg hc, if_neg hc, if_neg (fun h => h3.2.1 h.1), if_neg (fun h => h3.2.1 h.1)]
theorem thingR_end (s : ByteArray) (x : BR) (h : x.pos < s.size) (h1 : bt s x.pos = 93) : thingR s x false = ⟨x.set, x.pos + 1, x.err, x.place, true, x.neg⟩ := by
  unfold thingR
  simp only
  rw [if_neg (by omega), if_pos ⟨h1, trivial⟩]

theorem loopR_pair (s : ByteArray) (x : BR) (hf : x.fin = false) (he : x.err = 0) (n : Nat) (h : x.pos + 3 < s.size) (h1 : EndB (bt s x.pos)) (h2 : bt s (x.pos + 1) = 45) (h3 : EndB (bt s (x.pos + 2)))
    (h4 : bt s (x.pos + 3) = 93) : loopR s (n + 3) x true = if bt s (x.pos + 2) < bt s x.pos then badR 4 (x.pos + 3) else ⟨x.set ||| range (bt s x.pos) (bt s (x.pos + 2)), x.pos + 4, x.err, x.place, true, x.neg⟩ := by
  have ht := thingR_pair s x true h h1 h2 h3
  by_cases hc : bt s (x.pos + 2) < bt s x.pos
  · rw [if_pos hc] at ht ⊢
    rw [loopR, if_neg (by rw [hf]; decide), ht, if_pos (by simp [badR])]
  · rw [if_neg hc] at ht ⊢
    rw [loopR, if_neg (by rw [hf]; decide), ht, if_neg (by simpa [addR] using he)]
    have e2 : thingR s (addR x (bt s x.pos) (bt s (x.pos + 2)) (x.pos + 3)) false = ⟨x.set ||| range (bt s x.pos) (bt s (x.pos + 2)), x.pos + 3 + 1, x.err, x.place, true, x.neg⟩ := thingR_end s _ h h4
    rw [loopR, if_neg (by simp [addR, hf]), e2, if_neg (by simpa using he), loopR_fin _ _ _ _ rfl]

theorem readR_pair (s : ByteArray) (k : Nat) (h : k + 4 < s.size) (h0 : bt s k = 91) (h1 : EndB (bt s (k + 1))) (h2 : bt s (k + 2) = 45) (h3 : EndB (bt s (k + 3))) (h4 : bt s (k + 4) = 93) :
    readR s k = if bt s (k + 3) < bt s (k + 1) then (0, 0, 4, k + 4) else (range (bt s (k + 1)) (bt s (k + 3)), k + 5, 0, 0) := by
  unfold readR
  rw [if_neg (by omega)]
  rw [show (k : Int).toNat = k from rfl, if_neg (by rw [h0]; omega)]
  have es : startR s k = ⟨0, k + 1, 0, 0, false, false⟩ := by rw [startR, if_neg (fun h => h1.2.2.1 h.2)]
  obtain ⟨n, hn⟩ : ∃ n, s.size + 1 = n + 3 := ⟨s.size - 2, by omega⟩
  rw [es, hn, loopR_pair s ⟨0, k + 1, 0, 0, false, false⟩ rfl rfl n h h1 h2 h3 h4]
  simp only
  by_cases hc : bt s (k + 1 + 2) < bt s (k + 1)
  · rw [if_pos hc, if_pos hc]; rfl
  · rw [if_neg hc, if_neg hc]
    simp [finR]
theorem readR_npair (s : ByteArray) (k : Nat) (h : k + 5 < s.size) (h0 : bt s k = 91) (hn : bt s (k + 1) = 94) (h1 : EndB (bt s (k + 2))) (h2 : bt s (k + 3) = 45) (h3 : EndB (bt s (k + 4))) (h4 : bt s (k + 5) = 93) :
    readR s k = if bt s (k + 4) < bt s (k + 2) then (0, 0, 4, k + 5) else (~~~ range (bt s (k + 2)) (bt s (k + 4)), k + 6, 0, 0) := by
  unfold readR
  rw [if_neg (by omega)]
  rw [show (k : Int).toNat = k from rfl, if_neg (by rw [h0]; omega)]
  have es : startR s k = ⟨0, k + 2, 0, 0, false, true⟩ := by rw [startR, if_pos ⟨by omega, hn⟩]
  obtain ⟨n, hn⟩ : ∃ n, s.size + 1 = n + 3 := ⟨s.size - 2, by omega⟩
  rw [es, hn, loopR_pair s ⟨0, k + 2, 0, 0, false, true⟩ rfl rfl n h h1 h2 h3 h4]
  simp only
  by_cases hc : bt s (k + 2 + 2) < bt s (k + 2)
  · rw [if_pos hc, if_pos hc]; rfl
  · rw [if_neg hc, if_neg hc]
    simp [finR]

end Go.Proofs.YthodphgbdmnpoaaGreat

/- Runs: a set's runs, as the program tells them. -/
namespace Go.Proofs.YthodphgbdmnpoaaGreat
open Go.RowKit Go.Shelf BS
attribute [local go_sem] Oper.semAt_some

/-- One byte more: the last run grows, or a new one begins. -/
def runStep (rs : List (Nat × Nat)) (x : Nat) : List (Nat × Nat) :=
  match rs.getLast? with
  | some (a, b) => if (b + 1) % 256 = x then rs.dropLast ++ [(a, x)] else rs ++ [(x, x)]
  | none => [(x, x)]
def runsOf (l : List Nat) : List (Nat × Nat) := l.foldl runStep []
theorem runsOf_snoc (l : List Nat) (x : Nat) : runsOf (l ++ [x]) = runStep (runsOf l) x := by simp [runsOf]

/-- The cells of a list of runs. -/
def runCells (rs : List (Nat × Nat)) : List Value := rs.flatMap fun r => [Value.int .u8 (r.1 : Int), Value.int .u8 (r.2 : Int)]

theorem runCells_len (rs : List (Nat × Nat)) : (runCells rs).length = rs.length * 2 := by
  induction rs with
  | nil => rfl
  | cons r rs ih => simp only [runCells, List.flatMap_cons, List.length_append, List.length_cons, List.length_nil] at ih ⊢; omega
theorem runCells_snoc (rs : List (Nat × Nat)) (a b : Nat) : runCells (rs ++ [(a, b)]) = runCells rs ++ [.int .u8 (a : Int), .int .u8 (b : Int)] := by simp [runCells]
theorem runCells_last (rs : List (Nat × Nat)) (a b : Nat) : (runCells (rs ++ [(a, b)]))[rs.length * 2 + 1]? = some (.int .u8 (b : Int)) := by
  rw [runCells_snoc, List.getElem?_append_right (by rw [runCells_len]; omega), runCells_len]
  simp
theorem runCells_set (rs : List (Nat × Nat)) (a b x : Nat) : (runCells (rs ++ [(a, b)])).set (rs.length * 2 + 1) (.int .u8 (x : Int)) = runCells (rs ++ [(a, x)]) := by
  rw [runCells_snoc, runCells_snoc, List.set_append_right _ _ (by rw [runCells_len]; omega), runCells_len]
  simp
theorem nil_or_snoc (rs : List (Nat × Nat)) : rs = [] ∨ ∃ rs' a b, rs = rs' ++ [(a, b)] := by
  rcases List.eq_nil_or_concat rs with h | ⟨rs', ⟨a, b⟩, h⟩
  · exact .inl h
  · exact .inr ⟨rs', a, b, by rw [h, List.concat_eq_append]⟩
theorem runStep_len (rs : List (Nat × Nat)) (x : Nat) : (runStep rs x).length ≤ rs.length + 1 := by
  unfold runStep
  split
  · split <;> simp
  · simp
theorem runsOf_len (l : List Nat) : (runsOf l).length ≤ l.length := by
  suffices h : ∀ l rs, (List.foldl runStep rs l).length ≤ rs.length + l.length by simpa [runsOf] using h l []
  intro l
  induction l with
  | nil => intro rs; simp
  | cons x l ih => intro rs; have := ih (runStep rs x); have := runStep_len rs x; simp only [List.foldl_cons, List.length_cons]; omega
theorem runStep_none (x : Nat) : runStep [] x = [(x, x)] := rfl
theorem runStep_grow (rs : List (Nat × Nat)) (a b x : Nat) (h : (b + 1) % 256 = x) : runStep (rs ++ [(a, b)]) x = rs ++ [(a, x)] := by simp [runStep, h]
theorem runStep_new (rs : List (Nat × Nat)) (a b x : Nat) (h : (b + 1) % 256 ≠ x) : runStep (rs ++ [(a, b)]) x = rs ++ [(a, b)] ++ [(x, x)] := by simp [runStep, h]

theorem Blk.news2 {W : World} {B : Nat} {a b : Value} {t : TypeId} (h : Blk W B #[a, b] t) : ∀ j u, [a, b][j]? = some u → W.cell? ((⟨B, 0, none⟩ : Addr).add j) = some u := by
  intro j u hu
  rw [Addr.add_mid]
  rw [Nat.zero_add, h.cell j]
  simpa using hu

end Go.Proofs.YthodphgbdmnpoaaGreat

/- Plain facts on runs: they lie apart, ascending, and are together the set. -/
namespace Go.Proofs.YthodphgbdmnpoaaGreat
open Go.RowKit BS

structure RunsInv (f : Nat → Bool) (k : Nat) (rs : List (Nat × Nat)) : Prop where
  ok : ∀ r ∈ rs, r.1 ≤ r.2 ∧ r.2 < k
  apart : rs.Pairwise fun r r' => r.2 + 2 ≤ r'.1
  all : ∀ j, j < k → (f j = true ↔ ∃ r ∈ rs, r.1 ≤ j ∧ j ≤ r.2)

theorem runsInv (f : Nat → Bool) : ∀ k, k ≤ 256 → RunsInv f k (runsOf (el f k))
  | 0, _ => ⟨fun _ h => by simp [el, runsOf] at h, by simp [el, runsOf], fun j hj => by omega⟩
  | k + 1, hk => by
    have ih := runsInv f k (by omega)
    rw [el_succ]
    by_cases hf : f k = true
    · rw [hf, if_pos rfl, runsOf_snoc]
      generalize runsOf (el f k) = rs at *
      rcases nil_or_snoc rs with rfl | ⟨rs', a, b, rfl⟩
      · rw [runStep_none]
        refine ⟨fun r hr => ?_, by simp, fun j hj => ?_⟩
        · simp at hr; subst hr; exact ⟨Nat.le_refl _, by simp⟩
        · by_cases hjk : j = k
          · subst hjk; simp [hf]
          · have := ih.all j (by omega)
            simp at this
            simp [this]; omega
      · have hb := ih.ok (a, b) (by simp)
        simp only at hb
        have hap := List.pairwise_append.1 ih.apart
        by_cases hbk : (b + 1) % 256 = k
        · rw [runStep_grow _ _ _ _ hbk]
          have hb1 : b + 1 = k := by omega
          refine ⟨fun r hr => ?_, ?_, fun j hj => ?_⟩
          · rcases List.mem_append.1 hr with h | h
            · have := ih.ok r (by simp [h]); exact ⟨this.1, by omega⟩
            · simp at h; subst h; simp only; omega
          · refine List.pairwise_append.2 ⟨hap.1, by simp, fun r hr r' hr' => ?_⟩
            simp at hr'; subst hr'
            exact hap.2.2 r hr (a, b) (by simp)
          · by_cases hjk : j = k
            · subst hjk; simp only [hf, true_iff]; exact ⟨(a, j), by simp, by simp only; omega⟩
            · rw [ih.all j (by omega)]
              constructor
              · rintro ⟨r, hr, h1, h2⟩
                rcases List.mem_append.1 hr with h | h
                · exact ⟨r, by simp [h], h1, h2⟩
                · simp at h; subst h; exact ⟨(a, k), by simp, h1, by simp only at h2 ⊢; omega⟩
              · rintro ⟨r, hr, h1, h2⟩
                rcases List.mem_append.1 hr with h | h
                · exact ⟨r, by simp [h], h1, h2⟩
                · simp at h; subst h; exact ⟨(a, b), by simp, h1, by simp only at h2 ⊢; omega⟩
        · rw [runStep_new _ _ _ _ hbk]
          have hb1 : b + 1 ≠ k := fun e => hbk (by omega)
          refine ⟨fun r hr => ?_, ?_, fun j hj => ?_⟩
          · rcases List.mem_append.1 hr with h | h
            · have := ih.ok r h; exact ⟨this.1, by omega⟩
            · simp at h; subst h; exact ⟨Nat.le_refl _, by simp⟩
          · refine List.pairwise_append.2 ⟨ih.apart, by simp, fun r hr r' hr' => ?_⟩
            simp at hr'; subst hr'
            rcases List.mem_append.1 hr with h | h
            · have h1 := hap.2.2 r h (a, b) (by simp)
              simp only at h1 ⊢; omega
            · simp at h; subst h; simp only; omega
          · by_cases hjk : j = k
            · subst hjk; simp only [hf, true_iff]; exact ⟨(j, j), by simp, Nat.le_refl _, Nat.le_refl _⟩
            · rw [ih.all j (by omega)]
              constructor
              · rintro ⟨r, hr, h1, h2⟩
                exact ⟨r, List.mem_append_left _ hr, h1, h2⟩
              · rintro ⟨r, hr, h1, h2⟩
                rcases List.mem_append.1 hr with h | h
                · exact ⟨r, h, h1, h2⟩
                · simp at h; subst h; simp only at h1 h2; omega
    · rw [if_neg hf, List.append_nil]
      refine ⟨fun r hr => ⟨(ih.ok r hr).1, by have := (ih.ok r hr).2; omega⟩, ih.apart, fun j hj => ?_⟩
      by_cases hjk : j = k
      · subst hjk
        refine ⟨fun h => absurd h hf, ?_⟩
        rintro ⟨r, hr, h1, h2⟩
        have := (ih.ok r hr).2; omega
      · exact ih.all j (by omega)

/-- The runs of a set. -/
def rsOf (s : BitVec 256) : List (Nat × Nat) := runsOf (el s.getLsbD 256)
theorem rsOf_inv (s : BitVec 256) : RunsInv s.getLsbD 256 (rsOf s) := runsInv _ 256 (Nat.le_refl _)
theorem rsOf_ok (s : BitVec 256) (i : Nat) (h : i < (rsOf s).length) : (rsOf s)[i].1 ≤ (rsOf s)[i].2 ∧ (rsOf s)[i].2 < 256 := (rsOf_inv s).ok _ (List.getElem_mem h)
theorem rsOf_apart (s : BitVec 256) (i : Nat) (h : i + 1 < (rsOf s).length) : (rsOf s)[i].2 + 2 ≤ (rsOf s)[i + 1].1 :=
  List.pairwise_iff_getElem.1 (rsOf_inv s).apart i (i + 1) (by omega) h (by omega)
theorem rsOf_len (s : BitVec 256) : (rsOf s).length ≤ 256 := Nat.le_trans (runsOf_len _) (el_len _ _)

/-- The sets of some runs, together. -/
def orAll (rs : List (Nat × Nat)) : BitVec 256 := rs.foldl (fun t r => t ||| range r.1 r.2) 0
theorem orAll_snoc (rs : List (Nat × Nat)) (r : Nat × Nat) : orAll (rs ++ [r]) = orAll rs ||| range r.1 r.2 := by simp [orAll]
theorem get_orAll (rs : List (Nat × Nat)) (j : Nat) (hj : j < 256) : (orAll rs).getLsbD j = true ↔ ∃ r ∈ rs, r.1 ≤ j ∧ j ≤ r.2 := by
  suffices h : ∀ t, (rs.foldl (fun t r => t ||| range r.1 r.2) t).getLsbD j = true ↔ (t.getLsbD j = true ∨ ∃ r ∈ rs, r.1 ≤ j ∧ j ≤ r.2) by
    have := h 0; simpa [orAll] using this
  induction rs with
  | nil => intro t; simp
  | cons r rs ih =>
    intro t
    rw [List.foldl_cons, ih, BitVec.getLsbD_or, range, get_ofFn]
    simp only [hj, decide_true, Bool.true_and, Bool.or_eq_true, Bool.and_eq_true, decide_eq_true_eq, List.mem_cons, exists_eq_or_imp]
    constructor
    · rintro ((h | h) | h)
      · exact .inl h
      · exact .inr (.inl h)
      · exact .inr (.inr h)
    · rintro (h | h | h)
      · exact .inl (.inl h)
      · exact .inl (.inr h)
      · exact .inr h
theorem orAll_rsOf (s : BitVec 256) : orAll (rsOf s) = s := by
  apply BitVec.eq_of_getLsbD_eq
  intro j hj
  rw [Bool.eq_iff_iff, get_orAll _ _ hj]
  exact ((rsOf_inv s).all j hj).symm

theorem runCells_get (rs : List (Nat × Nat)) (j : Nat) (h : j < rs.length) : (runCells rs)[j * 2]? = some (.int .u8 (rs[j].1 : Int)) ∧ (runCells rs)[j * 2 + 1]? = some (.int .u8 (rs[j].2 : Int)) := by
  induction rs generalizing j with
  | nil => simp at h
  | cons r rs ih =>
    cases j with
    | zero => simp [runCells]
    | succ j =>
      have := ih j (by simpa using h)
      simp only [runCells, List.flatMap_cons] at this ⊢
      rw [show (j + 1) * 2 = j * 2 + 2 by omega]
      simpa using this

/-- Block g holds the runs rs. -/
def RowAt (g : Nat) (rs : List (Nat × Nat)) (W : World) : Prop := g < W.heap.size ∧ ∀ j (h : j < rs.length), W.cell? ⟨g, j * 2, none⟩ = some (.int .u8 (rs[j].1 : Int)) ∧ W.cell? ⟨g, j * 2 + 1, none⟩ = some (.int .u8 (rs[j].2 : Int))
theorem RowAt.below {g : Nat} {rs : List (Nat × Nat)} {W W' : World} (h : RowAt g rs W) (hb : Below W.heap.size W W') : RowAt g rs W' :=
  ⟨Nat.lt_of_lt_of_le h.1 hb.size, fun j hj => ⟨(hb.cell (p := ⟨g, j * 2, none⟩) h.1).trans (h.2 j hj).1, (hb.cell (p := ⟨g, j * 2 + 1, none⟩) h.1).trans (h.2 j hj).2⟩⟩
theorem RowAt.set {g : Nat} {rs : List (Nat × Nat)} {W : World} (h : RowAt g rs W) {B : Nat} (hne : g ≠ B) (i : Nat) (v : Value) : RowAt g rs (W.setCell ⟨B, i, none⟩ v) := by
  have hs := Below.heap_setCell W ⟨B, i, none⟩ v g hne
  exact ⟨by simpa using h.1, fun j hj => ⟨(World.cell?_of_block (w := W) (a := ⟨g, j * 2, none⟩) hs).trans (h.2 j hj).1, (World.cell?_of_block (w := W) (a := ⟨g, j * 2 + 1, none⟩) hs).trans (h.2 j hj).2⟩⟩
/-- What Runs hands back: a slice of that many, in a new block, where there are any. -/
theorem row_of_owns {base : Nat} {e : TypeId} {v : Value} {rs : List (Nat × Nat)} {W : World} (h : W.ownsRow base e 2 v rs.length (runCells rs)) :
    ∃ a cap, v = .slice a rs.length cap ∧ (rs ≠ [] → ∃ g, a = some ⟨g, 0, none⟩ ∧ base ≤ g ∧ RowAt g rs W) := by
  rcases h.2 with ⟨rfl, h0⟩ | ⟨g, cap, cur, rfl, hb, hg, _, _, _, _⟩
  · exact ⟨none, 0, by rw [h0], fun hne => absurd (List.eq_nil_of_length_eq_zero h0) hne⟩
  · refine ⟨_, cap, rfl, fun _ => ⟨g, rfl, hb, (Array.getElem?_eq_some_iff.1 hg).1, fun j hj => ?_⟩⟩
    have h1 := h.cellAt (j * 2) (by omega)
    have h2 := h.cellAt (j * 2 + 1) (by omega)
    exact ⟨h1.trans (runCells_get rs j hj).1, h2.trans (runCells_get rs j hj).2⟩
end Go.Proofs.YthodphgbdmnpoaaGreat

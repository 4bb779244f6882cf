/- Texts put together: Rb Co Cn Sz Rm Ow Ta Lt Rc Rd Rz Ma. -/
import Derived.Test.YtldaaelmifbbhaaGreatPE
import Derived.Test.YtldaaelmifbbhaaGreatPB
import Derived.Laws.ResultCell
import Derived.Deep.WholeRow
import Derived.Test.YtldaaelmifbbhaaGreatPD
import Derived.Deep.MidRow
import Derived.Maps.AppendAt
import Derived.Laws.AppendOwn
import Derived.Laws.OwnMore
import Derived.Deep.AppendLies
import Derived.Test.YtldaaelmifbbhaaGreatPC
import Derived.Lib.SlBytesConst
import Derived.Lib.Hide
import Derived.LoopTactic
import Derived.Handy
import Derived.WalkLawsBesides
import Derived.IntWalk
import Derived.BigQuiet
import Derived.Outline
import Derived.Deep.QuietTactic
import Derived.Deep.DeepCutAuto
/- The document's sets, by the reference's own calls: Range, Both, Not. -/
namespace Go.Proofs.YtldaaelmifbbhaaGreat
open Go.RowKit BS

theorem infoBools : (Tryz.prog.info? 127).map (·.size) = some 256 := by kernel_rfl
theorem zeroBools : ∃ zs : Array Value, Bools zs (fun _ => false) ∧ ∀ w, (zeroValue 127).run Tryz.prog w = .ok (.agg zs) w := by
  refine ⟨Array.replicate 256 (.bool false), ⟨by simp, fun i hi => by simp [hi]⟩, fun w => ?_⟩
  have h : (zeroValue 127).run Tryz.prog w = .ok (.agg (Array.replicate 256 (.bool false))) w := by kernel_rfl
  exact h

theorem Bools.congr {arr : Array Value} {f g : Nat → Bool} (h : Bools arr f) (e : ∀ j, j < 256 → f j = g j) : Bools arr g := ⟨h.1, fun i hi => by rw [h.2 i hi, e i hi]⟩

def SG (w : World) (f : Nat → Bool) (W : World) : Prop :=
  ∃ arr, Bools arr f ∧ (Blk W w.heap.size (setA 0) 38 ∧ Blk W (w.heap.size + 1) arr 127) ∧ Below w.heap.size w W

set_option maxRecDepth 100000 in
set_option maxHeartbeats 2000000 in
/-- Range, by the document. -/
theorem rrange_calls (lo hi : Nat) (w : World) (h1 : lo < 256) (h2 : hi < 256) :
    Calls Tryz.prog 54 #[.int .i64 lo, .int .i64 hi] w fun e w' => e = .returned (setV (range lo hi)) ∧ Below w.heap.size w w' := by
  obtain ⟨zs, hzb, hz⟩ := zeroBools
  have h0 : SG w (fun j => decide (lo ≤ j) && decide (j < lo)) ((w.alloc (.cells (setA 0) 38)).alloc (.cells zs 127)) := by
    refine ⟨zs, hzb.congr (fun j _ => ?_), ⟨(Blk.new w _ _).alloc _, ?_⟩, by go_grown⟩
    · by_cases h : lo ≤ j
      · simp [show ¬ j < lo by omega]
      · simp [h]
    · have := Blk.new (w.alloc (.cells (setA 0) 38)) zs 127
      rwa [World.size_alloc] at this
  clear hzb
  go_enter Tryz.func54, Tryz.ntmps54
  go_wp2_with fail
  have e0 : (w.alloc (.cells #[.int .u64 0, .int .u64 0, .int .u64 0, .int .u64 0] 38)).alloc (.cells zs 127) = (w.alloc (.cells (setA 0) 38)).alloc (.cells zs 127) := rfl
  rw [e0]
  clear e0 hz
  generalize (w.alloc (.cells (setA 0) 38)).alloc (.cells zs 127) = w1 at *
  go_loopw [6] (fun i wr => ∃ k : Nat, lo ≤ k ∧ k ≤ 256 ∧ (k ≤ hi + 1 ∨ k = lo) ∧ i = .int .i64 k ∧ SG w (fun j => decide (lo ≤ j) && decide (j < k)) wr) (fun i _ => 256 - (intOf i).toNat)
  case atStart => exact ⟨lo, Nat.le_refl _, by omega, .inr rfl, rfl, h0⟩
  case round =>
    clear h0
    obtain ⟨k, hlk, hk, hkh, rfl, arr, hb, ⟨bR, bL⟩, hB⟩ := hrel
    by_cases hkl : k ≤ hi
    · have hc := (bL.cell k).trans (hb.2 k (by omega))
      have hf := bL.frozen k
      have HB := Lib.hid hb
      clear hb hkh
      go_wp2
      go_roundw
      case rel =>
        refine ⟨k + 1, by omega, by omega, .inl (by omega), by simp, _, (HB.out.set k true).congr ?_, ⟨bR.other (by omega) _ _, bL.set k _⟩, below_set hB (by omega) _ _⟩
        intro j _
        by_cases hjk : j = k
        · subst hjk; simp [hlk]
        · have : (j < k + 1) ↔ (j < k) := by omega
          simp [hjk, this]
      case measure => simp [intOf]; omega
    · have he : ofFn (fun j => decide (lo ≤ j) && decide (j < k)) = range lo hi := by
        unfold range
        apply ofFn_congr; intro j _
        by_cases h : lo ≤ j
        · simp only [h, decide_true, Bool.true_and, decide_eq_decide]; omega
        · simp [h]
      have hOf := of_calls arr _ hb
      rw [he] at hOf
      have HO := Lib.hid hOf
      have hi3 : (Tryz.prog.info? 127).map (·.size) = some arr.size := by rw [hb.1]; exact infoBools
      have HI := Lib.hid hi3
      have BL := Lib.hid bL
      clear hb hOf he hkh bL hi3
      go_wp2_with (refine wpList_load_row rfl 127 _ rfl (w.heap.size + 1) rfl 127 arr (0, 0) _ BL.out Tryz.underlying127 rfl HI.out ?_)
      refine (HO.out _).mono ?_
      rintro e w2 ⟨rfl, hb2⟩
      have bR2 := bR.below hb2 bR.lt
      have hB2 := hB.trans (hb2.mono hB.size)
      obtain ⟨⟨d0, d1, d2, d3⟩, g0, g1, g2, g3⟩ := bR2.cells4
      have HB2 := Lib.hid hB2
      have BR2 := Lib.hid bR2
      clear hb2 BL HI HO hB bR hB2 bR2
      generalize ht : range lo hi = t at *
      have HT := Lib.hid ht
      clear ht
      go_wp2
      obtain ⟨hR, hB⟩ := fin4 BR2.out HB2.out (Nat.le_refl _) t
      clear d0 d1 d2 d3 g0 g1 g2 g3 HB2 BR2
      generalize (((w2.setCell ⟨w.heap.size, 0, none⟩ (.int .u64 (wd t 0))).setCell ⟨w.heap.size, 1, none⟩ (.int .u64 (wd t 1))).setCell ⟨w.heap.size, 2, none⟩ (.int .u64 (wd t 2))).setCell ⟨w.heap.size, 3, none⟩ (.int .u64 (wd t 3)) = W4 at *
      obtain ⟨⟨e0, e1, e2, e3⟩, _⟩ := hR.cells4
      exact bodyPost_ret (v := setV t) (by simp [results, Tryz.results54, go_sem, e0, e1, e2, e3]) rfl ⟨by rw [HT.out], hB⟩

def bothF (how : Nat) (x y : Bool) : Bool := (how == 1 && (x || y)) || (how == 2 && x && y) || (how == 3 && x && !y)

def S2 (w : World) (a b : BitVec 256) (arr : Array Value) (W : World) : Prop :=
  (Blk W w.heap.size (setA a) 38 ∧ Blk W (w.heap.size + 1) (setA b) 38 ∧ Blk W (w.heap.size + 1 + 1) (setA 0) 38 ∧ Blk W (w.heap.size + 1 + 1 + 1) arr 127) ∧ Below w.heap.size w W
theorem keep2 {w W W' : World} {a b : BitVec 256} {arr : Array Value} (h : S2 w a b arr W) (hb : Below W.heap.size W W') : S2 w a b arr W' :=
  ⟨⟨h.1.1.below hb h.1.1.lt, h.1.2.1.below hb h.1.2.1.lt, h.1.2.2.1.below hb h.1.2.2.1.lt, h.1.2.2.2.below hb h.1.2.2.2.lt⟩, h.2.trans (hb.mono h.2.size)⟩
theorem drew2 {w W : World} {a b : BitVec 256} {arr : Array Value} (h : S2 w a b arr W) : S2 w a b arr W.drew := ⟨⟨h.1.1, h.1.2.1, h.1.2.2.1, h.1.2.2.2⟩, h.2.drew⟩

set_option maxRecDepth 100000 in
set_option maxHeartbeats 4000000 in
/-- Both, by the document, at each of its three ways. -/
theorem both_calls (a b : BitVec 256) (how : Nat) (hhow : how = 1 ∨ how = 2 ∨ how = 3) (w : World) :
    Calls Tryz.prog 74 #[setV a, setV b, .int .i64 how] w fun e w' => e = .returned (setV (ofFn fun j => bothF how (a.getLsbD j) (b.getLsbD j))) ∧ Below w.heap.size w w' := by
  obtain ⟨zs, hzb, hz⟩ := zeroBools
  have h0 : ∃ arr, Bools arr (fun j => decide (j < 0) && bothF how (a.getLsbD j) (b.getLsbD j)) ∧ S2 w a b arr ((((w.alloc (.cells (setA a) 38)).alloc (.cells (setA b) 38)).alloc (.cells (setA 0) 38)).alloc (.cells zs 127)) := by
    refine ⟨zs, hzb.congr (fun j _ => by simp), ⟨(((Blk.new w _ _).alloc _).alloc _).alloc _, ?_, ?_, ?_⟩, by go_grown⟩
    · have := ((Blk.new (w.alloc (.cells (setA a) 38)) (setA b) 38).alloc (.cells (setA 0) 38)).alloc (.cells zs 127)
      rwa [World.size_alloc] at this
    · have := (Blk.new ((w.alloc (.cells (setA a) 38)).alloc (.cells (setA b) 38)) (setA 0) 38).alloc (.cells zs 127)
      rwa [World.size_alloc, World.size_alloc] at this
    · have := Blk.new (((w.alloc (.cells (setA a) 38)).alloc (.cells (setA b) 38)).alloc (.cells (setA 0) 38)) zs 127
      rwa [World.size_alloc, World.size_alloc, World.size_alloc] at this
  clear hzb
  have HH := Lib.hid hhow
  clear hhow
  go_enter Tryz.func74, Tryz.ntmps74
  go_wp2_with fail
  have e0 : ((((w.alloc (.cells #[.int .u64 (wd a 0), .int .u64 (wd a 1), .int .u64 (wd a 2), .int .u64 (wd a 3)] 38)).alloc (.cells #[.int .u64 (wd b 0), .int .u64 (wd b 1), .int .u64 (wd b 2), .int .u64 (wd b 3)] 38)).alloc (.cells #[.int .u64 0, .int .u64 0, .int .u64 0, .int .u64 0] 38)).alloc (.cells zs 127)) = ((((w.alloc (.cells (setA a) 38)).alloc (.cells (setA b) 38)).alloc (.cells (setA 0) 38)).alloc (.cells zs 127)) := rfl
  rw [e0]
  clear e0 hz
  generalize ((((w.alloc (.cells (setA a) 38)).alloc (.cells (setA b) 38)).alloc (.cells (setA 0) 38)).alloc (.cells zs 127)) = w1 at *
  go_loopw [8] (fun i wr => ∃ k : Nat, k ≤ 256 ∧ i = .int .i64 k ∧ ∃ arr, Bools arr (fun j => decide (j < k) && bothF how (a.getLsbD j) (b.getLsbD j)) ∧ S2 w a b arr wr) (fun i _ => 256 - (intOf i).toNat)
  case atStart => exact ⟨0, by omega, rfl, h0⟩
  case round =>
    clear h0
    obtain ⟨k, hk, rfl, arr, hb, hU⟩ := hrel
    by_cases hkl : k < 256
    · have HB := Lib.hid hb
      clear hb
      go_wp2_with fail
      refine region_steps (S := S2 w a b arr) (by kernel_rfl) (drew2 hU) ?_
      simp only [List.size_toArray, List.length_cons, List.length_nil, Nat.reduceAdd, Array.replicate_succ, Array.replicate_zero, List.push_toArray, List.nil_append, List.cons_append]
      refine AnyS.next (i := 0) (d := some 15) (v := setV a) rfl rfl (by kernel_rfl) (by kernel_rfl) (by kernel_rfl) (StepsIf.yield (by kernel_rfl) (fun w' hS => by obtain ⟨⟨c0, c1, c2, c3⟩, _⟩ := hS.1.1.cells4; clear hS; go_simp)) ?_
      intro a' ha'
      simp only [Act.put, List.setIfInBounds_toArray, List.set_cons_zero, List.set_cons_succ] at ha'
      subst ha'
      refine AnyS.next (i := 1) (d := some 16) (v := .int .i64 ((k : Nat) : Int)) rfl rfl (by kernel_rfl) (by kernel_rfl) (by kernel_rfl) (StepsIf.yield (by kernel_rfl) (fun w' hS => by clear hS; go_simp)) ?_
      intro a' ha'
      simp only [Act.put, List.setIfInBounds_toArray, List.set_cons_zero, List.set_cons_succ] at ha'
      subst ha'
      refine AnyS.next (i := 2) (d := some 17) (v := .bool (a.getLsbD k)) rfl rfl (by kernel_rfl) (by kernel_rfl) (by kernel_rfl) (StepsIf.call (by kernel_rfl) (fun w' hS => by clear hS; go_simp) (fun w' hS => (rhas_calls a k w' (by omega) (by omega)).mono fun e w'' h => ⟨h.1, keep2 hS h.2⟩)) ?_
      intro a' ha'
      simp only [Act.put, List.setIfInBounds_toArray, List.set_cons_zero, List.set_cons_succ] at ha'
      subst ha'
      refine AnyS.next (i := 3) (d := some 18) (v := setV b) rfl rfl (by kernel_rfl) (by kernel_rfl) (by kernel_rfl) (StepsIf.yield (by kernel_rfl) (fun w' hS => by obtain ⟨⟨c0, c1, c2, c3⟩, _⟩ := hS.1.2.1.cells4; clear hS; go_simp)) ?_
      intro a' ha'
      simp only [Act.put, List.setIfInBounds_toArray, List.set_cons_zero, List.set_cons_succ] at ha'
      subst ha'
      refine AnyS.next (i := 4) (d := some 19) (v := .int .i64 ((k : Nat) : Int)) rfl rfl (by kernel_rfl) (by kernel_rfl) (by kernel_rfl) (StepsIf.yield (by kernel_rfl) (fun w' hS => by clear hS; go_simp)) ?_
      intro a' ha'
      simp only [Act.put, List.setIfInBounds_toArray, List.set_cons_zero, List.set_cons_succ] at ha'
      subst ha'
      refine AnyS.next (i := 5) (d := some 20) (v := .bool (b.getLsbD k)) rfl rfl (by kernel_rfl) (by kernel_rfl) (by kernel_rfl) (StepsIf.call (by kernel_rfl) (fun w' hS => by clear hS; go_simp) (fun w' hS => (rhas_calls b k w' (by omega) (by omega)).mono fun e w'' h => ⟨h.1, keep2 hS h.2⟩)) ?_
      intro a' ha'
      simp only [Act.put, List.setIfInBounds_toArray, List.set_cons_zero, List.set_cons_succ] at ha'
      subst ha'
      refine AnyS.next (i := 6) (d := some 9) (v := .bool (a.getLsbD k)) rfl rfl (by kernel_rfl) (by kernel_rfl) (by kernel_rfl) (StepsIf.yield (by kernel_rfl) (fun w' hS => by clear hS; go_simp)) ?_
      intro a' ha'
      simp only [Act.put, List.setIfInBounds_toArray, List.set_cons_zero, List.set_cons_succ] at ha'
      subst ha'
      refine AnyS.next (i := 7) (d := some 10) (v := .bool (b.getLsbD k)) rfl rfl (by kernel_rfl) (by kernel_rfl) (by kernel_rfl) (StepsIf.yield (by kernel_rfl) (fun w' hS => by clear hS; go_simp)) ?_
      intro a' ha'
      simp only [Act.put, List.setIfInBounds_toArray, List.set_cons_zero, List.set_cons_succ] at ha'
      subst ha'
      refine AnyS.done (by kernel_rfl) ?_ _
      clear hU
      intro w2 hU
      have hc := (hU.1.2.2.2.cell k).trans (HB.out.2 k hkl)
      have hf := hU.1.2.2.2.frozen k
      have HU := Lib.hid hU
      clear hU
      have key : ∀ v, v = bothF how (a.getLsbD k) (b.getLsbD k) → ∃ arr', Bools arr' (fun j => decide (j < k + 1) && bothF how (a.getLsbD j) (b.getLsbD j)) ∧ S2 w a b arr' (w2.setCell ⟨w.heap.size + 1 + 1 + 1, k, none⟩ (.bool v)) := fun v hv => by
        refine ⟨_, (HB.out.set k v).congr ?_, ⟨HU.out.1.1.other (by omega) _ _, HU.out.1.2.1.other (by omega) _ _, HU.out.1.2.2.1.other (by omega) _ _, HU.out.1.2.2.2.set k _⟩, below_set HU.out.2 (by omega) _ _⟩
        intro j _
        by_cases hjk : j = k
        · subst hjk; simp [hv]
        · have : (j < k + 1) ↔ (j < k) := by omega
          simp [hjk, this]
      have KEY := Lib.hid key
      clear key
      generalize a.getLsbD k = x at *
      generalize b.getLsbD k = y at *
      rcases HH.out with rfl | rfl | rfl <;> cases x <;> cases y
      all_goals
        go_wp2
        go_roundw
        case rel => exact ⟨k + 1, by omega, by simp, KEY.out _ rfl⟩
        case measure => simp [intOf]; omega
    · obtain rfl : k = 256 := by omega
      have hOf := of_calls arr _ (hb.congr (g := fun j => bothF how (a.getLsbD j) (b.getLsbD j)) (fun j hj => by simp [hj]))
      have HO := Lib.hid hOf
      have hi3 : (Tryz.prog.info? 127).map (·.size) = some arr.size := by rw [hb.1]; exact infoBools
      have HI := Lib.hid hi3
      have bR := hU.1.2.2.1
      have hB := hU.2
      have BL := Lib.hid hU.1.2.2.2
      clear hb hOf hi3 hU HH
      go_wp2_with (refine wpList_load_row rfl 127 _ rfl (w.heap.size + 1 + 1 + 1) rfl 127 arr (0, 0) _ BL.out Tryz.underlying127 rfl HI.out ?_)
      refine (HO.out _).mono ?_
      rintro e w2 ⟨rfl, hb2⟩
      have bR2 := bR.below hb2 bR.lt
      have hB2 := hB.trans (hb2.mono hB.size)
      obtain ⟨⟨d0, d1, d2, d3⟩, g0, g1, g2, g3⟩ := bR2.cells4
      have HB2 := Lib.hid hB2
      have BR2 := Lib.hid bR2
      clear hb2 BL HI HO hB bR hB2 bR2
      generalize ht : (ofFn fun j => bothF how (a.getLsbD j) (b.getLsbD j)) = t at *
      have HT := Lib.hid ht
      clear ht
      go_wp2
      obtain ⟨hR, hB⟩ := fin4 BR2.out HB2.out (by omega) t
      clear d0 d1 d2 d3 g0 g1 g2 g3 HB2 BR2
      generalize (((w2.setCell ⟨w.heap.size + 1 + 1, 0, none⟩ (.int .u64 (wd t 0))).setCell ⟨w.heap.size + 1 + 1, 1, none⟩ (.int .u64 (wd t 1))).setCell ⟨w.heap.size + 1 + 1, 2, none⟩ (.int .u64 (wd t 2))).setCell ⟨w.heap.size + 1 + 1, 3, none⟩ (.int .u64 (wd t 3)) = W4 at *
      obtain ⟨⟨e0, e1, e2, e3⟩, _⟩ := hR.cells4
      exact bodyPost_ret (v := setV t) (by simp [results, Tryz.results74, go_sem, e0, e1, e2, e3]) rfl ⟨by rw [HT.out], hB⟩

theorem both_or (a b : BitVec 256) : (ofFn fun j => bothF 1 (a.getLsbD j) (b.getLsbD j)) = a ||| b := by
  apply BitVec.eq_of_getLsbD_eq; intro j hj
  rw [get_ofFn, BitVec.getLsbD_or]; simp only [hj]
  cases a.getLsbD j <;> cases b.getLsbD j <;> rfl
theorem both_and (a b : BitVec 256) : (ofFn fun j => bothF 2 (a.getLsbD j) (b.getLsbD j)) = a &&& b := by
  apply BitVec.eq_of_getLsbD_eq; intro j hj
  rw [get_ofFn, BitVec.getLsbD_and]; simp only [hj]
  cases a.getLsbD j <;> cases b.getLsbD j <;> rfl
theorem both_less (a b : BitVec 256) : (ofFn fun j => bothF 3 (a.getLsbD j) (b.getLsbD j)) = a &&& ~~~b := by
  apply BitVec.eq_of_getLsbD_eq; intro j hj
  rw [get_ofFn, BitVec.getLsbD_and, BitVec.getLsbD_not]; simp only [hj]
  cases a.getLsbD j <;> cases b.getLsbD j <;> rfl
theorem ror_calls (a b : BitVec 256) (w : World) : Calls Tryz.prog 74 #[setV a, setV b, .int .i64 1] w fun e w' => e = .returned (setV (a ||| b)) ∧ Below w.heap.size w w' := by
  have h := both_calls a b 1 (.inl rfl) w
  rw [both_or] at h; exact h
theorem rand_calls (a b : BitVec 256) (w : World) : Calls Tryz.prog 74 #[setV a, setV b, .int .i64 2] w fun e w' => e = .returned (setV (a &&& b)) ∧ Below w.heap.size w w' := by
  have h := both_calls a b 2 (.inr (.inl rfl)) w
  rw [both_and] at h; exact h
theorem rless_calls (a b : BitVec 256) (w : World) : Calls Tryz.prog 74 #[setV a, setV b, .int .i64 3] w fun e w' => e = .returned (setV (a &&& ~~~b)) ∧ Below w.heap.size w w' := by
  have h := both_calls a b 3 (.inr (.inr rfl)) w
  rw [both_less] at h; exact h

theorem full_not (s : BitVec 256) : (range 0 255 &&& ~~~s) = ~~~s := by
  apply BitVec.eq_of_getLsbD_eq; intro j hj
  rw [BitVec.getLsbD_and, BitVec.getLsbD_not, range, get_ofFn]
  simp [hj, show j ≤ 255 by omega]

end Go.Proofs.YtldaaelmifbbhaaGreat

/- class.Of, Begins, Find, Names, Any: as the table says. -/
namespace Go.Proofs.YtldaaelmifbbhaaGreat
open Go.RowKit Go.Shelf BS

theorem ret_bool' {a b : Bool} (h : a = b) : Ending.returned (.bool a) = .returned (.bool b) := by rw [h]

set_option maxRecDepth 100000 in
set_option maxHeartbeats 2000000 in
theorem cOf_calls (name : ByteArray) (w : World) : Calls Tryz.prog 149 #[.string name] w fun e w' => e = .returned (.tuple #[setV (ofS name.toList), .bool (ofB name.toList)]) ∧ Below w.heap.size w w' := by
  have b0 := Blk.new w (setA 0) 38
  have hB0 : Below w.heap.size w (w.alloc (.cells (setA 0) 38)) := by go_grown
  go_enter Tryz.func149, Tryz.ntmps149
  go_wp2_with fail
  refine (table_calls _).mono ?_
  rintro e w1 ⟨rfl, hb1⟩
  replace b0 := b0.below hb1 (by simp)
  replace hB0 := hB0.trans (hb1.mono (by simp))
  clear hb1
  go_wp2_with fail
  go_loopw [7] (fun i wr => ∃ k : Nat, k ≤ 12 ∧ i = .int .i64 k ∧ (∀ j, j < k → (tE j).1.toList ≠ name.toList) ∧ Blk wr w.heap.size (setA 0) 38 ∧ Below w.heap.size w wr) (fun i _ => 12 - (intOf i).toNat)
  case atStart => exact ⟨0, by omega, rfl, fun j hj => by omega, b0, hB0⟩
  case round =>
    clear b0 hB0
    obtain ⟨k, hk, rfl, hno, hb, hB⟩ := hrel
    have HN := Lib.hid hno
    clear hno
    by_cases hkl : k < 12
    · have hix := tab_index k hkl
      by_cases hq : (tE k).1.toList = name.toList
      · have HS := Lib.hid (ofS_at name.toList k hkl HN.out hq)
        have HO := Lib.hid (ofB_at name.toList k hkl HN.out hq)
        have hqb : ((tE k).1.toList == name.toList) = true := beq_iff_eq.2 hq
        clear hq
        generalize (tE k).1 = nm at *
        generalize (tE k).2 = st at *
        obtain ⟨⟨c0, c1, c2, c3⟩, f0, f1, f2, f3⟩ := hb.cells4
        have hlt := hb.lt
        have hne : w.heap.size ≠ wr.heap.size := by omega
        go_wp2
        obtain ⟨hR, hBB⟩ := fin4 hb hB (Nat.le_refl _) st
        replace hR := hR.alloc (.cells #[.string nm, .int .u64 (wd st 0), .int .u64 (wd st 1), .int .u64 (wd st 2), .int .u64 (wd st 3)] 189)
        replace hBB := hBB.alloc (by simp; omega) (.cells #[.string nm, .int .u64 (wd st 0), .int .u64 (wd st 1), .int .u64 (wd st 2), .int .u64 (wd st 3)] 189)
        clear c0 c1 c2 c3 f0 f1 f2 f3 hb hB hix hqb
        generalize (((((wr.setCell ⟨w.heap.size, 0, none⟩ (.int .u64 (wd st 0))).setCell ⟨w.heap.size, 1, none⟩ (.int .u64 (wd st 1))).setCell ⟨w.heap.size, 2, none⟩ (.int .u64 (wd st 2))).setCell ⟨w.heap.size, 3, none⟩ (.int .u64 (wd st 3))).alloc (.cells #[.string nm, .int .u64 (wd st 0), .int .u64 (wd st 1), .int .u64 (wd st 2), .int .u64 (wd st 3)] 189)) = W4 at *
        obtain ⟨⟨e0, e1, e2, e3⟩, _⟩ := hR.cells4
        exact bodyPost_ret (v := .tuple #[setV st, .bool true]) (by simp [results, Tryz.results149, go_sem, e0, e1, e2, e3]) rfl ⟨by rw [HS.out, HO.out], hBB⟩
      · have hqb : ((tE k).1.toList == name.toList) = false := beq_eq_false_iff_ne.2 hq
        have HQ := Lib.hid hq
        clear hq
        generalize hnm : (tE k).1 = nm at hqb hix
        generalize (tE k).2 = st at *
        have HNM := Lib.hid hnm
        clear hnm
        go_wp2
        go_roundw
        case rel =>
          refine ⟨k + 1, by omega, by simp, fun j hj => ?_, hb.alloc _, hB.alloc hB.size _⟩
          by_cases hjk : j = k
          · subst hjk; exact HQ.out
          · exact HN.out j (by omega)
        case measure => simp [intOf]; omega
    · obtain rfl : k = 12 := by omega
      obtain ⟨⟨c0, c1, c2, c3⟩, f0, f1, f2, f3⟩ := hb.cells4
      go_wp2
      obtain ⟨hR, hBB⟩ := fin4 hb hB (Nat.le_refl _) 0
      have e9 : ((((wr.setCell ⟨w.heap.size, 0, none⟩ (.int .u64 0)).setCell ⟨w.heap.size, 1, none⟩ (.int .u64 0)).setCell ⟨w.heap.size, 2, none⟩ (.int .u64 0)).setCell ⟨w.heap.size, 3, none⟩ (.int .u64 0)) = ((((wr.setCell ⟨w.heap.size, 0, none⟩ (.int .u64 (wd 0 0))).setCell ⟨w.heap.size, 1, none⟩ (.int .u64 (wd 0 1))).setCell ⟨w.heap.size, 2, none⟩ (.int .u64 (wd 0 2))).setCell ⟨w.heap.size, 3, none⟩ (.int .u64 (wd 0 3))) := rfl
      rw [e9]
      clear e9 c0 c1 c2 c3 f0 f1 f2 f3 hb hB
      generalize ((((wr.setCell ⟨w.heap.size, 0, none⟩ (.int .u64 (wd 0 0))).setCell ⟨w.heap.size, 1, none⟩ (.int .u64 (wd 0 1))).setCell ⟨w.heap.size, 2, none⟩ (.int .u64 (wd 0 2))).setCell ⟨w.heap.size, 3, none⟩ (.int .u64 (wd 0 3))) = W4 at *
      obtain ⟨⟨e0, e1, e2, e3⟩, _⟩ := hR.cells4
      exact bodyPost_ret (v := .tuple #[setV 0, .bool false]) (by simp [results, Tryz.results149, go_sem, e0, e1, e2, e3]) rfl ⟨by rw [ofS_not _ HN.out, ofB_not _ HN.out], hBB⟩

/-! ### Begins -/
def pfx (nm s : ByteArray) : Bool := decide (s.size ≤ nm.size) && ((nm.extract 0 s.size).toList == s.toList)
def begB (l : ByteArray) : Bool := tabL.any fun e => pfx e.1 l
theorem begB_at (l : ByteArray) (k : Nat) (hk : k < 12) (h : pfx (tE k).1 l = true) : begB l = true := by
  unfold begB
  rw [List.any_eq_true]
  exact ⟨tabL[k], List.getElem_mem _, by rw [← tE_eq k hk]; exact h⟩
theorem begB_not (l : ByteArray) (hf : ∀ j, j < 12 → pfx (tE j).1 l = false) : begB l = false := by
  unfold begB
  rw [List.any_eq_false]
  intro x hx
  obtain ⟨j, hj, rfl⟩ := List.getElem_of_mem hx
  rw [← tE_eq j hj, hf j hj]
  simp

set_option maxHeartbeats 1000000 in
theorem hp1_calls (s p : ByteArray) (_hs : s.size ≤ 9223372036854775807) (_hp : p.size ≤ 9223372036854775807) (w : World) : Calls Tryz.prog 48 #[.string s, .string p] w fun e w' => e = .returned (.bool (pfx s p)) ∧ w = w' := by
  by_cases hl : p.size ≤ s.size
  · have h1 : decide (p.size ≤ s.size) = true := by simpa using hl
    go_enter Tryz.func48, Tryz.ntmps48
    go_wp2
    go_ret
    exact ⟨ret_bool' (by simp only [pfx, h1, Bool.true_and]), rfl⟩
  · have h1 : decide (p.size ≤ s.size) = false := by simpa using hl
    go_enter Tryz.func48, Tryz.ntmps48
    go_wp2
    go_ret
    exact ⟨ret_bool' (by simp only [pfx, h1, Bool.false_and]), rfl⟩
set_option maxHeartbeats 1000000 in
theorem hp_calls (s p : ByteArray) (hs : s.size ≤ 9223372036854775807) (hp : p.size ≤ 9223372036854775807) (w : World) : Calls Tryz.prog 28 #[.string s, .string p] w fun e w' => e = .returned (.bool (pfx s p)) ∧ w = w' := by
  go_enter Tryz.func28, Tryz.ntmps28
  go_wp2_with (go_at_call 48; refine (hp1_calls s p hs hp _).mono ?_; rintro e w' ⟨rfl, rfl⟩)
  go_ret
  exact ⟨rfl, rfl⟩
theorem tE_size (k : Nat) (hk : k < 12) : (tE k).1.size ≤ 9223372036854775807 := by
  have h : ∀ j, j < 12 → decide ((tE j).1.size ≤ 9223372036854775807) = true := by decide +kernel
  simpa using h k hk

set_option maxRecDepth 100000 in
set_option maxHeartbeats 2000000 in
theorem cBegins_calls (s : ByteArray) (hs : s.size ≤ 9223372036854775807) (w : World) : Calls Tryz.prog 148 #[.string s] w fun e w' => e = .returned (.bool (begB s)) ∧ Below w.heap.size w w' := by
  go_enter Tryz.func148, Tryz.ntmps148
  go_wp2_with fail
  refine (table_calls _).mono ?_
  rintro e w1 ⟨rfl, hb1⟩
  go_wp2_with fail
  go_loopw [6] (fun i wr => ∃ k : Nat, k ≤ 12 ∧ i = .int .i64 k ∧ (∀ j, j < k → pfx (tE j).1 s = false) ∧ Below w.heap.size w wr) (fun i _ => 12 - (intOf i).toNat)
  case atStart => exact ⟨0, by omega, rfl, fun j hj => by omega, hb1⟩
  case round =>
    clear hb1
    obtain ⟨k, hk, rfl, hno, hB⟩ := hrel
    have HN := Lib.hid hno
    clear hno
    by_cases hkl : k < 12
    · have hix := tab_index k hkl
      have hnz := tE_size k hkl
      cases hq : pfx (tE k).1 s with
      | true =>
        have HS := Lib.hid (begB_at s k hkl hq)
        have HQ := Lib.hid hq
        clear hq
        generalize (tE k).1 = nm at *
        generalize (tE k).2 = st at *
        go_wp2_with (go_at_call 28; refine (hp_calls nm s hnz hs _).mono ?_; rintro e w' ⟨rfl, rfl⟩; rw [HQ.out])
        go_ret
        exact ⟨by rw [HS.out]; rfl, hB.alloc hB.size _⟩
      | false =>
        have HQ := Lib.hid hq
        clear hq
        generalize hnm : (tE k).1 = nm at hix hnz
        generalize (tE k).2 = st at *
        have HNM := Lib.hid hnm
        clear hnm
        go_wp2_with (go_at_call 28; refine (hp_calls nm s hnz hs _).mono ?_; rintro e w' ⟨rfl, rfl⟩; rw [← HNM.out, HQ.out])
        go_roundw
        case rel =>
          refine ⟨k + 1, by omega, by simp, fun j hj => ?_, hB.alloc hB.size _⟩
          by_cases hjk : j = k
          · subst hjk; exact HQ.out
          · exact HN.out j (by omega)
        case measure => simp [intOf]; omega
    · obtain rfl : k = 12 := by omega
      go_wp2
      go_ret
      exact ⟨by rw [begB_not _ HN.out]; rfl, hB⟩

/-! ### Find -/
def fndS (s : BitVec 256) : ByteArray := ((tabL.find? fun e => e.2 == s).map (·.1)).getD ⟨#[]⟩
theorem fndS_at (s : BitVec 256) (k : Nat) (hk : k < 12) (hf : ∀ j, j < k → (tE j).2 ≠ s) (h : (tE k).2 = s) : fndS s = (tE k).1 := by
  have h1 : (tabL.find? fun e => e.2 == s) = some (tE k) := by
    rw [tE_eq k hk]
    refine find_at _ tabL k hk (fun j hj => ?_) ?_
    · have := hf j hj
      rw [tE_eq j (by omega)] at this
      exact beq_eq_false_iff_ne.2 this
    · rw [tE_eq k hk] at h
      exact beq_iff_eq.2 h
  rw [fndS, h1]; rfl
theorem fndS_not (s : BitVec 256) (hf : ∀ j, j < 12 → (tE j).2 ≠ s) : fndS s = ⟨#[]⟩ := by
  have h1 : (tabL.find? fun e => e.2 == s) = none := by
    refine find_not _ tabL fun j hj => ?_
    have := hf j hj
    rw [tE_eq j hj] at this
    exact beq_eq_false_iff_ne.2 this
  rw [fndS, h1]; rfl

set_option maxHeartbeats 1000000 in
theorem cAny_calls (w : World) : Calls Tryz.prog 133 #[] w fun e w' => e = .returned (setV (~~~(0 : BitVec 256))) ∧ Below w.heap.size w w' := by
  have b0 := Blk.new w (setA 0) 38
  have hB0 : Below w.heap.size w (w.alloc (.cells (setA 0) 38)) := by go_grown
  go_enter Tryz.func133, Tryz.ntmps133
  go_wp2_with fail
  refine (not_calls 0 _).mono ?_
  rintro e w1 ⟨rfl, hb1⟩
  replace b0 := b0.below hb1 (by simp)
  replace hB0 := hB0.trans (hb1.mono (by simp))
  clear hb1
  obtain ⟨⟨c0, c1, c2, c3⟩, f0, f1, f2, f3⟩ := b0.cells4
  generalize ht : (~~~(0 : BitVec 256)) = t at *
  have HT := Lib.hid ht
  clear ht
  go_wp2
  obtain ⟨hR, hBB⟩ := fin4 b0 hB0 (Nat.le_refl _) t
  clear c0 c1 c2 c3 f0 f1 f2 f3 b0 hB0
  generalize ((((w1.setCell ⟨w.heap.size, 0, none⟩ (.int .u64 (wd t 0))).setCell ⟨w.heap.size, 1, none⟩ (.int .u64 (wd t 1))).setCell ⟨w.heap.size, 2, none⟩ (.int .u64 (wd t 2))).setCell ⟨w.heap.size, 3, none⟩ (.int .u64 (wd t 3))) = W4 at *
  obtain ⟨⟨e0, e1, e2, e3⟩, _⟩ := hR.cells4
  exact bodyPost_ret (v := setV t) (by simp [results, Tryz.results133, go_sem, e0, e1, e2, e3]) rfl ⟨by rw [HT.out], hBB⟩
end Go.Proofs.YtldaaelmifbbhaaGreat

/- class.Names, and the document's Names: the twelve names. -/
namespace Go.Proofs.YtldaaelmifbbhaaGreat
open Go.RowKit Go.Shelf BS

def namV : Array Value := (tabL.map fun e => Value.string e.1).toArray
theorem namV_get (k : Nat) (h : k < 12) : namV[k]? = some (.string (tE k).1) := by
  have h1 : k < tabL.length := h
  simp only [namV, List.getElem?_toArray, List.getElem?_map, List.getElem?_eq_getElem h1, Option.map_some, tE_eq k h] <;> rfl

set_option maxRecDepth 100000 in
set_option maxHeartbeats 2000000 in
theorem rNames_calls (w : World) : Calls Tryz.prog 79 #[] w fun e w' => ∃ g, e = .returned (.slice (some ⟨g, 0, none⟩) 12 12) ∧ (w.heap.size ≤ g ∧ Blk w' g namV 9) ∧ Below w.heap.size w w' := by
  go_enter Tryz.func79, Tryz.ntmps79
  go_wp2
  go_ret
  exact ⟨w.heap.size, rfl, ⟨Nat.le_refl _, Blk.new w namV _⟩, (Below.refl _ _).alloc (Nat.le_refl _) _⟩

@[reducible] def tabZ : Array Value := #[.string ⟨#[]⟩, .int .u64 0, .int .u64 0, .int .u64 0, .int .u64 0, .string ⟨#[]⟩, .int .u64 0, .int .u64 0, .int .u64 0, .int .u64 0, .string ⟨#[]⟩, .int .u64 0, .int .u64 0, .int .u64 0, .int .u64 0, .string ⟨#[]⟩, .int .u64 0, .int .u64 0, .int .u64 0, .int .u64 0, .string ⟨#[]⟩, .int .u64 0, .int .u64 0, .int .u64 0, .int .u64 0, .string ⟨#[]⟩, .int .u64 0, .int .u64 0, .int .u64 0, .int .u64 0, .string ⟨#[]⟩, .int .u64 0, .int .u64 0, .int .u64 0, .int .u64 0, .string ⟨#[]⟩, .int .u64 0, .int .u64 0, .int .u64 0, .int .u64 0, .string ⟨#[]⟩, .int .u64 0, .int .u64 0, .int .u64 0, .int .u64 0, .string ⟨#[]⟩, .int .u64 0, .int .u64 0, .int .u64 0, .int .u64 0, .string ⟨#[]⟩, .int .u64 0, .int .u64 0, .int .u64 0, .int .u64 0, .string ⟨#[]⟩, .int .u64 0, .int .u64 0, .int .u64 0, .int .u64 0]
theorem mk12 (w : World) : (Instr.makeSlice 76 (.int .i64 12) (.int .i64 12)).run Tryz.prog w = .ok (.slice (some ⟨w.heap.size, 0, none⟩) 12 12) (w.alloc (.cells #[.string ⟨#[]⟩, .string ⟨#[]⟩, .string ⟨#[]⟩, .string ⟨#[]⟩, .string ⟨#[]⟩, .string ⟨#[]⟩, .string ⟨#[]⟩, .string ⟨#[]⟩, .string ⟨#[]⟩, .string ⟨#[]⟩, .string ⟨#[]⟩, .string ⟨#[]⟩] 9)) := by kernel_rfl
theorem wpList_store_row {P : Program} {ops : Array Oper} {rest : List Oper} {o : Oper} {a : Act} {w w' : World} {Q : Exit → Act → World → Prop} {cs : Array Value} (hgd : o.guard = none) (ty : TypeId) (x y : Operand) (ho : o.op = .store ty x y)
    (g : Nat) (hx : a.eval x = .pointer (some ⟨g, 0, none⟩)) (hy : a.eval y = .agg cs) (hst : (Instr.storeAt ty (.pointer (some ⟨g, 0, none⟩)) (.agg cs)).run P w = .ok () w') (h : wpList P ops Q rest (a.put o.dst undef) w') : wpList P ops Q (o :: rest) a w :=
  wpList_plain hgd fun _ hK => wp_store_row ty x y ho g hx hy hst (hK _ _ h)

set_option maxRecDepth 100000 in
set_option maxHeartbeats 2000000 in
theorem cNames_calls (w : World) : Calls Tryz.prog 153 #[] w fun e w' => ∃ g, e = .returned (.slice (some ⟨g, 0, none⟩) 12 12) ∧ (w.heap.size ≤ g ∧ Blk w' g namV 9) ∧ Below w.heap.size w w' := by
  have hmk := mk12
  go_enter Tryz.func153, Tryz.ntmps153
  go_wp2_with fail
  refine (table_calls _).mono ?_
  rintro e w1 ⟨rfl, hb1⟩
  go_wp2_with (first
    | (with_reducible refine wpList_store_row (o := ⟨none, .store 190 _ _, _, _, _, _⟩) rfl 190 _ _ rfl w1.heap.size rfl rfl (run_storeAt_new w1 190 tabZ tabV (by kernel_rfl) rfl tabV_one) ?_
       have hbT := Blk.new w1 tabV 190)
    | (with_reducible refine wpList_load_row (o := ⟨_, .load 190 _, _, _, _, _⟩) rfl 190 _ rfl w1.heap.size rfl 190 tabV (0, 0) _ ?_ Tryz.underlying190 rfl ?_ ?_
       · exact hbT.alloc _
       · kernel_rfl))
  have hbN := Blk.new (w1.alloc (.cells tabV 190)) #[.string ⟨#[]⟩, .string ⟨#[]⟩, .string ⟨#[]⟩, .string ⟨#[]⟩, .string ⟨#[]⟩, .string ⟨#[]⟩, .string ⟨#[]⟩, .string ⟨#[]⟩, .string ⟨#[]⟩, .string ⟨#[]⟩, .string ⟨#[]⟩, .string ⟨#[]⟩] 9
  rw [World.size_alloc] at hbN
  have hB : Below w.heap.size w ((w1.alloc (.cells tabV 190)).alloc (.cells #[.string ⟨#[]⟩, .string ⟨#[]⟩, .string ⟨#[]⟩, .string ⟨#[]⟩, .string ⟨#[]⟩, .string ⟨#[]⟩, .string ⟨#[]⟩, .string ⟨#[]⟩, .string ⟨#[]⟩, .string ⟨#[]⟩, .string ⟨#[]⟩, .string ⟨#[]⟩] 9)) := (hb1.alloc hb1.size _).alloc (by have := hb1.size; simp; omega) _
  clear hbT hmk
  have hz := hb1.size
  have hG : w.heap.size ≤ w1.heap.size + 1 := by omega
  clear hb1 hz
  generalize (w1.alloc (.cells tabV 190)).alloc (.cells #[.string ⟨#[]⟩, .string ⟨#[]⟩, .string ⟨#[]⟩, .string ⟨#[]⟩, .string ⟨#[]⟩, .string ⟨#[]⟩, .string ⟨#[]⟩, .string ⟨#[]⟩, .string ⟨#[]⟩, .string ⟨#[]⟩, .string ⟨#[]⟩, .string ⟨#[]⟩] 9) = w2 at *
  generalize w1.heap.size + 1 = G at *
  go_loopw [8] (fun i wr => ∃ k : Nat, k ≤ 12 ∧ i = .int .i64 k ∧ (∃ vs : Array Value, vs.size = 12 ∧ (∀ j, j < k → vs[j]? = some (.string (tE j).1)) ∧ Blk wr G vs 9) ∧ Below w.heap.size w wr) (fun i _ => 12 - (intOf i).toNat)
  case atStart => exact ⟨0, by omega, rfl, ⟨_, rfl, fun j hj => by omega, hbN⟩, hB⟩
  case round =>
    clear hbN hB
    obtain ⟨k, hk, rfl, ⟨vs, hvs, hno, hb⟩, hB⟩ := hrel
    have HN := Lib.hid hno
    clear hno
    by_cases hkl : k < 12
    · have hix := tab_index k hkl
      have hd : decide (k < 12) = true := by simpa using hkl
      obtain ⟨old, hold⟩ : ∃ old, vs[k]? = some old := ⟨vs[k]'(by omega), by simp [show k < vs.size by omega]⟩
      generalize hnm : (tE k).1 = nm at hix
      generalize (tE k).2 = st at *
      have HNM := Lib.hid hnm
      clear hnm
      have hc := ((hb.alloc (.cells #[.string nm, .int .u64 (wd st 0), .int .u64 (wd st 1), .int .u64 (wd st 2), .int .u64 (wd st 3)] 189)).cell k).trans hold
      have hf := (hb.alloc (.cells #[.string nm, .int .u64 (wd st 0), .int .u64 (wd st 1), .int .u64 (wd st 2), .int .u64 (wd st 3)] 189)).frozen k
      go_wp2
      go_roundw
      case rel =>
        refine ⟨k + 1, by omega, by simp, ⟨vs.setIfInBounds k (.string nm), by simp [hvs], fun j hj => ?_, (hb.alloc _).set k _⟩, ?_⟩
        · by_cases hjk : j = k
          · subst hjk
            rw [HNM.out]
            simp [hvs, hkl]
          · rw [Array.getElem?_setIfInBounds_ne (Ne.symm hjk)]
            exact HN.out j (by omega)
        · exact below_set (hB.alloc hB.size _) hG _ _
      case measure => simp [intOf]; omega
    · obtain rfl : k = 12 := by omega
      have hv : vs = namV := by
        apply Array.ext
        · rw [hvs]; rfl
        · intro i h1 h2
          have e1 := HN.out i (by omega)
          have e2 := namV_get i (by omega)
          rw [Array.getElem?_eq_getElem h1] at e1
          rw [Array.getElem?_eq_getElem h2] at e2
          exact Option.some.inj (e1.trans e2.symm)
      subst hv
      go_wp2
      go_ret
      exact ⟨G, rfl, ⟨hG, hb⟩, hB⟩
end Go.Proofs.YtldaaelmifbbhaaGreat

/- Runs: a set's runs, as the program tells them. -/
namespace Go.Proofs.YtldaaelmifbbhaaGreat
open Go.RowKit Go.Shelf BS
attribute [local go_sem] Oper.semAt_some

/-- One byte more: the last run grows, or a new one begins. -/
def runStep (rs : List (Nat × Nat)) (x : Nat) : List (Nat × Nat) :=
  match rs.getLast? with
  | some (a, b) => if (b + 1) % 256 = x then rs.dropLast ++ [(a, x)] else rs ++ [(x, x)]
  | none => [(x, x)]
def runsOf (l : List Nat) : List (Nat × Nat) := l.foldl runStep []
theorem runsOf_snoc (l : List Nat) (x : Nat) : runsOf (l ++ [x]) = runStep (runsOf l) x := by simp [runsOf]

/-- The cells of a list of runs. -/
def runCells (rs : List (Nat × Nat)) : List Value := rs.flatMap fun r => [Value.int .u8 (r.1 : Int), Value.int .u8 (r.2 : Int)]

theorem runCells_len (rs : List (Nat × Nat)) : (runCells rs).length = rs.length * 2 := by
  induction rs with
  | nil => rfl
  | cons r rs ih => simp only [runCells, List.flatMap_cons, List.length_append, List.length_cons, List.length_nil] at ih ⊢; omega
theorem runCells_snoc (rs : List (Nat × Nat)) (a b : Nat) : runCells (rs ++ [(a, b)]) = runCells rs ++ [.int .u8 (a : Int), .int .u8 (b : Int)] := by simp [runCells]
theorem runCells_last (rs : List (Nat × Nat)) (a b : Nat) : (runCells (rs ++ [(a, b)]))[rs.length * 2 + 1]? = some (.int .u8 (b : Int)) := by
  rw [runCells_snoc, List.getElem?_append_right (by rw [runCells_len]; omega), runCells_len]
  simp
theorem runCells_set (rs : List (Nat × Nat)) (a b x : Nat) : (runCells (rs ++ [(a, b)])).set (rs.length * 2 + 1) (.int .u8 (x : Int)) = runCells (rs ++ [(a, x)]) := by
  rw [runCells_snoc, runCells_snoc, List.set_append_right _ _ (by rw [runCells_len]; omega), runCells_len]
  simp
theorem nil_or_snoc (rs : List (Nat × Nat)) : rs = [] ∨ ∃ rs' a b, rs = rs' ++ [(a, b)] := by
  rcases List.eq_nil_or_concat rs with h | ⟨rs', ⟨a, b⟩, h⟩
  · exact .inl h
  · exact .inr ⟨rs', a, b, by rw [h, List.concat_eq_append]⟩
theorem runStep_len (rs : List (Nat × Nat)) (x : Nat) : (runStep rs x).length ≤ rs.length + 1 := by
  unfold runStep
  split
  · split <;> simp
  · simp
theorem runsOf_len (l : List Nat) : (runsOf l).length ≤ l.length := by
  suffices h : ∀ l rs, (List.foldl runStep rs l).length ≤ rs.length + l.length by simpa [runsOf] using h l []
  intro l
  induction l with
  | nil => intro rs; simp
  | cons x l ih => intro rs; have := ih (runStep rs x); have := runStep_len rs x; simp only [List.foldl_cons, List.length_cons]; omega
theorem runStep_none (x : Nat) : runStep [] x = [(x, x)] := rfl
theorem runStep_grow (rs : List (Nat × Nat)) (a b x : Nat) (h : (b + 1) % 256 = x) : runStep (rs ++ [(a, b)]) x = rs ++ [(a, x)] := by simp [runStep, h]
theorem runStep_new (rs : List (Nat × Nat)) (a b x : Nat) (h : (b + 1) % 256 ≠ x) : runStep (rs ++ [(a, b)]) x = rs ++ [(a, b)] ++ [(x, x)] := by simp [runStep, h]

theorem Blk.news2 {W : World} {B : Nat} {a b : Value} {t : TypeId} (h : Blk W B #[a, b] t) : ∀ j u, [a, b][j]? = some u → W.cell? ((⟨B, 0, none⟩ : Addr).add j) = some u := by
  intro j u hu
  rw [Addr.add_mid]
  rw [Nat.zero_add, h.cell j]
  simpa using hu

end Go.Proofs.YtldaaelmifbbhaaGreat

/- Plain facts on runs: they lie apart, ascending, and are together the set. -/
namespace Go.Proofs.YtldaaelmifbbhaaGreat
open Go.RowKit BS

structure RunsInv (f : Nat → Bool) (k : Nat) (rs : List (Nat × Nat)) : Prop where
  ok : ∀ r ∈ rs, r.1 ≤ r.2 ∧ r.2 < k
  apart : rs.Pairwise fun r r' => r.2 + 2 ≤ r'.1
  all : ∀ j, j < k → (f j = true ↔ ∃ r ∈ rs, r.1 ≤ j ∧ j ≤ r.2)

theorem runsInv (f : Nat → Bool) : ∀ k, k ≤ 256 → RunsInv f k (runsOf (el f k))
  | 0, _ => ⟨fun _ h => by simp [el, runsOf] at h, by simp [el, runsOf], fun j hj => by omega⟩
  | k + 1, hk => by
    have ih := runsInv f k (by omega)
    rw [el_succ]
    by_cases hf : f k = true
    · rw [hf, if_pos rfl, runsOf_snoc]
      generalize runsOf (el f k) = rs at *
      rcases nil_or_snoc rs with rfl | ⟨rs', a, b, rfl⟩
      · rw [runStep_none]
        refine ⟨fun r hr => ?_, by simp, fun j hj => ?_⟩
        · simp at hr; subst hr; exact ⟨Nat.le_refl _, by simp⟩
        · by_cases hjk : j = k
          · subst hjk; simp [hf]
          · have := ih.all j (by omega)
            simp at this
            simp [this]; omega
      · have hb := ih.ok (a, b) (by simp)
        simp only at hb
        have hap := List.pairwise_append.1 ih.apart
        by_cases hbk : (b + 1) % 256 = k
        · rw [runStep_grow _ _ _ _ hbk]
          have hb1 : b + 1 = k := by omega
          refine ⟨fun r hr => ?_, ?_, fun j hj => ?_⟩
          · rcases List.mem_append.1 hr with h | h
            · have := ih.ok r (by simp [h]); exact ⟨this.1, by omega⟩
            · simp at h; subst h; simp only; omega
          · refine List.pairwise_append.2 ⟨hap.1, by simp, fun r hr r' hr' => ?_⟩
            simp at hr'; subst hr'
            exact hap.2.2 r hr (a, b) (by simp)
          · by_cases hjk : j = k
            · subst hjk; simp only [hf, true_iff]; exact ⟨(a, j), by simp, by simp only; omega⟩
            · rw [ih.all j (by omega)]
              constructor
              · rintro ⟨r, hr, h1, h2⟩
                rcases List.mem_append.1 hr with h | h
                · exact ⟨r, by simp [h], h1, h2⟩
                · simp at h; subst h; exact ⟨(a, k), by simp, h1, by simp only at h2 ⊢; omega⟩
              · rintro ⟨r, hr, h1, h2⟩
                rcases List.mem_append.1 hr with h | h
                · exact ⟨r, by simp [h], h1, h2⟩
                · simp at h; subst h; exact ⟨(a, b), by simp, h1, by simp only at h2 ⊢; omega⟩
        · rw [runStep_new _ _ _ _ hbk]
          have hb1 : b + 1 ≠ k := fun e => hbk (by omega)
          refine ⟨fun r hr => ?_, ?_, fun j hj => ?_⟩
          · rcases List.mem_append.1 hr with h | h
            · have := ih.ok r h; exact ⟨this.1, by omega⟩
            · simp at h; subst h; exact ⟨Nat.le_refl _, by simp⟩
          · refine List.pairwise_append.2 ⟨ih.apart, by simp, fun r hr r' hr' => ?_⟩
            simp at hr'; subst hr'
            rcases List.mem_append.1 hr with h | h
            · have h1 := hap.2.2 r h (a, b) (by simp)
              simp only at h1 ⊢; omega
            · simp at h; subst h; simp only; omega
          · by_cases hjk : j = k
            · subst hjk; simp only [hf, true_iff]; exact ⟨(j, j), by simp, Nat.le_refl _, Nat.le_refl _⟩
            · rw [ih.all j (by omega)]
              constructor
              · rintro ⟨r, hr, h1, h2⟩
                exact ⟨r, List.mem_append_left _ hr, h1, h2⟩
              · rintro ⟨r, hr, h1, h2⟩
                rcases List.mem_append.1 hr with h | h
                · exact ⟨r, h, h1, h2⟩
                · simp at h; subst h; simp only at h1 h2; omega
    · rw [if_neg hf, List.append_nil]
      refine ⟨fun r hr => ⟨(ih.ok r hr).1, by have := (ih.ok r hr).2; omega⟩, ih.apart, fun j hj => ?_⟩
      by_cases hjk : j = k
      · subst hjk
        refine ⟨fun h => absurd h hf, ?_⟩
        rintro ⟨r, hr, h1, h2⟩
        have := (ih.ok r hr).2; omega
      · exact ih.all j (by omega)

/-- The runs of a set. -/
def rsOf (s : BitVec 256) : List (Nat × Nat) := runsOf (el s.getLsbD 256)
theorem rsOf_inv (s : BitVec 256) : RunsInv s.getLsbD 256 (rsOf s) := runsInv _ 256 (Nat.le_refl _)
theorem rsOf_ok (s : BitVec 256) (i : Nat) (h : i < (rsOf s).length) : (rsOf s)[i].1 ≤ (rsOf s)[i].2 ∧ (rsOf s)[i].2 < 256 := (rsOf_inv s).ok _ (List.getElem_mem h)
theorem rsOf_apart (s : BitVec 256) (i : Nat) (h : i + 1 < (rsOf s).length) : (rsOf s)[i].2 + 2 ≤ (rsOf s)[i + 1].1 :=
  List.pairwise_iff_getElem.1 (rsOf_inv s).apart i (i + 1) (by omega) h (by omega)
theorem rsOf_len (s : BitVec 256) : (rsOf s).length ≤ 256 := Nat.le_trans (runsOf_len _) (el_len _ _)

/-- The sets of some runs, together. -/
def orAll (rs : List (Nat × Nat)) : BitVec 256 := rs.foldl (fun t r => t ||| range r.1 r.2) 0
theorem orAll_snoc (rs : List (Nat × Nat)) (r : Nat × Nat) : orAll (rs ++ [r]) = orAll rs ||| range r.1 r.2 := by simp [orAll]
theorem get_orAll (rs : List (Nat × Nat)) (j : Nat) (hj : j < 256) : (orAll rs).getLsbD j = true ↔ ∃ r ∈ rs, r.1 ≤ j ∧ j ≤ r.2 := by
  suffices h : ∀ t, (rs.foldl (fun t r => t ||| range r.1 r.2) t).getLsbD j = true ↔ (t.getLsbD j = true ∨ ∃ r ∈ rs, r.1 ≤ j ∧ j ≤ r.2) by
    have := h 0; simpa [orAll] using this
  induction rs with
  | nil => intro t; simp
  | cons r rs ih =>
    intro t
    rw [List.foldl_cons, ih, BitVec.getLsbD_or, range, get_ofFn]
    simp only [hj, decide_true, Bool.true_and, Bool.or_eq_true, Bool.and_eq_true, decide_eq_true_eq, List.mem_cons, exists_eq_or_imp]
    constructor
    · rintro ((h | h) | h)
      · exact .inl h
      · exact .inr (.inl h)
      · exact .inr (.inr h)
    · rintro (h | h | h)
      · exact .inl (.inl h)
      · exact .inl (.inr h)
      · exact .inr h
theorem orAll_rsOf (s : BitVec 256) : orAll (rsOf s) = s := by
  apply BitVec.eq_of_getLsbD_eq
  intro j hj
  rw [Bool.eq_iff_iff, get_orAll _ _ hj]
  exact ((rsOf_inv s).all j hj).symm

theorem runCells_get (rs : List (Nat × Nat)) (j : Nat) (h : j < rs.length) : (runCells rs)[j * 2]? = some (.int .u8 (rs[j].1 : Int)) ∧ (runCells rs)[j * 2 + 1]? = some (.int .u8 (rs[j].2 : Int)) := by
  induction rs generalizing j with
  | nil => simp at h
  | cons r rs ih =>
    cases j with
    | zero => simp [runCells]
    | succ j =>
      have := ih j (by simpa using h)
      simp only [runCells, List.flatMap_cons] at this ⊢
      rw [show (j + 1) * 2 = j * 2 + 2 by omega]
      simpa using this

/-- Block g holds the runs rs. -/
def RowAt (g : Nat) (rs : List (Nat × Nat)) (W : World) : Prop := g < W.heap.size ∧ ∀ j (h : j < rs.length), W.cell? ⟨g, j * 2, none⟩ = some (.int .u8 (rs[j].1 : Int)) ∧ W.cell? ⟨g, j * 2 + 1, none⟩ = some (.int .u8 (rs[j].2 : Int))
theorem RowAt.below {g : Nat} {rs : List (Nat × Nat)} {W W' : World} (h : RowAt g rs W) (hb : Below W.heap.size W W') : RowAt g rs W' :=
  ⟨Nat.lt_of_lt_of_le h.1 hb.size, fun j hj => ⟨(hb.cell (p := ⟨g, j * 2, none⟩) h.1).trans (h.2 j hj).1, (hb.cell (p := ⟨g, j * 2 + 1, none⟩) h.1).trans (h.2 j hj).2⟩⟩
theorem RowAt.set {g : Nat} {rs : List (Nat × Nat)} {W : World} (h : RowAt g rs W) {B : Nat} (hne : g ≠ B) (i : Nat) (v : Value) : RowAt g rs (W.setCell ⟨B, i, none⟩ v) := by
  have hs := Below.heap_setCell W ⟨B, i, none⟩ v g hne
  exact ⟨by simpa using h.1, fun j hj => ⟨(World.cell?_of_block (w := W) (a := ⟨g, j * 2, none⟩) hs).trans (h.2 j hj).1, (World.cell?_of_block (w := W) (a := ⟨g, j * 2 + 1, none⟩) hs).trans (h.2 j hj).2⟩⟩
/-- What Runs hands back: a slice of that many, in a new block, where there are any. -/
theorem row_of_owns {base : Nat} {e : TypeId} {v : Value} {rs : List (Nat × Nat)} {W : World} (h : W.ownsRow base e 2 v rs.length (runCells rs)) :
    ∃ a cap, v = .slice a rs.length cap ∧ (rs ≠ [] → ∃ g, a = some ⟨g, 0, none⟩ ∧ base ≤ g ∧ RowAt g rs W) := by
  rcases h.2 with ⟨rfl, h0⟩ | ⟨g, cap, cur, rfl, hb, hg, _, _, _, _⟩
  · exact ⟨none, 0, by rw [h0], fun hne => absurd (List.eq_nil_of_length_eq_zero h0) hne⟩
  · refine ⟨_, cap, rfl, fun _ => ⟨g, rfl, hb, (Array.getElem?_eq_some_iff.1 hg).1, fun j hj => ?_⟩⟩
    have h1 := h.cellAt (j * 2) (by omega)
    have h2 := h.cellAt (j * 2 + 1) (by omega)
    exact ⟨h1.trans (runCells_get rs j hj).1, h2.trans (runCells_get rs j hj).2⟩
end Go.Proofs.YtldaaelmifbbhaaGreat

/- Rows of a call's own: kept where their blocks are; nodes side by side. -/
namespace Go.Proofs.YtldaaelmifbbhaaGreat
open Go.RowKit BS

/-- A row of the call's own, kept where its block is. -/
theorem owns_keep {W W' : World} {base : Nat} {e : TypeId} {size : Nat} {v : Value} {n : Nat} {xs : List Value} (h : W.ownsRow base e size v n xs) (hb : ∀ g, v.ownBlock = some g → W'.heap[g]? = W.heap[g]?) : W'.ownsRow base e size v n xs := by
  refine ⟨h.1, ?_⟩
  rcases h.2 with hn | ⟨g, cap, cur, rfl, h1, h2, h3⟩
  · exact .inl hn
  · exact .inr ⟨g, cap, cur, rfl, h1, (hb g rfl).trans h2, h3⟩
theorem owns_form {W : World} {base : Nat} {e : TypeId} {size : Nat} {v : Value} {n : Nat} {xs : List Value} (h : W.ownsRow base e size v n xs) : ∃ a cap, v = .slice a n cap := by
  rcases h.2 with ⟨rfl, rfl⟩ | ⟨g, cap, cur, rfl, _⟩
  · exact ⟨_, _, rfl⟩
  · exact ⟨_, _, rfl⟩
theorem owns_last {W : World} {base : Nat} {e : TypeId} {v x : Value} {n : Nat} {xs : List Value} (h : W.ownsRow base e 1 v (n + 1) (xs ++ [x])) :
    ∃ g cap, v = .slice (some ⟨g, 0, none⟩) (n + 1) cap ∧ base ≤ g ∧ g < W.heap.size ∧ n + 1 ≤ cap ∧ W.cell? ⟨g, n, none⟩ = some x ∧ W.ownsRow base e 1 (.slice (some ⟨g, 0, none⟩) n cap) n xs := by
  have hl := h.1
  rw [List.length_append, List.length_singleton, Nat.mul_one] at hl
  rcases h.2 with ⟨_, h0⟩ | ⟨g, cap, cur, rfl, h1, h2, h3, h4, h5, h6⟩
  · omega
  · have hlt : g < W.heap.size := (Array.getElem?_eq_some_iff.1 h2).1
    refine ⟨g, cap, rfl, h1, hlt, h3, ?_, ⟨by omega, .inr ⟨g, cap, cur, rfl, h1, h2, by omega, h4, h5, ?_⟩⟩⟩
    · have hc : W.cell? ⟨g, n, none⟩ = cur[n]? := by simp [World.cell?, h2]
      have := congrArg (fun l : List Value => l[n]?) h6
      simp only [Nat.mul_one] at this
      rw [List.getElem?_take, if_pos (show n < n + 1 by omega), List.getElem?_append_right (show xs.length ≤ n by omega), show n - xs.length = 0 by omega] at this
      rw [hc, ← Array.getElem?_toList, this]
      rfl
    · have := congrArg (List.take (n * 1)) h6
      rw [List.take_take, show min (n * 1) ((n + 1) * 1) = n * 1 by omega, List.take_append_of_le_length (show n * 1 ≤ xs.length by omega), List.take_of_length_le (show xs.length ≤ n * 1 by omega)] at this
      exact this

/-! ### Nodes side by side -/
theorem info8n : (Tryz.prog.info? 92).map (fun i => (i.zero, i.size, i.bytes)) = some (some (.agg #[.int .i64 0, .int .i64 0, .int .i64 0, .int .i64 0, .int .u64 0, .int .u64 0, .int .u64 0, .int .u64 0]), 8, 64) := by kernel_rfl
def ndCells (l : List NdN) : List Value := l.flatMap fun x => (ndA x).toList
theorem ndCells_app (l m : List NdN) : ndCells (l ++ m) = ndCells l ++ ndCells m := by simp [ndCells]
theorem ndCells_len (l : List NdN) : (ndCells l).length = l.length * 8 := by
  induction l with
  | nil => rfl
  | cons x l ih =>
    have e : ndCells (x :: l) = (ndA x).toList ++ ndCells l := by simp [ndCells]
    rw [e, List.length_append, ih, List.length_cons, show (ndA x).toList.length = 8 from rfl]
    omega
theorem ndCells_get : ∀ (l : List NdN) (i j : Nat) (h : i < l.length) (_hj : j < 8), (ndCells l)[i * 8 + j]? = (ndA l[i])[j]?
  | [], _, _, h, _ => absurd h (by simp)
  | x :: l, i, j, h, hj => by
    have e : ndCells (x :: l) = (ndA x).toList ++ ndCells l := by simp [ndCells]
    rw [e]
    cases i with
    | zero =>
      rw [List.getElem?_append_left (by rw [show (ndA x).toList.length = 8 from rfl]; omega), Nat.zero_mul, Nat.zero_add]
      simp
    | succ i =>
      rw [List.getElem?_append_right (by rw [show (ndA x).toList.length = 8 from rfl]; omega), show (ndA x).toList.length = 8 from rfl, show (i + 1) * 8 + j - 8 = i * 8 + j by omega]
      exact ndCells_get l i j (by simpa using h) hj
theorem ndCells_one (l : List NdN) : ∀ u ∈ ndCells l, u.oneCell' = true := fun u hu => by
  unfold ndCells at hu
  obtain ⟨x, _, hx⟩ := List.mem_flatMap.1 hu
  have h1 : ((ndA x).toList.all fun y => y.oneCell') = true := by simp [ndA, Value.oneCell']
  exact List.all_eq_true.1 h1 u hx
theorem nodes_news {l : List NdN} {g off : Nat} {W : World} (h : NodesAt l (some ⟨g, off, none⟩) W) : ∀ j u, (ndCells l)[j]? = some u → W.cell? ((⟨g, off, none⟩ : Addr).add j) = some u := fun j u hu => by
  have hj : j < (ndCells l).length := (List.getElem?_eq_some_iff.1 hu).1
  rw [ndCells_len] at hj
  have hne : l ≠ [] := by rintro rfl; simp at hj
  obtain ⟨g', off', e, _, hc⟩ := h hne
  cases e
  have h1 := hc (j / 8) (by omega) (j % 8) (by omega)
  rw [← ndCells_get l (j / 8) (j % 8) (by omega) (by omega), show off + j / 8 * 8 + j % 8 = off + j by omega, show j / 8 * 8 + j % 8 = j by omega, hu] at h1
  have e : (⟨g, off, none⟩ : Addr).add j = ⟨g, off + j, none⟩ := by
    unfold Addr.add
    by_cases h0 : j = 0
    · subst h0; rfl
    · rw [if_neg h0]
  rw [e]
  exact h1
theorem nodes_of_owns {l : List NdN} {v : Value} {base : Nat} {W : World} (h : W.ownsRow base 92 8 v l.length (ndCells l)) (hne : l ≠ []) : ∃ g cap, v = .slice (some ⟨g, 0, none⟩) l.length cap ∧ base ≤ g ∧ NodesAt l (some ⟨g, 0, none⟩) W := by
  rcases h.2 with ⟨_, h0⟩ | ⟨g, cap, cur, rfl, hb, hg, _, _, _, _⟩
  · exact absurd (List.eq_nil_of_length_eq_zero h0) hne
  · refine ⟨g, cap, rfl, hb, fun _ => ⟨g, 0, rfl, (Array.getElem?_eq_some_iff.1 hg).1, fun i hi j hj => ?_⟩⟩
    rw [Nat.zero_add]
    have hjj : i * 8 + j < (ndCells l).length := by rw [ndCells_len]; omega
    exact (h.cellAt (i * 8 + j) (by omega)).trans (ndCells_get l i j hi hj)
theorem owns_empty (W : World) (base : Nat) (hb : base ≤ W.heap.size) : (W.alloc (.cells #[] 92)).ownsRow base 92 8 (.slice (some ⟨W.heap.size, 0, none⟩) 0 0) 0 [] :=
  ⟨rfl, .inr ⟨W.heap.size, 0, #[], rfl, hb, Blk.new W #[] 92, Nat.le_refl _, Nat.zero_le _, rfl, rfl⟩⟩
end Go.Proofs.YtldaaelmifbbhaaGreat

/- sure: what must come whatever the input is. -/
namespace Go.Proofs.YtldaaelmifbbhaaGreat
open Go.RowKit Go.Shelf BS

def s0 : BitVec 256 := withL (range 97 99) [120]
theorem s0_98 : s0.getLsbD 98 = true := by decide +kernel
theorem s0_100 : s0.getLsbD 100 = false := by decide +kernel
theorem s0_cnt : cnt s0.getLsbD 256 = 4 := by decide +kernel
theorem s0_n1 : nextOf s0.getLsbD 100 = 120 := by decide +kernel
theorem s0_n2 : nextOf s0.getLsbD 121 = -1 := by decide +kernel
theorem s0_runs : runsOf (el s0.getLsbD 256) = [(97, 99), (120, 120)] := by decide +kernel

theorem with_calls (s : BitVec 256) (a : Option Addr) (len cap : Nat) (l : List (Fin 256)) (hreach : l.length ≤ 9223372036854775807) (w : World) (hI : BytesAt w.heap.size w (.slice a len cap) l) :
    Calls Tryz.prog 134 #[setV s, .slice a len cap] w fun e W' => e = .returned (setV (withL s l)) ∧ Below w.heap.size w W' :=
  callsIn_wide.1 (with_in 3 (by omega) s _ a len cap rfl l hreach w hI)
theorem bytes_one (W : World) (t : TypeId) (n : Int) (x : Fin 256) (hn : n = (x.val : Int)) : BytesAt (W.alloc (.cells #[.int .u8 n] t)).heap.size (W.alloc (.cells #[.int .u8 n] t)) (.slice (some ⟨W.heap.size, 0, none⟩) 1 1) [x] := by
  subst hn
  refine ⟨_, 1, rfl, fun _ => ⟨W.heap.size, 0, rfl, by simp, ?_⟩⟩
  intro j hj
  obtain rfl : j = 0 := by simpa using hj
  exact (Blk.new W _ t).cell 0

end Go.Proofs.YtldaaelmifbbhaaGreat

/- BsetTells: whether any byte is in any set, sets with more bytes, ranges, and what comes of any two sets. -/
namespace Go.Proofs.YtldaaelmifbbhaaGreat
open Go.RowKit Go.Shelf BS

def SN (w : World) (s : BitVec 256) (W : World) : Prop := (Blk W w.heap.size (setA s) 38 ∧ Blk W (w.heap.size + 1) (setA 0) 38) ∧ Below w.heap.size w W
theorem keepN {w W W' : World} {s : BitVec 256} (h : SN w s W) (hb : Below W.heap.size W W') : SN w s W' := ⟨⟨h.1.1.below hb h.1.1.lt, h.1.2.below hb h.1.2.lt⟩, h.2.trans (hb.mono h.2.size)⟩
theorem drewN {w W : World} {s : BitVec 256} (h : SN w s W) : SN w s W.drew := ⟨⟨h.1.1, h.1.2⟩, h.2.drew⟩

set_option maxRecDepth 100000 in
set_option maxHeartbeats 2000000 in
/-- Not, by the document. -/
theorem rnot_calls (s : BitVec 256) (w : World) : Calls Tryz.prog 66 #[setV s] w fun e w' => e = .returned (setV (~~~s)) ∧ Below w.heap.size w w' := by
  have h0 : SN w s ((w.alloc (.cells (setA s) 38)).alloc (.cells (setA 0) 38)) := by
    refine ⟨⟨(Blk.new w _ _).alloc _, ?_⟩, by go_grown⟩
    have := Blk.new (w.alloc (.cells (setA s) 38)) (setA 0) 38
    rwa [World.size_alloc] at this
  rw [← full_not s]
  have e255 : ((255 : Nat) : Int) = 255 := rfl
  go_enter Tryz.func66, Tryz.ntmps66
  go_wp2_with fail
  refine region_stepsM (S := SN w s) (m := 3) rfl (by kernel_rfl) (drewN h0) ?_
  simp only [List.size_toArray, List.length_cons, List.length_nil, Nat.reduceAdd, Array.replicate_succ, Array.replicate_zero, List.push_toArray, List.nil_append, List.cons_append]
  refine AnyM.next (m := 3) (i := 0) (d := some 3) (v := setV (range 0 255)) rfl rfl (by kernel_rfl) (by kernel_rfl) (by kernel_rfl) (by kernel_rfl) (StepsIf.call (by kernel_rfl) (fun w' hS => by clear hS; go_simp) (fun w' hS => (rrange_calls 0 255 w' (by decide) (by decide)).mono fun e w'' h => ⟨h.1, keepN hS h.2⟩)) ?_
  intro a' ha'
  simp only [Act.put, List.setIfInBounds_toArray, List.set_cons_zero, List.set_cons_succ] at ha'
  subst ha'
  refine AnyM.next (m := 3) (i := 1) (d := some 4) (v := setV s) rfl rfl (by kernel_rfl) (by kernel_rfl) (by kernel_rfl) (by kernel_rfl) (StepsIf.yield (by kernel_rfl) (fun w' hS => by obtain ⟨⟨c0, c1, c2, c3⟩, _⟩ := hS.1.1.cells4; clear hS; go_simp)) ?_
  intro a' ha'
  simp only [Act.put, List.setIfInBounds_toArray, List.set_cons_zero, List.set_cons_succ] at ha'
  subst ha'
  refine AnyM.next (m := 3) (i := 2) (d := some 5) (v := setV (range 0 255 &&& ~~~s)) rfl rfl (by kernel_rfl) (by kernel_rfl) (by kernel_rfl) (by kernel_rfl) (StepsIf.call (by kernel_rfl) (fun w' hS => by clear hS; go_simp) (fun w' hS => (rless_calls (range 0 255) s w').mono fun e w'' h => ⟨h.1, keepN hS h.2⟩)) ?_
  intro a' ha'
  simp only [Act.put, List.setIfInBounds_toArray, List.set_cons_zero, List.set_cons_succ] at ha'
  subst ha'
  clear h0
  refine AnyM.last rfl (by kernel_rfl) (by kernel_rfl) (by kernel_rfl) (fun w3 hU K hK => ?_)
  obtain ⟨⟨c0, c1, c2, c3⟩, f0, f1, f2, f3⟩ := hU.1.2.cells4
  have HU := Lib.hid hU
  clear hU
  generalize ht : (range 0 255 &&& ~~~s) = t at *
  have HT := Lib.hid ht
  clear ht
  go_simp
  refine hK _ _ ?_
  clear hK K
  go_wp2
  obtain ⟨hR, hB⟩ := fin4 HU.out.1.2 HU.out.2 (by omega) t
  clear c0 c1 c2 c3 f0 f1 f2 f3 HU e255
  generalize (((w3.setCell ⟨w.heap.size + 1, 0, none⟩ (.int .u64 (wd t 0))).setCell ⟨w.heap.size + 1, 1, none⟩ (.int .u64 (wd t 1))).setCell ⟨w.heap.size + 1, 2, none⟩ (.int .u64 (wd t 2))).setCell ⟨w.heap.size + 1, 3, none⟩ (.int .u64 (wd t 3)) = W4 at *
  obtain ⟨⟨e0, e1, e2, e3⟩, _⟩ := hR.cells4
  exact bodyPost_ret (v := setV t) (by simp [results, Tryz.results66, go_sem, e0, e1, e2, e3]) rfl ⟨by rw [HT.out], hB⟩

theorem rhasN (a : BitVec 256) (x : Nat) (w : World) (hx : x < 256) : Calls Tryz.prog 77 #[setV a, .int .i64 x] w fun e w' => e = .returned (.bool (a.getLsbD x)) ∧ Below w.heap.size w w' := by
  have h := rhas_calls a x w (by omega) (by omega)
  rw [Int.toNat_natCast] at h; exact h
theorem rangeN (x y : Nat) (w : World) (hx : x < 256) (hy : y < 256) : Calls Tryz.prog 151 #[.int .u8 x, .int .u8 y] w fun e w' => e = .returned (setV (range x y)) ∧ Below w.heap.size w w' := by
  have h := range_calls x y w (by omega) (by omega) (by omega) (by omega)
  rw [Int.toNat_natCast, Int.toNat_natCast] at h; exact h

theorem BytesAt.mono {n n' : Nat} {W : World} {v : Value} {l : List (Fin 256)} (h : BytesAt n W v l) (hn : n ≤ n') : BytesAt n' W v l := by
  obtain ⟨a, cap, e, h⟩ := h
  refine ⟨a, cap, e, fun hne => ?_⟩
  obtain ⟨b, off, e, hlt, hc⟩ := h hne
  exact ⟨b, off, e, by omega, hc⟩
end Go.Proofs.YtldaaelmifbbhaaGreat

/- The document's sets, by the reference's own calls: Next, All, Runs. -/
namespace Go.Proofs.YtldaaelmifbbhaaGreat
open Go.RowKit BS

theorem rhasN' (a : BitVec 256) (x : Nat) (w : World) (hx : x < 256) : Calls Tryz.prog 77 #[setV a, .int .i64 x] w fun e w' => e = .returned (.bool (a.getLsbD x)) ∧ Below w.heap.size w w' := by
  have h := rhas_calls a x w (by omega) (by omega)
  rw [Int.toNat_natCast] at h; exact h

theorem row_below {W W' : World} {base : Nat} {e : TypeId} {size : Nat} {v : Value} {n : Nat} {xs : List Value} (h : W.ownsRow base e size v n xs) (hb : Below W.heap.size W W') : W'.ownsRow base e size v n xs := by
  refine h.kept (row := none) ⟨hb.os, hb.tape, hb.output, hb.size, fun k hk _ => hb.block k hk⟩ ?_
  by_cases hv : v.ownBlock = none
  · exact .inl hv
  · exact .inr hv

theorem info1b : (Tryz.prog.info? 5).map (fun i => (i.zero, i.size, i.bytes)) = some (some (.int .u8 0), 1, 1) := by kernel_rfl
theorem Blk.news1 {W : World} {B : Nat} {a : Value} {t : TypeId} (h : Blk W B #[a] t) : ∀ j u, [a][j]? = some u → W.cell? ((⟨B, 0, none⟩ : Addr).add j) = some u := by
  intro j u hu
  rw [Addr.add_mid, Nat.zero_add, h.cell j]
  simpa using hu
def byteCells (l : List Nat) : List Value := l.map fun (x : Nat) => Value.int .u8 (x : Int)
theorem byteCells_snoc (l : List Nat) (x : Nat) : byteCells (l ++ [x]) = byteCells l ++ [.int .u8 (x : Int)] := by simp [byteCells]

end Go.Proofs.YtldaaelmifbbhaaGreat

/- The document's sets, by the reference's own calls: Runs. -/
namespace Go.Proofs.YtldaaelmifbbhaaGreat
open Go.RowKit Go.Shelf BS
attribute [local go_sem] Oper.semAt_some

theorem runStep_last (rs : List (Nat × Nat)) (x : Nat) : ∃ rs' a, runStep rs x = rs' ++ [(a, x)] := by
  rcases nil_or_snoc rs with rfl | ⟨rs', a, b, rfl⟩
  · exact ⟨[], x, rfl⟩
  · by_cases h : (b + 1) % 256 = x
    · exact ⟨rs', a, runStep_grow _ _ _ _ h⟩
    · exact ⟨rs' ++ [(a, b)], x, runStep_new _ _ _ _ h⟩
theorem runs_prev (f : Nat → Bool) (k : Nat) (hk : 0 < k) (hf : f (k - 1) = true) : ∃ rs' a, runsOf (el f k) = rs' ++ [(a, k - 1)] := by
  obtain ⟨j, rfl⟩ : ∃ j, k = j + 1 := ⟨k - 1, by omega⟩
  simp only [Nat.add_sub_cancel] at hf ⊢
  rw [el_succ, hf, if_pos rfl, runsOf_snoc]
  exact runStep_last _ _
theorem runs_fresh (f : Nat → Bool) (k : Nat) (hk : k < 256) (hf : k = 0 ∨ f (k - 1) = false) (h : f k = true) : runsOf (el f (k + 1)) = runsOf (el f k) ++ [(k, k)] := by
  rw [el_succ, h, if_pos rfl, runsOf_snoc]
  have iv := runsInv f k (by omega)
  generalize runsOf (el f k) = rs at *
  rcases nil_or_snoc rs with rfl | ⟨rs', a, b, rfl⟩
  · rfl
  · have hb := iv.ok (a, b) (by simp)
    simp only at hb
    refine runStep_new _ _ _ _ fun e => ?_
    have hbk : b + 1 = k := by omega
    have hfb : f b = true := (iv.all b (by omega)).2 ⟨(a, b), by simp, hb.1, Nat.le_refl _⟩
    rcases hf with h0 | h0
    · omega
    · rw [show k - 1 = b by omega, hfb] at h0; cases h0
theorem runs_more (f : Nat → Bool) (k : Nat) (hk : k < 256) (rs' : List (Nat × Nat)) (a : Nat) (hk0 : 0 < k) (hr : runsOf (el f k) = rs' ++ [(a, k - 1)]) (h : f k = true) : runsOf (el f (k + 1)) = rs' ++ [(a, k)] := by
  rw [el_succ, h, if_pos rfl, runsOf_snoc, hr]
  exact runStep_grow _ _ _ _ (by omega)

/-- A set's bytes are as many as it counts. -/
theorem el_cnt (f : Nat → Bool) : ∀ k, (el f k).length = cnt f k
  | 0 => rfl
  | k + 1 => by
    rw [el_succ, List.length_append, el_cnt f k, cnt]
    cases f k <;> rfl
theorem byteCells_len (l : List Nat) : (byteCells l).length = l.length := by simp [byteCells]
theorem byteCells_get (l : List Nat) (i : Nat) (h : i < l.length) : (byteCells l)[i]? = some (.int .u8 (l[i] : Int)) := by
  simp [byteCells, h]
end Go.Proofs.YtldaaelmifbbhaaGreat

/- A constant's bytes in a region that draws its order: the conversion marks a new block. Nothing of the program is used but two types' facts, handed in. -/
namespace Go.Proofs.YtldaaelmifbbhaaGreat
open Go Go.RowKit

/-- New blocks, and marks on blocks from n0 on. -/
def TM (n0 : Nat) (w w' : World) : Prop := Below n0 w w' ∧ ∀ (b : Nat) C e m, w.heap[b]? = some (Obj.cells C e m) → ∃ m', w'.heap[b]? = some (Obj.cells C e m')
theorem TM.refl (n0 : Nat) (w : World) : TM n0 w w := ⟨Below.refl _ _, fun _ _ _ m h => ⟨m, h⟩⟩
theorem TM.of_below {n0 : Nat} {w w' : World} (h : Below w.heap.size w w') (hn : n0 ≤ w.heap.size) : TM n0 w w' :=
  ⟨h.mono hn, fun b _ _ m hb => ⟨m, (h.block b (Array.getElem?_eq_some_iff.1 hb).1).trans hb⟩⟩
/-- The world with block b's mark. -/
theorem freeze_kept (w : World) (b k : Nat) (n0 : Nat) (hb : n0 ≤ b) : TM n0 w (w.freeze ⟨b, k, none⟩ 1) := by
  have hf : w.freeze ⟨b, k, none⟩ 1 = { w with heap := w.heap.modify b fun
      | .cells c elem (lo, hi) => .cells c elem (if lo == hi then (k, k + 1) else (min lo k, max hi (k + 1)))
      | o => o } := rfl
  rw [hf]
  refine ⟨⟨rfl, rfl, rfl, by simp, fun j hj => ?_⟩, fun c C e m hc => ?_⟩
  · show (w.heap.modify b _)[j]? = _
    rw [Array.getElem?_modify]
    rw [if_neg (by omega)]
  · show ∃ m', (w.heap.modify b _)[c]? = _
    rw [Array.getElem?_modify]
    by_cases h : b = c
    · subst h
      rw [if_pos rfl, hc]
      exact ⟨_, rfl⟩
    · rw [if_neg h]
      exact ⟨m, hc⟩
theorem run_convert_mark {P : Program} (w : World) (t e : TypeId) (b : Nat) (C : Array Value) (m : Nat × Nat) (n c : Nat) (ht : P.underlying t = some (.slice e)) (he : P.underlying e = some (.int .u8)) (hb : w.heap[b]? = some (.cells C e m)) :
    (convert t t (.slice (some ⟨b, 0, none⟩) n c)).run P w = .ok (.slice (some ⟨b, 0, none⟩) n c) (w.freeze ⟨b, C.size, none⟩ 1) := by
  have hsh : w.shape? b = some (e, C.size) := by unfold World.shape?; rw [hb]
  simp [convert, run_underlying ht, run_underlying he, markStringish, hsh]

/-- A slice over a whole new block of bytes, marked or not. -/
def MarkB (n0 : Nat) (u8 : TypeId) (l : List (Fin 256)) (v : Value) (W : World) : Prop := ∃ b m, v = .slice (some ⟨b, 0, none⟩) l.length l.length ∧ n0 ≤ b ∧ W.heap[b]? = some (.cells (byW l) u8 m)
theorem MarkB.kept {n0 : Nat} {u8 : TypeId} {l : List (Fin 256)} {v : Value} {w w' : World} (h : MarkB n0 u8 l v w) (ht : TM n0 w w') : MarkB n0 u8 l v w' := by
  obtain ⟨b, m, h1, h2, h3⟩ := h
  obtain ⟨m', h4⟩ := ht.2 b _ _ _ h3
  exact ⟨b, m', h1, h2, h4⟩
theorem MarkB.new (n0 : Nat) (u8 : TypeId) (l : List (Fin 256)) (W : World) (hn : n0 ≤ W.heap.size) : MarkB n0 u8 l (.slice (some ⟨W.heap.size, 0, none⟩) l.length l.length) (W.alloc (.cells (byW l) u8)) :=
  ⟨_, (0, 0), rfl, hn, World.alloc_heap_new W _⟩
theorem MarkB.bytes {n0 : Nat} {u8 : TypeId} {l : List (Fin 256)} {v : Value} {W : World} (h : MarkB n0 u8 l v W) : BytesAt W.heap.size W v l := by
  obtain ⟨b, m, h1, h2, h3⟩ := h
  refine ⟨_, l.length, h1, fun _ => ⟨b, 0, rfl, (Array.getElem?_eq_some_iff.1 h3).1, fun j hj => ?_⟩⟩
  rw [Nat.zero_add]
  simp [World.cell?, h3, byW, hj]
theorem MarkB.convert {P : Program} {n0 : Nat} {u8 t : TypeId} {l : List (Fin 256)} {v : Value} {W : World} (h : MarkB n0 u8 l v W) (ht : P.underlying t = some (.slice u8)) (he : P.underlying u8 = some (.int .u8)) :
    ∃ W', (Go.convert t t v).run P W = .ok v W' ∧ MarkB n0 u8 l v W' ∧ TM n0 W W' := by
  have hk := h
  obtain ⟨b, m, rfl, h2, h3⟩ := h
  have hT := freeze_kept W b (byW l).size n0 h2
  exact ⟨_, run_convert_mark W t u8 b _ m _ _ ht he h3, hk.kept hT, hT⟩
end Go.Proofs.YtldaaelmifbbhaaGreat

/- The developers' counts: plainly; fault, short, signs, right, full, most. -/
namespace Go.Proofs.YtldaaelmifbbhaaGreat
open Go.RowKit

/-! ### Plainly -/
def fullD (v d : Nat) : Bool := d == 2 || (decide (0 < d) && v == 0)
def mostD (v d : Nat) : Nat := if fullD v d = true then v else 10 * v + 9
/-- Value, digits, place, error. -/
def digD (s : ByteArray) (least : Nat) : Nat → Nat → Nat → Nat → Nat × Nat × Nat × Nat
  | 0, i, v, d => (v, d, i, 0)
  | k + 1, i, v, d =>
    if 48 ≤ bt s i ∧ bt s i ≤ 57 then
      if fullD v d = true then (0, 0, i + 1, 6)
      else if mostD (10 * v + (bt s i - 48)) (d + 1) < least then (0, 0, i + 1, 6)
      else digD s least k (i + 1) (10 * v + (bt s i - 48)) (d + 1)
    else (v, d, i, 0)
def digsD (s : ByteArray) (i least : Nat) : Nat × Nat × Nat × Nat := digD s least (s.size - i) i 0 0
structure RD where
  n : Nat
  m : Int
  fin : Nat
  lack : List Nat
  err : Nat
def badC (e p : Nat) : RD := ⟨0, 0, p, [], e⟩
def shortR (s : ByteArray) (l : List Nat) : RD := ⟨0, 0, s.size, l, 2⟩
def okR (n : Nat) (m : Int) (p : Nat) : RD := ⟨n, m, p, [], 0⟩
def lessD (v d n : Nat) : Bool := decide (0 < d) && decide (v < n)
def commaD (s : ByteArray) (i n : Nat) : RD :=
  match digsD s i n with
  | (v, d, p, e) =>
    if e ≠ 0 then badC e p
    else if p = s.size ∧ lessD v d n = true then shortR s [57, 125]
    else if p = s.size then shortR s [125]
    else if bt s p ≠ 125 then badC 3 (p + 1)
    else if lessD v d n = true then badC 6 (p + 1)
    else if d = 0 then okR n (-1) (p + 1)
    else okR n v (p + 1)
def bracesD (s : ByteArray) (i : Nat) : RD :=
  match digsD s i 0 with
  | (v, d, p, e) =>
    if e ≠ 0 then badC e p
    else if p = s.size ∧ d = 0 then shortR s [48, 125]
    else if p = s.size then shortR s [125]
    else if 0 < d ∧ bt s p = 125 then okR v v (p + 1)
    else if 0 < d ∧ bt s p = 44 then commaD s (p + 1) v
    else badC 3 (p + 1)
def readD4 (s : ByteArray) (at' : Int) : RD :=
  if at' < 0 ∨ (s.size : Int) ≤ at' then badC 1 0
  else if bt s at'.toNat = 123 then bracesD s (at'.toNat + 1)
  else if bt s at'.toNat = 42 then okR 0 (-1) (at'.toNat + 1)
  else if bt s at'.toNat = 43 then okR 1 (-1) (at'.toNat + 1)
  else if bt s at'.toNat = 63 then okR 0 1 (at'.toNat + 1)
  else badC 1 0

/-! ### Small functions -/
@[reducible] def rdI (n m p : Int) (l : ByteArray) (e : Int) : Array Value := #[.int .i64 n, .int .i64 m, .int .i64 p, .string l, .int .i64 e]
def rdA (r : RD) : Array Value := rdI r.n r.m r.fin (ofT r.lack) r.err
theorem infoRd : (Tryz.prog.info? 159).map (·.size) = some 5 := by kernel_rfl
theorem rdC_one (n m p : Int) (l : ByteArray) (e : Int) : ((rdI n m p l e).all fun x => x.oneCell') = true := by simp [Value.oneCell']
theorem infoNu : (Tryz.prog.info? 167).map (·.size) = some 2 := by kernel_rfl

set_option maxRecDepth 100000 in
set_option maxHeartbeats 1000000 in
theorem faultD_calls (e p : Int) (w : World) : Calls Tryz.prog 118 #[.int .i64 e, .int .i64 p] w fun en w' => en = .returned (.agg (rdI 0 0 p eT e)) ∧ Below w.heap.size w w' := by
  go_enter Tryz.func118, Tryz.ntmps118
  go_wp2
  have hR := Blk.new w (rdI 0 0 p eT e) 159
  have hB : Below w.heap.size w (w.alloc (.cells (rdI 0 0 p eT e) 159)) := by go_grown
  exact bodyPost_ret (v := .agg (rdI 0 0 p eT e)) (results_cell_row rfl _ _ w.heap.size 159 (rdI 0 0 p eT e) (0, 0) _ rfl hR Tryz.underlying159 rfl infoRd) rfl ⟨rfl, hB⟩

@[reducible] def sgI : Array Value := #[.int .u8 42, .int .i64 0, .int .i64 (-1), .int .u8 43, .int .i64 1, .int .i64 (-1), .int .u8 63, .int .i64 0, .int .i64 1]
theorem infoSg : (Tryz.prog.info? 164).map (·.size) = some 9 := by kernel_rfl
set_option maxRecDepth 100000 in
set_option maxHeartbeats 1000000 in
theorem signs_calls (w : World) : Calls Tryz.prog 120 #[] w fun en w' => en = .returned (.agg sgI) ∧ Below w.heap.size w w' := by
  go_enter Tryz.func120, Tryz.ntmps120
  go_wp2
  have hR := Blk.new w sgI 164
  have hB : Below w.heap.size w (w.alloc (.cells sgI 164)) := by go_grown
  exact bodyPost_ret (v := .agg sgI) (results_cell_row rfl _ _ w.heap.size 164 sgI (0, 0) _ rfl hR Tryz.underlying164 rfl infoSg) rfl ⟨rfl, hB⟩

set_option maxHeartbeats 1000000 in
theorem full_calls (v d : Nat) (w : World) : Calls Tryz.prog 124 #[.agg #[.int .i64 v, .int .i64 d]] w fun en w' => en = .returned (.bool (fullD v d)) ∧ Below w.heap.size w w' := by
  have q1 : ((d : Int) == 2) = (d == 2) := by rw [Bool.eq_iff_iff, beq_iff_eq, beq_iff_eq]; omega
  have q3 : ((v : Int) == 0) = (v == 0) := by rw [Bool.eq_iff_iff, beq_iff_eq, beq_iff_eq]; omega
  have q2 : decide (0 < (d : Int)) = decide (0 < d) := by rw [Bool.eq_iff_iff, decide_eq_true_iff, decide_eq_true_iff]; omega
  have HF := Lib.hid (show fullD v d = (d == 2 || (decide (0 < d) && v == 0)) from rfl)
  cases h1 : (d == 2) with
  | true =>
    rw [h1] at HF q1
    go_enter Tryz.func124, Tryz.ntmps124
    go_wp2
    go_ret
    exact ⟨by rw [HF.out] <;> simp, by go_grown⟩
  | false =>
    rw [h1] at HF q1
    cases h2 : decide (0 < d) with
    | false =>
      rw [h2] at HF q2
      go_enter Tryz.func124, Tryz.ntmps124
      go_wp2
      go_ret
      exact ⟨by rw [HF.out] <;> simp, by go_grown⟩
    | true =>
      rw [h2] at HF q2
      go_enter Tryz.func124, Tryz.ntmps124
      go_wp2
      go_ret
      exact ⟨by rw [HF.out] <;> simp, by go_grown⟩
set_option maxHeartbeats 1000000 in
theorem most_calls (v d : Nat) (hv : v ≤ 999) (w : World) : Calls Tryz.prog 125 #[.agg #[.int .i64 v, .int .i64 d]] w fun en w' => en = .returned (.int .i64 (mostD v d)) ∧ Below w.heap.size w w' := by
  have HF := Lib.hid (full_calls v d)
  have HM := Lib.hid (show mostD v d = if fullD v d = true then v else 10 * v + 9 from rfl)
  generalize mostD v d = M at *
  have hC := Blk.new w #[.int .i64 v, .int .i64 d] 167
  have hB : Below w.heap.size w (w.alloc (.cells #[.int .i64 v, .int .i64 d] 167)) := by go_grown
  have hz : w.heap.size ≤ (w.alloc (.cells #[.int .i64 v, .int .i64 d] 167)).heap.size := by simp
  cases h : fullD v d with
  | true =>
    rw [h] at HF HM
    obtain rfl : M = v := HM.out
    clear HM h
    go_enter Tryz.func125, Tryz.ntmps125
    go_wp2_with fail
    refine (HF.out _).mono ?_
    rintro e w1 ⟨rfl, hb⟩
    have c0 := (hC.below hb hC.lt).cell 0
    simp only [List.getElem?_toArray, List.getElem?_cons_zero] at c0
    have hB2 := hB.trans (hb.mono hz)
    clear hB hC hb HF
    go_wp2_with fail
    go_ret
    exact ⟨rfl, hB2⟩
  | false =>
    rw [h] at HF HM
    obtain rfl : M = 10 * v + 9 := HM.out
    clear HM h
    go_enter Tryz.func125, Tryz.ntmps125
    go_wp2_with fail
    refine (HF.out _).mono ?_
    rintro e w1 ⟨rfl, hb⟩
    have c0 := (hC.below hb hC.lt).cell 0
    simp only [List.getElem?_toArray, List.getElem?_cons_zero] at c0
    have hB2 := hB.trans (hb.mono hz)
    clear hB hC hb HF
    go_wp2_with fail
    go_ret
    exact ⟨by simp, hB2⟩

theorem rightN_nat (n m : Int) : rightN n m = (decide (0 ≤ n) && decide (n ≤ 99) && (m == -1 || (decide (n ≤ m) && decide (m ≤ 99)))) := rfl
set_option maxRecDepth 100000 in
set_option maxHeartbeats 1000000 in
theorem shortR_calls (s l : ByteArray) (w : World) : Calls Tryz.prog 122 #[.string s, .string l] w fun en w' => en = .returned (.agg (rdI 0 0 s.size l 2)) ∧ Below w.heap.size w w' := by
  have HF := Lib.hid (faultD_calls 2 s.size)
  have hC := Blk.new w (rdI 0 0 0 eT 0) 159
  have hB : Below w.heap.size w (w.alloc (.cells (rdI 0 0 0 eT 0) 159)) := by go_grown
  have hz : w.heap.size + 1 ≤ (w.alloc (.cells (rdI 0 0 0 eT 0) 159)).heap.size := by simp
  go_enter Tryz.func122, Tryz.ntmps122
  go_upto_region 1 with fail
  have e0 : w.alloc (.cells #[.int .i64 0, .int .i64 0, .int .i64 0, .string ⟨#[]⟩, .int .i64 0] 159) = w.alloc (.cells (rdI 0 0 0 eT 0) 159) := rfl
  rw [e0]
  clear e0
  generalize w.alloc (.cells (rdI 0 0 0 eT 0) 159) = w1 at *
  go_wp2_with fail
  refine (HF.out _).mono ?_
  rintro e w2 ⟨rfl, hb⟩
  have HR := Lib.hid ((hC.below hb hC.lt).alloc (.cells (rdI 0 0 s.size eT 2) 159))
  have HS := Lib.hid (Blk.new w2 (rdI 0 0 s.size eT 2) 159)
  have hz2 := Nat.le_trans hz hb.size
  have HB := Lib.hid ((hB.trans (hb.mono (by omega))).alloc (by omega) (.cells (rdI 0 0 s.size eT 2) 159))
  clear hC hB hz hb HF
  go_upto_region 2 with fail
  have e0 : w2.alloc (.cells #[.int .i64 0, .int .i64 0, .int .i64 s.size, .string ⟨#[]⟩, .int .i64 2] 159) = w2.alloc (.cells (rdI 0 0 s.size eT 2) 159) := rfl
  try rw [e0]
  clear e0
  generalize w2.alloc (.cells (rdI 0 0 s.size eT 2) 159) = w3 at *
  generalize w2.heap.size = B at *
  have c3 := HS.out.cell 3
  have f3 := HS.out.frozen 3
  simp only [List.getElem?_toArray, List.getElem?_cons_zero, List.getElem?_cons_succ] at c3
  go_upto_region 3 with fail
  clear c3 f3
  have hne : w.heap.size ≠ B := by omega
  have HR2 := Lib.hid (HR.out.other hne 3 (.string l))
  have hS2 : Blk (w3.setCell ⟨B, 3, none⟩ (.string l)) B (rdI 0 0 s.size l 2) 159 := HS.out.set 3 (.string l)
  have HB2 := Lib.hid (below_set HB.out (show w.heap.size ≤ B by omega) 3 (.string l))
  clear HR HS HB
  generalize w3.setCell ⟨B, 3, none⟩ (.string l) = w4 at *
  have c0 := hS2.cell 0
  have c1 := hS2.cell 1
  have c2 := hS2.cell 2
  have c3 := hS2.cell 3
  have c4 := hS2.cell 4
  simp only [List.getElem?_toArray, List.getElem?_cons_zero, List.getElem?_cons_succ] at c0 c1 c2 c3 c4
  clear hS2
  have HR := HR2
  go_wp2_with ((with_reducible refine wpList_store_st (o := ⟨none, .store 159 _ _, _, _, _, _⟩) rfl 159 _ _ rfl w.heap.size rfl rfl (run_storeAt_row _ w.heap.size 159 159 (rdI 0 0 0 eT 0) (rdI 0 0 s.size l 2) ?_ ?_ ?_ ?_) ?_); exact HR.out; exact infoRd; rfl; exact rdC_one _ _ _ _ _)
  exact bodyPost_ret (v := .agg (rdI 0 0 s.size l 2)) (results_cell_row rfl _ _ w.heap.size 159 (rdI 0 0 s.size l 2) (0, 0) _ rfl (Blk.setRow HR.out) Tryz.underlying159 rfl infoRd) rfl ⟨rfl, below_row HB2.out (by omega) _⟩
end Go.Proofs.YtldaaelmifbbhaaGreat

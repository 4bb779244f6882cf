/- Texts put together: Rb Lt Rc Rd. -/
import Derived.Test.YtbccojjcdcighaaGreatDoorPU
import Derived.Test.YtbccojjcdcighaaGreatDoorPD
import Derived.Deep.MidRow
import Derived.Maps.AppendAt
namespace Go.Proofs.YtbccojjcdcighaaGreatDoor
open Go.RowKit BS
theorem infoBools : (Tryz.prog.info? 152).map (·.size) = some 256 := by kernel_rfl
theorem zeroBools : ∃ zs : Array Value, Bools zs (fun _ => false) ∧ ∀ w, (zeroValue 152).run Tryz.prog w = .ok (.agg zs) w := by
  refine ⟨Array.replicate 256 (.bool false), ⟨by simp, fun i hi => by simp [hi]⟩, fun w => ?_⟩
  have h : (zeroValue 152).run Tryz.prog w = .ok (.agg (Array.replicate 256 (.bool false))) w := by kernel_rfl
  exact h
theorem Bools.congr {arr : Array Value} {f g : Nat → Bool} (h : Bools arr f) (e : ∀ j, j < 256 → f j = g j) : Bools arr g := ⟨h.1, fun i hi => by rw [h.2 i hi, e i hi]⟩
def bothF (how : Nat) (x y : Bool) : Bool := (how == 1 && (x || y)) || (how == 2 && x && y) || (how == 3 && x && !y)
def S2 (w : World) (a b : BitVec 256) (arr : Array Value) (W : World) : Prop :=
  (Blk W w.heap.size (setA a) 43 ∧ Blk W (w.heap.size + 1) (setA b) 43 ∧ Blk W (w.heap.size + 1 + 1) (setA 0) 43 ∧ Blk W (w.heap.size + 1 + 1 + 1) arr 152) ∧ Below w.heap.size w W
theorem keep2 {w W W' : World} {a b : BitVec 256} {arr : Array Value} (h : S2 w a b arr W) (hb : Below W.heap.size W W') : S2 w a b arr W' :=
  ⟨⟨h.1.1.below hb h.1.1.lt, h.1.2.1.below hb h.1.2.1.lt, h.1.2.2.1.below hb h.1.2.2.1.lt, h.1.2.2.2.below hb h.1.2.2.2.lt⟩, h.2.trans (hb.mono h.2.size)⟩
theorem drew2 {w W : World} {a b : BitVec 256} {arr : Array Value} (h : S2 w a b arr W) : S2 w a b arr W.drew := ⟨⟨h.1.1, h.1.2.1, h.1.2.2.1, h.1.2.2.2⟩, h.2.drew⟩
set_option maxRecDepth 100000 in
set_option maxHeartbeats 4000000 in
theorem both_calls (a b : BitVec 256) (how : Nat) (hhow : how = 1 ∨ how = 2 ∨ how = 3) (w : World) :
    Calls Tryz.prog 88 #[setV a, setV b, .int .i64 how] w fun e w' => e = .returned (setV (ofFn fun j => bothF how (a.getLsbD j) (b.getLsbD j))) ∧ Below w.heap.size w w' := by
  obtain ⟨zs, hzb, hz⟩ := zeroBools
  have h0 : ∃ arr, Bools arr (fun j => decide (j < 0) && bothF how (a.getLsbD j) (b.getLsbD j)) ∧ S2 w a b arr ((((w.alloc (.cells (setA a) 43)).alloc (.cells (setA b) 43)).alloc (.cells (setA 0) 43)).alloc (.cells zs 152)) := by
    refine ⟨zs, hzb.congr (fun j _ => by simp), ⟨(((Blk.new w _ _).alloc _).alloc _).alloc _, ?_, ?_, ?_⟩, by go_grown⟩
    · have := ((Blk.new (w.alloc (.cells (setA a) 43)) (setA b) 43).alloc (.cells (setA 0) 43)).alloc (.cells zs 152)
      rwa [World.size_alloc] at this
    · have := (Blk.new ((w.alloc (.cells (setA a) 43)).alloc (.cells (setA b) 43)) (setA 0) 43).alloc (.cells zs 152)
      rwa [World.size_alloc, World.size_alloc] at this
    · have := Blk.new (((w.alloc (.cells (setA a) 43)).alloc (.cells (setA b) 43)).alloc (.cells (setA 0) 43)) zs 152
      rwa [World.size_alloc, World.size_alloc, World.size_alloc] at this
  clear hzb
  have HH := Lib.hid hhow
  clear hhow
  go_enter Tryz.func88, Tryz.ntmps88
  go_wp2_with fail
  have e0 : ((((w.alloc (.cells #[.int .u64 (wd a 0), .int .u64 (wd a 1), .int .u64 (wd a 2), .int .u64 (wd a 3)] 43)).alloc (.cells #[.int .u64 (wd b 0), .int .u64 (wd b 1), .int .u64 (wd b 2), .int .u64 (wd b 3)] 43)).alloc (.cells #[.int .u64 0, .int .u64 0, .int .u64 0, .int .u64 0] 43)).alloc (.cells zs 152)) = ((((w.alloc (.cells (setA a) 43)).alloc (.cells (setA b) 43)).alloc (.cells (setA 0) 43)).alloc (.cells zs 152)) := rfl
  rw [e0]
  clear e0 hz
  generalize ((((w.alloc (.cells (setA a) 43)).alloc (.cells (setA b) 43)).alloc (.cells (setA 0) 43)).alloc (.cells zs 152)) = w1 at *
  go_loopw [8] (fun i wr => ∃ k : Nat, k ≤ 256 ∧ i = .int .i64 k ∧ ∃ arr, Bools arr (fun j => decide (j < k) && bothF how (a.getLsbD j) (b.getLsbD j)) ∧ S2 w a b arr wr) (fun i _ => 256 - (intOf i).toNat)
  case atStart => exact ⟨0, by omega, rfl, h0⟩
  case round =>
    clear h0
    obtain ⟨k, hk, rfl, arr, hb, hU⟩ := hrel
    by_cases hkl : k < 256
    · have HB := Lib.hid hb
      clear hb
      go_wp2_with fail
      refine region_steps (S := S2 w a b arr) (by kernel_rfl) (drew2 hU) ?_
      simp only [List.size_toArray, List.length_cons, List.length_nil, Nat.reduceAdd, Array.replicate_succ, Array.replicate_zero, List.push_toArray, List.nil_append, List.cons_append]
      refine AnyS.next (i := 0) (d := some 15) (v := setV a) rfl rfl (by kernel_rfl) (by kernel_rfl) (by kernel_rfl) (StepsIf.yield (by kernel_rfl) (fun w' hS => by obtain ⟨⟨c0, c1, c2, c3⟩, _⟩ := hS.1.1.cells4; clear hS; go_simp)) ?_
      intro a' ha'
      simp only [Act.put, List.setIfInBounds_toArray, List.set_cons_zero, List.set_cons_succ] at ha'
      subst ha'
      refine AnyS.next (i := 1) (d := some 16) (v := .int .i64 ((k : Nat) : Int)) rfl rfl (by kernel_rfl) (by kernel_rfl) (by kernel_rfl) (StepsIf.yield (by kernel_rfl) (fun w' hS => by clear hS; go_simp)) ?_
      intro a' ha'
      simp only [Act.put, List.setIfInBounds_toArray, List.set_cons_zero, List.set_cons_succ] at ha'
      subst ha'
      refine AnyS.next (i := 2) (d := some 17) (v := .bool (a.getLsbD k)) rfl rfl (by kernel_rfl) (by kernel_rfl) (by kernel_rfl) (StepsIf.call (by kernel_rfl) (fun w' hS => by clear hS; go_simp) (fun w' hS => (rhas_calls a k w' (by omega) (by omega)).mono fun e w'' h => ⟨h.1, keep2 hS h.2⟩)) ?_
      intro a' ha'
      simp only [Act.put, List.setIfInBounds_toArray, List.set_cons_zero, List.set_cons_succ] at ha'
      subst ha'
      refine AnyS.next (i := 3) (d := some 18) (v := setV b) rfl rfl (by kernel_rfl) (by kernel_rfl) (by kernel_rfl) (StepsIf.yield (by kernel_rfl) (fun w' hS => by obtain ⟨⟨c0, c1, c2, c3⟩, _⟩ := hS.1.2.1.cells4; clear hS; go_simp)) ?_
      intro a' ha'
      simp only [Act.put, List.setIfInBounds_toArray, List.set_cons_zero, List.set_cons_succ] at ha'
      subst ha'
      refine AnyS.next (i := 4) (d := some 19) (v := .int .i64 ((k : Nat) : Int)) rfl rfl (by kernel_rfl) (by kernel_rfl) (by kernel_rfl) (StepsIf.yield (by kernel_rfl) (fun w' hS => by clear hS; go_simp)) ?_
      intro a' ha'
      simp only [Act.put, List.setIfInBounds_toArray, List.set_cons_zero, List.set_cons_succ] at ha'
      subst ha'
      refine AnyS.next (i := 5) (d := some 20) (v := .bool (b.getLsbD k)) rfl rfl (by kernel_rfl) (by kernel_rfl) (by kernel_rfl) (StepsIf.call (by kernel_rfl) (fun w' hS => by clear hS; go_simp) (fun w' hS => (rhas_calls b k w' (by omega) (by omega)).mono fun e w'' h => ⟨h.1, keep2 hS h.2⟩)) ?_
      intro a' ha'
      simp only [Act.put, List.setIfInBounds_toArray, List.set_cons_zero, List.set_cons_succ] at ha'
      subst ha'
      refine AnyS.next (i := 6) (d := some 9) (v := .bool (a.getLsbD k)) rfl rfl (by kernel_rfl) (by kernel_rfl) (by kernel_rfl) (StepsIf.yield (by kernel_rfl) (fun w' hS => by clear hS; go_simp)) ?_
      intro a' ha'
      simp only [Act.put, List.setIfInBounds_toArray, List.set_cons_zero, List.set_cons_succ] at ha'
      subst ha'
      refine AnyS.next (i := 7) (d := some 10) (v := .bool (b.getLsbD k)) rfl rfl (by kernel_rfl) (by kernel_rfl) (by kernel_rfl) (StepsIf.yield (by kernel_rfl) (fun w' hS => by clear hS; go_simp)) ?_
      intro a' ha'
      simp only [Act.put, List.setIfInBounds_toArray, List.set_cons_zero, List.set_cons_succ] at ha'
      subst ha'
      refine AnyS.done (by kernel_rfl) ?_ _
      clear hU
      intro w2 hU
      have hc := (hU.1.2.2.2.cell k).trans (HB.out.2 k hkl)
      have hf := hU.1.2.2.2.frozen k
      have HU := Lib.hid hU
      clear hU
      have key : ∀ v, v = bothF how (a.getLsbD k) (b.getLsbD k) → ∃ arr', Bools arr' (fun j => decide (j < k + 1) && bothF how (a.getLsbD j) (b.getLsbD j)) ∧ S2 w a b arr' (w2.setCell ⟨w.heap.size + 1 + 1 + 1, k, none⟩ (.bool v)) := fun v hv => by
        refine ⟨_, (HB.out.set k v).congr ?_, ⟨HU.out.1.1.other (by omega) _ _, HU.out.1.2.1.other (by omega) _ _, HU.out.1.2.2.1.other (by omega) _ _, HU.out.1.2.2.2.set k _⟩, below_set HU.out.2 (by omega) _ _⟩
        intro j _
        by_cases hjk : j = k
        · subst hjk; simp [hv]
        · have : (j < k + 1) ↔ (j < k) := by omega
          simp [hjk, this]
      have KEY := Lib.hid key
      clear key
      generalize a.getLsbD k = x at *
      generalize b.getLsbD k = y at *
      rcases HH.out with rfl | rfl | rfl <;> cases x <;> cases y
      all_goals
        go_wp2
        go_roundw
        case rel => exact ⟨k + 1, by omega, by simp, KEY.out _ rfl⟩
        case measure => simp [intOf]; omega
    · obtain rfl : k = 256 := by omega
      have hOf := of_calls arr _ (hb.congr (g := fun j => bothF how (a.getLsbD j) (b.getLsbD j)) (fun j hj => by simp [hj]))
      have HO := Lib.hid hOf
      have hi3 : (Tryz.prog.info? 152).map (·.size) = some arr.size := by rw [hb.1]; exact infoBools
      have HI := Lib.hid hi3
      have bR := hU.1.2.2.1
      have hB := hU.2
      have BL := Lib.hid hU.1.2.2.2
      clear hb hOf hi3 hU HH
      go_wp2_with (refine wpList_load_row rfl 152 _ rfl (w.heap.size + 1 + 1 + 1) rfl 152 arr (0, 0) _ BL.out Tryz.underlying152 rfl HI.out ?_)
      refine (HO.out _).mono ?_
      rintro e w2 ⟨rfl, hb2⟩
      have bR2 := bR.below hb2 bR.lt
      have hB2 := hB.trans (hb2.mono hB.size)
      obtain ⟨⟨d0, d1, d2, d3⟩, g0, g1, g2, g3⟩ := bR2.cells4
      have HB2 := Lib.hid hB2
      have BR2 := Lib.hid bR2
      clear hb2 BL HI HO hB bR hB2 bR2
      generalize ht : (ofFn fun j => bothF how (a.getLsbD j) (b.getLsbD j)) = t at *
      have HT := Lib.hid ht
      clear ht
      go_wp2
      obtain ⟨hR, hB⟩ := fin4 BR2.out HB2.out (by omega) t
      clear d0 d1 d2 d3 g0 g1 g2 g3 HB2 BR2
      generalize (((w2.setCell ⟨w.heap.size + 1 + 1, 0, none⟩ (.int .u64 (wd t 0))).setCell ⟨w.heap.size + 1 + 1, 1, none⟩ (.int .u64 (wd t 1))).setCell ⟨w.heap.size + 1 + 1, 2, none⟩ (.int .u64 (wd t 2))).setCell ⟨w.heap.size + 1 + 1, 3, none⟩ (.int .u64 (wd t 3)) = W4 at *
      obtain ⟨⟨e0, e1, e2, e3⟩, _⟩ := hR.cells4
      exact bodyPost_ret (v := setV t) (by simp [results, Tryz.results88, go_sem, e0, e1, e2, e3]) rfl ⟨by rw [HT.out], hB⟩
theorem both_less (a b : BitVec 256) : (ofFn fun j => bothF 3 (a.getLsbD j) (b.getLsbD j)) = a &&& ~~~b := by
  apply BitVec.eq_of_getLsbD_eq; intro j hj
  rw [get_ofFn, BitVec.getLsbD_and, BitVec.getLsbD_not]; simp only [hj]
  cases a.getLsbD j <;> cases b.getLsbD j <;> rfl
theorem rless_calls (a b : BitVec 256) (w : World) : Calls Tryz.prog 88 #[setV a, setV b, .int .i64 3] w fun e w' => e = .returned (setV (a &&& ~~~b)) ∧ Below w.heap.size w w' := by
  have h := both_calls a b 3 (.inr (.inr rfl)) w
  rw [both_less] at h; exact h
end Go.Proofs.YtbccojjcdcighaaGreatDoor

namespace Go.Proofs.YtbccojjcdcighaaGreatDoor
open Go.RowKit Go.Shelf BS
end Go.Proofs.YtbccojjcdcighaaGreatDoor

namespace Go.Proofs.YtbccojjcdcighaaGreatDoor
open Go.RowKit BS
theorem rhasN' (a : BitVec 256) (x : Nat) (w : World) (hx : x < 256) : Calls Tryz.prog 85 #[setV a, .int .i64 x] w fun e w' => e = .returned (.bool (a.getLsbD x)) ∧ Below w.heap.size w w' := by
  have h := rhas_calls a x w (by omega) (by omega)
  rw [Int.toNat_natCast] at h; exact h
theorem row_below {W W' : World} {base : Nat} {e : TypeId} {size : Nat} {v : Value} {n : Nat} {xs : List Value} (h : W.ownsRow base e size v n xs) (hb : Below W.heap.size W W') : W'.ownsRow base e size v n xs := by
  refine h.kept (row := none) ⟨hb.os, hb.tape, hb.output, hb.size, fun k hk _ => hb.block k hk⟩ ?_
  by_cases hv : v.ownBlock = none
  · exact .inl hv
  · exact .inr hv
theorem info1b : (Tryz.prog.info? 5).map (fun i => (i.zero, i.size, i.bytes)) = some (some (.int .u8 0), 1, 1) := by kernel_rfl
theorem Blk.news1 {W : World} {B : Nat} {a : Value} {t : TypeId} (h : Blk W B #[a] t) : ∀ j u, [a][j]? = some u → W.cell? ((⟨B, 0, none⟩ : Addr).add j) = some u := by
  intro j u hu
  rw [Addr.add_mid, Nat.zero_add, h.cell j]
  simpa using hu
def byteCells (l : List Nat) : List Value := l.map fun (x : Nat) => Value.int .u8 (x : Int)
theorem byteCells_snoc (l : List Nat) (x : Nat) : byteCells (l ++ [x]) = byteCells l ++ [.int .u8 (x : Int)] := by simp [byteCells]
set_option maxRecDepth 100000 in
set_option maxHeartbeats 1000000 in
theorem rall_calls (s : BitVec 256) (w : World) :
    Calls Tryz.prog 60 #[setV s] w fun e w' => ∃ v, e = .returned v ∧ w'.ownsRow w.heap.size 5 1 v (el s.getLsbD 256).length (byteCells (el s.getLsbD 256)) ∧ Below w.heap.size w w' := by
  obtain ⟨i0, hi, hz0, hz1, hz2⟩ := info_parts info1b
  have b0 := Blk.new w (setA s) 43
  have hB0 : Below w.heap.size w (w.alloc (.cells (setA s) 43)) := by go_grown
  go_enter Tryz.func60, Tryz.ntmps60
  go_wp2_with fail
  have e0 : w.alloc (.cells #[.int .u64 (wd s 0), .int .u64 (wd s 1), .int .u64 (wd s 2), .int .u64 (wd s 3)] 43) = w.alloc (.cells (setA s) 43) := rfl
  rw [e0]
  clear e0
  generalize w.alloc (.cells (setA s) 43) = w1 at *
  go_loopw [3, 4] (fun v i wr => ∃ k : Nat, k ≤ 256 ∧ i = .int .i64 k ∧ wr.ownsRow w.heap.size 5 1 v (el s.getLsbD k).length (byteCells (el s.getLsbD k)) ∧ Blk wr w.heap.size (setA s) 43 ∧ Below w.heap.size w wr) (fun _ i _ => 256 - (intOf i).toNat)
  case atStart => exact ⟨0, Nat.zero_le _, rfl, (by rw [el_zero]; exact World.ownsRow_nil _ _ _ _), b0, hB0⟩
  case round =>
    clear b0 hB0
    obtain ⟨k, hk, rfl, hr, hbk, hB⟩ := hrel
    obtain ⟨⟨c0, c1, c2, c3⟩, _⟩ := hbk.cells4
    by_cases hkl : k < 256
    · cases hx : s.getLsbD k with
      | false =>
        have HX := Lib.hid hx
        have HR := Lib.hid hr
        have BK := Lib.hid hbk
        have HB := Lib.hid hB
        clear hx hr hbk hB
        go_wp2_with (go_at_call 85; refine (rhasN' s k _ hkl).mono ?_; rintro e w2 ⟨rfl, hb2⟩; rw [HX.out])
        go_roundw
        case rel =>
          refine ⟨k + 1, by omega, by simp, ?_, BK.out.below hb2 BK.out.lt, HB.out.trans (hb2.mono HB.out.size)⟩
          rw [el_succ, HX.out]
          simpa using row_below HR.out hb2
        case measure => simp [intOf]; omega
      | true =>
        have HX := Lib.hid hx
        have hl := el_len s.getLsbD k
        have HE : Hid (el s.getLsbD (k + 1) = el s.getLsbD k ++ [k]) := by show el s.getLsbD (k + 1) = _; rw [el_succ, hx]; rfl
        clear hx
        generalize el s.getLsbD k = ls at *
        have BK := Lib.hid hbk
        have HB := Lib.hid hB
        clear hbk hB
        go_wp2_with (first
          | (go_at_call 85; refine (rhasN' s k _ hkl).mono ?_; rintro e w2 ⟨rfl, hb2⟩; rw [HX.out]
             have hr2 := row_below hr hb2
             have BK2 := Lib.hid (BK.out.below hb2 BK.out.lt)
             have HB2 := Lib.hid (HB.out.trans (hb2.mono HB.out.size))
             clear hr hb2 BK HB)
          | (at_builtin
             refine wpList_append_own _ rfl _ _ 70 rfl w.heap.size 5 i0 (.int .u8 0) 1 1 Tryz.underlying70 hi hz0 hz1 hz2 rfl (by decide) _ _ _ rfl (hr2.alloc _) ⟨w2.heap.size, 0, none⟩ 1 1 [.int .u8 (k : Nat)] rfl rfl (Blk.new w2 _ _).news1 (by simp [Value.oneCell']) (by unfold maxLen; omega) (by omega) (by have := HB2.out.size; simp; omega) ?_
             intro v' w3 hown' hgrow _
             have BK3 := Lib.hid ((BK2.out.alloc _).kept hgrow (BK2.out.not_own (by decide) hr2))
             have HB3 := Lib.hid ((HB2.out.alloc HB2.out.size _).grown hgrow (by have := HB2.out.size; simp; omega) (fun b hb => (hr2.lt b hb).1))
             have HO := Lib.hid hown'
             clear hown' hr2 BK2 HB2 hgrow))
        go_roundw
        case rel =>
          refine ⟨k + 1, by omega, by simp, ?_, BK3.out, HB3.out⟩
          rw [HE.out, byteCells_snoc]
          simpa using HO.out
        case measure => simp [intOf]; omega
    · obtain rfl : k = 256 := by omega
      go_wp2
      go_ret
      exact ⟨_, rfl, hr, hB⟩
end Go.Proofs.YtbccojjcdcighaaGreatDoor

namespace Go.Proofs.YtbccojjcdcighaaGreatDoor
open Go.RowKit Go.Shelf BS
attribute [local go_sem] Oper.semAt_some
theorem runStep_last (rs : List (Nat × Nat)) (x : Nat) : ∃ rs' a, runStep rs x = rs' ++ [(a, x)] := by
  rcases nil_or_snoc rs with rfl | ⟨rs', a, b, rfl⟩
  · exact ⟨[], x, rfl⟩
  · by_cases h : (b + 1) % 256 = x
    · exact ⟨rs', a, runStep_grow _ _ _ _ h⟩
    · exact ⟨rs' ++ [(a, b)], x, runStep_new _ _ _ _ h⟩
theorem runs_prev (f : Nat → Bool) (k : Nat) (hk : 0 < k) (hf : f (k - 1) = true) : ∃ rs' a, runsOf (el f k) = rs' ++ [(a, k - 1)] := by
  obtain ⟨j, rfl⟩ : ∃ j, k = j + 1 := ⟨k - 1, by omega⟩
  simp only [Nat.add_sub_cancel] at hf ⊢
  rw [el_succ, hf, if_pos rfl, runsOf_snoc]
  exact runStep_last _ _
theorem runs_fresh (f : Nat → Bool) (k : Nat) (hk : k < 256) (hf : k = 0 ∨ f (k - 1) = false) (h : f k = true) : runsOf (el f (k + 1)) = runsOf (el f k) ++ [(k, k)] := by
  rw [el_succ, h, if_pos rfl, runsOf_snoc]
  have iv := runsInv f k (by omega)
  generalize runsOf (el f k) = rs at *
  rcases nil_or_snoc rs with rfl | ⟨rs', a, b, rfl⟩
  · rfl
  · have hb := iv.ok (a, b) (by simp)
    simp only at hb
    refine runStep_new _ _ _ _ fun e => ?_
    have hbk : b + 1 = k := by omega
    have hfb : f b = true := (iv.all b (by omega)).2 ⟨(a, b), by simp, hb.1, Nat.le_refl _⟩
    rcases hf with h0 | h0
    · omega
    · rw [show k - 1 = b by omega, hfb] at h0; cases h0
theorem runs_more (f : Nat → Bool) (k : Nat) (hk : k < 256) (rs' : List (Nat × Nat)) (a : Nat) (hk0 : 0 < k) (hr : runsOf (el f k) = rs' ++ [(a, k - 1)]) (h : f k = true) : runsOf (el f (k + 1)) = rs' ++ [(a, k)] := by
  rw [el_succ, h, if_pos rfl, runsOf_snoc, hr]
  exact runStep_grow _ _ _ _ (by omega)
set_option maxRecDepth 100000 in
set_option maxHeartbeats 2000000 in
theorem rruns_calls (s : BitVec 256) (w : World) :
    Calls Tryz.prog 87 #[setV s] w fun e w' => ∃ v, e = .returned v ∧ w'.ownsRow w.heap.size 132 2 v (rsOf s).length (runCells (rsOf s)) ∧ Below w.heap.size w w' := by
  obtain ⟨i0, hi, hz0, hz1, hz2⟩ := info_parts info2b
  have b0 := Blk.new w (setA s) 43
  have hB0 : Below w.heap.size w (w.alloc (.cells (setA s) 43)) := by go_grown
  go_enter Tryz.func87, Tryz.ntmps87
  go_wp2_with fail
  have e0 : w.alloc (.cells #[.int .u64 (wd s 0), .int .u64 (wd s 1), .int .u64 (wd s 2), .int .u64 (wd s 3)] 43) = w.alloc (.cells (setA s) 43) := rfl
  rw [e0]
  clear e0
  generalize w.alloc (.cells (setA s) 43) = w1 at *
  go_loopw [3, 4] (fun v i wr => ∃ k : Nat, k ≤ 256 ∧ i = .int .i64 k ∧ wr.ownsRow w.heap.size 132 2 v (runsOf (el s.getLsbD k)).length (runCells (runsOf (el s.getLsbD k))) ∧ Blk wr w.heap.size (setA s) 43 ∧ Below w.heap.size w wr) (fun _ i _ => 256 - (intOf i).toNat)
  case atStart => exact ⟨0, Nat.zero_le _, rfl, (by rw [el_zero]; exact World.ownsRow_nil _ _ _ _), b0, hB0⟩
  case round =>
    clear b0 hB0
    obtain ⟨k, hk, rfl, hr, hbk, hB⟩ := hrel
    obtain ⟨⟨c0, c1, c2, c3⟩, _⟩ := hbk.cells4
    by_cases hkl : k < 256
    · cases hx : s.getLsbD k with
      | false =>
        have HX := Lib.hid hx
        have HR := Lib.hid hr
        have BK := Lib.hid hbk
        have HB := Lib.hid hB
        clear hx hr hbk hB
        go_wp2_with (go_at_call 85; refine (rhasN' s k _ hkl).mono ?_; rintro e w2 ⟨rfl, hb2⟩; rw [HX.out])
        go_roundw
        case rel =>
          refine ⟨k + 1, by omega, by simp, ?_, BK.out.below hb2 BK.out.lt, HB.out.trans (hb2.mono HB.out.size)⟩
          rw [el_succ, HX.out]
          simpa using row_below HR.out hb2
        case measure => simp [intOf]; omega
      | true =>
        by_cases hp : 0 < k ∧ s.getLsbD (k - 1) = true
        · obtain ⟨hk0, hp⟩ := hp
          obtain ⟨rs', a, hrs⟩ := runs_prev s.getLsbD k hk0 hp
          have hl := Nat.le_trans (runsOf_len (el s.getLsbD k)) (el_len s.getLsbD k)
          have HM := Lib.hid (runs_more s.getLsbD k hkl rs' a hk0 hrs hx)
          rw [hrs] at hr hl
          have HX := Lib.hid hx
          have HP := Lib.hid hp
          clear hx hp hrs
          have hln : (rs' ++ [(a, k - 1)]).length = rs'.length + 1 := by simp
          rw [hln] at hr hl
          clear hln
          have BK := Lib.hid hbk
          have HB := Lib.hid hB
          have HR := Lib.hid hr
          obtain ⟨g, cap, rfl⟩ := ownsRow_succ hr
          have hgB : g ≠ w.heap.size := fun e => hbk.not_own (by decide) hr (by rw [e]; rfl)
          have hglt : w.heap.size ≤ g := (hr.lt g rfl).1
          clear hr hbk hB
          have hd0 : decide ((0 : Int) < (k : Int)) = true := by simpa using hk0
          have hk1 : ((k : Int) - 1) = ((k - 1 : Nat) : Int) := by omega
          have HN := Lib.hid hkl
          go_wp2_with (first
            | (have hmark := HR2.out; clear hmark; go_at_call 85; refine (rhasN' s (k - 1) _ (by omega)).mono ?_; rintro e w3 ⟨rfl, hb3⟩; rw [HP.out]
               have BK3 := Lib.hid (BK2.out.below hb3 BK2.out.lt)
               have HB3 := Lib.hid (HB2.out.trans (hb3.mono HB2.out.size))
               have hr3 := row_below HR2.out hb3
               have hcl := (hr3.cellAt (rs'.length * 2 + 1) (by omega)).trans (runCells_last rs' a (k - 1))
               have hfl := hr3.frozenAt (rs'.length * 2 + 1)
               have HR3 := Lib.hid hr3
               clear hr3 hb3 HR2 HB2 BK2)
            | (have hmark := HR.out; clear hmark; go_at_call 85; refine (rhasN' s k _ HN.out).mono ?_; rintro e w2 ⟨rfl, hb2⟩; rw [HX.out]
               have BK2 := Lib.hid (BK.out.below hb2 BK.out.lt)
               have HB2 := Lib.hid (HB.out.trans (hb2.mono HB.out.size))
               have HR2 := Lib.hid (row_below HR.out hb2)
               obtain ⟨⟨d0, d1, d2, d3⟩, _⟩ := BK2.out.cells4
               clear hb2 HR HB BK))
          go_roundw
          case rel =>
            refine ⟨k + 1, by omega, by simp, ?_, BK3.out.other (Ne.symm hgB) _ _, HB3.out.trans (below_set (Below.refl w.heap.size w3) hglt (rs'.length * 2 + 1) (.int .u8 (k : Int)))⟩
            rw [HM.out, ← runCells_set rs' a (k - 1) k]
            simpa using (HR3.out.stored (rs'.length * 2 + 1) (.int .u8 (k : Int))).1
          case measure => simp [intOf]; omega
        · have hf : k = 0 ∨ s.getLsbD (k - 1) = false := by
            by_cases h0 : k = 0
            · exact .inl h0
            · refine .inr ?_
              cases h : s.getLsbD (k - 1) with
              | false => rfl
              | true => exact absurd ⟨by omega, h⟩ hp
          clear hp
          have hl := Nat.le_trans (runsOf_len (el s.getLsbD k)) (el_len s.getLsbD k)
          have HM := Lib.hid (runs_fresh s.getLsbD k hkl hf hx)
          generalize runsOf (el s.getLsbD k) = rs at *
          have HX := Lib.hid hx
          have BK := Lib.hid hbk
          have HB := Lib.hid hB
          have HN := Lib.hid hkl
          have HR := Lib.hid hr
          clear hx hbk hB hr
          rcases hf with hk0 | hp
          · have HK := Lib.hid hk0
            have hd0 : decide ((0 : Int) < (k : Int)) = false := by rw [hk0]; rfl
            have hd1 : decide (0 < k) = false := by rw [hk0]; rfl
            have hd2 : ¬ 0 < k := by omega
            clear hk0
            go_wp2_with (first
              | (have hmark := HR.out; clear hmark; go_at_call 85; refine (rhasN' s k _ HN.out).mono ?_; rintro e w2 ⟨rfl, hb2⟩; rw [HX.out]
                 have BK2 := Lib.hid (BK.out.below hb2 BK.out.lt)
                 have HB2 := Lib.hid (HB.out.trans (hb2.mono HB.out.size))
                 have hr2 := row_below HR.out hb2
                 clear hb2 HR HB BK)
              | (at_builtin
                 refine wpList_append_own _ rfl _ _ 129 rfl w.heap.size 132 i0 (.agg #[.int .u8 0, .int .u8 0]) 2 2 Tryz.underlying129 hi hz0 hz1 hz2 rfl (by decide) _ _ _ rfl (hr2.alloc _) ⟨w2.heap.size, 0, none⟩ 1 1 [.int .u8 (k : Nat), .int .u8 (k : Nat)] rfl rfl (Blk.new w2 _ _).news2 (by simp [Value.oneCell']) (by unfold maxLen; omega) (by omega) (by have := HB2.out.size; simp; omega) ?_
                 intro v' w3 hown' hgrow _
                 have BK3 := Lib.hid ((BK2.out.alloc _).kept hgrow (BK2.out.not_own (by decide) hr2))
                 have HB3 := Lib.hid ((HB2.out.alloc HB2.out.size _).grown hgrow (by have := HB2.out.size; simp; omega) (fun b hb => (hr2.lt b hb).1))
                 have HO := Lib.hid hown'
                 clear hown' hr2 BK2 HB2 hgrow))
            go_roundw
            case rel =>
              refine ⟨k + 1, by omega, by simp, ?_, BK3.out, HB3.out⟩
              rw [HM.out, runCells_snoc]
              simpa using HO.out
            case measure => simp [intOf]; omega
          · by_cases hk0 : 0 < k
            · have HP := Lib.hid hp
              clear hp
              have hd0 : decide ((0 : Int) < (k : Int)) = true := by simpa using hk0
              have hk1 : ((k : Int) - 1) = ((k - 1 : Nat) : Int) := by omega
              go_wp2_with (first
                | (have hmark := HR2.out; clear hmark; go_at_call 85; refine (rhasN' s (k - 1) _ (by omega)).mono ?_; rintro e w4 ⟨rfl, hb4⟩; rw [HP.out]
                   have BK4 := Lib.hid (BK2.out.below hb4 BK2.out.lt)
                   have HB4 := Lib.hid (HB2.out.trans (hb4.mono HB2.out.size))
                   have hr4 := row_below HR2.out hb4
                   clear hb4 HR2 HB2 BK2)
                | (have hmark := HR.out; clear hmark; go_at_call 85; refine (rhasN' s k _ HN.out).mono ?_; rintro e w2 ⟨rfl, hb2⟩; rw [HX.out]
                   have BK2 := Lib.hid (BK.out.below hb2 BK.out.lt)
                   have HB2 := Lib.hid (HB.out.trans (hb2.mono HB.out.size))
                   have HR2 := Lib.hid (row_below HR.out hb2)
                   obtain ⟨⟨d0, d1, d2, d3⟩, _⟩ := BK2.out.cells4
                   clear hb2 HR HB BK)
                | (at_builtin
                   refine wpList_append_own _ rfl _ _ 129 rfl w.heap.size 132 i0 (.agg #[.int .u8 0, .int .u8 0]) 2 2 Tryz.underlying129 hi hz0 hz1 hz2 rfl (by decide) _ _ _ rfl (hr4.alloc _) ⟨w4.heap.size, 0, none⟩ 1 1 [.int .u8 (k : Nat), .int .u8 (k : Nat)] rfl rfl (Blk.new w4 _ _).news2 (by simp [Value.oneCell']) (by unfold maxLen; omega) (by omega) (by have := HB4.out.size; simp; omega) ?_
                   intro v' w3 hown' hgrow _
                   have BK3 := Lib.hid ((BK4.out.alloc _).kept hgrow (BK4.out.not_own (by decide) hr4))
                   have HB3 := Lib.hid ((HB4.out.alloc HB4.out.size _).grown hgrow (by have := HB4.out.size; simp; omega) (fun b hb => (hr4.lt b hb).1))
                   have HO := Lib.hid hown'
                   clear hown' hr4 BK4 HB4 hgrow))
              go_roundw
              case rel =>
                refine ⟨k + 1, by omega, by simp, ?_, BK3.out, HB3.out⟩
                rw [HM.out, runCells_snoc]
                simpa using HO.out
              case measure => simp [intOf]; omega
            · obtain rfl : k = 0 := by omega
              rw [show (0 : Nat) - 1 = 0 from rfl, HX.out] at hp
              cases hp
    · obtain rfl : k = 256 := by omega
      go_wp2
      go_ret
      exact ⟨_, rfl, hr, hB⟩
end Go.Proofs.YtbccojjcdcighaaGreatDoor

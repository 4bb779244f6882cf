/- Texts put together: Tue Tuf Tuc Tug Tuh. -/
import Derived.Test.YtdpkhliojbeglaaDoorQH
import Derived.Test.YtdpkhliojbeglaaDoorQW
import Derived.TacticsIn
import Derived.RegionIn
import Derived.Shelf.RegionOpen
import Derived.Laws.IdiomCopy
import Derived.Test.YtdpkhliojbeglaaDoorQC
/- The iterators of then: All and slices.Backward, told by what they hand out. Stage 15. -/
namespace Go.Proofs.YtdpkhliojbeglaaDoor
open Go.RowKit Go.Shelf BS
attribute [local go_sem] Oper.semAt_some

theorem el_pre (f : Nat → Bool) (c : Nat) : ∀ k, c ≤ k → ∃ t, el f k = el f c ++ t
  | 0, h => ⟨[], by rw [show c = 0 by omega]; simp⟩
  | k + 1, h => by
    by_cases hc : c = k + 1
    · exact ⟨[], by rw [hc]; simp⟩
    · obtain ⟨t, ht⟩ := el_pre f c k (by omega)
      exact ⟨t ++ if f k then [k] else [], by rw [el_succ, ht, List.append_assoc]⟩
theorem el_at (f : Nat → Bool) (j k : Nat) (hj : j < k) (c : Nat) (hc : el f (j + 1) = el f c ++ [j]) : ∃ h : (el f c).length < (el f k).length, (el f k)[(el f c).length] = j := by
  obtain ⟨t, ht⟩ := el_pre f (j + 1) k (by omega)
  rw [hc] at ht
  have hl : (el f c).length < (el f k).length := by rw [ht]; simp
  refine ⟨hl, ?_⟩
  have : (el f k)[(el f c).length]? = some j := by rw [ht, List.append_assoc, List.getElem?_append_right (Nat.le_refl _), Nat.sub_self]; rfl
  rw [List.getElem?_eq_getElem hl] at this
  exact Option.some.inj this
set_option maxRecDepth 100000 in
set_option maxHeartbeats 4000000 in
/-- All's closure hands out the set's bytes, ascending. -/
theorem all1_told (n : Nat) (hn : 1 ≤ n) (Bs : Nat) (s : BitVec 256) (I : Nat → World → Prop) (hI : ∀ k W, I k W → Tab W ∧ SetAt Bs s W ∧ Bs < W.heap.size ∧ 0 < W.heap.size) :
    ToldBy Fence.wide n Tryd.prog 97 #[.pointer (some ⟨Bs, 0, none⟩)] (fun x : Nat => #[Value.int .u8 (x : Nat)]) (el s.getLsbD 256) I := by
  intro l J W hJ hJb hY h0
  have HI := Lib.hid (fun k W h => hI k W (hJ k W h))
  have HJB := Lib.hid hJb
  have HY := Lib.hid hY
  clear hI hJ hJb hY
  obtain ⟨hT, ⟨c0, c1, c2, c3⟩, hBs, hg⟩ := HI.out 0 W h0
  have HT := Lib.hid hT
  have HJ0 := Lib.hid h0
  clear hT h0
  refine callsIn_of_wp Tryd.func97 rfl trivial ?_ rfl
  simp only [Tryd.ntmps97, List.size_toArray, List.length_cons, List.length_nil, Nat.reduceAdd, Nat.reduceSub, Array.replicate_succ, Array.replicate_zero, List.push_toArray, List.append_toArray, List.nil_append, List.cons_append]
  gi_wp2_with (refine ⟨trivial, ?_⟩; gi_at_call 88; refine (callsIn_wide.2 (next_calls s _ _ (by omega) HT.out (by omega))).mono ?_; rintro e w1 ⟨rfl, hb1⟩)
  have HJ1 := Lib.hid (HJB.out _ _ _ HJ0.out hb1)
  clear hb1 c0 c1 c2 c3 HT hBs hg HJ0
  gi_loopw [3] (fun b wr => ∃ k : Nat, k ≤ 256 ∧ b = .int .i64 (nextOf s.getLsbD k) ∧ J (el s.getLsbD k).length wr)
    (fun b _ => if intOf b < 0 then 0 else (257 - intOf b).toNat)
  case atStart => exact ⟨0, Nat.zero_le _, rfl, HJ1.out⟩
  case round =>
    obtain ⟨k, hk, rfl, hJs⟩ := hrel
    clear HJ1
    rcases nextOf_cases s.getLsbD k with ⟨e1, hf⟩ | ⟨j, e1, hkj, hj, hfj, hlt⟩
    · rw [e1]
      have HF := Lib.hid hf
      clear hf e1
      gi_wp2
      go_end0
      refine ⟨⟨_, rfl⟩, ?_⟩
      rw [el_skip _ hk (fun i h1 h2 => HF.out i h1 h2)]
      exact hJs
    · rw [e1]
      have e2 : el s.getLsbD (j + 1) = el s.getLsbD k ++ [j] := by rw [el_succ, hfj, el_skip _ hkj hlt]; rfl
      obtain ⟨hl, hat⟩ := el_at s.getLsbD j 256 hj k e2
      have hy0 := HY.out _ hl wr hJs
      rw [hat] at hy0
      obtain ⟨fn, tmps, assign, body, hy, hR⟩ := hy0
      have HE := Lib.hid (show (el s.getLsbD (j + 1)).length = (el s.getLsbD k).length + 1 by rw [e2]; simp)
      clear e1 e2 hlt hfj hl hat HY
      gi_wp2_with fail
      refine hR.mono ?_
      rintro e W3 ⟨rfl, hJ3⟩
      obtain ⟨hT3, ⟨d0, d1, d2, d3⟩, hB3, hg3⟩ := HI.out _ _ hJ3
      have HT3 := Lib.hid hT3
      have HJ3 := Lib.hid hJ3
      clear hT3 hJ3
      gi_wp2_with (refine ⟨trivial, ?_⟩; gi_at_call 88; refine (callsIn_wide.2 (next_calls s _ _ (by omega) HT3.out (by omega))).mono ?_; rintro e w4 ⟨rfl, hb4⟩)
      go_roundw
      case rel =>
        refine ⟨j + 1, by omega, rfl, ?_⟩
        rw [HE.out]; exact HJB.out _ _ _ HJ3.out hb4
      case measure =>
        rcases nextOf_cases s.getLsbD (j + 1) with ⟨e1, _⟩ | ⟨j', e1, h1, h2, _⟩
        · rw [e1]
          show (if (-1 : Int) < 0 then 0 else _) < (if (j : Int) < 0 then 0 else (257 - (j : Int)).toNat)
          rw [if_pos (by decide), if_neg (show ¬ (j : Int) < 0 by omega)]; omega
        · rw [e1]
          show (if (j' : Int) < 0 then 0 else (257 - (j' : Int)).toNat) < (if (j : Int) < 0 then 0 else (257 - (j : Int)).toNat)
          rw [if_neg (show ¬ (j' : Int) < 0 by omega), if_neg (show ¬ (j : Int) < 0 by omega)]; omega
set_option maxHeartbeats 1000000 in
/-- Backward: the slice is boxed. -/
theorem back_in (n : Nat) (v : Value) (a : Option Addr) (m c : Nat) (hv : v = .slice a m c) (w : World) :
    CallsIn Fence.wide n Tryd.prog 92 #[v] w fun e w' => e = .returned (.func (.func 107) #[] #[.pointer (some ⟨w.heap.size, 0, none⟩)]) ∧ w' = w.alloc (.cells #[v] 112) := by
  subst hv
  refine callsIn_of_wp Tryd.func92 rfl trivial ?_ rfl
  simp only [Tryd.ntmps92, List.size_toArray, List.length_cons, List.length_nil, Nat.reduceAdd, Nat.reduceSub, Array.replicate_succ, Array.replicate_zero, List.push_toArray, List.append_toArray, List.nil_append, List.cons_append]
  gi_wp2
  go_ret
  exact ⟨rfl, rfl⟩
/-- The places, from the last one on. -/
def downL (n : Nat) : List Nat := (List.range (n + 1)).map fun k => n - k
theorem downL_len (n : Nat) : (downL n).length = n + 1 := by simp [downL]
theorem downL_get (n k : Nat) (hk : k < (downL n).length) : (downL n)[k] = n - k := by simp [downL]
set_option maxRecDepth 100000 in
set_option maxHeartbeats 4000000 in
/-- Backward's closure hands out the places and their sets, from the last one on. -/
theorem back1_told (m : Nat) (hm : 1 ≤ m) (Bs B o n : Nat) (hn : n ≤ 64) (f : Nat → BitVec 256) (I : Nat → World → Prop)
    (hI : ∀ k W, I k W → W.cell? ⟨Bs, 0, none⟩ = some (.slice (some ⟨B, o, none⟩) (n + 1) 65) ∧ (k ≤ n →
      W.cell? ⟨B, o + (n - k) * 4, none⟩ = some (.int .u64 (wd (f (n - k)) 0 : Nat)) ∧ W.cell? ⟨B, o + (n - k) * 4 + 1, none⟩ = some (.int .u64 (wd (f (n - k)) 1 : Nat)) ∧
      W.cell? ⟨B, o + (n - k) * 4 + 2, none⟩ = some (.int .u64 (wd (f (n - k)) 2 : Nat)) ∧ W.cell? ⟨B, o + (n - k) * 4 + 3, none⟩ = some (.int .u64 (wd (f (n - k)) 3 : Nat)))) :
    ToldBy Fence.wide m Tryd.prog 107 #[.pointer (some ⟨Bs, 0, none⟩)] (fun x : Nat => #[Value.int .i64 (x : Nat), setV (f x)]) (downL n) I := by
  intro l J W hJ hJb hY h0
  have HI := Lib.hid (fun k W h => hI k W (hJ k W h))
  have HJB := Lib.hid hJb
  have HLN := Lib.hid (downL_len n)
  have HDG := Lib.hid (downL_get n)
  have HY := Lib.hid hY
  clear hI hJ hJb hY
  obtain ⟨cb, _⟩ := HI.out 0 W h0
  have HJ0 := Lib.hid h0
  clear h0
  refine callsIn_of_wp Tryd.func107 rfl trivial ?_ rfl
  simp only [Tryd.ntmps107, List.size_toArray, List.length_cons, List.length_nil, Nat.reduceAdd, Nat.reduceSub, Array.replicate_succ, Array.replicate_zero, List.push_toArray, List.append_toArray, List.nil_append, List.cons_append]
  have xn : IntKind.i64.wrap ((n : Int) + 1 - 1) = (n : Int) := by rw [show (n : Int) + 1 - 1 = n by omega]; exact IntWalk.i64_in _ (by omega)
  have xn2 : IntKind.i64.wrap (n : Int) = (n : Int) := IntWalk.i64_in _ (by omega)
  gi_wp2
  clear cb
  gi_loopw [3] (fun b wr => ∃ k : Nat, k ≤ n + 1 ∧ b = .int .i64 ((n : Int) - k) ∧ J k wr)
    (fun b _ => (intOf b + 1).toNat)
  case atStart => exact ⟨0, Nat.zero_le _, by simp, HJ0.out⟩
  case round =>
    obtain ⟨k, hk, rfl, hJs⟩ := hrel
    clear HJ0 xn xn2
    by_cases hkn : k ≤ n
    · obtain ⟨cb, hc⟩ := HI.out k wr hJs
      obtain ⟨c0, c1, c2, c3⟩ := hc hkn
      have hkl : k < (downL n).length := by rw [HLN.out]; omega
      have hy0 := HY.out k hkl wr hJs
      rw [HDG.out k hkl] at hy0
      obtain ⟨i, hi⟩ : ∃ i, n - k = i := ⟨_, rfl⟩
      have hni : (n : Int) - k = (i : Int) := by omega
      rw [hni]
      rw [hi] at c0 c1 c2 c3 hy0
      have hin : i < n + 1 := by omega
      have hin2 : (i : Int) < (n : Int) + 1 := by omega
      have xi : IntKind.i64.wrap ((i : Int) - 1) = (i : Int) - 1 := IntWalk.i64_in _ (by omega)
      obtain ⟨fn, tmps, assign, body, hy, hR⟩ := hy0
      clear hc HY
      gi_wp2_with fail
      refine hR.mono ?_
      rintro e W3 ⟨rfl, hJ3⟩
      have HJ3 := Lib.hid hJ3
      clear hJ3
      gi_wp2
      go_roundw
      case rel => exact ⟨k + 1, by omega, congrArg _ (by omega), HJ3.out⟩
      case measure => simp [intOf]
    · obtain rfl : k = n + 1 := by omega
      have hm1 : (n : Int) - ((n + 1 : Nat) : Int) = -1 := by omega
      rw [hm1]
      gi_wp2
      go_end0
      refine ⟨⟨_, rfl⟩, ?_⟩
      rw [HLN.out]; exact hJs
end Go.Proofs.YtdpkhliojbeglaaDoor

/- The developers' then: a range over a set's bytes within a range over places, from the last one on. Stage 15. -/
namespace Go.Proofs.YtdpkhliojbeglaaDoor
open Go.RowKit Go.Shelf BS
attribute [local go_sem] Oper.semAt_some

/-- The rows behind k rounds: the last k places of row q are told. -/
def thR (f : Nat → Nat → BitVec 256) (q n : Nat) (T : Nat → BitVec 256) (k : Nat) : Nat → Nat → BitVec 256 := fun q' i' => if q' = q ∧ n + 1 - k ≤ i' ∧ i' ≤ n then T i' else f q' i'
theorem thR_zero (f : Nat → Nat → BitVec 256) (q n : Nat) (T : Nat → BitVec 256) : thR f q n T 0 = f := by funext q' i'; unfold thR; rw [if_neg (by omega)]
theorem thR_at (f : Nat → Nat → BitVec 256) (q n : Nat) (T : Nat → BitVec 256) (k : Nat) (hk : k ≤ n) : thR f q n T k q (n - k) = f q (n - k) := by unfold thR; rw [if_neg (by omega)]
theorem thR_succ (f : Nat → Nat → BitVec 256) (q n : Nat) (T : Nat → BitVec 256) (k : Nat) (hk : k ≤ n) : updR (thR f q n T k) q (n - k) (T (n - k)) = thR f q n T (k + 1) := by
  funext q' i'
  unfold updR thR
  by_cases h : q' = q ∧ i' = n - k
  · obtain ⟨rfl, rfl⟩ := h
    rw [if_pos ⟨rfl, rfl⟩, if_pos ⟨rfl, by omega, by omega⟩]
  · rw [if_neg h]
    by_cases h2 : q' = q ∧ n + 1 - k ≤ i' ∧ i' ≤ n
    · rw [if_pos h2, if_pos ⟨h2.1, by omega, h2.2.2⟩]
    · rw [if_neg h2, if_neg (by omega)]
theorem thR_end (f : Nat → Nat → BitVec 256) (q n : Nat) (T : Nat → BitVec 256) : thR f q n T (n + 1) = putR f q (n + 1) T := by
  funext q' i'
  unfold thR putR
  by_cases h : q' = q ∧ i' < n + 1
  · rw [if_pos h, if_pos ⟨h.1, by omega, by omega⟩]
  · rw [if_neg h, if_neg (by omega)]
/-- What the row next tells while place i is reckoned. -/
def nxR (f : Nat → Nat → BitVec 256) (q p i : Nat) (T : Nat → BitVec 256) (m : Nat) : BitVec 256 := if p = q then (if m = i then f q i else T m) else f p m
theorem thR_next (f : Nat → Nat → BitVec 256) (q p n : Nat) (T : Nat → BitVec 256) (k m : Nat) (hk : k ≤ n) (hm : n - k ≤ m) (hmn : m ≤ n) : thR f q n T k p m = nxR f q p (n - k) T m := by
  unfold thR nxR
  by_cases hpq : p = q
  · subst hpq
    rw [if_pos rfl]
    by_cases h : m = n - k
    · rw [if_pos h, if_neg (by omega), h]
    · rw [if_neg h, if_pos ⟨rfl, by omega, hmn⟩]
  · rw [if_neg (by omega), if_neg hpq]
theorem uni_take (g : Nat → BitVec 256) (l : List Nat) (j : Nat) (hj : j < l.length) : uniL g (l.take (j + 1)) = uniL g (l.take j) ||| g l[j] := by
  rw [← uniL_snoc]; congr 1; simp
theorem Tab.kpA {A : Nat → Prop} {W W' : World} (h : Tab W) (k : KpA A W W') (hg : 0 < W.heap.size) (hA : ¬ A 0) : Tab W' := fun j hj => (k.cell hg hA j).trans (h j hj)
theorem ownFrom_kpA {A : Nat → Prop} {w : World} {B : Nat} (hB : w.heap.size ≤ B) : OwnFrom B (fun (_ : Nat) W => KpA A w W) := fun _ _ _ _ hs hg hr => hs.grown hg fun k e => .inr (by have := (hr k e).1; omega)
theorem ownFrom_rowD {L B : Nat} {g : Nat → Nat → Nat → BitVec 256} {B0 : Nat} : OwnFrom B0 (fun (k : Nat) W => RowD L B (g k) W) := fun _ _ _ _ hs hg hr => by
  obtain ⟨vs, h1, h2, h3⟩ := hs
  exact ⟨vs, h1, h2.kept hg (h2.not_row fun r e => (hr r e).2), h3⟩
theorem ownFrom_blk {B b : Nat} {f : Nat → Array Value} {t : TypeId} : OwnFrom B (fun (k : Nat) W => Blk W b (f k) t) := (Blk.own b f t).from B
theorem keeps_of_below {B : Nat} {W W' : World} (h : Below W.heap.size W W') : KeepsFrom B W W' := KeepsFrom.of_grownBy (grown_of_below h) (fun j e => by cases e)
theorem keeps_cells {W : World} : ∀ (us : List Value) (g o : Nat), KeepsOthers W (W.setCells g o us)
  | [], _, _ => KeepsOthers.refl W
  | v :: r, g, o => by
    have h1 := KeepsOthers.setCell W ⟨g, o, none⟩ v
    exact h1.trans (keeps_cells r g (o + 1))
theorem Blk.setA4 {W : World} {g : Nat} {s : BitVec 256} {t : TypeId} (h : Blk W g (setA s) t) (s' : BitVec 256) : Blk (W.setCells g 0 (setL4 s')) g (setA s') t := h.setCells (setL4 s') 0
/-- The state of the outer loop. -/
structure ThO (L B q p n : Nat) (f : Nat → Nat → BitVec 256) (T : Nat → BitVec 256) (W0 : World) (k : Nat) (W : World) : Prop where
  row : RowD L B (thR f q n T k) W
  kp : KpA (fun x => x = B) W0 W
  be : Blk W W0.heap.size #[.slice (some ⟨B, q * 260, none⟩) (n + 1) 65] 112
  bn : Blk W (W0.heap.size + 1) #[.slice (some ⟨B, p * 260, none⟩) (n + 1) 65] 112
  bb : Blk W (W0.heap.size + 2) #[.slice (some ⟨B, q * 260, none⟩) (n + 1) 65] 112
theorem ThO.own {L B q p n : Nat} {f : Nat → Nat → BitVec 256} {T : Nat → BitVec 256} {W0 : World} {B0 : Nat} (hB : W0.heap.size ≤ B0) : OwnFrom B0 (ThO L B q p n f T W0) := fun k W W' row hs hg hr =>
  ⟨ownFrom_rowD (g := thR f q n T) k W W' row hs.row hg hr, ownFrom_kpA hB k W W' row hs.kp hg hr, hs.be.kept hg (hs.be.not_row fun r e => (hr r e).2), hs.bn.kept hg (hs.bn.not_row fun r e => (hr r e).2), hs.bb.kept hg (hs.bb.not_row fun r e => (hr r e).2)⟩
theorem ThO.below {L B q p n : Nat} {f : Nat → Nat → BitVec 256} {T : Nat → BitVec 256} {W0 W W' : World} {k : Nat} (h : ThO L B q p n f T W0 k W) (hb : Below W.heap.size W W') : ThO L B q p n f T W0 k W' :=
  ⟨h.row.below hb, h.kp.below hb, h.be.below hb h.be.lt, h.bn.below hb h.bn.lt, h.bb.below hb h.bb.lt⟩
/-- A block that is none of them may be written. -/
theorem ThO.cells {L B q p n : Nat} {f : Nat → Nat → BitVec 256} {T : Nat → BitVec 256} {W0 W : World} {k : Nat} (h : ThO L B q p n f T W0 k W) (g o : Nat) (us : List Value) (hg : W0.heap.size + 3 ≤ g) (hgB : g ≠ B) : ThO L B q p n f T W0 k (W.setCells g o us) :=
  ⟨h.row.keep (setCells_heap g us o W B (Ne.symm hgB)), h.kp.setCells (.inr (by omega)) o us, h.be.otherCells (by omega) o us, h.bn.otherCells (by omega) o us, h.bb.otherCells (by omega) o us⟩
set_option maxRecDepth 100000 in
set_option maxHeartbeats 16000000 in
theorem then_calls (L n B q p : Nat) (f : Nat → Nat → BitVec 256) (T : Nat → BitVec 256) (hn : n ≤ 64) (hq : q < L) (hp : p < L) (hf : ∀ i, i ≤ n → ∀ m, (f q i).getLsbD m = true → i ≤ m ∧ m ≤ n)
    (hT : ∀ i, i ≤ n → T i = uniL (nxR f q p i T) (el (f q i).getLsbD 256)) (W : World) (hR : RowD L B f W) (hTab : Tab W) (hgB : 0 < B) :
    Calls Tryd.prog 74 #[.slice (some ⟨B, q * 260, none⟩) (n + 1) 65, .slice (some ⟨B, p * 260, none⟩) (n + 1) 65] W fun e W' => (∃ v, e = .returned v) ∧ RowD L B (putR f q (n + 1) T) W' ∧ KpA (fun k => k = B) W W' := by
  have hBW := hR.lt
  have HT := Lib.hid hTab
  have HTT := Lib.hid hT
  have HF := Lib.hid hf
  have hgW : 0 < W.heap.size := by omega
  have hgne : 0 ≠ B := by omega
  refine (callsIn_wide (n := 9)).1 (callsIn_of_wp_marks Tryd.func74 rfl trivial ?_ rfl)
  simp only [Tryd.ntmps74, List.size_toArray, List.length_cons, List.length_nil, Nat.reduceAdd, Nat.reduceSub, Array.replicate_succ, Array.replicate_zero, List.push_toArray, List.append_toArray, List.nil_append, List.cons_append]
  have h0 : ThO L B q p n f T W 0 (((W.alloc (.cells #[.slice (some ⟨B, q * 260, none⟩) (n + 1) 65] 112)).alloc (.cells #[.slice (some ⟨B, p * 260, none⟩) (n + 1) 65] 112)).alloc (.cells #[.slice (some ⟨B, q * 260, none⟩) (n + 1) 65] 112)) := by
    have b1 := Blk.new W #[.slice (some ⟨B, q * 260, none⟩) (n + 1) 65] 112
    have b2 := Blk.new (W.alloc (.cells #[.slice (some ⟨B, q * 260, none⟩) (n + 1) 65] 112)) #[.slice (some ⟨B, p * 260, none⟩) (n + 1) 65] 112
    have b3 := Blk.new ((W.alloc (.cells #[.slice (some ⟨B, q * 260, none⟩) (n + 1) 65] 112)).alloc (.cells #[.slice (some ⟨B, p * 260, none⟩) (n + 1) 65] 112)) #[.slice (some ⟨B, q * 260, none⟩) (n + 1) 65] 112
    rw [World.size_alloc] at b2
    rw [World.size_alloc, World.size_alloc] at b3
    exact ⟨by rw [thR_zero]; exact ((hR.alloc _).alloc _).alloc _, (((KpA.refl _ W).alloc _).alloc _).alloc _, (b1.alloc _).alloc _, b2.alloc _, b3⟩
  have hz0 : (((W.alloc (.cells #[.slice (some ⟨B, q * 260, none⟩) (n + 1) 65] 112)).alloc (.cells #[.slice (some ⟨B, p * 260, none⟩) (n + 1) 65] 112)).alloc (.cells #[.slice (some ⟨B, q * 260, none⟩) (n + 1) 65] 112)).heap.size = W.heap.size + 3 := by simp only [World.size_alloc]
  gi_wp2_with (refine ⟨trivial, ?_⟩; gi_at_call 92; refine (back_in _ _ _ _ _ rfl _).mono ?_; rintro e w' ⟨rfl, rfl⟩)
  generalize (((W.alloc (.cells #[.slice (some ⟨B, q * 260, none⟩) (n + 1) 65] 112)).alloc (.cells #[.slice (some ⟨B, p * 260, none⟩) (n + 1) 65] 112)).alloc (.cells #[.slice (some ⟨B, q * 260, none⟩) (n + 1) 65] 112)) = w0 at *
  clear hR hTab hT hf
  refine wpIn_range_told rfl (by decide) (gf := 107) (lb := #[.pointer (some ⟨W.heap.size + 1 + 1, 0, none⟩)]) rfl trivial (enters_of Tryd.func107 (by kernel_rfl) rfl)
    (encs := fun x : Nat => #[Value.int .i64 (x : Nat), setV (f q x)]) (fun _ => rfl) (downL n) (ThO L B q p n f T W) (ThO.own (by omega)) h0
    (back1_told 8 (by decide) (W.heap.size + 2) B (q * 260) n hn (f q) _ (fun k W1 h => ⟨h.bb.cell 0, fun hk => by
      have hc := (h.row.cells4 q (n - k) hq (by omega)).1
      rw [thR_at _ _ _ _ _ hk] at hc
      exact hc⟩))
    (fun x a' W1 => ∃ b, a' = { tmps := #[.slice (some ⟨B, q * 260, none⟩) (n + 1) 65, .slice (some ⟨B, p * 260, none⟩) (n + 1) 65, .pointer (some ⟨W.heap.size, 0, none⟩), .pointer (some ⟨W.heap.size + 1, 0, none⟩), .int .i64 (x : Nat), .pointer (some ⟨b, 0, none⟩), undef, undef, .slice (some ⟨B, q * 260, none⟩) (n + 1) 65, .func (.func 107) #[] #[.pointer (some ⟨W.heap.size + 1 + 1, 0, none⟩)], .int .i64 (x : Nat), setV (f q x), undef, undef, undef, undef, undef, undef, undef, undef, undef, undef, undef, undef, undef], defers := [] } ∧ w0.heap.size ≤ b ∧ Blk W1 b (setA (f q x)) 58)
    (fun x a' s A A' row hs hg hr => by
      obtain ⟨b, e, hb, hk⟩ := hs
      exact ⟨b, e, hb, hk.kept hg (hk.not_row fun r e => (hr r e).2)⟩)
    ?assign ?body ?done
  case assign =>
    intro l k x W1 K hi hK
    have hsz : w0.heap.size ≤ W1.heap.size := by have := hi.bb.lt; omega
    gi_wp2
    exact hK _ _ ((KeepsOthers.alloc _ _).from _) (hi.below (by go_grown)) ⟨W1.heap.size, rfl, hsz, Blk.new W1 _ _⟩
  case body =>
    intro l k hk a' W1 hl hrec hi hax
    rw [downL_get] at hax
    rw [downL_len] at hk
    have hkn : k ≤ n := by omega
    obtain ⟨i, hin⟩ : ∃ i, n - k = i := ⟨_, rfl⟩
    rw [hin] at hax
    obtain ⟨b5, rfl, hb5, hk5⟩ := hax
    have hlr : l < W1.heap.size := by obtain ⟨r, hr⟩ := hrec; exact (Array.getElem?_eq_some_iff.1 hr).1
    obtain ⟨⟨c0, c1, c2, c3⟩, _⟩ := hk5.cells4
    have hS5 := hk5.lt
    gi_wp2_with (refine ⟨trivial, ?_⟩; gi_at_call 79; refine (CallsIn.inRound l (all_in _ _ _)).mono ?_; rintro e w' ⟨rfl, rfl⟩)
    have hk6 : Blk ((W1.alloc (.cells (setA 0) 58)).alloc (.cells (setA (f q i)) 58)) W1.heap.size (setA 0) 58 := (Blk.new W1 _ _).alloc _
    have hk13 : Blk ((W1.alloc (.cells (setA 0) 58)).alloc (.cells (setA (f q i)) 58)) (W1.heap.size + 1) (setA (f q i)) 58 := by have := Blk.new (W1.alloc (.cells (setA 0) 58)) (setA (f q i)) 58; rwa [World.size_alloc] at this
    have hi2 : ThO L B q p n f T W k ((W1.alloc (.cells (setA 0) 58)).alloc (.cells (setA (f q i)) 58)) := hi.below (by go_grown)
    have hk52 := (hk5.alloc (.cells (setA 0) 58)).alloc (.cells (setA (f q i)) 58)
    have hKF : KeepsFrom w0.heap.size W1 ((W1.alloc (.cells (setA 0) 58)).alloc (.cells (setA (f q i)) 58)) := ((KeepsOthers.alloc _ _).trans (KeepsOthers.alloc _ _)).from _
    have hzw : ((W1.alloc (.cells (setA 0) 58)).alloc (.cells (setA (f q i)) 58)).heap.size = W1.heap.size + 2 := by simp only [World.size_alloc]
    have e0 : ((W1.alloc (.cells #[.int .u64 0, .int .u64 0, .int .u64 0, .int .u64 0] 58)).alloc (.cells #[.int .u64 (wd (f q i) 0), .int .u64 (wd (f q i) 1), .int .u64 (wd (f q i) 2), .int .u64 (wd (f q i) 3)] 58)) = ((W1.alloc (.cells (setA 0) 58)).alloc (.cells (setA (f q i)) 58)) := by simp [setA, wd]
    rw [e0]
    clear e0
    generalize ((W1.alloc (.cells (setA 0) 58)).alloc (.cells (setA (f q i)) 58)) = w2 at *
    have HREC : Hid (∃ r₀, w2.heap[l]? = some (.loop r₀)) := Lib.hid (by obtain ⟨r, hr⟩ := hrec; exact ⟨r, hKF.same l _ hl hr rfl⟩)
    refine wpIn_range_toldN rfl (by decide) HREC.out (gf := 97) (lb := #[.pointer (some ⟨W1.heap.size + 1, 0, none⟩)]) rfl trivial (enters_of Tryd.func97 (by kernel_rfl) rfl)
      (encs := fun x : Nat => #[Value.int .u8 (x : Nat)]) (fun _ => rfl) (el (f q i).getLsbD 256)
      (fun j W2 => ThO L B q p n f T W k W2 ∧ Blk W2 b5 (setA (f q i)) 58 ∧ Blk W2 W1.heap.size (setA (uniL (nxR f q p i T) ((el (f q i).getLsbD 256).take j))) 58 ∧ Blk W2 (W1.heap.size + 1) (setA (f q i)) 58 ∧ KeepsFrom w0.heap.size W1 W2)
      (fun j A A' row hs hg hr => ⟨ThO.own (by omega) k A A' row hs.1 hg hr, hs.2.1.kept hg (hs.2.1.not_row fun r e => (hr r e).2), hs.2.2.1.kept hg (hs.2.2.1.not_row fun r e => (hr r e).2), hs.2.2.2.1.kept hg (hs.2.2.2.1.not_row fun r e => (hr r e).2), ownFrom_keepsFrom (β := Unit) (B := w0.heap.size) (B' := w2.heap.size) (w₀ := W1) (by omega) () A A' row hs.2.2.2.2 hg hr⟩)
      ⟨hi2, hk52, hk6, hk13, hKF⟩
      (ToldBy.inRound l (all1_told 6 (by decide) (W1.heap.size + 1) (f q i) _ (fun j W2 h => ⟨HT.out.kpA h.1.kp hgW hgne, h.2.2.2.1.cells4.1, h.2.2.2.1.lt, Nat.lt_of_lt_of_le hgW h.1.kp.size⟩)))
      (fun x a' W2 => a' = { tmps := #[.slice (some ⟨B, q * 260, none⟩) (n + 1) 65, .slice (some ⟨B, p * 260, none⟩) (n + 1) 65, .pointer (some ⟨W.heap.size, 0, none⟩), .pointer (some ⟨W.heap.size + 1, 0, none⟩), .int .i64 (i : Nat), .pointer (some ⟨b5, 0, none⟩), .pointer (some ⟨W1.heap.size, 0, none⟩), .int .u8 (x : Nat), .slice (some ⟨B, q * 260, none⟩) (n + 1) 65, .func (.func 107) #[] #[.pointer (some ⟨W.heap.size + 1 + 1, 0, none⟩)], .int .i64 (i : Nat), setV (f q i), .agg #[.int .u64 (wd (f q i) 0), .int .u64 (wd (f q i) 1), .int .u64 (wd (f q i) 2), .int .u64 (wd (f q i) 3)], .func (.func 97) #[] #[.pointer (some ⟨W1.heap.size + 1, 0, none⟩)], .int .u8 (x : Nat), undef, undef, undef, undef, undef, undef, undef, undef, undef, undef], defers := [] })
      (fun x a' s A A' row hs hg hr => hs) ?assign2 ?body2 ?done2
    case assign2 =>
      intro l2 j x W2 K hi hK
      gi_wp2
      exact hK _ _ (KeepsFrom.refl _ _) hi rfl
    case body2 =>
      rintro l2 j hj a2 W2 hl2 - ⟨hO, hk5', hk6', hk13', hKF'⟩ rfl
      obtain ⟨hm256, hms⟩ := (mem_el _ _ _).1 (List.getElem_mem hj)
      obtain ⟨him, hmn⟩ := HF.out i (by omega) _ hms
      have HU := Lib.hid (uni_take (nxR f q p i T) (el (f q i).getLsbD 256) j hj)
      have hnx := thR_next f q p n T k (el (f q i).getLsbD 256)[j] hkn (by omega) hmn
      rw [hin] at hnx
      generalize (el (f q i).getLsbD 256)[j] = m at *
      have cn := hO.bn.cell 0
      have ce := hO.be.cell 0
      obtain ⟨⟨c0, c1, c2, c3⟩, _⟩ := hO.row.cells4 p m hp (by omega)
      rw [hnx] at c0 c1 c2 c3
      obtain ⟨⟨d0, d1, d2, d3⟩, _⟩ := hk6'.cells4
      have HO := Lib.hid hO
      have HK5 := Lib.hid hk5'
      have HK6 := Lib.hid hk6'
      have HK13 := Lib.hid hk13'
      have HKF := Lib.hid hKF'
      have hmn1 : m < n + 1 := by omega
      have hmn2 : (m : Int) < (n : Int) + 1 := by omega
      have hzz : W1.heap.size + 2 ≤ W2.heap.size := by have := hk13'.lt; omega
      generalize uniL (nxR f q p i T) ((el (f q i).getLsbD 256).take j) = t at *
      generalize nxR f q p i T m = u at *
      clear hnx hO hk5' hk6' hk13' hKF' hk6 hk13 hi2 hk52 hKF hi hk5 h0
      have hmx : Tryd.prog.follows .mixedOrders = true := by kernel_rfl
      gi_wp2
      gi_region_with_o (refine ⟨trivial, ?_⟩; gi_at_call 93; refine (CallsIn.inRound l2 (CallsIn.inRound l (callsIn_wide.2 (or_calls t u _)))).mono ?_; rintro e w3 ⟨rfl, hb3⟩; obtain ⟨⟨d0', d1', d2', d3'⟩, g0, g1, g2, g3⟩ := (HK6.out.drew.below hb3 HK6.out.lt).cells4)
      all_goals
        have hb3 : Below W2.heap.size W2 w3 := ((Below.refl W2.heap.size W2).drew).trans hb3
        have HO3 := HO.out.below hb3
        have HB3 := HK6.out.below hb3 HK6.out.lt
        have HK53 := HK5.out.below hb3 HK5.out.lt
        have HK133 := HK13.out.below hb3 HK13.out.lt
        have hkf : KeepsFrom w0.heap.size W2 (w3.setCells W1.heap.size 0 (setL4 (t ||| u))) := (keeps_of_below hb3).trans ((keeps_cells _ _ _).from _)
        have hT6 : Blk (w3.setCells W1.heap.size 0 (setL4 (t ||| u))) W1.heap.size (setA (uniL (nxR f q p i T) ((el (f q i).getLsbD 256).take (j + 1)))) 58 := by
          rw [HU.out]; exact HB3.setA4 (t ||| u)
        have hres := And.intro (HO3.cells W1.heap.size 0 (setL4 (t ||| u)) (by omega) (by omega)) (And.intro (HK53.otherCells (show b5 ≠ W1.heap.size by omega) 0 (setL4 (t ||| u))) (And.intro hT6 (And.intro (HK133.otherCells (show W1.heap.size + 1 ≠ W1.heap.size by omega) 0 (setL4 (t ||| u))) (HKF.out.trans hkf))))
        rw [hz0] at hres
        have HRES := Lib.hid hres
        have HKR := Lib.hid (show KeepsFrom (W1.heap.size + 2) W2 (w3.setCells W1.heap.size 0 (setL4 (t ||| u))) from (keeps_of_below hb3).trans ((keeps_cells _ _ _).from _))
        clear hres hkf hT6 HO3 HB3 HK53 HK133 hb3
        gi_wp2
        exact ⟨HKR.out, HRES.out⟩
    case done2 =>
      rintro W3 ⟨hO, hk5', hk6', hk13', hKF'⟩
      rw [List.take_length, ← HTT.out i (by omega)] at hk6'
      have ce := hO.be.cell 0
      obtain ⟨⟨d0, d1, d2, d3⟩, _⟩ := hk6'.cells4
      obtain ⟨⟨c0, c1, c2, c3⟩, f0, f1, f2, f3⟩ := hO.row.cells4 q i hq (by omega)
      have hin2 : i < n + 1 := by omega
      have hin3 : (i : Int) < (n : Int) + 1 := by omega
      have hrow := hO.row.set q i (T i) hq (by omega)
      have hsu := thR_succ f q n T k hkn
      rw [hin] at hsu
      rw [hsu] at hrow
      have hres : ThO L B q p n f T W (k + 1) (W3.setCells B (q * 260 + i * 4) (setL4 (T i))) := ⟨hrow, hO.kp.setCells (.inl rfl) _ _, hO.be.otherCells (by omega) _ _, hO.bn.otherCells (by omega) _ _, hO.bb.otherCells (by omega) _ _⟩
      have HRES := Lib.hid hres
      have HKR := Lib.hid (show KeepsFrom (W.heap.size + 3) W1 (W3.setCells B (q * 260 + i * 4) (setL4 (T i))) from by rw [hz0] at hKF'; exact hKF'.trans ((keeps_cells _ _ _).from _))
      clear hres hrow hsu hO hk5' hk6' hk13' hKF' hk6 hk13 hi2 hk52 hKF hi hk5 h0
      generalize T i = s at *
      gi_wp2
      exact ⟨HKR.out, HRES.out⟩
  case done =>
    rintro D W1 hD hI hK
    rw [downL_len] at hI
    have hr := hI.row
    rw [thR_end] at hr
    gi_wp2
    refine ⟨by simp, .inl ⟨_, _, rfl, run_takeDeferred hK, ?_⟩⟩
    exact ⟨_, results_none rfl _ _ _, ⟨_, rfl⟩, hr.keep (World.putObj_heap_other (by omega)), hI.kp.grown (grownBy_putObj' W1 D _) (fun k e => .inr (by cases e; omega))⟩
end Go.Proofs.YtdpkhliojbeglaaDoor

/- The developers' or. Stage 15. -/
namespace Go.Proofs.YtdpkhliojbeglaaDoor
open Go.RowKit BS

set_option maxRecDepth 100000 in
set_option maxHeartbeats 16000000 in
theorem orE_calls (L n B q p : Nat) (f : Nat → Nat → BitVec 256) (hn : n ≤ 64) (hq : q < L) (hp : p < L) (hpq : p ≠ q) (W : World) (hR : RowD L B f W) :
    Calls Tryd.prog 75 #[.slice (some ⟨B, q * 260, none⟩) (n + 1) 65, .slice (some ⟨B, p * 260, none⟩) (n + 1) 65] W fun e W' => (∃ v, e = .returned v) ∧ RowD L B (putR f q (n + 1) (fun i => f q i ||| f p i)) W' ∧ KpA (fun k => k = B) W W' := by
  have HZ := Lib.hid (putR_zero f q (fun i => f q i ||| f p i))
  have HA := Lib.hid (putR_at f q · (fun i => f q i ||| f p i))
  have HP := Lib.hid (show ∀ k i, putR f q k (fun i => f q i ||| f p i) p i = f p i from fun k i => by unfold putR; rw [if_neg (by omega)])
  have HR := Lib.hid hR
  clear hR
  go_enter Tryd.func75, Tryd.ntmps75
  go_wp2_with fail
  go_loopw [8] (fun vi wr => ∃ i : Nat, i ≤ n + 1 ∧ vi = .int .i64 i ∧ RowD L B (putR f q i (fun i => f q i ||| f p i)) wr ∧ KpA (fun k => k = B) W wr) (fun vi _ => n + 1 - (intOf vi).toNat)
  case atStart => exact ⟨0, Nat.zero_le _, rfl, by rw [HZ.out]; exact HR.out, KpA.refl _ _⟩
  case round =>
    obtain ⟨i, hi, rfl, hr, hK⟩ := hrel
    by_cases hlt : i < n + 1
    · have p2 : decide (i < n + 1) = true := decide_eq_true hlt
      have p4 : (i : Int) < (n : Int) + 1 := by omega
      have p5 : decide ((i : Int) < (n : Int) + 1) = true := decide_eq_true p4
      have xi : IntKind.i64.wrap ((i : Int) + 1) = (i : Int) + 1 := IntWalk.i64_in _ (by omega)
      have HR1 := Lib.hid hr
      have HK := Lib.hid hK
      have hBl := hr.lt
      obtain ⟨⟨c0, c1, c2, c3⟩, _⟩ := hr.cells4 p i hp (by omega)
      rw [HP.out i i] at c0 c1 c2 c3
      have HPU := Lib.hid (show ∀ W : World, RowD L B (putR f q i (fun i => f q i ||| f p i)) W → RowD L B (putR f q (i + 1) (fun i => f q i ||| f p i)) (W.setCells B (q * 260 + i * 4) (setL4 (f q i ||| f p i))) from fun W h => h.putS (s := f q i ||| f p i) hq (by omega) rfl)
      have HE1 : Hid (f q i = f q i) := Lib.hid rfl
      obtain ⟨s2, hs2⟩ : ∃ s, f p i = s := ⟨_, rfl⟩
      obtain ⟨s1, hs1⟩ : ∃ s, f q i = s := ⟨_, rfl⟩
      rw [hs2] at c0 c1 c2 c3
      rw [hs1, hs2] at HPU
      clear HE1
      have HE1 := Lib.hid hs1
      clear hs1 hs2
      clear hr hK HP
      go_upto_region 3 with fail
      have HR2 := Lib.hid (HR1.out.alloc (.cells #[.int .u64 (wd s2 0), .int .u64 (wd s2 1), .int .u64 (wd s2 2), .int .u64 (wd s2 3)] 58))
      have HK2 := Lib.hid (HK.out.alloc (.cells #[.int .u64 (wd s2 0), .int .u64 (wd s2 1), .int .u64 (wd s2 2), .int .u64 (wd s2 3)] 58))
      have HB2 := Lib.hid (Blk.new wr #[.int .u64 (wd s2 0), .int .u64 (wd s2 1), .int .u64 (wd s2 2), .int .u64 (wd s2 3)] 58)
      generalize wr.alloc (.cells #[.int .u64 (wd s2 0), .int .u64 (wd s2 1), .int .u64 (wd s2 2), .int .u64 (wd s2 3)] 58) = w2 at *
      refine region_stepsM (S := fun w' => RowD L B (putR f q i (fun i => f q i ||| f p i)) w' ∧ KpA (fun k => k = B) W w' ∧ Blk w' wr.heap.size #[.int .u64 (wd s2 0), .int .u64 (wd s2 1), .int .u64 (wd s2 2), .int .u64 (wd s2 3)] 58) (m := 9) rfl (by kernel_rfl) ⟨HR2.out.drew, HK2.out.drew, HB2.out.drew⟩ ?_
      simp only [List.size_toArray, List.length_cons, List.length_nil, Nat.reduceAdd, Array.replicate_succ, Array.replicate_zero, List.push_toArray, List.nil_append, List.cons_append]
      refine AnyM.next (m := 9) (i := 0) (d := some 13) (v := .slice (some ⟨B, q * 260, none⟩) (n + 1) 65) rfl rfl (by kernel_rfl) (by kernel_rfl) (by kernel_rfl) (by kernel_rfl) (StepsIf.yield (by kernel_rfl) (fun w' hS => by clear hS; go_simp)) ?_
      intro a' ha'
      simp only [Act.put, List.setIfInBounds_toArray, List.set_cons_zero, List.set_cons_succ] at ha'
      subst ha'
      refine AnyM.next (m := 9) (i := 1) (d := some 14) (v := .int .i64 (i : Nat)) rfl rfl (by kernel_rfl) (by kernel_rfl) (by kernel_rfl) (by kernel_rfl) (StepsIf.yield (by kernel_rfl) (fun w' hS => by clear hS; go_simp)) ?_
      intro a' ha'
      simp only [Act.put, List.setIfInBounds_toArray, List.set_cons_zero, List.set_cons_succ] at ha'
      subst ha'
      refine AnyM.next (m := 9) (i := 2) (d := some 15) (v := .slice (some ⟨B, q * 260, none⟩) (n + 1) 65) rfl rfl (by kernel_rfl) (by kernel_rfl) (by kernel_rfl) (by kernel_rfl) (StepsIf.yield (by kernel_rfl) (fun w' hS => by clear hS; go_simp)) ?_
      intro a' ha'
      simp only [Act.put, List.setIfInBounds_toArray, List.set_cons_zero, List.set_cons_succ] at ha'
      subst ha'
      refine AnyM.next (m := 9) (i := 3) (d := some 16) (v := .int .i64 (i : Nat)) rfl rfl (by kernel_rfl) (by kernel_rfl) (by kernel_rfl) (by kernel_rfl) (StepsIf.yield (by kernel_rfl) (fun w' hS => by clear hS; go_simp)) ?_
      intro a' ha'
      simp only [Act.put, List.setIfInBounds_toArray, List.set_cons_zero, List.set_cons_succ] at ha'
      subst ha'
      refine AnyM.next (m := 9) (i := 4) (d := some 17) (v := .pointer (some ⟨B, q * 260 + i * 4, none⟩)) rfl rfl (by kernel_rfl) (by kernel_rfl) (by kernel_rfl) (by kernel_rfl) (StepsIf.yield (by kernel_rfl) (fun w' hS => by clear hS; go_simp)) ?_
      intro a' ha'
      simp only [Act.put, List.setIfInBounds_toArray, List.set_cons_zero, List.set_cons_succ] at ha'
      subst ha'
      refine AnyM.next (m := 9) (i := 5) (d := some 18) (v := .agg #[.int .u64 (wd s1 0 : Nat), .int .u64 (wd s1 1 : Nat), .int .u64 (wd s1 2 : Nat), .int .u64 (wd s1 3 : Nat)]) rfl rfl (by kernel_rfl) (by kernel_rfl) (by kernel_rfl) (by kernel_rfl) (StepsIf.load_mid (by kernel_rfl) 58 _ rfl B (q * 260 + i * 4) rfl (setL4 (s1)) _ rfl _ (fun w' hS => by have e := hS.1.rangeAt q i hq (by omega); rw [HA.out i, HE1.out] at e; exact e) Tryd.underlying58 rfl (by kernel_rfl)) ?_
      intro a' ha'
      simp only [Act.put, List.setIfInBounds_toArray, List.set_cons_zero, List.set_cons_succ] at ha'
      subst ha'
      refine AnyM.next (m := 9) (i := 6) (d := some 19) (v := .agg #[.int .u64 (wd s2 0 : Nat), .int .u64 (wd s2 1 : Nat), .int .u64 (wd s2 2 : Nat), .int .u64 (wd s2 3 : Nat)]) rfl rfl (by kernel_rfl) (by kernel_rfl) (by kernel_rfl) (by kernel_rfl) (StepsIf.yield (by kernel_rfl) (fun w' hS => by obtain ⟨⟨b0, b1, b2, b3⟩, _⟩ := hS.2.2.cells4; clear hS; go_simp)) ?_
      intro a' ha'
      simp only [Act.put, List.setIfInBounds_toArray, List.set_cons_zero, List.set_cons_succ] at ha'
      subst ha'
      refine AnyM.next (m := 9) (i := 7) (d := some 20) (v := setV (s1 ||| s2)) rfl rfl (by kernel_rfl) (by kernel_rfl) (by kernel_rfl) (by kernel_rfl) (StepsIf.call (by kernel_rfl) (fun w' hS => by clear hS; go_simp) (fun w' hS => (or_calls s1 s2 w').mono fun e w'' h => ⟨h.1, hS.1.below h.2, hS.2.1.below h.2, hS.2.2.below h.2 hS.2.2.lt⟩)) ?_
      intro a' ha'
      simp only [Act.put, List.setIfInBounds_toArray, List.set_cons_zero, List.set_cons_succ] at ha'
      subst ha'
      refine AnyM.next (m := 9) (i := 8) (d := some 21) (v := .pointer (some ⟨B, q * 260 + i * 4, none⟩)) rfl rfl (by kernel_rfl) (by kernel_rfl) (by kernel_rfl) (by kernel_rfl) (StepsIf.yield (by kernel_rfl) (fun w' hS => by clear hS; go_simp)) ?_
      intro a' ha'
      simp only [Act.put, List.setIfInBounds_toArray, List.set_cons_zero, List.set_cons_succ] at ha'
      subst ha'
      refine AnyM.last rfl (by kernel_rfl) (by kernel_rfl) (by kernel_rfl) (fun w5 hS K hK => ?_)
      have HR3 := Lib.hid (HPU.out w5 hS.1)
      have HK3 := Lib.hid (hS.2.1.setCells (g := B) (.inl rfl) (q * 260 + i * 4) (setL4 (s1 ||| s2)))
      obtain ⟨⟨c0, c1, c2, c3⟩, f0, f1, f2, f3⟩ := hS.1.cells4 q i hq (by omega)
      have HTH := Lib.hid (hS.1.there q i hq (by omega))
      clear hS HPU
      generalize s1 ||| s2 = s3 at *
      refine wp_store_mid 58 _ _ rfl B (q * 260 + i * 4) (setA s3) rfl rfl HTH.out (by kernel_rfl) (by simp [setA, Value.oneCell']) ?_
      refine hK _ _ ?_
      clear hK K
      go_wp2_with fail
      go_roundw
      case rel => exact ⟨i + 1, by omega, rfl, HR3.out, HK3.out⟩
      case measure => simp [intOf]; omega
    · obtain rfl : i = n + 1 := by omega
      go_wp2_with fail
      go_end0
      exact ⟨⟨_, rfl⟩, hr, hK⟩
end Go.Proofs.YtdpkhliojbeglaaDoor

/- A row is copied onto another one. Stage 15. -/
namespace Go.Proofs.YtdpkhliojbeglaaDoor
open Go.RowKit BS

/-- The cells of a row's first sets. -/
def setsL (g : Nat → BitVec 256) (n : Nat) : List Value := (List.range n).flatMap fun i => setL4 (g i)
theorem setsL_succ (g : Nat → BitVec 256) (n : Nat) : setsL g (n + 1) = setsL g n ++ setL4 (g n) := by unfold setsL; rw [List.range_succ]; simp
theorem setsL_len (g : Nat → BitVec 256) : ∀ n, (setsL g n).length = n * 4
  | 0 => rfl
  | n + 1 => by rw [setsL_succ, List.length_append, setsL_len g n, show (setL4 (g n)).length = 4 from rfl]; omega
theorem setsL_get (g : Nat → BitVec 256) : ∀ n i k, i < n → k < 4 → (setsL g n)[i * 4 + k]? = some (.int .u64 (wd (g i) k : Nat))
  | 0, _, _, h, _ => absurd h (by omega)
  | n + 1, i, k, h, hk => by
    rw [setsL_succ]
    by_cases hi : i = n
    · subst hi
      rw [List.getElem?_append_right (by rw [setsL_len]; omega), setsL_len, show i * 4 + k - i * 4 = k by omega]
      exact setL4_get _ k hk
    · rw [List.getElem?_append_left (by rw [setsL_len]; omega)]
      exact setsL_get g n i k (by omega) hk
theorem setsL_one (g : Nat → BitVec 256) (n : Nat) : ∀ v ∈ setsL g n, v.oneCell' = true := by
  intro v hv
  unfold setsL at hv
  obtain ⟨i, _, hi⟩ := List.mem_flatMap.1 hv
  simp only [setL4, List.mem_cons, List.not_mem_nil, or_false] at hi
  rcases hi with rfl | rfl | rfl | rfl <;> rfl
theorem RowD.copied {L B : Nat} {f : Nat → Nat → BitVec 256} {W : World} (h : RowD L B f W) (q n : Nat) (g : Nat → BitVec 256) (hq : q < L) (hn : n ≤ 65) : RowD L B (putR f q n g) (W.setCells B (q * 260) (setsL g n)) := by
  obtain ⟨vs, h1, h2, h3⟩ := h
  refine ⟨_, by rw [setL_size]; exact h1, h2.setCells (setsL g n) _, fun q' i' k hq' hi' hk => ?_⟩
  rw [setL_get _ _ _ _ (by rw [setsL_len]; omega), setsL_len]
  unfold putR
  by_cases e : q' = q ∧ i' < n
  · obtain ⟨rfl, e⟩ := e
    rw [if_pos (by omega), if_pos ⟨rfl, e⟩, show q' * 260 + i' * 4 + k - q' * 260 = i' * 4 + k by omega]
    exact setsL_get g n i' k e hk
  · rw [if_neg (by omega), if_neg e]
    exact h3 q' i' k hq' hi' hk
theorem copy_sets {L B : Nat} {f : Nat → Nat → BitVec 256} {W : World} (h : RowD L B f W) (q p n : Nat) (hq : q < L) (hp : p < L) (hn : n ≤ 64) (ty : TypeId) :
    (Builtin.copy_ #[112, 112] ty #[.slice (some ⟨B, q * 260, none⟩) (n + 1) 65, .slice (some ⟨B, p * 260, none⟩) (n + 1) 65]).run Tryd.prog W = .ok (.int .i64 ((n : Int) + 1)) (W.setCells B (q * 260) (setsL (f p) (n + 1))) := by
  have hcell := fun (j : Nat) (hj : j < (n + 1) * 4) => h.cell p (j / 4) (j % 4) hp (by omega) (Nat.mod_lt _ (by decide))
  have hl := run_loadCells_list (P := Tryd.prog) W ⟨B, p * 260, none⟩ (setsL (f p) (n + 1)) (fun j v hv => by
    have hj : j < (n + 1) * 4 := by have := (List.getElem?_eq_some_iff.1 hv).1; rwa [setsL_len] at this
    rw [Addr.add_mid]
    have h2 := hcell j hj
    rw [show p * 260 + j / 4 * 4 + j % 4 = p * 260 + j by omega] at h2
    rw [h2, ← hv]
    have h3 := setsL_get (f p) (n + 1) (j / 4) (j % 4) (by omega) (Nat.mod_lt _ (by decide))
    rw [show j / 4 * 4 + j % 4 = j by omega] at h3
    exact h3.symm)
  have hst := run_storeCells_cells (P := Tryd.prog) B (q * 260) (setsL (f p) (n + 1)) 0 W (fun j hj => by
    rw [setsL_len] at hj
    have h2 := h.cell q (j / 4) (j % 4) hq (by omega) (Nat.mod_lt _ (by decide))
    rw [show q * 260 + j / 4 * 4 + j % 4 = q * 260 + 0 + j by omega] at h2
    rw [h2]; rfl) (fun j _ => h.frozen _) (setsL_one _ _)
  have hin : Tryd.prog.info? 58 ≠ none := by
    intro h0
    have : (Tryd.prog.info? 58).map (·.size) = some 4 := by kernel_rfl
    rw [h0] at this; cases this
  cases hqq : Tryd.prog.info? 58 with
  | none => exact absurd hqq hin
  | some i =>
    have hi : i.size = 4 := by
      have : (Tryd.prog.info? 58).map (·.size) = some 4 := by kernel_rfl
      rw [hqq] at this; simpa using this
    have hu : Tryd.prog.underlying 112 = some (.slice 58) := by kernel_rfl
    rw [setsL_len] at hl
    simp [Builtin.copy_, run_underlying hu, Builtin.lenOf, Builtin.firstCells, sizeOf, typeInfo, hqq, hi, hl, hst, goInt]
end Go.Proofs.YtdpkhliojbeglaaDoor

/- The developers' learn. Stage 15. -/
namespace Go.Proofs.YtdpkhliojbeglaaDoor
open Go.RowKit BS

/-- The rows behind the first q nodes. -/
def stQ (l : List NdN) (w : List Nat) (q : Nat) : Nat → Nat → BitVec 256 := fun q' i => if q' < q ∧ i ≤ w.length then rowS l w q' i else 0
theorem fin_row (l : List NdN) (w : List Nat) (q : Nat) (f : Nat → Nat → BitVec 256) (g : Nat → BitVec 256) (h1 : ∀ q' i, q' ≠ q → f q' i = stQ l w q q' i) (h2 : ∀ i, w.length < i → f q i = 0) (h3 : ∀ i, i ≤ w.length → g i = rowS l w q i) :
    ∀ q' i, putR f q (w.length + 1) g q' i = stQ l w (q + 1) q' i := by
  intro q' i
  unfold putR
  by_cases h : q' = q ∧ i < w.length + 1
  · obtain ⟨rfl, h⟩ := h
    rw [if_pos ⟨rfl, h⟩, h3 i (by omega)]
    unfold stQ; rw [if_pos ⟨by omega, by omega⟩]
  · rw [if_neg h]
    by_cases hq : q' = q
    · subst hq
      rw [h2 i (by omega)]
      unfold stQ; rw [if_neg (by omega)]
    · rw [h1 q' i hq]
      unfold stQ
      by_cases h4 : q' < q ∧ i ≤ w.length
      · rw [if_pos h4, if_pos ⟨by omega, h4.2⟩]
      · rw [if_neg h4, if_neg (by omega)]
theorem fin_leaf (l : List NdN) (w : List Nat) (q : Nat) (s : BitVec 256) (hP : PartsOk l) (hw : w.length < 256) (hq : q < l.length) (hk : (ndE l q).kind = 2) (hs : (ndE l q).set = s) :
    ∀ q' i, putR (stQ l w q) q w.length (stepG (stQ l w q) s w q) q' i = stQ l w (q + 1) q' i := by
  intro q' i
  have hz : ∀ i, stQ l w q q i = 0 := fun i => by unfold stQ; rw [if_neg (by omega)]
  unfold putR
  by_cases h : q' = q ∧ i < w.length
  · obtain ⟨rfl, h⟩ := h
    rw [if_pos ⟨rfl, h⟩]
    unfold stepG
    rw [hz]
    have e : stQ l w (q' + 1) q' i = rowS l w q' i := by unfold stQ; rw [if_pos ⟨by omega, by omega⟩]
    rw [e, row_2 hP hw hq hk, hs]
    by_cases h2 : s.getLsbD (w.getD i 0) = true
    · rw [if_pos h2, if_pos ⟨h, h2⟩]; simp
    · rw [if_neg h2, if_neg (fun h3 => h2 h3.2)]
  · rw [if_neg h]
    by_cases hqq : q' = q
    · subst hqq
      rw [hz]
      unfold stQ
      by_cases h4 : i ≤ w.length
      · rw [if_pos ⟨by omega, h4⟩, row_2 hP hw hq hk, if_neg (by omega)]
      · rw [if_neg (by omega)]
    · unfold stQ
      by_cases h4 : q' < q ∧ i ≤ w.length
      · rw [if_pos h4, if_pos ⟨by omega, h4.2⟩]
      · rw [if_neg h4, if_neg (by omega)]
theorem blk8 {W : World} {G : Nat} {k a b m : Int} {s : BitVec 256} {t : TypeId} (h : Blk W G (ndI k a b m s) t) : W.cell? ⟨G, 0, none⟩ = some (.int .i64 k) ∧ W.cell? ⟨G, 1, none⟩ = some (.int .i64 a) ∧ W.cell? ⟨G, 2, none⟩ = some (.int .i64 b) ∧ W.cell? ⟨G, 3, none⟩ = some (.int .i64 m) ∧
    W.cell? ⟨G, 4, none⟩ = some (.int .u64 (wd s 0)) ∧ W.cell? ⟨G, 5, none⟩ = some (.int .u64 (wd s 1)) ∧ W.cell? ⟨G, 6, none⟩ = some (.int .u64 (wd s 2)) ∧ W.cell? ⟨G, 7, none⟩ = some (.int .u64 (wd s 3)) :=
  ⟨h.cell 0, h.cell 1, h.cell 2, h.cell 3, h.cell 4, h.cell 5, h.cell 6, h.cell 7⟩
theorem blk3 {W : World} {G : Nat} {x y z : Value} {t : TypeId} (h : Blk W G #[x, y, z] t) : W.cell? ⟨G, 0, none⟩ = some x ∧ W.cell? ⟨G, 1, none⟩ = some y ∧ W.cell? ⟨G, 2, none⟩ = some z := ⟨h.cell 0, h.cell 1, h.cell 2⟩
@[reducible] def zTm : Array Value := #[.int .i64 0, .int .i64 0, .int .i64 0, .int .i64 0, .int .u64 0, .int .u64 0, .int .u64 0, .int .u64 0]
def ULn (c : Nat → Value) : Nat → List Value → Value → Prop
  | 8, _, v => ∃ G : Nat, v = .pointer (some ⟨G, 0, none⟩)
  | i, _, v => v = c i
def VLn (n1 : Nat) : Nat → Value → World → Prop
  | 8, v, W => ∃ G : Nat, v = .pointer (some ⟨G, 0, none⟩) ∧ n1 ≤ G ∧ Blk W G zTm 60
  | _, _, _ => True
theorem keepVLn (n1 : Nat) : ∀ i v w w', Below w.heap.size w w' → VLn n1 i v w → VLn n1 i v w' := by
  intro i v w w' hb h
  unfold VLn at *
  split <;> simp only at h
  · obtain ⟨G, h1, h2, h3⟩ := h
    exact ⟨G, h1, h2, h3.below hb h3.lt⟩
  · trivial
set_option maxRecDepth 100000 in
set_option maxHeartbeats 64000000 in
theorem learnL_calls (l : List NdN) (hr : rightT l = true) (hl : l.length ≤ 1000) (w : List Nat) (hw : w.length ≤ 64) (hw8 : ∀ x ∈ w, x < 256) (B lcp wcp q : Nat) (la wa : Option Addr) (hq : q < l.length) (W : World) (hN : NodesAt l la W) (hT : BtsAt w wa W)
    (hla : ∀ g o, la = some ⟨g, o, none⟩ → g ≠ B) (hwa : ∀ g o, w ≠ [] → wa = some ⟨g, o, none⟩ → g ≠ B) (hR : RowD l.length B (stQ l w q) W) (hTab : Tab W) (hgB : 0 < B) :
    Calls Tryd.prog 49 #[.agg (chA l.length w.length B lcp wcp la wa), .int .i64 (q : Nat)] W fun e W' => (∃ v, e = .returned v) ∧ RowD l.length B (stQ l w (q + 1)) W' ∧ KpA (fun k => k = B) W W' := by
  have hP := parts_ok l hr
  have hnd : ndE l q = l[q] := by simp [ndE, hq]
  have hBW := hR.lt
  have b0 := Blk.new W (chA l.length w.length B lcp wcp la wa) 64
  have hB : Below W.heap.size W (W.alloc (.cells (chA l.length w.length B lcp wcp la wa) 64)) := by go_grown
  have hz : (W.alloc (.cells (chA l.length w.length B lcp wcp la wa) 64)).heap.size = W.heap.size + 1 := World.size_alloc ..
  have HN := Lib.hid hN
  have HT := Lib.hid hT
  have HR := Lib.hid hR
  have HTB := Lib.hid hTab
  have HWA := Lib.hid hwa
  have HW8 := Lib.hid hw8
  obtain ⟨g, off, rfl, hg, hc⟩ := hN (by rintro rfl; simp at hq)
  have hgB2 : g ≠ B := hla g off rfl
  have cc := fun (j : Nat) (hj : j < 8) => (hB.cell (p := ⟨g, off + q * 8 + j, none⟩) hg).trans (hc q hq j hj)
  obtain ⟨k, a, b, m, s, hx⟩ : ∃ k a b m s, l[q] = (⟨k, a, b, m, s⟩ : NdN) := ⟨_, _, _, _, _, rfl⟩
  rw [hx] at cc hnd
  have c0 := cc 0 (by decide); have c1 := cc 1 (by decide); have c2 := cc 2 (by decide); have c3 := cc 3 (by decide); have c4 := cc 4 (by decide); have c5 := cc 5 (by decide); have c6 := cc 6 (by decide); have c7 := cc 7 (by decide)
  simp only [ndA, List.getElem?_toArray, List.getElem?_cons_zero, List.getElem?_cons_succ, Nat.add_zero] at c0 c1 c2 c3 c4 c5 c6 c7
  have hnI : (q : Int) < (l.length : Int) := by omega
  have hnd2 : decide (q < l.length) = true := decide_eq_true hq
  have HND := Lib.hid hnd
  have HX := Lib.hid hx
  have HC := Lib.hid hc
  have HKN := Lib.hid (fun (q' : Nat) (h : q' < l.length) W => known_calls l.length w.length B lcp wcp q' (some ⟨g, off, none⟩) wa hw h W)
  clear hc cc hN hT hR hTab hwa hw8 hnd hx
  go_enter Tryd.func49, Tryd.ntmps49
  go_upto_region 1 with fail
  have HB := Lib.hid hB
  have hS1 : W.heap.size < (W.alloc (.cells (chA l.length w.length B lcp wcp (some ⟨g, off, none⟩) wa) 64)).heap.size := by omega
  have hg1 : g < (W.alloc (.cells (chA l.length w.length B lcp wcp (some ⟨g, off, none⟩) wa) 64)).heap.size := by omega
  generalize W.alloc (.cells (chA l.length w.length B lcp wcp (some ⟨g, off, none⟩) wa) 64) = w1 at *
  have B0 := Lib.hid b0
  have d0 := b0.cell 0; have d1 := b0.cell 1; have d2 := b0.cell 2
  simp only [chA, List.getElem?_toArray, List.getElem?_cons_zero, List.getElem?_cons_succ] at d0 d1 d2
  have HD := Lib.hid (And.intro d0 (And.intro d1 (And.intro d2 (And.intro c0 (And.intro c1 (And.intro c2 (And.intro c3 (And.intro c4 (And.intro c5 (And.intro c6 c7))))))))))
  clear b0 hB d0 d1 d2 c0 c1 c2 c3 c4 c5 c6 c7
  have HFA := Lib.hid (show ∀ W', Below w1.heap.size w1 W' → W'.cell? ⟨W.heap.size, 0, none⟩ = some (.slice (some ⟨g, off, none⟩) l.length lcp) ∧ W'.cell? ⟨W.heap.size, 1, none⟩ = some (.slice wa w.length wcp) ∧ W'.cell? ⟨W.heap.size, 2, none⟩ = some (.slice (some ⟨B, 0, none⟩) l.length l.length) ∧
      W'.cell? ⟨g, off + q * 8, none⟩ = some (.int .i64 k) ∧ W'.cell? ⟨g, off + q * 8 + 1, none⟩ = some (.int .i64 a) ∧ W'.cell? ⟨g, off + q * 8 + 2, none⟩ = some (.int .i64 b) ∧ W'.cell? ⟨g, off + q * 8 + 3, none⟩ = some (.int .i64 m) ∧
      W'.cell? ⟨g, off + q * 8 + 4, none⟩ = some (.int .u64 (wd s 0)) ∧ W'.cell? ⟨g, off + q * 8 + 5, none⟩ = some (.int .u64 (wd s 1)) ∧ W'.cell? ⟨g, off + q * 8 + 6, none⟩ = some (.int .u64 (wd s 2)) ∧ W'.cell? ⟨g, off + q * 8 + 7, none⟩ = some (.int .u64 (wd s 3)) from fun W' hW => by
    obtain ⟨d0, d1, d2, c0, c1, c2, c3, c4, c5, c6, c7⟩ := HD.out
    exact ⟨(hW.cell (p := ⟨W.heap.size, 0, none⟩) hS1).trans d0, (hW.cell (p := ⟨W.heap.size, 1, none⟩) hS1).trans d1, (hW.cell (p := ⟨W.heap.size, 2, none⟩) hS1).trans d2, (hW.cell (p := ⟨g, off + q * 8, none⟩) hg1).trans c0, (hW.cell (p := ⟨g, off + q * 8 + 1, none⟩) hg1).trans c1, (hW.cell (p := ⟨g, off + q * 8 + 2, none⟩) hg1).trans c2, (hW.cell (p := ⟨g, off + q * 8 + 3, none⟩) hg1).trans c3, (hW.cell (p := ⟨g, off + q * 8 + 4, none⟩) hg1).trans c4, (hW.cell (p := ⟨g, off + q * 8 + 5, none⟩) hg1).trans c5, (hW.cell (p := ⟨g, off + q * 8 + 6, none⟩) hg1).trans c6, (hW.cell (p := ⟨g, off + q * 8 + 7, none⟩) hg1).trans c7⟩)
  clear HD
  have hni : (Tryd.prog.info? 60).map (·.size) = some 8 := by kernel_rfl
  go_cut [4, 5] from 6 to 13 (fun v4 v5 wx => ∃ G : Nat, v4 = .pointer (some ⟨G, 0, none⟩) ∧ v5 = .slice (some ⟨B, q * 260, none⟩) (w.length + 1) 65 ∧ w1.heap.size ≤ G ∧ Blk wx G (ndI k a b m s) 60 ∧ Below w1.heap.size w1 wx)
  case first =>
    have hS0 : Below w1.heap.size w1 w1.drew := (Below.refl _ _).drew
    refine region_stepsRT (S := fun W => Below w1.heap.size w1 W) (U := ULn (fun q' => match q' with | 0 => .pointer (some ⟨W.heap.size, 0, none⟩) | 1 => .slice (some ⟨g, off, none⟩) l.length lcp | 2 => .int .i64 (q : Nat) | 3 => .pointer (some ⟨g, off + q * 8, none⟩) | 4 => .agg (ndI k a b m s) | 5 => .agg (chA l.length w.length B lcp wcp (some ⟨g, off, none⟩) wa) | 6 => .int .i64 (q : Nat) | 7 => .slice (some ⟨B, q * 260, none⟩) (w.length + 1) 65 | _ => undef)) (V := VLn w1.heap.size) (m := 9) (n := 9) (r := 2) rfl (by kernel_rfl) (fun _ _ hb hs => hs.trans (hb.mono hs.size)) (keepVLn _) (by kernel_rfl) hS0 ?_
    clear hS0
    simp only [List.size_toArray, List.length_cons, List.length_nil, Nat.reduceAdd, Array.replicate_succ, Array.replicate_zero, List.push_toArray, List.nil_append, List.cons_append]
    refine AnyRT.step (m := 9) (i := 0) (d := some 6) [4, 3, 1, 0] rfl rfl (by kernel_rfl) (by kernel_rfl) (by kernel_rfl) (by kernel_rfl) (by kernel_rfl) ?_ ?_ ?_
    · exact ⟨_, rfl⟩
    · refine StepsR.yield (.pointer (some ⟨W.heap.size, 0, none⟩)) rfl (by kernel_rfl) (fun w' hS hD => ⟨?_, trivial⟩)
      obtain ⟨d0, d1, d2, c0, c1, c2, c3, c4, c5, c6, c7⟩ := HFA.out w' hS; clear hS hD; go_simp
      try rfl
    intro v' hv' a' ha'
    have hv' : .pointer (some ⟨W.heap.size, 0, none⟩) = v' := Eq.symm hv'
    subst hv'
    simp only [Act.put, List.setIfInBounds_toArray, List.set_cons_zero, List.set_cons_succ] at ha'
    subst ha'
    refine AnyRT.step (m := 9) (i := 1) (d := some 7) [4, 3, 1] rfl rfl (by kernel_rfl) (by kernel_rfl) (by kernel_rfl) (by kernel_rfl) (by kernel_rfl) ?_ ?_ ?_
    · exact ⟨_, rfl⟩
    · refine StepsR.yield (.slice (some ⟨g, off, none⟩) l.length lcp) rfl (by kernel_rfl) (fun w' hS hD => ⟨?_, trivial⟩)
      obtain ⟨d0, d1, d2, c0, c1, c2, c3, c4, c5, c6, c7⟩ := HFA.out w' hS; clear hS hD; go_simp
      try rfl
    intro v' hv' a' ha'
    have hv' : .slice (some ⟨g, off, none⟩) l.length lcp = v' := Eq.symm hv'
    subst hv'
    simp only [Act.put, List.setIfInBounds_toArray, List.set_cons_zero, List.set_cons_succ] at ha'
    subst ha'
    refine AnyRT.step (m := 9) (i := 2) (d := some 8) [4, 3, 2] rfl rfl (by kernel_rfl) (by kernel_rfl) (by kernel_rfl) (by kernel_rfl) (by kernel_rfl) ?_ ?_ ?_
    · exact ⟨_, rfl⟩
    · refine StepsR.yield (.int .i64 (q : Nat)) rfl (by kernel_rfl) (fun w' hS hD => ⟨?_, trivial⟩)
      obtain ⟨d0, d1, d2, c0, c1, c2, c3, c4, c5, c6, c7⟩ := HFA.out w' hS; clear hS hD; go_simp
      try rfl
    intro v' hv' a' ha'
    have hv' : .int .i64 (q : Nat) = v' := Eq.symm hv'
    subst hv'
    simp only [Act.put, List.setIfInBounds_toArray, List.set_cons_zero, List.set_cons_succ] at ha'
    subst ha'
    refine AnyRT.step (m := 9) (i := 3) (d := some 9) [4, 3] rfl rfl (by kernel_rfl) (by kernel_rfl) (by kernel_rfl) (by kernel_rfl) (by kernel_rfl) ?_ ?_ ?_
    · exact ⟨_, rfl⟩
    · refine StepsR.yield (.pointer (some ⟨g, off + q * 8, none⟩)) rfl (by kernel_rfl) (fun w' hS hD => ⟨?_, trivial⟩)
      obtain ⟨d0, d1, d2, c0, c1, c2, c3, c4, c5, c6, c7⟩ := HFA.out w' hS; clear hS hD; go_simp
      try rfl
    intro v' hv' a' ha'
    have hv' : .pointer (some ⟨g, off + q * 8, none⟩) = v' := Eq.symm hv'
    subst hv'
    simp only [Act.put, List.setIfInBounds_toArray, List.set_cons_zero, List.set_cons_succ] at ha'
    subst ha'
    refine AnyRT.step (m := 9) (i := 4) (d := some 10) [4] rfl rfl (by kernel_rfl) (by kernel_rfl) (by kernel_rfl) (by kernel_rfl) (by kernel_rfl) ?_ ?_ ?_
    · exact ⟨_, rfl⟩
    · refine StepsR.yield (.agg (ndI k a b m s)) rfl (by kernel_rfl) (fun w' hS hD => ⟨?_, trivial⟩)
      obtain ⟨d0, d1, d2, c0, c1, c2, c3, c4, c5, c6, c7⟩ := HFA.out w' hS; clear hS hD; go_simp
      try rfl
    intro v' hv' a' ha'
    have hv' : .agg (ndI k a b m s) = v' := Eq.symm hv'
    subst hv'
    simp only [Act.put, List.setIfInBounds_toArray, List.set_cons_zero, List.set_cons_succ] at ha'
    subst ha'
    refine AnyRT.step (m := 9) (i := 5) (d := some 11) [7, 5] rfl rfl (by kernel_rfl) (by kernel_rfl) (by kernel_rfl) (by kernel_rfl) (by kernel_rfl) ?_ ?_ ?_
    · exact ⟨_, rfl⟩
    · refine StepsR.yield (.agg (chA l.length w.length B lcp wcp (some ⟨g, off, none⟩) wa)) rfl (by kernel_rfl) (fun w' hS hD => ⟨?_, trivial⟩)
      obtain ⟨d0, d1, d2, c0, c1, c2, c3, c4, c5, c6, c7⟩ := HFA.out w' hS; clear hS hD; go_simp
      try rfl
    intro v' hv' a' ha'
    have hv' : .agg (chA l.length w.length B lcp wcp (some ⟨g, off, none⟩) wa) = v' := Eq.symm hv'
    subst hv'
    simp only [Act.put, List.setIfInBounds_toArray, List.set_cons_zero, List.set_cons_succ] at ha'
    subst ha'
    refine AnyRT.step (m := 9) (i := 6) (d := some 12) [7, 6] rfl rfl (by kernel_rfl) (by kernel_rfl) (by kernel_rfl) (by kernel_rfl) (by kernel_rfl) ?_ ?_ ?_
    · exact ⟨_, rfl⟩
    · refine StepsR.yield (.int .i64 (q : Nat)) rfl (by kernel_rfl) (fun w' hS hD => ⟨?_, trivial⟩)
      obtain ⟨d0, d1, d2, c0, c1, c2, c3, c4, c5, c6, c7⟩ := HFA.out w' hS; clear hS hD; go_simp
      try rfl
    intro v' hv' a' ha'
    have hv' : .int .i64 (q : Nat) = v' := Eq.symm hv'
    subst hv'
    simp only [Act.put, List.setIfInBounds_toArray, List.set_cons_zero, List.set_cons_succ] at ha'
    subst ha'
    refine AnyRT.step (m := 9) (i := 7) (d := some 13) [7] rfl rfl (by kernel_rfl) (by kernel_rfl) (by kernel_rfl) (by kernel_rfl) (by kernel_rfl) ?_ ?_ ?_
    · exact ⟨_, rfl⟩
    · refine StepsR.call (by kernel_rfl) (fun w' hS => by clear hS; go_simp) (fun w' hS hD => (HKN.out q hq w').mono ?_)
      rintro e w'' ⟨rfl, hb⟩
      exact ⟨_, rfl, rfl, trivial, hb⟩
    intro v' hv' a' ha'
    have hv' : .slice (some ⟨B, q * 260, none⟩) (w.length + 1) 65 = v' := Eq.symm hv'
    subst hv'
    simp only [Act.put, List.setIfInBounds_toArray, List.set_cons_zero, List.set_cons_succ] at ha'
    subst ha'
    refine AnyRT.step (m := 9) (i := 8) (d := some 4) [8] rfl rfl (by kernel_rfl) (by kernel_rfl) (by kernel_rfl) (by kernel_rfl) (by kernel_rfl) ?_ ?_ ?_
    · exact ⟨.pointer (some ⟨0, 0, none⟩), 0, rfl⟩
    · refine StepsR.made (by kernel_rfl) (fun w' hS hD => ?_)
      refine ⟨.pointer (some ⟨w'.heap.size, 0, none⟩), w'.alloc (.cells zTm 60), ?_, ⟨_, rfl⟩, ⟨_, rfl, hS.size, Blk.new w' _ _⟩, (Below.refl _ _).alloc (Nat.le_refl _) _⟩
      clear hS hD
      go_simp
      try rfl
    rintro v' ⟨G8, rfl⟩ a' ha'
    simp only [Act.put, List.setIfInBounds_toArray, List.set_cons_zero, List.set_cons_succ] at ha'
    subst ha'
    refine AnyRT.last (by kernel_rfl) (fun w9 hS hF => ?_)
    have h8 := hF 8 _ 4 (by kernel_rfl) rfl rfl
    obtain ⟨G', e8, k1, k2⟩ := h8
    have e8' : Value.pointer (some ⟨G8, 0, none⟩) = .pointer (some ⟨G', 0, none⟩) := e8
    cases e8'
    have HBX := Lib.hid (Blk.setRow (cs := ndI k a b m s) k2)
    have HBB := Lib.hid (below_row hS k1 (ndI k a b m s))
    refine wpAny_one (i := 9) (o := ⟨none, .store 60 (.tmp 4) (.tmp 10), _, _, _, _⟩) (by kernel_rfl) rfl (by kernel_rfl) ?_
    refine wp_store_row 60 _ _ rfl G8 rfl rfl (run_storeAt_row w9 G8 60 60 zTm (ndI k a b m s) k2 hni rfl (by simp [Value.oneCell'])) ?_
    clear hS hF k2 e8
    have hb8 := k1
    refine wpAny_one (i := 10) (o := ⟨some 5, .assign (.tmp 13), _, _, _, _⟩) (by kernel_rfl) rfl (by kernel_rfl) ?_
    generalize w9.setRow G8 (ndI k a b m s) = wq at *
    show wpAny Tryd.prog _ _ _ 0 _ (Act.put _ (some 5) (.slice (some ⟨B, q * 260, none⟩) (w.length + 1) 65)) wq
    refine wpAny_none (P := Tryd.prog) (by kernel_rfl) ?_
    simp only [Act.put, List.setIfInBounds_toArray, List.set_cons_zero, List.set_cons_succ]
    go_wp2_with fail
    go_meet
    exact ⟨_, rfl, rfl, hb8, HBX.out, HBB.out⟩
  case rest =>
  obtain ⟨G, rfl, rfl, hG1, hGb, hbc⟩ := hcut
  have HBC := Lib.hid (HB.out.trans (hbc.mono (by omega)))
  have HKC := Lib.hid ((KpA.refl (fun k => k = B) W).below HBC.out)
  have hWc : W.heap.size ≤ wc.heap.size := HBC.out.size
  have hGW : W.heap.size < G := by omega
  have HRc := Lib.hid (HR.out.below HBC.out)
  have HB0c := Lib.hid (B0.out.below hbc hS1)
  have HGc := Lib.hid hGb
  have HTBc := Lib.hid (HTB.out.kpA HKC.out (by omega) (by omega))
  have HTW := Lib.hid (HT.out.below HBC.out)
  have HPP := Lib.hid hP
  have hkk := hP.kind q hq
  rw [HND.out] at hkk
  simp only at hkk
  have hnp := nodek_parts l hr q hq
  rw [HX.out] at hnp
  simp only at hnp
  have HST := Lib.hid (show ∀ p i, p < q → i ≤ w.length → stQ l w q p i = rowS l w p i from fun p i h1 h2 => by unfold stQ; rw [if_pos ⟨h1, h2⟩])
  have HSZ := Lib.hid (show ∀ i, stQ l w q q i = 0 from fun i => by unfold stQ; rw [if_neg (by omega)])
  have hw256 : w.length < 256 := by omega
  clear hbc hGb HFA HR B0 HTB HB HN HC hgB2 hnI hnd2 hg hg1 hni hP HBC hG1 hS1 HT
  -- Eps and Leaf
  have t0 := HGc.out.cell 0; have t1 := HGc.out.cell 1; have t2 := HGc.out.cell 2
  have t4 := HGc.out.cell 4; have t5 := HGc.out.cell 5; have t6 := HGc.out.cell 6; have t7 := HGc.out.cell 7
  simp only [List.getElem?_toArray, List.getElem?_cons_zero, List.getElem?_cons_succ] at t0 t1 t2 t4 t5 t6 t7
  have u0 := HB0c.out.cell 0; have u1 := HB0c.out.cell 1; have u2 := HB0c.out.cell 2
  simp only [chA, List.getElem?_toArray, List.getElem?_cons_zero, List.getElem?_cons_succ] at u0 u1 u2
  rcases hnp with ⟨hpc, rfl, rfl, _⟩ | ⟨a', hpc, rfl, rfl, ha, _⟩ | ⟨a', b', hpc, rfl, rfl, hb, _, _, ha⟩
  · have h12 : k = 1 ∨ k = 2 := by
      unfold pcT at hpc
      split at hpc
      · omega
      · split at hpc <;> omega
    rcases h12 with rfl | rfl
    · have HF := Lib.hid (fin_row l w q (stQ l w q) (fun i => stQ l w q q i ||| one i) (fun _ _ _ => rfl) (fun i _ => HSZ.out i) (fun i hi => by
        show stQ l w q q i ||| one i = _
        rw [HSZ.out, row_1 HPP.out hw256 hq (by rw [HND.out]) hi]; simp))
      go_wp2_with fail
      refine (stay_calls l.length w.length B q _ hw hq wc HRc.out).mono ?_
      rintro e w3 ⟨⟨v, rfl⟩, hr3, hk3⟩
      have HR3 := Lib.hid (hr3.congr fun q' i h1 h2 => HF.out q' i)
      have HK3 := Lib.hid (HKC.out.trans hk3)
      clear hr3 hk3
      go_wp2_with fail
      go_end0
      exact ⟨⟨_, rfl⟩, HR3.out, HK3.out⟩
    · have HF := Lib.hid (fin_leaf l w q s HPP.out hw256 hq (by rw [HND.out]) (by rw [HND.out]))
      go_wp2_with fail
      refine (stepE_calls l.length B q _ s w wa wcp hw HW8.out hq wc HRc.out HTW.out HWA.out).mono ?_
      rintro e w3 ⟨⟨v, rfl⟩, hr3, hk3⟩
      have HR3 := Lib.hid (hr3.congr fun q' i h1 h2 => HF.out q' i)
      have HK3 := Lib.hid (HKC.out.trans hk3)
      clear hr3 hk3
      go_wp2_with fail
      go_end0
      exact ⟨⟨_, rfl⟩, HR3.out, HK3.out⟩
  · have h58 : k = 5 ∨ k = 6 ∨ k = 7 ∨ k = 8 := by
      unfold pcT at hpc
      split at hpc
      · omega
      · split at hpc <;> omega
    have p1 : decide (0 ≤ (a' : Int)) = true := by simp
    go_wp2_with fail
    refine (HKN.out a' (by omega) _).mono ?_
    rintro e w3 ⟨rfl, hb3⟩
    have hr3 := HRc.out.below hb3
    have hcp := fun ty => copy_sets hr3 q a' w.length hq (by omega) hw ty
    have HR4 := Lib.hid (hr3.copied q (w.length + 1) (stQ l w q a') hq (by omega))
    have hk34 : KpA (fun k => k = B) wc (w3.setCells B (q * 260) (setsL (stQ l w q a') (w.length + 1))) := ((KpA.refl (fun k => k = B) wc).below hb3).setCells (g := B) (.inl rfl) _ _
    have HK4 := Lib.hid (HKC.out.trans hk34)
    have HG4 := Lib.hid (HGc.out.kpA hk34 (by omega))
    have HB04 := Lib.hid (HB0c.out.kpA hk34 (by omega))
    have HTB4 := Lib.hid (HTBc.out.kpA hk34 (by have := HKC.out.size; omega) (by omega))
    have hWc4 : W.heap.size ≤ (w3.setCells B (q * 260) (setsL (stQ l w q a') (w.length + 1))).heap.size := HK4.out.size
    obtain ⟨t0, t1, t2, _, t4, t5, t6, t7⟩ := blk8 HG4.out
    obtain ⟨u0, u1, u2⟩ := blk3 HB04.out
    clear hr3 hb3 hk34
    generalize w3.setCells B (q * 260) (setsL (stQ l w q a') (w.length + 1)) = w4 at *
    clear HRc HKC HGc HB0c HTBc
    have HF1 := Lib.hid (show ∀ q' i, q' ≠ q → putR (stQ l w q) q (w.length + 1) (stQ l w q a') q' i = stQ l w q q' i from fun q' i h => by unfold putR; rw [if_neg (fun h2 => h h2.1)])
    have HF2 := Lib.hid (show ∀ i, w.length < i → putR (stQ l w q) q (w.length + 1) (stQ l w q a') q i = 0 from fun i h => by unfold putR; rw [if_neg (by omega)]; exact HSZ.out i)
    have HF3 := Lib.hid (show ∀ i, i ≤ w.length → putR (stQ l w q) q (w.length + 1) (stQ l w q a') q i = rowS l w a' i from fun i h => by unfold putR; rw [if_pos ⟨rfl, by omega⟩]; exact HST.out a' i (by omega) h)
    generalize hf1 : putR (stQ l w q) q (w.length + 1) (stQ l w q a') = f1 at *
    rcases h58 with rfl | rfl | rfl | rfl
    · -- Star
      have HS1 := Lib.hid (fun i (h : i ≤ w.length) => row_5 HPP.out hw256 hq (p := a') (i := i) (by rw [HND.out]) (by rw [HND.out]) (by omega) h)
      go_wp2_with fail
      refine (stay_calls l.length w.length B q _ hw hq w4 HR4.out).mono ?_
      rintro e w5 ⟨⟨v, rfl⟩, hr5, hk5⟩
      have HR5 := Lib.hid hr5
      have HK5 := Lib.hid (HK4.out.trans hk5)
      have HTB5 := Lib.hid (HTB4.out.kpA hk5 (by omega) (by omega))
      have HG5 := Lib.hid (show ∀ i, i ≤ w.length → putR f1 q (w.length + 1) (fun i => f1 q i ||| one i) q i = rowS l w a' i ||| one i from fun i h => by unfold putR; rw [if_pos ⟨rfl, by omega⟩]; show f1 q i ||| one i = _; rw [HF3.out i h])
      have HF := Lib.hid (fin_row l w q (putR f1 q (w.length + 1) (fun i => f1 q i ||| one i)) (rowS l w q) (fun q' i h => by unfold putR; rw [if_neg (fun h2 => h h2.1)]; exact HF1.out q' i h) (fun i h => by unfold putR; rw [if_neg (by omega)]; exact HF2.out i h) (fun _ _ => rfl))
      clear hr5 hk5
      generalize putR f1 q (w.length + 1) (fun i => f1 q i ||| one i) = f2 at *
      go_wp2_with fail
      refine (then_calls l.length w.length B q q f2 (rowS l w q) hw hq hq (fun i hi m hm => ?_) (fun i hi => ?_) w5 HR5.out HTB5.out hgB).mono ?_
      · rw [HG5.out i hi, BitVec.getLsbD_or, Bool.or_eq_true] at hm
        rcases hm with hm | hm
        · have := (row_iff HPP.out hw256 (by omega : a' < l.length)).1 hm
          exact ⟨this.1, this.2.1⟩
        · by_cases hm2 : m < 256
          · rw [get_one _ _ hm2, decide_eq_true_iff] at hm; omega
          · rw [BitVec.getLsbD_of_ge _ _ (by omega)] at hm; cases hm
      · rw [HS1.out i hi, HG5.out i hi]
        refine uni_congr fun m _ => ?_
        unfold nxR
        rw [if_pos rfl]
        by_cases hmi : m = i
        · rw [if_pos hmi, if_pos hmi, HG5.out i hi]
        · rw [if_neg hmi, if_neg hmi]
      rintro e w6 ⟨⟨v, rfl⟩, hr6, hk6⟩
      have HR6 := Lib.hid (hr6.congr fun q' i h1 h2 => HF.out q' i)
      have HK6 := Lib.hid (HK5.out.trans hk6)
      clear hr6 hk6
      go_wp2_with fail
      go_end0
      exact ⟨⟨_, rfl⟩, HR6.out, HK6.out⟩
    · -- Maybe
      have HF := Lib.hid (fin_row l w q f1 (fun i => f1 q i ||| one i) HF1.out HF2.out (fun i hi => by
        show f1 q i ||| one i = _
        rw [HF3.out i hi, row_6 HPP.out hw256 hq (p := a') (by rw [HND.out]) (by rw [HND.out]) (by omega) hi]))
      go_wp2_with fail
      refine (stay_calls l.length w.length B q _ hw hq w4 HR4.out).mono ?_
      rintro e w5 ⟨⟨v, rfl⟩, hr5, hk5⟩
      have HR5 := Lib.hid (hr5.congr fun q' i h1 h2 => HF.out q' i)
      have HK5 := Lib.hid (HK4.out.trans hk5)
      clear hr5 hk5
      go_wp2_with fail
      go_end0
      exact ⟨⟨_, rfl⟩, HR5.out, HK5.out⟩
    all_goals
      have HF := Lib.hid (fin_row l w q (stQ l w q) (stQ l w q a') (fun _ _ _ => rfl) (fun i _ => HSZ.out i) (fun i hi => by
        rw [HST.out a' i (by omega) hi, row_7 HPP.out hw256 hq (p := a') (by rw [HND.out]; first | exact .inl rfl | exact .inr rfl) (by rw [HND.out]) (by omega)]))
      rw [← hf1] at HR4
      have HR5 := Lib.hid (HR4.out.congr fun q' i h1 h2 => HF.out q' i)
      go_wp2_with fail
      go_end0
      exact ⟨⟨_, rfl⟩, HR5.out, HK4.out⟩
  · have h34 : k = 3 ∨ k = 4 := by
      unfold pcT at hpc
      split at hpc
      · assumption
      · split at hpc <;> omega
    have p1 : decide (0 ≤ (a' : Int)) = true := by simp
    go_wp2_with fail
    refine (HKN.out a' (by omega) _).mono ?_
    rintro e w3 ⟨rfl, hb3⟩
    have hr3 := HRc.out.below hb3
    have hcp := fun ty => copy_sets hr3 q a' w.length hq (by omega) hw ty
    have HR4 := Lib.hid (hr3.copied q (w.length + 1) (stQ l w q a') hq (by omega))
    have hk34 : KpA (fun k => k = B) wc (w3.setCells B (q * 260) (setsL (stQ l w q a') (w.length + 1))) := ((KpA.refl (fun k => k = B) wc).below hb3).setCells (g := B) (.inl rfl) _ _
    have HK4 := Lib.hid (HKC.out.trans hk34)
    have HG4 := Lib.hid (HGc.out.kpA hk34 (by omega))
    have HB04 := Lib.hid (HB0c.out.kpA hk34 (by omega))
    have HTB4 := Lib.hid (HTBc.out.kpA hk34 (by have := HKC.out.size; omega) (by omega))
    have hWc4 : W.heap.size ≤ (w3.setCells B (q * 260) (setsL (stQ l w q a') (w.length + 1))).heap.size := HK4.out.size
    obtain ⟨t0, t1, t2, _, t4, t5, t6, t7⟩ := blk8 HG4.out
    obtain ⟨u0, u1, u2⟩ := blk3 HB04.out
    clear hr3 hb3 hk34
    generalize w3.setCells B (q * 260) (setsL (stQ l w q a') (w.length + 1)) = w4 at *
    clear HRc HKC HGc HB0c HTBc
    have HF1 := Lib.hid (show ∀ q' i, q' ≠ q → putR (stQ l w q) q (w.length + 1) (stQ l w q a') q' i = stQ l w q q' i from fun q' i h => by unfold putR; rw [if_neg (fun h2 => h h2.1)])
    have HF2 := Lib.hid (show ∀ i, w.length < i → putR (stQ l w q) q (w.length + 1) (stQ l w q a') q i = 0 from fun i h => by unfold putR; rw [if_neg (by omega)]; exact HSZ.out i)
    have HF3 := Lib.hid (show ∀ i, i ≤ w.length → putR (stQ l w q) q (w.length + 1) (stQ l w q a') q i = rowS l w a' i from fun i h => by unfold putR; rw [if_pos ⟨rfl, by omega⟩]; exact HST.out a' i (by omega) h)
    have HF4 := Lib.hid (show ∀ p i, p < q → i ≤ w.length → putR (stQ l w q) q (w.length + 1) (stQ l w q a') p i = rowS l w p i from fun p i h1 h2 => by rw [HF1.out p i (by omega)]; exact HST.out p i h1 h2)
    generalize putR (stQ l w q) q (w.length + 1) (stQ l w q a') = f1 at *
    have p2 : decide (0 ≤ (b' : Int)) = true := by simp
    rcases h34 with rfl | rfl
    · -- Cat
      have HF := Lib.hid (fin_row l w q f1 (rowS l w q) HF1.out HF2.out (fun _ _ => rfl))
      go_wp2_with fail
      refine (HKN.out b' (by omega) _).mono ?_
      rintro e w5 ⟨rfl, hb5⟩
      have HR5 := Lib.hid (HR4.out.below hb5)
      have HK5 := Lib.hid (HK4.out.below hb5)
      have HTB5 := Lib.hid (HTB4.out.keep hb5 (by omega))
      clear hb5
      go_wp2_with fail
      refine (then_calls l.length w.length B q b' f1 (rowS l w q) hw hq (by omega) (fun i hi m hm => ?_) (fun i hi => ?_) w5 HR5.out HTB5.out hgB).mono ?_
      · rw [HF3.out i hi] at hm
        have := (row_iff HPP.out hw256 (by omega : a' < l.length)).1 hm
        exact ⟨this.1, this.2.1⟩
      · rw [row_3 HPP.out hw256 hq (p := a') (r := b') (by rw [HND.out]) (by rw [HND.out]) (by rw [HND.out]) (by omega) (by omega), HF3.out i hi]
        refine uni_congr fun m hm => ?_
        have hm2 := ((mem_el _ _ _).1 hm).2
        have := (row_iff HPP.out hw256 (by omega : a' < l.length)).1 hm2
        unfold nxR
        rw [if_neg (by omega), HF4.out b' m (by omega) this.2.1]
      rintro e w6 ⟨⟨v, rfl⟩, hr6, hk6⟩
      have HR6 := Lib.hid (hr6.congr fun q' i h1 h2 => HF.out q' i)
      have HK6 := Lib.hid (HK5.out.trans hk6)
      clear hr6 hk6
      go_wp2_with fail
      go_end0
      exact ⟨⟨_, rfl⟩, HR6.out, HK6.out⟩
    · -- Alt
      have HF := Lib.hid (fin_row l w q f1 (fun i => f1 q i ||| f1 b' i) HF1.out HF2.out (fun i hi => by
        show f1 q i ||| f1 b' i = _
        rw [HF3.out i hi, HF4.out b' i (by omega) hi, row_4 HPP.out hw256 hq (p := a') (r := b') (by rw [HND.out]) (by rw [HND.out]) (by rw [HND.out]) (by omega) (by omega)]))
      go_wp2_with fail
      refine (HKN.out b' (by omega) _).mono ?_
      rintro e w5 ⟨rfl, hb5⟩
      have HR5 := Lib.hid (HR4.out.below hb5)
      have HK5 := Lib.hid (HK4.out.below hb5)
      clear hb5
      go_wp2_with fail
      refine (orE_calls l.length w.length B q b' f1 hw hq (by omega) (by omega) w5 HR5.out).mono ?_
      rintro e w6 ⟨⟨v, rfl⟩, hr6, hk6⟩
      have HR6 := Lib.hid (hr6.congr fun q' i h1 h2 => HF.out q' i)
      have HK6 := Lib.hid (HK5.out.trans hk6)
      clear hr6 hk6
      go_wp2_with fail
      go_end0
      exact ⟨⟨_, rfl⟩, HR6.out, HK6.out⟩

end Go.Proofs.YtdpkhliojbeglaaDoor

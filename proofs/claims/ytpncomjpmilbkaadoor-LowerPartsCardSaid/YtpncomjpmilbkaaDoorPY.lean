/- Texts put together: Qg Qh. -/
import Derived.Test.YtpncomjpmilbkaaDoorPX
import Derived.Test.YtpncomjpmilbkaaDoorPT
import Derived.BigQuiet
/- The developers' lower: a tree in memory; sizes and copies. Stage 11. -/
namespace Go.Proofs.YtpncomjpmilbkaaDoor
open Go.RowKit BS

/-- What is known of a pattern's tree: kids of the first nk nodes, which of the first nz may be nothing. -/
structure TreeN (l : List NdN) (nk nz : Nat) (a : Option Addr) (gk : Nat) (am : Option Addr) (gz : Nat) (W : World) : Prop where
  nodes : NodesAt l a W
  kl : gk < W.heap.size
  kids : ∀ i, i < nk → ∃ b c, W.cell? ⟨gk, i, none⟩ = some (.slice b (kidsR l i).length c) ∧ IntsO (kidsR l i) b W
  nums : IntsO (numsR l) am W
  zl : gz < W.heap.size
  nulls : ∀ i, i < nz → W.cell? ⟨gz, i, none⟩ = some (.bool (nulV l i))
theorem TreeN.below {l : List NdN} {nk nz : Nat} {a : Option Addr} {gk : Nat} {am : Option Addr} {gz : Nat} {W W' : World} (h : TreeN l nk nz a gk am gz W) (hb : Below W.heap.size W W') : TreeN l nk nz a gk am gz W' :=
  ⟨h.nodes.below hb, Nat.lt_of_lt_of_le h.kl hb.size, fun i hi => by
    obtain ⟨b, c, h1, h2⟩ := h.kids i hi
    exact ⟨b, c, (hb.cell (p := ⟨gk, i, none⟩) h.kl).trans h1, h2.below hb⟩, h.nums.below hb, Nat.lt_of_lt_of_le h.zl hb.size, fun i hi => (hb.cell (p := ⟨gz, i, none⟩) h.zl).trans (h.nulls i hi)⟩
@[reducible] def treeC (n : Nat) (a : Option Addr) (ca gk : Nat) (am : Option Addr) (cm gz : Nat) : Array Value := #[.slice a n ca, .slice (some ⟨gk, 0, none⟩) n n, .slice am n cm, .slice (some ⟨gz, 0, none⟩) n n]
section
set_option maxRecDepth 100000
set_option maxHeartbeats 4000000
theorem lroot_calls (n : Nat) (hn : n ≤ 1000) (a : Option Addr) (ca gk : Nat) (am : Option Addr) (cm gz : Nat) (w : World) :
    Calls Tryd.prog 26 #[.agg (treeC n a ca gk am cm gz)] w fun e w' => e = .returned (.int .i64 ((n : Int) - 1)) ∧ Below w.heap.size w w' := by
  have x1 : IntKind.i64.wrap ((n : Int) - 1) = (n : Int) - 1 := IntWalk.i64_in _ (by omega)
  have HB := Lib.hid (show Below w.heap.size w (w.alloc (.cells (treeC n a ca gk am cm gz) 52)) from (Below.refl _ _).alloc (Nat.le_refl _) _)
  go_enter Tryd.func26, Tryd.ntmps26
  go_wp2_with fail
  go_ret
  exact ⟨rfl, HB.out⟩
/-- How many nodes copies have around them. -/
def arN (s l st : Nat) : Nat := if s + l + st = 0 then 1 else 2 * (s + l + st) - 1 + l + st
theorem around_calls (s l st : Nat) (hs : s ≤ 1000) (hl : l ≤ 1000) (hst : st ≤ 1000) (w : World) :
    Calls Tryd.prog 68 #[.agg #[.int .i64 s, .int .i64 l, .int .i64 st]] w fun e w' => e = .returned (.int .i64 ((arN s l st : Nat) : Int)) ∧ Below w.heap.size w w' := by
  have hb1 : Below w.heap.size w (w.alloc (.cells #[.int .i64 s, .int .i64 l, .int .i64 st] 88)) := (Below.refl _ _).alloc (Nat.le_refl _) _
  have BC : Blk (w.alloc (.cells #[.int .i64 s, .int .i64 l, .int .i64 st] 88)) w.heap.size #[.int .i64 s, .int .i64 l, .int .i64 st] 88 := Blk.new w _ _
  have HB := Lib.hid hb1
  clear hb1
  go_enter Tryd.func68, Tryd.ntmps68
  go_upto_region 1 with fail
  generalize w.alloc (.cells #[.int .i64 s, .int .i64 l, .int .i64 st] 88) = w1 at *
  have c0 := BC.cell 0; have c1 := BC.cell 1; have c2 := BC.cell 2
  simp only [List.getElem?_toArray, List.getElem?_cons_zero, List.getElem?_cons_succ] at c0 c1 c2
  go_wp2_with fail
  refine (all_calls s l st hs hl hst w1).mono ?_
  rintro e w2 ⟨rfl, hb⟩
  have BC2 := BC.below hb BC.lt
  have HB2 := Lib.hid (HB.out.trans (hb.mono HB.out.size))
  clear hb HB c0 c1 c2 BC
  have c0 := BC2.cell 0; have c1 := BC2.cell 1; have c2 := BC2.cell 2
  simp only [List.getElem?_toArray, List.getElem?_cons_zero, List.getElem?_cons_succ] at c0 c1 c2
  by_cases h0 : s + l + st = 0
  · have e0 : ((s + l + st : Nat) : Int) = 0 := by omega
    rw [e0]
    go_wp2_with fail
    go_ret
    refine ⟨?_, HB2.out⟩
    unfold arN
    rw [if_pos h0]
    rfl
  · have e0' : ¬ ((s + l + st : Nat) : Int) = 0 := by omega
    have HALL := Lib.hid (fun W => all_calls s l st hs hl hst W)
    obtain ⟨T, hT⟩ : ∃ T : Nat, T = s + l + st := ⟨_, rfl⟩
    rw [← hT] at HALL e0' ⊢
    have x1 : IntKind.i64.wrap (2 * (T : Int)) = 2 * (T : Int) := IntWalk.i64_in _ (by omega)
    have x2 : IntKind.i64.wrap (2 * (T : Int) - 1) = 2 * (T : Int) - 1 := IntWalk.i64_in _ (by omega)
    have x3 : IntKind.i64.wrap (2 * (T : Int) - 1 + (l : Int)) = 2 * (T : Int) - 1 + (l : Int) := IntWalk.i64_in _ (by omega)
    have x4 : IntKind.i64.wrap (2 * (T : Int) - 1 + (l : Int) + (st : Int)) = 2 * (T : Int) - 1 + (l : Int) + (st : Int) := IntWalk.i64_in _ (by omega)
    have HTT := Lib.hid hT
    have HBC := Lib.hid BC2
    clear hT c0 c1 c2 BC2
    go_upto_region 3 with fail
    --MARK
    have h0s : (fun W : World => Blk W w.heap.size #[.int .i64 s, .int .i64 l, .int .i64 st] 88 ∧ Below w.heap.size w W) w2.drew := ⟨HBC.out.drew, HB2.out.drew⟩
    clear HBC HB2
    refine region_steps (S := fun W : World => Blk W w.heap.size #[.int .i64 s, .int .i64 l, .int .i64 st] 88 ∧ Below w.heap.size w W) (by kernel_rfl) h0s ?_
    clear h0s
    simp only [List.size_toArray, List.length_cons, List.length_nil, Nat.reduceAdd, Array.replicate_succ, Array.replicate_zero, List.push_toArray, List.nil_append, List.cons_append]
    refine AnyS.next (i := 0) (d := some 6) (v := .agg #[.int .i64 s, .int .i64 l, .int .i64 st]) rfl rfl (by kernel_rfl) (by kernel_rfl) (by kernel_rfl) (StepsIf.yield (by kernel_rfl) (fun w' hS => by have n0 := hS.1.cell 0; have n1 := hS.1.cell 1; have n2 := hS.1.cell 2; simp only [List.getElem?_toArray, List.getElem?_cons_zero, List.getElem?_cons_succ] at n0 n1 n2; clear hS; go_simp)) ?_
    intro a' ha'
    simp only [Act.put, List.setIfInBounds_toArray, List.set_cons_zero, List.set_cons_succ] at ha'
    subst ha'
    refine AnyS.next (i := 1) (d := some 7) (v := .int .i64 (T : Nat)) rfl rfl (by kernel_rfl) (by kernel_rfl) (by kernel_rfl) (StepsIf.call (by kernel_rfl) (fun w' hS => by clear hS; go_simp) (fun w' hS => ((HALL.out w').mono fun e w2 ⟨h1, h2⟩ => ⟨h1, hS.1.below h2 hS.1.lt, hS.2.trans (h2.mono hS.2.size)⟩))) ?_
    intro a' ha'
    simp only [Act.put, List.setIfInBounds_toArray, List.set_cons_zero, List.set_cons_succ] at ha'
    subst ha'
    refine AnyS.next (i := 2) (d := some 8) (v := .int .i64 (2 * (T : Int))) rfl rfl (by kernel_rfl) (by kernel_rfl) (by kernel_rfl) (StepsIf.yield (by kernel_rfl) (fun w' hS => by clear hS; go_simp)) ?_
    intro a' ha'
    simp only [Act.put, List.setIfInBounds_toArray, List.set_cons_zero, List.set_cons_succ] at ha'
    subst ha'
    refine AnyS.next (i := 3) (d := some 9) (v := .int .i64 (2 * (T : Int) - 1)) rfl rfl (by kernel_rfl) (by kernel_rfl) (by kernel_rfl) (StepsIf.yield (by kernel_rfl) (fun w' hS => by clear hS; go_simp)) ?_
    intro a' ha'
    simp only [Act.put, List.setIfInBounds_toArray, List.set_cons_zero, List.set_cons_succ] at ha'
    subst ha'
    refine AnyS.next (i := 4) (d := some 10) (v := .pointer (some ⟨w.heap.size, 1, none⟩)) rfl rfl (by kernel_rfl) (by kernel_rfl) (by kernel_rfl) (StepsIf.yield (by kernel_rfl) (fun w' hS => by clear hS; go_simp)) ?_
    intro a' ha'
    simp only [Act.put, List.setIfInBounds_toArray, List.set_cons_zero, List.set_cons_succ] at ha'
    subst ha'
    refine AnyS.next (i := 5) (d := some 11) (v := .int .i64 (l : Nat)) rfl rfl (by kernel_rfl) (by kernel_rfl) (by kernel_rfl) (StepsIf.yield (by kernel_rfl) (fun w' hS => by have n0 := hS.1.cell 0; have n1 := hS.1.cell 1; have n2 := hS.1.cell 2; simp only [List.getElem?_toArray, List.getElem?_cons_zero, List.getElem?_cons_succ] at n0 n1 n2; clear hS; go_simp)) ?_
    intro a' ha'
    simp only [Act.put, List.setIfInBounds_toArray, List.set_cons_zero, List.set_cons_succ] at ha'
    subst ha'
    refine AnyS.next (i := 6) (d := some 12) (v := .int .i64 (2 * (T : Int) - 1 + (l : Int))) rfl rfl (by kernel_rfl) (by kernel_rfl) (by kernel_rfl) (StepsIf.yield (by kernel_rfl) (fun w' hS => by clear hS; go_simp)) ?_
    intro a' ha'
    simp only [Act.put, List.setIfInBounds_toArray, List.set_cons_zero, List.set_cons_succ] at ha'
    subst ha'
    refine AnyS.next (i := 7) (d := some 13) (v := .pointer (some ⟨w.heap.size, 2, none⟩)) rfl rfl (by kernel_rfl) (by kernel_rfl) (by kernel_rfl) (StepsIf.yield (by kernel_rfl) (fun w' hS => by clear hS; go_simp)) ?_
    intro a' ha'
    simp only [Act.put, List.setIfInBounds_toArray, List.set_cons_zero, List.set_cons_succ] at ha'
    subst ha'
    refine AnyS.next (i := 8) (d := some 14) (v := .int .i64 (st : Nat)) rfl rfl (by kernel_rfl) (by kernel_rfl) (by kernel_rfl) (StepsIf.yield (by kernel_rfl) (fun w' hS => by have n0 := hS.1.cell 0; have n1 := hS.1.cell 1; have n2 := hS.1.cell 2; simp only [List.getElem?_toArray, List.getElem?_cons_zero, List.getElem?_cons_succ] at n0 n1 n2; clear hS; go_simp)) ?_
    intro a' ha'
    simp only [Act.put, List.setIfInBounds_toArray, List.set_cons_zero, List.set_cons_succ] at ha'
    subst ha'
    refine AnyS.next (i := 9) (d := some 15) (v := .int .i64 (2 * (T : Int) - 1 + (l : Int) + (st : Int))) rfl rfl (by kernel_rfl) (by kernel_rfl) (by kernel_rfl) (StepsIf.yield (by kernel_rfl) (fun w' hS => by clear hS; go_simp)) ?_
    intro a' ha'
    simp only [Act.put, List.setIfInBounds_toArray, List.set_cons_zero, List.set_cons_succ] at ha'
    subst ha'
    refine AnyS.next (i := 10) (d := some 2) (v := .int .i64 (2 * (T : Int) - 1 + (l : Int) + (st : Int))) rfl rfl (by kernel_rfl) (by kernel_rfl) (by kernel_rfl) (StepsIf.yield (by kernel_rfl) (fun w' hS => by clear hS; go_simp)) ?_
    intro a' ha'
    simp only [Act.put, List.setIfInBounds_toArray, List.set_cons_zero, List.set_cons_succ] at ha'
    subst ha'
    refine AnyS.done (by kernel_rfl) (fun w6 hS => ?_) _
    have HQ := Lib.hid hS.2
    clear hS
    go_wp2_with fail
    go_ret
    refine ⟨?_, HQ.out⟩
    have e : ((arN s l st : Nat) : Int) = 2 * (T : Int) - 1 + (l : Int) + (st : Int) := by
      unfold arN
      rw [if_neg h0, ← HTT.out]
      omega
    rw [e]
    rfl
theorem szw_calls (a b c d : Nat) (ha : a ≤ 1000000000) (hb : b ≤ 1000000000) (hc : c ≤ 1000000000) (hd : d ≤ 1000000000) (w : World) :
    Calls Tryd.prog 42 #[.agg #[.int .i64 a, .int .i64 b], .agg #[.int .i64 c, .int .i64 d]] w fun e w' => e = .returned (.agg #[.int .i64 ((mn (a + c) : Nat) : Int), .int .i64 ((mn (b + d) : Nat) : Int)]) ∧ Below w.heap.size w w' := by
  have x1 : IntKind.i64.wrap ((a : Int) + (c : Int)) = (a : Int) + (c : Int) := IntWalk.i64_in _ (by omega)
  have x2 : IntKind.i64.wrap ((b : Int) + (d : Int)) = (b : Int) + (d : Int) := IntWalk.i64_in _ (by omega)
  have HBK := Lib.hid (show ∀ x y : Value, (((w.alloc (.cells #[.int .i64 a, .int .i64 b] 57)).alloc (.cells #[.int .i64 c, .int .i64 d] 57)).alloc (.cells #[x, y] 57)).heap[w.heap.size + 1 + 1]? = some (.cells #[x, y] 57 (0, 0)) from fun x y => by
    have h := Blk.new ((w.alloc (.cells #[.int .i64 a, .int .i64 b] 57)).alloc (.cells #[.int .i64 c, .int .i64 d] 57)) #[x, y] 57
    rw [World.size_alloc, World.size_alloc] at h
    exact h)
  have HBL := Lib.hid (show ∀ x y : Value, Below w.heap.size w (((w.alloc (.cells #[.int .i64 a, .int .i64 b] 57)).alloc (.cells #[.int .i64 c, .int .i64 d] 57)).alloc (.cells #[x, y] 57)) from fun x y => (((Below.refl _ _).alloc (Nat.le_refl _) _).alloc (by rw [World.size_alloc]; omega) _).alloc (by rw [World.size_alloc, World.size_alloc]; omega) _)
  have HE := Lib.hid (show ∀ x y : Int, x = (mn (a + c) : Nat) → y = (mn (b + d) : Nat) → Ending.returned (.agg #[.int .i64 x, .int .i64 y]) = Ending.returned (.agg #[.int .i64 ((mn (a + c) : Nat) : Int), .int .i64 ((mn (b + d) : Nat) : Int)]) from fun x y hx hy => by rw [hx, hy])
  go_enter Tryd.func42, Tryd.ntmps42
  go_wp2_with fail
  all_goals
    exact bodyPost_ret (results_cell_row rfl _ _ (w.heap.size + 1 + 1) 57 _ (0, 0) _ rfl (HBK.out _ _) Tryd.underlying57 rfl (by kernel_rfl)) rfl ⟨HE.out _ _ (by unfold mn; omega) (by unfold mn; omega), HBL.out _ _⟩
theorem times_calls (n a b : Nat) (hn : n ≤ 1000) (ha : a ≤ 1000000) (hb : b ≤ 1000000) (w : World) :
    Calls Tryd.prog 43 #[.agg #[.int .i64 a, .int .i64 b], .int .i64 n] w fun e w' => e = .returned (.agg #[.int .i64 ((n * a : Nat) : Int), .int .i64 ((n * b : Nat) : Int)]) ∧ Below w.heap.size w w' := by
  have h1 : n * a ≤ 1000000000 := Nat.mul_le_mul hn ha
  have h2 : n * b ≤ 1000000000 := Nat.mul_le_mul hn hb
  have x1 : IntKind.i64.wrap ((n : Int) * (a : Int)) = ((n * a : Nat) : Int) := by rw [← Int.natCast_mul]; exact IntWalk.i64_in _ (by omega)
  have x2 : IntKind.i64.wrap ((n : Int) * (b : Int)) = ((n * b : Nat) : Int) := by rw [← Int.natCast_mul]; exact IntWalk.i64_in _ (by omega)
  have HBK := Lib.hid (show ∀ x y : Value, ((w.alloc (.cells #[.int .i64 a, .int .i64 b] 57)).alloc (.cells #[x, y] 57)).heap[w.heap.size + 1]? = some (.cells #[x, y] 57 (0, 0)) from fun x y => by
    have h := Blk.new (w.alloc (.cells #[.int .i64 a, .int .i64 b] 57)) #[x, y] 57
    rw [World.size_alloc] at h
    exact h)
  have HBL := Lib.hid (show ∀ x y : Value, Below w.heap.size w ((w.alloc (.cells #[.int .i64 a, .int .i64 b] 57)).alloc (.cells #[x, y] 57)) from fun x y => ((Below.refl _ _).alloc (Nat.le_refl _) _).alloc (by rw [World.size_alloc]; omega) _)
  obtain ⟨A1, hA1⟩ : ∃ A1, A1 = n * a := ⟨_, rfl⟩
  obtain ⟨B1, hB1⟩ : ∃ B1, B1 = n * b := ⟨_, rfl⟩
  rw [← hA1] at x1 ⊢
  rw [← hB1] at x2 ⊢
  clear hA1 hB1
  go_enter Tryd.func43, Tryd.ntmps43
  go_wp2_with fail
  exact bodyPost_ret (results_cell_row rfl _ _ (w.heap.size + 1) 57 _ (0, 0) _ rfl (HBK.out _ _) Tryd.underlying57 rfl (by kernel_rfl)) rfl ⟨rfl, HBL.out _ _⟩
theorem bounded_calls (x : Int) (g : Nat) (hg : g ≤ 1000) (w : World) :
    Calls Tryd.prog 24 #[.int .i64 x, .int .i64 g] w fun e w' => e = .returned (.int .i64 (min (max x 0) g)) ∧ w' = w := by
  go_enter Tryd.func24, Tryd.ntmps24
  go_wp2_with fail
  all_goals
    go_ret
    refine ⟨?_, rfl⟩
    refine congrArg (fun x : Int => Ending.returned (Value.int .i64 x)) ?_
    omega
end
end Go.Proofs.YtpncomjpmilbkaaDoor

/- The developers' lower: copies of a Rep's kid; what a node adds; may a node be nothing. Stage 11. -/
namespace Go.Proofs.YtpncomjpmilbkaaDoor
open Go.RowKit BS

/-- The developers' copies of a Rep's kid: always there, may lack, without end. -/
def cS (x : NdN) (null : Bool) : Nat := if x.m = 0 then 0 else if x.n = 0 ∧ null = true then 1 else x.n.toNat
def cL (x : NdN) (null : Bool) : Nat := if x.m = 0 ∨ x.m = -1 then 0 else (x.m - cS x null).toNat
def cT (x : NdN) : Nat := if x.m = -1 then 1 else 0
theorem cSLT_le (x : NdN) (null : Bool) (h : rightN x.n x.m = true) : cS x null ≤ 100 ∧ cL x null ≤ 100 ∧ cT x ≤ 1 ∧ (cT x = 0 ∨ cL x null = 0) := by
  obtain ⟨h1, h2, h3⟩ := (rightN_iff _ _).1 h
  refine ⟨?_, ?_, ?_, ?_⟩
  · unfold cS
    split
    · omega
    · split <;> omega
  · unfold cL
    split
    · omega
    · omega
  · unfold cT
    split <;> omega
  · by_cases hm : x.m = -1
    · right
      unfold cL
      rw [if_pos (Or.inr hm)]
    · left
      unfold cT
      rw [if_neg hm]
/-- What is made of copies is what the document makes of them. -/
theorem of_all (t : TT) (x : NdN) (null : Bool) (h : rightN x.n x.m = true) : ofC t (cS x null) (cL x null) (cT x) = if x.m = 0 then .eps else jnT .cat (allT (.iter t) (cpN x null).1 (cpN x null).2) := by
  obtain ⟨h1, h2, h3⟩ := (rightN_iff _ _).1 h
  by_cases hm0 : x.m = 0
  · have e1 : cS x null = 0 := by unfold cS; rw [if_pos hm0]
    have e2 : cL x null = 0 := by unfold cL; rw [if_pos (.inl hm0)]
    have e3 : cT x = 0 := by unfold cT; rw [if_neg (by omega)]
    rw [if_pos hm0, e1, e2, e3]
    rfl
  · rw [if_neg hm0]
    have eS : cS x null = (if x.n = 0 ∧ null = true then (1 : Int) else x.n).toNat := by
      unfold cS
      rw [if_neg hm0]
      split <;> rfl
    by_cases hm1 : x.m = -1
    · have e2 : cL x null = 0 := by unfold cL; rw [if_pos (.inr hm1)]
      have e3 : cT x = 1 := by unfold cT; rw [if_pos hm1]
      have ec : cpN x null = (if x.n = 0 ∧ null = true then 1 else x.n, -1) := by unfold cpN; simp only [if_pos hm1]
      rw [ec, e2, e3]
      unfold ofC allT
      rw [if_neg (by omega), if_pos (by omega), if_neg (by omega), if_pos rfl, List.append_nil, eS]
    · have e3 : cT x = 0 := by unfold cT; rw [if_neg hm1]
      have e2 : cL x null = (x.m - cS x null).toNat := by unfold cL; rw [if_neg (by omega)]
      have hS1 : (cS x null : Int) = if x.n = 0 ∧ null = true then (1 : Int) else x.n := by rw [eS]; split <;> omega
      generalize hq : (if x.n = 0 ∧ null = true then (1 : Int) else x.n) = q at *
      have ec : cpN x null = if q < x.m then (q, x.m - q) else (q, 0) := by unfold cpN; simp only [if_neg hm1, hq]
      have hq1 : q ≤ x.m := by rw [← hq]; split <;> omega
      rw [ec, e3]
      unfold ofC
      by_cases hlt : q < x.m
      · rw [if_pos hlt, if_neg (by omega), if_neg (by omega), if_pos (by omega), List.append_nil]
        unfold allT
        rw [if_neg (by show ¬ (x.m - q = -1); omega), if_pos (by show 0 < x.m - q; omega)]
        have e4 : cL x null = (x.m - q).toNat := by omega
        have e5 : cS x null = q.toNat := by omega
        rw [e4, e5]
      · rw [if_neg hlt]
        have hpos : cS x null ≠ 0 := by omega
        have e4 : cL x null = 0 := by omega
        rw [e4, if_neg (by omega), if_neg (by omega), if_neg (by omega), List.append_nil, List.append_nil]
        unfold allT
        rw [if_neg (by show ¬ ((0 : Int) = -1); omega), if_neg (by show ¬ (0 < (0 : Int)); omega), List.append_nil]
        have e5 : cS x null = q.toNat := by omega
        rw [e5]
set_option maxRecDepth 100000 in
set_option maxHeartbeats 16000000 in
theorem lcopies_calls (l : List NdN) (hl : l.length ≤ 1000) (hr : rightR l = true) (i : Nat) (hi : i < l.length) (hk4 : l[i].kind = 4) (a : Option Addr) (ca gk : Nat) (am : Option Addr) (cm gz : Nat) (w : World) (h : TreeN l l.length l.length a gk am gz w) :
    Calls Tryd.prog 46 #[.agg (treeC l.length a ca gk am cm gz), .int .i64 i] w fun e w' => e = .returned (.agg #[.int .i64 (cS l[i] (nulV l ((kidsR l i).headD 0).toNat) : Nat), .int .i64 (cL l[i] (nulV l ((kidsR l i).headD 0).toNat) : Nat), .int .i64 (cT l[i] : Nat)]) ∧ Below w.heap.size w w' := by
  obtain ⟨kd, hkd, hkdi, hrn⟩ : ∃ kd : Nat, kidsR l i = [(kd : Int)] ∧ kd < i ∧ rightN l[i].n l[i].m = true := by
    rcases node_right l hr i hi with ⟨hk, _⟩ | ⟨hk, _⟩ | ⟨_, hk, _⟩ | ⟨b, _, hK, hb, hn⟩ | ⟨hk, _⟩
    · omega
    · omega
    · omega
    · exact ⟨b, hK, hb, hn⟩
    · omega
  obtain ⟨g, off, rfl, hg, hc⟩ := h.nodes (by intro e; subst e; simp at hi)
  obtain ⟨kb, kcap, hq1, hq2⟩ := h.kids i hi
  rw [hkd] at hq1 hq2 ⊢
  obtain ⟨kg, ko, rfl, hkg, hkc⟩ := hq2 (by simp)
  have hkc0 := hkc 0 (by simp)
  rw [List.length_singleton] at hq1
  have hz := h.nulls kd (by omega)
  have hgk := h.kl
  have hgz := h.zl
  rw [show (([(kd : Int)] : List Int).headD 0).toNat = kd from rfl]
  have d0 := hc i hi 0 (by decide); have d1 := hc i hi 1 (by decide); have d2 := hc i hi 2 (by decide); have d3 := hc i hi 3 (by decide); have d4 := hc i hi 4 (by decide); have d5 := hc i hi 5 (by decide); have d6 := hc i hi 6 (by decide); have d7 := hc i hi 7 (by decide)
  obtain ⟨nl, hnl⟩ : ∃ b, b = nulV l kd := ⟨_, rfl⟩
  rw [← hnl] at hz ⊢
  clear hc hkc hq2 hnl h hk4
  generalize l[i] = x at *
  obtain ⟨k, kc, n, m, t⟩ := x
  simp only [ndA, List.getElem?_toArray, List.getElem?_cons_zero, List.getElem?_cons_succ, Nat.add_zero] at d0 d1 d2 d3 d4 d5 d6 d7
  have hb1 : Below w.heap.size w (((w.alloc (.cells (treeC l.length (some ⟨g, off, none⟩) ca gk am cm gz) 52)).alloc (.cells #[.int .i64 0, .int .i64 0, .int .i64 0] 88)).alloc (.cells (ndI k kc n m t) 46)) := (((Below.refl _ _).alloc (Nat.le_refl _) _).alloc (by rw [World.size_alloc]; omega) _).alloc (by rw [World.size_alloc, World.size_alloc]; omega) _
  have BT := ((Blk.new w (treeC l.length (some ⟨g, off, none⟩) ca gk am cm gz) 52).alloc (.cells #[.int .i64 0, .int .i64 0, .int .i64 0] 88)).alloc (.cells (ndI k kc n m t) 46)
  have BR := (Blk.new (w.alloc (.cells (treeC l.length (some ⟨g, off, none⟩) ca gk am cm gz) 52)) #[.int .i64 0, .int .i64 0, .int .i64 0] 88).alloc (.cells (ndI k kc n m t) 46)
  have BX := Blk.new ((w.alloc (.cells (treeC l.length (some ⟨g, off, none⟩) ca gk am cm gz) 52)).alloc (.cells #[.int .i64 0, .int .i64 0, .int .i64 0] 88)) (ndI k kc n m t) 46
  rw [World.size_alloc] at BR BX
  rw [World.size_alloc] at BX
  have hii : (i : Int) < (l.length : Int) := by omega
  have hkdl : (kd : Int) < (l.length : Int) := by omega
  have hkdl2 : kd < l.length := by omega
  have HB := Lib.hid hb1
  have hsz1 : (((w.alloc (.cells (treeC l.length (some ⟨g, off, none⟩) ca gk am cm gz) 52)).alloc (.cells #[.int .i64 0, .int .i64 0, .int .i64 0] 88)).alloc (.cells (ndI k kc n m t) 46)).heap.size = w.heap.size + 3 := by rw [World.size_alloc, World.size_alloc, World.size_alloc]
  clear hb1
  go_enter Tryd.func46, Tryd.ntmps46
  go_upto_region 2 with fail
  have q1 := (HB.out.cell (p := ⟨gk, i, none⟩) hgk).trans hq1
  have q2 := (HB.out.cell (p := ⟨kg, ko + 0, none⟩) hkg).trans hkc0
  have q3 := (HB.out.cell (p := ⟨gz, kd, none⟩) hgz).trans hz
  rw [Nat.add_zero] at q2
  simp only [List.getElem_cons_zero] at q2
  clear d0 d1 d2 d3 d4 d5 d6 d7 hq1 hkc0 hz
  generalize ((w.alloc (.cells (treeC l.length (some ⟨g, off, none⟩) ca gk am cm gz) 52)).alloc (.cells #[.int .i64 0, .int .i64 0, .int .i64 0] 88)).alloc (.cells (ndI k kc n m t) 46) = w1 at *
  have x2 := BX.cell 2; have x3 := BX.cell 3
  simp only [List.getElem?_toArray, List.getElem?_cons_zero, List.getElem?_cons_succ] at x2 x3
  have hci : (Tryd.prog.info? 88).map (·.size) = some 3 := by kernel_rfl
  have HBR := Lib.hid BR
  by_cases hm0 : m = 0
  · subst hm0
    go_wp2_with ((with_reducible refine wpList_store_st (o := ⟨none, .store 88 _ _, _, _, _, _⟩) rfl 88 _ _ rfl (w.heap.size + 1) rfl rfl (run_storeAt_row _ (w.heap.size + 1) 88 88 #[.int .i64 0, .int .i64 0, .int .i64 0] #[.int .i64 0, .int .i64 0, .int .i64 0] ?_ ?_ ?_ ?_) ?_); exact HBR.out; exact hci; rfl; simp [Value.oneCell'])
    exact bodyPost_ret (v := .agg #[.int .i64 0, .int .i64 0, .int .i64 0]) (results_cell_row rfl _ _ (w.heap.size + 1) 88 _ (0, 0) _ rfl (Blk.setRow HBR.out) Tryd.underlying88 rfl (by kernel_rfl)) rfl ⟨by first | rfl | (unfold cS cL cT; simp), below_row HB.out (by omega) _⟩

  · have em0 : (m == 0) = false := by rw [beq_eq_false_iff_ne]; exact hm0
    have e3 : IntKind.i64.wrap n = n := IntWalk.i64_in _ (by have := (rightN_iff _ _).1 hrn; simp only at this; omega)
    obtain ⟨hn0, hn99, hm99⟩ := (rightN_iff _ _).1 hrn
    simp only at hn0 hn99 hm99
    have hbc : Below w1.heap.size w1 (w1.alloc (.cells #[.int .i64 n, .int .i64 0, .int .i64 0] 88)) := (Below.refl _ _).alloc (Nat.le_refl _) _
    have BC := Blk.new w1 #[.int .i64 n, .int .i64 0, .int .i64 0] 88
    have BR2 := Lib.hid (BR.below hbc BR.lt)
    have BT2 := BT.below hbc BT.lt
    have BX2 := BX.below hbc BX.lt
    have HB2 := Lib.hid (HB.out.trans (hbc.mono HB.out.size))
    have u1 := (hbc.cell (p := ⟨gk, i, none⟩) (by have := HB.out.size; show gk < _; omega)).trans q1
    have u2 := (hbc.cell (p := ⟨kg, ko, none⟩) (by have := HB.out.size; show kg < _; omega)).trans q2
    have u3 := (hbc.cell (p := ⟨gz, kd, none⟩) (by have := HB.out.size; show gz < _; omega)).trans q3
    have HSZ := Lib.hid hsz1
    clear HBR HB hsz1
    go_upto_region 5 with fail
    clear x2 x3 q1 q2 q3 hbc BR BT BX
    generalize w1.alloc (.cells #[.int .i64 n, .int .i64 0, .int .i64 0] 88) = w2 at *
    obtain ⟨C, hCq⟩ : ∃ C, C = w1.heap.size := ⟨_, rfl⟩
    rw [← hCq] at BC ⊢
    have hC : C = w.heap.size + 3 := hCq.trans HSZ.out
    clear hCq HSZ
    have HCC := Lib.hid hC
    clear hC
    have x2 := BX2.cell 2; have x3 := BX2.cell 3; have t1 := BT2.cell 1; have t3 := BT2.cell 3
    simp only [List.getElem?_toArray, List.getElem?_cons_zero, List.getElem?_cons_succ] at x2 x3 t1 t3
    have HBC := Lib.hid BC
    have HBX := Lib.hid BX2
    by_cases hn : n = 0
    · subst hn
      cases nl with
      | true =>
        go_quiet (fail)
        obtain ⟨Wa, hWa⟩ : ∃ W, W = w2.drewN nq := ⟨_, rfl⟩
        have aC := HBC.out.drewN nq; have aX := HBX.out.drewN nq; have aR := BR2.out.drewN nq; have aB := below_drN HB2.out nq
        rw [← hWa] at aC aX aR aB ⊢
        clear hWa HBC HBX BR2 HB2 u1 u2 u3 t1 t3 x2 x3 BC BX2 BT2
        have bC : Blk (Wa.setCell ⟨C, 0, none⟩ (.int .i64 1)) C #[.int .i64 1, .int .i64 0, .int .i64 0] 88 := aC.set 0 (.int .i64 1)
        have bX : Blk (Wa.setCell ⟨C, 0, none⟩ (.int .i64 1)) (w.heap.size + 1 + 1) (ndI k kc 0 m t) 46 := aX.other (by have := HCC.out; omega) 0 (.int .i64 1)
        have bR : Blk (Wa.setCell ⟨C, 0, none⟩ (.int .i64 1)) (w.heap.size + 1) #[.int .i64 0, .int .i64 0, .int .i64 0] 88 := aR.other (by have := HCC.out; omega) 0 (.int .i64 1)
        have bB : Below w.heap.size w (Wa.setCell ⟨C, 0, none⟩ (.int .i64 1)) := below_set aB (by have := HCC.out; omega) 0 (.int .i64 1)
        have k0 := aC.cell 0; have k1 := aC.cell 1; have k2 := aC.cell 2; have y3 := aX.cell 3; have f0 := aC.frozen 0
        simp only [List.getElem?_toArray, List.getElem?_cons_zero, List.getElem?_cons_succ] at k0 k1 k2 y3
        clear aC aX aR aB
        have bHC := Lib.hid bC; have bHX := Lib.hid bX; have bHR := Lib.hid bR; have bHB := Lib.hid bB
        clear bC bX bR bB
        go_upto_region 7 with fail
        clear k0 k1 k2 y3 f0
        have bC := bHC.out; have bX := bHX.out; have bR := bHR.out; have bB := bHB.out
        clear bHC bHX bHR bHB
        generalize Wa.setCell ⟨C, 0, none⟩ (.int .i64 1) = Wb at *
        by_cases hm1 : m = -1
        · subst hm1
          have cC : Blk (Wb.setCell ⟨C, 2, none⟩ (.int .i64 1)) C #[.int .i64 1, .int .i64 0, .int .i64 1] 88 := bC.set 2 (.int .i64 1)
          have cX : Blk (Wb.setCell ⟨C, 2, none⟩ (.int .i64 1)) (w.heap.size + 1 + 1) (ndI k kc 0 (-1) t) 46 := bX.other (by have := HCC.out; omega) 2 (.int .i64 1)
          have cR : Blk (Wb.setCell ⟨C, 2, none⟩ (.int .i64 1)) (w.heap.size + 1) #[.int .i64 0, .int .i64 0, .int .i64 0] 88 := bR.other (by have := HCC.out; omega) 2 (.int .i64 1)
          have cB : Below w.heap.size w (Wb.setCell ⟨C, 2, none⟩ (.int .i64 1)) := below_set bB (by have := HCC.out; omega) 2 (.int .i64 1)
          have k0 := bC.cell 0; have k1 := bC.cell 1; have k2 := bC.cell 2; have y3 := bX.cell 3; have f2 := bC.frozen 2
          simp only [List.getElem?_toArray, List.getElem?_cons_zero, List.getElem?_cons_succ] at k0 k1 k2 y3
          clear bC bX bR bB
          have cHC := Lib.hid cC; have cHX := Lib.hid cX; have cHR := Lib.hid cR; have cHB := Lib.hid cB
          clear cC cX cR cB
          go_upto_region 10 with fail
          clear k0 k1 k2 y3 f2
          have cC := cHC.out
          generalize Wb.setCell ⟨C, 2, none⟩ (.int .i64 1) = Wc at *
          have k0 := cC.cell 0; have k1 := cC.cell 1; have k2 := cC.cell 2
          simp only [List.getElem?_toArray, List.getElem?_cons_zero, List.getElem?_cons_succ] at k0 k1 k2
          clear cC
          have eS : (cS ⟨k, kc, 0, (-1), t⟩ true : Int) = 1 := by unfold cS; rw [if_neg hm0]; rw [if_pos ⟨rfl, rfl⟩]; rfl
          have eL : (cL ⟨k, kc, 0, (-1), t⟩ true : Int) = 0 := by unfold cL; rw [if_pos (Or.inr rfl)]; rfl
          have eT : (cT ⟨k, kc, 0, (-1), t⟩ : Int) = 1 := by unfold cT; rw [if_pos rfl]; rfl
          have HE := Lib.hid (show Ending.returned (.agg #[.int .i64 1, .int .i64 0, .int .i64 1]) = Ending.returned (.agg #[.int .i64 (cS ⟨k, kc, 0, (-1), t⟩ true : Nat), .int .i64 (cL ⟨k, kc, 0, (-1), t⟩ true : Nat), .int .i64 (cT ⟨k, kc, 0, (-1), t⟩ : Nat)]) from by rw [eS, eL, eT])
          clear eS eL eT
          go_wp2_with ((with_reducible refine wpList_store_st (o := ⟨none, .store 88 _ _, _, _, _, _⟩) rfl 88 _ _ rfl (w.heap.size + 1) rfl rfl (run_storeAt_row _ (w.heap.size + 1) 88 88 #[.int .i64 0, .int .i64 0, .int .i64 0] #[.int .i64 1, .int .i64 0, .int .i64 1] ?_ ?_ ?_ ?_) ?_); exact cHR.out; exact hci; rfl; simp [Value.oneCell'])
          exact bodyPost_ret (results_cell_row rfl _ _ (w.heap.size + 1) 88 _ (0, 0) _ rfl (Blk.setRow cHR.out) Tryd.underlying88 rfl (by kernel_rfl)) rfl ⟨HE.out, below_row cHB.out (by omega) _⟩
        · have em1 : (m == -1) = false := by rw [beq_eq_false_iff_ne]; exact hm1
          have hmp : 0 < m := by omega
          have xs : IntKind.i64.wrap ((m - 1)) = (m - 1) := IntWalk.i64_in _ (by omega)
          have cC : Blk (Wb.setCell ⟨C, 1, none⟩ (.int .i64 (m - 1))) C #[.int .i64 1, .int .i64 (m - 1), .int .i64 0] 88 := bC.set 1 (.int .i64 (m - 1))
          have cX : Blk (Wb.setCell ⟨C, 1, none⟩ (.int .i64 (m - 1))) (w.heap.size + 1 + 1) (ndI k kc 0 m t) 46 := bX.other (by have := HCC.out; omega) 1 (.int .i64 (m - 1))
          have cR : Blk (Wb.setCell ⟨C, 1, none⟩ (.int .i64 (m - 1))) (w.heap.size + 1) #[.int .i64 0, .int .i64 0, .int .i64 0] 88 := bR.other (by have := HCC.out; omega) 1 (.int .i64 (m - 1))
          have cB : Below w.heap.size w (Wb.setCell ⟨C, 1, none⟩ (.int .i64 (m - 1))) := below_set bB (by have := HCC.out; omega) 1 (.int .i64 (m - 1))
          have k0 := bC.cell 0; have k1 := bC.cell 1; have k2 := bC.cell 2; have y3 := bX.cell 3; have f1 := bC.frozen 1
          simp only [List.getElem?_toArray, List.getElem?_cons_zero, List.getElem?_cons_succ] at k0 k1 k2 y3
          clear bC bX bR bB
          have cHC := Lib.hid cC; have cHX := Lib.hid cX; have cHR := Lib.hid cR; have cHB := Lib.hid cB
          clear cC cX cR cB
          go_upto_region 10 with fail
          clear k0 k1 k2 y3 f1
          have cC := cHC.out
          generalize Wb.setCell ⟨C, 1, none⟩ (.int .i64 (m - 1)) = Wc at *
          have k0 := cC.cell 0; have k1 := cC.cell 1; have k2 := cC.cell 2
          simp only [List.getElem?_toArray, List.getElem?_cons_zero, List.getElem?_cons_succ] at k0 k1 k2
          clear cC
          have eS : (cS ⟨k, kc, 0, m, t⟩ true : Int) = 1 := by unfold cS; rw [if_neg hm0]; rw [if_pos ⟨rfl, rfl⟩]; rfl
          have eL : (cL ⟨k, kc, 0, m, t⟩ true : Int) = (m - 1) := by unfold cL; rw [if_neg (fun h => h.elim hm0 hm1)]; show (((m - (cS ⟨k, kc, 0, m, t⟩ true : Int)).toNat : Nat) : Int) = (m - 1); rw [eS]; omega
          have eT : (cT ⟨k, kc, 0, m, t⟩ : Int) = 0 := by unfold cT; rw [if_neg hm1]; rfl
          have HE := Lib.hid (show Ending.returned (.agg #[.int .i64 1, .int .i64 (m - 1), .int .i64 0]) = Ending.returned (.agg #[.int .i64 (cS ⟨k, kc, 0, m, t⟩ true : Nat), .int .i64 (cL ⟨k, kc, 0, m, t⟩ true : Nat), .int .i64 (cT ⟨k, kc, 0, m, t⟩ : Nat)]) from by rw [eS, eL, eT])
          clear eS eL eT
          go_wp2_with ((with_reducible refine wpList_store_st (o := ⟨none, .store 88 _ _, _, _, _, _⟩) rfl 88 _ _ rfl (w.heap.size + 1) rfl rfl (run_storeAt_row _ (w.heap.size + 1) 88 88 #[.int .i64 0, .int .i64 0, .int .i64 0] #[.int .i64 1, .int .i64 (m - 1), .int .i64 0] ?_ ?_ ?_ ?_) ?_); exact cHR.out; exact hci; rfl; simp [Value.oneCell'])
          exact bodyPost_ret (results_cell_row rfl _ _ (w.heap.size + 1) 88 _ (0, 0) _ rfl (Blk.setRow cHR.out) Tryd.underlying88 rfl (by kernel_rfl)) rfl ⟨HE.out, below_row cHB.out (by omega) _⟩
      | false =>
        go_quiet (fail)
        obtain ⟨Wa, hWa⟩ : ∃ W, W = w2.drewN nq := ⟨_, rfl⟩
        have aC := HBC.out.drewN nq; have aX := HBX.out.drewN nq; have aR := BR2.out.drewN nq; have aB := below_drN HB2.out nq
        rw [← hWa] at aC aX aR aB ⊢
        clear hWa HBC HBX BR2 HB2 u1 u2 u3 t1 t3 x2 x3 BC BX2 BT2
        by_cases hm1 : m = -1
        · subst hm1
          have cC : Blk (Wa.setCell ⟨C, 2, none⟩ (.int .i64 1)) C #[.int .i64 0, .int .i64 0, .int .i64 1] 88 := aC.set 2 (.int .i64 1)
          have cX : Blk (Wa.setCell ⟨C, 2, none⟩ (.int .i64 1)) (w.heap.size + 1 + 1) (ndI k kc 0 (-1) t) 46 := aX.other (by have := HCC.out; omega) 2 (.int .i64 1)
          have cR : Blk (Wa.setCell ⟨C, 2, none⟩ (.int .i64 1)) (w.heap.size + 1) #[.int .i64 0, .int .i64 0, .int .i64 0] 88 := aR.other (by have := HCC.out; omega) 2 (.int .i64 1)
          have cB : Below w.heap.size w (Wa.setCell ⟨C, 2, none⟩ (.int .i64 1)) := below_set aB (by have := HCC.out; omega) 2 (.int .i64 1)
          have k0 := aC.cell 0; have k1 := aC.cell 1; have k2 := aC.cell 2; have y3 := aX.cell 3; have f2 := aC.frozen 2
          simp only [List.getElem?_toArray, List.getElem?_cons_zero, List.getElem?_cons_succ] at k0 k1 k2 y3
          clear aC aX aR aB
          have cHC := Lib.hid cC; have cHX := Lib.hid cX; have cHR := Lib.hid cR; have cHB := Lib.hid cB
          clear cC cX cR cB
          go_upto_region 10 with fail
          clear k0 k1 k2 y3 f2
          have cC := cHC.out
          generalize Wa.setCell ⟨C, 2, none⟩ (.int .i64 1) = Wc at *
          have k0 := cC.cell 0; have k1 := cC.cell 1; have k2 := cC.cell 2
          simp only [List.getElem?_toArray, List.getElem?_cons_zero, List.getElem?_cons_succ] at k0 k1 k2
          clear cC
          have eS : (cS ⟨k, kc, 0, (-1), t⟩ false : Int) = 0 := by unfold cS; rw [if_neg hm0]; rw [if_neg (by simp)]; rfl
          have eL : (cL ⟨k, kc, 0, (-1), t⟩ false : Int) = 0 := by unfold cL; rw [if_pos (Or.inr rfl)]; rfl
          have eT : (cT ⟨k, kc, 0, (-1), t⟩ : Int) = 1 := by unfold cT; rw [if_pos rfl]; rfl
          have HE := Lib.hid (show Ending.returned (.agg #[.int .i64 0, .int .i64 0, .int .i64 1]) = Ending.returned (.agg #[.int .i64 (cS ⟨k, kc, 0, (-1), t⟩ false : Nat), .int .i64 (cL ⟨k, kc, 0, (-1), t⟩ false : Nat), .int .i64 (cT ⟨k, kc, 0, (-1), t⟩ : Nat)]) from by rw [eS, eL, eT])
          clear eS eL eT
          go_wp2_with ((with_reducible refine wpList_store_st (o := ⟨none, .store 88 _ _, _, _, _, _⟩) rfl 88 _ _ rfl (w.heap.size + 1) rfl rfl (run_storeAt_row _ (w.heap.size + 1) 88 88 #[.int .i64 0, .int .i64 0, .int .i64 0] #[.int .i64 0, .int .i64 0, .int .i64 1] ?_ ?_ ?_ ?_) ?_); exact cHR.out; exact hci; rfl; simp [Value.oneCell'])
          exact bodyPost_ret (results_cell_row rfl _ _ (w.heap.size + 1) 88 _ (0, 0) _ rfl (Blk.setRow cHR.out) Tryd.underlying88 rfl (by kernel_rfl)) rfl ⟨HE.out, below_row cHB.out (by omega) _⟩
        · have em1 : (m == -1) = false := by rw [beq_eq_false_iff_ne]; exact hm1
          have hmp : 0 < m := by omega
          have xs : IntKind.i64.wrap (m) = m := IntWalk.i64_in _ (by omega)
          have cC : Blk (Wa.setCell ⟨C, 1, none⟩ (.int .i64 m)) C #[.int .i64 0, .int .i64 m, .int .i64 0] 88 := aC.set 1 (.int .i64 m)
          have cX : Blk (Wa.setCell ⟨C, 1, none⟩ (.int .i64 m)) (w.heap.size + 1 + 1) (ndI k kc 0 m t) 46 := aX.other (by have := HCC.out; omega) 1 (.int .i64 m)
          have cR : Blk (Wa.setCell ⟨C, 1, none⟩ (.int .i64 m)) (w.heap.size + 1) #[.int .i64 0, .int .i64 0, .int .i64 0] 88 := aR.other (by have := HCC.out; omega) 1 (.int .i64 m)
          have cB : Below w.heap.size w (Wa.setCell ⟨C, 1, none⟩ (.int .i64 m)) := below_set aB (by have := HCC.out; omega) 1 (.int .i64 m)
          have k0 := aC.cell 0; have k1 := aC.cell 1; have k2 := aC.cell 2; have y3 := aX.cell 3; have f1 := aC.frozen 1
          simp only [List.getElem?_toArray, List.getElem?_cons_zero, List.getElem?_cons_succ] at k0 k1 k2 y3
          clear aC aX aR aB
          have cHC := Lib.hid cC; have cHX := Lib.hid cX; have cHR := Lib.hid cR; have cHB := Lib.hid cB
          clear cC cX cR cB
          go_upto_region 10 with fail
          clear k0 k1 k2 y3 f1
          have cC := cHC.out
          generalize Wa.setCell ⟨C, 1, none⟩ (.int .i64 m) = Wc at *
          have k0 := cC.cell 0; have k1 := cC.cell 1; have k2 := cC.cell 2
          simp only [List.getElem?_toArray, List.getElem?_cons_zero, List.getElem?_cons_succ] at k0 k1 k2
          clear cC
          have eS : (cS ⟨k, kc, 0, m, t⟩ false : Int) = 0 := by unfold cS; rw [if_neg hm0]; rw [if_neg (by simp)]; rfl
          have eL : (cL ⟨k, kc, 0, m, t⟩ false : Int) = m := by unfold cL; rw [if_neg (fun h => h.elim hm0 hm1)]; show (((m - (cS ⟨k, kc, 0, m, t⟩ false : Int)).toNat : Nat) : Int) = m; rw [eS]; omega
          have eT : (cT ⟨k, kc, 0, m, t⟩ : Int) = 0 := by unfold cT; rw [if_neg hm1]; rfl
          have HE := Lib.hid (show Ending.returned (.agg #[.int .i64 0, .int .i64 m, .int .i64 0]) = Ending.returned (.agg #[.int .i64 (cS ⟨k, kc, 0, m, t⟩ false : Nat), .int .i64 (cL ⟨k, kc, 0, m, t⟩ false : Nat), .int .i64 (cT ⟨k, kc, 0, m, t⟩ : Nat)]) from by rw [eS, eL, eT])
          clear eS eL eT
          go_wp2_with ((with_reducible refine wpList_store_st (o := ⟨none, .store 88 _ _, _, _, _, _⟩) rfl 88 _ _ rfl (w.heap.size + 1) rfl rfl (run_storeAt_row _ (w.heap.size + 1) 88 88 #[.int .i64 0, .int .i64 0, .int .i64 0] #[.int .i64 0, .int .i64 m, .int .i64 0] ?_ ?_ ?_ ?_) ?_); exact cHR.out; exact hci; rfl; simp [Value.oneCell'])
          exact bodyPost_ret (results_cell_row rfl _ _ (w.heap.size + 1) 88 _ (0, 0) _ rfl (Blk.setRow cHR.out) Tryd.underlying88 rfl (by kernel_rfl)) rfl ⟨HE.out, below_row cHB.out (by omega) _⟩
    · have en0 : (n == 0) = false := by rw [beq_eq_false_iff_ne]; exact hn
      go_quiet (fail)
      obtain ⟨Wa, hWa⟩ : ∃ W, W = w2.drewN nq := ⟨_, rfl⟩
      have aC := HBC.out.drewN nq; have aX := HBX.out.drewN nq; have aR := BR2.out.drewN nq; have aB := below_drN HB2.out nq
      rw [← hWa] at aC aX aR aB ⊢
      clear hWa HBC HBX BR2 HB2 u1 u2 u3 t1 t3 x2 x3 BC BX2 BT2
      by_cases hm1 : m = -1
      · subst hm1
        have cC : Blk (Wa.setCell ⟨C, 2, none⟩ (.int .i64 1)) C #[.int .i64 n, .int .i64 0, .int .i64 1] 88 := aC.set 2 (.int .i64 1)
        have cX : Blk (Wa.setCell ⟨C, 2, none⟩ (.int .i64 1)) (w.heap.size + 1 + 1) (ndI k kc n (-1) t) 46 := aX.other (by have := HCC.out; omega) 2 (.int .i64 1)
        have cR : Blk (Wa.setCell ⟨C, 2, none⟩ (.int .i64 1)) (w.heap.size + 1) #[.int .i64 0, .int .i64 0, .int .i64 0] 88 := aR.other (by have := HCC.out; omega) 2 (.int .i64 1)
        have cB : Below w.heap.size w (Wa.setCell ⟨C, 2, none⟩ (.int .i64 1)) := below_set aB (by have := HCC.out; omega) 2 (.int .i64 1)
        have k0 := aC.cell 0; have k1 := aC.cell 1; have k2 := aC.cell 2; have y3 := aX.cell 3; have f2 := aC.frozen 2
        simp only [List.getElem?_toArray, List.getElem?_cons_zero, List.getElem?_cons_succ] at k0 k1 k2 y3
        clear aC aX aR aB
        have cHC := Lib.hid cC; have cHX := Lib.hid cX; have cHR := Lib.hid cR; have cHB := Lib.hid cB
        clear cC cX cR cB
        go_upto_region 10 with fail
        clear k0 k1 k2 y3 f2
        have cC := cHC.out
        generalize Wa.setCell ⟨C, 2, none⟩ (.int .i64 1) = Wc at *
        have k0 := cC.cell 0; have k1 := cC.cell 1; have k2 := cC.cell 2
        simp only [List.getElem?_toArray, List.getElem?_cons_zero, List.getElem?_cons_succ] at k0 k1 k2
        clear cC
        have eS : (cS ⟨k, kc, n, (-1), t⟩ nl : Int) = n := by unfold cS; rw [if_neg hm0]; rw [if_neg (fun h => hn h.1)]; exact Int.toNat_of_nonneg hn0
        have eL : (cL ⟨k, kc, n, (-1), t⟩ nl : Int) = 0 := by unfold cL; rw [if_pos (Or.inr rfl)]; rfl
        have eT : (cT ⟨k, kc, n, (-1), t⟩ : Int) = 1 := by unfold cT; rw [if_pos rfl]; rfl
        have HE := Lib.hid (show Ending.returned (.agg #[.int .i64 n, .int .i64 0, .int .i64 1]) = Ending.returned (.agg #[.int .i64 (cS ⟨k, kc, n, (-1), t⟩ nl : Nat), .int .i64 (cL ⟨k, kc, n, (-1), t⟩ nl : Nat), .int .i64 (cT ⟨k, kc, n, (-1), t⟩ : Nat)]) from by rw [eS, eL, eT])
        clear eS eL eT
        go_wp2_with ((with_reducible refine wpList_store_st (o := ⟨none, .store 88 _ _, _, _, _, _⟩) rfl 88 _ _ rfl (w.heap.size + 1) rfl rfl (run_storeAt_row _ (w.heap.size + 1) 88 88 #[.int .i64 0, .int .i64 0, .int .i64 0] #[.int .i64 n, .int .i64 0, .int .i64 1] ?_ ?_ ?_ ?_) ?_); exact cHR.out; exact hci; rfl; simp [Value.oneCell'])
        exact bodyPost_ret (results_cell_row rfl _ _ (w.heap.size + 1) 88 _ (0, 0) _ rfl (Blk.setRow cHR.out) Tryd.underlying88 rfl (by kernel_rfl)) rfl ⟨HE.out, below_row cHB.out (by omega) _⟩
      · have em1 : (m == -1) = false := by rw [beq_eq_false_iff_ne]; exact hm1
        have hmp : 0 < m := by omega
        have xs : IntKind.i64.wrap ((m - n)) = (m - n) := IntWalk.i64_in _ (by omega)
        have cC : Blk (Wa.setCell ⟨C, 1, none⟩ (.int .i64 (m - n))) C #[.int .i64 n, .int .i64 (m - n), .int .i64 0] 88 := aC.set 1 (.int .i64 (m - n))
        have cX : Blk (Wa.setCell ⟨C, 1, none⟩ (.int .i64 (m - n))) (w.heap.size + 1 + 1) (ndI k kc n m t) 46 := aX.other (by have := HCC.out; omega) 1 (.int .i64 (m - n))
        have cR : Blk (Wa.setCell ⟨C, 1, none⟩ (.int .i64 (m - n))) (w.heap.size + 1) #[.int .i64 0, .int .i64 0, .int .i64 0] 88 := aR.other (by have := HCC.out; omega) 1 (.int .i64 (m - n))
        have cB : Below w.heap.size w (Wa.setCell ⟨C, 1, none⟩ (.int .i64 (m - n))) := below_set aB (by have := HCC.out; omega) 1 (.int .i64 (m - n))
        have k0 := aC.cell 0; have k1 := aC.cell 1; have k2 := aC.cell 2; have y3 := aX.cell 3; have f1 := aC.frozen 1
        simp only [List.getElem?_toArray, List.getElem?_cons_zero, List.getElem?_cons_succ] at k0 k1 k2 y3
        clear aC aX aR aB
        have cHC := Lib.hid cC; have cHX := Lib.hid cX; have cHR := Lib.hid cR; have cHB := Lib.hid cB
        clear cC cX cR cB
        go_upto_region 10 with fail
        clear k0 k1 k2 y3 f1
        have cC := cHC.out
        generalize Wa.setCell ⟨C, 1, none⟩ (.int .i64 (m - n)) = Wc at *
        have k0 := cC.cell 0; have k1 := cC.cell 1; have k2 := cC.cell 2
        simp only [List.getElem?_toArray, List.getElem?_cons_zero, List.getElem?_cons_succ] at k0 k1 k2
        clear cC
        have eS : (cS ⟨k, kc, n, m, t⟩ nl : Int) = n := by unfold cS; rw [if_neg hm0]; rw [if_neg (fun h => hn h.1)]; exact Int.toNat_of_nonneg hn0
        have eL : (cL ⟨k, kc, n, m, t⟩ nl : Int) = (m - n) := by unfold cL; rw [if_neg (fun h => h.elim hm0 hm1)]; show (((m - (cS ⟨k, kc, n, m, t⟩ nl : Int)).toNat : Nat) : Int) = (m - n); rw [eS]; omega
        have eT : (cT ⟨k, kc, n, m, t⟩ : Int) = 0 := by unfold cT; rw [if_neg hm1]; rfl
        have HE := Lib.hid (show Ending.returned (.agg #[.int .i64 n, .int .i64 (m - n), .int .i64 0]) = Ending.returned (.agg #[.int .i64 (cS ⟨k, kc, n, m, t⟩ nl : Nat), .int .i64 (cL ⟨k, kc, n, m, t⟩ nl : Nat), .int .i64 (cT ⟨k, kc, n, m, t⟩ : Nat)]) from by rw [eS, eL, eT])
        clear eS eL eT
        go_wp2_with ((with_reducible refine wpList_store_st (o := ⟨none, .store 88 _ _, _, _, _, _⟩) rfl 88 _ _ rfl (w.heap.size + 1) rfl rfl (run_storeAt_row _ (w.heap.size + 1) 88 88 #[.int .i64 0, .int .i64 0, .int .i64 0] #[.int .i64 n, .int .i64 (m - n), .int .i64 0] ?_ ?_ ?_ ?_) ?_); exact cHR.out; exact hci; rfl; simp [Value.oneCell'])
        exact bodyPost_ret (results_cell_row rfl _ _ (w.heap.size + 1) 88 _ (0, 0) _ rfl (Blk.setRow cHR.out) Tryd.underlying88 rfl (by kernel_rfl)) rfl ⟨HE.out, below_row cHB.out (by omega) _⟩
end Go.Proofs.YtpncomjpmilbkaaDoor

/- Texts put together: Trs Trt Ir Iq. -/
import Derived.Test.YtooolhekihijlaaPR
import Derived.Test.YtooolhekihijlaaPD
import Derived.Test.YtooolhekihijlaaPL
import Derived.Test.YtooolhekihijlaaPE
import Derived.Test.YtooolhekihijlaaPB
import Derived.BigQuiet
import Derived.Deep.QuietTactic
import Derived.Test.YtooolhekihijlaaPQ
import Derived.Laws.AppendOwn
/- How the developers read a parse tree: byteOf, chosen, both, again. Stage 14. -/
namespace Go.Proofs.Ytooolhekihijlaa
open Go.RowKit BS

/-- The reader's cells. -/
@[reducible] def rdC (la : Option Addr) (ln lc : Nat) (wa : Option Addr) (wn wc : Nat) (v : Value) : Array Value := #[.slice la ln lc, .slice wa wn wc, v]
/-- The reader, of which the first i entries are taken; all that it reads is older. -/
structure RdX (l : List NdN) (w : List Nat) (t : List EnN) (la : Option Addr) (lc : Nat) (wa : Option Addr) (wc : Nat) (W0 : World) (R : Nat) (i : Nat) (W : World) : Prop where
  left : ∃ a c, t.length - i ≤ c ∧ EntsAt (t.drop i) a W0 ∧ Blk W R (rdC la l.length lc wa w.length wc (.slice a (t.length - i) c)) 64
  old : Below W0.heap.size W0 W
  new : W0.heap.size ≤ R
section
variable {l : List NdN} {w : List Nat} {t : List EnN} {la wa : Option Addr} {lc wc : Nat} {W0 : World} {R : Nat}
theorem RdX.below {i : Nat} {W W' : World} (h : RdX l w t la lc wa wc W0 R i W) (hb : Below W.heap.size W W') : RdX l w t la lc wa wc W0 R i W' := by
  obtain ⟨a, c, h1, h2, h3⟩ := h.left
  exact ⟨⟨a, c, h1, h2, h3.below hb h3.lt⟩, h.old.trans (hb.mono h.old.size), h.new⟩
theorem RdX.lt {i : Nat} {W : World} (h : RdX l w t la lc wa wc W0 R i W) : R < W.heap.size := by
  obtain ⟨a, c, h1, h2, h3⟩ := h.left
  exact h3.lt
/-- What a call of the reader's answers. -/
def ResD (X : Nat → World → Prop) : Option (Nat × Nat) → Ending → World → Prop
  | some r, e, W => e = .returned (.tuple #[.int .i64 (r.1 : Nat), .bool true]) ∧ X r.2 W
  | none, e, _ => ∃ v : Int, e = .returned (.tuple #[.int .i64 v, .bool false])
theorem ResD.tuple {X : Nat → World → Prop} {O : Option (Nat × Nat)} {e : Ending} {W : World} (h : ResD X O e W) : ∃ (x : Int) (b : Bool), e = .returned (.tuple #[.int .i64 x, .bool b]) ∧ ResD X O (.returned (.tuple #[.int .i64 x, .bool b])) W := by
  cases O with
  | none => obtain ⟨v, rfl⟩ := h; exact ⟨v, false, rfl, v, rfl⟩
  | some r => obtain ⟨rfl, h2⟩ := h; exact ⟨r.1, true, rfl, rfl, h2⟩
def RdG (l : List NdN) (w : List Nat) (t : List EnN) (la : Option Addr) (lc : Nat) (wa : Option Addr) (wc : Nat) (W0 : World) (R k : Nat) : Prop :=
  ∀ (i : Nat) (d : Int) (n f : Nat) (W : World), n < k → n < l.length → i ≤ t.length → f ≤ w.length → 0 ≤ d → d + k ≤ 100000 → RdX l w t la lc wa wc W0 R i W →
    Calls Try.prog 30 #[.pointer (some ⟨R, 0, none⟩), .int .i64 n, .int .i64 d, .int .i64 f] W fun e W' => ResD (RdX l w t la lc wa wc W0 R) (rdF l w t k i d n f) e W' ∧ KpA (fun g => g = R) W W'
theorem rd_bound (hP : PartsOk l) {k i : Nat} {d : Int} {n f e j : Nat} (hn : n < k) (hnl : n < l.length) (hf : f ≤ w.length) (h : rdF l w t k i d n f = some (e, j)) : f ≤ e ∧ e ≤ w.length ∧ i < j ∧ j ≤ t.length := by
  obtain ⟨h1, h2, h3⟩ := (rd_iff hP k i d n f e j hn hnl hf).1 h
  have g := ent_guard h3
  obtain ⟨f', e', ks, _, _, _, h4, h5, _⟩ := ent_ok hP k i d n f e j hn hnl h3
  simp only at g
  exact ⟨by omega, by omega, h4, h5⟩
set_option maxRecDepth 100000 in
set_option maxHeartbeats 16000000 in
theorem byteOf_calls (hw8 : ∀ x ∈ w, x < 256) (hw : w.length ≤ 1000) (hT : BtsAt w wa W0) (s : BitVec 256) (i f : Nat) (_hf : f ≤ w.length) (W : World) (h : RdX l w t la lc wa wc W0 R i W) :
    Calls Try.prog 54 #[.pointer (some ⟨R, 0, none⟩), setV s, .int .i64 f] W fun e W' => ResD (RdX l w t la lc wa wc W0 R) (if f < w.length ∧ s.getLsbD (w.getD f 0) = true then some (f + 1, i) else none) e W' ∧ KpA (fun g => g = R) W W' := by
  have HX := Lib.hid (h.below ((Below.refl _ _).alloc (Nat.le_refl _) (.cells (setA s) 47)))
  have HK := Lib.hid ((KpA.refl (fun g => g = R) W).alloc (.cells (setA s) 47))
  have hS := Blk.new W (setA s) 47
  obtain ⟨a, c, _, _, hb⟩ := HX.out.left
  have c1 := hb.cell 1
  have s0 := hS.cell 0; have s1 := hS.cell 1; have s2 := hS.cell 2; have s3 := hS.cell 3
  simp only [List.getElem?_toArray, List.getElem?_cons_zero, List.getElem?_cons_succ] at c1 s0 s1 s2 s3
  have xf : IntKind.i64.wrap ((f : Int) + 1) = ((f + 1 : Nat) : Int) := by rw [IntWalk.i64_in _ (by omega)]; rfl
  clear h hS hb
  by_cases hlt : f < w.length
  · obtain ⟨g, off, rfl, hg, hc⟩ := hT (by rintro rfl; simp at hlt)
    have p1 : decide ((w.length : Int) ≤ (f : Int)) = false := by rw [decide_eq_false_iff_not]; omega
    have p2 : decide (w.length ≤ f) = false := by rw [decide_eq_false_iff_not]; omega
    have p3 : (f : Int) < (w.length : Int) := by omega
    have hb8 := hw8 w[f] (List.getElem_mem hlt)
    have d0 := (HX.out.old.cell (p := ⟨g, off + f, none⟩) hg).trans (hc f hlt)
    have HHS := Lib.hid (fun W => has_calls s (w[f] : Nat) W (by omega) (by omega))
    have HGD := Lib.hid (show w.getD f 0 = w[f] by simp [List.getD_eq_getElem?_getD, List.getElem?_eq_getElem hlt])
    rw [HGD.out]
    clear hc HGD
    generalize w[f] = x at *
    rw [Int.toNat_natCast] at HHS
    obtain ⟨b, hbb⟩ : ∃ b, b = s.getLsbD x := ⟨_, rfl⟩
    rw [← hbb] at HHS ⊢
    clear hbb
    obtain ⟨O, hO⟩ : ∃ O, O = (if f < w.length ∧ b = true then some (f + 1, i) else none) := ⟨_, rfl⟩
    rw [← hO]
    have HOO := Lib.hid hO
    clear hO
    have HFC := Lib.hid (show ∀ w', Below (W.alloc (.cells (setA s) 47)).heap.size (W.alloc (.cells (setA s) 47)) w' → w'.cell? ⟨R, 1, none⟩ = some (.slice (some ⟨g, off, none⟩) w.length wc) ∧ w'.cell? ⟨g, off + f, none⟩ = some (.int .u8 x) ∧ w'.cell? ⟨W.heap.size, 0, none⟩ = some (.int .u64 (wd s 0)) ∧ w'.cell? ⟨W.heap.size, 1, none⟩ = some (.int .u64 (wd s 1)) ∧ w'.cell? ⟨W.heap.size, 2, none⟩ = some (.int .u64 (wd s 2)) ∧ w'.cell? ⟨W.heap.size, 3, none⟩ = some (.int .u64 (wd s 3)) from fun w' hb =>
      ⟨(hb.cell (p := ⟨R, 1, none⟩) HX.out.lt).trans c1, (hb.cell (p := ⟨g, off + f, none⟩) (Nat.lt_of_lt_of_le hg HX.out.old.size)).trans d0, (hb.cell (p := ⟨W.heap.size, 0, none⟩) (by show W.heap.size < _; rw [World.size_alloc]; omega)).trans s0, (hb.cell (p := ⟨W.heap.size, 1, none⟩) (by show W.heap.size < _; rw [World.size_alloc]; omega)).trans s1, (hb.cell (p := ⟨W.heap.size, 2, none⟩) (by show W.heap.size < _; rw [World.size_alloc]; omega)).trans s2, (hb.cell (p := ⟨W.heap.size, 3, none⟩) (by show W.heap.size < _; rw [World.size_alloc]; omega)).trans s3⟩)
    clear hT d0
    go_enter Try.func54, Try.ntmps54
    go_upto_region 1 with fail
    generalize W.alloc (.cells (setA s) 47) = w1 at *
    go_upto_region 3 with fail
    refine region_steps (S := fun w' => Below w1.heap.size w1 w') (by kernel_rfl) ((Below.refl _ _).drew) ?_
    simp only [List.size_toArray, List.length_cons, List.length_nil, Nat.reduceAdd, Array.replicate_succ, Array.replicate_zero, List.push_toArray, List.nil_append, List.cons_append]
    refine AnyS.stepE (i := 0) (d := some 15) rfl rfl (by kernel_rfl) (by kernel_rfl) (by kernel_rfl) ?_
    apply Exists.intro
    apply And.intro
    · apply StepsIf.yield
      · kernel_rfl
      intro w' hS
      clear hS; go_simp
      rfl
    intro a' ha'
    simp only [Act.put, List.setIfInBounds_toArray, List.set_cons_zero, List.set_cons_succ] at ha'
    subst ha'
    refine AnyS.next (i := 1) (d := some 16) (v := .int .i64 ((f + 1 : Nat) : Int)) rfl rfl (by kernel_rfl) (by kernel_rfl) (by kernel_rfl) (StepsIf.yield (by kernel_rfl) (fun w' hS => by clear hS; go_simp)) ?_
    intro a' ha'
    simp only [Act.put, List.setIfInBounds_toArray, List.set_cons_zero, List.set_cons_succ] at ha'
    subst ha'
    refine AnyS.next (i := 2) (d := some 17) (v := setV s) rfl rfl (by kernel_rfl) (by kernel_rfl) (by kernel_rfl) (StepsIf.yield (by kernel_rfl) (fun w' hS => by obtain ⟨f1, f2, f3, f4, f5, f6⟩ := HFC.out w' hS; clear hS; go_simp)) ?_
    intro a' ha'
    simp only [Act.put, List.setIfInBounds_toArray, List.set_cons_zero, List.set_cons_succ] at ha'
    subst ha'
    refine AnyS.stepE (i := 3) (d := some 18) rfl rfl (by kernel_rfl) (by kernel_rfl) (by kernel_rfl) ?_
    apply Exists.intro
    apply And.intro
    · apply StepsIf.yield
      · kernel_rfl
      intro w' hS
      clear hS; go_simp
      rfl
    intro a' ha'
    simp only [Act.put, List.setIfInBounds_toArray, List.set_cons_zero, List.set_cons_succ] at ha'
    subst ha'
    refine AnyS.stepE (i := 4) (d := some 19) rfl rfl (by kernel_rfl) (by kernel_rfl) (by kernel_rfl) ?_
    apply Exists.intro
    apply And.intro
    · apply StepsIf.yield
      · kernel_rfl
      intro w' hS
      clear hS; go_simp
      rfl
    intro a' ha'
    simp only [Act.put, List.setIfInBounds_toArray, List.set_cons_zero, List.set_cons_succ] at ha'
    subst ha'
    refine AnyS.stepE (i := 5) (d := some 20) rfl rfl (by kernel_rfl) (by kernel_rfl) (by kernel_rfl) ?_
    apply Exists.intro
    apply And.intro
    · apply StepsIf.yield
      · kernel_rfl
      intro w' hS
      clear hS; go_simp
      rfl
    intro a' ha'
    simp only [Act.put, List.setIfInBounds_toArray, List.set_cons_zero, List.set_cons_succ] at ha'
    subst ha'
    refine AnyS.next (i := 6) (d := some 21) (v := .slice (some ⟨g, off, none⟩) w.length wc) rfl rfl (by kernel_rfl) (by kernel_rfl) (by kernel_rfl) (StepsIf.yield (by kernel_rfl) (fun w' hS => by obtain ⟨f1, f2, f3, f4, f5, f6⟩ := HFC.out w' hS; clear hS; go_simp)) ?_
    intro a' ha'
    simp only [Act.put, List.setIfInBounds_toArray, List.set_cons_zero, List.set_cons_succ] at ha'
    subst ha'
    refine AnyS.stepE (i := 7) (d := some 22) rfl rfl (by kernel_rfl) (by kernel_rfl) (by kernel_rfl) ?_
    apply Exists.intro
    apply And.intro
    · apply StepsIf.yield
      · kernel_rfl
      intro w' hS
      clear hS; go_simp
      rfl
    intro a' ha'
    simp only [Act.put, List.setIfInBounds_toArray, List.set_cons_zero, List.set_cons_succ] at ha'
    subst ha'
    refine AnyS.stepE (i := 8) (d := some 23) rfl rfl (by kernel_rfl) (by kernel_rfl) (by kernel_rfl) ?_
    apply Exists.intro
    apply And.intro
    · apply StepsIf.yield
      · kernel_rfl
      intro w' hS
      clear hS; go_simp
      rfl
    intro a' ha'
    simp only [Act.put, List.setIfInBounds_toArray, List.set_cons_zero, List.set_cons_succ] at ha'
    subst ha'
    refine AnyS.next (i := 9) (d := some 24) (v := .int .u8 (x : Nat)) rfl rfl (by kernel_rfl) (by kernel_rfl) (by kernel_rfl) (StepsIf.yield (by kernel_rfl) (fun w' hS => by obtain ⟨f1, f2, f3, f4, f5, f6⟩ := HFC.out w' hS; clear hS; go_simp)) ?_
    intro a' ha'
    simp only [Act.put, List.setIfInBounds_toArray, List.set_cons_zero, List.set_cons_succ] at ha'
    subst ha'
    refine AnyS.next (i := 10) (d := some 25) (v := .bool b) rfl rfl (by kernel_rfl) (by kernel_rfl) (by kernel_rfl) (StepsIf.call (by kernel_rfl) (fun w' hS => by clear hS; go_simp) (fun w' hS => (HHS.out w').mono fun e1 w'' hh => ⟨hh.1, hS.trans (hh.2.mono hS.size)⟩)) ?_
    intro a' ha'
    simp only [Act.put, List.setIfInBounds_toArray, List.set_cons_zero, List.set_cons_succ] at ha'
    subst ha'
    refine AnyS.stepE (i := 11) (d := some 6) rfl rfl (by kernel_rfl) (by kernel_rfl) (by kernel_rfl) ?_
    apply Exists.intro
    apply And.intro
    · apply StepsIf.yield
      · kernel_rfl
      intro w' hS
      clear hS; go_simp
      rfl
    intro a' ha'
    simp only [Act.put, List.setIfInBounds_toArray, List.set_cons_zero, List.set_cons_succ] at ha'
    subst ha'
    refine AnyS.stepE (i := 12) (d := some 7) rfl rfl (by kernel_rfl) (by kernel_rfl) (by kernel_rfl) ?_
    apply Exists.intro
    apply And.intro
    · apply StepsIf.yield
      · kernel_rfl
      intro w' hS
      clear hS; go_simp
      rfl
    intro a' ha'
    simp only [Act.put, List.setIfInBounds_toArray, List.set_cons_zero, List.set_cons_succ] at ha'
    subst ha'
    refine AnyS.done (by kernel_rfl) ?_ _
    intro w2 hS
    have HX2 := Lib.hid (HX.out.below hS)
    have HK2 := Lib.hid (HK.out.below hS)
    clear hS
    go_wp2_with fail
    go_ret2
    refine ⟨?_, HK2.out⟩
    have hO := HOO.out
    cases b with
    | true => rw [hO, if_pos ⟨hlt, rfl⟩]; exact ⟨rfl, HX2.out⟩
    | false => rw [hO, if_neg (fun h => by cases h.2)]; exact ⟨_, rfl⟩
  · have p1 : decide ((w.length : Int) ≤ (f : Int)) = true := by rw [decide_eq_true_iff]; omega
    have p2 : decide (w.length ≤ f) = true := by rw [decide_eq_true_iff]; omega
    rw [if_neg (fun h => hlt h.1)]
    clear s0 s1 s2 s3 hT
    go_enter Try.func54, Try.ntmps54
    go_upto_region 1 with fail
    generalize W.alloc (.cells (setA s) 47) = w1 at *
    go_wp2_with fail
    go_ret2
    exact ⟨⟨_, rfl⟩, HK.out⟩
set_option maxRecDepth 100000 in
set_option maxHeartbeats 16000000 in
theorem chosen_calls (_ht : t.length ≤ 1000) (k0 p q m : Int) (s : BitVec 256) (i : Nat) (_hi : i ≤ t.length) (W : World) (h : RdX l w t la lc wa wc W0 R i W) :
    Calls Try.prog 56 #[.pointer (some ⟨R, 0, none⟩), .agg (ndI k0 p q m s)] W fun e W' => e = .returned (.int .i64 (if i < t.length ∧ (atE t i).node = q then q else p)) ∧ Below W.heap.size W W' := by
  have hS := Blk.new W (ndI k0 p q m s) 49
  have HB := Lib.hid (show Below W.heap.size W (W.alloc (.cells (ndI k0 p q m s) 49)) from (Below.refl _ _).alloc (Nat.le_refl _) _)
  have h2 := h.below HB.out
  obtain ⟨a, c, _, hE, hb⟩ := h2.left
  have c2 := hb.cell 2
  have s1 := hS.cell 1; have s2 := hS.cell 2
  simp only [List.getElem?_toArray, List.getElem?_cons_zero, List.getElem?_cons_succ] at c2 s1 s2
  have HO := Lib.hid h2.old
  clear h h2 hb hS
  by_cases hlt : i < t.length
  · have hne : t.drop i ≠ [] := fun e => by have := congrArg List.length e; simp at this; omega
    obtain ⟨g, off, rfl, hg, hc⟩ := hE hne
    have hl0 : 0 < (t.drop i).length := by simp; omega
    have d1 := (HO.out.cell (p := ⟨g, off + 0 * 4 + 1, none⟩) hg).trans (hc 0 hl0 1 (by decide))
    rw [show (t.drop i)[0] = atE t i by rw [atE_lt t i hlt]; simp] at d1
    simp only [enA, List.getElem?_toArray, List.getElem?_cons_zero, List.getElem?_cons_succ, Nat.zero_mul, Nat.add_zero] at d1
    generalize (atE t i).node = z at *
    have g1 : decide ((0 : Int) < ((t.length - i : Nat) : Int)) = true := by rw [decide_eq_true_iff]; omega
    have g2 : (0 : Int) < ((t.length - i : Nat) : Int) := by omega
    have g3 : decide (0 < t.length - i) = true := by rw [decide_eq_true_iff]; omega
    have g4 : 0 < t.length - i := by omega
    clear hc hE hne hl0 HO
    generalize t.length - i = T at *
    by_cases hz : z = q
    · subst hz
      rw [if_pos ⟨hlt, rfl⟩]
      go_enter Try.func56, Try.ntmps56
      go_upto_region 1 with fail
      generalize W.alloc (.cells (ndI k0 p z m s) 49) = w1 at *
      go_quiet (fail)
      go_wp2_with fail
      go_ret
      exact ⟨rfl, below_drN HB.out nq⟩
    · rw [if_neg (fun h => hz h.2)]
      have q1 : (z == q) = false := beq_eq_false_iff_ne.2 hz
      go_enter Try.func56, Try.ntmps56
      go_upto_region 1 with fail
      generalize W.alloc (.cells (ndI k0 p q m s) 49) = w1 at *
      go_quiet (fail)
      go_wp2_with fail
      go_ret
      exact ⟨rfl, below_drN HB.out nq⟩
  · have hz : t.length - i = 0 := by omega
    rw [hz] at c2
    rw [if_neg (fun h => hlt h.1)]
    clear hE HO
    go_enter Try.func56, Try.ntmps56
    go_upto_region 1 with fail
    generalize W.alloc (.cells (ndI k0 p q m s) 49) = w1 at *
    go_quiet (fail)
    go_wp2_with fail
    go_ret
    exact ⟨rfl, below_drN HB.out nq⟩
end
end Go.Proofs.Ytooolhekihijlaa

/- How the developers read a parse tree: both, again. Stage 14. -/
namespace Go.Proofs.Ytooolhekihijlaa
open Go.RowKit BS

theorem Blk.kpR {W W' : World} {R g : Nat} {vs : Array Value} {ty : TypeId} (h : Blk W g vs ty) (k : KpA (fun x => x = R) W W') (hne : g ≠ R) : Blk W' g vs ty := (k.block g h.lt hne).trans h
section
variable {l : List NdN} {w : List Nat} {t : List EnN} {la wa : Option Addr} {lc wc : Nat} {W0 : World} {R : Nat}
set_option maxRecDepth 100000 in
set_option maxHeartbeats 16000000 in
theorem both_calls (hP : PartsOk l) (_hw : w.length ≤ 1000) {k : Nat} (HG : RdG l w t la lc wa wc W0 R k) (k0 m : Int) (p q : Nat) (s : BitVec 256) (hp : p < k) (hq : q < k) (hpl : p < l.length) (hql : q < l.length)
    (i : Nat) (d n T : Int) (f : Nat) (hd : 0 ≤ d) (hdk : d + 1 + k ≤ 100000) (hi : i ≤ t.length) (hf : f ≤ w.length) (W : World) (h : RdX l w t la lc wa wc W0 R i W) :
    Calls Try.prog 55 #[.pointer (some ⟨R, 0, none⟩), .agg (ndI k0 p q m s), .agg (enI d n f T)] W fun e W' => ResD (RdX l w t la lc wa wc W0 R) ((rdF l w t k i (d + 1) p f).bind fun r => rdF l w t k r.2 (d + 1) q r.1) e W' ∧ KpA (fun g => g = R) W W' := by
  have hRW := h.lt
  have bN := (Blk.new W (ndI k0 p q m s) 49).alloc (.cells (enI d n f T) 44)
  have bE := Blk.new (W.alloc (.cells (ndI k0 p q m s) 49)) (enI d n f T) 44
  rw [World.size_alloc] at bE
  have HK := Lib.hid (((KpA.refl (fun g => g = R) W).alloc (.cells (ndI k0 p q m s) 49)).alloc (.cells (enI d n f T) 44))
  have HX := Lib.hid (h.below (((Below.refl _ _).alloc (Nat.le_refl _) (.cells (ndI k0 p q m s) 49)).alloc (by rw [World.size_alloc]; omega) (.cells (enI d n f T) 44)))
  have xd : IntKind.i64.wrap (d + 1) = d + 1 := IntWalk.i64_in _ (by omega)
  have HG1 := Lib.hid (fun W1 h1 => HG i (d + 1) p f W1 hp hpl hi hf (by omega) hdk h1)
  have HG2 := Lib.hid (fun j e W1 h1 h2 h3 => HG j (d + 1) q e W1 hq hql h1 h2 (by omega) hdk h3)
  have HBD := Lib.hid (fun e j => @rd_bound l w t hP k i (d + 1) p f e j hp hpl hf)
  obtain ⟨OB, hOB⟩ : ∃ O, O = (rdF l w t k i (d + 1) p f).bind fun r => rdF l w t k r.2 (d + 1) q r.1 := ⟨_, rfl⟩
  rw [← hOB]
  obtain ⟨O, hO⟩ : ∃ O, O = rdF l w t k i (d + 1) p f := ⟨_, rfl⟩
  rw [← hO] at HBD HG1 hOB
  have HOB := Lib.hid hOB
  clear h HG hP hO hOB
  have r1 := bN.cell 1; have r2 := bN.cell 2
  have t0 := bE.cell 0; have t2 := bE.cell 2
  simp only [List.getElem?_toArray, List.getElem?_cons_zero, List.getElem?_cons_succ] at r1 r2 t0 t2
  go_enter Try.func55, Try.ntmps55
  go_upto_region 1 with fail
  generalize (W.alloc (.cells (ndI k0 p q m s) 49)).alloc (.cells (enI d n f T) 44) = w1 at *
  have hHG1 := HG1.out w1 HX.out
  clear HG1
  go_wp2_with fail
  refine hHG1.mono ?_
  rintro e w2 ⟨hr, hk⟩
  have HK2 := Lib.hid (HK.out.trans (hk.mono (fun _ h => h)))
  have bN2 := bN.kpR hk (by omega)
  have bE2 := bE.kpR hk (by omega)
  clear r1 r2 t0 t2 hk hHG1 bN bE HK HX
  cases O with
  | none =>
    obtain ⟨v, rfl⟩ := hr
    clear bN2 bE2
    go_wp2_with fail
    go_ret2
    rw [HOB.out]
    exact ⟨⟨_, rfl⟩, HK2.out⟩
  | some r =>
    obtain ⟨e1, j1⟩ := r
    obtain ⟨rfl, hx⟩ := hr
    simp only at hx
    obtain ⟨b1, b2, b3, b4⟩ := HBD.out e1 j1 rfl
    have hHG2 := HG2.out j1 e1 w2 b4 b2 hx
    have hob := HOB.out
    rw [Option.bind_some] at hob
    simp only at hob
    rw [← hob] at hHG2
    clear hob HOB hx HG2 HBD
    have r1 := bN2.cell 1; have r2 := bN2.cell 2
    have t0 := bE2.cell 0; have t2 := bE2.cell 2
    simp only [List.getElem?_toArray, List.getElem?_cons_zero, List.getElem?_cons_succ] at r1 r2 t0 t2
    clear bN2 bE2
    go_wp2_with fail
    refine hHG2.mono ?_
    rintro e w3 ⟨hr, hk⟩
    have HK3 := Lib.hid (HK2.out.trans (hk.mono (fun _ h => h)))
    clear r1 r2 t0 t2 hk hHG2 HK2
    cases OB with
    | none =>
      obtain ⟨v, rfl⟩ := hr
      go_wp2_with fail
      go_ret2
      exact ⟨⟨_, rfl⟩, HK3.out⟩
    | some r =>
      obtain ⟨e2, j2⟩ := r
      obtain ⟨rfl, hx⟩ := hr
      simp only at hx
      have HX3 := Lib.hid hx
      clear hx
      go_wp2_with fail
      go_ret2
      exact ⟨⟨rfl, HX3.out⟩, HK3.out⟩
set_option maxRecDepth 100000 in
set_option maxHeartbeats 16000000 in
theorem again_calls (hP : PartsOk l) (_hw : w.length ≤ 1000) {k : Nat} (HG : RdG l w t la lc wa wc W0 R k) (k0 q m : Int) (p : Nat) (s : BitVec 256) (hp : p < k) (hpl : p < l.length)
    (i : Nat) (d n T : Int) (f : Nat) (hd : 0 ≤ d) (hdk : d + 1 + k ≤ 100000) (hi : i ≤ t.length) (hf : f ≤ w.length) (W : World) (h : RdX l w t la lc wa wc W0 R i W) :
    Calls Try.prog 57 #[.pointer (some ⟨R, 0, none⟩), .agg (ndI k0 p q m s), .agg (enI d n f T)] W fun e W' => ResD (RdX l w t la lc wa wc W0 R) (agF (fun i at_ => rdF l w t k i (d + 1) p at_) T (w.length + 1) i f) e W' ∧ KpA (fun g => g = R) W W' := by
  have hRW := h.lt
  have bN := (Blk.new W (ndI k0 p q m s) 49).alloc (.cells (enI d n f T) 44)
  have bE := Blk.new (W.alloc (.cells (ndI k0 p q m s) 49)) (enI d n f T) 44
  rw [World.size_alloc] at bE
  have HK := Lib.hid (((KpA.refl (fun g => g = R) W).alloc (.cells (ndI k0 p q m s) 49)).alloc (.cells (enI d n f T) 44))
  have HX := Lib.hid (h.below (((Below.refl _ _).alloc (Nat.le_refl _) (.cells (ndI k0 p q m s) 49)).alloc (by rw [World.size_alloc]; omega) (.cells (enI d n f T) 44)))
  have xd : IntKind.i64.wrap (d + 1) = d + 1 := IntWalk.i64_in _ (by omega)
  have HG2 := Lib.hid (fun j e W1 h1 h2 h3 => HG j (d + 1) p e W1 hp hpl h1 h2 (by omega) hdk h3)
  have HBD := Lib.hid (fun j a e j' (ha : a ≤ w.length) => @rd_bound l w t hP k j (d + 1) p a e j' hp hpl ha)
  clear h HG hP
  obtain ⟨rd, hrd⟩ : ∃ rd, rd = fun i at_ => rdF l w t k i (d + 1) p at_ := ⟨_, rfl⟩
  have HRD := Lib.hid (fun i at_ => (congrFun (congrFun hrd i) at_))
  rw [← hrd]
  clear hrd
  obtain ⟨O, hO⟩ : ∃ O, agF rd T (w.length + 1) i f = O := ⟨_, rfl⟩
  rw [hO]
  have HO := Lib.hid hO
  clear hO
  have r1 := bN.cell 1
  have t0 := bE.cell 0; have t2 := bE.cell 2; have t3 := bE.cell 3
  simp only [List.getElem?_toArray, List.getElem?_cons_zero, List.getElem?_cons_succ] at r1 t0 t2 t3
  go_enter Try.func57, Try.ntmps57
  go_upto_region 1 with fail
  generalize (W.alloc (.cells (ndI k0 p q m s) 49)).alloc (.cells (enI d n f T) 44) = w1 at *
  go_wp2_with fail
  clear r1 t0 t2 t3
  go_loopw [8] (fun v wr => ∃ (i' a m' : Nat), v = .int .i64 a ∧ a ≤ w.length ∧ i' ≤ t.length ∧ w.length < m' + a ∧ agF rd T m' i' a = O ∧ RdX l w t la lc wa wc W0 R i' wr ∧ KpA (fun g => g = R) w1 wr) (fun v _ => w.length + 1 - (intOf v).toNat)
  case atStart => exact ⟨i, f, w.length + 1, rfl, hf, hi, by omega, HO.out, HX.out, KpA.refl _ _⟩
  case round =>
    obtain ⟨i', a, m', rfl, ha, hi', hm', hag, hx, hk⟩ := hrel
    have bN2 := bN.kpR hk (by omega)
    have bE2 := bE.kpR hk (by omega)
    have HKR := Lib.hid (HK.out.trans hk)
    have HKW := Lib.hid hk
    obtain ⟨m', rfl⟩ : ∃ q, m' = q + 1 := ⟨m' - 1, by omega⟩
    rw [agF] at hag
    have r1 := bN2.cell 1
    have t0 := bE2.cell 0; have t3 := bE2.cell 3
    simp only [List.getElem?_toArray, List.getElem?_cons_zero, List.getElem?_cons_succ] at r1 t0 t3
    clear bN bE bN2 bE2 HO HX HK hk
    by_cases hlt : (a : Int) < T
    · rw [if_pos hlt, HRD.out] at hag
      have p1 : decide ((a : Int) < T) = true := decide_eq_true hlt
      have hHG2 := HG2.out i' a wr hi' ha hx
      have hbd := fun e j => HBD.out i' a e j ha
      obtain ⟨O2, hO2⟩ : ∃ O, O = rdF l w t k i' (d + 1) p a := ⟨_, rfl⟩
      rw [← hO2] at hHG2 hag hbd
      have HAG := Lib.hid hag
      have HBD2 := Lib.hid hbd
      clear hO2 hx HG2 HBD hag hbd hlt
      go_wp2_with fail
      refine hHG2.mono ?_
      rintro e w3 ⟨hr, hk⟩
      have HK3 := Lib.hid (HKR.out.trans hk)
      have HK4 := Lib.hid (HKW.out.trans hk)
      clear r1 t0 t3 hk hHG2 HKR HKW p1
      cases O2 with
      | none =>
        obtain ⟨v, rfl⟩ := hr
        go_wp2_with fail
        go_ret2
        rw [← HAG.out]
        exact ⟨⟨_, rfl⟩, HK3.out⟩
      | some r =>
        obtain ⟨e2, j2⟩ := r
        obtain ⟨rfl, hx⟩ := hr
        simp only at hx
        have hag := HAG.out
        rw [Option.bind_some] at hag
        simp only at hag
        have HX3 := Lib.hid hx
        obtain ⟨b1, b2, b3, b4⟩ := HBD2.out e2 j2 rfl
        clear hx HAG HBD2
        by_cases he : e2 = a
        · subst he
          rw [if_pos rfl] at hag
          go_wp2_with fail
          go_ret2
          rw [← hag]
          exact ⟨⟨_, rfl⟩, HK3.out⟩
        · rw [if_neg he] at hag
          have q1 : ((e2 : Int) == (a : Int)) = false := beq_eq_false_iff_ne.2 (by omega)
          have q2 : (e2 == a) = false := beq_eq_false_iff_ne.2 he
          have HAG := Lib.hid hag
          have HNE := Lib.hid (show a < e2 by omega)
          clear hag he
          go_wp2_with fail
          have hne := HNE.out
          go_roundw
          case rel => exact ⟨j2, e2, m', rfl, b2, b4, by omega, HAG.out, HX3.out, HK4.out⟩
          case measure => simp [intOf]; omega
    · rw [if_neg hlt] at hag
      have p1 : decide ((a : Int) < T) = false := decide_eq_false hlt
      have HX3 := Lib.hid hx
      clear hx hlt
      go_wp2_with fail
      go_ret2
      rw [← hag]
      exact ⟨⟨rfl, HX3.out⟩, HKR.out⟩
end
end Go.Proofs.Ytooolhekihijlaa

/- The document's terms: Deep. Stage 10. -/
namespace Go.Proofs.Ytooolhekihijlaa
open Go.RowKit BS

def deepsT (l : List NdN) : List Int := if rightT l = true then (List.range l.length).map (fun x => (deepT l x : Int)) else []
end Go.Proofs.Ytooolhekihijlaa

/- The document's terms: Groups, Top. Stage 10. -/
namespace Go.Proofs.Ytooolhekihijlaa
open Go.RowKit BS

theorem infoInt10 : (Try.prog.info? 3).map (fun i => (i.zero, i.size, i.bytes)) = some (some (.int .i64 0), 1, 8) := by kernel_rfl
/-- Is a Group of number n among the nodes from lo on, ahead of i? -/
def anyG (l : List NdN) (lo n i : Nat) : Bool := (List.range i).any fun j => decide (lo ≤ j) && (match l[j]? with | some x => decide (x.kind = 7 ∧ x.m = (n : Int)) | none => false)
theorem anyG_lo (l : List NdN) (lo n : Nat) : anyG l lo n lo = false := by
  unfold anyG
  rw [List.any_eq_false]
  intro j hj
  have := List.mem_range.1 hj
  rw [decide_eq_false (by omega), Bool.false_and]
  exact Bool.false_ne_true
theorem anyG_step (l : List NdN) (lo n i : Nat) (h : lo ≤ i) (hi : i < l.length) : anyG l lo n (i + 1) = (anyG l lo n i || ((l[i].kind == 7) && (l[i].m == (n : Int)))) := by
  unfold anyG
  rw [List.range_succ, List.any_append]
  congr 1
  simp only [List.any_cons, List.any_nil, Bool.or_false, List.getElem?_eq_getElem hi]
  rw [decide_eq_true h, Bool.true_and, Bool.decide_and]
  rfl
theorem hasG_any (l : List NdN) (lo q n : Nat) : hasG l lo q n = anyG l lo n (q + 1) := rfl
def gK (l : List NdN) (lo q k : Nat) : List Nat := ((List.range k).map (· + 1)).filter (hasG l lo q)
theorem gK_nine (l : List NdN) (lo q : Nat) : gK l lo q 9 = grpL l lo q := rfl
theorem gK_step (l : List NdN) (lo q k : Nat) : gK l lo q (k + 1) = gK l lo q k ++ (if hasG l lo q (k + 1) = true then [k + 1] else []) := by
  unfold gK
  rw [List.range_succ, List.map_append, List.filter_append]
  congr 1
  show List.filter (hasG l lo q) [k + 1] = _
  cases hh : hasG l lo q (k + 1) with
  | true => rw [List.filter_cons_of_pos hh]; rfl
  | false => rw [List.filter_cons_of_neg (by rw [hh]; exact Bool.false_ne_true)]; rfl
theorem gK_len (l : List NdN) (lo q k : Nat) : (gK l lo q k).length ≤ k := by
  unfold gK
  refine Nat.le_trans (List.length_filter_le _ _) ?_
  simp
def gV (L : List Nat) : List Value := L.map fun n : Nat => Value.int .i64 (n : Int)
theorem gV_len (L : List Nat) : (gV L).length = L.length := by simp [gV]
theorem ints_of_owns {base : Nat} {v : Value} {L : List Nat} {W : World} (h : W.ownsRow base 3 1 v L.length (gV L)) : ∃ b c, v = .slice b L.length c ∧ IntsB base (L.map fun n : Nat => (n : Int)) b W := by
  rcases h.2 with ⟨hv, h0⟩ | ⟨g, cap, cur, hv, hb, hg, _⟩
  · have hL : L = [] := List.length_eq_zero_iff.1 h0
    subst hL
    exact ⟨none, 0, hv, fun hne => absurd rfl hne⟩
  · subst hv
    refine ⟨some ⟨g, 0, none⟩, cap, rfl, fun _ => ⟨g, 0, rfl, hb, (Array.getElem?_eq_some_iff.1 hg).1, fun i hi => ?_⟩⟩
    rw [List.length_map] at hi
    rw [Nat.zero_add, World.ownsRow.cellAt h i (by omega)]
    simp [gV, hi]
/-- What Groups tells. -/
def groupsL (l : List NdN) (q : Int) : List Int := (groupsT l q).map fun n : Nat => (n : Int)

theorem groupsT_len (l : List NdN) (q : Int) : (groupsT l q).length ≤ 9 := by
  unfold groupsT
  split
  · exact gK_len l _ _ 9
  · exact Nat.zero_le _
theorem groups_root (l : List NdN) (hr : rightT l = true) : groupsT l ((l.length : Int) - 1) = grpL l 0 (l.length - 1) := by
  have hq := rightT_q l hr
  have hp := hq.pos
  obtain ⟨h1, _, _⟩ := of_decide_eq_true hr
  have hz := (trT_root l _ h1 hp).1 rfl
  unfold groupsT
  rw [if_pos ⟨hr, by omega, by omega⟩, show ((l.length : Int) - 1).toNat = l.length - 1 by omega, lowT_V l hq _ (by omega), hz]
  rfl
end Go.Proofs.Ytooolhekihijlaa

/- Texts put together: Zr Zs. -/
import Derived.Test.YtbfcancmljdjhaaPK
import Derived.BigQuiet
import Derived.Test.YtbfcancmljdjhaaPC
/- Stage 13: what the laws want of part; sure; PartTells. -/
namespace Go.Proofs.Ytbfcancmljdjhaa
open Go.RowKit BS

/-- What the laws want of the developers' part. -/
structure PartC : Prop where
  of_ : ∀ (l : List (BitVec 256)), l.length ≤ 1000000 → ∀ (a : Option Addr) (cap : Nat), l.length ≤ cap → ∀ (w : World), SetsAt l a w → Calls Try.prog 8 #[.slice a l.length cap] w fun e w' => ∃ g, e = .returned (.tuple #[.slice (some ⟨g, 0, none⟩) 256 256, .int .i64 ((clsN l : Nat) : Int)]) ∧ IntsO (clI l) (some ⟨g, 0, none⟩) w' ∧ Below w.heap.size w w'
  term_ : ∀ (l : List NdN), l.length ≤ 1000 → ∀ (a : Option Addr) (cap : Nat) (w : World), NodesAt l a w → Calls Try.prog 10 #[.slice a l.length cap] w fun e w' => ∃ b c, e = .returned (.tuple #[.slice b (termI l).length c, .int .i64 ((termK l : Nat) : Int)]) ∧ IntsO (termI l) b w' ∧ Below w.heap.size w w'
/-- Two slices of 256 numbers. -/
theorem ints256 (L : List Int) (hL : L.length = 256) (a b : Option Addr) (c1 c2 : Nat) (w : World) (h1 : IntsO L a w) (h2 : IntsO L b w) :
    Calls Try.prog 12 #[.slice a 256 c1, .slice b 256 c2] w fun e w' => e = .returned (.bool true) ∧ Below w.heap.size w w' := by
  have h := ints_same L (by omega) a b c1 c2 w h1 h2
  rw [hL] at h
  exact h
theorem right256 (L : List Int) (hL : L.length = 256) (r : Bool) (hr : rightC L = r) (a : Option Addr) (c : Nat) (w : World) (h : IntsO L a w) :
    Calls Try.prog 13 #[.slice a 256 c] w fun e w' => e = .returned (.bool r) ∧ w = w' := by
  have h1 := right13_calls L (by omega) a c w h
  rw [hL, hr] at h1
  exact h1
theorem least256 (L : List Int) (hL : L.length = 256) (M : List Nat) (hM : leastC L = M) (a : Option Addr) (c : Nat) (w : World) (h : IntsO L a w) :
    Calls Try.prog 15 #[.slice a 256 c] w fun e w' => ∃ v, e = .returned v ∧ RowV M v w' ∧ Below w.heap.size w w' := by
  have h1 := least13_calls L (by omega) a c w h
  rw [hL, hM] at h1
  exact h1
/-! ### sure -/
def s97 : BitVec 256 := BitVec.ofNat 256 (2 ^ 97)
theorem wd97 : wd s97 0 = 0 ∧ wd s97 1 = 8589934592 ∧ wd s97 2 = 0 ∧ wd s97 3 = 0 := by decide +kernel
theorem cls97 : clsN [s97] = 2 := by decide +kernel
theorem num97 : numE (alE [s97]) 97 = 1 ∧ numE (alE [s97]) 98 = 0 := by decide +kernel
theorem clsN0 : clsN [] = 1 := by decide +kernel
theorem clI_right (l : List (BitVec 256)) : rightC (clI l) = true := right_cls l
theorem clI_least (l : List (BitVec 256)) : leastC (clI l) = leastE (alE l) 256 := by
  unfold leastC
  rw [if_pos (clI_right l)]
  exact lt_cls l 256 (Nat.le_refl _)
theorem least97 : leastC (clI [s97]) = [0, 97] := by
  rw [clI_least]
  decide +kernel
theorem text097 : ofT [0, 97] = ⟨#[0, 97]⟩ := by decide
theorem s97_at (W : World) : SetsAt [s97] (some ⟨W.heap.size, 0, none⟩) (W.alloc (.cells #[.int .u64 0, .int .u64 8589934592, .int .u64 0, .int .u64 0] 38)) := fun _ => by
  refine ⟨W.heap.size, 0, rfl, by simp, fun i hi j hj => ?_⟩
  have hi' : i < 1 := hi
  obtain rfl : i = 0 := by omega
  rw [Nat.zero_mul, Nat.zero_add, (Blk.new W _ 38).cell j]
  obtain ⟨y0, y1, y2, y3⟩ := wd97
  show _ = (setA s97)[j]?
  unfold setA
  generalize wd s97 0 = z0 at *
  generalize wd s97 1 = z1 at *
  generalize wd s97 2 = z2 at *
  generalize wd s97 3 = z3 at *
  subst y0 y1 y2 y3
  rfl
theorem ints_take {l : List Int} {a : Option Addr} {W : World} (k : Nat) (h : IntsO l a W) : IntsO (l.take k) a W := fun hne => by
  have hl : l ≠ [] := by rintro rfl; simp at hne
  obtain ⟨g, o, e, hg, hc⟩ := h hl
  refine ⟨g, o, e, hg, fun i hi => ?_⟩
  rw [List.length_take] at hi
  rw [hc i (by omega)]
  simp
theorem right255 (l : List (BitVec 256)) : rightC ((clI l).take 255) = false := by
  unfold rightC
  rw [List.length_take, clI_len]
  simp
set_option maxRecDepth 100000 in
set_option maxHeartbeats 16000000 in
theorem sure13_calls (C : PartC) (w : World) : Calls Try.prog 7 #[] w fun e w' => e = .returned (.bool true) ∧ Below w.heap.size w w' := by
  have h1 := fun (W : World) (h : SetsAt [s97] (some ⟨w.heap.size, 0, none⟩) W) => C.of_ [s97] (by decide) (some ⟨w.heap.size, 0, none⟩) 1 (by decide) W h
  rw [cls97] at h1
  have H1 : Hid (∀ W, SetsAt [s97] (some ⟨w.heap.size, 0, none⟩) W → Calls Try.prog 8 #[.slice (some ⟨w.heap.size, 0, none⟩) 1 1] W fun e w' => ∃ g, e = .returned (.tuple #[.slice (some ⟨g, 0, none⟩) 256 256, .int .i64 2]) ∧ IntsO (clI [s97]) (some ⟨g, 0, none⟩) w' ∧ Below W.heap.size W w') := Lib.hid h1
  have h2 := fun (W : World) => C.of_ [] (by decide) none 0 (by decide) W (fun h => absurd rfl h)
  rw [clsN0] at h2
  have H2 : Hid (∀ W : World, Calls Try.prog 8 #[.slice none 0 0] W fun e w' => ∃ g, e = .returned (.tuple #[.slice (some ⟨g, 0, none⟩) 256 256, .int .i64 1]) ∧ IntsO (clI []) (some ⟨g, 0, none⟩) w' ∧ Below W.heap.size W w') := Lib.hid h2
  clear h1 h2 C
  have HR := Lib.hid (fun a c W h => right256 (clI []) (clI_len _) true (clI_right []) a c W h)
  have HL := Lib.hid (fun a c W h => least256 (clI [s97]) (clI_len _) [0, 97] least97 a c W h)
  have h255 := fun a c W h => right13_calls ((clI [s97]).take 255) (by rw [List.length_take, clI_len]; decide) a c W h
  rw [right255, List.length_take, clI_len] at h255
  have HR5 : Hid (∀ a c W, IntsO ((clI [s97]).take 255) a W → Calls Try.prog 13 #[.slice a 255 c] W fun e w' => e = .returned (.bool false) ∧ W = w') := Lib.hid h255
  have HG := Lib.hid (clI_get [s97])
  have HGL := Lib.hid (clI_len [s97])
  have HNM := Lib.hid num97
  have HS := Lib.hid (s97_at w)
  have HB : Hid (Below w.heap.size w (w.alloc (.cells #[.int .u64 0, .int .u64 8589934592, .int .u64 0, .int .u64 0] 38))) := Lib.hid ((Below.refl _ _).alloc (Nat.le_refl _) _)
  clear h255
  go_enter Try.func7, Try.ntmps7
  go_wp2_with fail
  refine (H1.out _ HS.out).mono ?_
  rintro e w2 ⟨g, rfl, hi, hb⟩
  have HI := Lib.hid hi
  replace HB := Lib.hid (HB.out.trans (hb.mono HB.out.size))
  clear hi hb H1 HS
  go_wp2_with fail
  refine (H2.out _).mono ?_
  rintro e w3 ⟨g2, rfl, hi2, hb⟩
  have HI2 := Lib.hid hi2
  replace HI := Lib.hid (HI.out.below hb)
  replace HB := Lib.hid (HB.out.trans (hb.mono HB.out.size))
  clear hi2 hb H2
  obtain ⟨g', o', eg, hg, hc⟩ := HI.out (by intro h; have := HGL.out; rw [h] at this; simp at this)
  obtain ⟨rfl, rfl⟩ : g = g' ∧ 0 = o' := by cases eg; exact ⟨rfl, rfl⟩
  have c97 : w3.cell? ⟨g, 97, none⟩ = some (.int .i64 1) := by
    have := hc 97 (by rw [HGL.out]; decide)
    rw [HG.out, HNM.out.1, Nat.zero_add] at this
    exact this
  have c98 : w3.cell? ⟨g, 98, none⟩ = some (.int .i64 0) := by
    have := hc 98 (by rw [HGL.out]; decide)
    rw [HG.out, HNM.out.2, Nat.zero_add] at this
    exact this
  clear hc hg eg HG
  have HI5 := Lib.hid (ints_take 255 HI.out)
  go_wp2_with fail
  refine (HR.out _ _ _ HI2.out).mono ?_
  rintro e w4 ⟨rfl, rfl⟩
  go_wp2_with fail
  refine (HL.out _ _ _ HI.out).mono ?_
  rintro e w5 ⟨v, rfl, hv, hb⟩
  have ct := hv.text
  rw [text097] at ct
  replace HI5 := Lib.hid (HI5.out.below hb)
  replace HB := Lib.hid (HB.out.trans (hb.mono HB.out.size))
  clear hv hb
  go_wp2_with fail
  refine (HR5.out _ _ _ HI5.out).mono ?_
  rintro e w6 ⟨rfl, rfl⟩
  go_wp2_with fail
  go_ret
  exact ⟨rfl, HB.out⟩
theorem termI_len (l : List NdN) : (termI l).length ≤ 256 := by
  unfold termI
  split
  · rw [clI_len]; exact Nat.le_refl _
  · exact Nat.zero_le _
set_option maxRecDepth 100000 in
set_option maxHeartbeats 16000000 in
theorem partTells_calls (C : PartC) (l : List (BitVec 256)) (hl : l.length ≤ 9223372036854775807) (a : Option Addr) (cap : Nat) (hcap : l.length ≤ cap) (t : List NdN) (ht : t.length ≤ 9223372036854775807) (b : Option Addr) (cp : Nat) (w : World) (h : SetsAt l a w) (k : NodesAt t b w) :
    Calls Try.prog 3 #[.slice a l.length cap, .slice b t.length cp] w fun e w' => e = .returned (.bool true) ∧ Below w.heap.size w w' := by
  have HSU := Lib.hid (fun (W : World) => sure13_calls C W)
  have HN := Lib.hid h
  have HM := Lib.hid k
  clear h k
  by_cases h5 : 20 < l.length
  · have q1 : decide (20 < l.length) = true := decide_eq_true h5
    have q2 : decide ((20 : Int) < (l.length : Int)) = true := by rw [decide_eq_true_iff]; omega
    clear C h5
    go_enter Try.func3, Try.ntmps3
    go_wp2_with fail
    refine (HSU.out _).mono ?_
    rintro e wz ⟨rfl, hb⟩
    go_wp2_with fail
    go_ret
    exact ⟨rfl, hb⟩
  have q1 : decide (20 < l.length) = false := decide_eq_false h5
  have q2 : decide ((20 : Int) < (l.length : Int)) = false := by rw [decide_eq_false_iff_not]; omega
  by_cases h6 : 60 < t.length
  · have q3 : decide (60 < t.length) = true := decide_eq_true h6
    have q4 : decide ((60 : Int) < (t.length : Int)) = true := by rw [decide_eq_true_iff]; omega
    clear C h5 h6
    go_enter Try.func3, Try.ntmps3
    go_wp2_with fail
    refine (HSU.out _).mono ?_
    rintro e wz ⟨rfl, hb⟩
    go_wp2_with fail
    go_ret
    exact ⟨rfl, hb⟩
  have q3 : decide (60 < t.length) = false := decide_eq_false h6
  have q4 : decide ((60 : Int) < (t.length : Int)) = false := by rw [decide_eq_false_iff_not]; omega
  have HO1 := Lib.hid (fun W h => C.of_ l (by omega) a cap hcap W h)
  have HR1 := Lib.hid (fun W h => rOf13_calls l (by omega) a cap W h)
  have HO2 := Lib.hid (fun W h => C.term_ t (by omega) b cp W h)
  have HR2 := Lib.hid (fun W h => rTerm13_calls t (by omega) b cp W h)
  have HI1 := Lib.hid (fun a b c1 c2 W h1 h2 => ints256 (clI l) (clI_len l) a b c1 c2 W h1 h2)
  have HI2 := Lib.hid (fun a b c1 c2 W h1 h2 => ints_same (termI t) (by have := termI_len t; omega) a b c1 c2 W h1 h2)
  clear C h5 h6
  generalize clI l = CI at *
  generalize clsN l = CN at *
  generalize termI t = TI at *
  generalize termK t = TK at *
  go_enter Try.func3, Try.ntmps3
  go_wp2_with fail
  refine (HO1.out _ HN.out).mono ?_
  rintro e w1 ⟨g1, rfl, hx, hb⟩
  replace HN := Lib.hid (HN.out.below hb)
  replace HM := Lib.hid (HM.out.below hb)
  have HB := Lib.hid hb
  have HX := Lib.hid hx
  clear hb hx HO1
  go_wp2_with fail
  refine (HR1.out _ HN.out).mono ?_
  rintro e w2 ⟨g2, rfl, hy, hb⟩
  replace HM := Lib.hid (HM.out.below hb)
  replace HX := Lib.hid (HX.out.below hb)
  replace HB := Lib.hid (HB.out.trans (hb.mono HB.out.size))
  have HY := Lib.hid hy
  clear hb hy HR1 HN
  go_wp2_with fail
  refine (HO2.out _ HM.out).mono ?_
  rintro e w3 ⟨b3, c3, rfl, hu, hb⟩
  replace HM := Lib.hid (HM.out.below hb)
  replace HX := Lib.hid (HX.out.below hb)
  replace HY := Lib.hid (HY.out.below hb)
  replace HB := Lib.hid (HB.out.trans (hb.mono HB.out.size))
  have HU := Lib.hid hu
  clear hb hu HO2
  go_wp2_with fail
  refine (HR2.out _ HM.out).mono ?_
  rintro e w4 ⟨b4, c4, rfl, hv, hb⟩
  replace HX := Lib.hid (HX.out.below hb)
  replace HY := Lib.hid (HY.out.below hb)
  replace HU := Lib.hid (HU.out.below hb)
  replace HB := Lib.hid (HB.out.trans (hb.mono HB.out.size))
  have HV := Lib.hid hv
  clear hb hv HR2 HM
  go_wp2_with fail
  refine (HI1.out _ _ _ _ _ HX.out HY.out).mono ?_
  rintro e w5 ⟨rfl, hb⟩
  replace HU := Lib.hid (HU.out.below hb)
  replace HV := Lib.hid (HV.out.below hb)
  replace HB := Lib.hid (HB.out.trans (hb.mono HB.out.size))
  clear hb
  go_wp2_with fail
  refine (HI2.out _ _ _ _ _ HU.out HV.out).mono ?_
  rintro e w6 ⟨rfl, hb⟩
  replace HB := Lib.hid (HB.out.trans (hb.mono HB.out.size))
  clear hb
  go_wp2_with fail
  refine (HSU.out _).mono ?_
  rintro e w7 ⟨rfl, hb⟩
  replace HB := Lib.hid (HB.out.trans (hb.mono HB.out.size))
  clear hb
  go_wp2_with fail
  go_ret
  exact ⟨rfl, HB.out⟩
end Go.Proofs.Ytbfcancmljdjhaa

/- PartRight. Stage 13. -/
namespace Go.Proofs.Ytbfcancmljdjhaa
open Go.RowKit BS

theorem deps_get {md : Region.Mode} {ops : Array Oper} {V : Nat → Value → World → Prop} {o oj : Oper} {a : Act} {w : World} {k d : Nat} (h : Deps md ops V o a w) (hk : (o.after.any fun e => Region.binds md e && e.on == k) = true) (hj : ops[k]? = some oj) (hd : oj.dst = some d) : V k (a.tmps.getD d undef) w := by
  simp only [Array.any_eq_true', Bool.and_eq_true, beq_iff_eq] at hk
  obtain ⟨e, he, hb, rfl⟩ := hk
  exact h e he hb oj d hj hd
def UPr (s : Value) (r : Bool) (T : ByteArray) : Nat → List Value → Value → Prop
  | 0, _, v => v = s
  | 1, _, v => v = .bool r
  | 2, _, v => v = s
  | 3, _, v => v = .bool r
  | 4, _, v => v = .bool true
  | 5, _, v => v = .bool true
  | 6, _, v => v = s
  | 7, _, _ => True
  | 8, _, v => v = .string T
  | 9, _, v => v = s
  | 10, _, _ => True
  | 11, _, v => v = .string T
  | _, _, v => v = .bool true
def VPr (M : List Nat) : Nat → Value → World → Prop
  | 7, v, w => RowV M v w
  | 10, v, w => RowV M v w
  | _, _, _ => True
theorem keepVPr (M : List Nat) : ∀ i v w w', Below w.heap.size w w' → VPr M i v w → VPr M i v w' := by
  intro i v w w' hb h
  unfold VPr at *
  split
  · exact h.below hb
  · exact h.below hb
  · trivial
def SPr (l : List Int) (a : Option Addr) (w W : World) : Prop := IntsO l a W ∧ Below w.heap.size w W
theorem keepSPr {l : List Int} {a : Option Addr} {w : World} : ∀ W W', Below W.heap.size W W' → SPr l a w W → SPr l a w W' := fun _ _ hb h => ⟨h.1.below hb, h.2.trans (hb.mono h.2.size)⟩
set_option maxRecDepth 100000 in
set_option maxHeartbeats 16000000 in
theorem partRight_calls (C : PartC) (l : List Int) (hlm : l.length ≤ 9223372036854775807) (a : Option Addr) (cap : Nat) (w : World) (h : IntsO l a w) :
    Calls Try.prog 4 #[.slice a l.length cap] w fun e w' => e = .returned (.bool true) ∧ Below w.heap.size w w' := by
  have HSU := Lib.hid (fun (W : World) => sure13_calls C W)
  have HN := Lib.hid h
  clear h
  by_cases h5 : 300 < l.length
  · have q1 : decide (300 < l.length) = true := decide_eq_true h5
    have q2 : decide ((300 : Int) < (l.length : Int)) = true := by rw [decide_eq_true_iff]; omega
    clear C h5
    go_enter Try.func4, Try.ntmps4
    go_wp2_with fail
    refine (HSU.out _).mono ?_
    rintro e wz ⟨rfl, hb⟩
    go_wp2_with fail
    go_ret
    exact ⟨rfl, hb⟩
  have q1 : decide (300 < l.length) = false := decide_eq_false h5
  have q2 : decide ((300 : Int) < (l.length : Int)) = false := by rw [decide_eq_false_iff_not]; omega
  have hl : l.length ≤ 1000000 := by omega
  have HLE := Lib.hid (fun W h => least13_calls l hl a cap W h)
  have HRL := Lib.hid (fun W h => rLeast13_calls l hl a cap W h)
  have HTX := Lib.hid (fun v W (h : RowV (leastC l) v W) => h.text)
  obtain ⟨r, hrr⟩ : ∃ r, rightC l = r := ⟨_, rfl⟩
  have HRR := Lib.hid hrr
  have HR1 := Lib.hid (show ∀ W, IntsO l a W → Calls Try.prog 13 #[.slice a l.length cap] W fun e w' => e = .returned (.bool r) ∧ Below W.heap.size W w' from fun W hW => (right13_calls l hl a cap W hW).mono fun e w' hh => ⟨by rw [hh.1, hrr], by rw [← hh.2]; exact Below.refl _ _⟩)
  have HR2 := Lib.hid (show ∀ W, IntsO l a W → Calls Try.prog 14 #[.slice a l.length cap] W fun e w' => e = .returned (.bool r) ∧ Below W.heap.size W w' from fun W hW => (rRight13_calls l hl a cap W hW).mono fun e w' hh => ⟨by rw [hh.1, hrr], by rw [← hh.2]; exact Below.refl _ _⟩)
  clear C h5 hrr hlm
  generalize leastC l = M at *
  generalize ofT M = T at *
  go_enter Try.func4, Try.ntmps4
  go_upto_region 3 with fail
  refine region_stepsR (S := SPr l a w) (U := UPr (.slice a l.length cap) r T) (V := VPr M) (by kernel_rfl) keepSPr (keepVPr M) (by kernel_rfl) ⟨HN.out.below (Below.refl _ _).drew, (Below.refl _ _).drew⟩ ?_
  simp only [List.size_toArray, List.length_cons, List.length_nil, Nat.reduceAdd, Array.replicate_succ, Array.replicate_zero, List.push_toArray, List.nil_append, List.cons_append]
  refine AnyR.step (i := 0) (d := some 7) rfl rfl (by kernel_rfl) (by kernel_rfl) (by kernel_rfl) (by kernel_rfl) ?_ ?_ ?_
  · exact ⟨_, rfl⟩
  · refine StepsR.yield (.slice a l.length cap) rfl (by kernel_rfl) (fun w' hS hD => ⟨?_, trivial⟩)
    clear hS hD; go_simp
    try rfl
  intro v' hv' a' ha'
  have hv' : .slice a l.length cap = v' := Eq.symm hv'
  subst hv'
  simp only [Act.put, List.setIfInBounds_toArray, List.set_cons_zero, List.set_cons_succ] at ha'
  subst ha'
  refine AnyR.step (i := 1) (d := some 8) rfl rfl (by kernel_rfl) (by kernel_rfl) (by kernel_rfl) (by kernel_rfl) ?_ ?_ ?_
  · exact ⟨_, rfl⟩
  · refine StepsR.call (by kernel_rfl) (fun w' hS => by clear hS; go_simp) (fun w' hS hD => (HR1.out w' hS.1).mono ?_)
    rintro e w'' ⟨rfl, hb⟩
    exact ⟨_, rfl, rfl, trivial, hb⟩
  intro v' hv' a' ha'
  have hv' : .bool r = v' := Eq.symm hv'
  subst hv'
  simp only [Act.put, List.setIfInBounds_toArray, List.set_cons_zero, List.set_cons_succ] at ha'
  subst ha'
  refine AnyR.step (i := 2) (d := some 9) rfl rfl (by kernel_rfl) (by kernel_rfl) (by kernel_rfl) (by kernel_rfl) ?_ ?_ ?_
  · exact ⟨_, rfl⟩
  · refine StepsR.yield (.slice a l.length cap) rfl (by kernel_rfl) (fun w' hS hD => ⟨?_, trivial⟩)
    clear hS hD; go_simp
    try rfl
  intro v' hv' a' ha'
  have hv' : .slice a l.length cap = v' := Eq.symm hv'
  subst hv'
  simp only [Act.put, List.setIfInBounds_toArray, List.set_cons_zero, List.set_cons_succ] at ha'
  subst ha'
  refine AnyR.step (i := 3) (d := some 10) rfl rfl (by kernel_rfl) (by kernel_rfl) (by kernel_rfl) (by kernel_rfl) ?_ ?_ ?_
  · exact ⟨_, rfl⟩
  · refine StepsR.call (by kernel_rfl) (fun w' hS => by clear hS; go_simp) (fun w' hS hD => (HR2.out w' hS.1).mono ?_)
    rintro e w'' ⟨rfl, hb⟩
    exact ⟨_, rfl, rfl, trivial, hb⟩
  intro v' hv' a' ha'
  have hv' : .bool r = v' := Eq.symm hv'
  subst hv'
  simp only [Act.put, List.setIfInBounds_toArray, List.set_cons_zero, List.set_cons_succ] at ha'
  subst ha'
  refine AnyR.step (i := 4) (d := some 11) rfl rfl (by kernel_rfl) (by kernel_rfl) (by kernel_rfl) (by kernel_rfl) ?_ ?_ ?_
  · exact ⟨_, rfl⟩
  · refine StepsR.yield (.bool true) rfl (by kernel_rfl) (fun w' hS hD => ⟨?_, trivial⟩)
    clear hS hD; go_simp
    try rfl
  intro v' hv' a' ha'
  have hv' : .bool true = v' := Eq.symm hv'
  subst hv'
  simp only [Act.put, List.setIfInBounds_toArray, List.set_cons_zero, List.set_cons_succ] at ha'
  subst ha'
  refine AnyR.step (i := 5) (d := some 12) rfl rfl (by kernel_rfl) (by kernel_rfl) (by kernel_rfl) (by kernel_rfl) ?_ ?_ ?_
  · exact ⟨_, rfl⟩
  · refine StepsR.yield (.bool true) rfl (by kernel_rfl) (fun w' hS hD => ⟨?_, trivial⟩)
    clear hS hD; go_simp
    try rfl
  intro v' hv' a' ha'
  have hv' : .bool true = v' := Eq.symm hv'
  subst hv'
  simp only [Act.put, List.setIfInBounds_toArray, List.set_cons_zero, List.set_cons_succ] at ha'
  subst ha'
  refine AnyR.step (i := 6) (d := some 13) rfl rfl (by kernel_rfl) (by kernel_rfl) (by kernel_rfl) (by kernel_rfl) ?_ ?_ ?_
  · exact ⟨_, rfl⟩
  · refine StepsR.yield (.slice a l.length cap) rfl (by kernel_rfl) (fun w' hS hD => ⟨?_, trivial⟩)
    clear hS hD; go_simp
    try rfl
  intro v' hv' a' ha'
  have hv' : .slice a l.length cap = v' := Eq.symm hv'
  subst hv'
  simp only [Act.put, List.setIfInBounds_toArray, List.set_cons_zero, List.set_cons_succ] at ha'
  subst ha'
  refine AnyR.step (i := 7) (d := some 14) rfl rfl (by kernel_rfl) (by kernel_rfl) (by kernel_rfl) (by kernel_rfl) ?_ ?_ ?_
  · exact ⟨undef, trivial⟩
  · refine StepsR.call (by kernel_rfl) (fun w' hS => by clear hS; go_simp) (fun w' hS hD => (HLE.out w' hS.1).mono ?_)
    rintro e w'' ⟨v, rfl, hr, hb⟩
    exact ⟨v, rfl, trivial, hr, hb⟩
  intro r7 _ a' ha'
  simp only [Act.put, List.setIfInBounds_toArray, List.set_cons_zero, List.set_cons_succ] at ha'
  subst ha'
  refine AnyR.step (i := 8) (d := some 15) rfl rfl (by kernel_rfl) (by kernel_rfl) (by kernel_rfl) (by kernel_rfl) ?_ ?_ ?_
  · exact ⟨_, rfl⟩
  · refine StepsR.yield (.string T) rfl (by kernel_rfl) (fun w' hS hD => ⟨?_, trivial⟩)
    have c1 : (convert 33 9 r7).run Try.prog w' = .ok (.string T) w' := HTX.out _ _ (deps_get hD (k := 7) (by kernel_rfl) rfl rfl); clear hS hD; go_simp
    try rfl
  intro v' hv' a' ha'
  have hv' : .string T = v' := Eq.symm hv'
  subst hv'
  simp only [Act.put, List.setIfInBounds_toArray, List.set_cons_zero, List.set_cons_succ] at ha'
  subst ha'
  refine AnyR.step (i := 9) (d := some 16) rfl rfl (by kernel_rfl) (by kernel_rfl) (by kernel_rfl) (by kernel_rfl) ?_ ?_ ?_
  · exact ⟨_, rfl⟩
  · refine StepsR.yield (.slice a l.length cap) rfl (by kernel_rfl) (fun w' hS hD => ⟨?_, trivial⟩)
    clear hS hD; go_simp
    try rfl
  intro v' hv' a' ha'
  have hv' : .slice a l.length cap = v' := Eq.symm hv'
  subst hv'
  simp only [Act.put, List.setIfInBounds_toArray, List.set_cons_zero, List.set_cons_succ] at ha'
  subst ha'
  refine AnyR.step (i := 10) (d := some 17) rfl rfl (by kernel_rfl) (by kernel_rfl) (by kernel_rfl) (by kernel_rfl) ?_ ?_ ?_
  · exact ⟨undef, trivial⟩
  · refine StepsR.call (by kernel_rfl) (fun w' hS => by clear hS; go_simp) (fun w' hS hD => (HRL.out w' hS.1).mono ?_)
    rintro e w'' ⟨v, rfl, hr, hb⟩
    exact ⟨v, rfl, trivial, hr, hb⟩
  intro r10 _ a' ha'
  simp only [Act.put, List.setIfInBounds_toArray, List.set_cons_zero, List.set_cons_succ] at ha'
  subst ha'
  refine AnyR.step (i := 11) (d := some 18) rfl rfl (by kernel_rfl) (by kernel_rfl) (by kernel_rfl) (by kernel_rfl) ?_ ?_ ?_
  · exact ⟨_, rfl⟩
  · refine StepsR.yield (.string T) rfl (by kernel_rfl) (fun w' hS hD => ⟨?_, trivial⟩)
    have c1 : (convert 33 9 r10).run Try.prog w' = .ok (.string T) w' := HTX.out _ _ (deps_get hD (k := 10) (by kernel_rfl) rfl rfl); clear hS hD; go_simp
    try rfl
  intro v' hv' a' ha'
  have hv' : .string T = v' := Eq.symm hv'
  subst hv'
  simp only [Act.put, List.setIfInBounds_toArray, List.set_cons_zero, List.set_cons_succ] at ha'
  subst ha'
  refine AnyR.step (i := 12) (d := some 19) rfl rfl (by kernel_rfl) (by kernel_rfl) (by kernel_rfl) (by kernel_rfl) ?_ ?_ ?_
  · exact ⟨_, rfl⟩
  · refine StepsR.yield (.bool true) rfl (by kernel_rfl) (fun w' hS hD => ⟨?_, trivial⟩)
    clear hS hD; go_simp
    try rfl
  intro v' hv' a' ha'
  have hv' : .bool true = v' := Eq.symm hv'
  subst hv'
  simp only [Act.put, List.setIfInBounds_toArray, List.set_cons_zero, List.set_cons_succ] at ha'
  subst ha'
  refine AnyR.step (i := 13) (d := some 20) rfl rfl (by kernel_rfl) (by kernel_rfl) (by kernel_rfl) (by kernel_rfl) ?_ ?_ ?_
  · exact ⟨_, rfl⟩
  · refine StepsR.yield (.bool true) rfl (by kernel_rfl) (fun w' hS hD => ⟨?_, trivial⟩)
    clear hS hD; go_simp
    try rfl
  intro v' hv' a' ha'
  have hv' : .bool true = v' := Eq.symm hv'
  subst hv'
  simp only [Act.put, List.setIfInBounds_toArray, List.set_cons_zero, List.set_cons_succ] at ha'
  subst ha'
  refine AnyR.step (i := 14) (d := some 21) rfl rfl (by kernel_rfl) (by kernel_rfl) (by kernel_rfl) (by kernel_rfl) ?_ ?_ ?_
  · exact ⟨_, rfl⟩
  · refine StepsR.yield (.bool true) rfl (by kernel_rfl) (fun w' hS hD => ⟨?_, trivial⟩)
    clear hS hD; go_simp
    try rfl
  intro v' hv' a' ha'
  have hv' : .bool true = v' := Eq.symm hv'
  subst hv'
  simp only [Act.put, List.setIfInBounds_toArray, List.set_cons_zero, List.set_cons_succ] at ha'
  subst ha'
  refine AnyR.step (i := 15) (d := some 22) rfl rfl (by kernel_rfl) (by kernel_rfl) (by kernel_rfl) (by kernel_rfl) ?_ ?_ ?_
  · exact ⟨_, rfl⟩
  · refine StepsR.call (by kernel_rfl) (fun w' hS => by clear hS; go_simp) (fun w' hS hD => (HSU.out w').mono ?_)
    rintro e w'' ⟨rfl, hb⟩
    exact ⟨_, rfl, rfl, trivial, hb⟩
  intro v' hv' a' ha'
  have hv' : .bool true = v' := Eq.symm hv'
  subst hv'
  simp only [Act.put, List.setIfInBounds_toArray, List.set_cons_zero, List.set_cons_succ] at ha'
  subst ha'
  refine AnyR.step (i := 16) (d := some 23) rfl rfl (by kernel_rfl) (by kernel_rfl) (by kernel_rfl) (by kernel_rfl) ?_ ?_ ?_
  · exact ⟨_, rfl⟩
  · refine StepsR.yield (.bool true) rfl (by kernel_rfl) (fun w' hS hD => ⟨?_, trivial⟩)
    clear hS hD; go_simp
    try rfl
  intro v' hv' a' ha'
  have hv' : .bool true = v' := Eq.symm hv'
  subst hv'
  simp only [Act.put, List.setIfInBounds_toArray, List.set_cons_zero, List.set_cons_succ] at ha'
  subst ha'
  refine AnyR.step (i := 17) (d := some 2) rfl rfl (by kernel_rfl) (by kernel_rfl) (by kernel_rfl) (by kernel_rfl) ?_ ?_ ?_
  · exact ⟨_, rfl⟩
  · refine StepsR.yield (.bool true) rfl (by kernel_rfl) (fun w' hS hD => ⟨?_, trivial⟩)
    clear hS hD; go_simp
    try rfl
  intro v' hv' a' ha'
  have hv' : .bool true = v' := Eq.symm hv'
  subst hv'
  simp only [Act.put, List.setIfInBounds_toArray, List.set_cons_zero, List.set_cons_succ] at ha'
  subst ha'
  refine AnyR.done (by kernel_rfl) ?_ _
  intro w9 hS9 _
  have HB := Lib.hid hS9.2
  clear hS9
  go_wp2_with fail
  go_ret
  exact ⟨rfl, HB.out⟩
end Go.Proofs.Ytbfcancmljdjhaa

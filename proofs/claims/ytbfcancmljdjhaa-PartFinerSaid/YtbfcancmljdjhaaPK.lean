/- Texts put together: Zh Zi Is Zj. -/
import Derived.Test.YtbfcancmljdjhaaPD
import Derived.Deep.OwnRows
import Derived.Test.YtbfcancmljdjhaaPI
import Derived.Test.YtbfcancmljdjhaaPJ
import Derived.Laws.Slices
/- The document's Of. Stage 13. -/
namespace Go.Proofs.Ytbfcancmljdjhaa
open Go.RowKit BS

/-- The classes' numbers. -/
def clI (l : List (BitVec 256)) : List Int := (clsL l).map fun n : Nat => (n : Int)
theorem clI_len (l : List (BitVec 256)) : (clI l).length = 256 := by unfold clI; rw [List.length_map, cls_len]
theorem clI_get (l : List (BitVec 256)) (i : Nat) (h : i < (clI l).length) : (clI l)[i] = (numE (alE l) i : Nat) := by
  have h2 : i < 256 := by rw [← clI_len l]; exact h
  have h3 : (clI l)[i]? = some ((numE (alE l) i : Nat) : Int) := by
    unfold clI clsL
    rw [List.getElem?_map, List.getElem?_map, List.getElem?_range h2]
    rfl
  rw [List.getElem?_eq_getElem h] at h3
  exact Option.some.inj h3
theorem intZ256 (n k : Nat) (h : k < n) : (madeCells #[Value.int .i64 0] n)[k]? = some (.int .i64 0) := by
  unfold madeCells
  rw [Array.getElem?_map, Array.getElem?_range, if_pos h]
  show some (#[Value.int .i64 0][k % 1]!) = _
  rw [Nat.mod_one]
  rfl
theorem make256 (W : World) : (Instr.makeSlice 25 (.int .i64 256) (.int .i64 256)).run Try.prog W = .ok (.slice (some ⟨W.heap.size, 0, none⟩) 256 256) (W.alloc (.cells (madeCells #[Value.int .i64 0] 256) 3)) :=
  run_make_row' (P := Try.prog) 25 3 (.int .i64 0) 8 Try.underlying25 (by kernel_rfl) rfl .i64 .i64 256 (by omega) (by omega) W
/-- The first n classes stand in block C. -/
def ClB (E : Nat → Nat → Bool) (n C : Nat) (W : World) : Prop := ∃ vs : Array Value, vs.size = 256 ∧ (∀ x, x < n → vs[x]? = some (.int .i64 (numE E x : Nat))) ∧ Blk W C vs 3
theorem ClB.below {E : Nat → Nat → Bool} {n C : Nat} {W W' : World} {B : Nat} (h : ClB E n C W) (k : Below B W W') (hC : C < B) : ClB E n C W' := by
  obtain ⟨vs, h1, h2, h3⟩ := h
  exact ⟨vs, h1, h2, h3.below k hC⟩
theorem ClB.set {E : Nat → Nat → Bool} {n C : Nat} {W : World} (h : ClB E n C W) (i : Nat) (v : Value) (hi : n ≤ i) : ClB E n C (W.setCell ⟨C, i, none⟩ v) := by
  obtain ⟨vs, h1, h2, h3⟩ := h
  refine ⟨vs.setIfInBounds i v, by simp [h1], fun x hx => ?_, h3.set i v⟩
  rw [Array.getElem?_setIfInBounds_ne (by omega)]
  exact h2 x hx
theorem ClB.next {E : Nat → Nat → Bool} {n C : Nat} {W : World} (h : ClB E n C W) (v : Int) (hv : W.cell? ⟨C, n, none⟩ = some (.int .i64 v)) (he : v = (numE E n : Nat)) : ClB E (n + 1) C W := by
  obtain ⟨vs, h1, h2, h3⟩ := h
  refine ⟨vs, h1, fun x hx => ?_, h3⟩
  by_cases hxn : x = n
  · subst hxn; rw [h3.cell] at hv; rw [hv, he]
  · exact h2 x (by omega)
theorem ClB.lt {E : Nat → Nat → Bool} {n C : Nat} {W : World} (h : ClB E n C W) : C < W.heap.size := by
  obtain ⟨vs, h1, h2, h3⟩ := h
  exact h3.lt
theorem ClB.cell {E : Nat → Nat → Bool} {n C : Nat} {W : World} (h : ClB E n C W) (x : Nat) (hx : x < n) : W.cell? ⟨C, x, none⟩ = some (.int .i64 (numE E x : Nat)) := by
  obtain ⟨vs, h1, h2, h3⟩ := h
  exact (h3.cell x).trans (h2 x hx)
theorem ClB.there {E : Nat → Nat → Bool} {n C : Nat} {W : World} (h : ClB E n C W) (x : Nat) (hx : x < 256) : (∃ v, W.cell? ⟨C, x, none⟩ = some v) ∧ W.frozen? ⟨C, x, none⟩ = false := by
  obtain ⟨vs, h1, h2, h3⟩ := h
  exact ⟨⟨vs[x]'(by omega), by rw [h3.cell]; simp [show x < vs.size by omega]⟩, h3.frozen x⟩
theorem ClB.ints {l : List (BitVec 256)} {C : Nat} {W : World} (h : ClB (alE l) 256 C W) : IntsO (clI l) (some ⟨C, 0, none⟩) W := fun _ =>
  ⟨C, 0, rfl, h.lt, fun i hi => by rw [Nat.zero_add, h.cell i (by rw [clI_len] at hi; exact hi), clI_get]⟩
/-- What stands for byte b behind c tries. -/
def TriedE (E : Nat → Nat → Bool) (b c : Nat) (v : Int) : Prop := (v = -1 ∧ ∀ x, x < c → E b x = false) ∨ (v = (numE E b : Nat) ∧ ∃ x, x < b ∧ E b x = true)
theorem tried_rep {E : Nat → Nat → Bool} (h : Eqv E) {b : Nat} (hx : ∃ x, x < b ∧ E b x = true) : isRep E b = false := by
  obtain ⟨x, hx, he⟩ := hx
  have := rep_least h b x he
  exact decide_eq_false (by omega)
theorem tried_none {E : Nat → Nat → Bool} (h : Eqv E) {b : Nat} (hx : ∀ x, x < b → E b x = false) : isRep E b = true := by
  apply decide_eq_true
  have h1 := rep_le E b
  rcases Nat.lt_or_ge (repE E b) b with h2 | h2
  · have := hx _ h2
    rw [rep_alike h b] at this
    cases this
  · omega
set_option maxRecDepth 100000 in
set_option maxHeartbeats 16000000 in
theorem rOf13_calls (l : List (BitVec 256)) (hl : l.length ≤ 1000000) (a : Option Addr) (cap : Nat) (w : World) (h : SetsAt l a w) :
    Calls Try.prog 9 #[.slice a l.length cap] w fun e w' => ∃ g, e = .returned (.tuple #[.slice (some ⟨g, 0, none⟩) 256 256, .int .i64 (clsN l : Nat)]) ∧ IntsO (clI l) (some ⟨g, 0, none⟩) w' ∧ Below w.heap.size w w' := by
  have HN := Lib.hid h
  have hmk := make256
  have hmz : (madeCells #[Value.int .i64 0] 256).size = 256 := by simp [madeCells]
  generalize madeCells #[Value.int .i64 0] 256 = vs0 at *
  have hS0 := Blk.new w vs0 3
  have HW0 := Lib.hid (show Below w.heap.size w (w.alloc (.cells vs0 3)) from (Below.refl _ _).alloc (Nat.le_refl _) _)
  have HC0 := Lib.hid (show ClB (alE l) 0 w.heap.size (w.alloc (.cells vs0 3)) from ⟨vs0, hmz, fun x hx => absurd hx (by omega), hS0⟩)
  have HM0 := Lib.hid (show manyE (alE l) 0 = 0 from rfl)
  have HQ := Lib.hid (al_eqv l)
  have HALK := Lib.hid (fun (x y : Nat) (hx : x < 256) (hy : y < 256) (W : World) (hb : Below w.heap.size w W) => alike_calls l hl x y hx hy a cap W (h.below hb))
  have HFIN := Lib.hid (fun (W : World) (hc : ClB (alE l) 256 w.heap.size W) => hc.ints)
  have HCN := Lib.hid (show clsN l = manyE (alE l) 256 from rfl)
  clear h hS0 hmz
  generalize hCI : clI l = CI at *
  generalize clsN l = CN at *
  generalize alE l = E at *
  go_enter Try.func9, Try.ntmps9
  go_upto_region 2 with fail
  generalize w.alloc (.cells vs0 3) = w1 at *
  clear hmk
  go_upto_region 3 with fail
  go_loopw [5, 6] (fun vm vb wr => ∃ b : Nat, b ≤ 256 ∧ vm = .int .i64 (manyE E b : Nat) ∧ vb = .int .i64 b ∧ ClB E b w.heap.size wr ∧ Below w.heap.size w wr) (fun _ vb _ => 256 - (intOf vb).toNat)
  case atStart => exact ⟨0, by decide, by rw [HM0.out]; rfl, rfl, HC0.out, HW0.out⟩
  case round =>
    clear HW0 HC0 HM0 hCI
    obtain ⟨b, hb, rfl, rfl, hC, hB⟩ := hrel
    by_cases hlt : b < 256
    · have hii : (b : Int) < 256 := by omega
      have hd : decide (b < 256) = true := by rw [decide_eq_true_iff]; omega
      have hdI : decide ((b : Int) < 256) = true := by rw [decide_eq_true_iff]; omega
      have xb : IntKind.i64.wrap ((b : Int) + 1) = (b : Int) + 1 := IntWalk.i64_in _ (by omega)
      obtain ⟨⟨v0, cb0⟩, fb0⟩ := hC.there b hlt
      have HC1 := Lib.hid (hC.set b (.int .i64 (-1)) (Nat.le_refl _))
      have hv1 := World.cell?_setCell_same wr ⟨w.heap.size, b, none⟩ (.int .i64 (-1)) cb0
      have HV1 := Lib.hid hv1
      have HB1 := Lib.hid (below_set hB (Nat.le_refl _) b (.int .i64 (-1)))
      have hml := many_le E b
      have xm : IntKind.i64.wrap ((manyE E b : Nat) + 1 : Int) = (manyE E b : Nat) + 1 := IntWalk.i64_in _ (by omega)
      have HST := Lib.hid (many_succ E b)
      clear hC hB hv1
      go_upto_region 7 with fail
      generalize wr.setCell ⟨w.heap.size, b, none⟩ (.int .i64 (-1)) = wr1 at *
      clear cb0 fb0
      go_loopw [7] (fun vc wq => ∃ (c : Nat) (v : Int), c ≤ b ∧ vc = .int .i64 c ∧ wq.cell? ⟨w.heap.size, b, none⟩ = some (.int .i64 v) ∧ TriedE E b c v ∧ ClB E b w.heap.size wq ∧ Below w.heap.size w wq) (fun vc _ => b - (intOf vc).toNat)
      case atStart => exact ⟨0, -1, Nat.zero_le _, rfl, HV1.out, .inl ⟨rfl, fun x hx => absurd hx (by omega)⟩, HC1.out, HB1.out⟩
      case round =>
        clear HC1 HV1 HB1
        obtain ⟨c, v, hc, rfl, cv, htr, hC, hB⟩ := hrel
        obtain ⟨_, fv⟩ := hC.there b hlt
        rcases htr with ⟨rfl, hno⟩ | ⟨rfl, hyes⟩
        · by_cases hcb : c < b
          · have hcI : decide ((c : Int) < (b : Int)) = true := by rw [decide_eq_true_iff]; omega
            have hcN : decide (c < b) = true := by rw [decide_eq_true_iff]; omega
            have hc2 : (c : Int) < 256 := by omega
            have hc3 : decide (c < 256) = true := by rw [decide_eq_true_iff]; omega
            have xc : IntKind.i64.wrap ((c : Int) + 1) = (c : Int) + 1 := IntWalk.i64_in _ (by omega)
            have HNO := Lib.hid hno
            have HC := Lib.hid hC
            have HB := Lib.hid hB
            have HV := Lib.hid cv
            clear hno hC hB
            go_wp2_with fail
            refine (HALK.out b c hlt (by omega) _ HB.out).mono ?_
            rintro e W2 ⟨rfl, hb2⟩
            have hCl := HC.out.lt
            replace HC := Lib.hid (HC.out.below hb2 hCl)
            replace HV := Lib.hid ((hb2.cell (p := ⟨w.heap.size, b, none⟩) hCl).trans HV.out)
            replace HB := Lib.hid (HB.out.trans (hb2.mono HB.out.size))
            obtain ⟨_, fv2⟩ := HC.out.there b hlt
            have cc := HC.out.cell c hcb
            have cv2 := HV.out
            clear hb2 cv fv hCl
            cases hE : E b c with
            | false =>
              have HE := Lib.hid hE
              clear hE cc cv2 fv2
              go_wp2_with fail
              go_roundw
              case rel => exact ⟨c + 1, -1, by omega, by simp, HV.out, .inl ⟨rfl, fun x hx => by
                by_cases hxc : x = c
                · rw [hxc]; exact HE.out
                · exact HNO.out x (by omega)⟩, HC.out, HB.out⟩
              case measure => simp [intOf]; omega
            | true =>
              have HE := Lib.hid hE
              have HN1 := Lib.hid ((num_iff HQ.out b c).2 hE)
              have HC3 := Lib.hid (fun v => HC.out.set b v (Nat.le_refl _))
              have HV3 := Lib.hid (fun v => World.cell?_setCell_same W2 ⟨w.heap.size, b, none⟩ v cv2)
              have HB3 := Lib.hid (fun v => below_set HB.out (Nat.le_refl _) b v)
              clear hE
              go_wp2_with fail
              go_roundw
              case rel => exact ⟨c + 1, (numE E c : Nat), by omega, by simp, HV3.out _, .inr ⟨by rw [HN1.out], c, hcb, HE.out⟩, HC3.out _, HB3.out _⟩
              case measure => simp [intOf]; omega
          · obtain rfl : c = b := by omega
            have hcI : decide ((c : Int) < (c : Int)) = false := by simp
            have hcN : decide (c < c) = false := by simp
            have hrep := tried_none HQ.out hno
            have hst := HST.out
            rw [hrep, if_pos rfl] at hst
            have HST2 := Lib.hid hst
            have HNM := Lib.hid (show numE E c = manyE E c by
              rcases num_step HQ.out c with ⟨_, e⟩ | ⟨e, _⟩
              · exact e
              · rw [hrep] at e; cases e)
            have HC3 := Lib.hid (fun v => hC.set c v (Nat.le_refl _))
            have HV3 := Lib.hid (fun v => World.cell?_setCell_same _ ⟨w.heap.size, c, none⟩ v cv)
            have HB3 := Lib.hid (fun v => below_set hB (Nat.le_refl _) c v)
            clear hno hC hB hrep hst
            go_wp2_with fail
            go_roundw
            case rel => exact ⟨c + 1, by omega, by rw [HST2.out]; rfl, by simp, (HC3.out _).next _ (HV3.out _) (by rw [HNM.out]), HB3.out _⟩
            case measure => simp [intOf]; omega
        · have hst := HST.out
          rw [tried_rep HQ.out hyes, if_neg (by decide)] at hst
          have HST2 := Lib.hid hst
          have hneg : decide (((numE E b : Nat) : Int) < 0) = false := by rw [decide_eq_false_iff_not]; omega
          have HC3 := Lib.hid (hC.next _ cv rfl)
          have HB3 := Lib.hid hB
          clear hyes hC hB hst
          by_cases hcb : c < b
          · have hcI : decide ((c : Int) < (b : Int)) = true := by rw [decide_eq_true_iff]; omega
            have hcN : decide (c < b) = true := by rw [decide_eq_true_iff]; omega
            go_wp2_with fail
            go_roundw
            case rel => exact ⟨b + 1, by omega, by rw [HST2.out]; rfl, by simp, HC3.out, HB3.out⟩
            case measure => simp [intOf]; omega
          · have hcI : decide ((c : Int) < (b : Int)) = false := by rw [decide_eq_false_iff_not]; omega
            have hcN : decide (c < b) = false := by rw [decide_eq_false_iff_not]; omega
            go_wp2_with fail
            go_roundw
            case rel => exact ⟨b + 1, by omega, by rw [HST2.out]; rfl, by simp, HC3.out, HB3.out⟩
            case measure => simp [intOf]; omega
    · obtain rfl : b = 256 := by omega
      have HB3 := Lib.hid hB
      have HF := Lib.hid (HFIN.out wr hC)
      clear hC hB
      go_wp2_with fail
      exact bodyPost_ret (v := .tuple #[.slice (some ⟨w.heap.size, 0, none⟩) 256 256, .int .i64 (manyE E 256 : Nat)]) (by simp [results, Try.results9, go_sem]) rfl ⟨w.heap.size, by rw [HCN.out], HF.out, HB3.out⟩
end Go.Proofs.Ytbfcancmljdjhaa

/- Right and Least: the document's, the developers'. Stage 13. -/
namespace Go.Proofs.Ytbfcancmljdjhaa
open Go.RowKit BS

theorem right_stop (l : List Int) (i m : Nat) (hi : i < l.length) (h : rcT l i = some m) (hn : rcS l[i] m = none) : rightC l = false := by
  have h1 : rcT l (i + 1) = none := by
    rw [rcT, h, Option.bind_some, List.getD_eq_getElem?_getD, List.getElem?_eq_getElem hi]
    exact hn
  unfold rightC
  rw [rc_none l (i + 1) h1 l.length (by omega)]
  rfl
theorem right_go (l : List Int) (i m : Nat) (hi : i < l.length) (h : rcT l i = some m) (h0 : ¬ l[i] < 0) (h1 : ¬ (m : Int) < l[i]) : rcT l (i + 1) = some (if l[i] = (m : Int) then m + 1 else m) := by
  rw [rcT, h, Option.bind_some, List.getD_eq_getElem?_getD, List.getElem?_eq_getElem hi]
  show rcS l[i] m = _
  unfold rcS
  rw [if_neg (by omega)]
theorem rcS_none (x : Int) (m : Nat) (h : x < 0 ∨ (m : Int) < x) : rcS x m = none := by unfold rcS; rw [if_pos h]
set_option maxRecDepth 100000 in
set_option maxHeartbeats 8000000 in
theorem rRight13_calls (l : List Int) (hl : l.length ≤ 1000000) (a : Option Addr) (cap : Nat) (w : World) (h : IntsO l a w) :
    Calls Try.prog 14 #[.slice a l.length cap] w fun e w' => e = .returned (.bool (rightC l)) ∧ w = w' := by
  have HN := Lib.hid h
  have HST := Lib.hid (right_stop l)
  have HGO := Lib.hid (right_go l)
  have HR := Lib.hid (show rightC l = ((rcT l l.length).isSome && decide (l.length = 256)) from rfl)
  have HLE := Lib.hid (rc_le l)
  clear h
  go_enter Try.func14, Try.ntmps14
  go_wp2_with fail
  go_loop [3, 4] (fun vm vi => ∃ (i m : Nat), i ≤ l.length ∧ m ≤ i ∧ vm = .int .i64 m ∧ vi = .int .i64 i ∧ rcT l i = some m) (fun _ vi => l.length - (intOf vi).toNat)
  case atStart => exact ⟨0, 0, Nat.zero_le _, Nat.le_refl _, rfl, rfl, rfl⟩
  case round =>
    obtain ⟨i, m, hi, hm, rfl, rfl, hres⟩ := hrel
    by_cases hlt : i < l.length
    · obtain ⟨g, off, rfl, hg, hc⟩ := HN.out (by rintro rfl; simp at hlt)
      have hd : decide ((i : Int) < (l.length : Int)) = true := by rw [decide_eq_true_iff]; omega
      have hd2 : decide (i < l.length) = true := by rw [decide_eq_true_iff]; omega
      have hii : (i : Int) < (l.length : Int) := by omega
      have xi : IntKind.i64.wrap ((i : Int) + 1) = (i : Int) + 1 := IntWalk.i64_in _ (by omega)
      have xm : IntKind.i64.wrap ((m : Int) + 1) = (m : Int) + 1 := IntWalk.i64_in _ (by omega)
      have c1 := hc i hlt
      have HS1 := Lib.hid (HST.out i m hlt hres)
      have HG1 := Lib.hid (HGO.out i m hlt hres)
      clear hc hres
      generalize l[i] = x at *
      by_cases h0 : x < 0
      · have q0 : decide (x < 0) = true := decide_eq_true h0
        have HF := Lib.hid (HS1.out (rcS_none x m (.inl h0)))
        clear h0
        go_wp2_with fail
        go_ret
        exact ⟨by rw [HF.out] <;> rfl, rfl⟩
      have q0 : decide (x < 0) = false := decide_eq_false h0
      by_cases h1 : (m : Int) < x
      · have q1 : decide ((m : Int) < x) = true := decide_eq_true h1
        have HF := Lib.hid (HS1.out (rcS_none x m (.inr h1)))
        clear h0 h1
        go_wp2_with fail
        go_ret
        exact ⟨by rw [HF.out] <;> rfl, rfl⟩
      have q1 : decide ((m : Int) < x) = false := decide_eq_false h1
      have hg1 := HG1.out (by omega) (by omega)
      by_cases h2 : x = (m : Int)
      · rw [if_pos h2] at hg1
        have HG2 := Lib.hid hg1
        clear h0 h1 hg1
        subst h2
        have q2 : ((m : Int) == (m : Int)) = true := by simp
        have q3 : decide ((m : Int) < (m : Int) + 1) = true := decide_eq_true (by omega)
        have q4 : max (m : Int) ((m : Int) + 1) = (m : Int) + 1 := Int.max_eq_right (by omega)
        go_wp2_with fail
        go_round
        case rel => exact ⟨i + 1, m + 1, by omega, by omega, by simp, by simp, HG2.out⟩
        case measure => simp [intOf]; omega
      · rw [if_neg h2] at hg1
        have HG2 := Lib.hid hg1
        have q2 : (x == (m : Int)) = false := by rw [beq_eq_false_iff_ne]; exact h2
        have xx : IntKind.i64.wrap (x + 1) = x + 1 := IntWalk.i64_in _ (by omega)
        have q3 : decide ((m : Int) < x + 1) = false := decide_eq_false (by omega)
        have q4 : max (m : Int) (x + 1) = (m : Int) := Int.max_eq_left (by omega)
        clear h0 h1 h2 hg1
        go_wp2_with fail
        go_round
        case rel => exact ⟨i + 1, m, by omega, by omega, rfl, by simp, HG2.out⟩
        case measure => simp [intOf]; omega
    · obtain rfl : i = l.length := by omega
      have hd : decide ((l.length : Int) < (l.length : Int)) = false := by simp
      have hr2 := HR.out
      rw [hres] at hr2
      have HR2 := Lib.hid hr2
      clear hr2 hres
      by_cases h256 : l.length = 256
      · have q : ((l.length : Int) == 256) = true := by simp; omega
        have H256 := Lib.hid h256
        clear h256
        go_wp2_with fail
        go_ret
        exact ⟨by rw [HR2.out, decide_eq_true H256.out] <;> rfl, rfl⟩
      · have q : ((l.length : Int) == 256) = false := by rw [beq_eq_false_iff_ne]; omega
        have H256 := Lib.hid h256
        clear h256
        go_wp2_with fail
        go_ret
        exact ⟨by rw [HR2.out, decide_eq_false H256.out] <;> rfl, rfl⟩
set_option maxRecDepth 100000 in
set_option maxHeartbeats 8000000 in
theorem right13_calls (l : List Int) (hl : l.length ≤ 1000000) (a : Option Addr) (cap : Nat) (w : World) (h : IntsO l a w) :
    Calls Try.prog 13 #[.slice a l.length cap] w fun e w' => e = .returned (.bool (rightC l)) ∧ w = w' := by
  have HN := Lib.hid h
  have HST := Lib.hid (right_stop l)
  have HGO := Lib.hid (right_go l)
  have HR := Lib.hid (show rightC l = ((rcT l l.length).isSome && decide (l.length = 256)) from rfl)
  have HLE := Lib.hid (rc_le l)
  clear h
  by_cases h256 : l.length = 256
  case neg =>
    have q : ((l.length : Int) != 256) = true := by simp; omega
    have HR2 := Lib.hid (show rightC l = false by rw [HR.out, decide_eq_false h256, Bool.and_false])
    clear h256
    go_enter Try.func13, Try.ntmps13
    go_wp2_with fail
    go_ret
    exact ⟨by rw [HR2.out] <;> rfl, rfl⟩
  have q : ((l.length : Int) != 256) = false := by simp; omega
  have H256 := Lib.hid h256
  clear h256
  go_enter Try.func13, Try.ntmps13
  go_wp2_with fail
  go_loop [3, 11] (fun vm vi => ∃ (i m : Nat), i ≤ l.length ∧ m ≤ i ∧ vm = .int .i64 m ∧ vi = .int .i64 i ∧ rcT l i = some m) (fun _ vi => l.length - (intOf vi).toNat)
  case atStart => exact ⟨0, 0, Nat.zero_le _, Nat.le_refl _, rfl, rfl, rfl⟩
  case round =>
    obtain ⟨i, m, hi, hm, rfl, rfl, hres⟩ := hrel
    by_cases hlt : i < l.length
    · obtain ⟨g, off, rfl, hg, hc⟩ := HN.out (by rintro rfl; simp at hlt)
      have hd : decide ((i : Int) < (l.length : Int)) = true := by rw [decide_eq_true_iff]; omega
      have hd2 : decide (i < l.length) = true := by rw [decide_eq_true_iff]; omega
      have hii : (i : Int) < (l.length : Int) := by omega
      have xi : IntKind.i64.wrap ((i : Int) + 1) = (i : Int) + 1 := IntWalk.i64_in _ (by omega)
      have xm : IntKind.i64.wrap ((m : Int) + 1) = (m : Int) + 1 := IntWalk.i64_in _ (by omega)
      have c1 := hc i hlt
      have HS1 := Lib.hid (HST.out i m hlt hres)
      have HG1 := Lib.hid (HGO.out i m hlt hres)
      clear hc hres
      generalize l[i] = x at *
      by_cases h0 : x < 0
      · have q0 : decide (x < 0) = true := decide_eq_true h0
        have HF := Lib.hid (HS1.out (rcS_none x m (.inl h0)))
        clear h0
        go_wp2_with fail
        go_ret
        exact ⟨by rw [HF.out] <;> rfl, rfl⟩
      have q0 : decide (x < 0) = false := decide_eq_false h0
      by_cases h1 : (m : Int) < x
      · have q1 : decide ((m : Int) < x) = true := decide_eq_true h1
        have HF := Lib.hid (HS1.out (rcS_none x m (.inr h1)))
        clear h0 h1
        go_wp2_with fail
        go_ret
        exact ⟨by rw [HF.out] <;> rfl, rfl⟩
      have q1 : decide ((m : Int) < x) = false := decide_eq_false h1
      have hg1 := HG1.out (by omega) (by omega)
      by_cases h2 : x = (m : Int)
      · rw [if_pos h2] at hg1
        have HG2 := Lib.hid hg1
        clear h0 h1 hg1
        subst h2
        have q2 : ((m : Int) == (m : Int)) = true := by simp
        have q3 : decide ((m : Int) < (m : Int) + 1) = true := decide_eq_true (by omega)
        have q4 : max (m : Int) ((m : Int) + 1) = (m : Int) + 1 := Int.max_eq_right (by omega)
        go_wp2_with fail
        go_round
        case rel => exact ⟨i + 1, m + 1, by omega, by omega, by simp, by simp, HG2.out⟩
        case measure => simp [intOf]; omega
      · rw [if_neg h2] at hg1
        have HG2 := Lib.hid hg1
        have q2 : (x == (m : Int)) = false := by rw [beq_eq_false_iff_ne]; exact h2
        have xx : IntKind.i64.wrap (x + 1) = x + 1 := IntWalk.i64_in _ (by omega)
        have q3 : decide ((m : Int) < x + 1) = false := decide_eq_false (by omega)
        have q4 : max (m : Int) (x + 1) = (m : Int) := Int.max_eq_left (by omega)
        clear h0 h1 h2 hg1
        go_wp2_with fail
        go_round
        case rel => exact ⟨i + 1, m, by omega, by omega, rfl, by simp, HG2.out⟩
        case measure => simp [intOf]; omega
    · obtain rfl : i = l.length := by omega
      have hd : decide ((l.length : Int) < (l.length : Int)) = false := by simp
      have hr2 := HR.out
      rw [hres] at hr2
      have HR2 := Lib.hid hr2
      clear hr2 hres
      go_wp2_with fail
      go_ret
      exact ⟨by rw [HR2.out, decide_eq_true H256.out] <;> rfl, rfl⟩
set_option maxRecDepth 100000 in
set_option maxHeartbeats 8000000 in
theorem rLeast13_calls (l : List Int) (hl : l.length ≤ 1000000) (a : Option Addr) (cap : Nat) (w : World) (h : IntsO l a w) :
    Calls Try.prog 16 #[.slice a l.length cap] w fun e w' => ∃ v, e = .returned v ∧ RowV (leastC l) v w' ∧ Below w.heap.size w w' := by
  have HN := Lib.hid h
  have HRT := Lib.hid (rRight13_calls l hl a cap w h)
  clear h
  cases hr : rightC l with
  | false =>
    rw [hr] at HRT
    have HL := Lib.hid (show leastC l = [] by unfold leastC; rw [hr]; rfl)
    clear hr
    go_enter Try.func16, Try.ntmps16
    go_wp2_with fail
    refine HRT.out.mono ?_
    rintro e w1 ⟨rfl, rfl⟩
    go_wp2_with fail
    go_ret
    exact ⟨_, rfl, by rw [HL.out]; exact RowV.nil _, Below.refl _ _⟩
  | true =>
  rw [hr] at HRT
  obtain ⟨T, hT⟩ : ∃ T, T = ltT l := ⟨_, rfl⟩
  obtain ⟨LC, hLC⟩ : ∃ LC, LC = leastC l := ⟨_, rfl⟩
  have HL := Lib.hid (show LC = T 256 by rw [hLC, hT]; unfold leastC; rw [if_pos hr])
  have h256 : l.length = 256 := by
    unfold rightC at hr
    rw [Bool.and_eq_true] at hr
    exact of_decide_eq_true hr.2
  have HSTEP := Lib.hid (show ∀ i (h : i < l.length), T (i + 1) = if l[i] = ((T i).length : Int) then T i ++ [i] else T i from fun i h => by
    rw [hT, ltT, List.getD_eq_getElem?_getD, List.getElem?_eq_getElem h]; rfl)
  have HLN := Lib.hid (show ∀ i, (T i).length ≤ i by rw [hT]; exact lt_len l)
  have HZ0 := Lib.hid (show T 0 = [] by rw [hT]; rfl)
  rw [← hLC]
  have H256 := Lib.hid h256
  clear hr hT hLC h256
  go_enter Try.func16, Try.ntmps16
  go_wp2_with fail
  refine HRT.out.mono ?_
  rintro e w1 ⟨rfl, rfl⟩
  clear HRT
  go_wp2_with fail
  go_loopw [3, 4] (fun vo vi wr => ∃ (i : Nat), i ≤ 256 ∧ vi = .int .i64 i ∧ OwB w.heap.size vo (T i) wr ∧ Below w.heap.size w wr) (fun _ vi _ => 256 - (intOf vi).toNat)
  case atStart => exact ⟨0, Nat.zero_le _, rfl, by rw [HZ0.out]; exact OwB.nil _ _, Below.refl _ _⟩
  case round =>
    obtain ⟨i, hi, rfl, hO, hB⟩ := hrel
    by_cases hlt : i < 256
    · have hlt2 : i < l.length := by have := H256.out; omega
      obtain ⟨g, off, rfl, hg, hc⟩ := (HN.out.below hB) (by rintro rfl; simp at hlt2)
      have c1 := hc i hlt2
      have hst := HSTEP.out i hlt2
      have hln := HLN.out i
      obtain ⟨ao, co, rfl⟩ := hO.row.form
      have hd : decide ((i : Int) < 256) = true := by rw [decide_eq_true_iff]; omega
      have hd2 : decide (i < 256) = true := by rw [decide_eq_true_iff]; omega
      have hdL : decide ((i : Int) < (l.length : Int)) = true := by rw [decide_eq_true_iff]; omega
      have hdL2 : decide (i < l.length) = true := by rw [decide_eq_true_iff]; omega
      have hii : (i : Int) < (l.length : Int) := by omega
      have hii2 : (i : Int) < 256 := by omega
      have xi : IntKind.i64.wrap ((i : Int) + 1) = (i : Int) + 1 := IntWalk.i64_in _ (by omega)
      have x8 : IntKind.u8.wrap (i : Int) = (i : Int) := by rw [IntKind.wrap]; simp [IntKind.bits, IntKind.signed]; omega
      have HO := Lib.hid hO
      have HB := Lib.hid hB
      clear hc hO hB
      generalize l[i] = x at *
      have HST := Lib.hid hst
      clear hst
      obtain ⟨L, hL⟩ : ∃ L, T i = L := ⟨_, rfl⟩
      rw [hL] at HO HST hln ⊢
      have HLI := Lib.hid hL
      clear hL
      by_cases h1 : x = (L.length : Int)
      · have q1 : (x == (L.length : Int)) = true := by rw [h1]; simp
        have HX := Lib.hid (show T (i + 1) = L ++ [i] by rw [HST.out, if_pos h1])
        clear h1 HST
        have HO1 := Lib.hid (show OwB w.heap.size (.slice ao L.length co) L (wr.alloc (.cells #[.int .u8 (i : Nat)] 5)) from HO.out.below ((Below.refl _ _).alloc (Nat.le_refl _) _))
        have HR1 := Lib.hid (RowV.one wr i 5)
        have HB1 := Lib.hid (HB.out.alloc HB.out.size (.cells #[.int .u8 (i : Nat)] 5))
        clear HO HB
        go_wp2_with (at_builtin; (refine wpList_app (base := w.heap.size) (L := L) (M := [i]) rfl _ _ rfl rfl rfl HO1.out HR1.out (by simp only [List.length_cons, List.length_nil]; omega) HB1.out.size ?_); intro v' w' ho hgr; have HO2 := Lib.hid ho; have HB2 := Lib.hid (HB1.out.grown hgr HB1.out.size (fun k hk => (World.ownsRow.lt HO1.out k hk).1)); clear ho hgr)
        go_roundw
        case rel => exact ⟨i + 1, by omega, by simp, by rw [HX.out]; exact HO2.out, HB2.out⟩
        case measure => simp [intOf]; omega
      · have q1 : (x == (L.length : Int)) = false := by rw [beq_eq_false_iff_ne]; exact h1
        have HX := Lib.hid (show T (i + 1) = L by rw [HST.out, if_neg h1])
        clear h1 HST
        go_wp2_with fail
        go_roundw
        case rel => exact ⟨i + 1, by omega, by simp, by rw [HX.out]; exact HO.out, HB.out⟩
        case measure => simp [intOf]; omega
    · obtain rfl : i = 256 := by omega
      have hdL : decide ((256 : Int) < (l.length : Int)) = false := by rw [decide_eq_false_iff_not]; have := H256.out; omega
      have HO := Lib.hid hO.row
      have HB := Lib.hid hB
      clear hO hB
      go_wp2_with fail
      go_ret
      exact ⟨_, rfl, by rw [HL.out]; exact HO.out, HB.out⟩
set_option maxRecDepth 100000 in
set_option maxHeartbeats 8000000 in
theorem least13_calls (l : List Int) (hl : l.length ≤ 1000000) (a : Option Addr) (cap : Nat) (w : World) (h : IntsO l a w) :
    Calls Try.prog 15 #[.slice a l.length cap] w fun e w' => ∃ v, e = .returned v ∧ RowV (leastC l) v w' ∧ Below w.heap.size w w' := by
  have HN := Lib.hid h
  have HRT := Lib.hid (right13_calls l hl a cap w h)
  clear h
  cases hr : rightC l with
  | false =>
    rw [hr] at HRT
    have HL := Lib.hid (show leastC l = [] by unfold leastC; rw [hr]; rfl)
    clear hr
    go_enter Try.func15, Try.ntmps15
    go_wp2_with fail
    refine HRT.out.mono ?_
    rintro e w1 ⟨rfl, rfl⟩
    go_wp2_with fail
    go_ret
    exact ⟨_, rfl, by rw [HL.out]; exact RowV.nil _, Below.refl _ _⟩
  | true =>
  rw [hr] at HRT
  obtain ⟨T, hT⟩ : ∃ T, T = ltT l := ⟨_, rfl⟩
  obtain ⟨LC, hLC⟩ : ∃ LC, LC = leastC l := ⟨_, rfl⟩
  have HL := Lib.hid (show LC = T 256 by rw [hLC, hT]; unfold leastC; rw [if_pos hr])
  have h256 : l.length = 256 := by
    unfold rightC at hr
    rw [Bool.and_eq_true] at hr
    exact of_decide_eq_true hr.2
  have HSTEP := Lib.hid (show ∀ i (h : i < l.length), T (i + 1) = if l[i] = ((T i).length : Int) then T i ++ [i] else T i from fun i h => by
    rw [hT, ltT, List.getD_eq_getElem?_getD, List.getElem?_eq_getElem h]; rfl)
  have HLN := Lib.hid (show ∀ i, (T i).length ≤ i by rw [hT]; exact lt_len l)
  have HZ0 := Lib.hid (show T 0 = [] by rw [hT]; rfl)
  rw [← hLC]
  have H256 := Lib.hid h256
  clear hr hT hLC h256
  go_enter Try.func15, Try.ntmps15
  go_wp2_with fail
  refine HRT.out.mono ?_
  rintro e w1 ⟨rfl, rfl⟩
  clear HRT
  go_wp2_with fail
  go_loopw [3, 11] (fun vo vi wr => ∃ (i : Nat), i ≤ 256 ∧ vi = .int .i64 i ∧ OwB w.heap.size vo (T i) wr ∧ Below w.heap.size w wr) (fun _ vi _ => 256 - (intOf vi).toNat)
  case atStart => exact ⟨0, Nat.zero_le _, rfl, by rw [HZ0.out]; exact OwB.nil _ _, Below.refl _ _⟩
  case round =>
    obtain ⟨i, hi, rfl, hO, hB⟩ := hrel
    by_cases hlt : i < 256
    · have hlt2 : i < l.length := by have := H256.out; omega
      obtain ⟨g, off, rfl, hg, hc⟩ := (HN.out.below hB) (by rintro rfl; simp at hlt2)
      have c1 := hc i hlt2
      have hst := HSTEP.out i hlt2
      have hln := HLN.out i
      obtain ⟨ao, co, rfl⟩ := hO.row.form
      have hd : decide ((i : Int) < 256) = true := by rw [decide_eq_true_iff]; omega
      have hd2 : decide (i < 256) = true := by rw [decide_eq_true_iff]; omega
      have hdL : decide ((i : Int) < (l.length : Int)) = true := by rw [decide_eq_true_iff]; omega
      have hdL2 : decide (i < l.length) = true := by rw [decide_eq_true_iff]; omega
      have hii : (i : Int) < (l.length : Int) := by omega
      have hii2 : (i : Int) < 256 := by omega
      have xi : IntKind.i64.wrap ((i : Int) + 1) = (i : Int) + 1 := IntWalk.i64_in _ (by omega)
      have x8 : IntKind.u8.wrap (i : Int) = (i : Int) := by rw [IntKind.wrap]; simp [IntKind.bits, IntKind.signed]; omega
      have HO := Lib.hid hO
      have HB := Lib.hid hB
      clear hc hO hB
      generalize l[i] = x at *
      have HST := Lib.hid hst
      clear hst
      obtain ⟨L, hL⟩ : ∃ L, T i = L := ⟨_, rfl⟩
      rw [hL] at HO HST hln ⊢
      have HLI := Lib.hid hL
      clear hL
      by_cases h1 : x = (L.length : Int)
      · have q1 : (x == (L.length : Int)) = true := by rw [h1]; simp
        have HX := Lib.hid (show T (i + 1) = L ++ [i] by rw [HST.out, if_pos h1])
        clear h1 HST
        have HO1 := Lib.hid (show OwB w.heap.size (.slice ao L.length co) L (wr.alloc (.cells #[.int .u8 (i : Nat)] 5)) from HO.out.below ((Below.refl _ _).alloc (Nat.le_refl _) _))
        have HR1 := Lib.hid (RowV.one wr i 5)
        have HB1 := Lib.hid (HB.out.alloc HB.out.size (.cells #[.int .u8 (i : Nat)] 5))
        clear HO HB
        go_wp2_with (at_builtin; (refine wpList_app (base := w.heap.size) (L := L) (M := [i]) rfl _ _ rfl rfl rfl HO1.out HR1.out (by simp only [List.length_cons, List.length_nil]; omega) HB1.out.size ?_); intro v' w' ho hgr; have HO2 := Lib.hid ho; have HB2 := Lib.hid (HB1.out.grown hgr HB1.out.size (fun k hk => (World.ownsRow.lt HO1.out k hk).1)); clear ho hgr)
        go_roundw
        case rel => exact ⟨i + 1, by omega, by simp, by rw [HX.out]; exact HO2.out, HB2.out⟩
        case measure => simp [intOf]; omega
      · have q1 : (x == (L.length : Int)) = false := by rw [beq_eq_false_iff_ne]; exact h1
        have HX := Lib.hid (show T (i + 1) = L by rw [HST.out, if_neg h1])
        clear h1 HST
        go_wp2_with fail
        go_roundw
        case rel => exact ⟨i + 1, by omega, by simp, by rw [HX.out]; exact HO.out, HB.out⟩
        case measure => simp [intOf]; omega
    · obtain rfl : i = 256 := by omega
      have hdL : decide ((256 : Int) < (l.length : Int)) = false := by rw [decide_eq_false_iff_not]; have := H256.out; omega
      have HO := Lib.hid hO.row
      have HB := Lib.hid hB
      clear hO hB
      go_wp2_with fail
      go_ret
      exact ⟨_, rfl, by rw [HL.out]; exact HO.out, HB.out⟩
end Go.Proofs.Ytbfcancmljdjhaa

/- The document's terms: Right, Low, Up. Stage 10. -/
namespace Go.Proofs.Ytbfcancmljdjhaa
open Go.RowKit BS

/-- The node whose part x is, of the first i nodes. -/
def upA (l : List NdN) (i x : Nat) : Int := match upF l x with | some j => if j < i then (j : Int) else -1 | none => -1
theorem upA_zero (l : List NdN) (x : Nat) : upA l 0 x = -1 := by
  unfold upA
  cases upF l x with
  | none => rfl
  | some j => exact if_neg (Nat.not_lt_zero j)
theorem upA_end (l : List NdN) (x : Nat) : upA l l.length x = upT l x := by
  unfold upA upT
  cases hu : upF l x with
  | none => rfl
  | some j => exact if_pos (up_some l x j hu).1
theorem upA_step (l : List NdN) (h : TermQ l) (i : Nat) (hi : i < l.length) (x : Nat) : upA l (i + 1) x = if (x : Int) ∈ partsT l i then (i : Int) else upA l i x := by
  by_cases hx : (x : Int) ∈ partsT l i
  · rw [if_pos hx]
    unfold upA
    rw [up_of l h i hi x hx]
    exact if_pos (by omega)
  · rw [if_neg hx]
    unfold upA
    cases hu : upF l x with
    | none => rfl
    | some j =>
      have hj : j ≠ i := fun e => hx (by rw [← e]; exact (up_some l x j hu).2)
      by_cases h1 : j < i
      · show (if j < i + 1 then _ else _) = (if j < i then _ else _)
        rw [if_pos h1, if_pos (by omega)]
      · show (if j < i + 1 then _ else _) = (if j < i then _ else _)
        rw [if_neg h1, if_neg (by omega)]
/-- A node's parts. -/
theorem node_parts (l : List NdN) (h : TermQ l) (i : Nat) (hi : i < l.length) :
    (l[i].kids = -1 ∧ l[i].n = -1 ∧ partsT l i = []) ∨ (∃ a : Nat, l[i].kids = a ∧ a < i ∧ l[i].n = -1 ∧ partsT l i = [(a : Int)]) ∨
    (∃ a b : Nat, l[i].kids = a ∧ a < i ∧ l[i].n = b ∧ b < i ∧ partsT l i = [(a : Int), (b : Int)]) := by
  obtain ⟨s, _, hf⟩ := h.fine i hi
  obtain ⟨hk, _, _, _⟩ := (fineT_iff l s i l[i]).1 hf
  obtain ⟨_, h0, h2⟩ := (kindT_two l[i]).1 hk
  have hp := parts_as l h i hi
  have hlt := part_lt l h i hi
  unfold partsT at hlt ⊢
  rcases pc_kinds l[i].kind with c | c | c
  · rw [c, if_neg (by decide), if_neg (by decide)] at hp
    exact .inl ⟨h0 c, h2 (by omega), hp⟩
  · rw [c, if_neg (by decide), if_pos rfl] at hp
    obtain ⟨h3, h4⟩ := hlt l[i].kids (by rw [hp]; simp)
    exact .inr (.inl ⟨l[i].kids.toNat, by omega, by omega, h2 (by omega), by rw [hp, Int.toNat_of_nonneg h3]⟩)
  · rw [c, if_pos rfl] at hp
    obtain ⟨h3, h4⟩ := hlt l[i].kids (by rw [hp]; simp)
    obtain ⟨h5, h6⟩ := hlt l[i].n (by rw [hp]; simp)
    exact .inr (.inr ⟨l[i].kids.toNat, l[i].n.toNat, by omega, by omega, by omega, by omega, by rw [hp, Int.toNat_of_nonneg h3, Int.toNat_of_nonneg h5]⟩)
def upsT (l : List NdN) : List Int := if rightT l = true then (List.range l.length).map (upT l) else []

set_option maxRecDepth 100000 in
set_option maxHeartbeats 4000000 in
theorem tRight_calls (l : List NdN) (hl : l.length ≤ 1000) (a : Option Addr) (cap : Nat) (w : World) (h : NodesAt l a w) :
    Calls Try.prog 22 #[.slice a l.length cap] w fun e w' => e = .returned (.bool (rightT l)) ∧ Below w.heap.size w w' := by
  have HL := Lib.hid (lows_calls l hl a cap w h)
  clear h
  cases hr : rightT l with
  | false =>
    have HR := Lib.hid hr
    clear hr
    go_enter Try.func22, Try.ntmps22
    go_wp2_with fail
    refine HL.out.mono ?_
    rintro e w1 ⟨b, c, rfl, hi, hn, hb⟩
    obtain ⟨rfl, rfl⟩ := hn HR.out
    rw [lowsT_not l HR.out]
    clear hi hn HL
    go_wp2_with fail
    go_ret
    exact ⟨rfl, hb⟩
  | true =>
    obtain ⟨h1, _, _⟩ := of_decide_eq_true hr
    have hne : lowsT l ≠ [] := by
      rw [lowsT_is l hr]
      intro h0
      have := congrArg List.length h0
      rw [List.length_map, List.length_range, List.length_nil] at this
      rw [this, trT] at h1
      cases h1
    have HNE := Lib.hid hne
    clear hr h1 hne
    go_enter Try.func22, Try.ntmps22
    go_wp2_with fail
    refine HL.out.mono ?_
    rintro e w1 ⟨b, c, rfl, hi, hn, hb⟩
    obtain ⟨g, o, rfl, _, _, hcc⟩ := hi HNE.out
    clear hn hi HL hcc
    go_wp2_with fail
    go_ret
    exact ⟨rfl, hb⟩
end Go.Proofs.Ytbfcancmljdjhaa

/- Rows of sets of the call's own; append; the document's Sets and Term. Stage 13. -/
namespace Go.Proofs.Ytbfcancmljdjhaa
open Go.RowKit BS

/-- The cells of some sets. -/
def setCells (l : List (BitVec 256)) : List Value := l.flatMap fun s => (setA s).toList
theorem setCells_app (l m : List (BitVec 256)) : setCells (l ++ m) = setCells l ++ setCells m := by simp [setCells]
theorem setCells_len (l : List (BitVec 256)) : (setCells l).length = l.length * 4 := by
  induction l with
  | nil => rfl
  | cons x l ih =>
    have e : setCells (x :: l) = (setA x).toList ++ setCells l := by simp [setCells]
    rw [e, List.length_append, ih]
    show 4 + l.length * 4 = (l.length + 1) * 4
    omega
theorem setCells_get : ∀ (l : List (BitVec 256)) (i j : Nat) (h : i < l.length) (_hj : j < 4), (setCells l)[i * 4 + j]? = (setA l[i])[j]?
  | [], _, _, h, _ => absurd h (by simp)
  | x :: l, i, j, h, hj => by
    have e : setCells (x :: l) = (setA x).toList ++ setCells l := by simp [setCells]
    rw [e]
    cases i with
    | zero =>
      rw [List.getElem?_append_left (by rw [show (setA x).toList.length = 4 from rfl]; omega), Nat.zero_mul, Nat.zero_add]
      simp
    | succ i =>
      rw [List.getElem?_append_right (by rw [show (setA x).toList.length = 4 from rfl]; omega), show (setA x).toList.length = 4 from rfl, show (i + 1) * 4 + j - 4 = i * 4 + j by omega]
      exact setCells_get l i j (by simpa using h) hj
theorem setCells_one (l : List (BitVec 256)) : ∀ u ∈ setCells l, u.oneCell' = true := fun u hu => by
  obtain ⟨s, _, hs⟩ := List.mem_flatMap.1 hu
  simp only [List.mem_cons, List.not_mem_nil, or_false] at hs
  rcases hs with rfl | rfl | rfl | rfl <;> rfl
/-- A row of sets of the call's own. -/
def OwZ (base : Nat) (v : Value) (L : List (BitVec 256)) (W : World) : Prop := W.ownsRow base 38 4 v L.length (setCells L)
theorem OwZ.below {base : Nat} {v : Value} {L : List (BitVec 256)} {W W' : World} (h : OwZ base v L W) (k : Below W.heap.size W W') : OwZ base v L W' :=
  owns_keep h fun g hg => k.block g (World.ownsRow.lt h g hg).2
theorem OwZ.nil (W : World) (base : Nat) : OwZ base (.slice none 0 0) [] W := World.ownsRow_nil _ _ _ _
theorem OwZ.form {base : Nat} {v : Value} {L : List (BitVec 256)} {W : World} (h : OwZ base v L W) : ∃ a c, v = .slice a L.length c := owns_form h
theorem OwZ.sets {base : Nat} {a : Option Addr} {c : Nat} {L : List (BitVec 256)} {W : World} (h : OwZ base (.slice a L.length c) L W) : SetsAt L a W := fun hne => by
  have h0 := h
  rcases h.2 with ⟨_, h1⟩ | ⟨g, c', cur, e, hb, hg, _⟩
  · exact absurd (List.eq_nil_of_length_eq_zero h1) hne
  · have e2 : a = some ⟨g, 0, none⟩ := by cases e; rfl
    subst e2
    refine ⟨g, 0, rfl, (Array.getElem?_eq_some_iff.1 hg).1, fun i hi j hj => ?_⟩
    rw [Nat.zero_add]
    refine (World.ownsRow.cellAt h0 (i * 4 + j) (by omega)).trans ?_
    exact setCells_get L i j hi hj
theorem infoSet : (Try.prog.info? 38).map (fun i => (i.zero, i.size, i.bytes)) = some (some (.agg #[.int .u64 0, .int .u64 0, .int .u64 0, .int .u64 0]), 4, 32) := by kernel_rfl
theorem OwZ.empty (W : World) (base : Nat) (hb : base ≤ W.heap.size) : OwZ base (.slice (some ⟨W.heap.size, 0, none⟩) 0 0) [] (W.alloc (.cells #[] 38)) :=
  World.ownsRow_lit W #[] 0 hb (by decide) rfl
/-- A slice of sets as a value: nil, or with a place. -/
def SetsV (l : List (BitVec 256)) (v : Value) (W : World) : Prop := ∃ a c, v = .slice a l.length c ∧ SetsAt l a W ∧ (a = none → c = 0 ∧ l = [])
theorem SetsV.below {l : List (BitVec 256)} {v : Value} {W W' : World} (h : SetsV l v W) (hb : Below W.heap.size W W') : SetsV l v W' := by
  obtain ⟨a, c, e, h1, h2⟩ := h
  exact ⟨a, c, e, h1.below hb, h2⟩
theorem SetsV.one (W : World) (s : BitVec 256) (t : TypeId) : SetsV [s] (.slice (some ⟨W.heap.size, 0, none⟩) 1 1) (W.alloc (.cells (setA s) t)) :=
  ⟨_, 1, rfl, fun _ => ⟨W.heap.size, 0, rfl, by simp, fun i hi j hj => by
    have hi' : i < 1 := hi
    obtain rfl : i = 0 := by omega
    rw [Nat.zero_mul, Nat.zero_add]
    exact (Blk.new W (setA s) t).cell j⟩, fun h => by cases h⟩
theorem run_appS {base : Nat} {v u : Value} {L M : List (BitVec 256)} {W : World} (h : OwZ base v L W) (r : SetsV M u W) (hn : L.length + M.length ≤ 1000000) (hb : base ≤ W.heap.size) (ty : TypeId) :
    ∃ v' W', (Builtin.append_ #[22, 22] ty #[v, u]).run Try.prog W = .ok v' W' ∧ OwZ base v' (L ++ M) W' ∧ W.grownBy W' v.ownBlock := by
  obtain ⟨i0, hinf, hzz⟩ := Option.map_eq_some_iff.1 infoSet
  simp only [Prod.mk.injEq] at hzz
  obtain ⟨hz0, hz1, hz2⟩ := hzz
  obtain ⟨a, c, rfl, hM, hnone⟩ := r
  cases a with
  | none =>
    obtain ⟨rfl, rfl⟩ := hnone rfl
    exact ⟨v, W, run_append_owned_none (P := Try.prog) (w := W) base 22 ty 38 i0 4 Try.underlying22 hinf v L.length _ h, by rw [List.append_nil]; exact h, ⟨rfl, rfl, rfl, Nat.le_refl _, fun _ _ _ => rfl⟩⟩
  | some ad =>
    obtain ⟨v', w', hr, h2, h3, _⟩ := run_append_own (P := Try.prog) W base 22 ty 38 i0 _ 4 32 Try.underlying22 hinf hz0 hz1 hz2 rfl (by decide) v L.length _ h ad M.length c (setCells M) (setCells_len M) (fun j x hj => by
      have hlt := (List.getElem?_eq_some_iff.1 hj).1
      rw [setCells_len] at hlt
      obtain ⟨g, o, e, hg, hc⟩ := hM (by rintro rfl; simp at hlt)
      cases e
      have e2 : (⟨g, o, none⟩ : Addr).add j = ⟨g, o + j, none⟩ := by
        unfold Addr.add
        split
        · subst j; rfl
        · rfl
      have h4 := hc (j / 4) (by omega) (j % 4) (by omega)
      rw [e2, show o + j = o + j / 4 * 4 + j % 4 by omega, h4, ← setCells_get M (j / 4) (j % 4) (by omega) (by omega), show j / 4 * 4 + j % 4 = j by omega]
      exact hj) (setCells_one M) (by unfold maxLen; omega) (by omega) hb
    refine ⟨v', w', hr, ?_, h3⟩
    unfold OwZ
    rw [List.length_append, setCells_app]
    exact h2
theorem exec_appS {v u v' : Value} {W W' : World} {o : Oper} {a : Act} {s x : Operand} (ho : o.op = .call { callee := .builtin .append, args := #[s, x], argTypes := #[22, 22] }) (hs : a.eval s = v) (hx : a.eval x = u)
    (hr : (Builtin.append_ #[22, 22] o.type #[v, u]).run Try.prog W = .ok v' W') : (execOp a.eval o).run Try.prog W = .ok (.value v') W' := by
  unfold execOp
  simp only [ho, resolve, invoke, builtin, Sem.run_bind, Sem.run_pure, Result.andThen_ok, List.map_toArray, List.map_cons, List.map_nil, hs, hx, hr]
theorem wpList_appS {base : Nat} {v u : Value} {L M : List (BitVec 256)} {W : World} {ops : Array Oper} {rest : List Oper} {o : Oper} {a : Act} {Q : Exit → Act → World → Prop} (hgd : o.guard = none) (s x : Operand)
    (ho : o.op = .call { callee := .builtin .append, args := #[s, x], argTypes := #[22, 22] }) (hs : a.eval s = v) (hx : a.eval x = u)
    (h : OwZ base v L W) (r : SetsV M u W) (hn : L.length + M.length ≤ 1000000) (hb : base ≤ W.heap.size)
    (H : ∀ v' w', OwZ base v' (L ++ M) w' → W.grownBy w' v.ownBlock → wpList Try.prog ops Q rest (a.put o.dst v') w') : wpList Try.prog ops Q (o :: rest) a W :=
  wpList_plain hgd fun _ hK => by
    obtain ⟨v', w', hr, h2, h3⟩ := run_appS h r hn hb o.type
    unfold Oper.wp execOp
    simp only [ho, resolve, invoke, builtin, Sem.run_bind, Sem.run_pure, Result.andThen_ok, List.map_toArray, List.map_cons, List.map_nil, hs, hx, hr]
    exact hK _ _ (H v' w' h2 h3)
/-- The sets of the first i nodes' Leafs. -/
def leafS (l : List NdN) : Nat → List (BitVec 256)
  | 0 => []
  | i + 1 => if (l.getD i ⟨0, 0, 0, 0, 0⟩).kind = 2 then leafS l i ++ [(l.getD i ⟨0, 0, 0, 0, 0⟩).set] else leafS l i
theorem leaf_len (l : List NdN) : ∀ i, (leafS l i).length ≤ i
  | 0 => Nat.le_refl _
  | i + 1 => by
    have := leaf_len l i
    unfold leafS
    split
    · rw [List.length_append, List.length_singleton]; omega
    · omega
theorem leaf_step (l : List NdN) (i : Nat) (h : i < l.length) : leafS l (i + 1) = if l[i].kind = 2 then leafS l i ++ [l[i].set] else leafS l i := by
  rw [leafS, List.getD_eq_getElem?_getD, List.getElem?_eq_getElem h]
  rfl
def leafL (l : List NdN) : List (BitVec 256) := leafS l l.length
/-- The classes of a term. -/
def termI (l : List NdN) : List Int := if rightT l = true then clI (leafL l) else []
def termK (l : List NdN) : Nat := if rightT l = true then clsN (leafL l) else 0
set_option maxRecDepth 100000 in
set_option maxHeartbeats 8000000 in
theorem rSets_calls (l : List NdN) (hl : l.length ≤ 1000) (a : Option Addr) (cap : Nat) (w : World) (h : NodesAt l a w) :
    Calls Try.prog 23 #[.slice a l.length cap] w fun e w' => ∃ b c, e = .returned (.slice b (leafL l).length c) ∧ SetsAt (leafL l) b w' ∧ Below w.heap.size w w' := by
  have HN := Lib.hid h
  clear h
  obtain ⟨T, hT⟩ : ∃ T, T = leafS l := ⟨_, rfl⟩
  obtain ⟨LL, hLL⟩ : ∃ LL, LL = leafL l := ⟨_, rfl⟩
  have HL := Lib.hid (show LL = T l.length by rw [hLL, hT]; rfl)
  have HSTEP := Lib.hid (show ∀ i (h : i < l.length), T (i + 1) = if l[i].kind = 2 then T i ++ [l[i].set] else T i by rw [hT]; exact leaf_step l)
  have HLN := Lib.hid (show ∀ i, (T i).length ≤ i by rw [hT]; exact leaf_len l)
  have HZ0 := Lib.hid (show T 0 = [] by rw [hT]; rfl)
  rw [← hLL]
  clear hT hLL
  go_enter Try.func23, Try.ntmps23
  go_wp2_with fail
  go_loopw [3, 4] (fun vo vi wr => ∃ (i : Nat), i ≤ l.length ∧ vi = .int .i64 i ∧ OwZ w.heap.size vo (T i) wr ∧ Below w.heap.size w wr) (fun _ vi _ => l.length - (intOf vi).toNat)
  case atStart => exact ⟨0, Nat.zero_le _, rfl, by rw [HZ0.out]; exact OwZ.nil _ _, Below.refl _ _⟩
  case round =>
    obtain ⟨i, hi, rfl, hO, hB⟩ := hrel
    by_cases hlt : i < l.length
    · obtain ⟨g, off, rfl, hg, hc⟩ := (HN.out.below hB) (by rintro rfl; simp at hlt)
      have hst := HSTEP.out i hlt
      have hln := HLN.out i
      obtain ⟨ao, co, rfl⟩ := hO.form
      have hd : decide ((i : Int) < (l.length : Int)) = true := by rw [decide_eq_true_iff]; omega
      have hd2 : decide (i < l.length) = true := by rw [decide_eq_true_iff]; omega
      have hii : (i : Int) < (l.length : Int) := by omega
      have xi : IntKind.i64.wrap ((i : Int) + 1) = (i : Int) + 1 := IntWalk.i64_in _ (by omega)
      have d := fun (j : Nat) (hj : j < 8) => hc i hlt j hj
      have d0 := d 0 (by decide); have d4 := d 4 (by decide); have d5 := d 5 (by decide); have d6 := d 6 (by decide); have d7 := d 7 (by decide)
      simp only [ndA, List.getElem?_toArray, List.getElem?_cons_zero, List.getElem?_cons_succ, Nat.add_zero] at d0 d4 d5 d6 d7
      generalize l[i] = x at *
      obtain ⟨k, kc, kn, km, t⟩ := x
      simp only at d0 d4 d5 d6 d7 hst
      have HO := Lib.hid hO
      have HB := Lib.hid hB
      clear d hc hO hB
      have HST := Lib.hid hst
      clear hst
      obtain ⟨L, hL⟩ : ∃ L, T i = L := ⟨_, rfl⟩
      rw [hL] at HO HST hln ⊢
      have HLI := Lib.hid hL
      clear hL
      by_cases h1 : k = 2
      · have q1 : (k == 2) = true := by rw [h1]; simp
        have HX := Lib.hid (show T (i + 1) = L ++ [t] by rw [HST.out, if_pos h1])
        clear h1 HST
        have HO1 := Lib.hid (show OwZ w.heap.size (.slice ao L.length co) L (wr.alloc (.cells (setA t) 38)) from HO.out.below ((Below.refl _ _).alloc (Nat.le_refl _) _))
        have HR1 := Lib.hid (SetsV.one wr t 38)
        have HB1 := Lib.hid (HB.out.alloc HB.out.size (.cells (setA t) 38))
        clear HO HB
        go_wp2_with (at_builtin; (refine wpList_appS (base := w.heap.size) (L := L) (M := [t]) rfl _ _ rfl rfl rfl HO1.out HR1.out (by simp only [List.length_cons, List.length_nil]; omega) HB1.out.size ?_); intro v' w' ho hgr; have HO2 := Lib.hid ho; have HB2 := Lib.hid (HB1.out.grown hgr HB1.out.size (fun k hk => (World.ownsRow.lt HO1.out k hk).1)); clear ho hgr)
        go_roundw
        case rel => exact ⟨i + 1, by omega, by simp, by rw [HX.out]; exact HO2.out, HB2.out⟩
        case measure => simp [intOf]; omega
      · have q1 : (k == 2) = false := by rw [beq_eq_false_iff_ne]; exact h1
        have HX := Lib.hid (show T (i + 1) = L by rw [HST.out, if_neg h1])
        clear h1 HST
        go_wp2_with fail
        go_roundw
        case rel => exact ⟨i + 1, by omega, by simp, by rw [HX.out]; exact HO.out, HB.out⟩
        case measure => simp [intOf]; omega
    · obtain rfl : i = l.length := by omega
      have hdL : decide ((l.length : Int) < (l.length : Int)) = false := by simp
      have hO2 := hO
      rw [← HL.out] at hO2
      obtain ⟨ao, co, rfl⟩ := hO2.form
      have HS := Lib.hid hO2.sets
      have HB := Lib.hid hB
      clear hO hB hO2
      go_wp2_with fail
      go_ret
      exact ⟨_, _, rfl, HS.out, HB.out⟩
set_option maxRecDepth 100000 in
set_option maxHeartbeats 8000000 in
theorem rTerm13_calls (l : List NdN) (hl : l.length ≤ 1000) (a : Option Addr) (cap : Nat) (w : World) (h : NodesAt l a w) :
    Calls Try.prog 11 #[.slice a l.length cap] w fun e w' => ∃ b c, e = .returned (.tuple #[.slice b (termI l).length c, .int .i64 (termK l : Nat)]) ∧ IntsO (termI l) b w' ∧ Below w.heap.size w w' := by
  have HRT := Lib.hid (tRight_calls l hl a cap w h)
  have HN := Lib.hid h
  clear h
  cases hr : rightT l with
  | false =>
    rw [hr] at HRT
    have h1 : termI l = [] := by unfold termI; rw [hr]; rfl
    have h2 : termK l = 0 := by unfold termK; rw [hr]; rfl
    rw [h1, h2]
    clear hr h1 h2
    go_enter Try.func11, Try.ntmps11
    go_wp2_with fail
    refine HRT.out.mono ?_
    rintro e w1 ⟨rfl, hb⟩
    go_wp2_with fail
    exact bodyPost_ret (v := .tuple #[.slice none 0 0, .int .i64 0]) (by simp [results, Try.results11, go_sem]) rfl ⟨none, 0, rfl, fun h => absurd rfl h, hb⟩
  | true =>
  rw [hr] at HRT
  have h1 : termI l = clI (leafL l) := by unfold termI; rw [if_pos hr]
  have h2 : termK l = clsN (leafL l) := by unfold termK; rw [if_pos hr]
  have hlen : (leafL l).length ≤ 1000 := Nat.le_trans (leaf_len l _) hl
  have HST := Lib.hid (fun W h => rSets_calls l hl a cap W h)
  have HLE := Lib.hid (clI_len (leafL l))
  have HOF := Lib.hid (fun b c W h => rOf13_calls (leafL l) (by omega) b c W h)
  rw [h1, h2, HLE.out]
  clear hr h1 h2
  generalize clI (leafL l) = CI at *
  generalize clsN (leafL l) = CN at *
  generalize leafL l = LL at *
  go_enter Try.func11, Try.ntmps11
  go_wp2_with fail
  refine HRT.out.mono ?_
  rintro e w1 ⟨rfl, hb⟩
  replace HN := Lib.hid (HN.out.below hb)
  have HB := Lib.hid hb
  clear HRT hb
  go_wp2_with fail
  refine (HST.out _ HN.out).mono ?_
  rintro e w2 ⟨b2, c2, rfl, hs, hb⟩
  have HS := Lib.hid hs
  replace HB := Lib.hid (HB.out.trans (hb.mono HB.out.size))
  clear hs hb HST
  go_wp2_with fail
  refine (HOF.out _ _ _ HS.out).mono ?_
  rintro e w3 ⟨g3, rfl, hi, hb⟩
  have HI := Lib.hid hi
  replace HB := Lib.hid (HB.out.trans (hb.mono HB.out.size))
  clear hi hb HOF
  go_wp2_with fail
  exact bodyPost_ret (v := .tuple #[.slice (some ⟨g3, 0, none⟩) 256 256, .int .i64 (CN : Nat)]) (by simp [results, Try.results11, go_sem]) rfl ⟨_, _, rfl, HI.out, HB.out⟩
end Go.Proofs.Ytbfcancmljdjhaa

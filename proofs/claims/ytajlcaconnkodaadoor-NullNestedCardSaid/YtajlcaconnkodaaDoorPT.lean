/- Texts put together: Xj. -/
import Derived.Test.YtajlcaconnkodaaDoorPM
import Derived.Test.YtajlcaconnkodaaDoorPR
import Derived.Test.YtajlcaconnkodaaDoorPC
import Derived.Laws.Slices
/- The document's Word. Stage 12. -/
namespace Go.Proofs.YtajlcaconnkodaaDoor
open Go.RowKit BS

/-- What Word tells. -/
def wordL (l : List NdN) : List Nat := (wordT l).getD []
def wordI (l : List NdN) : Bool := (wordT l).isSome
theorem word_is (l : List NdN) (hr : rightT l = true) : wordL l = wdL l (l.length - 1) ∧ wordI l = wdI l (l.length - 1) := by
  unfold wordL wordI wordT wdL wdI
  rw [if_pos hr]
  exact ⟨rfl, rfl⟩
theorem word_not (l : List NdN) (hr : rightT l = false) : wordL l = [] ∧ wordI l = false := by
  unfold wordL wordI wordT
  rw [hr]
  exact ⟨rfl, rfl⟩
theorem right_pos (l : List NdN) (hr : rightT l = true) : 0 < l.length := by
  cases l with
  | nil => revert hr; decide
  | cons x r => simp
/-- What stands of node x when i nodes are done. -/
def pL (l : List NdN) (i x : Nat) : List Nat := if x < i then wdL l x else []
def pI (l : List NdN) (i x : Nat) : Bool := if x < i then wdI l x else false
theorem p_ne (l : List NdN) (i x : Nat) (h : x ≠ i) : pL l i x = pL l (i + 1) x ∧ pI l i x = pI l (i + 1) x := by
  unfold pL pI
  by_cases h1 : x < i
  · rw [if_pos h1, if_pos (by omega), if_pos h1, if_pos (by omega)]; exact ⟨rfl, rfl⟩
  · rw [if_neg h1, if_neg (by omega), if_neg h1, if_neg (by omega)]; exact ⟨rfl, rfl⟩
theorem p_at (l : List NdN) (i : Nat) : pL l (i + 1) i = wdL l i ∧ pI l (i + 1) i = wdI l i := by
  unfold pL pI
  rw [if_pos (by omega), if_pos (by omega)]; exact ⟨rfl, rfl⟩
theorem p_now (l : List NdN) (i : Nat) : pL l i i = [] ∧ pI l i i = false := by
  unfold pL pI
  rw [if_neg (by omega), if_neg (by omega)]; exact ⟨rfl, rfl⟩
theorem pw_none {l : List NdN} {n T Z i : Nat} {W : World} (h : WdS n T Z (pL l i) (pI l i) W) (h1 : wdL l i = []) (h2 : wdI l i = false) : WdS n T Z (pL l (i + 1)) (pI l (i + 1)) W :=
  h.congr (fun x _ => by
    by_cases hx : x = i
    · rw [hx, (p_at l i).1, (p_now l i).1, h1]
    · exact (p_ne l i x hx).1) (fun x _ => by
    by_cases hx : x = i
    · rw [hx, (p_at l i).2, (p_now l i).2, h2]
    · exact (p_ne l i x hx).2)
theorem pw_mark {l : List NdN} {n T Z i : Nat} {W : World} (h : WdS n T Z (pL l i) (pI l i) W) (h1 : wdL l i = []) (b : Bool) (h2 : wdI l i = b) : WdS n T Z (pL l (i + 1)) (pI l (i + 1)) (W.setCell ⟨Z, i, none⟩ (.bool b)) :=
  (h.setI i b).congr (fun x _ => by
    by_cases hx : x = i
    · rw [hx, (p_at l i).1, (p_now l i).1, h1]
    · exact (p_ne l i x hx).1) (fun x _ => by
    by_cases hx : x = i
    · rw [if_pos hx, hx, (p_at l i).2, h2]
    · rw [if_neg hx]; exact (p_ne l i x hx).2)
theorem pw_both {l : List NdN} {n T Z i : Nat} {fL : Nat → List Nat} {fI : Nat → Bool} {W : World} {v : Value} (h : WdS n T Z fL fI W) (o1 : ∀ x, x ≠ i → fL x = pL l i x) (o2 : ∀ x, x ≠ i → fI x = pI l i x) (hv : RowV (wdL l i) v W) (b : Bool) (h2 : wdI l i = b) :
    WdS n T Z (pL l (i + 1)) (pI l (i + 1)) ((W.setCell ⟨T, i, none⟩ v).setCell ⟨Z, i, none⟩ (.bool b)) :=
  ((h.setL i hv).setI i b).congr (fun x _ => by
    by_cases hx : x = i
    · rw [if_pos hx, hx, (p_at l i).1]
    · rw [if_neg hx, o1 x hx]; exact (p_ne l i x hx).1) (fun x _ => by
    by_cases hx : x = i
    · rw [if_pos hx, hx, (p_at l i).2, h2]
    · rw [if_neg hx, o2 x hx]; exact (p_ne l i x hx).2)
theorem rowZ_get (n k : Nat) (h : k < n) : (madeCells #[Value.slice none 0 0] n)[k]? = some (.slice none 0 0) := by
  unfold madeCells
  rw [Array.getElem?_map, Array.getElem?_range, if_pos h]
  show some (#[Value.slice none 0 0][k % 1]!) = _
  rw [Nat.mod_one]
  rfl
theorem WdS.drew {n T Z : Nat} {fL : Nat → List Nat} {fI : Nat → Bool} {W : World} (h : WdS n T Z fL fI W) : WdS n T Z fL fI W.drew := h.below (Below.refl _ _).drew
theorem wds_two (l : List NdN) (w1 : World) (vs us : Array Value) (h1 : vs.size = l.length) (h2 : us.size = l.length) (h3 : ∀ x, x < l.length → vs[x]? = some (.slice none 0 0)) (h4 : ∀ x, x < l.length → us[x]? = some (.bool false)) :
    WdS l.length w1.heap.size (w1.heap.size + 1) (pL l 0) (pI l 0) ((w1.drew.alloc (.cells vs 30)).alloc (.cells us 4)) ∧ Below w1.heap.size w1 ((w1.drew.alloc (.cells vs 30)).alloc (.cells us 4)) := by
  have hB : Below w1.heap.size w1 ((w1.drew.alloc (.cells vs 30)).alloc (.cells us 4)) := ((Below.refl w1.heap.size w1).drew.alloc (Nat.le_refl _) _).alloc (by simp) _
  refine ⟨⟨by omega, ⟨vs, h1, fun x hx => ⟨_, h3 x hx, ?_⟩, (Blk.new w1.drew vs 30).alloc _⟩, us, h2, fun x hx => ?_, ?_⟩, hB⟩
  · rw [pL, if_neg (by omega)]; exact RowV.nil _
  · rw [h4 x hx, pI, if_neg (by omega)]
  · have := Blk.new (w1.drew.alloc (.cells vs 30)) us 4
    rw [World.size_alloc] at this
    exact this
theorem wds_two' (l : List NdN) (w1 : World) (vs us : Array Value) (h1 : vs.size = l.length) (h2 : us.size = l.length) (h3 : ∀ x, x < l.length → vs[x]? = some (.slice none 0 0)) (h4 : ∀ x, x < l.length → us[x]? = some (.bool false)) :
    WdS l.length (w1.heap.size + 1) w1.heap.size (pL l 0) (pI l 0) ((w1.drew.alloc (.cells us 4)).alloc (.cells vs 30)) ∧ Below w1.heap.size w1 ((w1.drew.alloc (.cells us 4)).alloc (.cells vs 30)) := by
  have hB : Below w1.heap.size w1 ((w1.drew.alloc (.cells us 4)).alloc (.cells vs 30)) := ((Below.refl w1.heap.size w1).drew.alloc (Nat.le_refl _) _).alloc (by simp) _
  refine ⟨⟨by omega, ⟨vs, h1, fun x hx => ⟨_, h3 x hx, ?_⟩, ?_⟩, us, h2, fun x hx => ?_, (Blk.new w1.drew us 4).alloc _⟩, hB⟩
  · rw [pL, if_neg (by omega)]; exact RowV.nil _
  · have := Blk.new (w1.drew.alloc (.cells us 4)) vs 30
    rw [World.size_alloc] at this
    exact this
  · rw [h4 x hx, pI, if_neg (by omega)]
theorem below_set2 {n B C : Nat} {W W' : World} (hb : Below n W W') (hB : n ≤ B) (hC : n ≤ C) (i : Nat) (v u : Value) : Below n W ((W'.setCell ⟨B, i, none⟩ v).setCell ⟨C, i, none⟩ u) := below_set (below_set hb hB i v) hC i u
set_option maxRecDepth 100000 in
set_option maxHeartbeats 32000000 in
theorem rWord_calls (l : List NdN) (hl : l.length ≤ 1000) (a : Option Addr) (cap : Nat) (w : World) (h : NodesAt l a w) :
    Calls Tryd.prog 13 #[.slice a l.length cap] w fun e w' => ∃ v, e = .returned (.tuple #[v, .bool (wordI l)]) ∧ RowV (wordL l) v w' ∧ Below w.heap.size w w' := by
  have HR := Lib.hid (tRight_calls l hl a cap w h)
  have HN := Lib.hid h
  clear h
  cases hr : rightT l with
  | false =>
    rw [hr] at HR
    obtain ⟨e1, e2⟩ := word_not l hr
    have HU := Lib.hid (And.intro e1 e2)
    clear hr e1 e2
    go_enter Tryd.func13, Tryd.ntmps13
    go_wp2_with fail
    refine HR.out.mono ?_
    rintro e w1 ⟨rfl, hb⟩
    clear HR
    go_wp2_with fail
    exact bodyPost_ret (v := .tuple #[.slice none 0 0, .bool false]) (by simp [results, Tryd.results13, go_sem]) rfl (by rw [HU.out.1, HU.out.2]; exact ⟨_, rfl, RowV.nil _, hb⟩)
  | true =>
  rw [hr] at HR
  obtain ⟨e1, e2⟩ := word_is l hr
  have hpos := right_pos l hr
  have HU := Lib.hid (And.intro e1 e2)
  have hmk := fun W => run_make_row' (P := Tryd.prog) 49 30 (.slice none 0 0) 24 Tryd.underlying49 (by kernel_rfl) rfl .i64 .i64 l.length (by omega) (by omega) W
  have hmk2 := fun W => run_make_row' (P := Tryd.prog) 24 4 (.bool false) 1 Tryd.underlying24 (by kernel_rfl) rfl .i64 .i64 l.length (by omega) (by omega) W
  have hmz : (madeCells #[Value.slice none 0 0] l.length).size = l.length := by simp [madeCells]
  have hmz2 : (madeCells #[Value.bool false] l.length).size = l.length := by simp [madeCells]
  have HMZ := Lib.hid (rowZ_get l.length)
  have HMZ2 := Lib.hid (boolZ_get' l.length)
  generalize madeCells #[Value.slice none 0 0] l.length = vs0 at *
  generalize madeCells #[Value.bool false] l.length = us0 at *
  have HNK := Lib.hid (fun i hi => And.intro (nodek_parts l hr i hi) (kind_range l hr i hi))
  have HW1 := Lib.hid (wd_nil l hr)
  have HW2 := Lib.hid (wd_leaf l hr)
  have HW3 := Lib.hid (wd_cat l hr)
  have HW4 := Lib.hid (wd_alt l hr)
  have HW7 := Lib.hid (wd_same l hr)
  have HWL := Lib.hid (wdL_len l hr)
  have HW256 := Lib.hid (wdL_lt l hr)
  clear hr e1 e2
  go_enter Tryd.func13, Tryd.ntmps13
  go_wp2_with fail
  refine HR.out.mono ?_
  rintro e w1 ⟨rfl, hb⟩
  have HN1 := Lib.hid (HN.out.below hb)
  have HBW := Lib.hid hb
  clear HR hb HN
  go_upto_region 3 with fail
  go_cut [4, 5] from 12 to 17 (fun v u wx => ∃ T Z : Nat, v = .slice (some ⟨T, 0, none⟩) l.length l.length ∧ u = .slice (some ⟨Z, 0, none⟩) l.length l.length ∧ w1.heap.size ≤ T ∧ w1.heap.size ≤ Z ∧ WdS l.length T Z (pL l 0) (pI l 0) wx ∧ Below w1.heap.size w1 wx)
  case first =>
    go_region
    all_goals
      go_wp2_with fail
      go_meet
      have hz0 : w1.drew.heap.size = w1.heap.size := rfl
      first
        | exact ⟨_, _, rfl, rfl, by first | exact Nat.le_refl _ | exact Nat.le_succ _, by first | exact Nat.le_refl _ | exact Nat.le_succ _, wds_two l w1 vs0 us0 hmz hmz2 HMZ.out HMZ2.out⟩
        | exact ⟨_, _, rfl, rfl, by first | exact Nat.le_refl _ | exact Nat.le_succ _, by first | exact Nat.le_refl _ | exact Nat.le_succ _, wds_two' l w1 vs0 us0 hmz hmz2 HMZ.out HMZ2.out⟩
  case rest =>
  obtain ⟨T, Z, rfl, rfl, hT1, hZ1, hS0, hB1⟩ := hcut
  have HS0 := Lib.hid hS0
  have HB1 := Lib.hid hB1
  clear hmk hmk2 hmz hmz2 HMZ HMZ2 hS0 hB1
  go_upto_region 5 with fail
  go_loopw [6] (fun vi wr => ∃ i : Nat, i ≤ l.length ∧ vi = .int .i64 i ∧ WdS l.length T Z (pL l i) (pI l i) wr ∧ Below w1.heap.size w1 wr) (fun vi _ => l.length - (intOf vi).toNat)
  case atStart => exact ⟨0, Nat.zero_le _, rfl, HS0.out, HB1.out⟩
  case round =>
    clear HS0 HB1
    obtain ⟨i, hi, rfl, hS, hB⟩ := hrel
    by_cases hlt : i < l.length
    · have hii : (i : Int) < (l.length : Int) := by omega
      have hd : decide (i < l.length) = true := by rw [decide_eq_true_iff]; omega
      have hdI : decide ((i : Int) < (l.length : Int)) = true := by rw [decide_eq_true_iff]; omega
      have xi : IntKind.i64.wrap ((i : Int) + 1) = (i : Int) + 1 := IntWalk.i64_in _ (by omega)
      obtain ⟨hnk, hk1, hk8⟩ := HNK.out i hlt
      obtain ⟨g, off, rfl, hg, hc⟩ := (HN1.out.below hB) (by rintro rfl; simp at hlt)
      have d0 := hc i hlt 0 (by decide); have d1 := hc i hlt 1 (by decide); have d2 := hc i hlt 2 (by decide); have d3 := hc i hlt 3 (by decide); have d4 := hc i hlt 4 (by decide); have d5 := hc i hlt 5 (by decide); have d6 := hc i hlt 6 (by decide); have d7 := hc i hlt 7 (by decide)
      simp only [ndA, List.getElem?_toArray, List.getElem?_cons_zero, List.getElem?_cons_succ, Nat.add_zero] at d0 d1 d2 d3 d4 d5 d6 d7
      have hw1 := HW1.out i hlt
      have hw2 := HW2.out i hlt
      have hw3 := HW3.out i hlt
      have hw4 := HW4.out i hlt
      have hw7 := HW7.out i hlt
      generalize l[i] = x at *
      obtain ⟨k, kc, kn, km, t⟩ := x
      simp only at d0 d1 d2 d3 d4 d5 d6 d7 hnk hk1 hk8 hw1 hw2 hw3 hw4 hw7
      have h1 := Lib.hid hw1
      have h2 := Lib.hid hw2
      have h3 := Lib.hid hw3
      have h4 := Lib.hid hw4
      have h7 := Lib.hid hw7
      have HS2 := Lib.hid (hS.below ((Below.refl wr.heap.size wr).alloc (Nat.le_refl _) (.cells (ndI k kc kn km t) 38)))
      have HB2 := Lib.hid (hB.alloc hB.size (.cells (ndI k kc kn km t) 38))
      have hX := Blk.new wr (ndI k kc kn km t) 38
      have hXlt : wr.heap.size < (wr.alloc (.cells (ndI k kc kn km t) 38)).heap.size := by rw [World.size_alloc]; omega
      have hTX := hS.lt.1
      have hZX := hS.lt.2
      clear hw1 hw2 hw3 hw4 hw7 hS hB hc
      go_upto_region 8 with fail
      clear d0 d1 d2 d3 d4 d5 d6 d7 hg
      generalize wr.alloc (.cells (ndI k kc kn km t) 38) = wa at *
      generalize wr.heap.size = X at *
      have HX := Lib.hid hX
      have c0 := hX.cell 0; have c1 := hX.cell 1; have c2 := hX.cell 2; have c4 := hX.cell 4; have c5 := hX.cell 5; have c6 := hX.cell 6; have c7 := hX.cell 7
      simp only [List.getElem?_toArray, List.getElem?_cons_zero, List.getElem?_cons_succ] at c0 c1 c2 c4 c5 c6 c7
      clear hX
      obtain ⟨fT, fZ⟩ := HS2.out.fr i
      obtain ⟨hTl, hZl⟩ := HS2.out.lt
      have hTZ : T ≠ Z := HS2.out.ne
      have hZT : Z ≠ T := Ne.symm HS2.out.ne
      have HNE := Lib.hid (show T ≠ X ∧ Z ≠ X from ⟨fun e => by omega, fun e => by omega⟩)
      clear hTX hZX
      obtain ⟨vi, ct, _⟩ := HS2.out.cell i hlt
      have cz := HS2.out.is i hlt
      rw [(p_now l i).2] at cz
      have hpc : ∀ p, p < i → ∃ v, wa.cell? ⟨T, p, none⟩ = some v ∧ RowV (wdL l p) v wa := fun p hp => by
        obtain ⟨v, e, r⟩ := HS2.out.cell p (by omega)
        rw [pL, if_pos hp] at r
        exact ⟨v, e, r⟩
      have hpi : ∀ p, p < i → wa.cell? ⟨Z, p, none⟩ = some (.bool (wdI l p)) := fun p hp => by
        have := HS2.out.is p (by omega)
        rw [pI, if_pos hp] at this
        exact this
      have HPC := Lib.hid hpc
      have HPI := Lib.hid hpi
      clear hpc hpi
      rcases hnk with ⟨h0, _⟩ | ⟨p, h0, rfl, _, hp3, _⟩ | ⟨p, q, h0, rfl, rfl, hp3, hp4, _, hp6⟩
      · rcases pc_zero h0 hk1 hk8 with rfl | rfl
        · clear h0 hk1 hk8
          have hw := h1.out (.inl rfl)
          have HF := Lib.hid (pw_mark HS2.out hw.1 true hw.2)
          have HBF := Lib.hid (below_set HB2.out hZ1 i (.bool true))
          clear hw
          go_wp2_with fail
          go_roundw
          case rel => exact ⟨i + 1, by omega, by simp, HF.out, HBF.out⟩
          case measure => simp [intOf]; omega
        · clear h0 hk1 hk8
          have HNX := Lib.hid (rnext_calls t 0 wa)
          have hnn := next_nx t
          have hz0 : (0 : Int).toNat = 0 := rfl
          rcases h2.out rfl with ⟨b, hb, hb256, hwl, hwi⟩ | ⟨hb, hwl, hwi⟩
          · rw [hb] at hnn
            simp only at hnn
            rw [hz0, hnn] at HNX
            have xb : IntKind.u8.wrap (b : Int) = (b : Int) := by unfold IntKind.wrap; simp [IntKind.bits, IntKind.signed]; omega
            have hb0 : decide ((0 : Int) ≤ (b : Int)) = true := decide_eq_true (by omega)
            have HV := Lib.hid (fun W : World => show RowV (wdL l i) (.slice (some ⟨W.heap.size, 0, none⟩) 1 1) (W.alloc (.cells #[.int .u8 (b : Nat)] 5)) by rw [hwl]; exact RowV.one W b _)
            have HWI := Lib.hid hwi
            clear hb hwl hwi hnn
            go_wp2_with fail
            refine HNX.out.mono ?_
            rintro e w3 ⟨rfl, hb3⟩
            have HS3 := Lib.hid ((HS2.out.below hb3).below ((Below.refl w3.heap.size w3).alloc (Nat.le_refl _) (.cells #[.int .u8 (b : Nat)] 5)))
            have hF := pw_both HS3.out (fun _ _ => rfl) (fun _ _ => rfl) (HV.out w3) true HWI.out
            have hB3 := (HB2.out.trans (hb3.mono HB2.out.size))
            have hBF := below_set2 (hB3.alloc hB3.size (.cells #[.int .u8 (b : Nat)] 5)) hT1 hZ1 i (.slice (some ⟨w3.heap.size, 0, none⟩) 1 1) (.bool true)
            have hlt3 := (HS2.out.below hb3).lt
            rw [World.setCell_alloc_past _ T i _ hlt3.1, World.setCell_alloc_past _ Z i _ (by simpa using hlt3.2)] at hF hBF
            have HF := Lib.hid hF
            have HBF := Lib.hid hBF
            clear hF hBF hlt3
            obtain ⟨v3, ct3, _⟩ := (HS2.out.below hb3).cell i hlt
            have cz3 := (HS2.out.below hb3).is i hlt
            obtain ⟨fT3, fZ3⟩ := (HS2.out.below hb3).fr i
            obtain ⟨hTl3, hZl3⟩ := (HS2.out.below hb3).lt
            clear hB3 hb3 HNX ct cz fT fZ hTl hZl
            go_wp2_with fail
            go_roundw
            case rel => exact ⟨i + 1, by omega, by simp, HF.out, HBF.out⟩
            case measure => simp [intOf]; omega
          · rw [hb] at hnn
            simp only at hnn
            rw [hz0, hnn] at HNX
            have HF := Lib.hid (pw_none HS2.out hwl hwi)
            clear hb hwl hwi hnn
            go_wp2_with fail
            refine HNX.out.mono ?_
            rintro e w3 ⟨rfl, hb3⟩
            have HF3 := Lib.hid (HF.out.below hb3)
            have HB3 := Lib.hid (HB2.out.trans (hb3.mono HB2.out.size))
            clear hb3 HNX
            go_wp2_with fail
            go_roundw
            case rel => exact ⟨i + 1, by omega, by simp, HF3.out, HB3.out⟩
            case measure => simp [intOf]; omega
      · have hpI : (p : Int) < (l.length : Int) := by omega
        have hpd : decide (p < l.length) = true := by rw [decide_eq_true_iff]; omega
        rcases pc_one h0 with rfl | rfl | rfl | rfl
        · clear h0 hk1 hk8
          have hw := h1.out (by omega)
          have HF := Lib.hid (pw_mark HS2.out hw.1 true hw.2)
          have HBF := Lib.hid (below_set HB2.out hZ1 i (.bool true))
          clear hw
          go_wp2_with fail
          go_roundw
          case rel => exact ⟨i + 1, by omega, by simp, HF.out, HBF.out⟩
          case measure => simp [intOf]; omega
        · clear h0 hk1 hk8
          have hw := h1.out (by omega)
          have HF := Lib.hid (pw_mark HS2.out hw.1 true hw.2)
          have HBF := Lib.hid (below_set HB2.out hZ1 i (.bool true))
          clear hw
          go_wp2_with fail
          go_roundw
          case rel => exact ⟨i + 1, by omega, by simp, HF.out, HBF.out⟩
          case measure => simp [intOf]; omega
        · clear h0 hk1 hk8
          have hw := h7.out (by omega) p rfl
          obtain ⟨v, cp, rv⟩ := HPC.out p (by omega)
          have ci := HPI.out p (by omega)
          rw [← hw.1] at rv
          rw [← hw.2] at ci
          have HF := Lib.hid (pw_both HS2.out (fun _ _ => rfl) (fun _ _ => rfl) rv (wdI l i) rfl)
          have HBF := Lib.hid (below_set2 HB2.out hT1 hZ1 i v (.bool (wdI l i)))
          obtain ⟨va, vc, rfl⟩ := rv.form
          generalize wdI l i = bi at *
          clear hw rv
          go_upto_region 27 with fail
          go_region
          all_goals
            go_wp2_with fail
            go_roundw
            case rel => exact ⟨i + 1, by omega, by simp, HF.out.drew, HBF.out.drew⟩
            case measure => simp [intOf]; omega
        · clear h0 hk1 hk8
          have hw := h7.out (by omega) p rfl
          obtain ⟨v, cp, rv⟩ := HPC.out p (by omega)
          have ci := HPI.out p (by omega)
          rw [← hw.1] at rv
          rw [← hw.2] at ci
          have HF := Lib.hid (pw_both HS2.out (fun _ _ => rfl) (fun _ _ => rfl) rv (wdI l i) rfl)
          have HBF := Lib.hid (below_set2 HB2.out hT1 hZ1 i v (.bool (wdI l i)))
          obtain ⟨va, vc, rfl⟩ := rv.form
          generalize wdI l i = bi at *
          clear hw rv
          go_upto_region 27 with fail
          go_region
          all_goals
            go_wp2_with fail
            go_roundw
            case rel => exact ⟨i + 1, by omega, by simp, HF.out.drew, HBF.out.drew⟩
            case measure => simp [intOf]; omega
      · have hpI : (p : Int) < (l.length : Int) := by omega
        have hpd : decide (p < l.length) = true := by rw [decide_eq_true_iff]; omega
        have hqI : (q : Int) < (l.length : Int) := by omega
        have hqd : decide (q < l.length) = true := by rw [decide_eq_true_iff]; omega
        rcases pc_two h0 with rfl | rfl
        · clear h0 hk1 hk8
          have hw := h3.out rfl p q rfl rfl
          obtain ⟨v, cp, rv⟩ := HPC.out p hp6
          obtain ⟨u, cq, ru⟩ := HPC.out q (by omega)
          have ip := HPI.out p hp6
          have iq := HPI.out q (by omega)
          have hLp := HWL.out p (by omega)
          have hLq := HWL.out q (by omega)
          have HWE := Lib.hid hw
          have HRV := Lib.hid rv
          have HRU := Lib.hid ru
          obtain ⟨va, vc, rfl⟩ := rv.form
          obtain ⟨ua, uc, rfl⟩ := ru.form
          clear hw rv ru
          generalize wdL l p = P at *
          generalize wdL l q = Q at *
          generalize wdI l p = bp at *
          generalize wdI l q = bq at *
          cases bp <;> cases bq
          case true.true =>
            have hwe := HWE.out
            rw [if_pos ⟨rfl, rfl⟩] at hwe
            have HWV := Lib.hid hwe
            have HOE := Lib.hid (OwB.empty wa.drew wa.heap.size (Nat.le_refl _))
            have HBE := Lib.hid (((Below.refl wa.heap.size wa).drew).alloc (Nat.le_refl _) (.cells #[] 5))
            have hTw := hTl; have hZw := hZl; have hXw := HX.out.lt
            have HFN := Lib.hid (show ∀ W v, Below wa.heap.size wa W → RowV (P ++ Q) v W → WdS l.length T Z (pL l (i + 1)) (pI l (i + 1)) ((W.setCell ⟨T, i, none⟩ v).setCell ⟨Z, i, none⟩ (.bool true)) from fun W v hb hr => pw_both (HS2.out.below hb) (fun _ _ => rfl) (fun _ _ => rfl) (by rw [HWV.out.2]; exact hr) true (by rw [HWV.out.1] <;> rfl))
            have HCC := Lib.hid (show ∀ W, Below wa.heap.size wa W → W.cell? ⟨X, 2, none⟩ = some (.int .i64 (q : Nat)) ∧ W.cell? ⟨T, q, none⟩ = some (.slice ua Q.length uc) ∧ W.cell? ⟨T, i, none⟩ = some vi ∧ W.frozen? ⟨T, i, none⟩ = false ∧ W.cell? ⟨Z, i, none⟩ = some (.bool false) ∧ W.frozen? ⟨Z, i, none⟩ = false from fun W hb => ⟨(hb.cell (p := ⟨X, 2, none⟩) hXw).trans c2, (hb.cell (p := ⟨T, q, none⟩) hTw).trans cq, (hb.cell (p := ⟨T, i, none⟩) hTw).trans ct, (hb.frozen (p := ⟨T, i, none⟩) hTw).trans fT, (hb.cell (p := ⟨Z, i, none⟩) hZw).trans cz, (hb.frozen (p := ⟨Z, i, none⟩) hZw).trans fZ⟩)
            clear hwe HWE
            obtain ⟨v8, W8, hr8, ho8, hg8⟩ := run_app HOE.out (HRV.out.below HBE.out) (by simp; omega) HBE.out.size 30
            have hB8 := HBE.out.grown hg8 HBE.out.size (fun k hk => (World.ownsRow.lt HOE.out k hk).1)
            rw [List.nil_append] at ho8
            obtain ⟨v14, W14, hr14, ho14, hg14⟩ := run_app ho8 (HRU.out.below hB8) (by omega) hB8.size 30
            have hB14 := hB8.grown hg14 hB8.size (fun k hk => (World.ownsRow.lt ho8 k hk).1)
            generalize hM : P ++ Q = M at *
            clear hM
            obtain ⟨a14, k14, rfl⟩ := owns_form ho14
            have HFN2 := Lib.hid (HFN.out W14 _ hB14 ho14.row)
            have HBN2 := Lib.hid (below_set2 (HB2.out.trans (hB14.mono HB2.out.size)) hT1 hZ1 i (.slice a14 M.length k14) (.bool true))
            obtain ⟨x1, x2, x3, x4, x5, x6⟩ := HCC.out W14 hB14
            have hnT : T ≠ X := HNE.out.1
            have HRD := Lib.hid (show ∀ k W, lvl [wa.drew, wa.drew.alloc (.cells #[] 5), W8, W14, W14.setCell ⟨T, i, none⟩ (.slice a14 M.length k14)] k W → W.cell? ⟨X, 1, none⟩ = some (.int .i64 (p : Nat)) ∧ W.cell? ⟨X, 2, none⟩ = some (.int .i64 (q : Nat)) ∧ W.cell? ⟨T, p, none⟩ = some (.slice va P.length vc) ∧ W.cell? ⟨T, q, none⟩ = some (.slice ua Q.length uc) from fun k W hW => by
              have hm := hW.mem
              have key : ∀ W, Below wa.heap.size wa W → W.cell? ⟨X, 1, none⟩ = some (.int .i64 (p : Nat)) ∧ W.cell? ⟨X, 2, none⟩ = some (.int .i64 (q : Nat)) ∧ W.cell? ⟨T, p, none⟩ = some (.slice va P.length vc) ∧ W.cell? ⟨T, q, none⟩ = some (.slice ua Q.length uc) := fun W hb => ⟨(hb.cell (p := ⟨X, 1, none⟩) hXw).trans c1, (hb.cell (p := ⟨X, 2, none⟩) hXw).trans c2, (hb.cell (p := ⟨T, p, none⟩) hTw).trans cp, (hb.cell (p := ⟨T, q, none⟩) hTw).trans cq⟩
              simp only [List.mem_cons, List.not_mem_nil, or_false] at hm
              rcases hm with rfl | rfl | rfl | rfl | rfl
              · exact key _ (Below.refl wa.heap.size wa).drew
              · exact key _ HBE.out
              · exact key _ hB8
              · exact key _ hB14
              · have k0 := key _ hB14
                rw [set_far W14 _ (.inl hnT), set_far W14 _ (.inl hnT), set_far W14 _ (.inr (by omega)), set_far W14 _ (.inr (by omega))]
                exact k0)
            have y1 : (W14.setCell ⟨T, i, none⟩ (.slice a14 M.length k14)).cell? ⟨Z, i, none⟩ = some (.bool false) := (set_far W14 _ (.inl hTZ)).trans x5
            have y2 : (W14.setCell ⟨T, i, none⟩ (.slice a14 M.length k14)).frozen? ⟨Z, i, none⟩ = false := by rw [World.frozen?_setCell]; exact x6
            clear hB8 hB14 ho8 hg8 ho14 hg14 c4 c5 c6 c7 HOE HFN HCC
            go_upto_region 19 with fail
            clear c1 c2 cp cq ct cz fT fZ ip iq
            refine region_stepsC (S := lvl [wa.drew, wa.drew.alloc (.cells #[] 5), W8, W14, W14.setCell ⟨T, i, none⟩ (.slice a14 M.length k14)]) [2, 8, 14, 16] (by kernel_rfl) (by kernel_rfl) rfl ?_
            simp only [List.size_toArray, List.length_cons, List.length_nil, Nat.reduceAdd, Array.replicate_succ, Array.replicate_zero, List.push_toArray, List.nil_append, List.cons_append]
            refine AnyC.next (i := 0) (d := some 67) (v := .slice (some ⟨T, 0, none⟩) l.length l.length) rfl rfl (by kernel_rfl) (by kernel_rfl) (by kernel_rfl) (by kernel_rfl) (fun k => StepsIf.yield (by kernel_rfl) (fun w' hS => by clear hS; go_simp)) ?_
            intro a' ha'
            simp only [Act.put, List.setIfInBounds_toArray, List.set_cons_zero, List.set_cons_succ] at ha'
            subst ha'
            refine AnyC.next (i := 1) (d := some 68) (v := .int .i64 (i : Nat)) rfl rfl (by kernel_rfl) (by kernel_rfl) (by kernel_rfl) (by kernel_rfl) (fun k => StepsIf.yield (by kernel_rfl) (fun w' hS => by clear hS; go_simp)) ?_
            intro a' ha'
            simp only [Act.put, List.setIfInBounds_toArray, List.set_cons_zero, List.set_cons_succ] at ha'
            subst ha'
            refine AnyC.next (i := 3) (d := some 70) (v := .slice (some ⟨T, 0, none⟩) l.length l.length) rfl rfl (by kernel_rfl) (by kernel_rfl) (by kernel_rfl) (by kernel_rfl) (fun k => StepsIf.yield (by kernel_rfl) (fun w' hS => by clear hS; go_simp)) ?_
            intro a' ha'
            simp only [Act.put, List.setIfInBounds_toArray, List.set_cons_zero, List.set_cons_succ] at ha'
            subst ha'
            refine AnyC.next (i := 4) (d := some 71) (v := .pointer (some ⟨X, 1, none⟩)) rfl rfl (by kernel_rfl) (by kernel_rfl) (by kernel_rfl) (by kernel_rfl) (fun k => StepsIf.yield (by kernel_rfl) (fun w' hS => by clear hS; go_simp)) ?_
            intro a' ha'
            simp only [Act.put, List.setIfInBounds_toArray, List.set_cons_zero, List.set_cons_succ] at ha'
            subst ha'
            refine AnyC.next (i := 5) (d := some 72) (v := .int .i64 (p : Nat)) rfl rfl (by kernel_rfl) (by kernel_rfl) (by kernel_rfl) (by kernel_rfl) (fun k => StepsIf.yield (by kernel_rfl) (fun w' hS => by obtain ⟨s1, s2, s3, s4⟩ := HRD.out k w' hS; clear hS; go_simp)) ?_
            intro a' ha'
            simp only [Act.put, List.setIfInBounds_toArray, List.set_cons_zero, List.set_cons_succ] at ha'
            subst ha'
            refine AnyC.next (i := 6) (d := some 73) (v := .pointer (some ⟨T, p, none⟩)) rfl rfl (by kernel_rfl) (by kernel_rfl) (by kernel_rfl) (by kernel_rfl) (fun k => StepsIf.yield (by kernel_rfl) (fun w' hS => by clear hS; go_simp)) ?_
            intro a' ha'
            simp only [Act.put, List.setIfInBounds_toArray, List.set_cons_zero, List.set_cons_succ] at ha'
            subst ha'
            refine AnyC.next (i := 7) (d := some 74) (v := .slice va P.length vc) rfl rfl (by kernel_rfl) (by kernel_rfl) (by kernel_rfl) (by kernel_rfl) (fun k => StepsIf.yield (by kernel_rfl) (fun w' hS => by obtain ⟨s1, s2, s3, s4⟩ := HRD.out k w' hS; clear hS; go_simp)) ?_
            intro a' ha'
            simp only [Act.put, List.setIfInBounds_toArray, List.set_cons_zero, List.set_cons_succ] at ha'
            subst ha'
            refine AnyC.next (i := 9) (d := some 76) (v := .slice (some ⟨T, 0, none⟩) l.length l.length) rfl rfl (by kernel_rfl) (by kernel_rfl) (by kernel_rfl) (by kernel_rfl) (fun k => StepsIf.yield (by kernel_rfl) (fun w' hS => by clear hS; go_simp)) ?_
            intro a' ha'
            simp only [Act.put, List.setIfInBounds_toArray, List.set_cons_zero, List.set_cons_succ] at ha'
            subst ha'
            refine AnyC.next (i := 10) (d := some 77) (v := .pointer (some ⟨X, 2, none⟩)) rfl rfl (by kernel_rfl) (by kernel_rfl) (by kernel_rfl) (by kernel_rfl) (fun k => StepsIf.yield (by kernel_rfl) (fun w' hS => by clear hS; go_simp)) ?_
            intro a' ha'
            simp only [Act.put, List.setIfInBounds_toArray, List.set_cons_zero, List.set_cons_succ] at ha'
            subst ha'
            refine AnyC.next (i := 11) (d := some 78) (v := .int .i64 (q : Nat)) rfl rfl (by kernel_rfl) (by kernel_rfl) (by kernel_rfl) (by kernel_rfl) (fun k => StepsIf.yield (by kernel_rfl) (fun w' hS => by obtain ⟨s1, s2, s3, s4⟩ := HRD.out k w' hS; clear hS; go_simp)) ?_
            intro a' ha'
            simp only [Act.put, List.setIfInBounds_toArray, List.set_cons_zero, List.set_cons_succ] at ha'
            subst ha'
            refine AnyC.next (i := 12) (d := some 79) (v := .pointer (some ⟨T, q, none⟩)) rfl rfl (by kernel_rfl) (by kernel_rfl) (by kernel_rfl) (by kernel_rfl) (fun k => StepsIf.yield (by kernel_rfl) (fun w' hS => by clear hS; go_simp)) ?_
            intro a' ha'
            simp only [Act.put, List.setIfInBounds_toArray, List.set_cons_zero, List.set_cons_succ] at ha'
            subst ha'
            refine AnyC.next (i := 13) (d := some 80) (v := .slice ua Q.length uc) rfl rfl (by kernel_rfl) (by kernel_rfl) (by kernel_rfl) (by kernel_rfl) (fun k => StepsIf.yield (by kernel_rfl) (fun w' hS => by obtain ⟨s1, s2, s3, s4⟩ := HRD.out k w' hS; clear hS; go_simp)) ?_
            intro a' ha'
            simp only [Act.put, List.setIfInBounds_toArray, List.set_cons_zero, List.set_cons_succ] at ha'
            subst ha'
            refine AnyC.turn (i := 2) (k := 0) (d := some 69) (v := .slice (some ⟨wa.heap.size, 0, none⟩) 0 0) rfl rfl (by kernel_rfl) (by kernel_rfl) (StepsL.lev rfl rfl (by kernel_rfl) (by go_simp)) ?_
            intro a' ha'
            simp only [Act.put, List.setIfInBounds_toArray, List.set_cons_zero, List.set_cons_succ] at ha'
            subst ha'
            refine AnyC.turn (i := 8) (k := 1) (d := some 75) (v := v8) rfl rfl (by kernel_rfl) (by kernel_rfl) (StepsL.lev rfl rfl (by kernel_rfl) (exec_app rfl rfl rfl hr8)) ?_
            intro a' ha'
            simp only [Act.put, List.setIfInBounds_toArray, List.set_cons_zero, List.set_cons_succ] at ha'
            subst ha'
            refine AnyC.turn (i := 14) (k := 2) (d := some 81) (v := .slice a14 M.length k14) rfl rfl (by kernel_rfl) (by kernel_rfl) (StepsL.lev rfl rfl (by kernel_rfl) (exec_app rfl rfl rfl hr14)) ?_
            intro a' ha'
            simp only [Act.put, List.setIfInBounds_toArray, List.set_cons_zero, List.set_cons_succ] at ha'
            subst ha'
            refine AnyC.next (i := 15) (d := some 82) (v := .pointer (some ⟨T, i, none⟩)) rfl rfl (by kernel_rfl) (by kernel_rfl) (by kernel_rfl) (by kernel_rfl) (fun k => StepsIf.yield (by kernel_rfl) (fun w' hS => by clear hS; go_simp)) ?_
            intro a' ha'
            simp only [Act.put, List.setIfInBounds_toArray, List.set_cons_zero, List.set_cons_succ] at ha'
            subst ha'
            refine AnyC.turn (i := 16) (k := 3) (d := none) (v := undef) rfl rfl (by kernel_rfl) (by kernel_rfl) (StepsL.levStore rfl rfl (by kernel_rfl) (by go_simp)) ?_
            intro a' ha'
            simp only [Act.put] at ha'
            subst ha'
            refine AnyC.done (k := 4) (by kernel_rfl) (by kernel_rfl) (fun w' hS => ?_) _
            obtain rfl := hS.is rfl
            clear HRD hr8 hr14 x1 x2 x3 x4 x5 x6
            generalize W14.setCell ⟨T, i, none⟩ (.slice a14 M.length k14) = W16 at *
            go_wp2_with fail
            go_roundw
            case rel => exact ⟨i + 1, by omega, by simp, HFN2.out, HBN2.out⟩
            case measure => simp [intOf]; omega
          all_goals
            have HF := Lib.hid (pw_none HS2.out (by rw [HWE.out.2]; exact if_neg (by decide)) (by rw [HWE.out.1] <;> rfl))
            go_wp2_with fail
            go_roundw
            case rel => exact ⟨i + 1, by omega, by simp, HF.out, HB2.out⟩
            case measure => simp [intOf]; omega
        · clear h0 hk1 hk8
          have hw := h4.out rfl p q rfl rfl
          obtain ⟨v, cp, rv⟩ := HPC.out p hp6
          obtain ⟨u, cq, ru⟩ := HPC.out q (by omega)
          have ip := HPI.out p hp6
          have iq := HPI.out q (by omega)
          have h256p := HW256.out p (by omega)
          have h256q := HW256.out q (by omega)
          have HWE := Lib.hid hw
          have hs3 := (HS2.out.drew.setL i (rv.below (Below.refl wa.heap.size wa).drew)).setI i (wdI l p)
          have hcell3 : ∀ x, x ≠ i → ((wa.drew.setCell ⟨T, i, none⟩ v).setCell ⟨Z, i, none⟩ (.bool (wdI l p))).cell? ⟨T, x, none⟩ = wa.cell? ⟨T, x, none⟩ := fun x hx => by
            rw [set_far _ _ (.inl hZT), set_far _ _ (.inr (Ne.symm hx))]; rfl
          have HRU3 := Lib.hid (show RowV (wdL l q) u ((wa.drew.setCell ⟨T, i, none⟩ v).setCell ⟨Z, i, none⟩ (.bool (wdI l p))) from by
            obtain ⟨v', e, r⟩ := hs3.cell q (by omega)
            rw [if_neg (by omega), pL, if_pos (by omega)] at r
            rw [hcell3 q (by omega), cq] at e
            cases e
            exact r)
          have HRV3 := Lib.hid (show RowV (wdL l p) v ((wa.drew.setCell ⟨T, i, none⟩ v).setCell ⟨Z, i, none⟩ (.bool (wdI l p))) from by
            obtain ⟨v', e, r⟩ := hs3.cell p (by omega)
            rw [if_neg (by omega), pL, if_pos (by omega)] at r
            rw [hcell3 p (by omega), cp] at e
            cases e
            exact r)
          have ct3 : ((wa.drew.setCell ⟨T, i, none⟩ v).setCell ⟨Z, i, none⟩ (.bool (wdI l p))).cell? ⟨T, i, none⟩ = some v := by
            rw [set_far _ _ (.inl hZT)]
            exact World.cell?_setCell_same' _ _ _ (by have e : wa.drew.cell? ⟨T, i, none⟩ = some vi := ct; rw [e]; rfl)
          have HS3 := Lib.hid hs3
          clear hs3 hcell3
          obtain ⟨va, vc, rfl⟩ := rv.form
          obtain ⟨ua, uc, rfl⟩ := ru.form
          clear hw rv ru
          generalize wdL l p = P at *
          generalize wdL l q = Q at *
          generalize wdI l p = bp at *
          generalize wdI l q = bq at *
          have hnT : T ≠ X := HNE.out.1
          have hnZ : Z ≠ X := HNE.out.2
          have HB3 := Lib.hid (below_set2 HB2.out.drew hT1 hZ1 i (.slice va P.length vc) (.bool bp))
          have HRD := Lib.hid (show ∀ k W, lvl [wa.drew, wa.drew.setCell ⟨T, i, none⟩ (.slice va P.length vc), (wa.drew.setCell ⟨T, i, none⟩ (.slice va P.length vc)).setCell ⟨Z, i, none⟩ (.bool bp)] k W → W.cell? ⟨X, 1, none⟩ = some (.int .i64 (p : Nat)) ∧ W.cell? ⟨T, p, none⟩ = some (.slice va P.length vc) ∧ W.cell? ⟨Z, p, none⟩ = some (.bool bp) ∧ W.cell? ⟨X, 2, none⟩ = some (.int .i64 (q : Nat)) ∧ W.cell? ⟨T, q, none⟩ = some (.slice ua Q.length uc) ∧ W.cell? ⟨Z, q, none⟩ = some (.bool bq) from fun k W hW => by
            have hm := hW.mem
            have k0 : wa.drew.cell? ⟨X, 1, none⟩ = some (.int .i64 (p : Nat)) ∧ wa.drew.cell? ⟨T, p, none⟩ = some (.slice va P.length vc) ∧ wa.drew.cell? ⟨Z, p, none⟩ = some (.bool bp) ∧ wa.drew.cell? ⟨X, 2, none⟩ = some (.int .i64 (q : Nat)) ∧ wa.drew.cell? ⟨T, q, none⟩ = some (.slice ua Q.length uc) ∧ wa.drew.cell? ⟨Z, q, none⟩ = some (.bool bq) := ⟨c1, cp, ip, c2, cq, iq⟩
            simp only [List.mem_cons, List.not_mem_nil, or_false] at hm
            rcases hm with rfl | rfl | rfl
            · exact k0
            · exact ⟨(set_far _ _ (.inl hnT)).trans k0.1, (set_far _ _ (.inr (by omega))).trans k0.2.1, (set_far _ _ (.inl hTZ)).trans k0.2.2.1, (set_far _ _ (.inl hnT)).trans k0.2.2.2.1, (set_far _ _ (.inr (by omega))).trans k0.2.2.2.2.1, (set_far _ _ (.inl hTZ)).trans k0.2.2.2.2.2⟩
            · exact ⟨(set_far _ _ (.inl hnZ)).trans ((set_far _ _ (.inl hnT)).trans k0.1), (set_far _ _ (.inl hZT)).trans ((set_far _ _ (.inr (by omega))).trans k0.2.1), (set_far _ _ (.inr (by omega))).trans ((set_far _ _ (.inl hTZ)).trans k0.2.2.1), (set_far _ _ (.inl hnZ)).trans ((set_far _ _ (.inl hnT)).trans k0.2.2.2.1), (set_far _ _ (.inl hZT)).trans ((set_far _ _ (.inr (by omega))).trans k0.2.2.2.2.1), (set_far _ _ (.inr (by omega))).trans ((set_far _ _ (.inl hTZ)).trans k0.2.2.2.2.2)⟩)
          have z1 : (wa.drew.setCell ⟨T, i, none⟩ (.slice va P.length vc)).cell? ⟨Z, i, none⟩ = some (.bool false) := (set_far _ _ (.inl hTZ)).trans cz
          have z2 : (wa.drew.setCell ⟨T, i, none⟩ (.slice va P.length vc)).frozen? ⟨Z, i, none⟩ = false := by rw [World.frozen?_setCell]; exact fZ
          have z3 : wa.drew.cell? ⟨T, i, none⟩ = some vi := ct
          have z4 : wa.drew.frozen? ⟨T, i, none⟩ = false := fT
          go_upto_region 22 with fail
          clear c1 c2 c4 c5 c6 c7 cp cq ip iq hTl hZl
          refine region_stepsC (S := lvl [wa.drew, wa.drew.setCell ⟨T, i, none⟩ (.slice va P.length vc), (wa.drew.setCell ⟨T, i, none⟩ (.slice va P.length vc)).setCell ⟨Z, i, none⟩ (.bool bp)]) [15, 17] (by kernel_rfl) (by kernel_rfl) rfl ?_
          simp only [List.size_toArray, List.length_cons, List.length_nil, Nat.reduceAdd, Array.replicate_succ, Array.replicate_zero, List.push_toArray, List.nil_append, List.cons_append]
          refine AnyC.next (i := 0) (d := some 88) (v := .slice (some ⟨T, 0, none⟩) l.length l.length) rfl rfl (by kernel_rfl) (by kernel_rfl) (by kernel_rfl) (by kernel_rfl) (fun k => StepsIf.yield (by kernel_rfl) (fun w' hS => by clear hS; go_simp)) ?_
          intro a' ha'
          simp only [Act.put, List.setIfInBounds_toArray, List.set_cons_zero, List.set_cons_succ] at ha'
          subst ha'
          refine AnyC.next (i := 1) (d := some 89) (v := .int .i64 (i : Nat)) rfl rfl (by kernel_rfl) (by kernel_rfl) (by kernel_rfl) (by kernel_rfl) (fun k => StepsIf.yield (by kernel_rfl) (fun w' hS => by clear hS; go_simp)) ?_
          intro a' ha'
          simp only [Act.put, List.setIfInBounds_toArray, List.set_cons_zero, List.set_cons_succ] at ha'
          subst ha'
          refine AnyC.next (i := 2) (d := some 90) (v := .slice (some ⟨Z, 0, none⟩) l.length l.length) rfl rfl (by kernel_rfl) (by kernel_rfl) (by kernel_rfl) (by kernel_rfl) (fun k => StepsIf.yield (by kernel_rfl) (fun w' hS => by clear hS; go_simp)) ?_
          intro a' ha'
          simp only [Act.put, List.setIfInBounds_toArray, List.set_cons_zero, List.set_cons_succ] at ha'
          subst ha'
          refine AnyC.next (i := 3) (d := some 91) (v := .int .i64 (i : Nat)) rfl rfl (by kernel_rfl) (by kernel_rfl) (by kernel_rfl) (by kernel_rfl) (fun k => StepsIf.yield (by kernel_rfl) (fun w' hS => by clear hS; go_simp)) ?_
          intro a' ha'
          simp only [Act.put, List.setIfInBounds_toArray, List.set_cons_zero, List.set_cons_succ] at ha'
          subst ha'
          refine AnyC.next (i := 4) (d := some 92) (v := .slice (some ⟨T, 0, none⟩) l.length l.length) rfl rfl (by kernel_rfl) (by kernel_rfl) (by kernel_rfl) (by kernel_rfl) (fun k => StepsIf.yield (by kernel_rfl) (fun w' hS => by clear hS; go_simp)) ?_
          intro a' ha'
          simp only [Act.put, List.setIfInBounds_toArray, List.set_cons_zero, List.set_cons_succ] at ha'
          subst ha'
          refine AnyC.next (i := 5) (d := some 93) (v := .pointer (some ⟨X, 1, none⟩)) rfl rfl (by kernel_rfl) (by kernel_rfl) (by kernel_rfl) (by kernel_rfl) (fun k => StepsIf.yield (by kernel_rfl) (fun w' hS => by clear hS; go_simp)) ?_
          intro a' ha'
          simp only [Act.put, List.setIfInBounds_toArray, List.set_cons_zero, List.set_cons_succ] at ha'
          subst ha'
          refine AnyC.next (i := 6) (d := some 94) (v := .int .i64 (p : Nat)) rfl rfl (by kernel_rfl) (by kernel_rfl) (by kernel_rfl) (by kernel_rfl) (fun k => StepsIf.yield (by kernel_rfl) (fun w' hS => by obtain ⟨s1, s2, s3, s4, s5, s6⟩ := HRD.out k w' hS; clear hS; go_simp)) ?_
          intro a' ha'
          simp only [Act.put, List.setIfInBounds_toArray, List.set_cons_zero, List.set_cons_succ] at ha'
          subst ha'
          refine AnyC.next (i := 7) (d := some 95) (v := .pointer (some ⟨T, p, none⟩)) rfl rfl (by kernel_rfl) (by kernel_rfl) (by kernel_rfl) (by kernel_rfl) (fun k => StepsIf.yield (by kernel_rfl) (fun w' hS => by clear hS; go_simp)) ?_
          intro a' ha'
          simp only [Act.put, List.setIfInBounds_toArray, List.set_cons_zero, List.set_cons_succ] at ha'
          subst ha'
          refine AnyC.next (i := 8) (d := some 96) (v := .slice va P.length vc) rfl rfl (by kernel_rfl) (by kernel_rfl) (by kernel_rfl) (by kernel_rfl) (fun k => StepsIf.yield (by kernel_rfl) (fun w' hS => by obtain ⟨s1, s2, s3, s4, s5, s6⟩ := HRD.out k w' hS; clear hS; go_simp)) ?_
          intro a' ha'
          simp only [Act.put, List.setIfInBounds_toArray, List.set_cons_zero, List.set_cons_succ] at ha'
          subst ha'
          refine AnyC.next (i := 9) (d := some 97) (v := .slice (some ⟨Z, 0, none⟩) l.length l.length) rfl rfl (by kernel_rfl) (by kernel_rfl) (by kernel_rfl) (by kernel_rfl) (fun k => StepsIf.yield (by kernel_rfl) (fun w' hS => by clear hS; go_simp)) ?_
          intro a' ha'
          simp only [Act.put, List.setIfInBounds_toArray, List.set_cons_zero, List.set_cons_succ] at ha'
          subst ha'
          refine AnyC.next (i := 10) (d := some 98) (v := .pointer (some ⟨X, 1, none⟩)) rfl rfl (by kernel_rfl) (by kernel_rfl) (by kernel_rfl) (by kernel_rfl) (fun k => StepsIf.yield (by kernel_rfl) (fun w' hS => by clear hS; go_simp)) ?_
          intro a' ha'
          simp only [Act.put, List.setIfInBounds_toArray, List.set_cons_zero, List.set_cons_succ] at ha'
          subst ha'
          refine AnyC.next (i := 11) (d := some 99) (v := .int .i64 (p : Nat)) rfl rfl (by kernel_rfl) (by kernel_rfl) (by kernel_rfl) (by kernel_rfl) (fun k => StepsIf.yield (by kernel_rfl) (fun w' hS => by obtain ⟨s1, s2, s3, s4, s5, s6⟩ := HRD.out k w' hS; clear hS; go_simp)) ?_
          intro a' ha'
          simp only [Act.put, List.setIfInBounds_toArray, List.set_cons_zero, List.set_cons_succ] at ha'
          subst ha'
          refine AnyC.next (i := 12) (d := some 100) (v := .pointer (some ⟨Z, p, none⟩)) rfl rfl (by kernel_rfl) (by kernel_rfl) (by kernel_rfl) (by kernel_rfl) (fun k => StepsIf.yield (by kernel_rfl) (fun w' hS => by clear hS; go_simp)) ?_
          intro a' ha'
          simp only [Act.put, List.setIfInBounds_toArray, List.set_cons_zero, List.set_cons_succ] at ha'
          subst ha'
          refine AnyC.next (i := 13) (d := some 101) (v := .bool bp) rfl rfl (by kernel_rfl) (by kernel_rfl) (by kernel_rfl) (by kernel_rfl) (fun k => StepsIf.yield (by kernel_rfl) (fun w' hS => by obtain ⟨s1, s2, s3, s4, s5, s6⟩ := HRD.out k w' hS; clear hS; go_simp)) ?_
          intro a' ha'
          simp only [Act.put, List.setIfInBounds_toArray, List.set_cons_zero, List.set_cons_succ] at ha'
          subst ha'
          refine AnyC.next (i := 14) (d := some 102) (v := .pointer (some ⟨T, i, none⟩)) rfl rfl (by kernel_rfl) (by kernel_rfl) (by kernel_rfl) (by kernel_rfl) (fun k => StepsIf.yield (by kernel_rfl) (fun w' hS => by clear hS; go_simp)) ?_
          intro a' ha'
          simp only [Act.put, List.setIfInBounds_toArray, List.set_cons_zero, List.set_cons_succ] at ha'
          subst ha'
          refine AnyC.turn (i := 15) (k := 0) (d := none) (v := undef) rfl rfl (by kernel_rfl) (by kernel_rfl) (StepsL.levStore rfl rfl (by kernel_rfl) (by go_simp)) ?_
          intro a' ha'
          simp only [Act.put] at ha'
          subst ha'
          refine AnyC.next (i := 16) (d := some 103) (v := .pointer (some ⟨Z, i, none⟩)) rfl rfl (by kernel_rfl) (by kernel_rfl) (by kernel_rfl) (by kernel_rfl) (fun k => StepsIf.yield (by kernel_rfl) (fun w' hS => by clear hS; go_simp)) ?_
          intro a' ha'
          simp only [Act.put, List.setIfInBounds_toArray, List.set_cons_zero, List.set_cons_succ] at ha'
          subst ha'
          refine AnyC.turn (i := 17) (k := 1) (d := none) (v := undef) rfl rfl (by kernel_rfl) (by kernel_rfl) (StepsL.levStore rfl rfl (by kernel_rfl) (by go_simp)) ?_
          intro a' ha'
          simp only [Act.put] at ha'
          subst ha'
          refine AnyC.done (k := 2) (by kernel_rfl) (by kernel_rfl) (fun w' hS => ?_) _
          obtain rfl := hS.is rfl
          have b2 := (HRD.out 2 _ rfl).2.2.2
          obtain ⟨c2, cq, iq⟩ := b2
          clear HRD z1 z2 z3 z4 ct cz fT fZ
          have ct := ct3
          clear ct3
          have cz := HS3.out.is i hlt
          rw [if_pos rfl] at cz
          obtain ⟨fT, fZ⟩ := HS3.out.fr i
          obtain ⟨hTl, hZl⟩ := HS3.out.lt
          generalize (wa.drew.setCell ⟨T, i, none⟩ (.slice va P.length vc)).setCell ⟨Z, i, none⟩ (.bool bp) = wb at *
          have HSAME := Lib.hid (show ∀ W, Below wb.heap.size wb W → wdL l i = P → wdI l i = bp → WdS l.length T Z (pL l (i + 1)) (pI l (i + 1)) W from fun W hb e1 e2 => (HS3.out.below hb).congr (fun x _ => by
            by_cases hx : x = i
            · rw [if_pos hx, hx, (p_at l i).1, e1]
            · rw [if_neg hx]; exact (p_ne l i x hx).1) (fun x _ => by
            by_cases hx : x = i
            · rw [if_pos hx, hx, (p_at l i).2, e2]
            · rw [if_neg hx]; exact (p_ne l i x hx).2))
          have HPUT := Lib.hid (show ∀ W, Below wb.heap.size wb W → wdL l i = Q → wdI l i = true → WdS l.length T Z (pL l (i + 1)) (pI l (i + 1)) ((W.setCell ⟨T, i, none⟩ (.slice ua Q.length uc)).setCell ⟨Z, i, none⟩ (.bool true)) from fun W hb e1 e2 => pw_both (HS3.out.below hb) (fun x hx => if_neg hx) (fun x hx => if_neg hx) (by rw [e1]; exact HRU3.out.below hb) true e2)
          have HBP := Lib.hid (fun W (hb : Below wb.heap.size wb W) => below_set2 (HB3.out.trans (hb.mono HB3.out.size)) hT1 hZ1 i (.slice ua Q.length uc) (.bool true))
          have HBT := Lib.hid (show ∀ W, W = wb.drew → Calls Tryd.prog 21 #[.slice ua Q.length uc, .slice va P.length vc] W fun e w' => e = .returned (.bool (btr Q P)) ∧ W = w' from fun W hW => by
            rw [hW]
            exact rbetter_calls Q P h256q h256p _ _ _ (HRU3.out.below (Below.refl _ _).drew) (HRV3.out.below (Below.refl _ _).drew))
          clear HS3 HRU3 HRV3 h256p h256q
          cases bq
          case false =>
            have HF := Lib.hid (fun n => HSAME.out (wb.drewN n) (below_drN (Below.refl _ _) n) (by rw [HWE.out.2]; exact if_neg (by simp)) (by rw [HWE.out.1, Bool.or_false]))
            go_upto_region 23 with fail
            go_quiet (fail)
            go_wp2_with fail
            go_roundw
            case rel => exact ⟨i + 1, by omega, by simp, HF.out _, below_drN HB3.out _⟩
            case measure => simp [intOf]; omega
          case true =>
            cases bp
            case false =>
              have HF := Lib.hid (fun n => HPUT.out (wb.drewN n) (below_drN (Below.refl _ _) n) (by rw [HWE.out.2]; exact if_pos ⟨rfl, .inl rfl⟩) (by rw [HWE.out.1] <;> rfl))
              go_upto_region 23 with fail
              go_quiet (fail)
              go_wp2_with fail
              go_roundw
              case rel => exact ⟨i + 1, by omega, by simp, HF.out _, HBP.out _ (below_drN (Below.refl _ _) _)⟩
              case measure => simp [intOf]; omega
            case true =>
              have hwe := HWE.out.2
              have hwi := HWE.out.1
              obtain ⟨bt, hbt⟩ : ∃ bt, btr Q P = bt := ⟨_, rfl⟩
              rw [hbt] at HBT hwe
              have HWE2 := Lib.hid (And.intro hwi hwe)
              clear hbt hwe hwi HWE
              go_upto_region 23 with fail
              refine region_steps (S := fun W => W = wb.drew) (by kernel_rfl) rfl ?_
              simp only [List.size_toArray, List.length_cons, List.length_nil, Nat.reduceAdd, Array.replicate_succ, Array.replicate_zero, List.push_toArray, List.nil_append, List.cons_append]
              refine AnyS.next (i := 0) (d := some 104) (v := .slice (some ⟨Z, 0, none⟩) l.length l.length) rfl rfl (by kernel_rfl) (by kernel_rfl) (by kernel_rfl) (StepsIf.yield (by kernel_rfl) (fun w' hS => by clear hS; go_simp)) ?_
              intro a' ha'
              simp only [Act.put, List.setIfInBounds_toArray, List.set_cons_zero, List.set_cons_succ] at ha'
              subst ha'
              refine AnyS.next (i := 1) (d := some 105) (v := .pointer (some ⟨X, 2, none⟩)) rfl rfl (by kernel_rfl) (by kernel_rfl) (by kernel_rfl) (StepsIf.yield (by kernel_rfl) (fun w' hS => by clear hS; go_simp)) ?_
              intro a' ha'
              simp only [Act.put, List.setIfInBounds_toArray, List.set_cons_zero, List.set_cons_succ] at ha'
              subst ha'
              refine AnyS.next (i := 2) (d := some 106) (v := .int .i64 (q : Nat)) rfl rfl (by kernel_rfl) (by kernel_rfl) (by kernel_rfl) (StepsIf.yield (by kernel_rfl) (fun w' hS => by rw [hS]; clear hS; go_simp)) ?_
              intro a' ha'
              simp only [Act.put, List.setIfInBounds_toArray, List.set_cons_zero, List.set_cons_succ] at ha'
              subst ha'
              refine AnyS.next (i := 3) (d := some 107) (v := .pointer (some ⟨Z, q, none⟩)) rfl rfl (by kernel_rfl) (by kernel_rfl) (by kernel_rfl) (StepsIf.yield (by kernel_rfl) (fun w' hS => by clear hS; go_simp)) ?_
              intro a' ha'
              simp only [Act.put, List.setIfInBounds_toArray, List.set_cons_zero, List.set_cons_succ] at ha'
              subst ha'
              refine AnyS.next (i := 4) (d := some 108) (v := .bool true) rfl rfl (by kernel_rfl) (by kernel_rfl) (by kernel_rfl) (StepsIf.yield (by kernel_rfl) (fun w' hS => by rw [hS]; clear hS; go_simp)) ?_
              intro a' ha'
              simp only [Act.put, List.setIfInBounds_toArray, List.set_cons_zero, List.set_cons_succ] at ha'
              subst ha'
              refine AnyS.next (i := 5) (d := some 109) (v := .bool true) rfl rfl (by kernel_rfl) (by kernel_rfl) (by kernel_rfl) (StepsIf.yield (by kernel_rfl) (fun w' hS => by clear hS; go_simp)) ?_
              intro a' ha'
              simp only [Act.put, List.setIfInBounds_toArray, List.set_cons_zero, List.set_cons_succ] at ha'
              subst ha'
              refine AnyS.next (i := 6) (d := some 110) (v := .slice (some ⟨Z, 0, none⟩) l.length l.length) rfl rfl (by kernel_rfl) (by kernel_rfl) (by kernel_rfl) (StepsIf.yield (by kernel_rfl) (fun w' hS => by clear hS; go_simp)) ?_
              intro a' ha'
              simp only [Act.put, List.setIfInBounds_toArray, List.set_cons_zero, List.set_cons_succ] at ha'
              subst ha'
              refine AnyS.next (i := 7) (d := some 111) (v := .int .i64 (i : Nat)) rfl rfl (by kernel_rfl) (by kernel_rfl) (by kernel_rfl) (StepsIf.yield (by kernel_rfl) (fun w' hS => by clear hS; go_simp)) ?_
              intro a' ha'
              simp only [Act.put, List.setIfInBounds_toArray, List.set_cons_zero, List.set_cons_succ] at ha'
              subst ha'
              refine AnyS.next (i := 8) (d := some 112) (v := .pointer (some ⟨Z, i, none⟩)) rfl rfl (by kernel_rfl) (by kernel_rfl) (by kernel_rfl) (StepsIf.yield (by kernel_rfl) (fun w' hS => by clear hS; go_simp)) ?_
              intro a' ha'
              simp only [Act.put, List.setIfInBounds_toArray, List.set_cons_zero, List.set_cons_succ] at ha'
              subst ha'
              refine AnyS.next (i := 9) (d := some 113) (v := .bool true) rfl rfl (by kernel_rfl) (by kernel_rfl) (by kernel_rfl) (StepsIf.yield (by kernel_rfl) (fun w' hS => by rw [hS]; clear hS; go_simp)) ?_
              intro a' ha'
              simp only [Act.put, List.setIfInBounds_toArray, List.set_cons_zero, List.set_cons_succ] at ha'
              subst ha'
              refine AnyS.next (i := 10) (d := some 114) (v := .bool false) rfl rfl (by kernel_rfl) (by kernel_rfl) (by kernel_rfl) (StepsIf.yield (by kernel_rfl) (fun w' hS => by clear hS; go_simp)) ?_
              intro a' ha'
              simp only [Act.put, List.setIfInBounds_toArray, List.set_cons_zero, List.set_cons_succ] at ha'
              subst ha'
              refine AnyS.next (i := 11) (d := some 115) (v := .bool false) rfl rfl (by kernel_rfl) (by kernel_rfl) (by kernel_rfl) (StepsIf.yield (by kernel_rfl) (fun w' hS => by clear hS; go_simp)) ?_
              intro a' ha'
              simp only [Act.put, List.setIfInBounds_toArray, List.set_cons_zero, List.set_cons_succ] at ha'
              subst ha'
              refine AnyS.next (i := 12) (d := some 116) (v := .slice (some ⟨T, 0, none⟩) l.length l.length) rfl rfl (by kernel_rfl) (by kernel_rfl) (by kernel_rfl) (StepsIf.yield (by kernel_rfl) (fun w' hS => by clear hS; go_simp)) ?_
              intro a' ha'
              simp only [Act.put, List.setIfInBounds_toArray, List.set_cons_zero, List.set_cons_succ] at ha'
              subst ha'
              refine AnyS.next (i := 13) (d := some 117) (v := .pointer (some ⟨X, 2, none⟩)) rfl rfl (by kernel_rfl) (by kernel_rfl) (by kernel_rfl) (StepsIf.yield (by kernel_rfl) (fun w' hS => by clear hS; go_simp)) ?_
              intro a' ha'
              simp only [Act.put, List.setIfInBounds_toArray, List.set_cons_zero, List.set_cons_succ] at ha'
              subst ha'
              refine AnyS.next (i := 14) (d := some 118) (v := .int .i64 (q : Nat)) rfl rfl (by kernel_rfl) (by kernel_rfl) (by kernel_rfl) (StepsIf.yield (by kernel_rfl) (fun w' hS => by rw [hS]; clear hS; go_simp)) ?_
              intro a' ha'
              simp only [Act.put, List.setIfInBounds_toArray, List.set_cons_zero, List.set_cons_succ] at ha'
              subst ha'
              refine AnyS.next (i := 15) (d := some 119) (v := .pointer (some ⟨T, q, none⟩)) rfl rfl (by kernel_rfl) (by kernel_rfl) (by kernel_rfl) (StepsIf.yield (by kernel_rfl) (fun w' hS => by clear hS; go_simp)) ?_
              intro a' ha'
              simp only [Act.put, List.setIfInBounds_toArray, List.set_cons_zero, List.set_cons_succ] at ha'
              subst ha'
              refine AnyS.next (i := 16) (d := some 120) (v := .slice ua Q.length uc) rfl rfl (by kernel_rfl) (by kernel_rfl) (by kernel_rfl) (StepsIf.yield (by kernel_rfl) (fun w' hS => by rw [hS]; clear hS; go_simp)) ?_
              intro a' ha'
              simp only [Act.put, List.setIfInBounds_toArray, List.set_cons_zero, List.set_cons_succ] at ha'
              subst ha'
              refine AnyS.next (i := 17) (d := some 121) (v := .slice (some ⟨T, 0, none⟩) l.length l.length) rfl rfl (by kernel_rfl) (by kernel_rfl) (by kernel_rfl) (StepsIf.yield (by kernel_rfl) (fun w' hS => by clear hS; go_simp)) ?_
              intro a' ha'
              simp only [Act.put, List.setIfInBounds_toArray, List.set_cons_zero, List.set_cons_succ] at ha'
              subst ha'
              refine AnyS.next (i := 18) (d := some 122) (v := .int .i64 (i : Nat)) rfl rfl (by kernel_rfl) (by kernel_rfl) (by kernel_rfl) (StepsIf.yield (by kernel_rfl) (fun w' hS => by clear hS; go_simp)) ?_
              intro a' ha'
              simp only [Act.put, List.setIfInBounds_toArray, List.set_cons_zero, List.set_cons_succ] at ha'
              subst ha'
              refine AnyS.next (i := 19) (d := some 123) (v := .pointer (some ⟨T, i, none⟩)) rfl rfl (by kernel_rfl) (by kernel_rfl) (by kernel_rfl) (StepsIf.yield (by kernel_rfl) (fun w' hS => by clear hS; go_simp)) ?_
              intro a' ha'
              simp only [Act.put, List.setIfInBounds_toArray, List.set_cons_zero, List.set_cons_succ] at ha'
              subst ha'
              refine AnyS.next (i := 20) (d := some 124) (v := .slice va P.length vc) rfl rfl (by kernel_rfl) (by kernel_rfl) (by kernel_rfl) (StepsIf.yield (by kernel_rfl) (fun w' hS => by rw [hS]; clear hS; go_simp)) ?_
              intro a' ha'
              simp only [Act.put, List.setIfInBounds_toArray, List.set_cons_zero, List.set_cons_succ] at ha'
              subst ha'
              refine AnyS.next (i := 21) (d := some 125) (v := .bool bt) rfl rfl (by kernel_rfl) (by kernel_rfl) (by kernel_rfl) (StepsIf.call (by kernel_rfl) (fun w' hS => by clear hS; go_simp) (fun w' hS => (HBT.out w' hS).mono fun e w'' h => ⟨h.1, h.2 ▸ hS⟩)) ?_
              intro a' ha'
              simp only [Act.put, List.setIfInBounds_toArray, List.set_cons_zero, List.set_cons_succ] at ha'
              subst ha'
              refine AnyS.next (i := 22) (d := some 126) (v := .bool bt) rfl rfl (by kernel_rfl) (by kernel_rfl) (by kernel_rfl) (StepsIf.yield (by kernel_rfl) (fun w' hS => by clear hS; go_simp)) ?_
              intro a' ha'
              simp only [Act.put, List.setIfInBounds_toArray, List.set_cons_zero, List.set_cons_succ] at ha'
              subst ha'
              refine AnyS.next (i := 23) (d := some 127) (v := .bool bt) rfl rfl (by kernel_rfl) (by kernel_rfl) (by kernel_rfl) (StepsIf.yield (by kernel_rfl) (fun w' hS => by clear hS; go_simp)) ?_
              intro a' ha'
              simp only [Act.put, List.setIfInBounds_toArray, List.set_cons_zero, List.set_cons_succ] at ha'
              subst ha'
              refine AnyS.done (by kernel_rfl) (fun w6 hS => ?_) _
              subst hS
              clear HBT
              cases bt
              case false =>
                have HF := Lib.hid (HSAME.out wb.drew (Below.refl _ _).drew (by rw [HWE2.out.2]; exact if_neg (by simp)) (by rw [HWE2.out.1] <;> rfl))
                go_wp2_with fail
                go_roundw
                case rel => exact ⟨i + 1, by omega, by simp, HF.out, HB3.out.drew⟩
                case measure => simp [intOf]; omega
              case true =>
                have HF := Lib.hid (HPUT.out wb.drew (Below.refl _ _).drew (by rw [HWE2.out.2]; exact if_pos ⟨rfl, .inr rfl⟩) (by rw [HWE2.out.1] <;> rfl))
                go_wp2_with fail
                go_roundw
                case rel => exact ⟨i + 1, by omega, by simp, HF.out, HBP.out _ (Below.refl _ _).drew⟩
                case measure => simp [intOf]; omega
    · obtain rfl : i = l.length := by omega
      have hn1 : IntKind.i64.wrap ((l.length : Int) - 1) = ((l.length - 1 : Nat) : Int) := by rw [IntWalk.i64_in _ (by omega)]; omega
      have hlz := hS.lt
      obtain ⟨v, cv, rv⟩ := hS.cell (l.length - 1) (by omega)
      have iv := hS.is (l.length - 1) (by omega)
      rw [pL, if_pos (by omega), ← HU.out.1] at rv
      rw [pI, if_pos (by omega), ← HU.out.2] at iv
      have hwl := HWL.out (l.length - 1) (by omega)
      rw [← HU.out.1] at hwl
      have hmI : ((l.length - 1 : Nat) : Int) < (l.length : Int) := by omega
      have hmd : decide (l.length - 1 < l.length) = true := decide_eq_true (by omega)
      generalize l.length - 1 = m at *
      have hBE : Below wr.heap.size wr (wr.drew.alloc (.cells #[] 5)) := ((Below.refl wr.heap.size wr).drew).alloc (Nat.le_refl _) _
      have hOE := OwB.empty wr.drew wr.heap.size (Nat.le_refl _)
      obtain ⟨v7, W7, hr7, ho7, hg7⟩ := run_app hOE (rv.below hBE) (by simp; omega) hBE.size 30
      have hB7 := hBE.grown hg7 hBE.size (fun k hk => (World.ownsRow.lt hOE k hk).1)
      rw [List.nil_append] at ho7
      have HO := Lib.hid ho7.row
      have HBZ := Lib.hid (HBW.out.trans ((hB.trans (hB7.mono hB.size)).mono HBW.out.size))
      obtain ⟨va, vc, rfl⟩ := rv.form
      obtain ⟨L, hL⟩ : ∃ L, wordL l = L := ⟨_, rfl⟩
      obtain ⟨I, hI⟩ : ∃ I, wordI l = I := ⟨_, rfl⟩
      have HLL := Lib.hid hL
      have HII := Lib.hid hI
      rw [hL] at cv hr7 HO
      rw [hI] at iv
      clear hL hI
      have HRD := Lib.hid (show ∀ k W, lvl [wr.drew, wr.drew.alloc (.cells #[] 5), W7] k W → W.cell? ⟨T, m, none⟩ = some (.slice va L.length vc) ∧ W.cell? ⟨Z, m, none⟩ = some (.bool I) from fun k W hW => by
        have hm := hW.mem
        have key : ∀ W, Below wr.heap.size wr W → W.cell? ⟨T, m, none⟩ = some (.slice va L.length vc) ∧ W.cell? ⟨Z, m, none⟩ = some (.bool I) := fun W hb => ⟨(hb.cell (p := ⟨T, m, none⟩) hlz.1).trans cv, (hb.cell (p := ⟨Z, m, none⟩) hlz.2).trans iv⟩
        simp only [List.mem_cons, List.not_mem_nil, or_false] at hm
        rcases hm with rfl | rfl | rfl
        · exact key _ (Below.refl wr.heap.size wr).drew
        · exact key _ hBE
        · exact key _ hB7)
      clear hBE hOE ho7 hg7 hB7 hS hB rv
      go_upto_region 28 with fail
      clear cv iv
      refine region_stepsC (S := lvl [wr.drew, wr.drew.alloc (.cells #[] 5), W7]) [0, 7] (by kernel_rfl) (by kernel_rfl) rfl ?_
      simp only [List.size_toArray, List.length_cons, List.length_nil, Nat.reduceAdd, Array.replicate_succ, Array.replicate_zero, List.push_toArray, List.nil_append, List.cons_append]
      refine AnyC.next (i := 1) (d := some 159) (v := .slice (some ⟨T, 0, none⟩) l.length l.length) rfl rfl (by kernel_rfl) (by kernel_rfl) (by kernel_rfl) (by kernel_rfl) (fun k => StepsIf.yield (by kernel_rfl) (fun w' hS => by clear hS; go_simp)) ?_
      intro a' ha'
      simp only [Act.put, List.setIfInBounds_toArray, List.set_cons_zero, List.set_cons_succ] at ha'
      subst ha'
      refine AnyC.next (i := 2) (d := some 160) (v := .slice a l.length cap) rfl rfl (by kernel_rfl) (by kernel_rfl) (by kernel_rfl) (by kernel_rfl) (fun k => StepsIf.yield (by kernel_rfl) (fun w' hS => by clear hS; go_simp)) ?_
      intro a' ha'
      simp only [Act.put, List.setIfInBounds_toArray, List.set_cons_zero, List.set_cons_succ] at ha'
      subst ha'
      refine AnyC.next (i := 3) (d := some 161) (v := .int .i64 (l.length : Nat)) rfl rfl (by kernel_rfl) (by kernel_rfl) (by kernel_rfl) (by kernel_rfl) (fun k => StepsIf.yield (by kernel_rfl) (fun w' hS => by clear hS; go_simp)) ?_
      intro a' ha'
      simp only [Act.put, List.setIfInBounds_toArray, List.set_cons_zero, List.set_cons_succ] at ha'
      subst ha'
      refine AnyC.next (i := 4) (d := some 162) (v := .int .i64 (m : Nat)) rfl rfl (by kernel_rfl) (by kernel_rfl) (by kernel_rfl) (by kernel_rfl) (fun k => StepsIf.yield (by kernel_rfl) (fun w' hS => by clear hS; go_simp)) ?_
      intro a' ha'
      simp only [Act.put, List.setIfInBounds_toArray, List.set_cons_zero, List.set_cons_succ] at ha'
      subst ha'
      refine AnyC.next (i := 5) (d := some 163) (v := .pointer (some ⟨T, m, none⟩)) rfl rfl (by kernel_rfl) (by kernel_rfl) (by kernel_rfl) (by kernel_rfl) (fun k => StepsIf.yield (by kernel_rfl) (fun w' hS => by clear hS; go_simp)) ?_
      intro a' ha'
      simp only [Act.put, List.setIfInBounds_toArray, List.set_cons_zero, List.set_cons_succ] at ha'
      subst ha'
      refine AnyC.next (i := 6) (d := some 164) (v := .slice va L.length vc) rfl rfl (by kernel_rfl) (by kernel_rfl) (by kernel_rfl) (by kernel_rfl) (fun k => StepsIf.yield (by kernel_rfl) (fun w' hS => by obtain ⟨s1, s2⟩ := HRD.out k w' hS; clear hS; go_simp)) ?_
      intro a' ha'
      simp only [Act.put, List.setIfInBounds_toArray, List.set_cons_zero, List.set_cons_succ] at ha'
      subst ha'
      refine AnyC.next (i := 8) (d := some 166) (v := .slice (some ⟨Z, 0, none⟩) l.length l.length) rfl rfl (by kernel_rfl) (by kernel_rfl) (by kernel_rfl) (by kernel_rfl) (fun k => StepsIf.yield (by kernel_rfl) (fun w' hS => by clear hS; go_simp)) ?_
      intro a' ha'
      simp only [Act.put, List.setIfInBounds_toArray, List.set_cons_zero, List.set_cons_succ] at ha'
      subst ha'
      refine AnyC.next (i := 9) (d := some 167) (v := .slice a l.length cap) rfl rfl (by kernel_rfl) (by kernel_rfl) (by kernel_rfl) (by kernel_rfl) (fun k => StepsIf.yield (by kernel_rfl) (fun w' hS => by clear hS; go_simp)) ?_
      intro a' ha'
      simp only [Act.put, List.setIfInBounds_toArray, List.set_cons_zero, List.set_cons_succ] at ha'
      subst ha'
      refine AnyC.next (i := 10) (d := some 168) (v := .int .i64 (l.length : Nat)) rfl rfl (by kernel_rfl) (by kernel_rfl) (by kernel_rfl) (by kernel_rfl) (fun k => StepsIf.yield (by kernel_rfl) (fun w' hS => by clear hS; go_simp)) ?_
      intro a' ha'
      simp only [Act.put, List.setIfInBounds_toArray, List.set_cons_zero, List.set_cons_succ] at ha'
      subst ha'
      refine AnyC.next (i := 11) (d := some 169) (v := .int .i64 (m : Nat)) rfl rfl (by kernel_rfl) (by kernel_rfl) (by kernel_rfl) (by kernel_rfl) (fun k => StepsIf.yield (by kernel_rfl) (fun w' hS => by clear hS; go_simp)) ?_
      intro a' ha'
      simp only [Act.put, List.setIfInBounds_toArray, List.set_cons_zero, List.set_cons_succ] at ha'
      subst ha'
      refine AnyC.next (i := 12) (d := some 170) (v := .pointer (some ⟨Z, m, none⟩)) rfl rfl (by kernel_rfl) (by kernel_rfl) (by kernel_rfl) (by kernel_rfl) (fun k => StepsIf.yield (by kernel_rfl) (fun w' hS => by clear hS; go_simp)) ?_
      intro a' ha'
      simp only [Act.put, List.setIfInBounds_toArray, List.set_cons_zero, List.set_cons_succ] at ha'
      subst ha'
      refine AnyC.next (i := 13) (d := some 171) (v := .bool I) rfl rfl (by kernel_rfl) (by kernel_rfl) (by kernel_rfl) (by kernel_rfl) (fun k => StepsIf.yield (by kernel_rfl) (fun w' hS => by obtain ⟨s1, s2⟩ := HRD.out k w' hS; clear hS; go_simp)) ?_
      intro a' ha'
      simp only [Act.put, List.setIfInBounds_toArray, List.set_cons_zero, List.set_cons_succ] at ha'
      subst ha'
      refine AnyC.turn (i := 0) (k := 0) (d := some 158) (v := .slice (some ⟨wr.heap.size, 0, none⟩) 0 0) rfl rfl (by kernel_rfl) (by kernel_rfl) (StepsL.lev rfl rfl (by kernel_rfl) (by go_simp)) ?_
      intro a' ha'
      simp only [Act.put, List.setIfInBounds_toArray, List.set_cons_zero, List.set_cons_succ] at ha'
      subst ha'
      refine AnyC.turn (i := 7) (k := 1) (d := some 165) (v := v7) rfl rfl (by kernel_rfl) (by kernel_rfl) (StepsL.lev rfl rfl (by kernel_rfl) (exec_app rfl rfl rfl hr7)) ?_
      intro a' ha'
      simp only [Act.put, List.setIfInBounds_toArray, List.set_cons_zero, List.set_cons_succ] at ha'
      subst ha'
      refine AnyC.next (i := 14) (d := some 2) (v := v7) rfl rfl (by kernel_rfl) (by kernel_rfl) (by kernel_rfl) (by kernel_rfl) (fun k => StepsIf.yield (by kernel_rfl) (fun w' hS => by clear hS; go_simp)) ?_
      intro a' ha'
      simp only [Act.put, List.setIfInBounds_toArray, List.set_cons_zero, List.set_cons_succ] at ha'
      subst ha'
      refine AnyC.next (i := 15) (d := some 3) (v := .bool I) rfl rfl (by kernel_rfl) (by kernel_rfl) (by kernel_rfl) (by kernel_rfl) (fun k => StepsIf.yield (by kernel_rfl) (fun w' hS => by clear hS; go_simp)) ?_
      intro a' ha'
      simp only [Act.put, List.setIfInBounds_toArray, List.set_cons_zero, List.set_cons_succ] at ha'
      subst ha'
      refine AnyC.done (k := 2) (by kernel_rfl) (by kernel_rfl) (fun w' hS => ?_) _
      obtain rfl := hS.is rfl
      clear HRD
      go_wp2_with fail
      exact bodyPost_ret (v := .tuple #[v7, .bool I]) (by simp [results, Tryd.results13, go_sem]) rfl ⟨_, by rw [HII.out], by rw [HLL.out]; exact HO.out, HBZ.out⟩
end Go.Proofs.YtajlcaconnkodaaDoor

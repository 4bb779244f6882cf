/- Texts put together: Ti Tj. -/
import Derived.Test.YtpncomjpmilbkaaDoorPO
import Derived.Test.YtpncomjpmilbkaaDoorPI
import Derived.RegionTactic
import Derived.BigRegion
/- The document's terms of trees: Null. Stage 11. -/
namespace Go.Proofs.YtpncomjpmilbkaaDoor
open Go.RowKit BS

def nI (l : List NdN) (i x : Nat) : Bool := if x < i then nulV l x else false
theorem boolZ_get (n k : Nat) (h : k < n) : (madeCells #[Value.bool false] n)[k]? = some (.bool false) := by
  unfold madeCells
  rw [Array.getElem?_map, Array.getElem?_range, if_pos h]
  show some (#[Value.bool false][k % 1]!) = _
  rw [Nat.mod_one]
  rfl
theorem kids_le (l : List NdN) (i : Int) : (kidsR l i).length ≤ l.length := by
  by_cases hc : manyF 0 (l.map NdN.kids) = some 1 ∧ 0 ≤ i ∧ i < (l.length : Int)
  · obtain ⟨A, hA, _, _, hk⟩ := kids_row l hc.1 i.toNat (by omega)
    rw [show ((i.toNat : Nat) : Int) = i by omega] at hA hk
    have : ∀ k, k ≤ (kidsR l i).length → k ≤ A k := fun k => by
      induction k with
      | zero => intro _; exact Nat.zero_le _
      | succ k ih => intro h; have h1 := ih (by omega); have h2 := (hk k (by omega)).1; omega
    have h1 := this _ (Nat.le_refl _)
    omega
  · unfold kidsR; rw [if_neg hc]; simp
set_option maxRecDepth 100000 in
set_option maxHeartbeats 32000000 in
theorem rNull_calls (l : List NdN) (hl : l.length ≤ 1000) (a : Option Addr) (cap : Nat) (w : World) (h : NodesAt l a w) :
    Calls Tryd.prog 9 #[.slice a l.length cap] w fun e w' => ∃ b c, e = .returned (.slice b (nullsR l).length c) ∧ BoolsB w.heap.size (nullsR l) b w' ∧ Below w.heap.size w w' := by
  have HR := Lib.hid (rRight_calls l (by omega) a cap w h)
  have HN := Lib.hid h
  clear h
  cases hr : rightR l with
  | false =>
    rw [hr] at HR
    have HU := Lib.hid (show nullsR l = [] by unfold nullsR; rw [hr]; rfl)
    clear hr
    go_enter Tryd.func9, Tryd.ntmps9
    go_wp2_with fail
    refine HR.out.mono ?_
    rintro e w1 ⟨rfl, hb⟩
    clear HR
    go_wp2_with fail
    go_ret
    exact ⟨none, 0, by rw [HU.out]; rfl, fun h => absurd HU.out h, hb⟩
  | true =>
  rw [hr] at HR
  have hf := right_formed l hr
  have HU := Lib.hid (nullsR_is l hr)
  have hmk := fun W => run_make_row' (P := Tryd.prog) 24 4 (.bool false) 1 Tryd.underlying24 (by kernel_rfl) rfl .i64 .i64 l.length (by omega) (by omega) W
  have hmz : (madeCells #[Value.bool false] l.length).size = l.length := by simp [madeCells]
  have HMZ := Lib.hid (boolZ_get l.length)
  generalize madeCells #[Value.bool false] l.length = vs0 at *
  have HKL := Lib.hid (kid_lt l hf)
  have HST := Lib.hid (nul_step l hf)
  have HND := Lib.hid (node_right l hr)
  have hlp := formed_pos l hf
  clear hr hf
  go_enter Tryd.func9, Tryd.ntmps9
  go_wp2_with fail
  refine HR.out.mono ?_
  rintro e w1 ⟨rfl, hb⟩
  have HN1 := Lib.hid (HN.out.below hb)
  have hS0 := Blk.new w1 vs0 4
  have HBW := Lib.hid hb
  have hz1 := hb.size
  have HW0 := Lib.hid ((Below.refl w1.heap.size w1).alloc (Nat.le_refl _) (.cells vs0 4))
  clear HR hb HN
  go_upto_region 4 with fail
  generalize w1.alloc (.cells vs0 4) = w2 at *
  clear hmk
  go_upto_region 5 with fail
  go_loopw [4] (fun vi wr => ∃ i : Nat, i ≤ l.length ∧ vi = .int .i64 i ∧ (∃ vs : Array Value, vs.size = l.length ∧ (∀ x, x < l.length → vs[x]? = some (.bool (nI l i x))) ∧ Blk wr w1.heap.size vs 4) ∧ Below w1.heap.size w1 wr) (fun vi _ => l.length - (intOf vi).toNat)
  case atStart => exact ⟨0, Nat.zero_le _, rfl, ⟨vs0, hmz, fun x hx => HMZ.out x hx, hS0⟩, HW0.out⟩
  case round =>
    clear hS0 HW0 hmz
    obtain ⟨i, hi, rfl, ⟨us, hus, hno, hS⟩, hB⟩ := hrel
    by_cases hlt : i < l.length
    · have hii : (i : Int) < (l.length : Int) := by omega
      have hd : decide (i < l.length) = true := by rw [decide_eq_true_iff]; omega
      have hdI : decide ((i : Int) < (l.length : Int)) = true := by rw [decide_eq_true_iff]; omega
      have xi : IntKind.i64.wrap ((i : Int) + 1) = (i : Int) + 1 := IntWalk.i64_in _ (by omega)
      have hKC := rKids_calls l (by omega) i a cap wr (HN1.out.below hB)
      have HNO := Lib.hid hno
      have hst := HST.out i hlt
      have hnd := HND.out i hlt
      have hkl := HKL.out i hlt
      have hSb := hS
      have hBb := hB
      clear hno hS hB
      go_wp2_with fail
      refine hKC.mono ?_
      rintro e w3 ⟨bk, ck, rfl, hik, hb⟩
      have hS3 := hSb.below hb hSb.lt
      have hB3 := hBb.trans (hb.mono hBb.size)
      clear hKC hb hSb hBb
      have HKB := Lib.hid (kids_le l i)
      generalize hKd : kidsR l i = K at *
      clear hKd
      go_upto_region 10 with fail
      go_loop [6, 7, 8] (fun va vn vj => ∃ j : Nat, j ≤ K.length ∧ vj = .int .i64 j ∧ va = .bool (allK l (K.take j)) ∧ vn = .bool (anyK l (K.take j))) (fun _ _ vj => K.length - (intOf vj).toNat)
      case atStart => exact ⟨0, Nat.zero_le _, rfl, rfl, rfl⟩
      case round =>
        obtain ⟨j, hj, rfl, rfl, rfl⟩ := hrel
        by_cases hjl : j < K.length
        · have hjd : decide ((j : Int) < (K.length : Int)) = true := by rw [decide_eq_true_iff]; omega
          have hjd2 : decide (j < K.length) = true := decide_eq_true hjl
          have hjI : (j : Int) < (K.length : Int) := by omega
          have hkb := HKB.out
          have xj : IntKind.i64.wrap ((j : Int) + 1) = (j : Int) + 1 := IntWalk.i64_in _ (by omega)
          obtain ⟨gk, rfl, hgk, hck⟩ := hik (by rintro rfl; simp at hjl)
          have ck := hck j hjl
          obtain ⟨hk1, hk2⟩ := hkl K[j] (List.getElem_mem hjl)
          obtain ⟨p, hp⟩ : ∃ p : Nat, K[j] = p := ⟨K[j].toNat, by omega⟩
          have hall := allK_snoc l (K.take j) K[j]
          have hany := anyK_snoc l (K.take j) K[j]
          rw [← List.take_succ_eq_append_getElem hjl, hp, Int.toNat_natCast] at hall hany
          rw [hp] at ck
          have hpi : p < i := by omega
          have hpI : (p : Int) < (l.length : Int) := by omega
          have hpd : decide (p < l.length) = true := by rw [decide_eq_true_iff]; omega
          have cp := (hS3.cell p).trans (HNO.out p (by omega))
          rw [nI, if_pos hpi] at cp
          have HA := Lib.hid hall
          have HY := Lib.hid hany
          clear hall hany hck hk1 hk2 hp
          generalize allK l (K.take j) = A at *
          generalize anyK l (K.take j) = Y at *
          generalize nulV l p = v at *
          cases A <;> cases Y
          all_goals
            go_wp2_with fail
            go_round
            case rel => exact ⟨j + 1, by omega, by simp, by rw [HA.out] <;> rfl, by rw [HY.out] <;> rfl⟩
            case measure => simp [intOf]; omega
        · obtain rfl : j = K.length := by omega
          have hjd : decide ((K.length : Int) < (K.length : Int)) = false := by simp
          rw [List.take_of_length_le (Nat.le_refl _)]
          generalize allK l K = A at *
          generalize anyK l K = Y at *
          obtain ⟨g, off, rfl, hg, hc⟩ := (HN1.out.below hB3) (by rintro rfl; simp at hlt)
          have d0 := hc i hlt 0 (by decide)
          have d2 := hc i hlt 2 (by decide)
          have d3 := hc i hlt 3 (by decide)
          simp only [ndA, List.getElem?_toArray, List.getElem?_cons_zero, List.getElem?_cons_succ, Nat.add_zero] at d0 d2 d3
          obtain ⟨old, hold⟩ : ∃ old, us[i]? = some old := ⟨us[i]'(by omega), by simp [show i < us.size by omega]⟩
          have ci := (hS3.cell i).trans hold
          have fi := hS3.frozen i
          have hS4 : ∀ v, v = nulV l i → ∃ vs : Array Value, vs.size = l.length ∧ (∀ x, x < l.length → vs[x]? = some (.bool (nI l (i + 1) x))) ∧ Blk (w3.setCell ⟨w1.heap.size, i, none⟩ (.bool v)) w1.heap.size vs 4 := fun v hv =>
            ⟨us.setIfInBounds i (.bool v), by simp [hus], fun x hx => by
              unfold nI
              by_cases hxi : x = i
              · subst hxi; rw [hv, if_pos (by omega)]; simp [hus, hlt]
              · rw [Array.getElem?_setIfInBounds_ne (Ne.symm hxi), HNO.out x hx]
                unfold nI
                by_cases h1 : x < i
                · rw [if_pos h1, if_pos (by omega)]
                · rw [if_neg h1, if_neg (by omega)], hS3.set i _⟩
          have hS5 : nulV l i = false → ∃ vs : Array Value, vs.size = l.length ∧ (∀ x, x < l.length → vs[x]? = some (.bool (nI l (i + 1) x))) ∧ Blk w3 w1.heap.size vs 4 := fun hv =>
            ⟨us, hus, fun x hx => by
              rw [HNO.out x hx]
              unfold nI
              by_cases h1 : x < i
              · rw [if_pos h1, if_pos (by omega)]
              · rw [if_neg h1]
                by_cases hxi : x = i
                · subst hxi; rw [if_pos (by omega), hv]
                · rw [if_neg (by omega)], hS3⟩
          have HS5 := Lib.hid hS5
          have HB5 := Lib.hid hB3
          have HS4 := Lib.hid hS4
          have HB4 := Lib.hid (fun v => below_set hB3 (Nat.le_refl _) i (.bool v))
          clear hS4 hS5 hS3 hB3 hc hold hik hkl HNO
          generalize l[i] = x at *
          obtain ⟨k, kc, kn, km, t⟩ := x
          simp only at d0 d2 d3 hnd
          have HV := Lib.hid hst
          clear hst
          unfold nlE at HV
          rcases hnd with ⟨rfl, _⟩ | ⟨rfl, _⟩ | ⟨_, rfl, _, _⟩ | ⟨_, rfl, _, _, _⟩ | ⟨rfl | rfl, _⟩
          · go_wp2_with fail
            go_roundw
            case rel => exact ⟨i + 1, by omega, by simp, HS4.out true (by rw [HV.out]; rfl), HB4.out true⟩
            case measure => simp [intOf]; omega
          · go_wp2_with fail
            go_roundw
            case rel => exact ⟨i + 1, by omega, by simp, HS5.out (by rw [HV.out]; rfl), HB5.out⟩
            case measure => simp [intOf]; omega
          · go_wp2_with fail
            go_roundw
            case rel => exact ⟨i + 1, by omega, by simp, HS4.out A (by rw [HV.out]; rfl), HB4.out A⟩
            case measure => simp [intOf]; omega
          · by_cases hm0 : km = 0
            · subst hm0
              go_wp2_with fail
              go_roundw
              case rel => exact ⟨i + 1, by omega, by simp, HS4.out true (by rw [HV.out]; rfl), HB4.out true⟩
              case measure => simp [intOf]; omega
            · have qm : (km == 0) = false := by rw [beq_eq_false_iff_ne]; exact hm0
              by_cases hn0 : kn = 0
              · subst hn0
                go_wp2_with fail
                go_roundw
                case rel => exact ⟨i + 1, by omega, by simp, HS4.out true (by rw [HV.out]; simp), HB4.out true⟩
                case measure => simp [intOf]; omega
              · have qn : (kn == 0) = false := by rw [beq_eq_false_iff_ne]; exact hn0
                go_wp2_with fail
                go_roundw
                case rel => exact ⟨i + 1, by omega, by simp, HS4.out A (by rw [HV.out]; simp only [qm, qn]; rfl), HB4.out A⟩
                case measure => simp [intOf]; omega
          · go_wp2_with fail
            go_roundw
            case rel => exact ⟨i + 1, by omega, by simp, HS4.out A (by rw [HV.out]; rfl), HB4.out A⟩
            case measure => simp [intOf]; omega
          · go_wp2_with fail
            go_roundw
            case rel => exact ⟨i + 1, by omega, by simp, HS4.out Y (by rw [HV.out]; rfl), HB4.out Y⟩
            case measure => simp [intOf]; omega
    · obtain rfl : i = l.length := by omega
      have hdI : decide ((l.length : Int) < (l.length : Int)) = false := by simp
      have HLL := Lib.hid (show (nullsR l).length = l.length by rw [HU.out]; simp)
      have HI := Lib.hid (show BoolsB w.heap.size (nullsR l) (some ⟨w1.heap.size, 0, none⟩) wr from fun _ => ⟨w1.heap.size, 0, rfl, hz1, hS.lt, fun j hj => by
        have hj2 : j < l.length := by rw [HLL.out] at hj; exact hj
        rw [Nat.zero_add, hS.cell j, hno j hj2, nI, if_pos hj2]
        simp only [HU.out, List.getElem_map, List.getElem_range]⟩)
      have HB := Lib.hid hB
      clear hS hB hno
      go_wp2_with fail
      go_ret
      exact ⟨some ⟨w1.heap.size, 0, none⟩, l.length, by rw [HLL.out] <;> rfl, HI.out, HBW.out.trans (HB.out.mono hz1)⟩
end Go.Proofs.YtpncomjpmilbkaaDoor

/- The document's terms of trees: Size. Stage 11. -/
namespace Go.Proofs.YtpncomjpmilbkaaDoor
open Go.RowKit BS

theorem alloc2 (w1 : World) (c1 c2 : Array Value) (t1 t2 : TypeId) (W : World) (hW : W = ((w1.alloc (.cells c1 t1)).alloc (.cells c2 t2)).drew) :
    Blk W w1.heap.size c1 t1 ∧ Blk W (w1.heap.size + 1) c2 t2 ∧ Below w1.heap.size w1 W := by
  subst hW
  have b1 := (Blk.new w1 c1 t1).alloc (.cells c2 t2)
  have b2 := Blk.new (w1.alloc (.cells c1 t1)) c2 t2
  rw [World.size_alloc] at b2
  have hb : Below w1.heap.size w1 ((w1.alloc (.cells c1 t1)).alloc (.cells c2 t2)) := by go_grown
  exact ⟨b1, b2, ⟨hb.os, hb.tape, hb.output, hb.size, hb.block⟩⟩
/-- Two rows of numbers, told up to a place. -/
def SzS (n A B : Nat) (f h : Nat → Nat) (i : Nat) (W : World) : Prop := ∃ vs us : Array Value, vs.size = n ∧ us.size = n ∧ (∀ x, x < i → vs[x]? = some (.int .i64 (f x : Nat))) ∧ (∀ x, x < i → us[x]? = some (.int .i64 (h x : Nat))) ∧ Blk W A vs 3 ∧ Blk W B us 3
theorem SzS.below {n A B : Nat} {f h : Nat → Nat} {i : Nat} {W W' : World} (s : SzS n A B f h i W) (hb : Below W.heap.size W W') : SzS n A B f h i W' := by
  obtain ⟨vs, us, a, b, c, d, e, g⟩ := s
  exact ⟨vs, us, a, b, c, d, e.below hb e.lt, g.below hb g.lt⟩
theorem SzS.get {n A B : Nat} {f h : Nat → Nat} {i : Nat} {W : World} (s : SzS n A B f h i W) (x : Nat) (hx : x < i) : W.cell? ⟨A, x, none⟩ = some (.int .i64 (f x : Nat)) ∧ W.cell? ⟨B, x, none⟩ = some (.int .i64 (h x : Nat)) := by
  obtain ⟨vs, us, a, b, c, d, e, g⟩ := s
  exact ⟨(e.cell x).trans (c x hx), (g.cell x).trans (d x hx)⟩
theorem SzS.put {n A B : Nat} {f h : Nat → Nat} {i : Nat} {W : World} (s : SzS n A B f h i W) (hi : i < n) (hAB : A ≠ B) (p q : Nat) (hp : p = f i) (hq : q = h i) :
    (∃ u, W.cell? ⟨A, i, none⟩ = some u) ∧ (∃ u, W.cell? ⟨B, i, none⟩ = some u) ∧ W.frozen? ⟨A, i, none⟩ = false ∧ W.frozen? ⟨B, i, none⟩ = false ∧
    SzS n A B f h (i + 1) ((W.setCell ⟨A, i, none⟩ (.int .i64 (p : Nat))).setCell ⟨B, i, none⟩ (.int .i64 (q : Nat))) := by
  obtain ⟨vs, us, a, b, c, d, e, g⟩ := s
  refine ⟨⟨vs[i]'(by omega), by rw [e.cell]; simp [show i < vs.size by omega]⟩, ⟨us[i]'(by omega), by rw [g.cell]; simp [show i < us.size by omega]⟩, e.frozen i, g.frozen i, vs.setIfInBounds i (.int .i64 (p : Nat)), us.setIfInBounds i (.int .i64 (q : Nat)), by simp [a], by simp [b], fun x hx => ?_, fun x hx => ?_, (e.set i _).other hAB i _, (g.other (Ne.symm hAB) i _).set i _⟩
  · by_cases hxi : x = i
    · subst hxi; rw [hp]; simp [a, hi]
    · rw [Array.getElem?_setIfInBounds_ne (Ne.symm hxi)]; exact c x (by omega)
  · by_cases hxi : x = i
    · subst hxi; rw [hq]; simp [b, hi]
    · rw [Array.getElem?_setIfInBounds_ne (Ne.symm hxi)]; exact d x (by omega)
set_option maxRecDepth 100000 in
set_option maxHeartbeats 64000000 in
theorem rSize_calls (l : List NdN) (hl : l.length ≤ 1000) (a : Option Addr) (cap : Nat) (w : World) (h : NodesAt l a w) :
    Calls Tryd.prog 11 #[.slice a l.length cap] w fun e w' => e = .returned (.tuple #[.int .i64 (sizeN l : Nat), .int .i64 (sizeL l : Nat)]) ∧ Below w.heap.size w w' := by
  have HNU := Lib.hid (rNull_calls l hl a cap w h)
  have HN := Lib.hid h
  clear h
  cases hr : rightR l with
  | false =>
    have hnu : nullsR l = [] := by unfold nullsR; rw [hr]; rfl
    have HZ := Lib.hid (show sizeN l = 0 ∧ sizeL l = 0 from by unfold sizeN sizeL; rw [hr]; exact ⟨rfl, rfl⟩)
    rw [hnu] at HNU
    have hmk := fun W => run_make_row' (P := Tryd.prog) 50 3 (.int .i64 0) 8 Tryd.underlying50 (by kernel_rfl) rfl .i64 .i64 0 (by omega) (by omega) W
    generalize madeCells #[Value.int .i64 0] 0 = vs0 at *
    simp only [Int.natCast_zero] at hmk
    clear hr hnu
    go_enter Tryd.func11, Tryd.ntmps11
    go_wp2_with fail
    refine HNU.out.mono ?_
    rintro e w1 ⟨bn, cn, rfl, _, hb⟩
    have HB := Lib.hid hb
    clear HNU hb
    rw [List.length_nil]
    go_upto_region 2 with fail
    go_cut [5, 6] from 18 to 23 (fun v5 v6 wx => ∃ A B : Nat, v5 = .slice (some ⟨A, 0, none⟩) 0 0 ∧ v6 = .slice (some ⟨B, 0, none⟩) 0 0 ∧ w1.heap.size ≤ A ∧ w1.heap.size ≤ B ∧ A ≠ B ∧ Blk wx A vs0 3 ∧ Blk wx B vs0 3 ∧ Below w1.heap.size w1 wx)
    case first =>
      go_region
      all_goals
        go_wp2_with fail
        go_meet
        obtain ⟨b1, b2, b4⟩ := alloc2 w1 _ _ _ _ _ rfl
        first
          | exact ⟨_, _, rfl, rfl, by omega, by omega, by omega, b1, b2, b4⟩
          | exact ⟨_, _, rfl, rfl, by omega, by omega, by omega, b2, b1, b4⟩
    case rest =>
    obtain ⟨A, B, rfl, rfl, hA1, hB1, hAB, hAb, hBb, hbw⟩ := hcut
    have HB2 := Lib.hid (HB.out.trans (hbw.mono HB.out.size))
    clear hmk hAb hBb hbw HB hA1 hB1 hAB
    go_upto_region 4 with fail
    go_loopw [7] (fun vi wr => vi = .int .i64 0 ∧ wc = wr) (fun _ _ => 0)
    case atStart => exact ⟨rfl, rfl⟩
    case round =>
      obtain ⟨rfl, rfl⟩ := hrel
      go_wp2_with fail
      exact bodyPost_ret (v := .tuple #[.int .i64 0, .int .i64 0]) (by simp [results, Tryd.results11, go_sem]) rfl ⟨by rw [HZ.out.1, HZ.out.2] <;> rfl, HB2.out⟩
  | true =>
  have hf := right_formed l hr
  have hlp := formed_pos l hf
  have hnl : (nullsR l).length = l.length := by rw [nullsR_is l hr]; simp
  have hng : ∀ x (hx : x < (nullsR l).length), (nullsR l)[x] = nulV l x := fun x hx => by simp only [nullsR_is l hr, List.getElem_map, List.getElem_range]
  rw [hnl] at HNU
  have HNL := Lib.hid hnl
  have HNG := Lib.hid hng
  have hmk := fun W => run_make_row' (P := Tryd.prog) 50 3 (.int .i64 0) 8 Tryd.underlying50 (by kernel_rfl) rfl .i64 .i64 l.length (by omega) (by omega) W
  have hmz : (madeCells #[Value.int .i64 0] l.length).size = l.length := by simp [madeCells]
  generalize madeCells #[Value.int .i64 0] l.length = vs0 at *
  have HKL := Lib.hid (kid_lt l hf)
  have HST := Lib.hid (size_step l hr)
  have HND := Lib.hid (node_right l hr)
  have HZ := Lib.hid (show sizeN l = mn (szV l (l.length - 1)) ∧ sizeL l = mn (lvV l (l.length - 1)) from ⟨if_pos hr, if_pos hr⟩)
  clear hr hf hnl hng
  go_enter Tryd.func11, Tryd.ntmps11
  go_wp2_with fail
  refine HNU.out.mono ?_
  rintro e w1 ⟨bn, cn, rfl, hbn, hb⟩
  obtain ⟨gn, on, rfl, _, hgn, hcn⟩ := hbn (by intro h0; have := HNL.out; rw [h0] at this; simp at this; omega)
  have HN1 := Lib.hid (HN.out.below hb)
  have HBW := Lib.hid hb
  have HCN := Lib.hid (show ∀ W, Below w1.heap.size w1 W → ∀ x, x < l.length → W.cell? ⟨gn, on + x, none⟩ = some (.bool (nulV l x)) from fun W hW x hx => by
    have hx2 : x < (nullsR l).length := by rw [HNL.out]; exact hx
    rw [← HNG.out x hx2]
    exact (hW.cell (p := ⟨gn, on + x, none⟩) hgn).trans (hcn x hx2))
  clear HNU hbn hb HN hcn HNL HNG
  go_upto_region 2 with fail
  go_cut [5, 6] from 18 to 23 (fun v5 v6 wx => ∃ A B : Nat, v5 = .slice (some ⟨A, 0, none⟩) l.length l.length ∧ v6 = .slice (some ⟨B, 0, none⟩) l.length l.length ∧ w1.heap.size ≤ A ∧ w1.heap.size ≤ B ∧ A ≠ B ∧ Blk wx A vs0 3 ∧ Blk wx B vs0 3 ∧ Below w1.heap.size w1 wx)
  case first =>
    go_region
    all_goals
      go_wp2_with fail
      go_meet
      obtain ⟨b1, b2, b4⟩ := alloc2 w1 _ _ _ _ _ rfl
      first
        | exact ⟨_, _, rfl, rfl, by omega, by omega, by omega, b1, b2, b4⟩
        | exact ⟨_, _, rfl, rfl, by omega, by omega, by omega, b2, b1, b4⟩
  case rest =>
  obtain ⟨A, B, rfl, rfl, hA1, hB1, hAB, hAb, hBb, hbw⟩ := hcut
  have HS0 := Lib.hid (show SzS l.length A B (fun x => mn (szV l x)) (fun x => mn (lvV l x)) 0 wc from ⟨vs0, vs0, hmz, hmz, fun x hx => by omega, fun x hx => by omega, hAb, hBb⟩)
  have HW0 := Lib.hid hbw
  have hAz := hAb.lt
  have hBz := hBb.lt
  clear hmk hAb hBb hbw hmz
  go_upto_region 4 with fail
  go_loopw [7] (fun vi wr => ∃ i : Nat, i ≤ l.length ∧ vi = .int .i64 i ∧ SzS l.length A B (fun x => mn (szV l x)) (fun x => mn (lvV l x)) i wr ∧ Below w1.heap.size w1 wr) (fun vi _ => l.length - (intOf vi).toNat)
  case atStart => exact ⟨0, Nat.zero_le _, rfl, HS0.out, HW0.out⟩
  case round =>
    clear HS0 HW0
    obtain ⟨i, hi, rfl, hS, hB⟩ := hrel
    by_cases hlt : i < l.length
    · have hii : (i : Int) < (l.length : Int) := by omega
      have hd : decide (i < l.length) = true := by rw [decide_eq_true_iff]; omega
      have hdI : decide ((i : Int) < (l.length : Int)) = true := by rw [decide_eq_true_iff]; omega
      have xi : IntKind.i64.wrap ((i : Int) + 1) = (i : Int) + 1 := IntWalk.i64_in _ (by omega)
      have hKC := rKids_calls l (by omega) i a cap wr (HN1.out.below hB)
      have hst := HST.out i hlt
      have hnd := HND.out i hlt
      have hkl := HKL.out i hlt
      have hKB := kids_le l i
      clear HST HND HKL
      go_wp2_with fail
      refine hKC.mono ?_
      rintro e w3 ⟨bk, ck, rfl, hik, hb⟩
      have hS3 := hS.below hb
      have hB3 := hB.trans (hb.mono hB.size)
      clear hKC hb hS hB
      generalize kidsR l i = K at *
      go_upto_region 9 with fail
      go_loop [9, 10, 11] (fun vn vm vj => ∃ j : Nat, j ≤ K.length ∧ vj = .int .i64 j ∧ vn = .int .i64 (mn (smN (szV l) (K.take j)) : Nat) ∧ vm = .int .i64 (mn (smN (lvV l) (K.take j)) : Nat)) (fun _ _ vj => K.length - (intOf vj).toNat)
      case atStart => exact ⟨0, Nat.zero_le _, rfl, rfl, rfl⟩
      case round =>
        obtain ⟨j, hj, rfl, rfl, rfl⟩ := hrel
        by_cases hjl : j < K.length
        · have hjd : decide ((j : Int) < (K.length : Int)) = true := by rw [decide_eq_true_iff]; omega
          have hjd2 : decide (j < K.length) = true := decide_eq_true hjl
          have hjI : (j : Int) < (K.length : Int) := by omega
          have xj : IntKind.i64.wrap ((j : Int) + 1) = (j : Int) + 1 := IntWalk.i64_in _ (by omega)
          obtain ⟨gk, rfl, hgk, hck⟩ := hik (by rintro rfl; simp at hjl)
          have ckc := hck j hjl
          obtain ⟨hk1, hk2⟩ := hkl K[j] (List.getElem_mem hjl)
          obtain ⟨p, hp⟩ : ∃ p : Nat, K[j] = p := ⟨K[j].toNat, by omega⟩
          have hs1 := smN_snoc (szV l) (K.take j) K[j]
          have hs2 := smN_snoc (lvV l) (K.take j) K[j]
          rw [← List.take_succ_eq_append_getElem hjl, hp, Int.toNat_natCast] at hs1 hs2
          rw [hp] at ckc
          have hpi : p < i := by omega
          have hpI : (p : Int) < (l.length : Int) := by omega
          have hpd : decide (p < l.length) = true := by rw [decide_eq_true_iff]; omega
          obtain ⟨cA, cB⟩ := hS3.get p hpi
          have m1 := mn_add (smN (szV l) (K.take j)) (szV l p)
          have m2 := mn_add (smN (lvV l) (K.take j)) (lvV l p)
          rw [← hs1] at m1
          rw [← hs2] at m2
          have b1 := mn_le (smN (szV l) (K.take j)); have b2 := mn_le (szV l p); have b3 := mn_le (smN (lvV l) (K.take j)); have b4 := mn_le (lvV l p)
          have M1 := Lib.hid m1
          have M2 := Lib.hid m2
          clear hs1 hs2 m1 m2 hck hk1 hk2 hp
          generalize mn (smN (szV l) (K.take j)) = s1 at *
          generalize mn (szV l p) = z1 at *
          generalize mn (smN (lvV l) (K.take j)) = s2 at *
          generalize mn (lvV l p) = z2 at *
          obtain ⟨t1, ht1⟩ : ∃ t, s1 + z1 = t := ⟨_, rfl⟩
          obtain ⟨t2, ht2⟩ : ∃ t, s2 + z2 = t := ⟨_, rfl⟩
          have x1 : IntKind.i64.wrap ((s1 : Int) + (z1 : Int)) = (t1 : Int) := by rw [IntWalk.i64_in _ (by omega)]; omega
          have x2 : IntKind.i64.wrap ((s2 : Int) + (z2 : Int)) = (t2 : Int) := by rw [IntWalk.i64_in _ (by omega)]; omega
          rw [ht1] at M1
          rw [ht2] at M2
          clear ht1 ht2
          go_wp2_with fail
          refine (cut_calls t1 _).mono ?_
          rintro e wq ⟨rfl, rfl⟩
          go_wp2_with fail
          refine (cut_calls t2 _).mono ?_
          rintro e wq ⟨rfl, rfl⟩
          go_wp2_with fail
          go_round
          case rel => exact ⟨j + 1, by omega, by simp, by rw [M1.out] <;> rfl, by rw [M2.out] <;> rfl⟩
          case measure => simp [intOf]; omega
        · obtain rfl : j = K.length := by omega
          have hjd : decide ((K.length : Int) < (K.length : Int)) = false := by simp
          rw [List.take_of_length_le (Nat.le_refl _)]
          have b1 := mn_le (smN (szV l) K)
          have b2 := mn_le (smN (lvV l) K)
          generalize mn (smN (szV l) K) = n1 at *
          generalize mn (smN (lvV l) K) = m1 at *
          obtain ⟨g, off, rfl, hg, hc⟩ := (HN1.out.below hB3) (by rintro rfl; simp at hlt)
          have d0 := hc i hlt 0 (by decide); have d1 := hc i hlt 1 (by decide); have d2 := hc i hlt 2 (by decide); have d3 := hc i hlt 3 (by decide); have d4 := hc i hlt 4 (by decide); have d5 := hc i hlt 5 (by decide); have d6 := hc i hlt 6 (by decide); have d7 := hc i hlt 7 (by decide)
          simp only [ndA, List.getElem?_toArray, List.getElem?_cons_zero, List.getElem?_cons_succ, Nat.add_zero] at d0 d1 d2 d3 d4 d5 d6 d7
          have HCN3 := Lib.hid (HCN.out w3 hB3)
          clear hc
          generalize l[i] = x at *
          obtain ⟨k, kc, kn, km, t⟩ := x
          simp only at d0 d1 d2 d3 d4 d5 d6 d7 hnd
          unfold szE at hst
          rcases hnd with ⟨rfl, hK⟩ | ⟨rfl, hK⟩ | ⟨p, rfl, hK, hpi⟩ | ⟨p, rfl, hK, hpi, hrn⟩ | ⟨hk56, hK⟩
          · simp only [if_true] at hst
            have h1N := Lib.hid (show mn (1) = mn (szV l i) from hst.1)
            have h1M := Lib.hid (show mn (m1) = mn (lvV l i) from hst.2)
            have HC1 := Lib.hid (fun W => cut_calls 1 W)
            have HC2 := Lib.hid (fun W => cut_calls m1 W)
            obtain ⟨⟨u1, cA⟩, ⟨u2, cB⟩, fA, fB, hput⟩ := SzS.put hS3 hlt hAB (mn (1)) (mn (m1)) h1N.out h1M.out
            have HPUT := Lib.hid hput
            have HBP := Lib.hid (below_set (below_set hB3 hA1 i (.int .i64 (mn (1) : Nat))) hB1 i (.int .i64 (mn (m1) : Nat)))
            clear hput hst hS3 hB3
            go_wp2_with fail
            refine (HC1.out _).mono ?_
            rintro e wq ⟨rfl, rfl⟩
            go_wp2_with fail
            refine (HC2.out _).mono ?_
            rintro e wq ⟨rfl, rfl⟩
            go_wp2_with fail
            go_roundw
            case rel => exact ⟨i + 1, by omega, by simp, HPUT.out, HBP.out⟩
            case measure => simp [intOf]; omega
          · simp only [if_true, if_neg (show ¬ (2 : Int) = 1 by decide)] at hst
            have h1N := Lib.hid (show mn (1) = mn (szV l i) from hst.1)
            have h1M := Lib.hid (show mn (1) = mn (lvV l i) from hst.2)
            have HC1 := Lib.hid (fun W => cut_calls 1 W)
            have HC2 := Lib.hid (fun W => cut_calls 1 W)
            obtain ⟨⟨u1, cA⟩, ⟨u2, cB⟩, fA, fB, hput⟩ := SzS.put hS3 hlt hAB (mn (1)) (mn (1)) h1N.out h1M.out
            have HPUT := Lib.hid hput
            have HBP := Lib.hid (below_set (below_set hB3 hA1 i (.int .i64 (mn (1) : Nat))) hB1 i (.int .i64 (mn (1) : Nat)))
            clear hput hst hS3 hB3
            go_wp2_with fail
            refine (HC1.out _).mono ?_
            rintro e wq ⟨rfl, rfl⟩
            go_wp2_with fail
            refine (HC2.out _).mono ?_
            rintro e wq ⟨rfl, rfl⟩
            go_wp2_with fail
            go_roundw
            case rel => exact ⟨i + 1, by omega, by simp, HPUT.out, HBP.out⟩
            case measure => simp [intOf]; omega
          · simp only [if_true, if_neg (show ¬ (3 : Int) = 1 by decide), if_neg (show ¬ (3 : Int) = 2 by decide)] at hst
            obtain ⟨N, hN⟩ : ∃ N, n1 + 1 = N := ⟨_, rfl⟩
            have xN : IntKind.i64.wrap ((n1 : Int) + 1) = (N : Int) := by rw [IntWalk.i64_in _ (by omega)]; omega
            rw [hN] at hst
            clear hN
            have h1N := Lib.hid (show mn (N) = mn (szV l i) from hst.1)
            have h1M := Lib.hid (show mn (m1) = mn (lvV l i) from hst.2)
            have HC1 := Lib.hid (fun W => cut_calls N W)
            have HC2 := Lib.hid (fun W => cut_calls m1 W)
            obtain ⟨⟨u1, cA⟩, ⟨u2, cB⟩, fA, fB, hput⟩ := SzS.put hS3 hlt hAB (mn (N)) (mn (m1)) h1N.out h1M.out
            have HPUT := Lib.hid hput
            have HBP := Lib.hid (below_set (below_set hB3 hA1 i (.int .i64 (mn (N) : Nat))) hB1 i (.int .i64 (mn (m1) : Nat)))
            clear hput hst hS3 hB3
            go_wp2_with fail
            refine (HC1.out _).mono ?_
            rintro e wq ⟨rfl, rfl⟩
            go_wp2_with fail
            refine (HC2.out _).mono ?_
            rintro e wq ⟨rfl, rfl⟩
            go_wp2_with fail
            go_roundw
            case rel => exact ⟨i + 1, by omega, by simp, HPUT.out, HBP.out⟩
            case measure => simp [intOf]; omega
          · by_cases hm0 : km = 0
            · subst hm0
              simp only [if_true, if_neg (show ¬ (4 : Int) = 1 by decide), if_neg (show ¬ (4 : Int) = 2 by decide), if_neg (show ¬ (4 : Int) = 3 by decide), if_neg (show ¬ ((4 : Int) = 5 ∨ (4 : Int) = 6) by decide)] at hst
              have h1N := Lib.hid (show mn (1) = mn (szV l i) from hst.1)
              have h1M := Lib.hid (show mn (0) = mn (lvV l i) from hst.2)
              have HC1 := Lib.hid (fun W => cut_calls 1 W)
              have HC2 := Lib.hid (fun W => cut_calls 0 W)
              obtain ⟨⟨u1, cA⟩, ⟨u2, cB⟩, fA, fB, hput⟩ := SzS.put hS3 hlt hAB (mn (1)) (mn (0)) h1N.out h1M.out
              have HPUT := Lib.hid hput
              have HBP := Lib.hid (below_set (below_set hB3 hA1 i (.int .i64 (mn (1) : Nat))) hB1 i (.int .i64 (mn (0) : Nat)))
              clear hput hst hS3 hB3
              go_wp2_with fail
              refine (HC1.out _).mono ?_
              rintro e wq ⟨rfl, rfl⟩
              go_wp2_with fail
              refine (HC2.out _).mono ?_
              rintro e wq ⟨rfl, rfl⟩
              go_wp2_with fail
              go_roundw
              case rel => exact ⟨i + 1, by omega, by simp, HPUT.out, HBP.out⟩
              case measure => simp [intOf]; omega
            · have qm : (km == 0) = false := by rw [beq_eq_false_iff_ne]; exact hm0
              subst hK
              obtain ⟨many, hc1, hmb, hc2⟩ := cp_bounds ⟨4, kc, kn, km, t⟩ (nulV l p) hrn hm0
              have hco := copies_calls 4 kc kn km t (nulV l p) hrn
              simp only [if_neg hm0, if_neg (show ¬ (4 : Int) = 1 by decide), if_neg (show ¬ (4 : Int) = 2 by decide), if_neg (show ¬ (4 : Int) = 3 by decide), if_neg (show ¬ ((4 : Int) = 5 ∨ (4 : Int) = 6) by decide), List.headD_cons, Int.toNat_natCast] at hst
              obtain ⟨gk, rfl, hgk, hck⟩ := hik (by simp)
              have ckk : w3.cell? ⟨gk, 0, none⟩ = some (.int .i64 (p : Nat)) := hck 0 (by simp)
              have cn0 := HCN3.out p (by omega)
              have hpI : (p : Int) < (l.length : Int) := by omega
              have hpd : decide (p < l.length) = true := by rw [decide_eq_true_iff]; omega
              have hgn3 : gn < w3.heap.size := Nat.lt_of_lt_of_le hgn hB3.size
              clear hck hik hkl
              obtain ⟨v, hv⟩ : ∃ v, nulV l p = v := ⟨_, rfl⟩
              rw [hv] at hc1 hc2 hco cn0
              obtain ⟨c2, hc2v⟩ : ∃ c, (cpN ⟨4, kc, kn, km, t⟩ v).2 = c := ⟨_, rfl⟩
              obtain ⟨c1, hc1v⟩ : ∃ c, (cpN ⟨4, kc, kn, km, t⟩ v).1 = c := ⟨_, rfl⟩
              rw [hc2v] at hc2 hco
              rw [hc1v] at hc1 hco
              simp only [hv, hc2v, hc1v] at hst
              clear hv hc1v hc2v
              have HCO := Lib.hid hco
              have HS3 := Lib.hid hS3
              have HB3 := Lib.hid hB3
              have HST := Lib.hid hst
              clear hco hS3 hB3 hst hm0 hrn
              go_upto_region 26 with fail
              refine region_steps (S := fun w' => Below w3.heap.size w3 w') (by kernel_rfl) (show Below w3.heap.size w3 w3.drew from ⟨rfl, rfl, rfl, Nat.le_refl _, fun _ _ => rfl⟩) ?_
              simp only [List.size_toArray, List.length_cons, List.length_nil, Nat.reduceAdd, Array.replicate_succ, Array.replicate_zero, List.push_toArray, List.nil_append, List.cons_append]
              refine AnyS.next (i := 0) (d := some 89) (v := .slice (some ⟨g, off, none⟩) l.length cap) rfl rfl (by kernel_rfl) (by kernel_rfl) (by kernel_rfl) (StepsIf.yield (by kernel_rfl) (fun w' hS => by clear hS; go_simp)) ?_
              intro a' ha'
              simp only [Act.put, List.setIfInBounds_toArray, List.set_cons_zero, List.set_cons_succ] at ha'
              subst ha'
              refine AnyS.next (i := 1) (d := some 90) (v := .int .i64 (i : Nat)) rfl rfl (by kernel_rfl) (by kernel_rfl) (by kernel_rfl) (StepsIf.yield (by kernel_rfl) (fun w' hS => by clear hS; go_simp)) ?_
              intro a' ha'
              simp only [Act.put, List.setIfInBounds_toArray, List.set_cons_zero, List.set_cons_succ] at ha'
              subst ha'
              refine AnyS.next (i := 2) (d := some 91) (v := .pointer (some ⟨g, off + i * 8, none⟩)) rfl rfl (by kernel_rfl) (by kernel_rfl) (by kernel_rfl) (StepsIf.yield (by kernel_rfl) (fun w' hS => by clear hS; go_simp)) ?_
              intro a' ha'
              simp only [Act.put, List.setIfInBounds_toArray, List.set_cons_zero, List.set_cons_succ] at ha'
              subst ha'
              refine AnyS.next (i := 3) (d := some 92) (v := .agg (ndI 4 kc kn km t)) rfl rfl (by kernel_rfl) (by kernel_rfl) (by kernel_rfl) (StepsIf.yield (by kernel_rfl) (fun w' hS => by have d0 := hS.cell (p := ⟨g, off + i * 8, none⟩) hg |>.trans d0; have d1 := hS.cell (p := ⟨g, off + i * 8 + 1, none⟩) hg |>.trans d1; have d2 := hS.cell (p := ⟨g, off + i * 8 + 2, none⟩) hg |>.trans d2; have d3 := hS.cell (p := ⟨g, off + i * 8 + 3, none⟩) hg |>.trans d3; have d4 := hS.cell (p := ⟨g, off + i * 8 + 4, none⟩) hg |>.trans d4; have d5 := hS.cell (p := ⟨g, off + i * 8 + 5, none⟩) hg |>.trans d5; have d6 := hS.cell (p := ⟨g, off + i * 8 + 6, none⟩) hg |>.trans d6; have d7 := hS.cell (p := ⟨g, off + i * 8 + 7, none⟩) hg |>.trans d7; clear hS; go_simp)) ?_
              intro a' ha'
              simp only [Act.put, List.setIfInBounds_toArray, List.set_cons_zero, List.set_cons_succ] at ha'
              subst ha'
              refine AnyS.next (i := 4) (d := some 93) (v := .slice (some ⟨gn, on, none⟩) l.length cn) rfl rfl (by kernel_rfl) (by kernel_rfl) (by kernel_rfl) (StepsIf.yield (by kernel_rfl) (fun w' hS => by clear hS; go_simp)) ?_
              intro a' ha'
              simp only [Act.put, List.setIfInBounds_toArray, List.set_cons_zero, List.set_cons_succ] at ha'
              subst ha'
              refine AnyS.next (i := 5) (d := some 94) (v := .slice (some ⟨gk, 0, none⟩) 1 ck) rfl rfl (by kernel_rfl) (by kernel_rfl) (by kernel_rfl) (StepsIf.yield (by kernel_rfl) (fun w' hS => by clear hS; go_simp)) ?_
              intro a' ha'
              simp only [Act.put, List.setIfInBounds_toArray, List.set_cons_zero, List.set_cons_succ] at ha'
              subst ha'
              refine AnyS.next (i := 6) (d := some 95) (v := .pointer (some ⟨gk, 0, none⟩)) rfl rfl (by kernel_rfl) (by kernel_rfl) (by kernel_rfl) (StepsIf.yield (by kernel_rfl) (fun w' hS => by clear hS; go_simp)) ?_
              intro a' ha'
              simp only [Act.put, List.setIfInBounds_toArray, List.set_cons_zero, List.set_cons_succ] at ha'
              subst ha'
              refine AnyS.next (i := 7) (d := some 96) (v := .int .i64 (p : Nat)) rfl rfl (by kernel_rfl) (by kernel_rfl) (by kernel_rfl) (StepsIf.yield (by kernel_rfl) (fun w' hS => by have c := hS.cell (p := ⟨gk, 0, none⟩) hgk |>.trans ckk; clear hS; go_simp)) ?_
              intro a' ha'
              simp only [Act.put, List.setIfInBounds_toArray, List.set_cons_zero, List.set_cons_succ] at ha'
              subst ha'
              refine AnyS.next (i := 8) (d := some 97) (v := .pointer (some ⟨gn, on + p, none⟩)) rfl rfl (by kernel_rfl) (by kernel_rfl) (by kernel_rfl) (StepsIf.yield (by kernel_rfl) (fun w' hS => by clear hS; go_simp)) ?_
              intro a' ha'
              simp only [Act.put, List.setIfInBounds_toArray, List.set_cons_zero, List.set_cons_succ] at ha'
              subst ha'
              refine AnyS.next (i := 9) (d := some 98) (v := .bool v) rfl rfl (by kernel_rfl) (by kernel_rfl) (by kernel_rfl) (StepsIf.yield (by kernel_rfl) (fun w' hS => by have c := hS.cell (p := ⟨gn, on + p, none⟩) hgn3 |>.trans cn0; clear hS; go_simp)) ?_
              intro a' ha'
              simp only [Act.put, List.setIfInBounds_toArray, List.set_cons_zero, List.set_cons_succ] at ha'
              subst ha'
              refine AnyS.next (i := 10) (d := some 99) (v := .tuple #[.int .i64 c1, .int .i64 c2]) rfl rfl (by kernel_rfl) (by kernel_rfl) (by kernel_rfl) (StepsIf.call (by kernel_rfl) (fun w' hS => by clear hS; go_simp) (fun w' hS => (HCO.out w').mono fun e w'' h => ⟨h.1, hS.trans (h.2.mono hS.size)⟩)) ?_
              intro a' ha'
              simp only [Act.put, List.setIfInBounds_toArray, List.set_cons_zero, List.set_cons_succ] at ha'
              subst ha'
              refine AnyS.next (i := 11) (d := some 88) (v := .tuple #[.int .i64 c1, .int .i64 c2]) rfl rfl (by kernel_rfl) (by kernel_rfl) (by kernel_rfl) (StepsIf.yield (by kernel_rfl) (fun w' hS => by clear hS; go_simp)) ?_
              intro a' ha'
              simp only [Act.put, List.setIfInBounds_toArray, List.set_cons_zero, List.set_cons_succ] at ha'
              subst ha'
              refine AnyS.next (i := 12) (d := some 100) (v := .int .i64 c1) rfl rfl (by kernel_rfl) (by kernel_rfl) (by kernel_rfl) (StepsIf.yield (by kernel_rfl) (fun w' hS => by clear hS; go_simp)) ?_
              intro a' ha'
              simp only [Act.put, List.setIfInBounds_toArray, List.set_cons_zero, List.set_cons_succ] at ha'
              subst ha'
              refine AnyS.next (i := 13) (d := some 101) (v := .int .i64 c2) rfl rfl (by kernel_rfl) (by kernel_rfl) (by kernel_rfl) (StepsIf.yield (by kernel_rfl) (fun w' hS => by clear hS; go_simp)) ?_
              intro a' ha'
              simp only [Act.put, List.setIfInBounds_toArray, List.set_cons_zero, List.set_cons_succ] at ha'
              subst ha'
              refine AnyS.next (i := 14) (d := some 12) (v := .int .i64 c1) rfl rfl (by kernel_rfl) (by kernel_rfl) (by kernel_rfl) (StepsIf.yield (by kernel_rfl) (fun w' hS => by clear hS; go_simp)) ?_
              intro a' ha'
              simp only [Act.put, List.setIfInBounds_toArray, List.set_cons_zero, List.set_cons_succ] at ha'
              subst ha'
              refine AnyS.next (i := 15) (d := some 13) (v := .int .i64 c2) rfl rfl (by kernel_rfl) (by kernel_rfl) (by kernel_rfl) (StepsIf.yield (by kernel_rfl) (fun w' hS => by clear hS; go_simp)) ?_
              intro a' ha'
              simp only [Act.put, List.setIfInBounds_toArray, List.set_cons_zero, List.set_cons_succ] at ha'
              subst ha'
              refine AnyS.done (by kernel_rfl) (fun w5 hS => ?_) _
              have hS5 := HS3.out.below hS
              have hB5 := HB3.out.trans (hS.mono HB3.out.size)
              clear HS3 HB3 hS HCO ckk cn0 d0 d1 d2 d3 d4 d5 d6 d7
              have hst := HST.out
              rcases hc2 with hc2 | ⟨more, hc2, hmo, hpos⟩
              · have q2 : (c2 == -1) = true := by rw [hc2]; rfl
                simp only [if_pos hc2, hc1, Int.toNat_natCast] at hst
                obtain ⟨z1, hz1⟩ : ∃ z : Int, c1 + c2 = z := ⟨_, rfl⟩
                have y1 : IntKind.i64.wrap (c1 + c2) = z1 := by rw [IntWalk.i64_in _ (by omega)]; exact hz1
                obtain ⟨z2, hz2⟩ : ∃ z : Int, z1 - 1 = z := ⟨_, rfl⟩
                have y2 : IntKind.i64.wrap (z1 - 1) = z2 := by rw [IntWalk.i64_in _ (by omega)]; exact hz2
                obtain ⟨n2, hn2⟩ : ∃ n, n1 + 1 = n := ⟨_, rfl⟩
                have y4 : IntKind.i64.wrap ((n1 : Int) + 1) = (n2 : Int) := by rw [IntWalk.i64_in _ (by omega)]; omega
                obtain ⟨a1, ha1⟩ : ∃ a, many + 1 = a := ⟨_, rfl⟩
                have y3 : IntKind.i64.wrap (c1 + 1) = (a1 : Int) := by rw [IntWalk.i64_in _ (by omega)]; omega
                obtain ⟨P, hP⟩ : ∃ P, a1 * n2 = P := ⟨_, rfl⟩
                have hPb : P ≤ 100 * 1000001 := by rw [← hP]; exact Nat.mul_le_mul (by omega) (by omega)
                have y5 : IntKind.i64.wrap ((a1 : Int) * (n2 : Int)) = (P : Int) := by rw [← Int.natCast_mul, hP]; exact IntWalk.i64_in _ (by omega)
                obtain ⟨Q, hQ⟩ : ∃ Q, P + many = Q := ⟨_, rfl⟩
                have y6 : IntKind.i64.wrap ((P : Int) + c1) = (Q : Int) := by rw [IntWalk.i64_in _ (by omega)]; omega
                obtain ⟨N, hN⟩ : ∃ N, Q + 1 = N := ⟨_, rfl⟩
                have y7 : IntKind.i64.wrap ((Q : Int) + 1) = (N : Int) := by rw [IntWalk.i64_in _ (by omega)]; omega
                obtain ⟨M, hM⟩ : ∃ M, a1 * m1 = M := ⟨_, rfl⟩
                have hMb : M ≤ 100 * 1000001 := by rw [← hM]; exact Nat.mul_le_mul (by omega) (by omega)
                have y8 : IntKind.i64.wrap ((a1 : Int) * (m1 : Int)) = (M : Int) := by rw [← Int.natCast_mul, hM]; exact IntWalk.i64_in _ (by omega)
                rw [ha1, hn2, hP, hQ, hN, hM] at hst
                clear hz1 hz2 hn2 ha1 hP hPb hQ hN hM hMb hc1 hc2 hmb HST
                have h1N := Lib.hid (show mn (N) = mn (szV l i) from hst.1)
                have h1M := Lib.hid (show mn (M) = mn (lvV l i) from hst.2)
                have HC1 := Lib.hid (fun W => cut_calls N W)
                have HC2 := Lib.hid (fun W => cut_calls M W)
                obtain ⟨⟨u1, cA⟩, ⟨u2, cB⟩, fA, fB, hput⟩ := SzS.put hS5 hlt hAB (mn (N)) (mn (M)) h1N.out h1M.out
                have HPUT := Lib.hid hput
                have HBP := Lib.hid (below_set (below_set hB5 hA1 i (.int .i64 (mn (N) : Nat))) hB1 i (.int .i64 (mn (M) : Nat)))
                clear hput hst hS5 hB5
                go_wp2_with fail
                refine (HC1.out _).mono ?_
                rintro e wq ⟨rfl, rfl⟩
                go_wp2_with fail
                refine (HC2.out _).mono ?_
                rintro e wq ⟨rfl, rfl⟩
                go_wp2_with fail
                go_roundw
                case rel => exact ⟨i + 1, by omega, by simp, HPUT.out, HBP.out⟩
                case measure => simp [intOf]; omega
              · have hne1 : ¬ c2 = -1 := by omega
                have q2 : (c2 == -1) = false := by rw [beq_eq_false_iff_ne]; exact hne1
                simp only [if_neg (show ¬ (more : Int) = -1 by omega), hc1, hc2, Int.toNat_natCast] at hst
                obtain ⟨z1, hz1⟩ : ∃ z : Int, c1 + c2 = z := ⟨_, rfl⟩
                have y1 : IntKind.i64.wrap (c1 + c2) = z1 := by rw [IntWalk.i64_in _ (by omega)]; exact hz1
                obtain ⟨z2, hz2⟩ : ∃ z : Int, z1 - 1 = z := ⟨_, rfl⟩
                have y2 : IntKind.i64.wrap (z1 - 1) = z2 := by rw [IntWalk.i64_in _ (by omega)]; exact hz2
                obtain ⟨n2, hn2⟩ : ∃ n, n1 + 1 = n := ⟨_, rfl⟩
                have y4 : IntKind.i64.wrap ((n1 : Int) + 1) = (n2 : Int) := by rw [IntWalk.i64_in _ (by omega)]; omega
                obtain ⟨a1, ha1⟩ : ∃ a, many + more = a := ⟨_, rfl⟩
                have hz1a : z1 = (a1 : Int) := by omega
                obtain ⟨jo, hjo⟩ : ∃ a, a1 - 1 = a := ⟨_, rfl⟩
                have hz2a : z2 = (jo : Int) := by omega
                obtain ⟨P, hP⟩ : ∃ P, a1 * n2 = P := ⟨_, rfl⟩
                have hPb : P ≤ 200 * 1000001 := by rw [← hP]; exact Nat.mul_le_mul (by omega) (by omega)
                have y5 : IntKind.i64.wrap (z1 * (n2 : Int)) = (P : Int) := by rw [hz1a, ← Int.natCast_mul, hP]; exact IntWalk.i64_in _ (by omega)
                obtain ⟨Q, hQ⟩ : ∃ Q, P + jo = Q := ⟨_, rfl⟩
                have y6 : IntKind.i64.wrap ((P : Int) + z2) = (Q : Int) := by rw [IntWalk.i64_in _ (by omega)]; omega
                obtain ⟨N, hN⟩ : ∃ N, Q + more = N := ⟨_, rfl⟩
                have y7 : IntKind.i64.wrap ((Q : Int) + c2) = (N : Int) := by rw [IntWalk.i64_in _ (by omega)]; omega
                obtain ⟨M, hM⟩ : ∃ M, a1 * m1 = M := ⟨_, rfl⟩
                have hMb : M ≤ 200 * 1000001 := by rw [← hM]; exact Nat.mul_le_mul (by omega) (by omega)
                have y8 : IntKind.i64.wrap (z1 * (m1 : Int)) = (M : Int) := by rw [hz1a, ← Int.natCast_mul, hM]; exact IntWalk.i64_in _ (by omega)
                rw [ha1, hn2, hP, hjo, hQ, hN, hM] at hst
                clear hz1 hz2 hz1a hz2a hn2 ha1 hjo hP hPb hQ hN hM hMb hc1 hc2 hne1 hmb hmo hpos HST
                have h1N := Lib.hid (show mn (N) = mn (szV l i) from hst.1)
                have h1M := Lib.hid (show mn (M) = mn (lvV l i) from hst.2)
                have HC1 := Lib.hid (fun W => cut_calls N W)
                have HC2 := Lib.hid (fun W => cut_calls M W)
                obtain ⟨⟨u1, cA⟩, ⟨u2, cB⟩, fA, fB, hput⟩ := SzS.put hS5 hlt hAB (mn (N)) (mn (M)) h1N.out h1M.out
                have HPUT := Lib.hid hput
                have HBP := Lib.hid (below_set (below_set hB5 hA1 i (.int .i64 (mn (N) : Nat))) hB1 i (.int .i64 (mn (M) : Nat)))
                clear hput hst hS5 hB5
                go_wp2_with fail
                refine (HC1.out _).mono ?_
                rintro e wq ⟨rfl, rfl⟩
                go_wp2_with fail
                refine (HC2.out _).mono ?_
                rintro e wq ⟨rfl, rfl⟩
                go_wp2_with fail
                go_roundw
                case rel => exact ⟨i + 1, by omega, by simp, HPUT.out, HBP.out⟩
                case measure => simp [intOf]; omega
          · have hk5 : ¬ k = 1 := by omega
            have hk6 : ¬ k = 2 := by omega
            have hk7 : ¬ k = 3 := by omega
            simp only [if_neg hk5, if_neg hk6, if_neg hk7, if_pos hk56] at hst
            obtain ⟨s, hs⟩ : ∃ s, n1 + K.length = s := ⟨_, rfl⟩
            obtain ⟨N, hN⟩ : ∃ N, s - 1 = N := ⟨_, rfl⟩
            rw [hs, hN] at hst
            have xs : IntKind.i64.wrap ((n1 : Int) + (K.length : Int)) = (s : Int) := by rw [IntWalk.i64_in _ (by omega)]; omega
            have xN : IntKind.i64.wrap ((s : Int) - 1) = (N : Int) := by rw [IntWalk.i64_in _ (by omega)]; omega
            clear hs hN hk5 hk6 hk7
            rcases hk56 with rfl | rfl
            · skip
              have h1N := Lib.hid (show mn (N) = mn (szV l i) from hst.1)
              have h1M := Lib.hid (show mn (m1) = mn (lvV l i) from hst.2)
              have HC1 := Lib.hid (fun W => cut_calls N W)
              have HC2 := Lib.hid (fun W => cut_calls m1 W)
              obtain ⟨⟨u1, cA⟩, ⟨u2, cB⟩, fA, fB, hput⟩ := SzS.put hS3 hlt hAB (mn (N)) (mn (m1)) h1N.out h1M.out
              have HPUT := Lib.hid hput
              have HBP := Lib.hid (below_set (below_set hB3 hA1 i (.int .i64 (mn (N) : Nat))) hB1 i (.int .i64 (mn (m1) : Nat)))
              clear hput hst hS3 hB3
              go_wp2_with fail
              refine (HC1.out _).mono ?_
              rintro e wq ⟨rfl, rfl⟩
              go_wp2_with fail
              refine (HC2.out _).mono ?_
              rintro e wq ⟨rfl, rfl⟩
              go_wp2_with fail
              go_roundw
              case rel => exact ⟨i + 1, by omega, by simp, HPUT.out, HBP.out⟩
              case measure => simp [intOf]; omega
            · skip
              have h1N := Lib.hid (show mn (N) = mn (szV l i) from hst.1)
              have h1M := Lib.hid (show mn (m1) = mn (lvV l i) from hst.2)
              have HC1 := Lib.hid (fun W => cut_calls N W)
              have HC2 := Lib.hid (fun W => cut_calls m1 W)
              obtain ⟨⟨u1, cA⟩, ⟨u2, cB⟩, fA, fB, hput⟩ := SzS.put hS3 hlt hAB (mn (N)) (mn (m1)) h1N.out h1M.out
              have HPUT := Lib.hid hput
              have HBP := Lib.hid (below_set (below_set hB3 hA1 i (.int .i64 (mn (N) : Nat))) hB1 i (.int .i64 (mn (m1) : Nat)))
              clear hput hst hS3 hB3
              go_wp2_with fail
              refine (HC1.out _).mono ?_
              rintro e wq ⟨rfl, rfl⟩
              go_wp2_with fail
              refine (HC2.out _).mono ?_
              rintro e wq ⟨rfl, rfl⟩
              go_wp2_with fail
              go_roundw
              case rel => exact ⟨i + 1, by omega, by simp, HPUT.out, HBP.out⟩
              case measure => simp [intOf]; omega
    · obtain rfl : i = l.length := by omega
      have hdI : decide ((l.length : Int) < (l.length : Int)) = false := by simp
      have q0 : ((l.length : Int) == 0) = false := by rw [beq_eq_false_iff_ne]; omega
      have x1 : IntKind.i64.wrap ((l.length : Int) - 1) = ((l.length - 1 : Nat) : Int) := by rw [IntWalk.i64_in _ (by omega)]; omega
      have hiI : ((l.length - 1 : Nat) : Int) < (l.length : Int) := by omega
      have hid : decide (l.length - 1 < l.length) = true := by rw [decide_eq_true_iff]; omega
      obtain ⟨cA, cB⟩ := hS.get (l.length - 1) (by omega)
      have HB2 := Lib.hid (HBW.out.trans (hB.mono HBW.out.size))
      have hz1 := HZ.out.1
      have hz2 := HZ.out.2
      rw [← hz1] at cA
      rw [← hz2] at cB
      clear hS hB hz1 hz2 HST HND HKL
      go_upto_region 37 with fail
      go_quiet (fail)
      go_wp2_with fail
      exact bodyPost_ret (v := .tuple #[.int .i64 (sizeN l : Nat), .int .i64 (sizeL l : Nat)]) (by simp [results, Tryd.results11, go_sem]) rfl ⟨rfl, below_drN HB2.out _⟩
end Go.Proofs.YtpncomjpmilbkaaDoor

/- Texts put together: Xd Xe. -/
import Derived.Test.YtajlcaconnkodaaDoorPJ
import Derived.Test.YtajlcaconnkodaaDoorPK
import Derived.Test.YtajlcaconnkodaaDoorPE
import Derived.Test.YtajlcaconnkodaaDoorPQ
import Derived.Laws.OwnMore
/- The document's Can. Stage 12. -/
namespace Go.Proofs.YtajlcaconnkodaaDoor
open Go.RowKit BS

theorem boolZ_get' (n k : Nat) (h : k < n) : (madeCells #[Value.bool false] n)[k]? = some (.bool false) := by
  unfold madeCells
  rw [Array.getElem?_map, Array.getElem?_range, if_pos h]
  show some (#[Value.bool false][k % 1]!) = _
  rw [Nat.mod_one]
  rfl
/-- What stands of node x when i nodes are done. -/
def cnI (l : List NdN) (i x : Nat) : Bool := if x < i then canF l x else false
set_option maxRecDepth 100000 in
set_option maxHeartbeats 8000000 in
theorem rCan_calls (l : List NdN) (hl : l.length ≤ 1000) (a : Option Addr) (cap : Nat) (w : World) (h : NodesAt l a w) :
    Calls Tryd.prog 8 #[.slice a l.length cap] w fun e w' => ∃ b c, e = .returned (.slice b (canT l).length c) ∧ BoolsB w.heap.size (canT l) b w' ∧ Below w.heap.size w w' := by
  have HR := Lib.hid (tRight_calls l hl a cap w h)
  have HN := Lib.hid h
  clear h
  cases hr : rightT l with
  | false =>
    rw [hr] at HR
    have HU := Lib.hid (show canT l = [] by unfold canT; rw [hr]; rfl)
    clear hr
    go_enter Tryd.func8, Tryd.ntmps8
    go_wp2_with fail
    refine HR.out.mono ?_
    rintro e w1 ⟨rfl, hb⟩
    clear HR
    go_wp2_with fail
    go_ret
    exact ⟨none, 0, by rw [HU.out]; rfl, fun h => absurd HU.out h, hb⟩
  | true =>
  rw [hr] at HR
  have hlen := canT_len l hr
  have HG := Lib.hid (canT_get l hr)
  rw [hlen]
  have hmk := fun W => run_make_row' (P := Tryd.prog) 24 4 (.bool false) 1 Tryd.underlying24 (by kernel_rfl) rfl .i64 .i64 l.length (by omega) (by omega) W
  have hmz : (madeCells #[Value.bool false] l.length).size = l.length := by simp [madeCells]
  have HMZ := Lib.hid (boolZ_get' l.length)
  generalize madeCells #[Value.bool false] l.length = vs0 at *
  have HNK := Lib.hid (fun i hi => And.intro (nodek_parts l hr i hi) (And.intro (kind_range l hr i hi) (can_eq l hr i hi)))
  have HLE := Lib.hid hlen
  clear hr hlen
  go_enter Tryd.func8, Tryd.ntmps8
  go_wp2_with fail
  refine HR.out.mono ?_
  rintro e w1 ⟨rfl, hb⟩
  have HN1 := Lib.hid (HN.out.below hb)
  have hS0 := Blk.new w1 vs0 4
  have HBW := Lib.hid hb
  have hz1 := hb.size
  have HW0 := Lib.hid ((Below.refl w1.heap.size w1).alloc (Nat.le_refl _) (.cells vs0 4))
  clear HR hb HN
  go_upto_region 4 with fail
  generalize w1.alloc (.cells vs0 4) = w2 at *
  clear hmk
  go_upto_region 5 with fail
  go_loopw [4] (fun vi wr => ∃ i : Nat, i ≤ l.length ∧ vi = .int .i64 i ∧ (∃ vs : Array Value, vs.size = l.length ∧ (∀ x, x < l.length → vs[x]? = some (.bool (cnI l i x))) ∧ Blk wr w1.heap.size vs 4) ∧ Below w1.heap.size w1 wr) (fun vi _ => l.length - (intOf vi).toNat)
  case atStart => exact ⟨0, Nat.zero_le _, rfl, ⟨vs0, hmz, fun x hx => HMZ.out x hx, hS0⟩, HW0.out⟩
  case round =>
    clear hS0 HW0 hmz
    obtain ⟨i, hi, rfl, ⟨us, hus, hno, hS⟩, hB⟩ := hrel
    by_cases hlt : i < l.length
    · have hii : (i : Int) < (l.length : Int) := by omega
      have hd : decide (i < l.length) = true := by rw [decide_eq_true_iff]; omega
      have hdI : decide ((i : Int) < (l.length : Int)) = true := by rw [decide_eq_true_iff]; omega
      have xi : IntKind.i64.wrap ((i : Int) + 1) = (i : Int) + 1 := IntWalk.i64_in _ (by omega)
      obtain ⟨hnk, ⟨hk1, hk8⟩, hce⟩ := HNK.out i hlt
      obtain ⟨g, off, rfl, hg, hc⟩ := (HN1.out.below hB) (by rintro rfl; simp at hlt)
      have d0 := hc i hlt 0 (by decide)
      have d1 := hc i hlt 1 (by decide)
      have d2 := hc i hlt 2 (by decide)
      simp only [ndA, List.getElem?_toArray, List.getElem?_cons_zero, List.getElem?_cons_succ, Nat.add_zero] at d0 d1 d2
      obtain ⟨old, hold⟩ : ∃ old, us[i]? = some old := ⟨us[i]'(by omega), by simp [show i < us.size by omega]⟩
      have ci := (hS.cell i).trans hold
      have fi := hS.frozen i
      have HS4 := Lib.hid (show ∀ v, v = canF l i → ∃ vs : Array Value, vs.size = l.length ∧ (∀ x, x < l.length → vs[x]? = some (.bool (cnI l (i + 1) x))) ∧ Blk (wr.setCell ⟨w1.heap.size, i, none⟩ (.bool v)) w1.heap.size vs 4 from fun v hv =>
        ⟨us.setIfInBounds i (.bool v), by simp [hus], fun x hx => by
          unfold cnI
          by_cases hxi : x = i
          · subst hxi; rw [hv, if_pos (by omega)]; simp [hus, hlt]
          · rw [Array.getElem?_setIfInBounds_ne (Ne.symm hxi), hno x hx]
            unfold cnI
            by_cases h1 : x < i
            · rw [if_pos h1, if_pos (by omega)]
            · rw [if_neg h1, if_neg (by omega)], hS.set i _⟩)
      have HS5 := Lib.hid (show canF l i = false → ∃ vs : Array Value, vs.size = l.length ∧ (∀ x, x < l.length → vs[x]? = some (.bool (cnI l (i + 1) x))) ∧ Blk wr w1.heap.size vs 4 from fun hv =>
        ⟨us, hus, fun x hx => by
          rw [hno x hx]
          unfold cnI
          by_cases h1 : x < i
          · rw [if_pos h1, if_pos (by omega)]
          · rw [if_neg h1]
            by_cases hxi : x = i
            · subst hxi; rw [if_pos (by omega), hv]
            · rw [if_neg (by omega)], hS⟩)
      have HB5 := Lib.hid hB
      have HB4 := Lib.hid (fun v => below_set hB (Nat.le_refl _) i (.bool v))
      have HCA := Lib.hid (show ∀ p, p < i → wr.cell? ⟨w1.heap.size, p, none⟩ = some (.bool (canF l p)) from fun p hp => by
        rw [(hS.cell p).trans (hno p (by omega)), cnI, if_pos hp])
      clear hS hB hold hno hc
      generalize l[i] = x at *
      obtain ⟨k, kc, kn, km, t⟩ := x
      simp only at d0 d1 d2 hnk hk1 hk8
      have HV := Lib.hid hce
      clear hce
      unfold canE at HV
      rcases hnk with ⟨h0, _⟩ | ⟨p, h0, rfl, _, h3, _⟩ | ⟨p, q, h0, rfl, rfl, h3, h4, _, h6⟩
      · rcases pc_zero h0 hk1 hk8 with rfl | rfl
        · clear h0 hk1 hk8
          go_wp2_with fail
          go_roundw
          case rel => exact ⟨i + 1, by omega, by simp, HS4.out true (by rw [HV.out]; rfl), HB4.out true⟩
          case measure => simp [intOf]; omega
        · clear h0 hk1 hk8
          go_wp2_with fail
          go_roundw
          case rel => exact ⟨i + 1, by omega, by simp, HS5.out (by rw [HV.out]; rfl), HB5.out⟩
          case measure => simp [intOf]; omega
      · have cp := HCA.out p (by omega)
        have hpI : (p : Int) < (l.length : Int) := by omega
        have hpd : decide (p < l.length) = true := by rw [decide_eq_true_iff]; omega
        have HVp : Hid (∀ k' : Int, k' = k → (k' = 7 ∨ k' = 8) → canF l i = canF l p) := Lib.hid fun k' e hk => by
          rw [HV.out]
          subst e
          rcases hk with rfl | rfl <;> simp
        rcases pc_one h0 with rfl | rfl | rfl | rfl
        · clear h0 hk1 hk8
          go_wp2_with fail
          go_roundw
          case rel => exact ⟨i + 1, by omega, by simp, HS4.out true (by rw [HV.out]; rfl), HB4.out true⟩
          case measure => simp [intOf]; omega
        · clear h0 hk1 hk8
          go_wp2_with fail
          go_roundw
          case rel => exact ⟨i + 1, by omega, by simp, HS4.out true (by rw [HV.out]; rfl), HB4.out true⟩
          case measure => simp [intOf]; omega
        · clear h0 hk1 hk8
          have hVp := HVp.out 7 rfl (.inl rfl)
          have HW := Lib.hid hVp
          clear hVp
          generalize canF l p = v at *
          go_wp2_with fail
          go_roundw
          case rel => exact ⟨i + 1, by omega, by simp, HS4.out v HW.out.symm, HB4.out v⟩
          case measure => simp [intOf]; omega
        · clear h0 hk1 hk8
          have hVp := HVp.out 8 rfl (.inr rfl)
          have HW := Lib.hid hVp
          clear hVp
          generalize canF l p = v at *
          go_wp2_with fail
          go_roundw
          case rel => exact ⟨i + 1, by omega, by simp, HS4.out v HW.out.symm, HB4.out v⟩
          case measure => simp [intOf]; omega
      · have cp := HCA.out p h6
        have cq := HCA.out q (by omega)
        have hpI : (p : Int) < (l.length : Int) := by omega
        have hpd : decide (p < l.length) = true := by rw [decide_eq_true_iff]; omega
        have hqI : (q : Int) < (l.length : Int) := by omega
        have hqd : decide (q < l.length) = true := by rw [decide_eq_true_iff]; omega
        rcases pc_two h0 with rfl | rfl
        · have HW := Lib.hid (show canF l i = (canF l p && canF l q) by rw [HV.out]; simp)
          clear h0 hk1 hk8
          generalize canF l p = u at *
          generalize canF l q = v at *
          cases u <;> cases v
          all_goals
            go_wp2_with fail
            go_roundw
            case rel => exact ⟨i + 1, by omega, by simp, HS4.out _ HW.out.symm, HB4.out _⟩
            case measure => simp [intOf]; omega
        · have HW := Lib.hid (show canF l i = (canF l p || canF l q) by rw [HV.out]; simp)
          clear h0 hk1 hk8
          generalize canF l p = u at *
          generalize canF l q = v at *
          cases u <;> cases v
          all_goals
            go_wp2_with fail
            go_roundw
            case rel => exact ⟨i + 1, by omega, by simp, HS4.out _ HW.out.symm, HB4.out _⟩
            case measure => simp [intOf]; omega
    · obtain rfl : i = l.length := by omega
      go_wp2_with fail
      go_ret
      refine ⟨_, _, rfl, fun _ => ⟨w1.heap.size, 0, rfl, hz1, hS.lt, fun x hx => ?_⟩, HBW.out.trans (hB.mono hz1)⟩
      rw [HLE.out] at hx
      rw [Nat.zero_add, (hS.cell x).trans (hno x hx), cnI, if_pos hx]
      have := HG.out x hx
      rw [List.getElem?_eq_getElem (by rw [HLE.out]; exact hx)] at this
      rw [Option.some.inj this]
end Go.Proofs.YtajlcaconnkodaaDoor

/- The document's Of and Steps. Stage 12. -/
namespace Go.Proofs.YtajlcaconnkodaaDoor
open Go.RowKit BS

/-- A row of steps of the call's own. -/
def OwS (base : Nat) (v : Value) (L : List Nat) (W : World) : Prop := W.ownsRow base 3 1 v L.length (L.map fun s => Value.int .i64 (s : Nat))
theorem OwS.below {base : Nat} {v : Value} {L : List Nat} {W W' : World} (h : OwS base v L W) (k : Below W.heap.size W W') : OwS base v L W' :=
  owns_keep h fun g hg => k.block g (World.ownsRow.lt h g hg).2
theorem OwS.one (W : World) (s : Nat) (base : Nat) (hb : base ≤ W.heap.size) : OwS base (.slice (some ⟨W.heap.size, 0, none⟩) 1 1) [s] (W.alloc (.cells #[.int .i64 (s : Nat)] 3)) :=
  ⟨rfl, .inr ⟨W.heap.size, 1, #[.int .i64 (s : Nat)], rfl, hb, heap_alloc_new W _, Nat.le_refl _, by unfold maxLen; omega, rfl, rfl⟩⟩
/-- What can be nothing, in a row that stays. -/
def CanB (l : List NdN) (a : Option Addr) (W : World) : Prop := ∃ g o, a = some ⟨g, o, none⟩ ∧ g < W.heap.size ∧ ∀ i, i < l.length → W.cell? ⟨g, o + i, none⟩ = some (.bool (canF l i))
theorem CanB.below {l : List NdN} {a : Option Addr} {W W' : World} (h : CanB l a W) (hb : Below W.heap.size W W') : CanB l a W' := by
  obtain ⟨g, o, e, hg, hc⟩ := h
  exact ⟨g, o, e, Nat.lt_of_lt_of_le hg hb.size, fun i hi => (hb.cell (p := ⟨g, o + i, none⟩) hg).trans (hc i hi)⟩
theorem OwS.row {base : Nat} {v : Value} {L : List Nat} {W : World} (h : OwS base v L W) (hne : L ≠ []) : ∃ g c, v = .slice (some ⟨g, 0, none⟩) L.length c ∧ base ≤ g ∧ g < W.heap.size ∧ ∀ j u, (L.map fun s => Value.int .i64 (s : Nat))[j]? = some u → W.cell? ((⟨g, 0, none⟩ : Addr).add j) = some u := by
  have h0 := h
  rcases h.2 with ⟨_, h1⟩ | ⟨g, c, cur, rfl, hb, hg, _⟩
  · exact absurd (List.eq_nil_of_length_eq_zero h1) hne
  · refine ⟨g, c, rfl, hb, (Array.getElem?_eq_some_iff.1 hg).1, fun j u hj => ?_⟩
    have hlt := (List.getElem?_eq_some_iff.1 hj).1
    rw [List.length_map] at hlt
    have e2 : (⟨g, 0, none⟩ : Addr).add j = ⟨g, j, none⟩ := by
      unfold Addr.add
      split
      · subst j; rfl
      · rw [Nat.zero_add]
    rw [e2]
    exact (World.ownsRow.cellAt h0 j (by omega)).trans hj
theorem OwS.app {base : Nat} {v : Value} {L M : List Nat} {W : World} (h : W.ownsRow base 3 1 v (L.length + M.length) ((L.map fun s => Value.int .i64 (s : Nat)) ++ M.map fun s => Value.int .i64 (s : Nat))) : OwS base v (L ++ M) W := by
  unfold OwS
  rw [List.length_append, List.map_append]
  exact h
theorem new_one (W : World) (x : Value) (t : TypeId) : ∀ j u, [x][j]? = some u → (W.alloc (.cells #[x] t)).cell? ((⟨W.heap.size, 0, none⟩ : Addr).add j) = some u := fun j u h => by
  cases j with
  | zero =>
    have e : (⟨W.heap.size, 0, none⟩ : Addr).add 0 = ⟨W.heap.size, 0, none⟩ := rfl
    rw [e]
    exact ((Blk.new W #[x] t).cell 0).trans h
  | succ j => simp at h
theorem infoI12 : (Tryd.prog.info? 3).map (fun i => (i.zero, i.size, i.bytes)) = some (some (.int .i64 0), 1, 8) := by kernel_rfl
theorem ofN_ne (l : List NdN) (q : Nat) : ofN l q ≠ [] := by
  rw [ofN, ofF]
  simp
set_option maxRecDepth 100000 in
set_option maxHeartbeats 8000000 in
theorem rOf_calls (l : List NdN) (hr : rightT l = true) (hl : l.length ≤ 1000) (a : Option Addr) (cap : Nat) (cb : Option Addr) (cc : Nat) : ∀ q, q < l.length → canF l q = true → ∀ W, NodesAt l a W → CanB l cb W →
    Calls Tryd.prog 17 #[.slice a l.length cap, .slice cb l.length cc, .int .i64 (q : Nat)] W fun e w' => ∃ v, e = .returned v ∧ OwS W.heap.size v (ofN l q) w' ∧ Below W.heap.size W w' := fun q => by
  induction q using Nat.strongRecOn with
  | ind q ih =>
    intro hq hc W hN hC
    have hof := of_cases l hr q hq hc
    have hen := ofN_eq l hr q hq
    obtain ⟨g, off, rfl, hg, hcl⟩ := hN (by rintro rfl; simp at hq)
    obtain ⟨bg, bo, rfl, hbg, hcc⟩ := hC
    have d0 := hcl q hq 0 (by decide)
    have d1 := hcl q hq 1 (by decide)
    have d2 := hcl q hq 2 (by decide)
    simp only [ndA, List.getElem?_toArray, List.getElem?_cons_zero, List.getElem?_cons_succ, Nat.add_zero] at d0 d1 d2
    have hqI : (q : Int) < (l.length : Int) := by omega
    have hqd : decide (q < l.length) = true := decide_eq_true hq
    obtain ⟨s0, hs0⟩ : ∃ s : Nat, s = 2 * q := ⟨_, rfl⟩
    obtain ⟨s1, hs1⟩ : ∃ s : Nat, s = 2 * q + 1 := ⟨_, rfl⟩
    have x0 : IntKind.i64.wrap (2 * (q : Int)) = (s0 : Int) := (IntWalk.i64_in _ (by omega)).trans (by omega)
    have x1 : IntKind.i64.wrap ((s0 : Int) + 1) = (s1 : Int) := (IntWalk.i64_in _ (by omega)).trans (by omega)
    rw [← hs1, ← hs0] at hen
    have HN := Lib.hid hN
    have HC := Lib.hid (show CanB l (some ⟨bg, bo, none⟩) W from ⟨bg, bo, rfl, hbg, hcc⟩)
    have HIH := Lib.hid ih
    obtain ⟨i0, hinf, hzz⟩ := Option.map_eq_some_iff.1 infoI12
    simp only [Prod.mk.injEq] at hzz
    obtain ⟨hz0, hz1, hz2⟩ := hzz
    have HLN := Lib.hid (fun p hp hc => (ofN_len l hr p hp hc : (ofN l p).length ≤ 2 * (p + 1 - lowV l p)))
    clear hs0 hs1 hN ih hcl
    generalize l[q] = x at *
    obtain ⟨k, kc, kn, km, t⟩ := x
    simp only at d0 d1 d2 hof
    have HEN := Lib.hid hen
    clear hen
    rcases hof with ⟨n2, n7, n8, _, h5⟩ | ⟨p, hk, rfl, hB, h3, h4, h5, h6⟩ | ⟨p, r, rfl, rfl, rfl, h3, h4, h5, h6, h7, h8, h9⟩ | ⟨p, r, rfl, rfl, rfl, h3, h4, h5, h6, h7⟩
    · have HX := Lib.hid (show ofN l q = [s0] ++ [s1] by rw [HEN.out, h5] <;> rfl)
      clear HEN h5
      have hk2 : ¬ (k = 3) := fun h => by subst h; exact n2 rfl
      have hk4 : ¬ (k = 4) := fun h => by subst h; exact n2 rfl
      have b3 : (k == 3) = false := beq_eq_false_iff_ne.2 hk2
      have b4 : (k == 4) = false := beq_eq_false_iff_ne.2 hk4
      have b7 : (k == 7) = false := beq_eq_false_iff_ne.2 n7
      have b8 : (k == 8) = false := beq_eq_false_iff_ne.2 n8
      go_enter Tryd.func17, Tryd.ntmps17
      go_upto_region 13 with fail
      have HO1 := Lib.hid (OwS.one W s0 W.heap.size (Nat.le_refl _))
      have HB1 := Lib.hid (show Below W.heap.size W (W.alloc (.cells #[.int .i64 (s0 : Nat)] 3)) from (Below.refl _ _).alloc (Nat.le_refl _) _)
      generalize W.alloc (.cells #[.int .i64 (s0 : Nat)] 3) = w1 at *
      obtain ⟨v1, hv1⟩ : ∃ v, v = Value.slice (some ⟨W.heap.size, 0, none⟩) 1 1 := ⟨_, rfl⟩
      rw [← hv1] at HO1 ⊢
      clear hv1
      go_wp2_with (at_builtin; (refine wpList_append_own _ rfl _ _ 27 rfl W.heap.size 3 i0 (.int .i64 0) 1 8 Tryd.underlying27 hinf hz0 hz1 hz2 rfl (by decide) _ ([s0]).length (([s0]).map (fun s => Value.int .i64 ((s : Nat) : Int))) rfl (World.ownsRow.alloc HO1.out _) ⟨w1.heap.size, 0, none⟩ 1 1 [.int .i64 (s1 : Nat)] rfl (by simp) (new_one w1 _ _) (by simp [Value.oneCell']) (by unfold maxLen; simp only [List.length_cons, List.length_nil]; omega) (by simp only [List.length_cons, List.length_nil]; omega) (by rw [World.size_alloc]; have := HB1.out.size; omega) ?_); intro v9 w9 hown hgrow hnil; have HO9 := Lib.hid (OwS.app (L := [s0]) (M := [s1]) hown); have HB9 := Lib.hid ((HB1.out.alloc HB1.out.size (.cells #[.int .i64 (s1 : Nat)] 3)).grown hgrow (by rw [World.size_alloc]; have := HB1.out.size; omega) (fun k hk => (World.ownsRow.lt HO1.out k hk).1)); clear hown hgrow hnil)
      go_ret
      first | exact ⟨_, rfl, by rw [HX.out]; exact HO9.out, HB9.out⟩ | exact ⟨by rw [HX.out]; exact HO9.out, HB9.out⟩
    · have HX := Lib.hid (show ofN l q = [s0] ++ ofN l p ++ [s1] by rw [HEN.out, h6] <;> rfl)
      clear HEN h6
      rcases hk with hk | hk
      · have hk' : k = 7 := hk
        subst hk'
        go_enter Tryd.func17, Tryd.ntmps17
        go_upto_region 12 with fail
        have HO1 := Lib.hid (OwS.one W s0 W.heap.size (Nat.le_refl _))
        have HB1 := Lib.hid (show Below W.heap.size W (W.alloc (.cells #[.int .i64 (s0 : Nat)] 3)) from (Below.refl _ _).alloc (Nat.le_refl _) _)
        generalize W.alloc (.cells #[.int .i64 (s0 : Nat)] 3) = w1 at *
        obtain ⟨v1, hv1⟩ : ∃ v, v = Value.slice (some ⟨W.heap.size, 0, none⟩) 1 1 := ⟨_, rfl⟩
        rw [← hv1] at HO1 ⊢
        clear hv1
        have e1 := (HB1.out.cell (p := ⟨g, off + q * 8 + 1, none⟩) hg).trans d1
        have lp := HLN.out p (by omega) h5
        go_wp2_with fail
        refine (HIH.out p (by omega) (by omega) h5 _ (HN.out.below HB1.out) (HC.out.below HB1.out)).mono ?_
        rintro e w2 ⟨v2, rfl, ho, hb⟩
        obtain ⟨g2, c2, rfl, _, _, hcell2⟩ := ho.row (ofN_ne l p)
        have HB2 := Lib.hid (HB1.out.trans (hb.mono HB1.out.size))
        have HO2 := Lib.hid (HO1.out.below hb)
        clear ho hb
        go_wp2_with (first | (at_builtin; (refine wpList_append_own _ rfl _ _ 27 rfl W.heap.size 3 i0 (.int .i64 0) 1 8 Tryd.underlying27 hinf hz0 hz1 hz2 rfl (by decide) _ ([s0]).length (([s0]).map (fun s => Value.int .i64 ((s : Nat) : Int))) rfl HO2.out ⟨g2, 0, none⟩ (ofN l p).length c2 ((ofN l p).map (fun s => Value.int .i64 ((s : Nat) : Int))) rfl (by simp) hcell2 (by intro u hu; obtain ⟨x, _, rfl⟩ := List.mem_map.1 hu; rfl) (by unfold maxLen; simp only [List.length_cons, List.length_nil]; omega) (by simp only [List.length_cons, List.length_nil]; omega) HB2.out.size ?_); intro v3 w3 hown hgrow hnil; have HO3 := Lib.hid (OwS.app (L := [s0]) (M := ofN l p) hown); have HB3 := Lib.hid (HB2.out.grown hgrow HB2.out.size (fun k hk => (World.ownsRow.lt HO2.out k hk).1)); clear hown hgrow hnil) | (at_builtin; (refine wpList_append_own _ rfl _ _ 27 rfl W.heap.size 3 i0 (.int .i64 0) 1 8 Tryd.underlying27 hinf hz0 hz1 hz2 rfl (by decide) _ ([s0] ++ ofN l p).length (([s0] ++ ofN l p).map (fun s => Value.int .i64 ((s : Nat) : Int))) rfl (World.ownsRow.alloc HO3.out _) ⟨w3.heap.size, 0, none⟩ 1 1 [.int .i64 (s1 : Nat)] rfl (by simp) (new_one w3 _ _) (by simp [Value.oneCell']) (by unfold maxLen; simp only [List.length_append, List.length_cons, List.length_nil]; omega) (by simp only [List.length_append, List.length_cons, List.length_nil]; omega) (by rw [World.size_alloc]; have := HB3.out.size; omega) ?_); intro v9 w9 hown hgrow hnil; have HO9 := Lib.hid (OwS.app (L := [s0] ++ ofN l p) (M := [s1]) hown); have HB9 := Lib.hid ((HB3.out.alloc HB3.out.size (.cells #[.int .i64 (s1 : Nat)] 3)).grown hgrow (by rw [World.size_alloc]; have := HB3.out.size; omega) (fun k hk => (World.ownsRow.lt HO3.out k hk).1)); clear hown hgrow hnil))
        go_ret
        first | exact ⟨_, rfl, by rw [HX.out]; exact HO9.out, HB9.out⟩ | exact ⟨by rw [HX.out]; exact HO9.out, HB9.out⟩
      · have hk' : k = 8 := hk
        subst hk'
        go_enter Tryd.func17, Tryd.ntmps17
        go_upto_region 12 with fail
        have HO1 := Lib.hid (OwS.one W s0 W.heap.size (Nat.le_refl _))
        have HB1 := Lib.hid (show Below W.heap.size W (W.alloc (.cells #[.int .i64 (s0 : Nat)] 3)) from (Below.refl _ _).alloc (Nat.le_refl _) _)
        generalize W.alloc (.cells #[.int .i64 (s0 : Nat)] 3) = w1 at *
        obtain ⟨v1, hv1⟩ : ∃ v, v = Value.slice (some ⟨W.heap.size, 0, none⟩) 1 1 := ⟨_, rfl⟩
        rw [← hv1] at HO1 ⊢
        clear hv1
        have e1 := (HB1.out.cell (p := ⟨g, off + q * 8 + 1, none⟩) hg).trans d1
        have lp := HLN.out p (by omega) h5
        go_wp2_with fail
        refine (HIH.out p (by omega) (by omega) h5 _ (HN.out.below HB1.out) (HC.out.below HB1.out)).mono ?_
        rintro e w2 ⟨v2, rfl, ho, hb⟩
        obtain ⟨g2, c2, rfl, _, _, hcell2⟩ := ho.row (ofN_ne l p)
        have HB2 := Lib.hid (HB1.out.trans (hb.mono HB1.out.size))
        have HO2 := Lib.hid (HO1.out.below hb)
        clear ho hb
        go_wp2_with (first | (at_builtin; (refine wpList_append_own _ rfl _ _ 27 rfl W.heap.size 3 i0 (.int .i64 0) 1 8 Tryd.underlying27 hinf hz0 hz1 hz2 rfl (by decide) _ ([s0]).length (([s0]).map (fun s => Value.int .i64 ((s : Nat) : Int))) rfl HO2.out ⟨g2, 0, none⟩ (ofN l p).length c2 ((ofN l p).map (fun s => Value.int .i64 ((s : Nat) : Int))) rfl (by simp) hcell2 (by intro u hu; obtain ⟨x, _, rfl⟩ := List.mem_map.1 hu; rfl) (by unfold maxLen; simp only [List.length_cons, List.length_nil]; omega) (by simp only [List.length_cons, List.length_nil]; omega) HB2.out.size ?_); intro v3 w3 hown hgrow hnil; have HO3 := Lib.hid (OwS.app (L := [s0]) (M := ofN l p) hown); have HB3 := Lib.hid (HB2.out.grown hgrow HB2.out.size (fun k hk => (World.ownsRow.lt HO2.out k hk).1)); clear hown hgrow hnil) | (at_builtin; (refine wpList_append_own _ rfl _ _ 27 rfl W.heap.size 3 i0 (.int .i64 0) 1 8 Tryd.underlying27 hinf hz0 hz1 hz2 rfl (by decide) _ ([s0] ++ ofN l p).length (([s0] ++ ofN l p).map (fun s => Value.int .i64 ((s : Nat) : Int))) rfl (World.ownsRow.alloc HO3.out _) ⟨w3.heap.size, 0, none⟩ 1 1 [.int .i64 (s1 : Nat)] rfl (by simp) (new_one w3 _ _) (by simp [Value.oneCell']) (by unfold maxLen; simp only [List.length_append, List.length_cons, List.length_nil]; omega) (by simp only [List.length_append, List.length_cons, List.length_nil]; omega) (by rw [World.size_alloc]; have := HB3.out.size; omega) ?_); intro v9 w9 hown hgrow hnil; have HO9 := Lib.hid (OwS.app (L := [s0] ++ ofN l p) (M := [s1]) hown); have HB9 := Lib.hid ((HB3.out.alloc HB3.out.size (.cells #[.int .i64 (s1 : Nat)] 3)).grown hgrow (by rw [World.size_alloc]; have := HB3.out.size; omega) (fun k hk => (World.ownsRow.lt HO3.out k hk).1)); clear hown hgrow hnil))
        go_ret
        first | exact ⟨_, rfl, by rw [HX.out]; exact HO9.out, HB9.out⟩ | exact ⟨by rw [HX.out]; exact HO9.out, HB9.out⟩
    · have HX := Lib.hid (show ofN l q = [s0] ++ ofN l p ++ ofN l r ++ [s1] by rw [HEN.out, h9]; simp)
      clear HEN h9
      go_enter Tryd.func17, Tryd.ntmps17
      go_upto_region 4 with fail
      have HO1 := Lib.hid (OwS.one W s0 W.heap.size (Nat.le_refl _))
      have HB1 := Lib.hid (show Below W.heap.size W (W.alloc (.cells #[.int .i64 (s0 : Nat)] 3)) from (Below.refl _ _).alloc (Nat.le_refl _) _)
      generalize W.alloc (.cells #[.int .i64 (s0 : Nat)] 3) = w1 at *
      obtain ⟨v1, hv1⟩ : ∃ v, v = Value.slice (some ⟨W.heap.size, 0, none⟩) 1 1 := ⟨_, rfl⟩
      rw [← hv1] at HO1 ⊢
      clear hv1
      have e1 := (HB1.out.cell (p := ⟨g, off + q * 8 + 1, none⟩) hg).trans d1
      have lp := HLN.out p (by omega) h7
      have lr := HLN.out r (by omega) h8
      go_wp2_with fail
      refine (HIH.out p h6 (by omega) h7 _ (HN.out.below HB1.out) (HC.out.below HB1.out)).mono ?_
      rintro e w2 ⟨v2, rfl, ho, hb⟩
      obtain ⟨g2, c2, rfl, _, _, hcell2⟩ := ho.row (ofN_ne l p)
      have HB2 := Lib.hid (HB1.out.trans (hb.mono HB1.out.size))
      have HO2 := Lib.hid (HO1.out.below hb)
      clear ho hb
      go_wp2_with (at_builtin; (refine wpList_append_own _ rfl _ _ 27 rfl W.heap.size 3 i0 (.int .i64 0) 1 8 Tryd.underlying27 hinf hz0 hz1 hz2 rfl (by decide) _ ([s0]).length (([s0]).map (fun s => Value.int .i64 ((s : Nat) : Int))) rfl HO2.out ⟨g2, 0, none⟩ (ofN l p).length c2 ((ofN l p).map (fun s => Value.int .i64 ((s : Nat) : Int))) rfl (by simp) hcell2 (by intro u hu; obtain ⟨x, _, rfl⟩ := List.mem_map.1 hu; rfl) (by unfold maxLen; simp only [List.length_cons, List.length_nil]; omega) (by simp only [List.length_cons, List.length_nil]; omega) HB2.out.size ?_); intro v3 w3 hown hgrow hnil; have HO3 := Lib.hid (OwS.app (L := [s0]) (M := ofN l p) hown); have HB3 := Lib.hid (HB2.out.grown hgrow HB2.out.size (fun k hk => (World.ownsRow.lt HO2.out k hk).1)); clear hown hgrow hnil; have e2 := (HB3.out.cell (p := ⟨g, off + q * 8 + 2, none⟩) hg).trans d2)
      refine (HIH.out r (by omega) (by omega) h8 _ (HN.out.below HB3.out) (HC.out.below HB3.out)).mono ?_
      rintro e w4 ⟨v4, rfl, ho, hb⟩
      obtain ⟨g4, c4, rfl, _, _, hcell4⟩ := ho.row (ofN_ne l r)
      have HB4 := Lib.hid (HB3.out.trans (hb.mono HB3.out.size))
      have HO4 := Lib.hid (HO3.out.below hb)
      clear ho hb
      go_wp2_with (first | (at_builtin; (refine wpList_append_own _ rfl _ _ 27 rfl W.heap.size 3 i0 (.int .i64 0) 1 8 Tryd.underlying27 hinf hz0 hz1 hz2 rfl (by decide) _ ([s0] ++ ofN l p).length (([s0] ++ ofN l p).map (fun s => Value.int .i64 ((s : Nat) : Int))) rfl HO4.out ⟨g4, 0, none⟩ (ofN l r).length c4 ((ofN l r).map (fun s => Value.int .i64 ((s : Nat) : Int))) rfl (by simp) hcell4 (by intro u hu; obtain ⟨x, _, rfl⟩ := List.mem_map.1 hu; rfl) (by unfold maxLen; simp only [List.length_append, List.length_cons, List.length_nil]; omega) (by simp only [List.length_append, List.length_cons, List.length_nil]; omega) HB4.out.size ?_); intro v5 w5 hown hgrow hnil; have HO5 := Lib.hid (OwS.app (L := [s0] ++ ofN l p) (M := ofN l r) hown); have HB5 := Lib.hid (HB4.out.grown hgrow HB4.out.size (fun k hk => (World.ownsRow.lt HO4.out k hk).1)); clear hown hgrow hnil) | (at_builtin; (refine wpList_append_own _ rfl _ _ 27 rfl W.heap.size 3 i0 (.int .i64 0) 1 8 Tryd.underlying27 hinf hz0 hz1 hz2 rfl (by decide) _ ([s0] ++ ofN l p ++ ofN l r).length (([s0] ++ ofN l p ++ ofN l r).map (fun s => Value.int .i64 ((s : Nat) : Int))) rfl (World.ownsRow.alloc HO5.out _) ⟨w5.heap.size, 0, none⟩ 1 1 [.int .i64 (s1 : Nat)] rfl (by simp) (new_one w5 _ _) (by simp [Value.oneCell']) (by unfold maxLen; simp only [List.length_append, List.length_cons, List.length_nil]; omega) (by simp only [List.length_append, List.length_cons, List.length_nil]; omega) (by rw [World.size_alloc]; have := HB5.out.size; omega) ?_); intro v9 w9 hown hgrow hnil; have HO9 := Lib.hid (OwS.app (L := [s0] ++ ofN l p ++ ofN l r) (M := [s1]) hown); have HB9 := Lib.hid ((HB5.out.alloc HB5.out.size (.cells #[.int .i64 (s1 : Nat)] 3)).grown hgrow (by rw [World.size_alloc]; have := HB5.out.size; omega) (fun k hk => (World.ownsRow.lt HO5.out k hk).1)); clear hown hgrow hnil))
      go_ret
      first | exact ⟨_, rfl, by rw [HX.out]; exact HO9.out, HB9.out⟩ | exact ⟨by rw [HX.out]; exact HO9.out, HB9.out⟩
    · have cp := hcc p (by omega)
      have hpI : (p : Int) < (l.length : Int) := by omega
      have hpd : decide (p < l.length) = true := decide_eq_true (by omega)
      rcases h7 with ⟨h7, h8⟩ | ⟨hna, h7, h8⟩
      · have HX := Lib.hid (show ofN l q = [s0] ++ ofN l p ++ [s1] by rw [HEN.out, h8] <;> rfl)
        rw [h7] at cp
        clear HEN h8
        go_enter Tryd.func17, Tryd.ntmps17
        go_upto_region 8 with fail
        have HO1 := Lib.hid (OwS.one W s0 W.heap.size (Nat.le_refl _))
        have HB1 := Lib.hid (show Below W.heap.size W (W.alloc (.cells #[.int .i64 (s0 : Nat)] 3)) from (Below.refl _ _).alloc (Nat.le_refl _) _)
        generalize W.alloc (.cells #[.int .i64 (s0 : Nat)] 3) = w1 at *
        obtain ⟨v1, hv1⟩ : ∃ v, v = Value.slice (some ⟨W.heap.size, 0, none⟩) 1 1 := ⟨_, rfl⟩
        rw [← hv1] at HO1 ⊢
        clear hv1
        have e1 := (HB1.out.cell (p := ⟨g, off + q * 8 + 1, none⟩) hg).trans d1
        have lp := HLN.out p (by omega) h7
        go_wp2_with fail
        refine (HIH.out p h6 (by omega) h7 _ (HN.out.below HB1.out) (HC.out.below HB1.out)).mono ?_
        rintro e w2 ⟨v2, rfl, ho, hb⟩
        obtain ⟨g2, c2, rfl, _, _, hcell2⟩ := ho.row (ofN_ne l p)
        have HB2 := Lib.hid (HB1.out.trans (hb.mono HB1.out.size))
        have HO2 := Lib.hid (HO1.out.below hb)
        clear ho hb
        go_wp2_with (first | (at_builtin; (refine wpList_append_own _ rfl _ _ 27 rfl W.heap.size 3 i0 (.int .i64 0) 1 8 Tryd.underlying27 hinf hz0 hz1 hz2 rfl (by decide) _ ([s0]).length (([s0]).map (fun s => Value.int .i64 ((s : Nat) : Int))) rfl HO2.out ⟨g2, 0, none⟩ (ofN l p).length c2 ((ofN l p).map (fun s => Value.int .i64 ((s : Nat) : Int))) rfl (by simp) hcell2 (by intro u hu; obtain ⟨x, _, rfl⟩ := List.mem_map.1 hu; rfl) (by unfold maxLen; simp only [List.length_cons, List.length_nil]; omega) (by simp only [List.length_cons, List.length_nil]; omega) HB2.out.size ?_); intro v3 w3 hown hgrow hnil; have HO3 := Lib.hid (OwS.app (L := [s0]) (M := ofN l p) hown); have HB3 := Lib.hid (HB2.out.grown hgrow HB2.out.size (fun k hk => (World.ownsRow.lt HO2.out k hk).1)); clear hown hgrow hnil) | (at_builtin; (refine wpList_append_own _ rfl _ _ 27 rfl W.heap.size 3 i0 (.int .i64 0) 1 8 Tryd.underlying27 hinf hz0 hz1 hz2 rfl (by decide) _ ([s0] ++ ofN l p).length (([s0] ++ ofN l p).map (fun s => Value.int .i64 ((s : Nat) : Int))) rfl (World.ownsRow.alloc HO3.out _) ⟨w3.heap.size, 0, none⟩ 1 1 [.int .i64 (s1 : Nat)] rfl (by simp) (new_one w3 _ _) (by simp [Value.oneCell']) (by unfold maxLen; simp only [List.length_append, List.length_cons, List.length_nil]; omega) (by simp only [List.length_append, List.length_cons, List.length_nil]; omega) (by rw [World.size_alloc]; have := HB3.out.size; omega) ?_); intro v9 w9 hown hgrow hnil; have HO9 := Lib.hid (OwS.app (L := [s0] ++ ofN l p) (M := [s1]) hown); have HB9 := Lib.hid ((HB3.out.alloc HB3.out.size (.cells #[.int .i64 (s1 : Nat)] 3)).grown hgrow (by rw [World.size_alloc]; have := HB3.out.size; omega) (fun k hk => (World.ownsRow.lt HO3.out k hk).1)); clear hown hgrow hnil))
        go_ret
        first | exact ⟨_, rfl, by rw [HX.out]; exact HO9.out, HB9.out⟩ | exact ⟨by rw [HX.out]; exact HO9.out, HB9.out⟩
      · have HX := Lib.hid (show ofN l q = [s0] ++ ofN l r ++ [s1] by rw [HEN.out, h8] <;> rfl)
        rw [hna] at cp
        clear HEN h8
        go_enter Tryd.func17, Tryd.ntmps17
        go_upto_region 9 with fail
        have HO1 := Lib.hid (OwS.one W s0 W.heap.size (Nat.le_refl _))
        have HB1 := Lib.hid (show Below W.heap.size W (W.alloc (.cells #[.int .i64 (s0 : Nat)] 3)) from (Below.refl _ _).alloc (Nat.le_refl _) _)
        generalize W.alloc (.cells #[.int .i64 (s0 : Nat)] 3) = w1 at *
        obtain ⟨v1, hv1⟩ : ∃ v, v = Value.slice (some ⟨W.heap.size, 0, none⟩) 1 1 := ⟨_, rfl⟩
        rw [← hv1] at HO1 ⊢
        clear hv1
        have e1 := (HB1.out.cell (p := ⟨g, off + q * 8 + 2, none⟩) hg).trans d2
        have lp := HLN.out r (by omega) h7
        go_wp2_with fail
        refine (HIH.out r (by omega) (by omega) h7 _ (HN.out.below HB1.out) (HC.out.below HB1.out)).mono ?_
        rintro e w2 ⟨v2, rfl, ho, hb⟩
        obtain ⟨g2, c2, rfl, _, _, hcell2⟩ := ho.row (ofN_ne l r)
        have HB2 := Lib.hid (HB1.out.trans (hb.mono HB1.out.size))
        have HO2 := Lib.hid (HO1.out.below hb)
        clear ho hb
        go_wp2_with (first | (at_builtin; (refine wpList_append_own _ rfl _ _ 27 rfl W.heap.size 3 i0 (.int .i64 0) 1 8 Tryd.underlying27 hinf hz0 hz1 hz2 rfl (by decide) _ ([s0]).length (([s0]).map (fun s => Value.int .i64 ((s : Nat) : Int))) rfl HO2.out ⟨g2, 0, none⟩ (ofN l r).length c2 ((ofN l r).map (fun s => Value.int .i64 ((s : Nat) : Int))) rfl (by simp) hcell2 (by intro u hu; obtain ⟨x, _, rfl⟩ := List.mem_map.1 hu; rfl) (by unfold maxLen; simp only [List.length_cons, List.length_nil]; omega) (by simp only [List.length_cons, List.length_nil]; omega) HB2.out.size ?_); intro v3 w3 hown hgrow hnil; have HO3 := Lib.hid (OwS.app (L := [s0]) (M := ofN l r) hown); have HB3 := Lib.hid (HB2.out.grown hgrow HB2.out.size (fun k hk => (World.ownsRow.lt HO2.out k hk).1)); clear hown hgrow hnil) | (at_builtin; (refine wpList_append_own _ rfl _ _ 27 rfl W.heap.size 3 i0 (.int .i64 0) 1 8 Tryd.underlying27 hinf hz0 hz1 hz2 rfl (by decide) _ ([s0] ++ ofN l r).length (([s0] ++ ofN l r).map (fun s => Value.int .i64 ((s : Nat) : Int))) rfl (World.ownsRow.alloc HO3.out _) ⟨w3.heap.size, 0, none⟩ 1 1 [.int .i64 (s1 : Nat)] rfl (by simp) (new_one w3 _ _) (by simp [Value.oneCell']) (by unfold maxLen; simp only [List.length_append, List.length_cons, List.length_nil]; omega) (by simp only [List.length_append, List.length_cons, List.length_nil]; omega) (by rw [World.size_alloc]; have := HB3.out.size; omega) ?_); intro v9 w9 hown hgrow hnil; have HO9 := Lib.hid (OwS.app (L := [s0] ++ ofN l r) (M := [s1]) hown); have HB9 := Lib.hid ((HB3.out.alloc HB3.out.size (.cells #[.int .i64 (s1 : Nat)] 3)).grown hgrow (by rw [World.size_alloc]; have := HB3.out.size; omega) (fun k hk => (World.ownsRow.lt HO3.out k hk).1)); clear hown hgrow hnil))
        go_ret
        first | exact ⟨_, rfl, by rw [HX.out]; exact HO9.out, HB9.out⟩ | exact ⟨by rw [HX.out]; exact HO9.out, HB9.out⟩
end Go.Proofs.YtajlcaconnkodaaDoor

/- The document's terms: Right, Low, Up. Stage 10. -/
import Derived.Test.YtlhlgohgmbkaoaaIt
import Derived.Laws.Slices
namespace Go.Proofs.Ytlhlgohgmbkaoaa
open Go.RowKit BS

/-- The node whose part x is, of the first i nodes. -/
def upA (l : List NdN) (i x : Nat) : Int := match upF l x with | some j => if j < i then (j : Int) else -1 | none => -1
theorem upA_zero (l : List NdN) (x : Nat) : upA l 0 x = -1 := by
  unfold upA
  cases upF l x with
  | none => rfl
  | some j => exact if_neg (Nat.not_lt_zero j)
theorem upA_end (l : List NdN) (x : Nat) : upA l l.length x = upT l x := by
  unfold upA upT
  cases hu : upF l x with
  | none => rfl
  | some j => exact if_pos (up_some l x j hu).1
theorem upA_step (l : List NdN) (h : TermQ l) (i : Nat) (hi : i < l.length) (x : Nat) : upA l (i + 1) x = if (x : Int) ∈ partsT l i then (i : Int) else upA l i x := by
  by_cases hx : (x : Int) ∈ partsT l i
  · rw [if_pos hx]
    unfold upA
    rw [up_of l h i hi x hx]
    exact if_pos (by omega)
  · rw [if_neg hx]
    unfold upA
    cases hu : upF l x with
    | none => rfl
    | some j =>
      have hj : j ≠ i := fun e => hx (by rw [← e]; exact (up_some l x j hu).2)
      by_cases h1 : j < i
      · show (if j < i + 1 then _ else _) = (if j < i then _ else _)
        rw [if_pos h1, if_pos (by omega)]
      · show (if j < i + 1 then _ else _) = (if j < i then _ else _)
        rw [if_neg h1, if_neg (by omega)]
/-- A node's parts. -/
theorem node_parts (l : List NdN) (h : TermQ l) (i : Nat) (hi : i < l.length) :
    (l[i].kids = -1 ∧ l[i].n = -1 ∧ partsT l i = []) ∨ (∃ a : Nat, l[i].kids = a ∧ a < i ∧ l[i].n = -1 ∧ partsT l i = [(a : Int)]) ∨
    (∃ a b : Nat, l[i].kids = a ∧ a < i ∧ l[i].n = b ∧ b < i ∧ partsT l i = [(a : Int), (b : Int)]) := by
  obtain ⟨s, _, hf⟩ := h.fine i hi
  obtain ⟨hk, _, _, _⟩ := (fineT_iff l s i l[i]).1 hf
  obtain ⟨_, h0, h2⟩ := (kindT_two l[i]).1 hk
  have hp := parts_as l h i hi
  have hlt := part_lt l h i hi
  unfold partsT at hlt ⊢
  rcases pc_kinds l[i].kind with c | c | c
  · rw [c, if_neg (by decide), if_neg (by decide)] at hp
    exact .inl ⟨h0 c, h2 (by omega), hp⟩
  · rw [c, if_neg (by decide), if_pos rfl] at hp
    obtain ⟨h3, h4⟩ := hlt l[i].kids (by rw [hp]; simp)
    exact .inr (.inl ⟨l[i].kids.toNat, by omega, by omega, h2 (by omega), by rw [hp, Int.toNat_of_nonneg h3]⟩)
  · rw [c, if_pos rfl] at hp
    obtain ⟨h3, h4⟩ := hlt l[i].kids (by rw [hp]; simp)
    obtain ⟨h5, h6⟩ := hlt l[i].n (by rw [hp]; simp)
    exact .inr (.inr ⟨l[i].kids.toNat, l[i].n.toNat, by omega, by omega, by omega, by omega, by rw [hp, Int.toNat_of_nonneg h3, Int.toNat_of_nonneg h5]⟩)
def upsT (l : List NdN) : List Int := if rightT l = true then (List.range l.length).map (upT l) else []

set_option maxRecDepth 100000 in
set_option maxHeartbeats 4000000 in
theorem tRight_calls (l : List NdN) (hl : l.length ≤ 1000) (a : Option Addr) (cap : Nat) (w : World) (h : NodesAt l a w) :
    Calls Try.prog 9 #[.slice a l.length cap] w fun e w' => e = .returned (.bool (rightT l)) ∧ Below w.heap.size w w' := by
  have HL := Lib.hid (lows_calls l hl a cap w h)
  clear h
  cases hr : rightT l with
  | false =>
    have HR := Lib.hid hr
    clear hr
    go_enter Try.func9, Try.ntmps9
    go_wp2_with fail
    refine HL.out.mono ?_
    rintro e w1 ⟨b, c, rfl, hi, hn, hb⟩
    obtain ⟨rfl, rfl⟩ := hn HR.out
    rw [lowsT_not l HR.out]
    clear hi hn HL
    go_wp2_with fail
    go_ret
    exact ⟨rfl, hb⟩
  | true =>
    obtain ⟨h1, _, _⟩ := of_decide_eq_true hr
    have hne : lowsT l ≠ [] := by
      rw [lowsT_is l hr]
      intro h0
      have := congrArg List.length h0
      rw [List.length_map, List.length_range, List.length_nil] at this
      rw [this, trT] at h1
      cases h1
    have HNE := Lib.hid hne
    clear hr h1 hne
    go_enter Try.func9, Try.ntmps9
    go_wp2_with fail
    refine HL.out.mono ?_
    rintro e w1 ⟨b, c, rfl, hi, hn, hb⟩
    obtain ⟨g, o, rfl, _, _, hcc⟩ := hi HNE.out
    clear hn hi HL hcc
    go_wp2_with fail
    go_ret
    exact ⟨rfl, hb⟩
set_option maxRecDepth 100000 in
set_option maxHeartbeats 4000000 in
theorem tLow_calls (l : List NdN) (hl : l.length ≤ 1000) (a : Option Addr) (cap : Nat) (w : World) (h : NodesAt l a w) :
    Calls Try.prog 12 #[.slice a l.length cap] w fun e w' => ∃ b c, e = .returned (.slice b (lowsT l).length c) ∧ IntsB w.heap.size (lowsT l) b w' ∧ Below w.heap.size w w' := by
  have HL := Lib.hid (lows_calls l hl a cap w h)
  clear h
  go_enter Try.func12, Try.ntmps12
  go_wp2_with fail
  refine HL.out.mono ?_
  rintro e w1 ⟨b, c, rfl, hi, hn, hb⟩
  have HI := Lib.hid hi
  clear HL hn hi
  go_wp2_with fail
  go_ret
  exact ⟨b, c, rfl, HI.out, hb⟩
set_option maxRecDepth 100000 in
set_option maxHeartbeats 8000000 in
theorem tUp_calls (l : List NdN) (hl : l.length ≤ 1000) (a : Option Addr) (cap : Nat) (w : World) (h : NodesAt l a w) :
    Calls Try.prog 14 #[.slice a l.length cap] w fun e w' => ∃ b c, e = .returned (.slice b (upsT l).length c) ∧ IntsB w.heap.size (upsT l) b w' ∧ Below w.heap.size w w' := by
  have HR := Lib.hid (tRight_calls l hl a cap w h)
  have HN := Lib.hid h
  clear h
  cases hr : rightT l with
  | false =>
    rw [hr] at HR
    have hu : upsT l = [] := by unfold upsT; rw [hr]; rfl
    rw [hu]
    clear hr hu
    go_enter Try.func14, Try.ntmps14
    go_wp2_with fail
    refine HR.out.mono ?_
    rintro e w1 ⟨rfl, hb⟩
    clear HR
    go_wp2_with fail
    go_ret
    exact ⟨none, 0, rfl, fun h => absurd rfl h, hb⟩
  | true =>
  rw [hr] at HR
  have hq := rightT_q l hr
  have hu : upsT l = (List.range l.length).map (upT l) := by unfold upsT; rw [hr]; rfl
  have hmk := fun W => run_make_row' (P := Try.prog) 26 3 (.int .i64 0) 8 Try.underlying26 (by kernel_rfl) rfl .i64 .i64 l.length (by omega) (by omega) W
  have hmz : (madeCells #[Value.int .i64 0] l.length).size = l.length := by simp [madeCells]
  generalize madeCells #[Value.int .i64 0] l.length = vs0 at *
  have HNP := Lib.hid (node_parts l hq)
  have HST := Lib.hid (upA_step l hq)
  have HUE := Lib.hid (upA_end l)
  have HUZ := Lib.hid (upA_zero l)
  have HU := Lib.hid hu
  have hlp := hq.pos
  clear hr hq hu
  go_enter Try.func14, Try.ntmps14
  go_wp2_with fail
  refine HR.out.mono ?_
  rintro e w1 ⟨rfl, hb⟩
  have HN1 := Lib.hid (HN.out.below hb)
  have hS0 := Blk.new w1 vs0 3
  have HBW := Lib.hid hb
  have hz1 := hb.size
  have HCE := Lib.hid (fun W (hW : Below w1.heap.size w1 W) => HN1.out.below hW)
  have HW0 := Lib.hid ((Below.refl w1.heap.size w1).alloc (Nat.le_refl _) (.cells vs0 3))
  clear HR hb HN HN1
  go_upto_region 4 with fail
  generalize w1.alloc (.cells vs0 3) = w2 at *
  clear hmk
  go_upto_region 5 with fail
  go_loopw [4] (fun vi wr => ∃ i : Nat, i ≤ l.length ∧ vi = .int .i64 i ∧ (∃ vs : Array Value, vs.size = l.length ∧ (∀ j, j < i → vs[j]? = some (.int .i64 (-1))) ∧ Blk wr w1.heap.size vs 3) ∧ Below w1.heap.size w1 wr) (fun vi _ => l.length - (intOf vi).toNat)
  case atStart => exact ⟨0, Nat.zero_le _, rfl, ⟨vs0, hmz, fun j hj => by omega, hS0⟩, HW0.out⟩
  case round =>
    clear hS0 HW0 hmz
    obtain ⟨i, hi, rfl, ⟨vs, hvs, hno, hS⟩, hB⟩ := hrel
    by_cases hlt : i < l.length
    · have hdI : decide ((i : Int) < (l.length : Int)) = true := by rw [decide_eq_true_iff]; omega
      have hd : decide (i < l.length) = true := decide_eq_true hlt
      have hii : (i : Int) < (l.length : Int) := by omega
      obtain ⟨old, hold⟩ : ∃ old, vs[i]? = some old := ⟨vs[i]'(by omega), by simp [show i < vs.size by omega]⟩
      have hci := (hS.cell i).trans hold
      have hfi := hS.frozen i
      have xq : IntKind.i64.wrap ((i : Int) + 1) = (i : Int) + 1 := IntWalk.i64_in _ (by omega)
      have HS := Lib.hid (hS.set i (.int .i64 (-1)))
      have HB := Lib.hid (below_set hB (Nat.le_refl _) i (.int .i64 (-1)))
      have HNO := Lib.hid hno
      clear hno hS hB hold
      go_wp2_with fail
      go_roundw
      case rel => exact ⟨i + 1, by omega, by simp, ⟨vs.setIfInBounds i (.int .i64 (-1)), by simp [hvs], fun j hj => by
        by_cases hji : j = i
        · subst hji; simp [hvs, hlt]
        · rw [Array.getElem?_setIfInBounds_ne (by omega)]; exact HNO.out j (by omega), HS.out⟩, HB.out⟩
      case measure => simp [intOf]; omega
    · obtain rfl : i = l.length := by omega
      have hdI : decide ((l.length : Int) < (l.length : Int)) = false := by simp
      have hS1 := hS
      have hB1 := hB
      have HNO1 := Lib.hid hno
      clear hno hS hB
      go_upto_region 9 with fail
      go_loopw [5] (fun vi wr => ∃ i : Nat, i ≤ l.length ∧ vi = .int .i64 i ∧ (∃ vs : Array Value, vs.size = l.length ∧ (∀ x, x < l.length → vs[x]? = some (.int .i64 (upA l i x))) ∧ Blk wr w1.heap.size vs 3) ∧ Below w1.heap.size w1 wr) (fun vi _ => l.length - (intOf vi).toNat)
      case atStart => exact ⟨0, Nat.zero_le _, rfl, ⟨vs, hvs, fun x hx => by rw [HUZ.out]; exact HNO1.out x hx, hS1⟩, hB1⟩
      case round =>
        clear hS1 hB1 HNO1 hvs
        obtain ⟨i, hi, rfl, ⟨us, hus, hno, hS⟩, hB⟩ := hrel
        have HNO := Lib.hid hno
        clear hno
        by_cases hlt : i < l.length
        · have hdI : decide ((i : Int) < (l.length : Int)) = true := by rw [decide_eq_true_iff]; omega
          have hd : decide (i < l.length) = true := decide_eq_true hlt
          have hii : (i : Int) < (l.length : Int) := by omega
          have xq : IntKind.i64.wrap ((i : Int) + 1) = (i : Int) + 1 := IntWalk.i64_in _ (by omega)
          obtain ⟨g, off, rfl, hg, hcc⟩ := HCE.out _ hB (by rintro rfl; simp at hlt)
          have c1 := hcc i hlt 1 (by decide)
          have c2 := hcc i hlt 2 (by decide)
          simp only [ndA, List.getElem?_toArray, List.getElem?_cons_zero, List.getElem?_cons_succ] at c1 c2
          have hst := HST.out i hlt
          have hgw : g < w1.heap.size := by
            obtain ⟨g', o', eg, h1, _⟩ := HCE.out w1 (Below.refl _ _) (by rintro rfl; simp at hlt)
            cases eg
            exact h1
          rcases HNP.out i hlt with ⟨e1, e2, e3⟩ | ⟨x, e1, hx, e2, e3⟩ | ⟨x, y, e1, hx, e2, hy, e3⟩
          · rw [e1] at c1
            rw [e2] at c2
            have HE := Lib.hid (show ∀ z, z < l.length → us[z]? = some (.int .i64 (upA l (i + 1) z)) from fun z hz => by
              rw [hst z, if_neg (by rw [e3]; exact List.not_mem_nil)]
              exact HNO.out z hz)
            have HS := Lib.hid hS
            have HB := Lib.hid hB
            clear hst e1 e2 e3 hcc hS hB
            go_wp2_with fail
            go_roundw
            case rel => exact ⟨i + 1, by omega, by simp, ⟨us, hus, HE.out, HS.out⟩, HB.out⟩
            case measure => simp [intOf]; omega
          · rw [e1] at c1
            rw [e2] at c2
            have hxl : x < l.length := by omega
            have hxI : (x : Int) < (l.length : Int) := by omega
            have hxd : decide (x < l.length) = true := decide_eq_true hxl
            have hx0 : decide ((0 : Int) ≤ (x : Int)) = true := by rw [decide_eq_true_iff]; omega
            have hci := (hS.cell x).trans (HNO.out x hxl)
            have hfi := hS.frozen x
            have HE := Lib.hid (show ∀ z, z < l.length → (us.setIfInBounds x (.int .i64 (i : Int)))[z]? = some (.int .i64 (upA l (i + 1) z)) from fun z hz => by
              rw [hst z, e3]
              by_cases hzx : z = x
              · subst hzx; rw [if_pos (List.mem_singleton.2 rfl)]; simp [hus, hz]
              · rw [if_neg (by rw [List.mem_singleton]; omega), Array.getElem?_setIfInBounds_ne (by omega)]
                exact HNO.out z hz)
            have d2 : (wr.setCell ⟨w1.heap.size, x, none⟩ (.int .i64 (i : Int))).cell? ⟨g, off + i * 8 + 2, none⟩ = some (.int .i64 (-1)) := (World.cell?_of_block (w := wr) (a := ⟨g, off + i * 8 + 2, none⟩) (Below.heap_setCell wr ⟨w1.heap.size, x, none⟩ _ g (Nat.ne_of_lt hgw))).trans c2
            have HS := Lib.hid (hS.set x (.int .i64 (i : Int)))
            have HB := Lib.hid (below_set hB (Nat.le_refl _) x (.int .i64 (i : Int)))
            clear hst e1 e2 e3 hcc hS hB
            go_wp2_with fail
            go_roundw
            case rel => exact ⟨i + 1, by omega, by simp, ⟨us.setIfInBounds x (.int .i64 (i : Int)), by simp [hus], HE.out, HS.out⟩, HB.out⟩
            case measure => simp [intOf]; omega
          · rw [e1] at c1
            rw [e2] at c2
            have hxl : x < l.length := by omega
            have hxI : (x : Int) < (l.length : Int) := by omega
            have hxd : decide (x < l.length) = true := decide_eq_true hxl
            have hx0 : decide ((0 : Int) ≤ (x : Int)) = true := by rw [decide_eq_true_iff]; omega
            have hyl : y < l.length := by omega
            have hyI : (y : Int) < (l.length : Int) := by omega
            have hyd : decide (y < l.length) = true := decide_eq_true hyl
            have hy0 : decide ((0 : Int) ≤ (y : Int)) = true := by rw [decide_eq_true_iff]; omega
            have hci := (hS.cell x).trans (HNO.out x hxl)
            have hfi := hS.frozen x
            have hS2 := hS.set x (.int .i64 (i : Int))
            obtain ⟨old, hold⟩ : ∃ old, (us.setIfInBounds x (.int .i64 (i : Int)))[y]? = some old := ⟨(us.setIfInBounds x (.int .i64 (i : Int)))[y]'(by simp [hus]; omega), by simp [hus, hyl]⟩
            have hcy := (hS2.cell y).trans hold
            have hfy := hS2.frozen y
            have HE := Lib.hid (show ∀ z, z < l.length → ((us.setIfInBounds x (.int .i64 (i : Int))).setIfInBounds y (.int .i64 (i : Int)))[z]? = some (.int .i64 (upA l (i + 1) z)) from fun z hz => by
              rw [hst z, e3]
              by_cases hzy : z = y
              · subst hzy; rw [if_pos (by simp)]; simp [hus, hz]
              · rw [Array.getElem?_setIfInBounds_ne (by omega)]
                by_cases hzx : z = x
                · subst hzx; rw [if_pos (by simp)]; simp [hus, hz]
                · rw [if_neg (by simp; omega), Array.getElem?_setIfInBounds_ne (by omega)]
                  exact HNO.out z hz)
            have d2 : (wr.setCell ⟨w1.heap.size, x, none⟩ (.int .i64 (i : Int))).cell? ⟨g, off + i * 8 + 2, none⟩ = some (.int .i64 (y : Int)) := (World.cell?_of_block (w := wr) (a := ⟨g, off + i * 8 + 2, none⟩) (Below.heap_setCell wr ⟨w1.heap.size, x, none⟩ _ g (Nat.ne_of_lt hgw))).trans c2
            have HS := Lib.hid (hS2.set y (.int .i64 (i : Int)))
            have HB := Lib.hid (below_set (below_set hB (Nat.le_refl _) x (.int .i64 (i : Int))) (Nat.le_refl _) y (.int .i64 (i : Int)))
            clear hst e1 e2 e3 hcc hS hB hS2 hold
            go_wp2_with fail
            go_roundw
            case rel => exact ⟨i + 1, by omega, by simp, ⟨(us.setIfInBounds x (.int .i64 (i : Int))).setIfInBounds y (.int .i64 (i : Int)), by simp [hus], HE.out, HS.out⟩, HB.out⟩
            case measure => simp [intOf]; omega
        · obtain rfl : i = l.length := by omega
          have hdI : decide ((l.length : Int) < (l.length : Int)) = false := by simp
          have HI := Lib.hid (show IntsB w.heap.size (upsT l) (some ⟨w1.heap.size, 0, none⟩) wr from fun _ => ⟨w1.heap.size, 0, rfl, hz1, hS.lt, fun j hj => by
            have hj2 : j < l.length := by rw [HU.out] at hj; simpa using hj
            rw [Nat.zero_add, hS.cell j, HNO.out j hj2, HUE.out]
            simp only [HU.out, List.getElem_map, List.getElem_range]⟩)
          have HLL := Lib.hid (show (upsT l).length = l.length by rw [HU.out]; simp)
          have HB := Lib.hid hB
          clear hS hB HNO
          go_wp2_with fail
          go_ret
          exact ⟨some ⟨w1.heap.size, 0, none⟩, l.length, by rw [HLL.out] <;> rfl, HI.out, HBW.out.trans (HB.out.mono hz1)⟩
end Go.Proofs.Ytlhlgohgmbkaoaa

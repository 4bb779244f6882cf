/- The document's terms: Deep. Stage 10. -/
import Derived.Test.YtlhlgohgmbkaoaaIs
namespace Go.Proofs.Ytlhlgohgmbkaoaa
open Go.RowKit BS

def deepsT (l : List NdN) : List Int := if rightT l = true then (List.range l.length).map (fun x => (deepT l x : Int)) else []
set_option maxRecDepth 100000 in
set_option maxHeartbeats 8000000 in
theorem tDeep_calls (l : List NdN) (hl : l.length ≤ 1000) (a : Option Addr) (cap : Nat) (w : World) (h : NodesAt l a w) :
    Calls Try.prog 16 #[.slice a l.length cap] w fun e w' => ∃ b c, e = .returned (.slice b (deepsT l).length c) ∧ IntsB w.heap.size (deepsT l) b w' ∧ Below w.heap.size w w' := by
  have HU := Lib.hid (tUp_calls l hl a cap w h)
  clear h
  cases hr : rightT l with
  | false =>
    have hu : upsT l = [] := by unfold upsT; rw [hr]; rfl
    have hd : deepsT l = [] := by unfold deepsT; rw [hr]; rfl
    rw [hu] at HU
    rw [hd]
    have hmk := fun W => run_make_row' (P := Try.prog) 26 3 (.int .i64 0) 8 Try.underlying26 (by kernel_rfl) rfl .i64 .i64 0 (by omega) (by omega) W
    generalize madeCells #[Value.int .i64 0] 0 = vs0 at *
    simp only [Int.natCast_zero] at hmk
    clear hr hu hd
    go_enter Try.func16, Try.ntmps16
    go_wp2_with fail
    refine HU.out.mono ?_
    rintro e w1 ⟨b, c, rfl, _, hb⟩
    have HB := Lib.hid (hb.alloc hb.size (.cells vs0 3))
    clear HU hb
    rw [List.length_nil]
    go_upto_region 3 with fail
    generalize w1.alloc (.cells vs0 3) = w2 at *
    clear hmk
    go_upto_region 4 with fail
    go_loopw [5] (fun vi wr => vi = .int .i64 (-1) ∧ w2 = wr) (fun _ _ => 0)
    case atStart => exact ⟨rfl, rfl⟩
    case round =>
      obtain ⟨rfl, rfl⟩ := hrel
      go_wp2_with fail
      go_ret
      exact ⟨some ⟨w1.heap.size, 0, none⟩, 0, rfl, fun h => absurd rfl h, HB.out⟩
  | true =>
  have hq := rightT_q l hr
  have hu : upsT l = (List.range l.length).map (upT l) := by unfold upsT; rw [hr]; rfl
  have hd : deepsT l = (List.range l.length).map (fun x => (deepT l x : Int)) := by unfold deepsT; rw [hr]; rfl
  have hul : (upsT l).length = l.length := by rw [hu]; simp
  have hlp := hq.pos
  have hup : ∀ x (h : x < (upsT l).length), (upsT l)[x] = upT l x := fun x hx => by simp only [hu, List.getElem_map, List.getElem_range]
  have hne : upsT l ≠ [] := by intro h0; rw [h0] at hul; simp at hul; omega
  have hnode : ∀ x, x < l.length → (upT l x = -1 ∧ deepT l x = 1) ∨ (∃ j : Nat, upT l x = j ∧ x < j ∧ j < l.length ∧ deepT l x = deepT l j + 1) := fun x hx => by
    cases hf : upF l x with
    | none =>
      have e : x = l.length - 1 := (up_none l hq x hx).1 hf
      exact .inl ⟨by unfold upT; rw [hf], by rw [e]; exact deep_root l hq⟩
    | some j =>
      obtain ⟨h1, h2⟩ := up_gt l hq x j hf
      exact .inr ⟨j, by unfold upT; rw [hf], h1, h2, deep_up l hq x j hf⟩
  rw [hul] at HU
  have hmk := fun W => run_make_row' (P := Try.prog) 26 3 (.int .i64 0) 8 Try.underlying26 (by kernel_rfl) rfl .i64 .i64 l.length (by omega) (by omega) W
  have hmz : (madeCells #[Value.int .i64 0] l.length).size = l.length := by simp [madeCells]
  generalize madeCells #[Value.int .i64 0] l.length = vs0 at *
  have HND := Lib.hid hnode
  have HUP := Lib.hid hup
  have HD := Lib.hid hd
  have HDL := Lib.hid (deep_le l)
  have HNE := Lib.hid hne
  have HUL := Lib.hid hul
  have x0 : IntKind.i64.wrap ((l.length : Int) - 1) = (l.length : Int) - 1 := IntWalk.i64_in _ (by omega)
  clear hr hq hu hd hul hup hne hnode
  go_enter Try.func16, Try.ntmps16
  go_wp2_with fail
  refine HU.out.mono ?_
  rintro e w1 ⟨b, c, rfl, hib, hb⟩
  obtain ⟨gu, ou, rfl, _, hgu, hcu⟩ := hib HNE.out
  have HCU := Lib.hid (show ∀ (W : World), Below w1.heap.size w1 W → ∀ x, x < l.length → W.cell? ⟨gu, ou + x, none⟩ = some (.int .i64 (upT l x)) from fun W hW x hx => by
    have hx' : x < (upsT l).length := by rw [HUL.out]; exact hx
    rw [← HUP.out x hx']
    exact (hW.cell (p := ⟨gu, ou + x, none⟩) hgu).trans (hcu x hx'))
  have hS0 := Blk.new w1 vs0 3
  have HBW := Lib.hid hb
  have hz1 := hb.size
  have HW0 := Lib.hid ((Below.refl w1.heap.size w1).alloc (Nat.le_refl _) (.cells vs0 3))
  clear HU hb hib hcu HUP HNE HUL
  go_upto_region 3 with fail
  generalize w1.alloc (.cells vs0 3) = w2 at *
  clear hmk
  go_upto_region 4 with fail
  go_loopw [5] (fun vi wr => ∃ k : Nat, k ≤ l.length ∧ vi = .int .i64 ((k : Int) - 1) ∧ (∃ vs : Array Value, vs.size = l.length ∧ (∀ x, k ≤ x → x < l.length → vs[x]? = some (.int .i64 (deepT l x : Nat))) ∧ Blk wr w1.heap.size vs 3) ∧ Below w1.heap.size w1 wr) (fun vi _ => (intOf vi + 1).toNat)
  case atStart => exact ⟨l.length, Nat.le_refl _, rfl, ⟨vs0, hmz, fun x h1 h2 => by omega, hS0⟩, HW0.out⟩
  case round =>
    clear hS0 HW0 hmz
    obtain ⟨k, hk, rfl, ⟨vs, hvs, hno, hS⟩, hB⟩ := hrel
    have HNO := Lib.hid hno
    clear hno
    by_cases hk0 : k = 0
    · subst hk0
      have HI := Lib.hid (show IntsB w.heap.size (deepsT l) (some ⟨w1.heap.size, 0, none⟩) wr from fun _ => ⟨w1.heap.size, 0, rfl, hz1, hS.lt, fun j hj => by
        have hj2 : j < l.length := by rw [HD.out] at hj; simpa using hj
        rw [Nat.zero_add, hS.cell j, HNO.out j (Nat.zero_le _) hj2]
        simp only [HD.out, List.getElem_map, List.getElem_range]⟩)
      have HLL := Lib.hid (show (deepsT l).length = l.length by rw [HD.out]; simp)
      have HB := Lib.hid hB
      clear hS hB HNO
      go_wp2_with fail
      go_ret
      exact ⟨some ⟨w1.heap.size, 0, none⟩, l.length, by rw [HLL.out] <;> rfl, HI.out, HBW.out.trans (HB.out.mono hz1)⟩
    · obtain ⟨i, rfl⟩ : ∃ i, k = i + 1 := ⟨k - 1, by omega⟩
      have hi : i < l.length := by omega
      have e1 : ((i + 1 : Nat) : Int) - 1 = (i : Int) := by omega
      rw [e1]
      have hi0 : decide ((0 : Int) ≤ (i : Int)) = true := by rw [decide_eq_true_iff]; omega
      have hiI : (i : Int) < (l.length : Int) := by omega
      have hid : decide (i < l.length) = true := decide_eq_true hi
      have xq : IntKind.i64.wrap ((i : Int) - 1) = (i : Int) - 1 := IntWalk.i64_in _ (by omega)
      obtain ⟨old, hold⟩ : ∃ old, vs[i]? = some old := ⟨vs[i]'(by omega), by simp [show i < vs.size by omega]⟩
      have hci := (hS.cell i).trans hold
      have hfi := hS.frozen i
      have hS1 := hS.set i (.int .i64 1)
      have hB1 := below_set hB (Nat.le_refl _) i (.int .i64 1)
      have cu := HCU.out _ hB1 i hi
      rcases HND.out i hi with ⟨h1, h2⟩ | ⟨j, h1, h2, h3, h4⟩
      · rw [h1] at cu
        have HE := Lib.hid (show ∀ x, i ≤ x → x < l.length → (vs.setIfInBounds i (.int .i64 1))[x]? = some (.int .i64 (deepT l x : Nat)) from fun x hx1 hx2 => by
          by_cases hxi : x = i
          · subst hxi; rw [h2]; simp [hvs, hi]
          · rw [Array.getElem?_setIfInBounds_ne (by omega)]; exact HNO.out x (by omega) hx2)
        have HS := Lib.hid hS1
        have HB := Lib.hid hB1
        clear hS hB hS1 hB1 h1 h2 hold e1
        go_wp2_with fail
        go_roundw
        case rel => exact ⟨i, by omega, by simp, ⟨vs.setIfInBounds i (.int .i64 1), by simp [hvs], HE.out, HS.out⟩, HB.out⟩
        case measure => simp [intOf]
      · rw [h1] at cu
        have hj0 : decide ((0 : Int) ≤ (j : Int)) = true := by rw [decide_eq_true_iff]; omega
        have hjI : (j : Int) < (l.length : Int) := by omega
        have hjd : decide (j < l.length) = true := decide_eq_true h3
        have hdl := HDL.out j
        have cj : (wr.setCell ⟨w1.heap.size, i, none⟩ (.int .i64 1)).cell? ⟨w1.heap.size, j, none⟩ = some (.int .i64 (deepT l j : Nat)) := (hS1.cell j).trans (by rw [Array.getElem?_setIfInBounds_ne (by omega)]; exact HNO.out j (by omega) h3)
        have ci1 : (wr.setCell ⟨w1.heap.size, i, none⟩ (.int .i64 1)).cell? ⟨w1.heap.size, i, none⟩ = some (.int .i64 1) := (hS1.cell i).trans (by simp [hvs, hi])
        have fi1 := hS1.frozen i
        have xd : IntKind.i64.wrap ((deepT l j : Int) + 1) = (deepT l i : Int) := by rw [IntWalk.i64_in _ (by omega), h4]; rfl
        have HE := Lib.hid (show ∀ x, i ≤ x → x < l.length → ((vs.setIfInBounds i (.int .i64 1)).setIfInBounds i (.int .i64 (deepT l i : Nat)))[x]? = some (.int .i64 (deepT l x : Nat)) from fun x hx1 hx2 => by
          by_cases hxi : x = i
          · subst hxi; simp [hvs, hi]
          · rw [Array.getElem?_setIfInBounds_ne (by omega), Array.getElem?_setIfInBounds_ne (by omega)]; exact HNO.out x (by omega) hx2)
        have HS := Lib.hid (hS1.set i (.int .i64 (deepT l i : Nat)))
        have HB := Lib.hid (below_set hB1 (Nat.le_refl _) i (.int .i64 (deepT l i : Nat)))
        clear hS hB hS1 hB1 h1 h4 hold hdl e1
        go_wp2_with fail
        go_roundw
        case rel => exact ⟨i, by omega, by simp, ⟨(vs.setIfInBounds i (.int .i64 1)).setIfInBounds i (.int .i64 (deepT l i : Nat)), by simp [hvs], HE.out, HS.out⟩, HB.out⟩
        case measure => simp [intOf]
end Go.Proofs.Ytlhlgohgmbkaoaa

/- The laws of stage 6: AstParts. -/
import Derived.Test.YtjgokhhpfgnceaaDoorAt
import Derived.Outline
import Derived.Deep.DeepCutAuto
namespace Go.Proofs.YtjgokhhpfgnceaaDoor
open Go.RowKit BS

/-- Two arrays of counts in the blocks from B on; the rest is as it was. -/
def PW (w4 : World) (n : Nat) (hd td : Nat → Nat) (W : World) : Prop :=
  ∃ H T : Array Value, H.size = n ∧ T.size = n + 1 ∧ (∀ x, x < n → H[x]? = some (.int .i64 (hd x : Nat))) ∧ (∀ m, m ≤ n → T[m]? = some (.int .i64 (td m : Nat))) ∧ Blk W w4.heap.size H 3 ∧ Blk W (w4.heap.size + 1) T 3 ∧ Below w4.heap.size w4 W
theorem PW.base {w4 W : World} {n : Nat} {hd td : Nat → Nat} (h : PW w4 n hd td W) : Below w4.heap.size w4 W := by
  obtain ⟨_, _, _, _, _, _, _, _, h⟩ := h; exact h
theorem PW.lt {w4 W : World} {n : Nat} {hd td : Nat → Nat} (h : PW w4 n hd td W) : w4.heap.size + 2 ≤ W.heap.size := by
  obtain ⟨_, _, _, _, _, _, _, h, _⟩ := h; have := h.lt; omega
theorem PW.below {w4 W W' : World} {n : Nat} {hd td : Nat → Nat} (h : PW w4 n hd td W) (hb : Below W.heap.size W W') : PW w4 n hd td W' := by
  have hl := h.lt
  obtain ⟨H, T, h1, h2, h3, h4, h5, h6, h7⟩ := h
  exact ⟨H, T, h1, h2, h3, h4, h5.below hb h5.lt, h6.below hb h6.lt, h7.trans (hb.mono (by omega))⟩
theorem PW.drew {w4 W : World} {n : Nat} {hd td : Nat → Nat} (h : PW w4 n hd td W) : PW w4 n hd td W.drew := by
  obtain ⟨H, T, h1, h2, h3, h4, h5, h6, h7⟩ := h
  exact ⟨H, T, h1, h2, h3, h4, h5.drew, h6.drew, h7.drew⟩
theorem PW.congr {w4 W : World} {n : Nat} {hd td hd' td' : Nat → Nat} (h : PW w4 n hd td W) (e1 : ∀ x, x < n → hd x = hd' x) (e2 : ∀ m, m ≤ n → td m = td' m) : PW w4 n hd' td' W := by
  obtain ⟨H, T, h1, h2, h3, h4, h5, h6, h7⟩ := h
  exact ⟨H, T, h1, h2, fun x hx => by rw [h3 x hx, e1 x hx], fun m hm => by rw [h4 m hm, e2 m hm], h5, h6, h7⟩
theorem PW.cellH {w4 W : World} {n : Nat} {hd td : Nat → Nat} (h : PW w4 n hd td W) (x : Nat) (hx : x < n) : W.cell? ⟨w4.heap.size, x, none⟩ = some (.int .i64 (hd x : Nat)) ∧ W.frozen? ⟨w4.heap.size, x, none⟩ = false := by
  obtain ⟨H, T, h1, h2, h3, h4, h5, h6, h7⟩ := h
  exact ⟨(h5.cell x).trans (h3 x hx), h5.frozen x⟩
theorem PW.cellT {w4 W : World} {n : Nat} {hd td : Nat → Nat} (h : PW w4 n hd td W) (m : Nat) (hm : m ≤ n) : W.cell? ⟨w4.heap.size + 1, m, none⟩ = some (.int .i64 (td m : Nat)) ∧ W.frozen? ⟨w4.heap.size + 1, m, none⟩ = false := by
  obtain ⟨H, T, h1, h2, h3, h4, h5, h6, h7⟩ := h
  exact ⟨(h6.cell m).trans (h4 m hm), h6.frozen m⟩
theorem PW.setH {w4 W : World} {n : Nat} {hd td hd' : Nat → Nat} (h : PW w4 n hd td W) (x : Nat) (v : Int) (hv : v = (hd' x : Nat)) (hx : x < n) (e : ∀ y, y < n → y ≠ x → hd' y = hd y) : PW w4 n hd' td (W.setCell ⟨w4.heap.size, x, none⟩ (.int .i64 v)) := by
  obtain ⟨H, T, h1, h2, h3, h4, h5, h6, h7⟩ := h
  refine ⟨H.setIfInBounds x (.int .i64 v), T, by simp [h1], h2, fun y hy => ?_, h4, h5.set x _, h6.other (by omega) x _, below_set h7 (Nat.le_refl _) x _⟩
  by_cases hyx : y = x
  · subst hyx; simp [h1, hx, hv]
  · rw [Array.getElem?_setIfInBounds_ne (by omega), h3 y hy, e y hy hyx]
theorem PW.setT {w4 W : World} {n : Nat} {hd td td' : Nat → Nat} (h : PW w4 n hd td W) (m : Nat) (v : Int) (hv : v = (td' m : Nat)) (hm : m ≤ n) (e : ∀ y, y ≤ n → y ≠ m → td' y = td y) : PW w4 n hd td' (W.setCell ⟨w4.heap.size + 1, m, none⟩ (.int .i64 v)) := by
  obtain ⟨H, T, h1, h2, h3, h4, h5, h6, h7⟩ := h
  refine ⟨H, T.setIfInBounds m (.int .i64 v), h1, by simp [h2], h3, fun y hy => ?_, h5.other (by omega) m _, h6.set m _, below_set h7 (Nat.le_succ _) m _⟩
  by_cases hyx : y = m
  · subst hyx
    have hlt : y < T.size := by omega
    simp [hlt, hv]
  · rw [Array.getElem?_setIfInBounds_ne (by omega), h4 y hy, e y hy hyx]
/-- How many of the first i nodes have number m; none for 0. -/
def tdN (l : List NdN) (i m : Nat) : Nat := if m = 0 then 0 else toldN l i m
theorem tdN_step (l : List NdN) (i m : Nat) : tdN l (i + 1) m = tdN l i m + if m ≠ 0 ∧ nuN l i = m then 1 else 0 := by
  unfold tdN
  by_cases h : m = 0
  · rw [if_pos h, if_pos h, if_neg (by omega)]
  · rw [if_neg h, if_neg h, toldN_step]
    by_cases h2 : nuN l i = m
    · rw [if_pos h2, if_pos ⟨h, h2⟩]
    · rw [if_neg h2, if_neg (fun h3 => h2 h3.2)]
theorem count_take (kr : List Int) (k : Nat) (h : k < kr.length) (y : Int) : (kr.take (k + 1)).count y = (kr.take k).count y + if kr[k] = y then 1 else 0 := by
  rw [List.take_succ_eq_append_getElem h, List.count_append, List.count_singleton]
  congr 1
  by_cases h2 : kr[k] = y <;> simp [h2]
def SR22 (w0 : World) (gn on i g off : Nat) (nu kk : Int) (W : World) : Prop := (W.cell? ⟨gn, on + i, none⟩ = some (.int .i64 nu) ∧ W.cell? ⟨g, off + i * 8, none⟩ = some (.int .i64 kk)) ∧ W = w0

set_option maxRecDepth 100000 in
set_option maxHeartbeats 32000000 in
theorem parts6_calls (C : AstC) (l : List NdN) (hn : l.length ≤ 9223372036854775807) (a : Option Addr) (cap : Nat) (w : World) (h : NodesAt l a w) : Calls Tryd.prog 6 #[.slice a l.length cap] w fun e w' => e = .returned (.bool true) ∧ Below w.heap.size w w' := by
  by_cases hl : 60 < l.length
  · have HFW : Hid (∀ w, Calls Tryd.prog 8 #[.slice a l.length cap] w fun e w' => e = .returned (.bool false) ∧ w = w') := Lib.hid (fun w => by have := few_calls l.length hn a cap w; rw [decide_eq_false (by omega)] at this; exact this)
    have HSU := Lib.hid (sure6_calls C)
    clear C hl
    go_enter Tryd.func6, Tryd.ntmps6
    go_wp2_with fail
    refine (HFW.out _).mono ?_
    rintro e w1 ⟨rfl, rfl⟩
    clear HFW
    go_wp2_with fail
    refine (HSU.out _).mono ?_
    rintro e w1 ⟨rfl, hb⟩
    clear HSU
    go_wp2_with fail
    go_ret
    exact ⟨rfl, hb⟩
  have HFW : Hid (∀ w, Calls Tryd.prog 8 #[.slice a l.length cap] w fun e w' => e = .returned (.bool true) ∧ w = w') := Lib.hid (fun w => by have := few_calls l.length hn a cap w; rw [decide_eq_true (by omega)] at this; exact this)
  have HSU := Lib.hid (sure6_calls C)
  have HN := Lib.hid h
  have HB := Lib.hid (Below.refl w.heap.size w)
  have hl6 : l.length ≤ 1000000 := by omega
  have h1 := fun W h => C.formed l hl6 a cap W h
  by_cases hf : FormedN l
  case neg =>
    rw [decide_eq_false hf] at h1
    have H1 := Lib.hid h1
    clear C h hl h1 hf
    go_enter Tryd.func6, Tryd.ntmps6
    go_wp2_with fail
    refine (HFW.out _).mono ?_
    rintro e w1 ⟨rfl, rfl⟩
    clear HFW
    go_wp2_with fail
    refine (H1.out _ HN.out).mono ?_
    rintro e w2 ⟨rfl, hb⟩
    clear H1
    replace HN := Lib.hid (HN.out.below hb)
    replace HB := Lib.hid (HB.out.trans (hb.mono HB.out.size))
    clear hb
    go_wp2_with fail
    refine (HSU.out _).mono ?_
    rintro e wz ⟨rfl, hb⟩
    replace HN := Lib.hid (HN.out.below hb)
    replace HB := Lib.hid (HB.out.trans (hb.mono HB.out.size))
    clear hb
    clear HSU
    go_wp2_with fail
    go_ret
    exact ⟨rfl, HB.out⟩
  case pos =>
  rw [decide_eq_true hf] at h1
  have H1 := Lib.hid h1
  obtain ⟨hst, hkl, hrl, hsl, hRR⟩ := formed_stack l hf
  have hp := formed_pos l hf
  have hnl : (numsR l).length = l.length := by rw [numsR_len, hrl]
  have h2 := fun W h => C.sizes l hl6 a cap W h
  have h3 := fun W h => C.numbers l hl6 a cap W h
  rw [hrl] at h2
  rw [hnl] at h3
  have H2 := Lib.hid h2
  have H3 := Lib.hid h3
  have H4 := Lib.hid (fun (i : Nat) W h => C.kids l hl6 i a cap W h)
  have HROW := Lib.hid (kids_row l hf)
  have HLAST := Lib.hid (sizes_last l hf)
  have HHS := Lib.hid (heldN_step l hf)
  have HHA := Lib.hid (heldN_all l hf)
  have HHLE := Lib.hid (heldN_le l hf)
  have hnu := numsR_get l
  have hnle := nuN_le l
  have hnpos := nuN_pos l
  have htall := toldN_all l
  rw [hrl] at hnu hnle hnpos htall
  have HNU := Lib.hid hnu
  have HNLE := Lib.hid hnle
  have HNPOS := Lib.hid hnpos
  have HTALL := Lib.hid htall
  have HTS := Lib.hid (tdN_step l)
  have HTLE := Lib.hid (toldN_le l)
  have HKD := Lib.hid (kdN_get l)
  have HGS := Lib.hid (grpN_step l)
  have HGL := Lib.hid (grpN_le l)
  have HRL := Lib.hid hrl
  have HNL := Lib.hid hnl
  have hmk1 := fun W => run_make_row' (P := Tryd.prog) 26 3 (.int .i64 0) 8 Tryd.underlying26 (by kernel_rfl) rfl .i64 .i64 l.length (by omega) (by omega) W
  have hmk2 : ∀ W : World, (Instr.makeSlice 26 (.int .i64 ((l.length : Int) + 1)) (.int .i64 ((l.length : Int) + 1))).run Tryd.prog W = .ok (.slice (some ⟨W.heap.size, 0, none⟩) (l.length + 1) (l.length + 1)) (W.alloc (.cells (madeCells #[Value.int .i64 0] (l.length + 1)) 3)) := fun W => run_make_row' (P := Tryd.prog) 26 3 (.int .i64 0) 8 Tryd.underlying26 (by kernel_rfl) rfl .i64 .i64 (l.length + 1) (by omega) (by omega) W
  have hz1 : ∀ n t, t < n → (madeCells #[Value.int .i64 0] n)[t]? = some (.int .i64 0) := fun n t ht => by simp [madeCells, ht, Nat.mod_one]
  have hz2 : ∀ n, (madeCells #[Value.int .i64 0] n).size = n := fun n => by simp [madeCells]
  have HP0 : Hid (∀ W4 : World, PW W4 l.length (heldN l 0) (tdN l 0) ((W4.alloc (.cells (madeCells #[Value.int .i64 0] l.length) 3)).alloc (.cells (madeCells #[Value.int .i64 0] (l.length + 1)) 3))) := Lib.hid (fun W4 => by
    have b1 := Blk.new W4 (madeCells #[Value.int .i64 0] l.length) 3
    have b2 := Blk.new (W4.alloc (.cells (madeCells #[Value.int .i64 0] l.length) 3)) (madeCells #[Value.int .i64 0] (l.length + 1)) 3
    rw [World.size_alloc] at b2
    refine ⟨_, _, hz2 _, hz2 _, fun x hx => ?_, fun m hm => ?_, b1.alloc _, b2, by go_grown⟩
    · rw [hz1 _ _ hx]; rfl
    · rw [hz1 _ _ (by omega)]; unfold tdN toldN; split <;> rfl)
  clear hz1 hz2
  generalize madeCells #[Value.int .i64 0] l.length = vs1 at *
  generalize madeCells #[Value.int .i64 0] (l.length + 1) = vs2 at *
  have hne : l ≠ [] := by rintro rfl; simp at hp
  obtain ⟨g, off, rfl, hg, hc⟩ := HN.out hne
  have q0 : ((l.length : Int) == 0) = false := by rw [beq_eq_false_iff_ne]; omega
  have xn1 : IntKind.i64.wrap ((l.length : Int) + 1) = (l.length : Int) + 1 := IntWalk.i64_in _ (by omega)
  obtain ⟨M, hM⟩ : ∃ M, M + 1 = l.length := ⟨l.length - 1, by omega⟩
  have xM : IntKind.i64.wrap ((l.length : Int) - 1) = (M : Int) := by rw [IntWalk.i64_in _ (by omega)]; omega
  have hMl : M < l.length := by omega
  have hMd : decide (M < l.length) = true := decide_eq_true hMl
  have HML := Lib.hid (show (sizesR l).getD M 0 = (l.length : Int) by have := HLAST.out; rwa [show l.length - 1 = M by omega] at this)
  clear C h hl h1 h2 h3 hst hkl hrl hsl hRR hnl hnu hnle hnpos htall hf hc hne hg
  go_enter Tryd.func6, Tryd.ntmps6
  go_wp2_with fail
  refine (HFW.out _).mono ?_
  rintro e w1 ⟨rfl, rfl⟩
  clear HFW
  go_wp2_with fail
  refine (H1.out _ HN.out).mono ?_
  rintro e w2 ⟨rfl, hb⟩
  clear H1
  replace HN := Lib.hid (HN.out.below hb)
  replace HB := Lib.hid (HB.out.trans (hb.mono HB.out.size))
  clear hb
  go_wp2_with fail
  refine (H2.out _ HN.out).mono ?_
  rintro e w3 ⟨bs, ks, rfl, hi, hb⟩
  have HS := Lib.hid hi
  clear H2 hi
  replace HN := Lib.hid (HN.out.below hb)
  replace HB := Lib.hid (HB.out.trans (hb.mono HB.out.size))
  clear hb
  go_wp2_with fail
  refine (H3.out _ HN.out).mono ?_
  rintro e w4 ⟨bn, kn, rfl, hi, hb⟩
  have HM := Lib.hid hi
  replace HS := Lib.hid (HS.out.below hb)
  clear H3 hi
  replace HN := Lib.hid (HN.out.below hb)
  replace HB := Lib.hid (HB.out.trans (hb.mono HB.out.size))
  clear hb
  obtain ⟨gs, os, rfl, _, hgs, hcs⟩ := HS.out (by intro h; have := HRL.out; rw [h] at this; simp at this; omega)
  obtain ⟨gn, on, rfl, _, hgn, hcn⟩ := HM.out (by intro h; have := HNL.out; rw [h] at this; simp at this; omega)
  have hcs2 : ∀ (W : World), Below w4.heap.size w4 W → ∀ i, i < l.length → W.cell? ⟨gs, os + i, none⟩ = some (.int .i64 ((sizesR l).getD i 0)) := fun W hW i hi => by
    have hi' : i < (sizesR l).length := by rw [HRL.out]; exact hi
    rw [List.getD_eq_getElem?_getD, List.getElem?_eq_getElem hi', Option.getD_some]
    exact (hW.cell (p := ⟨gs, os + i, none⟩) hgs).trans (hcs i hi')
  have hcn2 : ∀ (W : World), Below w4.heap.size w4 W → ∀ i, i < l.length → W.cell? ⟨gn, on + i, none⟩ = some (.int .i64 (nuN l i : Nat)) := fun W hW i hi => by
    have hi' : i < (numsR l).length := by rw [HNL.out]; exact hi
    have e := HNU.out i hi
    rw [List.getD_eq_getElem?_getD, List.getElem?_eq_getElem hi', Option.getD_some] at e
    rw [← e]
    exact (hW.cell (p := ⟨gn, on + i, none⟩) hgn).trans (hcn i hi')
  have HCS := Lib.hid hcs2
  have HCN := Lib.hid hcn2
  clear hcs2 hcn2 hcs hcn HS HM HNU HRL HNL
  have cM := HCS.out w4 (Below.refl _ _) M hMl
  rw [HML.out] at cM
  have hP := HP0.out w4
  have hsz4 := HB.out.size
  have HW4 := Lib.hid (show ∀ W, Below w4.heap.size w4 W → NodesAt l (some ⟨g, off, none⟩) W ∧ Below w.heap.size w W from fun W hW => ⟨HN.out.below hW, HB.out.trans (hW.mono hsz4)⟩)
  have hg4 : g < w4.heap.size := (HN.out (by rintro rfl; simp at hp)).elim fun g' h => by obtain ⟨o', e, h1, _⟩ := h; cases e; exact h1
  have HC4 := Lib.hid (show ∀ i (h : i < l.length), w4.cell? ⟨g, off + i * 8, none⟩ = some (.int .i64 (kdN l i)) from fun i h => by
    obtain ⟨g', o', e, h1, h2⟩ := HN.out (by rintro rfl; simp at hp)
    cases e
    rw [HKD.out i h]
    exact h2 i h 0 (by decide))
  clear HP0 hsz4 HB
  have HPP := Lib.hid hP
  clear hP
  go_wp2_with fail
  clear hmk1 hmk2 cM
  generalize (w4.alloc (.cells vs1 3)).alloc (.cells vs2 3) = w5 at *
  go_loopw [7, 8] (fun v x wr => ∃ i : Nat, i ≤ l.length ∧ x = .int .i64 i ∧ v = .int .i64 (grpN l i : Nat) ∧ PW w4 l.length (heldN l i) (tdN l i) wr) (fun _ x _ => l.length - (intOf x).toNat)
  case atStart => exact ⟨0, Nat.zero_le _, rfl, rfl, HPP.out⟩
  case round =>
    clear HPP
    obtain ⟨i, hi, rfl, rfl, hP⟩ := hrel
    have HPP := Lib.hid hP
    clear hP
    by_cases hlt : i < l.length
    · have hd : decide ((i : Int) < (l.length : Int)) = true := by rw [decide_eq_true_iff]; omega
      have hd2 : decide (i < l.length) = true := by rw [decide_eq_true_iff]; omega
      obtain ⟨B, b1, b0, b2, b3⟩ := HROW.out i hlt
      have cs := HCS.out _ HPP.out.base i hlt
      have hkh := HHS.out i hlt
      generalize hSZ : (sizesR l).getD i 0 = sz at *
      have xs1 : IntKind.i64.wrap ((i : Int) - sz) = ((B 0 : Nat) : Int) - 1 := by rw [IntWalk.i64_in _ (by omega)]; omega
      have xs3 : IntKind.i64.wrap ((B 0 : Nat) : Int) = ((B 0 : Nat) : Int) := IntWalk.i64_in _ (by omega)
      have xs2 : IntKind.i64.wrap (((B 0 : Nat) : Int) - 1 + 1) = ((B 0 : Nat) : Int) := by rw [IntWalk.i64_in _ (by omega)]; omega
      have HB1 := Lib.hid b1
      have HB3 := Lib.hid b3
      have HKH := Lib.hid hkh
      have H4i := Lib.hid (H4.out i)
      have hkrl := kidsR_len l i
      clear b1 b2 b3 hkh hSZ b0
      generalize kidsR l i = kr at *
      generalize hB0 : B 0 = B0 at *
      have HB0 := Lib.hid hB0
      clear hB0
      go_wp2_with fail
      refine (H4i.out _ (HW4.out _ HPP.out.base).1).mono ?_
      rintro e w6 ⟨bk, kk, rfl, hi2, hb⟩
      have hlo := HPP.out.lt
      replace HPP := Lib.hid (HPP.out.below hb)
      have HK := Lib.hid hi2
      clear H4i hi2 hb cs xs1 xs2 xs3
      go_wp2_with fail
      go_loopw [9, 11] (fun v x wr' => ∃ k : Nat, k ≤ kr.length ∧ x = .int .i64 k ∧ v = .int .i64 (B k : Nat) ∧ PW w4 l.length (fun y => heldN l i y + (kr.take k).count (y : Int)) (tdN l i) wr' ∧ IntsB wr.heap.size kr bk wr') (fun _ x _ => kr.length - (intOf x).toNat)
      case atStart => exact ⟨0, Nat.zero_le _, rfl, by rw [HB0.out], HPP.out.congr (fun y _ => by simp) (fun _ _ => rfl), HK.out⟩
      case round =>
        clear HK HPP
        obtain ⟨k, hk, rfl, rfl, hP, hK⟩ := hrel
        by_cases hkl : k < kr.length
        · have hdk : decide ((k : Int) < (kr.length : Int)) = true := by rw [decide_eq_true_iff]; omega
          have hdk2 : decide (k < kr.length) = true := by rw [decide_eq_true_iff]; omega
          obtain ⟨r1, r2, r3, r4⟩ := HB3.out k hkl
          obtain ⟨gk, ok, rfl, hgb, hgk, hck⟩ := hK (by rintro rfl; simp at hkl)
          have ck := hck k hkl
          rw [r3] at ck
          have hct := fun y => count_take kr k hkl y
          rw [r3] at hct
          generalize hp' : B k = p at *
          generalize hq' : B (k + 1) = q at *
          obtain ⟨X, hX⟩ : ∃ X, X + 1 = q := ⟨q - 1, by omega⟩
          rw [show q - 1 = X by omega] at ck r4 hct
          have hXl : X < l.length := by omega
          have hXd : decide (X < l.length) = true := decide_eq_true hXl
          have cz := HCS.out _ hP.base X hXl
          rw [r4] at cz
          obtain ⟨cH, fH⟩ := hP.cellH X hXl
          have hone : heldN l i X + (kr.take k).count (X : Int) ≤ 3000000 := by
            have h1 : heldN l i X ≤ 1000000 := by have := HHLE.out i (by omega) X hXl; omega
            have h2 := List.count_le_length (a := (X : Int)) (l := kr.take k)
            rw [List.length_take] at h2
            omega
          generalize hhv : heldN l i X + (kr.take k).count (X : Int) = hv at *
          have qx0 : decide ((X : Int) < 0) = false := by rw [decide_eq_false_iff_not]; omega
          have qxi : decide ((i : Int) ≤ (X : Int)) = false := by rw [decide_eq_false_iff_not]; omega
          have qxi2 : decide (i ≤ X) = false := by rw [decide_eq_false_iff_not]; omega
          have y1 : IntKind.i64.wrap ((X : Int) - ((q - p : Nat) : Int)) = (p : Int) - 1 := by rw [IntWalk.i64_in _ (by omega)]; omega
          have y6 : IntKind.i64.wrap (p : Int) = (p : Int) := IntWalk.i64_in _ (by omega)
          have y2 : IntKind.i64.wrap ((p : Int) - 1 + 1) = (p : Int) := by rw [IntWalk.i64_in _ (by omega)]; omega
          have y3 : IntKind.i64.wrap ((hv : Int) + 1) = (hv : Int) + 1 := IntWalk.i64_in _ (by omega)
          have y4 : IntKind.i64.wrap ((X : Int) + 1) = (q : Int) := by rw [IntWalk.i64_in _ (by omega)]; omega
          have y5 : IntKind.i64.wrap ((k : Int) + 1) = (k : Int) + 1 := IntWalk.i64_in _ (by omega)
          generalize hdd : q - p = d at *
          have HP2 := Lib.hid hP
          have HK2 := Lib.hid hK
          have HCT := Lib.hid hct
          have HHV := Lib.hid hhv
          have HQ := Lib.hid hq'
          clear hP hK hct hhv hq' hp' r1 r2 r3 r4 hck hone hdd hX
          go_wp2_with fail
          go_roundw
          case rel =>
            refine ⟨k + 1, by omega, by simp, by rw [HQ.out], HP2.out.setH X _ ?_ hXl (fun y hy hyx => ?_), HK2.out.set (by omega) X _⟩
            · simp only [HCT.out]
              rw [if_pos trivial, ← Nat.add_assoc, HHV.out]
              rfl
            · simp only [HCT.out]
              rw [if_neg (by omega)]; rfl
          case measure => simp [intOf]; omega
        · obtain rfl : k = kr.length := by omega
          have hdk : decide ((kr.length : Int) < (kr.length : Int)) = false := by simp
          have hdk2 : decide (kr.length < kr.length) = false := by simp
          rw [HB1.out]
          have hP2 : PW w4 l.length (heldN l (i + 1)) (tdN l i) wr := hP.congr (fun y _ => by show heldN l i y + (kr.take kr.length).count (y : Int) = _; rw [List.take_length, HKH.out y]) (fun _ _ => rfl)
          have hBS := hP2.base
          have cn := HCN.out _ hBS i hlt
          have cg := (hBS.cell (p := ⟨g, off + i * 8, none⟩) (Nat.lt_of_lt_of_le hg4 (Nat.le_refl _))).trans (HC4.out i hlt)
          have hnle := HNLE.out i
          have hnpos := HNPOS.out i hlt
          have hgl := HGL.out l.length
          have hgli := HGL.out i
          have hgs := HGS.out i
          have hts := HTS.out i
          generalize hnu : nuN l i = nu at *
          generalize hkk : kdN l i = kd at *
          generalize hgi : grpN l i = gi at *
          have qn0 : decide ((nu : Int) < 0) = false := by rw [decide_eq_false_iff_not]; omega
          have qnn : decide ((l.length : Int) < (nu : Int)) = false := by rw [decide_eq_false_iff_not]; omega
          have qnn2 : decide (l.length < nu) = false := by rw [decide_eq_false_iff_not]; omega
          have xi1 : IntKind.i64.wrap ((i : Int) + 1) = (i : Int) + 1 := IntWalk.i64_in _ (by omega)
          have xg1 : IntKind.i64.wrap ((gi : Int) + 1) = (gi : Int) + 1 := IntWalk.i64_in _ (by omega)
          have h0 : SR22 wr.drew gn on i g off nu kd wr.drew := ⟨⟨cn, cg⟩, rfl⟩
          have HPD := Lib.hid hP2.drew
          have HGSS := Lib.hid hgs
          have HTSS := Lib.hid hts
          clear hP2 hBS hP hK HB3 HKH HB1 HB0 hgs hts hnu hkk hgi
          by_cases h3 : kd = 3
          · have hnu0 : 0 < nu := hnpos.2 h3
            have qa : decide ((0 : Int) < (nu : Int)) = true := by rw [decide_eq_true_iff]; omega
            have qa2 : decide (0 < nu) = true := by rw [decide_eq_true_iff]; omega
            have qb : (kd == 3) = true := by rw [h3]; rfl
            go_wp2_with fail
            refine region_steps (S := SR22 wr.drew gn on i g off nu kd) (by kernel_rfl) h0 ?_
            clear h0 cg cn
            simp only [List.size_toArray, List.length_cons, List.length_nil, Nat.reduceAdd, Array.replicate_succ, Array.replicate_zero, List.push_toArray, List.nil_append, List.cons_append]
            refine AnyS.stepE (i := 0) (d := some 115) rfl rfl (by kernel_rfl) (by kernel_rfl) (by kernel_rfl) ?_
            apply Exists.intro
            apply And.intro
            · apply StepsIf.yield
              · kernel_rfl
              intro w' hS
              clear hS; go_simp
              rfl
            intro a' ha'
            simp only [Act.put, List.setIfInBounds_toArray, List.set_cons_zero, List.set_cons_succ] at ha'
            subst ha'
            refine AnyS.stepE (i := 1) (d := some 116) rfl rfl (by kernel_rfl) (by kernel_rfl) (by kernel_rfl) ?_
            apply Exists.intro
            apply And.intro
            · apply StepsIf.yield
              · kernel_rfl
              intro w' hS
              clear hS; go_simp
              rfl
            intro a' ha'
            simp only [Act.put, List.setIfInBounds_toArray, List.set_cons_zero, List.set_cons_succ] at ha'
            subst ha'
            refine AnyS.next (i := 2) (d := some 117) (v := .bool false) rfl rfl (by kernel_rfl) (by kernel_rfl) (by kernel_rfl) (StepsIf.yield (by kernel_rfl) (fun w' hS => by clear hS; go_simp)) ?_
            intro a' ha'
            simp only [Act.put, List.setIfInBounds_toArray, List.set_cons_zero, List.set_cons_succ] at ha'
            subst ha'
            refine AnyS.stepE (i := 3) (d := some 118) rfl rfl (by kernel_rfl) (by kernel_rfl) (by kernel_rfl) ?_
            apply Exists.intro
            apply And.intro
            · apply StepsIf.yield
              · kernel_rfl
              intro w' hS
              clear hS; go_simp
              rfl
            intro a' ha'
            simp only [Act.put, List.setIfInBounds_toArray, List.set_cons_zero, List.set_cons_succ] at ha'
            subst ha'
            refine AnyS.stepE (i := 4) (d := some 119) rfl rfl (by kernel_rfl) (by kernel_rfl) (by kernel_rfl) ?_
            apply Exists.intro
            apply And.intro
            · apply StepsIf.yield
              · kernel_rfl
              intro w' hS
              clear hS; go_simp
              rfl
            intro a' ha'
            simp only [Act.put, List.setIfInBounds_toArray, List.set_cons_zero, List.set_cons_succ] at ha'
            subst ha'
            refine AnyS.stepE (i := 5) (d := some 120) rfl rfl (by kernel_rfl) (by kernel_rfl) (by kernel_rfl) ?_
            apply Exists.intro
            apply And.intro
            · apply StepsIf.yield
              · kernel_rfl
              intro w' hS
              clear hS; go_simp
              rfl
            intro a' ha'
            simp only [Act.put, List.setIfInBounds_toArray, List.set_cons_zero, List.set_cons_succ] at ha'
            subst ha'
            refine AnyS.next (i := 6) (d := some 121) (v := .pointer (some ⟨gn, on + i, none⟩)) rfl rfl (by kernel_rfl) (by kernel_rfl) (by kernel_rfl) (StepsIf.yield (by kernel_rfl) (fun w' hS => by clear hS; go_simp)) ?_
            intro a' ha'
            simp only [Act.put, List.setIfInBounds_toArray, List.set_cons_zero, List.set_cons_succ] at ha'
            subst ha'
            refine AnyS.next (i := 7) (d := some 122) (v := .int .i64 nu) rfl rfl (by kernel_rfl) (by kernel_rfl) (by kernel_rfl) (StepsIf.yield (by kernel_rfl) (fun w' hS => by have s := hS.1.1; clear hS; go_simp)) ?_
            intro a' ha'
            simp only [Act.put, List.setIfInBounds_toArray, List.set_cons_zero, List.set_cons_succ] at ha'
            subst ha'
            refine AnyS.next (i := 8) (d := some 123) (v := .bool false) rfl rfl (by kernel_rfl) (by kernel_rfl) (by kernel_rfl) (StepsIf.yield (by kernel_rfl) (fun w' hS => by clear hS; go_simp)) ?_
            intro a' ha'
            simp only [Act.put, List.setIfInBounds_toArray, List.set_cons_zero, List.set_cons_succ] at ha'
            subst ha'
            refine AnyS.next (i := 9) (d := some 124) (v := .bool false) rfl rfl (by kernel_rfl) (by kernel_rfl) (by kernel_rfl) (StepsIf.yield (by kernel_rfl) (fun w' hS => by clear hS; go_simp)) ?_
            intro a' ha'
            simp only [Act.put, List.setIfInBounds_toArray, List.set_cons_zero, List.set_cons_succ] at ha'
            subst ha'
            refine AnyS.stepE (i := 10) (d := some 125) rfl rfl (by kernel_rfl) (by kernel_rfl) (by kernel_rfl) ?_
            apply Exists.intro
            apply And.intro
            · apply StepsIf.yield
              · kernel_rfl
              intro w' hS
              clear hS; go_simp
              rfl
            intro a' ha'
            simp only [Act.put, List.setIfInBounds_toArray, List.set_cons_zero, List.set_cons_succ] at ha'
            subst ha'
            refine AnyS.stepE (i := 11) (d := some 126) rfl rfl (by kernel_rfl) (by kernel_rfl) (by kernel_rfl) ?_
            apply Exists.intro
            apply And.intro
            · apply StepsIf.yield
              · kernel_rfl
              intro w' hS
              clear hS; go_simp
              rfl
            intro a' ha'
            simp only [Act.put, List.setIfInBounds_toArray, List.set_cons_zero, List.set_cons_succ] at ha'
            subst ha'
            refine AnyS.stepE (i := 12) (d := some 127) rfl rfl (by kernel_rfl) (by kernel_rfl) (by kernel_rfl) ?_
            apply Exists.intro
            apply And.intro
            · apply StepsIf.yield
              · kernel_rfl
              intro w' hS
              clear hS; go_simp
              rfl
            intro a' ha'
            simp only [Act.put, List.setIfInBounds_toArray, List.set_cons_zero, List.set_cons_succ] at ha'
            subst ha'
            refine AnyS.next (i := 13) (d := some 128) (v := .pointer (some ⟨gn, on + i, none⟩)) rfl rfl (by kernel_rfl) (by kernel_rfl) (by kernel_rfl) (StepsIf.yield (by kernel_rfl) (fun w' hS => by clear hS; go_simp)) ?_
            intro a' ha'
            simp only [Act.put, List.setIfInBounds_toArray, List.set_cons_zero, List.set_cons_succ] at ha'
            subst ha'
            refine AnyS.next (i := 14) (d := some 129) (v := .int .i64 nu) rfl rfl (by kernel_rfl) (by kernel_rfl) (by kernel_rfl) (StepsIf.yield (by kernel_rfl) (fun w' hS => by have s := hS.1.1; clear hS; go_simp)) ?_
            intro a' ha'
            simp only [Act.put, List.setIfInBounds_toArray, List.set_cons_zero, List.set_cons_succ] at ha'
            subst ha'
            refine AnyS.stepE (i := 15) (d := some 130) rfl rfl (by kernel_rfl) (by kernel_rfl) (by kernel_rfl) ?_
            apply Exists.intro
            apply And.intro
            · apply StepsIf.yield
              · kernel_rfl
              intro w' hS
              clear hS; go_simp
              rfl
            intro a' ha'
            simp only [Act.put, List.setIfInBounds_toArray, List.set_cons_zero, List.set_cons_succ] at ha'
            subst ha'
            refine AnyS.stepE (i := 16) (d := some 131) rfl rfl (by kernel_rfl) (by kernel_rfl) (by kernel_rfl) ?_
            apply Exists.intro
            apply And.intro
            · apply StepsIf.yield
              · kernel_rfl
              intro w' hS
              clear hS; go_simp
              rfl
            intro a' ha'
            simp only [Act.put, List.setIfInBounds_toArray, List.set_cons_zero, List.set_cons_succ] at ha'
            subst ha'
            refine AnyS.next (i := 17) (d := some 132) (v := .bool false) rfl rfl (by kernel_rfl) (by kernel_rfl) (by kernel_rfl) (StepsIf.yield (by kernel_rfl) (fun w' hS => by clear hS; go_simp)) ?_
            intro a' ha'
            simp only [Act.put, List.setIfInBounds_toArray, List.set_cons_zero, List.set_cons_succ] at ha'
            subst ha'
            refine AnyS.next (i := 18) (d := some 133) (v := .bool false) rfl rfl (by kernel_rfl) (by kernel_rfl) (by kernel_rfl) (StepsIf.yield (by kernel_rfl) (fun w' hS => by clear hS; go_simp)) ?_
            intro a' ha'
            simp only [Act.put, List.setIfInBounds_toArray, List.set_cons_zero, List.set_cons_succ] at ha'
            subst ha'
            refine AnyS.stepE (i := 19) (d := some 134) rfl rfl (by kernel_rfl) (by kernel_rfl) (by kernel_rfl) ?_
            apply Exists.intro
            apply And.intro
            · apply StepsIf.yield
              · kernel_rfl
              intro w' hS
              clear hS; go_simp
              rfl
            intro a' ha'
            simp only [Act.put, List.setIfInBounds_toArray, List.set_cons_zero, List.set_cons_succ] at ha'
            subst ha'
            refine AnyS.stepE (i := 20) (d := some 135) rfl rfl (by kernel_rfl) (by kernel_rfl) (by kernel_rfl) ?_
            apply Exists.intro
            apply And.intro
            · apply StepsIf.yield
              · kernel_rfl
              intro w' hS
              clear hS; go_simp
              rfl
            intro a' ha'
            simp only [Act.put, List.setIfInBounds_toArray, List.set_cons_zero, List.set_cons_succ] at ha'
            subst ha'
            refine AnyS.stepE (i := 21) (d := some 136) rfl rfl (by kernel_rfl) (by kernel_rfl) (by kernel_rfl) ?_
            apply Exists.intro
            apply And.intro
            · apply StepsIf.yield
              · kernel_rfl
              intro w' hS
              clear hS; go_simp
              rfl
            intro a' ha'
            simp only [Act.put, List.setIfInBounds_toArray, List.set_cons_zero, List.set_cons_succ] at ha'
            subst ha'
            refine AnyS.next (i := 22) (d := some 137) (v := .pointer (some ⟨gn, on + i, none⟩)) rfl rfl (by kernel_rfl) (by kernel_rfl) (by kernel_rfl) (StepsIf.yield (by kernel_rfl) (fun w' hS => by clear hS; go_simp)) ?_
            intro a' ha'
            simp only [Act.put, List.setIfInBounds_toArray, List.set_cons_zero, List.set_cons_succ] at ha'
            subst ha'
            refine AnyS.next (i := 23) (d := some 138) (v := .int .i64 nu) rfl rfl (by kernel_rfl) (by kernel_rfl) (by kernel_rfl) (StepsIf.yield (by kernel_rfl) (fun w' hS => by have s := hS.1.1; clear hS; go_simp)) ?_
            intro a' ha'
            simp only [Act.put, List.setIfInBounds_toArray, List.set_cons_zero, List.set_cons_succ] at ha'
            subst ha'
            refine AnyS.next (i := 24) (d := some 139) (v := .bool true) rfl rfl (by kernel_rfl) (by kernel_rfl) (by kernel_rfl) (StepsIf.yield (by kernel_rfl) (fun w' hS => by clear hS; go_simp)) ?_
            intro a' ha'
            simp only [Act.put, List.setIfInBounds_toArray, List.set_cons_zero, List.set_cons_succ] at ha'
            subst ha'
            refine AnyS.stepE (i := 25) (d := some 140) rfl rfl (by kernel_rfl) (by kernel_rfl) (by kernel_rfl) ?_
            apply Exists.intro
            apply And.intro
            · apply StepsIf.yield
              · kernel_rfl
              intro w' hS
              clear hS; go_simp
              rfl
            intro a' ha'
            simp only [Act.put, List.setIfInBounds_toArray, List.set_cons_zero, List.set_cons_succ] at ha'
            subst ha'
            refine AnyS.stepE (i := 26) (d := some 141) rfl rfl (by kernel_rfl) (by kernel_rfl) (by kernel_rfl) ?_
            apply Exists.intro
            apply And.intro
            · apply StepsIf.yield
              · kernel_rfl
              intro w' hS
              clear hS; go_simp
              rfl
            intro a' ha'
            simp only [Act.put, List.setIfInBounds_toArray, List.set_cons_zero, List.set_cons_succ] at ha'
            subst ha'
            refine AnyS.next (i := 27) (d := some 142) (v := .pointer (some ⟨g, off + i * 8, none⟩)) rfl rfl (by kernel_rfl) (by kernel_rfl) (by kernel_rfl) (StepsIf.yield (by kernel_rfl) (fun w' hS => by clear hS; go_simp)) ?_
            intro a' ha'
            simp only [Act.put, List.setIfInBounds_toArray, List.set_cons_zero, List.set_cons_succ] at ha'
            subst ha'
            refine AnyS.next (i := 28) (d := some 143) (v := .pointer (some ⟨g, off + i * 8, none⟩)) rfl rfl (by kernel_rfl) (by kernel_rfl) (by kernel_rfl) (StepsIf.yield (by kernel_rfl) (fun w' hS => by clear hS; go_simp)) ?_
            intro a' ha'
            simp only [Act.put, List.setIfInBounds_toArray, List.set_cons_zero, List.set_cons_succ] at ha'
            subst ha'
            refine AnyS.next (i := 29) (d := some 144) (v := .int .i64 kd) rfl rfl (by kernel_rfl) (by kernel_rfl) (by kernel_rfl) (StepsIf.yield (by kernel_rfl) (fun w' hS => by have s := hS.1.2; clear hS; go_simp)) ?_
            intro a' ha'
            simp only [Act.put, List.setIfInBounds_toArray, List.set_cons_zero, List.set_cons_succ] at ha'
            subst ha'
            refine AnyS.next (i := 30) (d := some 145) (v := .bool true) rfl rfl (by kernel_rfl) (by kernel_rfl) (by kernel_rfl) (StepsIf.yield (by kernel_rfl) (fun w' hS => by clear hS; go_simp)) ?_
            intro a' ha'
            simp only [Act.put, List.setIfInBounds_toArray, List.set_cons_zero, List.set_cons_succ] at ha'
            subst ha'
            refine AnyS.next (i := 31) (d := some 146) (v := .bool false) rfl rfl (by kernel_rfl) (by kernel_rfl) (by kernel_rfl) (StepsIf.yield (by kernel_rfl) (fun w' hS => by clear hS; go_simp)) ?_
            intro a' ha'
            simp only [Act.put, List.setIfInBounds_toArray, List.set_cons_zero, List.set_cons_succ] at ha'
            subst ha'
            refine AnyS.next (i := 32) (d := some 147) (v := .bool false) rfl rfl (by kernel_rfl) (by kernel_rfl) (by kernel_rfl) (StepsIf.yield (by kernel_rfl) (fun w' hS => by clear hS; go_simp)) ?_
            intro a' ha'
            simp only [Act.put, List.setIfInBounds_toArray, List.set_cons_zero, List.set_cons_succ] at ha'
            subst ha'
            refine AnyS.done (by kernel_rfl) (fun w7 hS => ?_) _
            obtain ⟨⟨cn, cg⟩, rfl⟩ := hS
            generalize wr.drew = w8 at *
            obtain ⟨cT, fT⟩ := HPD.out.cellT nu (by omega)
            have htle := HTLE.out i nu
            have htd : tdN l i nu ≤ i := by unfold tdN; split <;> omega
            generalize htv : tdN l i nu = tv at *
            have y7 : IntKind.i64.wrap ((tv : Int) + 1) = (tv : Int) + 1 := IntWalk.i64_in _ (by omega)
            have HTV := Lib.hid htv
            have hnl2 : nu < l.length + 1 := by omega
            have hnd : decide (nu < l.length + 1) = true := decide_eq_true hnl2
            have hnd3 : decide ((nu : Int) < (l.length : Int) + 1) = true := by rw [decide_eq_true_iff]; omega
            clear htv htle htd
            go_wp2_with fail
            go_roundw
            case rel =>
              refine ⟨i + 1, by omega, by simp, by rw [HGSS.out, qb, if_pos rfl]; rfl, HPD.out.setT nu _ ?_ (by omega) (fun y hy hyn => ?_)⟩
              · rw [HTSS.out, if_pos ⟨by omega, rfl⟩, HTV.out]; rfl
              · rw [HTSS.out, if_neg (fun h => hyn h.2.symm)]; rfl
            case measure => simp [intOf]; omega
          · have hnu0 : nu = 0 := Nat.eq_zero_of_not_pos (fun h => h3 (hnpos.1 h))
            have qa : decide ((0 : Int) < (nu : Int)) = false := by rw [decide_eq_false_iff_not]; omega
            have qa2 : decide (0 < nu) = false := by rw [decide_eq_false_iff_not]; omega
            have qb : (kd == 3) = false := by rw [beq_eq_false_iff_ne]; exact h3
            go_wp2_with fail
            refine region_steps (S := SR22 wr.drew gn on i g off nu kd) (by kernel_rfl) h0 ?_
            clear h0 cg cn
            simp only [List.size_toArray, List.length_cons, List.length_nil, Nat.reduceAdd, Array.replicate_succ, Array.replicate_zero, List.push_toArray, List.nil_append, List.cons_append]
            refine AnyS.stepE (i := 0) (d := some 115) rfl rfl (by kernel_rfl) (by kernel_rfl) (by kernel_rfl) ?_
            apply Exists.intro
            apply And.intro
            · apply StepsIf.yield
              · kernel_rfl
              intro w' hS
              clear hS; go_simp
              rfl
            intro a' ha'
            simp only [Act.put, List.setIfInBounds_toArray, List.set_cons_zero, List.set_cons_succ] at ha'
            subst ha'
            refine AnyS.stepE (i := 1) (d := some 116) rfl rfl (by kernel_rfl) (by kernel_rfl) (by kernel_rfl) ?_
            apply Exists.intro
            apply And.intro
            · apply StepsIf.yield
              · kernel_rfl
              intro w' hS
              clear hS; go_simp
              rfl
            intro a' ha'
            simp only [Act.put, List.setIfInBounds_toArray, List.set_cons_zero, List.set_cons_succ] at ha'
            subst ha'
            refine AnyS.next (i := 2) (d := some 117) (v := .bool false) rfl rfl (by kernel_rfl) (by kernel_rfl) (by kernel_rfl) (StepsIf.yield (by kernel_rfl) (fun w' hS => by clear hS; go_simp)) ?_
            intro a' ha'
            simp only [Act.put, List.setIfInBounds_toArray, List.set_cons_zero, List.set_cons_succ] at ha'
            subst ha'
            refine AnyS.stepE (i := 3) (d := some 118) rfl rfl (by kernel_rfl) (by kernel_rfl) (by kernel_rfl) ?_
            apply Exists.intro
            apply And.intro
            · apply StepsIf.yield
              · kernel_rfl
              intro w' hS
              clear hS; go_simp
              rfl
            intro a' ha'
            simp only [Act.put, List.setIfInBounds_toArray, List.set_cons_zero, List.set_cons_succ] at ha'
            subst ha'
            refine AnyS.stepE (i := 4) (d := some 119) rfl rfl (by kernel_rfl) (by kernel_rfl) (by kernel_rfl) ?_
            apply Exists.intro
            apply And.intro
            · apply StepsIf.yield
              · kernel_rfl
              intro w' hS
              clear hS; go_simp
              rfl
            intro a' ha'
            simp only [Act.put, List.setIfInBounds_toArray, List.set_cons_zero, List.set_cons_succ] at ha'
            subst ha'
            refine AnyS.stepE (i := 5) (d := some 120) rfl rfl (by kernel_rfl) (by kernel_rfl) (by kernel_rfl) ?_
            apply Exists.intro
            apply And.intro
            · apply StepsIf.yield
              · kernel_rfl
              intro w' hS
              clear hS; go_simp
              rfl
            intro a' ha'
            simp only [Act.put, List.setIfInBounds_toArray, List.set_cons_zero, List.set_cons_succ] at ha'
            subst ha'
            refine AnyS.next (i := 6) (d := some 121) (v := .pointer (some ⟨gn, on + i, none⟩)) rfl rfl (by kernel_rfl) (by kernel_rfl) (by kernel_rfl) (StepsIf.yield (by kernel_rfl) (fun w' hS => by clear hS; go_simp)) ?_
            intro a' ha'
            simp only [Act.put, List.setIfInBounds_toArray, List.set_cons_zero, List.set_cons_succ] at ha'
            subst ha'
            refine AnyS.next (i := 7) (d := some 122) (v := .int .i64 nu) rfl rfl (by kernel_rfl) (by kernel_rfl) (by kernel_rfl) (StepsIf.yield (by kernel_rfl) (fun w' hS => by have s := hS.1.1; clear hS; go_simp)) ?_
            intro a' ha'
            simp only [Act.put, List.setIfInBounds_toArray, List.set_cons_zero, List.set_cons_succ] at ha'
            subst ha'
            refine AnyS.next (i := 8) (d := some 123) (v := .bool false) rfl rfl (by kernel_rfl) (by kernel_rfl) (by kernel_rfl) (StepsIf.yield (by kernel_rfl) (fun w' hS => by clear hS; go_simp)) ?_
            intro a' ha'
            simp only [Act.put, List.setIfInBounds_toArray, List.set_cons_zero, List.set_cons_succ] at ha'
            subst ha'
            refine AnyS.next (i := 9) (d := some 124) (v := .bool false) rfl rfl (by kernel_rfl) (by kernel_rfl) (by kernel_rfl) (StepsIf.yield (by kernel_rfl) (fun w' hS => by clear hS; go_simp)) ?_
            intro a' ha'
            simp only [Act.put, List.setIfInBounds_toArray, List.set_cons_zero, List.set_cons_succ] at ha'
            subst ha'
            refine AnyS.stepE (i := 10) (d := some 125) rfl rfl (by kernel_rfl) (by kernel_rfl) (by kernel_rfl) ?_
            apply Exists.intro
            apply And.intro
            · apply StepsIf.yield
              · kernel_rfl
              intro w' hS
              clear hS; go_simp
              rfl
            intro a' ha'
            simp only [Act.put, List.setIfInBounds_toArray, List.set_cons_zero, List.set_cons_succ] at ha'
            subst ha'
            refine AnyS.stepE (i := 11) (d := some 126) rfl rfl (by kernel_rfl) (by kernel_rfl) (by kernel_rfl) ?_
            apply Exists.intro
            apply And.intro
            · apply StepsIf.yield
              · kernel_rfl
              intro w' hS
              clear hS; go_simp
              rfl
            intro a' ha'
            simp only [Act.put, List.setIfInBounds_toArray, List.set_cons_zero, List.set_cons_succ] at ha'
            subst ha'
            refine AnyS.stepE (i := 12) (d := some 127) rfl rfl (by kernel_rfl) (by kernel_rfl) (by kernel_rfl) ?_
            apply Exists.intro
            apply And.intro
            · apply StepsIf.yield
              · kernel_rfl
              intro w' hS
              clear hS; go_simp
              rfl
            intro a' ha'
            simp only [Act.put, List.setIfInBounds_toArray, List.set_cons_zero, List.set_cons_succ] at ha'
            subst ha'
            refine AnyS.next (i := 13) (d := some 128) (v := .pointer (some ⟨gn, on + i, none⟩)) rfl rfl (by kernel_rfl) (by kernel_rfl) (by kernel_rfl) (StepsIf.yield (by kernel_rfl) (fun w' hS => by clear hS; go_simp)) ?_
            intro a' ha'
            simp only [Act.put, List.setIfInBounds_toArray, List.set_cons_zero, List.set_cons_succ] at ha'
            subst ha'
            refine AnyS.next (i := 14) (d := some 129) (v := .int .i64 nu) rfl rfl (by kernel_rfl) (by kernel_rfl) (by kernel_rfl) (StepsIf.yield (by kernel_rfl) (fun w' hS => by have s := hS.1.1; clear hS; go_simp)) ?_
            intro a' ha'
            simp only [Act.put, List.setIfInBounds_toArray, List.set_cons_zero, List.set_cons_succ] at ha'
            subst ha'
            refine AnyS.stepE (i := 15) (d := some 130) rfl rfl (by kernel_rfl) (by kernel_rfl) (by kernel_rfl) ?_
            apply Exists.intro
            apply And.intro
            · apply StepsIf.yield
              · kernel_rfl
              intro w' hS
              clear hS; go_simp
              rfl
            intro a' ha'
            simp only [Act.put, List.setIfInBounds_toArray, List.set_cons_zero, List.set_cons_succ] at ha'
            subst ha'
            refine AnyS.stepE (i := 16) (d := some 131) rfl rfl (by kernel_rfl) (by kernel_rfl) (by kernel_rfl) ?_
            apply Exists.intro
            apply And.intro
            · apply StepsIf.yield
              · kernel_rfl
              intro w' hS
              clear hS; go_simp
              rfl
            intro a' ha'
            simp only [Act.put, List.setIfInBounds_toArray, List.set_cons_zero, List.set_cons_succ] at ha'
            subst ha'
            refine AnyS.next (i := 17) (d := some 132) (v := .bool false) rfl rfl (by kernel_rfl) (by kernel_rfl) (by kernel_rfl) (StepsIf.yield (by kernel_rfl) (fun w' hS => by clear hS; go_simp)) ?_
            intro a' ha'
            simp only [Act.put, List.setIfInBounds_toArray, List.set_cons_zero, List.set_cons_succ] at ha'
            subst ha'
            refine AnyS.next (i := 18) (d := some 133) (v := .bool false) rfl rfl (by kernel_rfl) (by kernel_rfl) (by kernel_rfl) (StepsIf.yield (by kernel_rfl) (fun w' hS => by clear hS; go_simp)) ?_
            intro a' ha'
            simp only [Act.put, List.setIfInBounds_toArray, List.set_cons_zero, List.set_cons_succ] at ha'
            subst ha'
            refine AnyS.stepE (i := 19) (d := some 134) rfl rfl (by kernel_rfl) (by kernel_rfl) (by kernel_rfl) ?_
            apply Exists.intro
            apply And.intro
            · apply StepsIf.yield
              · kernel_rfl
              intro w' hS
              clear hS; go_simp
              rfl
            intro a' ha'
            simp only [Act.put, List.setIfInBounds_toArray, List.set_cons_zero, List.set_cons_succ] at ha'
            subst ha'
            refine AnyS.stepE (i := 20) (d := some 135) rfl rfl (by kernel_rfl) (by kernel_rfl) (by kernel_rfl) ?_
            apply Exists.intro
            apply And.intro
            · apply StepsIf.yield
              · kernel_rfl
              intro w' hS
              clear hS; go_simp
              rfl
            intro a' ha'
            simp only [Act.put, List.setIfInBounds_toArray, List.set_cons_zero, List.set_cons_succ] at ha'
            subst ha'
            refine AnyS.stepE (i := 21) (d := some 136) rfl rfl (by kernel_rfl) (by kernel_rfl) (by kernel_rfl) ?_
            apply Exists.intro
            apply And.intro
            · apply StepsIf.yield
              · kernel_rfl
              intro w' hS
              clear hS; go_simp
              rfl
            intro a' ha'
            simp only [Act.put, List.setIfInBounds_toArray, List.set_cons_zero, List.set_cons_succ] at ha'
            subst ha'
            refine AnyS.next (i := 22) (d := some 137) (v := .pointer (some ⟨gn, on + i, none⟩)) rfl rfl (by kernel_rfl) (by kernel_rfl) (by kernel_rfl) (StepsIf.yield (by kernel_rfl) (fun w' hS => by clear hS; go_simp)) ?_
            intro a' ha'
            simp only [Act.put, List.setIfInBounds_toArray, List.set_cons_zero, List.set_cons_succ] at ha'
            subst ha'
            refine AnyS.next (i := 23) (d := some 138) (v := .int .i64 nu) rfl rfl (by kernel_rfl) (by kernel_rfl) (by kernel_rfl) (StepsIf.yield (by kernel_rfl) (fun w' hS => by have s := hS.1.1; clear hS; go_simp)) ?_
            intro a' ha'
            simp only [Act.put, List.setIfInBounds_toArray, List.set_cons_zero, List.set_cons_succ] at ha'
            subst ha'
            refine AnyS.next (i := 24) (d := some 139) (v := .bool false) rfl rfl (by kernel_rfl) (by kernel_rfl) (by kernel_rfl) (StepsIf.yield (by kernel_rfl) (fun w' hS => by clear hS; go_simp)) ?_
            intro a' ha'
            simp only [Act.put, List.setIfInBounds_toArray, List.set_cons_zero, List.set_cons_succ] at ha'
            subst ha'
            refine AnyS.stepE (i := 25) (d := some 140) rfl rfl (by kernel_rfl) (by kernel_rfl) (by kernel_rfl) ?_
            apply Exists.intro
            apply And.intro
            · apply StepsIf.yield
              · kernel_rfl
              intro w' hS
              clear hS; go_simp
              rfl
            intro a' ha'
            simp only [Act.put, List.setIfInBounds_toArray, List.set_cons_zero, List.set_cons_succ] at ha'
            subst ha'
            refine AnyS.stepE (i := 26) (d := some 141) rfl rfl (by kernel_rfl) (by kernel_rfl) (by kernel_rfl) ?_
            apply Exists.intro
            apply And.intro
            · apply StepsIf.yield
              · kernel_rfl
              intro w' hS
              clear hS; go_simp
              rfl
            intro a' ha'
            simp only [Act.put, List.setIfInBounds_toArray, List.set_cons_zero, List.set_cons_succ] at ha'
            subst ha'
            refine AnyS.next (i := 27) (d := some 142) (v := .pointer (some ⟨g, off + i * 8, none⟩)) rfl rfl (by kernel_rfl) (by kernel_rfl) (by kernel_rfl) (StepsIf.yield (by kernel_rfl) (fun w' hS => by clear hS; go_simp)) ?_
            intro a' ha'
            simp only [Act.put, List.setIfInBounds_toArray, List.set_cons_zero, List.set_cons_succ] at ha'
            subst ha'
            refine AnyS.next (i := 28) (d := some 143) (v := .pointer (some ⟨g, off + i * 8, none⟩)) rfl rfl (by kernel_rfl) (by kernel_rfl) (by kernel_rfl) (StepsIf.yield (by kernel_rfl) (fun w' hS => by clear hS; go_simp)) ?_
            intro a' ha'
            simp only [Act.put, List.setIfInBounds_toArray, List.set_cons_zero, List.set_cons_succ] at ha'
            subst ha'
            refine AnyS.next (i := 29) (d := some 144) (v := .int .i64 kd) rfl rfl (by kernel_rfl) (by kernel_rfl) (by kernel_rfl) (StepsIf.yield (by kernel_rfl) (fun w' hS => by have s := hS.1.2; clear hS; go_simp)) ?_
            intro a' ha'
            simp only [Act.put, List.setIfInBounds_toArray, List.set_cons_zero, List.set_cons_succ] at ha'
            subst ha'
            refine AnyS.next (i := 30) (d := some 145) (v := .bool false) rfl rfl (by kernel_rfl) (by kernel_rfl) (by kernel_rfl) (StepsIf.yield (by kernel_rfl) (fun w' hS => by clear hS; go_simp)) ?_
            intro a' ha'
            simp only [Act.put, List.setIfInBounds_toArray, List.set_cons_zero, List.set_cons_succ] at ha'
            subst ha'
            refine AnyS.next (i := 31) (d := some 146) (v := .bool false) rfl rfl (by kernel_rfl) (by kernel_rfl) (by kernel_rfl) (StepsIf.yield (by kernel_rfl) (fun w' hS => by clear hS; go_simp)) ?_
            intro a' ha'
            simp only [Act.put, List.setIfInBounds_toArray, List.set_cons_zero, List.set_cons_succ] at ha'
            subst ha'
            refine AnyS.next (i := 32) (d := some 147) (v := .bool false) rfl rfl (by kernel_rfl) (by kernel_rfl) (by kernel_rfl) (StepsIf.yield (by kernel_rfl) (fun w' hS => by clear hS; go_simp)) ?_
            intro a' ha'
            simp only [Act.put, List.setIfInBounds_toArray, List.set_cons_zero, List.set_cons_succ] at ha'
            subst ha'
            refine AnyS.done (by kernel_rfl) (fun w7 hS => ?_) _
            obtain ⟨⟨cn, cg⟩, rfl⟩ := hS
            generalize wr.drew = w8 at *
            go_wp2_with fail
            go_roundw
            case rel =>
              refine ⟨i + 1, by omega, by simp, by rw [HGSS.out, qb]; rfl, HPD.out.congr (fun _ _ => rfl) (fun y _ => ?_)⟩
              rw [HTSS.out, if_neg (fun h => h.1 (by omega))]; rfl
            case measure => simp [intOf]; omega
    · obtain rfl : i = l.length := by omega
      have hd : decide ((l.length : Int) < (l.length : Int)) = false := by simp
      have hd2 : decide (l.length < l.length) = false := by simp
      have hgl := HGL.out l.length
      have hta := fun m (h1 : 1 ≤ m) (h2 : m ≤ grpN l l.length) => HTALL.out m h1 h2
      generalize hG : grpN l l.length = G at *
      have HTA := Lib.hid hta
      clear hta HROW H4 HHS HNLE HNPOS HTALL HTS HTLE HKD HGS HGL HML HLAST hG HHLE
      go_wp2_with fail
      go_loop [13] (fun x => ∃ j : Nat, j ≤ M ∧ x = .int .i64 j) (fun x => M - (intOf x).toNat)
      case atStart => exact ⟨0, Nat.zero_le _, rfl⟩
      case round =>
        obtain ⟨j, hj, rfl⟩ := hrel
        by_cases hjm : j < M
        · have hdj : decide ((j : Int) < (M : Int)) = true := by rw [decide_eq_true_iff]; omega
          have hdj2 : decide (j < M) = true := decide_eq_true hjm
          have hjl : j < l.length := by omega
          have hjd : decide (j < l.length) = true := decide_eq_true hjl
          obtain ⟨cH, fH⟩ := HPP.out.cellH j hjl
          rw [HHA.out j hjl, if_neg (by omega)] at cH
          have xj : IntKind.i64.wrap ((j : Int) + 1) = (j : Int) + 1 := IntWalk.i64_in _ (by omega)
          clear fH
          go_wp2_with fail
          go_round
          case rel => exact ⟨j + 1, by omega, by simp⟩
          case measure => simp [intOf]; omega
        · obtain rfl : j = M := by omega
          have hdj : decide ((j : Int) < (j : Int)) = false := by simp
          have hdj2 : decide (j < j) = false := by simp
          go_wp2_with fail
          go_loop [14] (fun x => ∃ m : Nat, 1 ≤ m ∧ m ≤ G + 1 ∧ x = .int .i64 m) (fun x => G + 1 - (intOf x).toNat)
          case atStart => exact ⟨1, Nat.le_refl _, by omega, rfl⟩
          case round =>
            obtain ⟨m, hm1, hm2, rfl⟩ := hrel
            by_cases hmg : m ≤ G
            · have hdm : decide ((m : Int) ≤ (G : Int)) = true := by rw [decide_eq_true_iff]; omega
              have hdm2 : decide (m ≤ G) = true := decide_eq_true hmg
              have hml : m < l.length + 1 := by omega
              have hmd : decide (m < l.length + 1) = true := decide_eq_true hml
              have hmd3 : decide ((m : Int) < (l.length : Int) + 1) = true := by rw [decide_eq_true_iff]; omega
              obtain ⟨cT, fT⟩ := HPP.out.cellT m (by omega)
              have e1 : tdN l l.length m = 1 := by unfold tdN; rw [if_neg (by omega)]; exact HTA.out m hm1 hmg
              rw [e1] at cT
              have xm : IntKind.i64.wrap ((m : Int) + 1) = (m : Int) + 1 := IntWalk.i64_in _ (by omega)
              clear fT e1
              go_wp2_with fail
              go_round
              case rel => exact ⟨m + 1, by omega, by omega, by simp⟩
              case measure => simp [intOf]; omega
            · have hdm : decide ((m : Int) ≤ (G : Int)) = false := by rw [decide_eq_false_iff_not]; omega
              have hdm2 : decide (m ≤ G) = false := by rw [decide_eq_false_iff_not]; omega
              obtain ⟨cH, fH⟩ := HPP.out.cellH j hMl
              rw [HHA.out j hMl, if_pos (by omega)] at cH
              clear fH
              go_wp2_with fail
              refine (HSU.out _).mono ?_
              rintro e wz ⟨rfl, hb⟩
              have hBB := (HW4.out _ HPP.out.base).2
              clear HSU cH
              go_wp2_with fail
              go_ret
              exact ⟨rfl, hBB.trans (hb.mono hBB.size)⟩
end Go.Proofs.YtjgokhhpfgnceaaDoor

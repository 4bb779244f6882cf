/- Texts put together: Xf Xr. -/
import Derived.Test.YtajlcaconnkodaaDoorPR
import Derived.Test.YtajlcaconnkodaaDoorPM
import Derived.Test.YtajlcaconnkodaaDoorPT
import Derived.Test.YtajlcaconnkodaaDoorPB
import Derived.BigQuiet
import Derived.Deep.QuietTactic
import Derived.Lib.Hide
/- The document's Steps. Stage 12. -/
namespace Go.Proofs.YtajlcaconnkodaaDoor
open Go.RowKit BS

theorem OwS.from {b b' : Nat} {v : Value} {L : List Nat} {W : World} (h : OwS b v L W) (hb : b' ≤ b) : OwS b' v L W := by
  refine ⟨h.1, ?_⟩
  rcases h.2 with hn | ⟨g, c, cur, e, h1, h2⟩
  · exact .inl hn
  · exact .inr ⟨g, c, cur, e, Nat.le_trans hb h1, h2⟩
theorem OwS.nil (W : World) (base : Nat) : OwS base (.slice none 0 0) [] W := World.ownsRow_nil _ _ _ _
set_option maxRecDepth 100000 in
set_option maxHeartbeats 8000000 in
theorem rSteps_calls (l : List NdN) (hl : l.length ≤ 1000) (a : Option Addr) (cap : Nat) (q : Int) (w : World) (h : NodesAt l a w) :
    Calls Tryd.prog 11 #[.slice a l.length cap, .int .i64 q] w fun e w' => ∃ v, e = .returned v ∧ OwS w.heap.size v (stepsT l q) w' ∧ Below w.heap.size w w' := by
  have HC := Lib.hid (rCan_calls l hl a cap w h)
  have HN := Lib.hid h
  clear h
  by_cases bad : q < 0 ∨ ((canT l).length : Int) ≤ q
  · have HS := Lib.hid (show stepsT l q = [] from if_neg (by
      rintro ⟨hr, h0, h1, _⟩
      rw [canT_len l hr] at bad
      omega))
    generalize hL : canT l = L at *
    clear hL
    obtain ⟨n, hn⟩ : ∃ n, n = L.length := ⟨_, rfl⟩
    rw [← hn] at bad HC
    clear hn
    rcases bad with h0 | h0
    · go_enter Tryd.func11, Tryd.ntmps11
      go_wp2_with fail
      refine HC.out.mono ?_
      rintro e w1 ⟨b, c, rfl, _, hb⟩
      have HB := Lib.hid hb
      clear hb HC
      go_wp2_with fail
      go_ret
      first | exact ⟨_, rfl, by rw [HS.out]; exact OwS.nil _ _, HB.out⟩ | exact ⟨by rw [HS.out]; exact OwS.nil _ _, HB.out⟩
    · have h00 : ¬ q < 0 := by omega
      go_enter Tryd.func11, Tryd.ntmps11
      go_wp2_with fail
      refine HC.out.mono ?_
      rintro e w1 ⟨b, c, rfl, _, hb⟩
      have HB := Lib.hid hb
      clear hb HC
      go_wp2_with fail
      go_ret
      first | exact ⟨_, rfl, by rw [HS.out]; exact OwS.nil _ _, HB.out⟩ | exact ⟨by rw [HS.out]; exact OwS.nil _ _, HB.out⟩
  · have h0 : ¬ q < 0 := by omega
    have h1 : ¬ ((canT l).length : Int) ≤ q := by omega
    have hr : rightT l = true := by
      cases hr : rightT l with
      | true => rfl
      | false =>
        have : canT l = [] := by unfold canT; rw [hr]; rfl
        rw [this] at h1
        simp at h1
        omega
    have hlen := canT_len l hr
    have hget := canT_get l hr
    obtain ⟨k, rfl⟩ : ∃ k : Nat, q = k := ⟨q.toNat, by omega⟩
    rw [hlen] at h1 HC
    have hk : k < l.length := by omega
    have HG := Lib.hid (show ∀ b W, BoolsB w.heap.size (canT l) b W → CanB l b W from fun b W hB => by
      obtain ⟨g, o, e, _, hg, hc⟩ := hB (by intro e; rw [e] at hlen; simp at hlen; omega)
      refine ⟨g, o, e, hg, fun i hi => ?_⟩
      rw [hc i (by rw [hlen]; exact hi)]
      have := hget i hi
      rw [List.getElem?_eq_getElem (by rw [hlen]; exact hi)] at this
      rw [Option.some.inj this])
    have hkI : (k : Int) < (l.length : Int) := by omega
    have hkd : decide (k < l.length) = true := decide_eq_true hk
    clear bad hlen hget
    cases hc : canF l k with
    | false =>
      have HS := Lib.hid (show stepsT l k = [] from if_neg (by
        rintro ⟨_, _, _, h4⟩
        rw [Int.toNat_natCast, hc] at h4
        cases h4))
      go_enter Tryd.func11, Tryd.ntmps11
      go_wp2_with fail
      refine HC.out.mono ?_
      rintro e w1 ⟨b, c, rfl, hB, hb⟩
      obtain ⟨g, o, rfl, hg, hcc⟩ := HG.out b w1 hB
      have c0 := hcc k hk
      rw [hc] at c0
      have HB := Lib.hid hb
      clear hb HC hB hcc HG
      go_wp2_with fail
      go_ret
      first | exact ⟨_, rfl, by rw [HS.out]; exact OwS.nil _ _, HB.out⟩ | exact ⟨by rw [HS.out]; exact OwS.nil _ _, HB.out⟩
    | true =>
      have HS := Lib.hid (show stepsT l k = ofN l k from by
        unfold stepsT
        rw [Int.toNat_natCast, if_pos ⟨hr, by omega, hkI, hc⟩])
      have HO := Lib.hid (fun b c W hN hC => rOf_calls l hr hl a cap b c k hk hc W hN hC)
      go_enter Tryd.func11, Tryd.ntmps11
      go_wp2_with fail
      refine HC.out.mono ?_
      rintro e w1 ⟨b, c, rfl, hB, hb⟩
      have HCB := Lib.hid (HG.out b w1 hB)
      obtain ⟨g, o, rfl, hg, hcc⟩ := HG.out b w1 hB
      have c0 := hcc k hk
      rw [hc] at c0
      have HB := Lib.hid hb
      clear hb HC hB hcc HG
      go_wp2_with fail
      refine (HO.out _ _ w1 (HN.out.below HB.out) HCB.out).mono ?_
      rintro e w2 ⟨v, rfl, ho, hb2⟩
      have HO2 := Lib.hid (OwS.from ho HB.out.size)
      have HB2 := Lib.hid (HB.out.trans (hb2.mono HB.out.size))
      clear ho hb2
      go_wp2_with fail
      go_ret
      first | exact ⟨_, rfl, by rw [HS.out]; exact HO2.out, HB2.out⟩ | exact ⟨by rw [HS.out]; exact HO2.out, HB2.out⟩
end Go.Proofs.YtajlcaconnkodaaDoor

/- The laws of stage 12: what they want of null; sure, NullTells, NullWord. -/
namespace Go.Proofs.YtajlcaconnkodaaDoor
open Go.RowKit BS

/-- What the laws of stage 12 want of the developers' null. -/
structure NullC : Prop where
  can : ∀ (l : List NdN), l.length ≤ 1000 → ∀ (a : Option Addr) (cap : Nat) (w : World), NodesAt l a w → Calls Tryd.prog 7 #[.slice a l.length cap] w fun e w' => ∃ b c, e = .returned (.slice b (canT l).length c) ∧ BoolsB w.heap.size (canT l) b w' ∧ Below w.heap.size w w'
  steps : ∀ (l : List NdN), l.length ≤ 1000 → ∀ (a : Option Addr) (cap : Nat) (q : Int) (w : World), NodesAt l a w → Calls Tryd.prog 10 #[.slice a l.length cap, .int .i64 q] w fun e w' => ∃ v, e = .returned v ∧ OwS w.heap.size v (stepsT l q) w' ∧ Below w.heap.size w w'
  word : ∀ (l : List NdN), l.length ≤ 1000 → ∀ (a : Option Addr) (cap : Nat) (w : World), Tab w → 0 < w.heap.size → NodesAt l a w → Calls Tryd.prog 12 #[.slice a l.length cap] w fun e w' => ∃ v, e = .returned (.tuple #[v, .bool (wordI l)]) ∧ RowV (wordL l) v w' ∧ Below w.heap.size w w'
theorem OwS.ints {base : Nat} {v : Value} {L : List Nat} {W : World} (h : OwS base v L W) : ∃ a c, v = .slice a (L.map fun s : Nat => (s : Int)).length c ∧ IntsO (L.map fun s : Nat => (s : Int)) a W := by
  by_cases hne : L = []
  · subst hne
    obtain ⟨a, c, e⟩ := owns_form h
    exact ⟨a, c, e, fun h => absurd rfl h⟩
  · obtain ⟨g, c, e, _, hg, hc⟩ := h.row hne
    refine ⟨some ⟨g, 0, none⟩, c, by rw [List.length_map]; exact e, fun _ => ⟨g, 0, rfl, hg, fun i hi => ?_⟩⟩
    have h1 := hc i _ (by rw [List.getElem?_map, List.getElem?_eq_getElem (by simpa using hi)]; rfl)
    have e2 : (⟨g, 0, none⟩ : Addr).add i = ⟨g, 0 + i, none⟩ := by
      unfold Addr.add
      split
      · subst i; rfl
      · rfl
    rw [e2] at h1
    rw [h1, List.getElem_map]
theorem steps_len (l : List NdN) (q : Int) (hl : l.length ≤ 1000) : (stepsT l q).length ≤ 2000 := by
  unfold stepsT
  split
  · rename_i h
    have := ofN_len l h.1 q.toNat (by omega) h.2.2.2
    omega
  · simp
/-- Steps as whole numbers. -/
theorem steps_ints {f : FuncId} {args : Array Value} {L : List Nat} {w : World} (h : Calls Tryd.prog f args w fun e w' => ∃ v, e = .returned v ∧ OwS w.heap.size v L w' ∧ Below w.heap.size w w') (M : List Int) (hM : L.map (fun s : Nat => (s : Int)) = M) :
    Calls Tryd.prog f args w fun e w' => ∃ a c, e = .returned (.slice a M.length c) ∧ IntsO M a w' ∧ Below w.heap.size w w' := by
  subst hM
  refine h.mono ?_
  rintro e w' ⟨v, rfl, ho, hb⟩
  obtain ⟨a, c, rfl, hi⟩ := ho.ints
  exact ⟨a, c, rfl, hi, hb⟩
/-! ### sure -/
def t65 : BitVec 256 := BitVec.ofNat 256 (2 ^ 65)
def l12 : List NdN := [⟨2, -1, -1, 0, t65⟩, ⟨1, -1, -1, 0, 0⟩, ⟨4, 0, 1, 0, 0⟩]
@[reducible] def c12 : Array Value := #[.int .i64 2, .int .i64 (-1), .int .i64 (-1), .int .i64 0, .int .u64 0, .int .u64 2, .int .u64 0, .int .u64 0, .int .i64 1, .int .i64 (-1), .int .i64 (-1), .int .i64 0, .int .u64 0, .int .u64 0, .int .u64 0, .int .u64 0, .int .i64 4, .int .i64 0, .int .i64 1, .int .i64 0, .int .u64 0, .int .u64 0, .int .u64 0, .int .u64 0]
theorem l12_word : wordL (l12.take 1) = [65] := by decide +kernel
theorem l12_is : wordI (l12.take 1) = true := by decide +kernel
theorem l12_steps : stepsT l12 2 = [4, 2, 3, 5] := by decide +kernel
theorem l12_none : stepsT l12 0 = [] := by decide +kernel
theorem l12_can : (canT l12).length = 3 := by decide +kernel
theorem wd65 : wd t65 0 = 0 ∧ wd t65 1 = 2 ∧ wd t65 2 = 0 ∧ wd t65 3 = 0 := by decide +kernel
theorem wd00 : wd (0 : BitVec 256) 0 = 0 ∧ wd (0 : BitVec 256) 1 = 0 ∧ wd (0 : BitVec 256) 2 = 0 ∧ wd (0 : BitVec 256) 3 = 0 := by decide +kernel
theorem nd12_0 : ndA (⟨2, -1, -1, 0, t65⟩ : NdN) = #[.int .i64 2, .int .i64 (-1), .int .i64 (-1), .int .i64 0, .int .u64 0, .int .u64 2, .int .u64 0, .int .u64 0] := by
  obtain ⟨y0, y1, y2, y3⟩ := wd65
  unfold ndA ndI
  generalize wd t65 0 = z0 at *
  generalize wd t65 1 = z1 at *
  generalize wd t65 2 = z2 at *
  generalize wd t65 3 = z3 at *
  subst y0 y1 y2 y3
  rfl
theorem nd12_z (k a b m : Int) : ndA (⟨k, a, b, m, 0⟩ : NdN) = #[.int .i64 k, .int .i64 a, .int .i64 b, .int .i64 m, .int .u64 0, .int .u64 0, .int .u64 0, .int .u64 0] := by
  obtain ⟨y0, y1, y2, y3⟩ := wd00
  unfold ndA ndI
  generalize wd (0 : BitVec 256) 0 = z0 at *
  generalize wd (0 : BitVec 256) 1 = z1 at *
  generalize wd (0 : BitVec 256) 2 = z2 at *
  generalize wd (0 : BitVec 256) 3 = z3 at *
  subst y0 y1 y2 y3
  rfl
theorem l12_at (W : World) : NodesAt l12 (some ⟨W.heap.size, 0, none⟩) (W.alloc (.cells c12 38)) := fun _ => by
  have hb := Blk.new W c12 38
  refine ⟨W.heap.size, 0, rfl, hb.lt, fun i hi j hj => ?_⟩
  have hi' : i < 3 := hi
  rw [hb.cell]
  obtain rfl | rfl | rfl : i = 0 ∨ i = 1 ∨ i = 2 := by omega
  · show _ = (ndA (⟨2, -1, -1, 0, t65⟩ : NdN))[j]?
    rw [nd12_0]
    obtain rfl | rfl | rfl | rfl | rfl | rfl | rfl | rfl : j = 0 ∨ j = 1 ∨ j = 2 ∨ j = 3 ∨ j = 4 ∨ j = 5 ∨ j = 6 ∨ j = 7 := by omega
    all_goals rfl
  · show _ = (ndA (⟨1, -1, -1, 0, 0⟩ : NdN))[j]?
    rw [nd12_z]
    obtain rfl | rfl | rfl | rfl | rfl | rfl | rfl | rfl : j = 0 ∨ j = 1 ∨ j = 2 ∨ j = 3 ∨ j = 4 ∨ j = 5 ∨ j = 6 ∨ j = 7 := by omega
    all_goals rfl
  · show _ = (ndA (⟨4, 0, 1, 0, 0⟩ : NdN))[j]?
    rw [nd12_z]
    obtain rfl | rfl | rfl | rfl | rfl | rfl | rfl | rfl : j = 0 ∨ j = 1 ∨ j = 2 ∨ j = 3 ∨ j = 4 ∨ j = 5 ∨ j = 6 ∨ j = 7 := by omega
    all_goals rfl
theorem text65 : ofT [65] = ⟨#[65]⟩ := by decide
set_option maxRecDepth 100000 in
set_option maxHeartbeats 16000000 in
theorem sure12_calls (C : NullC) (w : World) (hT : Tab w) (hw : 0 < w.heap.size) : Calls Tryd.prog 6 #[] w fun e w' => e = .returned (.bool true) ∧ Below w.heap.size w w' := by
  have h1 := fun W hT hw h => C.word (l12.take 1) (by decide) (some ⟨w.heap.size, 0, none⟩) 3 W hT hw h
  rw [l12_word, l12_is] at h1
  have h2 := fun W h => steps_ints (C.steps l12 (by decide) (some ⟨w.heap.size, 0, none⟩) 3 2 W h) [4, 2, 3, 5] (by rw [l12_steps]; rfl)
  have h3 := fun W h => steps_ints (C.steps l12 (by decide) (some ⟨w.heap.size, 0, none⟩) 3 0 W h) [] (by rw [l12_none]; rfl)
  have h4 := fun W h => C.can l12 (by decide) (some ⟨w.heap.size, 0, none⟩) 3 W h
  rw [l12_can] at h4
  have H1 : Hid (∀ W, Tab W → 0 < W.heap.size → NodesAt (l12.take 1) (some ⟨w.heap.size, 0, none⟩) W → Calls Tryd.prog 12 #[.slice (some ⟨w.heap.size, 0, none⟩) 1 3] W fun e W' => ∃ v, e = .returned (.tuple #[v, .bool true]) ∧ RowV [65] v W' ∧ Below W.heap.size W W') := Lib.hid h1
  have H2 : Hid (∀ W, NodesAt l12 (some ⟨w.heap.size, 0, none⟩) W → Calls Tryd.prog 10 #[.slice (some ⟨w.heap.size, 0, none⟩) 3 3, .int .i64 2] W fun e W' => ∃ a c, e = .returned (.slice a 4 c) ∧ IntsO [4, 2, 3, 5] a W' ∧ Below W.heap.size W W') := Lib.hid h2
  have H3 : Hid (∀ W, NodesAt l12 (some ⟨w.heap.size, 0, none⟩) W → Calls Tryd.prog 10 #[.slice (some ⟨w.heap.size, 0, none⟩) 3 3, .int .i64 0] W fun e W' => ∃ a c, e = .returned (.slice a 0 c) ∧ IntsO [] a W' ∧ Below W.heap.size W W') := Lib.hid h3
  have H4 : Hid (∀ W, NodesAt l12 (some ⟨w.heap.size, 0, none⟩) W → Calls Tryd.prog 7 #[.slice (some ⟨w.heap.size, 0, none⟩) 3 3] W fun e W' => ∃ b c, e = .returned (.slice b 3 c) ∧ BoolsB W.heap.size (canT l12) b W' ∧ Below W.heap.size W W') := Lib.hid h4
  clear h1 h2 h3 h4 C
  have HN := Lib.hid (l12_at w)
  have HB : Hid (Below w.heap.size w (w.alloc (.cells c12 38))) := Lib.hid ((Below.refl _ _).alloc (Nat.le_refl _) _)
  have HT := Lib.hid hT
  have hlt : w.heap.size < (w.alloc (.cells c12 38)).heap.size := by rw [World.size_alloc]; omega
  clear hT
  go_enter Tryd.func6, Tryd.ntmps6
  go_upto_region 2 with fail
  generalize w.alloc (.cells c12 38) = w1 at *
  go_wp2_with fail
  refine (H1.out _ (HT.out.keep HB.out hw) (by omega) (nodes_take _ 1 _ _ HN.out)).mono ?_
  rintro e w2 ⟨v2, rfl, hv, hb⟩
  have HV := Lib.hid hv
  replace HN := Lib.hid (HN.out.below hb)
  replace HB := Lib.hid (HB.out.trans (hb.mono HB.out.size))
  clear hb hv H1
  go_wp2_with fail
  refine (H2.out _ HN.out).mono ?_
  rintro e w3 ⟨a3, k3, rfl, hi, hb⟩
  have HI := Lib.hid hi
  replace HV := Lib.hid (HV.out.below hb)
  replace HN := Lib.hid (HN.out.below hb)
  replace HB := Lib.hid (HB.out.trans (hb.mono HB.out.size))
  clear hb H2 hi
  go_wp2_with fail
  have hb := (Below.refl w3.heap.size w3).alloc (Nat.le_refl _) (.cells #[.int .i64 4, .int .i64 2, .int .i64 3, .int .i64 5] 3)
  have HQ := Lib.hid (IntsO.of_blk (l := [4, 2, 3, 5]) (Blk.new w3 #[.int .i64 4, .int .i64 2, .int .i64 3, .int .i64 5] 3))
  replace HI := Lib.hid (HI.out.below hb)
  replace HV := Lib.hid (HV.out.below hb)
  replace HN := Lib.hid (HN.out.below hb)
  replace HB := Lib.hid (HB.out.trans (hb.mono HB.out.size))
  clear hb
  generalize w3.heap.size = g3 at *
  generalize w3.alloc (.cells #[.int .i64 4, .int .i64 2, .int .i64 3, .int .i64 5] 3) = w4 at *
  refine (ints_same [4, 2, 3, 5] (by decide) _ _ _ _ _ HI.out HQ.out).mono ?_
  rintro e w5 ⟨rfl, hb⟩
  replace HV := Lib.hid (HV.out.below hb)
  replace HN := Lib.hid (HN.out.below hb)
  replace HB := Lib.hid (HB.out.trans (hb.mono HB.out.size))
  clear hb HQ HI
  go_wp2_with fail
  refine (H3.out _ HN.out).mono ?_
  rintro e w6 ⟨a6, k6, rfl, _, hb⟩
  replace HV := Lib.hid (HV.out.below hb)
  replace HN := Lib.hid (HN.out.below hb)
  replace HB := Lib.hid (HB.out.trans (hb.mono HB.out.size))
  clear hb H3
  go_wp2_with fail
  refine (H4.out _ HN.out).mono ?_
  rintro e w7 ⟨a7, k7, rfl, _, hb⟩
  have hv7 := HV.out.below hb
  have ct := hv7.text
  rw [text65] at ct
  replace HB := Lib.hid (HB.out.trans (hb.mono HB.out.size))
  clear hb H4 hv7 HV
  go_wp2_with fail
  go_ret
  exact ⟨rfl, HB.out⟩
set_option maxRecDepth 100000 in
set_option maxHeartbeats 16000000 in
theorem nullTells_calls (C : NullC) (l : List NdN) (hl : l.length ≤ 9223372036854775807) (a : Option Addr) (cap : Nat) (q : Int) (w : World) (hT : Tab w) (hw : 0 < w.heap.size) (h : NodesAt l a w) :
    Calls Tryd.prog 3 #[.slice a l.length cap, .int .i64 q] w fun e w' => e = .returned (.bool true) ∧ Below w.heap.size w w' := by
  have HSU := Lib.hid (fun (W : World) (hb : Below w.heap.size w W) => sure12_calls C W (hT.keep hb hw) (by have := hb.size; omega))
  have HN := Lib.hid h
  clear h
  by_cases h5 : 500 < l.length
  · have q1 : decide (500 < l.length) = true := decide_eq_true h5
    have q2 : decide ((500 : Int) < (l.length : Int)) = true := by rw [decide_eq_true_iff]; omega
    clear C h5
    go_enter Tryd.func3, Tryd.ntmps3
    go_wp2_with fail
    refine (HSU.out _ (Below.refl _ _)).mono ?_
    rintro e wz ⟨rfl, hb⟩
    go_wp2_with fail
    go_ret
    exact ⟨rfl, hb⟩
  have q1 : decide (500 < l.length) = false := decide_eq_false h5
  have q2 : decide ((500 : Int) < (l.length : Int)) = false := by rw [decide_eq_false_iff_not]; omega
  have HO1 := Lib.hid (fun W h => C.can l (by omega) a cap W h)
  have HR1 := Lib.hid (fun W h => rCan_calls l (by omega) a cap W h)
  obtain ⟨SL, hSL⟩ : ∃ SL, (stepsT l q).map (fun s : Nat => (s : Int)) = SL := ⟨_, rfl⟩
  have HO2 := Lib.hid (fun W h => steps_ints (C.steps l (by omega) a cap q W h) SL hSL)
  have HR2 := Lib.hid (fun W h => steps_ints (rSteps_calls l (by omega) a cap q W h) SL hSL)
  have HSL := Lib.hid (show SL.length ≤ 2000 by rw [← hSL, List.length_map]; exact steps_len l q (by omega))
  clear hSL
  have hNl : (canT l).length ≤ 500 := by
    cases hr : rightT l with
    | true => rw [canT_len l hr]; omega
    | false =>
      have : canT l = [] := by unfold canT; rw [hr]; rfl
      rw [this]; simp
  generalize canT l = NL at *
  clear C h5
  go_enter Tryd.func3, Tryd.ntmps3
  go_wp2_with fail
  refine (HO1.out _ HN.out).mono ?_
  rintro e w1 ⟨b1, k1, rfl, hx, hb⟩
  replace HN := Lib.hid (HN.out.below hb)
  have HB := Lib.hid hb
  have HX := Lib.hid hx
  clear hb hx HO1
  go_wp2_with fail
  refine (HR1.out _ HN.out).mono ?_
  rintro e w2 ⟨b2, k2, rfl, hy, hb⟩
  replace HN := Lib.hid (HN.out.below hb)
  replace HX := Lib.hid (HX.out.below hb)
  replace HB := Lib.hid (HB.out.trans (hb.mono HB.out.size))
  have HY := Lib.hid hy
  clear hb hy HR1
  go_upto_region 7 with fail
  go_loopw [7] (fun v wr => ∃ i : Nat, i ≤ NL.length ∧ v = .int .i64 i ∧ Below w2.heap.size w2 wr) (fun v _ => NL.length - (intOf v).toNat)
  case atStart => exact ⟨0, Nat.zero_le _, rfl, Below.refl _ _⟩
  case round =>
    obtain ⟨i, hi, rfl, hW⟩ := hrel
    by_cases hlt : i < NL.length
    · obtain ⟨g, off, rfl, _, hg, hc⟩ := HX.out.below hW (by rintro rfl; simp at hlt)
      obtain ⟨g2, off2, rfl, _, hg2, hc2⟩ := HY.out.below hW (by rintro rfl; simp at hlt)
      have c0 := hc i hlt
      have d0 := hc2 i hlt
      generalize NL[i] = bv at c0 d0
      have q0 : (0 : Int) ≤ (i : Int) := by omega
      have q1 : (i : Int) < (NL.length : Int) := by omega
      have q2 : decide ((i : Int) < (NL.length : Int)) = true := by rw [decide_eq_true_iff]; omega
      have q3 : decide (i < NL.length) = true := decide_eq_true hlt
      have xj : IntKind.i64.wrap ((i : Int) + 1) = (i : Int) + 1 := IntWalk.i64_in _ (by omega)
      have HWW := Lib.hid hW
      clear hc hc2 hW hg hg2
      go_wp2_with fail
      go_quiet (fail)
      go_wp2_with fail
      go_roundw
      case rel => exact ⟨i + 1, by omega, by simp, below_drN HWW.out _⟩
      case measure => simp [intOf]; omega
    · obtain rfl : i = NL.length := by omega
      have HWW := Lib.hid hW
      replace HN := Lib.hid (HN.out.below hW)
      clear hW hlt
      go_wp2_with fail
      refine (HO2.out _ HN.out).mono ?_
      rintro e w3 ⟨a3, k3, rfl, hi3, hb⟩
      replace HN := Lib.hid (HN.out.below hb)
      have HB3 := Lib.hid (HWW.out.trans (hb.mono HWW.out.size))
      have HI3 := Lib.hid hi3
      clear hb HO2 hi3
      go_wp2_with fail
      refine (HR2.out _ HN.out).mono ?_
      rintro e w4 ⟨a4, k4, rfl, hi4, hb⟩
      have HB4 := Lib.hid (HB3.out.trans (hb.mono HB3.out.size))
      have HI4 := Lib.hid hi4
      replace HI3 := Lib.hid (HI3.out.below hb)
      clear hb HR2 hi4
      go_wp2_with fail
      refine (ints_same SL (by have := HSL.out; omega) _ _ _ _ _ HI3.out HI4.out).mono ?_
      rintro e w5 ⟨rfl, hb⟩
      have HB5 := Lib.hid (HB.out.trans ((HB4.out.trans (hb.mono HB4.out.size)).mono HB.out.size))
      clear hb
      go_wp2_with fail
      refine (HSU.out _ HB5.out).mono ?_
      rintro e w6 ⟨rfl, hb⟩
      have HB6 := Lib.hid (HB5.out.trans (hb.mono HB5.out.size))
      clear hb
      go_wp2_with fail
      go_ret
      exact ⟨rfl, HB6.out⟩
set_option maxRecDepth 100000 in
set_option maxHeartbeats 16000000 in
theorem nullWord_calls (C : NullC) (l : List NdN) (hl : l.length ≤ 9223372036854775807) (a : Option Addr) (cap : Nat) (w : World) (hT : Tab w) (hw : 0 < w.heap.size) (h : NodesAt l a w) :
    Calls Tryd.prog 4 #[.slice a l.length cap] w fun e w' => e = .returned (.bool true) ∧ Below w.heap.size w w' := by
  have HSU := Lib.hid (fun (W : World) (hb : Below w.heap.size w W) => sure12_calls C W (hT.keep hb hw) (by have := hb.size; omega))
  have HN := Lib.hid h
  clear h
  by_cases h5 : 500 < l.length
  · have q1 : decide (500 < l.length) = true := decide_eq_true h5
    have q2 : decide ((500 : Int) < (l.length : Int)) = true := by rw [decide_eq_true_iff]; omega
    clear C h5
    go_enter Tryd.func4, Tryd.ntmps4
    go_wp2_with fail
    refine (HSU.out _ (Below.refl _ _)).mono ?_
    rintro e wz ⟨rfl, hb⟩
    go_wp2_with fail
    go_ret
    exact ⟨rfl, hb⟩
  have q1 : decide (500 < l.length) = false := decide_eq_false h5
  have q2 : decide ((500 : Int) < (l.length : Int)) = false := by rw [decide_eq_false_iff_not]; omega
  have HO1 := Lib.hid (C.word l (by omega) a cap w hT hw HN.out)
  have HR1 := Lib.hid (fun W h => rWord_calls l (by omega) a cap W h)
  generalize wordL l = L at *
  generalize wordI l = I at *
  clear C h5
  go_enter Tryd.func4, Tryd.ntmps4
  go_wp2_with fail
  refine HO1.out.mono ?_
  rintro e w1 ⟨v1, rfl, hv, hb⟩
  replace HN := Lib.hid (HN.out.below hb)
  have HB := Lib.hid hb
  have HV := Lib.hid hv
  clear hb hv HO1
  go_wp2_with fail
  refine (HR1.out _ HN.out).mono ?_
  rintro e w2 ⟨v2, rfl, hv, hb⟩
  have c1 := (HV.out.below hb).text
  have c2 := hv.text
  replace HB := Lib.hid (HB.out.trans (hb.mono HB.out.size))
  clear hb hv HR1 HV
  go_wp2_with fail
  refine (HSU.out _ HB.out).mono ?_
  rintro e w3 ⟨rfl, hb⟩
  replace HB := Lib.hid (HB.out.trans (hb.mono HB.out.size))
  clear hb
  go_wp2_with fail
  go_ret
  exact ⟨rfl, HB.out⟩
end Go.Proofs.YtajlcaconnkodaaDoor

/- Texts put together: Ye Qn. -/
import Derived.Test.YtpncomjpmilbkaaDoorPZ
import Derived.Test.YtpncomjpmilbkaaDoorPS
import Derived.Test.YtpncomjpmilbkaaDoorPK
import Derived.Laws.AppendOwn
import Derived.Deep.LoopGhost
import Derived.Test.YtpncomjpmilbkaaDoorPAd
import Derived.Test.YtpncomjpmilbkaaDoorPAc
import Derived.Lib.SliceRun
/- The developers' trees: the closure that numbers groups; going through a tree. -/
namespace Go.Proofs.YtpncomjpmilbkaaDoor
open Go.RowKit BS

/-! ### Worlds -/
/-- All blocks below base but two are as they were. -/
structure ThK (w0 W : World) (base nb gb : Nat) : Prop where
  os : W.os = w0.os
  tape : W.tape = w0.tape
  output : W.output = w0.output
  size : base ≤ W.heap.size
  block : ∀ B, B < base → B ≠ nb → B ≠ gb → W.heap[B]? = w0.heap[B]?
theorem ThK.refl (w0 : World) (base nb gb : Nat) (h : base ≤ w0.heap.size) : ThK w0 w0 base nb gb := ⟨rfl, rfl, rfl, h, fun _ _ _ _ => rfl⟩
theorem ThK.below {w0 W W' : World} {base nb gb : Nat} (h : ThK w0 W base nb gb) (hb : Below W.heap.size W W') : ThK w0 W' base nb gb :=
  ⟨hb.os.trans h.os, hb.tape.trans h.tape, hb.output.trans h.output, Nat.le_trans h.size hb.size, fun B h1 h2 h3 => (hb.block B (Nat.lt_of_lt_of_le h1 h.size)).trans (h.block B h1 h2 h3)⟩
theorem ThK.belowN {w0 W W' : World} {base nb gb n : Nat} (h : ThK w0 W base nb gb) (hb : Below n W W') (hn : base ≤ n) : ThK w0 W' base nb gb :=
  ⟨hb.os.trans h.os, hb.tape.trans h.tape, hb.output.trans h.output, Nat.le_trans h.size hb.size, fun B h1 h2 h3 => (hb.block B (Nat.lt_of_lt_of_le h1 hn)).trans (h.block B h1 h2 h3)⟩
theorem ThK.grown {w0 W W' : World} {base nb gb : Nat} {row : Option Nat} (h : ThK w0 W base nb gb) (hg : W.grownBy W' row) (hr : ∀ k, row = some k → base ≤ k) : ThK w0 W' base nb gb :=
  ⟨hg.os.trans h.os, hg.tape.trans h.tape, hg.output.trans h.output, Nat.le_trans h.size hg.size, fun B h1 h2 h3 => (hg.block B (Nat.lt_of_lt_of_le h1 h.size) (fun e => by have := hr B e.symm; omega)).trans (h.block B h1 h2 h3)⟩
theorem ThK.setN {w0 W : World} {base nb gb : Nat} (h : ThK w0 W base nb gb) (i : Nat) (v : Value) : ThK w0 (W.setCell ⟨nb, i, none⟩ v) base nb gb :=
  ⟨h.os, h.tape, h.output, by simpa using h.size, fun B h1 h2 h3 => (Below.heap_setCell W ⟨nb, i, none⟩ v B h2).trans (h.block B h1 h2 h3)⟩
theorem ThK.setG {w0 W : World} {base nb gb : Nat} (h : ThK w0 W base nb gb) (i : Nat) (v : Value) : ThK w0 (W.setCell ⟨gb, i, none⟩ v) base nb gb :=
  ⟨h.os, h.tape, h.output, by simpa using h.size, fun B h1 h2 h3 => (Below.heap_setCell W ⟨gb, i, none⟩ v B h3).trans (h.block B h1 h2 h3)⟩
theorem ThK.cell {w0 W : World} {base nb gb : Nat} (h : ThK w0 W base nb gb) {p : Addr} (h1 : p.block < base) (h2 : p.block ≠ nb) (h3 : p.block ≠ gb) : W.cell? p = w0.cell? p := World.cell?_of_block (h.block p.block h1 h2 h3)
theorem ThK.nodes {w0 W : World} {base nb gb : Nat} (h : ThK w0 W base nb gb) {l : List NdN} {g off : Nat} (hN : NodesAt l (some ⟨g, off, none⟩) w0) (h1 : g < base) (h2 : g ≠ nb) (h3 : g ≠ gb) : NodesAt l (some ⟨g, off, none⟩) W := fun hne => by
  obtain ⟨g', off', e, _, hc⟩ := hN hne
  cases e
  exact ⟨g, off, rfl, Nat.lt_of_lt_of_le h1 h.size, fun i hi j hj => (h.cell (p := ⟨g, off + i * 8 + j, none⟩) h1 h2 h3).trans (hc i hi j hj)⟩
theorem ThK.sz {w0 W : World} {base nb gb : Nat} (h : ThK w0 W base nb gb) {l : List NdN} {b : Nat} (hZ : SzAt l b w0) (h1 : b < base) (h2 : b ≠ nb) (h3 : b ≠ gb) : SzAt l b W :=
  ⟨Nat.lt_of_lt_of_le h1 h.size, fun i hi => (h.cell (p := ⟨b, i, none⟩) h1 h2 h3).trans (hZ.2 i hi)⟩
/-! ### The closure -/
set_option maxRecDepth 100000 in
set_option maxHeartbeats 4000000 in
theorem clo_calls (l : List NdN) (i : Nat) (hi : i < l.length) (hl : l.length ≤ 1000000) (g off cap c1 gb c3 nb G : Nat) (hG : G ≤ 1000000) (vs : Array Value) (hvs : vs.size = l.length) (w : World) (h1 : w.cell? ⟨c1, 0, none⟩ = some (.slice (some ⟨g, off, none⟩) l.length cap)) (hN : NodesAt l (some ⟨g, off, none⟩) w)
    (h2 : Blk w gb #[.int .i64 G] 3) (h3 : w.cell? ⟨c3, 0, none⟩ = some (.slice (some ⟨nb, 0, none⟩) l.length l.length)) (h4 : Blk w nb vs 3) (hc3 : c3 ≠ gb) (hgn : gb ≠ nb) :
    Calls Tryd.prog 67 #[.int .i64 i, .pointer (some ⟨c1, 0, none⟩), .pointer (some ⟨gb, 0, none⟩), .pointer (some ⟨c3, 0, none⟩)] w fun e w' => e = .returned (.tuple #[]) ∧ (kdN l i = 3 → w' = (w.setCell ⟨gb, 0, none⟩ (.int .i64 ((G : Int) + 1))).setCell ⟨nb, i, none⟩ (.int .i64 ((G : Int) + 1))) ∧ (kdN l i ≠ 3 → w' = w) := by
  have hne : l ≠ [] := by rintro rfl; simp at hi
  obtain ⟨g', off', e, hg, hc⟩ := hN hne
  cases e
  have c0 := hc i hi 0 (by decide)
  rw [Nat.add_zero, show (ndA l[i])[0]? = some (.int .i64 (kdN l i)) by rw [kdN_get l i hi]; rfl] at c0
  have di : decide (i < l.length) = true := decide_eq_true hi
  have diI : (i : Int) < (l.length : Int) := by omega
  generalize kdN l i = K at *
  clear hc hN hne
  by_cases hK : K = 3
  · have q : (K == 3) = true := by rw [hK]; rfl
    have g0 := h2.cell 0
    have gf := h2.frozen 0
    simp only [List.getElem?_toArray, List.getElem?_cons_zero] at g0
    have xG : IntKind.i64.wrap ((G : Int) + 1) = (G : Int) + 1 := IntWalk.i64_in _ (by omega)
    have s3 : (w.setCell ⟨gb, 0, none⟩ (.int .i64 ((G : Int) + 1))).cell? ⟨c3, 0, none⟩ = some (.slice (some ⟨nb, 0, none⟩) l.length l.length) := (World.cell?_of_block (w := w) (a := ⟨c3, 0, none⟩) (Below.heap_setCell w ⟨gb, 0, none⟩ _ c3 hc3)).trans h3
    have s0 : (w.setCell ⟨gb, 0, none⟩ (.int .i64 ((G : Int) + 1))).cell? ⟨gb, 0, none⟩ = some (.int .i64 ((G : Int) + 1)) := ((h2.set 0 (.int .i64 ((G : Int) + 1))).cell 0).trans rfl
    obtain ⟨old, hold⟩ : ∃ old, vs[i]? = some old := ⟨vs[i]'(by omega), by simp [show i < vs.size by omega]⟩
    have b4 := h4.other (Ne.symm hgn) 0 (.int .i64 ((G : Int) + 1))
    have ci := (b4.cell i).trans hold
    have fi := b4.frozen i
    go_enter Tryd.func67, Tryd.ntmps67
    go_wp2_with fail
    go_end0
    exact ⟨rfl, fun _ => rfl, fun h => absurd hK h⟩
  · have q : (K == 3) = false := by rw [beq_eq_false_iff_ne]; exact hK
    go_enter Tryd.func67, Tryd.ntmps67
    go_wp2_with fail
    go_end0
    exact ⟨rfl, fun h => absurd h hK, fun _ => rfl⟩

/-! ### Going through a tree -/
theorem infoInt : (Tryd.prog.info? 3).map (fun i => (i.zero, i.size, i.bytes)) = some (some (.int .i64 0), 1, 8) := by kernel_rfl
theorem numsR_all (l : List NdN) (hf : manyF 0 (l.map NdN.kids) = some 1) : (numsR l).length = l.length ∧ ∀ j (h : j < (numsR l).length), (numsR l)[j] = ((numF (kdN l) (fiN l) l.length j : Nat) : Int) := by
  have hsr : (sizesR l).length = l.length := by rw [sizesR_len, if_pos hf]
  unfold numsR
  rw [hsr]
  exact ⟨by simp, fun j h => by simp⟩
set_option maxRecDepth 100000 in
set_option maxHeartbeats 16000000 in
theorem through_calls (l : List NdN) (hl : l.length ≤ 1000000) (hf : manyF 0 (l.map NdN.kids) = some 1) (g off cap sb c1 gb c3 nb : Nat) (vs0 : Array Value) (hv0 : vs0.size = l.length) (hz0 : ∀ j, j < l.length → vs0[j]? = some (.int .i64 0)) (w : World) (hN : NodesAt l (some ⟨g, off, none⟩) w) (hZ : SzAt l sb w)
    (h1 : w.cell? ⟨c1, 0, none⟩ = some (.slice (some ⟨g, off, none⟩) l.length cap)) (h2 : Blk w gb #[.int .i64 0] 3) (h3 : w.cell? ⟨c3, 0, none⟩ = some (.slice (some ⟨nb, 0, none⟩) l.length l.length)) (h4 : Blk w nb vs0 3)
    (hs : c1 < w.heap.size ∧ c3 < w.heap.size ∧ g < w.heap.size) (d1 : c1 ≠ gb ∧ c1 ≠ nb) (d2 : c3 ≠ gb ∧ c3 ≠ nb) (d3 : g ≠ gb ∧ g ≠ nb) (d4 : sb ≠ gb ∧ sb ≠ nb) (d5 : gb ≠ nb) :
    Calls Tryd.prog 66 #[.agg (trC (some ⟨g, off, none⟩) l.length cap (some ⟨sb, 0, none⟩) l.length l.length), .func (.func 67) #[] #[.pointer (some ⟨c1, 0, none⟩), .pointer (some ⟨gb, 0, none⟩), .pointer (some ⟨c3, 0, none⟩)]] w
      fun e w' => e = .returned (.tuple #[]) ∧ Blk w' nb (intsV (numsR l)) 3 ∧ ThK w w' w.heap.size nb gb := by
  have T := treeL l hf
  have hn0 := T.some'
  obtain ⟨hP0, hU0⟩ := Pre.start T
  have HT := Lib.hid T
  have HN := Lib.hid hN
  have HZ := Lib.hid hZ
  have H1 := Lib.hid h1
  have H3 := Lib.hid h3
  have hsb := hZ.1
  have hB : Below w.heap.size w (w.alloc (.cells (trC (some ⟨g, off, none⟩) l.length cap (some ⟨sb, 0, none⟩) l.length l.length) 106)) := by go_grown
  have hT := Blk.new w (trC (some ⟨g, off, none⟩) l.length cap (some ⟨sb, 0, none⟩) l.length l.length) 106
  have hz : w.heap.size + 1 = (w.alloc (.cells (trC (some ⟨g, off, none⟩) l.length cap (some ⟨sb, 0, none⟩) l.length l.length) 106)).heap.size := by simp
  have xn : IntKind.i64.wrap ((l.length : Int) - 1) = ((l.length - 1 : Nat) : Int) := by rw [show (l.length : Int) - 1 = ((l.length - 1 : Nat) : Int) by omega]; exact IntWalk.i64_in _ (by omega)
  clear T h1 h3 hN hZ
  go_enter Tryd.func66, Tryd.ntmps66
  go_upto_region 1 with fail
  have k1 : ThK w (w.alloc (.cells (trC (some ⟨g, off, none⟩) l.length cap (some ⟨sb, 0, none⟩) l.length l.length) 106)) w.heap.size nb gb := (ThK.refl w _ nb gb (Nat.le_refl _)).below hB
  have g1 := h2.alloc (.cells (trC (some ⟨g, off, none⟩) l.length cap (some ⟨sb, 0, none⟩) l.length l.length) 106)
  have n1 := h4.alloc (.cells (trC (some ⟨g, off, none⟩) l.length cap (some ⟨sb, 0, none⟩) l.length l.length) 106)
  generalize w.alloc (.cells (trC (some ⟨g, off, none⟩) l.length cap (some ⟨sb, 0, none⟩) l.length l.length) 106) = w1 at *
  have t0 := hT.cell 0; have t1 := hT.cell 1
  simp only [List.getElem?_toArray, List.getElem?_cons_zero, List.getElem?_cons_succ] at t0 t1
  go_upto_region 2 with fail
  have BW : Below w1.heap.size w1 (w1.alloc (.cells #[.int .i64 ((l.length - 1 : Nat) : Int)] 3)) := (Below.refl _ _).alloc (Nat.le_refl _) _
  have own0 : (w1.alloc (.cells #[.int .i64 ((l.length - 1 : Nat) : Int)] 3)).ownsRow (w.heap.size + 1) 3 1 (.slice (some ⟨w1.heap.size, 0, none⟩) 1 1) [l.length - 1].length ([l.length - 1].reverse.map fun x : Nat => Value.int .i64 (x : Int)) :=
    ⟨rfl, .inr ⟨w1.heap.size, 1, _, rfl, by omega, Blk.new w1 _ _, Nat.le_refl _, by decide, rfl, rfl⟩⟩
  have T2 := hT.below BW hT.lt
  have k2 := k1.below BW
  have g2 := g1.below BW g1.lt
  have n2 := n1.below BW n1.lt
  have c00 : cntU (kdN l) (fiN l) l.length [l.length - 1] = 0 := List.countP_eq_zero.2 fun k hk => by
    rw [hU0 k (List.mem_range.1 hk)]; simp
  generalize w1.alloc (.cells #[.int .i64 ((l.length - 1 : Nat) : Int)] 3) = w2 at *
  clear t0 t1 BW hT k1 g1 n1 hB
  go_loopg [4] (leftU (fiN l) l.length [l.length - 1]) (fun k v wr => ∃ st : List Nat, leftU (fiN l) l.length st = k ∧ Pre l.length (fiN l) st ∧ wr.ownsRow (w.heap.size + 1) 3 1 v st.length (st.reverse.map fun x : Nat => Value.int .i64 (x : Int)) ∧ Blk wr gb #[.int .i64 (cntU (kdN l) (fiN l) l.length st : Nat)] 3 ∧ (∃ vs : Array Value, vs.size = l.length ∧ (∀ j, j < l.length → vs[j]? = some (.int .i64 (if inU (fiN l) st j = true then 0 else (numF (kdN l) (fiN l) l.length j : Nat)))) ∧ Blk wr nb vs 3) ∧ ThK w wr w.heap.size nb gb ∧ Blk wr w.heap.size (trC (some ⟨g, off, none⟩) l.length cap (some ⟨sb, 0, none⟩) l.length l.length) 106 ∧ w.heap.size + 1 ≤ wr.heap.size)
  case atStart =>
    refine ⟨[l.length - 1], rfl, hP0, own0, by rw [c00]; exact g2, ⟨vs0, hv0, fun j hj => by rw [hz0 j hj, hU0 j hj]; rfl, n2⟩, k2, T2, T2.lt⟩
  case round =>
    clear own0 g2 n2 k2 T2 hP0 hU0 c00 xn
    obtain ⟨st, hk, hP, hown, hg, ⟨vs, hvs, hno, hnb⟩, hK, hT, hsz⟩ := hrel
    cases st with
    | nil =>
      obtain ⟨a, cp, rfl⟩ := owns_form hown
      have HK := Lib.hid hK
      have HNB := Lib.hid hnb
      have hvv : vs = intsV (numsR l) := by
        obtain ⟨hnl, hng⟩ := numsR_all l hf
        refine intsV_ext _ _ (by rw [hvs, hnl]) fun j hj => ?_
        rw [hno j (by omega), if_neg (by simp [inU]), hng j hj]
      clear hK hnb hown hno hT hP
      go_wp2_with fail
      go_end0
      exact ⟨rfl, by rw [← hvv]; exact HNB.out, HK.out⟩
    | cons r st =>
      have hr := hP.lt r (List.mem_cons_self ..)
      obtain ⟨hUr, hU, -, hP2⟩ := hP.next HT.out
      have hleft := hP.left HT.out
      have hcnt := hP.count HT.out (kdN l)
      have hfew := hP.few HT.out
      have hfew2 := hP2.few HT.out
      have hl2 := leftU_le (n := l.length) (fi := fiN l) (kidsN l r ++ st)
      have hgl := cntU_le (n := l.length) (fi := fiN l) (kdN l) (r :: st)
      have hl1 := leftU_le (n := l.length) (fi := fiN l) (r :: st)
      rw [List.length_cons] at hfew
      rw [List.length_append] at hfew2
      rw [List.length_cons, List.reverse_cons, List.map_append, List.map_singleton] at hown
      obtain ⟨gw, cw, rfl, hgw, hgwl, hcw, hlast, hown2⟩ := owns_last hown
      have HKR := Lib.hid (kidsR_N l hf r hr)
      generalize cntU (kdN l) (fiN l) l.length (r :: st) = G at *
      have xl : IntKind.i64.wrap (((st.length + 1 : Nat) : Int) - 1) = (st.length : Int) := by rw [show ((st.length + 1 : Nat) : Int) - 1 = (st.length : Int) by omega]; exact IntWalk.i64_in _ (by omega)
      have q0 : decide ((0 : Int) < ((st.length + 1 : Nat) : Int)) = true := by rw [decide_eq_true_iff]; omega
      have HCL := Lib.hid (clo_calls l r hr hl g off cap c1 gb c3 nb G (by omega) vs hvs wr ((hK.cell (p := ⟨c1, 0, none⟩) hs.1 d1.2 d1.1).trans H1.out) (hK.nodes HN.out hs.2.2 d3.2 d3.1) hg ((hK.cell (p := ⟨c3, 0, none⟩) hs.2.1 d2.2 d2.1).trans H3.out) hnb d2.1 d5)
      have HPST : Hid (∀ w', (kdN l r = 3 → w' = (wr.setCell ⟨gb, 0, none⟩ (.int .i64 ((G : Int) + 1))).setCell ⟨nb, r, none⟩ (.int .i64 ((G : Int) + 1))) ∧ (kdN l r ≠ 3 → w' = wr) →
          Blk w' gb #[.int .i64 (cntU (kdN l) (fiN l) l.length (kidsN l r ++ st) : Nat)] 3 ∧ (∃ vs : Array Value, vs.size = l.length ∧ (∀ j, j < l.length → vs[j]? = some (.int .i64 (if inU (fiN l) (kidsN l r ++ st) j = true then 0 else (numF (kdN l) (fiN l) l.length j : Nat)))) ∧ Blk w' nb vs 3) ∧
          ThK w w' w.heap.size nb gb ∧ Blk w' w.heap.size (trC (some ⟨g, off, none⟩) l.length cap (some ⟨sb, 0, none⟩) l.length l.length) 106 ∧ wr.heap.size = w'.heap.size ∧ w'.ownsRow (w.heap.size + 1) 3 1 (.slice (some ⟨gw, 0, none⟩) st.length cw) st.length (st.reverse.map fun x : Nat => Value.int .i64 (x : Int))) := Lib.hid (by
        have hgl2 := h2.lt
        have hnl2 := h4.lt
        have hsame : ∀ j, j ≠ r → inU (fiN l) (kidsN l r ++ st) j = inU (fiN l) (r :: st) j := fun j hj => by
          rw [Bool.eq_iff_iff, hU j]
          exact ⟨fun h => h.1, fun h => ⟨h, hj⟩⟩
        have hrU : inU (fiN l) (kidsN l r ++ st) r = false := by
          cases hx : inU (fiN l) (kidsN l r ++ st) r with
          | false => rfl
          | true => exact absurd rfl ((hU r).1 hx).2
        rintro w' ⟨p3, pn⟩
        by_cases h3 : kdN l r = 3
        · obtain rfl := p3 h3
          obtain ⟨e1, e2⟩ := hcnt.1 h3
          refine ⟨?_, ⟨vs.setIfInBounds r (.int .i64 ((G : Int) + 1)), by simp [hvs], fun j hj => ?_, (hnb.other (Ne.symm d5) 0 _).set r _⟩, (hK.setG 0 _).setN r _, (hT.other (show w.heap.size ≠ gb by omega) 0 _).other (show w.heap.size ≠ nb by omega) r _, by simp, ?_⟩
          · rw [e1]
            exact (hg.set 0 _).other d5 r _
          · by_cases hjr : j = r
            · subst hjr
              rw [hrU, e2]
              simp [hvs, hj]
            · rw [Array.getElem?_setIfInBounds_ne (Ne.symm hjr), hno j hj, hsame j hjr]
          · refine owns_keep hown2 fun g' hg' => ?_
            obtain rfl : gw = g' := Option.some.inj hg'
            exact (Below.heap_setCell _ ⟨nb, r, none⟩ _ gw (by show gw ≠ nb; omega)).trans (Below.heap_setCell _ ⟨gb, 0, none⟩ _ gw (by show gw ≠ gb; omega))
        · obtain rfl := pn h3
          have e1 := hcnt.2 h3
          refine ⟨by rw [e1]; exact hg, ⟨vs, hvs, fun j hj => ?_, hnb⟩, hK, hT, rfl, hown2⟩
          by_cases hjr : j = r
          · subst hjr
            rw [hno j hj, hUr, hrU, if_pos rfl, if_neg (by decide)]
            unfold numF
            rw [if_neg h3]; rfl
          · rw [hno j hj, hsame j hjr])
      have HLEN := Lib.hid (show (kidsR l r).length = (kidsN l r).length by rw [HKR.out, List.length_map])
      have hkl := kidsR_len l r
      have HP2 := Lib.hid hP2
      have HTK := Lib.hid (fun W a1 a2 => tKids_calls l hl hf r hr (some ⟨g, off, none⟩) cap sb W a1 a2)
      have HRV := Lib.hid (fun b W a1 => reverse_calls (kidsR l r) (by omega) b W a1)
      have hklt : leftU (fiN l) l.length (kidsN l r ++ st) + 1 = gk := by rw [← hk]; exact hleft.symm
      clear hP hU hleft hcnt hown hg hno hnb hK hP2 hown2 hUr hk hT
      go_upto_region 5 with fail
      clear hlast
      go_wp2_with fail
      refine HCL.out.mono ?_
      rintro e w5 ⟨rfl, p3, pn⟩
      obtain ⟨hg5, ⟨vs5, hvs5, hno5, hnb5⟩, hK5, hT5, hsz5, hown5⟩ := HPST.out w5 ⟨p3, pn⟩
      clear HCL HPST p3 pn hvs vs
      have t0 := hT5.cell 0; have t1 := hT5.cell 1
      simp only [List.getElem?_toArray, List.getElem?_cons_zero, List.getElem?_cons_succ] at t0 t1
      have HNO5 := Lib.hid hno5
      have HOWN5 := Lib.hid hown5
      have HK5 := Lib.hid hK5
      have HG5 := Lib.hid hg5
      have HNB5 := Lib.hid hnb5
      have HT5 := Lib.hid hT5
      clear hno5 hown5 hK5 hg5 hnb5 hT5
      go_wp2_with fail
      refine (HTK.out _ (HK5.out.nodes HN.out hs.2.2 d3.2 d3.1) (HK5.out.sz HZ.out hsb d4.2 d4.1)).mono ?_
      rintro e w6 ⟨b, rfl, hwb, hbl, hb6⟩
      clear t0 t1 HTK
      have hsz6 := hb6.size
      go_wp2_with fail
      refine (HRV.out b _ hbl).mono ?_
      rintro e w7 ⟨rfl, hbl7, hb7, hz7⟩
      clear HRV hbl
      have hbase := HK5.out.size
      have HK7 := Lib.hid ((HK5.out.below hb6).belowN hb7 (by omega))
      have HG7 := Lib.hid ((HG5.out.below hb6 HG5.out.lt).below hb7 (by have := h2.lt; omega))
      have HNB7 := Lib.hid ((HNB5.out.below hb6 HNB5.out.lt).below hb7 (by have := h4.lt; omega))
      have HT7 := Lib.hid ((HT5.out.below hb6 HT5.out.lt).below hb7 (by omega))
      have hown7 : w7.ownsRow (w.heap.size + 1) 3 1 (.slice (some ⟨gw, 0, none⟩) st.length cw) st.length (st.reverse.map fun x : Nat => Value.int .i64 (x : Int)) := owns_keep HOWN5.out fun g' hg' => by
        obtain rfl : gw = g' := Option.some.inj hg'
        exact (hb7.block gw (by omega)).trans (hb6.block gw (by omega))
      clear HK5 HG5 HNB5 HT5 HOWN5 hb6 hb7
      obtain ⟨i0, hinf, hi0, hi1, hi2⟩ := info_parts infoInt
      have hnews := hbl7.newsL
      have hcwI : (st.length : Int) ≤ (cw : Int) := by omega
      have hcwN : st.length ≤ cw := by omega
      have dcw : decide (st.length ≤ cw) = true := decide_eq_true hcwN
      have hlm : (intsV (kidsR l r).reverse).toList.length = (kidsR l r).length * 1 := by
        rw [Array.length_toList, intsV_size, List.length_reverse, Nat.mul_one]
      have hone : ∀ u ∈ (intsV (kidsR l r).reverse).toList, u.oneCell' = true := fun u hu => by
        simp only [intsV, List.toList_toArray, List.mem_map] at hu
        obtain ⟨x, -, rfl⟩ := hu
        rfl
      have hm1 : w.heap.size + 1 ≤ w7.heap.size := by omega
      go_wp2_with (at_builtin
                   (refine wpList_append_own _ rfl _ _ 50 rfl (w.heap.size + 1) 3 i0 (.int .i64 0) 1 8 Tryd.underlying50 hinf hi0 hi1 hi2 rfl (by decide) _ st.length (st.reverse.map fun x : Nat => Value.int .i64 (x : Int)) rfl hown7 ⟨b, 0, none⟩ (kidsR l r).length (kidsR l r).length (intsV (kidsR l r).reverse).toList rfl hlm hnews hone (by unfold maxLen; omega) (by omega) hm1 ?_
                    intro v8 w8 hown8 hgrow8 _))
      go_roundg (leftU (fiN l) l.length (kidsN l r ++ st))
      case measure => omega
      case rel =>
        have hb8 : ∀ k, Value.ownBlock (.slice (some ⟨gw, 0, none⟩) st.length cw) = some k → w.heap.size + 1 ≤ k := fun k hk => by
          obtain rfl : gw = k := Option.some.inj hk
          exact hgw
        have hxs : (st.reverse.map fun x : Nat => Value.int .i64 (x : Int)) ++ (intsV (kidsR l r).reverse).toList = (kidsN l r ++ st).reverse.map fun x : Nat => Value.int .i64 (x : Int) := by
          rw [List.reverse_append, List.map_append]
          congr 1
          unfold intsV
          rw [HKR.out, List.toList_toArray, ← List.map_reverse, List.map_map]
          rfl
        have hnn : st.length + (kidsR l r).length = (kidsN l r ++ st).length := by rw [HLEN.out, List.length_append]; omega
        rw [hnn, hxs] at hown8
        exact ⟨kidsN l r ++ st, rfl, HP2.out, hown8, HG7.out.kept hgrow8 (fun e => by have := hb8 gb e.symm; have := h2.lt; omega), ⟨vs5, hvs5, HNO5.out, HNB7.out.kept hgrow8 (fun e => by have := hb8 nb e.symm; have := h4.lt; omega)⟩,
          HK7.out.grown hgrow8 (fun k hk => by have := hb8 k hk; omega), HT7.out.kept hgrow8 (fun e => by have := hb8 w.heap.size e.symm; omega), Nat.le_trans hm1 hgrow8.size⟩

theorem zeros_get (n j : Nat) (h : j < n) : (madeCells #[Value.int .i64 0] n)[j]? = some (.int .i64 0) := by
  have hs : (madeCells #[Value.int .i64 0] n).size = n := by simp [madeCells]
  rw [Array.getElem?_eq_getElem (by omega)]
  congr 1
  have : (madeCells #[Value.int .i64 0] n) = Array.replicate n (.int .i64 0) := by
    apply Array.ext
    · simp [madeCells]
    · intro i h1 h2
      have h3 : i % 1 = 0 := Nat.mod_one i
      simp [madeCells, h3]
  simp [this]
set_option maxRecDepth 100000 in
set_option maxHeartbeats 8000000 in
theorem aNumbers_calls (l : List NdN) (hl : l.length ≤ 1000000) (a : Option Addr) (cap : Nat) (w : World) (h : NodesAt l a w) :
    Calls Tryd.prog 37 #[.slice a l.length cap] w fun e w' => ∃ b c, e = .returned (.slice b (numsR l).length c) ∧ IntsB w.heap.size (numsR l) b w' ∧ Below w.heap.size w w' := by
  have HT := Lib.hid (fun W hW => treeOf_calls l hl a cap W hW)
  have HN := Lib.hid h
  have hmk := fun W => run_make_row' (P := Tryd.prog) 50 3 (.int .i64 0) 8 Tryd.underlying50 (by kernel_rfl) rfl .i64 .i64 l.length (by omega) (by omega) W
  have hmz : (madeCells #[Value.int .i64 0] l.length).size = l.length := by simp [madeCells]
  have hzz := zeros_get l.length
  generalize madeCells #[Value.int .i64 0] l.length = vs0 at *
  have hL := Blk.new w #[.slice a l.length cap] 22
  have hB0 : Below w.heap.size w (w.alloc (.cells #[.slice a l.length cap] 22)) := by go_grown
  have hz0 : w.heap.size + 1 = (w.alloc (.cells #[.slice a l.length cap] 22)).heap.size := by simp
  clear h
  go_enter Tryd.func37, Tryd.ntmps37
  go_upto_region 1 with fail
  generalize w.alloc (.cells #[.slice a l.length cap] 22) = w0 at *
  have l0 := hL.cell 0
  simp only [List.getElem?_toArray, List.getElem?_cons_zero] at l0
  go_wp2_with fail
  refine (HT.out _ (HN.out.below hB0)).mono ?_
  rintro e w1 ⟨hb, ⟨hf, rfl⟩ | ⟨hf, b, rfl, hi⟩⟩
  · have hn : numsR l = [] := by
      unfold numsR
      rw [sizesR_no hf]; rfl
    have HE := Lib.hid hn
    have hB := Lib.hid ((hB0.trans (hb.mono hB0.size)).alloc (Nat.le_trans hB0.size hb.size) (.cells (trC none 0 0 none 0 0) 106))
    clear HT hmk hmz hzz hn hf l0
    go_wp2_with fail
    go_ret
    exact ⟨none, 0, by rw [HE.out] <;> rfl, fun h => absurd HE.out h, hB.out⟩
  · have hne : l ≠ [] := by rintro rfl; cases hf
    obtain ⟨g, off, rfl, hg, -⟩ := HN.out hne
    obtain ⟨hz, hwb⟩ := SzAt.of (formed_ne hf) hi
    have hB1 := hB0.trans (hb.mono hB0.size)
    have hL1 := hL.below hb hL.lt
    have hsz1 := hb.size
    have hs0 := hB0.size
    have hsb := hz.1
    have HF := Lib.hid hf
    obtain ⟨hnl, hng⟩ := numsR_all l hf
    have HNL := Lib.hid hnl
    have HN1 := Lib.hid (HN.out.below hB1)
    clear HT hi hb hne hf l0 hL hnl hng HN
    -- the tree's box, the numbers, their box, how many groups
    have q1 := Blk.new w1 (trC (some ⟨g, off, none⟩) l.length cap (some ⟨b, 0, none⟩) l.length l.length) 106
    have b1 : Below w1.heap.size w1 (w1.alloc (.cells (trC (some ⟨g, off, none⟩) l.length cap (some ⟨b, 0, none⟩) l.length l.length) 106)) := by go_grown
    have z1 : w1.heap.size + 1 = (w1.alloc (.cells (trC (some ⟨g, off, none⟩) l.length cap (some ⟨b, 0, none⟩) l.length l.length) 106)).heap.size := by simp
    have l1 := hL1.cell 0
    simp only [List.getElem?_toArray, List.getElem?_cons_zero] at l1
    have hL2 := hL1.below b1 hL1.lt
    have l2 := hL2.cell 0
    simp only [List.getElem?_toArray, List.getElem?_cons_zero] at l2
    go_upto_region 4 with fail
    generalize w1.alloc (.cells (trC (some ⟨g, off, none⟩) l.length cap (some ⟨b, 0, none⟩) l.length l.length) 106) = w2 at *
    have q2 := Blk.new w2 vs0 3
    have b2 : Below w2.heap.size w2 (w2.alloc (.cells vs0 3)) := by go_grown
    have Z2 : Hid (w2.heap.size + 1 = (w2.alloc (.cells vs0 3)).heap.size) := Lib.hid (by simp)
    have q3 := Blk.new (w2.alloc (.cells vs0 3)) #[.slice (some ⟨w2.heap.size, 0, none⟩) l.length l.length] 50
    have b3 : Below (w2.alloc (.cells vs0 3)).heap.size (w2.alloc (.cells vs0 3)) ((w2.alloc (.cells vs0 3)).alloc (.cells #[.slice (some ⟨w2.heap.size, 0, none⟩) l.length l.length] 50)) := by go_grown
    have Z3 : Hid (w2.heap.size + 1 + 1 = ((w2.alloc (.cells vs0 3)).alloc (.cells #[.slice (some ⟨w2.heap.size, 0, none⟩) l.length l.length] 50)).heap.size) := Lib.hid (by simp)
    go_upto_region 5 with fail
    have q2b := q2.alloc (.cells #[.slice (some ⟨w2.heap.size, 0, none⟩) l.length l.length] 50)
    have z2' := Z2.out
    rw [← z2'] at q3
    generalize (w2.alloc (.cells vs0 3)).alloc (.cells #[.slice (some ⟨w2.heap.size, 0, none⟩) l.length l.length] 50) = w4 at *
    have b4 : Below w2.heap.size w2 w4 := b2.trans (b3.mono b2.size)
    clear z2' b3 b2 q2 Z2
    have q5 := Blk.new w4 #[.int .i64 0] 3
    have b5 : Below w4.heap.size w4 (w4.alloc (.cells #[.int .i64 0] 3)) := by go_grown
    have z5 : w4.heap.size < (w4.alloc (.cells #[.int .i64 0] 3)).heap.size := by simp
    go_upto_region 6 with fail
    generalize w4.alloc (.cells #[.int .i64 0] 3) = w5 at *
    have z3 := Z3.out
    have s45 := b5.size
    have s24 := b4.size
    have b25 : Below w2.heap.size w2 w5 := b4.trans (b5.mono s24)
    have b15 : Below w1.heap.size w1 w5 := b1.trans (b25.mono b1.size)
    have r1 := q1.below b25 (by omega)
    have r2 := q2b.below b5 (by omega)
    have r3 := q3.below b5 (by omega)
    have HN5 := Lib.hid (HN1.out.below b15)
    have HZ5 := Lib.hid (hz.below b15)
    have HL5 := Lib.hid (hL2.below b25 (by omega))
    have t0 := r1.cell 0; have t1 := r1.cell 1; have t3 := r3.cell 0
    have lc := HL5.out.cell 0
    simp only [List.getElem?_toArray, List.getElem?_cons_zero, List.getElem?_cons_succ] at t0 t1 t3 lc
    have HB15 := Lib.hid b15
    have HSS : Hid (w2.heap.size + 1 < w4.heap.size ∧ w4.heap.size < w5.heap.size ∧ w1.heap.size < w2.heap.size) := Lib.hid (by omega)
    have HTH := Lib.hid (through_calls l hl HF.out g off cap b w.heap.size w4.heap.size (w2.heap.size + 1) w2.heap.size vs0 hmz hzz w5 HN5.out HZ5.out lc q5 t3 r2 ⟨by omega, by omega, by omega⟩ ⟨by omega, by omega⟩ ⟨by omega, by omega⟩ ⟨by omega, by omega⟩ ⟨by omega, by omega⟩ (by omega))
    have HR3 := Lib.hid r3
    clear q1 q2b q3 q5 b4 b5 b25 b15 b1 r1 r2 r3 z1 z3 z5 s45 s24 hmz hzz l1 l2 hL1 hL2 Z3 lc
    have HSB : Hid (w.heap.size ≤ w1.heap.size ∧ b < w1.heap.size) := Lib.hid (by omega)
    have HB1 := Lib.hid hB1
    clear hsz1 hs0 hsb hz0 hwb hB1 hmk
    go_wp2_with fail
    refine HTH.out.mono ?_
    rintro e w6 ⟨rfl, hbn, hk⟩
    have hss := HSS.out
    have hsb := HSB.out
    have t6 := (hk.cell (p := ⟨w2.heap.size + 1, 0, none⟩) (by show w2.heap.size + 1 < w5.heap.size; omega) (by show w2.heap.size + 1 ≠ w2.heap.size; omega) (by show w2.heap.size + 1 ≠ w4.heap.size; omega)).trans t3
    have HK := Lib.hid hk
    have HBN := Lib.hid hbn
    clear hk hbn hss hsb t0 t1 t3 HTH
    go_wp2_with fail
    go_ret
    have hss := HSS.out
    have hsb := HSB.out
    refine ⟨some ⟨w2.heap.size, 0, none⟩, l.length, by rw [HNL.out] <;> rfl, fun _ => ⟨w2.heap.size, 0, rfl, by omega, HBN.out.lt, fun j hj => by rw [Nat.zero_add, HBN.out.cell, intsV_get _ _ hj]⟩, ?_⟩
    have hks := HK.out.size
    have hs15 := HB15.out.size
    refine ⟨HK.out.os.trans (HB15.out.os.trans HB1.out.os), HK.out.tape.trans (HB15.out.tape.trans HB1.out.tape), HK.out.output.trans (HB15.out.output.trans HB1.out.output), by omega, fun B hB => ?_⟩
    exact (HK.out.block B (by omega) (by omega) (by omega)).trans ((HB15.out.block B (by omega)).trans (HB1.out.block B hB))

end Go.Proofs.YtpncomjpmilbkaaDoor

/- The developers' lower: what stands side by side ahead of a node; slices.Clone of whole numbers. Stage 11. -/
namespace Go.Proofs.YtpncomjpmilbkaaDoor
open Go.RowKit BS

/-- The places of the trees that stand side by side ahead of node i, from the first one on. -/
def stkP (l : List NdN) (i : Nat) : List Int := match stackF [] ((ksN l).take i) with | some s => (posF i s).reverse.map fun x : Nat => (x : Int) | none => []
theorem stk_at (l : List NdN) (hf : FormedN l) (i : Nat) (hi : i < l.length) : ∃ (s : List Nat) (k : Nat), (l[i].kids : Int) = k ∧ k ≤ s.length ∧ s.length ≤ i ∧ stkP l i = ((posF i s).reverse).map (fun x : Nat => (x : Int)) ∧ kidsR l i = (((posF i s).take k).reverse).map (fun x : Nat => (x : Int)) ∧
    stkP l (i + 1) = ((i :: posF (i - (s.take k).sum) (s.drop k)).reverse).map (fun x : Nat => (x : Int)) := by
  obtain ⟨hst, hkl, _, _, _⟩ := formed_stack l hf
  have hlk : i < (ksN l).length := by omega
  obtain ⟨s, hs, hks, hsum⟩ := stack_at (ksN l) [] _ hst i hlk
  obtain ⟨hk0, _⟩ := (formed_iff (l.map NdN.kids)).1 hf
  have hpl := len_le_sum s (stackF_pos ((ksN l).take i) [] s (by simp) hs)
  have hkk : (l[i].kids : Int) = ((ksN l)[i] : Nat) := by
    have h0 := hk0 l[i].kids (List.mem_map_of_mem (List.getElem_mem hi))
    simp only [ksN, List.getElem_map]
    omega
  refine ⟨s, (ksN l)[i], hkk, hks, by simp at hsum; omega, ?_, ?_, ?_⟩
  · unfold stkP
    rw [hs]
  · unfold kidsR
    rw [if_pos ⟨hf, by omega, by omega⟩, show (i : Int).toNat = i from rfl, allKids_at (ksN l) i hlk s hs]
    rfl
  · have h1 : stackF [] ((ksN l).take (i + 1)) = some (stepF s (ksN l)[i]) := by
      rw [List.take_succ_eq_append_getElem hlk, stackF_append, hs]
      show stackF s [_] = _
      rw [stackF, if_pos hks]
      rfl
    unfold stkP
    rw [h1]
    simp only
    rw [posF_step]
/-- The kids of a node are the last ones; behind it they are gone, and it stands there. -/
theorem stk_kids (l : List NdN) (hf : FormedN l) (i : Nat) (hi : i < l.length) : ∃ k : Nat, l[i].kids = k ∧ k ≤ (stkP l i).length ∧ (stkP l i).length ≤ i ∧ kidsR l i = (stkP l i).drop ((stkP l i).length - k) ∧ stkP l (i + 1) = (stkP l i).take ((stkP l i).length - k) ++ [(i : Int)] := by
  obtain ⟨s, k, hk, hks, hsl, e1, e2, e3⟩ := stk_at l hf i hi
  have hlen : (stkP l i).length = s.length := by rw [e1, List.length_map, List.length_reverse, posF_len]
  have hsplit := posF_split k s i
  have htk : ((posF i s).take k).length = k := by rw [List.length_take, posF_len]; omega
  have hdrop : (posF i s).drop k = posF (i - (s.take k).sum) (s.drop k) := by
    conv => lhs; rw [hsplit]
    rw [List.drop_append, List.drop_of_length_le (by omega), List.nil_append, htk, Nat.sub_self, List.drop_zero]
  refine ⟨k, hk, by omega, by omega, ?_, ?_⟩
  · rw [hlen, e1, e2, ← List.map_drop, List.drop_reverse, posF_len, show s.length - (s.length - k) = k by omega]
  · rw [hlen, e1, e3, ← List.map_take, List.take_reverse, posF_len, show s.length - (s.length - k) = k by omega, hdrop, List.reverse_cons, List.map_append]
    rfl
theorem stk_zero (l : List NdN) : stkP l 0 = [] := rfl
/-- A row of whole numbers of the call's own. -/
def OwI (base : Nat) (v : Value) (L : List Int) (W : World) : Prop := W.ownsRow base 3 1 v L.length (L.map (Value.int .i64))
theorem OwI.keep {base : Nat} {v : Value} {L : List Int} {W W' : World} (h : OwI base v L W) (k : ∀ g, v.ownBlock = some g → W'.heap[g]? = W.heap[g]?) : OwI base v L W' := owns_keep h k
theorem OwI.below {base : Nat} {v : Value} {L : List Int} {W W' : World} (h : OwI base v L W) (hb : Below W.heap.size W W') : OwI base v L W' := h.keep fun g hg => hb.block g (World.ownsRow.lt h g hg).2
theorem OwI.mono {base base' : Nat} {v : Value} {L : List Int} {W : World} (h : OwI base v L W) (hb : base' ≤ base) : OwI base' v L W := by
  refine ⟨h.1, ?_⟩
  rcases h.2 with hn | ⟨g, cap, cur, rfl, h1, h2⟩
  · exact .inl hn
  · exact .inr ⟨g, cap, cur, rfl, Nat.le_trans hb h1, h2⟩
theorem OwI.nil (base : Nat) (W : World) : OwI base (.slice none 0 0) [] W := World.ownsRow_nil _ _ _ _
theorem OwI.ints {base : Nat} {v : Value} {L : List Int} {W : World} (h : OwI base v L W) : ∃ b c, v = .slice b L.length c ∧ IntsO L b W := by
  rcases h.2 with ⟨rfl, h0⟩ | ⟨g, cap, cur, rfl, hb, hg, _⟩
  · exact ⟨none, 0, by rw [h0], fun hne => absurd (List.eq_nil_of_length_eq_zero h0) hne⟩
  · refine ⟨some ⟨g, 0, none⟩, cap, rfl, fun _ => ⟨g, 0, rfl, (Array.getElem?_eq_some_iff.1 hg).1, fun i hi => ?_⟩⟩
    rw [Nat.zero_add]
    refine (World.ownsRow.cellAt h i (by omega)).trans ?_
    rw [List.getElem?_map, List.getElem?_eq_getElem hi]
    rfl
theorem own_cutI {base : Nat} {g n cap m : Nat} {L : List Int} {W : World} (h : W.ownsRow base 3 1 (.slice (some ⟨g, 0, none⟩) n cap) n (L.map (Value.int .i64))) (hm : m ≤ n) : W.ownsRow base 3 1 (.slice (some ⟨g, 0, none⟩) m cap) m ((L.take m).map (Value.int .i64)) := by
  obtain ⟨h1, h2⟩ := h
  rw [List.length_map] at h1
  refine ⟨by rw [List.length_map, List.length_take]; omega, ?_⟩
  rcases h2 with ⟨h3, _⟩ | ⟨g', cap', cur, h3, h4, h5, h6, h7, h8, h9⟩
  · cases h3
  · cases h3
    refine .inr ⟨g, cap, cur, rfl, h4, h5, by omega, h7, h8, ?_⟩
    rw [List.map_take, ← h9, List.take_take, Nat.mul_one, Nat.mul_one, Nat.min_eq_left hm]
theorem info_int : (Tryd.prog.info? 3).map (fun i => (i.zero, i.size, i.bytes)) = some (some (.int .i64 0), 1, 8) := by kernel_rfl
set_option maxRecDepth 100000 in
set_option maxHeartbeats 4000000 in
theorem clone_calls (L : List Int) (hL : L.length ≤ 1000) (ao : Option Addr) (c : Nat) (w : World) (ha : IntsO L ao w) :
    Calls Tryd.prog 38 #[.slice ao L.length c] w fun e w' => ∃ v, e = .returned v ∧ OwI w.heap.size v L w' ∧ Below w.heap.size w w' := by
  have q50 : ∀ (w : World) (a : Option Addr) (n c n' c' : Nat), (binOp .eql 50 (.slice a n c) (.slice none n' c')).run Tryd.prog w = .ok (.bool a.isNone) w := fun w a n c n' c' => Lib.run_eql_slice_nil w _ _ a n c n' c' Tryd.underlying50
  cases ao with
  | none =>
    have h0 : L = [] := by
      rcases List.eq_nil_or_concat L with h | ⟨_, _, h⟩
      · exact h
      · obtain ⟨g, o, e, _⟩ := ha (by rw [h]; simp)
        cases e
    subst h0
    go_enter Tryd.func38, Tryd.ntmps38
    go_wp2_with fail
    go_ret
    exact ⟨_, rfl, OwI.nil _ _, Below.refl _ _⟩
  | some ad =>
    obtain ⟨i0, hinf, hz0, hz1, hz2⟩ := info_parts info_int
    have hnews : ∀ j u, (L.map (Value.int .i64))[j]? = some u → w.cell? (ad.add j) = some u := fun j u hj => by
      have hlt := (List.getElem?_eq_some_iff.1 hj).1
      rw [List.length_map] at hlt
      obtain ⟨g, o, e, hg, hc⟩ := ha (by intro h; rw [h] at hlt; simp at hlt)
      cases e
      rw [List.getElem?_map, List.getElem?_eq_getElem hlt] at hj
      cases hj
      have e2 : (⟨g, o, none⟩ : Addr).add j = ⟨g, o + j, none⟩ := by
        unfold Addr.add
        split
        · subst j; rfl
        · rfl
      rw [e2]
      exact hc j hlt
    have hb0 : Below w.heap.size w (w.alloc (.cells #[] 3)) := (Below.refl _ _).alloc (Nat.le_refl _) _
    have HNW := Lib.hid (show ∀ j u, (L.map (Value.int .i64))[j]? = some u → (w.alloc (.cells #[] 3)).cell? (ad.add j) = some u from fun j u hj => by
      have h := hnews j u hj
      exact Lib.cell?_alloc_some _ h)
    have HB0 := Lib.hid hb0
    clear hnews hb0 ha
    go_enter Tryd.func38, Tryd.ntmps38
    go_wp2_with (at_builtin; refine wpList_append_own _ rfl _ _ 50 rfl w.heap.size 3 i0 (.int .i64 0) 1 8 Tryd.underlying50 hinf hz0 hz1 hz2 rfl (by decide) _ 0 [] rfl (World.ownsRow_made w #[] 0 (Nat.le_refl _) (Nat.zero_le _) (by simp)) ad L.length c (L.map (Value.int .i64)) rfl (by simp) HNW.out (by intro u hu; obtain ⟨x, _, rfl⟩ := List.mem_map.1 hu; rfl) (by unfold maxLen; omega) (by omega) (by simp) ?_; intro v' w1 hown hgrow hnil; have HO := Lib.hid hown; have HG := Lib.hid hgrow; clear hown hgrow hnil)
    go_ret
    refine ⟨v', rfl, ?_, ?_⟩
    · have h := HO.out
      rw [Nat.zero_add, List.nil_append] at h
      exact h
    · exact HB0.out.grown HG.out (by rw [World.size_alloc]; omega) (by intro k hk; have e : w.heap.size = k := Option.some.inj hk; omega)
end Go.Proofs.YtpncomjpmilbkaaDoor

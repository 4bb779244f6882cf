/- BsetGoes: how many bytes are in a set, all of them, twice, the next one, and the runs. -/
import Derived.Test.YtcccfhpabikbjaaDoorRd
import Derived.Test.YtcccfhpabikbjaaDoorTa
import Derived.Test.YtcccfhpabikbjaaDoorRs
import Derived.Test.YtcccfhpabikbjaaDoorRv
namespace Go.Proofs.YtcccfhpabikbjaaDoor
open Go.RowKit Go.Shelf BS
attribute [local go_sem] Oper.semAt_some

theorem func_not_nil (a : Addr) (w : World) : (binOp .eql 28 (.func (.func 13) #[] #[.pointer (some a)]) .nilFunc).run Tryd.prog w = .ok (.bool false) w := by
  show (Op.equal 28 (.func (.func 13) #[] #[.pointer (some a)]) .nilFunc >>= fun b => pure (Value.bool b)).run Tryd.prog w = _
  rw [Sem.run_bind]
  have h : (Op.equal 28 (.func (.func 13) #[] #[.pointer (some a)]) .nilFunc).run Tryd.prog w = .ok false w := by
    unfold Op.equal
    first | rfl | (go_simp; done) | (simp; done)
  rw [h]; rfl

theorem row_of_block {W W' : World} {base : Nat} {e : TypeId} {size : Nat} {v : Value} {n : Nat} {xs : List Value} (h : W.ownsRow base e size v n xs) (hk : ∀ g, v.ownBlock = some g → W'.heap[g]? = W.heap[g]?) : W'.ownsRow base e size v n xs := by
  refine ⟨h.1, ?_⟩
  rcases h.2 with hn | ⟨g, cap, cur, rfl, hb, hgg, rest⟩
  · exact .inl hn
  · exact .inr ⟨g, cap, cur, rfl, hb, (hk g rfl).trans hgg, rest⟩
theorem el_prefix (f : Nat → Bool) {k m : Nat} (h : k ≤ m) : el f k <+: el f m := by
  induction m with
  | zero => rw [show k = 0 by omega]; exact List.prefix_refl _
  | succ m ih =>
    by_cases hk : k = m + 1
    · rw [hk]; exact List.prefix_refl _
    · exact (ih (by omega)).trans (by rw [el_succ]; exact List.prefix_append _ _)

set_option maxRecDepth 100000 in
set_option maxHeartbeats 4000000 in
theorem World.ownsRow.mono {W : World} {b b' : Nat} {e : TypeId} {size : Nat} {v : Value} {n : Nat} {xs : List Value} (h : W.ownsRow b e size v n xs) (hb : b' ≤ b) : W.ownsRow b' e size v n xs := by
  refine ⟨h.1, ?_⟩
  rcases h.2 with hn | ⟨g, cap, cur, rfl, hb', rest⟩
  · exact .inl hn
  · exact .inr ⟨g, cap, cur, rfl, Nat.le_trans hb hb', rest⟩
def strB (L : List Nat) : ByteArray := strOfNums (L.map fun (x : Nat) => (x : Int))
theorem conv_row {W : World} {base : Nat} {v : Value} {L : List Nat} (h : W.ownsRow base 5 1 v L.length (byteCells L)) : (convert 25 9 v).run Tryd.prog W = .ok (.string (strB L)) W := by
  rcases h.2 with ⟨rfl, h0⟩ | ⟨g, cap, cur, rfl, _⟩
  · rw [List.eq_nil_of_length_eq_zero h0]
    exact run_convert_bytes_nil W _ _ Tryd.underlying25 Tryd.underlying5 _ _ _ Tryd.underlying9
  · refine run_convert_bytes_arg W _ _ Tryd.underlying25 Tryd.underlying5 g 0 _ _ (L.map fun (x : Nat) => (x : Int)) (by simp) (fun i hi => ?_) _ Tryd.underlying9
    rw [Nat.zero_add, h.cellAt i (by omega), byteCells_get L i hi]
    simp [List.getD, hi]
theorem keepL {W W1 W2 : World} (h : Below W.heap.size W W1) (hb : Below W1.heap.size W1 W2) : Below W.heap.size W W2 := h.trans (hb.mono h.size)
def UQ (s : BitVec 256) : Nat → List Value → Value → Prop
  | 0, _, v => v = setV s
  | 2, _, v => v = setV s
  | 4, l, v => v = l.getD 0 undef
  | 5, l, v => v = l.getD 0 undef
  | _, _, _ => True
def VQ (s : BitVec 256) (B : Nat) : Nat → Value → World → Prop
  | 1, v, w => w.ownsRow B 32 2 v (rsOf s).length (runCells (rsOf s))
  | 3, v, w => w.ownsRow B 32 2 v (rsOf s).length (runCells (rsOf s))
  | _, _, _ => True
theorem keepVQ (s : BitVec 256) (B : Nat) : ∀ i v w w', Below w.heap.size w w' → VQ s B i v w → VQ s B i v w' := by
  intro i v w w' hb h
  unfold VQ at *
  split
  · exact row_below h hb
  · exact row_below h hb
  · trivial
def SQ (w W7 : World) (s : BitVec 256) (W : World) : Prop := (Blk W w.heap.size (setA s) 24 ∧ Tab W ∧ 0 < W.heap.size) ∧ Below W7.heap.size W7 W
theorem keepQ {w W7 W W' : World} {s : BitVec 256} (h : SQ w W7 s W) (hb : Below W.heap.size W W') : SQ w W7 s W' := ⟨⟨h.1.1.below hb h.1.1.lt, h.1.2.1.keep hb h.1.2.2, Nat.lt_of_lt_of_le h.1.2.2 hb.size⟩, h.2.trans (hb.mono h.2.size)⟩
set_option maxRecDepth 100000 in
set_option maxHeartbeats 4000000 in
theorem goesLaw_calls (s : BitVec 256) (from_ : Int) (hfr : from_ ≤ 9223372036854775807) (w : World) (hT : Tab w) (hg : 0 < w.heap.size) :
    Calls Tryd.prog 3 #[setV s, .int .i64 from_] w fun e W' => e = .returned (.bool true) ∧ Below w.heap.size w W' := by
  have HT := Lib.hid hT
  clear hT
  have b1 := Blk.new w (setA s) 24
  have hB1 : Below w.heap.size w (w.alloc (.cells (setA s) 24)) := by go_grown
  have bF := Blk.new (w.alloc (.cells (setA s) 24)) #[.bool false] 4
  have b2 := b1.alloc (.cells #[.bool false] 4)
  have hB2 := hB1.alloc (by simp) (.cells #[.bool false] 4)
  have hz : ((w.alloc (.cells (setA s) 24)).alloc (.cells #[.bool false] 4)).heap.size = w.heap.size + 2 := by simp
  rw [World.size_alloc] at bF
  refine (callsIn_wide (n := 3)).1 (callsIn_of_wp_marks Tryd.func3 rfl trivial ?_ rfl)
  simp only [Tryd.ntmps3, List.size_toArray, List.length_cons, List.length_nil, Nat.reduceAdd, Nat.reduceSub, Array.replicate_succ, Array.replicate_zero, List.push_toArray, List.append_toArray, List.nil_append, List.cons_append]
  refine wpIn_wide.2 ?_
  go_wp2_with fail
  have e0 : ((w.alloc (.cells #[.int .u64 (wd s 0), .int .u64 (wd s 1), .int .u64 (wd s 2), .int .u64 (wd s 3)] 24)).alloc (.cells #[.bool false] 4)) = (w.alloc (.cells (setA s) 24)).alloc (.cells #[.bool false] 4) := rfl
  rw [e0]
  clear e0 b1 hB1
  generalize (w.alloc (.cells (setA s) 24)).alloc (.cells #[.bool false] 4) = w1 at *
  refine (rall_calls s _).mono ?_
  rintro e w2 ⟨v, rfl, hr, hb2⟩
  rw [hz] at hr
  have b3 := b2.below hb2 b2.lt
  have bF3 := bF.below hb2 bF.lt
  have hB3 := hB2.trans (hb2.mono hB2.size)
  have hz2 : w.heap.size + 2 ≤ w2.heap.size := by rw [← hz]; exact hb2.size
  clear b2 bF hB2 hb2 hz
  have hL := el_len s.getLsbD 256
  have HE := Lib.hid (show el s.getLsbD 256 = el s.getLsbD 256 from rfl)
  revert HE
  generalize hE : el s.getLsbD 256 = L at hr hL
  intro HE
  replace HE := Lib.hid hE
  clear hE
  obtain ⟨p, cap, rfl⟩ : ∃ p c, v = .slice p L.length c := by
    rcases hr.2 with ⟨rfl, h0⟩ | ⟨g, c, cur, rfl, _⟩
    · exact ⟨none, 0, by rw [h0]⟩
    · exact ⟨_, _, rfl⟩
  have hpl : ∀ g, (Value.slice p L.length cap).ownBlock = some g → g < w2.heap.size := fun g hg => (hr.lt g hg).2
  have HP := Lib.hid hpl
  clear hpl
  have b4 := (b3.alloc (.cells #[.slice p L.length cap] 25)).alloc (.cells #[.slice none 0 0] 25)
  obtain ⟨⟨c0, c1, c2, c3⟩, _⟩ := b4.cells4
  have BK4 := Lib.hid b4
  have BF3 := Lib.hid bF3
  have HB3 := Lib.hid hB3
  have HR := Lib.hid hr
  clear hr b3 bF3 hB3 b4
  have hnf := func_not_nil
  have HZ : Hid True := trivial
  go_wp2_with (first
    | (have hmark := HZ.out; clear hmark; go_at_call 5; refine (callsIn_wide.1 (all_in 3 s _)).mono ?_; rintro e w' ⟨rfl, rfl⟩
       obtain ⟨⟨d0, d1, d2, d3⟩, _⟩ := (BK4.out.alloc (.cells #[.int .u64 (wd s 0), .int .u64 (wd s 1), .int .u64 (wd s 2), .int .u64 (wd s 3)] 24)).cells4
       clear HZ)
    | (go_at_call 5; refine (callsIn_wide.1 (all_in 3 s _)).mono ?_; rintro e w' ⟨rfl, rfl⟩))
  rename_i K HK
  clear c0 c1 c2 c3 d0 d1 d2 d3 hnf
  -- the world at the first range over a function
  have bG0 := Blk.new (w2.alloc (.cells #[.slice p L.length cap] 25)) #[.slice none 0 0] 25
  rw [World.size_alloc] at bG0
  have bW0 := (Blk.new w2 #[.slice p L.length cap] 25).alloc (.cells #[.slice none 0 0] 25)
  have hz4 : ((w2.alloc (.cells #[.slice p L.length cap] 25)).alloc (.cells #[.slice none 0 0] 25)).heap.size = w2.heap.size + 2 := by simp
  have bR4 := (BF3.out.alloc (.cells #[.slice p L.length cap] 25)).alloc (.cells #[.slice none 0 0] 25)
  have hr4 := (HR.out.alloc (.cells #[.slice p L.length cap] 25)).alloc (.cells #[.slice none 0 0] 25)
  have hB4 := (HB3.out.alloc (by omega) (.cells #[.slice p L.length cap] 25)).alloc (by simp; omega) (.cells #[.slice none 0 0] 25)
  have b4 := BK4.out
  clear BK4 HR HB3 BF3
  generalize (w2.alloc (.cells #[.slice p L.length cap] 25)).alloc (.cells #[.slice none 0 0] 25) = w4 at *
  have e1 : (w4.alloc (.cells #[.int .u64 (wd s 0), .int .u64 (wd s 1), .int .u64 (wd s 2), .int .u64 (wd s 3)] 24)) = w4.alloc (.cells (setA s) 24) := rfl
  rw [e1]
  clear e1
  have b5 := (b4.alloc (.cells (setA s) 24)).alloc (.cells (setA s) 24)
  have bG5 := (bG0.alloc (.cells (setA s) 24)).alloc (.cells (setA s) 24)
  have bW5 := (bW0.alloc (.cells (setA s) 24)).alloc (.cells (setA s) 24)
  have bR5 := (bR4.alloc (.cells (setA s) 24)).alloc (.cells (setA s) 24)
  have hr5 := (hr4.alloc (.cells (setA s) 24)).alloc (.cells (setA s) 24)
  have hB5 := (hB4.alloc (by omega) (.cells (setA s) 24)).alloc (by simp; omega) (.cells (setA s) 24)
  have bN5 := Blk.new (w4.alloc (.cells (setA s) 24)) (setA s) 24
  rw [World.size_alloc, hz4] at bN5
  have hz5 : ((w4.alloc (.cells (setA s) 24)).alloc (.cells (setA s) 24)).heap.size = w2.heap.size + 4 := by simp; omega
  have e1 : ((w4.alloc (.cells (setA s) 24)).alloc (.cells #[.int .u64 (wd s 0), .int .u64 (wd s 1), .int .u64 (wd s 2), .int .u64 (wd s 3)] 24)) = (w4.alloc (.cells (setA s) 24)).alloc (.cells (setA s) 24) := rfl
  rw [e1]
  clear e1 bG0 bW0 bR4 hr4 hB4 b4 hz4
  generalize (w4.alloc (.cells (setA s) 24)).alloc (.cells (setA s) 24) = w5 at *
  obtain ⟨i0, hi, hz0, hz1, hz2'⟩ := info_parts info1b
  refine (wpIn_wide (n := 3)).1 (wpIn_rangeFunc_ownG (n := 3) rfl (by decide) (gf := 13) (lb := #[.pointer (some ⟨w2.heap.size + 3, 0, none⟩)]) rfl trivial (enters_of Tryd.func13 (by kernel_rfl) rfl)
    (all_stops 2 (by decide) (w2.heap.size + 3) s w5 (by omega) (by omega) bN5.cells4.1 (HT.out.keep hB5 hg)) KeepA.t (KeepA.b (by omega) (by omega)) (Below.refl _ _) (fun _ => rfl)
    (fun pre W => ((∃ v, Boxed W (w2.heap.size + 1) 25 v ∧ W.ownsRow (w2.heap.size + 1) 5 1 v pre.length (byteCells pre)) ∧ Blk W (w2.heap.size + 3) (setA s) 24) ∧ Below (w2.heap.size + 1) w5 W)
    (fun _ _ _ => False)
    (OwnFrom.and (Own.from (fun pre A B row hs hg hr => by
      obtain ⟨v, hv, hw, _⟩ := holdsRow_own (w2.heap.size + 1) (w2.heap.size + 1) 25 5 1 (fun pre => pre.length) (fun pre => byteCells pre) (fun _ _ => True) pre A B row (by obtain ⟨v, hv, hw⟩ := hs.1; exact ⟨v, hv, hw, trivial⟩) hg hr
      exact ⟨⟨v, hv, hw⟩, hs.2.kept hg (hs.2.not_row hr)⟩) _) (ownFrom_below (by omega) (by omega)))
    (fun _ _ _ _ _ hs _ _ => hs)
    ⟨⟨⟨_, bG5, World.ownsRow_nil _ _ _ _⟩, bN5⟩, Below.refl _ _⟩
    (fun x => { tmps := #[setV s, .int .i64 from_, .pointer (some ⟨w.heap.size, 0, none⟩), undef, .pointer (some ⟨w.heap.size + 1, 0, none⟩), .pointer (some ⟨w2.heap.size, 0, none⟩), .pointer (some ⟨w2.heap.size + 1, 0, none⟩), .int .u8 (x : Nat), undef, undef, undef, undef, setV s, .slice p L.length cap, setV s, .func (.func 13) #[] #[.pointer (some ⟨w2.heap.size + 2, 0, none⟩)], .bool false, setV s, .func (.func 13) #[] #[.pointer (some ⟨w2.heap.size + 3, 0, none⟩)], .int .u8 (x : Nat), undef, undef, undef, undef, undef, undef, undef, undef, undef, undef, undef, undef, undef, undef, undef, undef, undef, undef, undef, undef, undef, undef, undef, undef, undef, undef, undef, undef, undef, undef, undef, undef, undef, undef, undef, undef, undef, undef, undef, undef, undef, undef, undef, undef, undef, undef, undef, undef, undef, undef, undef, undef, undef, undef, undef, undef, undef, undef, undef, undef, undef, undef, undef, undef, undef, undef, undef, undef], defers := [] }) ?assign ?body ?done ?stop)
  case assign =>
    intro l x W K hK
    gi_wp2
    exact hK
  case body =>
    rintro l pre x W ⟨⟨⟨v, hv, hr⟩, hN⟩, hB⟩ hlen
    have hc0 := hv.cell
    have hf0 := hv.frozen
    have hd : decide ((256 : Int) < ((pre.length + 1 : Nat) : Int)) = false := by simp; omega
    gi_wp2_with (gi_at_builtin; refine wpListIn_append_own _ rfl _ _ 25 rfl (w2.heap.size + 1) 5 i0 (.int .u8 0) 1 1 Tryd.underlying25 hi hz0 hz1 hz2' rfl (by decide) _ _ _ rfl (hr.alloc _) ⟨W.heap.size, 0, none⟩ 1 1 [.int .u8 (x : Nat)] rfl rfl (Blk.new W _ _).news1 (by simp [Value.oneCell']) (by unfold maxLen; omega) (by omega) (by have := hB.size; simp; omega) ?_; intro v' w1 hown' hgrow _; obtain ⟨g', cap', rfl⟩ := ownsRow_succ hown'; obtain ⟨hv1, hv2, hr2, hk2, hb2⟩ := hv.appended (by decide) hr (by have := hB.size; omega) (by omega) hown' hgrow; have hN1 := (hN.alloc _).kept hgrow (hN.not_own (by decide) hr); have hc1 := hv1.cell; have hf1 := hv1.frozen)
    refine ⟨hk2.from _, ⟨hk2.size, (hN1.other (by omega) _ _).trans hN.symm, hb2.block _ (by omega)⟩, ⟨⟨_, hv2, ?_⟩, hN1.other (by omega) _ _⟩, hB.trans hb2⟩
    rw [byteCells_snoc, List.length_append]
    exact hr2
  case done =>
    rintro D ys W hD hys ⟨⟨⟨v, hv, hr⟩, hN⟩, hB⟩ hK
    obtain rfl : ys = L := hys.trans HE.out
    clear hys
    have hlt := (Array.getElem?_eq_some_iff.1 hK).1
    -- the world behind the first range
    have bG6 := hv
    have bS6 := b5.below hB (by omega)
    have bR6 := bR5.below hB (by omega)
    have bW6 : Blk W w2.heap.size #[.slice p ys.length cap] 25 := bW5.below hB (by omega)
    have hw6 : W.ownsRow (w.heap.size + 2) 5 1 (.slice p ys.length cap) ys.length (byteCells ys) := row_of_block hr5 fun g hg => hB.block g (by have := HP.out g hg; omega)
    have hB6 := hB5.trans (hB.mono (by omega))
    clear bG5 bN5 b5 bR5 bW5 hr5 hB5 hv hN
    refine HK _ _ ?_
    clear HK
    obtain ⟨⟨c0, c1, c2, c3⟩, _⟩ := bS6.cells4
    have BS := Lib.hid bS6
    have BG := Lib.hid bG6
    have BR := Lib.hid bR6
    have BW := Lib.hid bW6
    have HW := Lib.hid hw6
    have HG := Lib.hid hr
    have HB := Lib.hid hB6
    have HD := Lib.hid hK
    have hz6 := hB.size
    clear bS6 bG6 bR6 bW6 hw6 hr hB6 hK hB
    go_wp2_with (go_at_call 5; refine (callsIn_wide.1 (all_in 3 s _)).mono ?_; rintro e w' ⟨rfl, rfl⟩)
    rename_i K HK
    clear c0 c1 c2 c3
    have e1 : (W.alloc (.cells #[.int .u64 (wd s 0), .int .u64 (wd s 1), .int .u64 (wd s 2), .int .u64 (wd s 3)] 24)) = W.alloc (.cells (setA s) 24) := rfl
    rw [e1]
    clear e1
    have bN7 := Blk.new W (setA s) 24
    have BR7 := Lib.hid (BR.out.alloc (.cells (setA s) 24))
    have BW7 := Lib.hid (BW.out.alloc (.cells (setA s) 24))
    have HW7 := Lib.hid (HW.out.alloc (.cells (setA s) 24))
    have HB7 := Lib.hid (HB.out.alloc (by omega) (.cells (setA s) 24))
    have hz7 : (W.alloc (.cells (setA s) 24)).heap.size ≤ W.heap.size + 1 ∧ W.heap.size + 1 ≤ (W.alloc (.cells (setA s) 24)).heap.size := by simp
    have hb7 : Below W.heap.size W (W.alloc (.cells (setA s) 24)) := by go_grown
    have HB67 := Lib.hid hb7
    clear hb7
    generalize W.alloc (.cells (setA s) 24) = w7 at *
    suffices hrest : ∀ (D2 : Nat) (W7 : World), w7.heap.size ≤ D2 → Below w7.heap.size w7 W7 → W7.heap[D2]? = some (.deferred (some [])) → K { tmps := #[setV s, .int .i64 from_, .pointer (some ⟨w.heap.size, 0, none⟩), undef, .pointer (some ⟨w.heap.size + 1, 0, none⟩), .pointer (some ⟨w2.heap.size, 0, none⟩), .pointer (some ⟨w2.heap.size + 1, 0, none⟩), undef, undef, undef, undef, undef, setV s, .slice p ys.length cap, setV s, .func (.func 13) #[] #[.pointer (some ⟨w2.heap.size + 2, 0, none⟩)], .bool false, setV s, .func (.func 13) #[] #[.pointer (some ⟨w2.heap.size + 3, 0, none⟩)], undef, undef, undef, undef, undef, undef, undef, undef, setV s, .func (.func 13) #[] #[.pointer (some ⟨W.heap.size, 0, none⟩)], undef, undef, undef, undef, undef, undef, undef, undef, undef, undef, undef, undef, undef, undef, undef, undef, undef, undef, undef, undef, undef, undef, undef, undef, undef, undef, undef, undef, undef, undef, undef, undef, undef, undef, undef, undef, undef, undef, undef, undef, undef, undef, undef, undef, undef, undef, undef, undef, undef, undef, undef, undef, undef, undef, undef, undef, undef, undef, undef], defers := [{ target := .collected D2, args := #[] }, { target := .collected D, args := #[] }] } W7 by
      clear HK
      refine (wpIn_wide (n := 3)).1 (wpIn_rangeFunc_ownG (n := 3) rfl (by decide) (gf := 13) (lb := #[.pointer (some ⟨W.heap.size, 0, none⟩)]) rfl trivial (enters_of Tryd.func13 (by kernel_rfl) rfl)
        (all_stops 2 (by decide) W.heap.size s w7 (by omega) (by omega) bN7.cells4.1 (HT.out.keep HB7.out hg)) KeepA.t (KeepA.b (by omega) (by omega)) (Below.refl _ _) (fun _ => rfl)
        (fun pre W' => pre = [] ∧ Below w7.heap.size w7 W')
        (fun c pre W' => (c = .ret ∧ ∀ k, k ≤ 256 → pre ≠ el s.getLsbD k) ∨ (c = .exit 2 ∧ Below w7.heap.size w7 W'))
        (OwnFrom.and (fun _ _ _ _ hs _ _ => hs) (ownFrom_below (by omega) (by omega)))
        (fun c pre A B row hs hg hr => by
          rcases hs with hs | ⟨e, hs⟩
          · exact .inl hs
          · exact .inr ⟨e, ownFrom_below (β := Unit) (Nat.le_refl _) (Nat.le_refl _) () A B row hs hg hr⟩)
        ⟨rfl, Below.refl _ _⟩
        (fun x => { tmps := #[setV s, .int .i64 from_, .pointer (some ⟨w.heap.size, 0, none⟩), undef, .pointer (some ⟨w.heap.size + 1, 0, none⟩), .pointer (some ⟨w2.heap.size, 0, none⟩), .pointer (some ⟨w2.heap.size + 1, 0, none⟩), undef, .int .u8 (x : Nat), undef, undef, undef, setV s, .slice p ys.length cap, setV s, .func (.func 13) #[] #[.pointer (some ⟨w2.heap.size + 2, 0, none⟩)], .bool false, setV s, .func (.func 13) #[] #[.pointer (some ⟨w2.heap.size + 3, 0, none⟩)], undef, undef, undef, undef, undef, undef, undef, undef, setV s, .func (.func 13) #[] #[.pointer (some ⟨W.heap.size, 0, none⟩)], .int .u8 (x : Nat), undef, undef, undef, undef, undef, undef, undef, undef, undef, undef, undef, undef, undef, undef, undef, undef, undef, undef, undef, undef, undef, undef, undef, undef, undef, undef, undef, undef, undef, undef, undef, undef, undef, undef, undef, undef, undef, undef, undef, undef, undef, undef, undef, undef, undef, undef, undef, undef, undef, undef, undef, undef, undef, undef, undef, undef, undef, undef], defers := [] }) ?assign2 ?body2 ?done2 ?stop2)
      case assign2 =>
        intro l x W K hK
        gi_wp2
        exact hK
      case body2 =>
        rintro l pre x W' ⟨rfl, hB'⟩ hlen
        have bW' := BW7.out.below hB' (by omega)
        have bR' := BR7.out.below hB' (by omega)
        have hw' : W'.ownsRow (w.heap.size + 2) 5 1 (.slice p ys.length cap) ys.length (byteCells ys) := row_of_block HW7.out fun g hg => hB'.block g (by have := HP.out g hg; omega)
        have hc5 := bW'.cell 0
        have hc4 := bR'.cell 0
        have hf4 := bR'.frozen 0
        cases ys with
        | nil =>
          gi_wp2
          refine ⟨(KeepsOthers.setCell _ _ _).from _, .inl ⟨rfl, fun k hk h => ?_⟩⟩
          have h1 := el_prefix s.getLsbD hk
          rw [← h, HE.out] at h1
          simp at h1
        | cons y ys =>
          obtain ⟨g, cap', hpg⟩ := ownsRow_succ hw'
          obtain ⟨rfl, rfl⟩ : p = some ⟨g, 0, none⟩ ∧ cap = cap' := by injection hpg; exact ⟨by assumption, by assumption⟩
          have hy := hw'.cellAt 0 (by simp)
          simp only [byteCells, List.map_cons, List.getElem?_cons_zero] at hy
          clear hpg
          have h0 : decide (0 < ys.length + 1) = true := by simp
          by_cases hxy : x = y
          · subst hxy
            clear hw' HW7 HW HE
            gi_wp2
            exact ⟨KeepsFrom.refl _ _, .inr ⟨rfl, hB'⟩⟩
          · have hb : ((x : Int) != (y : Int)) = true := by rw [bne_iff_ne]; omega
            gi_wp2
            refine ⟨(KeepsOthers.setCell _ _ _).from _, .inl ⟨rfl, fun k hk h => ?_⟩⟩
            have h1 := el_prefix s.getLsbD hk
            rw [← h, HE.out] at h1
            simp at h1
            exact hxy h1
      case done2 =>
        rintro D2 ys' W' hD2 _ ⟨_, hB'⟩ hK2
        exact hrest D2 W' hD2 hB' hK2
      case stop2 =>
        rintro D2 c pre W' hD2 ⟨k, hk, hpre⟩ (⟨_, hne⟩ | ⟨rfl, hB'⟩) hK2
        · exact absurd hpre (hne k hk)
        · refine wpIn_wide.2 ?_
          go_wp2
          exact hrest D2 W' hD2 hB' hK2
    intro D2 W7 hD2 hB7 hK7
    refine HK _ _ ?_
    clear HK
    have hz8 := hB7.size
    have hlt7 := (Array.getElem?_eq_some_iff.1 hK7).1
    have hB8 := HB7.out.trans (hB7.mono (by have := HB7.out.size; omega))
    have hB78 := HB67.out.trans (hB7.mono (by omega))
    have bS8 := BS.out.below hB78 (by omega)
    have bG8 := Blk.below (vs := #[_]) BG.out hB78 (by omega)
    have bR8 := BR.out.below hB78 (by omega)
    have bW8 := BW.out.below hB78 (by omega)
    have hw8 : W7.ownsRow (w.heap.size + 2) 5 1 (.slice p ys.length cap) ys.length (byteCells ys) := row_of_block HW.out fun g hg => hB78.block g (by have := HP.out g hg; omega)
    have hr8 : W7.ownsRow (w2.heap.size + 1) 5 1 v ys.length (byteCells ys) := row_of_block HG.out fun g hg => hB78.block g (HG.out.lt g hg).2
    have hD8 := (hB78.block D (by omega)).trans HD.out
    clear HB7 HB67 HW7 BW7 BR7 bN7 HB HD HG HW BW BR BG BS hB7 hB78
    go_wp2_with fail
    rename_i K HK
    have HT8 := Lib.hid (HT.out.keep hB8 hg)
    have BS := Lib.hid bS8
    obtain ⟨⟨c0, c1, c2, c3⟩, _⟩ := bS8.cells4
    suffices hrest : ∀ (r1 r2 : Value) (W9 : World), Below W7.heap.size W7 W9 → W9.ownsRow W7.heap.size 32 2 r1 (rsOf s).length (runCells (rsOf s)) → W9.ownsRow W7.heap.size 32 2 r2 (rsOf s).length (runCells (rsOf s)) →
        K { tmps := #[setV s, .int .i64 from_, .pointer (some ⟨w.heap.size, 0, none⟩), undef, .pointer (some ⟨w.heap.size + 1, 0, none⟩), .pointer (some ⟨w2.heap.size, 0, none⟩), .pointer (some ⟨w2.heap.size + 1, 0, none⟩), undef, undef, r1, r2, undef, setV s, .slice p ys.length cap, setV s, .func (.func 13) #[] #[.pointer (some ⟨w2.heap.size + 2, 0, none⟩)], .bool false, setV s, .func (.func 13) #[] #[.pointer (some ⟨w2.heap.size + 3, 0, none⟩)], undef, undef, undef, undef, undef, undef, undef, undef, setV s, .func (.func 13) #[] #[.pointer (some ⟨W.heap.size, 0, none⟩)], undef, undef, undef, undef, undef, undef, undef, undef, undef, undef, undef, setV s, r1, setV s, r2, undef, undef, undef, undef, undef, undef, undef, undef, undef, undef, undef, undef, undef, undef, undef, undef, undef, undef, undef, undef, undef, undef, undef, undef, undef, undef, undef, undef, undef, undef, undef, undef, undef, undef, undef, undef, undef, undef, undef, undef, undef, undef, undef, undef], defers := [{ target := .collected D2, args := #[] }, { target := .collected D, args := #[] }] } W9 by
      clear HK bS8 bG8 bR8 bW8 hw8 hr8 hD8 hB8 HE HP HT
      have hgl : 0 < W7.heap.size := by omega
      refine region_stepsR (S := SQ w W7 s) (U := UQ s) (V := VQ s W7.heap.size) (by kernel_rfl) (fun w w' hb hs => keepQ hs hb) (keepVQ s _) (by kernel_rfl) ⟨⟨BS.out, HT8.out, hgl⟩, (Below.refl _ _).drew⟩ ?_
      clear c0 c1 c2 c3
      simp only [List.size_toArray, List.length_cons, List.length_nil, Nat.reduceAdd, Array.replicate_succ, Array.replicate_zero, List.push_toArray, List.nil_append, List.cons_append]
      refine AnyR.step (i := 0) (d := some 40) rfl rfl (by kernel_rfl) (by kernel_rfl) (by kernel_rfl) (by kernel_rfl) ?_ ?_ ?_
      · exact ⟨_, rfl⟩
      · refine StepsR.yield (setV s) rfl (by kernel_rfl) (fun w' hS hD => ⟨?_, trivial⟩)
        obtain ⟨⟨c0, c1, c2, c3⟩, _⟩ := hS.1.1.cells4; clear hS hD; go_simp
      rintro _ rfl a' ha'
      simp only [Act.put, List.setIfInBounds_toArray, List.set_cons_zero, List.set_cons_succ] at ha'
      subst ha'
      refine AnyR.step (i := 1) (d := some 41) rfl rfl (by kernel_rfl) (by kernel_rfl) (by kernel_rfl) (by kernel_rfl) ?_ ?_ ?_
      · exact ⟨undef, trivial⟩
      · refine StepsR.call (by kernel_rfl) (fun w' hS => by clear hS; go_simp) (fun w' hS hD => (runs_calls s _ hS.1.2.1 hS.1.2.2).mono ?_)
        rintro e w'' ⟨v', rfl, hr', hb'⟩
        exact ⟨v', rfl, trivial, World.ownsRow.mono hr' hS.2.size, hb'⟩
      rintro r1 _ a' ha'
      simp only [Act.put, List.setIfInBounds_toArray, List.set_cons_zero, List.set_cons_succ] at ha'
      subst ha'
      refine AnyR.step (i := 2) (d := some 42) rfl rfl (by kernel_rfl) (by kernel_rfl) (by kernel_rfl) (by kernel_rfl) ?_ ?_ ?_
      · exact ⟨_, rfl⟩
      · refine StepsR.yield (setV s) rfl (by kernel_rfl) (fun w' hS hD => ⟨?_, trivial⟩)
        obtain ⟨⟨c0, c1, c2, c3⟩, _⟩ := hS.1.1.cells4; clear hS hD; go_simp
      rintro _ rfl a' ha'
      simp only [Act.put, List.setIfInBounds_toArray, List.set_cons_zero, List.set_cons_succ] at ha'
      subst ha'
      refine AnyR.step (i := 3) (d := some 43) rfl rfl (by kernel_rfl) (by kernel_rfl) (by kernel_rfl) (by kernel_rfl) ?_ ?_ ?_
      · exact ⟨undef, trivial⟩
      · refine StepsR.call (by kernel_rfl) (fun w' hS => by clear hS; go_simp) (fun w' hS hD => (rruns_calls s _).mono ?_)
        rintro e w'' ⟨v', rfl, hr', hb'⟩
        exact ⟨v', rfl, trivial, World.ownsRow.mono hr' hS.2.size, hb'⟩
      rintro r2 _ a' ha'
      simp only [Act.put, List.setIfInBounds_toArray, List.set_cons_zero, List.set_cons_succ] at ha'
      subst ha'
      refine AnyR.step (i := 4) (d := some 9) rfl rfl (by kernel_rfl) (by kernel_rfl) (by kernel_rfl) (by kernel_rfl) ?_ ?_ ?_
      · exact ⟨_, rfl⟩
      · exact StepsR.yield r1 rfl (by kernel_rfl) (fun w' hS hD => ⟨by clear hS hD; go_simp, trivial⟩)
      rintro v' hv' a' ha'
      have hv' : r1 = v' := Eq.symm hv'
      subst hv'
      simp only [Act.put, List.setIfInBounds_toArray, List.set_cons_zero, List.set_cons_succ] at ha'
      subst ha'
      refine AnyR.step (i := 5) (d := some 10) rfl rfl (by kernel_rfl) (by kernel_rfl) (by kernel_rfl) (by kernel_rfl) ?_ ?_ ?_
      · exact ⟨_, rfl⟩
      · exact StepsR.yield r2 rfl (by kernel_rfl) (fun w' hS hD => ⟨by clear hS hD; go_simp, trivial⟩)
      rintro v' hv' a' ha'
      have hv' : r2 = v' := Eq.symm hv'
      subst hv'
      simp only [Act.put, List.setIfInBounds_toArray, List.set_cons_zero, List.set_cons_succ] at ha'
      subst ha'
      refine AnyR.done (by kernel_rfl) ?_ _
      intro W9 hS9 hF
      exact hrest r1 r2 W9 hS9.2 (hF 1 _ 41 rfl rfl rfl) (hF 3 _ 43 rfl rfl rfl)
    intro r1 r2 W9 hb9 hq1 hq2
    refine HK _ _ ?_
    clear HK
    have hB9 := hB8.trans (hb9.mono (by omega))
    have bS9 := BS.out.below hb9 (by omega)
    have bG9 := Blk.below (vs := #[_]) bG8 hb9 (by omega)
    have bR9 := bR8.below hb9 (by omega)
    have bW9 := bW8.below hb9 (by omega)
    have hw9 := row_below hw8 hb9
    have hr9 := row_below hr8 hb9
    have hD9 := (hb9.block D (by omega)).trans hD8
    have hE9 := (hb9.block D2 hlt7).trans hK7
    have hz9 := hb9.size
    have HT9 := Lib.hid (HT8.out.keep hb9 (by omega))
    clear bS8 bG8 bR8 bW8 hw8 hr8 hD8 hK7 hB8 hb9 BS c0 c1 c2 c3 HT8
    obtain ⟨a1, cap1, rfl, hrow1⟩ := row_of_owns (rs := rsOf s) hq1
    obtain ⟨a2, cap2, rfl, hrow2⟩ := row_of_owns (rs := rsOf s) hq2
    have hrl := rsOf_len s
    have BS := Lib.hid bS9
    have BG := Lib.hid bG9
    have BR := Lib.hid bR9
    have BW := Lib.hid bW9
    have HW := Lib.hid hw9
    have HG := Lib.hid hr9
    have HD := Lib.hid hD9
    have HEE := Lib.hid hE9
    have HB := Lib.hid hB9
    have HR1 := Lib.hid hrow1
    have HR2 := Lib.hid hrow2
    clear bS9 bG9 bR9 bW9 hw9 hr9 hD9 hE9 hB9 hrow1 hrow2 hq1 hq2
    go_wp2_with fail
    go_loopw [11] (fun i wr => ∃ k : Nat, k ≤ (rsOf s).length ∧ i = .int .i64 k ∧ Below W9.heap.size W9 wr) (fun i _ => (rsOf s).length - (intOf i).toNat)
    case atStart => exact ⟨0, Nat.zero_le _, rfl, Below.refl _ _⟩
    case round =>
      obtain ⟨k, hk, rfl, hbk⟩ := hrel
      by_cases hkl : k < (rsOf s).length
      · obtain ⟨g1, rfl, hg1, hr1⟩ := HR1.out (fun e => by rw [e] at hkl; simp at hkl)
        obtain ⟨g2, rfl, hg2, hr2⟩ := HR2.out (fun e => by rw [e] at hkl; simp at hkl)
        obtain ⟨lo, hlo⟩ : ∃ lo, (rsOf s)[k].1 = lo := ⟨_, rfl⟩
        obtain ⟨hi', hhi⟩ : ∃ hi, (rsOf s)[k].2 = hi := ⟨_, rfl⟩
        have HLO := Lib.hid hlo
        have HHI := Lib.hid hhi
        clear hlo hhi HR1 HR2
        go_wp2_with fail
        refine region_steps (S := fun W' => Below W9.heap.size W9 W') (by kernel_rfl) hbk.drew ?_
        clear hbk
        simp only [List.size_toArray, List.length_cons, List.length_nil, Nat.reduceAdd, Array.replicate_succ, Array.replicate_zero, List.push_toArray, List.nil_append, List.cons_append]
        refine AnyS.next (i := 0) (d := some 55) (v := .slice (some ⟨g1, 0, none⟩) (rsOf s).length cap1) rfl rfl (by kernel_rfl) (by kernel_rfl) (by kernel_rfl) (StepsIf.yield (by kernel_rfl) (fun w' hS => by clear hS; go_simp)) ?_
        intro a' ha'
        simp only [Act.put, List.setIfInBounds_toArray, List.set_cons_zero, List.set_cons_succ] at ha'
        subst ha'
        refine AnyS.next (i := 1) (d := some 56) (v := .int .i64 ((k : Nat) : Int)) rfl rfl (by kernel_rfl) (by kernel_rfl) (by kernel_rfl) (StepsIf.yield (by kernel_rfl) (fun w' hS => by clear hS; go_simp)) ?_
        intro a' ha'
        simp only [Act.put, List.setIfInBounds_toArray, List.set_cons_zero, List.set_cons_succ] at ha'
        subst ha'
        refine AnyS.next (i := 2) (d := some 57) (v := .pointer (some ⟨g1, k * 2, none⟩)) rfl rfl (by kernel_rfl) (by kernel_rfl) (by kernel_rfl) (StepsIf.yield (by kernel_rfl) (fun w' hS => by clear hS; go_simp)) ?_
        intro a' ha'
        simp only [Act.put, List.setIfInBounds_toArray, List.set_cons_zero, List.set_cons_succ] at ha'
        subst ha'
        refine AnyS.next (i := 3) (d := some 58) (v := .agg #[.int .u8 (lo : Nat), .int .u8 (hi' : Nat)]) rfl rfl (by kernel_rfl) (by kernel_rfl) (by kernel_rfl) (StepsIf.yield (by kernel_rfl) (fun w' hS => by have c := (hr1.below hS).2 k hkl; rw [HLO.out, HHI.out] at c; have c1 := c.1; have c2 := c.2; clear c; clear hS; go_simp)) ?_
        intro a' ha'
        simp only [Act.put, List.setIfInBounds_toArray, List.set_cons_zero, List.set_cons_succ] at ha'
        subst ha'
        refine AnyS.next (i := 4) (d := some 59) (v := .slice (some ⟨g2, 0, none⟩) (rsOf s).length cap2) rfl rfl (by kernel_rfl) (by kernel_rfl) (by kernel_rfl) (StepsIf.yield (by kernel_rfl) (fun w' hS => by clear hS; go_simp)) ?_
        intro a' ha'
        simp only [Act.put, List.setIfInBounds_toArray, List.set_cons_zero, List.set_cons_succ] at ha'
        subst ha'
        refine AnyS.next (i := 5) (d := some 60) (v := .int .i64 ((k : Nat) : Int)) rfl rfl (by kernel_rfl) (by kernel_rfl) (by kernel_rfl) (StepsIf.yield (by kernel_rfl) (fun w' hS => by clear hS; go_simp)) ?_
        intro a' ha'
        simp only [Act.put, List.setIfInBounds_toArray, List.set_cons_zero, List.set_cons_succ] at ha'
        subst ha'
        refine AnyS.next (i := 6) (d := some 61) (v := .pointer (some ⟨g2, k * 2, none⟩)) rfl rfl (by kernel_rfl) (by kernel_rfl) (by kernel_rfl) (StepsIf.yield (by kernel_rfl) (fun w' hS => by clear hS; go_simp)) ?_
        intro a' ha'
        simp only [Act.put, List.setIfInBounds_toArray, List.set_cons_zero, List.set_cons_succ] at ha'
        subst ha'
        refine AnyS.next (i := 7) (d := some 62) (v := .agg #[.int .u8 (lo : Nat), .int .u8 (hi' : Nat)]) rfl rfl (by kernel_rfl) (by kernel_rfl) (by kernel_rfl) (StepsIf.yield (by kernel_rfl) (fun w' hS => by have c := (hr2.below hS).2 k hkl; rw [HLO.out, HHI.out] at c; have c1 := c.1; have c2 := c.2; clear c; clear hS; go_simp)) ?_
        intro a' ha'
        simp only [Act.put, List.setIfInBounds_toArray, List.set_cons_zero, List.set_cons_succ] at ha'
        subst ha'
        refine AnyS.next (i := 8) (d := some 63) (v := .bool false) rfl rfl (by kernel_rfl) (by kernel_rfl) (by kernel_rfl) (StepsIf.yield (by kernel_rfl) (fun w' hS => by have q := eq_pair_same; clear hS; go_simp)) ?_
        intro a' ha'
        simp only [Act.put, List.setIfInBounds_toArray, List.set_cons_zero, List.set_cons_succ] at ha'
        subst ha'
        refine AnyS.done (by kernel_rfl) ?_ _
        intro w' hS
        go_wp2
        go_roundw
        case rel => exact ⟨k + 1, by omega, by simp, hS⟩
        case measure => simp [intOf]; omega
      · obtain rfl : k = (rsOf s).length := by omega
        have HBK := Lib.hid hbk
        clear hbk
        obtain ⟨nx, hnx⟩ : ∃ nx, nextOf s.getLsbD from_.toNat = nx := ⟨_, rfl⟩
        have HNX := Lib.hid hnx
        clear hnx
        go_wp2_with fail
        refine region_stepsM (S := fun W' => Below W9.heap.size W9 W') (m := 24) rfl (by kernel_rfl) HBK.out.drew ?_
        simp only [List.size_toArray, List.length_cons, List.length_nil, Nat.reduceAdd, Array.replicate_succ, Array.replicate_zero, List.push_toArray, List.nil_append, List.cons_append]
        refine AnyM.next (m := 24) (i := 0) (d := some 64) (v := v) rfl rfl (by kernel_rfl) (by kernel_rfl) (by kernel_rfl) (by kernel_rfl) (StepsIf.yield (by kernel_rfl) (fun w' hS => by have c := (Blk.below (vs := #[_]) BG.out hS (Blk.lt BG.out)).cell 0; simp only [List.getElem?_toArray, List.getElem?_cons_zero] at c; clear hS; go_simp)) ?_
        intro a' ha'
        simp only [Act.put, List.setIfInBounds_toArray, List.set_cons_zero, List.set_cons_succ] at ha'
        subst ha'
        refine AnyM.next (m := 24) (i := 1) (d := some 65) (v := .string (strB ys)) rfl rfl (by kernel_rfl) (by kernel_rfl) (by kernel_rfl) (by kernel_rfl) (StepsIf.yield (by kernel_rfl) (fun w' hS => by have q := conv_row (row_below HG.out hS); clear hS; go_simp)) ?_
        intro a' ha'
        simp only [Act.put, List.setIfInBounds_toArray, List.set_cons_zero, List.set_cons_succ] at ha'
        subst ha'
        refine AnyM.next (m := 24) (i := 2) (d := some 66) (v := .slice p ys.length cap) rfl rfl (by kernel_rfl) (by kernel_rfl) (by kernel_rfl) (by kernel_rfl) (StepsIf.yield (by kernel_rfl) (fun w' hS => by have c := (Blk.below (vs := #[_]) BW.out hS (Blk.lt BW.out)).cell 0; simp only [List.getElem?_toArray, List.getElem?_cons_zero] at c; clear hS; go_simp)) ?_
        intro a' ha'
        simp only [Act.put, List.setIfInBounds_toArray, List.set_cons_zero, List.set_cons_succ] at ha'
        subst ha'
        refine AnyM.next (m := 24) (i := 3) (d := some 67) (v := .string (strB ys)) rfl rfl (by kernel_rfl) (by kernel_rfl) (by kernel_rfl) (by kernel_rfl) (StepsIf.yield (by kernel_rfl) (fun w' hS => by have q := conv_row (row_below HW.out hS); clear hS; go_simp)) ?_
        intro a' ha'
        simp only [Act.put, List.setIfInBounds_toArray, List.set_cons_zero, List.set_cons_succ] at ha'
        subst ha'
        refine AnyM.next (m := 24) (i := 4) (d := some 68) (v := .bool true) rfl rfl (by kernel_rfl) (by kernel_rfl) (by kernel_rfl) (by kernel_rfl) (StepsIf.yield (by kernel_rfl) (fun w' hS => by clear hS; go_simp)) ?_
        intro a' ha'
        simp only [Act.put, List.setIfInBounds_toArray, List.set_cons_zero, List.set_cons_succ] at ha'
        subst ha'
        refine AnyM.next (m := 24) (i := 5) (d := some 69) (v := .bool true) rfl rfl (by kernel_rfl) (by kernel_rfl) (by kernel_rfl) (by kernel_rfl) (StepsIf.yield (by kernel_rfl) (fun w' hS => by clear hS; go_simp)) ?_
        intro a' ha'
        simp only [Act.put, List.setIfInBounds_toArray, List.set_cons_zero, List.set_cons_succ] at ha'
        subst ha'
        refine AnyM.next (m := 24) (i := 6) (d := some 70) (v := setV s) rfl rfl (by kernel_rfl) (by kernel_rfl) (by kernel_rfl) (by kernel_rfl) (StepsIf.yield (by kernel_rfl) (fun w' hS => by obtain ⟨⟨c0, c1, c2, c3⟩, _⟩ := (BS.out.below hS BS.out.lt).cells4; clear hS; go_simp)) ?_
        intro a' ha'
        simp only [Act.put, List.setIfInBounds_toArray, List.set_cons_zero, List.set_cons_succ] at ha'
        subst ha'
        refine AnyM.next (m := 24) (i := 7) (d := some 71) (v := .int .i64 ((ys.length : Nat) : Int)) rfl rfl (by kernel_rfl) (by kernel_rfl) (by kernel_rfl) (by kernel_rfl) (StepsIf.call (by kernel_rfl) (fun w' hS => by clear hS; go_simp) (fun w' hS => (count_calls s w').mono fun e w'' h => ⟨by rw [h.1, ← HE.out, el_cnt], keepL hS h.2⟩)) ?_
        intro a' ha'
        simp only [Act.put, List.setIfInBounds_toArray, List.set_cons_zero, List.set_cons_succ] at ha'
        subst ha'
        refine AnyM.next (m := 24) (i := 8) (d := some 72) (v := .slice p ys.length cap) rfl rfl (by kernel_rfl) (by kernel_rfl) (by kernel_rfl) (by kernel_rfl) (StepsIf.yield (by kernel_rfl) (fun w' hS => by have c := (Blk.below (vs := #[_]) BW.out hS (Blk.lt BW.out)).cell 0; simp only [List.getElem?_toArray, List.getElem?_cons_zero] at c; clear hS; go_simp)) ?_
        intro a' ha'
        simp only [Act.put, List.setIfInBounds_toArray, List.set_cons_zero, List.set_cons_succ] at ha'
        subst ha'
        refine AnyM.next (m := 24) (i := 9) (d := some 73) (v := .int .i64 ((ys.length : Nat) : Int)) rfl rfl (by kernel_rfl) (by kernel_rfl) (by kernel_rfl) (by kernel_rfl) (StepsIf.yield (by kernel_rfl) (fun w' hS => by clear hS; go_simp)) ?_
        intro a' ha'
        simp only [Act.put, List.setIfInBounds_toArray, List.set_cons_zero, List.set_cons_succ] at ha'
        subst ha'
        refine AnyM.next (m := 24) (i := 10) (d := some 74) (v := .bool true) rfl rfl (by kernel_rfl) (by kernel_rfl) (by kernel_rfl) (by kernel_rfl) (StepsIf.yield (by kernel_rfl) (fun w' hS => by clear hS; go_simp)) ?_
        intro a' ha'
        simp only [Act.put, List.setIfInBounds_toArray, List.set_cons_zero, List.set_cons_succ] at ha'
        subst ha'
        refine AnyM.next (m := 24) (i := 11) (d := some 75) (v := .bool true) rfl rfl (by kernel_rfl) (by kernel_rfl) (by kernel_rfl) (by kernel_rfl) (StepsIf.yield (by kernel_rfl) (fun w' hS => by clear hS; go_simp)) ?_
        intro a' ha'
        simp only [Act.put, List.setIfInBounds_toArray, List.set_cons_zero, List.set_cons_succ] at ha'
        subst ha'
        refine AnyM.next (m := 24) (i := 12) (d := some 76) (v := .bool true) rfl rfl (by kernel_rfl) (by kernel_rfl) (by kernel_rfl) (by kernel_rfl) (StepsIf.yield (by kernel_rfl) (fun w' hS => by clear hS; go_simp)) ?_
        intro a' ha'
        simp only [Act.put, List.setIfInBounds_toArray, List.set_cons_zero, List.set_cons_succ] at ha'
        subst ha'
        refine AnyM.next (m := 24) (i := 13) (d := some 77) (v := setV s) rfl rfl (by kernel_rfl) (by kernel_rfl) (by kernel_rfl) (by kernel_rfl) (StepsIf.yield (by kernel_rfl) (fun w' hS => by obtain ⟨⟨c0, c1, c2, c3⟩, _⟩ := (BS.out.below hS BS.out.lt).cells4; clear hS; go_simp)) ?_
        intro a' ha'
        simp only [Act.put, List.setIfInBounds_toArray, List.set_cons_zero, List.set_cons_succ] at ha'
        subst ha'
        refine AnyM.next (m := 24) (i := 14) (d := some 78) (v := .int .i64 from_) rfl rfl (by kernel_rfl) (by kernel_rfl) (by kernel_rfl) (by kernel_rfl) (StepsIf.yield (by kernel_rfl) (fun w' hS => by clear hS; go_simp)) ?_
        intro a' ha'
        simp only [Act.put, List.setIfInBounds_toArray, List.set_cons_zero, List.set_cons_succ] at ha'
        subst ha'
        refine AnyM.next (m := 24) (i := 15) (d := some 79) (v := .int .i64 nx) rfl rfl (by kernel_rfl) (by kernel_rfl) (by kernel_rfl) (by kernel_rfl) (StepsIf.call (by kernel_rfl) (fun w' hS => by clear hS; go_simp) (fun w' hS => (next_calls s from_ w' hfr (HT9.out.keep hS (by omega)) (by have := hS.size; omega)).mono fun e w'' h => ⟨by rw [h.1, HNX.out], keepL hS h.2⟩)) ?_
        intro a' ha'
        simp only [Act.put, List.setIfInBounds_toArray, List.set_cons_zero, List.set_cons_succ] at ha'
        subst ha'
        refine AnyM.next (m := 24) (i := 16) (d := some 80) (v := setV s) rfl rfl (by kernel_rfl) (by kernel_rfl) (by kernel_rfl) (by kernel_rfl) (StepsIf.yield (by kernel_rfl) (fun w' hS => by obtain ⟨⟨c0, c1, c2, c3⟩, _⟩ := (BS.out.below hS BS.out.lt).cells4; clear hS; go_simp)) ?_
        intro a' ha'
        simp only [Act.put, List.setIfInBounds_toArray, List.set_cons_zero, List.set_cons_succ] at ha'
        subst ha'
        refine AnyM.next (m := 24) (i := 17) (d := some 81) (v := .int .i64 from_) rfl rfl (by kernel_rfl) (by kernel_rfl) (by kernel_rfl) (by kernel_rfl) (StepsIf.yield (by kernel_rfl) (fun w' hS => by clear hS; go_simp)) ?_
        intro a' ha'
        simp only [Act.put, List.setIfInBounds_toArray, List.set_cons_zero, List.set_cons_succ] at ha'
        subst ha'
        refine AnyM.next (m := 24) (i := 18) (d := some 82) (v := .int .i64 nx) rfl rfl (by kernel_rfl) (by kernel_rfl) (by kernel_rfl) (by kernel_rfl) (StepsIf.call (by kernel_rfl) (fun w' hS => by clear hS; go_simp) (fun w' hS => (rnext_calls s from_ w').mono fun e w'' h => ⟨by rw [h.1, HNX.out], keepL hS h.2⟩)) ?_
        intro a' ha'
        simp only [Act.put, List.setIfInBounds_toArray, List.set_cons_zero, List.set_cons_succ] at ha'
        subst ha'
        refine AnyM.next (m := 24) (i := 19) (d := some 83) (v := .bool true) rfl rfl (by kernel_rfl) (by kernel_rfl) (by kernel_rfl) (by kernel_rfl) (StepsIf.yield (by kernel_rfl) (fun w' hS => by clear hS; go_simp)) ?_
        intro a' ha'
        simp only [Act.put, List.setIfInBounds_toArray, List.set_cons_zero, List.set_cons_succ] at ha'
        subst ha'
        refine AnyM.next (m := 24) (i := 20) (d := some 84) (v := .bool true) rfl rfl (by kernel_rfl) (by kernel_rfl) (by kernel_rfl) (by kernel_rfl) (StepsIf.yield (by kernel_rfl) (fun w' hS => by clear hS; go_simp)) ?_
        intro a' ha'
        simp only [Act.put, List.setIfInBounds_toArray, List.set_cons_zero, List.set_cons_succ] at ha'
        subst ha'
        refine AnyM.next (m := 24) (i := 21) (d := some 85) (v := .bool true) rfl rfl (by kernel_rfl) (by kernel_rfl) (by kernel_rfl) (by kernel_rfl) (StepsIf.yield (by kernel_rfl) (fun w' hS => by clear hS; go_simp)) ?_
        intro a' ha'
        simp only [Act.put, List.setIfInBounds_toArray, List.set_cons_zero, List.set_cons_succ] at ha'
        subst ha'
        refine AnyM.next (m := 24) (i := 22) (d := some 86) (v := .bool true) rfl rfl (by kernel_rfl) (by kernel_rfl) (by kernel_rfl) (by kernel_rfl) (StepsIf.call (by kernel_rfl) (fun w' hS => by clear hS; go_simp) (fun w' hS => (sure_calls w' (HT9.out.keep hS (by omega)) (by have := hS.size; omega)).mono fun e w'' h => ⟨h.1, keepL hS h.2⟩)) ?_
        intro a' ha'
        simp only [Act.put, List.setIfInBounds_toArray, List.set_cons_zero, List.set_cons_succ] at ha'
        subst ha'
        refine AnyM.next (m := 24) (i := 23) (d := some 87) (v := .bool true) rfl rfl (by kernel_rfl) (by kernel_rfl) (by kernel_rfl) (by kernel_rfl) (StepsIf.yield (by kernel_rfl) (fun w' hS => by clear hS; go_simp)) ?_
        intro a' ha'
        simp only [Act.put, List.setIfInBounds_toArray, List.set_cons_zero, List.set_cons_succ] at ha'
        subst ha'
        refine AnyM.last rfl (by kernel_rfl) (by kernel_rfl) (by kernel_rfl) (fun w3 hS K hK => ?_)
        have hc := (Blk.below (vs := #[_]) BR.out hS (Blk.lt BR.out)).cell 0
        have hf := (Blk.below (vs := #[_]) BR.out hS (Blk.lt BR.out)).frozen 0
        have HS := Lib.hid hS
        clear hS
        go_simp
        refine hK _ _ ?_
        clear hK K
        have hlt2 := Blk.lt BR.out
        have hD2' : (w3.setCell ⟨w.heap.size + 1, 0, none⟩ (.bool true)).heap[D2]? = some (.deferred (some [])) :=
          (Below.heap_setCell w3 ⟨w.heap.size + 1, 0, none⟩ (.bool true) D2 (by simp; omega)).trans ((HS.out.block D2 (by omega)).trans HEE.out)
        have hD' : (w3.setCell ⟨w.heap.size + 1, 0, none⟩ (.bool true)).heap[D]? = some (.deferred (some [])) :=
          (Below.heap_setCell w3 ⟨w.heap.size + 1, 0, none⟩ (.bool true) D (by simp; omega)).trans ((HS.out.block D (by omega)).trans HD.out)
        have hb3 := below_set (HB.out.trans (HS.out.mono (by omega))) (show w.heap.size ≤ w.heap.size + 1 by omega) 0 (.bool true)
        have hbR := (Blk.below (vs := #[_]) BR.out HS.out (Blk.lt BR.out)).set 0 (.bool true)
        have HH2 := Lib.hid hD2'
        have HH1 := Lib.hid hD'
        have HH3 := Lib.hid hb3
        have HH4 := Lib.hid hbR
        clear hD2' hD' hb3 hbR hc hf
        generalize w3.setCell ⟨w.heap.size + 1, 0, none⟩ (.bool true) = w4' at *
        go_wp2
        have hq1 := HH4.out
        have hl2 := (Array.getElem?_eq_some_iff.1 HH2.out).1
        have hbP := (hq1.putObj (.deferred none) HH2.out rfl).putObj (l := D) (.deferred none) ((World.putObj_heap_other (by omega)).trans HH1.out) rfl
        have hcell := hbP.cell 0
        refine ⟨by simp, .inl ⟨_, _, rfl, run_takeDeferred HH2.out, by simp, .inl ⟨_, _, rfl, run_takeDeferred ((World.putObj_heap_other (by omega)).trans HH1.out), ?_⟩⟩⟩
        refine ⟨.bool true, by simp [results, Tryd.results3, go_sem, hcell], rfl, ?_⟩
        exact (HH3.out.trans (belowK_b (w := w) (Nat.le_refl _) _ D2 _ _ (by omega) HH2.out rfl rfl)).trans (belowK_b (w := w) (Nat.le_refl _) _ D _ _ (by omega) ((World.putObj_heap_other (by omega)).trans HH1.out) rfl rfl)
  case stop =>
    rintro D c pre W _ _ h _
    exact h.elim
end Go.Proofs.YtcccfhpabikbjaaDoor

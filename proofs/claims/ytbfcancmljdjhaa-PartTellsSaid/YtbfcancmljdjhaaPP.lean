/- Texts put together: Zk Zl Zm. -/
import Derived.Test.YtbfcancmljdjhaaPK
import Derived.Test.YtbfcancmljdjhaaPB
import Derived.DeepKeys4
import Derived.Maps.OwnSet
import Derived.Test.YtbfcancmljdjhaaPE
import Derived.Maps.OwnOps
/- The developers' say. Stage 13. -/
namespace Go.Proofs.Ytbfcancmljdjhaa
open Go.RowKit BS

theorem hasS (a : BitVec 256) (x : Nat) (w : World) (hx : x < 256) : Calls Try.prog 17 #[setV a, .int .u8 x] w fun e w' => e = .returned (.bool (a.getLsbD x)) ∧ Below w.heap.size w w' := by
  have h := has_calls a x w (by omega) (by omega)
  rw [Int.toNat_natCast] at h; exact h
theorem say_step (L : List (BitVec 256)) (b i : Nat) (h : i < L.length) : sayN L b (i + 1) = if L[i].getLsbD b = true then sayN L b i ||| 2 ^ i else sayN L b i := by
  rw [sayN, List.getD_eq_getElem?_getD, List.getElem?_eq_getElem h]
  rfl
theorem say_or (v i : Nat) (hi : i < 64) (hv : v < 2 ^ i) : bits .or .u64 (v : Int) (IntKind.u64.wrap (2 ^ i)) = ((v ||| 2 ^ i : Nat) : Int) := by
  have h1 : 2 ^ i < 2 ^ 64 := Nat.pow_lt_pow_right (by decide) hi
  have h3 : ((2 : Int) ^ i) = ((2 ^ i : Nat) : Int) := by simp
  rw [h3, wrap_u64_nat _ h1, bits_or_nat _ _ (by omega) h1]
set_option maxRecDepth 100000 in
set_option maxHeartbeats 8000000 in
theorem say_calls (L : List (BitVec 256)) (hl : L.length ≤ 64) (b : Nat) (hb : b < 256) (a : Option Addr) (cap : Nat) (w : World) (h : SetsAt L a w) :
    Calls Try.prog 25 #[.slice a L.length cap, .int .u8 b] w fun e w' => e = .returned (.int .u64 (sayN L b L.length : Nat)) ∧ Below w.heap.size w w' := by
  have HN := Lib.hid h
  have HST := Lib.hid (say_step L b)
  have HLT := Lib.hid (say_lt L b)
  have HZ := Lib.hid (show sayN L b 0 = 0 from rfl)
  clear h
  generalize sayN L b = T at *
  go_enter Try.func25, Try.ntmps25
  go_wp2_with fail
  go_loopw [5, 10] (fun vs vi wr => ∃ (i : Nat), i ≤ L.length ∧ vi = .int .i64 i ∧ vs = .int .u64 (T i : Nat) ∧ Below w.heap.size w wr) (fun _ vi _ => L.length - (intOf vi).toNat)
  case atStart => exact ⟨0, Nat.zero_le _, rfl, by rw [HZ.out]; rfl, Below.refl _ _⟩
  case round =>
    obtain ⟨i, hi, rfl, rfl, hB⟩ := hrel
    by_cases hlt : i < L.length
    · obtain ⟨g, off, rfl, hg, hc⟩ := (HN.out.below hB) (by rintro rfl; simp at hlt)
      have hst := HST.out i hlt
      have hv := HLT.out i
      have hd : decide ((i : Int) < (L.length : Int)) = true := by rw [decide_eq_true_iff]; omega
      have hd2 : decide (i < L.length) = true := by rw [decide_eq_true_iff]; omega
      have hii : (i : Int) < (L.length : Int) := by omega
      have xi : IntKind.i64.wrap ((i : Int) + 1) = (i : Int) + 1 := IntWalk.i64_in _ (by omega)
      have d0 := hc i hlt 0 (by decide); have d1 := hc i hlt 1 (by decide); have d2 := hc i hlt 2 (by decide); have d3 := hc i hlt 3 (by decide)
      simp only [List.getElem?_toArray, List.getElem?_cons_zero, List.getElem?_cons_succ, Nat.add_zero] at d0 d1 d2 d3
      have xo := say_or (T i) i (by omega) hv
      generalize L[i] = s at *
      have hS := Blk.new wr (setA s) 38
      have HB1 := Lib.hid (hB.alloc hB.size (.cells (setA s) 38))
      have HST1 := Lib.hid hst
      clear hc hB hst
      go_upto_region 5 with fail
      generalize wr.alloc (.cells (setA s) 38) = w1 at *
      obtain ⟨⟨c0, c1, c2, c3⟩, _⟩ := hS.cells4
      clear d0 d1 d2 d3 hS
      go_wp2_with fail
      refine (hasS s b _ hb).mono ?_
      rintro e w2 ⟨rfl, hb2⟩
      replace HB1 := Lib.hid (HB1.out.trans (hb2.mono HB1.out.size))
      clear hb2 c0 c1 c2 c3
      cases hh : s.getLsbD b with
      | false =>
        have HX := Lib.hid (show T (i + 1) = T i by rw [HST1.out, hh]; rfl)
        clear hh HST1
        go_wp2_with fail
        go_roundw
        case rel => exact ⟨i + 1, by omega, by simp, by rw [HX.out], HB1.out⟩
        case measure => simp [intOf]; omega
      | true =>
        have HX := Lib.hid (show T (i + 1) = T i ||| 2 ^ i by rw [HST1.out, hh]; rfl)
        clear hh HST1
        go_wp2_with fail
        go_roundw
        case rel => exact ⟨i + 1, by omega, by simp, by rw [HX.out], HB1.out⟩
        case measure => simp [intOf]; omega
    · obtain rfl : i = L.length := by omega
      have hd : decide ((L.length : Int) < (L.length : Int)) = false := by simp
      have HB := Lib.hid hB
      clear hB
      go_wp2_with fail
      go_ret
      exact ⟨rfl, HB.out⟩
end Go.Proofs.Ytbfcancmljdjhaa

/- The developers' map: its keys. Stage 13. -/
namespace Go.Proofs.Ytbfcancmljdjhaa
open Go.RowKit BS Go.Maps

theorem lawKey : Keyed Try.prog 55 := Keyed.of_law (deep_law_laid (by kernel_rfl) (m := 2) (by omega) (of_decide_eq_true (by kernel_rfl)) (by kernel_rfl) (by kernel_rfl))
/-- A key as a value. -/
@[reducible] def keyV (c s : Nat) : Value := .agg #[.int .i64 (c : Int), .int .u64 (s : Int)]
theorem key_some (c s : Nat) (hc : c < 9223372036854775808) (hs : s < 18446744073709551616) : ∃ kl, keyOf Try.prog 55 (keyV c s) = some kl := by
  have h1 : (Lit.int .i64 (c : Int)).wf = true := WalkArith.wf_i64 (by omega)
  have h2 : (Lit.int .u64 (s : Int)).wf = true := by
    simp [Lit.wf, IntKind.min, IntKind.max, IntKind.signed, IntKind.bits]
    omega
  have hk : Try.prog.keyType 55 = true := by kernel_rfl
  have hc2 : Try.prog.cellsOf 55 = 2 := by kernel_rfl
  have hc3 : Try.prog.cellsOf 3 = 1 := by kernel_rfl
  have hc4 : Try.prog.cellsOf 36 = 1 := by kernel_rfl
  have hu := Try.underlying55
  have hui := Try.underlying3
  have huu := Try.underlying36
  have hf : (keyV c s).formed Try.prog 55 = true := by
    unfold Value.formed
    simp only [hu, hc2]
    rfl
  have hn : ∃ n, Try.prog.types.size + 1 = n + 1 + 1 := ⟨Try.prog.types.size - 1, by
    have : 0 < Try.prog.types.size := of_decide_eq_true (by kernel_rfl)
    omega⟩
  obtain ⟨n, hn⟩ := hn
  have hl : Try.prog.keyLits (Try.prog.types.size + 1) 55 (keyV c s).cells.toList = some [.int .i64 (c : Int), .int .u64 (s : Int)] := by
    rw [hn]
    have e1 : Try.prog.keyLits (n + 1) 3 [.int .i64 (c : Int)] = some [.int .i64 (c : Int)] := by
      unfold Program.keyLits
      simp [hui, h1]
    have e2 : Try.prog.keyLits (n + 1) 36 [.int .u64 (s : Int)] = some [.int .u64 (s : Int)] := by
      unfold Program.keyLits
      simp [huu, h2]
    unfold Program.keyLits
    simp [hu, hc2, hc3, hc4, Value.cells, e1, e2]
  refine ⟨.string (keyBytes [.int .i64 (c : Int), .int .u64 (s : Int)]), ?_⟩
  unfold keyOf
  simp only [hu, hk, hf, hl, Bool.and_self, if_true, Option.map_some]
/-- What a key reads as. -/
noncomputable def keyL (c s : Nat) : Lit := (keyOf Try.prog 55 (keyV c s)).getD (.bool false)
theorem key_of (c s : Nat) (hc : c < 9223372036854775808) (hs : s < 18446744073709551616) : keyOf Try.prog 55 (keyV c s) = some (keyL c s) := by
  obtain ⟨kl, h⟩ := key_some c s hc hs
  unfold keyL
  rw [h]
  rfl
theorem key_inj (c s c' s' : Nat) (hc : c < 9223372036854775808) (hs : s < 18446744073709551616) (hc' : c' < 9223372036854775808) (hs' : s' < 18446744073709551616) : keyL c s = keyL c' s' ↔ c = c' ∧ s = s' := by
  constructor
  · intro e
    have h1 := key_of c s hc hs
    have h2 := key_of c' s' hc' hs'
    rw [← e] at h2
    have h3 := lawKey.inj h1 h2
    simp only [Value.agg.injEq, Array.mk.injEq, List.cons.injEq, Value.int.injEq, true_and, and_true] at h3
    omega
  · rintro ⟨rfl, rfl⟩; rfl
theorem key_is (c s : Nat) (hc : c < 9223372036854775808) (hs : s < 18446744073709551616) : WideAt.IsKeyLit (keyL c s) := lawKey.key (key_of c s hc hs)
/-- A byte's key. -/
noncomputable def keyB (m l : List (BitVec 256)) (b : Nat) : Lit := keyL (numE (alE m) b) (sayN l b l.length)
theorem num_lt (m : List (BitVec 256)) (b : Nat) (hb : b < 256) : numE (alE m) b < 9223372036854775808 := by have := cls_small m b hb; omega
theorem say_lt64 (l : List (BitVec 256)) (hl : l.length ≤ 64) (b : Nat) : sayN l b l.length < 18446744073709551616 := by
  have h1 := say_lt l b l.length
  have h2 : 2 ^ l.length ≤ 2 ^ 64 := Nat.pow_le_pow_right (by decide) hl
  omega
end Go.Proofs.Ytbfcancmljdjhaa

/- The developers' split: classes made finer by a map. Stage 13. -/
namespace Go.Proofs.Ytbfcancmljdjhaa
open Go.RowKit BS Go.Maps

theorem zeroInt (w : World) : (zeroValue 3).run Try.prog w = .ok (.int .i64 0) w := by kernel_rfl
/-- The map. -/
def MapAt (B n : Nat) (D : DataW Unit) (W : World) : Prop := W.ownsMap Try.prog 55 (plainElem Try.prog 3) B n D
theorem MapAt.of_block {B n : Nat} {D : DataW Unit} {W W' : World} (h : MapAt B n D W) (e : W'.heap[B]? = W.heap[B]?) : MapAt B n D W' := by
  obtain ⟨es, clock, hb, r⟩ := h
  exact ⟨es, clock, e.trans hb, r⟩
theorem MapAt.lt {B n : Nat} {D : DataW Unit} {W : World} (h : MapAt B n D W) : B < W.heap.size := World.ownsMap.lt h
theorem MapAt.below {B n k : Nat} {D : DataW Unit} {W W' : World} (h : MapAt B n D W) (hb : Below k W W') (hB : B < k) : MapAt B n D W' := h.of_block (hb.block B hB)
theorem MapAt.set {B n : Nat} {D : DataW Unit} {W : World} (h : MapAt B n D W) {C : Nat} (hC : B ≠ C) (i : Nat) (v : Value) : MapAt B n D (W.setCell ⟨C, i, none⟩ v) :=
  h.of_block (Below.heap_setCell W ⟨C, i, none⟩ v B hC)
/-- The classes of the first k bytes are the finer ones. -/
def MixB (E F : Nat → Nat → Bool) (k C : Nat) (W : World) : Prop := ∃ vs : Array Value, vs.size = 256 ∧ (∀ x, x < 256 → vs[x]? = some (.int .i64 ((if x < k then numE F x else numE E x : Nat) : Int))) ∧ Blk W C vs 3
theorem MixB.start {E F : Nat → Nat → Bool} {C : Nat} {W : World} (h : ClB E 256 C W) : MixB E F 0 C W := by
  obtain ⟨vs, h1, h2, h3⟩ := h
  exact ⟨vs, h1, fun x hx => by rw [if_neg (by omega)]; exact h2 x hx, h3⟩
theorem MixB.stop {E F : Nat → Nat → Bool} {C : Nat} {W : World} (h : MixB E F 256 C W) : ClB F 256 C W := by
  obtain ⟨vs, h1, h2, h3⟩ := h
  exact ⟨vs, h1, fun x hx => by rw [h2 x hx, if_pos hx], h3⟩
theorem MixB.lt {E F : Nat → Nat → Bool} {k C : Nat} {W : World} (h : MixB E F k C W) : C < W.heap.size := by
  obtain ⟨vs, h1, h2, h3⟩ := h
  exact h3.lt
theorem MixB.cell {E F : Nat → Nat → Bool} {k C : Nat} {W : World} (h : MixB E F k C W) (hk : k < 256) : W.cell? ⟨C, k, none⟩ = some (.int .i64 ((numE E k : Nat) : Int)) ∧ W.frozen? ⟨C, k, none⟩ = false := by
  obtain ⟨vs, h1, h2, h3⟩ := h
  refine ⟨(h3.cell k).trans ?_, h3.frozen k⟩
  rw [h2 k hk, if_neg (by omega)]
theorem MixB.of_block {E F : Nat → Nat → Bool} {k C : Nat} {W W' : World} (h : MixB E F k C W) (e : W'.heap[C]? = W.heap[C]?) : MixB E F k C W' := by
  obtain ⟨vs, h1, h2, h3⟩ := h
  exact ⟨vs, h1, h2, e.trans h3⟩
theorem MixB.next {E F : Nat → Nat → Bool} {k C : Nat} {W : World} (h : MixB E F k C W) : MixB E F (k + 1) C (W.setCell ⟨C, k, none⟩ (.int .i64 ((numE F k : Nat) : Int))) := by
  obtain ⟨vs, h1, h2, h3⟩ := h
  refine ⟨vs.setIfInBounds k (.int .i64 ((numE F k : Nat) : Int)), by simp [h1], fun x hx => ?_, h3.set k _⟩
  by_cases hxk : x = k
  · subst hxk; rw [if_pos (by omega)]; simp [h1, hx]
  · rw [Array.getElem?_setIfInBounds_ne (Ne.symm hxk), h2 x hx]
    by_cases h4 : x < k
    · rw [if_pos h4, if_pos (by omega)]
    · rw [if_neg h4, if_neg (by omega)]
/-- Only block C is written. -/
def OnlyC (C : Nat) (W W' : World) : Prop := KpA (fun g => g = C) W W'
theorem keyB_iff (m l : List (BitVec 256)) (hl : l.length ≤ 64) (a b : Nat) (ha : a < 256) (hb : b < 256) : keyB m l a = keyB m l b ↔ alE (m ++ l) a b = true := by
  unfold keyB
  rw [key_inj _ _ _ _ (num_lt m a ha) (say_lt64 l hl a) (num_lt m b hb) (say_lt64 l hl b), key_iff]
theorem key_ofB (m l : List (BitVec 256)) (hl : l.length ≤ 64) (b : Nat) (hb : b < 256) : keyOf Try.prog 55 (keyV (numE (alE m) b) (sayN l b l.length)) = some (keyB m l b) := key_of _ _ (num_lt m b hb) (say_lt64 l hl b)
theorem key_isB (m l : List (BitVec 256)) (hl : l.length ≤ 64) (b : Nat) (hb : b < 256) : WideAt.IsKeyLit (keyB m l b) := key_is _ _ (num_lt m b hb) (say_lt64 l hl b)
set_option maxRecDepth 100000 in
set_option maxHeartbeats 16000000 in
theorem split_calls (m l : List (BitVec 256)) (hl : l.length ≤ 64) (C : Nat) (a : Option Addr) (cap : Nat) (w : World) (hC : ClB (alE m) 256 C w) (hN : ∀ W, OnlyC C w W → SetsAt l a W) :
    Calls Try.prog 19 #[.slice (some ⟨C, 0, none⟩) 256 256, .slice a l.length cap] w fun e w' => e = .returned (.int .i64 ((manyE (alE (m ++ l)) 256 : Nat) : Int)) ∧ ClB (alE (m ++ l)) 256 C w' ∧ OnlyC C w w' := by
  have hmm := @run_makeMap Try.prog
  have HF := Lib.hid (al_eqv (m ++ l))
  have HKI := Lib.hid (keyB_iff m l hl)
  have HKO := Lib.hid (key_ofB m l hl)
  have HKL := Lib.hid (key_isB m l hl)
  have HSAY := Lib.hid (fun b (hb : b < 256) W (h : OnlyC C w W) => say_calls l hl b hb a cap W (hN W h))
  have HSM := Lib.hid (fun b (hb : b < 256) => cls_small (m ++ l) b hb)
  have HMX := Lib.hid (MixB.start (F := alE (m ++ l)) hC)
  have hClt := hC.lt
  clear hC hN
  generalize hK : keyB m l = key at *
  generalize hE : alE m = E at *
  generalize hFF : alE (m ++ l) = F at *
  have HM0 := Lib.hid (World.ownsMap_made (H := Unit) w Try.prog 55 (plainElem Try.prog 3))
  have HO0 := Lib.hid (show OnlyC C w (w.alloc (.map #[] 0)) from (KpA.refl _ w).alloc _)
  have HMX0 := Lib.hid (show MixB E F 0 C (w.alloc (.map #[] 0)) from HMX.out.of_block (((Below.refl w.heap.size w).alloc (Nat.le_refl _) (.map #[] 0)).block C hClt))
  clear hK hE hFF HMX
  go_enter Try.func19, Try.ntmps19
  go_upto_region 2 with fail
  clear hmm
  generalize w.alloc (.map #[] 0) = w1 at *
  have HCB := Lib.hid hClt
  clear hClt
  generalize hBB : w.heap.size = B at *
  have HBW := Lib.hid (Nat.le_of_eq hBB)
  clear hBB
  go_upto_region 3 with fail
  go_loopw [14] (fun vi wr => ∃ k : Nat, k ≤ 256 ∧ vi = .int .i64 k ∧ MixB E F k C wr ∧ (∃ D, MapAt B k D wr ∧ MapR F key k D) ∧ OnlyC C w wr) (fun vi _ => 256 - (intOf vi).toNat)
  case atStart => exact ⟨0, Nat.zero_le _, rfl, HMX0.out, ⟨_, HM0.out, map_start⟩, HO0.out⟩
  case round =>
    clear HM0 HO0 HMX0
    obtain ⟨k, hk, rfl, hX, ⟨D, hM, hR⟩, hO⟩ := hrel
    by_cases hlt : k < 256
    · have hd : decide ((k : Int) < 256) = true := by rw [decide_eq_true_iff]; omega
      have hd2 : decide (k < 256) = true := by rw [decide_eq_true_iff]; omega
      have hii : (k : Int) < 256 := by omega
      have xi : IntKind.i64.wrap ((k : Int) + 1) = (k : Int) + 1 := IntWalk.i64_in _ (by omega)
      have x8 : IntKind.u8.wrap (k : Int) = (k : Int) := by rw [IntKind.wrap]; simp [IntKind.bits, IntKind.signed]; omega
      obtain ⟨ck, fk⟩ := hX.cell hlt
      have HO := Lib.hid hO
      have HX := Lib.hid hX
      have HM := Lib.hid hM
      have HR := Lib.hid hR
      have HNC := Lib.hid (show B ≠ C by have := HCB.out; omega)
      have hkey := HKO.out k hlt
      have HSK := Lib.hid (HSAY.out k hlt _ hO)
      have HSW := Lib.hid (HSM.out k hlt)
      have HHAS := Lib.hid (map_has HF.out hlt hR)
      generalize sayN l k l.length = sk at hkey HSK
      generalize numE E k = n0 at ck hkey
      have HKEY := Lib.hid hkey
      clear hX hM hR hO hkey
      go_wp2_with fail
      refine HSK.out.mono ?_
      rintro e w2 ⟨rfl, hb⟩
      replace HX := Lib.hid (HX.out.of_block (hb.block C HX.out.lt))
      replace HM := Lib.hid (HM.out.of_block (hb.block B HM.out.lt))
      replace HO := Lib.hid (HO.out.below hb)
      clear hb HSK ck fk
      have hS := Blk.new w2 #[.int .i64 (n0 : Int), .int .u64 (sk : Int)] 55
      have hb3 := (Below.refl w2.heap.size w2).alloc (Nat.le_refl _) (.cells #[.int .i64 (n0 : Int), .int .u64 (sk : Int)] 55)
      replace HX := Lib.hid (HX.out.of_block (hb3.block C HX.out.lt))
      replace HM := Lib.hid (HM.out.of_block (hb3.block B HM.out.lt))
      replace HO := Lib.hid (HO.out.below hb3)
      clear hb3
      go_upto_region 6 with fail
      generalize w2.alloc (.cells #[.int .i64 (n0 : Int), .int .u64 (sk : Int)] 55) = w3 at *
      have k0 := hS.cell 0
      have k1 := hS.cell 1
      simp only [List.getElem?_toArray, List.getElem?_cons_zero, List.getElem?_cons_succ] at k0 k1
      cases hr : isRep F k with
      | false =>
        obtain ⟨hat0, hR2⟩ := map_known HF.out HKI.out hlt HR.out hr
        have hhas : Maps.has D (key k) = true := by rw [HHAS.out, hr]; rfl
        have HAT := Lib.hid hat0
        have HR2 := Lib.hid hR2
        obtain ⟨ck, fk⟩ := HX.out.cell hlt
        have HX2 := Lib.hid HX.out.next
        have HM2 := Lib.hid (HM.out.set HNC.out k (.int .i64 ((numE F k : Nat) : Int)))
        have HO2 := Lib.hid (KpA.set HO.out (.inl rfl : C = C ∨ _) k (.int .i64 ((numE F k : Nat) : Int)))
        clear hat0 hR2 hr hS
        generalize numE F k = N at *
        go_wp2_with (at_lookup; refine wpList_lookup_own_ok_int _ rfl _ _ 52 rfl 55 3 .i64 lawKey Try.underlying52 Try.underlying3 (zeroInt _) B k D rfl HM.out _ _ rfl HKEY.out ?_; intro c hat hwc; obtain rfl : c = (N : Int) := by have h9 := hat.symm.trans HAT.out; simpa using h9)
        go_roundw
        case rel => exact ⟨k + 1, by omega, by simp, HX2.out, ⟨_, HM2.out.mono (Nat.le_succ k), HR2.out⟩, HO2.out⟩
        case measure => simp [intOf]; omega
      | true =>
        obtain ⟨hnm, hR2⟩ := map_new HF.out HKI.out hlt (World.ownsMap.tidy HM.out lawKey) (HKL.out k hlt) HR.out hr
        have hhas : Maps.has D (key k) = false := by rw [HHAS.out, hr]; rfl
        have hsz : Maps.size D = numE F k := by rw [HR.out.size, hnm]
        rw [← hnm] at hR2
        have HR2 := Lib.hid hR2
        have xw : (Lit.int .i64 ((numE F k : Nat) : Int)).wf = true := WalkArith.wf_i64 (by have := HSW.out; omega)
        have HXW := Lib.hid xw
        clear hR2 hr hS hnm xw
        generalize hNN : numE F k = N at *
        go_wp2_with (first
          | (at_lookup; refine wpList_lookup_own_ok_int _ rfl _ _ 52 rfl 55 3 .i64 lawKey Try.underlying52 Try.underlying3 (zeroInt _) B k D rfl HM.out _ _ rfl HKEY.out ?_; intro c hat hwc; skip)
          | (at_len; refine wpList_len_own _ rfl _ 52 rfl 55 3 Try.underlying52 _ B k D rfl HM.out ?_)
          | (at_mapUpdate; refine wpList_mapUpdate_own _ rfl _ _ _ 52 rfl 55 3 lawKey Try.underlying52 _ B k D rfl HM.out (by unfold maxLen; omega) _ _ (key k) rfl rfl HKEY.out (.lit (.int .i64 (N : Int))) [] (plainElem_int Try.underlying3 HXW.out) ?_; intro w4 hown4 hgrow4; have HM4 := Lib.hid hown4; have HX4 := Lib.hid (HX.out.of_block (hgrow4.block C HX.out.lt (fun e => HNC.out (Option.some.inj e).symm))); have HO4 := Lib.hid (KpA.grown HO.out hgrow4 (fun q hq => .inr (by cases hq; exact HBW.out))); clear hown4 hgrow4; obtain ⟨ck, fk⟩ := HX4.out.cell hlt))
        go_roundw
        case rel => exact ⟨k + 1, by omega, by simp, by have h9 := HX4.out.next; rw [hNN] at h9; exact h9, ⟨_, MapAt.set HM4.out HNC.out k _, HR2.out⟩, KpA.set HO4.out (.inl rfl : C = C ∨ _) k _⟩
        case measure => simp [intOf]; omega
    · obtain rfl : k = 256 := by omega
      have hsz : Maps.size D = manyE F 256 := hR.size
      have HM := Lib.hid hM
      have HX := Lib.hid hX.stop
      have HO := Lib.hid hO
      clear hM hX hO hR
      go_wp2_with (at_len; refine wpList_len_own _ rfl _ 52 rfl 55 3 Try.underlying52 _ B 256 D rfl HM.out ?_)
      go_ret
      exact ⟨rfl, HX.out, HO.out⟩
end Go.Proofs.Ytbfcancmljdjhaa

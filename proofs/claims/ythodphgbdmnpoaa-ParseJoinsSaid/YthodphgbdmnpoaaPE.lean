/- Texts put together: Ct Ci Cp Ra Rb Co Cn Cr Gp Gq. -/
import Derived.Test.YthodphgbdmnpoaaPD
import Derived.Test.YthodphgbdmnpoaaPB
import Derived.Laws.Rows
import Derived.Laws.Tables
import Derived.Laws.CopyOwn
import Derived.Deep.DeepCutAuto
import Derived.Lib.Hide
import Derived.Laws.ResultCell
import Derived.Deep.WholeRow
/- class.table: the twelve classes, by names. -/
namespace Go.Proofs.Ythodphgbdmnpoaa
open Go.RowKit Go.Shelf BS
attribute [local go_sem] Oper.semAt_some

def cDig : BitVec 256 := range 48 57
def cUpp : BitVec 256 := range 65 90
def cLow : BitVec 256 := range 97 122
def cAlp : BitVec 256 := cUpp ||| cLow
def cAln : BitVec 256 := cAlp ||| cDig
def cGra : BitVec 256 := range 33 126
def cBla : BitVec 256 := withL 0 [9, 32]
def cCnt : BitVec 256 := withL (range 0 31) [127]
def cPri : BitVec 256 := range 32 126
def cPun : BitVec 256 := cGra &&& ~~~cAln
def cSpa : BitVec 256 := withL (range 9 13) [32]
def cXdi : BitVec 256 := cDig ||| (range 65 70 ||| range 97 102)

/-- Names and classes, in their order. -/
def tabL : List (ByteArray × BitVec 256) := [(⟨#[97, 108, 110, 117, 109]⟩, cAln), (⟨#[97, 108, 112, 104, 97]⟩, cAlp), (⟨#[98, 108, 97, 110, 107]⟩, cBla), (⟨#[99, 110, 116, 114, 108]⟩, cCnt), (⟨#[100, 105, 103, 105, 116]⟩, cDig), (⟨#[103, 114, 97, 112, 104]⟩, cGra), (⟨#[108, 111, 119, 101, 114]⟩, cLow), (⟨#[112, 114, 105, 110, 116]⟩, cPri), (⟨#[112, 117, 110, 99, 116]⟩, cPun), (⟨#[115, 112, 97, 99, 101]⟩, cSpa), (⟨#[117, 112, 112, 101, 114]⟩, cUpp), (⟨#[120, 100, 105, 103, 105, 116]⟩, cXdi)]
def entV (e : ByteArray × BitVec 256) : List Value := [.string e.1, .int .u64 (wd e.2 0), .int .u64 (wd e.2 1), .int .u64 (wd e.2 2), .int .u64 (wd e.2 3)]
def tabV : Array Value := (tabL.flatMap entV).toArray

theorem with_calls' (s : BitVec 256) (a : Option Addr) (len cap : Nat) (l : List (Fin 256)) (hreach : l.length ≤ 9223372036854775807) (w : World) (hI : BytesAt w.heap.size w (.slice a len cap) l) :
    Calls Try.prog 79 #[setV s, .slice a len cap] w fun e W' => e = .returned (setV (withL s l)) ∧ Below w.heap.size w W' :=
  callsIn_wide.1 (with_in 3 (by omega) s _ a len cap rfl l hreach w hI)
theorem BytesAt.le {n n' : Nat} {W : World} {v : Value} {l : List (Fin 256)} (h : BytesAt n W v l) (hn : n ≤ n') : BytesAt n' W v l := by
  obtain ⟨a, cap, e, h⟩ := h
  refine ⟨a, cap, e, fun hne => ?_⟩
  obtain ⟨b, off, e, hlt, hc⟩ := h hne
  exact ⟨b, off, e, by omega, hc⟩
theorem BytesAt.step {W W' : World} {v : Value} {l : List (Fin 256)} (h : BytesAt W.heap.size W v l) (hb : Below W.heap.size W W') : BytesAt W'.heap.size W' v l := (h.keep hb).le hb.size
def byW (l : List (Fin 256)) : Array Value := (l.map fun (x : Fin 256) => Value.int .u8 (x.val : Int)).toArray
/-- A new block of bytes. -/
theorem bytes_new (W : World) (t : TypeId) (l : List (Fin 256)) : BytesAt (W.alloc (.cells (byW l) t)).heap.size (W.alloc (.cells (byW l) t)) (.slice (some ⟨W.heap.size, 0, none⟩) l.length l.length) l := by
  refine ⟨_, l.length, rfl, fun _ => ⟨W.heap.size, 0, rfl, by simp, fun j hj => ?_⟩⟩
  rw [Nat.zero_add, (Blk.new W _ t).cell j]
  simp [byW, hj]

theorem Deps.get {md : Region.Mode} {ops : Array Oper} {V : Nat → Value → World → Prop} {o oj : Oper} {a : Act} {w : World} {k d : Nat} (h : Deps md ops V o a w) (hk : (o.after.any fun e => Region.binds md e && e.on == k) = true) (hj : ops[k]? = some oj) (hd : oj.dst = some d) : V k (a.tmps.getD d undef) w := by
  simp only [Array.any_eq_true', Bool.and_eq_true, beq_iff_eq] at hk
  obtain ⟨e, he, hb, rfl⟩ := hk
  exact h e he hb oj d hj hd
theorem rangeC (x y : Nat) (w : World) (hx : x < 256) (hy : y < 256) : Calls Try.prog 96 #[.int .u8 x, .int .u8 y] w fun e w' => e = .returned (setV (range x y)) ∧ Below w.heap.size w w' := by
  have h := range_calls x y w (by omega) (by omega) (by omega) (by omega)
  rw [Int.toNat_natCast, Int.toNat_natCast] at h; exact h
def UT : Nat → List Value → Value → Prop
  | 0, _, v => v = setV cAln
  | 1, _, v => v = .agg #[.string ⟨#[97, 108, 110, 117, 109]⟩, .int .u64 (wd cAln 0), .int .u64 (wd cAln 1), .int .u64 (wd cAln 2), .int .u64 (wd cAln 3)]
  | 2, _, v => v = setV cAlp
  | 3, _, v => v = .agg #[.string ⟨#[97, 108, 112, 104, 97]⟩, .int .u64 (wd cAlp 0), .int .u64 (wd cAlp 1), .int .u64 (wd cAlp 2), .int .u64 (wd cAlp 3)]
  | 4, _, v => v = setV 0
  | 5, _, v => ∃ a, v = .slice a 2 2
  | 6, _, v => v = setV cBla
  | 7, _, v => v = .agg #[.string ⟨#[98, 108, 97, 110, 107]⟩, .int .u64 (wd cBla 0), .int .u64 (wd cBla 1), .int .u64 (wd cBla 2), .int .u64 (wd cBla 3)]
  | 8, _, v => v = setV (range 0 31)
  | 9, _, v => ∃ a, v = .slice a 1 1
  | 10, _, v => v = setV cCnt
  | 11, _, v => v = .agg #[.string ⟨#[99, 110, 116, 114, 108]⟩, .int .u64 (wd cCnt 0), .int .u64 (wd cCnt 1), .int .u64 (wd cCnt 2), .int .u64 (wd cCnt 3)]
  | 12, _, v => v = setV cDig
  | 13, _, v => v = .agg #[.string ⟨#[100, 105, 103, 105, 116]⟩, .int .u64 (wd cDig 0), .int .u64 (wd cDig 1), .int .u64 (wd cDig 2), .int .u64 (wd cDig 3)]
  | 14, _, v => v = setV cGra
  | 15, _, v => v = .agg #[.string ⟨#[103, 114, 97, 112, 104]⟩, .int .u64 (wd cGra 0), .int .u64 (wd cGra 1), .int .u64 (wd cGra 2), .int .u64 (wd cGra 3)]
  | 16, _, v => v = setV cLow
  | 17, _, v => v = .agg #[.string ⟨#[108, 111, 119, 101, 114]⟩, .int .u64 (wd cLow 0), .int .u64 (wd cLow 1), .int .u64 (wd cLow 2), .int .u64 (wd cLow 3)]
  | 18, _, v => v = setV cPri
  | 19, _, v => v = .agg #[.string ⟨#[112, 114, 105, 110, 116]⟩, .int .u64 (wd cPri 0), .int .u64 (wd cPri 1), .int .u64 (wd cPri 2), .int .u64 (wd cPri 3)]
  | 20, _, v => v = setV cGra
  | 21, _, v => v = setV cAln
  | 22, _, v => v = setV cPun
  | 23, _, v => v = .agg #[.string ⟨#[112, 117, 110, 99, 116]⟩, .int .u64 (wd cPun 0), .int .u64 (wd cPun 1), .int .u64 (wd cPun 2), .int .u64 (wd cPun 3)]
  | 24, _, v => v = setV (range 9 13)
  | 25, _, v => ∃ a, v = .slice a 1 1
  | 26, _, v => v = setV cSpa
  | 27, _, v => v = .agg #[.string ⟨#[115, 112, 97, 99, 101]⟩, .int .u64 (wd cSpa 0), .int .u64 (wd cSpa 1), .int .u64 (wd cSpa 2), .int .u64 (wd cSpa 3)]
  | 28, _, v => v = setV cUpp
  | 29, _, v => v = .agg #[.string ⟨#[117, 112, 112, 101, 114]⟩, .int .u64 (wd cUpp 0), .int .u64 (wd cUpp 1), .int .u64 (wd cUpp 2), .int .u64 (wd cUpp 3)]
  | 30, _, v => v = setV cDig
  | 31, _, v => v = setV (range 65 70)
  | 32, _, v => v = setV (range 97 102)
  | 33, _, v => v = setV (range 65 70 ||| range 97 102)
  | 34, _, v => v = setV cXdi
  | 35, _, v => v = .agg #[.string ⟨#[120, 100, 105, 103, 105, 116]⟩, .int .u64 (wd cXdi 0), .int .u64 (wd cXdi 1), .int .u64 (wd cXdi 2), .int .u64 (wd cXdi 3)]
  | 36, _, v => v = .agg tabV
  | _, _, _ => True
def VT : Nat → Value → World → Prop
  | 5, v, w => BytesAt w.heap.size w v [9, 32]
  | 9, v, w => BytesAt w.heap.size w v [127]
  | 25, v, w => BytesAt w.heap.size w v [32]
  | _, _, _ => True
theorem keepVT : ∀ i v w w', Below w.heap.size w w' → VT i v w → VT i v w' := by
  intro i v w w' hb h
  unfold VT at *
  split <;> first | exact BytesAt.step h hb | trivial

theorem tabV_one : (tabV.all fun x => x.oneCell') = true := by simp [tabV, tabL, entV, Value.oneCell']
theorem setA_withL (l : List (Fin 256)) : withL 0 l = withL 0 l := rfl
theorem empty_set : (Value.agg #[.int .u64 0, .int .u64 0, .int .u64 0, .int .u64 0]) = setV 0 := rfl
theorem zero_blk (W : World) : (W.alloc (.cells (Array.replicate 4 (Value.int .u64 0)) 30)) = W.alloc (.cells (setA 0) 30) := rfl

theorem dig_c (w : World) : Calls Try.prog 96 #[.int .u8 48, .int .u8 57] w fun e w' => e = .returned (setV cDig) ∧ Below w.heap.size w w' := rangeC 48 57 w (by decide) (by decide)
theorem upp_c (w : World) : Calls Try.prog 96 #[.int .u8 65, .int .u8 90] w fun e w' => e = .returned (setV cUpp) ∧ Below w.heap.size w w' := rangeC 65 90 w (by decide) (by decide)
theorem low_c (w : World) : Calls Try.prog 96 #[.int .u8 97, .int .u8 122] w fun e w' => e = .returned (setV cLow) ∧ Below w.heap.size w w' := rangeC 97 122 w (by decide) (by decide)
theorem alp_c (w : World) : Calls Try.prog 90 #[setV cUpp, setV cLow] w fun e w' => e = .returned (setV cAlp) ∧ Below w.heap.size w w' := or_calls cUpp cLow w
theorem aln_c (w : World) : Calls Try.prog 90 #[setV cAlp, setV cDig] w fun e w' => e = .returned (setV cAln) ∧ Below w.heap.size w w' := or_calls cAlp cDig w
theorem gra_c (w : World) : Calls Try.prog 96 #[.int .u8 33, .int .u8 126] w fun e w' => e = .returned (setV cGra) ∧ Below w.heap.size w w' := rangeC 33 126 w (by decide) (by decide)
theorem pri_c (w : World) : Calls Try.prog 96 #[.int .u8 32, .int .u8 126] w fun e w' => e = .returned (setV cPri) ∧ Below w.heap.size w w' := rangeC 32 126 w (by decide) (by decide)
theorem r31_c (w : World) : Calls Try.prog 96 #[.int .u8 0, .int .u8 31] w fun e w' => e = .returned (setV (range 0 31)) ∧ Below w.heap.size w w' := rangeC 0 31 w (by decide) (by decide)
theorem r13_c (w : World) : Calls Try.prog 96 #[.int .u8 9, .int .u8 13] w fun e w' => e = .returned (setV (range 9 13)) ∧ Below w.heap.size w w' := rangeC 9 13 w (by decide) (by decide)
theorem r65_c (w : World) : Calls Try.prog 96 #[.int .u8 65, .int .u8 70] w fun e w' => e = .returned (setV (range 65 70)) ∧ Below w.heap.size w w' := rangeC 65 70 w (by decide) (by decide)
theorem r97_c (w : World) : Calls Try.prog 96 #[.int .u8 97, .int .u8 102] w fun e w' => e = .returned (setV (range 97 102)) ∧ Below w.heap.size w w' := rangeC 97 102 w (by decide) (by decide)
theorem pun_c (w : World) : Calls Try.prog 101 #[setV cGra, setV cAln] w fun e w' => e = .returned (setV cPun) ∧ Below w.heap.size w w' := less_calls cGra cAln w
theorem xd1_c (w : World) : Calls Try.prog 90 #[setV (range 65 70), setV (range 97 102)] w fun e w' => e = .returned (setV (range 65 70 ||| range 97 102)) ∧ Below w.heap.size w w' := or_calls _ _ w
theorem xdi_c (w : World) : Calls Try.prog 90 #[setV cDig, setV (range 65 70 ||| range 97 102)] w fun e w' => e = .returned (setV cXdi) ∧ Below w.heap.size w w' := or_calls cDig (range 65 70 ||| range 97 102) w
def tab0 : Array Value := #[.string ⟨#[]⟩, .int .u64 0, .int .u64 0, .int .u64 0, .int .u64 0, .string ⟨#[]⟩, .int .u64 0, .int .u64 0, .int .u64 0, .int .u64 0, .string ⟨#[]⟩, .int .u64 0, .int .u64 0, .int .u64 0, .int .u64 0, .string ⟨#[]⟩, .int .u64 0, .int .u64 0, .int .u64 0, .int .u64 0, .string ⟨#[]⟩, .int .u64 0, .int .u64 0, .int .u64 0, .int .u64 0, .string ⟨#[]⟩, .int .u64 0, .int .u64 0, .int .u64 0, .int .u64 0, .string ⟨#[]⟩, .int .u64 0, .int .u64 0, .int .u64 0, .int .u64 0, .string ⟨#[]⟩, .int .u64 0, .int .u64 0, .int .u64 0, .int .u64 0, .string ⟨#[]⟩, .int .u64 0, .int .u64 0, .int .u64 0, .int .u64 0, .string ⟨#[]⟩, .int .u64 0, .int .u64 0, .int .u64 0, .int .u64 0, .string ⟨#[]⟩, .int .u64 0, .int .u64 0, .int .u64 0, .int .u64 0, .string ⟨#[]⟩, .int .u64 0, .int .u64 0, .int .u64 0, .int .u64 0]

set_option maxRecDepth 100000 in
set_option maxHeartbeats 4000000 in
theorem table_calls (w : World) : Calls Try.prog 97 #[] w fun e w' => e = .returned (.agg tabV) ∧ Below w.heap.size w w' := by
  go_enter Try.func97, Try.ntmps97
  go_wp2_with fail
  have b0 := Blk.new w tab0 133
  have hB0 : Below w.heap.size w (w.alloc (.cells tab0 133)) := by go_grown
  have hz0 : (w.alloc (.cells tab0 133)).heap.size ≤ w.heap.size + 1 ∧ w.heap.size + 1 ≤ (w.alloc (.cells tab0 133)).heap.size := by simp
  have BR := Lib.hid b0
  have HB := Lib.hid hB0
  clear b0 hB0
  show Calls _ _ _ (w.alloc (.cells tab0 133)) _
  generalize w.alloc (.cells tab0 133) = w0 at *
  refine (dig_c _).mono ?_
  rintro e v1 ⟨rfl, hb⟩
  have hz := hb.size
  have BR' := Lib.hid ((BR.out.below hb (by omega)).alloc (.cells (setA cDig) 30))
  have HB' := Lib.hid ((HB.out.trans (hb.mono (by omega))).alloc (by omega) (.cells (setA cDig) 30))
  have B1 := Lib.hid (Blk.new v1 (setA cDig) 30)
  clear BR HB hb
  have hz1 : (v1.alloc (.cells (setA cDig) 30)).heap.size ≤ v1.heap.size + 1 ∧ v1.heap.size + 1 ≤ (v1.alloc (.cells (setA cDig) 30)).heap.size := by simp
  have BR := BR'
  have HB := HB'
  clear BR' HB'
  go_wp2_with fail
  have e0 : (v1.alloc (.cells #[.int .u64 (wd cDig 0), .int .u64 (wd cDig 1), .int .u64 (wd cDig 2), .int .u64 (wd cDig 3)] 30)) = v1.alloc (.cells (setA cDig) 30) := rfl
  rw [e0]
  clear e0
  generalize v1.alloc (.cells (setA cDig) 30) = w1 at *
  refine (upp_c _).mono ?_
  rintro e v2 ⟨rfl, hb⟩
  have hz := hb.size
  have BR' := Lib.hid ((BR.out.below hb (by omega)).alloc (.cells (setA cUpp) 30))
  have HB' := Lib.hid ((HB.out.trans (hb.mono (by omega))).alloc (by omega) (.cells (setA cUpp) 30))
  have B1' := Lib.hid ((B1.out.below hb (by omega)).alloc (.cells (setA cUpp) 30))
  have B2 := Lib.hid (Blk.new v2 (setA cUpp) 30)
  clear BR HB hb B1
  have hz2 : (v2.alloc (.cells (setA cUpp) 30)).heap.size ≤ v2.heap.size + 1 ∧ v2.heap.size + 1 ≤ (v2.alloc (.cells (setA cUpp) 30)).heap.size := by simp
  have BR := BR'
  have HB := HB'
  clear BR' HB'
  have B1 := B1'
  clear B1'
  go_wp2_with fail
  have e0 : (v2.alloc (.cells #[.int .u64 (wd cUpp 0), .int .u64 (wd cUpp 1), .int .u64 (wd cUpp 2), .int .u64 (wd cUpp 3)] 30)) = v2.alloc (.cells (setA cUpp) 30) := rfl
  rw [e0]
  clear e0
  generalize v2.alloc (.cells (setA cUpp) 30) = w2 at *
  refine (low_c _).mono ?_
  rintro e v3 ⟨rfl, hb⟩
  have hz := hb.size
  have BR' := Lib.hid ((BR.out.below hb (by omega)).alloc (.cells (setA cLow) 30))
  have HB' := Lib.hid ((HB.out.trans (hb.mono (by omega))).alloc (by omega) (.cells (setA cLow) 30))
  have B1' := Lib.hid ((B1.out.below hb (by omega)).alloc (.cells (setA cLow) 30))
  have B2' := Lib.hid ((B2.out.below hb (by omega)).alloc (.cells (setA cLow) 30))
  have B3 := Lib.hid (Blk.new v3 (setA cLow) 30)
  clear BR HB hb B1 B2
  have hz3 : (v3.alloc (.cells (setA cLow) 30)).heap.size ≤ v3.heap.size + 1 ∧ v3.heap.size + 1 ≤ (v3.alloc (.cells (setA cLow) 30)).heap.size := by simp
  have BR := BR'
  have HB := HB'
  clear BR' HB'
  have B1 := B1'
  clear B1'
  have B2 := B2'
  clear B2'
  obtain ⟨⟨c0, c1, c2, c3⟩, _⟩ := B2.out.cells4
  obtain ⟨⟨d0, d1, d2, d3⟩, _⟩ := B3.out.cells4
  go_wp2_with fail
  have e0 : (v3.alloc (.cells #[.int .u64 (wd cLow 0), .int .u64 (wd cLow 1), .int .u64 (wd cLow 2), .int .u64 (wd cLow 3)] 30)) = v3.alloc (.cells (setA cLow) 30) := rfl
  rw [e0]
  clear e0
  generalize v3.alloc (.cells (setA cLow) 30) = w3 at *
  refine (alp_c _).mono ?_
  rintro e v4 ⟨rfl, hb⟩
  have hz := hb.size
  have BR' := Lib.hid ((BR.out.below hb (by omega)).alloc (.cells (setA cAlp) 30))
  have HB' := Lib.hid ((HB.out.trans (hb.mono (by omega))).alloc (by omega) (.cells (setA cAlp) 30))
  have B1' := Lib.hid ((B1.out.below hb (by omega)).alloc (.cells (setA cAlp) 30))
  have B2' := Lib.hid ((B2.out.below hb (by omega)).alloc (.cells (setA cAlp) 30))
  have B3' := Lib.hid ((B3.out.below hb (by omega)).alloc (.cells (setA cAlp) 30))
  have B4 := Lib.hid (Blk.new v4 (setA cAlp) 30)
  clear BR HB hb B1 B2 B3
  have hz4 : (v4.alloc (.cells (setA cAlp) 30)).heap.size ≤ v4.heap.size + 1 ∧ v4.heap.size + 1 ≤ (v4.alloc (.cells (setA cAlp) 30)).heap.size := by simp
  have BR := BR'
  have HB := HB'
  clear BR' HB'
  have B1 := B1'
  clear B1'
  have B2 := B2'
  clear B2'
  have B3 := B3'
  clear B3'
  clear c0 c1 c2 c3 d0 d1 d2 d3
  obtain ⟨⟨c0, c1, c2, c3⟩, _⟩ := B4.out.cells4
  obtain ⟨⟨d0, d1, d2, d3⟩, _⟩ := B1.out.cells4
  go_wp2_with fail
  have e0 : (v4.alloc (.cells #[.int .u64 (wd cAlp 0), .int .u64 (wd cAlp 1), .int .u64 (wd cAlp 2), .int .u64 (wd cAlp 3)] 30)) = v4.alloc (.cells (setA cAlp) 30) := rfl
  rw [e0]
  clear e0
  generalize v4.alloc (.cells (setA cAlp) 30) = w4 at *
  refine (aln_c _).mono ?_
  rintro e v5 ⟨rfl, hb⟩
  have hz := hb.size
  have BR' := Lib.hid ((BR.out.below hb (by omega)).alloc (.cells (setA cAln) 30))
  have HB' := Lib.hid ((HB.out.trans (hb.mono (by omega))).alloc (by omega) (.cells (setA cAln) 30))
  have B1' := Lib.hid ((B1.out.below hb (by omega)).alloc (.cells (setA cAln) 30))
  have B2' := Lib.hid ((B2.out.below hb (by omega)).alloc (.cells (setA cAln) 30))
  have B3' := Lib.hid ((B3.out.below hb (by omega)).alloc (.cells (setA cAln) 30))
  have B4' := Lib.hid ((B4.out.below hb (by omega)).alloc (.cells (setA cAln) 30))
  have B5 := Lib.hid (Blk.new v5 (setA cAln) 30)
  clear BR HB hb B1 B2 B3 B4
  have hz5 : (v5.alloc (.cells (setA cAln) 30)).heap.size ≤ v5.heap.size + 1 ∧ v5.heap.size + 1 ≤ (v5.alloc (.cells (setA cAln) 30)).heap.size := by simp
  have BR := BR'
  have HB := HB'
  clear BR' HB'
  have B1 := B1'
  clear B1'
  have B2 := B2'
  clear B2'
  have B3 := B3'
  clear B3'
  have B4 := B4'
  clear B4'
  clear c0 c1 c2 c3 d0 d1 d2 d3
  go_wp2_with fail
  have e0 : (v5.alloc (.cells #[.int .u64 (wd cAln 0), .int .u64 (wd cAln 1), .int .u64 (wd cAln 2), .int .u64 (wd cAln 3)] 30)) = v5.alloc (.cells (setA cAln) 30) := rfl
  rw [e0]
  clear e0
  generalize v5.alloc (.cells (setA cAln) 30) = w5 at *
  refine (gra_c _).mono ?_
  rintro e v6 ⟨rfl, hb⟩
  have hz := hb.size
  have BR' := Lib.hid ((BR.out.below hb (by omega)).alloc (.cells (setA cGra) 30))
  have HB' := Lib.hid ((HB.out.trans (hb.mono (by omega))).alloc (by omega) (.cells (setA cGra) 30))
  have B1' := Lib.hid ((B1.out.below hb (by omega)).alloc (.cells (setA cGra) 30))
  have B2' := Lib.hid ((B2.out.below hb (by omega)).alloc (.cells (setA cGra) 30))
  have B3' := Lib.hid ((B3.out.below hb (by omega)).alloc (.cells (setA cGra) 30))
  have B4' := Lib.hid ((B4.out.below hb (by omega)).alloc (.cells (setA cGra) 30))
  have B5' := Lib.hid ((B5.out.below hb (by omega)).alloc (.cells (setA cGra) 30))
  have B6 := Lib.hid (Blk.new v6 (setA cGra) 30)
  clear BR HB hb B1 B2 B3 B4 B5
  have hz6 : (v6.alloc (.cells (setA cGra) 30)).heap.size ≤ v6.heap.size + 1 ∧ v6.heap.size + 1 ≤ (v6.alloc (.cells (setA cGra) 30)).heap.size := by simp
  have BR := BR'
  have HB := HB'
  clear BR' HB'
  have B1 := B1'
  clear B1'
  have B2 := B2'
  clear B2'
  have B3 := B3'
  clear B3'
  have B4 := B4'
  clear B4'
  have B5 := B5'
  clear B5'
  go_wp2_with fail
  have e0 : (v6.alloc (.cells #[.int .u64 (wd cGra 0), .int .u64 (wd cGra 1), .int .u64 (wd cGra 2), .int .u64 (wd cGra 3)] 30)) = v6.alloc (.cells (setA cGra) 30) := rfl
  rw [e0]
  clear e0
  generalize v6.alloc (.cells (setA cGra) 30) = w6 at *
  have hS0 : Below w6.heap.size w6 w6.drew := (Below.refl _ _).drew
  refine region_stepsRM (S := fun W => Below w6.heap.size w6 W) (U := UT) (V := VT) (m := 37) rfl (by kernel_rfl) (fun _ _ hb hs => hs.trans (hb.mono hs.size)) keepVT (by kernel_rfl) hS0 ?_
  clear hS0
  simp only [List.size_toArray, List.length_cons, List.length_nil, Nat.reduceAdd, Array.replicate_succ, Array.replicate_zero, List.push_toArray, List.nil_append, List.cons_append]
  refine AnyRM.step (i := 0) (d := some 17) rfl rfl (by kernel_rfl) (by kernel_rfl) (by kernel_rfl) (by kernel_rfl) (by kernel_rfl) ?_ ?_ ?_
  · exact ⟨_, rfl⟩
  · refine StepsR.yield (setV cAln) rfl (by kernel_rfl) (fun w' hS hD => ⟨?_, trivial⟩)
    obtain ⟨⟨c0, c1, c2, c3⟩, _⟩ := (B5.out.below hS (Blk.lt B5.out)).cells4; clear hS hD; go_simp
    try rfl
  intro v' hv' a' ha'
  have hv' : setV cAln = v' := Eq.symm hv'
  subst hv'
  simp only [Act.put, List.setIfInBounds_toArray, List.set_cons_zero, List.set_cons_succ] at ha'
  subst ha'
  refine AnyRM.step (i := 1) (d := some 18) rfl rfl (by kernel_rfl) (by kernel_rfl) (by kernel_rfl) (by kernel_rfl) (by kernel_rfl) ?_ ?_ ?_
  · exact ⟨_, rfl⟩
  · refine StepsR.yield (.agg #[.string ⟨#[97, 108, 110, 117, 109]⟩, .int .u64 (wd cAln 0), .int .u64 (wd cAln 1), .int .u64 (wd cAln 2), .int .u64 (wd cAln 3)]) rfl (by kernel_rfl) (fun w' hS hD => ⟨?_, trivial⟩)
    clear hS hD; go_simp
    try rfl
  intro v' hv' a' ha'
  have hv' : .agg #[.string ⟨#[97, 108, 110, 117, 109]⟩, .int .u64 (wd cAln 0), .int .u64 (wd cAln 1), .int .u64 (wd cAln 2), .int .u64 (wd cAln 3)] = v' := Eq.symm hv'
  subst hv'
  simp only [Act.put, List.setIfInBounds_toArray, List.set_cons_zero, List.set_cons_succ] at ha'
  subst ha'
  refine AnyRM.step (i := 2) (d := some 19) rfl rfl (by kernel_rfl) (by kernel_rfl) (by kernel_rfl) (by kernel_rfl) (by kernel_rfl) ?_ ?_ ?_
  · exact ⟨_, rfl⟩
  · refine StepsR.yield (setV cAlp) rfl (by kernel_rfl) (fun w' hS hD => ⟨?_, trivial⟩)
    obtain ⟨⟨c0, c1, c2, c3⟩, _⟩ := (B4.out.below hS (Blk.lt B4.out)).cells4; clear hS hD; go_simp
    try rfl
  intro v' hv' a' ha'
  have hv' : setV cAlp = v' := Eq.symm hv'
  subst hv'
  simp only [Act.put, List.setIfInBounds_toArray, List.set_cons_zero, List.set_cons_succ] at ha'
  subst ha'
  refine AnyRM.step (i := 3) (d := some 20) rfl rfl (by kernel_rfl) (by kernel_rfl) (by kernel_rfl) (by kernel_rfl) (by kernel_rfl) ?_ ?_ ?_
  · exact ⟨_, rfl⟩
  · refine StepsR.yield (.agg #[.string ⟨#[97, 108, 112, 104, 97]⟩, .int .u64 (wd cAlp 0), .int .u64 (wd cAlp 1), .int .u64 (wd cAlp 2), .int .u64 (wd cAlp 3)]) rfl (by kernel_rfl) (fun w' hS hD => ⟨?_, trivial⟩)
    clear hS hD; go_simp
    try rfl
  intro v' hv' a' ha'
  have hv' : .agg #[.string ⟨#[97, 108, 112, 104, 97]⟩, .int .u64 (wd cAlp 0), .int .u64 (wd cAlp 1), .int .u64 (wd cAlp 2), .int .u64 (wd cAlp 3)] = v' := Eq.symm hv'
  subst hv'
  simp only [Act.put, List.setIfInBounds_toArray, List.set_cons_zero, List.set_cons_succ] at ha'
  subst ha'
  refine AnyRM.step (i := 4) (d := some 21) rfl rfl (by kernel_rfl) (by kernel_rfl) (by kernel_rfl) (by kernel_rfl) (by kernel_rfl) ?_ ?_ ?_
  · exact ⟨_, rfl⟩
  · refine StepsR.yield (setV 0) rfl (by kernel_rfl) (fun w' hS hD => ⟨?_, trivial⟩)
    clear hS hD; go_simp
    exact ⟨rfl, rfl, rfl, rfl⟩
  intro v' hv' a' ha'
  have hv' : setV 0 = v' := Eq.symm hv'
  subst hv'
  simp only [Act.put, List.setIfInBounds_toArray, List.set_cons_zero, List.set_cons_succ] at ha'
  subst ha'
  refine AnyRM.step (i := 5) (d := some 22) rfl rfl (by kernel_rfl) (by kernel_rfl) (by kernel_rfl) (by kernel_rfl) (by kernel_rfl) ?_ ?_ ?_
  · exact ⟨_, none, rfl⟩
  · refine StepsR.made (by kernel_rfl) (fun w' hS hD => ?_)
    clear hS hD
    refine ⟨.slice (some ⟨w'.heap.size, 0, none⟩) 2 2, w'.alloc (.cells (byW [9, 32]) 5), ?_, ⟨_, rfl⟩, bytes_new w' _ [9, 32], by go_grown⟩
    go_simp
    try rfl
  rintro v' ⟨a5, rfl⟩ a' ha'
  simp only [Act.put, List.setIfInBounds_toArray, List.set_cons_zero, List.set_cons_succ] at ha'
  subst ha'
  refine AnyRM.step (i := 6) (d := some 23) rfl rfl (by kernel_rfl) (by kernel_rfl) (by kernel_rfl) (by kernel_rfl) (by kernel_rfl) ?_ ?_ ?_
  · exact ⟨_, rfl⟩
  · refine StepsR.call (by kernel_rfl) (fun w' hS => by clear hS; go_simp) (fun w' hS hD => (with_calls' 0 a5 2 2 [9, 32] (by decide) w' (hD.get (k := 5) (by kernel_rfl) rfl rfl)).mono ?_)
    rintro e w'' ⟨rfl, hb⟩
    exact ⟨_, rfl, rfl, trivial, hb⟩
  intro v' hv' a' ha'
  have hv' : setV cBla = v' := Eq.symm hv'
  subst hv'
  simp only [Act.put, List.setIfInBounds_toArray, List.set_cons_zero, List.set_cons_succ] at ha'
  subst ha'
  refine AnyRM.step (i := 7) (d := some 24) rfl rfl (by kernel_rfl) (by kernel_rfl) (by kernel_rfl) (by kernel_rfl) (by kernel_rfl) ?_ ?_ ?_
  · exact ⟨_, rfl⟩
  · refine StepsR.yield (.agg #[.string ⟨#[98, 108, 97, 110, 107]⟩, .int .u64 (wd cBla 0), .int .u64 (wd cBla 1), .int .u64 (wd cBla 2), .int .u64 (wd cBla 3)]) rfl (by kernel_rfl) (fun w' hS hD => ⟨?_, trivial⟩)
    clear hS hD; go_simp
    try rfl
  intro v' hv' a' ha'
  have hv' : .agg #[.string ⟨#[98, 108, 97, 110, 107]⟩, .int .u64 (wd cBla 0), .int .u64 (wd cBla 1), .int .u64 (wd cBla 2), .int .u64 (wd cBla 3)] = v' := Eq.symm hv'
  subst hv'
  simp only [Act.put, List.setIfInBounds_toArray, List.set_cons_zero, List.set_cons_succ] at ha'
  subst ha'
  refine AnyRM.step (i := 8) (d := some 25) rfl rfl (by kernel_rfl) (by kernel_rfl) (by kernel_rfl) (by kernel_rfl) (by kernel_rfl) ?_ ?_ ?_
  · exact ⟨_, rfl⟩
  · refine StepsR.call (by kernel_rfl) (fun w' hS => by clear hS; go_simp) (fun w' hS hD => (r31_c w').mono ?_)
    rintro e w'' ⟨rfl, hb⟩
    exact ⟨_, rfl, rfl, trivial, hb⟩
  intro v' hv' a' ha'
  have hv' : setV (range 0 31) = v' := Eq.symm hv'
  subst hv'
  simp only [Act.put, List.setIfInBounds_toArray, List.set_cons_zero, List.set_cons_succ] at ha'
  subst ha'
  refine AnyRM.step (i := 9) (d := some 26) rfl rfl (by kernel_rfl) (by kernel_rfl) (by kernel_rfl) (by kernel_rfl) (by kernel_rfl) ?_ ?_ ?_
  · exact ⟨_, none, rfl⟩
  · refine StepsR.made (by kernel_rfl) (fun w' hS hD => ?_)
    clear hS hD
    refine ⟨.slice (some ⟨w'.heap.size, 0, none⟩) 1 1, w'.alloc (.cells (byW [127]) 5), ?_, ⟨_, rfl⟩, bytes_new w' _ [127], by go_grown⟩
    go_simp
    try rfl
  rintro v' ⟨a9, rfl⟩ a' ha'
  simp only [Act.put, List.setIfInBounds_toArray, List.set_cons_zero, List.set_cons_succ] at ha'
  subst ha'
  refine AnyRM.step (i := 10) (d := some 27) rfl rfl (by kernel_rfl) (by kernel_rfl) (by kernel_rfl) (by kernel_rfl) (by kernel_rfl) ?_ ?_ ?_
  · exact ⟨_, rfl⟩
  · refine StepsR.call (by kernel_rfl) (fun w' hS => by clear hS; go_simp) (fun w' hS hD => (with_calls' (range 0 31) a9 1 1 [127] (by decide) w' (hD.get (k := 9) (by kernel_rfl) rfl rfl)).mono ?_)
    rintro e w'' ⟨rfl, hb⟩
    exact ⟨_, rfl, rfl, trivial, hb⟩
  intro v' hv' a' ha'
  have hv' : setV cCnt = v' := Eq.symm hv'
  subst hv'
  simp only [Act.put, List.setIfInBounds_toArray, List.set_cons_zero, List.set_cons_succ] at ha'
  subst ha'
  refine AnyRM.step (i := 11) (d := some 28) rfl rfl (by kernel_rfl) (by kernel_rfl) (by kernel_rfl) (by kernel_rfl) (by kernel_rfl) ?_ ?_ ?_
  · exact ⟨_, rfl⟩
  · refine StepsR.yield (.agg #[.string ⟨#[99, 110, 116, 114, 108]⟩, .int .u64 (wd cCnt 0), .int .u64 (wd cCnt 1), .int .u64 (wd cCnt 2), .int .u64 (wd cCnt 3)]) rfl (by kernel_rfl) (fun w' hS hD => ⟨?_, trivial⟩)
    clear hS hD; go_simp
    try rfl
  intro v' hv' a' ha'
  have hv' : .agg #[.string ⟨#[99, 110, 116, 114, 108]⟩, .int .u64 (wd cCnt 0), .int .u64 (wd cCnt 1), .int .u64 (wd cCnt 2), .int .u64 (wd cCnt 3)] = v' := Eq.symm hv'
  subst hv'
  simp only [Act.put, List.setIfInBounds_toArray, List.set_cons_zero, List.set_cons_succ] at ha'
  subst ha'
  refine AnyRM.step (i := 12) (d := some 29) rfl rfl (by kernel_rfl) (by kernel_rfl) (by kernel_rfl) (by kernel_rfl) (by kernel_rfl) ?_ ?_ ?_
  · exact ⟨_, rfl⟩
  · refine StepsR.yield (setV cDig) rfl (by kernel_rfl) (fun w' hS hD => ⟨?_, trivial⟩)
    obtain ⟨⟨c0, c1, c2, c3⟩, _⟩ := (B1.out.below hS (Blk.lt B1.out)).cells4; clear hS hD; go_simp
    try rfl
  intro v' hv' a' ha'
  have hv' : setV cDig = v' := Eq.symm hv'
  subst hv'
  simp only [Act.put, List.setIfInBounds_toArray, List.set_cons_zero, List.set_cons_succ] at ha'
  subst ha'
  refine AnyRM.step (i := 13) (d := some 30) rfl rfl (by kernel_rfl) (by kernel_rfl) (by kernel_rfl) (by kernel_rfl) (by kernel_rfl) ?_ ?_ ?_
  · exact ⟨_, rfl⟩
  · refine StepsR.yield (.agg #[.string ⟨#[100, 105, 103, 105, 116]⟩, .int .u64 (wd cDig 0), .int .u64 (wd cDig 1), .int .u64 (wd cDig 2), .int .u64 (wd cDig 3)]) rfl (by kernel_rfl) (fun w' hS hD => ⟨?_, trivial⟩)
    clear hS hD; go_simp
    try rfl
  intro v' hv' a' ha'
  have hv' : .agg #[.string ⟨#[100, 105, 103, 105, 116]⟩, .int .u64 (wd cDig 0), .int .u64 (wd cDig 1), .int .u64 (wd cDig 2), .int .u64 (wd cDig 3)] = v' := Eq.symm hv'
  subst hv'
  simp only [Act.put, List.setIfInBounds_toArray, List.set_cons_zero, List.set_cons_succ] at ha'
  subst ha'
  refine AnyRM.step (i := 14) (d := some 31) rfl rfl (by kernel_rfl) (by kernel_rfl) (by kernel_rfl) (by kernel_rfl) (by kernel_rfl) ?_ ?_ ?_
  · exact ⟨_, rfl⟩
  · refine StepsR.yield (setV cGra) rfl (by kernel_rfl) (fun w' hS hD => ⟨?_, trivial⟩)
    obtain ⟨⟨c0, c1, c2, c3⟩, _⟩ := (B6.out.below hS (Blk.lt B6.out)).cells4; clear hS hD; go_simp
    try rfl
  intro v' hv' a' ha'
  have hv' : setV cGra = v' := Eq.symm hv'
  subst hv'
  simp only [Act.put, List.setIfInBounds_toArray, List.set_cons_zero, List.set_cons_succ] at ha'
  subst ha'
  refine AnyRM.step (i := 15) (d := some 32) rfl rfl (by kernel_rfl) (by kernel_rfl) (by kernel_rfl) (by kernel_rfl) (by kernel_rfl) ?_ ?_ ?_
  · exact ⟨_, rfl⟩
  · refine StepsR.yield (.agg #[.string ⟨#[103, 114, 97, 112, 104]⟩, .int .u64 (wd cGra 0), .int .u64 (wd cGra 1), .int .u64 (wd cGra 2), .int .u64 (wd cGra 3)]) rfl (by kernel_rfl) (fun w' hS hD => ⟨?_, trivial⟩)
    clear hS hD; go_simp
    try rfl
  intro v' hv' a' ha'
  have hv' : .agg #[.string ⟨#[103, 114, 97, 112, 104]⟩, .int .u64 (wd cGra 0), .int .u64 (wd cGra 1), .int .u64 (wd cGra 2), .int .u64 (wd cGra 3)] = v' := Eq.symm hv'
  subst hv'
  simp only [Act.put, List.setIfInBounds_toArray, List.set_cons_zero, List.set_cons_succ] at ha'
  subst ha'
  refine AnyRM.step (i := 16) (d := some 33) rfl rfl (by kernel_rfl) (by kernel_rfl) (by kernel_rfl) (by kernel_rfl) (by kernel_rfl) ?_ ?_ ?_
  · exact ⟨_, rfl⟩
  · refine StepsR.yield (setV cLow) rfl (by kernel_rfl) (fun w' hS hD => ⟨?_, trivial⟩)
    obtain ⟨⟨c0, c1, c2, c3⟩, _⟩ := (B3.out.below hS (Blk.lt B3.out)).cells4; clear hS hD; go_simp
    try rfl
  intro v' hv' a' ha'
  have hv' : setV cLow = v' := Eq.symm hv'
  subst hv'
  simp only [Act.put, List.setIfInBounds_toArray, List.set_cons_zero, List.set_cons_succ] at ha'
  subst ha'
  refine AnyRM.step (i := 17) (d := some 34) rfl rfl (by kernel_rfl) (by kernel_rfl) (by kernel_rfl) (by kernel_rfl) (by kernel_rfl) ?_ ?_ ?_
  · exact ⟨_, rfl⟩
  · refine StepsR.yield (.agg #[.string ⟨#[108, 111, 119, 101, 114]⟩, .int .u64 (wd cLow 0), .int .u64 (wd cLow 1), .int .u64 (wd cLow 2), .int .u64 (wd cLow 3)]) rfl (by kernel_rfl) (fun w' hS hD => ⟨?_, trivial⟩)
    clear hS hD; go_simp
    try rfl
  intro v' hv' a' ha'
  have hv' : .agg #[.string ⟨#[108, 111, 119, 101, 114]⟩, .int .u64 (wd cLow 0), .int .u64 (wd cLow 1), .int .u64 (wd cLow 2), .int .u64 (wd cLow 3)] = v' := Eq.symm hv'
  subst hv'
  simp only [Act.put, List.setIfInBounds_toArray, List.set_cons_zero, List.set_cons_succ] at ha'
  subst ha'
  refine AnyRM.step (i := 18) (d := some 35) rfl rfl (by kernel_rfl) (by kernel_rfl) (by kernel_rfl) (by kernel_rfl) (by kernel_rfl) ?_ ?_ ?_
  · exact ⟨_, rfl⟩
  · refine StepsR.call (by kernel_rfl) (fun w' hS => by clear hS; go_simp) (fun w' hS hD => (pri_c w').mono ?_)
    rintro e w'' ⟨rfl, hb⟩
    exact ⟨_, rfl, rfl, trivial, hb⟩
  intro v' hv' a' ha'
  have hv' : setV cPri = v' := Eq.symm hv'
  subst hv'
  simp only [Act.put, List.setIfInBounds_toArray, List.set_cons_zero, List.set_cons_succ] at ha'
  subst ha'
  refine AnyRM.step (i := 19) (d := some 36) rfl rfl (by kernel_rfl) (by kernel_rfl) (by kernel_rfl) (by kernel_rfl) (by kernel_rfl) ?_ ?_ ?_
  · exact ⟨_, rfl⟩
  · refine StepsR.yield (.agg #[.string ⟨#[112, 114, 105, 110, 116]⟩, .int .u64 (wd cPri 0), .int .u64 (wd cPri 1), .int .u64 (wd cPri 2), .int .u64 (wd cPri 3)]) rfl (by kernel_rfl) (fun w' hS hD => ⟨?_, trivial⟩)
    clear hS hD; go_simp
    try rfl
  intro v' hv' a' ha'
  have hv' : .agg #[.string ⟨#[112, 114, 105, 110, 116]⟩, .int .u64 (wd cPri 0), .int .u64 (wd cPri 1), .int .u64 (wd cPri 2), .int .u64 (wd cPri 3)] = v' := Eq.symm hv'
  subst hv'
  simp only [Act.put, List.setIfInBounds_toArray, List.set_cons_zero, List.set_cons_succ] at ha'
  subst ha'
  refine AnyRM.step (i := 20) (d := some 37) rfl rfl (by kernel_rfl) (by kernel_rfl) (by kernel_rfl) (by kernel_rfl) (by kernel_rfl) ?_ ?_ ?_
  · exact ⟨_, rfl⟩
  · refine StepsR.yield (setV cGra) rfl (by kernel_rfl) (fun w' hS hD => ⟨?_, trivial⟩)
    obtain ⟨⟨c0, c1, c2, c3⟩, _⟩ := (B6.out.below hS (Blk.lt B6.out)).cells4; clear hS hD; go_simp
    try rfl
  intro v' hv' a' ha'
  have hv' : setV cGra = v' := Eq.symm hv'
  subst hv'
  simp only [Act.put, List.setIfInBounds_toArray, List.set_cons_zero, List.set_cons_succ] at ha'
  subst ha'
  refine AnyRM.step (i := 21) (d := some 38) rfl rfl (by kernel_rfl) (by kernel_rfl) (by kernel_rfl) (by kernel_rfl) (by kernel_rfl) ?_ ?_ ?_
  · exact ⟨_, rfl⟩
  · refine StepsR.yield (setV cAln) rfl (by kernel_rfl) (fun w' hS hD => ⟨?_, trivial⟩)
    obtain ⟨⟨c0, c1, c2, c3⟩, _⟩ := (B5.out.below hS (Blk.lt B5.out)).cells4; clear hS hD; go_simp
    try rfl
  intro v' hv' a' ha'
  have hv' : setV cAln = v' := Eq.symm hv'
  subst hv'
  simp only [Act.put, List.setIfInBounds_toArray, List.set_cons_zero, List.set_cons_succ] at ha'
  subst ha'
  refine AnyRM.step (i := 22) (d := some 39) rfl rfl (by kernel_rfl) (by kernel_rfl) (by kernel_rfl) (by kernel_rfl) (by kernel_rfl) ?_ ?_ ?_
  · exact ⟨_, rfl⟩
  · refine StepsR.call (by kernel_rfl) (fun w' hS => by clear hS; go_simp) (fun w' hS hD => (pun_c w').mono ?_)
    rintro e w'' ⟨rfl, hb⟩
    exact ⟨_, rfl, rfl, trivial, hb⟩
  intro v' hv' a' ha'
  have hv' : setV cPun = v' := Eq.symm hv'
  subst hv'
  simp only [Act.put, List.setIfInBounds_toArray, List.set_cons_zero, List.set_cons_succ] at ha'
  subst ha'
  refine AnyRM.step (i := 23) (d := some 40) rfl rfl (by kernel_rfl) (by kernel_rfl) (by kernel_rfl) (by kernel_rfl) (by kernel_rfl) ?_ ?_ ?_
  · exact ⟨_, rfl⟩
  · refine StepsR.yield (.agg #[.string ⟨#[112, 117, 110, 99, 116]⟩, .int .u64 (wd cPun 0), .int .u64 (wd cPun 1), .int .u64 (wd cPun 2), .int .u64 (wd cPun 3)]) rfl (by kernel_rfl) (fun w' hS hD => ⟨?_, trivial⟩)
    clear hS hD; go_simp
    try rfl
  intro v' hv' a' ha'
  have hv' : .agg #[.string ⟨#[112, 117, 110, 99, 116]⟩, .int .u64 (wd cPun 0), .int .u64 (wd cPun 1), .int .u64 (wd cPun 2), .int .u64 (wd cPun 3)] = v' := Eq.symm hv'
  subst hv'
  simp only [Act.put, List.setIfInBounds_toArray, List.set_cons_zero, List.set_cons_succ] at ha'
  subst ha'
  refine AnyRM.step (i := 24) (d := some 41) rfl rfl (by kernel_rfl) (by kernel_rfl) (by kernel_rfl) (by kernel_rfl) (by kernel_rfl) ?_ ?_ ?_
  · exact ⟨_, rfl⟩
  · refine StepsR.call (by kernel_rfl) (fun w' hS => by clear hS; go_simp) (fun w' hS hD => (r13_c w').mono ?_)
    rintro e w'' ⟨rfl, hb⟩
    exact ⟨_, rfl, rfl, trivial, hb⟩
  intro v' hv' a' ha'
  have hv' : setV (range 9 13) = v' := Eq.symm hv'
  subst hv'
  simp only [Act.put, List.setIfInBounds_toArray, List.set_cons_zero, List.set_cons_succ] at ha'
  subst ha'
  refine AnyRM.step (i := 25) (d := some 42) rfl rfl (by kernel_rfl) (by kernel_rfl) (by kernel_rfl) (by kernel_rfl) (by kernel_rfl) ?_ ?_ ?_
  · exact ⟨_, none, rfl⟩
  · refine StepsR.made (by kernel_rfl) (fun w' hS hD => ?_)
    clear hS hD
    refine ⟨.slice (some ⟨w'.heap.size, 0, none⟩) 1 1, w'.alloc (.cells (byW [32]) 5), ?_, ⟨_, rfl⟩, bytes_new w' _ [32], by go_grown⟩
    go_simp
    try rfl
  rintro v' ⟨a25, rfl⟩ a' ha'
  simp only [Act.put, List.setIfInBounds_toArray, List.set_cons_zero, List.set_cons_succ] at ha'
  subst ha'
  refine AnyRM.step (i := 26) (d := some 43) rfl rfl (by kernel_rfl) (by kernel_rfl) (by kernel_rfl) (by kernel_rfl) (by kernel_rfl) ?_ ?_ ?_
  · exact ⟨_, rfl⟩
  · refine StepsR.call (by kernel_rfl) (fun w' hS => by clear hS; go_simp) (fun w' hS hD => (with_calls' (range 9 13) a25 1 1 [32] (by decide) w' (hD.get (k := 25) (by kernel_rfl) rfl rfl)).mono ?_)
    rintro e w'' ⟨rfl, hb⟩
    exact ⟨_, rfl, rfl, trivial, hb⟩
  intro v' hv' a' ha'
  have hv' : setV cSpa = v' := Eq.symm hv'
  subst hv'
  simp only [Act.put, List.setIfInBounds_toArray, List.set_cons_zero, List.set_cons_succ] at ha'
  subst ha'
  refine AnyRM.step (i := 27) (d := some 44) rfl rfl (by kernel_rfl) (by kernel_rfl) (by kernel_rfl) (by kernel_rfl) (by kernel_rfl) ?_ ?_ ?_
  · exact ⟨_, rfl⟩
  · refine StepsR.yield (.agg #[.string ⟨#[115, 112, 97, 99, 101]⟩, .int .u64 (wd cSpa 0), .int .u64 (wd cSpa 1), .int .u64 (wd cSpa 2), .int .u64 (wd cSpa 3)]) rfl (by kernel_rfl) (fun w' hS hD => ⟨?_, trivial⟩)
    clear hS hD; go_simp
    try rfl
  intro v' hv' a' ha'
  have hv' : .agg #[.string ⟨#[115, 112, 97, 99, 101]⟩, .int .u64 (wd cSpa 0), .int .u64 (wd cSpa 1), .int .u64 (wd cSpa 2), .int .u64 (wd cSpa 3)] = v' := Eq.symm hv'
  subst hv'
  simp only [Act.put, List.setIfInBounds_toArray, List.set_cons_zero, List.set_cons_succ] at ha'
  subst ha'
  refine AnyRM.step (i := 28) (d := some 45) rfl rfl (by kernel_rfl) (by kernel_rfl) (by kernel_rfl) (by kernel_rfl) (by kernel_rfl) ?_ ?_ ?_
  · exact ⟨_, rfl⟩
  · refine StepsR.yield (setV cUpp) rfl (by kernel_rfl) (fun w' hS hD => ⟨?_, trivial⟩)
    obtain ⟨⟨c0, c1, c2, c3⟩, _⟩ := (B2.out.below hS (Blk.lt B2.out)).cells4; clear hS hD; go_simp
    try rfl
  intro v' hv' a' ha'
  have hv' : setV cUpp = v' := Eq.symm hv'
  subst hv'
  simp only [Act.put, List.setIfInBounds_toArray, List.set_cons_zero, List.set_cons_succ] at ha'
  subst ha'
  refine AnyRM.step (i := 29) (d := some 46) rfl rfl (by kernel_rfl) (by kernel_rfl) (by kernel_rfl) (by kernel_rfl) (by kernel_rfl) ?_ ?_ ?_
  · exact ⟨_, rfl⟩
  · refine StepsR.yield (.agg #[.string ⟨#[117, 112, 112, 101, 114]⟩, .int .u64 (wd cUpp 0), .int .u64 (wd cUpp 1), .int .u64 (wd cUpp 2), .int .u64 (wd cUpp 3)]) rfl (by kernel_rfl) (fun w' hS hD => ⟨?_, trivial⟩)
    clear hS hD; go_simp
    try rfl
  intro v' hv' a' ha'
  have hv' : .agg #[.string ⟨#[117, 112, 112, 101, 114]⟩, .int .u64 (wd cUpp 0), .int .u64 (wd cUpp 1), .int .u64 (wd cUpp 2), .int .u64 (wd cUpp 3)] = v' := Eq.symm hv'
  subst hv'
  simp only [Act.put, List.setIfInBounds_toArray, List.set_cons_zero, List.set_cons_succ] at ha'
  subst ha'
  refine AnyRM.step (i := 30) (d := some 47) rfl rfl (by kernel_rfl) (by kernel_rfl) (by kernel_rfl) (by kernel_rfl) (by kernel_rfl) ?_ ?_ ?_
  · exact ⟨_, rfl⟩
  · refine StepsR.yield (setV cDig) rfl (by kernel_rfl) (fun w' hS hD => ⟨?_, trivial⟩)
    obtain ⟨⟨c0, c1, c2, c3⟩, _⟩ := (B1.out.below hS (Blk.lt B1.out)).cells4; clear hS hD; go_simp
    try rfl
  intro v' hv' a' ha'
  have hv' : setV cDig = v' := Eq.symm hv'
  subst hv'
  simp only [Act.put, List.setIfInBounds_toArray, List.set_cons_zero, List.set_cons_succ] at ha'
  subst ha'
  refine AnyRM.step (i := 31) (d := some 48) rfl rfl (by kernel_rfl) (by kernel_rfl) (by kernel_rfl) (by kernel_rfl) (by kernel_rfl) ?_ ?_ ?_
  · exact ⟨_, rfl⟩
  · refine StepsR.call (by kernel_rfl) (fun w' hS => by clear hS; go_simp) (fun w' hS hD => (r65_c w').mono ?_)
    rintro e w'' ⟨rfl, hb⟩
    exact ⟨_, rfl, rfl, trivial, hb⟩
  intro v' hv' a' ha'
  have hv' : setV (range 65 70) = v' := Eq.symm hv'
  subst hv'
  simp only [Act.put, List.setIfInBounds_toArray, List.set_cons_zero, List.set_cons_succ] at ha'
  subst ha'
  refine AnyRM.step (i := 32) (d := some 49) rfl rfl (by kernel_rfl) (by kernel_rfl) (by kernel_rfl) (by kernel_rfl) (by kernel_rfl) ?_ ?_ ?_
  · exact ⟨_, rfl⟩
  · refine StepsR.call (by kernel_rfl) (fun w' hS => by clear hS; go_simp) (fun w' hS hD => (r97_c w').mono ?_)
    rintro e w'' ⟨rfl, hb⟩
    exact ⟨_, rfl, rfl, trivial, hb⟩
  intro v' hv' a' ha'
  have hv' : setV (range 97 102) = v' := Eq.symm hv'
  subst hv'
  simp only [Act.put, List.setIfInBounds_toArray, List.set_cons_zero, List.set_cons_succ] at ha'
  subst ha'
  refine AnyRM.step (i := 33) (d := some 50) rfl rfl (by kernel_rfl) (by kernel_rfl) (by kernel_rfl) (by kernel_rfl) (by kernel_rfl) ?_ ?_ ?_
  · exact ⟨_, rfl⟩
  · refine StepsR.call (by kernel_rfl) (fun w' hS => by clear hS; go_simp) (fun w' hS hD => (xd1_c w').mono ?_)
    rintro e w'' ⟨rfl, hb⟩
    exact ⟨_, rfl, rfl, trivial, hb⟩
  intro v' hv' a' ha'
  have hv' : setV (range 65 70 ||| range 97 102) = v' := Eq.symm hv'
  subst hv'
  simp only [Act.put, List.setIfInBounds_toArray, List.set_cons_zero, List.set_cons_succ] at ha'
  subst ha'
  refine AnyRM.step (i := 34) (d := some 51) rfl rfl (by kernel_rfl) (by kernel_rfl) (by kernel_rfl) (by kernel_rfl) (by kernel_rfl) ?_ ?_ ?_
  · exact ⟨_, rfl⟩
  · refine StepsR.call (by kernel_rfl) (fun w' hS => by clear hS; go_simp) (fun w' hS hD => (xdi_c w').mono ?_)
    rintro e w'' ⟨rfl, hb⟩
    exact ⟨_, rfl, rfl, trivial, hb⟩
  intro v' hv' a' ha'
  have hv' : setV cXdi = v' := Eq.symm hv'
  subst hv'
  simp only [Act.put, List.setIfInBounds_toArray, List.set_cons_zero, List.set_cons_succ] at ha'
  subst ha'
  refine AnyRM.step (i := 35) (d := some 52) rfl rfl (by kernel_rfl) (by kernel_rfl) (by kernel_rfl) (by kernel_rfl) (by kernel_rfl) ?_ ?_ ?_
  · exact ⟨_, rfl⟩
  · refine StepsR.yield (.agg #[.string ⟨#[120, 100, 105, 103, 105, 116]⟩, .int .u64 (wd cXdi 0), .int .u64 (wd cXdi 1), .int .u64 (wd cXdi 2), .int .u64 (wd cXdi 3)]) rfl (by kernel_rfl) (fun w' hS hD => ⟨?_, trivial⟩)
    clear hS hD; go_simp
    try rfl
  intro v' hv' a' ha'
  have hv' : .agg #[.string ⟨#[120, 100, 105, 103, 105, 116]⟩, .int .u64 (wd cXdi 0), .int .u64 (wd cXdi 1), .int .u64 (wd cXdi 2), .int .u64 (wd cXdi 3)] = v' := Eq.symm hv'
  subst hv'
  simp only [Act.put, List.setIfInBounds_toArray, List.set_cons_zero, List.set_cons_succ] at ha'
  subst ha'
  refine AnyRM.step (i := 36) (d := some 53) rfl rfl (by kernel_rfl) (by kernel_rfl) (by kernel_rfl) (by kernel_rfl) (by kernel_rfl) ?_ ?_ ?_
  · exact ⟨_, rfl⟩
  · refine StepsR.yield (.agg tabV) rfl (by kernel_rfl) (fun w' hS hD => ⟨?_, trivial⟩)
    clear hS hD; go_simp
    try rfl
  intro v' hv' a' ha'
  have hv' : .agg tabV = v' := Eq.symm hv'
  subst hv'
  simp only [Act.put, List.setIfInBounds_toArray, List.set_cons_zero, List.set_cons_succ] at ha'
  subst ha'
  refine AnyRM.last rfl (by kernel_rfl) (by kernel_rfl) (by kernel_rfl) (fun w9 hS hF K hK => ?_)
  clear hF
  have hR := BR.out.below hS (Blk.lt BR.out)
  have hst := run_storeAt_row (P := Try.prog) w9 w.heap.size 133 133 tab0 tabV hR (by kernel_rfl) (by decide) tabV_one
  have hB := HB.out.trans (hS.mono (by omega))
  refine wp_store_row _ _ _ rfl w.heap.size rfl rfl hst ?_
  clear hst
  refine hK _ _ ?_
  clear hK K
  have hR' := Lib.hid (Blk.setRow (cs := tabV) hR)
  have hB' := Lib.hid (below_setRow hB (Nat.le_refl _) tabV)
  clear hR hB hS
  generalize w9.setRow w.heap.size tabV = w10 at *
  go_wp2
  exact bodyPost_ret (v := .agg tabV) (results_cell_row rfl _ _ w.heap.size 133 tabV (0, 0) _ rfl hR'.out Try.underlying133 rfl (by kernel_rfl)) rfl ⟨rfl, hB'.out⟩
end Go.Proofs.Ythodphgbdmnpoaa

/- The document's classes: whether a byte is of a class. -/
namespace Go.Proofs.Ythodphgbdmnpoaa
open Go.RowKit Go.Shelf BS

def inB (b lo hi : Int) : Bool := decide (lo ≤ b) && decide (b ≤ hi)
def alB (b : Int) : Bool := inB b 65 90 || inB b 97 122
def dgB (b : Int) : Bool := inB b 48 57
def isC (l : List UInt8) (b : Int) : Bool :=
  if l = [97, 108, 110, 117, 109] then (alB b || dgB b) else
  if l = [97, 108, 112, 104, 97] then alB b else
  if l = [98, 108, 97, 110, 107] then (b == 9 || b == 32) else
  if l = [99, 110, 116, 114, 108] then (inB b 0 31 || b == 127) else
  if l = [100, 105, 103, 105, 116] then dgB b else
  if l = [103, 114, 97, 112, 104] then inB b 33 126 else
  if l = [108, 111, 119, 101, 114] then inB b 97 122 else
  if l = [112, 114, 105, 110, 116] then inB b 32 126 else
  if l = [112, 117, 110, 99, 116] then (inB b 33 126 && !alB b && !dgB b) else
  if l = [115, 112, 97, 99, 101] then (inB b 9 13 || b == 32) else
  if l = [117, 112, 112, 101, 114] then inB b 65 90 else
  if l = [120, 100, 105, 103, 105, 116] then (dgB b || inB b 65 70 || inB b 97 102) else
  false

end Go.Proofs.Ythodphgbdmnpoaa

/- Plain facts on the table of classes. -/
namespace Go.Proofs.Ythodphgbdmnpoaa
open Go.RowKit BS

theorem find_at {α : Type} (p : α → Bool) : ∀ (L : List α) (k : Nat) (hk : k < L.length), (∀ j (hj : j < k), p (L[j]'(Nat.lt_trans hj hk)) = false) → p L[k] = true → L.find? p = some L[k]
  | [], k, hk, _, _ => by simp at hk
  | a :: L, 0, _, _, h => by simp [List.find?, show p a = true from h]
  | a :: L, k + 1, hk, hf, h => by
    have h0 : p a = false := hf 0 (by omega)
    simp only [List.find?, h0]
    exact find_at p L k (by simpa using hk) (fun j hj => hf (j + 1) (by omega)) h
theorem find_not {α : Type} (p : α → Bool) (L : List α) (h : ∀ j (hj : j < L.length), p L[j] = false) : L.find? p = none := by
  rw [List.find?_eq_none]
  intro x hx
  obtain ⟨j, hj, rfl⟩ := List.getElem_of_mem hx
  simp [h j hj]

def fnd (l : List UInt8) : Option (ByteArray × BitVec 256) := tabL.find? fun e => e.1.toList == l
def ofS (l : List UInt8) : BitVec 256 := ((fnd l).map (·.2)).getD 0
def ofB (l : List UInt8) : Bool := (fnd l).isSome
theorem tabL_len : tabL.length = 12 := rfl
def tE (k : Nat) : ByteArray × BitVec 256 := tabL.getD k (⟨#[]⟩, 0)
theorem tE_eq (k : Nat) (h : k < 12) : tE k = tabL[k] := by
  unfold tE; rw [List.getD_eq_getElem?_getD, List.getElem?_eq_getElem (by rw [tabL_len]; exact h)]; rfl
theorem fnd_at (l : List UInt8) (k : Nat) (hk : k < 12) (hf : ∀ j, j < k → (tE j).1.toList ≠ l) (h : (tE k).1.toList = l) : fnd l = some (tE k) := by
  rw [tE_eq k hk]
  refine find_at _ tabL k hk (fun j hj => ?_) ?_
  · have := hf j hj
    rw [tE_eq j (by omega)] at this
    exact beq_eq_false_iff_ne.2 this
  · rw [tE_eq k hk] at h
    exact beq_iff_eq.2 h
theorem fnd_not (l : List UInt8) (hf : ∀ j, j < 12 → (tE j).1.toList ≠ l) : fnd l = none := by
  refine find_not _ tabL fun j hj => ?_
  have := hf j hj
  rw [tE_eq j hj] at this
  exact beq_eq_false_iff_ne.2 this
theorem ofS_at (l : List UInt8) (k : Nat) (hk : k < 12) (hf : ∀ j, j < k → (tE j).1.toList ≠ l) (h : (tE k).1.toList = l) : ofS l = (tE k).2 := by rw [ofS, fnd_at l k hk hf h]; rfl
theorem ofB_at (l : List UInt8) (k : Nat) (hk : k < 12) (hf : ∀ j, j < k → (tE j).1.toList ≠ l) (h : (tE k).1.toList = l) : ofB l = true := by rw [ofB, fnd_at l k hk hf h]; rfl
theorem ofS_not (l : List UInt8) (hf : ∀ j, j < 12 → (tE j).1.toList ≠ l) : ofS l = 0 := by rw [ofS, fnd_not l hf]; rfl
theorem ofB_not (l : List UInt8) (hf : ∀ j, j < 12 → (tE j).1.toList ≠ l) : ofB l = false := by rw [ofB, fnd_not l hf]; rfl

/-- The document's set of a name. -/
def isS (l : List UInt8) : BitVec 256 := ofFn fun j => isC l (j : Int)
theorem isS_tab : ∀ k, k < 12 → isS (tE k).1.toList = (tE k).2
  | 0, _ => by decide +kernel
  | 1, _ => by decide +kernel
  | 2, _ => by decide +kernel
  | 3, _ => by decide +kernel
  | 4, _ => by decide +kernel
  | 5, _ => by decide +kernel
  | 6, _ => by decide +kernel
  | 7, _ => by decide +kernel
  | 8, _ => by decide +kernel
  | 9, _ => by decide +kernel
  | 10, _ => by decide +kernel
  | 11, _ => by decide +kernel
  | n + 12, h => by omega
theorem isS_of (l : List UInt8) (k : Nat) (hk : k < 12) (h : (tE k).1.toList = l) : isS l = (tE k).2 := by rw [← h]; exact isS_tab k hk

/-- The table's entry, as the walk takes it. -/
theorem tab_index : ∀ k, k < 12 → ∀ w, (Instr.index 133 (.agg tabV) (.int .i64 (k : Nat))).run Try.prog w = .ok (.agg #[.string (tE k).1, .int .u64 (wd (tE k).2 0), .int .u64 (wd (tE k).2 1), .int .u64 (wd (tE k).2 2), .int .u64 (wd (tE k).2 3)]) w
  | 0, _, w => by kernel_rfl
  | 1, _, w => by kernel_rfl
  | 2, _, w => by kernel_rfl
  | 3, _, w => by kernel_rfl
  | 4, _, w => by kernel_rfl
  | 5, _, w => by kernel_rfl
  | 6, _, w => by kernel_rfl
  | 7, _, w => by kernel_rfl
  | 8, _, w => by kernel_rfl
  | 9, _, w => by kernel_rfl
  | 10, _, w => by kernel_rfl
  | 11, _, w => by kernel_rfl
  | n + 12, h, _ => by omega
end Go.Proofs.Ythodphgbdmnpoaa

/- The document's sets, by the reference's own calls: Has, Of, With. -/
namespace Go.Proofs.Ythodphgbdmnpoaa
open Go.RowKit BS

/-- 256 answers. -/
def Bools (arr : Array Value) (f : Nat → Bool) : Prop := arr.size = 256 ∧ ∀ i, i < 256 → arr[i]? = some (.bool (f i))
theorem Bools.set {arr : Array Value} {f : Nat → Bool} (h : Bools arr f) (i : Nat) (b : Bool) : Bools (arr.setIfInBounds i (.bool b)) (fun j => if j = i then b else f j) := by
  refine ⟨by simpa using h.1, fun j hj => ?_⟩
  by_cases hji : j = i
  · subst hji
    have : j < arr.size := by rw [h.1]; exact hj
    simp [this]
  · rw [Array.getElem?_setIfInBounds_ne (Ne.symm hji), h.2 j hj]; simp [hji]
theorem ofFn_congr {f g : Nat → Bool} (h : ∀ j, j < 256 → f j = g j) : ofFn f = ofFn g := by
  apply BitVec.eq_of_getLsbD_eq; intro j hj
  rw [get_ofFn, get_ofFn, h j hj]

/-- The first k answers, as a set. -/
def pre (f : Nat → Bool) (k : Nat) : BitVec 256 := ofFn fun j => decide (j < k) && f j
theorem pre_true (f : Nat → Bool) (k : Nat) (h : f k = true) : pre f (k + 1) = pre f k ||| one k := by
  apply BitVec.eq_of_getLsbD_eq; intro j hj
  rw [BitVec.getLsbD_or, pre, pre, one, get_ofFn, get_ofFn, get_ofFn]
  simp only [hj, decide_true, Bool.true_and]
  by_cases hjk : j = k
  · subst hjk; simp [h]
  · have : (j < k + 1) ↔ (j < k) := by omega
    simp [this, hjk]
theorem pre_false (f : Nat → Bool) (k : Nat) (h : f k = false) : pre f (k + 1) = pre f k := by
  apply ofFn_congr; intro j hj
  by_cases hjk : j = k
  · subst hjk; simp [h]
  · have : (j < k + 1) ↔ (j < k) := by omega
    simp [this]
theorem pre_all (f : Nat → Bool) : pre f 256 = ofFn f := ofFn_congr fun j hj => by simp [hj]
theorem pre_none (f : Nat → Bool) : pre f 0 = 0 := by
  apply BitVec.eq_of_getLsbD_eq; intro j hj
  rw [pre, get_ofFn]; simp

/-- A set stored into a box of its own. -/
theorem fin4 {w W : World} {n B : Nat} {a b c d : Value} {T : TypeId} (h : Blk W B #[a, b, c, d] T) (hb : Below n w W) (hB : n ≤ B) (t : BitVec 256) :
    Blk ((((W.setCell ⟨B, 0, none⟩ (.int .u64 (wd t 0))).setCell ⟨B, 1, none⟩ (.int .u64 (wd t 1))).setCell ⟨B, 2, none⟩ (.int .u64 (wd t 2))).setCell ⟨B, 3, none⟩ (.int .u64 (wd t 3))) B (setA t) T ∧
    Below n w ((((W.setCell ⟨B, 0, none⟩ (.int .u64 (wd t 0))).setCell ⟨B, 1, none⟩ (.int .u64 (wd t 1))).setCell ⟨B, 2, none⟩ (.int .u64 (wd t 2))).setCell ⟨B, 3, none⟩ (.int .u64 (wd t 3))) :=
  ⟨(((h.set 0 _).set 1 _).set 2 _).set 3 _, below_set (below_set (below_set (below_set hb hB _ _) hB _ _) hB _ _) hB _ _⟩

def SW (w : World) (t : BitVec 256) (W : World) : Prop :=
  (Blk W w.heap.size (setA t) 30 ∧ Blk W (w.heap.size + 1) (setA 0) 30) ∧ Below w.heap.size w W
theorem drew_w {w W : World} {t : BitVec 256} (h : SW w t W) : SW w t W.drew := ⟨⟨h.1.1, h.1.2⟩, h.2.drew⟩
theorem SW.store {w W : World} {t t' : BitVec 256} (h : SW w t W) (i : Nat) (v : Value) (hv : (setA t).setIfInBounds i v = setA t') : SW w t' (W.setCell ⟨w.heap.size, i, none⟩ v) :=
  ⟨⟨by rw [← hv]; exact h.1.1.set i v, h.1.2.other (by omega) _ _⟩, below_set h.2 (by omega) _ _⟩

end Go.Proofs.Ythodphgbdmnpoaa

/- The document's sets, by the reference's own calls: Range, Both, Not. -/
namespace Go.Proofs.Ythodphgbdmnpoaa
open Go.RowKit BS

theorem Bools.congr {arr : Array Value} {f g : Nat → Bool} (h : Bools arr f) (e : ∀ j, j < 256 → f j = g j) : Bools arr g := ⟨h.1, fun i hi => by rw [h.2 i hi, e i hi]⟩

def bothF (how : Nat) (x y : Bool) : Bool := (how == 1 && (x || y)) || (how == 2 && x && y) || (how == 3 && x && !y)

theorem both_or (a b : BitVec 256) : (ofFn fun j => bothF 1 (a.getLsbD j) (b.getLsbD j)) = a ||| b := by
  apply BitVec.eq_of_getLsbD_eq; intro j hj
  rw [get_ofFn, BitVec.getLsbD_or]; simp only [hj]
  cases a.getLsbD j <;> cases b.getLsbD j <;> rfl
theorem both_and (a b : BitVec 256) : (ofFn fun j => bothF 2 (a.getLsbD j) (b.getLsbD j)) = a &&& b := by
  apply BitVec.eq_of_getLsbD_eq; intro j hj
  rw [get_ofFn, BitVec.getLsbD_and]; simp only [hj]
  cases a.getLsbD j <;> cases b.getLsbD j <;> rfl
theorem both_less (a b : BitVec 256) : (ofFn fun j => bothF 3 (a.getLsbD j) (b.getLsbD j)) = a &&& ~~~b := by
  apply BitVec.eq_of_getLsbD_eq; intro j hj
  rw [get_ofFn, BitVec.getLsbD_and, BitVec.getLsbD_not]; simp only [hj]
  cases a.getLsbD j <;> cases b.getLsbD j <;> rfl
theorem full_not (s : BitVec 256) : (range 0 255 &&& ~~~s) = ~~~s := by
  apply BitVec.eq_of_getLsbD_eq; intro j hj
  rw [BitVec.getLsbD_and, BitVec.getLsbD_not, range, get_ofFn]
  simp [hj, show j ≤ 255 by omega]

end Go.Proofs.Ythodphgbdmnpoaa

/- class.Of, Begins, Find, Names, Any: as the table says. -/
namespace Go.Proofs.Ythodphgbdmnpoaa
open Go.RowKit Go.Shelf BS

theorem ret_bool' {a b : Bool} (h : a = b) : Ending.returned (.bool a) = .returned (.bool b) := by rw [h]

set_option maxRecDepth 100000 in
set_option maxHeartbeats 2000000 in
theorem cOf_calls (name : ByteArray) (w : World) : Calls Try.prog 94 #[.string name] w fun e w' => e = .returned (.tuple #[setV (ofS name.toList), .bool (ofB name.toList)]) ∧ Below w.heap.size w w' := by
  have b0 := Blk.new w (setA 0) 30
  have hB0 : Below w.heap.size w (w.alloc (.cells (setA 0) 30)) := by go_grown
  go_enter Try.func94, Try.ntmps94
  go_wp2_with fail
  refine (table_calls _).mono ?_
  rintro e w1 ⟨rfl, hb1⟩
  replace b0 := b0.below hb1 (by simp)
  replace hB0 := hB0.trans (hb1.mono (by simp))
  clear hb1
  go_wp2_with fail
  go_loopw [7] (fun i wr => ∃ k : Nat, k ≤ 12 ∧ i = .int .i64 k ∧ (∀ j, j < k → (tE j).1.toList ≠ name.toList) ∧ Blk wr w.heap.size (setA 0) 30 ∧ Below w.heap.size w wr) (fun i _ => 12 - (intOf i).toNat)
  case atStart => exact ⟨0, by omega, rfl, fun j hj => by omega, b0, hB0⟩
  case round =>
    clear b0 hB0
    obtain ⟨k, hk, rfl, hno, hb, hB⟩ := hrel
    have HN := Lib.hid hno
    clear hno
    by_cases hkl : k < 12
    · have hix := tab_index k hkl
      by_cases hq : (tE k).1.toList = name.toList
      · have HS := Lib.hid (ofS_at name.toList k hkl HN.out hq)
        have HO := Lib.hid (ofB_at name.toList k hkl HN.out hq)
        have hqb : ((tE k).1.toList == name.toList) = true := beq_iff_eq.2 hq
        clear hq
        generalize (tE k).1 = nm at *
        generalize (tE k).2 = st at *
        obtain ⟨⟨c0, c1, c2, c3⟩, f0, f1, f2, f3⟩ := hb.cells4
        have hlt := hb.lt
        have hne : w.heap.size ≠ wr.heap.size := by omega
        go_wp2
        obtain ⟨hR, hBB⟩ := fin4 hb hB (Nat.le_refl _) st
        replace hR := hR.alloc (.cells #[.string nm, .int .u64 (wd st 0), .int .u64 (wd st 1), .int .u64 (wd st 2), .int .u64 (wd st 3)] 132)
        replace hBB := hBB.alloc (by simp; omega) (.cells #[.string nm, .int .u64 (wd st 0), .int .u64 (wd st 1), .int .u64 (wd st 2), .int .u64 (wd st 3)] 132)
        clear c0 c1 c2 c3 f0 f1 f2 f3 hb hB hix hqb
        generalize (((((wr.setCell ⟨w.heap.size, 0, none⟩ (.int .u64 (wd st 0))).setCell ⟨w.heap.size, 1, none⟩ (.int .u64 (wd st 1))).setCell ⟨w.heap.size, 2, none⟩ (.int .u64 (wd st 2))).setCell ⟨w.heap.size, 3, none⟩ (.int .u64 (wd st 3))).alloc (.cells #[.string nm, .int .u64 (wd st 0), .int .u64 (wd st 1), .int .u64 (wd st 2), .int .u64 (wd st 3)] 132)) = W4 at *
        obtain ⟨⟨e0, e1, e2, e3⟩, _⟩ := hR.cells4
        exact bodyPost_ret (v := .tuple #[setV st, .bool true]) (by simp [results, Try.results94, go_sem, e0, e1, e2, e3]) rfl ⟨by rw [HS.out, HO.out], hBB⟩
      · have hqb : ((tE k).1.toList == name.toList) = false := beq_eq_false_iff_ne.2 hq
        have HQ := Lib.hid hq
        clear hq
        generalize hnm : (tE k).1 = nm at hqb hix
        generalize (tE k).2 = st at *
        have HNM := Lib.hid hnm
        clear hnm
        go_wp2
        go_roundw
        case rel =>
          refine ⟨k + 1, by omega, by simp, fun j hj => ?_, hb.alloc _, hB.alloc hB.size _⟩
          by_cases hjk : j = k
          · subst hjk; exact HQ.out
          · exact HN.out j (by omega)
        case measure => simp [intOf]; omega
    · obtain rfl : k = 12 := by omega
      obtain ⟨⟨c0, c1, c2, c3⟩, f0, f1, f2, f3⟩ := hb.cells4
      go_wp2
      obtain ⟨hR, hBB⟩ := fin4 hb hB (Nat.le_refl _) 0
      have e9 : ((((wr.setCell ⟨w.heap.size, 0, none⟩ (.int .u64 0)).setCell ⟨w.heap.size, 1, none⟩ (.int .u64 0)).setCell ⟨w.heap.size, 2, none⟩ (.int .u64 0)).setCell ⟨w.heap.size, 3, none⟩ (.int .u64 0)) = ((((wr.setCell ⟨w.heap.size, 0, none⟩ (.int .u64 (wd 0 0))).setCell ⟨w.heap.size, 1, none⟩ (.int .u64 (wd 0 1))).setCell ⟨w.heap.size, 2, none⟩ (.int .u64 (wd 0 2))).setCell ⟨w.heap.size, 3, none⟩ (.int .u64 (wd 0 3))) := rfl
      rw [e9]
      clear e9 c0 c1 c2 c3 f0 f1 f2 f3 hb hB
      generalize ((((wr.setCell ⟨w.heap.size, 0, none⟩ (.int .u64 (wd 0 0))).setCell ⟨w.heap.size, 1, none⟩ (.int .u64 (wd 0 1))).setCell ⟨w.heap.size, 2, none⟩ (.int .u64 (wd 0 2))).setCell ⟨w.heap.size, 3, none⟩ (.int .u64 (wd 0 3))) = W4 at *
      obtain ⟨⟨e0, e1, e2, e3⟩, _⟩ := hR.cells4
      exact bodyPost_ret (v := .tuple #[setV 0, .bool false]) (by simp [results, Try.results94, go_sem, e0, e1, e2, e3]) rfl ⟨by rw [ofS_not _ HN.out, ofB_not _ HN.out], hBB⟩

/-! ### Begins -/
def pfx (nm s : ByteArray) : Bool := decide (s.size ≤ nm.size) && ((nm.extract 0 s.size).toList == s.toList)
def begB (l : ByteArray) : Bool := tabL.any fun e => pfx e.1 l
theorem begB_at (l : ByteArray) (k : Nat) (hk : k < 12) (h : pfx (tE k).1 l = true) : begB l = true := by
  unfold begB
  rw [List.any_eq_true]
  exact ⟨tabL[k], List.getElem_mem _, by rw [← tE_eq k hk]; exact h⟩
theorem begB_not (l : ByteArray) (hf : ∀ j, j < 12 → pfx (tE j).1 l = false) : begB l = false := by
  unfold begB
  rw [List.any_eq_false]
  intro x hx
  obtain ⟨j, hj, rfl⟩ := List.getElem_of_mem hx
  rw [← tE_eq j hj, hf j hj]
  simp

set_option maxHeartbeats 1000000 in
theorem hp1_calls (s p : ByteArray) (_hs : s.size ≤ 9223372036854775807) (_hp : p.size ≤ 9223372036854775807) (w : World) : Calls Try.prog 103 #[.string s, .string p] w fun e w' => e = .returned (.bool (pfx s p)) ∧ w = w' := by
  by_cases hl : p.size ≤ s.size
  · have h1 : decide (p.size ≤ s.size) = true := by simpa using hl
    go_enter Try.func103, Try.ntmps103
    go_wp2
    go_ret
    exact ⟨ret_bool' (by simp only [pfx, h1, Bool.true_and]), rfl⟩
  · have h1 : decide (p.size ≤ s.size) = false := by simpa using hl
    go_enter Try.func103, Try.ntmps103
    go_wp2
    go_ret
    exact ⟨ret_bool' (by simp only [pfx, h1, Bool.false_and]), rfl⟩
set_option maxHeartbeats 1000000 in
theorem hp_calls (s p : ByteArray) (hs : s.size ≤ 9223372036854775807) (hp : p.size ≤ 9223372036854775807) (w : World) : Calls Try.prog 98 #[.string s, .string p] w fun e w' => e = .returned (.bool (pfx s p)) ∧ w = w' := by
  go_enter Try.func98, Try.ntmps98
  go_wp2_with (go_at_call 103; refine (hp1_calls s p hs hp _).mono ?_; rintro e w' ⟨rfl, rfl⟩)
  go_ret
  exact ⟨rfl, rfl⟩
theorem tE_size (k : Nat) (hk : k < 12) : (tE k).1.size ≤ 9223372036854775807 := by
  have h : ∀ j, j < 12 → decide ((tE j).1.size ≤ 9223372036854775807) = true := by decide +kernel
  simpa using h k hk

set_option maxRecDepth 100000 in
set_option maxHeartbeats 2000000 in
theorem cBegins_calls (s : ByteArray) (hs : s.size ≤ 9223372036854775807) (w : World) : Calls Try.prog 93 #[.string s] w fun e w' => e = .returned (.bool (begB s)) ∧ Below w.heap.size w w' := by
  go_enter Try.func93, Try.ntmps93
  go_wp2_with fail
  refine (table_calls _).mono ?_
  rintro e w1 ⟨rfl, hb1⟩
  go_wp2_with fail
  go_loopw [6] (fun i wr => ∃ k : Nat, k ≤ 12 ∧ i = .int .i64 k ∧ (∀ j, j < k → pfx (tE j).1 s = false) ∧ Below w.heap.size w wr) (fun i _ => 12 - (intOf i).toNat)
  case atStart => exact ⟨0, by omega, rfl, fun j hj => by omega, hb1⟩
  case round =>
    clear hb1
    obtain ⟨k, hk, rfl, hno, hB⟩ := hrel
    have HN := Lib.hid hno
    clear hno
    by_cases hkl : k < 12
    · have hix := tab_index k hkl
      have hnz := tE_size k hkl
      cases hq : pfx (tE k).1 s with
      | true =>
        have HS := Lib.hid (begB_at s k hkl hq)
        have HQ := Lib.hid hq
        clear hq
        generalize (tE k).1 = nm at *
        generalize (tE k).2 = st at *
        go_wp2_with (go_at_call 98; refine (hp_calls nm s hnz hs _).mono ?_; rintro e w' ⟨rfl, rfl⟩; rw [HQ.out])
        go_ret
        exact ⟨by rw [HS.out]; rfl, hB.alloc hB.size _⟩
      | false =>
        have HQ := Lib.hid hq
        clear hq
        generalize hnm : (tE k).1 = nm at hix hnz
        generalize (tE k).2 = st at *
        have HNM := Lib.hid hnm
        clear hnm
        go_wp2_with (go_at_call 98; refine (hp_calls nm s hnz hs _).mono ?_; rintro e w' ⟨rfl, rfl⟩; rw [← HNM.out, HQ.out])
        go_roundw
        case rel =>
          refine ⟨k + 1, by omega, by simp, fun j hj => ?_, hB.alloc hB.size _⟩
          by_cases hjk : j = k
          · subst hjk; exact HQ.out
          · exact HN.out j (by omega)
        case measure => simp [intOf]; omega
    · obtain rfl : k = 12 := by omega
      go_wp2
      go_ret
      exact ⟨by rw [begB_not _ HN.out]; rfl, hB⟩

/-! ### Find -/
def fndS (s : BitVec 256) : ByteArray := ((tabL.find? fun e => e.2 == s).map (·.1)).getD ⟨#[]⟩
theorem fndS_at (s : BitVec 256) (k : Nat) (hk : k < 12) (hf : ∀ j, j < k → (tE j).2 ≠ s) (h : (tE k).2 = s) : fndS s = (tE k).1 := by
  have h1 : (tabL.find? fun e => e.2 == s) = some (tE k) := by
    rw [tE_eq k hk]
    refine find_at _ tabL k hk (fun j hj => ?_) ?_
    · have := hf j hj
      rw [tE_eq j (by omega)] at this
      exact beq_eq_false_iff_ne.2 this
    · rw [tE_eq k hk] at h
      exact beq_iff_eq.2 h
  rw [fndS, h1]; rfl
theorem fndS_not (s : BitVec 256) (hf : ∀ j, j < 12 → (tE j).2 ≠ s) : fndS s = ⟨#[]⟩ := by
  have h1 : (tabL.find? fun e => e.2 == s) = none := by
    refine find_not _ tabL fun j hj => ?_
    have := hf j hj
    rw [tE_eq j hj] at this
    exact beq_eq_false_iff_ne.2 this
  rw [fndS, h1]; rfl

set_option maxHeartbeats 1000000 in
theorem cAny_calls (w : World) : Calls Try.prog 78 #[] w fun e w' => e = .returned (setV (~~~(0 : BitVec 256))) ∧ Below w.heap.size w w' := by
  have b0 := Blk.new w (setA 0) 30
  have hB0 : Below w.heap.size w (w.alloc (.cells (setA 0) 30)) := by go_grown
  go_enter Try.func78, Try.ntmps78
  go_wp2_with fail
  refine (not_calls 0 _).mono ?_
  rintro e w1 ⟨rfl, hb1⟩
  replace b0 := b0.below hb1 (by simp)
  replace hB0 := hB0.trans (hb1.mono (by simp))
  clear hb1
  obtain ⟨⟨c0, c1, c2, c3⟩, f0, f1, f2, f3⟩ := b0.cells4
  generalize ht : (~~~(0 : BitVec 256)) = t at *
  have HT := Lib.hid ht
  clear ht
  go_wp2
  obtain ⟨hR, hBB⟩ := fin4 b0 hB0 (Nat.le_refl _) t
  clear c0 c1 c2 c3 f0 f1 f2 f3 b0 hB0
  generalize ((((w1.setCell ⟨w.heap.size, 0, none⟩ (.int .u64 (wd t 0))).setCell ⟨w.heap.size, 1, none⟩ (.int .u64 (wd t 1))).setCell ⟨w.heap.size, 2, none⟩ (.int .u64 (wd t 2))).setCell ⟨w.heap.size, 3, none⟩ (.int .u64 (wd t 3))) = W4 at *
  obtain ⟨⟨e0, e1, e2, e3⟩, _⟩ := hR.cells4
  exact bodyPost_ret (v := setV t) (by simp [results, Try.results78, go_sem, e0, e1, e2, e3]) rfl ⟨by rw [HT.out], hBB⟩
end Go.Proofs.Ythodphgbdmnpoaa

/- class.Names, and the document's Names: the twelve names. -/
namespace Go.Proofs.Ythodphgbdmnpoaa
open Go.RowKit Go.Shelf BS

def namV : Array Value := (tabL.map fun e => Value.string e.1).toArray
theorem namV_get (k : Nat) (h : k < 12) : namV[k]? = some (.string (tE k).1) := by
  have h1 : k < tabL.length := h
  simp only [namV, List.getElem?_toArray, List.getElem?_map, List.getElem?_eq_getElem h1, Option.map_some, tE_eq k h] <;> rfl

@[reducible] def tabZ : Array Value := #[.string ⟨#[]⟩, .int .u64 0, .int .u64 0, .int .u64 0, .int .u64 0, .string ⟨#[]⟩, .int .u64 0, .int .u64 0, .int .u64 0, .int .u64 0, .string ⟨#[]⟩, .int .u64 0, .int .u64 0, .int .u64 0, .int .u64 0, .string ⟨#[]⟩, .int .u64 0, .int .u64 0, .int .u64 0, .int .u64 0, .string ⟨#[]⟩, .int .u64 0, .int .u64 0, .int .u64 0, .int .u64 0, .string ⟨#[]⟩, .int .u64 0, .int .u64 0, .int .u64 0, .int .u64 0, .string ⟨#[]⟩, .int .u64 0, .int .u64 0, .int .u64 0, .int .u64 0, .string ⟨#[]⟩, .int .u64 0, .int .u64 0, .int .u64 0, .int .u64 0, .string ⟨#[]⟩, .int .u64 0, .int .u64 0, .int .u64 0, .int .u64 0, .string ⟨#[]⟩, .int .u64 0, .int .u64 0, .int .u64 0, .int .u64 0, .string ⟨#[]⟩, .int .u64 0, .int .u64 0, .int .u64 0, .int .u64 0, .string ⟨#[]⟩, .int .u64 0, .int .u64 0, .int .u64 0, .int .u64 0]
theorem mk12 (w : World) : (Instr.makeSlice 135 (.int .i64 12) (.int .i64 12)).run Try.prog w = .ok (.slice (some ⟨w.heap.size, 0, none⟩) 12 12) (w.alloc (.cells #[.string ⟨#[]⟩, .string ⟨#[]⟩, .string ⟨#[]⟩, .string ⟨#[]⟩, .string ⟨#[]⟩, .string ⟨#[]⟩, .string ⟨#[]⟩, .string ⟨#[]⟩, .string ⟨#[]⟩, .string ⟨#[]⟩, .string ⟨#[]⟩, .string ⟨#[]⟩] 9)) := by kernel_rfl
theorem wpList_store_row {P : Program} {ops : Array Oper} {rest : List Oper} {o : Oper} {a : Act} {w w' : World} {Q : Exit → Act → World → Prop} {cs : Array Value} (hgd : o.guard = none) (ty : TypeId) (x y : Operand) (ho : o.op = .store ty x y)
    (g : Nat) (hx : a.eval x = .pointer (some ⟨g, 0, none⟩)) (hy : a.eval y = .agg cs) (hst : (Instr.storeAt ty (.pointer (some ⟨g, 0, none⟩)) (.agg cs)).run P w = .ok () w') (h : wpList P ops Q rest (a.put o.dst undef) w') : wpList P ops Q (o :: rest) a w :=
  wpList_plain hgd fun _ hK => wp_store_row ty x y ho g hx hy hst (hK _ _ h)

set_option maxRecDepth 100000 in
set_option maxHeartbeats 2000000 in
theorem cNames_calls (w : World) : Calls Try.prog 99 #[] w fun e w' => ∃ g, e = .returned (.slice (some ⟨g, 0, none⟩) 12 12) ∧ (w.heap.size ≤ g ∧ Blk w' g namV 9) ∧ Below w.heap.size w w' := by
  have hmk := mk12
  go_enter Try.func99, Try.ntmps99
  go_wp2_with fail
  refine (table_calls _).mono ?_
  rintro e w1 ⟨rfl, hb1⟩
  go_wp2_with (first
    | (with_reducible refine wpList_store_row (o := ⟨none, .store 133 _ _, _, _, _, _⟩) rfl 133 _ _ rfl w1.heap.size rfl rfl (run_storeAt_new w1 133 tabZ tabV (by kernel_rfl) rfl tabV_one) ?_
       have hbT := Blk.new w1 tabV 133)
    | (with_reducible refine wpList_load_row (o := ⟨_, .load 133 _, _, _, _, _⟩) rfl 133 _ rfl w1.heap.size rfl 133 tabV (0, 0) _ ?_ Try.underlying133 rfl ?_ ?_
       · exact hbT.alloc _
       · kernel_rfl))
  have hbN := Blk.new (w1.alloc (.cells tabV 133)) #[.string ⟨#[]⟩, .string ⟨#[]⟩, .string ⟨#[]⟩, .string ⟨#[]⟩, .string ⟨#[]⟩, .string ⟨#[]⟩, .string ⟨#[]⟩, .string ⟨#[]⟩, .string ⟨#[]⟩, .string ⟨#[]⟩, .string ⟨#[]⟩, .string ⟨#[]⟩] 9
  rw [World.size_alloc] at hbN
  have hB : Below w.heap.size w ((w1.alloc (.cells tabV 133)).alloc (.cells #[.string ⟨#[]⟩, .string ⟨#[]⟩, .string ⟨#[]⟩, .string ⟨#[]⟩, .string ⟨#[]⟩, .string ⟨#[]⟩, .string ⟨#[]⟩, .string ⟨#[]⟩, .string ⟨#[]⟩, .string ⟨#[]⟩, .string ⟨#[]⟩, .string ⟨#[]⟩] 9)) := (hb1.alloc hb1.size _).alloc (by have := hb1.size; simp; omega) _
  clear hbT hmk
  have hz := hb1.size
  have hG : w.heap.size ≤ w1.heap.size + 1 := by omega
  clear hb1 hz
  generalize (w1.alloc (.cells tabV 133)).alloc (.cells #[.string ⟨#[]⟩, .string ⟨#[]⟩, .string ⟨#[]⟩, .string ⟨#[]⟩, .string ⟨#[]⟩, .string ⟨#[]⟩, .string ⟨#[]⟩, .string ⟨#[]⟩, .string ⟨#[]⟩, .string ⟨#[]⟩, .string ⟨#[]⟩, .string ⟨#[]⟩] 9) = w2 at *
  generalize w1.heap.size + 1 = G at *
  go_loopw [8] (fun i wr => ∃ k : Nat, k ≤ 12 ∧ i = .int .i64 k ∧ (∃ vs : Array Value, vs.size = 12 ∧ (∀ j, j < k → vs[j]? = some (.string (tE j).1)) ∧ Blk wr G vs 9) ∧ Below w.heap.size w wr) (fun i _ => 12 - (intOf i).toNat)
  case atStart => exact ⟨0, by omega, rfl, ⟨_, rfl, fun j hj => by omega, hbN⟩, hB⟩
  case round =>
    clear hbN hB
    obtain ⟨k, hk, rfl, ⟨vs, hvs, hno, hb⟩, hB⟩ := hrel
    have HN := Lib.hid hno
    clear hno
    by_cases hkl : k < 12
    · have hix := tab_index k hkl
      have hd : decide (k < 12) = true := by simpa using hkl
      obtain ⟨old, hold⟩ : ∃ old, vs[k]? = some old := ⟨vs[k]'(by omega), by simp [show k < vs.size by omega]⟩
      generalize hnm : (tE k).1 = nm at hix
      generalize (tE k).2 = st at *
      have HNM := Lib.hid hnm
      clear hnm
      have hc := ((hb.alloc (.cells #[.string nm, .int .u64 (wd st 0), .int .u64 (wd st 1), .int .u64 (wd st 2), .int .u64 (wd st 3)] 132)).cell k).trans hold
      have hf := (hb.alloc (.cells #[.string nm, .int .u64 (wd st 0), .int .u64 (wd st 1), .int .u64 (wd st 2), .int .u64 (wd st 3)] 132)).frozen k
      go_wp2
      go_roundw
      case rel =>
        refine ⟨k + 1, by omega, by simp, ⟨vs.setIfInBounds k (.string nm), by simp [hvs], fun j hj => ?_, (hb.alloc _).set k _⟩, ?_⟩
        · by_cases hjk : j = k
          · subst hjk
            rw [HNM.out]
            simp [hvs, hkl]
          · rw [Array.getElem?_setIfInBounds_ne (Ne.symm hjk)]
            exact HN.out j (by omega)
        · exact below_set (hB.alloc hB.size _) hG _ _
      case measure => simp [intOf]; omega
    · obtain rfl : k = 12 := by omega
      have hv : vs = namV := by
        apply Array.ext
        · rw [hvs]; rfl
        · intro i h1 h2
          have e1 := HN.out i (by omega)
          have e2 := namV_get i (by omega)
          rw [Array.getElem?_eq_getElem h1] at e1
          rw [Array.getElem?_eq_getElem h2] at e2
          exact Option.some.inj (e1.trans e2.symm)
      subst hv
      go_wp2
      go_ret
      exact ⟨G, rfl, ⟨hG, hb⟩, hB⟩
end Go.Proofs.Ythodphgbdmnpoaa

/- The document's classes: Of, Begins, Find. -/
namespace Go.Proofs.Ythodphgbdmnpoaa
open Go.RowKit Go.Shelf BS

def NamAt (g : Nat) (W : World) : Prop := Blk W g namV 9
theorem NamAt.cell {g : Nat} {W : World} (h : NamAt g W) (k : Nat) (hk : k < 12) : W.cell? ⟨g, k, none⟩ = some (.string (tE k).1) := (Blk.cell h k).trans (namV_get k hk)

theorem ofS_self : ∀ k, k < 12 → ofS (tE k).1.toList = (tE k).2
  | 0, _ => by decide +kernel
  | 1, _ => by decide +kernel
  | 2, _ => by decide +kernel
  | 3, _ => by decide +kernel
  | 4, _ => by decide +kernel
  | 5, _ => by decide +kernel
  | 6, _ => by decide +kernel
  | 7, _ => by decide +kernel
  | 8, _ => by decide +kernel
  | 9, _ => by decide +kernel
  | 10, _ => by decide +kernel
  | 11, _ => by decide +kernel
  | n + 12, h => by omega
theorem ofB_self : ∀ k, k < 12 → ofB (tE k).1.toList = true := by decide +kernel

end Go.Proofs.Ythodphgbdmnpoaa

/- Brackets, plainly: how the document reads them. -/
namespace Go.Proofs.Ythodphgbdmnpoaa
open Go.RowKit BS

/-- How far a bracket was read. -/
structure BR where
  set : BitVec 256
  pos : Nat
  err : Nat
  place : Nat
  fin : Bool
  neg : Bool

def badR (e p : Nat) : BR := ⟨0, 0, e, p, false, false⟩
def addR (x : BR) (lo hi pos : Nat) : BR := ⟨x.set ||| range lo hi, pos, x.err, x.place, x.fin, x.neg⟩
def spec3 (b : Nat) : Bool := b == 58 || b == 46 || b == 61

/-- A class, of which the name begins at fr. -/
def nameR (s : ByteArray) (fr : Nat) (x : BR) : Nat → Nat → BR
  | 0, _ => badR 2 s.size
  | n + 1, j =>
    if bt s j = 58 then
      if ofB (s.extract fr j).toList = false then badR 5 (j + 1)
      else if s.size ≤ j + 1 then badR 2 s.size
      else if bt s (j + 1) ≠ 93 then badR 3 (j + 2)
      else ⟨x.set ||| ofS (s.extract fr j).toList, j + 2, x.err, x.place, x.fin, x.neg⟩
    else if begB (s.extract fr (j + 1)) = false then badR 5 (j + 1)
    else nameR s fr x n (j + 1)

/-- One thing more, or the end. -/
def thingR (s : ByteArray) (x : BR) (first : Bool) : BR :=
  let i := x.pos
  if s.size ≤ i then badR 2 s.size
  else if bt s i = 93 ∧ first = false then ⟨x.set, i + 1, x.err, x.place, true, x.neg⟩
  else if s.size ≤ i + 1 then badR 2 s.size
  else if bt s i = 91 ∧ bt s (i + 1) = 58 then nameR s (i + 2) x (s.size - (i + 2)) (i + 2)
  else if bt s i = 91 ∧ spec3 (bt s (i + 1)) = true then badR 3 (i + 2)
  else if bt s (i + 1) ≠ 45 then addR x (bt s i) (bt s i) (i + 1)
  else if s.size ≤ i + 2 then badR 2 s.size
  else if bt s (i + 2) = 93 then addR x (bt s i) (bt s i) (i + 1)
  else if bt s (i + 2) < bt s i then badR 4 (i + 3)
  else if bt s (i + 2) = 91 ∧ s.size ≤ i + 3 then badR 2 s.size
  else if bt s (i + 2) = 91 ∧ spec3 (bt s (i + 3)) = true then badR 3 (i + 4)
  else addR x (bt s i) (bt s (i + 2)) (i + 3)

/-- Thing by thing. -/
def loopR (s : ByteArray) : Nat → BR → Bool → BR
  | 0, x, _ => x
  | n + 1, x, first =>
    if x.fin = true then x
    else if (thingR s x first).err ≠ 0 then thingR s x first
    else loopR s n (thingR s x first) false

def startR (s : ByteArray) (a : Nat) : BR := if a + 1 < s.size ∧ bt s (a + 1) = 94 then ⟨0, a + 2, 0, 0, false, true⟩ else ⟨0, a + 1, 0, 0, false, false⟩
def finR (x : BR) : BitVec 256 × Nat × Nat × Nat := if x.err ≠ 0 then (0, 0, x.err, x.place) else (if x.neg = true then ~~~x.set else x.set, x.pos, 0, 0)
def readR (s : ByteArray) (at' : Int) : BitVec 256 × Nat × Nat × Nat :=
  if at' < 0 then (0, 0, 1, 0)
  else if s.size ≤ at'.toNat ∨ bt s at'.toNat ≠ 91 then (0, 0, 1, 0)
  else finR (loopR s (s.size + 1) (startR s at'.toNat) true)

end Go.Proofs.Ythodphgbdmnpoaa

/- Plain facts on how the document reads a bracket. -/
namespace Go.Proofs.Ythodphgbdmnpoaa
open Go.RowKit BS

theorem nameR_ok (s : ByteArray) (fr : Nat) (x : BR) : ∀ n j, n = s.size - j → (nameR s fr x n j).err = 0 → j < (nameR s fr x n j).pos ∧ (nameR s fr x n j).pos ≤ s.size ∧ (nameR s fr x n j).neg = x.neg ∧ (nameR s fr x n j).fin = x.fin
  | 0, j, _, h => by simp [nameR, badR] at h
  | n + 1, j, hn, h => by
    unfold nameR at h ⊢
    split at h
    · rename_i hc
      rw [if_pos hc]
      split at h
      · simp [badR] at h
      · rename_i h1
        rw [if_neg h1]
        split at h
        · simp [badR] at h
        · rename_i h2
          rw [if_neg h2]
          split at h
          · simp [badR] at h
          · rename_i h3
            rw [if_neg h3]
            exact ⟨by simp only; omega, by simp only; omega, rfl, rfl⟩
    · rename_i hc
      rw [if_neg hc]
      split at h
      · simp [badR] at h
      · rename_i h1
        rw [if_neg h1]
        have := nameR_ok s fr x n (j + 1) (by omega) h
        exact ⟨by omega, this.2.1, this.2.2⟩

/-- By cases on a test, both known. -/
theorem ite_ok {α : Type} (P : α → Prop) {c : Prop} [Decidable c] {a b : α} (h1 : c → P a) (h2 : ¬ c → P b) : P (if c then a else b) := by
  by_cases h : c
  · rw [if_pos h]; exact h1 h
  · rw [if_neg h]; exact h2 h
def OkB (s : ByteArray) (x r : BR) : Prop := r.err = 0 → x.pos < r.pos ∧ r.pos ≤ s.size ∧ r.neg = x.neg
theorem okB_bad (s : ByteArray) (x : BR) (e p : Nat) : OkB s x (badR (e + 1) p) := fun h => by simp [badR] at h
theorem okB_add (s : ByteArray) (x : BR) (lo hi p : Nat) (h1 : x.pos < p) (h2 : p ≤ s.size) : OkB s x (addR x lo hi p) := fun _ => ⟨h1, h2, rfl⟩
theorem thingR_okB (s : ByteArray) (x : BR) (first : Bool) : OkB s x (thingR s x first) := by
  unfold thingR
  refine ite_ok _ (fun _ => okB_bad _ _ 1 _) (fun hA => ?_)
  refine ite_ok _ (fun _ _ => ⟨Nat.lt_succ_self _, by simp only; omega, rfl⟩) (fun _ => ?_)
  refine ite_ok _ (fun _ => okB_bad _ _ 1 _) (fun hC => ?_)
  refine ite_ok _ (fun _ h => ?_) (fun _ => ?_)
  · have := nameR_ok s (x.pos + 2) x (s.size - (x.pos + 2)) (x.pos + 2) rfl h
    exact ⟨by omega, this.2.1, this.2.2.1⟩
  refine ite_ok _ (fun _ => okB_bad _ _ 2 _) (fun _ => ?_)
  refine ite_ok _ (fun _ => okB_add _ _ _ _ _ (by omega) (by omega)) (fun _ => ?_)
  refine ite_ok _ (fun _ => okB_bad _ _ 1 _) (fun hG => ?_)
  refine ite_ok _ (fun _ => okB_add _ _ _ _ _ (by omega) (by omega)) (fun _ => ?_)
  refine ite_ok _ (fun _ => okB_bad _ _ 3 _) (fun _ => ?_)
  refine ite_ok _ (fun _ => okB_bad _ _ 1 _) (fun _ => ?_)
  refine ite_ok _ (fun _ => okB_bad _ _ 2 _) (fun _ => ?_)
  exact okB_add _ _ _ _ _ (by omega) (by omega)
theorem thingR_ok (s : ByteArray) (x : BR) (first : Bool) (h : (thingR s x first).err = 0) : x.pos < (thingR s x first).pos ∧ (thingR s x first).pos ≤ s.size ∧ (thingR s x first).neg = x.neg := thingR_okB s x first h
theorem loopR_fin (s : ByteArray) (n : Nat) (x : BR) (first : Bool) (h : x.fin = true) : loopR s (n + 1) x first = x := by rw [loopR, if_pos h]
theorem loopR_err (s : ByteArray) (n : Nat) (x : BR) (first : Bool) (h : x.fin = false) (he : (thingR s x first).err ≠ 0) : loopR s (n + 1) x first = thingR s x first := by rw [loopR, if_neg (by rw [h]; decide), if_pos he]
theorem loopR_on (s : ByteArray) (n : Nat) (x : BR) (first : Bool) (h : x.fin = false) (he : (thingR s x first).err = 0) : loopR s (n + 1) x first = loopR s n (thingR s x first) false := by rw [loopR, if_neg (by rw [h]; decide), if_neg (by rw [he]; decide)]
end Go.Proofs.Ythodphgbdmnpoaa

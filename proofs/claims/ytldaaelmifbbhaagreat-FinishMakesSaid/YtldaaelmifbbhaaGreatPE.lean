/- Texts put together: Ct Ci Cp Ra. -/
import Derived.Test.YtldaaelmifbbhaaGreatPD
import Derived.Test.YtldaaelmifbbhaaGreatPC
import Derived.Laws.Rows
import Derived.Laws.Tables
import Derived.Laws.CopyOwn
import Derived.Deep.DeepCutAuto
import Derived.Lib.Hide
import Derived.Test.YtldaaelmifbbhaaGreatPB
/- class.table: the twelve classes, by names. -/
namespace Go.Proofs.YtldaaelmifbbhaaGreat
open Go.RowKit Go.Shelf BS
attribute [local go_sem] Oper.semAt_some

def cDig : BitVec 256 := range 48 57
def cUpp : BitVec 256 := range 65 90
def cLow : BitVec 256 := range 97 122
def cAlp : BitVec 256 := cUpp ||| cLow
def cAln : BitVec 256 := cAlp ||| cDig
def cGra : BitVec 256 := range 33 126
def cBla : BitVec 256 := withL 0 [9, 32]
def cCnt : BitVec 256 := withL (range 0 31) [127]
def cPri : BitVec 256 := range 32 126
def cPun : BitVec 256 := cGra &&& ~~~cAln
def cSpa : BitVec 256 := withL (range 9 13) [32]
def cXdi : BitVec 256 := cDig ||| (range 65 70 ||| range 97 102)

/-- Names and classes, in their order. -/
def tabL : List (ByteArray × BitVec 256) := [(⟨#[97, 108, 110, 117, 109]⟩, cAln), (⟨#[97, 108, 112, 104, 97]⟩, cAlp), (⟨#[98, 108, 97, 110, 107]⟩, cBla), (⟨#[99, 110, 116, 114, 108]⟩, cCnt), (⟨#[100, 105, 103, 105, 116]⟩, cDig), (⟨#[103, 114, 97, 112, 104]⟩, cGra), (⟨#[108, 111, 119, 101, 114]⟩, cLow), (⟨#[112, 114, 105, 110, 116]⟩, cPri), (⟨#[112, 117, 110, 99, 116]⟩, cPun), (⟨#[115, 112, 97, 99, 101]⟩, cSpa), (⟨#[117, 112, 112, 101, 114]⟩, cUpp), (⟨#[120, 100, 105, 103, 105, 116]⟩, cXdi)]
def entV (e : ByteArray × BitVec 256) : List Value := [.string e.1, .int .u64 (wd e.2 0), .int .u64 (wd e.2 1), .int .u64 (wd e.2 2), .int .u64 (wd e.2 3)]
def tabV : Array Value := (tabL.flatMap entV).toArray

theorem with_calls' (s : BitVec 256) (a : Option Addr) (len cap : Nat) (l : List (Fin 256)) (hreach : l.length ≤ 9223372036854775807) (w : World) (hI : BytesAt w.heap.size w (.slice a len cap) l) :
    Calls Tryz.prog 134 #[setV s, .slice a len cap] w fun e W' => e = .returned (setV (withL s l)) ∧ Below w.heap.size w W' :=
  callsIn_wide.1 (with_in 3 (by omega) s _ a len cap rfl l hreach w hI)
theorem BytesAt.le {n n' : Nat} {W : World} {v : Value} {l : List (Fin 256)} (h : BytesAt n W v l) (hn : n ≤ n') : BytesAt n' W v l := by
  obtain ⟨a, cap, e, h⟩ := h
  refine ⟨a, cap, e, fun hne => ?_⟩
  obtain ⟨b, off, e, hlt, hc⟩ := h hne
  exact ⟨b, off, e, by omega, hc⟩
theorem BytesAt.step {W W' : World} {v : Value} {l : List (Fin 256)} (h : BytesAt W.heap.size W v l) (hb : Below W.heap.size W W') : BytesAt W'.heap.size W' v l := (h.keep hb).le hb.size
def byW (l : List (Fin 256)) : Array Value := (l.map fun (x : Fin 256) => Value.int .u8 (x.val : Int)).toArray
/-- A new block of bytes. -/
theorem bytes_new (W : World) (t : TypeId) (l : List (Fin 256)) : BytesAt (W.alloc (.cells (byW l) t)).heap.size (W.alloc (.cells (byW l) t)) (.slice (some ⟨W.heap.size, 0, none⟩) l.length l.length) l := by
  refine ⟨_, l.length, rfl, fun _ => ⟨W.heap.size, 0, rfl, by simp, fun j hj => ?_⟩⟩
  rw [Nat.zero_add, (Blk.new W _ t).cell j]
  simp [byW, hj]

theorem Deps.get {md : Region.Mode} {ops : Array Oper} {V : Nat → Value → World → Prop} {o oj : Oper} {a : Act} {w : World} {k d : Nat} (h : Deps md ops V o a w) (hk : (o.after.any fun e => Region.binds md e && e.on == k) = true) (hj : ops[k]? = some oj) (hd : oj.dst = some d) : V k (a.tmps.getD d undef) w := by
  simp only [Array.any_eq_true', Bool.and_eq_true, beq_iff_eq] at hk
  obtain ⟨e, he, hb, rfl⟩ := hk
  exact h e he hb oj d hj hd
theorem rangeC (x y : Nat) (w : World) (hx : x < 256) (hy : y < 256) : Calls Tryz.prog 151 #[.int .u8 x, .int .u8 y] w fun e w' => e = .returned (setV (range x y)) ∧ Below w.heap.size w w' := by
  have h := range_calls x y w (by omega) (by omega) (by omega) (by omega)
  rw [Int.toNat_natCast, Int.toNat_natCast] at h; exact h
def UT : Nat → List Value → Value → Prop
  | 0, _, v => v = setV cAln
  | 1, _, v => v = .agg #[.string ⟨#[97, 108, 110, 117, 109]⟩, .int .u64 (wd cAln 0), .int .u64 (wd cAln 1), .int .u64 (wd cAln 2), .int .u64 (wd cAln 3)]
  | 2, _, v => v = setV cAlp
  | 3, _, v => v = .agg #[.string ⟨#[97, 108, 112, 104, 97]⟩, .int .u64 (wd cAlp 0), .int .u64 (wd cAlp 1), .int .u64 (wd cAlp 2), .int .u64 (wd cAlp 3)]
  | 4, _, v => v = setV 0
  | 5, _, v => ∃ a, v = .slice a 2 2
  | 6, _, v => v = setV cBla
  | 7, _, v => v = .agg #[.string ⟨#[98, 108, 97, 110, 107]⟩, .int .u64 (wd cBla 0), .int .u64 (wd cBla 1), .int .u64 (wd cBla 2), .int .u64 (wd cBla 3)]
  | 8, _, v => v = setV (range 0 31)
  | 9, _, v => ∃ a, v = .slice a 1 1
  | 10, _, v => v = setV cCnt
  | 11, _, v => v = .agg #[.string ⟨#[99, 110, 116, 114, 108]⟩, .int .u64 (wd cCnt 0), .int .u64 (wd cCnt 1), .int .u64 (wd cCnt 2), .int .u64 (wd cCnt 3)]
  | 12, _, v => v = setV cDig
  | 13, _, v => v = .agg #[.string ⟨#[100, 105, 103, 105, 116]⟩, .int .u64 (wd cDig 0), .int .u64 (wd cDig 1), .int .u64 (wd cDig 2), .int .u64 (wd cDig 3)]
  | 14, _, v => v = setV cGra
  | 15, _, v => v = .agg #[.string ⟨#[103, 114, 97, 112, 104]⟩, .int .u64 (wd cGra 0), .int .u64 (wd cGra 1), .int .u64 (wd cGra 2), .int .u64 (wd cGra 3)]
  | 16, _, v => v = setV cLow
  | 17, _, v => v = .agg #[.string ⟨#[108, 111, 119, 101, 114]⟩, .int .u64 (wd cLow 0), .int .u64 (wd cLow 1), .int .u64 (wd cLow 2), .int .u64 (wd cLow 3)]
  | 18, _, v => v = setV cPri
  | 19, _, v => v = .agg #[.string ⟨#[112, 114, 105, 110, 116]⟩, .int .u64 (wd cPri 0), .int .u64 (wd cPri 1), .int .u64 (wd cPri 2), .int .u64 (wd cPri 3)]
  | 20, _, v => v = setV cGra
  | 21, _, v => v = setV cAln
  | 22, _, v => v = setV cPun
  | 23, _, v => v = .agg #[.string ⟨#[112, 117, 110, 99, 116]⟩, .int .u64 (wd cPun 0), .int .u64 (wd cPun 1), .int .u64 (wd cPun 2), .int .u64 (wd cPun 3)]
  | 24, _, v => v = setV (range 9 13)
  | 25, _, v => ∃ a, v = .slice a 1 1
  | 26, _, v => v = setV cSpa
  | 27, _, v => v = .agg #[.string ⟨#[115, 112, 97, 99, 101]⟩, .int .u64 (wd cSpa 0), .int .u64 (wd cSpa 1), .int .u64 (wd cSpa 2), .int .u64 (wd cSpa 3)]
  | 28, _, v => v = setV cUpp
  | 29, _, v => v = .agg #[.string ⟨#[117, 112, 112, 101, 114]⟩, .int .u64 (wd cUpp 0), .int .u64 (wd cUpp 1), .int .u64 (wd cUpp 2), .int .u64 (wd cUpp 3)]
  | 30, _, v => v = setV cDig
  | 31, _, v => v = setV (range 65 70)
  | 32, _, v => v = setV (range 97 102)
  | 33, _, v => v = setV (range 65 70 ||| range 97 102)
  | 34, _, v => v = setV cXdi
  | 35, _, v => v = .agg #[.string ⟨#[120, 100, 105, 103, 105, 116]⟩, .int .u64 (wd cXdi 0), .int .u64 (wd cXdi 1), .int .u64 (wd cXdi 2), .int .u64 (wd cXdi 3)]
  | 36, _, v => v = .agg tabV
  | _, _, _ => True
def VT : Nat → Value → World → Prop
  | 5, v, w => BytesAt w.heap.size w v [9, 32]
  | 9, v, w => BytesAt w.heap.size w v [127]
  | 25, v, w => BytesAt w.heap.size w v [32]
  | _, _, _ => True
theorem keepVT : ∀ i v w w', Below w.heap.size w w' → VT i v w → VT i v w' := by
  intro i v w w' hb h
  unfold VT at *
  split <;> first | exact BytesAt.step h hb | trivial

theorem tabV_one : (tabV.all fun x => x.oneCell') = true := by simp [tabV, tabL, entV, Value.oneCell']
theorem setA_withL (l : List (Fin 256)) : withL 0 l = withL 0 l := rfl
theorem empty_set : (Value.agg #[.int .u64 0, .int .u64 0, .int .u64 0, .int .u64 0]) = setV 0 := rfl
theorem zero_blk (W : World) : (W.alloc (.cells (Array.replicate 4 (Value.int .u64 0)) 38)) = W.alloc (.cells (setA 0) 38) := rfl

theorem dig_c (w : World) : Calls Tryz.prog 151 #[.int .u8 48, .int .u8 57] w fun e w' => e = .returned (setV cDig) ∧ Below w.heap.size w w' := rangeC 48 57 w (by decide) (by decide)
theorem upp_c (w : World) : Calls Tryz.prog 151 #[.int .u8 65, .int .u8 90] w fun e w' => e = .returned (setV cUpp) ∧ Below w.heap.size w w' := rangeC 65 90 w (by decide) (by decide)
theorem low_c (w : World) : Calls Tryz.prog 151 #[.int .u8 97, .int .u8 122] w fun e w' => e = .returned (setV cLow) ∧ Below w.heap.size w w' := rangeC 97 122 w (by decide) (by decide)
theorem alp_c (w : World) : Calls Tryz.prog 145 #[setV cUpp, setV cLow] w fun e w' => e = .returned (setV cAlp) ∧ Below w.heap.size w w' := or_calls cUpp cLow w
theorem aln_c (w : World) : Calls Tryz.prog 145 #[setV cAlp, setV cDig] w fun e w' => e = .returned (setV cAln) ∧ Below w.heap.size w w' := or_calls cAlp cDig w
theorem gra_c (w : World) : Calls Tryz.prog 151 #[.int .u8 33, .int .u8 126] w fun e w' => e = .returned (setV cGra) ∧ Below w.heap.size w w' := rangeC 33 126 w (by decide) (by decide)
theorem pri_c (w : World) : Calls Tryz.prog 151 #[.int .u8 32, .int .u8 126] w fun e w' => e = .returned (setV cPri) ∧ Below w.heap.size w w' := rangeC 32 126 w (by decide) (by decide)
theorem r31_c (w : World) : Calls Tryz.prog 151 #[.int .u8 0, .int .u8 31] w fun e w' => e = .returned (setV (range 0 31)) ∧ Below w.heap.size w w' := rangeC 0 31 w (by decide) (by decide)
theorem r13_c (w : World) : Calls Tryz.prog 151 #[.int .u8 9, .int .u8 13] w fun e w' => e = .returned (setV (range 9 13)) ∧ Below w.heap.size w w' := rangeC 9 13 w (by decide) (by decide)
theorem r65_c (w : World) : Calls Tryz.prog 151 #[.int .u8 65, .int .u8 70] w fun e w' => e = .returned (setV (range 65 70)) ∧ Below w.heap.size w w' := rangeC 65 70 w (by decide) (by decide)
theorem r97_c (w : World) : Calls Tryz.prog 151 #[.int .u8 97, .int .u8 102] w fun e w' => e = .returned (setV (range 97 102)) ∧ Below w.heap.size w w' := rangeC 97 102 w (by decide) (by decide)
theorem pun_c (w : World) : Calls Tryz.prog 155 #[setV cGra, setV cAln] w fun e w' => e = .returned (setV cPun) ∧ Below w.heap.size w w' := less_calls cGra cAln w
theorem xd1_c (w : World) : Calls Tryz.prog 145 #[setV (range 65 70), setV (range 97 102)] w fun e w' => e = .returned (setV (range 65 70 ||| range 97 102)) ∧ Below w.heap.size w w' := or_calls _ _ w
theorem xdi_c (w : World) : Calls Tryz.prog 145 #[setV cDig, setV (range 65 70 ||| range 97 102)] w fun e w' => e = .returned (setV cXdi) ∧ Below w.heap.size w w' := or_calls cDig (range 65 70 ||| range 97 102) w
def tab0 : Array Value := #[.string ⟨#[]⟩, .int .u64 0, .int .u64 0, .int .u64 0, .int .u64 0, .string ⟨#[]⟩, .int .u64 0, .int .u64 0, .int .u64 0, .int .u64 0, .string ⟨#[]⟩, .int .u64 0, .int .u64 0, .int .u64 0, .int .u64 0, .string ⟨#[]⟩, .int .u64 0, .int .u64 0, .int .u64 0, .int .u64 0, .string ⟨#[]⟩, .int .u64 0, .int .u64 0, .int .u64 0, .int .u64 0, .string ⟨#[]⟩, .int .u64 0, .int .u64 0, .int .u64 0, .int .u64 0, .string ⟨#[]⟩, .int .u64 0, .int .u64 0, .int .u64 0, .int .u64 0, .string ⟨#[]⟩, .int .u64 0, .int .u64 0, .int .u64 0, .int .u64 0, .string ⟨#[]⟩, .int .u64 0, .int .u64 0, .int .u64 0, .int .u64 0, .string ⟨#[]⟩, .int .u64 0, .int .u64 0, .int .u64 0, .int .u64 0, .string ⟨#[]⟩, .int .u64 0, .int .u64 0, .int .u64 0, .int .u64 0, .string ⟨#[]⟩, .int .u64 0, .int .u64 0, .int .u64 0, .int .u64 0]

set_option maxRecDepth 100000 in
set_option maxHeartbeats 4000000 in
theorem table_calls (w : World) : Calls Tryz.prog 152 #[] w fun e w' => e = .returned (.agg tabV) ∧ Below w.heap.size w w' := by
  go_enter Tryz.func152, Tryz.ntmps152
  go_wp2_with fail
  have b0 := Blk.new w tab0 190
  have hB0 : Below w.heap.size w (w.alloc (.cells tab0 190)) := by go_grown
  have hz0 : (w.alloc (.cells tab0 190)).heap.size ≤ w.heap.size + 1 ∧ w.heap.size + 1 ≤ (w.alloc (.cells tab0 190)).heap.size := by simp
  have BR := Lib.hid b0
  have HB := Lib.hid hB0
  clear b0 hB0
  show Calls _ _ _ (w.alloc (.cells tab0 190)) _
  generalize w.alloc (.cells tab0 190) = w0 at *
  refine (dig_c _).mono ?_
  rintro e v1 ⟨rfl, hb⟩
  have hz := hb.size
  have BR' := Lib.hid ((BR.out.below hb (by omega)).alloc (.cells (setA cDig) 38))
  have HB' := Lib.hid ((HB.out.trans (hb.mono (by omega))).alloc (by omega) (.cells (setA cDig) 38))
  have B1 := Lib.hid (Blk.new v1 (setA cDig) 38)
  clear BR HB hb
  have hz1 : (v1.alloc (.cells (setA cDig) 38)).heap.size ≤ v1.heap.size + 1 ∧ v1.heap.size + 1 ≤ (v1.alloc (.cells (setA cDig) 38)).heap.size := by simp
  have BR := BR'
  have HB := HB'
  clear BR' HB'
  go_wp2_with fail
  have e0 : (v1.alloc (.cells #[.int .u64 (wd cDig 0), .int .u64 (wd cDig 1), .int .u64 (wd cDig 2), .int .u64 (wd cDig 3)] 38)) = v1.alloc (.cells (setA cDig) 38) := rfl
  rw [e0]
  clear e0
  generalize v1.alloc (.cells (setA cDig) 38) = w1 at *
  refine (upp_c _).mono ?_
  rintro e v2 ⟨rfl, hb⟩
  have hz := hb.size
  have BR' := Lib.hid ((BR.out.below hb (by omega)).alloc (.cells (setA cUpp) 38))
  have HB' := Lib.hid ((HB.out.trans (hb.mono (by omega))).alloc (by omega) (.cells (setA cUpp) 38))
  have B1' := Lib.hid ((B1.out.below hb (by omega)).alloc (.cells (setA cUpp) 38))
  have B2 := Lib.hid (Blk.new v2 (setA cUpp) 38)
  clear BR HB hb B1
  have hz2 : (v2.alloc (.cells (setA cUpp) 38)).heap.size ≤ v2.heap.size + 1 ∧ v2.heap.size + 1 ≤ (v2.alloc (.cells (setA cUpp) 38)).heap.size := by simp
  have BR := BR'
  have HB := HB'
  clear BR' HB'
  have B1 := B1'
  clear B1'
  go_wp2_with fail
  have e0 : (v2.alloc (.cells #[.int .u64 (wd cUpp 0), .int .u64 (wd cUpp 1), .int .u64 (wd cUpp 2), .int .u64 (wd cUpp 3)] 38)) = v2.alloc (.cells (setA cUpp) 38) := rfl
  rw [e0]
  clear e0
  generalize v2.alloc (.cells (setA cUpp) 38) = w2 at *
  refine (low_c _).mono ?_
  rintro e v3 ⟨rfl, hb⟩
  have hz := hb.size
  have BR' := Lib.hid ((BR.out.below hb (by omega)).alloc (.cells (setA cLow) 38))
  have HB' := Lib.hid ((HB.out.trans (hb.mono (by omega))).alloc (by omega) (.cells (setA cLow) 38))
  have B1' := Lib.hid ((B1.out.below hb (by omega)).alloc (.cells (setA cLow) 38))
  have B2' := Lib.hid ((B2.out.below hb (by omega)).alloc (.cells (setA cLow) 38))
  have B3 := Lib.hid (Blk.new v3 (setA cLow) 38)
  clear BR HB hb B1 B2
  have hz3 : (v3.alloc (.cells (setA cLow) 38)).heap.size ≤ v3.heap.size + 1 ∧ v3.heap.size + 1 ≤ (v3.alloc (.cells (setA cLow) 38)).heap.size := by simp
  have BR := BR'
  have HB := HB'
  clear BR' HB'
  have B1 := B1'
  clear B1'
  have B2 := B2'
  clear B2'
  obtain ⟨⟨c0, c1, c2, c3⟩, _⟩ := B2.out.cells4
  obtain ⟨⟨d0, d1, d2, d3⟩, _⟩ := B3.out.cells4
  go_wp2_with fail
  have e0 : (v3.alloc (.cells #[.int .u64 (wd cLow 0), .int .u64 (wd cLow 1), .int .u64 (wd cLow 2), .int .u64 (wd cLow 3)] 38)) = v3.alloc (.cells (setA cLow) 38) := rfl
  rw [e0]
  clear e0
  generalize v3.alloc (.cells (setA cLow) 38) = w3 at *
  refine (alp_c _).mono ?_
  rintro e v4 ⟨rfl, hb⟩
  have hz := hb.size
  have BR' := Lib.hid ((BR.out.below hb (by omega)).alloc (.cells (setA cAlp) 38))
  have HB' := Lib.hid ((HB.out.trans (hb.mono (by omega))).alloc (by omega) (.cells (setA cAlp) 38))
  have B1' := Lib.hid ((B1.out.below hb (by omega)).alloc (.cells (setA cAlp) 38))
  have B2' := Lib.hid ((B2.out.below hb (by omega)).alloc (.cells (setA cAlp) 38))
  have B3' := Lib.hid ((B3.out.below hb (by omega)).alloc (.cells (setA cAlp) 38))
  have B4 := Lib.hid (Blk.new v4 (setA cAlp) 38)
  clear BR HB hb B1 B2 B3
  have hz4 : (v4.alloc (.cells (setA cAlp) 38)).heap.size ≤ v4.heap.size + 1 ∧ v4.heap.size + 1 ≤ (v4.alloc (.cells (setA cAlp) 38)).heap.size := by simp
  have BR := BR'
  have HB := HB'
  clear BR' HB'
  have B1 := B1'
  clear B1'
  have B2 := B2'
  clear B2'
  have B3 := B3'
  clear B3'
  clear c0 c1 c2 c3 d0 d1 d2 d3
  obtain ⟨⟨c0, c1, c2, c3⟩, _⟩ := B4.out.cells4
  obtain ⟨⟨d0, d1, d2, d3⟩, _⟩ := B1.out.cells4
  go_wp2_with fail
  have e0 : (v4.alloc (.cells #[.int .u64 (wd cAlp 0), .int .u64 (wd cAlp 1), .int .u64 (wd cAlp 2), .int .u64 (wd cAlp 3)] 38)) = v4.alloc (.cells (setA cAlp) 38) := rfl
  rw [e0]
  clear e0
  generalize v4.alloc (.cells (setA cAlp) 38) = w4 at *
  refine (aln_c _).mono ?_
  rintro e v5 ⟨rfl, hb⟩
  have hz := hb.size
  have BR' := Lib.hid ((BR.out.below hb (by omega)).alloc (.cells (setA cAln) 38))
  have HB' := Lib.hid ((HB.out.trans (hb.mono (by omega))).alloc (by omega) (.cells (setA cAln) 38))
  have B1' := Lib.hid ((B1.out.below hb (by omega)).alloc (.cells (setA cAln) 38))
  have B2' := Lib.hid ((B2.out.below hb (by omega)).alloc (.cells (setA cAln) 38))
  have B3' := Lib.hid ((B3.out.below hb (by omega)).alloc (.cells (setA cAln) 38))
  have B4' := Lib.hid ((B4.out.below hb (by omega)).alloc (.cells (setA cAln) 38))
  have B5 := Lib.hid (Blk.new v5 (setA cAln) 38)
  clear BR HB hb B1 B2 B3 B4
  have hz5 : (v5.alloc (.cells (setA cAln) 38)).heap.size ≤ v5.heap.size + 1 ∧ v5.heap.size + 1 ≤ (v5.alloc (.cells (setA cAln) 38)).heap.size := by simp
  have BR := BR'
  have HB := HB'
  clear BR' HB'
  have B1 := B1'
  clear B1'
  have B2 := B2'
  clear B2'
  have B3 := B3'
  clear B3'
  have B4 := B4'
  clear B4'
  clear c0 c1 c2 c3 d0 d1 d2 d3
  go_wp2_with fail
  have e0 : (v5.alloc (.cells #[.int .u64 (wd cAln 0), .int .u64 (wd cAln 1), .int .u64 (wd cAln 2), .int .u64 (wd cAln 3)] 38)) = v5.alloc (.cells (setA cAln) 38) := rfl
  rw [e0]
  clear e0
  generalize v5.alloc (.cells (setA cAln) 38) = w5 at *
  refine (gra_c _).mono ?_
  rintro e v6 ⟨rfl, hb⟩
  have hz := hb.size
  have BR' := Lib.hid ((BR.out.below hb (by omega)).alloc (.cells (setA cGra) 38))
  have HB' := Lib.hid ((HB.out.trans (hb.mono (by omega))).alloc (by omega) (.cells (setA cGra) 38))
  have B1' := Lib.hid ((B1.out.below hb (by omega)).alloc (.cells (setA cGra) 38))
  have B2' := Lib.hid ((B2.out.below hb (by omega)).alloc (.cells (setA cGra) 38))
  have B3' := Lib.hid ((B3.out.below hb (by omega)).alloc (.cells (setA cGra) 38))
  have B4' := Lib.hid ((B4.out.below hb (by omega)).alloc (.cells (setA cGra) 38))
  have B5' := Lib.hid ((B5.out.below hb (by omega)).alloc (.cells (setA cGra) 38))
  have B6 := Lib.hid (Blk.new v6 (setA cGra) 38)
  clear BR HB hb B1 B2 B3 B4 B5
  have hz6 : (v6.alloc (.cells (setA cGra) 38)).heap.size ≤ v6.heap.size + 1 ∧ v6.heap.size + 1 ≤ (v6.alloc (.cells (setA cGra) 38)).heap.size := by simp
  have BR := BR'
  have HB := HB'
  clear BR' HB'
  have B1 := B1'
  clear B1'
  have B2 := B2'
  clear B2'
  have B3 := B3'
  clear B3'
  have B4 := B4'
  clear B4'
  have B5 := B5'
  clear B5'
  go_wp2_with fail
  have e0 : (v6.alloc (.cells #[.int .u64 (wd cGra 0), .int .u64 (wd cGra 1), .int .u64 (wd cGra 2), .int .u64 (wd cGra 3)] 38)) = v6.alloc (.cells (setA cGra) 38) := rfl
  rw [e0]
  clear e0
  generalize v6.alloc (.cells (setA cGra) 38) = w6 at *
  have hS0 : Below w6.heap.size w6 w6.drew := (Below.refl _ _).drew
  refine region_stepsRM (S := fun W => Below w6.heap.size w6 W) (U := UT) (V := VT) (m := 37) rfl (by kernel_rfl) (fun _ _ hb hs => hs.trans (hb.mono hs.size)) keepVT (by kernel_rfl) hS0 ?_
  clear hS0
  simp only [List.size_toArray, List.length_cons, List.length_nil, Nat.reduceAdd, Array.replicate_succ, Array.replicate_zero, List.push_toArray, List.nil_append, List.cons_append]
  refine AnyRM.step (i := 0) (d := some 17) rfl rfl (by kernel_rfl) (by kernel_rfl) (by kernel_rfl) (by kernel_rfl) (by kernel_rfl) ?_ ?_ ?_
  · exact ⟨_, rfl⟩
  · refine StepsR.yield (setV cAln) rfl (by kernel_rfl) (fun w' hS hD => ⟨?_, trivial⟩)
    obtain ⟨⟨c0, c1, c2, c3⟩, _⟩ := (B5.out.below hS (Blk.lt B5.out)).cells4; clear hS hD; go_simp
    try rfl
  intro v' hv' a' ha'
  have hv' : setV cAln = v' := Eq.symm hv'
  subst hv'
  simp only [Act.put, List.setIfInBounds_toArray, List.set_cons_zero, List.set_cons_succ] at ha'
  subst ha'
  refine AnyRM.step (i := 1) (d := some 18) rfl rfl (by kernel_rfl) (by kernel_rfl) (by kernel_rfl) (by kernel_rfl) (by kernel_rfl) ?_ ?_ ?_
  · exact ⟨_, rfl⟩
  · refine StepsR.yield (.agg #[.string ⟨#[97, 108, 110, 117, 109]⟩, .int .u64 (wd cAln 0), .int .u64 (wd cAln 1), .int .u64 (wd cAln 2), .int .u64 (wd cAln 3)]) rfl (by kernel_rfl) (fun w' hS hD => ⟨?_, trivial⟩)
    clear hS hD; go_simp
    try rfl
  intro v' hv' a' ha'
  have hv' : .agg #[.string ⟨#[97, 108, 110, 117, 109]⟩, .int .u64 (wd cAln 0), .int .u64 (wd cAln 1), .int .u64 (wd cAln 2), .int .u64 (wd cAln 3)] = v' := Eq.symm hv'
  subst hv'
  simp only [Act.put, List.setIfInBounds_toArray, List.set_cons_zero, List.set_cons_succ] at ha'
  subst ha'
  refine AnyRM.step (i := 2) (d := some 19) rfl rfl (by kernel_rfl) (by kernel_rfl) (by kernel_rfl) (by kernel_rfl) (by kernel_rfl) ?_ ?_ ?_
  · exact ⟨_, rfl⟩
  · refine StepsR.yield (setV cAlp) rfl (by kernel_rfl) (fun w' hS hD => ⟨?_, trivial⟩)
    obtain ⟨⟨c0, c1, c2, c3⟩, _⟩ := (B4.out.below hS (Blk.lt B4.out)).cells4; clear hS hD; go_simp
    try rfl
  intro v' hv' a' ha'
  have hv' : setV cAlp = v' := Eq.symm hv'
  subst hv'
  simp only [Act.put, List.setIfInBounds_toArray, List.set_cons_zero, List.set_cons_succ] at ha'
  subst ha'
  refine AnyRM.step (i := 3) (d := some 20) rfl rfl (by kernel_rfl) (by kernel_rfl) (by kernel_rfl) (by kernel_rfl) (by kernel_rfl) ?_ ?_ ?_
  · exact ⟨_, rfl⟩
  · refine StepsR.yield (.agg #[.string ⟨#[97, 108, 112, 104, 97]⟩, .int .u64 (wd cAlp 0), .int .u64 (wd cAlp 1), .int .u64 (wd cAlp 2), .int .u64 (wd cAlp 3)]) rfl (by kernel_rfl) (fun w' hS hD => ⟨?_, trivial⟩)
    clear hS hD; go_simp
    try rfl
  intro v' hv' a' ha'
  have hv' : .agg #[.string ⟨#[97, 108, 112, 104, 97]⟩, .int .u64 (wd cAlp 0), .int .u64 (wd cAlp 1), .int .u64 (wd cAlp 2), .int .u64 (wd cAlp 3)] = v' := Eq.symm hv'
  subst hv'
  simp only [Act.put, List.setIfInBounds_toArray, List.set_cons_zero, List.set_cons_succ] at ha'
  subst ha'
  refine AnyRM.step (i := 4) (d := some 21) rfl rfl (by kernel_rfl) (by kernel_rfl) (by kernel_rfl) (by kernel_rfl) (by kernel_rfl) ?_ ?_ ?_
  · exact ⟨_, rfl⟩
  · refine StepsR.yield (setV 0) rfl (by kernel_rfl) (fun w' hS hD => ⟨?_, trivial⟩)
    clear hS hD; go_simp
    exact ⟨rfl, rfl, rfl, rfl⟩
  intro v' hv' a' ha'
  have hv' : setV 0 = v' := Eq.symm hv'
  subst hv'
  simp only [Act.put, List.setIfInBounds_toArray, List.set_cons_zero, List.set_cons_succ] at ha'
  subst ha'
  refine AnyRM.step (i := 5) (d := some 22) rfl rfl (by kernel_rfl) (by kernel_rfl) (by kernel_rfl) (by kernel_rfl) (by kernel_rfl) ?_ ?_ ?_
  · exact ⟨_, none, rfl⟩
  · refine StepsR.made (by kernel_rfl) (fun w' hS hD => ?_)
    clear hS hD
    refine ⟨.slice (some ⟨w'.heap.size, 0, none⟩) 2 2, w'.alloc (.cells (byW [9, 32]) 5), ?_, ⟨_, rfl⟩, bytes_new w' _ [9, 32], by go_grown⟩
    go_simp
    try rfl
  rintro v' ⟨a5, rfl⟩ a' ha'
  simp only [Act.put, List.setIfInBounds_toArray, List.set_cons_zero, List.set_cons_succ] at ha'
  subst ha'
  refine AnyRM.step (i := 6) (d := some 23) rfl rfl (by kernel_rfl) (by kernel_rfl) (by kernel_rfl) (by kernel_rfl) (by kernel_rfl) ?_ ?_ ?_
  · exact ⟨_, rfl⟩
  · refine StepsR.call (by kernel_rfl) (fun w' hS => by clear hS; go_simp) (fun w' hS hD => (with_calls' 0 a5 2 2 [9, 32] (by decide) w' (hD.get (k := 5) (by kernel_rfl) rfl rfl)).mono ?_)
    rintro e w'' ⟨rfl, hb⟩
    exact ⟨_, rfl, rfl, trivial, hb⟩
  intro v' hv' a' ha'
  have hv' : setV cBla = v' := Eq.symm hv'
  subst hv'
  simp only [Act.put, List.setIfInBounds_toArray, List.set_cons_zero, List.set_cons_succ] at ha'
  subst ha'
  refine AnyRM.step (i := 7) (d := some 24) rfl rfl (by kernel_rfl) (by kernel_rfl) (by kernel_rfl) (by kernel_rfl) (by kernel_rfl) ?_ ?_ ?_
  · exact ⟨_, rfl⟩
  · refine StepsR.yield (.agg #[.string ⟨#[98, 108, 97, 110, 107]⟩, .int .u64 (wd cBla 0), .int .u64 (wd cBla 1), .int .u64 (wd cBla 2), .int .u64 (wd cBla 3)]) rfl (by kernel_rfl) (fun w' hS hD => ⟨?_, trivial⟩)
    clear hS hD; go_simp
    try rfl
  intro v' hv' a' ha'
  have hv' : .agg #[.string ⟨#[98, 108, 97, 110, 107]⟩, .int .u64 (wd cBla 0), .int .u64 (wd cBla 1), .int .u64 (wd cBla 2), .int .u64 (wd cBla 3)] = v' := Eq.symm hv'
  subst hv'
  simp only [Act.put, List.setIfInBounds_toArray, List.set_cons_zero, List.set_cons_succ] at ha'
  subst ha'
  refine AnyRM.step (i := 8) (d := some 25) rfl rfl (by kernel_rfl) (by kernel_rfl) (by kernel_rfl) (by kernel_rfl) (by kernel_rfl) ?_ ?_ ?_
  · exact ⟨_, rfl⟩
  · refine StepsR.call (by kernel_rfl) (fun w' hS => by clear hS; go_simp) (fun w' hS hD => (r31_c w').mono ?_)
    rintro e w'' ⟨rfl, hb⟩
    exact ⟨_, rfl, rfl, trivial, hb⟩
  intro v' hv' a' ha'
  have hv' : setV (range 0 31) = v' := Eq.symm hv'
  subst hv'
  simp only [Act.put, List.setIfInBounds_toArray, List.set_cons_zero, List.set_cons_succ] at ha'
  subst ha'
  refine AnyRM.step (i := 9) (d := some 26) rfl rfl (by kernel_rfl) (by kernel_rfl) (by kernel_rfl) (by kernel_rfl) (by kernel_rfl) ?_ ?_ ?_
  · exact ⟨_, none, rfl⟩
  · refine StepsR.made (by kernel_rfl) (fun w' hS hD => ?_)
    clear hS hD
    refine ⟨.slice (some ⟨w'.heap.size, 0, none⟩) 1 1, w'.alloc (.cells (byW [127]) 5), ?_, ⟨_, rfl⟩, bytes_new w' _ [127], by go_grown⟩
    go_simp
    try rfl
  rintro v' ⟨a9, rfl⟩ a' ha'
  simp only [Act.put, List.setIfInBounds_toArray, List.set_cons_zero, List.set_cons_succ] at ha'
  subst ha'
  refine AnyRM.step (i := 10) (d := some 27) rfl rfl (by kernel_rfl) (by kernel_rfl) (by kernel_rfl) (by kernel_rfl) (by kernel_rfl) ?_ ?_ ?_
  · exact ⟨_, rfl⟩
  · refine StepsR.call (by kernel_rfl) (fun w' hS => by clear hS; go_simp) (fun w' hS hD => (with_calls' (range 0 31) a9 1 1 [127] (by decide) w' (hD.get (k := 9) (by kernel_rfl) rfl rfl)).mono ?_)
    rintro e w'' ⟨rfl, hb⟩
    exact ⟨_, rfl, rfl, trivial, hb⟩
  intro v' hv' a' ha'
  have hv' : setV cCnt = v' := Eq.symm hv'
  subst hv'
  simp only [Act.put, List.setIfInBounds_toArray, List.set_cons_zero, List.set_cons_succ] at ha'
  subst ha'
  refine AnyRM.step (i := 11) (d := some 28) rfl rfl (by kernel_rfl) (by kernel_rfl) (by kernel_rfl) (by kernel_rfl) (by kernel_rfl) ?_ ?_ ?_
  · exact ⟨_, rfl⟩
  · refine StepsR.yield (.agg #[.string ⟨#[99, 110, 116, 114, 108]⟩, .int .u64 (wd cCnt 0), .int .u64 (wd cCnt 1), .int .u64 (wd cCnt 2), .int .u64 (wd cCnt 3)]) rfl (by kernel_rfl) (fun w' hS hD => ⟨?_, trivial⟩)
    clear hS hD; go_simp
    try rfl
  intro v' hv' a' ha'
  have hv' : .agg #[.string ⟨#[99, 110, 116, 114, 108]⟩, .int .u64 (wd cCnt 0), .int .u64 (wd cCnt 1), .int .u64 (wd cCnt 2), .int .u64 (wd cCnt 3)] = v' := Eq.symm hv'
  subst hv'
  simp only [Act.put, List.setIfInBounds_toArray, List.set_cons_zero, List.set_cons_succ] at ha'
  subst ha'
  refine AnyRM.step (i := 12) (d := some 29) rfl rfl (by kernel_rfl) (by kernel_rfl) (by kernel_rfl) (by kernel_rfl) (by kernel_rfl) ?_ ?_ ?_
  · exact ⟨_, rfl⟩
  · refine StepsR.yield (setV cDig) rfl (by kernel_rfl) (fun w' hS hD => ⟨?_, trivial⟩)
    obtain ⟨⟨c0, c1, c2, c3⟩, _⟩ := (B1.out.below hS (Blk.lt B1.out)).cells4; clear hS hD; go_simp
    try rfl
  intro v' hv' a' ha'
  have hv' : setV cDig = v' := Eq.symm hv'
  subst hv'
  simp only [Act.put, List.setIfInBounds_toArray, List.set_cons_zero, List.set_cons_succ] at ha'
  subst ha'
  refine AnyRM.step (i := 13) (d := some 30) rfl rfl (by kernel_rfl) (by kernel_rfl) (by kernel_rfl) (by kernel_rfl) (by kernel_rfl) ?_ ?_ ?_
  · exact ⟨_, rfl⟩
  · refine StepsR.yield (.agg #[.string ⟨#[100, 105, 103, 105, 116]⟩, .int .u64 (wd cDig 0), .int .u64 (wd cDig 1), .int .u64 (wd cDig 2), .int .u64 (wd cDig 3)]) rfl (by kernel_rfl) (fun w' hS hD => ⟨?_, trivial⟩)
    clear hS hD; go_simp
    try rfl
  intro v' hv' a' ha'
  have hv' : .agg #[.string ⟨#[100, 105, 103, 105, 116]⟩, .int .u64 (wd cDig 0), .int .u64 (wd cDig 1), .int .u64 (wd cDig 2), .int .u64 (wd cDig 3)] = v' := Eq.symm hv'
  subst hv'
  simp only [Act.put, List.setIfInBounds_toArray, List.set_cons_zero, List.set_cons_succ] at ha'
  subst ha'
  refine AnyRM.step (i := 14) (d := some 31) rfl rfl (by kernel_rfl) (by kernel_rfl) (by kernel_rfl) (by kernel_rfl) (by kernel_rfl) ?_ ?_ ?_
  · exact ⟨_, rfl⟩
  · refine StepsR.yield (setV cGra) rfl (by kernel_rfl) (fun w' hS hD => ⟨?_, trivial⟩)
    obtain ⟨⟨c0, c1, c2, c3⟩, _⟩ := (B6.out.below hS (Blk.lt B6.out)).cells4; clear hS hD; go_simp
    try rfl
  intro v' hv' a' ha'
  have hv' : setV cGra = v' := Eq.symm hv'
  subst hv'
  simp only [Act.put, List.setIfInBounds_toArray, List.set_cons_zero, List.set_cons_succ] at ha'
  subst ha'
  refine AnyRM.step (i := 15) (d := some 32) rfl rfl (by kernel_rfl) (by kernel_rfl) (by kernel_rfl) (by kernel_rfl) (by kernel_rfl) ?_ ?_ ?_
  · exact ⟨_, rfl⟩
  · refine StepsR.yield (.agg #[.string ⟨#[103, 114, 97, 112, 104]⟩, .int .u64 (wd cGra 0), .int .u64 (wd cGra 1), .int .u64 (wd cGra 2), .int .u64 (wd cGra 3)]) rfl (by kernel_rfl) (fun w' hS hD => ⟨?_, trivial⟩)
    clear hS hD; go_simp
    try rfl
  intro v' hv' a' ha'
  have hv' : .agg #[.string ⟨#[103, 114, 97, 112, 104]⟩, .int .u64 (wd cGra 0), .int .u64 (wd cGra 1), .int .u64 (wd cGra 2), .int .u64 (wd cGra 3)] = v' := Eq.symm hv'
  subst hv'
  simp only [Act.put, List.setIfInBounds_toArray, List.set_cons_zero, List.set_cons_succ] at ha'
  subst ha'
  refine AnyRM.step (i := 16) (d := some 33) rfl rfl (by kernel_rfl) (by kernel_rfl) (by kernel_rfl) (by kernel_rfl) (by kernel_rfl) ?_ ?_ ?_
  · exact ⟨_, rfl⟩
  · refine StepsR.yield (setV cLow) rfl (by kernel_rfl) (fun w' hS hD => ⟨?_, trivial⟩)
    obtain ⟨⟨c0, c1, c2, c3⟩, _⟩ := (B3.out.below hS (Blk.lt B3.out)).cells4; clear hS hD; go_simp
    try rfl
  intro v' hv' a' ha'
  have hv' : setV cLow = v' := Eq.symm hv'
  subst hv'
  simp only [Act.put, List.setIfInBounds_toArray, List.set_cons_zero, List.set_cons_succ] at ha'
  subst ha'
  refine AnyRM.step (i := 17) (d := some 34) rfl rfl (by kernel_rfl) (by kernel_rfl) (by kernel_rfl) (by kernel_rfl) (by kernel_rfl) ?_ ?_ ?_
  · exact ⟨_, rfl⟩
  · refine StepsR.yield (.agg #[.string ⟨#[108, 111, 119, 101, 114]⟩, .int .u64 (wd cLow 0), .int .u64 (wd cLow 1), .int .u64 (wd cLow 2), .int .u64 (wd cLow 3)]) rfl (by kernel_rfl) (fun w' hS hD => ⟨?_, trivial⟩)
    clear hS hD; go_simp
    try rfl
  intro v' hv' a' ha'
  have hv' : .agg #[.string ⟨#[108, 111, 119, 101, 114]⟩, .int .u64 (wd cLow 0), .int .u64 (wd cLow 1), .int .u64 (wd cLow 2), .int .u64 (wd cLow 3)] = v' := Eq.symm hv'
  subst hv'
  simp only [Act.put, List.setIfInBounds_toArray, List.set_cons_zero, List.set_cons_succ] at ha'
  subst ha'
  refine AnyRM.step (i := 18) (d := some 35) rfl rfl (by kernel_rfl) (by kernel_rfl) (by kernel_rfl) (by kernel_rfl) (by kernel_rfl) ?_ ?_ ?_
  · exact ⟨_, rfl⟩
  · refine StepsR.call (by kernel_rfl) (fun w' hS => by clear hS; go_simp) (fun w' hS hD => (pri_c w').mono ?_)
    rintro e w'' ⟨rfl, hb⟩
    exact ⟨_, rfl, rfl, trivial, hb⟩
  intro v' hv' a' ha'
  have hv' : setV cPri = v' := Eq.symm hv'
  subst hv'
  simp only [Act.put, List.setIfInBounds_toArray, List.set_cons_zero, List.set_cons_succ] at ha'
  subst ha'
  refine AnyRM.step (i := 19) (d := some 36) rfl rfl (by kernel_rfl) (by kernel_rfl) (by kernel_rfl) (by kernel_rfl) (by kernel_rfl) ?_ ?_ ?_
  · exact ⟨_, rfl⟩
  · refine StepsR.yield (.agg #[.string ⟨#[112, 114, 105, 110, 116]⟩, .int .u64 (wd cPri 0), .int .u64 (wd cPri 1), .int .u64 (wd cPri 2), .int .u64 (wd cPri 3)]) rfl (by kernel_rfl) (fun w' hS hD => ⟨?_, trivial⟩)
    clear hS hD; go_simp
    try rfl
  intro v' hv' a' ha'
  have hv' : .agg #[.string ⟨#[112, 114, 105, 110, 116]⟩, .int .u64 (wd cPri 0), .int .u64 (wd cPri 1), .int .u64 (wd cPri 2), .int .u64 (wd cPri 3)] = v' := Eq.symm hv'
  subst hv'
  simp only [Act.put, List.setIfInBounds_toArray, List.set_cons_zero, List.set_cons_succ] at ha'
  subst ha'
  refine AnyRM.step (i := 20) (d := some 37) rfl rfl (by kernel_rfl) (by kernel_rfl) (by kernel_rfl) (by kernel_rfl) (by kernel_rfl) ?_ ?_ ?_
  · exact ⟨_, rfl⟩
  · refine StepsR.yield (setV cGra) rfl (by kernel_rfl) (fun w' hS hD => ⟨?_, trivial⟩)
    obtain ⟨⟨c0, c1, c2, c3⟩, _⟩ := (B6.out.below hS (Blk.lt B6.out)).cells4; clear hS hD; go_simp
    try rfl
  intro v' hv' a' ha'
  have hv' : setV cGra = v' := Eq.symm hv'
  subst hv'
  simp only [Act.put, List.setIfInBounds_toArray, List.set_cons_zero, List.set_cons_succ] at ha'
  subst ha'
  refine AnyRM.step (i := 21) (d := some 38) rfl rfl (by kernel_rfl) (by kernel_rfl) (by kernel_rfl) (by kernel_rfl) (by kernel_rfl) ?_ ?_ ?_
  · exact ⟨_, rfl⟩
  · refine StepsR.yield (setV cAln) rfl (by kernel_rfl) (fun w' hS hD => ⟨?_, trivial⟩)
    obtain ⟨⟨c0, c1, c2, c3⟩, _⟩ := (B5.out.below hS (Blk.lt B5.out)).cells4; clear hS hD; go_simp
    try rfl
  intro v' hv' a' ha'
  have hv' : setV cAln = v' := Eq.symm hv'
  subst hv'
  simp only [Act.put, List.setIfInBounds_toArray, List.set_cons_zero, List.set_cons_succ] at ha'
  subst ha'
  refine AnyRM.step (i := 22) (d := some 39) rfl rfl (by kernel_rfl) (by kernel_rfl) (by kernel_rfl) (by kernel_rfl) (by kernel_rfl) ?_ ?_ ?_
  · exact ⟨_, rfl⟩
  · refine StepsR.call (by kernel_rfl) (fun w' hS => by clear hS; go_simp) (fun w' hS hD => (pun_c w').mono ?_)
    rintro e w'' ⟨rfl, hb⟩
    exact ⟨_, rfl, rfl, trivial, hb⟩
  intro v' hv' a' ha'
  have hv' : setV cPun = v' := Eq.symm hv'
  subst hv'
  simp only [Act.put, List.setIfInBounds_toArray, List.set_cons_zero, List.set_cons_succ] at ha'
  subst ha'
  refine AnyRM.step (i := 23) (d := some 40) rfl rfl (by kernel_rfl) (by kernel_rfl) (by kernel_rfl) (by kernel_rfl) (by kernel_rfl) ?_ ?_ ?_
  · exact ⟨_, rfl⟩
  · refine StepsR.yield (.agg #[.string ⟨#[112, 117, 110, 99, 116]⟩, .int .u64 (wd cPun 0), .int .u64 (wd cPun 1), .int .u64 (wd cPun 2), .int .u64 (wd cPun 3)]) rfl (by kernel_rfl) (fun w' hS hD => ⟨?_, trivial⟩)
    clear hS hD; go_simp
    try rfl
  intro v' hv' a' ha'
  have hv' : .agg #[.string ⟨#[112, 117, 110, 99, 116]⟩, .int .u64 (wd cPun 0), .int .u64 (wd cPun 1), .int .u64 (wd cPun 2), .int .u64 (wd cPun 3)] = v' := Eq.symm hv'
  subst hv'
  simp only [Act.put, List.setIfInBounds_toArray, List.set_cons_zero, List.set_cons_succ] at ha'
  subst ha'
  refine AnyRM.step (i := 24) (d := some 41) rfl rfl (by kernel_rfl) (by kernel_rfl) (by kernel_rfl) (by kernel_rfl) (by kernel_rfl) ?_ ?_ ?_
  · exact ⟨_, rfl⟩
  · refine StepsR.call (by kernel_rfl) (fun w' hS => by clear hS; go_simp) (fun w' hS hD => (r13_c w').mono ?_)
    rintro e w'' ⟨rfl, hb⟩
    exact ⟨_, rfl, rfl, trivial, hb⟩
  intro v' hv' a' ha'
  have hv' : setV (range 9 13) = v' := Eq.symm hv'
  subst hv'
  simp only [Act.put, List.setIfInBounds_toArray, List.set_cons_zero, List.set_cons_succ] at ha'
  subst ha'
  refine AnyRM.step (i := 25) (d := some 42) rfl rfl (by kernel_rfl) (by kernel_rfl) (by kernel_rfl) (by kernel_rfl) (by kernel_rfl) ?_ ?_ ?_
  · exact ⟨_, none, rfl⟩
  · refine StepsR.made (by kernel_rfl) (fun w' hS hD => ?_)
    clear hS hD
    refine ⟨.slice (some ⟨w'.heap.size, 0, none⟩) 1 1, w'.alloc (.cells (byW [32]) 5), ?_, ⟨_, rfl⟩, bytes_new w' _ [32], by go_grown⟩
    go_simp
    try rfl
  rintro v' ⟨a25, rfl⟩ a' ha'
  simp only [Act.put, List.setIfInBounds_toArray, List.set_cons_zero, List.set_cons_succ] at ha'
  subst ha'
  refine AnyRM.step (i := 26) (d := some 43) rfl rfl (by kernel_rfl) (by kernel_rfl) (by kernel_rfl) (by kernel_rfl) (by kernel_rfl) ?_ ?_ ?_
  · exact ⟨_, rfl⟩
  · refine StepsR.call (by kernel_rfl) (fun w' hS => by clear hS; go_simp) (fun w' hS hD => (with_calls' (range 9 13) a25 1 1 [32] (by decide) w' (hD.get (k := 25) (by kernel_rfl) rfl rfl)).mono ?_)
    rintro e w'' ⟨rfl, hb⟩
    exact ⟨_, rfl, rfl, trivial, hb⟩
  intro v' hv' a' ha'
  have hv' : setV cSpa = v' := Eq.symm hv'
  subst hv'
  simp only [Act.put, List.setIfInBounds_toArray, List.set_cons_zero, List.set_cons_succ] at ha'
  subst ha'
  refine AnyRM.step (i := 27) (d := some 44) rfl rfl (by kernel_rfl) (by kernel_rfl) (by kernel_rfl) (by kernel_rfl) (by kernel_rfl) ?_ ?_ ?_
  · exact ⟨_, rfl⟩
  · refine StepsR.yield (.agg #[.string ⟨#[115, 112, 97, 99, 101]⟩, .int .u64 (wd cSpa 0), .int .u64 (wd cSpa 1), .int .u64 (wd cSpa 2), .int .u64 (wd cSpa 3)]) rfl (by kernel_rfl) (fun w' hS hD => ⟨?_, trivial⟩)
    clear hS hD; go_simp
    try rfl
  intro v' hv' a' ha'
  have hv' : .agg #[.string ⟨#[115, 112, 97, 99, 101]⟩, .int .u64 (wd cSpa 0), .int .u64 (wd cSpa 1), .int .u64 (wd cSpa 2), .int .u64 (wd cSpa 3)] = v' := Eq.symm hv'
  subst hv'
  simp only [Act.put, List.setIfInBounds_toArray, List.set_cons_zero, List.set_cons_succ] at ha'
  subst ha'
  refine AnyRM.step (i := 28) (d := some 45) rfl rfl (by kernel_rfl) (by kernel_rfl) (by kernel_rfl) (by kernel_rfl) (by kernel_rfl) ?_ ?_ ?_
  · exact ⟨_, rfl⟩
  · refine StepsR.yield (setV cUpp) rfl (by kernel_rfl) (fun w' hS hD => ⟨?_, trivial⟩)
    obtain ⟨⟨c0, c1, c2, c3⟩, _⟩ := (B2.out.below hS (Blk.lt B2.out)).cells4; clear hS hD; go_simp
    try rfl
  intro v' hv' a' ha'
  have hv' : setV cUpp = v' := Eq.symm hv'
  subst hv'
  simp only [Act.put, List.setIfInBounds_toArray, List.set_cons_zero, List.set_cons_succ] at ha'
  subst ha'
  refine AnyRM.step (i := 29) (d := some 46) rfl rfl (by kernel_rfl) (by kernel_rfl) (by kernel_rfl) (by kernel_rfl) (by kernel_rfl) ?_ ?_ ?_
  · exact ⟨_, rfl⟩
  · refine StepsR.yield (.agg #[.string ⟨#[117, 112, 112, 101, 114]⟩, .int .u64 (wd cUpp 0), .int .u64 (wd cUpp 1), .int .u64 (wd cUpp 2), .int .u64 (wd cUpp 3)]) rfl (by kernel_rfl) (fun w' hS hD => ⟨?_, trivial⟩)
    clear hS hD; go_simp
    try rfl
  intro v' hv' a' ha'
  have hv' : .agg #[.string ⟨#[117, 112, 112, 101, 114]⟩, .int .u64 (wd cUpp 0), .int .u64 (wd cUpp 1), .int .u64 (wd cUpp 2), .int .u64 (wd cUpp 3)] = v' := Eq.symm hv'
  subst hv'
  simp only [Act.put, List.setIfInBounds_toArray, List.set_cons_zero, List.set_cons_succ] at ha'
  subst ha'
  refine AnyRM.step (i := 30) (d := some 47) rfl rfl (by kernel_rfl) (by kernel_rfl) (by kernel_rfl) (by kernel_rfl) (by kernel_rfl) ?_ ?_ ?_
  · exact ⟨_, rfl⟩
  · refine StepsR.yield (setV cDig) rfl (by kernel_rfl) (fun w' hS hD => ⟨?_, trivial⟩)
    obtain ⟨⟨c0, c1, c2, c3⟩, _⟩ := (B1.out.below hS (Blk.lt B1.out)).cells4; clear hS hD; go_simp
    try rfl
  intro v' hv' a' ha'
  have hv' : setV cDig = v' := Eq.symm hv'
  subst hv'
  simp only [Act.put, List.setIfInBounds_toArray, List.set_cons_zero, List.set_cons_succ] at ha'
  subst ha'
  refine AnyRM.step (i := 31) (d := some 48) rfl rfl (by kernel_rfl) (by kernel_rfl) (by kernel_rfl) (by kernel_rfl) (by kernel_rfl) ?_ ?_ ?_
  · exact ⟨_, rfl⟩
  · refine StepsR.call (by kernel_rfl) (fun w' hS => by clear hS; go_simp) (fun w' hS hD => (r65_c w').mono ?_)
    rintro e w'' ⟨rfl, hb⟩
    exact ⟨_, rfl, rfl, trivial, hb⟩
  intro v' hv' a' ha'
  have hv' : setV (range 65 70) = v' := Eq.symm hv'
  subst hv'
  simp only [Act.put, List.setIfInBounds_toArray, List.set_cons_zero, List.set_cons_succ] at ha'
  subst ha'
  refine AnyRM.step (i := 32) (d := some 49) rfl rfl (by kernel_rfl) (by kernel_rfl) (by kernel_rfl) (by kernel_rfl) (by kernel_rfl) ?_ ?_ ?_
  · exact ⟨_, rfl⟩
  · refine StepsR.call (by kernel_rfl) (fun w' hS => by clear hS; go_simp) (fun w' hS hD => (r97_c w').mono ?_)
    rintro e w'' ⟨rfl, hb⟩
    exact ⟨_, rfl, rfl, trivial, hb⟩
  intro v' hv' a' ha'
  have hv' : setV (range 97 102) = v' := Eq.symm hv'
  subst hv'
  simp only [Act.put, List.setIfInBounds_toArray, List.set_cons_zero, List.set_cons_succ] at ha'
  subst ha'
  refine AnyRM.step (i := 33) (d := some 50) rfl rfl (by kernel_rfl) (by kernel_rfl) (by kernel_rfl) (by kernel_rfl) (by kernel_rfl) ?_ ?_ ?_
  · exact ⟨_, rfl⟩
  · refine StepsR.call (by kernel_rfl) (fun w' hS => by clear hS; go_simp) (fun w' hS hD => (xd1_c w').mono ?_)
    rintro e w'' ⟨rfl, hb⟩
    exact ⟨_, rfl, rfl, trivial, hb⟩
  intro v' hv' a' ha'
  have hv' : setV (range 65 70 ||| range 97 102) = v' := Eq.symm hv'
  subst hv'
  simp only [Act.put, List.setIfInBounds_toArray, List.set_cons_zero, List.set_cons_succ] at ha'
  subst ha'
  refine AnyRM.step (i := 34) (d := some 51) rfl rfl (by kernel_rfl) (by kernel_rfl) (by kernel_rfl) (by kernel_rfl) (by kernel_rfl) ?_ ?_ ?_
  · exact ⟨_, rfl⟩
  · refine StepsR.call (by kernel_rfl) (fun w' hS => by clear hS; go_simp) (fun w' hS hD => (xdi_c w').mono ?_)
    rintro e w'' ⟨rfl, hb⟩
    exact ⟨_, rfl, rfl, trivial, hb⟩
  intro v' hv' a' ha'
  have hv' : setV cXdi = v' := Eq.symm hv'
  subst hv'
  simp only [Act.put, List.setIfInBounds_toArray, List.set_cons_zero, List.set_cons_succ] at ha'
  subst ha'
  refine AnyRM.step (i := 35) (d := some 52) rfl rfl (by kernel_rfl) (by kernel_rfl) (by kernel_rfl) (by kernel_rfl) (by kernel_rfl) ?_ ?_ ?_
  · exact ⟨_, rfl⟩
  · refine StepsR.yield (.agg #[.string ⟨#[120, 100, 105, 103, 105, 116]⟩, .int .u64 (wd cXdi 0), .int .u64 (wd cXdi 1), .int .u64 (wd cXdi 2), .int .u64 (wd cXdi 3)]) rfl (by kernel_rfl) (fun w' hS hD => ⟨?_, trivial⟩)
    clear hS hD; go_simp
    try rfl
  intro v' hv' a' ha'
  have hv' : .agg #[.string ⟨#[120, 100, 105, 103, 105, 116]⟩, .int .u64 (wd cXdi 0), .int .u64 (wd cXdi 1), .int .u64 (wd cXdi 2), .int .u64 (wd cXdi 3)] = v' := Eq.symm hv'
  subst hv'
  simp only [Act.put, List.setIfInBounds_toArray, List.set_cons_zero, List.set_cons_succ] at ha'
  subst ha'
  refine AnyRM.step (i := 36) (d := some 53) rfl rfl (by kernel_rfl) (by kernel_rfl) (by kernel_rfl) (by kernel_rfl) (by kernel_rfl) ?_ ?_ ?_
  · exact ⟨_, rfl⟩
  · refine StepsR.yield (.agg tabV) rfl (by kernel_rfl) (fun w' hS hD => ⟨?_, trivial⟩)
    clear hS hD; go_simp
    try rfl
  intro v' hv' a' ha'
  have hv' : .agg tabV = v' := Eq.symm hv'
  subst hv'
  simp only [Act.put, List.setIfInBounds_toArray, List.set_cons_zero, List.set_cons_succ] at ha'
  subst ha'
  refine AnyRM.last rfl (by kernel_rfl) (by kernel_rfl) (by kernel_rfl) (fun w9 hS hF K hK => ?_)
  clear hF
  have hR := BR.out.below hS (Blk.lt BR.out)
  have hst := run_storeAt_row (P := Tryz.prog) w9 w.heap.size 190 190 tab0 tabV hR (by kernel_rfl) (by decide) tabV_one
  have hB := HB.out.trans (hS.mono (by omega))
  refine wp_store_row _ _ _ rfl w.heap.size rfl rfl hst ?_
  clear hst
  refine hK _ _ ?_
  clear hK K
  have hR' := Lib.hid (Blk.setRow (cs := tabV) hR)
  have hB' := Lib.hid (below_setRow hB (Nat.le_refl _) tabV)
  clear hR hB hS
  generalize w9.setRow w.heap.size tabV = w10 at *
  go_wp2
  exact bodyPost_ret (v := .agg tabV) (results_cell_row rfl _ _ w.heap.size 190 tabV (0, 0) _ rfl hR'.out Tryz.underlying190 rfl (by kernel_rfl)) rfl ⟨rfl, hB'.out⟩
end Go.Proofs.YtldaaelmifbbhaaGreat

/- The document's classes: whether a byte is of a class. -/
namespace Go.Proofs.YtldaaelmifbbhaaGreat
open Go.RowKit Go.Shelf BS

def inB (b lo hi : Int) : Bool := decide (lo ≤ b) && decide (b ≤ hi)
def alB (b : Int) : Bool := inB b 65 90 || inB b 97 122
def dgB (b : Int) : Bool := inB b 48 57
def isC (l : List UInt8) (b : Int) : Bool :=
  if l = [97, 108, 110, 117, 109] then (alB b || dgB b) else
  if l = [97, 108, 112, 104, 97] then alB b else
  if l = [98, 108, 97, 110, 107] then (b == 9 || b == 32) else
  if l = [99, 110, 116, 114, 108] then (inB b 0 31 || b == 127) else
  if l = [100, 105, 103, 105, 116] then dgB b else
  if l = [103, 114, 97, 112, 104] then inB b 33 126 else
  if l = [108, 111, 119, 101, 114] then inB b 97 122 else
  if l = [112, 114, 105, 110, 116] then inB b 32 126 else
  if l = [112, 117, 110, 99, 116] then (inB b 33 126 && !alB b && !dgB b) else
  if l = [115, 112, 97, 99, 101] then (inB b 9 13 || b == 32) else
  if l = [117, 112, 112, 101, 114] then inB b 65 90 else
  if l = [120, 100, 105, 103, 105, 116] then (dgB b || inB b 65 70 || inB b 97 102) else
  false

set_option maxHeartbeats 1000000 in
theorem in_calls (b lo hi : Int) (w : World) : Calls Tryz.prog 80 #[.int .i64 b, .int .i64 lo, .int .i64 hi] w fun e w' => e = .returned (.bool (inB b lo hi)) ∧ w = w' := by
  unfold inB
  by_cases h1 : lo ≤ b
  · have q1 : decide (lo ≤ b) = true := by simpa using h1
    rw [q1]
    go_enter Tryz.func80, Tryz.ntmps80
    go_wp2
    go_ret
    exact ⟨by simp, rfl⟩
  · have q1 : decide (lo ≤ b) = false := by simpa using h1
    rw [q1]
    go_enter Tryz.func80, Tryz.ntmps80
    go_wp2
    go_ret
    exact ⟨by simp, rfl⟩

set_option maxRecDepth 100000 in
set_option maxHeartbeats 8000000 in
theorem is_calls (name : ByteArray) (b : Int) (w : World) : Calls Tryz.prog 78 #[.string name, .int .i64 b] w fun e w' => e = .returned (.bool (isC name.toList b)) ∧ w = w' := by
  go_enter Tryz.func78, Tryz.ntmps78
  go_upto_region 1 with fail
  go_cut [5, 6] (fun s5 s6 wx => s5 = .bool (alB b) ∧ s6 = .bool (dgB b) ∧ w = wx)
  case first =>
    have HA := Lib.hid (show alB b = (inB b 65 90 || inB b 97 122) from rfl)
    have HD := Lib.hid (show dgB b = inB b 48 57 from rfl)
    cases h1 : inB b 65 90 <;> (go_wp2_with (go_at_call 80; refine (in_calls _ _ _ _).mono ?_; rintro e w' ⟨rfl, rfl⟩)) <;> (go_meet; exact ⟨by rw [HA.out, h1] <;> simp, by rw [HD.out], rfl⟩)
  case rest =>
    obtain ⟨rfl, rfl, rfl⟩ := hcut
    generalize hA : alB b = A
    generalize hD : dgB b = D
    have HA := Lib.hid hA
    have HD := Lib.hid hD
    clear hA hD
    by_cases n0 : name.toList = [97, 108, 110, 117, 109]
    · have t0 : (name.toList == [97, 108, 110, 117, 109]) = true := by rw [n0]; rfl
      have HN := Lib.hid n0
      have hres : isC name.toList b = (A || D) := by rw [n0]; simp only [isC, ← HA.out, ← HD.out]; rfl
      have HR := Lib.hid hres
      clear n0 hres
      cases A <;> cases D <;> (go_wp2_with (go_at_call 80; refine (in_calls _ _ _ _).mono ?_; rintro e w' ⟨rfl, rfl⟩)) <;> (go_ret; exact ⟨by rw [HR.out] <;> (first | rfl | simp [*]), rfl⟩)
    have t0 : (name.toList == [97, 108, 110, 117, 109]) = false := by simpa using n0
    have N0 := Lib.hid n0
    clear n0
    by_cases n1 : name.toList = [97, 108, 112, 104, 97]
    · have t1 : (name.toList == [97, 108, 112, 104, 97]) = true := by rw [n1]; rfl
      have HN := Lib.hid n1
      have hres : isC name.toList b = A := by rw [n1]; simp only [isC, ← HA.out]; rfl
      have HR := Lib.hid hres
      clear n1 hres
      (go_wp2_with (go_at_call 80; refine (in_calls _ _ _ _).mono ?_; rintro e w' ⟨rfl, rfl⟩)) <;> (go_ret; exact ⟨by rw [HR.out] <;> (first | rfl | simp [*]), rfl⟩)
    have t1 : (name.toList == [97, 108, 112, 104, 97]) = false := by simpa using n1
    have N1 := Lib.hid n1
    clear n1
    by_cases n2 : name.toList = [98, 108, 97, 110, 107]
    · have t2 : (name.toList == [98, 108, 97, 110, 107]) = true := by rw [n2]; rfl
      have HN := Lib.hid n2
      have hres : isC name.toList b = (b == 9 || b == 32) := by rw [n2]; rfl
      have HR := Lib.hid hres
      clear n2 hres
      cases q1 : (b == 9) <;> (go_wp2_with (go_at_call 80; refine (in_calls _ _ _ _).mono ?_; rintro e w' ⟨rfl, rfl⟩)) <;> (go_ret; exact ⟨by rw [HR.out] <;> (first | rfl | simp [*]), rfl⟩)
    have t2 : (name.toList == [98, 108, 97, 110, 107]) = false := by simpa using n2
    have N2 := Lib.hid n2
    clear n2
    by_cases n3 : name.toList = [99, 110, 116, 114, 108]
    · have t3 : (name.toList == [99, 110, 116, 114, 108]) = true := by rw [n3]; rfl
      have HN := Lib.hid n3
      have hres : isC name.toList b = (inB b 0 31 || b == 127) := by rw [n3]; rfl
      have HR := Lib.hid hres
      clear n3 hres
      cases q1 : inB b 0 31 <;> (go_wp2_with (go_at_call 80; refine (in_calls _ _ _ _).mono ?_; rintro e w' ⟨rfl, rfl⟩)) <;> (go_ret; exact ⟨by rw [HR.out] <;> (first | rfl | simp [*]), rfl⟩)
    have t3 : (name.toList == [99, 110, 116, 114, 108]) = false := by simpa using n3
    have N3 := Lib.hid n3
    clear n3
    by_cases n4 : name.toList = [100, 105, 103, 105, 116]
    · have t4 : (name.toList == [100, 105, 103, 105, 116]) = true := by rw [n4]; rfl
      have HN := Lib.hid n4
      have hres : isC name.toList b = D := by rw [n4]; simp only [isC, ← HD.out]; rfl
      have HR := Lib.hid hres
      clear n4 hres
      (go_wp2_with (go_at_call 80; refine (in_calls _ _ _ _).mono ?_; rintro e w' ⟨rfl, rfl⟩)) <;> (go_ret; exact ⟨by rw [HR.out] <;> (first | rfl | simp [*]), rfl⟩)
    have t4 : (name.toList == [100, 105, 103, 105, 116]) = false := by simpa using n4
    have N4 := Lib.hid n4
    clear n4
    by_cases n5 : name.toList = [103, 114, 97, 112, 104]
    · have t5 : (name.toList == [103, 114, 97, 112, 104]) = true := by rw [n5]; rfl
      have HN := Lib.hid n5
      have hres : isC name.toList b = inB b 33 126 := by rw [n5]; rfl
      have HR := Lib.hid hres
      clear n5 hres
      (go_wp2_with (go_at_call 80; refine (in_calls _ _ _ _).mono ?_; rintro e w' ⟨rfl, rfl⟩)) <;> (go_ret; exact ⟨by rw [HR.out] <;> (first | rfl | simp [*]), rfl⟩)
    have t5 : (name.toList == [103, 114, 97, 112, 104]) = false := by simpa using n5
    have N5 := Lib.hid n5
    clear n5
    by_cases n6 : name.toList = [108, 111, 119, 101, 114]
    · have t6 : (name.toList == [108, 111, 119, 101, 114]) = true := by rw [n6]; rfl
      have HN := Lib.hid n6
      have hres : isC name.toList b = inB b 97 122 := by rw [n6]; rfl
      have HR := Lib.hid hres
      clear n6 hres
      (go_wp2_with (go_at_call 80; refine (in_calls _ _ _ _).mono ?_; rintro e w' ⟨rfl, rfl⟩)) <;> (go_ret; exact ⟨by rw [HR.out] <;> (first | rfl | simp [*]), rfl⟩)
    have t6 : (name.toList == [108, 111, 119, 101, 114]) = false := by simpa using n6
    have N6 := Lib.hid n6
    clear n6
    by_cases n7 : name.toList = [112, 114, 105, 110, 116]
    · have t7 : (name.toList == [112, 114, 105, 110, 116]) = true := by rw [n7]; rfl
      have HN := Lib.hid n7
      have hres : isC name.toList b = inB b 32 126 := by rw [n7]; rfl
      have HR := Lib.hid hres
      clear n7 hres
      (go_wp2_with (go_at_call 80; refine (in_calls _ _ _ _).mono ?_; rintro e w' ⟨rfl, rfl⟩)) <;> (go_ret; exact ⟨by rw [HR.out] <;> (first | rfl | simp [*]), rfl⟩)
    have t7 : (name.toList == [112, 114, 105, 110, 116]) = false := by simpa using n7
    have N7 := Lib.hid n7
    clear n7
    by_cases n8 : name.toList = [112, 117, 110, 99, 116]
    · have t8 : (name.toList == [112, 117, 110, 99, 116]) = true := by rw [n8]; rfl
      have HN := Lib.hid n8
      have hres : isC name.toList b = (inB b 33 126 && !A && !D) := by rw [n8]; simp only [isC, ← HA.out, ← HD.out]; rfl
      have HR := Lib.hid hres
      clear n8 hres
      cases q1 : inB b 33 126 <;> cases A <;> cases D <;> (go_wp2_with (go_at_call 80; refine (in_calls _ _ _ _).mono ?_; rintro e w' ⟨rfl, rfl⟩)) <;> (go_ret; exact ⟨by rw [HR.out] <;> (first | rfl | simp [*]), rfl⟩)
    have t8 : (name.toList == [112, 117, 110, 99, 116]) = false := by simpa using n8
    have N8 := Lib.hid n8
    clear n8
    by_cases n9 : name.toList = [115, 112, 97, 99, 101]
    · have t9 : (name.toList == [115, 112, 97, 99, 101]) = true := by rw [n9]; rfl
      have HN := Lib.hid n9
      have hres : isC name.toList b = (inB b 9 13 || b == 32) := by rw [n9]; rfl
      have HR := Lib.hid hres
      clear n9 hres
      cases q1 : inB b 9 13 <;> (go_wp2_with (go_at_call 80; refine (in_calls _ _ _ _).mono ?_; rintro e w' ⟨rfl, rfl⟩)) <;> (go_ret; exact ⟨by rw [HR.out] <;> (first | rfl | simp [*]), rfl⟩)
    have t9 : (name.toList == [115, 112, 97, 99, 101]) = false := by simpa using n9
    have N9 := Lib.hid n9
    clear n9
    by_cases n10 : name.toList = [117, 112, 112, 101, 114]
    · have t10 : (name.toList == [117, 112, 112, 101, 114]) = true := by rw [n10]; rfl
      have HN := Lib.hid n10
      have hres : isC name.toList b = inB b 65 90 := by rw [n10]; rfl
      have HR := Lib.hid hres
      clear n10 hres
      (go_wp2_with (go_at_call 80; refine (in_calls _ _ _ _).mono ?_; rintro e w' ⟨rfl, rfl⟩)) <;> (go_ret; exact ⟨by rw [HR.out] <;> (first | rfl | simp [*]), rfl⟩)
    have t10 : (name.toList == [117, 112, 112, 101, 114]) = false := by simpa using n10
    have N10 := Lib.hid n10
    clear n10
    by_cases n11 : name.toList = [120, 100, 105, 103, 105, 116]
    · have t11 : (name.toList == [120, 100, 105, 103, 105, 116]) = true := by rw [n11]; rfl
      have HN := Lib.hid n11
      have hres : isC name.toList b = (D || inB b 65 70 || inB b 97 102) := by rw [n11]; simp only [isC, ← HD.out]; rfl
      have HR := Lib.hid hres
      clear n11 hres
      cases D <;> cases q1 : inB b 65 70 <;> (go_wp2_with (go_at_call 80; refine (in_calls _ _ _ _).mono ?_; rintro e w' ⟨rfl, rfl⟩)) <;> (go_ret; exact ⟨by rw [HR.out] <;> (first | rfl | simp [*]), rfl⟩)
    have t11 : (name.toList == [120, 100, 105, 103, 105, 116]) = false := by simpa using n11
    have N11 := Lib.hid n11
    clear n11
    have hres : isC name.toList b = false := by unfold isC; rw [if_neg N0.out, if_neg N1.out, if_neg N2.out, if_neg N3.out, if_neg N4.out, if_neg N5.out, if_neg N6.out, if_neg N7.out, if_neg N8.out, if_neg N9.out, if_neg N10.out, if_neg N11.out]
    have HR := Lib.hid hres
    clear hres
    go_wp2
    go_ret
    exact ⟨by rw [HR.out] <;> rfl, rfl⟩
end Go.Proofs.YtldaaelmifbbhaaGreat

/- Plain facts on the table of classes. -/
namespace Go.Proofs.YtldaaelmifbbhaaGreat
open Go.RowKit BS

theorem find_at {α : Type} (p : α → Bool) : ∀ (L : List α) (k : Nat) (hk : k < L.length), (∀ j (hj : j < k), p (L[j]'(Nat.lt_trans hj hk)) = false) → p L[k] = true → L.find? p = some L[k]
  | [], k, hk, _, _ => by simp at hk
  | a :: L, 0, _, _, h => by simp [List.find?, show p a = true from h]
  | a :: L, k + 1, hk, hf, h => by
    have h0 : p a = false := hf 0 (by omega)
    simp only [List.find?, h0]
    exact find_at p L k (by simpa using hk) (fun j hj => hf (j + 1) (by omega)) h
theorem find_not {α : Type} (p : α → Bool) (L : List α) (h : ∀ j (hj : j < L.length), p L[j] = false) : L.find? p = none := by
  rw [List.find?_eq_none]
  intro x hx
  obtain ⟨j, hj, rfl⟩ := List.getElem_of_mem hx
  simp [h j hj]

def fnd (l : List UInt8) : Option (ByteArray × BitVec 256) := tabL.find? fun e => e.1.toList == l
def ofS (l : List UInt8) : BitVec 256 := ((fnd l).map (·.2)).getD 0
def ofB (l : List UInt8) : Bool := (fnd l).isSome
theorem tabL_len : tabL.length = 12 := rfl
def tE (k : Nat) : ByteArray × BitVec 256 := tabL.getD k (⟨#[]⟩, 0)
theorem tE_eq (k : Nat) (h : k < 12) : tE k = tabL[k] := by
  unfold tE; rw [List.getD_eq_getElem?_getD, List.getElem?_eq_getElem (by rw [tabL_len]; exact h)]; rfl
theorem fnd_at (l : List UInt8) (k : Nat) (hk : k < 12) (hf : ∀ j, j < k → (tE j).1.toList ≠ l) (h : (tE k).1.toList = l) : fnd l = some (tE k) := by
  rw [tE_eq k hk]
  refine find_at _ tabL k hk (fun j hj => ?_) ?_
  · have := hf j hj
    rw [tE_eq j (by omega)] at this
    exact beq_eq_false_iff_ne.2 this
  · rw [tE_eq k hk] at h
    exact beq_iff_eq.2 h
theorem fnd_not (l : List UInt8) (hf : ∀ j, j < 12 → (tE j).1.toList ≠ l) : fnd l = none := by
  refine find_not _ tabL fun j hj => ?_
  have := hf j hj
  rw [tE_eq j hj] at this
  exact beq_eq_false_iff_ne.2 this
theorem ofS_at (l : List UInt8) (k : Nat) (hk : k < 12) (hf : ∀ j, j < k → (tE j).1.toList ≠ l) (h : (tE k).1.toList = l) : ofS l = (tE k).2 := by rw [ofS, fnd_at l k hk hf h]; rfl
theorem ofB_at (l : List UInt8) (k : Nat) (hk : k < 12) (hf : ∀ j, j < k → (tE j).1.toList ≠ l) (h : (tE k).1.toList = l) : ofB l = true := by rw [ofB, fnd_at l k hk hf h]; rfl
theorem ofS_not (l : List UInt8) (hf : ∀ j, j < 12 → (tE j).1.toList ≠ l) : ofS l = 0 := by rw [ofS, fnd_not l hf]; rfl
theorem ofB_not (l : List UInt8) (hf : ∀ j, j < 12 → (tE j).1.toList ≠ l) : ofB l = false := by rw [ofB, fnd_not l hf]; rfl

/-- The document's set of a name. -/
def isS (l : List UInt8) : BitVec 256 := ofFn fun j => isC l (j : Int)
theorem isS_tab : ∀ k, k < 12 → isS (tE k).1.toList = (tE k).2
  | 0, _ => by decide +kernel
  | 1, _ => by decide +kernel
  | 2, _ => by decide +kernel
  | 3, _ => by decide +kernel
  | 4, _ => by decide +kernel
  | 5, _ => by decide +kernel
  | 6, _ => by decide +kernel
  | 7, _ => by decide +kernel
  | 8, _ => by decide +kernel
  | 9, _ => by decide +kernel
  | 10, _ => by decide +kernel
  | 11, _ => by decide +kernel
  | n + 12, h => by omega
theorem isS_of (l : List UInt8) (k : Nat) (hk : k < 12) (h : (tE k).1.toList = l) : isS l = (tE k).2 := by rw [← h]; exact isS_tab k hk

/-- The table's entry, as the walk takes it. -/
theorem tab_index : ∀ k, k < 12 → ∀ w, (Instr.index 190 (.agg tabV) (.int .i64 (k : Nat))).run Tryz.prog w = .ok (.agg #[.string (tE k).1, .int .u64 (wd (tE k).2 0), .int .u64 (wd (tE k).2 1), .int .u64 (wd (tE k).2 2), .int .u64 (wd (tE k).2 3)]) w
  | 0, _, w => by kernel_rfl
  | 1, _, w => by kernel_rfl
  | 2, _, w => by kernel_rfl
  | 3, _, w => by kernel_rfl
  | 4, _, w => by kernel_rfl
  | 5, _, w => by kernel_rfl
  | 6, _, w => by kernel_rfl
  | 7, _, w => by kernel_rfl
  | 8, _, w => by kernel_rfl
  | 9, _, w => by kernel_rfl
  | 10, _, w => by kernel_rfl
  | 11, _, w => by kernel_rfl
  | n + 12, h, _ => by omega
end Go.Proofs.YtldaaelmifbbhaaGreat

/- The document's sets, by the reference's own calls: Has, Of, With. -/
namespace Go.Proofs.YtldaaelmifbbhaaGreat
open Go.RowKit BS

set_option maxHeartbeats 400000 in
/-- Has. -/
theorem rhas_calls (a : BitVec 256) (x : Int) (w : World) (h0 : 0 ≤ x) (h1 : x < 256) :
    Calls Tryz.prog 77 #[setV a, .int .i64 x] w fun e w' => e = .returned (.bool (a.getLsbD x.toNat)) ∧ Below w.heap.size w w' := by
  have hx2 : 0 ≤ x % 64 := by omega
  have hx3 : x % 64 < 64 := by omega
  have h4 : x / 64 = 0 ∨ x / 64 = 1 ∨ x / 64 = 2 ∨ x / 64 = 3 := by omega
  rcases h4 with hx | hx | hx | hx
  all_goals
    go_enter Tryz.func77, Tryz.ntmps77
    go_wp2
    go_ret
    refine ⟨ret_bool (has_word' a x _ _ ?_ ?_), by go_grown⟩ <;> omega

/-- 256 answers. -/
def Bools (arr : Array Value) (f : Nat → Bool) : Prop := arr.size = 256 ∧ ∀ i, i < 256 → arr[i]? = some (.bool (f i))
theorem Bools.set {arr : Array Value} {f : Nat → Bool} (h : Bools arr f) (i : Nat) (b : Bool) : Bools (arr.setIfInBounds i (.bool b)) (fun j => if j = i then b else f j) := by
  refine ⟨by simpa using h.1, fun j hj => ?_⟩
  by_cases hji : j = i
  · subst hji
    have : j < arr.size := by rw [h.1]; exact hj
    simp [this]
  · rw [Array.getElem?_setIfInBounds_ne (Ne.symm hji), h.2 j hj]; simp [hji]
theorem ofFn_congr {f g : Nat → Bool} (h : ∀ j, j < 256 → f j = g j) : ofFn f = ofFn g := by
  apply BitVec.eq_of_getLsbD_eq; intro j hj
  rw [get_ofFn, get_ofFn, h j hj]

/-- The first k answers, as a set. -/
def pre (f : Nat → Bool) (k : Nat) : BitVec 256 := ofFn fun j => decide (j < k) && f j
theorem pre_true (f : Nat → Bool) (k : Nat) (h : f k = true) : pre f (k + 1) = pre f k ||| one k := by
  apply BitVec.eq_of_getLsbD_eq; intro j hj
  rw [BitVec.getLsbD_or, pre, pre, one, get_ofFn, get_ofFn, get_ofFn]
  simp only [hj, decide_true, Bool.true_and]
  by_cases hjk : j = k
  · subst hjk; simp [h]
  · have : (j < k + 1) ↔ (j < k) := by omega
    simp [this, hjk]
theorem pre_false (f : Nat → Bool) (k : Nat) (h : f k = false) : pre f (k + 1) = pre f k := by
  apply ofFn_congr; intro j hj
  by_cases hjk : j = k
  · subst hjk; simp [h]
  · have : (j < k + 1) ↔ (j < k) := by omega
    simp [this]
theorem pre_all (f : Nat → Bool) : pre f 256 = ofFn f := ofFn_congr fun j hj => by simp [hj]
theorem pre_none (f : Nat → Bool) : pre f 0 = 0 := by
  apply BitVec.eq_of_getLsbD_eq; intro j hj
  rw [pre, get_ofFn]; simp

/-- A set stored into a box of its own. -/
theorem fin4 {w W : World} {n B : Nat} {a b c d : Value} {T : TypeId} (h : Blk W B #[a, b, c, d] T) (hb : Below n w W) (hB : n ≤ B) (t : BitVec 256) :
    Blk ((((W.setCell ⟨B, 0, none⟩ (.int .u64 (wd t 0))).setCell ⟨B, 1, none⟩ (.int .u64 (wd t 1))).setCell ⟨B, 2, none⟩ (.int .u64 (wd t 2))).setCell ⟨B, 3, none⟩ (.int .u64 (wd t 3))) B (setA t) T ∧
    Below n w ((((W.setCell ⟨B, 0, none⟩ (.int .u64 (wd t 0))).setCell ⟨B, 1, none⟩ (.int .u64 (wd t 1))).setCell ⟨B, 2, none⟩ (.int .u64 (wd t 2))).setCell ⟨B, 3, none⟩ (.int .u64 (wd t 3))) :=
  ⟨(((h.set 0 _).set 1 _).set 2 _).set 3 _, below_set (below_set (below_set (below_set hb hB _ _) hB _ _) hB _ _) hB _ _⟩

def SO (w : World) (arr : Array Value) (t : BitVec 256) (W : World) : Prop :=
  (Blk W w.heap.size arr 127 ∧ Blk W (w.heap.size + 1) (setA 0) 38 ∧ Blk W (w.heap.size + 1 + 1) (setA t) 38) ∧ Below w.heap.size w W
theorem drew_ok {w W : World} {arr : Array Value} {t : BitVec 256} (h : SO w arr t W) : SO w arr t W.drew := ⟨⟨h.1.1, h.1.2.1, h.1.2.2⟩, h.2.drew⟩
theorem SO.store {w W : World} {arr : Array Value} {t t' : BitVec 256} (h : SO w arr t W) (i : Nat) (v : Value) (hv : (setA t).setIfInBounds i v = setA t') : SO w arr t' (W.setCell ⟨w.heap.size + 1 + 1, i, none⟩ v) :=
  ⟨⟨h.1.1.other (by omega) _ _, h.1.2.1.other (by omega) _ _, by rw [← hv]; exact h.1.2.2.set i v⟩, below_set h.2 (by omega) _ _⟩

set_option maxRecDepth 100000 in
set_option maxHeartbeats 4000000 in
/-- Of. -/
theorem of_calls (arr : Array Value) (f : Nat → Bool) (hb : Bools arr f) (w : World) :
    Calls Tryz.prog 67 #[.agg arr] w fun e w' => e = .returned (setV (ofFn f)) ∧ Below w.heap.size w w' := by
  have h0 : SO w arr (pre f 0) (((w.alloc (.cells arr 127)).alloc (.cells (setA 0) 38)).alloc (.cells (setA 0) 38)) := by
    rw [pre_none]
    refine ⟨⟨((Blk.new w _ _).alloc _).alloc _, ?_, ?_⟩, by go_grown⟩
    · have := (Blk.new (w.alloc (.cells arr 127)) (setA 0) 38).alloc (.cells (setA 0) 38)
      rwa [World.size_alloc] at this
    · have := Blk.new ((w.alloc (.cells arr 127)).alloc (.cells (setA 0) 38)) (setA 0) 38
      rwa [World.size_alloc, World.size_alloc] at this
  have HB := Lib.hid hb
  clear hb
  go_enter Tryz.func67, Tryz.ntmps67
  go_wp2_with fail
  have e0 : ((w.alloc (.cells arr 127)).alloc (.cells #[.int .u64 0, .int .u64 0, .int .u64 0, .int .u64 0] 38)).alloc (.cells #[.int .u64 0, .int .u64 0, .int .u64 0, .int .u64 0] 38) = ((w.alloc (.cells arr 127)).alloc (.cells (setA 0) 38)).alloc (.cells (setA 0) 38) := rfl
  rw [e0]
  clear e0
  generalize ((w.alloc (.cells arr 127)).alloc (.cells (setA 0) 38)).alloc (.cells (setA 0) 38) = w1 at *
  go_loopw [4] (fun i wr => ∃ k : Nat, k ≤ 256 ∧ i = .int .i64 k ∧ SO w arr (pre f k) wr) (fun i _ => 256 - (intOf i).toNat)
  case atStart => exact ⟨0, Nat.zero_le _, rfl, h0⟩
  case round =>
    clear h0
    obtain ⟨k, hk, rfl, hU⟩ := hrel
    by_cases hkl : k < 256
    · have hc := (hU.1.1.cell k).trans (HB.out.2 k hkl)
      cases hf : f k with
      | false =>
        rw [hf] at hc
        have HF := Lib.hid hf
        have HU := Lib.hid hU
        clear hf hU
        go_wp2
        go_roundw
        case rel =>
          refine ⟨k + 1, by omega, by simp, ?_⟩
          rw [pre_false f k HF.out]; exact HU.out
        case measure => simp [intOf]; omega
      | true =>
        rw [hf] at hc
        have HF := Lib.hid hf
        clear hf
        have HT := Lib.hid (pre_true f k HF.out)
        generalize pre f k = t at *
        have hx2 : 0 ≤ (k : Int) % 64 := by omega
        have hx3 : (k : Int) % 64 < 64 := by omega
        have h4 : (k : Int) / 64 = 0 ∨ (k : Int) / 64 = 1 ∨ (k : Int) / 64 = 2 ∨ (k : Int) / 64 = 3 := by omega
        rcases h4 with hx4 | hx4 | hx4 | hx4
        · go_wp2_with fail
          refine region_stepsM (S := SO w arr t) (m := 11) rfl (by kernel_rfl) (drew_ok hU) ?_
          simp only [List.size_toArray, List.length_cons, List.length_nil, Nat.reduceAdd, Array.replicate_succ, Array.replicate_zero, List.push_toArray, List.nil_append, List.cons_append]
          refine AnyM.next (m := 11) (i := 0) (d := some 12) (v := .int .i64 ((k : Nat) : Int)) rfl rfl (by kernel_rfl) (by kernel_rfl) (by kernel_rfl) (by kernel_rfl) (StepsIf.yield (by kernel_rfl) (fun w' hS => by clear hS; go_simp)) ?_
          intro a' ha'
          simp only [Act.put, List.setIfInBounds_toArray, List.set_cons_zero, List.set_cons_succ] at ha'
          subst ha'
          refine AnyM.next (m := 11) (i := 1) (d := some 13) (v := .int .i64 0) rfl rfl (by kernel_rfl) (by kernel_rfl) (by kernel_rfl) (by kernel_rfl) (StepsIf.yield (by kernel_rfl) (fun w' hS => by clear hS; go_simp; exact IntWalk.i64_in _ (by omega))) ?_
          intro a' ha'
          simp only [Act.put, List.setIfInBounds_toArray, List.set_cons_zero, List.set_cons_succ] at ha'
          subst ha'
          refine AnyM.next (m := 11) (i := 2) (d := some 14) (v := .int .i64 ((k : Nat) : Int)) rfl rfl (by kernel_rfl) (by kernel_rfl) (by kernel_rfl) (by kernel_rfl) (StepsIf.yield (by kernel_rfl) (fun w' hS => by clear hS; go_simp)) ?_
          intro a' ha'
          simp only [Act.put, List.setIfInBounds_toArray, List.set_cons_zero, List.set_cons_succ] at ha'
          subst ha'
          refine AnyM.next (m := 11) (i := 3) (d := some 15) (v := .int .i64 0) rfl rfl (by kernel_rfl) (by kernel_rfl) (by kernel_rfl) (by kernel_rfl) (StepsIf.yield (by kernel_rfl) (fun w' hS => by clear hS; go_simp; exact IntWalk.i64_in _ (by omega))) ?_
          intro a' ha'
          simp only [Act.put, List.setIfInBounds_toArray, List.set_cons_zero, List.set_cons_succ] at ha'
          subst ha'
          refine AnyM.next (m := 11) (i := 4) (d := some 16) (v := .pointer (some ⟨w.heap.size + 1 + 1, 0, none⟩)) rfl rfl (by kernel_rfl) (by kernel_rfl) (by kernel_rfl) (by kernel_rfl) (StepsIf.yield (by kernel_rfl) (fun w' hS => by clear hS; go_simp)) ?_
          intro a' ha'
          simp only [Act.put, List.setIfInBounds_toArray, List.set_cons_zero, List.set_cons_succ] at ha'
          subst ha'
          refine AnyM.next (m := 11) (i := 5) (d := some 17) (v := .int .u64 (wd t 0)) rfl rfl (by kernel_rfl) (by kernel_rfl) (by kernel_rfl) (by kernel_rfl) (StepsIf.yield (by kernel_rfl) (fun w' hS => by obtain ⟨⟨c0, c1, c2, c3⟩, _⟩ := hS.1.2.2.cells4; clear hS; go_simp)) ?_
          intro a' ha'
          simp only [Act.put, List.setIfInBounds_toArray, List.set_cons_zero, List.set_cons_succ] at ha'
          subst ha'
          refine AnyM.next (m := 11) (i := 6) (d := some 18) (v := .int .i64 ((k : Nat) : Int)) rfl rfl (by kernel_rfl) (by kernel_rfl) (by kernel_rfl) (by kernel_rfl) (StepsIf.yield (by kernel_rfl) (fun w' hS => by clear hS; go_simp)) ?_
          intro a' ha'
          simp only [Act.put, List.setIfInBounds_toArray, List.set_cons_zero, List.set_cons_succ] at ha'
          subst ha'
          refine AnyM.next (m := 11) (i := 7) (d := some 19) (v := .int .i64 (((k : Nat) : Int) % 64)) rfl rfl (by kernel_rfl) (by kernel_rfl) (by kernel_rfl) (by kernel_rfl) (StepsIf.yield (by kernel_rfl) (fun w' hS => by clear hS; go_simp; exact Int.tmod_eq_emod_of_nonneg (by omega))) ?_
          intro a' ha'
          simp only [Act.put, List.setIfInBounds_toArray, List.set_cons_zero, List.set_cons_succ] at ha'
          subst ha'
          refine AnyM.next (m := 11) (i := 8) (d := some 20) (v := .int .u64 (IntKind.u64.wrap (2 ^ (k % 64)))) rfl rfl (by kernel_rfl) (by kernel_rfl) (by kernel_rfl) (by kernel_rfl) (StepsIf.yield (by kernel_rfl) (fun w' hS => by clear hS; go_simp; rw [show (((k : Nat) : Int) % 64).toNat = k % 64 by omega])) ?_
          intro a' ha'
          simp only [Act.put, List.setIfInBounds_toArray, List.set_cons_zero, List.set_cons_succ] at ha'
          subst ha'
          refine AnyM.next (m := 11) (i := 9) (d := some 21) (v := .int .u64 (bits .or .u64 (wd t 0) (IntKind.u64.wrap (2 ^ (k % 64))))) rfl rfl (by kernel_rfl) (by kernel_rfl) (by kernel_rfl) (by kernel_rfl) (StepsIf.yield (by kernel_rfl) (fun w' hS => by clear hS; go_simp)) ?_
          intro a' ha'
          simp only [Act.put, List.setIfInBounds_toArray, List.set_cons_zero, List.set_cons_succ] at ha'
          subst ha'
          refine AnyM.next (m := 11) (i := 10) (d := some 22) (v := .pointer (some ⟨w.heap.size + 1 + 1, 0, none⟩)) rfl rfl (by kernel_rfl) (by kernel_rfl) (by kernel_rfl) (by kernel_rfl) (StepsIf.yield (by kernel_rfl) (fun w' hS => by clear hS; go_simp)) ?_
          intro a' ha'
          simp only [Act.put, List.setIfInBounds_toArray, List.set_cons_zero, List.set_cons_succ] at ha'
          subst ha'
          clear hU
          refine AnyM.last rfl (by kernel_rfl) (by kernel_rfl) (by kernel_rfl) (fun w3 hU K hK => ?_)
          obtain ⟨⟨c0, c1, c2, c3⟩, f0, f1, f2, f3⟩ := hU.1.2.2.cells4
          have HU := Lib.hid hU
          clear hU
          go_simp
          refine hK _ _ ?_
          clear hK K
          go_wp2
          go_roundw
          case rel =>
            refine ⟨k + 1, by omega, by simp, ?_⟩
            rw [HT.out]
            exact HU.out.store 0 _ (setA_or t k (by omega))
          case measure => simp [intOf]; omega
        · go_wp2_with fail
          refine region_stepsM (S := SO w arr t) (m := 11) rfl (by kernel_rfl) (drew_ok hU) ?_
          simp only [List.size_toArray, List.length_cons, List.length_nil, Nat.reduceAdd, Array.replicate_succ, Array.replicate_zero, List.push_toArray, List.nil_append, List.cons_append]
          refine AnyM.next (m := 11) (i := 0) (d := some 12) (v := .int .i64 ((k : Nat) : Int)) rfl rfl (by kernel_rfl) (by kernel_rfl) (by kernel_rfl) (by kernel_rfl) (StepsIf.yield (by kernel_rfl) (fun w' hS => by clear hS; go_simp)) ?_
          intro a' ha'
          simp only [Act.put, List.setIfInBounds_toArray, List.set_cons_zero, List.set_cons_succ] at ha'
          subst ha'
          refine AnyM.next (m := 11) (i := 1) (d := some 13) (v := .int .i64 1) rfl rfl (by kernel_rfl) (by kernel_rfl) (by kernel_rfl) (by kernel_rfl) (StepsIf.yield (by kernel_rfl) (fun w' hS => by clear hS; go_simp; exact IntWalk.i64_in _ (by omega))) ?_
          intro a' ha'
          simp only [Act.put, List.setIfInBounds_toArray, List.set_cons_zero, List.set_cons_succ] at ha'
          subst ha'
          refine AnyM.next (m := 11) (i := 2) (d := some 14) (v := .int .i64 ((k : Nat) : Int)) rfl rfl (by kernel_rfl) (by kernel_rfl) (by kernel_rfl) (by kernel_rfl) (StepsIf.yield (by kernel_rfl) (fun w' hS => by clear hS; go_simp)) ?_
          intro a' ha'
          simp only [Act.put, List.setIfInBounds_toArray, List.set_cons_zero, List.set_cons_succ] at ha'
          subst ha'
          refine AnyM.next (m := 11) (i := 3) (d := some 15) (v := .int .i64 1) rfl rfl (by kernel_rfl) (by kernel_rfl) (by kernel_rfl) (by kernel_rfl) (StepsIf.yield (by kernel_rfl) (fun w' hS => by clear hS; go_simp; exact IntWalk.i64_in _ (by omega))) ?_
          intro a' ha'
          simp only [Act.put, List.setIfInBounds_toArray, List.set_cons_zero, List.set_cons_succ] at ha'
          subst ha'
          refine AnyM.next (m := 11) (i := 4) (d := some 16) (v := .pointer (some ⟨w.heap.size + 1 + 1, 1, none⟩)) rfl rfl (by kernel_rfl) (by kernel_rfl) (by kernel_rfl) (by kernel_rfl) (StepsIf.yield (by kernel_rfl) (fun w' hS => by clear hS; go_simp)) ?_
          intro a' ha'
          simp only [Act.put, List.setIfInBounds_toArray, List.set_cons_zero, List.set_cons_succ] at ha'
          subst ha'
          refine AnyM.next (m := 11) (i := 5) (d := some 17) (v := .int .u64 (wd t 1)) rfl rfl (by kernel_rfl) (by kernel_rfl) (by kernel_rfl) (by kernel_rfl) (StepsIf.yield (by kernel_rfl) (fun w' hS => by obtain ⟨⟨c0, c1, c2, c3⟩, _⟩ := hS.1.2.2.cells4; clear hS; go_simp)) ?_
          intro a' ha'
          simp only [Act.put, List.setIfInBounds_toArray, List.set_cons_zero, List.set_cons_succ] at ha'
          subst ha'
          refine AnyM.next (m := 11) (i := 6) (d := some 18) (v := .int .i64 ((k : Nat) : Int)) rfl rfl (by kernel_rfl) (by kernel_rfl) (by kernel_rfl) (by kernel_rfl) (StepsIf.yield (by kernel_rfl) (fun w' hS => by clear hS; go_simp)) ?_
          intro a' ha'
          simp only [Act.put, List.setIfInBounds_toArray, List.set_cons_zero, List.set_cons_succ] at ha'
          subst ha'
          refine AnyM.next (m := 11) (i := 7) (d := some 19) (v := .int .i64 (((k : Nat) : Int) % 64)) rfl rfl (by kernel_rfl) (by kernel_rfl) (by kernel_rfl) (by kernel_rfl) (StepsIf.yield (by kernel_rfl) (fun w' hS => by clear hS; go_simp; exact Int.tmod_eq_emod_of_nonneg (by omega))) ?_
          intro a' ha'
          simp only [Act.put, List.setIfInBounds_toArray, List.set_cons_zero, List.set_cons_succ] at ha'
          subst ha'
          refine AnyM.next (m := 11) (i := 8) (d := some 20) (v := .int .u64 (IntKind.u64.wrap (2 ^ (k % 64)))) rfl rfl (by kernel_rfl) (by kernel_rfl) (by kernel_rfl) (by kernel_rfl) (StepsIf.yield (by kernel_rfl) (fun w' hS => by clear hS; go_simp; rw [show (((k : Nat) : Int) % 64).toNat = k % 64 by omega])) ?_
          intro a' ha'
          simp only [Act.put, List.setIfInBounds_toArray, List.set_cons_zero, List.set_cons_succ] at ha'
          subst ha'
          refine AnyM.next (m := 11) (i := 9) (d := some 21) (v := .int .u64 (bits .or .u64 (wd t 1) (IntKind.u64.wrap (2 ^ (k % 64))))) rfl rfl (by kernel_rfl) (by kernel_rfl) (by kernel_rfl) (by kernel_rfl) (StepsIf.yield (by kernel_rfl) (fun w' hS => by clear hS; go_simp)) ?_
          intro a' ha'
          simp only [Act.put, List.setIfInBounds_toArray, List.set_cons_zero, List.set_cons_succ] at ha'
          subst ha'
          refine AnyM.next (m := 11) (i := 10) (d := some 22) (v := .pointer (some ⟨w.heap.size + 1 + 1, 1, none⟩)) rfl rfl (by kernel_rfl) (by kernel_rfl) (by kernel_rfl) (by kernel_rfl) (StepsIf.yield (by kernel_rfl) (fun w' hS => by clear hS; go_simp)) ?_
          intro a' ha'
          simp only [Act.put, List.setIfInBounds_toArray, List.set_cons_zero, List.set_cons_succ] at ha'
          subst ha'
          clear hU
          refine AnyM.last rfl (by kernel_rfl) (by kernel_rfl) (by kernel_rfl) (fun w3 hU K hK => ?_)
          obtain ⟨⟨c0, c1, c2, c3⟩, f0, f1, f2, f3⟩ := hU.1.2.2.cells4
          have HU := Lib.hid hU
          clear hU
          go_simp
          refine hK _ _ ?_
          clear hK K
          go_wp2
          go_roundw
          case rel =>
            refine ⟨k + 1, by omega, by simp, ?_⟩
            rw [HT.out]
            exact HU.out.store 1 _ (setA_or1 t k (by omega))
          case measure => simp [intOf]; omega
        · go_wp2_with fail
          refine region_stepsM (S := SO w arr t) (m := 11) rfl (by kernel_rfl) (drew_ok hU) ?_
          simp only [List.size_toArray, List.length_cons, List.length_nil, Nat.reduceAdd, Array.replicate_succ, Array.replicate_zero, List.push_toArray, List.nil_append, List.cons_append]
          refine AnyM.next (m := 11) (i := 0) (d := some 12) (v := .int .i64 ((k : Nat) : Int)) rfl rfl (by kernel_rfl) (by kernel_rfl) (by kernel_rfl) (by kernel_rfl) (StepsIf.yield (by kernel_rfl) (fun w' hS => by clear hS; go_simp)) ?_
          intro a' ha'
          simp only [Act.put, List.setIfInBounds_toArray, List.set_cons_zero, List.set_cons_succ] at ha'
          subst ha'
          refine AnyM.next (m := 11) (i := 1) (d := some 13) (v := .int .i64 2) rfl rfl (by kernel_rfl) (by kernel_rfl) (by kernel_rfl) (by kernel_rfl) (StepsIf.yield (by kernel_rfl) (fun w' hS => by clear hS; go_simp; exact IntWalk.i64_in _ (by omega))) ?_
          intro a' ha'
          simp only [Act.put, List.setIfInBounds_toArray, List.set_cons_zero, List.set_cons_succ] at ha'
          subst ha'
          refine AnyM.next (m := 11) (i := 2) (d := some 14) (v := .int .i64 ((k : Nat) : Int)) rfl rfl (by kernel_rfl) (by kernel_rfl) (by kernel_rfl) (by kernel_rfl) (StepsIf.yield (by kernel_rfl) (fun w' hS => by clear hS; go_simp)) ?_
          intro a' ha'
          simp only [Act.put, List.setIfInBounds_toArray, List.set_cons_zero, List.set_cons_succ] at ha'
          subst ha'
          refine AnyM.next (m := 11) (i := 3) (d := some 15) (v := .int .i64 2) rfl rfl (by kernel_rfl) (by kernel_rfl) (by kernel_rfl) (by kernel_rfl) (StepsIf.yield (by kernel_rfl) (fun w' hS => by clear hS; go_simp; exact IntWalk.i64_in _ (by omega))) ?_
          intro a' ha'
          simp only [Act.put, List.setIfInBounds_toArray, List.set_cons_zero, List.set_cons_succ] at ha'
          subst ha'
          refine AnyM.next (m := 11) (i := 4) (d := some 16) (v := .pointer (some ⟨w.heap.size + 1 + 1, 2, none⟩)) rfl rfl (by kernel_rfl) (by kernel_rfl) (by kernel_rfl) (by kernel_rfl) (StepsIf.yield (by kernel_rfl) (fun w' hS => by clear hS; go_simp)) ?_
          intro a' ha'
          simp only [Act.put, List.setIfInBounds_toArray, List.set_cons_zero, List.set_cons_succ] at ha'
          subst ha'
          refine AnyM.next (m := 11) (i := 5) (d := some 17) (v := .int .u64 (wd t 2)) rfl rfl (by kernel_rfl) (by kernel_rfl) (by kernel_rfl) (by kernel_rfl) (StepsIf.yield (by kernel_rfl) (fun w' hS => by obtain ⟨⟨c0, c1, c2, c3⟩, _⟩ := hS.1.2.2.cells4; clear hS; go_simp)) ?_
          intro a' ha'
          simp only [Act.put, List.setIfInBounds_toArray, List.set_cons_zero, List.set_cons_succ] at ha'
          subst ha'
          refine AnyM.next (m := 11) (i := 6) (d := some 18) (v := .int .i64 ((k : Nat) : Int)) rfl rfl (by kernel_rfl) (by kernel_rfl) (by kernel_rfl) (by kernel_rfl) (StepsIf.yield (by kernel_rfl) (fun w' hS => by clear hS; go_simp)) ?_
          intro a' ha'
          simp only [Act.put, List.setIfInBounds_toArray, List.set_cons_zero, List.set_cons_succ] at ha'
          subst ha'
          refine AnyM.next (m := 11) (i := 7) (d := some 19) (v := .int .i64 (((k : Nat) : Int) % 64)) rfl rfl (by kernel_rfl) (by kernel_rfl) (by kernel_rfl) (by kernel_rfl) (StepsIf.yield (by kernel_rfl) (fun w' hS => by clear hS; go_simp; exact Int.tmod_eq_emod_of_nonneg (by omega))) ?_
          intro a' ha'
          simp only [Act.put, List.setIfInBounds_toArray, List.set_cons_zero, List.set_cons_succ] at ha'
          subst ha'
          refine AnyM.next (m := 11) (i := 8) (d := some 20) (v := .int .u64 (IntKind.u64.wrap (2 ^ (k % 64)))) rfl rfl (by kernel_rfl) (by kernel_rfl) (by kernel_rfl) (by kernel_rfl) (StepsIf.yield (by kernel_rfl) (fun w' hS => by clear hS; go_simp; rw [show (((k : Nat) : Int) % 64).toNat = k % 64 by omega])) ?_
          intro a' ha'
          simp only [Act.put, List.setIfInBounds_toArray, List.set_cons_zero, List.set_cons_succ] at ha'
          subst ha'
          refine AnyM.next (m := 11) (i := 9) (d := some 21) (v := .int .u64 (bits .or .u64 (wd t 2) (IntKind.u64.wrap (2 ^ (k % 64))))) rfl rfl (by kernel_rfl) (by kernel_rfl) (by kernel_rfl) (by kernel_rfl) (StepsIf.yield (by kernel_rfl) (fun w' hS => by clear hS; go_simp)) ?_
          intro a' ha'
          simp only [Act.put, List.setIfInBounds_toArray, List.set_cons_zero, List.set_cons_succ] at ha'
          subst ha'
          refine AnyM.next (m := 11) (i := 10) (d := some 22) (v := .pointer (some ⟨w.heap.size + 1 + 1, 2, none⟩)) rfl rfl (by kernel_rfl) (by kernel_rfl) (by kernel_rfl) (by kernel_rfl) (StepsIf.yield (by kernel_rfl) (fun w' hS => by clear hS; go_simp)) ?_
          intro a' ha'
          simp only [Act.put, List.setIfInBounds_toArray, List.set_cons_zero, List.set_cons_succ] at ha'
          subst ha'
          clear hU
          refine AnyM.last rfl (by kernel_rfl) (by kernel_rfl) (by kernel_rfl) (fun w3 hU K hK => ?_)
          obtain ⟨⟨c0, c1, c2, c3⟩, f0, f1, f2, f3⟩ := hU.1.2.2.cells4
          have HU := Lib.hid hU
          clear hU
          go_simp
          refine hK _ _ ?_
          clear hK K
          go_wp2
          go_roundw
          case rel =>
            refine ⟨k + 1, by omega, by simp, ?_⟩
            rw [HT.out]
            exact HU.out.store 2 _ (setA_or2 t k (by omega))
          case measure => simp [intOf]; omega
        · go_wp2_with fail
          refine region_stepsM (S := SO w arr t) (m := 11) rfl (by kernel_rfl) (drew_ok hU) ?_
          simp only [List.size_toArray, List.length_cons, List.length_nil, Nat.reduceAdd, Array.replicate_succ, Array.replicate_zero, List.push_toArray, List.nil_append, List.cons_append]
          refine AnyM.next (m := 11) (i := 0) (d := some 12) (v := .int .i64 ((k : Nat) : Int)) rfl rfl (by kernel_rfl) (by kernel_rfl) (by kernel_rfl) (by kernel_rfl) (StepsIf.yield (by kernel_rfl) (fun w' hS => by clear hS; go_simp)) ?_
          intro a' ha'
          simp only [Act.put, List.setIfInBounds_toArray, List.set_cons_zero, List.set_cons_succ] at ha'
          subst ha'
          refine AnyM.next (m := 11) (i := 1) (d := some 13) (v := .int .i64 3) rfl rfl (by kernel_rfl) (by kernel_rfl) (by kernel_rfl) (by kernel_rfl) (StepsIf.yield (by kernel_rfl) (fun w' hS => by clear hS; go_simp; exact IntWalk.i64_in _ (by omega))) ?_
          intro a' ha'
          simp only [Act.put, List.setIfInBounds_toArray, List.set_cons_zero, List.set_cons_succ] at ha'
          subst ha'
          refine AnyM.next (m := 11) (i := 2) (d := some 14) (v := .int .i64 ((k : Nat) : Int)) rfl rfl (by kernel_rfl) (by kernel_rfl) (by kernel_rfl) (by kernel_rfl) (StepsIf.yield (by kernel_rfl) (fun w' hS => by clear hS; go_simp)) ?_
          intro a' ha'
          simp only [Act.put, List.setIfInBounds_toArray, List.set_cons_zero, List.set_cons_succ] at ha'
          subst ha'
          refine AnyM.next (m := 11) (i := 3) (d := some 15) (v := .int .i64 3) rfl rfl (by kernel_rfl) (by kernel_rfl) (by kernel_rfl) (by kernel_rfl) (StepsIf.yield (by kernel_rfl) (fun w' hS => by clear hS; go_simp; exact IntWalk.i64_in _ (by omega))) ?_
          intro a' ha'
          simp only [Act.put, List.setIfInBounds_toArray, List.set_cons_zero, List.set_cons_succ] at ha'
          subst ha'
          refine AnyM.next (m := 11) (i := 4) (d := some 16) (v := .pointer (some ⟨w.heap.size + 1 + 1, 3, none⟩)) rfl rfl (by kernel_rfl) (by kernel_rfl) (by kernel_rfl) (by kernel_rfl) (StepsIf.yield (by kernel_rfl) (fun w' hS => by clear hS; go_simp)) ?_
          intro a' ha'
          simp only [Act.put, List.setIfInBounds_toArray, List.set_cons_zero, List.set_cons_succ] at ha'
          subst ha'
          refine AnyM.next (m := 11) (i := 5) (d := some 17) (v := .int .u64 (wd t 3)) rfl rfl (by kernel_rfl) (by kernel_rfl) (by kernel_rfl) (by kernel_rfl) (StepsIf.yield (by kernel_rfl) (fun w' hS => by obtain ⟨⟨c0, c1, c2, c3⟩, _⟩ := hS.1.2.2.cells4; clear hS; go_simp)) ?_
          intro a' ha'
          simp only [Act.put, List.setIfInBounds_toArray, List.set_cons_zero, List.set_cons_succ] at ha'
          subst ha'
          refine AnyM.next (m := 11) (i := 6) (d := some 18) (v := .int .i64 ((k : Nat) : Int)) rfl rfl (by kernel_rfl) (by kernel_rfl) (by kernel_rfl) (by kernel_rfl) (StepsIf.yield (by kernel_rfl) (fun w' hS => by clear hS; go_simp)) ?_
          intro a' ha'
          simp only [Act.put, List.setIfInBounds_toArray, List.set_cons_zero, List.set_cons_succ] at ha'
          subst ha'
          refine AnyM.next (m := 11) (i := 7) (d := some 19) (v := .int .i64 (((k : Nat) : Int) % 64)) rfl rfl (by kernel_rfl) (by kernel_rfl) (by kernel_rfl) (by kernel_rfl) (StepsIf.yield (by kernel_rfl) (fun w' hS => by clear hS; go_simp; exact Int.tmod_eq_emod_of_nonneg (by omega))) ?_
          intro a' ha'
          simp only [Act.put, List.setIfInBounds_toArray, List.set_cons_zero, List.set_cons_succ] at ha'
          subst ha'
          refine AnyM.next (m := 11) (i := 8) (d := some 20) (v := .int .u64 (IntKind.u64.wrap (2 ^ (k % 64)))) rfl rfl (by kernel_rfl) (by kernel_rfl) (by kernel_rfl) (by kernel_rfl) (StepsIf.yield (by kernel_rfl) (fun w' hS => by clear hS; go_simp; rw [show (((k : Nat) : Int) % 64).toNat = k % 64 by omega])) ?_
          intro a' ha'
          simp only [Act.put, List.setIfInBounds_toArray, List.set_cons_zero, List.set_cons_succ] at ha'
          subst ha'
          refine AnyM.next (m := 11) (i := 9) (d := some 21) (v := .int .u64 (bits .or .u64 (wd t 3) (IntKind.u64.wrap (2 ^ (k % 64))))) rfl rfl (by kernel_rfl) (by kernel_rfl) (by kernel_rfl) (by kernel_rfl) (StepsIf.yield (by kernel_rfl) (fun w' hS => by clear hS; go_simp)) ?_
          intro a' ha'
          simp only [Act.put, List.setIfInBounds_toArray, List.set_cons_zero, List.set_cons_succ] at ha'
          subst ha'
          refine AnyM.next (m := 11) (i := 10) (d := some 22) (v := .pointer (some ⟨w.heap.size + 1 + 1, 3, none⟩)) rfl rfl (by kernel_rfl) (by kernel_rfl) (by kernel_rfl) (by kernel_rfl) (StepsIf.yield (by kernel_rfl) (fun w' hS => by clear hS; go_simp)) ?_
          intro a' ha'
          simp only [Act.put, List.setIfInBounds_toArray, List.set_cons_zero, List.set_cons_succ] at ha'
          subst ha'
          clear hU
          refine AnyM.last rfl (by kernel_rfl) (by kernel_rfl) (by kernel_rfl) (fun w3 hU K hK => ?_)
          obtain ⟨⟨c0, c1, c2, c3⟩, f0, f1, f2, f3⟩ := hU.1.2.2.cells4
          have HU := Lib.hid hU
          clear hU
          go_simp
          refine hK _ _ ?_
          clear hK K
          go_wp2
          go_roundw
          case rel =>
            refine ⟨k + 1, by omega, by simp, ?_⟩
            rw [HT.out]
            exact HU.out.store 3 _ (setA_or3 t k (by omega))
          case measure => simp [intOf]; omega
    · obtain rfl : k = 256 := by omega
      rw [pre_all] at hU
      obtain ⟨⟨c0, c1, c2, c3⟩, _⟩ := hU.1.2.2.cells4
      obtain ⟨⟨d0, d1, d2, d3⟩, g0, g1, g2, g3⟩ := hU.1.2.1.cells4
      have HU := Lib.hid hU
      clear hU
      generalize ht : ofFn f = t at *
      have HT := Lib.hid ht
      clear ht
      go_wp2
      obtain ⟨hR, hB⟩ := fin4 HU.out.1.2.1 HU.out.2 (by omega) t
      clear d0 d1 d2 d3 g0 g1 g2 g3 c0 c1 c2 c3 HU hkl hk HB
      generalize (((wr.setCell ⟨w.heap.size + 1, 0, none⟩ (.int .u64 (wd t 0))).setCell ⟨w.heap.size + 1, 1, none⟩ (.int .u64 (wd t 1))).setCell ⟨w.heap.size + 1, 2, none⟩ (.int .u64 (wd t 2))).setCell ⟨w.heap.size + 1, 3, none⟩ (.int .u64 (wd t 3)) = W4 at *
      obtain ⟨⟨e0, e1, e2, e3⟩, _⟩ := hR.cells4
      exact bodyPost_ret (v := setV t) (by simp [results, Tryz.results67, go_sem, e0, e1, e2, e3]) rfl ⟨by rw [HT.out], hB⟩

def SW (w : World) (t : BitVec 256) (W : World) : Prop :=
  (Blk W w.heap.size (setA t) 38 ∧ Blk W (w.heap.size + 1) (setA 0) 38) ∧ Below w.heap.size w W
theorem drew_w {w W : World} {t : BitVec 256} (h : SW w t W) : SW w t W.drew := ⟨⟨h.1.1, h.1.2⟩, h.2.drew⟩
theorem SW.store {w W : World} {t t' : BitVec 256} (h : SW w t W) (i : Nat) (v : Value) (hv : (setA t).setIfInBounds i v = setA t') : SW w t' (W.setCell ⟨w.heap.size, i, none⟩ v) :=
  ⟨⟨by rw [← hv]; exact h.1.1.set i v, h.1.2.other (by omega) _ _⟩, below_set h.2 (by omega) _ _⟩

end Go.Proofs.YtldaaelmifbbhaaGreat

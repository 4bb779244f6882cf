/- class.table: the twelve classes, by names. -/
import Derived.Test.YtpaecjjelpjopaaGreatDoorP1
import Derived.Laws.Rows
import Derived.Laws.Tables
import Derived.Laws.CopyOwn
namespace Go.Proofs.YtpaecjjelpjopaaGreatDoor
open Go.RowKit Go.Shelf BS
attribute [local go_sem] Oper.semAt_some

def cDig : BitVec 256 := range 48 57
def cUpp : BitVec 256 := range 65 90
def cLow : BitVec 256 := range 97 122
def cAlp : BitVec 256 := cUpp ||| cLow
def cAln : BitVec 256 := cAlp ||| cDig
def cGra : BitVec 256 := range 33 126
def cBla : BitVec 256 := withL 0 [9, 32]
def cCnt : BitVec 256 := withL (range 0 31) [127]
def cPri : BitVec 256 := range 32 126
def cPun : BitVec 256 := cGra &&& ~~~cAln
def cSpa : BitVec 256 := withL (range 9 13) [32]
def cXdi : BitVec 256 := cDig ||| (range 65 70 ||| range 97 102)

/-- Names and classes, in their order. -/
def tabL : List (ByteArray × BitVec 256) := [(⟨#[97, 108, 110, 117, 109]⟩, cAln), (⟨#[97, 108, 112, 104, 97]⟩, cAlp), (⟨#[98, 108, 97, 110, 107]⟩, cBla), (⟨#[99, 110, 116, 114, 108]⟩, cCnt), (⟨#[100, 105, 103, 105, 116]⟩, cDig), (⟨#[103, 114, 97, 112, 104]⟩, cGra), (⟨#[108, 111, 119, 101, 114]⟩, cLow), (⟨#[112, 114, 105, 110, 116]⟩, cPri), (⟨#[112, 117, 110, 99, 116]⟩, cPun), (⟨#[115, 112, 97, 99, 101]⟩, cSpa), (⟨#[117, 112, 112, 101, 114]⟩, cUpp), (⟨#[120, 100, 105, 103, 105, 116]⟩, cXdi)]
def entV (e : ByteArray × BitVec 256) : List Value := [.string e.1, .int .u64 (wd e.2 0), .int .u64 (wd e.2 1), .int .u64 (wd e.2 2), .int .u64 (wd e.2 3)]
def tabV : Array Value := (tabL.flatMap entV).toArray

theorem with_calls' (s : BitVec 256) (a : Option Addr) (len cap : Nat) (l : List (Fin 256)) (hreach : l.length ≤ 9223372036854775807) (w : World) (hI : BytesAt w.heap.size w (.slice a len cap) l) :
    Calls Tryz.prog 46 #[setV s, .slice a len cap] w fun e W' => e = .returned (setV (withL s l)) ∧ Below w.heap.size w W' :=
  callsIn_wide.1 (with_in 3 (by omega) s _ a len cap rfl l hreach w hI)
theorem BytesAt.le {n n' : Nat} {W : World} {v : Value} {l : List (Fin 256)} (h : BytesAt n W v l) (hn : n ≤ n') : BytesAt n' W v l := by
  obtain ⟨a, cap, e, h⟩ := h
  refine ⟨a, cap, e, fun hne => ?_⟩
  obtain ⟨b, off, e, hlt, hc⟩ := h hne
  exact ⟨b, off, e, by omega, hc⟩
theorem BytesAt.step {W W' : World} {v : Value} {l : List (Fin 256)} (h : BytesAt W.heap.size W v l) (hb : Below W.heap.size W W') : BytesAt W'.heap.size W' v l := (h.keep hb).le hb.size
def byW (l : List (Fin 256)) : Array Value := (l.map fun (x : Fin 256) => Value.int .u8 (x.val : Int)).toArray
/-- A new block of bytes. -/
theorem bytes_new (W : World) (t : TypeId) (l : List (Fin 256)) : BytesAt (W.alloc (.cells (byW l) t)).heap.size (W.alloc (.cells (byW l) t)) (.slice (some ⟨W.heap.size, 0, none⟩) l.length l.length) l := by
  refine ⟨_, l.length, rfl, fun _ => ⟨W.heap.size, 0, rfl, by simp, fun j hj => ?_⟩⟩
  rw [Nat.zero_add, (Blk.new W _ t).cell j]
  simp [byW, hj]

theorem Deps.get {md : Region.Mode} {ops : Array Oper} {V : Nat → Value → World → Prop} {o oj : Oper} {a : Act} {w : World} {k d : Nat} (h : Deps md ops V o a w) (hk : (o.after.any fun e => Region.binds md e && e.on == k) = true) (hj : ops[k]? = some oj) (hd : oj.dst = some d) : V k (a.tmps.getD d undef) w := by
  simp only [Array.any_eq_true', Bool.and_eq_true, beq_iff_eq] at hk
  obtain ⟨e, he, hb, rfl⟩ := hk
  exact h e he hb oj d hj hd
theorem rangeC (x y : Nat) (w : World) (hx : x < 256) (hy : y < 256) : Calls Tryz.prog 150 #[.int .u8 x, .int .u8 y] w fun e w' => e = .returned (setV (range x y)) ∧ Below w.heap.size w w' := by
  have h := range_calls x y w (by omega) (by omega) (by omega) (by omega)
  rw [Int.toNat_natCast, Int.toNat_natCast] at h; exact h
def UT : Nat → List Value → Value → Prop
  | 0, _, v => v = setV cAln
  | 1, _, v => v = .agg #[.string ⟨#[97, 108, 110, 117, 109]⟩, .int .u64 (wd cAln 0), .int .u64 (wd cAln 1), .int .u64 (wd cAln 2), .int .u64 (wd cAln 3)]
  | 2, _, v => v = setV cAlp
  | 3, _, v => v = .agg #[.string ⟨#[97, 108, 112, 104, 97]⟩, .int .u64 (wd cAlp 0), .int .u64 (wd cAlp 1), .int .u64 (wd cAlp 2), .int .u64 (wd cAlp 3)]
  | 4, _, v => v = setV 0
  | 5, _, v => ∃ a, v = .slice a 2 2
  | 6, _, v => v = setV cBla
  | 7, _, v => v = .agg #[.string ⟨#[98, 108, 97, 110, 107]⟩, .int .u64 (wd cBla 0), .int .u64 (wd cBla 1), .int .u64 (wd cBla 2), .int .u64 (wd cBla 3)]
  | 8, _, v => v = setV (range 0 31)
  | 9, _, v => ∃ a, v = .slice a 1 1
  | 10, _, v => v = setV cCnt
  | 11, _, v => v = .agg #[.string ⟨#[99, 110, 116, 114, 108]⟩, .int .u64 (wd cCnt 0), .int .u64 (wd cCnt 1), .int .u64 (wd cCnt 2), .int .u64 (wd cCnt 3)]
  | 12, _, v => v = setV cDig
  | 13, _, v => v = .agg #[.string ⟨#[100, 105, 103, 105, 116]⟩, .int .u64 (wd cDig 0), .int .u64 (wd cDig 1), .int .u64 (wd cDig 2), .int .u64 (wd cDig 3)]
  | 14, _, v => v = setV cGra
  | 15, _, v => v = .agg #[.string ⟨#[103, 114, 97, 112, 104]⟩, .int .u64 (wd cGra 0), .int .u64 (wd cGra 1), .int .u64 (wd cGra 2), .int .u64 (wd cGra 3)]
  | 16, _, v => v = setV cLow
  | 17, _, v => v = .agg #[.string ⟨#[108, 111, 119, 101, 114]⟩, .int .u64 (wd cLow 0), .int .u64 (wd cLow 1), .int .u64 (wd cLow 2), .int .u64 (wd cLow 3)]
  | 18, _, v => v = setV cPri
  | 19, _, v => v = .agg #[.string ⟨#[112, 114, 105, 110, 116]⟩, .int .u64 (wd cPri 0), .int .u64 (wd cPri 1), .int .u64 (wd cPri 2), .int .u64 (wd cPri 3)]
  | 20, _, v => v = setV cGra
  | 21, _, v => v = setV cAln
  | 22, _, v => v = setV cPun
  | 23, _, v => v = .agg #[.string ⟨#[112, 117, 110, 99, 116]⟩, .int .u64 (wd cPun 0), .int .u64 (wd cPun 1), .int .u64 (wd cPun 2), .int .u64 (wd cPun 3)]
  | 24, _, v => v = setV (range 9 13)
  | 25, _, v => ∃ a, v = .slice a 1 1
  | 26, _, v => v = setV cSpa
  | 27, _, v => v = .agg #[.string ⟨#[115, 112, 97, 99, 101]⟩, .int .u64 (wd cSpa 0), .int .u64 (wd cSpa 1), .int .u64 (wd cSpa 2), .int .u64 (wd cSpa 3)]
  | 28, _, v => v = setV cUpp
  | 29, _, v => v = .agg #[.string ⟨#[117, 112, 112, 101, 114]⟩, .int .u64 (wd cUpp 0), .int .u64 (wd cUpp 1), .int .u64 (wd cUpp 2), .int .u64 (wd cUpp 3)]
  | 30, _, v => v = setV cDig
  | 31, _, v => v = setV (range 65 70)
  | 32, _, v => v = setV (range 97 102)
  | 33, _, v => v = setV (range 65 70 ||| range 97 102)
  | 34, _, v => v = setV cXdi
  | 35, _, v => v = .agg #[.string ⟨#[120, 100, 105, 103, 105, 116]⟩, .int .u64 (wd cXdi 0), .int .u64 (wd cXdi 1), .int .u64 (wd cXdi 2), .int .u64 (wd cXdi 3)]
  | 36, _, v => v = .agg tabV
  | _, _, _ => True
def VT : Nat → Value → World → Prop
  | 5, v, w => BytesAt w.heap.size w v [9, 32]
  | 9, v, w => BytesAt w.heap.size w v [127]
  | 25, v, w => BytesAt w.heap.size w v [32]
  | _, _, _ => True
theorem keepVT : ∀ i v w w', Below w.heap.size w w' → VT i v w → VT i v w' := by
  intro i v w w' hb h
  unfold VT at *
  split <;> first | exact BytesAt.step h hb | trivial

theorem tabV_one : (tabV.all fun x => x.oneCell') = true := by simp [tabV, tabL, entV, Value.oneCell']
theorem setA_withL (l : List (Fin 256)) : withL 0 l = withL 0 l := rfl
theorem empty_set : (Value.agg #[.int .u64 0, .int .u64 0, .int .u64 0, .int .u64 0]) = setV 0 := rfl
theorem zero_blk (W : World) : (W.alloc (.cells (Array.replicate 4 (Value.int .u64 0)) 25)) = W.alloc (.cells (setA 0) 25) := rfl

theorem dig_c (w : World) : Calls Tryz.prog 150 #[.int .u8 48, .int .u8 57] w fun e w' => e = .returned (setV cDig) ∧ Below w.heap.size w w' := rangeC 48 57 w (by decide) (by decide)
theorem upp_c (w : World) : Calls Tryz.prog 150 #[.int .u8 65, .int .u8 90] w fun e w' => e = .returned (setV cUpp) ∧ Below w.heap.size w w' := rangeC 65 90 w (by decide) (by decide)
theorem low_c (w : World) : Calls Tryz.prog 150 #[.int .u8 97, .int .u8 122] w fun e w' => e = .returned (setV cLow) ∧ Below w.heap.size w w' := rangeC 97 122 w (by decide) (by decide)
theorem alp_c (w : World) : Calls Tryz.prog 144 #[setV cUpp, setV cLow] w fun e w' => e = .returned (setV cAlp) ∧ Below w.heap.size w w' := or_calls cUpp cLow w
theorem aln_c (w : World) : Calls Tryz.prog 144 #[setV cAlp, setV cDig] w fun e w' => e = .returned (setV cAln) ∧ Below w.heap.size w w' := or_calls cAlp cDig w
theorem gra_c (w : World) : Calls Tryz.prog 150 #[.int .u8 33, .int .u8 126] w fun e w' => e = .returned (setV cGra) ∧ Below w.heap.size w w' := rangeC 33 126 w (by decide) (by decide)
theorem pri_c (w : World) : Calls Tryz.prog 150 #[.int .u8 32, .int .u8 126] w fun e w' => e = .returned (setV cPri) ∧ Below w.heap.size w w' := rangeC 32 126 w (by decide) (by decide)
theorem r31_c (w : World) : Calls Tryz.prog 150 #[.int .u8 0, .int .u8 31] w fun e w' => e = .returned (setV (range 0 31)) ∧ Below w.heap.size w w' := rangeC 0 31 w (by decide) (by decide)
theorem r13_c (w : World) : Calls Tryz.prog 150 #[.int .u8 9, .int .u8 13] w fun e w' => e = .returned (setV (range 9 13)) ∧ Below w.heap.size w w' := rangeC 9 13 w (by decide) (by decide)
theorem r65_c (w : World) : Calls Tryz.prog 150 #[.int .u8 65, .int .u8 70] w fun e w' => e = .returned (setV (range 65 70)) ∧ Below w.heap.size w w' := rangeC 65 70 w (by decide) (by decide)
theorem r97_c (w : World) : Calls Tryz.prog 150 #[.int .u8 97, .int .u8 102] w fun e w' => e = .returned (setV (range 97 102)) ∧ Below w.heap.size w w' := rangeC 97 102 w (by decide) (by decide)
theorem pun_c (w : World) : Calls Tryz.prog 41 #[setV cGra, setV cAln] w fun e w' => e = .returned (setV cPun) ∧ Below w.heap.size w w' := less_calls cGra cAln w
theorem xd1_c (w : World) : Calls Tryz.prog 144 #[setV (range 65 70), setV (range 97 102)] w fun e w' => e = .returned (setV (range 65 70 ||| range 97 102)) ∧ Below w.heap.size w w' := or_calls _ _ w
theorem xdi_c (w : World) : Calls Tryz.prog 144 #[setV cDig, setV (range 65 70 ||| range 97 102)] w fun e w' => e = .returned (setV cXdi) ∧ Below w.heap.size w w' := or_calls cDig (range 65 70 ||| range 97 102) w
def tab0 : Array Value := #[.string ⟨#[]⟩, .int .u64 0, .int .u64 0, .int .u64 0, .int .u64 0, .string ⟨#[]⟩, .int .u64 0, .int .u64 0, .int .u64 0, .int .u64 0, .string ⟨#[]⟩, .int .u64 0, .int .u64 0, .int .u64 0, .int .u64 0, .string ⟨#[]⟩, .int .u64 0, .int .u64 0, .int .u64 0, .int .u64 0, .string ⟨#[]⟩, .int .u64 0, .int .u64 0, .int .u64 0, .int .u64 0, .string ⟨#[]⟩, .int .u64 0, .int .u64 0, .int .u64 0, .int .u64 0, .string ⟨#[]⟩, .int .u64 0, .int .u64 0, .int .u64 0, .int .u64 0, .string ⟨#[]⟩, .int .u64 0, .int .u64 0, .int .u64 0, .int .u64 0, .string ⟨#[]⟩, .int .u64 0, .int .u64 0, .int .u64 0, .int .u64 0, .string ⟨#[]⟩, .int .u64 0, .int .u64 0, .int .u64 0, .int .u64 0, .string ⟨#[]⟩, .int .u64 0, .int .u64 0, .int .u64 0, .int .u64 0, .string ⟨#[]⟩, .int .u64 0, .int .u64 0, .int .u64 0, .int .u64 0]

set_option maxRecDepth 100000 in
set_option maxHeartbeats 4000000 in
theorem table_calls (w : World) : Calls Tryz.prog 151 #[] w fun e w' => e = .returned (.agg tabV) ∧ Below w.heap.size w w' := by
  go_enter Tryz.func151, Tryz.ntmps151
  go_wp2_with fail
  have b0 := Blk.new w tab0 172
  have hB0 : Below w.heap.size w (w.alloc (.cells tab0 172)) := by go_grown
  have hz0 : (w.alloc (.cells tab0 172)).heap.size ≤ w.heap.size + 1 ∧ w.heap.size + 1 ≤ (w.alloc (.cells tab0 172)).heap.size := by simp
  have BR := Lib.hid b0
  have HB := Lib.hid hB0
  clear b0 hB0
  show Calls _ _ _ (w.alloc (.cells tab0 172)) _
  generalize w.alloc (.cells tab0 172) = w0 at *
  refine (dig_c _).mono ?_
  rintro e v1 ⟨rfl, hb⟩
  have hz := hb.size
  have BR' := Lib.hid ((BR.out.below hb (by omega)).alloc (.cells (setA cDig) 25))
  have HB' := Lib.hid ((HB.out.trans (hb.mono (by omega))).alloc (by omega) (.cells (setA cDig) 25))
  have B1 := Lib.hid (Blk.new v1 (setA cDig) 25)
  clear BR HB hb
  have hz1 : (v1.alloc (.cells (setA cDig) 25)).heap.size ≤ v1.heap.size + 1 ∧ v1.heap.size + 1 ≤ (v1.alloc (.cells (setA cDig) 25)).heap.size := by simp
  have BR := BR'
  have HB := HB'
  clear BR' HB'
  go_wp2_with fail
  have e0 : (v1.alloc (.cells #[.int .u64 (wd cDig 0), .int .u64 (wd cDig 1), .int .u64 (wd cDig 2), .int .u64 (wd cDig 3)] 25)) = v1.alloc (.cells (setA cDig) 25) := rfl
  rw [e0]
  clear e0
  generalize v1.alloc (.cells (setA cDig) 25) = w1 at *
  refine (upp_c _).mono ?_
  rintro e v2 ⟨rfl, hb⟩
  have hz := hb.size
  have BR' := Lib.hid ((BR.out.below hb (by omega)).alloc (.cells (setA cUpp) 25))
  have HB' := Lib.hid ((HB.out.trans (hb.mono (by omega))).alloc (by omega) (.cells (setA cUpp) 25))
  have B1' := Lib.hid ((B1.out.below hb (by omega)).alloc (.cells (setA cUpp) 25))
  have B2 := Lib.hid (Blk.new v2 (setA cUpp) 25)
  clear BR HB hb B1
  have hz2 : (v2.alloc (.cells (setA cUpp) 25)).heap.size ≤ v2.heap.size + 1 ∧ v2.heap.size + 1 ≤ (v2.alloc (.cells (setA cUpp) 25)).heap.size := by simp
  have BR := BR'
  have HB := HB'
  clear BR' HB'
  have B1 := B1'
  clear B1'
  go_wp2_with fail
  have e0 : (v2.alloc (.cells #[.int .u64 (wd cUpp 0), .int .u64 (wd cUpp 1), .int .u64 (wd cUpp 2), .int .u64 (wd cUpp 3)] 25)) = v2.alloc (.cells (setA cUpp) 25) := rfl
  rw [e0]
  clear e0
  generalize v2.alloc (.cells (setA cUpp) 25) = w2 at *
  refine (low_c _).mono ?_
  rintro e v3 ⟨rfl, hb⟩
  have hz := hb.size
  have BR' := Lib.hid ((BR.out.below hb (by omega)).alloc (.cells (setA cLow) 25))
  have HB' := Lib.hid ((HB.out.trans (hb.mono (by omega))).alloc (by omega) (.cells (setA cLow) 25))
  have B1' := Lib.hid ((B1.out.below hb (by omega)).alloc (.cells (setA cLow) 25))
  have B2' := Lib.hid ((B2.out.below hb (by omega)).alloc (.cells (setA cLow) 25))
  have B3 := Lib.hid (Blk.new v3 (setA cLow) 25)
  clear BR HB hb B1 B2
  have hz3 : (v3.alloc (.cells (setA cLow) 25)).heap.size ≤ v3.heap.size + 1 ∧ v3.heap.size + 1 ≤ (v3.alloc (.cells (setA cLow) 25)).heap.size := by simp
  have BR := BR'
  have HB := HB'
  clear BR' HB'
  have B1 := B1'
  clear B1'
  have B2 := B2'
  clear B2'
  obtain ⟨⟨c0, c1, c2, c3⟩, _⟩ := B2.out.cells4
  obtain ⟨⟨d0, d1, d2, d3⟩, _⟩ := B3.out.cells4
  go_wp2_with fail
  have e0 : (v3.alloc (.cells #[.int .u64 (wd cLow 0), .int .u64 (wd cLow 1), .int .u64 (wd cLow 2), .int .u64 (wd cLow 3)] 25)) = v3.alloc (.cells (setA cLow) 25) := rfl
  rw [e0]
  clear e0
  generalize v3.alloc (.cells (setA cLow) 25) = w3 at *
  refine (alp_c _).mono ?_
  rintro e v4 ⟨rfl, hb⟩
  have hz := hb.size
  have BR' := Lib.hid ((BR.out.below hb (by omega)).alloc (.cells (setA cAlp) 25))
  have HB' := Lib.hid ((HB.out.trans (hb.mono (by omega))).alloc (by omega) (.cells (setA cAlp) 25))
  have B1' := Lib.hid ((B1.out.below hb (by omega)).alloc (.cells (setA cAlp) 25))
  have B2' := Lib.hid ((B2.out.below hb (by omega)).alloc (.cells (setA cAlp) 25))
  have B3' := Lib.hid ((B3.out.below hb (by omega)).alloc (.cells (setA cAlp) 25))
  have B4 := Lib.hid (Blk.new v4 (setA cAlp) 25)
  clear BR HB hb B1 B2 B3
  have hz4 : (v4.alloc (.cells (setA cAlp) 25)).heap.size ≤ v4.heap.size + 1 ∧ v4.heap.size + 1 ≤ (v4.alloc (.cells (setA cAlp) 25)).heap.size := by simp
  have BR := BR'
  have HB := HB'
  clear BR' HB'
  have B1 := B1'
  clear B1'
  have B2 := B2'
  clear B2'
  have B3 := B3'
  clear B3'
  clear c0 c1 c2 c3 d0 d1 d2 d3
  obtain ⟨⟨c0, c1, c2, c3⟩, _⟩ := B4.out.cells4
  obtain ⟨⟨d0, d1, d2, d3⟩, _⟩ := B1.out.cells4
  go_wp2_with fail
  have e0 : (v4.alloc (.cells #[.int .u64 (wd cAlp 0), .int .u64 (wd cAlp 1), .int .u64 (wd cAlp 2), .int .u64 (wd cAlp 3)] 25)) = v4.alloc (.cells (setA cAlp) 25) := rfl
  rw [e0]
  clear e0
  generalize v4.alloc (.cells (setA cAlp) 25) = w4 at *
  refine (aln_c _).mono ?_
  rintro e v5 ⟨rfl, hb⟩
  have hz := hb.size
  have BR' := Lib.hid ((BR.out.below hb (by omega)).alloc (.cells (setA cAln) 25))
  have HB' := Lib.hid ((HB.out.trans (hb.mono (by omega))).alloc (by omega) (.cells (setA cAln) 25))
  have B1' := Lib.hid ((B1.out.below hb (by omega)).alloc (.cells (setA cAln) 25))
  have B2' := Lib.hid ((B2.out.below hb (by omega)).alloc (.cells (setA cAln) 25))
  have B3' := Lib.hid ((B3.out.below hb (by omega)).alloc (.cells (setA cAln) 25))
  have B4' := Lib.hid ((B4.out.below hb (by omega)).alloc (.cells (setA cAln) 25))
  have B5 := Lib.hid (Blk.new v5 (setA cAln) 25)
  clear BR HB hb B1 B2 B3 B4
  have hz5 : (v5.alloc (.cells (setA cAln) 25)).heap.size ≤ v5.heap.size + 1 ∧ v5.heap.size + 1 ≤ (v5.alloc (.cells (setA cAln) 25)).heap.size := by simp
  have BR := BR'
  have HB := HB'
  clear BR' HB'
  have B1 := B1'
  clear B1'
  have B2 := B2'
  clear B2'
  have B3 := B3'
  clear B3'
  have B4 := B4'
  clear B4'
  clear c0 c1 c2 c3 d0 d1 d2 d3
  go_wp2_with fail
  have e0 : (v5.alloc (.cells #[.int .u64 (wd cAln 0), .int .u64 (wd cAln 1), .int .u64 (wd cAln 2), .int .u64 (wd cAln 3)] 25)) = v5.alloc (.cells (setA cAln) 25) := rfl
  rw [e0]
  clear e0
  generalize v5.alloc (.cells (setA cAln) 25) = w5 at *
  refine (gra_c _).mono ?_
  rintro e v6 ⟨rfl, hb⟩
  have hz := hb.size
  have BR' := Lib.hid ((BR.out.below hb (by omega)).alloc (.cells (setA cGra) 25))
  have HB' := Lib.hid ((HB.out.trans (hb.mono (by omega))).alloc (by omega) (.cells (setA cGra) 25))
  have B1' := Lib.hid ((B1.out.below hb (by omega)).alloc (.cells (setA cGra) 25))
  have B2' := Lib.hid ((B2.out.below hb (by omega)).alloc (.cells (setA cGra) 25))
  have B3' := Lib.hid ((B3.out.below hb (by omega)).alloc (.cells (setA cGra) 25))
  have B4' := Lib.hid ((B4.out.below hb (by omega)).alloc (.cells (setA cGra) 25))
  have B5' := Lib.hid ((B5.out.below hb (by omega)).alloc (.cells (setA cGra) 25))
  have B6 := Lib.hid (Blk.new v6 (setA cGra) 25)
  clear BR HB hb B1 B2 B3 B4 B5
  have hz6 : (v6.alloc (.cells (setA cGra) 25)).heap.size ≤ v6.heap.size + 1 ∧ v6.heap.size + 1 ≤ (v6.alloc (.cells (setA cGra) 25)).heap.size := by simp
  have BR := BR'
  have HB := HB'
  clear BR' HB'
  have B1 := B1'
  clear B1'
  have B2 := B2'
  clear B2'
  have B3 := B3'
  clear B3'
  have B4 := B4'
  clear B4'
  have B5 := B5'
  clear B5'
  go_wp2_with fail
  have e0 : (v6.alloc (.cells #[.int .u64 (wd cGra 0), .int .u64 (wd cGra 1), .int .u64 (wd cGra 2), .int .u64 (wd cGra 3)] 25)) = v6.alloc (.cells (setA cGra) 25) := rfl
  rw [e0]
  clear e0
  generalize v6.alloc (.cells (setA cGra) 25) = w6 at *
  have hS0 : Below w6.heap.size w6 w6.drew := (Below.refl _ _).drew
  refine region_stepsRM (S := fun W => Below w6.heap.size w6 W) (U := UT) (V := VT) (m := 37) rfl (by kernel_rfl) (fun _ _ hb hs => hs.trans (hb.mono hs.size)) keepVT (by kernel_rfl) hS0 ?_
  clear hS0
  simp only [List.size_toArray, List.length_cons, List.length_nil, Nat.reduceAdd, Array.replicate_succ, Array.replicate_zero, List.push_toArray, List.nil_append, List.cons_append]
  refine AnyRM.step (i := 0) (d := some 17) rfl rfl (by kernel_rfl) (by kernel_rfl) (by kernel_rfl) (by kernel_rfl) (by kernel_rfl) ?_ ?_ ?_
  · exact ⟨_, rfl⟩
  · refine StepsR.yield (setV cAln) rfl (by kernel_rfl) (fun w' hS hD => ⟨?_, trivial⟩)
    obtain ⟨⟨c0, c1, c2, c3⟩, _⟩ := (B5.out.below hS (Blk.lt B5.out)).cells4; clear hS hD; go_simp
    try rfl
  intro v' hv' a' ha'
  have hv' : setV cAln = v' := Eq.symm hv'
  subst hv'
  simp only [Act.put, List.setIfInBounds_toArray, List.set_cons_zero, List.set_cons_succ] at ha'
  subst ha'
  refine AnyRM.step (i := 1) (d := some 18) rfl rfl (by kernel_rfl) (by kernel_rfl) (by kernel_rfl) (by kernel_rfl) (by kernel_rfl) ?_ ?_ ?_
  · exact ⟨_, rfl⟩
  · refine StepsR.yield (.agg #[.string ⟨#[97, 108, 110, 117, 109]⟩, .int .u64 (wd cAln 0), .int .u64 (wd cAln 1), .int .u64 (wd cAln 2), .int .u64 (wd cAln 3)]) rfl (by kernel_rfl) (fun w' hS hD => ⟨?_, trivial⟩)
    clear hS hD; go_simp
    try rfl
  intro v' hv' a' ha'
  have hv' : .agg #[.string ⟨#[97, 108, 110, 117, 109]⟩, .int .u64 (wd cAln 0), .int .u64 (wd cAln 1), .int .u64 (wd cAln 2), .int .u64 (wd cAln 3)] = v' := Eq.symm hv'
  subst hv'
  simp only [Act.put, List.setIfInBounds_toArray, List.set_cons_zero, List.set_cons_succ] at ha'
  subst ha'
  refine AnyRM.step (i := 2) (d := some 19) rfl rfl (by kernel_rfl) (by kernel_rfl) (by kernel_rfl) (by kernel_rfl) (by kernel_rfl) ?_ ?_ ?_
  · exact ⟨_, rfl⟩
  · refine StepsR.yield (setV cAlp) rfl (by kernel_rfl) (fun w' hS hD => ⟨?_, trivial⟩)
    obtain ⟨⟨c0, c1, c2, c3⟩, _⟩ := (B4.out.below hS (Blk.lt B4.out)).cells4; clear hS hD; go_simp
    try rfl
  intro v' hv' a' ha'
  have hv' : setV cAlp = v' := Eq.symm hv'
  subst hv'
  simp only [Act.put, List.setIfInBounds_toArray, List.set_cons_zero, List.set_cons_succ] at ha'
  subst ha'
  refine AnyRM.step (i := 3) (d := some 20) rfl rfl (by kernel_rfl) (by kernel_rfl) (by kernel_rfl) (by kernel_rfl) (by kernel_rfl) ?_ ?_ ?_
  · exact ⟨_, rfl⟩
  · refine StepsR.yield (.agg #[.string ⟨#[97, 108, 112, 104, 97]⟩, .int .u64 (wd cAlp 0), .int .u64 (wd cAlp 1), .int .u64 (wd cAlp 2), .int .u64 (wd cAlp 3)]) rfl (by kernel_rfl) (fun w' hS hD => ⟨?_, trivial⟩)
    clear hS hD; go_simp
    try rfl
  intro v' hv' a' ha'
  have hv' : .agg #[.string ⟨#[97, 108, 112, 104, 97]⟩, .int .u64 (wd cAlp 0), .int .u64 (wd cAlp 1), .int .u64 (wd cAlp 2), .int .u64 (wd cAlp 3)] = v' := Eq.symm hv'
  subst hv'
  simp only [Act.put, List.setIfInBounds_toArray, List.set_cons_zero, List.set_cons_succ] at ha'
  subst ha'
  refine AnyRM.step (i := 4) (d := some 21) rfl rfl (by kernel_rfl) (by kernel_rfl) (by kernel_rfl) (by kernel_rfl) (by kernel_rfl) ?_ ?_ ?_
  · exact ⟨_, rfl⟩
  · refine StepsR.yield (setV 0) rfl (by kernel_rfl) (fun w' hS hD => ⟨?_, trivial⟩)
    clear hS hD; go_simp
    exact ⟨rfl, rfl, rfl, rfl⟩
  intro v' hv' a' ha'
  have hv' : setV 0 = v' := Eq.symm hv'
  subst hv'
  simp only [Act.put, List.setIfInBounds_toArray, List.set_cons_zero, List.set_cons_succ] at ha'
  subst ha'
  refine AnyRM.step (i := 5) (d := some 22) rfl rfl (by kernel_rfl) (by kernel_rfl) (by kernel_rfl) (by kernel_rfl) (by kernel_rfl) ?_ ?_ ?_
  · exact ⟨_, none, rfl⟩
  · refine StepsR.made (by kernel_rfl) (fun w' hS hD => ?_)
    clear hS hD
    refine ⟨.slice (some ⟨w'.heap.size, 0, none⟩) 2 2, w'.alloc (.cells (byW [9, 32]) 5), ?_, ⟨_, rfl⟩, bytes_new w' _ [9, 32], by go_grown⟩
    go_simp
    try rfl
  rintro v' ⟨a5, rfl⟩ a' ha'
  simp only [Act.put, List.setIfInBounds_toArray, List.set_cons_zero, List.set_cons_succ] at ha'
  subst ha'
  refine AnyRM.step (i := 6) (d := some 23) rfl rfl (by kernel_rfl) (by kernel_rfl) (by kernel_rfl) (by kernel_rfl) (by kernel_rfl) ?_ ?_ ?_
  · exact ⟨_, rfl⟩
  · refine StepsR.call (by kernel_rfl) (fun w' hS => by clear hS; go_simp) (fun w' hS hD => (with_calls' 0 a5 2 2 [9, 32] (by decide) w' (hD.get (k := 5) (by kernel_rfl) rfl rfl)).mono ?_)
    rintro e w'' ⟨rfl, hb⟩
    exact ⟨_, rfl, rfl, trivial, hb⟩
  intro v' hv' a' ha'
  have hv' : setV cBla = v' := Eq.symm hv'
  subst hv'
  simp only [Act.put, List.setIfInBounds_toArray, List.set_cons_zero, List.set_cons_succ] at ha'
  subst ha'
  refine AnyRM.step (i := 7) (d := some 24) rfl rfl (by kernel_rfl) (by kernel_rfl) (by kernel_rfl) (by kernel_rfl) (by kernel_rfl) ?_ ?_ ?_
  · exact ⟨_, rfl⟩
  · refine StepsR.yield (.agg #[.string ⟨#[98, 108, 97, 110, 107]⟩, .int .u64 (wd cBla 0), .int .u64 (wd cBla 1), .int .u64 (wd cBla 2), .int .u64 (wd cBla 3)]) rfl (by kernel_rfl) (fun w' hS hD => ⟨?_, trivial⟩)
    clear hS hD; go_simp
    try rfl
  intro v' hv' a' ha'
  have hv' : .agg #[.string ⟨#[98, 108, 97, 110, 107]⟩, .int .u64 (wd cBla 0), .int .u64 (wd cBla 1), .int .u64 (wd cBla 2), .int .u64 (wd cBla 3)] = v' := Eq.symm hv'
  subst hv'
  simp only [Act.put, List.setIfInBounds_toArray, List.set_cons_zero, List.set_cons_succ] at ha'
  subst ha'
  refine AnyRM.step (i := 8) (d := some 25) rfl rfl (by kernel_rfl) (by kernel_rfl) (by kernel_rfl) (by kernel_rfl) (by kernel_rfl) ?_ ?_ ?_
  · exact ⟨_, rfl⟩
  · refine StepsR.call (by kernel_rfl) (fun w' hS => by clear hS; go_simp) (fun w' hS hD => (r31_c w').mono ?_)
    rintro e w'' ⟨rfl, hb⟩
    exact ⟨_, rfl, rfl, trivial, hb⟩
  intro v' hv' a' ha'
  have hv' : setV (range 0 31) = v' := Eq.symm hv'
  subst hv'
  simp only [Act.put, List.setIfInBounds_toArray, List.set_cons_zero, List.set_cons_succ] at ha'
  subst ha'
  refine AnyRM.step (i := 9) (d := some 26) rfl rfl (by kernel_rfl) (by kernel_rfl) (by kernel_rfl) (by kernel_rfl) (by kernel_rfl) ?_ ?_ ?_
  · exact ⟨_, none, rfl⟩
  · refine StepsR.made (by kernel_rfl) (fun w' hS hD => ?_)
    clear hS hD
    refine ⟨.slice (some ⟨w'.heap.size, 0, none⟩) 1 1, w'.alloc (.cells (byW [127]) 5), ?_, ⟨_, rfl⟩, bytes_new w' _ [127], by go_grown⟩
    go_simp
    try rfl
  rintro v' ⟨a9, rfl⟩ a' ha'
  simp only [Act.put, List.setIfInBounds_toArray, List.set_cons_zero, List.set_cons_succ] at ha'
  subst ha'
  refine AnyRM.step (i := 10) (d := some 27) rfl rfl (by kernel_rfl) (by kernel_rfl) (by kernel_rfl) (by kernel_rfl) (by kernel_rfl) ?_ ?_ ?_
  · exact ⟨_, rfl⟩
  · refine StepsR.call (by kernel_rfl) (fun w' hS => by clear hS; go_simp) (fun w' hS hD => (with_calls' (range 0 31) a9 1 1 [127] (by decide) w' (hD.get (k := 9) (by kernel_rfl) rfl rfl)).mono ?_)
    rintro e w'' ⟨rfl, hb⟩
    exact ⟨_, rfl, rfl, trivial, hb⟩
  intro v' hv' a' ha'
  have hv' : setV cCnt = v' := Eq.symm hv'
  subst hv'
  simp only [Act.put, List.setIfInBounds_toArray, List.set_cons_zero, List.set_cons_succ] at ha'
  subst ha'
  refine AnyRM.step (i := 11) (d := some 28) rfl rfl (by kernel_rfl) (by kernel_rfl) (by kernel_rfl) (by kernel_rfl) (by kernel_rfl) ?_ ?_ ?_
  · exact ⟨_, rfl⟩
  · refine StepsR.yield (.agg #[.string ⟨#[99, 110, 116, 114, 108]⟩, .int .u64 (wd cCnt 0), .int .u64 (wd cCnt 1), .int .u64 (wd cCnt 2), .int .u64 (wd cCnt 3)]) rfl (by kernel_rfl) (fun w' hS hD => ⟨?_, trivial⟩)
    clear hS hD; go_simp
    try rfl
  intro v' hv' a' ha'
  have hv' : .agg #[.string ⟨#[99, 110, 116, 114, 108]⟩, .int .u64 (wd cCnt 0), .int .u64 (wd cCnt 1), .int .u64 (wd cCnt 2), .int .u64 (wd cCnt 3)] = v' := Eq.symm hv'
  subst hv'
  simp only [Act.put, List.setIfInBounds_toArray, List.set_cons_zero, List.set_cons_succ] at ha'
  subst ha'
  refine AnyRM.step (i := 12) (d := some 29) rfl rfl (by kernel_rfl) (by kernel_rfl) (by kernel_rfl) (by kernel_rfl) (by kernel_rfl) ?_ ?_ ?_
  · exact ⟨_, rfl⟩
  · refine StepsR.yield (setV cDig) rfl (by kernel_rfl) (fun w' hS hD => ⟨?_, trivial⟩)
    obtain ⟨⟨c0, c1, c2, c3⟩, _⟩ := (B1.out.below hS (Blk.lt B1.out)).cells4; clear hS hD; go_simp
    try rfl
  intro v' hv' a' ha'
  have hv' : setV cDig = v' := Eq.symm hv'
  subst hv'
  simp only [Act.put, List.setIfInBounds_toArray, List.set_cons_zero, List.set_cons_succ] at ha'
  subst ha'
  refine AnyRM.step (i := 13) (d := some 30) rfl rfl (by kernel_rfl) (by kernel_rfl) (by kernel_rfl) (by kernel_rfl) (by kernel_rfl) ?_ ?_ ?_
  · exact ⟨_, rfl⟩
  · refine StepsR.yield (.agg #[.string ⟨#[100, 105, 103, 105, 116]⟩, .int .u64 (wd cDig 0), .int .u64 (wd cDig 1), .int .u64 (wd cDig 2), .int .u64 (wd cDig 3)]) rfl (by kernel_rfl) (fun w' hS hD => ⟨?_, trivial⟩)
    clear hS hD; go_simp
    try rfl
  intro v' hv' a' ha'
  have hv' : .agg #[.string ⟨#[100, 105, 103, 105, 116]⟩, .int .u64 (wd cDig 0), .int .u64 (wd cDig 1), .int .u64 (wd cDig 2), .int .u64 (wd cDig 3)] = v' := Eq.symm hv'
  subst hv'
  simp only [Act.put, List.setIfInBounds_toArray, List.set_cons_zero, List.set_cons_succ] at ha'
  subst ha'
  refine AnyRM.step (i := 14) (d := some 31) rfl rfl (by kernel_rfl) (by kernel_rfl) (by kernel_rfl) (by kernel_rfl) (by kernel_rfl) ?_ ?_ ?_
  · exact ⟨_, rfl⟩
  · refine StepsR.yield (setV cGra) rfl (by kernel_rfl) (fun w' hS hD => ⟨?_, trivial⟩)
    obtain ⟨⟨c0, c1, c2, c3⟩, _⟩ := (B6.out.below hS (Blk.lt B6.out)).cells4; clear hS hD; go_simp
    try rfl
  intro v' hv' a' ha'
  have hv' : setV cGra = v' := Eq.symm hv'
  subst hv'
  simp only [Act.put, List.setIfInBounds_toArray, List.set_cons_zero, List.set_cons_succ] at ha'
  subst ha'
  refine AnyRM.step (i := 15) (d := some 32) rfl rfl (by kernel_rfl) (by kernel_rfl) (by kernel_rfl) (by kernel_rfl) (by kernel_rfl) ?_ ?_ ?_
  · exact ⟨_, rfl⟩
  · refine StepsR.yield (.agg #[.string ⟨#[103, 114, 97, 112, 104]⟩, .int .u64 (wd cGra 0), .int .u64 (wd cGra 1), .int .u64 (wd cGra 2), .int .u64 (wd cGra 3)]) rfl (by kernel_rfl) (fun w' hS hD => ⟨?_, trivial⟩)
    clear hS hD; go_simp
    try rfl
  intro v' hv' a' ha'
  have hv' : .agg #[.string ⟨#[103, 114, 97, 112, 104]⟩, .int .u64 (wd cGra 0), .int .u64 (wd cGra 1), .int .u64 (wd cGra 2), .int .u64 (wd cGra 3)] = v' := Eq.symm hv'
  subst hv'
  simp only [Act.put, List.setIfInBounds_toArray, List.set_cons_zero, List.set_cons_succ] at ha'
  subst ha'
  refine AnyRM.step (i := 16) (d := some 33) rfl rfl (by kernel_rfl) (by kernel_rfl) (by kernel_rfl) (by kernel_rfl) (by kernel_rfl) ?_ ?_ ?_
  · exact ⟨_, rfl⟩
  · refine StepsR.yield (setV cLow) rfl (by kernel_rfl) (fun w' hS hD => ⟨?_, trivial⟩)
    obtain ⟨⟨c0, c1, c2, c3⟩, _⟩ := (B3.out.below hS (Blk.lt B3.out)).cells4; clear hS hD; go_simp
    try rfl
  intro v' hv' a' ha'
  have hv' : setV cLow = v' := Eq.symm hv'
  subst hv'
  simp only [Act.put, List.setIfInBounds_toArray, List.set_cons_zero, List.set_cons_succ] at ha'
  subst ha'
  refine AnyRM.step (i := 17) (d := some 34) rfl rfl (by kernel_rfl) (by kernel_rfl) (by kernel_rfl) (by kernel_rfl) (by kernel_rfl) ?_ ?_ ?_
  · exact ⟨_, rfl⟩
  · refine StepsR.yield (.agg #[.string ⟨#[108, 111, 119, 101, 114]⟩, .int .u64 (wd cLow 0), .int .u64 (wd cLow 1), .int .u64 (wd cLow 2), .int .u64 (wd cLow 3)]) rfl (by kernel_rfl) (fun w' hS hD => ⟨?_, trivial⟩)
    clear hS hD; go_simp
    try rfl
  intro v' hv' a' ha'
  have hv' : .agg #[.string ⟨#[108, 111, 119, 101, 114]⟩, .int .u64 (wd cLow 0), .int .u64 (wd cLow 1), .int .u64 (wd cLow 2), .int .u64 (wd cLow 3)] = v' := Eq.symm hv'
  subst hv'
  simp only [Act.put, List.setIfInBounds_toArray, List.set_cons_zero, List.set_cons_succ] at ha'
  subst ha'
  refine AnyRM.step (i := 18) (d := some 35) rfl rfl (by kernel_rfl) (by kernel_rfl) (by kernel_rfl) (by kernel_rfl) (by kernel_rfl) ?_ ?_ ?_
  · exact ⟨_, rfl⟩
  · refine StepsR.call (by kernel_rfl) (fun w' hS => by clear hS; go_simp) (fun w' hS hD => (pri_c w').mono ?_)
    rintro e w'' ⟨rfl, hb⟩
    exact ⟨_, rfl, rfl, trivial, hb⟩
  intro v' hv' a' ha'
  have hv' : setV cPri = v' := Eq.symm hv'
  subst hv'
  simp only [Act.put, List.setIfInBounds_toArray, List.set_cons_zero, List.set_cons_succ] at ha'
  subst ha'
  refine AnyRM.step (i := 19) (d := some 36) rfl rfl (by kernel_rfl) (by kernel_rfl) (by kernel_rfl) (by kernel_rfl) (by kernel_rfl) ?_ ?_ ?_
  · exact ⟨_, rfl⟩
  · refine StepsR.yield (.agg #[.string ⟨#[112, 114, 105, 110, 116]⟩, .int .u64 (wd cPri 0), .int .u64 (wd cPri 1), .int .u64 (wd cPri 2), .int .u64 (wd cPri 3)]) rfl (by kernel_rfl) (fun w' hS hD => ⟨?_, trivial⟩)
    clear hS hD; go_simp
    try rfl
  intro v' hv' a' ha'
  have hv' : .agg #[.string ⟨#[112, 114, 105, 110, 116]⟩, .int .u64 (wd cPri 0), .int .u64 (wd cPri 1), .int .u64 (wd cPri 2), .int .u64 (wd cPri 3)] = v' := Eq.symm hv'
  subst hv'
  simp only [Act.put, List.setIfInBounds_toArray, List.set_cons_zero, List.set_cons_succ] at ha'
  subst ha'
  refine AnyRM.step (i := 20) (d := some 37) rfl rfl (by kernel_rfl) (by kernel_rfl) (by kernel_rfl) (by kernel_rfl) (by kernel_rfl) ?_ ?_ ?_
  · exact ⟨_, rfl⟩
  · refine StepsR.yield (setV cGra) rfl (by kernel_rfl) (fun w' hS hD => ⟨?_, trivial⟩)
    obtain ⟨⟨c0, c1, c2, c3⟩, _⟩ := (B6.out.below hS (Blk.lt B6.out)).cells4; clear hS hD; go_simp
    try rfl
  intro v' hv' a' ha'
  have hv' : setV cGra = v' := Eq.symm hv'
  subst hv'
  simp only [Act.put, List.setIfInBounds_toArray, List.set_cons_zero, List.set_cons_succ] at ha'
  subst ha'
  refine AnyRM.step (i := 21) (d := some 38) rfl rfl (by kernel_rfl) (by kernel_rfl) (by kernel_rfl) (by kernel_rfl) (by kernel_rfl) ?_ ?_ ?_
  · exact ⟨_, rfl⟩
  · refine StepsR.yield (setV cAln) rfl (by kernel_rfl) (fun w' hS hD => ⟨?_, trivial⟩)
    obtain ⟨⟨c0, c1, c2, c3⟩, _⟩ := (B5.out.below hS (Blk.lt B5.out)).cells4; clear hS hD; go_simp
    try rfl
  intro v' hv' a' ha'
  have hv' : setV cAln = v' := Eq.symm hv'
  subst hv'
  simp only [Act.put, List.setIfInBounds_toArray, List.set_cons_zero, List.set_cons_succ] at ha'
  subst ha'
  refine AnyRM.step (i := 22) (d := some 39) rfl rfl (by kernel_rfl) (by kernel_rfl) (by kernel_rfl) (by kernel_rfl) (by kernel_rfl) ?_ ?_ ?_
  · exact ⟨_, rfl⟩
  · refine StepsR.call (by kernel_rfl) (fun w' hS => by clear hS; go_simp) (fun w' hS hD => (pun_c w').mono ?_)
    rintro e w'' ⟨rfl, hb⟩
    exact ⟨_, rfl, rfl, trivial, hb⟩
  intro v' hv' a' ha'
  have hv' : setV cPun = v' := Eq.symm hv'
  subst hv'
  simp only [Act.put, List.setIfInBounds_toArray, List.set_cons_zero, List.set_cons_succ] at ha'
  subst ha'
  refine AnyRM.step (i := 23) (d := some 40) rfl rfl (by kernel_rfl) (by kernel_rfl) (by kernel_rfl) (by kernel_rfl) (by kernel_rfl) ?_ ?_ ?_
  · exact ⟨_, rfl⟩
  · refine StepsR.yield (.agg #[.string ⟨#[112, 117, 110, 99, 116]⟩, .int .u64 (wd cPun 0), .int .u64 (wd cPun 1), .int .u64 (wd cPun 2), .int .u64 (wd cPun 3)]) rfl (by kernel_rfl) (fun w' hS hD => ⟨?_, trivial⟩)
    clear hS hD; go_simp
    try rfl
  intro v' hv' a' ha'
  have hv' : .agg #[.string ⟨#[112, 117, 110, 99, 116]⟩, .int .u64 (wd cPun 0), .int .u64 (wd cPun 1), .int .u64 (wd cPun 2), .int .u64 (wd cPun 3)] = v' := Eq.symm hv'
  subst hv'
  simp only [Act.put, List.setIfInBounds_toArray, List.set_cons_zero, List.set_cons_succ] at ha'
  subst ha'
  refine AnyRM.step (i := 24) (d := some 41) rfl rfl (by kernel_rfl) (by kernel_rfl) (by kernel_rfl) (by kernel_rfl) (by kernel_rfl) ?_ ?_ ?_
  · exact ⟨_, rfl⟩
  · refine StepsR.call (by kernel_rfl) (fun w' hS => by clear hS; go_simp) (fun w' hS hD => (r13_c w').mono ?_)
    rintro e w'' ⟨rfl, hb⟩
    exact ⟨_, rfl, rfl, trivial, hb⟩
  intro v' hv' a' ha'
  have hv' : setV (range 9 13) = v' := Eq.symm hv'
  subst hv'
  simp only [Act.put, List.setIfInBounds_toArray, List.set_cons_zero, List.set_cons_succ] at ha'
  subst ha'
  refine AnyRM.step (i := 25) (d := some 42) rfl rfl (by kernel_rfl) (by kernel_rfl) (by kernel_rfl) (by kernel_rfl) (by kernel_rfl) ?_ ?_ ?_
  · exact ⟨_, none, rfl⟩
  · refine StepsR.made (by kernel_rfl) (fun w' hS hD => ?_)
    clear hS hD
    refine ⟨.slice (some ⟨w'.heap.size, 0, none⟩) 1 1, w'.alloc (.cells (byW [32]) 5), ?_, ⟨_, rfl⟩, bytes_new w' _ [32], by go_grown⟩
    go_simp
    try rfl
  rintro v' ⟨a25, rfl⟩ a' ha'
  simp only [Act.put, List.setIfInBounds_toArray, List.set_cons_zero, List.set_cons_succ] at ha'
  subst ha'
  refine AnyRM.step (i := 26) (d := some 43) rfl rfl (by kernel_rfl) (by kernel_rfl) (by kernel_rfl) (by kernel_rfl) (by kernel_rfl) ?_ ?_ ?_
  · exact ⟨_, rfl⟩
  · refine StepsR.call (by kernel_rfl) (fun w' hS => by clear hS; go_simp) (fun w' hS hD => (with_calls' (range 9 13) a25 1 1 [32] (by decide) w' (hD.get (k := 25) (by kernel_rfl) rfl rfl)).mono ?_)
    rintro e w'' ⟨rfl, hb⟩
    exact ⟨_, rfl, rfl, trivial, hb⟩
  intro v' hv' a' ha'
  have hv' : setV cSpa = v' := Eq.symm hv'
  subst hv'
  simp only [Act.put, List.setIfInBounds_toArray, List.set_cons_zero, List.set_cons_succ] at ha'
  subst ha'
  refine AnyRM.step (i := 27) (d := some 44) rfl rfl (by kernel_rfl) (by kernel_rfl) (by kernel_rfl) (by kernel_rfl) (by kernel_rfl) ?_ ?_ ?_
  · exact ⟨_, rfl⟩
  · refine StepsR.yield (.agg #[.string ⟨#[115, 112, 97, 99, 101]⟩, .int .u64 (wd cSpa 0), .int .u64 (wd cSpa 1), .int .u64 (wd cSpa 2), .int .u64 (wd cSpa 3)]) rfl (by kernel_rfl) (fun w' hS hD => ⟨?_, trivial⟩)
    clear hS hD; go_simp
    try rfl
  intro v' hv' a' ha'
  have hv' : .agg #[.string ⟨#[115, 112, 97, 99, 101]⟩, .int .u64 (wd cSpa 0), .int .u64 (wd cSpa 1), .int .u64 (wd cSpa 2), .int .u64 (wd cSpa 3)] = v' := Eq.symm hv'
  subst hv'
  simp only [Act.put, List.setIfInBounds_toArray, List.set_cons_zero, List.set_cons_succ] at ha'
  subst ha'
  refine AnyRM.step (i := 28) (d := some 45) rfl rfl (by kernel_rfl) (by kernel_rfl) (by kernel_rfl) (by kernel_rfl) (by kernel_rfl) ?_ ?_ ?_
  · exact ⟨_, rfl⟩
  · refine StepsR.yield (setV cUpp) rfl (by kernel_rfl) (fun w' hS hD => ⟨?_, trivial⟩)
    obtain ⟨⟨c0, c1, c2, c3⟩, _⟩ := (B2.out.below hS (Blk.lt B2.out)).cells4; clear hS hD; go_simp
    try rfl
  intro v' hv' a' ha'
  have hv' : setV cUpp = v' := Eq.symm hv'
  subst hv'
  simp only [Act.put, List.setIfInBounds_toArray, List.set_cons_zero, List.set_cons_succ] at ha'
  subst ha'
  refine AnyRM.step (i := 29) (d := some 46) rfl rfl (by kernel_rfl) (by kernel_rfl) (by kernel_rfl) (by kernel_rfl) (by kernel_rfl) ?_ ?_ ?_
  · exact ⟨_, rfl⟩
  · refine StepsR.yield (.agg #[.string ⟨#[117, 112, 112, 101, 114]⟩, .int .u64 (wd cUpp 0), .int .u64 (wd cUpp 1), .int .u64 (wd cUpp 2), .int .u64 (wd cUpp 3)]) rfl (by kernel_rfl) (fun w' hS hD => ⟨?_, trivial⟩)
    clear hS hD; go_simp
    try rfl
  intro v' hv' a' ha'
  have hv' : .agg #[.string ⟨#[117, 112, 112, 101, 114]⟩, .int .u64 (wd cUpp 0), .int .u64 (wd cUpp 1), .int .u64 (wd cUpp 2), .int .u64 (wd cUpp 3)] = v' := Eq.symm hv'
  subst hv'
  simp only [Act.put, List.setIfInBounds_toArray, List.set_cons_zero, List.set_cons_succ] at ha'
  subst ha'
  refine AnyRM.step (i := 30) (d := some 47) rfl rfl (by kernel_rfl) (by kernel_rfl) (by kernel_rfl) (by kernel_rfl) (by kernel_rfl) ?_ ?_ ?_
  · exact ⟨_, rfl⟩
  · refine StepsR.yield (setV cDig) rfl (by kernel_rfl) (fun w' hS hD => ⟨?_, trivial⟩)
    obtain ⟨⟨c0, c1, c2, c3⟩, _⟩ := (B1.out.below hS (Blk.lt B1.out)).cells4; clear hS hD; go_simp
    try rfl
  intro v' hv' a' ha'
  have hv' : setV cDig = v' := Eq.symm hv'
  subst hv'
  simp only [Act.put, List.setIfInBounds_toArray, List.set_cons_zero, List.set_cons_succ] at ha'
  subst ha'
  refine AnyRM.step (i := 31) (d := some 48) rfl rfl (by kernel_rfl) (by kernel_rfl) (by kernel_rfl) (by kernel_rfl) (by kernel_rfl) ?_ ?_ ?_
  · exact ⟨_, rfl⟩
  · refine StepsR.call (by kernel_rfl) (fun w' hS => by clear hS; go_simp) (fun w' hS hD => (r65_c w').mono ?_)
    rintro e w'' ⟨rfl, hb⟩
    exact ⟨_, rfl, rfl, trivial, hb⟩
  intro v' hv' a' ha'
  have hv' : setV (range 65 70) = v' := Eq.symm hv'
  subst hv'
  simp only [Act.put, List.setIfInBounds_toArray, List.set_cons_zero, List.set_cons_succ] at ha'
  subst ha'
  refine AnyRM.step (i := 32) (d := some 49) rfl rfl (by kernel_rfl) (by kernel_rfl) (by kernel_rfl) (by kernel_rfl) (by kernel_rfl) ?_ ?_ ?_
  · exact ⟨_, rfl⟩
  · refine StepsR.call (by kernel_rfl) (fun w' hS => by clear hS; go_simp) (fun w' hS hD => (r97_c w').mono ?_)
    rintro e w'' ⟨rfl, hb⟩
    exact ⟨_, rfl, rfl, trivial, hb⟩
  intro v' hv' a' ha'
  have hv' : setV (range 97 102) = v' := Eq.symm hv'
  subst hv'
  simp only [Act.put, List.setIfInBounds_toArray, List.set_cons_zero, List.set_cons_succ] at ha'
  subst ha'
  refine AnyRM.step (i := 33) (d := some 50) rfl rfl (by kernel_rfl) (by kernel_rfl) (by kernel_rfl) (by kernel_rfl) (by kernel_rfl) ?_ ?_ ?_
  · exact ⟨_, rfl⟩
  · refine StepsR.call (by kernel_rfl) (fun w' hS => by clear hS; go_simp) (fun w' hS hD => (xd1_c w').mono ?_)
    rintro e w'' ⟨rfl, hb⟩
    exact ⟨_, rfl, rfl, trivial, hb⟩
  intro v' hv' a' ha'
  have hv' : setV (range 65 70 ||| range 97 102) = v' := Eq.symm hv'
  subst hv'
  simp only [Act.put, List.setIfInBounds_toArray, List.set_cons_zero, List.set_cons_succ] at ha'
  subst ha'
  refine AnyRM.step (i := 34) (d := some 51) rfl rfl (by kernel_rfl) (by kernel_rfl) (by kernel_rfl) (by kernel_rfl) (by kernel_rfl) ?_ ?_ ?_
  · exact ⟨_, rfl⟩
  · refine StepsR.call (by kernel_rfl) (fun w' hS => by clear hS; go_simp) (fun w' hS hD => (xdi_c w').mono ?_)
    rintro e w'' ⟨rfl, hb⟩
    exact ⟨_, rfl, rfl, trivial, hb⟩
  intro v' hv' a' ha'
  have hv' : setV cXdi = v' := Eq.symm hv'
  subst hv'
  simp only [Act.put, List.setIfInBounds_toArray, List.set_cons_zero, List.set_cons_succ] at ha'
  subst ha'
  refine AnyRM.step (i := 35) (d := some 52) rfl rfl (by kernel_rfl) (by kernel_rfl) (by kernel_rfl) (by kernel_rfl) (by kernel_rfl) ?_ ?_ ?_
  · exact ⟨_, rfl⟩
  · refine StepsR.yield (.agg #[.string ⟨#[120, 100, 105, 103, 105, 116]⟩, .int .u64 (wd cXdi 0), .int .u64 (wd cXdi 1), .int .u64 (wd cXdi 2), .int .u64 (wd cXdi 3)]) rfl (by kernel_rfl) (fun w' hS hD => ⟨?_, trivial⟩)
    clear hS hD; go_simp
    try rfl
  intro v' hv' a' ha'
  have hv' : .agg #[.string ⟨#[120, 100, 105, 103, 105, 116]⟩, .int .u64 (wd cXdi 0), .int .u64 (wd cXdi 1), .int .u64 (wd cXdi 2), .int .u64 (wd cXdi 3)] = v' := Eq.symm hv'
  subst hv'
  simp only [Act.put, List.setIfInBounds_toArray, List.set_cons_zero, List.set_cons_succ] at ha'
  subst ha'
  refine AnyRM.step (i := 36) (d := some 53) rfl rfl (by kernel_rfl) (by kernel_rfl) (by kernel_rfl) (by kernel_rfl) (by kernel_rfl) ?_ ?_ ?_
  · exact ⟨_, rfl⟩
  · refine StepsR.yield (.agg tabV) rfl (by kernel_rfl) (fun w' hS hD => ⟨?_, trivial⟩)
    clear hS hD; go_simp
    try rfl
  intro v' hv' a' ha'
  have hv' : .agg tabV = v' := Eq.symm hv'
  subst hv'
  simp only [Act.put, List.setIfInBounds_toArray, List.set_cons_zero, List.set_cons_succ] at ha'
  subst ha'
  refine AnyRM.last rfl (by kernel_rfl) (by kernel_rfl) (by kernel_rfl) (fun w9 hS hF K hK => ?_)
  clear hF
  have hR := BR.out.below hS (Blk.lt BR.out)
  have hst := run_storeAt_row (P := Tryz.prog) w9 w.heap.size 172 172 tab0 tabV hR (by kernel_rfl) (by decide) tabV_one
  have hB := HB.out.trans (hS.mono (by omega))
  refine wp_store_row _ _ _ rfl w.heap.size rfl rfl hst ?_
  clear hst
  refine hK _ _ ?_
  clear hK K
  have hR' := Lib.hid (Blk.setRow (cs := tabV) hR)
  have hB' := Lib.hid (below_setRow hB (Nat.le_refl _) tabV)
  clear hR hB hS
  generalize w9.setRow w.heap.size tabV = w10 at *
  go_wp2
  exact bodyPost_ret (v := .agg tabV) (results_cell_row rfl _ _ w.heap.size 172 tabV (0, 0) _ rfl hR'.out Tryz.underlying172 rfl (by kernel_rfl)) rfl ⟨rfl, hB'.out⟩
end Go.Proofs.YtpaecjjelpjopaaGreatDoor

/- BracketPlaces. -/
import Derived.Test.YtkkhibamkdgffaaDm
namespace Go.Proofs.Ytkkhibamkdgffaa
open Go.RowKit Go.Shelf BS

def badB (b : Nat) : Bool := b == 93 || b == 91 || b == 94 || b == 45
theorem badB_no (b : Nat) (h : badB b = false) : EndB b := by
  unfold badB at h
  simp only [Bool.or_eq_false_iff, beq_eq_false_iff_ne] at h
  exact ⟨h.1.1.1, h.1.1.2, h.1.2, h.2⟩
set_option maxHeartbeats 1000000 in
theorem bad3_calls (b : Nat) (w : World) : Calls Try.prog 11 #[.int .u8 b] w fun e w' => e = .returned (.bool (badB b)) ∧ w = w' := by
  have e1 : ((b : Int) == 93) = (b == 93) := by rw [Bool.eq_iff_iff, beq_iff_eq, beq_iff_eq]; omega
  have e2 : ((b : Int) == 91) = (b == 91) := by rw [Bool.eq_iff_iff, beq_iff_eq, beq_iff_eq]; omega
  have e3 : ((b : Int) == 94) = (b == 94) := by rw [Bool.eq_iff_iff, beq_iff_eq, beq_iff_eq]; omega
  have e4 : ((b : Int) == 45) = (b == 45) := by rw [Bool.eq_iff_iff, beq_iff_eq, beq_iff_eq]; omega
  have HS := Lib.hid (show badB b = (b == 93 || b == 91 || b == 94 || b == 45) from rfl)
  generalize (b == 93) = x at *
  generalize (b == 91) = y at *
  generalize (b == 94) = z at *
  generalize (b == 45) = u at *
  cases x <;> cases y <;> cases z <;>
  · go_enter Try.func11, Try.ntmps11
    go_wp2
    go_ret
    exact ⟨by rw [HS.out] <;> simp, rfl⟩

theorem bytes3_cells (W : World) (t : TypeId) (a b c : Nat) : ∀ i, i < 3 → (W.alloc (.cells #[.int .u8 a, .int .u8 b, .int .u8 c] t)).cell? ⟨W.heap.size, 0 + i, none⟩ = some (.int .u8 (([a, b, c] : List Int).getD i 0)) := by
  intro i hi
  have h := (Blk.new W #[.int .u8 (a : Int), .int .u8 (b : Int), .int .u8 (c : Int)] t).cell
  have h3 : i = 0 ∨ i = 1 ∨ i = 2 := by omega
  rcases h3 with rfl | rfl | rfl
  · exact h 0
  · exact h 1
  · exact h 2
theorem nums_ofT (L : List Nat) : strOfNums (L.map (fun n : Nat => (n : Int))) = ofT L := by
  unfold strOfNums ofT
  rw [List.map_map]
  rfl
theorem conv3 (W : World) (t : TypeId) (a b c : Nat) : (convert 35 9 (.slice (some ⟨W.heap.size, 0, none⟩) 3 3)).run Try.prog (W.alloc (.cells #[.int .u8 a, .int .u8 b, .int .u8 c] t)) = .ok (.string (ofT [a, b, c])) (W.alloc (.cells #[.int .u8 a, .int .u8 b, .int .u8 c] t)) := by
  have h := run_convert_bytes_arg (P := Try.prog) (W.alloc (.cells #[.int .u8 a, .int .u8 b, .int .u8 c] t)) 35 5 Try.underlying35 Try.underlying5 W.heap.size 0 3 3 [(a : Int), b, c] rfl (bytes3_cells W t a b c) 9 Try.underlying9
  rw [h]
  have e := nums_ofT [a, b, c]
  simp only [List.map_cons, List.map_nil] at e
  rw [e]

def txA (s : ByteArray) (x y : Nat) : ByteArray := s ++ ⟨#[91]⟩ ++ ofT [x, 45, y] ++ ⟨#[93]⟩
def txB (s : ByteArray) (x y : Nat) : ByteArray := s ++ ⟨#[91, 94]⟩ ++ ofT [x, 45, y] ++ ⟨#[93]⟩
theorem txA_eq (s : ByteArray) (x y : Nat) : txA s x y = s ++ ofT [91, x, 45, y, 93] := by
  unfold txA
  rw [show (⟨#[91]⟩ : ByteArray) = ofT [91] from rfl, show (⟨#[93]⟩ : ByteArray) = ofT [93] from rfl, ByteArray.append_assoc, ByteArray.append_assoc, ofT_append, ofT_append]; rfl
theorem txB_eq (s : ByteArray) (x y : Nat) : txB s x y = s ++ ofT [91, 94, x, 45, y, 93] := by
  unfold txB
  rw [show (⟨#[91, 94]⟩ : ByteArray) = ofT [91, 94] from rfl, show (⟨#[93]⟩ : ByteArray) = ofT [93] from rfl, ByteArray.append_assoc, ByteArray.append_assoc, ofT_append, ofT_append]; rfl
theorem bt_behind (s : ByteArray) (L : List Nat) (hL : ∀ x ∈ L, x < 256) (i : Nat) (hi : i < L.length) : bt (s ++ ofT L) (s.size + i) = L[i] := by
  rw [bt_app, if_neg (by omega), Nat.add_sub_cancel_left, bt_ofT L hL i hi]
theorem txA_read (s : ByteArray) (x y : Nat) (hx : x < 256) (hy : y < 256) (h1 : EndB x) (h2 : EndB y) : readR (txA s x y) s.size = if y < x then (0, 0, 4, s.size + 4) else (range x y, s.size + 5, 0, 0) := by
  have hL : ∀ z ∈ [91, x, 45, y, 93], z < 256 := by simp; omega
  have b := fun i hi => bt_behind s [91, x, 45, y, 93] hL i hi
  have hz : (s ++ ofT [91, x, 45, y, 93]).size = s.size + 5 := by rw [ByteArray.size_append, size_ofT]; rfl
  rw [txA_eq]
  have b0 := b 0 (by simp); have b1 := b 1 (by simp); have b2 := b 2 (by simp); have b3 := b 3 (by simp); have b4 := b 4 (by simp)
  simp only [List.getElem_cons_zero, List.getElem_cons_succ, Nat.add_zero] at b0 b1 b2 b3 b4
  have h := readR_pair (s ++ ofT [91, x, 45, y, 93]) s.size (by omega) b0 (by rw [b1]; exact h1) b2 (by rw [b3]; exact h2) b4
  rw [b1, b3] at h
  exact h
theorem txB_read (s : ByteArray) (x y : Nat) (hx : x < 256) (hy : y < 256) (h1 : EndB x) (h2 : EndB y) : readR (txB s x y) s.size = if y < x then (0, 0, 4, s.size + 5) else (~~~range x y, s.size + 6, 0, 0) := by
  have hL : ∀ z ∈ [91, 94, x, 45, y, 93], z < 256 := by simp; omega
  have b := fun i hi => bt_behind s [91, 94, x, 45, y, 93] hL i hi
  have hz : (s ++ ofT [91, 94, x, 45, y, 93]).size = s.size + 6 := by rw [ByteArray.size_append, size_ofT]; rfl
  rw [txB_eq]
  have b0 := b 0 (by simp); have b1 := b 1 (by simp); have b2 := b 2 (by simp); have b3 := b 3 (by simp); have b4 := b 4 (by simp); have b5 := b 5 (by simp)
  simp only [List.getElem_cons_zero, List.getElem_cons_succ, Nat.add_zero] at b0 b1 b2 b3 b4 b5
  have h := readR_npair (s ++ ofT [91, 94, x, 45, y, 93]) s.size (by omega) b0 b1 (by rw [b2]; exact h1) b3 (by rw [b4]; exact h2) b5
  rw [b2, b4] at h
  exact h
theorem size_txA (s : ByteArray) (x y : Nat) : (txA s x y).size = s.size + 5 := by rw [txA_eq, ByteArray.size_append, size_ofT]; rfl
theorem size_txB (s : ByteArray) (x y : Nat) : (txB s x y).size = s.size + 6 := by rw [txB_eq, ByteArray.size_append, size_ofT]; rfl

def SPl (w : World) (gA gB : Nat) (a b : BitVec 256) (W : World) : Prop := (Blk W gA (setA a) 25 ∧ Blk W gB (setA b) 25) ∧ Below w.heap.size w W
theorem SPl.keep {w W W' : World} {gA gB : Nat} {a b : BitVec 256} (h : SPl w gA gB a b W) (hb : Below W.heap.size W W') : SPl w gA gB a b W' := ⟨⟨h.1.1.below hb h.1.1.lt, h.1.2.below hb h.1.2.lt⟩, h.2.trans (hb.mono h.2.size)⟩
theorem SPl.drewS {w W : World} {gA gB : Nat} {a b : BitVec 256} (h : SPl w gA gB a b W) : SPl w gA gB a b W.drew := ⟨⟨h.1.1, h.1.2⟩, h.2.drew⟩

set_option maxRecDepth 100000 in
set_option maxHeartbeats 16000000 in
theorem places_calls (s : ByteArray) (hs : s.size ≤ 9223372036854775807) (x y : Nat) (hx : x < 256) (hy : y < 256) (w : World) : Calls Try.prog 6 #[.string s, .int .u8 x, .int .u8 y] w fun e w' => e = .returned (.bool true) ∧ Below w.heap.size w w' := by
  by_cases hl : 100 < s.size
  · have q : decide (100 < s.size) = true := by simpa using hl
    go_enter Try.func6, Try.ntmps6
    go_wp2_with fail
    refine (sure3_calls _).mono ?_
    rintro e w1 ⟨rfl, hb⟩
    go_wp2_with fail
    go_ret
    exact ⟨rfl, hb⟩
  have q : decide (100 < s.size) = false := by simpa using hl
  have hbx := bad3_calls x
  have hby := bad3_calls y
  cases h1 : badB x with
  | true =>
    rw [h1] at hbx
    have HBX := Lib.hid hbx
    clear hbx hby h1
    go_enter Try.func6, Try.ntmps6
    go_wp2_with fail
    refine (HBX.out _).mono ?_
    rintro e w' ⟨rfl, rfl⟩
    go_wp2_with fail
    refine (sure3_calls _).mono ?_
    rintro e w1 ⟨rfl, hb⟩
    go_wp2_with fail
    go_ret
    exact ⟨rfl, hb⟩
  | false =>
  rw [h1] at hbx
  have HBX := Lib.hid hbx
  have hE1 := badB_no x h1
  clear hbx h1
  cases h2 : badB y with
  | true =>
    rw [h2] at hby
    have HBY := Lib.hid hby
    clear hby h2 hE1
    go_enter Try.func6, Try.ntmps6
    go_wp2_with fail
    refine (HBX.out _).mono ?_
    rintro e w' ⟨rfl, rfl⟩
    go_wp2_with fail
    refine (HBY.out _).mono ?_
    rintro e w' ⟨rfl, rfl⟩
    go_wp2_with fail
    refine (sure3_calls _).mono ?_
    rintro e w1 ⟨rfl, hb⟩
    go_wp2_with fail
    go_ret
    exact ⟨rfl, hb⟩
  | false =>
  rw [h2] at hby
  have HBY := Lib.hid hby
  have hE2 := badB_no y h2
  clear hby h2
  have hA := txA_read s x y hx hy hE1 hE2
  have hB := txB_read s x y hx hy hE1 hE2
  clear hE1 hE2
  have hzA := size_txA s x y
  have hzB := size_txB s x y
  have a1 : ∀ w, (Op.stringOp .add s ⟨#[91]⟩).run Try.prog w = .ok (.string (s ++ ⟨#[91]⟩)) w := fun w => run_string_add_sum w _ _ (by rw [show (⟨#[91]⟩ : ByteArray).size = 1 from rfl]; omega)
  have a2 : ∀ w, (Op.stringOp .add (s ++ ⟨#[91]⟩) (ofT [x, 45, y])).run Try.prog w = .ok (.string (s ++ ⟨#[91]⟩ ++ ofT [x, 45, y])) w := fun w => run_string_add_sum w _ _ (by rw [ByteArray.size_append, size_ofT, show (⟨#[91]⟩ : ByteArray).size = 1 from rfl]; simp; omega)
  have a3 : ∀ w, (Op.stringOp .add (s ++ ⟨#[91]⟩ ++ ofT [x, 45, y]) ⟨#[93]⟩).run Try.prog w = .ok (.string (txA s x y)) w := fun w => run_string_add_sum w _ _ (by rw [ByteArray.size_append, ByteArray.size_append, size_ofT, show (⟨#[91]⟩ : ByteArray).size = 1 from rfl, show (⟨#[93]⟩ : ByteArray).size = 1 from rfl]; simp; omega)
  have a4 : ∀ w, (Op.stringOp .add s ⟨#[91, 94]⟩).run Try.prog w = .ok (.string (s ++ ⟨#[91, 94]⟩)) w := fun w => run_string_add_sum w _ _ (by rw [show (⟨#[91, 94]⟩ : ByteArray).size = 2 from rfl]; omega)
  have a5 : ∀ w, (Op.stringOp .add (s ++ ⟨#[91, 94]⟩) (ofT [x, 45, y])).run Try.prog w = .ok (.string (s ++ ⟨#[91, 94]⟩ ++ ofT [x, 45, y])) w := fun w => run_string_add_sum w _ _ (by rw [ByteArray.size_append, size_ofT, show (⟨#[91, 94]⟩ : ByteArray).size = 2 from rfl]; simp; omega)
  have a6 : ∀ w, (Op.stringOp .add (s ++ ⟨#[91, 94]⟩ ++ ofT [x, 45, y]) ⟨#[93]⟩).run Try.prog w = .ok (.string (txB s x y)) w := fun w => run_string_add_sum w _ _ (by rw [ByteArray.size_append, ByteArray.size_append, size_ofT, show (⟨#[91, 94]⟩ : ByteArray).size = 2 from rfl, show (⟨#[93]⟩ : ByteArray).size = 1 from rfl]; simp; omega)
  have hcv : ∀ W : World, (convert 35 9 (.slice (some ⟨W.heap.size, 0, none⟩) 3 3)).run Try.prog (W.alloc (.cells #[.int .u8 x, .int .u8 45, .int .u8 y] 5)) = .ok (.string (ofT [x, 45, y])) (W.alloc (.cells #[.int .u8 x, .int .u8 45, .int .u8 y] 5)) := fun W => conv3 W _ x 45 y
  have HSU := Lib.hid sure3_calls
  have HB := Lib.hid (Below.refl w.heap.size w)
  have hz := Nat.le_refl w.heap.size
  by_cases hxy : y < x
  · have qq : decide (y < x) = true := by simpa using hxy
    rw [if_pos hxy] at hA hB
    have hA' := dRead (txA s x y) (by omega) s.size _ _ _ _ hA
    have hB' := dRead (txB s x y) (by omega) s.size _ _ _ _ hB
    rw [Int.natCast_add] at hA' hB'
    rw [show (0 : BitVec 256) = zS3 from rfl] at hA' hB'
    have HA := Lib.hid hA'
    have HBB := Lib.hid hB'
    clear hA hB hA' hB' hzA hzB hxy
    generalize txA s x y = tA at *
    generalize txB s x y = tB at *
    go_enter Try.func6, Try.ntmps6
    go_wp2_with fail
    refine (HBX.out _).mono ?_
    rintro e w' ⟨rfl, rfl⟩
    go_wp2_with fail
    refine (HBY.out _).mono ?_
    rintro e w' ⟨rfl, rfl⟩
    go_wp2_with fail
    replace HB := Lib.hid (HB.out.alloc (by omega) (.cells #[.int .u8 x, .int .u8 45, .int .u8 y] 5))
    have hzx : w.heap.size ≤ (w.alloc (.cells #[.int .u8 x, .int .u8 45, .int .u8 y] 5)).heap.size := by simp <;> omega
    clear hz
    have hz := hzx
    clear hzx
    refine (HA.out _).mono ?_
    rintro e w1 ⟨rfl, hb⟩
    have HBx := Lib.hid (HB.out.trans (hb.mono (by omega)))
    have hzx := Nat.le_trans hz hb.size
    clear  HB hz hb
    have HB := HBx
    have hz := hzx
    clear HBx hzx
    go_upto_region 6 with fail
    have BA : Hid (Blk (w1.alloc (.cells #[.int .u64 (wd zS3 0), .int .u64 (wd zS3 1), .int .u64 (wd zS3 2), .int .u64 (wd zS3 3)] 25)) w1.heap.size (setA zS3) 25) := Lib.hid (Blk.new w1 (setA zS3) 25)
    replace HB := Lib.hid (HB.out.alloc (by omega) (.cells #[.int .u64 (wd zS3 0), .int .u64 (wd zS3 1), .int .u64 (wd zS3 2), .int .u64 (wd zS3 3)] 25))
    have hzx : w.heap.size ≤ (w1.alloc (.cells #[.int .u64 (wd zS3 0), .int .u64 (wd zS3 1), .int .u64 (wd zS3 2), .int .u64 (wd zS3 3)] 25)).heap.size := by simp; omega
    have hgBA : w.heap.size ≤ w1.heap.size := hz
    clear hz
    have hz := hzx
    clear hzx
    generalize w1.alloc (.cells #[.int .u64 (wd zS3 0), .int .u64 (wd zS3 1), .int .u64 (wd zS3 2), .int .u64 (wd zS3 3)] 25) = w1n at *
    generalize w1.heap.size = gBA at *
    go_wp2_with fail
    replace BA := Lib.hid (BA.out.alloc (.cells #[.int .u8 x, .int .u8 45, .int .u8 y] 5))
    replace HB := Lib.hid (HB.out.alloc (by omega) (.cells #[.int .u8 x, .int .u8 45, .int .u8 y] 5))
    have hzx : w.heap.size ≤ (w1n.alloc (.cells #[.int .u8 x, .int .u8 45, .int .u8 y] 5)).heap.size := by simp <;> omega
    clear hz
    have hz := hzx
    clear hzx
    refine (HBB.out _).mono ?_
    rintro e w2 ⟨rfl, hb⟩
    have BAx := Lib.hid (BA.out.below hb (Blk.lt BA.out))
    have HBx := Lib.hid (HB.out.trans (hb.mono (by omega)))
    have hzx := Nat.le_trans hz hb.size
    clear BA HB hz hb
    have BA := BAx
    have HB := HBx
    have hz := hzx
    clear BAx HBx hzx
    go_upto_region 8 with fail
    have BB : Hid (Blk (w2.alloc (.cells #[.int .u64 (wd zS3 0), .int .u64 (wd zS3 1), .int .u64 (wd zS3 2), .int .u64 (wd zS3 3)] 25)) w2.heap.size (setA zS3) 25) := Lib.hid (Blk.new w2 (setA zS3) 25)
    replace BA := Lib.hid (BA.out.alloc (.cells #[.int .u64 (wd zS3 0), .int .u64 (wd zS3 1), .int .u64 (wd zS3 2), .int .u64 (wd zS3 3)] 25))
    replace HB := Lib.hid (HB.out.alloc (by omega) (.cells #[.int .u64 (wd zS3 0), .int .u64 (wd zS3 1), .int .u64 (wd zS3 2), .int .u64 (wd zS3 3)] 25))
    have hzx : w.heap.size ≤ (w2.alloc (.cells #[.int .u64 (wd zS3 0), .int .u64 (wd zS3 1), .int .u64 (wd zS3 2), .int .u64 (wd zS3 3)] 25)).heap.size := by simp; omega
    have hgBB : w.heap.size ≤ w2.heap.size := hz
    clear hz
    have hz := hzx
    clear hzx
    generalize w2.alloc (.cells #[.int .u64 (wd zS3 0), .int .u64 (wd zS3 1), .int .u64 (wd zS3 2), .int .u64 (wd zS3 3)] 25) = w2n at *
    generalize w2.heap.size = gBB at *
    go_wp2_with fail
    refine (HSU.out _).mono ?_
    rintro e w3 ⟨rfl, hb⟩
    have BAx := Lib.hid (BA.out.below hb (Blk.lt BA.out))
    have BBx := Lib.hid (BB.out.below hb (Blk.lt BB.out))
    have HBx := Lib.hid (HB.out.trans (hb.mono (by omega)))
    have hzx := Nat.le_trans hz hb.size
    clear BA BB HB hz hb
    have BA := BAx
    have BB := BBx
    have HB := HBx
    have hz := hzx
    clear BAx BBx HBx hzx
    go_wp2_with fail
    go_ret
    exact ⟨rfl, HB.out⟩
  · have qq : decide (y < x) = false := by simpa using hxy
    rw [if_neg hxy] at hA hB
    have hA' := dRead (txA s x y) (by omega) s.size _ _ _ _ hA
    have hB' := dRead (txB s x y) (by omega) s.size _ _ _ _ hB
    rw [Int.natCast_add] at hA' hB'
    have hrg := fun w' => range_calls x y w' (by omega) (by omega) (by omega) (by omega)
    rw [show ((x : Int)).toNat = x from rfl, show ((y : Int)).toNat = y from rfl] at hrg
    have hnt := not_calls (range x y)
    generalize ~~~range x y = b at hB' hnt
    generalize range x y = a at hA' hrg hnt
    have HA := Lib.hid hA'
    have HBB := Lib.hid hB'
    have HRG := Lib.hid hrg
    have HNT := Lib.hid hnt
    clear hA hB hA' hB' hzA hzB hxy hrg hnt
    generalize txA s x y = tA at *
    generalize txB s x y = tB at *
    go_enter Try.func6, Try.ntmps6
    go_wp2_with fail
    refine (HBX.out _).mono ?_
    rintro e w' ⟨rfl, rfl⟩
    go_wp2_with fail
    refine (HBY.out _).mono ?_
    rintro e w' ⟨rfl, rfl⟩
    go_wp2_with fail
    replace HB := Lib.hid (HB.out.alloc (by omega) (.cells #[.int .u8 x, .int .u8 45, .int .u8 y] 5))
    have hzx : w.heap.size ≤ (w.alloc (.cells #[.int .u8 x, .int .u8 45, .int .u8 y] 5)).heap.size := by simp <;> omega
    clear hz
    have hz := hzx
    clear hzx
    refine (HA.out _).mono ?_
    rintro e w1 ⟨rfl, hb⟩
    have HBx := Lib.hid (HB.out.trans (hb.mono (by omega)))
    have hzx := Nat.le_trans hz hb.size
    clear  HB hz hb
    have HB := HBx
    have hz := hzx
    clear HBx hzx
    go_upto_region 6 with fail
    have BA : Hid (Blk (w1.alloc (.cells #[.int .u64 (wd a 0), .int .u64 (wd a 1), .int .u64 (wd a 2), .int .u64 (wd a 3)] 25)) w1.heap.size (setA a) 25) := Lib.hid (Blk.new w1 (setA a) 25)
    replace HB := Lib.hid (HB.out.alloc (by omega) (.cells #[.int .u64 (wd a 0), .int .u64 (wd a 1), .int .u64 (wd a 2), .int .u64 (wd a 3)] 25))
    have hzx : w.heap.size ≤ (w1.alloc (.cells #[.int .u64 (wd a 0), .int .u64 (wd a 1), .int .u64 (wd a 2), .int .u64 (wd a 3)] 25)).heap.size := by simp; omega
    have hgBA : w.heap.size ≤ w1.heap.size := hz
    clear hz
    have hz := hzx
    clear hzx
    generalize w1.alloc (.cells #[.int .u64 (wd a 0), .int .u64 (wd a 1), .int .u64 (wd a 2), .int .u64 (wd a 3)] 25) = w1n at *
    generalize w1.heap.size = gBA at *
    go_wp2_with fail
    replace BA := Lib.hid (BA.out.alloc (.cells #[.int .u8 x, .int .u8 45, .int .u8 y] 5))
    replace HB := Lib.hid (HB.out.alloc (by omega) (.cells #[.int .u8 x, .int .u8 45, .int .u8 y] 5))
    have hzx : w.heap.size ≤ (w1n.alloc (.cells #[.int .u8 x, .int .u8 45, .int .u8 y] 5)).heap.size := by simp <;> omega
    clear hz
    have hz := hzx
    clear hzx
    refine (HBB.out _).mono ?_
    rintro e w2 ⟨rfl, hb⟩
    have BAx := Lib.hid (BA.out.below hb (Blk.lt BA.out))
    have HBx := Lib.hid (HB.out.trans (hb.mono (by omega)))
    have hzx := Nat.le_trans hz hb.size
    clear BA HB hz hb
    have BA := BAx
    have HB := HBx
    have hz := hzx
    clear BAx HBx hzx
    go_upto_region 9 with fail
    have BB : Hid (Blk (w2.alloc (.cells #[.int .u64 (wd b 0), .int .u64 (wd b 1), .int .u64 (wd b 2), .int .u64 (wd b 3)] 25)) w2.heap.size (setA b) 25) := Lib.hid (Blk.new w2 (setA b) 25)
    replace BA := Lib.hid (BA.out.alloc (.cells #[.int .u64 (wd b 0), .int .u64 (wd b 1), .int .u64 (wd b 2), .int .u64 (wd b 3)] 25))
    replace HB := Lib.hid (HB.out.alloc (by omega) (.cells #[.int .u64 (wd b 0), .int .u64 (wd b 1), .int .u64 (wd b 2), .int .u64 (wd b 3)] 25))
    have hzx : w.heap.size ≤ (w2.alloc (.cells #[.int .u64 (wd b 0), .int .u64 (wd b 1), .int .u64 (wd b 2), .int .u64 (wd b 3)] 25)).heap.size := by simp; omega
    have hgBB : w.heap.size ≤ w2.heap.size := hz
    clear hz
    have hz := hzx
    clear hzx
    generalize w2.alloc (.cells #[.int .u64 (wd b 0), .int .u64 (wd b 1), .int .u64 (wd b 2), .int .u64 (wd b 3)] 25) = w2n at *
    generalize w2.heap.size = gBB at *
    have h0 : SPl w gBA gBB a b w2n := ⟨⟨BA.out, BB.out⟩, HB.out⟩
    clear BA BB HB hz HA HBB HBX HBY hcv a1 a2 a3 a4 a5 a6
    have x5 : IntKind.i64.wrap ((s.size : Int) + 5) = (s.size : Int) + 5 := IntWalk.i64_in _ (by omega)
    have x6 : IntKind.i64.wrap ((s.size : Int) + 6) = (s.size : Int) + 6 := IntWalk.i64_in _ (by omega)
    go_wp2_with fail
    refine region_steps (S := SPl w gBA gBB a b) (by kernel_rfl) (SPl.drewS h0) ?_
    clear h0
    simp only [List.size_toArray, List.length_cons, List.length_nil, Nat.reduceAdd, Array.replicate_succ, Array.replicate_zero, List.push_toArray, List.nil_append, List.cons_append]
    refine AnyS.stepE (i := 0) (d := some 84) rfl rfl (by kernel_rfl) (by kernel_rfl) (by kernel_rfl) ?_
    apply Exists.intro
    apply And.intro
    · apply StepsIf.yield
      · kernel_rfl
      intro w' hS
      clear hS; go_simp
      rfl
    intro a' ha'
    simp only [Act.put, List.setIfInBounds_toArray, List.set_cons_zero, List.set_cons_succ] at ha'
    subst ha'
    refine AnyS.stepE (i := 1) (d := some 85) rfl rfl (by kernel_rfl) (by kernel_rfl) (by kernel_rfl) ?_
    apply Exists.intro
    apply And.intro
    · apply StepsIf.yield
      · kernel_rfl
      intro w' hS
      clear hS; go_simp
      rfl
    intro a' ha'
    simp only [Act.put, List.setIfInBounds_toArray, List.set_cons_zero, List.set_cons_succ] at ha'
    subst ha'
    refine AnyS.stepE (i := 2) (d := some 86) rfl rfl (by kernel_rfl) (by kernel_rfl) (by kernel_rfl) ?_
    apply Exists.intro
    apply And.intro
    · apply StepsIf.yield
      · kernel_rfl
      intro w' hS
      clear hS; go_simp
      rfl
    intro a' ha'
    simp only [Act.put, List.setIfInBounds_toArray, List.set_cons_zero, List.set_cons_succ] at ha'
    subst ha'
    refine AnyS.stepE (i := 3) (d := some 87) rfl rfl (by kernel_rfl) (by kernel_rfl) (by kernel_rfl) ?_
    apply Exists.intro
    apply And.intro
    · apply StepsIf.yield
      · kernel_rfl
      intro w' hS
      clear hS; go_simp
      rfl
    intro a' ha'
    simp only [Act.put, List.setIfInBounds_toArray, List.set_cons_zero, List.set_cons_succ] at ha'
    subst ha'
    refine AnyS.stepE (i := 4) (d := some 88) rfl rfl (by kernel_rfl) (by kernel_rfl) (by kernel_rfl) ?_
    apply Exists.intro
    apply And.intro
    · apply StepsIf.yield
      · kernel_rfl
      intro w' hS
      clear hS; go_simp
      rfl
    intro a' ha'
    simp only [Act.put, List.setIfInBounds_toArray, List.set_cons_zero, List.set_cons_succ] at ha'
    subst ha'
    refine AnyS.stepE (i := 5) (d := some 89) rfl rfl (by kernel_rfl) (by kernel_rfl) (by kernel_rfl) ?_
    apply Exists.intro
    apply And.intro
    · apply StepsIf.yield
      · kernel_rfl
      intro w' hS
      clear hS; go_simp
      rfl
    intro a' ha'
    simp only [Act.put, List.setIfInBounds_toArray, List.set_cons_zero, List.set_cons_succ] at ha'
    subst ha'
    refine AnyS.stepE (i := 6) (d := some 90) rfl rfl (by kernel_rfl) (by kernel_rfl) (by kernel_rfl) ?_
    apply Exists.intro
    apply And.intro
    · apply StepsIf.yield
      · kernel_rfl
      intro w' hS
      clear hS; go_simp
      rfl
    intro a' ha'
    simp only [Act.put, List.setIfInBounds_toArray, List.set_cons_zero, List.set_cons_succ] at ha'
    subst ha'
    refine AnyS.next (i := 7) (d := some 91) (v := setV a) rfl rfl (by kernel_rfl) (by kernel_rfl) (by kernel_rfl) (StepsIf.yield (by kernel_rfl) (fun w' hS => by obtain ⟨⟨c0, c1, c2, c3⟩, _⟩ := hS.1.1.cells4; clear hS; go_simp)) ?_
    intro a' ha'
    simp only [Act.put, List.setIfInBounds_toArray, List.set_cons_zero, List.set_cons_succ] at ha'
    subst ha'
    refine AnyS.stepE (i := 8) (d := some 92) rfl rfl (by kernel_rfl) (by kernel_rfl) (by kernel_rfl) ?_
    apply Exists.intro
    apply And.intro
    · apply StepsIf.yield
      · kernel_rfl
      intro w' hS
      clear hS; go_simp
      rfl
    intro a' ha'
    simp only [Act.put, List.setIfInBounds_toArray, List.set_cons_zero, List.set_cons_succ] at ha'
    subst ha'
    refine AnyS.stepE (i := 9) (d := some 93) rfl rfl (by kernel_rfl) (by kernel_rfl) (by kernel_rfl) ?_
    apply Exists.intro
    apply And.intro
    · apply StepsIf.yield
      · kernel_rfl
      intro w' hS
      clear hS; go_simp
      rfl
    intro a' ha'
    simp only [Act.put, List.setIfInBounds_toArray, List.set_cons_zero, List.set_cons_succ] at ha'
    subst ha'
    refine AnyS.next (i := 10) (d := some 94) (v := setV a) rfl rfl (by kernel_rfl) (by kernel_rfl) (by kernel_rfl) (StepsIf.call (by kernel_rfl) (fun w' hS => by clear hS; go_simp) (fun w' hS => (HRG.out w').mono fun e w'' h => ⟨h.1, SPl.keep hS h.2⟩)) ?_
    intro a' ha'
    simp only [Act.put, List.setIfInBounds_toArray, List.set_cons_zero, List.set_cons_succ] at ha'
    subst ha'
    refine AnyS.next (i := 11) (d := some 95) (v := .bool true) rfl rfl (by kernel_rfl) (by kernel_rfl) (by kernel_rfl) (StepsIf.yield (by kernel_rfl) (fun w' hS => by have q := eq_set_same a; clear hS; go_simp)) ?_
    intro a' ha'
    simp only [Act.put, List.setIfInBounds_toArray, List.set_cons_zero, List.set_cons_succ] at ha'
    subst ha'
    refine AnyS.stepE (i := 12) (d := some 96) rfl rfl (by kernel_rfl) (by kernel_rfl) (by kernel_rfl) ?_
    apply Exists.intro
    apply And.intro
    · apply StepsIf.yield
      · kernel_rfl
      intro w' hS
      clear hS; go_simp
      rfl
    intro a' ha'
    simp only [Act.put, List.setIfInBounds_toArray, List.set_cons_zero, List.set_cons_succ] at ha'
    subst ha'
    refine AnyS.stepE (i := 13) (d := some 97) rfl rfl (by kernel_rfl) (by kernel_rfl) (by kernel_rfl) ?_
    apply Exists.intro
    apply And.intro
    · apply StepsIf.yield
      · kernel_rfl
      intro w' hS
      clear hS; go_simp
      rfl
    intro a' ha'
    simp only [Act.put, List.setIfInBounds_toArray, List.set_cons_zero, List.set_cons_succ] at ha'
    subst ha'
    refine AnyS.next (i := 14) (d := some 98) (v := setV b) rfl rfl (by kernel_rfl) (by kernel_rfl) (by kernel_rfl) (StepsIf.yield (by kernel_rfl) (fun w' hS => by obtain ⟨⟨c0, c1, c2, c3⟩, _⟩ := hS.1.2.cells4; clear hS; go_simp)) ?_
    intro a' ha'
    simp only [Act.put, List.setIfInBounds_toArray, List.set_cons_zero, List.set_cons_succ] at ha'
    subst ha'
    refine AnyS.next (i := 15) (d := some 99) (v := setV a) rfl rfl (by kernel_rfl) (by kernel_rfl) (by kernel_rfl) (StepsIf.yield (by kernel_rfl) (fun w' hS => by obtain ⟨⟨c0, c1, c2, c3⟩, _⟩ := hS.1.1.cells4; clear hS; go_simp)) ?_
    intro a' ha'
    simp only [Act.put, List.setIfInBounds_toArray, List.set_cons_zero, List.set_cons_succ] at ha'
    subst ha'
    refine AnyS.next (i := 16) (d := some 100) (v := setV b) rfl rfl (by kernel_rfl) (by kernel_rfl) (by kernel_rfl) (StepsIf.call (by kernel_rfl) (fun w' hS => by clear hS; go_simp) (fun w' hS => (HNT.out w').mono fun e w'' h => ⟨h.1, SPl.keep hS h.2⟩)) ?_
    intro a' ha'
    simp only [Act.put, List.setIfInBounds_toArray, List.set_cons_zero, List.set_cons_succ] at ha'
    subst ha'
    refine AnyS.next (i := 17) (d := some 101) (v := .bool true) rfl rfl (by kernel_rfl) (by kernel_rfl) (by kernel_rfl) (StepsIf.yield (by kernel_rfl) (fun w' hS => by have q := eq_set_same b; clear hS; go_simp)) ?_
    intro a' ha'
    simp only [Act.put, List.setIfInBounds_toArray, List.set_cons_zero, List.set_cons_succ] at ha'
    subst ha'
    refine AnyS.stepE (i := 18) (d := some 102) rfl rfl (by kernel_rfl) (by kernel_rfl) (by kernel_rfl) ?_
    apply Exists.intro
    apply And.intro
    · apply StepsIf.yield
      · kernel_rfl
      intro w' hS
      clear hS; go_simp
      rfl
    intro a' ha'
    simp only [Act.put, List.setIfInBounds_toArray, List.set_cons_zero, List.set_cons_succ] at ha'
    subst ha'
    refine AnyS.stepE (i := 19) (d := some 103) rfl rfl (by kernel_rfl) (by kernel_rfl) (by kernel_rfl) ?_
    apply Exists.intro
    apply And.intro
    · apply StepsIf.yield
      · kernel_rfl
      intro w' hS
      clear hS; go_simp
      rfl
    intro a' ha'
    simp only [Act.put, List.setIfInBounds_toArray, List.set_cons_zero, List.set_cons_succ] at ha'
    subst ha'
    refine AnyS.stepE (i := 20) (d := some 104) rfl rfl (by kernel_rfl) (by kernel_rfl) (by kernel_rfl) ?_
    apply Exists.intro
    apply And.intro
    · apply StepsIf.yield
      · kernel_rfl
      intro w' hS
      clear hS; go_simp
      rfl
    intro a' ha'
    simp only [Act.put, List.setIfInBounds_toArray, List.set_cons_zero, List.set_cons_succ] at ha'
    subst ha'
    refine AnyS.stepE (i := 21) (d := some 105) rfl rfl (by kernel_rfl) (by kernel_rfl) (by kernel_rfl) ?_
    apply Exists.intro
    apply And.intro
    · apply StepsIf.yield
      · kernel_rfl
      intro w' hS
      clear hS; go_simp
      rfl
    intro a' ha'
    simp only [Act.put, List.setIfInBounds_toArray, List.set_cons_zero, List.set_cons_succ] at ha'
    subst ha'
    refine AnyS.stepE (i := 22) (d := some 106) rfl rfl (by kernel_rfl) (by kernel_rfl) (by kernel_rfl) ?_
    apply Exists.intro
    apply And.intro
    · apply StepsIf.yield
      · kernel_rfl
      intro w' hS
      clear hS; go_simp
      rfl
    intro a' ha'
    simp only [Act.put, List.setIfInBounds_toArray, List.set_cons_zero, List.set_cons_succ] at ha'
    subst ha'
    refine AnyS.stepE (i := 23) (d := some 107) rfl rfl (by kernel_rfl) (by kernel_rfl) (by kernel_rfl) ?_
    apply Exists.intro
    apply And.intro
    · apply StepsIf.yield
      · kernel_rfl
      intro w' hS
      clear hS; go_simp
      rfl
    intro a' ha'
    simp only [Act.put, List.setIfInBounds_toArray, List.set_cons_zero, List.set_cons_succ] at ha'
    subst ha'
    refine AnyS.stepE (i := 24) (d := some 108) rfl rfl (by kernel_rfl) (by kernel_rfl) (by kernel_rfl) ?_
    apply Exists.intro
    apply And.intro
    · apply StepsIf.yield
      · kernel_rfl
      intro w' hS
      clear hS; go_simp
      rfl
    intro a' ha'
    simp only [Act.put, List.setIfInBounds_toArray, List.set_cons_zero, List.set_cons_succ] at ha'
    subst ha'
    refine AnyS.stepE (i := 25) (d := some 109) rfl rfl (by kernel_rfl) (by kernel_rfl) (by kernel_rfl) ?_
    apply Exists.intro
    apply And.intro
    · apply StepsIf.yield
      · kernel_rfl
      intro w' hS
      clear hS; go_simp
      rfl
    intro a' ha'
    simp only [Act.put, List.setIfInBounds_toArray, List.set_cons_zero, List.set_cons_succ] at ha'
    subst ha'
    refine AnyS.stepE (i := 26) (d := some 110) rfl rfl (by kernel_rfl) (by kernel_rfl) (by kernel_rfl) ?_
    apply Exists.intro
    apply And.intro
    · apply StepsIf.yield
      · kernel_rfl
      intro w' hS
      clear hS; go_simp
      rfl
    intro a' ha'
    simp only [Act.put, List.setIfInBounds_toArray, List.set_cons_zero, List.set_cons_succ] at ha'
    subst ha'
    refine AnyS.stepE (i := 27) (d := some 111) rfl rfl (by kernel_rfl) (by kernel_rfl) (by kernel_rfl) ?_
    apply Exists.intro
    apply And.intro
    · apply StepsIf.yield
      · kernel_rfl
      intro w' hS
      clear hS; go_simp
      rfl
    intro a' ha'
    simp only [Act.put, List.setIfInBounds_toArray, List.set_cons_zero, List.set_cons_succ] at ha'
    subst ha'
    refine AnyS.stepE (i := 28) (d := some 112) rfl rfl (by kernel_rfl) (by kernel_rfl) (by kernel_rfl) ?_
    apply Exists.intro
    apply And.intro
    · apply StepsIf.yield
      · kernel_rfl
      intro w' hS
      clear hS; go_simp
      rfl
    intro a' ha'
    simp only [Act.put, List.setIfInBounds_toArray, List.set_cons_zero, List.set_cons_succ] at ha'
    subst ha'
    refine AnyS.stepE (i := 29) (d := some 113) rfl rfl (by kernel_rfl) (by kernel_rfl) (by kernel_rfl) ?_
    apply Exists.intro
    apply And.intro
    · apply StepsIf.yield
      · kernel_rfl
      intro w' hS
      clear hS; go_simp
      rfl
    intro a' ha'
    simp only [Act.put, List.setIfInBounds_toArray, List.set_cons_zero, List.set_cons_succ] at ha'
    subst ha'
    refine AnyS.stepE (i := 30) (d := some 114) rfl rfl (by kernel_rfl) (by kernel_rfl) (by kernel_rfl) ?_
    apply Exists.intro
    apply And.intro
    · apply StepsIf.yield
      · kernel_rfl
      intro w' hS
      clear hS; go_simp
      rfl
    intro a' ha'
    simp only [Act.put, List.setIfInBounds_toArray, List.set_cons_zero, List.set_cons_succ] at ha'
    subst ha'
    refine AnyS.stepE (i := 31) (d := some 115) rfl rfl (by kernel_rfl) (by kernel_rfl) (by kernel_rfl) ?_
    apply Exists.intro
    apply And.intro
    · apply StepsIf.yield
      · kernel_rfl
      intro w' hS
      clear hS; go_simp
      rfl
    intro a' ha'
    simp only [Act.put, List.setIfInBounds_toArray, List.set_cons_zero, List.set_cons_succ] at ha'
    subst ha'
    refine AnyS.stepE (i := 32) (d := some 116) rfl rfl (by kernel_rfl) (by kernel_rfl) (by kernel_rfl) ?_
    apply Exists.intro
    apply And.intro
    · apply StepsIf.yield
      · kernel_rfl
      intro w' hS
      clear hS; go_simp
      rfl
    intro a' ha'
    simp only [Act.put, List.setIfInBounds_toArray, List.set_cons_zero, List.set_cons_succ] at ha'
    subst ha'
    refine AnyS.stepE (i := 33) (d := some 117) rfl rfl (by kernel_rfl) (by kernel_rfl) (by kernel_rfl) ?_
    apply Exists.intro
    apply And.intro
    · apply StepsIf.yield
      · kernel_rfl
      intro w' hS
      clear hS; go_simp
      rfl
    intro a' ha'
    simp only [Act.put, List.setIfInBounds_toArray, List.set_cons_zero, List.set_cons_succ] at ha'
    subst ha'
    refine AnyS.next (i := 34) (d := some 118) (v := .bool true) rfl rfl (by kernel_rfl) (by kernel_rfl) (by kernel_rfl) (StepsIf.call (by kernel_rfl) (fun w' hS => by clear hS; go_simp) (fun w' hS => (HSU.out w').mono fun e w'' h => ⟨h.1, SPl.keep hS h.2⟩)) ?_
    intro a' ha'
    simp only [Act.put, List.setIfInBounds_toArray, List.set_cons_zero, List.set_cons_succ] at ha'
    subst ha'
    refine AnyS.stepE (i := 35) (d := some 119) rfl rfl (by kernel_rfl) (by kernel_rfl) (by kernel_rfl) ?_
    apply Exists.intro
    apply And.intro
    · apply StepsIf.yield
      · kernel_rfl
      intro w' hS
      clear hS; go_simp
      rfl
    intro a' ha'
    simp only [Act.put, List.setIfInBounds_toArray, List.set_cons_zero, List.set_cons_succ] at ha'
    subst ha'
    refine AnyS.stepE (i := 36) (d := some 6) rfl rfl (by kernel_rfl) (by kernel_rfl) (by kernel_rfl) ?_
    apply Exists.intro
    apply And.intro
    · apply StepsIf.yield
      · kernel_rfl
      intro w' hS
      clear hS; go_simp
      rfl
    intro a' ha'
    simp only [Act.put, List.setIfInBounds_toArray, List.set_cons_zero, List.set_cons_succ] at ha'
    subst ha'
    refine AnyS.done (by kernel_rfl) (fun w' hS => ?_) _
    have hB := hS.2
    clear hS
    go_wp2_with fail
    go_ret
    exact ⟨rfl, hB⟩
end Go.Proofs.Ytkkhibamkdgffaa

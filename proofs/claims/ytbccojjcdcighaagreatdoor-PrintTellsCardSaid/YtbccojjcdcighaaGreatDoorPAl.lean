/- Texts put together: Wp. -/
import Derived.Test.YtbccojjcdcighaaGreatDoorPAh
import Derived.Test.YtbccojjcdcighaaGreatDoorPAi
import Derived.Test.YtbccojjcdcighaaGreatDoorPC
namespace Go.Proofs.YtbccojjcdcighaaGreatDoor
open Go.RowKit Go.Shelf BS
@[reducible] def rgI (k a f : Int) (t : BitVec 256) (n m : Int) (e p : Int) (l : ByteArray) : Array Value :=
  #[.int .i64 k, .int .i64 a, .int .i64 f, .int .u64 (wd t 0), .int .u64 (wd t 1), .int .u64 (wd t 2), .int .u64 (wd t 3), .int .i64 n, .int .i64 m, .int .i64 e, .int .i64 p, .string l]
@[reducible] def rgZ (k a f : Int) (n m : Int) (e p : Int) (l : ByteArray) : Array Value :=
  #[.int .i64 k, .int .i64 a, .int .i64 f, .int .u64 0, .int .u64 0, .int .u64 0, .int .u64 0, .int .i64 n, .int .i64 m, .int .i64 e, .int .i64 p, .string l]
theorem rgZ_eq (k a f n m e p : Int) (l : ByteArray) : rgZ k a f n m e p l = rgI k a f 0 n m e p l := rfl
theorem infoRg : (Tryz.prog.info? 142).map (·.size) = some 12 := by kernel_rfl
theorem rg_one (k a f : Int) (t : BitVec 256) (n m e p : Int) (l : ByteArray) : ((rgI k a f t n m e p l).all fun x => x.oneCell') = true := by simp [Value.oneCell']
set_option maxRecDepth 100000 in
set_option maxHeartbeats 1000000 in
theorem fault5_calls (e p : Int) (w : World) : Calls Tryz.prog 113 #[.int .i64 e, .int .i64 p] w fun en w' => en = .returned (.agg (rgI 0 0 0 0 0 0 e p eT)) ∧ Below w.heap.size w w' := by
  go_enter Tryz.func113, Tryz.ntmps113
  go_upto_region 1 with fail
  have HR := Blk.new w (rgZ 0 0 0 0 0 0 0 eT) 142
  have HB : Below w.heap.size w (w.alloc (.cells (rgZ 0 0 0 0 0 0 0 eT) 142)) := by go_grown
  have e0 : w.alloc (.cells #[.int .i64 0, .int .i64 0, .int .i64 0, .int .u64 0, .int .u64 0, .int .u64 0, .int .u64 0, .int .i64 0, .int .i64 0, .int .i64 0, .int .i64 0, .string ⟨#[]⟩] 142) = w.alloc (.cells (rgZ 0 0 0 0 0 0 0 eT) 142) := rfl
  try rw [e0]
  clear e0
  generalize w.alloc (.cells (rgZ 0 0 0 0 0 0 0 eT) 142) = w1 at *
  go_wp2_with ((with_reducible refine wpList_store_st (o := ⟨none, .store 142 _ _, _, _, _, _⟩) rfl 142 _ _ rfl w.heap.size rfl rfl (run_storeAt_row _ w.heap.size 142 142 (rgZ 0 0 0 0 0 0 0 eT) (rgZ 0 0 0 0 0 e p eT) ?_ ?_ ?_ ?_) ?_); exact HR; exact infoRg; rfl; exact rg_one _ _ _ 0 _ _ _ _ _)
  exact bodyPost_ret (v := .agg (rgZ 0 0 0 0 0 e p eT)) (results_cell_row rfl _ _ w.heap.size 142 (rgZ 0 0 0 0 0 e p eT) (0, 0) _ rfl (Blk.setRow HR) Tryz.underlying142 rfl infoRg) rfl ⟨rfl, below_row HB (Nat.le_refl _) _⟩
set_option maxRecDepth 100000 in
set_option maxHeartbeats 1000000 in
theorem sign5_calls (k a : Int) (ha : 0 ≤ a ∧ a ≤ 1000000) (w : World) : Calls Tryz.prog 161 #[.int .i64 k, .int .i64 a] w fun en w' => en = .returned (.agg (rgI k a (a + 1) 0 0 0 0 0 eT)) ∧ Below w.heap.size w w' := by
  have x : IntKind.i64.wrap (a + 1) = a + 1 := IntWalk.i64_in _ (by omega)
  go_enter Tryz.func161, Tryz.ntmps161
  go_upto_region 1 with fail
  have HR := Blk.new w (rgZ 0 0 0 0 0 0 0 eT) 142
  have HB : Below w.heap.size w (w.alloc (.cells (rgZ 0 0 0 0 0 0 0 eT) 142)) := by go_grown
  have e0 : w.alloc (.cells #[.int .i64 0, .int .i64 0, .int .i64 0, .int .u64 0, .int .u64 0, .int .u64 0, .int .u64 0, .int .i64 0, .int .i64 0, .int .i64 0, .int .i64 0, .string ⟨#[]⟩] 142) = w.alloc (.cells (rgZ 0 0 0 0 0 0 0 eT) 142) := rfl
  try rw [e0]
  clear e0
  generalize w.alloc (.cells (rgZ 0 0 0 0 0 0 0 eT) 142) = w1 at *
  go_wp2_with ((with_reducible refine wpList_store_st (o := ⟨none, .store 142 _ _, _, _, _, _⟩) rfl 142 _ _ rfl w.heap.size rfl rfl (run_storeAt_row _ w.heap.size 142 142 (rgZ 0 0 0 0 0 0 0 eT) (rgZ k a (a + 1) 0 0 0 0 eT) ?_ ?_ ?_ ?_) ?_); exact HR; exact infoRg; rfl; exact rg_one _ _ _ 0 _ _ _ _ _)
  exact bodyPost_ret (v := .agg (rgZ k a (a + 1) 0 0 0 0 eT)) (results_cell_row rfl _ _ w.heap.size 142 (rgZ k a (a + 1) 0 0 0 0 eT) (0, 0) _ rfl (Blk.setRow HR) Tryz.underlying142 rfl infoRg) rfl ⟨rfl, below_row HB (Nat.le_refl _) _⟩
set_option maxRecDepth 100000 in
set_option maxHeartbeats 1000000 in
theorem oneOf5_calls (t : BitVec 256) (a e : Int) (w : World) : Calls Tryz.prog 190 #[setV t, .int .i64 a, .int .i64 e] w fun en w' => en = .returned (.agg (rgI 1 a e t 0 0 0 0 eT)) ∧ Below w.heap.size w w' := by
  have HC := Blk.new w (setA t) 43
  have HR := Blk.new (w.alloc (.cells (setA t) 43)) (rgZ 0 0 0 0 0 0 0 eT) 142
  rw [World.size_alloc] at HR
  have HC2 := HC.alloc (.cells (rgZ 0 0 0 0 0 0 0 eT) 142)
  have HB : Below w.heap.size w ((w.alloc (.cells (setA t) 43)).alloc (.cells (rgZ 0 0 0 0 0 0 0 eT) 142)) := by go_grown
  go_enter Tryz.func190, Tryz.ntmps190
  go_upto_region 1 with fail
  have e0 : (w.alloc (.cells #[.int .u64 (wd t 0), .int .u64 (wd t 1), .int .u64 (wd t 2), .int .u64 (wd t 3)] 43)).alloc (.cells #[.int .i64 0, .int .i64 0, .int .i64 0, .int .u64 0, .int .u64 0, .int .u64 0, .int .u64 0, .int .i64 0, .int .i64 0, .int .i64 0, .int .i64 0, .string ⟨#[]⟩] 142) = (w.alloc (.cells (setA t) 43)).alloc (.cells (rgZ 0 0 0 0 0 0 0 eT) 142) := rfl
  try rw [e0]
  clear e0 HC
  generalize (w.alloc (.cells (setA t) 43)).alloc (.cells (rgZ 0 0 0 0 0 0 0 eT) 142) = w1 at *
  obtain ⟨⟨c0, c1, c2, c3⟩, _⟩ := HC2.cells4
  go_wp2_with ((with_reducible refine wpList_store_st (o := ⟨none, .store 142 _ _, _, _, _, _⟩) rfl 142 _ _ rfl (w.heap.size + 1) rfl rfl (run_storeAt_row _ (w.heap.size + 1) 142 142 (rgZ 0 0 0 0 0 0 0 eT) (rgI 1 a e t 0 0 0 0 eT) ?_ ?_ ?_ ?_) ?_); exact HR; exact infoRg; rfl; exact rg_one _ _ _ _ _ _ _ _ _)
  exact bodyPost_ret (v := .agg (rgI 1 a e t 0 0 0 0 eT)) (results_cell_row rfl _ _ (w.heap.size + 1) 142 (rgI 1 a e t 0 0 0 0 eT) (0, 0) _ rfl (Blk.setRow HR) Tryz.underlying142 rfl infoRg) rfl ⟨rfl, below_row HB (by omega) _⟩
set_option maxRecDepth 100000 in
theorem isOf5_calls (L : List Nat) (hL : ∀ x ∈ L, x < 256) (b : Nat) (hb : b < 256) (w : World) : Calls Tryz.prog 100 #[.string (ofT L), .int .u8 b] w fun e w' => e = .returned (.bool (L.contains b)) ∧ w = w' := by
  have HE : Hid (decide (0 ≤ Lib.indexByte (ofT L).data.toList (UInt8.ofNat b)) = L.contains b) := Lib.hid (ib_eq L hL b hb)
  go_enter Tryz.func100, Tryz.ntmps100
  go_wp2_with (go_at_call 45; refine (ib_calls _ _ _).mono ?_; rintro e w' ⟨rfl, rfl⟩)
  go_ret
  exact ⟨by rw [← HE.out]; rfl, rfl⟩
theorem isSign_calls (b : Nat) (hb : b < 256) (w : World) : Calls Tryz.prog 100 #[.string ⟨#[46, 91, 93, 92, 40, 41, 42, 43, 63, 123, 125, 124, 94, 36]⟩, .int .u8 b] w fun e w' => e = .returned (.bool (four14 b)) ∧ w = w' := isOf5_calls l14 (by decide) b hb w
theorem isPlain_calls (b : Nat) (hb : b < 256) (w : World) : Calls Tryz.prog 100 #[.string ⟨#[93, 125]⟩, .int .u8 b] w fun e w' => e = .returned (.bool ([93, 125].contains b)) ∧ w = w' := isOf5_calls [93, 125] (by decide) b hb w
theorem isRep_calls (b : Nat) (hb : b < 256) (w : World) : Calls Tryz.prog 100 #[.string ⟨#[42, 43, 63, 123]⟩, .int .u8 b] w fun e w' => e = .returned (.bool ([42, 43, 63, 123].contains b)) ∧ w = w' := isOf5_calls [42, 43, 63, 123] (by decide) b hb w
def textB (b : Nat) : List Nat := if four14 b = true ∧ b ≠ 93 ∧ b ≠ 125 then [92, b] else [b]
set_option maxRecDepth 100000 in
set_option maxHeartbeats 1000000 in
theorem textByte_calls (b : Nat) (hb : b < 256) (w : World) : Calls Tryz.prog 78 #[.int .u8 b] w fun e w' => e = .returned (.string (ofT (textB b))) ∧ Below w.heap.size w w' := by
  have h1 := isSign_calls b hb
  have h2 := isPlain_calls b hb
  have hc : ([93, 125].contains b) = true ↔ (b = 93 ∨ b = 125) := by simp
  generalize hT : textB b = T
  unfold textB at hT
  generalize four14 b = f at *
  generalize ([93, 125].contains b) = g at *
  have HS := Lib.hid h1
  have HP := Lib.hid h2
  have cA : ∀ W : World, (convert 70 9 (.slice (some ⟨W.heap.size, 0, none⟩) 1 1)).run Tryz.prog (W.alloc (.cells #[.int .u8 b] 5)) = .ok (.string (ofT [b])) (W.alloc (.cells #[.int .u8 b] 5)) := fun W => cv1 W 5 b
  have cB : ∀ W : World, (convert 70 9 (.slice (some ⟨W.heap.size, 0, none⟩) 2 2)).run Tryz.prog (W.alloc (.cells #[.int .u8 92, .int .u8 b] 5)) = .ok (.string (ofT [92, b])) (W.alloc (.cells #[.int .u8 92, .int .u8 b] 5)) := fun W => cv2 W 5 92 b
  clear h1 h2
  cases f with
  | false =>
    have e : T = [b] := by rw [← hT, if_neg (by simp)]
    subst e
    clear hT hc HP cB
    go_enter Tryz.func78, Tryz.ntmps78
    go_wp2_with (go_at_call 100; refine (HS.out _).mono ?_; rintro e w' ⟨rfl, rfl⟩)
    go_ret
    exact ⟨rfl, by go_grown⟩
  | true =>
    cases g with
    | true =>
      have e : T = [b] := by rw [← hT, if_neg (by have := hc.1 rfl; omega)]
      subst e
      clear hT hc cB
      go_enter Tryz.func78, Tryz.ntmps78
      go_wp2_with fail
      refine (HS.out _).mono ?_
      rintro e w' ⟨rfl, rfl⟩
      go_wp2_with fail
      refine (HP.out _).mono ?_
      rintro e w' ⟨rfl, rfl⟩
      clear HS HP
      go_wp2_with fail
      go_ret
      exact ⟨rfl, by go_grown⟩
    | false =>
      have e : T = [92, b] := by
        rw [← hT, if_pos ⟨rfl, fun h => (by have := hc.2 (.inl h); cases this), fun h => (by have := hc.2 (.inr h); cases this)⟩]
      subst e
      clear hT hc cA
      go_enter Tryz.func78, Tryz.ntmps78
      go_wp2_with fail
      refine (HS.out _).mono ?_
      rintro e w' ⟨rfl, rfl⟩
      go_wp2_with fail
      refine (HP.out _).mono ?_
      rintro e w' ⟨rfl, rfl⟩
      clear HS HP
      go_wp2_with fail
      go_ret
      exact ⟨rfl, by go_grown⟩
end Go.Proofs.YtbccojjcdcighaaGreatDoor

/- class.Names, and the document's Names: the twelve names. -/
import Derived.Test.YtpaecjjelpjopaaGreatDoorCp
import Derived.Deep.WholeRow
namespace Go.Proofs.YtpaecjjelpjopaaGreatDoor
open Go.RowKit Go.Shelf BS

def namV : Array Value := (tabL.map fun e => Value.string e.1).toArray
theorem namV_get (k : Nat) (h : k < 12) : namV[k]? = some (.string (tE k).1) := by
  have h1 : k < tabL.length := h
  simp only [namV, List.getElem?_toArray, List.getElem?_map, List.getElem?_eq_getElem h1, Option.map_some, tE_eq k h] <;> rfl

set_option maxRecDepth 100000 in
set_option maxHeartbeats 2000000 in
theorem rNames_calls (w : World) : Calls Tryz.prog 69 #[] w fun e w' => ∃ g, e = .returned (.slice (some ⟨g, 0, none⟩) 12 12) ∧ (w.heap.size ≤ g ∧ Blk w' g namV 9) ∧ Below w.heap.size w w' := by
  go_enter Tryz.func69, Tryz.ntmps69
  go_wp2
  go_ret
  exact ⟨w.heap.size, rfl, ⟨Nat.le_refl _, Blk.new w namV _⟩, (Below.refl _ _).alloc (Nat.le_refl _) _⟩

@[reducible] def tabZ : Array Value := #[.string ⟨#[]⟩, .int .u64 0, .int .u64 0, .int .u64 0, .int .u64 0, .string ⟨#[]⟩, .int .u64 0, .int .u64 0, .int .u64 0, .int .u64 0, .string ⟨#[]⟩, .int .u64 0, .int .u64 0, .int .u64 0, .int .u64 0, .string ⟨#[]⟩, .int .u64 0, .int .u64 0, .int .u64 0, .int .u64 0, .string ⟨#[]⟩, .int .u64 0, .int .u64 0, .int .u64 0, .int .u64 0, .string ⟨#[]⟩, .int .u64 0, .int .u64 0, .int .u64 0, .int .u64 0, .string ⟨#[]⟩, .int .u64 0, .int .u64 0, .int .u64 0, .int .u64 0, .string ⟨#[]⟩, .int .u64 0, .int .u64 0, .int .u64 0, .int .u64 0, .string ⟨#[]⟩, .int .u64 0, .int .u64 0, .int .u64 0, .int .u64 0, .string ⟨#[]⟩, .int .u64 0, .int .u64 0, .int .u64 0, .int .u64 0, .string ⟨#[]⟩, .int .u64 0, .int .u64 0, .int .u64 0, .int .u64 0, .string ⟨#[]⟩, .int .u64 0, .int .u64 0, .int .u64 0, .int .u64 0]
theorem mk12 (w : World) : (Instr.makeSlice 108 (.int .i64 12) (.int .i64 12)).run Tryz.prog w = .ok (.slice (some ⟨w.heap.size, 0, none⟩) 12 12) (w.alloc (.cells #[.string ⟨#[]⟩, .string ⟨#[]⟩, .string ⟨#[]⟩, .string ⟨#[]⟩, .string ⟨#[]⟩, .string ⟨#[]⟩, .string ⟨#[]⟩, .string ⟨#[]⟩, .string ⟨#[]⟩, .string ⟨#[]⟩, .string ⟨#[]⟩, .string ⟨#[]⟩] 9)) := by kernel_rfl
theorem wpList_store_row {P : Program} {ops : Array Oper} {rest : List Oper} {o : Oper} {a : Act} {w w' : World} {Q : Exit → Act → World → Prop} {cs : Array Value} (hgd : o.guard = none) (ty : TypeId) (x y : Operand) (ho : o.op = .store ty x y)
    (g : Nat) (hx : a.eval x = .pointer (some ⟨g, 0, none⟩)) (hy : a.eval y = .agg cs) (hst : (Instr.storeAt ty (.pointer (some ⟨g, 0, none⟩)) (.agg cs)).run P w = .ok () w') (h : wpList P ops Q rest (a.put o.dst undef) w') : wpList P ops Q (o :: rest) a w :=
  wpList_plain hgd fun _ hK => wp_store_row ty x y ho g hx hy hst (hK _ _ h)

set_option maxRecDepth 100000 in
set_option maxHeartbeats 2000000 in
theorem cNames_calls (w : World) : Calls Tryz.prog 153 #[] w fun e w' => ∃ g, e = .returned (.slice (some ⟨g, 0, none⟩) 12 12) ∧ (w.heap.size ≤ g ∧ Blk w' g namV 9) ∧ Below w.heap.size w w' := by
  have hmk := mk12
  go_enter Tryz.func153, Tryz.ntmps153
  go_wp2_with fail
  refine (table_calls _).mono ?_
  rintro e w1 ⟨rfl, hb1⟩
  go_wp2_with (first
    | (with_reducible refine wpList_store_row (o := ⟨none, .store 172 _ _, _, _, _, _⟩) rfl 172 _ _ rfl w1.heap.size rfl rfl (run_storeAt_new w1 172 tabZ tabV (by kernel_rfl) rfl tabV_one) ?_
       have hbT := Blk.new w1 tabV 172)
    | (with_reducible refine wpList_load_row (o := ⟨_, .load 172 _, _, _, _, _⟩) rfl 172 _ rfl w1.heap.size rfl 172 tabV (0, 0) _ ?_ Tryz.underlying172 rfl ?_ ?_
       · exact hbT.alloc _
       · kernel_rfl))
  have hbN := Blk.new (w1.alloc (.cells tabV 172)) #[.string ⟨#[]⟩, .string ⟨#[]⟩, .string ⟨#[]⟩, .string ⟨#[]⟩, .string ⟨#[]⟩, .string ⟨#[]⟩, .string ⟨#[]⟩, .string ⟨#[]⟩, .string ⟨#[]⟩, .string ⟨#[]⟩, .string ⟨#[]⟩, .string ⟨#[]⟩] 9
  rw [World.size_alloc] at hbN
  have hB : Below w.heap.size w ((w1.alloc (.cells tabV 172)).alloc (.cells #[.string ⟨#[]⟩, .string ⟨#[]⟩, .string ⟨#[]⟩, .string ⟨#[]⟩, .string ⟨#[]⟩, .string ⟨#[]⟩, .string ⟨#[]⟩, .string ⟨#[]⟩, .string ⟨#[]⟩, .string ⟨#[]⟩, .string ⟨#[]⟩, .string ⟨#[]⟩] 9)) := (hb1.alloc hb1.size _).alloc (by have := hb1.size; simp; omega) _
  clear hbT hmk
  have hz := hb1.size
  have hG : w.heap.size ≤ w1.heap.size + 1 := by omega
  clear hb1 hz
  generalize (w1.alloc (.cells tabV 172)).alloc (.cells #[.string ⟨#[]⟩, .string ⟨#[]⟩, .string ⟨#[]⟩, .string ⟨#[]⟩, .string ⟨#[]⟩, .string ⟨#[]⟩, .string ⟨#[]⟩, .string ⟨#[]⟩, .string ⟨#[]⟩, .string ⟨#[]⟩, .string ⟨#[]⟩, .string ⟨#[]⟩] 9) = w2 at *
  generalize w1.heap.size + 1 = G at *
  go_loopw [8] (fun i wr => ∃ k : Nat, k ≤ 12 ∧ i = .int .i64 k ∧ (∃ vs : Array Value, vs.size = 12 ∧ (∀ j, j < k → vs[j]? = some (.string (tE j).1)) ∧ Blk wr G vs 9) ∧ Below w.heap.size w wr) (fun i _ => 12 - (intOf i).toNat)
  case atStart => exact ⟨0, by omega, rfl, ⟨_, rfl, fun j hj => by omega, hbN⟩, hB⟩
  case round =>
    clear hbN hB
    obtain ⟨k, hk, rfl, ⟨vs, hvs, hno, hb⟩, hB⟩ := hrel
    have HN := Lib.hid hno
    clear hno
    by_cases hkl : k < 12
    · have hix := tab_index k hkl
      have hd : decide (k < 12) = true := by simpa using hkl
      obtain ⟨old, hold⟩ : ∃ old, vs[k]? = some old := ⟨vs[k]'(by omega), by simp [show k < vs.size by omega]⟩
      generalize hnm : (tE k).1 = nm at hix
      generalize (tE k).2 = st at *
      have HNM := Lib.hid hnm
      clear hnm
      have hc := ((hb.alloc (.cells #[.string nm, .int .u64 (wd st 0), .int .u64 (wd st 1), .int .u64 (wd st 2), .int .u64 (wd st 3)] 171)).cell k).trans hold
      have hf := (hb.alloc (.cells #[.string nm, .int .u64 (wd st 0), .int .u64 (wd st 1), .int .u64 (wd st 2), .int .u64 (wd st 3)] 171)).frozen k
      go_wp2
      go_roundw
      case rel =>
        refine ⟨k + 1, by omega, by simp, ⟨vs.setIfInBounds k (.string nm), by simp [hvs], fun j hj => ?_, (hb.alloc _).set k _⟩, ?_⟩
        · by_cases hjk : j = k
          · subst hjk
            rw [HNM.out]
            simp [hvs, hkl]
          · rw [Array.getElem?_setIfInBounds_ne (Ne.symm hjk)]
            exact HN.out j (by omega)
        · exact below_set (hB.alloc hB.size _) hG _ _
      case measure => simp [intOf]; omega
    · obtain rfl : k = 12 := by omega
      have hv : vs = namV := by
        apply Array.ext
        · rw [hvs]; rfl
        · intro i h1 h2
          have e1 := HN.out i (by omega)
          have e2 := namV_get i (by omega)
          rw [Array.getElem?_eq_getElem h1] at e1
          rw [Array.getElem?_eq_getElem h2] at e2
          exact Option.some.inj (e1.trans e2.symm)
      subst hv
      go_wp2
      go_ret
      exact ⟨G, rfl, ⟨hG, hb⟩, hB⟩
end Go.Proofs.YtpaecjjelpjopaaGreatDoor

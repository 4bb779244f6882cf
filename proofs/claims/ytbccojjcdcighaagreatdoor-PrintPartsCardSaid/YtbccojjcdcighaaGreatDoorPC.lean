/- Texts put together: Bk Ab Bl Bu. -/
import Derived.RangeFuncBox
import Derived.RangeFuncFrom
import Derived.WalkKit
import Derived.Test.YtbccojjcdcighaaGreatDoorChecked
import Derived.Test.YtbccojjcdcighaaGreatDoorPA
import Derived.WalkLawsBesides
import Derived.LoopTactic
import Derived.Lib.Hide
import Derived.Handy
import Derived.IntWalk
import Derived.Laws.Rows
import Derived.Laws.Tables
import Derived.Laws.CopyOwn
import Derived.Deep.Draws
import Derived.Shelf.Strings.BuilderK
import Derived.Test.YtbccojjcdcighaaGreatDoorProg
import Derived.Test.YtbccojjcdcighaaGreatDoorPB
namespace Go.Proofs.YtbccojjcdcighaaGreatDoor
open Go.RowKit
def Blk (W : World) (B : Nat) (vs : Array Value) (t : TypeId) : Prop := W.heap[B]? = some (.cells vs t (0, 0))
theorem Blk.lt {W : World} {B : Nat} {vs : Array Value} {t : TypeId} (h : Blk W B vs t) : B < W.heap.size := (Array.getElem?_eq_some_iff.1 h).1
theorem Blk.cell {W : World} {B : Nat} {vs : Array Value} {t : TypeId} (h : Blk W B vs t) (i : Nat) : W.cell? ⟨B, i, none⟩ = vs[i]? := by simp [World.cell?, show W.heap[B]? = _ from h]
theorem Blk.frozen {W : World} {B : Nat} {vs : Array Value} {t : TypeId} (h : Blk W B vs t) (i : Nat) : W.frozen? ⟨B, i, none⟩ = false := by simp [World.frozen?, show W.heap[B]? = _ from h]
theorem Blk.new (W : World) (vs : Array Value) (t : TypeId) : Blk (W.alloc (.cells vs t)) W.heap.size vs t := World.alloc_heap_new W _
theorem Blk.kept {W W' : World} {row : Option Nat} {B : Nat} {vs : Array Value} {t : TypeId} (h : Blk W B vs t) (hg : W.grownBy W' row) (hne : some B ≠ row) : Blk W' B vs t := (hg.block B h.lt hne).trans h
theorem Blk.alloc {W : World} {B : Nat} {vs : Array Value} {t : TypeId} (h : Blk W B vs t) (o : Obj) : Blk (W.alloc o) B vs t := h.kept (World.grownBy_alloc W o none) (by simp)
theorem Blk.drew {W : World} {B : Nat} {vs : Array Value} {t : TypeId} (h : Blk W B vs t) : Blk W.drew B vs t := h
theorem Blk.below {W W' : World} {n B : Nat} {vs : Array Value} {t : TypeId} (h : Blk W B vs t) (hb : Below n W W') (hB : B < n) : Blk W' B vs t := (hb.block B hB).trans h
theorem Blk.set {W : World} {B : Nat} {vs : Array Value} {t : TypeId} (h : Blk W B vs t) (i : Nat) (v : Value) : Blk (W.setCell ⟨B, i, none⟩ v) B (vs.setIfInBounds i v) t := by
  obtain ⟨hlt, hk⟩ := Array.getElem?_eq_some_iff.1 h
  show (W.heap.modify B _)[B]? = _
  rw [Array.getElem?_eq_getElem (by rw [Array.size_modify]; exact hlt), Array.getElem_modify_self, hk]
  rfl
theorem Blk.other {W : World} {B B' : Nat} {vs : Array Value} {t : TypeId} (h : Blk W B vs t) (hne : B ≠ B') (i : Nat) (v : Value) : Blk (W.setCell ⟨B', i, none⟩ v) B vs t :=
  (Below.heap_setCell W ⟨B', i, none⟩ v B hne).trans h
theorem Blk.not_row {W : World} {B : Nat} {vs : Array Value} {t : TypeId} (h : Blk W B vs t) {row : Option Nat} (hr : ∀ r, row = some r → ∃ o : Obj, W.heap[r]? = some o ∧ o.isCells = false) : some B ≠ row := fun e => by
  obtain ⟨o, ho, hc⟩ := hr B e.symm
  rw [show W.heap[B]? = _ from h] at ho; cases ho; cases hc
theorem Blk.not_own {W : World} {B : Nat} {vs : Array Value} {t e : TypeId} (h : Blk W B vs t) (hte : t ≠ e) {base size k : Nat} {v : Value} {xs : List Value} (hr : W.ownsRow base e size v k xs) : some B ≠ v.ownBlock := by
  rcases hr.2 with ⟨rfl, _⟩ | ⟨g, cap, cur, rfl, _, hgb, _⟩
  · simp [Value.ownBlock]
  · intro e'
    obtain rfl : B = g := by simpa [Value.ownBlock] using e'
    have := (show W.heap[B]? = _ from h).symm.trans hgb
    simp at this
    exact hte this.2
theorem Blk.putObj {W : World} {B : Nat} {vs : Array Value} {t : TypeId} (h : Blk W B vs t) {l : Nat} {o : Obj} (o' : Obj) (hl : W.heap[l]? = some o) (ho : o.isCells = false) : Blk (W.putObj l o') B vs t :=
  h.kept (grownBy_putObj' W l o') (h.not_row fun r e => by cases e; exact ⟨o, hl, ho⟩)
theorem below_set {n B : Nat} {W W' : World} (hb : Below n W W') (hB : n ≤ B) (i : Nat) (v : Value) : Below n W (W'.setCell ⟨B, i, none⟩ v) := hb.setCell (p := ⟨B, i, none⟩) hB v
end Go.Proofs.YtbccojjcdcighaaGreatDoor

namespace Go.Proofs.YtbccojjcdcighaaGreatDoor
open Go.RowKit BS
structure NdN where
  kind : Int
  kids : Int
  n : Int
  m : Int
  set : BitVec 256
@[reducible] def ndI (k c n m : Int) (t : BitVec 256) : Array Value := #[.int .i64 k, .int .i64 c, .int .i64 n, .int .i64 m, .int .u64 (wd t 0), .int .u64 (wd t 1), .int .u64 (wd t 2), .int .u64 (wd t 3)]
def ndA (x : NdN) : Array Value := ndI x.kind x.kids x.n x.m x.set
def NodesAt (l : List NdN) (a : Option Addr) (W : World) : Prop :=
  l ≠ [] → ∃ g off, a = some ⟨g, off, none⟩ ∧ g < W.heap.size ∧ ∀ i (h : i < l.length) j, j < 8 → W.cell? ⟨g, off + i * 8 + j, none⟩ = (ndA l[i])[j]?
theorem NodesAt.below {l : List NdN} {a : Option Addr} {W W' : World} (h : NodesAt l a W) (hb : Below W.heap.size W W') : NodesAt l a W' := fun hne => by
  obtain ⟨g, off, e, hg, hc⟩ := h hne
  exact ⟨g, off, e, Nat.lt_of_lt_of_le hg hb.size, fun i hi j hj => (hb.cell (p := ⟨g, off + i * 8 + j, none⟩) hg).trans (hc i hi j hj)⟩
set_option maxRecDepth 100000 in
set_option maxHeartbeats 4000000 in
theorem rFormed_calls (l : List NdN) (hl : l.length ≤ 1000000) (a : Option Addr) (cap : Nat) (w : World) (h : NodesAt l a w) :
    Calls Tryz.prog 23 #[.slice a l.length cap] w fun e w' => e = .returned (.bool (decide (manyF 0 (l.map NdN.kids) = some 1))) ∧ w = w' := by
  generalize hR : manyF 0 (l.map NdN.kids) = R
  have HR := Lib.hid hR
  have HN := Lib.hid h
  clear hR h
  go_enter Tryz.func23, Tryz.ntmps23
  go_wp2_with fail
  go_loop [3, 4] (fun vm vi => ∃ (M i : Nat), i ≤ l.length ∧ M ≤ i ∧ vm = .int .i64 M ∧ vi = .int .i64 i ∧ manyF M ((l.drop i).map NdN.kids) = R) (fun _ vi => l.length - (intOf vi).toNat)
  case atStart => exact ⟨0, 0, Nat.zero_le _, Nat.le_refl _, rfl, rfl, by rw [List.drop_zero]; exact HR.out⟩
  case round =>
    clear HR
    obtain ⟨M, i, hi, hM, rfl, rfl, hres⟩ := hrel
    by_cases hlt : i < l.length
    · have hne : l ≠ [] := by rintro rfl; simp at hlt
      obtain ⟨g, off, rfl, hg, hc⟩ := HN.out hne
      have hd : decide ((i : Int) < (l.length : Int)) = true := by rw [decide_eq_true_iff]; omega
      have hd2 : decide (i < l.length) = true := by rw [decide_eq_true_iff]; omega
      rw [List.drop_eq_getElem_cons hlt, List.map_cons, manyF] at hres
      have c1 := hc i hlt 1 (by decide)
      clear hc hne
      generalize l[i] = x at *
      obtain ⟨xk, xc, xn, xm, xs⟩ := x
      simp only [ndA, List.getElem?_toArray, List.getElem?_cons_zero, List.getElem?_cons_succ] at c1 hres
      by_cases h0 : xc < 0
      · have q0 : decide (xc < 0) = true := decide_eq_true h0
        rw [if_pos (.inl h0)] at hres
        have HRES := Lib.hid hres
        clear hres h0
        go_wp2_with fail
        go_ret
        exact ⟨by rw [← HRES.out] <;> rfl, rfl⟩
      have q0 : decide (xc < 0) = false := decide_eq_false h0
      by_cases h1 : (M : Int) < xc
      · have q1 : decide ((M : Int) < xc) = true := decide_eq_true h1
        rw [if_pos (.inr h1)] at hres
        have HRES := Lib.hid hres
        clear hres h0 h1
        go_wp2_with fail
        go_ret
        exact ⟨by rw [← HRES.out] <;> rfl, rfl⟩
      have q1 : decide ((M : Int) < xc) = false := decide_eq_false h1
      rw [if_neg (fun h => by rcases h with h | h; exact h0 h; exact h1 h)] at hres
      obtain ⟨C, rfl⟩ : ∃ C : Nat, xc = C := ⟨xc.toNat, by omega⟩
      rw [Int.toNat_natCast] at hres
      have HRES := Lib.hid hres
      have x1 : IntKind.i64.wrap ((M : Int) - (C : Int)) = (M : Int) - (C : Int) := IntWalk.i64_in _ (by omega)
      have x2 : IntKind.i64.wrap ((M : Int) - (C : Int) + 1) = (M : Int) - (C : Int) + 1 := IntWalk.i64_in _ (by omega)
      have hCM : C ≤ M := by omega
      clear hres h0 h1
      go_wp2_with fail
      go_round
      case rel => exact ⟨M - C + 1, i + 1, by omega, by omega, by congr 1; omega, by simp, HRES.out⟩
      case measure => simp [intOf]; omega
    · obtain rfl : i = l.length := by omega
      have hd : decide ((l.length : Int) < (l.length : Int)) = false := by simp
      rw [List.drop_length, List.map_nil, manyF] at hres
      have HRES := Lib.hid hres
      clear hres
      by_cases h1 : M = 1
      · subst h1
        go_wp2_with fail
        go_ret
        exact ⟨by rw [← HRES.out] <;> rfl, rfl⟩
      · have q : ((M : Int) == 1) = false := by rw [beq_eq_false_iff_ne]; omega
        have HM := Lib.hid h1
        clear h1
        go_wp2_with fail
        go_ret
        exact ⟨by rw [← HRES.out, decide_eq_false (fun h => HM.out (Option.some.inj h))] <;> rfl, rfl⟩
end Go.Proofs.YtbccojjcdcighaaGreatDoor

namespace Go.Proofs.YtbccojjcdcighaaGreatDoor
open Go.RowKit
theorem Blk.setRow {W : World} {B : Nat} {vs cs : Array Value} {t : TypeId} (h : Blk W B vs t) : Blk (W.setRow B cs) B cs t := by
  obtain ⟨hlt, hk⟩ := Array.getElem?_eq_some_iff.1 h
  show (W.heap.modify B _)[B]? = _
  rw [Array.getElem?_eq_getElem (by rw [Array.size_modify]; exact hlt), Array.getElem_modify_self, hk]
theorem run_storeAt_row {P : Program} (w : World) (g : Nat) (t ty : TypeId) (old cells : Array Value) (hg : w.heap[g]? = some (.cells old t (0, 0))) (hi : (P.info? ty).map (·.size) = some cells.size) (ho : old.size = cells.size) (h1 : cells.all (·.oneCell') = true) :
    (Instr.storeAt ty (.pointer (some ⟨g, 0, none⟩)) (.agg cells)).run P w = .ok () (w.setRow g cells) := by
  simp only [Instr.storeAt, Instr.sureAddr, Sem.run_bind, Sem.run_pure, Result.andThen]
  exact run_storeVar_row _ _ t ty old cells hg hi ho h1
theorem wp_store_row {P : Program} {o : Oper} {a : Act} {w w' : World} {K : Act → World → Prop} {Q : Exit → Act → World → Prop} {cs : Array Value} (ty : TypeId) (x y : Operand) (ho : o.op = .store ty x y)
    (g : Nat) (hx : a.eval x = .pointer (some ⟨g, 0, none⟩)) (hy : a.eval y = .agg cs) (hst : (Instr.storeAt ty (.pointer (some ⟨g, 0, none⟩)) (.agg cs)).run P w = .ok () w') (h : K (a.put o.dst undef) w') : o.wp P a w K Q := by
  unfold Oper.wp execOp
  simp only [ho, hx, hy, Sem.run_bind, Sem.run_pure, hst, Result.andThen_ok]
  exact h
theorem wpList_store_st {P : Program} {ops : Array Oper} {rest : List Oper} {o : Oper} {a : Act} {w w' : World} {Q : Exit → Act → World → Prop} {cs : Array Value} (hgd : o.guard = none) (ty : TypeId) (x y : Operand) (ho : o.op = .store ty x y)
    (g : Nat) (hx : a.eval x = .pointer (some ⟨g, 0, none⟩)) (hy : a.eval y = .agg cs) (hst : (Instr.storeAt ty (.pointer (some ⟨g, 0, none⟩)) (.agg cs)).run P w = .ok () w') (h : wpList P ops Q rest (a.put o.dst undef) w') : wpList P ops Q (o :: rest) a w :=
  wpList_plain hgd fun _ hK => wp_store_row ty x y ho g hx hy hst (hK _ _ h)
theorem below_row {n B : Nat} {W W' : World} (hb : Below n W W') (hB : n ≤ B) (cs : Array Value) : Below n W (W'.setRow B cs) := below_setRow hb hB cs
theorem Blk.newsL {W : World} {B : Nat} {vs : Array Value} {t : TypeId} (h : Blk W B vs t) : ∀ j u, vs.toList[j]? = some u → W.cell? ((⟨B, 0, none⟩ : Addr).add j) = some u := by
  intro j u hu
  have e : (⟨B, 0, none⟩ : Addr).add j = ⟨B, j, none⟩ := by
    unfold Addr.add
    by_cases h0 : j = 0
    · subst h0; rfl
    · rw [if_neg h0, Nat.zero_add]
  rw [e, h.cell j]
  simpa using hu
theorem Blk.drewN {W : World} {B : Nat} {vs : Array Value} {t : TypeId} (h : Blk W B vs t) : ∀ n, Blk (W.drewN n) B vs t
  | 0 => h
  | n + 1 => Blk.drewN (W := W.drew) h n
theorem below_drN {m : Nat} {w W : World} (h : Below m w W) (n : Nat) : Below m w (W.drewN n) := h.trans ⟨rfl, rfl, rfl, Nat.le_refl _, fun _ _ => rfl⟩
end Go.Proofs.YtbccojjcdcighaaGreatDoor

namespace Go.Proofs.YtbccojjcdcighaaGreatDoor
open Go.Shelf Go.RowKit
def renB : Go.Shelf.Ren := ⟨fun | 166 => 34 | 240 => 56 | 276 => 75 | 169 => 36 | n => n, fun | 0 => 0 | 3 => 3 | 4 => 4 | 5 => 5 | 9 => 9 | 20 => 20 | 37 => 70 | 70 => 69 | 72 => 72 | 75 => 98 | 80 => 77 | 127 => 101 | 164 => 114 | n => n, fun | n => n⟩
theorem lays166 : Go.Proofs.Lays.n166 Tryz.prog renB := {
  mixed := by kernel_rfl
  f166 := Tryz.func34.trans (congrArg some (by kernel_rfl))
  f240 := Tryz.func56.trans (congrArg some (by kernel_rfl))
  f276 := Tryz.func75.trans (congrArg some (by kernel_rfl))
  t0 := Tryz.underlying0
  a0 := Tryz.isAgg0
  z0 := Tryz.sizeOf0
  v0 := Tryz.zeroValue0
  t3 := Tryz.underlying3
  a3 := Tryz.isAgg3
  z3 := Tryz.sizeOf3
  v3 := Tryz.zeroValue3
  t4 := Tryz.underlying4
  a4 := Tryz.isAgg4
  z4 := Tryz.sizeOf4
  v4 := Tryz.zeroValue4
  t9 := Tryz.underlying9
  a9 := Tryz.isAgg9
  z9 := Tryz.sizeOf9
  v9 := Tryz.zeroValue9
  t20 := Tryz.underlying20
  a20 := Tryz.isAgg20
  z20 := Tryz.sizeOf20
  v20 := Tryz.zeroValue20
  t37 := Tryz.underlying70
  a37 := Tryz.isAgg70
  z37 := Tryz.sizeOf70
  v37 := Tryz.zeroValue70
  t70 := Tryz.underlying69
  a70 := Tryz.isAgg69
  z70 := Tryz.sizeOf69
  v70 := Tryz.zeroValue69
  t72 := Tryz.underlying72
  a72 := Tryz.isAgg72
  z72 := Tryz.sizeOf72
  v72 := Tryz.zeroValue72
  t75 := Tryz.underlying98
  a75 := Tryz.isAgg98
  z75 := Tryz.sizeOf98
  v75 := Tryz.zeroValue98
  t164 := Tryz.underlying114
  a164 := Tryz.isAgg114
  z164 := Tryz.sizeOf114
  v164 := Tryz.zeroValue114 }
theorem lays169 : Go.Proofs.Lays.n169 Tryz.prog renB := {
  mixed := by kernel_rfl
  f169 := Tryz.func36.trans (congrArg some (by kernel_rfl))
  t0 := Tryz.underlying0
  a0 := Tryz.isAgg0
  z0 := Tryz.sizeOf0
  v0 := Tryz.zeroValue0
  t3 := Tryz.underlying3
  a3 := Tryz.isAgg3
  z3 := Tryz.sizeOf3
  v3 := Tryz.zeroValue3
  t9 := Tryz.underlying9
  a9 := Tryz.isAgg9
  z9 := Tryz.sizeOf9
  v9 := Tryz.zeroValue9
  t37 := Tryz.underlying70
  a37 := Tryz.isAgg70
  z37 := Tryz.sizeOf70
  v37 := Tryz.zeroValue70
  t70 := Tryz.underlying69
  a70 := Tryz.isAgg69
  z70 := Tryz.sizeOf69
  v70 := Tryz.zeroValue69
  t72 := Tryz.underlying72
  a72 := Tryz.isAgg72
  z72 := Tryz.sizeOf72
  v72 := Tryz.zeroValue72
  t127 := Tryz.underlying101
  a127 := Tryz.isAgg101
  z127 := Tryz.sizeOf101
  v127 := Tryz.zeroValue101 }
theorem extraB : Builder.Extra Tryz.prog renB := {
  sizeBuilder := by kernel_rfl
  liesBuilder := by kernel_rfl
  t5 := Tryz.underlying5
  a5 := Tryz.isAgg5
  z5 := Tryz.sizeOf5
  v5 := Tryz.zeroValue5
  infoByte := by kernel_rfl
  cellsByte := by kernel_rfl
  sizeByte := by kernel_rfl
  neB5 := by decide }
def BuB (B b : Nat) (l : List Nat) (W : World) : Prop := Lib.IsBuilderF 72 5 B b (Lib.strCells (ofT l)) W
theorem strCells_ofT (l : List Nat) : (Lib.strCells (ofT l)).length = l.length := by rw [Lib.strCells_length, size_ofT]
theorem strCells_app (l t : List Nat) : Lib.strCells (ofT l) ++ Lib.strCells (ofT t) = Lib.strCells (ofT (l ++ t)) := by
  simp [Lib.strCells, ofT]
theorem BuB.new (W : World) (b : Nat) (B : Nat) (hB : B ≤ b) (h : Blk W b #[.pointer none, .slice none 0 0] 72) : BuB B b [] W :=
  .inl ⟨hB, .slice none 0 0, h, World.ownsRowF_of (World.ownsRow_nil _ _ _ _), by simp [Value.ownBlock]⟩
theorem BuB.below {B b : Nat} {l : List Nat} {W W' : World} (h : BuB B b l W) (hb : Below W.heap.size W W') : BuB B b l W' := by
  have go : ∀ p, Lib.BuilderAtF 72 5 B b p (Lib.strCells (ofT l)) W → Lib.BuilderAtF 72 5 B b p (Lib.strCells (ofT l)) W' := fun p h => by
    have hlt : b < W.heap.size := by
      obtain ⟨_, v, hv, _⟩ := h
      rcases Nat.lt_or_ge b W.heap.size with h' | h'
      · exact h'
      · simp [Array.getElem?_eq_none h'] at hv
    obtain ⟨hB, v, hv, hown, hne⟩ := h
    exact ⟨hB, v, (hb.block b hlt).trans hv, hown.kept (row := none) ⟨hb.os, hb.tape, hb.output, hb.size, fun k hk _ => hb.block k hk⟩ (Classical.em _), hne⟩
  exact h.elim (fun x => .inl (go _ x)) (fun x => .inr (go _ x))
theorem put_calls (B b : Nat) (l t : List Nat) (w : World) (h : BuB B b l w) (hlen : l.length + t.length ≤ 140737488355328) (hBw : B ≤ w.heap.size) :
    Calls Tryz.prog 34 #[.pointer (some ⟨b, 0, none⟩), .string (ofT t)] w fun e w' => e = .returned (.tuple #[.int .i64 t.length, .nilIface]) ∧ BuB B b (l ++ t) w' ∧ Below B w w' ∧ Lib.OthersKept 5 (some b) w w' := by
  refine (Any.Builder_WriteString_k lays166 extraB B b (Lib.strCells (ofT l)) (ofT t) w h (by rw [strCells_ofT, size_ofT]; exact hlen) hBw).mono ?_
  rintro e w' ⟨rfl, h1, h2, h3⟩
  refine ⟨by rw [size_ofT], ?_, h2, h3⟩
  rw [strCells_app] at h1
  exact .inr h1
theorem str_calls (B b : Nat) (l : List Nat) (w : World) (h : BuB B b l w) (hBw : B ≤ w.heap.size) :
    Calls Tryz.prog 36 #[.pointer (some ⟨b, 0, none⟩)] w fun e w' => e = .returned (.string (ofT l)) ∧ Below B w w' := by
  refine (Any.Builder_String_any_k lays169 extraB B b (ofT l).data.toList w h hBw).mono ?_
  rintro e w' ⟨rfl, h1, h2, h3⟩
  exact ⟨by rw [Array.toArray_toList], h2⟩
end Go.Proofs.YtbccojjcdcighaaGreatDoor

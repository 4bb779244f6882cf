/- Texts put together: Oe. -/
import Derived.Test.YtooolhekihijlaaQP
import Derived.RegionTactic
import Derived.BigRegion
import Derived.Laws.MakeOwn
/- The developers' terms: termOf. Stage 10. -/
namespace Go.Proofs.Ytooolhekihijlaa
open Go.RowKit BS

theorem infoMkF : (Try.prog.info? 94).map (fun i => (i.zero, i.size, i.bytes)) = some (some (.agg (mkV fun _ => false)), 10, 10) := by kernel_rfl
def gsZ (n : Nat) : Array Value := madeCells (mkV fun _ => false) (n * 10)
theorem gsZ_size (n : Nat) : (gsZ n).size = n * 10 := size_madeCells _ _
theorem gsZ_get (n k : Nat) (h : k < n * 10) : (gsZ n)[k]? = some (.bool false) := by
  have h2 : k % 10 < 10 := Nat.mod_lt _ (by decide)
  have e : (mkV fun _ => false)[k % 10]! = .bool false := by
    rw [getElem!_def, mkV_get _ _ h2]
  unfold gsZ madeCells
  rw [Array.getElem?_map, Array.getElem?_range, if_pos h]
  show some ((mkV fun _ => false)[k % 10]!) = _
  rw [e]
theorem makeMk (n : Nat) (hn : n ≤ 1000) (W : World) : (Instr.makeSlice 76 (.int .i64 (n : Int)) (.int .i64 (n : Int))).run Try.prog W = .ok (.slice (some ⟨W.heap.size, 0, none⟩) n n) (W.alloc (.cells (gsZ n) 94)) := by
  obtain ⟨i, hi, hzz⟩ := Option.map_eq_some_iff.1 infoMkF
  simp only [Prod.mk.injEq] at hzz
  obtain ⟨hz, hs, hb⟩ := hzz
  have := run_make (P := Try.prog) W 76 94 i _ Try.underlying76 hi hz .i64 .i64 n n (by omega) (by omega) (by rw [hb]; omega) (by omega)
  rw [hs, Int.toNat_natCast] at this
  exact this
theorem intZ_get (n k : Nat) (h : k < n) : (madeCells #[Value.int .i64 0] n)[k]? = some (.int .i64 ((0 : Nat) : Int)) := by
  unfold madeCells
  rw [Array.getElem?_map, Array.getElem?_range, if_pos h]
  show some (#[Value.int .i64 0][k % 1]!) = _
  rw [Nat.mod_one]
  rfl
/-! ### What the developers ask of a node is what the document asks -/
theorem anyG_split (l : List NdN) (lo n k : Nat) (h : lo ≤ k) : ∀ i, k ≤ i → i ≤ l.length → anyG l lo n i = (anyG l lo n k || anyG l k n i)
  | 0, h1, _ => by
    have : k = 0 := by omega
    subst this
    rw [show anyG l 0 n 0 = false from anyG_lo l 0 n, Bool.or_false]
  | i + 1, h1, h2 => by
    by_cases hk : k = i + 1
    · subst hk
      rw [anyG_lo, Bool.or_false]
    · rw [anyG_step l lo n i (by omega) (by omega), anyG_step l k n i (by omega) (by omega), anyG_split l lo n k h i (by omega) (by omega), Bool.or_assoc]
def mkG (l : List NdN) (x m : Nat) : Bool := anyG l (lowV l x) m (x + 1)
theorem loT_le (l : List NdN) (i : Nat) : loT l i ≤ i := by
  unfold loT
  split
  · exact Nat.le_refl _
  · have h1 := lowV_le l (atT l i).toNat
    have h2 : atT l i ≤ (i : Int) := by
      unfold atT
      split
      · have := lowV_le l (i - 1); omega
      · omega
    omega
theorem dev_parts (l : List NdN) (i : Nat) (hi : i < l.length) (hst : stB (lowV l) i l[i].kind l[i].kids l[i].n = true) :
    ∃ ps : List Nat, pK l[i].kids l[i].n 2 = ps.map (fun p : Nat => (p : Int)) ∧ (∀ p ∈ ps, p < i) ∧ loF (lowV l) i ps = loT l i ∧ ∀ m, mkF (mkG l) ps m = anyG l (loT l i) m i := by
  unfold loT atT
  rw [pcT_get l i hi]
  generalize l[i].kind = k at *
  generalize l[i].kids = c at *
  generalize l[i].n = n at *
  unfold stB at hst
  by_cases c12 : k = 1 ∨ k = 2
  · rw [if_pos c12, Bool.and_eq_true, beq_iff_eq, beq_iff_eq] at hst
    obtain ⟨rfl, rfl⟩ := hst
    refine ⟨[], rfl, fun p hp => by simp at hp, ?_, fun m => ?_⟩
    · rcases c12 with rfl | rfl <;> rfl
    · have : (if pcT k = 0 then i else lowV l (if pcT k = 2 then (lowV l (i - 1) : Int) - 1 else (i : Int) - 1).toNat) = i := by rcases c12 with rfl | rfl <;> rfl
      rw [this, anyG_lo]; rfl
  rw [if_neg c12] at hst
  by_cases c58 : k = 5 ∨ k = 6 ∨ k = 7 ∨ k = 8
  · rw [if_pos c58, Bool.and_eq_true, Bool.and_eq_true, beq_iff_eq, beq_iff_eq, decide_eq_true_iff] at hst
    obtain ⟨h0, rfl, rfl⟩ := hst
    have e : (if pcT k = 0 then i else lowV l (if pcT k = 2 then (lowV l (i - 1) : Int) - 1 else (i : Int) - 1).toNat) = lowV l (i - 1) := by
      have : ((i : Int) - 1).toNat = i - 1 := by omega
      rcases c58 with rfl | rfl | rfl | rfl <;> exact congrArg (lowV l) this
    rw [e]
    have hle := lowV_le l (i - 1)
    refine ⟨[i - 1], ?_, fun p hp => by rw [List.mem_singleton] at hp; omega, ?_, fun m => ?_⟩
    · unfold pK
      show (if (i : Int) - 1 = -1 then [] else [(i : Int) - 1]) ++ _ = _
      rw [if_neg (by omega), if_pos rfl, List.append_nil, List.map_cons, List.map_nil]
      congr 1
      omega
    · show min i (lowV l (i - 1)) = _
      omega
    · show (mkG l (i - 1) m || false) = _
      rw [Bool.or_false]
      unfold mkG
      rw [Nat.sub_add_cancel h0]
  rw [if_neg c58] at hst
  by_cases c34 : k = 3 ∨ k = 4
  · rw [if_pos c34, Bool.and_eq_true, Bool.and_eq_true, Bool.and_eq_true, beq_iff_eq, beq_iff_eq, decide_eq_true_iff, decide_eq_true_iff] at hst
    obtain ⟨h0, h1, rfl, rfl⟩ := hst
    have e : (if pcT k = 0 then i else lowV l (if pcT k = 2 then (lowV l (i - 1) : Int) - 1 else (i : Int) - 1).toNat) = lowV l (lowV l (i - 1) - 1) := by
      have : ((lowV l (i - 1) : Int) - 1).toNat = lowV l (i - 1) - 1 := by omega
      rcases c34 with rfl | rfl <;> exact congrArg (lowV l) this
    rw [e]
    have hle := lowV_le l (i - 1)
    have hle2 := lowV_le l (lowV l (i - 1) - 1)
    refine ⟨[lowV l (i - 1) - 1, i - 1], ?_, fun p hp => by simp at hp; omega, ?_, fun m => ?_⟩
    · unfold pK
      show (if (lowV l (i - 1) : Int) - 1 = -1 then [] else [(lowV l (i - 1) : Int) - 1]) ++ (if (i : Int) - 1 = -1 then [] else [(i : Int) - 1]) = _
      rw [if_neg (by omega), if_neg (by omega)]
      show [_, _] = [((lowV l (i - 1) - 1 : Nat) : Int), ((i - 1 : Nat) : Int)]
      rw [show ((lowV l (i - 1) - 1 : Nat) : Int) = (lowV l (i - 1) : Int) - 1 by omega, show ((i - 1 : Nat) : Int) = (i : Int) - 1 by omega]
    · show min (min i (lowV l (lowV l (i - 1) - 1))) (lowV l (i - 1)) = _
      omega
    · show (mkG l (lowV l (i - 1) - 1) m || (mkG l (i - 1) m || false)) = _
      rw [Bool.or_false]
      unfold mkG
      rw [Nat.sub_add_cancel h0, Nat.sub_add_cancel h1]
      exact (anyG_split l _ m (lowV l (i - 1)) (by omega) i (by omega) (by omega)).symm
  · rw [if_neg c34] at hst; cases hst
theorem dev_fine (l : List NdN) (i : Nat) (s : List Nat) (h : trT l i = some s) (hi : i < l.length) :
    fineT l s i l[i] = true ↔ namB l[i].kind l[i].m l[i].set = true ∧ stB (lowV l) i l[i].kind l[i].kids l[i].n = true ∧ noT l l[i] (loT l i) i = true := by
  rw [fine_go l i s h hi, kindT_two]
  unfold atT
  rw [pcT_get l i hi]
  generalize noT l l[i] (loT l i) i = z
  generalize l[i] = x
  obtain ⟨k, c, n, m, t⟩ := x
  simp only
  have hse : ∀ lo, lowV l (i - 1) = lo → (stB (fun _ => lo) i k c n = stB (lowV l) i k c n) := fun lo hlo => by unfold stB; rw [hlo]
  have hse2 := hse _ rfl
  generalize lowV l (i - 1) = lo at *
  clear hse
  have hnm : namB k m t = true ↔ (k = 2 ∨ t = 0) ∧ (k = 7 → 1 ≤ m ∧ m ≤ 9) ∧ (k = 7 ∨ m = 0) := by
    unfold namB
    rw [Bool.and_eq_true, Bool.or_eq_true, beq_iff_eq, decide_eq_true_iff]
    by_cases h7 : k = 7
    · rw [if_pos h7, Bool.and_eq_true, decide_eq_true_iff, decide_eq_true_iff]
      exact ⟨fun ⟨a, b⟩ => ⟨a, fun _ => b, .inl h7⟩, fun ⟨a, b, _⟩ => ⟨a, b h7⟩⟩
    · rw [if_neg h7, beq_iff_eq]
      exact ⟨fun ⟨a, b⟩ => ⟨a, fun h => absurd h h7, .inr b⟩, fun ⟨a, _, b⟩ => ⟨a, b.resolve_left h7⟩⟩
  rw [hnm]
  unfold kindA
  have hss : (1 ≤ k ∧ k ≤ 8) ∧ (pcT k = 0 → c = -1) ∧ (pcT k ≠ 2 → n = -1) ∧ (pcT k = 2 → 0 < i ∧ n = (i : Int) - 1) ∧ (pcT k ≠ 0 → 0 ≤ (if pcT k = 2 then (lo : Int) - 1 else (i : Int) - 1) ∧ c = (if pcT k = 2 then (lo : Int) - 1 else (i : Int) - 1)) ↔ stB (fun _ => lo) i k c n = true := by
    show _ ↔ (if k = 1 ∨ k = 2 then (c == -1) && (n == -1) else if k = 5 ∨ k = 6 ∨ k = 7 ∨ k = 8 then decide (0 < i) && ((c == (i : Int) - 1) && (n == -1)) else if k = 3 ∨ k = 4 then decide (0 < i) && (decide (0 < lo) && ((n == (i : Int) - 1) && (c == (lo : Int) - 1))) else false) = true
    by_cases c12 : k = 1 ∨ k = 2
    · have e : pcT k = 0 := by rcases c12 with rfl | rfl <;> rfl
      rw [if_pos c12, e, Bool.and_eq_true, beq_iff_eq, beq_iff_eq]
      constructor
      · rintro ⟨_, h1, h2, _⟩; exact ⟨h1 rfl, h2 (by decide)⟩
      · rintro ⟨h1, h2⟩; exact ⟨by omega, fun _ => h1, fun _ => h2, fun h => by omega, fun h => absurd rfl h⟩
    rw [if_neg c12]
    by_cases c58 : k = 5 ∨ k = 6 ∨ k = 7 ∨ k = 8
    · have e : pcT k = 1 := by rcases c58 with rfl | rfl | rfl | rfl <;> rfl
      rw [if_pos c58, e, Bool.and_eq_true, Bool.and_eq_true, beq_iff_eq, beq_iff_eq, decide_eq_true_iff, if_neg (by decide)]
      constructor
      · rintro ⟨_, _, h2, _, h4⟩
        obtain ⟨h5, h6⟩ := h4 (by decide)
        exact ⟨by omega, h6, h2 (by decide)⟩
      · rintro ⟨h1, h2, h3⟩
        exact ⟨by omega, fun h => by omega, fun _ => h3, fun h => by omega, fun _ => ⟨by omega, h2⟩⟩
    rw [if_neg c58]
    by_cases c34 : k = 3 ∨ k = 4
    · have e : pcT k = 2 := by rcases c34 with rfl | rfl <;> rfl
      rw [if_pos c34, e, Bool.and_eq_true, Bool.and_eq_true, Bool.and_eq_true, beq_iff_eq, beq_iff_eq, decide_eq_true_iff, decide_eq_true_iff, if_pos rfl]
      constructor
      · rintro ⟨_, _, _, h3, h4⟩
        obtain ⟨h5, h6⟩ := h4 (by decide)
        obtain ⟨h7, h8⟩ := h3 rfl
        exact ⟨h7, by omega, h8, h6⟩
      · rintro ⟨h1, h2, h3, h4⟩
        exact ⟨by omega, fun h => by omega, fun h => absurd rfl h, fun _ => ⟨h1, h3⟩, fun _ => ⟨by omega, h4⟩⟩
    · rw [if_neg c34]
      constructor
      · rintro ⟨⟨h1, h2⟩, _⟩; exact absurd (show k = 3 ∨ k = 4 by omega) c34
      · intro h; cases h
  rw [← hse2, ← hss]
  constructor
  · rintro ⟨⟨⟨a1, a2, a3, a4, a5⟩, b1, b2⟩, b3, b4, b5⟩
    exact ⟨⟨a3, a5, a4⟩, ⟨⟨a1, a2⟩, b1, b2, b3, b4⟩, b5⟩
  · rintro ⟨⟨a3, a5, a4⟩, ⟨⟨a1, a2⟩, b1, b2, b3, b4⟩, b5⟩
    exact ⟨⟨⟨a1, a2, a3, a4, a5⟩, b1, b2⟩, b3, b4, b5⟩
/-- A node's number is new, if no Group ahead in it has it. -/
theorem noT_new (l : List NdN) (x : NdN) (lo i : Nat) (hi : i ≤ l.length) (h7 : x.kind = 7) (K : Nat) (hK : x.m = K) : noT l x lo i = !anyG l lo K i := by
  unfold noT anyG
  rw [Bool.eq_iff_iff, decide_eq_true_iff, Bool.not_eq_true', ← Bool.not_eq_true, List.any_eq_true]
  constructor
  · rintro h ⟨j, hj, hj2⟩
    rw [Bool.and_eq_true, decide_eq_true_iff] at hj2
    obtain ⟨h1, h2⟩ := hj2
    have hj3 := List.mem_range.1 hj
    rw [List.getElem?_eq_getElem (by omega)] at h2
    have h3 := of_decide_eq_true h2
    exact h h7 j hj3 h1 _ (List.getElem?_eq_getElem (by omega)) ⟨h3.1, by rw [hK]; exact h3.2⟩
  · intro h _ j hj hlo y hy hy2
    refine h ⟨j, List.mem_range.2 hj, ?_⟩
    rw [hy, Bool.and_eq_true, decide_eq_true_iff]
    exact ⟨hlo, decide_eq_true ⟨hy2.1, by rw [hy2.2, hK]⟩⟩

/-! ### By walks -/
theorem infoTm : (Try.prog.info? 78).map (·.size) = some 3 := by kernel_rfl
theorem results_tm (tmps : Array Value) (w : World) (R : Nat) (cs : Array Value) (hb : Blk w R cs 78) {b : Value} (hp : tmps.getD 2 undef = .pointer (some ⟨R, 0, none⟩)) (hs : cs.size = 3) (hq : tmps.getD 3 undef = b := by rfl) :
    (results Try.f44 tmps).run Try.prog w = .ok (.tuple #[.agg cs, b]) w := by
  rw [results_cell_tmp Try.results44]
  rw [hp, hq]
  have h1 := run_loadVar_row (P := Try.prog) w R 78 78 cs (0, 0) _ hb Try.underlying78 rfl (by rw [hs]; exact infoTm)
  simp [asAddr, h1]
theorem alloc3 (w1 : World) (c1 c2 c3 : Array Value) (t1 t2 t3 : TypeId) (W : World) (hW : W = (((w1.alloc (.cells c1 t1)).alloc (.cells c2 t2)).alloc (.cells c3 t3)).drew) :
    Blk W w1.heap.size c1 t1 ∧ Blk W (w1.heap.size + 1) c2 t2 ∧ Blk W (w1.heap.size + 1 + 1) c3 t3 ∧ Below w1.heap.size w1 W := by
  subst hW
  have b1 := ((Blk.new w1 c1 t1).alloc (.cells c2 t2)).alloc (.cells c3 t3)
  have b2 := (Blk.new (w1.alloc (.cells c1 t1)) c2 t2).alloc (.cells c3 t3)
  have b3 := Blk.new ((w1.alloc (.cells c1 t1)).alloc (.cells c2 t2)) c3 t3
  rw [World.size_alloc] at b2
  rw [World.size_alloc, World.size_alloc] at b3
  refine ⟨b1, b2, b3, ?_⟩
  have hb : Below w1.heap.size w1 (((w1.alloc (.cells c1 t1)).alloc (.cells c2 t2)).alloc (.cells c3 t3)) := by go_grown
  exact ⟨hb.os, hb.tape, hb.output, hb.size, hb.block⟩
def vI (l : List NdN) (i x : Nat) : Nat := if x < i then lowV l x else 0
def mI (l : List NdN) (i x m : Nat) : Bool := if x < i then mkG l x m else false
theorem loF_congr (V V' : Nat → Nat) (i : Nat) (ps : List Nat) (h : ∀ p ∈ ps, V p = V' p) : loF V i ps = loF V' i ps := by
  unfold loF
  have : ∀ (ps : List Nat) (a : Nat), (∀ p ∈ ps, V p = V' p) → ps.foldl (fun a p => min a (V p)) a = ps.foldl (fun a p => min a (V' p)) a := fun ps => by
    induction ps with
    | nil => intro a _; rfl
    | cons p ps ih =>
      intro a hp
      rw [List.foldl_cons, List.foldl_cons, hp p (List.mem_cons_self ..)]
      exact ih _ fun q hq => hp q (List.mem_cons_of_mem _ hq)
  exact this ps i h
theorem mkF_congr (M M' : Nat → Nat → Bool) (ps : List Nat) (h : ∀ p ∈ ps, M p = M' p) : mkF M ps = mkF M' ps := by
  funext m
  unfold mkF
  induction ps with
  | nil => rfl
  | cons p ps ih => rw [List.any_cons, List.any_cons, h p (List.mem_cons_self ..), ih fun q hq => h q (List.mem_cons_of_mem _ hq)]
/-- What learn tells of node i is what the document says of it. -/
theorem dev_step (l : List NdN) (i : Nat) (s : List Nat) (h : trT l i = some s) (hi : i < l.length) (hf : fineT l s i l[i] = true) (ps : List Nat) (hpi : ∀ p ∈ ps, p < i) (h1 : loF (lowV l) i ps = loT l i) (h2 : ∀ m, mkF (mkG l) ps m = anyG l (loT l i) m i) (K : Nat) (hm : l[i].kind = 7 → l[i].m = K) :
    (∀ x, upV (vI l i) i (loF (vI l i) i ps) x = vI l (i + 1) x) ∧ ∀ x m, upM (mI l i) i (lnM l[i].kind (mkF (mI l i) ps) K) x m = mI l (i + 1) x m := by
  have e1 : loF (vI l i) i ps = loF (lowV l) i ps := loF_congr _ _ _ _ fun p hp => if_pos (hpi p hp)
  have e2 : mkF (mI l i) ps = mkF (mkG l) ps := mkF_congr _ _ _ fun p hp => by funext m; exact if_pos (hpi p hp)
  have hlo := lowV_lo l i s h hi hf
  rw [e1, e2, h1, ← hlo]
  constructor
  · intro x
    unfold upV vI
    by_cases hx : x = i
    · rw [if_pos hx, if_pos (by omega), hx]
    · rw [if_neg hx]
      by_cases hx2 : x < i
      · rw [if_pos hx2, if_pos (by omega)]
      · rw [if_neg hx2, if_neg (by omega)]
  · intro x m
    unfold upM mI
    by_cases hx : x = i
    · rw [if_pos hx, if_pos (by omega), hx]
      unfold lnM
      show _ = anyG l (lowV l i) m (i + 1)
      rw [anyG_step l _ m i (lowV_le l i) hi, h2 m, ← hlo]
      by_cases h7 : l[i].kind = 7
      · have h7b : (l[i].kind == 7) = true := by rw [h7]; rfl
        rw [h7b, Bool.true_and, hm h7]
        by_cases hmk : m = K
        · rw [if_pos ⟨h7, hmk⟩, hmk, show ((K : Int) == (K : Int)) = true from by simp, Bool.or_true]
        · rw [if_neg (fun h => hmk h.2), show ((K : Int) == (m : Int)) = false from by rw [beq_eq_false_iff_ne]; omega, Bool.or_false]
      · have h7b : (l[i].kind == 7) = false := by rw [beq_eq_false_iff_ne]; exact h7
        rw [if_neg (fun h => h7 h.1), h7b, Bool.false_and, Bool.or_false]
    · rw [if_neg hx]
      by_cases hx2 : x < i
      · rw [if_pos hx2, if_pos (by omega)]
      · rw [if_neg hx2, if_neg (by omega)]

set_option maxRecDepth 100000 in
set_option maxHeartbeats 32000000 in
theorem termOf_calls (l : List NdN) (hl : l.length ≤ 1000) (a : Option Addr) (cap : Nat) (w : World) (h : NodesAt l a w) :
    Calls Try.prog 44 #[.slice a l.length cap] w fun e w' => Below w.heap.size w w' ∧ ((rightT l = false ∧ ∃ a' n' c' L G, e = .returned (.tuple #[.agg (tmC a' n' c' L G), .bool false])) ∨
      (rightT l = true ∧ ∃ L G, e = .returned (.tuple #[.agg (tmC a l.length cap (some ⟨L, 0, none⟩) (some ⟨G, 0, none⟩)), .bool true]) ∧ w.heap.size ≤ L ∧ w.heap.size ≤ G ∧ L < w'.heap.size ∧ G < w'.heap.size ∧ TmS l.length L G (vI l l.length) (mI l l.length) w')) := by
  have hmk := fun W => run_make_row' (P := Try.prog) 35 3 (.int .i64 0) 8 Try.underlying35 (by kernel_rfl) rfl .i64 .i64 l.length (by omega) (by omega) W
  have hmz : (madeCells #[Value.int .i64 0] l.length).size = l.length := by simp [madeCells]
  have hmg := intZ_get l.length
  have hmk2 := makeMk l.length hl
  have hgz := gsZ_size l.length
  have hgg := gsZ_get l.length
  generalize madeCells #[Value.int .i64 0] l.length = vs0 at *
  generalize gsZ l.length = gs0 at *
  have HMG := Lib.hid hmg
  have HGG := Lib.hid hgg
  have HN := Lib.hid h
  clear hmg hgg h
  have hB0 : Below w.heap.size w (w.alloc (.cells #[.slice none 0 0, .slice none 0 0, .slice none 0 0] 78)) := by go_grown
  have hR := Blk.new w #[.slice none 0 0, .slice none 0 0, .slice none 0 0] 78
  have hz1 : (w.alloc (.cells #[.slice none 0 0, .slice none 0 0, .slice none 0 0] 78)).heap.size = w.heap.size + 1 := World.size_alloc ..
  by_cases h1 : l.length < 1 ∨ 400 < l.length
  · have HF := Lib.hid (show rightT l = false from by
      refine decide_eq_false fun h => ?_
      rcases h1 with h1 | h1
      · have : l.length = 0 := by omega
        rw [this, trT] at h; cases h.1
      · omega)
    clear hmk hmk2
    rcases h1 with h1 | h1
    · have hd1 : decide (l.length < 1) = true := decide_eq_true h1
      have hd3 : decide ((l.length : Int) < 1) = true := by rw [decide_eq_true_iff]; omega
      go_enter Try.func44, Try.ntmps44
      go_upto_region 2 with fail
      have HR := Lib.hid hR
      have HBW := Lib.hid hB0
      clear hR hB0 hz1
      generalize w.alloc (.cells #[.slice none 0 0, .slice none 0 0, .slice none 0 0] 78) = w1 at *
      have r0 := HR.out.cell 0; have r1 := HR.out.cell 1; have r2 := HR.out.cell 2
      have s0 := HR.out.frozen 0; have s1 := HR.out.frozen 1; have s2 := HR.out.frozen 2
      simp only [List.getElem?_toArray, List.getElem?_cons_zero, List.getElem?_cons_succ] at r0 r1 r2
      have HR2 := Lib.hid (((HR.out.set 0 (.slice none 0 0)).set 1 (.slice none 0 0)).set 2 (.slice none 0 0))
      have HB2 := Lib.hid (below_set (below_set (below_set HBW.out (Nat.le_refl _) 0 (.slice none 0 0)) (Nat.le_refl _) 1 (.slice none 0 0)) (Nat.le_refl _) 2 (.slice none 0 0))
      clear HR HBW
      go_wp2_with fail
      exact bodyPost_ret (v := .tuple #[.agg (tmC none 0 0 none none), .bool false]) (results_tm _ _ w.heap.size (tmC none 0 0 none none) HR2.out rfl rfl) rfl ⟨HB2.out, .inl ⟨HF.out, none, 0, 0, none, none, rfl⟩⟩
    · have hd1 : decide (l.length < 1) = false := by rw [decide_eq_false_iff_not]; omega
      have hd3 : decide ((l.length : Int) < 1) = false := by rw [decide_eq_false_iff_not]; omega
      have hd2 : decide (400 < l.length) = true := decide_eq_true h1
      have hd4 : decide (400 < (l.length : Int)) = true := by rw [decide_eq_true_iff]; omega
      go_enter Try.func44, Try.ntmps44
      go_upto_region 2 with fail
      have HR := Lib.hid hR
      have HBW := Lib.hid hB0
      clear hR hB0 hz1
      generalize w.alloc (.cells #[.slice none 0 0, .slice none 0 0, .slice none 0 0] 78) = w1 at *
      have r0 := HR.out.cell 0; have r1 := HR.out.cell 1; have r2 := HR.out.cell 2
      have s0 := HR.out.frozen 0; have s1 := HR.out.frozen 1; have s2 := HR.out.frozen 2
      simp only [List.getElem?_toArray, List.getElem?_cons_zero, List.getElem?_cons_succ] at r0 r1 r2
      have HR2 := Lib.hid (((HR.out.set 0 (.slice none 0 0)).set 1 (.slice none 0 0)).set 2 (.slice none 0 0))
      have HB2 := Lib.hid (below_set (below_set (below_set HBW.out (Nat.le_refl _) 0 (.slice none 0 0)) (Nat.le_refl _) 1 (.slice none 0 0)) (Nat.le_refl _) 2 (.slice none 0 0))
      clear HR HBW
      go_wp2_with fail
      exact bodyPost_ret (v := .tuple #[.agg (tmC none 0 0 none none), .bool false]) (results_tm _ _ w.heap.size (tmC none 0 0 none none) HR2.out rfl rfl) rfl ⟨HB2.out, .inl ⟨HF.out, none, 0, 0, none, none, rfl⟩⟩
  have hd1 : decide (l.length < 1) = false := by rw [decide_eq_false_iff_not]; omega
  have hd2 : decide (400 < l.length) = false := by rw [decide_eq_false_iff_not]; omega
  have hd3 : decide ((l.length : Int) < 1) = false := by rw [decide_eq_false_iff_not]; omega
  have hd4 : decide (400 < (l.length : Int)) = false := by rw [decide_eq_false_iff_not]; omega
  go_enter Try.func44, Try.ntmps44
  go_upto_region 3 with fail
  generalize w.alloc (.cells #[.slice none 0 0, .slice none 0 0, .slice none 0 0] 78) = w1 at *
  have HZ1 := Lib.hid hz1
  clear hz1
  go_cut [4] from 17 to 24 (fun v wx => ∃ T L G : Nat, v = .pointer (some ⟨T, 0, none⟩) ∧ w1.heap.size ≤ T ∧ w1.heap.size ≤ L ∧ w1.heap.size ≤ G ∧ T ≠ L ∧ T ≠ G ∧ L ≠ G ∧ Blk wx T (tmC a l.length cap (some ⟨L, 0, none⟩) (some ⟨G, 0, none⟩)) 78 ∧ Blk wx L vs0 3 ∧ Blk wx G gs0 94 ∧ Below w1.heap.size w1 wx)
  case first =>
    go_region
    all_goals
      go_wp2_with fail
      go_meet
      obtain ⟨b1, b2, b3, b4⟩ := alloc3 w1 _ _ _ _ _ _ _ rfl
      first
        | exact ⟨_, _, _, rfl, by omega, by omega, by omega, by omega, by omega, by omega, b1, b2, b3, b4⟩
        | exact ⟨_, _, _, rfl, by omega, by omega, by omega, by omega, by omega, by omega, b1, b3, b2, b4⟩
        | exact ⟨_, _, _, rfl, by omega, by omega, by omega, by omega, by omega, by omega, b2, b1, b3, b4⟩
        | exact ⟨_, _, _, rfl, by omega, by omega, by omega, by omega, by omega, by omega, b2, b3, b1, b4⟩
        | exact ⟨_, _, _, rfl, by omega, by omega, by omega, by omega, by omega, by omega, b3, b1, b2, b4⟩
        | exact ⟨_, _, _, rfl, by omega, by omega, by omega, by omega, by omega, by omega, b3, b2, b1, b4⟩
  case rest =>
  obtain ⟨T, L, G, rfl, hT1, hL1, hG1, hTL, hTG, hLG, hT, hLb, hGb, hB1⟩ := hcut
  have HBc := Lib.hid (hB0.trans (hB1.mono (by have := HZ1.out; omega)))
  have HRc := Lib.hid (hR.below hB1 (by have := HZ1.out; omega))
  have HTc := Lib.hid hT
  have HTS := Lib.hid (show TmS l.length L G (vI l 0) (mI l 0) wc from ⟨vs0, gs0, hmz, fun x hx => HMG.out x hx, hLb, hgz, fun x m hx hm => HGG.out (x * 10 + m) (by omega), hGb⟩)
  have hTz := hT.lt; have hLz := hLb.lt; have hGz := hGb.lt
  have hwT : w.heap.size < T := by have := HZ1.out; omega
  have hwL : w.heap.size < L := by have := HZ1.out; omega
  have hwG : w.heap.size < G := by have := HZ1.out; omega
  clear hmk hmk2 hmz hgz HMG HGG hR hB0 hT hLb hGb hB1 HZ1 hT1 hL1 hG1
  go_upto_region 6 with fail
  go_loopw [5, 27] (fun vf vi wr => ∃ i : Nat, i ≤ l.length ∧ vi = .int .i64 i ∧ vf = .int .i64 (lfT (l.take i) : Nat) ∧ (∃ s, trT l i = some s) ∧ TmS l.length L G (vI l i) (mI l i) wr ∧ KpA (fun k => k = L ∨ k = G) wc wr) (fun _ vi _ => l.length - (intOf vi).toNat)
  case atStart => exact ⟨0, Nat.zero_le _, rfl, rfl, ⟨[], rfl⟩, HTS.out, KpA.refl _ _⟩
  case round =>
    clear HTS
    obtain ⟨i, hi, rfl, rfl, ⟨s, hs⟩, hS, hKp⟩ := hrel
    by_cases hlt : i < l.length
    · have hii : (i : Int) < (l.length : Int) := by omega
      have hd : decide (i < l.length) = true := by rw [decide_eq_true_iff]; omega
      have hdI : decide ((i : Int) < (l.length : Int)) = true := by rw [decide_eq_true_iff]; omega
      have xi : IntKind.i64.wrap ((i : Int) + 1) = (i : Int) + 1 := IntWalk.i64_in _ (by omega)
      have hne : l ≠ [] := by rintro rfl; simp at hlt
      have hNw : NodesAt l a wr := HN.out.below (HBc.out.trans (hKp.toBelow (n := w.heap.size) HBc.out.size (by rintro k (h | h) <;> omega)))
      obtain ⟨g, off, rfl, hg, hc⟩ := hNw hne
      have d0 := hc i hlt 0 (by decide); have d1 := hc i hlt 1 (by decide); have d2 := hc i hlt 2 (by decide); have d3 := hc i hlt 3 (by decide); have d4 := hc i hlt 4 (by decide); have d5 := hc i hlt 5 (by decide); have d6 := hc i hlt 6 (by decide); have d7 := hc i hlt 7 (by decide)
      simp only [ndA, List.getElem?_toArray, List.getElem?_cons_zero, List.getElem?_cons_succ, Nat.add_zero] at d0 d1 d2 d3 d4 d5 d6 d7
      have hfine := dev_fine l i s hs hlt
      have hbad := right_bad l i s hs hlt
      have HNW := Lib.hid hNw
      have HST := Lib.hid (fun W (hW : NodesAt l (some ⟨g, off, none⟩) W) h1 h2 => stands_calls l hl i hlt (some ⟨g, off, none⟩) cap L (some ⟨G, 0, none⟩) (lowV l) (by have := lowV_le l (i - 1); omega) W hW h1 h2)
      have HLE := Lib.hid (fun ps h1 h2 K h3 h4 W (hW : NodesAt l (some ⟨g, off, none⟩) W) h5 h6 h7 => learn_calls l hl i hlt (some ⟨g, off, none⟩) cap L G hLG (vI l i) (mI l i) (fun m _ => if_neg (Nat.lt_irrefl i)) ps h1 h2 K h3 h4 W hW h5 h6 h7)
      have HDP := Lib.hid (dev_parts l i hlt)
      have HDS := Lib.hid (dev_step l i s hs hlt)
      have HMORE := Lib.hid (trT_more l i s hs hlt)
      have HLF := Lib.hid (lf_step l i hlt)
      have HNEW := Lib.hid (noT_new l l[i] (loT l i) i (by omega))
      generalize l[i] = x at *
      obtain ⟨k, kc, kn, km, t⟩ := x
      simp only at d0 d1 d2 d3 d4 d5 d6 d7 hfine
      have HFINE := Lib.hid hfine
      have HBAD := Lib.hid hbad
      have hB2 : Below wr.heap.size wr (wr.alloc (.cells (ndI k kc kn km t) 49)) := (Below.refl _ _).alloc (Nat.le_refl _) _
      have HS2 := Lib.hid (hS.below hB2)
      have HKp2 := Lib.hid (hKp.below hB2)
      have hX := Blk.new wr (ndI k kc kn km t) 49
      have HNW2 := Lib.hid (HNW.out.below hB2)
      have hwcr := hKp.size
      clear hfine hbad hS hKp hNw hc hne HNW hB2
      go_upto_region 8 with fail
      clear d0 d1 d2 d3 d4 d5 d6 d7
      generalize wr.alloc (.cells (ndI k kc kn km t) 49) = w3 at *
      generalize wr.heap.size = xb at *
      have HX := Lib.hid hX
      have n0 := hX.cell 0; have n1 := hX.cell 1; have n2 := hX.cell 2; have n3 := hX.cell 3; have n4 := hX.cell 4; have n5 := hX.cell 5; have n6 := hX.cell 6; have n7 := hX.cell 7
      simp only [List.getElem?_toArray, List.getElem?_cons_zero, List.getElem?_cons_succ] at n0 n1 n2 n3 n4 n5 n6 n7
      clear hX
      go_wp2_with fail
      refine (named_calls k kc kn km t _).mono ?_
      rintro e w4 ⟨rfl, hb⟩
      clear n0 n1 n2 n3 n4 n5 n6 n7
      have HX4 := Lib.hid (HX.out.below hb HX.out.lt)
      have HS4 := Lib.hid (HS2.out.below hb)
      have HKp4 := Lib.hid (HKp2.out.below hb)
      have HN4 := Lib.hid (HNW2.out.below hb)
      clear HX HS2 HKp2 HNW2 hb
      cases hnm : namB k km t with
      | false =>
        have HF := Lib.hid (HBAD.out (by
          cases hf : fineT l s i ⟨k, kc, kn, km, t⟩ with
          | false => rfl
          | true => have := (HFINE.out.1 hf).1; rw [hnm] at this; cases this))
        have HR := Lib.hid (HRc.out.kpA HKp4.out (by rintro (h | h) <;> omega))
        have HBW := Lib.hid (HBc.out.trans (HKp4.out.toBelow (n := w.heap.size) HBc.out.size (by rintro k (h | h) <;> omega)))
        clear HST HLE HDP HDS HMORE HLF HNEW HFINE HBAD HS4 HX4 HN4 HKp4 hnm
        have r0 := HR.out.cell 0; have r1 := HR.out.cell 1; have r2 := HR.out.cell 2
        have s0 := HR.out.frozen 0; have s1 := HR.out.frozen 1; have s2 := HR.out.frozen 2
        simp only [List.getElem?_toArray, List.getElem?_cons_zero, List.getElem?_cons_succ] at r0 r1 r2
        have HR2 := Lib.hid (((HR.out.set 0 (.slice none 0 0)).set 1 (.slice none 0 0)).set 2 (.slice none 0 0))
        have HB2 := Lib.hid (below_set (below_set (below_set HBW.out (Nat.le_refl _) 0 (.slice none 0 0)) (Nat.le_refl _) 1 (.slice none 0 0)) (Nat.le_refl _) 2 (.slice none 0 0))
        clear HR HBW
        go_wp2_with fail
        exact bodyPost_ret (v := .tuple #[.agg (tmC none 0 0 none none), .bool false]) (results_tm _ _ w.heap.size (tmC none 0 0 none none) HR2.out rfl rfl) rfl ⟨HB2.out, .inl ⟨HF.out, none, 0, 0, none, none, rfl⟩⟩
      | true =>
      have hT4 := HTc.out.kpA HKp4.out (by rintro (h | h) <;> omega)
      have t0 := hT4.cell 0; have t1 := hT4.cell 1; have t2 := hT4.cell 2
      simp only [List.getElem?_toArray, List.getElem?_cons_zero, List.getElem?_cons_succ] at t0 t1 t2
      clear hT4
      go_wp2_with fail
      refine (HST.out _ HN4.out (Nat.lt_of_lt_of_le hLz HKp4.out.size) (fun h0 => by rw [(HS4.out.low (i - 1) (by omega)).1, vI, if_pos (by omega)])).mono ?_
      rintro e w5 ⟨rfl, hb⟩
      clear t0 t1 t2 HST
      have HX5 := Lib.hid (HX4.out.below hb HX4.out.lt)
      have HS5 := Lib.hid (HS4.out.below hb)
      have HKp5 := Lib.hid (HKp4.out.below hb)
      have HN5 := Lib.hid (HN4.out.below hb)
      clear HX4 HS4 HKp4 HN4 hb
      cases hst : stB (lowV l) i k kc kn with
      | false =>
        have HF := Lib.hid (HBAD.out (by
          cases hf : fineT l s i ⟨k, kc, kn, km, t⟩ with
          | false => rfl
          | true => have := (HFINE.out.1 hf).2.1; rw [hst] at this; cases this))
        have HR := Lib.hid (HRc.out.kpA HKp5.out (by rintro (h | h) <;> omega))
        have HBW := Lib.hid (HBc.out.trans (HKp5.out.toBelow (n := w.heap.size) HBc.out.size (by rintro k (h | h) <;> omega)))
        clear HLE HDP HDS HMORE HLF HNEW HFINE HBAD HS5 HX5 HN5 HKp5 hnm hst
        have r0 := HR.out.cell 0; have r1 := HR.out.cell 1; have r2 := HR.out.cell 2
        have s0 := HR.out.frozen 0; have s1 := HR.out.frozen 1; have s2 := HR.out.frozen 2
        simp only [List.getElem?_toArray, List.getElem?_cons_zero, List.getElem?_cons_succ] at r0 r1 r2
        have HR2 := Lib.hid (((HR.out.set 0 (.slice none 0 0)).set 1 (.slice none 0 0)).set 2 (.slice none 0 0))
        have HB2 := Lib.hid (below_set (below_set (below_set HBW.out (Nat.le_refl _) 0 (.slice none 0 0)) (Nat.le_refl _) 1 (.slice none 0 0)) (Nat.le_refl _) 2 (.slice none 0 0))
        clear HR HBW
        go_wp2_with fail
        exact bodyPost_ret (v := .tuple #[.agg (tmC none 0 0 none none), .bool false]) (results_tm _ _ w.heap.size (tmC none 0 0 none none) HR2.out rfl rfl) rfl ⟨HB2.out, .inl ⟨HF.out, none, 0, 0, none, none, rfl⟩⟩
      | true =>
      obtain ⟨ps, hp1, hp2, hp3, hp4⟩ := HDP.out hst
      obtain ⟨K, hK, hKm⟩ : ∃ K : Nat, K < 10 ∧ (k = 7 → km = K) := by
        by_cases h7 : k = 7
        · have h := hnm
          unfold namB at h
          rw [if_pos h7, Bool.and_eq_true, Bool.and_eq_true, decide_eq_true_iff, decide_eq_true_iff] at h
          exact ⟨km.toNat, by omega, fun _ => by omega⟩
        · exact ⟨0, by omega, fun h => absurd h h7⟩
      have HLE2 := Lib.hid (HLE.out ps hp1 hp2 K hK hKm)
      have HDS2 := Lib.hid (fun hf => HDS.out hf ps hp2 hp3 hp4 K hKm)
      have HLN : Hid (lnB k (mkF (mI l i) ps) K = true ↔ noT l ⟨k, kc, kn, km, t⟩ (loT l i) i = true) := Lib.hid (by
        have e2 : mkF (mI l i) ps = mkF (mkG l) ps := mkF_congr _ _ _ fun p hp => by funext m; exact if_pos (hp2 p hp)
        rw [e2]
        unfold lnB
        by_cases h7 : k = 7
        · rw [if_pos h7, hp4 K, HNEW.out h7 K (hKm h7)]
        · rw [if_neg h7]
          exact ⟨fun _ => decide_eq_true (fun h => absurd h h7), fun _ => rfl⟩)
      have hT5 := HTc.out.kpA HKp5.out (by rintro (h | h) <;> omega)
      have t0 := hT5.cell 0; have t1 := hT5.cell 1; have t2 := hT5.cell 2
      simp only [List.getElem?_toArray, List.getElem?_cons_zero, List.getElem?_cons_succ] at t0 t1 t2
      clear hT5 HLE HDP HDS HNEW hp1 hp2 hp3 hp4
      go_wp2_with fail
      refine (HLE2.out _ HN5.out (Nat.lt_of_lt_of_le hLz HKp5.out.size) (Nat.lt_of_lt_of_le hGz HKp5.out.size) HS5.out).mono ?_
      rintro e w6 ⟨rfl, hS6, hk6⟩
      clear t0 t1 t2 HLE2
      have HX6 := Lib.hid (HX5.out.kpA hk6 (by rintro (h | h) <;> omega))
      have HKp6 := Lib.hid (HKp5.out.trans hk6)
      clear HX5 HS5 HKp5 HN5 hk6
      cases hln : lnB k (mkF (mI l i) ps) K with
      | false =>
        have HF := Lib.hid (HBAD.out (by
          cases hf : fineT l s i ⟨k, kc, kn, km, t⟩ with
          | false => rfl
          | true => have := HLN.out.2 (HFINE.out.1 hf).2.2; rw [hln] at this; cases this))
        have HR := Lib.hid (HRc.out.kpA HKp6.out (by rintro (h | h) <;> omega))
        have HBW := Lib.hid (HBc.out.trans (HKp6.out.toBelow (n := w.heap.size) HBc.out.size (by rintro k (h | h) <;> omega)))
        clear HDS2 HMORE HLF HLN HFINE HBAD hS6 HX6 HKp6 hnm hst hln
        have r0 := HR.out.cell 0; have r1 := HR.out.cell 1; have r2 := HR.out.cell 2
        have s0 := HR.out.frozen 0; have s1 := HR.out.frozen 1; have s2 := HR.out.frozen 2
        simp only [List.getElem?_toArray, List.getElem?_cons_zero, List.getElem?_cons_succ] at r0 r1 r2
        have HR2 := Lib.hid (((HR.out.set 0 (.slice none 0 0)).set 1 (.slice none 0 0)).set 2 (.slice none 0 0))
        have HB2 := Lib.hid (below_set (below_set (below_set HBW.out (Nat.le_refl _) 0 (.slice none 0 0)) (Nat.le_refl _) 1 (.slice none 0 0)) (Nat.le_refl _) 2 (.slice none 0 0))
        clear HR HBW
        go_wp2_with fail
        exact bodyPost_ret (v := .tuple #[.agg (tmC none 0 0 none none), .bool false]) (results_tm _ _ w.heap.size (tmC none 0 0 none none) HR2.out rfl rfl) rfl ⟨HB2.out, .inl ⟨HF.out, none, 0, 0, none, none, rfl⟩⟩
      | true =>
      have hf := HFINE.out.2 ⟨hnm, hst, HLN.out.1 hln⟩
      have HTR := Lib.hid (HMORE.out hf)
      obtain ⟨q1, q2⟩ := HDS2.out hf
      have HS7 := Lib.hid (hS6.congr (fun x _ => q1 x) (fun x m _ _ => q2 x m))
      have n0 := HX6.out.cell 0
      simp only [List.getElem?_toArray, List.getElem?_cons_zero] at n0
      have hlfb : lfT (l.take i) ≤ i := by
        unfold lfT
        refine Nat.le_trans List.countP_le_length ?_
        rw [List.length_map, List.length_take]
        omega
      have HLF2 := Lib.hid HLF.out
      clear hf hS6 q1 q2 HDS2 HMORE HLN HFINE HBAD HX6 hnm hst hln HLF
      by_cases hk2 : k = 2
      · subst hk2
        have xl : IntKind.i64.wrap ((lfT (l.take i) : Int) + 1) = ((lfT (l.take i) + 1 : Nat) : Int) := by rw [IntWalk.i64_in _ (by omega)]; omega
        have HLF3 := Lib.hid (show lfT (l.take (i + 1)) = lfT (l.take i) + 1 from HLF2.out)
        clear HLF2
        go_wp2_with fail
        go_roundw
        case rel => exact ⟨i + 1, by omega, by simp, by rw [HLF3.out]; rfl, ⟨_, HTR.out⟩, HS7.out, HKp6.out⟩
        case measure => simp [intOf]; omega
      · have qk2 : (k == 2) = false := by rw [beq_eq_false_iff_ne]; exact hk2
        have HLF3 := Lib.hid (show lfT (l.take (i + 1)) = lfT (l.take i) from by rw [HLF2.out, if_neg (by rw [qk2]; decide)]; rfl)
        clear HLF2
        go_wp2_with fail
        go_roundw
        case rel => exact ⟨i + 1, by omega, by simp, by rw [HLF3.out], ⟨_, HTR.out⟩, HS7.out, HKp6.out⟩
        case measure => simp [intOf]; omega
    · obtain rfl : i = l.length := by omega
      have hdI : decide ((l.length : Int) < (l.length : Int)) = false := by simp
      have HRT := Lib.hid (right_end l s hs (by omega))
      rw [List.take_of_length_le (Nat.le_refl _)]
      have HRw := Lib.hid (HRc.out.kpA hKp (by rintro (h | h) <;> omega))
      have hTw := HTc.out.kpA hKp (by rintro (h | h) <;> omega)
      have HBW := Lib.hid (HBc.out.trans (hKp.toBelow (n := w.heap.size) HBc.out.size (by rintro k (h | h) <;> omega)))
      have t0 := hTw.cell 0; have t1 := hTw.cell 1; have t2 := hTw.cell 2
      simp only [List.getElem?_toArray, List.getElem?_cons_zero, List.getElem?_cons_succ] at t0 t1 t2
      have hlp : 0 < l.length := by omega
      have cl := (hS.low (l.length - 1) (by omega)).1
      rw [vI, if_pos (by omega)] at cl
      have HSw := Lib.hid hS
      have HKw := Lib.hid hKp
      have r0 := HRw.out.cell 0; have r1 := HRw.out.cell 1; have r2 := HRw.out.cell 2
      have s0 := HRw.out.frozen 0; have s1 := HRw.out.frozen 1; have s2 := HRw.out.frozen 2
      simp only [List.getElem?_toArray, List.getElem?_cons_zero, List.getElem?_cons_succ] at r0 r1 r2
      have x1 : IntKind.i64.wrap ((l.length : Int) - 1) = ((l.length - 1 : Nat) : Int) := by rw [IntWalk.i64_in _ (by omega)]; omega
      have hiI : ((l.length - 1 : Nat) : Int) < (l.length : Int) := by omega
      have hid : decide (l.length - 1 < l.length) = true := by rw [decide_eq_true_iff]; omega
      have HR2 := Lib.hid (((HRw.out.set 0 (.slice a l.length cap)).set 1 (.slice (some ⟨L, 0, none⟩) l.length l.length)).set 2 (.slice (some ⟨G, 0, none⟩) l.length l.length)).drew
      have HB2 := Lib.hid (below_set (below_set (below_set HBW.out (Nat.le_refl _) 0 (.slice a l.length cap)) (Nat.le_refl _) 1 (.slice (some ⟨L, 0, none⟩) l.length l.length)) (Nat.le_refl _) 2 (.slice (some ⟨G, 0, none⟩) l.length l.length))
      have hk1 := (KpA.refl (fun k => k = w.heap.size) wr).set (g := w.heap.size) (.inl rfl) 0 (.slice a l.length cap)
      have hk2 := hk1.set (g := w.heap.size) (.inl rfl) 1 (.slice (some ⟨L, 0, none⟩) l.length l.length)
      have hk3 := hk2.set (g := w.heap.size) (.inl rfl) 2 (.slice (some ⟨G, 0, none⟩) l.length l.length)
      have HS2 := Lib.hid (HSw.out.kp hk3 (show ¬ L = w.heap.size by omega) (show ¬ G = w.heap.size by omega))
      clear hk1 hk2 hk3
      have hwl := hKp.size
      generalize hlv : lowV l (l.length - 1) = lo at *
      clear hS hKp hTw HRw HBW
      generalize hlf : lfT l = lf at *
      clear hlf hlv
      by_cases h64 : lf ≤ 64
      · have hq : decide (lf ≤ 64) = true := decide_eq_true h64
        have hqI : decide ((lf : Int) ≤ 64) = true := by rw [decide_eq_true_iff]; omega
        go_upto_region 13 with fail
        go_region
        have HB3 := Lib.hid (show Below w.heap.size w (((wr.setCell ⟨w.heap.size, 0, none⟩ (.slice a l.length cap)).setCell ⟨w.heap.size, 1, none⟩ (.slice (some ⟨L, 0, none⟩) l.length l.length)).setCell ⟨w.heap.size, 2, none⟩ (.slice (some ⟨G, 0, none⟩) l.length l.length)).drew from ⟨HB2.out.os, HB2.out.tape, HB2.out.output, HB2.out.size, HB2.out.block⟩)
        have HS3 := Lib.hid HS2.out.drew
        have hzL : L < (((wr.setCell ⟨w.heap.size, 0, none⟩ (.slice a l.length cap)).setCell ⟨w.heap.size, 1, none⟩ (.slice (some ⟨L, 0, none⟩) l.length l.length)).setCell ⟨w.heap.size, 2, none⟩ (.slice (some ⟨G, 0, none⟩) l.length l.length)).drew.heap.size := by simpa using (show L < wr.heap.size by omega)
        have hzG : G < (((wr.setCell ⟨w.heap.size, 0, none⟩ (.slice a l.length cap)).setCell ⟨w.heap.size, 1, none⟩ (.slice (some ⟨L, 0, none⟩) l.length l.length)).setCell ⟨w.heap.size, 2, none⟩ (.slice (some ⟨G, 0, none⟩) l.length l.length)).drew.heap.size := by simpa using (show G < wr.heap.size by omega)
        clear HB2 HS2 HSw HKw r0 r1 r2 s0 s1 s2 t0 t1 t2 cl
        generalize (((wr.setCell ⟨w.heap.size, 0, none⟩ (.slice a l.length cap)).setCell ⟨w.heap.size, 1, none⟩ (.slice (some ⟨L, 0, none⟩) l.length l.length)).setCell ⟨w.heap.size, 2, none⟩ (.slice (some ⟨G, 0, none⟩) l.length l.length)).drew = w9 at *
        by_cases h0 : lo = 0
        · subst h0
          have HT := Lib.hid (show rightT l = true from by rw [HRT.out]; exact decide_eq_true ⟨by omega, h64, rfl⟩)
          clear HRT
          go_wp2_with fail
          exact bodyPost_ret (v := .tuple #[.agg (tmC a l.length cap (some ⟨L, 0, none⟩) (some ⟨G, 0, none⟩)), .bool true]) (results_tm _ _ w.heap.size _ HR2.out rfl rfl) rfl ⟨HB3.out, .inr ⟨HT.out, L, G, rfl, by omega, by omega, hzL, hzG, HS3.out⟩⟩
        · have q0 : ((lo : Int) == 0) = false := by rw [beq_eq_false_iff_ne]; omega
          have HF := Lib.hid (show rightT l = false from by rw [HRT.out]; exact decide_eq_false fun h => h0 h.2.2)
          clear HRT
          rw [q0]
          go_wp2_with fail
          exact bodyPost_ret (v := .tuple #[.agg (tmC a l.length cap (some ⟨L, 0, none⟩) (some ⟨G, 0, none⟩)), .bool false]) (results_tm _ _ w.heap.size _ HR2.out rfl rfl) rfl ⟨HB3.out, .inl ⟨HF.out, _, _, _, _, _, rfl⟩⟩
      · have hq : decide (lf ≤ 64) = false := decide_eq_false h64
        have hqI : decide ((lf : Int) ≤ 64) = false := by rw [decide_eq_false_iff_not]; omega
        go_upto_region 13 with fail
        go_region
        have HB3 := Lib.hid (show Below w.heap.size w (((wr.setCell ⟨w.heap.size, 0, none⟩ (.slice a l.length cap)).setCell ⟨w.heap.size, 1, none⟩ (.slice (some ⟨L, 0, none⟩) l.length l.length)).setCell ⟨w.heap.size, 2, none⟩ (.slice (some ⟨G, 0, none⟩) l.length l.length)).drew from ⟨HB2.out.os, HB2.out.tape, HB2.out.output, HB2.out.size, HB2.out.block⟩)
        have HF := Lib.hid (show rightT l = false from by rw [HRT.out]; exact decide_eq_false fun h => h64 h.2.1)
        clear HB2 HS2 HSw HKw HRT r0 r1 r2 s0 s1 s2 t0 t1 t2 cl
        generalize (((wr.setCell ⟨w.heap.size, 0, none⟩ (.slice a l.length cap)).setCell ⟨w.heap.size, 1, none⟩ (.slice (some ⟨L, 0, none⟩) l.length l.length)).setCell ⟨w.heap.size, 2, none⟩ (.slice (some ⟨G, 0, none⟩) l.length l.length)).drew = w9 at *
        go_wp2_with fail
        exact bodyPost_ret (v := .tuple #[.agg (tmC a l.length cap (some ⟨L, 0, none⟩) (some ⟨G, 0, none⟩)), .bool false]) (results_tm _ _ w.heap.size _ HR2.out rfl rfl) rfl ⟨HB3.out, .inl ⟨HF.out, _, _, _, _, _, rfl⟩⟩
end Go.Proofs.Ytooolhekihijlaa

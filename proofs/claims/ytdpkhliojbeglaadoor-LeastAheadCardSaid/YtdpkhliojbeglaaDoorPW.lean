/- Texts put together: Oe Ttd Ttf. -/
import Derived.Test.YtdpkhliojbeglaaDoorPS
import Derived.Test.YtdpkhliojbeglaaDoorPR
import Derived.RegionTactic
import Derived.BigRegion
import Derived.Laws.MakeOwn
import Derived.Test.YtdpkhliojbeglaaDoorPQ
/- The developers' terms: termOf. Stage 10. -/
namespace Go.Proofs.YtdpkhliojbeglaaDoor
open Go.RowKit BS

theorem infoMkF : (Tryd.prog.info? 152).map (fun i => (i.zero, i.size, i.bytes)) = some (some (.agg (mkV fun _ => false)), 10, 10) := by kernel_rfl
def gsZ (n : Nat) : Array Value := madeCells (mkV fun _ => false) (n * 10)
theorem gsZ_size (n : Nat) : (gsZ n).size = n * 10 := size_madeCells _ _
theorem gsZ_get (n k : Nat) (h : k < n * 10) : (gsZ n)[k]? = some (.bool false) := by
  have h2 : k % 10 < 10 := Nat.mod_lt _ (by decide)
  have e : (mkV fun _ => false)[k % 10]! = .bool false := by
    rw [getElem!_def, mkV_get _ _ h2]
  unfold gsZ madeCells
  rw [Array.getElem?_map, Array.getElem?_range, if_pos h]
  show some ((mkV fun _ => false)[k % 10]!) = _
  rw [e]
theorem makeMk (n : Nat) (hn : n ≤ 1000) (W : World) : (Instr.makeSlice 118 (.int .i64 (n : Int)) (.int .i64 (n : Int))).run Tryd.prog W = .ok (.slice (some ⟨W.heap.size, 0, none⟩) n n) (W.alloc (.cells (gsZ n) 152)) := by
  obtain ⟨i, hi, hzz⟩ := Option.map_eq_some_iff.1 infoMkF
  simp only [Prod.mk.injEq] at hzz
  obtain ⟨hz, hs, hb⟩ := hzz
  have := run_make (P := Tryd.prog) W 118 152 i _ Tryd.underlying118 hi hz .i64 .i64 n n (by omega) (by omega) (by rw [hb]; omega) (by omega)
  rw [hs, Int.toNat_natCast] at this
  exact this
theorem intZ_get (n k : Nat) (h : k < n) : (madeCells #[Value.int .i64 0] n)[k]? = some (.int .i64 ((0 : Nat) : Int)) := by
  unfold madeCells
  rw [Array.getElem?_map, Array.getElem?_range, if_pos h]
  show some (#[Value.int .i64 0][k % 1]!) = _
  rw [Nat.mod_one]
  rfl
/-! ### What the developers ask of a node is what the document asks -/
theorem anyG_split (l : List NdN) (lo n k : Nat) (h : lo ≤ k) : ∀ i, k ≤ i → i ≤ l.length → anyG l lo n i = (anyG l lo n k || anyG l k n i)
  | 0, h1, _ => by
    have : k = 0 := by omega
    subst this
    rw [show anyG l 0 n 0 = false from anyG_lo l 0 n, Bool.or_false]
  | i + 1, h1, h2 => by
    by_cases hk : k = i + 1
    · subst hk
      rw [anyG_lo, Bool.or_false]
    · rw [anyG_step l lo n i (by omega) (by omega), anyG_step l k n i (by omega) (by omega), anyG_split l lo n k h i (by omega) (by omega), Bool.or_assoc]
def mkG (l : List NdN) (x m : Nat) : Bool := anyG l (lowV l x) m (x + 1)
theorem loT_le (l : List NdN) (i : Nat) : loT l i ≤ i := by
  unfold loT
  split
  · exact Nat.le_refl _
  · have h1 := lowV_le l (atT l i).toNat
    have h2 : atT l i ≤ (i : Int) := by
      unfold atT
      split
      · have := lowV_le l (i - 1); omega
      · omega
    omega
theorem dev_parts (l : List NdN) (i : Nat) (hi : i < l.length) (hst : stB (lowV l) i l[i].kind l[i].kids l[i].n = true) :
    ∃ ps : List Nat, pK l[i].kids l[i].n 2 = ps.map (fun p : Nat => (p : Int)) ∧ (∀ p ∈ ps, p < i) ∧ loF (lowV l) i ps = loT l i ∧ ∀ m, mkF (mkG l) ps m = anyG l (loT l i) m i := by
  unfold loT atT
  rw [pcT_get l i hi]
  generalize l[i].kind = k at *
  generalize l[i].kids = c at *
  generalize l[i].n = n at *
  unfold stB at hst
  by_cases c12 : k = 1 ∨ k = 2
  · rw [if_pos c12, Bool.and_eq_true, beq_iff_eq, beq_iff_eq] at hst
    obtain ⟨rfl, rfl⟩ := hst
    refine ⟨[], rfl, fun p hp => by simp at hp, ?_, fun m => ?_⟩
    · rcases c12 with rfl | rfl <;> rfl
    · have : (if pcT k = 0 then i else lowV l (if pcT k = 2 then (lowV l (i - 1) : Int) - 1 else (i : Int) - 1).toNat) = i := by rcases c12 with rfl | rfl <;> rfl
      rw [this, anyG_lo]; rfl
  rw [if_neg c12] at hst
  by_cases c58 : k = 5 ∨ k = 6 ∨ k = 7 ∨ k = 8
  · rw [if_pos c58, Bool.and_eq_true, Bool.and_eq_true, beq_iff_eq, beq_iff_eq, decide_eq_true_iff] at hst
    obtain ⟨h0, rfl, rfl⟩ := hst
    have e : (if pcT k = 0 then i else lowV l (if pcT k = 2 then (lowV l (i - 1) : Int) - 1 else (i : Int) - 1).toNat) = lowV l (i - 1) := by
      have : ((i : Int) - 1).toNat = i - 1 := by omega
      rcases c58 with rfl | rfl | rfl | rfl <;> exact congrArg (lowV l) this
    rw [e]
    have hle := lowV_le l (i - 1)
    refine ⟨[i - 1], ?_, fun p hp => by rw [List.mem_singleton] at hp; omega, ?_, fun m => ?_⟩
    · unfold pK
      show (if (i : Int) - 1 = -1 then [] else [(i : Int) - 1]) ++ _ = _
      rw [if_neg (by omega), if_pos rfl, List.append_nil, List.map_cons, List.map_nil]
      congr 1
      omega
    · show min i (lowV l (i - 1)) = _
      omega
    · show (mkG l (i - 1) m || false) = _
      rw [Bool.or_false]
      unfold mkG
      rw [Nat.sub_add_cancel h0]
  rw [if_neg c58] at hst
  by_cases c34 : k = 3 ∨ k = 4
  · rw [if_pos c34, Bool.and_eq_true, Bool.and_eq_true, Bool.and_eq_true, beq_iff_eq, beq_iff_eq, decide_eq_true_iff, decide_eq_true_iff] at hst
    obtain ⟨h0, h1, rfl, rfl⟩ := hst
    have e : (if pcT k = 0 then i else lowV l (if pcT k = 2 then (lowV l (i - 1) : Int) - 1 else (i : Int) - 1).toNat) = lowV l (lowV l (i - 1) - 1) := by
      have : ((lowV l (i - 1) : Int) - 1).toNat = lowV l (i - 1) - 1 := by omega
      rcases c34 with rfl | rfl <;> exact congrArg (lowV l) this
    rw [e]
    have hle := lowV_le l (i - 1)
    have hle2 := lowV_le l (lowV l (i - 1) - 1)
    refine ⟨[lowV l (i - 1) - 1, i - 1], ?_, fun p hp => by simp at hp; omega, ?_, fun m => ?_⟩
    · unfold pK
      show (if (lowV l (i - 1) : Int) - 1 = -1 then [] else [(lowV l (i - 1) : Int) - 1]) ++ (if (i : Int) - 1 = -1 then [] else [(i : Int) - 1]) = _
      rw [if_neg (by omega), if_neg (by omega)]
      show [_, _] = [((lowV l (i - 1) - 1 : Nat) : Int), ((i - 1 : Nat) : Int)]
      rw [show ((lowV l (i - 1) - 1 : Nat) : Int) = (lowV l (i - 1) : Int) - 1 by omega, show ((i - 1 : Nat) : Int) = (i : Int) - 1 by omega]
    · show min (min i (lowV l (lowV l (i - 1) - 1))) (lowV l (i - 1)) = _
      omega
    · show (mkG l (lowV l (i - 1) - 1) m || (mkG l (i - 1) m || false)) = _
      rw [Bool.or_false]
      unfold mkG
      rw [Nat.sub_add_cancel h0, Nat.sub_add_cancel h1]
      exact (anyG_split l _ m (lowV l (i - 1)) (by omega) i (by omega) (by omega)).symm
  · rw [if_neg c34] at hst; cases hst
theorem dev_fine (l : List NdN) (i : Nat) (s : List Nat) (h : trT l i = some s) (hi : i < l.length) :
    fineT l s i l[i] = true ↔ namB l[i].kind l[i].m l[i].set = true ∧ stB (lowV l) i l[i].kind l[i].kids l[i].n = true ∧ noT l l[i] (loT l i) i = true := by
  rw [fine_go l i s h hi, kindT_two]
  unfold atT
  rw [pcT_get l i hi]
  generalize noT l l[i] (loT l i) i = z
  generalize l[i] = x
  obtain ⟨k, c, n, m, t⟩ := x
  simp only
  have hse : ∀ lo, lowV l (i - 1) = lo → (stB (fun _ => lo) i k c n = stB (lowV l) i k c n) := fun lo hlo => by unfold stB; rw [hlo]
  have hse2 := hse _ rfl
  generalize lowV l (i - 1) = lo at *
  clear hse
  have hnm : namB k m t = true ↔ (k = 2 ∨ t = 0) ∧ (k = 7 → 1 ≤ m ∧ m ≤ 9) ∧ (k = 7 ∨ m = 0) := by
    unfold namB
    rw [Bool.and_eq_true, Bool.or_eq_true, beq_iff_eq, decide_eq_true_iff]
    by_cases h7 : k = 7
    · rw [if_pos h7, Bool.and_eq_true, decide_eq_true_iff, decide_eq_true_iff]
      exact ⟨fun ⟨a, b⟩ => ⟨a, fun _ => b, .inl h7⟩, fun ⟨a, b, _⟩ => ⟨a, b h7⟩⟩
    · rw [if_neg h7, beq_iff_eq]
      exact ⟨fun ⟨a, b⟩ => ⟨a, fun h => absurd h h7, .inr b⟩, fun ⟨a, _, b⟩ => ⟨a, b.resolve_left h7⟩⟩
  rw [hnm]
  unfold kindA
  have hss : (1 ≤ k ∧ k ≤ 8) ∧ (pcT k = 0 → c = -1) ∧ (pcT k ≠ 2 → n = -1) ∧ (pcT k = 2 → 0 < i ∧ n = (i : Int) - 1) ∧ (pcT k ≠ 0 → 0 ≤ (if pcT k = 2 then (lo : Int) - 1 else (i : Int) - 1) ∧ c = (if pcT k = 2 then (lo : Int) - 1 else (i : Int) - 1)) ↔ stB (fun _ => lo) i k c n = true := by
    show _ ↔ (if k = 1 ∨ k = 2 then (c == -1) && (n == -1) else if k = 5 ∨ k = 6 ∨ k = 7 ∨ k = 8 then decide (0 < i) && ((c == (i : Int) - 1) && (n == -1)) else if k = 3 ∨ k = 4 then decide (0 < i) && (decide (0 < lo) && ((n == (i : Int) - 1) && (c == (lo : Int) - 1))) else false) = true
    by_cases c12 : k = 1 ∨ k = 2
    · have e : pcT k = 0 := by rcases c12 with rfl | rfl <;> rfl
      rw [if_pos c12, e, Bool.and_eq_true, beq_iff_eq, beq_iff_eq]
      constructor
      · rintro ⟨_, h1, h2, _⟩; exact ⟨h1 rfl, h2 (by decide)⟩
      · rintro ⟨h1, h2⟩; exact ⟨by omega, fun _ => h1, fun _ => h2, fun h => by omega, fun h => absurd rfl h⟩
    rw [if_neg c12]
    by_cases c58 : k = 5 ∨ k = 6 ∨ k = 7 ∨ k = 8
    · have e : pcT k = 1 := by rcases c58 with rfl | rfl | rfl | rfl <;> rfl
      rw [if_pos c58, e, Bool.and_eq_true, Bool.and_eq_true, beq_iff_eq, beq_iff_eq, decide_eq_true_iff, if_neg (by decide)]
      constructor
      · rintro ⟨_, _, h2, _, h4⟩
        obtain ⟨h5, h6⟩ := h4 (by decide)
        exact ⟨by omega, h6, h2 (by decide)⟩
      · rintro ⟨h1, h2, h3⟩
        exact ⟨by omega, fun h => by omega, fun _ => h3, fun h => by omega, fun _ => ⟨by omega, h2⟩⟩
    rw [if_neg c58]
    by_cases c34 : k = 3 ∨ k = 4
    · have e : pcT k = 2 := by rcases c34 with rfl | rfl <;> rfl
      rw [if_pos c34, e, Bool.and_eq_true, Bool.and_eq_true, Bool.and_eq_true, beq_iff_eq, beq_iff_eq, decide_eq_true_iff, decide_eq_true_iff, if_pos rfl]
      constructor
      · rintro ⟨_, _, _, h3, h4⟩
        obtain ⟨h5, h6⟩ := h4 (by decide)
        obtain ⟨h7, h8⟩ := h3 rfl
        exact ⟨h7, by omega, h8, h6⟩
      · rintro ⟨h1, h2, h3, h4⟩
        exact ⟨by omega, fun h => by omega, fun h => absurd rfl h, fun _ => ⟨h1, h3⟩, fun _ => ⟨by omega, h4⟩⟩
    · rw [if_neg c34]
      constructor
      · rintro ⟨⟨h1, h2⟩, _⟩; exact absurd (show k = 3 ∨ k = 4 by omega) c34
      · intro h; cases h
  rw [← hse2, ← hss]
  constructor
  · rintro ⟨⟨⟨a1, a2, a3, a4, a5⟩, b1, b2⟩, b3, b4, b5⟩
    exact ⟨⟨a3, a5, a4⟩, ⟨⟨a1, a2⟩, b1, b2, b3, b4⟩, b5⟩
  · rintro ⟨⟨a3, a5, a4⟩, ⟨⟨a1, a2⟩, b1, b2, b3, b4⟩, b5⟩
    exact ⟨⟨⟨a1, a2, a3, a4, a5⟩, b1, b2⟩, b3, b4, b5⟩
/-- A node's number is new, if no Group ahead in it has it. -/
theorem noT_new (l : List NdN) (x : NdN) (lo i : Nat) (hi : i ≤ l.length) (h7 : x.kind = 7) (K : Nat) (hK : x.m = K) : noT l x lo i = !anyG l lo K i := by
  unfold noT anyG
  rw [Bool.eq_iff_iff, decide_eq_true_iff, Bool.not_eq_true', ← Bool.not_eq_true, List.any_eq_true]
  constructor
  · rintro h ⟨j, hj, hj2⟩
    rw [Bool.and_eq_true, decide_eq_true_iff] at hj2
    obtain ⟨h1, h2⟩ := hj2
    have hj3 := List.mem_range.1 hj
    rw [List.getElem?_eq_getElem (by omega)] at h2
    have h3 := of_decide_eq_true h2
    exact h h7 j hj3 h1 _ (List.getElem?_eq_getElem (by omega)) ⟨h3.1, by rw [hK]; exact h3.2⟩
  · intro h _ j hj hlo y hy hy2
    refine h ⟨j, List.mem_range.2 hj, ?_⟩
    rw [hy, Bool.and_eq_true, decide_eq_true_iff]
    exact ⟨hlo, decide_eq_true ⟨hy2.1, by rw [hy2.2, hK]⟩⟩

/-! ### By walks -/
theorem infoTm : (Tryd.prog.info? 120).map (·.size) = some 3 := by kernel_rfl
theorem results_tm (tmps : Array Value) (w : World) (R : Nat) (cs : Array Value) (hb : Blk w R cs 120) {b : Value} (hp : tmps.getD 2 undef = .pointer (some ⟨R, 0, none⟩)) (hs : cs.size = 3) (hq : tmps.getD 3 undef = b := by rfl) :
    (results Tryd.f62 tmps).run Tryd.prog w = .ok (.tuple #[.agg cs, b]) w := by
  rw [results_cell_tmp Tryd.results62]
  rw [hp, hq]
  have h1 := run_loadVar_row (P := Tryd.prog) w R 120 120 cs (0, 0) _ hb Tryd.underlying120 rfl (by rw [hs]; exact infoTm)
  simp [asAddr, h1]
theorem alloc3 (w1 : World) (c1 c2 c3 : Array Value) (t1 t2 t3 : TypeId) (W : World) (hW : W = (((w1.alloc (.cells c1 t1)).alloc (.cells c2 t2)).alloc (.cells c3 t3)).drew) :
    Blk W w1.heap.size c1 t1 ∧ Blk W (w1.heap.size + 1) c2 t2 ∧ Blk W (w1.heap.size + 1 + 1) c3 t3 ∧ Below w1.heap.size w1 W := by
  subst hW
  have b1 := ((Blk.new w1 c1 t1).alloc (.cells c2 t2)).alloc (.cells c3 t3)
  have b2 := (Blk.new (w1.alloc (.cells c1 t1)) c2 t2).alloc (.cells c3 t3)
  have b3 := Blk.new ((w1.alloc (.cells c1 t1)).alloc (.cells c2 t2)) c3 t3
  rw [World.size_alloc] at b2
  rw [World.size_alloc, World.size_alloc] at b3
  refine ⟨b1, b2, b3, ?_⟩
  have hb : Below w1.heap.size w1 (((w1.alloc (.cells c1 t1)).alloc (.cells c2 t2)).alloc (.cells c3 t3)) := by go_grown
  exact ⟨hb.os, hb.tape, hb.output, hb.size, hb.block⟩
def vI (l : List NdN) (i x : Nat) : Nat := if x < i then lowV l x else 0
def mI (l : List NdN) (i x m : Nat) : Bool := if x < i then mkG l x m else false
theorem loF_congr (V V' : Nat → Nat) (i : Nat) (ps : List Nat) (h : ∀ p ∈ ps, V p = V' p) : loF V i ps = loF V' i ps := by
  unfold loF
  have : ∀ (ps : List Nat) (a : Nat), (∀ p ∈ ps, V p = V' p) → ps.foldl (fun a p => min a (V p)) a = ps.foldl (fun a p => min a (V' p)) a := fun ps => by
    induction ps with
    | nil => intro a _; rfl
    | cons p ps ih =>
      intro a hp
      rw [List.foldl_cons, List.foldl_cons, hp p (List.mem_cons_self ..)]
      exact ih _ fun q hq => hp q (List.mem_cons_of_mem _ hq)
  exact this ps i h
theorem mkF_congr (M M' : Nat → Nat → Bool) (ps : List Nat) (h : ∀ p ∈ ps, M p = M' p) : mkF M ps = mkF M' ps := by
  funext m
  unfold mkF
  induction ps with
  | nil => rfl
  | cons p ps ih => rw [List.any_cons, List.any_cons, h p (List.mem_cons_self ..), ih fun q hq => h q (List.mem_cons_of_mem _ hq)]
/-- What learn tells of node i is what the document says of it. -/
theorem dev_step (l : List NdN) (i : Nat) (s : List Nat) (h : trT l i = some s) (hi : i < l.length) (hf : fineT l s i l[i] = true) (ps : List Nat) (hpi : ∀ p ∈ ps, p < i) (h1 : loF (lowV l) i ps = loT l i) (h2 : ∀ m, mkF (mkG l) ps m = anyG l (loT l i) m i) (K : Nat) (hm : l[i].kind = 7 → l[i].m = K) :
    (∀ x, upV (vI l i) i (loF (vI l i) i ps) x = vI l (i + 1) x) ∧ ∀ x m, upM (mI l i) i (lnM l[i].kind (mkF (mI l i) ps) K) x m = mI l (i + 1) x m := by
  have e1 : loF (vI l i) i ps = loF (lowV l) i ps := loF_congr _ _ _ _ fun p hp => if_pos (hpi p hp)
  have e2 : mkF (mI l i) ps = mkF (mkG l) ps := mkF_congr _ _ _ fun p hp => by funext m; exact if_pos (hpi p hp)
  have hlo := lowV_lo l i s h hi hf
  rw [e1, e2, h1, ← hlo]
  constructor
  · intro x
    unfold upV vI
    by_cases hx : x = i
    · rw [if_pos hx, if_pos (by omega), hx]
    · rw [if_neg hx]
      by_cases hx2 : x < i
      · rw [if_pos hx2, if_pos (by omega)]
      · rw [if_neg hx2, if_neg (by omega)]
  · intro x m
    unfold upM mI
    by_cases hx : x = i
    · rw [if_pos hx, if_pos (by omega), hx]
      unfold lnM
      show _ = anyG l (lowV l i) m (i + 1)
      rw [anyG_step l _ m i (lowV_le l i) hi, h2 m, ← hlo]
      by_cases h7 : l[i].kind = 7
      · have h7b : (l[i].kind == 7) = true := by rw [h7]; rfl
        rw [h7b, Bool.true_and, hm h7]
        by_cases hmk : m = K
        · rw [if_pos ⟨h7, hmk⟩, hmk, show ((K : Int) == (K : Int)) = true from by simp, Bool.or_true]
        · rw [if_neg (fun h => hmk h.2), show ((K : Int) == (m : Int)) = false from by rw [beq_eq_false_iff_ne]; omega, Bool.or_false]
      · have h7b : (l[i].kind == 7) = false := by rw [beq_eq_false_iff_ne]; exact h7
        rw [if_neg (fun h => h7 h.1), h7b, Bool.false_and, Bool.or_false]
    · rw [if_neg hx]
      by_cases hx2 : x < i
      · rw [if_pos hx2, if_pos (by omega)]
      · rw [if_neg hx2, if_neg (by omega)]

set_option maxRecDepth 100000 in
set_option maxHeartbeats 32000000 in
theorem termOf_calls (l : List NdN) (hl : l.length ≤ 1000) (a : Option Addr) (cap : Nat) (w : World) (h : NodesAt l a w) :
    Calls Tryd.prog 62 #[.slice a l.length cap] w fun e w' => Below w.heap.size w w' ∧ ((rightT l = false ∧ ∃ a' n' c' L G, e = .returned (.tuple #[.agg (tmC a' n' c' L G), .bool false])) ∨
      (rightT l = true ∧ ∃ L G, e = .returned (.tuple #[.agg (tmC a l.length cap (some ⟨L, 0, none⟩) (some ⟨G, 0, none⟩)), .bool true]) ∧ w.heap.size ≤ L ∧ w.heap.size ≤ G ∧ L < w'.heap.size ∧ G < w'.heap.size ∧ TmS l.length L G (vI l l.length) (mI l l.length) w')) := by
  have hmk := fun W => run_make_row' (P := Tryd.prog) 54 3 (.int .i64 0) 8 Tryd.underlying54 (by kernel_rfl) rfl .i64 .i64 l.length (by omega) (by omega) W
  have hmz : (madeCells #[Value.int .i64 0] l.length).size = l.length := by simp [madeCells]
  have hmg := intZ_get l.length
  have hmk2 := makeMk l.length hl
  have hgz := gsZ_size l.length
  have hgg := gsZ_get l.length
  generalize madeCells #[Value.int .i64 0] l.length = vs0 at *
  generalize gsZ l.length = gs0 at *
  have HMG := Lib.hid hmg
  have HGG := Lib.hid hgg
  have HN := Lib.hid h
  clear hmg hgg h
  have hB0 : Below w.heap.size w (w.alloc (.cells #[.slice none 0 0, .slice none 0 0, .slice none 0 0] 120)) := by go_grown
  have hR := Blk.new w #[.slice none 0 0, .slice none 0 0, .slice none 0 0] 120
  have hz1 : (w.alloc (.cells #[.slice none 0 0, .slice none 0 0, .slice none 0 0] 120)).heap.size = w.heap.size + 1 := World.size_alloc ..
  by_cases h1 : l.length < 1 ∨ 400 < l.length
  · have HF := Lib.hid (show rightT l = false from by
      refine decide_eq_false fun h => ?_
      rcases h1 with h1 | h1
      · have : l.length = 0 := by omega
        rw [this, trT] at h; cases h.1
      · omega)
    clear hmk hmk2
    rcases h1 with h1 | h1
    · have hd1 : decide (l.length < 1) = true := decide_eq_true h1
      have hd3 : decide ((l.length : Int) < 1) = true := by rw [decide_eq_true_iff]; omega
      go_enter Tryd.func62, Tryd.ntmps62
      go_upto_region 2 with fail
      have HR := Lib.hid hR
      have HBW := Lib.hid hB0
      clear hR hB0 hz1
      generalize w.alloc (.cells #[.slice none 0 0, .slice none 0 0, .slice none 0 0] 120) = w1 at *
      have r0 := HR.out.cell 0; have r1 := HR.out.cell 1; have r2 := HR.out.cell 2
      have s0 := HR.out.frozen 0; have s1 := HR.out.frozen 1; have s2 := HR.out.frozen 2
      simp only [List.getElem?_toArray, List.getElem?_cons_zero, List.getElem?_cons_succ] at r0 r1 r2
      have HR2 := Lib.hid (((HR.out.set 0 (.slice none 0 0)).set 1 (.slice none 0 0)).set 2 (.slice none 0 0))
      have HB2 := Lib.hid (below_set (below_set (below_set HBW.out (Nat.le_refl _) 0 (.slice none 0 0)) (Nat.le_refl _) 1 (.slice none 0 0)) (Nat.le_refl _) 2 (.slice none 0 0))
      clear HR HBW
      go_wp2_with fail
      exact bodyPost_ret (v := .tuple #[.agg (tmC none 0 0 none none), .bool false]) (results_tm _ _ w.heap.size (tmC none 0 0 none none) HR2.out rfl rfl) rfl ⟨HB2.out, .inl ⟨HF.out, none, 0, 0, none, none, rfl⟩⟩
    · have hd1 : decide (l.length < 1) = false := by rw [decide_eq_false_iff_not]; omega
      have hd3 : decide ((l.length : Int) < 1) = false := by rw [decide_eq_false_iff_not]; omega
      have hd2 : decide (400 < l.length) = true := decide_eq_true h1
      have hd4 : decide (400 < (l.length : Int)) = true := by rw [decide_eq_true_iff]; omega
      go_enter Tryd.func62, Tryd.ntmps62
      go_upto_region 2 with fail
      have HR := Lib.hid hR
      have HBW := Lib.hid hB0
      clear hR hB0 hz1
      generalize w.alloc (.cells #[.slice none 0 0, .slice none 0 0, .slice none 0 0] 120) = w1 at *
      have r0 := HR.out.cell 0; have r1 := HR.out.cell 1; have r2 := HR.out.cell 2
      have s0 := HR.out.frozen 0; have s1 := HR.out.frozen 1; have s2 := HR.out.frozen 2
      simp only [List.getElem?_toArray, List.getElem?_cons_zero, List.getElem?_cons_succ] at r0 r1 r2
      have HR2 := Lib.hid (((HR.out.set 0 (.slice none 0 0)).set 1 (.slice none 0 0)).set 2 (.slice none 0 0))
      have HB2 := Lib.hid (below_set (below_set (below_set HBW.out (Nat.le_refl _) 0 (.slice none 0 0)) (Nat.le_refl _) 1 (.slice none 0 0)) (Nat.le_refl _) 2 (.slice none 0 0))
      clear HR HBW
      go_wp2_with fail
      exact bodyPost_ret (v := .tuple #[.agg (tmC none 0 0 none none), .bool false]) (results_tm _ _ w.heap.size (tmC none 0 0 none none) HR2.out rfl rfl) rfl ⟨HB2.out, .inl ⟨HF.out, none, 0, 0, none, none, rfl⟩⟩
  have hd1 : decide (l.length < 1) = false := by rw [decide_eq_false_iff_not]; omega
  have hd2 : decide (400 < l.length) = false := by rw [decide_eq_false_iff_not]; omega
  have hd3 : decide ((l.length : Int) < 1) = false := by rw [decide_eq_false_iff_not]; omega
  have hd4 : decide (400 < (l.length : Int)) = false := by rw [decide_eq_false_iff_not]; omega
  go_enter Tryd.func62, Tryd.ntmps62
  go_upto_region 3 with fail
  generalize w.alloc (.cells #[.slice none 0 0, .slice none 0 0, .slice none 0 0] 120) = w1 at *
  have HZ1 := Lib.hid hz1
  clear hz1
  go_cut [4] from 17 to 24 (fun v wx => ∃ T L G : Nat, v = .pointer (some ⟨T, 0, none⟩) ∧ w1.heap.size ≤ T ∧ w1.heap.size ≤ L ∧ w1.heap.size ≤ G ∧ T ≠ L ∧ T ≠ G ∧ L ≠ G ∧ Blk wx T (tmC a l.length cap (some ⟨L, 0, none⟩) (some ⟨G, 0, none⟩)) 120 ∧ Blk wx L vs0 3 ∧ Blk wx G gs0 152 ∧ Below w1.heap.size w1 wx)
  case first =>
    go_region
    all_goals
      go_wp2_with fail
      go_meet
      obtain ⟨b1, b2, b3, b4⟩ := alloc3 w1 _ _ _ _ _ _ _ rfl
      first
        | exact ⟨_, _, _, rfl, by omega, by omega, by omega, by omega, by omega, by omega, b1, b2, b3, b4⟩
        | exact ⟨_, _, _, rfl, by omega, by omega, by omega, by omega, by omega, by omega, b1, b3, b2, b4⟩
        | exact ⟨_, _, _, rfl, by omega, by omega, by omega, by omega, by omega, by omega, b2, b1, b3, b4⟩
        | exact ⟨_, _, _, rfl, by omega, by omega, by omega, by omega, by omega, by omega, b2, b3, b1, b4⟩
        | exact ⟨_, _, _, rfl, by omega, by omega, by omega, by omega, by omega, by omega, b3, b1, b2, b4⟩
        | exact ⟨_, _, _, rfl, by omega, by omega, by omega, by omega, by omega, by omega, b3, b2, b1, b4⟩
  case rest =>
  obtain ⟨T, L, G, rfl, hT1, hL1, hG1, hTL, hTG, hLG, hT, hLb, hGb, hB1⟩ := hcut
  have HBc := Lib.hid (hB0.trans (hB1.mono (by have := HZ1.out; omega)))
  have HRc := Lib.hid (hR.below hB1 (by have := HZ1.out; omega))
  have HTc := Lib.hid hT
  have HTS := Lib.hid (show TmS l.length L G (vI l 0) (mI l 0) wc from ⟨vs0, gs0, hmz, fun x hx => HMG.out x hx, hLb, hgz, fun x m hx hm => HGG.out (x * 10 + m) (by omega), hGb⟩)
  have hTz := hT.lt; have hLz := hLb.lt; have hGz := hGb.lt
  have hwT : w.heap.size < T := by have := HZ1.out; omega
  have hwL : w.heap.size < L := by have := HZ1.out; omega
  have hwG : w.heap.size < G := by have := HZ1.out; omega
  clear hmk hmk2 hmz hgz HMG HGG hR hB0 hT hLb hGb hB1 HZ1 hT1 hL1 hG1
  go_upto_region 6 with fail
  go_loopw [5, 27] (fun vf vi wr => ∃ i : Nat, i ≤ l.length ∧ vi = .int .i64 i ∧ vf = .int .i64 (lfT (l.take i) : Nat) ∧ (∃ s, trT l i = some s) ∧ TmS l.length L G (vI l i) (mI l i) wr ∧ KpA (fun k => k = L ∨ k = G) wc wr) (fun _ vi _ => l.length - (intOf vi).toNat)
  case atStart => exact ⟨0, Nat.zero_le _, rfl, rfl, ⟨[], rfl⟩, HTS.out, KpA.refl _ _⟩
  case round =>
    clear HTS
    obtain ⟨i, hi, rfl, rfl, ⟨s, hs⟩, hS, hKp⟩ := hrel
    by_cases hlt : i < l.length
    · have hii : (i : Int) < (l.length : Int) := by omega
      have hd : decide (i < l.length) = true := by rw [decide_eq_true_iff]; omega
      have hdI : decide ((i : Int) < (l.length : Int)) = true := by rw [decide_eq_true_iff]; omega
      have xi : IntKind.i64.wrap ((i : Int) + 1) = (i : Int) + 1 := IntWalk.i64_in _ (by omega)
      have hne : l ≠ [] := by rintro rfl; simp at hlt
      have hNw : NodesAt l a wr := HN.out.below (HBc.out.trans (hKp.toBelow (n := w.heap.size) HBc.out.size (by rintro k (h | h) <;> omega)))
      obtain ⟨g, off, rfl, hg, hc⟩ := hNw hne
      have d0 := hc i hlt 0 (by decide); have d1 := hc i hlt 1 (by decide); have d2 := hc i hlt 2 (by decide); have d3 := hc i hlt 3 (by decide); have d4 := hc i hlt 4 (by decide); have d5 := hc i hlt 5 (by decide); have d6 := hc i hlt 6 (by decide); have d7 := hc i hlt 7 (by decide)
      simp only [ndA, List.getElem?_toArray, List.getElem?_cons_zero, List.getElem?_cons_succ, Nat.add_zero] at d0 d1 d2 d3 d4 d5 d6 d7
      have hfine := dev_fine l i s hs hlt
      have hbad := right_bad l i s hs hlt
      have HNW := Lib.hid hNw
      have HST := Lib.hid (fun W (hW : NodesAt l (some ⟨g, off, none⟩) W) h1 h2 => stands_calls l hl i hlt (some ⟨g, off, none⟩) cap L (some ⟨G, 0, none⟩) (lowV l) (by have := lowV_le l (i - 1); omega) W hW h1 h2)
      have HLE := Lib.hid (fun ps h1 h2 K h3 h4 W (hW : NodesAt l (some ⟨g, off, none⟩) W) h5 h6 h7 => learn_calls l hl i hlt (some ⟨g, off, none⟩) cap L G hLG (vI l i) (mI l i) (fun m _ => if_neg (Nat.lt_irrefl i)) ps h1 h2 K h3 h4 W hW h5 h6 h7)
      have HDP := Lib.hid (dev_parts l i hlt)
      have HDS := Lib.hid (dev_step l i s hs hlt)
      have HMORE := Lib.hid (trT_more l i s hs hlt)
      have HLF := Lib.hid (lf_step l i hlt)
      have HNEW := Lib.hid (noT_new l l[i] (loT l i) i (by omega))
      generalize l[i] = x at *
      obtain ⟨k, kc, kn, km, t⟩ := x
      simp only at d0 d1 d2 d3 d4 d5 d6 d7 hfine
      have HFINE := Lib.hid hfine
      have HBAD := Lib.hid hbad
      have hB2 : Below wr.heap.size wr (wr.alloc (.cells (ndI k kc kn km t) 60)) := (Below.refl _ _).alloc (Nat.le_refl _) _
      have HS2 := Lib.hid (hS.below hB2)
      have HKp2 := Lib.hid (hKp.below hB2)
      have hX := Blk.new wr (ndI k kc kn km t) 60
      have HNW2 := Lib.hid (HNW.out.below hB2)
      have hwcr := hKp.size
      clear hfine hbad hS hKp hNw hc hne HNW hB2
      go_upto_region 8 with fail
      clear d0 d1 d2 d3 d4 d5 d6 d7
      generalize wr.alloc (.cells (ndI k kc kn km t) 60) = w3 at *
      generalize wr.heap.size = xb at *
      have HX := Lib.hid hX
      have n0 := hX.cell 0; have n1 := hX.cell 1; have n2 := hX.cell 2; have n3 := hX.cell 3; have n4 := hX.cell 4; have n5 := hX.cell 5; have n6 := hX.cell 6; have n7 := hX.cell 7
      simp only [List.getElem?_toArray, List.getElem?_cons_zero, List.getElem?_cons_succ] at n0 n1 n2 n3 n4 n5 n6 n7
      clear hX
      go_wp2_with fail
      refine (named_calls k kc kn km t _).mono ?_
      rintro e w4 ⟨rfl, hb⟩
      clear n0 n1 n2 n3 n4 n5 n6 n7
      have HX4 := Lib.hid (HX.out.below hb HX.out.lt)
      have HS4 := Lib.hid (HS2.out.below hb)
      have HKp4 := Lib.hid (HKp2.out.below hb)
      have HN4 := Lib.hid (HNW2.out.below hb)
      clear HX HS2 HKp2 HNW2 hb
      cases hnm : namB k km t with
      | false =>
        have HF := Lib.hid (HBAD.out (by
          cases hf : fineT l s i ⟨k, kc, kn, km, t⟩ with
          | false => rfl
          | true => have := (HFINE.out.1 hf).1; rw [hnm] at this; cases this))
        have HR := Lib.hid (HRc.out.kpA HKp4.out (by rintro (h | h) <;> omega))
        have HBW := Lib.hid (HBc.out.trans (HKp4.out.toBelow (n := w.heap.size) HBc.out.size (by rintro k (h | h) <;> omega)))
        clear HST HLE HDP HDS HMORE HLF HNEW HFINE HBAD HS4 HX4 HN4 HKp4 hnm
        have r0 := HR.out.cell 0; have r1 := HR.out.cell 1; have r2 := HR.out.cell 2
        have s0 := HR.out.frozen 0; have s1 := HR.out.frozen 1; have s2 := HR.out.frozen 2
        simp only [List.getElem?_toArray, List.getElem?_cons_zero, List.getElem?_cons_succ] at r0 r1 r2
        have HR2 := Lib.hid (((HR.out.set 0 (.slice none 0 0)).set 1 (.slice none 0 0)).set 2 (.slice none 0 0))
        have HB2 := Lib.hid (below_set (below_set (below_set HBW.out (Nat.le_refl _) 0 (.slice none 0 0)) (Nat.le_refl _) 1 (.slice none 0 0)) (Nat.le_refl _) 2 (.slice none 0 0))
        clear HR HBW
        go_wp2_with fail
        exact bodyPost_ret (v := .tuple #[.agg (tmC none 0 0 none none), .bool false]) (results_tm _ _ w.heap.size (tmC none 0 0 none none) HR2.out rfl rfl) rfl ⟨HB2.out, .inl ⟨HF.out, none, 0, 0, none, none, rfl⟩⟩
      | true =>
      have hT4 := HTc.out.kpA HKp4.out (by rintro (h | h) <;> omega)
      have t0 := hT4.cell 0; have t1 := hT4.cell 1; have t2 := hT4.cell 2
      simp only [List.getElem?_toArray, List.getElem?_cons_zero, List.getElem?_cons_succ] at t0 t1 t2
      clear hT4
      go_wp2_with fail
      refine (HST.out _ HN4.out (Nat.lt_of_lt_of_le hLz HKp4.out.size) (fun h0 => by rw [(HS4.out.low (i - 1) (by omega)).1, vI, if_pos (by omega)])).mono ?_
      rintro e w5 ⟨rfl, hb⟩
      clear t0 t1 t2 HST
      have HX5 := Lib.hid (HX4.out.below hb HX4.out.lt)
      have HS5 := Lib.hid (HS4.out.below hb)
      have HKp5 := Lib.hid (HKp4.out.below hb)
      have HN5 := Lib.hid (HN4.out.below hb)
      clear HX4 HS4 HKp4 HN4 hb
      cases hst : stB (lowV l) i k kc kn with
      | false =>
        have HF := Lib.hid (HBAD.out (by
          cases hf : fineT l s i ⟨k, kc, kn, km, t⟩ with
          | false => rfl
          | true => have := (HFINE.out.1 hf).2.1; rw [hst] at this; cases this))
        have HR := Lib.hid (HRc.out.kpA HKp5.out (by rintro (h | h) <;> omega))
        have HBW := Lib.hid (HBc.out.trans (HKp5.out.toBelow (n := w.heap.size) HBc.out.size (by rintro k (h | h) <;> omega)))
        clear HLE HDP HDS HMORE HLF HNEW HFINE HBAD HS5 HX5 HN5 HKp5 hnm hst
        have r0 := HR.out.cell 0; have r1 := HR.out.cell 1; have r2 := HR.out.cell 2
        have s0 := HR.out.frozen 0; have s1 := HR.out.frozen 1; have s2 := HR.out.frozen 2
        simp only [List.getElem?_toArray, List.getElem?_cons_zero, List.getElem?_cons_succ] at r0 r1 r2
        have HR2 := Lib.hid (((HR.out.set 0 (.slice none 0 0)).set 1 (.slice none 0 0)).set 2 (.slice none 0 0))
        have HB2 := Lib.hid (below_set (below_set (below_set HBW.out (Nat.le_refl _) 0 (.slice none 0 0)) (Nat.le_refl _) 1 (.slice none 0 0)) (Nat.le_refl _) 2 (.slice none 0 0))
        clear HR HBW
        go_wp2_with fail
        exact bodyPost_ret (v := .tuple #[.agg (tmC none 0 0 none none), .bool false]) (results_tm _ _ w.heap.size (tmC none 0 0 none none) HR2.out rfl rfl) rfl ⟨HB2.out, .inl ⟨HF.out, none, 0, 0, none, none, rfl⟩⟩
      | true =>
      obtain ⟨ps, hp1, hp2, hp3, hp4⟩ := HDP.out hst
      obtain ⟨K, hK, hKm⟩ : ∃ K : Nat, K < 10 ∧ (k = 7 → km = K) := by
        by_cases h7 : k = 7
        · have h := hnm
          unfold namB at h
          rw [if_pos h7, Bool.and_eq_true, Bool.and_eq_true, decide_eq_true_iff, decide_eq_true_iff] at h
          exact ⟨km.toNat, by omega, fun _ => by omega⟩
        · exact ⟨0, by omega, fun h => absurd h h7⟩
      have HLE2 := Lib.hid (HLE.out ps hp1 hp2 K hK hKm)
      have HDS2 := Lib.hid (fun hf => HDS.out hf ps hp2 hp3 hp4 K hKm)
      have HLN : Hid (lnB k (mkF (mI l i) ps) K = true ↔ noT l ⟨k, kc, kn, km, t⟩ (loT l i) i = true) := Lib.hid (by
        have e2 : mkF (mI l i) ps = mkF (mkG l) ps := mkF_congr _ _ _ fun p hp => by funext m; exact if_pos (hp2 p hp)
        rw [e2]
        unfold lnB
        by_cases h7 : k = 7
        · rw [if_pos h7, hp4 K, HNEW.out h7 K (hKm h7)]
        · rw [if_neg h7]
          exact ⟨fun _ => decide_eq_true (fun h => absurd h h7), fun _ => rfl⟩)
      have hT5 := HTc.out.kpA HKp5.out (by rintro (h | h) <;> omega)
      have t0 := hT5.cell 0; have t1 := hT5.cell 1; have t2 := hT5.cell 2
      simp only [List.getElem?_toArray, List.getElem?_cons_zero, List.getElem?_cons_succ] at t0 t1 t2
      clear hT5 HLE HDP HDS HNEW hp1 hp2 hp3 hp4
      go_wp2_with fail
      refine (HLE2.out _ HN5.out (Nat.lt_of_lt_of_le hLz HKp5.out.size) (Nat.lt_of_lt_of_le hGz HKp5.out.size) HS5.out).mono ?_
      rintro e w6 ⟨rfl, hS6, hk6⟩
      clear t0 t1 t2 HLE2
      have HX6 := Lib.hid (HX5.out.kpA hk6 (by rintro (h | h) <;> omega))
      have HKp6 := Lib.hid (HKp5.out.trans hk6)
      clear HX5 HS5 HKp5 HN5 hk6
      cases hln : lnB k (mkF (mI l i) ps) K with
      | false =>
        have HF := Lib.hid (HBAD.out (by
          cases hf : fineT l s i ⟨k, kc, kn, km, t⟩ with
          | false => rfl
          | true => have := HLN.out.2 (HFINE.out.1 hf).2.2; rw [hln] at this; cases this))
        have HR := Lib.hid (HRc.out.kpA HKp6.out (by rintro (h | h) <;> omega))
        have HBW := Lib.hid (HBc.out.trans (HKp6.out.toBelow (n := w.heap.size) HBc.out.size (by rintro k (h | h) <;> omega)))
        clear HDS2 HMORE HLF HLN HFINE HBAD hS6 HX6 HKp6 hnm hst hln
        have r0 := HR.out.cell 0; have r1 := HR.out.cell 1; have r2 := HR.out.cell 2
        have s0 := HR.out.frozen 0; have s1 := HR.out.frozen 1; have s2 := HR.out.frozen 2
        simp only [List.getElem?_toArray, List.getElem?_cons_zero, List.getElem?_cons_succ] at r0 r1 r2
        have HR2 := Lib.hid (((HR.out.set 0 (.slice none 0 0)).set 1 (.slice none 0 0)).set 2 (.slice none 0 0))
        have HB2 := Lib.hid (below_set (below_set (below_set HBW.out (Nat.le_refl _) 0 (.slice none 0 0)) (Nat.le_refl _) 1 (.slice none 0 0)) (Nat.le_refl _) 2 (.slice none 0 0))
        clear HR HBW
        go_wp2_with fail
        exact bodyPost_ret (v := .tuple #[.agg (tmC none 0 0 none none), .bool false]) (results_tm _ _ w.heap.size (tmC none 0 0 none none) HR2.out rfl rfl) rfl ⟨HB2.out, .inl ⟨HF.out, none, 0, 0, none, none, rfl⟩⟩
      | true =>
      have hf := HFINE.out.2 ⟨hnm, hst, HLN.out.1 hln⟩
      have HTR := Lib.hid (HMORE.out hf)
      obtain ⟨q1, q2⟩ := HDS2.out hf
      have HS7 := Lib.hid (hS6.congr (fun x _ => q1 x) (fun x m _ _ => q2 x m))
      have n0 := HX6.out.cell 0
      simp only [List.getElem?_toArray, List.getElem?_cons_zero] at n0
      have hlfb : lfT (l.take i) ≤ i := by
        unfold lfT
        refine Nat.le_trans List.countP_le_length ?_
        rw [List.length_map, List.length_take]
        omega
      have HLF2 := Lib.hid HLF.out
      clear hf hS6 q1 q2 HDS2 HMORE HLN HFINE HBAD HX6 hnm hst hln HLF
      by_cases hk2 : k = 2
      · subst hk2
        have xl : IntKind.i64.wrap ((lfT (l.take i) : Int) + 1) = ((lfT (l.take i) + 1 : Nat) : Int) := by rw [IntWalk.i64_in _ (by omega)]; omega
        have HLF3 := Lib.hid (show lfT (l.take (i + 1)) = lfT (l.take i) + 1 from HLF2.out)
        clear HLF2
        go_wp2_with fail
        go_roundw
        case rel => exact ⟨i + 1, by omega, by simp, by rw [HLF3.out]; rfl, ⟨_, HTR.out⟩, HS7.out, HKp6.out⟩
        case measure => simp [intOf]; omega
      · have qk2 : (k == 2) = false := by rw [beq_eq_false_iff_ne]; exact hk2
        have HLF3 := Lib.hid (show lfT (l.take (i + 1)) = lfT (l.take i) from by rw [HLF2.out, if_neg (by rw [qk2]; decide)]; rfl)
        clear HLF2
        go_wp2_with fail
        go_roundw
        case rel => exact ⟨i + 1, by omega, by simp, by rw [HLF3.out], ⟨_, HTR.out⟩, HS7.out, HKp6.out⟩
        case measure => simp [intOf]; omega
    · obtain rfl : i = l.length := by omega
      have hdI : decide ((l.length : Int) < (l.length : Int)) = false := by simp
      have HRT := Lib.hid (right_end l s hs (by omega))
      rw [List.take_of_length_le (Nat.le_refl _)]
      have HRw := Lib.hid (HRc.out.kpA hKp (by rintro (h | h) <;> omega))
      have hTw := HTc.out.kpA hKp (by rintro (h | h) <;> omega)
      have HBW := Lib.hid (HBc.out.trans (hKp.toBelow (n := w.heap.size) HBc.out.size (by rintro k (h | h) <;> omega)))
      have t0 := hTw.cell 0; have t1 := hTw.cell 1; have t2 := hTw.cell 2
      simp only [List.getElem?_toArray, List.getElem?_cons_zero, List.getElem?_cons_succ] at t0 t1 t2
      have hlp : 0 < l.length := by omega
      have cl := (hS.low (l.length - 1) (by omega)).1
      rw [vI, if_pos (by omega)] at cl
      have HSw := Lib.hid hS
      have HKw := Lib.hid hKp
      have r0 := HRw.out.cell 0; have r1 := HRw.out.cell 1; have r2 := HRw.out.cell 2
      have s0 := HRw.out.frozen 0; have s1 := HRw.out.frozen 1; have s2 := HRw.out.frozen 2
      simp only [List.getElem?_toArray, List.getElem?_cons_zero, List.getElem?_cons_succ] at r0 r1 r2
      have x1 : IntKind.i64.wrap ((l.length : Int) - 1) = ((l.length - 1 : Nat) : Int) := by rw [IntWalk.i64_in _ (by omega)]; omega
      have hiI : ((l.length - 1 : Nat) : Int) < (l.length : Int) := by omega
      have hid : decide (l.length - 1 < l.length) = true := by rw [decide_eq_true_iff]; omega
      have HR2 := Lib.hid (((HRw.out.set 0 (.slice a l.length cap)).set 1 (.slice (some ⟨L, 0, none⟩) l.length l.length)).set 2 (.slice (some ⟨G, 0, none⟩) l.length l.length)).drew
      have HB2 := Lib.hid (below_set (below_set (below_set HBW.out (Nat.le_refl _) 0 (.slice a l.length cap)) (Nat.le_refl _) 1 (.slice (some ⟨L, 0, none⟩) l.length l.length)) (Nat.le_refl _) 2 (.slice (some ⟨G, 0, none⟩) l.length l.length))
      have hk1 := (KpA.refl (fun k => k = w.heap.size) wr).set (g := w.heap.size) (.inl rfl) 0 (.slice a l.length cap)
      have hk2 := hk1.set (g := w.heap.size) (.inl rfl) 1 (.slice (some ⟨L, 0, none⟩) l.length l.length)
      have hk3 := hk2.set (g := w.heap.size) (.inl rfl) 2 (.slice (some ⟨G, 0, none⟩) l.length l.length)
      have HS2 := Lib.hid (HSw.out.kp hk3 (show ¬ L = w.heap.size by omega) (show ¬ G = w.heap.size by omega))
      clear hk1 hk2 hk3
      have hwl := hKp.size
      generalize hlv : lowV l (l.length - 1) = lo at *
      clear hS hKp hTw HRw HBW
      generalize hlf : lfT l = lf at *
      clear hlf hlv
      by_cases h64 : lf ≤ 64
      · have hq : decide (lf ≤ 64) = true := decide_eq_true h64
        have hqI : decide ((lf : Int) ≤ 64) = true := by rw [decide_eq_true_iff]; omega
        go_upto_region 13 with fail
        go_region
        have HB3 := Lib.hid (show Below w.heap.size w (((wr.setCell ⟨w.heap.size, 0, none⟩ (.slice a l.length cap)).setCell ⟨w.heap.size, 1, none⟩ (.slice (some ⟨L, 0, none⟩) l.length l.length)).setCell ⟨w.heap.size, 2, none⟩ (.slice (some ⟨G, 0, none⟩) l.length l.length)).drew from ⟨HB2.out.os, HB2.out.tape, HB2.out.output, HB2.out.size, HB2.out.block⟩)
        have HS3 := Lib.hid HS2.out.drew
        have hzL : L < (((wr.setCell ⟨w.heap.size, 0, none⟩ (.slice a l.length cap)).setCell ⟨w.heap.size, 1, none⟩ (.slice (some ⟨L, 0, none⟩) l.length l.length)).setCell ⟨w.heap.size, 2, none⟩ (.slice (some ⟨G, 0, none⟩) l.length l.length)).drew.heap.size := by simpa using (show L < wr.heap.size by omega)
        have hzG : G < (((wr.setCell ⟨w.heap.size, 0, none⟩ (.slice a l.length cap)).setCell ⟨w.heap.size, 1, none⟩ (.slice (some ⟨L, 0, none⟩) l.length l.length)).setCell ⟨w.heap.size, 2, none⟩ (.slice (some ⟨G, 0, none⟩) l.length l.length)).drew.heap.size := by simpa using (show G < wr.heap.size by omega)
        clear HB2 HS2 HSw HKw r0 r1 r2 s0 s1 s2 t0 t1 t2 cl
        generalize (((wr.setCell ⟨w.heap.size, 0, none⟩ (.slice a l.length cap)).setCell ⟨w.heap.size, 1, none⟩ (.slice (some ⟨L, 0, none⟩) l.length l.length)).setCell ⟨w.heap.size, 2, none⟩ (.slice (some ⟨G, 0, none⟩) l.length l.length)).drew = w9 at *
        by_cases h0 : lo = 0
        · subst h0
          have HT := Lib.hid (show rightT l = true from by rw [HRT.out]; exact decide_eq_true ⟨by omega, h64, rfl⟩)
          clear HRT
          go_wp2_with fail
          exact bodyPost_ret (v := .tuple #[.agg (tmC a l.length cap (some ⟨L, 0, none⟩) (some ⟨G, 0, none⟩)), .bool true]) (results_tm _ _ w.heap.size _ HR2.out rfl rfl) rfl ⟨HB3.out, .inr ⟨HT.out, L, G, rfl, by omega, by omega, hzL, hzG, HS3.out⟩⟩
        · have q0 : ((lo : Int) == 0) = false := by rw [beq_eq_false_iff_ne]; omega
          have HF := Lib.hid (show rightT l = false from by rw [HRT.out]; exact decide_eq_false fun h => h0 h.2.2)
          clear HRT
          rw [q0]
          go_wp2_with fail
          exact bodyPost_ret (v := .tuple #[.agg (tmC a l.length cap (some ⟨L, 0, none⟩) (some ⟨G, 0, none⟩)), .bool false]) (results_tm _ _ w.heap.size _ HR2.out rfl rfl) rfl ⟨HB3.out, .inl ⟨HF.out, _, _, _, _, _, rfl⟩⟩
      · have hq : decide (lf ≤ 64) = false := decide_eq_false h64
        have hqI : decide ((lf : Int) ≤ 64) = false := by rw [decide_eq_false_iff_not]; omega
        go_upto_region 13 with fail
        go_region
        have HB3 := Lib.hid (show Below w.heap.size w (((wr.setCell ⟨w.heap.size, 0, none⟩ (.slice a l.length cap)).setCell ⟨w.heap.size, 1, none⟩ (.slice (some ⟨L, 0, none⟩) l.length l.length)).setCell ⟨w.heap.size, 2, none⟩ (.slice (some ⟨G, 0, none⟩) l.length l.length)).drew from ⟨HB2.out.os, HB2.out.tape, HB2.out.output, HB2.out.size, HB2.out.block⟩)
        have HF := Lib.hid (show rightT l = false from by rw [HRT.out]; exact decide_eq_false fun h => h64 h.2.1)
        clear HB2 HS2 HSw HKw HRT r0 r1 r2 s0 s1 s2 t0 t1 t2 cl
        generalize (((wr.setCell ⟨w.heap.size, 0, none⟩ (.slice a l.length cap)).setCell ⟨w.heap.size, 1, none⟩ (.slice (some ⟨L, 0, none⟩) l.length l.length)).setCell ⟨w.heap.size, 2, none⟩ (.slice (some ⟨G, 0, none⟩) l.length l.length)).drew = w9 at *
        go_wp2_with fail
        exact bodyPost_ret (v := .tuple #[.agg (tmC a l.length cap (some ⟨L, 0, none⟩) (some ⟨G, 0, none⟩)), .bool false]) (results_tm _ _ w.heap.size _ HR2.out rfl rfl) rfl ⟨HB3.out, .inl ⟨HF.out, _, _, _, _, _, rfl⟩⟩
end Go.Proofs.YtdpkhliojbeglaaDoor

/- What is found, plainly: the first beginning, the farthest end. Stage 15. -/
namespace Go.Proofs.YtdpkhliojbeglaaDoor
open Go.RowKit

/-- The greatest number from i to j of which something holds. -/
def lastO (P : Nat → Bool) (i : Nat) : Nat → Option Nat
  | 0 => if i = 0 ∧ P 0 = true then some 0 else none
  | j + 1 => if j + 1 < i then none else if P (j + 1) = true then some (j + 1) else lastO P i j
theorem last_some (P : Nat → Bool) (i : Nat) : ∀ j k, lastO P i j = some k → i ≤ k ∧ k ≤ j ∧ P k = true ∧ ∀ m, m ≤ j → i ≤ m → P m = true → m ≤ k
  | 0, k, h => by
    unfold lastO at h
    split at h
    · rename_i hc; cases h; exact ⟨by omega, Nat.le_refl _, hc.2, fun m h1 _ _ => h1⟩
    · cases h
  | j + 1, k, h => by
    unfold lastO at h
    split at h
    · cases h
    · split at h
      · rename_i h1 h2; cases h; exact ⟨by omega, Nat.le_refl _, h2, fun m h1 _ _ => h1⟩
      · rename_i h1 h2
        obtain ⟨a, b, c, d⟩ := last_some P i j k h
        refine ⟨a, by omega, c, fun m m1 m2 m3 => ?_⟩
        by_cases hm : m = j + 1
        · subst hm; exact absurd m3 h2
        · exact d m (by omega) m2 m3
theorem last_none (P : Nat → Bool) (i : Nat) : ∀ j, lastO P i j = none → ∀ m, m ≤ j → i ≤ m → P m = false
  | 0, h, m, h1, h2 => by
    unfold lastO at h
    split at h
    · cases h
    · rename_i hc
      obtain rfl : m = 0 := by omega
      exact Bool.eq_false_iff.2 fun h3 => hc ⟨by omega, h3⟩
  | j + 1, h, m, h1, h2 => by
    unfold lastO at h
    split at h
    · omega
    · split at h
      · cases h
      · rename_i _ h3
        by_cases hm : m = j + 1
        · subst hm; exact Bool.eq_false_iff.2 h3
        · exact last_none P i j h m (by omega) h2
/-- The first place from i on at which something begins; the last one to which it goes. -/
def findF (c : Nat → Nat → Bool) (n : Nat) : Nat → Nat → Option (Nat × Nat)
  | 0, _ => none
  | m + 1, i => match lastO (c i) i n with
    | some j => some (i, j)
    | none => findF c n m (i + 1)
theorem find_some (c : Nat → Nat → Bool) (n : Nat) : ∀ m i a b, findF c n m i = some (a, b) → i ≤ a ∧ a ≤ b ∧ b ≤ n ∧ c a b = true ∧ ∀ x y, i ≤ x → x ≤ y → y ≤ n → c x y = true → a < x ∨ a = x ∧ y ≤ b
  | 0, _, _, _, h => by cases h
  | m + 1, i, a, b, h => by
    unfold findF at h
    cases hl : lastO (c i) i n with
    | some j =>
      rw [hl] at h
      cases h
      obtain ⟨h1, h2, h3, h4⟩ := last_some _ _ _ _ hl
      refine ⟨Nat.le_refl _, h1, h2, h3, fun x y x1 x2 x3 x4 => ?_⟩
      by_cases hx : x = i
      · subst hx; exact .inr ⟨rfl, h4 y x3 x2 x4⟩
      · exact .inl (by omega)
    | none =>
      rw [hl] at h
      obtain ⟨h1, h2, h3, h4, h5⟩ := find_some c n m (i + 1) a b h
      refine ⟨by omega, h2, h3, h4, fun x y x1 x2 x3 x4 => ?_⟩
      by_cases hx : x = i
      · subst hx
        rw [last_none _ _ _ hl y x3 x2] at x4
        cases x4
      · exact h5 x y (by omega) x2 x3 x4
theorem find_none (c : Nat → Nat → Bool) (n : Nat) : ∀ m i, n < i + m → findF c n m i = none → ∀ x y, i ≤ x → x ≤ y → y ≤ n → c x y = false
  | 0, i, hm, _, x, y, x1, x2, x3 => by omega
  | m + 1, i, hm, h, x, y, x1, x2, x3 => by
    unfold findF at h
    cases hl : lastO (c i) i n with
    | some j => rw [hl] at h; cases h
    | none =>
      rw [hl] at h
      by_cases hx : x = i
      · subst hx; exact last_none _ _ _ hl y x3 x2
      · exact find_none c n m (i + 1) (by omega) h x y (by omega) x2 x3
/-- What is found of a term. -/
def findT (l : List NdN) (w : List Nat) : Option (Nat × Nat) := findF (canB l w (l.length - 1)) w.length (w.length + 1) 0

/-- All places moved on. -/
def shF (a : Nat) : Fo → Fo
  | .nil => .nil
  | .cons n f e ks rest => .cons n (f + a) (e + a) (shF a ks) (shF a rest)
theorem roots_sh (a : Nat) : ∀ ks, rootsO (shF a ks) = (rootsO ks).map fun r => (r.1, r.2.1 + a, r.2.2 + a)
  | .nil => rfl
  | .cons n f e ks rest => by simp only [shF, rootsO, List.map_cons, roots_sh a rest]
theorem fl_sh (a : Nat) : ∀ (ks : Fo) (d : Int), flF d (shF a ks) = (flF d ks).map fun x => ⟨x.depth, x.node, x.from_ + a, x.to + a⟩
  | .nil, _ => rfl
  | .cons n f e ks rest, d => by
    simp only [shF, flF, List.map_cons, List.map_append, fl_sh a ks, fl_sh a rest, List.cons.injEq, and_true]
    simp
/-- Bytes that stand in others from a on. -/
def CutW (w v : List Nat) (a : Nat) : Prop := a + v.length ≤ w.length ∧ ∀ i, i < v.length → v.getD i 0 = w.getD (i + a) 0
theorem chain_sh (p a : Nat) : ∀ (R : List (Nat × Nat × Nat)) (f e : Nat), chainR p f e R → chainR p (f + a) (e + a) (R.map fun r => (r.1, r.2.1 + a, r.2.2 + a))
  | [], f, e, h => by have h' : f = e := h; show f + a = e + a; omega
  | (n, f', m) :: R, f, e, h => by
    obtain ⟨h1, h2, h3, h4, h5⟩ := h
    exact ⟨h1, by show f' + a = f + a; omega, by show f + a < m + a; omega, by show m + a ≤ e + a; omega, chain_sh p a R m e h5⟩
theorem node_sh {x : NdN} {w v : List Nat} {a : Nat} (hc : CutW w v a) {f e : Nat} {R : List (Nat × Nat × Nat)} (h : nodeOk x v f e R) : nodeOk x w (f + a) (e + a) (R.map fun r => (r.1, r.2.1 + a, r.2.2 + a)) := by
  obtain ⟨h1, h2, c⟩ := h
  obtain ⟨hl, hw⟩ := hc
  refine ⟨by omega, by omega, ?_⟩
  rcases c with ⟨k, h, r⟩ | ⟨k, h, h', r⟩ | ⟨k, p, q, m, hp, hq, r⟩ | ⟨k, p, hp, r⟩ | ⟨k, p, hp, r⟩ | ⟨k, r⟩ | ⟨k, p, hp, r⟩
  · exact .inl ⟨k, by omega, by rw [r]; rfl⟩
  · exact .inr (.inl ⟨k, by omega, by rw [← hw f (by omega)]; exact h', by rw [r]; rfl⟩)
  · exact .inr (.inr (.inl ⟨k, p, q, m + a, hp, hq, by rw [r]; rfl⟩))
  · exact .inr (.inr (.inr (.inl ⟨k, p, hp, by rw [r]; rfl⟩)))
  · exact .inr (.inr (.inr (.inr (.inl ⟨k, p, hp, chain_sh p a R f e r⟩))))
  · refine .inr (.inr (.inr (.inr (.inr (.inl ⟨k, ?_⟩)))))
    rcases r with ⟨h, r⟩ | ⟨h, p, hp, r⟩
    · exact .inl ⟨by omega, by rw [r]; rfl⟩
    · exact .inr ⟨by omega, p, hp, by rw [r]; rfl⟩
  · exact .inr (.inr (.inr (.inr (.inr (.inr ⟨k, p, hp, by rw [r]; rfl⟩)))))
theorem ok_sh {l : List NdN} {w v : List Nat} {a : Nat} (hc : CutW w v a) : ∀ ks, okF l v ks → okF l w (shF a ks)
  | .nil, _ => trivial
  | .cons n f e ks rest, h => ⟨by rw [roots_sh]; exact node_sh hc h.1, ok_sh hc ks h.2.1, ok_sh hc rest h.2.2⟩
end Go.Proofs.YtdpkhliojbeglaaDoor

/- The tree that is made, kid by kid; how long it is, plainly. Stage 15. -/
namespace Go.Proofs.YtdpkhliojbeglaaDoor
open Go.RowKit

section
variable (l : List NdN) (c : Nat → Nat → Nat → Bool)
theorem starG_congr (p q j : Nat) {g h : Nat → Nat → Fo} (e : ∀ a b, g a b = h a b) : ∀ m i, starG c g p q j m i = starG c h p q j m i
  | 0, _ => rfl
  | m + 1, i => by
    unfold starG
    rw [e, starG_congr p q j e m]
theorem kids_fuel (hP : PartsOk l) : ∀ k k' q, q < k → q < k' → q < l.length → ∀ i j, kidsG l c k q i j = kidsG l c k' q i j
  | 0, _, _, h, _, _, _, _ => absurd h (by omega)
  | _ + 1, 0, _, _, h, _, _, _ => absurd h (by omega)
  | k + 1, k' + 1, q, h1, h2, hq, i, j => by
    have ih := kids_fuel hP k k'
    have hkk := hP.kind q hq
    unfold kidsG
    by_cases e3 : (ndE l q).kind = 3
    · obtain ⟨a, ha, haq⟩ := hP.a q hq (by omega)
      obtain ⟨b, hb, hbq⟩ := hP.b q hq (.inl e3)
      rw [if_pos e3, if_pos e3, ha, hb, Int.toNat_natCast, Int.toNat_natCast, ih a (by omega) (by omega) (by omega), ih b (by omega) (by omega) (by omega)]
    rw [if_neg e3, if_neg e3]
    by_cases e4 : (ndE l q).kind = 4
    · obtain ⟨a, ha, haq⟩ := hP.a q hq (by omega)
      obtain ⟨b, hb, hbq⟩ := hP.b q hq (.inr e4)
      rw [if_pos e4, if_pos e4, ha, hb, Int.toNat_natCast, Int.toNat_natCast, ih a (by omega) (by omega) (by omega), ih b (by omega) (by omega) (by omega)]
    rw [if_neg e4, if_neg e4]
    by_cases e5 : (ndE l q).kind = 5
    · obtain ⟨a, ha, haq⟩ := hP.a q hq (by omega)
      rw [if_pos e5, if_pos e5, ha, Int.toNat_natCast]
      exact starG_congr c a q j (ih a (by omega) (by omega) (by omega)) _ _
    rw [if_neg e5, if_neg e5]
    by_cases e6 : (ndE l q).kind = 6
    · obtain ⟨a, ha, haq⟩ := hP.a q hq (by omega)
      rw [if_pos e6, if_pos e6, ha, Int.toNat_natCast, ih a (by omega) (by omega) (by omega)]
    rw [if_neg e6, if_neg e6]
    by_cases e7 : 7 ≤ (ndE l q).kind
    · obtain ⟨a, ha, haq⟩ := hP.a q hq (by omega)
      rw [if_pos e7, if_pos e7, ha, Int.toNat_natCast, ih a (by omega) (by omega) (by omega)]
    rw [if_neg e7, if_neg e7]
/-- All uppermost nodes are of lesser nodes, and their trees are those that are made of them. -/
def GrF (k : Nat) : Fo → Prop
  | .nil => True
  | .cons p f m ks rest => p < k ∧ ks = kidsG l c (p + 1) p f m ∧ GrF k rest
theorem star_gr (hP : PartsOk l) (p q j k : Nat) (hpk : p < k) (hp : p < l.length) : ∀ m i, GrF l c k (starG c (kidsG l c k p) p q j m i)
  | 0, _ => trivial
  | m + 1, i => by
    unfold starG
    split
    · exact ⟨hpk, kids_fuel l c hP _ _ _ hpk (by omega) hp _ _, star_gr hP p q j k hpk hp m _⟩
    · trivial
theorem kids_gr (hP : PartsOk l) (q : Nat) (hq : q < l.length) (i j : Nat) : GrF l c q (kidsG l c (q + 1) q i j) := by
  have hkk := hP.kind q hq
  have one : ∀ p, p < q → ∀ f m, GrF l c q (.cons p f m (kidsG l c q p f m) .nil) := fun p hp f m => ⟨hp, kids_fuel l c hP _ _ _ hp (by omega) (by omega) _ _, trivial⟩
  unfold kidsG
  by_cases e3 : (ndE l q).kind = 3
  · obtain ⟨a, ha, haq⟩ := hP.a q hq (by omega)
    obtain ⟨b, hb, hbq⟩ := hP.b q hq (.inl e3)
    rw [if_pos e3, ha, hb, Int.toNat_natCast, Int.toNat_natCast]
    exact ⟨haq, kids_fuel l c hP _ _ _ haq (by omega) (by omega) _ _, one b hbq _ _⟩
  rw [if_neg e3]
  by_cases e4 : (ndE l q).kind = 4
  · obtain ⟨a, ha, haq⟩ := hP.a q hq (by omega)
    obtain ⟨b, hb, hbq⟩ := hP.b q hq (.inr e4)
    rw [if_pos e4, ha, hb, Int.toNat_natCast, Int.toNat_natCast]
    split
    · exact one a haq _ _
    · exact one b hbq _ _
  rw [if_neg e4]
  by_cases e5 : (ndE l q).kind = 5
  · obtain ⟨a, ha, haq⟩ := hP.a q hq (by omega)
    rw [if_pos e5, ha, Int.toNat_natCast]
    exact star_gr l c hP a q j q haq (by omega) _ _
  rw [if_neg e5]
  by_cases e6 : (ndE l q).kind = 6
  · obtain ⟨a, ha, haq⟩ := hP.a q hq (by omega)
    rw [if_pos e6, ha, Int.toNat_natCast]
    split
    · exact one a haq _ _
    · trivial
  rw [if_neg e6]
  by_cases e7 : 7 ≤ (ndE l q).kind
  · obtain ⟨a, ha, haq⟩ := hP.a q hq (by omega)
    rw [if_pos e7, ha, Int.toNat_natCast]
    exact one a haq _ _
  rw [if_neg e7]
  trivial
theorem gr_lt (k : Nat) : ∀ ks, GrF l c k ks → ∀ r ∈ rootsO ks, r.1 < k
  | .nil, _, r, hr => by cases hr
  | .cons p f m ks rest, h, r, hr => by
    rcases List.mem_cons.1 hr with rfl | hr
    · exact h.1
    · exact gr_lt k rest h.2.2 r hr
theorem gr_flat (k : Nat) (d : Int) : ∀ ks, GrF l c k ks → flF d ks = (rootsO ks).flatMap fun r => flF d (.cons r.1 r.2.1 r.2.2 (kidsG l c (r.1 + 1) r.1 r.2.1 r.2.2) .nil)
  | .nil, _ => rfl
  | .cons p f m ks rest, h => by
    obtain ⟨h1, rfl, h3⟩ := h
    rw [flF_one, rootsO, List.flatMap_cons, gr_flat k d rest h3]
end
section
variable {l : List NdN} {w : List Nat}
/-- How many nodes a node's tree has at most: as many as it has parts for each byte, or once. -/
def szB (l : List NdN) (q i j : Nat) : Nat := (q + 1 - lowV l q) * max 1 (j - i)
theorem len_flat (d : Int) (g : Nat × Nat × Nat → List EnN) (f : Nat × Nat × Nat → Nat) : ∀ R : List (Nat × Nat × Nat), (∀ r ∈ R, (g r).length ≤ f r) → (R.flatMap g).length ≤ (R.map f).sum
  | [], _ => Nat.le_refl _
  | r :: R, h => by
    rw [List.flatMap_cons, List.length_append, List.map_cons, List.sum_cons]
    have h1 := h r (List.mem_cons_self ..)
    have h2 := len_flat d g f R (fun x hx => h x (List.mem_cons_of_mem _ hx))
    omega
theorem chain_sum (s : Nat) (p : Nat) : ∀ (R : List (Nat × Nat × Nat)) (i j : Nat), chainR p i j R → (R.map fun r => s * max 1 (r.2.2 - r.2.1)).sum = s * (j - i)
  | [], i, j, h => by
    have h' : i = j := h
    subst h'; simp
  | (n, f, m) :: R, i, j, h => by
    obtain ⟨_, rfl, h3, h4, h5⟩ := h
    have ih := chain_sum s p R m j h5
    rw [List.map_cons, List.sum_cons, ih]
    have e : max 1 (m - f) = m - f := by omega
    show s * max 1 (m - f) + s * (j - m) = _
    rw [e, ← Nat.mul_add]
    congr 1; omega
theorem grow_len (hr : rightT l = true) : ∀ k q i j (d : Int), q < k → q < l.length → canP l w q i j → (flF d (growB l w q i j)).length ≤ szB l q i j
  | 0, _, _, _, _, h, _, _ => absurd h (by omega)
  | k + 1, q, i, j, d, hqk, hq, hcan => by
    have hP := parts_ok l hr
    have ih := grow_len hr k
    obtain ⟨hij, hj⟩ := can_le hcan
    have hg := grow_is (w := w) hP q i j hq hcan
    have hok := hg.1.2.1
    have hno := hg.1.1
    have hgr := kids_gr l (canB l w) hP q hq i j
    have hfl := gr_flat l (canB l w) q (d + 1) _ hgr
    have hlt := gr_lt l (canB l w) q _ hgr
    have hcr := roots_can hok
    have hsum : ((rootsO (kidsG l (canB l w) (q + 1) q i j)).flatMap fun r => flF (d + 1) (.cons r.1 r.2.1 r.2.2 (kidsG l (canB l w) (r.1 + 1) r.1 r.2.1 r.2.2) .nil)).length ≤ ((rootsO (kidsG l (canB l w) (q + 1) q i j)).map fun r => szB l r.1 r.2.1 r.2.2).sum :=
      len_flat (d + 1) _ _ _ fun r hrm => ih r.1 r.2.1 r.2.2 (d + 1) (by have := hlt r hrm; omega) (by have := hlt r hrm; omega) (hcr r hrm)
    have e : (flF d (growB l w q i j)).length = (flF (d + 1) (kidsG l (canB l w) (q + 1) q i j)).length + 1 := by
      unfold growB; simp [flF]
    rw [e, hfl]
    have hnd : ndE l q = l[q] := by simp [ndE, hq]
    obtain ⟨_, _, hcase⟩ := hno
    generalize rootsO (kidsG l (canB l w) (q + 1) q i j) = R at *
    have hlq := lowV_le l q
    have hm1 : 1 ≤ max 1 (j - i) := by omega
    have h1q : (q + 1 - lowV l q) = 1 + (q - lowV l q) := by omega
    have hbase : (q - lowV l q) * max 1 (j - i) + 1 ≤ szB l q i j := by
      unfold szB; rw [h1q, Nat.add_mul, Nat.one_mul]; omega
    suffices hs : (R.map fun r => szB l r.1 r.2.1 r.2.2).sum ≤ (q - lowV l q) * max 1 (j - i) by omega
    rw [hnd] at hcase
    have one : ∀ p : Nat, p < q → p + 1 - lowV l p ≤ q - lowV l q → R = [(p, i, j)] → (R.map fun r => szB l r.1 r.2.1 r.2.2).sum ≤ (q - lowV l q) * max 1 (j - i) := fun p _ hle hR => by
      rw [hR, List.map_cons, List.map_nil, List.sum_cons, List.sum_nil, Nat.add_zero]
      exact Nat.mul_le_mul_right _ hle
    rcases nodek_parts l hr q hq with ⟨h0, ha, hb, hlo⟩ | ⟨a, h0, ha, hb, haq, hlo⟩ | ⟨a, b, h0, ha, hb, hbq, hab, hlo, haq⟩
    · have hk12 : l[q].kind = 1 ∨ l[q].kind = 2 := by
        have := hP.kind q hq; rw [hnd] at this
        unfold pcT at h0
        split at h0
        · omega
        · split at h0 <;> omega
      have hR : R = [] := by rcases hcase with ⟨_, _, h⟩ | ⟨_, _, _, h⟩ | ⟨h, _⟩ | ⟨h, _⟩ | ⟨h, _⟩ | ⟨h, _⟩ | ⟨h, _⟩ <;> first | exact h | omega
      rw [hR]; exact Nat.zero_le _
    · have hle : a + 1 - lowV l a ≤ q - lowV l q := by omega
      have hk58 : 5 ≤ l[q].kind := by
        have := hP.kind q hq; rw [hnd] at this
        unfold pcT at h0
        split at h0
        · omega
        · split at h0 <;> omega
      rcases hcase with ⟨h, _⟩ | ⟨h, _⟩ | ⟨h, _⟩ | ⟨h, _⟩ | ⟨_, p, hp, h⟩ | ⟨_, h⟩ | ⟨_, p, hp, h⟩
      · omega
      · omega
      · omega
      · omega
      · have ep : p = a := by omega
        subst ep
        have hall : ∀ (R : List (Nat × Nat × Nat)) i, chainR p i j R → ∀ r ∈ R, r.1 = p := fun R => by
          induction R with
          | nil => intro i _ r hr; cases hr
          | cons x R ihR =>
            intro i h r hr
            rcases List.mem_cons.1 hr with rfl | hr
            · exact h.1
            · exact ihR _ h.2.2.2.2 r hr
        have hs := chain_sum (p + 1 - lowV l p) p R i j h
        have he : (R.map fun r => szB l r.1 r.2.1 r.2.2) = R.map fun r => (p + 1 - lowV l p) * max 1 (r.2.2 - r.2.1) := List.map_congr_left fun r hr => by unfold szB; rw [hall R i h r hr]
        rw [he, hs]
        exact Nat.mul_le_mul hle (by omega)
      · rcases h with ⟨_, h⟩ | ⟨_, p, hp, h⟩
        · rw [h]; exact Nat.zero_le _
        · have ep : p = a := by omega
          subst ep
          exact one p (by omega) hle h
      · have ep : p = a := by omega
        subst ep
        exact one p (by omega) hle h
    · have hk34 : l[q].kind = 3 ∨ l[q].kind = 4 := by
        have := hP.kind q hq; rw [hnd] at this
        unfold pcT at h0
        split at h0
        · assumption
        · split at h0 <;> omega
      have hlb := lowV_le l b
      have hla := lowV_le l a
      have hs2 : (a + 1 - lowV l a) + (b + 1 - lowV l b) ≤ q - lowV l q := by omega
      rcases hcase with ⟨h, _⟩ | ⟨h, _⟩ | ⟨_, p, r, m, hp, hr', h⟩ | ⟨_, p, hp, h⟩ | ⟨h, _⟩ | ⟨h, _⟩ | ⟨h, _⟩
      · omega
      · omega
      · have ep : p = a := by omega
        have er : r = b := by omega
        subst ep er
        have l1 := can_le (hcr (p, i, m) (by rw [h]; exact List.mem_cons_self ..))
        have l2 := can_le (hcr (r, m, j) (by rw [h]; simp))
        simp only at l1 l2
        rw [h, List.map_cons, List.map_cons, List.map_nil, List.sum_cons, List.sum_cons, List.sum_nil, Nat.add_zero]
        unfold szB
        simp only
        have g1 : (p + 1 - lowV l p) * max 1 (m - i) ≤ (p + 1 - lowV l p) * max 1 (j - i) := Nat.mul_le_mul_left _ (by omega)
        have g2 : (r + 1 - lowV l r) * max 1 (j - m) ≤ (r + 1 - lowV l r) * max 1 (j - i) := Nat.mul_le_mul_left _ (by omega)
        have g3 : (p + 1 - lowV l p) * max 1 (j - i) + (r + 1 - lowV l r) * max 1 (j - i) ≤ (q - lowV l q) * max 1 (j - i) := by rw [← Nat.add_mul]; exact Nat.mul_le_mul_right _ hs2
        omega
      · rcases hp with hp | hp
        · have ep : p = a := by omega
          subst ep
          exact one p (by omega) (by omega) h
        · have ep : p = b := by omega
          subst ep
          exact one p (by omega) (by omega) h
      · omega
      · omega
      · omega
/-- At most as many as there are nodes, for each byte. -/
theorem grow_bound (hr : rightT l = true) (q i j : Nat) (d : Int) (hq : q < l.length) (hcan : canP l w q i j) : (flF d (growB l w q i j)).length ≤ l.length * max 1 w.length := by
  obtain ⟨h1, h2⟩ := can_le hcan
  refine Nat.le_trans (grow_len hr (q + 1) q i j d (Nat.lt_succ_self _) hq hcan) ?_
  unfold szB
  exact Nat.mul_le_mul (by omega) (by omega)
end
end Go.Proofs.YtdpkhliojbeglaaDoor

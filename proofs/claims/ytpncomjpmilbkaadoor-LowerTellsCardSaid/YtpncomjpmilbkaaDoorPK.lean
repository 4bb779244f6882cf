/- Texts put together: Ow Ya Yp On. -/
import Derived.Test.YtpncomjpmilbkaaDoorPI
import Derived.Laws.AppendOwn
import Derived.Laws.OwnMore
import Derived.Deep.AppendLies
import Derived.Test.YtpncomjpmilbkaaDoorPJ
import Derived.Test.YtpncomjpmilbkaaDoorPE
import Derived.Lib.SmallJoins
import Derived.Deep.Slices
import Derived.Deep.Fields
import Derived.ChangeSame
/- Rows of a call's own: kept where their blocks are; nodes side by side. -/
namespace Go.Proofs.YtpncomjpmilbkaaDoor
open Go.RowKit BS

/-- A row of the call's own, kept where its block is. -/
theorem owns_keep {W W' : World} {base : Nat} {e : TypeId} {size : Nat} {v : Value} {n : Nat} {xs : List Value} (h : W.ownsRow base e size v n xs) (hb : ∀ g, v.ownBlock = some g → W'.heap[g]? = W.heap[g]?) : W'.ownsRow base e size v n xs := by
  refine ⟨h.1, ?_⟩
  rcases h.2 with hn | ⟨g, cap, cur, rfl, h1, h2, h3⟩
  · exact .inl hn
  · exact .inr ⟨g, cap, cur, rfl, h1, (hb g rfl).trans h2, h3⟩
theorem owns_form {W : World} {base : Nat} {e : TypeId} {size : Nat} {v : Value} {n : Nat} {xs : List Value} (h : W.ownsRow base e size v n xs) : ∃ a cap, v = .slice a n cap := by
  rcases h.2 with ⟨rfl, rfl⟩ | ⟨g, cap, cur, rfl, _⟩
  · exact ⟨_, _, rfl⟩
  · exact ⟨_, _, rfl⟩
theorem owns_last {W : World} {base : Nat} {e : TypeId} {v x : Value} {n : Nat} {xs : List Value} (h : W.ownsRow base e 1 v (n + 1) (xs ++ [x])) :
    ∃ g cap, v = .slice (some ⟨g, 0, none⟩) (n + 1) cap ∧ base ≤ g ∧ g < W.heap.size ∧ n + 1 ≤ cap ∧ W.cell? ⟨g, n, none⟩ = some x ∧ W.ownsRow base e 1 (.slice (some ⟨g, 0, none⟩) n cap) n xs := by
  have hl := h.1
  rw [List.length_append, List.length_singleton, Nat.mul_one] at hl
  rcases h.2 with ⟨_, h0⟩ | ⟨g, cap, cur, rfl, h1, h2, h3, h4, h5, h6⟩
  · omega
  · have hlt : g < W.heap.size := (Array.getElem?_eq_some_iff.1 h2).1
    refine ⟨g, cap, rfl, h1, hlt, h3, ?_, ⟨by omega, .inr ⟨g, cap, cur, rfl, h1, h2, by omega, h4, h5, ?_⟩⟩⟩
    · have hc : W.cell? ⟨g, n, none⟩ = cur[n]? := by simp [World.cell?, h2]
      have := congrArg (fun l : List Value => l[n]?) h6
      simp only [Nat.mul_one] at this
      rw [List.getElem?_take, if_pos (show n < n + 1 by omega), List.getElem?_append_right (show xs.length ≤ n by omega), show n - xs.length = 0 by omega] at this
      rw [hc, ← Array.getElem?_toList, this]
      rfl
    · have := congrArg (List.take (n * 1)) h6
      rw [List.take_take, show min (n * 1) ((n + 1) * 1) = n * 1 by omega, List.take_append_of_le_length (show n * 1 ≤ xs.length by omega), List.take_of_length_le (show xs.length ≤ n * 1 by omega)] at this
      exact this

/-! ### Nodes side by side -/
theorem info8n : (Tryd.prog.info? 46).map (fun i => (i.zero, i.size, i.bytes)) = some (some (.agg #[.int .i64 0, .int .i64 0, .int .i64 0, .int .i64 0, .int .u64 0, .int .u64 0, .int .u64 0, .int .u64 0]), 8, 64) := by kernel_rfl
def ndCells (l : List NdN) : List Value := l.flatMap fun x => (ndA x).toList
theorem ndCells_app (l m : List NdN) : ndCells (l ++ m) = ndCells l ++ ndCells m := by simp [ndCells]
theorem ndCells_len (l : List NdN) : (ndCells l).length = l.length * 8 := by
  induction l with
  | nil => rfl
  | cons x l ih =>
    have e : ndCells (x :: l) = (ndA x).toList ++ ndCells l := by simp [ndCells]
    rw [e, List.length_append, ih, List.length_cons, show (ndA x).toList.length = 8 from rfl]
    omega
theorem ndCells_get : ∀ (l : List NdN) (i j : Nat) (h : i < l.length) (_hj : j < 8), (ndCells l)[i * 8 + j]? = (ndA l[i])[j]?
  | [], _, _, h, _ => absurd h (by simp)
  | x :: l, i, j, h, hj => by
    have e : ndCells (x :: l) = (ndA x).toList ++ ndCells l := by simp [ndCells]
    rw [e]
    cases i with
    | zero =>
      rw [List.getElem?_append_left (by rw [show (ndA x).toList.length = 8 from rfl]; omega), Nat.zero_mul, Nat.zero_add]
      simp
    | succ i =>
      rw [List.getElem?_append_right (by rw [show (ndA x).toList.length = 8 from rfl]; omega), show (ndA x).toList.length = 8 from rfl, show (i + 1) * 8 + j - 8 = i * 8 + j by omega]
      exact ndCells_get l i j (by simpa using h) hj
theorem ndCells_one (l : List NdN) : ∀ u ∈ ndCells l, u.oneCell' = true := fun u hu => by
  unfold ndCells at hu
  obtain ⟨x, _, hx⟩ := List.mem_flatMap.1 hu
  have h1 : ((ndA x).toList.all fun y => y.oneCell') = true := by simp [ndA, Value.oneCell']
  exact List.all_eq_true.1 h1 u hx
theorem nodes_news {l : List NdN} {g off : Nat} {W : World} (h : NodesAt l (some ⟨g, off, none⟩) W) : ∀ j u, (ndCells l)[j]? = some u → W.cell? ((⟨g, off, none⟩ : Addr).add j) = some u := fun j u hu => by
  have hj : j < (ndCells l).length := (List.getElem?_eq_some_iff.1 hu).1
  rw [ndCells_len] at hj
  have hne : l ≠ [] := by rintro rfl; simp at hj
  obtain ⟨g', off', e, _, hc⟩ := h hne
  cases e
  have h1 := hc (j / 8) (by omega) (j % 8) (by omega)
  rw [← ndCells_get l (j / 8) (j % 8) (by omega) (by omega), show off + j / 8 * 8 + j % 8 = off + j by omega, show j / 8 * 8 + j % 8 = j by omega, hu] at h1
  have e : (⟨g, off, none⟩ : Addr).add j = ⟨g, off + j, none⟩ := by
    unfold Addr.add
    by_cases h0 : j = 0
    · subst h0; rfl
    · rw [if_neg h0]
  rw [e]
  exact h1
theorem nodes_of_owns {l : List NdN} {v : Value} {base : Nat} {W : World} (h : W.ownsRow base 46 8 v l.length (ndCells l)) (hne : l ≠ []) : ∃ g cap, v = .slice (some ⟨g, 0, none⟩) l.length cap ∧ base ≤ g ∧ NodesAt l (some ⟨g, 0, none⟩) W := by
  rcases h.2 with ⟨_, h0⟩ | ⟨g, cap, cur, rfl, hb, hg, _, _, _, _⟩
  · exact absurd (List.eq_nil_of_length_eq_zero h0) hne
  · refine ⟨g, cap, rfl, hb, fun _ => ⟨g, 0, rfl, (Array.getElem?_eq_some_iff.1 hg).1, fun i hi j hj => ?_⟩⟩
    rw [Nat.zero_add]
    have hjj : i * 8 + j < (ndCells l).length := by rw [ndCells_len]; omega
    exact (h.cellAt (i * 8 + j) (by omega)).trans (ndCells_get l i j hi hj)
theorem owns_empty (W : World) (base : Nat) (hb : base ≤ W.heap.size) : (W.alloc (.cells #[] 46)).ownsRow base 46 8 (.slice (some ⟨W.heap.size, 0, none⟩) 0 0) 0 [] :=
  ⟨rfl, .inr ⟨W.heap.size, 0, #[], rfl, hb, Blk.new W #[] 46, Nat.le_refl _, Nat.zero_le _, rfl, rfl⟩⟩
end Go.Proofs.YtpncomjpmilbkaaDoor

/- The developers' trees: treeOf. -/
namespace Go.Proofs.YtpncomjpmilbkaaDoor
open Go.RowKit BS

@[reducible] def trC (a : Option Addr) (n cap : Nat) (b : Option Addr) (m c : Nat) : Array Value := #[.slice a n cap, .slice b m c]
/-- What treeOf answers. -/
def TreeQ (l : List NdN) (a : Option Addr) (cap : Nat) (w : World) (e : Ending) (w' : World) : Prop :=
  Below w.heap.size w w' ∧ ((manyF 0 (l.map NdN.kids) ≠ some 1 ∧ e = .returned (.tuple #[.agg (trC none 0 0 none 0 0), .bool false])) ∨
    (manyF 0 (l.map NdN.kids) = some 1 ∧ ∃ b, e = .returned (.tuple #[.agg (trC a l.length cap (some ⟨b, 0, none⟩) l.length l.length), .bool true]) ∧ IntsB w.heap.size (sizesR l) (some ⟨b, 0, none⟩) w'))
/-- (.. and the sizes' block, whole.) -/
def TreeQ2 (l : List NdN) (a : Option Addr) (cap : Nat) (w : World) (e : Ending) (w' : World) : Prop :=
  Below w.heap.size w w' ∧ ((manyF 0 (l.map NdN.kids) ≠ some 1 ∧ e = .returned (.tuple #[.agg (trC none 0 0 none 0 0), .bool false])) ∨
    (manyF 0 (l.map NdN.kids) = some 1 ∧ ∃ b, e = .returned (.tuple #[.agg (trC a l.length cap (some ⟨b, 0, none⟩) l.length l.length), .bool true]) ∧ w.heap.size ≤ b ∧ ∃ vs : Array Value, Blk w' b vs 3 ∧ ∀ j (h : j < (sizesR l).length), vs[j]? = some (.int .i64 (sizesR l)[j])))
theorem infoTr : (Tryd.prog.info? 106).map (·.size) = some 2 := by kernel_rfl
theorem kids_pos (l : List NdN) (h : ∀ j (h : j < l.length), 0 ≤ l[j].kids) : ∀ k ∈ l.map NdN.kids, 0 ≤ k := fun k hk => by
  obtain ⟨x, hx, rfl⟩ := List.mem_map.1 hk
  obtain ⟨j, hj, rfl⟩ := List.getElem_of_mem hx
  exact h j hj
/-- A list is a tree just if the last node's size is that of all. -/
theorem formed_last (l : List NdN) (st : List Nat) (hk : ∀ j (h : j < l.length), 0 ≤ l[j].kids) (hs : stackF [] (ksN l) = some st) (hn : 0 < l.length) (h' : l.length - 1 < (sizesF [] (ksN l)).length) :
    manyF 0 (l.map NdN.kids) = some 1 ↔ (sizesF [] (ksN l))[l.length - 1] = l.length := by
  have hkl : (ksN l).length = l.length := by simp [ksN]
  have hsum := stackF_sum _ _ _ hs
  have hpos := stackF_pos (ksN l) [] st (by simp) hs
  have hr := roots_all (ksN l) [] [] st (by simp) (by intro j hj; simp at hj) hs
  rw [List.nil_append] at hr
  rw [List.sum_nil, Nat.zero_add, hkl] at hsum
  have hl : (sizesF [] (ksN l)).length = l.length := by rw [sizesF_len, hkl]
  rw [formed_iff, List.length_map, show (l.map NdN.kids).map Int.toNat = ksN l from rfl, hs]
  cases st with
  | nil => simp at hsum; omega
  | cons x st =>
    obtain ⟨_, h2⟩ := hr 0 (by simp)
    rw [List.take_zero, List.sum_nil, Nat.sub_zero, hl, List.getElem?_eq_getElem h', List.getElem_cons_zero] at h2
    rw [Option.some.inj h2]
    constructor
    · rintro ⟨_, h⟩
      cases h; rfl
    · rintro rfl
      refine ⟨kids_pos l hk, ?_⟩
      rw [List.sum_cons] at hsum
      cases st with
      | nil => rfl
      | cons y st =>
        have := hpos y (by simp)
        rw [List.sum_cons] at hsum
        omega

theorem Blk.rowOther {W : World} {B B' : Nat} {vs : Array Value} {t : TypeId} (h : Blk W B vs t) (hne : B ≠ B') (cs : Array Value) : Blk (W.setRow B' cs) B vs t := by
  show (W.heap.modify B' _)[B]? = _
  rw [Array.getElem?_modify, if_neg (fun h => hne h.symm)]
  exact h
set_option maxRecDepth 100000 in
set_option maxHeartbeats 16000000 in
theorem treeOf2_calls (l : List NdN) (hl : l.length ≤ 1000000) (a : Option Addr) (cap : Nat) (w : World) (h : NodesAt l a w) :
    Calls Tryd.prog 63 #[.slice a l.length cap] w (TreeQ2 l a cap w) := by
  have HN := Lib.hid h
  have hkl : (ksN l).length = l.length := by simp [ksN]
  have hsl : (sizesF [] (ksN l)).length = l.length := by rw [sizesF_len, hkl]
  have hmk := fun W => run_make_row' (P := Tryd.prog) 50 3 (.int .i64 0) 8 Tryd.underlying50 (by kernel_rfl) rfl .i64 .i64 l.length (by omega) (by omega) W
  have hmz : (madeCells #[Value.int .i64 0] l.length).size = l.length := by simp [madeCells]
  generalize madeCells #[Value.int .i64 0] l.length = vs0 at *
  have HFL := Lib.hid (formed_last l)
  have HRO := Lib.hid (roots_at (ksN l))
  have HPO := Lib.hid (fun i s (hs : stackF [] ((ksN l).take i) = some s) => stackF_pos ((ksN l).take i) [] s (by simp) hs)
  have HFI := Lib.hid (fun hf : manyF 0 (l.map NdN.kids) = some 1 => (formed_iff (l.map NdN.kids)).1 hf)
  generalize hsz : sizesF [] (ksN l) = sz at *
  have HSZ := Lib.hid hsz
  have HKL := Lib.hid hkl
  clear hsz hkl h
  go_enter Tryd.func63, Tryd.ntmps63
  go_wp2_with fail
  clear hmk
  have hR : Blk (((w.alloc (.cells #[.slice none 0 0, .slice none 0 0] 106)).alloc (.cells vs0 3)).alloc (.cells #[.slice a l.length cap, .slice (some ⟨w.heap.size + 1, 0, none⟩) l.length l.length] 106)) w.heap.size (trC none 0 0 none 0 0) 106 := ((Blk.new w _ _).alloc _).alloc _
  have hS : Blk (((w.alloc (.cells #[.slice none 0 0, .slice none 0 0] 106)).alloc (.cells vs0 3)).alloc (.cells #[.slice a l.length cap, .slice (some ⟨w.heap.size + 1, 0, none⟩) l.length l.length] 106)) (w.heap.size + 1) vs0 3 := by
    have := (Blk.new (w.alloc (.cells #[.slice none 0 0, .slice none 0 0] 106)) vs0 3).alloc (.cells #[.slice a l.length cap, .slice (some ⟨w.heap.size + 1, 0, none⟩) l.length l.length] 106)
    simpa using this
  have hT : Blk (((w.alloc (.cells #[.slice none 0 0, .slice none 0 0] 106)).alloc (.cells vs0 3)).alloc (.cells #[.slice a l.length cap, .slice (some ⟨w.heap.size + 1, 0, none⟩) l.length l.length] 106)) (w.heap.size + 1 + 1) (trC a l.length cap (some ⟨w.heap.size + 1, 0, none⟩) l.length l.length) 106 := by
    have := Blk.new ((w.alloc (.cells #[.slice none 0 0, .slice none 0 0] 106)).alloc (.cells vs0 3)) #[.slice a l.length cap, .slice (some ⟨w.heap.size + 1, 0, none⟩) l.length l.length] 106
    simpa using this
  have hB : Below w.heap.size w (((w.alloc (.cells #[.slice none 0 0, .slice none 0 0] 106)).alloc (.cells vs0 3)).alloc (.cells #[.slice a l.length cap, .slice (some ⟨w.heap.size + 1, 0, none⟩) l.length l.length] 106)) := by go_grown
  generalize (((w.alloc (.cells #[.slice none 0 0, .slice none 0 0] 106)).alloc (.cells vs0 3)).alloc (.cells #[.slice a l.length cap, .slice (some ⟨w.heap.size + 1, 0, none⟩) l.length l.length] 106)) = w3 at *
  go_loopw [15] (fun x wr => ∃ i : Nat, i ≤ l.length ∧ x = .int .i64 i ∧ (∃ st, stackF [] ((ksN l).take i) = some st) ∧ (∀ j (h : j < l.length), j < i → 0 ≤ l[j].kids) ∧ (∃ vs : Array Value, vs.size = l.length ∧ (∀ j (h : j < sz.length), j < i → vs[j]? = some (.int .i64 (sz[j] : Int))) ∧ Blk wr (w.heap.size + 1) vs 3) ∧ Blk wr w.heap.size (trC none 0 0 none 0 0) 106 ∧ Blk wr (w.heap.size + 1 + 1) (trC a l.length cap (some ⟨w.heap.size + 1, 0, none⟩) l.length l.length) 106 ∧ Below w.heap.size w wr) (fun x _ => l.length - (intOf x).toNat)
  case atStart => exact ⟨0, Nat.zero_le _, rfl, ⟨[], rfl⟩, fun j _ hj => by omega, ⟨vs0, hmz, fun j _ hj => by omega, hS⟩, hR, hT, hB⟩
  case round =>
    clear hR hS hT hB hmz
    obtain ⟨i, hi, rfl, ⟨s, hs⟩, hk0, ⟨vs, hvs, hno, hS⟩, hR, hT, hB⟩ := hrel
    by_cases hlt : i < l.length
    · have hne : l ≠ [] := by rintro rfl; simp at hlt
      have hlk : i < (ksN l).length := by rw [HKL.out]; exact hlt
      obtain ⟨g, off, rfl, hg, hc⟩ := HN.out hne
      have hd : decide ((i : Int) < (l.length : Int)) = true := by rw [decide_eq_true_iff]; omega
      have hd2 : decide (i < l.length) = true := by rw [decide_eq_true_iff]; omega
      have hcell := fun (j : Nat) (hj : j < 8) => (hB.cell (p := ⟨g, off + i * 8 + j, none⟩) hg).trans (hc i hlt j hj)
      have d0 := hcell 0 (by decide); have d1 := hcell 1 (by decide); have d2 := hcell 2 (by decide); have d3 := hcell 3 (by decide); have d4 := hcell 4 (by decide); have d5 := hcell 5 (by decide); have d6 := hcell 6 (by decide); have d7 := hcell 7 (by decide)
      simp only [ndA, List.getElem?_toArray, List.getElem?_cons_zero, List.getElem?_cons_succ, Nat.add_zero] at d0 d1 d2 d3 d4 d5 d6 d7
      have hkk : (ksN l)[i] = l[i].kids.toNat := by simp [ksN]
      have HSUM := Lib.hid (show s.sum = i by
        have := stackF_sum _ _ _ hs
        rw [List.sum_nil, Nat.zero_add, List.length_take] at this
        omega)
      have HS0 := Lib.hid hs
      obtain ⟨hr, ht, hsi⟩ := HRO.out i hlk s hs
      have hps := HPO.out i s hs
      have hNF : ¬ (0 ≤ l[i].kids) → manyF 0 (l.map NdN.kids) ≠ some 1 := fun h hf => h ((HFI.out hf).1 _ (List.mem_map_of_mem (List.getElem_mem hlt)))
      have hNS : s.length < (ksN l)[i] → manyF 0 (l.map NdN.kids) ≠ some 1 := fun h hf => by
        obtain ⟨s2, hs2, h2, _⟩ := stack_at (ksN l) [] _ (HFI.out hf).2 i hlk
        rw [hs] at hs2; cases hs2; omega
      have hnx : (ksN l)[i] ≤ s.length → stackF [] ((ksN l).take (i + 1)) = some (stepF s (ksN l)[i]) := fun h => by
        rw [List.take_add_one, List.getElem?_eq_getElem hlk]
        show stackF [] ((ksN l).take i ++ [(ksN l)[i]]) = _
        rw [stackF_snoc, hs]
        show (if (ksN l)[i] ≤ s.length then some (stepF s (ksN l)[i]) else none) = _
        rw [if_pos h]
      rw [hkk] at hNS hnx hsi
      have HK0 := Lib.hid hk0
      have HNO := Lib.hid hno
      have HRT := Lib.hid hr
      have HTT := Lib.hid ht
      have HSI := Lib.hid hsi
      have HNF := Lib.hid hNF
      have HNS := Lib.hid hNS
      have HNX := Lib.hid hnx
      have HPS := Lib.hid hps
      have HLI := Lib.hid (show l[i].kids = l[i].kids from rfl)
      conv at HLI => arg 1; lhs; rw [show l[i].kids = l[i].kids from rfl]
      clear hk0 hno hr ht hsi hNF hNS hnx hps hcell hc hne hkk hs hlk
      generalize hkc : l[i].kids = kc at *
      have HKC := Lib.hid hkc
      clear hkc HLI
      generalize l[i].kind = k at *
      generalize l[i].n = kn at *
      generalize l[i].m = km at *
      generalize l[i].set = kt at *
      have hN := Blk.new wr (ndI k kc kn km kt) 46
      have HR := Lib.hid (hR.alloc (.cells (ndI k kc kn km kt) 46))
      have hT2 := hT.alloc (.cells (ndI k kc kn km kt) 46)
      have hS2 := hS.alloc (.cells (ndI k kc kn km kt) 46)
      have HB := Lib.hid (hB.alloc hB.size (.cells (ndI k kc kn km kt) 46))
      clear hR hT hS hB
      go_upto_region 5 with fail
      clear d0 d1 d2 d3 d4 d5 d6 d7
      generalize wr.alloc (.cells (ndI k kc kn km kt) 46) = wn at *
      have c1 := hN.cell 1
      simp only [List.getElem?_toArray, List.getElem?_cons_zero, List.getElem?_cons_succ] at c1
      by_cases h0 : kc < 0
      · have q0 : decide (kc < 0) = true := decide_eq_true h0
        have HW := Lib.hid (HNF.out (by omega))
        clear h0
        have f0 := HR.out.frozen 0; have f1 := HR.out.frozen 1; have r0 := HR.out.cell 0; have r1 := HR.out.cell 1
        simp only [List.getElem?_toArray, List.getElem?_cons_zero, List.getElem?_cons_succ] at r0 r1
        go_wp2_with fail
        have hRS := (HR.out.set 0 (.slice none 0 0)).set 1 (.slice none 0 0)
        have e0 : ((wn.setCell ⟨w.heap.size, 0, none⟩ (.slice none 0 0)).setCell ⟨w.heap.size, 1, none⟩ (.slice none 0 0)).cell? ⟨w.heap.size, 0, none⟩ = some (.slice none 0 0) := (hRS.cell 0).trans rfl
        have e1 : ((wn.setCell ⟨w.heap.size, 0, none⟩ (.slice none 0 0)).setCell ⟨w.heap.size, 1, none⟩ (.slice none 0 0)).cell? ⟨w.heap.size, 1, none⟩ = some (.slice none 0 0) := (hRS.cell 1).trans rfl
        refine bodyPost_ret (v := .tuple #[.agg #[.slice none 0 0, .slice none 0 0], .bool false]) ?_ (by rfl) ?_
        · simp [results, Tryd.results63, go_sem, e0, e1]
        · exact ⟨below_set (below_set HB.out (Nat.le_refl _) 0 _) (Nat.le_refl _) 1 _, .inl ⟨HW.out, rfl⟩⟩
      have q0 : decide (kc < 0) = false := decide_eq_false h0
      obtain ⟨K, rfl⟩ : ∃ K : Nat, kc = K := ⟨kc.toNat, by omega⟩
      rw [Int.toNat_natCast] at HSI HNS HNX
      have HTB := Lib.hid hT2
      have HSB := Lib.hid hS2
      have t1 := hT2.cell 1
      simp only [List.getElem?_toArray, List.getElem?_cons_zero, List.getElem?_cons_succ] at t1
      clear h0 hT2 hS2 hN
      have hls : s.length ≤ i := by have := len_le_sum s HPS.out; have := HSUM.out; omega
      go_upto_region 9 with fail
      go_loop [7, 27] (fun ve vk => ∃ k : Nat, k ≤ K ∧ k ≤ s.length ∧ ve = .int .i64 ((i : Int) - ((s.take k).sum : Nat)) ∧ vk = .int .i64 k) (fun _ vk => K - (intOf vk).toNat)
      case atStart => exact ⟨0, Nat.zero_le _, Nat.zero_le _, by simp, rfl⟩
      case round =>
        obtain ⟨k, hk, hks, rfl, rfl⟩ := hrel
        have hle := take_sum_le s k
        have hsum := HSUM.out
        by_cases hkl : k < K
        · have hq : decide ((k : Int) < (K : Int)) = true := by rw [decide_eq_true_iff]; omega
          have hq2 : decide (k < K) = true := by rw [decide_eq_true_iff]; omega
          by_cases hE : (s.take k).sum = i
          · have qe : ((i : Int) - ((s.take k).sum : Nat) == 0) = true := by rw [beq_iff_eq]; omega
            have HW := Lib.hid (HNS.out (by
              rcases Nat.lt_or_ge k s.length with h | h
              · have h1 := take_sum s k h
                have h2 := take_sum_le s (k + 1)
                have h3 := HPS.out s[k] (List.getElem_mem h)
                omega
              · omega))
            clear hle hE hsum
            generalize (s.take k).sum = S at *
            have f0 := HR.out.frozen 0; have f1 := HR.out.frozen 1; have r0 := HR.out.cell 0; have r1 := HR.out.cell 1
            simp only [List.getElem?_toArray, List.getElem?_cons_zero, List.getElem?_cons_succ] at r0 r1
            go_wp2_with fail
            have hRS := (HR.out.set 0 (.slice none 0 0)).set 1 (.slice none 0 0)
            have e0 : ((wn.setCell ⟨w.heap.size, 0, none⟩ (.slice none 0 0)).setCell ⟨w.heap.size, 1, none⟩ (.slice none 0 0)).cell? ⟨w.heap.size, 0, none⟩ = some (.slice none 0 0) := (hRS.cell 0).trans rfl
            have e1 : ((wn.setCell ⟨w.heap.size, 0, none⟩ (.slice none 0 0)).setCell ⟨w.heap.size, 1, none⟩ (.slice none 0 0)).cell? ⟨w.heap.size, 1, none⟩ = some (.slice none 0 0) := (hRS.cell 1).trans rfl
            refine bodyPost_ret (v := .tuple #[.agg #[.slice none 0 0, .slice none 0 0], .bool false]) ?_ (by rfl) ?_
            · simp [results, Tryd.results63, go_sem, e0, e1]
            · exact ⟨below_set (below_set HB.out (Nat.le_refl _) 0 _) (Nat.le_refl _) 1 _, .inl ⟨HW.out, rfl⟩⟩
          · have hks2 : k < s.length := by
              rcases Nat.lt_or_ge k s.length with h | h
              · exact h
              · rw [List.take_of_length_le h] at hE; omega
            obtain ⟨h1, h2⟩ := HRT.out k hks2
            have htl : (sizesF [] ((ksN l).take i)).length = i := by rw [sizesF_len, List.length_take, HKL.out]; omega
            rw [htl] at h1 h2
            rw [← HTT.out] at h2
            have hts := take_sum s k hks2
            have hle2 := take_sum_le s (k + 1)
            generalize hS : (s.take k).sum = S at *
            generalize hS1 : (s.take (k + 1)).sum = S1 at *
            generalize s[k] = z at *
            have hpz : (i - 1 - S) < sz.length := by omega
            have hz : sz[i - 1 - S] = z := by
              rw [List.getElem?_take, if_pos (by omega), List.getElem?_eq_getElem hpz] at h2
              exact Option.some.inj h2
            have cp := (HSB.out.cell (i - 1 - S)).trans (HNO.out (i - 1 - S) hpz (by omega))
            rw [hz] at cp
            have hat : (i : Int) - (S : Int) = ((i - S : Nat) : Int) := by omega
            have qe : (((i - S : Nat) : Int) == 0) = false := by rw [beq_eq_false_iff_ne]; omega
            have xm : IntKind.i64.wrap (((i - S : Nat) : Int) - 1) = ((i - 1 - S : Nat) : Int) := by rw [show ((i - S : Nat) : Int) - 1 = ((i - 1 - S : Nat) : Int) by omega]; exact IntWalk.i64_in _ (by omega)
            have xz : IntKind.i64.wrap (((i - S : Nat) : Int) - (z : Int)) = ((i - S1 : Nat) : Int) := by rw [show ((i - S : Nat) : Int) - (z : Int) = ((i - S1 : Nat) : Int) by omega]; exact IntWalk.i64_in _ (by omega)
            have xk : IntKind.i64.wrap ((k : Int) + 1) = (k : Int) + 1 := IntWalk.i64_in _ (by omega)
            have hpn : i - 1 - S < l.length := by omega
            have HS1 := Lib.hid (show S1 ≤ i by omega)
            have HE1 := Lib.hid hS1
            have HK1 := Lib.hid (show k + 1 ≤ s.length from hks2)
            rw [hat]
            clear h1 h2 hz hpz hts hle2 hat hS hS1 hle hE htl hks2 hsum
            generalize hP : i - 1 - S = p at *
            generalize hE : i - S = e at *
            clear hP hE
            go_wp2_with fail
            go_round
            case rel => exact ⟨k + 1, by omega, HK1.out, by rw [HE1.out]; congr 1; have := HS1.out; omega, by simp⟩
            case measure => simp [intOf]; omega
        · obtain rfl : k = K := by omega
          have hq : decide ((k : Int) < (k : Int)) = false := by simp
          have hq2 : decide (k < k) = false := by simp
          have HNX2 := Lib.hid (HNX.out hks)
          generalize hS : (s.take k).sum = S at *
          have xa : IntKind.i64.wrap ((i : Int) - ((i : Int) - (S : Int))) = (S : Int) := by rw [show (i : Int) - ((i : Int) - (S : Int)) = (S : Int) by omega]; exact IntWalk.i64_in _ (by omega)
          have hxa : (i : Int) - ((i : Int) - (S : Int)) = (S : Int) := by omega
          have xb : IntKind.i64.wrap ((S : Int) + 1) = (S : Int) + 1 := IntWalk.i64_in _ (by omega)
          have xi : IntKind.i64.wrap ((i : Int) + 1) = (i : Int) + 1 := IntWalk.i64_in _ (by omega)
          obtain ⟨old, hold⟩ : ∃ old, vs[i]? = some old := ⟨vs[i]'(by omega), by simp [show i < vs.size by omega]⟩
          have hci := (HSB.out.cell i).trans hold
          have hfi := HSB.out.frozen i
          clear hold hS HNS HRT HNX
          go_wp2_with fail
          go_roundw
          case rel =>
            refine ⟨i + 1, by omega, by simp, ⟨_, HNX2.out⟩, fun j hj hji => ?_, ⟨vs.setIfInBounds i (.int .i64 ((S : Int) + 1)), by simp [hvs], fun j h hj => ?_, HSB.out.set i _⟩, HR.out.other (by omega) i _, HTB.out.other (by omega) i _, below_set HB.out (by omega) i _⟩
            · by_cases hje : j = i
              · subst hje; rw [HKC.out]; omega
              · exact HK0.out j hj (by omega)
            · by_cases hje : j = i
              · subst hje
                have e1 := HSI.out
                rw [List.getElem?_eq_getElem h] at e1
                rw [Option.some.inj e1]
                simp [hvs, hlt]
                omega
              · rw [Array.getElem?_setIfInBounds_ne (Ne.symm hje)]
                exact HNO.out j h (by omega)
          case measure => simp [intOf]; omega
    · obtain rfl : i = l.length := by omega
      have hd : decide ((l.length : Int) < (l.length : Int)) = false := by simp
      have hd2 : decide (l.length < l.length) = false := by simp
      rw [List.take_of_length_le (by rw [HKL.out]; exact Nat.le_refl _)] at hs
      have HR := Lib.hid hR
      have HB := Lib.hid hB
      have HSB := Lib.hid hS
      have HTB := Lib.hid hT
      have HNO := Lib.hid hno
      have t0 := hT.cell 0
      have t1 := hT.cell 1
      simp only [List.getElem?_toArray, List.getElem?_cons_zero, List.getElem?_cons_succ] at t0 t1
      clear hR hB hS hT hno
      by_cases hz : l.length = 0
      · have q : ((l.length : Int) == 0) = true := by rw [beq_iff_eq]; omega
        have HW : Hid (manyF 0 (l.map NdN.kids) ≠ some 1) := Lib.hid (by rw [List.length_eq_zero_iff.1 hz]; decide)
        clear hz hs
        have f0 := HR.out.frozen 0; have f1 := HR.out.frozen 1; have r0 := HR.out.cell 0; have r1 := HR.out.cell 1
        simp only [List.getElem?_toArray, List.getElem?_cons_zero, List.getElem?_cons_succ] at r0 r1
        go_wp2_with fail
        have hRS := (HR.out.set 0 (.slice none 0 0)).set 1 (.slice none 0 0)
        have e0 : ((wr.setCell ⟨w.heap.size, 0, none⟩ (.slice none 0 0)).setCell ⟨w.heap.size, 1, none⟩ (.slice none 0 0)).cell? ⟨w.heap.size, 0, none⟩ = some (.slice none 0 0) := (hRS.cell 0).trans rfl
        have e1 : ((wr.setCell ⟨w.heap.size, 0, none⟩ (.slice none 0 0)).setCell ⟨w.heap.size, 1, none⟩ (.slice none 0 0)).cell? ⟨w.heap.size, 1, none⟩ = some (.slice none 0 0) := (hRS.cell 1).trans rfl
        refine bodyPost_ret (v := .tuple #[.agg #[.slice none 0 0, .slice none 0 0], .bool false]) ?_ (by rfl) ?_
        · simp [results, Tryd.results63, go_sem, e0, e1]
        · exact ⟨below_set (below_set HB.out (Nat.le_refl _) 0 _) (Nat.le_refl _) 1 _, .inl ⟨HW.out, rfl⟩⟩
      · have q : ((l.length : Int) == 0) = false := by rw [beq_eq_false_iff_ne]; omega
        obtain ⟨z, hz1⟩ : ∃ z, sz[l.length - 1]'(by omega) = z := ⟨_, rfl⟩
        have hFL : manyF 0 (l.map NdN.kids) = some 1 ↔ z = l.length := hz1 ▸ HFL.out s (fun j hj => hk0 j hj hj) hs (by omega) (by omega)
        have cp : wr.cell? ⟨w.heap.size + 1, l.length - 1, none⟩ = some (.int .i64 (z : Int)) := hz1 ▸ (HSB.out.cell (l.length - 1)).trans (HNO.out (l.length - 1) (by omega) (by omega))
        have xm : IntKind.i64.wrap ((l.length : Int) - 1) = ((l.length - 1 : Nat) : Int) := by rw [show (l.length : Int) - 1 = ((l.length - 1 : Nat) : Int) by omega]; exact IntWalk.i64_in _ (by omega)
        have hpn : l.length - 1 < l.length := by omega
        clear HFL hz1
        generalize hP : l.length - 1 = p at *
        have hzn : ¬ l.length = 0 := hz
        by_cases hE : z = l.length
        · have qe : ((z : Int) != (l.length : Int)) = false := by rw [hE]; simp
          have qe2 : ((l.length : Int) != (l.length : Int)) = false := by simp
          have HW := Lib.hid (hFL.2 hE)
          clear hFL hE hP hs hk0 hz
          have f0 := HR.out.frozen 0; have f1 := HR.out.frozen 1; have r0 := HR.out.cell 0; have r1 := HR.out.cell 1
          simp only [List.getElem?_toArray, List.getElem?_cons_zero, List.getElem?_cons_succ] at r0 r1
          go_wp2_with fail
          have hRS := (HR.out.set 0 (.slice a l.length cap)).set 1 (.slice (some ⟨w.heap.size + 1, 0, none⟩) l.length l.length)
          have e0 : ((wr.setCell ⟨w.heap.size, 0, none⟩ (.slice a l.length cap)).setCell ⟨w.heap.size, 1, none⟩ (.slice (some ⟨w.heap.size + 1, 0, none⟩) l.length l.length)).cell? ⟨w.heap.size, 0, none⟩ = some (.slice a l.length cap) := (hRS.cell 0).trans rfl
          have e1 : ((wr.setCell ⟨w.heap.size, 0, none⟩ (.slice a l.length cap)).setCell ⟨w.heap.size, 1, none⟩ (.slice (some ⟨w.heap.size + 1, 0, none⟩) l.length l.length)).cell? ⟨w.heap.size, 1, none⟩ = some (.slice (some ⟨w.heap.size + 1, 0, none⟩) l.length l.length) := (hRS.cell 1).trans rfl
          refine bodyPost_ret (v := .tuple #[.agg #[.slice a l.length cap, .slice (some ⟨w.heap.size + 1, 0, none⟩) l.length l.length], .bool true]) ?_ (by rfl) ?_
          · simp [results, Tryd.results63, go_sem, e0, e1]
          · have hRl : sizesR l = sz.map (fun x : Nat => (x : Int)) := by unfold sizesR; rw [if_pos HW.out, HSZ.out]
            refine ⟨below_set (below_set HB.out (Nat.le_refl _) 0 _) (Nat.le_refl _) 1 _, .inr ⟨HW.out, w.heap.size + 1, rfl, by omega, _, (HSB.out.other (by omega : w.heap.size + 1 ≠ w.heap.size) 0 (.slice a l.length cap)).other (by omega : w.heap.size + 1 ≠ w.heap.size) 1 (.slice (some ⟨w.heap.size + 1, 0, none⟩) l.length l.length), fun j hj => ?_⟩⟩
            have hjl : j < sz.length := by rw [hRl, List.length_map] at hj; exact hj
            rw [HNO.out j hjl (by omega)]
            simp only [hRl, List.getElem_map]
        · have qe : ((z : Int) != (l.length : Int)) = true := by rw [bne_iff_ne]; omega
          have HW := Lib.hid (fun h => hE (hFL.1 h))
          clear hFL hE hP hs hk0 hz
          have f0 := HR.out.frozen 0; have f1 := HR.out.frozen 1; have r0 := HR.out.cell 0; have r1 := HR.out.cell 1
          simp only [List.getElem?_toArray, List.getElem?_cons_zero, List.getElem?_cons_succ] at r0 r1
          go_wp2_with fail
          have hRS := (HR.out.set 0 (.slice none 0 0)).set 1 (.slice none 0 0)
          have e0 : ((wr.setCell ⟨w.heap.size, 0, none⟩ (.slice none 0 0)).setCell ⟨w.heap.size, 1, none⟩ (.slice none 0 0)).cell? ⟨w.heap.size, 0, none⟩ = some (.slice none 0 0) := (hRS.cell 0).trans rfl
          have e1 : ((wr.setCell ⟨w.heap.size, 0, none⟩ (.slice none 0 0)).setCell ⟨w.heap.size, 1, none⟩ (.slice none 0 0)).cell? ⟨w.heap.size, 1, none⟩ = some (.slice none 0 0) := (hRS.cell 1).trans rfl
          refine bodyPost_ret (v := .tuple #[.agg #[.slice none 0 0, .slice none 0 0], .bool false]) ?_ (by rfl) ?_
          · simp [results, Tryd.results63, go_sem, e0, e1]
          · exact ⟨below_set (below_set HB.out (Nat.le_refl _) 0 _) (Nat.le_refl _) 1 _, .inl ⟨HW.out, rfl⟩⟩
theorem treeOf_calls (l : List NdN) (hl : l.length ≤ 1000000) (a : Option Addr) (cap : Nat) (w : World) (h : NodesAt l a w) :
    Calls Tryd.prog 63 #[.slice a l.length cap] w (TreeQ l a cap w) := by
  refine (treeOf2_calls l hl a cap w h).mono ?_
  rintro e w' ⟨hb, h | ⟨hm, b, he, hbb, vs, hv, hj⟩⟩
  · exact ⟨hb, .inl h⟩
  · exact ⟨hb, .inr ⟨hm, b, he, fun _ => ⟨b, 0, rfl, hbb, hv.lt, fun j h => by rw [Nat.zero_add, hv.cell j]; exact hj j h⟩⟩⟩
end Go.Proofs.YtpncomjpmilbkaaDoor

/- Trees gone through from the root on, plainly: a node ahead of its kids, these from the left; what waits is a list, the next one first. -/
namespace Go.Proofs.YtpncomjpmilbkaaDoor
open Go.RowKit

/-- A tree by where each node's first one is, less one, and by its kids, from the left. -/
structure TreeL (n : Nat) (fi : Nat → Int) (kids : Nat → List Nat) : Prop where
  lo : ∀ i, i < n → -1 ≤ fi i ∧ fi i < i
  tile : ∀ i, i < n → ∀ k : Nat, (fi i < k ∧ k ≤ i) ↔ (k = i ∨ ∃ c ∈ kids i, fi c < k ∧ k ≤ c)
  chain : ∀ i, i < n → (kids i).Pairwise fun (c d : Nat) => (c : Int) ≤ fi d
  below : ∀ i, i < n → ∀ c ∈ kids i, c < i
  last : fi (n - 1) = -1
  some' : 0 < n
variable {n : Nat} {fi : Nat → Int} {kids : Nat → List Nat}
theorem TreeL.kid_lo (T : TreeL n fi kids) {i c : Nat} (hi : i < n) (hc : c ∈ kids i) : fi i ≤ fi c := by
  have hb := T.below i hi c hc
  have hl := T.lo c (by omega)
  have h := (T.tile i hi (fi c + 1).toNat).2 (.inr ⟨c, hc, by omega⟩)
  omega
/-- What lies in a node's nodes begins no earlier. -/
theorem TreeL.lam (T : TreeL n fi kids) : ∀ (r : Nat), r < n → ∀ v : Nat, fi r < v → v ≤ r → fi r ≤ fi v := by
  intro r
  induction r using Nat.strongRecOn with
  | ind r ih =>
    intro hr v h1 h2
    rcases (T.tile r hr v).1 ⟨h1, h2⟩ with rfl | ⟨c, hc, h3, h4⟩
    · exact Int.le_refl _
    · have hb := T.below r hr c hc
      exact Int.le_trans (T.kid_lo hr hc) (ih c hb (by omega) v h3 h4)
/-- Is a node still to be gone to? -/
def inU (fi : Nat → Int) (st : List Nat) (k : Nat) : Bool := st.any fun r => decide (fi r < k) && decide (k ≤ r)
theorem inU_iff (st : List Nat) (k : Nat) : inU fi st k = true ↔ ∃ r ∈ st, fi r < k ∧ k ≤ r := by simp [inU]
structure Pre (n : Nat) (fi : Nat → Int) (st : List Nat) : Prop where
  lt : ∀ r ∈ st, r < n
  pw : st.Pairwise fun (r s : Nat) => (r : Int) ≤ fi s
  old : ∀ u v : Nat, u < n → v < n → inU fi st u = false → inU fi st v = true → fi u < fi v ∨ (fi u = fi v ∧ v < u)
theorem Pre.start (T : TreeL n fi kids) : Pre n fi [n - 1] ∧ ∀ k, k < n → inU fi [n - 1] k = true := by
  have h0 := T.some'
  have hU : ∀ k, k < n → inU fi [n - 1] k = true := fun k hk => (inU_iff _ _).2 ⟨n - 1, by simp, by rw [T.last]; omega, by omega⟩
  refine ⟨⟨fun r hr => ?_, by simp, fun u v hu _ h _ => ?_⟩, hU⟩
  · rw [List.mem_singleton] at hr; omega
  · rw [hU u hu] at h; cases h
theorem Pre.next (T : TreeL n fi kids) {r : Nat} {st : List Nat} (h : Pre n fi (r :: st)) : inU fi (r :: st) r = true ∧ (∀ k, inU fi (kids r ++ st) k = true ↔ (inU fi (r :: st) k = true ∧ k ≠ r)) ∧
    (∀ v, v < n → inU fi (r :: st) v = true → v ≠ r → fi r < fi v ∨ (fi r = fi v ∧ v < r)) ∧ Pre n fi (kids r ++ st) := by
  have hr := h.lt r (List.mem_cons_self ..)
  have hlo := T.lo r hr
  have hpw := List.pairwise_cons.1 h.pw
  have hUr : inU fi (r :: st) r = true := (inU_iff _ _).2 ⟨r, List.mem_cons_self .., hlo.2, Nat.le_refl _⟩
  have hU : ∀ k, inU fi (kids r ++ st) k = true ↔ (inU fi (r :: st) k = true ∧ k ≠ r) := by
    intro k
    rw [inU_iff, inU_iff]
    constructor
    · rintro ⟨c, hc, h1, h2⟩
      rcases List.mem_append.1 hc with hc | hc
      · have hb := T.below r hr c hc
        have := (T.tile r hr k).2 (.inr ⟨c, hc, h1, h2⟩)
        exact ⟨⟨r, List.mem_cons_self .., this.1, by omega⟩, by omega⟩
      · have := hpw.1 c hc
        exact ⟨⟨c, List.mem_cons_of_mem _ hc, h1, h2⟩, by omega⟩
    · rintro ⟨⟨c, hc, h1, h2⟩, hne⟩
      rcases List.mem_cons.1 hc with rfl | hc
      · rcases (T.tile c hr k).1 ⟨h1, h2⟩ with h | ⟨d, hd, h3, h4⟩
        · exact absurd h hne
        · exact ⟨d, List.mem_append_left _ hd, h3, h4⟩
      · exact ⟨c, List.mem_append_right _ hc, h1, h2⟩
  have hmin : ∀ v, v < n → inU fi (r :: st) v = true → v ≠ r → fi r < fi v ∨ (fi r = fi v ∧ v < r) := by
    intro v hv hvU hne
    obtain ⟨c, hc, h1, h2⟩ := (inU_iff _ _).1 hvU
    rcases List.mem_cons.1 hc with rfl | hc
    · have := T.lam c hr v h1 h2
      omega
    · have h3 := hpw.1 c hc
      have h4 := T.lam c (h.lt c (List.mem_cons_of_mem _ hc)) v h1 h2
      omega
  refine ⟨hUr, hU, hmin, ⟨fun s hs => ?_, ?_, fun u v hu hv h1 h2 => ?_⟩⟩
  · rcases List.mem_append.1 hs with hs | hs
    · have := T.below r hr s hs; omega
    · exact h.lt s (List.mem_cons_of_mem _ hs)
  · rw [List.pairwise_append]
    refine ⟨T.chain r hr, hpw.2, fun c hc s hs => ?_⟩
    have := T.below r hr c hc
    have := hpw.1 s hs
    omega
  · obtain ⟨h3, h4⟩ := (hU v).1 h2
    by_cases hur : u = r
    · subst hur; exact hmin v hv h3 h4
    · refine h.old u v hu hv ?_ h3
      cases hx : inU fi (r :: st) u with
      | false => rfl
      | true => rw [(hU u).2 ⟨hx, hur⟩] at h1; cases h1
/-- How many groups have been gone to. -/
def cntU (kd fi : Nat → Int) (n : Nat) (st : List Nat) : Nat := (List.range n).countP fun k => kd k == 3 && !inU fi st k
theorem countP_add (p q : Nat → Bool) (r : Nat) (hp : p r = true) (hq : q r = false) (h : ∀ k, k ≠ r → p k = q k) : ∀ n, r < n → (List.range n).countP p = (List.range n).countP q + 1
  | n + 1, hn => by
    have he : ∀ m, m ≤ r → (List.range m).countP p = (List.range m).countP q := fun m hm => List.countP_congr fun x hx => by
      have := List.mem_range.1 hx
      rw [h x (by omega)]
    rw [List.range_succ, List.countP_append, List.countP_append, List.countP_singleton, List.countP_singleton]
    by_cases hr : r = n
    · subst hr
      rw [hp, hq, he r (Nat.le_refl _)]; simp
    · have := countP_add p q r hp hq h n (by omega)
      rw [this, h n (by omega)]
      omega
theorem countP_same (p q : Nat → Bool) (n : Nat) (h : ∀ k, k < n → p k = q k) : (List.range n).countP p = (List.range n).countP q :=
  List.countP_congr fun x hx => by rw [h x (List.mem_range.1 hx)]
theorem cntU_le (kd : Nat → Int) (st : List Nat) : cntU kd fi n st ≤ n := by
  unfold cntU
  have := List.countP_le_length (p := fun k => kd k == 3 && !inU fi st k) (l := List.range n)
  rw [List.length_range] at this
  exact this
/-- Behind a node one group more has been gone to, if it is one; its number is just that. -/
theorem Pre.count (T : TreeL n fi kids) (kd : Nat → Int) {r : Nat} {st : List Nat} (h : Pre n fi (r :: st)) :
    (kd r = 3 → cntU kd fi n (kids r ++ st) = cntU kd fi n (r :: st) + 1 ∧ numF kd fi n r = cntU kd fi n (r :: st) + 1) ∧ (kd r ≠ 3 → cntU kd fi n (kids r ++ st) = cntU kd fi n (r :: st)) := by
  obtain ⟨hUr, hU, hmin, -⟩ := Pre.next T h
  have hr := h.lt r (List.mem_cons_self ..)
  have hu : ∀ k, k ≠ r → inU fi (kids r ++ st) k = inU fi (r :: st) k := fun k hk => by
    rw [Bool.eq_iff_iff, hU k]
    exact ⟨fun h => h.1, fun h => ⟨h, hk⟩⟩
  have hUn : inU fi (kids r ++ st) r = false := by
    cases hx : inU fi (kids r ++ st) r with
    | false => rfl
    | true => exact absurd rfl ((hU r).1 hx).2
  refine ⟨fun h3 => ⟨?_, ?_⟩, fun h3 => ?_⟩
  · unfold cntU
    exact countP_add (fun k => kd k == 3 && !inU fi (kids r ++ st) k) (fun k => kd k == 3 && !inU fi (r :: st) k) r (by simp only [h3, hUn]; rfl) (by simp only [hUr, Bool.not_true, Bool.and_false]) (fun k hk => by rw [hu k hk]) n hr
  · rw [num_count kd fi n r h3]
    unfold cntU
    have hx : ∀ k, k < n → k ≠ r → (leF fi k r = !inU fi (r :: st) k) := fun k hk hne => by
      cases hx : inU fi (r :: st) k with
      | true =>
        have := hmin k hk hx hne
        rw [Bool.not_true, ← Bool.not_eq_true, leF_iff]
        omega
      | false =>
        have := h.old k r hk hr hx hUr
        rw [Bool.not_false, leF_iff]
        omega
    rw [countP_same (fun k => kd k == 3 && leF fi k r) (fun k => kd k == 3 && (k == r || !inU fi (r :: st) k)) n (fun k hk => by
      by_cases hne : k = r
      · subst hne
        rw [(leF_iff fi k k).2 (.inr ⟨rfl, Nat.le_refl _⟩)]; simp
      · have e : (k == r) = false := by rw [beq_eq_false_iff_ne]; exact hne
        simp only [hx k hk hne, e, Bool.false_or])]
    exact countP_add (fun k => kd k == 3 && (k == r || !inU fi (r :: st) k)) (fun k => kd k == 3 && !inU fi (r :: st) k) r (by simp [h3]) (by simp only [hUr, Bool.not_true, Bool.and_false]) (fun k hk => by
      have e : (k == r) = false := by rw [beq_eq_false_iff_ne]; exact hk
      simp only [e, Bool.false_or]) n hr
  · unfold cntU
    refine countP_same _ _ n fun k hk => ?_
    by_cases hne : k = r
    · subst hne
      have : (kd k == 3) = false := by rw [beq_eq_false_iff_ne]; exact h3
      rw [this]; rfl
    · rw [hu k hne]
/-- How many nodes are still to be gone to: one fewer each time. -/
def leftU (fi : Nat → Int) (n : Nat) (st : List Nat) : Nat := (List.range n).countP (inU fi st)
theorem Pre.left (T : TreeL n fi kids) {r : Nat} {st : List Nat} (h : Pre n fi (r :: st)) : leftU fi n (r :: st) = leftU fi n (kids r ++ st) + 1 := by
  obtain ⟨hUr, hU, -, -⟩ := Pre.next T h
  have hr := h.lt r (List.mem_cons_self ..)
  unfold leftU
  refine countP_add _ _ r hUr ?_ (fun k hk => ?_) n hr
  · cases hx : inU fi (kids r ++ st) r with
    | false => rfl
    | true => exact absurd rfl ((hU r).1 hx).2
  · rw [Bool.eq_iff_iff, hU k]
    exact ⟨fun h => ⟨h, hk⟩, fun h => h.1⟩
theorem leftU_le (st : List Nat) : leftU fi n st ≤ n := by
  have := List.countP_le_length (p := inU fi st) (l := List.range n)
  rw [List.length_range] at this
  exact this
theorem nodup_le : ∀ (a b : List Nat), a.Nodup → (∀ x ∈ a, x ∈ b) → a.length ≤ b.length
  | [], _, _, _ => Nat.zero_le _
  | x :: a, b, hn, hs => by
    rw [List.nodup_cons] at hn
    have hx := hs x (List.mem_cons_self ..)
    have ih := nodup_le a (b.erase x) hn.2 (fun y hy => (List.mem_erase_of_ne (by rintro rfl; exact hn.1 hy)).2 (hs y (List.mem_cons_of_mem _ hy)))
    rw [List.length_erase_of_mem hx] at ih
    have := List.length_pos_of_mem hx
    rw [List.length_cons]
    omega
/-- No more waits than there is to be gone to. -/
theorem Pre.few (T : TreeL n fi kids) : ∀ {st : List Nat}, Pre n fi st → st.length ≤ leftU fi n st := by
  intro st h
  unfold leftU
  have hnd : st.Nodup := by
    refine h.pw.imp_of_mem (fun {a b} ha hb hab he => ?_)
    subst he
    have := T.lo a (h.lt a ha)
    omega
  have hsub : ∀ x ∈ st, x ∈ (List.range n).filter (inU fi st) := fun x hx => by
    rw [List.mem_filter, List.mem_range]
    exact ⟨h.lt x hx, (inU_iff _ _).2 ⟨x, hx, (T.lo x (h.lt x hx)).2, Nat.le_refl _⟩⟩
  rw [List.countP_eq_length_filter]
  exact nodup_le _ _ hnd hsub
theorem between_sums (s : List Nat) : ∀ (K d : Nat), K ≤ s.length → d < (s.take K).sum → ∃ j, j < K ∧ (s.take j).sum ≤ d ∧ d < (s.take (j + 1)).sum
  | 0, d, _, h => by simp at h
  | K + 1, d, hk, h => by
    by_cases h1 : d < (s.take K).sum
    · obtain ⟨j, hj, h2, h3⟩ := between_sums s K d (by omega) h1
      exact ⟨j, by omega, h2, h3⟩
    · exact ⟨K, by omega, by omega, h⟩
theorem sums_mono (s : List Nat) {i j : Nat} (h : i ≤ j) : (s.take i).sum ≤ (s.take j).sum := by
  have e : s.take i = (s.take j).take i := by rw [List.take_take, Nat.min_eq_left h]
  rw [e]
  exact take_sum_le _ _
def kidsN (l : List NdN) (i : Nat) : List Nat := (((allKids 0 [] (ksN l))[i]?).getD []).reverse
theorem kidsR_N (l : List NdN) (hf : manyF 0 (l.map NdN.kids) = some 1) (i : Nat) (hi : i < l.length) : kidsR l i = (kidsN l i).map (fun x : Nat => (x : Int)) := by
  unfold kidsR kidsN
  rw [if_pos ⟨hf, by omega, by omega⟩]
  rfl
/-- A list that is a tree, so. -/
theorem treeL (l : List NdN) (hf : manyF 0 (l.map NdN.kids) = some 1) : TreeL l.length (fiN l) (kidsN l) := by
  obtain ⟨_, hst⟩ := (formed_iff (l.map NdN.kids)).1 hf
  have hst : stackF [] (ksN l) = some [(l.map NdN.kids).length] := hst
  rw [List.length_map] at hst
  have hkl : (ksN l).length = l.length := by simp [ksN]
  have hsl : (sizesF [] (ksN l)).length = l.length := by rw [sizesF_len, hkl]
  have hRl : (sizesR l).length = l.length := by rw [sizesR_len, if_pos hf]
  have hfi : ∀ x z : Nat, (sizesF [] (ksN l))[x]? = some z → fiN l x = (x : Int) - (z : Int) := fun x z h => by
    have hx : x < (sizesF [] (ksN l)).length := (List.getElem?_eq_some_iff.1 h).1
    rw [fiN_get l x (by omega)]
    have hR : sizesR l = (sizesF [] (ksN l)).map (fun x : Nat => (x : Int)) := if_pos hf
    have : (sizesR l)[x]'(by omega) = (z : Int) := by
      simp only [hR, List.getElem_map]
      rw [List.getElem?_eq_getElem hx] at h
      rw [Option.some.inj h]
    rw [this]
  -- of each node: its stack, and what it says
  have key : ∀ i, i < l.length → ∃ s : List Nat, ∃ K : Nat, K ≤ s.length ∧ s.sum = i ∧ (∀ x ∈ s, 0 < x) ∧ fiN l i = (i : Int) - 1 - ((s.take K).sum : Nat) ∧ kidsN l i = ((posF i s).take K).reverse ∧ (∀ j (h : j < (posF i s).length), (s.take (j + 1)).sum ≤ i ∧ (posF i s)[j] + 1 + (s.take j).sum = i ∧ fiN l (posF i s)[j] = (i : Int) - 1 - ((s.take (j + 1)).sum : Nat)) := by
    intro i hi
    have hlk : i < (ksN l).length := by omega
    obtain ⟨s, hs, hks, hsum⟩ := stack_at (ksN l) [] _ hst i hlk
    obtain ⟨hr, ht, hsi⟩ := roots_at (ksN l) i hlk s hs
    have hp := stackF_pos ((ksN l).take i) [] s (by simp) hs
    have hsum : s.sum = i := by simpa using hsum
    refine ⟨s, (ksN l)[i], hks, hsum, hp, ?_, ?_, ?_⟩
    · rw [hfi i _ hsi]; omega
    · unfold kidsN
      rw [allKids_at (ksN l) i hlk s hs]; rfl
    · intro j hj
      have hj' : j < s.length := by rw [posF_len] at hj; exact hj
      obtain ⟨h1, h2⟩ := kid_at s i j hp (by omega) hj' hj
      have h3 := kid_size (sizesF [] ((ksN l).take i)) s i j (by rw [sizesF_len, List.length_take]; omega) hr hj' hj
      rw [← ht, List.getElem?_take, if_pos (by omega)] at h3
      have h4 := take_sum s j hj'
      have h5 := take_sum_le s (j + 1)
      refine ⟨by omega, h1, ?_⟩
      rw [hfi _ _ h3]
      omega
  have hn : 0 < l.length := by
    rcases Nat.eq_zero_or_pos l.length with h | h
    · rw [List.length_eq_zero_iff] at h; subst h; cases hf
    · exact h
  refine ⟨fun i hi => ?_, fun i hi k => ?_, fun i hi => ?_, fun i hi c hc => ?_, ?_, hn⟩
  · obtain ⟨s, K, hK, hsum, hp, h1, -, -⟩ := key i hi
    have := take_sum_le s K
    omega
  · obtain ⟨s, K, hK, hsum, hp, h1, h2, h3⟩ := key i hi
    rw [h1, h2]
    have hle := take_sum_le s K
    constructor
    · rintro ⟨h4, h5⟩
      by_cases hki : k = i
      · exact .inl hki
      · obtain ⟨j, hj, h6, h7⟩ := between_sums s K (i - 1 - k) hK (by omega)
        have hjl : j < (posF i s).length := by rw [posF_len]; omega
        obtain ⟨h8, h9, h10⟩ := h3 j hjl
        refine .inr ⟨(posF i s)[j], ?_, by rw [h10]; omega, by omega⟩
        rw [List.mem_reverse, List.mem_take_iff_getElem]
        exact ⟨j, by omega, rfl⟩
    · rintro (rfl | ⟨c, hc, h4, h5⟩)
      · omega
      · rw [List.mem_reverse, List.mem_take_iff_getElem] at hc
        obtain ⟨j, hj, rfl⟩ := hc
        obtain ⟨h8, h9, h10⟩ := h3 j (by omega)
        have := sums_mono s (show j + 1 ≤ K by omega)
        rw [h10] at h4
        omega
  · obtain ⟨s, K, hK, hsum, hp, h1, h2, h3⟩ := key i hi
    rw [h2, List.pairwise_reverse, List.pairwise_iff_getElem]
    intro a b ha hb hab
    rw [List.length_take] at ha hb
    rw [List.getElem_take, List.getElem_take]
    obtain ⟨h8, h9, h10⟩ := h3 a (by omega)
    obtain ⟨h11, h12, h13⟩ := h3 b (by omega)
    have := sums_mono s (show a + 1 ≤ b by omega)
    rw [h10]
    omega
  · obtain ⟨s, K, hK, hsum, hp, h1, h2, h3⟩ := key i hi
    rw [h2, List.mem_reverse, List.mem_take_iff_getElem] at hc
    obtain ⟨j, hj, rfl⟩ := hc
    obtain ⟨h8, h9, h10⟩ := h3 j (by omega)
    omega
  · have h := stackF_sum _ _ _ hst
    obtain ⟨st, hs⟩ : ∃ st, stackF [] (ksN l) = some st := ⟨_, hst⟩
    have hr := roots_all (ksN l) [] [] _ (by simp) (by intro j hj; simp at hj) hst 0 (by simp)
    rw [List.nil_append, List.take_zero, List.sum_nil, Nat.sub_zero, hsl] at hr
    have := hfi (l.length - 1) _ hr.2
    rw [this]
    simp
    omega
end Go.Proofs.YtpncomjpmilbkaaDoor

/- A slice of nodes among the arguments, opened. -/
namespace Go.Proofs.YtpncomjpmilbkaaDoor
open Go.ChangeShapes Go.WideShapes Go.ChangeAt Go.RowKit Go.Deep BS

section
variable {H : Type} {enc : TypeId × Value → H} {P : Program}

theorem set_cells4 {w : World} {base fuel : Nat} {spare : Nat → Bool} {held : Bool} {t e : TypeId} {x : DataW H × List MemPlace} (ht : P.underlying t = some (.array 4 e)) (he : P.underlying e = some (.int .u64)) (hce : P.cellsOf e = 1)
    {a b c d' : Value} (hf : DataW.trod enc P w base spare held fuel t [a, b, c, d'] = some x) : ∃ s : BitVec 256, a = .int .u64 (wd s 0) ∧ b = .int .u64 (wd s 1) ∧ c = .int .u64 (wd s 2) ∧ d' = .int .u64 (wd s 3) := by
  obtain ⟨xs, m, _, _, _, hl, hk⟩ := DataW.trod_array ht hf
  have key : ∀ i (u : Value), i < 4 → #[a, b, c, d'][i]? = some u → ∃ n : Int, u = .int .u64 n ∧ 0 ≤ n ∧ n < 18446744073709551616 := by
    intro i u hi hu
    have h1 := hk i hi
    rw [hce, Nat.mul_one] at h1
    have hx : i < xs.length := by omega
    rw [List.getElem?_eq_getElem hx] at h1
    obtain ⟨n, hn, _, hw⟩ := DataW.trod_int he h1
    refine ⟨n, ?_, ?_⟩
    · have := congrArg (fun l => l[0]?) hn
      simp only [List.getElem?_take, List.getElem?_drop] at this
      simp at this hu
      rw [hu] at this
      simpa using this
    · have : (Lit.int .u64 n).wf = true := hw
      have h2 : 0 ≤ n ∧ n ≤ 18446744073709551615 := by simpa [Lit.wf, IntKind.min, IntKind.max, IntKind.signed, IntKind.bits] using this
      exact ⟨h2.1, by omega⟩
  obtain ⟨na, rfl, ha0, ha1⟩ := key 0 a (by decide) rfl
  obtain ⟨nb, rfl, hb0, hb1⟩ := key 1 b (by decide) rfl
  obtain ⟨nc, rfl, hc0, hc1⟩ := key 2 c (by decide) rfl
  obtain ⟨nd, rfl, hd0, hd1⟩ := key 3 d' (by decide) rfl
  obtain ⟨s, h0, h1, h2, h3⟩ := of_words na nb nc nd ⟨ha0, ha1⟩ ⟨hb0, hb1⟩ ⟨hc0, hc1⟩ ⟨hd0, hd1⟩
  exact ⟨s, by rw [h0], by rw [h1], by rw [h2], by rw [h3]⟩
theorem list8 {α : Type} {cs : List α} (h : cs.length = 8) : ∃ c0 c1 c2 c3 c4 c5 c6 c7, cs = [c0, c1, c2, c3, c4, c5, c6, c7] := by
  match cs, h with
  | [c0, c1, c2, c3, c4, c5, c6, c7], _ => exact ⟨c0, c1, c2, c3, c4, c5, c6, c7, rfl⟩
/-- A struct of four numbers and a set. -/
theorem node_cells {w : World} {base fuel : Nat} {spare : Nat → Bool} {held : Bool} {t it st e : TypeId} {f0 f1 f2 f3 f4 : Field} {cs : List Value} {x : DataW H × List MemPlace}
    (hs : P.underlying t = some (.struct #[f0, f1, f2, f3, f4])) (hlc : cs.length = 8)
    (ho : f0.offset = 0 ∧ f1.offset = 1 ∧ f2.offset = 2 ∧ f3.offset = 3 ∧ f4.offset = 4)
    (hty : f0.type = it ∧ f1.type = it ∧ f2.type = it ∧ f3.type = it ∧ f4.type = st)
    (hi : P.underlying it = some (.int .i64)) (hci : P.cellsOf it = 1) (hst : P.underlying st = some (.array 4 e)) (he : P.underlying e = some (.int .u64)) (hce : P.cellsOf e = 1) (hcs : P.cellsOf st = 4)
    (hf : DataW.trod enc P w base spare held fuel t cs = some x) : ∃ y : NdN, cs = (ndA y).toList := by
  obtain ⟨c0, c1, c2, c3, c4, c5, c6, c7, rfl⟩ := list8 hlc
  obtain ⟨xs, n, _, _, _, hlen, hk⟩ := DataW.trod_struct hs hf
  obtain ⟨o0, o1, o2, o3, o4⟩ := ho
  obtain ⟨t0, t1, t2, t3, t4⟩ := hty
  have e0 := hk 0 f0 rfl
  have e1 := hk 1 f1 rfl
  have e2 := hk 2 f2 rfl
  have e3 := hk 3 f3 rfl
  have e4 := hk 4 f4 rfl
  have hl5 : xs.length = 5 := hlen
  rw [List.getElem?_eq_getElem (by omega), o0, t0, hci] at e0
  rw [List.getElem?_eq_getElem (by omega), o1, t1, hci] at e1
  rw [List.getElem?_eq_getElem (by omega), o2, t2, hci] at e2
  rw [List.getElem?_eq_getElem (by omega), o3, t3, hci] at e3
  rw [List.getElem?_eq_getElem (by omega), o4, t4, hcs] at e4
  obtain ⟨n0, h0, _⟩ := DataW.trod_int hi e0
  obtain ⟨n1, h1, _⟩ := DataW.trod_int hi e1
  obtain ⟨n2, h2, _⟩ := DataW.trod_int hi e2
  obtain ⟨n3, h3, _⟩ := DataW.trod_int hi e3
  have e4' : DataW.trod enc P w base spare held n st [c4, c5, c6, c7] = some xs[4] := e4
  obtain ⟨s, g0, g1, g2, g3⟩ := set_cells4 hst he hce e4'
  have k0 : [c0] = [Value.int .i64 n0] := h0
  have k1 : [c1] = [Value.int .i64 n1] := h1
  have k2 : [c2] = [Value.int .i64 n2] := h2
  have k3 : [c3] = [Value.int .i64 n3] := h3
  simp only [List.cons.injEq, and_true] at k0 k1 k2 k3
  subst k0 k1 k2 k3 g0 g1 g2 g3
  exact ⟨⟨n0, n1, n2, n3, s⟩, rfl⟩
/-- A slice of nodes. -/
theorem open_nodes {w : World} {r : Reach} {base b0 : Nat} {spare : Nat → Bool} {held : Bool} {ts t it st e : TypeId} {f0 f1 f2 f3 f4 : Field} {v : Value} {d : DataW H} {p : List MemPlace}
    (hts : P.underlying ts = some (.slice t)) (hs : P.underlying t = some (.struct #[f0, f1, f2, f3, f4])) (hC : P.cellsOf t = 8)
    (ho : f0.offset = 0 ∧ f1.offset = 1 ∧ f2.offset = 2 ∧ f3.offset = 3 ∧ f4.offset = 4)
    (hty : f0.type = it ∧ f1.type = it ∧ f2.type = it ∧ f3.type = it ∧ f4.type = st)
    (hi : P.underlying it = some (.int .i64)) (hci : P.cellsOf it = 1) (hst : P.underlying st = some (.array 4 e)) (he : P.underlying e = some (.int .u64)) (hce : P.cellsOf e = 1) (hcs : P.cellsOf st = 4)
    (hv : Value.okWide P w r b0 ts v) (h : DataW.Trod enc P w base spare held ts v d p) :
    ∃ (l : List NdN) (a : Option Addr) (cap : Nat), v = .slice a l.length cap ∧ l.length ≤ maxLen ∧ NodesAt l a w := by
  obtain ⟨av, lv, cv, rfl⟩ := okWide_slice hts hv
  obtain ⟨fuel, hf⟩ := h
  rcases open_slice hts hf with ⟨h1, _⟩ | ⟨a, len, cap, m, n, D, Pl, h1, _, hlc, hcm, hm, _, hk⟩
  · have h2 : Value.slice av lv cv = .slice none 0 0 := by simpa [Value.cells] using h1
    cases h2
    exact ⟨[], none, 0, rfl, Nat.zero_le _, fun h => absurd rfl h⟩
  · have h2 : Value.slice av lv cv = .slice (some a) len cap := by simpa [Value.cells] using h1
    cases h2
    have hlm : lv ≤ m := by rw [hm]; split <;> omega
    have hex : ∀ i, ∃ y : NdN, i < lv → ∀ j, j < 8 → w.cell? (a.add (i * 8 + j)) = (ndA y)[j]? := fun i => by
      by_cases hil : i < lv
      · obtain ⟨cs', hc, ht⟩ := hk i (by omega)
        rw [hC] at hc
        obtain ⟨_, hl8, hcell⟩ := World.cells?_some hc
        obtain ⟨y, rfl⟩ := node_cells hs hl8 ho hty hi hci hst he hce hcs ht
        refine ⟨y, fun _ j hj => ?_⟩
        have h3 := hcell j hj
        rw [Addr.add_add] at h3
        rw [h3]
        simp
      · exact ⟨⟨0, 0, 0, 0, 0⟩, fun h => absurd h hil⟩
    refine ⟨(List.range lv).map fun i => (hex i).choose, some a, cv, by simp, by simp; omega, fun hne => ?_⟩
    have h0 : 0 < lv := by
      cases lv with
      | zero => exact absurd rfl hne
      | succ n => omega
    obtain ⟨b, off, spot⟩ := a
    have hc0 := (hex 0).choose_spec h0 0 (by decide)
    have hspot : spot = none := by
      have h4 : w.cell? (({ block := b, off := off, spot := spot } : Addr).add 0) = some (.int .i64 (hex 0).choose.kind) := hc0
      simpa [Addr.add] using World.cell?_spot h4
    subst hspot
    have hadd : ∀ n, ({ block := b, off := off, spot := none } : Addr).add n = ⟨b, off + n, none⟩ := fun n => by
      unfold Addr.add
      by_cases hn : n = 0
      · subst hn; rfl
      · rw [if_neg hn]
    refine ⟨b, off, rfl, ?_, fun i hil j hj => ?_⟩
    · have h4 : w.cell? (({ block := b, off := off, spot := none } : Addr).add 0) = some (.int .i64 (hex 0).choose.kind) := hc0
      exact World.block_lt_of_cell? w _ h4
    · rw [List.length_map, List.length_range] at hil
      have h5 := (hex i).choose_spec hil j hj
      rw [hadd] at h5
      rw [show off + i * 8 + j = off + (i * 8 + j) by omega, h5]
      simp
end
end Go.Proofs.YtpncomjpmilbkaaDoor

/- Texts put together: Ae Aj Ah Ai As At Av Iz Iy Ix Iw. -/
import Derived.Test.YtdpkhliojbeglaaDoorQE
import Derived.Test.YtdpkhliojbeglaaDoorQA
import Derived.Test.YtdpkhliojbeglaaDoorQG
import Derived.Test.YtdpkhliojbeglaaDoorQF
import Derived.Outline
import Derived.Deep.DeepCutAuto
import Derived.Test.YtdpkhliojbeglaaDoorQB
/- The document's trees: Kids. -/
namespace Go.Proofs.YtdpkhliojbeglaaDoor
open Go.RowKit BS

theorem allKids_at (ks : List Nat) (i : Nat) (hi : i < ks.length) (s : List Nat) (hs : stackF [] (ks.take i) = some s) : (allKids 0 [] ks)[i]? = some ((posF i s).take ks[i]) := by
  have e : ks = ks.take i ++ (ks[i] :: ks.drop (i + 1)) := by rw [← List.drop_eq_getElem_cons hi, List.take_append_drop]
  have hl : (allKids 0 [] (ks.take i)).length = i := by rw [allKids_len, List.length_take]; omega
  have ea : allKids 0 [] ks = allKids 0 [] (ks.take i) ++ (posF i s).take ks[i] :: allKids (i + 1) (stepF s ks[i]) (ks.drop (i + 1)) := by
    conv => lhs; rw [e]
    rw [allKids_append _ _ _ _ _ hs, List.length_take, show 0 + min i ks.length = i by omega, allKids]
  rw [ea, List.getElem?_append_right (by omega), hl, Nat.sub_self]
  rfl
/-- The places of a node's kids, from the left. -/
def kidsR (l : List NdN) (i : Int) : List Int := if manyF 0 (l.map NdN.kids) = some 1 ∧ 0 ≤ i ∧ i < (l.length : Int) then ((((allKids 0 [] (ksN l))[i.toNat]?).getD []).reverse).map (fun x : Nat => (x : Int)) else []
end Go.Proofs.YtdpkhliojbeglaaDoor

/- Patterns' trees, plainly: groups' numbers of a list of nodes; a node by itself; a pattern's tree. -/
namespace Go.Proofs.YtdpkhliojbeglaaDoor
open Go.RowKit BS

theorem sizesR_len (l : List NdN) : (sizesR l).length = if manyF 0 (l.map NdN.kids) = some 1 then l.length else 0 := by
  unfold sizesR
  by_cases hf : manyF 0 (l.map NdN.kids) = some 1
  · rw [if_pos hf, if_pos hf, List.length_map, sizesF_len]; simp [ksN]
  · rw [if_neg hf, if_neg hf]; rfl
theorem sizesR_le (l : List NdN) : (sizesR l).length ≤ l.length := by
  rw [sizesR_len]
  split
  · exact Nat.le_refl _
  · exact Nat.zero_le _
/-- Node i's kind; where its first node is, less one. -/
def kdN (l : List NdN) : Nat → Int := kindF (l.map NdN.kind)
def fiN (l : List NdN) (i : Nat) : Int := (i : Int) - (sizesR l).getD i 0
/-- Groups' numbers. -/
def numsR (l : List NdN) : List Int := (List.range (sizesR l).length).map fun i => ((numF (kdN l) (fiN l) (sizesR l).length i : Nat) : Int)
theorem kdN_get (l : List NdN) (i : Nat) (h : i < l.length) : kdN l i = l[i].kind := by
  unfold kdN kindF
  rw [List.getD_eq_getElem?_getD, List.getElem?_eq_getElem (by simpa using h), Option.getD_some, List.getElem_map]
theorem fiN_get (l : List NdN) (i : Nat) (h : i < (sizesR l).length) : fiN l i = (i : Int) - (sizesR l)[i] := by
  unfold fiN
  rw [List.getD_eq_getElem?_getD, List.getElem?_eq_getElem h, Option.getD_some]
theorem sizesR_bound (l : List NdN) (i : Nat) (h : i < (sizesR l).length) : 0 ≤ (sizesR l)[i] ∧ (sizesR l)[i] ≤ i + 1 := by
  have hf : manyF 0 (l.map NdN.kids) = some 1 := by
    rw [sizesR_len] at h
    by_cases hf : manyF 0 (l.map NdN.kids) = some 1
    · exact hf
    · rw [if_neg hf] at h; omega
  have hR : sizesR l = (sizesF [] (ksN l)).map (fun x : Nat => (x : Int)) := if_pos hf
  obtain ⟨hk0, hst⟩ := (formed_iff (l.map NdN.kids)).1 hf
  have hst : stackF [] (ksN l) = some [(l.map NdN.kids).length] := hst
  have hkl : (ksN l).length = l.length := by simp [ksN]
  have hi : i < (ksN l).length := by
    rw [sizesR_len, if_pos hf] at h
    omega
  obtain ⟨s, hs, hks, hsum⟩ := stack_at (ksN l) [] _ hst i hi
  obtain ⟨_, _, hsi⟩ := roots_at (ksN l) i hi s hs
  have hle := take_sum_le s (ksN l)[i]
  have hi2 : i < (sizesF [] (ksN l)).length := by rw [sizesF_len]; exact hi
  have e : (sizesR l)[i] = (((sizesF [] (ksN l))[i] : Nat) : Int) := by simp only [hR, List.getElem_map]
  have hs2 : s.sum = i := by simpa using hsum
  rw [e]
  rw [List.getElem?_eq_getElem hi2] at hsi
  have hsi := Option.some.inj hsi
  omega
/-- How many of the first k nodes are groups that do not begin behind node i's. -/
def cntN (l : List NdN) (i k : Nat) : Nat := (List.range k).countP fun k => kdN l k == 3 && leF (fiN l) k i
theorem cntN_step (l : List NdN) (i k : Nat) : cntN l i (k + 1) = cntN l i k + if (kdN l k == 3 && leF (fiN l) k i) = true then 1 else 0 := by
  unfold cntN
  rw [List.range_succ, List.countP_append]
  simp [List.countP_cons]
theorem cntN_le (l : List NdN) (i k : Nat) : cntN l i k ≤ k := by
  unfold cntN
  have := List.countP_le_length (p := fun k => kdN l k == 3 && leF (fiN l) k i) (l := List.range k)
  rw [List.length_range] at this
  exact this
theorem cntN_num (l : List NdN) (i : Nat) (h : kdN l i = 3) : cntN l i (sizesR l).length = numF (kdN l) (fiN l) (sizesR l).length i := (num_count _ _ _ _ h).symm

/-- May a node be, but for its kids' kinds? -/
def nodeF (x : NdN) : Bool :=
  if x.kind ≠ 2 ∧ x.set ≠ 0 then false
  else if x.kind ≠ 4 ∧ (x.n ≠ 0 ∨ x.m ≠ 0) then false
  else if x.kind = 1 ∨ x.kind = 2 then x.kids == 0
  else if x.kind = 3 then x.kids == 1
  else if x.kind = 4 then x.kids == 1 && rightN x.n x.m
  else if x.kind = 5 ∨ x.kind = 6 then decide (2 ≤ x.kids)
  else false
/-- May node i's kids be its kids? -/
def kidsOkB (l : List NdN) (i : Nat) : Bool := (kidsR l i).all fun x => kidF (kdN l i) (kdN l x.toNat)
def okN (l : List NdN) (i : Nat) : Bool := nodeF (l.getD i ⟨0, 0, 0, 0, 0⟩) && kidsOkB l i
def grpN (l : List NdN) (k : Nat) : Nat := (List.range k).countP fun i => kdN l i == 3
/-- Is a list a pattern's tree? -/
def rightR (l : List NdN) : Bool := decide (manyF 0 (l.map NdN.kids) = some 1) && ((List.range l.length).all (okN l) && decide (grpN l l.length ≤ 9))
theorem grpN_step (l : List NdN) (k : Nat) : grpN l (k + 1) = grpN l k + if (kdN l k == 3) = true then 1 else 0 := by
  unfold grpN
  rw [List.range_succ, List.countP_append]
  simp [List.countP_cons]
theorem grpN_le (l : List NdN) (k : Nat) : grpN l k ≤ k := by
  unfold grpN
  have := List.countP_le_length (p := fun i => kdN l i == 3) (l := List.range k)
  rw [List.length_range] at this
  exact this
end Go.Proofs.YtdpkhliojbeglaaDoor

/- The document's trees: Numbers. -/
namespace Go.Proofs.YtdpkhliojbeglaaDoor
open Go.RowKit BS

def SNm (w0 : World) (g i k : Nat) (x y : Int) (W : World) : Prop := W.cell? ⟨g, i, none⟩ = some (.int .i64 x) ∧ W.cell? ⟨g, k, none⟩ = some (.int .i64 y) ∧ W = w0
end Go.Proofs.YtdpkhliojbeglaaDoor

/- The document's trees: node, Right. -/
namespace Go.Proofs.YtdpkhliojbeglaaDoor
open Go.RowKit BS

theorem kidsR_bound (l : List NdN) (i : Nat) (x : Int) (hx : x ∈ kidsR l i) : 0 ≤ x ∧ x < l.length := by
  unfold kidsR at hx
  by_cases hf : manyF 0 (l.map NdN.kids) = some 1 ∧ 0 ≤ (i : Int) ∧ (i : Int) < (l.length : Int)
  · rw [if_pos hf] at hx
    obtain ⟨y, hy, rfl⟩ := List.mem_map.1 hx
    rw [List.mem_reverse, show (i : Int).toNat = i from rfl] at hy
    have hkl : (ksN l).length = l.length := by simp [ksN]
    have hlt := allKids_lt (ksN l) [] 0 (fun h => absurd rfl h)
    have hal := allKids_len (ksN l) [] 0
    have hi : i < (allKids 0 [] (ksN l)).length := by rw [hal, hkl]; omega
    rw [List.getElem?_eq_getElem hi, Option.getD_some] at hy
    have := hlt _ (List.getElem_mem hi) y hy
    omega
  · rw [if_neg hf] at hx; cases hx
theorem kidsR_len (l : List NdN) (i : Nat) : (kidsR l i).length ≤ l.length := by
  unfold kidsR
  by_cases hf : manyF 0 (l.map NdN.kids) = some 1 ∧ 0 ≤ (i : Int) ∧ (i : Int) < (l.length : Int)
  · rw [if_pos hf, show (i : Int).toNat = i from rfl]
    obtain ⟨hk0, hst⟩ := (formed_iff (l.map NdN.kids)).1 hf.1
    have hst : stackF [] (ksN l) = some [(l.map NdN.kids).length] := hst
    have hkl : (ksN l).length = l.length := by simp [ksN]
    have hi : i < (ksN l).length := by omega
    obtain ⟨s, hs, hks, hsum⟩ := stack_at (ksN l) [] _ hst i hi
    have hpl := len_le_sum s (stackF_pos ((ksN l).take i) [] s (by simp) hs)
    have hsumi : s.sum = i := by simpa using hsum
    rw [allKids_at (ksN l) i hi s hs, Option.getD_some, List.length_map, List.length_reverse, List.length_take, posF_len]
    omega
  · rw [if_neg hf]; exact Nat.zero_le _
def SRi (w0 : World) (g off i x : Nat) (a b : Int) (g2 k : Nat) (W : World) : Prop :=
  (W.cell? ⟨g, off + i * 8, none⟩ = some (.int .i64 a) ∧ W.cell? ⟨g, off + x * 8, none⟩ = some (.int .i64 b) ∧ W.cell? ⟨g2, k, none⟩ = some (.int .i64 x)) ∧ W = w0
/-- Up to node i, and to kid k of it, all is right. -/
theorem okN_split (l : List NdN) (i : Nat) (h : i < l.length) : okN l i = (nodeF l[i] && kidsOkB l i) := by
  unfold okN
  rw [List.getD_eq_getElem?_getD, List.getElem?_eq_getElem h, Option.getD_some]
theorem rightR_no (l : List NdN) (i : Nat) (h : i < l.length) (h2 : okN l i = false) : rightR l = false := by
  unfold rightR
  have : (List.range l.length).all (okN l) = false := by
    rw [List.all_eq_false]
    exact ⟨i, List.mem_range.2 h, by rw [h2]; decide⟩
  rw [this]; simp
end Go.Proofs.YtdpkhliojbeglaaDoor

/- The laws of stage 6: what they want of the package ast; sure, AstTells, AstKids, AstNumbers. -/
namespace Go.Proofs.YtdpkhliojbeglaaDoor
open Go.RowKit BS

/-- A slice of whole numbers in memory that is new. -/
def IntsB (base : Nat) (l : List Int) (a : Option Addr) (W : World) : Prop := l ≠ [] → ∃ g o, a = some ⟨g, o, none⟩ ∧ base ≤ g ∧ g < W.heap.size ∧ ∀ i (h : i < l.length), W.cell? ⟨g, o + i, none⟩ = some (.int .i64 l[i])
theorem IntsB.o {base : Nat} {l : List Int} {a : Option Addr} {W : World} (h : IntsB base l a W) : IntsO l a W := fun hne => by
  obtain ⟨g, o, e, _, hg, hc⟩ := h hne
  exact ⟨g, o, e, hg, hc⟩
theorem IntsB.below {base : Nat} {l : List Int} {a : Option Addr} {W W' : World} (h : IntsB base l a W) (hb : Below W.heap.size W W') : IntsB base l a W' := fun hne => by
  obtain ⟨g, o, e, h0, hg, hc⟩ := h hne
  exact ⟨g, o, e, h0, Nat.lt_of_lt_of_le hg hb.size, fun i hi => (hb.cell (p := ⟨g, o + i, none⟩) hg).trans (hc i hi)⟩
theorem IntsB.set {base : Nat} {l : List Int} {a : Option Addr} {W : World} (h : IntsB base l a W) {B : Nat} (hB : B < base) (x : Nat) (v : Value) : IntsB base l a (W.setCell ⟨B, x, none⟩ v) := fun hne => by
  obtain ⟨g, o, e, h0, hg, hc⟩ := h hne
  refine ⟨g, o, e, h0, by simpa using hg, fun i hi => ?_⟩
  exact (World.cell?_of_block (w := W) (a := ⟨g, o + i, none⟩) (Below.heap_setCell W ⟨B, x, none⟩ _ g (by show g ≠ B; omega))).trans (hc i hi)
theorem IntsO.alloc {l : List Int} {a : Option Addr} {W : World} (h : IntsO l a W) (o : Obj) : IntsO l a (W.alloc o) := h.below ((Below.refl _ _).alloc (Nat.le_refl _) o)
theorem NodesAt.alloc {l : List NdN} {a : Option Addr} {W : World} (h : NodesAt l a W) (o : Obj) : NodesAt l a (W.alloc o) := h.below ((Below.refl _ _).alloc (Nat.le_refl _) o)
/-- Whole numbers in a block of their own. -/
theorem IntsO.of_blk {l : List Int} {W : World} {g : Nat} {t : TypeId} (h : Blk W g (l.map (Value.int .i64)).toArray t) : IntsO l (some ⟨g, 0, none⟩) W := fun _ =>
  ⟨g, 0, rfl, h.lt, fun i hi => by rw [Nat.zero_add, h.cell i]; simp [hi]⟩

/-! ### sure -/
def l6 : List NdN := [⟨2, 0, 0, 0, 0⟩, ⟨2, 0, 0, 0, 0⟩, ⟨3, 1, 0, 0, 0⟩, ⟨5, 2, 0, 0, 0⟩]
@[reducible] def c6 : Array Value := #[.int .i64 2, .int .i64 0, .int .i64 0, .int .i64 0, .int .u64 0, .int .u64 0, .int .u64 0, .int .u64 0, .int .i64 2, .int .i64 0, .int .i64 0, .int .i64 0, .int .u64 0, .int .u64 0, .int .u64 0, .int .u64 0, .int .i64 3, .int .i64 1, .int .i64 0, .int .i64 0, .int .u64 0, .int .u64 0, .int .u64 0, .int .u64 0, .int .i64 5, .int .i64 2, .int .i64 0, .int .i64 0, .int .u64 0, .int .u64 0, .int .u64 0, .int .u64 0]
theorem l6_formed : decide (manyF 0 (l6.map NdN.kids) = some 1) = true := by decide +kernel
theorem l6_right : rightR l6 = true := by decide +kernel
theorem l6_two : decide (manyF 0 ((l6.take 2).map NdN.kids) = some 1) = false := by decide +kernel
theorem l6_kids : kidsR l6 3 = [0, 2] := by decide +kernel
theorem l6_sizes : sizesR l6 = [1, 1, 2, 4] := by decide +kernel
theorem l6_nums : numsR l6 = [0, 0, 1, 0] := by decide +kernel
theorem nodes_take (l : List NdN) (n : Nat) (a : Option Addr) (W : World) (h : NodesAt l a W) : NodesAt (l.take n) a W := fun hne => by
  obtain ⟨g, off, e, hg, hc⟩ := h (fun h => by rw [h] at hne; simp at hne)
  refine ⟨g, off, e, hg, fun i hi j hj => ?_⟩
  rw [List.length_take] at hi
  rw [hc i (by omega) j hj, List.getElem_take]

/-! ### few -/
theorem kidsR_lenI (l : List NdN) (i : Int) : (kidsR l i).length ≤ l.length := by
  by_cases h : 0 ≤ i
  · obtain ⟨n, rfl⟩ := Int.eq_ofNat_of_zero_le h
    exact kidsR_len l n
  · unfold kidsR
    rw [if_neg (by omega)]
    exact Nat.zero_le _
theorem numsR_len (l : List NdN) : (numsR l).length = (sizesR l).length := by unfold numsR; rw [List.length_map, List.length_range]
end Go.Proofs.YtdpkhliojbeglaaDoor

/- Patterns' trees, plainly: what AstParts wants of a list of nodes that is a tree. -/
namespace Go.Proofs.YtdpkhliojbeglaaDoor
open Go.RowKit BS

@[reducible] def FormedN (l : List NdN) : Prop := manyF 0 (l.map NdN.kids) = some 1
theorem formed_stack (l : List NdN) (hf : FormedN l) : stackF [] (ksN l) = some [l.length] ∧ (ksN l).length = l.length ∧ (sizesR l).length = l.length ∧ (sizesF [] (ksN l)).length = l.length ∧ sizesR l = (sizesF [] (ksN l)).map (fun x : Nat => (x : Int)) := by
  obtain ⟨hk0, hst⟩ := (formed_iff (l.map NdN.kids)).1 hf
  have hst : stackF [] (ksN l) = some [(l.map NdN.kids).length] := hst
  rw [List.length_map] at hst
  have hkl : (ksN l).length = l.length := by simp [ksN]
  refine ⟨hst, hkl, ?_, by rw [sizesF_len, hkl], if_pos hf⟩
  rw [sizesR_len]
  exact if_pos hf
theorem formed_pos (l : List NdN) (hf : FormedN l) : 0 < l.length := by
  cases l with
  | nil => exact absurd hf (by unfold FormedN; decide)
  | cons => simp
/-- The kids of a node stand side by side, right ahead of it: A k is where kid k begins. -/
theorem kids_row (l : List NdN) (hf : FormedN l) (i : Nat) (hi : i < l.length) : ∃ A : Nat → Nat, A (kidsR l i).length = i ∧ A 0 ≤ i ∧ (A 0 : Int) = (i : Int) + 1 - (sizesR l).getD i 0 ∧
    ∀ k (h : k < (kidsR l i).length), A k < A (k + 1) ∧ A (k + 1) ≤ i ∧ (kidsR l i)[k] = ((A (k + 1) - 1 : Nat) : Int) ∧ (sizesR l).getD (A (k + 1) - 1) 0 = ((A (k + 1) - A k : Nat) : Int) := by
  obtain ⟨hst, hkl, hrl, hsl, hR⟩ := formed_stack l hf
  have hlk : i < (ksN l).length := by omega
  obtain ⟨s, hs, hks, hsum⟩ := stack_at (ksN l) [] _ hst i hlk
  obtain ⟨hr, ht, hsi⟩ := roots_at (ksN l) i hlk s hs
  rw [← ht] at hr
  have hpos := stackF_pos ((ksN l).take i) [] s (by simp) hs
  have hsumi : s.sum = i := by simpa using hsum
  have htl : ((sizesF [] (ksN l)).take i).length = i := by rw [List.length_take]; omega
  generalize hK : (ksN l)[i] = K at *
  have hkid : kidsR l i = (((posF i s).take K).reverse).map (fun x : Nat => (x : Int)) := by
    unfold kidsR
    rw [if_pos ⟨hf, by omega, by omega⟩, show (i : Int).toNat = i from rfl, allKids_at (ksN l) i hlk s hs, hK]
    rfl
  have hPl : ((posF i s).take K).length = K := by rw [List.length_take, posF_len]; omega
  have hlen : (kidsR l i).length = K := by rw [hkid, List.length_map, List.length_reverse, hPl]
  refine ⟨fun k => i - (s.take (K - k)).sum, ?_, Nat.sub_le _ _, ?_, ?_⟩
  · rw [hlen]; simp
  · have e1 : (sizesR l).getD i 0 = ((1 + (s.take K).sum : Nat) : Int) := by
      rw [List.getD_eq_getElem?_getD, hR, List.getElem?_map, hsi]; rfl
    rw [e1]
    have := take_sum_le s K
    simp only [Nat.sub_zero]
    omega
  · intro k h
    rw [hlen] at h
    have hj : K - 1 - k < s.length := by omega
    have hts := take_sum s (K - 1 - k) hj
    have hzp := hpos _ (List.getElem_mem hj)
    have hle := take_sum_le s (K - 1 - k + 1)
    rw [show K - 1 - k + 1 = K - k by omega] at hts hle
    have e1 : K - (k + 1) = K - 1 - k := by omega
    obtain ⟨r1, r2⟩ := hr (K - 1 - k) hj
    rw [htl] at r1 r2
    simp only [e1]
    refine ⟨by omega, by omega, ?_, ?_⟩
    · have hg : (kidsR l i)[k]'(by omega) = ((((posF i s).take K)[K - 1 - k]'(by omega) : Nat) : Int) := by
        simp only [hkid, List.getElem_map, List.getElem_reverse, hPl]
      rw [hg, List.getElem_take, posF_get]
    · have hp : i - (s.take (K - 1 - k)).sum - 1 < (sizesF [] (ksN l)).length := by omega
      rw [show i - 1 - (s.take (K - 1 - k)).sum = i - (s.take (K - 1 - k)).sum - 1 by omega] at r2
      rw [List.getElem?_take, if_pos (by omega)] at r2
      rw [List.getD_eq_getElem?_getD, hR, List.getElem?_map, r2]
      show ((s[K - 1 - k] : Nat) : Int) = _
      omega
theorem sizes_last (l : List NdN) (hf : FormedN l) : (sizesR l).getD (l.length - 1) 0 = (l.length : Int) := by
  obtain ⟨hst, hkl, hrl, hsl, hR⟩ := formed_stack l hf
  have hp := formed_pos l hf
  have hlk : l.length - 1 < (ksN l).length := by omega
  obtain ⟨s, hs, hks, hsum⟩ := stack_at (ksN l) [] _ hst (l.length - 1) hlk
  obtain ⟨_, _, hsi⟩ := roots_at (ksN l) (l.length - 1) hlk s hs
  have hsumi : s.sum = l.length - 1 := by simpa using hsum
  have e : ksN l = (ksN l).take (l.length - 1) ++ [(ksN l)[l.length - 1]] := by
    have h1 := List.take_append_drop (l.length - 1) (ksN l)
    rw [List.drop_eq_getElem_cons hlk, List.drop_of_length_le (by omega)] at h1
    exact h1.symm
  rw [e, stackF_snoc, hs] at hst
  have h2 : stepF s (ksN l)[l.length - 1] = [l.length] := by
    simp only [Option.bind_some] at hst
    rw [if_pos hks] at hst
    exact Option.some.inj hst
  have h3 : 1 + (s.take (ksN l)[l.length - 1]).sum = l.length := by
    unfold stepF at h2
    exact (List.cons.inj h2).1
  rw [List.getD_eq_getElem?_getD, hR, List.getElem?_map, hsi]
  show ((1 + (s.take (ksN l)[l.length - 1]).sum : Nat) : Int) = _
  rw [h3]
/-- How often a place has been a kid of the first i nodes. -/
def heldN (l : List NdN) (i x : Nat) : Nat := (((allKids 0 [] (ksN l)).take i).flatten).count x
theorem heldN_step (l : List NdN) (hf : FormedN l) (i : Nat) (hi : i < l.length) (x : Nat) : heldN l (i + 1) x = heldN l i x + (kidsR l i).count (x : Int) := by
  obtain ⟨hst, hkl, _⟩ := formed_stack l hf
  have hal := allKids_len (ksN l) [] 0
  have hlt : i < (allKids 0 [] (ksN l)).length := by omega
  unfold heldN
  rw [List.take_succ_eq_append_getElem hlt, List.flatten_append, List.count_append]
  congr 1
  have hk : kidsR l i = (((allKids 0 [] (ksN l))[i]).reverse).map (fun x : Nat => (x : Int)) := by
    unfold kidsR
    rw [if_pos ⟨hf, by omega, by omega⟩, show (i : Int).toNat = i from rfl, List.getElem?_eq_getElem hlt, Option.getD_some]
  rw [hk]
  have hinj : ∀ (m : List Nat), (m.map (fun x : Nat => (x : Int))).count (x : Int) = m.count x := fun m => by
    induction m with
    | nil => rfl
    | cons y m ih =>
      rw [List.map_cons, List.count_cons, List.count_cons, ih]
      congr 1
      by_cases h : y = x
      · subst h; simp
      · have h2 : ¬ ((y : Int) = (x : Int)) := by omega
        simp [h, h2]
  rw [hinj, List.count_reverse]
  simp
theorem heldN_all (l : List NdN) (hf : FormedN l) (x : Nat) (hx : x < l.length) : heldN l l.length x = if x = l.length - 1 then 0 else 1 := by
  obtain ⟨hst, hkl, _⟩ := formed_stack l hf
  have hal := allKids_len (ksN l) [] 0
  unfold heldN
  rw [List.take_of_length_le (by omega)]
  exact kids_tree (ksN l) l.length hkl hst x hx
theorem heldN_le (l : List NdN) (hf : FormedN l) : ∀ i, i ≤ l.length → ∀ x, x < l.length → heldN l i x ≤ 1 := fun i hi x hx => by
  have h1 := heldN_all l hf x hx
  have h2 : heldN l i x ≤ heldN l l.length x := by
    unfold heldN
    have e : (allKids 0 [] (ksN l)).take i = ((allKids 0 [] (ksN l)).take l.length).take i := by rw [List.take_take, Nat.min_eq_left hi]
    have e2 := congrArg (fun cs => (cs.flatten).count x) (List.take_append_drop i ((allKids 0 [] (ksN l)).take l.length))
    simp only [List.flatten_append, List.count_append] at e2
    rw [e]
    omega
  split at h1 <;> omega
/-- Node i's number; how many of the first i nodes have number m. -/
def nuN (l : List NdN) (i : Nat) : Nat := numF (kdN l) (fiN l) (sizesR l).length i
theorem numsR_get (l : List NdN) (i : Nat) (h : i < (sizesR l).length) : (numsR l).getD i 0 = (nuN l i : Int) := by
  unfold numsR nuN
  rw [List.getD_eq_getElem?_getD, List.getElem?_map, List.getElem?_range h]
  rfl
theorem grpN_len (l : List NdN) (n : Nat) : (grpF (kdN l) n).length = grpN l n := by
  unfold grpF grpN
  rw [List.countP_eq_length_filter]
theorem nuN_le (l : List NdN) (i : Nat) : nuN l i ≤ grpN l (sizesR l).length := by
  have := num_le (kdN l) (fiN l) (sizesR l).length i
  rw [grpN_len] at this
  exact this
theorem nuN_pos (l : List NdN) (i : Nat) (hi : i < (sizesR l).length) : 0 < nuN l i ↔ kdN l i = 3 := num_pos _ _ _ _ hi
def toldN (l : List NdN) (i m : Nat) : Nat := (List.range i).countP fun j => nuN l j == m
theorem toldN_step (l : List NdN) (i m : Nat) : toldN l (i + 1) m = toldN l i m + if nuN l i = m then 1 else 0 := by
  unfold toldN
  rw [List.range_succ, List.countP_append]
  simp [List.countP_cons]
theorem toldN_le (l : List NdN) (i m : Nat) : toldN l i m ≤ i := by
  unfold toldN
  have := List.countP_le_length (p := fun j => nuN l j == m) (l := List.range i)
  rw [List.length_range] at this
  exact this
theorem toldN_all (l : List NdN) (m : Nat) (h1 : 1 ≤ m) (h2 : m ≤ grpN l (sizesR l).length) : toldN l (sizesR l).length m = 1 := by
  rw [← grpN_len] at h2
  exact told_once (kdN l) (fiN l) (sizesR l).length m h1 h2
end Go.Proofs.YtdpkhliojbeglaaDoor

/- Patterns' trees, plainly: what AstGrows wants: a Group around a tree, an Alt of two. -/
namespace Go.Proofs.YtdpkhliojbeglaaDoor
open Go.RowKit BS

theorem kidsOk_iff (f : Nat → Int) : ∀ (cs : List (List Nat)) (i : Nat), KidsOk f i cs ↔ ∀ j (h : j < cs.length), ∀ x ∈ cs[j], kidF (f (i + j)) (f x) = true
  | [], i => by simp [KidsOk]
  | c :: cs, i => by
    rw [KidsOk, kidsOk_iff f cs (i + 1)]
    constructor
    · rintro ⟨h1, h2⟩ j hj x hx
      cases j with
      | zero => exact h1 x hx
      | succ j =>
        have := h2 j (by simpa using hj) x hx
        rwa [show i + 1 + j = i + (j + 1) by omega] at this
    · intro h
      refine ⟨fun x hx => h 0 (by simp) x hx, fun j hj x hx => ?_⟩
      have := h (j + 1) (by simpa using hj) x hx
      rwa [show i + (j + 1) = i + 1 + j by omega] at this
theorem kidsOkB_iff (l : List NdN) (hf : FormedN l) : (∀ i, i < l.length → kidsOkB l i = true) ↔ RightKids (l.map NdN.kind) (ksN l) := by
  obtain ⟨hst, hkl, _⟩ := formed_stack l hf
  have hal := allKids_len (ksN l) [] 0
  unfold RightKids
  rw [kidsOk_iff]
  have hk : ∀ i (h : i < (allKids 0 [] (ksN l)).length), kidsR l i = (((allKids 0 [] (ksN l))[i]).reverse).map (fun x : Nat => (x : Int)) := fun i h => by
    unfold kidsR
    rw [if_pos ⟨hf, by omega, by omega⟩, show (i : Int).toNat = i from rfl, List.getElem?_eq_getElem h, Option.getD_some]
  constructor
  · intro h j hj x hx
    have h1 := h j (by omega)
    unfold kidsOkB at h1
    rw [hk j hj, List.all_eq_true] at h1
    have := h1 (x : Int) (List.mem_map.2 ⟨x, List.mem_reverse.2 hx, rfl⟩)
    rw [Nat.zero_add]
    exact this
  · intro h i hi
    unfold kidsOkB
    rw [hk i (by omega), List.all_eq_true]
    intro y hy
    obtain ⟨x, hx, rfl⟩ := List.mem_map.1 hy
    have := h i (by omega) x (List.mem_reverse.1 hx)
    rw [Nat.zero_add] at this
    exact this
theorem grpN_count (l : List NdN) : grpN l l.length = (l.map NdN.kind).countP (· == 3) := by
  have e : (List.range l.length).map (kdN l) = l.map NdN.kind := by
    apply List.ext_getElem (by simp)
    intro i h1 h2
    rw [List.getElem_map, List.getElem_range, List.getElem_map]
    exact kdN_get l i (by simpa using h2)
  rw [← e, List.countP_map]
  rfl
theorem rightR_iff (l : List NdN) : rightR l = true ↔ FormedN l ∧ (∀ x ∈ l, nodeF x = true) ∧ RightKids (l.map NdN.kind) (ksN l) ∧ (l.map NdN.kind).countP (· == 3) ≤ 9 := by
  unfold rightR
  rw [Bool.and_eq_true, Bool.and_eq_true, decide_eq_true_iff, decide_eq_true_iff, List.all_eq_true, grpN_count]
  constructor
  · rintro ⟨h1, h2, h3⟩
    have h4 : ∀ i (h : i < l.length), nodeF l[i] = true ∧ kidsOkB l i = true := fun i h => by
      have := h2 i (List.mem_range.2 h)
      rw [okN_split l i h, Bool.and_eq_true] at this
      exact this
    refine ⟨h1, fun x hx => ?_, (kidsOkB_iff l h1).1 (fun i hi => (h4 i hi).2), h3⟩
    obtain ⟨i, hi, rfl⟩ := List.getElem_of_mem hx
    exact (h4 i hi).1
  · rintro ⟨h1, h2, h3, h4⟩
    refine ⟨h1, fun i hi => ?_, h4⟩
    have hi := List.mem_range.1 hi
    rw [okN_split l i hi, Bool.and_eq_true]
    exact ⟨h2 _ (List.getElem_mem hi), (kidsOkB_iff l h1).2 h3 i hi⟩
def ndG : NdN := ⟨3, 1, 0, 0, 0⟩
def ndL : NdN := ⟨6, 2, 0, 0, 0⟩
theorem formed_of (l : List NdN) (h1 : ∀ x ∈ l, 0 ≤ x.kids) (h2 : stackF [] (ksN l) = some [l.length]) : FormedN l := by
  unfold FormedN
  rw [formed_iff]
  refine ⟨fun k hk => ?_, by rw [List.length_map]; exact h2⟩
  obtain ⟨x, hx, rfl⟩ := List.mem_map.1 hk
  exact h1 x hx
theorem formed_kids (l : List NdN) (hf : FormedN l) : ∀ x ∈ l, 0 ≤ x.kids := fun x hx => ((formed_iff (l.map NdN.kids)).1 hf).1 x.kids (List.mem_map_of_mem hx)
theorem ksN_app (l m : List NdN) : ksN (l ++ m) = ksN l ++ ksN m := by simp [ksN]
theorem formed_group (l : List NdN) (hf : FormedN l) : FormedN (l ++ [ndG]) := by
  obtain ⟨hst, hkl, _⟩ := formed_stack l hf
  refine formed_of _ (fun x hx => ?_) ?_
  · rcases List.mem_append.1 hx with h | h
    · exact formed_kids l hf x h
    · rw [List.mem_singleton.1 h]; decide
  · rw [ksN_app, stackF_append, hst]
    show stackF [l.length] [1] = _
    unfold stackF stackF
    rw [if_pos (by simp)]
    simp [stepF, Nat.add_comm]
theorem formed_two (l m : List NdN) (hl : FormedN l) (hm : FormedN m) : FormedN (l ++ m ++ [ndL]) := by
  obtain ⟨h1, _⟩ := formed_stack l hl
  obtain ⟨h2, _⟩ := formed_stack m hm
  refine formed_of _ (fun x hx => ?_) ?_
  · rcases List.mem_append.1 hx with h | h
    · rcases List.mem_append.1 h with h | h
      · exact formed_kids l hl x h
      · exact formed_kids m hm x h
    · rw [List.mem_singleton.1 h]; decide
  · have h3 := stackF_below [l.length] (ksN m) [] [m.length] h2
    rw [ksN_app, ksN_app, stackF_append, stackF_append, h1]
    show ((stackF [l.length] (ksN m)).bind fun st' => stackF st' [2]) = _
    rw [show [l.length] = ([] : List Nat) ++ [l.length] from rfl, h3]
    show stackF [m.length, l.length] [2] = _
    unfold stackF stackF
    rw [if_pos (by simp)]
    simp [stepF]
    omega
/-- **A Group around a pattern's tree is one just if there are not too many.** -/
theorem right_group (l : List NdN) (h : rightR l = true) : rightR (l ++ [ndG]) = decide (grpN l l.length < 9) := by
  obtain ⟨h1, h2, h3, h4⟩ := (rightR_iff l).1 h
  obtain ⟨hst, hkl, _⟩ := formed_stack l h1
  rw [Bool.eq_iff_iff, rightR_iff, decide_eq_true_iff, grpN_count]
  have e : (l ++ [ndG]).map NdN.kind = l.map NdN.kind ++ [3] := by simp [ndG]
  have ek : ksN (l ++ [ndG]) = ksN l ++ [1] := by rw [ksN_app]; rfl
  rw [e, ek, List.countP_append, rightKids_group _ _ (by rw [List.length_map, hkl]) (by rw [hkl]; exact hst)]
  constructor
  · rintro ⟨_, _, _, h5⟩
    have : ([3] : List Int).countP (· == 3) = 1 := by decide
    omega
  · intro h5
    have : ([3] : List Int).countP (· == 3) = 1 := by decide
    refine ⟨formed_group l h1, fun x hx => ?_, h3, by omega⟩
    rcases List.mem_append.1 hx with h | h
    · exact h2 x h
    · rw [List.mem_singleton.1 h]; decide
theorem right_two (l m : List NdN) (h : rightR l = true) (hm : rightR m = true) : rightR (l ++ m ++ [ndL]) = ((kdN l (l.length - 1) != 6) && (kdN m (m.length - 1) != 6) && decide (grpN l l.length + grpN m m.length ≤ 9)) := by
  obtain ⟨h1, h2, h3, h4⟩ := (rightR_iff l).1 h
  obtain ⟨g1, g2, g3, g4⟩ := (rightR_iff m).1 hm
  obtain ⟨hst, hkl, _⟩ := formed_stack l h1
  obtain ⟨gst, gkl, _⟩ := formed_stack m g1
  rw [Bool.eq_iff_iff, rightR_iff, Bool.and_eq_true, Bool.and_eq_true, decide_eq_true_iff, grpN_count, grpN_count]
  have e : (l ++ m ++ [ndL]).map NdN.kind = l.map NdN.kind ++ m.map NdN.kind ++ [6] := by simp [ndL]
  have ek : ksN (l ++ m ++ [ndL]) = ksN l ++ ksN m ++ [2] := by rw [ksN_app, ksN_app]; rfl
  have hc : ([6] : List Int).countP (· == 3) = 0 := by decide
  rw [e, ek, List.countP_append, List.countP_append, hc, rightKids_two _ _ _ _ (by rw [List.length_map, hkl]) (by rw [List.length_map, gkl]) (by rw [hkl]; exact hst) (by rw [gkl]; exact gst), List.length_map, List.length_map]
  constructor
  · rintro ⟨_, _, ⟨_, _, h5, h6⟩, h7⟩
    exact ⟨⟨h5, h6⟩, by omega⟩
  · rintro ⟨⟨h5, h6⟩, h7⟩
    refine ⟨formed_two l m h1 g1, fun x hx => ?_, ⟨h3, g3, h5, h6⟩, by omega⟩
    rcases List.mem_append.1 hx with h | h
    · rcases List.mem_append.1 h with h | h
      · exact h2 x h
      · exact g2 x h
    · rw [List.mem_singleton.1 h]; decide
/-- **In a Group around all the numbers are one more.** -/
theorem nums_group (l : List NdN) (hf : FormedN l) : (numsR (l ++ [ndG])).length = l.length + 1 ∧ (numsR (l ++ [ndG])).getD l.length 0 = 1 ∧
    ∀ i, i < l.length → kdN l i = 3 → (numsR (l ++ [ndG])).getD i 0 = (numsR l).getD i 0 + 1 := by
  obtain ⟨hst, hkl, hrl, hsl, hR⟩ := formed_stack l hf
  obtain ⟨gst, gkl, grl, gsl, gR⟩ := formed_stack (l ++ [ndG]) (formed_group l hf)
  rw [List.length_append] at grl
  have hsz : sizesR (l ++ [ndG]) = sizesR l ++ [((1 + l.length : Nat) : Int)] := by
    rw [gR, hR, ksN_app, show ksN [ndG] = [1] from rfl, sizesF_snoc _ _ _ _ hst, List.map_append]
    simp
  have hkd : ∀ i, i < l.length → kdN (l ++ [ndG]) i = kdN l i := fun i hi => by
    rw [kdN_get l i hi, kdN_get (l ++ [ndG]) i (by simp; omega), List.getElem_append_left hi]
  have hkn : kdN (l ++ [ndG]) l.length = 3 := by
    rw [kdN_get _ l.length (by simp)]
    simp [ndG]
  have hfi : ∀ i, i < l.length → fiN (l ++ [ndG]) i = fiN l i := fun i hi => by
    unfold fiN
    rw [hsz, List.getD_eq_getElem?_getD, List.getD_eq_getElem?_getD, List.getElem?_append_left (by omega)]
  have hfn : fiN (l ++ [ndG]) l.length = -1 := by
    unfold fiN
    rw [hsz, List.getD_eq_getElem?_getD, List.getElem?_append_right (by omega), hrl, Nat.sub_self]
    simp
    omega
  have hlow : ∀ i, i < l.length → -1 ≤ fiN l i := fun i hi => by
    rw [fiN_get l i (by omega)]
    have := sizesR_bound l i (by omega)
    omega
  obtain ⟨r1, r2⟩ := num_grows (kdN l) (kdN (l ++ [ndG])) (fiN l) (fiN (l ++ [ndG])) l.length hkd hkn hfi hfn hlow
  have hn1 : (sizesR (l ++ [ndG])).length = l.length + 1 := grl
  refine ⟨by rw [numsR_len, hn1], ?_, fun i hi h3 => ?_⟩
  · rw [numsR_get _ _ (by omega)]
    unfold nuN
    rw [hn1, r1]; rfl
  · rw [numsR_get _ _ (by omega), numsR_get _ _ (by omega)]
    unfold nuN
    rw [hn1, hrl, r2 i hi h3]; rfl
end Go.Proofs.YtdpkhliojbeglaaDoor

/- Terms as lists of nodes, plainly. Stage 10. A term's node is kept as a node of a tree is: kind, A as kids, B as n, N as m, set. -/
namespace Go.Proofs.YtdpkhliojbeglaaDoor
open Go.RowKit BS

/-- How many parts a kind has. -/
def pcT (k : Int) : Nat := if k = 3 ∨ k = 4 then 2 else if 3 ≤ k ∧ k ≤ 8 then 1 else 0
def psT (l : List NdN) : List Nat := l.map fun x => pcT x.kind
/-- What a node may have, whatever stands ahead of it. -/
def kindT (x : NdN) : Bool := decide (1 ≤ x.kind ∧ x.kind ≤ 8 ∧ (x.kind = 2 ∨ x.set = 0) ∧ (x.kind = 7 ∨ x.m = 0) ∧ (x.kind = 7 → 1 ≤ x.m ∧ x.m ≤ 9) ∧ (pcT x.kind = 0 → x.kids = -1) ∧ (pcT x.kind ≠ 2 → x.n = -1))
/-- Its parts stand where they must: those are the places, the last one first. -/
def argT (x : NdN) (ps : List Nat) : Bool :=
  if pcT x.kind = 2 then decide (x.n = ((ps.getD 0 0 : Nat) : Int) ∧ x.kids = ((ps.getD 1 0 : Nat) : Int))
  else if pcT x.kind = 1 then decide (x.kids = ((ps.getD 0 0 : Nat) : Int)) else true
/-- No Group of its number from a place on. -/
def noT (l : List NdN) (x : NdN) (lo i : Nat) : Bool := decide (x.kind = 7 → ∀ k, k < i → lo ≤ k → ∀ y, l[k]? = some y → ¬ (y.kind = 7 ∧ y.m = x.m))
/-- Is node i fine behind those trees? -/
def fineT (l : List NdN) (s : List Nat) (i : Nat) (x : NdN) : Bool :=
  kindT x && (decide (pcT x.kind ≤ s.length) && (argT x (posF i s) && noT l x (i - (s.take (pcT x.kind)).sum) i))
/-- The trees behind i nodes, if all of them are fine. -/
def trT (l : List NdN) : Nat → Option (List Nat)
  | 0 => some []
  | i + 1 => (trT l i).bind fun s => (l[i]?).bind fun x => if fineT l s i x = true then some (stepF s (pcT x.kind)) else none
def lfT (l : List NdN) : Nat := (l.map NdN.kind).countP (· == 2)
/-- Is a list a term? -/
def rightT (l : List NdN) : Bool := decide (trT l l.length = some [l.length] ∧ l.length ≤ 400 ∧ lfT l ≤ 64)
theorem trT_step (l : List NdN) (i : Nat) (s : List Nat) (h : trT l (i + 1) = some s) : ∃ s0, trT l i = some s0 ∧ ∃ h : i < l.length, fineT l s0 i l[i] = true ∧ s = stepF s0 (pcT l[i].kind) := by
  rw [trT] at h
  obtain ⟨s0, h0, h1⟩ := Option.bind_eq_some_iff.1 h
  obtain ⟨x, h2, h3⟩ := Option.bind_eq_some_iff.1 h1
  obtain ⟨hi, rfl⟩ := List.getElem?_eq_some_iff.1 h2
  by_cases hf : fineT l s0 i l[i] = true
  · rw [if_pos hf] at h3
    exact ⟨s0, h0, hi, hf, (Option.some.inj h3).symm⟩
  · rw [if_neg hf] at h3; cases h3
theorem trT_more (l : List NdN) (i : Nat) (s : List Nat) (h : trT l i = some s) (hi : i < l.length) (hf : fineT l s i l[i] = true) : trT l (i + 1) = some (stepF s (pcT l[i].kind)) := by
  rw [trT, h, List.getElem?_eq_getElem hi]
  show (if fineT l s i l[i] = true then _ else _) = _
  rw [if_pos hf]
theorem trT_stop (l : List NdN) (i : Nat) (s : List Nat) (h : trT l i = some s) (hi : i < l.length) (hf : fineT l s i l[i] = false) : trT l (i + 1) = none := by
  rw [trT, h, List.getElem?_eq_getElem hi]
  show (if fineT l s i l[i] = true then _ else _) = _
  rw [if_neg (by rw [hf]; decide)]
theorem trT_none (l : List NdN) (i : Nat) (h : trT l i = none) : ∀ j, i ≤ j → trT l j = none
  | 0, hj => by
    have : i = 0 := by omega
    subst this; exact h
  | j + 1, hj => by
    rcases Nat.lt_or_ge i (j + 1) with h1 | h1
    · rw [trT, trT_none l i h j (by omega)]; rfl
    · have : i = j + 1 := by omega
      subst this; exact h
theorem psT_len (l : List NdN) : (psT l).length = l.length := by simp [psT]
theorem psT_get (l : List NdN) (i : Nat) (h : i < l.length) : (psT l)[i]'(by rw [psT_len]; exact h) = pcT l[i].kind := by simp [psT]
theorem fineT_len (l : List NdN) (s : List Nat) (i : Nat) (x : NdN) (h : fineT l s i x = true) : pcT x.kind ≤ s.length := by
  unfold fineT at h
  simp only [Bool.and_eq_true, decide_eq_true_eq] at h
  exact h.2.1
theorem trT_stack (l : List NdN) : ∀ i s, trT l i = some s → i ≤ l.length ∧ stackF [] ((psT l).take i) = some s
  | 0, s, h => by
    rw [trT] at h
    cases h
    exact ⟨Nat.zero_le _, by rw [List.take_zero]; rfl⟩
  | i + 1, s, h => by
    obtain ⟨s0, h0, hi, hf, rfl⟩ := trT_step l i s h
    obtain ⟨_, h2⟩ := trT_stack l i s0 h0
    refine ⟨hi, ?_⟩
    rw [List.take_succ_eq_append_getElem (by rw [psT_len]; exact hi), stackF_snoc, h2, psT_get l i hi]
    show (if pcT l[i].kind ≤ s0.length then _ else _) = _
    rw [if_pos (fineT_len l s0 i _ hf)]
theorem trT_before (l : List NdN) (i : Nat) (s : List Nat) (h : trT l i = some s) (j : Nat) (hj : j ≤ i) : ∃ s', trT l j = some s' := by
  cases hs : trT l j with
  | some s' => exact ⟨s', rfl⟩
  | none => rw [trT_none l j hs i hj] at h; cases h
/-- What a term is. -/
structure TermQ (l : List NdN) : Prop where
  stack : stackF [] (psT l) = some [l.length]
  pos : 0 < l.length
  len : l.length ≤ 400
  leaf : lfT l ≤ 64
  fine : ∀ i (h : i < l.length), ∃ s, stackF [] ((psT l).take i) = some s ∧ fineT l s i l[i] = true
theorem rightT_q (l : List NdN) (h : rightT l = true) : TermQ l := by
  obtain ⟨h1, h2, h3⟩ := of_decide_eq_true h
  have hst := (trT_stack l _ _ h1).2
  rw [List.take_of_length_le (by rw [psT_len]; exact Nat.le_refl _)] at hst
  refine ⟨hst, ?_, h2, h3, fun i hi => ?_⟩
  · rcases Nat.eq_zero_or_pos l.length with h0 | h0
    · rw [h0, trT] at h1; cases h1
    · exact h0
  · obtain ⟨s', hs'⟩ := trT_before l _ _ h1 (i + 1) hi
    obtain ⟨s0, h4, _, h5, _⟩ := trT_step l i s' hs'
    exact ⟨s0, (trT_stack l i s0 h4).2, h5⟩
theorem q_right (l : List NdN) (h : TermQ l) : rightT l = true := by
  refine decide_eq_true ⟨?_, h.len, h.leaf⟩
  have hall : ∀ i, i ≤ l.length → ∃ s, trT l i = some s := fun i => by
    induction i with
    | zero => intro _; exact ⟨[], rfl⟩
    | succ i ih =>
      intro hi
      obtain ⟨s, hs⟩ := ih (by omega)
      obtain ⟨s', h1, h2⟩ := h.fine i hi
      have e := (trT_stack l i s hs).2
      rw [h1] at e
      cases e
      exact ⟨_, trT_more l i _ hs hi h2⟩
  obtain ⟨s, hs⟩ := hall l.length (Nat.le_refl _)
  have e := (trT_stack l _ s hs).2
  rw [List.take_of_length_le (by rw [psT_len]; exact Nat.le_refl _), h.stack] at e
  cases e
  exact hs
/-! ### A term as a tree -/
def asN (x : NdN) : NdN := ⟨x.kind, ((pcT x.kind : Nat) : Int), 0, 0, 0⟩
def asL (l : List NdN) : List NdN := l.map asN
theorem asL_len (l : List NdN) : (asL l).length = l.length := by simp [asL]
theorem asL_get (l : List NdN) (i : Nat) (h : i < l.length) : (asL l)[i]'(by rw [asL_len]; exact h) = asN l[i] := by simp [asL]
theorem ksN_as (l : List NdN) : ksN (asL l) = psT l := by
  unfold ksN asL psT
  rw [List.map_map, List.map_map]
  rfl
theorem formed_as (l : List NdN) (h : TermQ l) : FormedN (asL l) := by
  refine formed_of (asL l) (fun x hx => ?_) (by rw [ksN_as, asL_len]; exact h.stack)
  obtain ⟨y, _, rfl⟩ := List.mem_map.1 hx
  exact Int.natCast_nonneg _
/-- **The parts of a node stand where its kids would.** -/
theorem parts_as (l : List NdN) (h : TermQ l) (i : Nat) (hi : i < l.length) : kidsR (asL l) i = if pcT l[i].kind = 2 then [l[i].kids, l[i].n] else if pcT l[i].kind = 1 then [l[i].kids] else [] := by
  have hf := formed_as l h
  obtain ⟨s, hs, hfi⟩ := h.fine i hi
  have hlk : i < (ksN (asL l)).length := by rw [ksN_as, psT_len]; exact hi
  have hk : (ksN (asL l))[i] = pcT l[i].kind := by
    have : (psT l)[i]'(by rw [psT_len]; exact hi) = pcT l[i].kind := psT_get l i hi
    simpa only [ksN_as] using this
  unfold kidsR
  rw [if_pos ⟨hf, by omega, by rw [asL_len]; omega⟩, show (i : Int).toNat = i from rfl, allKids_at (ksN (asL l)) i hlk s (by rw [ksN_as]; exact hs), hk]
  unfold fineT at hfi
  simp only [Bool.and_eq_true, decide_eq_true_eq] at hfi
  obtain ⟨_, h2, h3, _⟩ := hfi
  have hpl := posF_len s i
  generalize posF i s = ps at *
  unfold argT at h3
  by_cases c2 : pcT l[i].kind = 2
  · rw [if_pos c2] at h3 ⊢
    obtain ⟨h4, h5⟩ := of_decide_eq_true h3
    rw [c2] at h2 ⊢
    obtain _ | ⟨p, _ | ⟨q, ps⟩⟩ := ps
    · simp at hpl; omega
    · simp at hpl; omega
    · simp at h4 h5 ⊢
      exact ⟨h5.symm, h4.symm⟩
  · rw [if_neg c2] at h3 ⊢
    by_cases c1 : pcT l[i].kind = 1
    · rw [if_pos c1] at h3 ⊢
      have h4 := of_decide_eq_true h3
      rw [c1] at h2 ⊢
      obtain _ | ⟨p, ps⟩ := ps
      · simp at hpl; omega
      · simp at h4 ⊢
        exact h4.symm
    · rw [if_neg c1]
      have : pcT l[i].kind = 0 := by
        have : pcT l[i].kind = 0 ∨ pcT l[i].kind = 1 ∨ pcT l[i].kind = 2 := by
          unfold pcT
          split
          · exact .inr (.inr rfl)
          · split
            · exact .inr (.inl rfl)
            · exact .inl rfl
        omega
      rw [this]
      rfl
/-- The first node of what a node is. -/
def lowT (l : List NdN) (i : Nat) : Int := (i : Int) + 1 - (sizesR (asL l)).getD i 0
end Go.Proofs.YtdpkhliojbeglaaDoor

/- Terms, plainly: whose part a node is, how deep it lies. Stage 10. -/
namespace Go.Proofs.YtdpkhliojbeglaaDoor
open Go.RowKit BS

/-- A node's parts, from the left. -/
def partsT (l : List NdN) (i : Nat) : List Int := kidsR (asL l) i
/-- The node whose part it is; -1, if there is none. -/
def upF (l : List NdN) (x : Nat) : Option Nat := (List.range l.length).find? fun i => (partsT l i).contains (x : Int)
def upT (l : List NdN) (x : Nat) : Int := match upF l x with | some i => (i : Int) | none => -1
/-- Parts stand ahead. -/
theorem part_lt (l : List NdN) (h : TermQ l) (i : Nat) (hi : i < l.length) (x : Int) (hx : x ∈ partsT l i) : 0 ≤ x ∧ x < (i : Int) := by
  have hi' : i < (asL l).length := by rw [asL_len]; exact hi
  obtain ⟨A, hA, h0, _, hk⟩ := kids_row (asL l) (formed_as l h) i hi'
  obtain ⟨k, hk1, e⟩ := List.getElem_of_mem hx
  change k < (kidsR (asL l) i).length at hk1
  obtain ⟨h1, h2, h3, _⟩ := hk k hk1
  change (kidsR (asL l) i)[k] = x at e
  rw [h3] at e
  omega
/-- Each node but the root is a part of just one. -/
theorem held_one (l : List NdN) (h : TermQ l) (x i j : Nat) (hi : i < l.length) (hj : j < l.length) (hij : i < j) (hx : (x : Int) ∈ partsT l i) (hx' : (x : Int) ∈ partsT l j) : False := by
  have hf := formed_as l h
  have hl := asL_len l
  have hxl : x < (asL l).length := by have := (part_lt l h i hi _ hx).2; omega
  have h1 := heldN_step (asL l) hf j (by omega) x
  have h2 := heldN_step (asL l) hf i (by omega) x
  have c1 : 0 < (kidsR (asL l) i).count (x : Int) := List.count_pos_iff.2 hx
  have c2 : 0 < (kidsR (asL l) j).count (x : Int) := List.count_pos_iff.2 hx'
  have h3 := heldN_le (asL l) hf (j + 1) (by omega) x hxl
  have hm : ∀ n m, n ≤ m → m ≤ (asL l).length → heldN (asL l) n x ≤ heldN (asL l) m x := fun n m hnm hml => by
    induction m with
    | zero => have : n = 0 := by omega
              subst this; exact Nat.le_refl _
    | succ m ih =>
      rcases Nat.lt_or_ge n (m + 1) with hl | hl
      · have := heldN_step (asL l) hf m (by omega) x
        have := ih (by omega) (by omega)
        omega
      · have : n = m + 1 := by omega
        subst this; exact Nat.le_refl _
  have h4 := hm (i + 1) j (by omega) (by omega)
  omega
theorem up_of (l : List NdN) (h : TermQ l) (i : Nat) (hi : i < l.length) (x : Nat) (hx : (x : Int) ∈ partsT l i) : upF l x = some i := by
  unfold upF
  cases hf : (List.range l.length).find? (fun i => (partsT l i).contains (x : Int)) with
  | none =>
    have := List.find?_eq_none.1 hf i (List.mem_range.2 hi)
    simp at this
    exact absurd hx this
  | some j =>
    have h1 := List.mem_range.1 (List.mem_of_find?_eq_some hf)
    have h2 := List.find?_some hf
    simp at h2
    rcases Nat.lt_trichotomy i j with hl | hl | hl
    · exact (held_one l h x i j hi h1 hl hx h2).elim
    · rw [hl]
    · exact (held_one l h x j i h1 hi hl h2 hx).elim
theorem up_some (l : List NdN) (x i : Nat) (h : upF l x = some i) : i < l.length ∧ (x : Int) ∈ partsT l i := by
  unfold upF at h
  have h1 := List.mem_range.1 (List.mem_of_find?_eq_some h)
  have h2 := List.find?_some h
  simp at h2
  exact ⟨h1, h2⟩
/-- Only the root is no part. -/
theorem up_none (l : List NdN) (h : TermQ l) (x : Nat) (hx : x < l.length) : upF l x = none ↔ x = l.length - 1 := by
  have hf := formed_as l h
  have hl := asL_len l
  have h1 := heldN_all (asL l) hf x (by omega)
  have hz : ∀ n, n ≤ (asL l).length → (∀ i, i < n → ¬ (x : Int) ∈ partsT l i) → heldN (asL l) n x = 0 := fun n => by
    induction n with
    | zero => intro _ _; unfold heldN; simp
    | succ n ih =>
      intro hn hno
      have e := heldN_step (asL l) hf n (by omega) x
      rw [ih (by omega) fun i hi => hno i (by omega)] at e
      have c : (kidsR (asL l) n).count (x : Int) = 0 := List.count_eq_zero.2 (hno n (by omega))
      omega
  constructor
  · intro hn
    have hno : ∀ i, i < (asL l).length → ¬ (x : Int) ∈ partsT l i := fun i hi hm => by
      have := List.find?_eq_none.1 hn i (List.mem_range.2 (by omega))
      simp at this
      exact this hm
    have := hz _ (Nat.le_refl _) hno
    rw [h1] at this
    by_cases he : x = (asL l).length - 1
    · omega
    · rw [if_neg he] at this; omega
  · intro he
    cases hu : upF l x with
    | none => rfl
    | some i =>
      obtain ⟨hi, hm⟩ := up_some l x i hu
      have c : 0 < (kidsR (asL l) i).count (x : Int) := List.count_pos_iff.2 hm
      have e := heldN_step (asL l) hf i (by omega) x
      have := heldN_le (asL l) hf (i + 1) (by omega) x (by omega)
      have hm2 : ∀ m, i + 1 ≤ m → m ≤ (asL l).length → heldN (asL l) (i + 1) x ≤ heldN (asL l) m x := fun m => by
        induction m with
        | zero => intro h; omega
        | succ m ih =>
          intro h1 h2
          rcases Nat.lt_or_ge i m with hl | hl
          · have := heldN_step (asL l) hf m (by omega) x
            have := ih (by omega) (by omega)
            omega
          · have : i = m := by omega
            subst this; exact Nat.le_refl _
      have := hm2 (asL l).length (by omega) (Nat.le_refl _)
      rw [h1, if_pos (by omega)] at this
      omega
/-- How many nodes there are from the root to a node. -/
def dpT (l : List NdN) : Nat → Nat → Nat
  | 0, _ => 1
  | k + 1, x => match upF l x with
    | none => 1
    | some i => dpT l k i + 1
theorem up_gt (l : List NdN) (h : TermQ l) (x i : Nat) (hu : upF l x = some i) : x < i ∧ i < l.length := by
  obtain ⟨h1, h2⟩ := up_some l x i hu
  have := (part_lt l h i h1 _ h2).2
  omega
theorem dpT_fuel (l : List NdN) (h : TermQ l) : ∀ k k' x, l.length ≤ k + x → l.length ≤ k' + x → x < l.length → dpT l k x = dpT l k' x
  | 0, k', x, h1, _, h3 => by omega
  | k + 1, 0, x, _, h2, h3 => by omega
  | k + 1, k' + 1, x, h1, h2, h3 => by
    rw [dpT, dpT]
    cases hu : upF l x with
    | none => rfl
    | some i =>
      obtain ⟨g1, g2⟩ := up_gt l h x i hu
      show dpT l k i + 1 = dpT l k' i + 1
      rw [dpT_fuel l h k k' i (by omega) (by omega) g2]
def deepT (l : List NdN) (x : Nat) : Nat := dpT l l.length x
theorem deep_root (l : List NdN) (h : TermQ l) : deepT l (l.length - 1) = 1 := by
  have hp := h.pos
  obtain ⟨n, hn⟩ : ∃ n, l.length = n + 1 := ⟨l.length - 1, by omega⟩
  have hu := (up_none l h (l.length - 1) (by omega)).2 rfl
  unfold deepT
  conv => lhs; arg 2; rw [hn]
  rw [dpT, hu]
theorem deep_up (l : List NdN) (h : TermQ l) (x i : Nat) (hu : upF l x = some i) : deepT l x = deepT l i + 1 := by
  obtain ⟨g1, g2⟩ := up_gt l h x i hu
  obtain ⟨n, hn⟩ : ∃ n, l.length = n + 1 := ⟨l.length - 1, by omega⟩
  have e : dpT l (n + 1) x = dpT l n i + 1 := by rw [dpT, hu]
  have e2 := dpT_fuel l h n l.length i (by omega) (by omega) g2
  unfold deepT
  conv => lhs; arg 2; rw [hn]
  rw [e, e2]
theorem deep_pos (l : List NdN) (x : Nat) : 1 ≤ deepT l x := by
  unfold deepT
  cases l.length with
  | zero => exact Nat.le_refl _
  | succ n =>
    rw [dpT]
    split
    · exact Nat.le_refl _
    · omega
theorem dpT_le (l : List NdN) : ∀ k x, dpT l k x ≤ k + 1
  | 0, x => Nat.le_refl _
  | k + 1, x => by
    rw [dpT]
    split
    · omega
    · have := dpT_le l k; rename_i i _; have := this i; omega
theorem deep_le (l : List NdN) (x : Nat) : deepT l x ≤ l.length + 1 := dpT_le l _ x
end Go.Proofs.YtdpkhliojbeglaaDoor

/- Terms, plainly: two of them are one. Stage 10. -/
namespace Go.Proofs.YtdpkhliojbeglaaDoor
open Go.RowKit BS

/-- A node that stands further on. -/
def shN (d : Nat) (x : NdN) : NdN := ⟨x.kind, if 0 ≤ x.kids then x.kids + d else x.kids, if 0 ≤ x.n then x.n + d else x.n, x.m, x.set⟩
/-- Two terms, and a node above. -/
def joinT (a b : List NdN) (k : Int) : List NdN := a ++ b.map (shN a.length) ++ [⟨k, (a.length : Int) - 1, (a.length : Int) + b.length - 1, 0, 0⟩]
theorem joinT_len (a b : List NdN) (k : Int) : (joinT a b k).length = a.length + b.length + 1 := by simp [joinT]; omega
theorem joinT_a (a b : List NdN) (k : Int) (i : Nat) (h : i < a.length) : (joinT a b k)[i]'(by rw [joinT_len]; omega) = a[i] := by
  unfold joinT
  rw [List.getElem_append_left (by simp; omega), List.getElem_append_left h]
theorem joinT_b (a b : List NdN) (k : Int) (j : Nat) (h : j < b.length) : (joinT a b k)[a.length + j]'(by rw [joinT_len]; omega) = shN a.length b[j] := by
  unfold joinT
  rw [List.getElem_append_left (by simp; omega), List.getElem_append_right (by omega)]
  simp
theorem joinT_r (a b : List NdN) (k : Int) : (joinT a b k)[a.length + b.length]'(by rw [joinT_len]; omega) = ⟨k, (a.length : Int) - 1, (a.length : Int) + b.length - 1, 0, 0⟩ := by
  unfold joinT
  rw [List.getElem_append_right (by simp)]
  simp
theorem psT_app (a b : List NdN) : psT (a ++ b) = psT a ++ psT b := by simp [psT]
theorem psT_sh (d : Nat) (b : List NdN) : psT (b.map (shN d)) = psT b := by
  unfold psT
  rw [List.map_map]
  rfl
theorem psT_join (a b : List NdN) (k : Int) : psT (joinT a b k) = psT a ++ psT b ++ [pcT k] := by
  unfold joinT
  rw [psT_app, psT_app, psT_sh]
  rfl
theorem lfT_app (a b : List NdN) : lfT (a ++ b) = lfT a + lfT b := by simp [lfT]
theorem lfT_sh (d : Nat) (b : List NdN) : lfT (b.map (shN d)) = lfT b := by
  unfold lfT
  rw [List.map_map]
  rfl
theorem lfT_join (a b : List NdN) (k : Int) (hk : k ≠ 2) : lfT (joinT a b k) = lfT a + lfT b := by
  unfold joinT
  rw [lfT_app, lfT_app, lfT_sh]
  have : lfT [(⟨k, (a.length : Int) - 1, (a.length : Int) + b.length - 1, 0, 0⟩ : NdN)] = 0 := by simp [lfT, hk]
  omega
theorem fineT_iff (l : List NdN) (s : List Nat) (i : Nat) (x : NdN) : fineT l s i x = true ↔ kindT x = true ∧ pcT x.kind ≤ s.length ∧ argT x (posF i s) = true ∧ (x.kind = 7 → ∀ k, k < i → i - (s.take (pcT x.kind)).sum ≤ k → ∀ y, l[k]? = some y → ¬ (y.kind = 7 ∧ y.m = x.m)) := by
  unfold fineT noT
  simp only [Bool.and_eq_true, decide_eq_true_eq]
theorem pc_kinds (k : Int) : pcT k = 0 ∨ pcT k = 1 ∨ pcT k = 2 := by
  unfold pcT
  split
  · exact .inr (.inr rfl)
  · split
    · exact .inr (.inl rfl)
    · exact .inl rfl
theorem kindT_sh (d : Nat) (x : NdN) (h : kindT x = true) : kindT (shN d x) = true := by
  unfold kindT at h ⊢
  rw [decide_eq_true_eq] at h ⊢
  obtain ⟨h1, h2, h3, h4, h5, h6, h7⟩ := h
  refine ⟨h1, h2, h3, h4, h5, fun h => ?_, fun h => ?_⟩
  · show (if 0 ≤ x.kids then x.kids + d else x.kids) = -1
    rw [h6 h]
    rfl
  · show (if 0 ≤ x.n then x.n + d else x.n) = -1
    rw [h7 h]
    rfl
theorem argT_sh (d j : Nat) (x : NdN) (s : List Nat) (h : argT x (posF j s) = true) (hl : pcT x.kind ≤ s.length) (hp : ∀ z ∈ s, 0 < z) (hs : s.sum = j) : argT (shN d x) (posF (d + j) (s ++ [d])) = true := by
  unfold argT at h ⊢
  have e0 : (shN d x).kind = x.kind := rfl
  rw [e0]
  by_cases c2 : pcT x.kind = 2
  · rw [if_pos c2] at h ⊢
    rw [c2] at hl
    obtain _ | ⟨z, _ | ⟨u, s⟩⟩ := s
    · simp at hl
    · simp at hl
    · obtain ⟨h1, h2⟩ := of_decide_eq_true h
      have hz := hp z (List.mem_cons_self ..)
      have hu := hp u (by simp)
      simp only [List.sum_cons] at hs
      simp only [posF, List.getD_cons_zero, List.getD_cons_succ] at h1 h2
      simp only [List.cons_append, posF, List.getD_cons_zero, List.getD_cons_succ]
      refine decide_eq_true ⟨?_, ?_⟩
      · show (if 0 ≤ x.n then x.n + (d : Int) else x.n) = _
        rw [if_pos (by omega)]
        omega
      · show (if 0 ≤ x.kids then x.kids + (d : Int) else x.kids) = _
        rw [if_pos (by omega)]
        omega
  · rw [if_neg c2] at h ⊢
    by_cases c1 : pcT x.kind = 1
    · rw [if_pos c1] at h ⊢
      rw [c1] at hl
      obtain _ | ⟨z, s⟩ := s
      · simp at hl
      · have h1 := of_decide_eq_true h
        have hz := hp z (List.mem_cons_self ..)
        simp only [List.sum_cons] at hs
        simp only [posF, List.getD_cons_zero] at h1
        simp only [List.cons_append, posF, List.getD_cons_zero]
        refine decide_eq_true ?_
        show (if 0 ≤ x.kids then x.kids + (d : Int) else x.kids) = _
        rw [if_pos (by omega)]
        omega
    · rw [if_neg c1]
/-- **Two terms are one.** -/
theorem join_q (a b : List NdN) (k : Int) (hk : k = 3 ∨ k = 4) (ha : TermQ a) (hb : TermQ b) (hl : a.length + b.length + 1 ≤ 400) (hlf : lfT a + lfT b ≤ 64) : TermQ (joinT a b k) := by
  have hpk : pcT k = 2 := by unfold pcT; rw [if_pos hk]
  have hst2 : stackF [] (psT a ++ psT b) = some [b.length, a.length] := by
    rw [stackF_append, ha.stack]
    have := stackF_below [a.length] (psT b) [] _ hb.stack
    simpa using this
  have hja := psT_len a
  have hjb := psT_len b
  refine ⟨?_, by rw [joinT_len]; omega, by rw [joinT_len]; exact hl, by rw [lfT_join a b k (by omega)]; exact hlf, fun i hi => ?_⟩
  · rw [psT_join, stackF_append, hst2, joinT_len, hpk]
    show some [1 + _] = _
    simp
    omega
  · rw [joinT_len] at hi
    rcases Nat.lt_or_ge i a.length with h1 | h1
    · obtain ⟨s, hs, hf⟩ := ha.fine i h1
      refine ⟨s, ?_, ?_⟩
      · rw [psT_join, List.take_append_of_le_length (by simp; omega), List.take_append_of_le_length (by omega)]
        exact hs
      · rw [joinT_a a b k i h1]
        rw [fineT_iff] at hf ⊢
        refine ⟨hf.1, hf.2.1, hf.2.2.1, fun h7 q hq hlo y hy => hf.2.2.2 h7 q hq hlo y ?_⟩
        rw [List.getElem?_eq_getElem (by rw [joinT_len]; omega), joinT_a a b k q (by omega)] at hy
        rw [List.getElem?_eq_getElem (by omega)]
        exact hy
    · rcases Nat.lt_or_ge i (a.length + b.length) with h2 | h2
      · obtain ⟨j, rfl⟩ : ∃ j, i = a.length + j := ⟨i - a.length, by omega⟩
        have hj : j < b.length := by omega
        obtain ⟨s, hs, hf⟩ := hb.fine j hj
        have hpos := stackF_pos ((psT b).take j) [] s (by simp) hs
        have hsum := stackF_sum _ _ _ hs
        rw [List.length_take, hjb] at hsum
        have hsj : s.sum = j := by simp at hsum; omega
        refine ⟨s ++ [a.length], ?_, ?_⟩
        · rw [psT_join, List.take_append_of_le_length (by simp; omega), show a.length + j = (psT a).length + j by omega, List.take_length_add_append, stackF_append, ha.stack]
          have := stackF_below [a.length] ((psT b).take j) [] _ hs
          simpa using this
        · rw [joinT_b a b k j hj]
          rw [fineT_iff] at hf ⊢
          have e0 : (shN a.length b[j]).kind = b[j].kind := rfl
          rw [e0]
          refine ⟨kindT_sh _ _ hf.1, by simp; omega, argT_sh a.length j b[j] s hf.2.2.1 hf.2.1 hpos hsj, fun h7 q hq hlo y hy => ?_⟩
          rw [List.take_append_of_le_length hf.2.1] at hlo
          have hle := take_sum_le s (pcT b[j].kind)
          obtain ⟨p, rfl⟩ : ∃ p, q = a.length + p := ⟨q - a.length, by omega⟩
          have hp : p < b.length := by omega
          rw [List.getElem?_eq_getElem (by rw [joinT_len]; omega), joinT_b a b k p hp] at hy
          cases hy
          exact hf.2.2.2 h7 p (by omega) (by omega) b[p] (List.getElem?_eq_getElem hp)
      · obtain rfl : i = a.length + b.length := by omega
        refine ⟨[b.length, a.length], ?_, ?_⟩
        · rw [psT_join, List.take_append_of_le_length (by simp; omega), List.take_of_length_le (by simp; omega)]
          exact hst2
        · rw [joinT_r, fineT_iff]
          have h3 := ha.pos
          have h4 := hb.pos
          refine ⟨?_, by show pcT k ≤ 2; omega, ?_, fun h7 => by exfalso; simp only at h7; omega⟩
          · unfold kindT
            rw [decide_eq_true_eq]
            refine ⟨by show 1 ≤ k; omega, by show k ≤ 8; omega, .inr rfl, .inr rfl, fun h => by exfalso; simp only at h; omega, fun h => by exfalso; simp only at h; omega, fun h => by exfalso; simp only at h; omega⟩
          · unfold argT
            show (if pcT k = 2 then _ else _) = _
            rw [if_pos hpk]
            simp only [posF, List.getD_cons_zero, List.getD_cons_succ]
            refine decide_eq_true ⟨?_, ?_⟩
            · show (a.length : Int) + b.length - 1 = _
              omega
            · show (a.length : Int) - 1 = _
              omega
end Go.Proofs.YtdpkhliojbeglaaDoor

/- Terms, plainly: in two terms as one each node lies one deeper; the greatest group. Stage 10. -/
namespace Go.Proofs.YtdpkhliojbeglaaDoor
open Go.RowKit BS

theorem parts_a (a b : List NdN) (k : Int) (ha : TermQ a) (hj : TermQ (joinT a b k)) (i : Nat) (h : i < a.length) : partsT (joinT a b k) i = partsT a i := by
  unfold partsT
  rw [parts_as _ hj i (by rw [joinT_len]; omega), parts_as a ha i h, joinT_a a b k i h]
theorem parts_b (a b : List NdN) (k : Int) (hb : TermQ b) (hj : TermQ (joinT a b k)) (j : Nat) (h : j < b.length) : partsT (joinT a b k) (a.length + j) = (partsT b j).map (fun x => x + (a.length : Int)) := by
  have hm := fun x hx => part_lt b hb j h x hx
  unfold partsT at hm ⊢
  rw [parts_as _ hj (a.length + j) (by rw [joinT_len]; omega), joinT_b a b k j h]
  rw [parts_as b hb j h] at hm ⊢
  have e0 : (shN a.length b[j]).kind = b[j].kind := rfl
  rw [e0]
  by_cases c2 : pcT b[j].kind = 2
  · rw [if_pos c2] at hm ⊢
    rw [if_pos c2]
    have h1 := hm b[j].kids (by simp)
    have h2 := hm b[j].n (by simp)
    show [(if 0 ≤ b[j].kids then b[j].kids + (a.length : Int) else b[j].kids), (if 0 ≤ b[j].n then b[j].n + (a.length : Int) else b[j].n)] = _
    rw [if_pos h1.1, if_pos h2.1]
    rfl
  · rw [if_neg c2] at hm ⊢
    rw [if_neg c2]
    by_cases c1 : pcT b[j].kind = 1
    · rw [if_pos c1] at hm ⊢
      rw [if_pos c1]
      have h1 := hm b[j].kids (by simp)
      show [(if 0 ≤ b[j].kids then b[j].kids + (a.length : Int) else b[j].kids)] = _
      rw [if_pos h1.1]
      rfl
    · rw [if_neg c1, if_neg c1]
      rfl
theorem parts_r (a b : List NdN) (k : Int) (hk : k = 3 ∨ k = 4) (hj : TermQ (joinT a b k)) : partsT (joinT a b k) (a.length + b.length) = [(a.length : Int) - 1, (a.length : Int) + b.length - 1] := by
  unfold partsT
  rw [parts_as _ hj (a.length + b.length) (by rw [joinT_len]; omega), joinT_r]
  have hpk : pcT k = 2 := by unfold pcT; rw [if_pos hk]
  show (if pcT k = 2 then _ else _) = _
  rw [if_pos hpk]
theorem deep_join (a b : List NdN) (k : Int) (hk : k = 3 ∨ k = 4) (ha : TermQ a) (hb : TermQ b) (hj : TermQ (joinT a b k)) :
    (∀ n x, a.length ≤ n + x → x < a.length → deepT (joinT a b k) x = deepT a x + 1) ∧ (∀ n x, b.length ≤ n + x → x < b.length → deepT (joinT a b k) (a.length + x) = deepT b x + 1) := by
  have hlen := joinT_len a b k
  have hroot : deepT (joinT a b k) (a.length + b.length) = 1 := by
    have := deep_root _ hj
    rw [hlen] at this
    exact this
  have hpa := ha.pos
  have hpb := hb.pos
  constructor
  · intro n
    induction n with
    | zero => intro x h1 h2; omega
    | succ n ih =>
      intro x h1 h2
      by_cases hx : x = a.length - 1
      · subst hx
        have hu := up_of (joinT a b k) hj (a.length + b.length) (by omega) (a.length - 1) (by rw [parts_r a b k hk hj]; simp; omega)
        rw [deep_up _ hj _ _ hu, hroot, deep_root a ha]
      · cases hu : upF a x with
        | none => exact absurd ((up_none a ha x h2).1 hu) hx
        | some i =>
          obtain ⟨g1, g2⟩ := up_some a x i hu
          have g3 := (up_gt a ha x i hu).1
          have hu2 := up_of (joinT a b k) hj i (by omega) x (by rw [parts_a a b k ha hj i g1]; exact g2)
          rw [deep_up _ hj _ _ hu2, deep_up a ha _ _ hu, ih i (by omega) g1]
  · intro n
    induction n with
    | zero => intro x h1 h2; omega
    | succ n ih =>
      intro x h1 h2
      by_cases hx : x = b.length - 1
      · subst hx
        have hu := up_of (joinT a b k) hj (a.length + b.length) (by omega) (a.length + (b.length - 1)) (by rw [parts_r a b k hk hj]; simp; omega)
        rw [deep_up _ hj _ _ hu, hroot, deep_root b hb]
      · cases hu : upF b x with
        | none => exact absurd ((up_none b hb x h2).1 hu) hx
        | some i =>
          obtain ⟨g1, g2⟩ := up_some b x i hu
          have g3 := (up_gt b hb x i hu).1
          have hu2 := up_of (joinT a b k) hj (a.length + i) (by omega) (a.length + x) (by
            rw [parts_b a b k hb hj i g1]
            exact List.mem_map.2 ⟨(x : Int), g2, by omega⟩)
          rw [deep_up _ hj _ _ hu2, deep_up b hb _ _ hu, ih i (by omega) g1]
theorem deep_joinA (a b : List NdN) (k : Int) (hk : k = 3 ∨ k = 4) (ha : TermQ a) (hb : TermQ b) (hj : TermQ (joinT a b k)) (x : Nat) (h : x < a.length) : deepT (joinT a b k) x = deepT a x + 1 :=
  (deep_join a b k hk ha hb hj).1 a.length x (by omega) h
theorem deep_joinB (a b : List NdN) (k : Int) (hk : k = 3 ∨ k = 4) (ha : TermQ a) (hb : TermQ b) (hj : TermQ (joinT a b k)) (x : Nat) (h : x < b.length) : deepT (joinT a b k) (a.length + x) = deepT b x + 1 :=
  (deep_join a b k hk ha hb hj).2 b.length x (by omega) h
/-! ### Groups -/
/-- Is there a Group of a number from one place to another? -/
def hasG (l : List NdN) (lo q : Nat) (n : Nat) : Bool := (List.range (q + 1)).any fun i => decide (lo ≤ i) && (match l[i]? with | some x => decide (x.kind = 7 ∧ x.m = (n : Int)) | none => false)
/-- The numbers of the Groups from one place to another, ascending. -/
def grpL (l : List NdN) (lo q : Nat) : List Nat := ((List.range 9).map (· + 1)).filter (hasG l lo q)
/-- The groups in node q; the greatest one of all. -/
def groupsT (l : List NdN) (q : Int) : List Nat := if rightT l = true ∧ 0 ≤ q ∧ q < l.length then grpL l (lowT l q.toNat).toNat q.toNat else []
def topL (l : List NdN) : Nat := ((grpL l 0 (l.length - 1)).getLast?).getD 0
def topT (l : List NdN) : Nat := if rightT l = true then topL l else 0
theorem hasG_iff (l : List NdN) (lo q n : Nat) : hasG l lo q n = true ↔ ∃ i x, lo ≤ i ∧ i ≤ q ∧ l[i]? = some x ∧ x.kind = 7 ∧ x.m = (n : Int) := by
  unfold hasG
  rw [List.any_eq_true]
  constructor
  · rintro ⟨i, hi, h⟩
    simp only [Bool.and_eq_true, decide_eq_true_eq] at h
    obtain ⟨h1, h2⟩ := h
    cases hx : l[i]? with
    | none => rw [hx] at h2; cases h2
    | some x =>
      rw [hx] at h2
      have := of_decide_eq_true h2
      exact ⟨i, x, h1, by have := List.mem_range.1 hi; omega, hx, this.1, this.2⟩
  · rintro ⟨i, x, h1, h2, h3, h4, h5⟩
    refine ⟨i, List.mem_range.2 (by omega), ?_⟩
    rw [h3]
    simp [h1, h4, h5]
theorem grpL_mem (l : List NdN) (lo q n : Nat) : n ∈ grpL l lo q ↔ 1 ≤ n ∧ n ≤ 9 ∧ hasG l lo q n = true := by
  unfold grpL
  rw [List.mem_filter, List.mem_map]
  constructor
  · rintro ⟨⟨a, ha, rfl⟩, h⟩
    have := List.mem_range.1 ha
    exact ⟨by omega, by omega, h⟩
  · rintro ⟨h1, h2, h3⟩
    exact ⟨⟨n - 1, List.mem_range.2 (by omega), by omega⟩, h3⟩
theorem grpL_sorted (l : List NdN) (lo q : Nat) : (grpL l lo q).Pairwise (· < ·) := by
  unfold grpL
  refine List.Pairwise.filter _ ?_
  decide
theorem last_max : ∀ (L : List Nat), L.Pairwise (· < ·) → ∀ n ∈ L, n ≤ (L.getLast?).getD 0
  | [], _, n, h => by simp at h
  | [a], _, n, h => by simp at h ⊢; omega
  | a :: b :: L, hp, n, h => by
    have hp2 := (List.pairwise_cons.1 hp).2
    have ih := last_max (b :: L) hp2
    rw [List.getLast?_cons_cons]
    rcases List.mem_cons.1 h with rfl | h
    · have h1 := (List.pairwise_cons.1 hp).1 b (List.mem_cons_self ..)
      have h2 := ih b (List.mem_cons_self ..)
      omega
    · exact ih n h
/-- The greatest number is of a Group, or 0. -/
theorem topL_spec (l : List NdN) : (∀ n, 1 ≤ n → n ≤ 9 → hasG l 0 (l.length - 1) n = true → n ≤ topL l) ∧ (topL l = 0 ∨ (1 ≤ topL l ∧ topL l ≤ 9 ∧ hasG l 0 (l.length - 1) (topL l) = true)) := by
  refine ⟨fun n h1 h2 h3 => last_max _ (grpL_sorted l 0 (l.length - 1)) n ((grpL_mem l 0 (l.length - 1) n).2 ⟨h1, h2, h3⟩), ?_⟩
  cases h : (grpL l 0 (l.length - 1)).getLast? with
  | none => exact .inl (by unfold topL; rw [h]; rfl)
  | some n =>
    refine .inr ?_
    have hm := List.mem_of_getLast? h
    have e : topL l = n := by unfold topL; rw [h]; rfl
    rw [e]
    exact (grpL_mem l 0 (l.length - 1) n).1 hm
theorem hasG_all (l : List NdN) (n : Nat) : hasG l 0 (l.length - 1) n = true ↔ ∃ x ∈ l, x.kind = 7 ∧ x.m = (n : Int) := by
  rw [hasG_iff]
  constructor
  · rintro ⟨i, x, _, _, h3, h4⟩
    exact ⟨x, List.mem_of_getElem? h3, h4⟩
  · rintro ⟨x, hx, h4⟩
    obtain ⟨i, hi, rfl⟩ := List.getElem_of_mem hx
    exact ⟨i, l[i], Nat.zero_le _, by omega, List.getElem?_eq_getElem hi, h4⟩
theorem hasG_join (a b : List NdN) (k : Int) (hk : k = 3 ∨ k = 4) (n : Nat) : hasG (joinT a b k) 0 ((joinT a b k).length - 1) n = true ↔ hasG a 0 (a.length - 1) n = true ∨ hasG b 0 (b.length - 1) n = true := by
  rw [hasG_all, hasG_all, hasG_all]
  unfold joinT
  constructor
  · rintro ⟨x, hx, h7, hm⟩
    simp only [List.mem_append, List.mem_map, List.mem_singleton] at hx
    rcases hx with (hx | ⟨y, hy, rfl⟩) | rfl
    · exact .inl ⟨x, hx, h7, hm⟩
    · exact .inr ⟨y, hy, h7, hm⟩
    · simp only at h7; omega
  · rintro (⟨x, hx, h⟩ | ⟨x, hx, h⟩)
    · exact ⟨x, by simp [hx], h⟩
    · exact ⟨shN a.length x, by simp only [List.mem_append, List.mem_map]; exact .inl (.inr ⟨x, hx, rfl⟩), h⟩
/-- **The greatest group of two terms is the greater one of theirs.** -/
theorem top_join (a b : List NdN) (k : Int) (hk : k = 3 ∨ k = 4) : topL (joinT a b k) = if topL a < topL b then topL b else topL a := by
  obtain ⟨j1, j2⟩ := topL_spec (joinT a b k)
  obtain ⟨a1, a2⟩ := topL_spec a
  obtain ⟨b1, b2⟩ := topL_spec b
  have ha : topL a ≤ topL (joinT a b k) := by
    rcases a2 with h | ⟨h1, h2, h3⟩
    · omega
    · exact j1 _ h1 h2 ((hasG_join a b k hk _).2 (.inl h3))
  have hb : topL b ≤ topL (joinT a b k) := by
    rcases b2 with h | ⟨h1, h2, h3⟩
    · omega
    · exact j1 _ h1 h2 ((hasG_join a b k hk _).2 (.inr h3))
  have hj : topL (joinT a b k) ≤ topL a ∨ topL (joinT a b k) ≤ topL b := by
    rcases j2 with h | ⟨h1, h2, h3⟩
    · omega
    · rcases (hasG_join a b k hk _).1 h3 with h | h
      · exact .inl (a1 _ h1 h2 h)
      · exact .inr (b1 _ h1 h2 h)
  split <;> omega
end Go.Proofs.YtdpkhliojbeglaaDoor

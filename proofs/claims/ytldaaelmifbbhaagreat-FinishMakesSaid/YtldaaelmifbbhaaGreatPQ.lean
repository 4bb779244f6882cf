/- Texts put together: Hg Hh Hi Hj. -/
import Derived.Test.YtldaaelmifbbhaaGreatPF
import Derived.Test.YtldaaelmifbbhaaGreatPM
import Derived.Test.YtldaaelmifbbhaaGreatPD
import Derived.Test.YtldaaelmifbbhaaGreatPN
import Derived.Lib.Hide
import Derived.RegionTactic
import Derived.BigRegion
import Derived.BigQuiet
import Derived.Outline
import Derived.Deep.QuietTactic
import Derived.Deep.DeepCutAuto
import Derived.Deep.RegionLaw
/- The document's parse: what of it lies in memory. Stage 7. -/
namespace Go.Proofs.YtldaaelmifbbhaaGreat
open Go.RowKit BS

@[reducible] def stW (vN vP vR : Value) (g : Int) : Array Value := #[vN, vP, vR, .int .i64 g]
@[reducible] def stO : Array Value := #[.slice none 0 0, .slice none 0 0, .slice none 0 0, .int .i64 0]
theorem infoSt7 : (Tryz.prog.info? 48).map (·.size) = some 4 := by kernel_rfl
def inC (l : List Nat) : List Value := l.map fun n => .int .i64 (n : Nat)
theorem inC_app (l m : List Nat) : inC (l ++ m) = inC l ++ inC m := by simp [inC]
theorem inC_len (l : List Nat) : (inC l).length = l.length := by simp [inC]
theorem inC_last (l : List Nat) (n : Nat) : (inC (l ++ [n]))[l.length]? = some (.int .i64 n) := by
  rw [inC_app, List.getElem?_append_right (by rw [inC_len]; omega), inC_len, Nat.sub_self]; rfl
theorem inC_set (l : List Nat) (n n' : Nat) : (inC (l ++ [n])).set l.length (.int .i64 n') = inC (l ++ [n']) := by
  rw [inC_app, inC_app, List.set_append_right _ _ (by rw [inC_len]; omega), inC_len, Nat.sub_self]; rfl

/-- Blocks outside of A are kept. -/
structure KpA (A : Nat → Prop) (w w' : World) : Prop where
  os : w'.os = w.os
  tape : w'.tape = w.tape
  output : w'.output = w.output
  size : w.heap.size ≤ w'.heap.size
  block : ∀ k, k < w.heap.size → ¬ A k → w'.heap[k]? = w.heap[k]?
theorem KpA.refl (A : Nat → Prop) (w : World) : KpA A w w := ⟨rfl, rfl, rfl, Nat.le_refl _, fun _ _ _ => rfl⟩
theorem KpA.trans {A : Nat → Prop} {a b c : World} (h : KpA A a b) (k : KpA A b c) : KpA A a c :=
  ⟨k.os.trans h.os, k.tape.trans h.tape, k.output.trans h.output, Nat.le_trans h.size k.size, fun i hi hA => (k.block i (Nat.lt_of_lt_of_le hi h.size) hA).trans (h.block i hi hA)⟩
theorem KpA.below {A : Nat → Prop} {a b c : World} (h : KpA A a b) (k : Below b.heap.size b c) : KpA A a c :=
  h.trans ⟨k.os, k.tape, k.output, k.size, fun i hi _ => k.block i hi⟩
theorem KpA.alloc {A : Nat → Prop} {a b : World} (h : KpA A a b) (o : Obj) : KpA A a (b.alloc o) := h.below ((Below.refl _ _).alloc (Nat.le_refl _) o)
theorem KpA.drew {A : Nat → Prop} {a b : World} (h : KpA A a b) : KpA A a b.drew := ⟨h.os, h.tape, h.output, h.size, h.block⟩
theorem KpA.set {A : Nat → Prop} {a b : World} (h : KpA A a b) {g : Nat} (hg : A g ∨ a.heap.size ≤ g) (x : Nat) (v : Value) : KpA A a (b.setCell ⟨g, x, none⟩ v) :=
  ⟨h.os, h.tape, h.output, by simpa using h.size, fun i hi hA => (Below.heap_setCell b ⟨g, x, none⟩ v i (by show i ≠ g; rintro rfl; exact hg.elim hA (fun h1 => by omega))).trans (h.block i hi hA)⟩
theorem row_kept7 (W : World) (B : Nat) (cs : Array Value) (k : Nat) (h : k ≠ B) : (W.setRow B cs).heap[k]? = W.heap[k]? := by
  show (W.heap.modify B _)[k]? = _
  rw [Array.getElem?_modify, if_neg (Ne.symm h)]
theorem KpA.row {A : Nat → Prop} {a b : World} (h : KpA A a b) {g : Nat} (hg : A g ∨ a.heap.size ≤ g) (cs : Array Value) : KpA A a (b.setRow g cs) :=
  ⟨h.os, h.tape, h.output, by simpa [World.setRow] using h.size, fun i hi hA => (row_kept7 b g cs i (by rintro rfl; exact hg.elim hA (fun h1 => by omega))).trans (h.block i hi hA)⟩
theorem KpA.grown {A : Nat → Prop} {a b c : World} {row : Option Nat} (h : KpA A a b) (hg : b.grownBy c row) (hr : ∀ k, row = some k → A k ∨ a.heap.size ≤ k) : KpA A a c :=
  ⟨hg.os.trans h.os, hg.tape.trans h.tape, hg.output.trans h.output, Nat.le_trans h.size hg.size, fun i hi hA => (hg.block i (Nat.lt_of_lt_of_le hi h.size) (fun e => by exact (hr i e.symm).elim hA (fun h1 => by omega))).trans (h.block i hi hA)⟩
theorem KpA.mono {A A' : Nat → Prop} {a b : World} (h : KpA A' a b) (hA : ∀ k, A' k → A k) : KpA A a b := ⟨h.os, h.tape, h.output, h.size, fun i hi hn => h.block i hi fun h' => hn (hA i h')⟩
theorem Blk.kpA {A : Nat → Prop} {a b : World} {B : Nat} {vs : Array Value} {t : TypeId} (h : Blk a B vs t) (k : KpA A a b) (hB : ¬ A B) : Blk b B vs t := (k.block B h.lt hB).trans h

/-- What was read so far: nodes, pieces and rows, in rows of the call's own, which lie apart. -/
structure SV (base N : Nat) (A : Nat → Prop) (l : List NdN) (ps rs : List Nat) (vN vP vR : Value) (w : World) : Prop where
  nodes : w.ownsRow base 92 8 vN l.length (ndCells l)
  pieces : w.ownsRow base 3 1 vP ps.length (inC ps)
  rows : w.ownsRow base 3 1 vR rs.length (inC rs)
  aN : ∀ k, vN.ownBlock = some k → A k
  aP : ∀ k, vP.ownBlock = some k → A k
  aR : ∀ k, vR.ownBlock = some k → A k
  up : ∀ k, N ≤ k → A k
  sz : N ≤ w.heap.size
  bs : base ≤ N
  nP : vN.ownBlock = none ∨ vN.ownBlock ≠ vP.ownBlock
  nR : vN.ownBlock = none ∨ vN.ownBlock ≠ vR.ownBlock
  pR : vP.ownBlock = none ∨ vP.ownBlock ≠ vR.ownBlock
theorem own_lt {w : World} {base : Nat} {e : TypeId} {size : Nat} {v : Value} {n : Nat} {xs : List Value} (h : w.ownsRow base e size v n xs) {g : Nat} (hg : v.ownBlock = some g) : g < w.heap.size := (h.lt g hg).2
theorem own_below {W W' : World} {base : Nat} {e : TypeId} {size : Nat} {v : Value} {n : Nat} {xs : List Value} (h : W.ownsRow base e size v n xs) (hb : Below W.heap.size W W') : W'.ownsRow base e size v n xs :=
  owns_keep h fun _ hg => hb.block _ (own_lt h hg)
section
variable {base N : Nat} {A : Nat → Prop} {l : List NdN} {ps rs : List Nat} {vN vP vR : Value} {w : World}
theorem SV.below (h : SV base N A l ps rs vN vP vR w) {w' : World} (hb : Below w.heap.size w w') : SV base N A l ps rs vN vP vR w' :=
  ⟨own_below h.nodes hb, own_below h.pieces hb, own_below h.rows hb, h.aN, h.aP, h.aR, h.up, Nat.le_trans h.sz hb.size, h.bs, h.nP, h.nR, h.pR⟩
theorem SV.alloc (h : SV base N A l ps rs vN vP vR w) (o : Obj) : SV base N A l ps rs vN vP vR (w.alloc o) := h.below ((Below.refl _ _).alloc (Nat.le_refl _) o)
theorem SV.drew (h : SV base N A l ps rs vN vP vR w) : SV base N A l ps rs vN vP vR w.drew := ⟨h.nodes, h.pieces, h.rows, h.aN, h.aP, h.aR, h.up, h.sz, h.bs, h.nP, h.nR, h.pR⟩
/-- Other memory is written. -/
theorem SV.other (h : SV base N A l ps rs vN vP vR w) {w' : World} (hz : w.heap.size ≤ w'.heap.size) (hk : ∀ k, A k → k < w.heap.size → w'.heap[k]? = w.heap[k]?) : SV base N A l ps rs vN vP vR w' :=
  ⟨owns_keep h.nodes fun k e => hk k (h.aN k e) (own_lt h.nodes e), owns_keep h.pieces fun k e => hk k (h.aP k e) (own_lt h.pieces e), owns_keep h.rows fun k e => hk k (h.aR k e) (own_lt h.rows e), h.aN, h.aP, h.aR, h.up, Nat.le_trans h.sz hz, h.bs, h.nP, h.nR, h.pR⟩
theorem SV.set (h : SV base N A l ps rs vN vP vR w) {g : Nat} (hg : ¬ A g) (x : Nat) (v : Value) : SV base N A l ps rs vN vP vR (w.setCell ⟨g, x, none⟩ v) :=
  h.other (by simp) fun k hk _ => Below.heap_setCell _ _ _ _ (by show k ≠ g; rintro rfl; exact hg hk)
theorem SV.row (h : SV base N A l ps rs vN vP vR w) {g : Nat} (hg : ¬ A g) (cs : Array Value) : SV base N A l ps rs vN vP vR (w.setRow g cs) :=
  h.other (by simp [World.setRow]) fun k hk _ => row_kept7 _ _ _ _ (by rintro rfl; exact hg hk)
theorem SV.mono (h : SV base N A l ps rs vN vP vR w) {N' : Nat} {A' : Nat → Prop} (hN : base ≤ N') (hz : N' ≤ w.heap.size) (hA : ∀ k, A k → k < w.heap.size → A' k) (hup : ∀ k, N' ≤ k → A' k) : SV base N' A' l ps rs vN vP vR w :=
  ⟨h.nodes, h.pieces, h.rows, fun k e => hA k (h.aN k e) (own_lt h.nodes e), fun k e => hA k (h.aP k e) (own_lt h.pieces e), fun k e => hA k (h.aR k e) (own_lt h.rows e), hup, hz, hN, h.nP, h.nR, h.pR⟩
theorem SV.formN (h : SV base N A l ps rs vN vP vR w) : ∃ a c, vN = .slice a l.length c := owns_form h.nodes
theorem top_of {w : World} {base : Nat} {e : TypeId} {v : Value} {ps : List Nat} {n : Nat} (h : w.ownsRow base e 1 v (ps ++ [n]).length (inC (ps ++ [n]))) : ∃ g cap, v = .slice (some ⟨g, 0, none⟩) (ps.length + 1 : Nat) cap ∧ g < w.heap.size ∧ ps.length + 1 ≤ cap ∧ w.cell? ⟨g, ps.length, none⟩ = some (.int .i64 n) ∧ w.frozen? ⟨g, ps.length, none⟩ = false := by
  rw [List.length_append, List.length_singleton] at h
  obtain ⟨g, cap, rfl, hb, hlt⟩ := h.form (by omega)
  have hcap : ps.length + 1 ≤ cap := by
    rcases h.2 with ⟨hv, _⟩ | ⟨g', cap', cur, hv, _, _, hc, _⟩
    · cases hv
    · cases hv; exact hc
  exact ⟨g, cap, rfl, hlt, hcap, by rw [h.cellAt _ (by omega)]; exact inC_last ps n, h.frozenAt _⟩
theorem SV.topP {n : Nat} (h : SV base N A l (ps ++ [n]) rs vN vP vR w) : ∃ g cap, vP = .slice (some ⟨g, 0, none⟩) (ps.length + 1 : Nat) cap ∧ g < w.heap.size ∧ ps.length + 1 ≤ cap ∧ w.cell? ⟨g, ps.length, none⟩ = some (.int .i64 n) ∧ w.frozen? ⟨g, ps.length, none⟩ = false := top_of h.pieces
theorem SV.topR {n : Nat} (h : SV base N A l ps (rs ++ [n]) vN vP vR w) : ∃ g cap, vR = .slice (some ⟨g, 0, none⟩) (rs.length + 1 : Nat) cap ∧ g < w.heap.size ∧ rs.length + 1 ≤ cap ∧ w.cell? ⟨g, rs.length, none⟩ = some (.int .i64 n) ∧ w.frozen? ⟨g, rs.length, none⟩ = false := top_of h.rows
theorem stored_of {w : World} {base : Nat} {e : TypeId} {g cap : Nat} {ps : List Nat} {n : Nat} (h : w.ownsRow base e 1 (.slice (some ⟨g, 0, none⟩) (ps.length + 1 : Nat) cap) (ps ++ [n]).length (inC (ps ++ [n]))) (n' : Nat) : (w.setCell ⟨g, ps.length, none⟩ (.int .i64 n')).ownsRow base e 1 (.slice (some ⟨g, 0, none⟩) (ps.length + 1 : Nat) cap) (ps ++ [n']).length (inC (ps ++ [n'])) := by
  rw [List.length_append, List.length_singleton] at h ⊢
  have := (h.stored ps.length (.int .i64 n')).1
  rw [inC_set] at this
  exact this
/-- The last row's pieces, written anew. -/
theorem SV.setP {n g cap : Nat} (h : SV base N A l (ps ++ [n]) rs vN (.slice (some ⟨g, 0, none⟩) (ps.length + 1 : Nat) cap) vR w) (n' : Nat) : SV base N A l (ps ++ [n']) rs vN (.slice (some ⟨g, 0, none⟩) (ps.length + 1 : Nat) cap) vR (w.setCell ⟨g, ps.length, none⟩ (.int .i64 n')) := by
  refine ⟨owns_keep h.nodes fun k e => Below.heap_setCell _ _ _ _ ?_, stored_of h.pieces n', owns_keep h.rows fun k e => Below.heap_setCell _ _ _ _ ?_, h.aN, h.aP, h.aR, h.up, by simpa using h.sz, h.bs, h.nP, h.nR, h.pR⟩
  · show k ≠ g
    rintro rfl
    rcases h.nP with h1 | h1
    · rw [h1] at e; cases e
    · exact h1 e
  · show k ≠ g
    rintro rfl
    rcases h.pR with h1 | h1
    · cases h1
    · exact h1 e.symm
theorem SV.setR {n g cap : Nat} (h : SV base N A l ps (rs ++ [n]) vN vP (.slice (some ⟨g, 0, none⟩) (rs.length + 1 : Nat) cap) w) (n' : Nat) : SV base N A l ps (rs ++ [n']) vN vP (.slice (some ⟨g, 0, none⟩) (rs.length + 1 : Nat) cap) (w.setCell ⟨g, rs.length, none⟩ (.int .i64 n')) := by
  refine ⟨owns_keep h.nodes fun k e => Below.heap_setCell _ _ _ _ ?_, owns_keep h.pieces fun k e => Below.heap_setCell _ _ _ _ ?_, stored_of h.rows n', h.aN, h.aP, h.aR, h.up, by simpa using h.sz, h.bs, h.nP, h.nR, h.pR⟩
  · show k ≠ g
    rintro rfl
    rcases h.nR with h1 | h1
    · rw [h1] at e; cases e
    · exact h1 e
  · show k ≠ g
    rintro rfl
    rcases h.pR with h1 | h1
    · rw [h1] at e; cases e
    · exact h1 e
theorem apart_new {u v : Value} {w : World} {base : Nat} {e : TypeId} {size n : Nat} {xs : List Value} (hv : w.ownsRow base e size v n xs) {g : Nat} (hat : u.ownBlock = some g ∨ w.heap.size ≤ g) (h : u.ownBlock = none ∨ u.ownBlock ≠ v.ownBlock) : v.ownBlock ≠ some g := fun e => by
  rcases hat with h1 | h1
  · rcases h with h2 | h2
    · rw [h2] at h1; cases h1
    · exact h2 (h1.trans e.symm)
  · have := own_lt hv e; omega
theorem SV.pushN (h : SV base N A l ps rs vN vP vR w) {w1 : World} {nd : NdN} {g cap : Nat} (hown : w1.ownsRow base 92 8 (.slice (some ⟨g, 0, none⟩) (l.length + 1 : Nat) cap) (l.length + 1) (ndCells l ++ (ndA nd).toList)) (hg : w.grownBy w1 vN.ownBlock) (hat : vN.ownBlock = some g ∨ w.heap.size ≤ g) :
    SV base N A (l ++ [nd]) ps rs (.slice (some ⟨g, 0, none⟩) (l.length + 1 : Nat) cap) vP vR w1 := by
  have hP := apart_new h.pieces hat h.nP
  have hR := apart_new h.rows hat h.nR
  refine ⟨?_, h.pieces.kept hg ?_, h.rows.kept hg ?_, fun k e => ?_, h.aP, h.aR, h.up, Nat.le_trans h.sz hg.size, h.bs, .inr fun e => hP e.symm, .inr fun e => hR e.symm, h.pR⟩
  · rw [List.length_append, ndCells_app, show ndCells [nd] = (ndA nd).toList by simp [ndCells]]; exact hown
  · rcases h.nP with h1 | h1
    · rw [h1]; cases hv : vP.ownBlock with
      | none => exact .inl rfl
      | some k => exact .inr (by simp)
    · exact .inr (Ne.symm h1)
  · rcases h.nR with h1 | h1
    · rw [h1]; cases hv : vR.ownBlock with
      | none => exact .inl rfl
      | some k => exact .inr (by simp)
    · exact .inr (Ne.symm h1)
  · cases e
    rcases hat with h1 | h1
    · exact h.aN _ h1
    · exact h.up _ (Nat.le_trans h.sz h1)
theorem SV.pushP (h : SV base N A l ps rs vN vP vR w) {w1 : World} {n g cap : Nat} (hown : w1.ownsRow base 3 1 (.slice (some ⟨g, 0, none⟩) (ps.length + 1 : Nat) cap) (ps.length + 1) (inC ps ++ [.int .i64 n])) (hg : w.grownBy w1 vP.ownBlock) (hat : vP.ownBlock = some g ∨ w.heap.size ≤ g) :
    SV base N A l (ps ++ [n]) rs vN (.slice (some ⟨g, 0, none⟩) (ps.length + 1 : Nat) cap) vR w1 := by
  have hNg : vN.ownBlock ≠ some g := fun e => by
    rcases hat with h1 | h1
    · rcases h.nP with h2 | h2
      · rw [h2] at e; cases e
      · exact h2 (e.trans h1.symm)
    · have := own_lt h.nodes e; omega
  have hR := apart_new h.rows hat h.pR
  refine ⟨h.nodes.kept hg ?_, ?_, h.rows.kept hg ?_, h.aN, fun k e => ?_, h.aR, h.up, Nat.le_trans h.sz hg.size, h.bs, .inr hNg, h.nR, .inr fun e => hR e.symm⟩
  · rcases h.nP with h1 | h1
    · exact .inl h1
    · exact .inr h1
  · rw [List.length_append, inC_app]; exact hown
  · rcases h.pR with h1 | h1
    · rw [h1]; cases hv : vR.ownBlock with
      | none => exact .inl rfl
      | some k => exact .inr (by simp)
    · exact .inr (Ne.symm h1)
  · cases e
    rcases hat with h1 | h1
    · exact h.aP _ h1
    · exact h.up _ (Nat.le_trans h.sz h1)
theorem SV.pushR (h : SV base N A l ps rs vN vP vR w) {w1 : World} {n g cap : Nat} (hown : w1.ownsRow base 3 1 (.slice (some ⟨g, 0, none⟩) (rs.length + 1 : Nat) cap) (rs.length + 1) (inC rs ++ [.int .i64 n])) (hg : w.grownBy w1 vR.ownBlock) (hat : vR.ownBlock = some g ∨ w.heap.size ≤ g) :
    SV base N A l ps (rs ++ [n]) vN vP (.slice (some ⟨g, 0, none⟩) (rs.length + 1 : Nat) cap) w1 := by
  have hNg : vN.ownBlock ≠ some g := fun e => by
    rcases hat with h1 | h1
    · rcases h.nR with h2 | h2
      · rw [h2] at e; cases e
      · exact h2 (e.trans h1.symm)
    · have := own_lt h.nodes e; omega
  have hPg : vP.ownBlock ≠ some g := fun e => by
    rcases hat with h1 | h1
    · rcases h.pR with h2 | h2
      · rw [h2] at e; cases e
      · exact h2 (e.trans h1.symm)
    · have := own_lt h.pieces e; omega
  refine ⟨h.nodes.kept hg ?_, h.pieces.kept hg ?_, ?_, h.aN, h.aP, fun k e => ?_, h.up, Nat.le_trans h.sz hg.size, h.bs, h.nP, .inr hNg, .inr hPg⟩
  · rcases h.nR with h1 | h1
    · exact .inl h1
    · exact .inr h1
  · rcases h.pR with h1 | h1
    · exact .inl h1
    · exact .inr h1
  · rw [List.length_append, inC_app]; exact hown
  · cases e
    rcases hat with h1 | h1
    · exact h.aR _ h1
    · exact h.up _ (Nat.le_trans h.sz h1)
theorem cut_of {w : World} {base : Nat} {e : TypeId} {g cap : Nat} {ps : List Nat} {n : Nat} (h : w.ownsRow base e 1 (.slice (some ⟨g, 0, none⟩) (ps.length + 1 : Nat) cap) (ps ++ [n]).length (inC (ps ++ [n]))) : w.ownsRow base e 1 (.slice (some ⟨g, 0, none⟩) (ps.length : Nat) cap) ps.length (inC ps) := by
  rw [List.length_append, List.length_singleton, inC_app] at h
  obtain ⟨g', cap', e', h1, _, _, _, h6⟩ := owns_last h
  cases e'
  exact h6
theorem SV.popP {n g cap : Nat} (h : SV base N A l (ps ++ [n]) rs vN (.slice (some ⟨g, 0, none⟩) (ps.length + 1 : Nat) cap) vR w) : SV base N A l ps rs vN (.slice (some ⟨g, 0, none⟩) (ps.length : Nat) cap) vR w :=
  ⟨h.nodes, cut_of h.pieces, h.rows, h.aN, h.aP, h.aR, h.up, h.sz, h.bs, h.nP, h.nR, h.pR⟩
theorem SV.popR {n g cap : Nat} (h : SV base N A l ps (rs ++ [n]) vN vP (.slice (some ⟨g, 0, none⟩) (rs.length + 1 : Nat) cap) w) : SV base N A l ps rs vN vP (.slice (some ⟨g, 0, none⟩) (rs.length : Nat) cap) w :=
  ⟨h.nodes, h.pieces, cut_of h.rows, h.aN, h.aP, h.aR, h.up, h.sz, h.bs, h.nP, h.nR, h.pR⟩
end
end Go.Proofs.YtldaaelmifbbhaaGreat

/- The document's parse: row, rows. Stage 7. -/
namespace Go.Proofs.YtldaaelmifbbhaaGreat
open Go.RowKit BS

theorem nd_zero7 (k c n m : Int) : ndA ⟨k, c, n, m, 0⟩ = #[.int .i64 k, .int .i64 c, .int .i64 n, .int .i64 m, .int .u64 0, .int .u64 0, .int .u64 0, .int .u64 0] := by
  have z0 : wd (0 : BitVec 256) 0 = 0 := by decide
  have z1 : wd (0 : BitVec 256) 1 = 0 := by decide
  have z2 : wd (0 : BitVec 256) 2 = 0 := by decide
  have z3 : wd (0 : BitVec 256) 3 = 0 := by decide
  show ndI k c n m 0 = _
  unfold ndI
  rw [z0, z1, z2, z3]
  rfl
/-- What the call's own two blocks hold: the state in a box, the result's place; what was read lies apart from both. -/
structure BxV (base N B B2 : Nat) (A : Nat → Prop) (l : List NdN) (ps rs : List Nat) (g : Int) (vN vP vR : Value) (w0 w : World) : Prop where
  sv : SV base N A l ps rs vN vP vR w
  blk : Blk w B (stW vN vP vR g) 48
  res : Blk w B2 stO 48
  nB : ¬ A B
  nB2 : ¬ A B2
  kp : KpA (fun k => A k ∨ k = B) w0 w
  nE : B ≠ B2
section
variable {base N B B2 : Nat} {A : Nat → Prop} {l : List NdN} {ps rs : List Nat} {g : Int} {vN vP vR : Value} {w0 w : World}
theorem BxV.below (h : BxV base N B B2 A l ps rs g vN vP vR w0 w) {w' : World} (hb : Below w.heap.size w w') : BxV base N B B2 A l ps rs g vN vP vR w0 w' :=
  ⟨h.sv.below hb, h.blk.below hb h.blk.lt, h.res.below hb h.res.lt, h.nB, h.nB2, h.kp.below hb, h.nE⟩
theorem BxV.alloc (h : BxV base N B B2 A l ps rs g vN vP vR w0 w) (o : Obj) : BxV base N B B2 A l ps rs g vN vP vR w0 (w.alloc o) := h.below ((Below.refl _ _).alloc (Nat.le_refl _) o)
theorem BxV.drew (h : BxV base N B B2 A l ps rs g vN vP vR w0 w) : BxV base N B B2 A l ps rs g vN vP vR w0 w.drew := ⟨h.sv.drew, h.blk, h.res, h.nB, h.nB2, h.kp.drew, h.nE⟩
theorem BxV.c (h : BxV base N B B2 A l ps rs g vN vP vR w0 w) : w.cell? ⟨B, 0, none⟩ = some vN ∧ w.cell? ⟨B, 1, none⟩ = some vP ∧ w.cell? ⟨B, 2, none⟩ = some vR ∧ w.cell? ⟨B, 3, none⟩ = some (.int .i64 g) := ⟨h.blk.cell 0, h.blk.cell 1, h.blk.cell 2, h.blk.cell 3⟩
theorem BxV.f (h : BxV base N B B2 A l ps rs g vN vP vR w0 w) : w.frozen? ⟨B, 0, none⟩ = false ∧ w.frozen? ⟨B, 1, none⟩ = false ∧ w.frozen? ⟨B, 2, none⟩ = false ∧ w.frozen? ⟨B, 3, none⟩ = false := ⟨h.blk.frozen 0, h.blk.frozen 1, h.blk.frozen 2, h.blk.frozen 3⟩
theorem Blk.ne_set {W : World} {B' : Nat} {vs : Array Value} {t : TypeId} (h : Blk W B' vs t) {g' : Nat} (hA : A g') (hn : ¬ A B') (x : Nat) (v : Value) : Blk (W.setCell ⟨g', x, none⟩ v) B' vs t := h.other (by rintro rfl; exact hn hA) x v
/-- Nodes more. -/
theorem BxV.pushN (h : BxV base N B B2 A l ps rs g vN vP vR w0 w) {w1 : World} {nd : NdN} {g' cap : Nat} (hown : w1.ownsRow base 92 8 (.slice (some ⟨g', 0, none⟩) (l.length + 1 : Nat) cap) (l.length + 1) (ndCells l ++ (ndA nd).toList)) (hg : w.grownBy w1 vN.ownBlock) (hat : vN.ownBlock = some g' ∨ w.heap.size ≤ g') :
    BxV base N B B2 A (l ++ [nd]) ps rs g (.slice (some ⟨g', 0, none⟩) (l.length + 1 : Nat) cap) vP vR w0 (w1.setCell ⟨B, 0, none⟩ (.slice (some ⟨g', 0, none⟩) (l.length + 1 : Nat) cap)) := by
  have hb := h.blk.kept hg (fun e => h.nB (h.sv.aN _ e.symm))
  have hr := h.res.kept hg (fun e => h.nB2 (h.sv.aN _ e.symm))
  refine ⟨(h.sv.pushN hown hg hat).set h.nB _ _, ?_, hr.other (Ne.symm h.nE) _ _, h.nB, h.nB2, (h.kp.grown hg fun k e => .inl (.inl (h.sv.aN k e))).set (.inl (.inr rfl)) _ _, h.nE⟩
  have := hb.set 0 (.slice (some ⟨g', 0, none⟩) (l.length + 1 : Nat) cap)
  simpa using this
theorem BxV.setP {n g' cap : Nat} (h : BxV base N B B2 A l (ps ++ [n]) rs g vN (.slice (some ⟨g', 0, none⟩) (ps.length + 1 : Nat) cap) vR w0 w) (n' : Nat) : BxV base N B B2 A l (ps ++ [n']) rs g vN (.slice (some ⟨g', 0, none⟩) (ps.length + 1 : Nat) cap) vR w0 (w.setCell ⟨g', ps.length, none⟩ (.int .i64 n')) :=
  ⟨h.sv.setP n', h.blk.ne_set (h.sv.aP g' rfl) h.nB _ _, h.res.ne_set (h.sv.aP g' rfl) h.nB2 _ _, h.nB, h.nB2, h.kp.set (.inl (.inl (h.sv.aP g' rfl))) _ _, h.nE⟩
theorem BxV.setR {n g' cap : Nat} (h : BxV base N B B2 A l ps (rs ++ [n]) g vN vP (.slice (some ⟨g', 0, none⟩) (rs.length + 1 : Nat) cap) w0 w) (n' : Nat) : BxV base N B B2 A l ps (rs ++ [n']) g vN vP (.slice (some ⟨g', 0, none⟩) (rs.length + 1 : Nat) cap) w0 (w.setCell ⟨g', rs.length, none⟩ (.int .i64 n')) :=
  ⟨h.sv.setR n', h.blk.ne_set (h.sv.aR g' rfl) h.nB _ _, h.res.ne_set (h.sv.aR g' rfl) h.nB2 _ _, h.nB, h.nB2, h.kp.set (.inl (.inl (h.sv.aR g' rfl))) _ _, h.nE⟩
theorem BxV.pushP (h : BxV base N B B2 A l ps rs g vN vP vR w0 w) {w1 : World} {n g' cap : Nat} (hown : w1.ownsRow base 3 1 (.slice (some ⟨g', 0, none⟩) (ps.length + 1 : Nat) cap) (ps.length + 1) (inC ps ++ [.int .i64 n])) (hg : w.grownBy w1 vP.ownBlock) (hat : vP.ownBlock = some g' ∨ w.heap.size ≤ g') :
    BxV base N B B2 A l (ps ++ [n]) rs g vN (.slice (some ⟨g', 0, none⟩) (ps.length + 1 : Nat) cap) vR w0 (w1.setCell ⟨B, 1, none⟩ (.slice (some ⟨g', 0, none⟩) (ps.length + 1 : Nat) cap)) := by
  have hb := h.blk.kept hg (fun e => h.nB (h.sv.aP _ e.symm))
  have hr := h.res.kept hg (fun e => h.nB2 (h.sv.aP _ e.symm))
  refine ⟨(h.sv.pushP hown hg hat).set h.nB _ _, ?_, hr.other (Ne.symm h.nE) _ _, h.nB, h.nB2, (h.kp.grown hg fun k e => .inl (.inl (h.sv.aP k e))).set (.inl (.inr rfl)) _ _, h.nE⟩
  have := hb.set 1 (.slice (some ⟨g', 0, none⟩) (ps.length + 1 : Nat) cap)
  simpa using this
theorem BxV.pushR (h : BxV base N B B2 A l ps rs g vN vP vR w0 w) {w1 : World} {n g' cap : Nat} (hown : w1.ownsRow base 3 1 (.slice (some ⟨g', 0, none⟩) (rs.length + 1 : Nat) cap) (rs.length + 1) (inC rs ++ [.int .i64 n])) (hg : w.grownBy w1 vR.ownBlock) (hat : vR.ownBlock = some g' ∨ w.heap.size ≤ g') :
    BxV base N B B2 A l ps (rs ++ [n]) g vN vP (.slice (some ⟨g', 0, none⟩) (rs.length + 1 : Nat) cap) w0 (w1.setCell ⟨B, 2, none⟩ (.slice (some ⟨g', 0, none⟩) (rs.length + 1 : Nat) cap)) := by
  have hb := h.blk.kept hg (fun e => h.nB (h.sv.aR _ e.symm))
  have hr := h.res.kept hg (fun e => h.nB2 (h.sv.aR _ e.symm))
  refine ⟨(h.sv.pushR hown hg hat).set h.nB _ _, ?_, hr.other (Ne.symm h.nE) _ _, h.nB, h.nB2, (h.kp.grown hg fun k e => .inl (.inl (h.sv.aR k e))).set (.inl (.inr rfl)) _ _, h.nE⟩
  have := hb.set 2 (.slice (some ⟨g', 0, none⟩) (rs.length + 1 : Nat) cap)
  simpa using this
theorem BxV.popP {n g' cap : Nat} (h : BxV base N B B2 A l (ps ++ [n]) rs g vN (.slice (some ⟨g', 0, none⟩) (ps.length + 1 : Nat) cap) vR w0 w) : BxV base N B B2 A l ps rs g vN (.slice (some ⟨g', 0, none⟩) (ps.length : Nat) cap) vR w0 (w.setCell ⟨B, 1, none⟩ (.slice (some ⟨g', 0, none⟩) (ps.length : Nat) cap)) :=
  ⟨h.sv.popP.set h.nB _ _, by have := h.blk.set 1 (.slice (some ⟨g', 0, none⟩) (ps.length : Nat) cap); simpa using this, h.res.other (Ne.symm h.nE) _ _, h.nB, h.nB2, h.kp.set (.inl (.inr rfl)) _ _, h.nE⟩
theorem BxV.popR {n g' cap : Nat} (h : BxV base N B B2 A l ps (rs ++ [n]) g vN vP (.slice (some ⟨g', 0, none⟩) (rs.length + 1 : Nat) cap) w0 w) : BxV base N B B2 A l ps rs g vN vP (.slice (some ⟨g', 0, none⟩) (rs.length : Nat) cap) w0 (w.setCell ⟨B, 2, none⟩ (.slice (some ⟨g', 0, none⟩) (rs.length : Nat) cap)) :=
  ⟨h.sv.popR.set h.nB _ _, by have := h.blk.set 2 (.slice (some ⟨g', 0, none⟩) (rs.length : Nat) cap); simpa using this, h.res.other (Ne.symm h.nE) _ _, h.nB, h.nB2, h.kp.set (.inl (.inr rfl)) _ _, h.nE⟩
theorem BxV.setG (h : BxV base N B B2 A l ps rs g vN vP vR w0 w) (g2 : Int) : BxV base N B B2 A l ps rs g2 vN vP vR w0 (w.setCell ⟨B, 3, none⟩ (.int .i64 g2)) :=
  ⟨h.sv.set h.nB _ _, by have := h.blk.set 3 (.int .i64 g2); simpa using this, h.res.other (Ne.symm h.nE) _ _, h.nB, h.nB2, h.kp.set (.inl (.inr rfl)) _ _, h.nE⟩
end
section
variable {base N B B2 K : Nat} {A : Nat → Prop} {l : List NdN} {ps rs : List Nat} {g : Int} {vN vP vR : Value} {w0 w : World}
theorem SV.topPK {n : Nat} (hK : ps.length = K) (h : SV base N A l (ps ++ [n]) rs vN vP vR w) : ∃ g cap, vP = .slice (some ⟨g, 0, none⟩) (K + 1 : Nat) cap ∧ g < w.heap.size ∧ K + 1 ≤ cap ∧ w.cell? ⟨g, K, none⟩ = some (.int .i64 n) ∧ w.frozen? ⟨g, K, none⟩ = false := by subst hK; exact h.topP
theorem SV.topRK {n : Nat} (hK : rs.length = K) (h : SV base N A l ps (rs ++ [n]) vN vP vR w) : ∃ g cap, vR = .slice (some ⟨g, 0, none⟩) (K + 1 : Nat) cap ∧ g < w.heap.size ∧ K + 1 ≤ cap ∧ w.cell? ⟨g, K, none⟩ = some (.int .i64 n) ∧ w.frozen? ⟨g, K, none⟩ = false := by subst hK; exact h.topR
theorem BxV.setPK {n g' cap : Nat} (hK : ps.length = K) (h : BxV base N B B2 A l (ps ++ [n]) rs g vN (.slice (some ⟨g', 0, none⟩) (K + 1 : Nat) cap) vR w0 w) (n' : Nat) {v : Int} (hv : v = n') : BxV base N B B2 A l (ps ++ [n']) rs g vN (.slice (some ⟨g', 0, none⟩) (K + 1 : Nat) cap) vR w0 (w.setCell ⟨g', K, none⟩ (.int .i64 v)) := by subst hK; subst hv; exact h.setP n'
theorem BxV.setRK {n g' cap : Nat} (hK : rs.length = K) (h : BxV base N B B2 A l ps (rs ++ [n]) g vN vP (.slice (some ⟨g', 0, none⟩) (K + 1 : Nat) cap) w0 w) (n' : Nat) {v : Int} (hv : v = n') : BxV base N B B2 A l ps (rs ++ [n']) g vN vP (.slice (some ⟨g', 0, none⟩) (K + 1 : Nat) cap) w0 (w.setCell ⟨g', K, none⟩ (.int .i64 v)) := by subst hK; subst hv; exact h.setR n'
theorem BxV.pushPK (hK : ps.length = K) (h : BxV base N B B2 A l ps rs g vN vP vR w0 w) {w1 : World} {n g' cap : Nat} (hown : w1.ownsRow base 3 1 (.slice (some ⟨g', 0, none⟩) (K + 1 : Nat) cap) (K + 1) (inC ps ++ [.int .i64 n])) (hg : w.grownBy w1 vP.ownBlock) (hat : vP.ownBlock = some g' ∨ w.heap.size ≤ g') :
    BxV base N B B2 A l (ps ++ [n]) rs g vN (.slice (some ⟨g', 0, none⟩) (K + 1 : Nat) cap) vR w0 (w1.setCell ⟨B, 1, none⟩ (.slice (some ⟨g', 0, none⟩) (K + 1 : Nat) cap)) := by subst hK; exact h.pushP hown hg hat
theorem BxV.pushRK (hK : rs.length = K) (h : BxV base N B B2 A l ps rs g vN vP vR w0 w) {w1 : World} {n g' cap : Nat} (hown : w1.ownsRow base 3 1 (.slice (some ⟨g', 0, none⟩) (K + 1 : Nat) cap) (K + 1) (inC rs ++ [.int .i64 n])) (hg : w.grownBy w1 vR.ownBlock) (hat : vR.ownBlock = some g' ∨ w.heap.size ≤ g') :
    BxV base N B B2 A l ps (rs ++ [n]) g vN vP (.slice (some ⟨g', 0, none⟩) (K + 1 : Nat) cap) w0 (w1.setCell ⟨B, 2, none⟩ (.slice (some ⟨g', 0, none⟩) (K + 1 : Nat) cap)) := by subst hK; exact h.pushR hown hg hat
theorem BxV.popPK {n g' cap : Nat} (hK : ps.length = K) (h : BxV base N B B2 A l (ps ++ [n]) rs g vN (.slice (some ⟨g', 0, none⟩) (K + 1 : Nat) cap) vR w0 w) : BxV base N B B2 A l ps rs g vN (.slice (some ⟨g', 0, none⟩) (K : Nat) cap) vR w0 (w.setCell ⟨B, 1, none⟩ (.slice (some ⟨g', 0, none⟩) (K : Nat) cap)) := by subst hK; exact h.popP
theorem BxV.popRK {n g' cap : Nat} (hK : rs.length = K) (h : BxV base N B B2 A l ps (rs ++ [n]) g vN vP (.slice (some ⟨g', 0, none⟩) (K + 1 : Nat) cap) w0 w) : BxV base N B B2 A l ps rs g vN vP (.slice (some ⟨g', 0, none⟩) (K : Nat) cap) w0 (w.setCell ⟨B, 2, none⟩ (.slice (some ⟨g', 0, none⟩) (K : Nat) cap)) := by subst hK; exact h.popR
end
/-- The two blocks, made. -/
theorem bx_new {base N : Nat} {A : Nat → Prop} {l : List NdN} {ps rs : List Nat} {vN vP vR : Value} {w : World} (g : Int) (h : SV base N A l ps rs vN vP vR w) :
    BxV base (w.heap.size + 2) w.heap.size (w.heap.size + 1) (fun k => A k ∧ k ≠ w.heap.size ∧ k ≠ w.heap.size + 1) l ps rs g vN vP vR w ((w.alloc (.cells (stW vN vP vR g) 48)).alloc (.cells stO 48)) := by
  have h2 := (h.alloc (.cells (stW vN vP vR g) 48)).alloc (.cells stO 48)
  have hr := Blk.new (w.alloc (.cells (stW vN vP vR g) 48)) stO 48
  rw [World.size_alloc] at hr
  have hk : ∀ {v : Value} {e : TypeId} {size n : Nat} {xs : List Value}, w.ownsRow base e size v n xs → ∀ k, v.ownBlock = some k → k ≠ w.heap.size ∧ k ≠ w.heap.size + 1 := fun ho k e => by have := own_lt ho e; omega
  refine ⟨⟨h2.nodes, h2.pieces, h2.rows, fun k e => ⟨h.aN k e, hk h.nodes k e⟩, fun k e => ⟨h.aP k e, hk h.pieces k e⟩, fun k e => ⟨h.aR k e, hk h.rows k e⟩, fun k hk => ⟨h.up k (Nat.le_trans h.sz (by omega)), by omega, by omega⟩, by simp, Nat.le_trans h.bs (Nat.le_trans h.sz (by omega)), h.nP, h.nR, h.pR⟩,
    (Blk.new w _ _).alloc _, hr, fun h => h.2.1 rfl, fun h => h.2.2 rfl, ((KpA.refl _ _).alloc _).alloc _, by omega⟩
/-- What is told at the end: what was read, elsewhere than the result's place. -/
theorem bx_end {base N : Nat} {A : Nat → Prop} {l : List NdN} {ps rs : List Nat} {vN vP vR : Value} {w W : World} {g : Int} (hN : N ≤ w.heap.size) (hup : ∀ k, N ≤ k → A k) (hbs : base ≤ N) (h : BxV base (w.heap.size + 2) w.heap.size (w.heap.size + 1) (fun k => A k ∧ k ≠ w.heap.size ∧ k ≠ w.heap.size + 1) l ps rs g vN vP vR w W) (cs : Array Value) :
    SV base N A l ps rs vN vP vR (W.setRow (w.heap.size + 1) cs) ∧ KpA A w (W.setRow (w.heap.size + 1) cs) := by
  refine ⟨(h.sv.row h.nB2 cs).mono hbs (Nat.le_trans hN (by have := h.kp.size; simpa [World.setRow] using this)) (fun k hk _ => hk.1) hup, (h.kp.row (.inr (by omega)) cs).mono fun k hk => ?_⟩
  rcases hk with hk | hk
  · exact hk.1
  · exact hup k (by omega)
theorem st_one7 (aN aP aR : Option Addr) (n p r cN cP cR : Nat) (g : Int) : ((stW (.slice aN n cN) (.slice aP p cP) (.slice aR r cR) g).all fun x => x.oneCell') = true := by simp [Value.oneCell']
set_option maxRecDepth 100000 in
set_option maxHeartbeats 8000000 in
theorem rrow_calls {base N K : Nat} {A : Nat → Prop} {l : List NdN} {ps rs : List Nat} {n r gr : Nat} {vN vP vR : Value} (w : World) (h : SV base N A l (ps ++ [n]) (rs ++ [r]) vN vP vR w) (hp : ps.length = K) (hq : rs.length = K) (hl : l.length ≤ 4000000) (hn : n ≤ 2000000) (hr' : r ≤ 2000000) (hp' : K ≤ 2000000) :
    Calls Tryz.prog 57 #[.agg (stW vN vP vR gr)] w fun e w' => ∃ vN', e = .returned (.agg (stW vN' vP vR gr)) ∧ SV base N A (l ++ rowT n) (ps ++ [0]) (rs ++ [r + 1]) vN' vP vR w' ∧ KpA A w w' := by
  obtain ⟨i0, hi0, hz0, hz1, hz2⟩ := info_parts info8n
  obtain ⟨aN, cN, rfl⟩ := h.formN
  obtain ⟨gP, cP, rfl, _⟩ := h.topPK hp
  obtain ⟨gR, cR, rfl, _⟩ := h.topRK hq
  have hx := bx_new (gr : Int) h
  have hsz := h.sz
  have hup := h.up
  have hbs := h.bs
  have HU := Lib.hid (And.intro hsz (And.intro hup hbs))
  have HPQ := Lib.hid (And.intro hp hq)
  clear h hup hp hq
  go_enter Tryz.func57, Tryz.ntmps57
  go_upto_region 1 with fail
  have e0 : (w.alloc (.cells #[.slice aN l.length cN, .slice (some ⟨gP, 0, none⟩) (K + 1 : Nat) cP, .slice (some ⟨gR, 0, none⟩) (K + 1 : Nat) cR, .int .i64 gr] 48)).alloc (.cells #[.slice none 0 0, .slice none 0 0, .slice none 0 0, .int .i64 0] 48) = (w.alloc (.cells (stW (.slice aN l.length cN) (.slice (some ⟨gP, 0, none⟩) (K + 1 : Nat) cP) (.slice (some ⟨gR, 0, none⟩) (K + 1 : Nat) cR) gr) 48)).alloc (.cells stO 48) := rfl
  try rw [e0]
  clear e0
  generalize (w.alloc (.cells (stW (.slice aN l.length cN) (.slice (some ⟨gP, 0, none⟩) (K + 1 : Nat) cP) (.slice (some ⟨gR, 0, none⟩) (K + 1 : Nat) cR) gr) 48)).alloc (.cells stO 48) = w1 at *
  obtain ⟨c0, c1, c2, c3⟩ := hx.c
  obtain ⟨f0, f1, f2, f3⟩ := hx.f
  obtain ⟨_, _, e, lP, kP, tP, yP⟩ := hx.sv.topPK HPQ.out.1
  cases e
  obtain ⟨_, _, e, lR, kR, tR, yR⟩ := hx.sv.topRK HPQ.out.2
  cases e
  have HX := Lib.hid hx
  clear hx
  have q0 : (0 : Int) ≤ (K : Int) := by omega
  have q1 : (K : Int) < ((K + 1 : Nat) : Int) := by omega
  by_cases h0 : n = 0
  · subst h0
    go_upto_region 7 with (at_builtin; go_loud (refine wpList_append_lies _ rfl _ _ 28 rfl base 92 i0 (.agg #[.int .i64 0, .int .i64 0, .int .i64 0, .int .i64 0, .int .u64 0, .int .u64 0, .int .u64 0, .int .u64 0]) 8 64 Tryz.underlying28 hi0 hz0 hz1 hz2 rfl (by decide) (.slice aN l.length cN) l.length (ndCells l) rfl (HX.out.alloc _).sv.nodes ⟨w1.heap.size, 0, none⟩ 1 1 [.int .i64 1, .int .i64 0, .int .i64 0, .int .i64 0, .int .u64 0, .int .u64 0, .int .u64 0, .int .u64 0] rfl rfl (World.news_of_block (cs := [.int .i64 1, .int .i64 0, .int .i64 0, .int .i64 0, .int .u64 0, .int .u64 0, .int .u64 0, .int .u64 0].toArray) (t := 92) (fr := (0, 0)) (heap_alloc_new w1 _)) (by simp [Value.oneCell']) (by omega) (by simp only [maxLen]; omega) (by omega) (by have := HX.out.sv.sz; have := HX.out.sv.bs; simp; omega) (w1.heap.size + 1) (by simp) ?_); intro g' cap' w2 hown hgrow hat hlt; have hb2 := (HX.out.alloc _).blk.kept hgrow (fun e => (HX.out.nB (HX.out.sv.aN _ e.symm))); have j0 := hb2.cell 0; have y0 := hb2.frozen 0; simp only [List.getElem?_toArray, List.getElem?_cons_zero] at j0)
    have h2 := (HX.out.alloc _).pushN (nd := ⟨1, 0, 0, 0, 0⟩) (by rw [nd_zero7]; exact hown) hgrow (hat.imp id fun e => by rw [e]; simp)
    clear HX hown hgrow hat hlt hb2 j0 y0
    clear c0 c1 c2 c3 f0 f1 f2 f3 lP kP tP yP lR kR tR yR
    generalize w2.setCell ⟨w.heap.size, 0, none⟩ (.slice (some ⟨g', 0, none⟩) (l.length + 1 : Nat) cap') = w4 at *
    obtain ⟨c0, c1, c2, c3⟩ := h2.c
    obtain ⟨f0, f1, f2, f3⟩ := h2.f
    obtain ⟨_, _, e, lP, kP, tP, yP⟩ := h2.sv.topPK HPQ.out.1
    cases e
    obtain ⟨_, _, e, lR, kR, tR, yR⟩ := h2.sv.topRK HPQ.out.2
    cases e
    have HX := Lib.hid h2
    clear h2
    go_upto_region 8 with fail
    have h3 := HX.out.setPK HPQ.out.1 0 (v := 0) rfl
    clear HX
    clear c0 c1 c2 c3 f0 f1 f2 f3 lP kP tP yP lR kR tR yR
    generalize w4.setCell ⟨gP, K, none⟩ (.int .i64 0) = w5 at *
    obtain ⟨c0, c1, c2, c3⟩ := h3.c
    obtain ⟨f0, f1, f2, f3⟩ := h3.f
    obtain ⟨_, _, e, lP, kP, tP, yP⟩ := h3.sv.topPK HPQ.out.1
    cases e
    obtain ⟨_, _, e, lR, kR, tR, yR⟩ := h3.sv.topRK HPQ.out.2
    cases e
    have HX := Lib.hid h3
    clear h3
    go_upto_region 9 with fail
    have h4 := HX.out.setRK HPQ.out.2 (r + 1) (v := (r : Int) + 1) rfl
    clear HX
    clear c0 c1 c2 c3 f0 f1 f2 f3 lP kP tP yP lR kR tR yR
    generalize w5.setCell ⟨gR, K, none⟩ (.int .i64 ((r : Int) + 1)) = w6 at *
    obtain ⟨c0, c1, c2, c3⟩ := h4.c
    obtain ⟨f0, f1, f2, f3⟩ := h4.f
    obtain ⟨_, _, e, lP, kP, tP, yP⟩ := h4.sv.topPK HPQ.out.1
    cases e
    obtain ⟨_, _, e, lR, kR, tR, yR⟩ := h4.sv.topRK HPQ.out.2
    cases e
    have HX := Lib.hid h4
    clear h4
    go_wp2_with ((with_reducible refine wpList_store_st (o := ⟨none, .store 48 _ _, _, _, _, _⟩) rfl 48 _ _ rfl (w.heap.size + 1) rfl rfl (run_storeAt_row _ (w.heap.size + 1) 48 48 stO (stW (.slice (some ⟨g', 0, none⟩) (l.length + 1 : Nat) cap') (.slice (some ⟨gP, 0, none⟩) (K + 1 : Nat) cP) (.slice (some ⟨gR, 0, none⟩) (K + 1 : Nat) cR) (gr : Int)) ?_ ?_ ?_ ?_) ?_); exact HX.out.res; exact infoSt7; rfl; exact st_one7 _ _ _ _ _ _ _ _ _ _)
    have hE := bx_end HU.out.1 HU.out.2.1 HU.out.2.2 HX.out (stW (.slice (some ⟨g', 0, none⟩) (l.length + 1 : Nat) cap') (.slice (some ⟨gP, 0, none⟩) (K + 1 : Nat) cP) (.slice (some ⟨gR, 0, none⟩) (K + 1 : Nat) cR) (gr : Int))
    exact bodyPost_ret (v := .agg (stW (.slice (some ⟨g', 0, none⟩) (l.length + 1 : Nat) cap') (.slice (some ⟨gP, 0, none⟩) (K + 1 : Nat) cP) (.slice (some ⟨gR, 0, none⟩) (K + 1 : Nat) cR) (gr : Int))) (results_cell_row rfl _ _ (w.heap.size + 1) 48 (stW (.slice (some ⟨g', 0, none⟩) (l.length + 1 : Nat) cap') (.slice (some ⟨gP, 0, none⟩) (K + 1 : Nat) cP) (.slice (some ⟨gR, 0, none⟩) (K + 1 : Nat) cR) (gr : Int)) (0, 0) _ rfl (Blk.setRow HX.out.res) Tryz.underlying48 rfl infoSt7) rfl ⟨_, rfl, hE.1, hE.2⟩
  by_cases h1 : n = 1
  · subst h1
    have HT : Hid (l ++ rowT 1 = l) := Lib.hid (List.append_nil l)
    go_upto_region 8 with fail
    have h3 := HX.out.setPK HPQ.out.1 0 (v := 0) rfl
    clear HX
    clear c0 c1 c2 c3 f0 f1 f2 f3 lP kP tP yP lR kR tR yR
    generalize w1.setCell ⟨gP, K, none⟩ (.int .i64 0) = w5 at *
    obtain ⟨c0, c1, c2, c3⟩ := h3.c
    obtain ⟨f0, f1, f2, f3⟩ := h3.f
    obtain ⟨_, _, e, lP, kP, tP, yP⟩ := h3.sv.topPK HPQ.out.1
    cases e
    obtain ⟨_, _, e, lR, kR, tR, yR⟩ := h3.sv.topRK HPQ.out.2
    cases e
    have HX := Lib.hid h3
    clear h3
    go_upto_region 9 with fail
    have h4 := HX.out.setRK HPQ.out.2 (r + 1) (v := (r : Int) + 1) rfl
    clear HX
    clear c0 c1 c2 c3 f0 f1 f2 f3 lP kP tP yP lR kR tR yR
    generalize w5.setCell ⟨gR, K, none⟩ (.int .i64 ((r : Int) + 1)) = w6 at *
    obtain ⟨c0, c1, c2, c3⟩ := h4.c
    obtain ⟨f0, f1, f2, f3⟩ := h4.f
    obtain ⟨_, _, e, lP, kP, tP, yP⟩ := h4.sv.topPK HPQ.out.1
    cases e
    obtain ⟨_, _, e, lR, kR, tR, yR⟩ := h4.sv.topRK HPQ.out.2
    cases e
    have HX := Lib.hid h4
    clear h4
    go_wp2_with ((with_reducible refine wpList_store_st (o := ⟨none, .store 48 _ _, _, _, _, _⟩) rfl 48 _ _ rfl (w.heap.size + 1) rfl rfl (run_storeAt_row _ (w.heap.size + 1) 48 48 stO (stW (.slice aN l.length cN) (.slice (some ⟨gP, 0, none⟩) (K + 1 : Nat) cP) (.slice (some ⟨gR, 0, none⟩) (K + 1 : Nat) cR) (gr : Int)) ?_ ?_ ?_ ?_) ?_); exact HX.out.res; exact infoSt7; rfl; exact st_one7 _ _ _ _ _ _ _ _ _ _)
    have hE := bx_end HU.out.1 HU.out.2.1 HU.out.2.2 HX.out (stW (.slice aN l.length cN) (.slice (some ⟨gP, 0, none⟩) (K + 1 : Nat) cP) (.slice (some ⟨gR, 0, none⟩) (K + 1 : Nat) cR) (gr : Int))
    exact bodyPost_ret (v := .agg (stW (.slice aN l.length cN) (.slice (some ⟨gP, 0, none⟩) (K + 1 : Nat) cP) (.slice (some ⟨gR, 0, none⟩) (K + 1 : Nat) cR) (gr : Int))) (results_cell_row rfl _ _ (w.heap.size + 1) 48 (stW (.slice aN l.length cN) (.slice (some ⟨gP, 0, none⟩) (K + 1 : Nat) cP) (.slice (some ⟨gR, 0, none⟩) (K + 1 : Nat) cR) (gr : Int)) (0, 0) _ rfl (Blk.setRow HX.out.res) Tryz.underlying48 rfl infoSt7) rfl ⟨_, rfl, (by rw [HT.out]; exact hE.1), hE.2⟩
  · have hT : rowT n = [⟨5, n, 0, 0, 0⟩] := by unfold rowT; rw [if_neg h0, if_neg h1]; rfl
    have HT : Hid (l ++ rowT n = l ++ [⟨5, n, 0, 0, 0⟩]) := Lib.hid (by rw [hT])
    have qn0 : ((n : Int) == 0) = false := by rw [beq_eq_false_iff_ne]; omega
    have qn1 : decide ((1 : Int) < (n : Int)) = true := by rw [decide_eq_true_iff]; omega
    clear hT
    go_upto_region 7 with (at_builtin; go_loud (refine wpList_append_lies _ rfl _ _ 28 rfl base 92 i0 (.agg #[.int .i64 0, .int .i64 0, .int .i64 0, .int .i64 0, .int .u64 0, .int .u64 0, .int .u64 0, .int .u64 0]) 8 64 Tryz.underlying28 hi0 hz0 hz1 hz2 rfl (by decide) (.slice aN l.length cN) l.length (ndCells l) rfl (HX.out.alloc _).sv.nodes ⟨w1.heap.size, 0, none⟩ 1 1 [.int .i64 5, .int .i64 n, .int .i64 0, .int .i64 0, .int .u64 0, .int .u64 0, .int .u64 0, .int .u64 0] rfl rfl (World.news_of_block (cs := [.int .i64 5, .int .i64 n, .int .i64 0, .int .i64 0, .int .u64 0, .int .u64 0, .int .u64 0, .int .u64 0].toArray) (t := 92) (fr := (0, 0)) (heap_alloc_new w1 _)) (by simp [Value.oneCell']) (by omega) (by simp only [maxLen]; omega) (by omega) (by have := HX.out.sv.sz; have := HX.out.sv.bs; simp; omega) (w1.heap.size + 1) (by simp) ?_); intro g' cap' w2 hown hgrow hat hlt; have hb2 := (HX.out.alloc _).blk.kept hgrow (fun e => (HX.out.nB (HX.out.sv.aN _ e.symm))); have j0 := hb2.cell 0; have y0 := hb2.frozen 0; simp only [List.getElem?_toArray, List.getElem?_cons_zero] at j0)
    have h2 := (HX.out.alloc _).pushN (nd := ⟨5, n, 0, 0, 0⟩) (by rw [nd_zero7]; exact hown) hgrow (hat.imp id fun e => by rw [e]; simp)
    clear HX hown hgrow hat hlt hb2 j0 y0
    clear c0 c1 c2 c3 f0 f1 f2 f3 lP kP tP yP lR kR tR yR
    generalize w2.setCell ⟨w.heap.size, 0, none⟩ (.slice (some ⟨g', 0, none⟩) (l.length + 1 : Nat) cap') = w4 at *
    obtain ⟨c0, c1, c2, c3⟩ := h2.c
    obtain ⟨f0, f1, f2, f3⟩ := h2.f
    obtain ⟨_, _, e, lP, kP, tP, yP⟩ := h2.sv.topPK HPQ.out.1
    cases e
    obtain ⟨_, _, e, lR, kR, tR, yR⟩ := h2.sv.topRK HPQ.out.2
    cases e
    have HX := Lib.hid h2
    clear h2
    go_upto_region 8 with fail
    have h3 := HX.out.setPK HPQ.out.1 0 (v := 0) rfl
    clear HX
    clear c0 c1 c2 c3 f0 f1 f2 f3 lP kP tP yP lR kR tR yR
    generalize w4.setCell ⟨gP, K, none⟩ (.int .i64 0) = w5 at *
    obtain ⟨c0, c1, c2, c3⟩ := h3.c
    obtain ⟨f0, f1, f2, f3⟩ := h3.f
    obtain ⟨_, _, e, lP, kP, tP, yP⟩ := h3.sv.topPK HPQ.out.1
    cases e
    obtain ⟨_, _, e, lR, kR, tR, yR⟩ := h3.sv.topRK HPQ.out.2
    cases e
    have HX := Lib.hid h3
    clear h3
    go_upto_region 9 with fail
    have h4 := HX.out.setRK HPQ.out.2 (r + 1) (v := (r : Int) + 1) rfl
    clear HX
    clear c0 c1 c2 c3 f0 f1 f2 f3 lP kP tP yP lR kR tR yR
    generalize w5.setCell ⟨gR, K, none⟩ (.int .i64 ((r : Int) + 1)) = w6 at *
    obtain ⟨c0, c1, c2, c3⟩ := h4.c
    obtain ⟨f0, f1, f2, f3⟩ := h4.f
    obtain ⟨_, _, e, lP, kP, tP, yP⟩ := h4.sv.topPK HPQ.out.1
    cases e
    obtain ⟨_, _, e, lR, kR, tR, yR⟩ := h4.sv.topRK HPQ.out.2
    cases e
    have HX := Lib.hid h4
    clear h4
    go_wp2_with ((with_reducible refine wpList_store_st (o := ⟨none, .store 48 _ _, _, _, _, _⟩) rfl 48 _ _ rfl (w.heap.size + 1) rfl rfl (run_storeAt_row _ (w.heap.size + 1) 48 48 stO (stW (.slice (some ⟨g', 0, none⟩) (l.length + 1 : Nat) cap') (.slice (some ⟨gP, 0, none⟩) (K + 1 : Nat) cP) (.slice (some ⟨gR, 0, none⟩) (K + 1 : Nat) cR) (gr : Int)) ?_ ?_ ?_ ?_) ?_); exact HX.out.res; exact infoSt7; rfl; exact st_one7 _ _ _ _ _ _ _ _ _ _)
    have hE := bx_end HU.out.1 HU.out.2.1 HU.out.2.2 HX.out (stW (.slice (some ⟨g', 0, none⟩) (l.length + 1 : Nat) cap') (.slice (some ⟨gP, 0, none⟩) (K + 1 : Nat) cP) (.slice (some ⟨gR, 0, none⟩) (K + 1 : Nat) cR) (gr : Int))
    exact bodyPost_ret (v := .agg (stW (.slice (some ⟨g', 0, none⟩) (l.length + 1 : Nat) cap') (.slice (some ⟨gP, 0, none⟩) (K + 1 : Nat) cP) (.slice (some ⟨gR, 0, none⟩) (K + 1 : Nat) cR) (gr : Int))) (results_cell_row rfl _ _ (w.heap.size + 1) 48 (stW (.slice (some ⟨g', 0, none⟩) (l.length + 1 : Nat) cap') (.slice (some ⟨gP, 0, none⟩) (K + 1 : Nat) cP) (.slice (some ⟨gR, 0, none⟩) (K + 1 : Nat) cR) (gr : Int)) (0, 0) _ rfl (Blk.setRow HX.out.res) Tryz.underlying48 rfl infoSt7) rfl ⟨_, rfl, (by rw [HT.out]; exact hE.1), hE.2⟩
end Go.Proofs.YtldaaelmifbbhaaGreat

/- The document's parse: rows. Stage 7. -/
namespace Go.Proofs.YtldaaelmifbbhaaGreat
open Go.RowKit BS

/-- Behind a call that takes the state and hands a state back. -/
theorem BxV.call {base N B B2 : Nat} {A : Nat → Prop} {l l2 : List NdN} {ps rs ps2 rs2 : List Nat} {g g2 : Int} {vN vP vR vN2 vP2 vR2 : Value} {w0 w w2 : World} (h : BxV base N B B2 A l ps rs g vN vP vR w0 w) (hs : SV base N A l2 ps2 rs2 vN2 vP2 vR2 w2) (hk : KpA A w w2) :
    BxV base N B B2 A l2 ps2 rs2 g2 vN2 vP2 vR2 w0 (w2.setRow B (stW vN2 vP2 vR2 g2)) :=
  ⟨hs.row h.nB _, Blk.setRow (h.blk.kpA hk h.nB), (row_kept7 _ _ _ _ (Ne.symm h.nE)).trans (h.res.kpA hk h.nB2), h.nB, h.nB2, (h.kp.trans (hk.mono fun _ hk => .inl hk)).row (.inl (.inr rfl)) _, h.nE⟩
set_option maxRecDepth 100000 in
set_option maxHeartbeats 16000000 in
theorem rrows_calls {base N K : Nat} {A : Nat → Prop} {l : List NdN} {ps rs : List Nat} {n r gr : Nat} {vN vP vR : Value} (w : World) (h : SV base N A l (ps ++ [n]) (rs ++ [r]) vN vP vR w) (hp : ps.length = K) (hq : rs.length = K) (hl : l.length ≤ 3999990) (hn : n ≤ 2000000) (hr' : r ≤ 2000000) (hp' : K ≤ 2000000) :
    Calls Tryz.prog 37 #[.agg (stW vN vP vR gr)] w fun e w' => ∃ vN' vP' vR', e = .returned (.agg (stW vN' vP' vR' gr)) ∧ SV base N A (l ++ rowT n ++ rowsT (r + 1)) ps rs vN' vP' vR' w' ∧ KpA A w w' := by
  obtain ⟨i0, hi0, hz0, hz1, hz2⟩ := info_parts info8n
  have hl2 : (l ++ rowT n).length ≤ 4000000 := by
    rw [List.length_append]
    have : (rowT n).length ≤ 1 := by
      unfold rowT
      by_cases h0 : n = 0
      · rw [if_pos h0]; exact Nat.le_refl _
      · rw [if_neg h0]
        by_cases h1 : n = 1
        · rw [if_pos h1]; exact Nat.zero_le _
        · rw [if_neg h1]; exact Nat.le_refl _
    omega
  obtain ⟨aN, cN, rfl⟩ := h.formN
  obtain ⟨gP, cP, rfl, _⟩ := h.topPK hp
  obtain ⟨gR, cR, rfl, _⟩ := h.topRK hq
  have hx := bx_new (gr : Int) h
  have hsz := h.sz
  have hup := h.up
  have hbs := h.bs
  have HU := Lib.hid (And.intro hsz (And.intro hup hbs))
  have HPQ := Lib.hid (And.intro hp hq)
  clear h hup hp hq
  have HRW := Lib.hid (fun W (h : SV base (w.heap.size + 2) (fun k => A k ∧ k ≠ w.heap.size ∧ k ≠ w.heap.size + 1) l (ps ++ [n]) (rs ++ [r]) (.slice aN l.length cN) (.slice (some ⟨gP, 0, none⟩) (K + 1 : Nat) cP) (.slice (some ⟨gR, 0, none⟩) (K + 1 : Nat) cR) W) => rrow_calls (gr := gr) W h HPQ.out.1 HPQ.out.2 (by omega) hn hr' hp')
  go_enter Tryz.func37, Tryz.ntmps37
  go_upto_region 1 with fail
  have e0 : (w.alloc (.cells #[.slice aN l.length cN, .slice (some ⟨gP, 0, none⟩) (K + 1 : Nat) cP, .slice (some ⟨gR, 0, none⟩) (K + 1 : Nat) cR, .int .i64 gr] 48)).alloc (.cells #[.slice none 0 0, .slice none 0 0, .slice none 0 0, .int .i64 0] 48) = (w.alloc (.cells (stW (.slice aN l.length cN) (.slice (some ⟨gP, 0, none⟩) (K + 1 : Nat) cP) (.slice (some ⟨gR, 0, none⟩) (K + 1 : Nat) cR) gr) 48)).alloc (.cells stO 48) := rfl
  try rw [e0]
  clear e0
  generalize (w.alloc (.cells (stW (.slice aN l.length cN) (.slice (some ⟨gP, 0, none⟩) (K + 1 : Nat) cP) (.slice (some ⟨gR, 0, none⟩) (K + 1 : Nat) cR) gr) 48)).alloc (.cells stO 48) = w1 at *
  obtain ⟨c0, c1, c2, c3⟩ := hx.c
  obtain ⟨f0, f1, f2, f3⟩ := hx.f
  obtain ⟨_, _, e, lP, kP, tP, yP⟩ := hx.sv.topPK HPQ.out.1
  cases e
  obtain ⟨_, _, e, lR, kR, tR, yR⟩ := hx.sv.topRK HPQ.out.2
  cases e
  have HX := Lib.hid hx
  clear hx
  have q0 : (0 : Int) ≤ (K : Int) := by omega
  have q1 : (K : Int) < ((K + 1 : Nat) : Int) := by omega
  go_wp2_with fail
  refine (HRW.out _ HX.out.sv).mono ?_
  rintro e w2 ⟨vN', rfl, hs, hk⟩
  generalize hll : l ++ rowT n = l2 at *
  have HLL := Lib.hid hll
  clear hll
  obtain ⟨aM, cM, rfl⟩ := hs.formN
  have hb2 := HX.out.blk.kpA hk HX.out.nB
  have h2 := HX.out.call (g2 := (gr : Int)) hs hk
  clear HRW HX hs hk c0 c1 c2 c3 f0 f1 f2 f3 lP kP tP yP lR kR tR yR
  go_upto_region 2 with ((with_reducible refine wpList_store_st (o := ⟨none, .store 48 _ _, _, _, _, _⟩) rfl 48 _ _ rfl w.heap.size rfl rfl (run_storeAt_row _ w.heap.size 48 48 (stW (.slice aN l.length cN) (.slice (some ⟨gP, 0, none⟩) (K + 1 : Nat) cP) (.slice (some ⟨gR, 0, none⟩) (K + 1 : Nat) cR) (gr : Int)) (stW (.slice aM l2.length cM) (.slice (some ⟨gP, 0, none⟩) (K + 1 : Nat) cP) (.slice (some ⟨gR, 0, none⟩) (K + 1 : Nat) cR) (gr : Int)) ?_ ?_ ?_ ?_) ?_); exact hb2; exact infoSt7; rfl; exact st_one7 _ _ _ _ _ _ _ _ _ _)
  clear hb2
  generalize w2.setRow w.heap.size (stW (.slice aM l2.length cM) (.slice (some ⟨gP, 0, none⟩) (K + 1 : Nat) cP) (.slice (some ⟨gR, 0, none⟩) (K + 1 : Nat) cR) (gr : Int)) = w3 at *
  by_cases h0 : r = 0
  · subst h0
    have HT : Hid (l2 ++ rowsT (0 + 1) = l2) := Lib.hid (List.append_nil l2)
    obtain ⟨c0, c1, c2, c3⟩ := h2.c
    obtain ⟨f0, f1, f2, f3⟩ := h2.f
    obtain ⟨_, _, e, lP, kP, tP, yP⟩ := h2.sv.topPK HPQ.out.1
    cases e
    obtain ⟨_, _, e, lR, kR, tR, yR⟩ := h2.sv.topRK HPQ.out.2
    cases e
    have HX := Lib.hid h2
    clear h2
    have qK := kR
    have qK2 := kP
    go_upto_region 6 with fail
    have h5 := HX.out.popRK HPQ.out.2
    clear HX
    clear c0 c1 c2 c3 f0 f1 f2 f3 lP kP tP yP lR kR tR yR
    generalize w3.setCell ⟨w.heap.size, 2, none⟩ (.slice (some ⟨gR, 0, none⟩) (K : Nat) cR) = w5 at *
    obtain ⟨c0, c1, c2, c3⟩ := h5.c
    obtain ⟨f0, f1, f2, f3⟩ := h5.f
    have HX := Lib.hid h5
    clear h5
    go_upto_region 7 with fail
    have h6 := HX.out.popPK HPQ.out.1
    clear HX c0 c1 c2 c3 f0 f1 f2 f3
    generalize w5.setCell ⟨w.heap.size, 1, none⟩ (.slice (some ⟨gP, 0, none⟩) (K : Nat) cP) = w6 at *
    obtain ⟨c0, c1, c2, c3⟩ := h6.c
    have HX := Lib.hid h6
    clear h6
    go_wp2_with ((with_reducible refine wpList_store_st (o := ⟨none, .store 48 _ _, _, _, _, _⟩) rfl 48 _ _ rfl (w.heap.size + 1) rfl rfl (run_storeAt_row _ (w.heap.size + 1) 48 48 stO (stW (.slice aM l2.length cM) (.slice (some ⟨gP, 0, none⟩) (K : Nat) cP) (.slice (some ⟨gR, 0, none⟩) (K : Nat) cR) (gr : Int)) ?_ ?_ ?_ ?_) ?_); exact HX.out.res; exact infoSt7; rfl; exact st_one7 _ _ _ _ _ _ _ _ _ _)
    have hE := bx_end HU.out.1 HU.out.2.1 HU.out.2.2 HX.out (stW (.slice aM l2.length cM) (.slice (some ⟨gP, 0, none⟩) (K : Nat) cP) (.slice (some ⟨gR, 0, none⟩) (K : Nat) cR) (gr : Int))
    exact bodyPost_ret (v := .agg (stW (.slice aM l2.length cM) (.slice (some ⟨gP, 0, none⟩) (K : Nat) cP) (.slice (some ⟨gR, 0, none⟩) (K : Nat) cR) (gr : Int))) (results_cell_row rfl _ _ (w.heap.size + 1) 48 (stW (.slice aM l2.length cM) (.slice (some ⟨gP, 0, none⟩) (K : Nat) cP) (.slice (some ⟨gR, 0, none⟩) (K : Nat) cR) (gr : Int)) (0, 0) _ rfl (Blk.setRow HX.out.res) Tryz.underlying48 rfl infoSt7) rfl ⟨_, _, _, rfl, (by rw [HLL.out, HT.out]; exact hE.1), hE.2⟩
  · have hT : rowsT (r + 1) = [⟨6, (r : Int) + 1, 0, 0, 0⟩] := by unfold rowsT; rw [if_pos (by omega)]; rfl
    have HT : Hid (l2 ++ rowsT (r + 1) = l2 ++ [⟨6, (r : Int) + 1, 0, 0, 0⟩]) := Lib.hid (by rw [hT])
    have qr : decide ((1 : Int) < (r : Int) + 1) = true := by rw [decide_eq_true_iff]; omega
    clear hT
    obtain ⟨c0, c1, c2, c3⟩ := h2.c
    obtain ⟨f0, f1, f2, f3⟩ := h2.f
    obtain ⟨_, _, e, lP, kP, tP, yP⟩ := h2.sv.topPK HPQ.out.1
    cases e
    obtain ⟨_, _, e, lR, kR, tR, yR⟩ := h2.sv.topRK HPQ.out.2
    cases e
    have HX := Lib.hid h2
    clear h2
    go_upto_region 4 with fail
    have hBlt := HX.out.blk.lt
    have q2 : (K : Int) < (K : Int) + 1 := by omega
    go_region_law
      ((refine step_append_lies _ (by rfl) _ _ _ (by rfl) base 92 i0 _ 8 64 Tryz.underlying28 hi0 hz0 hz1 hz2 rfl (by omega) (.slice aM l2.length cM) l2.length (ndCells l2) (by rfl) ((HX.out.alloc _).drew).sv.nodes ⟨w3.heap.size, 0, none⟩ 1 1 [.int .i64 6, .int .i64 ((r : Int) + 1), .int .i64 0, .int .i64 0, .int .u64 0, .int .u64 0, .int .u64 0, .int .u64 0] (by rfl) (by rfl) (World.news_of_block (cs := #[.int .i64 6, .int .i64 ((r : Int) + 1), .int .i64 0, .int .i64 0, .int .u64 0, .int .u64 0, .int .u64 0, .int .u64 0]) (t := 92) (fr := (0, 0)) (heap_alloc_new w3 _)) (by simp [Value.oneCell']) (by omega) (by simp only [maxLen]; omega) (by omega) (by have := HX.out.sv.sz; have := HX.out.sv.bs; simp; omega) (w3.heap.size + 1) (by simp) ?_; intro g' cap' w4 hown hgrow hat hlt; have j0 : w4.cell? ⟨w.heap.size, 0, none⟩ = some (.slice aM l2.length cM) := (((HX.out.alloc _).drew).blk.kept hgrow (fun e => (HX.out.nB (HX.out.sv.aN _ e.symm)))).cell 0; have y0 : w4.frozen? ⟨w.heap.size, 0, none⟩ = false := (((HX.out.alloc _).drew).blk.kept hgrow (fun e => (HX.out.nB (HX.out.sv.aN _ e.symm)))).frozen 0))
    all_goals
      have h4 := ((HX.out.alloc _).drew).pushN (nd := ⟨6, (r : Int) + 1, 0, 0, 0⟩) (by rw [nd_zero7]; exact hown) hgrow (hat.imp id fun e => by rw [e]; simp)
      clear HX hown hgrow hat hlt j0 y0 hBlt
      clear c0 c1 c2 c3 f0 f1 f2 f3 lP kP tP yP lR kR tR yR
      generalize w4.setCell ⟨w.heap.size, 0, none⟩ (.slice (some ⟨g', 0, none⟩) (l2.length + 1 : Nat) cap') = wq at *
      obtain ⟨c0, c1, c2, c3⟩ := h4.c
      obtain ⟨f0, f1, f2, f3⟩ := h4.f
      obtain ⟨_, _, e, lP, kP, tP, yP⟩ := h4.sv.topPK HPQ.out.1
      cases e
      obtain ⟨_, _, e, lR, kR, tR, yR⟩ := h4.sv.topRK HPQ.out.2
      cases e
      have HX := Lib.hid h4
      clear h4
      have qK := kR
      have qK2 := kP
      go_upto_region 6 with fail
      have h5 := HX.out.popRK HPQ.out.2
      clear HX
      clear c0 c1 c2 c3 f0 f1 f2 f3 lP kP tP yP lR kR tR yR
      generalize wq.setCell ⟨w.heap.size, 2, none⟩ (.slice (some ⟨gR, 0, none⟩) (K : Nat) cR) = w5 at *
      obtain ⟨c0, c1, c2, c3⟩ := h5.c
      obtain ⟨f0, f1, f2, f3⟩ := h5.f
      have HX := Lib.hid h5
      clear h5
      go_upto_region 7 with fail
      have h6 := HX.out.popPK HPQ.out.1
      clear HX c0 c1 c2 c3 f0 f1 f2 f3
      generalize w5.setCell ⟨w.heap.size, 1, none⟩ (.slice (some ⟨gP, 0, none⟩) (K : Nat) cP) = w6 at *
      obtain ⟨c0, c1, c2, c3⟩ := h6.c
      have HX := Lib.hid h6
      clear h6
      go_wp2_with ((with_reducible refine wpList_store_st (o := ⟨none, .store 48 _ _, _, _, _, _⟩) rfl 48 _ _ rfl (w.heap.size + 1) rfl rfl (run_storeAt_row _ (w.heap.size + 1) 48 48 stO (stW (.slice (some ⟨g', 0, none⟩) (l2.length + 1 : Nat) cap') (.slice (some ⟨gP, 0, none⟩) (K : Nat) cP) (.slice (some ⟨gR, 0, none⟩) (K : Nat) cR) (gr : Int)) ?_ ?_ ?_ ?_) ?_); exact HX.out.res; exact infoSt7; rfl; exact st_one7 _ _ _ _ _ _ _ _ _ _)
      have hE := bx_end HU.out.1 HU.out.2.1 HU.out.2.2 HX.out (stW (.slice (some ⟨g', 0, none⟩) (l2.length + 1 : Nat) cap') (.slice (some ⟨gP, 0, none⟩) (K : Nat) cP) (.slice (some ⟨gR, 0, none⟩) (K : Nat) cR) (gr : Int))
      exact bodyPost_ret (v := .agg (stW (.slice (some ⟨g', 0, none⟩) (l2.length + 1 : Nat) cap') (.slice (some ⟨gP, 0, none⟩) (K : Nat) cP) (.slice (some ⟨gR, 0, none⟩) (K : Nat) cR) (gr : Int))) (results_cell_row rfl _ _ (w.heap.size + 1) 48 (stW (.slice (some ⟨g', 0, none⟩) (l2.length + 1 : Nat) cap') (.slice (some ⟨gP, 0, none⟩) (K : Nat) cP) (.slice (some ⟨gR, 0, none⟩) (K : Nat) cR) (gr : Int)) (0, 0) _ rfl (Blk.setRow HX.out.res) Tryz.underlying48 rfl infoSt7) rfl ⟨_, _, _, rfl, (by rw [HLL.out, HT.out]; exact hE.1), hE.2⟩
end Go.Proofs.YtldaaelmifbbhaaGreat

/- The document's parse: first. Stage 7. -/
namespace Go.Proofs.YtldaaelmifbbhaaGreat
open Go.RowKit BS

def pS (st : List (Nat × Nat)) : List Nat := (st.map Prod.fst).reverse
def rS (st : List (Nat × Nat)) : List Nat := (st.map Prod.snd).reverse
theorem pS_cons (n r : Nat) (st : List (Nat × Nat)) : pS ((n, r) :: st) = pS st ++ [n] := by simp [pS]
theorem rS_cons (n r : Nat) (st : List (Nat × Nat)) : rS ((n, r) :: st) = rS st ++ [r] := by simp [rS]
theorem pS_len (st : List (Nat × Nat)) : (pS st).length = st.length := by simp [pS]
theorem rS_len (st : List (Nat × Nat)) : (rS st).length = st.length := by simp [rS]
set_option maxRecDepth 100000 in
set_option maxHeartbeats 8000000 in
theorem rfirst_calls {base N : Nat} {A : Nat → Prop} {l : List NdN} {st : List (Nat × Nat)} {n r gr : Nat} {vN vP vR : Value} (b : Nat) (w : World) (h : SV base N A l (pS ((n, r) :: st)) (rS ((n, r) :: st)) vN vP vR w) (hst : st.length ≤ 2000000) :
    Calls Tryz.prog 34 #[.agg (stW vN vP vR gr), .int .u8 b] w fun e w' => e = .returned (.int .i64 (firstP ⟨l, (n, r) :: st, gr⟩ b)) ∧ Below w.heap.size w w' := by
  have h2 := h.alloc (.cells (stW vN vP vR gr) 48)
  have hB := Blk.new w (stW vN vP vR gr) 48
  have HB : Hid (Below w.heap.size w (w.alloc (.cells (stW vN vP vR gr) 48))) := Lib.hid (by go_grown)
  rw [pS_cons] at h2
  obtain ⟨gP, cP, rfl, lP, kP, tP, yP⟩ := h2.topPK (pS_len st)
  clear h h2 yP lP
  have c1 := hB.cell 1
  have c3 := hB.cell 3
  simp only [List.getElem?_toArray, List.getElem?_cons_zero, List.getElem?_cons_succ] at c1 c3
  clear hB
  have q0 : (0 : Int) ≤ (st.length : Int) := by omega
  have q1 : (st.length : Int) < ((st.length + 1 : Nat) : Int) := by omega
  by_cases b42 : b = 42
  · subst b42
    clear c3
    by_cases h0 : n = 0
    · subst h0
      have hF : firstP ⟨l, (0, r) :: st, gr⟩ 42 = 7 := by rfl
      rw [hF]
      clear hF
      go_enter Tryz.func34, Tryz.ntmps34
      go_wp2_with fail
      go_ret
      exact ⟨rfl, HB.out⟩
    · have qn : ((n : Int) == 0) = false := by rw [beq_eq_false_iff_ne]; omega
      have hF : firstP ⟨l, (n, r) :: st, gr⟩ 42 = 0 := by unfold firstP; simp [h0]
      rw [hF]
      clear hF
      go_enter Tryz.func34, Tryz.ntmps34
      go_wp2_with fail
      go_ret
      exact ⟨rfl, HB.out⟩
  have q42 : ((b : Int) == 42) = false := by rw [beq_eq_false_iff_ne]; omega
  by_cases b43 : b = 43
  · subst b43
    clear c3
    by_cases h0 : n = 0
    · subst h0
      have hF : firstP ⟨l, (0, r) :: st, gr⟩ 43 = 7 := by rfl
      rw [hF]
      clear hF
      go_enter Tryz.func34, Tryz.ntmps34
      go_wp2_with fail
      go_ret
      exact ⟨rfl, HB.out⟩
    · have qn : ((n : Int) == 0) = false := by rw [beq_eq_false_iff_ne]; omega
      have hF : firstP ⟨l, (n, r) :: st, gr⟩ 43 = 0 := by unfold firstP; simp [h0]
      rw [hF]
      clear hF
      go_enter Tryz.func34, Tryz.ntmps34
      go_wp2_with fail
      go_ret
      exact ⟨rfl, HB.out⟩
  have q43 : ((b : Int) == 43) = false := by rw [beq_eq_false_iff_ne]; omega
  by_cases b63 : b = 63
  · subst b63
    clear c3
    by_cases h0 : n = 0
    · subst h0
      have hF : firstP ⟨l, (0, r) :: st, gr⟩ 63 = 7 := by rfl
      rw [hF]
      clear hF
      go_enter Tryz.func34, Tryz.ntmps34
      go_wp2_with fail
      go_ret
      exact ⟨rfl, HB.out⟩
    · have qn : ((n : Int) == 0) = false := by rw [beq_eq_false_iff_ne]; omega
      have hF : firstP ⟨l, (n, r) :: st, gr⟩ 63 = 0 := by unfold firstP; simp [h0]
      rw [hF]
      clear hF
      go_enter Tryz.func34, Tryz.ntmps34
      go_wp2_with fail
      go_ret
      exact ⟨rfl, HB.out⟩
  have q63 : ((b : Int) == 63) = false := by rw [beq_eq_false_iff_ne]; omega
  by_cases b123 : b = 123
  · subst b123
    clear c3
    by_cases h0 : n = 0
    · subst h0
      have hF : firstP ⟨l, (0, r) :: st, gr⟩ 123 = 7 := by rfl
      rw [hF]
      clear hF
      go_enter Tryz.func34, Tryz.ntmps34
      go_wp2_with fail
      go_ret
      exact ⟨rfl, HB.out⟩
    · have qn : ((n : Int) == 0) = false := by rw [beq_eq_false_iff_ne]; omega
      have hF : firstP ⟨l, (n, r) :: st, gr⟩ 123 = 0 := by unfold firstP; simp [h0]
      rw [hF]
      clear hF
      go_enter Tryz.func34, Tryz.ntmps34
      go_wp2_with fail
      go_ret
      exact ⟨rfl, HB.out⟩
  have q123 : ((b : Int) == 123) = false := by rw [beq_eq_false_iff_ne]; omega
  by_cases b41 : b = 41
  · subst b41
    clear c3 tP
    by_cases h0 : st = []
    · subst h0
      have hF : firstP ⟨l, [(n, r)], gr⟩ 41 = 8 := by rfl
      rw [hF]
      clear hF
      go_enter Tryz.func34, Tryz.ntmps34
      go_wp2_with fail
      go_ret
      exact ⟨rfl, HB.out⟩
    · have hl : 0 < st.length := List.length_pos_iff.2 h0
      have qn : ((st.length : Int) == 0) = false := by rw [beq_eq_false_iff_ne]; omega
      have hF : firstP ⟨l, (n, r) :: st, gr⟩ 41 = 0 := by unfold firstP; simp [h0]
      rw [hF]
      clear hF
      go_enter Tryz.func34, Tryz.ntmps34
      go_wp2_with fail
      go_ret
      exact ⟨rfl, HB.out⟩
  have q41 : ((b : Int) == 41) = false := by rw [beq_eq_false_iff_ne]; omega
  by_cases b40 : b = 40
  · subst b40
    clear tP
    by_cases h0 : gr = 9
    · subst h0
      have hF : firstP ⟨l, (n, r) :: st, 9⟩ 40 = 9 := by rfl
      rw [hF]
      clear hF
      go_enter Tryz.func34, Tryz.ntmps34
      go_wp2_with fail
      go_ret
      exact ⟨rfl, HB.out⟩
    · have qn : ((gr : Int) == 9) = false := by rw [beq_eq_false_iff_ne]; omega
      have hF : firstP ⟨l, (n, r) :: st, gr⟩ 40 = 0 := by unfold firstP; simp [h0]
      rw [hF]
      clear hF
      go_enter Tryz.func34, Tryz.ntmps34
      go_wp2_with fail
      go_ret
      exact ⟨rfl, HB.out⟩
  have q40 : ((b : Int) == 40) = false := by rw [beq_eq_false_iff_ne]; omega
  have hF : firstP ⟨l, (n, r) :: st, gr⟩ b = 0 := by unfold firstP; simp [b42, b43, b63, b123, b41, b40]
  rw [hF]
  clear hF
  clear b42 b43 b63 b123 b41 b40 c3 tP
  go_enter Tryz.func34, Tryz.ntmps34
  go_wp2_with fail
  go_ret
  exact ⟨rfl, HB.out⟩
end Go.Proofs.YtldaaelmifbbhaaGreat

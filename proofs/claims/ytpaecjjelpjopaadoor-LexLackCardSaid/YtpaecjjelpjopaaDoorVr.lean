/- The document's words: fourteen, one, Byte, Next. -/
import Derived.Test.YtpaecjjelpjopaaDoorVp
import Derived.Test.YtpaecjjelpjopaaDoorGs
import Derived.Test.YtpaecjjelpjopaaDoorNs
import Derived.Test.YtpaecjjelpjopaaDoorP1
import Derived.BigQuiet
import Derived.Outline
import Derived.Deep.QuietTactic
import Derived.Deep.DeepCutAuto
namespace Go.Proofs.YtpaecjjelpjopaaDoor
open Go.RowKit BS

@[reducible] def woI (k a e : Int) (t : BitVec 256) (n m : Int) : Array Value := #[.int .i64 k, .int .i64 a, .int .i64 e, .int .u64 (wd t 0), .int .u64 (wd t 1), .int .u64 (wd t 2), .int .u64 (wd t 3), .int .i64 n, .int .i64 m]
def woA (w : WN) : Array Value := woI w.kind w.pos w.fin w.set w.n w.m
theorem infoWo : (Tryd.prog.info? 28).map (·.size) = some 9 := by kernel_rfl
theorem wo_one (k a e : Int) (t : BitVec 256) (n m : Int) : ((woI k a e t n m).all fun x => x.oneCell') = true := by simp [Value.oneCell']
theorem infoSe : (Tryd.prog.info? 26).map (·.size) = some 4 := by kernel_rfl
theorem se_one (t : BitVec 256) : ((setA t).all fun x => x.oneCell') = true := by simp [setA, Value.oneCell']
theorem results_cell2 {P : Program} {fn : Func} {p a b : Tmp} {ty : TypeId} (h : fn.results = #[.cell p ty, .tmp a, .tmp b]) (tmps : Array Value) (w : World) (g : Nat) (t : TypeId) (cs : Array Value) (fr : Nat × Nat) (d : TypeDesc)
    (hp : tmps.getD p undef = .pointer (some ⟨g, 0, none⟩)) (hg : w.heap[g]? = some (.cells cs t fr))
    (hu : P.underlying ty = some d) (hd : (match d with | .struct _ | .array _ _ => true | _ => false) = true) (hi : (P.info? ty).map (·.size) = some cs.size) :
    (results fn tmps).run P w = .ok (.tuple #[.agg cs, tmps.getD a undef, tmps.getD b undef]) w := by
  have hp' : tmps[p]?.getD undef = .pointer (some ⟨g, 0, none⟩) := by simpa using hp
  simp [results, h, hp', asAddr, run_loadVar_row w g t ty cs fr d hg hu hd hi]

theorem four14_no (b k : Nat) (hk : 14 ≤ k) (h : ∀ j, j < k → bt (ofT l14) j ≠ b) : four14 b = false := by
  unfold four14
  rw [Bool.eq_false_iff]
  intro hc
  have hm := List.contains_iff_mem.1 hc
  obtain ⟨j, hj, e⟩ := List.getElem_of_mem hm
  have hj' : j < 14 := hj
  exact h j (by omega) (by rw [bt_ofT l14 (by decide) j hj, e])
theorem four14_yes (b k : Nat) (hk : k < 14) (h : bt (ofT l14) k = b) : four14 b = true := by
  unfold four14
  rw [bt_ofT l14 (by decide) k hk] at h
  exact List.contains_iff_mem.2 (h ▸ List.getElem_mem hk)
end Go.Proofs.YtpaecjjelpjopaaDoor

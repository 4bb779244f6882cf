/- Texts put together: Vr. -/
import Derived.Test.YtbccojjcdcighaaGreatDoorPAc
import Derived.Test.YtbccojjcdcighaaGreatDoorPAf
import Derived.Test.YtbccojjcdcighaaGreatDoorPO
import Derived.Test.YtbccojjcdcighaaGreatDoorPC
import Derived.BigQuiet
import Derived.Outline
import Derived.Deep.QuietTactic
import Derived.Deep.DeepCutAuto
namespace Go.Proofs.YtbccojjcdcighaaGreatDoor
open Go.RowKit BS
@[reducible] def woI (k a e : Int) (t : BitVec 256) (n m : Int) : Array Value := #[.int .i64 k, .int .i64 a, .int .i64 e, .int .u64 (wd t 0), .int .u64 (wd t 1), .int .u64 (wd t 2), .int .u64 (wd t 3), .int .i64 n, .int .i64 m]
def woA (w : WN) : Array Value := woI w.kind w.pos w.fin w.set w.n w.m
theorem infoWo : (Tryz.prog.info? 91).map (·.size) = some 9 := by kernel_rfl
theorem wo_one (k a e : Int) (t : BitVec 256) (n m : Int) : ((woI k a e t n m).all fun x => x.oneCell') = true := by simp [Value.oneCell']
theorem results_cell2 {P : Program} {fn : Func} {p a b : Tmp} {ty : TypeId} (h : fn.results = #[.cell p ty, .tmp a, .tmp b]) (tmps : Array Value) (w : World) (g : Nat) (t : TypeId) (cs : Array Value) (fr : Nat × Nat) (d : TypeDesc)
    (hp : tmps.getD p undef = .pointer (some ⟨g, 0, none⟩)) (hg : w.heap[g]? = some (.cells cs t fr))
    (hu : P.underlying ty = some d) (hd : (match d with | .struct _ | .array _ _ => true | _ => false) = true) (hi : (P.info? ty).map (·.size) = some cs.size) :
    (results fn tmps).run P w = .ok (.tuple #[.agg cs, tmps.getD a undef, tmps.getD b undef]) w := by
  have hp' : tmps[p]?.getD undef = .pointer (some ⟨g, 0, none⟩) := by simpa using hp
  simp [results, h, hp', asAddr, run_loadVar_row w g t ty cs fr d hg hu hd hi]
theorem four14_no (b k : Nat) (hk : 14 ≤ k) (h : ∀ j, j < k → bt (ofT l14) j ≠ b) : four14 b = false := by
  unfold four14
  rw [Bool.eq_false_iff]
  intro hc
  have hm := List.contains_iff_mem.1 hc
  obtain ⟨j, hj, e⟩ := List.getElem_of_mem hm
  have hj' : j < 14 := hj
  exact h j (by omega) (by rw [bt_ofT l14 (by decide) j hj, e])
theorem four14_yes (b k : Nat) (hk : k < 14) (h : bt (ofT l14) k = b) : four14 b = true := by
  unfold four14
  rw [bt_ofT l14 (by decide) k hk] at h
  exact List.contains_iff_mem.2 (h ▸ List.getElem_mem hk)
set_option maxRecDepth 100000 in
set_option maxHeartbeats 2000000 in
theorem fourteen_calls (b : Nat) (w : World) : Calls Tryz.prog 62 #[.int .u8 b] w fun en w' => en = .returned (.bool (four14 b)) ∧ w = w' := by
  have hz : (ofT l14).size = 14 := rfl
  have HN := Lib.hid (four14_no b)
  have HY := Lib.hid (four14_yes b)
  go_enter Tryz.func62, Tryz.ntmps62
  go_wp2_with fail
  have e0 : (⟨#[46, 91, 93, 92, 40, 41, 42, 43, 63, 123, 125, 124, 94, 36]⟩ : ByteArray) = ofT l14 := rfl
  rw [e0]
  clear e0
  generalize ofT l14 = L at *
  go_loop [4] (fun x => ∃ k : Nat, k ≤ 14 ∧ x = .int .i64 k ∧ ∀ j, j < k → bt L j ≠ b) (fun x => 14 - (intOf x).toNat)
  case atStart => exact ⟨0, by omega, rfl, fun j hj => by omega⟩
  case round =>
    obtain ⟨k, hk, rfl, hno⟩ := hrel
    have HO := Lib.hid hno
    clear hno
    by_cases hlt : k < 14
    · have hd : decide (k < 14) = true := by simpa using hlt
      have hb : L[k].toNat = bt L k := (bt_eq L k (by omega)).symm
      by_cases he : bt L k = b
      · have HR := Lib.hid (HY.out k hlt he)
        have q : ((bt L k : Int) == (b : Int)) = true := by rw [beq_iff_eq]; omega
        clear HN HY he
        go_wp2_with fail
        go_ret
        exact ⟨by rw [HR.out] <;> rfl, rfl⟩
      · have q : ((bt L k : Int) == (b : Int)) = false := by rw [beq_eq_false_iff_ne]; omega
        have HE := Lib.hid he
        clear he
        go_wp2_with fail
        go_round
        case rel =>
          refine ⟨k + 1, by omega, by simp, fun j hj => ?_⟩
          by_cases hjk : j = k
          · subst hjk; exact HE.out
          · exact HO.out j (by omega)
        case measure => simp [intOf]; omega
    · have HR := Lib.hid (HN.out k (by omega) HO.out)
      have hd : decide (k < 14) = false := by simpa using hlt
      clear HN HY
      go_wp2_with fail
      go_ret
      exact ⟨by rw [HR.out] <;> rfl, rfl⟩
end Go.Proofs.YtbccojjcdcighaaGreatDoor

/- A great region that draws its order and only reads: that the text's order is one of its orders is told by its operations two by two, with no list of those that have come up. Nothing of the program is used. -/
import Derived.BigQuiet
import Derived.Deep.QuietTactic
namespace Go.Proofs.YtajlcaconnkodaaDoor
open Go

section
variable {P : Program} {md : Region.Mode}
def lexC (md : Region.Mode) (ops : Array Oper) : Nat → List Oper → Bool
  | _, [] => true
  | k, o :: rest => o.after.all (fun e => !Region.binds md e || decide (e.on < k)) && rest.all (fun x => x.after.any (fun e => Region.binds md e && e.on == k) || o.apart ops x) && lexC md ops (k + 1) rest
theorem lexFrom_of {ops : Array Oper} : ∀ (l : List Oper) (k : Nat) (listed : Array Bool), (∀ j, l[j]? = ops[k + j]?) → listed.size = ops.size → (∀ j, j < k → j < ops.size → listed[j]? = some true) → (∀ j, k ≤ j → j < ops.size → listed[j]? = some false) →
    lexC md ops k l = true → Region.lexFrom md ops l.length k listed = true
  | [], k, listed, hl, hz, h1, h2, _ => by
    have hk : ops.size ≤ k := by
      have := (hl 0).symm
      simp only [List.getElem?_nil, Nat.add_zero] at this
      exact Array.getElem?_eq_none_iff.1 this
    show (Region.ready md ops listed).isEmpty = true
    rw [List.isEmpty_iff]
    unfold Region.ready
    rw [List.filter_eq_nil_iff]
    intro i hi
    have hi' := List.mem_range.1 hi
    have := h1 i (by omega) hi'
    simp [Array.getD_eq_getD_getElem?, this]
  | o :: rest, k, listed, hl, hz, h1, h2, hC => by
    have h0 : ops[k]? = some o := by simpa using (hl 0).symm
    have hk : k < ops.size := (Array.getElem?_eq_some_iff.1 h0).1
    rw [lexC, Bool.and_eq_true, Bool.and_eq_true] at hC
    obtain ⟨⟨ha, hp⟩, hC'⟩ := hC
    show ((Region.ready md ops listed).contains k && Region.free md ops listed k && Region.lexFrom md ops rest.length (k + 1) (listed.setIfInBounds k true)) = true
    rw [Bool.and_eq_true, Bool.and_eq_true]
    have hlk := h2 k (Nat.le_refl _) hk
    refine ⟨⟨?_, ?_⟩, ?_⟩
    · rw [List.contains_iff_mem]
      unfold Region.ready
      refine List.mem_filter.2 ⟨List.mem_range.2 hk, ?_⟩
      rw [Bool.and_eq_true]
      refine ⟨by simp [Array.getD_eq_getD_getElem?, hlk], ?_⟩
      rw [h0]
      show (o.after.all fun e => !Region.binds md e || listed.getD e.on false) = true
      rw [Array.all_eq_true'] at ha ⊢
      intro e he
      have := ha e he
      rw [Bool.or_eq_true] at this ⊢
      refine this.imp id fun h => ?_
      have hlt := of_decide_eq_true h
      have := h1 e.on hlt (by omega)
      simp [Array.getD_eq_getD_getElem?, this]
    · unfold Region.free
      rw [h0]
      show ((List.range ops.size).all fun j => j == k || listed.getD j true || match ops[j]? with | some oj => oj.after.any (fun e => Region.binds md e && e.on == k) || o.apart ops oj | none => true) = true
      rw [List.all_eq_true]
      intro j hj
      have hj' := List.mem_range.1 hj
      rcases Nat.lt_trichotomy j k with h | h | h
      · have := h1 j h hj'
        simp [Array.getD_eq_getD_getElem?, this]
      · subst h; simp
      · have hlj := hl (j - k)
        rw [show k + (j - k) = j by omega, show j - k = (j - k - 1) + 1 by omega, List.getElem?_cons_succ] at hlj
        rw [← hlj]
        cases hx : rest[j - k - 1]? with
        | none => simp
        | some x =>
          have := List.all_eq_true.1 hp x (List.mem_of_getElem? hx)
          simp only [this, Bool.or_true]
    · refine lexFrom_of rest (k + 1) _ (fun j => ?_) (by simpa using hz) (fun j hj hjs => ?_) (fun j hj hjs => ?_) hC'
      · have := hl (j + 1)
        rw [List.getElem?_cons_succ] at this
        rw [this, show k + (j + 1) = k + 1 + j by omega]
      · by_cases e : j = k
        · subst e; rw [Array.getElem?_setIfInBounds_self_of_lt (by omega)]
        · rw [Array.getElem?_setIfInBounds_ne (Ne.symm e)]; exact h1 j (by omega) hjs
      · rw [Array.getElem?_setIfInBounds_ne (by omega)]; exact h2 j (by omega) hjs
theorem lexB_of {l : List Oper} (hs : Region.noSelect l.toArray = true) (h : lexC md l.toArray 0 l = true) : Region.lexB md l.toArray = true := by
  unfold Region.lexB
  rw [hs, Bool.true_and]
  have := lexFrom_of (md := md) (ops := l.toArray) l 0 (Array.replicate l.toArray.size false) (fun j => by simp) (by simp) (fun j hj => by omega) (fun j _ hj => by rw [Array.getElem?_replicate, if_pos hj]) h
  simpa using this
end
end Go.Proofs.YtajlcaconnkodaaDoor

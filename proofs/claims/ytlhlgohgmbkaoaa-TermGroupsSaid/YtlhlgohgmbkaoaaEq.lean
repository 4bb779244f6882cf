/- '==' between arrays of whole numbers, of whatever length. -/
import Derived.Test.YtlhlgohgmbkaoaaProg
import Derived.WalkKit
namespace Go.Proofs.Ytlhlgohgmbkaoaa
open Go.RowKit Go

theorem part_cell {P : Program} {e : TypeId} (ha : ∀ w, (isAgg e).run P w = .ok false w) (k : IntKind) (l : List Int) (i : Nat) (hi : i < l.length) (w : World) :
    (part e (l.map (Value.int k)).toArray i).run P w = .ok (.int k l[i]) w := by
  simp only [part, Sem.run_bind, ha, Result.andThen_ok]
  simp [hi]

theorem eq_loop {P : Program} {e : TypeId} {k k' : IntKind} (he : P.underlying e = some (.int k')) (ha : ∀ w, (isAgg e).run P w = .ok false w) (d : Nat) (l l' : List Int) (n : Nat) (hl : l.length = n) (hl' : l'.length = n) (w : World) :
    ∀ m i, i + m = n → (((forIn (List.range' i m) ((none : Option Bool), ()) fun i (_ : Option Bool × Unit) => do
        let a ← part e (l.map (Value.int k)).toArray (i * 1)
        let b ← part e (l'.map (Value.int k)).toArray (i * 1)
        let r ← Op.equalIn (d + 1) e a b
        if (!r) = true then pure (ForInStep.done (some false, ())) else pure (ForInStep.yield (none, ()))) : Sem (Option Bool × Unit)).run P w) = .ok (if l.drop i = l'.drop i then none else some false, ()) w := by
  intro m
  induction m with
  | zero =>
    intro i hi
    rw [List.drop_of_length_le (by omega), List.drop_of_length_le (by omega)]
    simp
  | succ m ih =>
    intro i hi
    rw [List.range'_succ, List.forIn_cons]
    simp only [Sem.run_bind, Nat.mul_one, part_cell ha k l i (by omega), part_cell ha k l' i (by omega), Result.andThen_ok, run_equalIn_int w d e k k' _ _ he]
    have hd : (l.drop i = l'.drop i) ↔ (l[i] = l'[i] ∧ l.drop (i + 1) = l'.drop (i + 1)) := by
      rw [List.drop_eq_getElem_cons (by omega : i < l.length), List.drop_eq_getElem_cons (by omega : i < l'.length), List.cons.injEq]
    by_cases h : l[i] = l'[i]
    · have h2 := ih (i + 1) (by omega)
      have h3 : (l[i] == l'[i]) = true := by rw [h]; simp
      simp only [Nat.mul_one] at h2
      simp only [h3, Bool.not_true, Bool.false_eq_true, if_false, Sem.run_pure, Result.andThen_ok]
      have hd' : (l.drop i = l'.drop i) = (l.drop (i + 1) = l'.drop (i + 1)) := by rw [hd]; simp [h]
      simp only [hd']
      exact h2
    · have h3 : (l[i] == l'[i]) = false := by simp [h]
      have hd' : (l.drop i = l'.drop i) = False := by rw [hd]; simp [h]
      simp only [h3, hd', Bool.not_false, if_true, Sem.run_pure, Result.andThen_ok, if_false]

/-- '==' of two arrays of whole numbers. -/
theorem eqArr {P : Program} {t e : TypeId} {n : Nat} {k k' : IntKind} (ht : P.underlying t = some (.array n e)) (he : P.underlying e = some (.int k')) (hs : ∀ w, (sizeOf e).run P w = .ok 1 w) (ha : ∀ w, (isAgg e).run P w = .ok false w)
    (d : Nat) (l l' : List Int) (hl : l.length = n) (hl' : l'.length = n) (w : World) :
    (Op.equalIn (d + 2) t (.agg (l.map (Value.int k)).toArray) (.agg (l'.map (Value.int k)).toArray)).run P w = .ok (decide (l = l')) w := by
  rw [Op.equalIn]
  simp only [Sem.run_bind, run_underlying ht, Result.andThen_ok, hs]
  have h := eq_loop (k := k) he ha d l l' n hl hl' w n 0 (by omega)
  rw [Std.Legacy.Range.forIn_eq_forIn_range']
  simp only [Std.Legacy.Range.size, Nat.sub_zero, Nat.add_sub_cancel, Nat.div_one]
  rw [h]
  by_cases hll : l = l'
  · simp [hll]
  · simp [hll]
end Go.Proofs.Ytlhlgohgmbkaoaa

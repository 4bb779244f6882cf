/- Where a bracket ends, and where its error is. -/
import Derived.Test.YtkkhibamkdgffaaDoorGt
namespace Go.Proofs.YtkkhibamkdgffaaDoor
open Go.RowKit BS

/-- An error's place lies in the text; where it ends too early, at its end. -/
def PlB (s : ByteArray) (i : Nat) (r : BR) : Prop := r.err ≠ 0 → i < r.place ∧ r.place ≤ s.size ∧ (r.err = 2 → r.place = s.size) ∧ r.err ≠ 1
theorem plB_short (s : ByteArray) (i : Nat) (h : i < s.size) : PlB s i (badR 2 s.size) := fun _ => ⟨h, Nat.le_refl _, fun _ => rfl, by simp [badR]⟩
theorem plB_bad (s : ByteArray) (i e p : Nat) (he : e ≠ 2 ∧ e ≠ 1) (h1 : i < p) (h2 : p ≤ s.size) : PlB s i (badR e p) := fun _ => ⟨h1, h2, fun h => absurd h he.1, he.2⟩
theorem plB_ok (s : ByteArray) (i : Nat) (r : BR) (h : r.err = 0) : PlB s i r := fun he => absurd h he
theorem nameR_pl (s : ByteArray) (fr : Nat) (x : BR) (hx : x.err = 0) (i : Nat) (hi : i < s.size) : ∀ n j, n = s.size - j → i ≤ j → PlB s i (nameR s fr x n j)
  | 0, j, _, _ => plB_short s i hi
  | n + 1, j, hn, hij => by
    rw [nameR]
    refine ite_ok _ (fun _ => ?_) (fun _ => ?_)
    · refine ite_ok _ (fun _ => plB_bad s i 5 _ (by decide) (by omega) (by omega)) (fun _ => ?_)
      refine ite_ok _ (fun _ => plB_short s i hi) (fun _ => ?_)
      refine ite_ok _ (fun _ => plB_bad s i 3 _ (by decide) (by omega) (by omega)) (fun _ => ?_)
      exact plB_ok _ _ _ hx
    · refine ite_ok _ (fun _ => plB_bad s i 5 _ (by decide) (by omega) (by omega)) (fun _ => ?_)
      exact nameR_pl s fr x hx i hi n (j + 1) (by omega) (by omega)
theorem thingR_pl (s : ByteArray) (x : BR) (first : Bool) (hx : x.err = 0) (i : Nat) (hi : i < s.size) (hp : i ≤ x.pos) : PlB s i (thingR s x first) := by
  unfold thingR
  refine ite_ok _ (fun _ => plB_short s i hi) (fun hA => ?_)
  refine ite_ok _ (fun _ => plB_ok _ _ _ hx) (fun _ => ?_)
  refine ite_ok _ (fun _ => plB_short s i hi) (fun hC => ?_)
  refine ite_ok _ (fun _ => nameR_pl s _ x hx i hi _ _ rfl (by omega)) (fun _ => ?_)
  refine ite_ok _ (fun _ => plB_bad s i 3 _ (by decide) (by omega) (by omega)) (fun _ => ?_)
  refine ite_ok _ (fun _ => plB_ok _ _ _ hx) (fun _ => ?_)
  refine ite_ok _ (fun _ => plB_short s i hi) (fun hG => ?_)
  refine ite_ok _ (fun _ => plB_ok _ _ _ hx) (fun _ => ?_)
  refine ite_ok _ (fun _ => plB_bad s i 4 _ (by decide) (by omega) (by omega)) (fun _ => ?_)
  refine ite_ok _ (fun _ => plB_short s i hi) (fun hJ => ?_)
  refine ite_ok _ (fun hK => plB_bad s i 3 _ (by decide) (by omega) ?_) (fun _ => plB_ok _ _ _ hx)
  have := fun h => hJ ⟨hK.1, h⟩
  omega

/-- How the loop ends. -/
theorem loopR_end (s : ByteArray) (i : Nat) (hi : i < s.size) : ∀ (n : Nat) (x : BR) (first : Bool), x.err = 0 → x.fin = false → i ≤ x.pos → x.pos ≤ s.size → s.size ≤ n + x.pos →
    PlB s i (loopR s (n + 1) x first) ∧ ((loopR s (n + 1) x first).err = 0 → i < (loopR s (n + 1) x first).pos ∧ (loopR s (n + 1) x first).pos ≤ s.size ∧ (loopR s (n + 1) x first).fin = true)
  | n, x, first, hx, hf, hix, hp, hn => by
    by_cases he : (thingR s x first).err = 0
    · have hok := thingR_ok s x first he
      rw [loopR_on s n x first hf he]
      by_cases hfin : (thingR s x first).fin = true
      · have e : loopR s n (thingR s x first) false = thingR s x first := by
          cases n with
          | zero => rfl
          | succ m => exact loopR_fin s m _ _ hfin
        rw [e]
        exact ⟨plB_ok _ _ _ he, fun _ => ⟨by omega, hok.2.1, hfin⟩⟩
      · have hfin' : (thingR s x first).fin = false := by simpa using hfin
        by_cases hn0 : n = 0
        · omega
        · obtain ⟨m, rfl⟩ : ∃ m, n = m + 1 := ⟨n - 1, by omega⟩
          exact loopR_end s i hi m _ false he hfin' (by omega) hok.2.1 (by omega)
    · rw [loopR_err s n x first hf he]
      exact ⟨thingR_pl s x first hx i hi hix, fun h => absurd h he⟩

/-- Set, end, error, place. -/
theorem readR_end (s : ByteArray) (at' : Int) :
    (readR s at' = (0, 0, 1, 0) ∧ (at' < 0 ∨ s.size ≤ at'.toNat ∨ bt s at'.toNat ≠ 91)) ∨
    (0 ≤ at' ∧ at'.toNat < s.size ∧ bt s at'.toNat = 91 ∧
      (((readR s at').2.2.1 = 0 ∧ (readR s at').2.2.2 = 0 ∧ at'.toNat < (readR s at').2.1 ∧ (readR s at').2.1 ≤ s.size) ∨
       ((readR s at').2.2.1 ≠ 0 ∧ (readR s at').2.2.1 ≠ 1 ∧ (readR s at').1 = 0 ∧ (readR s at').2.1 = 0 ∧ at'.toNat < (readR s at').2.2.2 ∧ (readR s at').2.2.2 ≤ s.size ∧ ((readR s at').2.2.1 = 2 → (readR s at').2.2.2 = s.size)))) := by
  unfold readR
  by_cases q : at' < 0
  · rw [if_pos q]; exact .inl ⟨rfl, .inl q⟩
  rw [if_neg q]
  by_cases q2 : s.size ≤ at'.toNat ∨ bt s at'.toNat ≠ 91
  · rw [if_pos q2]; exact .inl ⟨rfl, .inr q2⟩
  rw [if_neg q2]
  refine .inr ⟨by omega, by omega, by omega, ?_⟩
  generalize at'.toNat = a at *
  have hlt : a < s.size := by omega
  obtain ⟨p1, p2, p3, _⟩ := startR_pos' s a hlt
  have hst : a ≤ (startR s a).pos := by unfold startR; split <;> simp <;> omega
  have hE := loopR_end s a hlt s.size (startR s a) true p2 p3 hst p1 (by omega)
  generalize loopR s (s.size + 1) (startR s a) true = L at *
  unfold finR
  by_cases he : L.err = 0
  · rw [if_neg (show ¬ L.err ≠ 0 by omega)]
    have := hE.2 he
    exact .inl ⟨rfl, rfl, this.1, this.2.1⟩
  · rw [if_pos (show L.err ≠ 0 from he)]
    have := hE.1 he
    exact .inr ⟨he, this.2.2.2, rfl, rfl, this.1, this.2.1, this.2.2.1⟩
end Go.Proofs.YtkkhibamkdgffaaDoor

/- The document's trees: Kids. -/
import Derived.Test.YtlhlgohgmbkaoaaAd
import Derived.Test.YtlhlgohgmbkaoaaAw
namespace Go.Proofs.Ytlhlgohgmbkaoaa
open Go.RowKit BS

theorem allKids_at (ks : List Nat) (i : Nat) (hi : i < ks.length) (s : List Nat) (hs : stackF [] (ks.take i) = some s) : (allKids 0 [] ks)[i]? = some ((posF i s).take ks[i]) := by
  have e : ks = ks.take i ++ (ks[i] :: ks.drop (i + 1)) := by rw [← List.drop_eq_getElem_cons hi, List.take_append_drop]
  have hl : (allKids 0 [] (ks.take i)).length = i := by rw [allKids_len, List.length_take]; omega
  have ea : allKids 0 [] ks = allKids 0 [] (ks.take i) ++ (posF i s).take ks[i] :: allKids (i + 1) (stepF s ks[i]) (ks.drop (i + 1)) := by
    conv => lhs; rw [e]
    rw [allKids_append _ _ _ _ _ hs, List.length_take, show 0 + min i ks.length = i by omega, allKids]
  rw [ea, List.getElem?_append_right (by omega), hl, Nat.sub_self]
  rfl
/-- The places of a node's kids, from the left. -/
def kidsR (l : List NdN) (i : Int) : List Int := if manyF 0 (l.map NdN.kids) = some 1 ∧ 0 ≤ i ∧ i < (l.length : Int) then ((((allKids 0 [] (ksN l))[i.toNat]?).getD []).reverse).map (fun x : Nat => (x : Int)) else []
end Go.Proofs.Ytlhlgohgmbkaoaa

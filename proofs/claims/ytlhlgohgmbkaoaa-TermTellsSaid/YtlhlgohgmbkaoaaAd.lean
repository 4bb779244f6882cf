/- The document's trees: Sizes. -/
import Derived.Test.YtlhlgohgmbkaoaaAc
import Derived.Test.YtlhlgohgmbkaoaaAx
import Derived.Deep.OwnRows
namespace Go.Proofs.Ytlhlgohgmbkaoaa
open Go.RowKit BS

theorem len_le_sum : ∀ (s : List Nat), (∀ x ∈ s, 0 < x) → s.length ≤ s.sum
  | [], _ => Nat.le_refl _
  | z :: s, h => by
    have h1 := h z (List.mem_cons_self ..)
    have h2 := len_le_sum s (fun x hx => h x (List.mem_cons_of_mem _ hx))
    rw [List.length_cons, List.sum_cons]
    omega
/-- Kids' numbers, and sizes, of a list of nodes. -/
def ksN (l : List NdN) : List Nat := (l.map NdN.kids).map Int.toNat
def sizesR (l : List NdN) : List Int := if manyF 0 (l.map NdN.kids) = some 1 then (sizesF [] (ksN l)).map (fun x : Nat => (x : Int)) else []
end Go.Proofs.Ytlhlgohgmbkaoaa

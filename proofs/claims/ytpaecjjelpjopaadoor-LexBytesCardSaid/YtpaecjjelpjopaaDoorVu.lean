/- The document's words: All. -/
import Derived.Test.YtpaecjjelpjopaaDoorVr
import Derived.Test.YtpaecjjelpjopaaDoorVs
import Derived.Test.YtpaecjjelpjopaaDoorRc
namespace Go.Proofs.YtpaecjjelpjopaaDoor
open Go.RowKit BS

theorem info9w : (Tryd.prog.info? 28).map (fun i => (i.zero, i.size, i.bytes)) = some (some (.agg #[.int .i64 0, .int .i64 0, .int .i64 0, .int .u64 0, .int .u64 0, .int .u64 0, .int .u64 0, .int .i64 0, .int .i64 0]), 9, 72) := by kernel_rfl
def woCells (l : List WN) : List Value := l.flatMap fun w => (woA w).toList
theorem woCells_snoc (l : List WN) (w : WN) : woCells (l ++ [w]) = woCells l ++ (woA w).toList := by simp [woCells]
theorem woA_len (w : WN) : (woA w).toList.length = 9 := rfl
theorem woCells_len (l : List WN) : (woCells l).length = l.length * 9 := by
  induction l with
  | nil => rfl
  | cons w l ih => rw [woCells, List.flatMap_cons, List.length_append, woA_len]; unfold woCells at ih; rw [ih]; simp; omega
theorem woCells_get (l : List WN) (i j : Nat) (h : i < l.length) (hj : j < 9) : (woCells l)[i * 9 + j]? = (woA l[i])[j]? := by
  induction l generalizing i with
  | nil => simp at h
  | cons w l ih =>
    rw [woCells, List.flatMap_cons]
    cases i with
    | zero =>
      rw [List.getElem?_append_left (by rw [woA_len]; omega)]
      simp
    | succ i =>
      rw [List.getElem?_append_right (by rw [woA_len]; omega), woA_len, show (i + 1) * 9 + j - 9 = i * 9 + j by omega]
      have := ih i (by simpa using h)
      unfold woCells at this
      rw [this]
      rfl
theorem Blk.newsL {W : World} {B : Nat} {vs : Array Value} {t : TypeId} (h : Blk W B vs t) : ∀ j u, vs.toList[j]? = some u → W.cell? ((⟨B, 0, none⟩ : Addr).add j) = some u := by
  intro j u hu
  rw [Addr.add_mid, Nat.zero_add, h.cell j]
  simpa using hu
theorem allN_more (s : ByteArray) (k a : Nat) (acc : List WN) (w : WN) (h : a < s.size) (hn : nextA s a = (w, 0, 0)) : allN s (k + 1) a acc = allN s k w.fin (acc ++ [w]) := by
  rw [allN, if_neg (by omega), hn]; rfl
theorem allN_stop (s : ByteArray) (k a : Nat) (acc : List WN) (w : WN) (e p : Nat) (h : a < s.size) (hn : nextA s a = (w, e, p)) (he : e ≠ 0) : allN s (k + 1) a acc = ([], e, p) := by
  rw [allN, if_neg (by omega), hn]; exact if_pos he
theorem allN_end (s : ByteArray) (k : Nat) (acc : List WN) : allN s (k + 1) s.size acc = (acc, 0, 0) := by
  rw [allN, if_pos (Nat.le_refl _)]

end Go.Proofs.YtpaecjjelpjopaaDoor

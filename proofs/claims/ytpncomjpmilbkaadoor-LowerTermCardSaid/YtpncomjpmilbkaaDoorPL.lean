/- Texts put together: Mb Mc Me Mg Mi. -/
import Derived.Test.YtpncomjpmilbkaaDoorPC
import Derived.Test.YtpncomjpmilbkaaDoorPA
/- The developers' counts: digits. -/
namespace Go.Proofs.YtpncomjpmilbkaaDoor
open Go.RowKit

@[reducible] def nuI (v d : Int) : Array Value := #[.int .i64 v, .int .i64 d]
theorem nu_one (v d : Int) : ((nuI v d).all fun x => x.oneCell') = true := by simp [Value.oneCell']
def dgV (r : Nat × Nat × Nat × Nat) : Value := .tuple #[.agg (nuI r.1 r.2.1), .int .i64 r.2.2.1, .int .i64 r.2.2.2]
def InvD (v d : Nat) : Prop := d ≤ 2 ∧ (d = 0 → v = 0) ∧ (d ≤ 1 → v ≤ 9) ∧ v ≤ 99

end Go.Proofs.YtpncomjpmilbkaaDoor

/- The developers' counts: what digits end in; behindComma, inBraces. -/
namespace Go.Proofs.YtpncomjpmilbkaaDoor
open Go.RowKit

theorem invD_start : InvD 0 0 := ⟨by omega, fun _ => rfl, fun _ => by omega, by omega⟩
theorem invD_step (v d b : Nat) (h : InvD v d) (hb : 48 ≤ b ∧ b ≤ 57) (hf : fullD v d = false) : InvD (10 * v + (b - 48)) (d + 1) := by
  obtain ⟨i1, i2, i3, i4⟩ := h
  have h2 : ¬ (d = 2) := by rintro rfl; simp [fullD] at hf
  have hv9 : v ≤ 9 := i3 (by omega)
  refine ⟨by omega, fun h => by omega, fun h => ?_, by omega⟩
  have := i2 (by omega)
  omega
/-- What a number ends in. -/
def EndD (s : ByteArray) (least i : Nat) (r : Nat × Nat × Nat × Nat) : Prop :=
  (r.2.2.2 = 0 ∧ i ≤ r.2.2.1 ∧ r.2.2.1 ≤ s.size ∧ InvD r.1 r.2.1 ∧ (r.2.2.1 = s.size ∨ ¬ (48 ≤ bt s r.2.2.1 ∧ bt s r.2.2.1 ≤ 57)) ∧ (0 < r.2.1 → least ≤ mostD r.1 r.2.1)) ∨
  (∃ p, r = (0, 0, p, 6) ∧ i < p ∧ p ≤ s.size)
theorem digD_end (s : ByteArray) (least a : Nat) : ∀ k i v d, InvD v d → a ≤ i → k + i = s.size → (0 < d → least ≤ mostD v d) → EndD s least a (digD s least k i v d)
  | 0, i, v, d, h, ha, hk, hm => .inl ⟨rfl, ha, by simp only [digD]; omega, h, .inl (by simp only [digD]; omega), hm⟩
  | k + 1, i, v, d, h, ha, hk, hm => by
    rw [digD]
    by_cases hd : 48 ≤ bt s i ∧ bt s i ≤ 57
    · rw [if_pos hd]
      cases hf : fullD v d with
      | true => rw [if_pos rfl]; exact .inr ⟨i + 1, rfl, by omega, by omega⟩
      | false =>
        rw [if_neg (by decide)]
        by_cases hl : mostD (10 * v + (bt s i - 48)) (d + 1) < least
        · rw [if_pos hl]; exact .inr ⟨i + 1, rfl, by omega, by omega⟩
        · rw [if_neg hl]; exact digD_end s least a k (i + 1) _ _ (invD_step v d _ h hd hf) (by omega) (by omega) (fun _ => by omega)
    · rw [if_neg hd]; exact .inl ⟨rfl, ha, by simp only; omega, h, .inr hd, hm⟩
theorem digsD_end (s : ByteArray) (i least : Nat) (hi : i ≤ s.size) : EndD s least i (digsD s i least) := digD_end s least i _ i 0 0 invD_start (Nat.le_refl _) (by omega) (fun h => by omega)

end Go.Proofs.YtpncomjpmilbkaaDoor

/- The developers' counts: read. -/
namespace Go.Proofs.YtpncomjpmilbkaaDoor
open Go.RowKit

end Go.Proofs.YtpncomjpmilbkaaDoor

/- The developers' counts are the document's, and what lacks to them makes counts. -/
namespace Go.Proofs.YtpncomjpmilbkaaDoor
open Go.RowKit

def toN (r : RD) : Nat × Int × Nat × Nat × Nat := if r.err = 0 then (r.n, r.m, r.fin, 0, 0) else (0, 0, 0, r.err, r.fin)
theorem toN_bad (e p : Nat) (h : e ≠ 0) : toN (badC e p) = (0, 0, 0, e, p) := by unfold toN badC; rw [if_neg h]
theorem toN_ok (n : Nat) (m : Int) (p : Nat) : toN (okR n m p) = (n, m, p, 0, 0) := rfl
theorem toN_short (s : ByteArray) (l : List Nat) : toN (shortR s l) = (0, 0, 0, 2, s.size) := rfl

/-- How far a number was read: the first one, or the second one behind n. -/
def stD (sec : Bool) (n v d : Nat) : NS := if sec = true then ⟨n, v, d, true⟩ else ⟨v, 0, d, false⟩
def leD (sec : Bool) (n : Nat) : Nat := if sec = true then n else 0
theorem stepD (sec : Bool) (n v d b : Nat) (h : InvD v d) (hb : 48 ≤ b ∧ b ≤ 57) :
    stepN (stD sec n v d) b = if fullD v d = true then .bad 6 else if mostD (10 * v + (b - 48)) (d + 1) < leD sec n then .bad 6 else .on (stD sec n (10 * v + (b - 48)) (d + 1)) := by
  obtain ⟨i1, i2, i3, i4⟩ := h
  have hf : (fullD v d = true) ↔ (d = 2 ∨ (d = 1 ∧ v = 0)) := by
    unfold fullD
    simp only [Bool.or_eq_true, Bool.and_eq_true, beq_iff_eq, decide_eq_true_eq]
    omega
  have hc : curN (stD sec n v d) = v := by cases sec <;> rfl
  have hh : (stD sec n v d).hv = d := by cases sec <;> rfl
  unfold stepN
  rw [if_pos hb, hc, hh]
  by_cases hF : fullD v d = true
  · rw [if_pos hF, if_pos (hf.1 hF)]
  rw [if_neg hF, if_neg (fun h => hF (hf.2 h))]
  generalize hx : 10 * v + (b - 48) = x
  have hm : mostN (stD sec n v d) x = mostD x (d + 1) := by
    unfold mostN mostD
    rw [hh]
    have hg : (fullD x (d + 1) = true) ↔ (d = 1 ∨ x = 0) := by
      unfold fullD
      simp only [Bool.or_eq_true, Bool.and_eq_true, beq_iff_eq, decide_eq_true_eq]
      omega
    have hnF : ¬ (d = 2 ∨ (d = 1 ∧ v = 0)) := fun h => hF (hf.2 h)
    have hd : d = 0 ∨ d = 1 := by omega
    by_cases hq : fullD x (d + 1) = true
    · rw [if_pos hq]
      have := hg.1 hq
      by_cases hz : d + 1 = 1 ∧ 0 < x
      · omega
      · rw [if_neg hz]
    · rw [if_neg hq]
      have hnq : ¬ (d = 1 ∨ x = 0) := fun h => hq (hg.2 h)
      rw [if_pos ⟨by omega, by omega⟩]
  rw [hm]
  cases sec with
  | true =>
    have e : leD true n = n := rfl
    rw [e]
    by_cases hl : mostD x (d + 1) < n
    · rw [if_pos hl, if_pos ⟨rfl, hl⟩]
    · rw [if_neg hl, if_neg (fun h => hl h.2)]; rfl
  | false =>
    have e : leD false n = 0 := rfl
    rw [e, if_neg (fun h => by cases h.1), if_neg (by omega)]; rfl
/-- Digits are read as the document's. -/
theorem runD (s s' : ByteArray) (sec : Bool) (n : Nat) : ∀ k i v d, InvD v d → k + i = s.size → Agr (digD s (leD sec n) k i v d).2.2.1 s s' → i ≤ s'.size →
    runN s' (s'.size - i) i (stD sec n v d) = if (digD s (leD sec n) k i v d).2.2.2 = 0 then runN s' (s'.size - (digD s (leD sec n) k i v d).2.2.1) (digD s (leD sec n) k i v d).2.2.1 (stD sec n (digD s (leD sec n) k i v d).1 (digD s (leD sec n) k i v d).2.1)
      else (0, 0, 0, 6, (digD s (leD sec n) k i v d).2.2.1)
  | 0, i, v, d, _, _, _, _ => rfl
  | k + 1, i, v, d, h, hk, ha, hi => by
    rw [digD] at ha ⊢
    by_cases hd : 48 ≤ bt s i ∧ bt s i ≤ 57
    · rw [if_pos hd] at ha ⊢
      have key : ∀ j, i + 1 ≤ j → Agr j s s' → bt s' i = bt s i ∧ i < s'.size := fun j hj hA => ⟨(hA.2.2 i (by omega)).symm, by have := hA.2.1; omega⟩
      by_cases hF : fullD v d = true
      · rw [if_pos hF] at ha ⊢
        obtain ⟨e, hlt⟩ := key _ (Nat.le_refl _) ha
        rw [show s'.size - i = (s'.size - (i + 1)) + 1 by omega, runN, e, stepD sec n v d _ h hd, if_pos hF]
        rfl
      · rw [if_neg hF] at ha ⊢
        by_cases hl : mostD (10 * v + (bt s i - 48)) (d + 1) < leD sec n
        · rw [if_pos hl] at ha ⊢
          obtain ⟨e, hlt⟩ := key _ (Nat.le_refl _) ha
          rw [show s'.size - i = (s'.size - (i + 1)) + 1 by omega, runN, e, stepD sec n v d _ h hd, if_neg hF, if_pos hl]
          rfl
        · rw [if_neg hl] at ha ⊢
          have hI := invD_step v d _ h hd (by simpa using hF)
          have hge : i + 1 ≤ (digD s (leD sec n) k (i + 1) (10 * v + (bt s i - 48)) (d + 1)).2.2.1 := by
            rcases digD_end s (leD sec n) (i + 1) k (i + 1) (10 * v + (bt s i - 48)) (d + 1) hI (Nat.le_refl _) (by omega) (fun _ => by omega) with h | ⟨p, h, hp, _⟩
            · exact h.2.1
            · rw [h]; simp only; omega
          obtain ⟨e, hlt⟩ := key _ hge ha
          rw [show s'.size - i = (s'.size - (i + 1)) + 1 by omega, runN, e, stepD sec n v d _ h hd, if_neg hF, if_neg hl]
          exact runD s s' sec n k (i + 1) _ _ hI (by omega) ha (by omega)
    · rw [if_neg hd]
      rfl
theorem agr_self (s : ByteArray) (n : Nat) (h : n ≤ s.size) : Agr n s s := ⟨h, h, fun _ _ => rfl⟩
theorem agr_app (s l : ByteArray) (n : Nat) (h : n ≤ s.size) : Agr n s (s ++ l) := ⟨h, by rw [ByteArray.size_append]; omega, fun i hi => by rw [bt_app, if_pos (by omega)]⟩

/-- A reading is the document's, and what lacks makes counts. -/
def GoodR (s : ByteArray) (i : Nat) (st : NS) (r : RD) : Prop :=
  toN r = runN s (s.size - i) i st ∧ (r.err ≠ 2 → r.lack = []) ∧
  (r.err = 2 → r.fin = s.size ∧ 0 < r.lack.length ∧ r.lack.length ≤ 2 ∧ (∀ x ∈ r.lack, x < 256) ∧ ∃ (n : Nat) (m : Int), runN (s ++ ofT r.lack) ((s ++ ofT r.lack).size - i) i st = (n, m, (s ++ ofT r.lack).size, 0, 0))
theorem bt_in (s : ByteArray) (L : List Nat) (k : Nat) (hL : ∀ x ∈ L, x < 256) (hk : k < L.length) : bt (s ++ ofT L) (s.size + k) = L[k] := by
  rw [bt_app, if_neg (by omega), show s.size + k - s.size = k by omega, bt_ofT L hL k hk]
theorem stepN_close (st : NS) (h1 : st.sec = true) (h2 : st.hv = 0 ∨ st.n ≤ st.m) : ∃ m, stepN st 125 = .fin st.n m := by
  unfold stepN
  rw [if_neg (by omega), if_neg (fun h => by cases h.1), if_neg (fun h => by rw [h1] at h; cases h.2.1)]
  by_cases h0 : st.hv = 0
  · rw [if_pos ⟨rfl, h1, h0⟩]; exact ⟨_, rfl⟩
  · rw [if_neg (fun h => h0 h.2.2), if_pos ⟨rfl, h1, by omega⟩]; exact ⟨_, rfl⟩
theorem run_close (s' : ByteArray) (p : Nat) (st : NS) (x : Nat) (m : Int) (hp : p < s'.size) (hb : bt s' p = 125) (hs : stepN st 125 = .fin x m) : runN s' (s'.size - p) p st = (x, m, p + 1, 0, 0) := by
  rw [show s'.size - p = (s'.size - (p + 1)) + 1 by omega, runN, hb, hs]
theorem run_on (s' : ByteArray) (p b : Nat) (st st' : NS) (hp : p < s'.size) (hb : bt s' p = b) (hs : stepN st b = .on st') : runN s' (s'.size - p) p st = runN s' (s'.size - (p + 1)) (p + 1) st' := by
  rw [show s'.size - p = (s'.size - (p + 1)) + 1 by omega, runN, hb, hs]
theorem run_bad (s' : ByteArray) (p b e : Nat) (st : NS) (hp : p < s'.size) (hb : bt s' p = b) (hs : stepN st b = .bad e) : runN s' (s'.size - p) p st = (0, 0, 0, e, p + 1) := by
  rw [show s'.size - p = (s'.size - (p + 1)) + 1 by omega, runN, hb, hs]
theorem run_end (s' : ByteArray) (p : Nat) (st : NS) (hp : p = s'.size) : runN s' (s'.size - p) p st = (0, 0, 0, 2, s'.size) := by
  subst hp; rw [Nat.sub_self]; rfl

theorem goodComma (s : ByteArray) (i n : Nat) (hi : i ≤ s.size) : GoodR s i ⟨n, 0, 0, true⟩ (commaD s i n) := by
  have hE := digsD_end s i n hi
  have hR : ∀ s', Agr (digsD s i n).2.2.1 s s' → i ≤ s'.size → _ := fun s' => runD s s' true n (s.size - i) i 0 0 invD_start (by omega)
  unfold commaD
  unfold digsD at *
  have el : leD true n = n := rfl
  simp only [el] at hR
  generalize digD s n (s.size - i) i 0 0 = X at *
  obtain ⟨v, d, p, e⟩ := X
  simp only [EndD] at hR hE ⊢
  rw [show stD true n 0 0 = ⟨n, 0, 0, true⟩ from rfl, show stD true n v d = ⟨n, v, d, true⟩ from rfl] at hR
  rcases hE with ⟨rfl, h1, h2, hI, h4, h5⟩ | ⟨q, hq, h1, h2⟩
  · rw [if_neg (fun h => h rfl)]
    have hR0 := hR s (agr_self s p h2) hi
    rw [if_pos rfl] at hR0
    have hRl : ∀ L : List Nat, runN (s ++ ofT L) ((s ++ ofT L).size - i) i ⟨n, 0, 0, true⟩ = _ := fun L => (hR (s ++ ofT L) (agr_app s _ p h2) (by rw [ByteArray.size_append]; omega)).trans (if_pos rfl)
    have hsz : ∀ L : List Nat, (s ++ ofT L).size = s.size + L.length := fun L => by rw [ByteArray.size_append, size_ofT]
    obtain ⟨j1, j2, j3, j4⟩ := hI
    by_cases hp : p = s.size
    · subst hp
      have hN : ∀ L : List Nat, toN (shortR s L) = runN s (s.size - i) i ⟨n, 0, 0, true⟩ := fun L => by rw [hR0, run_end s s.size _ rfl, toN_short]
      cases hl : lessD v d n with
      | true =>
        rw [if_pos ⟨rfl, rfl⟩]
        refine ⟨hN _, fun h => absurd rfl h, fun _ => ⟨rfl, (show 0 < 2 by decide), (show 2 ≤ 2 by decide), (show ∀ x ∈ [57, 125], x < 256 by decide), ?_⟩⟩
        have hl2 : 0 < d ∧ v < n := by simpa [lessD] using hl
        have hm := h5 hl2.1
        have hnf : ¬ fullD v d = true := fun hF => by unfold mostD at hm; rw [if_pos hF] at hm; omega
        have hm2 : n ≤ 10 * v + 9 := by unfold mostD at hm; rw [if_neg hnf] at hm; exact hm
        have hd1 : d = 1 ∧ v ≠ 0 := by
          have : ¬ (d = 2 ∨ (0 < d ∧ v = 0)) := fun h => hnf (by unfold fullD; simpa using h)
          omega
        obtain ⟨rfl, hv0⟩ := hd1
        have hs1 : stepN (⟨n, v, 1, true⟩ : NS) 57 = .on ⟨n, 10 * v + 9, 2, true⟩ := by
          have h := stepD true n v 1 57 ⟨j1, j2, j3, j4⟩ (by omega)
          rw [if_neg hnf, if_neg (by show ¬ (mostD (10 * v + 9) 2 < n); have : mostD (10 * v + 9) 2 = 10 * v + 9 := by simp [mostD, fullD]
                                     omega)] at h
          exact h
        obtain ⟨m, hs2⟩ := stepN_close ⟨n, 10 * v + 9, 2, true⟩ rfl (.inr hm2)
        refine ⟨n, m, ?_⟩
        show runN (s ++ ofT [57, 125]) ((s ++ ofT [57, 125]).size - i) i ⟨n, 0, 0, true⟩ = (n, m, (s ++ ofT [57, 125]).size, 0, 0)
        rw [hRl [57, 125], run_on _ s.size 57 _ _ (by rw [hsz]; simp) (bt_in s [57, 125] 0 (by decide) (by decide)) hs1,
          run_close _ (s.size + 1) _ n m (by rw [hsz]; simp) (bt_in s [57, 125] 1 (by decide) (by decide)) hs2, hsz]
        rfl
      | false =>
        rw [if_neg (fun h => by cases h.2), if_pos rfl]
        refine ⟨hN _, fun h => absurd rfl h, fun _ => ⟨rfl, (show 0 < 1 by decide), (show 1 ≤ 2 by decide), (show ∀ x ∈ [125], x < 256 by decide), ?_⟩⟩
        have hl2 : d = 0 ∨ n ≤ v := by
          have : ¬ (0 < d ∧ v < n) := fun h => by rw [lessD, decide_eq_true h.1, decide_eq_true h.2] at hl; cases hl
          omega
        obtain ⟨m, hs2⟩ := stepN_close ⟨n, v, d, true⟩ rfl hl2
        refine ⟨n, m, ?_⟩
        show runN (s ++ ofT [125]) ((s ++ ofT [125]).size - i) i ⟨n, 0, 0, true⟩ = (n, m, (s ++ ofT [125]).size, 0, 0)
        rw [hRl [125], run_close _ s.size _ n m (by rw [hsz]; simp) (bt_in s [125] 0 (by decide) (by decide)) hs2, hsz]
        rfl
    · have hlt : p < s.size := by omega
      have hnd : ¬ (48 ≤ bt s p ∧ bt s p ≤ 57) := by rcases h4 with h | h
                                                     · exact absurd h hp
                                                     · exact h
      rw [if_neg (fun h => hp h.1), if_neg hp]
      generalize hb : bt s p = b at *
      by_cases h125 : b = 125
      · subst h125
        rw [if_neg (fun h => h rfl)]
        cases hl : lessD v d n with
        | true =>
          rw [if_pos rfl]
          have hl2 : 0 < d ∧ v < n := by simpa [lessD] using hl
          refine ⟨?_, fun _ => rfl, fun h => by cases h⟩
          rw [hR0, toN_bad _ _ (by decide), run_bad s p 125 6 _ hlt hb]
          unfold stepN
          rw [if_neg (by omega), if_neg (fun h => by cases h.1), if_neg (fun h => by cases h.2.1), if_neg (fun h => by have := h.2.2; simp only at this; omega), if_neg (fun h => by have := h.2.2; simp only at this; omega), if_pos ⟨rfl, rfl⟩]
        | false =>
          rw [if_neg (by decide)]
          have hl2 : d = 0 ∨ n ≤ v := by
            have : ¬ (0 < d ∧ v < n) := fun h => by rw [lessD, decide_eq_true h.1, decide_eq_true h.2] at hl; cases hl
            omega
          by_cases h0 : d = 0
          · rw [if_pos h0]
            refine ⟨?_, fun _ => rfl, fun h => by cases h⟩
            rw [hR0, toN_ok, run_close s p _ n (-1) hlt hb]
            unfold stepN
            rw [if_neg (by omega), if_neg (fun h => by cases h.1), if_neg (fun h => by cases h.2.1), if_pos ⟨rfl, rfl, h0⟩]
          · rw [if_neg h0]
            refine ⟨?_, fun _ => rfl, fun h => by cases h⟩
            rw [hR0, toN_ok, run_close s p _ n v hlt hb]
            unfold stepN
            rw [if_neg (by omega), if_neg (fun h => by cases h.1), if_neg (fun h => by cases h.2.1), if_neg (fun h => h0 h.2.2), if_pos ⟨rfl, rfl, by simp only; omega⟩]
      · rw [if_pos h125]
        refine ⟨?_, fun _ => rfl, fun h => by cases h⟩
        rw [hR0, toN_bad _ _ (by decide), run_bad s p b 3 _ hlt hb]
        unfold stepN
        rw [if_neg hnd, if_neg (fun h => by cases h.2.1), if_neg (fun h => h125 h.1), if_neg (fun h => h125 h.1), if_neg (fun h => h125 h.1), if_neg (fun h => h125 h.1)]
  · cases hq
    rw [if_pos (by decide)]
    have hR0 := hR s (agr_self s _ h2) hi
    rw [if_neg (by decide)] at hR0
    exact ⟨by rw [hR0, toN_bad _ _ (by decide)], fun _ => rfl, fun h => by cases h⟩

theorem goodBraces (s : ByteArray) (i : Nat) (hi : i ≤ s.size) : GoodR s i ⟨0, 0, 0, false⟩ (bracesD s i) := by
  have hE := digsD_end s i 0 hi
  have hR : ∀ s', Agr (digsD s i 0).2.2.1 s s' → i ≤ s'.size → _ := fun s' => runD s s' false 0 (s.size - i) i 0 0 invD_start (by omega)
  unfold bracesD
  unfold digsD at *
  have el : leD false 0 = 0 := rfl
  simp only [el] at hR
  generalize digD s 0 (s.size - i) i 0 0 = X at *
  obtain ⟨v, d, p, e⟩ := X
  simp only [EndD] at hR hE ⊢
  rw [show stD false 0 0 0 = ⟨0, 0, 0, false⟩ from rfl, show stD false 0 v d = ⟨v, 0, d, false⟩ from rfl] at hR
  rcases hE with ⟨rfl, h1, h2, hI, h4, h5⟩ | ⟨q, hq, h1, h2⟩
  · rw [if_neg (fun h => h rfl)]
    have hR0 := hR s (agr_self s p h2) hi
    rw [if_pos rfl] at hR0
    have hRl : ∀ L : List Nat, runN (s ++ ofT L) ((s ++ ofT L).size - i) i ⟨0, 0, 0, false⟩ = _ := fun L => (hR (s ++ ofT L) (agr_app s _ p h2) (by rw [ByteArray.size_append]; omega)).trans (if_pos rfl)
    have hsz : ∀ L : List Nat, (s ++ ofT L).size = s.size + L.length := fun L => by rw [ByteArray.size_append, size_ofT]
    obtain ⟨j1, j2, j3, j4⟩ := hI
    have hfin : ∀ hv : Nat, ∀ x : Nat, 0 < hv → stepN (⟨x, 0, hv, false⟩ : NS) 125 = .fin x x := fun hv x h => by
      unfold stepN
      rw [if_neg (by omega), if_neg (fun h => by cases h.1), if_pos ⟨rfl, rfl, h⟩]
    by_cases hp : p = s.size
    · subst hp
      have hN : ∀ L : List Nat, toN (shortR s L) = runN s (s.size - i) i ⟨0, 0, 0, false⟩ := fun L => by rw [hR0, run_end s s.size _ rfl, toN_short]
      by_cases hd : d = 0
      · rw [if_pos ⟨rfl, hd⟩]
        obtain rfl := j2 hd
        subst hd
        refine ⟨hN _, fun h => absurd rfl h, fun _ => ⟨rfl, (show 0 < 2 by decide), (show 2 ≤ 2 by decide), (show ∀ x ∈ [48, 125], x < 256 by decide), 0, 0, ?_⟩⟩
        show runN (s ++ ofT [48, 125]) ((s ++ ofT [48, 125]).size - i) i ⟨0, 0, 0, false⟩ = (0, 0, (s ++ ofT [48, 125]).size, 0, 0)
        have hs1 : stepN (⟨0, 0, 0, false⟩ : NS) 48 = .on ⟨0, 0, 1, false⟩ := rfl
        rw [hRl [48, 125], run_on _ s.size 48 _ _ (by rw [hsz]; simp) (bt_in s [48, 125] 0 (by decide) (by decide)) hs1,
          run_close _ (s.size + 1) _ 0 0 (by rw [hsz]; simp) (bt_in s [48, 125] 1 (by decide) (by decide)) (hfin 1 0 (by decide)), hsz]
        rfl
      · rw [if_neg (fun h => hd h.2), if_pos rfl]
        refine ⟨hN _, fun h => absurd rfl h, fun _ => ⟨rfl, (show 0 < 1 by decide), (show 1 ≤ 2 by decide), (show ∀ x ∈ [125], x < 256 by decide), v, v, ?_⟩⟩
        show runN (s ++ ofT [125]) ((s ++ ofT [125]).size - i) i ⟨0, 0, 0, false⟩ = (v, (v : Int), (s ++ ofT [125]).size, 0, 0)
        rw [hRl [125], run_close _ s.size _ v v (by rw [hsz]; simp) (bt_in s [125] 0 (by decide) (by decide)) (hfin d v (by omega)), hsz]
        rfl
    · have hlt : p < s.size := by omega
      have hnd : ¬ (48 ≤ bt s p ∧ bt s p ≤ 57) := by rcases h4 with h | h
                                                     · exact absurd h hp
                                                     · exact h
      rw [if_neg (fun h => hp h.1), if_neg hp]
      generalize hb : bt s p = b at *
      by_cases h125 : 0 < d ∧ b = 125
      · rw [if_pos h125]
        obtain ⟨hd, rfl⟩ := h125
        refine ⟨?_, fun _ => rfl, fun h => by cases h⟩
        rw [hR0, toN_ok, run_close s p _ v v hlt hb (hfin d v hd)]
      · rw [if_neg h125]
        by_cases h44 : 0 < d ∧ b = 44
        · rw [if_pos h44]
          obtain ⟨hd, rfl⟩ := h44
          have hs1 : stepN (⟨v, 0, d, false⟩ : NS) 44 = .on ⟨v, 0, 0, true⟩ := by
            unfold stepN
            rw [if_neg (by omega), if_pos ⟨rfl, rfl, hd⟩]
          have hG := goodComma s (p + 1) v (by omega)
          obtain ⟨g1, g2, g3⟩ := hG
          refine ⟨by rw [g1, hR0, run_on s p 44 _ _ hlt hb hs1], g2, fun h => ?_⟩
          obtain ⟨a1, a2, a3, a4, n', m', a5⟩ := g3 h
          refine ⟨a1, a2, a3, a4, n', m', ?_⟩
          rw [← a5, hRl, run_on _ p 44 _ _ (by rw [hsz]; omega) (by rw [bt_app, if_pos hlt]; exact hb) hs1]
        · rw [if_neg h44]
          refine ⟨?_, fun _ => rfl, fun h => by cases h⟩
          rw [hR0, toN_bad _ _ (by decide), run_bad s p b 3 _ hlt hb]
          unfold stepN
          rw [if_neg hnd, if_neg (fun h => h44 ⟨h.2.2, h.1⟩), if_neg (fun h => h125 ⟨h.2.2, h.1⟩), if_neg (fun h => by cases h.2.1), if_neg (fun h => by cases h.2.1), if_neg (fun h => by cases h.2)]
  · cases hq
    rw [if_pos (by decide)]
    have hR0 := hR s (agr_self s _ h2) hi
    rw [if_neg (by decide)] at hR0
    exact ⟨by rw [hR0, toN_bad _ _ (by decide)], fun _ => rfl, fun h => by cases h⟩

/-- **Read tells what the document tells.** -/
theorem toN_read (s : ByteArray) (at' : Int) : toN (readD4 s at') = readN s at' := by
  unfold readD4 readN
  by_cases h : at' < 0 ∨ (s.size : Int) ≤ at'
  · rw [if_pos h, if_pos h]; rfl
  rw [if_neg h, if_neg h]
  obtain ⟨a, rfl⟩ : ∃ a : Nat, at' = a := ⟨at'.toNat, by omega⟩
  rw [show (a : Int).toNat = a from rfl]
  unfold signN
  have hlt : a < s.size := by omega
  by_cases h4 : bt s a = 123
  · rw [if_pos h4, if_neg (by omega), if_neg (by omega), if_neg (by omega), if_pos h4]
    exact (goodBraces s (a + 1) (by omega)).1
  rw [if_neg h4]
  by_cases h1 : bt s a = 42
  · rw [if_pos h1, if_pos h1]; rfl
  rw [if_neg h1, if_neg h1]
  by_cases h2 : bt s a = 43
  · rw [if_pos h2, if_pos h2]; rfl
  rw [if_neg h2, if_neg h2]
  by_cases h3 : bt s a = 63
  · rw [if_pos h3, if_pos h3]; rfl
  rw [if_neg h3, if_neg h3, if_neg h4]; rfl
theorem read_lack (s : ByteArray) (at' : Int) : ((readD4 s at').err ≠ 2 → (readD4 s at').lack = []) ∧
    ((readD4 s at').err = 2 → ∃ a : Nat, at' = a ∧ a < s.size ∧ bt s a = 123 ∧ readD4 s at' = bracesD s (a + 1)) := by
  unfold readD4
  by_cases h : at' < 0 ∨ (s.size : Int) ≤ at'
  · rw [if_pos h]; exact ⟨fun _ => rfl, fun h => by cases h⟩
  rw [if_neg h]
  obtain ⟨a, rfl⟩ : ∃ a : Nat, at' = a := ⟨at'.toNat, by omega⟩
  rw [show (a : Int).toNat = a from rfl]
  by_cases h4 : bt s a = 123
  · rw [if_pos h4]
    exact ⟨(goodBraces s (a + 1) (by omega)).2.1, fun _ => ⟨a, rfl, by omega, h4, rfl⟩⟩
  rw [if_neg h4]
  by_cases h1 : bt s a = 42
  · rw [if_pos h1]; exact ⟨fun _ => rfl, fun h => by cases h⟩
  rw [if_neg h1]
  by_cases h2 : bt s a = 43
  · rw [if_pos h2]; exact ⟨fun _ => rfl, fun h => by cases h⟩
  rw [if_neg h2]
  by_cases h3 : bt s a = 63
  · rw [if_pos h3]; exact ⟨fun _ => rfl, fun h => by cases h⟩
  rw [if_neg h3]; exact ⟨fun _ => rfl, fun h => by cases h⟩
theorem toN_err (r : RD) : (toN r).2.2.2.1 = r.err := by
  unfold toN
  by_cases h : r.err = 0
  · rw [if_pos h, h]
  · rw [if_neg h]
/-- **What Lack tells makes counts.** -/
theorem lackN_read (s : ByteArray) (at' : Int) : ((readN s at').2.2.2.1 ≠ 2 → ofT (readD4 s at').lack = eT) ∧ ((readN s at').2.2.2.1 = 2 → 0 < (ofT (readD4 s at').lack).size ∧ (ofT (readD4 s at').lack).size ≤ 200 ∧ ∃ n m, readN (s ++ ofT (readD4 s at').lack) at' = (n, m, (s ++ ofT (readD4 s at').lack).size, 0, 0)) := by
  rw [← toN_read, toN_err]
  obtain ⟨h1, h2⟩ := read_lack s at'
  refine ⟨fun h => by rw [h1 h]; rfl, fun h => ?_⟩
  obtain ⟨a, rfl, ha, hb, hr⟩ := h2 h
  rw [hr] at h ⊢
  obtain ⟨_, _, g⟩ := goodBraces s (a + 1) (by omega)
  obtain ⟨a1, a2, a3, a4, n', m', a5⟩ := g h
  generalize (bracesD s (a + 1)).lack = L at *
  refine ⟨by rw [size_ofT]; exact a2, by rw [size_ofT]; omega, n', m', ?_⟩
  have hz : (s ++ ofT L).size = s.size + L.length := by rw [ByteArray.size_append, size_ofT]
  have hb' : bt (s ++ ofT L) a = 123 := by rw [bt_app, if_pos ha]; exact hb
  unfold readN
  rw [if_neg (by omega), show (a : Int).toNat = a from rfl]
  unfold signN
  rw [if_neg (by omega), if_neg (by omega), if_neg (by omega), if_pos hb']
  exact a5
end Go.Proofs.YtpncomjpmilbkaaDoor

/- The developers' counts: Read, Lack. -/
namespace Go.Proofs.YtpncomjpmilbkaaDoor
open Go.RowKit

@[reducible] def spI (n m : Int) : Array Value := #[.int .i64 n, .int .i64 m]
theorem infoSp : (Tryd.prog.info? 127).map (·.size) = some 2 := by kernel_rfl
end Go.Proofs.YtpncomjpmilbkaaDoor

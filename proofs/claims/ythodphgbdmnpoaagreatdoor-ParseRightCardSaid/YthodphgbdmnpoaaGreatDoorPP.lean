/- Texts put together: Jg Jh Ji. -/
import Derived.Test.YthodphgbdmnpoaaGreatDoorPO
import Derived.Test.YthodphgbdmnpoaaGreatDoorPG
/- The developers' reading: the words one by one, plainly; take, in one. Stage 7. -/
namespace Go.Proofs.YthodphgbdmnpoaaGreatDoor
open Go.RowKit BS

/-- What is read up to the end of the text, or the error and its place. -/
def readM (s : ByteArray) : Nat → Nat → PS → PS × Nat × Nat
  | 0, _, _ => (zPS, 0, 0)
  | k + 1, a, x =>
    if s.size ≤ a then (x, 0, 0)
    else if firstP x (bt s a) ≠ 0 then (zPS, firstP x (bt s a), a + 1)
    else match nextA s a with
      | (w, e, p) => if e ≠ 0 then (zPS, e, p) else readM s k w.fin (takeP x w)
def finM (s : ByteArray) (r : PS × Nat × Nat) : PS × Nat × Nat × Nat :=
  if r.2.1 ≠ 0 then (zPS, 0, r.2.1, r.2.2) else if 1 < r.1.st.length then (zPS, r.1.st.length - 1, 2, s.size) else (rowsP r.1, 0, 0, 0)
theorem readP_D (s : ByteArray) : ∀ k a x, readP s k a x = finM s (readM s k a x)
  | 0, a, x => rfl
  | k + 1, a, x => by
    rw [readP, readM]
    by_cases h0 : s.size ≤ a
    · rw [if_pos h0, if_pos h0]
      unfold finM
      rw [if_neg (show ¬ (0 : Nat) ≠ 0 by decide)]
    rw [if_neg h0, if_neg h0]
    by_cases h1 : firstP x (bt s a) ≠ 0
    · rw [if_pos h1, if_pos h1]
      unfold finM
      rw [if_pos h1]
    rw [if_neg h1, if_neg h1]
    generalize nextA s a = X
    obtain ⟨w, e, p⟩ := X
    simp only
    by_cases h2 : e ≠ 0
    · rw [if_pos h2, if_pos h2]
      unfold finM
      rw [if_pos h2]
    · rw [if_neg h2, if_neg h2]
      exact readP_D s k _ _
theorem readM_end (s : ByteArray) (k : Nat) (x : PS) : readM s (k + 1) s.size x = (x, 0, 0) := by
  rw [readM, if_pos (Nat.le_refl _)]
theorem readM_first (s : ByteArray) (k a : Nat) (x : PS) (e : Nat) (ha : a < s.size) (h : firstP x (bt s a) = e) (he : e ≠ 0) : readM s (k + 1) a x = (zPS, e, a + 1) := by
  rw [readM, if_neg (by omega), h, if_pos he]
theorem readM_err (s : ByteArray) (k a : Nat) (x : PS) (w : WN) (e p : Nat) (ha : a < s.size) (h : firstP x (bt s a) = 0) (hX : nextA s a = (w, e, p)) (he : e ≠ 0) : readM s (k + 1) a x = (zPS, e, p) := by
  rw [readM, if_neg (by omega), h, if_neg (by decide), hX]
  simp only
  rw [if_pos he]
theorem readM_step (s : ByteArray) (k a : Nat) (x : PS) (w : WN) (p : Nat) (ha : a < s.size) (h : firstP x (bt s a) = 0) (hX : nextA s a = (w, 0, p)) : readM s (k + 1) a x = readM s k w.fin (takeP x w) := by
  rw [readM, if_neg (by omega), h, if_neg (by decide), hX]
  simp only
  rw [if_neg (by decide)]

/-- What a word tells when it is taken: an error, or 0. -/
def tkE (x : PS) (w : WN) : Nat := if w.kind = 2 ∧ x.groups = 9 then 9 else if w.kind = 3 ∧ x.st.length = 1 then 8 else 0
/-- Where the byte is not a Rep's that has no piece ahead, the byte tells just what the word does. -/
theorem first_tk (s : ByteArray) (a : Nat) (x : PS) (n r : Nat) (st : List (Nat × Nat)) (w : WN) (hx : x.st = (n, r) :: st) (hX : nextA s a = (w, 0, 0)) (hc : bt s a = 42 ∨ bt s a = 43 ∨ bt s a = 63 ∨ bt s a = 123 → n ≠ 0) : firstP x (bt s a) = tkE x w := by
  obtain ⟨k2, k3, k5⟩ := next_kinds s a w hX
  have hk40 : bt s a = 40 → w.kind = 2 := fun h => by
    unfold nextA at hX
    rw [if_pos h] at hX
    have := (Prod.mk.inj hX).1
    rw [← this]
  have hk41 : bt s a = 41 → w.kind = 3 := fun h => by
    unfold nextA at hX
    rw [if_neg (by omega), if_pos h] at hX
    have := (Prod.mk.inj hX).1
    rw [← this]
  unfold firstP tkE
  rw [hx]
  simp only [List.length_cons]
  by_cases h1 : bt s a = 42 ∨ bt s a = 43 ∨ bt s a = 63 ∨ bt s a = 123
  · rw [if_pos h1, if_neg (hc h1), if_neg (fun h => by have := k2 h.1; omega), if_neg (fun h => by have := k3 h.1; omega)]
  rw [if_neg h1]
  by_cases h2 : bt s a = 41
  · have hk := hk41 h2
    rw [if_pos h2, if_neg (show ¬ (w.kind = 2 ∧ x.groups = 9) from fun h => by omega)]
    by_cases h3 : st = []
    · rw [if_pos h3, if_pos ⟨hk, by rw [h3]; rfl⟩]
    · rw [if_neg h3, if_neg (fun h => h3 (List.eq_nil_of_length_eq_zero (by omega)))]
  rw [if_neg h2]
  by_cases h3 : bt s a = 40
  · have hk := hk40 h3
    rw [if_pos h3]
    by_cases h4 : x.groups = 9
    · rw [if_pos h4, if_pos ⟨hk, h4⟩]
    · rw [if_neg h4, if_neg (fun h => h4 h.2), if_neg (show ¬ (w.kind = 3 ∧ st.length + 1 = 1) from fun h => by omega)]
  · rw [if_neg h3, if_neg (fun h => h3 (k2 h.1)), if_neg (fun h => h2 (k3 h.1))]
theorem first_err (s : ByteArray) (a : Nat) (x : PS) (n r : Nat) (st : List (Nat × Nat)) (w : WN) (e p : Nat) (hx : x.st = (n, r) :: st) (hX : nextA s a = (w, e, p)) (he : e ≠ 0) (hc : bt s a = 42 ∨ bt s a = 43 ∨ bt s a = 63 ∨ bt s a = 123 → n ≠ 0) : firstP x (bt s a) = 0 := by
  have h40 : bt s a ≠ 40 := fun h => by
    unfold nextA at hX
    rw [if_pos h] at hX
    exact he (Prod.mk.inj (Prod.mk.inj hX).2).1.symm
  have h41 : bt s a ≠ 41 := fun h => by
    unfold nextA at hX
    rw [if_neg (by omega), if_pos h] at hX
    exact he (Prod.mk.inj (Prod.mk.inj hX).2).1.symm
  unfold firstP
  rw [hx]
  simp only
  by_cases h1 : bt s a = 42 ∨ bt s a = 43 ∨ bt s a = 63 ∨ bt s a = 123
  · rw [if_pos h1, if_neg (hc h1)]
  · rw [if_neg h1, if_neg h41, if_neg h40]

/-- How great it all may be. -/
def Bnd (a : Nat) (x : PS) : Prop := x.l.length ≤ 3 * a ∧ x.st.length ≤ a + 1 ∧ ∀ p ∈ x.st, p.1 ≤ a ∧ p.2 ≤ a
theorem sPS_bnd : Bnd 0 sPS := ⟨by decide, by decide, fun p hp => by simp [sPS] at hp; subst hp; exact ⟨Nat.le_refl _, Nat.le_refl _⟩⟩
theorem take_bnd (a b : Nat) (x : PS) (w : WN) (h : Bnd a x) (hb : a < b) : Bnd b (takeP x w) := by
  obtain ⟨l, st, g⟩ := x
  obtain ⟨h1, h2, h3⟩ := h
  simp only at h1 h2 h3
  have bump : ∀ (st : List (Nat × Nat)), (∀ p ∈ st, p.1 ≤ a ∧ p.2 ≤ a) → ∀ p ∈ bumpP st, p.1 ≤ b ∧ p.2 ≤ b := by
    intro st h3 p hp
    obtain _ | ⟨⟨n, r⟩, st⟩ := st
    · cases hp
    · rcases List.mem_cons.1 hp with rfl | hp
      · have := h3 (n, r) (List.mem_cons_self ..); exact ⟨by simp only at this ⊢; omega, by simp only at this ⊢; omega⟩
      · have := h3 p (List.mem_cons_of_mem _ hp); exact ⟨by omega, by omega⟩
  have blen : ∀ (st : List (Nat × Nat)), (bumpP st).length = st.length := fun st => by
    obtain _ | ⟨⟨n, r⟩, st⟩ := st
    · rfl
    · rfl
  have more : ∀ p ∈ st, p.1 ≤ b ∧ p.2 ≤ b := fun p hp => by have := h3 p hp; exact ⟨by omega, by omega⟩
  unfold takeP
  by_cases c1 : w.kind = 1
  · rw [if_pos c1]
    exact ⟨by simp; omega, by simp only [blen]; omega, bump st h3⟩
  rw [if_neg c1]
  by_cases c2 : w.kind = 2
  · rw [if_pos c2]
    refine ⟨by simp only; omega, by simp only [List.length_cons]; omega, fun p hp => ?_⟩
    rcases List.mem_cons.1 hp with rfl | hp
    · exact ⟨Nat.zero_le _, Nat.zero_le _⟩
    · exact more p hp
  rw [if_neg c2]
  by_cases c3 : w.kind = 3
  · rw [if_pos c3]
    obtain _ | ⟨⟨n, r⟩, st⟩ := st
    · exact ⟨by simp [rowsP]; omega, by simp [rowsP, bumpP], fun p hp => by simp [rowsP, bumpP] at hp⟩
    · have e1 := rowT_len n
      have e2 := rowsT_len (r + 1)
      simp only [List.length_cons] at h2
      refine ⟨?_, ?_, ?_⟩
      · show (l ++ rowT n ++ rowsT (r + 1) ++ [ndG]).length ≤ _
        rw [List.length_append, List.length_append, List.length_append, List.length_singleton]; omega
      · show (bumpP st).length ≤ _
        rw [blen]; omega
      · exact bump st (fun p hp => h3 p (List.mem_cons_of_mem _ hp))
  rw [if_neg c3]
  by_cases c4 : w.kind = 4
  · rw [if_pos c4]
    obtain _ | ⟨⟨n, r⟩, st⟩ := st
    · exact ⟨by simp only [rowP]; omega, by simp [rowP], fun p hp => by simp [rowP] at hp⟩
    · have e1 := rowT_len n
      refine ⟨?_, ?_, fun p hp => ?_⟩
      · show (l ++ rowT n).length ≤ _
        rw [List.length_append]; omega
      · show st.length + 1 ≤ _
        simp only [List.length_cons] at h2; omega
      · rcases List.mem_cons.1 hp with rfl | hp
        · have := (h3 (n, r) (List.mem_cons_self ..)).2; exact ⟨Nat.zero_le _, by simp only at this ⊢; omega⟩
        · exact more p (List.mem_cons_of_mem _ hp)
  rw [if_neg c4]
  by_cases c5 : w.kind = 5
  · rw [if_pos c5]
    exact ⟨by simp; omega, by simp only; omega, more⟩
  · rw [if_neg c5]
    exact ⟨by simp only; omega, by simp only; omega, more⟩
/-- take, whatever the word is. -/
theorem ptake_calls {base R : Nat} {s : ByteArray} (hs : s.size ≤ 1000000) {a c : Nat} (x : PS) {vN vL : Value} {w0 : World} (wd' : WN) (hok : OkW wd') (hb : Bnd a x) (hne : x.st ≠ []) (ha : a ≤ s.size) (hg : x.groups ≤ 9) (w : World) (h : RdV base R s c x vN vL w0 w) :
    Calls Tryz.prog 19 #[.pointer (some ⟨R, 0, none⟩), .agg (woA wd')] w fun e w' => e = .returned (.int .i64 (tkE x wd')) ∧ (tkE x wd' = 0 → ∃ vN' vL', RdV base R s c (takeP x wd') vN' vL' w0 w') ∧ (tkE x wd' ≠ 0 → Below w.heap.size w w') := by
  obtain ⟨l, st, gr⟩ := x
  obtain _ | ⟨⟨n, r⟩, st⟩ := st
  · exact absurd rfl hne
  obtain ⟨b1, b2, b3⟩ := hb
  have b4 := b3 (n, r) (List.mem_cons_self ..)
  simp only [List.length_cons] at b1 b2 b4 hg
  obtain ⟨k, p, f, t, n', m'⟩ := wd'
  have hk := okW_kind _ hok
  simp only at hk
  rcases hk with rfl | rfl | rfl | rfl | rfl
  · have e0 : tkE ⟨l, (n, r) :: st, gr⟩ ⟨1, p, f, t, n', m'⟩ = 0 := by unfold tkE; simp
    rw [e0]
    refine (ptake1 p f t n' m' w h (by omega) (by omega) (by omega)).mono ?_
    rintro e w' ⟨rfl, vN', hr⟩
    exact ⟨rfl, fun _ => ⟨_, _, hr⟩, fun h => absurd rfl h⟩
  · by_cases h9 : gr = 9
    · subst h9
      have e0 : tkE ⟨l, (n, r) :: st, 9⟩ ⟨2, p, f, t, n', m'⟩ = 9 := by unfold tkE; simp
      rw [e0]
      refine (ptake2_9 p f t n' m' w h).mono ?_
      rintro e w' ⟨rfl, hbw⟩
      exact ⟨rfl, (fun h => by cases h), fun _ => hbw⟩
    · have e0 : tkE ⟨l, (n, r) :: st, gr⟩ ⟨2, p, f, t, n', m'⟩ = 0 := by unfold tkE; simp [h9]
      rw [e0]
      refine (ptake2 p f t n' m' w h (by omega) (by omega)).mono ?_
      rintro e w' ⟨rfl, vL', hr⟩
      exact ⟨rfl, fun _ => ⟨_, _, hr⟩, fun h => absurd rfl h⟩
  · obtain _ | ⟨⟨n2, r2⟩, st⟩ := st
    · have e0 : tkE ⟨l, [(n, r)], gr⟩ ⟨3, p, f, t, n', m'⟩ = 8 := by unfold tkE; simp
      rw [e0]
      refine (ptake3_8 p f t n' m' w h).mono ?_
      rintro e w' ⟨rfl, hbw⟩
      exact ⟨rfl, (fun h => by cases h), fun _ => hbw⟩
    · have e0 : tkE ⟨l, (n, r) :: (n2, r2) :: st, gr⟩ ⟨3, p, f, t, n', m'⟩ = 0 := by unfold tkE; simp
      have b5 := b3 (n2, r2) (by simp)
      simp only [List.length_cons] at b2 b5
      rw [e0]
      refine (ptake3 p f t n' m' w h (by omega) (by omega) (by omega) (by omega) (by omega)).mono ?_
      rintro e w' ⟨rfl, vN', vL', hr⟩
      exact ⟨rfl, fun _ => ⟨_, _, hr⟩, fun h => absurd rfl h⟩
  · have e0 : tkE ⟨l, (n, r) :: st, gr⟩ ⟨4, p, f, t, n', m'⟩ = 0 := by unfold tkE; simp
    rw [e0]
    refine (ptake4 p f t n' m' w h (by omega) (by omega) (by omega) (by omega)).mono ?_
    rintro e w' ⟨rfl, vN', hr⟩
    exact ⟨rfl, fun _ => ⟨_, _, hr⟩, fun h => absurd rfl h⟩
  · have e0 : tkE ⟨l, (n, r) :: st, gr⟩ ⟨5, p, f, t, n', m'⟩ = 0 := by unfold tkE; simp
    rw [e0]
    refine (ptake5 p f t n' m' w h (by omega)).mono ?_
    rintro e w' ⟨rfl, vN', hr⟩
    exact ⟨rfl, fun _ => ⟨_, _, hr⟩, fun h => absurd rfl h⟩
end Go.Proofs.YthodphgbdmnpoaaGreatDoor

/- The developers' reading: read. Stage 7. -/
namespace Go.Proofs.YthodphgbdmnpoaaGreatDoor
open Go.RowKit BS

theorem info40 : (Tryz.prog.info? 46).map (·.size) = some 2 := by kernel_rfl
/-- Where the reading begins. -/
theorem start_rd (s : ByteArray) (w : World) : RdV w.heap.size (w.heap.size + 1) s 0 sPS (.slice none 0 0) (.slice (some ⟨w.heap.size, 0, none⟩) 1 1) w ((w.alloc (.cells #[.int .i64 0, .int .i64 0] 60)).alloc (.cells (preA s 0 (.slice none 0 0) (.slice (some ⟨w.heap.size, 0, none⟩) 1 1) 0) 49)) := by
  have h1 := Blk.new w #[.int .i64 0, .int .i64 0] 60
  have h2 := Blk.new (w.alloc (.cells #[.int .i64 0, .int .i64 0] 60)) (preA s 0 (.slice none 0 0) (.slice (some ⟨w.heap.size, 0, none⟩) 1 1) 0) 49
  rw [World.size_alloc] at h2
  refine ⟨h2, World.ownsRow_nil _ _ _ _, ⟨rfl, .inr ⟨w.heap.size, 1, _, rfl, Nat.le_refl _, h1.alloc _, Nat.le_refl _, by decide, rfl, rfl⟩⟩, by simp [Value.ownBlock], by simp [Value.ownBlock], .inl rfl, by omega, by go_grown⟩
/-- What read tells. -/
def ReadQ (s : ByteArray) (w : World) (RES : PS × Nat × Nat) (e : Ending) (w' : World) : Prop :=
  (RES.2.1 ≠ 0 ∧ e = .returned (.tuple #[.pointer none, .int .i64 RES.2.1, .int .i64 RES.2.2]) ∧ Below w.heap.size w w') ∨
  (RES.2.1 = 0 ∧ ∃ R a vN vL, e = .returned (.tuple #[.pointer (some ⟨R, 0, none⟩), .int .i64 0, .int .i64 0]) ∧ RdV w.heap.size R s a RES.1 vN vL w w' ∧ Bnd s.size RES.1 ∧ RES.1.st ≠ [])
theorem bnd_le {a b : Nat} {x : PS} (h : Bnd a x) (hb : a ≤ b) : Bnd b x := ⟨by have := h.1; omega, by have := h.2.1; omega, fun p hp => by have := h.2.2 p hp; exact ⟨by omega, by omega⟩⟩
set_option maxRecDepth 100000 in
set_option maxHeartbeats 32000000 in
theorem pread_calls (s : ByteArray) (hs : s.size ≤ 1000000) (w : World) :
    Calls Tryz.prog 9 #[.string s] w fun e w' => ReadQ s w (readM s (s.size + 1) 0 sPS) e w' := by
  have HG := Lib.hid (start_rd s w)
  have hR : readM s (s.size + 1) 0 sPS = readM s (s.size + 1) 0 sPS := rfl
  generalize hRES : readM s (s.size + 1) 0 sPS = RES at *
  have HRES := Lib.hid hRES
  clear hRES hR
  go_enter Tryz.func9, Tryz.ntmps9
  go_upto_region 2 with fail
  have e0 : (w.alloc (.cells #[.int .i64 0, .int .i64 0] 60)).alloc (.cells #[.string s, .int .i64 0, .slice none 0 0, .slice (some ⟨w.heap.size, 0, none⟩) 1 1, .int .i64 0] 49) = (w.alloc (.cells #[.int .i64 0, .int .i64 0] 60)).alloc (.cells (preA s 0 (.slice none 0 0) (.slice (some ⟨w.heap.size, 0, none⟩) 1 1) 0) 49) := rfl
  try rw [e0]
  clear e0
  generalize (w.alloc (.cells #[.int .i64 0, .int .i64 0] 60)).alloc (.cells (preA s 0 (.slice none 0 0) (.slice (some ⟨w.heap.size, 0, none⟩) 1 1) 0) 49) = w1 at *
  go_loopw [9] (fun _ wr => ∃ (k a : Nat) (x : PS) (vN vL : Value), a ≤ s.size ∧ s.size < k + a ∧ readM s k a x = RES ∧ PInv x ∧ Bnd a x ∧ RdV w.heap.size (w.heap.size + 1) s a x vN vL w wr) (fun _ wr => s.size - (intOf ((wr.cell? ⟨w.heap.size + 1, 1, none⟩).getD undef)).toNat)
  case atStart => exact ⟨s.size + 1, 0, sPS, _, _, Nat.zero_le _, by omega, HRES.out, sPS_inv, sPS_bnd, HG.out⟩
  case round =>
    clear HG HRES
    obtain ⟨k, a, x, vN, vL, ha, hk, hres, hpi, hbd, hr⟩ := hrel
    obtain ⟨k, rfl⟩ : ∃ m, k = m + 1 := ⟨k - 1, by omega⟩
    have c1 := hr.c.2.1
    have HC1 := Lib.hid c1
    by_cases hlt : a < s.size
    · obtain ⟨l, st, gr⟩ := x
      obtain _ | ⟨⟨n, r⟩, st⟩ := st
      · exact absurd rfl hpi.1
      have hsl := hbd.2.1
      simp only [List.length_cons] at hsl
      obtain ⟨gL, capL, rfl, _⟩ := hr.top rfl
      have c3 : wr.cell? ⟨w.heap.size + 1, 3, none⟩ = some (.slice (some ⟨gL, 0, none⟩) (st.length + 1 : Nat) capL) := hr.c.2.2.2.1
      have HLV := Lib.hid (fun W (h3 : W.cell? ⟨w.heap.size + 1, 3, none⟩ = some (.slice (some ⟨gL, 0, none⟩) (st.length + 1 : Nat) capL)) => plevel_calls (w.heap.size + 1) gL st.length capL W h3 (by omega))
      have HR := Lib.hid hr
      have HB := Lib.hid hr.bel
      clear hr hsl
      have hb0 : s[a].toNat = bt s a := (bt_eq s a hlt).symm
      have hi := ib_eq [42, 43, 63, 123] (by decide) (bt s a) (bt_lt s a)
      have HI : Hid (∀ w, Calls Tryz.prog 16 #[.string ⟨#[42, 43, 63, 123]⟩, .int .u8 (bt s a)] w fun e w' => e = .returned (.int .i64 (Lib.indexByte (ofT [42, 43, 63, 123]).data.toList ((bt s a : Int)).toNat.toUInt8)) ∧ w = w') := Lib.hid (ib_calls (ofT [42, 43, 63, 123]) (bt s a))
      generalize Lib.indexByte (ofT [42, 43, 63, 123]).data.toList ((bt s a : Int)).toNat.toUInt8 = ix at *
      by_cases hc : bt s a = 42 ∨ bt s a = 43 ∨ bt s a = 63 ∨ bt s a = 123
      · have hix : decide (0 ≤ ix) = true := by rw [hi]; rcases hc with h | h | h | h <;> rw [h] <;> rfl
        clear hi
        by_cases hn : n = 0
        · subst hn
          rw [readM_first s k a _ 7 hlt (by unfold firstP; simp only; rw [if_pos hc]; simp) (by decide)] at hres
          subst hres
          clear hpi hbd hc
          go_wp2_with (go_at_call 16; refine (HI.out _).mono ?_; rintro e w' ⟨rfl, rfl⟩)
          refine (HLV.out _ c3).mono ?_
          rintro e w1 ⟨rfl, hb1⟩
          have hr1 := HR.out.below hb1
          have c1' := hr1.c.2.1
          clear HR c1 c3 hb1 HB HLV
          obtain ⟨_, _, ee, _, _, _, _, t0, t1, f0, f1, _⟩ := hr1.top rfl
          cases ee
          have HB := Lib.hid hr1.bel
          clear hr1
          go_wp2_with fail
          go_quiet (fail)
          go_wp2_with fail
          exact bodyPost_ret (v := .tuple #[.pointer none, .int .i64 7, .int .i64 ((a : Int) + 1)]) (by simp [results, Tryz.results9, go_sem] <;> rfl) rfl (.inl ⟨(show (7 : Nat) ≠ 0 by decide), rfl, below_drN HB.out _⟩)
        · have qn : ((n : Int) == 0) = false := by rw [beq_eq_false_iff_ne]; omega
          obtain ⟨vX, hvX⟩ : ∃ X, nextA s a = X := ⟨_, rfl⟩
          obtain ⟨⟨xk, xp, xf, xt, xn, xm⟩, er, pl⟩ := vX
          have hE := nextA_end s a hlt
          have hcc : bt s a = 42 ∨ bt s a = 43 ∨ bt s a = 63 ∨ bt s a = 123 → n ≠ 0 := fun _ => hn
          rw [hvX] at hE
          rcases hE with ⟨h1, h2, h3, h4, h5, h6⟩ | ⟨h1, _⟩
          · simp only at h1 h2 h4 h5 h6
            subst h1
            subst h2
            subst h4
            have hNX := fun W (h : RdV w.heap.size (w.heap.size + 1) s xp ⟨l, (n, r) :: st, gr⟩ vN (.slice (some ⟨gL, 0, none⟩) (st.length + 1 : Nat) capL) w W) => pnext_calls hs xk xp xf xt xn xm 0 0 (by rw [← (next_in s xp hlt).1]; exact hvX) W h
            simp only [if_true] at hNX
            have hft := first_tk s xp ⟨l, (n, r) :: st, gr⟩ n r st ⟨xk, xp, xf, xt, xn, xm⟩ rfl hvX hcc
            have hTK := fun W (h : RdV w.heap.size (w.heap.size + 1) s xf ⟨l, (n, r) :: st, gr⟩ vN (.slice (some ⟨gL, 0, none⟩) (st.length + 1 : Nat) capL) w W) => ptake_calls hs ⟨l, (n, r) :: st, gr⟩ ⟨xk, xp, xf, xt, xn, xm⟩ h3 hbd (by simp) ha hpi.2.2.2 W h
            have hbd2 := take_bnd xp xf ⟨l, (n, r) :: st, gr⟩ ⟨xk, xp, xf, xt, xn, xm⟩ hbd h5
            by_cases htk : tkE ⟨l, (n, r) :: st, gr⟩ ⟨xk, xp, xf, xt, xn, xm⟩ = 0
            · rw [htk] at hft
              have hpi2 := take_inv s xp ⟨l, (n, r) :: st, gr⟩ ⟨xk, xp, xf, xt, xn, xm⟩ hpi hft h3 (next_kinds s xp _ hvX).1 (next_kinds s xp _ hvX).2.1 (next_kinds s xp _ hvX).2.2
              rw [readM_step s k xp _ ⟨xk, xp, xf, xt, xn, xm⟩ 0 hlt hft hvX] at hres
              rw [htk] at hTK
              have HNX : Hid (∀ W, RdV w.heap.size (w.heap.size + 1) s xp ⟨l, (n, r) :: st, gr⟩ vN (.slice (some ⟨gL, 0, none⟩) (st.length + 1 : Nat) capL) w W → Calls Tryz.prog 18 #[.pointer (some ⟨w.heap.size + 1, 0, none⟩)] W fun e w' => e = .returned (.tuple #[.agg (woI xk xp xf xt xn xm), .int .i64 0, .int .i64 0]) ∧ RdV w.heap.size (w.heap.size + 1) s xf ⟨l, (n, r) :: st, gr⟩ vN (.slice (some ⟨gL, 0, none⟩) (st.length + 1 : Nat) capL) w w') := Lib.hid hNX
              have HTK : Hid (∀ W, RdV w.heap.size (w.heap.size + 1) s xf ⟨l, (n, r) :: st, gr⟩ vN (.slice (some ⟨gL, 0, none⟩) (st.length + 1 : Nat) capL) w W → Calls Tryz.prog 19 #[.pointer (some ⟨w.heap.size + 1, 0, none⟩), .agg (woI xk xp xf xt xn xm)] W fun e w' => e = .returned (.int .i64 0) ∧ (0 = 0 → ∃ vN' vL', RdV w.heap.size (w.heap.size + 1) s xf (takeP ⟨l, (n, r) :: st, gr⟩ ⟨xk, xp, xf, xt, xn, xm⟩) vN' vL' w w') ∧ ((0 : Nat) ≠ 0 → Below W.heap.size W w')) := Lib.hid hTK
              have HF := Lib.hid (show _ ∧ _ ∧ _ ∧ _ ∧ _ from ⟨hres, hpi2, hbd2, h5, h6⟩)
              clear hres hpi2 hbd2 h5 h6 hNX hTK hft htk h3 hvX hcc hpi hbd
              go_wp2_with (go_at_call 16; refine (HI.out _).mono ?_; rintro e w' ⟨rfl, rfl⟩)
              refine (HLV.out _ c3).mono ?_
              rintro e w1 ⟨rfl, hb1⟩
              have hr1 := HR.out.below hb1
              clear HR c1 c3 hb1 HB HLV
              obtain ⟨_, _, ee, _, _, _, _, t0, t1, f0, f1, _⟩ := hr1.top rfl
              cases ee
              have HR := Lib.hid hr1
              have HB := Lib.hid hr1.bel
              clear hr1
              go_wp2_with fail
              refine (HNX.out _ HR.out).mono ?_
              rintro e w2 ⟨rfl, hr2⟩
              clear HNX HR HB
              go_upto_region 6 with fail
              have HW := Lib.hid (Blk.new w2 (woI xk xp xf xt xn xm) 37)
              have HR := Lib.hid (hr2.alloc (.cells (woI xk xp xf xt xn xm) 37))
              clear hr2
              generalize w2.alloc (.cells (woI xk xp xf xt xn xm) 37) = w3 at *
              generalize w2.heap.size = gW at *
              have g0 := HW.out.cell 0; have g1 := HW.out.cell 1; have g2 := HW.out.cell 2; have g3 := HW.out.cell 3; have g4 := HW.out.cell 4; have g5 := HW.out.cell 5; have g6 := HW.out.cell 6; have g7 := HW.out.cell 7; have g8 := HW.out.cell 8
              simp only [List.getElem?_toArray, List.getElem?_cons_zero, List.getElem?_cons_succ] at g0 g1 g2 g3 g4 g5 g6 g7 g8
              go_wp2_with fail
              refine (HTK.out _ HR.out).mono ?_
              rintro e w4 ⟨rfl, hr4, _⟩
              obtain ⟨vN2, vL2, hr4⟩ := hr4 trivial
              clear HTK HR HW g0 g1 g2 g3 g4 g5 g6 g7 g8
              have HR := Lib.hid hr4
              have cA := hr4.c.2.1
              clear hr4
              go_wp2_with fail
              go_roundw
              case rel =>
                obtain ⟨q1, q2, q3, q4, q5⟩ := HF.out
                exact ⟨k, xf, _, vN2, vL2, q5, by omega, q1, q2, q3, HR.out⟩
              case measure =>
                obtain ⟨_, _, _, q4, _⟩ := HF.out
                rw [cA, HC1.out]
                simp [intOf]; omega
            · have hfn : firstP ⟨l, (n, r) :: st, gr⟩ (bt s xp) ≠ 0 := by rw [hft]; exact htk
              rw [readM_first s k xp _ _ hlt hft htk] at hres
              have qe : ((tkE ⟨l, (n, r) :: st, gr⟩ ⟨xk, xp, xf, xt, xn, xm⟩ : Int) != 0) = true := by rw [bne_iff_ne]; omega
              have HNE := Lib.hid htk
              generalize tkE ⟨l, (n, r) :: st, gr⟩ ⟨xk, xp, xf, xt, xn, xm⟩ = TE at *
              have HNX : Hid (∀ W, RdV w.heap.size (w.heap.size + 1) s xp ⟨l, (n, r) :: st, gr⟩ vN (.slice (some ⟨gL, 0, none⟩) (st.length + 1 : Nat) capL) w W → Calls Tryz.prog 18 #[.pointer (some ⟨w.heap.size + 1, 0, none⟩)] W fun e w' => e = .returned (.tuple #[.agg (woI xk xp xf xt xn xm), .int .i64 0, .int .i64 0]) ∧ RdV w.heap.size (w.heap.size + 1) s xf ⟨l, (n, r) :: st, gr⟩ vN (.slice (some ⟨gL, 0, none⟩) (st.length + 1 : Nat) capL) w w') := Lib.hid hNX
              have HTK : Hid (∀ W, RdV w.heap.size (w.heap.size + 1) s xf ⟨l, (n, r) :: st, gr⟩ vN (.slice (some ⟨gL, 0, none⟩) (st.length + 1 : Nat) capL) w W → Calls Tryz.prog 19 #[.pointer (some ⟨w.heap.size + 1, 0, none⟩), .agg (woI xk xp xf xt xn xm)] W fun e w' => e = .returned (.int .i64 TE) ∧ (TE = 0 → ∃ vN' vL', RdV w.heap.size (w.heap.size + 1) s xf (takeP ⟨l, (n, r) :: st, gr⟩ ⟨xk, xp, xf, xt, xn, xm⟩) vN' vL' w w') ∧ (TE ≠ 0 → Below W.heap.size W w')) := Lib.hid hTK
              have HRS := Lib.hid hres
              clear hres hbd2 h5 h6 hNX hTK hft htk h3 hvX hcc hpi hbd hfn
              go_wp2_with (go_at_call 16; refine (HI.out _).mono ?_; rintro e w' ⟨rfl, rfl⟩)
              refine (HLV.out _ c3).mono ?_
              rintro e w1 ⟨rfl, hb1⟩
              have hr1 := HR.out.below hb1
              clear HR c1 c3 hb1 HB HLV
              obtain ⟨_, _, ee, _, _, _, _, t0, t1, f0, f1, _⟩ := hr1.top rfl
              cases ee
              have HR := Lib.hid hr1
              have HB := Lib.hid hr1.bel
              clear hr1
              go_wp2_with fail
              refine (HNX.out _ HR.out).mono ?_
              rintro e w2 ⟨rfl, hr2⟩
              clear HNX HR HB
              go_upto_region 6 with fail
              have HW := Lib.hid (Blk.new w2 (woI xk xp xf xt xn xm) 37)
              have HR := Lib.hid (hr2.alloc (.cells (woI xk xp xf xt xn xm) 37))
              clear hr2
              generalize w2.alloc (.cells (woI xk xp xf xt xn xm) 37) = w3 at *
              generalize w2.heap.size = gW at *
              have g0 := HW.out.cell 0; have g1 := HW.out.cell 1; have g2 := HW.out.cell 2; have g3 := HW.out.cell 3; have g4 := HW.out.cell 4; have g5 := HW.out.cell 5; have g6 := HW.out.cell 6; have g7 := HW.out.cell 7; have g8 := HW.out.cell 8
              simp only [List.getElem?_toArray, List.getElem?_cons_zero, List.getElem?_cons_succ] at g0 g1 g2 g3 g4 g5 g6 g7 g8
              go_wp2_with fail
              refine (HTK.out _ HR.out).mono ?_
              rintro e w4 ⟨rfl, _, hb4⟩
              replace hb4 := hb4 HNE.out
              have hw4 := HW.out.below hb4 HW.out.lt
              have HB4 := Lib.hid ((HR.out.below hb4).bel)
              clear HTK HR HW g0 g1 g2 g3 g4 g5 g6 g7 g8 hb4
              have g1 := hw4.cell 1
              simp only [List.getElem?_toArray, List.getElem?_cons_zero, List.getElem?_cons_succ] at g1
              clear hw4
              go_wp2_with fail
              go_quiet (fail)
              go_wp2_with fail
              rw [← HRS.out]
              exact bodyPost_ret (v := .tuple #[.pointer none, .int .i64 TE, .int .i64 ((xp : Int) + 1)]) (by simp [results, Tryz.results9, go_sem] <;> rfl) rfl (.inl ⟨HNE.out, rfl, below_drN HB4.out _⟩)
          · simp only at h1
            have hft := first_err s a ⟨l, (n, r) :: st, gr⟩ n r st _ er pl rfl hvX h1 hcc
            rw [readM_err s k a _ _ er pl hlt hft hvX h1] at hres
            have hNX := fun W (h : RdV w.heap.size (w.heap.size + 1) s a ⟨l, (n, r) :: st, gr⟩ vN (.slice (some ⟨gL, 0, none⟩) (st.length + 1 : Nat) capL) w W) => pnext_calls hs xk xp xf xt xn xm er pl (by rw [← (next_in s a hlt).1]; exact hvX) W h
            simp only [if_neg h1] at hNX
            have HNX : Hid (∀ W, RdV w.heap.size (w.heap.size + 1) s a ⟨l, (n, r) :: st, gr⟩ vN (.slice (some ⟨gL, 0, none⟩) (st.length + 1 : Nat) capL) w W → Calls Tryz.prog 18 #[.pointer (some ⟨w.heap.size + 1, 0, none⟩)] W fun e w' => e = .returned (.tuple #[.agg (woI xk xp xf xt xn xm), .int .i64 er, .int .i64 pl]) ∧ RdV w.heap.size (w.heap.size + 1) s a ⟨l, (n, r) :: st, gr⟩ vN (.slice (some ⟨gL, 0, none⟩) (st.length + 1 : Nat) capL) w w') := Lib.hid hNX
            have qe : ((er : Int) != 0) = true := by rw [bne_iff_ne]; omega
            have HNE := Lib.hid h1
            have HRS := Lib.hid hres
            clear hres hNX hft h1 hvX hcc hpi hbd
            go_wp2_with (go_at_call 16; refine (HI.out _).mono ?_; rintro e w' ⟨rfl, rfl⟩)
            refine (HLV.out _ c3).mono ?_
            rintro e w1 ⟨rfl, hb1⟩
            have hr1 := HR.out.below hb1
            clear HR c1 c3 hb1 HB HLV
            obtain ⟨_, _, ee, _, _, _, _, t0, t1, f0, f1, _⟩ := hr1.top rfl
            cases ee
            have HR := Lib.hid hr1
            have HB := Lib.hid hr1.bel
            clear hr1
            go_wp2_with fail
            refine (HNX.out _ HR.out).mono ?_
            rintro e w2 ⟨rfl, hr2⟩
            clear HNX HR HB
            have HB2 := Lib.hid hr2.bel
            have hsz := hr2.size
            clear hr2
            go_wp2_with fail
            rw [← HRS.out]
            exact bodyPost_ret (v := .tuple #[.pointer none, .int .i64 er, .int .i64 pl]) (by simp [results, Tryz.results9, go_sem] <;> rfl) rfl (.inl ⟨HNE.out, rfl, HB2.out.alloc hsz _⟩)
      · have hix : decide (0 ≤ ix) = false := by
          rw [hi, Bool.eq_false_iff]
          intro h
          simp at h
          omega
        clear hi
        obtain ⟨vX, hvX⟩ : ∃ X, nextA s a = X := ⟨_, rfl⟩
        obtain ⟨⟨xk, xp, xf, xt, xn, xm⟩, er, pl⟩ := vX
        have hE := nextA_end s a hlt
        have hcc : bt s a = 42 ∨ bt s a = 43 ∨ bt s a = 63 ∨ bt s a = 123 → n ≠ 0 := fun h => absurd h hc
        rw [hvX] at hE
        rcases hE with ⟨h1, h2, h3, h4, h5, h6⟩ | ⟨h1, _⟩
        · simp only at h1 h2 h4 h5 h6
          subst h1
          subst h2
          subst h4
          have hNX := fun W (h : RdV w.heap.size (w.heap.size + 1) s xp ⟨l, (n, r) :: st, gr⟩ vN (.slice (some ⟨gL, 0, none⟩) (st.length + 1 : Nat) capL) w W) => pnext_calls hs xk xp xf xt xn xm 0 0 (by rw [← (next_in s xp hlt).1]; exact hvX) W h
          simp only [if_true] at hNX
          have hft := first_tk s xp ⟨l, (n, r) :: st, gr⟩ n r st ⟨xk, xp, xf, xt, xn, xm⟩ rfl hvX hcc
          have hTK := fun W (h : RdV w.heap.size (w.heap.size + 1) s xf ⟨l, (n, r) :: st, gr⟩ vN (.slice (some ⟨gL, 0, none⟩) (st.length + 1 : Nat) capL) w W) => ptake_calls hs ⟨l, (n, r) :: st, gr⟩ ⟨xk, xp, xf, xt, xn, xm⟩ h3 hbd (by simp) ha hpi.2.2.2 W h
          have hbd2 := take_bnd xp xf ⟨l, (n, r) :: st, gr⟩ ⟨xk, xp, xf, xt, xn, xm⟩ hbd h5
          by_cases htk : tkE ⟨l, (n, r) :: st, gr⟩ ⟨xk, xp, xf, xt, xn, xm⟩ = 0
          · rw [htk] at hft
            have hpi2 := take_inv s xp ⟨l, (n, r) :: st, gr⟩ ⟨xk, xp, xf, xt, xn, xm⟩ hpi hft h3 (next_kinds s xp _ hvX).1 (next_kinds s xp _ hvX).2.1 (next_kinds s xp _ hvX).2.2
            rw [readM_step s k xp _ ⟨xk, xp, xf, xt, xn, xm⟩ 0 hlt hft hvX] at hres
            rw [htk] at hTK
            have HNX : Hid (∀ W, RdV w.heap.size (w.heap.size + 1) s xp ⟨l, (n, r) :: st, gr⟩ vN (.slice (some ⟨gL, 0, none⟩) (st.length + 1 : Nat) capL) w W → Calls Tryz.prog 18 #[.pointer (some ⟨w.heap.size + 1, 0, none⟩)] W fun e w' => e = .returned (.tuple #[.agg (woI xk xp xf xt xn xm), .int .i64 0, .int .i64 0]) ∧ RdV w.heap.size (w.heap.size + 1) s xf ⟨l, (n, r) :: st, gr⟩ vN (.slice (some ⟨gL, 0, none⟩) (st.length + 1 : Nat) capL) w w') := Lib.hid hNX
            have HTK : Hid (∀ W, RdV w.heap.size (w.heap.size + 1) s xf ⟨l, (n, r) :: st, gr⟩ vN (.slice (some ⟨gL, 0, none⟩) (st.length + 1 : Nat) capL) w W → Calls Tryz.prog 19 #[.pointer (some ⟨w.heap.size + 1, 0, none⟩), .agg (woI xk xp xf xt xn xm)] W fun e w' => e = .returned (.int .i64 0) ∧ (0 = 0 → ∃ vN' vL', RdV w.heap.size (w.heap.size + 1) s xf (takeP ⟨l, (n, r) :: st, gr⟩ ⟨xk, xp, xf, xt, xn, xm⟩) vN' vL' w w') ∧ ((0 : Nat) ≠ 0 → Below W.heap.size W w')) := Lib.hid hTK
            have HF := Lib.hid (show _ ∧ _ ∧ _ ∧ _ ∧ _ from ⟨hres, hpi2, hbd2, h5, h6⟩)
            clear hres hpi2 hbd2 h5 h6 hNX hTK hft htk h3 hvX hcc hpi hbd
            go_wp2_with (go_at_call 16; refine (HI.out _).mono ?_; rintro e w' ⟨rfl, rfl⟩)
            refine (HNX.out _ HR.out).mono ?_
            rintro e w2 ⟨rfl, hr2⟩
            clear HNX HR HB
            go_upto_region 6 with fail
            have HW := Lib.hid (Blk.new w2 (woI xk xp xf xt xn xm) 37)
            have HR := Lib.hid (hr2.alloc (.cells (woI xk xp xf xt xn xm) 37))
            clear hr2
            generalize w2.alloc (.cells (woI xk xp xf xt xn xm) 37) = w3 at *
            generalize w2.heap.size = gW at *
            have g0 := HW.out.cell 0; have g1 := HW.out.cell 1; have g2 := HW.out.cell 2; have g3 := HW.out.cell 3; have g4 := HW.out.cell 4; have g5 := HW.out.cell 5; have g6 := HW.out.cell 6; have g7 := HW.out.cell 7; have g8 := HW.out.cell 8
            simp only [List.getElem?_toArray, List.getElem?_cons_zero, List.getElem?_cons_succ] at g0 g1 g2 g3 g4 g5 g6 g7 g8
            go_wp2_with fail
            refine (HTK.out _ HR.out).mono ?_
            rintro e w4 ⟨rfl, hr4, _⟩
            obtain ⟨vN2, vL2, hr4⟩ := hr4 trivial
            clear HTK HR HW g0 g1 g2 g3 g4 g5 g6 g7 g8
            have HR := Lib.hid hr4
            have cA := hr4.c.2.1
            clear hr4
            go_wp2_with fail
            go_roundw
            case rel =>
              obtain ⟨q1, q2, q3, q4, q5⟩ := HF.out
              exact ⟨k, xf, _, vN2, vL2, q5, by omega, q1, q2, q3, HR.out⟩
            case measure =>
              obtain ⟨_, _, _, q4, _⟩ := HF.out
              rw [cA, HC1.out]
              simp [intOf]; omega
          · have hfn : firstP ⟨l, (n, r) :: st, gr⟩ (bt s xp) ≠ 0 := by rw [hft]; exact htk
            rw [readM_first s k xp _ _ hlt hft htk] at hres
            have qe : ((tkE ⟨l, (n, r) :: st, gr⟩ ⟨xk, xp, xf, xt, xn, xm⟩ : Int) != 0) = true := by rw [bne_iff_ne]; omega
            have HNE := Lib.hid htk
            generalize tkE ⟨l, (n, r) :: st, gr⟩ ⟨xk, xp, xf, xt, xn, xm⟩ = TE at *
            have HNX : Hid (∀ W, RdV w.heap.size (w.heap.size + 1) s xp ⟨l, (n, r) :: st, gr⟩ vN (.slice (some ⟨gL, 0, none⟩) (st.length + 1 : Nat) capL) w W → Calls Tryz.prog 18 #[.pointer (some ⟨w.heap.size + 1, 0, none⟩)] W fun e w' => e = .returned (.tuple #[.agg (woI xk xp xf xt xn xm), .int .i64 0, .int .i64 0]) ∧ RdV w.heap.size (w.heap.size + 1) s xf ⟨l, (n, r) :: st, gr⟩ vN (.slice (some ⟨gL, 0, none⟩) (st.length + 1 : Nat) capL) w w') := Lib.hid hNX
            have HTK : Hid (∀ W, RdV w.heap.size (w.heap.size + 1) s xf ⟨l, (n, r) :: st, gr⟩ vN (.slice (some ⟨gL, 0, none⟩) (st.length + 1 : Nat) capL) w W → Calls Tryz.prog 19 #[.pointer (some ⟨w.heap.size + 1, 0, none⟩), .agg (woI xk xp xf xt xn xm)] W fun e w' => e = .returned (.int .i64 TE) ∧ (TE = 0 → ∃ vN' vL', RdV w.heap.size (w.heap.size + 1) s xf (takeP ⟨l, (n, r) :: st, gr⟩ ⟨xk, xp, xf, xt, xn, xm⟩) vN' vL' w w') ∧ (TE ≠ 0 → Below W.heap.size W w')) := Lib.hid hTK
            have HRS := Lib.hid hres
            clear hres hbd2 h5 h6 hNX hTK hft htk h3 hvX hcc hpi hbd hfn
            go_wp2_with (go_at_call 16; refine (HI.out _).mono ?_; rintro e w' ⟨rfl, rfl⟩)
            refine (HNX.out _ HR.out).mono ?_
            rintro e w2 ⟨rfl, hr2⟩
            clear HNX HR HB
            go_upto_region 6 with fail
            have HW := Lib.hid (Blk.new w2 (woI xk xp xf xt xn xm) 37)
            have HR := Lib.hid (hr2.alloc (.cells (woI xk xp xf xt xn xm) 37))
            clear hr2
            generalize w2.alloc (.cells (woI xk xp xf xt xn xm) 37) = w3 at *
            generalize w2.heap.size = gW at *
            have g0 := HW.out.cell 0; have g1 := HW.out.cell 1; have g2 := HW.out.cell 2; have g3 := HW.out.cell 3; have g4 := HW.out.cell 4; have g5 := HW.out.cell 5; have g6 := HW.out.cell 6; have g7 := HW.out.cell 7; have g8 := HW.out.cell 8
            simp only [List.getElem?_toArray, List.getElem?_cons_zero, List.getElem?_cons_succ] at g0 g1 g2 g3 g4 g5 g6 g7 g8
            go_wp2_with fail
            refine (HTK.out _ HR.out).mono ?_
            rintro e w4 ⟨rfl, _, hb4⟩
            replace hb4 := hb4 HNE.out
            have hw4 := HW.out.below hb4 HW.out.lt
            have HB4 := Lib.hid ((HR.out.below hb4).bel)
            clear HTK HR HW g0 g1 g2 g3 g4 g5 g6 g7 g8 hb4
            have g1 := hw4.cell 1
            simp only [List.getElem?_toArray, List.getElem?_cons_zero, List.getElem?_cons_succ] at g1
            clear hw4
            go_wp2_with fail
            go_quiet (fail)
            go_wp2_with fail
            rw [← HRS.out]
            exact bodyPost_ret (v := .tuple #[.pointer none, .int .i64 TE, .int .i64 ((xp : Int) + 1)]) (by simp [results, Tryz.results9, go_sem] <;> rfl) rfl (.inl ⟨HNE.out, rfl, below_drN HB4.out _⟩)
        · simp only at h1
          have hft := first_err s a ⟨l, (n, r) :: st, gr⟩ n r st _ er pl rfl hvX h1 hcc
          rw [readM_err s k a _ _ er pl hlt hft hvX h1] at hres
          have hNX := fun W (h : RdV w.heap.size (w.heap.size + 1) s a ⟨l, (n, r) :: st, gr⟩ vN (.slice (some ⟨gL, 0, none⟩) (st.length + 1 : Nat) capL) w W) => pnext_calls hs xk xp xf xt xn xm er pl (by rw [← (next_in s a hlt).1]; exact hvX) W h
          simp only [if_neg h1] at hNX
          have HNX : Hid (∀ W, RdV w.heap.size (w.heap.size + 1) s a ⟨l, (n, r) :: st, gr⟩ vN (.slice (some ⟨gL, 0, none⟩) (st.length + 1 : Nat) capL) w W → Calls Tryz.prog 18 #[.pointer (some ⟨w.heap.size + 1, 0, none⟩)] W fun e w' => e = .returned (.tuple #[.agg (woI xk xp xf xt xn xm), .int .i64 er, .int .i64 pl]) ∧ RdV w.heap.size (w.heap.size + 1) s a ⟨l, (n, r) :: st, gr⟩ vN (.slice (some ⟨gL, 0, none⟩) (st.length + 1 : Nat) capL) w w') := Lib.hid hNX
          have qe : ((er : Int) != 0) = true := by rw [bne_iff_ne]; omega
          have HNE := Lib.hid h1
          have HRS := Lib.hid hres
          clear hres hNX hft h1 hvX hcc hpi hbd
          go_wp2_with (go_at_call 16; refine (HI.out _).mono ?_; rintro e w' ⟨rfl, rfl⟩)
          refine (HNX.out _ HR.out).mono ?_
          rintro e w2 ⟨rfl, hr2⟩
          clear HNX HR HB
          have HB2 := Lib.hid hr2.bel
          have hsz := hr2.size
          clear hr2
          go_wp2_with fail
          rw [← HRS.out]
          exact bodyPost_ret (v := .tuple #[.pointer none, .int .i64 er, .int .i64 pl]) (by simp [results, Tryz.results9, go_sem] <;> rfl) rfl (.inl ⟨HNE.out, rfl, HB2.out.alloc hsz _⟩)
    · obtain rfl : a = s.size := by omega
      rw [readM_end] at hres
      subst hres
      have HR := Lib.hid hr
      have HF := Lib.hid (show _ ∧ _ from ⟨hpi.1, hbd⟩)
      clear hpi hbd hr
      go_wp2_with fail
      exact bodyPost_ret (v := .tuple #[.pointer (some ⟨w.heap.size + 1, 0, none⟩), .int .i64 0, .int .i64 0]) (by simp [results, Tryz.results9, go_sem] <;> rfl) rfl (.inr ⟨rfl, _, _, _, _, rfl, HR.out, HF.out.2, HF.out.1⟩)
end Go.Proofs.YthodphgbdmnpoaaGreatDoor

/- The developers' parse: Parse, Open. Stage 7. -/
namespace Go.Proofs.YthodphgbdmnpoaaGreatDoor
open Go.RowKit BS

set_option maxRecDepth 100000 in
set_option maxHeartbeats 8000000 in
theorem parse_dev (s : ByteArray) (hs : s.size ≤ 1000000) (w : World) :
    Calls Tryz.prog 5 #[.string s] w fun e w' => ∃ v, e = .returned (.tuple #[v, .int .i64 (parseN s).2.2.1, .int .i64 (parseN s).2.2.2]) ∧
      w'.ownsRow w.heap.size 32 8 v (parseN s).1.l.length (ndCells (parseN s).1.l) ∧ Below w.heap.size w w' := by
  have hP : parseN s = finM s (readM s (s.size + 1) 0 sPS) := readP_D s _ _ _
  rw [hP]
  clear hP
  have hRd := pread_calls s hs w
  generalize readM s (s.size + 1) 0 sPS = RES at *
  obtain ⟨y, er, pl⟩ := RES
  have HRd := Lib.hid hRd
  clear hRd
  by_cases he : er = 0
  · subst he
    obtain ⟨l, st, gr⟩ := y
    obtain _ | ⟨⟨n, r⟩, st⟩ := st
    · go_enter Tryz.func5, Tryz.ntmps5
      go_wp2_with fail
      refine HRd.out.mono ?_
      rintro e w2 (⟨h1, _⟩ | ⟨_, R, a, vN, vL, _, _, _, h3⟩)
      · exact absurd rfl h1
      · exact absurd rfl h3
    by_cases h0 : st = []
    · subst h0
      have hf : finM s (⟨l, [(n, r)], gr⟩, 0, pl) = (⟨l ++ rowT n ++ rowsT (r + 1), [], gr⟩, 0, 0, 0) := by
        unfold finM
        rw [if_neg (show ¬ (0 : Nat) ≠ 0 by decide), if_neg (show ¬ 1 < ([(n, r)] : List (Nat × Nat)).length by simp)]
        rfl
      rw [hf]
      clear hf
      go_enter Tryz.func5, Tryz.ntmps5
      go_wp2_with fail
      refine HRd.out.mono ?_
      rintro e w2 (⟨h1, _⟩ | ⟨_, R, a, vN, vL, rfl, hr, hbd, _⟩)
      · exact absurd rfl h1
      clear HRd
      obtain ⟨b1, b2, b3⟩ := hbd
      have b4 := b3 (n, r) (List.mem_cons_self ..)
      simp only at b1 b4
      obtain ⟨gL, capL, rfl, _⟩ := hr.top rfl
      have HO := Lib.hid (popen_calls R 0 (some ⟨gL, 0, none⟩) capL w2 hr.c.2.2.2.1 (by omega))
      have HE := Lib.hid (pendRows_calls w2 hr (by omega) (by simp) (by omega) (by omega))
      clear hr b1 b2 b3 b4
      go_wp2_with fail
      refine HO.out.mono ?_
      rintro e w3 ⟨rfl, rfl⟩
      clear HO
      go_wp2_with fail
      refine HE.out.mono ?_
      rintro e w3 ⟨rfl, vN', hr⟩
      clear HE
      have c2 := hr.c.2.2.1
      have HF := Lib.hid (And.intro hr.nodes hr.bel)
      clear hr
      go_wp2_with fail
      exact bodyPost_ret (v := .tuple #[vN', .int .i64 0, .int .i64 0]) (by simp [results, Tryz.results5, go_sem] <;> rfl) rfl ⟨_, rfl, HF.out.1, HF.out.2⟩
    · have hl : 0 < st.length := Nat.pos_of_ne_zero fun h => h0 (List.eq_nil_of_length_eq_zero h)
      have hf : finM s (⟨l, (n, r) :: st, gr⟩, 0, pl) = (zPS, st.length, 2, s.size) := by
        unfold finM
        rw [if_neg (show ¬ (0 : Nat) ≠ 0 by decide), if_pos (show 1 < ((n, r) :: st).length by rw [List.length_cons]; omega)]
        rfl
      rw [hf]
      clear hf
      have q : decide ((0 : Int) < (st.length : Int)) = true := by rw [decide_eq_true_iff]; omega
      go_enter Tryz.func5, Tryz.ntmps5
      go_wp2_with fail
      refine HRd.out.mono ?_
      rintro e w2 (⟨h1, _⟩ | ⟨_, R, a, vN, vL, rfl, hr, hbd, _⟩)
      · exact absurd rfl h1
      clear HRd
      have b2 := hbd.2.1
      simp only [List.length_cons] at b2
      obtain ⟨gL, capL, rfl, _⟩ := hr.top rfl
      have HO := Lib.hid (popen_calls R st.length (some ⟨gL, 0, none⟩) capL w2 hr.c.2.2.2.1 (by omega))
      have HB := Lib.hid hr.bel
      clear hr hbd b2
      go_wp2_with fail
      refine HO.out.mono ?_
      rintro e w3 ⟨rfl, rfl⟩
      clear HO
      go_wp2_with fail
      exact bodyPost_ret (v := .tuple #[.slice none 0 0, .int .i64 2, .int .i64 s.size]) (by simp [results, Tryz.results5, go_sem] <;> rfl) rfl ⟨_, rfl, World.ownsRow_nil _ _ _ _, HB.out⟩
  · have hf : finM s (y, er, pl) = (zPS, 0, er, pl) := by unfold finM; rw [if_pos he]
    rw [hf]
    clear hf
    have qe : ((er : Int) != 0) = true := by rw [bne_iff_ne]; omega
    have HNE := Lib.hid he
    clear he
    go_enter Tryz.func5, Tryz.ntmps5
    go_wp2_with fail
    refine HRd.out.mono ?_
    rintro e w2 (⟨_, rfl, hb⟩ | ⟨h1, _⟩)
    · go_wp2_with fail
      exact bodyPost_ret (v := .tuple #[.slice none 0 0, .int .i64 er, .int .i64 pl]) (by simp [results, Tryz.results5, go_sem] <;> rfl) rfl ⟨_, rfl, World.ownsRow_nil _ _ _ _, hb⟩
    · exact absurd h1 HNE.out

set_option maxRecDepth 100000 in
set_option maxHeartbeats 8000000 in
theorem open_dev (s : ByteArray) (hs : s.size ≤ 1000000) (w : World) :
    Calls Tryz.prog 8 #[.string s] w fun e w' => e = .returned (.int .i64 (parseN s).2.1) ∧ Below w.heap.size w w' := by
  have hP : parseN s = finM s (readM s (s.size + 1) 0 sPS) := readP_D s _ _ _
  rw [hP]
  clear hP
  have hRd := pread_calls s hs w
  generalize readM s (s.size + 1) 0 sPS = RES at *
  obtain ⟨y, er, pl⟩ := RES
  have HRd := Lib.hid hRd
  clear hRd
  by_cases he : er = 0
  · subst he
    obtain ⟨l, st, gr⟩ := y
    obtain _ | ⟨⟨n, r⟩, st⟩ := st
    · go_enter Tryz.func8, Tryz.ntmps8
      go_wp2_with fail
      refine HRd.out.mono ?_
      rintro e w2 (⟨h1, _⟩ | ⟨_, R, a, vN, vL, _, _, _, h3⟩)
      · exact absurd rfl h1
      · exact absurd rfl h3
    have hf : (finM s (⟨l, (n, r) :: st, gr⟩, 0, pl)).2.1 = st.length := by
      unfold finM
      rw [if_neg (show ¬ (0 : Nat) ≠ 0 by decide)]
      by_cases h1 : 1 < ((n, r) :: st).length
      · rw [if_pos h1]; rfl
      · rw [if_neg h1]
        rw [List.length_cons] at h1
        show 0 = st.length
        omega
    rw [hf]
    clear hf
    go_enter Tryz.func8, Tryz.ntmps8
    go_wp2_with fail
    refine HRd.out.mono ?_
    rintro e w2 (⟨h1, _⟩ | ⟨_, R, a, vN, vL, rfl, hr, hbd, _⟩)
    · exact absurd rfl h1
    clear HRd
    have b2 := hbd.2.1
    simp only [List.length_cons] at b2
    obtain ⟨gL, capL, rfl, _⟩ := hr.top rfl
    have HO := Lib.hid (popen_calls R st.length (some ⟨gL, 0, none⟩) capL w2 hr.c.2.2.2.1 (by omega))
    have HB := Lib.hid hr.bel
    clear hr hbd b2
    go_wp2_with fail
    refine HO.out.mono ?_
    rintro e w3 ⟨rfl, rfl⟩
    clear HO
    go_wp2_with fail
    go_ret
    exact ⟨rfl, HB.out⟩
  · have hf : finM s (y, er, pl) = (zPS, 0, er, pl) := by unfold finM; rw [if_pos he]
    rw [hf]
    clear hf
    have qe : ((er : Int) != 0) = true := by rw [bne_iff_ne]; omega
    have HNE := Lib.hid he
    clear he
    go_enter Tryz.func8, Tryz.ntmps8
    go_wp2_with fail
    refine HRd.out.mono ?_
    rintro e w2 (⟨_, rfl, hb⟩ | ⟨h1, _⟩)
    · go_wp2_with fail
      go_ret
      exact ⟨rfl, hb⟩
    · exact absurd h1 HNE.out
end Go.Proofs.YthodphgbdmnpoaaGreatDoor

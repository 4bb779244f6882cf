/- The document's counts: digit, braces, Read. -/
import Derived.Test.YtpaecjjelpjopaaGreatDoorNp
import Derived.Lib.Hide
import Derived.LoopTactic
import Derived.Laws.ResultCell
namespace Go.Proofs.YtpaecjjelpjopaaGreatDoor
open Go.RowKit

theorem int_eq {k : IntKind} {a b : Int} (h : a = b) : Value.int k a = .int k b := by rw [h]
def tupN (r : Nat × Int × Nat × Nat × Nat) : Value := .tuple #[.int .i64 r.1, .int .i64 r.2.1, .int .i64 r.2.2.1, .int .i64 r.2.2.2.1, .int .i64 r.2.2.2.2]
set_option maxHeartbeats 1000000 in
theorem digit_calls (b : Nat) (w : World) : Calls Tryz.prog 54 #[.int .u8 b] w fun e w' => e = .returned (.bool (decide (48 ≤ b ∧ b ≤ 57))) ∧ w = w' := by
  by_cases h1 : 48 ≤ b
  · have q1 : decide ((48 : Int) ≤ (b : Int)) = true := by rw [decide_eq_true_eq]; omega
    by_cases h2 : b ≤ 57
    · have q2 : decide ((b : Int) ≤ 57) = true := by rw [decide_eq_true_eq]; omega
      rw [decide_eq_true ⟨h1, h2⟩]
      clear h1 h2
      go_enter Tryz.func54, Tryz.ntmps54
      go_wp2
      go_ret
      exact ⟨rfl, rfl⟩
    · have q2 : decide ((b : Int) ≤ 57) = false := by rw [decide_eq_false_iff_not]; omega
      rw [decide_eq_false (fun h => h2 h.2)]
      clear h1 h2
      go_enter Tryz.func54, Tryz.ntmps54
      go_wp2
      go_ret
      exact ⟨rfl, rfl⟩
  · have q1 : decide ((48 : Int) ≤ (b : Int)) = false := by rw [decide_eq_false_iff_not]; omega
    rw [decide_eq_false (fun h => h1 h.1)]
    clear h1
    go_enter Tryz.func54, Tryz.ntmps54
    go_wp2
    go_ret
    exact ⟨rfl, rfl⟩

set_option maxRecDepth 100000 in
set_option maxHeartbeats 16000000 in
theorem braces_calls (s : ByteArray) (hs : s.size ≤ 1000000) (a : Nat) (ha : a < s.size) (w : World) : Calls Tryz.prog 34 #[.string s, .int .i64 a] w fun e w' => e = .returned (tupN (bracesN s (a + 1))) ∧ w = w' := by
  have hR : runN s (s.size - (a + 1)) (a + 1) ⟨0, 0, 0, false⟩ = bracesN s (a + 1) := rfl
  generalize bracesN s (a + 1) = R at *
  have HRR := Lib.hid hR
  clear hR
  go_enter Tryz.func34, Tryz.ntmps34
  go_wp2_with fail
  go_loop [9, 10, 11, 12, 13] (fun vn vm vh vs vi => ∃ (n m hv : Nat) (sec : Bool) (i : Nat), InvN ⟨n, m, hv, sec⟩ ∧ i ≤ s.size ∧ vn = .int .i64 n ∧ vm = .int .i64 m ∧ vh = .int .i64 hv ∧ vs = .bool sec ∧ vi = .int .i64 i ∧ runN s (s.size - i) i ⟨n, m, hv, sec⟩ = R) (fun _ _ _ _ v => s.size - (intOf v).toNat)
  case atStart => exact ⟨0, 0, 0, false, a + 1, inv_start, by omega, rfl, rfl, rfl, rfl, rfl, HRR.out⟩
  case round =>
    clear HRR
    obtain ⟨n, m, hv, sec, i, hI, hi, rfl, rfl, rfl, rfl, rfl, hres⟩ := hrel
    by_cases hl : i < s.size
    · have b0 : s[i].toNat = bt s i := (bt_eq s i hl).symm
      have hb := bt_lt s i
      rw [show s.size - i = (s.size - (i + 1)) + 1 by omega, runN] at hres
      generalize bt s i = b at *
      have hI2 := hI
      obtain ⟨i1, i2, i3, i4, i5, i6, i7⟩ := hI2
      simp only at i1 i2 i3 i4 i5 i6 i7
      have HI := Lib.hid hI
      have HRES := Lib.hid hres
      clear hI hres
      by_cases hd : 48 ≤ b ∧ b ≤ 57
      · have hdg := digit_calls b
        rw [decide_eq_true hd] at hdg
        have HDG := Lib.hid hdg
        clear hdg
        cases sec with
        | false =>
          obtain rfl : m = 0 := i7 rfl
          clear i7
          simp only [curN, Bool.false_eq_true, if_false] at i2 i3 i4
          by_cases e2 : hv = 2
          · subst e2
            have hst : stepN ⟨n, 0, 2, false⟩ b = .bad 6 := by unfold stepN; rw [if_pos hd]; rw [if_pos (.inl rfl)]
            have hR : ((0, 0, 0, 6, i + 1) : Nat × Int × Nat × Nat × Nat) = R := by have h := HRES.out; rw [hst] at h; exact h
            subst hR
            clear hst HRES HI 
            go_wp2_with (go_at_call 54; refine (HDG.out _).mono ?_; rintro e w' ⟨rfl, rfl⟩)
            exact bodyPost_ret (v := .tuple #[.int .i64 0, .int .i64 0, .int .i64 0, .int .i64 6, .int .i64 ((i : Int) + 1)]) (by simp [results, Tryz.results34, go_sem]) rfl ⟨rfl, rfl⟩
          by_cases e1 : hv = 1
          · subst e1
            by_cases ez : n = 0
            · subst ez
              have hst : stepN ⟨0, 0, 1, false⟩ b = .bad 6 := by unfold stepN; rw [if_pos hd]; rw [if_pos (.inr ⟨rfl, rfl⟩)]
              have hR : ((0, 0, 0, 6, i + 1) : Nat × Int × Nat × Nat × Nat) = R := by have h := HRES.out; rw [hst] at h; exact h
              subst hR
              clear hst HRES HI 
              go_wp2_with (go_at_call 54; refine (HDG.out _).mono ?_; rintro e w' ⟨rfl, rfl⟩)
              exact bodyPost_ret (v := .tuple #[.int .i64 0, .int .i64 0, .int .i64 0, .int .i64 6, .int .i64 ((i : Int) + 1)]) (by simp [results, Tryz.results34, go_sem]) rfl ⟨rfl, rfl⟩
            have qz : ((n : Int) == 0) = false := by rw [beq_eq_false_iff_ne]; omega
            have hst : stepN ⟨n, 0, 1, false⟩ b = .on ⟨10 * n + (b - 48), 0, 2, false⟩ := by unfold stepN; rw [if_pos hd]; rw [if_neg (show ¬ (1 = 2 ∨ (1 = 1 ∧ curN ⟨n, 0, 1, false⟩ = 0)) from fun h => by rcases h with h | h; cases h; exact ez h.2)]; rw [if_neg (fun h => by cases h.1)]; rfl
            have hI2 : InvN ⟨10 * n + (b - 48), 0, 2, false⟩ := stepN_on _ _ b HI.out hst
            have hR : runN s (s.size - (i + 1)) (i + 1) ⟨10 * n + (b - 48), 0, 2, false⟩ = R := by have h := HRES.out; rw [hst] at h; exact h
            have HI2 := Lib.hid hI2
            have HR := Lib.hid hR
            clear hst hI2 hR HRES HI 
            go_wp2_with (go_at_call 54; refine (HDG.out _).mono ?_; rintro e w' ⟨rfl, rfl⟩)
            go_round
            case rel => exact ⟨10 * n + (b - 48), 0, 2, false, i + 1, HI2.out, by omega, by first | rfl | exact int_eq (by omega) | exact int_eq (by simp; omega), by first | rfl | exact int_eq (by omega) | exact int_eq (by simp; omega), by first | rfl | exact int_eq (by omega) | exact int_eq (by simp; omega), rfl, int_eq (by omega), HR.out⟩
            case measure => simp [intOf]; omega
          obtain rfl : hv = 0 := by omega
          obtain rfl : n = 0 := i2 rfl
          by_cases e48 : b = 48
          · subst e48
            have hst : stepN ⟨0, 0, 0, false⟩ 48 = .on ⟨10 * 0 + (48 - 48), 0, 1, false⟩ := by unfold stepN; rw [if_pos hd]; rw [if_neg (show ¬ (0 = 2 ∨ (0 = 1 ∧ _)) from fun h => by rcases h with h | h; cases h; cases h.1)]; rw [if_neg (fun h => by cases h.1)]; rfl
            have hI2 : InvN ⟨10 * 0 + (48 - 48), 0, 1, false⟩ := stepN_on _ _ 48 HI.out hst
            have hR : runN s (s.size - (i + 1)) (i + 1) ⟨10 * 0 + (48 - 48), 0, 1, false⟩ = R := by have h := HRES.out; rw [hst] at h; exact h
            have HI2 := Lib.hid hI2
            have HR := Lib.hid hR
            clear hst hI2 hR HRES HI 
            go_wp2_with (go_at_call 54; refine (HDG.out _).mono ?_; rintro e w' ⟨rfl, rfl⟩)
            go_round
            case rel => exact ⟨10 * 0 + (48 - 48), 0, 1, false, i + 1, HI2.out, by omega, by first | rfl | exact int_eq (by omega) | exact int_eq (by simp; omega), by first | rfl | exact int_eq (by omega) | exact int_eq (by simp; omega), by first | rfl | exact int_eq (by omega) | exact int_eq (by simp; omega), rfl, int_eq (by omega), HR.out⟩
            case measure => simp [intOf]; omega
          have qg : decide ((0 : Int) < (b : Int) - 48) = true := by rw [decide_eq_true_eq]; omega
          have hst : stepN ⟨0, 0, 0, false⟩ b = .on ⟨10 * 0 + (b - 48), 0, 1, false⟩ := by unfold stepN; rw [if_pos hd]; rw [if_neg (show ¬ (0 = 2 ∨ (0 = 1 ∧ _)) from fun h => by rcases h with h | h; cases h; cases h.1)]; rw [if_neg (fun h => by cases h.1)]; rfl
          have hI2 : InvN ⟨10 * 0 + (b - 48), 0, 1, false⟩ := stepN_on _ _ b HI.out hst
          have hR : runN s (s.size - (i + 1)) (i + 1) ⟨10 * 0 + (b - 48), 0, 1, false⟩ = R := by have h := HRES.out; rw [hst] at h; exact h
          have HI2 := Lib.hid hI2
          have HR := Lib.hid hR
          clear hst hI2 hR HRES HI 
          go_wp2_with (go_at_call 54; refine (HDG.out _).mono ?_; rintro e w' ⟨rfl, rfl⟩)
          go_round
          case rel => exact ⟨10 * 0 + (b - 48), 0, 1, false, i + 1, HI2.out, by omega, by first | rfl | exact int_eq (by omega) | exact int_eq (by simp; omega), by first | rfl | exact int_eq (by omega) | exact int_eq (by simp; omega), by first | rfl | exact int_eq (by omega) | exact int_eq (by simp; omega), rfl, int_eq (by omega), HR.out⟩
          case measure => simp [intOf]; omega
        | true =>
          clear i7
          simp only [curN, if_true] at i2 i3 i4
          by_cases e2 : hv = 2
          · subst e2
            have hst : stepN ⟨n, m, 2, true⟩ b = .bad 6 := by unfold stepN; rw [if_pos hd]; rw [if_pos (.inl rfl)]
            have hR : ((0, 0, 0, 6, i + 1) : Nat × Int × Nat × Nat × Nat) = R := by have h := HRES.out; rw [hst] at h; exact h
            subst hR
            clear hst HRES HI 
            go_wp2_with (go_at_call 54; refine (HDG.out _).mono ?_; rintro e w' ⟨rfl, rfl⟩)
            exact bodyPost_ret (v := .tuple #[.int .i64 0, .int .i64 0, .int .i64 0, .int .i64 6, .int .i64 ((i : Int) + 1)]) (by simp [results, Tryz.results34, go_sem]) rfl ⟨rfl, rfl⟩
          by_cases e1 : hv = 1
          · subst e1
            by_cases ez : m = 0
            · subst ez
              have hst : stepN ⟨n, 0, 1, true⟩ b = .bad 6 := by unfold stepN; rw [if_pos hd]; rw [if_pos (.inr ⟨rfl, rfl⟩)]
              have hR : ((0, 0, 0, 6, i + 1) : Nat × Int × Nat × Nat × Nat) = R := by have h := HRES.out; rw [hst] at h; exact h
              subst hR
              clear hst HRES HI 
              go_wp2_with (go_at_call 54; refine (HDG.out _).mono ?_; rintro e w' ⟨rfl, rfl⟩)
              exact bodyPost_ret (v := .tuple #[.int .i64 0, .int .i64 0, .int .i64 0, .int .i64 6, .int .i64 ((i : Int) + 1)]) (by simp [results, Tryz.results34, go_sem]) rfl ⟨rfl, rfl⟩
            have qz : ((m : Int) == 0) = false := by rw [beq_eq_false_iff_ne]; omega
            by_cases em : 10 * m + (b - 48) < n
            · have qm : decide (10 * (m : Int) + ((b : Int) - 48) < (n : Int)) = true := by rw [decide_eq_true_eq]; omega
              have hst : stepN ⟨n, m, 1, true⟩ b = .bad 6 := by unfold stepN; rw [if_pos hd]; rw [if_neg (show ¬ (1 = 2 ∨ (1 = 1 ∧ curN ⟨n, m, 1, true⟩ = 0)) from fun h => by rcases h with h | h; cases h; exact ez h.2)]; rw [if_pos ⟨rfl, by unfold mostN; rw [if_neg (fun h => by cases h.1)]; exact em⟩]
              have hR : ((0, 0, 0, 6, i + 1) : Nat × Int × Nat × Nat × Nat) = R := by have h := HRES.out; rw [hst] at h; exact h
              subst hR
              clear hst HRES HI 
              go_wp2_with (go_at_call 54; refine (HDG.out _).mono ?_; rintro e w' ⟨rfl, rfl⟩)
              exact bodyPost_ret (v := .tuple #[.int .i64 0, .int .i64 0, .int .i64 0, .int .i64 6, .int .i64 ((i : Int) + 1)]) (by simp [results, Tryz.results34, go_sem]) rfl ⟨rfl, rfl⟩
            · have qm : decide (10 * (m : Int) + ((b : Int) - 48) < (n : Int)) = false := by rw [decide_eq_false_iff_not]; omega
              have hst : stepN ⟨n, m, 1, true⟩ b = .on ⟨n, 10 * m + (b - 48), 2, true⟩ := by unfold stepN; rw [if_pos hd]; rw [if_neg (show ¬ (1 = 2 ∨ (1 = 1 ∧ curN ⟨n, m, 1, true⟩ = 0)) from fun h => by rcases h with h | h; cases h; exact ez h.2)]; rw [if_neg (fun h => by have h2 := h.2; unfold mostN at h2; rw [if_neg (fun h => by cases h.1)] at h2; exact em h2)]; rfl
              have hI2 : InvN ⟨n, 10 * m + (b - 48), 2, true⟩ := stepN_on _ _ b HI.out hst
              have hR : runN s (s.size - (i + 1)) (i + 1) ⟨n, 10 * m + (b - 48), 2, true⟩ = R := by have h := HRES.out; rw [hst] at h; exact h
              have HI2 := Lib.hid hI2
              have HR := Lib.hid hR
              clear hst hI2 hR HRES HI 
              go_wp2_with (go_at_call 54; refine (HDG.out _).mono ?_; rintro e w' ⟨rfl, rfl⟩)
              go_round
              case rel => exact ⟨n, 10 * m + (b - 48), 2, true, i + 1, HI2.out, by omega, by first | rfl | exact int_eq (by omega) | exact int_eq (by simp; omega), by first | rfl | exact int_eq (by omega) | exact int_eq (by simp; omega), by first | rfl | exact int_eq (by omega) | exact int_eq (by simp; omega), rfl, int_eq (by omega), HR.out⟩
              case measure => simp [intOf]; omega
          obtain rfl : hv = 0 := by omega
          obtain rfl : m = 0 := i2 rfl
          by_cases e48 : b = 48
          · subst e48
            have hmo : mostN ⟨n, 0, 0, true⟩ (10 * curN ⟨n, 0, 0, true⟩ + (48 - 48)) = 0 := by simp [mostN, curN]
            by_cases em : 0 < n
            · have qm : decide ((0 : Int) < (n : Int)) = true := by rw [decide_eq_true_eq]; omega
              have hst : stepN ⟨n, 0, 0, true⟩ 48 = .bad 6 := by unfold stepN; rw [if_pos hd]; rw [if_neg (show ¬ (0 = 2 ∨ (0 = 1 ∧ _)) from fun h => by rcases h with h | h; cases h; cases h.1)]; rw [if_pos ⟨rfl, by rw [hmo]; exact em⟩]
              have hR : ((0, 0, 0, 6, i + 1) : Nat × Int × Nat × Nat × Nat) = R := by have h := HRES.out; rw [hst] at h; exact h
              subst hR
              clear hst HRES HI hmo
              go_wp2_with (go_at_call 54; refine (HDG.out _).mono ?_; rintro e w' ⟨rfl, rfl⟩)
              exact bodyPost_ret (v := .tuple #[.int .i64 0, .int .i64 0, .int .i64 0, .int .i64 6, .int .i64 ((i : Int) + 1)]) (by simp [results, Tryz.results34, go_sem]) rfl ⟨rfl, rfl⟩
            · have qm : decide ((0 : Int) < (n : Int)) = false := by rw [decide_eq_false_iff_not]; omega
              have hst : stepN ⟨n, 0, 0, true⟩ 48 = .on ⟨n, 10 * 0 + (48 - 48), 1, true⟩ := by unfold stepN; rw [if_pos hd]; rw [if_neg (show ¬ (0 = 2 ∨ (0 = 1 ∧ _)) from fun h => by rcases h with h | h; cases h; cases h.1)]; rw [if_neg (fun h => by have h2 := h.2; rw [hmo] at h2; exact em h2)]; rfl
              have hI2 : InvN ⟨n, 10 * 0 + (48 - 48), 1, true⟩ := stepN_on _ _ 48 HI.out hst
              have hR : runN s (s.size - (i + 1)) (i + 1) ⟨n, 10 * 0 + (48 - 48), 1, true⟩ = R := by have h := HRES.out; rw [hst] at h; exact h
              have HI2 := Lib.hid hI2
              have HR := Lib.hid hR
              clear hst hI2 hR HRES HI hmo
              go_wp2_with (go_at_call 54; refine (HDG.out _).mono ?_; rintro e w' ⟨rfl, rfl⟩)
              go_round
              case rel => exact ⟨n, 10 * 0 + (48 - 48), 1, true, i + 1, HI2.out, by omega, by first | rfl | exact int_eq (by omega) | exact int_eq (by simp; omega), by first | rfl | exact int_eq (by omega) | exact int_eq (by simp; omega), by first | rfl | exact int_eq (by omega) | exact int_eq (by simp; omega), rfl, int_eq (by omega), HR.out⟩
              case measure => simp [intOf]; omega
          have qg : decide ((0 : Int) < (b : Int) - 48) = true := by rw [decide_eq_true_eq]; omega
          have hmo : mostN ⟨n, 0, 0, true⟩ (10 * curN ⟨n, 0, 0, true⟩ + (b - 48)) = 10 * (b - 48) + 9 := by simp [mostN, curN]; omega
          by_cases em : 10 * (b - 48) + 9 < n
          · have qm : decide (10 * ((b : Int) - 48) + 9 < (n : Int)) = true := by rw [decide_eq_true_eq]; omega
            have hst : stepN ⟨n, 0, 0, true⟩ b = .bad 6 := by unfold stepN; rw [if_pos hd]; rw [if_neg (show ¬ (0 = 2 ∨ (0 = 1 ∧ _)) from fun h => by rcases h with h | h; cases h; cases h.1)]; rw [if_pos ⟨rfl, by rw [hmo]; exact em⟩]
            have hR : ((0, 0, 0, 6, i + 1) : Nat × Int × Nat × Nat × Nat) = R := by have h := HRES.out; rw [hst] at h; exact h
            subst hR
            clear hst HRES HI hmo
            go_wp2_with (go_at_call 54; refine (HDG.out _).mono ?_; rintro e w' ⟨rfl, rfl⟩)
            exact bodyPost_ret (v := .tuple #[.int .i64 0, .int .i64 0, .int .i64 0, .int .i64 6, .int .i64 ((i : Int) + 1)]) (by simp [results, Tryz.results34, go_sem]) rfl ⟨rfl, rfl⟩
          · have qm : decide (10 * ((b : Int) - 48) + 9 < (n : Int)) = false := by rw [decide_eq_false_iff_not]; omega
            have hst : stepN ⟨n, 0, 0, true⟩ b = .on ⟨n, 10 * 0 + (b - 48), 1, true⟩ := by unfold stepN; rw [if_pos hd]; rw [if_neg (show ¬ (0 = 2 ∨ (0 = 1 ∧ _)) from fun h => by rcases h with h | h; cases h; cases h.1)]; rw [if_neg (fun h => by have h2 := h.2; rw [hmo] at h2; exact em h2)]; rfl
            have hI2 : InvN ⟨n, 10 * 0 + (b - 48), 1, true⟩ := stepN_on _ _ b HI.out hst
            have hR : runN s (s.size - (i + 1)) (i + 1) ⟨n, 10 * 0 + (b - 48), 1, true⟩ = R := by have h := HRES.out; rw [hst] at h; exact h
            have HI2 := Lib.hid hI2
            have HR := Lib.hid hR
            clear hst hI2 hR HRES HI hmo
            go_wp2_with (go_at_call 54; refine (HDG.out _).mono ?_; rintro e w' ⟨rfl, rfl⟩)
            go_round
            case rel => exact ⟨n, 10 * 0 + (b - 48), 1, true, i + 1, HI2.out, by omega, by first | rfl | exact int_eq (by omega) | exact int_eq (by simp; omega), by first | rfl | exact int_eq (by omega) | exact int_eq (by simp; omega), by first | rfl | exact int_eq (by omega) | exact int_eq (by simp; omega), rfl, int_eq (by omega), HR.out⟩
            case measure => simp [intOf]; omega
      · have hdg := digit_calls b
        rw [decide_eq_false hd] at hdg
        have HDG := Lib.hid hdg
        clear hdg
        by_cases h44 : b = 44
        · subst h44
          cases sec with
          | false =>
            obtain rfl : m = 0 := i7 rfl
            clear i7
            by_cases h0 : hv = 0
            · subst h0
              have hst : stepN ⟨n, 0, 0, false⟩ 44 = .bad 3 := by rfl
              have hR : ((0, 0, 0, 3, i + 1) : Nat × Int × Nat × Nat × Nat) = R := by have h := HRES.out; rw [hst] at h; exact h
              subst hR
              clear hst HRES HI 
              go_wp2_with (go_at_call 54; refine (HDG.out _).mono ?_; rintro e w' ⟨rfl, rfl⟩)
              exact bodyPost_ret (v := .tuple #[.int .i64 0, .int .i64 0, .int .i64 0, .int .i64 3, .int .i64 ((i : Int) + 1)]) (by simp [results, Tryz.results34, go_sem]) rfl ⟨rfl, rfl⟩
            · have qh : decide ((0 : Int) < (hv : Int)) = true := by rw [decide_eq_true_eq]; omega
              have qh2 : decide (0 < hv) = true := by rw [decide_eq_true_eq]; omega
              have hst : stepN ⟨n, 0, hv, false⟩ 44 = .on ⟨n, 0, 0, true⟩ := by unfold stepN; rw [if_neg (by omega), if_pos ⟨rfl, rfl, by show 0 < hv; omega⟩]
              have hI2 : InvN ⟨n, 0, 0, true⟩ := stepN_on _ _ 44 HI.out hst
              have hR : runN s (s.size - (i + 1)) (i + 1) ⟨n, 0, 0, true⟩ = R := by have h := HRES.out; rw [hst] at h; exact h
              have HI2 := Lib.hid hI2
              have HR := Lib.hid hR
              clear hst hI2 hR HRES HI 
              go_wp2_with (go_at_call 54; refine (HDG.out _).mono ?_; rintro e w' ⟨rfl, rfl⟩)
              go_round
              case rel => exact ⟨n, 0, 0, true, i + 1, HI2.out, by omega, by first | rfl | exact int_eq (by omega) | exact int_eq (by simp; omega), by first | rfl | exact int_eq (by omega) | exact int_eq (by simp; omega), by first | rfl | exact int_eq (by omega) | exact int_eq (by simp; omega), rfl, int_eq (by omega), HR.out⟩
              case measure => simp [intOf]; omega
          | true =>
            clear i7
            have hst : stepN ⟨n, m, hv, true⟩ 44 = .bad 3 := by unfold stepN; rw [if_neg (by omega), if_neg (fun h => by cases h.2.1), if_neg (fun h => by cases h.1), if_neg (fun h => by cases h.1), if_neg (fun h => by cases h.1), if_neg (fun h => by cases h.1)]
            have hR : ((0, 0, 0, 3, i + 1) : Nat × Int × Nat × Nat × Nat) = R := by have h := HRES.out; rw [hst] at h; exact h
            subst hR
            clear hst HRES HI 
            go_wp2_with (go_at_call 54; refine (HDG.out _).mono ?_; rintro e w' ⟨rfl, rfl⟩)
            exact bodyPost_ret (v := .tuple #[.int .i64 0, .int .i64 0, .int .i64 0, .int .i64 3, .int .i64 ((i : Int) + 1)]) (by simp [results, Tryz.results34, go_sem]) rfl ⟨rfl, rfl⟩
        by_cases h125 : b = 125
        · subst h125
          cases sec with
          | false =>
            obtain rfl : m = 0 := i7 rfl
            clear i7
            by_cases h0 : hv = 0
            · subst h0
              have hst : stepN ⟨n, 0, 0, false⟩ 125 = .bad 3 := by rfl
              have hR : ((0, 0, 0, 3, i + 1) : Nat × Int × Nat × Nat × Nat) = R := by have h := HRES.out; rw [hst] at h; exact h
              subst hR
              clear hst HRES HI 
              go_wp2_with (go_at_call 54; refine (HDG.out _).mono ?_; rintro e w' ⟨rfl, rfl⟩)
              exact bodyPost_ret (v := .tuple #[.int .i64 0, .int .i64 0, .int .i64 0, .int .i64 3, .int .i64 ((i : Int) + 1)]) (by simp [results, Tryz.results34, go_sem]) rfl ⟨rfl, rfl⟩
            · have qh : decide ((0 : Int) < (hv : Int)) = true := by rw [decide_eq_true_eq]; omega
              have qh2 : decide (0 < hv) = true := by rw [decide_eq_true_eq]; omega
              have hst : stepN ⟨n, 0, hv, false⟩ 125 = .fin n n := by unfold stepN; rw [if_neg (by omega), if_neg (fun h => by cases h.1), if_pos ⟨rfl, rfl, by show 0 < hv; omega⟩]
              have hR : ((n, n, i + 1, 0, 0) : Nat × Int × Nat × Nat × Nat) = R := by have h := HRES.out; rw [hst] at h; exact h
              subst hR
              clear hst HRES HI 
              go_wp2_with (go_at_call 54; refine (HDG.out _).mono ?_; rintro e w' ⟨rfl, rfl⟩)
              exact bodyPost_ret (v := .tuple #[.int .i64 n, .int .i64 n, .int .i64 ((i : Int) + 1), .int .i64 0, .int .i64 0]) (by simp [results, Tryz.results34, go_sem]) rfl ⟨rfl, rfl⟩
          | true =>
            clear i7
            by_cases h0 : hv = 0
            · subst h0
              have hst : stepN ⟨n, m, 0, true⟩ 125 = .fin n (-1) := by rfl
              have hR : ((n, (-1), i + 1, 0, 0) : Nat × Int × Nat × Nat × Nat) = R := by have h := HRES.out; rw [hst] at h; exact h
              subst hR
              clear hst HRES HI 
              go_wp2_with (go_at_call 54; refine (HDG.out _).mono ?_; rintro e w' ⟨rfl, rfl⟩)
              exact bodyPost_ret (v := .tuple #[.int .i64 n, .int .i64 (-1), .int .i64 ((i : Int) + 1), .int .i64 0, .int .i64 0]) (by simp [results, Tryz.results34, go_sem]) rfl ⟨rfl, rfl⟩
            have qh : ((hv : Int) == 0) = false := by rw [beq_eq_false_iff_ne]; omega
            by_cases hnm : n ≤ m
            · have qn : decide (n ≤ m) = true := by simpa using hnm
              have hst : stepN ⟨n, m, hv, true⟩ 125 = .fin n m := by unfold stepN; rw [if_neg (by omega), if_neg (fun h => by cases h.1), if_neg (fun h => by cases h.2.1), if_neg (fun h => h0 h.2.2), if_pos ⟨rfl, rfl, hnm⟩]
              have hR : ((n, m, i + 1, 0, 0) : Nat × Int × Nat × Nat × Nat) = R := by have h := HRES.out; rw [hst] at h; exact h
              subst hR
              clear hst HRES HI 
              go_wp2_with (go_at_call 54; refine (HDG.out _).mono ?_; rintro e w' ⟨rfl, rfl⟩)
              exact bodyPost_ret (v := .tuple #[.int .i64 n, .int .i64 m, .int .i64 ((i : Int) + 1), .int .i64 0, .int .i64 0]) (by simp [results, Tryz.results34, go_sem]) rfl ⟨rfl, rfl⟩
            · have qn : decide (n ≤ m) = false := by simpa using hnm
              have hst : stepN ⟨n, m, hv, true⟩ 125 = .bad 6 := by unfold stepN; rw [if_neg (by omega), if_neg (fun h => by cases h.1), if_neg (fun h => by cases h.2.1), if_neg (fun h => h0 h.2.2), if_neg (fun h => hnm h.2.2), if_pos ⟨rfl, rfl⟩]
              have hR : ((0, 0, 0, 6, i + 1) : Nat × Int × Nat × Nat × Nat) = R := by have h := HRES.out; rw [hst] at h; exact h
              subst hR
              clear hst HRES HI 
              go_wp2_with (go_at_call 54; refine (HDG.out _).mono ?_; rintro e w' ⟨rfl, rfl⟩)
              exact bodyPost_ret (v := .tuple #[.int .i64 0, .int .i64 0, .int .i64 0, .int .i64 6, .int .i64 ((i : Int) + 1)]) (by simp [results, Tryz.results34, go_sem]) rfl ⟨rfl, rfl⟩
        have c44 : ((b : Int) == 44) = false := by rw [beq_eq_false_iff_ne]; omega
        have c125 : ((b : Int) == 125) = false := by rw [beq_eq_false_iff_ne]; omega
        cases sec with
        | false =>
          obtain rfl : m = 0 := i7 rfl
          clear i7
          have hst : stepN ⟨n, 0, hv, false⟩ b = .bad 3 := by unfold stepN; rw [if_neg hd]; rw [if_neg (fun h => h44 h.1), if_neg (fun h => h125 h.1), if_neg (fun h => h125 h.1), if_neg (fun h => h125 h.1), if_neg (fun h => h125 h.1)]
          have hR : ((0, 0, 0, 3, i + 1) : Nat × Int × Nat × Nat × Nat) = R := by have h := HRES.out; rw [hst] at h; exact h
          subst hR
          clear hst HRES HI 
          go_wp2_with (go_at_call 54; refine (HDG.out _).mono ?_; rintro e w' ⟨rfl, rfl⟩)
          exact bodyPost_ret (v := .tuple #[.int .i64 0, .int .i64 0, .int .i64 0, .int .i64 3, .int .i64 ((i : Int) + 1)]) (by simp [results, Tryz.results34, go_sem]) rfl ⟨rfl, rfl⟩
        | true =>
          clear i7
          have hst : stepN ⟨n, m, hv, true⟩ b = .bad 3 := by unfold stepN; rw [if_neg hd]; rw [if_neg (fun h => h44 h.1), if_neg (fun h => h125 h.1), if_neg (fun h => h125 h.1), if_neg (fun h => h125 h.1), if_neg (fun h => h125 h.1)]
          have hR : ((0, 0, 0, 3, i + 1) : Nat × Int × Nat × Nat × Nat) = R := by have h := HRES.out; rw [hst] at h; exact h
          subst hR
          clear hst HRES HI 
          go_wp2_with (go_at_call 54; refine (HDG.out _).mono ?_; rintro e w' ⟨rfl, rfl⟩)
          exact bodyPost_ret (v := .tuple #[.int .i64 0, .int .i64 0, .int .i64 0, .int .i64 3, .int .i64 ((i : Int) + 1)]) (by simp [results, Tryz.results34, go_sem]) rfl ⟨rfl, rfl⟩
    · obtain rfl : i = s.size := by omega
      rw [Nat.sub_self] at hres
      have hres : (0, 0, 0, 2, s.size) = R := hres
      subst hres
      go_wp2_with fail
      exact bodyPost_ret (v := .tuple #[.int .i64 0, .int .i64 0, .int .i64 0, .int .i64 2, .int .i64 s.size]) (by simp [results, Tryz.results34, go_sem]) rfl ⟨rfl, rfl⟩
end Go.Proofs.YtpaecjjelpjopaaGreatDoor

/- The document's classes: whether a byte is of a class. -/
import Derived.Test.YtpaecjjelpjopaaGreatDoorP1
import Derived.Deep.DeepCutAuto
import Derived.Lib.Hide
namespace Go.Proofs.YtpaecjjelpjopaaGreatDoor
open Go.RowKit Go.Shelf BS

def inB (b lo hi : Int) : Bool := decide (lo ≤ b) && decide (b ≤ hi)
def alB (b : Int) : Bool := inB b 65 90 || inB b 97 122
def dgB (b : Int) : Bool := inB b 48 57
def isC (l : List UInt8) (b : Int) : Bool :=
  if l = [97, 108, 110, 117, 109] then (alB b || dgB b) else
  if l = [97, 108, 112, 104, 97] then alB b else
  if l = [98, 108, 97, 110, 107] then (b == 9 || b == 32) else
  if l = [99, 110, 116, 114, 108] then (inB b 0 31 || b == 127) else
  if l = [100, 105, 103, 105, 116] then dgB b else
  if l = [103, 114, 97, 112, 104] then inB b 33 126 else
  if l = [108, 111, 119, 101, 114] then inB b 97 122 else
  if l = [112, 114, 105, 110, 116] then inB b 32 126 else
  if l = [112, 117, 110, 99, 116] then (inB b 33 126 && !alB b && !dgB b) else
  if l = [115, 112, 97, 99, 101] then (inB b 9 13 || b == 32) else
  if l = [117, 112, 112, 101, 114] then inB b 65 90 else
  if l = [120, 100, 105, 103, 105, 116] then (dgB b || inB b 65 70 || inB b 97 102) else
  false

set_option maxHeartbeats 1000000 in
theorem in_calls (b lo hi : Int) (w : World) : Calls Tryz.prog 71 #[.int .i64 b, .int .i64 lo, .int .i64 hi] w fun e w' => e = .returned (.bool (inB b lo hi)) ∧ w = w' := by
  unfold inB
  by_cases h1 : lo ≤ b
  · have q1 : decide (lo ≤ b) = true := by simpa using h1
    rw [q1]
    go_enter Tryz.func71, Tryz.ntmps71
    go_wp2
    go_ret
    exact ⟨by simp, rfl⟩
  · have q1 : decide (lo ≤ b) = false := by simpa using h1
    rw [q1]
    go_enter Tryz.func71, Tryz.ntmps71
    go_wp2
    go_ret
    exact ⟨by simp, rfl⟩

set_option maxRecDepth 100000 in
set_option maxHeartbeats 8000000 in
theorem is_calls (name : ByteArray) (b : Int) (w : World) : Calls Tryz.prog 68 #[.string name, .int .i64 b] w fun e w' => e = .returned (.bool (isC name.toList b)) ∧ w = w' := by
  go_enter Tryz.func68, Tryz.ntmps68
  go_upto_region 1 with fail
  go_cut [5, 6] (fun s5 s6 wx => s5 = .bool (alB b) ∧ s6 = .bool (dgB b) ∧ w = wx)
  case first =>
    have HA := Lib.hid (show alB b = (inB b 65 90 || inB b 97 122) from rfl)
    have HD := Lib.hid (show dgB b = inB b 48 57 from rfl)
    cases h1 : inB b 65 90 <;> (go_wp2_with (go_at_call 71; refine (in_calls _ _ _ _).mono ?_; rintro e w' ⟨rfl, rfl⟩)) <;> (go_meet; exact ⟨by rw [HA.out, h1] <;> simp, by rw [HD.out], rfl⟩)
  case rest =>
    obtain ⟨rfl, rfl, rfl⟩ := hcut
    generalize hA : alB b = A
    generalize hD : dgB b = D
    have HA := Lib.hid hA
    have HD := Lib.hid hD
    clear hA hD
    by_cases n0 : name.toList = [97, 108, 110, 117, 109]
    · have t0 : (name.toList == [97, 108, 110, 117, 109]) = true := by rw [n0]; rfl
      have HN := Lib.hid n0
      have hres : isC name.toList b = (A || D) := by rw [n0]; simp only [isC, ← HA.out, ← HD.out]; rfl
      have HR := Lib.hid hres
      clear n0 hres
      cases A <;> cases D <;> (go_wp2_with (go_at_call 71; refine (in_calls _ _ _ _).mono ?_; rintro e w' ⟨rfl, rfl⟩)) <;> (go_ret; exact ⟨by rw [HR.out] <;> (first | rfl | simp [*]), rfl⟩)
    have t0 : (name.toList == [97, 108, 110, 117, 109]) = false := by simpa using n0
    have N0 := Lib.hid n0
    clear n0
    by_cases n1 : name.toList = [97, 108, 112, 104, 97]
    · have t1 : (name.toList == [97, 108, 112, 104, 97]) = true := by rw [n1]; rfl
      have HN := Lib.hid n1
      have hres : isC name.toList b = A := by rw [n1]; simp only [isC, ← HA.out]; rfl
      have HR := Lib.hid hres
      clear n1 hres
      (go_wp2_with (go_at_call 71; refine (in_calls _ _ _ _).mono ?_; rintro e w' ⟨rfl, rfl⟩)) <;> (go_ret; exact ⟨by rw [HR.out] <;> (first | rfl | simp [*]), rfl⟩)
    have t1 : (name.toList == [97, 108, 112, 104, 97]) = false := by simpa using n1
    have N1 := Lib.hid n1
    clear n1
    by_cases n2 : name.toList = [98, 108, 97, 110, 107]
    · have t2 : (name.toList == [98, 108, 97, 110, 107]) = true := by rw [n2]; rfl
      have HN := Lib.hid n2
      have hres : isC name.toList b = (b == 9 || b == 32) := by rw [n2]; rfl
      have HR := Lib.hid hres
      clear n2 hres
      cases q1 : (b == 9) <;> (go_wp2_with (go_at_call 71; refine (in_calls _ _ _ _).mono ?_; rintro e w' ⟨rfl, rfl⟩)) <;> (go_ret; exact ⟨by rw [HR.out] <;> (first | rfl | simp [*]), rfl⟩)
    have t2 : (name.toList == [98, 108, 97, 110, 107]) = false := by simpa using n2
    have N2 := Lib.hid n2
    clear n2
    by_cases n3 : name.toList = [99, 110, 116, 114, 108]
    · have t3 : (name.toList == [99, 110, 116, 114, 108]) = true := by rw [n3]; rfl
      have HN := Lib.hid n3
      have hres : isC name.toList b = (inB b 0 31 || b == 127) := by rw [n3]; rfl
      have HR := Lib.hid hres
      clear n3 hres
      cases q1 : inB b 0 31 <;> (go_wp2_with (go_at_call 71; refine (in_calls _ _ _ _).mono ?_; rintro e w' ⟨rfl, rfl⟩)) <;> (go_ret; exact ⟨by rw [HR.out] <;> (first | rfl | simp [*]), rfl⟩)
    have t3 : (name.toList == [99, 110, 116, 114, 108]) = false := by simpa using n3
    have N3 := Lib.hid n3
    clear n3
    by_cases n4 : name.toList = [100, 105, 103, 105, 116]
    · have t4 : (name.toList == [100, 105, 103, 105, 116]) = true := by rw [n4]; rfl
      have HN := Lib.hid n4
      have hres : isC name.toList b = D := by rw [n4]; simp only [isC, ← HD.out]; rfl
      have HR := Lib.hid hres
      clear n4 hres
      (go_wp2_with (go_at_call 71; refine (in_calls _ _ _ _).mono ?_; rintro e w' ⟨rfl, rfl⟩)) <;> (go_ret; exact ⟨by rw [HR.out] <;> (first | rfl | simp [*]), rfl⟩)
    have t4 : (name.toList == [100, 105, 103, 105, 116]) = false := by simpa using n4
    have N4 := Lib.hid n4
    clear n4
    by_cases n5 : name.toList = [103, 114, 97, 112, 104]
    · have t5 : (name.toList == [103, 114, 97, 112, 104]) = true := by rw [n5]; rfl
      have HN := Lib.hid n5
      have hres : isC name.toList b = inB b 33 126 := by rw [n5]; rfl
      have HR := Lib.hid hres
      clear n5 hres
      (go_wp2_with (go_at_call 71; refine (in_calls _ _ _ _).mono ?_; rintro e w' ⟨rfl, rfl⟩)) <;> (go_ret; exact ⟨by rw [HR.out] <;> (first | rfl | simp [*]), rfl⟩)
    have t5 : (name.toList == [103, 114, 97, 112, 104]) = false := by simpa using n5
    have N5 := Lib.hid n5
    clear n5
    by_cases n6 : name.toList = [108, 111, 119, 101, 114]
    · have t6 : (name.toList == [108, 111, 119, 101, 114]) = true := by rw [n6]; rfl
      have HN := Lib.hid n6
      have hres : isC name.toList b = inB b 97 122 := by rw [n6]; rfl
      have HR := Lib.hid hres
      clear n6 hres
      (go_wp2_with (go_at_call 71; refine (in_calls _ _ _ _).mono ?_; rintro e w' ⟨rfl, rfl⟩)) <;> (go_ret; exact ⟨by rw [HR.out] <;> (first | rfl | simp [*]), rfl⟩)
    have t6 : (name.toList == [108, 111, 119, 101, 114]) = false := by simpa using n6
    have N6 := Lib.hid n6
    clear n6
    by_cases n7 : name.toList = [112, 114, 105, 110, 116]
    · have t7 : (name.toList == [112, 114, 105, 110, 116]) = true := by rw [n7]; rfl
      have HN := Lib.hid n7
      have hres : isC name.toList b = inB b 32 126 := by rw [n7]; rfl
      have HR := Lib.hid hres
      clear n7 hres
      (go_wp2_with (go_at_call 71; refine (in_calls _ _ _ _).mono ?_; rintro e w' ⟨rfl, rfl⟩)) <;> (go_ret; exact ⟨by rw [HR.out] <;> (first | rfl | simp [*]), rfl⟩)
    have t7 : (name.toList == [112, 114, 105, 110, 116]) = false := by simpa using n7
    have N7 := Lib.hid n7
    clear n7
    by_cases n8 : name.toList = [112, 117, 110, 99, 116]
    · have t8 : (name.toList == [112, 117, 110, 99, 116]) = true := by rw [n8]; rfl
      have HN := Lib.hid n8
      have hres : isC name.toList b = (inB b 33 126 && !A && !D) := by rw [n8]; simp only [isC, ← HA.out, ← HD.out]; rfl
      have HR := Lib.hid hres
      clear n8 hres
      cases q1 : inB b 33 126 <;> cases A <;> cases D <;> (go_wp2_with (go_at_call 71; refine (in_calls _ _ _ _).mono ?_; rintro e w' ⟨rfl, rfl⟩)) <;> (go_ret; exact ⟨by rw [HR.out] <;> (first | rfl | simp [*]), rfl⟩)
    have t8 : (name.toList == [112, 117, 110, 99, 116]) = false := by simpa using n8
    have N8 := Lib.hid n8
    clear n8
    by_cases n9 : name.toList = [115, 112, 97, 99, 101]
    · have t9 : (name.toList == [115, 112, 97, 99, 101]) = true := by rw [n9]; rfl
      have HN := Lib.hid n9
      have hres : isC name.toList b = (inB b 9 13 || b == 32) := by rw [n9]; rfl
      have HR := Lib.hid hres
      clear n9 hres
      cases q1 : inB b 9 13 <;> (go_wp2_with (go_at_call 71; refine (in_calls _ _ _ _).mono ?_; rintro e w' ⟨rfl, rfl⟩)) <;> (go_ret; exact ⟨by rw [HR.out] <;> (first | rfl | simp [*]), rfl⟩)
    have t9 : (name.toList == [115, 112, 97, 99, 101]) = false := by simpa using n9
    have N9 := Lib.hid n9
    clear n9
    by_cases n10 : name.toList = [117, 112, 112, 101, 114]
    · have t10 : (name.toList == [117, 112, 112, 101, 114]) = true := by rw [n10]; rfl
      have HN := Lib.hid n10
      have hres : isC name.toList b = inB b 65 90 := by rw [n10]; rfl
      have HR := Lib.hid hres
      clear n10 hres
      (go_wp2_with (go_at_call 71; refine (in_calls _ _ _ _).mono ?_; rintro e w' ⟨rfl, rfl⟩)) <;> (go_ret; exact ⟨by rw [HR.out] <;> (first | rfl | simp [*]), rfl⟩)
    have t10 : (name.toList == [117, 112, 112, 101, 114]) = false := by simpa using n10
    have N10 := Lib.hid n10
    clear n10
    by_cases n11 : name.toList = [120, 100, 105, 103, 105, 116]
    · have t11 : (name.toList == [120, 100, 105, 103, 105, 116]) = true := by rw [n11]; rfl
      have HN := Lib.hid n11
      have hres : isC name.toList b = (D || inB b 65 70 || inB b 97 102) := by rw [n11]; simp only [isC, ← HD.out]; rfl
      have HR := Lib.hid hres
      clear n11 hres
      cases D <;> cases q1 : inB b 65 70 <;> (go_wp2_with (go_at_call 71; refine (in_calls _ _ _ _).mono ?_; rintro e w' ⟨rfl, rfl⟩)) <;> (go_ret; exact ⟨by rw [HR.out] <;> (first | rfl | simp [*]), rfl⟩)
    have t11 : (name.toList == [120, 100, 105, 103, 105, 116]) = false := by simpa using n11
    have N11 := Lib.hid n11
    clear n11
    have hres : isC name.toList b = false := by unfold isC; rw [if_neg N0.out, if_neg N1.out, if_neg N2.out, if_neg N3.out, if_neg N4.out, if_neg N5.out, if_neg N6.out, if_neg N7.out, if_neg N8.out, if_neg N9.out, if_neg N10.out, if_neg N11.out]
    have HR := Lib.hid hres
    clear hres
    go_wp2
    go_ret
    exact ⟨by rw [HR.out] <;> rfl, rfl⟩
end Go.Proofs.YtpaecjjelpjopaaGreatDoor

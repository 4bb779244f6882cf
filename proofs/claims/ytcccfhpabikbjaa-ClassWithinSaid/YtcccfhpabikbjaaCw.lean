/- ClassWithin: of any byte, which classes it is of. -/
import Derived.Test.YtcccfhpabikbjaaCl
namespace Go.Proofs.Ytcccfhpabikbjaa
open Go.RowKit Go.Shelf BS

def isF (name : ByteArray) (x : Nat) : Bool := ofB name.toList && (ofS name.toList).getLsbD x
theorem isF_calls (name : ByteArray) (x : Nat) (hx : x < 256) (w : World) : Calls Try.prog 19 #[.string name, .int .u8 x] w fun e w' => e = .returned (.bool (isF name x)) ∧ Below w.heap.size w w' := is2_calls name x hx w
def n_alnum : ByteArray := ⟨#[97, 108, 110, 117, 109]⟩
def n_alpha : ByteArray := ⟨#[97, 108, 112, 104, 97]⟩
def n_blank : ByteArray := ⟨#[98, 108, 97, 110, 107]⟩
def n_cntrl : ByteArray := ⟨#[99, 110, 116, 114, 108]⟩
def n_digit : ByteArray := ⟨#[100, 105, 103, 105, 116]⟩
def n_graph : ByteArray := ⟨#[103, 114, 97, 112, 104]⟩
def n_lower : ByteArray := ⟨#[108, 111, 119, 101, 114]⟩
def n_print : ByteArray := ⟨#[112, 114, 105, 110, 116]⟩
def n_punct : ByteArray := ⟨#[112, 117, 110, 99, 116]⟩
def n_space : ByteArray := ⟨#[115, 112, 97, 99, 101]⟩
def n_upper : ByteArray := ⟨#[117, 112, 112, 101, 114]⟩
def n_xdigit : ByteArray := ⟨#[120, 100, 105, 103, 105, 116]⟩
def fullS : BitVec 256 := ~~~(0 : BitVec 256)
theorem anyF_calls (w : World) : Calls Try.prog 18 #[] w fun e w' => e = .returned (setV fullS) ∧ Below w.heap.size w w' := cAny_calls w
/-- What holds of any byte. -/
def withinB (x : Nat) : Bool :=
  (isF n_alpha x == (isF n_lower x || isF n_upper x)) && !(isF n_lower x && isF n_upper x) && (isF n_alnum x == (isF n_alpha x || isF n_digit x)) && (!isF n_xdigit x || isF n_alnum x) && (!isF n_digit x || isF n_xdigit x) &&
  (!isF n_blank x || isF n_space x) && !(isF n_cntrl x && isF n_print x) && (isF n_print x == (isF n_graph x || x == 32)) && fullS.getLsbD x
theorem within_all : ∀ x, x < 256 → withinB x = true := by decide +kernel

set_option maxRecDepth 100000 in
set_option maxHeartbeats 8000000 in
theorem within2_calls (x : Nat) (hx : x < 256) (w : World) : Calls Try.prog 6 #[.int .u8 x] w fun e w' => e = .returned (.bool true) ∧ Below w.heap.size w w' := by
  have hw := within_all x hx
  simp only [withinB, Bool.and_eq_true, Bool.or_eq_true, beq_iff_eq, Bool.not_eq_true'] at hw
  obtain ⟨⟨⟨⟨⟨⟨⟨⟨h1, h2⟩, h3⟩, h4⟩, h5⟩, h6⟩, h7⟩, h8⟩, h9⟩ := hw
  generalize e_alnum : isF n_alnum x = b_alnum at *
  replace e_alnum : isF ⟨#[97, 108, 110, 117, 109]⟩ x = b_alnum := e_alnum
  generalize e_alpha : isF n_alpha x = b_alpha at *
  replace e_alpha : isF ⟨#[97, 108, 112, 104, 97]⟩ x = b_alpha := e_alpha
  generalize e_blank : isF n_blank x = b_blank at *
  replace e_blank : isF ⟨#[98, 108, 97, 110, 107]⟩ x = b_blank := e_blank
  generalize e_cntrl : isF n_cntrl x = b_cntrl at *
  replace e_cntrl : isF ⟨#[99, 110, 116, 114, 108]⟩ x = b_cntrl := e_cntrl
  generalize e_digit : isF n_digit x = b_digit at *
  replace e_digit : isF ⟨#[100, 105, 103, 105, 116]⟩ x = b_digit := e_digit
  generalize e_graph : isF n_graph x = b_graph at *
  replace e_graph : isF ⟨#[103, 114, 97, 112, 104]⟩ x = b_graph := e_graph
  generalize e_lower : isF n_lower x = b_lower at *
  replace e_lower : isF ⟨#[108, 111, 119, 101, 114]⟩ x = b_lower := e_lower
  generalize e_print : isF n_print x = b_print at *
  replace e_print : isF ⟨#[112, 114, 105, 110, 116]⟩ x = b_print := e_print
  generalize e_space : isF n_space x = b_space at *
  replace e_space : isF ⟨#[115, 112, 97, 99, 101]⟩ x = b_space := e_space
  generalize e_upper : isF n_upper x = b_upper at *
  replace e_upper : isF ⟨#[117, 112, 112, 101, 114]⟩ x = b_upper := e_upper
  generalize e_xdigit : isF n_xdigit x = b_xdigit at *
  replace e_xdigit : isF ⟨#[120, 100, 105, 103, 105, 116]⟩ x = b_xdigit := e_xdigit
  have H1 := Lib.hid h1
  have H2 := Lib.hid h2
  have H3 := Lib.hid h3
  have H4 := Lib.hid h4
  have H5 := Lib.hid h5
  have H6 := Lib.hid h6
  have H7 := Lib.hid h7
  have H8 := Lib.hid h8
  have H9 := Lib.hid h9
  clear h1 h2 h3 h4 h5 h6 h7 h8 h9
  have HB := Lib.hid (Below.refl w.heap.size w)
  go_enter Try.func6, Try.ntmps6
  go_upto_region 1 with fail
  go_cut [48] from 3 to 47 (fun s48 wx => s48 = .bool false ∧ Below w.heap.size w wx)
  case first =>
    obtain rfl := H1.out
    obtain rfl := H3.out
    clear H1 H3 H6 H7 H8 H9
    cases b_lower <;> cases b_upper <;> cases b_digit <;> cases b_xdigit <;> first
      | exact absurd H2.out (by decide)
      | exact absurd H4.out (by decide)
      | exact absurd H5.out (by decide)
      | (try simp only [Bool.or_true, Bool.or_false] at e_alpha
         try simp only [Bool.or_true, Bool.or_false] at e_alnum
         clear H2 H4 H5
         go_wp2_with (go_at_call 19; refine (isF_calls _ x hx _).mono ?_; rintro e w' ⟨rfl, hb⟩; have HB2 := Lib.hid (HB.out.trans (hb.mono HB.out.size)); clear HB hb; have HB := HB2; clear HB2)
         go_meet
         exact ⟨rfl, HB.out⟩)
  case rest =>
    obtain ⟨rfl, hB⟩ := hcut
    have HB := Lib.hid hB
    clear hB H1 H2 H3 H4 H5 e_alpha e_lower e_upper e_digit e_alnum e_xdigit
    have hx32 : ((x : Int) == 32) = (x == 32) := by
      rw [Bool.eq_iff_iff, beq_iff_eq, beq_iff_eq]; omega
    generalize (x == 32) = b_x at *
    obtain rfl := H8.out
    clear H8
    cases b_blank <;> cases b_space <;> cases b_cntrl <;> cases b_graph <;> cases b_x <;> first
      | exact absurd H6.out (by decide)
      | exact absurd H7.out (by decide)
      | (try simp only [Bool.or_true, Bool.or_false] at e_print
         clear H6 H7
         go_wp2_with (first
           | (go_at_call 19; refine (isF_calls _ x hx _).mono ?_; rintro e w' ⟨rfl, hb⟩; have HB2 := Lib.hid (HB.out.trans (hb.mono HB.out.size)); clear HB hb; have HB := HB2; clear HB2)
           | (go_at_call 18; refine (anyF_calls _).mono ?_; rintro e w' ⟨rfl, hb⟩; have HB2 := Lib.hid (HB.out.trans (hb.mono HB.out.size)); clear HB hb; have HB := HB2; clear HB2)
           | (go_at_call 20; refine (hasC _ x hx _).mono ?_; rintro e w' ⟨rfl, hb⟩; rw [H9.out]; have HB2 := Lib.hid (HB.out.trans (hb.mono HB.out.size)); clear HB hb; have HB := HB2; clear HB2)
           | (go_at_call 7; refine (sure2_calls _).mono ?_; rintro e w' ⟨rfl, hb⟩; have HB2 := Lib.hid (HB.out.trans (hb.mono HB.out.size)); clear HB hb; have HB := HB2; clear HB2))
         go_ret
         exact ⟨rfl, HB.out⟩)
end Go.Proofs.Ytcccfhpabikbjaa

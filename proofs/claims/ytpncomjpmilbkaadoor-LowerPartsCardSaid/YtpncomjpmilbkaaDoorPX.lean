/- Texts put together: Qd Qe Qf. -/
import Derived.Test.YtpncomjpmilbkaaDoorPV
import Derived.WalkLawsBesides
import Derived.Test.YtpncomjpmilbkaaDoorPA
/- Parts of a term, the developers': eps, cat, alt, star, maybe, iter, row. Stage 11. -/
namespace Go.Proofs.YtpncomjpmilbkaaDoor
open Go.RowKit BS

theorem PartAt.alloc {A : Nat → Prop} {v : Value} {T : List NdN} {W : World} (h : PartAt A v T W) (o : Obj) : PartAt A v T (W.alloc o) := h.below ((Below.refl _ _).alloc (Nat.le_refl _) o)
theorem pts_one {A : Nat → Prop} {v : Value} {T : List NdN} {W : World} (h : PartAt A v T W) (hA : ∀ k, A k → k < W.heap.size) (ty : TypeId) : PtsAt A [T] (some ⟨W.heap.size, 0, none⟩) (W.alloc (.cells #[v] ty)) := fun _ => by
  have hb := Blk.new W #[v] ty
  refine ⟨W.heap.size, 0, rfl, hb.lt, fun e => by have := hA _ e; omega, fun i hi => ?_⟩
  obtain rfl : i = 0 := by simpa using hi
  exact ⟨v, by rw [hb.cell]; rfl, h.alloc _⟩
theorem pts_two {A : Nat → Prop} {v u : Value} {T U : List NdN} {W : World} (h : PartAt A v T W) (h' : PartAt A u U W) (hA : ∀ k, A k → k < W.heap.size) (ty : TypeId) : PtsAt A [T, U] (some ⟨W.heap.size, 0, none⟩) (W.alloc (.cells #[v, u] ty)) := fun _ => by
  have hb := Blk.new W #[v, u] ty
  refine ⟨W.heap.size, 0, rfl, hb.lt, fun e => by have := hA _ e; omega, fun i hi => ?_⟩
  have hi2 : i < 2 := hi
  obtain rfl | rfl : i = 0 ∨ i = 1 := by omega
  · exact ⟨v, by rw [hb.cell]; rfl, h.alloc _⟩
  · exact ⟨u, by rw [hb.cell]; rfl, h'.alloc _⟩
theorem wd_z (i : Nat) (h : i < 4) : wd (0 : BitVec 256) i = 0 := by
  obtain rfl | rfl | rfl | rfl : i = 0 ∨ i = 1 ∨ i = 2 ∨ i = 3 := by omega
  all_goals decide
/-- node, with no set. -/
theorem lnode_z (A : Nat → Prop) (k n : Int) (Ts : List (List NdN)) (h2 : Ts.length ≤ 2) (hne : ∀ T ∈ Ts, T ≠ []) (a : Option Addr) (m c : Nat) (hm : m = Ts.length) (w : World) (hA : ∀ k, A k → k < w.heap.size) (hpts : PtsAt A Ts a w) :
    Calls Tryd.prog 45 #[.agg #[.int .i64 k, .int .i64 0, .int .i64 0, .int .i64 n, .int .u64 0, .int .u64 0, .int .u64 0, .int .u64 0], .slice a m c] w fun e w' => ∃ v, e = .returned v ∧ PartAt A v (ndT k n 0 Ts) w' ∧ Below w.heap.size w w' := by
  subst hm
  have h := lnode_calls A k 0 0 n 0 Ts h2 hne a c w hA hpts
  rw [wd_z 0 (by omega), wd_z 1 (by omega), wd_z 2 (by omega), wd_z 3 (by omega)] at h
  exact h
set_option maxRecDepth 100000 in
set_option maxHeartbeats 8000000 in
theorem eps_calls (A : Nat → Prop) (w : World) (hA : ∀ k, A k → k < w.heap.size) :
    Calls Tryd.prog 51 #[] w fun e w' => ∃ v, e = .returned v ∧ PartAt A v (enc .eps) w' ∧ Below w.heap.size w w' := by
  have HC := Lib.hid (lnode_z A 1 0 [] (by simp) (by simp) none 0 0 rfl w hA (PtsAt.nil _ _ _))
  go_enter Tryd.func51, Tryd.ntmps51
  go_wp2_with fail
  refine HC.out.mono ?_
  rintro e w2 ⟨v, rfl, hp, hb⟩
  have HP := Lib.hid hp
  have HB := Lib.hid hb
  clear hp hb
  go_wp2_with fail
  go_ret
  exact ⟨_, rfl, HP.out, HB.out⟩
set_option maxRecDepth 100000 in
set_option maxHeartbeats 8000000 in
theorem cat_calls (A : Nat → Prop) (v u : Value) (a b : TT) (w : World) (hA : ∀ k, A k → k < w.heap.size) (hv : PartAt A v (enc a) w) (hu : PartAt A u (enc b) w) :
    Calls Tryd.prog 49 #[v, u] w fun e w' => ∃ v, e = .returned v ∧ PartAt A v (enc (.cat a b)) w' ∧ Below w.heap.size w w' := by
  have hpt := pts_two hv hu hA 63
  obtain ⟨gv, cv, rfl, _⟩ := hv
  obtain ⟨gu, cu, rfl, _⟩ := hu
  have HB := Lib.hid (show Below w.heap.size w (w.alloc (.cells #[.func (.func gv) #[] cv, .func (.func gu) #[] cu] 63)) from (Below.refl _ _).alloc (Nat.le_refl _) _)
  have HC := Lib.hid (fun c => lnode_z A 3 0 [enc a, enc b] (by simp) (by simp [enc_ne]) (some ⟨w.heap.size, 0, none⟩) 2 c rfl (w.alloc (.cells #[.func (.func gv) #[] cv, .func (.func gu) #[] cu] 63)) (fun k hk => by rw [World.size_alloc]; have := hA k hk; omega) hpt)
  clear hpt
  go_enter Tryd.func49, Tryd.ntmps49
  go_wp2_with fail
  refine (HC.out _).mono ?_
  rintro e w2 ⟨v, rfl, hp, hb⟩
  have HP := Lib.hid hp
  have HB2 := Lib.hid (HB.out.trans (hb.mono HB.out.size))
  clear hp hb
  go_wp2_with fail
  go_ret
  exact ⟨_, rfl, HP.out, HB2.out⟩
set_option maxRecDepth 100000 in
set_option maxHeartbeats 8000000 in
theorem alt_calls (A : Nat → Prop) (v u : Value) (a b : TT) (w : World) (hA : ∀ k, A k → k < w.heap.size) (hv : PartAt A v (enc a) w) (hu : PartAt A u (enc b) w) :
    Calls Tryd.prog 50 #[v, u] w fun e w' => ∃ v, e = .returned v ∧ PartAt A v (enc (.alt a b)) w' ∧ Below w.heap.size w w' := by
  have hpt := pts_two hv hu hA 63
  obtain ⟨gv, cv, rfl, _⟩ := hv
  obtain ⟨gu, cu, rfl, _⟩ := hu
  have HB := Lib.hid (show Below w.heap.size w (w.alloc (.cells #[.func (.func gv) #[] cv, .func (.func gu) #[] cu] 63)) from (Below.refl _ _).alloc (Nat.le_refl _) _)
  have HC := Lib.hid (fun c => lnode_z A 4 0 [enc a, enc b] (by simp) (by simp [enc_ne]) (some ⟨w.heap.size, 0, none⟩) 2 c rfl (w.alloc (.cells #[.func (.func gv) #[] cv, .func (.func gu) #[] cu] 63)) (fun k hk => by rw [World.size_alloc]; have := hA k hk; omega) hpt)
  clear hpt
  go_enter Tryd.func50, Tryd.ntmps50
  go_wp2_with fail
  refine (HC.out _).mono ?_
  rintro e w2 ⟨v, rfl, hp, hb⟩
  have HP := Lib.hid hp
  have HB2 := Lib.hid (HB.out.trans (hb.mono HB.out.size))
  clear hp hb
  go_wp2_with fail
  go_ret
  exact ⟨_, rfl, HP.out, HB2.out⟩
set_option maxRecDepth 100000 in
set_option maxHeartbeats 8000000 in
theorem star_calls (A : Nat → Prop) (v : Value) (a : TT) (w : World) (hA : ∀ k, A k → k < w.heap.size) (hv : PartAt A v (enc a) w) :
    Calls Tryd.prog 74 #[v] w fun e w' => ∃ v, e = .returned v ∧ PartAt A v (enc (.star a)) w' ∧ Below w.heap.size w w' := by
  have hpt := pts_one hv hA 63
  obtain ⟨gv, cv, rfl, _⟩ := hv
  have HB := Lib.hid (show Below w.heap.size w (w.alloc (.cells #[.func (.func gv) #[] cv] 63)) from (Below.refl _ _).alloc (Nat.le_refl _) _)
  have HC := Lib.hid (fun c => lnode_z A 5 0 [enc a] (by simp) (by simp [enc_ne]) (some ⟨w.heap.size, 0, none⟩) 1 c rfl (w.alloc (.cells #[.func (.func gv) #[] cv] 63)) (fun k hk => by rw [World.size_alloc]; have := hA k hk; omega) hpt)
  clear hpt
  go_enter Tryd.func74, Tryd.ntmps74
  go_wp2_with fail
  refine (HC.out _).mono ?_
  rintro e w2 ⟨v, rfl, hp, hb⟩
  have HP := Lib.hid hp
  have HB2 := Lib.hid (HB.out.trans (hb.mono HB.out.size))
  clear hp hb
  go_wp2_with fail
  go_ret
  exact ⟨_, rfl, HP.out, HB2.out⟩
set_option maxRecDepth 100000 in
set_option maxHeartbeats 8000000 in
theorem maybe_calls (A : Nat → Prop) (v : Value) (a : TT) (w : World) (hA : ∀ k, A k → k < w.heap.size) (hv : PartAt A v (enc a) w) :
    Calls Tryd.prog 76 #[v] w fun e w' => ∃ v, e = .returned v ∧ PartAt A v (enc (.maybe a)) w' ∧ Below w.heap.size w w' := by
  have hpt := pts_one hv hA 63
  obtain ⟨gv, cv, rfl, _⟩ := hv
  have HB := Lib.hid (show Below w.heap.size w (w.alloc (.cells #[.func (.func gv) #[] cv] 63)) from (Below.refl _ _).alloc (Nat.le_refl _) _)
  have HC := Lib.hid (fun c => lnode_z A 6 0 [enc a] (by simp) (by simp [enc_ne]) (some ⟨w.heap.size, 0, none⟩) 1 c rfl (w.alloc (.cells #[.func (.func gv) #[] cv] 63)) (fun k hk => by rw [World.size_alloc]; have := hA k hk; omega) hpt)
  clear hpt
  go_enter Tryd.func76, Tryd.ntmps76
  go_wp2_with fail
  refine (HC.out _).mono ?_
  rintro e w2 ⟨v, rfl, hp, hb⟩
  have HP := Lib.hid hp
  have HB2 := Lib.hid (HB.out.trans (hb.mono HB.out.size))
  clear hp hb
  go_wp2_with fail
  go_ret
  exact ⟨_, rfl, HP.out, HB2.out⟩
set_option maxRecDepth 100000 in
set_option maxHeartbeats 8000000 in
theorem iter_calls (A : Nat → Prop) (v : Value) (a : TT) (w : World) (hA : ∀ k, A k → k < w.heap.size) (hv : PartAt A v (enc a) w) :
    Calls Tryd.prog 72 #[v] w fun e w' => ∃ v, e = .returned v ∧ PartAt A v (enc (.iter a)) w' ∧ Below w.heap.size w w' := by
  have hpt := pts_one hv hA 63
  obtain ⟨gv, cv, rfl, _⟩ := hv
  have HB := Lib.hid (show Below w.heap.size w (w.alloc (.cells #[.func (.func gv) #[] cv] 63)) from (Below.refl _ _).alloc (Nat.le_refl _) _)
  have HC := Lib.hid (fun c => lnode_z A 8 0 [enc a] (by simp) (by simp [enc_ne]) (some ⟨w.heap.size, 0, none⟩) 1 c rfl (w.alloc (.cells #[.func (.func gv) #[] cv] 63)) (fun k hk => by rw [World.size_alloc]; have := hA k hk; omega) hpt)
  clear hpt
  go_enter Tryd.func72, Tryd.ntmps72
  go_wp2_with fail
  refine (HC.out _).mono ?_
  rintro e w2 ⟨v, rfl, hp, hb⟩
  have HP := Lib.hid hp
  have HB2 := Lib.hid (HB.out.trans (hb.mono HB.out.size))
  clear hp hb
  go_wp2_with fail
  go_ret
  exact ⟨_, rfl, HP.out, HB2.out⟩
/-- A function that puts two parts together. -/
def JoinOk (gf : Nat) (c : TT → TT → TT) : Prop := (∀ args w, (callFunc gf args).run Tryd.prog w = .ok (.enter gf args) w) ∧
  ∀ (A : Nat → Prop) (v u : Value) (a b : TT) (w : World), (∀ k, A k → k < w.heap.size) → PartAt A v (enc a) w → PartAt A u (enc b) w →
    Calls Tryd.prog gf #[v, u] w fun e w' => ∃ v, e = .returned v ∧ PartAt A v (enc (c a b)) w' ∧ Below w.heap.size w w'
set_option maxRecDepth 100000 in
theorem cat_ok : JoinOk 49 .cat := ⟨fun _ _ => rfl, cat_calls⟩
set_option maxRecDepth 100000 in
theorem alt_ok : JoinOk 50 .alt := ⟨fun _ _ => rfl, alt_calls⟩
set_option maxRecDepth 100000 in
set_option maxHeartbeats 8000000 in
theorem of1_calls (A : Nat → Prop) (v u : Value) (a b : TT) (w : World) (hA : ∀ k, A k → k < w.heap.size) (hv : PartAt A v (enc a) w) (hu : PartAt A u (enc b) w) :
    Calls Tryd.prog 75 #[v, u] w fun e w' => ∃ v, e = .returned v ∧ PartAt A v (enc (.maybe (.cat a b))) w' ∧ Below w.heap.size w w' := by
  have HC := Lib.hid (cat_calls A v u a b w hA hv hu)
  obtain ⟨gv, cv, rfl, _⟩ := hv
  obtain ⟨gu, cu, rfl, _⟩ := hu
  have HA := Lib.hid hA
  clear hA
  go_enter Tryd.func75, Tryd.ntmps75
  go_wp2_with fail
  refine HC.out.mono ?_
  rintro e w2 ⟨v, rfl, hp, hb⟩
  have HM := Lib.hid (maybe_calls A v (.cat a b) w2 (fun k hk => Nat.lt_of_lt_of_le (HA.out k hk) hb.size) hp)
  have HB := Lib.hid hb
  obtain ⟨gp, cp, rfl, _⟩ := hp
  clear hb HC
  go_wp2_with fail
  refine HM.out.mono ?_
  rintro e w3 ⟨v, rfl, hp, hb⟩
  have HP := Lib.hid hp
  have HB2 := Lib.hid (HB.out.trans (hb.mono HB.out.size))
  clear hp hb HM
  go_wp2_with fail
  go_ret
  exact ⟨_, rfl, HP.out, HB2.out⟩
set_option maxRecDepth 100000 in
theorem of1_ok : JoinOk 75 (fun a b => .maybe (.cat a b)) := ⟨fun _ _ => rfl, of1_calls⟩
theorem jn_drop (c : TT → TT → TT) (ts : List TT) (i : Nat) (h : i + 1 < ts.length) : jnT c (ts.drop i) = c (ts[i]'(by omega)) (jnT c (ts.drop (i + 1))) := by
  rw [List.drop_eq_getElem_cons (show i < ts.length by omega)]
  have : ts.drop (i + 1) ≠ [] := by intro e; have := congrArg List.length e; simp at this; omega
  obtain ⟨u, r, e⟩ := List.exists_cons_of_ne_nil this
  rw [e]
  rfl
theorem jn_last (c : TT → TT → TT) (ts : List TT) (i : Nat) (h : i + 1 = ts.length) : jnT c (ts.drop i) = ts[i]'(by omega) := by
  rw [List.drop_eq_getElem_cons (show i < ts.length by omega), List.drop_of_length_le (show ts.length ≤ i + 1 by omega)]
  rfl
set_option maxRecDepth 100000 in
set_option maxHeartbeats 8000000 in
theorem row_calls (gj : Nat) (c : TT → TT → TT) (hj : JoinOk gj c) (A : Nat → Prop) (ts : List TT) (hne : 0 < ts.length) (hbig : ts.length ≤ 1000000) (a : Option Addr) (m cap : Nat) (hm : m = ts.length) (w : World) (hA : ∀ k, A k → k < w.heap.size) (hpts : PtsAt A (ts.map enc) a w) :
    Calls Tryd.prog 48 #[.func (.func gj) #[] #[], .slice a m cap] w fun e w' => ∃ v, e = .returned v ∧ PartAt A v (enc (jnT c ts)) w' ∧ Below w.heap.size w w' := by
  obtain ⟨ej, hjj⟩ := hj
  have HJ := Lib.hid hjj
  have HA := Lib.hid hA
  obtain ⟨g, o, rfl, hg, hgA, hc⟩ := hpts (by intro e; rw [List.map_eq_nil_iff] at e; subst e; simp at hne)
  have hc' : ∀ i (h : i < ts.length), ∃ v, w.cell? ⟨g, o + i, none⟩ = some v ∧ PartAt A v (enc ts[i]) w := fun i h => by
    obtain ⟨v, h1, h2⟩ := hc i (by simpa using h)
    exact ⟨v, h1, by simpa using h2⟩
  have HC := Lib.hid hc'
  clear hc hc' hjj hpts hA
  obtain ⟨n, hn⟩ : ∃ n, ts.length = n + 1 := ⟨ts.length - 1, by omega⟩
  have hmn : m = n + 1 := by omega
  have HN := Lib.hid hn
  obtain ⟨vl, hl1, hl2⟩ : ∃ v, w.cell? ⟨g, o + n, none⟩ = some v ∧ PartAt A v (enc (jnT c (ts.drop n))) w := by
    rw [jn_last c ts n (by omega)]
    exact HC.out n (by omega)
  have HL := Lib.hid hl2
  obtain ⟨gl, cl, rfl, -⟩ := hl2
  have x1 : IntKind.i64.wrap ((m : Int) - 1) = (n : Int) := by rw [IntWalk.i64_in _ (by omega)]; omega
  have x2 : IntKind.i64.wrap ((n : Int) - 1) = (n : Int) - 1 := IntWalk.i64_in _ (by omega)
  have hn1 : (n : Int) < (m : Int) := by omega
  have hn0 : n < m := by omega
  have HMN := Lib.hid hmn
  clear hn hne hm hmn
  go_enter Tryd.func48, Tryd.ntmps48
  go_wp2_with fail
  go_loopw [6, 7] (fun vp vk wr => ∃ i : Nat, i ≤ n ∧ vk = .int .i64 ((i : Int) - 1) ∧ PartAt A vp (enc (jnT c (ts.drop i))) wr ∧ Below w.heap.size w wr) (fun _ vk _ => (intOf vk + 1).toNat)
  case atStart => exact ⟨n, Nat.le_refl _, rfl, HL.out, Below.refl _ _⟩
  case round =>
    obtain ⟨i, hi, rfl, hp, hB⟩ := hrel
    have HP := Lib.hid hp
    have HB := Lib.hid hB
    obtain ⟨gp, cp, rfl, -⟩ := hp
    clear hB
    by_cases h0 : 0 < i
    · have hd : (0 : Int) ≤ (i : Int) - 1 := by omega
      have hlen := HN.out
      obtain ⟨j, rfl⟩ : ∃ j, i = j + 1 := ⟨i - 1, by omega⟩
      obtain ⟨vq, tq, hq1, hq2, hq3⟩ : ∃ v t, w.cell? ⟨g, o + j, none⟩ = some v ∧ PartAt A v (enc t) w ∧ jnT c (ts.drop j) = c t (jnT c (ts.drop (j + 1))) := by
        obtain ⟨v, h1, h2⟩ := HC.out j (by omega)
        exact ⟨v, _, h1, h2, jn_drop c ts j (by omega)⟩
      have d0 := (HB.out.cell (p := ⟨g, o + j, none⟩) hg).trans hq1
      have HQ := Lib.hid (hq2.below HB.out)
      obtain ⟨gq, cq, rfl, -⟩ := hq2
      have e1 : ((j + 1 : Nat) : Int) - 1 = (j : Int) := by omega
      have xj : IntKind.i64.wrap ((j : Int) - 1) = (j : Int) - 1 := IntWalk.i64_in _ (by omega)
      have q0 : (0 : Int) ≤ (j : Int) := by omega
      have q1 : (j : Int) < (m : Int) := by have := HMN.out; omega
      have q2 : j < m := by have := HMN.out; omega
      have HJC := Lib.hid (HJ.out A _ _ _ _ wr (fun k hk => Nat.lt_of_lt_of_le (HA.out k hk) HB.out.size) HQ.out HP.out)
      rw [← hq3] at HJC
      have HJ3 := HJC
      rw [e1]
      clear e1 hlen hq1 hq3 HJC
      go_wp2_with fail
      refine HJ3.out.mono ?_
      rintro e w2 ⟨v2, rfl, hp2, hb2⟩
      have HP2 := Lib.hid hp2
      have HB2 := Lib.hid (HB.out.trans (hb2.mono HB.out.size))
      obtain ⟨g2, c2, rfl, -⟩ := hp2
      clear hb2 HJ3 HP HB HQ
      go_wp2_with fail
      go_roundw
      case rel => exact ⟨j, by omega, rfl, HP2.out, HB2.out⟩
      case measure => simp [intOf]
    · obtain rfl : i = 0 := by omega
      go_wp2_with fail
      go_ret
      rw [List.drop_zero] at HP
      exact ⟨_, rfl, HP.out, HB.out⟩
end Go.Proofs.YtpncomjpmilbkaaDoor

/- slices.Repeat of one part, so many times. Stage 11. -/
namespace Go.Proofs.YtpncomjpmilbkaaDoor
open Go.RowKit BS

set_option maxRecDepth 100000 in
set_option maxHeartbeats 4000000 in
theorem and_small : ∀ m, m < 1001 → bits BinOp.and IntKind.u64 ((m : Nat) : Int) 4294967295 = (m : Int) := by decide +kernel
set_option maxRecDepth 100000 in
set_option maxHeartbeats 4000000 in
theorem mul64_one (n : Nat) (hn : n ≤ 1000) (w : World) : Calls Tryd.prog 88 #[.int .u64 1, .int .u64 n] w fun e w' => e = .returned (.tuple #[.int .u64 0, .int .u64 n]) ∧ w' = w := by
  have a1 : bits BinOp.and IntKind.u64 1 4294967295 = 1 := and_small 1 (by omega)
  have a2 : bits BinOp.and IntKind.u64 (n : Int) 4294967295 = n := and_small n (by omega)
  have a3 : bits BinOp.and IntKind.u64 0 4294967295 = 0 := and_small 0 (by omega)
  have a4 : (n : Int) / 4294967296 = 0 := by omega
  have a5 : IntKind.u64.wrap (n : Int) = n := IntWalk.u64_in _ (by omega)
  have a6 : IntKind.u64.wrap 0 = 0 := by decide
  go_enter Tryd.func88, Tryd.ntmps88
  go_wp2_with fail
  go_ret2
  exact ⟨rfl, rfl⟩
set_option maxRecDepth 100000 in
set_option maxHeartbeats 4000000 in
theorem mul_one (n : Nat) (hn : n ≤ 1000) (w : World) : Calls Tryd.prog 85 #[.int .u64 1, .int .u64 n] w fun e w' => e = .returned (.tuple #[.int .u64 0, .int .u64 n]) ∧ w' = w := by
  go_enter Tryd.func85, Tryd.ntmps85
  go_wp2_with fail
  refine (mul64_one n hn w).mono ?_
  rintro e w2 ⟨rfl, rfl⟩
  go_wp2_with fail
  go_ret2
  exact ⟨rfl, rfl⟩
theorem made_fn (n : Nat) : madeCells #[Value.nilFunc] n = (List.replicate n Value.nilFunc).toArray := by
  apply Array.ext
  · simp [madeCells]
  · intro k h1 h2
    have hk : k < n := by simpa using h2
    have : (madeCells #[Value.nilFunc] n)[k]? = some .nilFunc := by
      unfold madeCells
      rw [Array.getElem?_map, Array.getElem?_range, if_pos (by simpa using hk)]
      show some (#[Value.nilFunc][k % 1]!) = _
      rw [Nat.mod_one]
      rfl
    rw [Array.getElem?_eq_getElem h1] at this
    rw [Option.some.inj this]
    simp
theorem makeFn (n : Nat) (hn : n ≤ 1000) (W : World) : (Instr.makeSlice 84 (.int .i64 (n : Int)) (.int .i64 (n : Int))).run Tryd.prog W = .ok (.slice (some ⟨W.heap.size, 0, none⟩) n n) (W.alloc (.cells (List.replicate n Value.nilFunc).toArray 63)) := by
  obtain ⟨i, hi, hzz⟩ := Option.map_eq_some_iff.1 info_fn
  simp only [Prod.mk.injEq] at hzz
  obtain ⟨hz, hs, hb⟩ := hzz
  have := run_make (P := Tryd.prog) W 84 63 i _ Tryd.underlying84 hi hz .i64 .i64 n n (by omega) (by omega) (by rw [hb]; omega) (by omega)
  rw [hs, Int.toNat_natCast] at this
  rw [show (Value.nilFunc).cells = #[Value.nilFunc] from rfl, made_fn, Nat.mul_one] at this
  exact this
theorem splice_rep (v z : Value) (n k m : Nat) (h : k + m ≤ n) : splice (List.replicate k v ++ List.replicate (n - k) z) k (List.replicate m v) = List.replicate (k + m) v ++ List.replicate (n - (k + m)) z := by
  unfold splice
  have e1 : (List.replicate k v ++ List.replicate (n - k) z).take k = List.replicate k v := by
    rw [List.take_append_of_le_length (by simp), List.take_of_length_le (by simp)]
  have e2 : (List.replicate k v ++ List.replicate (n - k) z).drop (k + (List.replicate m v).length) = List.replicate (n - (k + m)) z := by
    rw [List.length_replicate, List.drop_append, List.drop_of_length_le (by simp), List.nil_append, List.length_replicate, List.drop_replicate]
    congr 1
    omega
  rw [e1, e2, ← List.append_assoc, List.replicate_append_replicate]
/-- copy within a row of parts, or to it. -/
theorem copy_fn (w0 W : World) (B R k m n : Nat) (u z : Value) (hu : u.oneCell' = true) (hkm : k + m ≤ n) (hR : W.heap[R]? = some (.cells (List.replicate k u ++ List.replicate (n - k) z).toArray 63 (0, 0))) (hb : Below B w0 W) (hBR : B ≤ R)
    (dLen dCap sLen sCap : Nat) (ad : Addr) (hm : m = Nat.min sLen dLen) (hsrc : ∀ j, j < m → W.cell? (ad.add j) = some u) (dp : Option Addr) (hdp : 0 < m → dp = some ⟨R, k, none⟩) :
    ∃ W', (∀ ty, (Builtin.copy_ #[84, 84] ty #[.slice dp dLen dCap, .slice (some ad) sLen sCap]).run Tryd.prog W = .ok (.int .i64 (m : Nat)) W') ∧ W'.heap[R]? = some (.cells (List.replicate (k + m) u ++ List.replicate (n - (k + m)) z).toArray 63 (0, 0)) ∧ Below B w0 W' := by
  have hsz1 : (Tryd.prog.info? 63).map (·.size) = some 1 := by kernel_rfl
  by_cases h0 : m = 0
  · subst h0
    refine ⟨W, fun ty => ?_, by simpa using hR, hb⟩
    exact run_copy_none (P := Tryd.prog) W _ _ ty 63 dp (some ad) dLen dCap sLen sCap Tryd.underlying84 hsz1 hm.symm
  · have hdp2 := hdp (by omega)
    subst hdp2
    refine ⟨W.setRow R (splice (List.replicate k u ++ List.replicate (n - k) z) k (List.replicate m u)).toArray, fun ty => (run_copy_row (P := Tryd.prog) W _ _ ty 63 R k dLen dCap ad sLen sCap _ 63 (List.replicate m u) Tryd.underlying84 hsz1 hR (by rw [List.length_replicate]; exact hm) (fun j v hj => ?_) (by simp; omega) (fun v hv => by rw [List.eq_of_mem_replicate hv]; exact hu)).trans ?_, ?_, ?_⟩
    · have hj2 := (List.getElem?_eq_some_iff.1 hj).1
      rw [List.length_replicate] at hj2
      rw [List.getElem?_replicate, if_pos hj2] at hj
      cases hj
      exact hsrc j hj2
    · rw [List.length_replicate]
      unfold splice
      rw [List.length_replicate, ← List.append_assoc]
      rfl
    · rw [splice_rep u z n k m hkm]
      exact setRow_heap W R _ _ _ _ hR
    · exact below_setRow hb hBR _
theorem StepsL.runK {P : Program} {S S' : World → Prop} {o : Oper} {v : Value} {a : Act} {d : Option Tmp} (hd : o.dst = d) (h : ∀ w, S w → ∃ w', (execOp a.eval o).run P w = .ok (.value v) w' ∧ S' w') :
    ∀ w, S w → ∀ (K : Act → World → Prop) (Q : Exit → Act → World → Prop), (∀ w', S' w' → K (a.put d v) w') → o.wp P a w K Q :=
  fun w hS K Q hK => by
    subst hd
    obtain ⟨w', hr, hS'⟩ := h w hS
    unfold Oper.wp; rw [hr]
    exact hK w' hS'
set_option maxRecDepth 100000 in
set_option maxHeartbeats 8000000 in
theorem repeat_calls (gf : Nat) (caps : Array Value) (n : Nat) (hn : n ≤ 1000) (g0 o0 c0 : Nat) (w : World) (hg : g0 < w.heap.size) (hc : w.cell? ⟨g0, o0, none⟩ = some (.func (.func gf) #[] caps)) :
    Calls Tryd.prog 73 #[.slice (some ⟨g0, o0, none⟩) 1 c0, .int .i64 n] w fun e w' => ∃ R, e = .returned (.slice (some ⟨R, 0, none⟩) n n) ∧ w.heap.size ≤ R ∧ Blk w' R (List.replicate n (Value.func (.func gf) #[] caps)).toArray 63 ∧ Below w.heap.size w w' := by
  have x1 : IntKind.u64.wrap (n : Int) = n := IntWalk.u64_in _ (by omega)
  have x2 : IntKind.i64.wrap (n : Int) = n := IntWalk.i64_in _ (by omega)
  have x3 : decide ((9223372036854775807 : Int) < (n : Int)) = false := by rw [decide_eq_false_iff_not]; omega
  have x4 : decide ((n : Int) < 0) = false := by rw [decide_eq_false_iff_not]; omega
  obtain ⟨Z, hZ⟩ : ∃ Z, Z = (List.replicate n Value.nilFunc).toArray := ⟨_, rfl⟩
  have hmk := makeFn n hn
  rw [← hZ] at hmk
  have HM := Lib.hid (mul_one n hn)
  have HB1 := Lib.hid (show Below w.heap.size w (w.alloc (.cells Z 63)) from (Below.refl _ _).alloc (Nat.le_refl _) _)
  have HR := Lib.hid (Blk.new w Z 63)
  have HZ := Lib.hid hZ
  clear hZ
  have d0 := (HB1.out.cell (p := ⟨g0, o0, none⟩) hg).trans hc
  go_enter Tryd.func73, Tryd.ntmps73
  go_wp2_with fail
  refine (HM.out w).mono ?_
  rintro e w2 ⟨rfl, rfl⟩
  go_upto_region 7 with fail
  obtain ⟨m0, hm0⟩ : ∃ m0, m0 = Nat.min 1 n := ⟨_, rfl⟩
  have hm1 : m0 ≤ n := by rw [hm0]; exact Nat.min_le_right _ _
  have hm2 : 0 < n → 0 < m0 := by intro h; rw [hm0]; exact Nat.lt_min.2 ⟨by omega, h⟩
  have hm3 : m0 ≤ 1 := by rw [hm0]; exact Nat.min_le_left _ _
  have HRR : (w2.alloc (.cells Z 63)).heap[w2.heap.size]? = some (.cells (List.replicate 0 (Value.func (.func gf) #[] caps) ++ List.replicate (n - 0) Value.nilFunc).toArray 63 (0, 0)) := by
    have h : (List.replicate 0 (Value.func (.func gf) #[] caps) ++ List.replicate (n - 0) Value.nilFunc).toArray = Z := by rw [HZ.out]; rfl
    rw [h]; exact HR.out
  obtain ⟨w4, hrun, hr4, hb4⟩ := copy_fn w2 _ w2.heap.size w2.heap.size 0 m0 n _ _ rfl (by omega) HRR HB1.out (Nat.le_refl _) n n 1 c0 ⟨g0, o0, none⟩ hm0 (fun j hj => by obtain rfl : j = 0 := by { omega }; exact d0) (some ⟨w2.heap.size, 0, none⟩) (fun _ => rfl)
  have HR4 := Lib.hid hr4
  have HB4 := Lib.hid hb4
  have HM0 := Lib.hid hm0
  clear hm0 hmk HR HRR hr4 hb4 d0 HB1
  go_wp2_with fail
  go_loopw [8] (fun vk wr => ∃ k : Nat, vk = .int .i64 k ∧ k ≤ n ∧ (0 < n → 0 < k) ∧ wr.heap[w2.heap.size]? = some (.cells (List.replicate k (Value.func (.func gf) #[] caps) ++ List.replicate (n - k) Value.nilFunc).toArray 63 (0, 0)) ∧ Below w2.heap.size w2 wr) (fun vk _ => n - (intOf vk).toNat)
  case atStart => exact ⟨m0, rfl, hm1, hm2, by simpa using HR4.out, HB4.out⟩
  case round =>
    obtain ⟨k, rfl, hk, hk0, hr, hb⟩ := hrel
    by_cases hlt : k < n
    · have hkp : 0 < k := hk0 (by omega)
      have hki : (k : Int) < (n : Int) := by omega
      have hkn : (0 : Int) ≤ (k : Int) := by omega
      have hkd : k ≤ n := hk
      have HRK := Lib.hid hr
      have HBK := Lib.hid hb
      have hsz1 : (Tryd.prog.info? 63).map (·.size) = some 1 := by kernel_rfl
      clear hr hb hrun HR4 HB4
      go_upto_region 9 with fail
      obtain ⟨m, hm⟩ : ∃ m, m = Nat.min k (n - k) := ⟨_, rfl⟩
      have hm1 : k + m ≤ n := by have h : Nat.min k (n - k) ≤ n - k := Nat.min_le_right _ _; omega
      have hm2 : 0 < m := by rw [hm]; exact Nat.lt_min.2 ⟨hkp, by omega⟩
      have hnk : ¬ n = k := by omega
      have hm3 : m ≤ k := by rw [hm]; exact Nat.min_le_left _ _
      have HCP := Lib.hid (show ∀ W, (W.heap[w2.heap.size]? = some (.cells (List.replicate k (Value.func (.func gf) #[] caps) ++ List.replicate (n - k) Value.nilFunc).toArray 63 (0, 0)) ∧ Below w2.heap.size w2 W) → ∃ W', (∀ ty, (Builtin.copy_ #[84, 84] ty #[.slice (some ⟨w2.heap.size, k, none⟩) (n - k) (n - k), .slice (some ⟨w2.heap.size, 0, none⟩) k n]).run Tryd.prog W = .ok (.int .i64 (m : Nat)) W') ∧ (W'.heap[w2.heap.size]? = some (.cells (List.replicate (k + m) (Value.func (.func gf) #[] caps) ++ List.replicate (n - (k + m)) Value.nilFunc).toArray 63 (0, 0)) ∧ Below w2.heap.size w2 W') from fun W hW => by
        refine copy_fn w2 W w2.heap.size w2.heap.size k m n _ _ rfl hm1 hW.1 hW.2 (Nat.le_refl _) (n - k) (n - k) k n ⟨w2.heap.size, 0, none⟩ hm (fun j hj => ?_) _ (fun _ => rfl)
        have hb : Blk W w2.heap.size _ _ := hW.1
        have e : (⟨w2.heap.size, 0, none⟩ : Addr).add j = ⟨w2.heap.size, j, none⟩ := by unfold Addr.add; simp [eq_comm]
        rw [e, hb.cell j, List.getElem?_toArray, List.getElem?_append_left (by rw [List.length_replicate]; omega), List.getElem?_replicate, if_pos (by omega)])
      have xkm : IntKind.i64.wrap ((k : Int) + (m : Int)) = (k : Int) + (m : Int) := IntWalk.i64_in _ (by omega)
      have h0 : (fun W : World => W.heap[w2.heap.size]? = some (.cells (List.replicate k (Value.func (.func gf) #[] caps) ++ List.replicate (n - k) Value.nilFunc).toArray 63 (0, 0)) ∧ Below w2.heap.size w2 W) wr.drew := ⟨HRK.out, HBK.out.drew⟩
      clear hm HRK HBK
      refine region_stepsL (m := 7) (S0 := fun W : World => W.heap[w2.heap.size]? = some (.cells (List.replicate k (Value.func (.func gf) #[] caps) ++ List.replicate (n - k) Value.nilFunc).toArray 63 (0, 0)) ∧ Below w2.heap.size w2 W) (S1 := fun W : World => W.heap[w2.heap.size]? = some (.cells (List.replicate (k + m) (Value.func (.func gf) #[] caps) ++ List.replicate (n - (k + m)) Value.nilFunc).toArray 63 (0, 0)) ∧ Below w2.heap.size w2 W) (by kernel_rfl) (by kernel_rfl) h0 ?_
      clear h0
      simp only [List.size_toArray, List.length_cons, List.length_nil, Nat.reduceAdd, Array.replicate_succ, Array.replicate_zero, List.push_toArray, List.nil_append, List.cons_append]
      refine AnyL.both (m := 7) (i := 0) (d := some 38) (v := .int .i64 (k : Nat)) rfl rfl (by kernel_rfl) (by kernel_rfl) (by kernel_rfl) (by kernel_rfl) (StepsIf.yield (by kernel_rfl) (fun w' hS => by clear hS; go_simp)) (StepsIf.yield (by kernel_rfl) (fun w' hS => by clear hS; go_simp)) ?_
      intro a' ha'
      simp only [Act.put, List.setIfInBounds_toArray, List.set_cons_zero, List.set_cons_succ] at ha'
      subst ha'
      refine AnyL.both (m := 7) (i := 1) (d := some 39) (v := .slice (some ⟨w2.heap.size, 0, none⟩) n n) rfl rfl (by kernel_rfl) (by kernel_rfl) (by kernel_rfl) (by kernel_rfl) (StepsIf.yield (by kernel_rfl) (fun w' hS => by clear hS; go_simp)) (StepsIf.yield (by kernel_rfl) (fun w' hS => by clear hS; go_simp)) ?_
      intro a' ha'
      simp only [Act.put, List.setIfInBounds_toArray, List.set_cons_zero, List.set_cons_succ] at ha'
      subst ha'
      refine AnyL.both (m := 7) (i := 2) (d := some 40) (v := .int .i64 (k : Nat)) rfl rfl (by kernel_rfl) (by kernel_rfl) (by kernel_rfl) (by kernel_rfl) (StepsIf.yield (by kernel_rfl) (fun w' hS => by clear hS; go_simp)) (StepsIf.yield (by kernel_rfl) (fun w' hS => by clear hS; go_simp)) ?_
      intro a' ha'
      simp only [Act.put, List.setIfInBounds_toArray, List.set_cons_zero, List.set_cons_succ] at ha'
      subst ha'
      refine AnyL.next (m := 7) (i := 3) (d := some 41) (v := .slice (some ⟨w2.heap.size, k, none⟩) (n - k) (n - k)) rfl rfl (by kernel_rfl) (by kernel_rfl) (by kernel_rfl) (by kernel_rfl) (StepsIf.yield (by kernel_rfl) (fun w' hS => by clear hS; go_simp)) ?_
      intro a' ha'
      simp only [Act.put, List.setIfInBounds_toArray, List.set_cons_zero, List.set_cons_succ] at ha'
      subst ha'
      refine AnyL.both (m := 7) (i := 4) (d := some 42) (v := .slice (some ⟨w2.heap.size, 0, none⟩) n n) rfl rfl (by kernel_rfl) (by kernel_rfl) (by kernel_rfl) (by kernel_rfl) (StepsIf.yield (by kernel_rfl) (fun w' hS => by clear hS; go_simp)) (StepsIf.yield (by kernel_rfl) (fun w' hS => by clear hS; go_simp)) ?_
      intro a' ha'
      simp only [Act.put, List.setIfInBounds_toArray, List.set_cons_zero, List.set_cons_succ] at ha'
      subst ha'
      refine AnyL.both (m := 7) (i := 5) (d := some 43) (v := .int .i64 (k : Nat)) rfl rfl (by kernel_rfl) (by kernel_rfl) (by kernel_rfl) (by kernel_rfl) (StepsIf.yield (by kernel_rfl) (fun w' hS => by clear hS; go_simp)) (StepsIf.yield (by kernel_rfl) (fun w' hS => by clear hS; go_simp)) ?_
      intro a' ha'
      simp only [Act.put, List.setIfInBounds_toArray, List.set_cons_zero, List.set_cons_succ] at ha'
      subst ha'
      refine AnyL.next (m := 7) (i := 6) (d := some 44) (v := .slice (some ⟨w2.heap.size, 0, none⟩) k n) rfl rfl (by kernel_rfl) (by kernel_rfl) (by kernel_rfl) (by kernel_rfl) (StepsIf.yield (by kernel_rfl) (fun w' hS => by clear hS; go_simp)) ?_
      intro a' ha'
      simp only [Act.put, List.setIfInBounds_toArray, List.set_cons_zero, List.set_cons_succ] at ha'
      subst ha'
      refine AnyL.store (m := 7) (d := some 45) (v := .int .i64 (m : Nat)) rfl rfl (by kernel_rfl) (by kernel_rfl) (by kernel_rfl) ?hy ?_
      case hy =>
        refine StepsL.runK rfl (fun w' hS => ?_)
        obtain ⟨w4, h1, h2⟩ := HCP.out w' hS
        refine ⟨w4, ?_, h2⟩
        clear hS h2
        go_simp
      intro a' ha'
      simp only [Act.put, List.setIfInBounds_toArray, List.set_cons_zero, List.set_cons_succ] at ha'
      subst ha'
      refine AnyL.after (m := 7) (i := 8) (d := some 46) (v := .int .i64 ((k : Int) + (m : Int))) rfl rfl (by kernel_rfl) (by kernel_rfl) (by kernel_rfl) (by kernel_rfl) (StepsIf.yield (by kernel_rfl) (fun w' hS => by clear hS; go_simp)) ?_
      intro a' ha'
      simp only [Act.put, List.setIfInBounds_toArray, List.set_cons_zero, List.set_cons_succ] at ha'
      subst ha'
      refine AnyL.after (m := 7) (i := 9) (d := some 8) (v := .int .i64 ((k : Int) + (m : Int))) rfl rfl (by kernel_rfl) (by kernel_rfl) (by kernel_rfl) (by kernel_rfl) (StepsIf.yield (by kernel_rfl) (fun w' hS => by clear hS; go_simp)) ?_
      intro a' ha'
      simp only [Act.put, List.setIfInBounds_toArray, List.set_cons_zero, List.set_cons_succ] at ha'
      subst ha'
      refine AnyL.done (by kernel_rfl) (by kernel_rfl) (fun w' hS => ?_) _
      obtain ⟨hr5, hb5⟩ := hS
      have HR5 := Lib.hid hr5
      have HB5 := Lib.hid hb5
      clear hr5 hb5 HCP
      go_wp2_with fail
      go_roundw
      case rel => exact ⟨k + m, by simp, by omega, fun _ => by omega, HR5.out, HB5.out⟩
      case measure => simp [intOf]; omega
    · obtain rfl : k = n := by omega
      have HRK := Lib.hid hr
      have HBK := Lib.hid hb
      clear hr hb hrun HR4 HB4
      go_wp2_with fail
      go_ret
      refine ⟨w2.heap.size, rfl, Nat.le_refl _, ?_, HBK.out⟩
      have h := HRK.out
      rw [Nat.sub_self, List.replicate_zero, List.append_nil] at h
      exact h
end Go.Proofs.YtpncomjpmilbkaaDoor

/- Parts of a term, the developers': copies of a kid. Stage 11. -/
namespace Go.Proofs.YtpncomjpmilbkaaDoor
open Go.RowKit BS

theorem OwF.of_blk {B R n : Nat} {A : Nat → Prop} {u : Value} {T : List NdN} {W : World} (hb : Blk W R (List.replicate n u).toArray 63) (hB : B ≤ R) (hn : n ≤ 1000) (hp : PartAt A u T W) : OwF B A (.slice (some ⟨R, 0, none⟩) n n) (List.replicate n T) W := by
  refine ⟨List.replicate n u, by simp, ?_, fun i hi => ?_⟩
  · rw [List.length_replicate]
    refine ⟨by simp, .inr ⟨R, n, _, rfl, hB, hb, Nat.le_refl _, by unfold maxLen; omega, by simp, ?_⟩⟩
    simp
  · rw [List.length_replicate] at hi
    refine ⟨u, by rw [List.getElem?_replicate, if_pos hi], ?_⟩
    rw [List.getElem_replicate]
    exact hp
theorem OwF.below {B : Nat} {A : Nat → Prop} {v : Value} {Ts : List (List NdN)} {W W' : World} (h : OwF B A v Ts W) (hb : Below W.heap.size W W') : OwF B A v Ts W' := by
  obtain ⟨vals, h1, h2, h3⟩ := h
  refine ⟨vals, h1, owns_keep h2 fun g hg => hb.block g (World.ownsRow.lt h2 g hg).2, fun i hi => ?_⟩
  obtain ⟨u, h4, h5⟩ := h3 i hi
  exact ⟨u, h4, h5.below hb⟩
theorem OwF.snoc {B : Nat} {A : Nat → Prop} {v : Value} {Ts : List (List NdN)} {T : List NdN} {u : Value} {vals : List Value} {W : World} (hl : vals.length = Ts.length) (hp : ∀ i (h : i < Ts.length), ∃ u, vals[i]? = some u ∧ PartAt A u Ts[i] W) (hu : PartAt A u T W) (ho : W.ownsRow B 63 1 v (Ts.length + 1) (vals ++ [u])) : OwF B A v (Ts ++ [T]) W := by
  refine ⟨vals ++ [u], by simp [hl], by rw [List.length_append]; exact ho, fun i hi => ?_⟩
  rw [List.length_append, List.length_singleton] at hi
  rcases Nat.lt_or_ge i Ts.length with h1 | h1
  · rw [List.getElem?_append_left (by omega), List.getElem_append_left h1]
    exact hp i h1
  · obtain rfl : i = Ts.length := by omega
    refine ⟨u, by rw [List.getElem?_append_right (by omega), hl, Nat.sub_self]; rfl, ?_⟩
    rw [List.getElem_append_right (Nat.le_refl _)]
    simpa using hu
/-- What bears A bears blocks that are new since. -/
theorem PartAt.more {A A' : Nat → Prop} {v : Value} {T : List NdN} {W0 W : World} (h : PartAt A v T W0) (k : KpA A W0 W) (hA : ∀ x, A' x → A x ∨ W0.heap.size ≤ x) : PartAt A' v T W := by
  obtain ⟨gf, caps, hv, eg, hp⟩ := h
  refine ⟨gf, caps, hv, eg, fun W2 k2 base s L hb ho hl hs => hp W2 ?_ base s L hb ho hl fun b hb2 => (hs b hb2).elim (hA b) fun h => .inr (Nat.le_trans k.size h)⟩
  exact ⟨k2.os.trans k.os, k2.tape.trans k.tape, k2.output.trans k.output, Nat.le_trans k.size k2.size, fun i hi hn => (k2.block i (Nat.lt_of_lt_of_le hi k.size) fun e => (hA i e).elim hn (fun h => by omega)).trans (k.block i hi hn)⟩
theorem own_rep {B R n : Nat} {u : Value} {W : World} (hb : Blk W R (List.replicate n u).toArray 63) (hB : B ≤ R) (hn : n ≤ 1000) : W.ownsRow B 63 1 (.slice (some ⟨R, 0, none⟩) n n) n (List.replicate n u) := by
  refine ⟨by simp, .inr ⟨R, n, _, rfl, hB, hb, Nat.le_refl _, by unfold maxLen; omega, by simp, ?_⟩⟩
  simp
/-- A row of one part, and another one behind it. -/
theorem OwF.rep_snoc {B n : Nat} {A : Nat → Prop} {v u u' : Value} {T T' : List NdN} {W : World} (hu : PartAt A u T W) (hu' : PartAt A u' T' W) (ho : W.ownsRow B 63 1 v (n + 1) (List.replicate n u ++ [u'])) : OwF B A v (List.replicate n T ++ [T']) W := by
  refine OwF.snoc (vals := List.replicate n u) (by simp) (fun i hi => ?_) hu' (by rw [List.length_replicate]; exact ho)
  rw [List.length_replicate] at hi
  refine ⟨u, by rw [List.getElem?_replicate, if_pos hi], ?_⟩
  rw [List.getElem_replicate]
  exact hu
/-- A row that is appended to lies in memory of the call's own: all older is kept. -/
theorem below_app {B : Nat} {w0 w w' : World} {v : Value} {n : Nat} {xs : List Value} {e : TypeId} {k : Nat} (hb : Below B w0 w) (ho : w.ownsRow B e k v n xs) (hg : w.grownBy w' v.ownBlock) (hB : B ≤ w.heap.size) : Below B w0 w' :=
  hb.grown hg hB fun b e => (World.ownsRow.lt ho b e).1
set_option maxRecDepth 100000 in
set_option maxHeartbeats 4000000 in
theorem all_calls (s l st : Nat) (hs : s ≤ 1000) (hl : l ≤ 1000) (hst : st ≤ 1000) (w : World) :
    Calls Tryd.prog 69 #[.agg #[.int .i64 s, .int .i64 l, .int .i64 st]] w fun e w' => e = .returned (.int .i64 ((s + l + st : Nat) : Int)) ∧ Below w.heap.size w w' := by
  have x1 : IntKind.i64.wrap ((s : Int) + (l : Int)) = (s : Int) + (l : Int) := IntWalk.i64_in _ (by omega)
  have x2 : IntKind.i64.wrap ((s : Int) + (l : Int) + (st : Int)) = (s : Int) + (l : Int) + (st : Int) := IntWalk.i64_in _ (by omega)
  have HB := Lib.hid (show Below w.heap.size w (w.alloc (.cells #[.int .i64 s, .int .i64 l, .int .i64 st] 88)) from (Below.refl _ _).alloc (Nat.le_refl _) _)
  go_enter Tryd.func69, Tryd.ntmps69
  go_wp2_with fail
  go_ret
  exact ⟨by simp, HB.out⟩
/-- What copies of a tree are. -/
def ofC (t : TT) (s l st : Nat) : TT := if s + l + st = 0 then .eps else jnT .cat (List.replicate s (.iter t) ++ (if 0 < st then [.star (.iter t)] else []) ++ (if 0 < l then [lkT (.iter t) l] else []))
theorem lk_row (one : TT) : ∀ l, jnT (fun a b => .maybe (.cat a b)) (List.replicate l one ++ [.maybe one]) = lkT one (l + 1)
  | 0 => rfl
  | l + 1 => by
    rw [List.replicate_succ, List.cons_append]
    have hne : List.replicate l one ++ [TT.maybe one] ≠ [] := by simp
    obtain ⟨u, r, e⟩ := List.exists_cons_of_ne_nil hne
    have ih := lk_row one l
    rw [e] at ih ⊢
    show TT.maybe (.cat one (jnT _ (u :: r))) = _
    rw [ih]
    rfl
set_option maxRecDepth 100000 in
set_option maxHeartbeats 16000000 in
theorem of_calls (A : Nat → Prop) (s l st : Nat) (hs : s ≤ 1000) (hl : l ≤ 1000) (hst : st ≤ 1000) (hx : st = 0 ∨ l = 0) (v : Value) (t : TT) (w : World) (hA : ∀ k, A k → k < w.heap.size) (hv : PartAt A v (enc t) w) :
    Calls Tryd.prog 47 #[.agg #[.int .i64 s, .int .i64 l, .int .i64 st], v] w fun e w' => ∃ v, e = .returned v ∧ PartAt A v (enc (ofC t s l st)) w' ∧ Below w.heap.size w w' := by
  have HA := Lib.hid hA
  have hb1 : Below w.heap.size w (w.alloc (.cells #[.int .i64 s, .int .i64 l, .int .i64 st] 88)) := (Below.refl _ _).alloc (Nat.le_refl _) _
  have BC : Blk (w.alloc (.cells #[.int .i64 s, .int .i64 l, .int .i64 st] 88)) w.heap.size #[.int .i64 s, .int .i64 l, .int .i64 st] 88 := Blk.new w _ _
  have HV := Lib.hid (hv.below hb1)
  have HB := Lib.hid hb1
  obtain ⟨gv, cv, rfl, -⟩ := hv
  clear hb1 hA
  go_enter Tryd.func47, Tryd.ntmps47
  go_upto_region 1 with fail
  generalize w.alloc (.cells #[.int .i64 s, .int .i64 l, .int .i64 st] 88) = w1 at *
  have c0 := BC.cell 0; have c1 := BC.cell 1; have c2 := BC.cell 2
  simp only [List.getElem?_toArray, List.getElem?_cons_zero, List.getElem?_cons_succ] at c0 c1 c2
  go_wp2_with fail
  refine (all_calls s l st hs hl hst w1).mono ?_
  rintro e w2 ⟨rfl, hb⟩
  have BC2 := BC.below hb BC.lt
  have HV2 := Lib.hid (HV.out.below hb)
  have HB2 := Lib.hid (HB.out.trans (hb.mono HB.out.size))
  clear hb HV HB c0 c1 c2 BC
  have c0 := BC2.cell 0; have c1 := BC2.cell 1; have c2 := BC2.cell 2
  simp only [List.getElem?_toArray, List.getElem?_cons_zero, List.getElem?_cons_succ] at c0 c1 c2
  by_cases h0 : s + l + st = 0
  · have e0 : ((s + l + st : Nat) : Int) = 0 := by omega
    rw [e0]
    go_wp2_with fail
    refine (eps_calls A w2 (fun k hk => Nat.lt_of_lt_of_le (HA.out k hk) HB2.out.size)).mono ?_
    rintro e w3 ⟨v3, rfl, hp, hb⟩
    have HP := Lib.hid hp
    have HB3 := Lib.hid (HB2.out.trans (hb.mono HB2.out.size))
    clear hp hb
    go_wp2_with fail
    go_ret
    refine ⟨_, rfl, ?_, HB3.out⟩
    unfold ofC
    rw [if_pos h0]
    exact HP.out
  · have e0 : (((s + l + st : Nat) : Int) == 0) = false := by rw [beq_eq_false_iff_ne]; omega
    have e0' : ¬ ((s + l + st : Nat) : Int) = 0 := by omega
    generalize ((s + l + st : Nat) : Int) = tot at *
    obtain ⟨i0, hinf, hz0, hz1, hz2⟩ := info_parts info_fn
    have hA2 : ∀ k, A k → k < w2.heap.size := fun k hk => Nat.lt_of_lt_of_le (HA.out k hk) HB2.out.size
    go_wp2_with fail
    refine (iter_calls A _ t w2 hA2 HV2.out).mono ?_
    rintro e w3 ⟨v1, rfl, hp, hb⟩
    have BC3 := BC2.below hb BC2.lt
    have HB3 := Lib.hid (HB2.out.trans (hb.mono HB2.out.size))
    have HONE := Lib.hid hp
    have hA3 : Hid (∀ k, A k → k < w3.heap.size) := Lib.hid fun k hk => Nat.lt_of_lt_of_le (hA2 k hk) hb.size
    obtain ⟨g1, c1f, rfl, -⟩ := hp
    clear hb HB2 HV2 c0 c1 c2 BC2 hA2
    have hb3a : Below w3.heap.size w3 (w3.alloc (.cells #[.func (.func g1) #[] c1f] 63)) := (Below.refl _ _).alloc (Nat.le_refl _) _
    have BO := Blk.new w3 #[.func (.func g1) #[] c1f] 63
    have BC3a := BC3.below hb3a BC3.lt
    have c0 := BC3a.cell 0
    have o0 := BO.cell 0
    simp only [List.getElem?_toArray, List.getElem?_cons_zero] at c0 o0
    have HREP := Lib.hid (repeat_calls g1 c1f s hs w3.heap.size 0 1 (w3.alloc (.cells #[.func (.func g1) #[] c1f] 63)) BO.lt o0)
    have HB3a := Lib.hid (HB3.out.trans (hb3a.mono HB3.out.size))
    have hlt3 := BO.lt
    clear hb3a HB3 o0
    go_upto_region 4 with fail
    go_wp2_with fail
    refine HREP.out.mono ?_
    rintro e w4 ⟨R, rfl, hR, hblk, hb⟩
    have BC4 := BC3a.below hb BC3a.lt
    have HB4 := Lib.hid (HB3a.out.trans (hb.mono HB3a.out.size))
    have HK4 := Lib.hid (KpA.trans (kp_of_below (A := A) ((Below.refl w3.heap.size w3).alloc (Nat.le_refl _) (.cells #[.func (.func g1) #[] c1f] 63))) (kp_of_below (A := A) hb))
    have HR4 := Lib.hid hblk
    have hR3 : w3.heap.size < R := by omega
    have hRlt := hblk.lt
    have c1 := BC4.cell 1; have c2 := BC4.cell 2
    simp only [List.getElem?_toArray, List.getElem?_cons_zero, List.getElem?_cons_succ] at c1 c2
    have hw3 : w.heap.size ≤ w3.heap.size := by have := HB3a.out.size; have := BC3.lt; omega
    clear hb hblk c0 HREP HB3a BC3a BO hR hlt3
    rcases Nat.eq_zero_or_pos st with hst0 | hst0
    · subst hst0
      have d2 : decide ((0 : Int) < ((0 : Nat) : Int)) = false := by decide
      rcases Nat.eq_zero_or_pos l with hl0 | hl0
      · subst hl0
        go_wp2_with fail
        have HF := OwF.of_blk (B := w.heap.size) HR4.out (by omega) hs (HONE.out.kp HK4.out)
        obtain ⟨af, cf, eF, hpts⟩ := HF.pts HA.out
        rw [List.length_replicate] at eF
        cases eF
        have hmap : (List.replicate s (TT.iter t)).map enc = List.replicate s (enc (.iter t)) := by rw [List.map_replicate]
        rw [← hmap] at hpts
        refine (row_calls _ .cat cat_ok A (List.replicate s (.iter t)) (by rw [List.length_replicate]; omega) (by rw [List.length_replicate]; omega) _ s s (by rw [List.length_replicate]) w4 (fun k hk => Nat.lt_of_lt_of_le (HA.out k hk) HB4.out.size) hpts).mono ?_
        rintro e w5 ⟨v5, rfl, hp, hb⟩
        have HP := Lib.hid hp
        have HB5 := Lib.hid (HB4.out.trans (hb.mono HB4.out.size))
        clear hp hb hpts
        go_wp2_with fail
        go_ret
        refine ⟨_, rfl, ?_, HB5.out⟩
        unfold ofC
        rw [if_neg h0, if_neg (by omega), if_neg (by omega), List.append_nil, List.append_nil]
        exact HP.out
      · have hl1 : (0 : Int) < (l : Int) := by omega
        obtain ⟨m, hlm⟩ : ∃ m, l = m + 1 := ⟨l - 1, by omega⟩
        have hm : m ≤ 1000 := by omega
        have xl : IntKind.i64.wrap ((l : Int) - 1) = (m : Int) := by rw [IntWalk.i64_in _ (by omega)]; omega
        have HLM := Lib.hid hlm
        clear hlm
        have hb4a : Below w4.heap.size w4 (w4.alloc (.cells #[.func (.func g1) #[] c1f] 63)) := (Below.refl _ _).alloc (Nat.le_refl _) _
        have BO := Blk.new w4 #[.func (.func g1) #[] c1f] 63
        have BC4a := BC4.below hb4a BC4.lt
        have k1 := BC4a.cell 1
        have o0 := BO.cell 0
        simp only [List.getElem?_toArray, List.getElem?_cons_zero, List.getElem?_cons_succ] at k1 o0
        have HREP := Lib.hid (repeat_calls g1 c1f m hm w4.heap.size 0 1 (w4.alloc (.cells #[.func (.func g1) #[] c1f] 63)) BO.lt o0)
        have hsz4 : (w4.alloc (.cells #[.func (.func g1) #[] c1f] 63)).heap.size = w4.heap.size + 1 := World.size_alloc ..
        have HX4 := Lib.hid (And.intro hb4a BC4a)
        clear hb4a o0 BC4a
        go_wp2_with fail
        refine HREP.out.mono ?_
        rintro e w5 ⟨R2, rfl, hR2, hblk2, hb⟩
        have hb45 : Below w4.heap.size w4 w5 := HX4.out.1.trans (hb.mono HX4.out.1.size)
        have HB5 := Lib.hid (HB4.out.trans (hb45.mono HB4.out.size))
        have HK5 := Lib.hid (HK4.out.trans (kp_of_below (A := A) hb45))
        have HR5 := Lib.hid (HR4.out.below hb45 hRlt)
        have HQ5 := Lib.hid hblk2
        have hR2lt := hblk2.lt
        have hw4R : w4.heap.size ≤ R2 := by omega
        have hRR : R < R2 := by omega
        have BC5 := Lib.hid (BC4.below hb45 BC4.lt)
        have hw45 := hb45.size
        clear hb hb45 hblk2 HREP HX4 BO k1 c1 c2 hR2 BC4 HB4 HR4 HK4
        go_wp2_with fail
        refine (maybe_calls (fun k => A k ∨ k = R ∨ k = R2) _ (.iter t) w5 (fun k hk => hk.elim (fun h => Nat.lt_of_lt_of_le (HA.out k h) HB5.out.size) (fun h => by omega)) (HONE.out.more HK5.out (fun x hx => hx.imp id (fun h => by omega)))).mono ?_
        rintro e w6 ⟨v6, rfl, hp, hb⟩
        have HM6 := Lib.hid hp
        have HB6 := Lib.hid (HB5.out.trans (hb.mono HB5.out.size))
        have HK6 := Lib.hid (HK5.out.trans (kp_of_below (A := A) hb))
        have HR6 := Lib.hid (HR5.out.below hb (by omega))
        have HOW := Lib.hid (own_rep (HQ5.out.below hb hR2lt) (by omega : w4.heap.size ≤ R2) hm)
        have hw56 := hb.size
        have HW46 : Hid (w4.heap.size ≤ w6.heap.size) := Lib.hid (by omega)
        have HSZ : Hid (Below w4.heap.size w6 w6) := Lib.hid (Below.refl _ _)
        obtain ⟨g6, c6f, rfl, -⟩ := hp
        clear hb HB5 HK5 HR5 HQ5
        go_wp2_with (at_builtin; refine wpList_append_lies _ rfl _ _ 84 rfl w4.heap.size 63 i0 .nilFunc 1 8 Tryd.underlying84 hinf hz0 hz1 hz2 rfl (by decide) (.slice (some ⟨R2, 0, none⟩) m m) m (List.replicate m (.func (.func g1) #[] c1f)) rfl (HOW.out.alloc _) ⟨w6.heap.size, 0, none⟩ 1 1 [.func (.func g6) #[] c6f] rfl rfl (Blk.new w6 #[.func (.func g6) #[] c6f] _).newsL (by simp [Value.oneCell']) (by decide) (by unfold maxLen; omega) (by omega) (by rw [World.size_alloc]; have := HW46.out; omega) (w6.heap.size + 1) (World.size_alloc ..) ?_; intro g7 cap7 w7 hown7 hgrow7 hat7 hlt7; have HO7 := Lib.hid hown7; have HG7 := Lib.hid (show World.grownBy _ w7 (some R2) from hgrow7); have HT7 := Lib.hid hat7; clear hown7 hgrow7 hat7 hlt7)
        have hk6a := HK6.out.trans (kp_of_below (A := A) ((Below.refl w6.heap.size w6).alloc (Nat.le_refl _) (.cells #[.func (.func g6) #[] c6f] 63)))
        have HK7 := Lib.hid (hk6a.grown HG7.out (fun k hk => by cases hk; exact .inr (by omega)))
        have hb6a := HB6.out.alloc HB6.out.size (.cells #[.func (.func g6) #[] c6f] 63)
        have HB7 := Lib.hid (hb6a.grown HG7.out hb6a.size (fun k hk => by cases hk; omega))
        have hkA : KpA (fun k => A k ∨ k = R ∨ k = R2) w6 w7 := (kp_of_below (A := fun k => A k ∨ k = R ∨ k = R2) ((Below.refl w6.heap.size w6).alloc (Nat.le_refl _) (.cells #[.func (.func g6) #[] c6f] 63))).grown HG7.out (fun k hk => by cases hk; exact .inl (.inr (.inr rfl)))
        have HR7 := Lib.hid ((HR6.out.alloc (.cells #[.func (.func g6) #[] c6f] 63)).kept HG7.out (by intro e; cases e; omega))
        have hA7 : ∀ k, (A k ∨ k = R) → k < w4.heap.size := fun k hk => hk.elim (fun h => by have := HA.out k h; omega) (fun h => by omega)
        have HF := OwF.rep_snoc (A := fun k => A k ∨ k = R) (HONE.out.more HK7.out (fun x hx => hx.imp id (fun h => by omega))) (HM6.out.more hkA (fun x hx => .inl (hx.imp id .inl))) HO7.out
        have hmap : List.replicate m (enc (TT.iter t)) ++ [enc (TT.maybe (.iter t))] = (List.replicate m (TT.iter t) ++ [TT.maybe (.iter t)]).map enc := by rw [List.map_append, List.map_replicate]; rfl
        rw [hmap] at HF
        obtain ⟨af, cf, eF, hpts⟩ := HF.pts hA7
        have hln : ((List.replicate m (TT.iter t) ++ [TT.maybe (.iter t)]).map enc).length = m + 1 := by simp
        rw [hln] at eF
        cases eF
        have hw67 := HK7.out.size
        have hw37 : w4.heap.size ≤ w7.heap.size := by have := hkA.size; omega
        clear hk6a hb6a hkA HB6 HK6 HR6 HOW
        refine (row_calls _ (fun a b => .maybe (.cat a b)) of1_ok (fun k => A k ∨ k = R) (List.replicate m (.iter t) ++ [.maybe (.iter t)]) (by simp) (by simp; omega) _ (m + 1) _ (by simp) w7 (fun k hk => Nat.lt_of_lt_of_le (hA7 k hk) hw37) hpts).mono ?_
        rintro e w8 ⟨v8, rfl, hp, hb⟩
        rw [lk_row, ← HLM.out] at hp
        have HP8 := Lib.hid hp
        have HB8 := Lib.hid (HB7.out.trans (hb.mono HB7.out.size))
        have HK8 := Lib.hid (HK7.out.trans (kp_of_below (A := A) hb))
        have HOW := Lib.hid (own_rep (HR7.out.below hb HR7.out.lt) (by omega : w.heap.size ≤ R) hs)
        obtain ⟨g8, c8f, rfl, -⟩ := hp
        clear hb HB7 HK7 HR7 hpts HF
        go_wp2_with (at_builtin; refine wpList_append_lies _ rfl _ _ 84 rfl w.heap.size 63 i0 .nilFunc 1 8 Tryd.underlying84 hinf hz0 hz1 hz2 rfl (by decide) (.slice (some ⟨R, 0, none⟩) s s) s (List.replicate s (.func (.func g1) #[] c1f)) rfl (HOW.out.alloc _) ⟨w8.heap.size, 0, none⟩ 1 1 [.func (.func g8) #[] c8f] rfl rfl (Blk.new w8 #[.func (.func g8) #[] c8f] _).newsL (by simp [Value.oneCell']) (by decide) (by unfold maxLen; omega) (by omega) (by rw [World.size_alloc]; have := HB8.out.size; omega) (w8.heap.size + 1) (World.size_alloc ..) ?_; intro g9 cap9 w9 hown9 hgrow9 hat9 hlt9; have HO9 := Lib.hid hown9; have HG9 := Lib.hid (show World.grownBy _ w9 (some R) from hgrow9); have HT9 := Lib.hid hat9; clear hown9 hgrow9 hat9 hlt9)
        have hk8a := HK8.out.trans (kp_of_below (A := A) ((Below.refl w8.heap.size w8).alloc (Nat.le_refl _) (.cells #[.func (.func g8) #[] c8f] 63)))
        have hk9 := hk8a.grown HG9.out (fun k hk => by cases hk; exact .inr (by omega))
        have hb8a := HB8.out.alloc HB8.out.size (.cells #[.func (.func g8) #[] c8f] 63)
        have HB9 := Lib.hid (hb8a.grown HG9.out hb8a.size (fun k hk => by cases hk; omega))
        have hkB : KpA (fun k => A k ∨ k = R) w8 w9 := (kp_of_below (A := fun k => A k ∨ k = R) ((Below.refl w8.heap.size w8).alloc (Nat.le_refl _) (.cells #[.func (.func g8) #[] c8f] 63))).grown HG9.out (fun k hk => by cases hk; exact .inl (.inr rfl))
        have HF := OwF.rep_snoc (A := A) (HONE.out.kp hk9) (HP8.out.more hkB (fun x hx => .inl (.inl hx))) HO9.out
        have hmap2 : List.replicate s (enc (TT.iter t)) ++ [enc (lkT (.iter t) l)] = (List.replicate s (TT.iter t) ++ [lkT (.iter t) l]).map enc := by rw [List.map_append, List.map_replicate]; rfl
        rw [hmap2] at HF
        obtain ⟨af, cf, eF, hpts⟩ := HF.pts HA.out
        have hln2 : ((List.replicate s (TT.iter t) ++ [lkT (.iter t) l]).map enc).length = s + 1 := by simp
        rw [hln2] at eF
        cases eF
        clear hk8a hk9 hb8a hkB
        refine (row_calls _ .cat cat_ok A (List.replicate s (.iter t) ++ [lkT (.iter t) l]) (by simp) (by simp; omega) _ (s + 1) _ (by simp) w9 (fun k hk => Nat.lt_of_lt_of_le (HA.out k hk) HB9.out.size) hpts).mono ?_
        rintro e w10 ⟨v10, rfl, hp, hb⟩
        have HP := Lib.hid hp
        have HB10 := Lib.hid (HB9.out.trans (hb.mono HB9.out.size))
        clear hp hb hpts
        go_wp2_with fail
        go_ret
        refine ⟨_, rfl, ?_, HB10.out⟩
        unfold ofC
        rw [if_neg h0, if_neg (by omega), if_pos hl0, List.append_nil]
        exact HP.out
    · obtain rfl : l = 0 := by omega
      have d1 : decide ((0 : Int) < ((0 : Nat) : Int)) = false := by decide
      have hst1 : (0 : Int) < (st : Int) := by omega
      go_wp2_with fail
      refine (star_calls (fun k => A k ∨ k = R) _ (.iter t) w4 (fun k hk => hk.elim (fun h => Nat.lt_of_lt_of_le (HA.out k h) HB4.out.size) (fun h => by omega)) (HONE.out.more HK4.out (fun x hx => hx.imp id (fun h => by omega)))).mono ?_
      rintro e w5 ⟨v5, rfl, hp, hb⟩
      have HS5 := Lib.hid hp
      have HB5 := Lib.hid (HB4.out.trans (hb.mono HB4.out.size))
      have HK5 := Lib.hid (HK4.out.trans (kp_of_below (A := A) hb))
      have HOW := Lib.hid (own_rep (HR4.out.below hb hRlt) (by omega : w.heap.size ≤ R) hs)
      have BC5 := BC4.below hb BC4.lt
      have c1 := (BC5.alloc (.cells #[v5] 63)).cell 1
      simp only [List.getElem?_toArray, List.getElem?_cons_zero, List.getElem?_cons_succ] at c1
      have BCA := BC5.alloc (.cells #[v5] 63)
      obtain ⟨g5, c5f, rfl, -⟩ := hp
      have hcw : ∀ W, (w5.alloc (.cells #[.func (.func g5) #[] c5f] 63)).grownBy W (some R) → W.cell? ⟨w.heap.size, 1, none⟩ = some (.int .i64 ((0 : Nat) : Int)) := fun W hW => by
        rw [(BCA.kept hW (by intro e; cases e; omega)).cell 1]
        rfl
      have HCW := Lib.hid hcw
      clear hb BC5 BCA c1 c2 HK4 HB4 HR4 hcw
      go_wp2_with (at_builtin; refine wpList_append_lies _ rfl _ _ 84 rfl w.heap.size 63 i0 .nilFunc 1 8 Tryd.underlying84 hinf hz0 hz1 hz2 rfl (by decide) (.slice (some ⟨R, 0, none⟩) s s) s (List.replicate s (.func (.func g1) #[] c1f)) rfl (HOW.out.alloc _) ⟨w5.heap.size, 0, none⟩ 1 1 [.func (.func g5) #[] c5f] rfl rfl (Blk.new w5 #[.func (.func g5) #[] c5f] _).newsL (by simp [Value.oneCell']) (by decide) (by unfold maxLen; omega) (by omega) (by rw [World.size_alloc]; have := HB5.out.size; omega) (w5.heap.size + 1) (World.size_alloc ..) ?_; intro g6 cap6 w6 hown6 hgrow6 hat6 hlt6; have HO6 := Lib.hid hown6; have HG6 := Lib.hid (show World.grownBy _ w6 (some R) from hgrow6); have HT6 := Lib.hid hat6; clear hown6 hgrow6 hat6 hlt6; have c1 := HCW.out w6 HG6.out)
      have hk5a := HK5.out.trans (kp_of_below (A := A) ((Below.refl w5.heap.size w5).alloc (Nat.le_refl _) (.cells #[.func (.func g5) #[] c5f] 63)))
      have hk6 := hk5a.grown HG6.out (fun k hk => by cases hk; exact .inr (by omega))
      have hb5a := HB5.out.alloc HB5.out.size (.cells #[.func (.func g5) #[] c5f] 63)
      have HB6 := Lib.hid (hb5a.grown HG6.out hb5a.size (fun k hk => by cases hk; omega))
      have hkA : KpA (fun k => A k ∨ k = R) w5 w6 := (kp_of_below (A := fun k => A k ∨ k = R) ((Below.refl w5.heap.size w5).alloc (Nat.le_refl _) (.cells #[.func (.func g5) #[] c5f] 63))).grown HG6.out (fun k hk => by cases hk; exact .inl (.inr rfl))
      have HF := OwF.rep_snoc (A := A) (HONE.out.kp hk6) (HS5.out.more hkA (fun x hx => .inl (.inl hx))) HO6.out
      have hmap : List.replicate s (enc (TT.iter t)) ++ [enc (TT.star (.iter t))] = (List.replicate s (TT.iter t) ++ [TT.star (.iter t)]).map enc := by rw [List.map_append, List.map_replicate]; rfl
      rw [hmap] at HF
      obtain ⟨af, cf, eF, hpts⟩ := HF.pts HA.out
      have hln : ((List.replicate s (TT.iter t) ++ [TT.star (.iter t)]).map enc).length = s + 1 := by simp
      rw [hln] at eF
      cases eF
      clear hk5a hk6 hb5a hkA
      refine (row_calls _ .cat cat_ok A (List.replicate s (.iter t) ++ [.star (.iter t)]) (by simp) (by simp; omega) _ (s + 1) _ (by simp) w6 (fun k hk => Nat.lt_of_lt_of_le (HA.out k hk) HB6.out.size) hpts).mono ?_
      rintro e w7 ⟨v7, rfl, hp, hb⟩
      have HP := Lib.hid hp
      have HB7 := Lib.hid (HB6.out.trans (hb.mono HB6.out.size))
      clear hp hb hpts
      go_wp2_with fail
      go_ret
      refine ⟨_, rfl, ?_, HB7.out⟩
      unfold ofC
      rw [if_neg h0, if_pos hst0, if_neg (by omega), List.append_nil]
      exact HP.out
end Go.Proofs.YtpncomjpmilbkaaDoor
